/-
  What a reader's part does: it goes over tokens and makes nodes as the grammar says, or leaves the fault. Contracts of parse.reader's take, takeKind, semicolon, nothing, end, here, add. Conditions: as said.
-/
import Derived.Test.YtbknflaooemigaaPg
import Derived.Test.YtbknflaooemigaaRda
namespace Go.Proofs.Ytbknflaooemigaa
open Go.RowKit
set_option linter.unusedVariables false

/-- A reader that is to read some tokens. -/
structure Sit (w : World) (b tb to tc : Nat) (T : List Tok) (at_ : Nat) (d : Nat) (v : Value) (D : List Nd) (n : Nat) (ts : List Tok) : Prop where
  rd : Rd w b tb to tc T at_ d v D
  dr : T.drop at_ = ts
  en : Ends ts
  ln : ts.length ≤ n
  rm : D.length + ts.length ≤ 500000
  dp : d ≤ 40

def Out.good : Out → Bool
  | .ok _ _ => true
  | .bad _ _ _ => false
def PostW (b tb to tc : Nat) (T : List Tok) (d : Nat) (D : List Nd) (w : World) (o : Out) (w' : World) : Prop :=
  match o with
  | .ok F r => (∃ at' v', T.drop at' = r ∧ Rd w' b tb to tc T at' d v' (D ++ F.post)) ∧ Fr b w w'
  | .bad c l k => Rf w' b c l k ∧ Fr b w w'
def Post (b tb to tc : Nat) (T : List Tok) (d : Nat) (D : List Nd) (w : World) (o : Out) (e : Ending) (w' : World) : Prop := e = .returned (.bool o.good) ∧ PostW b tb to tc T d D w o w'

/-- A function of the program that reads as the grammar's part, up to so many tokens. -/
def Does (f : FuncId) (n : Nat) (p : Pt) : Prop := ∀ ⦃w : World⦄ ⦃b tb to tc : Nat⦄ ⦃T : List Tok⦄ ⦃at_ d : Nat⦄ ⦃v : Value⦄ ⦃D : List Nd⦄ ⦃ts : List Tok⦄, Sit w b tb to tc T at_ d v D n ts → Calls Try.prog f #[pR b] w (Post b tb to tc T d D w (p d ts))

section
variable {w w' : World} {b tb to tc : Nat} {T : List Tok} {at_ d : Nat} {v : Value} {D : List Nd} {n : Nat} {ts : List Tok}

theorem Sit.carry (h : Sit w b tb to tc T at_ d v D n ts) (hb : Below w.heap.size w w') : Sit w' b tb to tc T at_ d v D n ts := ⟨h.rd.carry hb, h.dr, h.en, h.ln, h.rm, h.dp⟩
theorem Sit.up (h : Sit w b tb to tc T at_ d v D n ts) {m : Nat} (hm : n ≤ m) : Sit w b tb to tc T at_ d v D m ts := ⟨h.rd, h.dr, h.en, by have := h.ln; omega, h.rm, h.dp⟩
theorem Sit.next (h : Sit w b tb to tc T at_ d v D n ts) : T[at_]? = some (hd ts) := by
  obtain ⟨t, l, rfl⟩ := h.en.ne
  have := h.dr
  have h2 := congrArg (fun l => l[0]?) this
  simpa [hd] using h2
theorem Sit.tail (h : Sit w b tb to tc T at_ d v D n ts) {w' : World} (hr : Rd w' b tb to tc T (at_ + 1) d v D) (hk : (hd ts).kind ≠ 8) : Sit w' b tb to tc T (at_ + 1) d v D (n - 1) ts.tail := by
  obtain ⟨t, l, rfl⟩ := h.en.ne
  have hn := h.ln
  have hm := h.rm
  simp at hn hm
  exact ⟨hr, by rw [← List.drop_drop, h.dr]; rfl, h.en.tl hk, by simp; omega, by simp; omega, h.dp⟩
/-- Behind a part. -/
theorem Sit.then (h : Sit w b tb to tc T at_ d v D n ts) {s : Nat} {F : Fo} {r : List Tok} (hl : Lft (F.cnt + s) ts r) {at' : Nat} {v' : Value} {w' : World} (hd' : T.drop at' = r) (hr : Rd w' b tb to tc T at' d v' (D ++ F.post)) : Sit w' b tb to tc T at' d v' (D ++ F.post) (n - s) r := by
  have h1 := hl.1
  have h2 := h.ln
  have h3 := h.rm
  exact ⟨hr, hd', hl.2.1 h.en, by omega, by rw [List.length_append, post_len]; omega, h.dp⟩
theorem Sit.next_at (h : Sit w b tb to tc T at_ d v D n ts) {kd ln cl : Nat} {nm : Int} {tx : List UInt8} (ht : hd ts = ⟨kd, ln, cl, nm, tx⟩) (w' : World) (hb : Below w.heap.size w w') : Calls Try.prog 17 #[pR b] w' fun e w'' => e = .returned (.agg #[.int .u8 kd, .int .i64 ln, .int .i64 cl, .int .i64 nm, .string (bs tx)]) ∧ Below w'.heap.size w' w'' := by
  have := next_any (h.rd.carry hb) h.next
  rw [ht] at this
  exact this
theorem PostW.back {w0 : World} {o : Out} (h : PostW b tb to tc T d D w o w') (hf : Fr b w0 w) : PostW b tb to tc T d D w0 o w' := by
  cases o with
  | ok F r => exact ⟨h.1, hf.trans h.2⟩
  | bad c l k => exact ⟨h.1, hf.trans h.2⟩
end

theorem take_any {w : World} {b tb to tc : Nat} {T : List Tok} {at_ d : Nat} {v : Value} {D : List Nd} {n : Nat} {ts : List Tok} (h : Sit w b tb to tc T at_ d v D n ts) (s : ByteArray) (x : List UInt8) (hx : s.toList = x) :
    Calls Try.prog 47 #[pR b, .string s] w (Post b tb to tc T d D w (take x d ts)) := by
  obtain ⟨q, hq⟩ : ∃ q, sees x ts = q := ⟨_, rfl⟩
  have H := Lib.hid (sees_any h.rd h.next s x hx q hq)
  have HY := Lib.hid (fun w' hb => pass_yes (w := w') (h.rd.carry hb) h.next)
  have HN := Lib.hid (fun w' hb => pass_no (w := w') (h.rd.carry hb) h.next)
  have hbl := h.rd.lt
  have h' := Lib.hid h
  replace hq := Lib.hid hq
  clear h hx
  go_enter Try.func47, Try.ntmps47
  go_wp2_with fail
  refine H.out.mono ?_
  rintro e w1 ⟨rfl, hb⟩
  replace hb := Lib.hid hb
  cases q with
  | true =>
    go_wp2_with fail
    refine (HY.out _ hb.out).mono ?_
    rintro e w2 ⟨rfl, h1, h2⟩
    replace h1 := Lib.hid h1
    replace h2 := Lib.hid h2
    go_wp2_with fail
    go_ret
    unfold take passP
    rw [if_pos hq.out]
    obtain ⟨t, l, rfl, hk, _⟩ := sees_cons hq.out
    refine ⟨rfl, ⟨at_ + 1, v, ?_, by simpa [Fo.post] using h1.out⟩, Fr.only ((Onl.below hb.out).trans h2.out) (by omega)⟩
    rw [← List.drop_drop, h'.out.dr]; rfl
  | false =>
    go_wp2_with fail
    refine (HN.out _ hb.out).mono ?_
    rintro e w2 ⟨rfl, h1, h2⟩
    replace h1 := Lib.hid h1
    replace h2 := Lib.hid h2
    go_wp2_with fail
    go_ret
    unfold take passP
    rw [if_neg (by rw [hq.out]; simp)]
    exact ⟨rfl, h1.out, Fr.only ((Onl.below hb.out).trans h2.out) (by omega)⟩

theorem kind_any {w : World} {b tb to tc : Nat} {T : List Tok} {at_ d : Nat} {v : Value} {D : List Nd} {n : Nat} {ts : List Tok} (h : Sit w b tb to tc T at_ d v D n ts) (k : Nat) (hk : k < 8) :
    Calls Try.prog 44 #[pR b, .int .u8 k] w (Post b tb to tc T d D w (kindP k d ts)) := by
  have HY := Lib.hid (fun w' hb => pass_yes (w := w') (h.rd.carry hb) h.next)
  have HN := Lib.hid (fun w' hb => pass_no (w := w') (h.rd.carry hb) h.next)
  have hbl := h.rd.lt
  have h' := Lib.hid h
  obtain ⟨⟨kd, ln, cl, nm, tx⟩, ht⟩ : ∃ t, hd ts = t := ⟨_, rfl⟩
  have H := Lib.hid (h.next_at ht)
  have hF := tokF0 kd ln cl nm (bs tx)
  by_cases hq : kd = k
  · have e1 : ((kd : Int) == (k : Int)) = true := by rw [hq]; simp
    replace hq := Lib.hid hq
    replace ht := Lib.hid ht
    clear h
    go_enter Try.func44, Try.ntmps44
    go_wp2_with fail
    refine (H.out _ (Below.refl _ _)).mono ?_
    rintro e w1 ⟨rfl, hb⟩
    replace hb := Lib.hid hb
    go_wp2_with fail
    refine (HY.out _ hb.out).mono ?_
    rintro e w2 ⟨rfl, h1, h2⟩
    replace h1 := Lib.hid h1
    replace h2 := Lib.hid h2
    go_wp2_with fail
    go_ret
    unfold kindP passP
    rw [if_pos (by show decide ((hd ts).kind = k) = true; rw [ht.out]; simpa using hq.out)]
    obtain ⟨t, l, rfl⟩ := h'.out.en.ne
    refine ⟨rfl, ⟨at_ + 1, v, ?_, by simpa [Fo.post] using h1.out⟩, Fr.only ((Onl.below hb.out).trans h2.out) (by omega)⟩
    rw [← List.drop_drop, h'.out.dr]; rfl
  · have e1 : ((kd : Int) == (k : Int)) = false := by rw [beq_eq_false_iff_ne]; omega
    replace hq := Lib.hid hq
    replace ht := Lib.hid ht
    clear h
    go_enter Try.func44, Try.ntmps44
    go_wp2_with fail
    refine (H.out _ (Below.refl _ _)).mono ?_
    rintro e w1 ⟨rfl, hb⟩
    replace hb := Lib.hid hb
    go_wp2_with fail
    refine (HN.out _ hb.out).mono ?_
    rintro e w2 ⟨rfl, h1, h2⟩
    replace h1 := Lib.hid h1
    replace h2 := Lib.hid h2
    go_wp2_with fail
    go_ret
    unfold kindP passP
    rw [if_neg (by show ¬ decide ((hd ts).kind = k) = true; rw [ht.out]; simpa using hq.out)]
    exact ⟨rfl, h1.out, Fr.only ((Onl.below hb.out).trans h2.out) (by omega)⟩

theorem semi_does (n : Nat) : Does 74 n (take [59]) := by
  intro w b tb to tc T at_ d v D ts h
  have H := Lib.hid (take_any h { data := #[59] } [59] (by rw [ByteArray.toList_eq]))
  clear h
  go_enter Try.func74, Try.ntmps74
  go_wp2_with fail
  refine H.out.mono ?_
  rintro e w1 ⟨rfl, hp⟩
  replace hp := Lib.hid hp
  go_wp2_with fail
  go_ret
  exact ⟨rfl, hp.out⟩

theorem nothing_does (n : Nat) : Does 96 n nothingP := by
  intro w b tb to tc T at_ d v D ts h
  replace h := Lib.hid h
  go_enter Try.func96, Try.ntmps96
  go_wp2_with fail
  go_ret
  exact ⟨rfl, ⟨at_, v, h.out.dr, by simpa [Fo.post] using h.out.rd⟩, Fr.refl _ _⟩

end Go.Proofs.Ytbknflaooemigaa
