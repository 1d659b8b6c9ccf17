/-
  Contracts of parse.reader's deeper, within, until and listed: what is to be read is handed on. Conditions: as said.
-/
import Derived.Test.YtbknflaooemigaaRdd
namespace Go.Proofs.Ytbknflaooemigaa
open Go.RowKit Go.Sort
set_option linter.unusedVariables false

/-- A function value that reads as the grammar's part. -/
def Fn (u : Value) (n : Nat) (p : Pt) : Prop := ∃ f, u = .func (.func f) #[] #[] ∧ (∀ args w, (callFunc f args).run Try.prog w = .ok (.enter f args) w) ∧ Does f n p
theorem Does.mono {f : FuncId} {n m : Nat} {p : Pt} (h : Does f n p) (hm : m ≤ n) : Does f m p := fun _ _ _ _ _ _ _ _ _ _ _ s => h (s.up hm)
theorem Fn.mono {u : Value} {n m : Nat} {p : Pt} (h : Fn u n p) (hm : m ≤ n) : Fn u m p := by
  obtain ⟨f, h1, h2, h3⟩ := h
  exact ⟨f, h1, h2, h3.mono hm⟩

theorem deeper_any {w : World} {b tb to tc : Nat} {T : List Tok} {at_ d : Nat} {v : Value} {D : List Nd} {n : Nat} {ts : List Tok} (h : Sit w b tb to tc T at_ d v D n ts) (hk : (hd ts).kind ≠ 8) {u : Value} {p : Pt} (hf : Fn u (n - 1) p) :
    Calls Try.prog 60 #[pR b, u] w (Post b tb to tc T d D w (deeperP p d ts)) := by
  obtain ⟨f, rfl, eg, hdo⟩ := hf
  have hbl := h.rd.lt
  have hdp := h.dp
  by_cases h40 : d = 40
  · have HF := Lib.hid (fail_any h.rd h.next 6)
    have c2 := h.rd.c2
    have e40 : ((d : Int) == 40) = true := by rw [h40]; rfl
    unfold deeperP badAt
    rw [if_pos h40]
    clear h eg hdo hk h40
    go_enter Try.func60, Try.ntmps60
    go_wp2_with fail
    refine HF.out.mono ?_
    rintro e w1 ⟨rfl, h1, h2⟩
    replace h1 := Lib.hid h1
    replace h2 := Lib.hid h2
    go_wp2_with fail
    go_ret
    exact ⟨rfl, h1.out, Fr.only h2.out (by omega)⟩
  · have e40 : ((d : Int) == 40) = false := by rw [beq_eq_false_iff_ne]; omega
    have hlt : at_ < T.length := (List.getElem?_eq_some_iff.1 h.next).1
    have htn := h.rd.tn
    have hn : at_ < 1000000 := by omega
    obtain ⟨d1, hd1⟩ : ∃ d1, d + 1 = d1 := ⟨_, rfl⟩
    have hd2 : (d : Int) + 1 = d1 := by omega
    have hd3 : (d1 : Int) - 1 = d := by omega
    obtain ⟨a1, ha1⟩ : ∃ a1, at_ + 1 = a1 := ⟨_, rfl⟩
    have ha2 : (at_ : Int) + 1 = a1 := by omega
    have HS : Hid (Sit ((w.setCell ⟨b, 1, none⟩ (.int .i64 a1)).setCell ⟨b, 2, none⟩ (.int .i64 d1)) b tb to tc T a1 d1 v D (n - 1) ts.tail) := Lib.hid (by
      have h1 := (h.rd.bump a1).deep d1
      have h2 := h.tail (h.rd.bump (at_ + 1)) hk
      rw [ha1] at h2
      exact ⟨h1, h2.dr, h2.en, h2.ln, h2.rm, by omega⟩)
    have HD := Lib.hid (hdo HS.out)
    have HW : Hid (Onl b w ((w.setCell ⟨b, 1, none⟩ (.int .i64 a1)).setCell ⟨b, 2, none⟩ (.int .i64 d1))) := Lib.hid ((Onl.set _ _ _ _).trans (Onl.set _ _ _ _))
    have c1 := h.rd.c1
    have c2 := h.rd.c2
    have fz := h.rd.fz
    unfold deeperP
    rw [if_neg h40, hd1]
    obtain ⟨o, ho⟩ : ∃ o, p d1 ts.tail = o := ⟨_, rfl⟩
    rw [ho] at HD ⊢
    clear h hdo hk hlt htn ha1 h40 hd1 ho
    go_enter Try.func60, Try.ntmps60
    go_wp2_with fail
    refine HD.out.mono ?_
    rintro e w1 ⟨rfl, hp⟩
    cases o with
    | ok F r =>
      obtain ⟨⟨at', v', hdr, hr⟩, hfr⟩ := hp
      have k2 := hr.c2
      have kf := hr.fz
      replace hr := Lib.hid hr
      replace hfr := Lib.hid hfr
      replace hdr := Lib.hid hdr
      go_wp2_with fail
      go_ret
      refine ⟨rfl, ⟨at', v', hdr.out, ?_⟩, ((Fr.only HW.out (by omega)).trans hfr.out).trans (Fr.only (Onl.set _ _ _ _) (by have := hr.out.lt; omega))⟩
      exact hr.out.deep d
    | bad c l k =>
      obtain ⟨hr, hfr⟩ := hp
      obtain ⟨x, k2⟩ := hr.c2
      have kf := hr.fz
      replace hr := Lib.hid hr
      replace hfr := Lib.hid hfr
      go_wp2_with fail
      go_ret
      exact ⟨rfl, hr.out.deep _, ((Fr.only HW.out (by omega)).trans hfr.out).trans (Fr.only (Onl.set _ _ _ _) (by have := hr.out.lt; omega))⟩

theorem good_app (F : Fo) (o : Out) : (o.bind fun G r' => .ok (F.app G) r').good = o.good := by cases o <;> rfl
theorem PostW.app {w w1 w2 : World} {b tb to tc : Nat} {T : List Tok} {d : Nat} {D : List Nd} {F : Fo} {o : Out} (h : PostW b tb to tc T d (D ++ F.post) w1 o w2) (hf : Fr b w w1) : PostW b tb to tc T d D w (o.bind fun G r' => .ok (F.app G) r') w2 := by
  cases o with
  | ok G r =>
    obtain ⟨⟨at', v', h1, h2⟩, h3⟩ := h
    exact ⟨⟨at', v', h1, by rw [post_app, ← List.append_assoc]; exact h2⟩, hf.trans h3⟩
  | bad c l k => exact ⟨h.1, hf.trans h.2⟩

theorem within_r {w : World} {b tb to tc : Nat} {T : List Tok} {at_ d : Nat} {v : Value} {D : List Nd} {n : Nat} {ts : List Tok} (h : Sit w b tb to tc T at_ d v D n ts) (so sc : ByteArray) (x y : List UInt8) (hx : so.toList = x) (hy : sc.toList = y) {u : Value} {p : Pt} (hf : Fn u (n - 1) p) (hp : Gd 0 p) :
    Calls Try.prog 45 #[pR b, .string so, .string sc, u] w (Post b tb to tc T d D w (withinP x y p d ts)) := by
  have hbl := h.rd.lt
  obtain ⟨q, hq⟩ : ∃ q, sees x ts = q := ⟨_, rfl⟩
  have H := Lib.hid (sees_any h.rd h.next so x hx q hq)
  cases q with
  | false =>
    have HN := Lib.hid (fun w' hb => fail_any (w := w') (h.rd.carry hb) h.next 5)
    unfold withinP badAt
    rw [if_neg (by rw [hq]; simp)]
    clear h hf
    go_enter Try.func45, Try.ntmps45
    go_wp2_with fail
    refine H.out.mono ?_
    rintro e w1 ⟨rfl, hb⟩
    replace hb := Lib.hid hb
    go_wp2_with fail
    refine (HN.out _ hb.out).mono ?_
    rintro e w2 ⟨rfl, h1, h2⟩
    replace h1 := Lib.hid h1
    replace h2 := Lib.hid h2
    go_wp2_with fail
    go_ret
    exact ⟨rfl, h1.out, Fr.only ((Onl.below hb.out).trans h2.out) (by omega)⟩
  | true =>
    have hk : (hd ts).kind ≠ 8 := by
      obtain ⟨t, l, rfl, hk, _⟩ := sees_cons hq
      simp [hd]; omega
    have HD := Lib.hid (fun w' hb => deeper_any (h.carry (w' := w') hb) hk hf)
    have HL := Lib.hid (fun F r e => ga_deeper (d := d) hq hp F r e)
    have HS := Lib.hid h
    unfold withinP seqP
    rw [if_pos hq]
    obtain ⟨o, ho⟩ : ∃ o, deeperP p d ts = o := ⟨_, rfl⟩
    rw [ho] at HD HL ⊢
    obtain ⟨f, rfl, _, _⟩ := hf
    clear h ho
    go_enter Try.func45, Try.ntmps45
    go_wp2_with fail
    refine H.out.mono ?_
    rintro e w1 ⟨rfl, hb⟩
    replace hb := Lib.hid hb
    go_wp2_with fail
    refine (HD.out _ hb.out).mono ?_
    rintro e w2 ⟨rfl, hw⟩
    replace hw := Lib.hid hw
    cases o with
    | bad c l k =>
      go_wp2_with fail
      go_ret
      exact ⟨rfl, hw.out.1, (Fr.only (Onl.below hb.out) (by omega)).trans hw.out.2⟩
    | ok F r =>
      obtain ⟨⟨at', v', hdr, hrd⟩, hfr⟩ := hw.out
      have HT := Lib.hid (take_any (HS.out.then (HL.out F r rfl) hdr hrd) sc y hy)
      replace hfr := Lib.hid hfr
      clear hdr hrd hw HD HL
      go_wp2_with fail
      refine HT.out.mono ?_
      rintro e w3 ⟨rfl, hw⟩
      replace hw := Lib.hid hw
      go_wp2_with fail
      go_ret
      exact ⟨by rw [show (Out.bind (Out.ok F r) fun F r => (take y d r).bind fun G r' => Out.ok (F.app G) r').good = (take y d r).good from good_app F _]; rfl, PostW.app hw.out ((Fr.only (Onl.below hb.out) (by omega)).trans hfr.out)⟩

/-- Behind some of what is read one behind the other. -/
def ULoop (w : World) (b tb to tc : Nat) (T : List Tok) (d : Nat) (D : List Nd) (n : Nat) (L : Nat → Pt) (R : Out) (wr : World) : Prop :=
  ∃ (at_ : Nat) (v : Value) (A : Fo) (ts : List Tok) (m : Nat), Sit wr b tb to tc T at_ d v (D ++ A.post) n ts ∧ ((L m d ts).bind fun G r' => .ok (A.app G) r') = R ∧ ts.length ≤ m ∧ Fr b w wr
def left (T : List Tok) (b : Nat) (wr : World) : Nat := T.length - (intOf ((wr.cell? ⟨b, 1, none⟩).getD undef)).toNat

theorem left_at {w : World} {b tb to tc : Nat} {T : List Tok} {at_ d : Nat} {v : Value} {D : List Nd} {n : Nat} {ts : List Tok} (h : Sit w b tb to tc T at_ d v D n ts) : left T b w = ts.length := by
  unfold left
  rw [h.rd.c1, ← h.dr]
  simp [intOf]

theorem until_r {w : World} {b tb to tc : Nat} {T : List Tok} {at_ d : Nat} {v : Value} {D : List Nd} {n : Nat} {ts : List Tok} (h : Sit w b tb to tc T at_ d v D n ts) (s : ByteArray) (x : List UInt8) (hx : s.toList = x) {u : Value} {p : Pt} (hf : Fn u n p) (hg : Gd 0 p) (h1 : ∀ d ts F r, p d ts = .ok F r → 1 ≤ F.cnt) (N : Nat) (hN : n ≤ N) :
    Calls Try.prog 61 #[pR b, .string s, u] w (Post b tb to tc T d D w (untilP x p N d ts)) := by
  obtain ⟨f, rfl, eg, hdo⟩ := hf
  obtain ⟨R, hR⟩ : ∃ R, untilP x p N d ts = R := ⟨_, rfl⟩
  rw [hR]
  have hbl := h.rd.lt
  have HS : Hid (ULoop w b tb to tc T d D n (untilP x p) R w) := Lib.hid ⟨at_, v, .nil, ts, N, by simpa [Fo.post] using h, by rw [← hR]; cases untilP x p N d ts <;> rfl, by have := h.ln; omega, Fr.refl _ _⟩
  replace hdo := Lib.hid hdo
  replace hg := Lib.hid hg
  replace h1 := Lib.hid h1
  replace hx := Lib.hid hx
  clear h hR
  go_enter Try.func61, Try.ntmps61
  go_wp2_with fail
  go_loopw [6] (fun v wr => v = .bool false ∧ ULoop w b tb to tc T d D n (untilP x p) R wr) (fun _ wr => left T b wr)
  case atStart => exact ⟨rfl, HS.out⟩
  case round =>
    obtain ⟨rfl, at1, v1, A, ts1, m, hs, hRR, hm, hfr⟩ := hrel
    obtain ⟨t, l, hts⟩ := hs.en.ne
    obtain ⟨m, rfl⟩ : ∃ m', m = m' + 1 := ⟨m - 1, by rw [hts] at hm; simp at hm; omega⟩
    obtain ⟨q, hq⟩ : ∃ q, sees x ts1 = q := ⟨_, rfl⟩
    have H := Lib.hid (sees_any hs.rd hs.next s x hx.out q hq)
    cases q with
    | true =>
      have HR : Hid (R = .ok A ts1) := Lib.hid (by rw [← hRR]; unfold untilP; rw [if_pos hq]; simp [Out.bind, app_nil])
      replace hs := Lib.hid hs
      replace hfr := Lib.hid hfr
      clear hRR hts hq hm
      go_wp2_with fail
      refine H.out.mono ?_
      rintro e w1 ⟨rfl, hb⟩
      replace hb := Lib.hid hb
      go_wp2_with fail
      go_ret
      rw [HR.out]
      exact ⟨rfl, ⟨at1, v1, hs.out.dr, hs.out.rd.carry hb.out⟩, hfr.out.trans (Fr.only (Onl.below hb.out) (by have := hs.out.rd.lt; omega))⟩
    | false =>
      have HD := Lib.hid (fun w' hb => hdo.out (hs.carry (w' := w') hb))
      obtain ⟨o, ho⟩ : ∃ o, p d ts1 = o := ⟨_, rfl⟩
      have HRR : Hid ((o.bind fun F r => (untilP x p m d r).bind fun G r' => .ok (F.app G) r').bind (fun G r' => .ok (A.app G) r') = R) := Lib.hid (by rw [← hRR, ← ho]; conv => rhs; unfold untilP; rw [if_neg (by rw [hq]; simp)])
      rw [ho] at HD
      have HL := Lib.hid (fun F r e => hg.out d ts1 F r (ho.trans e))
      have H1 := Lib.hid (fun F r e => h1.out d ts1 F r (ho.trans e))
      replace hs := Lib.hid hs
      replace hfr := Lib.hid hfr
      clear hRR hts hq ho
      go_wp2_with fail
      refine H.out.mono ?_
      rintro e w1 ⟨rfl, hb⟩
      replace hb := Lib.hid hb
      go_wp2_with fail
      refine (HD.out _ hb.out).mono ?_
      rintro e w2 ⟨rfl, hw⟩
      cases o with
      | bad c l k =>
        replace hw := Lib.hid hw
        go_wp2_with fail
        go_ret
        rw [← HRR.out]
        exact ⟨rfl, hw.out.1, (hfr.out.trans (Fr.only (Onl.below hb.out) (by have := hs.out.rd.lt; omega))).trans hw.out.2⟩
      | ok F r =>
        obtain ⟨⟨at', v', hdr, hrd⟩, hf2⟩ := hw
        have hS2 := Lib.hid (hs.out.then (s := 0) (HL.out F r rfl) hdr hrd)
        replace hf2 := Lib.hid hf2
        clear hdr hrd
        go_wp2_with fail
        go_roundw
        case rel =>
          refine ⟨rfl, at', v', A.app F, r, m, by rw [post_app, ← List.append_assoc]; exact hS2.out, ?_, ?_, (hfr.out.trans (Fr.only (Onl.below hb.out) (by have := hs.out.rd.lt; omega))).trans hf2.out⟩
          · rw [← HRR.out]
            show _ = (((untilP x p m d r).bind fun G r' => .ok (F.app G) r').bind fun G r' => .ok (A.app G) r')
            cases untilP x p m d r with
            | ok G r' => simp [Out.bind, app_assoc]
            | bad c l k => rfl
          · have := (HL.out F r rfl).1
            have := H1.out F r rfl
            omega
        case measure =>
          rw [left_at hs.out, left_at hS2.out]
          have := (HL.out F r rfl).1
          have := H1.out F r rfl
          omega

end Go.Proofs.Ytbknflaooemigaa
