/-
  Contracts of parse.reader's joined, chain and pair: operands with signs between them. Conditions: as said.
-/
import Derived.Test.YtbknflaooemigaaRdi
import Derived.Deep.RegionHeld3
namespace Go.Proofs.Ytbknflaooemigaa
open Go.RowKit Go.Sort
set_option linter.unusedVariables false
set_option linter.unusedSimpArgs false

/-- Where a node begins, in memory. -/
def SAt (w : World) (L kd ln cl : Nat) (nm : Int) (X : ByteArray) (fr : Nat) : Prop := w.heap[L]? = some (.cells #[.int .u8 kd, .int .i64 ln, .int .i64 cl, .int .i64 nm, .string X, .int .i64 fr] 50 (0, 0))
theorem SAt.below {w w' : World} {L kd ln cl : Nat} {nm : Int} {X : ByteArray} {fr : Nat} (h : SAt w L kd ln cl nm X fr) (hb : Below w.heap.size w w') : SAt w' L kd ln cl nm X fr := (hb.block L (lt_of_heap h)).trans h
theorem SAt.fr {w w' : World} {b L kd ln cl : Nat} {nm : Int} {X : ByteArray} {fr : Nat} (h : SAt w L kd ln cl nm X fr) (hb : Fr b w w') (hg : L ≠ b) : SAt w' L kd ln cl nm X fr := hb.cells _ _ _ _ h hg (by decide)
theorem SAt.made (w : World) (kd ln cl : Nat) (nm : Int) (X : ByteArray) (fr : Nat) : SAt (w.alloc (.cells #[.int .u8 kd, .int .i64 ln, .int .i64 cl, .int .i64 nm, .string X, .int .i64 fr] 50)) w.heap.size kd ln cl nm X fr := heap_alloc_new w _
structure SCells (w : World) (L kd ln cl : Nat) (nm : Int) (X : ByteArray) (fr : Nat) : Prop where
  c0 : w.cell? ⟨L, 0, none⟩ = some (.int .u8 kd)
  c1 : w.cell? ⟨L, 1, none⟩ = some (.int .i64 ln)
  c2 : w.cell? ⟨L, 2, none⟩ = some (.int .i64 cl)
  c3 : w.cell? ⟨L, 3, none⟩ = some (.int .i64 nm)
  c4 : w.cell? ⟨L, 4, none⟩ = some (.string X)
  c5 : w.cell? ⟨L, 5, none⟩ = some (.int .i64 fr)
theorem SAt.at {w : World} {L kd ln cl : Nat} {nm : Int} {X : ByteArray} {fr : Nat} (h : SAt w L kd ln cl nm X fr) : SCells w L kd ln cl nm X fr :=
  ⟨by rw [cell_of_row w L 0 _ 50 (0, 0) h]; rfl, by rw [cell_of_row w L 1 _ 50 (0, 0) h]; rfl, by rw [cell_of_row w L 2 _ 50 (0, 0) h]; rfl, by rw [cell_of_row w L 3 _ 50 (0, 0) h]; rfl, by rw [cell_of_row w L 4 _ 50 (0, 0) h]; rfl, by rw [cell_of_row w L 5 _ 50 (0, 0) h]; rfl⟩

theorem below_alloc_drew (w : World) : Below w.heap.size w w.drew := (Below.refl _ _).drew

set_option maxHeartbeats 2000000 in
theorem joined_r {w : World} {b tb to tc : Nat} {T : List Tok} {at_ d : Nat} {v : Value} {D : List Nd} {F : Fo} {n : Nat} {ts : List Tok} (h : Sit w b tb to tc T at_ d v (D ++ F.post) n ts) (hk : (hd ts).kind ≠ 8) {u : Value} {p : Pt} (hf : Fn u (n - 1) p) (hg : Gd 0 p) (dn : Nat) (hdn : D.length = dn) :
    Calls Try.prog 26 #[pR b, .int .i64 dn, u] w (Post b tb to tc T d D w (joinedP p F d ts)) := by
  obtain ⟨f, rfl, eg, hdo⟩ := hf
  obtain ⟨⟨kd, ln, cl, nm, tx⟩, ht⟩ : ∃ t, hd ts = t := ⟨_, rfl⟩
  have hbl := h.rd.lt
  have hlt : at_ < T.length := (List.getElem?_eq_some_iff.1 h.next).1
  have htn := h.rd.tn
  have hn : at_ < 1000000 := by omega
  have H := Lib.hid (h.next_at ht w (Below.refl _ _))
  obtain ⟨X, hX⟩ : ∃ X, bs tx = X := ⟨_, rfl⟩
  rw [hX] at H
  obtain ⟨m, hm⟩ : ∃ m, opOf tx = m := ⟨_, rfl⟩
  have HO := Lib.hid (fun w => op_any X tx (by rw [← hX, bs_toList]) w)
  rw [hm] at HO
  unfold joinedP
  obtain ⟨o, ho⟩ : ∃ o, p d ts.tail = o := ⟨_, rfl⟩
  have HD : Hid (∀ w', Sit w' b tb to tc T (at_ + 1) d v (D ++ F.post) (n - 1) ts.tail → Calls Try.prog f #[pR b] w' (Post b tb to tc T d (D ++ F.post) w' (p d ts.tail))) := Lib.hid fun w' h => hdo h
  have HL : Hid (∀ G r, o = .ok G r → D.length + F.cnt + G.cnt + r.length + 1 ≤ 500000) := Lib.hid fun G r e => by
    have h1 := (hg d ts.tail G r (ho.trans e)).1
    have h2 := h.rm
    obtain ⟨t, l, rfl⟩ := h.en.ne
    rw [List.length_append, post_len] at h2
    simp at h1 h2 ⊢
    omega
  rw [ho] at HD ⊢
  rw [ht, hm]
  have hs := Lib.hid h
  replace hdn := Lib.hid hdn
  replace hk := Lib.hid hk
  clear h ho hdo htn hlt ht hg hm
  cases o with
  | bad c l k =>
    go_enter Try.func26, Try.ntmps26
    go_wp2_with fail
    refine H.out.mono ?_
    rintro e w1 ⟨rfl, hb⟩
    have c1 := (hs.out.rd.carry hb).c1
    have fz := (hs.out.rd.carry hb).fz
    have hbl1 := (hs.out.rd.carry hb).lt
    have HT := (hs.out.carry hb).tail ((hs.out.carry hb).rd.bump (at_ + 1)) hk.out
    rw [show ((at_ + 1 : Nat) : Int) = (at_ : Int) + 1 by omega] at HT
    replace HT := Lib.hid HT
    replace hb := Lib.hid hb
    go_wp2_with fail
    obtain ⟨W, hW⟩ : ∃ W, W = (w1.setCell ⟨b, 1, none⟩ (.int .i64 ((at_ : Int) + 1))).alloc (.cells #[.int .u8 kd, .int .i64 ln, .int .i64 cl, .int .i64 nm, .string X, .int .i64 dn] 50) := ⟨_, rfl⟩
    rw [← hW]
    have HW : Hid (Sit W.drew b tb to tc T (at_ + 1) d v (D ++ F.post) (n - 1) ts.tail) := Lib.hid (by rw [hW]; exact HT.out.carry (below_alloc _ _).drew)
    have HF : Hid (Fr b w W.drew) := Lib.hid (by rw [hW]; exact ((Fr.only (Onl.below hb.out) (by omega)).trans (Fr.only (Onl.set _ _ _ _) (by omega))).trans (Fr.only (Onl.below (below_alloc _ _).drew) (by simp; omega)))
    have HM : Hid (SAt W.drew w1.heap.size kd ln cl nm X dn) := Lib.hid (by rw [hW]; have := (SAt.made (w1.setCell ⟨b, 1, none⟩ (.int .i64 ((at_ : Int) + 1))) kd ln cl nm X dn).below (below_alloc_drew _); simpa using this)
    have HC := Lib.hid (HD.out W.drew HW.out)
    clear hW HT HD c1 fz
    replace HC : Hid (Calls Try.prog f #[pR b] W.drew fun e w' => e = .returned (.bool false) ∧ (Rf w' b c l k ∧ Fr b W.drew w')) := Lib.hid HC.out
    refine wp_region_noPanic (wp_region_held (S := fun w' => W.heap.size ≤ w'.heap.size) (by kernel_rfl) ?_)
    have hS : W.heap.size ≤ W.drew.heap.size := Nat.le_refl _
    refine wpAnyH_take (i := 0) (v := .func (.func f) #[] #[]) rfl (by kernel_rfl) (by kernel_rfl) (by kernel_rfl) (fun _ _ _ h => h) (Or.inl ⟨by rfl, fun w hSw => by go_simp⟩) hS ?_
    simp only [Act.put, List.getElem_toArray, List.getElem_cons_succ, List.getElem_cons_zero, List.setIfInBounds_toArray, List.set_cons_zero, List.set_cons_succ]
    refine wpAnyH_take (i := 1) (v := pR b) rfl (by kernel_rfl) (by kernel_rfl) (by kernel_rfl) (fun _ _ _ h => h) (Or.inl ⟨by rfl, fun w hSw => by go_simp⟩) hS ?_
    simp only [Act.put, List.getElem_toArray, List.getElem_cons_succ, List.getElem_cons_zero, List.setIfInBounds_toArray, List.set_cons_zero, List.set_cons_succ]
    refine wpAnyH_all (rs := [2]) (by kernel_rfl) (by simp) ?_
    intro i hi
    obtain rfl : i = 2 := by simpa using hi
    refine wpOp_of rfl rfl ?_
    unfold Oper.wp
    go_simp
    refine HC.out.mono ?_
    rintro e w2 ⟨rfl, hw⟩
    replace hw := Lib.hid hw
    have hS2 : W.heap.size ≤ w2.heap.size := hw.out.2.size
    refine ⟨hS2, ?_⟩
    refine wpAnyH_take (i := 3) (v := .bool false) rfl (by kernel_rfl) (by kernel_rfl) (by kernel_rfl) (fun _ _ _ h => h) (Or.inl ⟨by rfl, fun w hSw => by go_simp⟩) hS2 ?_
    simp only [Act.put, List.getElem_toArray, List.getElem_cons_succ, List.getElem_cons_zero, List.setIfInBounds_toArray, List.set_cons_zero, List.set_cons_succ]
    refine wpAnyH_take (i := 4) (v := undef) rfl (by kernel_rfl) (by kernel_rfl) (by kernel_rfl) (fun _ _ _ h => h) (Or.inr ⟨by rfl, rfl⟩) hS2 ?_
    simp only [Act.put, List.getElem_toArray, List.getElem_cons_succ, List.getElem_cons_zero, List.setIfInBounds_toArray, List.set_cons_zero, List.set_cons_succ]
    refine wpAnyH_take (i := 5) (v := undef) rfl (by kernel_rfl) (by kernel_rfl) (by kernel_rfl) (fun _ _ _ h => h) (Or.inr ⟨by rfl, rfl⟩) hS2 ?_
    simp only [Act.put, List.getElem_toArray, List.getElem_cons_succ, List.getElem_cons_zero, List.setIfInBounds_toArray, List.set_cons_zero, List.set_cons_succ]
    refine wpAnyH_take (i := 6) (v := undef) rfl (by kernel_rfl) (by kernel_rfl) (by kernel_rfl) (fun _ _ _ h => h) (Or.inr ⟨by rfl, rfl⟩) hS2 ?_
    simp only [Act.put, List.getElem_toArray, List.getElem_cons_succ, List.getElem_cons_zero, List.setIfInBounds_toArray, List.set_cons_zero, List.set_cons_succ]
    refine wpAnyH_take (i := 7) (v := undef) rfl (by kernel_rfl) (by kernel_rfl) (by kernel_rfl) (fun _ _ _ h => h) (Or.inr ⟨by rfl, rfl⟩) hS2 ?_
    simp only [Act.put, List.getElem_toArray, List.getElem_cons_succ, List.getElem_cons_zero, List.setIfInBounds_toArray, List.set_cons_zero, List.set_cons_succ]
    refine wpAnyH_take (i := 8) (v := undef) rfl (by kernel_rfl) (by kernel_rfl) (by kernel_rfl) (fun _ _ _ h => h) (Or.inr ⟨by rfl, rfl⟩) hS2 ?_
    simp only [Act.put, List.getElem_toArray, List.getElem_cons_succ, List.getElem_cons_zero, List.setIfInBounds_toArray, List.set_cons_zero, List.set_cons_succ]
    refine wpAnyH_take (i := 9) (v := undef) rfl (by kernel_rfl) (by kernel_rfl) (by kernel_rfl) (fun _ _ _ h => h) (Or.inr ⟨by rfl, rfl⟩) hS2 ?_
    simp only [Act.put, List.getElem_toArray, List.getElem_cons_succ, List.getElem_cons_zero, List.setIfInBounds_toArray, List.set_cons_zero, List.set_cons_succ]
    refine wpAnyH_take (i := 10) (v := undef) rfl (by kernel_rfl) (by kernel_rfl) (by kernel_rfl) (fun _ _ _ h => h) (Or.inr ⟨by rfl, rfl⟩) hS2 ?_
    simp only [Act.put, List.getElem_toArray, List.getElem_cons_succ, List.getElem_cons_zero, List.setIfInBounds_toArray, List.set_cons_zero, List.set_cons_succ]
    refine wpAnyH_take (i := 11) (v := undef) rfl (by kernel_rfl) (by kernel_rfl) (by kernel_rfl) (fun _ _ _ h => h) (Or.inr ⟨by rfl, rfl⟩) hS2 ?_
    simp only [Act.put, List.getElem_toArray, List.getElem_cons_succ, List.getElem_cons_zero, List.setIfInBounds_toArray, List.set_cons_zero, List.set_cons_succ]
    refine wpAnyH_take (i := 12) (v := .bool false) rfl (by kernel_rfl) (by kernel_rfl) (by kernel_rfl) (fun _ _ _ h => h) (Or.inl ⟨by rfl, fun w hSw => by go_simp⟩) hS2 ?_
    simp only [Act.put, List.getElem_toArray, List.getElem_cons_succ, List.getElem_cons_zero, List.setIfInBounds_toArray, List.set_cons_zero, List.set_cons_succ]
    refine wpAnyH_take (i := 13) (v := .bool false) rfl (by kernel_rfl) (by kernel_rfl) (by kernel_rfl) (fun _ _ _ h => h) (Or.inl ⟨by rfl, fun w hSw => by go_simp⟩) hS2 ?_
    refine wpAnyH_done (by kernel_rfl) ?_ _
    refine NoPanic.normal ?_
    simp only [Act.put, List.getElem_toArray, List.getElem_cons_succ, List.getElem_cons_zero, List.setIfInBounds_toArray, List.set_cons_zero, List.set_cons_succ]
    go_wp2_with fail
    go_ret
    exact ⟨rfl, hw.out.1, HF.out.trans hw.out.2⟩
  | ok G r =>
    go_enter Try.func26, Try.ntmps26
    go_wp2_with fail
    refine H.out.mono ?_
    rintro e w1 ⟨rfl, hb⟩
    have c1 := (hs.out.rd.carry hb).c1
    have fz := (hs.out.rd.carry hb).fz
    have hbl1 := (hs.out.rd.carry hb).lt
    have HT := (hs.out.carry hb).tail ((hs.out.carry hb).rd.bump (at_ + 1)) hk.out
    rw [show ((at_ + 1 : Nat) : Int) = (at_ : Int) + 1 by omega] at HT
    replace HT := Lib.hid HT
    replace hb := Lib.hid hb
    go_wp2_with fail
    obtain ⟨W, hW⟩ : ∃ W, W = (w1.setCell ⟨b, 1, none⟩ (.int .i64 ((at_ : Int) + 1))).alloc (.cells #[.int .u8 kd, .int .i64 ln, .int .i64 cl, .int .i64 nm, .string X, .int .i64 dn] 50) := ⟨_, rfl⟩
    rw [← hW]
    have HW : Hid (Sit W.drew b tb to tc T (at_ + 1) d v (D ++ F.post) (n - 1) ts.tail) := Lib.hid (by rw [hW]; exact HT.out.carry (below_alloc _ _).drew)
    have HF : Hid (Fr b w W.drew) := Lib.hid (by rw [hW]; exact ((Fr.only (Onl.below hb.out) (by omega)).trans (Fr.only (Onl.set _ _ _ _) (by omega))).trans (Fr.only (Onl.below (below_alloc _ _).drew) (by simp; omega)))
    have HM : Hid (SAt W.drew w1.heap.size kd ln cl nm X dn) := Lib.hid (by rw [hW]; have := (SAt.made (w1.setCell ⟨b, 1, none⟩ (.int .i64 ((at_ : Int) + 1))) kd ln cl nm X dn).below (below_alloc_drew _); simpa using this)
    have HC := Lib.hid (HD.out W.drew HW.out)
    clear hW HT HD c1 fz
    go_region_with (first
      | (go_at_call 40; refine (HO.out _).mono ?_; rintro e w3 ⟨rfl, rfl⟩)
      | (go_at_call 19; refine HA.out.mono ?_; rintro e w4 ⟨rfl, ha⟩)
      | (refine HC.out.mono ?_; rintro e w2 ⟨rfl, hw⟩; obtain ⟨⟨at', v', hdr, hrd⟩, hf2⟩ := hw; obtain ⟨m0, m1, m2, m3, m4, m5⟩ := (HM.out.fr hf2 (by omega)).at; have HA := Lib.hid (add_any hrd kd ln cl dn nm X 31 0 0 0 m { data := #[] } (F.cnt + G.cnt) (by rw [List.length_append, List.length_append, post_len, post_len, hdn.out]; omega) (by have := HL.out G r rfl; rw [List.length_append, List.length_append, post_len, post_len]; omega)); replace hf2 := Lib.hid hf2; replace hdr := Lib.hid hdr; clear hrd))
    all_goals (go_wp2_with fail; go_ret; obtain ⟨⟨v2, hr2⟩, hf3⟩ := ha; exact ⟨rfl, ⟨at', v2, hdr.out, by rw [show ((Fo.cons ⟨31, ln, cl, m, []⟩ (F.app G) Fo.nil).post) = (F.post ++ G.post) ++ [⟨31, ln, cl, (F.cnt + G.cnt : Nat), m, bs []⟩] by simp [Fo.post, post_app, Inf.nd, cnt_app], ← List.append_assoc, ← List.append_assoc]; exact hr2⟩, (HF.out.trans hf2.out).trans hf3⟩)

end Go.Proofs.Ytbknflaooemigaa
