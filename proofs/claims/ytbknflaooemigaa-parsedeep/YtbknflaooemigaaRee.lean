/-
  Contracts of parse.reader's statement and block. Conditions: as said.
-/
import Derived.Test.YtbknflaooemigaaRed
namespace Go.Proofs.Ytbknflaooemigaa
open Go.RowKit Go.Sort
set_option linter.unusedVariables false
set_option linter.unusedSimpArgs false

set_option maxHeartbeats 2000000 in
theorem statement_r {w : World} {b tb to tc : Nat} {T : List Tok} {at_ d : Nat} {v : Value} {D : List Nd} {n : Nat} {ts : List Tok} (h : Sit w b tb to tc T at_ d v D n ts) {E B : Pt} {N : Nat} (hE : Does 10 n E) (hg : Gd 0 E) (hs : Sing E) (hB : Does 51 (n - 1) B) (gB : Gd 0 B) (hN : n ≤ N) : Calls Try.prog 77 #[pR b] w (Post b tb to tc T d D w ((stmtOf E B N) d ts)) := by
  have hbl := h.rd.lt
  cases q0 : sees [118, 97, 114] ts with
  | true =>
    have HS := Lib.hid h
    have Q0 := Lib.hid (fun w' hb => sees_any (h.rd.carry (w' := w') hb) h.next { data := #[118, 97, 114] } [118, 97, 114] (by rw [ByteArray.toList_eq]) true q0)
    simp only [stmtOf, iteP]
    rw [if_pos q0]
    have HCALL := Lib.hid (fun (w' : World) (hb : Below w.heap.size w w') => var_r (h.carry hb) q0 hE hg hN)
    clear h
    go_enter Try.func77, Try.ntmps77
    go_wp2_with fail
    refine (Q0.out _ (Below.refl _ _)).mono ?_
    rintro e w1 ⟨rfl, hb1⟩
    replace hb1 := Lib.hid hb1
    go_wp2_with fail
    refine (HCALL.out _ (hb1.out)).mono ?_
    rintro e wz ⟨rfl, hw⟩
    replace hw := Lib.hid hw
    go_wp2_with fail
    go_ret
    exact ⟨rfl, hw.out.back (Fr.only (Onl.below (hb1.out)) (by omega))⟩
  | false =>
    cases q1 : sees [105, 102] ts with
    | true =>
      have HS := Lib.hid h
      have Q0 := Lib.hid (fun w' hb => sees_any (h.rd.carry (w' := w') hb) h.next { data := #[118, 97, 114] } [118, 97, 114] (by rw [ByteArray.toList_eq]) false q0)
      have Q1 := Lib.hid (fun w' hb => sees_any (h.rd.carry (w' := w') hb) h.next { data := #[105, 102] } [105, 102] (by rw [ByteArray.toList_eq]) true q1)
      simp only [stmtOf, iteP]
      rw [if_neg (show ¬ sees [118, 97, 114] ts = true by rw [q0]; simp), if_pos q1]
      have HCALL := Lib.hid (fun (w' : World) (hb : Below w.heap.size w w') => (show Calls Try.prog 84 #[pR b, .int .u8 9, .slice (some ⟨w'.heap.size, 0, none⟩) 3 3] (w'.alloc (.cells #[Value.func (.func 10) #[] #[], Value.func (.func 51) #[] #[], Value.func (.func 85) #[] #[]] 37)) (Post b tb to tc T d D (w'.alloc (.cells #[Value.func (.func 10) #[] #[], Value.func (.func 51) #[] #[], Value.func (.func 85) #[] #[]] 37)) (wordedP 9 [E, B, elseP B] d ts)) from worded_r ((h.carry hb).carry (below_alloc w' _)) (by obtain ⟨t, l, rfl, hk, _⟩ := sees_cons q1; simp [hd]; omega) 9 [(10, E), (51, B), (85, elseP B)] (show FRow _ _ _ from heap_alloc_new w' _) (by have := (h.carry hb).rd.lt; omega) 3 3 rfl (by decide) (by
        intro q hq
        simp only [List.mem_cons, List.not_mem_nil, or_false] at hq
        rcases hq with rfl | rfl | rfl
        · exact ⟨(by intro args w; simp [go_sem]), hE.mono (by omega), hg⟩
        · exact ⟨(by intro args w; simp [go_sem]), hB, gB⟩
        · exact ⟨(by intro args w; simp [go_sem]), (fun w b tb to tc T at_ d v D ts h => else_r h (hB.mono (by omega))), gd_ite (fun d ts h F r e => (ga_after h gB F r e).mono (by omega)) gd_nothing⟩
        )))
      clear h
      go_enter Try.func77, Try.ntmps77
      go_wp2_with fail
      refine (Q0.out _ (Below.refl _ _)).mono ?_
      rintro e w1 ⟨rfl, hb1⟩
      replace hb1 := Lib.hid hb1
      go_wp2_with fail
      refine (Q1.out _ (hb1.out)).mono ?_
      rintro e w2 ⟨rfl, hb2⟩
      replace hb2 := Lib.hid (below_step hb1.out hb2)
      go_wp2_with fail
      refine (HCALL.out _ (hb2.out)).mono ?_
      rintro e wz ⟨rfl, hw⟩
      replace hw := Lib.hid hw
      go_wp2_with fail
      go_ret
      exact ⟨rfl, hw.out.back (Fr.only (Onl.below (below_step (hb2.out) (below_alloc _ _))) (by omega))⟩
    | false =>
      cases q2 : sees [119, 104, 105, 108, 101] ts with
      | true =>
        have HS := Lib.hid h
        have Q0 := Lib.hid (fun w' hb => sees_any (h.rd.carry (w' := w') hb) h.next { data := #[118, 97, 114] } [118, 97, 114] (by rw [ByteArray.toList_eq]) false q0)
        have Q1 := Lib.hid (fun w' hb => sees_any (h.rd.carry (w' := w') hb) h.next { data := #[105, 102] } [105, 102] (by rw [ByteArray.toList_eq]) false q1)
        have Q2 := Lib.hid (fun w' hb => sees_any (h.rd.carry (w' := w') hb) h.next { data := #[119, 104, 105, 108, 101] } [119, 104, 105, 108, 101] (by rw [ByteArray.toList_eq]) true q2)
        simp only [stmtOf, iteP]
        rw [if_neg (show ¬ sees [118, 97, 114] ts = true by rw [q0]; simp), if_neg (show ¬ sees [105, 102] ts = true by rw [q1]; simp), if_pos q2]
        have HCALL := Lib.hid (fun (w' : World) (hb : Below w.heap.size w w') => (show Calls Try.prog 84 #[pR b, .int .u8 10, .slice (some ⟨w'.heap.size, 0, none⟩) 2 2] (w'.alloc (.cells #[Value.func (.func 10) #[] #[], Value.func (.func 51) #[] #[]] 37)) (Post b tb to tc T d D (w'.alloc (.cells #[Value.func (.func 10) #[] #[], Value.func (.func 51) #[] #[]] 37)) (wordedP 10 [E, B] d ts)) from worded_r ((h.carry hb).carry (below_alloc w' _)) (by obtain ⟨t, l, rfl, hk, _⟩ := sees_cons q2; simp [hd]; omega) 10 [(10, E), (51, B)] (show FRow _ _ _ from heap_alloc_new w' _) (by have := (h.carry hb).rd.lt; omega) 2 2 rfl (by decide) (by
        intro q hq
        simp only [List.mem_cons, List.not_mem_nil, or_false] at hq
        rcases hq with rfl | rfl
        · exact ⟨(by intro args w; simp [go_sem]), hE.mono (by omega), hg⟩
        · exact ⟨(by intro args w; simp [go_sem]), hB, gB⟩
        )))
        clear h
        go_enter Try.func77, Try.ntmps77
        go_wp2_with fail
        refine (Q0.out _ (Below.refl _ _)).mono ?_
        rintro e w1 ⟨rfl, hb1⟩
        replace hb1 := Lib.hid hb1
        go_wp2_with fail
        refine (Q1.out _ (hb1.out)).mono ?_
        rintro e w2 ⟨rfl, hb2⟩
        replace hb2 := Lib.hid (below_step hb1.out hb2)
        go_wp2_with fail
        refine (Q2.out _ (hb2.out)).mono ?_
        rintro e w3 ⟨rfl, hb3⟩
        replace hb3 := Lib.hid (below_step hb2.out hb3)
        go_wp2_with fail
        refine (HCALL.out _ (hb3.out)).mono ?_
        rintro e wz ⟨rfl, hw⟩
        replace hw := Lib.hid hw
        go_wp2_with fail
        go_ret
        exact ⟨rfl, hw.out.back (Fr.only (Onl.below (below_step (hb3.out) (below_alloc _ _))) (by omega))⟩
      | false =>
        cases q3 : sees [114, 101, 116, 117, 114, 110] ts with
        | true =>
          have HS := Lib.hid h
          have Q0 := Lib.hid (fun w' hb => sees_any (h.rd.carry (w' := w') hb) h.next { data := #[118, 97, 114] } [118, 97, 114] (by rw [ByteArray.toList_eq]) false q0)
          have Q1 := Lib.hid (fun w' hb => sees_any (h.rd.carry (w' := w') hb) h.next { data := #[105, 102] } [105, 102] (by rw [ByteArray.toList_eq]) false q1)
          have Q2 := Lib.hid (fun w' hb => sees_any (h.rd.carry (w' := w') hb) h.next { data := #[119, 104, 105, 108, 101] } [119, 104, 105, 108, 101] (by rw [ByteArray.toList_eq]) false q2)
          have Q3 := Lib.hid (fun w' hb => sees_any (h.rd.carry (w' := w') hb) h.next { data := #[114, 101, 116, 117, 114, 110] } [114, 101, 116, 117, 114, 110] (by rw [ByteArray.toList_eq]) true q3)
          simp only [stmtOf, iteP]
          rw [if_neg (show ¬ sees [118, 97, 114] ts = true by rw [q0]; simp), if_neg (show ¬ sees [105, 102] ts = true by rw [q1]; simp), if_neg (show ¬ sees [119, 104, 105, 108, 101] ts = true by rw [q2]; simp), if_pos q3]
          have HCALL := Lib.hid (fun (w' : World) (hb : Below w.heap.size w w') => (show Calls Try.prog 84 #[pR b, .int .u8 11, .slice (some ⟨w'.heap.size, 0, none⟩) 2 2] (w'.alloc (.cells #[Value.func (.func 86) #[] #[], Value.func (.func 74) #[] #[]] 37)) (Post b tb to tc T d D (w'.alloc (.cells #[Value.func (.func 86) #[] #[], Value.func (.func 74) #[] #[]] 37)) (wordedP 11 [answerP E, take [59]] d ts)) from worded_r ((h.carry hb).carry (below_alloc w' _)) (by obtain ⟨t, l, rfl, hk, _⟩ := sees_cons q3; simp [hd]; omega) 11 [(86, answerP E), (74, take [59])] (show FRow _ _ _ from heap_alloc_new w' _) (by have := (h.carry hb).rd.lt; omega) 2 2 rfl (by decide) (by
        intro q hq
        simp only [List.mem_cons, List.not_mem_nil, or_false] at hq
        rcases hq with rfl | rfl
        · exact ⟨(by intro args w; simp [go_sem]), (fun w b tb to tc T at_ d v D ts h => answer_r h (hE.mono (by omega))), gd_ite (fun d ts _ => gd_nothing d ts) hg⟩
        · exact ⟨(by intro args w; simp [go_sem]), semi_does _, (gd_take [59]).mono (by omega)⟩
        )))
          clear h
          go_enter Try.func77, Try.ntmps77
          go_wp2_with fail
          refine (Q0.out _ (Below.refl _ _)).mono ?_
          rintro e w1 ⟨rfl, hb1⟩
          replace hb1 := Lib.hid hb1
          go_wp2_with fail
          refine (Q1.out _ (hb1.out)).mono ?_
          rintro e w2 ⟨rfl, hb2⟩
          replace hb2 := Lib.hid (below_step hb1.out hb2)
          go_wp2_with fail
          refine (Q2.out _ (hb2.out)).mono ?_
          rintro e w3 ⟨rfl, hb3⟩
          replace hb3 := Lib.hid (below_step hb2.out hb3)
          go_wp2_with fail
          refine (Q3.out _ (hb3.out)).mono ?_
          rintro e w4 ⟨rfl, hb4⟩
          replace hb4 := Lib.hid (below_step hb3.out hb4)
          go_wp2_with fail
          refine (HCALL.out _ (hb4.out)).mono ?_
          rintro e wz ⟨rfl, hw⟩
          replace hw := Lib.hid hw
          go_wp2_with fail
          go_ret
          exact ⟨rfl, hw.out.back (Fr.only (Onl.below (below_step (hb4.out) (below_alloc _ _))) (by omega))⟩
        | false =>
          cases q4 : sees [112, 114, 105, 110, 116] ts with
          | true =>
            have HS := Lib.hid h
            have Q0 := Lib.hid (fun w' hb => sees_any (h.rd.carry (w' := w') hb) h.next { data := #[118, 97, 114] } [118, 97, 114] (by rw [ByteArray.toList_eq]) false q0)
            have Q1 := Lib.hid (fun w' hb => sees_any (h.rd.carry (w' := w') hb) h.next { data := #[105, 102] } [105, 102] (by rw [ByteArray.toList_eq]) false q1)
            have Q2 := Lib.hid (fun w' hb => sees_any (h.rd.carry (w' := w') hb) h.next { data := #[119, 104, 105, 108, 101] } [119, 104, 105, 108, 101] (by rw [ByteArray.toList_eq]) false q2)
            have Q3 := Lib.hid (fun w' hb => sees_any (h.rd.carry (w' := w') hb) h.next { data := #[114, 101, 116, 117, 114, 110] } [114, 101, 116, 117, 114, 110] (by rw [ByteArray.toList_eq]) false q3)
            have Q4 := Lib.hid (fun w' hb => sees_any (h.rd.carry (w' := w') hb) h.next { data := #[112, 114, 105, 110, 116] } [112, 114, 105, 110, 116] (by rw [ByteArray.toList_eq]) true q4)
            simp only [stmtOf, iteP]
            rw [if_neg (show ¬ sees [118, 97, 114] ts = true by rw [q0]; simp), if_neg (show ¬ sees [105, 102] ts = true by rw [q1]; simp), if_neg (show ¬ sees [119, 104, 105, 108, 101] ts = true by rw [q2]; simp), if_neg (show ¬ sees [114, 101, 116, 117, 114, 110] ts = true by rw [q3]; simp), if_pos q4]
            have HCALL := Lib.hid (fun (w' : World) (hb : Below w.heap.size w w') => (show Calls Try.prog 84 #[pR b, .int .u8 12, .slice (some ⟨w'.heap.size, 0, none⟩) 2 2] (w'.alloc (.cells #[Value.func (.func 10) #[] #[], Value.func (.func 74) #[] #[]] 37)) (Post b tb to tc T d D (w'.alloc (.cells #[Value.func (.func 10) #[] #[], Value.func (.func 74) #[] #[]] 37)) (wordedP 12 [E, take [59]] d ts)) from worded_r ((h.carry hb).carry (below_alloc w' _)) (by obtain ⟨t, l, rfl, hk, _⟩ := sees_cons q4; simp [hd]; omega) 12 [(10, E), (74, take [59])] (show FRow _ _ _ from heap_alloc_new w' _) (by have := (h.carry hb).rd.lt; omega) 2 2 rfl (by decide) (by
        intro q hq
        simp only [List.mem_cons, List.not_mem_nil, or_false] at hq
        rcases hq with rfl | rfl
        · exact ⟨(by intro args w; simp [go_sem]), hE.mono (by omega), hg⟩
        · exact ⟨(by intro args w; simp [go_sem]), semi_does _, (gd_take [59]).mono (by omega)⟩
        )))
            clear h
            go_enter Try.func77, Try.ntmps77
            go_wp2_with fail
            refine (Q0.out _ (Below.refl _ _)).mono ?_
            rintro e w1 ⟨rfl, hb1⟩
            replace hb1 := Lib.hid hb1
            go_wp2_with fail
            refine (Q1.out _ (hb1.out)).mono ?_
            rintro e w2 ⟨rfl, hb2⟩
            replace hb2 := Lib.hid (below_step hb1.out hb2)
            go_wp2_with fail
            refine (Q2.out _ (hb2.out)).mono ?_
            rintro e w3 ⟨rfl, hb3⟩
            replace hb3 := Lib.hid (below_step hb2.out hb3)
            go_wp2_with fail
            refine (Q3.out _ (hb3.out)).mono ?_
            rintro e w4 ⟨rfl, hb4⟩
            replace hb4 := Lib.hid (below_step hb3.out hb4)
            go_wp2_with fail
            refine (Q4.out _ (hb4.out)).mono ?_
            rintro e w5 ⟨rfl, hb5⟩
            replace hb5 := Lib.hid (below_step hb4.out hb5)
            go_wp2_with fail
            refine (HCALL.out _ (hb5.out)).mono ?_
            rintro e wz ⟨rfl, hw⟩
            replace hw := Lib.hid hw
            go_wp2_with fail
            go_ret
            exact ⟨rfl, hw.out.back (Fr.only (Onl.below (below_step (hb5.out) (below_alloc _ _))) (by omega))⟩
          | false =>
            have HS := Lib.hid h
            have Q0 := Lib.hid (fun w' hb => sees_any (h.rd.carry (w' := w') hb) h.next { data := #[118, 97, 114] } [118, 97, 114] (by rw [ByteArray.toList_eq]) false q0)
            have Q1 := Lib.hid (fun w' hb => sees_any (h.rd.carry (w' := w') hb) h.next { data := #[105, 102] } [105, 102] (by rw [ByteArray.toList_eq]) false q1)
            have Q2 := Lib.hid (fun w' hb => sees_any (h.rd.carry (w' := w') hb) h.next { data := #[119, 104, 105, 108, 101] } [119, 104, 105, 108, 101] (by rw [ByteArray.toList_eq]) false q2)
            have Q3 := Lib.hid (fun w' hb => sees_any (h.rd.carry (w' := w') hb) h.next { data := #[114, 101, 116, 117, 114, 110] } [114, 101, 116, 117, 114, 110] (by rw [ByteArray.toList_eq]) false q3)
            have Q4 := Lib.hid (fun w' hb => sees_any (h.rd.carry (w' := w') hb) h.next { data := #[112, 114, 105, 110, 116] } [112, 114, 105, 110, 116] (by rw [ByteArray.toList_eq]) false q4)
            simp only [stmtOf, iteP]
            rw [if_neg (show ¬ sees [118, 97, 114] ts = true by rw [q0]; simp), if_neg (show ¬ sees [105, 102] ts = true by rw [q1]; simp), if_neg (show ¬ sees [119, 104, 105, 108, 101] ts = true by rw [q2]; simp), if_neg (show ¬ sees [114, 101, 116, 117, 114, 110] ts = true by rw [q3]; simp), if_neg (show ¬ sees [112, 114, 105, 110, 116] ts = true by rw [q4]; simp)]
            have HCALL := Lib.hid (fun (w' : World) (hb : Below w.heap.size w w') => set_r (h.carry hb) hE hg hs)
            clear h
            go_enter Try.func77, Try.ntmps77
            go_wp2_with fail
            refine (Q0.out _ (Below.refl _ _)).mono ?_
            rintro e w1 ⟨rfl, hb1⟩
            replace hb1 := Lib.hid hb1
            go_wp2_with fail
            refine (Q1.out _ (hb1.out)).mono ?_
            rintro e w2 ⟨rfl, hb2⟩
            replace hb2 := Lib.hid (below_step hb1.out hb2)
            go_wp2_with fail
            refine (Q2.out _ (hb2.out)).mono ?_
            rintro e w3 ⟨rfl, hb3⟩
            replace hb3 := Lib.hid (below_step hb2.out hb3)
            go_wp2_with fail
            refine (Q3.out _ (hb3.out)).mono ?_
            rintro e w4 ⟨rfl, hb4⟩
            replace hb4 := Lib.hid (below_step hb3.out hb4)
            go_wp2_with fail
            refine (Q4.out _ (hb4.out)).mono ?_
            rintro e w5 ⟨rfl, hb5⟩
            replace hb5 := Lib.hid (below_step hb4.out hb5)
            go_wp2_with fail
            refine (HCALL.out _ (hb5.out)).mono ?_
            rintro e wz ⟨rfl, hw⟩
            replace hw := Lib.hid hw
            go_wp2_with fail
            go_ret
            exact ⟨rfl, hw.out.back (Fr.only (Onl.below (hb5.out)) (by omega))⟩

theorem block_does {n m : Nat} (hp : Does 77 (n - 1) (stmtP m)) (hm : n ≤ m + 1) : Does 51 n (blockOf (stmtP m) m) := fun w b tb to tc T at_ d v D ts h =>
  block_r h (statements_does hp (gd_stmt m) (fun d ts F r e => one_stmt m e) m (by omega)) (gd_stmt m)
theorem stmt_does (n : Nat) : Does 77 n (stmtP n) := by
  induction n with
  | zero => intro w b tb to tc T at_ d v D ts h; exact (sit_pos h).elim
  | succ n ih =>
    intro w b tb to tc T at_ d v D ts h
    exact statement_r h (expr_does (n + 1)) (gd_expr (n + 1)) (sing_expr (n + 1)) (block_does (n := n) (ih.mono (by omega)) (by omega)) ((gd_block (gd_stmt n) n).mono (by omega)) (Nat.le_refl _)

end Go.Proofs.Ytbknflaooemigaa
