/-
 Contracts and plain facts on the way to PrettyBack. Conditions: as each says.
-/
import Derived.OwnWalk
import Derived.Laws.BytesArg
import Derived.Test.YtoaplbljflhheaaGreatBaj
import Derived.Test.YtoaplbljflhheaaGreatBab
import Derived.Test.YtoaplbljflhheaaGreatBap
set_option maxHeartbeats 40000000
set_option maxRecDepth 100000
set_option linter.unusedVariables false
set_option linter.unusedSimpArgs false
namespace Go.Proofs.YtoaplbljflhheaaGreat
open _root_.Go.Proofs.Tryz
section
open Go.RowKit
theorem b6g (c l : UInt8) (h1 : ltr c = (l, true)) (B : Nat) (v : Value) (xs : List UInt8) (w : World) (ho : Hid (Own w B v xs)) (hB : B <= w.heap.size) (hn : xs.length <= 1000000) :
  Calls prog 184 #[v, byt c] w fun e w' => ∃ v', e = .returned v' ∧ Own w' B v' (xs ++ [92, l]) ∧ Below B w w' := by
 have HL := zz (fun w => Ky c w);rw [h1] at HL;clear h1;go_enter func184, ntmps184;go_wp2_with fail;refine (HL.out _).mono ?_;rintro e w1 ⟨rfl, rfl⟩;go_wp2_with (at_builtin; refine Cd rfl _ _ rfl B v xs [92, l] 2 rfl rfl rfl rfl ho.out hB (by omega) ?_; intro v2 w2 ho2 hb2; replace ho2 := zz ho2; replace hb2 := zz hb2);go_ret;exact ⟨_, rfl, ho2.out, hb2.out⟩
theorem a6r (c : UInt8) (h1 : ltr c = (0, false)) (h2 : wth c = true) (B : Nat) (v : Value) (xs : List UInt8) (w : World) (ho : Hid (Own w B v xs)) (hB : B <= w.heap.size) (hn : xs.length <= 1000000) :
  Calls prog 184 #[v, byt c] w fun e w' => ∃ v', e = .returned v' ∧ Own w' B v' (xs ++ [c]) ∧ Below B w w' := by
 have HL := zz (fun w => Ky c w);have HW := zz (fun w => Kp c w);rw [h1] at HL;rw [h2] at HW;clear h1 h2;go_enter func184, ntmps184;go_wp2_with fail;refine (HL.out _).mono ?_;rintro e w1 ⟨rfl, rfl⟩;go_wp2_with fail;refine (HW.out _).mono ?_;rintro e w1 ⟨rfl, rfl⟩;go_wp2_with (at_builtin; refine Cd rfl _ _ rfl B v xs [c] 1 rfl rfl rfl rfl ho.out hB (by omega) ?_; intro v2 w2 ho2 hb2; replace ho2 := zz ho2; replace hb2 := zz hb2);go_ret;exact ⟨_, rfl, ho2.out, hb2.out⟩
abbrev dgs : ByteArray := { data := #[48, 49, 50, 51, 52, 53, 54, 55, 56, 57, 97, 98, 99, 100, 101, 102] }
theorem a91 : ∀ n : Fin 16, (dgs[n.val]'(n.isLt)) = hx n.val := by decide
theorem a23 (p : Nat) (h : p < 16) (w : World) : (Instr.index 9 (.string dgs) (.int .u8 p)).run prog w = .ok (byt (hx p)) w := by
 rw [run_index_string w 9 dgs .u8 p underlying9];have h1 : (p : Int) < dgs.size := by show (p : Int) < (16 : Nat); omega
 rw [<- a91 ⟨p, h⟩];simp [h1]
theorem c38 : ∀ n : Fin 256, bits BinOp.and IntKind.u8 (n.val : Int) 15 = ((n.val % 16 : Nat) : Int) := by decide +kernel
theorem b6f (c : UInt8) (h1 : ltr c = (0, false)) (h2 : wth c = false) (B : Nat) (v : Value) (xs : List UInt8) (w : World) (ho : Hid (Own w B v xs)) (hB : B <= w.heap.size) (hn : xs.length <= 1000000) :
  Calls prog 184 #[v, byt c] w fun e w' => ∃ v', e = .returned v' ∧ Own w' B v' (xs ++ [92, 120, hx (c.toNat / 16), hx (c.toNat % 16)]) ∧ Below B w w' := by
 have HL := zz (fun w => Ky c w);have HW := zz (fun w => Kp c w);rw [h1] at HL;rw [h2] at HW;clear h1 h2;have hc := c.toNat_lt;obtain ⟨p, hp⟩ : ∃ p, c.toNat / 16 = p := ⟨_, rfl⟩;obtain ⟨q, hq⟩ : ∃ q, c.toNat % 16 = q := ⟨_, rfl⟩;have hp' : (c.toNat : Int) / 16 = p := by omega
 have hq' : bits BinOp.and IntKind.u8 (c.toNat : Int) 15 = q := by rw [<- hq]; exact c38 ⟨c.toNat, hc⟩
 have hp2 : p < 16 := by omega
 have hq2 : q < 16 := by omega
 have HP := a23 p hp2;have HQ := a23 q hq2;rw [hp, hq];clear hp hq hc;go_enter func184, ntmps184;go_wp2_with fail;refine (HL.out _).mono ?_;rintro e w1 ⟨rfl, rfl⟩;go_wp2_with fail;refine (HW.out _).mono ?_;rintro e w1 ⟨rfl, rfl⟩;go_wp2_with fail;refine J9 7 _ (Obj.cells #[byt 92, byt 120, byt (hx p), byt (hx q)] 5) (fun b => .slice (some ⟨b, 0, none⟩) 4 4) (fun a => a.eval (.tmp 26) = byt (hx p) ∧ a.eval (.tmp 29) = byt (hx q)) (Tk [byt 92, byt 120, byt (hx p), byt (hx q)]) (by kernel_rfl) (by kernel_rfl) rfl ?ha ?al (fun b w w' h1 h2 => h1.carry h2) (fun w' h => Tk.made w' rfl) ?go
 case ha =>
  intro i o a v hi ho hw h
  match i, hi with
  | 0, _ => cases ho; simpa [go_sem] using h
  | 1, _ => cases ho; simpa [go_sem] using h
  | 2, _ => cases ho; simpa [go_sem] using h
  | 3, _ => exact (c2c hw (by kernel_rfl)).elim
  | 4, _ => cases ho; simpa [go_sem] using h
  | 5, _ => cases ho; simpa [go_sem] using h
  | 6, _ => exact (c2c hw (by kernel_rfl)).elim
 case al =>
  intro a w K hA h;refine Bw rfl rfl ?_;obtain ⟨h1, h2⟩ := hA;simp [go_sem] at h1 h2;go_simp;exact h
 case go =>
  simp only [List.take_succ_cons, List.take_zero, List.drop_succ_cons, List.drop_zero]
  repeat (refine Be (fun K hK => ?_); go_simp; refine hK _ ?_; clear hK K)
  refine B8 ⟨⟨by simp [go_sem], by simp [go_sem]⟩, ?_⟩;intro b W hb hl;replace ho := zz (Fx ho.out hb);replace hl := zz hl;have hB2 := Nat.le_trans hB hb.size;replace hb := zz (hb.mono hB);go_wp2_with (at_builtin; go_loud (refine Lp rfl _ _ rfl B v xs [92, 120, hx p, hx q] 4 b rfl rfl rfl hl.out ho.out hB2 (by omega) ?_; intro v2 w2 ho2 hb2; replace ho2 := zz ho2; replace hb2 := zz hb2));go_ret;exact ⟨_, rfl, ho2.out, hb.out.trans hb2.out⟩
theorem b6h (c : UInt8) (B : Nat) (v : Value) (xs : List UInt8) (w : World) (ho : Own w B v xs) (hB : B <= w.heap.size) (hn : xs.length <= 1000000) :
  Calls prog 184 #[v, byt c] w fun e w' => ∃ v', e = .returned v' ∧ Own w' B v' (xs ++ esc c) ∧ Below B w w' := by
 rcases b79 c with ⟨l, h1, h3⟩ | ⟨h1, h2, h3⟩ | ⟨h1, h2, h3⟩
 ·rw [h3]; exact b6g c l h1 B v xs w (zz ho) hB hn
 ·rw [h3]; exact a6r c h1 h2 B v xs w (zz ho) hB hn
 ·rw [h3]; exact b6f c h1 h2 B v xs w (zz ho) hB hn
end
end Go.Proofs.YtoaplbljflhheaaGreat
