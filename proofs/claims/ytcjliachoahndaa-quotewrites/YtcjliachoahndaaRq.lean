/-
  Contracts of the document's hex and Quote. Conditions: texts of at most 100000 bytes.
-/
import Derived.Test.YtcjliachoahndaaQuote
import Derived.Lib.AppendStr
namespace Go.Proofs.Ytcjliachoahndaa
open Go.RowKit
set_option linter.unusedVariables false

theorem dgs_cut : ∀ n : Fin 16, (dgs.extract n.val (n.val + 1)).data = (bs [hx n.val]).data := by decide

theorem hex_any (p : Nat) (h : p < 16) (w : World) : Calls Try.prog 16 #[.int .i64 p] w fun e w' => e = .returned (.string (bs [hx p])) ∧ w = w' := by
  have H := Lib.hid (show dgs.extract p (p + 1) = bs [hx p] from ByteArray.ext (dgs_cut ⟨p, h⟩))
  obtain ⟨q, hq⟩ : ∃ q, p + 1 = q := ⟨_, rfl⟩
  have hq' : (p : Int) + 1 = q := by omega
  have h1 : p ≤ q := by omega
  have h2 : q ≤ 16 := by omega
  rw [hq] at H
  clear hq
  go_enter Try.func16, Try.ntmps16
  go_wp2
  go_ret
  exact ⟨congrArg (fun x => Ending.returned (Value.string x)) H.out, rfl⟩

theorem wpList_apps {ops : Array Oper} {rest : List Oper} {o : Oper} {a : Act} {Q : Exit → Act → World → Prop} {w : World} (hgd : o.guard = none) (s x : Operand)
    (ho : o.op = .call { callee := .builtin .append, args := #[s, x], argTypes := #[34, 9] }) (B : Nat) (v : Value) (l m : List UInt8) (hs : a.eval s = v)
    (hx : a.eval x = .string (bs m)) (hown : Own w B v l) (hB : B ≤ w.heap.size) (hl : l.length + m.length ≤ 100000000)
    (h : ∀ v' w', Own w' B v' (l ++ m) → Below B w w' → wpList Try.prog ops Q rest (a.put o.dst v') w') : wpList Try.prog ops Q (o :: rest) a w := by
  obtain ⟨i0, hi0, hz0, hz1, hz2⟩ := info_parts Try.info5
  have hown' : w.ownsRow B 5 1 v l.length (l.map byt) := hown
  refine Lib.wpList_append_own_string _ hgd s x 34 9 ho B 5 i0 Try.underlying34 Try.underlying9 hi0 hz0 hz1 hz2 v l.length (l.map byt) hs hown' (bs m) hx ?_ ?_ hB ?_
  · rw [bs_size]; unfold maxLen; omega
  · rw [bs_size]; omega
  · intro v' w' h1 h2 _
    exact h v' w' (own_more (m := m) h1 (bs_size m).symm (by simp [Lib.strCells, bs_list])) ((Below.refl B w).grown h2 hB fun r hr => (hown'.lt r hr).1)

theorem own_lit {w : World} {B : Nat} {news : Array Value} (m : List UInt8) (hm : news.toList = m.map byt) (hB : B ≤ w.heap.size) (k : Nat) (hk : m.length = k) (hk2 : k ≤ 100) : Own (w.alloc (.cells news 5)) B (.slice (some ⟨w.heap.size, 0, none⟩) k k) m := by
  subst hk
  have := World.ownsRow_lit (base := B) (e := 5) (size := 1) w news m.length hB (by unfold maxLen; omega) (by rw [← Array.length_toList, hm]; simp)
  rw [hm] at this
  exact this

def QRel (s : ByteArray) (w : World) (v i : Value) (wr : World) : Prop :=
  ∃ k : Nat, k ≤ s.size ∧ i = .int .i64 k ∧ Own wr w.heap.size v (34 :: body (s.data.toList.take k)) ∧ Below w.heap.size w wr

theorem QRel.step {s : ByteArray} {w wr w1 : World} {v' : Value} {k : Nat} {m : List UInt8} (h : k < s.size) (hm : esc s[k] = m) (ho : Own w1 w.heap.size v' (34 :: body (s.data.toList.take k) ++ m)) (hb : Below w.heap.size w wr) (hb1 : Below w.heap.size wr w1) :
    QRel s w v' (.int .i64 ((k : Int) + 1)) w1 := by
  refine ⟨k + 1, h, by go_num, ?_, hb.trans hb1⟩
  rw [body_take s k h, hm]
  exact ho

set_option maxHeartbeats 2000000 in
theorem rquote_any (s : ByteArray) (w : World) (hs : s.size ≤ 100000) : Calls Try.prog 10 #[.string s] w fun e w' => e = .returned (.string (bs (lit s.data.toList))) ∧ Below w.heap.size w w' := by
  go_enter Try.func10, Try.ntmps10
  go_wp2
  go_loopw [3, 4] (fun v i wr => QRel s w v i wr) (fun _ i _ => s.size - (intOf i).toNat)
  case atStart => exact ⟨0, Nat.zero_le _, rfl, own_lit [34] rfl (Nat.le_refl _) 1 rfl (by decide), below_alloc _ _⟩
  case round =>
    obtain ⟨k, hk, rfl, ho, hb⟩ := hrel
    have hz := body_le s k hk hs
    have hbs := hb.size
    by_cases hlt : k < s.size
    · obtain ⟨l, hl⟩ : ∃ l, 34 :: body (s.data.toList.take k) = l := ⟨_, rfl⟩
      have hll : l.length ≤ 400001 := by rw [← hl]; simp; omega
      rw [hl] at ho
      have hst := Lib.hid (fun m (hm : esc s[k] = m) w1 v' (h1 : Own w1 w.heap.size v' (l ++ m)) h2 => QRel.step hlt hm (hl ▸ h1) hb h2)
      replace ho := Lib.hid ho
      replace hb := Lib.hid hb
      clear hz hl
      by_cases h34 : s[k] = 34
      case pos =>
        have HM := Lib.hid (show esc s[k] = [92, s[k]] by rw [h34]; rfl)
        have e1 : ((s[k].toNat : Int) == 34) = true := by rw [h34]; rfl
        clear h34
        go_wp2_with (at_builtin; refine wpList_app rfl _ _ rfl w.heap.size u3 l [92, s[k]] 2 rfl rfl rfl rfl ho.out hbs (by omega) ?_; intro v2 w2 ho2 hb2; replace ho2 := Lib.hid ho2; replace hb2 := Lib.hid hb2)
        go_roundw
        case rel => exact hst.out _ HM.out _ _ ho2.out hb2.out
        case measure => simp [intOf]; omega
      have e1 : ((s[k].toNat : Int) == 34) = false := byte_ne (n := 34) (by decide) h34
      by_cases h92 : s[k] = 92
      case pos =>
        have HM := Lib.hid (show esc s[k] = [92, s[k]] by rw [h92]; rfl)
        have e2 : ((s[k].toNat : Int) == 92) = true := by rw [h92]; rfl
        clear h34 h92
        go_wp2_with (at_builtin; refine wpList_app rfl _ _ rfl w.heap.size u3 l [92, s[k]] 2 rfl rfl rfl rfl ho.out hbs (by omega) ?_; intro v2 w2 ho2 hb2; replace ho2 := Lib.hid ho2; replace hb2 := Lib.hid hb2)
        go_roundw
        case rel => exact hst.out _ HM.out _ _ ho2.out hb2.out
        case measure => simp [intOf]; omega
      have e2 : ((s[k].toNat : Int) == 92) = false := byte_ne (n := 92) (by decide) h92
      by_cases h10 : s[k] = 10
      case pos =>
        have HM := Lib.hid (show esc s[k] = [92, 110] by rw [h10]; rfl)
        have e3 : ((s[k].toNat : Int) == 10) = true := by rw [h10]; rfl
        clear h34 h92 h10
        go_wp2_with (at_builtin; refine wpList_app rfl _ _ rfl w.heap.size u3 l [92, 110] 2 rfl rfl rfl rfl ho.out hbs (by omega) ?_; intro v2 w2 ho2 hb2; replace ho2 := Lib.hid ho2; replace hb2 := Lib.hid hb2)
        go_roundw
        case rel => exact hst.out _ HM.out _ _ ho2.out hb2.out
        case measure => simp [intOf]; omega
      have e3 : ((s[k].toNat : Int) == 10) = false := byte_ne (n := 10) (by decide) h10
      by_cases h9 : s[k] = 9
      case pos =>
        have HM := Lib.hid (show esc s[k] = [92, 116] by rw [h9]; rfl)
        have e4 : ((s[k].toNat : Int) == 9) = true := by rw [h9]; rfl
        clear h34 h92 h10 h9
        go_wp2_with (at_builtin; refine wpList_app rfl _ _ rfl w.heap.size u3 l [92, 116] 2 rfl rfl rfl rfl ho.out hbs (by omega) ?_; intro v2 w2 ho2 hb2; replace ho2 := Lib.hid ho2; replace hb2 := Lib.hid hb2)
        go_roundw
        case rel => exact hst.out _ HM.out _ _ ho2.out hb2.out
        case measure => simp [intOf]; omega
      have e4 : ((s[k].toNat : Int) == 9) = false := byte_ne (n := 9) (by decide) h9
      by_cases hlow : s[k].toNat < 32 ∨ 126 < s[k].toNat
      case neg =>
        have HM := Lib.hid (show esc s[k] = [s[k]] by simp [esc, h34, h92, h10, h9, hlow])
        have e5 : (32 : Int) ≤ s[k].toNat := by omega
        have e6 : (s[k].toNat : Int) ≤ 126 := by omega
        clear h34 h92 h10 h9 hlow
        go_wp2_with (at_builtin; refine wpList_app rfl _ _ rfl w.heap.size u3 l [s[k]] 1 rfl rfl rfl rfl ho.out hbs (by omega) ?_; intro v2 w2 ho2 hb2; replace ho2 := Lib.hid ho2; replace hb2 := Lib.hid hb2)
        go_roundw
        case rel => exact hst.out _ HM.out _ _ ho2.out hb2.out
        case measure => simp [intOf]; omega
      have HM := Lib.hid (show esc s[k] = [92, 120] ++ [hx (s[k].toNat / 16)] ++ [hx (s[k].toNat % 16)] by simp [esc, h34, h92, h10, h9, hlow])
      obtain ⟨p, hp⟩ : ∃ p, s[k].toNat / 16 = p := ⟨_, rfl⟩
      obtain ⟨q, hq⟩ : ∃ q, s[k].toNat % 16 = q := ⟨_, rfl⟩
      have hc := s[k].toNat_lt
      have hp2 : p < 16 := by omega
      have hq2 : q < 16 := by omega
      have hp' : (s[k].toNat : Int).tdiv 16 = p := by rw [Int.tdiv_eq_ediv_of_nonneg (by omega)]; omega
      have hq' : (s[k].toNat : Int).tmod 16 = q := by rw [Int.tmod_eq_emod_of_nonneg (by omega)]; omega
      rw [hp, hq] at HM
      have HP := Lib.hid (fun w => hex_any p hp2 w)
      have HQ := Lib.hid (fun w => hex_any q hq2 w)
      clear hp hq h34 h92 h10 h9
      have hst2 := Lib.hid (fun w1 v' (h1 : Own w1 w.heap.size v' (l ++ [92, 120] ++ [hx p] ++ [hx q])) h2 => hst.out _ HM.out w1 v' (by simpa using h1) h2)
      rcases hlow with hlow | hlow
      · have e5 : (s[k].toNat : Int) < 32 := by omega
        clear hlow hc
        go_wp2_with (first
          | (at_builtin; refine wpList_app rfl _ _ rfl w.heap.size u3 l [92, 120] 2 rfl rfl rfl rfl ho.out hbs (by omega) ?_; intro v2 w2 ho2 hb2; have hz2 := Nat.le_trans hbs hb2.size; replace ho2 := Lib.hid ho2; replace hb2 := Lib.hid hb2)
          | fail)
        refine (HP.out _).mono ?_
        rintro e w3 ⟨rfl, rfl⟩
        go_wp2_with (first
          | (at_builtin; refine wpList_apps rfl _ _ rfl w.heap.size v2 (l ++ [92, 120]) [hx p] rfl rfl ho2.out hz2 (by simp; omega) ?_; intro v3 w3 ho3 hb3; replace ho3 := Lib.hid ho3; replace hb3 := Lib.hid (hb2.out.trans hb3); have hz3 := Nat.le_trans hbs hb3.out.size)
          | fail)
        refine (HQ.out _).mono ?_
        rintro e w4 ⟨rfl, rfl⟩
        go_wp2_with (first
          | (at_builtin; refine wpList_apps rfl _ _ rfl w.heap.size v3 (l ++ [92, 120] ++ [hx p]) [hx q] rfl rfl ho3.out hz3 (by simp; omega) ?_; intro v4 w4 ho4 hb4; replace ho4 := Lib.hid ho4; replace hb4 := Lib.hid (hb3.out.trans hb4))
          | fail)
        go_roundw
        case rel => exact hst2.out _ _ ho4.out hb4.out
        case measure => simp [intOf]; omega
      · have e5 : (126 : Int) < s[k].toNat := by omega
        have e6 : (32 : Int) ≤ s[k].toNat := by omega
        have e7 : (s[k].toNat : Int) ≤ 255 := by omega
        clear hlow hc
        go_wp2_with (first
          | (at_builtin; refine wpList_app rfl _ _ rfl w.heap.size u3 l [92, 120] 2 rfl rfl rfl rfl ho.out hbs (by omega) ?_; intro v2 w2 ho2 hb2; have hz2 := Nat.le_trans hbs hb2.size; replace ho2 := Lib.hid ho2; replace hb2 := Lib.hid hb2)
          | fail)
        refine (HP.out _).mono ?_
        rintro e w3 ⟨rfl, rfl⟩
        go_wp2_with (first
          | (at_builtin; refine wpList_apps rfl _ _ rfl w.heap.size v2 (l ++ [92, 120]) [hx p] rfl rfl ho2.out hz2 (by simp; omega) ?_; intro v3 w3 ho3 hb3; replace ho3 := Lib.hid ho3; replace hb3 := Lib.hid (hb2.out.trans hb3); have hz3 := Nat.le_trans hbs hb3.out.size)
          | fail)
        refine (HQ.out _).mono ?_
        rintro e w4 ⟨rfl, rfl⟩
        go_wp2_with (first
          | (at_builtin; refine wpList_apps rfl _ _ rfl w.heap.size v3 (l ++ [92, 120] ++ [hx p]) [hx q] rfl rfl ho3.out hz3 (by simp; omega) ?_; intro v4 w4 ho4 hb4; replace ho4 := Lib.hid ho4; replace hb4 := Lib.hid (hb3.out.trans hb4))
          | fail)
        go_roundw
        case rel => exact hst2.out _ _ ho4.out hb4.out
        case measure => simp [intOf]; omega
    · obtain rfl : k = s.size := by omega
      have HB := Lib.hid (show 34 :: body (s.data.toList.take s.size) ++ [34] = lit s.data.toList by rw [List.take_of_length_le (by rw [size_list]; omega)]; rfl)
      obtain ⟨l, hl⟩ : ∃ l, 34 :: body (s.data.toList.take s.size) = l := ⟨_, rfl⟩
      have hll : l.length ≤ 400001 := by rw [← hl]; simp; omega
      rw [hl] at ho HB
      replace hb := Lib.hid hb
      replace ho := Lib.hid ho
      clear hl hz
      go_wp2_with (at_builtin; refine wpList_app rfl _ _ rfl w.heap.size u3 l [34] 1 rfl rfl rfl rfl ho.out hbs (by omega) ?_; intro v2 w2 ho2 hb2; have hcv := own_text ho2; replace ho2 := Lib.hid ho2; replace hb2 := Lib.hid hb2)
      go_ret
      rw [HB.out]
      exact ⟨rfl, hb.out.trans hb2.out⟩

end Go.Proofs.Ytcjliachoahndaa
