/-
  Contract of the document's Tokens. Conditions: texts of at most 65536 bytes.
-/
import Derived.Test.YtddeiidkmihkkaaPlc
import Derived.Test.YtddeiidkmihkkaaTks
namespace Go.Proofs.Ytddeiidkmihkkaa
open Go.RowKit Go.Sort
set_option linter.unusedVariables false

theorem rone_ok (s : ByteArray) (hs : s.size ≤ 100000) (i : Nat) (hi : i < s.size) (o : One) (ho : one (s.data.toList.drop i) = o) (he : o.err = 0) (w : World) :
    Calls Try.prog 13 #[.string s, .int .i64 (i : Nat)] w fun e w' => e = .returned (.tuple #[tokV o.kind 0 0 o.num (bs o.text), .int .i64 ((i + o.size : Nat) : Nat), .int .i64 0]) ∧ Below w.heap.size w w' := by
  refine (rone_any s w hs i hi).mono ?_
  rw [ho]
  rintro e w' ⟨k, rfl, hk, hb⟩
  rw [hk he, if_pos he, he]
  exact ⟨rfl, hb⟩
theorem rone_err (s : ByteArray) (hs : s.size ≤ 100000) (i : Nat) (hi : i < s.size) (o : One) (ho : one (s.data.toList.drop i) = o) (he : ¬ o.err = 0) (w : World) :
    Calls Try.prog 13 #[.string s, .int .i64 (i : Nat)] w fun e w' => ∃ k : Nat, e = .returned (.tuple #[tokV k 0 0 o.num (bs o.text), .int .i64 0, .int .i64 o.err]) ∧ Below w.heap.size w w' := by
  refine (rone_any s w hs i hi).mono ?_
  rw [ho]
  rintro e w' ⟨k, rfl, hk, hb⟩
  rw [if_neg he]
  exact ⟨k, rfl, hb⟩

abbrev none0 : Obj := Obj.cells #[] 33
def InvR (s : ByteArray) (w : World) (R : Res) (i f line col : Nat) (v : Value) (acc : List Tok) (w' : World) : Prop :=
  i ≤ s.size ∧ f ≤ i ∧ line ≤ f + 1 ∧ col ≤ f + 1 ∧ 1 ≤ col ∧ acc.length ≤ i ∧ atTok (s.data.toList.drop i) ∧
  (toks (s.data.toList.drop i) (plc line col ((s.data.toList.drop f).take (i - f))).1 (plc line col ((s.data.toList.drop f).take (i - f))).2).map (acc ++ ·) = R ∧
  OwnT w' (w.heap.size + 2) v acc ∧ Below (w.heap.size + 2) ((w.alloc zFau).alloc none0) w'

theorem InvR.start (s : ByteArray) (w w' : World) (R : Res) (hR : toks s.data.toList 1 1 = R) (n : Nat) (hn : 0 + skipF false (s.data.toList.drop 0) = n) (v : Value) (ho : OwnT w' (w.heap.size + 2) v []) (hb : Below (w.heap.size + 2) ((w.alloc zFau).alloc none0) w') :
    InvR s w R n 0 1 1 v [] w' := by
  rw [List.drop_zero] at hn
  have hle := skip_le s.data.toList false
  rw [size_list] at hle
  have hn' : skipF false s.data.toList = n := by omega
  refine ⟨by omega, by omega, by omega, by omega, by omega, by simp, ?_, ?_, ho, hb⟩
  · rw [← hn']; exact skip_stop _ _ (Nat.le_refl _)
  · rw [← hR, toks_skip _ s.data.toList (Nat.le_refl _) 1 1, hn', List.drop_zero, Nat.sub_zero]
    cases toks (s.data.toList.drop n) (plc 1 1 (s.data.toList.take n)).1 (plc 1 1 (s.data.toList.take n)).2 <;> rfl

theorem InvR.bnd {s : ByteArray} {w w' : World} {R : Res} {i f line col : Nat} {v : Value} {acc : List Tok} (h : InvR s w R i f line col v acc w') {L C : Nat} (hp : plc line col ((s.data.toList.drop f).take (i - f)) = (L, C)) : L ≤ i + 1 ∧ C ≤ i + 1 ∧ 1 ≤ C := by
  obtain ⟨h1, h2, h3, h4, h45, h5, h6, h7, h8, h9⟩ := h
  have hlen : ((s.data.toList.drop f).take (i - f)).length = i - f := by rw [List.length_take, List.length_drop, size_list]; omega
  rcases plc_cases ((s.data.toList.drop f).take (i - f)) with hc | ⟨k, m, a1, a2, a3, a5, a4⟩
  · rw [hc, hlen] at hp
    simp only [Prod.mk.injEq] at hp
    omega
  · rw [a4] at hp
    rw [hlen] at a2 a3
    simp only [Prod.mk.injEq] at hp
    omega

theorem InvR.fin {s : ByteArray} {w w' : World} {R : Res} {i f line col : Nat} {v : Value} {acc : List Tok} (h : InvR s w R i f line col v acc w') {L C : Nat} (hp : plc line col ((s.data.toList.drop f).take (i - f)) = (L, C)) (hlt : ¬ i < s.size) :
    R = .ok (acc ++ [⟨8, L, C, 0, []⟩]) := by
  obtain ⟨h1, h2, h3, h4, h45, h5, h6, h7, h8, h9⟩ := h
  rw [hp, drop_end s i (by omega), toks_nil] at h7
  rw [← h7]; rfl
theorem InvR.bad {s : ByteArray} {w w' : World} {R : Res} {i f line col : Nat} {v : Value} {acc : List Tok} {o : One} (h : InvR s w R i f line col v acc w') {L C : Nat} (hp : plc line col ((s.data.toList.drop f).take (i - f)) = (L, C)) (hlt : i < s.size)
    (ho : one (s.data.toList.drop i) = o) (he : ¬ o.err = 0) : R = .error (o.err, L, C) := by
  obtain ⟨h1, h2, h3, h4, h45, h5, h6, h7, h8, h9⟩ := h
  have hd := drop_cons s i hlt
  have hg : ¬ isGap s[i] := h6 _ (by rw [hd]; rfl)
  rw [hp, hd] at h7
  rw [hd] at ho
  rw [toks_bad _ _ _ _ hg (by rw [ho]; exact he), ho] at h7
  rw [← h7]; rfl
theorem InvR.tok {s : ByteArray} {w w' w2 : World} {R : Res} {i f line col : Nat} {v v2 : Value} {acc : List Tok} {o : One} (h : InvR s w R i f line col v acc w') {L C : Nat} (hp : plc line col ((s.data.toList.drop f).take (i - f)) = (L, C)) (hlt : i < s.size)
    (ho : one (s.data.toList.drop i) = o) (he : o.err = 0) (n : Nat) (hn : i + o.size + skipF false (s.data.toList.drop (i + o.size)) = n) :
    1 ≤ o.size ∧ i + o.size ≤ s.size ∧ n ≤ s.size ∧ (OwnT w2 (w.heap.size + 2) v2 (acc ++ [⟨o.kind, L, C, o.num, o.text⟩]) → Below (w.heap.size + 2) w' w2 →
      InvR s w R n i L C v2 (acc ++ [⟨o.kind, L, C, o.num, o.text⟩]) w2) := by
  obtain ⟨bL, bC, bC1⟩ := h.bnd hp
  obtain ⟨h1, h2, h3, h4, h45, h5, h6, h7, h8, h9⟩ := h
  have hd := drop_cons s i hlt
  have hg : ¬ isGap s[i] := h6 _ (by rw [hd]; rfl)
  have hne : s.data.toList.drop i ≠ [] := by rw [hd]; simp
  have hk := one_ok _ hne (by rw [ho]; exact he)
  have hnl := one_nolf _ hne (by rw [ho]; exact he)
  rw [ho] at hnl
  rw [ho, List.length_drop, size_list] at hk
  have hsk := skip_le (s.data.toList.drop (i + o.size)) false
  rw [List.length_drop, size_list] at hsk
  refine ⟨hk.1, by omega, by omega, fun ho2 hb2 => ⟨by omega, by omega, bL, bC, bC1, by simp; omega, ?_, ?_, ho2, h9.trans hb2⟩⟩
  · rw [← hn, ← List.drop_drop]
    exact skip_stop _ _ (Nat.le_refl _)
  · rw [hp] at h7
    have h7' : (toks (s.data.toList.drop i) L C).map (acc ++ ·) = R := h7
    have ho' := ho
    rw [hd] at h7' ho'
    rw [toks_tok _ _ _ _ hg (by rw [ho']; exact he), ho', ← hd, List.drop_drop] at h7'
    rw [toks_skip _ (s.data.toList.drop (i + o.size)) (Nat.le_refl _), List.drop_drop, hn] at h7'
    have hx : (s.data.toList.drop i).take (n - i) = (s.data.toList.drop i).take o.size ++ (s.data.toList.drop (i + o.size)).take (skipF false (s.data.toList.drop (i + o.size))) := by
      rw [show n - i = o.size + skipF false (s.data.toList.drop (i + o.size)) by omega, List.take_add, List.drop_drop]
    have hlen : ((s.data.toList.drop i).take o.size).length = o.size := by rw [List.length_take, List.length_drop, size_list]; omega
    rw [hx, plc_app, plc_nolf hnl, hlen, ← h7']
    cases toks (List.drop n s.data.toList) (plc L (C + o.size) ((s.data.toList.drop (i + o.size)).take (skipF false (s.data.toList.drop (i + o.size))))).1 (plc L (C + o.size) ((s.data.toList.drop (i + o.size)).take (skipF false (s.data.toList.drop (i + o.size))))).2 with
    | ok l => simp [Except.map]
    | error f => rfl

theorem fau_cells2 {w w' : World} (h : Below (w.heap.size + 2) ((w.alloc zFau).alloc none0) w') : w'.cell? ⟨w.heap.size, 0, none⟩ = some (.int .i64 0) ∧ w'.cell? ⟨w.heap.size, 1, none⟩ = some (.int .i64 0) ∧ w'.cell? ⟨w.heap.size, 2, none⟩ = some (.int .i64 0) ∧ ∀ o, w'.frozen? ⟨w.heap.size, o, none⟩ = false :=
  fau_cells (((below_alloc (w.alloc zFau) none0).mono (by simp)).trans (h.mono (by omega)))
theorem fau_below2 {w w' : World} (h : Below (w.heap.size + 2) ((w.alloc zFau).alloc none0) w') : Below w.heap.size w w' :=
  fau_below (((below_alloc (w.alloc zFau) none0).mono (by simp)).trans (h.mono (by omega)))
theorem none_own {w w' : World} (h : Below (w.heap.size + 2) ((w.alloc zFau).alloc none0) w') : OwnT w' (w.heap.size + 1) (.slice (some ⟨w.heap.size + 1, 0, none⟩) 0 0) [] := by
  have h0 := ownT_empty (w := w.alloc zFau) (B := w.heap.size + 1) (by simp)
  rw [show (w.alloc zFau).heap.size = w.heap.size + 1 by simp] at h0
  exact ownT_carry h0 (by rw [show ((w.alloc zFau).alloc none0).heap.size = w.heap.size + 2 by simp]; exact h)

set_option maxHeartbeats 4000000 in
set_option maxRecDepth 100000 in
theorem rtokens_core (s : ByteArray) (w : World) (hs : s.size ≤ 65536) (R : Res) (hR : Hid (toks s.data.toList 1 1 = R)) : Calls Try.prog 10 #[.string s] w (RetT w R) := by
  obtain ⟨n0, hn0⟩ : ∃ n, 0 + skipF false (s.data.toList.drop 0) = n := ⟨_, rfl⟩
  have HS0 := Lib.hid (fun w => skip_any s 0 (by omega) (by omega) n0 (Lib.hid hn0) w)
  have hst := Lib.hid (fun w' v => InvR.start s w w' R hR.out n0 hn0 v)
  clear hn0 hR
  go_enter Try.func10, Try.ntmps10
  go_wp2_with fail
  refine (HS0.out _).mono ?_
  rintro _ w' ⟨rfl, rfl⟩
  go_wp2
  go_loopw [5, 6, 7, 8, 9] (fun v a b c d wr => ∃ (i f line col : Nat) (acc : List Tok), a = .int .i64 (i : Nat) ∧ b = .int .i64 (f : Nat) ∧ c = .int .i64 (line : Nat) ∧ d = .int .i64 (col : Nat) ∧ InvR s w R i f line col v acc wr) (fun _ a _ _ _ _ => s.size - (intOf a).toNat)
  case atStart =>
    refine ⟨n0, 0, 1, 1, [], rfl, rfl, rfl, rfl, hst.out _ _ ?_ ?_⟩
    · have := ownT_empty (w := (w.alloc zFau).alloc none0) (B := w.heap.size + 2) (by simp)
      rw [show ((w.alloc zFau).alloc none0).heap.size = w.heap.size + 1 + 1 by simp] at this
      exact this
    · exact (below_alloc _ _).mono (by simp)
  case round =>
    clear hst HS0
    obtain ⟨i, f, line, col, acc, rfl, rfl, rfl, rfl, hI⟩ := hrel
    have h1 := hI.1
    have h2 := hI.2.1
    have h3 := hI.2.2.1
    have h4 := hI.2.2.2.1
    have h45 := hI.2.2.2.2.1
    have h5 := hI.2.2.2.2.2.1
    have ho := Lib.hid hI.2.2.2.2.2.2.2.2.1
    have hb := Lib.hid hI.2.2.2.2.2.2.2.2.2
    have hbs : w.heap.size + 2 ≤ wr.heap.size := by have := hb.out.size; simpa using this
    obtain ⟨o, hone⟩ : ∃ o, i < s.size → one (s.data.toList.drop i) = o := ⟨_, fun _ => rfl⟩
    obtain ⟨X, hX⟩ : ∃ X, s.extract f s.size = X := ⟨_, rfl⟩
    obtain ⟨m, hm⟩ : ∃ m, i - f = m := ⟨_, rfl⟩
    have hm1 : (i : Int) - f = m := by omega
    have hXl : X.data.toList = s.data.toList.drop f := by rw [← hX, ext_end]
    have hXs : X.size = s.size - f := by rw [← size_list, hXl, List.length_drop, size_list]
    have HPl := Lib.hid (fun w => place_any X m (by omega) (by omega) _ (Lib.hid rfl) w)
    rw [hXl] at HPl
    have hp0 := hm ▸ (rfl : plc line col ((s.data.toList.drop f).take (i - f)) = _)
    have hlen : ((s.data.toList.drop f).take m).length = m := by rw [List.length_take, List.length_drop, size_list]; omega
    clear hXl hXs
    rcases plc_cases ((s.data.toList.drop f).take m) with hc | ⟨k, mm, a1, a2, a3, a5, a4⟩
    · obtain ⟨C, hC0⟩ : ∃ C, col + m = C := ⟨_, rfl⟩
      have hp : plc line col ((s.data.toList.drop f).take (i - f)) = (line, C) := by rw [hm, hc, hlen, hC0]
      rw [hc, hlen] at HPl
      obtain ⟨dc, hdc⟩ : ∃ dc, 1 + m = dc := ⟨_, rfl⟩
      rw [hdc] at HPl
      have HPl : Hid (∀ w, Calls Try.prog 20 #[.string X, .int .i64 (m : Nat)] w fun e w' => e = .returned (.tuple #[.int .i64 1, .int .i64 (dc : Nat)]) ∧ w = w') := HPl
      obtain ⟨d1, hd10⟩ : ∃ d1, dc - 1 = d1 := ⟨_, rfl⟩
      clear hc hp0
      have hd1 : (dc : Int) - 1 = d1 := by omega
      have hC : (col : Int) + d1 = C := by omega
      by_cases hlt : i < s.size
      case neg =>
        have HR := Lib.hid (hI.fin hp hlt)
        have hge : ¬ (i : Int) < s.size := by omega
        have hge2 : (s.size : Int) ≤ i := by omega
        clear hI hp
        go_wp2_with fail
        refine (HPl.out _).mono ?_
        rintro _ w' ⟨rfl, rfl⟩
        go_wp2_with (at_builtin; refine wpList_appT rfl _ _ rfl (w.heap.size + 2) u5 acc ⟨8, line, C, 0, []⟩ wr.heap.size rfl rfl rfl rfl ho.out hbs (by omega) ?_; intro v2 w2 ho2 hb2; obtain ⟨c0, c1, c2, c3⟩ := fau_cells2 (hb.out.trans hb2); replace ho2 := Lib.hid ho2; replace hb2 := Lib.hid hb2)
        refine bodyPost_ret (v := .tuple #[v2, fV (0, 0, 0)]) (by simp [results, Try.results10, go_sem, c0, c1, c2]) rfl ?_
        have hbb := fau_below2 (hb.out.trans hb2.out)
        rw [HR.out]
        exact ⟨v2, rfl, ownT_mono (ownT_set (ownT_set (ownT_set ho2.out (by simp)) (by simp)) (by simp)) (by omega), by go_grown⟩
      have hge : (i : Int) < s.size := by omega
      by_cases herr : o.err = 0
      · obtain ⟨n, hn⟩ : ∃ n, i + o.size + skipF false (s.data.toList.drop (i + o.size)) = n := ⟨_, rfl⟩
        obtain ⟨k1, k2, k3, -⟩ := hI.tok (w2 := wr) (v2 := u5) hp hlt (hone hlt) herr n hn
        have HI := Lib.hid (fun w2 v2 => (hI.tok (w2 := w2) (v2 := v2) hp hlt (hone hlt) herr n hn).2.2.2)
        have HO := Lib.hid (fun w => rone_ok s (by omega) i hlt o (hone hlt) herr w)
        obtain ⟨en, hen⟩ : ∃ en, i + o.size = en := ⟨_, rfl⟩
        have hni := Lib.hid (show i < n by omega)
        rw [hen] at HO hn k2
        have HS := Lib.hid (fun w => skip_any s en (by omega) (by omega) n (Lib.hid hn) w)
        obtain ⟨err, sz, kd, nm, tx⟩ := o
        simp only at herr HO HI
        subst herr
        clear hI hp hone hn k1 hen
        go_wp2_with fail
        refine (HPl.out _).mono ?_
        rintro _ w' ⟨rfl, rfl⟩
        go_wp2_with fail
        refine (HO.out _).mono ?_
        rintro _ w1 ⟨rfl, hb1⟩
        have ho1 := Lib.hid (ownT_carry ho.out hb1)
        have hbs1 := hb1.size
        replace hb1 := Lib.hid (hb1.mono hbs)
        go_wp2_with (at_builtin; refine wpList_appT rfl _ _ rfl (w.heap.size + 2) u5 acc ⟨kd, line, C, nm, tx⟩ (w1.heap.size + 1) (by simp) rfl rfl rfl (ownT_carry ho1.out (by go_grown)) (by simp; omega) (by omega) ?_; intro v2 w2 ho2 hb2; replace ho2 := Lib.hid ho2; replace hb2 := Lib.hid ((hb1.out.trans ((by go_grown : Below w1.heap.size w1 _).mono (Nat.le_trans hbs hbs1))).trans hb2))
        refine (HS.out _).mono ?_
        rintro _ w3 ⟨rfl, rfl⟩
        go_wp2
        go_roundw
        case rel => exact ⟨n, i, line, C, _, rfl, rfl, rfl, rfl, HI.out _ _ ho2.out hb2.out⟩
        case measure => have := hni.out; simp [intOf]; omega
      · have HR := Lib.hid (hI.bad hp hlt (hone hlt) herr)
        have HO := Lib.hid (fun w => rone_err s (by omega) i hlt o (hone hlt) herr w)
        obtain ⟨err, sz, kd, nm, tx⟩ := o
        simp only at herr HR HO
        have herr2 : (err != 0) = true := by simpa using herr
        clear hI hp hone herr
        go_wp2_with fail
        refine (HPl.out _).mono ?_
        rintro _ w' ⟨rfl, rfl⟩
        go_wp2_with fail
        refine (HO.out _).mono ?_
        rintro _ w1 ⟨k, rfl, hb1⟩
        obtain ⟨c0, c1, c2, c3⟩ := fau_cells2 (hb.out.trans (hb1.mono hbs))
        have d0 := fun O => cell_alloc c0 O
        have d1' := fun O => cell_alloc c1 O
        have d2 := fun O => cell_alloc c2 O
        have d3 := fun o O => froz_alloc c0 (c3 o) O
        have hbs1 := hb1.size
        replace hb1 := Lib.hid (hb1.mono hbs)
        go_wp2
        refine bodyPost_ret (v := .tuple #[.slice (some ⟨w.heap.size + 1, 0, none⟩) 0 0, fV (err, line, C)]) (by simp [results, Try.results10, go_sem, d0, d1', d2]) rfl ?_
        have hbb := fau_below2 (hb.out.trans hb1.out)
        have hno := none_own (hb.out.trans hb1.out)
        rw [HR.out]
        exact ⟨_, rfl, ownT_mono (ownT_set (ownT_set (ownT_set (ownT_carry hno (below_alloc _ _)) (by simp)) (by simp)) (by simp)) (by omega), by go_grown⟩
    · obtain ⟨L, hL0⟩ : ∃ L, line + k = L := ⟨_, rfl⟩
      obtain ⟨dc, hdc⟩ : ∃ dc, mm = dc := ⟨_, rfl⟩
      have hp : plc line col ((s.data.toList.drop f).take (i - f)) = (L, dc) := by rw [hm, a4, hL0, hdc]
      rw [a4, hdc] at HPl
      obtain ⟨dl, hdl0⟩ : ∃ dl : Nat, 1 + k = dl := ⟨_, rfl⟩
      rw [hdl0] at HPl
      obtain ⟨d1, hd10⟩ : ∃ d1, dl - 1 = d1 := ⟨_, rfl⟩
      rw [hlen] at a2 a3
      clear a4 hp0
      have hdl : (1 : Int) < dl := by omega
      have hd1 : (dl : Int) - 1 = d1 := by omega
      have hL : (line : Int) + d1 = L := by omega
      by_cases hlt : i < s.size
      case neg =>
        have HR := Lib.hid (hI.fin hp hlt)
        have hge : ¬ (i : Int) < s.size := by omega
        have hge2 : (s.size : Int) ≤ i := by omega
        clear hI hp
        go_wp2_with fail
        refine (HPl.out _).mono ?_
        rintro _ w' ⟨rfl, rfl⟩
        go_wp2_with (at_builtin; refine wpList_appT rfl _ _ rfl (w.heap.size + 2) u5 acc ⟨8, L, dc, 0, []⟩ wr.heap.size rfl rfl rfl rfl ho.out hbs (by omega) ?_; intro v2 w2 ho2 hb2; obtain ⟨c0, c1, c2, c3⟩ := fau_cells2 (hb.out.trans hb2); replace ho2 := Lib.hid ho2; replace hb2 := Lib.hid hb2)
        refine bodyPost_ret (v := .tuple #[v2, fV (0, 0, 0)]) (by simp [results, Try.results10, go_sem, c0, c1, c2]) rfl ?_
        have hbb := fau_below2 (hb.out.trans hb2.out)
        rw [HR.out]
        exact ⟨v2, rfl, ownT_mono (ownT_set (ownT_set (ownT_set ho2.out (by simp)) (by simp)) (by simp)) (by omega), by go_grown⟩
      have hge : (i : Int) < s.size := by omega
      by_cases herr : o.err = 0
      · obtain ⟨n, hn⟩ : ∃ n, i + o.size + skipF false (s.data.toList.drop (i + o.size)) = n := ⟨_, rfl⟩
        obtain ⟨k1, k2, k3, -⟩ := hI.tok (w2 := wr) (v2 := u5) hp hlt (hone hlt) herr n hn
        have HI := Lib.hid (fun w2 v2 => (hI.tok (w2 := w2) (v2 := v2) hp hlt (hone hlt) herr n hn).2.2.2)
        have HO := Lib.hid (fun w => rone_ok s (by omega) i hlt o (hone hlt) herr w)
        obtain ⟨en, hen⟩ : ∃ en, i + o.size = en := ⟨_, rfl⟩
        have hni := Lib.hid (show i < n by omega)
        rw [hen] at HO hn k2
        have HS := Lib.hid (fun w => skip_any s en (by omega) (by omega) n (Lib.hid hn) w)
        obtain ⟨err, sz, kd, nm, tx⟩ := o
        simp only at herr HO HI
        subst herr
        clear hI hp hone hn k1 hen
        go_wp2_with fail
        refine (HPl.out _).mono ?_
        rintro _ w' ⟨rfl, rfl⟩
        go_wp2_with fail
        refine (HO.out _).mono ?_
        rintro _ w1 ⟨rfl, hb1⟩
        have ho1 := Lib.hid (ownT_carry ho.out hb1)
        have hbs1 := hb1.size
        replace hb1 := Lib.hid (hb1.mono hbs)
        go_wp2_with (at_builtin; refine wpList_appT rfl _ _ rfl (w.heap.size + 2) u5 acc ⟨kd, L, dc, nm, tx⟩ (w1.heap.size + 1) (by simp) rfl rfl rfl (ownT_carry ho1.out (by go_grown)) (by simp; omega) (by omega) ?_; intro v2 w2 ho2 hb2; replace ho2 := Lib.hid ho2; replace hb2 := Lib.hid ((hb1.out.trans ((by go_grown : Below w1.heap.size w1 _).mono (Nat.le_trans hbs hbs1))).trans hb2))
        refine (HS.out _).mono ?_
        rintro _ w3 ⟨rfl, rfl⟩
        go_wp2
        go_roundw
        case rel => exact ⟨n, i, L, dc, _, rfl, rfl, rfl, rfl, HI.out _ _ ho2.out hb2.out⟩
        case measure => have := hni.out; simp [intOf]; omega
      · have HR := Lib.hid (hI.bad hp hlt (hone hlt) herr)
        have HO := Lib.hid (fun w => rone_err s (by omega) i hlt o (hone hlt) herr w)
        obtain ⟨err, sz, kd, nm, tx⟩ := o
        simp only at herr HR HO
        have herr2 : (err != 0) = true := by simpa using herr
        clear hI hp hone herr
        go_wp2_with fail
        refine (HPl.out _).mono ?_
        rintro _ w' ⟨rfl, rfl⟩
        go_wp2_with fail
        refine (HO.out _).mono ?_
        rintro _ w1 ⟨k, rfl, hb1⟩
        obtain ⟨c0, c1, c2, c3⟩ := fau_cells2 (hb.out.trans (hb1.mono hbs))
        have d0 := fun O => cell_alloc c0 O
        have d1' := fun O => cell_alloc c1 O
        have d2 := fun O => cell_alloc c2 O
        have d3 := fun o O => froz_alloc c0 (c3 o) O
        have hbs1 := hb1.size
        replace hb1 := Lib.hid (hb1.mono hbs)
        go_wp2
        refine bodyPost_ret (v := .tuple #[.slice (some ⟨w.heap.size + 1, 0, none⟩) 0 0, fV (err, L, dc)]) (by simp [results, Try.results10, go_sem, d0, d1', d2]) rfl ?_
        have hbb := fau_below2 (hb.out.trans hb1.out)
        have hno := none_own (hb.out.trans hb1.out)
        rw [HR.out]
        exact ⟨_, rfl, ownT_mono (ownT_set (ownT_set (ownT_set (ownT_carry hno (below_alloc _ _)) (by simp)) (by simp)) (by simp)) (by omega), by go_grown⟩

end Go.Proofs.Ytddeiidkmihkkaa
