/-
  Rows of tokens that a call owns: made, appended to, carried on. Conditions: as said (at most 100000000 tokens).
-/
import Derived.Test.YtbknflaooemigaaRtk
namespace Go.Proofs.Ytbknflaooemigaa
open Go.RowKit Go.Sort
set_option linter.unusedVariables false

def tokCells (t : Tok) : List Value := [.int .u8 t.kind, .int .i64 t.line, .int .i64 t.col, .int .i64 t.num, .string (bs t.text)]
def rowT (l : List Tok) : List Value := l.flatMap tokCells
theorem rowT_len (l : List Tok) : (rowT l).length = l.length * 5 := by
  unfold rowT
  induction l with
  | nil => rfl
  | cons t l ih => rw [List.flatMap_cons, List.length_append, ih]; simp [tokCells]; omega
theorem rowT_app (l m : List Tok) : rowT (l ++ m) = rowT l ++ rowT m := by simp [rowT]

theorem Try.info46 : (Try.prog.info? 46).map (fun i => (i.zero, i.size, i.bytes)) = some (some (.agg #[.int .u8 0, .int .i64 0, .int .i64 0, .int .i64 0, .string { data := #[] }]), 5, 48) := by kernel_rfl

/-- A row of tokens that the call owns. -/
def OwnT (w : World) (B : Nat) (v : Value) (l : List Tok) : Prop := w.ownsRow B 46 5 v l.length (rowT l)

theorem ownT_nil (w : World) (B : Nat) : OwnT w B (.slice none 0 0) [] := World.ownsRow_nil w B 46 5
theorem ownT_carry {w w' : World} {B : Nat} {v : Value} {l : List Tok} (h : OwnT w B v l) (hb : Below w.heap.size w w') : OwnT w' B v l :=
  World.ownsRow.kept h (row := none) ⟨hb.os, hb.tape, hb.output, hb.size, fun k hk _ => hb.block k hk⟩ (by cases hv : v.ownBlock <;> simp)
theorem ownT_mono {w : World} {B B' : Nat} {v : Value} {l : List Tok} (h : OwnT w B v l) (hb : B' ≤ B) : OwnT w B' v l := by
  refine ⟨h.1, ?_⟩
  rcases h.2 with h2 | ⟨g, cap, cur, h1, h2, h3⟩
  · exact .inl h2
  · exact .inr ⟨g, cap, cur, h1, Nat.le_trans hb h2, h3⟩

theorem ownT_empty {w : World} {B : Nat} (hB : B ≤ w.heap.size) : OwnT (w.alloc (.cells #[] 46)) B (.slice (some ⟨w.heap.size, 0, none⟩) 0 0) [] :=
  World.ownsRow_made w #[] 0 hB (by decide) rfl

theorem wpList_appT {ops : Array Oper} {rest : List Oper} {o : Oper} {a : Act} {Q : Exit → Act → World → Prop} {w : World} {news : Array Value} (hgd : o.guard = none) (s x : Operand)
    (ho : o.op = .call { callee := .builtin .append, args := #[s, x], argTypes := #[38, 38] }) (B : Nat) (v : Value) (l : List Tok) (t : Tok) (b : Nat) (hbw : w.heap.size = b) (hs : a.eval s = v)
    (hx : a.eval x = .slice (some ⟨b, 0, none⟩) 1 1) (hm : news.toList = tokCells t) (hown : OwnT w B v l) (hB : B ≤ w.heap.size) (hl : l.length + 1 ≤ 100000000)
    (h : ∀ v' w', OwnT w' B v' (l ++ [t]) → Below B w w' → wpList Try.prog ops Q rest (a.put o.dst v') w') : wpList Try.prog ops Q (o :: rest) a (w.alloc (.cells news 46)) := by
  subst hbw
  obtain ⟨i0, hi0, hz0, hz1, hz2⟩ := info_parts Try.info46
  have hown' : (w.alloc (.cells news 46)).ownsRow B 46 5 v l.length (rowT l) := ownT_carry hown (below_alloc w _)
  have hcell : ∀ j u, (tokCells t)[j]? = some u → (w.alloc (.cells news 46)).cell? ((⟨w.heap.size, 0, none⟩ : Addr).add j) = some u := by
    intro j u hj
    rw [← hm] at hj
    rw [plain_add]
    simp at hj
    simp [go_sem, hj]
  refine wpList_append_own _ hgd s x 38 ho B 46 i0 _ 5 48 Try.underlying38 hi0 hz0 hz1 hz2 rfl (by decide) v l.length (rowT l) hs hown' ⟨w.heap.size, 0, none⟩ 1 1 (tokCells t) hx (by simp [tokCells]) hcell ?_ ?_ ?_ ?_ ?_
  · intro u hu
    simp only [tokCells, List.mem_cons, List.not_mem_nil, or_false] at hu
    rcases hu with rfl | rfl | rfl | rfl | rfl <;> rfl
  · unfold maxLen; omega
  · omega
  · simp; omega
  · intro v' w' h1 h2 _
    refine h v' w' ?_ (((below_alloc w _).mono hB).trans ((Below.refl B _).grown h2 (by simp; omega) fun r hr => (hown'.lt r hr).1))
    unfold OwnT
    rw [List.length_append, rowT_app]
    simpa [rowT] using h1

/-- A fault as a value. -/
abbrev fV (f : Int × Nat × Nat) : Value := .agg #[.int .i64 f.1, .int .i64 (f.2.1 : Nat), .int .i64 (f.2.2 : Nat)]
def tokR : Res → List Tok
  | .ok l => l
  | .error _ => []
def fauR : Res → Int × Nat × Nat
  | .ok _ => (0, 0, 0)
  | .error f => f
/-- What Tokens answers. -/
def RetT (w : World) (R : Res) (e : Ending) (w' : World) : Prop := ∃ v, e = .returned (.tuple #[v, fV (fauR R)]) ∧ OwnT w' w.heap.size v (tokR R) ∧ Below w.heap.size w w'

end Go.Proofs.Ytbknflaooemigaa
