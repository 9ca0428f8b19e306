import Derived.Test.YtklaaapajdmhfaaGreatQ0
import Derived.Test.YtklaaapajdmhfaaGreatV5
import Derived.Test.YtklaaapajdmhfaaGreatG1
import Derived.BigQuiet
namespace Go.Proofs.YtklaaapajdmhfaaGreat
open Go.ChangeShapes Go.WideShapes Go.ChangeAt Go.RowKit
set_option linter.unusedVariables false

def inC (op a b : Nat → Int) (x : Nat) : Value := .int .i64 (if x % 3 = 0 then op (x / 3) else if x % 3 = 1 then a (x / 3) else b (x / 3))
theorem inC_one (op a b : Nat → Int) (x : Nat) : (inC op a b x).oneCell' = true := rfl
theorem IAt.cellsAt {w : World} {g o n : Nat} {op a b : Nat → Int} (hc : ∀ j, j < n → w.cell? ⟨g, o + j * 3, none⟩ = some (.int .i64 (op j)) ∧ w.cell? ⟨g, o + j * 3 + 1, none⟩ = some (.int .i64 (a j)) ∧ w.cell? ⟨g, o + j * 3 + 2, none⟩ = some (.int .i64 (b j))) : ∀ x, x < n * 3 → w.cell? ⟨g, o + x, none⟩ = some (inC op a b x) := fun x hx => by
  obtain ⟨i, r, hr, rfl⟩ : ∃ i r, r < 3 ∧ x = i * 3 + r := ⟨x / 3, x % 3, by omega, by omega⟩
  obtain ⟨c0, c1, c2⟩ := hc i (by omega)
  have e1 : (i * 3 + r) / 3 = i := by omega
  have e2 : (i * 3 + r) % 3 = r := by omega
  unfold inC
  rw [e1, e2, ← Nat.add_assoc]
  match r, hr with
  | 0, _ => exact c0
  | 1, _ => exact c1
  | 2, _ => exact c2
theorem iat_own {W : World} {base g n c : Nat} {op a b : Nat → Int} (h : Own W base 104 3 (.slice (some ⟨g, 0, none⟩) n c) n (inC op a b)) : IAt W (some ⟨g, 0, none⟩) n op a b := by
  obtain ⟨cur, h1, _⟩ := h.block
  refine .inr ⟨g, 0, rfl, (Array.getElem?_eq_some_iff.1 h1).1, fun j hj => ?_⟩
  have e0 := h.cell (j := j * 3) (by omega)
  have e1 := h.cell (j := j * 3 + 1) (by omega)
  have e2 := h.cell (j := j * 3 + 2) (by omega)
  unfold inC at e0 e1 e2
  rw [show (j * 3) % 3 = 0 by omega, show (j * 3) / 3 = j by omega, if_pos rfl] at e0
  rw [show (j * 3 + 1) % 3 = 1 by omega, show (j * 3 + 1) / 3 = j by omega, if_neg (by decide), if_pos rfl] at e1
  rw [show (j * 3 + 2) % 3 = 2 by omega, show (j * 3 + 2) / 3 = j by omega, if_neg (by decide), if_neg (by decide)] at e2
  rw [Nat.zero_add]
  exact ⟨e0, e1, e2⟩
theorem kat_cells {W : World} {g n : Nat} {K : Nat → Int} (h : W.heap[g]? = some (.cells (intsL K n).toArray 3 (0, 0))) : KAt W (some ⟨g, 0, none⟩) n K := by
  refine .inr ⟨g, 0, rfl, (Array.getElem?_eq_some_iff.1 h).1, fun j hj => ?_⟩
  unfold World.cell?
  rw [h]
  have := intsL_get (K := K) hj
  simpa using this
theorem own_of {W : World} {base : Nat} {t : TypeId} {s m : Nat} {v : Value} {xs : List Value} (h : W.ownsRow base t s v m xs) : Own W base t s v m (fun j => xs.getD j undef) := by
  unfold Own
  have h2 := cellsF_of xs
  rw [h.1] at h2
  rw [← h2]
  exact h
theorem infoIns : (Tryz.prog.info? 104).map (fun i => (i.zero, i.size, i.bytes)) = some (some (.agg #[.int .i64 0, .int .i64 0, .int .i64 0]), 3, 24) := by kernel_rfl
/-- a program lies there -/
def PAt (W : World) (P : Pg) (v : PgV) : Prop := IAt W v.cp P.n P.op P.a P.b ∧ KAt W v.ep P.m P.en
theorem PAt.below {W W' : World} {P : Pg} {v : PgV} (h : PAt W P v) (hb : Below W.heap.size W W') : PAt W' P v := ⟨h.1.below hb, h.2.below hb⟩
def pv (P : Pg) (v : PgV) : Value := .agg #[.int .i64 P.words, .int .i64 P.locals, .slice v.cp P.n v.cc, .slice v.ep P.m v.ec]
def roomyP (P : Pg) : Prop := P.n * 24 ≤ 140737488351232 ∧ P.m ≤ 17592186044416

/-! ### the same again -/
theorem neq_ins (x y z : Int) (W : World) : (binOp .neq 104 (.agg #[.int .i64 x, .int .i64 y, .int .i64 z]) (.agg #[.int .i64 x, .int .i64 y, .int .i64 z])).run Tryz.prog W = .ok (.bool false) W := by
  go_simp
end Go.Proofs.YtklaaapajdmhfaaGreat
