import Derived.Test.YthbngffonbhakaaDoorVL2
namespace Go.Proofs.YthbngffonbhakaaDoor
open Go.ChangeShapes Go.WideShapes Go.ChangeAt Go.RowKit
set_option linter.unusedVariables false
set_option linter.unusedSimpArgs false


abbrev I64 (n : Int) : Prop := -9223372036854775808 ≤ n ∧ n < 9223372036854775808
def nmT : List (List UInt8) := [[115, 116, 111, 112], [112, 117, 115, 104], [112, 111, 112], [108, 111, 97, 100], [115, 97, 118, 101], [108, 111, 97, 100, 120], [115, 97, 118, 101, 120], [103, 101, 116], [112, 117, 116], [100, 97, 116, 97], [110, 111, 119], [109, 101], [102, 114, 111, 109], [97, 100, 100], [115, 117, 98], [109, 117, 108], [100, 105, 118], [109, 111, 100], [97, 110, 100], [111, 114], [120, 111, 114], [115, 104, 108], [115, 104, 114], [110, 101, 103], [110, 111, 116], [102, 108, 105, 112], [101, 113], [110, 101], [108, 116], [108, 101], [103, 116], [103, 101], [109, 105, 110], [109, 97, 120], [98, 111, 111, 108], [106, 117, 109, 112], [122, 101, 114, 111], [114, 111, 108, 108], [114, 111, 119], [115, 101, 110, 100], [102, 97, 105, 108], [119, 97, 105, 116]]
def nm (o : Int) : List UInt8 := nmT.getD o.toNat []
theorem nm_len (o : Int) : (nm o).length ≤ 5 := by
  unfold nm
  by_cases h : o.toNat < 42
  · have : ∀ k, k < 42 → (nmT.getD k []).length ≤ 5 := by decide
    exact this _ h
  · rw [List.getD_eq_getElem?_getD, List.getElem?_eq_none (by have : nmT.length = 42 := rfl; omega)]
    simp
def numB (n : Int) : List UInt8 := 32 :: Lib.itoa n
theorem numB_len {n : Int} (h : I64 n) : (numB n).length ≤ 22 := by
  have := itoa_len n h.1 (by have := h.2; omega)
  simp [numB]
  omega
def nsB (f : Nat → Int) : Nat → List UInt8
  | 0 => []
  | k + 1 => nsB f k ++ numB (f k)
theorem nsB_len {f : Nat → Int} : ∀ {k : Nat}, (∀ i, i < k → I64 (f i)) → (nsB f k).length ≤ 22 * k
  | 0, _ => by simp [nsB]
  | k + 1, h => by
    have h1 := nsB_len (f := f) (k := k) fun i hi => h i (by omega)
    have h2 := numB_len (h k (by omega))
    simp only [nsB, List.length_append]
    omega
/-- how many numbers a line tells -/
def tlN (o a b : Int) : Nat := if b ≠ 0 then 2 else if a ≠ 0 then (max 1 (wantsI o)).toNat else (wantsI o).toNat
theorem wantsI_le (o : Int) : 0 ≤ wantsI o ∧ wantsI o ≤ 2 := by
  unfold wantsI
  by_cases h : o.toNat < 42
  · have : ∀ k, k < 42 → 0 ≤ wantTab.getD k 0 ∧ wantTab.getD k 0 ≤ 2 := by decide
    exact this _ h
  · rw [List.getD_eq_getElem?_getD, List.getElem?_eq_none (by have : wantTab.length = 42 := rfl; omega)]
    decide
theorem tlN_le (o a b : Int) : tlN o a b ≤ 2 := by
  have := wantsI_le o
  unfold tlN
  split
  · omega
  · split <;> omega
def abF (a b : Int) (k : Nat) : Int := if k = 0 then a else b
def lnB (o a b : Int) : List UInt8 := nm o ++ nsB (abF a b) (tlN o a b) ++ [10]
def coB (P : Pg) : Nat → List UInt8
  | 0 => []
  | k + 1 => coB P k ++ lnB (P.op k) (P.a k) (P.b k)
def enB (e : Nat → Int) : Nat → List UInt8
  | 0 => []
  | k + 1 => enB e k ++ (32 :: (if e k = -1 then [45] else Lib.itoa (e k)))
def hdB (P : Pg) : List UInt8 := [119, 111, 114, 100, 115] ++ numB P.words ++ [10] ++ ([108, 111, 99, 97, 108, 115] ++ numB P.locals ++ [10]) ++ [101, 110, 116, 114, 121]
def lsB (P : Pg) : List UInt8 := hdB P ++ enB P.en P.m ++ [10] ++ coB P P.n
/-- what can be written -/
def wrP (P : Pg) : Prop := sizedP P ∧ (∀ i, i < P.m → -1 ≤ P.en i ∧ P.en i < 4096) ∧ ∀ i, i < P.n → 0 ≤ P.op i ∧ P.op i < 42
theorem lnB_len {o a b : Int} (ha : I64 a) (hb : I64 b) : (lnB o a b).length ≤ 50 := by
  have h1 := nm_len o
  have h2 := tlN_le o a b
  have h3 := nsB_len (f := abF a b) (k := tlN o a b) fun i _ => by unfold abF; split <;> assumption
  simp only [lnB, List.length_append, List.length_singleton]
  omega
theorem coB_len {P : Pg} (h : ∀ i, i < P.n → I64 (P.a i) ∧ I64 (P.b i)) : ∀ k, k ≤ P.n → (coB P k).length ≤ 50 * k
  | 0, _ => by simp [coB]
  | k + 1, hk => by
    have h1 := coB_len h k (by omega)
    have h2 := lnB_len (o := P.op k) (h k (by omega)).1 (h k (by omega)).2
    simp only [coB, List.length_append]
    omega
theorem enB_len {e : Nat → Int} {m : Nat} (h : ∀ i, i < m → -1 ≤ e i ∧ e i < 4096) : ∀ k, k ≤ m → (enB e k).length ≤ 22 * k
  | 0, _ => by simp [enB]
  | k + 1, hk => by
    have h1 := enB_len h k (by omega)
    have h2 := itoa_len (e k) (by have := (h k (by omega)).1; omega) (by have := (h k (by omega)).2; omega)
    simp only [enB, List.length_append, List.length_cons]
    split
    · simp only [List.length_singleton]; omega
    · omega
theorem hdB_len {P : Pg} (h : sizedP P) : (hdB P).length ≤ 70 := by
  have h1 := numB_len (n := P.words) ⟨by have := h.1.1; omega, by have := h.1.2; omega⟩
  have h2 := numB_len (n := P.locals) ⟨by have := h.2.1.1; omega, by have := h.2.1.2; omega⟩
  simp only [hdB, List.length_append, List.length_cons, List.length_nil]
  omega
/-- the names, as the program holds them -/
def Nms (w : World) : Prop := ∀ k, k < 42 → w.cell? ⟨0, k, none⟩ = some (.string ⟨(nmT.getD k []).toArray⟩)
theorem Nms.keep {w w' : World} (h : Nms w) (hb : Below w.heap.size w w') : Nms w' := by
  intro k hk
  have hc := h k hk
  have hlt : 0 < w.heap.size := by
    unfold World.cell? at hc
    cases hh : w.heap[0]? with
    | none => simp [hh] at hc
    | some o => exact (Array.getElem?_eq_some_iff.1 hh).1
  rw [hb.cell (p := ⟨0, k, none⟩) hlt]
  exact hc
end Go.Proofs.YthbngffonbhakaaDoor
