import Derived.Test.YtllhbggipbefmacDBelow
import Derived.Deep.OwnRows
import Derived.BigRegion
namespace Go.Proofs.Ytllhbggipbefmac
open Go.ChangeShapes Go.WideShapes Go.ChangeAt Go.RowKit
set_option linter.unusedVariables false

/-- block g is a row of n cells, the k-th one f k -/
def RowV (w : World) (g : Nat) (T : TypeId) (n : Nat) (f : Nat → Value) : Prop :=
  ∃ arr : Array Value, w.heap[g]? = some (.cells arr T (0, 0)) ∧ arr.size = n ∧ ∀ k, k < n → arr[k]? = some (f k)
def upd (f : Nat → Value) (i : Nat) (v : Value) : Nat → Value := fun k => if k = i then v else f k

theorem RowV.cell {w : World} {g n : Nat} {T : TypeId} {f : Nat → Value} (h : RowV w g T n f) {k : Nat} (hk : k < n) : w.cell? ⟨g, k, none⟩ = some (f k) := by
  obtain ⟨arr, h1, h2, h3⟩ := h
  simp [World.cell?, h1, h3 k hk]
theorem RowV.frozen {w : World} {g n : Nat} {T : TypeId} {f : Nat → Value} (h : RowV w g T n f) (k : Nat) : w.frozen? ⟨g, k, none⟩ = false := by
  obtain ⟨arr, h1, h2, h3⟩ := h
  simp [World.frozen?, h1]
theorem RowV.lt {w : World} {g n : Nat} {T : TypeId} {f : Nat → Value} (h : RowV w g T n f) : g < w.heap.size := by
  obtain ⟨arr, h1, h2, h3⟩ := h
  rw [Array.getElem?_eq_some_iff] at h1
  exact h1.1
theorem RowV.drew {w : World} {g n : Nat} {T : TypeId} {f : Nat → Value} (h : RowV w g T n f) : RowV w.drew g T n f := h
theorem RowV.congr {w : World} {g n : Nat} {T : TypeId} {f f' : Nat → Value} (h : RowV w g T n f) (e : ∀ k, k < n → f k = f' k) : RowV w g T n f' := by
  obtain ⟨arr, h1, h2, h3⟩ := h
  exact ⟨arr, h1, h2, fun k hk => by rw [h3 k hk, e k hk]⟩
theorem RowV.set {w : World} {g n : Nat} {T : TypeId} {f : Nat → Value} (h : RowV w g T n f) (i : Nat) (hi : i < n) (v : Value) : RowV (w.setCell ⟨g, i, none⟩ v) g T n (upd f i v) := by
  obtain ⟨arr, h1, h2, h3⟩ := h
  refine ⟨arr.setIfInBounds i v, ?_, by simp [h2], fun k hk => ?_⟩
  · simp [World.setCell, Array.getElem?_modify, h1]
  · unfold upd
    by_cases e : k = i
    · subst e; simp [h2, hk]
    · rw [if_neg e, Array.getElem?_setIfInBounds, if_neg (fun x => e x.symm), h3 k hk]
theorem RowV.below {w w' : World} {g n Z : Nat} {T : TypeId} {f : Nat → Value} (h : RowV w g T n f) (hb : Below Z w w') (hg : g < Z) : RowV w' g T n f := by
  obtain ⟨arr, h1, h2, h3⟩ := h
  exact ⟨arr, by rw [hb.block g hg]; exact h1, h2, h3⟩
theorem RowV.setOther {w : World} {g g' n i : Nat} {T : TypeId} {f : Nat → Value} {v : Value} (h : RowV w g T n f) (hne : g ≠ g') : RowV (w.setCell ⟨g', i, none⟩ v) g T n f := by
  obtain ⟨arr, h1, h2, h3⟩ := h
  exact ⟨arr, by rw [Below.heap_setCell _ _ _ _ hne]; exact h1, h2, h3⟩
theorem row_made (w : World) (n : Nat) (T : TypeId) (z : Value) : RowV (w.alloc (.cells (madeCells #[z] n) T)) w.heap.size T n (fun _ => z) := by
  refine ⟨madeCells #[z] n, ?_, size_madeCells _ _, fun k hk => ?_⟩
  · simp only [World.alloc, Array.getElem?_push_size]
  · have e : k % 1 = 0 := by omega
    simp [madeCells, hk, e]

def ints (f : Nat → Int) : Nat → Value := fun k => .int .i64 (f k)
def swp (f : Nat → Int) (i j : Nat) : Nat → Int := fun k => if k = j then f i else if k = i then f j else f k
theorem upd_swp (f : Nat → Int) (i j : Nat) : upd (upd (ints f) i (.int .i64 (f j))) j (.int .i64 (f i)) = ints (swp f i j) := by
  funext k
  unfold upd ints swp
  repeat' split
  all_goals rfl
theorem upd_swp' (f : Nat → Int) (i j : Nat) : upd (upd (ints f) j (.int .i64 (f i))) i (.int .i64 (f j)) = ints (swp f i j) := by
  funext k
  unfold upd ints swp
  by_cases h1 : k = i
  · by_cases h2 : k = j
    · rw [if_pos h1, if_pos h2, ← h1, ← h2]
    · rw [if_pos h1, if_neg h2, if_pos h1]
  · by_cases h2 : k = j
    · rw [if_neg h1, if_pos h2, if_pos h2]
    · rw [if_neg h1, if_neg h2, if_neg h2, if_neg h1]
def rj (c : Nat) (st : BitVec 64) : BitVec 64 := blw 8 st (18446744073709551616 % ((c : Int) + 1))
def jj (c : Nat) (st : BitVec 64) : Nat := (U (mx (rj c st)) % ((c : Int) + 1)).toNat
def shufG (J : Nat → BitVec 64 → Nat) (R : Nat → BitVec 64 → BitVec 64) : Nat → (Nat → Int) → BitVec 64 → (Nat → Int) × BitVec 64
  | 0, f, st => (f, st)
  | c + 1, f, st => shufG J R c (swp f (c + 1) (J (c + 1) st)) (R (c + 1) st)
theorem shufG_succ (J : Nat → BitVec 64 → Nat) (R : Nat → BitVec 64 → BitVec 64) (c : Nat) (f : Nat → Int) (st : BitVec 64) : shufG J R (c + 1) f st = shufG J R c (swp f (c + 1) (J (c + 1) st)) (R (c + 1) st) := rfl
theorem shufG_zero (J : Nat → BitVec 64 → Nat) (R : Nat → BitVec 64 → BitVec 64) (f : Nat → Int) (st : BitVec 64) : shufG J R 0 f st = (f, st) := rfl
def shufGo (c : Nat) (f : Nat → Int) (st : BitVec 64) : (Nat → Int) × BitVec 64 := shufG jj rj c f st
theorem shufGo_succ (c : Nat) (f : Nat → Int) (st : BitVec 64) : shufGo (c + 1) f st = shufGo c (swp f (c + 1) (jj (c + 1) st)) (rj (c + 1) st) := shufG_succ jj rj c f st
theorem shufGo_zero (f : Nat → Int) (st : BitVec 64) : shufGo 0 f st = (f, st) := shufG_zero jj rj f st
theorem jj_le (c : Nat) (st : BitVec 64) : jj c st ≤ c := by
  unfold jj
  have h1 := Int.emod_nonneg (U (mx (rj c st))) (b := (c : Int) + 1) (by omega)
  have h2 := Int.emod_lt_of_pos (U (mx (rj c st))) (b := (c : Int) + 1) (by omega)
  omega
theorem jj_cast (c : Nat) (st : BitVec 64) : U (mx (rj c st)) % ((c : Int) + 1) = (jj c st : Int) := by
  unfold jj
  have h1 := Int.emod_nonneg (U (mx (rj c st))) (b := (c : Int) + 1) (by omega)
  omega
/-- what Shuffle answers: the numbers, the last state -/
def shuf (n : Nat) (st : BitVec 64) : (Nat → Int) × BitVec 64 := shufGo (n - 1) (fun k => (k : Int)) st
def permN (n : Nat) (f : Nat → Int) : Prop := (∀ k, k < n → 0 ≤ f k ∧ f k < n) ∧ ∀ a b, a < n → b < n → f a = f b → a = b
theorem perm_swp {n : Nat} {f : Nat → Int} (h : permN n f) {i j : Nat} (hi : i < n) (hj : j < n) : permN n (swp f i j) := by
  refine ⟨fun k hk => ?_, fun a b ha hb e => ?_⟩
  · unfold swp
    repeat' split
    · exact h.1 i hi
    · exact h.1 j hj
    · exact h.1 k hk
  · unfold swp at e
    by_cases a1 : a = j <;> by_cases b1 : b = j
    · omega
    · simp only [a1, b1, if_true, if_false] at e
      by_cases b2 : b = i
      · simp only [b2, if_true] at e
        have := h.2 i j hi hj e
        omega
      · simp only [b2, if_false] at e
        have := h.2 i b hi hb e
        omega
    · simp only [a1, b1, if_true, if_false] at e
      by_cases a2 : a = i
      · simp only [a2, if_true] at e
        have := h.2 j i hj hi e
        omega
      · simp only [a2, if_false] at e
        have := h.2 a i ha hi e
        omega
    · simp only [a1, b1, if_false] at e
      by_cases a2 : a = i <;> by_cases b2 : b = i
      · omega
      · simp only [a2, b2, if_true, if_false] at e
        have := h.2 j b hj hb e
        omega
      · simp only [a2, b2, if_true, if_false] at e
        have := h.2 a j ha hj e
        omega
      · simp only [a2, b2, if_false] at e
        exact h.2 a b ha hb e
theorem perm_go {n : Nat} : ∀ c f st, c < n → permN n f → permN n (shufGo c f st).1 := by
  intro c
  induction c with
  | zero => intro f st _ h; rw [shufGo_zero]; exact h
  | succ c ih =>
    intro f st hc h
    have := jj_le (c + 1) st
    rw [shufGo_succ]
    exact ih _ _ (by omega) (perm_swp h hc (by omega))
theorem perm_shuf (n : Nat) (st : BitVec 64) : permN n (shuf n st).1 := by
  by_cases h : n = 0
  · subst h
    exact ⟨fun k hk => absurd hk (by omega), fun a b ha => absurd ha (by omega)⟩
  · refine perm_go _ _ _ (by omega) ⟨fun k hk => ?_, fun a b _ _ e => ?_⟩
    · show 0 ≤ (k : Int) ∧ (k : Int) < n
      omega
    · have e2 : (a : Int) = (b : Int) := e
      omega
end Go.Proofs.Ytllhbggipbefmac
