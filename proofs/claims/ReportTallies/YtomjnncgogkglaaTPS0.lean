import Derived.Test.YtomjnncgogkglaaTPHb
import Derived.Test.YtomjnncgogkglaaTPZ
namespace Go.Proofs.Ytomjnncgogkglaa
open Go.ChangeShapes Go.WideShapes Go.ChangeAt Go.RowKit Go.Sort
set_option linter.unusedVariables false
set_option linter.unusedSimpArgs false

section
variable {α : Type} {enc : α → List Value} {k : Nat}
theorem fmA (hk : ∀ x, (enc x).length = k) (L : List α) (i : Nat) (x : α) (r : Nat) (hr : r < k) (h : L[i]? = some x) : (L.flatMap enc)[i * k + r]? = (enc x)[r]? := by
  induction L generalizing i with
  | nil => simp at h
  | cons a l ih =>
    cases i with
    | zero =>
      simp at h
      subst h
      simp only [List.flatMap_cons, Nat.zero_mul, Nat.zero_add]
      rw [List.getElem?_append_left (by rw [hk]; exact hr)]
    | succ i =>
      simp at h
      simp only [List.flatMap_cons]
      rw [List.getElem?_append_right (by rw [hk, Nat.add_mul]; omega), hk, Nat.add_mul, show i * k + 1 * k + r - k = i * k + r by omega]
      exact ih i h
theorem fmA_len (hk : ∀ x, (enc x).length = k) (L : List α) : (L.flatMap enc).length = L.length * k := by
  induction L with
  | nil => simp
  | cons a l ih => rw [List.flatMap_cons, List.length_append, ih, hk, List.length_cons, Nat.add_mul]; omega
theorem flat_list [Inhabited α] (hk : ∀ x, (enc x).length = k) (L : List α) : (flatK enc k L.toArray).toList = L.flatMap enc := by
  apply List.ext_getElem?
  intro j
  by_cases hj : j < L.length * k
  · have hk0 : 0 < k := by
      rcases Nat.eq_zero_or_pos k with h | h
      · subst h; simp at hj
      · exact h
    have hq : j / k < L.length := Nat.div_lt_of_lt_mul (by rw [Nat.mul_comm]; exact hj)
    have hr : j % k < k := Nat.mod_lt _ hk0
    have e := fmA hk L (j / k) L[j / k] (j % k) hr (List.getElem?_eq_getElem hq)
    rw [show j / k * k + j % k = j by rw [Nat.mul_comm]; exact Nat.div_add_mod j k] at e
    rw [e, Array.getElem?_toList]
    have h1 : j < (flatK enc k L.toArray).size := by simpa using hj
    rw [Array.getElem?_eq_getElem h1, ← getElem!_pos _ j h1, get_flatK _ _ _ j (by simpa using hj)]
    have h2 : L.toArray[j / k]! = L[j / k] := by simp [hq]
    rw [h2]
    have h3 : j % k < (enc L[j / k]).length := by rw [hk]; exact hr
    rw [List.getElem?_eq_getElem h3, getElem!_pos (enc L[j / k]) (j % k) h3]
  · rw [List.getElem?_eq_none (by simp; omega), List.getElem?_eq_none (by rw [fmA_len hk]; omega)]
theorem holds_row [Inhabited α] (hk : ∀ x, (enc x).length = k) {W : World} {base : Nat} {e : TypeId} {g c : Nat} {L : List α} (h : W.ownsRow base e k (.slice (some ⟨g, 0, none⟩) L.length c) L.length (L.flatMap enc)) : HoldsK enc k W g 0 L.toArray := by
  intro j hj
  have hj' : j < L.length * k := by simpa using hj
  refine ⟨?_, ?_⟩
  · have e1 : (L.flatMap enc)[j]? = some ((flatK enc k L.toArray)[j]!) := by
      rw [← flat_list hk, Array.getElem?_toList, Array.getElem?_eq_getElem hj, getElem!_pos _ j hj]
    have := h.cells (g := g) rfl j _ e1
    rw [addr_add0] at this
    exact this
  · obtain ⟨cur, h1, _⟩ := (own_of h).block
    simp [World.frozen?, h1]
theorem sorted_block {w : World} {g n : Nat} {os : Array Obj} {cur : Array Value} {e : TypeId} {fr : Nat × Nat} (F : Array Value) (hb : w.heap[g]? = some (.cells cur e fr)) :
    (grow (putRow id (Sort.ahead w n) g 0 F) os).heap[g]? = some (.cells (putCells id 0 F cur) e fr) := by
  have hg : g < w.heap.size := (Array.getElem?_eq_some_iff.1 hb).1
  rw [heap_grow_old _ _ (by simpa using hg)]
  simp [putRow, mapBlock, Sort.ahead, Array.getElem?_modify, hb, onCells]
theorem sorted_grown {w : World} {g n : Nat} {os : Array Obj} (F : Array Value) : w.grownBy (grow (putRow id (Sort.ahead w n) g 0 F) os) (some g) := by
  refine ⟨rfl, rfl, rfl, by simp, fun k hk hne => ?_⟩
  rw [heap_grow_old _ _ (by simpa using hk)]
  have : g ≠ k := fun e => hne (by rw [e])
  simp [putRow, mapBlock, Sort.ahead, Array.getElem?_modify, this]
theorem sorted_take (cur F : Array Value) (h : F.size ≤ cur.size) : (putCells id 0 F cur).toList.take F.size = F.toList := by
  apply List.ext_getElem?
  intro j
  by_cases hj : j < F.size
  · rw [List.getElem?_take_of_lt hj, Array.getElem?_toList]
    simp [putCells, hj, show j < cur.size by omega]
  · rw [List.getElem?_take_eq_none (by omega), List.getElem?_eq_none (by simp; omega)]
theorem sorted_row [Inhabited α] (hk : ∀ x, (enc x).length = k) {w : World} {base : Nat} {e : TypeId} {g c n : Nat} {os : Array Obj} {L M : List α} (h : w.ownsRow base e k (.slice (some ⟨g, 0, none⟩) L.length c) L.length (L.flatMap enc)) (hl : M.length = L.length) :
    (sortWorldK enc k w g 0 n M.toArray os).ownsRow base e k (.slice (some ⟨g, 0, none⟩) L.length c) L.length (M.flatMap enc) ∧ w.grownBy (sortWorldK enc k w g 0 n M.toArray os) (some g) := by
  obtain ⟨cur, h1, h2, h3, h4, h5, h6⟩ := (own_of h).block
  have hf : (flatK enc k M.toArray).size = L.length * k := by simp [hl]
  refine ⟨⟨by rw [fmA_len hk, hl], .inr ⟨g, c, _, rfl, h5, sorted_block (flatK enc k M.toArray) h1, h3, h4, by simp [putCells, h2], ?_⟩⟩, sorted_grown _⟩
  rw [← hf, sorted_take _ _ (by rw [hf, h2]; exact Nat.mul_le_mul_right _ h3), flat_list hk]
end
end Go.Proofs.Ytomjnncgogkglaa
