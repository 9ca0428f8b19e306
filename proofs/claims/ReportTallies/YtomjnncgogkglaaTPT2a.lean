import Derived.Test.YtomjnncgogkglaaTPT1a
namespace Go.Proofs.Ytomjnncgogkglaa
open Go.ChangeShapes Go.WideShapes Go.ChangeAt Go.RowKit
set_option linter.unusedVariables false
set_option linter.unusedSimpArgs false

def atS (L : List Se) (j : Nat) : Se := L.getD j ⟨0, 0, 0, 0, 0, 0⟩
theorem atS_some {L : List Se} {j : Nat} (h : j < L.length) : L[j]? = some (atS L j) := by
  unfold atS
  rw [List.getD_eq_getElem?_getD, List.getElem?_eq_getElem h]
  rfl
/-- the least and the greatest time of the first j events of a list -/
def mmI (L : List Se) : Nat → Int × Int
  | 0 => (0, 0)
  | j + 1 => (if j = 0 ∨ (atS L j).t < (mmI L j).1 then (atS L j).t else (mmI L j).1, if j = 0 ∨ (mmI L j).2 < (atS L j).t then (atS L j).t else (mmI L j).2)
theorem mmI_app (L : List Se) (x : Se) : ∀ j, j ≤ L.length → mmI (L ++ [x]) j = mmI L j
  | 0, _ => rfl
  | j + 1, h => by
    have ih := mmI_app L x j (by omega)
    have e : atS (L ++ [x]) j = atS L j := by
      unfold atS
      rw [List.getD_eq_getElem?_getD, List.getD_eq_getElem?_getD, List.getElem?_append_left (by omega)]
    show (_, _) = (_, _)
    rw [ih, e]
theorem mmI_snoc (L : List Se) (x : Se) : mmI (L ++ [x]) (L.length + 1) = (if L.length = 0 ∨ x.t < (mmI L L.length).1 then x.t else (mmI L L.length).1, if L.length = 0 ∨ (mmI L L.length).2 < x.t then x.t else (mmI L L.length).2) := by
  have e : atS (L ++ [x]) L.length = x := by
    unfold atS
    rw [List.getD_eq_getElem?_getD, List.getElem?_append_right (Nat.le_refl _)]
    simp
  show (_, _) = (_, _)
  rw [mmI_app L x _ (Nat.le_refl _), e]
theorem tl_mm (X : Nat → Se) (k : Int) (n : Nat) : (tl X k n).e = (hp k X n).length ∧ (tl X k n).f = (mmI (hp k X n) (hp k X n).length).1 ∧ (tl X k n).l = (mmI (hp k X n) (hp k X n).length).2 := by
  induction n with
  | zero => exact ⟨rfl, rfl, rfl⟩
  | succ n ih =>
    have hs : (tl X k (n + 1)).e = (tmid (tl X k n) (X n) k).e ∧ (tl X k (n + 1)).f = (tmid (tl X k n) (X n) k).f ∧ (tl X k (n + 1)).l = (tmid (tl X k n) (X n) k).l := by
      show ((if _ then _ else _ : Ty).e = _) ∧ ((if _ then _ else _ : Ty).f = _) ∧ (if _ then _ else _ : Ty).l = _
      split
      · exact ⟨rfl, rfl, rfl⟩
      · exact ⟨rfl, rfl, rfl⟩
    rw [hs.1, hs.2.1, hs.2.2]
    obtain ⟨i1, i2, i3⟩ := ih
    unfold tmid
    by_cases h : (X n).d = k
    · rw [if_pos h, hp_yes h, List.length_append, List.length_singleton, mmI_snoc]
      show (tl X k n).e + 1 = _ ∧ (if (tl X k n).e = 0 then _ else _) = (if _ then _ else _) ∧ (if (tl X k n).e = 0 then _ else _) = (if _ then _ else _)
      rw [← i2, ← i3]
      refine ⟨by rw [i1]; simp, ?_, ?_⟩
      · by_cases h0 : (hp k X n).length = 0
        · rw [if_pos (by omega), if_pos (.inl h0)]
        · rw [if_neg (by omega)]
          by_cases h1 : (X n).t < (tl X k n).f
          · rw [if_pos (.inr h1)]; omega
          · rw [if_neg (by omega)]; omega
      · by_cases h0 : (hp k X n).length = 0
        · rw [if_pos (by omega), if_pos (.inl h0)]
        · rw [if_neg (by omega)]
          by_cases h1 : (tl X k n).l < (X n).t
          · rw [if_pos (.inr h1)]; omega
          · rw [if_neg (by omega)]; omega
    · rw [if_neg h, hp_no h]
      exact ⟨i1, i2, i3⟩
theorem tl_sent (X : Nat → Se) (k : Int) (n : Nat) : (tl X k (n + 1)).s = if (X n).s = k then (tl X k n).s + 1 else (tl X k n).s := by
  have := (tmid_le (tl X k n) (X n) k).1
  show (if _ then _ else _ : Ty).s = _
  split
  · show (tmid (tl X k n) (X n) k).s + 1 = _
    rw [this]
  · exact this
theorem fin_eq (X : Nat → Se) (N : Nat) (k : Int) : fin X N k = ⟨k, (hp k X N).length, (tl X k N).s, (mmI (hp k X N) (hp k X N).length).1, (mmI (hp k X N) (hp k X N).length).2⟩ := by
  obtain ⟨h1, h2, h3⟩ := tl_mm X k N
  unfold fin
  rw [h1, h2, h3]
theorem pr_in {X : Nat → Se} {k : Int} {n : Nat} {K : List Int} (h : ∀ x, x ∈ K ↔ pr X x n = true) : ((k ∈ K ∨ k = (X n).d) ∨ k = (X n).s) ↔ pr X k (n + 1) = true := by
  show _ ↔ (decide (k = (X n).s) || (decide (k = (X n).d) || pr X k n)) = true
  rw [h]
  simp only [Bool.or_eq_true, decide_eq_true_eq]
  constructor
  · rintro ((a | a) | a)
    · exact .inr (.inr a)
    · exact .inr (.inl a)
    · exact .inl a
  · rintro (a | a | a)
    · exact .inr a
    · exact .inl (.inr a)
    · exact .inl (.inl a)
theorem set5_1 {W : World} {b : Nat} {c0 c1 c2 c3 c4 : Value} {t : TypeId} (h : W.heap[b]? = some (.cells #[c0, c1, c2, c3, c4] t (0, 0))) (v : Value) : (W.setCell ⟨b, 1, none⟩ v).heap[b]? = some (.cells #[c0, v, c2, c3, c4] t (0, 0)) := by rw [setCell_block _ _ _ _ h]; rfl
theorem set5_2 {W : World} {b : Nat} {c0 c1 c2 c3 c4 : Value} {t : TypeId} (h : W.heap[b]? = some (.cells #[c0, c1, c2, c3, c4] t (0, 0))) (v : Value) : (W.setCell ⟨b, 2, none⟩ v).heap[b]? = some (.cells #[c0, c1, v, c3, c4] t (0, 0)) := by rw [setCell_block _ _ _ _ h]; rfl
theorem set5_3 {W : World} {b : Nat} {c0 c1 c2 c3 c4 : Value} {t : TypeId} (h : W.heap[b]? = some (.cells #[c0, c1, c2, c3, c4] t (0, 0))) (v : Value) : (W.setCell ⟨b, 3, none⟩ v).heap[b]? = some (.cells #[c0, c1, c2, v, c4] t (0, 0)) := by rw [setCell_block _ _ _ _ h]; rfl
theorem set5_4 {W : World} {b : Nat} {c0 c1 c2 c3 c4 : Value} {t : TypeId} (h : W.heap[b]? = some (.cells #[c0, c1, c2, c3, c4] t (0, 0))) (v : Value) : (W.setCell ⟨b, 4, none⟩ v).heap[b]? = some (.cells #[c0, c1, c2, c3, v] t (0, 0)) := by rw [setCell_block _ _ _ _ h]; rfl
theorem gr_set (W : World) (b o : Nat) (v : Value) : W.grownBy (W.setCell ⟨b, o, none⟩ v) (some b) := ⟨rfl, rfl, rfl, by simp [World.setCell], fun k hk hs => Below.heap_setCell _ _ _ _ fun e => hs (by show some k = some b; rw [show k = b from e])⟩
theorem gr_trans {a b c : World} {r : Option Nat} (h : a.grownBy b r) (k : b.grownBy c r) : a.grownBy c r := ⟨k.os.trans h.os, k.tape.trans h.tape, k.output.trans h.output, Nat.le_trans h.size k.size, fun i hi hs => (k.block i (Nat.lt_of_lt_of_le hi h.size) hs).trans (h.block i hi hs)⟩
theorem gr_alloc (W : World) (o : Obj) (r : Option Nat) : W.grownBy (W.alloc o) r := World.grownBy_alloc W o r
theorem gr_below {a b : World} {g B : Nat} (h : a.grownBy b (some g)) (h1 : B ≤ a.heap.size) (h2 : B ≤ g) : Below B a b := ⟨h.os, h.tape, h.output, h.size, fun k hk => h.block k (by omega) (by intro e; injection e with e; omega)⟩
theorem gr_of {a b : World} {r : Option Nat} (h : Below a.heap.size a b) : a.grownBy b r := ⟨h.os, h.tape, h.output, h.size, fun k hk _ => h.block k hk⟩
theorem rowE_cells {W : World} {base g c : Nat} {L : List Se} (h : W.ownsRow base 67 6 (.slice (some ⟨g, 0, none⟩) L.length c) L.length (L.flatMap seL)) {j : Nat} (hj : j < L.length) : W.cell? ⟨g, j * 6, none⟩ = some (.int .u64 (atS L j).t) ∧ W.cell? ⟨g, j * 6 + 1, none⟩ = some (.int .i64 (atS L j).s) ∧ W.cell? ⟨g, j * 6 + 2, none⟩ = some (.int .u64 (atS L j).q) ∧ W.cell? ⟨g, j * 6 + 3, none⟩ = some (.int .i64 (atS L j).d) ∧ W.cell? ⟨g, j * 6 + 4, none⟩ = some (.int .i64 (atS L j).k) ∧ W.cell? ⟨g, j * 6 + 5, none⟩ = some (.int .i64 (atS L j).v) := by
  have key : ∀ r u, r < 6 → (seL (atS L j))[r]? = some u → W.cell? ⟨g, j * 6 + r, none⟩ = some u := fun r u hr hu => by
    have := h.cells (g := g) rfl (j * 6 + r) u (by rw [fmA (enc := seL) (k := 6) (fun _ => rfl) L j _ r hr (atS_some hj)]; exact hu)
    rw [addr_add0, Nat.zero_add] at this
    exact this
  exact ⟨key 0 _ (by decide) rfl, key 1 _ (by decide) rfl, key 2 _ (by decide) rfl, key 3 _ (by decide) rfl, key 4 _ (by decide) rfl, key 5 _ (by decide) rfl⟩
end Go.Proofs.Ytomjnncgogkglaa
