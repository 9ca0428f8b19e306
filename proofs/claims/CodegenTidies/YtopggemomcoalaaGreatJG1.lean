import Derived.Test.YtopggemomcoalaaGreatJVB
import Derived.Test.YtopggemomcoalaaGreatChecked
import Derived.WalkKit
import Derived.ProofKit
import Derived.OpenShut
import Derived.BigRegion
import Derived.BigQuiet
import Derived.Deep.AppendLies
import Derived.Laws.CopyOwn
import Derived.RangeFuncBox
import Derived.Maps.AppendAt
namespace Go.Proofs.YtopggemomcoalaaGreat
open Go.ChangeShapes Go.WideShapes Go.ChangeAt Go.RowKit
set_option linter.unusedVariables false

/-! ### lists of ints, wherever they lie -/
/-- n ints lie at p -/
def KAt (W : World) (p : Option Addr) (n : Nat) (K : Nat → Int) : Prop :=
  n = 0 ∨ ∃ b o, p = some ⟨b, o, none⟩ ∧ b < W.heap.size ∧ ∀ j, j < n → W.cell? ⟨b, o + j, none⟩ = some (.int .i64 (K j))
theorem KAt.below {W W' : World} {p : Option Addr} {n : Nat} {K : Nat → Int} (h : KAt W p n K) (hb : Below W.heap.size W W') : KAt W' p n K := by
  rcases h with h | ⟨b, o, rfl, hl, hc⟩
  · exact .inl h
  · exact .inr ⟨b, o, rfl, Nat.lt_of_lt_of_le hl hb.size, fun j hj => (cell_below (a := ⟨b, o + j, none⟩) hb hl).trans (hc j hj)⟩

/-- are they the same? -/
def sameF (n : Nat) (K L : Nat → Int) : Bool := (List.range n).all fun j => K j == L j
theorem sameF_yes {n : Nat} {K L : Nat → Int} (h : ∀ j, j < n → K j = L j) : sameF n K L = true := by
  unfold sameF
  rw [List.all_eq_true]
  intro j hj
  simpa using h j (List.mem_range.1 hj)
theorem sameF_no {n : Nat} {K L : Nat → Int} {j : Nat} (hj : j < n) (h : K j ≠ L j) : sameF n K L = false := by
  unfold sameF
  rw [List.all_eq_false]
  exact ⟨j, List.mem_range.2 hj, by simpa using h⟩

set_option maxRecDepth 100000 in
set_option maxHeartbeats 1000000 in
theorem sameInts_any (p q : Option Addr) (n m c d : Nat) (K L : Nat → Int) (hn : n ≤ 17592186044416) (w : World) (hp : KAt w p n K) (hq : KAt w q m L) :
    Calls Tryz.prog 26 #[.slice p n c, .slice q m d] w fun e w' => e = .returned (.bool (decide (n = m) && sameF n K L)) ∧ Below w.heap.size w w' := by
  by_cases hnm : n = m
  · subst hnm
    rw [decide_eq_true rfl, Bool.true_and]
    have fy : Hid ((∀ j, j < n → K j = L j) → sameF n K L = true) := sameF_yes
    have fn : ∀ j, Hid (j < n → K j ≠ L j → sameF n K L = false) := fun j => sameF_no
    generalize sameF n K L = res at fy fn ⊢
    go_enter Tryz.func26, Tryz.ntmps26
    go_wp2
    go_loopw [13] (fun v wr => ∃ i : Nat, v = .int .i64 i ∧ i ≤ n ∧ Hid (∀ j, j < i → K j = L j) ∧ Below w.heap.size w wr) (fun v _ => n - (intOf v).toNat)
    case atStart => exact ⟨0, rfl, Nat.zero_le _, (fun j hj => by omega : ∀ j, j < 0 → K j = L j), Below.refl _ _⟩
    case round =>
      obtain ⟨i, rfl, hi, hsm, hbel⟩ := hrel
      by_cases hlt : i < n
      · obtain h0 | ⟨b, o, rfl, hl, hc⟩ := hp
        · omega
        obtain h0 | ⟨b', o', rfl, hl', hc'⟩ := hq
        · omega
        have x0 := (cell_below (a := ⟨b, o + i, none⟩) hbel hl).trans (hc i hlt)
        have y0 := (cell_below (a := ⟨b', o' + i, none⟩) hbel hl').trans (hc' i hlt)
        have dl : decide ((i : Int) < n) = true := decide_eq_true (by omega)
        have hm := meas0 hlt
        have hni := fn i
        clear hc hc' hl hl' fn
        by_cases he : K i = L i
        · have hsm' : Hid (∀ j, j < i + 1 → K j = L j) := by
            show ∀ j, j < i + 1 → K j = L j
            intro j hj
            by_cases h : j < i
            · exact hsm.out j h
            · obtain rfl : j = i := by omega
              exact he
          rw [he] at x0
          clear he hsm hni
          generalize L i = z at x0 y0
          go_wp2
          go_quiet (fail)
          go_wp2
          exact ⟨⟨i + 1, rfl, hlt, hsm', hbel.trans (below_drewNq _ _ _)⟩, hm⟩
        · have hres : res = false := hni.out hlt he
          subst hres
          have de : (K i == L i) = false := by simpa using he
          clear he hsm hni fy
          generalize K i = z1 at x0 de
          generalize L i = z2 at y0 de
          go_wp2
          go_quiet (fail)
          go_wp2
          go_ret
          exact ⟨rfl, hbel.trans (below_drewNq _ _ _)⟩
      · have dl : decide ((i : Int) < n) = false := decide_eq_false (by omega)
        obtain rfl : i = n := by omega
        have hres : res = true := fy.out hsm.out
        subst hres
        clear fy fn hp hq
        go_wp2
        go_ret
        exact ⟨rfl, hbel⟩
  · have d0 : ((n : Int) == m) = false := by simp; omega
    rw [decide_eq_false hnm, Bool.false_and]
    clear hp hq
    go_enter Tryz.func26, Tryz.ntmps26
    go_wp2
    go_ret
    exact ⟨rfl, Below.refl _ _⟩
set_option maxRecDepth 100000 in
set_option maxHeartbeats 1000000 in
theorem equalInts_any (p q : Option Addr) (n m c d : Nat) (K L : Nat → Int) (hn : n ≤ 17592186044416) (w : World) (hp : KAt w p n K) (hq : KAt w q m L) :
    Calls Tryz.prog 45 #[.slice p n c, .slice q m d] w fun e w' => e = .returned (.bool (decide (n = m) && sameF n K L)) ∧ Below w.heap.size w w' := by
  by_cases hnm : n = m
  · subst hnm
    rw [decide_eq_true rfl, Bool.true_and]
    have fy : Hid ((∀ j, j < n → K j = L j) → sameF n K L = true) := sameF_yes
    have fn : ∀ j, Hid (j < n → K j ≠ L j → sameF n K L = false) := fun j => sameF_no
    generalize sameF n K L = res at fy fn ⊢
    go_enter Tryz.func45, Tryz.ntmps45
    go_wp2
    go_loopw [13] (fun v wr => ∃ i : Nat, v = .int .i64 i ∧ i ≤ n ∧ Hid (∀ j, j < i → K j = L j) ∧ Below w.heap.size w wr) (fun v _ => n - (intOf v).toNat)
    case atStart => exact ⟨0, rfl, Nat.zero_le _, (fun j hj => by omega : ∀ j, j < 0 → K j = L j), Below.refl _ _⟩
    case round =>
      obtain ⟨i, rfl, hi, hsm, hbel⟩ := hrel
      by_cases hlt : i < n
      · obtain h0 | ⟨b, o, rfl, hl, hc⟩ := hp
        · omega
        obtain h0 | ⟨b', o', rfl, hl', hc'⟩ := hq
        · omega
        have x0 := (cell_below (a := ⟨b, o + i, none⟩) hbel hl).trans (hc i hlt)
        have y0 := (cell_below (a := ⟨b', o' + i, none⟩) hbel hl').trans (hc' i hlt)
        have dl : decide ((i : Int) < n) = true := decide_eq_true (by omega)
        have hm := meas0 hlt
        have hni := fn i
        clear hc hc' hl hl' fn
        by_cases he : K i = L i
        · have hsm' : Hid (∀ j, j < i + 1 → K j = L j) := by
            show ∀ j, j < i + 1 → K j = L j
            intro j hj
            by_cases h : j < i
            · exact hsm.out j h
            · obtain rfl : j = i := by omega
              exact he
          rw [he] at x0
          clear he hsm hni
          generalize L i = z at x0 y0
          go_wp2
          go_quiet (fail)
          go_wp2
          exact ⟨⟨i + 1, rfl, hlt, hsm', hbel.trans (below_drewNq _ _ _)⟩, hm⟩
        · have hres : res = false := hni.out hlt he
          subst hres
          have de : (K i == L i) = false := by simpa using he
          clear he hsm hni fy
          generalize K i = z1 at x0 de
          generalize L i = z2 at y0 de
          go_wp2
          go_quiet (fail)
          go_wp2
          go_ret
          exact ⟨rfl, hbel.trans (below_drewNq _ _ _)⟩
      · have dl : decide ((i : Int) < n) = false := decide_eq_false (by omega)
        obtain rfl : i = n := by omega
        have hres : res = true := fy.out hsm.out
        subst hres
        clear fy fn hp hq
        go_wp2
        go_ret
        exact ⟨rfl, hbel⟩
  · have d0 : ((n : Int) == m) = false := by simp; omega
    rw [decide_eq_false hnm, Bool.false_and]
    clear hp hq
    go_enter Tryz.func45, Tryz.ntmps45
    go_wp2
    go_ret
    exact ⟨rfl, Below.refl _ _⟩

/-! ### CopyInts -/
def intsL (K : Nat → Int) (L : Nat) : List Value := (List.range L).map fun i => Value.int .i64 (K i)
theorem intsL_len (K : Nat → Int) (L : Nat) : (intsL K L).length = L := by simp [intsL]
theorem intsL_get {K : Nat → Int} {L i : Nat} (h : i < L) : (intsL K L)[i]? = some (.int .i64 (K i)) := by simp [intsL, h]
theorem intsL_one (K : Nat → Int) (L : Nat) : ∀ u ∈ intsL K L, u.oneCell' = true := by
  intro u hu
  simp [intsL] at hu
  obtain ⟨i, _, rfl⟩ := hu
  rfl
theorem infoInt : (Tryz.prog.info? 3).map (fun i => (i.zero, i.size, i.bytes)) = some (some (.int .i64 0), 1, 8) := by kernel_rfl

set_option maxRecDepth 100000 in
set_option maxHeartbeats 1000000 in
theorem copyInts_any (sl : Option Addr) (L cap : Nat) (K : Nat → Int) (w : World) (hL : L ≤ 17592186044416) (h : KAt w sl L K) :
    Calls Tryz.prog 23 #[.slice sl L cap] w fun r w' => r = .returned (.slice (some ⟨w.heap.size, 0, none⟩) L L) ∧ w'.heap[w.heap.size]? = some (.cells (intsL K L).toArray 3 (0, 0)) ∧ Below w.heap.size w w' ∧ w.heap.size < w'.heap.size := by
  obtain ⟨i5, hi5, ha5, hb5, hc5⟩ := info_parts infoInt
  have hsz : (Tryz.prog.info? 3).map (·.size) = some 1 := by simp [hi5, hb5]
  go_enter Tryz.func23, Tryz.ntmps23
  go_wp2_with (at_make; refine wpList_make_full _ rfl (.tmp 5) (.tmp 5) 23 rfl w.heap.size 3 i5 (.int .i64 0) 1 Tryz.underlying23 hi5 ha5 hb5 .i64 .i64 L L L rfl rfl rfl rfl ?c1 ?c2 ?c3 ?_)
  case c1 => rw [hc5]; omega
  case c2 => unfold maxLen; omega
  case c3 => exact Nat.le_refl _
  intro w1 hown hgrow
  obtain ⟨cur, hcur, hcs⟩ : ∃ cur : List Value, w1.heap[w.heap.size]? = some (.cells cur.toArray 3 (0, 0)) ∧ cur.length = L := by
    obtain ⟨_, hx | ⟨g', cap', cur, hv, _, hh, _, _, hs, _⟩⟩ := hown
    · simp at hx
    · simp at hv
      obtain ⟨rfl, rfl⟩ := hv
      exact ⟨cur.toList, by simpa using hh, by simpa using hs⟩
  have hb1 : Below w.heap.size w w1 := (Below.refl _ _).grown hgrow (Nat.le_refl _) (by simp)
  have hlt1 : w.heap.size < w1.heap.size := lt_of_block hcur
  have hB1 := h.below hb1
  have HC : Hid (w1.heap[w.heap.size]? = some (.cells cur.toArray 3 (0, 0))) := hcur
  clear hown hgrow hcur
  go_wp2_with (refine wpList_copy_splice rfl (.tmp 7) (.tmp 8) 23 23 rfl 3 Tryz.underlying23 hsz (some ⟨w.heap.size, 0, none⟩) sl L L L cap rfl rfl w.heap.size 0 cur 3 HC.out (intsL K L) ?d1 ?d2 ?d3 (intsL_one K L) w.heap.size w hb1 (Nat.le_refl _) ?_)
  case d1 => rw [intsL_len]; simp
  case d2 =>
    intro hp
    rw [intsL_len] at hp
    obtain hx | ⟨b, off, rfl, hlt, hc⟩ := hB1
    · omega
    · refine ⟨⟨b, off, none⟩, rfl, fun j v hj => ?_⟩
      have hjl : j < L := by
        rcases Nat.lt_or_ge j L with z | z
        · exact z
        · rw [List.getElem?_eq_none (by rw [intsL_len]; exact z)] at hj; simp at hj
      rw [intsL_get hjl] at hj
      rw [addr_add, hc j hjl]
      exact hj
  case d3 => rw [intsL_len]; omega
  intro w2 hh2 hb2
  have hfull : splice cur 0 (intsL K L) = intsL K L := by
    simp [splice, intsL_len]
    omega
  have H2 : Hid (w2.heap[w.heap.size]? = some (.cells (intsL K L).toArray 3 (0, 0))) := by rw [← hfull]; exact hh2
  clear hh2 HC
  go_wp2
  go_ret
  exact ⟨rfl, H2.out, hb2, lt_of_block H2.out⟩
end Go.Proofs.YtopggemomcoalaaGreat
