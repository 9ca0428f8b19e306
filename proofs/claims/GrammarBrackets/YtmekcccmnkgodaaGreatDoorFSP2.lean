import Derived.Test.YtmekcccmnkgodaaGreatDoorFSP1
import Derived.Test.YtmekcccmnkgodaaGreatDoorFLF1
import Derived.WalkMore
import Derived.Deep.RegionHeld3
import Derived.BigQuiet
import Derived.Deep.Cut
namespace Go.Proofs.YtmekcccmnkgodaaGreatDoor
open Go.ChangeShapes Go.WideShapes Go.ChangeAt Go.RowKit
set_option linter.unusedVariables false
set_option linter.unusedSimpArgs false
def tkA (t : Tk) : Array Value := #[.int .i64 t.kind, .string ⟨t.text.toArray⟩, .int .u64 (t.num : Int), .int .i64 t.line, .int .i64 t.col]
theorem below_drq (B : Nat) (w : World) (n : Nat) : Below B w (w.drewN n) := ⟨rfl, rfl, rfl, Nat.le_refl _, fun _ _ => rfl⟩
theorem nat_beq (m n : Nat) : ((m : Int) == (n : Int)) = decide (m = n) := by
  by_cases h : m = n
  · subst h; simp
  · rw [decide_eq_false h]; simp; omega
set_option maxRecDepth 100000 in
theorem sameToken_any (a b : Tk) (w : World) : Calls Tryz.prog 59 #[.agg (tkA a), .agg (tkA b)] w fun e w' => e = .returned (.bool (alike a b)) ∧ Below w.heap.size w w' := by
  obtain ⟨ak, at', an, al, ac⟩ := a
  obtain ⟨bk, bt, bn, bl, bc⟩ := b
  have hbb : ∀ o1 o2, Below w.heap.size w ((w.alloc o1).alloc o2) := fun o1 o2 => ((Below.refl _ w).alloc (Nat.le_refl _) _).alloc (by simp) _
  unfold tkA alike
  simp only
  by_cases h1 : ak = bk
  · subst h1
    by_cases h2 : at' = bt
    · subst h2
      have hnn := nat_beq an bn
      go_enter Tryz.func59, Tryz.ntmps59
      go_wp2
      go_ret
      exact ⟨by simp, hbb _ _⟩
    · have d2 : (at' == bt) = false := by simp; exact h2
      have hz : (decide (ak = ak) && (decide (at' = bt) && decide (an = bn))) = false := by simp [h2]
      rw [hz]
      clear hz h2
      go_enter Tryz.func59, Tryz.ntmps59
      go_wp2
      all_goals
        go_ret
        exact ⟨by simp, hbb _ _⟩
  · have d1 : (ak == bk) = false := by simp; exact h1
    have hz : (decide (ak = bk) && (decide (at' = bt) && decide (an = bn))) = false := by simp [h1]
    rw [hz]
    clear hz h1
    go_enter Tryz.func59, Tryz.ntmps59
    go_wp2
    all_goals
      go_ret
      exact ⟨by simp, hbb _ _⟩
theorem tk_row {W : World} {base : Nat} {g c : Nat} {x : Tk} (h : W.ownsRow base 40 5 (.slice (some ⟨g, 0, none⟩) 1 c) 1 (tksCells [x])) : W.cell? ⟨g, 0, none⟩ = some (.int .i64 x.kind) ∧ W.cell? ⟨g, 1, none⟩ = some (.string ⟨x.text.toArray⟩) ∧ W.cell? ⟨g, 2, none⟩ = some (.int .u64 (x.num : Int)) ∧ W.cell? ⟨g, 3, none⟩ = some (.int .i64 x.line) ∧ W.cell? ⟨g, 4, none⟩ = some (.int .i64 x.col) := by
  have h2 := own_tks (l := [x]).2 h
  have e : ∀ r, r < 5 → W.cell? ⟨g, r, none⟩ = some ((tkCells x).getD r undef) := fun r hr => by
    have h3 := tks_at [x] 0 r x rfl hr
    rw [Nat.zero_mul, Nat.zero_add] at h3
    rw [← h3]
    exact h2.cell (by simp; omega)
  exact ⟨e 0 (by omega), e 1 (by omega), e 2 (by omega), e 3 (by omega), e 4 (by omega)⟩
set_option maxRecDepth 100000 in
set_option maxHeartbeats 2000000 in
theorem standsAlone_any (t : Tk) (ht : t.text.length ≤ maxLen) (w : World) (g : Gr w) : Calls Tryz.prog 38 #[.agg (tkA t)] w fun e w' => e = .returned (.bool (alB t)) ∧ Below w.heap.size w w' := by
  obtain ⟨w1, hw1⟩ : ∃ w1, w.alloc (.cells #[.int .i64 t.kind, .string ⟨t.text.toArray⟩, .int .u64 (t.num : Int), .int .i64 t.line, .int .i64 t.col] 40) = w1 := ⟨_, rfl⟩
  have hb1 : Below w.heap.size w w1 := by rw [← hw1]; exact (Below.refl _ w).alloc (Nat.le_refl _) _
  have hbx : w1.heap[w.heap.size]? = some (.cells #[.int .i64 t.kind, .string ⟨t.text.toArray⟩, .int .u64 (t.num : Int), .int .i64 t.line, .int .i64 t.col] 40 (0, 0)) := by rw [← hw1]; exact World.alloc_heap_new w _
  have hz1 : w1.heap.size = w.heap.size + 1 := by rw [← hw1]; simp
  have HS := scan_any t.text ht w1 (g.keep hb1)
  have HW : Hid (w.alloc (.cells #[.int .i64 t.kind, .string ⟨t.text.toArray⟩, .int .u64 (t.num : Int), .int .i64 t.line, .int .i64 t.col] 40) = w1) := hw1
  have HB : Hid (Below w.heap.size w w1 ∧ w1.heap[w.heap.size]? = some (.cells #[.int .i64 t.kind, .string ⟨t.text.toArray⟩, .int .u64 (t.num : Int), .int .i64 t.line, .int .i64 t.col] 40 (0, 0)) ∧ w1.heap.size = w.heap.size + 1) := ⟨hb1, hbx, hz1⟩
  have HAL : Hid (alB t = (match scanT t.text with | ([x], none) => alike x t | _ => false)) := rfl
  obtain ⟨al, hal⟩ : ∃ al, alB t = al := ⟨_, rfl⟩
  rw [hal] at HAL ⊢
  unfold tkA
  clear hw1 hb1 hbx hz1 g hal
  cases hR : scanT t.text with
  | mk R1 R2 =>
  rw [hR] at HS HAL
  cases R2 with
  | some er =>
    obtain rfl : al = false := by
      have h9 := HAL.out
      rw [h9]
      split
      · rename_i he
        cases he
      · rfl
    have HS1 : Hid (Calls Tryz.prog 9 #[.string ⟨t.text.toArray⟩] w1 fun e w' => ∃ q, e = .returned (.tuple #[.slice none 0 0, .iface 56 (.pointer (some ⟨q, 0, none⟩))]) ∧ Below w1.heap.size w1 w') := by
      refine HS.mono ?_
      rintro e w' ⟨hb, ⟨h0, _⟩ | ⟨er', q, _, rfl, _⟩⟩
      · cases h0
      · exact ⟨q, rfl, hb⟩
    clear HS hR HAL
    go_enter Tryz.func38, Tryz.ntmps38
    go_wp2_with (go_at_call 9; rw [HW.out]; (with_reducible refine (HS1.out).mono ?_); rintro e w2 ⟨q, rfl, hb2⟩)
    go_quiet (fail)
    go_wp2
    go_ret
    exact ⟨by simp, (HB.out.1.trans (hb2.mono HB.out.1.size)).trans (below_drq _ _ _)⟩
  | none =>
    have HS1 : Hid (Calls Tryz.prog 9 #[.string ⟨t.text.toArray⟩] w1 fun e w' => ∃ p c, e = .returned (.tuple #[.slice p R1.length c, .nilIface]) ∧ w'.ownsRow w1.heap.size 40 5 (.slice p R1.length c) R1.length (tksCells R1) ∧ Below w1.heap.size w1 w') := by
      refine HS.mono ?_
      rintro e w' ⟨hb, ⟨_, v, rfl, ho⟩ | ⟨er', q, h0, _⟩⟩
      · obtain ⟨p, c, rfl, _⟩ := own_form' (own_tks.2 ho)
        exact ⟨p, c, rfl, ho, hb⟩
      · cases h0
    clear HS hR
    by_cases hl : R1.length = 1
    · obtain ⟨x, rfl⟩ : ∃ x, R1 = [x] := List.length_eq_one_iff.1 hl
      obtain rfl : al = alike x t := HAL.out
      have HC : Hid (∀ w', Calls Tryz.prog 59 #[.agg #[.int .i64 x.kind, .string ⟨x.text.toArray⟩, .int .u64 (x.num : Int), .int .i64 x.line, .int .i64 x.col], .agg #[.int .i64 t.kind, .string ⟨t.text.toArray⟩, .int .u64 (t.num : Int), .int .i64 t.line, .int .i64 t.col]] w' fun e w'' => e = .returned (.bool (alike x t)) ∧ Below w'.heap.size w' w'') := fun w' => sameToken_any x t w'
      clear HAL hl
      have HS2 : Hid (Calls Tryz.prog 9 #[.string ⟨t.text.toArray⟩] w1 fun e w' => ∃ g c, e = .returned (.tuple #[.slice (some ⟨g, 0, none⟩) 1 c, .nilIface]) ∧ w'.ownsRow w1.heap.size 40 5 (.slice (some ⟨g, 0, none⟩) 1 c) 1 (tksCells [x]) ∧ Below w1.heap.size w1 w') := by
        refine HS1.out.mono ?_
        rintro e w' ⟨p, c, rfl, ho, hb⟩
        obtain ⟨p', c', e', h9⟩ := own_form' (own_tks.2 ho)
        injection e' with e1 _ e3
        subst e1 e3
        rcases h9 with h9 | ⟨g, rfl⟩
        · cases h9
        · exact ⟨g, c, rfl, ho, hb⟩
      clear HS1
      go_enter Tryz.func38, Tryz.ntmps38
      go_wp2_with (go_at_call 9; rw [HW.out]; (with_reducible refine (HS2.out).mono ?_); rintro e w2 ⟨gg, c, rfl, ho2, hb2⟩)
      have hS : ∀ W, Below w2.heap.size w2 W → ((W.cell? ⟨gg, 0, none⟩ = some (.int .i64 x.kind) ∧ W.cell? ⟨gg, 1, none⟩ = some (.string ⟨x.text.toArray⟩) ∧ W.cell? ⟨gg, 2, none⟩ = some (.int .u64 (x.num : Int)) ∧ W.cell? ⟨gg, 3, none⟩ = some (.int .i64 x.line) ∧ W.cell? ⟨gg, 4, none⟩ = some (.int .i64 x.col)) ∧ (W.cell? ⟨w.heap.size, 0, none⟩ = some (.int .i64 t.kind) ∧ W.cell? ⟨w.heap.size, 1, none⟩ = some (.string ⟨t.text.toArray⟩) ∧ W.cell? ⟨w.heap.size, 2, none⟩ = some (.int .u64 (t.num : Int)) ∧ W.cell? ⟨w.heap.size, 3, none⟩ = some (.int .i64 t.line) ∧ W.cell? ⟨w.heap.size, 4, none⟩ = some (.int .i64 t.col))) := fun W hW => by
        have hz := HB.out.2.2
        have hz2 := hb2.size
        exact ⟨tk_row (own_tks.1 ((own_tks (l := [x]).2 ho2).more hW)), cells5 ((hW.block _ (by omega)).trans ((hb2.block _ (by omega)).trans HB.out.2.1))⟩
      have s0 := hS w2.drew (Below.refl _ w2).drew
      have HSS : Hid (∀ W, Below w2.heap.size w2 W → _) := hS
      have HBF : Hid (Below w.heap.size w w2) := HB.out.1.trans (hb2.mono HB.out.1.size)
      clear hS ho2 hb2
      go_region_held3 (fun W => (W.cell? ⟨gg, 0, none⟩ = some (.int .i64 x.kind) ∧ W.cell? ⟨gg, 1, none⟩ = some (.string ⟨x.text.toArray⟩) ∧ W.cell? ⟨gg, 2, none⟩ = some (.int .u64 (x.num : Int)) ∧ W.cell? ⟨gg, 3, none⟩ = some (.int .i64 x.line) ∧ W.cell? ⟨gg, 4, none⟩ = some (.int .i64 x.col)) ∧ (W.cell? ⟨w.heap.size, 0, none⟩ = some (.int .i64 t.kind) ∧ W.cell? ⟨w.heap.size, 1, none⟩ = some (.string ⟨t.text.toArray⟩) ∧ W.cell? ⟨w.heap.size, 2, none⟩ = some (.int .u64 (t.num : Int)) ∧ W.cell? ⟨w.heap.size, 3, none⟩ = some (.int .i64 t.line) ∧ W.cell? ⟨w.heap.size, 4, none⟩ = some (.int .i64 t.col))) (first | exact s0 | exact s7 | go_keep) ((go_at_call 59; (with_reducible refine (HC.out _).mono ?_); rintro e9 w9 ⟨rfl, hb9⟩; have hb99 : Below w2.heap.size w2 w9 := (Below.refl _ w2).drew.trans hb9; have s7 := HSS.out w9 hb99))
      all_goals
        go_wp2
        go_ret
        exact ⟨by simp, HBF.out.trans (hb99.mono HBF.out.size)⟩
    · obtain rfl : al = false := by
        have := HAL.out
        rw [this]
        split
        · rename_i x he
          injection he with he _
          subst he
          exact absurd rfl hl
        · rfl
      have d1 : ((R1.length : Int) == 1) = false := by simp; omega
      clear HAL
      go_enter Tryz.func38, Tryz.ntmps38
      go_wp2_with (go_at_call 9; rw [HW.out]; (with_reducible refine (HS1.out).mono ?_); rintro e w2 ⟨p, c, rfl, ho2, hb2⟩)
      clear ho2
      go_quiet (fail)
      go_wp2
      go_ret
      exact ⟨by simp, (HB.out.1.trans (hb2.mono HB.out.1.size)).trans (below_drq _ _ _)⟩
end Go.Proofs.YtmekcccmnkgodaaGreatDoor
