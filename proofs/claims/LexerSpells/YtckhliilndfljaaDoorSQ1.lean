import Derived.Test.YtckhliilndfljaaDoorSP8
import Derived.Test.YtckhliilndfljaaDoorLRefS
namespace Go.Proofs.YtckhliilndfljaaDoor
open Go.ChangeShapes Go.WideShapes Go.ChangeAt Go.RowKit
set_option linter.unusedVariables false
set_option linter.unusedSimpArgs false
set_option maxRecDepth 100000 in
theorem ralike_any (a b : Tk) (w : World) : Calls Tryd.prog 27 #[.agg (tkA a), .agg (tkA b)] w fun e w' => e = .returned (.bool (alike a b)) ∧ Below w.heap.size w w' := by
  obtain ⟨ak, at', an, al, ac⟩ := a
  obtain ⟨bk, bt, bn, bl, bc⟩ := b
  have hbb : ∀ o1 o2, Below w.heap.size w ((w.alloc o1).alloc o2) := fun o1 o2 => ((Below.refl _ w).alloc (Nat.le_refl _) _).alloc (by simp) _
  unfold tkA alike
  simp only
  by_cases h1 : ak = bk
  · subst h1
    by_cases h2 : at' = bt
    · subst h2
      have hnn := nat_beq an bn
      go_enter Tryd.func27, Tryd.ntmps27
      go_wp2
      go_ret
      exact ⟨by simp, hbb _ _⟩
    · have d2 : (at' == bt) = false := by simp; exact h2
      have hz : (decide (ak = ak) && (decide (at' = bt) && decide (an = bn))) = false := by simp [h2]
      rw [hz]
      clear hz h2
      go_enter Tryd.func27, Tryd.ntmps27
      go_wp2
      all_goals
        go_ret
        exact ⟨by simp, hbb _ _⟩
  · have d1 : (ak == bk) = false := by simp; exact h1
    have hz : (decide (ak = bk) && (decide (at' = bt) && decide (an = bn))) = false := by simp [h1]
    rw [hz]
    clear hz h1
    go_enter Tryd.func27, Tryd.ntmps27
    go_wp2
    all_goals
      go_ret
      exact ⟨by simp, hbb _ _⟩

theorem tk_row2 {W : World} {base : Nat} {g c : Nat} {x y : Tk} (h : W.ownsRow base 34 5 (.slice (some ⟨g, 0, none⟩) 2 c) 2 (tksCells [x, y])) : (W.cell? ⟨g, 0, none⟩ = some (.int .i64 x.kind) ∧ W.cell? ⟨g, 1, none⟩ = some (.string ⟨x.text.toArray⟩) ∧ W.cell? ⟨g, 2, none⟩ = some (.int .u64 (x.num : Int)) ∧ W.cell? ⟨g, 3, none⟩ = some (.int .i64 x.line) ∧ W.cell? ⟨g, 4, none⟩ = some (.int .i64 x.col)) ∧ (W.cell? ⟨g, 5, none⟩ = some (.int .i64 y.kind) ∧ W.cell? ⟨g, 6, none⟩ = some (.string ⟨y.text.toArray⟩) ∧ W.cell? ⟨g, 7, none⟩ = some (.int .u64 (y.num : Int)) ∧ W.cell? ⟨g, 8, none⟩ = some (.int .i64 y.line) ∧ W.cell? ⟨g, 9, none⟩ = some (.int .i64 y.col)) := by
  have h2 := own_tks (l := [x, y]).2 h
  have e : ∀ i r (z : Tk), [x, y][i]? = some z → i < 2 → r < 5 → W.cell? ⟨g, i * 5 + r, none⟩ = some ((tkCells z).getD r undef) := fun i r z hz hi hr => by
    rw [← tks_at [x, y] i r z hz hr]
    exact h2.cell (by simp; omega)
  exact ⟨⟨e 0 0 x rfl (by omega) (by omega), e 0 1 x rfl (by omega) (by omega), e 0 2 x rfl (by omega) (by omega), e 0 3 x rfl (by omega) (by omega), e 0 4 x rfl (by omega) (by omega)⟩, e 1 0 y rfl (by omega) (by omega), e 1 1 y rfl (by omega) (by omega), e 1 2 y rfl (by omega) (by omega), e 1 3 y rfl (by omega) (by omega), e 1 4 y rfl (by omega) (by omega)⟩
theorem er_codeS : ∀ (n : Nat) (s : Bs) (l c cnt : Nat), s.length ≤ n → ∀ er, (scan s l c cnt).2 = some er → er.code ≠ 0 := by
  intro n
  induction n with
  | zero =>
    intro s l c cnt hs er he
    obtain rfl : s = [] := List.eq_nil_of_length_eq_zero (by omega)
    rw [scan_nil] at he
    cases he
  | succ n ih =>
    intro s l c cnt hs er he
    cases s with
    | nil =>
      rw [scan_nil] at he
      cases he
    | cons x r =>
      simp only [List.length_cons] at hs
      by_cases h1 : x.toNat = 10
      · rw [scan_nl _ _ _ _ _ h1] at he
        exact ih r _ _ _ (by omega) er he
      · by_cases h2 : x.toNat = 32 ∨ x.toNat = 9 ∨ x.toNat = 13
        · rw [scan_bl _ _ _ _ _ h2] at he
          exact ih r _ _ _ (by omega) er he
        · by_cases h3 : x.toNat = 35
          · rw [scan_cm _ _ _ _ _ h3] at he
            exact ih _ _ _ _ (by rw [List.length_drop]; omega) er he
          · have hst : startT x := ⟨h1, fun e => h2 (.inl e), fun e => h2 (.inr (.inl e)), fun e => h2 (.inr (.inr e)), h3⟩
            cases hr : rd (x :: r) with
            | err e =>
              rw [scan_er _ _ _ _ _ _ hst hr] at he
              injection he with he
              subst he
              have := rd_code _ _ hr
              show e ≠ 0
              omega
            | ok k u v =>
              by_cases hc : cnt = 16384
              · subst hc
                rw [scan_full _ _ _ _ _ _ _ hst hr] at he
                injection he with he
                subst he
                show (34 : Nat) ≠ 0
                omega
              · rw [scan_ok _ _ _ _ _ _ _ _ hst hr hc] at he
                exact ih _ _ _ _ (by rw [List.length_drop]; omega) er he
theorem er_code (s : Bs) (er : Er) (h : (scanT s).2 = some er) : er.code ≠ 0 := by
  unfold scanT at h
  split at h
  · injection h with h
    subst h
    show (30 : Nat) ≠ 0
    omega
  · exact er_codeS s.length s 1 1 0 (Nat.le_refl _) er h
/-- the boxes of reads' two tokens -/
theorem boxes2 (w : World) (a b : Array Value) (wB : World) (h : (w.alloc (.cells a 34)).alloc (.cells b 34) = wB) : Below w.heap.size w wB ∧ wB.heap[w.heap.size]? = some (.cells a 34 (0, 0)) ∧ wB.heap[w.heap.size + 1]? = some (.cells b 34 (0, 0)) ∧ wB.heap.size = w.heap.size + 2 := by
  subst h
  refine ⟨((Below.refl _ w).alloc (Nat.le_refl _) _).alloc (by simp) _, (Below.heap_alloc _ _ _ (by simp)).trans (World.alloc_heap_new w _), ?_, by simp⟩
  have h := World.alloc_heap_new (w.alloc (.cells a 34)) (.cells b 34 (0, 0))
  rw [World.size_alloc] at h
  exact h
set_option maxRecDepth 100000 in
set_option maxHeartbeats 4000000 in
theorem reads_one (a : Tk) (s : Bs) (hs : s = a.text) (hl : s.length ≤ maxLen) (w : World) : Calls Tryd.prog 15 #[.string ⟨s.toArray⟩, .bool false, .agg (tkA a), .agg (tkA a)] w fun e w' => e = .returned (.bool (alB a)) ∧ Below w.heap.size w w' := by
  obtain ⟨w1, hw1⟩ : ∃ w1, (w.alloc (.cells #[.int .i64 a.kind, .string ⟨a.text.toArray⟩, .int .u64 (a.num : Int), .int .i64 a.line, .int .i64 a.col] 34)).alloc (.cells #[.int .i64 a.kind, .string ⟨a.text.toArray⟩, .int .u64 (a.num : Int), .int .i64 a.line, .int .i64 a.col] 34) = w1 := ⟨_, rfl⟩
  have hB := boxes2 w _ _ w1 hw1
  have HB : Hid (Below w.heap.size w w1 ∧ w1.heap[w.heap.size]? = some (.cells #[.int .i64 a.kind, .string ⟨a.text.toArray⟩, .int .u64 (a.num : Int), .int .i64 a.line, .int .i64 a.col] 34 (0, 0)) ∧ w1.heap[w.heap.size + 1]? = some (.cells #[.int .i64 a.kind, .string ⟨a.text.toArray⟩, .int .u64 (a.num : Int), .int .i64 a.line, .int .i64 a.col] 34 (0, 0)) ∧ w1.heap.size = w.heap.size + 2) := hB
  have HS := rscan_any s hl w1
  have HW : Hid ((w.alloc (.cells #[.int .i64 a.kind, .string ⟨a.text.toArray⟩, .int .u64 (a.num : Int), .int .i64 a.line, .int .i64 a.col] 34)).alloc (.cells #[.int .i64 a.kind, .string ⟨a.text.toArray⟩, .int .u64 (a.num : Int), .int .i64 a.line, .int .i64 a.col] 34) = w1) := hw1
  have HAL : Hid ((alB a) = (match scanT s with | ([x], none) => alike x a | _ => false)) := by
    rw [hs]
    rfl
  obtain ⟨al, hal⟩ : ∃ al, alB a = al := ⟨_, rfl⟩
  rw [hal] at HAL ⊢
  unfold tkA
  clear hw1 hB hal hs hl
  cases hR : scanT s with
  | mk R1 R2 =>
  rw [hR] at HS HAL
  cases R2 with
  | some er =>
    obtain rfl : al = false := by
      have h9 := HAL.out
      rw [h9]
      split
      · rename_i he
        cases he
      · rfl
    have HS1 : Hid (Calls Tryd.prog 26 #[.string ⟨s.toArray⟩] w1 fun e w' => ∃ v c1 c2 c3, e = .returned (.tuple #[v, .int .i64 c1, .int .i64 c2, .int .i64 c3]) ∧ (c1 == 0) = false ∧ Below w1.heap.size w1 w') := by
      refine HS.mono ?_
      rintro e w' ⟨hb, v, rfl, ho⟩
      exact ⟨v, _, _, _, rfl, by have := er_code s er (by rw [hR]); simp; omega, hb⟩
    clear HS hR HAL
    go_enter Tryd.func15, Tryd.ntmps15
    go_wp2_with (go_at_call 26; rw [HW.out]; (with_reducible refine (HS1.out).mono ?_); rintro e w2 ⟨v2, c1, c2, c3, rfl, d1, hb2⟩)
    go_ret
    exact ⟨by simp, HB.out.1.trans (hb2.mono HB.out.1.size)⟩
  | none =>
    have HS1 : Hid (Calls Tryd.prog 26 #[.string ⟨s.toArray⟩] w1 fun e w' => ∃ p c, e = .returned (.tuple #[.slice p R1.length c, .int .i64 0, .int .i64 0, .int .i64 0]) ∧ w'.ownsRow w1.heap.size 34 5 (.slice p R1.length c) R1.length (tksCells R1) ∧ Below w1.heap.size w1 w') := by
      refine HS.mono ?_
      rintro e w' ⟨hb, v, rfl, ho⟩
      obtain ⟨p, c, rfl, _⟩ := own_form' (own_tks.2 ho)
      exact ⟨p, c, rfl, ho, hb⟩
    clear HS hR
    by_cases hl : R1.length = 1
    · obtain ⟨x, rfl⟩ : ∃ x, R1 = [x] := List.length_eq_one_iff.1 hl
      obtain rfl : al = (alike x a) := HAL.out
      have HC : Hid (∀ W, Calls Tryd.prog 27 #[.agg #[.int .i64 x.kind, .string ⟨x.text.toArray⟩, .int .u64 (x.num : Int), .int .i64 x.line, .int .i64 x.col], .agg #[.int .i64 a.kind, .string ⟨a.text.toArray⟩, .int .u64 (a.num : Int), .int .i64 a.line, .int .i64 a.col]] W fun e w'' => e = .returned (.bool (alike x a)) ∧ Below W.heap.size W w'') := fun W => ralike_any x a W
      clear HAL hl
      have HS2 : Hid (Calls Tryd.prog 26 #[.string ⟨s.toArray⟩] w1 fun e w' => ∃ g c, e = .returned (.tuple #[.slice (some ⟨g, 0, none⟩) 1 c, .int .i64 0, .int .i64 0, .int .i64 0]) ∧ w'.ownsRow w1.heap.size 34 5 (.slice (some ⟨g, 0, none⟩) 1 c) 1 (tksCells [x]) ∧ Below w1.heap.size w1 w') := by
        refine HS1.out.mono ?_
        rintro e w' ⟨p, c, rfl, ho, hb⟩
        obtain ⟨p', c', e', h9⟩ := own_form' (own_tks.2 ho)
        injection e' with e1 _ e3
        subst e1 e3
        rcases h9 with h9 | ⟨g, rfl⟩
        · cases h9
        · exact ⟨g, c, rfl, ho, hb⟩
      clear HS1
      go_enter Tryd.func15, Tryd.ntmps15
      go_wp2_with (go_at_call 26; rw [HW.out]; (with_reducible refine (HS2.out).mono ?_); rintro e w2 ⟨gg, c, rfl, ho2, hb2⟩)
      have hS : ∀ W, Below w2.heap.size w2 W → ((W.cell? ⟨gg, 0, none⟩ = some (.int .i64 x.kind) ∧ W.cell? ⟨gg, 1, none⟩ = some (.string ⟨x.text.toArray⟩) ∧ W.cell? ⟨gg, 2, none⟩ = some (.int .u64 (x.num : Int)) ∧ W.cell? ⟨gg, 3, none⟩ = some (.int .i64 x.line) ∧ W.cell? ⟨gg, 4, none⟩ = some (.int .i64 x.col)) ∧ (W.cell? ⟨w.heap.size, 0, none⟩ = some (.int .i64 a.kind) ∧ W.cell? ⟨w.heap.size, 1, none⟩ = some (.string ⟨a.text.toArray⟩) ∧ W.cell? ⟨w.heap.size, 2, none⟩ = some (.int .u64 (a.num : Int)) ∧ W.cell? ⟨w.heap.size, 3, none⟩ = some (.int .i64 a.line) ∧ W.cell? ⟨w.heap.size, 4, none⟩ = some (.int .i64 a.col))) := fun W hW => by
        have hz := HB.out.2.2.2
        have hz2 := hb2.size
        exact ⟨tk_row (own_tks.1 ((own_tks (l := [x]).2 ho2).more hW)), cells5 ((hW.block _ (by omega)).trans ((hb2.block _ (by omega)).trans HB.out.2.1))⟩
      have s0 := hS w2.drew (Below.refl _ w2).drew
      have HSS : Hid (∀ W, Below w2.heap.size w2 W → _) := hS
      have HBF : Hid (Below w.heap.size w w2) := HB.out.1.trans (hb2.mono HB.out.1.size)
      clear hS ho2 hb2
      go_region_held3 (fun W => (W.cell? ⟨gg, 0, none⟩ = some (.int .i64 x.kind) ∧ W.cell? ⟨gg, 1, none⟩ = some (.string ⟨x.text.toArray⟩) ∧ W.cell? ⟨gg, 2, none⟩ = some (.int .u64 (x.num : Int)) ∧ W.cell? ⟨gg, 3, none⟩ = some (.int .i64 x.line) ∧ W.cell? ⟨gg, 4, none⟩ = some (.int .i64 x.col)) ∧ (W.cell? ⟨w.heap.size, 0, none⟩ = some (.int .i64 a.kind) ∧ W.cell? ⟨w.heap.size, 1, none⟩ = some (.string ⟨a.text.toArray⟩) ∧ W.cell? ⟨w.heap.size, 2, none⟩ = some (.int .u64 (a.num : Int)) ∧ W.cell? ⟨w.heap.size, 3, none⟩ = some (.int .i64 a.line) ∧ W.cell? ⟨w.heap.size, 4, none⟩ = some (.int .i64 a.col))) (first | exact s0 | exact s7 | go_keep) ((go_at_call 27; (with_reducible refine (HC.out _).mono ?_); rintro e9 w9 ⟨rfl, hb9⟩; have hb99 : Below w2.heap.size w2 w9 := (Below.refl _ w2).drew.trans hb9; have s7 := HSS.out w9 hb99))
      all_goals
        go_wp2
        go_ret
        exact ⟨by simp, HBF.out.trans (hb99.mono HBF.out.size)⟩
    · obtain rfl : al = false := by
        have h9 := HAL.out
        rw [h9]
        split
        · rename_i he
          injection he with he _
          subst he
          exact absurd rfl hl
        · rfl
      have d1 : ((R1.length : Int) == 1) = false := by simp; omega
      clear HAL
      go_enter Tryd.func15, Tryd.ntmps15
      go_wp2_with (go_at_call 26; rw [HW.out]; (with_reducible refine (HS1.out).mono ?_); rintro e w2 ⟨p, c, rfl, ho2, hb2⟩)
      clear ho2
      go_quiet (fail)
      go_wp2
      go_ret
      exact ⟨by simp, (HB.out.1.trans (hb2.mono HB.out.1.size)).trans (below_drq _ _ _)⟩
set_option maxRecDepth 100000 in
set_option maxHeartbeats 4000000 in
theorem reads_two (a b : Tk) (s : Bs) (hs : s = a.text ++ b.text) (hl : s.length ≤ maxLen) (w : World) : Calls Tryd.prog 15 #[.string ⟨s.toArray⟩, .bool true, .agg (tkA a), .agg (tkA b)] w fun e w' => e = .returned (.bool (twoB a b)) ∧ Below w.heap.size w w' := by
  obtain ⟨w1, hw1⟩ : ∃ w1, (w.alloc (.cells #[.int .i64 a.kind, .string ⟨a.text.toArray⟩, .int .u64 (a.num : Int), .int .i64 a.line, .int .i64 a.col] 34)).alloc (.cells #[.int .i64 b.kind, .string ⟨b.text.toArray⟩, .int .u64 (b.num : Int), .int .i64 b.line, .int .i64 b.col] 34) = w1 := ⟨_, rfl⟩
  have hB := boxes2 w _ _ w1 hw1
  have HB : Hid (Below w.heap.size w w1 ∧ w1.heap[w.heap.size]? = some (.cells #[.int .i64 a.kind, .string ⟨a.text.toArray⟩, .int .u64 (a.num : Int), .int .i64 a.line, .int .i64 a.col] 34 (0, 0)) ∧ w1.heap[w.heap.size + 1]? = some (.cells #[.int .i64 b.kind, .string ⟨b.text.toArray⟩, .int .u64 (b.num : Int), .int .i64 b.line, .int .i64 b.col] 34 (0, 0)) ∧ w1.heap.size = w.heap.size + 2) := hB
  have HS := rscan_any s hl w1
  have HW : Hid ((w.alloc (.cells #[.int .i64 a.kind, .string ⟨a.text.toArray⟩, .int .u64 (a.num : Int), .int .i64 a.line, .int .i64 a.col] 34)).alloc (.cells #[.int .i64 b.kind, .string ⟨b.text.toArray⟩, .int .u64 (b.num : Int), .int .i64 b.line, .int .i64 b.col] 34) = w1) := hw1
  have HAL : Hid ((twoB a b) = (match scanT s with | ([x, y], none) => alike x a && alike y b | _ => false)) := by
    rw [hs]
    rfl
  obtain ⟨al, hal⟩ : ∃ al, twoB a b = al := ⟨_, rfl⟩
  rw [hal] at HAL ⊢
  unfold tkA
  clear hw1 hB hal hs hl
  cases hR : scanT s with
  | mk R1 R2 =>
  rw [hR] at HS HAL
  cases R2 with
  | some er =>
    obtain rfl : al = false := by
      have h9 := HAL.out
      rw [h9]
      split
      · rename_i he
        cases he
      · rfl
    have HS1 : Hid (Calls Tryd.prog 26 #[.string ⟨s.toArray⟩] w1 fun e w' => ∃ v c1 c2 c3, e = .returned (.tuple #[v, .int .i64 c1, .int .i64 c2, .int .i64 c3]) ∧ (c1 == 0) = false ∧ Below w1.heap.size w1 w') := by
      refine HS.mono ?_
      rintro e w' ⟨hb, v, rfl, ho⟩
      exact ⟨v, _, _, _, rfl, by have := er_code s er (by rw [hR]); simp; omega, hb⟩
    clear HS hR HAL
    go_enter Tryd.func15, Tryd.ntmps15
    go_wp2_with (go_at_call 26; rw [HW.out]; (with_reducible refine (HS1.out).mono ?_); rintro e w2 ⟨v2, c1, c2, c3, rfl, d1, hb2⟩)
    go_ret
    exact ⟨by simp, HB.out.1.trans (hb2.mono HB.out.1.size)⟩
  | none =>
    have HS1 : Hid (Calls Tryd.prog 26 #[.string ⟨s.toArray⟩] w1 fun e w' => ∃ p c, e = .returned (.tuple #[.slice p R1.length c, .int .i64 0, .int .i64 0, .int .i64 0]) ∧ w'.ownsRow w1.heap.size 34 5 (.slice p R1.length c) R1.length (tksCells R1) ∧ Below w1.heap.size w1 w') := by
      refine HS.mono ?_
      rintro e w' ⟨hb, v, rfl, ho⟩
      obtain ⟨p, c, rfl, _⟩ := own_form' (own_tks.2 ho)
      exact ⟨p, c, rfl, ho, hb⟩
    clear HS hR
    by_cases hl : R1.length = 2
    · obtain ⟨x, y, rfl⟩ : ∃ x y, R1 = [x, y] := by match R1, hl with | [x, y], _ => exact ⟨x, y, rfl⟩
      obtain rfl : al = (alike x a && alike y b) := HAL.out
      have HC : Hid (∀ W, Calls Tryd.prog 27 #[.agg #[.int .i64 x.kind, .string ⟨x.text.toArray⟩, .int .u64 (x.num : Int), .int .i64 x.line, .int .i64 x.col], .agg #[.int .i64 a.kind, .string ⟨a.text.toArray⟩, .int .u64 (a.num : Int), .int .i64 a.line, .int .i64 a.col]] W fun e w'' => e = .returned (.bool (alike x a)) ∧ Below W.heap.size W w'') := fun W => ralike_any x a W
      have HC2 : Hid (∀ W, Calls Tryd.prog 27 #[.agg #[.int .i64 y.kind, .string ⟨y.text.toArray⟩, .int .u64 (y.num : Int), .int .i64 y.line, .int .i64 y.col], .agg #[.int .i64 b.kind, .string ⟨b.text.toArray⟩, .int .u64 (b.num : Int), .int .i64 b.line, .int .i64 b.col]] W fun e w'' => e = .returned (.bool (alike y b)) ∧ Below W.heap.size W w'') := fun W => ralike_any y b W
      clear HAL hl
      have HS2 : Hid (Calls Tryd.prog 26 #[.string ⟨s.toArray⟩] w1 fun e w' => ∃ g c, e = .returned (.tuple #[.slice (some ⟨g, 0, none⟩) 2 c, .int .i64 0, .int .i64 0, .int .i64 0]) ∧ w'.ownsRow w1.heap.size 34 5 (.slice (some ⟨g, 0, none⟩) 2 c) 2 (tksCells [x, y]) ∧ Below w1.heap.size w1 w') := by
        refine HS1.out.mono ?_
        rintro e w' ⟨p, c, rfl, ho, hb⟩
        obtain ⟨p', c', e', h9⟩ := own_form' (own_tks.2 ho)
        injection e' with e1 _ e3
        subst e1 e3
        rcases h9 with h9 | ⟨g, rfl⟩
        · cases h9
        · exact ⟨g, c, rfl, ho, hb⟩
      clear HS1
      go_enter Tryd.func15, Tryd.ntmps15
      go_wp2_with (go_at_call 26; rw [HW.out]; (with_reducible refine (HS2.out).mono ?_); rintro e w2 ⟨gg, c, rfl, ho2, hb2⟩)
      have hS : ∀ W, Below w2.heap.size w2 W → (((W.cell? ⟨gg, 0, none⟩ = some (.int .i64 x.kind) ∧ W.cell? ⟨gg, 1, none⟩ = some (.string ⟨x.text.toArray⟩) ∧ W.cell? ⟨gg, 2, none⟩ = some (.int .u64 (x.num : Int)) ∧ W.cell? ⟨gg, 3, none⟩ = some (.int .i64 x.line) ∧ W.cell? ⟨gg, 4, none⟩ = some (.int .i64 x.col)) ∧ (W.cell? ⟨gg, 5, none⟩ = some (.int .i64 y.kind) ∧ W.cell? ⟨gg, 6, none⟩ = some (.string ⟨y.text.toArray⟩) ∧ W.cell? ⟨gg, 7, none⟩ = some (.int .u64 (y.num : Int)) ∧ W.cell? ⟨gg, 8, none⟩ = some (.int .i64 y.line) ∧ W.cell? ⟨gg, 9, none⟩ = some (.int .i64 y.col))) ∧ ((W.cell? ⟨w.heap.size, 0, none⟩ = some (.int .i64 a.kind) ∧ W.cell? ⟨w.heap.size, 1, none⟩ = some (.string ⟨a.text.toArray⟩) ∧ W.cell? ⟨w.heap.size, 2, none⟩ = some (.int .u64 (a.num : Int)) ∧ W.cell? ⟨w.heap.size, 3, none⟩ = some (.int .i64 a.line) ∧ W.cell? ⟨w.heap.size, 4, none⟩ = some (.int .i64 a.col)) ∧ (W.cell? ⟨w.heap.size + 1, 0, none⟩ = some (.int .i64 b.kind) ∧ W.cell? ⟨w.heap.size + 1, 1, none⟩ = some (.string ⟨b.text.toArray⟩) ∧ W.cell? ⟨w.heap.size + 1, 2, none⟩ = some (.int .u64 (b.num : Int)) ∧ W.cell? ⟨w.heap.size + 1, 3, none⟩ = some (.int .i64 b.line) ∧ W.cell? ⟨w.heap.size + 1, 4, none⟩ = some (.int .i64 b.col)))) := fun W hW => by
        have hz := HB.out.2.2.2
        have hz2 := hb2.size
        exact ⟨tk_row2 (own_tks.1 ((own_tks (l := [x, y]).2 ho2).more hW)), ⟨cells5 ((hW.block _ (by omega)).trans ((hb2.block _ (by omega)).trans HB.out.2.1)), cells5 ((hW.block _ (by omega)).trans ((hb2.block _ (by omega)).trans HB.out.2.2.1))⟩⟩
      have s0 := hS w2.drew (Below.refl _ w2).drew
      have HSS : Hid (∀ W, Below w2.heap.size w2 W → _) := hS
      have HBF : Hid (Below w.heap.size w w2) := HB.out.1.trans (hb2.mono HB.out.1.size)
      clear hS ho2 hb2
      cases hA : alike x a with
      | false =>
        rw [hA] at HC
        refine wp_region_heldX (S := fun W => ((W.cell? ⟨gg, 0, none⟩ = some (.int .i64 x.kind) ∧ W.cell? ⟨gg, 1, none⟩ = some (.string ⟨x.text.toArray⟩) ∧ W.cell? ⟨gg, 2, none⟩ = some (.int .u64 (x.num : Int)) ∧ W.cell? ⟨gg, 3, none⟩ = some (.int .i64 x.line) ∧ W.cell? ⟨gg, 4, none⟩ = some (.int .i64 x.col)) ∧ (W.cell? ⟨gg, 5, none⟩ = some (.int .i64 y.kind) ∧ W.cell? ⟨gg, 6, none⟩ = some (.string ⟨y.text.toArray⟩) ∧ W.cell? ⟨gg, 7, none⟩ = some (.int .u64 (y.num : Int)) ∧ W.cell? ⟨gg, 8, none⟩ = some (.int .i64 y.line) ∧ W.cell? ⟨gg, 9, none⟩ = some (.int .i64 y.col))) ∧ ((W.cell? ⟨w.heap.size, 0, none⟩ = some (.int .i64 a.kind) ∧ W.cell? ⟨w.heap.size, 1, none⟩ = some (.string ⟨a.text.toArray⟩) ∧ W.cell? ⟨w.heap.size, 2, none⟩ = some (.int .u64 (a.num : Int)) ∧ W.cell? ⟨w.heap.size, 3, none⟩ = some (.int .i64 a.line) ∧ W.cell? ⟨w.heap.size, 4, none⟩ = some (.int .i64 a.col)) ∧ (W.cell? ⟨w.heap.size + 1, 0, none⟩ = some (.int .i64 b.kind) ∧ W.cell? ⟨w.heap.size + 1, 1, none⟩ = some (.string ⟨b.text.toArray⟩) ∧ W.cell? ⟨w.heap.size + 1, 2, none⟩ = some (.int .u64 (b.num : Int)) ∧ W.cell? ⟨w.heap.size + 1, 3, none⟩ = some (.int .i64 b.line) ∧ W.cell? ⟨w.heap.size + 1, 4, none⟩ = some (.int .i64 b.col)))) (by kernel_rfl) s0 (fun hHeld => ?_)
        refine wpAnyH_take (i := 0) (v := .slice (some ⟨gg, 0, none⟩) 2 c) rfl (by kernel_rfl) (by kernel_rfl) (by kernel_rfl) (fun _ _ _ h => h) (Or.inl ⟨by rfl, by (intro W9 hSw; obtain ⟨⟨⟨t0, t1, t2, t3, t4⟩, t5⟩, ⟨r0, r1, r2, r3, r4⟩, r5⟩ := hSw; go_simp; try with_reducible rfl)⟩) (by assumption) ?_
        simp only [List.getElem_toArray, List.getElem_cons_zero, List.getElem_cons_succ, Act.put, List.setIfInBounds_toArray, List.set_cons_zero, List.set_cons_succ]
        refine wpAnyH_take (i := 1) (v := .int .i64 2) rfl (by kernel_rfl) (by kernel_rfl) (by kernel_rfl) (fun _ _ _ h => h) (Or.inl ⟨by rfl, by (intro W9 hSw; obtain ⟨⟨⟨t0, t1, t2, t3, t4⟩, t5⟩, ⟨r0, r1, r2, r3, r4⟩, r5⟩ := hSw; go_simp; try with_reducible rfl)⟩) (by assumption) ?_
        simp only [List.getElem_toArray, List.getElem_cons_zero, List.getElem_cons_succ, Act.put, List.setIfInBounds_toArray, List.set_cons_zero, List.set_cons_succ]
        refine wpAnyH_take (i := 2) (v := .bool true) rfl (by kernel_rfl) (by kernel_rfl) (by kernel_rfl) (fun _ _ _ h => h) (Or.inl ⟨by rfl, by (intro W9 hSw; obtain ⟨⟨⟨t0, t1, t2, t3, t4⟩, t5⟩, ⟨r0, r1, r2, r3, r4⟩, r5⟩ := hSw; go_simp; try with_reducible rfl)⟩) (by assumption) ?_
        simp only [List.getElem_toArray, List.getElem_cons_zero, List.getElem_cons_succ, Act.put, List.setIfInBounds_toArray, List.set_cons_zero, List.set_cons_succ]
        refine wpAnyH_take (i := 3) (v := .bool true) rfl (by kernel_rfl) (by kernel_rfl) (by kernel_rfl) (fun _ _ _ h => h) (Or.inl ⟨by rfl, by (intro W9 hSw; obtain ⟨⟨⟨t0, t1, t2, t3, t4⟩, t5⟩, ⟨r0, r1, r2, r3, r4⟩, r5⟩ := hSw; go_simp; try with_reducible rfl)⟩) (by assumption) ?_
        simp only [List.getElem_toArray, List.getElem_cons_zero, List.getElem_cons_succ, Act.put, List.setIfInBounds_toArray, List.set_cons_zero, List.set_cons_succ]
        refine wpAnyH_take (i := 4) (v := .slice (some ⟨gg, 0, none⟩) 2 c) rfl (by kernel_rfl) (by kernel_rfl) (by kernel_rfl) (fun _ _ _ h => h) (Or.inl ⟨by rfl, by (intro W9 hSw; obtain ⟨⟨⟨t0, t1, t2, t3, t4⟩, t5⟩, ⟨r0, r1, r2, r3, r4⟩, r5⟩ := hSw; go_simp; try with_reducible rfl)⟩) (by assumption) ?_
        simp only [List.getElem_toArray, List.getElem_cons_zero, List.getElem_cons_succ, Act.put, List.setIfInBounds_toArray, List.set_cons_zero, List.set_cons_succ]
        refine wpAnyH_take (i := 5) (v := .pointer (some ⟨gg, 0, none⟩)) rfl (by kernel_rfl) (by kernel_rfl) (by kernel_rfl) (fun _ _ _ h => h) (Or.inl ⟨by rfl, by (intro W9 hSw; obtain ⟨⟨⟨t0, t1, t2, t3, t4⟩, t5⟩, ⟨r0, r1, r2, r3, r4⟩, r5⟩ := hSw; go_simp; try with_reducible rfl)⟩) (by assumption) ?_
        simp only [List.getElem_toArray, List.getElem_cons_zero, List.getElem_cons_succ, Act.put, List.setIfInBounds_toArray, List.set_cons_zero, List.set_cons_succ]
        refine wpAnyH_take (i := 6) (v := .agg #[.int .i64 x.kind, .string ⟨x.text.toArray⟩, .int .u64 (x.num : Int), .int .i64 x.line, .int .i64 x.col]) rfl (by kernel_rfl) (by kernel_rfl) (by kernel_rfl) (fun _ _ _ h => h) (Or.inl ⟨by rfl, by (intro W9 hSw; obtain ⟨⟨⟨t0, t1, t2, t3, t4⟩, t5⟩, ⟨r0, r1, r2, r3, r4⟩, r5⟩ := hSw; go_simp; try with_reducible rfl)⟩) (by assumption) ?_
        simp only [List.getElem_toArray, List.getElem_cons_zero, List.getElem_cons_succ, Act.put, List.setIfInBounds_toArray, List.set_cons_zero, List.set_cons_succ]
        refine wpAnyH_take (i := 7) (v := .agg #[.int .i64 a.kind, .string ⟨a.text.toArray⟩, .int .u64 (a.num : Int), .int .i64 a.line, .int .i64 a.col]) rfl (by kernel_rfl) (by kernel_rfl) (by kernel_rfl) (fun _ _ _ h => h) (Or.inl ⟨by rfl, by (intro W9 hSw; obtain ⟨⟨⟨t0, t1, t2, t3, t4⟩, t5⟩, ⟨r0, r1, r2, r3, r4⟩, r5⟩ := hSw; go_simp; try with_reducible rfl)⟩) (by assumption) ?_
        simp only [List.getElem_toArray, List.getElem_cons_zero, List.getElem_cons_succ, Act.put, List.setIfInBounds_toArray, List.set_cons_zero, List.set_cons_succ]
        refine wpAnyH_ready (rs := [8]) (by kernel_rfl) (by simp) (AllReadyH.cons rfl (fun KK9 hK => ?_) AllReadyH.nil)
        dsimp -proj only [List.getElem_toArray, List.getElem_cons_zero, List.getElem_cons_succ]
        go_simp
        go_at_call 27
        refine (HC.out _).mono ?_
        rintro e9 w9 ⟨rfl, hb9⟩
        try go_wp2_with fail
        have hb99 : Below w2.heap.size w2 w9 := (Below.refl _ w2).drew.trans hb9
        refine hK.out _ _ (HSS.out w9 hb99) (fun hHeld => ?_)
        clear hK KK9
        try simp only [Act.put, List.setIfInBounds_toArray, List.set_cons_zero, List.set_cons_succ]
        refine wpAnyH_take (i := 9) (v := .bool false) rfl (by kernel_rfl) (by kernel_rfl) (by kernel_rfl) (fun _ _ _ h => h) (Or.inl ⟨by rfl, by (intro W9 hSw; obtain ⟨⟨⟨t0, t1, t2, t3, t4⟩, t5⟩, ⟨r0, r1, r2, r3, r4⟩, r5⟩ := hSw; go_simp; try with_reducible rfl)⟩) (by assumption) ?_
        simp only [List.getElem_toArray, List.getElem_cons_zero, List.getElem_cons_succ, Act.put, List.setIfInBounds_toArray, List.set_cons_zero, List.set_cons_succ]
        refine wpAnyH_take (i := 10) (v := .bool false) rfl (by kernel_rfl) (by kernel_rfl) (by kernel_rfl) (fun _ _ _ h => h) (Or.inl ⟨by rfl, by (intro W9 hSw; obtain ⟨⟨⟨t0, t1, t2, t3, t4⟩, t5⟩, ⟨r0, r1, r2, r3, r4⟩, r5⟩ := hSw; go_simp; try with_reducible rfl)⟩) (by assumption) ?_
        simp only [List.getElem_toArray, List.getElem_cons_zero, List.getElem_cons_succ, Act.put, List.setIfInBounds_toArray, List.set_cons_zero, List.set_cons_succ]
        refine wpAnyH_take (i := 11) (v := undef) rfl (by kernel_rfl) (by kernel_rfl) (by kernel_rfl) (fun _ _ _ h => h) (Or.inr ⟨by rfl, rfl⟩) (by assumption) ?_
        simp only [List.getElem_toArray, List.getElem_cons_zero, List.getElem_cons_succ, Act.put, List.setIfInBounds_toArray, List.set_cons_zero, List.set_cons_succ]
        refine wpAnyH_take (i := 12) (v := undef) rfl (by kernel_rfl) (by kernel_rfl) (by kernel_rfl) (fun _ _ _ h => h) (Or.inr ⟨by rfl, rfl⟩) (by assumption) ?_
        simp only [List.getElem_toArray, List.getElem_cons_zero, List.getElem_cons_succ, Act.put, List.setIfInBounds_toArray, List.set_cons_zero, List.set_cons_succ]
        refine wpAnyH_take (i := 13) (v := undef) rfl (by kernel_rfl) (by kernel_rfl) (by kernel_rfl) (fun _ _ _ h => h) (Or.inr ⟨by rfl, rfl⟩) (by assumption) ?_
        simp only [List.getElem_toArray, List.getElem_cons_zero, List.getElem_cons_succ, Act.put, List.setIfInBounds_toArray, List.set_cons_zero, List.set_cons_succ]
        refine wpAnyH_take (i := 14) (v := undef) rfl (by kernel_rfl) (by kernel_rfl) (by kernel_rfl) (fun _ _ _ h => h) (Or.inr ⟨by rfl, rfl⟩) (by assumption) ?_
        simp only [List.getElem_toArray, List.getElem_cons_zero, List.getElem_cons_succ, Act.put, List.setIfInBounds_toArray, List.set_cons_zero, List.set_cons_succ]
        refine wpAnyH_take (i := 15) (v := undef) rfl (by kernel_rfl) (by kernel_rfl) (by kernel_rfl) (fun _ _ _ h => h) (Or.inr ⟨by rfl, rfl⟩) (by assumption) ?_
        simp only [List.getElem_toArray, List.getElem_cons_zero, List.getElem_cons_succ, Act.put, List.setIfInBounds_toArray, List.set_cons_zero, List.set_cons_succ]
        refine wpAnyH_take (i := 16) (v := .bool false) rfl (by kernel_rfl) (by kernel_rfl) (by kernel_rfl) (fun _ _ _ h => h) (Or.inl ⟨by rfl, by (intro W9 hSw; obtain ⟨⟨⟨t0, t1, t2, t3, t4⟩, t5⟩, ⟨r0, r1, r2, r3, r4⟩, r5⟩ := hSw; go_simp; try with_reducible rfl)⟩) (by assumption) ?_
        simp only [List.getElem_toArray, List.getElem_cons_zero, List.getElem_cons_succ, Act.put, List.setIfInBounds_toArray, List.set_cons_zero, List.set_cons_succ]
        refine wpAnyH_take (i := 17) (v := .bool false) rfl (by kernel_rfl) (by kernel_rfl) (by kernel_rfl) (fun _ _ _ h => h) (Or.inl ⟨by rfl, by (intro W9 hSw; obtain ⟨⟨⟨t0, t1, t2, t3, t4⟩, t5⟩, ⟨r0, r1, r2, r3, r4⟩, r5⟩ := hSw; go_simp; try with_reducible rfl)⟩) (by assumption) ?_
        simp only [List.getElem_toArray, List.getElem_cons_zero, List.getElem_cons_succ, Act.put, List.setIfInBounds_toArray, List.set_cons_zero, List.set_cons_succ]
        refine wpAnyH_done (by kernel_rfl) ?_ _
        clear hHeld s0 HSS
        go_wp2
        go_ret
        exact ⟨by simp [hA], HBF.out.trans (hb99.mono HBF.out.size)⟩
      | true =>
        rw [hA] at HC
        go_region_held3 (fun W => ((W.cell? ⟨gg, 0, none⟩ = some (.int .i64 x.kind) ∧ W.cell? ⟨gg, 1, none⟩ = some (.string ⟨x.text.toArray⟩) ∧ W.cell? ⟨gg, 2, none⟩ = some (.int .u64 (x.num : Int)) ∧ W.cell? ⟨gg, 3, none⟩ = some (.int .i64 x.line) ∧ W.cell? ⟨gg, 4, none⟩ = some (.int .i64 x.col)) ∧ (W.cell? ⟨gg, 5, none⟩ = some (.int .i64 y.kind) ∧ W.cell? ⟨gg, 6, none⟩ = some (.string ⟨y.text.toArray⟩) ∧ W.cell? ⟨gg, 7, none⟩ = some (.int .u64 (y.num : Int)) ∧ W.cell? ⟨gg, 8, none⟩ = some (.int .i64 y.line) ∧ W.cell? ⟨gg, 9, none⟩ = some (.int .i64 y.col))) ∧ ((W.cell? ⟨w.heap.size, 0, none⟩ = some (.int .i64 a.kind) ∧ W.cell? ⟨w.heap.size, 1, none⟩ = some (.string ⟨a.text.toArray⟩) ∧ W.cell? ⟨w.heap.size, 2, none⟩ = some (.int .u64 (a.num : Int)) ∧ W.cell? ⟨w.heap.size, 3, none⟩ = some (.int .i64 a.line) ∧ W.cell? ⟨w.heap.size, 4, none⟩ = some (.int .i64 a.col)) ∧ (W.cell? ⟨w.heap.size + 1, 0, none⟩ = some (.int .i64 b.kind) ∧ W.cell? ⟨w.heap.size + 1, 1, none⟩ = some (.string ⟨b.text.toArray⟩) ∧ W.cell? ⟨w.heap.size + 1, 2, none⟩ = some (.int .u64 (b.num : Int)) ∧ W.cell? ⟨w.heap.size + 1, 3, none⟩ = some (.int .i64 b.line) ∧ W.cell? ⟨w.heap.size + 1, 4, none⟩ = some (.int .i64 b.col)))) (first | exact s0 | exact s7 | exact s8 | go_keep) (first | (go_at_call 27; (with_reducible refine (HC.out _).mono ?_); rintro e9 w9 ⟨rfl, hb9⟩; have hb99 : Below w2.heap.size w2 w9 := (Below.refl _ w2).drew.trans hb9; have s7 := HSS.out w9 hb99) | (go_at_call 27; (with_reducible refine (HC2.out _).mono ?_); rintro e8 w8 ⟨rfl, hb8⟩; have hb98 : Below w2.heap.size w2 w8 := hb99.trans (hb8.mono hb99.size); have s8 := HSS.out w8 hb98))
        all_goals
          go_wp2
          go_ret
          exact ⟨by simp [hA], HBF.out.trans (hb98.mono HBF.out.size)⟩
    · obtain rfl : al = false := by
        have h9 := HAL.out
        rw [h9]
        split
        · rename_i he
          injection he with he _
          subst he
          exact absurd rfl hl
        · rfl
      have d1 : ((R1.length : Int) == 2) = false := by simp; omega
      clear HAL
      go_enter Tryd.func15, Tryd.ntmps15
      go_wp2_with (go_at_call 26; rw [HW.out]; (with_reducible refine (HS1.out).mono ?_); rintro e w2 ⟨p, c, rfl, ho2, hb2⟩)
      clear ho2
      go_quiet (fail)
      go_wp2
      go_ret
      exact ⟨by simp, (HB.out.1.trans (hb2.mono HB.out.1.size)).trans (below_drq _ _ _)⟩
end Go.Proofs.YtckhliilndfljaaDoor
