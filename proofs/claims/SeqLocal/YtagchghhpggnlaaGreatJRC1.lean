import Derived.Test.YtagchghhpggnlaaGreatJRB1
import Derived.Test.YtagchghhpggnlaaGreatJSV6
import Derived.Test.YtagchghhpggnlaaGreatJRN5
namespace Go.Proofs.YtagchghhpggnlaaGreat
open Go.ChangeShapes Go.WideShapes Go.ChangeAt Go.RowKit
set_option linter.unusedVariables false
set_option linter.unusedSimpArgs false

theorem SIn.six {W : World} {b o m : Nat} {X : Nat → Se} (h : ∀ j, j < m * 6 → W.cell? ⟨b, o + j, none⟩ = some (seF X j)) {i : Nat} (hi : i < m) : W.cell? ⟨b, o + i * 6, none⟩ = some (.int .u64 (X i).t) ∧ W.cell? ⟨b, o + i * 6 + 1, none⟩ = some (.int .i64 (X i).s) ∧ W.cell? ⟨b, o + i * 6 + 2, none⟩ = some (.int .u64 (X i).q) ∧ W.cell? ⟨b, o + i * 6 + 3, none⟩ = some (.int .i64 (X i).d) ∧ W.cell? ⟨b, o + i * 6 + 4, none⟩ = some (.int .i64 (X i).k) ∧ W.cell? ⟨b, o + i * 6 + 5, none⟩ = some (.int .i64 (X i).v) := by
  have hh : ∀ r, r < 6 → W.cell? ⟨b, o + i * 6 + r, none⟩ = some (seC (X i) r) := fun r hr => by
    have := h (i * 6 + r) (by omega)
    rw [seF_at _ _ _ hr] at this
    rw [show o + i * 6 + r = o + (i * 6 + r) by omega]
    exact this
  exact ⟨hh 0 (by decide), hh 1 (by decide), hh 2 (by decide), hh 3 (by decide), hh 4 (by decide), hh 5 (by decide)⟩
theorem eql_se_no (x y : Se) (hne : x ≠ y) (W : World) : (binOp .eql 39 (.agg #[.int .u64 x.t, .int .i64 x.s, .int .u64 x.q, .int .i64 x.d, .int .i64 x.k, .int .i64 x.v]) (.agg #[.int .u64 y.t, .int .i64 y.s, .int .u64 y.q, .int .i64 y.d, .int .i64 y.k, .int .i64 y.v])).run Tryz.prog W = .ok (.bool false) W := by
  by_cases h0 : x.t = y.t
  · have g0 : (x.t == y.t) = true := by simpa using h0
    by_cases h1 : x.s = y.s
    · have g1 : (x.s == y.s) = true := by simpa using h1
      by_cases h2 : x.q = y.q
      · have g2 : (x.q == y.q) = true := by simpa using h2
        by_cases h3 : x.d = y.d
        · have g3 : (x.d == y.d) = true := by simpa using h3
          by_cases h4 : x.k = y.k
          · have g4 : (x.k == y.k) = true := by simpa using h4
            by_cases h5 : x.v = y.v
            · have g5 : (x.v == y.v) = true := by simpa using h5
              exact absurd (by cases x; cases y; simp_all) hne
            · have g5 : (x.v == y.v) = false := by simpa using h5
              go_simp
          · have g4 : (x.k == y.k) = false := by simpa using h4
            go_simp
        · have g3 : (x.d == y.d) = false := by simpa using h3
          go_simp
      · have g2 : (x.q == y.q) = false := by simpa using h2
        go_simp
    · have g1 : (x.s == y.s) = false := by simpa using h1
      go_simp
  · have g0 : (x.t == y.t) = false := by simpa using h0
    go_simp
theorem eql_se_yes (x : Se) (W : World) : (binOp .eql 39 (.agg #[.int .u64 x.t, .int .i64 x.s, .int .u64 x.q, .int .i64 x.d, .int .i64 x.k, .int .i64 x.v]) (.agg #[.int .u64 x.t, .int .i64 x.s, .int .u64 x.q, .int .i64 x.d, .int .i64 x.k, .int .i64 x.v])).run Tryz.prog W = .ok (.bool true) W := by
  go_simp
set_option maxRecDepth 100000 in
set_option maxHeartbeats 4000000 in
attribute [-go_sem] run_eql_struct in
theorem at_any (q : Option Addr) (m c : Nat) (X : Nat → Se) (e : Se) (hm : m ≤ 2932031007402) (w : World) (h : SIn w q m X) : Calls Tryz.prog 23 #[.slice q m c, .agg #[.int .u64 e.t, .int .i64 e.s, .int .u64 e.q, .int .i64 e.d, .int .i64 e.k, .int .i64 e.v]] w fun r w' => (∃ n : Int, r = .returned (.int .i64 n) ∧ ((∃ j, j < m ∧ X j = e) → 0 ≤ n) ∧ (n < 0 → ∀ j, j < m → X j ≠ e)) ∧ Below w.heap.size w w' := by
  obtain ⟨wb, hwb⟩ : ∃ wb, w.alloc (.cells #[.int .u64 e.t, .int .i64 e.s, .int .u64 e.q, .int .i64 e.d, .int .i64 e.k, .int .i64 e.v] 39) = wb := ⟨_, rfl⟩
  obtain ⟨hb0, hbox, hsz⟩ := boxed _ _ _ hwb
  have HW : Hid (w.alloc (.cells #[.int .u64 e.t, .int .i64 e.s, .int .u64 e.q, .int .i64 e.d, .int .i64 e.k, .int .i64 e.v] 39) = wb) := hwb
  have HB : Hid (Below w.heap.size w wb ∧ wb.heap[w.heap.size]? = some (.cells #[.int .u64 e.t, .int .i64 e.s, .int .u64 e.q, .int .i64 e.d, .int .i64 e.k, .int .i64 e.v] 39 (0, 0)) ∧ SIn wb q m X) := ⟨hb0, hbox, h.below hb0⟩
  clear hwb hb0 hbox hsz h
  go_enter Tryz.func23, Tryz.ntmps23
  go_wp2_with fail
  rw [HW.out]
  go_loopw [5] (fun v5 wr => ∃ i : Nat, v5 = .int .i64 (i : Int) ∧ i ≤ m ∧ (∀ j, j < i → X j ≠ e) ∧ Below wb.heap.size wb wr) (fun v5 _ => m - (intOf v5).toNat)
  case atStart => exact ⟨0, rfl, Nat.zero_le _, fun j hj => absurd hj (Nat.not_lt_zero _), Below.refl _ _⟩
  case round =>
    obtain ⟨i, rfl, hi, hne, hbr⟩ := hrel
    have HN : Hid ((∀ j, j < i → X j ≠ e) ∧ Below wb.heap.size wb wr) := ⟨hne, hbr⟩
    by_cases hlt : i < m
    case pos =>
      have d1 : decide ((i : Int) < (m : Int)) = true := decide_eq_true (by omega)
      have d2 : decide (i < m) = true := decide_eq_true hlt
      have i0 : (0 : Int) ≤ (i : Int) := by omega
      have i1 : (i : Int) < (m : Int) := by omega
      have ei : IntKind.i64.wrap ((i : Int) + 1) = (i : Int) + 1 := by rw [IntKind.wrap_i64]; omega
      have HM := meas hlt
      obtain hz | ⟨bq, oq, hq, hlq, hcq⟩ := HB.out.2.2.below hbr
      · omega
      have hbd : Below wr.heap.size wr wr.drew := (Below.refl _ wr).drew
      have hxb := (hbr.block _ (lt_of_block HB.out.2.1)).trans HB.out.2.1
      obtain ⟨y0, y1, y2, y3, y4, y5⟩ := SIn.six hcq hlt
      have z0 : wr.cell? ⟨w.heap.size, 0, none⟩ = some (.int .u64 e.t) := cell_in hxb rfl
      have z1 : wr.cell? ⟨w.heap.size, 1, none⟩ = some (.int .i64 e.s) := cell_in hxb rfl
      have z2 : wr.cell? ⟨w.heap.size, 2, none⟩ = some (.int .u64 e.q) := cell_in hxb rfl
      have z3 : wr.cell? ⟨w.heap.size, 3, none⟩ = some (.int .i64 e.d) := cell_in hxb rfl
      have z4 : wr.cell? ⟨w.heap.size, 4, none⟩ = some (.int .i64 e.k) := cell_in hxb rfl
      have z5 : wr.cell? ⟨w.heap.size, 5, none⟩ = some (.int .i64 e.v) := cell_in hxb rfl
      rw [hq]
      by_cases he : X i = e
      case pos =>
        have ne1 : ∀ W, (binOp .eql 39 (.agg #[.int .u64 (X i).t, .int .i64 (X i).s, .int .u64 (X i).q, .int .i64 (X i).d, .int .i64 (X i).k, .int .i64 (X i).v]) (.agg #[.int .u64 e.t, .int .i64 e.s, .int .u64 e.q, .int .i64 e.d, .int .i64 e.k, .int .i64 e.v])).run Tryz.prog W = .ok (.bool true) W := fun W => by rw [he]; exact eql_se_yes e W
        have HE : Hid (X i = e) := he
        clear hq hlq hcq hbr hxb hne he
        go_upto_region 4 with fail
        go_quiet (fail)
        go_wp2_with fail
        go_ret
        exact ⟨⟨(i : Int), rfl, fun _ => by omega, fun h9 => absurd h9 (by omega)⟩, HB.out.1.trans ((HN.out.2.trans ((below_drewNq _ wr _).mono HN.out.2.size)).mono HB.out.1.size)⟩
      have ne1 : ∀ W, (binOp .eql 39 (.agg #[.int .u64 (X i).t, .int .i64 (X i).s, .int .u64 (X i).q, .int .i64 (X i).d, .int .i64 (X i).k, .int .i64 (X i).v]) (.agg #[.int .u64 e.t, .int .i64 e.s, .int .u64 e.q, .int .i64 e.d, .int .i64 e.k, .int .i64 e.v])).run Tryz.prog W = .ok (.bool false) W := fun W => eql_se_no (X i) e he W
      have HE : Hid (X i ≠ e) := he
      clear hq hlq hcq hbr hxb hne he
      go_upto_region 4 with fail
      go_quiet (fail)
      go_wp2_with fail
      refine ⟨⟨i + 1, rfl, hlt, fun j hj => ?_, HN.out.2.trans ((below_drewNq _ wr _).mono HN.out.2.size)⟩, HM⟩
      by_cases e9 : j = i
      · rw [e9]; exact HE.out
      · exact HN.out.1 j (by omega)
    have d1 : decide ((i : Int) < (m : Int)) = false := decide_eq_false (by omega)
    have d2 : decide (i < m) = false := decide_eq_false hlt
    obtain rfl : i = m := by omega
    clear hne hbr
    go_wp2_with fail
    go_ret
    exact ⟨⟨-1, rfl, fun ⟨j, hj, h9⟩ => absurd h9 (HN.out.1 j hj), fun _ => HN.out.1⟩, HB.out.1.trans (HN.out.2.mono HB.out.1.size)⟩
end Go.Proofs.YtagchghhpggnlaaGreat
