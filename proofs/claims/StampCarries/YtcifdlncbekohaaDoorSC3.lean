import Derived.Test.YtcifdlncbekohaaDoorSC2
namespace Go.Proofs.YtcifdlncbekohaaDoor
open Go.ChangeShapes Go.WideShapes Go.ChangeAt Go.RowKit
set_option linter.unusedVariables false
set_option linter.unusedSimpArgs false

def seV (e : Se) : Value := .agg #[.int .u64 e.t, .int .i64 e.s, .int .u64 e.q, .int .i64 e.d, .int .i64 e.k, .int .i64 e.v]
theorem box_cells {w W : World} {e : Se} {T : TypeId} (hb : Below (w.heap.size + 1) (w.alloc (.cells #[.int .u64 e.t, .int .i64 e.s, .int .u64 e.q, .int .i64 e.d, .int .i64 e.k, .int .i64 e.v] T)) W) :
    W.cell? ⟨w.heap.size, 0, none⟩ = some (.int .u64 e.t) ∧ W.cell? ⟨w.heap.size, 1, none⟩ = some (.int .i64 e.s) ∧ W.cell? ⟨w.heap.size, 2, none⟩ = some (.int .u64 e.q) ∧ W.cell? ⟨w.heap.size, 3, none⟩ = some (.int .i64 e.d) ∧ W.cell? ⟨w.heap.size, 4, none⟩ = some (.int .i64 e.k) ∧ W.cell? ⟨w.heap.size, 5, none⟩ = some (.int .i64 e.v) := by
  have h : W.heap[w.heap.size]? = some (.cells #[.int .u64 e.t, .int .i64 e.s, .int .u64 e.q, .int .i64 e.d, .int .i64 e.k, .int .i64 e.v] T (0, 0)) := (hb.block w.heap.size (by omega)).trans (heap_alloc_new w _)
  refine ⟨?_, ?_, ?_, ?_, ?_, ?_⟩ <;> (unfold World.cell?; rw [h]; rfl)
attribute [-go_sem] run_eql_struct in
set_option maxRecDepth 100000 in
set_option maxHeartbeats 4000000 in
theorem count_any (p : Option Addr) (n cp : Nat) (X : Nat → Se) (e : Se) (hn : n ≤ 1000000000000) (w : World) (h : SIn w p n X) : Calls Tryd.prog 14 #[.slice p n cp, .agg #[.int .u64 e.t, .int .i64 e.s, .int .u64 e.q, .int .i64 e.d, .int .i64 e.k, .int .i64 e.v]] w fun r w' => r = .returned (.int .i64 (cnt X e n : Nat)) ∧ Below w.heap.size w w' := by
  have HH : Hid (SIn w p n X) := h
  clear h
  go_enter Tryd.func14, Tryd.ntmps14
  go_wp2_with fail
  go_loopw [5, 10] (fun v x wr => ∃ i : Nat, x = .int .i64 (i : Int) ∧ i ≤ n ∧ v = .int .i64 (cnt X e i : Nat) ∧ Below (w.heap.size + 1) (w.alloc (.cells #[.int .u64 e.t, .int .i64 e.s, .int .u64 e.q, .int .i64 e.d, .int .i64 e.k, .int .i64 e.v] 36)) wr) (fun _ x _ => n - (intOf x).toNat)
  case atStart => exact ⟨0, rfl, Nat.zero_le _, rfl, Below.refl _ _⟩
  case round =>
    obtain ⟨i, rfl, hi, rfl, hb⟩ := hrel
    have hbw : Below w.heap.size w wr := ((Below.refl w.heap.size w).alloc (Nat.le_refl _) _).trans (hb.mono (Nat.le_succ _))
    by_cases hlt : i < n
    case neg =>
      have dlt : decide ((i : Int) < (n : Int)) = false := by simp; omega
      obtain rfl : i = n := by omega
      have HB : Hid (Below w.heap.size w wr) := hbw
      clear hb hbw
      go_wp2_with fail
      go_ret
      exact ⟨rfl, HB.out⟩
    have dlt : decide ((i : Int) < (n : Int)) = true := by simp; omega
    have i0 : (0 : Int) ≤ (i : Int) := by omega
    have i1 : (i : Int) < (n : Int) := by omega
    have ei : IntKind.i64.wrap ((i : Int) + 1) = (i : Int) + 1 := by rw [IntKind.wrap_i64]; omega
    have hm := meas hlt
    have hc := cnt_le X e i
    have hcs := cnt_succ X e i
    obtain ⟨c, hcc⟩ : ∃ c, cnt X e i = c := ⟨_, rfl⟩
    rw [hcc] at hc hcs ⊢
    have ec : IntKind.i64.wrap ((c : Int) + 1) = ((c + 1 : Nat) : Int) := by rw [IntKind.wrap_i64]; omega
    obtain ⟨g1, o1, rfl, hg1, x0, x1, x2, x3, x4, x5⟩ := (HH.out.below hbw).at hlt
    obtain ⟨y0, y1, y2, y3, y4, y5⟩ := box_cells hb
    have eq1 := eql_se (X i) e
    have HB : Hid (Below (w.heap.size + 1) (w.alloc (.cells #[.int .u64 e.t, .int .i64 e.s, .int .u64 e.q, .int .i64 e.d, .int .i64 e.k, .int .i64 e.v] 36)) wr) := hb
    have HS : Hid (cnt X e (i + 1) = c + if seSame (X i) e then 1 else 0) := hcs
    have hlo : w.heap.size < wr.heap.size := by have := hb.size; simp at this; omega
    clear hb hbw hcs hcc hc HH
    by_cases hq : seSame (X i) e = true
    · rw [hq] at eq1
      have H2 : Hid (cnt X e (i + 1) = c + 1) := by have := HS.out; rw [hq] at this; exact this
      clear HS hq
      go_wp2_with fail
      refine ⟨⟨i + 1, rfl, hlt, by rw [H2.out]; rfl, HB.out.alloc (by omega) _⟩, hm⟩
    · have hq' : seSame (X i) e = false := by simpa using hq
      rw [hq'] at eq1
      have H2 : Hid (cnt X e (i + 1) = c) := by have := HS.out; rw [hq'] at this; exact this
      clear HS hq hq'
      go_wp2_with fail
      exact ⟨⟨i + 1, rfl, hlt, by rw [H2.out], HB.out.alloc (by omega) _⟩, hm⟩
end Go.Proofs.YtcifdlncbekohaaDoor
