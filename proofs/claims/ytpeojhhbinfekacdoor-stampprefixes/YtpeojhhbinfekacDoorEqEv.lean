import Derived.Test.YtpeojhhbinfekacDoorPfxLaw
import Derived.ChangeOld
namespace Go.Proofs.YtpeojhhbinfekacDoor
open Go.ChangeShapes Go.WideShapes Go.ChangeAt Go.RowKit

theorem eql_ev (e f : Ev) (W : World) : (binOp .eql 26 (.agg #[.int .u64 e.t, .int .i64 e.s, .int .u64 e.q, .int .i64 e.d, .int .i64 e.k, .int .i64 e.v]) (.agg #[.int .u64 f.t, .int .i64 f.s, .int .u64 f.q, .int .i64 f.d, .int .i64 f.k, .int .i64 f.v])).run Tryd.prog W = .ok (.bool (decide (e.t = f.t ∧ e.s = f.s ∧ e.q = f.q ∧ e.d = f.d ∧ e.k = f.k ∧ e.v = f.v))) W := by
  by_cases h0 : (e.t : Int) = f.t
  · have g0 : ((e.t : Int) == f.t) = true := by simpa using h0
    by_cases h1 : e.s = f.s
    · have g1 : (e.s == f.s) = true := by simpa using h1
      by_cases h2 : (e.q : Int) = f.q
      · have g2 : ((e.q : Int) == f.q) = true := by simpa using h2
        by_cases h3 : e.d = f.d
        · have g3 : (e.d == f.d) = true := by simpa using h3
          by_cases h4 : e.k = f.k
          · have g4 : (e.k == f.k) = true := by simpa using h4
            by_cases h5 : e.v = f.v
            · have g5 : (e.v == f.v) = true := by simpa using h5
              go_simp
              omega
            · have g5 : (e.v == f.v) = false := by simpa using h5
              go_simp
              try omega
          · have g4 : (e.k == f.k) = false := by simpa using h4
            go_simp
            try omega
        · have g3 : (e.d == f.d) = false := by simpa using h3
          go_simp
          try omega
      · have g2 : ((e.q : Int) == f.q) = false := by simpa using h2
        go_simp
        omega
    · have g1 : (e.s == f.s) = false := by simpa using h1
      go_simp
      try omega
  · have g0 : ((e.t : Int) == f.t) = false := by simpa using h0
    go_simp
    omega
theorem ev_dec (e f : Ev) : decide (e.t = f.t ∧ e.s = f.s ∧ e.q = f.q ∧ e.d = f.d ∧ e.k = f.k ∧ e.v = f.v) = decide (e.bytes = f.bytes) := by
  by_cases h : e.bytes = f.bytes
  · have := bytes_inj h
    subst this
    simp
  · rw [decide_eq_false h, decide_eq_false]
    rintro ⟨h0, h1, h2, h3, h4, h5⟩
    exact h (by rw [ev_eq h0 h2 h1 h3 h4 h5])
theorem ev_dec2 (e f : Ev) (he : e.In) (hf : f.In) : (e.txt == f.txt) = decide (e.bytes = f.bytes) := by
  by_cases h : e.txt = f.txt
  · have := txt_inj' he hf h
    subst this
    simp
  · have h2 : (e.txt == f.txt) = false := by simpa using h
    rw [h2, decide_eq_false]
    intro hb
    exact h (by rw [bytes_inj hb])
end Go.Proofs.YtpeojhhbinfekacDoor
