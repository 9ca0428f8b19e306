import Derived.Test.YtpicobmilcbmlaaSV3
import Derived.Test.YtpicobmilcbmlaaSV5
namespace Go.Proofs.Ytpicobmilcbmlaa
open Go.ChangeShapes Go.WideShapes Go.ChangeAt Go.RowKit
set_option linter.unusedVariables false
set_option linter.unusedSimpArgs false

/-! ### a layout, plainly -/
structure Ly where
  wk : Int
  n : Nat
  O : Nat → Int
  ar : Int
  bx : Int
  un : Int
structure LyV where
  op : Option Addr
  oc : Nat
theorem boxed2 (w : World) (c d : Array Value) (t u : TypeId) : ∃ wb, (w.alloc (.cells c t)).alloc (.cells d u) = wb ∧ Below w.heap.size w wb ∧ wb.heap[w.heap.size]? = some (.cells c t (0, 0)) ∧ wb.heap[w.heap.size + 1]? = some (.cells d u (0, 0)) ∧ wb.heap.size = w.heap.size + 2 := by
  refine ⟨_, rfl, ((Below.refl _ w).alloc (Nat.le_refl _) _).alloc (by simp) _, ?_, ?_, by simp⟩
  · rw [Below.heap_alloc _ _ _ (by simp)]
    exact World.alloc_heap_new w _
  · have := World.alloc_heap_new (w.alloc (.cells c t)) (.cells d u)
    rwa [World.size_alloc] at this
theorem cells5p {W : World} {b : Nat} {c0 c1 c2 c3 c4 : Value} {t : TypeId} (h : W.heap[b]? = some (.cells #[c0, c1, c2, c3, c4] t (0, 0))) : W.cell? ⟨b, 0, none⟩ = some c0 ∧ W.cell? ⟨b, 1, none⟩ = some c1 ∧ W.cell? ⟨b, 2, none⟩ = some c2 ∧ W.cell? ⟨b, 3, none⟩ = some c3 ∧ W.cell? ⟨b, 4, none⟩ = some c4 := by
  refine ⟨?_, ?_, ?_, ?_, ?_⟩
  all_goals (unfold World.cell?; rw [h]; rfl)
theorem cells4k {W : World} {b : Nat} {c0 c1 c2 c3 : Value} {t : TypeId} (h : W.heap[b]? = some (.cells #[c0, c1, c2, c3] t (0, 0))) : W.cell? ⟨b, 0, none⟩ = some c0 ∧ W.cell? ⟨b, 1, none⟩ = some c1 ∧ W.cell? ⟨b, 2, none⟩ = some c2 ∧ W.cell? ⟨b, 3, none⟩ = some c3 := by
  refine ⟨?_, ?_, ?_, ?_⟩
  all_goals (unfold World.cell?; rw [h]; rfl)
theorem VC.fit {p : Pl} (h : VC p 0) : (GS p ∧ p.nq ≤ 64) ∧ 0 ≤ p.bu ∧ p.bu ≤ 4096 := by
  rcases h with ⟨_, h⟩ | ⟨_, ⟨_, h⟩ | ⟨_, ⟨_, h⟩ | ⟨gt, ⟨_, h⟩ | ⟨g, ⟨_, h⟩ | ⟨_, ⟨_, h⟩ | ⟨h, _⟩⟩⟩⟩⟩⟩
  all_goals first | (cases h; done) | exact ⟨⟨g, gt.1⟩, by omega⟩
def go1 (l : Ly) (j : Nat) : Prop := 0 ≤ l.O j ∧ l.O j < l.wk
def GO (p : Pl) (l : Ly) : Prop := l.n = p.nq ∧ ∀ j, j < l.n → go1 l j
/-- how many of the first starts go to a worker -/
def cO (p : Pl) (l : Ly) : Nat → Int → Nat
  | 0, _ => 0
  | i + 1, x => cO p l i x + (if l.O (p.S i).d.toNat = x then 1 else 0)
theorem cO_le (p : Pl) (l : Ly) (i : Nat) (x : Int) : cO p l i x ≤ i := by
  induction i with
  | zero => exact Nat.le_refl _
  | succ i ih =>
    unfold cO
    split <;> omega
def GA (p : Pl) (l : Ly) : Prop := (1 ≤ l.ar ∧ l.ar ≤ 8192) ∧ ∀ k : Nat, (k : Int) < l.wk → (cO p l p.ns k : Int) ≤ l.ar
/-- what Valid tells of a layout -/
def LC (p : Pl) (l : Ly) (c : Int) : Prop :=
  ∃ c0, VC p c0 ∧ (c0 ≠ 0 ∧ c = c0 ∨ c0 = 0 ∧ ((l.wk < 1 ∨ 64 < l.wk) ∧ c = 100 ∨ ¬ (l.wk < 1 ∨ 64 < l.wk) ∧ (¬ GO p l ∧ c = 130 ∨ GO p l ∧ (¬ GA p l ∧ c = 131 ∨ GA p l ∧ ((l.bx < 1 ∨ 1024 < l.bx) ∧ c = 132 ∨ ¬ (l.bx < 1 ∨ 1024 < l.bx) ∧ ((l.un < 1 ∨ 4096 < l.un) ∧ c = 133 ∨ ¬ (l.un < 1 ∨ 4096 < l.un) ∧ c = 0))))))
theorem LC.one {p : Pl} {l : Ly} {c d : Int} (h : LC p l c) (h' : LC p l d) : c = d := by
  obtain ⟨x, hx, h⟩ := h
  obtain ⟨y, hy, h'⟩ := h'
  obtain rfl : x = y := VC.one hx hy
  clear hx hy
  generalize GO p l = A at h h'
  generalize GA p l = B at h h'
  rcases h with ⟨a0, rfl⟩ | ⟨a0, ⟨a1, rfl⟩ | ⟨a1, ⟨a2, rfl⟩ | ⟨a2, ⟨a3, rfl⟩ | ⟨a3, ⟨a4, rfl⟩ | ⟨a4, ⟨a5, rfl⟩ | ⟨a5, rfl⟩⟩⟩⟩⟩⟩
  all_goals (rcases h' with ⟨b0, rfl⟩ | ⟨b0, ⟨b1, rfl⟩ | ⟨b1, ⟨b2, rfl⟩ | ⟨b2, ⟨b3, rfl⟩ | ⟨b3, ⟨b4, rfl⟩ | ⟨b4, ⟨b5, rfl⟩ | ⟨b5, rfl⟩⟩⟩⟩⟩⟩ <;> first | rfl | contradiction)
theorem LC.fit {p : Pl} {l : Ly} (h : LC p l 0) : (1 ≤ l.wk ∧ l.wk ≤ 64) ∧ 0 ≤ p.bu ∧ p.bu ≤ 4096 := by
  obtain ⟨x, hx, h⟩ := h
  rcases h with ⟨a0, a⟩ | ⟨a0, ⟨a1, a⟩ | ⟨a1, _⟩⟩
  · exact absurd a.symm a0
  · cases a
  · subst a0
    refine ⟨by omega, ?_⟩
    exact (VC.fit hx).2
set_option maxRecDepth 100000 in
set_option maxHeartbeats 1000000 in
theorem ownersFit_any (p : Pl) (v : PlV) (l : Ly) (u : LyV) (w : World) (h : KAt w u.op l.n l.O) (hq : p.nq ≤ 64) : Calls Try.prog 26 #[.agg #[.int .i64 p.ki, .slice v.pp p.np v.pc, .slice v.tp p.nq v.tc, .slice v.sp p.ns v.sc, .int .u64 p.sd, .int .u64 p.lk, .int .u64 p.en, .int .i64 p.bu, .int .i64 p.fu], .agg #[.int .i64 l.wk, .slice u.op l.n u.oc, .int .i64 l.ar, .int .i64 l.bx, .int .i64 l.un]] w fun e w' => ∃ b, e = .returned (.bool b) ∧ (b = true ↔ GO p l) ∧ Below w.heap.size w w' := by
  obtain ⟨wb, hwb, hb0, hbox, hbx2, hsz⟩ := boxed2 w #[.int .i64 p.ki, .slice v.pp p.np v.pc, .slice v.tp p.nq v.tc, .slice v.sp p.ns v.sc, .int .u64 p.sd, .int .u64 p.lk, .int .u64 p.en, .int .i64 p.bu, .int .i64 p.fu] #[.int .i64 l.wk, .slice u.op l.n u.oc, .int .i64 l.ar, .int .i64 l.bx, .int .i64 l.un] 43 46
  have HW : Hid ((w.alloc (.cells #[.int .i64 p.ki, .slice v.pp p.np v.pc, .slice v.tp p.nq v.tc, .slice v.sp p.ns v.sc, .int .u64 p.sd, .int .u64 p.lk, .int .u64 p.en, .int .i64 p.bu, .int .i64 p.fu] 43)).alloc (.cells #[.int .i64 l.wk, .slice u.op l.n u.oc, .int .i64 l.ar, .int .i64 l.bx, .int .i64 l.un] 46) = wb) := hwb
  have HP : Hid (KAt wb u.op l.n l.O) := h.below hb0
  clear h
  obtain ⟨⟨c0, c1, c2, c3⟩, c4, c5, c6, c7, c8⟩ := cells9 hbox
  obtain ⟨d0, d1, d2, d3, d4⟩ := cells5p hbx2
  rw [← hwb] at c0 c1 c2 c3 c4 c5 c6 c7 c8 d0 d1 d2 d3 d4
  by_cases hn : l.n = p.nq
  · have e0 : ((l.n : Int) != (p.nq : Int)) = false := by simp; omega
    have e1 : ((l.n : Int) == (p.nq : Int)) = true := by simp; omega
    have HN : Hid (l.n = p.nq ∧ wb.heap.size = w.heap.size + 2) := ⟨hn, hsz⟩
    clear hwb hn hsz
    go_enter Try.func26, Try.ntmps26
    go_wp2_with fail
    rw [HW.out]
    clear c0 c1 c2 c3 c4 c5 c6 c7 c8 d0 d1 d2 d3 d4
    go_loopw [17] (fun x wr => ∃ i : Nat, x = .int .i64 (i : Int) ∧ i ≤ l.n ∧ (∀ j, j < i → go1 l j) ∧ wr = wb) (fun x _ => l.n - (intOf x).toNat)
    case atStart => exact ⟨0, rfl, Nat.zero_le _, fun j hj => absurd hj (Nat.not_lt_zero _), rfl⟩
    case round =>
      obtain ⟨i, rfl, hi, hall, hwr⟩ := hrel
      subst wr
      obtain ⟨d0, d1, d2, d3, d4⟩ := cells5p hbx2
      by_cases hlt : i < l.n
      · have dlt : decide ((i : Int) < (l.n : Int)) = true := by simp; omega
        have i0 : (0 : Int) ≤ (i : Int) := by omega
        have i1 : (i : Int) < (l.n : Int) := by omega
        have ei : IntKind.i64.wrap ((i : Int) + 1) = (i : Int) + 1 := by rw [IntKind.wrap_i64]; have := HN.out.1; omega
        have hm := meas hlt
        obtain hz | ⟨g, o, hpp, hl, hc⟩ := HP.out
        · omega
        have x0 := hc i hlt
        rw [hpp] at d1 ⊢
        have HA : Hid (∀ j, j < i → go1 l j) := hall
        clear hc hall hl hpp
        by_cases h1 : l.O i < 0
        · have n0 : decide (l.O i < 0) = true := by simp; omega
          have HG : Hid (¬ go1 l i) := fun h9 => by have := h9.1; omega
          go_wp2_with fail
          go_ret
          exact ⟨false, rfl, ⟨fun e => (by cases e), fun hG => absurd (hG.2 i hlt) HG.out⟩, hb0⟩
        · have n0 : decide (l.O i < 0) = false := by simp; omega
          by_cases h2 : l.wk ≤ l.O i
          · have n1 : decide (l.wk ≤ l.O i) = true := by simp; omega
            have HG : Hid (¬ go1 l i) := fun h9 => by have := h9.2; omega
            clear h1 h2
            go_wp2_with fail
            go_ret
            exact ⟨false, rfl, ⟨fun e => (by cases e), fun hG => absurd (hG.2 i hlt) HG.out⟩, hb0⟩
          · have n1 : decide (l.wk ≤ l.O i) = false := by simp; omega
            have HG : Hid (go1 l i) := ⟨by omega, by omega⟩
            clear h1 h2
            go_wp2_with fail
            refine ⟨⟨i + 1, rfl, hlt, fun j hj => ?_, trivial⟩, hm⟩
            by_cases e : j < i
            · exact HA.out j e
            · obtain rfl : j = i := by omega
              exact HG.out
      · have dlt : decide ((i : Int) < (l.n : Int)) = false := by simp; omega
        obtain rfl : i = l.n := by omega
        go_wp2_with fail
        go_ret
        exact ⟨true, rfl, ⟨fun _ => ⟨HN.out.1, hall⟩, fun _ => rfl⟩, hb0⟩
  · have e0 : ((l.n : Int) != (p.nq : Int)) = true := by simp; omega
    have e1 : ((l.n : Int) == (p.nq : Int)) = false := by simp; omega
    clear hwb
    go_enter Try.func26, Try.ntmps26
    go_wp2_with fail
    go_ret
    rw [HW.out]
    exact ⟨false, rfl, ⟨fun e => (by cases e), fun hG => absurd hG.1 hn⟩, hb0⟩
set_option maxRecDepth 100000 in
set_option maxHeartbeats 1000000 in
theorem smax_any (q : Option Addr) (n c : Nat) (K : Nat → Int) (hn : 1 ≤ n) (hn2 : n ≤ 64) (w : World) (h : KAt w q n K) : Calls Try.prog 33 #[.slice q n c] w fun e w' => ∃ m, e = .returned (.int .i64 m) ∧ (∀ j, j < n → K j ≤ m) ∧ (∃ j, j < n ∧ K j = m) ∧ w' = w := by
  obtain hz | ⟨g, o, rfl, hl, hc⟩ := h
  · omega
  have HC : Hid (∀ j, j < n → w.cell? ⟨g, o + j, none⟩ = some (.int .i64 (K j))) := hc
  have x0 := hc 0 (by omega)
  rw [Nat.add_zero] at x0
  have d0 : decide ((n : Int) < 1) = false := by simp; omega
  have i1 : (0 : Int) < (n : Int) := by omega
  clear hc
  go_enter Try.func33, Try.ntmps33
  go_wp2_with fail
  go_loopw [3, 4] (fun x y wr => ∃ (m : Int) (i : Nat), x = .int .i64 m ∧ y = .int .i64 (i : Int) ∧ 1 ≤ i ∧ i ≤ n ∧ (∀ j, j < i → K j ≤ m) ∧ (∃ j, j < i ∧ K j = m) ∧ wr = w) (fun _ y _ => n - (intOf y).toNat)
  case atStart => exact ⟨_, 1, rfl, rfl, by omega, by omega, fun j hj => by rw [show j = 0 by omega]; exact Int.le_refl _, ⟨0, by omega, rfl⟩, rfl⟩
  case round =>
    obtain ⟨m, i, rfl, rfl, hi1, hi2, hall, hex, hwr⟩ := hrel
    subst wr
    have HH : Hid ((∀ j, j < i → K j ≤ m) ∧ ∃ j, j < i ∧ K j = m) := ⟨hall, hex⟩
    clear hall hex
    by_cases hlt : i < n
    · have dlt : decide ((i : Int) < (n : Int)) = true := by simp; omega
      have ei : IntKind.i64.wrap ((i : Int) + 1) = (i : Int) + 1 := by rw [IntKind.wrap_i64]; omega
      have y0 := HC.out i hlt
      have i0 : (0 : Int) ≤ (i : Int) := by omega
      have i2 : (i : Int) < (n : Int) := by omega
      have hm := meas hlt
      obtain ⟨ki, hki⟩ : ∃ ki, K i = ki := ⟨_, rfl⟩
      rw [hki] at y0
      have HK : Hid (K i = ki) := hki
      clear hki
      by_cases h9 : m < ki
      · have dm : decide (m < ki) = true := by simp; omega
        have dm2 : decide (ki < m) = false := by simp; omega
        go_wp2_with fail
        refine ⟨⟨ki, i + 1, rfl, rfl, by omega, hlt, fun j hj => ?_, ⟨i, by omega, HK.out⟩, trivial⟩, hm⟩
        by_cases e : j < i
        · have := HH.out.1 j e
          omega
        · obtain rfl : j = i := by omega
          exact Int.le_of_eq HK.out
      · have dm : decide (m < ki) = false := by simp; omega
        go_wp2_with fail
        obtain ⟨j0, hj0, hj1⟩ := HH.out.2
        refine ⟨⟨m, i + 1, rfl, rfl, by omega, hlt, fun j hj => ?_, ⟨j0, by omega, hj1⟩, trivial⟩, hm⟩
        by_cases e : j < i
        · exact HH.out.1 j e
        · obtain rfl : j = i := by omega
          have := HK.out
          omega
    · have dlt : decide ((i : Int) < (n : Int)) = false := by simp; omega
      obtain rfl : i = n := by omega
      go_wp2_with fail
      go_ret
      exact ⟨_, rfl, HH.out.1, HH.out.2, rfl⟩
end Go.Proofs.Ytpicobmilcbmlaa
