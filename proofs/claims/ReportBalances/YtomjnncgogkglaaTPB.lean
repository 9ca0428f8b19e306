import Derived.Test.YtomjnncgogkglaaTPL
namespace Go.Proofs.Ytomjnncgogkglaa
open Go.ChangeShapes Go.WideShapes Go.ChangeAt Go.RowKit
set_option linter.unusedVariables false
set_option linter.unusedSimpArgs false

/-- how many of the first m events happen to parts of worker k -/
def cnt (O : Nat → Int) (X : Nat → Se) (k : Int) : Nat → Nat
  | 0 => 0
  | m + 1 => if O (X m).d.toNat = k then cnt O X k m + 1 else cnt O X k m
theorem cnt_le (O : Nat → Int) (X : Nat → Se) (k : Int) (m : Nat) : cnt O X k m ≤ m := by
  induction m with
  | zero => exact Nat.le_refl _
  | succ m ih => unfold cnt; split <;> omega
def badO (l : Ly) : Prop := ∃ j, j < l.n ∧ (l.O j < 0 ∨ l.wk ≤ l.O j)
def badX (l : Ly) (nx : Nat) (X : Nat → Se) : Prop := ∃ j, j < nx ∧ ((X j).d < 0 ∨ (l.n : Int) ≤ (X j).d)
/-- what Balance tells -/
def BE (l : Ly) (nx : Nat) (X : Nat → Se) (e : Int) : Prop :=
  (e = 100 ∧ (l.wk < 1 ∨ 64 < l.wk)) ∨ (e = 130 ∧ (1 ≤ l.wk ∧ l.wk ≤ 64) ∧ badO l) ∨ (e = 171 ∧ (1 ≤ l.wk ∧ l.wk ≤ 64) ∧ ¬ badO l ∧ badX l nx X) ∨ (e = 0 ∧ (1 ≤ l.wk ∧ l.wk ≤ 64) ∧ ¬ badO l ∧ ¬ badX l nx X)
theorem BE.one {l : Ly} {nx : Nat} {X : Nat → Se} {e f : Int} (h : BE l nx X e) (g : BE l nx X f) : e = f := by
  unfold BE at h g
  by_cases h1 : badO l <;> by_cases h2 : badX l nx X <;> simp only [h1, h2, true_and, and_true, not_true, not_false_iff, false_and, and_false, or_false, false_or] at h g <;> omega
theorem BE.wk {l : Ly} {nx : Nat} {X : Nat → Se} {e : Int} (h : BE l nx X e) (e0 : e = 0) : 1 ≤ l.wk ∧ l.wk ≤ 64 := by
  rcases h with h | h | h | h
  · omega
  · exact h.2.1
  · exact h.2.1
  · exact h.2.1
theorem badO_no {l : Ly} (h : ∀ j, j < l.n → 0 ≤ l.O j ∧ l.O j < l.wk) : ¬ badO l := fun ⟨j, hj, hb⟩ => by have := h j hj; omega
theorem badO_at {l : Ly} (h : ¬ badO l) {j : Nat} (hj : j < l.n) : 0 ≤ l.O j ∧ l.O j < l.wk := by
  by_cases h1 : 0 ≤ l.O j ∧ l.O j < l.wk
  · exact h1
  · exact absurd ⟨j, hj, by omega⟩ h
theorem badX_no {l : Ly} {nx : Nat} {X : Nat → Se} (h : ∀ j, j < nx → 0 ≤ (X j).d ∧ (X j).d < l.n) : ¬ badX l nx X := fun ⟨j, hj, hb⟩ => by have := h j hj; omega
theorem badX_at {l : Ly} {nx : Nat} {X : Nat → Se} (h : ¬ badX l nx X) {j : Nat} (hj : j < nx) : 0 ≤ (X j).d ∧ (X j).d < l.n := by
  by_cases h1 : 0 ≤ (X j).d ∧ (X j).d < l.n
  · exact h1
  · exact absurd ⟨j, hj, by omega⟩ h
theorem madeI (n j : Nat) (h : j < n) : (madeCells (Value.int .i64 0).cells (n * 1)).toList.getD j undef = .int .i64 0 := by
  have : j % 1 = 0 := by omega
  simp [madeCells, Value.cells, h, this]
def shF (O : Nat → Int) (X : Nat → Se) (m : Nat) (j : Nat) : Value := .int .i64 (cnt O X j m)
set_option maxRecDepth 100000 in
set_option maxHeartbeats 4000000 in
theorem bal_w (l : Ly) (u : LyV) (ak ac aa0 aa1 aa2 am : Int) (aq ax : Option Addr) (an acq anx acx : Nat) (X : Nat → Se) (hln : l.n ≤ 17592186044416) (hn : anx ≤ 2932031007402) (w : World) (hO : KAt w u.op l.n l.O) (hX : SIn w ax anx X) (hwk : l.wk < 1 ∨ 64 < l.wk) :
    Calls Try.prog 16 #[.agg #[.int .i64 l.wk, .slice u.op l.n u.oc, .int .i64 l.ar, .int .i64 l.bx, .int .i64 l.un], .agg #[.int .i64 ak, .int .i64 ac, .int .u64 aa0, .int .i64 aa1, .int .u64 aa2, .int .i64 am, .slice aq an acq, .slice ax anx acx]] w fun e w' => ∃ (p : Option Addr) (m c : Nat) (e9 : Int), e = .returned (.tuple #[.slice p m c, .int .i64 e9]) ∧ BE l anx X e9 ∧ KAt w' p m (fun k => cnt l.O X k anx) ∧ (e9 = 0 → (m : Int) = l.wk) ∧ (e9 ≠ 0 → m = 0) ∧ Below w.heap.size w w' := by
  obtain ⟨wb, hwb, hb0, hbx1, hbx2, hsz⟩ := kboxed2 w #[.int .i64 l.wk, .slice u.op l.n u.oc, .int .i64 l.ar, .int .i64 l.bx, .int .i64 l.un] #[.int .i64 ak, .int .i64 ac, .int .u64 aa0, .int .i64 aa1, .int .u64 aa2, .int .i64 am, .slice aq an acq, .slice ax anx acx] 46 29
  have HW : Hid ((w.alloc (.cells #[.int .i64 l.wk, .slice u.op l.n u.oc, .int .i64 l.ar, .int .i64 l.bx, .int .i64 l.un] 46)).alloc (.cells #[.int .i64 ak, .int .i64 ac, .int .u64 aa0, .int .i64 aa1, .int .u64 aa2, .int .i64 am, .slice aq an acq, .slice ax anx acx] 29) = wb) := hwb
  have HBX : Hid (Below w.heap.size w wb ∧ wb.heap[w.heap.size]? = some (.cells #[.int .i64 l.wk, .slice u.op l.n u.oc, .int .i64 l.ar, .int .i64 l.bx, .int .i64 l.un] 46 (0, 0)) ∧ wb.heap[w.heap.size + 1]? = some (.cells #[.int .i64 ak, .int .i64 ac, .int .u64 aa0, .int .i64 aa1, .int .u64 aa2, .int .i64 am, .slice aq an acq, .slice ax anx acx] 29 (0, 0))) := ⟨hb0, hbx1, hbx2⟩
  have HX : Hid (SIn wb ax anx X) := hX.below hb0
  have HO : Hid (KAt wb u.op l.n l.O) := hO.below hb0
  obtain ⟨c0, c1, -, -, -⟩ := cells5p hbx1
  rw [← hwb] at c0 c1
  clear hwb hX hO hb0 hbx1 hbx2 hsz
  go_enter Try.func16, Try.ntmps16
  have HE : Hid (l.wk < 1 ∨ 64 < l.wk) := hwk
  by_cases h1 : l.wk < 1
  · have d1 : decide (l.wk < 1) = true := by simpa using h1
    clear h1 hwk
    go_wp2
    go_ret2
    exact ⟨none, 0, 0, 100, rfl, .inl ⟨rfl, HE.out⟩, .inl rfl, fun h => by omega, fun _ => rfl, by rw [HW.out]; exact HBX.out.1⟩
  · have d1 : decide (l.wk < 1) = false := by simpa using h1
    have d2 : decide (64 < l.wk) = true := by simp; omega
    clear h1 hwk
    go_wp2
    go_ret2
    exact ⟨none, 0, 0, 100, rfl, .inl ⟨rfl, HE.out⟩, .inl rfl, fun h => by omega, fun _ => rfl, by rw [HW.out]; exact HBX.out.1⟩
set_option maxRecDepth 100000 in
set_option maxHeartbeats 4000000 in
theorem rbal_w (l : Ly) (u : LyV) (ak ac aa0 aa1 aa2 am : Int) (aq ax : Option Addr) (an acq anx acx : Nat) (X : Nat → Se) (hln : l.n ≤ 17592186044416) (hn : anx ≤ 2932031007402) (w : World) (hO : KAt w u.op l.n l.O) (hX : SIn w ax anx X) (hwk : l.wk < 1 ∨ 64 < l.wk) :
    Calls Try.prog 18 #[.agg #[.int .i64 l.wk, .slice u.op l.n u.oc, .int .i64 l.ar, .int .i64 l.bx, .int .i64 l.un], .agg #[.int .i64 ak, .int .i64 ac, .int .u64 aa0, .int .i64 aa1, .int .u64 aa2, .int .i64 am, .slice aq an acq, .slice ax anx acx]] w fun e w' => ∃ (p : Option Addr) (m c : Nat) (e9 : Int), e = .returned (.tuple #[.slice p m c, .int .i64 e9]) ∧ BE l anx X e9 ∧ KAt w' p m (fun k => cnt l.O X k anx) ∧ (e9 = 0 → (m : Int) = l.wk) ∧ (e9 ≠ 0 → m = 0) ∧ Below w.heap.size w w' := by
  obtain ⟨wb, hwb, hb0, hbx1, hbx2, hsz⟩ := kboxed2 w #[.int .i64 l.wk, .slice u.op l.n u.oc, .int .i64 l.ar, .int .i64 l.bx, .int .i64 l.un] #[.int .i64 ak, .int .i64 ac, .int .u64 aa0, .int .i64 aa1, .int .u64 aa2, .int .i64 am, .slice aq an acq, .slice ax anx acx] 46 29
  have HW : Hid ((w.alloc (.cells #[.int .i64 l.wk, .slice u.op l.n u.oc, .int .i64 l.ar, .int .i64 l.bx, .int .i64 l.un] 46)).alloc (.cells #[.int .i64 ak, .int .i64 ac, .int .u64 aa0, .int .i64 aa1, .int .u64 aa2, .int .i64 am, .slice aq an acq, .slice ax anx acx] 29) = wb) := hwb
  have HBX : Hid (Below w.heap.size w wb ∧ wb.heap[w.heap.size]? = some (.cells #[.int .i64 l.wk, .slice u.op l.n u.oc, .int .i64 l.ar, .int .i64 l.bx, .int .i64 l.un] 46 (0, 0)) ∧ wb.heap[w.heap.size + 1]? = some (.cells #[.int .i64 ak, .int .i64 ac, .int .u64 aa0, .int .i64 aa1, .int .u64 aa2, .int .i64 am, .slice aq an acq, .slice ax anx acx] 29 (0, 0))) := ⟨hb0, hbx1, hbx2⟩
  have HX : Hid (SIn wb ax anx X) := hX.below hb0
  have HO : Hid (KAt wb u.op l.n l.O) := hO.below hb0
  obtain ⟨c0, c1, -, -, -⟩ := cells5p hbx1
  rw [← hwb] at c0 c1
  clear hwb hX hO hb0 hbx1 hbx2 hsz
  go_enter Try.func18, Try.ntmps18
  have HE : Hid (l.wk < 1 ∨ 64 < l.wk) := hwk
  by_cases h1 : l.wk < 1
  · have d1 : decide (l.wk < 1) = true := by simpa using h1
    clear h1 hwk
    go_wp2
    go_ret2
    exact ⟨none, 0, 0, 100, rfl, .inl ⟨rfl, HE.out⟩, .inl rfl, fun h => by omega, fun _ => rfl, by rw [HW.out]; exact HBX.out.1⟩
  · have d1 : decide (l.wk < 1) = false := by simpa using h1
    have d2 : decide (64 < l.wk) = true := by simp; omega
    clear h1 hwk
    go_wp2
    go_ret2
    exact ⟨none, 0, 0, 100, rfl, .inl ⟨rfl, HE.out⟩, .inl rfl, fun h => by omega, fun _ => rfl, by rw [HW.out]; exact HBX.out.1⟩
set_option maxRecDepth 100000 in
set_option maxHeartbeats 4000000 in
theorem bal_in (l : Ly) (u : LyV) (ak ac aa0 aa1 aa2 am : Int) (aq ax : Option Addr) (an acq anx acx : Nat) (X : Nat → Se) (hln : l.n ≤ 17592186044416) (hn : anx ≤ 2932031007402) (w : World) (hO : KAt w u.op l.n l.O) (hX : SIn w ax anx X) (hwk : 1 ≤ l.wk ∧ l.wk ≤ 64) :
    Calls Try.prog 16 #[.agg #[.int .i64 l.wk, .slice u.op l.n u.oc, .int .i64 l.ar, .int .i64 l.bx, .int .i64 l.un], .agg #[.int .i64 ak, .int .i64 ac, .int .u64 aa0, .int .i64 aa1, .int .u64 aa2, .int .i64 am, .slice aq an acq, .slice ax anx acx]] w fun e w' => ∃ (p : Option Addr) (m c : Nat) (e9 : Int), e = .returned (.tuple #[.slice p m c, .int .i64 e9]) ∧ BE l anx X e9 ∧ KAt w' p m (fun k => cnt l.O X k anx) ∧ (e9 = 0 → (m : Int) = l.wk) ∧ (e9 ≠ 0 → m = 0) ∧ Below w.heap.size w w' := by
  obtain ⟨wb, hwb, hb0, hbx1, hbx2, hsz⟩ := kboxed2 w #[.int .i64 l.wk, .slice u.op l.n u.oc, .int .i64 l.ar, .int .i64 l.bx, .int .i64 l.un] #[.int .i64 ak, .int .i64 ac, .int .u64 aa0, .int .i64 aa1, .int .u64 aa2, .int .i64 am, .slice aq an acq, .slice ax anx acx] 46 29
  have HW : Hid ((w.alloc (.cells #[.int .i64 l.wk, .slice u.op l.n u.oc, .int .i64 l.ar, .int .i64 l.bx, .int .i64 l.un] 46)).alloc (.cells #[.int .i64 ak, .int .i64 ac, .int .u64 aa0, .int .i64 aa1, .int .u64 aa2, .int .i64 am, .slice aq an acq, .slice ax anx acx] 29) = wb) := hwb
  have HBX : Hid (Below w.heap.size w wb ∧ wb.heap[w.heap.size]? = some (.cells #[.int .i64 l.wk, .slice u.op l.n u.oc, .int .i64 l.ar, .int .i64 l.bx, .int .i64 l.un] 46 (0, 0)) ∧ wb.heap[w.heap.size + 1]? = some (.cells #[.int .i64 ak, .int .i64 ac, .int .u64 aa0, .int .i64 aa1, .int .u64 aa2, .int .i64 am, .slice aq an acq, .slice ax anx acx] 29 (0, 0))) := ⟨hb0, hbx1, hbx2⟩
  have HX : Hid (SIn wb ax anx X) := hX.below hb0
  have HO : Hid (KAt wb u.op l.n l.O) := hO.below hb0
  obtain ⟨c0, c1, -, -, -⟩ := cells5p hbx1
  rw [← hwb] at c0 c1
  clear hwb hX hO hb0 hbx1 hbx2 hsz
  go_enter Try.func16, Try.ntmps16
  have d1 : decide (l.wk < 1) = false := by simp; omega
  have d2 : decide (64 < l.wk) = false := by simp; omega
  go_wp2
  rw [HW.out]
  clear c0 c1 d1 d2
  go_loopw [22] (fun v wr => ∃ i : Nat, v = .int .i64 i ∧ i ≤ l.n ∧ (∀ j, j < i → 0 ≤ l.O j ∧ l.O j < l.wk) ∧ wr = wb) (fun v _ => l.n - (intOf v).toNat)
  case atStart => exact ⟨0, rfl, Nat.zero_le _, fun j hj => absurd hj (Nat.not_lt_zero _), rfl⟩
  case round =>
    obtain ⟨i, rfl, hi, hpre, rfl⟩ := hrel
    obtain ⟨c0, c1, -, -, -⟩ := cells5p HBX.out.2.1
    have HP : Hid (∀ j, j < i → 0 ≤ l.O j ∧ l.O j < l.wk) := hpre
    clear hpre
    by_cases hlt : i < l.n
    case pos =>
      have dl : decide ((i : Int) < (l.n : Int)) = true := decide_eq_true (by omega)
      have hme := meas hlt
      have i0 : (0 : Int) ≤ (i : Int) := by omega
      have i1 : (i : Int) < (l.n : Int) := by omega
      have ei : IntKind.i64.wrap ((i : Int) + 1) = (i : Int) + 1 := by rw [IntKind.wrap_i64]; omega
      obtain ⟨g1, o1, hx1, hg1, x0⟩ : ∃ g o, u.op = some ⟨g, o, none⟩ ∧ g < wr.heap.size ∧ wr.cell? ⟨g, o + i, none⟩ = some (.int .i64 (l.O i)) := by
        rcases HO.out with h | ⟨g, o, h1, h2, h3⟩
        · omega
        · exact ⟨g, o, h1, h2, h3 i hlt⟩
      rw [hx1] at c1
      rw [hx1]
      by_cases h1 : l.O i < 0
      · have e1 : decide (l.O i < 0) = true := by simpa using h1
        go_wp2
        go_ret2
        exact ⟨none, 0, 0, 130, rfl, .inr (.inl ⟨rfl, hwk, i, hlt, .inl h1⟩), .inl rfl, fun h => by omega, fun _ => rfl, HBX.out.1⟩
      · have e1 : decide (l.O i < 0) = false := by simpa using h1
        by_cases h2 : l.wk ≤ l.O i
        · have e2 : decide (l.wk ≤ l.O i) = true := by simpa using h2
          go_wp2
          go_ret2
          exact ⟨none, 0, 0, 130, rfl, .inr (.inl ⟨rfl, hwk, i, hlt, .inr h2⟩), .inl rfl, fun h => by omega, fun _ => rfl, HBX.out.1⟩
        · have e2 : decide (l.wk ≤ l.O i) = false := by simpa using h2
          go_wp2
          refine ⟨⟨i + 1, rfl, hlt, fun j hj => ?_, by first | rfl | trivial⟩, hme⟩
          by_cases e : j = i
          · rw [e]; omega
          · exact HP.out j (by omega)
    have dl : decide ((i : Int) < (l.n : Int)) = false := decide_eq_false (by omega)
    have hbo : ¬ badO l := badO_no fun j hj => HP.out j (by omega)
    have HBO : Hid (¬ badO l) := hbo
    obtain ⟨-, -, -, -, -, -, -, d7⟩ := cells8k HBX.out.2.2
    clear HP hbo
    obtain ⟨i8, hi8, ha8, hb8, hc8⟩ := sinfo infoInt
    obtain ⟨k, hk⟩ : ∃ k : Nat, l.wk = k := ⟨l.wk.toNat, by omega⟩
    have hk64 : k ≤ 64 := by omega
    have HK : Hid (l.wk = k) := hk
    rw [hk] at c0
    clear hk
    go_wp2_with (at_make; refine wpList_make_full _ rfl (.tmp 36) (.tmp 36) 44 rfl wr.heap.size 3 i8 _ 1 Try.underlying44 hi8 ha8 hb8 .i64 .i64 k k k rfl rfl rfl rfl (by rw [hc8]; omega) (by unfold maxLen; omega) (Nat.le_refl _) ?_; intro w1 hown hgrow; have hb1 : Below wr.heap.size wr w1 := ((Below.refl _ _).grown hgrow (Nat.le_refl _) (by simp)); have HS1 : Hid (Own w1 wr.heap.size 3 1 (.slice (some ⟨wr.heap.size, 0, none⟩) k k) k (shF l.O X 0) ∧ Below wr.heap.size wr w1) := ⟨(own_of hown).congr (fun j hj => (madeI k j (by omega)).trans rfl), hb1⟩; clear c0 c1 d7; obtain ⟨c0, c1, -, -, -⟩ := cells5p ((hb1.block _ (lt_of_block HBX.out.2.1)).trans HBX.out.2.1); obtain ⟨-, -, -, -, -, -, -, d7⟩ := cells8k ((hb1.block _ (lt_of_block HBX.out.2.2)).trans HBX.out.2.2); clear hown hgrow hb1)
    clear c0 c1 d7
    obtain ⟨gs, hgs⟩ : ∃ gs, wr.heap.size = gs := ⟨_, rfl⟩
    rw [hgs]
    have HGS : Hid (wr.heap.size = gs) := hgs
    rw [hgs] at HS1
    clear hgs
    obtain ⟨wA, rfl⟩ : ∃ wA, wA = wr := ⟨_, rfl⟩
    go_loopw [41] (fun v wt => ∃ i : Nat, v = .int .i64 i ∧ i ≤ anx ∧ (∀ j, j < i → 0 ≤ (X j).d ∧ (X j).d < l.n) ∧ Own wt gs 3 1 (.slice (some ⟨gs, 0, none⟩) k k) k (shF l.O X i) ∧ Below gs wA wt) (fun v _ => anx - (intOf v).toNat)
    case atStart => exact ⟨0, rfl, Nat.zero_le _, fun j hj => absurd hj (Nat.not_lt_zero _), HS1.out.1, HS1.out.2⟩
    case round =>
      obtain ⟨i, rfl, hi, hpre, hown, hbt⟩ := hrel
      have hbt' : Below wA.heap.size wA wr := by rw [HGS.out]; exact hbt
      have HP : Hid ((∀ j, j < i → 0 ≤ (X j).d ∧ (X j).d < l.n) ∧ Own wr gs 3 1 (.slice (some ⟨gs, 0, none⟩) k k) k (shF l.O X i) ∧ Below wA.heap.size wA wr) := ⟨hpre, hown, hbt'⟩
      by_cases hlt : i < anx
      case pos =>
        have dl : decide ((i : Int) < (anx : Int)) = true := decide_eq_true (by omega)
        have hme := meas hlt
        have i0 : (0 : Int) ≤ (i : Int) := by omega
        have i1 : (i : Int) < (anx : Int) := by omega
        have ei : IntKind.i64.wrap ((i : Int) + 1) = (i : Int) + 1 := by rw [IntKind.wrap_i64]; omega
        obtain ⟨g1, o1, hx1, hg1, x0, x1, x2, x3, x4, x5⟩ := (HX.out.below hbt').at hlt
        rw [hx1]
        clear hpre hown hbt hx1
        by_cases h1 : (X i).d < 0
        · have e1 : decide ((X i).d < 0) = true := by simpa using h1
          clear hbt'
          go_wp2
          go_ret2
          exact ⟨none, 0, 0, 171, rfl, .inr (.inr (.inl ⟨rfl, hwk, HBO.out, i, hlt, .inl h1⟩)), .inl rfl, fun h => by omega, fun _ => rfl, HBX.out.1.trans ((HP.out.2.2.alloc HP.out.2.2.size _).mono HBX.out.1.size)⟩
        · have e1 : decide ((X i).d < 0) = false := by simpa using h1
          have hba : Below wA.heap.size wA (wr.alloc (.cells #[.int .u64 (X i).t, .int .i64 (X i).s, .int .u64 (X i).q, .int .i64 (X i).d, .int .i64 (X i).k, .int .i64 (X i).v] 67)) := HP.out.2.2.alloc HP.out.2.2.size _
          obtain ⟨c0, c1, -, -, -⟩ := cells5p ((hba.block _ (lt_of_block HBX.out.2.1)).trans HBX.out.2.1)
          by_cases h2 : (l.n : Int) ≤ (X i).d
          · have e2 : decide ((l.n : Int) ≤ (X i).d) = true := by simpa using h2
            clear hbt' hba
            go_wp2
            go_ret2
            exact ⟨none, 0, 0, 171, rfl, .inr (.inr (.inl ⟨rfl, hwk, HBO.out, i, hlt, .inr h2⟩)), .inl rfl, fun h => by omega, fun _ => rfl, HBX.out.1.trans ((HP.out.2.2.alloc HP.out.2.2.size _).mono HBX.out.1.size)⟩
          · have e2 : decide ((l.n : Int) ≤ (X i).d) = false := by simpa using h2
            obtain ⟨dN, hdN⟩ : ∃ dN : Nat, (X i).d = dN := ⟨(X i).d.toNat, by omega⟩
            rw [hdN] at x3 e1 e2 c0 c1
            have hdn : dN < l.n := by omega
            have HD : Hid ((X i).d = dN) := hdN
            rw [hdN] at hba
            obtain ⟨g2, o2, hx2, hg2, y0⟩ : ∃ g o, u.op = some ⟨g, o, none⟩ ∧ g < wA.heap.size ∧ (wr.alloc (.cells #[.int .u64 (X i).t, .int .i64 (X i).s, .int .u64 (X i).q, .int .i64 (dN : Int), .int .i64 (X i).k, .int .i64 (X i).v] 67)).cell? ⟨g, o + dN, none⟩ = some (.int .i64 (l.O dN)) := by
              rcases HO.out.below hba with h | ⟨g, o, h1, h2, h3⟩
              · omega
              · rcases HO.out with h | ⟨g', o', h1', h2', h3'⟩
                · omega
                · rw [h1'] at h1
                  injection h1 with h1
                  injection h1 with h1a h1b h1c
                  subst h1a h1b
                  exact ⟨g', o', h1', h2', h3 dN hdn⟩
            rw [hx2] at c1
            have hob := badO_at HBO.out hdn
            obtain ⟨ow, how⟩ : ∃ ow : Nat, l.O dN = ow := ⟨(l.O dN).toNat, by omega⟩
            have hok : ow < k := by have := HK.out; omega
            rw [how] at y0
            have j0 : (0 : Int) ≤ (dN : Int) := by omega
            have j1 : (dN : Int) < (l.n : Int) := by omega
            have k0 : (0 : Int) ≤ (ow : Int) := by omega
            have k1 : (ow : Int) < (k : Int) := by omega
            have hoa : Own (wr.alloc (.cells #[.int .u64 (X i).t, .int .i64 (X i).s, .int .u64 (X i).q, .int .i64 (dN : Int), .int .i64 (X i).k, .int .i64 (X i).v] 67)) gs 3 1 (.slice (some ⟨gs, 0, none⟩) k k) k (shF l.O X i) := HP.out.2.1.later ((Below.refl _ wr).alloc (Nat.le_refl _) _)
            have s0 : (wr.alloc (.cells #[.int .u64 (X i).t, .int .i64 (X i).s, .int .u64 (X i).q, .int .i64 (dN : Int), .int .i64 (X i).k, .int .i64 (X i).v] 67)).cell? ⟨gs, ow, none⟩ = some (.int .i64 (cnt l.O X ow i)) := hoa.cell (j := ow) (by omega)
            have hcl := cnt_le l.O X ow i
            have ec : IntKind.i64.wrap ((cnt l.O X ow i : Int) + 1) = (cnt l.O X ow i : Int) + 1 := by rw [IntKind.wrap_i64]; omega
            have sz : (wr.alloc (.cells #[.int .u64 (X i).t, .int .i64 (X i).s, .int .u64 (X i).q, .int .i64 (dN : Int), .int .i64 (X i).k, .int .i64 (X i).v] 67)).frozen? ⟨gs, ow, none⟩ = false := by
              obtain ⟨cur, hc, _⟩ := hoa.block
              exact frz hc _
            have HF : Hid (Own (wr.alloc (.cells #[.int .u64 (X i).t, .int .i64 (X i).s, .int .u64 (X i).q, .int .i64 (dN : Int), .int .i64 (X i).k, .int .i64 (X i).v] 67)) gs 3 1 (.slice (some ⟨gs, 0, none⟩) k k) k (shF l.O X i) ∧ Below wA.heap.size wA (wr.alloc (.cells #[.int .u64 (X i).t, .int .i64 (X i).s, .int .u64 (X i).q, .int .i64 (dN : Int), .int .i64 (X i).k, .int .i64 (X i).v] 67)) ∧ l.O dN = ow) := ⟨hoa, hba, how⟩
            clear hbt' hba hdN h1 h2 hx2 hoa how hob
            go_wp2
            refine ⟨⟨i + 1, rfl, hlt, fun j hj => ?_, ?_, ?_⟩, hme⟩
            · by_cases e : j = i
              · rw [e, HD.out]; omega
              · exact HP.out.1 j (by omega)
            · refine (Own.put HF.out.1 ow [.int .i64 ((cnt l.O X ow i : Int) + 1)]).congr fun j hj => ?_
              unfold putF shF
              simp only [List.length_singleton]
              by_cases e : j = ow
              · subst e
                rw [if_pos (by omega)]
                simp [cnt, HD.out, HF.out.2.2]
              · rw [if_neg (by omega)]
                have : ¬ (l.O dN = (j : Int)) := by rw [HF.out.2.2]; omega
                simp [cnt, HD.out, this]
            · rw [← HGS.out]
              exact HF.out.2.1.setCell (p := ⟨wA.heap.size, ow, none⟩) (Nat.le_refl _) _
      have dl : decide ((i : Int) < (anx : Int)) = false := decide_eq_false (by omega)
      obtain rfl : i = anx := by omega
      clear hpre hown hbt hbt'
      go_wp2
      go_ret2
      refine ⟨some ⟨gs, 0, none⟩, k, k, 0, rfl, .inr (.inr (.inr ⟨rfl, hwk, HBO.out, badX_no HP.out.1⟩)), .inr ⟨gs, 0, rfl, (Own.lt HP.out.2.1 gs rfl).2, fun j hj => ?_⟩, fun _ => HK.out.symm, fun h => absurd rfl h, HBX.out.1.trans (HP.out.2.2.mono HBX.out.1.size)⟩
      rw [Nat.zero_add]
      exact HP.out.2.1.cell (j := j) (by omega)
set_option maxRecDepth 100000 in
set_option maxHeartbeats 4000000 in
theorem rbal_in (l : Ly) (u : LyV) (ak ac aa0 aa1 aa2 am : Int) (aq ax : Option Addr) (an acq anx acx : Nat) (X : Nat → Se) (hln : l.n ≤ 17592186044416) (hn : anx ≤ 2932031007402) (w : World) (hO : KAt w u.op l.n l.O) (hX : SIn w ax anx X) (hwk : 1 ≤ l.wk ∧ l.wk ≤ 64) :
    Calls Try.prog 18 #[.agg #[.int .i64 l.wk, .slice u.op l.n u.oc, .int .i64 l.ar, .int .i64 l.bx, .int .i64 l.un], .agg #[.int .i64 ak, .int .i64 ac, .int .u64 aa0, .int .i64 aa1, .int .u64 aa2, .int .i64 am, .slice aq an acq, .slice ax anx acx]] w fun e w' => ∃ (p : Option Addr) (m c : Nat) (e9 : Int), e = .returned (.tuple #[.slice p m c, .int .i64 e9]) ∧ BE l anx X e9 ∧ KAt w' p m (fun k => cnt l.O X k anx) ∧ (e9 = 0 → (m : Int) = l.wk) ∧ (e9 ≠ 0 → m = 0) ∧ Below w.heap.size w w' := by
  obtain ⟨wb, hwb, hb0, hbx1, hbx2, hsz⟩ := kboxed2 w #[.int .i64 l.wk, .slice u.op l.n u.oc, .int .i64 l.ar, .int .i64 l.bx, .int .i64 l.un] #[.int .i64 ak, .int .i64 ac, .int .u64 aa0, .int .i64 aa1, .int .u64 aa2, .int .i64 am, .slice aq an acq, .slice ax anx acx] 46 29
  have HW : Hid ((w.alloc (.cells #[.int .i64 l.wk, .slice u.op l.n u.oc, .int .i64 l.ar, .int .i64 l.bx, .int .i64 l.un] 46)).alloc (.cells #[.int .i64 ak, .int .i64 ac, .int .u64 aa0, .int .i64 aa1, .int .u64 aa2, .int .i64 am, .slice aq an acq, .slice ax anx acx] 29) = wb) := hwb
  have HBX : Hid (Below w.heap.size w wb ∧ wb.heap[w.heap.size]? = some (.cells #[.int .i64 l.wk, .slice u.op l.n u.oc, .int .i64 l.ar, .int .i64 l.bx, .int .i64 l.un] 46 (0, 0)) ∧ wb.heap[w.heap.size + 1]? = some (.cells #[.int .i64 ak, .int .i64 ac, .int .u64 aa0, .int .i64 aa1, .int .u64 aa2, .int .i64 am, .slice aq an acq, .slice ax anx acx] 29 (0, 0))) := ⟨hb0, hbx1, hbx2⟩
  have HX : Hid (SIn wb ax anx X) := hX.below hb0
  have HO : Hid (KAt wb u.op l.n l.O) := hO.below hb0
  obtain ⟨c0, c1, -, -, -⟩ := cells5p hbx1
  rw [← hwb] at c0 c1
  clear hwb hX hO hb0 hbx1 hbx2 hsz
  go_enter Try.func18, Try.ntmps18
  have d1 : decide (l.wk < 1) = false := by simp; omega
  have d2 : decide (64 < l.wk) = false := by simp; omega
  go_wp2
  rw [HW.out]
  clear c0 c1 d1 d2
  go_loopw [26] (fun v wr => ∃ i : Nat, v = .int .i64 i ∧ i ≤ l.n ∧ (∀ j, j < i → 0 ≤ l.O j ∧ l.O j < l.wk) ∧ wr = wb) (fun v _ => l.n - (intOf v).toNat)
  case atStart => exact ⟨0, rfl, Nat.zero_le _, fun j hj => absurd hj (Nat.not_lt_zero _), rfl⟩
  case round =>
    obtain ⟨i, rfl, hi, hpre, rfl⟩ := hrel
    obtain ⟨c0, c1, -, -, -⟩ := cells5p HBX.out.2.1
    have HP : Hid (∀ j, j < i → 0 ≤ l.O j ∧ l.O j < l.wk) := hpre
    clear hpre
    by_cases hlt : i < l.n
    case pos =>
      have dl : decide ((i : Int) < (l.n : Int)) = true := decide_eq_true (by omega)
      have hme := meas hlt
      have i0 : (0 : Int) ≤ (i : Int) := by omega
      have i1 : (i : Int) < (l.n : Int) := by omega
      have ei : IntKind.i64.wrap ((i : Int) + 1) = (i : Int) + 1 := by rw [IntKind.wrap_i64]; omega
      obtain ⟨g1, o1, hx1, hg1, x0⟩ : ∃ g o, u.op = some ⟨g, o, none⟩ ∧ g < wr.heap.size ∧ wr.cell? ⟨g, o + i, none⟩ = some (.int .i64 (l.O i)) := by
        rcases HO.out with h | ⟨g, o, h1, h2, h3⟩
        · omega
        · exact ⟨g, o, h1, h2, h3 i hlt⟩
      rw [hx1] at c1
      rw [hx1]
      by_cases h1 : l.O i < 0
      · have e1 : decide (l.O i < 0) = true := by simpa using h1
        go_wp2
        go_ret2
        exact ⟨none, 0, 0, 130, rfl, .inr (.inl ⟨rfl, hwk, i, hlt, .inl h1⟩), .inl rfl, fun h => by omega, fun _ => rfl, HBX.out.1⟩
      · have e1 : decide (l.O i < 0) = false := by simpa using h1
        by_cases h2 : l.wk ≤ l.O i
        · have e2 : decide (l.wk ≤ l.O i) = true := by simpa using h2
          go_wp2
          go_ret2
          exact ⟨none, 0, 0, 130, rfl, .inr (.inl ⟨rfl, hwk, i, hlt, .inr h2⟩), .inl rfl, fun h => by omega, fun _ => rfl, HBX.out.1⟩
        · have e2 : decide (l.wk ≤ l.O i) = false := by simpa using h2
          go_wp2
          refine ⟨⟨i + 1, rfl, hlt, fun j hj => ?_, by first | rfl | trivial⟩, hme⟩
          by_cases e : j = i
          · rw [e]; omega
          · exact HP.out j (by omega)
    have dl : decide ((i : Int) < (l.n : Int)) = false := decide_eq_false (by omega)
    have hbo : ¬ badO l := badO_no fun j hj => HP.out j (by omega)
    have HBO : Hid (¬ badO l) := hbo
    obtain ⟨-, -, -, -, -, -, -, d7⟩ := cells8k HBX.out.2.2
    clear HP hbo
    obtain ⟨i8, hi8, ha8, hb8, hc8⟩ := sinfo infoInt
    obtain ⟨k, hk⟩ : ∃ k : Nat, l.wk = k := ⟨l.wk.toNat, by omega⟩
    have hk64 : k ≤ 64 := by omega
    have HK : Hid (l.wk = k) := hk
    clear hk
    go_wp2
    clear c0 c1 d7
    obtain ⟨wA, rfl⟩ : ∃ wA, wA = wr := ⟨_, rfl⟩
    go_loopw [42] (fun v wt => ∃ i : Nat, v = .int .i64 i ∧ i ≤ anx ∧ (∀ j, j < i → 0 ≤ (X j).d ∧ (X j).d < l.n) ∧ Below wA.heap.size wA wt) (fun v _ => anx - (intOf v).toNat)
    case atStart => exact ⟨0, rfl, Nat.zero_le _, fun j hj => absurd hj (Nat.not_lt_zero _), Below.refl _ _⟩
    case round =>
      obtain ⟨i, rfl, hi, hpre, hbt⟩ := hrel
      have HP : Hid ((∀ j, j < i → 0 ≤ (X j).d ∧ (X j).d < l.n) ∧ Below wA.heap.size wA wr) := ⟨hpre, hbt⟩
      by_cases hlt : i < anx
      case pos =>
        have dl : decide ((i : Int) < (anx : Int)) = true := decide_eq_true (by omega)
        have hme := meas hlt
        have i0 : (0 : Int) ≤ (i : Int) := by omega
        have i1 : (i : Int) < (anx : Int) := by omega
        have ei : IntKind.i64.wrap ((i : Int) + 1) = (i : Int) + 1 := by rw [IntKind.wrap_i64]; omega
        obtain ⟨g1, o1, hx1, hg1, x0, x1, x2, x3, x4, x5⟩ := (HX.out.below hbt).at hlt
        rw [hx1]
        clear hpre hbt hx1
        by_cases h1 : (X i).d < 0
        · have e1 : decide ((X i).d < 0) = true := by simpa using h1
          go_wp2
          go_ret2
          exact ⟨none, 0, 0, 171, rfl, .inr (.inr (.inl ⟨rfl, hwk, HBO.out, i, hlt, .inl h1⟩)), .inl rfl, fun h => by omega, fun _ => rfl, HBX.out.1.trans ((HP.out.2.alloc HP.out.2.size _).mono HBX.out.1.size)⟩
        · have e1 : decide ((X i).d < 0) = false := by simpa using h1
          have hba : Below wA.heap.size wA (wr.alloc (.cells #[.int .u64 (X i).t, .int .i64 (X i).s, .int .u64 (X i).q, .int .i64 (X i).d, .int .i64 (X i).k, .int .i64 (X i).v] 67)) := HP.out.2.alloc HP.out.2.size _
          obtain ⟨c0, c1, -, -, -⟩ := cells5p ((hba.block _ (lt_of_block HBX.out.2.1)).trans HBX.out.2.1)
          clear hba
          by_cases h2 : (l.n : Int) ≤ (X i).d
          · have e2 : decide ((l.n : Int) ≤ (X i).d) = true := by simpa using h2
            go_wp2
            go_ret2
            exact ⟨none, 0, 0, 171, rfl, .inr (.inr (.inl ⟨rfl, hwk, HBO.out, i, hlt, .inr h2⟩)), .inl rfl, fun h => by omega, fun _ => rfl, HBX.out.1.trans ((HP.out.2.alloc HP.out.2.size _).mono HBX.out.1.size)⟩
          · have e2 : decide ((l.n : Int) ≤ (X i).d) = false := by simpa using h2
            have HD : Hid (0 ≤ (X i).d ∧ (X i).d < l.n) := ⟨by omega, by omega⟩
            go_wp2
            refine ⟨⟨i + 1, rfl, hlt, fun j hj => ?_, HP.out.2.alloc HP.out.2.size _⟩, hme⟩
            by_cases e : j = i
            · rw [e]; exact HD.out
            · exact HP.out.1 j (by omega)
      have dl : decide ((i : Int) < (anx : Int)) = false := decide_eq_false (by omega)
      obtain rfl : i = anx := by omega
      clear hpre hbt
      go_wp2
      obtain ⟨wB, rfl⟩ : ∃ wB, wB = wr := ⟨_, rfl⟩
      have hbx : ¬ badX l i X := badX_no HP.out.1
      have HBB : Hid (¬ badX l i X ∧ Below wA.heap.size wA wB) := ⟨hbx, HP.out.2⟩
      clear HP hbx
      go_loopw [10, 11] (fun r v wt => ∃ q : Nat, v = .int .i64 q ∧ q ≤ k ∧ Own wt wA.heap.size 3 1 r q (shF l.O X i) ∧ Below wA.heap.size wA wt) (fun _ v _ => k - (intOf v).toNat)
      case atStart => exact ⟨0, rfl, Nat.zero_le _, World.ownsRow_nil _ _ _ _, HBB.out.2⟩
      case round =>
        obtain ⟨q, rfl, hq, hrow, hbt⟩ := hrel
        have HP : Hid (Own wr wA.heap.size 3 1 u10 q (shF l.O X i) ∧ Below wA.heap.size wA wr) := ⟨hrow, hbt⟩
        obtain ⟨c0, c1, -, -, -⟩ := cells5p ((hbt.block _ (lt_of_block HBX.out.2.1)).trans HBX.out.2.1)
        obtain ⟨-, -, -, -, -, -, -, d7⟩ := cells8k ((hbt.block _ (lt_of_block HBX.out.2.2)).trans HBX.out.2.2)
        rw [HK.out] at c0
        clear hrow hbt
        by_cases hqk : q < k
        case pos =>
          have dq : decide ((q : Int) < (k : Int)) = true := decide_eq_true (by omega)
          have hmq := meas hqk
          have eq9 : IntKind.i64.wrap ((q : Int) + 1) = (q : Int) + 1 := by rw [IntKind.wrap_i64]; omega
          go_wp2
          clear c0 c1 d7
          obtain ⟨wC, rfl⟩ : ∃ wC, wC = wr := ⟨_, rfl⟩
          go_loopw [12, 67] (fun a v wt => ∃ j : Nat, v = .int .i64 j ∧ a = .int .i64 (cnt l.O X q j) ∧ j ≤ i ∧ Below wC.heap.size wC wt) (fun _ v _ => i - (intOf v).toNat)
          case atStart => exact ⟨0, rfl, rfl, Nat.zero_le _, Below.refl _ _⟩
          case round =>
            obtain ⟨j, rfl, rfl, hj, hbt⟩ := hrel
            have hbA : Below wA.heap.size wA wr := HP.out.2.trans (hbt.mono HP.out.2.size)
            have HQ : Hid (Below wC.heap.size wC wr ∧ Below wA.heap.size wA wr) := ⟨hbt, hbA⟩
            by_cases hlt : j < i
            case pos =>
              have dl2 : decide ((j : Int) < (i : Int)) = true := decide_eq_true (by omega)
              have hme := meas hlt
              have i0 : (0 : Int) ≤ (j : Int) := by omega
              have i1 : (j : Int) < (i : Int) := by omega
              have ei : IntKind.i64.wrap ((j : Int) + 1) = (j : Int) + 1 := by rw [IntKind.wrap_i64]; omega
              obtain ⟨g1, o1, hx1, hg1, x0, x1, x2, x3, x4, x5⟩ := (HX.out.below hbA).at hlt
              rw [hx1]
              obtain ⟨dN, hdN⟩ : ∃ dN : Nat, (X j).d = dN := ⟨(X j).d.toNat, by have := badX_at HBB.out.1 hlt; omega⟩
              have hdn : dN < l.n := by have := badX_at HBB.out.1 hlt; omega
              have HD : Hid ((X j).d = dN) := hdN
              rw [hdN] at x3
              have hba : Below wA.heap.size wA (wr.alloc (.cells #[.int .u64 (X j).t, .int .i64 (X j).s, .int .u64 (X j).q, .int .i64 (dN : Int), .int .i64 (X j).k, .int .i64 (X j).v] 67)) := hbA.alloc hbA.size _
              obtain ⟨c0, c1, -, -, -⟩ := cells5p ((hba.block _ (lt_of_block HBX.out.2.1)).trans HBX.out.2.1)
              obtain ⟨g2, o2, hx2, hg2, y0⟩ : ∃ g o, u.op = some ⟨g, o, none⟩ ∧ g < wA.heap.size ∧ (wr.alloc (.cells #[.int .u64 (X j).t, .int .i64 (X j).s, .int .u64 (X j).q, .int .i64 (dN : Int), .int .i64 (X j).k, .int .i64 (X j).v] 67)).cell? ⟨g, o + dN, none⟩ = some (.int .i64 (l.O dN)) := by
                rcases HO.out.below hba with h | ⟨g, o, h1, h2, h3⟩
                · omega
                · rcases HO.out with h | ⟨g', o', h1', h2', h3'⟩
                  · omega
                  · rw [h1'] at h1
                    injection h1 with h1
                    injection h1 with h1a h1b h1c
                    subst h1a h1b
                    exact ⟨g', o', h1', h2', h3 dN hdn⟩
              rw [hx2] at c1
              have j0 : (0 : Int) ≤ (dN : Int) := by omega
              have j1 : (dN : Int) < (l.n : Int) := by omega
              have hcl := cnt_le l.O X q j
              have ec : IntKind.i64.wrap ((cnt l.O X q j : Int) + 1) = (cnt l.O X q j : Int) + 1 := by rw [IntKind.wrap_i64]; omega
              clear hbt hbA hba hdN hx1 hx2
              by_cases he : l.O dN = q
              · have d9 : (l.O dN == (q : Int)) = true := by simpa using he
                have HE : Hid (l.O dN = q) := he
                clear he
                go_wp2
                refine ⟨⟨j + 1, rfl, ?_, hlt, HQ.out.1.alloc HQ.out.1.size _⟩, hme⟩
                simp [cnt, HD.out, HE.out]
              · have d9 : (l.O dN == (q : Int)) = false := by simpa using he
                have HE : Hid (l.O dN ≠ q) := he
                clear he
                go_wp2
                refine ⟨⟨j + 1, rfl, ?_, hlt, HQ.out.1.alloc HQ.out.1.size _⟩, hme⟩
                simp [cnt, HD.out, HE.out]
            have dl2 : decide ((j : Int) < (i : Int)) = false := decide_eq_false (by omega)
            obtain rfl : j = i := by omega
            have HR : Hid ((wr.alloc (.cells #[.int .i64 (cnt l.O X q j)] 3)).ownsRow wA.heap.size 3 1 u10 q (cellsF (shF l.O X j) (q * 1)) ∧ (∀ z y, ([.int .i64 (cnt l.O X q j)] : List Value)[z]? = some y → (wr.alloc (.cells #[.int .i64 (cnt l.O X q j)] 3)).cell? ((⟨wr.heap.size, 0, none⟩ : Addr).add z) = some y) ∧ Below wA.heap.size wA (wr.alloc (.cells #[.int .i64 (cnt l.O X q j)] 3))) :=
              ⟨World.ownsRow.alloc (srow_later HP.out.1 hbt) _, scells_new wr [.int .i64 (cnt l.O X q j)] 3, hbA.alloc hbA.size _⟩
            clear hbt hbA
            go_wp2_with (at_builtin; refine wpList_append_own_at _ rfl _ _ 44 rfl wA.heap.size 3 i8 _ 1 8 Try.underlying44 hi8 ha8 hb8 hc8 rfl (by decide) _ _ _ rfl HR.out.1 ⟨wr.heap.size, 0, none⟩ 1 1 [.int .i64 (cnt l.O X q j)] rfl rfl HR.out.2.1 (by simp [Value.oneCell']) (by unfold maxLen; omega) (by omega) HR.out.2.2.size ?_; intro v' w9 hown9 hgrow9 _ _)
            obtain ⟨b1, b2, b3⟩ := HR.out
            have hb9 : Below wA.heap.size wA w9 := b3.grown hgrow9 b3.size (fun r' e => (srow_lt b1 r' e).1)
            refine ⟨⟨q + 1, rfl, hqk, ?_, hb9⟩, hmq⟩
            unfold Own
            have e9 : cellsF (shF l.O X j) ((q + 1) * 1) = cellsF (shF l.O X j) (q * 1) ++ [.int .i64 (cnt l.O X q j)] := by
              unfold cellsF
              rw [Nat.mul_one, Nat.mul_one, List.range_succ, List.map_append]
              rfl
            rw [e9]
            exact hown9
        have dq : decide ((q : Int) < (k : Int)) = false := decide_eq_false (by omega)
        obtain rfl : q = k := by omega
        obtain ⟨op, oc, hop⟩ := own_slice HP.out.1
        subst hop
        go_wp2
        go_ret2
        refine ⟨op, q, oc, 0, rfl, .inr (.inr (.inr ⟨rfl, hwk, HBO.out, HBB.out.1⟩)), ?_, fun _ => HK.out.symm, fun h => absurd rfl h, HBX.out.1.trans (HP.out.2.mono HBX.out.1.size)⟩
        rcases HP.out.1.form with ⟨h1, h2⟩ | ⟨g, c, h1, h2, h3⟩
        · exact .inl h2
        · have hh := HP.out.1
          rw [h1] at hh
          injection h1 with h1 _ _
          refine .inr ⟨g, 0, h1, h3, fun j hj => ?_⟩
          rw [Nat.zero_add]
          exact hh.cell (j := j) (by omega)
end Go.Proofs.Ytomjnncgogkglaa
