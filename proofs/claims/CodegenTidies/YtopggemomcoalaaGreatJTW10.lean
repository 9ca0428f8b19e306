import Derived.Test.YtopggemomcoalaaGreatJTW4
import Derived.Test.YtopggemomcoalaaGreatJV15
import Derived.Test.YtopggemomcoalaaGreatJDWaits
import Derived.Laws.CopyOwn
import Derived.Deep.RegionLaw
import Derived.Deep.RegionHeld3
import Derived.Deep.OwnRows
namespace Go.Proofs.YtopggemomcoalaaGreat
open Go.ChangeShapes Go.WideShapes Go.ChangeAt Go.RowKit
set_option linter.unusedVariables false
set_option linter.unusedSimpArgs false

/-! ### slices.Repeat of one bool -/
theorem infoBool1 : (Tryz.prog.info? 4).map (fun i => (i.zero, i.size, i.bytes)) = some (some (.bool false), 1, 1) := by kernel_rfl
theorem mulT_any (x y : Nat) (hx : x < 18446744073709551616) (hy : y < 18446744073709551616) (w : World) :
    Calls Tryz.prog 120 #[.int .u64 x, .int .u64 y] w fun e w' => e = .returned (.tuple #[.int .u64 ((x * y / 18446744073709551616 : Nat) : Int), .int .u64 ((x * y % 18446744073709551616 : Nat) : Int)]) ∧ w' = w := Any.bits_Mul64 laysMul x y hx hy w
theorem drewT (w : World) : Below w.heap.size w w.drew := ⟨rfl, rfl, rfl, Nat.le_refl _, fun _ _ => rfl⟩
theorem own_mk0 {W : World} {g base n : Nat} {cur : List Value} (hg : W.heap[g]? = some (.cells cur.toArray 4 (0, 0))) (hl : cur.length = n) (hm : n ≤ maxLen) (hb : base ≤ g) (he : ∀ i, i < n → cur[i]? = some (.bool true)) : Own W base 4 1 (.slice (some ⟨g, 0, none⟩) n n) n (fun _ => .bool true) := by
  refine Own.mk' hg (by simp [hl]) (Nat.le_refl _) hm hb fun j hj => ?_
  have := he j (by omega)
  simpa using this
set_option maxRecDepth 100000 in
theorem mulB_any (n : Nat) (hn : n ≤ 4096) (w : World) : Calls Tryz.prog 116 #[.int .u64 1, .int .u64 (n : Int)] w fun e w' => e = .returned (.tuple #[.int .u64 0, .int .u64 (n : Int)]) ∧ w' = w := by
  have HM : ∀ W, Calls Tryz.prog 120 #[.int .u64 1, .int .u64 (n : Int)] W fun e w' => e = .returned (.tuple #[.int .u64 0, .int .u64 (n : Int)]) ∧ w' = W := fun W => by
    have h := mulT_any 1 n (by omega) (by omega) W
    rw [show 1 * n / 18446744073709551616 = 0 by omega, show 1 * n % 18446744073709551616 = n by omega] at h
    exact h
  go_enter Tryz.func116, Tryz.ntmps116
  go_wp2_with (go_at_call 120; (with_reducible refine (HM _).mono ?_); rintro e w1 ⟨rfl, hw1⟩; subst w1)
  go_returns
  exact ⟨rfl, rfl⟩
def truesL (k n : Nat) : List Value := List.replicate k (.bool true) ++ List.replicate (n - k) (.bool false)
theorem truesL_len {k n : Nat} (h : k ≤ n) : (truesL k n).length = n := by unfold truesL; simp; omega
theorem truesL_at {k n i : Nat} (h : k ≤ n) (hi : i < k) : (truesL k n)[i]? = some (.bool true) := by
  unfold truesL
  rw [List.getElem?_append_left (by simpa using hi), List.getElem?_replicate, if_pos hi]
theorem truesL_next {k n m : Nat} (h : k + m ≤ n) : splice (truesL k n) k (List.replicate m (.bool true)) = truesL (k + m) n := by
  unfold splice truesL
  have e1 : (List.replicate k (Value.bool true) ++ List.replicate (n - k) (Value.bool false)).take k = List.replicate k (Value.bool true) := by simp [List.take_append]
  have e2 : (List.replicate k (Value.bool true) ++ List.replicate (n - k) (Value.bool false)).drop (k + m) = List.replicate (n - (k + m)) (Value.bool false) := by
    simp [List.drop_append]
    omega
  rw [List.length_replicate, e1, e2, ← List.append_assoc, List.replicate_append_replicate]
theorem copy_trues {B g k n s c sc : Nat} {ad : Addr} {w0 W : World} (hg : W.heap[g]? = some (.cells (truesL k n).toArray 4 (0, 0))) (hk : k ≤ n) (hs : ∀ j, j < s → W.cell? (ad.add j) = some (.bool true)) (hb : Below B w0 W) (hB : B ≤ g) :
    ∃ W', (Builtin.copy_ #[34, 34] 3 #[.slice (some ⟨g, k, none⟩) (n - k) c, .slice (some ad) s sc]).run Tryz.prog W = .ok (.int .i64 ((Nat.min s (n - k) : Nat) : Int)) W' ∧ W'.heap[g]? = some (.cells (truesL (k + Nat.min s (n - k)) n).toArray 4 (0, 0)) ∧ Below B w0 W' := by
  obtain ⟨m, hm⟩ : ∃ m, Nat.min s (n - k) = m := ⟨_, rfl⟩
  have hms : m ≤ s := by rw [← hm]; exact Nat.min_le_left _ _
  have hmn : m ≤ n - k := by rw [← hm]; exact Nat.min_le_right _ _
  have hr := run_copy_wide (P := Tryz.prog) W 34 34 3 4 1 g k (n - k) c ad s sc (truesL k n).toArray 4 (List.replicate m (.bool true)) Tryz.underlying34 (by kernel_rfl) hg (by rw [hm]; simp) (fun j v hj => by
    rw [List.getElem?_replicate] at hj
    split at hj
    · injection hj with hj
      subst hj
      exact hs j (by omega)
    · cases hj) (by simp [truesL_len hk]; omega) (fun v hv => by
    obtain ⟨_, rfl⟩ := List.mem_replicate.1 hv
    rfl)
  rw [hm] at hr
  have hsp : ((truesL k n).toArray.toList.take k ++ List.replicate m (Value.bool true) ++ (truesL k n).toArray.toList.drop (k + (List.replicate m (Value.bool true)).length)) = truesL (k + m) n := by
    have := truesL_next (k := k) (n := n) (m := m) (by omega)
    unfold splice at this
    rw [← this]
    simp
  rw [hsp] at hr
  rw [hm]
  exact ⟨_, hr, setRow_heap W g _ _ 4 _ hg, below_setRow hb hB _⟩
theorem cell_row {W : World} {g j : Nat} {cur : List Value} {t : TypeId} {v : Value} (h : W.heap[g]? = some (.cells cur.toArray t (0, 0))) (hv : cur[j]? = some v) : W.cell? ⟨g, j, none⟩ = some v := by
  unfold World.cell?
  rw [h]
  simpa using hv
theorem made_trues (n : Nat) : (madeCells #[Value.bool false] n) = (truesL 0 n).toArray := by
  unfold truesL madeCells
  apply Array.ext'
  simp
  apply List.ext_getElem?
  intro i
  simp [List.getElem?_replicate]
  split <;> simp_all [Nat.mod_one]
set_option maxRecDepth 100000 in
set_option maxHeartbeats 2000000 in
theorem repeatB_any (n gx cx : Nat) (hn : n ≤ 4096) (w : World) (hx : w.cell? ⟨gx, 0, none⟩ = some (.bool true)) (hgx : gx < w.heap.size) : Calls Tryz.prog 106 #[.slice (some ⟨gx, 0, none⟩) 1 cx, .int .i64 (n : Int)] w fun e w' => ∃ g, e = .returned (.slice (some ⟨g, 0, none⟩) n n) ∧ Own w' w.heap.size 4 1 (.slice (some ⟨g, 0, none⟩) n n) n (fun _ => .bool true) ∧ Below w.heap.size w w' := by
  have d0 : decide ((n : Int) < 0) = false := by simp
  have e1 : IntKind.u64.wrap (n : Int) = (n : Int) := by rw [IntKind.wrap_u64]; omega
  have e2 : IntKind.i64.wrap (n : Int) = (n : Int) := by rw [IntKind.wrap_i64]; omega
  have d1 : decide ((9223372036854775807 : Int) < (n : Int)) = false := by simp; omega
  have d2 : decide (9223372036854775807 < n) = false := by simp; omega
  obtain ⟨i5, hi5, hz0, hz1, hz2⟩ := info_parts infoBool1
  have hrun := fun W => run_make_row (P := Tryz.prog) 34 4 i5 (.bool false) Tryz.underlying34 hi5 hz0 hz1 rfl .i64 .i64 n (by rw [hz2]; omega) (by omega) W
  have HM := mulB_any n hn
  obtain ⟨w1, hc0, hg1, hb1⟩ := copy_trues (B := w.heap.size) (g := w.heap.size) (k := 0) (n := n) (s := 1) (c := n) (sc := cx) (ad := ⟨gx, 0, none⟩) (w0 := w) (W := w.alloc (.cells (madeCells #[Value.bool false] n) 4)) (by rw [World.alloc_heap_new, made_trues]) (Nat.zero_le _) (fun j hj => by
    rw [show j = 0 by omega]
    exact (cell_below (a := ⟨gx, 0, none⟩) ((Below.refl _ w).alloc (Nat.le_refl _) _) hgx).trans hx) ((Below.refl _ w).alloc (Nat.le_refl _) _) (Nat.le_refl _)
  obtain ⟨k1, hk1⟩ : ∃ k1, Nat.min 1 n = k1 := ⟨_, rfl⟩
  rw [Nat.sub_zero, hk1] at hc0
  rw [Nat.sub_zero, Nat.zero_add, hk1] at hg1
  have hk2 : k1 ≤ n := by rw [← hk1]; exact Nat.min_le_right _ _
  have hk3 : n = 0 ∨ 1 ≤ k1 := by
    rcases Nat.eq_zero_or_pos n with h | h
    · exact .inl h
    · right; rw [← hk1]; exact Nat.le_min.2 ⟨Nat.le_refl _, h⟩
  have H1 : Hid (w1.heap[w.heap.size]? = some (.cells (truesL k1 n).toArray 4 (0, 0)) ∧ Below w.heap.size w w1) := ⟨hg1, hb1⟩
  clear hx hgx hg1 hb1 hi5 hz0 hz1 hz2 hk1
  go_enter Tryz.func106, Tryz.ntmps106
  go_wp2_with (go_at_call 116; (with_reducible refine (HM _).mono ?_); rintro e w1 ⟨rfl, hw1⟩; subst w1)
  go_loopw [8] (fun y wr => ∃ (k : Nat), y = .int .i64 (k : Int) ∧ k ≤ n ∧ (n = 0 ∨ 1 ≤ k) ∧ wr.heap[w.heap.size]? = some (.cells (truesL k n).toArray 4 (0, 0)) ∧ Below w.heap.size w wr) (fun y _ => n - (intOf y).toNat)
  case atStart => exact ⟨k1, rfl, hk2, hk3, H1.out.1, H1.out.2⟩
  case round =>
    obtain ⟨k, rfl, hk, hk0, hgr, hbr⟩ := hrel
    by_cases hlt : k < n
    · have dlt : decide ((k : Int) < (n : Int)) = true := by simp; omega
      have i0 : (0 : Int) ≤ (k : Int) := by omega
      have i2 : (k : Int) ≤ (n : Int) := by omega
      have hne : ¬ (n = k) := by omega
      have hne2 : ¬ (n - k = 0) := by omega
      obtain ⟨w2, hc2, hg2, hb2⟩ := copy_trues (B := w.heap.size) (g := w.heap.size) (k := k) (n := n) (s := k) (c := n - k) (sc := n) (ad := ⟨w.heap.size, 0, none⟩) (w0 := w) (W := wr.drew) hgr hk (fun j hj => by
        rw [addr_add0, Nat.zero_add]
        exact cell_row (W := wr) hgr (truesL_at (n := n) hk hj)) (hbr.trans (drewT _ |>.mono hbr.size)) (Nat.le_refl _)
      obtain ⟨m, hm⟩ : ∃ m, Nat.min k (n - k) = m := ⟨_, rfl⟩
      rw [hm] at hc2 hg2
      have hm1 : m ≤ n - k := by rw [← hm]; exact Nat.min_le_right _ _
      have hm2 : 1 ≤ m := by rw [← hm]; exact Nat.le_min.2 ⟨by omega, by omega⟩
      have e3 : IntKind.i64.wrap ((k : Int) + (m : Int)) = ((k + m : Nat) : Int) := by rw [IntKind.wrap_i64]; omega
      have e4 : (n : Int) - (k : Int) = ((n - k : Nat) : Int) := by omega
      have H2 : Hid (w2.heap[w.heap.size]? = some (.cells (truesL (k + m) n).toArray 4 (0, 0)) ∧ Below w.heap.size w w2) := ⟨hg2, hb2⟩
      clear hgr hbr hg2 hb2 hm H1
      go_upto_region 9 with fail
      go_region
      go_wp2_with fail
      exact ⟨⟨k + m, rfl, by omega, .inr (by omega), H2.out.1, H2.out.2⟩, by simp only [intOf]; omega⟩
    · have dlt : decide ((k : Int) < (n : Int)) = false := by simp; omega
      obtain rfl : k = n := by omega
      have H2 : Hid (wr.heap[w.heap.size]? = some (.cells (truesL k k).toArray 4 (0, 0)) ∧ Below w.heap.size w wr) := ⟨hgr, hbr⟩
      clear hgr hbr H1
      go_wp2_with fail
      go_ret
      exact ⟨_, rfl, own_mk0 H2.out.1 (truesL_len (Nat.le_refl _)) (by unfold maxLen; omega) (Nat.le_refl _) fun i hi => truesL_at (Nat.le_refl _) hi, H2.out.2⟩
end Go.Proofs.YtopggemomcoalaaGreat
namespace Go.Proofs.YtopggemomcoalaaGreat
open Go.ChangeShapes Go.WideShapes Go.ChangeAt Go.RowKit
set_option linter.unusedVariables false
set_option linter.unusedSimpArgs false

/-! ### free -/
def upB (T : Nat → Bool) (k : Nat) : Nat → Bool := fun i => if i = k then false else T i
def fr1 (P : Pg) : Nat → Nat → Bool
  | 0 => fun _ => true
  | k + 1 => if jmp (P.op k) = true then upB (fr1 P k) (P.a k).toNat else fr1 P k
def fr2 (P : Pg) : Nat → Nat → Bool
  | 0 => fr1 P P.n
  | k + 1 => if P.en k = -1 then fr2 P k else upB (fr2 P k) (P.en k).toNat
theorem upB_iff {T : Nat → Bool} {k x : Nat} : upB T k x = true ↔ T x = true ∧ k ≠ x := by
  unfold upB
  by_cases h : x = k
  · rw [if_pos h]; simp [h]
  · rw [if_neg h]
    exact ⟨fun h1 => ⟨h1, fun e => h e.symm⟩, fun h1 => h1.1⟩
theorem fr1_iff (P : Pg) (x : Nat) : ∀ k, fr1 P k x = true ↔ ∀ i, i < k → jmp (P.op i) = true → (P.a i).toNat ≠ x
  | 0 => by simp [fr1]
  | k + 1 => by
    have ih := fr1_iff P x k
    show (if jmp (P.op k) = true then upB (fr1 P k) (P.a k).toNat else fr1 P k) x = true ↔ _
    by_cases hj : jmp (P.op k) = true
    · rw [if_pos hj, upB_iff, ih]
      refine ⟨fun h i hi hji => ?_, fun h => ⟨fun i hi => h i (by omega), h k (by omega) hj⟩⟩
      rcases (by omega : i < k ∨ i = k) with h1 | rfl
      · exact h.1 i h1 hji
      · exact h.2
    · rw [if_neg hj, ih]
      refine ⟨fun h i hi hji => ?_, fun h i hi => h i (by omega)⟩
      rcases (by omega : i < k ∨ i = k) with h1 | rfl
      · exact h i h1 hji
      · exact absurd hji hj
theorem fr2_iff (P : Pg) (x : Nat) : ∀ k, fr2 P k x = true ↔ fr1 P P.n x = true ∧ ∀ j, j < k → P.en j ≠ -1 → (P.en j).toNat ≠ x
  | 0 => by simp [fr2]
  | k + 1 => by
    have ih := fr2_iff P x k
    show (if P.en k = -1 then fr2 P k else upB (fr2 P k) (P.en k).toNat) x = true ↔ _
    by_cases hj : P.en k = -1
    · rw [if_pos hj, ih]
      refine ⟨fun h => ⟨h.1, fun j hi hji => ?_⟩, fun h => ⟨h.1, fun j hi => h.2 j (by omega)⟩⟩
      rcases (by omega : j < k ∨ j = k) with h1 | rfl
      · exact h.2 j h1 hji
      · exact absurd hj hji
    · rw [if_neg hj, upB_iff, ih]
      refine ⟨fun h => ⟨h.1.1, fun j hi hji => ?_⟩, fun h => ⟨⟨h.1, fun j hi => h.2 j (by omega)⟩, h.2 k (by omega) hj⟩⟩
      rcases (by omega : j < k ∨ j = k) with h1 | rfl
      · exact h.1.2 j h1 hji
      · exact h.2
theorem fr2_all (P : Pg) (x : Nat) : fr2 P P.m x = frB P x := by
  unfold frB
  rw [Bool.eq_iff_iff, fr2_iff, fr1_iff, decide_eq_true_eq]
  rfl
theorem own_upB {W : World} {base g c n : Nat} {T : Nat → Bool} (h : Own W base 4 1 (.slice (some ⟨g, 0, none⟩) n c) n (fun x => .bool (T x))) (k : Nat) : Own (W.setCell ⟨g, k, none⟩ (.bool false)) base 4 1 (.slice (some ⟨g, 0, none⟩) n c) n (fun x => .bool (upB T k x)) := by
  refine (h.put k [.bool false]).congr fun j hj => ?_
  unfold putF upB
  by_cases h1 : k ≤ j ∧ j < k + 1
  · have e : j = k := by omega
    subst e
    rw [if_pos (by simp), if_pos rfl]
    simp
  · rw [if_neg (by simpa using h1), if_neg (by omega)]
theorem own_boolc {W : World} {base g c n : Nat} {T : Nat → Bool} (h : Own W base 4 1 (.slice (some ⟨g, 0, none⟩) n c) n (fun x => .bool (T x))) {k : Nat} (hk : k < n) : W.cell? ⟨g, k, none⟩ = some (.bool (T k)) ∧ W.frozen? ⟨g, k, none⟩ = false ∧ base ≤ g := by
  obtain ⟨cur, hcur, _⟩ := Own.block h
  exact ⟨h.cell (by omega), frz hcur k, (h.lt g rfl).1⟩
variable {Sf : Nat → Prop} {Hf : Nat → Option Obj} {base tb : Nat} {P : Pg} {cp ep : Option Addr} {cc ec : Nat}
set_option maxRecDepth 100000 in
set_option maxHeartbeats 8000000 in
theorem free_any {L : Nat → Int} (v : Vf P L) (W : World) (h : TD Sf Hf W base tb P cp ep cc ec) :
    Calls Tryz.prog 86 #[.pointer (some ⟨tb, 0, none⟩)] W fun e W' => ∃ q, e = .returned (.slice (some ⟨q, 0, none⟩) P.n P.n) ∧ Own W' W.heap.size 4 1 (.slice (some ⟨q, 0, none⟩) P.n P.n) P.n (fun x => .bool (frB P x)) ∧ Below W.heap.size W W' := by
  have hn := v.sz.2.2.1
  have hm32 := v.sz.2.2.2
  have HV := tmh (And.intro v h)
  obtain ⟨y0, y1, y2, y3⟩ := h.cells
  have hlt := ltB h.bx
  have n1 : tb ≠ W.heap.size := by omega
  have n2 : W.heap.size ≠ tb := by omega
  obtain ⟨w0, hw0⟩ : ∃ w0, W.alloc (.cells #[.bool true] 4) = w0 := ⟨_, rfl⟩
  have HW0 := tmh hw0
  have hb0 : Below W.heap.size W w0 := by rw [← hw0]; exact (Below.refl _ W).alloc (Nat.le_refl _) _
  have hx0 : w0.heap[W.heap.size]? = some (.cells #[.bool true] 4 (0, 0)) := by rw [← hw0]; exact World.alloc_heap_new W _
  have HR := repeatB_any P.n W.heap.size 1 hn w0 (by unfold World.cell?; rw [hx0]; rfl) (ltB hx0)
  have H0 := tmh hb0
  clear hw0 hb0 hx0 v h
  go_enter Tryz.func86, Tryz.ntmps86
  go_upto_region 2 with (go_at_call 106; rw [HW0.out]; (with_reducible refine HR.mono ?_); rintro e w1 ⟨q, rfl, h1, h2⟩)
  have hbl := h1.lt q rfl
  have hb1 : Below W.heap.size W w1 := H0.out.trans (h2.mono H0.out.size)
  have hO1 : Own w1 W.heap.size 4 1 (.slice (some ⟨q, 0, none⟩) P.n P.n) P.n (fun x => .bool (fr1 P 0 x)) := h1.low H0.out.size
  have H1 := tmh (And.intro hO1 (And.intro hb1 (HV.out.2.later hb1)))
  clear hbl hb1 hO1 h1 h2 y0 y1 y2 y3 HR HW0 H0 n1 n2 hlt
  obtain ⟨y0, y1, y2, y3⟩ := H1.out.2.2.cells
  go_wp2_with fail
  clear y0 y1 y2 y3
  go_loopw [22] (fun x wr => ∃ k : Nat, x = .int .i64 (k : Int) ∧ k ≤ P.n ∧ Own wr W.heap.size 4 1 (.slice (some ⟨q, 0, none⟩) P.n P.n) P.n (fun x => .bool (fr1 P k x)) ∧ Below W.heap.size W wr) (fun x _ => P.n - (intOf x).toNat)
  case atStart => exact ⟨0, rfl, Nat.zero_le _, H1.out.1, H1.out.2.1⟩
  case round =>
    obtain ⟨k, rfl, hk, hO, hbr⟩ := hrel
    have hT := HV.out.2.later hbr
    by_cases hlt : k < P.n
    · have d1 : decide ((k : Int) < (P.n : Int)) = true := by simp; omega
      have d2 : decide (k < P.n) = true := by simp; omega
      have i0 : (0 : Int) ≤ (k : Int) := by omega
      have i1 : (k : Int) < (P.n : Int) := by omega
      have ek : IntKind.i64.wrap ((k : Int) + 1) = ((k + 1 : Nat) : Int) := by rw [IntKind.wrap_i64]; omega
      have hm := meas0 hlt
      obtain ⟨g, hg⟩ := HV.out.2.ip (by omega)
      subst hg
      obtain ⟨⟨x0, x1, x2⟩, hfz⟩ := hT.ins hlt
      obtain ⟨w5, hw5⟩ : ∃ w5, wr.alloc (.cells #[.int .i64 (P.op k), .int .i64 (P.a k), .int .i64 (P.b k)] 36) = w5 := ⟨_, rfl⟩
      have HW5 := tmh hw5
      have hb5 : Below wr.heap.size wr w5 := by rw [← hw5]; exact (Below.refl _ wr).alloc (Nat.le_refl _) _
      have hx5 : w5.heap[wr.heap.size]? = some (.cells #[.int .i64 (P.op k), .int .i64 (P.a k), .int .i64 (P.b k)] 36 (0, 0)) := by rw [← hw5]; exact World.alloc_heap_new wr _
      have c0 : w5.cell? ⟨wr.heap.size, 0, none⟩ = some (.int .i64 (P.op k)) := by unfold World.cell?; rw [hx5]; rfl
      have c1 : w5.cell? ⟨wr.heap.size, 1, none⟩ = some (.int .i64 (P.a k)) := by unfold World.cell?; rw [hx5]; rfl
      have c2 : w5.cell? ⟨wr.heap.size, 2, none⟩ = some (.int .i64 (P.b k)) := by unfold World.cell?; rw [hx5]; rfl
      have HJ := cjumps_any (P.op k) (P.a k) (P.b k) w5
      have H5 := tmh (And.intro (hO.later hb5) (And.intro (hbr.trans (hb5.mono hbr.size)) (And.intro hx5 hbr.size)))
      clear hw5 hb5 hx5 hO hbr hT hfz hk
      go_upto_region 5 with fail
      rw [HW5.out]
      clear x0 x1 x2 HW5
      rcases (by cases jmp (P.op k) <;> simp : jmp (P.op k) = true ∨ jmp (P.op k) = false) with hj | hj
      · obtain ⟨A, hA, hAn⟩ : ∃ A : Nat, P.a k = (A : Int) ∧ A < P.n := by
          have := HV.out.1.gd.a k hlt hj
          exact ⟨(P.a k).toNat, by omega, by omega⟩
        have hst : fr1 P (k + 1) = upB (fr1 P k) A := by
          show (if jmp (P.op k) = true then upB (fr1 P k) (P.a k).toNat else fr1 P k) = _
          rw [if_pos hj, hA, Int.toNat_natCast]
        rw [hj] at HJ
        have HS := tmh (And.intro hst (And.intro hj hA))
        have j0 : (0 : Int) ≤ (A : Int) := by omega
        have j1 : (A : Int) < (P.n : Int) := by omega
        clear hst hj hA
        go_upto_region 6 with (go_at_call 105; (with_reducible refine HJ.mono ?_); rintro e w6 ⟨rfl, hb6⟩; have H6 := tmh hb6; clear hb6)
        clear c0 c1 c2
        have hO6 := H5.out.1.later H6.out
        have c1 : w6.cell? ⟨wr.heap.size, 1, none⟩ = some (.int .i64 (A : Int)) := by unfold World.cell?; rw [H6.out.block _ (ltB H5.out.2.2.1), H5.out.2.2.1, ← HS.out.2.2]; rfl
        obtain ⟨q0, f0, hBq⟩ := own_boolc hO6 hAn
        have hO7 := own_upB hO6 A
        have hb7 : Below W.heap.size W (w6.setCell ⟨q, A, none⟩ (.bool false)) := (H5.out.2.1.trans (H6.out.mono H5.out.2.1.size)).setCell (p := ⟨q, A, none⟩) hBq _
        have H7 := tmh (And.intro hO7 hb7)
        clear hO6 hO7 hb7
        go_wp2_with fail
        exact ⟨⟨k + 1, rfl, hlt, by rw [HS.out.1]; exact H7.out.1, H7.out.2⟩, hm⟩
      · have hst : fr1 P (k + 1) = fr1 P k := by
          show (if jmp (P.op k) = true then upB (fr1 P k) (P.a k).toNat else fr1 P k) = _
          rw [if_neg (by rw [hj]; exact Bool.false_ne_true)]
        rw [hj] at HJ
        have HS := tmh hst
        clear hst hj
        go_wp2_with (go_at_call 105; (with_reducible refine HJ.mono ?_); rintro e w6 ⟨rfl, hb6⟩; have H6 := tmh hb6; clear hb6)
        exact ⟨⟨k + 1, rfl, hlt, by rw [HS.out]; exact H5.out.1.later H6.out, H5.out.2.1.trans (H6.out.mono H5.out.2.1.size)⟩, hm⟩
    · have d1 : decide ((k : Int) < (P.n : Int)) = false := by simp; omega
      have d2 : decide (k < P.n) = false := by simp; omega
      obtain rfl : k = P.n := by omega
      have H2 := tmh (And.intro hO hbr)
      obtain ⟨y0, y1, y2, y3⟩ := hT.cells
      clear hO hbr hT hk hlt
      go_wp2_with fail
      clear y0 y1 y2 y3
      go_loopw [39] (fun x wr => ∃ k : Nat, x = .int .i64 (k : Int) ∧ k ≤ P.m ∧ Own wr W.heap.size 4 1 (.slice (some ⟨q, 0, none⟩) P.n P.n) P.n (fun x => .bool (fr2 P k x)) ∧ Below W.heap.size W wr) (fun x _ => P.m - (intOf x).toNat)
      case atStart => exact ⟨0, rfl, Nat.zero_le _, H2.out.1, H2.out.2⟩
      case round =>
        obtain ⟨k, rfl, hk, hO, hbr⟩ := hrel
        have hT := HV.out.2.later hbr
        by_cases hlt : k < P.m
        · have d3 : decide ((k : Int) < (P.m : Int)) = true := by simp; omega
          have d4 : decide (k < P.m) = true := by simp; omega
          have i0 : (0 : Int) ≤ (k : Int) := by omega
          have i1 : (k : Int) < (P.m : Int) := by omega
          have ek : IntKind.i64.wrap ((k : Int) + 1) = ((k + 1 : Nat) : Int) := by rw [IntKind.wrap_i64]; omega
          have hm := meas0 hlt
          obtain ⟨g, hg⟩ := HV.out.2.ePt (by omega)
          subst hg
          have x0 : wr.cell? ⟨g, k, none⟩ = some (.int .i64 (P.en k)) := hT.en.cell (by omega)
          rcases (by cases (P.en k == -1) <;> simp : (P.en k == -1) = true ∨ (P.en k == -1) = false) with e1 | e1
          · have hst : fr2 P (k + 1) = fr2 P k := if_pos (by simpa using e1)
            have e2 : (P.en k != -1) = false := by simp [bne, e1]
            have H3 := tmh (And.intro hO (And.intro hbr hst))
            clear hO hbr hst hT hk
            go_wp2_with fail
            exact ⟨⟨k + 1, rfl, hlt, by rw [H3.out.2.2]; exact H3.out.1, H3.out.2.1⟩, hm⟩
          · have hne : P.en k ≠ -1 := by simpa using e1
            have e2 : (P.en k != -1) = true := by simp [bne, e1]
            obtain ⟨A, hA, hAn⟩ : ∃ A : Nat, P.en k = (A : Int) ∧ A < P.n := by
              have := HV.out.1.en k hlt
              exact ⟨(P.en k).toNat, by omega, by omega⟩
            have hst : fr2 P (k + 1) = upB (fr2 P k) A := by
              show (if P.en k = -1 then fr2 P k else upB (fr2 P k) (P.en k).toNat) = _
              rw [if_neg hne, hA, Int.toNat_natCast]
            obtain ⟨q0, f0, hBq⟩ := own_boolc hO hAn
            have hO7 := own_upB hO A
            have hb7 : Below W.heap.size W (wr.setCell ⟨q, A, none⟩ (.bool false)) := hbr.setCell (p := ⟨q, A, none⟩) hBq _
            have H3 := tmh (And.intro hO7 (And.intro hb7 hst))
            rw [hA] at x0 e1 e2
            have j0 : (0 : Int) ≤ (A : Int) := by omega
            have j1 : (A : Int) < (P.n : Int) := by omega
            clear hO hbr hst hT hk hO7 hb7 hA hne
            go_wp2_with fail
            exact ⟨⟨k + 1, rfl, hlt, by rw [H3.out.2.2]; exact H3.out.1, H3.out.2.1⟩, hm⟩
        · have d3 : decide ((k : Int) < (P.m : Int)) = false := by simp; omega
          have d4 : decide (k < P.m) = false := by simp; omega
          obtain rfl : k = P.m := by omega
          have H3 := tmh (And.intro hO hbr)
          clear hO hbr hT hk hlt
          go_wp2_with fail
          go_ret
          refine ⟨_, rfl, H3.out.1.congr fun j hj => by rw [fr2_all], H3.out.2⟩
end Go.Proofs.YtopggemomcoalaaGreat
