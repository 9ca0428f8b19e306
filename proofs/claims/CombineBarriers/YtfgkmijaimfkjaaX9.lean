import Derived.Test.YtfgkmijaimfkjaaX5
namespace Go.Proofs.Ytfgkmijaimfkjaa
open Go.ChangeShapes Go.WideShapes Go.ChangeAt Go.RowKit
set_option linter.unusedVariables false
set_option linter.unusedSimpArgs false

theorem infoB : (Try.prog.info? 4).map (fun i => (i.zero, i.size, i.bytes)) = some (some (.bool false), 1, 1) := by kernel_rfl
theorem infoV : (Try.prog.info? 62).map (fun i => (i.zero, i.size, i.bytes)) = some (some (.agg #[.int .i64 0, .int .u64 0, .bool false, .bool false, .bool false, .int .u64 0, .int .i64 0, .int .u64 0, .int .i64 0, .int .i64 0]), 10, 64) := by kernel_rfl
theorem infoL : (Try.prog.info? 56).map (fun i => (i.zero, i.size, i.bytes)) = some (some (.slice none 0 0), 1, 24) := by kernel_rfl
/-- a row is made, and laid into the box -/
theorem pn_ch {W : World} {h k : Nat} {v : Value} {o : Obj} : Ch (fun b => b = h) W ((W.setCell ⟨h, k, none⟩ v).alloc o) :=
  (Ch.set (fun b => b = h) _ _ _ _ rfl).trans (Ch.below ((Below.refl _ _).alloc (Nat.le_refl _) o))
theorem pn_sz0 {W : World} {h k : Nat} {v : Value} : (W.setCell ⟨h, k, none⟩ v).heap.size = W.heap.size := by simp [World.setCell]
theorem pn_box {W : World} {h k : Nat} {v : Value} {o : Obj} {cs : Array Value} {T : TypeId} (hb : W.heap[h]? = some (.cells cs T (0, 0))) : ((W.setCell ⟨h, k, none⟩ v).alloc o).heap[h]? = some (.cells (cs.setIfInBounds k v) T (0, 0)) := by
  obtain ⟨hlt, hk⟩ := Array.getElem?_eq_some_iff.1 hb
  have h1 : (W.setCell ⟨h, k, none⟩ v).heap[h]? = some (.cells (cs.setIfInBounds k v) T (0, 0)) := by
    show (W.heap.modify h _)[h]? = _
    rw [Array.getElem?_eq_getElem (by rw [Array.size_modify]; exact hlt), Array.getElem_modify_self, hk]
    rfl
  exact (((Below.refl _ (W.setCell ⟨h, k, none⟩ v)).alloc (Nat.le_refl _) o).block _ (lt_of_block h1)).trans h1
theorem pn_size {W : World} {h k : Nat} {v : Value} {o : Obj} : ((W.setCell ⟨h, k, none⟩ v).alloc o).heap.size = W.heap.size + 1 := by
  rw [World.size_alloc, pn_sz0]
theorem pn_old {W : World} {base h k : Nat} {v : Value} {o : Obj} {t : TypeId} {s b m : Nat} {F : Nat → Value} (ho : Own W base t s (.slice (some ⟨b, 0, none⟩) m m) m F) (hne : b ≠ h) : Own ((W.setCell ⟨h, k, none⟩ v).alloc o) base t s (.slice (some ⟨b, 0, none⟩) m m) m F :=
  ho.far fun j e => by cases e; exact pn_ch.block _ (Own.lt ho b rfl).2 hne
theorem pn_new {W : World} {base h k b : Nat} {v : Value} {t : TypeId} {z : Value} {s m : Nat} {F : Nat → Value} (hm : m ≤ maxLen) (hb : W.heap.size = b) (hbs : base ≤ b) (hF : ∀ j, j < m * s → (madeCells z.cells (m * s)).toList.getD j undef = F j) : Own ((W.setCell ⟨h, k, none⟩ v).alloc (.cells (zA z m s) t)) base t s (.slice (some ⟨b, 0, none⟩) m m) m F := by
  subst hb
  have o1 := own_new (W.setCell ⟨h, k, none⟩ v) t z m s hm
  rw [pn_sz0] at o1
  exact (o1.congr hF).lower hbs
theorem mdV (n j : Nat) (hj : j < n * 10) : (madeCells (Value.agg #[.int .i64 0, .int .u64 0, .bool false, .bool false, .bool false, .int .u64 0, .int .i64 0, .int .u64 0, .int .i64 0, .int .i64 0]).cells (n * 10)).toList.getD j undef = rvF (fun _ => 0) j := by
  unfold madeCells rvF
  have h6 : (Value.agg #[.int .i64 0, .int .u64 0, .bool false, .bool false, .bool false, .int .u64 0, .int .i64 0, .int .u64 0, .int .i64 0, .int .i64 0]).cells.size = 10 := rfl
  have hm : j % 10 = 0 ∨ j % 10 = 1 ∨ j % 10 = 2 ∨ j % 10 = 3 ∨ j % 10 = 4 ∨ j % 10 = 5 ∨ j % 10 = 6 ∨ j % 10 = 7 ∨ j % 10 = 8 ∨ j % 10 = 9 := by omega
  simp [hj, h6]
  rcases hm with h | h | h | h | h | h | h | h | h | h <;> rw [h] <;> rfl
def Rt.new : Rt := ⟨fun _ => false, fun _ => false, fun _ => 0, fun _ => 0, fun _ => [], fun _ => .slice none 0 0, fun _ => 0, fun _ => 0, fun _ => 0⟩
def RB.new (h : Nat) : RB := ⟨h, h + 1, h + 2, h + 3, h + 4, h + 5, h + 6, h + 7, h + 8⟩
set_option maxRecDepth 100000 in
theorem rnew_bad (x y : Int) (h : x < 1 ∨ 64 < x) (W : World) : Calls Try.prog 19 #[.int .i64 x, .int .i64 y] W fun e W' => e = .returned (.tuple #[.pointer none, .int .i64 100]) ∧ W' = W := by
  by_cases h1 : x < 1
  · have d1 : decide (x < 1) = true := by simpa using h1
    go_enter Try.func19, Try.ntmps19
    go_wp2
    go_returns
    exact ⟨rfl, rfl⟩
  · have d1 : decide (x < 1) = false := by simpa using h1
    have d2 : decide (64 < x) = true := by simp; omega
    go_enter Try.func19, Try.ntmps19
    go_wp2
    go_returns
    exact ⟨rfl, rfl⟩
set_option maxRecDepth 100000 in
set_option maxHeartbeats 2000000 in
theorem rnew_any (n kd : Nat) (h1 : 1 ≤ n) (h2 : n ≤ 64) (W : World) : Calls Try.prog 19 #[.int .i64 (n : Int), .int .i64 (kd : Int)] W fun e W' => e = .returned (.tuple #[.pointer (some ⟨W.heap.size, 0, none⟩), .int .i64 0]) ∧ RN W.heap.size n kd (RB.new W.heap.size) Rt.new W' ∧ Below W.heap.size W W' := by
  have d1 : decide ((n : Int) < 1) = false := by simp; omega
  have d2 : decide (64 < (n : Int)) = false := by simp; omega
  obtain ⟨iB, hB1, hB2, hB3, hB4⟩ := binfo infoB
  obtain ⟨iV, hV1, hV2, hV3, hV4⟩ := binfo infoV
  obtain ⟨iL, hL1, hL2, hL3, hL4⟩ := binfo infoL
  obtain ⟨iI, hI1, hI2, hI3, hI4⟩ := binfo infoI
  have rB : ∀ w : World, (Instr.makeSlice 134 (.int .i64 (n : Int)) (.int .i64 (n : Int))).run Try.prog w = .ok (.slice (some ⟨w.heap.size, 0, none⟩) n n) (w.alloc (.cells (zA (.bool false) n 1) 4)) := run_make_eq _ _ iB _ 1 Try.underlying134 hB1 hB2 hB3 n (by rw [hB4]; omega) (by omega)
  have rV : ∀ w : World, (Instr.makeSlice 135 (.int .i64 (n : Int)) (.int .i64 (n : Int))).run Try.prog w = .ok (.slice (some ⟨w.heap.size, 0, none⟩) n n) (w.alloc (.cells (zA (.agg #[.int .i64 0, .int .u64 0, .bool false, .bool false, .bool false, .int .u64 0, .int .i64 0, .int .u64 0, .int .i64 0, .int .i64 0]) n 10) 62)) := run_make_eq _ _ iV _ 10 Try.underlying135 hV1 hV2 hV3 n (by rw [hV4]; omega) (by omega)
  have rL : ∀ w : World, (Instr.makeSlice 136 (.int .i64 (n : Int)) (.int .i64 (n : Int))).run Try.prog w = .ok (.slice (some ⟨w.heap.size, 0, none⟩) n n) (w.alloc (.cells (zA (.slice none 0 0) n 1) 56)) := run_make_eq _ _ iL _ 1 Try.underlying136 hL1 hL2 hL3 n (by rw [hL4]; omega) (by omega)
  have rI : ∀ w : World, (Instr.makeSlice 56 (.int .i64 (n : Int)) (.int .i64 (n : Int))).run Try.prog w = .ok (.slice (some ⟨w.heap.size, 0, none⟩) n n) (w.alloc (.cells (zA (.int .i64 0) n 1) 3)) := run_make_eq _ _ iI _ 1 Try.underlying56 hI1 hI2 hI3 n (by rw [hI4]; omega) (by omega)
  have hm : n ≤ maxLen := by unfold maxLen; omega
  clear hB1 hB2 hB3 hB4 hV1 hV2 hV3 hV4 hL1 hL2 hL3 hL4 hI1 hI2 hI3 hI4
  obtain ⟨h, hh⟩ : ∃ h, W.heap.size = h := ⟨_, rfl⟩
  rw [hh]
  have HH : Hid (W.heap.size = h) := hh
  clear hh
  go_enter Try.func19, Try.ntmps19
  go_upto_region 3 with fail
  go_cut [6] (fun p wc => p = .pointer (some ⟨h, 0, none⟩) ∧ wc.heap[h]? = some (.cells #[.int .i64 (n : Int), .int .i64 (kd : Int), .slice none 0 0, .slice none 0 0, .slice none 0 0, .slice none 0 0, .slice none 0 0, .slice none 0 0, .slice none 0 0, .slice none 0 0] 138 (0, 0)) ∧ wc.heap.size = h + 1 ∧ Below h W wc)
  case first =>
    go_wp2_with fail
    go_meet
    refine ⟨by rw [HH.out], ?_, ?_, ?_⟩
    · rw [← HH.out]; exact World.alloc_heap_new W _
    · rw [← HH.out]; exact World.size_alloc _ _
    · rw [← HH.out]; exact (Below.refl _ W).alloc (Nat.le_refl _) _
  case rest =>
    obtain ⟨rfl, hbx, hsz, hbl⟩ := hcut
    have bc : ∀ k y, (#[.int .i64 (n : Int), .int .i64 (kd : Int), .slice none 0 0, .slice none 0 0, .slice none 0 0, .slice none 0 0, .slice none 0 0, .slice none 0 0, .slice none 0 0, .slice none 0 0] : Array Value)[k]? = some y → wc.cell? ⟨h, k, none⟩ = some y := fun k y hy => by unfold World.cell?; rw [hbx]; exact hy
    have b2 := bc 2 _ rfl
    have bf : ∀ k, wc.frozen? ⟨h, k, none⟩ = false := fun k => by unfold World.frozen?; rw [hbx]; rfl
    have bl := lt_of_block hbx
    have HX : Hid (wc.heap[h]? = some (.cells #[.int .i64 (n : Int), .int .i64 (kd : Int), .slice none 0 0, .slice none 0 0, .slice none 0 0, .slice none 0 0, .slice none 0 0, .slice none 0 0, .slice none 0 0, .slice none 0 0] 138 (0, 0)) ∧ wc.heap.size = h + 1 ∧ Below h W wc) := ⟨hbx, hsz, hbl⟩
    clear bc hbx hsz hbl
    go_upto_region 4 with fail
    go_cut [] (fun wc => wc.heap[h]? = some (.cells #[.int .i64 (n : Int), .int .i64 (kd : Int), .slice (some ⟨h + 1, 0, none⟩) n n, .slice none 0 0, .slice none 0 0, .slice none 0 0, .slice none 0 0, .slice none 0 0, .slice none 0 0, .slice none 0 0] 138 (0, 0)) ∧ wc.heap.size = h + 2 ∧ Below h W wc ∧ Own wc h 4 1 (.slice (some ⟨h + 1, 0, none⟩) n n) n (blF (fun _ => false)))
    case first =>
      go_wp2_with fail
      go_meet
      obtain ⟨hbx, hsz, hbl⟩ := HX.out
      have hx := pn_box (o := .cells (zA (.bool false) n 1) 4) (k := 2) (v := .slice (some ⟨wc.heap.size, 0, none⟩) n n) hbx
      refine ⟨?_, pn_size.trans (by rw [hsz]), hbl.trans (pn_ch.toBelow (Nat.le_of_lt bl) fun k e => by rw [e]; exact Nat.le_refl _), pn_new hm hsz (by omega) (fun j hj => by rw [made1 _ rfl _ _ hj]; rfl)⟩
      rw [hx, hsz]
      rfl
    case rest =>
      obtain ⟨hbx, hsz, hbl, o1⟩ := hcut
      clear HX b2 bf bl
      have bc : ∀ k y, (#[.int .i64 (n : Int), .int .i64 (kd : Int), .slice (some ⟨h + 1, 0, none⟩) n n, .slice none 0 0, .slice none 0 0, .slice none 0 0, .slice none 0 0, .slice none 0 0, .slice none 0 0, .slice none 0 0] : Array Value)[k]? = some y → wc.cell? ⟨h, k, none⟩ = some y := fun k y hy => by unfold World.cell?; rw [hbx]; exact hy
      have b3 := bc 3 _ rfl
      have bf : ∀ k, wc.frozen? ⟨h, k, none⟩ = false := fun k => by unfold World.frozen?; rw [hbx]; rfl
      have bl := lt_of_block hbx
      have HX : Hid (wc.heap[h]? = some (.cells #[.int .i64 (n : Int), .int .i64 (kd : Int), .slice (some ⟨h + 1, 0, none⟩) n n, .slice none 0 0, .slice none 0 0, .slice none 0 0, .slice none 0 0, .slice none 0 0, .slice none 0 0, .slice none 0 0] 138 (0, 0)) ∧ wc.heap.size = h + 2 ∧ Below h W wc ∧ Own wc h 4 1 (.slice (some ⟨h + 1, 0, none⟩) n n) n (blF (fun _ => false))) := ⟨hbx, hsz, hbl, o1⟩
      clear bc hbx hsz hbl o1
      go_upto_region 5 with fail
      go_cut [] (fun wc => wc.heap[h]? = some (.cells #[.int .i64 (n : Int), .int .i64 (kd : Int), .slice (some ⟨h + 1, 0, none⟩) n n, .slice (some ⟨h + 2, 0, none⟩) n n, .slice none 0 0, .slice none 0 0, .slice none 0 0, .slice none 0 0, .slice none 0 0, .slice none 0 0] 138 (0, 0)) ∧ wc.heap.size = h + 3 ∧ Below h W wc ∧ Own wc h 4 1 (.slice (some ⟨h + 1, 0, none⟩) n n) n (blF (fun _ => false)) ∧ Own wc h 4 1 (.slice (some ⟨h + 2, 0, none⟩) n n) n (blF (fun _ => false)))
      case first =>
        go_wp2_with fail
        go_meet
        obtain ⟨hbx, hsz, hbl, o1⟩ := HX.out
        have hx := pn_box (o := .cells (zA (.bool false) n 1) 4) (k := 3) (v := .slice (some ⟨wc.heap.size, 0, none⟩) n n) hbx
        refine ⟨?_, pn_size.trans (by rw [hsz]), hbl.trans (pn_ch.toBelow (Nat.le_of_lt bl) fun k e => by rw [e]; exact Nat.le_refl _), pn_old o1 (by omega), pn_new hm hsz (by omega) (fun j hj => by rw [made1 _ rfl _ _ hj]; rfl)⟩
        rw [hx, hsz]
        rfl
      case rest =>
        obtain ⟨hbx, hsz, hbl, o1, o2⟩ := hcut
        clear HX b3 bf bl
        have bc : ∀ k y, (#[.int .i64 (n : Int), .int .i64 (kd : Int), .slice (some ⟨h + 1, 0, none⟩) n n, .slice (some ⟨h + 2, 0, none⟩) n n, .slice none 0 0, .slice none 0 0, .slice none 0 0, .slice none 0 0, .slice none 0 0, .slice none 0 0] : Array Value)[k]? = some y → wc.cell? ⟨h, k, none⟩ = some y := fun k y hy => by unfold World.cell?; rw [hbx]; exact hy
        have b4 := bc 4 _ rfl
        have bf : ∀ k, wc.frozen? ⟨h, k, none⟩ = false := fun k => by unfold World.frozen?; rw [hbx]; rfl
        have bl := lt_of_block hbx
        have HX : Hid (wc.heap[h]? = some (.cells #[.int .i64 (n : Int), .int .i64 (kd : Int), .slice (some ⟨h + 1, 0, none⟩) n n, .slice (some ⟨h + 2, 0, none⟩) n n, .slice none 0 0, .slice none 0 0, .slice none 0 0, .slice none 0 0, .slice none 0 0, .slice none 0 0] 138 (0, 0)) ∧ wc.heap.size = h + 3 ∧ Below h W wc ∧ Own wc h 4 1 (.slice (some ⟨h + 1, 0, none⟩) n n) n (blF (fun _ => false)) ∧ Own wc h 4 1 (.slice (some ⟨h + 2, 0, none⟩) n n) n (blF (fun _ => false))) := ⟨hbx, hsz, hbl, o1, o2⟩
        clear bc hbx hsz hbl o1 o2
        go_upto_region 6 with fail
        go_cut [] (fun wc => wc.heap[h]? = some (.cells #[.int .i64 (n : Int), .int .i64 (kd : Int), .slice (some ⟨h + 1, 0, none⟩) n n, .slice (some ⟨h + 2, 0, none⟩) n n, .slice (some ⟨h + 3, 0, none⟩) n n, .slice none 0 0, .slice none 0 0, .slice none 0 0, .slice none 0 0, .slice none 0 0] 138 (0, 0)) ∧ wc.heap.size = h + 4 ∧ Below h W wc ∧ Own wc h 4 1 (.slice (some ⟨h + 1, 0, none⟩) n n) n (blF (fun _ => false)) ∧ Own wc h 4 1 (.slice (some ⟨h + 2, 0, none⟩) n n) n (blF (fun _ => false)) ∧ Own wc h 62 10 (.slice (some ⟨h + 3, 0, none⟩) n n) n (rvF (fun _ => 0)))
        case first =>
          go_wp2_with fail
          go_meet
          obtain ⟨hbx, hsz, hbl, o1, o2⟩ := HX.out
          have hx := pn_box (o := .cells (zA (.agg #[.int .i64 0, .int .u64 0, .bool false, .bool false, .bool false, .int .u64 0, .int .i64 0, .int .u64 0, .int .i64 0, .int .i64 0]) n 10) 62) (k := 4) (v := .slice (some ⟨wc.heap.size, 0, none⟩) n n) hbx
          refine ⟨?_, pn_size.trans (by rw [hsz]), hbl.trans (pn_ch.toBelow (Nat.le_of_lt bl) fun k e => by rw [e]; exact Nat.le_refl _), pn_old o1 (by omega), pn_old o2 (by omega), pn_new hm hsz (by omega) (fun j hj => mdV n j hj)⟩
          rw [hx, hsz]
          rfl
        case rest =>
          obtain ⟨hbx, hsz, hbl, o1, o2, o3⟩ := hcut
          clear HX b4 bf bl
          have bc : ∀ k y, (#[.int .i64 (n : Int), .int .i64 (kd : Int), .slice (some ⟨h + 1, 0, none⟩) n n, .slice (some ⟨h + 2, 0, none⟩) n n, .slice (some ⟨h + 3, 0, none⟩) n n, .slice none 0 0, .slice none 0 0, .slice none 0 0, .slice none 0 0, .slice none 0 0] : Array Value)[k]? = some y → wc.cell? ⟨h, k, none⟩ = some y := fun k y hy => by unfold World.cell?; rw [hbx]; exact hy
          have b5 := bc 5 _ rfl
          have bf : ∀ k, wc.frozen? ⟨h, k, none⟩ = false := fun k => by unfold World.frozen?; rw [hbx]; rfl
          have bl := lt_of_block hbx
          have HX : Hid (wc.heap[h]? = some (.cells #[.int .i64 (n : Int), .int .i64 (kd : Int), .slice (some ⟨h + 1, 0, none⟩) n n, .slice (some ⟨h + 2, 0, none⟩) n n, .slice (some ⟨h + 3, 0, none⟩) n n, .slice none 0 0, .slice none 0 0, .slice none 0 0, .slice none 0 0, .slice none 0 0] 138 (0, 0)) ∧ wc.heap.size = h + 4 ∧ Below h W wc ∧ Own wc h 4 1 (.slice (some ⟨h + 1, 0, none⟩) n n) n (blF (fun _ => false)) ∧ Own wc h 4 1 (.slice (some ⟨h + 2, 0, none⟩) n n) n (blF (fun _ => false)) ∧ Own wc h 62 10 (.slice (some ⟨h + 3, 0, none⟩) n n) n (rvF (fun _ => 0))) := ⟨hbx, hsz, hbl, o1, o2, o3⟩
          clear bc hbx hsz hbl o1 o2 o3
          go_upto_region 7 with fail
          go_cut [] (fun wc => wc.heap[h]? = some (.cells #[.int .i64 (n : Int), .int .i64 (kd : Int), .slice (some ⟨h + 1, 0, none⟩) n n, .slice (some ⟨h + 2, 0, none⟩) n n, .slice (some ⟨h + 3, 0, none⟩) n n, .slice (some ⟨h + 4, 0, none⟩) n n, .slice none 0 0, .slice none 0 0, .slice none 0 0, .slice none 0 0] 138 (0, 0)) ∧ wc.heap.size = h + 5 ∧ Below h W wc ∧ Own wc h 4 1 (.slice (some ⟨h + 1, 0, none⟩) n n) n (blF (fun _ => false)) ∧ Own wc h 4 1 (.slice (some ⟨h + 2, 0, none⟩) n n) n (blF (fun _ => false)) ∧ Own wc h 62 10 (.slice (some ⟨h + 3, 0, none⟩) n n) n (rvF (fun _ => 0)) ∧ Own wc h 62 10 (.slice (some ⟨h + 4, 0, none⟩) n n) n (rvF (fun _ => 0)))
          case first =>
            go_wp2_with fail
            go_meet
            obtain ⟨hbx, hsz, hbl, o1, o2, o3⟩ := HX.out
            have hx := pn_box (o := .cells (zA (.agg #[.int .i64 0, .int .u64 0, .bool false, .bool false, .bool false, .int .u64 0, .int .i64 0, .int .u64 0, .int .i64 0, .int .i64 0]) n 10) 62) (k := 5) (v := .slice (some ⟨wc.heap.size, 0, none⟩) n n) hbx
            refine ⟨?_, pn_size.trans (by rw [hsz]), hbl.trans (pn_ch.toBelow (Nat.le_of_lt bl) fun k e => by rw [e]; exact Nat.le_refl _), pn_old o1 (by omega), pn_old o2 (by omega), pn_old o3 (by omega), pn_new hm hsz (by omega) (fun j hj => mdV n j hj)⟩
            rw [hx, hsz]
            rfl
          case rest =>
            obtain ⟨hbx, hsz, hbl, o1, o2, o3, o4⟩ := hcut
            clear HX b5 bf bl
            have bc : ∀ k y, (#[.int .i64 (n : Int), .int .i64 (kd : Int), .slice (some ⟨h + 1, 0, none⟩) n n, .slice (some ⟨h + 2, 0, none⟩) n n, .slice (some ⟨h + 3, 0, none⟩) n n, .slice (some ⟨h + 4, 0, none⟩) n n, .slice none 0 0, .slice none 0 0, .slice none 0 0, .slice none 0 0] : Array Value)[k]? = some y → wc.cell? ⟨h, k, none⟩ = some y := fun k y hy => by unfold World.cell?; rw [hbx]; exact hy
            have b6 := bc 6 _ rfl
            have bf : ∀ k, wc.frozen? ⟨h, k, none⟩ = false := fun k => by unfold World.frozen?; rw [hbx]; rfl
            have bl := lt_of_block hbx
            have HX : Hid (wc.heap[h]? = some (.cells #[.int .i64 (n : Int), .int .i64 (kd : Int), .slice (some ⟨h + 1, 0, none⟩) n n, .slice (some ⟨h + 2, 0, none⟩) n n, .slice (some ⟨h + 3, 0, none⟩) n n, .slice (some ⟨h + 4, 0, none⟩) n n, .slice none 0 0, .slice none 0 0, .slice none 0 0, .slice none 0 0] 138 (0, 0)) ∧ wc.heap.size = h + 5 ∧ Below h W wc ∧ Own wc h 4 1 (.slice (some ⟨h + 1, 0, none⟩) n n) n (blF (fun _ => false)) ∧ Own wc h 4 1 (.slice (some ⟨h + 2, 0, none⟩) n n) n (blF (fun _ => false)) ∧ Own wc h 62 10 (.slice (some ⟨h + 3, 0, none⟩) n n) n (rvF (fun _ => 0)) ∧ Own wc h 62 10 (.slice (some ⟨h + 4, 0, none⟩) n n) n (rvF (fun _ => 0))) := ⟨hbx, hsz, hbl, o1, o2, o3, o4⟩
            clear bc hbx hsz hbl o1 o2 o3 o4
            go_upto_region 8 with fail
            go_cut [] (fun wc => wc.heap[h]? = some (.cells #[.int .i64 (n : Int), .int .i64 (kd : Int), .slice (some ⟨h + 1, 0, none⟩) n n, .slice (some ⟨h + 2, 0, none⟩) n n, .slice (some ⟨h + 3, 0, none⟩) n n, .slice (some ⟨h + 4, 0, none⟩) n n, .slice (some ⟨h + 5, 0, none⟩) n n, .slice none 0 0, .slice none 0 0, .slice none 0 0] 138 (0, 0)) ∧ wc.heap.size = h + 6 ∧ Below h W wc ∧ Own wc h 4 1 (.slice (some ⟨h + 1, 0, none⟩) n n) n (blF (fun _ => false)) ∧ Own wc h 4 1 (.slice (some ⟨h + 2, 0, none⟩) n n) n (blF (fun _ => false)) ∧ Own wc h 62 10 (.slice (some ⟨h + 3, 0, none⟩) n n) n (rvF (fun _ => 0)) ∧ Own wc h 62 10 (.slice (some ⟨h + 4, 0, none⟩) n n) n (rvF (fun _ => 0)) ∧ Own wc h 56 1 (.slice (some ⟨h + 5, 0, none⟩) n n) n (fun _ => .slice none 0 0))
            case first =>
              go_wp2_with fail
              go_meet
              obtain ⟨hbx, hsz, hbl, o1, o2, o3, o4⟩ := HX.out
              have hx := pn_box (o := .cells (zA (.slice none 0 0) n 1) 56) (k := 6) (v := .slice (some ⟨wc.heap.size, 0, none⟩) n n) hbx
              refine ⟨?_, pn_size.trans (by rw [hsz]), hbl.trans (pn_ch.toBelow (Nat.le_of_lt bl) fun k e => by rw [e]; exact Nat.le_refl _), pn_old o1 (by omega), pn_old o2 (by omega), pn_old o3 (by omega), pn_old o4 (by omega), pn_new hm hsz (by omega) (fun j hj => by rw [made1 _ rfl _ _ hj])⟩
              rw [hx, hsz]
              rfl
            case rest =>
              obtain ⟨hbx, hsz, hbl, o1, o2, o3, o4, o5⟩ := hcut
              clear HX b6 bf bl
              have bc : ∀ k y, (#[.int .i64 (n : Int), .int .i64 (kd : Int), .slice (some ⟨h + 1, 0, none⟩) n n, .slice (some ⟨h + 2, 0, none⟩) n n, .slice (some ⟨h + 3, 0, none⟩) n n, .slice (some ⟨h + 4, 0, none⟩) n n, .slice (some ⟨h + 5, 0, none⟩) n n, .slice none 0 0, .slice none 0 0, .slice none 0 0] : Array Value)[k]? = some y → wc.cell? ⟨h, k, none⟩ = some y := fun k y hy => by unfold World.cell?; rw [hbx]; exact hy
              have b7 := bc 7 _ rfl
              have bf : ∀ k, wc.frozen? ⟨h, k, none⟩ = false := fun k => by unfold World.frozen?; rw [hbx]; rfl
              have bl := lt_of_block hbx
              have HX : Hid (wc.heap[h]? = some (.cells #[.int .i64 (n : Int), .int .i64 (kd : Int), .slice (some ⟨h + 1, 0, none⟩) n n, .slice (some ⟨h + 2, 0, none⟩) n n, .slice (some ⟨h + 3, 0, none⟩) n n, .slice (some ⟨h + 4, 0, none⟩) n n, .slice (some ⟨h + 5, 0, none⟩) n n, .slice none 0 0, .slice none 0 0, .slice none 0 0] 138 (0, 0)) ∧ wc.heap.size = h + 6 ∧ Below h W wc ∧ Own wc h 4 1 (.slice (some ⟨h + 1, 0, none⟩) n n) n (blF (fun _ => false)) ∧ Own wc h 4 1 (.slice (some ⟨h + 2, 0, none⟩) n n) n (blF (fun _ => false)) ∧ Own wc h 62 10 (.slice (some ⟨h + 3, 0, none⟩) n n) n (rvF (fun _ => 0)) ∧ Own wc h 62 10 (.slice (some ⟨h + 4, 0, none⟩) n n) n (rvF (fun _ => 0)) ∧ Own wc h 56 1 (.slice (some ⟨h + 5, 0, none⟩) n n) n (fun _ => .slice none 0 0)) := ⟨hbx, hsz, hbl, o1, o2, o3, o4, o5⟩
              clear bc hbx hsz hbl o1 o2 o3 o4 o5
              go_upto_region 9 with fail
              go_cut [] (fun wc => wc.heap[h]? = some (.cells #[.int .i64 (n : Int), .int .i64 (kd : Int), .slice (some ⟨h + 1, 0, none⟩) n n, .slice (some ⟨h + 2, 0, none⟩) n n, .slice (some ⟨h + 3, 0, none⟩) n n, .slice (some ⟨h + 4, 0, none⟩) n n, .slice (some ⟨h + 5, 0, none⟩) n n, .slice (some ⟨h + 6, 0, none⟩) n n, .slice none 0 0, .slice none 0 0] 138 (0, 0)) ∧ wc.heap.size = h + 7 ∧ Below h W wc ∧ Own wc h 4 1 (.slice (some ⟨h + 1, 0, none⟩) n n) n (blF (fun _ => false)) ∧ Own wc h 4 1 (.slice (some ⟨h + 2, 0, none⟩) n n) n (blF (fun _ => false)) ∧ Own wc h 62 10 (.slice (some ⟨h + 3, 0, none⟩) n n) n (rvF (fun _ => 0)) ∧ Own wc h 62 10 (.slice (some ⟨h + 4, 0, none⟩) n n) n (rvF (fun _ => 0)) ∧ Own wc h 56 1 (.slice (some ⟨h + 5, 0, none⟩) n n) n (fun _ => .slice none 0 0) ∧ Own wc h 62 10 (.slice (some ⟨h + 6, 0, none⟩) n n) n (rvF (fun _ => 0)))
              case first =>
                go_wp2_with fail
                go_meet
                obtain ⟨hbx, hsz, hbl, o1, o2, o3, o4, o5⟩ := HX.out
                have hx := pn_box (o := .cells (zA (.agg #[.int .i64 0, .int .u64 0, .bool false, .bool false, .bool false, .int .u64 0, .int .i64 0, .int .u64 0, .int .i64 0, .int .i64 0]) n 10) 62) (k := 7) (v := .slice (some ⟨wc.heap.size, 0, none⟩) n n) hbx
                refine ⟨?_, pn_size.trans (by rw [hsz]), hbl.trans (pn_ch.toBelow (Nat.le_of_lt bl) fun k e => by rw [e]; exact Nat.le_refl _), pn_old o1 (by omega), pn_old o2 (by omega), pn_old o3 (by omega), pn_old o4 (by omega), pn_old o5 (by omega), pn_new hm hsz (by omega) (fun j hj => mdV n j hj)⟩
                rw [hx, hsz]
                rfl
              case rest =>
                obtain ⟨hbx, hsz, hbl, o1, o2, o3, o4, o5, o6⟩ := hcut
                clear HX b7 bf bl
                have bc : ∀ k y, (#[.int .i64 (n : Int), .int .i64 (kd : Int), .slice (some ⟨h + 1, 0, none⟩) n n, .slice (some ⟨h + 2, 0, none⟩) n n, .slice (some ⟨h + 3, 0, none⟩) n n, .slice (some ⟨h + 4, 0, none⟩) n n, .slice (some ⟨h + 5, 0, none⟩) n n, .slice (some ⟨h + 6, 0, none⟩) n n, .slice none 0 0, .slice none 0 0] : Array Value)[k]? = some y → wc.cell? ⟨h, k, none⟩ = some y := fun k y hy => by unfold World.cell?; rw [hbx]; exact hy
                have b8 := bc 8 _ rfl
                have bf : ∀ k, wc.frozen? ⟨h, k, none⟩ = false := fun k => by unfold World.frozen?; rw [hbx]; rfl
                have bl := lt_of_block hbx
                have HX : Hid (wc.heap[h]? = some (.cells #[.int .i64 (n : Int), .int .i64 (kd : Int), .slice (some ⟨h + 1, 0, none⟩) n n, .slice (some ⟨h + 2, 0, none⟩) n n, .slice (some ⟨h + 3, 0, none⟩) n n, .slice (some ⟨h + 4, 0, none⟩) n n, .slice (some ⟨h + 5, 0, none⟩) n n, .slice (some ⟨h + 6, 0, none⟩) n n, .slice none 0 0, .slice none 0 0] 138 (0, 0)) ∧ wc.heap.size = h + 7 ∧ Below h W wc ∧ Own wc h 4 1 (.slice (some ⟨h + 1, 0, none⟩) n n) n (blF (fun _ => false)) ∧ Own wc h 4 1 (.slice (some ⟨h + 2, 0, none⟩) n n) n (blF (fun _ => false)) ∧ Own wc h 62 10 (.slice (some ⟨h + 3, 0, none⟩) n n) n (rvF (fun _ => 0)) ∧ Own wc h 62 10 (.slice (some ⟨h + 4, 0, none⟩) n n) n (rvF (fun _ => 0)) ∧ Own wc h 56 1 (.slice (some ⟨h + 5, 0, none⟩) n n) n (fun _ => .slice none 0 0) ∧ Own wc h 62 10 (.slice (some ⟨h + 6, 0, none⟩) n n) n (rvF (fun _ => 0))) := ⟨hbx, hsz, hbl, o1, o2, o3, o4, o5, o6⟩
                clear bc hbx hsz hbl o1 o2 o3 o4 o5 o6
                go_upto_region 10 with fail
                go_cut [] (fun wc => wc.heap[h]? = some (.cells #[.int .i64 (n : Int), .int .i64 (kd : Int), .slice (some ⟨h + 1, 0, none⟩) n n, .slice (some ⟨h + 2, 0, none⟩) n n, .slice (some ⟨h + 3, 0, none⟩) n n, .slice (some ⟨h + 4, 0, none⟩) n n, .slice (some ⟨h + 5, 0, none⟩) n n, .slice (some ⟨h + 6, 0, none⟩) n n, .slice (some ⟨h + 7, 0, none⟩) n n, .slice none 0 0] 138 (0, 0)) ∧ wc.heap.size = h + 8 ∧ Below h W wc ∧ Own wc h 4 1 (.slice (some ⟨h + 1, 0, none⟩) n n) n (blF (fun _ => false)) ∧ Own wc h 4 1 (.slice (some ⟨h + 2, 0, none⟩) n n) n (blF (fun _ => false)) ∧ Own wc h 62 10 (.slice (some ⟨h + 3, 0, none⟩) n n) n (rvF (fun _ => 0)) ∧ Own wc h 62 10 (.slice (some ⟨h + 4, 0, none⟩) n n) n (rvF (fun _ => 0)) ∧ Own wc h 56 1 (.slice (some ⟨h + 5, 0, none⟩) n n) n (fun _ => .slice none 0 0) ∧ Own wc h 62 10 (.slice (some ⟨h + 6, 0, none⟩) n n) n (rvF (fun _ => 0)) ∧ Own wc h 62 10 (.slice (some ⟨h + 7, 0, none⟩) n n) n (rvF (fun _ => 0)))
                case first =>
                  go_wp2_with fail
                  go_meet
                  obtain ⟨hbx, hsz, hbl, o1, o2, o3, o4, o5, o6⟩ := HX.out
                  have hx := pn_box (o := .cells (zA (.agg #[.int .i64 0, .int .u64 0, .bool false, .bool false, .bool false, .int .u64 0, .int .i64 0, .int .u64 0, .int .i64 0, .int .i64 0]) n 10) 62) (k := 8) (v := .slice (some ⟨wc.heap.size, 0, none⟩) n n) hbx
                  refine ⟨?_, pn_size.trans (by rw [hsz]), hbl.trans (pn_ch.toBelow (Nat.le_of_lt bl) fun k e => by rw [e]; exact Nat.le_refl _), pn_old o1 (by omega), pn_old o2 (by omega), pn_old o3 (by omega), pn_old o4 (by omega), pn_old o5 (by omega), pn_old o6 (by omega), pn_new hm hsz (by omega) (fun j hj => mdV n j hj)⟩
                  rw [hx, hsz]
                  rfl
                case rest =>
                  obtain ⟨hbx, hsz, hbl, o1, o2, o3, o4, o5, o6, o7⟩ := hcut
                  clear HX b8 bf bl
                  have bc : ∀ k y, (#[.int .i64 (n : Int), .int .i64 (kd : Int), .slice (some ⟨h + 1, 0, none⟩) n n, .slice (some ⟨h + 2, 0, none⟩) n n, .slice (some ⟨h + 3, 0, none⟩) n n, .slice (some ⟨h + 4, 0, none⟩) n n, .slice (some ⟨h + 5, 0, none⟩) n n, .slice (some ⟨h + 6, 0, none⟩) n n, .slice (some ⟨h + 7, 0, none⟩) n n, .slice none 0 0] : Array Value)[k]? = some y → wc.cell? ⟨h, k, none⟩ = some y := fun k y hy => by unfold World.cell?; rw [hbx]; exact hy
                  have b9 := bc 9 _ rfl
                  have bf : ∀ k, wc.frozen? ⟨h, k, none⟩ = false := fun k => by unfold World.frozen?; rw [hbx]; rfl
                  have bl := lt_of_block hbx
                  have HX : Hid (wc.heap[h]? = some (.cells #[.int .i64 (n : Int), .int .i64 (kd : Int), .slice (some ⟨h + 1, 0, none⟩) n n, .slice (some ⟨h + 2, 0, none⟩) n n, .slice (some ⟨h + 3, 0, none⟩) n n, .slice (some ⟨h + 4, 0, none⟩) n n, .slice (some ⟨h + 5, 0, none⟩) n n, .slice (some ⟨h + 6, 0, none⟩) n n, .slice (some ⟨h + 7, 0, none⟩) n n, .slice none 0 0] 138 (0, 0)) ∧ wc.heap.size = h + 8 ∧ Below h W wc ∧ Own wc h 4 1 (.slice (some ⟨h + 1, 0, none⟩) n n) n (blF (fun _ => false)) ∧ Own wc h 4 1 (.slice (some ⟨h + 2, 0, none⟩) n n) n (blF (fun _ => false)) ∧ Own wc h 62 10 (.slice (some ⟨h + 3, 0, none⟩) n n) n (rvF (fun _ => 0)) ∧ Own wc h 62 10 (.slice (some ⟨h + 4, 0, none⟩) n n) n (rvF (fun _ => 0)) ∧ Own wc h 56 1 (.slice (some ⟨h + 5, 0, none⟩) n n) n (fun _ => .slice none 0 0) ∧ Own wc h 62 10 (.slice (some ⟨h + 6, 0, none⟩) n n) n (rvF (fun _ => 0)) ∧ Own wc h 62 10 (.slice (some ⟨h + 7, 0, none⟩) n n) n (rvF (fun _ => 0))) := ⟨hbx, hsz, hbl, o1, o2, o3, o4, o5, o6, o7⟩
                  clear bc hbx hsz hbl o1 o2 o3 o4 o5 o6 o7
                  go_upto_region 11 with fail
                  go_cut [] (fun wc => wc.heap[h]? = some (.cells #[.int .i64 (n : Int), .int .i64 (kd : Int), .slice (some ⟨h + 1, 0, none⟩) n n, .slice (some ⟨h + 2, 0, none⟩) n n, .slice (some ⟨h + 3, 0, none⟩) n n, .slice (some ⟨h + 4, 0, none⟩) n n, .slice (some ⟨h + 5, 0, none⟩) n n, .slice (some ⟨h + 6, 0, none⟩) n n, .slice (some ⟨h + 7, 0, none⟩) n n, .slice (some ⟨h + 8, 0, none⟩) n n] 138 (0, 0)) ∧ wc.heap.size = h + 9 ∧ Below h W wc ∧ Own wc h 4 1 (.slice (some ⟨h + 1, 0, none⟩) n n) n (blF (fun _ => false)) ∧ Own wc h 4 1 (.slice (some ⟨h + 2, 0, none⟩) n n) n (blF (fun _ => false)) ∧ Own wc h 62 10 (.slice (some ⟨h + 3, 0, none⟩) n n) n (rvF (fun _ => 0)) ∧ Own wc h 62 10 (.slice (some ⟨h + 4, 0, none⟩) n n) n (rvF (fun _ => 0)) ∧ Own wc h 56 1 (.slice (some ⟨h + 5, 0, none⟩) n n) n (fun _ => .slice none 0 0) ∧ Own wc h 62 10 (.slice (some ⟨h + 6, 0, none⟩) n n) n (rvF (fun _ => 0)) ∧ Own wc h 62 10 (.slice (some ⟨h + 7, 0, none⟩) n n) n (rvF (fun _ => 0)) ∧ Own wc h 3 1 (.slice (some ⟨h + 8, 0, none⟩) n n) n (ntF (fun _ => 0)))
                  case first =>
                    go_wp2_with fail
                    go_meet
                    obtain ⟨hbx, hsz, hbl, o1, o2, o3, o4, o5, o6, o7⟩ := HX.out
                    have hx := pn_box (o := .cells (zA (.int .i64 0) n 1) 3) (k := 9) (v := .slice (some ⟨wc.heap.size, 0, none⟩) n n) hbx
                    refine ⟨?_, pn_size.trans (by rw [hsz]), hbl.trans (pn_ch.toBelow (Nat.le_of_lt bl) fun k e => by rw [e]; exact Nat.le_refl _), pn_old o1 (by omega), pn_old o2 (by omega), pn_old o3 (by omega), pn_old o4 (by omega), pn_old o5 (by omega), pn_old o6 (by omega), pn_old o7 (by omega), pn_new hm hsz (by omega) (fun j hj => by rw [made1 _ rfl _ _ hj]; rfl)⟩
                    rw [hx, hsz]
                    rfl
                  case rest =>
                    obtain ⟨hbx, hsz, hbl, o1, o2, o3, o4, o5, o6, o7, o8⟩ := hcut
                    clear HX b9 bf bl
                    have HX : Hid (wc.heap[h]? = some (.cells #[.int .i64 (n : Int), .int .i64 (kd : Int), .slice (some ⟨h + 1, 0, none⟩) n n, .slice (some ⟨h + 2, 0, none⟩) n n, .slice (some ⟨h + 3, 0, none⟩) n n, .slice (some ⟨h + 4, 0, none⟩) n n, .slice (some ⟨h + 5, 0, none⟩) n n, .slice (some ⟨h + 6, 0, none⟩) n n, .slice (some ⟨h + 7, 0, none⟩) n n, .slice (some ⟨h + 8, 0, none⟩) n n] 138 (0, 0)) ∧ wc.heap.size = h + 9 ∧ Below h W wc ∧ Own wc h 4 1 (.slice (some ⟨h + 1, 0, none⟩) n n) n (blF (fun _ => false)) ∧ Own wc h 4 1 (.slice (some ⟨h + 2, 0, none⟩) n n) n (blF (fun _ => false)) ∧ Own wc h 62 10 (.slice (some ⟨h + 3, 0, none⟩) n n) n (rvF (fun _ => 0)) ∧ Own wc h 62 10 (.slice (some ⟨h + 4, 0, none⟩) n n) n (rvF (fun _ => 0)) ∧ Own wc h 56 1 (.slice (some ⟨h + 5, 0, none⟩) n n) n (fun _ => .slice none 0 0) ∧ Own wc h 62 10 (.slice (some ⟨h + 6, 0, none⟩) n n) n (rvF (fun _ => 0)) ∧ Own wc h 62 10 (.slice (some ⟨h + 7, 0, none⟩) n n) n (rvF (fun _ => 0)) ∧ Own wc h 3 1 (.slice (some ⟨h + 8, 0, none⟩) n n) n (ntF (fun _ => 0))) := ⟨hbx, hsz, hbl, o1, o2, o3, o4, o5, o6, o7, o8⟩
                    clear hbx hsz hbl o1 o2 o3 o4 o5 o6 o7 o8
                    go_wp2_with fail
                    go_returns
                    obtain ⟨hbx, hsz, hbl, o1, o2, o3, o4, o5, o6, o7, o8⟩ := HX.out
                    refine ⟨rfl, ⟨hbx, o1, o2, o3, o4, o5, o6, o7, o8, fun i hi => ⟨none, 0, rfl, Nat.le_refl _, fun e => absurd rfl e⟩, ?_, ?_, ?_, Nat.le_refl _⟩, hbl⟩
                    · show h + 1 ≠ h + 2; omega
                    · show h + 3 ≠ h + 4 ∧ h + 3 ≠ h + 6 ∧ h + 3 ≠ h + 7; omega
                    · show h + 4 ≠ h + 6 ∧ h + 4 ≠ h + 7 ∧ h + 6 ≠ h + 7; omega
end Go.Proofs.Ytfgkmijaimfkjaa
