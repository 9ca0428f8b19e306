import Derived.Test.YtfgkmijaimfkjaaX3
import Derived.Test.YtfgkmijaimfkjaaC8
import Derived.Test.YtfgkmijaimfkjaaAZ
namespace Go.Proofs.Ytfgkmijaimfkjaa
open Go.ChangeShapes Go.WideShapes Go.ChangeAt Go.RowKit
set_option linter.unusedVariables false
set_option linter.unusedSimpArgs false
variable {base n kd : Nat} {B : RB} {R : Rt}

def flL (u d : Bool) : List Value := [.bool u, .bool d]
theorem flL_eq (u d : Bool) : flL u d = cellsF (fun r => if r = 0 then .bool u else .bool d) 2 := rfl
theorem fl_app (U D : Nat → Bool) (i : Nat) : cellsF (flC U D) (i * 2) ++ flL (U i) (D i) = cellsF (flC U D) ((i + 1) * 2) := by
  rw [flL_eq, cellsF_append, show (i + 1) * 2 = i * 2 + 2 by omega]
  refine cellsF_congr fun j hj => ?_
  by_cases h : j < i * 2
  · rw [if_pos h]
  · rw [if_neg h]
    have h6 : j = i * 2 ∨ j = i * 2 + 1 := by omega
    unfold flC
    rcases h6 with rfl | rfl
    · rw [if_pos (by omega), if_pos (by omega), show i * 2 / 2 = i by omega]
    · rw [if_neg (by omega), if_neg (by omega), show (i * 2 + 1) / 2 = i by omega]
set_option maxRecDepth 100000 in
set_option maxHeartbeats 2000000 in
theorem rcells_any (hn : n ≤ 64) (W : World) (h : RN base n kd B R W) : Calls Try.prog 25 #[.pointer (some ⟨B.rb, 0, none⟩)] W fun e W' => ∃ v, e = .returned v ∧ Own W' W.heap.size 35 2 v n (flC R.up R.dn) ∧ Below W.heap.size W W' := by
  have HW : Hid (RN base n kd B R W) := h
  obtain ⟨iC, hC1, hC2, hC3, hC4⟩ := binfo infoCL
  clear h
  go_enter Try.func25, Try.ntmps25
  go_wp2_with fail
  go_loopw [3, 4] (fun v x wr => ∃ k : Nat, x = .int .i64 (k : Int) ∧ k ≤ n ∧ Own wr W.heap.size 35 2 v k (flC R.up R.dn) ∧ Below W.heap.size W wr) (fun _ x _ => n - (intOf x).toNat)
  case atStart => exact ⟨0, rfl, Nat.zero_le _, World.ownsRow_nil _ _ _ _, Below.refl _ _⟩
  case round =>
    obtain ⟨k, rfl, hk, ho, hbr⟩ := hrel
    have hN := HW.out.later hbr
    obtain ⟨⟨c0, c1, c2, c3⟩, ⟨c4, c5, c6⟩, c7, c8, c9⟩ := hN.cells
    obtain ⟨⟨l0, l1, l2, l3⟩, l4, l5, l6, l7, l8⟩ := hN.lt
    by_cases hlt : k < n
    · have dl : decide ((k : Int) < (n : Int)) = true := by simp; omega
      have hm := meas hlt
      have i0 : (0 : Int) ≤ (k : Int) := by omega
      have i1 : (k : Int) < (n : Int) := by omega
      have ek : IntKind.i64.wrap ((k : Int) + 1) = (k : Int) + 1 := by rw [IntKind.wrap_i64]; omega
      have k1 := Own.cell hN.up (j := k) (by omega)
      have k2 := Own.cell hN.dn (j := k) (by omega)
      unfold blF at k1 k2
      have p1 : k + 1 ≤ maxLen := by unfold maxLen; omega
      have p2 : (k + 1) * 2 ≤ 140737488355328 := by omega
      have HN : Hid (RN base n kd B R wr) := hN
      have HO : Hid ((wr.alloc (.cells #[.bool (R.up k), .bool (R.dn k)] 35)).drew.ownsRow W.heap.size 35 2 u3 k (cellsF (flC R.up R.dn) (k * 2))) := Own.later (F := flC R.up R.dn) (Own.later ho ((Below.refl _ wr).alloc (Nat.le_refl _) _)) (drewB _)
      have HNW : Hid (∀ j y, ([.bool (R.up k), .bool (R.dn k)] : List Value)[j]? = some y → (wr.alloc (.cells #[.bool (R.up k), .bool (R.dn k)] 35)).drew.cell? ((⟨wr.heap.size, 0, none⟩ : Addr).add j) = some y) := fun j y hy => cells_new9 wr (flL (R.up k) (R.dn k)) 35 j y hy
      have HB2 : Hid (Below W.heap.size W (wr.alloc (.cells #[.bool (R.up k), .bool (R.dn k)] 35)).drew) := (hbr.alloc hbr.size _).drew
      clear ho hN
      go_upto_region 5 with fail
      go_region_held3 (fun w' => (w'.cell? ⟨B.rb, 2, none⟩ = some (.slice (some ⟨B.ub, 0, none⟩) n n) ∧ w'.cell? ⟨B.rb, 3, none⟩ = some (.slice (some ⟨B.db, 0, none⟩) n n)) ∧ w'.cell? ⟨B.ub, k, none⟩ = some (.bool (R.up k)) ∧ w'.cell? ⟨B.db, k, none⟩ = some (.bool (R.dn k))) (go_keep) ((refine step_app9 rfl (.tmp 13) (.tmp 29) 27 rfl W.heap.size 35 iC _ 2 2 Try.underlying27 hC1 hC2 hC3 hC4 rfl (by decide) u3 k (cellsF (flC R.up R.dn) (k * 2)) (by simp [Act.eval]) HO.out ⟨wr.heap.size, 0, none⟩ 1 1 [.bool (R.up k), .bool (R.dn k)] (by simp [Act.eval]) rfl HNW.out (by simp [Value.oneCell']) p1 p2 HB2.out.size ?_; intro v9 w9 hown9 hgrow9 hob9; have hb9 := HB2.out.grown hgrow9 HB2.out.size (fun r' e => (Own.lt (F := flC R.up R.dn) HO.out r' e).1); have hX9 := HW.out.later hb9; obtain ⟨⟨c0, c1, c2, c3⟩, ⟨c4, c5, c6⟩, c7, c8, c9⟩ := hX9.cells; have k1 := Own.cell hX9.up (j := k) (by omega); have k2 := Own.cell hX9.dn (j := k) (by omega); unfold blF at k1 k2; have H9 : Hid (w9.ownsRow W.heap.size 35 2 v9 (k + 1) (cellsF (flC R.up R.dn) (k * 2) ++ flL (R.up k) (R.dn k)) ∧ Below W.heap.size W w9) := ⟨hown9, hb9⟩; clear hown9 hgrow9 hob9 hb9 hX9))
      all_goals (
        go_wp2_with fail
        refine ⟨⟨k + 1, rfl, hlt, ?_, H9.out.2⟩, hm⟩
        have h9 := H9.out.1
        rw [fl_app] at h9
        exact h9)
    · have dl : decide ((k : Int) < (n : Int)) = false := by simp; omega
      obtain rfl : k = n := by omega
      go_wp2_with fail
      go_ret
      exact ⟨_, rfl, ho, hbr⟩
end Go.Proofs.Ytfgkmijaimfkjaa
