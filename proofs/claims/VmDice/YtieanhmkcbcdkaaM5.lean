import Derived.Test.YtieanhmkcbcdkaaM4
namespace Go.Proofs.Ytieanhmkcbcdkaa
open Go.ChangeShapes Go.WideShapes Go.ChangeAt Go.RowKit
set_option linter.unusedVariables false

def singleV (o a : Int) : Int := if o = 23 then wrap64 (-a) else if o = 25 then bits BinOp.xor IntKind.i64 (-1) a else if o = 24 then (if a = 0 then 1 else 0) else (if a = 0 then 0 else 1)
set_option maxRecDepth 100000 in
theorem single_any (o a : Int) (h : o = 23 ∨ o = 24 ∨ o = 25 ∨ o = 34) (w : World) : Calls Try.prog 63 #[.int .i64 o, .int .i64 a] w fun e w' => e = .returned (.int .i64 (singleV o a)) ∧ w' = w := by
  by_cases ha : a = 0
  · subst ha
    rcases h with rfl | rfl | rfl | rfl
    all_goals
      go_enter Try.func63, Try.ntmps63
      go_wp2_with ((go_at_call 45; (with_reducible refine (truth_any _ _).mono ?_); rintro e w1 ⟨rfl, rfl⟩))
      go_ret
      exact ⟨by first | rfl | (simp [singleV]; done) | (simp [singleV]; decide) | (simp [singleV, wrap64]; done), rfl⟩
  · have ha' : (a == 0) = false := by simpa using ha
    rcases h with rfl | rfl | rfl | rfl
    · have e : singleV 23 a = wrap64 (-a) := rfl
      rw [e]
      go_enter Try.func63, Try.ntmps63
      go_wp2
      go_ret
      exact ⟨rfl, rfl⟩
    · have e : singleV 24 a = 0 := by unfold singleV; simp [ha]
      rw [e]
      go_enter Try.func63, Try.ntmps63
      go_wp2_with ((go_at_call 45; (with_reducible refine (truth_any _ _).mono ?_); rintro e w1 ⟨rfl, rfl⟩))
      go_ret
      exact ⟨rfl, rfl⟩
    · have e : singleV 25 a = bits BinOp.xor IntKind.i64 (-1) a := rfl
      rw [e]
      go_enter Try.func63, Try.ntmps63
      go_wp2
      go_ret
      exact ⟨rfl, rfl⟩
    · have e : singleV 34 a = 1 := by unfold singleV; simp [ha]
      rw [e]
      go_enter Try.func63, Try.ntmps63
      go_wp2_with ((go_at_call 45; (with_reducible refine (truth_any _ _).mono ?_); rintro e w1 ⟨rfl, rfl⟩))
      go_ret
      exact ⟨rfl, rfl⟩
set_option maxRecDepth 100000 in
set_option maxHeartbeats 4000000 in
theorem do_7 (w0 w : World) (base mb nw : Nat) (C : Nat → Value) (M : Mc) (cl : Cl) (code : Value) (hC : CC C cl code) (a' : Nat) (b : Int) (h : MW w0 w base mb nw C M) (hh : M.hi < 64) (hA : a' < 32) :
    Calls Try.prog 55 #[.pointer (some ⟨mb, 0, none⟩), .agg #[.int .i64 7, .int .i64 (a' : Int), .int .i64 b]] w fun e w' => e = .returned (.int .i64 0) ∧ RS w0 w' base mb nw C M 0 (pushM M (M.lo a')) := by
  obtain ⟨wb, hwb⟩ : ∃ wb, w.alloc (.cells #[.int .i64 7, .int .i64 (a' : Int), .int .i64 b] 51) = wb := ⟨_, rfl⟩
  obtain ⟨hbb, hbx, hsz⟩ := inbox w 7 (a' : Int) b wb hwb
  have HB : Hid (w.alloc (.cells #[.int .i64 7, .int .i64 (a' : Int), .int .i64 b] 51) = wb) := hwb
  have hlt := h.box.lt.1
  have hb := h.later hbb
  clear hwb
  go_enter Try.func55, Try.ntmps55
  have cl0 : wb.cell? ⟨mb, 58 + a', none⟩ = some (.int .i64 (M.lo a')) := (hb.box.cell (58 + a') (by omega)).trans (by rw [mF_lo _ _ hA])
  obtain ⟨b0, b1, b2⟩ := cells3 hbx
  have i0 : (0 : Int) ≤ (a' : Int) := by omega
  have i1 : (a' : Int) < 32 := by omega
  have HP := fun W hW => pushW w0 W base mb nw C M (M.lo a') hW hh
  have HBD : ∀ W, W = wb.drew → MW w0 W base mb nw C M := fun W e => by rw [e]; exact hb.later ⟨rfl, rfl, rfl, Nat.le_refl _, fun _ _ => rfl⟩
  go_wp2_with fail
  rw [HB.out]
  go_region_held3 (fun w' => w'.cell? ⟨mb, 58 + a', none⟩ = some (.int .i64 (M.lo a')) ∧ w'.cell? ⟨w.heap.size, 1, none⟩ = some (.int .i64 (a' : Int))) (first | exact KP | go_keep) ((go_at_call 62; (with_reducible refine (HP _ (HBD _ rfl)).mono ?_); rintro e w1 ⟨rfl, o1, m1⟩; have KP : w1.cell? ⟨mb, 58 + a', none⟩ = some (.int .i64 (M.lo a')) ∧ w1.cell? ⟨w.heap.size, 1, none⟩ = some (.int .i64 (a' : Int)) := ⟨(m1.box.cell (58 + a') (by omega)).trans (by rw [mF_lo _ _ hA]; rfl), only_keeps o1 (by omega) b1⟩))
  go_wp2
  go_ret
  exact ⟨rfl, fun _ => m1, fun h => absurd rfl h⟩
set_option maxRecDepth 100000 in
set_option maxHeartbeats 4000000 in
theorem do_8 (w0 w : World) (base mb nw : Nat) (C : Nat → Value) (M : Mc) (cl : Cl) (code : Value) (hC : CC C cl code) (a' : Nat) (b : Int) (h : MW w0 w base mb nw C M) (hh : 0 < M.hi) (h64 : M.hi ≤ 64) (hA : a' < 32) :
    Calls Try.prog 55 #[.pointer (some ⟨mb, 0, none⟩), .agg #[.int .i64 8, .int .i64 (a' : Int), .int .i64 b]] w fun e w' => e = .returned (.int .i64 0) ∧ RS w0 w' base mb nw C M 0 ({ popM M with lo := updI M.lo a' (topM M) }) := by
  obtain ⟨wb, hwb⟩ : ∃ wb, w.alloc (.cells #[.int .i64 8, .int .i64 (a' : Int), .int .i64 b] 51) = wb := ⟨_, rfl⟩
  obtain ⟨hbb, hbx, hsz⟩ := inbox w 8 (a' : Int) b wb hwb
  have HB : Hid (w.alloc (.cells #[.int .i64 8, .int .i64 (a' : Int), .int .i64 b] 51) = wb) := hwb
  have hlt := h.box.lt.1
  have hb := h.later hbb
  clear hwb
  go_enter Try.func55, Try.ntmps55
  obtain ⟨b0, b1, b2⟩ := cells3 hbx
  have i0 : (0 : Int) ≤ (a' : Int) := by omega
  have i1 : (a' : Int) < 32 := by omega
  have HP := fun W hW => popW w0 W base mb nw C M hW hh h64
  have HBD : ∀ W, W = wb.drew → MW w0 W base mb nw C M := fun W e => by rw [e]; exact hb.later ⟨rfl, rfl, rfl, Nat.le_refl _, fun _ _ => rfl⟩
  go_wp2_with fail
  rw [HB.out]
  go_region_held3 (fun w' => w'.cell? ⟨w.heap.size, 1, none⟩ = some (.int .i64 (a' : Int))) (first | exact KP | exact KS | go_keep) ((go_at_call 54; (with_reducible refine (HP _ (HBD _ rfl)).mono ?_); rintro e w1 ⟨rfl, o1, m1⟩; have KP : w1.cell? ⟨w.heap.size, 1, none⟩ = some (.int .i64 (a' : Int)) := only_keeps o1 (by omega) b1; have cl1 : w1.cell? ⟨mb, 58 + a', none⟩ = some (.int .i64 (M.lo a')) := (m1.box.cell (58 + a') (by omega)).trans (by rw [mF_lo _ _ hA]; rfl); have fz := m1.box.frozen (58 + a'); have KS : (w1.setCell ⟨mb, 58 + a', none⟩ (.int .i64 (topM M))).cell? ⟨w.heap.size, 1, none⟩ = some (.int .i64 (a' : Int)) := only_keeps (Only.set mb w1 (58 + a') (.int .i64 (topM M))) (by omega) KP))
  go_wp2
  go_ret
  exact ⟨rfl, fun _ => m1.only (Only.set mb w1 _ _) (m1.box.setLo hA (topM M)) rfl rfl rfl rfl rfl, fun h => absurd rfl h⟩
set_option maxRecDepth 100000 in
set_option maxHeartbeats 4000000 in
theorem do_23 (w0 w : World) (base mb nw : Nat) (C : Nat → Value) (M : Mc) (cl : Cl) (code : Value) (hC : CC C cl code) (a b : Int) (h : MW w0 w base mb nw C M) (hh : 0 < M.hi) (h64 : M.hi ≤ 64) :
    Calls Try.prog 55 #[.pointer (some ⟨mb, 0, none⟩), .agg #[.int .i64 23, .int .i64 a, .int .i64 b]] w fun e w' => e = .returned (.int .i64 0) ∧ RS w0 w' base mb nw C M 0 (pushM (popM M) (singleV 23 (topM M))) := by
  obtain ⟨wb, hwb⟩ : ∃ wb, w.alloc (.cells #[.int .i64 23, .int .i64 a, .int .i64 b] 51) = wb := ⟨_, rfl⟩
  obtain ⟨hbb, hbx, hsz⟩ := inbox w 23 a b wb hwb
  have HB : Hid (w.alloc (.cells #[.int .i64 23, .int .i64 a, .int .i64 b] 51) = wb) := hwb
  have hlt := h.box.lt.1
  have hb := h.later hbb
  clear hwb
  go_enter Try.func55, Try.ntmps55
  obtain ⟨b0, b1, b2⟩ := cells3 hbx
  have HP := fun W hW => popW w0 W base mb nw C M hW hh h64
  have HV := single_any 23 (topM M) (by decide)
  have hph : (popM M).hi < 64 := by show M.hi - 1 < 64; omega
  have HBD : ∀ W, W = wb.drew → MW w0 W base mb nw C M := fun W e => by rw [e]; exact hb.later ⟨rfl, rfl, rfl, Nat.le_refl _, fun _ _ => rfl⟩
  go_wp2_with fail
  rw [HB.out]
  go_region_held3 (fun w' => w'.cell? ⟨w.heap.size, 0, none⟩ = some (.int .i64 23)) (first | exact KP | exact KP2 | go_keep) (first | (go_at_call 54; (with_reducible refine (HP _ (HBD _ rfl)).mono ?_); rintro e w1 ⟨rfl, o1, m1⟩; have KP : w1.cell? ⟨w.heap.size, 0, none⟩ = some (.int .i64 23) := only_keeps o1 (by omega) b0) | (go_at_call 63; (with_reducible refine (HV _).mono ?_); rintro e w2 ⟨rfl, rfl⟩) | (go_at_call 62; (with_reducible refine (pushW w0 _ base mb nw C (popM M) (singleV 23 (topM M)) m1 hph).mono ?_); rintro e w3 ⟨rfl, o3, m3⟩; have KP2 : w3.cell? ⟨w.heap.size, 0, none⟩ = some (.int .i64 23) := only_keeps o3 (by omega) KP))
  go_wp2
  go_ret
  exact ⟨rfl, fun _ => m3, fun h => absurd rfl h⟩
set_option maxRecDepth 100000 in
set_option maxHeartbeats 4000000 in
theorem do_24 (w0 w : World) (base mb nw : Nat) (C : Nat → Value) (M : Mc) (cl : Cl) (code : Value) (hC : CC C cl code) (a b : Int) (h : MW w0 w base mb nw C M) (hh : 0 < M.hi) (h64 : M.hi ≤ 64) :
    Calls Try.prog 55 #[.pointer (some ⟨mb, 0, none⟩), .agg #[.int .i64 24, .int .i64 a, .int .i64 b]] w fun e w' => e = .returned (.int .i64 0) ∧ RS w0 w' base mb nw C M 0 (pushM (popM M) (singleV 24 (topM M))) := by
  obtain ⟨wb, hwb⟩ : ∃ wb, w.alloc (.cells #[.int .i64 24, .int .i64 a, .int .i64 b] 51) = wb := ⟨_, rfl⟩
  obtain ⟨hbb, hbx, hsz⟩ := inbox w 24 a b wb hwb
  have HB : Hid (w.alloc (.cells #[.int .i64 24, .int .i64 a, .int .i64 b] 51) = wb) := hwb
  have hlt := h.box.lt.1
  have hb := h.later hbb
  clear hwb
  go_enter Try.func55, Try.ntmps55
  obtain ⟨b0, b1, b2⟩ := cells3 hbx
  have HP := fun W hW => popW w0 W base mb nw C M hW hh h64
  have HV := single_any 24 (topM M) (by decide)
  have hph : (popM M).hi < 64 := by show M.hi - 1 < 64; omega
  have HBD : ∀ W, W = wb.drew → MW w0 W base mb nw C M := fun W e => by rw [e]; exact hb.later ⟨rfl, rfl, rfl, Nat.le_refl _, fun _ _ => rfl⟩
  go_wp2_with fail
  rw [HB.out]
  go_region_held3 (fun w' => w'.cell? ⟨w.heap.size, 0, none⟩ = some (.int .i64 24)) (first | exact KP | exact KP2 | go_keep) (first | (go_at_call 54; (with_reducible refine (HP _ (HBD _ rfl)).mono ?_); rintro e w1 ⟨rfl, o1, m1⟩; have KP : w1.cell? ⟨w.heap.size, 0, none⟩ = some (.int .i64 24) := only_keeps o1 (by omega) b0) | (go_at_call 63; (with_reducible refine (HV _).mono ?_); rintro e w2 ⟨rfl, rfl⟩) | (go_at_call 62; (with_reducible refine (pushW w0 _ base mb nw C (popM M) (singleV 24 (topM M)) m1 hph).mono ?_); rintro e w3 ⟨rfl, o3, m3⟩; have KP2 : w3.cell? ⟨w.heap.size, 0, none⟩ = some (.int .i64 24) := only_keeps o3 (by omega) KP))
  go_wp2
  go_ret
  exact ⟨rfl, fun _ => m3, fun h => absurd rfl h⟩
set_option maxRecDepth 100000 in
set_option maxHeartbeats 4000000 in
theorem do_25 (w0 w : World) (base mb nw : Nat) (C : Nat → Value) (M : Mc) (cl : Cl) (code : Value) (hC : CC C cl code) (a b : Int) (h : MW w0 w base mb nw C M) (hh : 0 < M.hi) (h64 : M.hi ≤ 64) :
    Calls Try.prog 55 #[.pointer (some ⟨mb, 0, none⟩), .agg #[.int .i64 25, .int .i64 a, .int .i64 b]] w fun e w' => e = .returned (.int .i64 0) ∧ RS w0 w' base mb nw C M 0 (pushM (popM M) (singleV 25 (topM M))) := by
  obtain ⟨wb, hwb⟩ : ∃ wb, w.alloc (.cells #[.int .i64 25, .int .i64 a, .int .i64 b] 51) = wb := ⟨_, rfl⟩
  obtain ⟨hbb, hbx, hsz⟩ := inbox w 25 a b wb hwb
  have HB : Hid (w.alloc (.cells #[.int .i64 25, .int .i64 a, .int .i64 b] 51) = wb) := hwb
  have hlt := h.box.lt.1
  have hb := h.later hbb
  clear hwb
  go_enter Try.func55, Try.ntmps55
  obtain ⟨b0, b1, b2⟩ := cells3 hbx
  have HP := fun W hW => popW w0 W base mb nw C M hW hh h64
  have HV := single_any 25 (topM M) (by decide)
  have hph : (popM M).hi < 64 := by show M.hi - 1 < 64; omega
  have HBD : ∀ W, W = wb.drew → MW w0 W base mb nw C M := fun W e => by rw [e]; exact hb.later ⟨rfl, rfl, rfl, Nat.le_refl _, fun _ _ => rfl⟩
  go_wp2_with fail
  rw [HB.out]
  go_region_held3 (fun w' => w'.cell? ⟨w.heap.size, 0, none⟩ = some (.int .i64 25)) (first | exact KP | exact KP2 | go_keep) (first | (go_at_call 54; (with_reducible refine (HP _ (HBD _ rfl)).mono ?_); rintro e w1 ⟨rfl, o1, m1⟩; have KP : w1.cell? ⟨w.heap.size, 0, none⟩ = some (.int .i64 25) := only_keeps o1 (by omega) b0) | (go_at_call 63; (with_reducible refine (HV _).mono ?_); rintro e w2 ⟨rfl, rfl⟩) | (go_at_call 62; (with_reducible refine (pushW w0 _ base mb nw C (popM M) (singleV 25 (topM M)) m1 hph).mono ?_); rintro e w3 ⟨rfl, o3, m3⟩; have KP2 : w3.cell? ⟨w.heap.size, 0, none⟩ = some (.int .i64 25) := only_keeps o3 (by omega) KP))
  go_wp2
  go_ret
  exact ⟨rfl, fun _ => m3, fun h => absurd rfl h⟩
set_option maxRecDepth 100000 in
set_option maxHeartbeats 4000000 in
theorem do_34 (w0 w : World) (base mb nw : Nat) (C : Nat → Value) (M : Mc) (cl : Cl) (code : Value) (hC : CC C cl code) (a b : Int) (h : MW w0 w base mb nw C M) (hh : 0 < M.hi) (h64 : M.hi ≤ 64) :
    Calls Try.prog 55 #[.pointer (some ⟨mb, 0, none⟩), .agg #[.int .i64 34, .int .i64 a, .int .i64 b]] w fun e w' => e = .returned (.int .i64 0) ∧ RS w0 w' base mb nw C M 0 (pushM (popM M) (singleV 34 (topM M))) := by
  obtain ⟨wb, hwb⟩ : ∃ wb, w.alloc (.cells #[.int .i64 34, .int .i64 a, .int .i64 b] 51) = wb := ⟨_, rfl⟩
  obtain ⟨hbb, hbx, hsz⟩ := inbox w 34 a b wb hwb
  have HB : Hid (w.alloc (.cells #[.int .i64 34, .int .i64 a, .int .i64 b] 51) = wb) := hwb
  have hlt := h.box.lt.1
  have hb := h.later hbb
  clear hwb
  go_enter Try.func55, Try.ntmps55
  obtain ⟨b0, b1, b2⟩ := cells3 hbx
  have HP := fun W hW => popW w0 W base mb nw C M hW hh h64
  have HV := single_any 34 (topM M) (by decide)
  have hph : (popM M).hi < 64 := by show M.hi - 1 < 64; omega
  have HBD : ∀ W, W = wb.drew → MW w0 W base mb nw C M := fun W e => by rw [e]; exact hb.later ⟨rfl, rfl, rfl, Nat.le_refl _, fun _ _ => rfl⟩
  go_wp2_with fail
  rw [HB.out]
  go_region_held3 (fun w' => w'.cell? ⟨w.heap.size, 0, none⟩ = some (.int .i64 34)) (first | exact KP | exact KP2 | go_keep) (first | (go_at_call 54; (with_reducible refine (HP _ (HBD _ rfl)).mono ?_); rintro e w1 ⟨rfl, o1, m1⟩; have KP : w1.cell? ⟨w.heap.size, 0, none⟩ = some (.int .i64 34) := only_keeps o1 (by omega) b0) | (go_at_call 63; (with_reducible refine (HV _).mono ?_); rintro e w2 ⟨rfl, rfl⟩) | (go_at_call 62; (with_reducible refine (pushW w0 _ base mb nw C (popM M) (singleV 34 (topM M)) m1 hph).mono ?_); rintro e w3 ⟨rfl, o3, m3⟩; have KP2 : w3.cell? ⟨w.heap.size, 0, none⟩ = some (.int .i64 34) := only_keeps o3 (by omega) KP))
  go_wp2
  go_ret
  exact ⟨rfl, fun _ => m3, fun h => absurd rfl h⟩
end Go.Proofs.Ytieanhmkcbcdkaa
