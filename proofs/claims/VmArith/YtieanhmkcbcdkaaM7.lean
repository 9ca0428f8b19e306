import Derived.Test.YtieanhmkcbcdkaaM6
namespace Go.Proofs.Ytieanhmkcbcdkaa
open Go.ChangeShapes Go.WideShapes Go.ChangeAt Go.RowKit
set_option linter.unusedVariables false

theorem RS.of {w0 w1 : World} {base mb nw : Nat} {C : Nat → Value} {M : Mc} {f : Int} {M' : Mc} (h : RS w0 w1 base mb nw C M f M') : RS w0 w1 base mb nw C M f M' := h
set_option maxRecDepth 100000 in
set_option maxHeartbeats 4000000 in
theorem do_5 (w0 w : World) (base mb nw : Nat) (C : Nat → Value) (M : Mc) (cl : Cl) (code : Value) (hC : CC C cl code) (a b f : Int) (M' : Mc) (h : MW w0 w base mb nw C M) (HX : ∀ W, MW w0 W base mb nw C M → Calls Try.prog 64 #[.pointer (some ⟨mb, 0, none⟩), .agg #[.int .i64 5, .int .i64 a, .int .i64 b]] W fun e w' => e = .returned (.int .i64 f) ∧ RS w0 w' base mb nw C M f M') :
    Calls Try.prog 55 #[.pointer (some ⟨mb, 0, none⟩), .agg #[.int .i64 5, .int .i64 a, .int .i64 b]] w fun e w' => e = .returned (.int .i64 f) ∧ RS w0 w' base mb nw C M f (M') := by
  obtain ⟨wb, hwb⟩ : ∃ wb, w.alloc (.cells #[.int .i64 5, .int .i64 a, .int .i64 b] 51) = wb := ⟨_, rfl⟩
  obtain ⟨hbb, hbx, hsz⟩ := inbox w 5 a b wb hwb
  have HB : Hid (w.alloc (.cells #[.int .i64 5, .int .i64 a, .int .i64 b] 51) = wb) := hwb
  have hlt := h.box.lt.1
  have hb := h.later hbb
  clear hwb
  go_enter Try.func55, Try.ntmps55
  go_wp2_with ((go_at_call 64; rw [HB.out]; (with_reducible refine (HX _ hb).mono ?_); rintro e w1 ⟨rfl, r1⟩))
  go_ret
  exact ⟨rfl, r1⟩
set_option maxRecDepth 100000 in
set_option maxHeartbeats 4000000 in
theorem do_6 (w0 w : World) (base mb nw : Nat) (C : Nat → Value) (M : Mc) (cl : Cl) (code : Value) (hC : CC C cl code) (a b f : Int) (M' : Mc) (h : MW w0 w base mb nw C M) (HX : ∀ W, MW w0 W base mb nw C M → Calls Try.prog 64 #[.pointer (some ⟨mb, 0, none⟩), .agg #[.int .i64 6, .int .i64 a, .int .i64 b]] W fun e w' => e = .returned (.int .i64 f) ∧ RS w0 w' base mb nw C M f M') :
    Calls Try.prog 55 #[.pointer (some ⟨mb, 0, none⟩), .agg #[.int .i64 6, .int .i64 a, .int .i64 b]] w fun e w' => e = .returned (.int .i64 f) ∧ RS w0 w' base mb nw C M f (M') := by
  obtain ⟨wb, hwb⟩ : ∃ wb, w.alloc (.cells #[.int .i64 6, .int .i64 a, .int .i64 b] 51) = wb := ⟨_, rfl⟩
  obtain ⟨hbb, hbx, hsz⟩ := inbox w 6 a b wb hwb
  have HB : Hid (w.alloc (.cells #[.int .i64 6, .int .i64 a, .int .i64 b] 51) = wb) := hwb
  have hlt := h.box.lt.1
  have hb := h.later hbb
  clear hwb
  go_enter Try.func55, Try.ntmps55
  go_wp2_with ((go_at_call 64; rw [HB.out]; (with_reducible refine (HX _ hb).mono ?_); rintro e w1 ⟨rfl, r1⟩))
  go_ret
  exact ⟨rfl, r1⟩
set_option maxRecDepth 100000 in
set_option maxHeartbeats 4000000 in
theorem do_38 (w0 w : World) (base mb nw : Nat) (C : Nat → Value) (M : Mc) (cl : Cl) (code : Value) (hC : CC C cl code) (a b f : Int) (M' : Mc) (h : MW w0 w base mb nw C M) (HX : ∀ W, MW w0 W base mb nw C M → Calls Try.prog 64 #[.pointer (some ⟨mb, 0, none⟩), .agg #[.int .i64 38, .int .i64 a, .int .i64 b]] W fun e w' => e = .returned (.int .i64 f) ∧ RS w0 w' base mb nw C M f M') :
    Calls Try.prog 55 #[.pointer (some ⟨mb, 0, none⟩), .agg #[.int .i64 38, .int .i64 a, .int .i64 b]] w fun e w' => e = .returned (.int .i64 f) ∧ RS w0 w' base mb nw C M f (M') := by
  obtain ⟨wb, hwb⟩ : ∃ wb, w.alloc (.cells #[.int .i64 38, .int .i64 a, .int .i64 b] 51) = wb := ⟨_, rfl⟩
  obtain ⟨hbb, hbx, hsz⟩ := inbox w 38 a b wb hwb
  have HB : Hid (w.alloc (.cells #[.int .i64 38, .int .i64 a, .int .i64 b] 51) = wb) := hwb
  have hlt := h.box.lt.1
  have hb := h.later hbb
  clear hwb
  go_enter Try.func55, Try.ntmps55
  go_wp2_with ((go_at_call 64; rw [HB.out]; (with_reducible refine (HX _ hb).mono ?_); rintro e w1 ⟨rfl, r1⟩))
  go_ret
  exact ⟨rfl, r1⟩
set_option maxRecDepth 100000 in
set_option maxHeartbeats 4000000 in
theorem do_pair (w0 w : World) (base mb nw : Nat) (C : Nat → Value) (M : Mc) (cl : Cl) (code : Value) (hC : CC C cl code) (o a b : Int) (hO : isPair o) (h : MW w0 w base mb nw C M) (hh : 2 ≤ M.hi) (h64 : M.hi ≤ 64) :
    Calls Try.prog 55 #[.pointer (some ⟨mb, 0, none⟩), .agg #[.int .i64 o, .int .i64 a, .int .i64 b]] w fun e w' => e = .returned (.int .i64 (pairV o (topM (popM M)) (topM M)).2) ∧ RS w0 w' base mb nw C M (pairV o (topM (popM M)) (topM M)).2 (pushM (popM (popM M)) (pairV o (topM (popM M)) (topM M)).1) := by
  obtain ⟨wb, hwb⟩ : ∃ wb, w.alloc (.cells #[.int .i64 o, .int .i64 a, .int .i64 b] 51) = wb := ⟨_, rfl⟩
  obtain ⟨hbb, hbx, hsz⟩ := inbox w o a b wb hwb
  have HB : Hid (w.alloc (.cells #[.int .i64 o, .int .i64 a, .int .i64 b] 51) = wb) := hwb
  have hlt := h.box.lt.1
  have hb := h.later hbb
  clear hwb
  obtain ⟨b0, b1, b2⟩ := cells3 hbx
  have hr : 0 ≤ o ∧ o < 42 := by unfold isPair at hO; omega
  obtain ⟨ok, hok⟩ : ∃ ok : Nat, o = (ok : Int) := ⟨o.toNat, by omega⟩
  have hpc : C (13 + ok) = .func (.func (pairF o)) #[] #[] := by
    have := hC.pair o hO
    rw [show o.toNat = ok by omega] at this
    exact this
  have cpair := hb.fix (k := 13 + ok) (by omega) hpc
  have i0 : (0 : Int) ≤ (ok : Int) := by omega
  have i1 : (ok : Int) < 42 := by omega
  have hn1 : M.wv.ownBlock ≠ some w.heap.size := by
    rcases h.wr.form with ⟨h1, h2⟩ | ⟨g, c, h1, h2, h3⟩
    · rw [h1]; intro e; cases e
    · rw [h1]; intro e; have : g = w.heap.size := by simpa [Value.ownBlock] using e
      omega
  have hn2 : M.ov.ownBlock ≠ some w.heap.size := by
    rcases h.out.form with ⟨h1, h2⟩ | ⟨g, c, h1, h2, h3⟩
    · rw [h1]; intro e; cases e
    · rw [h1]; intro e; have : g = w.heap.size := by simpa [Value.ownBlock] using e
      omega
  have HBD : ∀ W, W = wb.drew → MW w0 W base mb nw C M := fun W e => by rw [e]; exact hb.later ⟨rfl, rfl, rfl, Nat.le_refl _, fun _ _ => rfl⟩
  have HP := fun W hW => pair_any w0 W base mb nw C M o hO hW hh h64
  have ne : ∀ x : Int, (∀ y, isPair y → y ≠ x) → (o == x) = false := fun x hx => by simpa using hx o hO
  have n1 := ne 1 (fun y hy => by unfold isPair at hy; omega)
  have n2 := ne 2 (fun y hy => by unfold isPair at hy; omega)
  have n3 := ne 3 (fun y hy => by unfold isPair at hy; omega)
  have n4 := ne 4 (fun y hy => by unfold isPair at hy; omega)
  have n7 := ne 7 (fun y hy => by unfold isPair at hy; omega)
  have n8 := ne 8 (fun y hy => by unfold isPair at hy; omega)
  have n9 := ne 9 (fun y hy => by unfold isPair at hy; omega)
  have n10 := ne 10 (fun y hy => by unfold isPair at hy; omega)
  have n11 := ne 11 (fun y hy => by unfold isPair at hy; omega)
  have n12 := ne 12 (fun y hy => by unfold isPair at hy; omega)
  have n23 := ne 23 (fun y hy => by unfold isPair at hy; omega)
  have n24 := ne 24 (fun y hy => by unfold isPair at hy; omega)
  have n25 := ne 25 (fun y hy => by unfold isPair at hy; omega)
  have n34 := ne 34 (fun y hy => by unfold isPair at hy; omega)
  have n5 := ne 5 (fun y hy => by unfold isPair at hy; omega)
  have n6 := ne 6 (fun y hy => by unfold isPair at hy; omega)
  have n38 := ne 38 (fun y hy => by unfold isPair at hy; omega)
  have n37 := ne 37 (fun y hy => by unfold isPair at hy; omega)
  have n41 := ne 41 (fun y hy => by unfold isPair at hy; omega)
  have n39 := ne 39 (fun y hy => by unfold isPair at hy; omega)
  have n40 := ne 40 (fun y hy => by unfold isPair at hy; omega)
  clear ne hO hr
  generalize pairV o (topM (popM M)) (topM M) = pv at HP ⊢
  generalize pairF o = pf at HP cpair hpc
  subst hok
  go_enter Try.func55, Try.ntmps55
  go_wp2_with fail
  rw [HB.out]
  go_region_held3 (fun w' => w'.cell? ⟨w.heap.size, 0, none⟩ = some (.int .i64 (ok : Int)) ∧ w'.cell? ⟨mb, 13 + ok, none⟩ = some (.func (.func pf) #[] #[])) (first | exact KP | go_keep) ((go_at_call 68; (with_reducible refine (HP _ (HBD _ rfl)).mono ?_); rintro e w1 ⟨rfl, f1, m1⟩; have KP : w1.cell? ⟨w.heap.size, 0, none⟩ = some (.int .i64 (ok : Int)) ∧ w1.cell? ⟨mb, 13 + ok, none⟩ = some (.func (.func pf) #[] #[]) := ⟨(World.cell?_of_block (f1.far w.heap.size (by show w.heap.size < wb.drew.heap.size; show w.heap.size < wb.heap.size; omega) (by omega) hn1 hn2)).trans b0, m1.fix (by omega) hpc⟩))
  go_wp2
  go_ret
  exact ⟨rfl, fun _ => m1, fun _ => ⟨_, m1, rfl⟩⟩
end Go.Proofs.Ytieanhmkcbcdkaa
