import Derived.Test.YtkgifanlodlilaaSV2
namespace Go.Proofs.Ytkgifanlodlilaa
open Go.ChangeShapes Go.WideShapes Go.ChangeAt Go.RowKit
set_option linter.unusedVariables false
set_option linter.unusedSimpArgs false

theorem callB {f : Nat} {args : Array Value} {w : World} {G : Prop} {b0 : Bool} (h : Calls Try.prog f args w fun e w' => ∃ b, e = .returned (.bool b) ∧ (b = true ↔ G) ∧ Below w.heap.size w w') (hb : b0 = true ↔ G) : Calls Try.prog f args w fun e w' => e = .returned (.bool b0) ∧ Below w.heap.size w w' := h.mono (by
  rintro e w' ⟨b, rfl, h1, h2⟩
  have : b = b0 := by
    have h3 := h1.trans hb.symm
    cases b <;> cases b0 <;> simp at h3 <;> rfl
  subst this
  exact ⟨rfl, h2⟩)
set_option maxRecDepth 100000 in
set_option maxHeartbeats 4000000 in
theorem valid_any (p : Pl) (v : PlV) (w : World) (h : PlAt w p v) : Calls Try.prog 13 #[.agg #[.int .i64 p.ki, .slice v.pp p.np v.pc, .slice v.tp p.nq v.tc, .slice v.sp p.ns v.sc, .int .u64 p.sd, .int .u64 p.lk, .int .u64 p.en, .int .i64 p.bu, .int .i64 p.fu]] w fun e w' => ∃ c, e = .returned (.int .i64 c) ∧ VC p c ∧ Below w.heap.size w w' := by
  obtain ⟨wb, hwb⟩ : ∃ wb, w.alloc (.cells #[.int .i64 p.ki, .slice v.pp p.np v.pc, .slice v.tp p.nq v.tc, .slice v.sp p.ns v.sc, .int .u64 p.sd, .int .u64 p.lk, .int .u64 p.en, .int .i64 p.bu, .int .i64 p.fu] 27) = wb := ⟨_, rfl⟩
  obtain ⟨hb0, hbox, hsz⟩ := boxed _ _ _ hwb
  have HW : Hid (w.alloc (.cells #[.int .i64 p.ki, .slice v.pp p.np v.pc, .slice v.tp p.nq v.tc, .slice v.sp p.ns v.sc, .int .u64 p.sd, .int .u64 p.lk, .int .u64 p.en, .int .i64 p.bu, .int .i64 p.fu] 27) = wb) := hwb
  have HP : Hid (PlAt wb p v) := h.below hb0
  clear h
  obtain ⟨⟨c0, c1, c2, c3⟩, c4, c5, c6, c7, c8⟩ := cells9 hbox
  rw [← hwb] at c0 c1 c2 c3 c4 c5 c6 c7 c8
  clear hwb
  have hc0 : True := trivial
  by_cases hki : p.ki < 0 ∨ 32 < p.ki
  · by_cases hk0 : p.ki < 0
    · have k0 : decide (p.ki < 0) = true := by simp; omega
      have HV : Hid (VC p 126) := .inl ⟨hki, rfl⟩
      clear hc0
      go_enter Try.func13, Try.ntmps13
      go_wp2_with (first | (go_at_call 22; rw [HW.out]; (with_reducible refine (HG wb (Below.refl _ _)).out.mono ?_); rintro e w1 ⟨rfl, hb1⟩; obtain ⟨⟨c0, c1, c2, c3⟩, c4, c5, c6, c7, c8⟩ := cells9 ((hb1.block _ (by omega)).trans hbox)) | (go_at_call 23; (with_reducible refine (HT w1 hb1).out.mono ?_); rintro e w2 ⟨rfl, hb2'⟩; have hb2 : Below wb.heap.size wb w2 := hb1.trans (hb2'.mono hb1.size); obtain ⟨⟨c0, c1, c2, c3⟩, c4, c5, c6, c7, c8⟩ := cells9 ((hb2.block _ (by omega)).trans hbox)) | (go_at_call 24; (with_reducible refine (HS w2 hb2).out.mono ?_); rintro e w3 ⟨rfl, hb3'⟩; have hb3 : Below wb.heap.size wb w3 := hb2.trans (hb3'.mono hb2.size); obtain ⟨⟨c0, c1, c2, c3⟩, c4, c5, c6, c7, c8⟩ := cells9 ((hb3.block _ (by omega)).trans hbox)))
      go_ret
      first | (refine ⟨_, rfl, HV.out, ?_⟩; first | exact hb0.trans (hb3.mono hb0.size) | exact hb0.trans (hb2.mono hb0.size) | exact hb0.trans (hb1.mono hb0.size) | (rw [HW.out]; exact hb0))
    · have k0 : decide (p.ki < 0) = false := by simp; omega
      have k1 : decide ((32 : Int) < p.ki) = true := by simp; omega
      have HV : Hid (VC p 126) := .inl ⟨hki, rfl⟩
      clear hc0
      go_enter Try.func13, Try.ntmps13
      go_wp2_with (first | (go_at_call 22; rw [HW.out]; (with_reducible refine (HG wb (Below.refl _ _)).out.mono ?_); rintro e w1 ⟨rfl, hb1⟩; obtain ⟨⟨c0, c1, c2, c3⟩, c4, c5, c6, c7, c8⟩ := cells9 ((hb1.block _ (by omega)).trans hbox)) | (go_at_call 23; (with_reducible refine (HT w1 hb1).out.mono ?_); rintro e w2 ⟨rfl, hb2'⟩; have hb2 : Below wb.heap.size wb w2 := hb1.trans (hb2'.mono hb1.size); obtain ⟨⟨c0, c1, c2, c3⟩, c4, c5, c6, c7, c8⟩ := cells9 ((hb2.block _ (by omega)).trans hbox)) | (go_at_call 24; (with_reducible refine (HS w2 hb2).out.mono ?_); rintro e w3 ⟨rfl, hb3'⟩; have hb3 : Below wb.heap.size wb w3 := hb2.trans (hb3'.mono hb2.size); obtain ⟨⟨c0, c1, c2, c3⟩, c4, c5, c6, c7, c8⟩ := cells9 ((hb3.block _ (by omega)).trans hbox)))
      go_ret
      first | (refine ⟨_, rfl, HV.out, ?_⟩; first | exact hb0.trans (hb3.mono hb0.size) | exact hb0.trans (hb2.mono hb0.size) | exact hb0.trans (hb1.mono hb0.size) | (rw [HW.out]; exact hb0))
  have k0 : decide (p.ki < 0) = false := by simp; omega
  have k1 : decide ((32 : Int) < p.ki) = false := by simp; omega
  by_cases hGP : GP p
  case neg =>
    have HV : Hid (VC p 120) := .inr ⟨hki, .inl ⟨hGP, rfl⟩⟩
    clear hc0
    have HG : ∀ w', Below wb.heap.size wb w' → Hid (Calls Try.prog 22 #[.agg #[.int .i64 p.ki, .slice v.pp p.np v.pc, .slice v.tp p.nq v.tc, .slice v.sp p.ns v.sc, .int .u64 p.sd, .int .u64 p.lk, .int .u64 p.en, .int .i64 p.bu, .int .i64 p.fu]] w' fun e w9 => e = .returned (.bool false) ∧ Below w'.heap.size w' w9) := fun w' hb => callB (progsFit_any p v w' (HP.out.below hb)) ⟨fun e => (by cases e), fun e => absurd e hGP⟩
    go_enter Try.func13, Try.ntmps13
    go_wp2_with (first | (go_at_call 22; rw [HW.out]; (with_reducible refine (HG wb (Below.refl _ _)).out.mono ?_); rintro e w1 ⟨rfl, hb1⟩; obtain ⟨⟨c0, c1, c2, c3⟩, c4, c5, c6, c7, c8⟩ := cells9 ((hb1.block _ (by omega)).trans hbox)) | (go_at_call 23; (with_reducible refine (HT w1 hb1).out.mono ?_); rintro e w2 ⟨rfl, hb2'⟩; have hb2 : Below wb.heap.size wb w2 := hb1.trans (hb2'.mono hb1.size); obtain ⟨⟨c0, c1, c2, c3⟩, c4, c5, c6, c7, c8⟩ := cells9 ((hb2.block _ (by omega)).trans hbox)) | (go_at_call 24; (with_reducible refine (HS w2 hb2).out.mono ?_); rintro e w3 ⟨rfl, hb3'⟩; have hb3 : Below wb.heap.size wb w3 := hb2.trans (hb3'.mono hb2.size); obtain ⟨⟨c0, c1, c2, c3⟩, c4, c5, c6, c7, c8⟩ := cells9 ((hb3.block _ (by omega)).trans hbox)))
    go_ret
    first | (refine ⟨_, rfl, HV.out, ?_⟩; first | exact hb0.trans (hb3.mono hb0.size) | exact hb0.trans (hb2.mono hb0.size) | exact hb0.trans (hb1.mono hb0.size) | (rw [HW.out]; exact hb0))
  by_cases hGT : GT p
  case neg =>
    have HV : Hid (VC p 121) := .inr ⟨hki, .inr ⟨hGP, .inl ⟨hGT, rfl⟩⟩⟩
    clear hc0
    have HG : ∀ w', Below wb.heap.size wb w' → Hid (Calls Try.prog 22 #[.agg #[.int .i64 p.ki, .slice v.pp p.np v.pc, .slice v.tp p.nq v.tc, .slice v.sp p.ns v.sc, .int .u64 p.sd, .int .u64 p.lk, .int .u64 p.en, .int .i64 p.bu, .int .i64 p.fu]] w' fun e w9 => e = .returned (.bool true) ∧ Below w'.heap.size w' w9) := fun w' hb => callB (progsFit_any p v w' (HP.out.below hb)) ⟨fun _ => hGP, fun _ => rfl⟩
    have HT : ∀ w', Below wb.heap.size wb w' → Hid (Calls Try.prog 23 #[.agg #[.int .i64 p.ki, .slice v.pp p.np v.pc, .slice v.tp p.nq v.tc, .slice v.sp p.ns v.sc, .int .u64 p.sd, .int .u64 p.lk, .int .u64 p.en, .int .i64 p.bu, .int .i64 p.fu]] w' fun e w9 => e = .returned (.bool false) ∧ Below w'.heap.size w' w9) := fun w' hb => callB (partsFit_any p v w' (HP.out.below hb)) ⟨fun e => (by cases e), fun e => absurd e hGT⟩
    go_enter Try.func13, Try.ntmps13
    go_wp2_with (first | (go_at_call 22; rw [HW.out]; (with_reducible refine (HG wb (Below.refl _ _)).out.mono ?_); rintro e w1 ⟨rfl, hb1⟩; obtain ⟨⟨c0, c1, c2, c3⟩, c4, c5, c6, c7, c8⟩ := cells9 ((hb1.block _ (by omega)).trans hbox)) | (go_at_call 23; (with_reducible refine (HT w1 hb1).out.mono ?_); rintro e w2 ⟨rfl, hb2'⟩; have hb2 : Below wb.heap.size wb w2 := hb1.trans (hb2'.mono hb1.size); obtain ⟨⟨c0, c1, c2, c3⟩, c4, c5, c6, c7, c8⟩ := cells9 ((hb2.block _ (by omega)).trans hbox)) | (go_at_call 24; (with_reducible refine (HS w2 hb2).out.mono ?_); rintro e w3 ⟨rfl, hb3'⟩; have hb3 : Below wb.heap.size wb w3 := hb2.trans (hb3'.mono hb2.size); obtain ⟨⟨c0, c1, c2, c3⟩, c4, c5, c6, c7, c8⟩ := cells9 ((hb3.block _ (by omega)).trans hbox)))
    go_ret
    first | (refine ⟨_, rfl, HV.out, ?_⟩; first | exact hb0.trans (hb3.mono hb0.size) | exact hb0.trans (hb2.mono hb0.size) | exact hb0.trans (hb1.mono hb0.size) | (rw [HW.out]; exact hb0))
  by_cases hGS : GS p
  case neg =>
    have HV : Hid (VC p 122) := .inr ⟨hki, .inr ⟨hGP, .inr ⟨hGT, .inl ⟨hGS, rfl⟩⟩⟩⟩
    clear hc0
    have HG : ∀ w', Below wb.heap.size wb w' → Hid (Calls Try.prog 22 #[.agg #[.int .i64 p.ki, .slice v.pp p.np v.pc, .slice v.tp p.nq v.tc, .slice v.sp p.ns v.sc, .int .u64 p.sd, .int .u64 p.lk, .int .u64 p.en, .int .i64 p.bu, .int .i64 p.fu]] w' fun e w9 => e = .returned (.bool true) ∧ Below w'.heap.size w' w9) := fun w' hb => callB (progsFit_any p v w' (HP.out.below hb)) ⟨fun _ => hGP, fun _ => rfl⟩
    have HT : ∀ w', Below wb.heap.size wb w' → Hid (Calls Try.prog 23 #[.agg #[.int .i64 p.ki, .slice v.pp p.np v.pc, .slice v.tp p.nq v.tc, .slice v.sp p.ns v.sc, .int .u64 p.sd, .int .u64 p.lk, .int .u64 p.en, .int .i64 p.bu, .int .i64 p.fu]] w' fun e w9 => e = .returned (.bool true) ∧ Below w'.heap.size w' w9) := fun w' hb => callB (partsFit_any p v w' (HP.out.below hb)) ⟨fun _ => hGT, fun _ => rfl⟩
    have HS : ∀ w', Below wb.heap.size wb w' → Hid (Calls Try.prog 24 #[.agg #[.int .i64 p.ki, .slice v.pp p.np v.pc, .slice v.tp p.nq v.tc, .slice v.sp p.ns v.sc, .int .u64 p.sd, .int .u64 p.lk, .int .u64 p.en, .int .i64 p.bu, .int .i64 p.fu]] w' fun e w9 => e = .returned (.bool false) ∧ Below w'.heap.size w' w9) := fun w' hb => callB (startsFit_any p v w' (HP.out.below hb)) ⟨fun e => (by cases e), fun e => absurd e hGS⟩
    go_enter Try.func13, Try.ntmps13
    go_wp2_with (first | (go_at_call 22; rw [HW.out]; (with_reducible refine (HG wb (Below.refl _ _)).out.mono ?_); rintro e w1 ⟨rfl, hb1⟩; obtain ⟨⟨c0, c1, c2, c3⟩, c4, c5, c6, c7, c8⟩ := cells9 ((hb1.block _ (by omega)).trans hbox)) | (go_at_call 23; (with_reducible refine (HT w1 hb1).out.mono ?_); rintro e w2 ⟨rfl, hb2'⟩; have hb2 : Below wb.heap.size wb w2 := hb1.trans (hb2'.mono hb1.size); obtain ⟨⟨c0, c1, c2, c3⟩, c4, c5, c6, c7, c8⟩ := cells9 ((hb2.block _ (by omega)).trans hbox)) | (go_at_call 24; (with_reducible refine (HS w2 hb2).out.mono ?_); rintro e w3 ⟨rfl, hb3'⟩; have hb3 : Below wb.heap.size wb w3 := hb2.trans (hb3'.mono hb2.size); obtain ⟨⟨c0, c1, c2, c3⟩, c4, c5, c6, c7, c8⟩ := cells9 ((hb3.block _ (by omega)).trans hbox)))
    go_ret
    first | (refine ⟨_, rfl, HV.out, ?_⟩; first | exact hb0.trans (hb3.mono hb0.size) | exact hb0.trans (hb2.mono hb0.size) | exact hb0.trans (hb1.mono hb0.size) | (rw [HW.out]; exact hb0))
  by_cases hlk : p.lk = 0
  case pos =>
    have l0 : (p.lk == 0) = true := by simpa using hlk
    have HV : Hid (VC p 123) := .inr ⟨hki, .inr ⟨hGP, .inr ⟨hGT, .inr ⟨hGS, .inl ⟨hlk, rfl⟩⟩⟩⟩⟩
    clear hc0 hlk
    have HG : ∀ w', Below wb.heap.size wb w' → Hid (Calls Try.prog 22 #[.agg #[.int .i64 p.ki, .slice v.pp p.np v.pc, .slice v.tp p.nq v.tc, .slice v.sp p.ns v.sc, .int .u64 p.sd, .int .u64 p.lk, .int .u64 p.en, .int .i64 p.bu, .int .i64 p.fu]] w' fun e w9 => e = .returned (.bool true) ∧ Below w'.heap.size w' w9) := fun w' hb => callB (progsFit_any p v w' (HP.out.below hb)) ⟨fun _ => hGP, fun _ => rfl⟩
    have HT : ∀ w', Below wb.heap.size wb w' → Hid (Calls Try.prog 23 #[.agg #[.int .i64 p.ki, .slice v.pp p.np v.pc, .slice v.tp p.nq v.tc, .slice v.sp p.ns v.sc, .int .u64 p.sd, .int .u64 p.lk, .int .u64 p.en, .int .i64 p.bu, .int .i64 p.fu]] w' fun e w9 => e = .returned (.bool true) ∧ Below w'.heap.size w' w9) := fun w' hb => callB (partsFit_any p v w' (HP.out.below hb)) ⟨fun _ => hGT, fun _ => rfl⟩
    have HS : ∀ w', Below wb.heap.size wb w' → Hid (Calls Try.prog 24 #[.agg #[.int .i64 p.ki, .slice v.pp p.np v.pc, .slice v.tp p.nq v.tc, .slice v.sp p.ns v.sc, .int .u64 p.sd, .int .u64 p.lk, .int .u64 p.en, .int .i64 p.bu, .int .i64 p.fu]] w' fun e w9 => e = .returned (.bool true) ∧ Below w'.heap.size w' w9) := fun w' hb => callB (startsFit_any p v w' (HP.out.below hb)) ⟨fun _ => hGS, fun _ => rfl⟩
    go_enter Try.func13, Try.ntmps13
    go_wp2_with (first | (go_at_call 22; rw [HW.out]; (with_reducible refine (HG wb (Below.refl _ _)).out.mono ?_); rintro e w1 ⟨rfl, hb1⟩; obtain ⟨⟨c0, c1, c2, c3⟩, c4, c5, c6, c7, c8⟩ := cells9 ((hb1.block _ (by omega)).trans hbox)) | (go_at_call 23; (with_reducible refine (HT w1 hb1).out.mono ?_); rintro e w2 ⟨rfl, hb2'⟩; have hb2 : Below wb.heap.size wb w2 := hb1.trans (hb2'.mono hb1.size); obtain ⟨⟨c0, c1, c2, c3⟩, c4, c5, c6, c7, c8⟩ := cells9 ((hb2.block _ (by omega)).trans hbox)) | (go_at_call 24; (with_reducible refine (HS w2 hb2).out.mono ?_); rintro e w3 ⟨rfl, hb3'⟩; have hb3 : Below wb.heap.size wb w3 := hb2.trans (hb3'.mono hb2.size); obtain ⟨⟨c0, c1, c2, c3⟩, c4, c5, c6, c7, c8⟩ := cells9 ((hb3.block _ (by omega)).trans hbox)))
    go_ret
    first | (refine ⟨_, rfl, HV.out, ?_⟩; first | exact hb0.trans (hb3.mono hb0.size) | exact hb0.trans (hb2.mono hb0.size) | exact hb0.trans (hb1.mono hb0.size) | (rw [HW.out]; exact hb0))
  have l0 : (p.lk == 0) = false := by simpa using hlk
  by_cases hbu : p.bu < 0 ∨ 4096 < p.bu
  · by_cases hb9 : p.bu < 0
    · have b0 : decide (p.bu < 0) = true := by simp; omega
      have HV : Hid (VC p 124) := .inr ⟨hki, .inr ⟨hGP, .inr ⟨hGT, .inr ⟨hGS, .inr ⟨hlk, .inl ⟨hbu, rfl⟩⟩⟩⟩⟩⟩
      clear hc0
      have HG : ∀ w', Below wb.heap.size wb w' → Hid (Calls Try.prog 22 #[.agg #[.int .i64 p.ki, .slice v.pp p.np v.pc, .slice v.tp p.nq v.tc, .slice v.sp p.ns v.sc, .int .u64 p.sd, .int .u64 p.lk, .int .u64 p.en, .int .i64 p.bu, .int .i64 p.fu]] w' fun e w9 => e = .returned (.bool true) ∧ Below w'.heap.size w' w9) := fun w' hb => callB (progsFit_any p v w' (HP.out.below hb)) ⟨fun _ => hGP, fun _ => rfl⟩
      have HT : ∀ w', Below wb.heap.size wb w' → Hid (Calls Try.prog 23 #[.agg #[.int .i64 p.ki, .slice v.pp p.np v.pc, .slice v.tp p.nq v.tc, .slice v.sp p.ns v.sc, .int .u64 p.sd, .int .u64 p.lk, .int .u64 p.en, .int .i64 p.bu, .int .i64 p.fu]] w' fun e w9 => e = .returned (.bool true) ∧ Below w'.heap.size w' w9) := fun w' hb => callB (partsFit_any p v w' (HP.out.below hb)) ⟨fun _ => hGT, fun _ => rfl⟩
      have HS : ∀ w', Below wb.heap.size wb w' → Hid (Calls Try.prog 24 #[.agg #[.int .i64 p.ki, .slice v.pp p.np v.pc, .slice v.tp p.nq v.tc, .slice v.sp p.ns v.sc, .int .u64 p.sd, .int .u64 p.lk, .int .u64 p.en, .int .i64 p.bu, .int .i64 p.fu]] w' fun e w9 => e = .returned (.bool true) ∧ Below w'.heap.size w' w9) := fun w' hb => callB (startsFit_any p v w' (HP.out.below hb)) ⟨fun _ => hGS, fun _ => rfl⟩
      go_enter Try.func13, Try.ntmps13
      go_wp2_with (first | (go_at_call 22; rw [HW.out]; (with_reducible refine (HG wb (Below.refl _ _)).out.mono ?_); rintro e w1 ⟨rfl, hb1⟩; obtain ⟨⟨c0, c1, c2, c3⟩, c4, c5, c6, c7, c8⟩ := cells9 ((hb1.block _ (by omega)).trans hbox)) | (go_at_call 23; (with_reducible refine (HT w1 hb1).out.mono ?_); rintro e w2 ⟨rfl, hb2'⟩; have hb2 : Below wb.heap.size wb w2 := hb1.trans (hb2'.mono hb1.size); obtain ⟨⟨c0, c1, c2, c3⟩, c4, c5, c6, c7, c8⟩ := cells9 ((hb2.block _ (by omega)).trans hbox)) | (go_at_call 24; (with_reducible refine (HS w2 hb2).out.mono ?_); rintro e w3 ⟨rfl, hb3'⟩; have hb3 : Below wb.heap.size wb w3 := hb2.trans (hb3'.mono hb2.size); obtain ⟨⟨c0, c1, c2, c3⟩, c4, c5, c6, c7, c8⟩ := cells9 ((hb3.block _ (by omega)).trans hbox)))
      go_ret
      first | (refine ⟨_, rfl, HV.out, ?_⟩; first | exact hb0.trans (hb3.mono hb0.size) | exact hb0.trans (hb2.mono hb0.size) | exact hb0.trans (hb1.mono hb0.size) | (rw [HW.out]; exact hb0))
    · have b0 : decide (p.bu < 0) = false := by simp; omega
      have b1 : decide ((4096 : Int) < p.bu) = true := by simp; omega
      have HV : Hid (VC p 124) := .inr ⟨hki, .inr ⟨hGP, .inr ⟨hGT, .inr ⟨hGS, .inr ⟨hlk, .inl ⟨hbu, rfl⟩⟩⟩⟩⟩⟩
      clear hc0
      have HG : ∀ w', Below wb.heap.size wb w' → Hid (Calls Try.prog 22 #[.agg #[.int .i64 p.ki, .slice v.pp p.np v.pc, .slice v.tp p.nq v.tc, .slice v.sp p.ns v.sc, .int .u64 p.sd, .int .u64 p.lk, .int .u64 p.en, .int .i64 p.bu, .int .i64 p.fu]] w' fun e w9 => e = .returned (.bool true) ∧ Below w'.heap.size w' w9) := fun w' hb => callB (progsFit_any p v w' (HP.out.below hb)) ⟨fun _ => hGP, fun _ => rfl⟩
      have HT : ∀ w', Below wb.heap.size wb w' → Hid (Calls Try.prog 23 #[.agg #[.int .i64 p.ki, .slice v.pp p.np v.pc, .slice v.tp p.nq v.tc, .slice v.sp p.ns v.sc, .int .u64 p.sd, .int .u64 p.lk, .int .u64 p.en, .int .i64 p.bu, .int .i64 p.fu]] w' fun e w9 => e = .returned (.bool true) ∧ Below w'.heap.size w' w9) := fun w' hb => callB (partsFit_any p v w' (HP.out.below hb)) ⟨fun _ => hGT, fun _ => rfl⟩
      have HS : ∀ w', Below wb.heap.size wb w' → Hid (Calls Try.prog 24 #[.agg #[.int .i64 p.ki, .slice v.pp p.np v.pc, .slice v.tp p.nq v.tc, .slice v.sp p.ns v.sc, .int .u64 p.sd, .int .u64 p.lk, .int .u64 p.en, .int .i64 p.bu, .int .i64 p.fu]] w' fun e w9 => e = .returned (.bool true) ∧ Below w'.heap.size w' w9) := fun w' hb => callB (startsFit_any p v w' (HP.out.below hb)) ⟨fun _ => hGS, fun _ => rfl⟩
      go_enter Try.func13, Try.ntmps13
      go_wp2_with (first | (go_at_call 22; rw [HW.out]; (with_reducible refine (HG wb (Below.refl _ _)).out.mono ?_); rintro e w1 ⟨rfl, hb1⟩; obtain ⟨⟨c0, c1, c2, c3⟩, c4, c5, c6, c7, c8⟩ := cells9 ((hb1.block _ (by omega)).trans hbox)) | (go_at_call 23; (with_reducible refine (HT w1 hb1).out.mono ?_); rintro e w2 ⟨rfl, hb2'⟩; have hb2 : Below wb.heap.size wb w2 := hb1.trans (hb2'.mono hb1.size); obtain ⟨⟨c0, c1, c2, c3⟩, c4, c5, c6, c7, c8⟩ := cells9 ((hb2.block _ (by omega)).trans hbox)) | (go_at_call 24; (with_reducible refine (HS w2 hb2).out.mono ?_); rintro e w3 ⟨rfl, hb3'⟩; have hb3 : Below wb.heap.size wb w3 := hb2.trans (hb3'.mono hb2.size); obtain ⟨⟨c0, c1, c2, c3⟩, c4, c5, c6, c7, c8⟩ := cells9 ((hb3.block _ (by omega)).trans hbox)))
      go_ret
      first | (refine ⟨_, rfl, HV.out, ?_⟩; first | exact hb0.trans (hb3.mono hb0.size) | exact hb0.trans (hb2.mono hb0.size) | exact hb0.trans (hb1.mono hb0.size) | (rw [HW.out]; exact hb0))
  have b0 : decide (p.bu < 0) = false := by simp; omega
  have b1 : decide ((4096 : Int) < p.bu) = false := by simp; omega
  by_cases hfu : p.fu < 1 ∨ 4096 < p.fu
  · by_cases hf9 : p.fu < 1
    · have f0 : decide (p.fu < 1) = true := by simp; omega
      have HV : Hid (VC p 125) := .inr ⟨hki, .inr ⟨hGP, .inr ⟨hGT, .inr ⟨hGS, .inr ⟨hlk, .inr ⟨hbu, .inl ⟨hfu, rfl⟩⟩⟩⟩⟩⟩⟩
      clear hc0
      have HG : ∀ w', Below wb.heap.size wb w' → Hid (Calls Try.prog 22 #[.agg #[.int .i64 p.ki, .slice v.pp p.np v.pc, .slice v.tp p.nq v.tc, .slice v.sp p.ns v.sc, .int .u64 p.sd, .int .u64 p.lk, .int .u64 p.en, .int .i64 p.bu, .int .i64 p.fu]] w' fun e w9 => e = .returned (.bool true) ∧ Below w'.heap.size w' w9) := fun w' hb => callB (progsFit_any p v w' (HP.out.below hb)) ⟨fun _ => hGP, fun _ => rfl⟩
      have HT : ∀ w', Below wb.heap.size wb w' → Hid (Calls Try.prog 23 #[.agg #[.int .i64 p.ki, .slice v.pp p.np v.pc, .slice v.tp p.nq v.tc, .slice v.sp p.ns v.sc, .int .u64 p.sd, .int .u64 p.lk, .int .u64 p.en, .int .i64 p.bu, .int .i64 p.fu]] w' fun e w9 => e = .returned (.bool true) ∧ Below w'.heap.size w' w9) := fun w' hb => callB (partsFit_any p v w' (HP.out.below hb)) ⟨fun _ => hGT, fun _ => rfl⟩
      have HS : ∀ w', Below wb.heap.size wb w' → Hid (Calls Try.prog 24 #[.agg #[.int .i64 p.ki, .slice v.pp p.np v.pc, .slice v.tp p.nq v.tc, .slice v.sp p.ns v.sc, .int .u64 p.sd, .int .u64 p.lk, .int .u64 p.en, .int .i64 p.bu, .int .i64 p.fu]] w' fun e w9 => e = .returned (.bool true) ∧ Below w'.heap.size w' w9) := fun w' hb => callB (startsFit_any p v w' (HP.out.below hb)) ⟨fun _ => hGS, fun _ => rfl⟩
      go_enter Try.func13, Try.ntmps13
      go_wp2_with (first | (go_at_call 22; rw [HW.out]; (with_reducible refine (HG wb (Below.refl _ _)).out.mono ?_); rintro e w1 ⟨rfl, hb1⟩; obtain ⟨⟨c0, c1, c2, c3⟩, c4, c5, c6, c7, c8⟩ := cells9 ((hb1.block _ (by omega)).trans hbox)) | (go_at_call 23; (with_reducible refine (HT w1 hb1).out.mono ?_); rintro e w2 ⟨rfl, hb2'⟩; have hb2 : Below wb.heap.size wb w2 := hb1.trans (hb2'.mono hb1.size); obtain ⟨⟨c0, c1, c2, c3⟩, c4, c5, c6, c7, c8⟩ := cells9 ((hb2.block _ (by omega)).trans hbox)) | (go_at_call 24; (with_reducible refine (HS w2 hb2).out.mono ?_); rintro e w3 ⟨rfl, hb3'⟩; have hb3 : Below wb.heap.size wb w3 := hb2.trans (hb3'.mono hb2.size); obtain ⟨⟨c0, c1, c2, c3⟩, c4, c5, c6, c7, c8⟩ := cells9 ((hb3.block _ (by omega)).trans hbox)))
      go_ret
      first | (refine ⟨_, rfl, HV.out, ?_⟩; first | exact hb0.trans (hb3.mono hb0.size) | exact hb0.trans (hb2.mono hb0.size) | exact hb0.trans (hb1.mono hb0.size) | (rw [HW.out]; exact hb0))
    · have f0 : decide (p.fu < 1) = false := by simp; omega
      have f1 : decide ((4096 : Int) < p.fu) = true := by simp; omega
      have HV : Hid (VC p 125) := .inr ⟨hki, .inr ⟨hGP, .inr ⟨hGT, .inr ⟨hGS, .inr ⟨hlk, .inr ⟨hbu, .inl ⟨hfu, rfl⟩⟩⟩⟩⟩⟩⟩
      clear hc0
      have HG : ∀ w', Below wb.heap.size wb w' → Hid (Calls Try.prog 22 #[.agg #[.int .i64 p.ki, .slice v.pp p.np v.pc, .slice v.tp p.nq v.tc, .slice v.sp p.ns v.sc, .int .u64 p.sd, .int .u64 p.lk, .int .u64 p.en, .int .i64 p.bu, .int .i64 p.fu]] w' fun e w9 => e = .returned (.bool true) ∧ Below w'.heap.size w' w9) := fun w' hb => callB (progsFit_any p v w' (HP.out.below hb)) ⟨fun _ => hGP, fun _ => rfl⟩
      have HT : ∀ w', Below wb.heap.size wb w' → Hid (Calls Try.prog 23 #[.agg #[.int .i64 p.ki, .slice v.pp p.np v.pc, .slice v.tp p.nq v.tc, .slice v.sp p.ns v.sc, .int .u64 p.sd, .int .u64 p.lk, .int .u64 p.en, .int .i64 p.bu, .int .i64 p.fu]] w' fun e w9 => e = .returned (.bool true) ∧ Below w'.heap.size w' w9) := fun w' hb => callB (partsFit_any p v w' (HP.out.below hb)) ⟨fun _ => hGT, fun _ => rfl⟩
      have HS : ∀ w', Below wb.heap.size wb w' → Hid (Calls Try.prog 24 #[.agg #[.int .i64 p.ki, .slice v.pp p.np v.pc, .slice v.tp p.nq v.tc, .slice v.sp p.ns v.sc, .int .u64 p.sd, .int .u64 p.lk, .int .u64 p.en, .int .i64 p.bu, .int .i64 p.fu]] w' fun e w9 => e = .returned (.bool true) ∧ Below w'.heap.size w' w9) := fun w' hb => callB (startsFit_any p v w' (HP.out.below hb)) ⟨fun _ => hGS, fun _ => rfl⟩
      go_enter Try.func13, Try.ntmps13
      go_wp2_with (first | (go_at_call 22; rw [HW.out]; (with_reducible refine (HG wb (Below.refl _ _)).out.mono ?_); rintro e w1 ⟨rfl, hb1⟩; obtain ⟨⟨c0, c1, c2, c3⟩, c4, c5, c6, c7, c8⟩ := cells9 ((hb1.block _ (by omega)).trans hbox)) | (go_at_call 23; (with_reducible refine (HT w1 hb1).out.mono ?_); rintro e w2 ⟨rfl, hb2'⟩; have hb2 : Below wb.heap.size wb w2 := hb1.trans (hb2'.mono hb1.size); obtain ⟨⟨c0, c1, c2, c3⟩, c4, c5, c6, c7, c8⟩ := cells9 ((hb2.block _ (by omega)).trans hbox)) | (go_at_call 24; (with_reducible refine (HS w2 hb2).out.mono ?_); rintro e w3 ⟨rfl, hb3'⟩; have hb3 : Below wb.heap.size wb w3 := hb2.trans (hb3'.mono hb2.size); obtain ⟨⟨c0, c1, c2, c3⟩, c4, c5, c6, c7, c8⟩ := cells9 ((hb3.block _ (by omega)).trans hbox)))
      go_ret
      first | (refine ⟨_, rfl, HV.out, ?_⟩; first | exact hb0.trans (hb3.mono hb0.size) | exact hb0.trans (hb2.mono hb0.size) | exact hb0.trans (hb1.mono hb0.size) | (rw [HW.out]; exact hb0))
  have f0 : decide (p.fu < 1) = false := by simp; omega
  have f1 : decide ((4096 : Int) < p.fu) = false := by simp; omega
  have HV : Hid (VC p 0) := .inr ⟨hki, .inr ⟨hGP, .inr ⟨hGT, .inr ⟨hGS, .inr ⟨hlk, .inr ⟨hbu, .inr ⟨hfu, rfl⟩⟩⟩⟩⟩⟩⟩
  clear hc0
  have HG : ∀ w', Below wb.heap.size wb w' → Hid (Calls Try.prog 22 #[.agg #[.int .i64 p.ki, .slice v.pp p.np v.pc, .slice v.tp p.nq v.tc, .slice v.sp p.ns v.sc, .int .u64 p.sd, .int .u64 p.lk, .int .u64 p.en, .int .i64 p.bu, .int .i64 p.fu]] w' fun e w9 => e = .returned (.bool true) ∧ Below w'.heap.size w' w9) := fun w' hb => callB (progsFit_any p v w' (HP.out.below hb)) ⟨fun _ => hGP, fun _ => rfl⟩
  have HT : ∀ w', Below wb.heap.size wb w' → Hid (Calls Try.prog 23 #[.agg #[.int .i64 p.ki, .slice v.pp p.np v.pc, .slice v.tp p.nq v.tc, .slice v.sp p.ns v.sc, .int .u64 p.sd, .int .u64 p.lk, .int .u64 p.en, .int .i64 p.bu, .int .i64 p.fu]] w' fun e w9 => e = .returned (.bool true) ∧ Below w'.heap.size w' w9) := fun w' hb => callB (partsFit_any p v w' (HP.out.below hb)) ⟨fun _ => hGT, fun _ => rfl⟩
  have HS : ∀ w', Below wb.heap.size wb w' → Hid (Calls Try.prog 24 #[.agg #[.int .i64 p.ki, .slice v.pp p.np v.pc, .slice v.tp p.nq v.tc, .slice v.sp p.ns v.sc, .int .u64 p.sd, .int .u64 p.lk, .int .u64 p.en, .int .i64 p.bu, .int .i64 p.fu]] w' fun e w9 => e = .returned (.bool true) ∧ Below w'.heap.size w' w9) := fun w' hb => callB (startsFit_any p v w' (HP.out.below hb)) ⟨fun _ => hGS, fun _ => rfl⟩
  go_enter Try.func13, Try.ntmps13
  go_wp2_with (first | (go_at_call 22; rw [HW.out]; (with_reducible refine (HG wb (Below.refl _ _)).out.mono ?_); rintro e w1 ⟨rfl, hb1⟩; obtain ⟨⟨c0, c1, c2, c3⟩, c4, c5, c6, c7, c8⟩ := cells9 ((hb1.block _ (by omega)).trans hbox)) | (go_at_call 23; (with_reducible refine (HT w1 hb1).out.mono ?_); rintro e w2 ⟨rfl, hb2'⟩; have hb2 : Below wb.heap.size wb w2 := hb1.trans (hb2'.mono hb1.size); obtain ⟨⟨c0, c1, c2, c3⟩, c4, c5, c6, c7, c8⟩ := cells9 ((hb2.block _ (by omega)).trans hbox)) | (go_at_call 24; (with_reducible refine (HS w2 hb2).out.mono ?_); rintro e w3 ⟨rfl, hb3'⟩; have hb3 : Below wb.heap.size wb w3 := hb2.trans (hb3'.mono hb2.size); obtain ⟨⟨c0, c1, c2, c3⟩, c4, c5, c6, c7, c8⟩ := cells9 ((hb3.block _ (by omega)).trans hbox)))
  go_ret
  first | (refine ⟨_, rfl, HV.out, ?_⟩; first | exact hb0.trans (hb3.mono hb0.size) | exact hb0.trans (hb2.mono hb0.size) | exact hb0.trans (hb1.mono hb0.size) | (rw [HW.out]; exact hb0))
end Go.Proofs.Ytkgifanlodlilaa
