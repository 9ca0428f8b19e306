import Derived.Test.YtklaaapajdmhfaaGreatFS5
import Derived.Test.YtklaaapajdmhfaaGreatFS1
import Derived.Test.YtklaaapajdmhfaaGreatRN9
import Derived.Test.YtklaaapajdmhfaaGreatRN20
import Derived.Test.YtklaaapajdmhfaaGreatRN23
namespace Go.Proofs.YtklaaapajdmhfaaGreat
open Go.ChangeShapes Go.WideShapes Go.ChangeAt Go.RowKit
set_option linter.unusedVariables false
set_option linter.unusedSimpArgs false

theorem neq_key_same (t s q : Int) (W : World) : (binOp .neq 32 (.agg #[.int .u64 t, .int .i64 s, .int .u64 q]) (.agg #[.int .u64 t, .int .i64 s, .int .u64 q])).run Tryz.prog W = .ok (.bool false) W := by
  go_simp
set_option maxRecDepth 100000 in
set_option maxHeartbeats 1000000 in
attribute [-go_sem] run_eql_struct in
theorem sameResult_yes (k cd t s q : Int) (n m : Nat) (A C : Nat → Sa) (K : Nat → Nat → Int) (X : Nat → Se) (a1 a3 b1 b3 : Option Addr) (c1 c3 d1 d3 : Nat) (hL : n ≤ 4000000000000) (hw : ∀ j, j < n → (A j).n ≤ 17592186044416) (he : ∀ j, j < n → (C j).n = (A j).n ∧ (C j).d = (A j).d ∧ (C j).s = (A j).s) (hM : m ≤ 1000000) (w : World) (h1 : SsAt w a1 n A K) (h2 : SsAt w b1 n C K) (h3 : SIn w a3 m X) (h4 : SIn w b3 m X) :
    Calls Tryz.prog 15 #[.agg #[.int .i64 k, .int .i64 cd, .int .u64 t, .int .i64 s, .int .u64 q, .int .i64 0, .slice a1 n c1, .slice a3 m c3], .agg #[.int .i64 k, .int .i64 cd, .int .u64 t, .int .i64 s, .int .u64 q, .int .i64 0, .slice b1 n d1, .slice b3 m d3]] w fun e w' => e = .returned (.bool true) ∧ Below w.heap.size w w' := by
  obtain ⟨wa, hwa⟩ : ∃ wa, w.alloc (.cells #[.int .i64 k, .int .i64 cd, .int .u64 t, .int .i64 s, .int .u64 q, .int .i64 0, .slice a1 n c1, .slice a3 m c3] 36) = wa := ⟨_, rfl⟩
  obtain ⟨ha0, haox, hasz⟩ := boxed _ _ _ hwa
  obtain ⟨wb, hwb⟩ : ∃ wb, wa.alloc (.cells #[.int .i64 k, .int .i64 cd, .int .u64 t, .int .i64 s, .int .u64 q, .int .i64 0, .slice b1 n d1, .slice b3 m d3] 36) = wb := ⟨_, rfl⟩
  obtain ⟨hb0', hbox, hsz⟩ := boxed _ _ _ hwb
  have hb0 : Below w.heap.size w wb := ha0.trans (hb0'.mono ha0.size)
  have hao := (hb0'.block _ (lt_of_block haox)).trans haox
  rw [hasz] at hbox
  have hwx : (w.alloc (.cells #[.int .i64 k, .int .i64 cd, .int .u64 t, .int .i64 s, .int .u64 q, .int .i64 0, .slice a1 n c1, .slice a3 m c3] 36)).alloc (.cells #[.int .i64 k, .int .i64 cd, .int .u64 t, .int .i64 s, .int .u64 q, .int .i64 0, .slice b1 n d1, .slice b3 m d3] 36) = wb := by rw [hwa, hwb]
  have HS := sameStates_yes n A C K a1 b1 c1 d1 hL hw he wb (h1.below hb0) (h2.below hb0)
  have HE : ∀ W, Below wb.heap.size wb W → Hid (Calls Tryz.prog 14 #[.slice a3 m c3, .slice b3 m d3] W fun e w' => e = .returned (.bool true) ∧ Below W.heap.size W w') := fun W hb => sEvents_yes m X a3 b3 c3 d3 (by omega) W ((h3.below hb0).below hb) ((h4.below hb0).below hb)
  have HB : Hid (Below w.heap.size w wb) := hb0
  have KK : ∀ W, Below wb.heap.size wb W → Hid ((W.cell? ⟨w.heap.size, 7, none⟩ = some (.slice a3 m c3)) ∧ W.cell? ⟨w.heap.size + 1, 7, none⟩ = some (.slice b3 m d3)) := fun W hb => ⟨cell_in ((hb.block _ (lt_of_block hao)).trans hao) rfl, cell_in ((hb.block _ (lt_of_block hbox)).trans hbox) rfl⟩
  have HH : Hid ((w.alloc (.cells #[.int .i64 k, .int .i64 cd, .int .u64 t, .int .i64 s, .int .u64 q, .int .i64 0, .slice a1 n c1, .slice a3 m c3] 36)).alloc (.cells #[.int .i64 k, .int .i64 cd, .int .u64 t, .int .i64 s, .int .u64 q, .int .i64 0, .slice b1 n d1, .slice b3 m d3] 36) = wb) := hwx
  have u0 : wb.cell? ⟨w.heap.size, 0, none⟩ = some (.int .i64 k) := cell_in hao rfl
  have u1 : wb.cell? ⟨w.heap.size, 1, none⟩ = some (.int .i64 cd) := cell_in hao rfl
  have u2 : wb.cell? ⟨w.heap.size, 2, none⟩ = some (.int .u64 t) := cell_in hao rfl
  have u3 : wb.cell? ⟨w.heap.size, 3, none⟩ = some (.int .i64 s) := cell_in hao rfl
  have u4 : wb.cell? ⟨w.heap.size, 4, none⟩ = some (.int .u64 q) := cell_in hao rfl
  have u5 : wb.cell? ⟨w.heap.size, 5, none⟩ = some (.int .i64 0) := cell_in hao rfl
  have u6 : wb.cell? ⟨w.heap.size, 6, none⟩ = some (.slice a1 n c1) := cell_in hao rfl
  have u7 : wb.cell? ⟨w.heap.size, 7, none⟩ = some (.slice a3 m c3) := cell_in hao rfl
  have y0 : wb.cell? ⟨w.heap.size + 1, 0, none⟩ = some (.int .i64 k) := cell_in hbox rfl
  have y1 : wb.cell? ⟨w.heap.size + 1, 1, none⟩ = some (.int .i64 cd) := cell_in hbox rfl
  have y2 : wb.cell? ⟨w.heap.size + 1, 2, none⟩ = some (.int .u64 t) := cell_in hbox rfl
  have y3 : wb.cell? ⟨w.heap.size + 1, 3, none⟩ = some (.int .i64 s) := cell_in hbox rfl
  have y4 : wb.cell? ⟨w.heap.size + 1, 4, none⟩ = some (.int .u64 q) := cell_in hbox rfl
  have y5 : wb.cell? ⟨w.heap.size + 1, 5, none⟩ = some (.int .i64 0) := cell_in hbox rfl
  have y6 : wb.cell? ⟨w.heap.size + 1, 6, none⟩ = some (.slice b1 n d1) := cell_in hbox rfl
  have y7 : wb.cell? ⟨w.heap.size + 1, 7, none⟩ = some (.slice b3 m d3) := cell_in hbox rfl
  have nk : ∀ W, (binOp .neq 32 (.agg #[.int .u64 t, .int .i64 s, .int .u64 q]) (.agg #[.int .u64 t, .int .i64 s, .int .u64 q])).run Tryz.prog W = .ok (.bool false) W := fun W => neq_key_same t s q W
  have n1 : (k != k) = false := by simp
  have n2 : (cd != cd) = false := by simp
  clear hwa ha0 haox hasz hwb hb0' hbox hsz hb0 hao hwx h1 h2 h3 h4 he hw
  go_enter Tryz.func15, Tryz.ntmps15
  go_upto_region 1 with fail
  rw [HH.out]
  go_wp2_with (first | (go_at_call 17; (with_reducible refine HS.mono ?_); rintro e w1 ⟨rfl, hb1⟩; obtain ⟨k1, k2⟩ := (KK w1 hb1).out) | (go_at_call 14; (with_reducible refine (HE w1 hb1).out.mono ?_); rintro e w2 ⟨rfl, hb2⟩))
  go_ret
  exact ⟨rfl, HB.out.trans ((hb1.trans (hb2.mono hb1.size)).mono HB.out.size)⟩
end Go.Proofs.YtklaaapajdmhfaaGreat
namespace Go.Proofs.YtklaaapajdmhfaaGreat
open Go.ChangeShapes Go.WideShapes Go.ChangeAt Go.RowKit
set_option linter.unusedVariables false
set_option linter.unusedSimpArgs false

theorem VC.some (p : Pl) : ∃ c, VC p c := by
  unfold VC
  by_cases h1 : p.ki < 0 ∨ 32 < p.ki
  · exact ⟨_, .inl ⟨h1, rfl⟩⟩
  by_cases h2 : GP p
  · by_cases h3 : GT p
    · by_cases h4 : GS p
      · by_cases h5 : p.lk = 0
        · exact ⟨_, .inr ⟨h1, .inr ⟨h2, .inr ⟨h3, .inr ⟨h4, .inl ⟨h5, rfl⟩⟩⟩⟩⟩⟩
        by_cases h6 : p.bu < 0 ∨ 4096 < p.bu
        · exact ⟨_, .inr ⟨h1, .inr ⟨h2, .inr ⟨h3, .inr ⟨h4, .inr ⟨h5, .inl ⟨h6, rfl⟩⟩⟩⟩⟩⟩⟩
        by_cases h7 : p.fu < 1 ∨ 4096 < p.fu
        · exact ⟨_, .inr ⟨h1, .inr ⟨h2, .inr ⟨h3, .inr ⟨h4, .inr ⟨h5, .inr ⟨h6, .inl ⟨h7, rfl⟩⟩⟩⟩⟩⟩⟩⟩
        · exact ⟨_, .inr ⟨h1, .inr ⟨h2, .inr ⟨h3, .inr ⟨h4, .inr ⟨h5, .inr ⟨h6, .inr ⟨h7, rfl⟩⟩⟩⟩⟩⟩⟩⟩
      · exact ⟨_, .inr ⟨h1, .inr ⟨h2, .inr ⟨h3, .inl ⟨h4, rfl⟩⟩⟩⟩⟩
    · exact ⟨_, .inr ⟨h1, .inr ⟨h2, .inl ⟨h3, rfl⟩⟩⟩⟩
  · exact ⟨_, .inr ⟨h1, .inl ⟨h2, rfl⟩⟩⟩
theorem SIn.take {W : World} {p : Option Addr} {m k : Nat} {X : Nat → Se} (h : SIn W p m X) (hk : k ≤ m) : SIn W p k X := by
  by_cases h0 : k = 0
  · exact .inl h0
  rcases h with h | ⟨b, o, e, hl, hc⟩
  · omega
  · exact .inr ⟨b, o, e, hl, fun j hj => hc j (by omega)⟩
set_option maxRecDepth 100000 in
set_option maxHeartbeats 4000000 in
theorem budgets_bad (p : Pl) (v : PlV) (w : World) (h : PlAt w p v) (c0 : Int) (hc0 : VC p c0) (hz : c0 ≠ 0) (n : Int) : Calls Tryz.prog 5 #[.agg #[.int .i64 p.ki, .slice v.pp p.np v.pc, .slice v.tp p.nq v.tc, .slice v.sp p.ns v.sc, .int .u64 p.sd, .int .u64 p.lk, .int .u64 p.en, .int .i64 p.bu, .int .i64 p.fu], .int .i64 n] w fun e w' => e = .returned (.bool true) ∧ Below w.heap.size w w' := by
  obtain ⟨wb, hwb⟩ : ∃ wb, w.alloc (.cells #[.int .i64 p.ki, .slice v.pp p.np v.pc, .slice v.tp p.nq v.tc, .slice v.sp p.ns v.sc, .int .u64 p.sd, .int .u64 p.lk, .int .u64 p.en, .int .i64 p.bu, .int .i64 p.fu] 27) = wb := ⟨_, rfl⟩
  obtain ⟨hb0, hbox, hsz⟩ := boxed _ _ _ hwb
  have HH : Hid (w.alloc (.cells #[.int .i64 p.ki, .slice v.pp p.np v.pc, .slice v.tp p.nq v.tc, .slice v.sp p.ns v.sc, .int .u64 p.sd, .int .u64 p.lk, .int .u64 p.en, .int .i64 p.bu, .int .i64 p.fu] 27) = wb) := hwb
  have HA := awake_any wb
  have HV : ∀ W, Below wb.heap.size wb W → Hid (Calls Tryz.prog 9 #[.agg #[.int .i64 p.ki, .slice v.pp p.np v.pc, .slice v.tp p.nq v.tc, .slice v.sp p.ns v.sc, .int .u64 p.sd, .int .u64 p.lk, .int .u64 p.en, .int .i64 p.bu, .int .i64 p.fu]] W fun e w' => e = .returned (.int .i64 c0) ∧ Below W.heap.size W w') := fun W hb => by
    refine (valid_any p v W ((h.below hb0).below hb)).mono ?_
    rintro e w' ⟨c, rfl, k1, k2⟩
    rw [k1.one hc0]
    exact ⟨rfl, k2⟩
  have KK : ∀ W, Below wb.heap.size wb W → Hid (W.cell? ⟨w.heap.size, 0, none⟩ = some (.int .i64 p.ki) ∧ W.cell? ⟨w.heap.size, 1, none⟩ = some (.slice v.pp p.np v.pc) ∧ W.cell? ⟨w.heap.size, 2, none⟩ = some (.slice v.tp p.nq v.tc) ∧ W.cell? ⟨w.heap.size, 3, none⟩ = some (.slice v.sp p.ns v.sc) ∧ W.cell? ⟨w.heap.size, 4, none⟩ = some (.int .u64 p.sd) ∧ W.cell? ⟨w.heap.size, 5, none⟩ = some (.int .u64 p.lk) ∧ W.cell? ⟨w.heap.size, 6, none⟩ = some (.int .u64 p.en) ∧ W.cell? ⟨w.heap.size, 7, none⟩ = some (.int .i64 p.bu) ∧ W.cell? ⟨w.heap.size, 8, none⟩ = some (.int .i64 p.fu)) := fun W hb => by
    have hx := (hb.block _ (lt_of_block hbox)).trans hbox
    exact ⟨cell_in hx rfl, cell_in hx rfl, cell_in hx rfl, cell_in hx rfl, cell_in hx rfl, cell_in hx rfl, cell_in hx rfl, cell_in hx rfl, cell_in hx rfl⟩
  have HB : Hid (Below w.heap.size w wb) := hb0
  have q0 : (c0 != 0) = true := by simpa using hz
  have q1 : (c0 == 0) = false := by simpa using hz
  clear hwb hb0 hbox hsz h hc0 hz
  go_enter Tryz.func5, Tryz.ntmps5
  go_wp2_with (first | (go_at_call 8; rw [HH.out]; (with_reducible refine HA.mono ?_); rintro e w1 ⟨rfl, hb1⟩; obtain ⟨f0, f1, f2, f3, f4, f5, f6, f7, f8⟩ := (KK w1 hb1).out) | (go_at_call 9; (with_reducible refine (HV w1 hb1).out.mono ?_); rintro e w2 ⟨rfl, hb2⟩))
  go_ret
  exact ⟨rfl, HB.out.trans ((hb1.trans (hb2.mono hb1.size)).mono HB.out.size)⟩
set_option maxRecDepth 100000 in
set_option maxHeartbeats 8000000 in
theorem budgets_good (p : Pl) (v : PlV) (w : World) (h : PlAt w p v) (hr : RoomyL p) (hpl : PlOk p) (n : Int) (hn : In64 n) : Calls Tryz.prog 5 #[.agg #[.int .i64 p.ki, .slice v.pp p.np v.pc, .slice v.tp p.nq v.tc, .slice v.sp p.ns v.sc, .int .u64 p.sd, .int .u64 p.lk, .int .u64 p.en, .int .i64 p.bu, .int .i64 p.fu], .int .i64 n] w fun e w' => e = .returned (.bool true) ∧ Below w.heap.size w w' := by
  obtain ⟨wb, hwb⟩ : ∃ wb, w.alloc (.cells #[.int .i64 p.ki, .slice v.pp p.np v.pc, .slice v.tp p.nq v.tc, .slice v.sp p.ns v.sc, .int .u64 p.sd, .int .u64 p.lk, .int .u64 p.en, .int .i64 p.bu, .int .i64 p.fu] 27) = wb := ⟨_, rfl⟩
  obtain ⟨hb0, hbox, hsz⟩ := boxed _ _ _ hwb
  have HH : Hid (w.alloc (.cells #[.int .i64 p.ki, .slice v.pp p.np v.pc, .slice v.tp p.nq v.tc, .slice v.sp p.ns v.sc, .int .u64 p.sd, .int .u64 p.lk, .int .u64 p.en, .int .i64 p.bu, .int .i64 p.fu] 27) = wb) := hwb
  have HA := awake_any wb
  have HV : ∀ W, Below wb.heap.size wb W → Hid (Calls Tryz.prog 9 #[.agg #[.int .i64 p.ki, .slice v.pp p.np v.pc, .slice v.tp p.nq v.tc, .slice v.sp p.ns v.sc, .int .u64 p.sd, .int .u64 p.lk, .int .u64 p.en, .int .i64 p.bu, .int .i64 p.fu]] W fun e w' => e = .returned (.int .i64 0) ∧ Below W.heap.size W w') := fun W hb => by
    refine (valid_any p v W ((h.below hb0).below hb)).mono ?_
    rintro e w' ⟨c, rfl, k1, k2⟩
    rw [k1.one (ok_vc hpl)]
    exact ⟨rfl, k2⟩
  have HR : ∀ W, Below wb.heap.size wb W → Hid (Calls Tryz.prog 10 #[.agg #[.int .i64 p.ki, .slice v.pp p.np v.pc, .slice v.tp p.nq v.tc, .slice v.sp p.ns v.sc, .int .u64 p.sd, .int .u64 p.lk, .int .u64 p.en, .int .i64 p.bu, .int .i64 p.fu]] W fun r w' => ∃ (C : Ab) (k cd : Int) (x : Se) (q1 : Option Addr) (c1 : Nat) (CC : Nat → Sa) (q3 : Option Addr) (c3 : Nat), EndR p (fstA p) C ∧ AOk2 p C ∧ ResK p C k cd x ∧ r = .returned (.agg #[.int .i64 k, .int .i64 cd, .int .u64 x.t, .int .i64 x.s, .int .u64 x.q, .int .i64 0, .slice q1 p.nq c1, .slice q3 C.m c3]) ∧ (∃ b rb, W.heap.size < b ∧ RsA w' b rb p C q1 CC q3 c3) ∧ Below W.heap.size W w') := fun W hb => sqRun_good p v W ((h.below hb0).below hb) hr (ok_vc hpl) hpl
  have HP : ∀ W, Below wb.heap.size wb W → Hid (Calls Tryz.prog 16 #[.agg #[.int .i64 p.ki, .slice v.pp p.np v.pc, .slice v.tp p.nq v.tc, .slice v.sp p.ns v.sc, .int .u64 p.sd, .int .u64 p.lk, .int .u64 p.en, .int .i64 p.bu, .int .i64 p.fu], .int .i64 n] W fun r w' => ∃ (C' : Ab) (k' cd' : Int) (x' : Se) (q1' : Option Addr) (c1' : Nat) (CC' : Nat → Sa) (q3' : Option Addr) (c3' : Nat), EndR (budA p (min p.bu (max n 0))) (fstA p) C' ∧ AOk2 (budA p (min p.bu (max n 0))) C' ∧ ResK (budA p (min p.bu (max n 0))) C' k' cd' x' ∧ r = .returned (.agg #[.int .i64 k', .int .i64 cd', .int .u64 x'.t, .int .i64 x'.s, .int .u64 x'.q, .int .i64 0, .slice q1' p.nq c1', .slice q3' C'.m c3']) ∧ (∃ b rb, W.heap.size < b ∧ RsA w' b rb (budA p (min p.bu (max n 0))) C' q1' CC' q3' c3') ∧ Below W.heap.size W w') := fun W hb => prefix_good p v W ((h.below hb0).below hb) hr hpl n hn
  have KK : ∀ W, Below wb.heap.size wb W → Hid (W.cell? ⟨w.heap.size, 0, none⟩ = some (.int .i64 p.ki) ∧ W.cell? ⟨w.heap.size, 1, none⟩ = some (.slice v.pp p.np v.pc) ∧ W.cell? ⟨w.heap.size, 2, none⟩ = some (.slice v.tp p.nq v.tc) ∧ W.cell? ⟨w.heap.size, 3, none⟩ = some (.slice v.sp p.ns v.sc) ∧ W.cell? ⟨w.heap.size, 4, none⟩ = some (.int .u64 p.sd) ∧ W.cell? ⟨w.heap.size, 5, none⟩ = some (.int .u64 p.lk) ∧ W.cell? ⟨w.heap.size, 6, none⟩ = some (.int .u64 p.en) ∧ W.cell? ⟨w.heap.size, 7, none⟩ = some (.int .i64 p.bu) ∧ W.cell? ⟨w.heap.size, 8, none⟩ = some (.int .i64 p.fu)) := fun W hb => by
    have hx := (hb.block _ (lt_of_block hbox)).trans hbox
    exact ⟨cell_in hx rfl, cell_in hx rfl, cell_in hx rfl, cell_in hx rfl, cell_in hx rfl, cell_in hx rfl, cell_in hx rfl, cell_in hx rfl, cell_in hx rfl⟩
  have HB : Hid (Below w.heap.size w wb) := hb0
  have HBU : Hid (0 ≤ p.bu ∧ p.nq ≤ 64 ∧ ∀ j, j < p.nq → p.nw j ≤ 17592186044416) := ⟨hpl.bu.1, hpl.gt.1, hr.nw⟩
  clear hwb hb0 hbox hsz h hr hpl
  obtain ⟨N, hN⟩ : ∃ N : Nat, max n 0 = (N : Int) := ⟨n.toNat, by omega⟩
  have HNN : Hid (max n 0 = (N : Int)) := hN
  have hN63 : (N : Int) ≤ 9223372036854775807 := by have := hn.2; omega
  rw [hN] at HP
  clear hN
  go_enter Tryz.func5, Tryz.ntmps5
  go_upto_region 6 with (first | (go_at_call 8; rw [HH.out]; (with_reducible refine HA.mono ?_); rintro e w1 ⟨rfl, hb1⟩; obtain ⟨f0, f1, f2, f3, f4, f5, f6, f7, f8⟩ := (KK w1 hb1).out) | (go_at_call 9; (with_reducible refine (HV w1 hb1).out.mono ?_); rintro e w2 ⟨rfl, hb2'⟩; have hb2 : Below wb.heap.size wb w2 := hb1.trans (hb2'.mono hb1.size); clear f0 f1 f2 f3 f4 f5 f6 f7 f8; obtain ⟨f0, f1, f2, f3, f4, f5, f6, f7, f8⟩ := (KK w2 hb2).out) | (go_at_call 10; (with_reducible refine (HR w2 hb2).out.mono ?_); rintro e w3 ⟨C, k, cd, x, q1, c1, CC, q3, c3, he1, ho1, hk1, rfl, ⟨b, rb, hlb, hrs⟩, hb3'⟩; have hb3 : Below wb.heap.size wb w3 := hb2.trans (hb3'.mono hb2.size); clear f0 f1 f2 f3 f4 f5 f6 f7 f8))
  obtain ⟨w4, hw4⟩ : ∃ w4, w3.alloc (.cells #[.int .i64 k, .int .i64 cd, .int .u64 x.t, .int .i64 x.s, .int .u64 x.q, .int .i64 0, .slice q1 p.nq c1, .slice q3 C.m c3] 36) = w4 := ⟨_, rfl⟩
  obtain ⟨hb4', hx4, hsz4⟩ := boxed _ _ _ hw4
  rw [hw4]
  obtain ⟨g4, hg4⟩ : ∃ g4, w3.heap.size = g4 := ⟨_, rfl⟩
  rw [hg4] at hx4 ⊢
  have hb4 : Below wb.heap.size wb w4 := hb3.trans (hb4'.mono hb3.size)
  have hS4 := hrs.ss.below hb4'
  have hT4 := hrs.tr.below hb4'
  have H4 : Hid (EndR p (fstA p) C ∧ ResK p C k cd x ∧ w4.heap[g4]? = some (.cells #[.int .i64 k, .int .i64 cd, .int .u64 x.t, .int .i64 x.s, .int .u64 x.q, .int .i64 0, .slice q1 p.nq c1, .slice q3 C.m c3] 36 (0, 0)) ∧ SsAt w4 q1 p.nq CC C.K ∧ (∀ j, j < p.nq → (CC j).n = p.nw j ∧ (CC j).d = C.d j ∧ (CC j).s = C.s j) ∧ SIn w4 q3 C.m C.Z ∧ C.m ≤ c3 ∧ (C.m : Int) ≤ 4096 ∧ g4 < w4.heap.size) := ⟨he1, hk1, hx4, hS4, hrs.eq, hT4, hrs.cp, ho1.m, lt_of_block hx4⟩
  obtain ⟨f0, f1, f2, f3, f4, f5, f6, f7, f8⟩ := (KK w4 hb4).out
  clear hw4 hb4' hx4 hsz4 hg4 hrs hlb he1 hk1 ho1 hS4 hT4 hb3' hb3 hb2 hb2' hb1 HA HV HR
  go_upto_region 7 with (go_at_call 16; (with_reducible refine (HP w4 hb4).out.mono ?_); rintro e w5 ⟨C', k', cd', x', q1', c1', CC', q3', c3', he1, ho1, hk1, rfl, ⟨b', rb', hlb, hrs⟩, hb5'⟩; have hb5 : Below wb.heap.size wb w5 := hb4.trans (hb5'.mono hb4.size))
  obtain ⟨w6, hw6⟩ : ∃ w6, w5.alloc (.cells #[.int .i64 k', .int .i64 cd', .int .u64 x'.t, .int .i64 x'.s, .int .u64 x'.q, .int .i64 0, .slice q1' p.nq c1', .slice q3' C'.m c3'] 36) = w6 := ⟨_, rfl⟩
  obtain ⟨hb6', hx6, hsz6⟩ := boxed _ _ _ hw6
  rw [hw6]
  obtain ⟨g6, hg6⟩ : ∃ g6, w5.heap.size = g6 := ⟨_, rfl⟩
  rw [hg6] at hx6 ⊢
  have hb46 : Below w4.heap.size w4 w6 := hb5'.trans (hb6'.mono hb5'.size)
  have hbw : Below w.heap.size w w6 := HB.out.trans ((hb5.trans (hb6'.mono hb5.size)).mono HB.out.size)
  obtain ⟨z1, z2, z3, z4, z5, z6, z7, z8, z9⟩ := H4.out
  have hx46 := (hb46.block g4 z9).trans z3
  have hS := z4.below hb46
  have hT := z6.below hb46
  have hS' : SsAt w6 q1' p.nq CC' C'.K := hrs.ss.below hb6'
  have hT' : SIn w6 q3' C'.m C'.Z := hrs.tr.below hb6'
  have hE' : ∀ j, j < p.nq → (CC' j).n = p.nw j ∧ (CC' j).d = C'.d j ∧ (CC' j).s = C'.s j := hrs.eq
  have hbud := bud_end HBU.out.1 z1 he1 z2 hk1
  have HBW : Hid (Below w.heap.size w w6) := hbw
  have HG : Hid (∀ W, Below w6.heap.size w6 W → W.cell? ⟨g4, 0, none⟩ = some (.int .i64 k) ∧ W.cell? ⟨g4, 1, none⟩ = some (.int .i64 cd) ∧ W.cell? ⟨g4, 2, none⟩ = some (.int .u64 x.t) ∧ W.cell? ⟨g4, 3, none⟩ = some (.int .i64 x.s) ∧ W.cell? ⟨g4, 4, none⟩ = some (.int .u64 x.q) ∧ W.cell? ⟨g4, 5, none⟩ = some (.int .i64 0) ∧ W.cell? ⟨g4, 6, none⟩ = some (.slice q1 p.nq c1) ∧ W.cell? ⟨g4, 7, none⟩ = some (.slice q3 C.m c3) ∧ W.cell? ⟨g6, 0, none⟩ = some (.int .i64 k') ∧ W.cell? ⟨g6, 1, none⟩ = some (.int .i64 cd') ∧ W.cell? ⟨g6, 2, none⟩ = some (.int .u64 x'.t) ∧ W.cell? ⟨g6, 3, none⟩ = some (.int .i64 x'.s) ∧ W.cell? ⟨g6, 4, none⟩ = some (.int .u64 x'.q) ∧ W.cell? ⟨g6, 5, none⟩ = some (.int .i64 0) ∧ W.cell? ⟨g6, 6, none⟩ = some (.slice q1' p.nq c1') ∧ W.cell? ⟨g6, 7, none⟩ = some (.slice q3' C'.m c3')) := fun W hb => by
    have e4 := (hb.block _ (lt_of_block hx46)).trans hx46
    have e6 := (hb.block _ (lt_of_block hx6)).trans hx6
    exact ⟨cell_in e4 rfl, cell_in e4 rfl, cell_in e4 rfl, cell_in e4 rfl, cell_in e4 rfl, cell_in e4 rfl, cell_in e4 rfl, cell_in e4 rfl, cell_in e6 rfl, cell_in e6 rfl, cell_in e6 rfl, cell_in e6 rfl, cell_in e6 rfl, cell_in e6 rfl, cell_in e6 rfl, cell_in e6 rfl⟩
  have hw63 : (C.m : Int) ≤ 4096 := z8
  have hcp : C.m ≤ c3 := z7
  have HLL : Hid ((∀ j, j < p.nq → (CC j).n = p.nw j ∧ (CC j).d = C.d j ∧ (CC j).s = C.s j) ∧ SsAt w6 q1 p.nq CC C.K ∧ SIn w6 q3 C.m C.Z ∧ SsAt w6 q1' p.nq CC' C'.K ∧ SIn w6 q3' C'.m C'.Z ∧ (∀ j, j < p.nq → (CC' j).n = p.nw j ∧ (CC' j).d = C'.d j ∧ (CC' j).s = C'.s j)) := ⟨z5, hS, hT, hS', hT', hE'⟩
  have HBD : Hid ((N < C.m → k' = 2 ∧ C'.m = N ∧ ∀ i, i < N → C'.Z i = C.Z i) ∧
    (N = C.m → k = 3 → k' = 2 ∧ C'.m = C.m ∧ (∀ i, i < C.m → C'.Z i = C.Z i) ∧ C'.K = C.K ∧ C'.d = C.d ∧ C'.s = C.s) ∧
    (C.m ≤ N → (N = C.m → k ≠ 3) → C' = C ∧ k' = k ∧ cd' = cd ∧ x' = x)) := hbud
  clear hw6 hb6' hx6 hsz6 hg6 hb46 hbw z1 z2 z3 z4 z5 z6 z7 z8 z9 hx46 hS hT hS' hT' hE' hbud hrs hlb he1 hk1 ho1 hb5' hb5 hb4 H4 HP f0 f1 f2 f3 f4 f5 f6 f7 f8 KK
  by_cases hneg : n < 0
  case pos =>
    have d0 : decide (n < 0) = true := decide_eq_true hneg
    obtain rfl : N = 0 := by have := HNN.out; omega
    clear hneg HNN
    by_cases hA : 0 < C.m
    case pos =>
      obtain ⟨hk2, hm', hz⟩ := HBD.out.1 hA
      subst hk2
      obtain ⟨y1, y2, y3, y4, y5, y6⟩ := HLL.out
      rw [hm'] at y5
      have d1 : decide ((0 : Int) < (C.m : Int)) = true := decide_eq_true (by omega)
      have HSE : ∀ W, Below w6.heap.size w6 W → Hid (Calls Tryz.prog 14 #[.slice q3' 0 c3', .slice q3 0 c3] W fun e w' => e = .returned (.bool true) ∧ Below W.heap.size W w') := fun W hb => sEvents_yes 0 C.Z q3' q3 c3' c3 (by omega) W ((y5.congr fun j hj => hz j hj).below hb) ((y3.take (by omega)).below hb)
      have hbd : Below w6.heap.size w6 w6.drew := (Below.refl _ w6).drew
      have KS : ∀ W, Below w6.heap.size w6 W → (W.cell? ⟨g6, 0, none⟩ = some (.int .i64 2) ∧ W.cell? ⟨g6, 7, none⟩ = some (.slice q3' 0 c3') ∧ W.cell? ⟨g4, 7, none⟩ = some (.slice q3 C.m c3)) := fun W hb => by
        have h9 := HG.out W hb
        rw [hm'] at h9
        exact ⟨h9.2.2.2.2.2.2.2.2.1, h9.2.2.2.2.2.2.2.2.2.2.2.2.2.2.2, h9.2.2.2.2.2.2.2.1⟩
      have KP0 := KS _ hbd
      obtain ⟨a0, a1, a2, a3, a4, a5, a6, a7, b0, b1, b2, b3, b4, b5, b6, b7⟩ := HG.out w6 (Below.refl _ _)
      have n0 : (0 : Int) ≤ (0 : Int) := by omega
      have n1 : (0 : Int) ≤ (c3 : Int) := by omega
      have n2 : 0 ≤ c3 := by omega
      have n3 : ¬ c3 = 0 := by omega
      have HSD := (HSE _ hbd).out
      clear HSE y1 y2 y3 y4 y5 y6 hz HBD HLL HG hw63 hcp hm'
      go_upto_region 10 with fail
      clear a0 a1 a2 a3 a4 a5 a6 a7 b0 b1 b2 b3 b4 b5 b6 b7
      go_region_held3 (fun w9 => (w9.cell? ⟨g6, 0, none⟩ = some (.int .i64 2) ∧ w9.cell? ⟨g6, 7, none⟩ = some (.slice q3' 0 c3') ∧ w9.cell? ⟨g4, 7, none⟩ = some (.slice q3 C.m c3))) (first | with_reducible exact KP0 | with_reducible exact KP1 | go_keep) (first | (go_at_call 14; (with_reducible refine HSD.mono ?_); rintro e w7 ⟨rfl, hb7'⟩; have hb7 : Below w6.heap.size w6 w7 := hbd.trans (hb7'.mono hbd.size); have KP1 := KS w7 hb7))
      all_goals (
        go_wp2_with fail
        go_ret
        exact ⟨rfl, HBW.out.trans (hb7.mono HBW.out.size)⟩)
    by_cases hB : 0 = C.m
    case pos =>
      by_cases hk3 : k = 3
      case pos =>
        obtain ⟨hk2, hm', hz, hK, hd, hs⟩ := HBD.out.2.1 hB hk3
        subst hk2
        subst hk3
        obtain ⟨y1, y2, y3, y4, y5, y6⟩ := HLL.out
        rw [hm'] at y5
        rw [hK] at y4
        rw [← hB] at y5 y3
        have HSE : ∀ W, Below w6.heap.size w6 W → Hid (Calls Tryz.prog 14 #[.slice q3' 0 c3', .slice q3 0 c3] W fun e w' => e = .returned (.bool true) ∧ Below W.heap.size W w') := fun W hb => sEvents_yes 0 C.Z q3' q3 c3' c3 (by omega) W ((y5.congr fun j hj => hz j (by omega)).below hb) (y3.below hb)
        have HSS : ∀ W, Below w6.heap.size w6 W → Hid (Calls Tryz.prog 17 #[.slice q1' p.nq c1', .slice q1 p.nq c1] W fun e w' => e = .returned (.bool true) ∧ Below W.heap.size W w') := fun W hb => sameStates_yes p.nq CC' CC C.K q1' q1 c1' c1 (by have := HBU.out.2.1; omega) (fun j hj => by rw [(y6 j hj).1]; exact HBU.out.2.2 j hj) (fun j hj => by obtain ⟨u1, u2, u3⟩ := y1 j hj; obtain ⟨v1, v2, v3⟩ := y6 j hj; rw [hd] at v2; rw [hs] at v3; exact ⟨u1.trans v1.symm, u2.trans v2.symm, u3.trans v3.symm⟩) W (y4.below hb) (y2.below hb)
        have KS : ∀ W, Below w6.heap.size w6 W → Hid (W.cell? ⟨g6, 6, none⟩ = some (.slice q1' p.nq c1') ∧ W.cell? ⟨g4, 6, none⟩ = some (.slice q1 p.nq c1)) := fun W hb => by
          have h9 := HG.out W hb
          exact ⟨h9.2.2.2.2.2.2.2.2.2.2.2.2.2.2.1, h9.2.2.2.2.2.2.1⟩
        obtain ⟨a0, a1, a2, a3, a4, a5, a6, a7, b0, b1, b2, b3, b4, b5, b6, b7⟩ := HG.out w6 (Below.refl _ _)
        rw [hm', ← hB] at b7
        rw [← hB] at a7
        clear y1 y2 y3 y4 y5 y6 hz hK hd hs HBD HLL HG hB hm' hw63 hcp
        go_wp2_with (first | (go_at_call 14; (with_reducible refine (HSE w6 (Below.refl _ _)).out.mono ?_); rintro e w7 ⟨rfl, hb7⟩; obtain ⟨m1, m2⟩ := (KS w7 hb7).out) | (go_at_call 17; (with_reducible refine (HSS w7 hb7).out.mono ?_); rintro e w8 ⟨rfl, hb8⟩))
        go_ret
        exact ⟨rfl, HBW.out.trans ((hb7.trans (hb8.mono hb7.size)).mono HBW.out.size)⟩
      obtain ⟨hC, hk2, hc2, hx2⟩ := HBD.out.2.2 (by omega) (fun _ => hk3)
      subst hC hk2 hc2 hx2
      obtain ⟨y1, y2, y3, y4, y5, y6⟩ := HLL.out
      have d3 : (k' == 3) = false := by simpa using hk3
      have HSR := sameResult_yes k' cd' x'.t x'.s x'.q p.nq C'.m CC' CC C'.K C'.Z q1' q3' q1 q3 c1' c3' c1 c3 (by have := HBU.out.2.1; omega) (fun j hj => by rw [(y6 j hj).1]; exact HBU.out.2.2 j hj) (fun j hj => by obtain ⟨u1, u2, u3⟩ := y1 j hj; obtain ⟨v1, v2, v3⟩ := y6 j hj; exact ⟨u1.trans v1.symm, u2.trans v2.symm, u3.trans v3.symm⟩) (by omega) w6 y4 y2 y5 y3
      obtain ⟨a0, a1, a2, a3, a4, a5, a6, a7, b0, b1, b2, b3, b4, b5, b6, b7⟩ := HG.out w6 (Below.refl _ _)
      rw [← hB] at HSR a7 b7
      clear y1 y2 y3 y4 y5 y6 HBD HLL HG hw63 hcp hA hB hk3
      go_wp2_with (go_at_call 15; (with_reducible refine HSR.mono ?_); rintro e w7 ⟨rfl, hb7⟩)
      go_ret
      exact ⟨rfl, HBW.out.trans (hb7.mono HBW.out.size)⟩
    exfalso
    omega
  have d0 : decide (n < 0) = false := decide_eq_false hneg
  obtain rfl : n = (N : Int) := by have := HNN.out; omega
  clear hneg HNN
  by_cases hA : N < C.m
  case pos =>
    obtain ⟨hk2, hm', hz⟩ := HBD.out.1 hA
    subst hk2
    obtain ⟨y1, y2, y3, y4, y5, y6⟩ := HLL.out
    rw [hm'] at y5
    have d1 : decide ((N : Int) < (C.m : Int)) = true := decide_eq_true (by omega)
    have HSE : ∀ W, Below w6.heap.size w6 W → Hid (Calls Tryz.prog 14 #[.slice q3' N c3', .slice q3 N c3] W fun e w' => e = .returned (.bool true) ∧ Below W.heap.size W w') := fun W hb => sEvents_yes N C.Z q3' q3 c3' c3 (by omega) W ((y5.congr fun j hj => hz j hj).below hb) ((y3.take (by omega)).below hb)
    have hbd : Below w6.heap.size w6 w6.drew := (Below.refl _ w6).drew
    have KS : ∀ W, Below w6.heap.size w6 W → (W.cell? ⟨g6, 0, none⟩ = some (.int .i64 2) ∧ W.cell? ⟨g6, 7, none⟩ = some (.slice q3' N c3') ∧ W.cell? ⟨g4, 7, none⟩ = some (.slice q3 C.m c3)) := fun W hb => by
      have h9 := HG.out W hb
      rw [hm'] at h9
      exact ⟨h9.2.2.2.2.2.2.2.2.1, h9.2.2.2.2.2.2.2.2.2.2.2.2.2.2.2, h9.2.2.2.2.2.2.2.1⟩
    have KP0 := KS _ hbd
    obtain ⟨a0, a1, a2, a3, a4, a5, a6, a7, b0, b1, b2, b3, b4, b5, b6, b7⟩ := HG.out w6 (Below.refl _ _)
    have n0 : (0 : Int) ≤ (N : Int) := by omega
    have n1 : (N : Int) ≤ (c3 : Int) := by omega
    have n2 : N ≤ c3 := by omega
    have n3 : ¬ c3 = 0 := by omega
    have HSD := (HSE _ hbd).out
    clear HSE y1 y2 y3 y4 y5 y6 hz HBD HLL HG hw63 hcp hm'
    go_upto_region 10 with fail
    clear a0 a1 a2 a3 a4 a5 a6 a7 b0 b1 b2 b3 b4 b5 b6 b7
    go_region_held3 (fun w9 => (w9.cell? ⟨g6, 0, none⟩ = some (.int .i64 2) ∧ w9.cell? ⟨g6, 7, none⟩ = some (.slice q3' N c3') ∧ w9.cell? ⟨g4, 7, none⟩ = some (.slice q3 C.m c3))) (first | with_reducible exact KP0 | with_reducible exact KP1 | go_keep) (first | (go_at_call 14; (with_reducible refine HSD.mono ?_); rintro e w7 ⟨rfl, hb7'⟩; have hb7 : Below w6.heap.size w6 w7 := hbd.trans (hb7'.mono hbd.size); have KP1 := KS w7 hb7))
    all_goals (
      go_wp2_with fail
      go_ret
      exact ⟨rfl, HBW.out.trans (hb7.mono HBW.out.size)⟩)
  by_cases hB : N = C.m
  case pos =>
    by_cases hk3 : k = 3
    case pos =>
      obtain ⟨hk2, hm', hz, hK, hd, hs⟩ := HBD.out.2.1 hB hk3
      subst hk2
      subst hk3
      obtain ⟨y1, y2, y3, y4, y5, y6⟩ := HLL.out
      rw [hm'] at y5
      rw [hK] at y4
      rw [← hB] at y5 y3
      have HSE : ∀ W, Below w6.heap.size w6 W → Hid (Calls Tryz.prog 14 #[.slice q3' N c3', .slice q3 N c3] W fun e w' => e = .returned (.bool true) ∧ Below W.heap.size W w') := fun W hb => sEvents_yes N C.Z q3' q3 c3' c3 (by omega) W ((y5.congr fun j hj => hz j (by omega)).below hb) (y3.below hb)
      have HSS : ∀ W, Below w6.heap.size w6 W → Hid (Calls Tryz.prog 17 #[.slice q1' p.nq c1', .slice q1 p.nq c1] W fun e w' => e = .returned (.bool true) ∧ Below W.heap.size W w') := fun W hb => sameStates_yes p.nq CC' CC C.K q1' q1 c1' c1 (by have := HBU.out.2.1; omega) (fun j hj => by rw [(y6 j hj).1]; exact HBU.out.2.2 j hj) (fun j hj => by obtain ⟨u1, u2, u3⟩ := y1 j hj; obtain ⟨v1, v2, v3⟩ := y6 j hj; rw [hd] at v2; rw [hs] at v3; exact ⟨u1.trans v1.symm, u2.trans v2.symm, u3.trans v3.symm⟩) W (y4.below hb) (y2.below hb)
      have KS : ∀ W, Below w6.heap.size w6 W → Hid (W.cell? ⟨g6, 6, none⟩ = some (.slice q1' p.nq c1') ∧ W.cell? ⟨g4, 6, none⟩ = some (.slice q1 p.nq c1)) := fun W hb => by
        have h9 := HG.out W hb
        exact ⟨h9.2.2.2.2.2.2.2.2.2.2.2.2.2.2.1, h9.2.2.2.2.2.2.1⟩
      obtain ⟨a0, a1, a2, a3, a4, a5, a6, a7, b0, b1, b2, b3, b4, b5, b6, b7⟩ := HG.out w6 (Below.refl _ _)
      rw [hm', ← hB] at b7
      rw [← hB] at a7
      clear y1 y2 y3 y4 y5 y6 hz hK hd hs HBD HLL HG hB hm' hw63 hcp
      go_wp2_with (first | (go_at_call 14; (with_reducible refine (HSE w6 (Below.refl _ _)).out.mono ?_); rintro e w7 ⟨rfl, hb7⟩; obtain ⟨m1, m2⟩ := (KS w7 hb7).out) | (go_at_call 17; (with_reducible refine (HSS w7 hb7).out.mono ?_); rintro e w8 ⟨rfl, hb8⟩))
      go_ret
      exact ⟨rfl, HBW.out.trans ((hb7.trans (hb8.mono hb7.size)).mono HBW.out.size)⟩
    obtain ⟨hC, hk2, hc2, hx2⟩ := HBD.out.2.2 (by omega) (fun _ => hk3)
    subst hC hk2 hc2 hx2
    obtain ⟨y1, y2, y3, y4, y5, y6⟩ := HLL.out
    have d3 : (k' == 3) = false := by simpa using hk3
    have HSR := sameResult_yes k' cd' x'.t x'.s x'.q p.nq C'.m CC' CC C'.K C'.Z q1' q3' q1 q3 c1' c3' c1 c3 (by have := HBU.out.2.1; omega) (fun j hj => by rw [(y6 j hj).1]; exact HBU.out.2.2 j hj) (fun j hj => by obtain ⟨u1, u2, u3⟩ := y1 j hj; obtain ⟨v1, v2, v3⟩ := y6 j hj; exact ⟨u1.trans v1.symm, u2.trans v2.symm, u3.trans v3.symm⟩) (by omega) w6 y4 y2 y5 y3
    obtain ⟨a0, a1, a2, a3, a4, a5, a6, a7, b0, b1, b2, b3, b4, b5, b6, b7⟩ := HG.out w6 (Below.refl _ _)
    rw [← hB] at HSR a7 b7
    clear y1 y2 y3 y4 y5 y6 HBD HLL HG hw63 hcp hA hB hk3
    go_wp2_with (go_at_call 15; (with_reducible refine HSR.mono ?_); rintro e w7 ⟨rfl, hb7⟩)
    go_ret
    exact ⟨rfl, HBW.out.trans (hb7.mono HBW.out.size)⟩
  obtain ⟨hC, hk2, hc2, hx2⟩ := HBD.out.2.2 (by omega) (fun e => by omega)
  subst hC hk2 hc2 hx2
  obtain ⟨y1, y2, y3, y4, y5, y6⟩ := HLL.out
  have d1 : decide ((N : Int) < (C'.m : Int)) = false := decide_eq_false (by omega)
  have d2 : ((N : Int) == (C'.m : Int)) = false := by simp; omega
  have HSR := sameResult_yes k' cd' x'.t x'.s x'.q p.nq C'.m CC' CC C'.K C'.Z q1' q3' q1 q3 c1' c3' c1 c3 (by have := HBU.out.2.1; omega) (fun j hj => by rw [(y6 j hj).1]; exact HBU.out.2.2 j hj) (fun j hj => by obtain ⟨u1, u2, u3⟩ := y1 j hj; obtain ⟨v1, v2, v3⟩ := y6 j hj; exact ⟨u1.trans v1.symm, u2.trans v2.symm, u3.trans v3.symm⟩) (by omega) w6 y4 y2 y5 y3
  obtain ⟨a0, a1, a2, a3, a4, a5, a6, a7, b0, b1, b2, b3, b4, b5, b6, b7⟩ := HG.out w6 (Below.refl _ _)
  clear y1 y2 y3 y4 y5 y6 HBD HLL HG hw63 hcp
  go_wp2_with (go_at_call 15; (with_reducible refine HSR.mono ?_); rintro e w7 ⟨rfl, hb7⟩)
  go_ret
  exact ⟨rfl, HBW.out.trans (hb7.mono HBW.out.size)⟩
theorem budgets_law (p : Pl) (v : PlV) (w : World) (h : PlAt w p v) (hr : RoomyL p) (hok : VC p 0 → PlOk p) (n : Int) (hn : In64 n) : Calls Tryz.prog 5 #[.agg #[.int .i64 p.ki, .slice v.pp p.np v.pc, .slice v.tp p.nq v.tc, .slice v.sp p.ns v.sc, .int .u64 p.sd, .int .u64 p.lk, .int .u64 p.en, .int .i64 p.bu, .int .i64 p.fu], .int .i64 n] w fun e w' => e = .returned (.bool true) ∧ Below w.heap.size w w' := by
  obtain ⟨c0, hc0⟩ := VC.some p
  by_cases hz : c0 = 0
  · subst hz
    exact budgets_good p v w h hr (hok hc0) n hn
  · exact budgets_bad p v w h c0 hc0 hz n
end Go.Proofs.YtklaaapajdmhfaaGreat
