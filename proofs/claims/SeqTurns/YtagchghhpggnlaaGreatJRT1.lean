import Derived.Test.YtagchghhpggnlaaGreatJRS1
import Derived.Test.YtagchghhpggnlaaGreatJRP2
import Derived.Test.YtagchghhpggnlaaGreatJRN20
import Derived.Test.YtagchghhpggnlaaGreatJSV6r
import Derived.Test.YtagchghhpggnlaaGreatJRN12
namespace Go.Proofs.YtagchghhpggnlaaGreat
open Go.ChangeShapes Go.WideShapes Go.ChangeAt Go.RowKit
set_option linter.unusedVariables false
set_option linter.unusedSimpArgs false

theorem RunD.sw {p : Pl} {D : RD} (h : RunD p D) {i : Nat} (hi : i + 1 < p.ns) (hd : (p.S i).d ≠ (p.S (i + 1)).d) : RunD (swA p i) D := by
  rcases h with ⟨c, h1, h2, rfl⟩ | ⟨h1, C, k, cd, x, h2, h3, rfl⟩
  · exact .inl ⟨c, sw_vc hi h1, h2, rfl⟩
  · obtain ⟨a, b⟩ := sw_end hi hd h2 h3
    exact .inr ⟨sw_vc hi h1, C, k, cd, x, a, b, rfl⟩
theorem RunD.fu {p : Pl} {D : RD} (h : RunD p D) (hok : VC p 0 → PlOk p) {f : Int} (h1 : 1 ≤ p.fu) (hle : p.fu ≤ f) (hff : f ≤ 4096) (hne : ¬ (D.k = 3 ∧ D.cd = 200)) : RunD (fuA p f) D := by
  rcases h with ⟨c, h2, h3, rfl⟩ | ⟨h2, C, k, cd, x, h3, h4, rfl⟩
  · exact .inl ⟨c, fuA_vc h1 hle hff h2, h3, rfl⟩
  · obtain ⟨a, b⟩ := fuel_end (hok h2) hle hff h3 h4 hne
    exact .inr ⟨fuA_vc h1 hle hff h2, C, k, cd, x, a, b, rfl⟩
theorem fuA_vc' {p : Pl} {f c : Int} (h1 : 1 ≤ p.fu) (hle : p.fu ≤ f) (hff : f ≤ 4096) (h : VC (fuA p f) c) : VC p c := by
  have e1 : (p.fu < 1 ∨ 4096 < p.fu) ↔ False := ⟨fun e => by omega, False.elim⟩
  have e2 : ((fuA p f).fu < 1 ∨ 4096 < (fuA p f).fu) ↔ False := ⟨fun e => by have e' : f < 1 ∨ 4096 < f := e; omega, False.elim⟩
  unfold VC at h ⊢
  rw [e2] at h
  rw [e1]
  exact h
theorem sw_vc' {p : Pl} {i : Nat} (hi : i + 1 < p.ns) {c : Int} (h : VC (swA p i) c) : VC p c := by
  unfold VC at h ⊢
  rw [sw_gs hi] at h
  exact h
/-- a start written over another one -/
theorem put_st {W : World} {b g n : Nat} {S : Nat → St} (h : Own W b 72 4 (.slice (some ⟨g, 0, none⟩) n n) n (stF S)) (i : Nat) (s : St) : Own (W.setCells g (i * 4) [.int .u64 s.t, .int .i64 s.d, .int .i64 s.k, .int .i64 s.v]) b 72 4 (.slice (some ⟨g, 0, none⟩) n n) n (stF (fun j => if j = i then s else S j)) := by
  refine Own.congr (Own.put h (i * 4) [.int .u64 s.t, .int .i64 s.d, .int .i64 s.k, .int .i64 s.v]) fun j hj => ?_
  unfold putF
  by_cases x : i * 4 ≤ j ∧ j < i * 4 + [Value.int .u64 s.t, .int .i64 s.d, .int .i64 s.k, .int .i64 s.v].length
  · rw [if_pos x]
    have hl : [Value.int .u64 s.t, .int .i64 s.d, .int .i64 s.k, .int .i64 s.v].length = 4 := rfl
    obtain ⟨r, rfl⟩ : ∃ r, j = i * 4 + r := ⟨j - i * 4, by omega⟩
    unfold stF
    rw [show (i * 4 + r) / 4 = i by omega, show (i * 4 + r) % 4 = r by omega, show i * 4 + r - i * 4 = r by omega]
    dsimp only
    rw [if_pos rfl]
    rfl
  · rw [if_neg x]
    have hl : [Value.int .u64 s.t, .int .i64 s.d, .int .i64 s.k, .int .i64 s.v].length = 4 := rfl
    unfold stF
    dsimp only
    rw [if_neg (by omega)]
theorem st_four {W : World} {g o n : Nat} {S : Nat → St} (h : StAt W (some ⟨g, o, none⟩) n S) {j : Nat} (hj : j < n) : g < W.heap.size ∧ W.cell? ⟨g, o + j * 4, none⟩ = some (.int .u64 (S j).t) ∧ W.cell? ⟨g, o + j * 4 + 1, none⟩ = some (.int .i64 (S j).d) ∧ W.cell? ⟨g, o + j * 4 + 2, none⟩ = some (.int .i64 (S j).k) ∧ W.cell? ⟨g, o + j * 4 + 3, none⟩ = some (.int .i64 (S j).v) := by
  rcases h with h | ⟨g', o', e, hl, hc⟩
  · omega
  · injection e with e
    injection e with e1 e2 e3
    subst e1 e2
    exact ⟨hl, hc j hj⟩
set_option maxRecDepth 100000 in
set_option maxHeartbeats 8000000 in
theorem turns_law (p : Pl) (v : PlV) (w : World) (h : PlAt w p v) (hr : RoomyL p) (hok : VC p 0 → PlOk p) (i : Int) (hi : In64 i) (f : Int) (hf : In64 f) : Calls Tryz.prog 8 #[.agg #[.int .i64 p.ki, .slice v.pp p.np v.pc, .slice v.tp p.nq v.tc, .slice v.sp p.ns v.sc, .int .u64 p.sd, .int .u64 p.lk, .int .u64 p.en, .int .i64 p.bu, .int .i64 p.fu], .int .i64 i, .int .i64 f] w fun e w' => e = .returned (.bool true) ∧ Below w.heap.size w w' := by
  obtain ⟨wb, hwb⟩ : ∃ wb, w.alloc (.cells #[.int .i64 p.ki, .slice v.pp p.np v.pc, .slice v.tp p.nq v.tc, .slice v.sp p.ns v.sc, .int .u64 p.sd, .int .u64 p.lk, .int .u64 p.en, .int .i64 p.bu, .int .i64 p.fu] 27) = wb := ⟨_, rfl⟩
  obtain ⟨hb0, hbox, hsz⟩ := boxed _ _ _ hwb
  have HH : Hid (w.alloc (.cells #[.int .i64 p.ki, .slice v.pp p.np v.pc, .slice v.tp p.nq v.tc, .slice v.sp p.ns v.sc, .int .u64 p.sd, .int .u64 p.lk, .int .u64 p.en, .int .i64 p.bu, .int .i64 p.fu] 27) = wb) := hwb
  have HA := awake_any wb
  have HR : ∀ W, Below wb.heap.size wb W → Hid (Calls Tryz.prog 15 #[.agg #[.int .i64 p.ki, .slice v.pp p.np v.pc, .slice v.tp p.nq v.tc, .slice v.sp p.ns v.sc, .int .u64 p.sd, .int .u64 p.lk, .int .u64 p.en, .int .i64 p.bu, .int .i64 p.fu]] W fun r w' => ∃ (D : RD) (q1 : Option Addr) (c1 : Nat) (CC : Nat → Sa) (q3 : Option Addr) (c3 : Nat), r = .returned (.agg #[.int .i64 D.k, .int .i64 D.cd, .int .u64 D.x.t, .int .i64 D.x.s, .int .u64 D.x.q, .int .i64 0, .slice q1 D.n c1, .slice q3 D.m c3]) ∧ RunD p D ∧ RDok D ∧ RDAt w' D q1 CC q3 ∧ D.m ≤ c3 ∧ Below W.heap.size W w') := fun W hb => sqRun_all p v W ((h.below hb0).below hb) hr hok
  have KK : ∀ W, Below wb.heap.size wb W → Hid (W.cell? ⟨w.heap.size, 0, none⟩ = some (.int .i64 p.ki) ∧ W.cell? ⟨w.heap.size, 1, none⟩ = some (.slice v.pp p.np v.pc) ∧ W.cell? ⟨w.heap.size, 2, none⟩ = some (.slice v.tp p.nq v.tc) ∧ W.cell? ⟨w.heap.size, 3, none⟩ = some (.slice v.sp p.ns v.sc) ∧ W.cell? ⟨w.heap.size, 4, none⟩ = some (.int .u64 p.sd) ∧ W.cell? ⟨w.heap.size, 5, none⟩ = some (.int .u64 p.lk) ∧ W.cell? ⟨w.heap.size, 6, none⟩ = some (.int .u64 p.en) ∧ W.cell? ⟨w.heap.size, 7, none⟩ = some (.int .i64 p.bu) ∧ W.cell? ⟨w.heap.size, 8, none⟩ = some (.int .i64 p.fu)) := fun W hb => by
    have hx := (hb.block _ (lt_of_block hbox)).trans hbox
    exact ⟨cell_in hx rfl, cell_in hx rfl, cell_in hx rfl, cell_in hx rfl, cell_in hx rfl, cell_in hx rfl, cell_in hx rfl, cell_in hx rfl, cell_in hx rfl⟩
  have HB : Hid (Below w.heap.size w wb ∧ PlAt wb p v ∧ RoomyL p ∧ (VC p 0 → PlOk p) ∧ w.heap.size < wb.heap.size) := ⟨hb0, h.below hb0, hr, hok, lt_of_block hbox⟩
  clear hwb hb0 hbox hsz h hr hok
  go_enter Tryz.func8, Tryz.ntmps8
  go_upto_region 4 with (first | (go_at_call 13; rw [HH.out]; (with_reducible refine HA.mono ?_); rintro e w1 ⟨rfl, hb1⟩; obtain ⟨f0, f1, f2, f3, f4, f5, f6, f7, f8⟩ := (KK w1 hb1).out) | (go_at_call 15; (with_reducible refine (HR w1 hb1).out.mono ?_); rintro e w3 ⟨D, q1, c1, CC, q3, c3, rfl, hrd, hdk, hat, hcp, hb3'⟩))
  obtain ⟨w4, hw4⟩ : ∃ w4, w3.alloc (.cells #[.int .i64 D.k, .int .i64 D.cd, .int .u64 D.x.t, .int .i64 D.x.s, .int .u64 D.x.q, .int .i64 0, .slice q1 D.n c1, .slice q3 D.m c3] 36) = w4 := ⟨_, rfl⟩
  obtain ⟨hb4', hx4, hsz4⟩ := boxed _ _ _ hw4
  rw [hw4]
  obtain ⟨g4, hg4⟩ : ∃ g4, w3.heap.size = g4 := ⟨_, rfl⟩
  rw [hg4] at hx4 ⊢
  have hb3 : Below wb.heap.size wb w3 := hb1.trans (hb3'.mono hb1.size)
  have hb4 : Below wb.heap.size wb w4 := hb3.trans (hb4'.mono hb3.size)
  have HRD : Hid (RunD p D) := hrd
  have HDK : Hid (RDok D) := hdk
  have HA4 : Hid (RDAt w4 D q1 CC q3 ∧ w4.heap[g4]? = some (.cells #[.int .i64 D.k, .int .i64 D.cd, .int .u64 D.x.t, .int .i64 D.x.s, .int .u64 D.x.q, .int .i64 0, .slice q1 D.n c1, .slice q3 D.m c3] 36 (0, 0)) ∧ Below wb.heap.size wb w4) := ⟨hat.below hb4', hx4, hb4⟩
  have KG : ∀ W, Below w4.heap.size w4 W → Hid ((W.cell? ⟨w.heap.size, 0, none⟩ = some (.int .i64 p.ki) ∧ W.cell? ⟨w.heap.size, 1, none⟩ = some (.slice v.pp p.np v.pc) ∧ W.cell? ⟨w.heap.size, 2, none⟩ = some (.slice v.tp p.nq v.tc) ∧ W.cell? ⟨w.heap.size, 3, none⟩ = some (.slice v.sp p.ns v.sc) ∧ W.cell? ⟨w.heap.size, 4, none⟩ = some (.int .u64 p.sd) ∧ W.cell? ⟨w.heap.size, 5, none⟩ = some (.int .u64 p.lk) ∧ W.cell? ⟨w.heap.size, 6, none⟩ = some (.int .u64 p.en) ∧ W.cell? ⟨w.heap.size, 7, none⟩ = some (.int .i64 p.bu) ∧ W.cell? ⟨w.heap.size, 8, none⟩ = some (.int .i64 p.fu)) ∧ (W.cell? ⟨g4, 0, none⟩ = some (.int .i64 D.k) ∧ W.cell? ⟨g4, 1, none⟩ = some (.int .i64 D.cd) ∧ W.cell? ⟨g4, 2, none⟩ = some (.int .u64 D.x.t) ∧ W.cell? ⟨g4, 3, none⟩ = some (.int .i64 D.x.s) ∧ W.cell? ⟨g4, 4, none⟩ = some (.int .u64 D.x.q) ∧ W.cell? ⟨g4, 5, none⟩ = some (.int .i64 0) ∧ W.cell? ⟨g4, 6, none⟩ = some (.slice q1 D.n c1) ∧ W.cell? ⟨g4, 7, none⟩ = some (.slice q3 D.m c3))) := fun W hb => by
    have e4 := (hb.block _ (lt_of_block HA4.out.2.1)).trans HA4.out.2.1
    exact ⟨(KK W (HA4.out.2.2.trans (hb.mono HA4.out.2.2.size))).out, cell_in e4 rfl, cell_in e4 rfl, cell_in e4 rfl, cell_in e4 rfl, cell_in e4 rfl, cell_in e4 rfl, cell_in e4 rfl, cell_in e4 rfl⟩
  have HBW : Hid (Below w.heap.size w w4) := HB.out.1.trans (hb4.mono HB.out.1.size)
  clear f0 f1 f2 f3 f4 f5 f6 f7 f8 hw4 hb4' hx4 hsz4 hg4 hb3 hb3' hb1 hrd hdk hat hcp HA HR HH
  have hbd4 : Below w4.heap.size w4 w4.drew := (Below.refl _ w4).drew
  go_cut [39] from 14 to 39 (fun b wx => (∃ bb : Bool, b = .bool bb ∧ (bb = true → ∃ I : Nat, i = (I : Int) ∧ I + 1 < p.ns ∧ (p.S I).d ≠ (p.S (I + 1)).d)) ∧ Below w4.heap.size w4 wx)
  case first =>
    obtain ⟨⟨f0, f1, f2, f3, f4, f5, f6, f7, f8⟩, _⟩ := (KG w4 (Below.refl _ _)).out
    have ens : IntKind.i64.wrap ((p.ns : Int) - 1) = (p.ns : Int) - 1 := by have := HB.out.2.2.1.ns; rw [IntKind.wrap_i64]; omega
    by_cases h0 : i < 0
    case pos =>
      have d0 : decide (0 ≤ i) = false := decide_eq_false (by omega)
      have d1 : decide (i ≥ 0) = false := decide_eq_false (by omega)
      go_quiet (fail)
      go_wp2_with fail
      go_meet
      exact ⟨⟨false, rfl, fun e => by cases e⟩, below_drewNq _ _ _⟩
    have d0 : decide (0 ≤ i) = true := decide_eq_true (by omega)
    have d1 : decide (i ≥ 0) = true := decide_eq_true (by omega)
    by_cases h1 : i < (p.ns : Int) - 1
    case neg =>
      have d2 : decide (i < (p.ns : Int) - 1) = false := decide_eq_false h1
      go_quiet (fail)
      go_wp2_with fail
      go_meet
      exact ⟨⟨false, rfl, fun e => by cases e⟩, below_drewNq _ _ _⟩
    obtain ⟨I, hI⟩ : ∃ I : Nat, i = (I : Int) := ⟨i.toNat, by omega⟩
    subst hI
    have hI1 : I + 1 < p.ns := by omega
    have d2 : decide ((I : Int) < (p.ns : Int) - 1) = true := decide_eq_true h1
    have ei : IntKind.i64.wrap ((I : Int) + 1) = (I : Int) + 1 := by have := HB.out.2.2.1.ns; rw [IntKind.wrap_i64]; omega
    have i0 : (0 : Int) ≤ (I : Int) := by omega
    have i1 : (I : Int) < (p.ns : Int) := by omega
    have i2 : (0 : Int) ≤ (I : Int) + 1 := by omega
    have i3 : (I : Int) + 1 < (p.ns : Int) := by omega
    have hst := (HB.out.2.1.below HA4.out.2.2).st
    obtain hz | ⟨gs, os, hsp, hls, hcs⟩ := hst
    · omega
    obtain ⟨_, y1, _, _⟩ := hcs I (by omega)
    obtain ⟨_, z1, _, _⟩ := hcs (I + 1) hI1
    rw [hsp] at f3
    have z1' : w4.cell? ⟨gs, os + (I + 1) * 4 + 1, none⟩ = some (.int .i64 (p.S (I + 1)).d) := z1
    by_cases hd : (p.S I).d = (p.S (I + 1)).d
    case pos =>
      have d3 : ((p.S I).d != (p.S (I + 1)).d) = false := by simpa using hd
      clear hcs hls hsp hd
      go_quiet (fail)
      go_wp2_with fail
      go_meet
      exact ⟨⟨false, rfl, fun e => by cases e⟩, below_drewNq _ _ _⟩
    have d3 : ((p.S I).d != (p.S (I + 1)).d) = true := by simpa using hd
    have HDD : Hid ((p.S I).d ≠ (p.S (I + 1)).d) := hd
    clear hcs hls hsp hd
    go_quiet (fail)
    go_wp2_with fail
    go_meet
    exact ⟨⟨true, rfl, fun _ => ⟨I, rfl, hI1, HDD.out⟩⟩, below_drewNq _ _ _⟩
  case rest =>
    obtain ⟨⟨bb, rfl, hcond⟩, hbc⟩ := hcut
    obtain ⟨wd, rfl⟩ : ∃ wd, wd = wc := ⟨_, rfl⟩
    have HCO : Hid (bb = true → ∃ I : Nat, i = (I : Int) ∧ I + 1 < p.ns ∧ (p.S I).d ≠ (p.S (I + 1)).d) := hcond
    clear hcond
    go_upto_if 39 with fail
    go_cut [8] from 40 to 66 (fun x8 wx => Below w4.heap.size w4 wx)
    case first =>
      cases bb
      case false =>
        go_wp2_with fail
        go_meet
        exact hbc
      obtain ⟨I, rfl, hI1, hdd⟩ := HCO.out rfl
      have HDD : Hid ((p.S I).d ≠ (p.S (I + 1)).d) := hdd
      have hbwd : Below wb.heap.size wb wd := HA4.out.2.2.trans (hbc.mono HA4.out.2.2.size)
      have HCP := copyPlan_row p v wd (HB.out.2.1.below hbwd) HB.out.2.2.1
      obtain ⟨⟨f0, f1, f2, f3, f4, f5, f6, f7, f8⟩, _⟩ := (KG wd hbc).out
      have HBC : Hid (Below w4.heap.size w4 wd) := hbc
      clear hdd hbc
      go_upto_region 6 with (go_at_call 33; (with_reducible refine HCP.mono ?_); rintro e w5 ⟨u, rfl, hpu, hnew, ⟨sg, hsg, hsc, hrow, hoff⟩, hb5'⟩)
      clear f0 f1 f2 f3 f4 f5 f6 f7 f8
      obtain ⟨w6, hw6⟩ : ∃ w6, w5.alloc (.cells #[.int .i64 p.ki, .slice u.pp p.np u.pc, .slice u.tp p.nq u.tc, .slice (some ⟨sg, 0, none⟩) p.ns p.ns, .int .u64 p.sd, .int .u64 p.lk, .int .u64 p.en, .int .i64 p.bu, .int .i64 p.fu] 27) = w6 := ⟨_, rfl⟩
      obtain ⟨hb6', hx6, hsz6⟩ := boxed _ _ _ hw6
      rw [hw6]
      obtain ⟨g8, hg8⟩ : ∃ g8, w5.heap.size = g8 := ⟨_, rfl⟩
      rw [hg8] at hx6 ⊢
      have hsgl := Own.lt hrow sg rfl
      have hb4d : Below w4.heap.size w4 w6 := HBC.out.trans ((hb5'.trans (hb6'.mono hb5'.size)).mono HBC.out.size)
      have hrow6 := Own.later hrow hb6'
      have hpu6 := hpu.below hb6'
      have hzd : w4.heap.size ≤ wd.heap.size := HBC.out.size
      have hst4 := (HB.out.2.1.below HA4.out.2.2).st
      obtain hz | ⟨gs, os, hsp, hls, hcs⟩ := hst4
      · omega
      have hst6 : StAt w6 (some ⟨gs, os, none⟩) p.ns p.S := by rw [← hsp]; exact ((HB.out.2.1.below HA4.out.2.2).st).below hb4d
      obtain ⟨_, y0, y1, y2, y3⟩ := st_four hst6 (show I < p.ns by omega)
      obtain ⟨_, z0, z1, z2, z3⟩ := st_four hst6 hI1
      obtain ⟨⟨f0, f1, f2, f3, f4, f5, f6, f7, f8⟩, _⟩ := (KG w6 hb4d).out
      rw [hsp] at f3
      have e3 : w6.cell? ⟨g8, 3, none⟩ = some (.slice (some ⟨sg, 0, none⟩) p.ns p.ns) := cell_in hx6 rfl
      have ei : IntKind.i64.wrap ((I : Int) + 1) = (I : Int) + 1 := by have := HB.out.2.2.1.ns; rw [IntKind.wrap_i64]; omega
      have i0 : (0 : Int) ≤ (I : Int) := by omega
      have i1 : (I : Int) < (p.ns : Int) := by omega
      have i2 : (0 : Int) ≤ (I : Int) + 1 := by omega
      have i3 : (I : Int) + 1 < (p.ns : Int) := by omega
      obtain ⟨cur, hblk, hcur⟩ := Own.block hrow6
      have hfz : ∀ k, w6.frozen? ⟨sg, k, none⟩ = false := fun k => by simp [World.frozen?, hblk]
      have hcl : ∀ j, j < p.ns → w6.cell? ⟨sg, j * 4, none⟩ = some (.int .u64 (p.S j).t) ∧ w6.cell? ⟨sg, j * 4 + 1, none⟩ = some (.int .i64 (p.S j).d) ∧ w6.cell? ⟨sg, j * 4 + 2, none⟩ = some (.int .i64 (p.S j).k) ∧ w6.cell? ⟨sg, j * 4 + 3, none⟩ = some (.int .i64 (p.S j).v) := fun j hj => by
        have h9 := (st_four (own_st hrow6) hj).2
        simpa only [Nat.zero_add] using h9
      obtain ⟨t0, t1, t2, t3⟩ := hcl I (by omega)
      obtain ⟨r0, r1, r2, r3⟩ := hcl (I + 1) hI1
      have l0 := hfz (I * 4); have l1 := hfz (I * 4 + 1); have l2 := hfz (I * 4 + 2); have l3 := hfz (I * 4 + 3)
      have hne1 : gs ≠ sg := by omega
      have HSP : Hid (v.sp = some ⟨gs, os, none⟩) := hsp
      have hne2 : g8 ≠ sg := by omega
      have hne3 : w.heap.size ≠ sg := by have := HB.out.2.2.2.2; have := HA4.out.2.2.size; omega
      have H6 : Hid (Own w6 wd.heap.size 72 4 (.slice (some ⟨sg, 0, none⟩) p.ns p.ns) p.ns (stF p.S) ∧ PlAt w6 p u ∧ PlOff sg p u ∧ u.sp = some ⟨sg, 0, none⟩ ∧ u.sc = p.ns ∧ w6.heap[g8]? = some (.cells #[.int .i64 p.ki, .slice u.pp p.np u.pc, .slice u.tp p.nq u.tc, .slice (some ⟨sg, 0, none⟩) p.ns p.ns, .int .u64 p.sd, .int .u64 p.lk, .int .u64 p.en, .int .i64 p.bu, .int .i64 p.fu] 27 (0, 0)) ∧ Below w4.heap.size w4 w6 ∧ wd.heap.size ≤ sg ∧ sg < g8 ∧ StAt w6 (some ⟨gs, os, none⟩) p.ns p.S ∧ gs < w4.heap.size) := ⟨hrow6, hpu6, hoff, hsg, hsc, hx6, hb4d, hsgl.1, by omega, hst6, hls⟩
      clear hw6 hb6' hx6 hsz6 hg8 hrow hrow6 hpu hpu6 hoff hsg hsc hb4d hnew hb5' hcl hfz hblk hcur hsp hcs hls hst6 hsgl hzd r0 r1 r2 r3
      go_cut [] from 42 to 51 (fun wx => wx = (((((w6).setCell ⟨sg, I * 4, none⟩ (.int .u64 (p.S (I + 1)).t)).setCell ⟨sg, I * 4 + 1, none⟩ (.int .i64 (p.S (I + 1)).d)).setCell ⟨sg, I * 4 + 2, none⟩ (.int .i64 (p.S (I + 1)).k)).setCell ⟨sg, I * 4 + 3, none⟩ (.int .i64 (p.S (I + 1)).v)).drew)
      case first =>
        go_region
        all_goals (
          go_wp2_with fail
          go_meet
          rfl)
      case rest =>
        obtain ⟨m1, m2, m3, m4, m5, m6, m7, m8, m9, m10, m11⟩ := H6.out
        obtain ⟨w7, hw7⟩ : ∃ w7, w7 = wc := ⟨_, rfl⟩
        have hcut' : w7 = (w6.setCells sg (I * 4) [.int .u64 (p.S (I + 1)).t, .int .i64 (p.S (I + 1)).d, .int .i64 (p.S (I + 1)).k, .int .i64 (p.S (I + 1)).v]).drew := hw7.trans hcut
        have hk7 : Kb (fun k => k = sg) w6 w7 := by rw [hcut']; exact (kb_sets (fun k => k = sg) sg _ w6 _ rfl).trans (Kb.below (drewS _))
        have ho7 : Own w7 wd.heap.size 72 4 (.slice (some ⟨sg, 0, none⟩) p.ns p.ns) p.ns (stF (fun j => if j = I then p.S (I + 1) else p.S j)) := by rw [hcut']; exact put_st m1 I (p.S (I + 1))
        have hb7 : Below w4.heap.size w4 w7 := by
          have h9 : Below w4.heap.size w4 w6 := m7
          rw [hcut']
          have hle : w4.heap.size ≤ sg := by have := HBC.out.size; omega
          exact ((((h9.setCell (p := ⟨sg, I * 4, none⟩) hle _).setCell (p := ⟨sg, I * 4 + 1, none⟩) hle _).setCell (p := ⟨sg, I * 4 + 2, none⟩) hle _).setCell (p := ⟨sg, I * 4 + 3, none⟩) hle _).drew
        have hst7 : StAt w7 (some ⟨gs, os, none⟩) p.ns p.S := m10.kb hk7 (by omega)
        have hx7 := (hk7.block g8 (lt_of_block m6) (by omega)).trans m6
        rw [← hw7]
        clear hcut hw7 f0 f1 f2 f3 f4 f5 f6 f7 f8 y0 y1 y2 y3 z0 z1 z2 z3 t0 t1 t2 t3 l0 l1 l2 l3 e3
        obtain ⟨_, y0, y1, y2, y3⟩ := st_four hst7 (show I < p.ns by omega)
        obtain ⟨⟨f0, f1, f2, f3, f4, f5, f6, f7, f8⟩, _⟩ := (KG w7 hb7).out
        have hsp4 : v.sp = some ⟨gs, os, none⟩ := HSP.out
        rw [hsp4] at f3
        have e3 : w7.cell? ⟨g8, 3, none⟩ = some (.slice (some ⟨sg, 0, none⟩) p.ns p.ns) := cell_in hx7 rfl
        obtain ⟨cur, hblk, hcur⟩ := Own.block ho7
        have hfz : ∀ k, w7.frozen? ⟨sg, k, none⟩ = false := fun k => by simp [World.frozen?, hblk]
        have t0123 := (st_four (own_st ho7) hI1).2
        simp only [Nat.zero_add] at t0123
        rw [if_neg (by omega)] at t0123
        obtain ⟨t0, t1, t2, t3⟩ := t0123
        have l0 := hfz ((I + 1) * 4); have l1 := hfz ((I + 1) * 4 + 1); have l2 := hfz ((I + 1) * 4 + 2); have l3 := hfz ((I + 1) * 4 + 3)
        have H7 : Hid (Own w7 wd.heap.size 72 4 (.slice (some ⟨sg, 0, none⟩) p.ns p.ns) p.ns (stF (fun j => if j = I then p.S (I + 1) else p.S j)) ∧ Kb (fun k => k = sg) w6 w7 ∧ Below w4.heap.size w4 w7 ∧ w7.heap[g8]? = some (.cells #[.int .i64 p.ki, .slice u.pp p.np u.pc, .slice u.tp p.nq u.tc, .slice (some ⟨sg, 0, none⟩) p.ns p.ns, .int .u64 p.sd, .int .u64 p.lk, .int .u64 p.en, .int .i64 p.bu, .int .i64 p.fu] 27 (0, 0))) := ⟨ho7, hk7, hb7, hx7⟩
        clear m1 m2 m3 m4 m5 m6 m7 m8 m9 m10 m11 hcut' hk7 ho7 hb7 hst7 hx7 hblk hcur hfz hsp4
        go_upto_region 7 with fail
        go_cut [] from 52 to 61 (fun wx => wx = (((((w7).setCell ⟨sg, (I + 1) * 4, none⟩ (.int .u64 (p.S I).t)).setCell ⟨sg, (I + 1) * 4 + 1, none⟩ (.int .i64 (p.S I).d)).setCell ⟨sg, (I + 1) * 4 + 2, none⟩ (.int .i64 (p.S I).k)).setCell ⟨sg, (I + 1) * 4 + 3, none⟩ (.int .i64 (p.S I).v)).drew)
        case first =>
          go_region
          all_goals (
            go_wp2_with fail
            go_meet
            rfl)
        case rest =>
          obtain ⟨m1, m2, m3, m4, m5, m6, m7, m8, m9, m10, m11⟩ := H6.out
          obtain ⟨n1, n2, n3, n4⟩ := H7.out
          obtain ⟨w8, hw8⟩ : ∃ w8, w8 = wc := ⟨_, rfl⟩
          have hcut' : w8 = (w7.setCells sg ((I + 1) * 4) [.int .u64 (p.S I).t, .int .i64 (p.S I).d, .int .i64 (p.S I).k, .int .i64 (p.S I).v]).drew := hw8.trans hcut
          have hk8 : Kb (fun k => k = sg) w7 w8 := by rw [hcut']; exact (kb_sets (fun k => k = sg) sg _ w7 _ rfl).trans (Kb.below (drewS _))
          have ho8 : Own w8 wd.heap.size 72 4 (.slice (some ⟨sg, 0, none⟩) p.ns p.ns) p.ns (stF (swS p.S I)) := by
            rw [hcut']
            refine Own.congr (put_st n1 (I + 1) (p.S I)) fun j hj => ?_
            have e9 : (fun j => if j = I + 1 then p.S I else (fun j => if j = I then p.S (I + 1) else p.S j) j) = swS p.S I := by
              funext j
              unfold swS
              dsimp only
              by_cases e1 : j = I
              · rw [if_neg (by omega), if_pos e1, if_pos e1]
              · rw [if_neg e1, if_neg e1]
            rw [e9]
          have hb8 : Below w4.heap.size w4 w8 := by
            rw [hcut']
            have hle : w4.heap.size ≤ sg := by have := HBC.out.size; omega
            exact ((((n3.setCell (p := ⟨sg, (I + 1) * 4, none⟩) hle _).setCell (p := ⟨sg, (I + 1) * 4 + 1, none⟩) hle _).setCell (p := ⟨sg, (I + 1) * 4 + 2, none⟩) hle _).setCell (p := ⟨sg, (I + 1) * 4 + 3, none⟩) hle _).drew
          have hx8 := (hk8.block g8 (lt_of_block n4) (by omega)).trans n4
          have hpl8 : PlAt w8 (swA p I) u := m2.starts m3 (n2.trans hk8) (by rw [m4]; exact own_st ho8) ⟨rfl, rfl⟩ ⟨rfl, rfl, rfl, rfl⟩
          rw [← hw8]
          have KG8 : ∀ W, Below w8.heap.size w8 W → ((W.cell? ⟨g4, 0, none⟩ = some (.int .i64 D.k) ∧ W.cell? ⟨g4, 1, none⟩ = some (.int .i64 D.cd) ∧ W.cell? ⟨g4, 2, none⟩ = some (.int .u64 D.x.t) ∧ W.cell? ⟨g4, 3, none⟩ = some (.int .i64 D.x.s) ∧ W.cell? ⟨g4, 4, none⟩ = some (.int .u64 D.x.q) ∧ W.cell? ⟨g4, 5, none⟩ = some (.int .i64 0) ∧ W.cell? ⟨g4, 6, none⟩ = some (.slice q1 D.n c1) ∧ W.cell? ⟨g4, 7, none⟩ = some (.slice q3 D.m c3)) ∧ (W.cell? ⟨g8, 0, none⟩ = some (.int .i64 p.ki) ∧ W.cell? ⟨g8, 1, none⟩ = some (.slice u.pp p.np u.pc) ∧ W.cell? ⟨g8, 2, none⟩ = some (.slice u.tp p.nq u.tc) ∧ W.cell? ⟨g8, 3, none⟩ = some (.slice (some ⟨sg, 0, none⟩) p.ns p.ns) ∧ W.cell? ⟨g8, 4, none⟩ = some (.int .u64 p.sd) ∧ W.cell? ⟨g8, 5, none⟩ = some (.int .u64 p.lk) ∧ W.cell? ⟨g8, 6, none⟩ = some (.int .u64 p.en) ∧ W.cell? ⟨g8, 7, none⟩ = some (.int .i64 p.bu) ∧ W.cell? ⟨g8, 8, none⟩ = some (.int .i64 p.fu))) := fun W hb => by
            have e8 := (hb.block _ (lt_of_block hx8)).trans hx8
            exact ⟨(KG W (hb8.trans (hb.mono hb8.size))).out.2, cell_in e8 rfl, cell_in e8 rfl, cell_in e8 rfl, cell_in e8 rfl, cell_in e8 rfl, cell_in e8 rfl, cell_in e8 rfl, cell_in e8 rfl, cell_in e8 rfl⟩
          have HRUN : ∀ W, Below w8.heap.size w8 W → Hid (Calls Tryz.prog 15 #[.agg #[.int .i64 p.ki, .slice u.pp p.np u.pc, .slice u.tp p.nq u.tc, .slice (some ⟨sg, 0, none⟩) p.ns p.ns, .int .u64 p.sd, .int .u64 p.lk, .int .u64 p.en, .int .i64 p.bu, .int .i64 p.fu]] W fun r w' => ∃ (q1' : Option Addr) (c1' : Nat) (CC' : Nat → Sa) (q3' : Option Addr) (c3' : Nat), r = .returned (.agg #[.int .i64 D.k, .int .i64 D.cd, .int .u64 D.x.t, .int .i64 D.x.s, .int .u64 D.x.q, .int .i64 0, .slice q1' D.n c1', .slice q3' D.m c3']) ∧ RDAt w' D q1' CC' q3' ∧ Below W.heap.size W w') := fun W hb => by
            have hr := HB.out.2.2.1
            have h9 := sqRun_all (swA p I) u W (hpl8.below hb) ⟨hr.np, hr.pg, hr.nq, hr.nw, hr.ns⟩ (fun h => sw_ok hI1 (HB.out.2.2.2.1 (sw_vc' hI1 h)))
            rw [m4, m5] at h9
            refine Calls.mono h9 ?_
            rintro r w' ⟨D', q1', c1', CC', q3', c3', rfl, k1, k2, k3, k4, k5⟩
            obtain rfl := k1.one (HRD.out.sw hI1 HDD.out)
            exact ⟨q1', c1', CC', q3', c3', rfl, k3, k5⟩
          have HAT : Hid (∀ W, Below w8.heap.size w8 W → RDAt W D q1 CC q3) := fun W hb => HA4.out.1.below (hb8.trans (hb.mono hb8.size))
          have HB8 : Hid (Below w4.heap.size w4 w8) := hb8
          have hbd : Below w8.heap.size w8 w8.drew := (Below.refl _ w8).drew
          clear m1 m2 m3 m4 m5 m6 m7 m8 m9 m10 m11 n1 n2 n3 n4 hcut hcut' hw8 hk8 ho8 hb8 hx8 hpl8 f0 f1 f2 f3 f4 f5 f6 f7 f8 y0 y1 y2 y3 t0 t1 t2 t3 l0 l1 l2 l3 e3
          go_upto_region 8 with fail
          refine wp_region_held_drew (S := fun W9 => Below w8.heap.size w8 W9) (by kernel_rfl) hbd (fun hHeld => ?_)
          have hS0 : Below w8.heap.size w8 w8.drew := hHeld
          refine wpAnyH_take (i := 0) (v := ?hv0s) rfl (by kernel_rfl) (by kernel_rfl) (by kernel_rfl) (fun _ _ _ h => h) (Or.inl ⟨by rfl, ?hy0s⟩) (by assumption) ?hr0s
          case hy0s => ((intro W9 hSw; obtain ⟨⟨a0, a1, a2, a3, a4, a5, a6, a7⟩, b0, b1, b2, b3, b4, b5, b6, b7, b8⟩ := KG8 W9 hSw; go_simp); try with_reducible rfl)
          simp only [List.getElem_toArray, List.getElem_cons_zero, List.getElem_cons_succ, Act.put, List.setIfInBounds_toArray, List.set_cons_zero, List.set_cons_succ]
          refine wpAnyH_take (i := 1) (v := ?hv1s) rfl (by kernel_rfl) (by kernel_rfl) (by kernel_rfl) (fun _ _ _ h => h) (Or.inl ⟨by rfl, ?hy1s⟩) (by assumption) ?hr1s
          case hy1s => ((intro W9 hSw; obtain ⟨⟨a0, a1, a2, a3, a4, a5, a6, a7⟩, b0, b1, b2, b3, b4, b5, b6, b7, b8⟩ := KG8 W9 hSw; go_simp); try with_reducible rfl)
          simp only [List.getElem_toArray, List.getElem_cons_zero, List.getElem_cons_succ, Act.put, List.setIfInBounds_toArray, List.set_cons_zero, List.set_cons_succ]
          refine wpAnyH_ready (rs := [2]) (by kernel_rfl) (by simp) (AllReadyH.cons rfl (fun KK9 hK => ?_) AllReadyH.nil)
          all_goals dsimp -proj only [List.getElem_toArray, List.getElem_cons_zero, List.getElem_cons_succ]
          go_simp
          go_at_call 15
          refine (HRUN w8.drew hS0).out.mono ?_
          rintro e y1 ⟨q1', c1', CC', q3', c3', rfl, hat', hby1⟩
          try go_wp2_with fail
          have hy1 : Below w8.heap.size w8 y1 := hS0.trans (hby1.mono hS0.size)
          refine hK.out _ _ hy1 (fun hHeld => ?_)
          clear hK KK9
          try simp only [Act.put, List.setIfInBounds_toArray, List.set_cons_zero, List.set_cons_succ]
          refine wpAnyH_ready (rs := [3]) (by kernel_rfl) (by simp) (AllReadyH.cons rfl (fun KK9 hK => ?_) AllReadyH.nil)
          all_goals dsimp -proj only [List.getElem_toArray, List.getElem_cons_zero, List.getElem_cons_succ]
          go_simp
          go_at_call 17
          refine (sameRD D HDK.out q1 q3 q1' q3' c1 c3 c1' c3' CC CC' y1 (HAT.out y1 hy1) hat').mono ?_
          rintro e y2 ⟨rfl, hby2⟩
          try go_wp2_with fail
          have hy2 : Below w8.heap.size w8 y2 := hy1.trans (hby2.mono hy1.size)
          refine hK.out _ _ hy2 (fun hHeld => ?_)
          clear hK KK9
          try simp only [Act.put, List.setIfInBounds_toArray, List.set_cons_zero, List.set_cons_succ]
          refine wpAnyH_take (i := 4) (v := ?hv4s) rfl (by kernel_rfl) (by kernel_rfl) (by kernel_rfl) (fun _ _ _ h => h) (Or.inl ⟨by rfl, ?hy4s⟩) (by assumption) ?hr4s
          case hy4s => ((intro W9 hSw; skip; go_simp); try with_reducible rfl)
          simp only [List.getElem_toArray, List.getElem_cons_zero, List.getElem_cons_succ, Act.put, List.setIfInBounds_toArray, List.set_cons_zero, List.set_cons_succ]
          refine wpAnyH_done (by kernel_rfl) ?_ _
          go_wp2_with fail
          go_meet
          case rel => exact HB8.out.trans (hy2.mono HB8.out.size)
    case rest =>
      obtain ⟨wd2, rfl⟩ : ∃ wd2, wd2 = wc := ⟨_, rfl⟩
      obtain ⟨⟨f0, f1, f2, f3, f4, f5, f6, f7, f8⟩, a0, a1, _⟩ := (KG wd2 hcut).out
      have HBF : Hid (Below w.heap.size w wd2) := HBW.out.trans (hcut.mono HBW.out.size)
      by_cases ha : f < p.fu
      case pos =>
        have d0 : decide (f < p.fu) = true := decide_eq_true ha
        go_wp2_with fail
        go_ret
        exact ⟨rfl, HBF.out⟩
      have d0 : decide (f < p.fu) = false := decide_eq_false ha
      by_cases hb : 4096 < f
      case pos =>
        have d1 : decide (f > 4096) = true := decide_eq_true hb
        have d2 : decide (4096 < f) = true := decide_eq_true hb
        go_wp2_with fail
        go_ret
        exact ⟨rfl, HBF.out⟩
      have d1 : decide (f > 4096) = false := decide_eq_false hb
      have d2 : decide (4096 < f) = false := decide_eq_false hb
      by_cases hc : p.fu < 1
      case pos =>
        have d3 : decide (p.fu < 1) = true := decide_eq_true hc
        go_wp2_with fail
        go_ret
        exact ⟨rfl, HBF.out⟩
      have d3 : decide (p.fu < 1) = false := decide_eq_false hc
      have KGF : ∀ W, Below wd2.heap.size wd2 W → (W.cell? ⟨g4, 0, none⟩ = some (.int .i64 D.k) ∧ W.cell? ⟨g4, 1, none⟩ = some (.int .i64 D.cd) ∧ W.cell? ⟨g4, 2, none⟩ = some (.int .u64 D.x.t) ∧ W.cell? ⟨g4, 3, none⟩ = some (.int .i64 D.x.s) ∧ W.cell? ⟨g4, 4, none⟩ = some (.int .u64 D.x.q) ∧ W.cell? ⟨g4, 5, none⟩ = some (.int .i64 0) ∧ W.cell? ⟨g4, 6, none⟩ = some (.slice q1 D.n c1) ∧ W.cell? ⟨g4, 7, none⟩ = some (.slice q3 D.m c3)) := fun W hb9 => (KG W (hcut.trans (hb9.mono hcut.size))).out.2
      have HPW : Hid (PlAt wd2 p v) := (HB.out.2.1.below HA4.out.2.2).below hcut
      have HATF : Hid (∀ W, Below wd2.heap.size wd2 W → RDAt W D q1 CC q3) := fun W hb9 => HA4.out.1.below (hcut.trans (hb9.mono hcut.size))
      have HABC : Hid (¬ f < p.fu ∧ ¬ 4096 < f ∧ ¬ p.fu < 1) := ⟨ha, hb, hc⟩
      clear ha hb hc hcut
      by_cases hk3 : D.k = 3
      case pos =>
        have d4 : (D.k == 3) = true := by simpa using hk3
        by_cases hc2 : D.cd = 200
        case pos =>
          have d5 : (D.cd == 200) = true := by simpa using hc2
          clear hk3 hc2
          go_wp2_with fail
          go_ret
          exact ⟨rfl, HBF.out⟩
        have d5 : (D.cd == 200) = false := by simpa using hc2
        have HNE : Hid (¬ (D.k = 3 ∧ D.cd = 200)) := fun e => hc2 e.2
        clear hk3 hc2
        obtain ⟨w5, hw5⟩ : ∃ w5, wd2.alloc (.cells #[.int .i64 p.ki, .slice v.pp p.np v.pc, .slice v.tp p.nq v.tc, .slice v.sp p.ns v.sc, .int .u64 p.sd, .int .u64 p.lk, .int .u64 p.en, .int .i64 p.bu, .int .i64 f] 27) = w5 := ⟨_, rfl⟩
        obtain ⟨hb5, hx5, hsz5⟩ := boxed _ _ _ hw5
        have HW5 : Hid (wd2.alloc (.cells #[.int .i64 p.ki, .slice v.pp p.np v.pc, .slice v.tp p.nq v.tc, .slice v.sp p.ns v.sc, .int .u64 p.sd, .int .u64 p.lk, .int .u64 p.en, .int .i64 p.bu, .int .i64 f] 27) = w5) := hw5
        obtain ⟨g9, hg9⟩ : ∃ g9, wd2.heap.size = g9 := ⟨_, rfl⟩
        have HG9 : Hid (wd2.heap.size = g9) := hg9
        have KG9 : ∀ W, Below w5.heap.size w5 W → ((W.cell? ⟨g4, 0, none⟩ = some (.int .i64 D.k) ∧ W.cell? ⟨g4, 1, none⟩ = some (.int .i64 D.cd) ∧ W.cell? ⟨g4, 2, none⟩ = some (.int .u64 D.x.t) ∧ W.cell? ⟨g4, 3, none⟩ = some (.int .i64 D.x.s) ∧ W.cell? ⟨g4, 4, none⟩ = some (.int .u64 D.x.q) ∧ W.cell? ⟨g4, 5, none⟩ = some (.int .i64 0) ∧ W.cell? ⟨g4, 6, none⟩ = some (.slice q1 D.n c1) ∧ W.cell? ⟨g4, 7, none⟩ = some (.slice q3 D.m c3)) ∧ (W.cell? ⟨g9, 0, none⟩ = some (.int .i64 p.ki) ∧ W.cell? ⟨g9, 1, none⟩ = some (.slice v.pp p.np v.pc) ∧ W.cell? ⟨g9, 2, none⟩ = some (.slice v.tp p.nq v.tc) ∧ W.cell? ⟨g9, 3, none⟩ = some (.slice v.sp p.ns v.sc) ∧ W.cell? ⟨g9, 4, none⟩ = some (.int .u64 p.sd) ∧ W.cell? ⟨g9, 5, none⟩ = some (.int .u64 p.lk) ∧ W.cell? ⟨g9, 6, none⟩ = some (.int .u64 p.en) ∧ W.cell? ⟨g9, 7, none⟩ = some (.int .i64 p.bu) ∧ W.cell? ⟨g9, 8, none⟩ = some (.int .i64 f))) := fun W hb9 => by
          rw [hg9] at hx5
          have e8 := (hb9.block _ (lt_of_block hx5)).trans hx5
          exact ⟨KGF W (hb5.trans (hb9.mono hb5.size)), cell_in e8 rfl, cell_in e8 rfl, cell_in e8 rfl, cell_in e8 rfl, cell_in e8 rfl, cell_in e8 rfl, cell_in e8 rfl, cell_in e8 rfl, cell_in e8 rfl⟩
        have HRUN : ∀ W, Below w5.heap.size w5 W → Hid (Calls Tryz.prog 15 #[.agg #[.int .i64 p.ki, .slice v.pp p.np v.pc, .slice v.tp p.nq v.tc, .slice v.sp p.ns v.sc, .int .u64 p.sd, .int .u64 p.lk, .int .u64 p.en, .int .i64 p.bu, .int .i64 f]] W fun r w' => ∃ (q1' : Option Addr) (c1' : Nat) (CC' : Nat → Sa) (q3' : Option Addr) (c3' : Nat), r = .returned (.agg #[.int .i64 D.k, .int .i64 D.cd, .int .u64 D.x.t, .int .i64 D.x.s, .int .u64 D.x.q, .int .i64 0, .slice q1' D.n c1', .slice q3' D.m c3']) ∧ RDAt w' D q1' CC' q3' ∧ Below W.heap.size W w') := fun W hb9 => by
          have hr := HB.out.2.2.1
          obtain ⟨x1, x2, x3⟩ := HABC.out
          have hpp := (HPW.out.below hb5).below hb9
          have h9 := sqRun_all (fuA p f) v W ⟨hpp.ps, hpp.ts, hpp.st⟩ ⟨hr.np, hr.pg, hr.nq, hr.nw, hr.ns⟩ (fun h => fuA_ok (HB.out.2.2.2.1 (fuA_vc' (by omega) (by omega) (by omega) h)) (by omega) (by omega))
          refine Calls.mono h9 ?_
          rintro r w' ⟨D', q1', c1', CC', q3', c3', rfl, k1, k2, k3, k4, k5⟩
          obtain rfl := k1.one (HRD.out.fu HB.out.2.2.2.1 (f := f) (by omega) (by omega) (by omega) HNE.out)
          exact ⟨q1', c1', CC', q3', c3', rfl, k3, k5⟩
        have HAT : Hid (∀ W, Below w5.heap.size w5 W → RDAt W D q1 CC q3) := fun W hb9 => HATF.out W (hb5.trans (hb9.mono hb5.size))
        have HB5 : Hid (Below w.heap.size w w5) := HBF.out.trans (hb5.mono HBF.out.size)
        have hbd : Below w5.heap.size w5 w5.drew := (Below.refl _ w5).drew
        clear hw5 hsz5 hx5 hb5 hg9
        go_upto_region 14 with fail
        rw [HW5.out, HG9.out]
        clear f0 f1 f2 f3 f4 f5 f6 f7 f8 a0 a1
        refine wp_region_held_drew (S := fun W9 => Below w5.heap.size w5 W9) (by kernel_rfl) hbd (fun hHeld => ?_)
        have hS0 : Below w5.heap.size w5 w5.drew := hHeld
        refine wpAnyH_take (i := 0) (v := ?hv0t) rfl (by kernel_rfl) (by kernel_rfl) (by kernel_rfl) (fun _ _ _ h => h) (Or.inl ⟨by rfl, ?hy0t⟩) (by assumption) ?hr0t
        case hy0t => ((intro W9 hSw; obtain ⟨⟨a0, a1, a2, a3, a4, a5, a6, a7⟩, b0, b1, b2, b3, b4, b5, b6, b7, b8⟩ := KG9 W9 hSw; go_simp); try with_reducible rfl)
        simp only [List.getElem_toArray, List.getElem_cons_zero, List.getElem_cons_succ, Act.put, List.setIfInBounds_toArray, List.set_cons_zero, List.set_cons_succ]
        refine wpAnyH_take (i := 1) (v := ?hv1t) rfl (by kernel_rfl) (by kernel_rfl) (by kernel_rfl) (fun _ _ _ h => h) (Or.inl ⟨by rfl, ?hy1t⟩) (by assumption) ?hr1t
        case hy1t => ((intro W9 hSw; obtain ⟨⟨a0, a1, a2, a3, a4, a5, a6, a7⟩, b0, b1, b2, b3, b4, b5, b6, b7, b8⟩ := KG9 W9 hSw; go_simp); try with_reducible rfl)
        simp only [List.getElem_toArray, List.getElem_cons_zero, List.getElem_cons_succ, Act.put, List.setIfInBounds_toArray, List.set_cons_zero, List.set_cons_succ]
        refine wpAnyH_ready (rs := [2]) (by kernel_rfl) (by simp) (AllReadyH.cons rfl (fun KK9 hK => ?_) AllReadyH.nil)
        all_goals dsimp -proj only [List.getElem_toArray, List.getElem_cons_zero, List.getElem_cons_succ]
        go_simp
        go_at_call 15
        refine (HRUN w5.drew hS0).out.mono ?_
        rintro e y1 ⟨q1', c1', CC', q3', c3', rfl, hat', hby1⟩
        try go_wp2_with fail
        have hy1 : Below w5.heap.size w5 y1 := hS0.trans (hby1.mono hS0.size)
        refine hK.out _ _ hy1 (fun hHeld => ?_)
        clear hK KK9
        try simp only [Act.put, List.setIfInBounds_toArray, List.set_cons_zero, List.set_cons_succ]
        refine wpAnyH_ready (rs := [3]) (by kernel_rfl) (by simp) (AllReadyH.cons rfl (fun KK9 hK => ?_) AllReadyH.nil)
        all_goals dsimp -proj only [List.getElem_toArray, List.getElem_cons_zero, List.getElem_cons_succ]
        go_simp
        go_at_call 17
        refine (sameRD D HDK.out q1 q3 q1' q3' c1 c3 c1' c3' CC CC' y1 (HAT.out y1 hy1) hat').mono ?_
        rintro e y2 ⟨rfl, hby2⟩
        try go_wp2_with fail
        have hy2 : Below w5.heap.size w5 y2 := hy1.trans (hby2.mono hy1.size)
        refine hK.out _ _ hy2 (fun hHeld => ?_)
        clear hK KK9
        try simp only [Act.put, List.setIfInBounds_toArray, List.set_cons_zero, List.set_cons_succ]
        refine wpAnyH_take (i := 4) (v := ?hv4t) rfl (by kernel_rfl) (by kernel_rfl) (by kernel_rfl) (fun _ _ _ h => h) (Or.inl ⟨by rfl, ?hy4t⟩) (by assumption) ?hr4t
        case hy4t => ((intro W9 hSw; skip; go_simp); try with_reducible rfl)
        simp only [List.getElem_toArray, List.getElem_cons_zero, List.getElem_cons_succ, Act.put, List.setIfInBounds_toArray, List.set_cons_zero, List.set_cons_succ]
        refine wpAnyH_done (by kernel_rfl) ?_ _
        go_wp2_with fail
        go_ret
        exact ⟨rfl, HB5.out.trans (hy2.mono HB5.out.size)⟩
      have d4 : (D.k == 3) = false := by simpa using hk3
      have HNE : Hid (¬ (D.k = 3 ∧ D.cd = 200)) := fun e => hk3 e.1
      clear hk3
      obtain ⟨w5, hw5⟩ : ∃ w5, wd2.alloc (.cells #[.int .i64 p.ki, .slice v.pp p.np v.pc, .slice v.tp p.nq v.tc, .slice v.sp p.ns v.sc, .int .u64 p.sd, .int .u64 p.lk, .int .u64 p.en, .int .i64 p.bu, .int .i64 f] 27) = w5 := ⟨_, rfl⟩
      obtain ⟨hb5, hx5, hsz5⟩ := boxed _ _ _ hw5
      have HW5 : Hid (wd2.alloc (.cells #[.int .i64 p.ki, .slice v.pp p.np v.pc, .slice v.tp p.nq v.tc, .slice v.sp p.ns v.sc, .int .u64 p.sd, .int .u64 p.lk, .int .u64 p.en, .int .i64 p.bu, .int .i64 f] 27) = w5) := hw5
      obtain ⟨g9, hg9⟩ : ∃ g9, wd2.heap.size = g9 := ⟨_, rfl⟩
      have HG9 : Hid (wd2.heap.size = g9) := hg9
      have KG9 : ∀ W, Below w5.heap.size w5 W → ((W.cell? ⟨g4, 0, none⟩ = some (.int .i64 D.k) ∧ W.cell? ⟨g4, 1, none⟩ = some (.int .i64 D.cd) ∧ W.cell? ⟨g4, 2, none⟩ = some (.int .u64 D.x.t) ∧ W.cell? ⟨g4, 3, none⟩ = some (.int .i64 D.x.s) ∧ W.cell? ⟨g4, 4, none⟩ = some (.int .u64 D.x.q) ∧ W.cell? ⟨g4, 5, none⟩ = some (.int .i64 0) ∧ W.cell? ⟨g4, 6, none⟩ = some (.slice q1 D.n c1) ∧ W.cell? ⟨g4, 7, none⟩ = some (.slice q3 D.m c3)) ∧ (W.cell? ⟨g9, 0, none⟩ = some (.int .i64 p.ki) ∧ W.cell? ⟨g9, 1, none⟩ = some (.slice v.pp p.np v.pc) ∧ W.cell? ⟨g9, 2, none⟩ = some (.slice v.tp p.nq v.tc) ∧ W.cell? ⟨g9, 3, none⟩ = some (.slice v.sp p.ns v.sc) ∧ W.cell? ⟨g9, 4, none⟩ = some (.int .u64 p.sd) ∧ W.cell? ⟨g9, 5, none⟩ = some (.int .u64 p.lk) ∧ W.cell? ⟨g9, 6, none⟩ = some (.int .u64 p.en) ∧ W.cell? ⟨g9, 7, none⟩ = some (.int .i64 p.bu) ∧ W.cell? ⟨g9, 8, none⟩ = some (.int .i64 f))) := fun W hb9 => by
        rw [hg9] at hx5
        have e8 := (hb9.block _ (lt_of_block hx5)).trans hx5
        exact ⟨KGF W (hb5.trans (hb9.mono hb5.size)), cell_in e8 rfl, cell_in e8 rfl, cell_in e8 rfl, cell_in e8 rfl, cell_in e8 rfl, cell_in e8 rfl, cell_in e8 rfl, cell_in e8 rfl, cell_in e8 rfl⟩
      have HRUN : ∀ W, Below w5.heap.size w5 W → Hid (Calls Tryz.prog 15 #[.agg #[.int .i64 p.ki, .slice v.pp p.np v.pc, .slice v.tp p.nq v.tc, .slice v.sp p.ns v.sc, .int .u64 p.sd, .int .u64 p.lk, .int .u64 p.en, .int .i64 p.bu, .int .i64 f]] W fun r w' => ∃ (q1' : Option Addr) (c1' : Nat) (CC' : Nat → Sa) (q3' : Option Addr) (c3' : Nat), r = .returned (.agg #[.int .i64 D.k, .int .i64 D.cd, .int .u64 D.x.t, .int .i64 D.x.s, .int .u64 D.x.q, .int .i64 0, .slice q1' D.n c1', .slice q3' D.m c3']) ∧ RDAt w' D q1' CC' q3' ∧ Below W.heap.size W w') := fun W hb9 => by
        have hr := HB.out.2.2.1
        obtain ⟨x1, x2, x3⟩ := HABC.out
        have hpp := (HPW.out.below hb5).below hb9
        have h9 := sqRun_all (fuA p f) v W ⟨hpp.ps, hpp.ts, hpp.st⟩ ⟨hr.np, hr.pg, hr.nq, hr.nw, hr.ns⟩ (fun h => fuA_ok (HB.out.2.2.2.1 (fuA_vc' (by omega) (by omega) (by omega) h)) (by omega) (by omega))
        refine Calls.mono h9 ?_
        rintro r w' ⟨D', q1', c1', CC', q3', c3', rfl, k1, k2, k3, k4, k5⟩
        obtain rfl := k1.one (HRD.out.fu HB.out.2.2.2.1 (f := f) (by omega) (by omega) (by omega) HNE.out)
        exact ⟨q1', c1', CC', q3', c3', rfl, k3, k5⟩
      have HAT : Hid (∀ W, Below w5.heap.size w5 W → RDAt W D q1 CC q3) := fun W hb9 => HATF.out W (hb5.trans (hb9.mono hb5.size))
      have HB5 : Hid (Below w.heap.size w w5) := HBF.out.trans (hb5.mono HBF.out.size)
      have hbd : Below w5.heap.size w5 w5.drew := (Below.refl _ w5).drew
      clear hw5 hsz5 hx5 hb5 hg9
      go_upto_region 14 with fail
      rw [HW5.out, HG9.out]
      clear f0 f1 f2 f3 f4 f5 f6 f7 f8 a0 a1
      refine wp_region_held_drew (S := fun W9 => Below w5.heap.size w5 W9) (by kernel_rfl) hbd (fun hHeld => ?_)
      have hS0 : Below w5.heap.size w5 w5.drew := hHeld
      refine wpAnyH_take (i := 0) (v := ?hv0u) rfl (by kernel_rfl) (by kernel_rfl) (by kernel_rfl) (fun _ _ _ h => h) (Or.inl ⟨by rfl, ?hy0u⟩) (by assumption) ?hr0u
      case hy0u => ((intro W9 hSw; obtain ⟨⟨a0, a1, a2, a3, a4, a5, a6, a7⟩, b0, b1, b2, b3, b4, b5, b6, b7, b8⟩ := KG9 W9 hSw; go_simp); try with_reducible rfl)
      simp only [List.getElem_toArray, List.getElem_cons_zero, List.getElem_cons_succ, Act.put, List.setIfInBounds_toArray, List.set_cons_zero, List.set_cons_succ]
      refine wpAnyH_take (i := 1) (v := ?hv1u) rfl (by kernel_rfl) (by kernel_rfl) (by kernel_rfl) (fun _ _ _ h => h) (Or.inl ⟨by rfl, ?hy1u⟩) (by assumption) ?hr1u
      case hy1u => ((intro W9 hSw; obtain ⟨⟨a0, a1, a2, a3, a4, a5, a6, a7⟩, b0, b1, b2, b3, b4, b5, b6, b7, b8⟩ := KG9 W9 hSw; go_simp); try with_reducible rfl)
      simp only [List.getElem_toArray, List.getElem_cons_zero, List.getElem_cons_succ, Act.put, List.setIfInBounds_toArray, List.set_cons_zero, List.set_cons_succ]
      refine wpAnyH_ready (rs := [2]) (by kernel_rfl) (by simp) (AllReadyH.cons rfl (fun KK9 hK => ?_) AllReadyH.nil)
      all_goals dsimp -proj only [List.getElem_toArray, List.getElem_cons_zero, List.getElem_cons_succ]
      go_simp
      go_at_call 15
      refine (HRUN w5.drew hS0).out.mono ?_
      rintro e y1 ⟨q1', c1', CC', q3', c3', rfl, hat', hby1⟩
      try go_wp2_with fail
      have hy1 : Below w5.heap.size w5 y1 := hS0.trans (hby1.mono hS0.size)
      refine hK.out _ _ hy1 (fun hHeld => ?_)
      clear hK KK9
      try simp only [Act.put, List.setIfInBounds_toArray, List.set_cons_zero, List.set_cons_succ]
      refine wpAnyH_ready (rs := [3]) (by kernel_rfl) (by simp) (AllReadyH.cons rfl (fun KK9 hK => ?_) AllReadyH.nil)
      all_goals dsimp -proj only [List.getElem_toArray, List.getElem_cons_zero, List.getElem_cons_succ]
      go_simp
      go_at_call 17
      refine (sameRD D HDK.out q1 q3 q1' q3' c1 c3 c1' c3' CC CC' y1 (HAT.out y1 hy1) hat').mono ?_
      rintro e y2 ⟨rfl, hby2⟩
      try go_wp2_with fail
      have hy2 : Below w5.heap.size w5 y2 := hy1.trans (hby2.mono hy1.size)
      refine hK.out _ _ hy2 (fun hHeld => ?_)
      clear hK KK9
      try simp only [Act.put, List.setIfInBounds_toArray, List.set_cons_zero, List.set_cons_succ]
      refine wpAnyH_take (i := 4) (v := ?hv4u) rfl (by kernel_rfl) (by kernel_rfl) (by kernel_rfl) (fun _ _ _ h => h) (Or.inl ⟨by rfl, ?hy4u⟩) (by assumption) ?hr4u
      case hy4u => ((intro W9 hSw; skip; go_simp); try with_reducible rfl)
      simp only [List.getElem_toArray, List.getElem_cons_zero, List.getElem_cons_succ, Act.put, List.setIfInBounds_toArray, List.set_cons_zero, List.set_cons_succ]
      refine wpAnyH_done (by kernel_rfl) ?_ _
      go_wp2_with fail
      go_ret
      exact ⟨rfl, HB5.out.trans (hy2.mono HB5.out.size)⟩
end Go.Proofs.YtagchghhpggnlaaGreat
