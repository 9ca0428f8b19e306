import Derived.Test.YtciaacckdodhcaaGreatR6b
import Derived.Test.YtciaacckdodhcaaGreatDBelow
import Derived.Test.YtciaacckdodhcaaGreatDWaits
import Derived.Test.YtciaacckdodhcaaGreatM9b
import Derived.Deep.RegionLaw
namespace Go.Proofs.YtciaacckdodhcaaGreat
open Go.ChangeShapes Go.WideShapes Go.ChangeAt Go.RowKit
set_option linter.unusedVariables false
set_option linter.unusedSimpArgs false

/-- the dice written -/
theorem RWs.setDice {w0 W : World} {base mb nw nl : Nat} {C : Nat → Value} {M : Mc} {sv lv ov : Value} {at_ : Int} (h : RWs w0 W base mb nw nl C M sv lv ov at_) (d : Int) : RWs w0 (W.setCell ⟨mb, 17, none⟩ (.int .u64 d)) base mb nw nl C { M with dice := d } sv lv ov at_ := by
  refine h.cells (grown_set W mb 17 _) ?_ rfl rfl rfl rfl rfl h.st rfl
  refine h.box.put 17 _ rfl fun j hj hne => ?_
  unfold rF
  repeat' split
  all_goals first | rfl | omega
set_option maxRecDepth 100000 in
set_option maxHeartbeats 1000000 in
theorem rthrow_bad (w0 w : World) (base mb nw nl : Nat) (C : Nat → Value) (M : Mc) (sv lv ov : Value) (at_ : Int) (o : Int) (h : RWs w0 w base mb nw nl C M sv lv ov at_) (h0 : Nat) (hh : M.hi = h0 + 1) (h64 : M.hi ≤ 64) (hT : topM M < 1) :
    Calls Tryz.prog 69 #[.pointer (some ⟨mb, 0, none⟩), .int .i64 o] w fun e w' => e = .returned (.int .i64 208) ∧ Below base w0 w' := by
  have HG := rtake w0 w base mb nw nl C M sv lv ov at_ h h0 hh h64
  generalize topM M = T at *
  clear h hh
  go_enter Tryz.func69, Tryz.ntmps69
  go_wp2_with ((go_at_call 64; (with_reducible refine HG.mono ?_); rintro e w1 ⟨rfl, sv1, m1, hs1, o1⟩))
  go_ret
  exact ⟨rfl, m1.bel⟩
set_option maxRecDepth 100000 in
set_option maxHeartbeats 1000000 in
theorem rthrow_37 (w0 w : World) (base mb nw nl : Nat) (C : Nat → Value) (M : Mc) (sv lv ov : Value) (at_ : Int) (h : RWs w0 w base mb nw nl C M sv lv ov at_) (h0 : Nat) (hh : M.hi = h0 + 1) (h64 : M.hi ≤ 64) (hT : 1 ≤ topM M ∧ topM M ≤ 9223372036854775807) :
    Calls Tryz.prog 69 #[.pointer (some ⟨mb, 0, none⟩), .int .i64 37] w fun e w' => e = .returned (.int .i64 0) ∧ RX w0 w' base mb nw nl C { pushM (popM M) (rollV M.dice (topM M)).1 with dice := (rollV M.dice (topM M)).2 } at_ := by
  have HG := rtake w0 w base mb nw nl C M sv lv ov at_ h h0 hh h64
  generalize topM M = T at *
  have HR : ∀ W, Calls Tryz.prog 90 #[.int .u64 M.dice, .int .u64 T] W fun e w' => e = .returned (.tuple #[.int .u64 (rollV M.dice T).1, .int .u64 (rollV M.dice T).2, .int .i64 0]) ∧ w' = W := fun W => rbelow_any M.dice T ⟨by omega, by omega⟩ W
  obtain ⟨hx, hy⟩ := rollV_b M.dice T ⟨by omega, hT.2⟩
  generalize rollV M.dice T = rv at HR hx hy ⊢
  have e1 := conv_u T ⟨by omega, hT.2⟩
  have e2 := conv_i rv.1 hx
  have d1 : ¬ (T < 1) := by omega
  have hq : M.hi - 1 < 64 := by omega
  clear h hh
  go_enter Tryz.func69, Tryz.ntmps69
  go_wp2_with (first | (go_at_call 64; (with_reducible refine HG.mono ?_); rintro e w1 ⟨rfl, sv1, m1, hs1, o1⟩; have c17 : w1.cell? ⟨mb, 17, none⟩ = some (.int .u64 M.dice) := m1.box.cell 17 (by decide); have f17 := m1.box.frozen 17; have HG2 := rgive w0 _ base mb nw nl C _ sv1 lv ov at_ (m1.setDice rv.2) rv.1 hq) | (go_at_call 90; (with_reducible refine (HR _).mono ?_); rintro e w2 ⟨rfl, rfl⟩) | (go_at_call 66; (with_reducible refine HG2.mono ?_); rintro e w3 ⟨rfl, sv3, m3, f3⟩))
  go_ret
  exact ⟨rfl, _, _, _, m3⟩
set_option maxRecDepth 100000 in
set_option maxHeartbeats 1000000 in
theorem rthrow_41 (w0 w : World) (base mb nw nl : Nat) (C : Nat → Value) (M : Mc) (sv lv ov : Value) (at_ : Int) (h : RWs w0 w base mb nw nl C M sv lv ov at_) (h0 : Nat) (hh : M.hi = h0 + 1) (h64 : M.hi ≤ 64) (hT : 1 ≤ topM M ∧ topM M ≤ 9223372036854775807) (rv : Int × Int) (hv : waitV M.dice (topM M) = some rv) :
    Calls Tryz.prog 69 #[.pointer (some ⟨mb, 0, none⟩), .int .i64 41] w fun e w' => e = .returned (.int .i64 0) ∧ RX w0 w' base mb nw nl C { pushM (popM M) rv.1 with dice := rv.2 } at_ := by
  have HG := rtake w0 w base mb nw nl C M sv lv ov at_ h h0 hh h64
  generalize topM M = T at *
  obtain ⟨hx, hy⟩ := waitV_b hv
  have HR : ∀ W, Calls Tryz.prog 91 #[.int .u64 M.dice, .int .u64 T] W fun e w' => e = .returned (.tuple #[.int .u64 rv.1, .int .u64 rv.2, .int .i64 0]) ∧ Below W.heap.size W w' := fun W => by
    have := rwait_any M.dice T ⟨by omega, by omega⟩ W
    unfold wV at this
    unfold waitV at hv
    split at hv
    · rename_i hc
      injection hv with hv
      subst hv
      rw [if_pos hc.1] at this
      exact this
    · cases hv
  have e1 := conv_u T ⟨by omega, hT.2⟩
  have e2 := conv_i rv.1 hx
  have d1 : ¬ (T < 1) := by omega
  have d2 : ¬ (9223372036854775807 < rv.1) := by omega
  have hq : M.hi - 1 < 64 := by omega
  clear h hh hv
  go_enter Tryz.func69, Tryz.ntmps69
  go_wp2_with (first | (go_at_call 64; (with_reducible refine HG.mono ?_); rintro e w1 ⟨rfl, sv1, m1, hs1, o1⟩; have c17 : w1.cell? ⟨mb, 17, none⟩ = some (.int .u64 M.dice) := m1.box.cell 17 (by decide)) | (go_at_call 91; (with_reducible refine (HR _).mono ?_); rintro e w2 ⟨rfl, z2⟩; have m2 := m1.later z2; have q17 : w2.cell? ⟨mb, 17, none⟩ = some (.int .u64 M.dice) := m2.box.cell 17 (by decide); have f17 := m2.box.frozen 17; have HG2 := rgive w0 _ base mb nw nl C _ sv1 lv ov at_ (m2.setDice rv.2) rv.1 hq) | (go_at_call 66; (with_reducible refine HG2.mono ?_); rintro e w3 ⟨rfl, sv3, m3, f3⟩))
  go_ret
  exact ⟨rfl, _, _, _, m3⟩
set_option maxRecDepth 100000 in
set_option maxHeartbeats 1000000 in
theorem rthrow_41_none (w0 w : World) (base mb nw nl : Nat) (C : Nat → Value) (M : Mc) (sv lv ov : Value) (at_ : Int) (h : RWs w0 w base mb nw nl C M sv lv ov at_) (h0 : Nat) (hh : M.hi = h0 + 1) (h64 : M.hi ≤ 64) (hT : 1 ≤ topM M ∧ topM M ≤ 9223372036854775807) (hv : waitV M.dice (topM M) = none) :
    Calls Tryz.prog 69 #[.pointer (some ⟨mb, 0, none⟩), .int .i64 41] w fun e w' => e = .returned (.int .i64 206) ∧ Below base w0 w' := by
  have HG := rtake w0 w base mb nw nl C M sv lv ov at_ h h0 hh h64
  generalize topM M = T at *
  have e1 := conv_u T ⟨by omega, hT.2⟩
  have d1 : ¬ (T < 1) := by omega
  have HW := fun W => rwait_any M.dice T ⟨by omega, by omega⟩ W
  unfold wV at HW
  unfold waitV at hv
  by_cases hc : wq (xN M.dice) T.toNat < 79228162514264337593543950336
  · rw [if_pos hc] at HW
    have hc2 : 9223372036854775807 < ((wq (xN M.dice) T.toNat / 4294967296 : Nat) : Int) := by
      apply Classical.byContradiction
      intro hne
      rw [if_pos ⟨hc, by omega⟩] at hv
      cases hv
    generalize ((wq (xN M.dice) T.toNat / 4294967296 : Nat) : Int) = q at HW hc2
    clear hv hc h hh
    go_enter Tryz.func69, Tryz.ntmps69
    go_wp2_with (first | (go_at_call 64; (with_reducible refine HG.mono ?_); rintro e w1 ⟨rfl, sv1, m1, hs1, o1⟩; have c17 : w1.cell? ⟨mb, 17, none⟩ = some (.int .u64 M.dice) := m1.box.cell 17 (by decide)) | (go_at_call 91; (with_reducible refine (HW _).mono ?_); rintro e w2 ⟨rfl, z2⟩; have m2 := m1.later z2))
    go_ret
    exact ⟨rfl, m2.bel⟩
  · rw [if_neg hc] at HW
    clear hv hc h hh
    go_enter Tryz.func69, Tryz.ntmps69
    go_wp2_with (first | (go_at_call 64; (with_reducible refine HG.mono ?_); rintro e w1 ⟨rfl, sv1, m1, hs1, o1⟩; have c17 : w1.cell? ⟨mb, 17, none⟩ = some (.int .u64 M.dice) := m1.box.cell 17 (by decide)) | (go_at_call 91; (with_reducible refine (HW _).mono ?_); rintro e w2 ⟨rfl, z2⟩; have m2 := m1.later z2))
    go_ret
    exact ⟨rfl, m2.bel⟩
end Go.Proofs.YtciaacckdodhcaaGreat
namespace Go.Proofs.YtciaacckdodhcaaGreat
open Go.ChangeShapes Go.WideShapes Go.ChangeAt Go.RowKit
set_option linter.unusedVariables false
set_option linter.unusedSimpArgs false

/-- the number of sent events written -/
theorem RWs.setSent {w0 W : World} {base mb nw nl : Nat} {C : Nat → Value} {M : Mc} {sv lv ov : Value} {at_ : Int} (h : RWs w0 W base mb nw nl C M sv lv ov at_) (d : Int) : RWs w0 (W.setCell ⟨mb, 18, none⟩ (.int .u64 d)) base mb nw nl C { M with sent := d } sv lv ov at_ := by
  refine h.cells (grown_set W mb 18 _) ?_ rfl rfl rfl rfl rfl h.st rfl
  refine h.box.put 18 _ rfl fun j hj hne => ?_
  unfold rF
  repeat' split
  all_goals first | rfl | omega
/-- the sent events grown, their new head laid into the machine -/
theorem RWs.growOut {w0 W W2 w1 : World} {base mb nw nl : Nat} {C : Nat → Value} {M : Mc} {sv lv ov v' : Value} {at_ : Int} {m' : Nat} {F' : Nat → Value} (h : RWs w0 W base mb nw nl C M sv lv ov at_) (hb2 : Below W.heap.size W W2) (hg : W2.grownBy w1 ov.ownBlock) (hO : Own w1 base 30 6 v' m' F') (hat : v'.ownBlock = ov.ownBlock ∨ v'.ownBlock = some W2.heap.size) : RWs w0 (w1.setCell ⟨mb, 19, none⟩ v') base mb nw nl C { M with on := m', oF := F' } sv lv v' at_ := by
  have hlt := h.lts
  have hs2 := hb2.size
  have ap' : ApB (bks mb M.wv v' sv lv) := h.ap.upd (j := 2) (sz := W.heap.size) (fun i k hi hk => (hlt i k hi hk).1) (fun i hi hi3 => by
      unfold bks
      rw [if_neg hi3, if_neg hi3]) (by
      rcases hat with e | e
      · left; exact e
      · right; exact ⟨_, e, hs2⟩)
  have ne3 : ∀ i, i < 5 → i ≠ 2 → ∀ k, bks mb M.wv ov sv lv i = some k → ov.ownBlock ≠ some k := fun i hi h3 k hk => h.ap i 2 hi (by omega) h3 k hk
  have ne0 : ∀ i, i < 5 → i ≠ 0 → ∀ k, bks mb M.wv v' sv lv i = some k → (some mb : Option Nat) ≠ some k := fun i hi h0 k hk => by
    have := ap' 0 i (by omega) hi (fun e => h0 e.symm) mb rfl
    rw [hk] at this
    exact fun e => this e.symm
  have hg2 := grown_set w1 mb 19 v'
  have hbm := h.box.lt
  have hsz := h.bel.size
  have box1 : RB w1 base mb C M sv lv ov at_ := (Own.later h.box hb2).keptBy hg (fun k hk => ne3 0 (by omega) (by omega) k hk)
  refine ⟨?_, ?_, ?_, ?_, ?_, ap', ?_⟩
  · refine box1.put 19 v' rfl fun j hj hne => ?_
    unfold rF
    repeat' split
    all_goals first | rfl | omega
  · exact ((h.wr.later hb2).keptBy hg (ne3 1 (by omega) (by omega))).keptBy hg2 (ne0 1 (by omega) (by omega))
  · exact hO.keptBy hg2 (ne0 2 (by omega) (by omega))
  · exact ((h.st.later hb2).keptBy hg (ne3 3 (by omega) (by omega))).keptBy hg2 (ne0 3 (by omega) (by omega))
  · exact ((h.lo.later hb2).keptBy hg (ne3 4 (by omega) (by omega))).keptBy hg2 (ne0 4 (by omega) (by omega))
  · refine ((h.bel.trans (hb2.mono (by omega))).grown hg (by omega) (fun k hk => (hlt 2 k (by omega) hk).2)).grown hg2 (by have := hg.size; omega) (fun k hk => by injection hk with hk; omega)
theorem sum_u (t d : Int) (ht : u64ok t) (hd : u64ok d) : (t + d ≤ 18446744073709551615 → IntKind.u64.wrap (t + d) = t + d) ∧ (¬ (t + d ≤ 18446744073709551615) → IntKind.u64.wrap (t + d) = t + d - 18446744073709551616) := by
  unfold u64ok at ht hd
  have e : IntKind.u64.wrap (t + d) = (t + d) % 18446744073709551616 := by
    simp only [IntKind.wrap, IntKind.bits, IntKind.signed]
    simp
  rw [e]
  omega
set_option maxRecDepth 100000 in
set_option maxHeartbeats 4000000 in
theorem rsend_bad (w0 w : World) (base mb nw nl : Nat) (C : Nat → Value) (M : Mc) (sv lv ov : Value) (at_ : Int) (cl : Cl) (code : Value) (hC : CR C cl code) (kind : Int) (h : RWs w0 w base mb nw nl C M sv lv ov at_) (h0 : Nat) (hh : M.hi = h0 + 3) (h64 : M.hi ≤ 64) (ht : u64ok cl.time) (hne : sendF cl M (topM M) (topM (popM M)) ≠ 0) :
    Calls Tryz.prog 70 #[.pointer (some ⟨mb, 0, none⟩), .int .i64 kind] w fun e w' => e = .returned (.int .i64 (sendF cl M (topM M) (topM (popM M)))) ∧ Below base w0 w' := by
  obtain ⟨vp, vc, rfl⟩ := own_sl h.out
  have hh1 : (popM M).hi = h0 + 1 + 1 := by show M.hi - 1 = h0 + 2; omega
  have hh2 : (popM M).hi ≤ 64 := by show M.hi - 1 ≤ 64; omega
  have hh3 : (popM (popM M)).hi = h0 + 1 := by show M.hi - 1 - 1 = h0 + 1; omega
  have hh4 : (popM (popM M)).hi ≤ 64 := by show M.hi - 1 - 1 ≤ 64; omega
  have HP1 := rtake w0 w base mb nw nl C M sv lv (.slice vp M.on vc) at_ h (h0 + 2) (by omega) h64
  have hu := u64of_b (topM M)
  have hs := sum_u cl.time (u64of (topM M)) ht hu
  have hlt := h.box.lt.1
  generalize hD : topM M = D at *
  generalize hT : topM (popM M) = T at *
  generalize hX : topM (popM (popM M)) = X at *
  have eU : IntKind.u64.wrap D = u64of D := rfl
  by_cases c1 : T < 0
  · have hv : sendF cl M D T = 204 := by unfold sendF; rw [if_pos (.inl c1)]
    rw [hv]
    clear hv hne hs hu ht h hh h64
    go_enter Tryz.func70, Tryz.ntmps70
    go_wp2_with ((go_at_call 64; (first | ((with_reducible refine HP1.mono ?_); rintro e w1 ⟨rfl, sv1, m1, hs1, o1⟩; have HP2 := rtake w0 w1 base mb nw nl C (popM M) sv1 lv (.slice vp M.on vc) at_ m1 (h0 + 1) hh1 hh2; rw [hT] at HP2; clear HP1) | ((with_reducible refine HP2.mono ?_); rintro e w2 ⟨rfl, sv2, m2, hs2, o2⟩; have HP3 := rtake w0 w2 base mb nw nl C (popM (popM M)) sv2 lv (.slice vp M.on vc) at_ m2 h0 hh3 hh4; rw [hX] at HP3; clear HP2) | ((with_reducible refine HP3.mono ?_); rintro e w3 ⟨rfl, sv3, m3, hs3, o3⟩; clear HP3; have t14 := m3.fix (k := 14) (by decide) hC.parts; have t13 := m3.fix (k := 13) (by decide) hC.look; have t4 := m3.fix (k := 4) (by decide) hC.time; have t7 := m3.fix (k := 7) (by decide) hC.dst; have t19 : w3.cell? ⟨mb, 19, none⟩ = some (.slice vp M.on vc) := m3.box.cell 19 (by decide)))))
    go_ret
    exact ⟨rfl, m3.bel⟩
  by_cases c2 : cl.parts ≤ T
  · have hv : sendF cl M D T = 204 := by unfold sendF; rw [if_pos (.inr c2)]
    rw [hv]
    clear hv hne hs hu ht h hh h64
    go_enter Tryz.func70, Tryz.ntmps70
    go_wp2_with ((go_at_call 64; (first | ((with_reducible refine HP1.mono ?_); rintro e w1 ⟨rfl, sv1, m1, hs1, o1⟩; have HP2 := rtake w0 w1 base mb nw nl C (popM M) sv1 lv (.slice vp M.on vc) at_ m1 (h0 + 1) hh1 hh2; rw [hT] at HP2; clear HP1) | ((with_reducible refine HP2.mono ?_); rintro e w2 ⟨rfl, sv2, m2, hs2, o2⟩; have HP3 := rtake w0 w2 base mb nw nl C (popM (popM M)) sv2 lv (.slice vp M.on vc) at_ m2 h0 hh3 hh4; rw [hX] at HP3; clear HP2) | ((with_reducible refine HP3.mono ?_); rintro e w3 ⟨rfl, sv3, m3, hs3, o3⟩; clear HP3; have t14 := m3.fix (k := 14) (by decide) hC.parts; have t13 := m3.fix (k := 13) (by decide) hC.look; have t4 := m3.fix (k := 4) (by decide) hC.time; have t7 := m3.fix (k := 7) (by decide) hC.dst; have t19 : w3.cell? ⟨mb, 19, none⟩ = some (.slice vp M.on vc) := m3.box.cell 19 (by decide)))))
    go_ret
    exact ⟨rfl, m3.bel⟩
  have n1 : ¬ (T < 0 ∨ cl.parts ≤ T) := by omega
  by_cases c3 : D < 0
  · have hv : sendF cl M D T = 205 := by unfold sendF; rw [if_neg n1, if_pos (.inl c3)]
    rw [hv]
    clear hv hne hs hu ht h hh h64 n1
    go_enter Tryz.func70, Tryz.ntmps70
    go_wp2_with ((go_at_call 64; (first | ((with_reducible refine HP1.mono ?_); rintro e w1 ⟨rfl, sv1, m1, hs1, o1⟩; have HP2 := rtake w0 w1 base mb nw nl C (popM M) sv1 lv (.slice vp M.on vc) at_ m1 (h0 + 1) hh1 hh2; rw [hT] at HP2; clear HP1) | ((with_reducible refine HP2.mono ?_); rintro e w2 ⟨rfl, sv2, m2, hs2, o2⟩; have HP3 := rtake w0 w2 base mb nw nl C (popM (popM M)) sv2 lv (.slice vp M.on vc) at_ m2 h0 hh3 hh4; rw [hX] at HP3; clear HP2) | ((with_reducible refine HP3.mono ?_); rintro e w3 ⟨rfl, sv3, m3, hs3, o3⟩; clear HP3; have t14 := m3.fix (k := 14) (by decide) hC.parts; have t13 := m3.fix (k := 13) (by decide) hC.look; have t4 := m3.fix (k := 4) (by decide) hC.time; have t7 := m3.fix (k := 7) (by decide) hC.dst; have t19 : w3.cell? ⟨mb, 19, none⟩ = some (.slice vp M.on vc) := m3.box.cell 19 (by decide)))))
    go_ret
    exact ⟨rfl, m3.bel⟩
  by_cases c4 : u64of D < cl.look
  · have hv : sendF cl M D T = 205 := by unfold sendF; rw [if_neg n1, if_pos (.inr c4)]
    rw [hv]
    clear hv hne hs hu ht h hh h64 n1
    go_enter Tryz.func70, Tryz.ntmps70
    go_wp2_with ((go_at_call 64; (first | ((with_reducible refine HP1.mono ?_); rintro e w1 ⟨rfl, sv1, m1, hs1, o1⟩; have HP2 := rtake w0 w1 base mb nw nl C (popM M) sv1 lv (.slice vp M.on vc) at_ m1 (h0 + 1) hh1 hh2; rw [hT] at HP2; clear HP1) | ((with_reducible refine HP2.mono ?_); rintro e w2 ⟨rfl, sv2, m2, hs2, o2⟩; have HP3 := rtake w0 w2 base mb nw nl C (popM (popM M)) sv2 lv (.slice vp M.on vc) at_ m2 h0 hh3 hh4; rw [hX] at HP3; clear HP2) | ((with_reducible refine HP3.mono ?_); rintro e w3 ⟨rfl, sv3, m3, hs3, o3⟩; clear HP3; have t14 := m3.fix (k := 14) (by decide) hC.parts; have t13 := m3.fix (k := 13) (by decide) hC.look; have t4 := m3.fix (k := 4) (by decide) hC.time; have t7 := m3.fix (k := 7) (by decide) hC.dst; have t19 : w3.cell? ⟨mb, 19, none⟩ = some (.slice vp M.on vc) := m3.box.cell 19 (by decide)))))
    go_ret
    exact ⟨rfl, m3.bel⟩
  have n2 : ¬ (D < 0 ∨ u64of D < cl.look) := by omega
  by_cases c5 : M.on = 16
  · have hv : sendF cl M D T = 207 := by unfold sendF; rw [if_neg n1, if_neg n2, if_pos c5]
    have c5' : ((M.on : Int) == 16) = true := by simp; omega
    rw [hv]
    clear hv hne hs hu ht h hh h64 n1 n2
    go_enter Tryz.func70, Tryz.ntmps70
    go_wp2_with ((go_at_call 64; (first | ((with_reducible refine HP1.mono ?_); rintro e w1 ⟨rfl, sv1, m1, hs1, o1⟩; have HP2 := rtake w0 w1 base mb nw nl C (popM M) sv1 lv (.slice vp M.on vc) at_ m1 (h0 + 1) hh1 hh2; rw [hT] at HP2; clear HP1) | ((with_reducible refine HP2.mono ?_); rintro e w2 ⟨rfl, sv2, m2, hs2, o2⟩; have HP3 := rtake w0 w2 base mb nw nl C (popM (popM M)) sv2 lv (.slice vp M.on vc) at_ m2 h0 hh3 hh4; rw [hX] at HP3; clear HP2) | ((with_reducible refine HP3.mono ?_); rintro e w3 ⟨rfl, sv3, m3, hs3, o3⟩; clear HP3; have t14 := m3.fix (k := 14) (by decide) hC.parts; have t13 := m3.fix (k := 13) (by decide) hC.look; have t4 := m3.fix (k := 4) (by decide) hC.time; have t7 := m3.fix (k := 7) (by decide) hC.dst; have t19 : w3.cell? ⟨mb, 19, none⟩ = some (.slice vp M.on vc) := m3.box.cell 19 (by decide)))))
    go_ret
    exact ⟨rfl, m3.bel⟩
  by_cases c6 : cl.time + u64of D ≤ 18446744073709551615
  · exact absurd (by unfold sendF addE; rw [if_neg n1, if_neg n2, if_neg c5, if_pos c6]; rfl) hne
  have hv : sendF cl M D T = 206 := by unfold sendF addE; rw [if_neg n1, if_neg n2, if_neg c5, if_neg c6]; rfl
  have c5' : ((M.on : Int) == 16) = false := by simp; omega
  have eS := hs.2 c6
  have c7 : cl.time + u64of D - 18446744073709551616 < cl.time := by have := hu.2; omega
  generalize cl.time + u64of D - 18446744073709551616 = S at eS c7
  rw [hv]
  clear hv hne hs hu ht h hh h64 n1 n2 c6
  go_enter Tryz.func70, Tryz.ntmps70
  go_wp2_with ((go_at_call 64; (first | ((with_reducible refine HP1.mono ?_); rintro e w1 ⟨rfl, sv1, m1, hs1, o1⟩; have HP2 := rtake w0 w1 base mb nw nl C (popM M) sv1 lv (.slice vp M.on vc) at_ m1 (h0 + 1) hh1 hh2; rw [hT] at HP2; clear HP1) | ((with_reducible refine HP2.mono ?_); rintro e w2 ⟨rfl, sv2, m2, hs2, o2⟩; have HP3 := rtake w0 w2 base mb nw nl C (popM (popM M)) sv2 lv (.slice vp M.on vc) at_ m2 h0 hh3 hh4; rw [hX] at HP3; clear HP2) | ((with_reducible refine HP3.mono ?_); rintro e w3 ⟨rfl, sv3, m3, hs3, o3⟩; clear HP3; have t14 := m3.fix (k := 14) (by decide) hC.parts; have t13 := m3.fix (k := 13) (by decide) hC.look; have t4 := m3.fix (k := 4) (by decide) hC.time; have t7 := m3.fix (k := 7) (by decide) hC.dst; have t19 : w3.cell? ⟨mb, 19, none⟩ = some (.slice vp M.on vc) := m3.box.cell 19 (by decide)))))
  go_ret
  exact ⟨rfl, m3.bel⟩
end Go.Proofs.YtciaacckdodhcaaGreat
namespace Go.Proofs.YtciaacckdodhcaaGreat
open Go.ChangeShapes Go.WideShapes Go.ChangeAt Go.RowKit
set_option linter.unusedVariables false
set_option linter.unusedSimpArgs false

theorem RB.far {W W' : World} {base mb : Nat} {C : Nat → Value} {M : Mc} {sv lv ov : Value} {at_ : Int} (h : RB W base mb C M sv lv ov at_) (e : W'.heap[mb]? = W.heap[mb]?) : RB W' base mb C M sv lv ov at_ := Own.far h (fun k hk => by
  have hk : mb = k := by simpa [Value.ownBlock] using hk
  subst hk
  exact e)
set_option maxRecDepth 100000 in
set_option maxHeartbeats 4000000 in
theorem rsend_ok (w0 w : World) (base mb nw nl : Nat) (C : Nat → Value) (M : Mc) (sv lv ov : Value) (at_ : Int) (cl : Cl) (code : Value) (hC : CR C cl code) (kind : Int) (h : RWs w0 w base mb nw nl C M sv lv ov at_) (h0 : Nat) (hh : M.hi = h0 + 3) (h64 : M.hi ≤ 64) (ht : u64ok cl.time) (hz : sendF cl M (topM M) (topM (popM M)) = 0) (hon : M.on ≤ 16) :
    Calls Tryz.prog 70 #[.pointer (some ⟨mb, 0, none⟩), .int .i64 kind] w fun e w' => e = .returned (.int .i64 0) ∧ RX w0 w' base mb nw nl C { popM (popM (popM M)) with on := M.on + 1, oF := oApp M (sentEv cl M kind (topM M) (topM (popM M)) (topM (popM (popM M)))), sent := u64of (M.sent + 1) } at_ := by
  obtain ⟨vp, vc, rfl⟩ := own_sl h.out
  have hh1 : (popM M).hi = h0 + 1 + 1 := by show M.hi - 1 = h0 + 2; omega
  have hh2 : (popM M).hi ≤ 64 := by show M.hi - 1 ≤ 64; omega
  have hh3 : (popM (popM M)).hi = h0 + 1 := by show M.hi - 1 - 1 = h0 + 1; omega
  have hh4 : (popM (popM M)).hi ≤ 64 := by show M.hi - 1 - 1 ≤ 64; omega
  have HP1 := rtake w0 w base mb nw nl C M sv lv (.slice vp M.on vc) at_ h (h0 + 2) (by omega) h64
  have hu := u64of_b (topM M)
  have hs := sum_u cl.time (u64of (topM M)) ht hu
  have hlt := h.box.lt.1
  generalize hD : topM M = D at *
  generalize hT : topM (popM M) = T at *
  generalize hX : topM (popM (popM M)) = X at *
  have eU : IntKind.u64.wrap D = u64of D := rfl
  obtain ⟨i5, hi5, hz0, hz1, hz2⟩ := info_parts infoEv6
  have c1 : ¬ (T < 0 ∨ cl.parts ≤ T) := fun hc => by unfold sendF at hz; rw [if_pos hc] at hz; cases hz
  have c2 : ¬ (D < 0 ∨ u64of D < cl.look) := fun hc => by unfold sendF at hz; rw [if_neg c1, if_pos hc] at hz; cases hz
  have c5 : M.on ≠ 16 := fun hc => by unfold sendF at hz; rw [if_neg c1, if_neg c2, if_pos hc] at hz; cases hz
  have c6 : addE cl.time (u64of D) = 0 := by
    apply Classical.byContradiction
    intro hc
    unfold sendF at hz
    rw [if_neg c1, if_neg c2, if_neg c5, if_pos hc] at hz
    cases hz
  have c7 : cl.time + u64of D ≤ 18446744073709551615 := by
    apply Classical.byContradiction
    intro hc
    unfold addE at c6
    rw [if_neg hc] at c6
    cases c6
  have d1 : ¬ (T < 0) := fun hc => c1 (.inl hc)
  have d2 : ¬ (cl.parts ≤ T) := fun hc => c1 (.inr hc)
  have d3 : ¬ (D < 0) := fun hc => c2 (.inl hc)
  have d4 : ¬ (u64of D < cl.look) := fun hc => c2 (.inr hc)
  have c5' : ((M.on : Int) == 16) = false := by simp; omega
  obtain ⟨N, hN⟩ : ∃ N, cl.time + u64of D = N := ⟨_, rfl⟩
  have eS : IntKind.u64.wrap (cl.time + u64of D) = N := (hs.1 c7).trans hN
  have d5 : ¬ (N < cl.time) := by have := hu.1; omega
  have hl6 : sentEv cl M kind D T X = [.int .u64 N, .int .i64 cl.dst, .int .u64 M.sent, .int .i64 T, .int .i64 kind, .int .i64 X] := by unfold sentEv addN; rw [if_pos c7, hN]
  rw [hl6]
  have on16 : M.on ≤ 1000000 := by omega
  have hnk : (Value.slice vp M.on vc).ownBlock ≠ some w.heap.size := fun e => by have := (h.out.lt _ e).2; omega
  have hnm : (Value.slice vp M.on vc).ownBlock ≠ some mb := fun e => h.ap 0 2 (by omega) (by omega) (by omega) mb rfl e
  clear c1 c2 c6 c7 hz hs hu ht h hh h64 hl6 hN
  go_enter Tryz.func70, Tryz.ntmps70
  go_wp2_with ((go_at_call 64; (first | ((with_reducible refine HP1.mono ?_); rintro e w1 ⟨rfl, sv1, m1, hs1, o1⟩; have HP2 := rtake w0 w1 base mb nw nl C (popM M) sv1 lv (.slice vp M.on vc) at_ m1 (h0 + 1) hh1 hh2; rw [hT] at HP2; clear HP1) | ((with_reducible refine HP2.mono ?_); rintro e w2 ⟨rfl, sv2, m2, hs2, o2⟩; have HP3 := rtake w0 w2 base mb nw nl C (popM (popM M)) sv2 lv (.slice vp M.on vc) at_ m2 h0 hh3 hh4; rw [hX] at HP3; clear HP2) | ((with_reducible refine HP3.mono ?_); rintro e w3 ⟨rfl, sv3, m3, hs3, o3⟩; clear HP3; have t14 := m3.fix (k := 14) (by decide) hC.parts; have t13 := m3.fix (k := 13) (by decide) hC.look; have t4 := m3.fix (k := 4) (by decide) hC.time; have t7 := m3.fix (k := 7) (by decide) hC.dst; have t19 : w3.cell? ⟨mb, 19, none⟩ = some (.slice vp M.on vc) := m3.box.cell 19 (by decide); have hsz3 : w3.heap.size = w.heap.size := (by rw [o3.size, o2.size, o1.size])))))
  have t18 : w3.cell? ⟨mb, 18, none⟩ = some (.int .u64 M.sent) := m3.box.cell 18 (by decide)
  go_region_held3 (fun w' => w'.cell? ⟨mb, 7, none⟩ = some (.int .i64 cl.dst) ∧ w'.cell? ⟨mb, 18, none⟩ = some (.int .u64 M.sent)) (go_keep) (fail)
  generalize hwk : World.drew (World.alloc w3 _) = wk
  have hbk : Below w3.heap.size w3 wk := by rw [← hwk]; exact ((Below.refl _ w3).alloc (Nat.le_refl _) _).trans ⟨rfl, rfl, rfl, Nat.le_refl _, fun _ _ => rfl⟩
  have hkx : wk.heap[w.heap.size]? = some (.cells #[.int .u64 N, .int .i64 cl.dst, .int .u64 M.sent] 28 (0, 0)) := by
    rw [← hwk, ← hsz3]
    exact World.alloc_heap_new w3 _
  have hsk : wk.heap.size = w.heap.size + 1 := by
    rw [← hwk]
    show (World.alloc w3 _).heap.size = _
    rw [World.size_alloc, hsz3]
  have mk := m3.later hbk
  obtain ⟨k0, k1, k2⟩ := cells3' hkx
  have k19 : wk.cell? ⟨mb, 19, none⟩ = some (.slice vp M.on vc) := mk.box.cell 19 (by decide)
  have HO : Hid (∀ W, Below wk.heap.size wk W → W.ownsRow base 30 6 (.slice vp M.on vc) M.on (cellsF M.oF (M.on * 6))) := fun W hW => (mk.later hW).out
  have p3 : base ≤ wk.heap.size := by have := mk.box.lt; omega
  have p1 : M.on + 1 ≤ maxLen := by unfold maxLen; omega
  have p2 : (M.on + 1) * 48 ≤ 140737488355328 := by omega
  have hmk : mb < w.heap.size := hlt
  have hA6 : Hid (∀ j u, [Value.int .u64 N, .int .i64 cl.dst, .int .u64 M.sent, .int .i64 T, .int .i64 kind, .int .i64 X][j]? = some u → (wk.drew.alloc (.cells #[.int .u64 N, .int .i64 cl.dst, .int .u64 M.sent, .int .i64 T, .int .i64 kind, .int .i64 X] 30)).cell? ((⟨wk.heap.size, 0, none⟩ : Addr).add j) = some u) := cells_new wk.drew [.int .u64 N, .int .i64 cl.dst, .int .u64 M.sent, .int .i64 T, .int .i64 kind, .int .i64 X] 30
  clear hwk t18 t14 t13 t4 t7 t19 d1 d2 d3 d4
  have kB19 : (wk.alloc (.cells #[.int .u64 N, .int .i64 cl.dst, .int .u64 M.sent, .int .i64 T, .int .i64 kind, .int .i64 X] 30)).cell? ⟨mb, 19, none⟩ = some (.slice vp M.on vc) := (World.cell?_of_block (((Below.refl _ wk).alloc (Nat.le_refl _) _).block mb (by omega))).trans k19
  have kA19 : (wk.drew.alloc (.cells #[.int .u64 N, .int .i64 cl.dst, .int .u64 M.sent, .int .i64 T, .int .i64 kind, .int .i64 X] 30)).cell? ⟨mb, 19, none⟩ = some (.slice vp M.on vc) := (World.cell?_of_block ((belowDA wk _).block mb (by omega))).trans k19
  go_wp2
  go_region_law ((refine step_append_own rfl (.tmp 81) (.tmp 87) 39 rfl base 30 i5 _ 6 48 Tryz.underlying39 hi5 hz0 hz1 hz2 rfl (by decide) (.slice vp M.on vc) M.on _ (by simp [Act.eval]) (HO.out _ (belowDA wk _)) ⟨wk.heap.size, 0, none⟩ 1 1 [.int .u64 N, .int .i64 cl.dst, .int .u64 M.sent, .int .i64 T, .int .i64 kind, .int .i64 X] (by simp [Act.eval, hsk]) rfl hA6.out (by simp [Value.oneCell']) p1 p2 (by show base ≤ (World.alloc wk.drew _).heap.size; rw [World.size_alloc]; exact Nat.le_succ_of_le p3) ?_; intro v' w6 hown' hgrow hat; obtain ⟨g6, c6, rfl⟩ := ownsRow_succ hown'; have KP : w6.cell? ⟨w.heap.size, 0, none⟩ = some (.int .u64 N) ∧ w6.cell? ⟨w.heap.size, 1, none⟩ = some (.int .i64 cl.dst) ∧ w6.cell? ⟨w.heap.size, 2, none⟩ = some (.int .u64 M.sent) := cells3' ((hgrow.block _ (by show w.heap.size < (World.alloc wk.drew _).heap.size; rw [World.size_alloc]; show _ < wk.heap.size + 1; omega) (fun e => hnk e.symm)).trans (((belowDA wk _).block _ (by omega)).trans hkx)); have hmb6 := (hgrow.block mb (by show mb < (World.alloc wk.drew _).heap.size; rw [World.size_alloc]; show _ < wk.heap.size + 1; omega) (fun e => hnm e.symm)).trans ((belowDA wk _).block mb (by omega)); have n19 : w6.cell? ⟨mb, 19, none⟩ = some (.slice vp M.on vc) := (World.cell?_of_block hmb6).trans k19; have nfz : w6.frozen? ⟨mb, 19, none⟩ = false := (mk.box.far hmb6).frozen 19; have KS : (w6.setCell ⟨mb, 19, none⟩ (.slice (some ⟨g6, 0, none⟩) (M.on + 1) c6)).cell? ⟨w.heap.size, 0, none⟩ = some (.int .u64 N) ∧ (w6.setCell ⟨mb, 19, none⟩ (.slice (some ⟨g6, 0, none⟩) (M.on + 1) c6)).cell? ⟨w.heap.size, 1, none⟩ = some (.int .i64 cl.dst) ∧ (w6.setCell ⟨mb, 19, none⟩ (.slice (some ⟨g6, 0, none⟩) (M.on + 1) c6)).cell? ⟨w.heap.size, 2, none⟩ = some (.int .u64 M.sent) := cells3' ((Below.heap_setCell w6 ⟨mb, 19, none⟩ _ w.heap.size (by show w.heap.size ≠ mb; omega)).trans ((hgrow.block _ (by show w.heap.size < (World.alloc wk.drew _).heap.size; rw [World.size_alloc]; show _ < wk.heap.size + 1; omega) (fun e => hnk e.symm)).trans (((belowDA wk _).block _ (by omega)).trans hkx)))))
  all_goals
    have hO6 : Own w6 base 30 6 (.slice (some ⟨g6, 0, none⟩) (M.on + 1) c6) (M.on + 1) (oApp M [.int .u64 N, .int .i64 cl.dst, .int .u64 M.sent, .int .i64 T, .int .i64 kind, .int .i64 X]) := by
      have e6 : [Value.int .u64 N, .int .i64 cl.dst, .int .u64 M.sent, .int .i64 T, .int .i64 kind, .int .i64 X] = cellsF (fun j => [Value.int .u64 N, .int .i64 cl.dst, .int .u64 M.sent, .int .i64 T, .int .i64 kind, .int .i64 X].getD j undef) 6 := rfl
      unfold Own
      rw [e6, cellsF_append, show M.on * 6 + 6 = (M.on + 1) * 6 by omega] at hown'
      exact hown'
    have mN := mk.growOut (belowDA wk _) hgrow hO6 hat
    have n18 : (w6.setCell ⟨mb, 19, none⟩ (.slice (some ⟨g6, 0, none⟩) (M.on + 1) c6)).cell? ⟨mb, 18, none⟩ = some (.int .u64 M.sent) := mN.box.cell 18 (by decide)
    have n18f := mN.box.frozen 18
    have eS2 : u64of (M.sent + 1) = IntKind.u64.wrap (M.sent + 1) := rfl
    go_wp2
    go_ret
    exact ⟨rfl, _, _, _, mN.setSent (u64of (M.sent + 1))⟩
end Go.Proofs.YtciaacckdodhcaaGreat
