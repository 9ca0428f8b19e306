import Derived.Test.YtkalhmofjpalkaaCE3
namespace Go.Proofs.Ytkalhmofjpalkaa
open Go.ChangeShapes Go.WideShapes Go.ChangeAt Go.RowKit
set_option linter.unusedVariables false
set_option linter.unusedSimpArgs false

abbrev enF : Value := .func (.func 13) #[] #[]
/-- the first so many have entered -/
structure EntI (W0 : World) (base hb wb cb n j : Nat) (N : Nt) (W : World) : Prop where
  nw : NW base hb wb cb n enF N W
  iv : Inv n N
  vl : Vals sumJ n (fun _ w => (w : Int)) N
  pl : ∀ i, i < n → N.pl i = if i < j then 1 else 0
  rd : ∀ i, i < n → N.rd i = 0
  bl : Below W0.heap.size W0 W
theorem EntI.next {W0 W W' : World} {base hb wb cb n j : Nat} {N : Nt} (h : EntI W0 base hb wb cb n j N W) (hb0 : W0.heap.size ≤ base) (hj : j < n) (hc : NC W base hb wb cb n enF (enterN N j (j : Int)) W') : EntI W0 base hb wb cb n (j + 1) (enterN N j (j : Int)) W' := by
  have hp : N.pl j = 0 := by rw [h.pl j hj, if_neg (by omega)]
  have hv := h.vl.enter j hj
  refine ⟨hc.1, h.iv.enter j hj _ hp, hv, fun i hi => ?_, h.rd, ?_⟩
  · show upF N.pl j 1 i = _
    by_cases e : i = j
    · subst e; rw [upF_at, if_pos (by omega)]
    · rw [upF_ne _ _ e, h.pl i hi]
      by_cases e2 : i < j
      · rw [if_pos e2, if_pos (by omega)]
      · rw [if_neg e2, if_neg (by omega)]
  · exact h.bl.trans (hc.2.toBelow h.bl.size fun k e => by
      have := h.nw.bl
      rcases e with e | e <;> omega)
theorem EntI.due {W0 W : World} {base hb wb cb n k : Nat} {N : Nt} (h : EntI W0 base hb wb cb n n N W) : Due n k N (fun _ => 0) 0 := by
  refine ⟨h.iv, fun w hw _ => h.rd w hw, fun w hw hp => ?_, fun w hw _ => Nat.zero_le _⟩
  rw [h.pl w hw, if_pos hw] at hp
  omega
set_option maxRecDepth 100000 in
set_option maxHeartbeats 4000000 in
theorem ends_bad (x wide : Int) (p : Option Addr) (m c : Nat) (hx : x < 1 ∨ 64 < x) (W : World) : Calls Try.prog 5 #[.int .i64 x, .int .i64 wide, .slice p m c] W fun e W' => e = .returned (.bool true) ∧ Below W.heap.size W W' := by
  have HB := fun jv W => nnew_bad x hx jv W
  by_cases h1 : x < 1
  · have d1 : decide (x < 1) = true := by simpa using h1
    clear hx
    go_enter Try.func5, Try.ntmps5
    go_wp2_with (go_at_call 12; (with_reducible refine (HB _ _).mono ?_); rintro e w1 ⟨rfl, rfl⟩)
    go_ret
    exact ⟨rfl, Below.refl _ _⟩
  · have d1 : decide (x < 1) = false := by simpa using h1
    have d2 : decide (64 < x) = true := by simp; omega
    clear hx
    go_enter Try.func5, Try.ntmps5
    go_wp2_with (go_at_call 12; (with_reducible refine (HB _ _).mono ?_); rintro e w1 ⟨rfl, rfl⟩)
    go_ret
    exact ⟨rfl, Below.refl _ _⟩
/-- all are through -/
structure EnE (W0 : World) (base hb wb cb n : Nat) (N : Nt) (W : World) : Prop where
  nw : NW base hb wb cb n enF N W
  pl : ∀ x, x < n → N.pl x = 0
  rd : ∀ x, x < n → N.rd x = 1
  dv : ∀ x, x < n → N.dv x = (n : Int) * ((n : Int) - 1) / 2
  bl : Below W0.heap.size W0 W
/-- the law's state behind i steps -/
structure EnI (W0 : World) (base hb wb cb ib n k i : Nat) (N : Nt) (idle : Nat → Nat) (W : World) : Prop where
  nw : NW base hb wb cb n enF N W
  ir : Own W base 3 1 (.slice (some ⟨ib, 0, none⟩) n n) n (iF idle)
  du : Due n k N idle i
  sc : Sch n k N idle
  vl : Vals sumJ n (fun _ w => (w : Int)) N
  lt : ∀ x, x < n → idle x ≤ i
  bl : Below W0.heap.size W0 W
theorem EnI.all {W0 W : World} {base hb wb cb ib n k i : Nat} {N : Nt} {idle : Nat → Nat} (h : EnI W0 base hb wb cb ib n k i N idle W) (h1 : 1 ≤ n) (h2 : n ≤ 64) (hp : ∀ x, x < n → N.pl x = 0) : EnE W0 base hb wb cb n N W :=
  ⟨h.nw, hp, fun x hx => h.du.r1 x hx (hp x hx), fun x hx => by
    have hr := h.du.r1 x hx (hp x hx)
    rw [h.vl.v6 x hx (by omega)]
    exact sum_all n (by omega) h1, h.bl⟩
theorem EnI.later {W0 W W' : World} {base hb wb cb ib n k i : Nat} {N : Nt} {idle : Nat → Nat} (h : EnI W0 base hb wb cb ib n k i N idle W) (hb' : Below W.heap.size W W') : EnI W0 base hb wb cb ib n k i N idle W' := ⟨h.nw.later hb', h.ir.later hb', h.du, h.sc, h.vl, h.lt, h.bl.trans (hb'.mono h.bl.size)⟩
/-- the first y of the counts are one more -/
structure E5 (W0 : World) (base hb wb cb ib n : Nat) (N : Nt) (idle : Nat → Nat) (y : Nat) (W : World) : Prop where
  nw : NW base hb wb cb n enF N W
  ir : Own W base 3 1 (.slice (some ⟨ib, 0, none⟩) n n) n (iF (fun x => if x < y then idle x + 1 else idle x))
  bl : Below W0.heap.size W0 W
theorem E5.put {W0 W : World} {base hb wb cb ib n : Nat} {N : Nt} {idle : Nat → Nat} {y : Nat} (h : E5 W0 base hb wb cb ib n N idle y W) (ho : hb < ib ∧ wb < ib ∧ cb < ib) (h0 : W0.heap.size ≤ base) (q : Nat) (v : Nat) (idle' : Nat → Nat) (y' : Nat) (hv : (if q < y' then idle' q + 1 else idle' q) = v) (he : ∀ x, x < n → x ≠ q → (if x < y then idle x + 1 else idle x) = (if x < y' then idle' x + 1 else idle' x)) : E5 W0 base hb wb cb ib n N idle' y' (W.setCell ⟨ib, q, none⟩ (.int .i64 (v : Int))) := by
  have c2 : Ch (fun b => b = ib) W (W.setCell ⟨ib, q, none⟩ (.int .i64 (v : Int))) := Ch.set _ _ _ _ _ rfl
  refine ⟨h.nw.keep c2 (by show ¬ hb = ib; omega) (by show ¬ wb = ib; omega) (by show ¬ cb = ib; omega), own_put h.ir q _ (by unfold iF; dsimp only; rw [hv]) fun x hx hne => by unfold iF; dsimp only; rw [he x (by omega) hne], h.bl.setCell (p := ⟨ib, q, none⟩) (by have := (Own.lt h.ir ib rfl).1; show W0.heap.size ≤ ib; omega) _⟩
theorem EnI.stepped {W0 W W' : World} {base hb wb cb ib n k i : Nat} {N : Nt} {idle : Nat → Nat} (h : EnI W0 base hb wb cb ib n k i N idle W) (h2 : n ≤ 64) (hk : n ≤ k) (w : Nat) (hw : w < n) (hp : N.pl w ≠ 0) (hbest : ∀ x, x < n → N.pl x ≠ 0 → k ≤ idle x + n → idle x ≤ idle w) (h5 : E5 W0 base hb wb cb ib n (stepN sumJ n N w) (nextI idle w) 0 W') : EnI W0 base hb wb cb ib n k (i + 1) (stepN sumJ n N w) (nextI idle w) W' :=
  ⟨h5.nw, h5.ir.congr fun x hx => by unfold iF; dsimp only; rw [if_neg (by omega)], due_step sumJ h2 h.du h.sc.idle w hw hp, h.sc.step hk w hw hp hbest (fun x e => step_pl sumJ n N w x e), Vals.step h.du.iv h.vl w hw (by omega), fun x hx => by
    have := h.lt x hx
    unfold nextI
    split <;> omega, h5.bl⟩
theorem round_all {j w0 : Nat} (hw : w0 < j) (P : Nat → Prop) (h : ∀ s, s < j → P ((w0 + s) % j)) : ∀ x, x < j → P x := fun x hx => by
  by_cases e : w0 ≤ x
  · have := h (x - w0) (by omega)
    rw [show w0 + (x - w0) = x by omega, Nat.mod_eq_of_lt hx] at this
    exact this
  · have := h (x + j - w0) (by omega)
    rw [show w0 + (x + j - w0) = x + j by omega, Nat.add_mod_right, Nat.mod_eq_of_lt hx] at this
    exact this
set_option maxRecDepth 100000 in
set_option maxHeartbeats 8000000 in
theorem ends_good (n : Nat) (h1 : 1 ≤ n) (h2 : n ≤ 64) (wide : Int) (p : Option Addr) (m c : Nat) (K : Nat → Int) (W : World) (hk : KAt W p m K) (hm : m ≤ 17592186044416) : Calls Try.prog 5 #[.int .i64 (n : Int), .int .i64 wide, .slice p m c] W fun e W' => e = .returned (.bool true) ∧ Below W.heap.size W W' := by
  have u0 : 0 ≤ IntKind.u64.wrap wide := by rw [IntKind.wrap_u64]; omega
  obtain ⟨q, hq, hq2⟩ : ∃ q : Nat, (IntKind.u64.wrap wide).tmod 200 = (q : Int) ∧ q < 200 := by
    rw [Int.tmod_eq_emod_of_nonneg u0]
    refine ⟨(IntKind.u64.wrap wide % 200).toNat, ?_, ?_⟩ <;> omega
  have d1 : decide ((n : Int) < 1) = false := by simp; omega
  have d2 : decide (64 < (n : Int)) = false := by simp; omega
  have qw : IntKind.i64.wrap (q : Int) = (q : Int) := by rw [IntKind.wrap_i64]; omega
  have kw : IntKind.i64.wrap ((n : Int) + (q : Int)) = ((n + q : Nat) : Int) := by rw [IntKind.wrap_i64]; omega
  obtain ⟨k, hkd⟩ : ∃ k, n + q = k := ⟨_, rfl⟩
  rw [hkd] at kw
  have hkn : n ≤ k := by omega
  have hk2 : k ≤ 263 := by omega
  clear u0 hkd
  have HN := nnew_any n h1 h2 13 #[] W
  go_enter Try.func5, Try.ntmps5
  go_wp2_with (go_at_call 12; (with_reducible refine HN.mono ?_); rintro e w1 ⟨hb, wb, cb, rfl, hnw, hbl⟩; have HNW : Hid (NW W.heap.size hb wb cb n enF Nt.new w1) := hnw; have HBL : Hid (Below W.heap.size W w1) := hbl; clear hnw hbl HN)
  go_loopw [10] (fun x wr => ∃ (j : Nat) (N : Nt), x = .int .i64 (j : Int) ∧ j ≤ n ∧ EntI W W.heap.size hb wb cb n j N wr) (fun x _ => n - (intOf x).toNat)
  case atStart => exact ⟨0, Nt.new, rfl, Nat.zero_le _, HNW.out, Inv.new n, Vals.new _ _ _, fun i _ => by simp [Nt.new], fun i _ => by simp [Nt.new], HBL.out⟩
  case round =>
    obtain ⟨j, N, rfl, hjn, hE⟩ := hrel
    clear HNW HBL
    by_cases hlt : j < n
    · have dl : decide ((j : Int) < (n : Int)) = true := by simp; omega
      have hmm := meas hlt
      have ej : IntKind.i64.wrap ((j : Int) + 1) = (j : Int) + 1 := by rw [IntKind.wrap_i64]; omega
      have HEN := nenter_any (j : Int) (j : Int) wr hE.nw
      unfold entE entN at HEN
      have hp : N.pl j = 0 := by rw [hE.pl j hlt, if_neg (by omega)]
      rw [inN_nat, decide_eq_true hlt] at HEN
      simp only [Int.toNat_natCast, if_true, true_and, hp] at HEN
      have HE : Hid (EntI W W.heap.size hb wb cb n j N wr) := hE
      clear hE hp
      go_wp2_with (go_at_call 14; (with_reducible refine HEN.mono ?_); rintro e w2 ⟨rfl, hnc⟩; have HNC : Hid (EntI W W.heap.size hb wb cb n (j + 1) (enterN N j (j : Int)) w2) := HE.out.next (Nat.le_refl _) hlt hnc; clear hnc)
      exact ⟨⟨j + 1, _, rfl, hlt, HNC.out⟩, hmm⟩
    · have dl : decide ((j : Int) < (n : Int)) = false := by simp; omega
      obtain rfl : j = n := by omega
      have HE : Hid (EntI W W.heap.size hb wb cb j j N wr) := hE
      clear hE
      have HLV := levels_any j h2
      obtain ⟨iI, hI1, hI2, hI3, hI4⟩ := binfo infoI3
      have rI : ∀ w : World, (Instr.makeSlice 32 (.int .i64 (j : Int)) (.int .i64 (j : Int))).run Try.prog w = .ok (.slice (some ⟨w.heap.size, 0, none⟩) j j) (w.alloc (.cells (zA (.int .i64 0) j 1) 3)) := run_make_eq _ _ iI _ 1 Try.underlying32 hI1 hI2 hI3 j (by rw [hI4]; omega) (by omega)
      have hml : j ≤ maxLen := by unfold maxLen; omega
      have hl7 : lvN j ≤ 7 := by unfold lvN; repeat' split
                                 all_goals omega
      obtain ⟨lv, hlv⟩ : ∃ lv, lvN j = lv := ⟨_, rfl⟩
      rw [hlv] at HLV hl7
      have HLV0 : Hid (lvN j = lv) := hlv
      clear hlv
      have e5 : IntKind.i64.wrap (5 * (lv : Int)) = 5 * (lv : Int) := by rw [IntKind.wrap_i64]; omega
      obtain ⟨lm, hlm⟩ : ∃ lm, 5 * lv * k = lm := ⟨_, rfl⟩
      have hlb : lm ≤ 9205 := by rw [← hlm]; exact Nat.le_trans (Nat.mul_le_mul (by omega : 5 * lv ≤ 35) hk2) (by omega)
      have e6 : IntKind.i64.wrap (5 * (lv : Int) * (k : Int)) = (lm : Int) := by
        have e : 5 * (lv : Int) * (k : Int) = ((5 * lv * k : Nat) : Int) := by rw [Int.natCast_mul, Int.natCast_mul]; rfl
        rw [e, hlm, IntKind.wrap_i64]
        omega
      go_upto_block 2 with (go_at_call 15; (with_reducible refine (HLV _).mono ?_); rintro e w2 ⟨rfl, h9⟩; subst h9)
      obtain ⟨ib, hib⟩ : ∃ ib, wr.heap.size = ib := ⟨_, rfl⟩
      generalize hW2 : World.alloc wr _ = W2
      have hA : EnI W W.heap.size hb wb cb ib j k 0 N (fun _ => 0) W2 := by
        have bl2 : Below wr.heap.size wr W2 := by rw [← hW2]; exact (Below.refl _ wr).alloc (Nat.le_refl _) _
        have hsz := HE.out.bl.size
        refine ⟨HE.out.nw.later bl2, ?_, HE.out.due, Sch.start hkn, HE.out.vl, fun _ _ => Nat.le_refl _, HE.out.bl.trans (bl2.mono hsz)⟩
        have o1 := own_new wr 3 (.int .i64 0) j 1 hml
        unfold zA at o1
        rw [← hW2, ← hib]
        exact (o1.congr fun q hq => by rw [made1 _ rfl j q hq]; rfl).lower hsz
      have hord : hb < ib ∧ wb < ib ∧ cb < ib := by rw [← hib]; exact HE.out.nw.lt
      rw [hib]
      have HA : Hid (EnI W W.heap.size hb wb cb ib j k 0 N (fun _ => 0) W2) := hA
      have HLM : Hid (5 * lvN j * k = lm) := by rw [HLV0.out]; exact hlm
      have HKK : Hid (KAt W p m K) := hk
      clear hib hW2 hA HE rI hI1 hI2 hI3 hI4 hlm hk HLV
      go_cut [] (fun wc => ∃ N9, EnE W W.heap.size hb wb cb j N9 wc)
      case first => as_aux_lemma =>
        go_wp2_with fail
        go_loopw [13] (fun x wr' => ∃ (i : Nat) (N : Nt) (idle : Nat → Nat), x = .int .i64 (i : Int) ∧ i ≤ lm ∧ EnI W W.heap.size hb wb cb ib j k i N idle wr') (fun x _ => lm - (intOf x).toNat)
        case atStart => exact ⟨0, _, _, rfl, Nat.zero_le _, HA.out⟩
        case round =>
          obtain ⟨i, N, idle, rfl, hil, hI⟩ := hrel
          clear HA
          by_cases hlt : i < lm
          · have di : decide ((i : Int) < (lm : Int)) = true := by simp; omega
            have hmm := meas hlt
            have jz : ((j : Int) == 0) = false := by simp; omega
            have ei : IntKind.i64.wrap ((i : Int) + 1) = (i : Int) + 1 := by rw [IntKind.wrap_i64]; omega
            have HI : Hid (EnI W W.heap.size hb wb cb ib j k i N idle wr) := hI
            clear hI
            go_upto_if 77 with fail
            go_cut [14] (fun v wx => ∃ w : Nat, w < j ∧ v = .int .i64 (w : Int) ∧ wx = wr)
            case first =>
              by_cases hm0 : 0 < m
              · have dm : decide ((0 : Int) < (m : Int)) = true := by simp; omega
                have dm2 : decide (0 < m) = true := by simp; omega
                rcases HKK.out with h0 | ⟨b, o, rfl, hbl, hck⟩
                · omega
                have him : i % m < m := Nat.mod_lt _ hm0
                have kc : wr.cell? ⟨b, o + i % m, none⟩ = some (.int .i64 (K (i % m))) := by
                  rw [← hck _ him]
                  exact HI.out.bl.cell hbl
                have im : (i : Int) % (m : Int) = ((i % m : Nat) : Int) := rfl
                have i0 : (0 : Int) ≤ ((i % m : Nat) : Int) := by omega
                have i1 : ((i % m : Nat) : Int) < (m : Int) := by omega
                have mz : ((m : Int) == 0) = false := by simp; omega
                obtain ⟨g, hg⟩ : ∃ g, i % m = g := ⟨_, rfl⟩
                rw [hg] at kc im i0 i1
                have u0 : 0 ≤ IntKind.u64.wrap (K g) := by rw [IntKind.wrap_u64]; omega
                obtain ⟨w, hw, hwn⟩ : ∃ w : Nat, (IntKind.u64.wrap (K g)).tmod (j : Int) = (w : Int) ∧ w < j := by
                  rw [Int.tmod_eq_emod_of_nonneg u0]
                  have a1 := Int.emod_nonneg (IntKind.u64.wrap (K g)) (b := (j : Int)) (by omega)
                  have a2 := Int.emod_lt_of_pos (IntKind.u64.wrap (K g)) (b := (j : Int)) (by omega)
                  exact ⟨(IntKind.u64.wrap (K g) % (j : Int)).toNat, by omega, by omega⟩
                have uw : IntKind.u64.wrap (j : Int) = (j : Int) := by rw [IntKind.wrap_u64]; omega
                have ww : IntKind.i64.wrap (w : Int) = (w : Int) := by rw [IntKind.wrap_i64]; omega
                clear hck hbl u0 him hg
                go_wp2_with fail
                go_meet
                exact ⟨w, hwn, rfl, rfl⟩
              · have dm : decide ((0 : Int) < (m : Int)) = false := by simp; omega
                have dm2 : decide (0 < m) = false := by simp; omega
                go_wp2_with fail
                go_meet
                exact ⟨i % j, Nat.mod_lt _ (by omega), rfl, rfl⟩
            case rest =>
              obtain ⟨w0, hw0, rfl, hwx⟩ := hcut
              subst hwx
              go_upto_block 4 with fail
              go_cut [14] (fun v wx => ∃ w : Nat, w < j ∧ v = .int .i64 (w : Int) ∧ wx = wc ∧ (N.pl w ≠ 0 ∨ ∀ x, x < j → N.pl x = 0))
              case first => as_aux_lemma =>
                go_wp2_with fail
                go_loopw [14, 15] (fun v y wq => ∃ w z : Nat, v = .int .i64 (w : Int) ∧ y = .int .i64 (z : Int) ∧ w < j ∧ z ≤ j ∧ w = (w0 + z) % j ∧ (∀ s, s < z → N.pl ((w0 + s) % j) = 0) ∧ wq = wc) (fun _ y _ => j - (intOf y).toNat)
                case atStart => exact ⟨w0, 0, rfl, rfl, hw0, Nat.zero_le _, by rw [Nat.add_zero, Nat.mod_eq_of_lt hw0], fun s hs => absurd hs (Nat.not_lt_zero _), rfl⟩
                case round =>
                  obtain ⟨w, z, rfl, rfl, hwj, hzj, hwz, hall, h9⟩ := hrel
                  subst h9
                  have HALL : Hid (w = (w0 + z) % j ∧ ∀ s, s < z → N.pl ((w0 + s) % j) = 0) := ⟨hwz, hall⟩
                  clear hwz hall
                  by_cases hz : z < j
                  · have dz : decide ((z : Int) < (j : Int)) = true := by simp; omega
                    have hmz := meas hz
                    have ez : IntKind.i64.wrap ((z : Int) + 1) = (z : Int) + 1 := by rw [IntKind.wrap_i64]; omega
                    have ew : IntKind.i64.wrap ((w : Int) + 1) = ((w + 1 : Nat) : Int) := by rw [IntKind.wrap_i64]; omega
                    have em : ((w : Int) + 1) % (j : Int) = (((w + 1) % j : Nat) : Int) := rfl
                    have HIN := ninside_any (w : Int) _ HI.out.nw
                    rw [inN_nat, decide_eq_true hwj] at HIN
                    simp only [Int.toNat_natCast, Bool.true_and] at HIN
                    obtain ⟨b9, hb9⟩ : ∃ b9, (N.pl w != 0) = b9 := ⟨_, rfl⟩
                    rw [hb9] at HIN
                    have HB9 : Hid ((N.pl w != 0) = b9) := hb9
                    clear hb9
                    cases b9
                    · go_wp2_with (go_at_call 16; (with_reducible refine HIN.mono ?_); rintro e w4 ⟨rfl, h9⟩; subst h9)
                      have hp0 : N.pl w = 0 := by simpa using HB9.out
                      refine ⟨⟨(w + 1) % j, z + 1, rfl, rfl, Nat.mod_lt _ (by omega), hz, ?_, fun s hs => ?_, by first | rfl | trivial⟩, hmz⟩
                      · rw [HALL.out.1, Nat.mod_add_mod, Nat.add_assoc]
                      · by_cases e : s = z
                        · subst e
                          rw [← HALL.out.1]
                          exact hp0
                        · exact HALL.out.2 s (by omega)
                    · go_wp2_with (go_at_call 16; (with_reducible refine HIN.mono ?_); rintro e w4 ⟨rfl, h9⟩; subst h9)
                      go_meet
                      exact ⟨w, hwj, rfl, rfl, .inl (by simpa using HB9.out)⟩
                  · have dz : decide ((z : Int) < (j : Int)) = false := by simp; omega
                    obtain rfl : z = j := by omega
                    go_wp2_with fail
                    go_meet
                    exact ⟨w, hwj, rfl, rfl, .inr (round_all hw0 (fun x => N.pl x = 0) HALL.out.2)⟩
              case rest => as_aux_lemma =>
                obtain ⟨w, hwj, rfl, hwx, hor⟩ := hcut
                subst hwx
                have HIN := ninside_any (w : Int) _ HI.out.nw
                rw [inN_nat, decide_eq_true hwj] at HIN
                simp only [Int.toNat_natCast, Bool.true_and] at HIN
                by_cases hpw : N.pl w = 0
                · have hall : ∀ x, x < j → N.pl x = 0 := by
                    rcases hor with h | h
                    · exact absurd hpw h
                    · exact h
                  rw [show (N.pl w != 0) = false by simp [hpw]] at HIN
                  have HALL : Hid (∀ x, x < j → N.pl x = 0) := hall
                  clear hall hor hpw
                  go_wp2_with (go_at_call 16; (with_reducible refine HIN.mono ?_); rintro e w4 ⟨rfl, h9⟩; subst h9)
                  go_meet
                  exact ⟨N, HI.out.all h1 h2 HALL.out⟩
                · rw [show (N.pl w != 0) = true by simp [hpw]] at HIN
                  have HPW : Hid (N.pl w ≠ 0) := hpw
                  clear hor hpw
                  go_upto_block 6 with (go_at_call 16; (with_reducible refine HIN.mono ?_); rintro e w4 ⟨rfl, h9⟩; subst h9)
                  go_cut [14] (fun v wx => ∃ w' : Nat, w' < j ∧ v = .int .i64 (w' : Int) ∧ N.pl w' ≠ 0 ∧ (∀ x, x < j → N.pl x ≠ 0 → k ≤ idle x + j → idle x ≤ idle w') ∧ EnI W W.heap.size hb wb cb ib j k i N idle wx)
                  case first => as_aux_lemma =>
                    go_wp2_with fail
                    go_loopw [14, 111] (fun v y wq => ∃ w' z : Nat, v = .int .i64 (w' : Int) ∧ y = .int .i64 (z : Int) ∧ w' < j ∧ z ≤ j ∧ N.pl w' ≠ 0 ∧ (∀ x, x < z → N.pl x ≠ 0 → k ≤ idle x + j → idle x ≤ idle w') ∧ EnI W W.heap.size hb wb cb ib j k i N idle wq) (fun _ y _ => j - (intOf y).toNat)
                    case atStart => exact ⟨w, 0, rfl, rfl, hwj, Nat.zero_le _, HPW.out, fun x hx => absurd hx (Nat.not_lt_zero _), HI.out⟩
                    case round =>
                      obtain ⟨w', z, rfl, rfl, hwj', hzj, hpw', hbest, hq⟩ := hrel
                      have HB : Hid (N.pl w' ≠ 0 ∧ ∀ x, x < z → N.pl x ≠ 0 → k ≤ idle x + j → idle x ≤ idle w') := ⟨hpw', hbest⟩
                      clear hpw' hbest HIN HPW
                      by_cases hz : z < j
                      · have dz : decide ((z : Int) < (j : Int)) = true := by simp; omega
                        have hmz := meas hz
                        have ez : IntKind.i64.wrap ((z : Int) + 1) = (z : Int) + 1 := by rw [IntKind.wrap_i64]; omega
                        have z0 : (0 : Int) ≤ (z : Int) := by omega
                        have z1 : (z : Int) < (j : Int) := by omega
                        have y0 : (0 : Int) ≤ (w' : Int) := by omega
                        have y1 : (w' : Int) < (j : Int) := by omega
                        have cz : wr.cell? ⟨ib, z, none⟩ = some (.int .i64 (idle z : Int)) := Own.cell hq.ir (j := z) (by omega)
                        have cw : wr.cell? ⟨ib, w', none⟩ = some (.int .i64 (idle w' : Int)) := Own.cell hq.ir (j := w') (by omega)
                        have li := hq.lt z hz
                        have es : IntKind.i64.wrap ((idle z : Int) + (j : Int)) = (idle z : Int) + (j : Int) := by rw [IntKind.wrap_i64]; omega
                        have HQD : ∀ s, NW W.heap.size hb wb cb j enF N (wr.drewN s) := fun s => hq.nw.later (below_drewNq _ _ _)
                        have HIQ := fun W' h' => ninside_any (base := W.heap.size) (hb := hb) (wb := wb) (cb := cb) (n := j) (jv := enF) (N := N) (z : Int) W' h'
                        rw [inN_nat, decide_eq_true hz] at HIQ
                        simp only [Int.toNat_natCast, Bool.true_and] at HIQ
                        obtain ⟨b9, hb9⟩ : ∃ b9, (N.pl z != 0) = b9 := ⟨_, rfl⟩
                        rw [hb9] at HIQ
                        have HB9 : Hid ((N.pl z != 0) = b9) := hb9
                        have HQ : Hid (EnI W W.heap.size hb wb cb ib j k i N idle wr) := hq
                        have HQN : Hid (NW W.heap.size hb wb cb j enF N wr) := hq.nw
                        clear hb9 hq li
                        by_cases g1 : idle w' < idle z
                        · have q1 : decide ((idle w' : Int) < (idle z : Int)) = true := by simp; omega
                          have q1' : decide (idle w' < idle z) = true := by simp; omega
                          by_cases g2 : k ≤ idle z + j
                          · have q2 : decide ((k : Int) ≤ (idle z : Int) + (j : Int)) = true := by simp; omega
                            have q2' : decide (k ≤ idle z + j) = true := by simp; omega
                            cases b9
                            · go_wp2_with fail
                              go_quiet ((go_at_call 16; refine Calls.quiet_of_same (HIQ _ ?_); first | exact HQN.out | exact HQD _))
                              go_wp2_with fail
                              refine ⟨⟨w', z + 1, rfl, rfl, hwj', hz, HB.out.1, fun x hx hpx hkx => ?_, HQ.out.later (below_drewNq _ _ _)⟩, hmz⟩
                              by_cases e : x = z
                              · subst e
                                exact absurd (by simpa using HB9.out : N.pl x = 0) hpx
                              · exact HB.out.2 x (by omega) hpx hkx
                            · go_wp2_with fail
                              go_quiet ((go_at_call 16; refine Calls.quiet_of_same (HIQ _ ?_); first | exact HQN.out | exact HQD _))
                              go_wp2_with fail
                              refine ⟨⟨z, z + 1, rfl, rfl, hz, hz, by simpa using HB9.out, fun x hx hpx hkx => ?_, HQ.out.later (below_drewNq _ _ _)⟩, hmz⟩
                              by_cases e : x = z
                              · subst e; exact Nat.le_refl _
                              · have := HB.out.2 x (by omega) hpx hkx
                                omega
                          · have q2 : decide ((k : Int) ≤ (idle z : Int) + (j : Int)) = false := by simp; omega
                            have q2' : decide (k ≤ idle z + j) = false := by simp; omega
                            cases b9
                            · go_wp2_with fail
                              go_quiet ((go_at_call 16; refine Calls.quiet_of_same (HIQ _ ?_); first | exact HQN.out | exact HQD _))
                              go_wp2_with fail
                              refine ⟨⟨w', z + 1, rfl, rfl, hwj', hz, HB.out.1, fun x hx hpx hkx => ?_, HQ.out.later (below_drewNq _ _ _)⟩, hmz⟩
                              by_cases e : x = z
                              · subst e
                                exact absurd (by simpa using HB9.out : N.pl x = 0) hpx
                              · exact HB.out.2 x (by omega) hpx hkx
                            · go_wp2_with fail
                              go_quiet ((go_at_call 16; refine Calls.quiet_of_same (HIQ _ ?_); first | exact HQN.out | exact HQD _))
                              go_wp2_with fail
                              refine ⟨⟨w', z + 1, rfl, rfl, hwj', hz, HB.out.1, fun x hx hpx hkx => ?_, HQ.out.later (below_drewNq _ _ _)⟩, hmz⟩
                              by_cases e : x = z
                              · subst e
                                omega
                              · exact HB.out.2 x (by omega) hpx hkx
                        · have q1 : decide ((idle w' : Int) < (idle z : Int)) = false := by simp; omega
                          have q1' : decide (idle w' < idle z) = false := by simp; omega
                          cases b9
                          · go_wp2_with fail
                            go_quiet ((go_at_call 16; refine Calls.quiet_of_same (HIQ _ ?_); first | exact HQN.out | exact HQD _))
                            go_wp2_with fail
                            refine ⟨⟨w', z + 1, rfl, rfl, hwj', hz, HB.out.1, fun x hx hpx hkx => ?_, HQ.out.later (below_drewNq _ _ _)⟩, hmz⟩
                            by_cases e : x = z
                            · subst e
                              exact absurd (by simpa using HB9.out : N.pl x = 0) hpx
                            · exact HB.out.2 x (by omega) hpx hkx
                          · go_wp2_with fail
                            go_quiet ((go_at_call 16; refine Calls.quiet_of_same (HIQ _ ?_); first | exact HQN.out | exact HQD _))
                            go_wp2_with fail
                            refine ⟨⟨w', z + 1, rfl, rfl, hwj', hz, HB.out.1, fun x hx hpx hkx => ?_, HQ.out.later (below_drewNq _ _ _)⟩, hmz⟩
                            by_cases e : x = z
                            · subst e
                              omega
                            · exact HB.out.2 x (by omega) hpx hkx
                      · have dz : decide ((z : Int) < (j : Int)) = false := by simp; omega
                        obtain rfl : z = j := by omega
                        have HQ : Hid (EnI W W.heap.size hb wb cb ib z k i N idle wr) := hq
                        clear hq
                        go_wp2_with fail
                        go_meet
                        exact ⟨w', hwj', rfl, HB.out.1, HB.out.2, HQ.out⟩
                  case rest => as_aux_lemma =>
                    obtain ⟨w', hwj', rfl, hpw', hbest, hq⟩ := hcut
                    have HST := nStep_any 13 #[] sumJ (fun _ => True) (fun _ => False) (enJn hb wb cb) (w' : Int) h2 hq.du.iv.p5 (fun x hx => by
                      by_cases e : N.pl x = 0
                      · have := hq.du.r1 x hx e; omega
                      · have := hq.du.r0 x hx e; omega) _ hq.nw trivial
                    unfold stpN at HST
                    rw [inN_nat, decide_eq_true hwj'] at HST
                    simp only [Int.toNat_natCast, true_and, hpw', ne_eq, not_false_eq_true, if_true] at HST
                    have HQ : Hid (EnI W W.heap.size hb wb cb ib j k i N idle _ ∧ N.pl w' ≠ 0 ∧ ∀ x, x < j → N.pl x ≠ 0 → k ≤ idle x + j → idle x ≤ idle w') := ⟨hq, hpw', hbest⟩
                    have w0 : (0 : Int) ≤ (w' : Int) := by omega
                    have w1 : (w' : Int) < (j : Int) := by omega
                    clear hq hpw' hbest HIN HPW
                    go_wp2_with (go_at_call 17; (with_reducible refine HST.mono ?_); rintro e w5 ⟨rfl, hnk⟩; have HNK : Hid (_ ∧ True) := ⟨hnk, trivial⟩; clear hnk)
                    have hE0 : E5 W W.heap.size hb wb cb ib j (stepN sumJ j N w') idle 0 w5 := by
                      have hq := HQ.out.1
                      have hnk := HNK.out.1
                      have hs := hq.bl.size
                      refine ⟨hnk.1, (hq.ir.far fun k9 e => ?_).congr fun x hx => by unfold iF; dsimp only; rw [if_neg (by omega)], hq.bl.trans (hnk.2.2.toBelow hs fun k9 e => ?_)⟩
                      · cases e
                        exact hnk.2.2.block _ (Own.lt hq.ir ib rfl).2 fun e => by
                          rcases e with (e | e) | e
                          · have : ib = wb := e
                            omega
                          · have : ib = cb := e
                            omega
                          · exact e
                      · have := hq.nw.bl
                        rcases e with (e | e) | e
                        · omega
                        · omega
                        · exact e.elim
                    have HE0 : Hid (E5 W W.heap.size hb wb cb ib j (stepN sumJ j N w') idle 0 w5) := hE0
                    clear hE0 HNK HST
                    go_loopw [145] (fun y wq => ∃ z : Nat, y = .int .i64 (z : Int) ∧ z ≤ j ∧ E5 W W.heap.size hb wb cb ib j (stepN sumJ j N w') idle z wq) (fun y _ => j - (intOf y).toNat)
                    case atStart => exact ⟨0, rfl, Nat.zero_le _, HE0.out⟩
                    case round =>
                      obtain ⟨z, rfl, hzj, h5⟩ := hrel
                      clear HE0
                      have hif := own_frozen h5.ir
                      have hil5 := (Own.lt h5.ir ib rfl).2
                      by_cases hz : z < j
                      · have dz : decide ((z : Int) < (j : Int)) = true := by simp; omega
                        have hmz := meas hz
                        have ez : IntKind.i64.wrap ((z : Int) + 1) = (z : Int) + 1 := by rw [IntKind.wrap_i64]; omega
                        have z0 : (0 : Int) ≤ (z : Int) := by omega
                        have z1 : (z : Int) < (j : Int) := by omega
                        have cz : wr.cell? ⟨ib, z, none⟩ = some (.int .i64 (idle z : Int)) := by
                          have := Own.cell h5.ir (j := z) (by omega)
                          unfold iF at this
                          dsimp only at this
                          rw [if_neg (by omega)] at this
                          exact this
                        have li := HQ.out.1.lt z hz
                        have es : IntKind.i64.wrap ((idle z : Int) + 1) = (idle z : Int) + 1 := by rw [IntKind.wrap_i64]; omega
                        have HN5 : Hid (E5 W W.heap.size hb wb cb ib j (stepN sumJ j N w') idle (z + 1) (wr.setCell ⟨ib, z, none⟩ (.int .i64 ((idle z + 1 : Nat) : Int)))) := h5.put hord (Nat.le_refl _) z (idle z + 1) idle (z + 1) (by rw [if_pos (by omega)]) (fun x hx hne => by
                          by_cases e : x < z
                          · rw [if_pos e, if_pos (by omega)]
                          · rw [if_neg e, if_neg (by omega)])
                        clear h5 li
                        go_wp2_with fail
                        exact ⟨⟨z + 1, rfl, hz, HN5.out⟩, hmz⟩
                      · have dz : decide ((z : Int) < (j : Int)) = false := by simp; omega
                        obtain rfl : z = j := by omega
                        have cw := Own.cell h5.ir (j := w') (by omega)
                        have HN5 : Hid (E5 W W.heap.size hb wb cb ib z (stepN sumJ z N w') (nextI idle w') 0 (wr.setCell ⟨ib, w', none⟩ (.int .i64 ((0 : Nat) : Int)))) := h5.put hord (Nat.le_refl _) w' 0 (nextI idle w') 0 (by unfold nextI; simp) (fun x hx hne => by
                          rw [if_pos hx, if_neg (by omega)]
                          unfold nextI
                          rw [if_neg hne])
                        clear h5
                        go_wp2_with fail
                        exact ⟨⟨i + 1, _, _, rfl, Nat.succ_le_of_lt (by assumption), HQ.out.1.stepped h2 hkn w' hwj' HQ.out.2.1 HQ.out.2.2 HN5.out⟩, hmm⟩
          · have di : decide ((i : Int) < (lm : Int)) = false := by simp; omega
            go_wp2_with fail
            go_meet
            exact ⟨N, hI.all h1 h2 fun x hx => due_end h2 hI.du hI.sc.idle (by rw [HLM.out]; omega) x hx⟩
      case rest => as_aux_lemma =>
        obtain ⟨N9, hE⟩ := hcut
        have HE : Hid (EnE W W.heap.size hb wb cb j N9 wc) := hE
        clear hE HA HKK
        go_wp2_with fail
        go_loopw [18] (fun x wr' => ∃ x0 : Nat, x = .int .i64 (x0 : Int) ∧ x0 ≤ j ∧ wr' = wc) (fun x _ => j - (intOf x).toNat)
        case atStart => exact ⟨0, rfl, Nat.zero_le _, rfl⟩
        case round =>
          obtain ⟨x0, rfl, hx0, h9⟩ := hrel
          subst h9
          by_cases hlt : x0 < j
          · have di : decide ((x0 : Int) < (j : Int)) = true := by simp; omega
            have hmm := meas hlt
            have ex : IntKind.i64.wrap ((x0 : Int) + 1) = (x0 : Int) + 1 := by rw [IntKind.wrap_i64]; omega
            have HVL := nvalue_any (x0 : Int) _ HE.out.nw
            have HIN := ninside_any (x0 : Int) _ HE.out.nw
            have HRD := nrounds_any (x0 : Int) _ HE.out.nw
            unfold valE valV at HVL
            have hrd := HE.out.rd x0 hlt
            rw [inN_nat, decide_eq_true hlt] at HVL HIN HRD
            simp only [Int.toNat_natCast, Bool.true_and, if_true, true_and, hrd, HE.out.pl x0 hlt, HE.out.dv x0 hlt] at HVL HIN HRD
            have z1 : IntKind.i64.wrap ((j : Int) - 1) = (j : Int) - 1 := by rw [IntKind.wrap_i64]; omega
            obtain ⟨jj, hjj⟩ : ∃ jj, (j : Int) * ((j : Int) - 1) = jj := ⟨_, rfl⟩
            have jb : 0 ≤ jj ∧ jj ≤ 4032 := by
              rw [← hjj]
              have a1 : (0 : Int) ≤ (j : Int) - 1 := by omega
              exact ⟨Int.mul_nonneg (by omega) a1, Int.le_trans (Int.mul_le_mul (by omega : (j : Int) ≤ 64) (by omega : (j : Int) - 1 ≤ 63) a1 (by omega)) (by omega)⟩
            have z2 : IntKind.i64.wrap jj = jj := by rw [IntKind.wrap_i64]; omega
            have z3 : jj.tdiv 2 = jj / 2 := Int.tdiv_eq_ediv_of_nonneg jb.1
            have z4 : IntKind.i64.wrap (jj / 2) = jj / 2 := by rw [IntKind.wrap_i64]; omega
            rw [hjj] at HVL
            clear hrd jb
            go_wp2_with (first | (go_at_call 18; (with_reducible refine HVL.mono ?_); rintro e w3 ⟨rfl, h9⟩; subst h9) | (go_at_call 16; (with_reducible refine HIN.mono ?_); rintro e w4 ⟨rfl, h9⟩; subst h9) | (go_at_call 19; (with_reducible refine HRD.mono ?_); rintro e w5 ⟨rfl, h9⟩; subst h9))
            exact ⟨⟨x0 + 1, rfl, hlt, by first | rfl | trivial⟩, hmm⟩
          · have di : decide ((x0 : Int) < (j : Int)) = false := by simp; omega
            go_wp2_with fail
            go_ret
            exact ⟨rfl, HE.out.bl⟩
theorem ends_law (x wide : Int) (p : Option Addr) (m c : Nat) (K : Nat → Int) (W : World) (hk : KAt W p m K) (hm : m ≤ 17592186044416) : Calls Try.prog 5 #[.int .i64 x, .int .i64 wide, .slice p m c] W fun e W' => e = .returned (.bool true) ∧ Below W.heap.size W W' := by
  by_cases hx : x < 1 ∨ 64 < x
  · exact ends_bad x wide p m c hx W
  · obtain ⟨n, rfl⟩ : ∃ n : Nat, x = (n : Int) := ⟨x.toNat, by omega⟩
    exact ends_good n (by omega) (by omega) wide p m c K W hk hm
end Go.Proofs.Ytkalhmofjpalkaa
