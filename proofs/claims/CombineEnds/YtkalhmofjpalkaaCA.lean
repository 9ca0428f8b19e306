import Derived.Test.YtkalhmofjpalkaaCJ2
import Derived.Test.YtkalhmofjpalkaaCK
import Derived.Deep.DeepCutAuto
import Derived.Deep.CutBlock
namespace Go.Proofs.Ytkalhmofjpalkaa
open Go.ChangeShapes Go.WideShapes Go.ChangeAt Go.RowKit
set_option linter.unusedVariables false
set_option linter.unusedSimpArgs false

theorem infoI3 : (Try.prog.info? 3).map (fun i => (i.zero, i.size, i.bytes)) = some (some (.int .i64 0), 1, 8) := by kernel_rfl
/-- what w brings to its round r -/
def brg (seed : Int) (r w : Nat) : Int := wrap64 (wrap64 (seed + wrap64 (1000 * (r : Int))) + (w : Int))
theorem w64 (x : Int) : IntKind.i64.wrap x = wrap64 x := by rw [IntKind.wrap_i64]; unfold wrap64; rfl
theorem brg_eq (seed : Int) (r w : Nat) : brg seed (r + 1) w = IntKind.i64.wrap (IntKind.i64.wrap (seed + IntKind.i64.wrap (1000 * ((r : Int) + 1))) + (w : Int)) := by
  unfold brg
  rw [w64, w64, w64]
  rfl
def iF (E : Nat → Nat) (j : Nat) : Value := .int .i64 (E j : Int)
/-- the law's state -/
structure AgI (W0 : World) (base hb wb cb kb eb n kd : Nat) (seed : Int) (k : Nat) (N : Nt) (E : Nat → Nat) (W : World) : Prop where
  nw : NW base hb wb cb n (.func (.func 20) #[] #[.pointer (some ⟨kb, 0, none⟩)]) N W
  ka : KA kb kd W
  er : Own W base 3 1 (.slice (some ⟨eb, 0, none⟩) n n) n (iF E)
  iv : Inv n N
  vl : Vals (JF kd) n (brg seed) N
  en : ∀ i, i < n → E i = N.rd i + (if N.pl i = 0 then 0 else 1)
  rk : ∀ i, i < n → N.rd i ≤ k
  bl : Below W0.heap.size W0 W
theorem NW.lower {base base' hb wb cb n : Nat} {jv : Value} {N : Nt} {W : World} (h : NW base hb wb cb n jv N W) (hb' : base' ≤ base) : NW base' hb wb cb n jv N W := ⟨h.box, h.row.lower hb', h.cel.lower hb', Nat.le_trans hb' h.bs⟩
theorem AgI.later {W0 W W' : World} {base hb wb cb kb eb n kd : Nat} {seed : Int} {k : Nat} {N : Nt} {E : Nat → Nat} (h : AgI W0 base hb wb cb kb eb n kd seed k N E W) (hb' : Below W.heap.size W W') : AgI W0 base hb wb cb kb eb n kd seed k N E W' :=
  ⟨h.nw.later hb', (hb'.block _ (lt_of_block h.ka)).trans h.ka, h.er.later hb', h.iv, h.vl, h.en, h.rk, h.bl.trans (hb'.mono h.bl.size)⟩
/-- which blocks lie where -/
structure Ord (base hb wb cb kb eb : Nat) : Prop where
  a : base ≤ kb
  b : kb < hb ∧ kb < wb ∧ kb < cb ∧ kb < eb
  c : hb < eb ∧ wb < eb ∧ cb < eb
theorem AgI.enter {W0 W W' : World} {base hb wb cb kb eb n kd : Nat} {seed : Int} {k : Nat} {N : Nt} {E : Nat → Nat} (h : AgI W0 base hb wb cb kb eb n kd seed k N E W) (ho : Ord base hb wb cb kb eb) (w : Nat) (hw : w < n) (hp : N.pl w = 0) (hb0 : W0.heap.size ≤ base)
    (hc : NC W base hb wb cb n (.func (.func 20) #[] #[.pointer (some ⟨kb, 0, none⟩)]) (enterN N w (brg seed (N.rd w + 1) w)) W') : AgI W0 base hb wb cb kb eb n kd seed k (enterN N w (brg seed (N.rd w + 1) w)) (upF E w (E w + 1)) (W'.setCell ⟨eb, w, none⟩ (.int .i64 ((E w + 1 : Nat) : Int))) := by
  have hne := ho.b
  have hoc := ho.c
  have c2 : Ch (fun b => b = eb) W' (W'.setCell ⟨eb, w, none⟩ (.int .i64 ((E w + 1 : Nat) : Int))) := Ch.set _ _ _ _ _ rfl
  have er' : Own W' base 3 1 (.slice (some ⟨eb, 0, none⟩) n n) n (iF E) := h.er.far fun k e => by
    cases e
    exact hc.2.block _ (Own.lt h.er eb rfl).2 fun e => by have e' : eb = wb ∨ eb = cb := e; omega
  refine ⟨hc.1.keep c2 (by show ¬ hb = eb; omega) (by show ¬ wb = eb; omega) (by show ¬ cb = eb; omega), ?_, own_put er' w _ (by simp [iF, upF]) fun j hj hn => by simp [iF, upF, hn], h.iv.enter w hw _ hp, h.vl.enter w hw, fun i hi => ?_, h.rk, ?_⟩
  · refine (c2.block _ ?_ (by show ¬ kb = eb; omega)).trans ((hc.2.block _ (lt_of_block h.ka) fun e => by rcases e with e | e <;> omega).trans h.ka)
    have := hc.2.size
    have := lt_of_block h.ka
    omega
  · show upF E w (E w + 1) i = N.rd i + (if upF N.pl w 1 i = 0 then 0 else 1)
    by_cases e : i = w
    · subst e
      have := h.en i hi
      rw [hp] at this
      simp [upF_at, this]
    · rw [upF_ne _ _ e, upF_ne _ _ e]
      exact h.en i hi
  · have hs := h.bl.size
    have h1 : Below W0.heap.size W W' := (hc.2.toBelow hs fun k e => by
      have := h.nw.bl
      rcases e with e | e <;> omega)
    exact (h.bl.trans h1).setCell (p := ⟨eb, w, none⟩) (by have := (Own.lt h.er eb rfl).1; show W0.heap.size ≤ eb; omega) _
theorem AgI.step {W0 W W' : World} {base hb wb cb kb eb n kd : Nat} {seed : Int} {k : Nat} {N : Nt} {E : Nat → Nat} (h : AgI W0 base hb wb cb kb eb n kd seed k N E W) (ho : Ord base hb wb cb kb eb) (w : Nat) (hw : w < n) (hp : N.pl w ≠ 0) (hb0 : W0.heap.size ≤ base)
    (hc : NK W base hb wb cb n (.func (.func 20) #[] #[.pointer (some ⟨kb, 0, none⟩)]) (KA kb kd) (fun _ => False) (stepN (JF kd) n N w) W') (hrk : ∀ i, i < n → (stepN (JF kd) n N w).rd i ≤ k + 1) (hen : ∀ i, i < n → E i = (stepN (JF kd) n N w).rd i + (if (stepN (JF kd) n N w).pl i = 0 then 0 else 1)) : AgI W0 base hb wb cb kb eb n kd seed (k + 1) (stepN (JF kd) n N w) E W' := by
  have hne := ho.b
  have hoc := ho.c
  refine ⟨hc.1, hc.2.1, h.er.far fun k e => ?_, h.iv.step _ w hw (by omega), Vals.step h.iv h.vl w hw (by omega), hen, hrk, ?_⟩
  · cases e
    exact hc.2.2.block _ (Own.lt h.er eb rfl).2 fun e => by
      rcases e with (e | e) | e
      · have : eb = wb := e
        omega
      · have : eb = cb := e
        omega
      · exact e
  · have hs := h.bl.size
    exact h.bl.trans (hc.2.2.toBelow hs fun k e => by
      have := h.nw.bl
      rcases e with (e | e) | e <;> first | omega | exact e.elim)
/-- a step's rounds and places, for the law's count -/
theorem step_en {J : Int → Int → Int} {n : Nat} {N : Nt} (hI : Inv n N) (w : Nat) (hw : w < n) (hp : N.pl w ≠ 0) : (∀ i, (stepN J n N w).rd i + (if (stepN J n N w).pl i = 0 then 0 else 1) = N.rd i + (if N.pl i = 0 then 0 else 1)) ∧ ∀ i, (stepN J n N w).rd i ≤ N.rd i + 1 := by
  have one : ∀ (pw r' : Nat), pw ≠ 0 → r' = N.rd w → ∀ i, upF N.rd w r' i + (if upF N.pl w pw i = 0 then 0 else 1) = N.rd i + (if N.pl i = 0 then 0 else 1) := fun pw r' h1 h2 i => by
    by_cases e : i = w
    · subst e; rw [upF_at, upF_at, h2, if_neg h1, if_neg hp]
    · rw [upF_ne _ _ e, upF_ne _ _ e]
  have same : ∀ (pw : Nat), pw ≠ 0 → ∀ i, N.rd i + (if upF N.pl w pw i = 0 then 0 else 1) = N.rd i + (if N.pl i = 0 then 0 else 1) := fun pw h1 i => by
    by_cases e : i = w
    · subst e; rw [upF_at, if_neg h1, if_neg hp]
    · rw [upF_ne _ _ e]
  unfold stepN
  split
  · unfold hearN; split
    · exact ⟨same _ (by omega), fun i => by show N.rd i ≤ _; omega⟩
    · exact ⟨fun _ => rfl, fun i => by omega⟩
  · split
    · unfold hearN; split
      · exact ⟨same _ (by omega), fun i => by show N.rd i ≤ _; omega⟩
      · exact ⟨fun _ => rfl, fun i => by omega⟩
    · split
      · exact ⟨same 4 (by omega), fun i => by show N.rd i ≤ _; omega⟩
      · split
        · unfold hearPN; split
          · exact ⟨same 5 (by omega), fun i => by show N.rd i ≤ _; omega⟩
          · exact ⟨fun _ => rfl, fun i => by omega⟩
        · refine ⟨fun i => ?_, fun i => ?_⟩
          · show upF N.rd w (N.rd w + 1) i + (if upF N.pl w 0 i = 0 then 0 else 1) = _
            by_cases e : i = w
            · subst e; rw [upF_at, upF_at, if_neg hp]; rfl
            · rw [upF_ne _ _ e, upF_ne _ _ e]
          · show upF N.rd w (N.rd w + 1) i ≤ _
            by_cases e : i = w
            · subst e; rw [upF_at]; omega
            · rw [upF_ne _ _ e]; omega
def vlF (V : Nat → Int) (j : Nat) : Value := vlC (V (j / 10)) (j % 10)
def vlL (x : Int) : List Value := [.int .i64 x, .int .u64 0, .bool false, .bool false, .bool false, .int .u64 0, .int .i64 0, .int .u64 0, .int .i64 0, .int .i64 0]
theorem vlL_eq (x : Int) : vlL x = cellsF (vlC x) 10 := rfl
theorem vl_app (V : Nat → Int) (i : Nat) : cellsF (vlF V) (i * 10) ++ vlL (V i) = cellsF (vlF V) ((i + 1) * 10) := by
  rw [vlL_eq, cellsF_append, show (i + 1) * 10 = i * 10 + 10 by omega]
  refine cellsF_congr fun j hj => ?_
  by_cases h : j < i * 10
  · rw [if_pos h]
  · rw [if_neg h]
    unfold vlF
    rw [show j / 10 = i by omega, show j % 10 = j - i * 10 by omega]
theorem infoRVl : (Try.prog.info? 46).map (fun i => (i.zero, i.size, i.bytes)) = some (some (.agg #[.int .i64 0, .int .u64 0, .bool false, .bool false, .bool false, .int .u64 0, .int .i64 0, .int .u64 0, .int .i64 0, .int .i64 0]), 10, 64) := by kernel_rfl
theorem vl_lies {W : World} {base lb c n : Nat} {V : Nat → Int} (h : Own W base 46 10 (.slice (some ⟨lb, 0, none⟩) n c) n (vlF V)) : VLc lb n V W := ⟨(Own.lt h lb rfl).2, fun i r hi hr => by
  rw [Own.cell h (j := i * 10 + r) (by omega)]
  unfold vlF
  rw [show (i * 10 + r) / 10 = i by omega, show (i * 10 + r) % 10 = r by omega]⟩
set_option maxRecDepth 100000 in
set_option maxHeartbeats 4000000 in
theorem agrees_bad (x how seed : Int) (p : Option Addr) (m c : Nat) (hx : x < 1 ∨ 64 < x) (W : World) : Calls Try.prog 6 #[.int .i64 x, .int .i64 how, .int .i64 seed, .slice p m c] W fun e W' => e = .returned (.bool true) ∧ Below W.heap.size W W' := by
  have HB := fun jv W => nnew_bad x hx jv W
  by_cases h1 : x < 1
  · have d1 : decide (x < 1) = true := by simpa using h1
    clear hx
    go_enter Try.func6, Try.ntmps6
    go_wp2_with (go_at_call 12; (with_reducible refine (HB _ _).mono ?_); rintro e w1 ⟨rfl, rfl⟩)
    go_ret
    exact ⟨rfl, by repeat (first | exact Below.refl _ _ | apply Below.drew | refine Below.alloc ?_ (by simp <;> omega) _)⟩
  · have d1 : decide (x < 1) = false := by simpa using h1
    have d2 : decide (64 < x) = true := by simp; omega
    clear hx
    go_enter Try.func6, Try.ntmps6
    go_wp2_with (go_at_call 12; (with_reducible refine (HB _ _).mono ?_); rintro e w1 ⟨rfl, rfl⟩)
    go_ret
    exact ⟨rfl, by repeat (first | exact Below.refl _ _ | apply Below.drew | refine Below.alloc ?_ (by simp <;> omega) _)⟩
set_option maxRecDepth 100000 in
set_option maxHeartbeats 8000000 in
theorem agrees_good (n : Nat) (h1 : 1 ≤ n) (h2 : n ≤ 64) (how seed : Int) (p : Option Addr) (m c : Nat) (K : Nat → Int) (W : World) (hk : KAt W p m K) (hm : m ≤ 17592186044416) : Calls Try.prog 6 #[.int .i64 (n : Int), .int .i64 how, .int .i64 seed, .slice p m c] W fun e W' => e = .returned (.bool true) ∧ Below W.heap.size W W' := by
  have u0 : 0 ≤ IntKind.u64.wrap how := by rw [IntKind.wrap_u64]; omega
  obtain ⟨kd, hkd, hkd5⟩ : ∃ kd : Nat, (IntKind.u64.wrap how).tmod 5 = (kd : Int) ∧ kd < 5 := by
    rw [Int.tmod_eq_emod_of_nonneg u0]
    refine ⟨(IntKind.u64.wrap how % 5).toNat, ?_, ?_⟩ <;> omega
  have d1 : decide ((n : Int) < 1) = false := by simp; omega
  have d2 : decide (64 < (n : Int)) = false := by simp; omega
  have kw : IntKind.i64.wrap (kd : Int) = (kd : Int) := by rw [IntKind.wrap_i64]; omega
  clear u0
  obtain ⟨iI, hI1, hI2, hI3, hI4⟩ := binfo infoI3
  have rI : ∀ w : World, (Instr.makeSlice 32 (.int .i64 (n : Int)) (.int .i64 (n : Int))).run Try.prog w = .ok (.slice (some ⟨w.heap.size, 0, none⟩) n n) (w.alloc (.cells (zA (.int .i64 0) n 1) 3)) := run_make_eq _ _ iI _ 1 Try.underlying32 hI1 hI2 hI3 n (by rw [hI4]; omega) (by omega)
  have hml : n ≤ maxLen := by unfold maxLen; omega
  obtain ⟨W1, hW1⟩ : ∃ W1, W.alloc (.cells #[.int .i64 (kd : Int)] 3) = W1 := ⟨_, rfl⟩
  have b1 : Below W.heap.size W W1 := by rw [← hW1]; exact (Below.refl _ W).alloc (Nat.le_refl _) _
  have ka1 : KA W.heap.size kd W1 := by rw [← hW1]; exact World.alloc_heap_new W _
  have s1 : W1.heap.size = W.heap.size + 1 := by rw [← hW1]; exact World.size_alloc _ _
  have HN := nnew_any n h1 h2 20 #[.pointer (some ⟨W.heap.size, 0, none⟩)] W1
  have HW1 : Hid (W.alloc (.cells #[.int .i64 (kd : Int)] 3) = W1) := hW1
  have HB1 : Hid (Below W.heap.size W W1) := b1
  have HK1 : Hid (KA W.heap.size kd W1) := ka1
  have HS1 : Hid (W1.heap.size = W.heap.size + 1) := s1
  clear hW1 hI1 hI2 hI3 hI4 b1 ka1 s1
  go_enter Try.func6, Try.ntmps6
  go_wp2_with (go_at_call 12; rw [HW1.out]; (with_reducible refine HN.mono ?_); rintro e w1 ⟨hb, wb, cb, rfl, hnw, hbl⟩; have HNW : Hid (NW W1.heap.size hb wb cb n (.func (.func 20) #[] #[.pointer (some ⟨W.heap.size, 0, none⟩)]) Nt.new w1) := hnw; have HBL : Hid (Below W1.heap.size W1 w1) := hbl; clear hnw hbl HN)
  generalize hW2 : World.alloc w1 _ = W2
  have hO : Ord W.heap.size hb wb cb W.heap.size w1.heap.size := by
    have h8 := HNW.out.bl
    have h7 := HNW.out.bs
    have h6 := HNW.out.lt
    have h9 := HS1.out
    exact ⟨Nat.le_refl _, ⟨by omega, by omega, by omega, by have := HBL.out.size; omega⟩, by omega, by omega, by omega⟩
  have hA : AgI W W.heap.size hb wb cb W.heap.size w1.heap.size n kd seed 0 Nt.new (fun _ => 0) W2 := by
    have bl2 : Below w1.heap.size w1 W2 := by rw [← hW2]; exact (Below.refl _ w1).alloc (Nat.le_refl _) _
    have h9 := HS1.out
    have hbl := HBL.out
    refine ⟨(HNW.out.later bl2).lower (by omega), ?_, ?_, Inv.new n, Vals.new _ _ _, fun i _ => by simp [Nt.new], fun i _ => by simp [Nt.new], HB1.out.trans ((hbl.mono (by omega)).trans (bl2.mono (by have := hbl.size; omega)))⟩
    · have hl := lt_of_block HK1.out
      exact (bl2.block _ (by have := hbl.size; omega)).trans ((hbl.block _ hl).trans HK1.out)
    · have o1 := own_new w1 3 (.int .i64 0) n 1 hml
      unfold zA at o1
      rw [← hW2]
      exact (o1.congr fun j hj => by rw [made1 _ rfl n j hj]; rfl).lower (by have := hbl.size; omega)
  clear hW2 HNW HBL HB1 HK1 HW1 HS1 rI
  generalize w1.heap.size = eb at hA hO ⊢
  have HA : Hid (AgI W W.heap.size hb wb cb W.heap.size eb n kd seed 0 Nt.new (fun _ => 0) W2) := hA
  have HO : Hid (Ord W.heap.size hb wb cb W.heap.size eb) := hO
  have HKK : Hid (KAt W p m K) := hk
  clear hA hO hk
  go_loopw [55] (fun x wr => ∃ (k : Nat) (N : Nt) (E : Nat → Nat), x = .int .i64 (k : Int) ∧ k ≤ m ∧ AgI W W.heap.size hb wb cb W.heap.size eb n kd seed k N E wr) (fun x _ => m - (intOf x).toNat)
  case atStart => exact ⟨0, _, _, rfl, Nat.zero_le _, HA.out⟩
  case round =>
    obtain ⟨k, N, E, rfl, hkm, hI⟩ := hrel
    clear HA
    by_cases hlt : k < m
    · have dl : decide ((k : Int) < (m : Int)) = true := by simp; omega
      have hmm := meas hlt
      have k0 : (0 : Int) ≤ (k : Int) := by omega
      have k1 : (k : Int) < (m : Int) := by omega
      rcases HKK.out with h0 | ⟨b, o, rfl, hbl, hck⟩
      · omega
      have kc : wr.cell? ⟨b, o + k, none⟩ = some (.int .i64 (K k)) := by
        rw [← hck k hlt]
        exact hI.bl.cell hbl
      have u0 : 0 ≤ IntKind.u64.wrap (K k) := by rw [IntKind.wrap_u64]; omega
      obtain ⟨w, hw, hwn⟩ : ∃ w : Nat, (IntKind.u64.wrap (K k)).tmod (n : Int) = (w : Int) ∧ w < n := by
        rw [Int.tmod_eq_emod_of_nonneg u0]
        have a1 := Int.emod_nonneg (IntKind.u64.wrap (K k)) (b := (n : Int)) (by omega)
        have a2 := Int.emod_lt_of_pos (IntKind.u64.wrap (K k)) (b := (n : Int)) (by omega)
        exact ⟨(IntKind.u64.wrap (K k) % (n : Int)).toNat, by omega, by omega⟩
      have uw : IntKind.u64.wrap (n : Int) = (n : Int) := by rw [IntKind.wrap_u64]; omega
      have ww : IntKind.i64.wrap (w : Int) = (w : Int) := by rw [IntKind.wrap_i64]; omega
      have nz : ((n : Int) == 0) = false := by simp; omega
      have HIN := ninside_any (w : Int) wr hI.nw
      rw [inN_nat, decide_eq_true hwn] at HIN
      simp only [Int.toNat_natCast, Bool.true_and] at HIN
      obtain ⟨q, hq⟩ : ∃ q, (N.pl w != 0) = q := ⟨_, rfl⟩
      rw [hq] at HIN
      have HQ : Hid ((N.pl w != 0) = q) := hq
      clear hq
      have HI : Hid (AgI W W.heap.size hb wb cb W.heap.size eb n kd seed k N E wr) := hI
      clear hI hck hbl u0
      go_upto_if 68 with (go_at_call 16; (with_reducible refine HIN.mono ?_); rintro e w3 ⟨rfl, h9⟩; subst h9)
      go_cut [] (fun wc => ∃ (N2 : Nt) (E2 : Nat → Nat), AgI W W.heap.size hb wb cb W.heap.size eb n kd seed k N2 E2 wc ∧ N2.pl w ≠ 0)
      case first =>
        cases q
        · have hp : N.pl w = 0 := by simpa using HQ.out
          have hE : E w = N.rd w := by
            have := HI.out.en w hwn
            rw [hp] at this
            simpa using this
          have ec : w3.cell? ⟨eb, w, none⟩ = some (.int .i64 (N.rd w : Int)) := by
            have := Own.cell HI.out.er (j := w) (by omega)
            unfold iF at this
            rw [hE] at this
            exact this
          have hrk := HI.out.rk w hwn
          have w0 : (0 : Int) ≤ (w : Int) := by omega
          have w1' : (w : Int) < (n : Int) := by omega
          have er1 : IntKind.i64.wrap ((N.rd w : Int) + 1) = ((N.rd w + 1 : Nat) : Int) := by rw [IntKind.wrap_i64]; omega
          have HRD := nrounds_any (w : Int) w3.drew (HI.out.nw.later (drewB _))
          have HEN := nenter_any (w : Int) (brg seed (N.rd w + 1) w) w3.drew (HI.out.nw.later (drewB _))
          unfold entE entN at HEN
          rw [inN_nat, decide_eq_true hwn] at HRD HEN
          simp only [Int.toNat_natCast, if_true, true_and, hp] at HRD HEN
          have eB : brg seed (N.rd w + 1) w = IntKind.i64.wrap (IntKind.i64.wrap (seed + IntKind.i64.wrap (1000 * ((N.rd w : Int) + 1))) + (w : Int)) := brg_eq seed (N.rd w) w
          have HEB : Hid (brg seed (N.rd w + 1) w = IntKind.i64.wrap (IntKind.i64.wrap (seed + IntKind.i64.wrap (1000 * ((N.rd w : Int) + 1))) + (w : Int))) := eB
          rw [eB] at HEN
          clear eB
          have HP0 : Hid (N.pl w = 0) := hp
          clear hp
          have HWR : Hid (AgI W W.heap.size hb wb cb W.heap.size eb n kd seed k N E w3.drew) := HI.out.later (drewB _)
          have ef := own_frozen HI.out.er w
          have el := (Own.lt HI.out.er eb rfl).2
          have hoo := HO.out.c
          go_wp2_with fail
          go_region_held3 (fun w' => w'.cell? ⟨eb, w, none⟩ = some (.int .i64 (N.rd w : Int))) (first | exact ec5 | go_keep) (first | (go_at_call 19; (with_reducible refine HRD.mono ?_); rintro e w4 ⟨rfl, h9⟩; subst h9) | (go_at_call 14; (with_reducible refine HEN.mono ?_); rintro e w5 ⟨rfl, hnc⟩; have ec5 : w5.cell? ⟨eb, w, none⟩ = some (.int .i64 (N.rd w : Int)) := (World.cell?_of_block (hnc.2.block eb el (fun e => by rcases e with e | e <;> omega))).trans ec; have ef5 : w5.frozen? ⟨eb, w, none⟩ = false := (by have := hnc.2.block eb el (fun e => by rcases e with e | e <;> omega); unfold World.frozen? at ef ⊢; rw [this]; exact ef); have el5 : eb < w5.heap.size := Nat.lt_of_lt_of_le el hnc.2.size; have HNC : Hid (_ ∧ True) := ⟨hnc, trivial⟩; clear hnc))
          all_goals (
            go_wp2_with fail
            go_meet
            have hnc := HNC.out.1
            rw [← HEB.out] at hnc
            have hz := HWR.out.enter HO.out w hwn HP0.out (Nat.le_refl _) hnc
            rw [hE] at hz
            exact ⟨_, _, hz, by simp [enterN, upF_at]⟩)
        · have hp : N.pl w ≠ 0 := by simpa using HQ.out
          go_wp2_with fail
          go_meet
          exact ⟨N, E, HI.out, hp⟩
      case rest =>
        obtain ⟨N2, E2, hI2, hp2⟩ := hcut
        clear HI HIN HQ kc
        have hen2 := step_en (J := JF kd) hI2.iv w hwn hp2
        have HST := nStep_any 20 #[.pointer (some ⟨W.heap.size, 0, none⟩)] (JF kd) (KA W.heap.size kd) (fun _ => False) (agJn W.heap.size kd hb wb cb hkd5 ⟨by have := HO.out.b; omega, by have := HO.out.b; omega⟩) (w : Int) h2 hI2.iv.p5 (fun i hi => by have := hI2.rk i hi; omega) wc hI2.nw hI2.ka
        unfold stpB stpE stpN at HST
        rw [inN_nat, decide_eq_true hwn] at HST
        simp only [Int.toNat_natCast, if_true, true_and, hp2, ne_eq, not_false_eq_true, if_false] at HST
        obtain ⟨N3, hN3⟩ : ∃ N3, stepN (JF kd) n N2 w = N3 := ⟨_, rfl⟩
        have hstep : ∀ W', NK wc W.heap.size hb wb cb n (.func (.func 20) #[] #[.pointer (some ⟨W.heap.size, 0, none⟩)]) (KA W.heap.size kd) (fun _ => False) N3 W' → AgI W W.heap.size hb wb cb W.heap.size eb n kd seed (k + 1) N3 E2 W' := fun W' hW' => by
          rw [← hN3] at hW' ⊢
          exact hI2.step HO.out w hwn hp2 (Nat.le_refl _) hW' (fun i hi => by have := hen2.2 i; have := hI2.rk i hi; omega) (fun i hi => (hI2.en i hi).trans (hen2.1 i).symm)
        rw [hN3] at HST
        obtain ⟨q, hq⟩ : ∃ q, (N3.pl w == 0) = q := ⟨_, rfl⟩
        rw [hq] at HST
        have HQ : Hid ((N3.pl w == 0) = q) := hq
        have HSP : Hid (∀ W', NK wc W.heap.size hb wb cb n (.func (.func 20) #[] #[.pointer (some ⟨W.heap.size, 0, none⟩)]) (KA W.heap.size kd) (fun _ => False) N3 W' → AgI W W.heap.size hb wb cb W.heap.size eb n kd seed (k + 1) N3 E2 W') := hstep
        have HR1 : Hid (N3.pl w = 0 → N3.rd w ≠ 0) := fun h0 => by
          have h9 := hen2.1 w
          rw [hN3, h0, if_neg hp2] at h9
          simp at h9
          omega
        clear hstep hN3 hen2 hI2 hp2 hq
        have w0 : (0 : Int) ≤ (w : Int) := by omega
        have w1' : (w : Int) < (n : Int) := by omega
        have ek : IntKind.i64.wrap ((k : Int) + 1) = (k : Int) + 1 := by rw [IntKind.wrap_i64]; omega
        cases q
        · go_wp2_with (first | (go_at_call 17; (with_reducible refine HST.mono ?_); rintro e w6 ⟨rfl, hnk⟩; have hA6 := HSP.out _ hnk; have HIN6 := ninside_any (w : Int) w6 hA6.nw; rw [inN_nat, decide_eq_true hwn] at HIN6; simp only [Int.toNat_natCast, Bool.true_and] at HIN6; rw [show (N3.pl w != 0) = true by have := HQ.out; simpa using this] at HIN6; have HA6 : Hid (AgI W W.heap.size hb wb cb W.heap.size eb n kd seed (k + 1) N3 E2 w6) := hA6; clear hA6 hnk) | (go_at_call 16; (with_reducible refine HIN6.mono ?_); rintro e w7 ⟨rfl, h9⟩; subst h9))
          exact ⟨⟨k + 1, N3, E2, rfl, hlt, HA6.out⟩, hmm⟩
        · have hpl : N3.pl w = 0 := by have := HQ.out; simpa using this
          have HPL : Hid (N3.pl w = 0) := hpl
          clear hpl
          go_upto_block 2 with (first | (go_at_call 17; (with_reducible refine HST.mono ?_); rintro e w6 ⟨rfl, hnk⟩; have hA6 := HSP.out _ hnk; have HIN6 := ninside_any (w : Int) w6 hA6.nw; have HRD6 := nrounds_any (w : Int) w6 hA6.nw; have HVL6 := nvalue_any (w : Int) w6 hA6.nw; unfold valE valV at HVL6; rw [inN_nat, decide_eq_true hwn] at HIN6 HRD6 HVL6; simp only [Int.toNat_natCast, Bool.true_and, if_true, true_and] at HIN6 HRD6 HVL6; rw [HPL.out] at HIN6; have hr1 := HR1.out HPL.out; simp only [hr1, ne_eq, not_false_eq_true, if_true, if_false] at HVL6; clear hr1; have HA6 : Hid (AgI W W.heap.size hb wb cb W.heap.size eb n kd seed (k + 1) N3 E2 w6) := hA6; clear hA6 hnk) | (go_at_call 16; (with_reducible refine HIN6.mono ?_); rintro e w7 ⟨rfl, h9⟩; subst h9) | (go_at_call 19; (with_reducible refine HRD6.mono ?_); rintro e w8 ⟨rfl, h9⟩; subst h9))
          obtain ⟨iV, hV1, hV2, hV3, hV4⟩ := binfo infoRVl
          obtain ⟨r, hr⟩ : ∃ r, N3.rd w = r := ⟨_, rfl⟩
          have HRR : Hid (N3.rd w = r) := hr
          rw [hr]
          clear hr HST HRD6 HIN6
          go_wp2_with fail
          go_loopw [19, 121] (fun l x wr' => ∃ i : Nat, x = .int .i64 (i : Int) ∧ i ≤ n ∧ Own wr' w8.heap.size 46 10 l i (vlF (brg seed r)) ∧ Below w8.heap.size w8 wr') (fun _ x _ => n - (intOf x).toNat)
          case atStart => exact ⟨0, rfl, Nat.zero_le _, World.ownsRow_nil _ _ _ _, Below.refl _ _⟩
          case round =>
            obtain ⟨i, rfl, hin, ho, hb8⟩ := hrel
            by_cases hil : i < n
            · have di : decide ((i : Int) < (n : Int)) = true := by simp; omega
              have hmi := meas hil
              have i0 : (0 : Int) ≤ (i : Int) := by omega
              have i1 : (i : Int) < (n : Int) := by omega
              have ei : IntKind.i64.wrap ((i : Int) + 1) = (i : Int) + 1 := by rw [IntKind.wrap_i64]; omega
              have ec : wr.cell? ⟨eb, i, none⟩ = some (.int .i64 (E2 i : Int)) := by
                have h1 := Own.cell HA6.out.er (j := i) (by omega)
                rw [cell_below hb8 (Own.lt HA6.out.er eb rfl).2]
                exact h1
              have hge : decide ((E2 i : Int) < (r : Int)) = false := by
                have h3 := HA6.out.iv.entered w i hwn hil
                have h4 := HA6.out.en i hil
                have h5 := HRR.out
                simp
                omega
              have hge2 : decide (E2 i < r) = false := by
                have h3 := HA6.out.iv.entered w i hwn hil
                have h4 := HA6.out.en i hil
                have h5 := HRR.out
                simp
                omega
              have hbx : brg seed r i = wrap64 (wrap64 (seed + wrap64 (1000 * (r : Int))) + (i : Int)) := rfl
              have p1 : i + 1 ≤ maxLen := by unfold maxLen; omega
              have p2 : (i + 1) * 64 ≤ 140737488355328 := by omega
              have HO2 : Hid ((wr.alloc (.cells (vlL (wrap64 (wrap64 (seed + wrap64 (1000 * (r : Int))) + (i : Int)))).toArray 46)).ownsRow w8.heap.size 46 10 u19 i (cellsF (vlF (brg seed r)) (i * 10))) := World.ownsRow.alloc ho _
              have HN2 : Hid (∀ j u, (vlL (wrap64 (wrap64 (seed + wrap64 (1000 * (r : Int))) + (i : Int))))[j]? = some u → (wr.alloc (.cells (vlL (wrap64 (wrap64 (seed + wrap64 (1000 * (r : Int))) + (i : Int)))).toArray 46)).cell? ((⟨wr.heap.size, 0, none⟩ : Addr).add j) = some u) := cells_new9 wr (vlL (wrap64 (wrap64 (seed + wrap64 (1000 * (r : Int))) + (i : Int)))) _
              have HB2 : Hid (Below w8.heap.size w8 (wr.alloc (.cells (vlL (wrap64 (wrap64 (seed + wrap64 (1000 * (r : Int))) + (i : Int)))).toArray 46))) := hb8.alloc hb8.size _
              clear ho hb8 hbx
              go_wp2_with (at_builtin; refine wpList_append_own_at _ rfl _ _ 48 rfl w8.heap.size 46 iV _ 10 64 Try.underlying48 hV1 hV2 hV3 hV4 rfl (by decide) _ _ _ rfl HO2.out ⟨wr.heap.size, 0, none⟩ 1 1 (vlL (wrap64 (wrap64 (seed + wrap64 (1000 * (r : Int))) + (i : Int)))) rfl rfl HN2.out (by simp [vlL, Value.oneCell']) p1 p2 HB2.out.size ?_; intro v' w9 hown9 hgrow9 _ _)
              refine ⟨⟨i + 1, rfl, hil, ?_, HB2.out.grown hgrow9 HB2.out.size (fun r' e => (Own.lt (F := vlF (brg seed r)) HO2.out r' e).1)⟩, hmi⟩
              have h9 := vl_app (brg seed r) i
              unfold Own
              rw [← h9]
              exact hown9
            · have di : decide ((i : Int) < (n : Int)) = false := by simp; omega
              obtain rfl : i = n := by omega
              rcases Own.form ho with ⟨h7, h8⟩ | ⟨lb, lc, h7, h8, h9⟩
              · omega
              subst h7
              have hA7 := HA6.out.later hb8
              have HVL7 := nvalue_any (w : Int) wr hA7.nw
              unfold valE valV at HVL7
              rw [inN_nat, decide_eq_true hwn] at HVL7
              have hr1 := HR1.out HPL.out
              simp only [Int.toNat_natCast, if_true, true_and, hr1, ne_eq, not_false_eq_true, if_false] at HVL7
              have hdv : N3.dv w = JT (JF kd) i (brg seed r) 0 := by
                have := hA7.vl.v6 w hwn (by omega)
                rw [HRR.out] at this
                exact this
              rw [hdv] at HVL7
              have HJD := joined_any kd hkd5 lb i lc h2 (brg seed r) i 0 (by omega) (by omega) wr (vl_lies ho)
              unfold vlA at HJD
              rw [show ((0 : Nat) : Int) = 0 from rfl] at HJD
              have ec : wr.cell? ⟨eb, w, none⟩ = some (.int .i64 (r : Int)) := by
                have h1 := Own.cell hA7.er (j := w) (by omega)
                have h3 := hA7.en w hwn
                rw [HPL.out, HRR.out] at h3
                unfold iF at h1
                rw [h3] at h1
                exact h1
              have kc : wr.cell? ⟨W.heap.size, 0, none⟩ = some (.int .i64 (kd : Int)) := by
                have := hA7.ka
                unfold KA at this
                unfold World.cell?
                rw [this]
                rfl
              generalize JT (JF kd) i (brg seed r) 0 = jv at HVL7 HJD
              have FN := fieldN jv
              have HA7 : Hid (AgI W W.heap.size hb wb cb W.heap.size eb i kd seed (k + 1) N3 E2 wr) := hA7
              clear hA7 hdv hr1 ho hb8 HA6 HVL6
              go_wp2_with (first | (go_at_call 18; (with_reducible refine HVL7.mono ?_); rintro e w9 ⟨rfl, h9'⟩; subst h9') | (go_at_call 22; (with_reducible refine HJD.mono ?_); rintro e w10 ⟨rfl, hb10⟩))
              exact ⟨⟨k + 1, N3, E2, rfl, hlt, HA7.out.later hb10⟩, hmm⟩
    · have dl : decide ((k : Int) < (m : Int)) = false := by simp; omega
      go_wp2_with fail
      go_ret
      exact ⟨rfl, hI.bl⟩
theorem agrees_law (x how seed : Int) (p : Option Addr) (m c : Nat) (K : Nat → Int) (W : World) (hk : KAt W p m K) (hm : m ≤ 17592186044416) : Calls Try.prog 6 #[.int .i64 x, .int .i64 how, .int .i64 seed, .slice p m c] W fun e W' => e = .returned (.bool true) ∧ Below W.heap.size W W' := by
  by_cases hx : x < 1 ∨ 64 < x
  · exact agrees_bad x how seed p m c hx W
  · obtain ⟨n, rfl⟩ : ∃ n : Nat, x = (n : Int) := ⟨x.toNat, by omega⟩
    exact agrees_good n (by omega) (by omega) how seed p m c K W hk hm
end Go.Proofs.Ytkalhmofjpalkaa
