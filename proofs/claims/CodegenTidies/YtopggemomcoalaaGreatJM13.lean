import Derived.Test.YtopggemomcoalaaGreatJM7
import Derived.Test.YtopggemomcoalaaGreatJM9b
import Derived.Test.YtopggemomcoalaaGreatJV7
namespace Go.Proofs.YtopggemomcoalaaGreat
open Go.ChangeShapes Go.WideShapes Go.ChangeAt Go.RowKit
set_option linter.unusedVariables false

/-- what an instruction comes to, whatever row the sent events lie in -/
def RO (w0 w' : World) (base mb nw : Nat) (C : Nat → Value) (M : Mc) (f : Int) (M' : Mc) : Prop := (f = 0 → ∃ ov, MW w0 w' base mb nw C { M' with ov := ov }) ∧ (f ≠ 0 → ∃ M2, MW w0 w' base mb nw C M2 ∧ M2.used = M.used)
theorem RS.ro {w0 w' : World} {base mb nw : Nat} {C : Nat → Value} {M : Mc} {f : Int} {M' : Mc} (h : RS w0 w' base mb nw C M f M') : RO w0 w' base mb nw C M f M' := ⟨fun e => ⟨M'.ov, h.1 e⟩, h.2⟩
def sentM (cl : Cl) (kind : Int) (M : Mc) : Mc := { popM (popM (popM M)) with on := M.on + 1, oF := oApp M (sentEv cl M kind (topM M) (topM (popM M)) (topM (popM (popM M)))), sent := u64of (M.sent + 1) }
theorem send_any (w0 w : World) (base mb nw : Nat) (C : Nat → Value) (M : Mc) (cl : Cl) (code : Value) (hC : CC C cl code) (kind : Int) (h : MW w0 w base mb nw C M) (hh : 3 ≤ M.hi) (h64 : M.hi ≤ 64) (ht : u64ok cl.time) (hon : M.on ≤ 16) :
    Calls Tryz.prog 103 #[.pointer (some ⟨mb, 0, none⟩), .int .i64 kind] w fun e w' => e = .returned (.int .i64 (sendF cl M (topM M) (topM (popM M)))) ∧ RO w0 w' base mb nw C M (sendF cl M (topM M) (topM (popM M))) (sentM cl kind M) := by
  by_cases hz : sendF cl M (topM M) (topM (popM M)) = 0
  · rw [hz]
    exact (send_ok w0 w base mb nw C M cl code hC kind h hh h64 ht hz hon).mono fun e w' ⟨h1, ov, h2⟩ => ⟨h1, fun _ => ⟨ov, h2⟩, fun h => absurd rfl h⟩
  · have hov : ∃ p c, M.ov = .slice p M.on c := by
      rcases h.out.form with ⟨h1, h2⟩ | ⟨g, c, h1, _⟩
      · exact ⟨none, 0, by rw [h1, h2]⟩
      · exact ⟨_, _, h1⟩
    exact (send_bad w0 w base mb nw C M cl code hC kind h hh h64 ht hz hov).mono fun e w' ⟨h1, h2⟩ => ⟨h1, fun h => absurd h hz, fun _ => h2⟩
set_option maxRecDepth 100000 in
set_option maxHeartbeats 4000000 in
theorem do_39 (w0 w : World) (base mb nw : Nat) (C : Nat → Value) (M : Mc) (cl : Cl) (code : Value) (hC : CC C cl code) (a b : Int) (h : MW w0 w base mb nw C M) (hh : 3 ≤ M.hi) (h64 : M.hi ≤ 64) (ht : u64ok cl.time) (hon : M.on ≤ 16) :
    Calls Tryz.prog 80 #[.pointer (some ⟨mb, 0, none⟩), .agg #[.int .i64 39, .int .i64 a, .int .i64 b]] w fun e w' => e = .returned (.int .i64 (sendF cl M (topM M) (topM (popM M)))) ∧ RO w0 w' base mb nw C M (sendF cl M (topM M) (topM (popM M))) (sentM cl a M) := by
  obtain ⟨wb, hwb⟩ : ∃ wb, w.alloc (.cells #[.int .i64 39, .int .i64 a, .int .i64 b] 36) = wb := ⟨_, rfl⟩
  obtain ⟨hbb, hbx, hsz⟩ := inbox w 39 a b wb hwb
  have HB : Hid (w.alloc (.cells #[.int .i64 39, .int .i64 a, .int .i64 b] 36) = wb) := hwb
  have hlt := h.box.lt.1
  have hb := h.later hbb
  clear hwb
  go_enter Tryz.func80, Tryz.ntmps80
  have HX := send_any w0 wb base mb nw C M cl code hC a hb hh h64 ht hon
  generalize sendF cl M (topM M) (topM (popM M)) = sf at HX ⊢
  go_wp2_with ((go_at_call 103; rw [HB.out]; (with_reducible refine HX.mono ?_); rintro e w1 ⟨rfl, r1⟩))
  go_ret
  exact ⟨rfl, r1⟩
/-! ### one instruction, plainly -/
def isPairB (o : Int) : Bool := (decide (13 ≤ o) && decide (o ≤ 22)) || (decide (26 ≤ o) && decide (o ≤ 33))
theorem isPair_of {o : Int} (h : isPairB o = true) : isPair o := by
  unfold isPairB at h
  simp at h
  unfold isPair
  omega
def idxF (i b : Int) : Int := if i < 0 ∨ b ≤ i then 203 else 0
/-- its fault -/
def doF (cl : Cl) (M : Mc) (o a b : Int) : Int :=
  if o = 40 then 209
  else if o = 5 ∨ o = 38 then idxF (topM M) b
  else if o = 6 then idxF (topM (popM M)) b
  else if o = 37 then (if topM M < 1 then 208 else 0)
  else if o = 41 then (if topM M < 1 then 208 else if waitV M.dice (topM M) = none then 206 else 0)
  else if o = 39 then sendF cl M (topM M) (topM (popM M))
  else if isPairB o then (pairV o (topM (popM M)) (topM M)).2
  else 0
def waitM (M : Mc) : Option (Int × Int) → Mc
  | some r => { pushM (popM M) r.1 with dice := r.2 }
  | none => M
/-- the machine behind it -/
def doM (cl : Cl) (M : Mc) (o a b : Int) : Mc :=
  if o = 1 then pushM M a
  else if o = 2 then popM M
  else if o = 3 then pushM M (M.wd a.toNat)
  else if o = 4 then { popM M with wd := updI M.wd a.toNat (topM M) }
  else if o = 5 then pushM (popM M) (M.wd (a.toNat + (topM M).toNat))
  else if o = 6 then { popM (popM M) with wd := updI M.wd (a.toNat + (topM (popM M)).toNat) (topM M) }
  else if o = 7 then pushM M (M.lo a.toNat)
  else if o = 8 then { popM M with lo := updI M.lo a.toNat (topM M) }
  else if o = 9 then pushM M cl.data
  else if o = 10 then pushM M (wrap64 cl.time)
  else if o = 11 then pushM M cl.dst
  else if o = 12 then pushM M cl.src
  else if o = 38 then pushM (popM M) (a + topM M)
  else if o = 37 then { pushM (popM M) (rollV M.dice (topM M)).1 with dice := (rollV M.dice (topM M)).2 }
  else if o = 41 then waitM M (waitV M.dice (topM M))
  else if o = 39 then sentM cl a M
  else if o = 23 ∨ o = 24 ∨ o = 25 ∨ o = 34 then pushM (popM M) (singleV o (topM M))
  else if isPairB o then pushM (popM (popM M)) (pairV o (topM (popM M)) (topM M)).1
  else M
end Go.Proofs.YtopggemomcoalaaGreat
namespace Go.Proofs.YtopggemomcoalaaGreat
open Go.ChangeShapes Go.WideShapes Go.ChangeAt Go.RowKit
set_option linter.unusedVariables false

/-! ### all numbers stay in their ranges -/
def In64 (x : Int) : Prop := -9223372036854775808 ≤ x ∧ x ≤ 9223372036854775807
theorem in64_wrap (n : Int) : In64 (wrap64 n) := by unfold In64 wrap64; omega
theorem in64_kw (n : Int) : In64 (IntKind.i64.wrap n) := by rw [IntKind.wrap_i64]; unfold In64; omega
theorem in64_bits (op : BinOp) (a b : Int) : In64 (bits op IntKind.i64 a b) := by unfold bits; exact in64_kw _
theorem in64_tmod {a b : Int} (h : In64 a) : In64 (a.tmod b) := by
  unfold In64 at *
  rcases Int.lt_or_le a 0 with h0 | h0
  · have e : a.tmod b = -((-a).tmod b) := by rw [Int.neg_tmod, Int.neg_neg]
    have h1 := Int.tmod_nonneg (a := -a) b (by omega)
    have h2 : (-a).tmod b ≤ -a := by
      obtain ⟨n, hn⟩ := Int.eq_ofNat_of_zero_le (show 0 ≤ -a by omega)
      rw [hn]
      rcases Int.lt_or_le b 0 with hb | hb
      · obtain ⟨m, hm⟩ := Int.eq_ofNat_of_zero_le (show 0 ≤ -b by omega)
        have e2 : b = -(m : Int) := by omega
        rw [e2, Int.tmod_neg]
        have := Nat.mod_le n m
        rw [← Int.ofNat_tmod]
        omega
      · obtain ⟨m, rfl⟩ := Int.eq_ofNat_of_zero_le hb
        have := Nat.mod_le n m
        rw [← Int.ofNat_tmod]
        omega
    omega
  · have h1 := Int.tmod_nonneg (a := a) b h0
    have h2 : a.tmod b ≤ a := by
      obtain ⟨n, rfl⟩ := Int.eq_ofNat_of_zero_le h0
      rcases Int.lt_or_le b 0 with hb | hb
      · obtain ⟨m, hm⟩ := Int.eq_ofNat_of_zero_le (show 0 ≤ -b by omega)
        have e2 : b = -(m : Int) := by omega
        rw [e2, Int.tmod_neg]
        have := Nat.mod_le n m
        rw [← Int.ofNat_tmod]
        omega
      · obtain ⟨m, rfl⟩ := Int.eq_ofNat_of_zero_le hb
        have := Nat.mod_le n m
        rw [← Int.ofNat_tmod]
        omega
    omega
theorem in64_shr {a : Int} (h : In64 a) (k : Nat) : In64 (a / 2 ^ k) := by
  have hp : (0 : Int) < 2 ^ k := Int.pow_pos (by omega)
  unfold In64 at *
  refine ⟨(Int.le_ediv_iff_mul_le hp).2 ?_, ?_⟩
  · have : (1 : Int) ≤ 2 ^ k := hp
    have := Int.mul_le_mul_of_nonpos_left (show (-9223372036854775808 : Int) ≤ 0 by omega) this
    omega
  · rcases Int.lt_or_le a 0 with h0 | h0
    · have := Int.ediv_neg_of_neg_of_pos h0 hp
      omega
    · have := Int.ediv_le_self (a := a) (2 ^ k) h0
      omega
theorem in64_pair (o a b : Int) (h : isPair o) (ha : In64 a) (hb : In64 b) : In64 (pairV o a b).1 := by
  have z : In64 0 := ⟨by omega, by omega⟩
  have one : In64 1 := ⟨by omega, by omega⟩
  rcases h with rfl | rfl | rfl | rfl | rfl | rfl | rfl | rfl | rfl | rfl | rfl | rfl | rfl | rfl | rfl | rfl | rfl | rfl
  · show In64 (wrap64 (a + b))
    exact in64_wrap _
  · show In64 (wrap64 (a - b))
    exact in64_wrap _
  · show In64 (wrap64 (a * b))
    exact in64_wrap _
  · show In64 ((if b = 0 then (0, 201) else (wrap64 (a.tdiv b), 0)) : Int × Int).1
    by_cases c : b = 0
    · rw [if_pos c]; exact z
    · rw [if_neg c]; exact in64_wrap _
  · show In64 ((if b = 0 then (0, 201) else (a.tmod b, 0)) : Int × Int).1
    by_cases c : b = 0
    · rw [if_pos c]; exact z
    · rw [if_neg c]; exact in64_tmod ha
  · show In64 (bits BinOp.and IntKind.i64 a b)
    exact in64_bits _ _ _
  · show In64 (bits BinOp.or IntKind.i64 a b)
    exact in64_bits _ _ _
  · show In64 (bits BinOp.xor IntKind.i64 a b)
    exact in64_bits _ _ _
  · show In64 ((if b < 0 then (0, 202) else (IntKind.i64.wrap (a * 2 ^ min b.toNat 64), 0)) : Int × Int).1
    by_cases c : b < 0
    · rw [if_pos c]; exact z
    · rw [if_neg c]; exact in64_kw _
  · show In64 ((if b < 0 then (0, 202) else (a / 2 ^ min b.toNat 64, 0)) : Int × Int).1
    by_cases c : b < 0
    · rw [if_pos c]; exact z
    · rw [if_neg c]; exact in64_shr ha _
  · show In64 (if a = b then 1 else 0)
    by_cases c : a = b
    · rw [if_pos c]; exact one
    · rw [if_neg c]; exact z
  · show In64 (if a = b then 0 else 1)
    by_cases c : a = b
    · rw [if_pos c]; exact z
    · rw [if_neg c]; exact one
  · show In64 (if a < b then 1 else 0)
    by_cases c : a < b
    · rw [if_pos c]; exact one
    · rw [if_neg c]; exact z
  · show In64 (if a ≤ b then 1 else 0)
    by_cases c : a ≤ b
    · rw [if_pos c]; exact one
    · rw [if_neg c]; exact z
  · show In64 (if b < a then 1 else 0)
    by_cases c : b < a
    · rw [if_pos c]; exact one
    · rw [if_neg c]; exact z
  · show In64 (if b ≤ a then 1 else 0)
    by_cases c : b ≤ a
    · rw [if_pos c]; exact one
    · rw [if_neg c]; exact z
  · show In64 (if b < a then b else a)
    by_cases c : b < a
    · rw [if_pos c]; exact hb
    · rw [if_neg c]; exact ha
  · show In64 (if a < b then b else a)
    by_cases c : a < b
    · rw [if_pos c]; exact hb
    · rw [if_neg c]; exact ha
theorem in64_single (o a : Int) : In64 (singleV o a) := by
  have z : In64 0 := ⟨by omega, by omega⟩
  have one : In64 1 := ⟨by omega, by omega⟩
  unfold singleV
  repeat' split
  all_goals first | exact z | exact one | exact in64_wrap _ | exact in64_bits _ _ _
structure OkM (M : Mc) : Prop where
  st : ∀ j, In64 (M.st j)
  lo : ∀ j, In64 (M.lo j)
  wd : ∀ j, In64 (M.wd j)
  dice : u64ok M.dice
  sent : u64ok M.sent
  on : M.on ≤ 16
structure OkC (cl : Cl) : Prop where
  time : u64ok cl.time
  src : In64 cl.src
  dst : In64 cl.dst
  data : In64 cl.data
theorem in64_upd {f : Nat → Int} (h : ∀ j, In64 (f j)) (k : Nat) {x : Int} (hx : In64 x) : ∀ j, In64 (updI f k x j) := fun j => by
  unfold updI
  split
  · exact hx
  · exact h j
theorem OkM.push {M : Mc} (h : OkM M) {x : Int} (hx : In64 x) : OkM (pushM M x) := ⟨in64_upd h.st _ hx, h.lo, h.wd, h.dice, h.sent, h.on⟩
theorem OkM.pop {M : Mc} (h : OkM M) : OkM (popM M) := ⟨h.st, h.lo, h.wd, h.dice, h.sent, h.on⟩
theorem OkM.top {M : Mc} (h : OkM M) : In64 (topM M) := h.st _
theorem sendF_on {cl : Cl} {M : Mc} {D T : Int} (h : sendF cl M D T = 0) : M.on ≠ 16 := fun hc => by
  unfold sendF at h
  by_cases a1 : T < 0 ∨ cl.parts ≤ T
  · rw [if_pos a1] at h; cases h
  · rw [if_neg a1] at h
    by_cases a2 : D < 0 ∨ u64of D < cl.look
    · rw [if_pos a2] at h; cases h
    · rw [if_neg a2, if_pos hc] at h; cases h
theorem doM_ok (cl : Cl) (hc : OkC cl) (M : Mc) (h : OkM M) (o a b : Int) (ha : In64 a) (hf : doF cl M o a b = 0) (hn : o = 38 → 0 ≤ a ∧ a + b ≤ 64) : OkM (doM cl M o a b) := by
  unfold doM
  by_cases h1 : o = 1
  · rw [if_pos h1]; exact h.push ha
  rw [if_neg h1]
  by_cases h2 : o = 2
  · rw [if_pos h2]; exact h.pop
  rw [if_neg h2]
  by_cases h3 : o = 3
  · rw [if_pos h3]; exact h.push (h.wd _)
  rw [if_neg h3]
  by_cases h4 : o = 4
  · rw [if_pos h4]; exact ⟨h.st, h.lo, in64_upd h.wd _ h.top, h.dice, h.sent, h.on⟩
  rw [if_neg h4]
  by_cases h5 : o = 5
  · rw [if_pos h5]; exact h.pop.push (h.wd _)
  rw [if_neg h5]
  by_cases h6 : o = 6
  · rw [if_pos h6]; exact ⟨h.st, h.lo, in64_upd h.wd _ h.top, h.dice, h.sent, h.on⟩
  rw [if_neg h6]
  by_cases h7 : o = 7
  · rw [if_pos h7]; exact h.push (h.lo _)
  rw [if_neg h7]
  by_cases h8 : o = 8
  · rw [if_pos h8]; exact ⟨h.st, in64_upd h.lo _ h.top, h.wd, h.dice, h.sent, h.on⟩
  rw [if_neg h8]
  by_cases h9 : o = 9
  · rw [if_pos h9]; exact h.push hc.data
  rw [if_neg h9]
  by_cases h10 : o = 10
  · rw [if_pos h10]; exact h.push (in64_wrap _)
  rw [if_neg h10]
  by_cases h11 : o = 11
  · rw [if_pos h11]; exact h.push hc.dst
  rw [if_neg h11]
  by_cases h12 : o = 12
  · rw [if_pos h12]; exact h.push hc.src
  rw [if_neg h12]
  by_cases h38 : o = 38
  · rw [if_pos h38]
    have hx := hn h38
    have hy : ¬ (topM M < 0 ∨ b ≤ topM M) := fun hc' => by
      unfold doF at hf
      rw [if_neg (by omega), if_pos (.inr h38)] at hf
      unfold idxF at hf
      rw [if_pos hc'] at hf
      cases hf
    exact h.pop.push ⟨by omega, by omega⟩
  rw [if_neg h38]
  by_cases h37 : o = 37
  · rw [if_pos h37]
    have hr : ¬ topM M < 1 := fun hc' => by
      unfold doF at hf
      rw [if_neg (by omega), if_neg (by omega), if_neg (by omega), if_pos h37, if_pos hc'] at hf
      cases hf
    have hb := rollV_b M.dice (topM M) ⟨by omega, h.top.2⟩
    have hp := h.pop.push (x := (rollV M.dice (topM M)).1) ⟨by omega, hb.1.2⟩
    exact ⟨hp.st, hp.lo, hp.wd, hb.2, hp.sent, hp.on⟩
  rw [if_neg h37]
  by_cases h41 : o = 41
  · rw [if_pos h41]
    generalize hwv : waitV M.dice (topM M) = wv
    rcases wv with _ | r
    · exact h
    · have hb := waitV_b hwv
      have hp := h.pop.push (x := r.1) ⟨by omega, hb.1.2⟩
      exact ⟨hp.st, hp.lo, hp.wd, hb.2, hp.sent, hp.on⟩
  rw [if_neg h41]
  by_cases h39 : o = 39
  · rw [if_pos h39]
    have hz : sendF cl M (topM M) (topM (popM M)) = 0 := by
      unfold doF at hf
      rwa [if_neg (by omega), if_neg (by omega), if_neg (by omega), if_neg (by omega), if_neg (by omega), if_pos h39] at hf
    have := sendF_on hz
    exact ⟨h.st, h.lo, h.wd, h.dice, u64of_b _, by have := h.on; show M.on + 1 ≤ 16; omega⟩
  rw [if_neg h39]
  by_cases hs : o = 23 ∨ o = 24 ∨ o = 25 ∨ o = 34
  · rw [if_pos hs]; exact h.pop.push (in64_single _ _)
  rw [if_neg hs]
  by_cases hp : isPairB o = true
  · rw [if_pos hp]; exact h.pop.pop.push (in64_pair _ _ _ (isPair_of hp) h.pop.top h.top)
  rw [if_neg hp]
  exact h
end Go.Proofs.YtopggemomcoalaaGreat
namespace Go.Proofs.YtopggemomcoalaaGreat
open Go.ChangeShapes Go.WideShapes Go.ChangeAt Go.RowKit
set_option linter.unusedVariables false

theorem ins_one {P : Pg} {o a b : Int} (h : insErr P o a b = 0) (hw : wantsI o ≠ 2) (h1 : o ≠ 1) : 0 ≤ a ∧ a ≤ limI P o - 1 := by
  unfold insErr at h
  by_cases h0 : 0 ≤ o ∧ o < 42
  · rw [if_neg (by simpa using h0), if_neg hw] at h
    by_cases hb : b = 0
    · rw [if_neg (by simpa using hb)] at h
      by_cases hc : o = 1 ∨ (0 ≤ a ∧ a ≤ limI P o - 1)
      · rcases hc with hc | hc
        · exact absurd hc h1
        · exact hc
      · rw [if_neg hc] at h
        split at h <;> cases h
    · rw [if_pos hb] at h; cases h
  · rw [if_pos h0] at h; cases h
theorem ins_two {P : Pg} {o a b : Int} (h : insErr P o a b = 0) (hw : wantsI o = 2) : (1 ≤ b ∧ b ≤ limI P o) ∧ 0 ≤ a ∧ a ≤ limI P o - b := by
  unfold insErr at h
  by_cases h0 : 0 ≤ o ∧ o < 42
  · rw [if_neg (by simpa using h0), if_pos hw] at h
    by_cases hb : 1 ≤ b ∧ b ≤ limI P o
    · rw [if_pos hb] at h
      by_cases hc : 0 ≤ a ∧ a ≤ limI P o - b
      · exact ⟨hb, hc⟩
      · rw [if_neg hc] at h; cases h
    · rw [if_neg hb] at h; cases h
  · rw [if_pos h0] at h; cases h
theorem ins_op {P : Pg} {o a b : Int} (h : insErr P o a b = 0) : 0 ≤ o ∧ o < 42 := by
  unfold insErr at h
  by_cases h0 : 0 ≤ o ∧ o < 42
  · exact h0
  · rw [if_pos h0] at h; cases h
theorem pop_pair {o : Int} (h : isPair o) : pops o = 2 ∧ pushes o = 1 := by
  rcases h with rfl | rfl | rfl | rfl | rfl | rfl | rfl | rfl | rfl | rfl | rfl | rfl | rfl | rfl | rfl | rfl | rfl | rfl
  all_goals exact ⟨rfl, rfl⟩
theorem idx_cases (i b : Int) : (idxF i b = 203 ∧ (i < 0 ∨ b ≤ i)) ∨ (idxF i b = 0 ∧ ∃ k : Nat, i = (k : Int) ∧ (k : Int) < b) := by
  unfold idxF
  by_cases h : i < 0 ∨ b ≤ i
  · exact .inl ⟨if_pos h, h⟩
  · exact .inr ⟨if_neg h, i.toNat, by omega, by omega⟩
theorem doA_1 (P : Pg) (hs : sizedP P) (w0 w : World) (base mb nw : Nat) (C : Nat → Value) (M : Mc) (cl : Cl) (code : Value) (hC : CC C cl code) (hcl : OkC cl) (hM : OkM M) (hnw : P.words = nw) (a b : Int) (hv : insErr P 1 a b = 0) (h : MW w0 w base mb nw C M) (hf1 : pops 1 ≤ M.hi) (hf2 : (M.hi : Int) - pops 1 + pushes 1 ≤ 64) (h64 : M.hi ≤ 64) :
    Calls Tryz.prog 80 #[.pointer (some ⟨mb, 0, none⟩), .agg #[.int .i64 1, .int .i64 a, .int .i64 b]] w fun e w' => e = .returned (.int .i64 (doF cl M 1 a b)) ∧ RO w0 w' base mb nw C M (doF cl M 1 a b) (doM cl M 1 a b) := by
  obtain ⟨⟨q1, q2⟩, ⟨q3, q4⟩, q5, q6⟩ := hs
  rw [show pops 1 = 0 from rfl] at hf1 hf2
  rw [show pushes 1 = 1 from rfl] at hf2
  exact (do_1 w0 w base mb nw C M cl code hC a b h (by omega)).mono fun e w' ⟨h1, h2⟩ => ⟨h1, h2.ro⟩
theorem doA_9 (P : Pg) (hs : sizedP P) (w0 w : World) (base mb nw : Nat) (C : Nat → Value) (M : Mc) (cl : Cl) (code : Value) (hC : CC C cl code) (hcl : OkC cl) (hM : OkM M) (hnw : P.words = nw) (a b : Int) (hv : insErr P 9 a b = 0) (h : MW w0 w base mb nw C M) (hf1 : pops 9 ≤ M.hi) (hf2 : (M.hi : Int) - pops 9 + pushes 9 ≤ 64) (h64 : M.hi ≤ 64) :
    Calls Tryz.prog 80 #[.pointer (some ⟨mb, 0, none⟩), .agg #[.int .i64 9, .int .i64 a, .int .i64 b]] w fun e w' => e = .returned (.int .i64 (doF cl M 9 a b)) ∧ RO w0 w' base mb nw C M (doF cl M 9 a b) (doM cl M 9 a b) := by
  obtain ⟨⟨q1, q2⟩, ⟨q3, q4⟩, q5, q6⟩ := hs
  rw [show pops 9 = 0 from rfl] at hf1 hf2
  rw [show pushes 9 = 1 from rfl] at hf2
  exact (do_9 w0 w base mb nw C M cl code hC a b h (by omega)).mono fun e w' ⟨h1, h2⟩ => ⟨h1, h2.ro⟩
theorem doA_10 (P : Pg) (hs : sizedP P) (w0 w : World) (base mb nw : Nat) (C : Nat → Value) (M : Mc) (cl : Cl) (code : Value) (hC : CC C cl code) (hcl : OkC cl) (hM : OkM M) (hnw : P.words = nw) (a b : Int) (hv : insErr P 10 a b = 0) (h : MW w0 w base mb nw C M) (hf1 : pops 10 ≤ M.hi) (hf2 : (M.hi : Int) - pops 10 + pushes 10 ≤ 64) (h64 : M.hi ≤ 64) :
    Calls Tryz.prog 80 #[.pointer (some ⟨mb, 0, none⟩), .agg #[.int .i64 10, .int .i64 a, .int .i64 b]] w fun e w' => e = .returned (.int .i64 (doF cl M 10 a b)) ∧ RO w0 w' base mb nw C M (doF cl M 10 a b) (doM cl M 10 a b) := by
  obtain ⟨⟨q1, q2⟩, ⟨q3, q4⟩, q5, q6⟩ := hs
  rw [show pops 10 = 0 from rfl] at hf1 hf2
  rw [show pushes 10 = 1 from rfl] at hf2
  exact (do_10 w0 w base mb nw C M cl code hC a b h (by omega)).mono fun e w' ⟨h1, h2⟩ => ⟨h1, h2.ro⟩
theorem doA_11 (P : Pg) (hs : sizedP P) (w0 w : World) (base mb nw : Nat) (C : Nat → Value) (M : Mc) (cl : Cl) (code : Value) (hC : CC C cl code) (hcl : OkC cl) (hM : OkM M) (hnw : P.words = nw) (a b : Int) (hv : insErr P 11 a b = 0) (h : MW w0 w base mb nw C M) (hf1 : pops 11 ≤ M.hi) (hf2 : (M.hi : Int) - pops 11 + pushes 11 ≤ 64) (h64 : M.hi ≤ 64) :
    Calls Tryz.prog 80 #[.pointer (some ⟨mb, 0, none⟩), .agg #[.int .i64 11, .int .i64 a, .int .i64 b]] w fun e w' => e = .returned (.int .i64 (doF cl M 11 a b)) ∧ RO w0 w' base mb nw C M (doF cl M 11 a b) (doM cl M 11 a b) := by
  obtain ⟨⟨q1, q2⟩, ⟨q3, q4⟩, q5, q6⟩ := hs
  rw [show pops 11 = 0 from rfl] at hf1 hf2
  rw [show pushes 11 = 1 from rfl] at hf2
  exact (do_11 w0 w base mb nw C M cl code hC a b h (by omega)).mono fun e w' ⟨h1, h2⟩ => ⟨h1, h2.ro⟩
theorem doA_12 (P : Pg) (hs : sizedP P) (w0 w : World) (base mb nw : Nat) (C : Nat → Value) (M : Mc) (cl : Cl) (code : Value) (hC : CC C cl code) (hcl : OkC cl) (hM : OkM M) (hnw : P.words = nw) (a b : Int) (hv : insErr P 12 a b = 0) (h : MW w0 w base mb nw C M) (hf1 : pops 12 ≤ M.hi) (hf2 : (M.hi : Int) - pops 12 + pushes 12 ≤ 64) (h64 : M.hi ≤ 64) :
    Calls Tryz.prog 80 #[.pointer (some ⟨mb, 0, none⟩), .agg #[.int .i64 12, .int .i64 a, .int .i64 b]] w fun e w' => e = .returned (.int .i64 (doF cl M 12 a b)) ∧ RO w0 w' base mb nw C M (doF cl M 12 a b) (doM cl M 12 a b) := by
  obtain ⟨⟨q1, q2⟩, ⟨q3, q4⟩, q5, q6⟩ := hs
  rw [show pops 12 = 0 from rfl] at hf1 hf2
  rw [show pushes 12 = 1 from rfl] at hf2
  exact (do_12 w0 w base mb nw C M cl code hC a b h (by omega)).mono fun e w' ⟨h1, h2⟩ => ⟨h1, h2.ro⟩
theorem doA_2 (P : Pg) (hs : sizedP P) (w0 w : World) (base mb nw : Nat) (C : Nat → Value) (M : Mc) (cl : Cl) (code : Value) (hC : CC C cl code) (hcl : OkC cl) (hM : OkM M) (hnw : P.words = nw) (a b : Int) (hv : insErr P 2 a b = 0) (h : MW w0 w base mb nw C M) (hf1 : pops 2 ≤ M.hi) (hf2 : (M.hi : Int) - pops 2 + pushes 2 ≤ 64) (h64 : M.hi ≤ 64) :
    Calls Tryz.prog 80 #[.pointer (some ⟨mb, 0, none⟩), .agg #[.int .i64 2, .int .i64 a, .int .i64 b]] w fun e w' => e = .returned (.int .i64 (doF cl M 2 a b)) ∧ RO w0 w' base mb nw C M (doF cl M 2 a b) (doM cl M 2 a b) := by
  obtain ⟨⟨q1, q2⟩, ⟨q3, q4⟩, q5, q6⟩ := hs
  rw [show pops 2 = 1 from rfl] at hf1 hf2
  rw [show pushes 2 = 0 from rfl] at hf2
  exact (do_2 w0 w base mb nw C M cl code hC a b h (by omega) h64).mono fun e w' ⟨h1, h2⟩ => ⟨h1, h2.ro⟩
theorem doA_40 (P : Pg) (hs : sizedP P) (w0 w : World) (base mb nw : Nat) (C : Nat → Value) (M : Mc) (cl : Cl) (code : Value) (hC : CC C cl code) (hcl : OkC cl) (hM : OkM M) (hnw : P.words = nw) (a b : Int) (hv : insErr P 40 a b = 0) (h : MW w0 w base mb nw C M) (hf1 : pops 40 ≤ M.hi) (hf2 : (M.hi : Int) - pops 40 + pushes 40 ≤ 64) (h64 : M.hi ≤ 64) :
    Calls Tryz.prog 80 #[.pointer (some ⟨mb, 0, none⟩), .agg #[.int .i64 40, .int .i64 a, .int .i64 b]] w fun e w' => e = .returned (.int .i64 (doF cl M 40 a b)) ∧ RO w0 w' base mb nw C M (doF cl M 40 a b) (doM cl M 40 a b) := by
  obtain ⟨⟨q1, q2⟩, ⟨q3, q4⟩, q5, q6⟩ := hs
  rw [show pops 40 = 1 from rfl] at hf1 hf2
  rw [show pushes 40 = 0 from rfl] at hf2
  exact (do_40 w0 w base mb nw C M cl code hC a b h).mono fun e w' ⟨h1, h2⟩ => ⟨h1, h2.ro⟩
theorem doA_23 (P : Pg) (hs : sizedP P) (w0 w : World) (base mb nw : Nat) (C : Nat → Value) (M : Mc) (cl : Cl) (code : Value) (hC : CC C cl code) (hcl : OkC cl) (hM : OkM M) (hnw : P.words = nw) (a b : Int) (hv : insErr P 23 a b = 0) (h : MW w0 w base mb nw C M) (hf1 : pops 23 ≤ M.hi) (hf2 : (M.hi : Int) - pops 23 + pushes 23 ≤ 64) (h64 : M.hi ≤ 64) :
    Calls Tryz.prog 80 #[.pointer (some ⟨mb, 0, none⟩), .agg #[.int .i64 23, .int .i64 a, .int .i64 b]] w fun e w' => e = .returned (.int .i64 (doF cl M 23 a b)) ∧ RO w0 w' base mb nw C M (doF cl M 23 a b) (doM cl M 23 a b) := by
  obtain ⟨⟨q1, q2⟩, ⟨q3, q4⟩, q5, q6⟩ := hs
  rw [show pops 23 = 1 from rfl] at hf1 hf2
  rw [show pushes 23 = 1 from rfl] at hf2
  exact (do_23 w0 w base mb nw C M cl code hC a b h (by omega) h64).mono fun e w' ⟨h1, h2⟩ => ⟨h1, h2.ro⟩
theorem doA_24 (P : Pg) (hs : sizedP P) (w0 w : World) (base mb nw : Nat) (C : Nat → Value) (M : Mc) (cl : Cl) (code : Value) (hC : CC C cl code) (hcl : OkC cl) (hM : OkM M) (hnw : P.words = nw) (a b : Int) (hv : insErr P 24 a b = 0) (h : MW w0 w base mb nw C M) (hf1 : pops 24 ≤ M.hi) (hf2 : (M.hi : Int) - pops 24 + pushes 24 ≤ 64) (h64 : M.hi ≤ 64) :
    Calls Tryz.prog 80 #[.pointer (some ⟨mb, 0, none⟩), .agg #[.int .i64 24, .int .i64 a, .int .i64 b]] w fun e w' => e = .returned (.int .i64 (doF cl M 24 a b)) ∧ RO w0 w' base mb nw C M (doF cl M 24 a b) (doM cl M 24 a b) := by
  obtain ⟨⟨q1, q2⟩, ⟨q3, q4⟩, q5, q6⟩ := hs
  rw [show pops 24 = 1 from rfl] at hf1 hf2
  rw [show pushes 24 = 1 from rfl] at hf2
  exact (do_24 w0 w base mb nw C M cl code hC a b h (by omega) h64).mono fun e w' ⟨h1, h2⟩ => ⟨h1, h2.ro⟩
theorem doA_25 (P : Pg) (hs : sizedP P) (w0 w : World) (base mb nw : Nat) (C : Nat → Value) (M : Mc) (cl : Cl) (code : Value) (hC : CC C cl code) (hcl : OkC cl) (hM : OkM M) (hnw : P.words = nw) (a b : Int) (hv : insErr P 25 a b = 0) (h : MW w0 w base mb nw C M) (hf1 : pops 25 ≤ M.hi) (hf2 : (M.hi : Int) - pops 25 + pushes 25 ≤ 64) (h64 : M.hi ≤ 64) :
    Calls Tryz.prog 80 #[.pointer (some ⟨mb, 0, none⟩), .agg #[.int .i64 25, .int .i64 a, .int .i64 b]] w fun e w' => e = .returned (.int .i64 (doF cl M 25 a b)) ∧ RO w0 w' base mb nw C M (doF cl M 25 a b) (doM cl M 25 a b) := by
  obtain ⟨⟨q1, q2⟩, ⟨q3, q4⟩, q5, q6⟩ := hs
  rw [show pops 25 = 1 from rfl] at hf1 hf2
  rw [show pushes 25 = 1 from rfl] at hf2
  exact (do_25 w0 w base mb nw C M cl code hC a b h (by omega) h64).mono fun e w' ⟨h1, h2⟩ => ⟨h1, h2.ro⟩
theorem doA_34 (P : Pg) (hs : sizedP P) (w0 w : World) (base mb nw : Nat) (C : Nat → Value) (M : Mc) (cl : Cl) (code : Value) (hC : CC C cl code) (hcl : OkC cl) (hM : OkM M) (hnw : P.words = nw) (a b : Int) (hv : insErr P 34 a b = 0) (h : MW w0 w base mb nw C M) (hf1 : pops 34 ≤ M.hi) (hf2 : (M.hi : Int) - pops 34 + pushes 34 ≤ 64) (h64 : M.hi ≤ 64) :
    Calls Tryz.prog 80 #[.pointer (some ⟨mb, 0, none⟩), .agg #[.int .i64 34, .int .i64 a, .int .i64 b]] w fun e w' => e = .returned (.int .i64 (doF cl M 34 a b)) ∧ RO w0 w' base mb nw C M (doF cl M 34 a b) (doM cl M 34 a b) := by
  obtain ⟨⟨q1, q2⟩, ⟨q3, q4⟩, q5, q6⟩ := hs
  rw [show pops 34 = 1 from rfl] at hf1 hf2
  rw [show pushes 34 = 1 from rfl] at hf2
  exact (do_34 w0 w base mb nw C M cl code hC a b h (by omega) h64).mono fun e w' ⟨h1, h2⟩ => ⟨h1, h2.ro⟩
theorem doA_3 (P : Pg) (hs : sizedP P) (w0 w : World) (base mb nw : Nat) (C : Nat → Value) (M : Mc) (cl : Cl) (code : Value) (hC : CC C cl code) (hcl : OkC cl) (hM : OkM M) (hnw : P.words = nw) (a b : Int) (hv : insErr P 3 a b = 0) (h : MW w0 w base mb nw C M) (hf1 : pops 3 ≤ M.hi) (hf2 : (M.hi : Int) - pops 3 + pushes 3 ≤ 64) (h64 : M.hi ≤ 64) :
    Calls Tryz.prog 80 #[.pointer (some ⟨mb, 0, none⟩), .agg #[.int .i64 3, .int .i64 a, .int .i64 b]] w fun e w' => e = .returned (.int .i64 (doF cl M 3 a b)) ∧ RO w0 w' base mb nw C M (doF cl M 3 a b) (doM cl M 3 a b) := by
  obtain ⟨⟨q1, q2⟩, ⟨q3, q4⟩, q5, q6⟩ := hs
  rw [show pops 3 = 0 from rfl] at hf1 hf2
  rw [show pushes 3 = 1 from rfl] at hf2
  have hl := ins_one hv (by decide) (by decide)
  rw [show limI P 3 = P.words from rfl] at hl
  obtain ⟨a', rfl⟩ := Int.eq_ofNat_of_zero_le hl.1
  exact (do_3 w0 w base mb nw C M cl code hC a' b h (by omega) (by omega)).mono fun e w' ⟨h1, h2⟩ => ⟨h1, h2.ro⟩
theorem doA_4 (P : Pg) (hs : sizedP P) (w0 w : World) (base mb nw : Nat) (C : Nat → Value) (M : Mc) (cl : Cl) (code : Value) (hC : CC C cl code) (hcl : OkC cl) (hM : OkM M) (hnw : P.words = nw) (a b : Int) (hv : insErr P 4 a b = 0) (h : MW w0 w base mb nw C M) (hf1 : pops 4 ≤ M.hi) (hf2 : (M.hi : Int) - pops 4 + pushes 4 ≤ 64) (h64 : M.hi ≤ 64) :
    Calls Tryz.prog 80 #[.pointer (some ⟨mb, 0, none⟩), .agg #[.int .i64 4, .int .i64 a, .int .i64 b]] w fun e w' => e = .returned (.int .i64 (doF cl M 4 a b)) ∧ RO w0 w' base mb nw C M (doF cl M 4 a b) (doM cl M 4 a b) := by
  obtain ⟨⟨q1, q2⟩, ⟨q3, q4⟩, q5, q6⟩ := hs
  rw [show pops 4 = 1 from rfl] at hf1 hf2
  rw [show pushes 4 = 0 from rfl] at hf2
  have hl := ins_one hv (by decide) (by decide)
  rw [show limI P 4 = P.words from rfl] at hl
  obtain ⟨a', rfl⟩ := Int.eq_ofNat_of_zero_le hl.1
  exact (do_4 w0 w base mb nw C M cl code hC a' b h (by omega) h64 (by omega)).mono fun e w' ⟨h1, h2⟩ => ⟨h1, h2.ro⟩
theorem doA_7 (P : Pg) (hs : sizedP P) (w0 w : World) (base mb nw : Nat) (C : Nat → Value) (M : Mc) (cl : Cl) (code : Value) (hC : CC C cl code) (hcl : OkC cl) (hM : OkM M) (hnw : P.words = nw) (a b : Int) (hv : insErr P 7 a b = 0) (h : MW w0 w base mb nw C M) (hf1 : pops 7 ≤ M.hi) (hf2 : (M.hi : Int) - pops 7 + pushes 7 ≤ 64) (h64 : M.hi ≤ 64) :
    Calls Tryz.prog 80 #[.pointer (some ⟨mb, 0, none⟩), .agg #[.int .i64 7, .int .i64 a, .int .i64 b]] w fun e w' => e = .returned (.int .i64 (doF cl M 7 a b)) ∧ RO w0 w' base mb nw C M (doF cl M 7 a b) (doM cl M 7 a b) := by
  obtain ⟨⟨q1, q2⟩, ⟨q3, q4⟩, q5, q6⟩ := hs
  rw [show pops 7 = 0 from rfl] at hf1 hf2
  rw [show pushes 7 = 1 from rfl] at hf2
  have hl := ins_one hv (by decide) (by decide)
  rw [show limI P 7 = P.locals from rfl] at hl
  obtain ⟨a', rfl⟩ := Int.eq_ofNat_of_zero_le hl.1
  exact (do_7 w0 w base mb nw C M cl code hC a' b h (by omega) (by omega)).mono fun e w' ⟨h1, h2⟩ => ⟨h1, h2.ro⟩
theorem doA_8 (P : Pg) (hs : sizedP P) (w0 w : World) (base mb nw : Nat) (C : Nat → Value) (M : Mc) (cl : Cl) (code : Value) (hC : CC C cl code) (hcl : OkC cl) (hM : OkM M) (hnw : P.words = nw) (a b : Int) (hv : insErr P 8 a b = 0) (h : MW w0 w base mb nw C M) (hf1 : pops 8 ≤ M.hi) (hf2 : (M.hi : Int) - pops 8 + pushes 8 ≤ 64) (h64 : M.hi ≤ 64) :
    Calls Tryz.prog 80 #[.pointer (some ⟨mb, 0, none⟩), .agg #[.int .i64 8, .int .i64 a, .int .i64 b]] w fun e w' => e = .returned (.int .i64 (doF cl M 8 a b)) ∧ RO w0 w' base mb nw C M (doF cl M 8 a b) (doM cl M 8 a b) := by
  obtain ⟨⟨q1, q2⟩, ⟨q3, q4⟩, q5, q6⟩ := hs
  rw [show pops 8 = 1 from rfl] at hf1 hf2
  rw [show pushes 8 = 0 from rfl] at hf2
  have hl := ins_one hv (by decide) (by decide)
  rw [show limI P 8 = P.locals from rfl] at hl
  obtain ⟨a', rfl⟩ := Int.eq_ofNat_of_zero_le hl.1
  exact (do_8 w0 w base mb nw C M cl code hC a' b h (by omega) h64 (by omega)).mono fun e w' ⟨h1, h2⟩ => ⟨h1, h2.ro⟩
theorem doA_5 (P : Pg) (hs : sizedP P) (w0 w : World) (base mb nw : Nat) (C : Nat → Value) (M : Mc) (cl : Cl) (code : Value) (hC : CC C cl code) (hcl : OkC cl) (hM : OkM M) (hnw : P.words = nw) (a b : Int) (hv : insErr P 5 a b = 0) (h : MW w0 w base mb nw C M) (hf1 : pops 5 ≤ M.hi) (hf2 : (M.hi : Int) - pops 5 + pushes 5 ≤ 64) (h64 : M.hi ≤ 64) :
    Calls Tryz.prog 80 #[.pointer (some ⟨mb, 0, none⟩), .agg #[.int .i64 5, .int .i64 a, .int .i64 b]] w fun e w' => e = .returned (.int .i64 (doF cl M 5 a b)) ∧ RO w0 w' base mb nw C M (doF cl M 5 a b) (doM cl M 5 a b) := by
  obtain ⟨⟨q1, q2⟩, ⟨q3, q4⟩, q5, q6⟩ := hs
  rw [show pops 5 = 1 from rfl] at hf1 hf2
  rw [show pushes 5 = 1 from rfl] at hf2
  have hl := ins_two hv (by decide)
  rw [show limI P 5 = P.words from rfl] at hl
  obtain ⟨⟨l1, l2⟩, l3, l4⟩ := hl
  obtain ⟨a', rfl⟩ := Int.eq_ofNat_of_zero_le l3
  obtain ⟨b', rfl⟩ := Int.eq_ofNat_of_zero_le (show 0 ≤ b by omega)
  have hF : doF cl M 5 a' b' = idxF (topM M) b' := rfl
  rw [hF]
  rcases idx_cases (topM M) b' with ⟨e1, e2⟩ | ⟨e1, k, e2, e3⟩
  · rw [e1]
    exact (do_5 w0 w base mb nw C M cl code hC a' b' 203 (doM cl M 5 a' b') h (fun W hW => (index_5f w0 W base mb nw C M a' b' hW (by omega) h64 e2).mono fun e w' ⟨h1, h2⟩ => ⟨h1, fun h => (by cases h), h2.2⟩)).mono fun e w' ⟨h1, h2⟩ => ⟨h1, h2.ro⟩
  · rw [e1]
    have hD : doM cl M 5 a' b' = pushM (popM M) (M.wd (a' + k)) := by
      show pushM (popM M) (M.wd (((a' : Nat) : Int).toNat + (topM M).toNat)) = _
      rw [e2, Int.toNat_natCast, Int.toNat_natCast]
    rw [hD]
    exact (do_5 w0 w base mb nw C M cl code hC a' b' 0 _ h (fun W hW => index_5 w0 W base mb nw C M a' b' hW (by omega) h64 k e2 (by omega) (by omega) (by omega))).mono fun e w' ⟨h1, h2⟩ => ⟨h1, h2.ro⟩
theorem doA_38 (P : Pg) (hs : sizedP P) (w0 w : World) (base mb nw : Nat) (C : Nat → Value) (M : Mc) (cl : Cl) (code : Value) (hC : CC C cl code) (hcl : OkC cl) (hM : OkM M) (hnw : P.words = nw) (a b : Int) (hv : insErr P 38 a b = 0) (h : MW w0 w base mb nw C M) (hf1 : pops 38 ≤ M.hi) (hf2 : (M.hi : Int) - pops 38 + pushes 38 ≤ 64) (h64 : M.hi ≤ 64) :
    Calls Tryz.prog 80 #[.pointer (some ⟨mb, 0, none⟩), .agg #[.int .i64 38, .int .i64 a, .int .i64 b]] w fun e w' => e = .returned (.int .i64 (doF cl M 38 a b)) ∧ RO w0 w' base mb nw C M (doF cl M 38 a b) (doM cl M 38 a b) := by
  obtain ⟨⟨q1, q2⟩, ⟨q3, q4⟩, q5, q6⟩ := hs
  rw [show pops 38 = 1 from rfl] at hf1 hf2
  rw [show pushes 38 = 1 from rfl] at hf2
  have hl := ins_two hv (by decide)
  rw [show limI P 38 = 64 from rfl] at hl
  obtain ⟨⟨l1, l2⟩, l3, l4⟩ := hl
  obtain ⟨a', rfl⟩ := Int.eq_ofNat_of_zero_le l3
  obtain ⟨b', rfl⟩ := Int.eq_ofNat_of_zero_le (show 0 ≤ b by omega)
  have hF : doF cl M 38 a' b' = idxF (topM M) b' := rfl
  rw [hF]
  rcases idx_cases (topM M) b' with ⟨e1, e2⟩ | ⟨e1, k, e2, e3⟩
  · rw [e1]
    exact (do_38 w0 w base mb nw C M cl code hC a' b' 203 (doM cl M 38 a' b') h (fun W hW => (index_38f w0 W base mb nw C M a' b' hW (by omega) h64 e2).mono fun e w' ⟨h1, h2⟩ => ⟨h1, fun h => (by cases h), h2.2⟩)).mono fun e w' ⟨h1, h2⟩ => ⟨h1, h2.ro⟩
  · rw [e1]
    have hD : doM cl M 38 a' b' = pushM (popM M) ((a' : Int) + (k : Int)) := by
      show pushM (popM M) ((a' : Int) + topM M) = _
      rw [e2]
    rw [hD]
    exact (do_38 w0 w base mb nw C M cl code hC a' b' 0 _ h (fun W hW => index_38 w0 W base mb nw C M a' b' hW (by omega) h64 k e2 (by omega) (by omega))).mono fun e w' ⟨h1, h2⟩ => ⟨h1, h2.ro⟩
theorem doA_6 (P : Pg) (hs : sizedP P) (w0 w : World) (base mb nw : Nat) (C : Nat → Value) (M : Mc) (cl : Cl) (code : Value) (hC : CC C cl code) (hcl : OkC cl) (hM : OkM M) (hnw : P.words = nw) (a b : Int) (hv : insErr P 6 a b = 0) (h : MW w0 w base mb nw C M) (hf1 : pops 6 ≤ M.hi) (hf2 : (M.hi : Int) - pops 6 + pushes 6 ≤ 64) (h64 : M.hi ≤ 64) :
    Calls Tryz.prog 80 #[.pointer (some ⟨mb, 0, none⟩), .agg #[.int .i64 6, .int .i64 a, .int .i64 b]] w fun e w' => e = .returned (.int .i64 (doF cl M 6 a b)) ∧ RO w0 w' base mb nw C M (doF cl M 6 a b) (doM cl M 6 a b) := by
  obtain ⟨⟨q1, q2⟩, ⟨q3, q4⟩, q5, q6⟩ := hs
  rw [show pops 6 = 2 from rfl] at hf1 hf2
  rw [show pushes 6 = 0 from rfl] at hf2
  have hl := ins_two hv (by decide)
  rw [show limI P 6 = P.words from rfl] at hl
  obtain ⟨⟨l1, l2⟩, l3, l4⟩ := hl
  obtain ⟨a', rfl⟩ := Int.eq_ofNat_of_zero_le l3
  obtain ⟨b', rfl⟩ := Int.eq_ofNat_of_zero_le (show 0 ≤ b by omega)
  have hF : doF cl M 6 a' b' = idxF (topM (popM M)) b' := rfl
  rw [hF]
  rcases idx_cases (topM (popM M)) b' with ⟨e1, e2⟩ | ⟨e1, k, e2, e3⟩
  · rw [e1]
    exact (do_6 w0 w base mb nw C M cl code hC a' b' 203 (doM cl M 6 a' b') h (fun W hW => (index_6f w0 W base mb nw C M a' b' hW (by omega) h64 e2).mono fun e w' ⟨h1, h2⟩ => ⟨h1, fun h => (by cases h), h2.2⟩)).mono fun e w' ⟨h1, h2⟩ => ⟨h1, h2.ro⟩
  · rw [e1]
    have hD : doM cl M 6 a' b' = { popM (popM M) with wd := updI M.wd (a' + k) (topM M) } := by
      show { popM (popM M) with wd := updI M.wd (((a' : Nat) : Int).toNat + (topM (popM M)).toNat) (topM M) } = _
      rw [e2, Int.toNat_natCast, Int.toNat_natCast]
    rw [hD]
    exact (do_6 w0 w base mb nw C M cl code hC a' b' 0 _ h (fun W hW => index_6 w0 W base mb nw C M a' b' hW (by omega) h64 k e2 (by omega) (by omega) (by omega))).mono fun e w' ⟨h1, h2⟩ => ⟨h1, h2.ro⟩
theorem doF_37 (cl : Cl) (M : Mc) (a b : Int) : doF cl M 37 a b = if topM M < 1 then 208 else 0 := by
  unfold doF
  rw [if_neg (by decide), if_neg (by decide), if_neg (by decide), if_pos rfl]
theorem doF_41 (cl : Cl) (M : Mc) (a b : Int) : doF cl M 41 a b = if topM M < 1 then 208 else if waitV M.dice (topM M) = none then 206 else 0 := by
  unfold doF
  rw [if_neg (by decide), if_neg (by decide), if_neg (by decide), if_neg (by decide), if_pos rfl]
theorem doF_39 (cl : Cl) (M : Mc) (a b : Int) : doF cl M 39 a b = sendF cl M (topM M) (topM (popM M)) := by
  unfold doF
  rw [if_neg (by decide), if_neg (by decide), if_neg (by decide), if_neg (by decide), if_neg (by decide), if_pos rfl]
theorem doM_37 (cl : Cl) (M : Mc) (a b : Int) : doM cl M 37 a b = { pushM (popM M) (rollV M.dice (topM M)).1 with dice := (rollV M.dice (topM M)).2 } := by
  unfold doM
  rw [if_neg (by decide), if_neg (by decide), if_neg (by decide), if_neg (by decide), if_neg (by decide), if_neg (by decide), if_neg (by decide), if_neg (by decide), if_neg (by decide), if_neg (by decide), if_neg (by decide), if_neg (by decide), if_neg (by decide), if_pos rfl]
theorem doM_41 (cl : Cl) (M : Mc) (a b : Int) : doM cl M 41 a b = waitM M (waitV M.dice (topM M)) := by
  unfold doM
  rw [if_neg (by decide), if_neg (by decide), if_neg (by decide), if_neg (by decide), if_neg (by decide), if_neg (by decide), if_neg (by decide), if_neg (by decide), if_neg (by decide), if_neg (by decide), if_neg (by decide), if_neg (by decide), if_neg (by decide), if_neg (by decide), if_pos rfl]
theorem doM_39 (cl : Cl) (M : Mc) (a b : Int) : doM cl M 39 a b = sentM cl a M := by
  unfold doM
  rw [if_neg (by decide), if_neg (by decide), if_neg (by decide), if_neg (by decide), if_neg (by decide), if_neg (by decide), if_neg (by decide), if_neg (by decide), if_neg (by decide), if_neg (by decide), if_neg (by decide), if_neg (by decide), if_neg (by decide), if_neg (by decide), if_neg (by decide), if_pos rfl]
theorem doA_37 (P : Pg) (hs : sizedP P) (w0 w : World) (base mb nw : Nat) (C : Nat → Value) (M : Mc) (cl : Cl) (code : Value) (hC : CC C cl code) (hcl : OkC cl) (hM : OkM M) (hnw : P.words = nw) (a b : Int) (hv : insErr P 37 a b = 0) (h : MW w0 w base mb nw C M) (hf1 : pops 37 ≤ M.hi) (hf2 : (M.hi : Int) - pops 37 + pushes 37 ≤ 64) (h64 : M.hi ≤ 64) :
    Calls Tryz.prog 80 #[.pointer (some ⟨mb, 0, none⟩), .agg #[.int .i64 37, .int .i64 a, .int .i64 b]] w fun e w' => e = .returned (.int .i64 (doF cl M 37 a b)) ∧ RO w0 w' base mb nw C M (doF cl M 37 a b) (doM cl M 37 a b) := by
  obtain ⟨⟨q1, q2⟩, ⟨q3, q4⟩, q5, q6⟩ := hs
  rw [show pops 37 = 1 from rfl] at hf1 hf2
  rw [show pushes 37 = 1 from rfl] at hf2
  rw [doF_37, doM_37]
  generalize hrv : rollV M.dice (topM M) = rv
  by_cases hn : topM M < 1
  · rw [if_pos hn]
    exact (do_37 w0 w base mb nw C M cl code hC a b 208 _ h (by omega) h64 (fun W hW => (roll_bad mb (topM M) hn W).mono fun e w' ⟨h1, h2⟩ => ⟨h1, fun h => (by cases h), fun _ => ⟨popM M, (by rw [h2]; exact hW), rfl⟩⟩)).mono fun e w' ⟨h1, h2⟩ => ⟨h1, h2.ro⟩
  · rw [if_neg hn]
    have HR := fun W (hW : MW w0 W base mb nw C (popM M)) => roll_any w0 W base mb nw C (popM M) (topM M) ⟨by omega, hM.top.2⟩ hW (by show M.hi - 1 < 64; omega) hM.dice
    rw [show (popM M).dice = M.dice from rfl, hrv] at HR
    exact (do_37 w0 w base mb nw C M cl code hC a b 0 _ h (by omega) h64 (fun W hW => (HR W hW).mono fun e w' ⟨h1, h2⟩ => ⟨h1, fun _ => h2, fun h => absurd rfl h⟩)).mono fun e w' ⟨h1, h2⟩ => ⟨h1, h2.ro⟩
theorem doA_41 (P : Pg) (hs : sizedP P) (w0 w : World) (base mb nw : Nat) (C : Nat → Value) (M : Mc) (cl : Cl) (code : Value) (hC : CC C cl code) (hcl : OkC cl) (hM : OkM M) (hnw : P.words = nw) (a b : Int) (hv : insErr P 41 a b = 0) (h : MW w0 w base mb nw C M) (hf1 : pops 41 ≤ M.hi) (hf2 : (M.hi : Int) - pops 41 + pushes 41 ≤ 64) (h64 : M.hi ≤ 64) :
    Calls Tryz.prog 80 #[.pointer (some ⟨mb, 0, none⟩), .agg #[.int .i64 41, .int .i64 a, .int .i64 b]] w fun e w' => e = .returned (.int .i64 (doF cl M 41 a b)) ∧ RO w0 w' base mb nw C M (doF cl M 41 a b) (doM cl M 41 a b) := by
  obtain ⟨⟨q1, q2⟩, ⟨q3, q4⟩, q5, q6⟩ := hs
  rw [show pops 41 = 1 from rfl] at hf1 hf2
  rw [show pushes 41 = 1 from rfl] at hf2
  rw [doF_41, doM_41]
  have H1 := fun W (hW : MW w0 W base mb nw C (popM M)) hn hv => waitm_none w0 W base mb nw C (popM M) (topM M) hn hW hM.dice hv
  have H2 := fun W (hW : MW w0 W base mb nw C (popM M)) hn r hv => waitm_any w0 W base mb nw C (popM M) (topM M) hn hW (by show M.hi - 1 < 64; omega) hM.dice r hv
  rw [show (popM M).dice = M.dice from rfl] at H1 H2
  generalize waitV M.dice (topM M) = wv at H1 H2 ⊢
  by_cases hn : topM M < 1
  · rw [if_pos hn]
    exact (do_41 w0 w base mb nw C M cl code hC a b 208 _ h (by omega) h64 (fun W hW => (wait_bad mb (topM M) hn W).mono fun e w' ⟨h1, h2⟩ => ⟨h1, fun h => (by cases h), fun _ => ⟨popM M, (by rw [h2]; exact hW), rfl⟩⟩)).mono fun e w' ⟨h1, h2⟩ => ⟨h1, h2.ro⟩
  · rw [if_neg hn]
    rcases wv with _ | r
    · rw [if_pos rfl]
      exact (do_41 w0 w base mb nw C M cl code hC a b 206 _ h (by omega) h64 (fun W hW => (H1 W hW ⟨by omega, hM.top.2⟩ rfl).mono fun e w' ⟨h1, h2⟩ => ⟨h1, fun h => (by cases h), fun _ => ⟨popM M, h2, rfl⟩⟩)).mono fun e w' ⟨h1, h2⟩ => ⟨h1, h2.ro⟩
    · rw [if_neg (by intro e; cases e)]
      exact (do_41 w0 w base mb nw C M cl code hC a b 0 _ h (by omega) h64 (fun W hW => (H2 W hW ⟨by omega, hM.top.2⟩ r rfl).mono fun e w' ⟨h1, h2⟩ => ⟨h1, fun _ => h2, fun h => absurd rfl h⟩)).mono fun e w' ⟨h1, h2⟩ => ⟨h1, h2.ro⟩
theorem doA_39 (P : Pg) (hs : sizedP P) (w0 w : World) (base mb nw : Nat) (C : Nat → Value) (M : Mc) (cl : Cl) (code : Value) (hC : CC C cl code) (hcl : OkC cl) (hM : OkM M) (hnw : P.words = nw) (a b : Int) (hv : insErr P 39 a b = 0) (h : MW w0 w base mb nw C M) (hf1 : pops 39 ≤ M.hi) (hf2 : (M.hi : Int) - pops 39 + pushes 39 ≤ 64) (h64 : M.hi ≤ 64) :
    Calls Tryz.prog 80 #[.pointer (some ⟨mb, 0, none⟩), .agg #[.int .i64 39, .int .i64 a, .int .i64 b]] w fun e w' => e = .returned (.int .i64 (doF cl M 39 a b)) ∧ RO w0 w' base mb nw C M (doF cl M 39 a b) (doM cl M 39 a b) := by
  obtain ⟨⟨q1, q2⟩, ⟨q3, q4⟩, q5, q6⟩ := hs
  rw [show pops 39 = 3 from rfl] at hf1 hf2
  rw [show pushes 39 = 0 from rfl] at hf2
  rw [doF_39, doM_39]
  exact do_39 w0 w base mb nw C M cl code hC a b h (by omega) h64 hcl.time hM.on
theorem doA_pair (P : Pg) (hs : sizedP P) (w0 w : World) (base mb nw : Nat) (C : Nat → Value) (M : Mc) (cl : Cl) (code : Value) (hC : CC C cl code) (hcl : OkC cl) (hM : OkM M) (hnw : P.words = nw) (a b : Int) (o : Int) (hp : isPair o) (h : MW w0 w base mb nw C M) (hf1 : pops o ≤ M.hi) (h64 : M.hi ≤ 64) :
    Calls Tryz.prog 80 #[.pointer (some ⟨mb, 0, none⟩), .agg #[.int .i64 o, .int .i64 a, .int .i64 b]] w fun e w' => e = .returned (.int .i64 (doF cl M o a b)) ∧ RO w0 w' base mb nw C M (doF cl M o a b) (doM cl M o a b) := by
  rw [(pop_pair hp).1] at hf1
  have hb : isPairB o = true := by unfold isPairB; unfold isPair at hp; simp; omega
  have hF : doF cl M o a b = (pairV o (topM (popM M)) (topM M)).2 := by
    unfold isPair at hp
    unfold doF
    rw [if_neg (by omega), if_neg (by omega), if_neg (by omega), if_neg (by omega), if_neg (by omega), if_neg (by omega), if_pos hb]
  have hD : doM cl M o a b = pushM (popM (popM M)) (pairV o (topM (popM M)) (topM M)).1 := by
    unfold isPair at hp
    unfold doM
    rw [if_neg (by omega), if_neg (by omega), if_neg (by omega), if_neg (by omega), if_neg (by omega), if_neg (by omega), if_neg (by omega), if_neg (by omega), if_neg (by omega), if_neg (by omega), if_neg (by omega), if_neg (by omega), if_neg (by omega), if_neg (by omega), if_neg (by omega), if_neg (by omega), if_neg (by omega), if_pos hb]
  rw [hF, hD]
  exact (do_pair w0 w base mb nw C M cl code hC o a b hp h (by omega) h64).mono fun e w' ⟨h1, h2⟩ => ⟨h1, h2.ro⟩
theorem do_any (P : Pg) (hs : sizedP P) (w0 w : World) (base mb nw : Nat) (C : Nat → Value) (M : Mc) (cl : Cl) (code : Value) (hC : CC C cl code) (hcl : OkC cl) (hM : OkM M) (hnw : P.words = nw) (a b : Int) (o : Int) (hne : o ≠ 0 ∧ o ≠ 35 ∧ o ≠ 36) (hv : insErr P o a b = 0) (h : MW w0 w base mb nw C M) (hf1 : pops o ≤ M.hi) (hf2 : (M.hi : Int) - pops o + pushes o ≤ 64) (h64 : M.hi ≤ 64) :
    Calls Tryz.prog 80 #[.pointer (some ⟨mb, 0, none⟩), .agg #[.int .i64 o, .int .i64 a, .int .i64 b]] w fun e w' => e = .returned (.int .i64 (doF cl M o a b)) ∧ RO w0 w' base mb nw C M (doF cl M o a b) (doM cl M o a b) := by
  have ho := ins_op hv
  by_cases hp : isPair o
  · exact doA_pair P hs w0 w base mb nw C M cl code hC hcl hM hnw a b o hp h hf1 h64
  unfold isPair at hp
  have hc : o = 1 ∨ o = 2 ∨ o = 3 ∨ o = 4 ∨ o = 5 ∨ o = 6 ∨ o = 7 ∨ o = 8 ∨ o = 9 ∨ o = 10 ∨ o = 11 ∨ o = 12 ∨ o = 23 ∨ o = 24 ∨ o = 25 ∨ o = 34 ∨ o = 37 ∨ o = 38 ∨ o = 39 ∨ o = 40 ∨ o = 41 := by omega
  rcases hc with rfl | rfl | rfl | rfl | rfl | rfl | rfl | rfl | rfl | rfl | rfl | rfl | rfl | rfl | rfl | rfl | rfl | rfl | rfl | rfl | rfl
  · exact doA_1 P hs w0 w base mb nw C M cl code hC hcl hM hnw a b hv h hf1 hf2 h64
  · exact doA_2 P hs w0 w base mb nw C M cl code hC hcl hM hnw a b hv h hf1 hf2 h64
  · exact doA_3 P hs w0 w base mb nw C M cl code hC hcl hM hnw a b hv h hf1 hf2 h64
  · exact doA_4 P hs w0 w base mb nw C M cl code hC hcl hM hnw a b hv h hf1 hf2 h64
  · exact doA_5 P hs w0 w base mb nw C M cl code hC hcl hM hnw a b hv h hf1 hf2 h64
  · exact doA_6 P hs w0 w base mb nw C M cl code hC hcl hM hnw a b hv h hf1 hf2 h64
  · exact doA_7 P hs w0 w base mb nw C M cl code hC hcl hM hnw a b hv h hf1 hf2 h64
  · exact doA_8 P hs w0 w base mb nw C M cl code hC hcl hM hnw a b hv h hf1 hf2 h64
  · exact doA_9 P hs w0 w base mb nw C M cl code hC hcl hM hnw a b hv h hf1 hf2 h64
  · exact doA_10 P hs w0 w base mb nw C M cl code hC hcl hM hnw a b hv h hf1 hf2 h64
  · exact doA_11 P hs w0 w base mb nw C M cl code hC hcl hM hnw a b hv h hf1 hf2 h64
  · exact doA_12 P hs w0 w base mb nw C M cl code hC hcl hM hnw a b hv h hf1 hf2 h64
  · exact doA_23 P hs w0 w base mb nw C M cl code hC hcl hM hnw a b hv h hf1 hf2 h64
  · exact doA_24 P hs w0 w base mb nw C M cl code hC hcl hM hnw a b hv h hf1 hf2 h64
  · exact doA_25 P hs w0 w base mb nw C M cl code hC hcl hM hnw a b hv h hf1 hf2 h64
  · exact doA_34 P hs w0 w base mb nw C M cl code hC hcl hM hnw a b hv h hf1 hf2 h64
  · exact doA_37 P hs w0 w base mb nw C M cl code hC hcl hM hnw a b hv h hf1 hf2 h64
  · exact doA_38 P hs w0 w base mb nw C M cl code hC hcl hM hnw a b hv h hf1 hf2 h64
  · exact doA_39 P hs w0 w base mb nw C M cl code hC hcl hM hnw a b hv h hf1 hf2 h64
  · exact doA_40 P hs w0 w base mb nw C M cl code hC hcl hM hnw a b hv h hf1 hf2 h64
  · exact doA_41 P hs w0 w base mb nw C M cl code hC hcl hM hnw a b hv h hf1 hf2 h64
end Go.Proofs.YtopggemomcoalaaGreat
namespace Go.Proofs.YtopggemomcoalaaGreat
open Go.ChangeShapes Go.WideShapes Go.ChangeAt Go.RowKit
set_option linter.unusedVariables false

/-! ### a handler's run, plainly -/
def runP (P : Pg) (cl : Cl) : Nat → Nat → Mc → Int × Mc
  | 0, _, M => (200, M)
  | k + 1, i, M =>
    if P.op i = 0 then (0, { M with used := M.used + 1 })
    else if P.op i = 35 then runP P cl k (P.a i).toNat { M with used := M.used + 1 }
    else if P.op i = 36 then runP P cl k (if topM M = 0 then (P.a i).toNat else i + 1) (popM { M with used := M.used + 1 })
    else if doF cl { M with used := M.used + 1 } (P.op i) (P.a i) (P.b i) ≠ 0 then (doF cl { M with used := M.used + 1 } (P.op i) (P.a i) (P.b i), { M with used := M.used + 1 })
    else runP P cl k (i + 1) (doM cl { M with used := M.used + 1 } (P.op i) (P.a i) (P.b i))
def ovM (M : Mc) (ov : Value) : Mc := { M with ov := ov }
def usM (M : Mc) : Mc := { M with used := M.used + 1 }
theorem doF_ov (cl : Cl) (M : Mc) (ov : Value) (o a b : Int) : doF cl (ovM M ov) o a b = doF cl M o a b := rfl
theorem waitM_ov (M : Mc) (ov : Value) (r : Option (Int × Int)) : waitM (ovM M ov) r = ovM (waitM M r) ov := by
  rcases r with _ | r <;> rfl
theorem doM_ov (cl : Cl) (M : Mc) (ov : Value) (o a b : Int) : doM cl (ovM M ov) o a b = ovM (doM cl M o a b) ov := by
  unfold doM
  by_cases h1 : o = 1
  · rw [if_pos h1, if_pos h1]; rfl
  rw [if_neg h1, if_neg h1]
  by_cases h2 : o = 2
  · rw [if_pos h2, if_pos h2]; rfl
  rw [if_neg h2, if_neg h2]
  by_cases h3 : o = 3
  · rw [if_pos h3, if_pos h3]; rfl
  rw [if_neg h3, if_neg h3]
  by_cases h4 : o = 4
  · rw [if_pos h4, if_pos h4]; rfl
  rw [if_neg h4, if_neg h4]
  by_cases h5 : o = 5
  · rw [if_pos h5, if_pos h5]; rfl
  rw [if_neg h5, if_neg h5]
  by_cases h6 : o = 6
  · rw [if_pos h6, if_pos h6]; rfl
  rw [if_neg h6, if_neg h6]
  by_cases h7 : o = 7
  · rw [if_pos h7, if_pos h7]; rfl
  rw [if_neg h7, if_neg h7]
  by_cases h8 : o = 8
  · rw [if_pos h8, if_pos h8]; rfl
  rw [if_neg h8, if_neg h8]
  by_cases h9 : o = 9
  · rw [if_pos h9, if_pos h9]; rfl
  rw [if_neg h9, if_neg h9]
  by_cases h10 : o = 10
  · rw [if_pos h10, if_pos h10]; rfl
  rw [if_neg h10, if_neg h10]
  by_cases h11 : o = 11
  · rw [if_pos h11, if_pos h11]; rfl
  rw [if_neg h11, if_neg h11]
  by_cases h12 : o = 12
  · rw [if_pos h12, if_pos h12]; rfl
  rw [if_neg h12, if_neg h12]
  by_cases h38 : o = 38
  · rw [if_pos h38, if_pos h38]; rfl
  rw [if_neg h38, if_neg h38]
  by_cases h37 : o = 37
  · rw [if_pos h37, if_pos h37]; rfl
  rw [if_neg h37, if_neg h37]
  by_cases h41 : o = 41
  · rw [if_pos h41, if_pos h41]; exact waitM_ov M ov _
  rw [if_neg h41, if_neg h41]
  by_cases h39 : o = 39
  · rw [if_pos h39, if_pos h39]; rfl
  rw [if_neg h39, if_neg h39]
  by_cases hs : o = 23 ∨ o = 24 ∨ o = 25 ∨ o = 34
  · rw [if_pos hs, if_pos hs]; rfl
  rw [if_neg hs, if_neg hs]
  by_cases hp : isPairB o = true
  · rw [if_pos hp, if_pos hp]; rfl
  rw [if_neg hp, if_neg hp]
theorem hi_push (M : Mc) (x : Int) : (pushM M x).hi = M.hi + 1 := rfl
theorem hi_pop (M : Mc) : (popM M).hi = M.hi - 1 := rfl
/-- how high the stack is behind an instruction -/
theorem doM_hi (cl : Cl) (M : Mc) (o a b : Int) (ho : 0 ≤ o ∧ o < 42) (hne : o ≠ 0 ∧ o ≠ 35 ∧ o ≠ 36 ∧ o ≠ 40) (hf : doF cl M o a b = 0) (h1 : pops o ≤ M.hi) : ((doM cl M o a b).hi : Int) = M.hi - pops o + pushes o := by
  by_cases hp : isPair o
  · have hb : isPairB o = true := by unfold isPairB; unfold isPair at hp; simp; omega
    have hD : doM cl M o a b = pushM (popM (popM M)) (pairV o (topM (popM M)) (topM M)).1 := by
      unfold isPair at hp
      unfold doM
      rw [if_neg (by omega), if_neg (by omega), if_neg (by omega), if_neg (by omega), if_neg (by omega), if_neg (by omega), if_neg (by omega), if_neg (by omega), if_neg (by omega), if_neg (by omega), if_neg (by omega), if_neg (by omega), if_neg (by omega), if_neg (by omega), if_neg (by omega), if_neg (by omega), if_neg (by omega), if_pos hb]
    rw [hD, hi_push, hi_pop, hi_pop]
    rw [(pop_pair hp).1] at h1 ⊢
    rw [(pop_pair hp).2]
    omega
  unfold isPair at hp
  have hc : o = 1 ∨ o = 2 ∨ o = 3 ∨ o = 4 ∨ o = 5 ∨ o = 6 ∨ o = 7 ∨ o = 8 ∨ o = 9 ∨ o = 10 ∨ o = 11 ∨ o = 12 ∨ o = 23 ∨ o = 24 ∨ o = 25 ∨ o = 34 ∨ o = 37 ∨ o = 38 ∨ o = 39 ∨ o = 41 := by omega
  rcases hc with rfl | rfl | rfl | rfl | rfl | rfl | rfl | rfl | rfl | rfl | rfl | rfl | rfl | rfl | rfl | rfl | rfl | rfl | rfl | rfl
  · show ((M.hi + 1 : Nat) : Int) = (M.hi : Int) - 0 + 1; omega
  · have : pops 2 = 1 := rfl
    rw [this] at h1
    show ((M.hi - 1 : Nat) : Int) = (M.hi : Int) - 1 + 0; omega
  · show ((M.hi + 1 : Nat) : Int) = (M.hi : Int) - 0 + 1; omega
  · have : pops 4 = 1 := rfl
    rw [this] at h1
    show ((M.hi - 1 : Nat) : Int) = (M.hi : Int) - 1 + 0; omega
  · have : pops 5 = 1 := rfl
    rw [this] at h1
    show ((M.hi - 1 + 1 : Nat) : Int) = (M.hi : Int) - 1 + 1; omega
  · have : pops 6 = 2 := rfl
    rw [this] at h1
    show ((M.hi - 1 - 1 : Nat) : Int) = (M.hi : Int) - 2 + 0; omega
  · show ((M.hi + 1 : Nat) : Int) = (M.hi : Int) - 0 + 1; omega
  · have : pops 8 = 1 := rfl
    rw [this] at h1
    show ((M.hi - 1 : Nat) : Int) = (M.hi : Int) - 1 + 0; omega
  · show ((M.hi + 1 : Nat) : Int) = (M.hi : Int) - 0 + 1; omega
  · show ((M.hi + 1 : Nat) : Int) = (M.hi : Int) - 0 + 1; omega
  · show ((M.hi + 1 : Nat) : Int) = (M.hi : Int) - 0 + 1; omega
  · show ((M.hi + 1 : Nat) : Int) = (M.hi : Int) - 0 + 1; omega
  · have : pops 23 = 1 := rfl
    rw [this] at h1
    show ((M.hi - 1 + 1 : Nat) : Int) = (M.hi : Int) - 1 + 1; omega
  · have : pops 24 = 1 := rfl
    rw [this] at h1
    show ((M.hi - 1 + 1 : Nat) : Int) = (M.hi : Int) - 1 + 1; omega
  · have : pops 25 = 1 := rfl
    rw [this] at h1
    show ((M.hi - 1 + 1 : Nat) : Int) = (M.hi : Int) - 1 + 1; omega
  · have : pops 34 = 1 := rfl
    rw [this] at h1
    show ((M.hi - 1 + 1 : Nat) : Int) = (M.hi : Int) - 1 + 1; omega
  · have : pops 37 = 1 := rfl
    rw [this] at h1
    rw [doM_37]
    show ((M.hi - 1 + 1 : Nat) : Int) = (M.hi : Int) - 1 + 1; omega
  · have : pops 38 = 1 := rfl
    rw [this] at h1
    show ((M.hi - 1 + 1 : Nat) : Int) = (M.hi : Int) - 1 + 1; omega
  · have : pops 39 = 3 := rfl
    rw [this] at h1
    rw [doM_39]
    show ((M.hi - 1 - 1 - 1 : Nat) : Int) = (M.hi : Int) - 3 + 0; omega
  · have : pops 41 = 1 := rfl
    rw [this] at h1
    rw [doM_41]
    rw [doF_41] at hf
    generalize waitV M.dice (topM M) = wv at hf ⊢
    rcases wv with _ | r
    · exfalso
      by_cases hn : topM M < 1
      · rw [if_pos hn] at hf; cases hf
      · rw [if_neg hn, if_pos rfl] at hf; cases hf
    · show ((M.hi - 1 + 1 : Nat) : Int) = (M.hi : Int) - 1 + 1; omega
end Go.Proofs.YtopggemomcoalaaGreat
