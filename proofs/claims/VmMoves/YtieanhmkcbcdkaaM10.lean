import Derived.Test.YtieanhmkcbcdkaaM7
import Derived.Test.YtieanhmkcbcdkaaM9b
namespace Go.Proofs.Ytieanhmkcbcdkaa
open Go.ChangeShapes Go.WideShapes Go.ChangeAt Go.RowKit
set_option linter.unusedVariables false

/-- what an instruction comes to, whatever row the sent events lie in -/
def RO (w0 w' : World) (base mb nw : Nat) (C : Nat → Value) (M : Mc) (f : Int) (M' : Mc) : Prop := (f = 0 → ∃ ov, MW w0 w' base mb nw C { M' with ov := ov }) ∧ (f ≠ 0 → ∃ M2, MW w0 w' base mb nw C M2 ∧ M2.used = M.used)
theorem RS.ro {w0 w' : World} {base mb nw : Nat} {C : Nat → Value} {M : Mc} {f : Int} {M' : Mc} (h : RS w0 w' base mb nw C M f M') : RO w0 w' base mb nw C M f M' := ⟨fun e => ⟨M'.ov, h.1 e⟩, h.2⟩
def sentM (cl : Cl) (kind : Int) (M : Mc) : Mc := { popM (popM (popM M)) with on := M.on + 1, oF := oApp M (sentEv cl M kind (topM M) (topM (popM M)) (topM (popM (popM M)))), sent := u64of (M.sent + 1) }
theorem send_any (w0 w : World) (base mb nw : Nat) (C : Nat → Value) (M : Mc) (cl : Cl) (code : Value) (hC : CC C cl code) (kind : Int) (h : MW w0 w base mb nw C M) (hh : 3 ≤ M.hi) (h64 : M.hi ≤ 64) (ht : u64ok cl.time) (hon : M.on ≤ 16) :
    Calls Try.prog 67 #[.pointer (some ⟨mb, 0, none⟩), .int .i64 kind] w fun e w' => e = .returned (.int .i64 (sendF cl M (topM M) (topM (popM M)))) ∧ RO w0 w' base mb nw C M (sendF cl M (topM M) (topM (popM M))) (sentM cl kind M) := by
  by_cases hz : sendF cl M (topM M) (topM (popM M)) = 0
  · rw [hz]
    exact (send_ok w0 w base mb nw C M cl code hC kind h hh h64 ht hz hon).mono fun e w' ⟨h1, ov, h2⟩ => ⟨h1, fun _ => ⟨ov, h2⟩, fun h => absurd rfl h⟩
  · have hov : ∃ p c, M.ov = .slice p M.on c := by
      rcases h.out.form with ⟨h1, h2⟩ | ⟨g, c, h1, _⟩
      · exact ⟨none, 0, by rw [h1, h2]⟩
      · exact ⟨_, _, h1⟩
    exact (send_bad w0 w base mb nw C M cl code hC kind h hh h64 ht hz hov).mono fun e w' ⟨h1, h2⟩ => ⟨h1, fun h => absurd h hz, fun _ => h2⟩
set_option maxRecDepth 100000 in
set_option maxHeartbeats 4000000 in
theorem do_39 (w0 w : World) (base mb nw : Nat) (C : Nat → Value) (M : Mc) (cl : Cl) (code : Value) (hC : CC C cl code) (a b : Int) (h : MW w0 w base mb nw C M) (hh : 3 ≤ M.hi) (h64 : M.hi ≤ 64) (ht : u64ok cl.time) (hon : M.on ≤ 16) :
    Calls Try.prog 55 #[.pointer (some ⟨mb, 0, none⟩), .agg #[.int .i64 39, .int .i64 a, .int .i64 b]] w fun e w' => e = .returned (.int .i64 (sendF cl M (topM M) (topM (popM M)))) ∧ RO w0 w' base mb nw C M (sendF cl M (topM M) (topM (popM M))) (sentM cl a M) := by
  obtain ⟨wb, hwb⟩ : ∃ wb, w.alloc (.cells #[.int .i64 39, .int .i64 a, .int .i64 b] 51) = wb := ⟨_, rfl⟩
  obtain ⟨hbb, hbx, hsz⟩ := inbox w 39 a b wb hwb
  have HB : Hid (w.alloc (.cells #[.int .i64 39, .int .i64 a, .int .i64 b] 51) = wb) := hwb
  have hlt := h.box.lt.1
  have hb := h.later hbb
  clear hwb
  go_enter Try.func55, Try.ntmps55
  have HX := send_any w0 wb base mb nw C M cl code hC a hb hh h64 ht hon
  generalize sendF cl M (topM M) (topM (popM M)) = sf at HX ⊢
  go_wp2_with ((go_at_call 67; rw [HB.out]; (with_reducible refine HX.mono ?_); rintro e w1 ⟨rfl, r1⟩))
  go_ret
  exact ⟨rfl, r1⟩
/-! ### one instruction, plainly -/
def isPairB (o : Int) : Bool := (decide (13 ≤ o) && decide (o ≤ 22)) || (decide (26 ≤ o) && decide (o ≤ 33))
theorem isPair_of {o : Int} (h : isPairB o = true) : isPair o := by
  unfold isPairB at h
  simp at h
  unfold isPair
  omega
def idxF (i b : Int) : Int := if i < 0 ∨ b ≤ i then 203 else 0
/-- its fault -/
def doF (cl : Cl) (M : Mc) (o a b : Int) : Int :=
  if o = 40 then 209
  else if o = 5 ∨ o = 38 then idxF (topM M) b
  else if o = 6 then idxF (topM (popM M)) b
  else if o = 37 then (if topM M < 1 then 208 else 0)
  else if o = 41 then (if topM M < 1 then 208 else if waitV M.dice (topM M) = none then 206 else 0)
  else if o = 39 then sendF cl M (topM M) (topM (popM M))
  else if isPairB o then (pairV o (topM (popM M)) (topM M)).2
  else 0
def waitM (M : Mc) : Option (Int × Int) → Mc
  | some r => { pushM (popM M) r.1 with dice := r.2 }
  | none => M
/-- the machine behind it -/
def doM (cl : Cl) (M : Mc) (o a b : Int) : Mc :=
  if o = 1 then pushM M a
  else if o = 2 then popM M
  else if o = 3 then pushM M (M.wd a.toNat)
  else if o = 4 then { popM M with wd := updI M.wd a.toNat (topM M) }
  else if o = 5 then pushM (popM M) (M.wd (a.toNat + (topM M).toNat))
  else if o = 6 then { popM (popM M) with wd := updI M.wd (a.toNat + (topM (popM M)).toNat) (topM M) }
  else if o = 7 then pushM M (M.lo a.toNat)
  else if o = 8 then { popM M with lo := updI M.lo a.toNat (topM M) }
  else if o = 9 then pushM M cl.data
  else if o = 10 then pushM M (wrap64 cl.time)
  else if o = 11 then pushM M cl.dst
  else if o = 12 then pushM M cl.src
  else if o = 38 then pushM (popM M) (a + topM M)
  else if o = 37 then { pushM (popM M) (rollV M.dice (topM M)).1 with dice := (rollV M.dice (topM M)).2 }
  else if o = 41 then waitM M (waitV M.dice (topM M))
  else if o = 39 then sentM cl a M
  else if o = 23 ∨ o = 24 ∨ o = 25 ∨ o = 34 then pushM (popM M) (singleV o (topM M))
  else if isPairB o then pushM (popM (popM M)) (pairV o (topM (popM M)) (topM M)).1
  else M
end Go.Proofs.Ytieanhmkcbcdkaa
