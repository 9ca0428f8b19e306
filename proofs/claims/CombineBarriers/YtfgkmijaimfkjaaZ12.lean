import Derived.Test.YtfgkmijaimfkjaaZ11
namespace Go.Proofs.Ytfgkmijaimfkjaa
open Go.ChangeShapes Go.WideShapes Go.ChangeAt Go.RowKit
set_option linter.unusedVariables false
set_option linter.unusedSimpArgs false

structure NsV where
  k : Int
  x : Int
  v : Int
def nsA (X : NsV) : Array Value := #[.int .i64 X.k, .int .i64 X.x, .int .i64 X.v]
/-- a script of calls -/
def NsIn (W : World) (p : Option Addr) (m : Nat) (X : Nat → NsV) : Prop := m = 0 ∨ ∃ b o, p = some ⟨b, o, none⟩ ∧ b < W.heap.size ∧ ∀ i r, i < m → r < 3 → W.cell? ⟨b, o + i * 3 + r, none⟩ = some ((nsA (X i)).toList.getD r undef)
/-- between two calls -/
structure QI (W0 : World) (pb hb wb cb g n k : Nat) (N : Nt) (W : World) : Prop where
  bz : BZ W0.heap.size pb hb wb cb n N W
  cl : CList W W0.heap.size g n N.up N.dn
  sm : Sm N (k + 1)
  bl : Below W0.heap.size W0 W
/-- behind a call: the old list still lies there -/
structure QJ (W0 : World) (pb hb wb cb g n k : Nat) (N N' : Nt) (W : World) : Prop where
  bz : BZ W0.heap.size pb hb wb cb n N' W
  cl : CList W W0.heap.size g n N.up N.dn
  sm : Sm N' (k + 1 + 1)
  bl : Below W0.heap.size W0 W
theorem QI.later {W0 : World} {pb hb wb cb g n k : Nat} {N : Nt} {W W' : World} (h : QI W0 pb hb wb cb g n k N W) (hb' : Below W.heap.size W W') : QI W0 pb hb wb cb g n k N W' :=
  ⟨h.bz.later hb', h.cl.below hb', h.sm, h.bl.trans (hb'.mono h.bl.size)⟩
theorem QJ.later {W0 : World} {pb hb wb cb g n k : Nat} {N N' : Nt} {W W' : World} (h : QJ W0 pb hb wb cb g n k N N' W) (hb' : Below W.heap.size W W') : QJ W0 pb hb wb cb g n k N N' W' :=
  ⟨h.bz.later hb', h.cl.below hb', h.sm, h.bl.trans (hb'.mono h.bl.size)⟩
theorem QI.same {W0 : World} {pb hb wb cb g n k : Nat} {N : Nt} {W : World} (h : QI W0 pb hb wb cb g n k N W) : QJ W0 pb hb wb cb g n k N N W := ⟨h.bz, h.cl, h.sm.mono (Nat.le_succ _), h.bl⟩
theorem QI.step {W0 : World} {pb hb wb cb g n k : Nat} {N N' : Nt} {W W' : World} (h : QI W0 pb hb wb cb g n k N W) (hz : ZC W W0.heap.size hb wb cb n N' W') (hs : Sm N' (k + 1 + 1)) : QJ W0 pb hb wb cb g n k N N' W' :=
  ⟨h.bz.step hz, h.cl.ch (N' := N') h.bz hz.2, hs, h.bl.trans (hz.2.toBelow (h.bl.size) fun i e => by
    have := h.bz.net.bl
    rcases e with e | e <;> omega)⟩
set_option maxRecDepth 100000 in
theorem quiet_bad (x : Int) (p : Option Addr) (m c : Nat) (h : x < 1 ∨ 64 < x) (W : World) : Calls Try.prog 3 #[.int .i64 x, .slice p m c] W fun e W' => e = .returned (.bool true) ∧ Below W.heap.size W W' := by
  have HB := znewB_bad x h W
  by_cases h1 : x < 1
  · have d1 : decide (x < 1) = true := by simpa using h1
    go_enter Try.func3, Try.ntmps3
    go_wp2_with (go_at_call 9; (with_reducible refine HB.mono ?_); rintro e w1 ⟨rfl, h9⟩; subst h9)
    go_ret
    exact ⟨rfl, Below.refl _ _⟩
  · have d1 : decide (x < 1) = false := by simpa using h1
    have d2 : decide (64 < x) = true := by simp; omega
    go_enter Try.func3, Try.ntmps3
    go_wp2_with (go_at_call 9; (with_reducible refine HB.mono ?_); rintro e w1 ⟨rfl, h9⟩; subst h9)
    go_ret
    exact ⟨rfl, Below.refl _ _⟩
/-- the first step of the last worker -/
theorem first_wai (n : Nat) (h1 : 1 ≤ n) : waiE n Nt.new ((n - 1 : Nat) : Int) = 0 ∧ waiB JZ n Nt.new ((n - 1 : Nat) : Int) = decide (n = 1) ∧ (waiN JZ n Nt.new ((n - 1 : Nat) : Int)).up = upF (fun _ => false) (n - 1) (decide (1 < n)) ∧ (waiN JZ n Nt.new ((n - 1 : Nat) : Int)).dn = upF (fun _ => false) (n - 1) (decide (n = 1)) := by
  have hi : inN n ((n - 1 : Nat) : Int) = true := by unfold inN; simp; omega
  have e1 : entN n Nt.new ((n - 1 : Nat) : Int) 0 = enterN Nt.new (n - 1) 0 := by
    unfold entN
    rw [Int.toNat_natCast, if_pos ⟨hi, rfl⟩]
  have hz : (Nt.new.pl (n - 1) != 0) = false := rfl
  unfold waiE waiB waiN stpE stpB stpN
  simp only [hi, Int.toNat_natCast, hz, Bool.and_false, Bool.false_eq_true, if_false, if_true, true_and]
  rw [e1]
  have hp : (enterN Nt.new (n - 1) 0).pl (n - 1) = 1 := upF_at _ _ _
  have hs : stepN JZ n (enterN Nt.new (n - 1) 0) (n - 1) = if 0 < n - 1 then riseN (enterN Nt.new (n - 1) 0) (n - 1) else leaveN (enterN Nt.new (n - 1) 0) (n - 1) := by
    unfold stepN
    rw [hp, if_neg (by omega), if_neg (by omega)]
    by_cases h0 : 0 < n - 1
    · rw [if_pos ⟨by decide, h0⟩, if_pos h0]
    · rw [if_neg (fun e => h0 e.2), if_neg (fun e => h0 e.2), if_neg h0]
  have hns : sns (enterN Nt.new (n - 1) 0) (n - 1) = true := rfl
  rw [hp, hs]
  by_cases h0 : 0 < n - 1
  · rw [if_pos h0]
    have a1 : decide (n = 1) = false := by simp; omega
    have a2 : decide (1 < n) = true := by simp; omega
    rw [a1, a2]
    refine ⟨by simp, by simp [riseN, upF_at], ?_, ?_⟩
    · show upF _ _ (sns _ _) = _
      rw [hns]
      rfl
    · funext i
      show false = _
      unfold upF
      split <;> rfl
  · rw [if_neg h0]
    have a1 : decide (n = 1) = true := by simp; omega
    have a2 : decide (1 < n) = false := by simp; omega
    rw [a1, a2]
    refine ⟨by simp, by simp [leaveN, upF_at], ?_, ?_⟩
    · funext i
      show false = _
      unfold upF
      split <;> rfl
    · show upF _ _ (sns _ _) = _
      rw [hns]
      rfl
end Go.Proofs.Ytfgkmijaimfkjaa
