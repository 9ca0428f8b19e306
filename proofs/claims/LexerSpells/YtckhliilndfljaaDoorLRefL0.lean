import Derived.Test.YtckhliilndfljaaDoorLRefG
namespace Go.Proofs.YtckhliilndfljaaDoor
open Go.ChangeShapes Go.WideShapes Go.ChangeAt Go.RowKit
set_option linter.unusedVariables false

/-- does kind k's spelling stand at the front, longer than the best one so far? -/
def lngC (s : Bs) (k best : Nat) : Bool := !(spl k).isEmpty && decide ((spl k).length ≤ s.length) && (s.take (spl k).length == spl k) && (best == 0 || decide ((spl k).length > (spl best).length))
def lng (s : Bs) : Nat → Nat → Nat → Nat
  | 0, _, best => best
  | n + 1, k, best => lng s n (k + 1) (if lngC s k best then k else best)
def lngS (s : Bs) : Nat := lng s 30 50 0

/-- what stands at the front, by its first two bytes alone -/
theorem lngC_two (c d : UInt8) (r : Bs) (k best : Nat) (h : (spl k).length ≤ 2) : lngC (c :: d :: r) k best = lngC [c, d] k best := by
  unfold lngC
  have e1 : decide ((spl k).length ≤ (c :: d :: r).length) = decide ((spl k).length ≤ [c, d].length) := by
    congr 1
    simp
    omega
  have e2 : (c :: d :: r).take (spl k).length = [c, d].take (spl k).length := by
    match hl : (spl k).length, h with
    | 0, _ => rfl
    | 1, _ => rfl
    | 2, _ => simp
  rw [e1, e2]
theorem spl_two (k : Nat) (h1 : 50 ≤ k) (h2 : k < 80) : (spl k).length ≤ 2 := by
  have : ∀ k, k < 80 → 50 ≤ k → (spl k).length ≤ 2 := by decide +kernel
  exact this k h2 h1
theorem lng_two (c d : UInt8) (r : Bs) : ∀ (n k best : Nat), 50 ≤ k → k + n ≤ 80 → lng (c :: d :: r) n k best = lng [c, d] n k best
  | 0, _, _, _, _ => rfl
  | n + 1, k, best, h1, h2 => by
    unfold lng
    rw [lngC_two c d r k best (spl_two k h1 (by omega)), lng_two c d r n (k + 1) _ (by omega) (by omega)]

/-- the marks that begin with c, and what may stand behind c that matters -/
def mOK2 (c d : UInt8) : Bool := lngS [c, d] == markK ([c, d].take (markL [c, d])) && (markK ([c, d].take (markL [c, d])) == 0 || spl (markK ([c, d].take (markL [c, d]))) == [c, d].take (markL [c, d]))
def mOK1 (c : UInt8) : Bool := lngS [c] == markK [c] && (markK [c] == 0 || spl (markK [c]) == [c])
theorem one_all : (List.range 256).all (fun n => mOK1 (UInt8.ofNat n)) = true := by decide +kernel
theorem two_all : (List.range 256).all (fun n => [124, 38, 61, 60, 62, 0].all fun m => mOK2 (UInt8.ofNat n) m) = true := by decide +kernel
end Go.Proofs.YtckhliilndfljaaDoor
