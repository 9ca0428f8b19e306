import Derived.Test.YtehahicdkklhgaaG1
namespace Go.Proofs.Ytehahicdkklhgaa
open Go.ChangeShapes Go.WideShapes Go.ChangeAt Go.RowKit
set_option linter.unusedVariables false

/-- a node, wherever its kids lie -/
structure NdF where
  kind : Int
  name : ByteArray
  num : Int
  op : Int
  kp : Option Addr
  kn : Nat
  kc : Nat
  K : Nat → Int
  line : Int
  col : Int
def ndV (x : NdF) : Value := .agg #[.int .i64 x.kind, .string x.name, .int .u64 x.num, .int .i64 x.op, .slice x.kp x.kn x.kc, .int .i64 x.line, .int .i64 x.col]
def sameN (x y : NdF) : Bool := (x.kind == y.kind) && (x.name.toList == y.name.toList) && (x.num == y.num) && (x.op == y.op) && (decide (x.kn = y.kn) && sameF x.kn x.K y.K)
def sameL (x y : NdF) : Bool := (x.kind == y.kind) && (x.name.toList == y.name.toList) && (x.num == y.num) && (x.op == y.op) && (x.line == y.line) && (x.col == y.col) && (decide (x.kn = y.kn) && sameF x.kn x.K y.K)
/-- its kids lie where it says -/
def KidsOk (W : World) (x : NdF) : Prop := KAt W x.kp x.kn x.K ∧ x.kn ≤ 17592186044416
theorem KidsOk.below {W W' : World} {x : NdF} (h : KidsOk W x) (hb : Below W.heap.size W W') : KidsOk W' x := ⟨h.1.below hb, h.2⟩

set_option maxRecDepth 100000 in
set_option maxHeartbeats 2000000 in
theorem sameOne_any (x y : NdF) (w : World) (hx : KidsOk w x) (hy : KidsOk w y) :
    Calls Try.prog 9 #[ndV x, ndV y] w fun e w' => e = .returned (.bool (sameN x y)) ∧ Below w.heap.size w w' := by
  have HE : ∀ w', Below w.heap.size w w' → Hid (Calls Try.prog 10 #[.slice x.kp x.kn x.kc, .slice y.kp y.kn y.kc] w' fun e w'' => e = .returned (.bool (decide (x.kn = y.kn) && sameF x.kn x.K y.K)) ∧ Below w'.heap.size w' w'') := fun w' h => equalInts_any x.kp y.kp x.kn y.kn x.kc y.kc x.K y.K hx.2 w' (hx.1.below h) (hy.1.below h)
  have hb0 : ∀ o1 o2 : Obj, Below w.heap.size w ((w.alloc o1).alloc o2) := fun o1 o2 => ((Below.refl _ w).alloc (Nat.le_refl _) _).alloc (by simp) _
  unfold sameN ndV
  clear hx hy
  generalize (decide (x.kn = y.kn) && sameF x.kn x.K y.K) = rk at HE ⊢
  cases e1 : (x.kind == y.kind) with
  | false =>
    simp only [Bool.false_and]
    go_enter Try.func9, Try.ntmps9
    go_wp2
    go_ret
    exact ⟨rfl, hb0 _ _⟩
  | true =>
    cases e2 : (x.name.toList == y.name.toList) with
    | false =>
      simp only [Bool.false_and, Bool.true_and]
      go_enter Try.func9, Try.ntmps9
      go_wp2
      go_ret
      exact ⟨rfl, hb0 _ _⟩
    | true =>
      cases e3 : (x.num == y.num) with
      | false =>
        simp only [Bool.false_and, Bool.true_and]
        go_enter Try.func9, Try.ntmps9
        go_wp2
        go_ret
        exact ⟨rfl, hb0 _ _⟩
      | true =>
        cases e4 : (x.op == y.op) with
        | false =>
          simp only [Bool.false_and, Bool.true_and]
          go_enter Try.func9, Try.ntmps9
          go_wp2
          go_ret
          exact ⟨rfl, hb0 _ _⟩
        | true =>
          simp only [Bool.true_and]
          go_enter Try.func9, Try.ntmps9
          go_wp2_with (go_at_call 10; (with_reducible refine ((HE _ (hb0 _ _)).out).mono ?_); rintro e w1 ⟨rfl, b1⟩)
          go_ret
          exact ⟨rfl, (hb0 _ _).trans (b1.mono (hb0 _ _).size)⟩
set_option maxRecDepth 100000 in
set_option maxHeartbeats 2000000 in
theorem sameNode_any (x y : NdF) (w : World) (hx : KidsOk w x) (hy : KidsOk w y) :
    Calls Try.prog 12 #[ndV x, ndV y] w fun e w' => e = .returned (.bool (sameL x y)) ∧ Below w.heap.size w w' := by
  have HE : ∀ w', Below w.heap.size w w' → Hid (Calls Try.prog 13 #[.slice x.kp x.kn x.kc, .slice y.kp y.kn y.kc] w' fun e w'' => e = .returned (.bool (decide (x.kn = y.kn) && sameF x.kn x.K y.K)) ∧ Below w'.heap.size w' w'') := fun w' h => sameInts_any x.kp y.kp x.kn y.kn x.kc y.kc x.K y.K hx.2 w' (hx.1.below h) (hy.1.below h)
  have hb0 : ∀ o1 o2 : Obj, Below w.heap.size w ((w.alloc o1).alloc o2) := fun o1 o2 => ((Below.refl _ w).alloc (Nat.le_refl _) _).alloc (by simp) _
  unfold sameL ndV
  clear hx hy
  generalize (decide (x.kn = y.kn) && sameF x.kn x.K y.K) = rk at HE ⊢
  cases e1 : (x.kind == y.kind) with
  | false =>
    have e1' : (x.kind != y.kind) = true := by simp only [bne, e1]; rfl
    simp only [Bool.false_and]
    go_enter Try.func12, Try.ntmps12
    go_wp2
    go_ret
    exact ⟨rfl, hb0 _ _⟩
  | true =>
    have e1' : (x.kind != y.kind) = false := by simp only [bne, e1]; rfl
    cases e2 : (x.name.toList == y.name.toList) with
    | false =>
      simp only [Bool.false_and, Bool.true_and]
      go_enter Try.func12, Try.ntmps12
      go_wp2
      go_ret
      exact ⟨rfl, hb0 _ _⟩
    | true =>
      cases e3 : (x.num == y.num) with
      | false =>
        have e3' : (x.num != y.num) = true := by simp only [bne, e3]; rfl
        simp only [Bool.false_and, Bool.true_and]
        go_enter Try.func12, Try.ntmps12
        go_wp2
        go_ret
        exact ⟨rfl, hb0 _ _⟩
      | true =>
        have e3' : (x.num != y.num) = false := by simp only [bne, e3]; rfl
        cases e4 : (x.op == y.op) with
        | false =>
          have e4' : (x.op != y.op) = true := by simp only [bne, e4]; rfl
          simp only [Bool.false_and, Bool.true_and]
          go_enter Try.func12, Try.ntmps12
          go_wp2
          go_ret
          exact ⟨rfl, hb0 _ _⟩
        | true =>
          have e4' : (x.op != y.op) = false := by simp only [bne, e4]; rfl
          cases e5 : (x.line == y.line) with
          | false =>
            have e5' : (x.line != y.line) = true := by simp only [bne, e5]; rfl
            simp only [Bool.false_and, Bool.true_and]
            go_enter Try.func12, Try.ntmps12
            go_wp2
            go_ret
            exact ⟨rfl, hb0 _ _⟩
          | true =>
            have e5' : (x.line != y.line) = false := by simp only [bne, e5]; rfl
            cases e6 : (x.col == y.col) with
            | false =>
              have e6' : (x.col != y.col) = true := by simp only [bne, e6]; rfl
              simp only [Bool.false_and, Bool.true_and]
              go_enter Try.func12, Try.ntmps12
              go_wp2
              go_ret
              exact ⟨rfl, hb0 _ _⟩
            | true =>
              have e6' : (x.col != y.col) = false := by simp only [bne, e6]; rfl
              simp only [Bool.true_and]
              go_enter Try.func12, Try.ntmps12
              go_wp2_with (go_at_call 13; (with_reducible refine ((HE _ (hb0 _ _)).out).mono ?_); rintro e w1 ⟨rfl, b1⟩)
              go_ret
              exact ⟨rfl, (hb0 _ _).trans (b1.mono (hb0 _ _).size)⟩

end Go.Proofs.Ytehahicdkklhgaa
