import Derived.Test.YtieanhmkcbcdkaaM14
import Derived.Test.YtieanhmkcbcdkaaM18
namespace Go.Proofs.Ytieanhmkcbcdkaa
open Go.ChangeShapes Go.WideShapes Go.ChangeAt Go.RowKit
set_option linter.unusedVariables false

/-! ### what a handler does is the same wherever its words lie -/
def wvM (M : Mc) (wv : Value) : Mc := { M with wv := wv }
theorem doF_wv (cl : Cl) (M : Mc) (wv : Value) (o a b : Int) : doF cl (wvM M wv) o a b = doF cl M o a b := rfl
theorem waitM_wv (M : Mc) (wv : Value) (r : Option (Int × Int)) : waitM (wvM M wv) r = wvM (waitM M r) wv := by
  rcases r with _ | r <;> rfl
theorem doM_wv (cl : Cl) (M : Mc) (wv : Value) (o a b : Int) : doM cl (wvM M wv) o a b = wvM (doM cl M o a b) wv := by
  unfold doM
  by_cases h1 : o = 1
  · rw [if_pos h1, if_pos h1]; rfl
  rw [if_neg h1, if_neg h1]
  by_cases h2 : o = 2
  · rw [if_pos h2, if_pos h2]; rfl
  rw [if_neg h2, if_neg h2]
  by_cases h3 : o = 3
  · rw [if_pos h3, if_pos h3]; rfl
  rw [if_neg h3, if_neg h3]
  by_cases h4 : o = 4
  · rw [if_pos h4, if_pos h4]; rfl
  rw [if_neg h4, if_neg h4]
  by_cases h5 : o = 5
  · rw [if_pos h5, if_pos h5]; rfl
  rw [if_neg h5, if_neg h5]
  by_cases h6 : o = 6
  · rw [if_pos h6, if_pos h6]; rfl
  rw [if_neg h6, if_neg h6]
  by_cases h7 : o = 7
  · rw [if_pos h7, if_pos h7]; rfl
  rw [if_neg h7, if_neg h7]
  by_cases h8 : o = 8
  · rw [if_pos h8, if_pos h8]; rfl
  rw [if_neg h8, if_neg h8]
  by_cases h9 : o = 9
  · rw [if_pos h9, if_pos h9]; rfl
  rw [if_neg h9, if_neg h9]
  by_cases h10 : o = 10
  · rw [if_pos h10, if_pos h10]; rfl
  rw [if_neg h10, if_neg h10]
  by_cases h11 : o = 11
  · rw [if_pos h11, if_pos h11]; rfl
  rw [if_neg h11, if_neg h11]
  by_cases h12 : o = 12
  · rw [if_pos h12, if_pos h12]; rfl
  rw [if_neg h12, if_neg h12]
  by_cases h38 : o = 38
  · rw [if_pos h38, if_pos h38]; rfl
  rw [if_neg h38, if_neg h38]
  by_cases h37 : o = 37
  · rw [if_pos h37, if_pos h37]; rfl
  rw [if_neg h37, if_neg h37]
  by_cases h41 : o = 41
  · rw [if_pos h41, if_pos h41]; exact waitM_wv M wv _
  rw [if_neg h41, if_neg h41]
  by_cases h39 : o = 39
  · rw [if_pos h39, if_pos h39]; rfl
  rw [if_neg h39, if_neg h39]
  by_cases hs : o = 23 ∨ o = 24 ∨ o = 25 ∨ o = 34
  · rw [if_pos hs, if_pos hs]; rfl
  rw [if_neg hs, if_neg hs]
  by_cases hp : isPairB o = true
  · rw [if_pos hp, if_pos hp]; rfl
  rw [if_neg hp, if_neg hp]
theorem runP_wv (P : Pg) (cl : Cl) (wv : Value) : ∀ (k i : Nat) (M : Mc), runP P cl k i (wvM M wv) = ((runP P cl k i M).1, wvM (runP P cl k i M).2 wv)
  | 0, i, M => by rw [runP_zero, runP_zero]
  | k + 1, i, M => by
    by_cases h0 : P.op i = 0
    · rw [runP_stop h0, runP_stop h0]; rfl
    by_cases h1 : P.op i = 35
    · rw [runP_jump h1, runP_jump h1]; exact runP_wv P cl wv k _ (usM M)
    by_cases h2 : P.op i = 36
    · rw [runP_ifz h2, runP_ifz h2]; exact runP_wv P cl wv k _ (popM (usM M))
    have h3 : P.op i ≠ 0 ∧ P.op i ≠ 35 ∧ P.op i ≠ 36 := ⟨h0, h1, h2⟩
    by_cases hf : doF cl (usM M) (P.op i) (P.a i) (P.b i) = 0
    · rw [runP_go h3 hf, runP_go (M := wvM M wv) h3 hf]
      have e : doM cl (usM (wvM M wv)) (P.op i) (P.a i) (P.b i) = wvM (doM cl (usM M) (P.op i) (P.a i) (P.b i)) wv := doM_wv cl (usM M) wv _ _ _
      rw [e]
      exact runP_wv P cl wv k _ _
    · rw [runP_fault h3 hf, runP_fault (M := wvM M wv) h3 hf]; rfl
/-! ### an effect -/
structure Ef where
  code : Int
  nw : Nat
  wd : Nat → Int
  dice : Int
  sent : Int
  on : Nat
  oF : Nat → Value
  used : Int
def efErr (c : Int) : Ef := ⟨c, 0, fun _ => 0, 0, 0, 0, fun _ => undef, 0⟩
def runOf (P : Pg) (cl : Cl) (K : Nat → Int) (d s : Int) : Int × Mc := runP P cl cl.fuel.toNat (P.en cl.kind.toNat).toNat (newM K d s (.slice none 0 0))
open Classical in
noncomputable def effP (P : Pg) (cl : Cl) (n : Nat) (K : Nat → Int) (d s : Int) : Ef :=
  if dcode P P.m ≠ 0 then efErr (dcode P P.m)
  else if fitsB P cl n = false then efErr 63
  else if P.en cl.kind.toNat = -1 then ⟨0, n, K, d, s, 0, fun _ => undef, 0⟩
  else if (runOf P cl K d s).1 ≠ 0 then ⟨(runOf P cl K d s).1, n, K, d, s, 0, fun _ => undef, (runOf P cl K d s).2.used⟩
  else ⟨0, n, (runOf P cl K d s).2.wd, (runOf P cl K d s).2.dice, (runOf P cl K d s).2.sent, (runOf P cl K d s).2.on, (runOf P cl K d s).2.oF, (runOf P cl K d s).2.used⟩
def EfAt (W : World) (base : Nat) (v : Value) (E : Ef) : Prop := ∃ (wp : Option Addr) (wc : Nat) (op : Option Addr) (oc : Nat), v = .agg #[.int .i64 E.code, .slice wp E.nw wc, .int .u64 E.dice, .int .u64 E.sent, .slice op E.on oc, .int .i64 E.used] ∧ Own W base 2 1 (.slice wp E.nw wc) E.nw (iv E.wd) ∧ Own W base 30 6 (.slice op E.on oc) E.on E.oF
theorem EfAt.later {W W' : World} {base : Nat} {v : Value} {E : Ef} (h : EfAt W base v E) (hb : Below W.heap.size W W') : EfAt W' base v E := by
  obtain ⟨wp, wc, op, oc, h1, h2, h3⟩ := h
  exact ⟨wp, wc, op, oc, h1, h2.later hb, h3.later hb⟩
theorem EfAt.lower {W : World} {base base' : Nat} {v : Value} {E : Ef} (h : EfAt W base v E) (hb : base' ≤ base) : EfAt W base' v E := by
  obtain ⟨wp, wc, op, oc, h1, h2, h3⟩ := h
  exact ⟨wp, wc, op, oc, h1, h2.lower hb, h3.lower hb⟩
/-- a call's words lie there -/
structure CallAt (w : World) (cl : Cl) (p : Option Addr) (n c : Nat) (K : Nat → Int) (d s : Int) : Prop where
  words : KAt w p n K
  nil : p = none → n = 0 ∧ c = 0
  room : n ≤ 17592186044416
  ok : OkC cl
  wd : ∀ j, In64 (K j)
  dice : u64ok d
  sent : u64ok s
theorem CallAt.below {w w' : World} {cl : Cl} {p : Option Addr} {n c : Nat} {K : Nat → Int} {d s : Int} (h : CallAt w cl p n c K d s) (hb : Below w.heap.size w w') : CallAt w' cl p n c K d s := ⟨h.words.below hb, h.nil, h.room, h.ok, h.wd, h.dice, h.sent⟩
theorem in64_0 : In64 0 := ⟨by omega, by omega⟩
theorem newM_ok {w : World} {cl : Cl} {p : Option Addr} {n c : Nat} {K : Nat → Int} {d s : Int} (h : CallAt w cl p n c K d s) (wv : Value) : OkM (newM K d s wv) := ⟨fun _ => in64_0, fun _ => in64_0, h.wd, h.dice, h.sent, Nat.zero_le _⟩
end Go.Proofs.Ytieanhmkcbcdkaa
