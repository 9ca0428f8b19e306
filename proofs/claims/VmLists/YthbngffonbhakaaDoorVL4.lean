import Derived.Test.YthbngffonbhakaaDoorVL3
import Derived.BigQuiet
import Derived.Deep.RegionLaw
import Derived.Deep.RegionHeld3
import Derived.Deep.Cut
import Derived.Deep.DeepCutAuto
import Derived.Deep.CutBlock
import Derived.Deep.CutRange
import Derived.Handy
namespace Go.Proofs.YthbngffonbhakaaDoor
open Go.ChangeShapes Go.WideShapes Go.ChangeAt Go.RowKit Go.Sort
set_option linter.unusedVariables false
set_option linter.unusedSimpArgs false


theorem vmeas {n k : Nat} (h : k < n) : n - (intOf (.int .i64 ((k : Int) + 1))).toNat < n - (intOf (.int .i64 (k : Int))).toNat := by
  simp only [intOf]
  omega
theorem drewV (w : World) : Below w.heap.size w w.drew := ⟨rfl, rfl, rfl, Nat.le_refl _, fun _ _ => rfl⟩
set_option maxRecDepth 100000 in
theorem told_any (o a b : Int) (ho : 0 ≤ o ∧ o < 42) (w : World) : Calls Tryd.prog 12 #[.agg #[.int .i64 o, .int .i64 a, .int .i64 b]] w fun e w' => e = .returned (.int .i64 (tlN o a b : Int)) ∧ Below w.heap.size w w' := by
  have HW := fun W => wants_any o ho W
  have hw := wantsI_le o
  have hb : Below w.heap.size w (w.alloc (.cells #[.int .i64 o, .int .i64 a, .int .i64 b] 35)) := (Below.refl _ w).alloc (Nat.le_refl _) _
  by_cases h1 : b = 0
  · have d1 : (b != 0) = false := by simp [h1]
    have d1b : (b == 0) = true := by simp [h1]
    by_cases h2 : a = 0
    · have d2 : (a != 0) = false := by simp [h2]
      have d2b : (a == 0) = true := by simp [h2]
      have e : (tlN o a b : Int) = wantsI o := by unfold tlN; rw [if_neg (by simp [h1]), if_neg (by simp [h2])]; omega
      rw [e]
      clear e h1 h2
      go_enter Tryd.func12, Tryd.ntmps12
      go_wp2_with (go_at_call 22; (with_reducible refine (HW _).mono ?_); rintro r w1 ⟨rfl, rfl⟩)
      go_ret
      exact ⟨rfl, hb⟩
    · have d2 : (a != 0) = true := by simp [h2]
      have d2b : (a == 0) = false := by simp [h2]
      have e : (tlN o a b : Int) = (if 1 < wantsI o then wantsI o else 1) := by
        unfold tlN
        rw [if_neg (by simp [h1]), if_pos h2]
        split <;> omega
      rw [e]
      clear e h1 h2
      by_cases h3 : 1 < wantsI o
      · have d3 : decide (1 < wantsI o) = true := by simpa using h3
        rw [if_pos h3]
        clear h3
        generalize wantsI o = r at *
        go_enter Tryd.func12, Tryd.ntmps12
        go_wp2_with (go_at_call 22; (with_reducible refine (HW _).mono ?_); rintro r9 w1 ⟨rfl, rfl⟩)
        go_ret
        first | exact ⟨rfl, hb⟩ | exact ⟨by have := of_decide_eq_true d3; simp; omega, hb⟩ | (refine ⟨?_, hb⟩; show Ending.returned (Value.int .i64 (if 1 < r then r else 1)) = _; rw [if_pos (of_decide_eq_true d3)])
      · have d3 : decide (1 < wantsI o) = false := by simpa using h3
        rw [if_neg h3]
        clear h3
        generalize wantsI o = r at *
        go_enter Tryd.func12, Tryd.ntmps12
        go_wp2_with (go_at_call 22; (with_reducible refine (HW _).mono ?_); rintro r9 w1 ⟨rfl, rfl⟩)
        go_ret
        first | exact ⟨rfl, hb⟩ | exact ⟨by have := of_decide_eq_false d3; simp; omega, hb⟩ | (refine ⟨?_, hb⟩; show Ending.returned (Value.int .i64 (if 1 < r then r else 1)) = _; rw [if_neg (of_decide_eq_false d3)])
  · have d1 : (b != 0) = true := by simp [h1]
    have d1b : (b == 0) = false := by simp [h1]
    have e : (tlN o a b : Int) = 2 := by unfold tlN; rw [if_pos h1]; rfl
    rw [e]
    clear e h1
    go_enter Tryd.func12, Tryd.ntmps12
    go_wp2_with fail
    go_ret
    exact ⟨rfl, hb⟩
/-- numbers that lie in a block of their own -/
def N64 (W : World) (q : Option Addr) (k : Nat) (f : Nat → Int) : Prop := k = 0 ∨ ∃ g cs, q = some ⟨g, 0, none⟩ ∧ W.heap[g]? = some (.cells cs 2 (0, 0)) ∧ ∀ i, i < k → cs[i]? = some (.int .i64 (f i))
theorem N64.fr {B : Nat} {W W' : World} {q : Option Addr} {k : Nat} {f : Nat → Int} (h : N64 W q k f) (hf : Fr B W W') : N64 W' q k f := by
  rcases h with h | ⟨g, cs, h1, h2, h3⟩
  · exact .inl h
  · exact .inr ⟨g, cs, h1, hf.block h2 (by decide), h3⟩
theorem N64.cell {W : World} {q : Option Addr} {k : Nat} {f : Nat → Int} (h : N64 W q k f) {i : Nat} (hi : i < k) : ∃ g, q = some ⟨g, 0, none⟩ ∧ W.cell? ⟨g, i, none⟩ = some (.int .i64 (f i)) := by
  rcases h with h | ⟨g, cs, h1, h2, h3⟩
  · omega
  · refine ⟨g, h1, ?_⟩
    unfold World.cell?
    rw [h2]
    simpa using h3 i hi
set_option maxRecDepth 100000 in
set_option maxHeartbeats 2000000 in
theorem aline_any (B : Nat) (s : List UInt8) (hs5 : s.length ≤ 10) (q : Option Addr) (k cq : Nat) (f : Nat → Int) (hk : k ≤ 2) (hf : ∀ i, i < k → I64 (f i)) (x : Value) (l : List UInt8) (hl : l.length ≤ 1000000) (w : World) (hx : BR B w x l) (hN : N64 w q k f) (hB : B ≤ w.heap.size) (htab : Tb B w) :
    Calls Tryd.prog 10 #[x, .string ⟨s.toArray⟩, .slice q k cq] w fun e w' => ∃ x', e = .returned x' ∧ BR B w' x' (l ++ (s ++ nsB f k ++ [10])) ∧ Fr B w w' := by
  have HT : Hid (Tb B w) := htab
  have HN : Hid (N64 w q k f) := hN
  have HX : Hid (BR B w x l) := hx
  have HF : Hid (∀ i, i < k → I64 (f i)) := hf
  clear htab hN hx hf
  go_enter Tryd.func10, Tryd.ntmps10
  go_wp2_with (at_builtin; refine app_str rfl _ _ rfl B x l rfl HX.out s rfl (by omega) hB ?_; intro v1 w1 b1 f1)
  have H1 : Hid (BR B w1 v1 (l ++ s) ∧ Fr B w w1) := ⟨b1, f1⟩
  clear b1 f1
  go_loopw [0, 14] (fun v y wr => ∃ j : Nat, y = .int .i64 (j : Int) ∧ j ≤ k ∧ BR B wr v (l ++ s ++ nsB f j) ∧ Fr B w wr) (fun _ y _ => k - (intOf y).toNat)
  case atStart => exact ⟨0, rfl, Nat.zero_le _, by simpa [nsB] using H1.out.1, H1.out.2⟩
  case round =>
    obtain ⟨j, rfl, hj, hb, hfr⟩ := hrel
    clear H1
    have hlen := nsB_len (f := f) (k := j) fun i hi => HF.out i (by omega)
    by_cases hlt : j < k
    · have dlt : decide ((j : Int) < (k : Int)) = true := by simp; omega
      have hm := vmeas hlt
      have ei : IntKind.i64.wrap ((j : Int) + 1) = (j : Int) + 1 := by rw [IntKind.wrap_i64]; omega
      have i0 : (0 : Int) ≤ (j : Int) := by omega
      have i1 : (j : Int) < (k : Int) := by omega
      obtain ⟨g, hq, y0⟩ := (HN.out.fr hfr).cell hlt
      subst hq
      have HB0 : Hid (BR B wr u0 (l ++ s ++ nsB f j) ∧ Fr B w wr) := ⟨hb, hfr⟩
      have hsz : B ≤ wr.heap.size := Nat.le_trans hB hfr.size
      have hlim : (l ++ s ++ nsB f j).length ≤ 1000100 := by simp only [List.length_append]; omega
      clear hb hfr hlen
      go_wp2_with (at_builtin; refine app_one rfl _ _ rfl B u0 _ rfl HB0.out.1 32 32 rfl rfl (by omega) hsz ?_; intro v2 w2 b2 f2)
      have HA := apI_any B (f j) (HF.out j hlt) v2 _ w2 b2 (Nat.le_trans hsz f2.size) (by simp only [List.length_append, List.length_singleton] at hlim ⊢; omega) (HT.out.on (HB0.out.2.trans f2).bel)
      have HF2 : Hid (Fr B wr w2) := f2
      clear b2 f2
      go_wp2_with (go_at_call 21; (with_reducible refine HA.mono ?_); rintro e w3 ⟨v3, rfl, b3, f3⟩)
      refine ⟨⟨j + 1, rfl, hlt, ?_, HB0.out.2.trans (HF2.out.trans f3)⟩, hm⟩
      have e : l ++ s ++ nsB f (j + 1) = l ++ s ++ nsB f j ++ [32] ++ Lib.itoa (f j) := by simp [nsB, numB]
      rw [e]
      exact b3
    · have dlt : decide ((j : Int) < (k : Int)) = false := by simp; omega
      obtain rfl : k = j := by omega
      have HB0 : Hid (BR B wr u0 (l ++ s ++ nsB f k) ∧ Fr B w wr) := ⟨hb, hfr⟩
      have hsz : B ≤ wr.heap.size := Nat.le_trans hB hfr.size
      have hlim : (l ++ s ++ nsB f k).length ≤ 1000100 := by simp only [List.length_append]; omega
      clear hb hfr hlen
      go_wp2_with (at_builtin; refine app_one rfl _ _ rfl B u0 _ rfl HB0.out.1 10 10 rfl rfl (by omega) hsz ?_; intro v2 w2 b2 f2)
      go_ret
      refine ⟨v2, rfl, ?_, HB0.out.2.trans f2⟩
      rw [← List.append_assoc, ← List.append_assoc]
      exact b2
end Go.Proofs.YthbngffonbhakaaDoor
