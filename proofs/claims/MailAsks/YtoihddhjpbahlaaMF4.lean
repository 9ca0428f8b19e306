import Derived.Test.YtoihddhjpbahlaaMF2
import Derived.BigQuiet
import Derived.Deep.RegionLaw
import Derived.Deep.RegionHeld3
import Derived.Deep.Cut
import Derived.Deep.DeepCutAuto
import Derived.Deep.CutBlock
import Derived.Deep.CutRange
import Derived.Deep.AppendLies
import Derived.Handy
import Derived.Lib.RabinKarpLaws
namespace Go.Proofs.Ytoihddhjpbahlaa
open Go.ChangeShapes Go.WideShapes Go.ChangeAt Go.RowKit
set_option linter.unusedVariables false
set_option linter.unusedSimpArgs false


theorem bit01 (x : Int) : bits .and .i64 x 1 = 0 ∨ bits .and .i64 x 1 = 1 := by
  unfold bits
  simp
  have h1 : 1 % 2 ^ IntKind.i64.bits = 1 := by decide
  rw [h1, Nat.and_one_is_mod]
  rcases Nat.mod_two_eq_zero_or_one (x % 2 ^ IntKind.i64.bits).toNat with e | e
  · rw [e]; exact .inl (by decide)
  · rw [e]; exact .inr (by decide)
structure LQ (W : World) (SB : Nat) (w0 w1 r0 r1 : Int) (p : Option Addr) (N c : Nat) (pv qv : Nat → Value) (nn : Nat → Nat) (sb : Nat) (k : Nat) (wr : World) (aa : Nat → AP) : Prop where
  b : Below SB W wr
  z : SB + 4 ≤ wr.heap.size
  sc : ScAt wr SB w0 w1 r0 r1 p N c
  ak : SA.Ask (SB + 1) wr
  pa : wr.heap[SB + 2]? = some (.cells #[pv 0, pv 1] 103 (0, 0))
  qa : wr.heap[SB + 3]? = some (.cells #[qv 0, qv 1] 104 (0, 0))
  pr : ∀ j, j < 2 → (badP (sel w0 w1 j) (sel r0 r1 j) ∧ qv j = .pointer none) ∨ (¬ badP (sel w0 w1 j) (sel r0 r1 j) ∧ sel w0 w1 j = (nn j : Int) ∧ pv j = .pointer (some ⟨(aa j).hb, 0, none⟩) ∧ qv j = .pointer (some ⟨(aa j).qb, 0, none⟩) ∧ O3 (nn j) (sel r0 r1 j) (cvA (SB + 1)) true (SB + 4) wr (aa j) ∧ RA (nn j) (sel r0 r1 j) (aa j) k ∧ (aa j).m ≤ 4 * k ∧ (aa j).sb = sb)
  eq : ∀ i j, i < 2 → j < 2 → ¬ badP (sel w0 w1 i) (sel r0 r1 i) → ¬ badP (sel w0 w1 j) (sel r0 r1 j) → (aa j).V = (aa i).V ∧ (aa j).m = (aa i).m
  cr : ∀ i j, i < 2 → j < 2 → i ≠ j → ¬ badP (sel w0 w1 i) (sel r0 r1 i) → ¬ badP (sel w0 w1 j) (sel r0 r1 j) → ∀ k, f2 (nn i) (aa i) k → ¬ f2 (nn j) (aa j) k
theorem LQ.later {W : World} {SB : Nat} {w0 w1 r0 r1 : Int} {p : Option Addr} {N c : Nat} {pv qv : Nat → Value} {nn : Nat → Nat} {sb : Nat} {k : Nat} {wr w : World} {aa : Nat → AP} (h : LQ W SB w0 w1 r0 r1 p N c pv qv nn sb k wr aa) (hb : Below wr.heap.size wr w) : LQ W SB w0 w1 r0 r1 p N c pv qv nn sb k w aa := ⟨h.b.trans (hb.mono (by have := h.z; omega)), Nat.le_trans h.z hb.size, (hb.block _ (lt_of_block h.sc)).trans h.sc, by obtain ⟨z, hz⟩ := h.ak; exact ⟨z, (hb.block _ (lt_of_block hz)).trans hz⟩, (hb.block _ (lt_of_block h.pa)).trans h.pa, (hb.block _ (lt_of_block h.qa)).trans h.qa, fun j hj => by
  rcases h.pr j hj with h1 | ⟨h1, h2, h3, h4, h5, h6⟩
  · exact .inl h1
  · exact .inr ⟨h1, h2, h3, h4, h5.below hb, h6⟩, h.eq, h.cr⟩
theorem LQ.up {W : World} {SB : Nat} {w0 w1 r0 r1 : Int} {p : Option Addr} {N c : Nat} {pv qv : Nat → Value} {nn : Nat → Nat} {sb : Nat} {k : Nat} {wr : World} {aa : Nat → AP} (h : LQ W SB w0 w1 r0 r1 p N c pv qv nn sb k wr aa) : LQ W SB w0 w1 r0 r1 p N c pv qv nn sb (k + 1) wr aa := ⟨h.b, h.z, h.sc, h.ak, h.pa, h.qa, fun j hj => by
  rcases h.pr j hj with h1 | ⟨h1, h2, h3, h4, h5, h6, h7, h8⟩
  · exact .inl h1
  · exact .inr ⟨h1, h2, h3, h4, h5, ⟨h6.re.up, h6.e1, h6.e2⟩, by omega, h8⟩, h.eq, h.cr⟩
/-- the shelf is laid beside the pairs -/
theorem LQ.start {W : World} {SB : Nat} {w0 w1 r0 r1 : Int} {p : Option Addr} {N c : Nat} {wr : World} {pv qv : Nat → Value} {nn : Nat → Nat} {aa : Nat → AP} (h : LP W SB w0 w1 r0 r1 p N c 2 wr pv qv nn aa) : ∃ aa', LQ W SB w0 w1 r0 r1 p N c pv qv nn wr.heap.size 0 (wr.alloc (.cells #[.slice none 0 0, .slice none 0 0, .slice none 0 0, .slice none 0 0] 65)) aa' := by
  have hb : Below wr.heap.size wr (wr.alloc (.cells #[.slice none 0 0, .slice none 0 0, .slice none 0 0, .slice none 0 0] 65)) := (Below.refl _ wr).alloc (Nat.le_refl _) _
  have h2 := h.later hb
  have hs : ∀ k, FS wr.heap.size V0 k → k = wr.heap.size := fun k hk => by
    rcases hk with hk | ⟨i, _, hk⟩
    · exact hk
    · simp [V0, Value.ownBlock] at hk
  refine ⟨fun j => { aa j with sb := wr.heap.size, V := V0, m := 0 }, h2.b, h2.z, h2.sc, ⟨0, h2.ak⟩, h2.pa, h2.qa, fun j hj => ?_, fun _ _ _ _ _ _ => ⟨rfl, rfl⟩, fun i j hi hj hij b1 b2 k f1 f3 => ?_⟩
  · rcases h.pr j hj with ⟨h3, _, h5⟩ | ⟨h3, h4, h5, h6, h7, h8, h9, h10⟩
    · exact .inl ⟨h3, h5⟩
    · refine .inr ⟨h3, h4, h5, h6, ⟨h7.later hb, h8.later hb, sh_new wr (SB + 4) h.z, h9, fun k f1 f3 => ?_, fun k f1 f3 => ?_, Nat.le_trans h.z hb.size⟩, ⟨h10.re, h10.e1, h10.e2⟩, Nat.zero_le _, rfl⟩
      · have e1 := (h7.foot f1).2
        have e2 := hs k f3
        omega
      · have e1 := (h8.foot f1).2
        have e2 := hs k f3
        omega
  · rcases Nat.lt_or_ge i j with h3 | h3
    · exact h.cr i j h3 hj b1 b2 k f1 f3
    · exact h.cr j i (by omega) hi b2 b1 k f3 f1
/-- a call on one pair -/
theorem LQ.step {W : World} {SB : Nat} {w0 w1 r0 r1 : Int} {p : Option Addr} {N c : Nat} {pv qv : Nat → Value} {nn : Nat → Nat} {sb : Nat} {k : Nat} {w w' : World} {aa : Nat → AP} (h : LQ W SB w0 w1 r0 r1 p N c pv qv nn sb k w aa) (e : Nat) (he : e < 2) (hg : ¬ badP (sel w0 w1 e) (sel r0 r1 e)) (hbl : BlA (fun k => k = SB + 1) (SB + 4) w w') (hak : SA.Ask (SB + 1) w') (a' : AP) (ho : O3 (nn e) (sel r0 r1 e) (cvA (SB + 1)) true (SB + 4) w' a') (st : St (nn e) (fun k => k = SB + 1) 4 w w' (aa e) a') (hr : RA (nn e) (sel r0 r1 e) a' (k + 1)) : ∃ aa', LQ W SB w0 w1 r0 r1 p N c pv qv nn sb (k + 1) w' aa' := by
  have hX : ∀ k, (fun k => k = SB + 1) k → k < SB + 4 := fun k hk => by have : k = SB + 1 := hk; omega
  rcases h.pr e he with ⟨h1, _⟩ | ⟨_, p2, p3, p4, p5, p6, p7, p8⟩
  · exact absurd h1 hg
  have oth : ∀ j, j < 2 → j ≠ e → ¬ badP (sel w0 w1 j) (sel r0 r1 j) → O3 (nn j) (sel r0 r1 j) (cvA (SB + 1)) true (SB + 4) w' { aa j with V := a'.V, m := a'.m } ∧ (∀ k, f2 (nn e) a' k → ¬ f2 (nn j) { aa j with V := a'.V, m := a'.m } k) := fun j hj hne hb => by
    rcases h.pr j hj with ⟨h1, _⟩ | ⟨_, q2, q3, q4, q5, q6, q7, q8⟩
    · exact absurd h1 hb
    exact O3.other hX p5 q5 ⟨q8.trans p8.symm, (h.eq e j he hj hg hb).1, (h.eq e j he hj hg hb).2⟩ (h.cr e j he hj (Ne.symm hne) hg hb) ho st
  refine ⟨fun j => if j = e then a' else { aa j with V := a'.V, m := a'.m }, ⟨hbl.os.trans h.b.os, hbl.tape.trans h.b.tape, hbl.output.trans h.b.output, Nat.le_trans h.b.size hbl.size, fun k hk => (hbl.block k (by omega) (fun e => by have : k = SB + 1 := e; omega)).trans (h.b.block k hk)⟩, Nat.le_trans h.z hbl.size, (hbl.block SB (by omega) (fun e => by have : SB = SB + 1 := e; omega)).trans h.sc, hak, (hbl.block (SB + 2) (by omega) (fun e => by have : SB + 2 = SB + 1 := e; omega)).trans h.pa, (hbl.block (SB + 3) (by omega) (fun e => by have : SB + 3 = SB + 1 := e; omega)).trans h.qa, fun j hj => ?_, fun i j hi hj b1 b2 => ?_, fun i j hi hj hij b1 b2 k f1 f3 => ?_⟩
  · by_cases ej : j = e
    · subst ej
      refine .inr ⟨hg, p2, ?_, ?_, ?_, ?_, ?_, ?_⟩
      · simp only [if_true]; rw [st.i1]; exact p3
      · simp only [if_true]; rw [st.i2]; exact p4
      · simp only [if_true]; exact ho
      · simp only [if_true]; exact hr
      · simp only [if_true]; have := st.i4; omega
      · simp only [if_true]; rw [st.i3]; exact p8
    · rcases h.pr j hj with h1 | ⟨q1, q2, q3, q4, q5, q6, q7, q8⟩
      · exact .inl h1
      · refine .inr ⟨q1, q2, ?_, ?_, ?_, ?_, ?_, ?_⟩
        · simp only [if_neg ej]; exact q3
        · simp only [if_neg ej]; exact q4
        · simp only [if_neg ej]; exact (oth j hj ej q1).1
        · simp only [if_neg ej]; exact q6.up _ _
        · simp only [if_neg ej]; have e4 := st.i4; show a'.m ≤ 4 * (k + 1); omega
        · simp only [if_neg ej]; exact q8
  · have key : ∀ j, ((if j = e then a' else { aa j with V := a'.V, m := a'.m } : AP)).V = a'.V ∧ ((if j = e then a' else { aa j with V := a'.V, m := a'.m } : AP)).m = a'.m := fun j => by
      by_cases ej : j = e
      · rw [if_pos ej]; exact ⟨rfl, rfl⟩
      · rw [if_neg ej]; exact ⟨rfl, rfl⟩
    exact ⟨(key j).1.trans (key i).1.symm, (key j).2.trans (key i).2.symm⟩
  · by_cases ei : i = e
    · subst ei
      simp only [if_true] at f1
      simp only [if_neg (Ne.symm hij)] at f3
      exact (oth j hj (Ne.symm hij) b2).2 k f1 f3
    · simp only [if_neg ei] at f1
      by_cases ej : j = e
      · subst ej
        simp only [if_true] at f3
        exact (oth i hi ei b1).2 k f3 f1
      · omega
end Go.Proofs.Ytoihddhjpbahlaa
