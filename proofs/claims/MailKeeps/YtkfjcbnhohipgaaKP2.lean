import Derived.Test.YtkfjcbnhohipgaaKP1
import Derived.BigQuiet
import Derived.Deep.RegionLaw
import Derived.Deep.RegionHeld3
import Derived.Deep.Cut
import Derived.Deep.DeepCutAuto
import Derived.Deep.CutBlock
import Derived.Deep.CutRange
import Derived.Deep.AppendLies
import Derived.Handy
import Derived.Lib.RabinKarpLaws
namespace Go.Proofs.Ytkfjcbnhohipgaa
open Go.ChangeShapes Go.WideShapes Go.ChangeAt Go.RowKit
set_option linter.unusedVariables false
set_option linter.unusedSimpArgs false


theorem own_setF {W : World} {B g n c : Nat} {G : Nat → Ft} (h : Own W B 56 6 (.slice (some ⟨g, 0, none⟩) n c) n (ftF G)) (i r : Nat) (hr : r < 6) (g' : Ft) (v : Value) (hv : ftV g' r = v) (ho : ∀ k, k < 6 → k ≠ r → ftV g' k = ftV (G i) k) : Own (W.setCell ⟨g, i * 6 + r, none⟩ v) B 56 6 (.slice (some ⟨g, 0, none⟩) n c) n (ftF (setG G i g')) := by
  refine Own.congr (h.put (i * 6 + r) [v]) fun j hj => ?_
  unfold putF ftF
  simp only [List.length_singleton]
  by_cases e : j = i * 6 + r
  · subst e
    rw [if_pos (by omega), show i * 6 + r - (i * 6 + r) = 0 by omega, show (i * 6 + r) / 6 = i by omega, show (i * 6 + r) % 6 = r by omega, setG_at, hv]
    rfl
  · rw [if_neg (by omega)]
    by_cases e2 : j / 6 = i
    · rw [e2, setG_at]
      exact (ho (j % 6) (by omega) (by omega)).symm
    · rw [setG_ne _ _ e2]
theorem own_setF6 {W : World} {B g n c : Nat} {G : Nat → Ft} (h : Own W B 56 6 (.slice (some ⟨g, 0, none⟩) n c) n (ftF G)) (i : Nat) (a b p : Int) (s k : Bool) (m : Int) : Own (W.setCells g (i * 6) [.int .i64 a, .int .i64 b, .int .i64 p, .bool s, .bool k, .int .i64 m]) B 56 6 (.slice (some ⟨g, 0, none⟩) n c) n (ftF (setG G i ⟨a, b, p, s, k, m⟩)) := by
  refine Own.congr (h.put (i * 6) [.int .i64 a, .int .i64 b, .int .i64 p, .bool s, .bool k, .int .i64 m]) fun j hj => ?_
  unfold putF ftF
  simp only [List.length_cons, List.length_nil]
  by_cases e : j / 6 = i
  · rw [if_pos (by omega), e, setG_at]
    obtain ⟨r, hr, rfl⟩ : ∃ r, r < 6 ∧ j = i * 6 + r := ⟨j % 6, by omega, by omega⟩
    rw [show i * 6 + r - i * 6 = r by omega, show (i * 6 + r) % 6 = r by omega]
    rcases (by omega : r = 0 ∨ r = 1 ∨ r = 2 ∨ r = 3 ∨ r = 4 ∨ r = 5) with rfl | rfl | rfl | rfl | rfl | rfl <;> rfl
  · rw [if_neg (by omega), setG_ne _ _ e]
theorem cntF_le (P : Ft → Bool) (G : Nat → Ft) : ∀ n, cntF P G n ≤ n
  | 0 => Nat.le_refl _
  | n + 1 => by
    have := cntF_le P G n
    show cntF P G n + one (P (G n)) ≤ n + 1
    unfold one
    split <;> omega
theorem cntF_yes {P : Ft → Bool} {G : Nat → Ft} {n : Nat} (h : P (G n) = true) : cntF P G (n + 1) = cntF P G n + 1 := by show cntF P G n + one (P (G n)) = _; rw [h]; rfl
theorem cntF_no {P : Ft → Bool} {G : Nat → Ft} {n : Nat} (h : P (G n) = false) : cntF P G (n + 1) = cntF P G n := by show cntF P G n + one (P (G n)) = _; rw [h]; rfl
set_option maxRecDepth 100000 in
set_option maxHeartbeats 8000000 in
theorem lying_any (a b lo hi : Int) (B fb N : Nat) (G : Nat → Ft) (W : World) (h : Own W B 56 6 (.slice (some ⟨fb, 0, none⟩) N N) N (ftF G)) (hN : N * 40 ≤ 140737488351232) : Calls Try.prog 24 #[.slice (some ⟨fb, 0, none⟩) N N, .int .i64 a, .int .i64 b, .int .i64 lo, .int .i64 hi] W fun e W' => e = .returned (.int .i64 (cntF (lyP a b lo hi) G N : Nat)) ∧ Below W.heap.size W W' := by
  have HH := mhid (And.intro h hN)
  clear h hN
  go_enter Try.func24, Try.ntmps24
  go_wp2_with fail
  go_loopw [11, 12] (fun x y wr => ∃ i m : Nat, y = .int .i64 (i : Int) ∧ x = .int .i64 (m : Int) ∧ i ≤ N ∧ cntF (lyP a b lo hi) G i = m ∧ Below W.heap.size W wr) (fun _ y _ => N - (intOf y).toNat)
  case atStart => exact ⟨0, 0, rfl, rfl, Nat.zero_le _, rfl, Below.refl _ _⟩
  case round =>
    obtain ⟨i, m, rfl, rfl, hi9, hm, hbr⟩ := hrel
    have HB := mhid (And.intro hbr hm)
    by_cases hlt : i < N
    · have dl : decide ((i : Int) < (N : Int)) = true := by simp; omega
      have dln : decide (i < N) = true := by simp; omega
      have hme := meas hlt
      have hle := cntF_le (lyP a b lo hi) G i
      have hN := HH.out.2
      have ek : IntKind.i64.wrap ((i : Int) + 1) = (i : Int) + 1 := by rw [IntKind.wrap_i64]; omega
      have em : IntKind.i64.wrap ((m : Int) + 1) = (m : Int) + 1 := by rw [IntKind.wrap_i64]; omega
      have k0 : (0 : Int) ≤ (i : Int) := by omega
      have k1 : (i : Int) < (N : Int) := by omega
      have ho := HH.out.1.later hbr
      obtain ⟨c0, c1, c2, c3, c4, c5⟩ := ftc ho hlt
      obtain ⟨⟨f, t, p, s, k, cc⟩, hg⟩ : ∃ g, G i = g := ⟨_, rfl⟩
      rw [hg] at c0 c1 c2 c3 c4 c5
      simp only at c0 c1 c2 c3 c4 c5
      have hb2 : Below W.heap.size W (wr.alloc (.cells #[.int .i64 f, .int .i64 t, .int .i64 p, .bool s, .bool k, .int .i64 cc] 56)) := hbr.alloc hbr.size _
      have NO : Hid (lyP a b lo hi ⟨f, t, p, s, k, cc⟩ = false → (∃ i' m' : Nat, Value.int .i64 ((i : Int) + 1) = .int .i64 (i' : Int) ∧ Value.int .i64 (m : Int) = .int .i64 (m' : Int) ∧ i' ≤ N ∧ cntF (lyP a b lo hi) G i' = m' ∧ Below W.heap.size W (wr.alloc (.cells #[.int .i64 f, .int .i64 t, .int .i64 p, .bool s, .bool k, .int .i64 cc] 56)))) := fun h9 => ⟨i + 1, m, rfl, rfl, hlt, by rw [cntF_no (by rw [hg]; exact h9)]; exact hm, hb2⟩
      have YES : Hid (lyP a b lo hi ⟨f, t, p, s, k, cc⟩ = true → (∃ i' m' : Nat, Value.int .i64 ((i : Int) + 1) = .int .i64 (i' : Int) ∧ Value.int .i64 ((m : Int) + 1) = .int .i64 (m' : Int) ∧ i' ≤ N ∧ cntF (lyP a b lo hi) G i' = m' ∧ Below W.heap.size W (wr.alloc (.cells #[.int .i64 f, .int .i64 t, .int .i64 p, .bool s, .bool k, .int .i64 cc] 56)))) := fun h9 => ⟨i + 1, m + 1, rfl, rfl, hlt, by rw [cntF_yes (by rw [hg]; exact h9), hm], hb2⟩
      clear hbr hm hlt hi9 hle hN ho hg hb2
      cases s
      case false =>
        have LY : lyP a b lo hi ⟨f, t, p, false, k, cc⟩ = false := by simp [lyP, lyB]
        go_wp2_with fail
        exact ⟨NO.out LY, hme⟩
      case true =>
      cases k
      case true =>
        have LY : lyP a b lo hi ⟨f, t, p, true, true, cc⟩ = false := by simp [lyP, lyB]
        go_wp2_with fail
        exact ⟨NO.out LY, hme⟩
      case false =>
      by_cases gc : cc = 0
      · have hc : (cc == 0) = true := by simpa using gc
        by_cases xA : a < 0
        · have yA : decide (a < 0) = true := by simpa using xA
          by_cases xB : b < 0
          · have yB : decide (b < 0) = true := by simpa using xB
            by_cases g1 : lo ≤ p
            · have h1 : decide (lo ≤ p) = true := by simpa using g1
              by_cases g2 : p ≤ hi
              · have h2 : decide (p ≤ hi) = true := by simpa using g2
                have LY : lyP a b lo hi ⟨f, t, p, true, false, cc⟩ = true := by simp [lyP, lyB, gc, xA, xB, g1, g2]
                clear g1 g2 gc xA xB
                go_wp2_with fail
                exact ⟨YES.out LY, hme⟩
              · have h2 : decide (p ≤ hi) = false := by simpa using g2
                have LY : lyP a b lo hi ⟨f, t, p, true, false, cc⟩ = false := by simp [lyP, lyB, gc, xA, xB, g2]
                clear g1 g2 gc xA xB
                go_wp2_with fail
                exact ⟨NO.out LY, hme⟩
            · have h1 : decide (lo ≤ p) = false := by simpa using g1
              have LY : lyP a b lo hi ⟨f, t, p, true, false, cc⟩ = false := by simp [lyP, lyB, gc, xA, xB, g1]
              clear g1 gc xA xB
              go_wp2_with fail
              exact ⟨NO.out LY, hme⟩
          · have yB : decide (b < 0) = false := by simpa using xB
            by_cases uB : t = b
            · have zB : (t == b) = true := by simpa using uB
              by_cases g1 : lo ≤ p
              · have h1 : decide (lo ≤ p) = true := by simpa using g1
                by_cases g2 : p ≤ hi
                · have h2 : decide (p ≤ hi) = true := by simpa using g2
                  have LY : lyP a b lo hi ⟨f, t, p, true, false, cc⟩ = true := by simp [lyP, lyB, gc, xA, uB, g1, g2]
                  clear g1 g2 gc xA uB xB
                  go_wp2_with fail
                  exact ⟨YES.out LY, hme⟩
                · have h2 : decide (p ≤ hi) = false := by simpa using g2
                  have LY : lyP a b lo hi ⟨f, t, p, true, false, cc⟩ = false := by simp [lyP, lyB, gc, xA, uB, g2]
                  clear g1 g2 gc xA uB xB
                  go_wp2_with fail
                  exact ⟨NO.out LY, hme⟩
              · have h1 : decide (lo ≤ p) = false := by simpa using g1
                have LY : lyP a b lo hi ⟨f, t, p, true, false, cc⟩ = false := by simp [lyP, lyB, gc, xA, uB, g1]
                clear g1 gc xA uB xB
                go_wp2_with fail
                exact ⟨NO.out LY, hme⟩
            · have zB : (t == b) = false := by simpa using uB
              have LY : lyP a b lo hi ⟨f, t, p, true, false, cc⟩ = false := by simp [lyP, lyB, gc, xA, xB, uB]
              clear gc xA uB xB
              go_wp2_with fail
              exact ⟨NO.out LY, hme⟩
        · have yA : decide (a < 0) = false := by simpa using xA
          by_cases uA : f = a
          · have zA : (f == a) = true := by simpa using uA
            by_cases xB : b < 0
            · have yB : decide (b < 0) = true := by simpa using xB
              by_cases g1 : lo ≤ p
              · have h1 : decide (lo ≤ p) = true := by simpa using g1
                by_cases g2 : p ≤ hi
                · have h2 : decide (p ≤ hi) = true := by simpa using g2
                  have LY : lyP a b lo hi ⟨f, t, p, true, false, cc⟩ = true := by simp [lyP, lyB, gc, uA, xB, g1, g2]
                  clear g1 g2 gc uA xA xB
                  go_wp2_with fail
                  exact ⟨YES.out LY, hme⟩
                · have h2 : decide (p ≤ hi) = false := by simpa using g2
                  have LY : lyP a b lo hi ⟨f, t, p, true, false, cc⟩ = false := by simp [lyP, lyB, gc, uA, xB, g2]
                  clear g1 g2 gc uA xA xB
                  go_wp2_with fail
                  exact ⟨NO.out LY, hme⟩
              · have h1 : decide (lo ≤ p) = false := by simpa using g1
                have LY : lyP a b lo hi ⟨f, t, p, true, false, cc⟩ = false := by simp [lyP, lyB, gc, uA, xB, g1]
                clear g1 gc uA xA xB
                go_wp2_with fail
                exact ⟨NO.out LY, hme⟩
            · have yB : decide (b < 0) = false := by simpa using xB
              by_cases uB : t = b
              · have zB : (t == b) = true := by simpa using uB
                by_cases g1 : lo ≤ p
                · have h1 : decide (lo ≤ p) = true := by simpa using g1
                  by_cases g2 : p ≤ hi
                  · have h2 : decide (p ≤ hi) = true := by simpa using g2
                    have LY : lyP a b lo hi ⟨f, t, p, true, false, cc⟩ = true := by simp [lyP, lyB, gc, uA, uB, g1, g2]
                    clear g1 g2 gc uA xA uB xB
                    go_wp2_with fail
                    exact ⟨YES.out LY, hme⟩
                  · have h2 : decide (p ≤ hi) = false := by simpa using g2
                    have LY : lyP a b lo hi ⟨f, t, p, true, false, cc⟩ = false := by simp [lyP, lyB, gc, uA, uB, g2]
                    clear g1 g2 gc uA xA uB xB
                    go_wp2_with fail
                    exact ⟨NO.out LY, hme⟩
                · have h1 : decide (lo ≤ p) = false := by simpa using g1
                  have LY : lyP a b lo hi ⟨f, t, p, true, false, cc⟩ = false := by simp [lyP, lyB, gc, uA, uB, g1]
                  clear g1 gc uA xA uB xB
                  go_wp2_with fail
                  exact ⟨NO.out LY, hme⟩
              · have zB : (t == b) = false := by simpa using uB
                have LY : lyP a b lo hi ⟨f, t, p, true, false, cc⟩ = false := by simp [lyP, lyB, gc, uA, xB, uB]
                clear gc uA xA uB xB
                go_wp2_with fail
                exact ⟨NO.out LY, hme⟩
          · have zA : (f == a) = false := by simpa using uA
            have LY : lyP a b lo hi ⟨f, t, p, true, false, cc⟩ = false := by simp [lyP, lyB, gc, xA, uA]
            clear gc uA xA
            go_wp2_with fail
            exact ⟨NO.out LY, hme⟩
      · have hc : (cc == 0) = false := by simpa using gc
        have LY : lyP a b lo hi ⟨f, t, p, true, false, cc⟩ = false := by simp [lyP, lyB, gc]
        clear gc
        go_wp2_with fail
        exact ⟨NO.out LY, hme⟩
    · have dl : decide ((i : Int) < (N : Int)) = false := by simp; omega
      have dln : decide (i < N) = false := by simp; omega
      obtain rfl : N = i := by omega
      clear hbr hm hlt hi9
      go_wp2_with fail
      go_ret
      have e9 := HB.out.2
      refine ⟨?_, HB.out.1⟩
      subst e9
      simp [Act.eval, Act.put]
theorem CA.zero (G : Nat → Ft) (d : Nat → Int × Int) : CA G d 0 G := fun s => ⟨fun ⟨i, h, _⟩ => absurd h (Nat.not_lt_zero _), fun _ => rfl⟩
theorem CA.step {G Gi : Nat → Ft} {d : Nat → Int × Int} {i n : Nat} (h : CA G d i Gi) (hn : (d i).2 = (n : Int)) : CA G d (i + 1) (setG Gi n { G n with c := 1 }) := fun s => by
  by_cases e : s = n
  · subst e
    rw [setG_at]
    exact ⟨fun _ => rfl, fun h1 => absurd ⟨i, Nat.lt_succ_self _, hn⟩ h1⟩
  · rw [setG_ne _ _ e]
    refine ⟨fun ⟨j, h1, h2⟩ => (h s).1 ⟨j, ?_, h2⟩, fun h1 => (h s).2 fun ⟨j, h2, h3⟩ => h1 ⟨j, by omega, h3⟩⟩
    rcases Nat.lt_or_eq_of_le (Nat.le_of_lt_succ h1) with h3 | h3
    · exact h3
    · subst h3; omega
/-- each thing that came was sent, lies, and no other has its number -/
structure DG (G : Nat → Ft) (d : Nat → Int × Int) (N S : Nat) (dst z : Int) : Prop where
  h : ∀ i, i < S → ∃ n : Nat, (d i).2 = (n : Int) ∧ n < N ∧ (G n).s = true ∧ (G n).b = false ∧ (G n).t = dst ∧ (G n).p = z ∧ (G n).c = 0
  d : ∀ p q, p < S → q < S → p ≠ q → (d p).2 ≠ (d q).2
set_option maxRecDepth 100000 in
set_option maxHeartbeats 8000000 in
theorem came_any (B B2 fb N S : Nat) (q : Option Addr) (c : Nat) (G : Nat → Ft) (d : Nat → Int × Int) (dst z : Int) (W : World) (h : Own W B 56 6 (.slice (some ⟨fb, 0, none⟩) N N) N (ftF G)) (ho : Own W B2 31 2 (.slice q S c) S (thF d)) (hg : DG G d N S dst (IntKind.i64.wrap (z - 1))) (hS : S ≤ 1000000) : Calls Try.prog 23 #[.slice (some ⟨fb, 0, none⟩) N N, .slice q S c, .int .i64 dst, .int .i64 z] W fun e W' => e = .returned (.bool true) ∧ BlA (fun k => k = fb) W.heap.size W W' ∧ W'.heap.size = W.heap.size ∧ ∃ G', Own W' B 56 6 (.slice (some ⟨fb, 0, none⟩) N N) N (ftF G') ∧ CA G d S G' := by
  have HH := mhid (And.intro h (And.intro ho (And.intro hg hS)))
  obtain ⟨zz, hzz⟩ : ∃ zz, IntKind.i64.wrap (z - 1) = zz := ⟨_, rfl⟩
  have HZ := mhid hzz
  clear h ho hg hS
  go_enter Try.func23, Try.ntmps23
  go_wp2_with fail
  go_loopw [9] (fun y wr => ∃ (i : Nat) (Gi : Nat → Ft), y = .int .i64 (i : Int) ∧ i ≤ S ∧ Own wr B 56 6 (.slice (some ⟨fb, 0, none⟩) N N) N (ftF Gi) ∧ CA G d i Gi ∧ BlA (fun k => k = fb) W.heap.size W wr ∧ wr.heap.size = W.heap.size) (fun y _ => S - (intOf y).toNat)
  case atStart => exact ⟨0, G, rfl, Nat.zero_le _, HH.out.1, CA.zero _ _, ⟨rfl, rfl, rfl, Nat.le_refl _, fun _ _ _ => rfl⟩, rfl⟩
  case round =>
    obtain ⟨i, Gi, rfl, hi9, how, hca, hbl, hsz⟩ := hrel
    by_cases hlt : i < S
    · have dl : decide ((i : Int) < (S : Int)) = true := by simp; omega
      have dln : decide (i < S) = true := by simp; omega
      have hme := meas hlt
      have hS := HH.out.2.2.2
      have ek : IntKind.i64.wrap ((i : Int) + 1) = (i : Int) + 1 := by rw [IntKind.wrap_i64]; omega
      have k0 : (0 : Int) ≤ (i : Int) := by omega
      have k1 : (i : Int) < (S : Int) := by omega
      obtain ⟨n, en, hn, g1, g2, g3, g4, g5⟩ := HH.out.2.2.1.h i hlt
      have hGn : Gi n = G n := (hca n).2 fun ⟨j, h1, h2⟩ => HH.out.2.2.1.d j i (by omega) hlt (by omega) (by rw [h2, en])
      have hod : Own wr B2 31 2 (.slice q S c) S (thF d) := HH.out.2.1.far fun k hk => by
        have h1 := HH.out.2.1.lt k hk
        refine hbl.block k h1.2 fun e => ?_
        have e2 : k = fb := e
        subst e2
        exact HH.out.2.1.clash HH.out.1 (by decide) hk rfl
      rcases hod.form with ⟨h1, h2⟩ | ⟨g, c', h1, _⟩
      · omega
      injection h1 with h1 _ h1c
      subst h1 h1c
      have hgf : g ≠ fb := fun e => by subst e; exact hod.clash how (by decide) rfl rfl
      have y1 := hod.cell (j := i * 2 + 1) (by omega)
      unfold thF at y1
      rw [if_neg (by omega), show (i * 2 + 1) / 2 = i by omega, en] at y1
      obtain ⟨c0, c1, c2, c3, c4, c5⟩ := ftc how hn
      rw [hGn] at c0 c1 c2 c3 c4 c5
      rw [g3] at c1
      rw [g4, HZ.out] at c2
      rw [g1] at c3
      rw [g2] at c4
      rw [g5] at c5
      have fz : wr.frozen? ⟨fb, n * 6 + 5, none⟩ = false := by obtain ⟨cr, hcr, _⟩ := how.block; exact frz hcr _
      have n0 : (0 : Int) ≤ (n : Int) := by omega
      have n1 : (n : Int) < (N : Int) := by omega
      have d0 : decide ((n : Int) < 0) = false := by simp
      have d1 : decide ((N : Int) ≤ (n : Int)) = false := by simp; omega
      have d1n : decide (N ≤ n) = false := by simp; omega
      have q1 : (dst != dst) = false := by simp
      have q2 : (zz != zz) = false := by simp
      have ow2 := own_setF how n 5 (by decide) { G n with c := 1 } (.int .i64 1) rfl (fun k hk hk5 => by
        rw [hGn]
        rcases (by omega : k = 0 ∨ k = 1 ∨ k = 2 ∨ k = 3 ∨ k = 4) with rfl | rfl | rfl | rfl | rfl <;> rfl)
      have bl2 : BlA (fun k => k = fb) W.heap.size W (wr.setCell ⟨fb, n * 6 + 5, none⟩ (.int .i64 1)) := ⟨hbl.os, hbl.tape, hbl.output, by simpa [World.setCell] using hbl.size, fun k hk hne => (Below.heap_setCell _ _ _ _ hne).trans (hbl.block k hk hne)⟩
      have sz2 : (wr.setCell ⟨fb, n * 6 + 5, none⟩ (.int .i64 1)).heap.size = W.heap.size := by simpa [World.setCell] using hsz
      have FIN := mhid (And.intro ow2 (And.intro (hca.step en) (And.intro bl2 sz2)))
      have HLT := mhid hlt
      clear how hca hbl hsz hi9 hlt hS en hn g1 g2 g3 g4 g5 hGn hod hgf ow2 bl2 sz2
      go_wp2_with fail
      exact ⟨⟨i + 1, _, rfl, HLT.out, FIN.out.1, FIN.out.2.1, FIN.out.2.2.1, FIN.out.2.2.2⟩, hme⟩
    · have dl : decide ((i : Int) < (S : Int)) = false := by simp; omega
      have dln : decide (i < S) = false := by simp; omega
      obtain rfl : S = i := by omega
      have FIN := mhid (And.intro hbl (And.intro hsz (And.intro how hca)))
      clear how hca hbl hsz hi9 hlt
      go_wp2_with fail
      go_ret
      exact ⟨rfl, FIN.out.1, FIN.out.2.1, Gi, FIN.out.2.2.1, FIN.out.2.2.2⟩
end Go.Proofs.Ytkfjcbnhohipgaa
