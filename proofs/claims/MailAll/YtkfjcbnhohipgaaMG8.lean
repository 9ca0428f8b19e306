import Derived.Test.YtkfjcbnhohipgaaMG7
import Derived.BigQuiet
import Derived.Deep.RegionLaw
import Derived.Deep.RegionHeld3
import Derived.Deep.Cut
import Derived.Deep.DeepCutAuto
import Derived.Deep.CutBlock
import Derived.Deep.CutRange
import Derived.Deep.AppendLies
import Derived.Handy
import Derived.Lib.RabinKarpLaws
namespace Go.Proofs.Ytkfjcbnhohipgaa
open Go.ChangeShapes Go.WideShapes Go.ChangeAt Go.RowKit
set_option linter.unusedVariables false
set_option linter.unusedSimpArgs false


variable {n : Nat} {room : Int} {cmp : Value} {srt : Bool} {B : Nat} {X : Nat → Prop}
theorem St.trans {c1 c2 : Nat} {W1 W2 W3 : World} {a b c : AP} (h1 : St n X c1 W1 W2 a b) (h2 : St n X c2 W2 W3 b c) : St n X (c1 + c2) W1 W3 a c := ⟨fun k k1 k2 k3 => (h2.kk k (Nat.lt_of_lt_of_le k1 h1.sz) (fun h => by rcases h1.gr k h with h | h; exact k2 h; omega) k3).trans (h1.kk k k1 k2 k3), fun k hk => by
  rcases h2.gr k hk with h | h
  · exact h1.gr k h
  · exact .inr (Nat.le_trans h1.sz h), Nat.le_trans h1.sz h2.sz, h2.i1.trans h1.i1, h2.i2.trans h1.i2, h2.i3.trans h1.i3, by have e1 := h1.i4; have e2 := h2.i4; omega⟩
set_option maxRecDepth 100000 in
set_option maxHeartbeats 8000000 in
theorem answer_any (a : AP) (t : Nat) (hn : n ≤ 64) (ht : t ≤ 1000) (hm : a.m ≤ 10000) (hroom : 1 ≤ room ∧ room ≤ 1024) (hX : ∀ k, X k → k < B) (hr : RA n room a t) {lt : Int × Int → Int × Int → Bool} {J : World → Prop} (hlt : ∀ a b, lt a b = (srt && decide (a.1 < b.1))) (hso : Sorts cmp lt X J) (hJ : ∀ w w', J w → Below B w w' → J w') (op kd oa ob ok : Int) (W : World) (h : O3 n room cmp srt B W a) (hj : J W) :
    Calls Try.prog 27 #[.pointer (some ⟨a.hb, 0, none⟩), .pointer (some ⟨a.qb, 0, none⟩), .agg #[.int .i64 op, .int .i64 kd, .int .i64 oa, .int .i64 ob, .int .i64 ok], .int .i64 (t : Int), .pointer (some ⟨a.sb, 0, none⟩)] W fun e W' => e = .returned (.bool true) ∧ BlA X B W W' ∧ J W' ∧ (kd ≠ 4 → Below B W W') ∧ ∃ a', O3 n room cmp srt B W' a' ∧ St n X 4 W W' a a' ∧ RA n room a' (t + 1) := by
  obtain ⟨wz, hwz⟩ : ∃ wz, (W.alloc (.cells #[.int .i64 op, .int .i64 kd, .int .i64 oa, .int .i64 ob, .int .i64 ok] 34)).alloc (.cells #[.int .i64 ok, .int .i64 (t : Int)] 31) = wz := ⟨_, rfl⟩
  have hbz : Below W.heap.size W wz := by rw [← hwz]; exact ((Below.refl _ W).alloc (Nat.le_refl _) _).alloc (by rw [World.size_alloc]; omega) _
  obtain ⟨A0, hA0⟩ : ∃ A0, W.heap.size = A0 := ⟨_, rfl⟩
  obtain ⟨A1, hA1⟩ : ∃ A1, A0 + 1 = A1 := ⟨_, rfl⟩
  have hzs : wz.heap.size = A1 + 1 := by rw [← hwz, World.size_alloc, World.size_alloc]; omega
  have t1 : wz.heap[A1]? = some (.cells #[.int .i64 ok, .int .i64 (t : Int)] 31 (0, 0)) := by
    have := World.alloc_heap_new (W.alloc (.cells #[.int .i64 op, .int .i64 kd, .int .i64 oa, .int .i64 ob, .int .i64 ok] 34)) (.cells #[.int .i64 ok, .int .i64 (t : Int)] 31)
    rw [hwz, World.size_alloc, hA0, hA1] at this
    exact this
  have t0 : wz.heap[A0]? = some (.cells #[.int .i64 op, .int .i64 kd, .int .i64 oa, .int .i64 ob, .int .i64 ok] 34 (0, 0)) := by
    have h1 := World.alloc_heap_new W (.cells #[.int .i64 op, .int .i64 kd, .int .i64 oa, .int .i64 ob, .int .i64 ok] 34)
    have h2 := ((Below.refl _ (W.alloc (.cells #[.int .i64 op, .int .i64 kd, .int .i64 oa, .int .i64 ob, .int .i64 ok] 34))).alloc (Nat.le_refl _) (.cells #[.int .i64 ok, .int .i64 (t : Int)] 31)).block W.heap.size (by rw [World.size_alloc]; omega)
    rw [hwz] at h2
    rw [← hA0, h2]
    exact h1
  have cellsOf : ∀ w : World, w.heap[A0]? = wz.heap[A0]? → w.heap[A1]? = wz.heap[A1]? → (w.cell? ⟨A0, 2, none⟩ = some (.int .i64 oa) ∧ w.cell? ⟨A0, 3, none⟩ = some (.int .i64 ob)) ∧ (w.cell? ⟨A1, 0, none⟩ = some (.int .i64 ok) ∧ w.cell? ⟨A1, 1, none⟩ = some (.int .i64 (t : Int))) := fun w e0 e1 => by
    rw [t0] at e0
    rw [t1] at e1
    refine ⟨⟨?_, ?_⟩, ?_, ?_⟩
    · unfold World.cell?; rw [e0]; rfl
    · unfold World.cell?; rw [e0]; rfl
    · unfold World.cell?; rw [e1]; rfl
    · unfold World.cell?; rw [e1]; rfl
  have hz := h.below hbz
  have nFA : ∀ k, FA n a k → k ≠ A0 ∧ k ≠ A1 := fun k hk => by have := (FA_lt h hk).2; omega
  have nX : ¬ X A0 ∧ ¬ X A1 := ⟨fun e => by have := hX _ e; have := h.bs; omega, fun e => by have := hX _ e; have := h.bs; omega⟩
  have KEEP : Hid (∀ w9 a1, St n X 0 wz w9 a a1 → (w9.cell? ⟨A0, 2, none⟩ = some (.int .i64 oa) ∧ w9.cell? ⟨A0, 3, none⟩ = some (.int .i64 ob)) ∧ (w9.cell? ⟨A1, 0, none⟩ = some (.int .i64 ok) ∧ w9.cell? ⟨A1, 1, none⟩ = some (.int .i64 (t : Int)))) := fun w9 a1 s1 => cellsOf w9 (s1.kk A0 (by omega) (fun e => (nFA _ e).1 rfl) nX.1) (s1.kk A1 (by omega) (fun e => (nFA _ e).2 rfl) nX.2)
  have KEEP2 : Hid (∀ w9 w8 a1 a2, St n X 0 wz w9 a a1 → St n X 0 w9 w8 a1 a2 → (w8.cell? ⟨A0, 2, none⟩ = some (.int .i64 oa) ∧ w8.cell? ⟨A0, 3, none⟩ = some (.int .i64 ob)) ∧ (w8.cell? ⟨A1, 0, none⟩ = some (.int .i64 ok) ∧ w8.cell? ⟨A1, 1, none⟩ = some (.int .i64 (t : Int)))) := fun w9 w8 a1 a2 s1 s2 => by
    have n1 : ∀ k, k = A0 ∨ k = A1 → ¬ FA n a1 k := fun k hk e => by
      rcases s1.gr k e with e2 | e2
      · rcases hk with rfl | rfl
        · exact (nFA _ e2).1 rfl
        · exact (nFA _ e2).2 rfl
      · omega
    have hs := s1.sz
    exact cellsOf w8 ((s2.kk A0 (by omega) (n1 A0 (.inl rfl)) nX.1).trans (s1.kk A0 (by omega) (fun e => (nFA _ e).1 rfl) nX.1)) ((s2.kk A1 (by omega) (n1 A1 (.inr rfl)) nX.2).trans (s1.kk A1 (by omega) (fun e => (nFA _ e).2 rfl) nX.2))
  have hbzB := hbz.mono h.bs
  have FIN : Hid (∀ w9 w8 a1 a2, Below B wz w9 → Below B w9 w8 → St n X 0 wz w9 a a1 → O3 n room cmp srt B w8 a2 → St n X 0 w9 w8 a1 a2 → RA n room a2 (t + 1) → BlA X B W w8 ∧ J w8 ∧ (kd ≠ 4 → Below B W w8) ∧ ∃ a', O3 n room cmp srt B w8 a' ∧ St n X 4 W w8 a a' ∧ RA n room a' (t + 1)) := fun w9 w8 a1 a2 b9 b8 s1 o2 s2 r2 => by
    have hbb := (hbzB.trans b9).trans b8
    have s0 : St n X 0 W wz a a := St.below hbz
    have st := (s0.trans s1).trans s2
    exact ⟨BlA.of hbb, hJ _ _ hj hbb, fun _ => hbb, a2, o2, ⟨st.kk, st.gr, st.sz, st.i1, st.i2, st.i3, by have e4 := st.i4; omega⟩, r2⟩
  have FIN4 : Hid (∀ w9 w8 w7 w6, BlA X B wz w9 → J w9 → Below B w9 w8 → Below B w8 w7 → Below B w7 w6 → BlA X B W w6 ∧ J w6) := fun w9 w8 w7 w6 b9 j9 b8 b7 b6 => ⟨((((BlA.of hbzB).trans b9).trans (BlA.of b8)).trans (BlA.of b7)).trans (BlA.of b6), hJ _ _ (hJ _ _ (hJ _ _ j9 b8) b7) b6⟩
  have FIN5 : Hid (∀ w6 a', O3 n room cmp srt B w6 a' → St n X 4 wz w6 a a' → RA n room a' (t + 1) → ∃ a', O3 n room cmp srt B w6 a' ∧ St n X 4 W w6 a a' ∧ RA n room a' (t + 1)) := fun w6 a' o6 s6 r6 => by
    have s0 : St n X 0 W wz a a := St.below hbz
    have st := s0.trans s6
    exact ⟨a', o6, ⟨st.kk, st.gr, st.sz, st.i1, st.i2, st.i3, by have e4 := st.i4; omega⟩, r6⟩
  have HJZ := mhid (hJ _ _ hj hbzB)
  have HO := mhid (And.intro hz (And.intro hr hj))
  obtain ⟨⟨y2, y3⟩, u0, u1⟩ := cellsOf wz rfl rfl
  have y1 : wz.cell? ⟨A0, 1, none⟩ = some (.int .i64 kd) := by unfold World.cell?; rw [t0]; rfl
  have HWZ := mhid hwz
  have HA := mhid (And.intro hA0 hA1)
  have HR := mhid (And.intro hroom hX)
  clear h hj hbz hbzB hz nFA nX cellsOf t0 t1 hzs hwz hr
  go_enter Try.func27, Try.ntmps27
  go_upto_region 2 with fail
  rw [HWZ.out]
  clear hA0 hA1
  by_cases e1 : kd = 1
  · subst e1
    have HP := send_both (cmp := cmp) (srt := srt) (X := X) (B := B) a t hn ht HR.out.1 HR.out.2 HO.out.2.1 oa ob ok
    obtain ⟨z, HP⟩ := HP
    unfold Both at HP
    go_upto_region 4 with fail
    go_region_held3 (fun w' => (w'.cell? ⟨A0, 2, none⟩ = some (.int .i64 oa) ∧ w'.cell? ⟨A0, 3, none⟩ = some (.int .i64 ob)) ∧ (w'.cell? ⟨A1, 0, none⟩ = some (.int .i64 ok) ∧ w'.cell? ⟨A1, 1, none⟩ = some (.int .i64 (t : Int)))) (first | exact s6 | go_keep) ((first | (go_at_call 15; (with_reducible refine (HP _ ?_).mono ?_); (first | exact HO.out.1 | exact HO.out.1.below (drewB _) | exact HO.out.1.below (below_drewNq _ _ _)); rintro e9 w9 ⟨rfl, b9r, a1, o1, s1r, hq⟩; have s1 : St n X 0 wz w9 a a1 := (by first | exact s1r | exact ⟨s1r.kk, s1r.gr, s1r.sz, s1r.i1, s1r.i2, s1r.i3, s1r.i4⟩); have b9 : Below B wz w9 := (by first | exact b9r | exact (below_drewNq _ _ _).trans b9r | exact ⟨b9r.os, b9r.tape, b9r.output, b9r.size, b9r.block⟩); clear b9r s1r; have s6 := KEEP.out w9 a1 s1; have P1 := mhid (And.intro b9 (And.intro o1 (And.intro s1 hq))); obtain ⟨⟨q0, q1⟩, q2, q3⟩ := s6; have s6 : (w9.cell? ⟨A0, 2, none⟩ = some (.int .i64 oa) ∧ w9.cell? ⟨A0, 3, none⟩ = some (.int .i64 ob)) ∧ (w9.cell? ⟨A1, 0, none⟩ = some (.int .i64 ok) ∧ w9.cell? ⟨A1, 1, none⟩ = some (.int .i64 (t : Int))) := ⟨⟨q0, q1⟩, q2, q3⟩; clear b9 o1 s1 hq) | (go_at_call 43; (with_reducible refine (P1.out.2.2.2 _ ?_).mono ?_); exact P1.out.2.1; rintro e8 w8 ⟨rfl, b8, a2, o2, s2, r2⟩; have s6 := KEEP2.out w9 w8 a1 a2 P1.out.2.2.1 s2; have P2 := mhid (And.intro b8 (And.intro o2 (And.intro s2 r2))); obtain ⟨⟨q0, q1⟩, q2, q3⟩ := s6; have s6 : (w8.cell? ⟨A0, 2, none⟩ = some (.int .i64 oa) ∧ w8.cell? ⟨A0, 3, none⟩ = some (.int .i64 ob)) ∧ (w8.cell? ⟨A1, 0, none⟩ = some (.int .i64 ok) ∧ w8.cell? ⟨A1, 1, none⟩ = some (.int .i64 (t : Int))) := ⟨⟨q0, q1⟩, q2, q3⟩; clear b8 o2 s2 r2)))
    all_goals (
      go_wp2_with fail
      go_ret
      exact ⟨rfl, FIN.out w9 w8 a1 a2 P1.out.1 P2.out.1 P1.out.2.2.1 P2.out.2.1 P2.out.2.2.1 P2.out.2.2.2⟩)
  have d1 : (kd == 1) = false := by simpa using e1
  by_cases e2 : kd = 2
  · subst e2
    have HP := flip_both (cmp := cmp) (srt := srt) (X := X) (B := B) a t hn ht HR.out.2 HO.out.2.1 oa
    obtain ⟨z, HP⟩ := HP
    unfold Both at HP
    go_upto_region 6 with fail
    go_region_held3 (fun w' => (w'.cell? ⟨A0, 2, none⟩ = some (.int .i64 oa) ∧ w'.cell? ⟨A0, 3, none⟩ = some (.int .i64 ob)) ∧ (w'.cell? ⟨A1, 0, none⟩ = some (.int .i64 ok) ∧ w'.cell? ⟨A1, 1, none⟩ = some (.int .i64 (t : Int)))) (first | exact s6 | go_keep) ((first | (go_at_call 16; (with_reducible refine (HP _ ?_).mono ?_); (first | exact HO.out.1 | exact HO.out.1.below (drewB _) | exact HO.out.1.below (below_drewNq _ _ _)); rintro e9 w9 ⟨rfl, b9r, a1, o1, s1r, hq⟩; have s1 : St n X 0 wz w9 a a1 := (by first | exact s1r | exact ⟨s1r.kk, s1r.gr, s1r.sz, s1r.i1, s1r.i2, s1r.i3, s1r.i4⟩); have b9 : Below B wz w9 := (by first | exact b9r | exact (below_drewNq _ _ _).trans b9r | exact ⟨b9r.os, b9r.tape, b9r.output, b9r.size, b9r.block⟩); clear b9r s1r; have s6 := KEEP.out w9 a1 s1; have P1 := mhid (And.intro b9 (And.intro o1 (And.intro s1 hq))); obtain ⟨⟨q0, q1⟩, q2, q3⟩ := s6; have s6 : (w9.cell? ⟨A0, 2, none⟩ = some (.int .i64 oa) ∧ w9.cell? ⟨A0, 3, none⟩ = some (.int .i64 ob)) ∧ (w9.cell? ⟨A1, 0, none⟩ = some (.int .i64 ok) ∧ w9.cell? ⟨A1, 1, none⟩ = some (.int .i64 (t : Int))) := ⟨⟨q0, q1⟩, q2, q3⟩; clear b9 o1 s1 hq) | (go_at_call 44; (with_reducible refine (P1.out.2.2.2 _ ?_).mono ?_); exact P1.out.2.1; rintro e8 w8 ⟨rfl, b8, a2, o2, s2, r2⟩; have s6 := KEEP2.out w9 w8 a1 a2 P1.out.2.2.1 s2; have P2 := mhid (And.intro b8 (And.intro o2 (And.intro s2 r2))); obtain ⟨⟨q0, q1⟩, q2, q3⟩ := s6; have s6 : (w8.cell? ⟨A0, 2, none⟩ = some (.int .i64 oa) ∧ w8.cell? ⟨A0, 3, none⟩ = some (.int .i64 ob)) ∧ (w8.cell? ⟨A1, 0, none⟩ = some (.int .i64 ok) ∧ w8.cell? ⟨A1, 1, none⟩ = some (.int .i64 (t : Int))) := ⟨⟨q0, q1⟩, q2, q3⟩; clear b8 o2 s2 r2)))
    all_goals (
      go_wp2_with fail
      go_ret
      exact ⟨rfl, FIN.out w9 w8 a1 a2 P1.out.1 P2.out.1 P1.out.2.2.1 P2.out.2.1 P2.out.2.2.1 P2.out.2.2.2⟩)
  have d2 : (kd == 2) = false := by simpa using e2
  by_cases e3 : kd = 3
  · subst e3
    have HP := phase_both (cmp := cmp) (srt := srt) (X := X) (B := B) a t HO.out.2.1 oa
    obtain ⟨z, HP⟩ := HP
    unfold Both at HP
    go_upto_region 8 with fail
    go_region_held3 (fun w' => (w'.cell? ⟨A0, 2, none⟩ = some (.int .i64 oa) ∧ w'.cell? ⟨A0, 3, none⟩ = some (.int .i64 ob)) ∧ (w'.cell? ⟨A1, 0, none⟩ = some (.int .i64 ok) ∧ w'.cell? ⟨A1, 1, none⟩ = some (.int .i64 (t : Int)))) (first | exact s6 | go_keep) ((first | (go_at_call 19; (with_reducible refine (HP _ ?_).mono ?_); (first | exact HO.out.1 | exact HO.out.1.below (drewB _) | exact HO.out.1.below (below_drewNq _ _ _)); rintro e9 w9 ⟨rfl, b9r, a1, o1, s1r, hq⟩; have s1 : St n X 0 wz w9 a a1 := (by first | exact s1r | exact ⟨s1r.kk, s1r.gr, s1r.sz, s1r.i1, s1r.i2, s1r.i3, s1r.i4⟩); have b9 : Below B wz w9 := (by first | exact b9r | exact (below_drewNq _ _ _).trans b9r | exact ⟨b9r.os, b9r.tape, b9r.output, b9r.size, b9r.block⟩); clear b9r s1r; have s6 := KEEP.out w9 a1 s1; have P1 := mhid (And.intro b9 (And.intro o1 (And.intro s1 hq))); obtain ⟨⟨q0, q1⟩, q2, q3⟩ := s6; have s6 : (w9.cell? ⟨A0, 2, none⟩ = some (.int .i64 oa) ∧ w9.cell? ⟨A0, 3, none⟩ = some (.int .i64 ob)) ∧ (w9.cell? ⟨A1, 0, none⟩ = some (.int .i64 ok) ∧ w9.cell? ⟨A1, 1, none⟩ = some (.int .i64 (t : Int))) := ⟨⟨q0, q1⟩, q2, q3⟩; clear b9 o1 s1 hq) | (go_at_call 45; (with_reducible refine (P1.out.2.2.2 _ ?_).mono ?_); exact P1.out.2.1; rintro e8 w8 ⟨rfl, b8, a2, o2, s2, r2⟩; have s6 := KEEP2.out w9 w8 a1 a2 P1.out.2.2.1 s2; have P2 := mhid (And.intro b8 (And.intro o2 (And.intro s2 r2))); obtain ⟨⟨q0, q1⟩, q2, q3⟩ := s6; have s6 : (w8.cell? ⟨A0, 2, none⟩ = some (.int .i64 oa) ∧ w8.cell? ⟨A0, 3, none⟩ = some (.int .i64 ob)) ∧ (w8.cell? ⟨A1, 0, none⟩ = some (.int .i64 ok) ∧ w8.cell? ⟨A1, 1, none⟩ = some (.int .i64 (t : Int))) := ⟨⟨q0, q1⟩, q2, q3⟩; clear b8 o2 s2 r2)))
    all_goals (
      go_wp2_with fail
      go_ret
      exact ⟨rfl, FIN.out w9 w8 a1 a2 P1.out.1 P2.out.1 P1.out.2.2.1 P2.out.2.1 P2.out.2.2.1 P2.out.2.2.2⟩)
  have d3 : (kd == 3) = false := by simpa using e3
  by_cases e4 : kd = 4
  · subst e4
    obtain ⟨z, HD⟩ := drain_both (cmp := cmp) (srt := srt) (X := X) (B := B) a t hn ht HR.out.2 HO.out.2.1 hlt hso hJ oa
    have HDJ := HD wz HO.out.1 (HJZ.out)
    have ew : IntKind.i64.wrap ((t : Int) + 1) = (t : Int) + 1 := by rw [IntKind.wrap_i64]; omega
    have HTM := mhid (And.intro hm ht)
    clear HD
    go_upto_region 12 with (first | (go_at_call 17; (with_reducible refine HDJ.mono ?_); rintro e9 w9 ⟨q, S, c, k, rfl, o9, hS6, hn9, b9, j9, a1, o1, s1, fa, hq⟩; obtain ⟨⟨q0, q1⟩, q2, q3⟩ := KEEP.out w9 a1 s1; have HQ9 := hq w9 o1; have P1 := mhid (And.intro o9 (And.intro hS6 (And.intro hn9 (And.intro b9 (And.intro j9 (And.intro o1 (And.intro s1 fa))))))); clear o9 hS6 hn9 b9 j9 o1 s1 fa hq) | (go_at_call 46; (with_reducible refine HQ9.mono ?_); rintro e8 w8 ⟨q2', c2, k2, rfl, tt, he, b8, a2, o2, s2, r2⟩; have P2 := mhid (And.intro tt (And.intro he (And.intro b8 (And.intro o2 (And.intro s2 r2))))); clear tt he b8 o2 s2 r2))
    clear q0 q1 q2 q3 y1 y2 y3 u0 u1 HDJ HQ9
    have hlz : ∀ j, (Value.slice q S c).ownBlock = some j → wz.heap.size ≤ j ∧ j < w9.heap.size ∧ ¬ FA n a1 j ∧ ¬ X j ∧ ¬ FA n a2 j := fun j hj => by
      have e1 := P1.out.2.2.1 j hj
      have e2 := (P1.out.1.lt j hj).2
      have e3 : ¬ FA n a1 j := fun e => by have := (FA_lt HO.out.1 (P1.out.2.2.2.2.2.2.2 j e)).2; omega
      refine ⟨e1, e2, e3, fun e => ?_, fun e => ?_⟩
      · have := HR.out.2 j e
        have := HO.out.1.bs
        omega
      · rcases P2.out.2.2.2.2.1.gr j e with e4 | e4
        · exact e3 e4
        · omega
    have ol8 : Own w8 B 31 2 (.slice q S c) S (thF k) := P1.out.1.far fun j hj => P2.out.2.2.2.2.1.kk j (hlz j hj).2.1 (hlz j hj).2.2.1 (hlz j hj).2.2.2.1
    have HSM := sameT_yes S k k2 (.slice q S c) (.slice q2' S c2) w8 ol8.tat P2.out.1 P2.out.2.1 (by have := P1.out.2.1; omega)
    have HTK : Hid (∀ w7, Below w8.heap.size w8 w7 → Calls Try.prog 47 #[.pointer (some ⟨a2.sb, 0, none⟩), .slice q S c, .int .i64 ((t : Int) + 1)] w7 fun e w' => e = .returned (.tuple #[]) ∧ Below B w7 w' ∧ ∃ a', O3 n room cmp srt B w' a' ∧ St n X 4 wz w' a a' ∧ RA n room a' (t + 1)) := fun w7 hw7 => by
      have s07 : St n X 0 wz w7 a a2 := by
        have := (P1.out.2.2.2.2.2.2.1.trans P2.out.2.2.2.2.1).trans (St.below (n := n) (X := X) (a := a2) hw7)
        exact this
      have := take_both (cmp := cmp) (srt := srt) a2 (t + 1) (by have := HTM.out; omega) (by have e4 := s07.i4; have := HTM.out; omega) q S c k wz w7 (P2.out.2.2.2.1.below hw7) (ol8.later hw7) P1.out.2.1 (fun j hj => ⟨(hlz j hj).2.2.2.2, (hlz j hj).1⟩) s07 HR.out.2
      rw [show ((t + 1 : Nat) : Int) = (t : Int) + 1 by omega] at this
      refine this.mono fun e w' ⟨h1, h2, a', h3, h4, e1, e2, e3, e4, e5, e6⟩ => ⟨h1, h2, a', h3, h4, ?_⟩
      have r2 := P2.out.2.2.2.2.2
      exact ⟨by rw [e1, e3, e6]; exact r2.re, by rw [e4, e1]; exact r2.e1, by rw [e5, e2]; exact r2.e2⟩
    have hsb : a2.sb = a.sb := P2.out.2.2.2.2.1.i3.trans P1.out.2.2.2.2.2.2.1.i3
    rw [hsb] at HTK
    clear hlz ol8 hsb
    go_wp2_with (first | (go_at_call 41; (with_reducible refine HSM.mono ?_); rintro e7 w7 ⟨rfl, b7⟩; have HT7 := HTK.out w7 b7; have B7 := mhid b7; clear b7) | (go_at_call 47; (with_reducible refine HT7.mono ?_); rintro e6 w6 ⟨rfl, b6, a', o6, s6', r6⟩; have P6 := mhid (And.intro b6 (And.intro o6 (And.intro s6' r6))); clear b6 o6 s6' r6))
    go_ret
    have F4 := FIN4.out w9 w8 w7 w6 P1.out.2.2.2.1 P1.out.2.2.2.2.1 P2.out.2.2.1 (B7.out.mono P2.out.2.2.2.1.bs) P6.out.1
    exact ⟨rfl, F4.1, F4.2, fun e => absurd rfl e, FIN5.out w6 a' P6.out.2.1 P6.out.2.2.1 P6.out.2.2.2⟩
  have d4 : (kd == 4) = false := by simpa using e4
  by_cases e5 : kd = 5
  · subst e5
    obtain ⟨z1, z2, HP⟩ := drop_both (cmp := cmp) (srt := srt) (X := X) (B := B) a t hn ht HR.out.2 HO.out.2.1 oa
    unfold Both at HP
    go_wp2_with (first | (go_at_call 18; (with_reducible refine (HP _ HO.out.1).mono ?_); rintro e9 w9 ⟨rfl, b9, a1, o1, s1, hq⟩; obtain ⟨⟨q0, q1⟩, q2, q3⟩ := KEEP.out w9 a1 s1; have P1 := mhid (And.intro b9 (And.intro o1 (And.intro s1 hq))); clear b9 o1 s1 hq) | (go_at_call 48; (with_reducible refine (P1.out.2.2.2 _ P1.out.2.1).mono ?_); rintro e8 w8 ⟨rfl, b8, a2, o2, s2, r2⟩; have P2 := mhid (And.intro b8 (And.intro o2 (And.intro s2 r2))); clear b8 o2 s2 r2))
    go_ret
    exact ⟨rfl, FIN.out w9 w8 a1 a2 P1.out.1 P2.out.1 P1.out.2.2.1 P2.out.2.1 P2.out.2.2.1 P2.out.2.2.2⟩
  have d5 : (kd == 5) = false := by simpa using e5
  by_cases e6 : kd = 6
  · subst e6
    obtain ⟨z1, z2, HP⟩ := wait_both (cmp := cmp) (srt := srt) (X := X) (B := B) a t hn ht HO.out.2.1 oa
    unfold Both at HP
    go_wp2_with (first | (go_at_call 25; (with_reducible refine (HP _ HO.out.1).mono ?_); rintro e9 w9 ⟨rfl, b9, a1, o1, s1, hq⟩; obtain ⟨⟨q0, q1⟩, q2, q3⟩ := KEEP.out w9 a1 s1; have P1 := mhid (And.intro b9 (And.intro o1 (And.intro s1 hq))); clear b9 o1 s1 hq) | (go_at_call 49; (with_reducible refine (P1.out.2.2.2 _ P1.out.2.1).mono ?_); rintro e8 w8 ⟨rfl, b8, a2, o2, s2, r2⟩; have P2 := mhid (And.intro b8 (And.intro o2 (And.intro s2 r2))); clear b8 o2 s2 r2))
    go_ret
    exact ⟨rfl, FIN.out w9 w8 a1 a2 P1.out.1 P2.out.1 P1.out.2.2.1 P2.out.2.1 P2.out.2.2.1 P2.out.2.2.2⟩
  have d6 : (kd == 6) = false := by simpa using e6
  by_cases e7 : kd = 7
  · subst e7
    have HP := err_both (cmp := cmp) (srt := srt) (X := X) (B := B) a t HO.out.2.1 oa
    obtain ⟨z, HP⟩ := HP
    unfold Both at HP
    go_upto_region 24 with fail
    go_region_held3 (fun w' => (w'.cell? ⟨A0, 2, none⟩ = some (.int .i64 oa) ∧ w'.cell? ⟨A0, 3, none⟩ = some (.int .i64 ob)) ∧ (w'.cell? ⟨A1, 0, none⟩ = some (.int .i64 ok) ∧ w'.cell? ⟨A1, 1, none⟩ = some (.int .i64 (t : Int)))) (first | exact s6 | go_keep) ((first | (go_at_call 20; (with_reducible refine (HP _ ?_).mono ?_); (first | exact HO.out.1 | exact HO.out.1.below (drewB _) | exact HO.out.1.below (below_drewNq _ _ _)); rintro e9 w9 ⟨rfl, b9r, a1, o1, s1r, hq⟩; have s1 : St n X 0 wz w9 a a1 := (by first | exact s1r | exact ⟨s1r.kk, s1r.gr, s1r.sz, s1r.i1, s1r.i2, s1r.i3, s1r.i4⟩); have b9 : Below B wz w9 := (by first | exact b9r | exact (below_drewNq _ _ _).trans b9r | exact ⟨b9r.os, b9r.tape, b9r.output, b9r.size, b9r.block⟩); clear b9r s1r; have s6 := KEEP.out w9 a1 s1; have P1 := mhid (And.intro b9 (And.intro o1 (And.intro s1 hq))); obtain ⟨⟨q0, q1⟩, q2, q3⟩ := s6; have s6 : (w9.cell? ⟨A0, 2, none⟩ = some (.int .i64 oa) ∧ w9.cell? ⟨A0, 3, none⟩ = some (.int .i64 ob)) ∧ (w9.cell? ⟨A1, 0, none⟩ = some (.int .i64 ok) ∧ w9.cell? ⟨A1, 1, none⟩ = some (.int .i64 (t : Int))) := ⟨⟨q0, q1⟩, q2, q3⟩; clear b9 o1 s1 hq) | (go_at_call 50; (with_reducible refine (P1.out.2.2.2 _ ?_).mono ?_); exact P1.out.2.1; rintro e8 w8 ⟨rfl, b8, a2, o2, s2, r2⟩; have s6 := KEEP2.out w9 w8 a1 a2 P1.out.2.2.1 s2; have P2 := mhid (And.intro b8 (And.intro o2 (And.intro s2 r2))); obtain ⟨⟨q0, q1⟩, q2, q3⟩ := s6; have s6 : (w8.cell? ⟨A0, 2, none⟩ = some (.int .i64 oa) ∧ w8.cell? ⟨A0, 3, none⟩ = some (.int .i64 ob)) ∧ (w8.cell? ⟨A1, 0, none⟩ = some (.int .i64 ok) ∧ w8.cell? ⟨A1, 1, none⟩ = some (.int .i64 (t : Int))) := ⟨⟨q0, q1⟩, q2, q3⟩; clear b8 o2 s2 r2)))
    all_goals (
      go_wp2_with fail
      go_ret
      exact ⟨rfl, FIN.out w9 w8 a1 a2 P1.out.1 P2.out.1 P1.out.2.2.1 P2.out.2.1 P2.out.2.2.1 P2.out.2.2.2⟩)
  have d7 : (kd == 7) = false := by simpa using e7
  go_wp2_with fail
  go_ret
  exact ⟨rfl, FIN.out wz wz a a (Below.refl _ _) (Below.refl _ _) (St.refl _ _) HO.out.1 (St.refl _ _) ⟨HO.out.2.1.re.up, HO.out.2.1.e1, HO.out.2.1.e2⟩⟩
end Go.Proofs.Ytkfjcbnhohipgaa
