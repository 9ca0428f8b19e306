import Derived.Test.YtllhbggipbefmacDRShuf
import Derived.Deep.DeepCutAuto
namespace Go.Proofs.Ytllhbggipbefmac
open Go.ChangeShapes Go.WideShapes Go.ChangeAt Go.RowKit
set_option linter.unusedVariables false

theorem LV.weak {w : World} {ad : Option Addr} {L L' n cap : Nat} {F : Nat → Int} (h : LV w ad L n cap F) (hL : L' ≤ L) : LV w ad L' n cap F := by
  rcases h with h | ⟨g, arr, h1, h2, h3⟩
  · exact Or.inl h
  · exact Or.inr ⟨g, arr, h1, by omega, h3⟩
theorem LV.capLe {w : World} {ad : Option Addr} {L n cap : Nat} {F : Nat → Int} (h : LV w ad L n cap F) : n ≤ cap := by
  rcases h with ⟨h1, h2, h3⟩ | ⟨g, arr, h1, h2, h3, h4, h5, h6⟩
  · omega
  · exact h5

theorem hid_refl (F : Nat → Int) (N : Nat) : Hid (∀ k, k < N → F k = F k) := fun _ _ => rfl
structure Env (w0 w : World) (al ak ao am ap : Option Addr) (N cm cp Z : Nat) (FL F F2 : Nat → Int) : Prop where
  l : LV w al w0.heap.size N N FL
  llt : ∀ g, al = some ⟨g, 0, none⟩ → g < Z
  k : LV w ak Z N N F
  o : LV w ao Z N N F2
  m : LV w am Z N cm F
  p : LV w ap Z N cp F2
  b : Below w0.heap.size w0 w
  z : Z ≤ w.heap.size
theorem Env.keep {w0 w w' : World} {al ak ao am ap : Option Addr} {N cm cp Z : Nat} {FL F F2 : Nat → Int} (h : Env w0 w al ak ao am ap N cm cp Z FL F F2) (hb : Below w.heap.size w w') : Env w0 w' al ak ao am ap N cm cp Z FL F F2 :=
  ⟨h.l.keep hb, h.llt, h.k.keep hb, h.o.keep hb, h.m.keep hb, h.p.keep hb, h.b.trans (hb.mono h.b.size), Nat.le_trans h.z hb.size⟩
def wr7 (k : Nat) (F : Nat → Int) : Nat → Int := fun j => if j < k then -7 - (j : Int) else F j
theorem Env.set {w0 w : World} {ak ao am ap : Option Addr} {N cm cp Z g i : Nat} {F F2 : Nat → Int} (h : Env w0 w (some ⟨g, 0, none⟩) ak ao am ap N cm cp Z (wr7 i F) F F2) (hi : i < N) (hg : w0.heap.size ≤ g) :
    Env w0 (w.setCell ⟨g, i, none⟩ (.int .i64 (-7 - (i : Int)))) (some ⟨g, 0, none⟩) ak ao am ap N cm cp Z (wr7 (i + 1) F) F F2 := by
  have hz := h.llt g rfl
  refine ⟨(h.l.set hi _).congr (fun j _ => ?_), h.llt, h.k.setOther hz, h.o.setOther hz, h.m.setOther hz, h.p.setOther hz, h.b.setCell (p := ⟨g, i, none⟩) hg _, by have := h.z; simpa [World.setCell] using this⟩
  unfold wr7
  by_cases e : j = i
  · subst e; simp
  · by_cases l : j < i
    · simp [e, l, show j < i + 1 by omega]
    · simp [e, l, show ¬ j < i + 1 by omega]

structure Env2 (w0 w : World) (al ak ao am ap : Option Addr) (gx gy gz N cm cp cx cy cz Z : Nat) (G F F2 : Nat → Int) : Prop where
  e : Env w0 w al ak ao am ap N cm cp Z (wr7 N F) F F2
  x : LV w (some ⟨gx, 0, none⟩) Z (N + 64) cx (app N (wr7 N F) (-1))
  y : LV w (some ⟨gy, 0, none⟩) Z (N + 64) cy (app N F (-2))
  z : LV w (some ⟨gz, 0, none⟩) Z (N + 64) cz (app N F2 (-3))
theorem Env2.keep {w0 w w' : World} {al ak ao am ap : Option Addr} {gx gy gz N cm cp cx cy cz Z : Nat} {G F F2 : Nat → Int} (h : Env2 w0 w al ak ao am ap gx gy gz N cm cp cx cy cz Z G F F2) (hb : Below w.heap.size w w') : Env2 w0 w' al ak ao am ap gx gy gz N cm cp cx cy cz Z G F F2 :=
  ⟨h.e.keep hb, h.x.keep hb, h.y.keep hb, h.z.keep hb⟩
theorem hid_app (F : Nat → Int) (N : Nat) (m : Int) : Hid (∀ k, k < N → app N F m k = F k) := fun _ h => app_lo h
theorem hid_end (F : Nat → Int) (N : Nat) (m : Int) : Hid (∀ k, N ≤ k → k < N + 64 → app N F m k = m) := fun _ h _ => app_hi h

set_option maxRecDepth 100000 in
set_option maxHeartbeats 2000000 in
theorem shuffles_core (s s1 n t t2 t3 e0 e1 : Int) (N : Nat) (F F2 : Nat → Int) (hN : N ≤ 4096) (hs1 : IntKind.u64.wrap (s + 1) = s1)
    (D1 : Hid (∀ w : World, Calls Try.prog 17 #[.int .u64 s, .int .i64 n] w fun e w' => ∃ ad, e = .returned (.tuple #[.slice ad N N, .int .u64 t, .int .i64 e0]) ∧ LV w' ad w.heap.size N N F ∧ Below w.heap.size w w'))
    (D2 : Hid (∀ w : World, Calls Try.prog 17 #[.int .u64 s1, .int .i64 n] w fun e w' => ∃ ad, e = .returned (.tuple #[.slice ad N N, .int .u64 t2, .int .i64 e1]) ∧ LV w' ad w.heap.size N N F2 ∧ Below w.heap.size w w'))
    (R1 : Hid (∀ w : World, Calls Try.prog 18 #[.int .u64 s, .int .i64 n] w fun e w' => ∃ ad cap, e = .returned (.tuple #[.slice ad N cap, .int .u64 t, .int .i64 e0]) ∧ LV w' ad w.heap.size N cap F ∧ Below w.heap.size w w'))
    (R2 : Hid (∀ w : World, Calls Try.prog 18 #[.int .u64 s1, .int .i64 n] w fun e w' => ∃ ad cap, e = .returned (.tuple #[.slice ad N cap, .int .u64 t3, .int .i64 e1]) ∧ LV w' ad w.heap.size N cap F2 ∧ Below w.heap.size w w')) (w : World) :
    Calls Try.prog 6 #[.int .u64 s, .int .i64 n] w fun e w' => e = .returned (.bool true) ∧ Below w.heap.size w w' := by
  go_enter Try.func6, Try.ntmps6
  go_wp2_with fail
  refine (D1.out _).mono ?_
  rintro e w1 ⟨al, rfl, hl1, hb1⟩
  go_wp2_with fail
  refine (D1.out _).mono ?_
  rintro e w2 ⟨ak, rfl, hk2, hb2⟩
  go_wp2_with fail
  refine (D2.out _).mono ?_
  rintro e w3 ⟨ao, rfl, ho3, hb3⟩
  go_wp2_with fail
  refine (R1.out _).mono ?_
  rintro e w4 ⟨am, cm, rfl, hm4, hb4⟩
  go_wp2_with fail
  refine (R2.out _).mono ?_
  rintro e w5 ⟨ap, cp, rfl, hp5, hb5⟩
  have z1 := hb1.size
  have z2 := hb2.size
  have z3 := hb3.size
  have z4 := hb4.size
  have z5 := hb5.size
  have hE : Env w w5 al ak ao am ap N cm cp w1.heap.size F F F2 := by
    refine ⟨(((hl1.keep hb2).keep hb3).keep hb4).keep hb5, fun g hg => ?_, ((hk2.keep hb3).keep hb4).keep hb5, ((ho3.weak z2).keep hb4).keep hb5, (hm4.weak (Nat.le_trans z2 z3)).keep hb5, hp5.weak (by omega), ?_, by omega⟩
    · rcases hl1 with ⟨h1, _⟩ | ⟨g', arr, h1, h2, h3, _⟩
      · rw [h1] at hg; cases hg
      · rw [h1] at hg
        obtain rfl : g' = g := by simpa using hg
        rw [Array.getElem?_eq_some_iff] at h3
        exact h3.1
    · exact (((hb1.trans (hb2.mono (by omega))).trans (hb3.mono (by omega))).trans (hb4.mono (by omega))).trans (hb5.mono (by omega))
  clear D1 D2 R1 R2 hl1 hk2 ho3 hm4 hp5 hb1 hb2 hb3 hb4 hb5 z2 z3 z4 z5
  have hN5 : N ≤ 5000 := by omega
  go_upto_region 8 with (first | (go_at_call 19; (first | (with_reducible refine (same_any _ al am _ _ N _ _ _ _ hN5 hE.l hE.m (hid_refl _ _)).mono ?_) | (with_reducible refine (same_any _ ak am _ _ N _ _ _ _ hN5 hE.k hE.m (hid_refl _ _)).mono ?_) | (with_reducible refine (same_any _ ao ap _ _ N _ _ _ _ hN5 hE.o hE.p (hid_refl _ _)).mono ?_)); rintro e w' ⟨rfl, hbx⟩; replace hE := hE.keep hbx; clear hbx))
  go_wp2_with fail
  go_loopw [20] (fun vi wr => ∃ k : Nat, k ≤ N ∧ vi = .int .i64 k ∧ Env w wr al ak ao am ap N cm cp w1.heap.size (wr7 k F) F F2) (fun vi _ => N - (intOf vi).toNat)
  case atStart => exact ⟨0, by omega, rfl, hE⟩
  case round =>
    obtain ⟨k, hk, rfl, hR⟩ := hrel
    clear hE
    by_cases hlt : k < N
    · obtain ⟨g, rfl, hgl, hgs, hc, hf⟩ := hR.l.at hlt
      have i0 : (0 : Int) ≤ (k : Int) := by omega
      have i1 : (k : Int) < (N : Int) := by omega
      go_wp2_with fail
      go_roundw
      case rel => exact ⟨k + 1, by omega, by go_num, hR.set hlt hgl⟩
      case measure => simp [intOf]; omega
    · obtain rfl : k = N := by omega
      obtain ⟨wo, rfl⟩ : ∃ wo : World, wo = wr := ⟨_, rfl⟩
      go_wp2_with fail
      refine (grown_any _ al _ k _ (-1) hN5 hR.l).mono ?_
      rintro e w6 ⟨ax, cx, rfl, hx6, hb6⟩
      have hzz := hR.z
      replace hR := hR.keep hb6
      have z6 := hb6.size
      go_wp2_with fail
      refine (grown_any _ ak _ k _ (-2) hN5 hR.k).mono ?_
      rintro e w7 ⟨ay, cy, rfl, hy7, hb7⟩
      replace hR := hR.keep hb7
      have z7 := hb7.size
      go_wp2_with fail
      refine (grown_any _ ao _ k _ (-3) hN5 hR.o).mono ?_
      rintro e w8 ⟨az, cz, rfl, hz8, hb8⟩
      replace hR := hR.keep hb8
      obtain ⟨gx, rfl, -⟩ := hx6.at (show 0 < k + 64 by omega)
      obtain ⟨gy, rfl, -⟩ := hy7.at (show 0 < k + 64 by omega)
      obtain ⟨gz, rfl, -⟩ := hz8.at (show 0 < k + 64 by omega)
      have hE : Env2 w w8 al ak ao am ap gx gy gz k cm cp cx cy cz w1.heap.size F F F2 := ⟨hR, ((hx6.weak hzz).keep hb7).keep hb8, (hy7.weak (by omega)).keep hb8, hz8.weak (by omega)⟩
      clear hR hx6 hy7 hz8 hb6 hb7 hb8 z6 z7 hzz
      have cy1 : (k : Int) ≤ (cy : Int) := by have := hE.y.capLe; omega
      have cz1 : (k : Int) ≤ (cz : Int) := by have := hE.z.capLe; omega
      have k0 : (0 : Int) ≤ (k : Int) := by omega
      go_wp2_with fail
      go_loop [24] (fun vi => ∃ i : Nat, i ≤ k ∧ vi = .int .i64 i) (fun vi => k - (intOf vi).toNat)
      case atStart => exact ⟨0, by omega, rfl⟩
      case round =>
        obtain ⟨i, hi, rfl⟩ := hrel
        by_cases hlt : i < k
        · obtain ⟨g, rfl, -, -, hc, -⟩ := hE.e.l.at hlt
          obtain ⟨g', hg', -, -, hc', -⟩ := hE.x.at (show i < k + 64 by omega)
          obtain rfl : gx = g' := by simpa using hg'
          have e1 : wr7 k F i = -7 - (i : Int) := by simp [wr7, hlt]
          rw [e1] at hc
          rw [app_lo hlt, e1] at hc'
          clear e1 hg'
          have i0 : (0 : Int) ≤ (i : Int) := by omega
          have i1 : (i : Int) < (k : Int) := by omega
          have i2 : (i : Int) < (k : Int) + 64 := by omega
          go_wp2_with fail
          go_round
          case rel => exact ⟨i + 1, by omega, by go_num⟩
          case measure => simp [intOf]; omega
        · obtain rfl : i = k := by omega
          go_wp2_with (first | (go_at_call 19; (first | (with_reducible refine (same_any _ ak am _ _ i _ _ _ _ hN5 hE.e.k hE.e.m (hid_refl _ _)).mono ?_) | (with_reducible refine (same_any _ ao ap _ _ i _ _ _ _ hN5 hE.e.o hE.e.p (hid_refl _ _)).mono ?_) | (with_reducible refine (same_any _ (some ⟨gy, 0, none⟩) am _ _ i _ _ _ _ hN5 (hE.y.short (by omega)) hE.e.m (hid_app _ _ _)).mono ?_) | (with_reducible refine (same_any _ (some ⟨gz, 0, none⟩) ap _ _ i _ _ _ _ hN5 (hE.z.short (by omega)) hE.e.p (hid_app _ _ _)).mono ?_)); rintro e w' ⟨rfl, hbx⟩; replace hE := hE.keep hbx; clear hbx) | (go_at_call 21; (first | (with_reducible refine (ends_any _ (some ⟨gx, 0, none⟩) _ i _ _ (-1) hN5 hE.x (hid_end _ _ _)).mono ?_) | (with_reducible refine (ends_any _ (some ⟨gy, 0, none⟩) _ i _ _ (-2) hN5 hE.y (hid_end _ _ _)).mono ?_) | (with_reducible refine (ends_any _ (some ⟨gz, 0, none⟩) _ i _ _ (-3) hN5 hE.z (hid_end _ _ _)).mono ?_)); rintro e w' ⟨rfl, hw⟩; subst w'))
          go_ret
          exact ⟨rfl, hE.e.b⟩
end Go.Proofs.Ytllhbggipbefmac
