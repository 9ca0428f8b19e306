import Derived.Test.YtllhbggipbefmabDWaits
import Derived.Deep.DeepCutAuto
namespace Go.Proofs.Ytllhbggipbefmab
open Go.ChangeShapes Go.WideShapes Go.ChangeAt Go.RowKit
set_option linter.unusedVariables false

theorem okL_any (e : Int) (w : World) :
    Calls Try.prog 9 #[.int .i64 e] w fun r w' => r = .returned (.bool (e == 0)) ∧ w' = w := by
  go_enter Try.func9, Try.ntmps9
  go_wp2
  go_ret
  exact ⟨rfl, rfl⟩

set_option maxRecDepth 100000 in
theorem longsA (s t mean more S T M N x y sx sy lo sh wi u v z : Int)
    (hm : Hid ((more < mean ∧ M = more ∧ N = mean) ∨ (mean ≤ more ∧ M = mean ∧ N = more))) (hs : Hid ((y < x ∧ S = t ∧ T = s) ∨ (x ≤ y ∧ S = s ∧ T = t))) (hu : ¬ u = S) (hv : ¬ v = T) (hz : ¬ z = S) (hls : sh ≤ lo) (hlw : lo ≤ wi)
    (HX : Hid (∀ w : World, Calls Try.prog 10 #[.int .u64 s] w fun e w' => e = .returned (.tuple #[.int .u64 sx, .int .u64 x]) ∧ w' = w))
    (HY : Hid (∀ w : World, Calls Try.prog 10 #[.int .u64 t] w fun e w' => e = .returned (.tuple #[.int .u64 sy, .int .u64 y]) ∧ w' = w))
    (H1 : Hid (∀ w : World, Calls Try.prog 16 #[.int .u64 S, .int .u64 M] w fun r w' => r = .returned (.tuple #[.int .u64 lo, .int .u64 u, .int .i64 0]) ∧ Below w.heap.size w w'))
    (H2 : Hid (∀ w : World, Calls Try.prog 16 #[.int .u64 T, .int .u64 M] w fun r w' => r = .returned (.tuple #[.int .u64 sh, .int .u64 v, .int .i64 0]) ∧ Below w.heap.size w w'))
    (H3 : Hid (∀ w : World, Calls Try.prog 16 #[.int .u64 S, .int .u64 N] w fun r w' => r = .returned (.tuple #[.int .u64 wi, .int .u64 z, .int .i64 0]) ∧ Below w.heap.size w w')) (w : World) :
    Calls Try.prog 6 #[.int .u64 s, .int .u64 t, .int .u64 mean, .int .u64 more] w fun e w' => e = .returned (.bool true) ∧ Below w.heap.size w w' := by
  go_enter Try.func6, Try.ntmps6
  go_upto_if 24 with fail
  go_cut [2, 3] (fun c d wx => c = .int .u64 M ∧ d = .int .u64 N ∧ wx = w)
  case first =>
    rcases hm.out with ⟨h1, h2, h3⟩ | ⟨h1, h2, h3⟩
    · subst h2 h3
      go_wp2
      go_meet
      exact ⟨rfl, rfl, rfl⟩
    · subst h2 h3
      go_wp2
      go_meet
      exact ⟨rfl, rfl, rfl⟩
  case rest =>
    obtain ⟨rfl, rfl, rfl⟩ := hcut
    go_upto_if 39 with (go_at_call 10; (first | (with_reducible refine (HX.out _).mono ?_) | (with_reducible refine (HY.out _).mono ?_)); rintro e w' ⟨rfl, hw⟩; subst w')
    go_cut [0, 1] (fun c d wx => c = .int .u64 S ∧ d = .int .u64 T ∧ wx = wc)
    case first =>
      rcases hs.out with ⟨h1, h2, h3⟩ | ⟨h1, h2, h3⟩
      · subst h2 h3
        go_wp2
        go_meet
        exact ⟨rfl, rfl, rfl⟩
      · subst h2 h3
        go_wp2
        go_meet
        exact ⟨rfl, rfl, rfl⟩
    case rest =>
      obtain ⟨rfl, rfl, hw⟩ := hcut
      subst hw
      clear HX HY hm hs
      go_wp2_with (first | (go_at_call 16; first | (with_reducible refine (H1.out _).mono ?_; rintro e w1 ⟨rfl, hb1⟩) | (with_reducible refine (H2.out _).mono ?_; rintro e w2 ⟨rfl, hb2⟩) | (with_reducible refine (H3.out _).mono ?_; rintro e w3 ⟨rfl, hb3⟩)) | (go_at_call 9; refine (okL_any _ _).mono ?_; rintro e w' ⟨rfl, hw⟩; subst w'))
      all_goals
        go_ret
        exact ⟨ret_boolD (by first | rfl | (simp; done) | (simp; omega) | (exfalso; simp_all)), (hb1.trans (hb2.mono hb1.size)).trans (hb3.mono (Nat.le_trans hb1.size hb2.size))⟩

set_option maxRecDepth 100000 in
theorem longsB (s t mean more S T M N x y sx sy lo sh wi u v : Int)
    (hm : Hid ((more < mean ∧ M = more ∧ N = mean) ∨ (mean ≤ more ∧ M = mean ∧ N = more))) (hs : Hid ((y < x ∧ S = t ∧ T = s) ∨ (x ≤ y ∧ S = s ∧ T = t))) (hu : ¬ u = S) (hv : ¬ v = T) (hls : sh ≤ lo)
    (HX : Hid (∀ w : World, Calls Try.prog 10 #[.int .u64 s] w fun e w' => e = .returned (.tuple #[.int .u64 sx, .int .u64 x]) ∧ w' = w))
    (HY : Hid (∀ w : World, Calls Try.prog 10 #[.int .u64 t] w fun e w' => e = .returned (.tuple #[.int .u64 sy, .int .u64 y]) ∧ w' = w))
    (H1 : Hid (∀ w : World, Calls Try.prog 16 #[.int .u64 S, .int .u64 M] w fun r w' => r = .returned (.tuple #[.int .u64 lo, .int .u64 u, .int .i64 0]) ∧ Below w.heap.size w w'))
    (H2 : Hid (∀ w : World, Calls Try.prog 16 #[.int .u64 T, .int .u64 M] w fun r w' => r = .returned (.tuple #[.int .u64 sh, .int .u64 v, .int .i64 0]) ∧ Below w.heap.size w w'))
    (H3 : Hid (∀ w : World, Calls Try.prog 16 #[.int .u64 S, .int .u64 N] w fun r w' => r = .returned (.tuple #[.int .u64 wi, .int .u64 S, .int .i64 10]) ∧ Below w.heap.size w w')) (w : World) :
    Calls Try.prog 6 #[.int .u64 s, .int .u64 t, .int .u64 mean, .int .u64 more] w fun e w' => e = .returned (.bool true) ∧ Below w.heap.size w w' := by
  go_enter Try.func6, Try.ntmps6
  go_upto_if 24 with fail
  go_cut [2, 3] (fun c d wx => c = .int .u64 M ∧ d = .int .u64 N ∧ wx = w)
  case first =>
    rcases hm.out with ⟨h1, h2, h3⟩ | ⟨h1, h2, h3⟩
    · subst h2 h3
      go_wp2
      go_meet
      exact ⟨rfl, rfl, rfl⟩
    · subst h2 h3
      go_wp2
      go_meet
      exact ⟨rfl, rfl, rfl⟩
  case rest =>
    obtain ⟨rfl, rfl, rfl⟩ := hcut
    go_upto_if 39 with (go_at_call 10; (first | (with_reducible refine (HX.out _).mono ?_) | (with_reducible refine (HY.out _).mono ?_)); rintro e w' ⟨rfl, hw⟩; subst w')
    go_cut [0, 1] (fun c d wx => c = .int .u64 S ∧ d = .int .u64 T ∧ wx = wc)
    case first =>
      rcases hs.out with ⟨h1, h2, h3⟩ | ⟨h1, h2, h3⟩
      · subst h2 h3
        go_wp2
        go_meet
        exact ⟨rfl, rfl, rfl⟩
      · subst h2 h3
        go_wp2
        go_meet
        exact ⟨rfl, rfl, rfl⟩
    case rest =>
      obtain ⟨rfl, rfl, hw⟩ := hcut
      subst hw
      clear HX HY hm hs
      go_wp2_with (first | (go_at_call 16; first | (with_reducible refine (H1.out _).mono ?_; rintro e w1 ⟨rfl, hb1⟩) | (with_reducible refine (H2.out _).mono ?_; rintro e w2 ⟨rfl, hb2⟩) | (with_reducible refine (H3.out _).mono ?_; rintro e w3 ⟨rfl, hb3⟩)) | (go_at_call 9; refine (okL_any _ _).mono ?_; rintro e w' ⟨rfl, hw⟩; subst w'))
      all_goals
        go_ret
        exact ⟨ret_boolD (by first | rfl | (simp; done) | (simp; omega) | (exfalso; simp_all)), (hb1.trans (hb2.mono hb1.size)).trans (hb3.mono (Nat.le_trans hb1.size hb2.size))⟩

set_option maxRecDepth 100000 in
theorem longsC (s t mean more S T M N x y sx sy lo sh wi v : Int)
    (hm : Hid ((more < mean ∧ M = more ∧ N = mean) ∨ (mean ≤ more ∧ M = mean ∧ N = more))) (hs : Hid ((y < x ∧ S = t ∧ T = s) ∨ (x ≤ y ∧ S = s ∧ T = t))) (hv : ¬ v = T) (hM : 144115188075855872 < M)
    (HX : Hid (∀ w : World, Calls Try.prog 10 #[.int .u64 s] w fun e w' => e = .returned (.tuple #[.int .u64 sx, .int .u64 x]) ∧ w' = w))
    (HY : Hid (∀ w : World, Calls Try.prog 10 #[.int .u64 t] w fun e w' => e = .returned (.tuple #[.int .u64 sy, .int .u64 y]) ∧ w' = w))
    (H1 : Hid (∀ w : World, Calls Try.prog 16 #[.int .u64 S, .int .u64 M] w fun r w' => r = .returned (.tuple #[.int .u64 lo, .int .u64 S, .int .i64 10]) ∧ Below w.heap.size w w'))
    (H2 : Hid (∀ w : World, Calls Try.prog 16 #[.int .u64 T, .int .u64 M] w fun r w' => r = .returned (.tuple #[.int .u64 sh, .int .u64 v, .int .i64 0]) ∧ Below w.heap.size w w'))
    (H3 : Hid (∀ w : World, Calls Try.prog 16 #[.int .u64 S, .int .u64 N] w fun r w' => r = .returned (.tuple #[.int .u64 wi, .int .u64 S, .int .i64 10]) ∧ Below w.heap.size w w')) (w : World) :
    Calls Try.prog 6 #[.int .u64 s, .int .u64 t, .int .u64 mean, .int .u64 more] w fun e w' => e = .returned (.bool true) ∧ Below w.heap.size w w' := by
  go_enter Try.func6, Try.ntmps6
  go_upto_if 24 with fail
  go_cut [2, 3] (fun c d wx => c = .int .u64 M ∧ d = .int .u64 N ∧ wx = w)
  case first =>
    rcases hm.out with ⟨h1, h2, h3⟩ | ⟨h1, h2, h3⟩
    · subst h2 h3
      go_wp2
      go_meet
      exact ⟨rfl, rfl, rfl⟩
    · subst h2 h3
      go_wp2
      go_meet
      exact ⟨rfl, rfl, rfl⟩
  case rest =>
    obtain ⟨rfl, rfl, rfl⟩ := hcut
    go_upto_if 39 with (go_at_call 10; (first | (with_reducible refine (HX.out _).mono ?_) | (with_reducible refine (HY.out _).mono ?_)); rintro e w' ⟨rfl, hw⟩; subst w')
    go_cut [0, 1] (fun c d wx => c = .int .u64 S ∧ d = .int .u64 T ∧ wx = wc)
    case first =>
      rcases hs.out with ⟨h1, h2, h3⟩ | ⟨h1, h2, h3⟩
      · subst h2 h3
        go_wp2
        go_meet
        exact ⟨rfl, rfl, rfl⟩
      · subst h2 h3
        go_wp2
        go_meet
        exact ⟨rfl, rfl, rfl⟩
    case rest =>
      obtain ⟨rfl, rfl, hw⟩ := hcut
      subst hw
      clear HX HY hm hs
      go_wp2_with (first | (go_at_call 16; first | (with_reducible refine (H1.out _).mono ?_; rintro e w1 ⟨rfl, hb1⟩) | (with_reducible refine (H2.out _).mono ?_; rintro e w2 ⟨rfl, hb2⟩) | (with_reducible refine (H3.out _).mono ?_; rintro e w3 ⟨rfl, hb3⟩)) | (go_at_call 9; refine (okL_any _ _).mono ?_; rintro e w' ⟨rfl, hw⟩; subst w'))
      all_goals
        go_ret
        exact ⟨ret_boolD (by first | rfl | (simp; done) | (simp; omega) | (exfalso; simp_all)), (hb1.trans (hb2.mono hb1.size)).trans (hb3.mono (Nat.le_trans hb1.size hb2.size))⟩

set_option maxRecDepth 100000 in
theorem longsD (s t mean more S T M N x y sx sy lo sh wi : Int)
    (hm : Hid ((more < mean ∧ M = more ∧ N = mean) ∨ (mean ≤ more ∧ M = mean ∧ N = more))) (hs : Hid ((y < x ∧ S = t ∧ T = s) ∨ (x ≤ y ∧ S = s ∧ T = t))) (hM : 144115188075855872 < M)
    (HX : Hid (∀ w : World, Calls Try.prog 10 #[.int .u64 s] w fun e w' => e = .returned (.tuple #[.int .u64 sx, .int .u64 x]) ∧ w' = w))
    (HY : Hid (∀ w : World, Calls Try.prog 10 #[.int .u64 t] w fun e w' => e = .returned (.tuple #[.int .u64 sy, .int .u64 y]) ∧ w' = w))
    (H1 : Hid (∀ w : World, Calls Try.prog 16 #[.int .u64 S, .int .u64 M] w fun r w' => r = .returned (.tuple #[.int .u64 lo, .int .u64 S, .int .i64 10]) ∧ Below w.heap.size w w'))
    (H2 : Hid (∀ w : World, Calls Try.prog 16 #[.int .u64 T, .int .u64 M] w fun r w' => r = .returned (.tuple #[.int .u64 sh, .int .u64 T, .int .i64 10]) ∧ Below w.heap.size w w'))
    (H3 : Hid (∀ w : World, Calls Try.prog 16 #[.int .u64 S, .int .u64 N] w fun r w' => r = .returned (.tuple #[.int .u64 wi, .int .u64 S, .int .i64 10]) ∧ Below w.heap.size w w')) (w : World) :
    Calls Try.prog 6 #[.int .u64 s, .int .u64 t, .int .u64 mean, .int .u64 more] w fun e w' => e = .returned (.bool true) ∧ Below w.heap.size w w' := by
  go_enter Try.func6, Try.ntmps6
  go_upto_if 24 with fail
  go_cut [2, 3] (fun c d wx => c = .int .u64 M ∧ d = .int .u64 N ∧ wx = w)
  case first =>
    rcases hm.out with ⟨h1, h2, h3⟩ | ⟨h1, h2, h3⟩
    · subst h2 h3
      go_wp2
      go_meet
      exact ⟨rfl, rfl, rfl⟩
    · subst h2 h3
      go_wp2
      go_meet
      exact ⟨rfl, rfl, rfl⟩
  case rest =>
    obtain ⟨rfl, rfl, rfl⟩ := hcut
    go_upto_if 39 with (go_at_call 10; (first | (with_reducible refine (HX.out _).mono ?_) | (with_reducible refine (HY.out _).mono ?_)); rintro e w' ⟨rfl, hw⟩; subst w')
    go_cut [0, 1] (fun c d wx => c = .int .u64 S ∧ d = .int .u64 T ∧ wx = wc)
    case first =>
      rcases hs.out with ⟨h1, h2, h3⟩ | ⟨h1, h2, h3⟩
      · subst h2 h3
        go_wp2
        go_meet
        exact ⟨rfl, rfl, rfl⟩
      · subst h2 h3
        go_wp2
        go_meet
        exact ⟨rfl, rfl, rfl⟩
    case rest =>
      obtain ⟨rfl, rfl, hw⟩ := hcut
      subst hw
      clear HX HY hm hs
      go_wp2_with (first | (go_at_call 16; first | (with_reducible refine (H1.out _).mono ?_; rintro e w1 ⟨rfl, hb1⟩) | (with_reducible refine (H2.out _).mono ?_; rintro e w2 ⟨rfl, hb2⟩) | (with_reducible refine (H3.out _).mono ?_; rintro e w3 ⟨rfl, hb3⟩)) | (go_at_call 9; refine (okL_any _ _).mono ?_; rintro e w' ⟨rfl, hw⟩; subst w'))
      all_goals
        go_ret
        exact ⟨ret_boolD (by first | rfl | (simp; done) | (simp; omega) | (exfalso; simp_all)), (hb1.trans (hb2.mono hb1.size)).trans (hb3.mono (Nat.le_trans hb1.size hb2.size))⟩
end Go.Proofs.Ytllhbggipbefmab
