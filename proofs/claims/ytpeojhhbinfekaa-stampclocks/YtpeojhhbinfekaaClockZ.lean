import Derived.Test.YtpeojhhbinfekaaClockP
namespace Go.Proofs.Ytpeojhhbinfekaa
open Go.ChangeShapes Go.WideShapes Go.ChangeAt Go.RowKit

theorem addN_fitZ {t d : Int} (c : t + d ≤ 18446744073709551615) : addN t d = t + d ∧ addE t d = 0 := by simp [addN, addE, c]
theorem addN_overZ {t d : Int} (c : ¬ t + d ≤ 18446744073709551615) : addN t d = 0 ∧ addE t d = 10 := by simp [addN, addE, c]
theorem adv_fitZ {t d : Int} (c : t + d ≤ 18446744073709551615) : advT t 0 d = t + d ∧ advE t 0 d = 0 := by simp [advT, advE, c]
theorem adv_overZ {t d : Int} (c : ¬ t + d ≤ 18446744073709551615) : advT t 0 d = t ∧ advE t 0 d = 10 := by simp [advT, advE, c]
theorem adv_errZ {t d : Int} : advT t 10 d = t ∧ advE t 10 d = 10 := by simp [advT, advE]

theorem hHeldOf4Z {a b c d : Prop} (h : a ∧ b ∧ c ∧ d) : d := h.2.2.2
theorem hHeldOfZ {a b : Prop} {c : Prop} (h : a ∧ b ∧ c) : c := h.2.2

set_option maxHeartbeats 4000000 in
set_option maxRecDepth 100000 in
theorem law_clocks0 (a0 : Int) (h0 : 0 ≤ a0 ∧ a0 ≤ 18446744073709551615) (sl : Option Addr) (cap : Nat) (w : World) :
    Calls Try.prog 6 #[.int .u64 a0, .slice sl 0 cap] w fun e w' => e = .returned (.bool true) ∧ Below w.heap.size w w' := by
  go_enter Try.func6, Try.ntmps6
  go_wp2_with (go_at_call 13; refine (newClock_any _ _).mono ?_; rintro e w' ⟨rfl, rfl⟩)
  go_loopw [6, 7, 8, 27] (fun vc vt ve i wr => ∃ (k gc cc gt ct ge ce n : Nat) (ps : List Nat) (ts es : List Int), k ≤ 0 ∧ n ≤ k + 1 ∧ i = .int .i64 k ∧ vc = .slice (some ⟨gc, 0, none⟩) n cc ∧ vt = .slice (some ⟨gt, 0, none⟩) n ct ∧ ve = .slice (some ⟨ge, 0, none⟩) n ce ∧ Inv w.heap.size w wr gc cc gt ct ge ce n ps ts es) (fun _ _ _ i _ => 0 - (intOf i).toNat)
  case atStart => exact ⟨0, w.heap.size + 1, 1, w.heap.size + 1 + 1, 1, w.heap.size + 1 + 1 + 1, 1, 1, [w.heap.size], [a0], [0], Nat.zero_le _, by omega, rfl, rfl, rfl, rfl, inv_start w a0 h0⟩
  case round =>
    obtain ⟨k, gc, cc, gt, ct, ge, ce, n, ps, ts, es, hk, hn, rfl, rfl, rfl, rfl, hI⟩ := hrel
    have hn0 := hI.pos
    by_cases hlt : k < 0
    · exact absurd hlt (by omega)
    · go_wp2_with fail
      go_loopw [127] (fun i wx => ∃ m : Nat, m ≤ n ∧ i = .int .i64 m ∧ Below wr.heap.size wr wx) (fun i _ => n - (intOf i).toNat)
      case atStart => exact ⟨0, Nat.zero_le _, rfl, Below.refl _ _⟩
      case round =>
        obtain ⟨m, hm, rfl, hbx⟩ := hrel
        by_cases hmn : m < n
        · have hJ := hI.ext hbx
          obtain ⟨p, t, e, hp, ht, he, hBp, hpl, hpk, n1, n2, n3, btt, bee⟩ := hJ.cl hmn
          obtain ⟨x1, x2, x3, f2, f3⟩ := hJ.cells hp ht he hmn
          have hi0 : (0 : Int) ≤ (m : Int) := by omega
          have hi1 : (m : Int) < (n : Int) := by omega
          have HPK := (show Hid _ from hpk)
          clear hp ht he hpk
          go_wp2_with fail
          go_region_held3 (fun w' => w'.cell? ⟨gc, m, none⟩ = some (.pointer (some ⟨p, 0, none⟩)) ∧ w'.cell? ⟨gt, m, none⟩ = some (.int .u64 t) ∧ w'.cell? ⟨ge, m, none⟩ = some (.int .i64 e) ∧ w'.heap[p]? = some (.cells #[.int .u64 t, .int .i64 e] 51 (0, 0))) (first | (exact ⟨x1, x2, x3, HPK.out⟩) | assumption) (first | (go_at_call 15; refine (now_any p t e _ ?_).mono ?_; (exact hHeldOf4Z (by assumption)); rintro e w' ⟨rfl, rfl⟩) | (go_at_call 16; refine (err_any p t e _ ?_).mono ?_; (exact hHeldOf4Z (by assumption)); rintro e w' ⟨rfl, rfl⟩))
          go_wp2_with fail
          go_roundw
          case rel => exact ⟨m + 1, by omega, by go_num, hbx.drew⟩
          case measure => simp [intOf]; omega
        · go_wp2_with fail
          go_ret
          exact ⟨rfl, hI.bl.trans (hbx.mono hI.sz)⟩
end Go.Proofs.Ytpeojhhbinfekaa
