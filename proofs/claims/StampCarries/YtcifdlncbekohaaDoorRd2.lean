import Derived.Test.YtcifdlncbekohaaDoorRd
namespace Go.Proofs.YtcifdlncbekohaaDoor
open Go.ChangeShapes Go.WideShapes Go.ChangeAt Go.RowKit

theorem Rdr.trans {w w1 w2 : World} {rb b off L cap a a' : Nat} {e e' : Int} (h : Rdr w w1 rb b off L cap a e) (k : Rdr w1 w2 rb b off L cap a' e') : Rdr w w2 rb b off L cap a' e' :=
  ⟨k.blk, k.os.trans h.os, k.tape.trans h.tape, k.output.trans h.output, k.size.trans h.size, fun j hj => (k.far j hj).trans (h.far j hj)⟩
theorem Rdr.self {w w1 : World} {rb b off L cap a : Nat} {e : Int} (h : Rdr w w1 rb b off L cap a e) : Rdr w1 w1 rb b off L cap a e := ⟨h.blk, rfl, rfl, rfl, rfl, fun _ _ => rfl⟩

theorem and_one {n : Int} (h0 : 0 ≤ n) (h1 : n ≤ 18446744073709551615) : bits .and .u64 n 1 = n % 2 := by
  rw [u64_and n 1 h0 (by omega) (by omega) (by omega), show (1 : Int).toNat = 1 from rfl, nat_mask1]
  omega

set_option maxHeartbeats 1000000 in
theorem signed_any (rb b off L cap a0 : Nat) (e0 : Int) (B : Nat → Int) (w : World) (hR : Rdr w w rb b off L cap a0 e0) (hL : L ≤ 1000000000000000) (ha : a0 ≤ L) (hne : b ≠ rb)
    (hB : ∀ i, i < L → w.cell? ⟨b, off + i, none⟩ = some (.int .u8 (B i))) (bB : ∀ i, i < L → 0 ≤ B i ∧ B i ≤ 255) (he : e0 = 0 ∨ e0 = 11 ∨ e0 = 12) :
    Calls Tryd.prog 34 #[.pointer (some ⟨rb, 0, none⟩)] w fun r w' => r = .returned (.int .i64 (unz (rdSt B L a0 e0).1)) ∧ Rdr w w' rb b off L cap (rdSt B L a0 e0).2.1 (rdSt B L a0 e0).2.2 := by
  have hok := (rdSt_ok (B := B) bB ha he).1
  obtain ⟨n, hn⟩ : ∃ n, (rdSt B L a0 e0).1 = n := ⟨_, rfl⟩
  rw [hn] at hok
  rw [hn]
  have h1 := and_one hok.1 hok.2
  by_cases hp : n % 2 = 0
  · have hv : unz n = n / 2 := by simp [unz, hp]
    rw [hv]
    clear hv
    go_enter Tryd.func34, Tryd.ntmps34
    go_wp2_with (go_at_call 20; refine (number_any rb b off L cap a0 e0 B w hR hL ha hne hB bB).mono ?_; rintro e w' ⟨rfl, hR'⟩)
    go_ret
    exact ⟨rfl, hR'⟩
  · have hv : unz n = -(n / 2) - 1 := by simp [unz, hp]
    rw [hv]
    clear hv
    have hp' : n % 2 = 1 := by omega
    have hx := not_i64 (m := n / 2) (by omega) (by omega)
    clear hp
    go_enter Tryd.func34, Tryd.ntmps34
    go_wp2_with (go_at_call 20; refine (number_any rb b off L cap a0 e0 B w hR hL ha hne hB bB).mono ?_; rintro e w' ⟨rfl, hR'⟩)
    go_ret
    exact ⟨rfl, hR'⟩
end Go.Proofs.YtcifdlncbekohaaDoor
