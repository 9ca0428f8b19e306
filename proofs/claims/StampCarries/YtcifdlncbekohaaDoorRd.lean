import Derived.Test.YtcifdlncbekohaaDoorPure
import Derived.Deep.RegionHeld3
import Derived.Deep.DeepCutAuto
import Derived.WalkLawsBesides
namespace Go.Proofs.YtcifdlncbekohaaDoor
open Go.ChangeShapes Go.WideShapes Go.ChangeAt Go.RowKit

/-- the reader in block rb, in a world that is w but for that block -/
structure Rdr (w wr : World) (rb b off L cap a : Nat) (e : Int) : Prop where
  blk : wr.heap[rb]? = some (.cells #[.slice (some ⟨b, off, none⟩) L cap, .int .i64 a, .int .i64 e] 51 (0, 0))
  os : wr.os = w.os
  tape : wr.tape = w.tape
  output : wr.output = w.output
  size : wr.heap.size = w.heap.size
  far : ∀ k, k ≠ rb → wr.heap[k]? = w.heap[k]?

theorem Rdr.cells {w wr : World} {rb b off L cap a : Nat} {e : Int} (h : Rdr w wr rb b off L cap a e) :
    wr.cell? ⟨rb, 0, none⟩ = some (.slice (some ⟨b, off, none⟩) L cap) ∧ wr.cell? ⟨rb, 1, none⟩ = some (.int .i64 a) ∧ wr.cell? ⟨rb, 2, none⟩ = some (.int .i64 e) ∧ wr.frozen? ⟨rb, 1, none⟩ = false ∧ wr.frozen? ⟨rb, 2, none⟩ = false := by
  have := h.blk
  refine ⟨?_, ?_, ?_, ?_, ?_⟩ <;> simp [World.cell?, World.frozen?, this]

theorem Rdr.drew {w wr : World} {rb b off L cap a : Nat} {e : Int} (h : Rdr w wr rb b off L cap a e) : Rdr w wr.drew rb b off L cap a e := ⟨h.blk, h.os, h.tape, h.output, h.size, h.far⟩

theorem Rdr.setErr {w wr : World} {rb b off L cap a : Nat} {e : Int} (h : Rdr w wr rb b off L cap a e) (e' : Int) : Rdr w (wr.setCell ⟨rb, 2, none⟩ (.int .i64 e')) rb b off L cap a e' := by
  refine ⟨?_, h.os, h.tape, h.output, by simp [h.size], fun k hk => by rw [Below.heap_setCell _ _ _ _ hk]; exact h.far k hk⟩
  simp [World.setCell, Array.getElem?_modify, h.blk]

theorem Rdr.setAt {w wr : World} {rb b off L cap a : Nat} {e : Int} (h : Rdr w wr rb b off L cap a e) (a' : Nat) (x : Int) (hx : x = a') : Rdr w (wr.setCell ⟨rb, 1, none⟩ (.int .i64 x)) rb b off L cap a' e := by
  subst hx
  refine ⟨?_, h.os, h.tape, h.output, by simp [h.size], fun k hk => by rw [Below.heap_setCell _ _ _ _ hk]; exact h.far k hk⟩
  simp [World.setCell, Array.getElem?_modify, h.blk]

set_option maxHeartbeats 1000000 in
theorem number_any (rb b off L cap a0 : Nat) (e0 : Int) (B : Nat → Int) (w : World) (hR : Rdr w w rb b off L cap a0 e0) (hL : L ≤ 1000000000000000) (ha : a0 ≤ L) (hne : b ≠ rb)
    (hB : ∀ i, i < L → w.cell? ⟨b, off + i, none⟩ = some (.int .u8 (B i))) (bB : ∀ i, i < L → 0 ≤ B i ∧ B i ≤ 255) :
    Calls Tryd.prog 20 #[.pointer (some ⟨rb, 0, none⟩)] w fun r w' => r = .returned (.int .u64 (rdSt B L a0 e0).1) ∧ Rdr w w' rb b off L cap (rdSt B L a0 e0).2.1 (rdSt B L a0 e0).2.2 := by
  by_cases he : e0 = 0
  · subst he
    have hst : rdSt B L a0 0 = rdNum B L a0 := rfl
    rw [hst]
    go_enter Tryd.func20, Tryd.ntmps20
    go_wp2
    go_loopw [3, 4] (fun vn vk wr => ∃ (k a : Nat) (n : Int), k ≤ 9 ∧ vn = .int .u64 n ∧ vk = .int .i64 k ∧ a ≤ L ∧ (0 ≤ n ∧ n < p7 k) ∧ rdNum B L a0 = rdGo B L (10 - k) k a n ∧ Rdr w wr rb b off L cap a 0) (fun _ vk _ => 10 - (intOf vk).toNat)
    case atStart => exact ⟨0, a0, 0, by omega, rfl, rfl, ha, ⟨by omega, by decide⟩, rfl, hR⟩
    case round =>
      obtain ⟨k, a, n, hk, rfl, rfl, hal, hn, hrd, hr⟩ := hrel
      obtain ⟨c0, c1, c2, f1, f2⟩ := hr.cells
      have HRD : Hid (rdNum B L a0 = rdGo B L (10 - k) k a n) := hrd
      clear hrd
      by_cases hlt : a < L
      · have cb : wr.cell? ⟨b, off + a, none⟩ = some (.int .u8 (B a)) := (World.cell?_of_block (hr.far b hne)).trans (hB a hlt)
        have bb := bB a hlt
        have hm := mask127 bb.1 bb.2
        have i0 : (0 : Int) ≤ (a : Int) := by omega
        have i1 : (a : Int) < (L : Int) := by omega
        have ia : ((a : Int) == (L : Int)) = false := by simp; omega
        clear hB bB
        by_cases h9 : k = 9
        · by_cases h1 : 1 < B a
          · have HBAD : Hid ((k = 9 ∧ 1 < B a) ∨ (0 < k ∧ B a = 0)) := Or.inl ⟨h9, h1⟩
            go_wp2_with fail
            go_region_held3 (fun w' => w'.cell? ⟨rb, 0, none⟩ = some (.slice (some ⟨b, off, none⟩) L cap) ∧ w'.cell? ⟨rb, 1, none⟩ = some (.int .i64 a)) (go_keep) (fail)
            go_wp2_with fail
            go_region_held3 (fun w' => w'.cell? ⟨rb, 0, none⟩ = some (.slice (some ⟨b, off, none⟩) L cap) ∧ w'.cell? ⟨rb, 1, none⟩ = some (.int .i64 a) ∧ w'.cell? ⟨b, off + a, none⟩ = some (.int .u8 (B a))) (go_keep) (fail)
            go_wp2_with fail
            go_ret
            have hv : rdNum B L a0 = (0, a, 12) := by rw [HRD.out, show 10 - k = (9 - k) + 1 by omega]; exact rd_form (by omega) HBAD.out
            rw [hv]
            exact ⟨rfl, (hr.setErr 12).drew.drew⟩
          · by_cases h2 : B a = 0
            · have HBAD : Hid ((k = 9 ∧ 1 < B a) ∨ (0 < k ∧ B a = 0)) := Or.inr ⟨by omega, h2⟩
              go_wp2_with fail
              go_region_held3 (fun w' => w'.cell? ⟨rb, 0, none⟩ = some (.slice (some ⟨b, off, none⟩) L cap) ∧ w'.cell? ⟨rb, 1, none⟩ = some (.int .i64 a)) (go_keep) (fail)
              go_wp2_with fail
              go_region_held3 (fun w' => w'.cell? ⟨rb, 0, none⟩ = some (.slice (some ⟨b, off, none⟩) L cap) ∧ w'.cell? ⟨rb, 1, none⟩ = some (.int .i64 a) ∧ w'.cell? ⟨b, off + a, none⟩ = some (.int .u8 (B a))) (go_keep) (fail)
              go_wp2_with fail
              go_ret
              have hv : rdNum B L a0 = (0, a, 12) := by rw [HRD.out, show 10 - k = (9 - k) + 1 by omega]; exact rd_form (by omega) HBAD.out
              rw [hv]
              exact ⟨rfl, (hr.setErr 12).drew.drew⟩
            · have HOK : Hid (¬ ((k = 9 ∧ 1 < B a) ∨ (0 < k ∧ B a = 0))) := by
                intro h; rcases h with h | h <;> omega
              have hb0 : (B a == 0) = false := by simp [h2]
              go_wp2_with fail
              go_region_held3 (fun w' => w'.cell? ⟨rb, 0, none⟩ = some (.slice (some ⟨b, off, none⟩) L cap) ∧ w'.cell? ⟨rb, 1, none⟩ = some (.int .i64 a)) (go_keep) (fail)
              go_wp2_with fail
              go_region_held3 (fun w' => w'.cell? ⟨rb, 0, none⟩ = some (.slice (some ⟨b, off, none⟩) L cap) ∧ w'.cell? ⟨rb, 1, none⟩ = some (.int .i64 a) ∧ w'.cell? ⟨b, off + a, none⟩ = some (.int .u8 (B a))) (go_keep) (fail)
              go_wp2_with fail
              go_ret
              subst h9
              have hv : rdNum B L a0 = (n + p7 9 * (B a % 128), a + 1, 0) := by rw [HRD.out]; exact rd_last (by omega) HOK.out (by omega)
              rw [hv]
              exact ⟨congrArg (fun x => Ending.returned (Value.int .u64 x)) (or_step9 hn.1 hn.2 (c := B a) (by omega)), (hr.setAt (a + 1) _ (by simp)).drew.drew⟩
        · by_cases h2 : 0 < k ∧ B a = 0
          · have HBAD : Hid ((k = 9 ∧ 1 < B a) ∨ (0 < k ∧ B a = 0)) := Or.inr h2
            obtain ⟨h3, h4⟩ := h2
            go_wp2_with fail
            go_region_held3 (fun w' => w'.cell? ⟨rb, 0, none⟩ = some (.slice (some ⟨b, off, none⟩) L cap) ∧ w'.cell? ⟨rb, 1, none⟩ = some (.int .i64 a)) (go_keep) (fail)
            go_wp2_with fail
            go_region_held3 (fun w' => w'.cell? ⟨rb, 0, none⟩ = some (.slice (some ⟨b, off, none⟩) L cap) ∧ w'.cell? ⟨rb, 1, none⟩ = some (.int .i64 a) ∧ w'.cell? ⟨b, off + a, none⟩ = some (.int .u8 (B a))) (go_keep) (fail)
            go_wp2_with fail
            go_ret
            have hv : rdNum B L a0 = (0, a, 12) := by rw [HRD.out, show 10 - k = (9 - k) + 1 by omega]; exact rd_form (by omega) HBAD.out
            rw [hv]
            exact ⟨rfl, (hr.setErr 12).drew.drew⟩
          · have HOK : Hid (¬ ((k = 9 ∧ 1 < B a) ∨ (0 < k ∧ B a = 0))) := by
              intro h; rcases h with h | h <;> omega
            by_cases hk0 : 0 < k
            · have h2' : ¬ B a = 0 := fun e => h2 ⟨hk0, e⟩
              have hb0 : (B a == 0) = false := by simp [h2']
              have hor := or_step (k := k) hk hn.1 hn.2 bb (fun e => absurd e h9)
              clear h2
              go_wp2_with fail
              go_region_held3 (fun w' => w'.cell? ⟨rb, 0, none⟩ = some (.slice (some ⟨b, off, none⟩) L cap) ∧ w'.cell? ⟨rb, 1, none⟩ = some (.int .i64 a)) (go_keep) (fail)
              go_wp2_with fail
              go_region_held3 (fun w' => w'.cell? ⟨rb, 0, none⟩ = some (.slice (some ⟨b, off, none⟩) L cap) ∧ w'.cell? ⟨rb, 1, none⟩ = some (.int .i64 a) ∧ w'.cell? ⟨b, off + a, none⟩ = some (.int .u8 (B a))) (go_keep) (fail)
              go_wp2_with fail
              · go_ret
                have hv : rdNum B L a0 = (n + p7 k * (B a % 128), a + 1, 0) := by rw [HRD.out, show 10 - k = (9 - k) + 1 by omega]; exact rd_last (by omega) HOK.out (by omega)
                rw [hv]
                exact ⟨rfl, (hr.setAt (a + 1) _ (by simp)).drew.drew⟩
              · go_roundw
                case rel => exact ⟨k + 1, a + 1, n + p7 k * (B a % 128), by omega, rfl, by go_num, by omega, acc_lt hn.1 hn.2 (by omega), by rw [HRD.out, show 10 - k = (9 - k) + 1 by omega, rd_more (by omega) HOK.out (by omega), show 10 - (k + 1) = 9 - k by omega], (hr.setAt (a + 1) _ (by simp)).drew.drew⟩
                case measure => simp [intOf]; omega
            · have hor := or_step (k := k) hk hn.1 hn.2 bb (fun e => absurd e h9)
              clear h2
              go_wp2_with fail
              go_region_held3 (fun w' => w'.cell? ⟨rb, 0, none⟩ = some (.slice (some ⟨b, off, none⟩) L cap) ∧ w'.cell? ⟨rb, 1, none⟩ = some (.int .i64 a)) (go_keep) (fail)
              go_wp2_with fail
              go_region_held3 (fun w' => w'.cell? ⟨rb, 0, none⟩ = some (.slice (some ⟨b, off, none⟩) L cap) ∧ w'.cell? ⟨rb, 1, none⟩ = some (.int .i64 a) ∧ w'.cell? ⟨b, off + a, none⟩ = some (.int .u8 (B a))) (go_keep) (fail)
              go_wp2_with fail
              · go_ret
                have hv : rdNum B L a0 = (n + p7 k * (B a % 128), a + 1, 0) := by rw [HRD.out, show 10 - k = (9 - k) + 1 by omega]; exact rd_last (by omega) HOK.out (by omega)
                rw [hv]
                exact ⟨rfl, (hr.setAt (a + 1) _ (by simp)).drew.drew⟩
              · go_roundw
                case rel => exact ⟨k + 1, a + 1, n + p7 k * (B a % 128), by omega, rfl, by go_num, by omega, acc_lt hn.1 hn.2 (by omega), by rw [HRD.out, show 10 - k = (9 - k) + 1 by omega, rd_more (by omega) HOK.out (by omega), show 10 - (k + 1) = 9 - k by omega], (hr.setAt (a + 1) _ (by simp)).drew.drew⟩
                case measure => simp [intOf]; omega
      · obtain rfl : a = L := by omega
        have ia : ((a : Int) == (a : Int)) = true := by simp
        clear hB bB
        go_wp2_with fail
        go_region_held3 (fun w' => w'.cell? ⟨rb, 0, none⟩ = some (.slice (some ⟨b, off, none⟩) a cap) ∧ w'.cell? ⟨rb, 1, none⟩ = some (.int .i64 a)) (go_keep) (fail)
        go_wp2_with fail
        go_ret
        have hv : rdNum B a a0 = (0, a, 11) := by rw [HRD.out, show 10 - k = (9 - k) + 1 by omega]; exact rd_short (by omega)
        rw [hv]
        exact ⟨rfl, (hr.setErr 11).drew⟩
  · have hst : rdSt B L a0 e0 = (0, a0, e0) := by simp [rdSt, he]
    rw [hst]
    obtain ⟨c0, c1, c2, f1, f2⟩ := hR.cells
    have hf : (e0 == 0) = false := by simp [he]
    clear hst hB bB
    go_enter Tryd.func20, Tryd.ntmps20
    go_wp2
    refine wp_loop_rounds 1 ?_
    rw [rounds_succ]
    go_wp2
    go_ret
    exact ⟨rfl, hR⟩
end Go.Proofs.YtcifdlncbekohaaDoor
