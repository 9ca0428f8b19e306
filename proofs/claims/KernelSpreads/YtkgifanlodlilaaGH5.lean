import Derived.Test.YtkgifanlodlilaaGH4
import Derived.Deep.RegionLaw
import Derived.Deep.RegionHeld3
import Derived.Deep.Cut
import Derived.Deep.DeepCutAuto
import Derived.Deep.CutBlock
import Derived.Deep.CutRange
import Derived.BigQuiet
import Derived.Handy
namespace Go.Proofs.Ytkgifanlodlilaa
open Go.ChangeShapes Go.WideShapes Go.ChangeAt Go.RowKit
set_option linter.unusedVariables false
set_option linter.unusedSimpArgs false


/-- the first j parts of a row, dealt: whose they are, and what each worker has -/
def dl (K : Nat → Int) (d : Nat → Nat) (m : Nat) : Nat → (Nat → Int) × (Nat → Int)
  | 0 => (fun _ => 0, fun _ => 0)
  | j + 1 => (setF (dl K d m j).1 (d j) ((lowI (dl K d m j).2 m : Nat) : Int), setF (dl K d m j).2 (lowI (dl K d m j).2 m) ((dl K d m j).2 (lowI (dl K d m j).2 m) + K (d j)))
theorem dl_bound {K : Nat → Int} {d : Nat → Nat} {m n : Nat} (hK : ∀ i, i < n → 0 ≤ K (d i) ∧ K (d i) ≤ 1000) : ∀ j, j ≤ n → ∀ l, 0 ≤ (dl K d m j).2 l ∧ (dl K d m j).2 l ≤ (j : Int) * 1000
  | 0, _, l => by simp [dl]
  | j + 1, hj, l => by
    have h1 := dl_bound (m := m) hK j (by omega) l
    have h2 := dl_bound (m := m) hK j (by omega) (lowI (dl K d m j).2 m)
    have h3 := hK j (by omega)
    show 0 ≤ setF (dl K d m j).2 (lowI (dl K d m j).2 m) ((dl K d m j).2 (lowI (dl K d m j).2 m) + K (d j)) l ∧ setF (dl K d m j).2 (lowI (dl K d m j).2 m) ((dl K d m j).2 (lowI (dl K d m j).2 m) + K (d j)) l ≤ ((j + 1 : Nat) : Int) * 1000
    unfold setF
    split <;> omega
theorem zero_row {W : World} {n : Nat} (hn : n ≤ 64) : IRow (W.alloc (.cells (madeCells #[Value.int .i64 0] n) 3)) W.heap.size W.heap.size n n (fun _ => 0) := by
  refine IRow.mk0 (cur := onesL 0 n) (by rw [World.alloc_heap_new, made_ones]) (onesL_len (Nat.zero_le _)) (by unfold maxLen; omega) (Nat.le_refl _) fun i hi => ?_
  unfold onesL
  simp [hi]
set_option maxRecDepth 100000 in
set_option maxHeartbeats 4000000 in
theorem dealt_any (q : Option Addr) (n c wk : Nat) (K : Nat → Int) (hn : n ≤ 64) (hw1 : 1 ≤ wk) (hw2 : wk ≤ 64) (hKb : ∀ i, i < n → 0 ≤ K i ∧ K i ≤ 1000) (w : World) (hK : KAt w q n K) : Calls Try.prog 25 #[.slice q n c, .int .i64 (wk : Int)] w fun e w' => ∃ (g : Nat) (d : Nat → Nat), e = .returned (.slice (some ⟨g, 0, none⟩) n n) ∧ IRow w' w.heap.size g n n (dl K d (wk - 1) n).1 ∧ Hvy n K d ∧ Below w.heap.size w w' := by
  obtain ⟨i5, hi5, hz0, hz1, hz2⟩ := info_parts infoInt1
  have hrun := fun W => run_make_row (P := Try.prog) 28 3 i5 (.int .i64 0) Try.underlying28 hi5 hz0 hz1 rfl .i64 .i64 n (by rw [hz2]; omega) (by omega) W
  have hrun2 := fun W => run_make_row (P := Try.prog) 28 3 i5 (.int .i64 0) Try.underlying28 hi5 hz0 hz1 rfl .i64 .i64 wk (by rw [hz2]; omega) (by omega) W
  obtain ⟨w1, hw1e⟩ : ∃ w1, w.alloc (.cells (madeCells #[Value.int .i64 0] n) 3) = w1 := ⟨_, rfl⟩
  obtain ⟨w2, hw2e⟩ : ∃ w2, w1.alloc (.cells (madeCells #[Value.int .i64 0] wk) 3) = w2 := ⟨_, rfl⟩
  have r1 := zero_row (W := w) hn
  rw [hw1e] at r1
  have r2 := zero_row (W := w1) hw2
  rw [hw2e] at r2
  have b1 : Below w.heap.size w w1 := by rw [← hw1e]; exact (Below.refl _ w).alloc (Nat.le_refl _) _
  have b2 : Below w1.heap.size w1 w2 := by rw [← hw2e]; exact (Below.refl _ w1).alloc (Nat.le_refl _) _
  have s1 : w1.heap.size = w.heap.size + 1 := by rw [← hw1e, World.size_alloc]
  have s2 : w2.heap.size = w.heap.size + 2 := by rw [← hw2e, World.size_alloc, s1]
  have bb : Below w.heap.size w w2 := b1.trans (b2.mono b1.size)
  have hK2 : KAt w2 q n K := hK.below bb
  have HH := heaviest_any q n c K hn w2 hK2
  have HW1 : Hid (w.alloc (.cells (madeCells #[Value.int .i64 0] n) 3) = w1) := hw1e
  have HW2 : Hid (w1.alloc (.cells (madeCells #[Value.int .i64 0] wk) 3) = w2) := hw2e
  have r1' := r1.later b2
  rw [s1] at r2
  have H0 : Hid (IRow w2 w.heap.size w.heap.size n n (fun _ => 0) ∧ IRow w2 (w.heap.size + 1) (w.heap.size + 1) wk wk (fun _ => 0) ∧ Below w.heap.size w w2 ∧ w2.heap.size = w.heap.size + 2 ∧ KAt w q n K) := ⟨r1', r2, bb, s2, hK⟩
  have HKB : Hid (∀ i, i < n → 0 ≤ K i ∧ K i ≤ 1000) := hKb
  clear hi5 hz0 hz1 hz2 hw1e hw2e r1 r2 r1' b1 b2 s1 s2 bb hK2 hK hKb
  go_enter Try.func25, Try.ntmps25
  go_wp2_with (go_at_call 34; rw [HW1.out, HW2.out]; (with_reducible refine HH.mono ?_); rintro e w3 ⟨gp, d, rfl, h5, h6, h7⟩; have H3 : Hid (IRow w3 w2.heap.size gp n n (fun i => (d i : Int)) ∧ Hvy n K d ∧ Below w2.heap.size w2 w3) := ⟨h5, h6, h7⟩; clear h5 h6 h7)
  clear HH
  obtain ⟨bo, hbo⟩ : ∃ bo, w.heap.size = bo := ⟨_, rfl⟩
  obtain ⟨bl, hbl⟩ : ∃ bl, w.heap.size + 1 = bl := ⟨_, rfl⟩
  have HN : Hid (w.heap.size = bo ∧ w.heap.size + 1 = bl ∧ w.heap.size + 2 ≤ gp) := ⟨hbo, hbl, by have := H3.out.1.lt.1; have := H0.out.2.2.2.1; omega⟩
  rw [hbl, hbo]
  clear hbo hbl hrun hrun2
  go_loopw [18] (fun y wr => ∃ (j : Nat), y = .int .i64 (j : Int) ∧ j ≤ n ∧ IRow wr w.heap.size bo n n (dl K d (wk - 1) j).1 ∧ IRow wr (w.heap.size + 1) bl wk wk (dl K d (wk - 1) j).2 ∧ IRow wr w2.heap.size gp n n (fun i => (d i : Int)) ∧ Below w.heap.size w wr) (fun y _ => n - (intOf y).toNat)
  case atStart =>
    obtain ⟨e1, e2, e3⟩ := HN.out
    subst e1 e2
    have h1 := H0.out
    have h2 := H3.out
    exact ⟨0, rfl, Nat.zero_le _, h1.1.later h2.2.2, h1.2.1.later h2.2.2, h2.1, h1.2.2.1.trans (h2.2.2.mono h1.2.2.1.size)⟩
  case round =>
    obtain ⟨j, rfl, hj, ro, rl, rp, hbr⟩ := hrel
    by_cases hlt : j < n
    · have dlt : decide ((j : Int) < (n : Int)) = true := by simp; omega
      have hm := gmeas hlt
      have ei : IntKind.i64.wrap ((j : Int) + 1) = (j : Int) + 1 := by rw [IntKind.wrap_i64]; omega
      have i0 : (0 : Int) ≤ (j : Int) := by omega
      have i1 : (j : Int) < (n : Int) := by omega
      have y0 := rp.cell hlt
      have hKr := H0.out.2.2.2.2.below hbr
      have hd := H3.out.2.1.lt j hlt
      have hbd := dl_bound (K := K) (d := d) (m := wk - 1) (n := n) (fun i hi => HKB.out _ (H3.out.2.1.lt i hi)) j hj
      have hkb := HKB.out _ hd
      have hll := lowI_le (dl K d (wk - 1) j).2 (wk - 1)
      have HMi := smin_any (some ⟨bl, 0, none⟩) wk wk (dl K d (wk - 1) j).2 hw1 hw2 wr rl.kat
      have HIx := sindex_any (some ⟨bl, 0, none⟩) wk wk (dl K d (wk - 1) j).2 hw1 hw2 wr rl.kat
      have hnx : dl K d (wk - 1) (j + 1) = (setF (dl K d (wk - 1) j).1 (d j) ((lowI (dl K d (wk - 1) j).2 (wk - 1) : Nat) : Int), setF (dl K d (wk - 1) j).2 (lowI (dl K d (wk - 1) j).2 (wk - 1)) ((dl K d (wk - 1) j).2 (lowI (dl K d (wk - 1) j).2 (wk - 1)) + K (d j))) := rfl
      obtain ⟨ld, hld⟩ : ∃ ld, (dl K d (wk - 1) j).2 = ld := ⟨_, rfl⟩
      rw [hld] at HMi HIx hbd hll hnx rl
      obtain ⟨l, hl⟩ : ∃ l, lowI ld (wk - 1) = l := ⟨_, rfl⟩
      rw [hl] at HMi HIx hll hnx
      have hbl9 := hbd l
      obtain ⟨pd, hpd⟩ : ∃ pd, d j = pd := ⟨_, rfl⟩
      rw [hpd] at y0 hd hkb hnx
      obtain ⟨vl, hvl⟩ : ∃ vl, ld l = vl := ⟨_, rfl⟩
      obtain ⟨vk, hvk⟩ : ∃ vk, K pd = vk := ⟨_, rfl⟩
      rw [hvl] at HMi HIx hbl9 hnx
      rw [hvk] at hkb hnx
      obtain hz | ⟨gk, ok, hq, hgk, hck⟩ := hKr
      · omega
      have k0 := hck pd hd
      rw [hvk] at k0
      have l0 := rl.cell (show l < wk by omega)
      rw [hvl] at l0
      have o0 := ro.cell hd
      have fo := ro.fz
      have fl := rl.fz
      have hnn := HN.out
      have hne1 : bl ≠ bo := by omega
      have hgkb : gk < w.heap.size := by
        rcases H0.out.2.2.2.2 with h9 | ⟨g9, o9, e9, h9, _⟩
        · omega
        · rw [e9] at hq; injection hq with hq; injection hq with hq; omega
      have hne2 : gk ≠ bo := by omega
      have hne3 : gk ≠ bl := by omega
      have p0 : (0 : Int) ≤ (pd : Int) := by omega
      have p1 : (pd : Int) < (n : Int) := by omega
      have l1 : (0 : Int) ≤ (l : Int) := by omega
      have l2 : (l : Int) < (wk : Int) := by omega
      have e9 : IntKind.i64.wrap (vl + vk) = vl + vk := by rw [IntKind.wrap_i64]; omega
      have ro2 := ro.put pd (l : Int)
      have rl2 := rl.off (k := bo) (i := pd) (v := .int .i64 (l : Int)) (fun e => hne1 e.symm)
      have rp2 := rp.off (k := bo) (i := pd) (v := .int .i64 (l : Int)) (by omega)
      have k0' : (wr.setCell ⟨bo, pd, none⟩ (.int .i64 (l : Int))).cell? ⟨gk, ok + pd, none⟩ = some (.int .i64 vk) := (World.cell?_of_block (Below.heap_setCell _ _ _ _ hne2)).trans k0
      have l0' := rl2.cell (show l < wk by omega)
      rw [hvl] at l0'
      have fl' := rl2.fz
      have rl3 := rl2.put l (vl + vk)
      have ro3 := ro2.off (k := bl) (i := l) (v := .int .i64 (vl + vk)) hne1
      have rp3 := rp2.off (k := bl) (i := l) (v := .int .i64 (vl + vk)) (by omega)
      have hb3 : Below w.heap.size w ((wr.setCell ⟨bo, pd, none⟩ (.int .i64 (l : Int))).setCell ⟨bl, l, none⟩ (.int .i64 (vl + vk))) := (hbr.setCell (by show w.heap.size ≤ bo; omega) _).setCell (by show w.heap.size ≤ bl; omega) _
      obtain ⟨w5, hw5⟩ : ∃ w5, (wr.setCell ⟨bo, pd, none⟩ (.int .i64 (l : Int))).setCell ⟨bl, l, none⟩ (.int .i64 (vl + vk)) = w5 := ⟨_, rfl⟩
      rw [hw5] at rl3 ro3 rp3 hb3
      have hf1 : (dl K d (wk - 1) (j + 1)).1 = setF (dl K d (wk - 1) j).1 pd (l : Int) := by rw [hnx]
      have hf2 : (dl K d (wk - 1) (j + 1)).2 = setF ld l (vl + vk) := by rw [hnx]
      rw [← hf1] at ro3
      rw [← hf2] at rl3
      have HF : Hid (IRow w5 w.heap.size bo n n (dl K d (wk - 1) (j + 1)).1 ∧ IRow w5 (w.heap.size + 1) bl wk wk (dl K d (wk - 1) (j + 1)).2 ∧ IRow w5 w2.heap.size gp n n (fun i => (d i : Int)) ∧ Below w.heap.size w w5) := ⟨ro3, rl3, rp3, hb3⟩
      have HW5 : Hid ((wr.setCell ⟨bo, pd, none⟩ (.int .i64 (l : Int))).setCell ⟨bl, l, none⟩ (.int .i64 (vl + vk)) = w5) := hw5
      rw [hq]
      clear hw5 ro rl rp hbr hld hl hpd hvl hvk hq hck hnx hf1 hf2 ro2 rl2 rp2 ro3 rl3 rp3 hb3 hbd hbl9 hkb hgk hgkb hnn
      go_upto_region 8 with (first | (go_at_call 36; (with_reducible refine HMi.mono ?_); rintro e w4 ⟨rfl, hw4⟩; subst w4) | (go_at_call 35; (with_reducible refine HIx.mono ?_); rintro e w4 ⟨rfl, hw4⟩; subst w4))
      clear y0 k0 l0 o0 fo fl
      go_region
      all_goals (
        go_wp2_with fail
        rw [HW5.out]
        exact ⟨⟨j + 1, rfl, hlt, HF.out.1.later (drewG _), HF.out.2.1.later (drewG _), HF.out.2.2.1.later (drewG _), HF.out.2.2.2.trans ((drewG _).mono HF.out.2.2.2.size)⟩, hm⟩)
    · have dlt : decide ((j : Int) < (n : Int)) = false := by simp; omega
      obtain rfl : j = n := by omega
      have H4 : Hid (IRow wr w.heap.size bo j j (dl K d (wk - 1) j).1 ∧ Below w.heap.size w wr) := ⟨ro, hbr⟩
      clear ro rl rp hbr
      go_wp2_with fail
      go_ret
      exact ⟨bo, d, rfl, H4.out.1, H3.out.2.1, H4.out.2⟩
end Go.Proofs.Ytkgifanlodlilaa
