import Derived.Test.YtlklolmhaiaaiaaKY35
import Derived.Test.YtlklolmhaiaaiaaKY28a
namespace Go.Proofs.Ytlklolmhaiaaiaa
open Go.ChangeShapes Go.WideShapes Go.ChangeAt Go.RowKit
set_option linter.unusedVariables false
set_option linter.unusedSimpArgs false

/-- events that lie somewhere -/
def EvO (W : World) (b o N : Nat) (X : Nat → Ev) : Prop := b < W.heap.size ∧ ∀ i r, i < N → r < 6 → W.cell? ⟨b, o + i * 6 + r, none⟩ = some (evC (X i) r)
theorem EvO.later {W W' : World} {b o N : Nat} {X : Nat → Ev} (h : EvO W b o N X) (hb : Below W.heap.size W W') : EvO W' b o N X := ⟨Nat.lt_of_lt_of_le h.1 hb.size, fun i r hi hr => (cell_below (a := ⟨b, o + i * 6 + r, none⟩) hb h.1).trans (h.2 i r hi hr)⟩
theorem EvO.keep {W W' : World} {b o N : Nat} {X : Nat → Ev} {S : Nat → Prop} (h : EvO W b o N X) (hc : Ch S W W') (hs : ¬ S b) : EvO W' b o N X := ⟨Nat.lt_of_lt_of_le h.1 hc.size, fun i r hi hr => (World.cell?_of_block (hc.block b h.1 hs)).trans (h.2 i r hi hr)⟩
theorem EvO.part {W : World} {b o N : Nat} {X : Nat → Ev} (h : EvO W b o N X) (k m : Nat) (hk : k + m ≤ N) : EvO W b (o + k * 6) m (fun i => X (k + i)) := ⟨h.1, fun i r hi hr => by rw [show o + k * 6 + i * 6 + r = o + (k + i) * 6 + r by omega]; exact h.2 (k + i) r (by omega) hr⟩
theorem EvO.xat {W : World} {b o N : Nat} {X : Nat → Ev} (h : EvO W b o N X) : XAt W (some ⟨b, o, none⟩) N (fun j => evC (X (j / 6)) (j % 6)) := .inr ⟨b, o, rfl, h.1, fun j hj => by
  have := h.2 (j / 6) (j % 6) (by omega) (by omega)
  rw [show o + j / 6 * 6 + j % 6 = o + j by omega] at this
  exact this⟩
theorem EvO.news {W : World} {b o N : Nat} {X : Nat → Ev} (h : EvO W b o N X) : ∀ j u, (cellsF (fun j => evC (X (j / 6)) (j % 6)) (N * 6))[j]? = some u → W.cell? ((⟨b, o, none⟩ : Addr).add j) = some u := fun j u hj => by
  have hl : j < N * 6 := by
    have := (List.getElem?_eq_some_iff.1 hj).1
    rwa [cellsF_len] at this
  rw [cellsF_at _ hl] at hj
  rw [addr_add0]
  have := h.2 (j / 6) (j % 6) (by omega) (by omega)
  rw [show o + j / 6 * 6 + j % 6 = o + j by omega] at this
  rw [this]
  exact hj
theorem evOne (X : Nat → Ev) (n : Nat) : ∀ u ∈ cellsF (fun j => evC (X (j / 6)) (j % 6)) n, u.oneCell' = true := fun u hu => by
  unfold cellsF at hu
  obtain ⟨j, _, rfl⟩ := List.mem_map.1 hu
  exact evC_one _ _ (Nat.mod_lt _ (by decide))
/-- a row of events of the call's own -/
def EvRow (W : World) (base : Nat) (v : Value) (m : Nat) (Y : Nat → Ev) : Prop := Own W base 64 6 v m (fun j => evC (Y (j / 6)) (j % 6))
theorem EvRow.app {W : World} {base : Nat} {v : Value} {m k : Nat} {Y Z : Nat → Ev} (h : W.ownsRow base 64 6 v (m + k) (cellsF (fun j => evC (Y (j / 6)) (j % 6)) (m * 6) ++ cellsF (fun j => evC (Z (j / 6)) (j % 6)) (k * 6))) : EvRow W base v (m + k) (fun i => if i < m then Y i else Z (i - m)) := by
  rw [cellsF_append, show m * 6 + k * 6 = (m + k) * 6 by omega] at h
  refine Own.congr (F := fun j => if j < m * 6 then evC (Y (j / 6)) (j % 6) else evC (Z ((j - m * 6) / 6)) ((j - m * 6) % 6)) h fun j hj => ?_
  show _ = evC (if j / 6 < m then Y (j / 6) else Z (j / 6 - m)) (j % 6)
  by_cases h1 : j < m * 6
  · rw [if_pos h1, if_pos (by omega)]
  · rw [if_neg h1, if_neg (by omega), show (j - m * 6) / 6 = j / 6 - m by omega, show (j - m * 6) % 6 = j % 6 by omega]
theorem EvRow.evo {W : World} {base b m c : Nat} {Y : Nat → Ev} (h : EvRow W base (.slice (some ⟨b, 0, none⟩) m c) m Y) : EvO W b 0 m Y ∧ base ≤ b ∧ m ≤ c := by
  obtain ⟨cur, h1, h2, h3, h4, h5, h6⟩ := Own.block h
  refine ⟨⟨lt_of_block h1, fun i r hi hr => ?_⟩, h5, h3⟩
  rw [Nat.zero_add, Own.cell h (j := i * 6 + r) (by omega)]
  rw [show (i * 6 + r) / 6 = i by omega, show (i * 6 + r) % 6 = r by omega]
set_option maxRecDepth 100000 in
set_option maxHeartbeats 4000000 in
theorem seekO (b o N c : Nat) (X : Nat → Ev) (kt ks kq : Int) (W : World) (h : EvO W b o N X) (hN : N ≤ 8192) (hsrt : ∀ i j, i < j → j < N → keyLt (X i) (X j)) :
    Calls Try.prog 28 #[.slice (some ⟨b, o, none⟩) N c, .agg #[.int .u64 kt, .int .i64 ks, .int .u64 kq]] W fun e W' => ∃ (i0 : Nat) (th : Bool), e = .returned (.tuple #[.int .i64 (i0 : Int), .bool th]) ∧ (th = true ↔ ∃ j, j < N ∧ cmpE kt ks kq (X j) = 0) ∧ Below W.heap.size W W' ∧ (th = true → i0 < N ∧ cmpE kt ks kq (X i0) = 0) ∧ i0 ≤ N ∧ (∀ j, j < i0 → keyCmp (X j).t (X j).s (X j).q kt ks kq = -1) ∧ (i0 < N → keyCmp (X i0).t (X i0).s (X i0).q kt ks kq ≠ -1) := by
  obtain ⟨W1, hW1⟩ : ∃ W1, W.alloc (.cells #[.int .u64 kt, .int .i64 ks, .int .u64 kq] 30) = W1 := ⟨_, rfl⟩
  have hb1 : Below W.heap.size W W1 := by rw [← hW1]; exact (Below.refl _ W).alloc (Nat.le_refl _) _
  have hK1 : KBx W1 W.heap.size kt ks kq := by unfold KBx; rw [← hW1]; exact World.alloc_heap_new W _
  have HW : Hid (W.alloc (.cells #[.int .u64 kt, .int .i64 ks, .int .u64 kq] 30) = W1) := hW1
  clear hW1
  have h1 := h.later hb1
  go_enter Try.func28, Try.ntmps28
  go_upto_block 0 with fail
  rw [HW.out]
  go_cut [6] (fun x wx => ∃ i : Nat, x = .int .i64 (i : Int) ∧ i ≤ N ∧ (∀ j, j < i → keyCmp (X j).t (X j).s (X j).q kt ks kq = -1) ∧ (i < N → keyCmp (X i).t (X i).s (X i).q kt ks kq ≠ -1) ∧ Below W1.heap.size W1 wx)
  case first =>
    go_wp2_with fail
    go_loopw [6] (fun x wr => ∃ i : Nat, x = .int .i64 (i : Int) ∧ i ≤ N ∧ (∀ j, j < i → keyCmp (X j).t (X j).s (X j).q kt ks kq = -1) ∧ Below W1.heap.size W1 wr) (fun x _ => N - (intOf x).toNat)
    case atStart => exact ⟨0, rfl, Nat.zero_le _, fun j hj => absurd hj (Nat.not_lt_zero _), Below.refl _ _⟩
    case round =>
      obtain ⟨i, rfl, hiN, hall, hbr⟩ := hrel
      have HALL : Hid (∀ j, j < i → keyCmp (X j).t (X j).s (X j).q kt ks kq = -1) := hall
      clear hall
      by_cases hlt : i < N
      · have dl : decide ((i : Int) < (N : Int)) = true := by simp; omega
        have i0 : (0 : Int) ≤ (i : Int) := by omega
        have i1 : (i : Int) < (N : Int) := by omega
        have hr := h1.later hbr
        have x0 : wr.cell? ⟨b, o + i * 6, none⟩ = some (.int .u64 (X i).t) := hr.2 i 0 hlt (by decide)
        have x1 : wr.cell? ⟨b, o + i * 6 + 1, none⟩ = some (.int .i64 (X i).s) := hr.2 i 1 hlt (by decide)
        have x2 : wr.cell? ⟨b, o + i * 6 + 2, none⟩ = some (.int .u64 (X i).q) := hr.2 i 2 hlt (by decide)
        have hKr : KBx wr W.heap.size kt ks kq := (hbr.block _ (lt_of_block hK1)).trans hK1
        obtain ⟨k0, k1, k2⟩ := hKr.cells
        have lk := lt_of_block hKr
        have HB := before_any (X i).t (X i).s (X i).q kt ks kq wr.drew
        have h3 := keyCmp_three (X i).t (X i).s (X i).q kt ks kq
        obtain ⟨cm, hcm⟩ : ∃ cm, keyCmp (X i).t (X i).s (X i).q kt ks kq = cm := ⟨_, rfl⟩
        rw [hcm] at HB h3
        have HCM : Hid (keyCmp (X i).t (X i).s (X i).q kt ks kq = cm) := hcm
        clear hcm
        have ei : IntKind.i64.wrap ((i : Int) + 1) = (i : Int) + 1 := by rw [IntKind.wrap_i64]; omega
        go_wp2_with fail
        go_region_held3 (fun w' => w'.cell? ⟨W.heap.size, 0, none⟩ = some (.int .u64 kt) ∧ w'.cell? ⟨W.heap.size, 1, none⟩ = some (.int .i64 ks) ∧ w'.cell? ⟨W.heap.size, 2, none⟩ = some (.int .u64 kq) ∧ w'.cell? ⟨b, o + i * 6, none⟩ = some (.int .u64 (X i).t) ∧ w'.cell? ⟨b, o + i * 6 + 1, none⟩ = some (.int .i64 (X i).s) ∧ w'.cell? ⟨b, o + i * 6 + 2, none⟩ = some (.int .u64 (X i).q)) (first | exact ⟨k0, k1, k2, x0, x1, x2⟩ | exact KP | go_keep) ((go_at_call 56; (with_reducible refine HB.mono ?_); rintro e w1 ⟨rfl, hbb⟩; have hb0 : Below wr.heap.size wr w1 := (below_drewNq _ wr 1).trans (hbb.mono (Nat.le_refl _)); have KP : (fun w' => w'.cell? ⟨W.heap.size, 0, none⟩ = some (.int .u64 kt) ∧ w'.cell? ⟨W.heap.size, 1, none⟩ = some (.int .i64 ks) ∧ w'.cell? ⟨W.heap.size, 2, none⟩ = some (.int .u64 kq) ∧ w'.cell? ⟨b, o + i * 6, none⟩ = some (.int .u64 (X i).t) ∧ w'.cell? ⟨b, o + i * 6 + 1, none⟩ = some (.int .i64 (X i).s) ∧ w'.cell? ⟨b, o + i * 6 + 2, none⟩ = some (.int .u64 (X i).q)) w1 := ⟨(cell_below hb0 lk).trans k0, (cell_below hb0 lk).trans k1, (cell_below hb0 lk).trans k2, (cell_below (a := ⟨b, o + i * 6, none⟩) hb0 hr.1).trans x0, (cell_below (a := ⟨b, o + i * 6 + 1, none⟩) hb0 hr.1).trans x1, (cell_below (a := ⟨b, o + i * 6 + 2, none⟩) hb0 hr.1).trans x2⟩))
        have hbF : Below W1.heap.size W1 w1 := hbr.trans (hb0.mono hbr.size)
        rcases h3 with h3 | h3 | h3
        · have dc : decide (cm < 0) = true := by rw [h3]; rfl
          go_wp2
          refine ⟨⟨i + 1, rfl, by omega, fun j hj => ?_, hbF⟩, meas0 hlt⟩
          by_cases hj2 : j < i
          · exact HALL.out j hj2
          · obtain rfl : j = i := by omega
            exact HCM.out.trans h3
        · have dc : decide (cm < 0) = false := by rw [h3]; rfl
          go_wp2
          go_meet
          exact ⟨i, rfl, hiN, HALL.out, fun _ => by rw [HCM.out, h3]; decide, hbF⟩
        · have dc : decide (cm < 0) = false := by rw [h3]; rfl
          go_wp2
          go_meet
          exact ⟨i, rfl, hiN, HALL.out, fun _ => by rw [HCM.out, h3]; decide, hbF⟩
      · have dl : decide ((i : Int) < (N : Int)) = false := by simp; omega
        go_wp2_with fail
        go_quiet (fail)
        go_wp2
        go_meet
        exact ⟨i, rfl, hiN, HALL.out, fun h9 => absurd h9 hlt, hbr.trans (below_drewNq _ _ _)⟩
  case rest =>
    obtain ⟨i, rfl, hiN, hall, hge, hbx⟩ := hcut
    have HALL9 : Hid (∀ j, j < i → keyCmp (X j).t (X j).s (X j).q kt ks kq = -1) := hall
    have HGE9 : Hid (i < N → keyCmp (X i).t (X i).s (X i).q kt ks kq ≠ -1) := hge
    have hr := h1.later hbx
    have hKr : KBx wc W.heap.size kt ks kq := (hbx.block _ (lt_of_block hK1)).trans hK1
    obtain ⟨k0, k1, k2⟩ := hKr.cells
    have hfin : Below W.heap.size W wc := hb1.trans (hbx.mono hb1.size)
    by_cases hlt : i < N
    · have dl : decide ((i : Int) < (N : Int)) = true := by simp; omega
      have i0 : (0 : Int) ≤ (i : Int) := by omega
      have i1 : (i : Int) < (N : Int) := by omega
      have x0 : wc.cell? ⟨b, o + i * 6, none⟩ = some (.int .u64 (X i).t) := hr.2 i 0 hlt (by decide)
      have x1 : wc.cell? ⟨b, o + i * 6 + 1, none⟩ = some (.int .i64 (X i).s) := hr.2 i 1 hlt (by decide)
      have x2 : wc.cell? ⟨b, o + i * 6 + 2, none⟩ = some (.int .u64 (X i).q) := hr.2 i 2 hlt (by decide)
      have HNO : Hid ((∃ j, j < N ∧ cmpE kt ks kq (X j) = 0) → (X i).t = kt ∧ (X i).s = ks ∧ (X i).q = kq) := by
        rintro ⟨j, hj, hc⟩
        unfold cmpE at hc
        rw [keyCmp_eq] at hc
        by_cases hji : j < i
        · have h9 := hall j hji
          rw [keyCmp_lt] at h9
          omega
        by_cases hij : j = i
        · subst hij
          omega
        · have h9 := hsrt i j (by omega) hj
          rw [keyLt_iff] at h9
          have h8 := hge hlt
          rw [Ne, keyCmp_lt] at h8
          omega
      have HYES : Hid ((X i).t = kt ∧ (X i).s = ks ∧ (X i).q = kq → ∃ j, j < N ∧ cmpE kt ks kq (X j) = 0) := fun h9 => ⟨i, hlt, by unfold cmpE; rw [keyCmp_eq]; omega⟩
      by_cases e0 : (X i).t = kt
      · have g0 : ((X i).t == kt) = true := by simpa using e0
        have E0 : Hid ((X i).t = kt) := e0
        clear e0
        by_cases e1 : (X i).s = ks
        · have g1 : ((X i).s == ks) = true := by simpa using e1
          have E1 : Hid ((X i).s = ks) := e1
          clear e1
          by_cases e2 : (X i).q = kq
          · have g2 : ((X i).q == kq) = true := by simpa using e2
            have E2 : Hid ((X i).q = kq) := e2
            clear e2
            go_wp2_with fail
            go_quiet (fail)
            go_wp2
            refine bodyPost_ret (v := .tuple #[.int .i64 (i : Int), .bool true]) (by simp [results, Try.results28, go_sem]) rfl ?_
            exact ⟨i, true, rfl, ⟨fun _ => HYES.out ⟨E0.out, E1.out, E2.out⟩, fun _ => rfl⟩, hfin.trans (below_drewNq _ _ _), fun _ => ⟨hlt, by unfold cmpE; rw [keyCmp_eq]; exact ⟨E0.out.symm, E1.out.symm, E2.out.symm⟩⟩, hiN, HALL9.out, HGE9.out⟩
          · have g2 : ((X i).q == kq) = false := by simpa using e2
            have E2 : Hid ((X i).q ≠ kq) := e2
            clear e2
            go_wp2_with fail
            go_quiet (fail)
            go_wp2
            refine bodyPost_ret (v := .tuple #[.int .i64 (i : Int), .bool false]) (by simp [results, Try.results28, go_sem]) rfl ?_
            refine ⟨i, false, rfl, ⟨fun h9 => (by cases h9), fun h9 => absurd (HNO.out h9) (fun h => E2.out h.2.2)⟩, hfin.trans (below_drewNq _ _ _), fun h9 => (by cases h9), hiN, HALL9.out, HGE9.out⟩
        · have g1 : ((X i).s == ks) = false := by simpa using e1
          have E1 : Hid ((X i).s ≠ ks) := e1
          clear e1
          go_wp2_with fail
          go_quiet (fail)
          go_wp2
          refine bodyPost_ret (v := .tuple #[.int .i64 (i : Int), .bool false]) (by simp [results, Try.results28, go_sem]) rfl ?_
          refine ⟨i, false, rfl, ⟨fun h9 => (by cases h9), fun h9 => absurd (HNO.out h9) (fun h => E1.out h.2.1)⟩, hfin.trans (below_drewNq _ _ _), fun h9 => (by cases h9), hiN, HALL9.out, HGE9.out⟩
      · have g0 : ((X i).t == kt) = false := by simpa using e0
        have E0 : Hid ((X i).t ≠ kt) := e0
        clear e0
        go_wp2_with fail
        go_quiet (fail)
        go_wp2
        refine bodyPost_ret (v := .tuple #[.int .i64 (i : Int), .bool false]) (by simp [results, Try.results28, go_sem]) rfl ?_
        refine ⟨i, false, rfl, ⟨fun h9 => (by cases h9), fun h9 => absurd (HNO.out h9) (fun h => E0.out h.1)⟩, hfin.trans (below_drewNq _ _ _), fun h9 => (by cases h9), hiN, HALL9.out, HGE9.out⟩
    · have dl : decide ((i : Int) < (N : Int)) = false := by simp; omega
      go_wp2_with fail
      go_quiet (fail)
      go_wp2
      refine bodyPost_ret (v := .tuple #[.int .i64 (i : Int), .bool false]) (by simp [results, Try.results28, go_sem]) rfl ?_
      refine ⟨i, false, rfl, ⟨fun h9 => (by cases h9), ?_⟩, hfin.trans (below_drewNq _ _ _), fun h9 => (by cases h9), hiN, HALL9.out, HGE9.out⟩
      rintro ⟨j, hj, hc⟩
      have h9 := hall j (by omega)
      unfold cmpE at hc
      rw [keyCmp_eq] at hc
      rw [keyCmp_lt] at h9
      omega
set_option maxRecDepth 100000 in
set_option maxHeartbeats 4000000 in
theorem seek0 (kt ks kq : Int) (W : World) : Calls Try.prog 28 #[.slice none 0 0, .agg #[.int .u64 kt, .int .i64 ks, .int .u64 kq]] W fun e W' => e = .returned (.tuple #[.int .i64 0, .bool false]) ∧ Below W.heap.size W W' := by
  obtain ⟨W1, hW1⟩ : ∃ W1, W.alloc (.cells #[.int .u64 kt, .int .i64 ks, .int .u64 kq] 30) = W1 := ⟨_, rfl⟩
  have hb1 : Below W.heap.size W W1 := by rw [← hW1]; exact (Below.refl _ W).alloc (Nat.le_refl _) _
  have HW : Hid (W.alloc (.cells #[.int .u64 kt, .int .i64 ks, .int .u64 kq] 30) = W1) := hW1
  clear hW1
  go_enter Try.func28, Try.ntmps28
  go_wp2_with fail
  rw [HW.out]
  go_loopw [6] (fun x wr => x = .int .i64 0 ∧ wr = W1) (fun x _ => 0)
  case atStart => exact ⟨rfl, rfl⟩
  case round =>
    obtain ⟨rfl, rfl⟩ := hrel
    go_wp2_with fail
    go_quiet (fail)
    go_wp2_with fail
    go_quiet (fail)
    go_wp2_with fail
    refine bodyPost_ret (v := .tuple #[.int .i64 0, .bool false]) (by simp [results, Try.results28, go_sem]) rfl ?_
    exact ⟨rfl, (hb1.trans (below_drewNq _ _ _)).trans (below_drewNq _ _ _)⟩
theorem eql_ev9 (x : Ev) (W : World) : (binOp .eql 64 (.agg #[.int .u64 x.t, .int .i64 x.s, .int .u64 x.q, .int .i64 x.d, .int .i64 x.k, .int .i64 x.v]) (.agg #[.int .u64 x.t, .int .i64 x.s, .int .u64 x.q, .int .i64 x.d, .int .i64 x.k, .int .i64 x.v])).run Try.prog W = .ok (.bool true) W := by
  go_simp
set_option maxRecDepth 100000 in
set_option maxHeartbeats 4000000 in
theorem told_no (v : Value) (code i : Int) (W : World) : Calls Try.prog 33 #[evV ev0, .int .i64 code, v, .int .i64 i, .bool false, .int .i64 code] W fun e W' => e = .returned (.bool true) ∧ Below W.heap.size W W' := by
  obtain ⟨W1, hW1⟩ : ∃ W1, W.alloc (.cells #[.int .u64 0, .int .i64 0, .int .u64 0, .int .i64 0, .int .i64 0, .int .i64 0] 64) = W1 := ⟨_, rfl⟩
  have hb1 : Below W.heap.size W W1 := by rw [← hW1]; exact (Below.refl _ W).alloc (Nat.le_refl _) _
  have he1 : W1.heap[W.heap.size]? = some (.cells #[.int .u64 0, .int .i64 0, .int .u64 0, .int .i64 0, .int .i64 0, .int .i64 0] 64 (0, 0)) := by rw [← hW1]; exact World.alloc_heap_new W _
  obtain ⟨r0, r1, r2, r3, r4, r5⟩ := q6c he1
  rw [← hW1] at r0 r1 r2 r3 r4 r5
  have ne1 : ∀ w : World, (binOp .eql 64 (.agg #[.int .u64 0, .int .i64 0, .int .u64 0, .int .i64 0, .int .i64 0, .int .i64 0]) (.agg #[.int .u64 0, .int .i64 0, .int .u64 0, .int .i64 0, .int .i64 0, .int .i64 0])).run Try.prog w = .ok (.bool true) w := eql_ev9 ev0
  have HW : Hid (W.alloc (.cells #[.int .u64 0, .int .i64 0, .int .u64 0, .int .i64 0, .int .i64 0, .int .i64 0] 64) = W1 ∧ Below W.heap.size W W1) := ⟨hW1, hb1⟩
  clear hW1 hb1 he1
  unfold evV ev0
  go_enter Try.func33, Try.ntmps33
  go_wp2_with fail
  rw [HW.out.1]
  go_ret
  exact ⟨rfl, HW.out.2⟩
set_option maxRecDepth 100000 in
set_option maxHeartbeats 4000000 in
theorem told_yes (b o n c i : Nat) (X : Nat → Ev) (r : Int) (W : World) (h : EvO W b o n X) (hi : i < n) : Calls Try.prog 33 #[evV (X i), .int .i64 0, .slice (some ⟨b, o, none⟩) n c, .int .i64 (i : Int), .bool true, .int .i64 r] W fun e W' => e = .returned (.bool true) ∧ Below W.heap.size W W' := by
  obtain ⟨x, hx⟩ : ∃ x, X i = x := ⟨_, rfl⟩
  obtain ⟨W1, hW1⟩ : ∃ W1, W.alloc (.cells #[.int .u64 x.t, .int .i64 x.s, .int .u64 x.q, .int .i64 x.d, .int .i64 x.k, .int .i64 x.v] 64) = W1 := ⟨_, rfl⟩
  have hb1 : Below W.heap.size W W1 := by rw [← hW1]; exact (Below.refl _ W).alloc (Nat.le_refl _) _
  have he1 : W1.heap[W.heap.size]? = some (.cells #[.int .u64 x.t, .int .i64 x.s, .int .u64 x.q, .int .i64 x.d, .int .i64 x.k, .int .i64 x.v] 64 (0, 0)) := by rw [← hW1]; exact World.alloc_heap_new W _
  have h1 := h.later hb1
  obtain ⟨r0, r1, r2, r3, r4, r5⟩ := q6c he1
  have x0 : W1.cell? ⟨b, o + i * 6, none⟩ = some (.int .u64 x.t) := by rw [← hx]; exact h1.2 i 0 hi (by decide)
  have x1 : W1.cell? ⟨b, o + i * 6 + 1, none⟩ = some (.int .i64 x.s) := by rw [← hx]; exact h1.2 i 1 hi (by decide)
  have x2 : W1.cell? ⟨b, o + i * 6 + 2, none⟩ = some (.int .u64 x.q) := by rw [← hx]; exact h1.2 i 2 hi (by decide)
  have x3 : W1.cell? ⟨b, o + i * 6 + 3, none⟩ = some (.int .i64 x.d) := by rw [← hx]; exact h1.2 i 3 hi (by decide)
  have x4 : W1.cell? ⟨b, o + i * 6 + 4, none⟩ = some (.int .i64 x.k) := by rw [← hx]; exact h1.2 i 4 hi (by decide)
  have x5 : W1.cell? ⟨b, o + i * 6 + 5, none⟩ = some (.int .i64 x.v) := by rw [← hx]; exact h1.2 i 5 hi (by decide)
  have ne1 := eql_ev9 x
  have i0 : (0 : Int) ≤ (i : Int) := by omega
  have i1 : (i : Int) < (n : Int) := by omega
  have HW : Hid (W.alloc (.cells #[.int .u64 x.t, .int .i64 x.s, .int .u64 x.q, .int .i64 x.d, .int .i64 x.k, .int .i64 x.v] 64) = W1 ∧ Below W.heap.size W W1) := ⟨hW1, hb1⟩
  rw [hx]
  unfold evV
  clear hW1 hb1 he1 h h1 hx
  go_enter Try.func33, Try.ntmps33
  go_wp2_with fail
  rw [HW.out.1]
  go_quiet (fail)
  go_wp2_with fail
  go_ret
  exact ⟨rfl, HW.out.2.trans (below_drewNq _ _ _)⟩
end Go.Proofs.Ytlklolmhaiaaiaa
namespace Go.Proofs.Ytlklolmhaiaaiaa
open Go.ChangeShapes Go.WideShapes Go.ChangeAt Go.RowKit
set_option linter.unusedVariables false
set_option linter.unusedSimpArgs false

def insX (X : Nat → Ev) (i : Nat) (e : Ev) (k : Nat) : Ev := if k < i then X k else if k = i then e else X (k - 1)
def delX (X : Nat → Ev) (i : Nat) (k : Nat) : Ev := if k < i then X k else X (k + 1)
theorem nilOwns (W : World) (base : Nat) : W.ownsRow base 64 6 (.slice none 0 0) 0 (cellsF (fun j => evC ((fun _ => ev0) (j / 6)) (j % 6)) (0 * 6)) := ⟨rfl, .inl ⟨rfl, rfl⟩⟩
theorem EvRow.later {W W' : World} {base : Nat} {v : Value} {m : Nat} {Y : Nat → Ev} (h : EvRow W base v m Y) (hb : Below W.heap.size W W') : EvRow W' base v m Y := Own.later h hb
theorem EvRow.congr {W : World} {base : Nat} {v : Value} {m m' : Nat} {Y Y' : Nat → Ev} (h : EvRow W base v m Y) (hm : m = m') (he : ∀ i, i < m → Y i = Y' i) : EvRow W base v m' Y' := by
  subst hm
  exact Own.congr h fun j hj => by rw [he (j / 6) (by omega)]
theorem EvRow.some {W : World} {base : Nat} {v : Value} {m : Nat} {Y : Nat → Ev} (h : EvRow W base v m Y) (hm : 0 < m) : ∃ b c, v = .slice (some ⟨b, 0, none⟩) m c := by
  rcases Own.form h with ⟨_, h2⟩ | ⟨b, c, h2, _⟩
  · omega
  · exact ⟨b, c, h2⟩
set_option maxRecDepth 100000 in
set_option maxHeartbeats 4000000 in
theorem withO (b o n c i : Nat) (X : Nat → Ev) (e : Ev) (W : World) (h : EvO W b o n X) (hi : i ≤ n) (hc : n ≤ c) (hn : n ≤ 8192) :
    Calls Try.prog 31 #[.slice (some ⟨b, o, none⟩) n c, .int .i64 (i : Int), evV e] W fun r W' => ∃ b' c', r = .returned (.slice (some ⟨b', 0, none⟩) (n + 1) c') ∧ EvO W' b' 0 (n + 1) (insX X i e) ∧ W.heap.size ≤ b' ∧ n + 1 ≤ c' ∧ Below W.heap.size W W' := by
  obtain ⟨i6, hi6, ha6, hb6, hc6⟩ := qinfo infoEV
  obtain ⟨W1, hW1⟩ : ∃ W1, W.alloc (.cells #[.int .u64 e.t, .int .i64 e.s, .int .u64 e.q, .int .i64 e.d, .int .i64 e.k, .int .i64 e.v] 64) = W1 := ⟨_, rfl⟩
  have hb1 : Below W.heap.size W W1 := by rw [← hW1]; exact (Below.refl _ W).alloc (Nat.le_refl _) _
  have hz1 : W1.heap.size = W.heap.size + 1 := by rw [← hW1, World.size_alloc]
  have he1 : W1.heap[W.heap.size]? = some (.cells #[.int .u64 e.t, .int .i64 e.s, .int .u64 e.q, .int .i64 e.d, .int .i64 e.k, .int .i64 e.v] 64 (0, 0)) := by rw [← hW1]; exact World.alloc_heap_new W _
  have HW : Hid (W.alloc (.cells #[.int .u64 e.t, .int .i64 e.s, .int .u64 e.q, .int .i64 e.d, .int .i64 e.k, .int .i64 e.v] 64) = W1) := hW1
  have h1 := h.later hb1
  have hp1 := h1.part 0 i (by omega)
  have H0 : Hid (EvO W1 b o n X ∧ Below W.heap.size W W1 ∧ W1.heap.size = W.heap.size + 1 ∧ W1.heap[W.heap.size]? = some (.cells #[.int .u64 e.t, .int .i64 e.s, .int .u64 e.q, .int .i64 e.d, .int .i64 e.k, .int .i64 e.v] 64 (0, 0)) ∧ i ≤ n ∧ n ≤ c ∧ n ≤ 8192) := ⟨h1, hb1, hz1, he1, hi, hc, hn⟩
  have HP1 : Hid (EvO W1 b o i X) := by have := hp1; simp only [Nat.zero_mul, Nat.add_zero, Nat.zero_add] at this; exact this
  have s0 : (0 : Int) ≤ (i : Int) := by omega
  have s1 : (i : Int) ≤ (c : Int) := by omega
  have s2 : (i : Int) ≤ (n : Int) := by omega
  have s3 : (n : Int) ≤ (c : Int) := by omega
  have q1 : 0 + i ≤ maxLen := by unfold maxLen; omega
  have q2 : (0 + i) * 48 ≤ 140737488355328 := by omega
  clear hW1 hb1 hz1 he1 h h1 hp1 hi hc hn
  unfold evV
  go_enter Try.func31, Try.ntmps31
  go_wp2_with (at_builtin; rw [HW.out]; refine wpList_append_own_at _ rfl _ _ 27 rfl W1.heap.size 64 i6 _ 6 48 Try.underlying27 hi6 ha6 hb6 hc6 rfl (by decide) (.slice none 0 0) 0 _ rfl (nilOwns W1 W1.heap.size) ⟨b, o, none⟩ i c (cellsF (fun j => evC (X (j / 6)) (j % 6)) (i * 6)) rfl (cellsF_len _ _) ?h3 ?h4 q1 q2 (Nat.le_refl _) ?_)
  case h3 => exact HP1.out.news
  case h4 => exact evOne X _
  intro v1 w2 hown1 hgr1 hnil1 hat1
  have R1 : EvRow w2 W1.heap.size v1 i X := hown1
  have B2 : Below W1.heap.size W1 w2 := (Below.refl _ W1).grown hgr1 (Nat.le_refl _) (by simp [Value.ownBlock])
  have he2 := (B2.block _ (by have := H0.out.2.2.1; omega)).trans H0.out.2.2.2.1
  obtain ⟨y0, y1, y2, y3, y4, y5⟩ := q6c he2
  have HR1 : Hid (EvRow w2 W1.heap.size v1 i X ∧ Below W1.heap.size W1 w2 ∧ i + 1 ≤ maxLen ∧ (i + 1) * 48 ≤ 140737488355328) := ⟨R1, B2, by have := H0.out; unfold maxLen; omega, by have := H0.out; omega⟩
  clear hown1 hgr1 hnil1 hat1 R1 B2 he2
  have hA2 : Hid (∀ j u, (evL e)[j]? = some u → (w2.alloc (.cells #[.int .u64 e.t, .int .i64 e.s, .int .u64 e.q, .int .i64 e.d, .int .i64 e.k, .int .i64 e.v] 64)).cell? ((⟨w2.heap.size, 0, none⟩ : Addr).add j) = some u) := fun j u hj => cells_new w2 (evL e) 64 j u hj
  have HO2 : Hid ((w2.alloc (.cells #[.int .u64 e.t, .int .i64 e.s, .int .u64 e.q, .int .i64 e.d, .int .i64 e.k, .int .i64 e.v] 64)).ownsRow W1.heap.size 64 6 v1 i (cellsF (fun j => evC (X (j / 6)) (j % 6)) (i * 6))) := Own.later HR1.out.1 ((Below.refl _ w2).alloc (Nat.le_refl _) _)
  have HB2 : Hid (W1.heap.size ≤ (w2.alloc (.cells #[.int .u64 e.t, .int .i64 e.s, .int .u64 e.q, .int .i64 e.d, .int .i64 e.k, .int .i64 e.v] 64)).heap.size) := by
    show _ ≤ (World.alloc w2 _).heap.size
    rw [World.size_alloc]
    have := HR1.out.2.1.size
    omega
  go_wp2_with (at_builtin; refine wpList_append_own_at _ rfl _ _ 27 rfl W1.heap.size 64 i6 _ 6 48 Try.underlying27 hi6 ha6 hb6 hc6 rfl (by decide) v1 i _ rfl HO2.out ⟨w2.heap.size, 0, none⟩ 1 1 (evL e) rfl rfl hA2.out (by simp [evL, Value.oneCell']) HR1.out.2.2.1 HR1.out.2.2.2 HB2.out ?_)
  intro v2 w3 hown2 hgr2 hnil2 hat2
  have R2 : EvRow w3 W1.heap.size v2 (i + 1) (fun k => if k < i then X k else e) := EvRow.app (Z := fun _ => e) hown2
  have B3 : Below W1.heap.size W1 w3 := (HR1.out.2.1.alloc HR1.out.2.1.size _).grown hgr2 HB2.out (fun r hr => (Own.lt HR1.out.1 r hr).1)
  have hE3 := H0.out.1.later B3
  have hP3 : EvO w3 b (o + i * 6) (n - i) (fun k => X (i + k)) := hE3.part i (n - i) (by have := H0.out; omega)
  obtain ⟨m, hm⟩ : ∃ m, n - i = m := ⟨_, rfl⟩
  obtain ⟨k, hk⟩ : ∃ k, c - i = k := ⟨_, rfl⟩
  rw [hm] at hP3
  have HR2 : Hid (EvRow w3 W1.heap.size v2 (i + 1) (fun k => if k < i then X k else e) ∧ Below W1.heap.size W1 w3 ∧ i + 1 + m ≤ maxLen ∧ (i + 1 + m) * 48 ≤ 140737488355328 ∧ EvO w3 b (o + i * 6) m (fun k => X (i + k)) ∧ W1.heap.size ≤ w3.heap.size ∧ n = i + m ∧ c = i + k) := ⟨R2, B3, by have := H0.out; unfold maxLen; omega, by have := H0.out; omega, hP3, B3.size, by have := H0.out; omega, by have := H0.out; omega⟩
  have FIN : Hid (∀ (v' : Value) (w' : World), w'.ownsRow W1.heap.size 64 6 v' (i + 1 + m) (cellsF (fun j => evC (if j / 6 < i then X (j / 6) else e) (j % 6)) ((i + 1) * 6) ++ cellsF (fun j => evC (X (i + j / 6)) (j % 6)) (m * 6)) → w3.grownBy w' v2.ownBlock → ∃ b' c', v' = .slice (some ⟨b', 0, none⟩) (n + 1) c' ∧ EvO w' b' 0 (n + 1) (insX X i e) ∧ W.heap.size ≤ b' ∧ n + 1 ≤ c' ∧ Below W.heap.size W w') := fun v' w' hown hgr => by
    have hin := HR2.out.2.2.2.2.2.2.1
    have R3 : EvRow w' W1.heap.size v' (n + 1) (insX X i e) := EvRow.congr (EvRow.app (Y := fun k => if k < i then X k else e) (Z := fun k => X (i + k)) hown) (by omega) (fun k hk => by
      show (if k < i + 1 then (if k < i then X k else e) else X (i + (k - (i + 1)))) = insX X i e k
      unfold insX
      by_cases h1 : k < i + 1
      · rw [if_pos h1]
        by_cases h2 : k < i
        · rw [if_pos h2, if_pos h2]
        · rw [if_neg h2, if_neg h2, if_pos (by omega)]
      · rw [if_neg h1, if_neg (by omega), if_neg (by omega), show i + (k - (i + 1)) = k - 1 by omega])
    obtain ⟨b', c', rfl⟩ := R3.some (by omega)
    obtain ⟨q1, q2, q3⟩ := R3.evo
    have B4 : Below W1.heap.size W1 w' := HR2.out.2.1.grown hgr HR2.out.2.2.2.2.2.1 (fun r hr => (Own.lt HR2.out.1 r hr).1)
    exact ⟨b', c', rfl, q1, by have := H0.out.2.2.1; omega, q3, H0.out.2.1.trans (B4.mono H0.out.2.1.size)⟩
  clear hown2 hgr2 hnil2 hat2 R2 B3 hE3 hP3 y0 y1 y2 y3 y4 y5
  have h9 := HR2.out.1
  unfold EvRow Own at h9
  by_cases hci : c = i
  · have hm0 : m = 0 := by have h1 := HR2.out.2.2.2.2.2.2; have h2 := H0.out; omega
    have HM0 : Hid (m = 0) := hm0
    clear hm0
    go_wp2_with (at_builtin; refine wpList_append_own_at _ rfl _ _ 27 rfl W1.heap.size 64 i6 _ 6 48 Try.underlying27 hi6 ha6 hb6 hc6 rfl (by decide) v2 (i + 1) _ rfl h9 ⟨b, o, none⟩ m k (cellsF (fun j => evC ((fun k => X (i + k)) (j / 6)) (j % 6)) (m * 6)) ?h1 (cellsF_len _ _) ?h3 ?h4 ?h5 ?h6 ?h7 ?_)
    case h1 => omega
    case h3 => intro j u hj; rw [HM0.out] at hj; simp [cellsF] at hj
    case h4 => exact evOne (fun k => X (i + k)) _
    case h5 => exact HR2.out.2.2.1
    case h6 => exact HR2.out.2.2.2.1
    case h7 => exact HR2.out.2.2.2.2.2.1
    intro v3 w4 hown3 hgr3 hnil3 hat3
    obtain ⟨b', c', hv, r1, r2, r3, r4⟩ := FIN.out v3 w4 hown3 hgr3
    subst hv
    go_wp2_with fail
    go_ret
    exact ⟨b', c', rfl, r1, r2, r3, r4⟩
  · go_wp2_with (at_builtin; refine wpList_append_own_at _ rfl _ _ 27 rfl W1.heap.size 64 i6 _ 6 48 Try.underlying27 hi6 ha6 hb6 hc6 rfl (by decide) v2 (i + 1) _ rfl h9 ⟨b, o + i * 6, none⟩ m k (cellsF (fun j => evC ((fun k => X (i + k)) (j / 6)) (j % 6)) (m * 6)) ?g1 (cellsF_len _ _) ?g3 ?g4 ?g5 ?g6 ?g7 ?_)
    case g3 => intro j u hj; have h8 := HR2.out.2.2.2.2.1.news j u hj; rw [addr_add0] at h8; exact h8
    case g4 => exact evOne (fun k => X (i + k)) _
    case g5 => exact HR2.out.2.2.1
    case g6 => exact HR2.out.2.2.2.1
    case g7 => exact HR2.out.2.2.2.2.2.1
    intro v3 w4 hown3 hgr3 hnil3 hat3
    obtain ⟨b', c', hv, r1, r2, r3, r4⟩ := FIN.out v3 w4 hown3 hgr3
    subst hv
    go_wp2_with fail
    go_ret
    exact ⟨b', c', rfl, r1, r2, r3, r4⟩
set_option maxRecDepth 100000 in
set_option maxHeartbeats 4000000 in
theorem withoutO (b o n c i : Nat) (X : Nat → Ev) (W : World) (h : EvO W b o n X) (hi : i < n) (hc : n ≤ c) (hn : n ≤ 8192) :
    Calls Try.prog 37 #[.slice (some ⟨b, o, none⟩) n c, .int .i64 (i : Int)] W fun r W' => ∃ v, r = .returned v ∧ EvRow W' W.heap.size v (n - 1) (delX X i) ∧ Below W.heap.size W W' := by
  obtain ⟨i6, hi6, ha6, hb6, hc6⟩ := qinfo infoEV
  have HP1 : Hid (EvO W b o i X) := by have := h.part 0 i (by omega); simp only [Nat.zero_mul, Nat.add_zero, Nat.zero_add] at this; exact this
  have s0 : (0 : Int) ≤ (i : Int) := by omega
  have s1 : (i : Int) ≤ (c : Int) := by omega
  obtain ⟨i', hi'⟩ : ∃ i', i + 1 = i' := ⟨_, rfl⟩
  have e1 : IntKind.i64.wrap ((i : Int) + 1) = (i' : Int) := by rw [IntKind.wrap_i64]; omega
  have s2 : (0 : Int) ≤ (i' : Int) := by omega
  have s3 : (i' : Int) ≤ (n : Int) := by omega
  have s4 : (n : Int) ≤ (c : Int) := by omega
  have s5 : (i' : Int) ≤ (c : Int) := by omega
  have q1 : 0 + i ≤ maxLen := by unfold maxLen; omega
  have q2 : (0 + i) * 48 ≤ 140737488355328 := by omega
  have H0 : Hid (EvO W b o n X ∧ i < n ∧ n ≤ c ∧ n ≤ 8192 ∧ i + 1 = i') := ⟨h, hi, hc, hn, hi'⟩
  clear h hi hc hn hi'
  go_enter Try.func37, Try.ntmps37
  go_wp2_with (at_builtin; refine wpList_append_own_at _ rfl _ _ 27 rfl W.heap.size 64 i6 _ 6 48 Try.underlying27 hi6 ha6 hb6 hc6 rfl (by decide) (.slice none 0 0) 0 _ rfl (nilOwns W W.heap.size) ⟨b, o, none⟩ i c (cellsF (fun j => evC (X (j / 6)) (j % 6)) (i * 6)) rfl (cellsF_len _ _) ?a3 ?a4 q1 q2 (Nat.le_refl _) ?_)
  case a3 => exact HP1.out.news
  case a4 => exact evOne X _
  intro v2 w3 hown1 hgr1 hnil1 hat1
  have R1 : EvRow w3 W.heap.size v2 i X := hown1
  have B2 : Below W.heap.size W w3 := (Below.refl _ W).grown hgr1 (Nat.le_refl _) (by simp [Value.ownBlock])
  obtain ⟨m, hm⟩ : ∃ m, n - i' = m := ⟨_, rfl⟩
  obtain ⟨k, hk⟩ : ∃ k, c - i' = k := ⟨_, rfl⟩
  have hP3 : EvO w3 b (o + i' * 6) m (fun k => X (i' + k)) := (H0.out.1.later B2).part i' m (by have := H0.out; omega)
  have HR2 : Hid (EvRow w3 W.heap.size v2 i X ∧ Below W.heap.size W w3 ∧ i + m ≤ maxLen ∧ (i + m) * 48 ≤ 140737488355328 ∧ EvO w3 b (o + i' * 6) m (fun k => X (i' + k)) ∧ W.heap.size ≤ w3.heap.size ∧ n = i + 1 + m ∧ c = i' + k) := ⟨R1, B2, by have := H0.out; unfold maxLen; omega, by have := H0.out; omega, hP3, B2.size, by have := H0.out; omega, by have := H0.out; omega⟩
  have FIN : Hid (∀ (v' : Value) (w' : World), w'.ownsRow W.heap.size 64 6 v' (i + m) (cellsF (fun j => evC (X (j / 6)) (j % 6)) (i * 6) ++ cellsF (fun j => evC (X (i' + j / 6)) (j % 6)) (m * 6)) → w3.grownBy w' v2.ownBlock → EvRow w' W.heap.size v' (n - 1) (delX X i) ∧ Below W.heap.size W w') := fun v' w' hown hgr => by
    have hin := HR2.out.2.2.2.2.2.2.1
    have hii := H0.out.2.2.2.2
    refine ⟨EvRow.congr (EvRow.app (Y := X) (Z := fun k => X (i' + k)) hown) (by omega) (fun k hk => ?_), HR2.out.2.1.grown hgr HR2.out.2.2.2.2.2.1 (fun r hr => (Own.lt HR2.out.1 r hr).1)⟩
    show (if k < i then X k else X (i' + (k - i))) = delX X i k
    unfold delX
    by_cases h1 : k < i
    · rw [if_pos h1, if_pos h1]
    · rw [if_neg h1, if_neg h1, show i' + (k - i) = k + 1 by omega]
  clear hown1 hgr1 hnil1 hat1 R1 B2 hP3
  have h9 := HR2.out.1
  unfold EvRow Own at h9
  by_cases hci : c = i'
  · have hm0 : m = 0 := by have h1 := HR2.out.2.2.2.2.2.2; have h2 := H0.out; omega
    have HM0 : Hid (m = 0) := hm0
    clear hm0
    go_wp2_with (at_builtin; refine wpList_append_own_at _ rfl _ _ 27 rfl W.heap.size 64 i6 _ 6 48 Try.underlying27 hi6 ha6 hb6 hc6 rfl (by decide) v2 i _ rfl h9 ⟨b, o, none⟩ m k (cellsF (fun j => evC ((fun k => X (i' + k)) (j / 6)) (j % 6)) (m * 6)) ?h1 (cellsF_len _ _) ?h3 ?h4 ?h5 ?h6 ?h7 ?_)
    case h1 => first | rfl | omega | (show _ = _; simp [Act.eval]; omega)
    case h3 => intro j u hj; rw [HM0.out] at hj; simp [cellsF] at hj
    case h4 => exact evOne (fun k => X (i' + k)) _
    case h5 => exact HR2.out.2.2.1
    case h6 => exact HR2.out.2.2.2.1
    case h7 => exact HR2.out.2.2.2.2.2.1
    intro v3 w4 hown3 hgr3 hnil3 hat3
    obtain ⟨r1, r2⟩ := FIN.out v3 w4 hown3 hgr3
    go_wp2_with fail
    go_ret
    exact ⟨v3, rfl, r1, r2⟩
  · go_wp2_with (at_builtin; refine wpList_append_own_at _ rfl _ _ 27 rfl W.heap.size 64 i6 _ 6 48 Try.underlying27 hi6 ha6 hb6 hc6 rfl (by decide) v2 i _ rfl h9 ⟨b, o + i' * 6, none⟩ m k (cellsF (fun j => evC ((fun k => X (i' + k)) (j / 6)) (j % 6)) (m * 6)) ?g1 (cellsF_len _ _) ?g3 ?g4 ?g5 ?g6 ?g7 ?_)
    case g1 => rfl
    case g3 => intro j u hj; have h8 := HR2.out.2.2.2.2.1.news j u hj; rw [addr_add0] at h8; exact h8
    case g4 => exact evOne (fun k => X (i' + k)) _
    case g5 => exact HR2.out.2.2.1
    case g6 => exact HR2.out.2.2.2.1
    case g7 => exact HR2.out.2.2.2.2.2.1
    intro v3 w4 hown3 hgr3 hnil3 hat3
    obtain ⟨r1, r2⟩ := FIN.out v3 w4 hown3 hgr3
    go_wp2_with fail
    go_ret
    exact ⟨v3, rfl, r1, r2⟩
set_option maxRecDepth 100000 in
set_option maxHeartbeats 4000000 in
theorem with0 (e : Ev) (W : World) : Calls Try.prog 31 #[.slice none 0 0, .int .i64 0, evV e] W fun r W' => ∃ b' c', r = .returned (.slice (some ⟨b', 0, none⟩) 1 c') ∧ EvO W' b' 0 1 (fun _ => e) ∧ W.heap.size ≤ b' ∧ 1 ≤ c' ∧ Below W.heap.size W W' := by
  obtain ⟨i6, hi6, ha6, hb6, hc6⟩ := qinfo infoEV
  obtain ⟨W1, hW1⟩ : ∃ W1, (W.alloc (.cells #[.int .u64 e.t, .int .i64 e.s, .int .u64 e.q, .int .i64 e.d, .int .i64 e.k, .int .i64 e.v] 64)).alloc (.cells #[.int .u64 e.t, .int .i64 e.s, .int .u64 e.q, .int .i64 e.d, .int .i64 e.k, .int .i64 e.v] 64) = W1 := ⟨_, rfl⟩
  obtain ⟨ho1, he1, hb1⟩ := two_alloc _ _ _ _ _ _ hW1
  have hz1 : W.heap.size + 1 ≤ W1.heap.size := by have := lt_of_block he1; omega
  have hA2 : Hid (∀ j u, (evL e)[j]? = some u → W1.cell? ((⟨W.heap.size + 1, 0, none⟩ : Addr).add j) = some u) := fun j u hj => by
    have h9 : evL e = (#[.int .u64 e.t, .int .i64 e.s, .int .u64 e.q, .int .i64 e.d, .int .i64 e.k, .int .i64 e.v] : Array Value).toList := rfl
    rw [h9] at hj
    rw [addr_add0, Nat.zero_add]
    unfold World.cell?
    rw [he1]
    simpa using hj
  have HW : Hid ((W.alloc (.cells #[.int .u64 e.t, .int .i64 e.s, .int .u64 e.q, .int .i64 e.d, .int .i64 e.k, .int .i64 e.v] 64)).alloc (.cells #[.int .u64 e.t, .int .i64 e.s, .int .u64 e.q, .int .i64 e.d, .int .i64 e.k, .int .i64 e.v] 64) = W1) := hW1
  have q1 : 0 + 1 ≤ maxLen := by unfold maxLen; omega
  obtain ⟨y0, y1, y2, y3, y4, y5⟩ := q6c (World.alloc_heap_new W (.cells #[.int .u64 e.t, .int .i64 e.s, .int .u64 e.q, .int .i64 e.d, .int .i64 e.k, .int .i64 e.v] 64))
  clear hW1 ho1 he1
  unfold evV
  go_enter Try.func31, Try.ntmps31
  go_wp2_with (at_builtin; rw [HW.out]; refine wpList_append_own_at _ rfl _ _ 27 rfl (W.heap.size + 1) 64 i6 _ 6 48 Try.underlying27 hi6 ha6 hb6 hc6 rfl (by decide) (.slice none 0 0) 0 _ rfl (nilOwns W1 (W.heap.size + 1)) ⟨W.heap.size + 1, 0, none⟩ 1 1 (evL e) rfl rfl hA2.out (by simp [evL, Value.oneCell']) q1 (by omega) hz1 ?_)
  intro v1 w2 hown1 hgr1 hnil1 hat1
  have R1 : EvRow w2 (W.heap.size + 1) v1 1 (fun _ => e) := hown1
  have B2 : Below W.heap.size W w2 := hb1.grown hgr1 (by omega) (by simp [Value.ownBlock])
  obtain ⟨b', c', rfl⟩ := R1.some (by decide)
  obtain ⟨r1, r2, r3⟩ := R1.evo
  have hle : ¬ c' < 1 := by omega
  have hle2 : 1 ≤ c' := r3
  have HR : Hid (EvO w2 b' 0 1 (fun _ => e) ∧ W.heap.size + 1 ≤ b' ∧ Below W.heap.size W w2) := ⟨r1, r2, B2⟩
  clear hown1 hgr1 hnil1 hat1 R1 B2 r1 r2 y0 y1 y2 y3 y4 y5 hb1 hz1
  go_wp2_with fail
  go_ret
  exact ⟨b', c', rfl, HR.out.1, by have := HR.out.2.1; omega, r3, HR.out.2.2⟩
end Go.Proofs.Ytlklolmhaiaaiaa
