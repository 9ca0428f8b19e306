import Derived.Test.YtlklolmhaiaaiaaJY35
import Derived.Test.YtlklolmhaiaaiaaJY28a
namespace Go.Proofs.Ytlklolmhaiaaiaa
open Go.ChangeShapes Go.WideShapes Go.ChangeAt Go.RowKit
set_option linter.unusedVariables false
set_option linter.unusedSimpArgs false

/-- events that lie somewhere -/
def EvO (W : World) (b o N : Nat) (X : Nat → Ev) : Prop := b < W.heap.size ∧ ∀ i r, i < N → r < 6 → W.cell? ⟨b, o + i * 6 + r, none⟩ = some (evC (X i) r)
theorem EvO.later {W W' : World} {b o N : Nat} {X : Nat → Ev} (h : EvO W b o N X) (hb : Below W.heap.size W W') : EvO W' b o N X := ⟨Nat.lt_of_lt_of_le h.1 hb.size, fun i r hi hr => (cell_below (a := ⟨b, o + i * 6 + r, none⟩) hb h.1).trans (h.2 i r hi hr)⟩
theorem EvO.keep {W W' : World} {b o N : Nat} {X : Nat → Ev} {S : Nat → Prop} (h : EvO W b o N X) (hc : Ch S W W') (hs : ¬ S b) : EvO W' b o N X := ⟨Nat.lt_of_lt_of_le h.1 hc.size, fun i r hi hr => (World.cell?_of_block (hc.block b h.1 hs)).trans (h.2 i r hi hr)⟩
theorem EvO.part {W : World} {b o N : Nat} {X : Nat → Ev} (h : EvO W b o N X) (k m : Nat) (hk : k + m ≤ N) : EvO W b (o + k * 6) m (fun i => X (k + i)) := ⟨h.1, fun i r hi hr => by rw [show o + k * 6 + i * 6 + r = o + (k + i) * 6 + r by omega]; exact h.2 (k + i) r (by omega) hr⟩
theorem EvO.xat {W : World} {b o N : Nat} {X : Nat → Ev} (h : EvO W b o N X) : XAt W (some ⟨b, o, none⟩) N (fun j => evC (X (j / 6)) (j % 6)) := .inr ⟨b, o, rfl, h.1, fun j hj => by
  have := h.2 (j / 6) (j % 6) (by omega) (by omega)
  rw [show o + j / 6 * 6 + j % 6 = o + j by omega] at this
  exact this⟩
theorem EvO.news {W : World} {b o N : Nat} {X : Nat → Ev} (h : EvO W b o N X) : ∀ j u, (cellsF (fun j => evC (X (j / 6)) (j % 6)) (N * 6))[j]? = some u → W.cell? ((⟨b, o, none⟩ : Addr).add j) = some u := fun j u hj => by
  have hl : j < N * 6 := by
    have := (List.getElem?_eq_some_iff.1 hj).1
    rwa [cellsF_len] at this
  rw [cellsF_at _ hl] at hj
  rw [addr_add0]
  have := h.2 (j / 6) (j % 6) (by omega) (by omega)
  rw [show o + j / 6 * 6 + j % 6 = o + j by omega] at this
  rw [this]
  exact hj
theorem evOne (X : Nat → Ev) (n : Nat) : ∀ u ∈ cellsF (fun j => evC (X (j / 6)) (j % 6)) n, u.oneCell' = true := fun u hu => by
  unfold cellsF at hu
  obtain ⟨j, _, rfl⟩ := List.mem_map.1 hu
  exact evC_one _ _ (Nat.mod_lt _ (by decide))
/-- a row of events of the call's own -/
def EvRow (W : World) (base : Nat) (v : Value) (m : Nat) (Y : Nat → Ev) : Prop := Own W base 64 6 v m (fun j => evC (Y (j / 6)) (j % 6))
theorem EvRow.app {W : World} {base : Nat} {v : Value} {m k : Nat} {Y Z : Nat → Ev} (h : W.ownsRow base 64 6 v (m + k) (cellsF (fun j => evC (Y (j / 6)) (j % 6)) (m * 6) ++ cellsF (fun j => evC (Z (j / 6)) (j % 6)) (k * 6))) : EvRow W base v (m + k) (fun i => if i < m then Y i else Z (i - m)) := by
  rw [cellsF_append, show m * 6 + k * 6 = (m + k) * 6 by omega] at h
  refine Own.congr (F := fun j => if j < m * 6 then evC (Y (j / 6)) (j % 6) else evC (Z ((j - m * 6) / 6)) ((j - m * 6) % 6)) h fun j hj => ?_
  show _ = evC (if j / 6 < m then Y (j / 6) else Z (j / 6 - m)) (j % 6)
  by_cases h1 : j < m * 6
  · rw [if_pos h1, if_pos (by omega)]
  · rw [if_neg h1, if_neg (by omega), show (j - m * 6) / 6 = j / 6 - m by omega, show (j - m * 6) % 6 = j % 6 by omega]
theorem EvRow.evo {W : World} {base b m c : Nat} {Y : Nat → Ev} (h : EvRow W base (.slice (some ⟨b, 0, none⟩) m c) m Y) : EvO W b 0 m Y ∧ base ≤ b ∧ m ≤ c := by
  obtain ⟨cur, h1, h2, h3, h4, h5, h6⟩ := Own.block h
  refine ⟨⟨lt_of_block h1, fun i r hi hr => ?_⟩, h5, h3⟩
  rw [Nat.zero_add, Own.cell h (j := i * 6 + r) (by omega)]
  rw [show (i * 6 + r) / 6 = i by omega, show (i * 6 + r) % 6 = r by omega]
set_option maxRecDepth 100000 in
set_option maxHeartbeats 4000000 in
theorem seekO (b o N c : Nat) (X : Nat → Ev) (kt ks kq : Int) (W : World) (h : EvO W b o N X) (hN : N ≤ 8192) (hsrt : ∀ i j, i < j → j < N → keyLt (X i) (X j)) :
    Calls Try.prog 28 #[.slice (some ⟨b, o, none⟩) N c, .agg #[.int .u64 kt, .int .i64 ks, .int .u64 kq]] W fun e W' => ∃ (i0 : Nat) (th : Bool), e = .returned (.tuple #[.int .i64 (i0 : Int), .bool th]) ∧ (th = true ↔ ∃ j, j < N ∧ cmpE kt ks kq (X j) = 0) ∧ Below W.heap.size W W' ∧ (th = true → i0 < N ∧ cmpE kt ks kq (X i0) = 0) ∧ i0 ≤ N ∧ (∀ j, j < i0 → keyCmp (X j).t (X j).s (X j).q kt ks kq = -1) ∧ (i0 < N → keyCmp (X i0).t (X i0).s (X i0).q kt ks kq ≠ -1) := by
  obtain ⟨W1, hW1⟩ : ∃ W1, W.alloc (.cells #[.int .u64 kt, .int .i64 ks, .int .u64 kq] 30) = W1 := ⟨_, rfl⟩
  have hb1 : Below W.heap.size W W1 := by rw [← hW1]; exact (Below.refl _ W).alloc (Nat.le_refl _) _
  have hK1 : KBx W1 W.heap.size kt ks kq := by unfold KBx; rw [← hW1]; exact World.alloc_heap_new W _
  have HW : Hid (W.alloc (.cells #[.int .u64 kt, .int .i64 ks, .int .u64 kq] 30) = W1) := hW1
  clear hW1
  have h1 := h.later hb1
  go_enter Try.func28, Try.ntmps28
  go_upto_block 0 with fail
  rw [HW.out]
  go_cut [6] (fun x wx => ∃ i : Nat, x = .int .i64 (i : Int) ∧ i ≤ N ∧ (∀ j, j < i → keyCmp (X j).t (X j).s (X j).q kt ks kq = -1) ∧ (i < N → keyCmp (X i).t (X i).s (X i).q kt ks kq ≠ -1) ∧ Below W1.heap.size W1 wx)
  case first =>
    go_wp2_with fail
    go_loopw [6] (fun x wr => ∃ i : Nat, x = .int .i64 (i : Int) ∧ i ≤ N ∧ (∀ j, j < i → keyCmp (X j).t (X j).s (X j).q kt ks kq = -1) ∧ Below W1.heap.size W1 wr) (fun x _ => N - (intOf x).toNat)
    case atStart => exact ⟨0, rfl, Nat.zero_le _, fun j hj => absurd hj (Nat.not_lt_zero _), Below.refl _ _⟩
    case round =>
      obtain ⟨i, rfl, hiN, hall, hbr⟩ := hrel
      have HALL : Hid (∀ j, j < i → keyCmp (X j).t (X j).s (X j).q kt ks kq = -1) := hall
      clear hall
      by_cases hlt : i < N
      · have dl : decide ((i : Int) < (N : Int)) = true := by simp; omega
        have i0 : (0 : Int) ≤ (i : Int) := by omega
        have i1 : (i : Int) < (N : Int) := by omega
        have hr := h1.later hbr
        have x0 : wr.cell? ⟨b, o + i * 6, none⟩ = some (.int .u64 (X i).t) := hr.2 i 0 hlt (by decide)
        have x1 : wr.cell? ⟨b, o + i * 6 + 1, none⟩ = some (.int .i64 (X i).s) := hr.2 i 1 hlt (by decide)
        have x2 : wr.cell? ⟨b, o + i * 6 + 2, none⟩ = some (.int .u64 (X i).q) := hr.2 i 2 hlt (by decide)
        have hKr : KBx wr W.heap.size kt ks kq := (hbr.block _ (lt_of_block hK1)).trans hK1
        obtain ⟨k0, k1, k2⟩ := hKr.cells
        have lk := lt_of_block hKr
        have HB := before_any (X i).t (X i).s (X i).q kt ks kq wr.drew
        have h3 := keyCmp_three (X i).t (X i).s (X i).q kt ks kq
        obtain ⟨cm, hcm⟩ : ∃ cm, keyCmp (X i).t (X i).s (X i).q kt ks kq = cm := ⟨_, rfl⟩
        rw [hcm] at HB h3
        have HCM : Hid (keyCmp (X i).t (X i).s (X i).q kt ks kq = cm) := hcm
        clear hcm
        have ei : IntKind.i64.wrap ((i : Int) + 1) = (i : Int) + 1 := by rw [IntKind.wrap_i64]; omega
        go_wp2_with fail
        go_region_held3 (fun w' => w'.cell? ⟨W.heap.size, 0, none⟩ = some (.int .u64 kt) ∧ w'.cell? ⟨W.heap.size, 1, none⟩ = some (.int .i64 ks) ∧ w'.cell? ⟨W.heap.size, 2, none⟩ = some (.int .u64 kq) ∧ w'.cell? ⟨b, o + i * 6, none⟩ = some (.int .u64 (X i).t) ∧ w'.cell? ⟨b, o + i * 6 + 1, none⟩ = some (.int .i64 (X i).s) ∧ w'.cell? ⟨b, o + i * 6 + 2, none⟩ = some (.int .u64 (X i).q)) (first | exact ⟨k0, k1, k2, x0, x1, x2⟩ | exact KP | go_keep) ((go_at_call 56; (with_reducible refine HB.mono ?_); rintro e w1 ⟨rfl, hbb⟩; have hb0 : Below wr.heap.size wr w1 := (below_drewNq _ wr 1).trans (hbb.mono (Nat.le_refl _)); have KP : (fun w' => w'.cell? ⟨W.heap.size, 0, none⟩ = some (.int .u64 kt) ∧ w'.cell? ⟨W.heap.size, 1, none⟩ = some (.int .i64 ks) ∧ w'.cell? ⟨W.heap.size, 2, none⟩ = some (.int .u64 kq) ∧ w'.cell? ⟨b, o + i * 6, none⟩ = some (.int .u64 (X i).t) ∧ w'.cell? ⟨b, o + i * 6 + 1, none⟩ = some (.int .i64 (X i).s) ∧ w'.cell? ⟨b, o + i * 6 + 2, none⟩ = some (.int .u64 (X i).q)) w1 := ⟨(cell_below hb0 lk).trans k0, (cell_below hb0 lk).trans k1, (cell_below hb0 lk).trans k2, (cell_below (a := ⟨b, o + i * 6, none⟩) hb0 hr.1).trans x0, (cell_below (a := ⟨b, o + i * 6 + 1, none⟩) hb0 hr.1).trans x1, (cell_below (a := ⟨b, o + i * 6 + 2, none⟩) hb0 hr.1).trans x2⟩))
        have hbF : Below W1.heap.size W1 w1 := hbr.trans (hb0.mono hbr.size)
        rcases h3 with h3 | h3 | h3
        · have dc : decide (cm < 0) = true := by rw [h3]; rfl
          go_wp2
          refine ⟨⟨i + 1, rfl, by omega, fun j hj => ?_, hbF⟩, meas0 hlt⟩
          by_cases hj2 : j < i
          · exact HALL.out j hj2
          · obtain rfl : j = i := by omega
            exact HCM.out.trans h3
        · have dc : decide (cm < 0) = false := by rw [h3]; rfl
          go_wp2
          go_meet
          exact ⟨i, rfl, hiN, HALL.out, fun _ => by rw [HCM.out, h3]; decide, hbF⟩
        · have dc : decide (cm < 0) = false := by rw [h3]; rfl
          go_wp2
          go_meet
          exact ⟨i, rfl, hiN, HALL.out, fun _ => by rw [HCM.out, h3]; decide, hbF⟩
      · have dl : decide ((i : Int) < (N : Int)) = false := by simp; omega
        go_wp2_with fail
        go_quiet (fail)
        go_wp2
        go_meet
        exact ⟨i, rfl, hiN, HALL.out, fun h9 => absurd h9 hlt, hbr.trans (below_drewNq _ _ _)⟩
  case rest =>
    obtain ⟨i, rfl, hiN, hall, hge, hbx⟩ := hcut
    have HALL9 : Hid (∀ j, j < i → keyCmp (X j).t (X j).s (X j).q kt ks kq = -1) := hall
    have HGE9 : Hid (i < N → keyCmp (X i).t (X i).s (X i).q kt ks kq ≠ -1) := hge
    have hr := h1.later hbx
    have hKr : KBx wc W.heap.size kt ks kq := (hbx.block _ (lt_of_block hK1)).trans hK1
    obtain ⟨k0, k1, k2⟩ := hKr.cells
    have hfin : Below W.heap.size W wc := hb1.trans (hbx.mono hb1.size)
    by_cases hlt : i < N
    · have dl : decide ((i : Int) < (N : Int)) = true := by simp; omega
      have i0 : (0 : Int) ≤ (i : Int) := by omega
      have i1 : (i : Int) < (N : Int) := by omega
      have x0 : wc.cell? ⟨b, o + i * 6, none⟩ = some (.int .u64 (X i).t) := hr.2 i 0 hlt (by decide)
      have x1 : wc.cell? ⟨b, o + i * 6 + 1, none⟩ = some (.int .i64 (X i).s) := hr.2 i 1 hlt (by decide)
      have x2 : wc.cell? ⟨b, o + i * 6 + 2, none⟩ = some (.int .u64 (X i).q) := hr.2 i 2 hlt (by decide)
      have HNO : Hid ((∃ j, j < N ∧ cmpE kt ks kq (X j) = 0) → (X i).t = kt ∧ (X i).s = ks ∧ (X i).q = kq) := by
        rintro ⟨j, hj, hc⟩
        unfold cmpE at hc
        rw [keyCmp_eq] at hc
        by_cases hji : j < i
        · have h9 := hall j hji
          rw [keyCmp_lt] at h9
          omega
        by_cases hij : j = i
        · subst hij
          omega
        · have h9 := hsrt i j (by omega) hj
          rw [keyLt_iff] at h9
          have h8 := hge hlt
          rw [Ne, keyCmp_lt] at h8
          omega
      have HYES : Hid ((X i).t = kt ∧ (X i).s = ks ∧ (X i).q = kq → ∃ j, j < N ∧ cmpE kt ks kq (X j) = 0) := fun h9 => ⟨i, hlt, by unfold cmpE; rw [keyCmp_eq]; omega⟩
      by_cases e0 : (X i).t = kt
      · have g0 : ((X i).t == kt) = true := by simpa using e0
        have E0 : Hid ((X i).t = kt) := e0
        clear e0
        by_cases e1 : (X i).s = ks
        · have g1 : ((X i).s == ks) = true := by simpa using e1
          have E1 : Hid ((X i).s = ks) := e1
          clear e1
          by_cases e2 : (X i).q = kq
          · have g2 : ((X i).q == kq) = true := by simpa using e2
            have E2 : Hid ((X i).q = kq) := e2
            clear e2
            go_wp2_with fail
            go_quiet (fail)
            go_wp2
            refine bodyPost_ret (v := .tuple #[.int .i64 (i : Int), .bool true]) (by simp [results, Try.results28, go_sem]) rfl ?_
            exact ⟨i, true, rfl, ⟨fun _ => HYES.out ⟨E0.out, E1.out, E2.out⟩, fun _ => rfl⟩, hfin.trans (below_drewNq _ _ _), fun _ => ⟨hlt, by unfold cmpE; rw [keyCmp_eq]; exact ⟨E0.out.symm, E1.out.symm, E2.out.symm⟩⟩, hiN, HALL9.out, HGE9.out⟩
          · have g2 : ((X i).q == kq) = false := by simpa using e2
            have E2 : Hid ((X i).q ≠ kq) := e2
            clear e2
            go_wp2_with fail
            go_quiet (fail)
            go_wp2
            refine bodyPost_ret (v := .tuple #[.int .i64 (i : Int), .bool false]) (by simp [results, Try.results28, go_sem]) rfl ?_
            refine ⟨i, false, rfl, ⟨fun h9 => (by cases h9), fun h9 => absurd (HNO.out h9) (fun h => E2.out h.2.2)⟩, hfin.trans (below_drewNq _ _ _), fun h9 => (by cases h9), hiN, HALL9.out, HGE9.out⟩
        · have g1 : ((X i).s == ks) = false := by simpa using e1
          have E1 : Hid ((X i).s ≠ ks) := e1
          clear e1
          go_wp2_with fail
          go_quiet (fail)
          go_wp2
          refine bodyPost_ret (v := .tuple #[.int .i64 (i : Int), .bool false]) (by simp [results, Try.results28, go_sem]) rfl ?_
          refine ⟨i, false, rfl, ⟨fun h9 => (by cases h9), fun h9 => absurd (HNO.out h9) (fun h => E1.out h.2.1)⟩, hfin.trans (below_drewNq _ _ _), fun h9 => (by cases h9), hiN, HALL9.out, HGE9.out⟩
      · have g0 : ((X i).t == kt) = false := by simpa using e0
        have E0 : Hid ((X i).t ≠ kt) := e0
        clear e0
        go_wp2_with fail
        go_quiet (fail)
        go_wp2
        refine bodyPost_ret (v := .tuple #[.int .i64 (i : Int), .bool false]) (by simp [results, Try.results28, go_sem]) rfl ?_
        refine ⟨i, false, rfl, ⟨fun h9 => (by cases h9), fun h9 => absurd (HNO.out h9) (fun h => E0.out h.1)⟩, hfin.trans (below_drewNq _ _ _), fun h9 => (by cases h9), hiN, HALL9.out, HGE9.out⟩
    · have dl : decide ((i : Int) < (N : Int)) = false := by simp; omega
      go_wp2_with fail
      go_quiet (fail)
      go_wp2
      refine bodyPost_ret (v := .tuple #[.int .i64 (i : Int), .bool false]) (by simp [results, Try.results28, go_sem]) rfl ?_
      refine ⟨i, false, rfl, ⟨fun h9 => (by cases h9), ?_⟩, hfin.trans (below_drewNq _ _ _), fun h9 => (by cases h9), hiN, HALL9.out, HGE9.out⟩
      rintro ⟨j, hj, hc⟩
      have h9 := hall j (by omega)
      unfold cmpE at hc
      rw [keyCmp_eq] at hc
      rw [keyCmp_lt] at h9
      omega
set_option maxRecDepth 100000 in
set_option maxHeartbeats 4000000 in
theorem seek0 (kt ks kq : Int) (W : World) : Calls Try.prog 28 #[.slice none 0 0, .agg #[.int .u64 kt, .int .i64 ks, .int .u64 kq]] W fun e W' => e = .returned (.tuple #[.int .i64 0, .bool false]) ∧ Below W.heap.size W W' := by
  obtain ⟨W1, hW1⟩ : ∃ W1, W.alloc (.cells #[.int .u64 kt, .int .i64 ks, .int .u64 kq] 30) = W1 := ⟨_, rfl⟩
  have hb1 : Below W.heap.size W W1 := by rw [← hW1]; exact (Below.refl _ W).alloc (Nat.le_refl _) _
  have HW : Hid (W.alloc (.cells #[.int .u64 kt, .int .i64 ks, .int .u64 kq] 30) = W1) := hW1
  clear hW1
  go_enter Try.func28, Try.ntmps28
  go_wp2_with fail
  rw [HW.out]
  go_loopw [6] (fun x wr => x = .int .i64 0 ∧ wr = W1) (fun x _ => 0)
  case atStart => exact ⟨rfl, rfl⟩
  case round =>
    obtain ⟨rfl, rfl⟩ := hrel
    go_wp2_with fail
    go_quiet (fail)
    go_wp2_with fail
    go_quiet (fail)
    go_wp2_with fail
    refine bodyPost_ret (v := .tuple #[.int .i64 0, .bool false]) (by simp [results, Try.results28, go_sem]) rfl ?_
    exact ⟨rfl, (hb1.trans (below_drewNq _ _ _)).trans (below_drewNq _ _ _)⟩
theorem eql_ev9 (x : Ev) (W : World) : (binOp .eql 64 (.agg #[.int .u64 x.t, .int .i64 x.s, .int .u64 x.q, .int .i64 x.d, .int .i64 x.k, .int .i64 x.v]) (.agg #[.int .u64 x.t, .int .i64 x.s, .int .u64 x.q, .int .i64 x.d, .int .i64 x.k, .int .i64 x.v])).run Try.prog W = .ok (.bool true) W := by
  go_simp
set_option maxRecDepth 100000 in
set_option maxHeartbeats 4000000 in
theorem told_no (v : Value) (code i : Int) (W : World) : Calls Try.prog 33 #[evV ev0, .int .i64 code, v, .int .i64 i, .bool false, .int .i64 code] W fun e W' => e = .returned (.bool true) ∧ Below W.heap.size W W' := by
  obtain ⟨W1, hW1⟩ : ∃ W1, W.alloc (.cells #[.int .u64 0, .int .i64 0, .int .u64 0, .int .i64 0, .int .i64 0, .int .i64 0] 64) = W1 := ⟨_, rfl⟩
  have hb1 : Below W.heap.size W W1 := by rw [← hW1]; exact (Below.refl _ W).alloc (Nat.le_refl _) _
  have he1 : W1.heap[W.heap.size]? = some (.cells #[.int .u64 0, .int .i64 0, .int .u64 0, .int .i64 0, .int .i64 0, .int .i64 0] 64 (0, 0)) := by rw [← hW1]; exact World.alloc_heap_new W _
  obtain ⟨r0, r1, r2, r3, r4, r5⟩ := q6c he1
  rw [← hW1] at r0 r1 r2 r3 r4 r5
  have ne1 : ∀ w : World, (binOp .eql 64 (.agg #[.int .u64 0, .int .i64 0, .int .u64 0, .int .i64 0, .int .i64 0, .int .i64 0]) (.agg #[.int .u64 0, .int .i64 0, .int .u64 0, .int .i64 0, .int .i64 0, .int .i64 0])).run Try.prog w = .ok (.bool true) w := eql_ev9 ev0
  have HW : Hid (W.alloc (.cells #[.int .u64 0, .int .i64 0, .int .u64 0, .int .i64 0, .int .i64 0, .int .i64 0] 64) = W1 ∧ Below W.heap.size W W1) := ⟨hW1, hb1⟩
  clear hW1 hb1 he1
  unfold evV ev0
  go_enter Try.func33, Try.ntmps33
  go_wp2_with fail
  rw [HW.out.1]
  go_ret
  exact ⟨rfl, HW.out.2⟩
set_option maxRecDepth 100000 in
set_option maxHeartbeats 4000000 in
theorem told_yes (b o n c i : Nat) (X : Nat → Ev) (r : Int) (W : World) (h : EvO W b o n X) (hi : i < n) : Calls Try.prog 33 #[evV (X i), .int .i64 0, .slice (some ⟨b, o, none⟩) n c, .int .i64 (i : Int), .bool true, .int .i64 r] W fun e W' => e = .returned (.bool true) ∧ Below W.heap.size W W' := by
  obtain ⟨x, hx⟩ : ∃ x, X i = x := ⟨_, rfl⟩
  obtain ⟨W1, hW1⟩ : ∃ W1, W.alloc (.cells #[.int .u64 x.t, .int .i64 x.s, .int .u64 x.q, .int .i64 x.d, .int .i64 x.k, .int .i64 x.v] 64) = W1 := ⟨_, rfl⟩
  have hb1 : Below W.heap.size W W1 := by rw [← hW1]; exact (Below.refl _ W).alloc (Nat.le_refl _) _
  have he1 : W1.heap[W.heap.size]? = some (.cells #[.int .u64 x.t, .int .i64 x.s, .int .u64 x.q, .int .i64 x.d, .int .i64 x.k, .int .i64 x.v] 64 (0, 0)) := by rw [← hW1]; exact World.alloc_heap_new W _
  have h1 := h.later hb1
  obtain ⟨r0, r1, r2, r3, r4, r5⟩ := q6c he1
  have x0 : W1.cell? ⟨b, o + i * 6, none⟩ = some (.int .u64 x.t) := by rw [← hx]; exact h1.2 i 0 hi (by decide)
  have x1 : W1.cell? ⟨b, o + i * 6 + 1, none⟩ = some (.int .i64 x.s) := by rw [← hx]; exact h1.2 i 1 hi (by decide)
  have x2 : W1.cell? ⟨b, o + i * 6 + 2, none⟩ = some (.int .u64 x.q) := by rw [← hx]; exact h1.2 i 2 hi (by decide)
  have x3 : W1.cell? ⟨b, o + i * 6 + 3, none⟩ = some (.int .i64 x.d) := by rw [← hx]; exact h1.2 i 3 hi (by decide)
  have x4 : W1.cell? ⟨b, o + i * 6 + 4, none⟩ = some (.int .i64 x.k) := by rw [← hx]; exact h1.2 i 4 hi (by decide)
  have x5 : W1.cell? ⟨b, o + i * 6 + 5, none⟩ = some (.int .i64 x.v) := by rw [← hx]; exact h1.2 i 5 hi (by decide)
  have ne1 := eql_ev9 x
  have i0 : (0 : Int) ≤ (i : Int) := by omega
  have i1 : (i : Int) < (n : Int) := by omega
  have HW : Hid (W.alloc (.cells #[.int .u64 x.t, .int .i64 x.s, .int .u64 x.q, .int .i64 x.d, .int .i64 x.k, .int .i64 x.v] 64) = W1 ∧ Below W.heap.size W W1) := ⟨hW1, hb1⟩
  rw [hx]
  unfold evV
  clear hW1 hb1 he1 h h1 hx
  go_enter Try.func33, Try.ntmps33
  go_wp2_with fail
  rw [HW.out.1]
  go_quiet (fail)
  go_wp2_with fail
  go_ret
  exact ⟨rfl, HW.out.2.trans (below_drewNq _ _ _)⟩
end Go.Proofs.Ytlklolmhaiaaiaa
