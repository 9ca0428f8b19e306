import Derived.Test.YtlklolmhaiaaiaaKY15
namespace Go.Proofs.Ytlklolmhaiaaiaa
open Go.ChangeShapes Go.WideShapes Go.ChangeAt Go.RowKit
set_option linter.unusedVariables false
set_option linter.unusedSimpArgs false

set_option maxRecDepth 100000 in
set_option maxHeartbeats 4000000 in
theorem before_any (t s q t' s' q' : Int) (W : World) :
    Calls Try.prog 56 #[.agg #[.int .u64 t, .int .i64 s, .int .u64 q], .agg #[.int .u64 t', .int .i64 s', .int .u64 q']] W fun e W' => e = .returned (.int .i64 (keyCmp t s q t' s' q')) ∧ Below W.heap.size W W' := by
  have hfin : Below W.heap.size W ((W.alloc (.cells #[.int .u64 t, .int .i64 s, .int .u64 q] 30)).alloc (.cells #[.int .u64 t', .int .i64 s', .int .u64 q'] 30)) := ((Below.refl _ W).alloc (Nat.le_refl _) _).alloc (by simp) _
  have HF : Hid (Below W.heap.size W ((W.alloc (.cells #[.int .u64 t, .int .i64 s, .int .u64 q] 30)).alloc (.cells #[.int .u64 t', .int .i64 s', .int .u64 q'] 30))) := hfin
  clear hfin
  by_cases h1 : t < t'
  · have e : keyCmp t s q t' s' q' = -1 := by rw [keyCmp_lt]; omega
    have d1 : decide (t < t') = true := by simpa using h1
    rw [e]
    clear e
    go_enter Try.func56, Try.ntmps56
    go_wp2
    go_ret
    exact ⟨rfl, HF.out⟩
  have d1 : decide (t < t') = false := by simpa using h1
  by_cases h2 : t' < t
  · have e : keyCmp t s q t' s' q' = 1 := by rw [keyCmp_gt]; omega
    have d2 : decide (t' < t) = true := by simpa using h2
    rw [e]
    clear e
    go_enter Try.func56, Try.ntmps56
    go_wp2
    go_ret
    exact ⟨rfl, HF.out⟩
  have d2 : decide (t' < t) = false := by simpa using h2
  by_cases h3 : s < s'
  · have e : keyCmp t s q t' s' q' = -1 := by rw [keyCmp_lt]; omega
    have d3 : decide (s < s') = true := by simpa using h3
    rw [e]
    clear e
    go_enter Try.func56, Try.ntmps56
    go_wp2
    go_ret
    exact ⟨rfl, HF.out⟩
  have d3 : decide (s < s') = false := by simpa using h3
  by_cases h4 : s' < s
  · have e : keyCmp t s q t' s' q' = 1 := by rw [keyCmp_gt]; omega
    have d4 : decide (s' < s) = true := by simpa using h4
    rw [e]
    clear e
    go_enter Try.func56, Try.ntmps56
    go_wp2
    go_ret
    exact ⟨rfl, HF.out⟩
  have d4 : decide (s' < s) = false := by simpa using h4
  by_cases h5 : q < q'
  · have e : keyCmp t s q t' s' q' = -1 := by rw [keyCmp_lt]; omega
    have d5 : decide (q < q') = true := by simpa using h5
    rw [e]
    clear e
    go_enter Try.func56, Try.ntmps56
    go_wp2
    go_ret
    exact ⟨rfl, HF.out⟩
  have d5 : decide (q < q') = false := by simpa using h5
  by_cases h6 : q' < q
  · have e : keyCmp t s q t' s' q' = 1 := by rw [keyCmp_gt]; omega
    have d6 : decide (q' < q) = true := by simpa using h6
    rw [e]
    clear e
    go_enter Try.func56, Try.ntmps56
    go_wp2
    go_ret
    exact ⟨rfl, HF.out⟩
  · have e : keyCmp t s q t' s' q' = 0 := by rw [keyCmp_eq]; omega
    have d6 : decide (q' < q) = false := by simpa using h6
    rw [e]
    clear e
    go_enter Try.func56, Try.ntmps56
    go_wp2
    go_ret
    exact ⟨rfl, HF.out⟩
/-- events lie there, cell by cell -/
def EvsL (W : World) (b N : Nat) (X : Nat → Ev) : Prop := b < W.heap.size ∧ ∀ i r, i < N → r < 6 → W.cell? ⟨b, i * 6 + r, none⟩ = some (evC (X i) r)
theorem EvsL.later {W W' : World} {b N : Nat} {X : Nat → Ev} (h : EvsL W b N X) (hb : Below W.heap.size W W') : EvsL W' b N X := ⟨Nat.lt_of_lt_of_le h.1 hb.size, fun i r hi hr => (cell_below (a := ⟨b, i * 6 + r, none⟩) hb h.1).trans (h.2 i r hi hr)⟩
def keyIs (kt ks kq : Int) (e : Ev) : Bool := e.t == kt && (e.s == ks && e.q == kq)
set_option maxRecDepth 100000 in
set_option maxHeartbeats 4000000 in
theorem seek_any (b N c : Nat) (X : Nat → Ev) (kt ks kq : Int) (W : World) (h : EvsL W b N X) (hN : N ≤ 8192) (hsrt : ∀ i j, i < j → j < N → keyLt (X i) (X j)) :
    Calls Try.prog 28 #[.slice (some ⟨b, 0, none⟩) N c, .agg #[.int .u64 kt, .int .i64 ks, .int .u64 kq]] W fun e W' => ∃ (i0 : Nat) (th : Bool), e = .returned (.tuple #[.int .i64 (i0 : Int), .bool th]) ∧ (th = true ↔ ∃ j, j < N ∧ cmpE kt ks kq (X j) = 0) ∧ Below W.heap.size W W' ∧ (th = true → i0 < N ∧ cmpE kt ks kq (X i0) = 0) ∧ i0 ≤ N ∧ (∀ j, j < i0 → keyCmp (X j).t (X j).s (X j).q kt ks kq = -1) ∧ (i0 < N → keyCmp (X i0).t (X i0).s (X i0).q kt ks kq ≠ -1) := by
  obtain ⟨W1, hW1⟩ : ∃ W1, W.alloc (.cells #[.int .u64 kt, .int .i64 ks, .int .u64 kq] 30) = W1 := ⟨_, rfl⟩
  have hb1 : Below W.heap.size W W1 := by rw [← hW1]; exact (Below.refl _ W).alloc (Nat.le_refl _) _
  have hK1 : KBx W1 W.heap.size kt ks kq := by unfold KBx; rw [← hW1]; exact World.alloc_heap_new W _
  have HW : Hid (W.alloc (.cells #[.int .u64 kt, .int .i64 ks, .int .u64 kq] 30) = W1) := hW1
  clear hW1
  have h1 := h.later hb1
  go_enter Try.func28, Try.ntmps28
  go_upto_block 0 with fail
  rw [HW.out]
  go_cut [6] (fun x wx => ∃ i : Nat, x = .int .i64 (i : Int) ∧ i ≤ N ∧ (∀ j, j < i → keyCmp (X j).t (X j).s (X j).q kt ks kq = -1) ∧ (i < N → keyCmp (X i).t (X i).s (X i).q kt ks kq ≠ -1) ∧ Below W1.heap.size W1 wx)
  case first =>
    go_wp2_with fail
    go_loopw [6] (fun x wr => ∃ i : Nat, x = .int .i64 (i : Int) ∧ i ≤ N ∧ (∀ j, j < i → keyCmp (X j).t (X j).s (X j).q kt ks kq = -1) ∧ Below W1.heap.size W1 wr) (fun x _ => N - (intOf x).toNat)
    case atStart => exact ⟨0, rfl, Nat.zero_le _, fun j hj => absurd hj (Nat.not_lt_zero _), Below.refl _ _⟩
    case round =>
      obtain ⟨i, rfl, hiN, hall, hbr⟩ := hrel
      have HALL : Hid (∀ j, j < i → keyCmp (X j).t (X j).s (X j).q kt ks kq = -1) := hall
      clear hall
      by_cases hlt : i < N
      · have dl : decide ((i : Int) < (N : Int)) = true := by simp; omega
        have i0 : (0 : Int) ≤ (i : Int) := by omega
        have i1 : (i : Int) < (N : Int) := by omega
        have hr := h1.later hbr
        have x0 : wr.cell? ⟨b, i * 6, none⟩ = some (.int .u64 (X i).t) := hr.2 i 0 hlt (by decide)
        have x1 : wr.cell? ⟨b, i * 6 + 1, none⟩ = some (.int .i64 (X i).s) := hr.2 i 1 hlt (by decide)
        have x2 : wr.cell? ⟨b, i * 6 + 2, none⟩ = some (.int .u64 (X i).q) := hr.2 i 2 hlt (by decide)
        have hKr : KBx wr W.heap.size kt ks kq := (hbr.block _ (lt_of_block hK1)).trans hK1
        obtain ⟨k0, k1, k2⟩ := hKr.cells
        have lk := lt_of_block hKr
        have HB := before_any (X i).t (X i).s (X i).q kt ks kq wr.drew
        have h3 := keyCmp_three (X i).t (X i).s (X i).q kt ks kq
        obtain ⟨cm, hcm⟩ : ∃ cm, keyCmp (X i).t (X i).s (X i).q kt ks kq = cm := ⟨_, rfl⟩
        rw [hcm] at HB h3
        have HCM : Hid (keyCmp (X i).t (X i).s (X i).q kt ks kq = cm) := hcm
        clear hcm
        have ei : IntKind.i64.wrap ((i : Int) + 1) = (i : Int) + 1 := by rw [IntKind.wrap_i64]; omega
        go_wp2_with fail
        go_region_held3 (fun w' => w'.cell? ⟨W.heap.size, 0, none⟩ = some (.int .u64 kt) ∧ w'.cell? ⟨W.heap.size, 1, none⟩ = some (.int .i64 ks) ∧ w'.cell? ⟨W.heap.size, 2, none⟩ = some (.int .u64 kq) ∧ w'.cell? ⟨b, i * 6, none⟩ = some (.int .u64 (X i).t) ∧ w'.cell? ⟨b, i * 6 + 1, none⟩ = some (.int .i64 (X i).s) ∧ w'.cell? ⟨b, i * 6 + 2, none⟩ = some (.int .u64 (X i).q)) (first | exact ⟨k0, k1, k2, x0, x1, x2⟩ | exact KP | go_keep) ((go_at_call 56; (with_reducible refine HB.mono ?_); rintro e w1 ⟨rfl, hbb⟩; have hb0 : Below wr.heap.size wr w1 := (below_drewNq _ wr 1).trans (hbb.mono (Nat.le_refl _)); have KP : (fun w' => w'.cell? ⟨W.heap.size, 0, none⟩ = some (.int .u64 kt) ∧ w'.cell? ⟨W.heap.size, 1, none⟩ = some (.int .i64 ks) ∧ w'.cell? ⟨W.heap.size, 2, none⟩ = some (.int .u64 kq) ∧ w'.cell? ⟨b, i * 6, none⟩ = some (.int .u64 (X i).t) ∧ w'.cell? ⟨b, i * 6 + 1, none⟩ = some (.int .i64 (X i).s) ∧ w'.cell? ⟨b, i * 6 + 2, none⟩ = some (.int .u64 (X i).q)) w1 := ⟨(cell_below hb0 lk).trans k0, (cell_below hb0 lk).trans k1, (cell_below hb0 lk).trans k2, (cell_below (a := ⟨b, i * 6, none⟩) hb0 hr.1).trans x0, (cell_below (a := ⟨b, i * 6 + 1, none⟩) hb0 hr.1).trans x1, (cell_below (a := ⟨b, i * 6 + 2, none⟩) hb0 hr.1).trans x2⟩))
        have hbF : Below W1.heap.size W1 w1 := hbr.trans (hb0.mono hbr.size)
        rcases h3 with h3 | h3 | h3
        · have dc : decide (cm < 0) = true := by rw [h3]; rfl
          go_wp2
          refine ⟨⟨i + 1, rfl, by omega, fun j hj => ?_, hbF⟩, meas0 hlt⟩
          by_cases hj2 : j < i
          · exact HALL.out j hj2
          · obtain rfl : j = i := by omega
            exact HCM.out.trans h3
        · have dc : decide (cm < 0) = false := by rw [h3]; rfl
          go_wp2
          go_meet
          exact ⟨i, rfl, hiN, HALL.out, fun _ => by rw [HCM.out, h3]; decide, hbF⟩
        · have dc : decide (cm < 0) = false := by rw [h3]; rfl
          go_wp2
          go_meet
          exact ⟨i, rfl, hiN, HALL.out, fun _ => by rw [HCM.out, h3]; decide, hbF⟩
      · have dl : decide ((i : Int) < (N : Int)) = false := by simp; omega
        go_wp2_with fail
        go_quiet (fail)
        go_wp2
        go_meet
        exact ⟨i, rfl, hiN, HALL.out, fun h9 => absurd h9 hlt, hbr.trans (below_drewNq _ _ _)⟩
  case rest =>
    obtain ⟨i, rfl, hiN, hall, hge, hbx⟩ := hcut
    have HALL9 : Hid (∀ j, j < i → keyCmp (X j).t (X j).s (X j).q kt ks kq = -1) := hall
    have HGE9 : Hid (i < N → keyCmp (X i).t (X i).s (X i).q kt ks kq ≠ -1) := hge
    have hr := h1.later hbx
    have hKr : KBx wc W.heap.size kt ks kq := (hbx.block _ (lt_of_block hK1)).trans hK1
    obtain ⟨k0, k1, k2⟩ := hKr.cells
    have hfin : Below W.heap.size W wc := hb1.trans (hbx.mono hb1.size)
    by_cases hlt : i < N
    · have dl : decide ((i : Int) < (N : Int)) = true := by simp; omega
      have i0 : (0 : Int) ≤ (i : Int) := by omega
      have i1 : (i : Int) < (N : Int) := by omega
      have x0 : wc.cell? ⟨b, i * 6, none⟩ = some (.int .u64 (X i).t) := hr.2 i 0 hlt (by decide)
      have x1 : wc.cell? ⟨b, i * 6 + 1, none⟩ = some (.int .i64 (X i).s) := hr.2 i 1 hlt (by decide)
      have x2 : wc.cell? ⟨b, i * 6 + 2, none⟩ = some (.int .u64 (X i).q) := hr.2 i 2 hlt (by decide)
      have HNO : Hid ((∃ j, j < N ∧ cmpE kt ks kq (X j) = 0) → (X i).t = kt ∧ (X i).s = ks ∧ (X i).q = kq) := by
        rintro ⟨j, hj, hc⟩
        unfold cmpE at hc
        rw [keyCmp_eq] at hc
        by_cases hji : j < i
        · have h9 := hall j hji
          rw [keyCmp_lt] at h9
          omega
        by_cases hij : j = i
        · subst hij
          omega
        · have h9 := hsrt i j (by omega) hj
          rw [keyLt_iff] at h9
          have h8 := hge hlt
          rw [Ne, keyCmp_lt] at h8
          omega
      have HYES : Hid ((X i).t = kt ∧ (X i).s = ks ∧ (X i).q = kq → ∃ j, j < N ∧ cmpE kt ks kq (X j) = 0) := fun h9 => ⟨i, hlt, by unfold cmpE; rw [keyCmp_eq]; omega⟩
      by_cases e0 : (X i).t = kt
      · have g0 : ((X i).t == kt) = true := by simpa using e0
        have E0 : Hid ((X i).t = kt) := e0
        clear e0
        by_cases e1 : (X i).s = ks
        · have g1 : ((X i).s == ks) = true := by simpa using e1
          have E1 : Hid ((X i).s = ks) := e1
          clear e1
          by_cases e2 : (X i).q = kq
          · have g2 : ((X i).q == kq) = true := by simpa using e2
            have E2 : Hid ((X i).q = kq) := e2
            clear e2
            go_wp2_with fail
            go_quiet (fail)
            go_wp2
            refine bodyPost_ret (v := .tuple #[.int .i64 (i : Int), .bool true]) (by simp [results, Try.results28, go_sem]) rfl ?_
            exact ⟨i, true, rfl, ⟨fun _ => HYES.out ⟨E0.out, E1.out, E2.out⟩, fun _ => rfl⟩, hfin.trans (below_drewNq _ _ _), fun _ => ⟨hlt, by unfold cmpE; rw [keyCmp_eq]; exact ⟨E0.out.symm, E1.out.symm, E2.out.symm⟩⟩, hiN, HALL9.out, HGE9.out⟩
          · have g2 : ((X i).q == kq) = false := by simpa using e2
            have E2 : Hid ((X i).q ≠ kq) := e2
            clear e2
            go_wp2_with fail
            go_quiet (fail)
            go_wp2
            refine bodyPost_ret (v := .tuple #[.int .i64 (i : Int), .bool false]) (by simp [results, Try.results28, go_sem]) rfl ?_
            refine ⟨i, false, rfl, ⟨fun h9 => (by cases h9), fun h9 => absurd (HNO.out h9) (fun h => E2.out h.2.2)⟩, hfin.trans (below_drewNq _ _ _), fun h9 => (by cases h9), hiN, HALL9.out, HGE9.out⟩
        · have g1 : ((X i).s == ks) = false := by simpa using e1
          have E1 : Hid ((X i).s ≠ ks) := e1
          clear e1
          go_wp2_with fail
          go_quiet (fail)
          go_wp2
          refine bodyPost_ret (v := .tuple #[.int .i64 (i : Int), .bool false]) (by simp [results, Try.results28, go_sem]) rfl ?_
          refine ⟨i, false, rfl, ⟨fun h9 => (by cases h9), fun h9 => absurd (HNO.out h9) (fun h => E1.out h.2.1)⟩, hfin.trans (below_drewNq _ _ _), fun h9 => (by cases h9), hiN, HALL9.out, HGE9.out⟩
      · have g0 : ((X i).t == kt) = false := by simpa using e0
        have E0 : Hid ((X i).t ≠ kt) := e0
        clear e0
        go_wp2_with fail
        go_quiet (fail)
        go_wp2
        refine bodyPost_ret (v := .tuple #[.int .i64 (i : Int), .bool false]) (by simp [results, Try.results28, go_sem]) rfl ?_
        refine ⟨i, false, rfl, ⟨fun h9 => (by cases h9), fun h9 => absurd (HNO.out h9) (fun h => E0.out h.1)⟩, hfin.trans (below_drewNq _ _ _), fun h9 => (by cases h9), hiN, HALL9.out, HGE9.out⟩
    · have dl : decide ((i : Int) < (N : Int)) = false := by simp; omega
      go_wp2_with fail
      go_quiet (fail)
      go_wp2
      refine bodyPost_ret (v := .tuple #[.int .i64 (i : Int), .bool false]) (by simp [results, Try.results28, go_sem]) rfl ?_
      refine ⟨i, false, rfl, ⟨fun h9 => (by cases h9), ?_⟩, hfin.trans (below_drewNq _ _ _), fun h9 => (by cases h9), hiN, HALL9.out, HGE9.out⟩
      rintro ⟨j, hj, hc⟩
      have h9 := hall j (by omega)
      unfold cmpE at hc
      rw [keyCmp_eq] at hc
      rw [keyCmp_lt] at h9
      omega
end Go.Proofs.Ytlklolmhaiaaiaa
