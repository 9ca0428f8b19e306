import Derived.Test.YtcifdlncbekohaaDoorSC5
import Derived.Deep.RegionHeld3
import Derived.Deep.DeepCutAuto
import Derived.BigQuiet
namespace Go.Proofs.YtcifdlncbekohaaDoor
open Go.ChangeShapes Go.WideShapes Go.ChangeAt Go.RowKit
set_option linter.unusedVariables false
set_option linter.unusedSimpArgs false

/-! ### what the law wants, purely -/
def risB (d : Nat → Se) : Nat → Bool
  | 0 => true
  | i + 1 => risB d i && (decide (i = 0) || klt (d (i - 1)) (d i))
theorem risB_iff (d : Nat → Se) : ∀ n, risB d n = true ↔ Rsg n d
  | 0 => ⟨fun _ i hi => absurd hi (by omega), fun _ => rfl⟩
  | n + 1 => by
    unfold risB
    rw [Bool.and_eq_true, Bool.or_eq_true, decide_eq_true_iff, risB_iff d n]
    constructor
    · rintro ⟨h1, h2⟩ i hi
      by_cases h : i + 1 < n
      · exact h1 i h
      · have e : i + 1 = n := by omega
        rcases h2 with h2 | h2
        · omega
        · rw [show n - 1 = i by omega, ← e] at h2
          exact h2
    · intro h
      refine ⟨fun i hi => h i (by omega), ?_⟩
      by_cases h0 : n = 0
      · exact .inl h0
      · refine .inr ?_
        have := h (n - 1) (by omega)
        rw [show n - 1 + 1 = n by omega] at this
        exact this
theorem catL_in {Y : Nat → LsP} : ∀ {m : Nat}, (∀ k, k < m → ∀ i, i < (Y k).n → SeIn ((Y k).X i)) → ∀ i, i < offL Y m → SeIn (catL Y m i)
  | 0, _, i, h => absurd h (Nat.not_lt_zero _)
  | m + 1, hr, i, h => by
    show SeIn (catS (catL Y m) (Y m).X (offL Y m) i)
    unfold catS
    by_cases hl : i < offL Y m
    · rw [if_pos hl]
      exact catL_in (fun k hk => hr k (by omega)) i hl
    · rw [if_neg hl]
      have h' : i < offL Y m + (Y m).n := h
      exact hr m (by omega) _ (by omega)
theorem stb_in {c d : Nat → Se} {n : Nat} (h : Stb klt 0 n c d) (hc : ∀ i, i < n → SeIn (c i)) : ∀ i, i < n → SeIn (d i) := fun i hi => by
  obtain ⟨f, g, hs⟩ := h
  rw [hs.val]
  exact hc _ (hs.inr i (Nat.zero_le _) hi).2
theorem riseS (p : Option Addr) (n cp : Nat) (X : Nat → Se) (hn : n ≤ 2932031007402) (w : World) (h : SIn w p n X) : Calls Tryd.prog 15 #[.slice p n cp] w fun e w' => e = .returned (.bool (risB X n)) ∧ Below w.heap.size w w' := by
  refine (rising_any p n cp X hn w h).mono ?_
  rintro e w' ⟨q, rfl, h1, h2⟩
  have : q = risB X n := by
    have := h1.trans (risB_iff X n).symm
    cases q <;> cases hb : risB X n <;> simp [hb] at this ⊢
  exact ⟨by rw [this], h2⟩

attribute [-go_sem] run_eql_struct in
set_option maxRecDepth 100000 in
set_option maxHeartbeats 8000000 in
theorem carries_law (p : Option Addr) (m cp : Nat) (Y : Nat → LsP) (hm : m ≤ 1048576) (hof : offL Y m ≤ 1048576) (pt : Option Addr) (t : List Nat) (ct : Nat) (ht : t.length ≤ 1048576) (w : World) (gr : Gr w) (hy : LsIn w p m Y) (hr : ∀ k, k < m → ∀ i, i < (Y k).n → SeIn ((Y k).X i)) (hT : TailAt w pt t) : Calls Tryd.prog 3 #[.slice p m cp, .slice pt t.length ct] w fun e w' => e = .returned (.bool true) ∧ Below w.heap.size w w' := by
  have HY : Hid (LsIn w p m Y) := hy
  have HT : Hid (TailAt w pt t) := hT
  have HG : Hid (Gr w) := gr
  have HR : Hid (∀ i, i < offL Y m → SeIn (catL Y m i)) := catL_in hr
  obtain ⟨tl, htl⟩ : ∃ tl, t.length = tl := ⟨_, rfl⟩
  have HTL : Hid (t.length = tl) := htl
  rw [htl] at ht ⊢
  clear hy hT gr hr htl
  go_enter Tryd.func3, Tryd.ntmps3
  go_wp2_with fail
  go_loopw [5, 28] (fun v x wr => ∃ k : Nat, x = .int .i64 (k : Int) ∧ k ≤ m ∧ v = .int .i64 (offL Y k : Nat) ∧ wr = w) (fun _ x _ => m - (intOf x).toNat)
  case atStart => exact ⟨0, rfl, Nat.zero_le _, rfl, rfl⟩
  case round =>
    obtain ⟨k, rfl, hk, rfl, hw⟩ := hrel
    subst wr
    by_cases hlt : k < m
    case pos =>
      have dlt : decide ((k : Int) < (m : Int)) = true := by simp; omega
      have i0 : (0 : Int) ≤ (k : Int) := by omega
      have i1 : (k : Int) < (m : Int) := by omega
      have ei : IntKind.i64.wrap ((k : Int) + 1) = (k : Int) + 1 := by rw [IntKind.wrap_i64]; omega
      have hme := meas hlt
      rcases HY.out.1 with hz | ⟨b, o, hp, hlb, hc⟩
      · omega
      have c0 := hc k hlt
      have hofm : offL Y (k + 1) ≤ offL Y m := offL_mono Y hlt
      have hofk : offL Y (k + 1) = offL Y k + (Y k).n := rfl
      obtain ⟨a, ha⟩ : ∃ a, offL Y k = a := ⟨_, rfl⟩
      obtain ⟨z, hz⟩ : ∃ z, offL Y (k + 1) = z := ⟨_, rfl⟩
      rw [ha, hz] at hofk
      rw [hz] at hofm
      have es : IntKind.i64.wrap ((a : Int) + ((Y k).n : Int)) = (z : Int) := by rw [IntKind.wrap_i64]; omega
      have HZ : Hid (offL Y (k + 1) = z) := hz
      rw [hp, ha]
      clear hc hlb hofm hofk hp ha hz
      go_wp2_with fail
      exact ⟨⟨k + 1, rfl, hlt, by rw [HZ.out], trivial⟩, hme⟩
    have dlt : decide ((k : Int) < (m : Int)) = false := by simp; omega
    obtain rfl : k = m := by omega
    have HM := merge_any p k cp Y (by omega) (by omega) w HY.out
    have hcl := fun e => cnt_catL Y e k
    have hRR := HR.out
    obtain ⟨C, hC⟩ : ∃ C, catL Y k = C := ⟨_, rfl⟩
    obtain ⟨N, hN⟩ : ∃ N, offL Y k = N := ⟨_, rfl⟩
    rw [hN, hC] at HM hRR
    simp only [hN, hC] at hcl
    have HCL : Hid ((∀ e, cnt C e N = sumC Y e k) ∧ (∀ e j, j ≤ k → sumC Y e j ≤ N) ∧ (∀ i, i < N → SeIn (C i)) ∧ ∀ j, j < k → (Y j).n ≤ N) := ⟨hcl, fun e j hj => Nat.le_trans (sumC_le Y e j) (by rw [← hN]; exact offL_mono Y hj), hRR, fun j hj => by have h1 := offL_mono Y (show j + 1 ≤ k from hj); have h2 : offL Y (j + 1) = offL Y j + (Y j).n := rfl; omega⟩
    rw [hN] at hof ⊢
    clear hcl hC hN HR hRR
    by_cases h60 : 60 < N
    case pos =>
      have d60 : decide ((60 : Int) < (N : Int)) = true := by simp; omega
      have d60n : decide (60 < N) = true := by simp; omega
      clear HM HY HT HG HCL
      go_wp2_with fail
      go_ret
      exact ⟨rfl, Below.refl _ _⟩
    have d60 : decide ((60 : Int) < (N : Int)) = false := by simp; omega
    have d60n : decide (60 < N) = false := by simp; omega
    have e6 : IntKind.i64.wrap (6 * (N : Int)) = 6 * (N : Int) := by rw [IntKind.wrap_i64]; omega
    have e7 : IntKind.i64.wrap (1 + 6 * (N : Int)) = 1 + 6 * (N : Int) := by rw [IntKind.wrap_i64]; omega
    have hN60 : N ≤ 60 := by omega
    clear h60 hof
    go_wp2_with (first
      | (go_at_call 4; (with_reducible refine HM.mono ?_); rintro e1 w1 ⟨g, d, rfl, h1⟩
         have H1 : Hid (SRow w1 w.heap.size g N N d ∧ Stb klt 0 N C d ∧ Srt klt 0 N d ∧ Below w.heap.size w w1) := h1
         clear h1 HM
         have HI : Hid (∀ i, i < N → SeIn (d i)) := stb_in H1.out.2.1 HCL.out.2.2.1
         have HP := packAllS N d HI.out (some ⟨g, 0, none⟩) N w1 (own_sin0 H1.out.1) (by omega))
      | (go_at_call 5; (with_reducible refine HP.mono ?_); rintro e2 w2 ⟨vb, rfl, h2a, h2b⟩
         have hge := evsB_ge (evL d N)
         have hle := evsB_len (evL d N) (evL_in HI.out)
         have hep := enc_pos N
         rw [evL_len] at hge hle
         have hlen : (enc N ++ evsB (evL d N)).length = (enc N).length + (evsB (evL d N)).length := List.length_append
         have henc : (enc N).length ≤ 10 := enc_len10 N (by omega)
         have HW2 : Hid (BRow w2 w1.heap.size vb (enc N ++ evsB (evL d N)) ∧ Below w1.heap.size w1 w2) := ⟨h2a, h2b⟩
         have hcp := copyB _ vb w2 (by omega) (lies_of_own h2a (by omega))
         obtain ⟨bb, bc, rfl, hb1, hb2, hb3, hb4⟩ := lies_of_own h2a (by omega)
         obtain ⟨l, hl⟩ : ∃ l, enc N ++ evsB (evL d N) = l := ⟨_, rfl⟩
         rw [hl] at hcp hlen HW2 ⊢
         obtain ⟨Lb, hLb⟩ : ∃ Lb, l.length = Lb := ⟨_, rfl⟩
         have HL : Hid (enc N ++ evsB (evL d N) = l ∧ l.length = Lb) := ⟨hl, hLb⟩
         rw [hLb] at hcp hlen ⊢
         have dL : decide ((Lb : Int) < 1 + 6 * (N : Int)) = false := by simp; omega
         have hLbig : Lb ≤ 10000 := by omega
         clear h2a h2b hge hle hep hlen henc hb1 hb2 hb3 hb4 hl hLb HP)
      | (go_at_call 7; (with_reducible refine hcp.mono ?_); rintro e3 w3 ⟨vc, rfl, h3a, h3b⟩
         have hb13 : Below w1.heap.size w1 w3 := HW2.out.2.trans (h3b.mono HW2.out.2.size)
         have hbw3 : Below w.heap.size w w3 := H1.out.2.2.2.trans (hb13.mono H1.out.2.2.2.size)
         have hx1 := HL.out.2
         have hx2 := HTL.out
         obtain ⟨va, w4, hr4, h4a, h4b⟩ := app_bytes w3 w2.heap.size 23 vc l pt t ct h3a (HT.out.below hbw3) (by omega) h3b.size
         rw [hx2] at hr4
         have hb14 : Below w1.heap.size w1 w4 := hb13.trans (h4b.mono HW2.out.2.size)
         have HW4 : Hid (Below w1.heap.size w1 w4) := hb14
         rw [← HL.out.1] at h4a
         have HU := unpackAllS N d HI.out t HT.out.2 va w2.heap.size w4 (by rw [HL.out.1, List.length_append]; omega) (by omega) h4a
         rw [HL.out.1, hx1] at HU
         clear h3a h3b hb13 hbw3 hx1 hx2 h4a h4b hb14 hcp)
      | (at_builtin; refine Lib.wpList_append_run _ rfl _ _ 23 23 rfl _ _ rfl rfl _ _ hr4 ?_)
      | (go_at_call 6; (with_reducible refine HU.mono ?_); rintro e5 w5 ⟨pg, cg, rfl, h5a, h5b⟩
         have hb15 : Below w1.heap.size w1 w5 := HW4.out.trans (h5b.mono HW4.out.size)
         have HW5 : Hid (Below w1.heap.size w1 w5) := hb15
         have HS := sEvents_yes N d (some ⟨g, 0, none⟩) pg N cg (by omega) w5 ((own_sin0 H1.out.1).below hb15) h5a
         clear h5a h5b hb15 HU hr4)
      | (go_at_call 8; (with_reducible refine HS.mono ?_); rintro e6' w6 ⟨rfl, h6⟩
         have HW6 : Hid (Below w1.heap.size w1 w6) := HW5.out.trans (h6.mono HW5.out.size)
         clear h6 HS))
    go_loopw [13, 82] (fun v x wr => ∃ i : Nat, x = .int .i64 (i : Int) ∧ i ≤ N ∧ v = .bool (risB d i) ∧ Below w1.heap.size w1 wr) (fun _ x _ => N - (intOf x).toNat)
    case atStart => exact ⟨0, rfl, Nat.zero_le _, rfl, HW6.out⟩
    case round =>
      obtain ⟨i, rfl, hi, rfl, hbr⟩ := hrel
      have HB : Hid (Below w1.heap.size w1 wr) := hbr
      clear hbr
      by_cases hlt : i < N
      case neg =>
        have dli : decide ((i : Int) < (N : Int)) = false := by simp; omega
        obtain rfl : i = N := by omega
        have HR1 := riseS (some ⟨g, 0, none⟩) i i d (by omega) wr ((own_sin0 H1.out.1).below HB.out)
        obtain ⟨rb, hrb⟩ : ∃ rb, risB d i = rb := ⟨_, rfl⟩
        rw [hrb] at HR1 ⊢
        clear hrb
        go_wp2_with (first
          | (go_at_call 15; (with_reducible refine HR1.mono ?_); rintro e7' w7 ⟨rfl, h7⟩
             have HW7 : Hid (Below w1.heap.size w1 w7) := HB.out.trans (h7.mono HB.out.size)
             have HR2 := riseS none 0 0 d (by omega) w7 (.inl rfl)
             clear h7 HR1)
          | (go_at_call 15; (with_reducible refine HR2.mono ?_); rintro e8' w8 ⟨rfl, h8⟩
             have HW8 : Hid (Below w1.heap.size w1 w8) := HW7.out.trans (h8.mono HW7.out.size)
             clear h8 HR2))
        go_ret
        exact ⟨by simp [risB], H1.out.2.2.2.trans (HW8.out.mono H1.out.2.2.2.size)⟩
      have dli : decide ((i : Int) < (N : Int)) = true := by simp; omega
      have i0 : (0 : Int) ≤ (i : Int) := by omega
      have i1 : (i : Int) < (N : Int) := by omega
      have ei : IntKind.i64.wrap ((i : Int) + 1) = (i : Int) + 1 := by rw [IntKind.wrap_i64]; omega
      have hme := meas hlt
      have hIi := HI.out i hlt
      obtain ⟨g1, o1, hge1, hlg, x0, x1, x2, x3, x4, x5⟩ := ((own_sin0 H1.out.1).below HB.out).at hlt
      obtain ⟨rfl, rfl⟩ : g = g1 ∧ 0 = o1 := by
        injection hge1 with h
        injection h with h1 h2
        exact ⟨h1, h2⟩
      simp only [Nat.zero_add] at x0 x1 x2 x3 x4 x5
      clear hge1
      go_upto_if 88 with fail
      go_cut [13] (fun v wx => v = .bool (risB d (i + 1)) ∧ Below (wr.heap.size + 1) (wr.alloc (.cells #[.int .u64 (d i).t, .int .i64 (d i).s, .int .u64 (d i).q, .int .i64 (d i).d, .int .i64 (d i).k, .int .i64 (d i).v] 36)) wx)
      case first =>
        by_cases hz : i = 0
        · have d0 : decide ((0 : Int) < (i : Int)) = false := by simp; omega
          have d0n : decide (0 < i) = false := by simp; omega
          have hris : risB d (i + 1) = risB d i := by unfold risB; rw [hz]; simp [risB]
          go_wp2_with fail
          go_meet
          exact ⟨by rw [hris], Below.refl _ _⟩
        · obtain ⟨j, hj⟩ : ∃ j, j + 1 = i := ⟨i - 1, by omega⟩
          have d0 : decide ((0 : Int) < (i : Int)) = true := by simp; omega
          have d0n : decide (0 < i) = true := by simp; omega
          have ej : IntKind.i64.wrap ((i : Int) - 1) = (j : Int) := by rw [IntKind.wrap_i64]; omega
          have j0 : (0 : Int) ≤ (j : Int) := by omega
          have j1 : (j : Int) < (N : Int) := by omega
          obtain ⟨g2, o2, hge2, _, a0, a1, a2, a3, a4, a5⟩ := ((own_sin0 H1.out.1).below HB.out).at (i := j) (by omega)
          obtain ⟨rfl, rfl⟩ : g = g2 ∧ 0 = o2 := by
            injection hge2 with h
            injection h with h1 h2
            exact ⟨h1, h2⟩
          simp only [Nat.zero_add] at a0 a1 a2 a3 a4 a5
          clear hge2
          have KK : ∀ W, Below (wr.heap.size + 1) (wr.alloc (.cells #[.int .u64 (d i).t, .int .i64 (d i).s, .int .u64 (d i).q, .int .i64 (d i).d, .int .i64 (d i).k, .int .i64 (d i).v] 36)) W → Hid (W.cell? ⟨g, j * 6, none⟩ = some (.int .u64 (d j).t) ∧ W.cell? ⟨g, j * 6 + 1, none⟩ = some (.int .i64 (d j).s) ∧ W.cell? ⟨g, j * 6 + 2, none⟩ = some (.int .u64 (d j).q) ∧ W.cell? ⟨wr.heap.size, 0, none⟩ = some (.int .u64 (d i).t) ∧ W.cell? ⟨wr.heap.size, 1, none⟩ = some (.int .i64 (d i).s) ∧ W.cell? ⟨wr.heap.size, 2, none⟩ = some (.int .u64 (d i).q)) := fun W hb => by
            have hg1 : g < wr.heap.size + 1 := by omega
            have hbg : W.heap[g]? = wr.heap[g]? := (hb.block g hg1).trans (Below.heap_alloc _ _ _ hlg)
            have hf : ∀ o, W.cell? ⟨g, o, none⟩ = wr.cell? ⟨g, o, none⟩ := fun o => World.cell?_of_block hbg
            obtain ⟨y0, y1, y2, _⟩ := box_cells hb
            exact ⟨(hf _).trans a0, (hf _).trans a1, (hf _).trans a2, y0, y1, y2⟩
          obtain ⟨r, hr⟩ : ∃ r, kc (d j) (d i) = r := ⟨_, rfl⟩
          have HC : ∀ w', Below (wr.heap.size + 1) (wr.alloc (.cells #[.int .u64 (d i).t, .int .i64 (d i).s, .int .u64 (d i).q, .int .i64 (d i).d, .int .i64 (d i).k, .int .i64 (d i).v] 36)) w' → Hid (Calls Tryd.prog 9 #[.agg #[.int .u64 (d j).t, .int .i64 (d j).s, .int .u64 (d j).q], .agg #[.int .u64 (d i).t, .int .i64 (d i).s, .int .u64 (d i).q]] w' fun e w9 => e = .returned (.int .i64 r) ∧ Below (wr.heap.size + 1) (wr.alloc (.cells #[.int .u64 (d i).t, .int .i64 (d i).s, .int .u64 (d i).q, .int .i64 (d i).d, .int .i64 (d i).k, .int .i64 (d i).v] 36)) w9) := fun w' hb => by
            refine (compare_any (d j).t (d j).s (d j).q (d i).t (d i).s (d i).q w').mono ?_
            rintro e w9 ⟨h1, h2⟩
            exact ⟨by rw [h1, ← hr]; rfl, hb.trans (h2.mono (by have := hb.size; simpa using this))⟩
          have hr0 : r ≤ 0 := by
            rcases Int.lt_or_le 0 r with h | h
            · have h1 := kc_gt (d j) (d i) (by rw [hr]; omega)
              have h2 := H1.out.2.2.1 j i (Nat.zero_le _) (by omega) hlt
              rw [h1] at h2
              cases h2
            · exact h
          have dr0 : decide (0 < r) = false := by simp; omega
          have hris : risB d (i + 1) = (risB d i && decide (r < 0)) := by
            show (risB d i && (decide (i = 0) || klt (d (i - 1)) (d i))) = _
            rw [show i - 1 = j by omega, decide_eq_false hz]
            unfold klt
            rw [hr]
            simp
          obtain ⟨rb, hrb⟩ : ∃ rb, risB d i = rb := ⟨_, rfl⟩
          obtain ⟨rn, hrn⟩ : ∃ rn, decide (r < 0) = rn := ⟨_, rfl⟩
          rw [hrb, hrn] at hris
          rw [hrb]
          have HRS : Hid (risB d (i + 1) = (rb && rn)) := hris
          have KP0 := (KK _ (Below.refl _ _)).out
          clear hris hrb hr hr0 x0 x1 x2 x3 x4 x5 a0 a1 a2 a3 a4 a5 hj
          go_upto_region 19 with fail
          go_cut [16] (fun v wx => v = .int .i64 r ∧ Below (wr.heap.size + 1) (wr.alloc (.cells #[.int .u64 (d i).t, .int .i64 (d i).s, .int .u64 (d i).q, .int .i64 (d i).d, .int .i64 (d i).k, .int .i64 (d i).v] 36)) wx)
          case first =>
            go_region_held3 (fun W => W.cell? ⟨g, j * 6, none⟩ = some (.int .u64 (d j).t) ∧ W.cell? ⟨g, j * 6 + 1, none⟩ = some (.int .i64 (d j).s) ∧ W.cell? ⟨g, j * 6 + 2, none⟩ = some (.int .u64 (d j).q) ∧ W.cell? ⟨wr.heap.size, 0, none⟩ = some (.int .u64 (d i).t) ∧ W.cell? ⟨wr.heap.size, 1, none⟩ = some (.int .i64 (d i).s) ∧ W.cell? ⟨wr.heap.size, 2, none⟩ = some (.int .u64 (d i).q)) (first | with_reducible exact KP0 | with_reducible exact KP | go_keep) ((go_at_call 9; (with_reducible refine ((HC _ (Below.drew (Below.refl _ _))).out).mono ?_); rintro e w9 ⟨rfl, hb9⟩; have KP := (KK w9 hb9).out))
            all_goals (try go_wp2_with fail)
            all_goals (go_meet; exact ⟨rfl, hb9⟩)
          case rest =>
            obtain ⟨rfl, hbx⟩ := hcut
            cases rb <;> cases rn <;> (go_wp2_with fail; go_meet; exact ⟨by rw [HRS.out]; rfl, hbx⟩)
      case rest =>
        obtain ⟨rfl, hbx⟩ := hcut
        obtain ⟨y0, y1, y2, y3, y4, y5⟩ := box_cells hbx
        have HX : Hid (Below (wr.heap.size + 1) (wr.alloc (.cells #[.int .u64 (d i).t, .int .i64 (d i).s, .int .u64 (d i).q, .int .i64 (d i).d, .int .i64 (d i).k, .int .i64 (d i).v] 36)) wc) := hbx
        have hwc : wr.heap.size < wc.heap.size := by have := hbx.size; simp at this; omega
        have hb1c : Below w1.heap.size w1 wc := (HB.out.alloc HB.out.size _).trans (hbx.mono (by have := HB.out.size; omega))
        have HBC : Hid (Below w1.heap.size w1 wc) := hb1c
        have HPk := packS (d i) hIi wc
        have h6 := bytes_six (toEv (d i))
        have h60 := (toEv_in hIi).len
        obtain ⟨bs, hbs⟩ : ∃ bs, (toEv (d i)).bytes = bs := ⟨_, rfl⟩
        obtain ⟨Lo, hLo⟩ : ∃ Lo, bs.length = Lo := ⟨_, rfl⟩
        rw [hbs] at HPk h6 h60
        rw [hLo] at h6 h60
        have HLo : Hid ((toEv (d i)).bytes = bs ∧ bs.length = Lo) := ⟨hbs, hLo⟩
        have dl6 : decide ((Lo : Int) < 6) = false := by simp; omega
        have dl6n : decide (Lo < 6) = false := by simp; omega
        have dl60 : decide ((60 : Int) < (Lo : Int)) = false := by simp; omega
        have dl60n : decide (60 < Lo) = false := by simp; omega
        have ne1 := neq_seV (d i).t (d i).s (d i).q (d i).d (d i).k (d i).v
        clear hbx hb1c hbs hLo x0 x1 x2 x3 x4 x5
        go_wp2_with (first
          | (go_at_call 10; (with_reducible refine HPk.mono ?_); rintro e1 w2' ⟨vo, rfl, h2a, h2b⟩
             have hx1 := HLo.out.2
             have hx2 := HTL.out
             obtain ⟨ob, oc, hvo, _, _, _, _⟩ := lies_of_own h2a (by omega)
             have hb12 : Below w1.heap.size w1 w2' := HBC.out.trans (h2b.mono HBC.out.size)
             obtain ⟨va', w3', hr3, h3a, h3b⟩ := app_bytes w2' wc.heap.size 23 vo bs pt t ct h2a (HT.out.below (H1.out.2.2.2.trans (hb12.mono H1.out.2.2.2.size))) (by omega) h2b.size
             have hbc3 : Below wc.heap.size wc w3' := h2b.trans h3b
             rw [← HLo.out.1] at h3a
             have HUn := unpackS (d i) hIi t HT.out.2 va' wc.heap.size w3' (by rw [HLo.out.1, List.length_append]; omega) h3a
             rw [HLo.out.1, hx1] at HUn
             rw [hx1] at hvo
             rw [hvo, hx2] at hr3
             subst hvo
             have HW3 : Hid (Below wc.heap.size wc w3') := hbc3
             clear hx1 hx2 h2a h2b hb12 h3a h3b hbc3 HPk)
          | (at_builtin; refine Lib.wpList_append_run _ rfl _ _ 23 23 rfl _ _ rfl rfl _ _ hr3 ?_)
          | (go_at_call 11; (with_reducible refine HUn.mono ?_); rintro e4 w4' ⟨rfl, h4⟩
             have hbc4 : Below wc.heap.size wc w4' := HW3.out.trans (h4.mono HW3.out.size)
             have HW4' : Hid (Below wc.heap.size wc w4') := hbc4
             have hs4 := hbc4.size
             have y0' := (hbc4.cell (p := ⟨wr.heap.size, 0, none⟩) hwc).trans y0
             have y1' := (hbc4.cell (p := ⟨wr.heap.size, 1, none⟩) hwc).trans y1
             have y2' := (hbc4.cell (p := ⟨wr.heap.size, 2, none⟩) hwc).trans y2
             have y3' := (hbc4.cell (p := ⟨wr.heap.size, 3, none⟩) hwc).trans y3
             have y4' := (hbc4.cell (p := ⟨wr.heap.size, 4, none⟩) hwc).trans y4
             have y5' := (hbc4.cell (p := ⟨wr.heap.size, 5, none⟩) hwc).trans y5
             have hlo4 : wr.heap.size < w4'.heap.size := by omega
             have hgr : ∀ W, Below wc.heap.size wc W → Hid (Gr W) := fun W hb => HG.out.keep (H1.out.2.2.2.trans ((HBC.out.trans (hb.mono HBC.out.size)).mono H1.out.2.2.2.size))
             have hb4a : Below wc.heap.size wc (w4'.alloc (.cells #[.int .u64 (d i).t, .int .i64 (d i).s, .int .u64 (d i).q, .int .i64 (d i).d, .int .i64 (d i).k, .int .i64 (d i).v] 36)) := hbc4.alloc hs4 _
             have HTx := textS (d i) hIi (w4'.alloc (.cells #[.int .u64 (d i).t, .int .i64 (d i).s, .int .u64 (d i).q, .int .i64 (d i).d, .int .i64 (d i).k, .int .i64 (d i).v] 36)) (hgr _ hb4a).out
             clear h4 hbc4 y0 y1 y2 y3 y4 y5 HUn hr3 HW3 hb4a)
          | (go_at_call 13; (with_reducible refine HTx.mono ?_); rintro e5 w5' ⟨rfl, h5⟩
             have hsz5 : w4'.heap.size + 1 ≤ w5'.heap.size := by have := h5.size; simpa using this
             have hb45 : Below (w4'.heap.size + 1) (w4'.alloc (.cells #[.int .u64 (d i).t, .int .i64 (d i).s, .int .u64 (d i).q, .int .i64 (d i).d, .int .i64 (d i).k, .int .i64 (d i).v] 36)) w5' := by have := h5; simpa using this
             have hbc5 : Below wc.heap.size wc w5' := (HW4'.out.alloc hs4 _).trans (hb45.mono (by omega))
             have HPa := parseS (d i) hIi w5' (hgr _ hbc5).out
             have HW5' : Hid (Below (w4'.heap.size + 1) (w4'.alloc (.cells #[.int .u64 (d i).t, .int .i64 (d i).s, .int .u64 (d i).q, .int .i64 (d i).d, .int .i64 (d i).k, .int .i64 (d i).v] 36)) w5' ∧ Below wc.heap.size wc w5') := ⟨hb45, hbc5⟩
             clear h5 hb45 hbc5 HTx)
          | (go_at_call 12; (with_reducible refine HPa.mono ?_); rintro e6' w6' ⟨rfl, h6'⟩
             have hb46 : Below (w4'.heap.size + 1) (w4'.alloc (.cells #[.int .u64 (d i).t, .int .i64 (d i).s, .int .u64 (d i).q, .int .i64 (d i).d, .int .i64 (d i).k, .int .i64 (d i).v] 36)) w6' := HW5'.out.1.trans (h6'.mono hsz5)
             have hbc6 : Below wc.heap.size wc w6' := HW5'.out.2.trans (h6'.mono HW5'.out.2.size)
             have HW6' : Hid (Below wc.heap.size wc w6') := hbc6
             obtain ⟨z0, z1, z2, z3, z4, z5⟩ := box_cells hb46
             have hlo6 : w4'.heap.size < w6'.heap.size := by have := hb46.size; simp at this; omega
             have hlo6' : wr.heap.size < w6'.heap.size := by omega
             have hc6 : ∀ o, w6'.cell? ⟨wr.heap.size, o, none⟩ = w4'.cell? ⟨wr.heap.size, o, none⟩ := fun o => World.cell?_of_block ((hb46.block wr.heap.size (by omega)).trans (Below.heap_alloc _ _ _ hlo4))
             have v0 := (hc6 0).trans y0'
             have v1 := (hc6 1).trans y1'
             have v2 := (hc6 2).trans y2'
             have v3 := (hc6 3).trans y3'
             have v4 := (hc6 4).trans y4'
             have v5 := (hc6 5).trans y5'
             clear h6' hb46 hbc6 hc6 y0' y1' y2' y3' y4' y5' HPa HW5'))
        have HV : Hid (w6'.cell? ⟨wr.heap.size, 0, none⟩ = some (.int .u64 (d i).t) ∧ w6'.cell? ⟨wr.heap.size, 1, none⟩ = some (.int .i64 (d i).s) ∧ w6'.cell? ⟨wr.heap.size, 2, none⟩ = some (.int .u64 (d i).q) ∧ w6'.cell? ⟨wr.heap.size, 3, none⟩ = some (.int .i64 (d i).d) ∧ w6'.cell? ⟨wr.heap.size, 4, none⟩ = some (.int .i64 (d i).k) ∧ w6'.cell? ⟨wr.heap.size, 5, none⟩ = some (.int .i64 (d i).v)) := ⟨v0, v1, v2, v3, v4, v5⟩
        obtain ⟨A, hA⟩ : ∃ A, wr.heap.size = A := ⟨_, rfl⟩
        rw [hA] at HV hlo6' ⊢
        clear hA HX hwc hlo4
        clear v0 v1 v2 v3 v4 v5 z0 z1 z2 z3 z4 z5 hIi dl6 dl6n dl60 dl60n ne1 h6 h60
        go_loopw [23, 153] (fun v x wq => ∃ q : Nat, x = .int .i64 (q : Int) ∧ q ≤ k ∧ v = .int .i64 (sumC Y (d i) q : Nat) ∧ Below w6'.heap.size w6' wq) (fun _ x _ => k - (intOf x).toNat)
        case atStart => exact ⟨0, rfl, Nat.zero_le _, rfl, (Below.refl _ _).alloc (Nat.le_refl _) _⟩
        case round =>
          obtain ⟨q, rfl, hq, rfl, hbq⟩ := hrel
          obtain ⟨v0, v1, v2, v3, v4, v5⟩ := HV.out
          have t0 := (hbq.cell (p := ⟨A, 0, none⟩) hlo6').trans v0
          have t1 := (hbq.cell (p := ⟨A, 1, none⟩) hlo6').trans v1
          have t2 := (hbq.cell (p := ⟨A, 2, none⟩) hlo6').trans v2
          have t3 := (hbq.cell (p := ⟨A, 3, none⟩) hlo6').trans v3
          have t4 := (hbq.cell (p := ⟨A, 4, none⟩) hlo6').trans v4
          have t5 := (hbq.cell (p := ⟨A, 5, none⟩) hlo6').trans v5
          have hb1q : Below w1.heap.size w1 wr := by
            have h1 := HBC.out.trans (HW6'.out.mono HBC.out.size)
            exact h1.trans (hbq.mono h1.size)
          have hbwq : Below w.heap.size w wr := H1.out.2.2.2.trans (hb1q.mono H1.out.2.2.2.size)
          have HQ : Hid (Below w6'.heap.size w6' wr ∧ Below w1.heap.size w1 wr) := ⟨hbq, hb1q⟩
          clear v0 v1 v2 v3 v4 v5
          by_cases hql : q < k
          case pos =>
            have dlq : decide ((q : Int) < (k : Int)) = true := by simp; omega
            have q0 : (0 : Int) ≤ (q : Int) := by omega
            have q1 : (q : Int) < (k : Int) := by omega
            have eq' : IntKind.i64.wrap ((q : Int) + 1) = (q : Int) + 1 := by rw [IntKind.wrap_i64]; omega
            have hmq := meas hql
            have hl := HY.out.below hbwq
            have hnn := HCL.out.2.2.2 q hql
            have hsm := HCL.out.2.1 (d i) (q + 1) hql
            have HCn := count_any (Y q).p (Y q).n (Y q).c (Y q).X (d i) (by omega) wr (hl.2 q hql)
            rcases hl.1 with hz | ⟨b, o, hp, hlb, hc⟩
            · omega
            have c0 := hc q hql
            have hsk : sumC Y (d i) (q + 1) = sumC Y (d i) q + cnt (Y q).X (d i) (Y q).n := rfl
            obtain ⟨a, ha⟩ : ∃ a, sumC Y (d i) q = a := ⟨_, rfl⟩
            obtain ⟨cn, hcn⟩ : ∃ cn, cnt (Y q).X (d i) (Y q).n = cn := ⟨_, rfl⟩
            obtain ⟨z, hz⟩ : ∃ z, sumC Y (d i) (q + 1) = z := ⟨_, rfl⟩
            rw [ha, hcn, hz] at hsk
            rw [hz] at hsm
            rw [hcn] at HCn
            have es : IntKind.i64.wrap ((a : Int) + (cn : Int)) = (z : Int) := by rw [IntKind.wrap_i64]; omega
            have HZ : Hid (sumC Y (d i) (q + 1) = z) := hz
            rw [hp, ha]
            clear hl hc hlb hsk hsm hp ha hz hcn hnn hbq hb1q hbwq
            go_wp2_with (go_at_call 14; (with_reducible refine HCn.mono ?_); rintro e9 w9 ⟨rfl, h9⟩; have H9 : Hid (Below wr.heap.size wr w9) := h9; clear h9)
            exact ⟨⟨q + 1, rfl, hql, by rw [HZ.out], HQ.out.1.trans (H9.out.mono HQ.out.1.size)⟩, hmq⟩
          have dlq : decide ((q : Int) < (k : Int)) = false := by simp; omega
          obtain rfl : q = k := by omega
          have HCm := count_any (some ⟨g, 0, none⟩) N N d (d i) (by omega) wr ((own_sin0 H1.out.1).below hb1q)
          rw [cnt_stb (d i) H1.out.2.1, HCL.out.1 (d i)] at HCm
          obtain ⟨a, ha⟩ : ∃ a, sumC Y (d i) q = a := ⟨_, rfl⟩
          rw [ha] at HCm ⊢
          clear hbq hb1q hbwq ha
          go_wp2_with (go_at_call 14; (with_reducible refine HCm.mono ?_); rintro e9 w9 ⟨rfl, h9⟩; have H9 : Hid (Below wr.heap.size wr w9) := h9; clear h9)
          exact ⟨⟨i + 1, rfl, by omega, rfl, HQ.out.2.trans (H9.out.mono HQ.out.2.size)⟩, hme⟩
end Go.Proofs.YtcifdlncbekohaaDoor
