import Derived.Test.YtlklolmhaiaaiaaKYL7
import Derived.Deep.DeepCutAuto
import Derived.Deep.CutBlock
import Derived.Maps.AppendAt
namespace Go.Proofs.Ytlklolmhaiaaiaa
open Go.ChangeShapes Go.WideShapes Go.ChangeAt Go.RowKit
set_option linter.unusedVariables false
set_option linter.unusedSimpArgs false

theorem mhidS {p : Prop} (h : p) : Hid p := h
theorem sameInts_yes (p q : Option Addr) (n c d : Nat) (K : Nat → Int) (hn : n ≤ 8192) (w : World) (hp : KAt w p n K) (hq : KAt w q n K) : Calls Try.prog 20 #[.slice p n c, .slice q n d] w fun e w' => e = .returned (.bool true) ∧ Below w.heap.size w w' := by
  have HS := sameInts_any p q n n c d K K (by omega) w hp hq
  rw [decide_eq_true rfl, sameF_yes (fun _ _ => rfl), Bool.true_and] at HS
  exact HS
theorem three_new (W : World) (a b c : Array Value) (ta tb tc : TypeId) (wF : World) (h : ((W.alloc (.cells a ta)).alloc (.cells b tb)).alloc (.cells c tc) = wF) : wF.heap[W.heap.size]? = some (.cells a ta (0, 0)) ∧ wF.heap[W.heap.size + 1]? = some (.cells b tb (0, 0)) ∧ wF.heap[W.heap.size + 2]? = some (.cells c tc (0, 0)) ∧ Below W.heap.size W wF ∧ wF.heap.size = W.heap.size + 3 := three_alloc W a b c ta tb tc wF h
set_option maxRecDepth 100000 in
set_option maxHeartbeats 16000000 in
theorem lists_good (r : Int) (p : Option Addr) (N c : Nat) (O : Nat → OpV) (W : World) (a1 : 1 ≤ r) (a2 : r ≤ 8192) (hk : OpsIn W p N O) (hN : N ≤ 3000000000000) :
    Calls Try.prog 5 #[.int .i64 r, .slice p N c] W fun e W' => e = .returned (.bool true) ∧ Below W.heap.size W W' := by
  have HN1 := q_new r a1 a2 W
  have HN3 := fun (w : World) (E : Nat → Ev) => rnew_good r w a1 a2 E
  have HK : Hid (OpsIn W p N O ∧ N ≤ 3000000000000 ∧ 1 ≤ r ∧ r ≤ 8192) := ⟨hk, hN, a1, a2⟩
  clear hk hN a1 a2
  go_enter Try.func5, Try.ntmps5
  go_upto_region 2 with (go_at_call 6; (with_reducible refine HN1.mono ?_); rintro e w1 ⟨qb, nb, rfl, hq, hO, hne, hqs, hb1⟩; have HQ1 : Hid (QS W.heap.size qb nb r 0 [] w1 ∧ Below W.heap.size W w1) := ⟨new_QS hq hO hne hqs ⟨HK.out.2.2.1, HK.out.2.2.2⟩, hb1⟩; clear hq hO hne hqs hb1)
  go_upto_region 3 with (go_at_call 15; (with_reducible refine (HN3 w1 (fun _ => ev0)).mono ?_); rintro e w3 ⟨rfl, hr3, hb3⟩; have HQ3 : Hid (RQ w3 w1.heap.size (fun _ => ev0) .nil r 0 ∧ Below w1.heap.size w1 w3) := ⟨hr3, hb3⟩; clear hr3 hb3)
  have HQ : Hid (LS W w3 qb nb w1.heap.size r 0 0 none 0 (fun _ => 0) ∧ W.heap.size ≤ w1.heap.size) := by
    have hB1 : Below W.heap.size W w1 := HQ1.out.2
    have hB3 := HQ3.out.2
    have hs1 := hB1.size
    exact ⟨⟨pr_new (HQ1.out.1.later hB3) (Nat.le_refl _) fun E => HQ3.out.1.congr fun x hx => by simp [Tr.ps] at hx, Own.nil0, fun k hk => absurd hk (Nat.not_lt_zero k), hB1.trans (hB3.mono hs1), Nat.le_refl _⟩, hs1⟩
  generalize hqr : w1.heap.size = qr at HQ ⊢
  clear HN1 HN3 HQ1 HQ3 hqr
  go_wp2_with fail
  go_loopg [9, 10] N (fun gn x y wr => ∃ (i g M c9 : Nat) (p9 : Option Addr) (Hs : Nat → Nat), y = .int .i64 (i : Int) ∧ x = .slice p9 M c9 ∧ i + gn = N ∧ LS W wr qb g qr r i M p9 c9 Hs)
  case atStart => exact ⟨0, nb, 0, 0, none, fun _ => 0, rfl, rfl, Nat.zero_add _, HQ.out.1⟩
  case round =>
    obtain ⟨i, g, M, c9, p9, Hs, rfl, rfl, hiN, hls⟩ := hrel
    have HI : Hid (LS W wr qb g qr r i M p9 c9 Hs ∧ W.heap.size ≤ qr ∧ i + gk = N) := ⟨hls, HQ.out.2, hiN⟩
    clear HQ hls
    by_cases hlt : i < N
    · have dl : decide ((i : Int) < (N : Int)) = true := by simp; omega
      have dl2 : decide (i < N) = true := by simp; omega
      have i0 : (0 : Int) ≤ (i : Int) := by omega
      have i1 : (i : Int) < (N : Int) := by omega
      obtain ⟨hk, hN, _, _⟩ := HK.out
      obtain ⟨b, o, hp, hbl, hcells⟩ : ∃ b o, p = some ⟨b, o, none⟩ ∧ b < W.heap.size ∧ ∀ i r, i < N → r < 7 → W.cell? ⟨b, o + i * 7 + r, none⟩ = some ((opA (O i)).toList.getD r undef) := by
        rcases hk with h9 | h9
        · omega
        · exact h9
      subst hp
      have hcw : ∀ r, r < 7 → wr.cell? ⟨b, o + i * 7 + r, none⟩ = some ((opA (O i)).toList.getD r undef) := fun r hr => (cell_below (a := ⟨b, o + i * 7 + r, none⟩) HI.out.1.bl hbl).trans (hcells i r hlt hr)
      have x0 : wr.cell? ⟨b, o + i * 7, none⟩ = some (.int .i64 (O i).kd) := hcw 0 (by decide)
      have x1 : wr.cell? ⟨b, o + i * 7 + 1, none⟩ = some (.int .i64 (O i).wh) := hcw 1 (by decide)
      have x2 : wr.cell? ⟨b, o + i * 7 + 2, none⟩ = some (.int .u64 (O i).t) := hcw 2 (by decide)
      have x3 : wr.cell? ⟨b, o + i * 7 + 3, none⟩ = some (.int .i64 (O i).s) := hcw 3 (by decide)
      have x4 : wr.cell? ⟨b, o + i * 7 + 4, none⟩ = some (.int .u64 (O i).q) := hcw 4 (by decide)
      have x5 : wr.cell? ⟨b, o + i * 7 + 5, none⟩ = some (.int .i64 (O i).d) := hcw 5 (by decide)
      have x6 : wr.cell? ⟨b, o + i * 7 + 6, none⟩ = some (.int .i64 (O i).n) := hcw 6 (by decide)
      have ei : IntKind.i64.wrap ((i : Int) + 1) = ((i + 1 : Nat) : Int) := by rw [IntKind.wrap_i64]; omega
      have e2 : IntKind.i64.wrap (2 * (i : Int)) = 2 * (i : Int) := by rw [IntKind.wrap_i64]; omega
      have e3 : IntKind.i64.wrap (2 * (i : Int) + 1) = 2 * (i : Int) + 1 := by rw [IntKind.wrap_i64]; omega
      have e4 : IntKind.i64.wrap (2 * (i : Int) + 2) = 2 * (i : Int) + 2 := by rw [IntKind.wrap_i64]; omega
      obtain ⟨m1, hm1⟩ : ∃ m1, m1 = 1000000 * (2 * (i : Int) + 1) := ⟨_, rfl⟩
      obtain ⟨m2, hm2⟩ : ∃ m2, m2 = 1000000 * (2 * (i : Int) + 2) := ⟨_, rfl⟩
      have e5 : IntKind.i64.wrap (1000000 * (2 * (i : Int) + 1)) = m1 := by rw [IntKind.wrap_i64, hm1]; omega
      have e6 : IntKind.i64.wrap (1000000 * (2 * (i : Int) + 2)) = m2 := by rw [IntKind.wrap_i64, hm2]; omega
      have HM : Hid ((0 ≤ m1 ∧ m1 ≤ 7000000000000000000) ∧ (0 ≤ m2 ∧ m2 ≤ 7000000000000000000) ∧ 65536 * (i : Int) ≤ 4611686018427000000 - 16384 ∧ i < N) := ⟨⟨by omega, by omega⟩, ⟨by omega, by omega⟩, by omega, hlt⟩
      generalize hoi : O i = oi at *
      obtain ⟨w5, hw5⟩ : ∃ w5, ((wr.alloc (.cells #[.int .i64 oi.kd, .int .i64 oi.wh, .int .u64 oi.t, .int .i64 oi.s, .int .u64 oi.q, .int .i64 oi.d, .int .i64 oi.n] 32)).alloc (.cells #[.slice none 0 0, .slice none 0 0, .slice none 0 0, .slice none 0 0, .int .i64 m1] 52)).alloc (.cells #[.slice none 0 0, .slice none 0 0, .slice none 0 0, .slice none 0 0, .int .i64 m2] 52) = w5 := ⟨_, rfl⟩
      have HW5 : Hid (((wr.alloc (.cells #[.int .i64 oi.kd, .int .i64 oi.wh, .int .u64 oi.t, .int .i64 oi.s, .int .u64 oi.q, .int .i64 oi.d, .int .i64 oi.n] 32)).alloc (.cells #[.slice none 0 0, .slice none 0 0, .slice none 0 0, .slice none 0 0, .int .i64 m1] 52)).alloc (.cells #[.slice none 0 0, .slice none 0 0, .slice none 0 0, .slice none 0 0, .int .i64 m2] 52) = w5) := hw5
      obtain ⟨ho5, hh5, ht5, hb5, hs5⟩ := three_new _ _ _ _ _ _ _ _ hw5
      have lo5 := lt_of_block ho5
      have h5 : HB w5 wr.heap.size (wr.heap.size + 1) m1 0 0 none none 0 0 (fun _ => ev0) (fun _ => .int .i64 0) := HB.new hh5 (by omega)
      have t5 : HB w5 wr.heap.size (wr.heap.size + 1 + 1) m2 0 0 none none 0 0 (fun _ => ev0) (fun _ => .int .i64 0) := HB.new ht5 (by omega)
      have px5 := HI.out.1.pr.kpm (B := 0) (Kp.below hb5)
      have n1 : wr.heap.size + 1 ≠ wr.heap.size + 1 + 1 := by omega
      have H5 : Hid (Below wr.heap.size wr w5 ∧ w5.heap[wr.heap.size]? = some (.cells (opA oi) 32 (0, 0)) ∧ HB w5 wr.heap.size (wr.heap.size + 1) m1 0 0 none none 0 0 (fun _ => ev0) (fun _ => .int .i64 0) ∧ HB w5 wr.heap.size (wr.heap.size + 1 + 1) m2 0 0 none none 0 0 (fun _ => ev0) (fun _ => .int .i64 0) ∧ PR w5 W.heap.size qb g qr r (65536 * (i : Int)) ∧ wr.heap.size + 1 ≠ wr.heap.size + 1 + 1 ∧ wr.heap.size < w5.heap.size) := ⟨hb5, ho5, h5, t5, px5, n1, lo5⟩
      obtain ⟨y0, y1, y2, y3, y4, y5, y6⟩ := c7 ho5
      clear hw5 hcw hcells hk hbl hb5 hh5 ht5 h5 t5 px5 n1 hs5 hoi hm1 hm2 hN hiN ho5
      go_upto_region 14 with fail
      rw [HW5.out]
      clear x0 x1 x2 x3 x4 x5 x6 HW5 e2 e3 e4 e5 e6 lo5
      generalize wr.heap.size + 1 = hb at H5 ⊢
      generalize hb + 1 = tb at H5 ⊢
      go_upto_block 2 with fail
      go_cut [14] (fun x14 wx => x14 = .bool true ∧ CS W wr hb tb qb g qr r (65536 * (i : Int) + 65536) oi m1 m2 wx)
      case first =>
        have HLE : Hid (wr.heap.size ≤ w5.heap.size) := Nat.le_of_lt H5.out.2.2.2.2.2.2
        have RS0 : Hid (RS wr hb tb qb g qr oi m1 m2 w5 0 0 0 0 none none none none 0 0 0 0 (fun _ => ev0) (fun _ => ev0) (fun _ => .int .i64 0) (fun _ => .int .i64 0)) := ⟨H5.out.2.1, H5.out.2.2.1, H5.out.2.2.2.1, ⟨fun k hk => none_ne k, fun k hk => none_ne k⟩, Ch.below H5.out.1, H5.out.2.2.2.2.2.1, HI.out.1.pr.lt⟩
        obtain ⟨c, n, A, t, fl, root, work, q1, q2, q3⟩ := H5.out.2.2.2.2.1
        have px : PX w5 W.heap.size qb g qr c n A t fl root r work := ⟨q1, q2⟩
        have HQ3 : Hid (work ≤ 65536 * (i : Int)) := q3
        clear q1 q2 q3
        by_cases h6 : oi.kd = 6
        · as_aux_lemma =>
            have d6 : (oi.kd == 6) = true := by rw [h6]; rfl
            have HS := px_split oi.t w5 px (by have := HM.out.2.2.1; have := HQ3.out; omega)
            clear h6 px
            go_upto_region 19 with (go_at_call 17; (with_reducible refine HS.mono ?_); rintro e w6 ⟨b6, m6, X6, rfl, hm6, hsh6, hrow6, hC6, hR6⟩; have s6 := RS0.out.call hC6.sq2; obtain ⟨z0, z2, f0, f2⟩ := s6.kH; have HA6 := mhidS (And.intro s6 (And.intro hm6 (And.intro hsh6 (And.intro hrow6 hR6)))); clear s6 hm6 hsh6 hrow6 hR6 hC6)
            have s7 := HA6.out.1.setHE (Own.lower HA6.out.2.2.2.1 HLE.out) HA6.out.2.1 (fun k hk => none_ne k)
            have hR7 := HA6.out.2.2.2.2 ((w6.setCell ⟨hb, 0, none⟩ (.slice (some ⟨b6, 0, none⟩) m6 m6)).drew) wr.heap.size (HA6.out.1.h.set_kpm.trans (Kp.below (below_drewNq _ _ 1)))
            have HM6 := mhidS (And.intro HA6.out.2.1 HA6.out.2.2.1)
            clear z0 z2 f0 f2 HA6 y0 y1 y2 y3 y4 y5 y6
            generalize w6.setCell ⟨hb, 0, none⟩ (.slice (some ⟨b6, 0, none⟩) m6 m6) = w7 at *
            obtain ⟨z0, z2, _, _⟩ := s7.kH
            have y2 := (c7 s7.bx).2.2.1
            have S7 := mhidS s7
            clear s7
            go_region_held3 (fun w' => w'.cell? ⟨hb, 0, none⟩ = some (.slice (some ⟨b6, 0, none⟩) m6 m6) ∧ w'.cell? ⟨wr.heap.size, 2, none⟩ = some (.int .u64 oi.t)) (first | exact ⟨z0, y2⟩ | with_reducible exact KP | go_keep) (first | (go_at_call 18; (with_reducible refine hR7.mono ?_); rintro e w8 ⟨p8, c8, rfl, hx8, hP8, hC8⟩; have s8 := S7.out.call ((Ch.drew _ w7 1).trans hC8.sq1); have KP : w8.cell? ⟨hb, 0, none⟩ = some (.slice (some ⟨b6, 0, none⟩) m6 m6) ∧ w8.cell? ⟨wr.heap.size, 2, none⟩ = some (.int .u64 oi.t) := ⟨(s8.kH).1, (c7 s8.bx).2.2.1⟩; have HSE := sameEvents_yes m6 (fun j => evC (X6 (j / 6)) (j % 6)) (some ⟨b6, 0, none⟩) p8 m6 c8 (by have := HM6.out.1; omega) w8 (own_xat s8.h.e) hx8 HM6.out.2; have H8 := mhidS (And.intro s8 hP8); clear s8 hx8 hP8 hC8) | (go_at_call 9; (with_reducible refine HSE.mono ?_); rintro e w9 ⟨rfl, hb9⟩; have H9 := mhidS (And.intro (H8.out.1.below hb9) (H8.out.2.kpm (B := 0) (Kp.below hb9))); have KP : w9.cell? ⟨hb, 0, none⟩ = some (.slice (some ⟨b6, 0, none⟩) m6 m6) ∧ w9.cell? ⟨wr.heap.size, 2, none⟩ = some (.int .u64 oi.t) := ⟨(H9.out.1.kH).1, (c7 H9.out.1.bx).2.2.1⟩; clear hb9 H8))
            all_goals
              go_wp2_with fail
              go_meet
              case rel => exact ⟨rfl, H9.out.1.cs (H9.out.2.up (by have := HQ3.out; omega))⟩
        have h6n := h6
        clear h6
        by_cases h6 : oi.kd = 8
        · as_aux_lemma =>
            clear h6n
            have d6 : (oi.kd == 6) = false := by rw [h6]; rfl
            have d8 : (oi.kd == 8) = true := by rw [h6]; rfl
            have HSZ := mhidS px.q.n1.2.2
            have HC0 := px_list w5 px
            clear h6 px
            go_upto_region 24 with (first
              | (go_at_call 10; (with_reducible refine HC0.mono ?_); rintro e w6 ⟨b6, rfl, ho6, hp6, hC6⟩; have s6 := RS0.out.call hC6.sq2; have s7 := s6.setHE (Z := fun i => A.E ((t.spots 0).getD i (0, 0)).1) (Own.lower ho6 HLE.out) HSZ.out (fun k hk => none_ne k); have hp7 := s6.pxH hp6 0 (.slice (some ⟨b6, 0, none⟩) t.size t.size); obtain ⟨z0, z2, f0, f2⟩ := s6.kH; have HC1 := px_depths _ hp7; have H7 := mhidS (And.intro s7 hp7); clear HC0 s6 s7 hp6 hp7 hC6 ho6)
              | (go_at_call 7; (with_reducible refine HC1.mono ?_); rintro e w8 ⟨p8, c8, rfl, ho8, hp8, hC8⟩; have s8 := H7.out.1.call hC8.sq2; have s9 := s8.setTD (Own.lower ho8 H7.out.1.ch.size) HSZ.out (fun k hk => none_own hk); have hp9 := s8.pxT hp8 2 (.slice p8 t.size c8); clear z0 z2 f0 f2; obtain ⟨z0, z2, f0, f2⟩ := s8.kT; have HC2 := px_list _ hp9; have H9 := mhidS (And.intro s9 hp9); clear HC1 s8 s9 hp8 hp9 hC8 ho8 H7)
              | (go_at_call 10; (with_reducible refine HC2.mono ?_); rintro e w10 ⟨b10, rfl, ho10, hp10, hC10⟩; have s10 := H9.out.1.call hC10.sq2; have s11 := s10.setTE (Z := fun i => A.E ((t.spots 0).getD i (0, 0)).1) (Own.lower ho10 H9.out.1.ch.size) HSZ.out (new_ne H9.out.1.h.e ho10 (Nat.le_refl _)); have hp11 := s10.pxT hp10 0 (.slice (some ⟨b10, 0, none⟩) t.size t.size); clear z0 z2 f0 f2; obtain ⟨z0, z2, f0, f2⟩ := s10.kT; have H11 := mhidS (And.intro s11 hp11); clear HC2 s10 s11 hp10 hp11 hC10 ho10 H9))
            clear z0 z2 f0 f2 y0 y1 y2 y3 y4 y5 y6
            obtain ⟨s11, hp11⟩ := H11.out
            clear H11
            generalize w10.setCell ⟨tb, 0, none⟩ (.slice (some ⟨b10, 0, none⟩) t.size t.size) = w11 at *

            have S11 := mhidS (And.intro s11 hp11)
            have KP0 : w11.cell? ⟨hb, 0, none⟩ = some (.slice (some ⟨b6, 0, none⟩) t.size t.size) ∧ w11.cell? ⟨tb, 0, none⟩ = some (.slice (some ⟨b10, 0, none⟩) t.size t.size) ∧ w11.cell? ⟨tb, 2, none⟩ = some (.slice p8 t.size c8) := ⟨(s11.kH.1), (s11.kT.1), (s11.kT.2.1)⟩
            have HC1 := px_rlist w11.drew (hp11.below (below_drewNq _ w11 1))
            clear s11 hp11
            go_region_held3 (fun w' => w'.cell? ⟨hb, 0, none⟩ = some (.slice (some ⟨b6, 0, none⟩) t.size t.size) ∧ w'.cell? ⟨tb, 0, none⟩ = some (.slice (some ⟨b10, 0, none⟩) t.size t.size) ∧ w'.cell? ⟨tb, 2, none⟩ = some (.slice p8 t.size c8)) (first | exact KP0 | with_reducible exact KP | go_keep) (first | (go_at_call 19; (with_reducible refine HC1.mono ?_); rintro e w12 ⟨p12, c12, rfl, hx12, hb12⟩; have hb12d : Below w11.heap.size w11 w12 := (below_drewNq _ w11 1).trans (hb12.mono (Nat.le_refl _)); have H12 := mhidS (And.intro (S11.out.1.below hb12d) (S11.out.2.below hb12d)); have KP : w12.cell? ⟨hb, 0, none⟩ = some (.slice (some ⟨b6, 0, none⟩) t.size t.size) ∧ w12.cell? ⟨tb, 0, none⟩ = some (.slice (some ⟨b10, 0, none⟩) t.size t.size) ∧ w12.cell? ⟨tb, 2, none⟩ = some (.slice p8 t.size c8) := ⟨(H12.out.1.kH.1), (H12.out.1.kT.1), (H12.out.1.kT.2.1)⟩; have HC2 := sameEvents_yes t.size (evF A.E (t.spots 0)) (some ⟨b6, 0, none⟩) p12 t.size c12 (by have := HSZ.out; omega) w12 (own_xat H12.out.1.h.e) hx12 (evF_sh _ _ _); clear hx12 hb12 hb12d HC1) | (go_at_call 9; (with_reducible refine HC2.mono ?_); rintro e w13 ⟨rfl, hb13⟩; have H13 := mhidS (And.intro (H12.out.1.below hb13) (H12.out.2.below hb13)); have KP : w13.cell? ⟨hb, 0, none⟩ = some (.slice (some ⟨b6, 0, none⟩) t.size t.size) ∧ w13.cell? ⟨tb, 0, none⟩ = some (.slice (some ⟨b10, 0, none⟩) t.size t.size) ∧ w13.cell? ⟨tb, 2, none⟩ = some (.slice p8 t.size c8) := ⟨(H13.out.1.kH.1), (H13.out.1.kT.1), (H13.out.1.kT.2.1)⟩; have HC3 := px_rlist w13 H13.out.2; clear hb13 HC2) | (go_at_call 19; (with_reducible refine HC3.mono ?_); rintro e w14 ⟨p14, c14, rfl, hx14, hb14⟩; have hb14d := hb14; have H14 := mhidS (And.intro (H13.out.1.below hb14d) (H13.out.2.below hb14d)); have KP : w14.cell? ⟨hb, 0, none⟩ = some (.slice (some ⟨b6, 0, none⟩) t.size t.size) ∧ w14.cell? ⟨tb, 0, none⟩ = some (.slice (some ⟨b10, 0, none⟩) t.size t.size) ∧ w14.cell? ⟨tb, 2, none⟩ = some (.slice p8 t.size c8) := ⟨(H14.out.1.kH.1), (H14.out.1.kT.1), (H14.out.1.kT.2.1)⟩; have HC4 := sameEvents_yes t.size (evF A.E (t.spots 0)) (some ⟨b10, 0, none⟩) p14 t.size c14 (by have := HSZ.out; omega) w14 (own_xat H14.out.1.t.e) hx14 (evF_sh _ _ _); clear hx14 hb14 hb14d HC3) | (go_at_call 9; (with_reducible refine HC4.mono ?_); rintro e w15 ⟨rfl, hb15⟩; have H15 := mhidS (And.intro (H14.out.1.below hb15) (H14.out.2.below hb15)); have KP : w15.cell? ⟨hb, 0, none⟩ = some (.slice (some ⟨b6, 0, none⟩) t.size t.size) ∧ w15.cell? ⟨tb, 0, none⟩ = some (.slice (some ⟨b10, 0, none⟩) t.size t.size) ∧ w15.cell? ⟨tb, 2, none⟩ = some (.slice p8 t.size c8) := ⟨(H15.out.1.kH.1), (H15.out.1.kT.1), (H15.out.1.kT.2.1)⟩; have HC5 := px_rdepths w15 H15.out.2; clear hb15 HC4) | (go_at_call 21; (with_reducible refine HC5.mono ?_); rintro e w16 ⟨p16, c16, rfl, hx16, hb16⟩; have hb16d := hb16; have H16 := mhidS (And.intro (H15.out.1.below hb16d) (H15.out.2.below hb16d)); have KP : w16.cell? ⟨hb, 0, none⟩ = some (.slice (some ⟨b6, 0, none⟩) t.size t.size) ∧ w16.cell? ⟨tb, 0, none⟩ = some (.slice (some ⟨b10, 0, none⟩) t.size t.size) ∧ w16.cell? ⟨tb, 2, none⟩ = some (.slice p8 t.size c8) := ⟨(H16.out.1.kH.1), (H16.out.1.kT.1), (H16.out.1.kT.2.1)⟩; have HC6 := sameInts_yes (p8) p16 t.size c8 c16 _ HSZ.out w16 (own_kat H16.out.1.t.d) hx16; clear hx16 hb16 hb16d HC5) | (go_at_call 20; (with_reducible refine HC6.mono ?_); rintro e w17 ⟨rfl, hb17⟩; have H17 := mhidS (And.intro (H16.out.1.below hb17) (H16.out.2.below hb17)); have KP : w17.cell? ⟨hb, 0, none⟩ = some (.slice (some ⟨b6, 0, none⟩) t.size t.size) ∧ w17.cell? ⟨tb, 0, none⟩ = some (.slice (some ⟨b10, 0, none⟩) t.size t.size) ∧ w17.cell? ⟨tb, 2, none⟩ = some (.slice p8 t.size c8) := ⟨(H17.out.1.kH.1), (H17.out.1.kT.1), (H17.out.1.kT.2.1)⟩; clear hb17 HC6))
            all_goals
              go_wp2_with fail
              go_meet
              case rel => exact ⟨rfl, H17.out.1.cs (H17.out.2.pr (by have := HQ3.out; omega))⟩
        have h8n := h6
        clear h6
        by_cases h6 : oi.kd = 10
        · as_aux_lemma =>
            clear h6n h8n
            have d6 : (oi.kd == 6) = false := by rw [h6]; rfl
            have d8 : (oi.kd == 8) = false := by rw [h6]; rfl
            have d10 : (oi.kd == 10) = true := by rw [h6]; rfl
            have HSZ := mhidS px.q.n1.2.2
            have HC0 := px_depths w5 px
            clear h6 px
            go_upto_region 29 with (first
              | (go_at_call 7; (with_reducible refine HC0.mono ?_); rintro e w6 ⟨p6, c6, rfl, ho6, hp6, hC6⟩; have s6 := RS0.out.call hC6.sq2; have s7 := s6.setHD (Own.lower ho6 HLE.out) HSZ.out (fun k hk => none_ne k); have hp7 := s6.pxH hp6 2 (.slice p6 t.size c6); obtain ⟨z0, z2, f0, f2⟩ := s6.kH; have HC1 := px_list _ hp7; have H7 := mhidS (And.intro s7 hp7); clear HC0 s6 s7 hp6 hp7 hC6 ho6)
              | (go_at_call 10; (with_reducible refine HC1.mono ?_); rintro e w8 ⟨b8, rfl, ho8, hp8, hC8⟩; have s8 := H7.out.1.call hC8.sq2; have s9 := s8.setTE (Z := fun i => A.E ((t.spots 0).getD i (0, 0)).1) (Own.lower ho8 H7.out.1.ch.size) HSZ.out (fun k hk => none_own hk); have hp9 := s8.pxT hp8 0 (.slice (some ⟨b8, 0, none⟩) t.size t.size); clear z0 z2 f0 f2; obtain ⟨z0, z2, f0, f2⟩ := s8.kT; have HC2 := px_depths _ hp9; have H9 := mhidS (And.intro s9 hp9); clear HC1 s8 s9 hp8 hp9 hC8 ho8 H7)
              | (go_at_call 7; (with_reducible refine HC2.mono ?_); rintro e w10 ⟨p10, c10, rfl, ho10, hp10, hC10⟩; have s10 := H9.out.1.call hC10.sq2; have s11 := s10.setTD (Own.lower ho10 H9.out.1.ch.size) HSZ.out (new_ne H9.out.1.h.d ho10 (Nat.le_refl _)); have hp11 := s10.pxT hp10 2 (.slice p10 t.size c10); clear z0 z2 f0 f2; obtain ⟨z0, z2, f0, f2⟩ := s10.kT; have H11 := mhidS (And.intro s11 hp11); clear HC2 s10 s11 hp10 hp11 hC10 ho10 H9))
            clear z0 z2 f0 f2 y0 y1 y2 y3 y4 y5 y6
            obtain ⟨s11, hp11⟩ := H11.out
            clear H11
            generalize w10.setCell ⟨tb, 2, none⟩ (.slice p10 t.size c10) = w11 at *

            have S11 := mhidS (And.intro s11 hp11)
            have KP0 : w11.cell? ⟨hb, 2, none⟩ = some (.slice p6 t.size c6) ∧ w11.cell? ⟨tb, 0, none⟩ = some (.slice (some ⟨b8, 0, none⟩) t.size t.size) ∧ w11.cell? ⟨tb, 2, none⟩ = some (.slice p10 t.size c10) := ⟨(s11.kH.2.1), (s11.kT.1), (s11.kT.2.1)⟩
            have HC1 := px_rdepths w11.drew (hp11.below (below_drewNq _ w11 1))
            clear s11 hp11
            go_region_held3 (fun w' => w'.cell? ⟨hb, 2, none⟩ = some (.slice p6 t.size c6) ∧ w'.cell? ⟨tb, 0, none⟩ = some (.slice (some ⟨b8, 0, none⟩) t.size t.size) ∧ w'.cell? ⟨tb, 2, none⟩ = some (.slice p10 t.size c10)) (first | exact KP0 | with_reducible exact KP | go_keep) (first | (go_at_call 21; (with_reducible refine HC1.mono ?_); rintro e w12 ⟨p12, c12, rfl, hx12, hb12⟩; have hb12d : Below w11.heap.size w11 w12 := (below_drewNq _ w11 1).trans (hb12.mono (Nat.le_refl _)); have H12 := mhidS (And.intro (S11.out.1.below hb12d) (S11.out.2.below hb12d)); have KP : w12.cell? ⟨hb, 2, none⟩ = some (.slice p6 t.size c6) ∧ w12.cell? ⟨tb, 0, none⟩ = some (.slice (some ⟨b8, 0, none⟩) t.size t.size) ∧ w12.cell? ⟨tb, 2, none⟩ = some (.slice p10 t.size c10) := ⟨(H12.out.1.kH.2.1), (H12.out.1.kT.1), (H12.out.1.kT.2.1)⟩; have HC2 := sameInts_yes (p6) p12 t.size c6 c12 _ HSZ.out w12 (own_kat H12.out.1.h.d) hx12; clear hx12 hb12 hb12d HC1) | (go_at_call 20; (with_reducible refine HC2.mono ?_); rintro e w13 ⟨rfl, hb13⟩; have H13 := mhidS (And.intro (H12.out.1.below hb13) (H12.out.2.below hb13)); have KP : w13.cell? ⟨hb, 2, none⟩ = some (.slice p6 t.size c6) ∧ w13.cell? ⟨tb, 0, none⟩ = some (.slice (some ⟨b8, 0, none⟩) t.size t.size) ∧ w13.cell? ⟨tb, 2, none⟩ = some (.slice p10 t.size c10) := ⟨(H13.out.1.kH.2.1), (H13.out.1.kT.1), (H13.out.1.kT.2.1)⟩; have HC3 := px_rdepths w13 H13.out.2; clear hb13 HC2) | (go_at_call 21; (with_reducible refine HC3.mono ?_); rintro e w14 ⟨p14, c14, rfl, hx14, hb14⟩; have hb14d := hb14; have H14 := mhidS (And.intro (H13.out.1.below hb14d) (H13.out.2.below hb14d)); have KP : w14.cell? ⟨hb, 2, none⟩ = some (.slice p6 t.size c6) ∧ w14.cell? ⟨tb, 0, none⟩ = some (.slice (some ⟨b8, 0, none⟩) t.size t.size) ∧ w14.cell? ⟨tb, 2, none⟩ = some (.slice p10 t.size c10) := ⟨(H14.out.1.kH.2.1), (H14.out.1.kT.1), (H14.out.1.kT.2.1)⟩; have HC4 := sameInts_yes (p10) p14 t.size c10 c14 _ HSZ.out w14 (own_kat H14.out.1.t.d) hx14; clear hx14 hb14 hb14d HC3) | (go_at_call 20; (with_reducible refine HC4.mono ?_); rintro e w15 ⟨rfl, hb15⟩; have H15 := mhidS (And.intro (H14.out.1.below hb15) (H14.out.2.below hb15)); have KP : w15.cell? ⟨hb, 2, none⟩ = some (.slice p6 t.size c6) ∧ w15.cell? ⟨tb, 0, none⟩ = some (.slice (some ⟨b8, 0, none⟩) t.size t.size) ∧ w15.cell? ⟨tb, 2, none⟩ = some (.slice p10 t.size c10) := ⟨(H15.out.1.kH.2.1), (H15.out.1.kT.1), (H15.out.1.kT.2.1)⟩; have HC5 := px_rlist w15 H15.out.2; clear hb15 HC4) | (go_at_call 19; (with_reducible refine HC5.mono ?_); rintro e w16 ⟨p16, c16, rfl, hx16, hb16⟩; have hb16d := hb16; have H16 := mhidS (And.intro (H15.out.1.below hb16d) (H15.out.2.below hb16d)); have KP : w16.cell? ⟨hb, 2, none⟩ = some (.slice p6 t.size c6) ∧ w16.cell? ⟨tb, 0, none⟩ = some (.slice (some ⟨b8, 0, none⟩) t.size t.size) ∧ w16.cell? ⟨tb, 2, none⟩ = some (.slice p10 t.size c10) := ⟨(H16.out.1.kH.2.1), (H16.out.1.kT.1), (H16.out.1.kT.2.1)⟩; have HC6 := sameEvents_yes t.size (evF A.E (t.spots 0)) (some ⟨b8, 0, none⟩) p16 t.size c16 (by have := HSZ.out; omega) w16 (own_xat H16.out.1.t.e) hx16 (evF_sh _ _ _); clear hx16 hb16 hb16d HC5) | (go_at_call 9; (with_reducible refine HC6.mono ?_); rintro e w17 ⟨rfl, hb17⟩; have H17 := mhidS (And.intro (H16.out.1.below hb17) (H16.out.2.below hb17)); have KP : w17.cell? ⟨hb, 2, none⟩ = some (.slice p6 t.size c6) ∧ w17.cell? ⟨tb, 0, none⟩ = some (.slice (some ⟨b8, 0, none⟩) t.size t.size) ∧ w17.cell? ⟨tb, 2, none⟩ = some (.slice p10 t.size c10) := ⟨(H17.out.1.kH.2.1), (H17.out.1.kT.1), (H17.out.1.kT.2.1)⟩; clear hb17 HC6))
            all_goals
              go_wp2_with fail
              go_meet
              case rel => exact ⟨rfl, H17.out.1.cs (H17.out.2.pr (by have := HQ3.out; omega))⟩
        have h10 := h6
        clear h6
        have h6 := h6n
        have h8 := h8n
        clear h6n h8n
        have d6 : (oi.kd == 6) = false := by simpa using h6
        have d8 : (oi.kd == 8) = false := by simpa using h8
        have d10 : (oi.kd == 10) = false := by simpa using h10
        have HA1 : Hid (∀ w, w = w5 → Calls Try.prog 16 #[.pointer (some ⟨qb, 0, none⟩), .pointer (some ⟨qr, 0, none⟩), .agg (opA oi)] w5 fun r9 W' => TRes W.heap.size qb g qr r (65536 * (i : Int)) w5 r9 W') := fun w _ => step_any oi w5 H5.out.2.2.2.2.1 HM.out.2.2.1
        unfold opA at HA1
        clear h6 h8 h10 px
        go_wp2_with (go_at_call 16; (with_reducible refine (HA1.out _ rfl).mono ?_); rintro e w6 ⟨rfl, hres⟩; have HR1 := mhidS hres; clear hres)
        go_meet
        case rel =>
          obtain ⟨g', hp6, hg6, hC6⟩ := HR1.out
          exact ⟨rfl, (RS0.out.call hC6).cs (hp6.up (by omega))⟩
      case rest =>
        obtain ⟨rfl, hcs⟩ := hcut
        obtain ⟨wq, rfl⟩ : ∃ wq, wq = wc := ⟨_, rfl⟩
        obtain ⟨bb, hbb⟩ : ∃ bb, bb = (oi.kd == 6 || oi.kd == 8 || oi.kd == 10) := ⟨_, rfl⟩
        have HCS := mhidS hcs
        have y0 := (c7 (by obtain ⟨g', nE, nD, mE, mD, pE, pD, qE, qD, cE, cD, dE, dD, X, Y, D, G, hp, hbx, _⟩ := hcs; exact hbx)).1
        clear hcs
        go_upto_region 32 with fail
        go_cut [184] (fun x wx => x = .bool bb ∧ wx = wq)
        case first =>
          have e3w : (oi.kd == 6) = true ∨ ((oi.kd == 6) = false ∧ (oi.kd == 8) = true) ∨ ((oi.kd == 6) = false ∧ (oi.kd == 8) = false) := by
            rcases Bool.eq_false_or_eq_true (oi.kd == 6) with h | h
            · exact .inl h
            · rcases Bool.eq_false_or_eq_true (oi.kd == 8) with h8 | h8
              · exact .inr (.inl ⟨h, h8⟩)
              · exact .inr (.inr ⟨h, h8⟩)
          rcases e3w with e6 | ⟨e6, e8⟩ | ⟨e6, e8⟩
          · go_wp2_with fail
            go_meet
            case rel => exact ⟨by rw [hbb, e6]; rfl, rfl⟩
          · go_wp2_with fail
            go_meet
            case rel => exact ⟨by rw [hbb, e6, e8]; rfl, rfl⟩
          · go_wp2_with fail
            go_meet
            case rel => exact ⟨by rw [hbb, e6, e8]; rfl, rfl⟩
        case rest =>
          obtain ⟨rfl, hwc⟩ := hcut
          subst hwc
          clear hbb y0 y1 y2 y3 y4 y5 y6
          obtain ⟨g', nE, nD, mE, mD, pE, pD, qE, qD, cE, cD, dE, dD, X, Y, D, G, hp, hbx, hh, ht, hap, hch⟩ := HCS.out
          have hkc : Kp SC wr wc := HI.out.1.pr.kpsc hch
          have HKC := mhidS hkc
          have hbw : Below W.heap.size W wc := HI.out.1.bl.trans (hch.toBelow HI.out.1.bl.size (by
            have hb9 := HI.out.1.pr.base
            have hq9 := HI.out.2.1
            rintro k (e | e | e) <;> omega))
          have hal : Own wc W.heap.size 50 1 (.slice p9 M c9) M (fun k => .pointer (some ⟨Hs k, 0, none⟩)) := HI.out.1.al.kp hkc (fun k _ _ => ⟨by decide, by decide, by decide⟩)
          have hhd : ∀ k, k < M → HD wc W.heap.size (Hs k) := fun k hk => (HI.out.1.hd k hk).kp hkc (fun k _ _ => sc_three k)
          have H9 : Hid (PR wc W.heap.size qb g' qr r (65536 * (i : Int) + 65536) ∧ HB wc wr.heap.size hb m1 nE nD pE pD cE cD X D ∧ HB wc wr.heap.size tb m2 mE mD qE qD dE dD Y G ∧ Apt (.slice pE nE cE) (.slice pD nD cD) (.slice qE mE dE) (.slice qD mD dD) ∧ Below W.heap.size W wc ∧ Own wc W.heap.size 50 1 (.slice p9 M c9) M (fun k => .pointer (some ⟨Hs k, 0, none⟩)) ∧ (∀ k, k < M → HD wc W.heap.size (Hs k)) ∧ wr.heap.size ≤ wc.heap.size) := ⟨hp, hh, ht, hap, hbw, hal, hhd, hch.size⟩
          have HNE : Hid (hb ≠ tb) := H5.out.2.2.2.2.2.1
          clear hp hbx hh ht hap hch hkc hbw hal hhd HCS
          go_upto_if 184 with fail
          go_cut [9] (fun x9 wx => ∃ (g2 M2 c2 : Nat) (p2 : Option Addr) (Hs2 : Nat → Nat), x9 = .slice p2 M2 c2 ∧ LS W wx qb g2 qr r (i + 1) M2 p2 c2 Hs2)
          case first =>
            cases bb with
            | false =>
              go_wp2_with fail
              go_meet
              case rel => exact ⟨g', M, c9, p9, Hs, rfl, ⟨by rw [show (65536 * ((i + 1 : Nat) : Int)) = 65536 * (i : Int) + 65536 by omega]; exact H9.out.1, H9.out.2.2.2.2.2.1, H9.out.2.2.2.2.2.2.1, H9.out.2.2.2.2.1, by have := HI.out.1.mm; omega⟩⟩
            | true =>
              obtain ⟨iP, hP1, hP2, hP3, hP4⟩ := qinfo infoPH
              have HMa := marked_any wc H9.out.2.1.blk H9.out.2.1.e H9.out.2.1.d H9.out.2.1.nb HM.out.1 H9.out.2.2.2.2.2.2.2
              have p1 : M + 2 ≤ maxLen := by have := HI.out.1.mm; have := HI.out.2.2; have := HK.out.2.1; unfold maxLen; omega
              have p2 : (M + 2) * 8 ≤ 140737488355328 := by have := HI.out.1.mm; have := HI.out.2.2; have := HK.out.2.1; omega
              go_upto_region 35 with (first
                | (go_at_call 22; (with_reducible refine HMa.mono ?_); rintro e w10 ⟨rfl, pM, pN, cM, cN, hL⟩; have hL1 := mhidS hL; have ht10 := HB.other H9.out.2.2.1 H9.out.2.1 hL.ch HNE.out H9.out.2.2.2.1; have HT10 := mhidS ht10; have HMb := marked_any w10 ht10.blk ht10.e ht10.d ht10.nb HM.out.2.1 (Nat.le_trans H9.out.2.2.2.2.2.2.2 hL.ch.size); clear hL ht10 HMa)
                | (go_at_call 22; (with_reducible refine HMb.mono ?_); rintro e w11 ⟨rfl, qM, qN, dM, dN, hL⟩; have hL2 := mhidS hL; clear hL HMb))
              have k1 : Kp (SM wr.heap.size) wc w10 := H9.out.2.1.kpm hL1.out.ch
              have k2 : Kp (SM wr.heap.size) w10 w11 := HT10.out.kpm hL2.out.ch
              have k3 := k1.trans k2
              have oh : HO w11 wr.heap.size hb m1 nE nD pE pM pD pN cE cM cD cN := HO.other H9.out.2.1 H9.out.2.2.1 hL1.out HM.out.1 hL2.out.ch HNE.out H9.out.2.2.2.1
              have ot : HO w11 wr.heap.size tb m2 mE mD qE qM qD qN dE dM dD dN := hL2.out.ho HT10.out.lo HM.out.2.1 HT10.out.nb
              have hle := HI.out.1.bl.size
              have hb3 : Below W.heap.size W w11 := H9.out.2.2.2.2.1.trans (((hL1.out.ch.toBelow (B := wr.heap.size) H9.out.2.2.2.2.2.2.2 (by rintro k (e | e | e); exact e ▸ H9.out.2.1.lo; exact (Own.lt H9.out.2.1.e k e).1; exact (H9.out.2.1.d.lt k e).1)).mono hle).trans ((hL2.out.ch.toBelow (B := wr.heap.size) (Nat.le_trans H9.out.2.2.2.2.2.2.2 hL1.out.ch.size) (by rintro k (e | e | e); exact e ▸ HT10.out.lo; exact (Own.lt HT10.out.e k e).1; exact (HT10.out.d.lt k e).1)).mono hle))
              have hal3 : Own w11 W.heap.size 50 1 (.slice p9 M c9) M (fun k => .pointer (some ⟨Hs k, 0, none⟩)) := H9.out.2.2.2.2.2.1.kp k3 (fun k _ _ => .inr ⟨by decide, by decide, by decide⟩)
              have hkS : Kp (fun k t => k < wr.heap.size ∧ (t = 52 ∨ t = 64 ∨ t = 3)) wr w11 := (HKC.out.mono (fun k t h => by rcases h.2 with rfl | rfl | rfl; exact (sc_three k).1; exact (sc_three k).2.1; exact (sc_three k).2.2)).trans (k3.mono fun k t h => .inl h.1)
              have hhd3 : ∀ k, k < M → HD w11 W.heap.size (Hs k) := fun k hk => (HI.out.1.hd k hk).kp hkS (fun k _ h => ⟨⟨h, .inl rfl⟩, ⟨h, .inr (.inl rfl)⟩, ⟨h, .inr (.inr rfl)⟩⟩)
              have hbO : Below w11.heap.size w11 (w11.alloc (.cells #[.pointer (some ⟨hb, 0, none⟩), .pointer (some ⟨tb, 0, none⟩)] 50)) := belowAl w11 _
              have H12 := mhidS (And.intro (H9.out.1.kpm k3) (And.intro (HD.below ⟨m1, nE, nD, pE, pM, pD, pN, cE, cM, cD, cN, oh⟩ hbO) (And.intro (HD.below ⟨m2, mE, mD, qE, qM, qD, qN, dE, dM, dD, dN, ot⟩ hbO) (And.intro (hb3.trans (hbO.mono hb3.size)) (And.intro (hal3.later hbO) (And.intro (fun k hk => (hhd3 k hk).below hbO) hbO))))))
              have hN : Hid (∀ j u, ([.pointer (some ⟨hb, 0, none⟩), .pointer (some ⟨tb, 0, none⟩)] : List Value)[j]? = some u → (w11.alloc (.cells #[.pointer (some ⟨hb, 0, none⟩), .pointer (some ⟨tb, 0, none⟩)] 50)).cell? ((⟨w11.heap.size, 0, none⟩ : Addr).add j) = some u) := news_at w11 [.pointer (some ⟨hb, 0, none⟩), .pointer (some ⟨tb, 0, none⟩)] 50
              clear k1 k2 k3 oh ot hle hb3 hal3 hkS hhd3 hbO hL1 hL2 HT10
              go_wp2_with (at_builtin; refine wpList_append_own_at _ rfl _ _ 49 rfl W.heap.size 50 iP _ 1 8 Try.underlying49 hP1 hP2 hP3 hP4 rfl (by decide) _ _ _ rfl H12.out.2.2.2.2.1 ⟨w11.heap.size, 0, none⟩ 2 2 [.pointer (some ⟨hb, 0, none⟩), .pointer (some ⟨tb, 0, none⟩)] rfl rfl hN.out (by simp [Value.oneCell']) p1 p2 H12.out.2.2.2.1.size ?_; intro v' w13 hown hgrow _ hat)
              have ho13 := two_app hown
              obtain ⟨q13, c13, rfl⟩ := own_slice0 ho13
              have kg : Kp (fun _ t => t ≠ 50) (w11.alloc (.cells #[.pointer (some ⟨hb, 0, none⟩), .pointer (some ⟨tb, 0, none⟩)] 50)) w13 := Kp.grown H12.out.2.2.2.2.1 hgrow (fun k h => h rfl)
              have k3t : ∀ k : Nat, (fun (_ : Nat) (t : TypeId) => t ≠ 50) k 52 ∧ (fun (_ : Nat) (t : TypeId) => t ≠ 50) k 64 ∧ (fun (_ : Nat) (t : TypeId) => t ≠ 50) k 3 := fun k => ⟨by show _ ≠ _; decide, by show _ ≠ _; decide, by show _ ≠ _; decide⟩
              go_meet
              case rel =>
                refine ⟨g', M + 2, c13, q13, hs2 M Hs hb tb, rfl, ⟨?_, ho13, fun k hk => ?_, H12.out.2.2.2.1.grown hgrow H12.out.2.2.2.1.size (fun k hk => (H12.out.2.2.2.2.1.lt k hk).1), by have := HI.out.1.mm; omega⟩⟩
                · rw [show (65536 * ((i + 1 : Nat) : Int)) = 65536 * (i : Int) + 65536 by omega]
                  exact (H12.out.1.kpm (B := 0) (Kp.below H12.out.2.2.2.2.2.2)).kp kg (fun k => ⟨by show _ ≠ _; decide, by show _ ≠ _; decide, by show _ ≠ _; decide, by show _ ≠ _; decide⟩)
                · unfold hs2
                  by_cases h1 : k < M
                  · rw [if_pos h1]
                    exact (H12.out.2.2.2.2.2.1 k h1).kp kg (fun k _ _ => k3t k)
                  · rw [if_neg h1]
                    have hl := HI.out.1.bl.size
                    by_cases h2 : k = M
                    · rw [if_pos h2]
                      exact (H12.out.2.1.lower hl).kp kg (fun k _ _ => k3t k)
                    · rw [if_neg h2]
                      exact (H12.out.2.2.1.lower hl).kp kg (fun k _ _ => k3t k)
          case rest =>
            obtain ⟨g2, M2, c2, p2, Hs2, rfl, hls2⟩ := hcut
            have H14 := mhidS hls2
            clear hls2 H9 HKC HM H5 HNE
            obtain ⟨wz, rfl⟩ : ∃ wz, wz = wc := ⟨_, rfl⟩
            have HG := mhidS HI.out.2.2
            clear HI
            go_wp2_with fail
            obtain ⟨gO, rfl⟩ : ∃ gO, gO = gk := ⟨_, rfl⟩
            go_loopg [196] M2 (fun gn x wy => ∃ k : Nat, x = .int .i64 (k : Int) ∧ k + gn = M2 ∧ Below wz.heap.size wz wy)
            case atStart => exact ⟨0, rfl, Nat.zero_add _, Below.refl _ _⟩
            case round =>
              obtain ⟨k, rfl, hk, hbr⟩ := hrel
              by_cases hlt2 : k < M2
              · have d1 : decide ((k : Int) < (M2 : Int)) = true := by simp; omega
                have d2 : decide (k < M2) = true := by simp; omega
                have j0 : (0 : Int) ≤ (k : Int) := by omega
                have j1 : (k : Int) < (M2 : Int) := by omega
                have ek : IntKind.i64.wrap ((k : Int) + 1) = ((k + 1 : Nat) : Int) := by have := H14.out.mm; have := HK.out.2.1; have := HG.out; rw [IntKind.wrap_i64]; omega
                have HK2 := mhidS hk
                obtain ⟨b9, c8, hp9, _⟩ : ∃ b9 c8, Value.slice p2 M2 c2 = .slice (some ⟨b9, 0, none⟩) M2 c8 ∧ True := by
                  rcases H14.out.al.form with ⟨_, h9⟩ | ⟨b, c9, h9, _, h8⟩
                  · omega
                  · exact ⟨b, c9, h9, trivial⟩
                injection hp9 with hp9 _ hc9
                subst hp9 hc9
                have x0 := (H14.out.al.later hbr).cell (j := k) (by omega)
                obtain ⟨mk, nE, nD, pE, pM, pD, pN, cE, cM, cD, cN, hho⟩ := (H14.out.hd k hlt2).below hbr
                have HWH := whole_any _ hho.hr
                have HB2 := mhidS hbr
                clear hbr hho hk
                go_wp2_with (go_at_call 23; (with_reducible refine HWH.mono ?_); rintro e w16 ⟨rfl, hb16⟩)
                go_roundg (gk - 1)
                case measure => have := HK2.out; omega
                case rel => exact ⟨k + 1, rfl, by have := HK2.out; omega, HB2.out.trans (hb16.mono HB2.out.size)⟩
              · have d1 : decide ((k : Int) < (M2 : Int)) = false := by simp; omega
                have d2 : decide (k < M2) = false := by simp; omega
                have HB2 := mhidS hbr
                clear hbr hk hlt2
                go_wp2_with fail
                go_roundg (gO - 1)
                case measure => have := HG.out; omega
                case rel => exact ⟨i + 1, g2, M2, c2, p2, Hs2, rfl, rfl, by have := HG.out; omega, H14.out.below HB2.out⟩
    · have dl : decide ((i : Int) < (N : Int)) = false := by simp; omega
      have dl2 : decide (i < N) = false := by simp; omega
      obtain ⟨c, n, A, t, fl, root, work, q1, q2, q3⟩ := HI.out.1.pr
      have px : PX wr W.heap.size qb g qr c n A t fl root r work := ⟨q1, q2⟩
      have HB0 := mhidS (And.intro HI.out.1.bl (And.intro HI.out.1.pr.base px.q.n1.2.2))
      have HC1 := px_list wr px
      clear px q1 q2 q3 HI hlt
      go_wp2_with (first
        | (go_at_call 10; (with_reducible refine HC1.mono ?_); rintro e w20 ⟨b20, rfl, ho, hp, hC⟩; have HC2 := px_rlist w20 hp; have H20 := mhidS (And.intro ho (And.intro hp (HB0.out.1.trans (hC.toBelow HB0.out.1.size (by have := HB0.out.2.1; rintro k (e | e) <;> omega))))); clear HC1 ho hp hC)
        | (go_at_call 19; (with_reducible refine HC2.mono ?_); rintro e w21 ⟨p21, c21, rfl, hx, hb⟩; have HC3 := sameEvents_yes t.size (evF A.E (t.spots 0)) (some ⟨b20, 0, none⟩) p21 t.size c21 (by have := HB0.out.2.2; omega) w21 (own_xat (H20.out.1.later hb)) hx (evF_sh _ _ _); have H21 := mhidS (And.intro (H20.out.2.1.below hb) (H20.out.2.2.trans (hb.mono H20.out.2.2.size))); clear HC2 hx hb H20)
        | (go_at_call 9; (with_reducible refine HC3.mono ?_); rintro e w22 ⟨rfl, hb⟩; have HC4 := px_depths w22 (H21.out.1.below hb); have H22 := mhidS (H21.out.2.trans (hb.mono H21.out.2.size)); clear HC3 hb H21)
        | (go_at_call 7; (with_reducible refine HC4.mono ?_); rintro e w23 ⟨p23, c23, rfl, ho, hp, hC⟩; have HC5 := px_rdepths w23 hp; have H23 := mhidS (And.intro ho (H22.out.trans (hC.toBelow H22.out.size (by have := HB0.out.2.1; rintro k (e | e) <;> omega)))); clear HC4 ho hp hC H22)
        | (go_at_call 21; (with_reducible refine HC5.mono ?_); rintro e w24 ⟨p24, c24, rfl, hx, hb⟩; have HC6 := sameInts_yes p23 p24 t.size c23 c24 _ HB0.out.2.2 w24 (own_kat (H23.out.1.later hb)) hx; have H24 := mhidS (H23.out.2.trans (hb.mono H23.out.2.size)); clear HC5 hx hb H23)
        | (go_at_call 20; (with_reducible refine HC6.mono ?_); rintro e w25 ⟨rfl, hb⟩; have H25 := mhidS (H24.out.trans (hb.mono H24.out.size)); clear HC6 hb H24))
      go_ret
      exact ⟨rfl, H25.out⟩
set_option maxRecDepth 100000 in
theorem lists_law (r : Int) (p : Option Addr) (N c : Nat) (O : Nat → OpV) (W : World) (hk : OpsIn W p N O) (hN : N ≤ 3000000000000) :
    Calls Try.prog 5 #[.int .i64 r, .slice p N c] W fun e W' => e = .returned (.bool true) ∧ Below W.heap.size W W' := by
  by_cases h1 : r < 1 ∨ 8192 < r
  · have HN1 := q_newBad r h1 W
    have HN3 := fun (w : World) => rnew_bad r w h1
    clear hk hN
    go_enter Try.func5, Try.ntmps5
    go_wp2_with (first | (go_at_call 6; (with_reducible refine HN1.mono ?_); rintro e w1 ⟨rfl, h9⟩; have h9 := h9.symm; subst h9) | (go_at_call 15; (with_reducible refine (HN3 W).mono ?_); rintro e w3 ⟨rfl, hb3⟩))
    go_ret
    exact ⟨rfl, hb3⟩
  · exact lists_good r p N c O W (by omega) (by omega) hk hN
end Go.Proofs.Ytlklolmhaiaaiaa
