import Derived.Test.YtomjnncgogkglaaTPH2a
import Derived.ChangeOld
namespace Go.Proofs.Ytomjnncgogkglaa
open Go.ChangeShapes Go.WideShapes Go.ChangeAt Go.RowKit
set_option linter.unusedVariables false
set_option linter.unusedSimpArgs false

set_option maxRecDepth 100000 in
set_option maxHeartbeats 4000000 in
theorem rhist_any (ak ac aa0 aa1 aa2 am : Int) (aq ax : Option Addr) (an acq anx acx : Nat) (X : Nat → Se) (wd : Int) (hwd : 0 < wd ∧ wd < 18446744073709551616) (hok : ∀ j, j < anx → SeOk (X j)) (hn : anx ≤ 2932031007402) (w : World) (hX : SIn w ax anx X) :
    Calls Try.prog 21 #[.agg #[.int .i64 ak, .int .i64 ac, .int .u64 aa0, .int .i64 aa1, .int .u64 aa2, .int .i64 am, .slice aq an acq, .slice ax anx acx], .int .u64 wd] w fun e w' => ∃ (v : Value) (M : List (Int × Int)), e = .returned (.tuple #[v, .int .i64 0]) ∧ HM (bkt wd X) anx M ∧ M.Pairwise (fun x y => x.1 < y.1) ∧ w'.ownsRow w.heap.size 60 2 v M.length (M.flatMap bkL) ∧ Below w.heap.size w w' := by
  obtain ⟨iB, hB1, hB2, hB3, hB4⟩ := sinfo infoBK
  obtain ⟨wb, hwb⟩ : ∃ wb, w.alloc (.cells #[.int .i64 ak, .int .i64 ac, .int .u64 aa0, .int .i64 aa1, .int .u64 aa2, .int .i64 am, .slice aq an acq, .slice ax anx acx] 29) = wb := ⟨_, rfl⟩
  have hb0 : Below w.heap.size w wb := by rw [← hwb]; exact (Below.refl _ w).alloc (Nat.le_refl _) _
  have hbx1 : wb.heap[w.heap.size]? = some (.cells #[.int .i64 ak, .int .i64 ac, .int .u64 aa0, .int .i64 aa1, .int .u64 aa2, .int .i64 am, .slice aq an acq, .slice ax anx acx] 29 (0, 0)) := by rw [← hwb]; exact World.alloc_heap_new w _
  have HW : Hid (w.alloc (.cells #[.int .i64 ak, .int .i64 ac, .int .u64 aa0, .int .i64 aa1, .int .u64 aa2, .int .i64 am, .slice aq an acq, .slice ax anx acx] 29) = wb) := hwb
  have HB : Hid (Below w.heap.size w wb) := hb0
  have HX : Hid (SIn w ax anx X) := hX
  have HOK : Hid (∀ j, j < anx → SeOk (X j)) := hok
  obtain ⟨-, -, -, -, -, -, -, c7⟩ := cells8k hbx1
  rw [← hwb] at c7
  have d0 : (wd == 0) = false := by simp; omega
  clear hwb hX hb0 hbx1 hok
  go_enter Try.func21, Try.ntmps21
  go_wp2
  rw [HW.out]
  clear c7
  go_loopw [6, 17] (fun r x wt => ∃ (i : Nat) (L : List (Int × Int)), x = .int .i64 i ∧ i ≤ anx ∧ wt.ownsRow w.heap.size 60 2 r L.length (L.flatMap bkL) ∧ HM (bkt wd X) i L ∧ Ris L ∧ L.length ≤ i ∧ Below w.heap.size w wt) (fun _ x _ => anx - (intOf x).toNat)
  case atStart => exact ⟨0, [], rfl, Nat.zero_le _, World.ownsRow_nil _ _ _ _, ⟨List.Pairwise.nil, fun k c => by simp [kc]⟩, List.Pairwise.nil, Nat.le_refl _, HB.out⟩
  case round =>
    obtain ⟨i, L, rfl, hi, hrow, hhm, hris, hln, hbt⟩ := hrel
    have HL : Hid (wr.ownsRow w.heap.size 60 2 u6 L.length (L.flatMap bkL) ∧ HM (bkt wd X) i L ∧ Ris L ∧ Below w.heap.size w wr) := ⟨hrow, hhm, hris, hbt⟩
    by_cases hlt : i < anx
    case pos =>
      have dl : decide ((i : Int) < (anx : Int)) = true := decide_eq_true (by omega)
      have hme := meas hlt
      have i0 : (0 : Int) ≤ (i : Int) := by omega
      have i1 : (i : Int) < (anx : Int) := by omega
      have ei : IntKind.i64.wrap ((i : Int) + 1) = (i : Int) + 1 := by rw [IntKind.wrap_i64]; omega
      obtain ⟨g1, o1, hx1, hg1, x0, x1, x2, x3, x4, x5⟩ := (HX.out.below hbt).at hlt
      rw [hx1]
      have hx9 := (HOK.out i hlt).1
      have er : (X i).t.tdiv wd = (X i).t / wd := Int.tdiv_eq_ediv_of_nonneg hx9.1
      have em := Int.emod_add_mul_ediv (X i).t wd
      have e1 : 0 ≤ (X i).t / wd := Int.ediv_nonneg hx9.1 (by omega)
      have e2 : (X i).t / wd ≤ (X i).t := Int.ediv_le_self _ hx9.1
      have hr := bkt_rng hwd.1 (HOK.out i hlt)
      have eb : (X i).t / wd * wd = bkt wd X i := by unfold bkt; rw [Int.mul_comm]; omega
      have wr1 : IntKind.u64.wrap ((X i).t / wd) = (X i).t / wd := by rw [IntKind.wrap_u64]; omega
      have wr2 : IntKind.u64.wrap ((X i).t / wd * wd) = bkt wd X i := by rw [eb, IntKind.wrap_u64]; omega
      obtain ⟨wE, hwE⟩ : ∃ wE, (wr.alloc (.cells #[.int .u64 (X i).t, .int .i64 (X i).s, .int .u64 (X i).q, .int .i64 (X i).d, .int .i64 (X i).k, .int .i64 (X i).v] 67)) = wE := ⟨_, rfl⟩
      have hbE : Below wr.heap.size wr wE := by rw [← hwE]; exact (Below.refl _ wr).alloc (Nat.le_refl _) _
      have HE : Hid ((wr.alloc (.cells #[.int .u64 (X i).t, .int .i64 (X i).s, .int .u64 (X i).q, .int .i64 (X i).d, .int .i64 (X i).k, .int .i64 (X i).v] 67)) = wE) := hwE
      have hbE2 : Below w.heap.size w wE := hbt.trans (hbE.mono hbt.size)
      have hrowE := srow_later hrow hbE
      generalize hB : bkt wd X i = B at *
      have HBB : Hid (bkt wd X i = B ∧ wE.ownsRow w.heap.size 60 2 u6 L.length (L.flatMap bkL) ∧ Below w.heap.size w wE) := ⟨hB, hrowE, hbE2⟩
      clear hB em e1 e2 hx9 hr eb hx1 hrow hhm hris hbt hwE hbE hbE2 hrowE
      go_wp2
      rw [HE.out]
      go_loopw [10] (fun v wt => ∃ a : Nat, v = .int .i64 a ∧ a ≤ L.length ∧ (∀ j, j < a → (prA L j).1 < B) ∧ wt = wE) (fun v _ => L.length - (intOf v).toNat)
      case atStart => exact ⟨0, rfl, Nat.zero_le _, fun j hj => absurd hj (Nat.not_lt_zero _), rfl⟩
      case round =>
        obtain ⟨a, rfl, ha, hpre, rfl⟩ := hrel
        have HP : Hid (∀ j, j < a → (prA L j).1 < B) := hpre
        clear hpre
        have hlt0 : i < anx := hlt
        by_cases hla : a < L.length
        case pos =>
          have da : decide ((a : Int) < (L.length : Int)) = true := decide_eq_true (by omega)
          have a0 : (0 : Int) ≤ (a : Int) := by omega
          have a1 : (a : Int) < (L.length : Int) := by omega
          have ea : IntKind.i64.wrap ((a : Int) + 1) = (a : Int) + 1 := by rw [IntKind.wrap_i64]; omega
          have hma := meas hla
          obtain ⟨g, c, hv, hgl⟩ : ∃ g c, u6 = .slice (some ⟨g, 0, none⟩) L.length c ∧ L.length ≤ c := by
            rcases HBB.out.2.1.2 with ⟨_, h0⟩ | ⟨g, cap, cur, h2, _, _, h3, _⟩
            · omega
            · exact ⟨g, cap, h2, h3⟩
          subst hv
          obtain ⟨k0, k1⟩ := rowB_cells HBB.out.2.1 hla
          have fz : wr.frozen? ⟨g, a * 2 + 1, none⟩ = false := by
            obtain ⟨cur, h1, _⟩ := (own_of HBB.out.2.1).block
            exact frz h1 _
          by_cases hk : (prA L a).1 < B
          · have dk : decide ((prA L a).1 < B) = true := decide_eq_true hk
            have HK : Hid ((prA L a).1 < B) := hk
            clear hk
            go_wp2
            refine ⟨⟨a + 1, rfl, hla, fun j hj => ?_, by first | rfl | trivial⟩, hma⟩
            by_cases e : j = a
            · rw [e]; exact HK.out
            · exact HP.out j (by omega)
          · have dk : decide ((prA L a).1 < B) = false := decide_eq_false hk
            by_cases he : (prA L a).1 = B
            · have de : ((prA L a).1 == B) = true := by simpa using he
              have hp := part_at hla
              have hold := ins_old (A := L.take a) (B := L.drop (a + 1)) (f := B) (c := (prA L a).2) HBB.out.1 (by rw [← he]; exact hp ▸ HL.out.2.1) (by rw [← he]; exact hp ▸ HL.out.2.2.1)
              have hcl := kc_le (bkt wd X) B i
              have ec : IntKind.i64.wrap ((prA L a).2 + 1) = (prA L a).2 + 1 := by rw [IntKind.wrap_i64]; have := hold.2.2; omega
              have HO : Hid ((prA L a).1 = B ∧ L = L.take a ++ prA L a :: L.drop (a + 1) ∧ HM (bkt wd X) (i + 1) (L.take a ++ (B, (prA L a).2 + 1) :: L.drop (a + 1)) ∧ Ris (L.take a ++ (B, (prA L a).2 + 1) :: L.drop (a + 1))) := ⟨he, hp, hold.1, hold.2.1⟩
              clear hk he hp hold hcl
              go_wp2
              obtain ⟨o1', o2', o3', o4'⟩ := HO.out
              have hlen9 : (L.take a ++ (B, (prA L a).2 + 1) :: L.drop (a + 1)).length = L.length := by rw [List.length_append, List.length_cons, List.length_take, List.length_drop]; omega
              refine ⟨⟨i + 1, L.take a ++ (B, (prA L a).2 + 1) :: L.drop (a + 1), rfl, hlt0, ?_, o3', o4', by omega, HBB.out.2.2.setCell (p := ⟨g, a * 2 + 1, none⟩) (by have := (Own.lt (own_of HBB.out.2.1) g rfl).1; exact this) _⟩, hme⟩
              have h9 := row_put HBB.out.2.1 (a * 2 + 1) (.int .i64 ((prA L a).2 + 1))
              have h8 : (L.flatMap bkL).set (a * 2 + 1) (.int .i64 ((prA L a).2 + 1)) = (L.take a ++ (B, (prA L a).2 + 1) :: L.drop (a + 1)).flatMap bkL := by
                have := fmB_set (A := L.take a) (D := L.drop (a + 1)) (k := B) (c := (prA L a).2) (v := (prA L a).2 + 1)
                rw [List.length_take, show min a L.length = a by omega] at this
                rw [← this]
                congr 2
                rw [← o1']
                exact o2'
              rw [h8] at h9
              rw [hlen9]
              exact h9
            · have de : ((prA L a).1 == B) = false := by simpa using he
              have HHB : Hid (B < (prA L a).1) := by show B < (prA L a).1; omega
              have hca : ¬ c = a := by omega
              have hca2 : ¬ a = c := by omega
              have b1 : (a : Int) ≤ (c : Int) := by omega
              have b2 : (a : Int) ≤ (L.length : Int) := by omega
              clear fz hk he
              have HN1 : Hid (((L.take a).flatMap bkL).length = a * 2) := by show _ = _; rw [fmB_len, List.length_take]; omega
              have HN3 : Hid (((L.drop a).flatMap bkL).length = (L.length - a) * 2) := by show _ = _; rw [fmB_len, List.length_drop]
              have HN2 : Hid (a = 0 ∨ ∃ ad, (some ⟨g, 0, none⟩ : Option Addr) = some ad ∧ ∀ j u, ((L.take a).flatMap bkL)[j]? = some u → wr.cell? (ad.add j) = some u) := .inr ⟨_, rfl, (rowB_sub HBB.out.2.1 a).1⟩
              have HN4 : Hid (∀ W, Below wr.heap.size wr W → (L.length - a = 0 ∨ ∃ ad, (some ⟨g, a * 2, none⟩ : Option Addr) = some ad ∧ ∀ j u, ((L.drop a).flatMap bkL)[j]? = some u → W.cell? (ad.add j) = some u)) := fun W hb => .inr ⟨_, rfl, (rowB_sub (srow_later HBB.out.2.1 hb) a).2 ha⟩
              have HPA : Hid (∀ x ∈ L.take a, x.1 < B) := ris_before HP.out ha
              have HPB : Hid (∀ x ∈ L.drop a, B < x.1) := ris_behind HL.out.2.2.1 (fun _ => HHB.out)
              go_wp2_with (first | (at_builtin; refine wpList_app rfl _ _ 54 rfl wr.heap.size 60 iB _ 2 16 Try.underlying54 hB1 hB2 hB3 hB4 rfl (by decide) (.slice none 0 0) 0 [] rfl (World.ownsRow_nil _ _ _ _) (some ⟨g, 0, none⟩) a c ((L.take a).flatMap bkL) rfl HN1.out (HN2.out) (fmB_one _) (by unfold maxLen; omega) (by omega) (Nat.le_refl _) ?_; intro v1 w1 hown1 hgrow1 _; have HQ1 : Hid (w1.ownsRow wr.heap.size 60 2 v1 (0 + a) ([] ++ (L.take a).flatMap bkL) ∧ Below wr.heap.size wr w1) := ⟨hown1, (Below.refl _ wr).grown hgrow1 (Nat.le_refl _) (by simp [Value.ownBlock])⟩; have HQ1b : Hid ((w1.alloc (.cells #[.int .u64 B, .int .i64 1] 60)).ownsRow wr.heap.size 60 2 v1 (0 + a) ([] ++ (L.take a).flatMap bkL) ∧ (∀ j y, (bkL (B, 1))[j]? = some y → (w1.alloc (.cells #[.int .u64 B, .int .i64 1] 60)).cell? ((⟨w1.heap.size, 0, none⟩ : Addr).add j) = some y) ∧ Below wr.heap.size wr (w1.alloc (.cells #[.int .u64 B, .int .i64 1] 60))) := ⟨World.ownsRow.alloc hown1 _, scells_new w1 (bkL (B, 1)) _, HQ1.out.2.alloc HQ1.out.2.size _⟩; clear hown1 hgrow1) | (at_builtin; refine wpList_app rfl _ _ 54 rfl wr.heap.size 60 iB _ 2 16 Try.underlying54 hB1 hB2 hB3 hB4 rfl (by decide) _ _ _ rfl HQ1b.out.1 (some ⟨w1.heap.size, 0, none⟩) 1 1 (bkL (B, 1)) rfl rfl (.inr ⟨_, rfl, HQ1b.out.2.1⟩) (by simp [bkL, Value.oneCell']) (by unfold maxLen; omega) (by omega) HQ1b.out.2.2.size ?_; intro v2 w2 hown2 hgrow2 _; have hb2 : Below wr.heap.size wr w2 := (HQ1b.out.2.2.grown hgrow2 HQ1b.out.2.2.size (fun r' e => (srow_lt HQ1b.out.1 r' e).1)); have HQ2 : Hid (w2.ownsRow wr.heap.size 60 2 v2 (0 + a + 1) ([] ++ (L.take a).flatMap bkL ++ bkL (B, 1)) ∧ Below wr.heap.size wr w2) := ⟨hown2, hb2⟩; clear hown2 hgrow2 hb2) | (at_builtin; refine wpList_app rfl _ _ 54 rfl wr.heap.size 60 iB _ 2 16 Try.underlying54 hB1 hB2 hB3 hB4 rfl (by decide) _ _ _ rfl HQ2.out.1 (some ⟨g, a * 2, none⟩) (L.length - a) (c - a) ((L.drop a).flatMap bkL) rfl HN3.out ((HN4.out w2 HQ2.out.2)) (fmB_one _) (by unfold maxLen; omega) (by omega) HQ2.out.2.size ?_; intro v3 w3 hown3 hgrow3 _; have HQ3 : Hid (w3.ownsRow wr.heap.size 60 2 v3 (0 + a + 1 + (L.length - a)) ([] ++ (L.take a).flatMap bkL ++ bkL (B, 1) ++ (L.drop a).flatMap bkL) ∧ Below wr.heap.size wr w3) := ⟨hown3, HQ2.out.2.grown hgrow3 HQ2.out.2.size (fun r' e => (srow_lt HQ2.out.1 r' e).1)⟩; clear hown3 hgrow3))
              have hLL : L = L.take a ++ L.drop a := (List.take_append_drop _ _).symm
              have hins := ins_new (A := L.take a) (B := L.drop a) HBB.out.1 (by rw [← hLL]; exact HL.out.2.1) (by rw [← hLL]; exact HL.out.2.2.1) HPA.out HPB.out
              have hlen9 : (L.take a ++ (B, 1) :: L.drop a).length = L.length + 1 := by rw [List.length_append, List.length_cons, List.length_take, List.length_drop]; omega
              have hszr := HBB.out.2.2.size
              refine ⟨⟨i + 1, L.take a ++ (B, 1) :: L.drop a, rfl, hlt0, ?_, hins.1, hins.2, by omega, HBB.out.2.2.trans (HQ3.out.2.mono hszr)⟩, hme⟩
              have h9 := World.ownsRow.lower HQ3.out.1 hszr
              rw [hlen9, List.flatMap_append, List.flatMap_cons, ← List.append_assoc]
              rw [show L.length + 1 = 0 + a + 1 + (L.length - a) by omega]
              simpa using h9
        have da : decide ((a : Int) < (L.length : Int)) = false := decide_eq_false (by omega)
        have a0 : (0 : Int) ≤ (a : Int) := by omega
        rcases HBB.out.2.1.2 with ⟨hv, h0⟩ | ⟨g, c, cur, hv, _, _, hgl, _⟩
        · subst hv
          obtain rfl : a = 0 := by omega
          have hl0 : L.length = 0 := h0
          clear h0
          have HN1 : Hid (((L.take 0).flatMap bkL).length = 0 * 2) := by show _ = _; rw [fmB_len, List.length_take]; omega
          have HN3 : Hid (((L.drop 0).flatMap bkL).length = 0 * 2) := by show _ = _; rw [fmB_len, List.length_drop]; omega
          have HN2 : Hid (0 = 0 ∨ ∃ ad, (none : Option Addr) = some ad ∧ ∀ j u, ((L.take 0).flatMap bkL)[j]? = some u → wr.cell? (ad.add j) = some u) := .inl (by omega)
          have HN4 : Hid (∀ W, Below wr.heap.size wr W → ((0 : Nat) = 0 ∨ ∃ ad, (none : Option Addr) = some ad ∧ ∀ j u, ((L.drop 0).flatMap bkL)[j]? = some u → W.cell? (ad.add j) = some u)) := fun W hb => .inl rfl
          have HPA : Hid (∀ x ∈ L.take 0, x.1 < B) := ris_before HP.out ha
          have HPB : Hid (∀ x ∈ L.drop 0, B < x.1) := ris_behind HL.out.2.2.1 (fun h => by omega)
          go_wp2_with (first | (at_builtin; refine wpList_app rfl _ _ 54 rfl wr.heap.size 60 iB _ 2 16 Try.underlying54 hB1 hB2 hB3 hB4 rfl (by decide) (.slice none 0 0) 0 [] rfl (World.ownsRow_nil _ _ _ _) none 0 0 ((L.take 0).flatMap bkL) rfl HN1.out (HN2.out) (fmB_one _) (by unfold maxLen; omega) (by omega) (Nat.le_refl _) ?_; intro v1 w1 hown1 hgrow1 _; have HQ1 : Hid (w1.ownsRow wr.heap.size 60 2 v1 (0 + 0) ([] ++ (L.take 0).flatMap bkL) ∧ Below wr.heap.size wr w1) := ⟨hown1, (Below.refl _ wr).grown hgrow1 (Nat.le_refl _) (by simp [Value.ownBlock])⟩; have HQ1b : Hid ((w1.alloc (.cells #[.int .u64 B, .int .i64 1] 60)).ownsRow wr.heap.size 60 2 v1 (0 + 0) ([] ++ (L.take 0).flatMap bkL) ∧ (∀ j y, (bkL (B, 1))[j]? = some y → (w1.alloc (.cells #[.int .u64 B, .int .i64 1] 60)).cell? ((⟨w1.heap.size, 0, none⟩ : Addr).add j) = some y) ∧ Below wr.heap.size wr (w1.alloc (.cells #[.int .u64 B, .int .i64 1] 60))) := ⟨World.ownsRow.alloc hown1 _, scells_new w1 (bkL (B, 1)) _, HQ1.out.2.alloc HQ1.out.2.size _⟩; clear hown1 hgrow1) | (at_builtin; refine wpList_app rfl _ _ 54 rfl wr.heap.size 60 iB _ 2 16 Try.underlying54 hB1 hB2 hB3 hB4 rfl (by decide) _ _ _ rfl HQ1b.out.1 (some ⟨w1.heap.size, 0, none⟩) 1 1 (bkL (B, 1)) rfl rfl (.inr ⟨_, rfl, HQ1b.out.2.1⟩) (by simp [bkL, Value.oneCell']) (by unfold maxLen; omega) (by omega) HQ1b.out.2.2.size ?_; intro v2 w2 hown2 hgrow2 _; have hb2 : Below wr.heap.size wr w2 := (HQ1b.out.2.2.grown hgrow2 HQ1b.out.2.2.size (fun r' e => (srow_lt HQ1b.out.1 r' e).1)); have HQ2 : Hid (w2.ownsRow wr.heap.size 60 2 v2 (0 + 0 + 1) ([] ++ (L.take 0).flatMap bkL ++ bkL (B, 1)) ∧ Below wr.heap.size wr w2) := ⟨hown2, hb2⟩; clear hown2 hgrow2 hb2) | (at_builtin; refine wpList_app rfl _ _ 54 rfl wr.heap.size 60 iB _ 2 16 Try.underlying54 hB1 hB2 hB3 hB4 rfl (by decide) _ _ _ rfl HQ2.out.1 none 0 0 ((L.drop 0).flatMap bkL) rfl HN3.out ((HN4.out w2 HQ2.out.2)) (fmB_one _) (by unfold maxLen; omega) (by omega) HQ2.out.2.size ?_; intro v3 w3 hown3 hgrow3 _; have HQ3 : Hid (w3.ownsRow wr.heap.size 60 2 v3 (0 + 0 + 1 + 0) ([] ++ (L.take 0).flatMap bkL ++ bkL (B, 1) ++ (L.drop 0).flatMap bkL) ∧ Below wr.heap.size wr w3) := ⟨hown3, HQ2.out.2.grown hgrow3 HQ2.out.2.size (fun r' e => (srow_lt HQ2.out.1 r' e).1)⟩; clear hown3 hgrow3))
          have hLL : L = L.take 0 ++ L.drop 0 := (List.take_append_drop _ _).symm
          have hins := ins_new (A := L.take 0) (B := L.drop 0) HBB.out.1 (by rw [← hLL]; exact HL.out.2.1) (by rw [← hLL]; exact HL.out.2.2.1) HPA.out HPB.out
          have hlen9 : (L.take 0 ++ (B, 1) :: L.drop 0).length = L.length + 1 := by rw [List.length_append, List.length_cons, List.length_take, List.length_drop]; omega
          have hszr := HBB.out.2.2.size
          refine ⟨⟨i + 1, L.take 0 ++ (B, 1) :: L.drop 0, rfl, hlt0, ?_, hins.1, hins.2, by omega, HBB.out.2.2.trans (HQ3.out.2.mono hszr)⟩, hme⟩
          have h9 := World.ownsRow.lower HQ3.out.1 hszr
          rw [hlen9, List.flatMap_append, List.flatMap_cons, ← List.append_assoc]
          rw [show L.length + 1 = 0 + 0 + 1 + 0 by omega]
          simpa using h9
        · subst hv
          have b1 : (a : Int) ≤ (c : Int) := by omega
          have b2 : (a : Int) ≤ (L.length : Int) := by omega
          by_cases hca : c = a
          · subst hca
            have HN1 : Hid (((L.take c).flatMap bkL).length = c * 2) := by show _ = _; rw [fmB_len, List.length_take]; omega
            have HN3 : Hid (((L.drop c).flatMap bkL).length = 0 * 2) := by show _ = _; rw [fmB_len, List.length_drop]; omega
            have HN2 : Hid (c = 0 ∨ ∃ ad, (some ⟨g, 0, none⟩ : Option Addr) = some ad ∧ ∀ j u, ((L.take c).flatMap bkL)[j]? = some u → wr.cell? (ad.add j) = some u) := .inr ⟨_, rfl, (rowB_sub HBB.out.2.1 c).1⟩
            have HN4 : Hid (∀ W, Below wr.heap.size wr W → ∀ p : Option Addr, ((0 : Nat) = 0 ∨ ∃ ad, p = some ad ∧ ∀ j u, ((L.drop c).flatMap bkL)[j]? = some u → W.cell? (ad.add j) = some u)) := fun W hb p => .inl rfl
            have HPA : Hid (∀ x ∈ L.take c, x.1 < B) := ris_before HP.out ha
            have HPB : Hid (∀ x ∈ L.drop c, B < x.1) := ris_behind HL.out.2.2.1 (fun h => by omega)
            go_wp2_with (first | (at_builtin; refine wpList_app rfl _ _ 54 rfl wr.heap.size 60 iB _ 2 16 Try.underlying54 hB1 hB2 hB3 hB4 rfl (by decide) (.slice none 0 0) 0 [] rfl (World.ownsRow_nil _ _ _ _) (some ⟨g, 0, none⟩) c c ((L.take c).flatMap bkL) rfl HN1.out (HN2.out) (fmB_one _) (by unfold maxLen; omega) (by omega) (Nat.le_refl _) ?_; intro v1 w1 hown1 hgrow1 _; have HQ1 : Hid (w1.ownsRow wr.heap.size 60 2 v1 (0 + c) ([] ++ (L.take c).flatMap bkL) ∧ Below wr.heap.size wr w1) := ⟨hown1, (Below.refl _ wr).grown hgrow1 (Nat.le_refl _) (by simp [Value.ownBlock])⟩; have HQ1b : Hid ((w1.alloc (.cells #[.int .u64 B, .int .i64 1] 60)).ownsRow wr.heap.size 60 2 v1 (0 + c) ([] ++ (L.take c).flatMap bkL) ∧ (∀ j y, (bkL (B, 1))[j]? = some y → (w1.alloc (.cells #[.int .u64 B, .int .i64 1] 60)).cell? ((⟨w1.heap.size, 0, none⟩ : Addr).add j) = some y) ∧ Below wr.heap.size wr (w1.alloc (.cells #[.int .u64 B, .int .i64 1] 60))) := ⟨World.ownsRow.alloc hown1 _, scells_new w1 (bkL (B, 1)) _, HQ1.out.2.alloc HQ1.out.2.size _⟩; clear hown1 hgrow1) | (at_builtin; refine wpList_app rfl _ _ 54 rfl wr.heap.size 60 iB _ 2 16 Try.underlying54 hB1 hB2 hB3 hB4 rfl (by decide) _ _ _ rfl HQ1b.out.1 (some ⟨w1.heap.size, 0, none⟩) 1 1 (bkL (B, 1)) rfl rfl (.inr ⟨_, rfl, HQ1b.out.2.1⟩) (by simp [bkL, Value.oneCell']) (by unfold maxLen; omega) (by omega) HQ1b.out.2.2.size ?_; intro v2 w2 hown2 hgrow2 _; have hb2 : Below wr.heap.size wr w2 := (HQ1b.out.2.2.grown hgrow2 HQ1b.out.2.2.size (fun r' e => (srow_lt HQ1b.out.1 r' e).1)); have HQ2 : Hid (w2.ownsRow wr.heap.size 60 2 v2 (0 + c + 1) ([] ++ (L.take c).flatMap bkL ++ bkL (B, 1)) ∧ Below wr.heap.size wr w2) := ⟨hown2, hb2⟩; clear hown2 hgrow2 hb2) | (at_builtin; refine wpList_app rfl _ _ 54 rfl wr.heap.size 60 iB _ 2 16 Try.underlying54 hB1 hB2 hB3 hB4 rfl (by decide) _ _ _ rfl HQ2.out.1 _ 0 _ ((L.drop c).flatMap bkL) rfl HN3.out ((HN4.out w2 HQ2.out.2 _)) (fmB_one _) (by unfold maxLen; omega) (by omega) HQ2.out.2.size ?_; intro v3 w3 hown3 hgrow3 _; have HQ3 : Hid (w3.ownsRow wr.heap.size 60 2 v3 (0 + c + 1 + 0) ([] ++ (L.take c).flatMap bkL ++ bkL (B, 1) ++ (L.drop c).flatMap bkL) ∧ Below wr.heap.size wr w3) := ⟨hown3, HQ2.out.2.grown hgrow3 HQ2.out.2.size (fun r' e => (srow_lt HQ2.out.1 r' e).1)⟩; clear hown3 hgrow3))
            have hLL : L = L.take c ++ L.drop c := (List.take_append_drop _ _).symm
            have hins := ins_new (A := L.take c) (B := L.drop c) HBB.out.1 (by rw [← hLL]; exact HL.out.2.1) (by rw [← hLL]; exact HL.out.2.2.1) HPA.out HPB.out
            have hlen9 : (L.take c ++ (B, 1) :: L.drop c).length = L.length + 1 := by rw [List.length_append, List.length_cons, List.length_take, List.length_drop]; omega
            have hszr := HBB.out.2.2.size
            refine ⟨⟨i + 1, L.take c ++ (B, 1) :: L.drop c, rfl, hlt0, ?_, hins.1, hins.2, by omega, HBB.out.2.2.trans (HQ3.out.2.mono hszr)⟩, hme⟩
            have h9 := World.ownsRow.lower HQ3.out.1 hszr
            rw [hlen9, List.flatMap_append, List.flatMap_cons, ← List.append_assoc]
            rw [show L.length + 1 = 0 + c + 1 + 0 by omega]
            simpa using h9
          · have hca2 : ¬ a = c := fun e => hca e.symm
            have HN1 : Hid (((L.take a).flatMap bkL).length = a * 2) := by show _ = _; rw [fmB_len, List.length_take]; omega
            have HN3 : Hid (((L.drop a).flatMap bkL).length = (L.length - a) * 2) := by show _ = _; rw [fmB_len, List.length_drop]
            have HN2 : Hid (a = 0 ∨ ∃ ad, (some ⟨g, 0, none⟩ : Option Addr) = some ad ∧ ∀ j u, ((L.take a).flatMap bkL)[j]? = some u → wr.cell? (ad.add j) = some u) := .inr ⟨_, rfl, (rowB_sub HBB.out.2.1 a).1⟩
            have HN4 : Hid (∀ W, Below wr.heap.size wr W → (L.length - a = 0 ∨ ∃ ad, (some ⟨g, a * 2, none⟩ : Option Addr) = some ad ∧ ∀ j u, ((L.drop a).flatMap bkL)[j]? = some u → W.cell? (ad.add j) = some u)) := fun W hb => .inr ⟨_, rfl, (rowB_sub (srow_later HBB.out.2.1 hb) a).2 ha⟩
            have HPA : Hid (∀ x ∈ L.take a, x.1 < B) := ris_before HP.out ha
            have HPB : Hid (∀ x ∈ L.drop a, B < x.1) := ris_behind HL.out.2.2.1 (fun h => by omega)
            go_wp2_with (first | (at_builtin; refine wpList_app rfl _ _ 54 rfl wr.heap.size 60 iB _ 2 16 Try.underlying54 hB1 hB2 hB3 hB4 rfl (by decide) (.slice none 0 0) 0 [] rfl (World.ownsRow_nil _ _ _ _) (some ⟨g, 0, none⟩) a c ((L.take a).flatMap bkL) rfl HN1.out (HN2.out) (fmB_one _) (by unfold maxLen; omega) (by omega) (Nat.le_refl _) ?_; intro v1 w1 hown1 hgrow1 _; have HQ1 : Hid (w1.ownsRow wr.heap.size 60 2 v1 (0 + a) ([] ++ (L.take a).flatMap bkL) ∧ Below wr.heap.size wr w1) := ⟨hown1, (Below.refl _ wr).grown hgrow1 (Nat.le_refl _) (by simp [Value.ownBlock])⟩; have HQ1b : Hid ((w1.alloc (.cells #[.int .u64 B, .int .i64 1] 60)).ownsRow wr.heap.size 60 2 v1 (0 + a) ([] ++ (L.take a).flatMap bkL) ∧ (∀ j y, (bkL (B, 1))[j]? = some y → (w1.alloc (.cells #[.int .u64 B, .int .i64 1] 60)).cell? ((⟨w1.heap.size, 0, none⟩ : Addr).add j) = some y) ∧ Below wr.heap.size wr (w1.alloc (.cells #[.int .u64 B, .int .i64 1] 60))) := ⟨World.ownsRow.alloc hown1 _, scells_new w1 (bkL (B, 1)) _, HQ1.out.2.alloc HQ1.out.2.size _⟩; clear hown1 hgrow1) | (at_builtin; refine wpList_app rfl _ _ 54 rfl wr.heap.size 60 iB _ 2 16 Try.underlying54 hB1 hB2 hB3 hB4 rfl (by decide) _ _ _ rfl HQ1b.out.1 (some ⟨w1.heap.size, 0, none⟩) 1 1 (bkL (B, 1)) rfl rfl (.inr ⟨_, rfl, HQ1b.out.2.1⟩) (by simp [bkL, Value.oneCell']) (by unfold maxLen; omega) (by omega) HQ1b.out.2.2.size ?_; intro v2 w2 hown2 hgrow2 _; have hb2 : Below wr.heap.size wr w2 := (HQ1b.out.2.2.grown hgrow2 HQ1b.out.2.2.size (fun r' e => (srow_lt HQ1b.out.1 r' e).1)); have HQ2 : Hid (w2.ownsRow wr.heap.size 60 2 v2 (0 + a + 1) ([] ++ (L.take a).flatMap bkL ++ bkL (B, 1)) ∧ Below wr.heap.size wr w2) := ⟨hown2, hb2⟩; clear hown2 hgrow2 hb2) | (at_builtin; refine wpList_app rfl _ _ 54 rfl wr.heap.size 60 iB _ 2 16 Try.underlying54 hB1 hB2 hB3 hB4 rfl (by decide) _ _ _ rfl HQ2.out.1 (some ⟨g, a * 2, none⟩) (L.length - a) (c - a) ((L.drop a).flatMap bkL) rfl HN3.out ((HN4.out w2 HQ2.out.2)) (fmB_one _) (by unfold maxLen; omega) (by omega) HQ2.out.2.size ?_; intro v3 w3 hown3 hgrow3 _; have HQ3 : Hid (w3.ownsRow wr.heap.size 60 2 v3 (0 + a + 1 + (L.length - a)) ([] ++ (L.take a).flatMap bkL ++ bkL (B, 1) ++ (L.drop a).flatMap bkL) ∧ Below wr.heap.size wr w3) := ⟨hown3, HQ2.out.2.grown hgrow3 HQ2.out.2.size (fun r' e => (srow_lt HQ2.out.1 r' e).1)⟩; clear hown3 hgrow3))
            have hLL : L = L.take a ++ L.drop a := (List.take_append_drop _ _).symm
            have hins := ins_new (A := L.take a) (B := L.drop a) HBB.out.1 (by rw [← hLL]; exact HL.out.2.1) (by rw [← hLL]; exact HL.out.2.2.1) HPA.out HPB.out
            have hlen9 : (L.take a ++ (B, 1) :: L.drop a).length = L.length + 1 := by rw [List.length_append, List.length_cons, List.length_take, List.length_drop]; omega
            have hszr := HBB.out.2.2.size
            refine ⟨⟨i + 1, L.take a ++ (B, 1) :: L.drop a, rfl, hlt0, ?_, hins.1, hins.2, by omega, HBB.out.2.2.trans (HQ3.out.2.mono hszr)⟩, hme⟩
            have h9 := World.ownsRow.lower HQ3.out.1 hszr
            rw [hlen9, List.flatMap_append, List.flatMap_cons, ← List.append_assoc]
            rw [show L.length + 1 = 0 + a + 1 + (L.length - a) by omega]
            simpa using h9
    have dl : decide ((i : Int) < (anx : Int)) = false := decide_eq_false (by omega)
    obtain rfl : i = anx := by omega
    clear hrow hhm hris hbt
    go_wp2
    go_ret2
    exact ⟨u6, L, rfl, HL.out.2.1, HL.out.2.2.1, HL.out.1, HL.out.2.2.2⟩
end Go.Proofs.Ytomjnncgogkglaa
