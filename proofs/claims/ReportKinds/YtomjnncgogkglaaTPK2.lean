import Derived.Test.YtomjnncgogkglaaTPK2a
import Derived.ChangeOld
namespace Go.Proofs.Ytomjnncgogkglaa
open Go.ChangeShapes Go.WideShapes Go.ChangeAt Go.RowKit
set_option linter.unusedVariables false
set_option linter.unusedSimpArgs false

set_option maxRecDepth 100000 in
set_option maxHeartbeats 4000000 in
theorem rkinds_any (ak ac aa0 aa1 aa2 am : Int) (aq ax : Option Addr) (an acq anx acx : Nat) (X : Nat → Se) (hok : ∀ j, j < anx → SeOk (X j)) (hn : anx ≤ 2932031007402) (w : World) (hX : SIn w ax anx X) :
    Calls Try.prog 13 #[.agg #[.int .i64 ak, .int .i64 ac, .int .u64 aa0, .int .i64 aa1, .int .u64 aa2, .int .i64 am, .slice aq an acq, .slice ax anx acx]] w fun e w' => ∃ (v : Value) (M : List (Int × Int)), e = .returned v ∧ HM (kdk X) anx M ∧ M.Pairwise (fun x y => y.2 < x.2 ∨ (x.2 = y.2 ∧ x.1 < y.1)) ∧ w'.ownsRow w.heap.size 36 2 v M.length (M.flatMap cnL) ∧ Below w.heap.size w w' := by
  obtain ⟨iC, hC1, hC2, hC3, hC4⟩ := sinfo infoCN
  obtain ⟨wb, hwb⟩ : ∃ wb, w.alloc (.cells #[.int .i64 ak, .int .i64 ac, .int .u64 aa0, .int .i64 aa1, .int .u64 aa2, .int .i64 am, .slice aq an acq, .slice ax anx acx] 29) = wb := ⟨_, rfl⟩
  have hb0 : Below w.heap.size w wb := by rw [← hwb]; exact (Below.refl _ w).alloc (Nat.le_refl _) _
  have hbx1 : wb.heap[w.heap.size]? = some (.cells #[.int .i64 ak, .int .i64 ac, .int .u64 aa0, .int .i64 aa1, .int .u64 aa2, .int .i64 am, .slice aq an acq, .slice ax anx acx] 29 (0, 0)) := by rw [← hwb]; exact World.alloc_heap_new w _
  have HW : Hid (w.alloc (.cells #[.int .i64 ak, .int .i64 ac, .int .u64 aa0, .int .i64 aa1, .int .u64 aa2, .int .i64 am, .slice aq an acq, .slice ax anx acx] 29) = wb) := hwb
  have HB : Hid (Below w.heap.size w wb ∧ wb.heap[w.heap.size]? = some (.cells #[.int .i64 ak, .int .i64 ac, .int .u64 aa0, .int .i64 aa1, .int .u64 aa2, .int .i64 am, .slice aq an acq, .slice ax anx acx] 29 (0, 0)) ∧ w.heap.size < wb.heap.size) := ⟨hb0, hbx1, lt_of_block hbx1⟩
  have HX : Hid (SIn w ax anx X) := hX
  obtain ⟨-, -, -, -, -, -, -, c7⟩ := cells8k hbx1
  rw [← hwb] at c7
  clear hwb hX hb0 hbx1 hok
  go_enter Try.func13, Try.ntmps13
  go_wp2
  rw [HW.out]
  clear c7
  go_loopw [3, 16] (fun r x wt => ∃ (i : Nat) (K : List Int), x = .int .i64 i ∧ i ≤ anx ∧ wt.ownsRow wb.heap.size 3 1 r K.length (K.flatMap inL) ∧ RisI K ∧ (∀ x, x ∈ K ↔ 0 < kc (kdk X) x i) ∧ K.length ≤ i ∧ Below wb.heap.size wb wt) (fun _ x _ => anx - (intOf x).toNat)
  case atStart => exact ⟨0, [], rfl, Nat.zero_le _, World.ownsRow_nil _ _ _ _, List.Pairwise.nil, fun x => by simp [kc], Nat.le_refl _, Below.refl _ _⟩
  case round =>
    obtain ⟨i, K, rfl, hi, hrow, hris, hmem, hln, hbt⟩ := hrel
    have HL : Hid (wr.ownsRow wb.heap.size 3 1 u3 K.length (K.flatMap inL) ∧ RisI K ∧ (∀ x, x ∈ K ↔ 0 < kc (kdk X) x i) ∧ Below wb.heap.size wb wr) := ⟨hrow, hris, hmem, hbt⟩
    by_cases hlt : i < anx
    case pos =>
      have dl : decide ((i : Int) < (anx : Int)) = true := decide_eq_true (by omega)
      have hme := meas hlt
      have i0 : (0 : Int) ≤ (i : Int) := by omega
      have i1 : (i : Int) < (anx : Int) := by omega
      have ei : IntKind.i64.wrap ((i : Int) + 1) = (i : Int) + 1 := by rw [IntKind.wrap_i64]; omega
      have hbw : Below w.heap.size w wr := HB.out.1.trans (hbt.mono HB.out.1.size)
      obtain ⟨g1, o1, hx1, hg1, x0, x1, x2, x3, x4, x5⟩ := (HX.out.below hbw).at hlt
      rw [hx1]
      have hbE : Below wr.heap.size wr (wr.alloc (.cells #[.int .u64 (X i).t, .int .i64 (X i).s, .int .u64 (X i).q, .int .i64 (X i).d, .int .i64 (X i).k, .int .i64 (X i).v] 67)) := (Below.refl _ wr).alloc (Nat.le_refl _) _
      have HRK := rank_any u3 K (X i).k wb.heap.size (wr.alloc (.cells #[.int .u64 (X i).t, .int .i64 (X i).s, .int .u64 (X i).q, .int .i64 (X i).d, .int .i64 (X i).k, .int .i64 (X i).v] 67)) (Nat.le_trans hbt.size hbE.size) (srow_later hrow hbE) hris (by omega)
      have HBE : Hid (Below wb.heap.size wb (wr.alloc (.cells #[.int .u64 (X i).t, .int .i64 (X i).s, .int .u64 (X i).q, .int .i64 (X i).d, .int .i64 (X i).k, .int .i64 (X i).v] 67))) := hbt.trans (hbE.mono hbt.size)
      clear hrow hris hmem hbt hbw hx1 hbE
      go_wp2_with (go_at_call 30; (with_reducible refine HRK.mono ?_); rintro e w9 ⟨v9, M9, rfl, hr9, hs9, hm9, hl9, hb9⟩; have H9 : Hid (w9.ownsRow wb.heap.size 3 1 v9 M9.length (M9.flatMap inL) ∧ RisI M9 ∧ (∀ x, x ∈ M9 ↔ x ∈ K ∨ x = (X i).k) ∧ M9.length ≤ K.length + 1 ∧ Below wb.heap.size wb w9) := ⟨hr9, hs9, hm9, hl9, HBE.out.trans (hb9.mono HBE.out.size)⟩; clear hr9 hs9 hm9 hl9 hb9)
      obtain ⟨q1, q2, q3, q4, q5⟩ := H9.out
      exact ⟨⟨i + 1, M9, rfl, hlt, q1, q2, fun x => by rw [q3, HL.out.2.2.1, kc_in]; exact Iff.rfl, by omega, q5⟩, hme⟩
    have dl : decide ((i : Int) < (anx : Int)) = false := decide_eq_false (by omega)
    obtain rfl : i = anx := by omega
    obtain ⟨-, -, -, -, -, -, -, c7⟩ := cells8k ((hbt.block _ HB.out.2.2).trans HB.out.2.1)
    clear hrow hris hmem hbt
    go_wp2
    clear c7
    obtain ⟨wK, rfl⟩ : ∃ wK, wK = wr := ⟨_, rfl⟩
    obtain ⟨vK, rfl⟩ : ∃ vK, vK = u3 := ⟨_, rfl⟩
    go_loopw [6, 7] (fun r x wt => ∃ (n : Nat) (M : List (Int × Int)), x = .int .i64 n ∧ n ≤ i ∧ wt.ownsRow wK.heap.size 36 2 r M.length (M.flatMap cnL) ∧ RK (kdk X) i K n 0 M ∧ Below wK.heap.size wK wt) (fun _ x _ => (intOf x).toNat)
    case atStart => exact ⟨i, [], rfl, Nat.le_refl _, World.ownsRow_nil _ _ _ _, RK.start _ _ _, Below.refl _ _⟩
    case round =>
      obtain ⟨n, M, rfl, hni, hrow, hrk, hbt⟩ := hrel
      have HM2 : Hid (wr.ownsRow wK.heap.size 36 2 u6 M.length (M.flatMap cnL) ∧ RK (kdk X) i K n 0 M ∧ Below wK.heap.size wK wr) := ⟨hrow, hrk, hbt⟩
      clear hrow hrk hbt
      by_cases hn0 : 0 < n
      case pos =>
        have dn : decide ((0 : Int) < (n : Int)) = true := decide_eq_true (by omega)
        have en : IntKind.i64.wrap ((n : Int) - 1) = ((n - 1 : Nat) : Int) := by rw [IntKind.wrap_i64]; omega
        obtain ⟨pK, kK, hvK⟩ := own_slice (own_of HL.out.1)
        subst hvK
        go_wp2
        obtain ⟨wL, rfl⟩ : ∃ wL, wL = wr := ⟨_, rfl⟩
        go_loopw [6, 34] (fun r x wt => ∃ (j : Nat) (M : List (Int × Int)), x = .int .i64 j ∧ j ≤ K.length ∧ wt.ownsRow wK.heap.size 36 2 r M.length (M.flatMap cnL) ∧ RK (kdk X) i K n j M ∧ Below wK.heap.size wK wt) (fun _ x _ => K.length - (intOf x).toNat)
        case atStart => exact ⟨0, M, rfl, Nat.zero_le _, HM2.out.1, HM2.out.2.1, HM2.out.2.2⟩
        case round =>
          obtain ⟨j, M, rfl, hj, hrow, hrk, hbt⟩ := hrel
          have HM3 : Hid (wr.ownsRow wK.heap.size 36 2 u6 M.length (M.flatMap cnL) ∧ RK (kdk X) i K n j M ∧ Below wK.heap.size wK wr) := ⟨hrow, hrk, hbt⟩
          by_cases hjl : j < K.length
          case pos =>
            have dj : decide ((j : Int) < (K.length : Int)) = true := decide_eq_true (by omega)
            have hmj := meas hjl
            have j0 : (0 : Int) ≤ (j : Int) := by omega
            have j1 : (j : Int) < (K.length : Int) := by omega
            have ej : IntKind.i64.wrap ((j : Int) + 1) = (j : Int) + 1 := by rw [IntKind.wrap_i64]; omega
            obtain ⟨gK, hpK⟩ : ∃ g, pK = some ⟨g, 0, none⟩ := by
              rcases (own_of HL.out.1).form with ⟨_, h0⟩ | ⟨g, c, h0, _⟩
              · omega
              · injection h0 with h0; exact ⟨g, h0⟩
            subst hpK
            have k0 := rowI_cell (srow_later HL.out.1 hbt) hjl
            have hbw : Below wb.heap.size wb wr := HL.out.2.2.2.trans (hbt.mono HL.out.2.2.2.size)
            obtain ⟨-, -, -, -, -, -, -, c7⟩ := cells8k ((hbw.block _ HB.out.2.2).trans HB.out.2.1)
            have HBW : Hid (Below w.heap.size w wr) := HB.out.1.trans (hbw.mono HB.out.1.size)
            clear hrow hrk hbt hbw
            go_wp2
            clear k0 c7
            obtain ⟨wD, rfl⟩ : ∃ wD, wD = wr := ⟨_, rfl⟩
            go_loopw [10, 41] (fun a x wt => ∃ m : Nat, x = .int .i64 m ∧ a = .int .i64 (kc (kdk X) (itA K j) m) ∧ m ≤ i ∧ Below wD.heap.size wD wt) (fun _ x _ => i - (intOf x).toNat)
            case atStart => exact ⟨0, rfl, rfl, Nat.zero_le _, Below.refl _ _⟩
            case round =>
              obtain ⟨m, rfl, rfl, hm, hbt⟩ := hrel
              have HT : Hid (Below wD.heap.size wD wr) := hbt
              by_cases hml : m < i
              case pos =>
                have dm : decide ((m : Int) < (i : Int)) = true := decide_eq_true (by omega)
                have hmm := meas hml
                have m0 : (0 : Int) ≤ (m : Int) := by omega
                have m1 : (m : Int) < (i : Int) := by omega
                have em : IntKind.i64.wrap ((m : Int) + 1) = (m : Int) + 1 := by rw [IntKind.wrap_i64]; omega
                obtain ⟨g1, o1, hx1, hg1, x0, x1, x2, x3, x4, x5⟩ := (HX.out.below (HBW.out.trans (hbt.mono HBW.out.size))).at hml
                rw [hx1]
                have hcl := kc_le (kdk X) (itA K j) m
                have ec : IntKind.i64.wrap ((kc (kdk X) (itA K j) m : Int) + 1) = (kc (kdk X) (itA K j) m : Int) + 1 := by rw [IntKind.wrap_i64]; omega
                clear hbt hx1
                by_cases he : (X m).k = itA K j
                · have d9 : ((X m).k == itA K j) = true := by simpa using he
                  have HE : Hid (kdk X m = itA K j) := he
                  clear he
                  go_wp2
                  refine ⟨⟨m + 1, rfl, ?_, hml, HT.out.alloc HT.out.size _⟩, hmm⟩
                  rw [kc_yes HE.out]
                  simp
                · have d9 : ((X m).k == itA K j) = false := by simpa using he
                  have HE : Hid (kdk X m ≠ itA K j) := he
                  clear he
                  go_wp2
                  refine ⟨⟨m + 1, rfl, ?_, hml, HT.out.alloc HT.out.size _⟩, hmm⟩
                  rw [kc_no HE.out]
              have dm : decide ((m : Int) < (i : Int)) = false := decide_eq_false (by omega)
              obtain rfl : m = i := by omega
              clear hbt
              by_cases he : kc (kdk X) (itA K j) m = n
              · have d9 : ((kc (kdk X) (itA K j) m : Int) == (n : Int)) = true := by simp; omega
                have hbq : Below wK.heap.size wK wr := HM3.out.2.2.trans (HT.out.mono HM3.out.2.2.size)
                have HR : Hid ((wr.alloc (.cells #[.int .i64 (itA K j), .int .i64 n] 36)).ownsRow wK.heap.size 36 2 u6 M.length (M.flatMap cnL) ∧ (∀ z y, (cnL (itA K j, (n : Int)))[z]? = some y → (wr.alloc (.cells #[.int .i64 (itA K j), .int .i64 n] 36)).cell? ((⟨wr.heap.size, 0, none⟩ : Addr).add z) = some y) ∧ Below wK.heap.size wK (wr.alloc (.cells #[.int .i64 (itA K j), .int .i64 n] 36))) :=
                  ⟨World.ownsRow.alloc (srow_later HM3.out.1 HT.out) _, scells_new wr (cnL (itA K j, (n : Int))) _, hbq.alloc hbq.size _⟩
                have HE : Hid (kc (kdk X) (itA K j) m = n) := he
                have hml9 := HM3.out.2.1.len
                clear he hbq
                go_wp2_with (at_builtin; refine wpList_append_own_at _ rfl _ _ 32 rfl wK.heap.size 36 iC _ 2 16 Try.underlying32 hC1 hC2 hC3 hC4 rfl (by decide) _ _ _ rfl HR.out.1 ⟨wr.heap.size, 0, none⟩ 1 1 (cnL (itA K j, (n : Int))) rfl rfl HR.out.2.1 (by simp [cnL, Value.oneCell']) (by unfold maxLen; omega) (by omega) HR.out.2.2.size ?_; intro v' w9 hown9 hgrow9 _ _)
                obtain ⟨b1, b2, b3⟩ := HR.out
                refine ⟨⟨j + 1, M ++ [(itA K j, (n : Int))], rfl, hjl, ?_, HM3.out.2.1.yes HL.out.2.1 hjl hn0 HE.out, b3.grown hgrow9 b3.size (fun r' e => (srow_lt b1 r' e).1)⟩, hmj⟩
                rw [List.length_append, List.flatMap_append]
                simpa using hown9
              · have d9 : ((kc (kdk X) (itA K j) m : Int) == (n : Int)) = false := by simp; omega
                have HE : Hid (kc (kdk X) (itA K j) m ≠ n) := he
                clear he
                go_wp2
                exact ⟨⟨j + 1, M, rfl, hjl, srow_later HM3.out.1 HT.out, HM3.out.2.1.no hjl HE.out, HM3.out.2.2.trans (HT.out.mono HM3.out.2.2.size)⟩, hmj⟩
          have dj : decide ((j : Int) < (K.length : Int)) = false := decide_eq_false (by omega)
          obtain rfl : j = K.length := by omega
          clear hrow hrk hbt
          go_wp2
          obtain ⟨n', rfl⟩ : ∃ n', n = n' + 1 := ⟨n - 1, by omega⟩
          exact ⟨⟨n', M, rfl, by omega, HM3.out.1, HM3.out.2.1.next HL.out.2.2.1, HM3.out.2.2⟩, by simp [intOf]⟩
      have dn : decide ((0 : Int) < (n : Int)) = false := decide_eq_false (by omega)
      obtain rfl : n = 0 := by omega
      go_wp2
      go_ret
      have hwK : w.heap.size ≤ wK.heap.size := Nat.le_trans HB.out.1.size HL.out.2.2.2.size
      refine ⟨_, M, rfl, HM2.out.2.1.done, HM2.out.2.1.pw, World.ownsRow.lower HM2.out.1 hwK, ?_⟩
      have h9 : Below wb.heap.size wb wr := HL.out.2.2.2.trans (HM2.out.2.2.mono HL.out.2.2.2.size)
      exact HB.out.1.trans (h9.mono HB.out.1.size)
end Go.Proofs.Ytomjnncgogkglaa
