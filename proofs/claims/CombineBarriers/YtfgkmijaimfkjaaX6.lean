import Derived.Test.YtfgkmijaimfkjaaX5
import Derived.Test.YtfgkmijaimfkjaaCJ
namespace Go.Proofs.Ytfgkmijaimfkjaa
open Go.ChangeShapes Go.WideShapes Go.ChangeAt Go.RowKit
set_option linter.unusedVariables false
set_option linter.unusedSimpArgs false
variable {base n kd : Nat} {B : RB} {R : Rt}

set_option maxRecDepth 100000 in
set_option maxHeartbeats 2000000 in
theorem rstep5 (w : Nat) (hw : w < n) (l : List Nat) (htd : R.td w = 5 :: l) (hr : R.th w < 1000000000000000000) (W : World) (h : RN base n kd B R W) : Calls Try.prog 28 #[.pointer (some ⟨B.rb, 0, none⟩), .int .i64 (w : Int)] W fun e W' => e = .returned (.tuple #[.bool true, .int .i64 0]) ∧ ∃ t, RC W base n kd B (popR { R with dn := setF R.dn w (rsn R w), dv := setF R.dv w (R.hs w), ls := setF R.ls w (R.hs w), th := setF R.th w (R.th w + 1) } w t l) W' := by
  have hx : inN n (w : Int) = true := by rw [inN_nat]; simpa using hw
  have HK := ris_any (w : Int) W h
  rw [hx] at HK
  obtain ⟨p, c, hv, hlc, k1, hl⟩ := h.tdv hw
  rw [htd] at hlc k1 hl hv
  obtain ⟨b, o, rfl, hbl, hbb, hcl⟩ := hl (by simp)
  have k2 := hcl 0 (by simp)
  simp only [List.length_cons] at k1 hlc hv
  simp at k2
  have HTL : Hid (TL W base B.gb (.slice (some ⟨b, o, none⟩) (l.length + 1) c) (5 :: l)) := by have := h.tl w hw; rw [hv, htd] at this; exact this
  have hlp : decide ((l.length : Int) + 1 = 0) = false := by simp; omega
  have hlq : ((l.length : Int) + 1 == 0) = false := by simp; omega
  have hlr : (l.length + 1 == 0) = false := by simp
  have hls : (((l.length + 1 : Nat) : Int) == 0) = false := by simp; omega
  have k3 := Own.cell h.th (j := w) (by omega)
  unfold ntF at k3
  have i0 : (0 : Int) ≤ (w : Int) := by omega
  have i1 : (w : Int) < (n : Int) := by omega
  have z0 : (0 : Int) < ((l.length + 1 : Nat) : Int) := by omega
  have hsn : ((R.th w : Int) % 2 == 0) = rsn R w := mod2_eq _
  obtain ⟨s, hs⟩ : ∃ s, rsn R w = s := ⟨_, rfl⟩
  rw [hs] at hsn ⊢
  obtain ⟨⟨c0, c1, c2, c3⟩, ⟨c4, c5, c6⟩, c7, c8, c9⟩ := h.cells
  obtain ⟨⟨l0, l1, l2, l3⟩, l4, l5, l6, l7, l8⟩ := h.lt
  have HW : Hid (RN base n kd B R W) := h
  obtain ⟨ll, hll⟩ : ∃ ll, l.length + 1 = ll := ⟨_, rfl⟩
  have er : IntKind.i64.wrap ((R.th w : Int) + 1) = ((R.th w + 1 : Nat) : Int) := by rw [IntKind.wrap_i64]; omega
  clear h hll
  go_enter Try.func28, Try.ntmps28
  go_upto_block 0 with (go_at_call 63; (with_reducible refine HK.mono ?_); rintro e w1 ⟨rfl, h9⟩; have h8 := h9.symm; subst h8; clear h9)
  go_cut [] (fun wc => RC W base n kd B { R with dn := setF R.dn w s, dv := setF R.dv w (R.hs w), ls := setF R.ls w (R.hs w), th := setF R.th w (R.th w + 1) } wc)
  case first =>
    go_upto_region 21 with fail
    have k4 := Own.cell HW.out.dn (j := w) (by omega)
    have fu := own_frozen HW.out.dn
    unfold blF at k4
    go_cut [] (fun wc => RC W base n kd B { R with dn := setF R.dn w s } wc)
    case first =>
      go_wp2_with fail
      go_meet
      exact (RC.start HW.out).set_dn w s
    case rest =>
      have HX : Hid (RC W base n kd B { R with dn := setF R.dn w s } wc) := hcut
      clear hcut k4 fu
      clear c0 c1 c2 c3 c4 c5 c6 c7 c8 c9 k1 k2 k3 l0 l1 l2 l3 l4 l5 l6 l7 l8
      obtain ⟨⟨c0, c1, c2, c3⟩, ⟨c4, c5, c6⟩, c7, c8, c9⟩ := HX.out.1.cells
      obtain ⟨⟨l0, l1, l2, l3⟩, l4, l5, l6, l7, l8⟩ := HX.out.1.lt
      obtain ⟨⟨t0, t1, t2, t3, t4⟩, t5, t6, t7, t8, t9⟩ := own_ten HX.out.1.hs hw
      obtain ⟨⟨a0, a1, a2, a3, a4⟩, a5, a6, a7, a8, a9⟩ := own_ten HX.out.1.dv hw
      have fx := own_frozen HX.out.1.dv
      dsimp only at t0
      go_upto_region 22 with fail
      go_cut [] (fun wc => RC W base n kd B { R with dn := setF R.dn w s, dv := setF R.dv w (R.hs w) } wc)
      case first =>
        go_region
        all_goals (
          go_wp2_with fail
          go_meet
          exact (HX.out.set_dv w (R.hs w)).drew)
      case rest =>
        have HX2 : Hid (RC W base n kd B { R with dn := setF R.dn w s, dv := setF R.dv w (R.hs w) } wc) := hcut
        clear hcut HX fx a0 a1 a2 a3 a4 a5 a6 a7 a8 a9 t0 t1 t2 t3 t4 t5 t6 t7 t8 t9
        clear c0 c1 c2 c3 c4 c5 c6 c7 c8 c9 l0 l1 l2 l3 l4 l5 l6 l7 l8
        have HX := HX2
        clear HX2
        obtain ⟨⟨c0, c1, c2, c3⟩, ⟨c4, c5, c6⟩, c7, c8, c9⟩ := HX.out.1.cells
        obtain ⟨⟨l0, l1, l2, l3⟩, l4, l5, l6, l7, l8⟩ := HX.out.1.lt
        obtain ⟨⟨t0, t1, t2, t3, t4⟩, t5, t6, t7, t8, t9⟩ := own_ten HX.out.1.hs hw
        obtain ⟨⟨a0, a1, a2, a3, a4⟩, a5, a6, a7, a8, a9⟩ := own_ten HX.out.1.ls hw
        have fx := own_frozen HX.out.1.ls
        dsimp only at t0
        go_upto_region 23 with fail
        go_cut [] (fun wc => RC W base n kd B { R with dn := setF R.dn w s, dv := setF R.dv w (R.hs w), ls := setF R.ls w (R.hs w) } wc)
        case first =>
          go_region
          all_goals (
            go_wp2_with fail
            go_meet
            exact (HX.out.set_ls w (R.hs w)).drew)
        case rest =>
          have HX2 : Hid (RC W base n kd B { R with dn := setF R.dn w s, dv := setF R.dv w (R.hs w), ls := setF R.ls w (R.hs w) } wc) := hcut
          clear hcut HX fx a0 a1 a2 a3 a4 a5 a6 a7 a8 a9 t0 t1 t2 t3 t4 t5 t6 t7 t8 t9
          clear c0 c1 c2 c3 c4 c5 c6 c7 c8 c9 l0 l1 l2 l3 l4 l5 l6 l7 l8
          have HX := HX2
          clear HX2
          obtain ⟨⟨c0, c1, c2, c3⟩, ⟨c4, c5, c6⟩, c7, c8, c9⟩ := HX.out.1.cells
          obtain ⟨⟨l0, l1, l2, l3⟩, l4, l5, l6, l7, l8⟩ := HX.out.1.lt
          have k9 := Own.cell HX.out.1.th (j := w) (by omega)
          unfold ntF at k9
          have fg := own_frozen HX.out.1.th
          dsimp only at k9
          go_upto_region 24 with fail
          go_region
          all_goals (
            go_wp2_with fail
            go_meet
            exact (HX.out.set_th w (R.th w + 1)).drew)
  case rest =>
    have HX : Hid (RC W base n kd B { R with dn := setF R.dn w s, dv := setF R.dv w (R.hs w), ls := setF R.ls w (R.hs w), th := setF R.th w (R.th w + 1) } wc) := hcut
    clear hcut
    clear c0 c1 c2 c3 c4 c5 c6 c7 c8 c9 k1 k2 k3 l0 l1 l2 l3 l4 l5 l6 l7 l8
    obtain ⟨⟨c0, c1, c2, c3⟩, ⟨c4, c5, c6⟩, c7, c8, c9⟩ := HX.out.1.cells
    obtain ⟨⟨l0, l1, l2, l3⟩, l4, l5, l6, l7, l8⟩ := HX.out.1.lt
    have k1 := Own.cell HX.out.1.td (j := w) (by omega)
    rw [show ({ R with dn := setF R.dn w s, dv := setF R.dv w (R.hs w), ls := setF R.ls w (R.hs w), th := setF R.th w (R.th w + 1) } : Rt).tv w = .slice (some ⟨b, o, none⟩) (l.length + 1) c from hv] at k1
    have ft := own_frozen HX.out.1.td
    by_cases hc1 : c = 1
    · subst hc1
      have hl0 : l.length = 0 := by omega
      obtain rfl := List.length_eq_zero_iff.1 hl0
      simp only [List.length_nil, Nat.zero_add] at k1
      clear hlc hlp hlq hlr hls z0
      go_upto_region 25 with fail
      go_region
      all_goals (
        go_wp2_with fail
        go_returns
        exact ⟨rfl, .slice (some ⟨b, o, none⟩) 0 0, (HX.out.set_td w _ [] (TL.gone _ _)).drew⟩)
    · have g1 : (1 : Int) ≤ ((l.length + 1 : Nat) : Int) := by omega
      have g2 : ((l.length + 1 : Nat) : Int) ≤ (c : Int) := by omega
      have g3 : l.length + 1 - 1 = l.length := by omega
      have g4 : (c - 1 == 0) = false := by simp; omega
      have HT2 : Hid (TL wc base B.gb (.slice (some ⟨b, o + 1, none⟩) l.length (c - 1)) l) := by
        have h9 := HX.out.1.tl w hw
        rw [show ({ R with dn := setF R.dn w s, dv := setF R.dv w (R.hs w), ls := setF R.ls w (R.hs w), th := setF R.th w (R.th w + 1) } : Rt).tv w = .slice (some ⟨b, o, none⟩) (l.length + 1) c from hv, show ({ R with dn := setF R.dn w s, dv := setF R.dv w (R.hs w), ls := setF R.ls w (R.hs w), th := setF R.th w (R.th w + 1) } : Rt).td w = 5 :: l from htd] at h9
        exact h9.tail
      go_upto_region 25 with fail
      go_region
      all_goals (
        go_wp2_with fail
        go_returns
        exact ⟨rfl, .slice (some ⟨b, o + 1, none⟩) l.length (c - 1), (HX.out.set_td w _ l HT2.out).drew⟩)
end Go.Proofs.Ytfgkmijaimfkjaa
