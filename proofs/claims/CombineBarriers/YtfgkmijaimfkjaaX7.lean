import Derived.Test.YtfgkmijaimfkjaaX5
import Derived.Test.YtfgkmijaimfkjaaCJ
namespace Go.Proofs.Ytfgkmijaimfkjaa
open Go.ChangeShapes Go.WideShapes Go.ChangeAt Go.RowKit
set_option linter.unusedVariables false
set_option linter.unusedSimpArgs false
variable {base n kd : Nat} {B : RB} {R : Rt}

set_option maxRecDepth 100000 in
set_option maxHeartbeats 2000000 in
theorem rstep4 (w : Nat) (hw : w < n) (l : List Nat) (htd : R.td w = 4 :: l) (h0w : 0 < w) (hn : n ≤ 64) (hd : R.dn ((w - 1) / 2) = rsn R w) (W : World) (h : RN base n kd B R W) : Calls Try.prog 28 #[.pointer (some ⟨B.rb, 0, none⟩), .int .i64 (w : Int)] W fun e W' => e = .returned (.tuple #[.bool false, .int .i64 0]) ∧ ∃ t, RC W base n kd B (popR { R with hs := setF R.hs w (R.dv ((w - 1) / 2)) } w t l) W' := by
  have hx : inN n (w : Int) = true := by rw [inN_nat]; simpa using hw
  have HK := ris_any (w : Int) W h
  rw [hx] at HK
  obtain ⟨p, c, hv, hlc, k1, hl⟩ := h.tdv hw
  rw [htd] at hlc k1 hl hv
  obtain ⟨b, o, rfl, hbl, hbb, hcl⟩ := hl (by simp)
  have k2 := hcl 0 (by simp)
  simp only [List.length_cons] at k1 hlc hv
  simp at k2
  have HTL : Hid (TL W base B.gb (.slice (some ⟨b, o, none⟩) (l.length + 1) c) (4 :: l)) := by have := h.tl w hw; rw [hv, htd] at this; exact this
  have hlp : decide ((l.length : Int) + 1 = 0) = false := by simp; omega
  have hlq : ((l.length : Int) + 1 == 0) = false := by simp; omega
  have hlr : (l.length + 1 == 0) = false := by simp
  have hls : (((l.length + 1 : Nat) : Int) == 0) = false := by simp; omega
  have k3 := Own.cell h.th (j := w) (by omega)
  unfold ntF at k3
  have i0 : (0 : Int) ≤ (w : Int) := by omega
  have i1 : (w : Int) < (n : Int) := by omega
  have z0 : (0 : Int) < ((l.length + 1 : Nat) : Int) := by omega
  have hsn : ((R.th w : Int) % 2 == 0) = rsn R w := mod2_eq _
  obtain ⟨s, hs⟩ : ∃ s, rsn R w = s := ⟨_, rfl⟩
  rw [hs] at hsn
  obtain ⟨⟨c0, c1, c2, c3⟩, ⟨c4, c5, c6⟩, c7, c8, c9⟩ := h.cells
  obtain ⟨⟨l0, l1, l2, l3⟩, l4, l5, l6, l7, l8⟩ := h.lt
  have HW : Hid (RN base n kd B R W) := h
  obtain ⟨ll, hll⟩ : ∃ ll, l.length + 1 = ll := ⟨_, rfl⟩
  obtain ⟨p', hp'⟩ : ∃ p', (w - 1) / 2 = p' := ⟨_, rfl⟩
  have hpn : p' < n := by omega
  have e1 : IntKind.i64.wrap ((w : Int) - 1) = (w : Int) - 1 := by rw [IntKind.wrap_i64]; omega
  have e2' : ((w : Int) - 1).tdiv 2 = (p' : Int) := by rw [Int.tdiv_eq_ediv_of_nonneg (by omega)]; omega
  have e2 : IntKind.i64.wrap (p' : Int) = (p' : Int) := by rw [IntKind.wrap_i64]; omega
  have j0 : (0 : Int) ≤ (p' : Int) := by omega
  have j1 : (p' : Int) < (n : Int) := by omega
  have k5 := Own.cell h.dn (j := p') (by omega)
  unfold blF at k5
  have hd' : (R.dn p' != s) = false := by rw [hp'] at hd; rw [← hs, hd]; simp
  have hd2 : (R.dn p' == s) = true := by rw [hp'] at hd; rw [← hs, hd]; simp
  have HP : Hid ((w - 1) / 2 = p') := hp'
  rw [hp']
  clear hd hp'
  clear h hll
  go_enter Try.func28, Try.ntmps28
  go_upto_block 0 with (go_at_call 63; (with_reducible refine HK.mono ?_); rintro e w1 ⟨rfl, h9⟩; have h8 := h9.symm; subst h8; clear h9)
  go_cut [] (fun wc => RC W base n kd B { R with hs := setF R.hs w (R.dv p') } wc)
  case first =>
    go_upto_region 19 with fail
    obtain ⟨⟨t0, t1, t2, t3, t4⟩, t5, t6, t7, t8, t9⟩ := own_ten HW.out.dv hpn
    obtain ⟨⟨a0, a1, a2, a3, a4⟩, a5, a6, a7, a8, a9⟩ := own_ten HW.out.hs hw
    have fx := own_frozen HW.out.hs
    go_region
    all_goals (
      go_wp2_with fail
      go_meet
      exact ((RC.start HW.out).set_hs w (R.dv p')).drew)
  case rest =>
    have HX : Hid (RC W base n kd B { R with hs := setF R.hs w (R.dv p') } wc) := hcut
    clear hcut
    clear c0 c1 c2 c3 c4 c5 c6 c7 c8 c9 k1 k2 k3 l0 l1 l2 l3 l4 l5 l6 l7 l8
    obtain ⟨⟨c0, c1, c2, c3⟩, ⟨c4, c5, c6⟩, c7, c8, c9⟩ := HX.out.1.cells
    obtain ⟨⟨l0, l1, l2, l3⟩, l4, l5, l6, l7, l8⟩ := HX.out.1.lt
    have k1 := Own.cell HX.out.1.td (j := w) (by omega)
    rw [show ({ R with hs := setF R.hs w (R.dv p') } : Rt).tv w = .slice (some ⟨b, o, none⟩) (l.length + 1) c from hv] at k1
    have ft := own_frozen HX.out.1.td
    by_cases hc1 : c = 1
    · subst hc1
      have hl0 : l.length = 0 := by omega
      obtain rfl := List.length_eq_zero_iff.1 hl0
      simp only [List.length_nil, Nat.zero_add] at k1
      clear hlc hlp hlq hlr hls z0
      go_upto_region 25 with fail
      go_region
      all_goals (
        go_wp2_with fail
        go_returns
        exact ⟨rfl, .slice (some ⟨b, o, none⟩) 0 0, (HX.out.set_td w _ [] (TL.gone _ _)).drew⟩)
    · have g1 : (1 : Int) ≤ ((l.length + 1 : Nat) : Int) := by omega
      have g2 : ((l.length + 1 : Nat) : Int) ≤ (c : Int) := by omega
      have g3 : l.length + 1 - 1 = l.length := by omega
      have g4 : (c - 1 == 0) = false := by simp; omega
      have HT2 : Hid (TL wc base B.gb (.slice (some ⟨b, o + 1, none⟩) l.length (c - 1)) l) := by
        have h9 := HX.out.1.tl w hw
        rw [show ({ R with hs := setF R.hs w (R.dv p') } : Rt).tv w = .slice (some ⟨b, o, none⟩) (l.length + 1) c from hv, show ({ R with hs := setF R.hs w (R.dv p') } : Rt).td w = 4 :: l from htd] at h9
        exact h9.tail
      go_upto_region 25 with fail
      go_region
      all_goals (
        go_wp2_with fail
        go_returns
        exact ⟨rfl, .slice (some ⟨b, o + 1, none⟩) l.length (c - 1), (HX.out.set_td w _ l HT2.out).drew⟩)
set_option maxRecDepth 100000 in
set_option maxHeartbeats 2000000 in
theorem rstep4_no (w : Nat) (hw : w < n) (l : List Nat) (htd : R.td w = 4 :: l) (h0w : 0 < w) (hn : n ≤ 64) (hd : R.dn ((w - 1) / 2) ≠ rsn R w) (W : World) (h : RN base n kd B R W) : Calls Try.prog 28 #[.pointer (some ⟨B.rb, 0, none⟩), .int .i64 (w : Int)] W fun e W' => e = .returned (.tuple #[.bool false, .int .i64 0]) ∧ W' = W := by
  have hx : inN n (w : Int) = true := by rw [inN_nat]; simpa using hw
  have HK := ris_any (w : Int) W h
  rw [hx] at HK
  obtain ⟨p, c, hv, hlc, k1, hl⟩ := h.tdv hw
  rw [htd] at hlc k1 hl hv
  obtain ⟨b, o, rfl, hbl, hbb, hcl⟩ := hl (by simp)
  have k2 := hcl 0 (by simp)
  simp only [List.length_cons] at k1 hlc hv
  simp at k2
  have HTL : Hid (TL W base B.gb (.slice (some ⟨b, o, none⟩) (l.length + 1) c) (4 :: l)) := by have := h.tl w hw; rw [hv, htd] at this; exact this
  have hlp : decide ((l.length : Int) + 1 = 0) = false := by simp; omega
  have hlq : ((l.length : Int) + 1 == 0) = false := by simp; omega
  have hlr : (l.length + 1 == 0) = false := by simp
  have hls : (((l.length + 1 : Nat) : Int) == 0) = false := by simp; omega
  have k3 := Own.cell h.th (j := w) (by omega)
  unfold ntF at k3
  have i0 : (0 : Int) ≤ (w : Int) := by omega
  have i1 : (w : Int) < (n : Int) := by omega
  have z0 : (0 : Int) < ((l.length + 1 : Nat) : Int) := by omega
  have hsn : ((R.th w : Int) % 2 == 0) = rsn R w := mod2_eq _
  obtain ⟨s, hs⟩ : ∃ s, rsn R w = s := ⟨_, rfl⟩
  rw [hs] at hsn
  obtain ⟨⟨c0, c1, c2, c3⟩, ⟨c4, c5, c6⟩, c7, c8, c9⟩ := h.cells
  obtain ⟨⟨l0, l1, l2, l3⟩, l4, l5, l6, l7, l8⟩ := h.lt
  have HW : Hid (RN base n kd B R W) := h
  obtain ⟨ll, hll⟩ : ∃ ll, l.length + 1 = ll := ⟨_, rfl⟩
  obtain ⟨p', hp'⟩ : ∃ p', (w - 1) / 2 = p' := ⟨_, rfl⟩
  have hpn : p' < n := by omega
  have e1 : IntKind.i64.wrap ((w : Int) - 1) = (w : Int) - 1 := by rw [IntKind.wrap_i64]; omega
  have e2' : ((w : Int) - 1).tdiv 2 = (p' : Int) := by rw [Int.tdiv_eq_ediv_of_nonneg (by omega)]; omega
  have e2 : IntKind.i64.wrap (p' : Int) = (p' : Int) := by rw [IntKind.wrap_i64]; omega
  have j0 : (0 : Int) ≤ (p' : Int) := by omega
  have j1 : (p' : Int) < (n : Int) := by omega
  have k5 := Own.cell h.dn (j := p') (by omega)
  unfold blF at k5
  have hd' : (R.dn p' != s) = true := by rw [hp', hs] at hd; simpa using hd
  have hd2 : (R.dn p' == s) = false := by rw [hp', hs] at hd; simpa using hd
  clear hd hp' h hll
  go_enter Try.func28, Try.ntmps28
  go_wp2_with (go_at_call 63; (with_reducible refine HK.mono ?_); rintro e w1 ⟨rfl, h9⟩; have h8 := h9.symm; subst h8; clear h9)
  go_returns
  exact ⟨rfl, rfl⟩
end Go.Proofs.Ytfgkmijaimfkjaa
