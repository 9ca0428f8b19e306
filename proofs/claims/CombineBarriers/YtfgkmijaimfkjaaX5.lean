import Derived.Test.YtfgkmijaimfkjaaX4
import Derived.Test.YtfgkmijaimfkjaaCJ
namespace Go.Proofs.Ytfgkmijaimfkjaa
open Go.ChangeShapes Go.WideShapes Go.ChangeAt Go.RowKit
set_option linter.unusedVariables false
set_option linter.unusedSimpArgs false
variable {base n kd : Nat} {B : RB} {R : Rt}

def rsn (R : Rt) (w : Nat) : Bool := R.th w % 2 == 0
/-- the first step is done -/
def popR (R : Rt) (w : Nat) (t : Value) (l : List Nat) : Rt := { R with tv := setF R.tv w t, td := setF R.td w l }
theorem TL.tail {W : World} {gb b o c k : Nat} {l : List Nat} (h : TL W base gb (.slice (some ⟨b, o, none⟩) (l.length + 1) c) (k :: l)) : TL W base gb (.slice (some ⟨b, o + 1, none⟩) l.length (c - 1)) l := by
  obtain ⟨p, c', h1, h2, h3⟩ := h
  injection h1 with h4 h5 h6
  subst h6
  obtain ⟨b', o', cur, a1, a2, a3, a4, a5⟩ := h3 (by simp)
  rw [← h4] at a1
  injection a1 with a1
  injection a1 with a1 a6 _
  subst a1 a6
  refine ⟨_, _, rfl, by simp at h2; omega, fun _ => ⟨b, o + 1, cur, rfl, a2, a3, a4, fun i hi => ?_⟩⟩
  have := a5 (i + 1) (by simp; omega)
  rw [show o + 1 + i = o + (i + 1) by omega, this]
  simp
theorem TL.gone {W : World} {gb : Nat} (p : Option Addr) (c : Nat) : TL W base gb (.slice p 0 c) [] := ⟨p, c, rfl, Nat.zero_le _, fun h => absurd rfl h⟩
set_option maxRecDepth 100000 in
theorem rstep_no (x : Int) (W : World) (h : RN base n kd B R W) (hno : ¬ (inN n x = true ∧ (R.td x.toNat).length ≠ 0)) : Calls Try.prog 28 #[.pointer (some ⟨B.rb, 0, none⟩), .int .i64 x] W fun e W' => e = .returned (.tuple #[.bool false, .int .i64 (if inN n x = true then 102 else 91)]) ∧ W' = W := by
  obtain ⟨⟨c0, c1, c2, c3⟩, ⟨c4, c5, c6⟩, c7, c8, c9⟩ := h.cells
  have HK := ris_any x W h
  by_cases hx : inN n x = true
  · obtain ⟨w, hw, rfl⟩ := inN_get hx
    obtain ⟨p, c, _, _, k1, _⟩ := h.tdv hw
    have i0 : (0 : Int) ≤ (w : Int) := by omega
    have i1 : (w : Int) < (n : Int) := by omega
    rw [hx] at HK ⊢
    simp only [hx, true_and, Int.toNat_natCast, ne_eq, Decidable.not_not] at hno
    simp only [if_true]
    rw [hno] at k1
    go_enter Try.func28, Try.ntmps28
    go_wp2_with (go_at_call 63; (with_reducible refine HK.mono ?_); rintro e w1 ⟨rfl, h9⟩; subst h9)
    go_returns
    exact ⟨rfl, rfl⟩
  · rw [Bool.not_eq_true] at hx
    rw [hx] at HK ⊢
    simp only [Bool.false_eq_true, if_false]
    go_enter Try.func28, Try.ntmps28
    go_wp2_with (go_at_call 63; (with_reducible refine HK.mono ?_); rintro e w1 ⟨rfl, h9⟩; subst h9)
    go_returns
    exact ⟨rfl, rfl⟩
set_option maxRecDepth 100000 in
set_option maxHeartbeats 2000000 in
theorem rstep3 (w : Nat) (hw : w < n) (l : List Nat) (htd : R.td w = 3 :: l) (W : World) (h : RN base n kd B R W) : Calls Try.prog 28 #[.pointer (some ⟨B.rb, 0, none⟩), .int .i64 (w : Int)] W fun e W' => e = .returned (.tuple #[.bool false, .int .i64 0]) ∧ ∃ t, RC W base n kd B (popR { R with up := setF R.up w (rsn R w), uv := setF R.uv w (R.hs w) } w t l) W' := by
  have hx : inN n (w : Int) = true := by rw [inN_nat]; simpa using hw
  have HK := ris_any (w : Int) W h
  rw [hx] at HK
  obtain ⟨p, c, hv, hlc, k1, hl⟩ := h.tdv hw
  rw [htd] at hlc k1 hl hv
  obtain ⟨b, o, rfl, hbl, hbb, hcl⟩ := hl (by simp)
  have k2 := hcl 0 (by simp)
  simp only [List.length_cons] at k1 hlc hv
  simp at k2
  have HTL : Hid (TL W base B.gb (.slice (some ⟨b, o, none⟩) (l.length + 1) c) (3 :: l)) := by have := h.tl w hw; rw [hv, htd] at this; exact this
  have hlp : decide ((l.length : Int) + 1 = 0) = false := by simp; omega
  have hlq : ((l.length : Int) + 1 == 0) = false := by simp; omega
  have hlr : (l.length + 1 == 0) = false := by simp
  have hls : (((l.length + 1 : Nat) : Int) == 0) = false := by simp; omega
  have k3 := Own.cell h.th (j := w) (by omega)
  unfold ntF at k3
  have i0 : (0 : Int) ≤ (w : Int) := by omega
  have i1 : (w : Int) < (n : Int) := by omega
  have z0 : (0 : Int) < ((l.length + 1 : Nat) : Int) := by omega
  have hsn : ((R.th w : Int) % 2 == 0) = rsn R w := mod2_eq _
  obtain ⟨s, hs⟩ : ∃ s, rsn R w = s := ⟨_, rfl⟩
  rw [hs] at hsn ⊢
  obtain ⟨⟨c0, c1, c2, c3⟩, ⟨c4, c5, c6⟩, c7, c8, c9⟩ := h.cells
  obtain ⟨⟨l0, l1, l2, l3⟩, l4, l5, l6, l7, l8⟩ := h.lt
  have HW : Hid (RN base n kd B R W) := h
  obtain ⟨ll, hll⟩ : ∃ ll, l.length + 1 = ll := ⟨_, rfl⟩
  clear h hll
  go_enter Try.func28, Try.ntmps28
  go_upto_block 0 with (go_at_call 63; (with_reducible refine HK.mono ?_); rintro e w1 ⟨rfl, h9⟩; have h8 := h9.symm; subst h8; clear h9)
  go_cut [] (fun wc => RC W base n kd B { R with up := setF R.up w s, uv := setF R.uv w (R.hs w) } wc)
  case first =>
    go_upto_region 14 with fail
    have k4 := Own.cell HW.out.up (j := w) (by omega)
    have fu := own_frozen HW.out.up
    unfold blF at k4
    go_cut [] (fun wc => RC W base n kd B { R with up := setF R.up w s } wc)
    case first =>
      go_wp2_with fail
      go_meet
      exact (RC.start HW.out).set_up w s
    case rest =>
      have HX : Hid (RC W base n kd B { R with up := setF R.up w s } wc) := hcut
      clear hcut k4 fu
      clear c0 c1 c2 c3 c4 c5 c6 c7 c8 c9 k1 k2 k3 l0 l1 l2 l3 l4 l5 l6 l7 l8
      obtain ⟨⟨c0, c1, c2, c3⟩, ⟨c4, c5, c6⟩, c7, c8, c9⟩ := HX.out.1.cells
      obtain ⟨⟨l0, l1, l2, l3⟩, l4, l5, l6, l7, l8⟩ := HX.out.1.lt
      obtain ⟨⟨t0, t1, t2, t3, t4⟩, t5, t6, t7, t8, t9⟩ := own_ten HX.out.1.hs hw
      obtain ⟨⟨a0, a1, a2, a3, a4⟩, a5, a6, a7, a8, a9⟩ := own_ten HX.out.1.uv hw
      have fx := own_frozen HX.out.1.uv
      dsimp only at t0
      go_upto_region 15 with fail
      go_region
      all_goals (
        go_wp2_with fail
        go_meet
        exact (HX.out.set_uv w (R.hs w)).drew)
  case rest =>
    have HX : Hid (RC W base n kd B { R with up := setF R.up w s, uv := setF R.uv w (R.hs w) } wc) := hcut
    clear hcut
    clear c0 c1 c2 c3 c4 c5 c6 c7 c8 c9 k1 k2 k3 l0 l1 l2 l3 l4 l5 l6 l7 l8
    obtain ⟨⟨c0, c1, c2, c3⟩, ⟨c4, c5, c6⟩, c7, c8, c9⟩ := HX.out.1.cells
    obtain ⟨⟨l0, l1, l2, l3⟩, l4, l5, l6, l7, l8⟩ := HX.out.1.lt
    have k1 := Own.cell HX.out.1.td (j := w) (by omega)
    rw [show ({ R with up := setF R.up w s, uv := setF R.uv w (R.hs w) } : Rt).tv w = .slice (some ⟨b, o, none⟩) (l.length + 1) c from hv] at k1
    have ft := own_frozen HX.out.1.td
    by_cases hc1 : c = 1
    · subst hc1
      have hl0 : l.length = 0 := by omega
      obtain rfl := List.length_eq_zero_iff.1 hl0
      simp only [List.length_nil, Nat.zero_add] at k1
      clear hlc hlp hlq hlr hls z0
      go_upto_region 25 with fail
      go_region
      all_goals (
        go_wp2_with fail
        go_returns
        exact ⟨rfl, .slice (some ⟨b, o, none⟩) 0 0, (HX.out.set_td w _ [] (TL.gone _ _)).drew⟩)
    · have g1 : (1 : Int) ≤ ((l.length + 1 : Nat) : Int) := by omega
      have g2 : ((l.length + 1 : Nat) : Int) ≤ (c : Int) := by omega
      have g3 : l.length + 1 - 1 = l.length := by omega
      have g4 : (c - 1 == 0) = false := by simp; omega
      have HT2 : Hid (TL wc base B.gb (.slice (some ⟨b, o + 1, none⟩) l.length (c - 1)) l) := by
        have h9 := HX.out.1.tl w hw
        rw [show ({ R with up := setF R.up w s, uv := setF R.uv w (R.hs w) } : Rt).tv w = .slice (some ⟨b, o, none⟩) (l.length + 1) c from hv, show ({ R with up := setF R.up w s, uv := setF R.uv w (R.hs w) } : Rt).td w = 3 :: l from htd] at h9
        exact h9.tail
      go_upto_region 25 with fail
      go_region
      all_goals (
        go_wp2_with fail
        go_returns
        exact ⟨rfl, .slice (some ⟨b, o + 1, none⟩) l.length (c - 1), (HX.out.set_td w _ l HT2.out).drew⟩)
end Go.Proofs.Ytfgkmijaimfkjaa
