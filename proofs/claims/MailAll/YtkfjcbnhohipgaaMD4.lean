import Derived.Test.YtkfjcbnhohipgaaMD3
import Derived.BigQuiet
import Derived.Deep.RegionLaw
import Derived.Deep.RegionHeld3
import Derived.Deep.Cut
import Derived.Deep.DeepCutAuto
import Derived.Deep.CutBlock
import Derived.Deep.CutRange
import Derived.Deep.AppendLies
import Derived.Handy
import Derived.Lib.RabinKarpLaws
namespace Go.Proofs.Ytkfjcbnhohipgaa
open Go.ChangeShapes Go.WideShapes Go.ChangeAt Go.RowKit
set_option linter.unusedVariables false
set_option linter.unusedSimpArgs false


def rfP (L : List Lt) (ph : Nat → Int) (n x : Nat) : Prop := Low ph n x ∨ (0 < ph x ∧ (0 < L.countP (cm x (-1) (ph x - 1)) ∨ 0 < L.countP (cm (-1) x (ph x - 1))))
set_option maxRecDepth 100000 in
theorem rflip_no (x : Int) {Fo : Nat → Option Obj} {base qb pb fb n : Nat} {room : Int} {srt : Bool} {ph fl : Nat → Int} {v : Value} {L : List Lt} (hx : x < 0 ∨ (n : Int) ≤ x) (W : World) (h : RX Fo W base qb pb fb n room srt ph fl v L) : Calls Try.prog 44 #[.pointer (some ⟨qb, 0, none⟩), .int .i64 x] W fun e W' => e = .returned (.int .i64 91) ∧ W' = W := by
  have HK := rhas_no x hx W h
  clear h hx
  go_enter Try.func44, Try.ntmps44
  go_wp2_with (go_at_call 55; (with_reducible refine HK.mono ?_); rintro e w1 ⟨rfl, h9⟩; subst h9)
  go_ret
  exact ⟨rfl, rfl⟩
set_option maxRecDepth 100000 in
set_option maxHeartbeats 4000000 in
theorem rflip_any (x : Nat) {Fo : Nat → Option Obj} {base qb pb fb n : Nat} {room : Int} {srt : Bool} {ph fl : Nat → Int} {v : Value} {L : List Lt} (hx : x < n) (hn : n ≤ 64) (hL : L.length ≤ 1000000) (hp : 0 ≤ ph x ∧ ph x < 4611686018427387904) (W : World) (h : RX Fo W base qb pb fb n room srt ph fl v L) (hbase : base ≤ W.heap.size) :
    Calls Try.prog 44 #[.pointer (some ⟨qb, 0, none⟩), .int .i64 (x : Int)] W fun r W' => Below base W W' ∧ ((fl x ≠ 0 ∧ r = .returned (.int .i64 (fl x)) ∧ RX Fo W' base qb pb fb n room srt ph fl v L) ∨ (fl x = 0 ∧ rfP L ph n x ∧ r = .returned (.int .i64 92) ∧ RX Fo W' base qb pb fb n room srt ph fl v L) ∨ (fl x = 0 ∧ ¬ rfP L ph n x ∧ r = .returned (.int .i64 0) ∧ RX Fo W' base qb pb fb n room srt (fun i => if i = x then ph x + 1 else ph i) fl v L)) := by
  have HK := rhas_yes x hx W h
  obtain ⟨c0, c1, c2, c3, c4, c5⟩ := h.cells
  have y0 := h.flc hx
  have i0 : (0 : Int) ≤ (x : Int) := by omega
  have i1 : (x : Int) < (n : Int) := by omega
  have HX := mhid (And.intro h hbase)
  have HW := rwaits_any x hx hn W h
  by_cases hf : fl x = 0
  case neg =>
    obtain ⟨f, hfe⟩ : ∃ f, fl x = f := ⟨_, rfl⟩
    rw [hfe] at y0 hf ⊢
    have d0 : (f != 0) = true := by simp [hf]
    have d0b : (f == 0) = false := by simp [hf]
    have HF := mhid hf
    clear h hx hf hfe hbase
    go_enter Try.func44, Try.ntmps44
    go_wp2_with (go_at_call 55; (with_reducible refine HK.mono ?_); rintro e9 w1 ⟨rfl, h9⟩; subst h9)
    go_ret
    exact ⟨Below.refl _ _, .inl ⟨HF.out, rfl, HX.out.1⟩⟩
  case pos =>
  rw [hf] at y0
  have HF := mhid hf
  by_cases hl : Low ph n x
  · have HM := mhid hl
    clear h hl hf hbase
    go_enter Try.func44, Try.ntmps44
    go_wp2_with (first | (go_at_call 55; (with_reducible refine HK.mono ?_); rintro e w1 ⟨rfl, h9⟩; subst h9) | (go_at_call 57; (with_reducible refine HW.mono ?_); rintro e w2 ⟨b2, rfl, h2, h3⟩; obtain rfl : b2 = true := h2.2 HM.out; have B2 := mhid h3; clear h2 h3))
    go_ret
    exact ⟨B2.out.mono HX.out.2, .inr (.inl ⟨HF.out, .inl HM.out, rfl, HX.out.1.later B2.out⟩)⟩
  · have HNL := mhid hl
    obtain ⟨px, hpx⟩ : ∃ px, ph x = px := ⟨_, rfl⟩
    have HPX := mhid hpx
    have ew : IntKind.i64.wrap (px - 1) = px - 1 := by rw [IntKind.wrap_i64]; omega
    have ew1 : IntKind.i64.wrap (px + 1) = px + 1 := by rw [IntKind.wrap_i64]; omega
    have HC1 : Hid (∀ w2, RX Fo w2 base qb pb fb n room srt ph fl v L → Calls Try.prog 56 #[.pointer (some ⟨qb, 0, none⟩), .int .i64 (x : Int), .int .i64 (-1), .int .i64 (px - 1)] w2 fun e W' => e = .returned (.int .i64 ((L.countP (cm x (-1) (px - 1)) : Nat) : Int)) ∧ Below w2.heap.size w2 W') := fun w2 h2 => rcount_any x (-1) (px - 1) hL w2 h2
    have HC2 : Hid (∀ w2, RX Fo w2 base qb pb fb n room srt ph fl v L → Calls Try.prog 56 #[.pointer (some ⟨qb, 0, none⟩), .int .i64 (-1), .int .i64 (x : Int), .int .i64 (px - 1)] w2 fun e W' => e = .returned (.int .i64 ((L.countP (cm (-1) x (px - 1)) : Nat) : Int)) ∧ Below w2.heap.size w2 W') := fun w2 h2 => rcount_any (-1) x (px - 1) hL w2 h2
    have HRF : Hid (rfP L ph n x ↔ 0 < px ∧ (0 < L.countP (cm x (-1) (px - 1)) ∨ 0 < L.countP (cm (-1) x (px - 1)))) := by
      show rfP L ph n x ↔ _
      unfold rfP
      rw [hpx]
      exact ⟨fun h9 => h9.resolve_left hl, fun h9 => .inr h9⟩
    have HST : Hid (∀ w2, RX Fo w2 base qb pb fb n room srt ph fl v L → w2.frozen? ⟨pb, x, none⟩ = false ∧ RX Fo (w2.setCell ⟨pb, x, none⟩ (.int .i64 (px + 1))) base qb pb fb n room srt (fun i => if i = x then ph x + 1 else ph i) fl v L ∧ Below base w2 (w2.setCell ⟨pb, x, none⟩ (.int .i64 (px + 1)))) := fun w2 h2 => by
      refine ⟨by obtain ⟨cr, hcr, _⟩ := h2.h.block; exact frz hcr _, ?_, (Below.refl base w2).setCell (p := ⟨pb, x, none⟩) (Own.lt h2.h pb rfl).1 _⟩
      have := h2.setPh x hx (px + 1)
      rw [hpx]
      exact this
    clear h hl hf hbase hpx hp
    go_enter Try.func44, Try.ntmps44
    go_upto_region 8 with (first | (go_at_call 55; (with_reducible refine HK.mono ?_); rintro e w1 ⟨rfl, h9⟩; subst h9) | (go_at_call 57; (with_reducible refine HW.mono ?_); rintro e w2 ⟨b2, rfl, h2, h3⟩; obtain rfl : b2 = false := (by cases b2; rfl; exact absurd (h2.1 rfl) HNL.out); have B2 := mhid h3; clear h2 h3))
    clear c0 c1 c2 c3 c4 c5 y0 HK HW
    have H2 := mhid (HX.out.1.later B2.out)
    obtain ⟨c0, c1, c2, c3, c4, c5⟩ := H2.out.cells
    have y1 := H2.out.phc hx
    rw [HPX.out] at y1
    by_cases hp0 : 0 < px
    · have dp : decide (0 < px) = true := by simpa using hp0
      have HD1 := HC1.out w2 H2.out
      obtain ⟨s1, hs1⟩ : ∃ s1, L.countP (cm x (-1) (px - 1)) = s1 := ⟨_, rfl⟩
      obtain ⟨s2, hs2⟩ : ∃ s2, L.countP (cm (-1) x (px - 1)) = s2 := ⟨_, rfl⟩
      rw [hs1] at HD1 HRF
      rw [hs2] at HC2 HRF
      have HP0 := mhid hp0
      clear hs1 hs2 hp0
      go_upto_region 10 with (go_at_call 56; (with_reducible refine HD1.mono ?_); rintro e w3 ⟨rfl, b3⟩; have B3 := mhid b3; clear b3)
      clear c0 c1 c2 c3 c4 c5 y1 HD1
      have H3 := mhid (H2.out.later B3.out)
      obtain ⟨c0, c1, c2, c3, c4, c5⟩ := H3.out.cells
      have y1 := H3.out.phc hx
      rw [HPX.out] at y1
      have HD2 := HC2.out w3 H3.out
      go_upto_region 11 with (go_at_call 56; (with_reducible refine HD2.mono ?_); rintro e w4 ⟨rfl, b4⟩; have B4 := mhid b4; clear b4)
      clear c0 c1 c2 c3 c4 c5 y1 HD2
      have H4 := mhid (H3.out.later B4.out)
      obtain ⟨c0, c1, c2, c3, c4, c5⟩ := H4.out.cells
      have y1 := H4.out.phc hx
      rw [HPX.out] at y1
      have HBB : Hid (Below base w1 w4) := ((B2.out.trans (B3.out.mono B2.out.size)).trans (B4.out.mono (Nat.le_trans B2.out.size B3.out.size))).mono HX.out.2
      by_cases z1 : 0 < s1
      · have q1 : decide ((0 : Int) < (s1 : Int)) = true := by simp; omega
        have q1n : decide (0 < s1) = true := by simpa using z1
        have HY := mhid (HRF.out.2 ⟨HP0.out, .inl z1⟩)
        clear z1
        go_wp2_with fail
        go_ret
        exact ⟨HBB.out, .inr (.inl ⟨HF.out, HY.out, rfl, H4.out⟩)⟩
      · have q1 : decide ((0 : Int) < (s1 : Int)) = false := by simp; omega
        have q1n : decide (0 < s1) = false := by simpa using z1
        by_cases z2 : 0 < s2
        · have q2 : decide ((0 : Int) < (s2 : Int)) = true := by simp; omega
          have q2n : decide (0 < s2) = true := by simpa using z2
          have HY := mhid (HRF.out.2 ⟨HP0.out, .inr z2⟩)
          clear z1 z2
          go_wp2_with fail
          go_ret
          exact ⟨HBB.out, .inr (.inl ⟨HF.out, HY.out, rfl, H4.out⟩)⟩
        · have q2 : decide ((0 : Int) < (s2 : Int)) = false := by simp; omega
          have q2n : decide (0 < s2) = false := by simpa using z2
          have HY : Hid (¬ rfP L ph n x) := fun h9 => by have := (HRF.out.1 h9).2; omega
          obtain ⟨nf, m5, b5⟩ := HST.out w4 H4.out
          have H5 := mhid (And.intro m5 b5)
          clear z1 z2 m5 b5
          go_wp2_with fail
          go_ret
          exact ⟨HBB.out.trans H5.out.2, .inr (.inr ⟨HF.out, HY.out, rfl, H5.out.1⟩)⟩
    · have dp : decide (0 < px) = false := by simpa using hp0
      have HY : Hid (¬ rfP L ph n x) := fun h9 => hp0 (HRF.out.1 h9).1
      obtain ⟨nf, m5, b5⟩ := HST.out w2 H2.out
      have H5 := mhid (And.intro m5 b5)
      clear hp0 m5 b5
      go_wp2_with fail
      go_ret
      exact ⟨(B2.out.mono HX.out.2).trans H5.out.2, .inr (.inr ⟨HF.out, HY.out, rfl, H5.out.1⟩)⟩
theorem grown_alloc {w w' : World} {o : Obj} {b : Option Nat} (h : (w.alloc o).grownBy w' b) : w.grownBy w' b := ⟨h.1, h.2, h.3, Nat.le_trans (by rw [World.size_alloc]; omega) h.4, fun k hk hne => (h.5 k (by rw [World.size_alloc]; omega) hne).trans (((Below.refl _ w).alloc (Nat.le_refl _) o).block k hk)⟩
/-- append of one element that has just been laid -/
theorem app_one {ops : Array Oper} {rest : List Oper} {o : Oper} {a : Act} {w : World} {Q : Exit → Act → World → Prop} (e t : TypeId) (i : TypeInfo) (z : Value) (s bytes : Nat) (ht : Try.prog.underlying t = some (.slice e)) (hi : Try.prog.info? e = some i) (hz : i.zero = some z) (hsize : i.size = s) (hby : i.bytes = bytes) (hzs : z.cells.size = s) (hs0 : 0 < s)
    (hgd : o.guard = none) (sl x : Operand) (ho : o.op = .call { callee := .builtin .append, args := #[sl, x], argTypes := #[t, t] }) (B : Nat) (v : Value) (m : Nat) (F G : Nat → Value) (hs : a.eval sl = v) (hb : Own w B e s v m F)
    (news : List Value) (hx : a.eval x = .slice (some ⟨w.heap.size, 0, none⟩) 1 1) (hl : news.length = s) (h1 : ∀ u ∈ news, u.oneCell' = true) (hlim : m + 1 ≤ 1100000) (hb40 : bytes ≤ 100) (hbase : B ≤ w.heap.size)
    (hG : ∀ j, j < (m + 1) * s → (cellsF F (m * s) ++ news).getD j undef = G j)
    (h : ∀ g cap w', Own w' B e s (.slice (some ⟨g, 0, none⟩) (m + 1) cap) (m + 1) G → w.grownBy w' v.ownBlock → (v.ownBlock = some g ∨ w.heap.size ≤ g) → g < w'.heap.size → wpList Try.prog ops Q rest (a.put o.dst (.slice (some ⟨g, 0, none⟩) (m + 1) cap)) w') : wpList Try.prog ops Q (o :: rest) a (w.alloc (.cells news.toArray e)) := by
  refine wpList_append_lies _ hgd sl x t ho B e i z s bytes ht hi hz hsize hby hzs hs0 v m _ hs (World.ownsRow.alloc hb _) ⟨w.heap.size, 0, none⟩ 1 1 news hx (by omega) (cells_new9 w news e) h1 (by decide) (by unfold maxLen; omega) (Nat.le_trans (Nat.mul_le_mul (show m + 1 ≤ 1100000 from hlim) hb40) (by omega)) (by simp; omega) (w.heap.size + 1) (by simp) ?_
  intro g cap w' k1 k2 k3 k4
  exact h g cap w' ((own_of_row k1).congr hG) (grown_alloc k2) (by rcases k3 with k3 | k3; exact .inl k3; exact .inr (by omega)) k4
end Go.Proofs.Ytkfjcbnhohipgaa
