import Derived.Test.YtkfjcbnhohipgaaMD2
import Derived.BigQuiet
import Derived.Deep.RegionLaw
import Derived.Deep.RegionHeld3
import Derived.Deep.Cut
import Derived.Deep.DeepCutAuto
import Derived.Deep.CutBlock
import Derived.Deep.CutRange
import Derived.Deep.AppendLies
import Derived.Handy
import Derived.Lib.RabinKarpLaws
namespace Go.Proofs.Ytkfjcbnhohipgaa
open Go.ChangeShapes Go.WideShapes Go.ChangeAt Go.RowKit
set_option linter.unusedVariables false
set_option linter.unusedSimpArgs false


set_option maxRecDepth 100000 in
theorem rsend_no (x y a b : Int) {Fo : Nat → Option Obj} {base qb pb fb n : Nat} {room : Int} {srt : Bool} {ph fl : Nat → Int} {v : Value} {L : List Lt} (hx : x < 0 ∨ (n : Int) ≤ x) (W : World) (h : RX Fo W base qb pb fb n room srt ph fl v L) :
    Calls Try.prog 43 #[.pointer (some ⟨qb, 0, none⟩), .int .i64 x, .int .i64 y, .agg #[.int .i64 a, .int .i64 b]] W fun r W' => r = .returned (.int .i64 91) ∧ RX Fo W' base qb pb fb n room srt ph fl v L ∧ Below W.heap.size W W' := by
  obtain ⟨wA, hwA⟩ : ∃ wA, W.alloc (.cells #[.int .i64 a, .int .i64 b] 31) = wA := ⟨_, rfl⟩
  have hbA : Below W.heap.size W wA := by rw [← hwA]; exact (Below.refl _ W).alloc (Nat.le_refl _) _
  have hXA := h.later hbA
  have HWA := mhid hwA
  have HBA := mhid hbA
  have HK := rhas_no x hx wA hXA
  have HX := mhid hXA
  clear h hXA hbA hwA hx
  go_enter Try.func43, Try.ntmps43
  go_wp2_with (go_at_call 55; rw [HWA.out]; (with_reducible refine HK.mono ?_); rintro e9 w1 ⟨rfl, h9⟩; subst h9)
  go_ret
  exact ⟨rfl, HX.out, HBA.out⟩
set_option maxRecDepth 100000 in
theorem rsend_failed (x : Nat) (y a b : Int) {Fo : Nat → Option Obj} {base qb pb fb n : Nat} {room : Int} {srt : Bool} {ph fl : Nat → Int} {v : Value} {L : List Lt} (hx : x < n) (hf : fl x ≠ 0) (W : World) (h : RX Fo W base qb pb fb n room srt ph fl v L) :
    Calls Try.prog 43 #[.pointer (some ⟨qb, 0, none⟩), .int .i64 (x : Int), .int .i64 y, .agg #[.int .i64 a, .int .i64 b]] W fun r W' => r = .returned (.int .i64 (fl x)) ∧ RX Fo W' base qb pb fb n room srt ph fl v L ∧ Below W.heap.size W W' := by
  obtain ⟨wA, hwA⟩ : ∃ wA, W.alloc (.cells #[.int .i64 a, .int .i64 b] 31) = wA := ⟨_, rfl⟩
  have hbA : Below W.heap.size W wA := by rw [← hwA]; exact (Below.refl _ W).alloc (Nat.le_refl _) _
  have hXA := h.later hbA
  have HWA := mhid hwA
  have HBA := mhid hbA
  have HK := rhas_yes x hx wA hXA
  have HX := mhid hXA
  obtain ⟨c0, c1, c2, c3, c4, c5⟩ := hXA.cells
  have y0 := hXA.flc hx
  have i0 : (0 : Int) ≤ (x : Int) := by omega
  have i1 : (x : Int) < (n : Int) := by omega
  obtain ⟨f, hfe⟩ : ∃ f, fl x = f := ⟨_, rfl⟩
  rw [hfe] at y0 hf ⊢
  have d0 : (f != 0) = true := by simp [hf]
  have d0b : (f == 0) = false := by simp [hf]
  clear h hXA hbA hwA hx hf hfe
  go_enter Try.func43, Try.ntmps43
  go_wp2_with (go_at_call 55; rw [HWA.out]; (with_reducible refine HK.mono ?_); rintro e9 w1 ⟨rfl, h9⟩; subst h9)
  go_ret
  exact ⟨rfl, HX.out, HBA.out⟩
set_option maxRecDepth 100000 in
theorem rsend_who (x : Nat) (y a b : Int) {Fo : Nat → Option Obj} {base qb pb fb n : Nat} {room : Int} {srt : Bool} {ph fl : Nat → Int} {v : Value} {L : List Lt} (hx : x < n) (hy : y < 0 ∨ (n : Int) ≤ y) (hf : fl x = 0) (W : World) (h : RX Fo W base qb pb fb n room srt ph fl v L) (hbase : base ≤ W.heap.size) :
    Calls Try.prog 43 #[.pointer (some ⟨qb, 0, none⟩), .int .i64 (x : Int), .int .i64 y, .agg #[.int .i64 a, .int .i64 b]] W fun r W' => r = .returned (.int .i64 91) ∧ RX Fo W' base qb pb fb n room srt ph (fun i => if i = x then 91 else fl i) v L ∧ Below base W W' := by
  obtain ⟨wA, hwA⟩ : ∃ wA, W.alloc (.cells #[.int .i64 a, .int .i64 b] 31) = wA := ⟨_, rfl⟩
  have hbA : Below W.heap.size W wA := by rw [← hwA]; exact (Below.refl _ W).alloc (Nat.le_refl _) _
  have hXA := h.later hbA
  have HWA := mhid hwA
  have HBA := mhid hbA
  have HK := rhas_yes x hx wA hXA
  have HK2 := rhas_no y hy wA hXA
  have HX := mhid (hXA.setFl x hx 91)
  obtain ⟨c0, c1, c2, c3, c4, c5⟩ := hXA.cells
  have y0 := hXA.flc hx
  have i0 : (0 : Int) ≤ (x : Int) := by omega
  have i1 : (x : Int) < (n : Int) := by omega
  have nf : wA.frozen? ⟨fb, x, none⟩ = false := by obtain ⟨cr, hcr, _⟩ := hXA.f.block; exact frz hcr _
  have HBS : Hid (Below base W (wA.setCell ⟨fb, x, none⟩ (.int .i64 91))) := (hbA.mono hbase).setCell (p := ⟨fb, x, none⟩) (Own.lt hXA.f fb rfl).1 _
  rw [hf] at y0
  clear h hXA hbA hwA hf hy
  go_enter Try.func43, Try.ntmps43
  go_wp2_with (first | (go_at_call 55; rw [HWA.out]; (with_reducible refine HK.mono ?_); rintro e9 w1 ⟨rfl, h9⟩; subst h9) | (go_at_call 55; (with_reducible refine HK2.mono ?_); rintro e9 w1 ⟨rfl, h9⟩; subst h9))
  go_ret
  exact ⟨rfl, HX.out, HBS.out⟩
set_option maxRecDepth 100000 in
theorem rsend_full (x y : Nat) (a b : Int) {Fo : Nat → Option Obj} {base qb pb fb n : Nat} {room : Int} {srt : Bool} {ph fl : Nat → Int} {v : Value} {L : List Lt} (hx : x < n) (hy : y < n) (hf : fl x = 0) (W : World) (h : RX Fo W base qb pb fb n room srt ph fl v L) (hbase : base ≤ W.heap.size) (hL : L.length ≤ 1000000) (hr : room ≤ (L.countP (cm x y (ph x)) : Nat)) :
    Calls Try.prog 43 #[.pointer (some ⟨qb, 0, none⟩), .int .i64 (x : Int), .int .i64 (y : Int), .agg #[.int .i64 a, .int .i64 b]] W fun r W' => r = .returned (.int .i64 90) ∧ RX Fo W' base qb pb fb n room srt ph (fun i => if i = x then 90 else fl i) v L ∧ Below base W W' := by
  obtain ⟨wA, hwA⟩ : ∃ wA, W.alloc (.cells #[.int .i64 a, .int .i64 b] 31) = wA := ⟨_, rfl⟩
  have hbA : Below W.heap.size W wA := by rw [← hwA]; exact (Below.refl _ W).alloc (Nat.le_refl _) _
  have hXA := h.later hbA
  have HWA := mhid hwA
  have HBA := mhid hbA
  have HK := rhas_yes x hx wA hXA
  have HK2 := rhas_yes y hy wA hXA
  have HC := rcount_any x y (ph x) hL wA hXA
  obtain ⟨c0, c1, c2, c3, c4, c5⟩ := hXA.cells
  have y0 := hXA.flc hx
  have y1 := hXA.phc hx
  have i0 : (0 : Int) ≤ (x : Int) := by omega
  have i1 : (x : Int) < (n : Int) := by omega
  rw [hf] at y0
  obtain ⟨px, hpx⟩ : ∃ px, ph x = px := ⟨_, rfl⟩
  rw [hpx] at y1 HC hr
  have HX := mhid (And.intro hXA (And.intro hbase hx))
  generalize (L.countP (cm x y px) : Nat) = m at HC hr
  have dr : decide (room ≤ (m : Int)) = true := by simpa using hr
  have dr2 : decide ((m : Int) < room) = false := by simp; omega
  clear h hXA hbA hwA hf hpx hr hbase
  go_enter Try.func43, Try.ntmps43
  go_upto_region 9 with (first | (go_at_call 55; rw [HWA.out]; (with_reducible refine HK.mono ?_); rintro e9 w1 ⟨rfl, h9⟩; subst h9) | (go_at_call 55; (with_reducible refine HK2.mono ?_); rintro e9 w1 ⟨rfl, h9⟩; subst h9) | (go_at_call 56; (with_reducible refine HC.mono ?_); rintro e9 w2 ⟨rfl, b2⟩; have B2 := mhid b2; clear b2))
  clear c0 c1 c2 c3 c4 c5 y0 y1 HK HK2 HC
  have h2 := HX.out.1.later B2.out
  obtain ⟨c0, c1, c2, c3, c4, c5⟩ := h2.cells
  have y0 := h2.flc HX.out.2.2
  have nf : w2.frozen? ⟨fb, x, none⟩ = false := by obtain ⟨cr, hcr, _⟩ := h2.f.block; exact frz hcr _
  have HX2 := mhid (h2.setFl x HX.out.2.2 90)
  have HBS : Hid (Below base W (w2.setCell ⟨fb, x, none⟩ (.int .i64 90))) := ((HBA.out.mono HX.out.2.1).trans (B2.out.mono (Nat.le_trans HX.out.2.1 HBA.out.size))).setCell (p := ⟨fb, x, none⟩) (Own.lt h2.f fb rfl).1 _
  clear h2
  go_wp2_with fail
  go_ret
  exact ⟨rfl, HX2.out, HBS.out⟩
theorem lF_app (L : List Lt) (l : Lt) : ∀ j, j < (L.length + 1) * 5 → (cellsF (lF L) (L.length * 5) ++ ([.int .i64 (l.f : Int), .int .i64 (l.t : Int), .int .i64 l.p, .int .i64 l.k, .int .i64 l.m] : List Value)).getD j undef = lF (L ++ [l]) j := fun j hj => by
  rw [List.getD_eq_getElem?_getD]
  by_cases h : j < L.length * 5
  · rw [List.getElem?_append_left (by rw [cellsF_len]; exact h), cellsF_at _ h]
    unfold lF
    rw [List.getD_eq_getElem?_getD, List.getD_eq_getElem?_getD, List.getElem?_append_left (by omega)]
    rfl
  · rw [List.getElem?_append_right (by rw [cellsF_len]; omega), cellsF_len]
    unfold lF
    rw [show j / 5 = L.length by omega, List.getD_eq_getElem?_getD, List.getElem?_append_right (Nat.le_refl _), Nat.sub_self]
    obtain ⟨r, hr⟩ : ∃ r, j - L.length * 5 = r := ⟨_, rfl⟩
    rw [hr, show j % 5 = r by omega]
    rcases (by omega : r = 0 ∨ r = 1 ∨ r = 2 ∨ r = 3 ∨ r = 4) with rfl | rfl | rfl | rfl | rfl <;> rfl
theorem infoLT : (Try.prog.info? 110).map (fun i => (i.zero, i.size, i.bytes)) = some (some (.agg #[.int .i64 0, .int .i64 0, .int .i64 0, .int .i64 0, .int .i64 0]), 5, 40) := by kernel_rfl
set_option maxRecDepth 100000 in
set_option maxHeartbeats 8000000 in
theorem rsend_put (x y : Nat) (a b : Int) {Fo : Nat → Option Obj} {base qb pb fb n : Nat} {room : Int} {srt : Bool} {ph fl : Nat → Int} {v : Value} {L : List Lt} (hx : x < n) (hy : y < n) (hf : fl x = 0) (W : World) (h : RX Fo W base qb pb fb n room srt ph fl v L) (hbase : base ≤ W.heap.size) (hL : L.length ≤ 1000000) (hr : (L.countP (cm x y (ph x)) : Nat) < room) :
    Calls Try.prog 43 #[.pointer (some ⟨qb, 0, none⟩), .int .i64 (x : Int), .int .i64 (y : Int), .agg #[.int .i64 a, .int .i64 b]] W fun r W' => r = .returned (.int .i64 0) ∧ (∃ v', RX Fo W' base qb pb fb n room srt ph fl v' (L ++ [⟨x, y, ph x, a, b⟩])) ∧ Below base W W' := by
  obtain ⟨wA, hwA⟩ : ∃ wA, W.alloc (.cells #[.int .i64 a, .int .i64 b] 31) = wA := ⟨_, rfl⟩
  have hbA : Below W.heap.size W wA := by rw [← hwA]; exact (Below.refl _ W).alloc (Nat.le_refl _) _
  have hXA := h.later hbA
  have HWA := mhid hwA
  have HBA := mhid hbA
  have t0 : wA.heap[W.heap.size]? = some (.cells #[.int .i64 a, .int .i64 b] 31 (0, 0)) := by rw [← hwA]; exact World.alloc_heap_new W _
  have HT0 := mhid t0
  obtain ⟨iT, hT1, hT2, hT3, hT4⟩ := binfo infoLT
  have HK := rhas_yes x hx wA hXA
  have HK2 := rhas_yes y hy wA hXA
  have HC := rcount_any x y (ph x) hL wA hXA
  obtain ⟨c0, c1, c2, c3, c4, c5⟩ := hXA.cells
  have y0 := hXA.flc hx
  have y1 := hXA.phc hx
  have i0 : (0 : Int) ≤ (x : Int) := by omega
  have i1 : (x : Int) < (n : Int) := by omega
  rw [hf] at y0
  obtain ⟨px, hpx⟩ : ∃ px, ph x = px := ⟨_, rfl⟩
  rw [hpx] at y1 HC hr ⊢
  have HX := mhid (And.intro hXA (And.intro hbase (And.intro hx (And.intro hL hpx))))
  generalize (L.countP (cm x y px) : Nat) = m at HC hr
  have dr : decide (room ≤ (m : Int)) = false := by simp; omega
  have dr2 : decide ((m : Int) < room) = true := by simp; omega
  obtain ⟨TB, hTB⟩ : ∃ TB, W.heap.size = TB := ⟨_, rfl⟩
  have HTB := mhid hTB
  clear h hXA hbA hwA hf hpx hr hbase t0 hL hTB
  go_enter Try.func43, Try.ntmps43
  go_upto_region 9 with (first | (go_at_call 55; rw [HWA.out]; (with_reducible refine HK.mono ?_); rintro e9 w1 ⟨rfl, h9⟩; subst h9) | (go_at_call 55; (with_reducible refine HK2.mono ?_); rintro e9 w1 ⟨rfl, h9⟩; subst h9) | (go_at_call 56; (with_reducible refine HC.mono ?_); rintro e9 w2 ⟨rfl, b2⟩; have B2 := mhid b2; clear b2))
  clear c0 c1 c2 c3 c4 c5 y0 y1 HK HK2 HC
  have h2 := HX.out.1.later B2.out
  obtain ⟨c0, c1, c2, c3, c4, c5⟩ := h2.cells
  have y1 := h2.phc HX.out.2.2.1
  rw [HX.out.2.2.2.2] at y1
  go_upto_region 12 with fail
  have u0 : w2.cell? ⟨W.heap.size, 0, none⟩ = some (.int .i64 a) := by
    have hl := lt_of_block HT0.out
    rw [B2.out.cell (p := ⟨W.heap.size, 0, none⟩) hl]; unfold World.cell?; rw [HT0.out]; rfl
  have u1 : w2.cell? ⟨W.heap.size, 1, none⟩ = some (.int .i64 b) := by
    have hl := lt_of_block HT0.out
    rw [B2.out.cell (p := ⟨W.heap.size, 1, none⟩) hl]; unfold World.cell?; rw [HT0.out]; rfl
  obtain ⟨w4, hw4⟩ : ∃ w4, (w2.alloc (.cells #[.int .i64 (x : Int), .int .i64 (y : Int), .int .i64 px, .int .i64 a, .int .i64 b] 110)).drew = w4 := ⟨_, rfl⟩
  have hb4 : Below w2.heap.size w2 w4 := by rw [← hw4]; exact ((Below.refl _ w2).alloc (Nat.le_refl _) _).drew
  have h4 := h2.later hb4
  have hA6 : Hid (∀ j u, ([.int .i64 (x : Int), .int .i64 (y : Int), .int .i64 px, .int .i64 a, .int .i64 b] : List Value)[j]? = some u → ((w2.alloc (.cells #[.int .i64 (x : Int), .int .i64 (y : Int), .int .i64 px, .int .i64 a, .int .i64 b] 110)).drew).cell? ((⟨w2.heap.size, 0, none⟩ : Addr).add j) = some u) := fun j u hj => cells_new9 w2 [.int .i64 (x : Int), .int .i64 (y : Int), .int .i64 px, .int .i64 a, .int .i64 b] 110 j u hj
  have HO : Hid ((w2.alloc (.cells #[.int .i64 (x : Int), .int .i64 (y : Int), .int .i64 px, .int .i64 a, .int .i64 b] 110)).drew.ownsRow base 110 5 v L.length (cellsF (lF L) (L.length * 5))) := by rw [hw4]; exact h4.l
  have hs2 : base ≤ w2.heap.size := Nat.le_trans HX.out.2.1 (Nat.le_trans HBA.out.size B2.out.size)
  have HM4 := mhid (And.intro h4 (And.intro hb4 (And.intro hw4 hs2)))
  have HAF : Hid (∀ (v' : Value) (w6 : World), w6.ownsRow base 110 5 v' (L.length + 1) (cellsF (lF L) (L.length * 5) ++ [.int .i64 (x : Int), .int .i64 (y : Int), .int .i64 px, .int .i64 a, .int .i64 b]) → w4.grownBy w6 v.ownBlock → (v'.ownBlock = v.ownBlock ∨ v'.ownBlock = some w4.heap.size) → (∃ q c, v' = .slice q (L.length + 1) c) ∧ w6.cell? ⟨qb, 5, none⟩ = some v ∧ w6.frozen? ⟨qb, 5, none⟩ = false ∧ RX Fo (w6.setCell ⟨qb, 5, none⟩ v') base qb pb fb n room srt ph fl v' (L ++ [⟨x, y, px, a, b⟩]) ∧ Below base w4 (w6.setCell ⟨qb, 5, none⟩ v')) := fun v' w6 g1 g2 g3 => by
    have ho : Own w6 base 110 5 v' (L ++ [(⟨x, y, px, a, b⟩ : Lt)]).length (lF (L ++ [(⟨x, y, px, a, b⟩ : Lt)])) := by
      rw [List.length_append, List.length_singleton]
      exact (own_of_row g1).congr (lF_app L ⟨x, y, px, a, b⟩)
    have kq := (g2.block _ (lt_of_block h4.p) fun e2 => h4.l.apart h4.p (by decide) qb e2.symm rfl).trans h4.p
    refine And.intro ?_ ⟨by unfold World.cell?; rw [kq]; rfl, frz kq _, h4.setL g2 v' _ ho ?_, ?_⟩
    · rcases (own_of_row g1).form with ⟨_, h8⟩ | ⟨g6, c6, h8, _⟩
      · omega
      · exact ⟨_, _, h8⟩
    · intro k hk
      rcases g3 with g3 | g3
      · rw [g3] at hk; exact .inl hk
      · rw [g3] at hk; injection hk with hk; exact .inr fun o ho => by have := lt_of_block (h4.fr k o ho).1; omega
    · refine Below.setCell (p := ⟨qb, 5, none⟩) ?_ h4.hbs _
      exact (Below.refl base w4).grown g2 (Nat.le_trans hs2 hb4.size) fun k hk => (h4.l.lt k hk).1
  have HLL := mhid HX.out.2.2.2.1
  have lq := lt_of_block h2.p
  have lp := (Own.lt h2.h pb rfl).2
  have lt9 : W.heap.size < w2.heap.size := Nat.lt_of_lt_of_le (lt_of_block HT0.out) B2.out.size
  clear h2 h4 hb4 hw4 hs2
  go_region_law (refine step_app9 rfl (.tmp 66) (.tmp 78) 94 rfl base 110 iT _ 5 40 Try.underlying94 hT1 hT2 hT3 hT4 rfl (by decide) v L.length _ (by simp [Act.eval]) HO.out ⟨w2.heap.size, 0, none⟩ 1 1 [.int .i64 (x : Int), .int .i64 (y : Int), .int .i64 px, .int .i64 a, .int .i64 b] (by simp [Act.eval]) rfl hA6.out (by simp [Value.oneCell']) (by have := HLL.out; unfold maxLen; omega) (by have := HLL.out; omega) (by show base ≤ (World.alloc w2 _).heap.size; rw [World.size_alloc]; exact Nat.le_succ_of_le HM4.out.2.2.2) ?_; intro v' w6 hown' hgrow hat; rw [HM4.out.2.2.1] at hgrow hat; obtain ⟨⟨q6, c6, rfl⟩, n0, nf, m6, b6⟩ := HAF.out v' w6 hown' hgrow hat; have HF6 := mhid (And.intro m6 b6); clear m6 b6 hown' hgrow hat)
  all_goals
    go_wp2
    go_ret
    refine ⟨rfl, ⟨_, HF6.out.1⟩, ?_⟩
    exact (((HBA.out.mono HX.out.2.1).trans (B2.out.mono (Nat.le_trans HX.out.2.1 HBA.out.size))).trans (HM4.out.2.1.mono HM4.out.2.2.2)).trans HF6.out.2
end Go.Proofs.Ytkfjcbnhohipgaa
