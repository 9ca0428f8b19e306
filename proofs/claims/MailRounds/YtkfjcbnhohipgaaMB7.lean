import Derived.Test.YtkfjcbnhohipgaaMB6
import Derived.BigQuiet
import Derived.Deep.RegionLaw
import Derived.Deep.RegionHeld3
import Derived.Deep.Cut
import Derived.Deep.DeepCutAuto
import Derived.Deep.CutBlock
import Derived.Deep.CutRange
import Derived.Deep.AppendLies
import Derived.Handy
import Derived.Lib.RabinKarpLaws
namespace Go.Proofs.Ytkfjcbnhohipgaa
open Go.ChangeShapes Go.WideShapes Go.ChangeAt Go.RowKit
set_option linter.unusedVariables false
set_option linter.unusedSimpArgs false


theorem thF_app (k : Nat → Int × Int) (l : Nat) (a b : Int) (xs : List Value) (hxs : xs = cellsF (thF k) (l * 2)) : ∀ j, j < (l + 1) * 2 → (xs ++ ([.int .i64 a, .int .i64 b] : List Value)).getD j undef = thF (fun i => if i = l then (a, b) else k i) j := fun j hj => by
  subst hxs
  have hlen : (cellsF (thF k) (l * 2)).length = l * 2 := cellsF_len _ _
  rw [List.getD_eq_getElem?_getD]
  by_cases h1 : j < l * 2
  · rw [List.getElem?_append_left (by omega), cellsF_at (thF k) h1, Option.getD_some]
    unfold thF
    simp only [if_neg (show ¬ j / 2 = l by omega)]
  · rw [List.getElem?_append_right (by omega), hlen]
    unfold thF
    rcases (by omega : j = l * 2 ∨ j = l * 2 + 1) with rfl | rfl
    · rw [show l * 2 - l * 2 = 0 by omega, if_pos (by omega), show l * 2 / 2 = l by omega]
      simp
    · rw [show l * 2 + 1 - l * 2 = 1 by omega, if_neg (by omega), show (l * 2 + 1) / 2 = l by omega]
      simp
/-- a thing more in a half -/
def more (f : Hf) (q : Option Addr) (c : Nat) (a b : Int) : Hf := ⟨q, f.l + 1, c, fun i => if i = f.l then (a, b) else f.k i⟩
set_option maxRecDepth 100000 in
set_option maxHeartbeats 4000000 in
theorem send_put (x y : Nat) (a b : Int) {Fo : Nat → Option Obj} {base hb wb bb n : Nat} {room : Int} {cmp : Value} {R : Nat → Nat} {ph fl : Nat → Int} {H : Nat → Nat → Nat → Hf} (hx : x < n) (hy : y < n) (hp : 0 ≤ ph x ∧ ph x < 4611686018427387904) (hf : fl x = 0) (W : World) (h : MP Fo W base hb wb bb n room cmp R ph fl H) (hbase : base ≤ W.heap.size) (hr : ((H x y (par (ph x))).l : Int) ≠ room) (hl : (H x y (par (ph x))).l < 1024) :
    Calls Try.prog 15 #[.pointer (some ⟨hb, 0, none⟩), .int .i64 (x : Int), .int .i64 (y : Int), .agg #[.int .i64 a, .int .i64 b]] W fun r W' => r = .returned (.int .i64 0) ∧ (∃ q c, MP Fo W' base hb wb bb n room cmp R ph fl (setHf H x y (par (ph x)) (more (H x y (par (ph x))) q c a b))) ∧ Below base W W' := by
  obtain ⟨iT, hT1, hT2, hT3, hT4⟩ := binfo infoTH
  have i0 : (0 : Int) ≤ (x : Int) := by omega
  have i1 : (x : Int) < (n : Int) := by omega
  have j0 : (0 : Int) ≤ (y : Int) := by omega
  have j1 : (y : Int) < (n : Int) := by omega
  have hpe := par_le (ph x)
  obtain ⟨px, hpx⟩ : ∃ px, ph x = px := ⟨_, rfl⟩
  rw [hpx] at hp hr hl hpe ⊢
  obtain ⟨e, he⟩ : ∃ e, par px = e := ⟨_, rfl⟩
  have HHF : Hid (∀ b o W, Calls Try.prog 32 #[.pointer (some ⟨b, o, none⟩), .int .i64 px] W fun r W' => r = .returned (.pointer (some ⟨b, o + e, none⟩)) ∧ W' = W) := fun b o W => by rw [← he]; exact half_any b o px (by omega) W
  rw [he] at hr hl hpe ⊢
  have HP := mhid hpx
  clear he hp
  obtain ⟨wA, hwA⟩ : ∃ wA, W.alloc (.cells #[.int .i64 a, .int .i64 b] 31) = wA := ⟨_, rfl⟩
  have hbA : Below W.heap.size W wA := by rw [← hwA]; exact (Below.refl _ W).alloc (Nat.le_refl _) _
  have hMA := h.later hbA
  have t0 : wA.heap[W.heap.size]? = some (.cells #[.int .i64 a, .int .i64 b] 31 (0, 0)) := by rw [← hwA]; exact World.alloc_heap_new W _
  have HWA : Hid (W.alloc (.cells #[.int .i64 a, .int .i64 b] 31) = wA) := hwA
  have HE := err_yes hb wb bb n room x hx cmp _ _ wA hMA.p hMA.wk
  rw [hf] at HE
  have HK := knows_yes hb wb bb n room y hy cmp wA hMA.p
  obtain ⟨c0, c1, c2, c3⟩ := hMA.p.cells
  have y0 := hMA.bs.b x hx
  have y1 := hMA.hv hx hy (k := e) (by omega)
  have y2 := (hMA.wk x hx).1
  rw [hpx] at y2
  have u0 : wA.cell? ⟨W.heap.size, 0, none⟩ = some (.int .i64 a) := by unfold World.cell?; rw [t0]; rfl
  have u1 : wA.cell? ⟨W.heap.size, 1, none⟩ = some (.int .i64 b) := by unfold World.cell?; rw [t0]; rfl
  have hfo := hMA.h x y e hx hy (by omega)
  obtain ⟨f, hfe⟩ : ∃ f, H x y e = f := ⟨_, rfl⟩
  rw [hfe] at y1 hr hl hfo ⊢
  have HFE := mhid hfe
  have dr : ((f.l : Int) == room) = false := by simp; omega
  have HL := mhid hl
  have HPE := mhid hpe
  have HN : Hid (MP Fo wA base hb wb bb n room cmp R ph fl H) := hMA
  have HBASE := mhid hbase
  unfold Hf.v at y1
  clear h hMA t0 hwA hbA hfe hpx hr hf hfo hbase
  go_enter Try.func15, Try.ntmps15
  go_upto_region 6 with (first | (go_at_call 20; rw [HWA.out]; (with_reducible refine HE.mono ?_); rintro e9 w1 ⟨rfl, h9⟩; subst h9) | (go_at_call 30; (with_reducible refine HK.mono ?_); rintro e9 w1 ⟨rfl, h9⟩; subst h9))
  go_quiet ((go_at_call 32; refine Calls.quiet_of_same (HHF.out _ _ _)))
  go_wp2
  go_quiet (fail)
  go_wp2
  generalize hw3 : World.drewN (World.drewN w1 _) _ = w3
  have hb3 : Below w1.heap.size w1 w3 := by rw [← hw3]; exact ⟨rfl, rfl, rfl, Nat.le_refl _, fun _ _ => rfl⟩
  have hs1 : w1.heap.size = W.heap.size + 1 := by rw [← HWA.out]; exact World.size_alloc _ _
  have hb1 : Below W.heap.size W w1 := by rw [← HWA.out]; exact (Below.refl _ W).alloc (Nat.le_refl _) _
  have hM3 := HN.out.later hb3
  have z1 := hM3.hv hx hy (k := e) (by have := HPE.out; omega)
  rw [HFE.out] at z1
  unfold Hf.v at z1
  have v0 : w3.cell? ⟨W.heap.size, 0, none⟩ = some (.int .i64 a) := (cell_below (a := ⟨W.heap.size, 0, none⟩) hb3 (by show W.heap.size < w1.heap.size; omega)).trans u0
  have v1 : w3.cell? ⟨W.heap.size, 1, none⟩ = some (.int .i64 b) := (cell_below (a := ⟨W.heap.size, 1, none⟩) hb3 (by show W.heap.size < w1.heap.size; omega)).trans u1
  have hlx := (Own.lt (hM3.r x hx) (R x) rfl).2
  have HB : Hid (Below w1.heap.size w1 w3 ∧ Below W.heap.size W w1 ∧ w1.heap.size = W.heap.size + 1) := ⟨hb3, hb1, hs1⟩
  obtain ⟨w4, hw4⟩ : ∃ w4, (w3.alloc (.cells #[.int .i64 a, .int .i64 b] 31)).drew = w4 := ⟨_, rfl⟩
  have hb4 : Below w3.heap.size w3 w4 := by rw [← hw4]; exact ((Below.refl _ w3).alloc (Nat.le_refl _) _).drew
  have hM4 := hM3.later hb4
  have hf4 := hM4.h x y e hx hy (by have := HPE.out; omega)
  rw [HFE.out] at hf4
  have hA6 : Hid (∀ j u, ([.int .i64 a, .int .i64 b] : List Value)[j]? = some u → ((w3.alloc (.cells #[.int .i64 a, .int .i64 b] 31)).drew).cell? ((⟨w3.heap.size, 0, none⟩ : Addr).add j) = some u) := fun j u hj => cells_new9 w3 [.int .i64 a, .int .i64 b] 31 j u hj
  have HO : Hid ((w3.alloc (.cells #[.int .i64 a, .int .i64 b] 31)).drew.ownsRow base 31 2 (.slice f.q f.l f.c) f.l (cellsF (thF f.k) (f.l * 2))) := by rw [hw4]; exact hf4
  have HM4 := mhid (And.intro hM4 (And.intro hb4 hw4))
  have HBB : Hid (base ≤ w3.heap.size) := by have h1 := HB.out.1.size; have h2 := HB.out.2.2; have h3 := HBASE.out; show base ≤ w3.heap.size; omega
  have HPE2 : Hid (e < 2) := by have := HPE.out; show e < 2; omega
  have HAF : Hid (∀ (v' : Value) (w6 : World), w6.ownsRow base 31 2 v' (f.l + 1) (cellsF (thF f.k) (f.l * 2) ++ [.int .i64 a, .int .i64 b]) → w4.grownBy w6 (Value.slice f.q f.l f.c).ownBlock → (v'.ownBlock = (Value.slice f.q f.l f.c).ownBlock ∨ v'.ownBlock = some w4.heap.size) → ∃ q c, v' = .slice q (f.l + 1) c ∧ w6.cell? ⟨R x, y * 2 + e, none⟩ = some (.slice f.q f.l f.c) ∧ w6.frozen? ⟨R x, y * 2 + e, none⟩ = false ∧ MP Fo (w6.setCell ⟨R x, y * 2 + e, none⟩ (.slice q (f.l + 1) c)) base hb wb bb n room cmp R ph fl (setHf H x y e (more f q c a b)) ∧ Below base w4 (w6.setCell ⟨R x, y * 2 + e, none⟩ (.slice q (f.l + 1) c))) := fun v' w6 g1 g2 g3 => by
    have ho : Own w6 base 31 2 v' (f.l + 1) (thF fun i => if i = f.l then (a, b) else f.k i) := (own_of_row g1).congr (thF_app f.k f.l a b _ rfl)
    obtain ⟨q, c, rfl⟩ : ∃ q c, v' = .slice q (f.l + 1) c := by
      rcases ho.form with ⟨_, h8⟩ | ⟨g6, c6, h8, _⟩
      · omega
      · exact ⟨_, _, h8⟩
    have hg : w4.grownBy w6 (H x y e).v.ownBlock := by rw [HFE.out]; exact g2
    have hrx := (HM4.out.1.r x hx).keptBy hg fun k hk e2 => (HM4.out.1.r x hx).clash (HM4.out.1.h x y e hx hy HPE2.out) (by decide) hk e2
    refine ⟨q, c, rfl, ?_, ?_, ?_, ?_⟩
    · have := hrx.cell (j := y * 2 + e) (by have := HPE2.out; omega)
      unfold bxF at this
      rw [show (y * 2 + e) / 2 = y by have := HPE2.out; omega, show (y * 2 + e) % 2 = e by have := HPE2.out; omega, HFE.out] at this
      exact this
    · obtain ⟨cr, hcr, _⟩ := hrx.block
      exact frz hcr _
    · refine HM4.out.1.setH x y e hx hy HPE2.out hg (more f q c a b) ho ?_ (by have := HL.out; unfold more; show f.l + 1 ≤ 1024; omega)
      rw [HFE.out]
      rcases g3 with g3 | g3
      · exact .inl g3
      · exact .inr ⟨_, g3, Nat.le_refl _⟩
    · refine Below.setCell (p := ⟨R x, y * 2 + e, none⟩) ?_ (Own.lt hrx (R x) rfl).1 _
      exact (Below.refl base w4).grown g2 (Nat.le_trans HBB.out HM4.out.2.1.size) fun k hk => (by have := hf4.lt k hk; exact this.1)
  clear hw3 hs1 hb1 hb3 hM3 hM4 hb4 hf4 hw4 HN c0 c1 c2 c3 y0 y1 y2 u0 u1 HE HK
  go_region_law (refine step_app9 rfl (.tmp 57) (.tmp 59) 76 rfl base 31 iT _ 2 16 Try.underlying76 hT1 hT2 hT3 hT4 rfl (by decide) (.slice f.q f.l f.c) f.l _ (by simp [Act.eval]) HO.out ⟨w3.heap.size, 0, none⟩ 1 1 [.int .i64 a, .int .i64 b] (by simp [Act.eval]) rfl hA6.out (by simp [Value.oneCell']) (by have := HL.out; unfold maxLen; omega) (by have := HL.out; omega) (by show base ≤ (World.alloc w3 _).heap.size; rw [World.size_alloc]; exact Nat.le_succ_of_le HBB.out) ?_; intro v' w6 hown' hgrow hat; rw [HM4.out.2.2] at hgrow hat; obtain ⟨q6, c6, rfl, n0, nf, m6, b6⟩ := HAF.out v' w6 hown' hgrow hat; have HF6 := mhid (And.intro m6 b6); clear m6 b6 hown' hgrow hat)
  all_goals
    go_wp2
    go_ret
    obtain ⟨p1, p2, p3⟩ := HB.out
    refine ⟨rfl, ⟨q6, c6, HF6.out.1⟩, ?_⟩
    have := HBASE.out
    exact (((p2.mono HBASE.out).trans (p1.mono (by omega))).trans (HM4.out.2.1.mono HBB.out)).trans HF6.out.2
end Go.Proofs.Ytkfjcbnhohipgaa
