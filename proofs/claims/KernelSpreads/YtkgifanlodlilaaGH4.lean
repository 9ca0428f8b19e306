import Derived.Test.YtkgifanlodlilaaGH3
import Derived.Test.YtkgifanlodlilaaSI8
import Derived.Deep.RegionLaw
import Derived.Deep.RegionHeld3
import Derived.Deep.Cut
import Derived.Deep.DeepCutAuto
import Derived.Deep.CutBlock
import Derived.Deep.CutRange
import Derived.BigQuiet
import Derived.Handy
namespace Go.Proofs.Ytkgifanlodlilaa
open Go.ChangeShapes Go.WideShapes Go.ChangeAt Go.RowKit
set_option linter.unusedVariables false
set_option linter.unusedSimpArgs false


def cmpG (x y : Int) : Int := if x < y then -1 else if y < x then 1 else 0
set_option maxRecDepth 100000 in
theorem isNaN_any (x : Int) (w : World) : Calls Try.prog 57 #[.int .i64 x] w fun e w' => e = .returned (.bool false) ∧ w' = w := by
  have hx : (x != x) = false := by simp
  go_enter Try.func57, Try.ntmps57
  go_wp2_with fail
  go_ret
  exact ⟨rfl, rfl⟩
set_option maxRecDepth 100000 in
theorem ccmp_any (x y : Int) (w : World) : Calls Try.prog 45 #[.int .i64 x, .int .i64 y] w fun e w' => e = .returned (.int .i64 (cmpG x y)) ∧ w' = w := by
  have HI := isNaN_any
  unfold cmpG
  by_cases h1 : x < y
  · have d1 : decide (x < y) = true := by simpa using h1
    rw [if_pos h1]
    go_enter Try.func45, Try.ntmps45
    go_wp2_with (go_at_call 57; (with_reducible refine (HI _ _).mono ?_); rintro e w1 ⟨rfl, hw1⟩; subst w1)
    go_ret
    exact ⟨rfl, rfl⟩
  · have d1 : decide (x < y) = false := by simpa using h1
    rw [if_neg h1]
    by_cases h2 : y < x
    · have d2 : decide (y < x) = true := by simpa using h2
      rw [if_pos h2]
      go_enter Try.func45, Try.ntmps45
      go_wp2_with (go_at_call 57; (with_reducible refine (HI _ _).mono ?_); rintro e w1 ⟨rfl, hw1⟩; subst w1)
      go_ret
      exact ⟨rfl, rfl⟩
    · have d2 : decide (y < x) = false := by simpa using h2
      rw [if_neg h2]
      go_enter Try.func45, Try.ntmps45
      go_wp2_with (go_at_call 57; (with_reducible refine (HI _ _).mono ?_); rintro e w1 ⟨rfl, hw1⟩; subst w1)
      go_ret
      exact ⟨rfl, rfl⟩
set_option maxRecDepth 100000 in
theorem hcmp_any (bw : Nat) (q : Option Addr) (n c : Nat) (K : Nat → Int) (x y : Nat) (hx : x < n) (hy : y < n) (W : World) (hb : W.cell? ⟨bw, 0, none⟩ = some (.slice q n c)) (hK : KAt W q n K) : Calls Try.prog 44 #[.int .i64 (x : Int), .int .i64 (y : Int), .pointer (some ⟨bw, 0, none⟩)] W fun e w' => e = .returned (.int .i64 (cmpG (K y) (K x))) ∧ Below W.heap.size W w' := by
  obtain hz | ⟨g, o, rfl, hl, hc⟩ := hK
  · omega
  have x0 := hc x hx
  have y0 := hc y hy
  have i0 : (0 : Int) ≤ (x : Int) := by omega
  have i1 : (x : Int) < (n : Int) := by omega
  have j0 : (0 : Int) ≤ (y : Int) := by omega
  have j1 : (y : Int) < (n : Int) := by omega
  have HC := fun w' => ccmp_any (K y) (K x) w'
  generalize cmpG (K y) (K x) = r at *
  clear hc
  go_enter Try.func44, Try.ntmps44
  go_wp2_with fail
  go_quiet ((go_at_call 45; refine Calls.quiet_of_same (HC _)))
  go_wp2_with fail
  go_ret
  exact ⟨rfl, below_drewNq _ _ _⟩
theorem fill_next (i : Nat) {n : Nat} : ∀ j, j < n → setF (fun j => if j < i then (j : Int) else 0) i (i : Int) j = (fun j => if j < i + 1 then (j : Int) else 0) j := fun j _ => by
  unfold setF
  show (if j = i then (i : Int) else if j < i then (j : Int) else 0) = if j < i + 1 then (j : Int) else 0
  by_cases e : j = i
  · subst e; rw [if_pos rfl, if_pos (by omega)]
  · rw [if_neg e]
    by_cases e2 : j < i
    · rw [if_pos e2, if_pos (by omega)]
    · rw [if_neg e2, if_neg (by omega)]
/-- a part's number, as it lies in the row that is sorted -/
structure PIx (n : Nat) where
  v : Nat
  h : n = 0 ∨ v < n
def pix0 (n i : Nat) : PIx n := if h : i < n then ⟨i, .inr h⟩ else ⟨0, by omega⟩
theorem pix0_v {n i : Nat} (h : i < n) : (pix0 n i).v = i := by unfold pix0; rw [dif_pos h]
def kcW (n : Nat) (K : Nat → Int) (x y : PIx n) : Int := cmpG (K y.v) (K x.v)
theorem kcW_lt {n : Nat} {K : Nat → Int} {x y : PIx n} : SI.klt (kcW n K) x y = true ↔ K y.v < K x.v := by
  unfold SI.klt kcW cmpG
  rw [decide_eq_true_iff]
  split
  · omega
  · split <;> omega
theorem kcW_not {n : Nat} {K : Nat → Int} {x y : PIx n} : SI.klt (kcW n K) x y = false ↔ ¬ K y.v < K x.v := by
  rw [← kcW_lt]
  simp
theorem kcW_ord (n : Nat) (K : Nat → Int) : SOrd (SI.klt (kcW n K)) where
  irr x := by rw [kcW_not]; omega
  tr x y z h1 h2 := by rw [kcW_lt] at *; omega
  ntr x y z h1 h2 := by rw [kcW_not] at *; omega
/-- all numbers below n, each once; the heaviest first, of equal ones the smaller number -/
structure Hvy (n : Nat) (K : Nat → Int) (d : Nat → Nat) : Prop where
  lt : ∀ i, i < n → d i < n
  inj : ∀ i j, i < n → j < n → d i = d j → i = j
  inv : ∀ k, k < n → ∃ i, i < n ∧ d i = k
  srt : ∀ i j, i < j → j < n → K (d j) < K (d i) ∨ (K (d j) = K (d i) ∧ d i < d j)
theorem hvy_of {n : Nat} {K : Nat → Int} {d : Nat → PIx n} (hs : Stb (SI.klt (kcW n K)) 0 n (pix0 n) d) (hr : Srt (SI.klt (kcW n K)) 0 n d) : Hvy n K (fun i => (d i).v) := by
  obtain ⟨f, g, h⟩ := hs
  have hv : ∀ i, i < n → (d i).v = f i := fun i hi => by rw [h.val, pix0_v (h.inr i (Nat.zero_le _) hi).2]
  refine ⟨fun i hi => by rw [hv i hi]; exact (h.inr i (Nat.zero_le _) hi).2, fun i j hi hj e => ?_, fun k hk => ?_, fun i j hij hj => ?_⟩
  · have e' : f i = f j := by rw [← hv i hi, ← hv j hj]; exact e
    rw [← h.li i, e', h.li]
  · have hg : g k < n := by
      by_cases hgn : g k < n
      · exact hgn
      · have h1 := h.out (g k) (by omega)
        rw [h.ri] at h1
        omega
    exact ⟨g k, hg, by show (d (g k)).v = k; rw [hv _ hg, h.ri]⟩
  · have h1 := hr i j (Nat.zero_le _) hij hj
    rw [kcW_not] at h1
    rcases h.st i j hij with h2 | h2
    · rw [← hv i (by omega), ← hv j hj] at h2
      show K (d j).v < K (d i).v ∨ (K (d j).v = K (d i).v ∧ (d i).v < (d j).v)
      omega
    · rw [kcW_lt] at h2
      exact .inl h2
set_option maxRecDepth 100000 in
set_option maxHeartbeats 2000000 in
theorem heaviest_any (q : Option Addr) (n c : Nat) (K : Nat → Int) (hn : n ≤ 64) (w : World) (hK : KAt w q n K) : Calls Try.prog 34 #[.slice q n c] w fun e w' => ∃ (g : Nat) (d : Nat → Nat), e = .returned (.slice (some ⟨g, 0, none⟩) n n) ∧ IRow w' w.heap.size g n n (fun i => (d i : Int)) ∧ Hvy n K d ∧ Below w.heap.size w w' := by
  obtain ⟨wb, hwb⟩ : ∃ wb, w.alloc (.cells #[.slice q n c] 28) = wb := ⟨_, rfl⟩
  obtain ⟨hb0, hbox, hsz⟩ := boxed _ _ _ hwb
  have HW : Hid (w.alloc (.cells #[.slice q n c] 28) = wb) := hwb
  have c0 : wb.cell? ⟨w.heap.size, 0, none⟩ = some (.slice q n c) := cell_row (cur := [.slice q n c]) hbox rfl
  obtain ⟨i5, hi5, hz0, hz1, hz2⟩ := info_parts infoInt1
  have hrun := fun W => run_make_row (P := Try.prog) 28 3 i5 (.int .i64 0) Try.underlying28 hi5 hz0 hz1 rfl .i64 .i64 n (by rw [hz2]; omega) (by omega) W
  have HB : Hid (wb.heap[w.heap.size]? = some (.cells #[.slice q n c] 28 (0, 0)) ∧ Below w.heap.size w wb ∧ wb.heap.size = w.heap.size + 1 ∧ KAt w q n K) := ⟨hbox, hb0, hsz, hK⟩
  obtain ⟨wm, hwm⟩ : ∃ wm, wb.alloc (.cells (madeCells #[Value.int .i64 0] n) 3) = wm := ⟨_, rfl⟩
  have HM : Hid (wb.alloc (.cells (madeCells #[Value.int .i64 0] n) 3) = wm) := hwm
  have hr0 : IRow wm wb.heap.size wb.heap.size n n (fun _ => 0) := by
    rw [← hwm]
    refine IRow.mk0 (cur := onesL 0 n) (by rw [World.alloc_heap_new, made_ones]) (onesL_len (Nat.zero_le _)) (by unfold maxLen; omega) (Nat.le_refl _) fun i hi => ?_
    unfold onesL
    simp [hi]
  rw [show wb.heap.size = w.heap.size + 1 from hsz] at hr0
  have hbm : Below wb.heap.size wb wm := by rw [← hwm]; exact (Below.refl _ wb).alloc (Nat.le_refl _) _
  have HR0 : Hid (IRow wm (w.heap.size + 1) (w.heap.size + 1) n n (fun _ => 0) ∧ Below wb.heap.size wb wm) := ⟨hr0, hbm⟩
  rw [← hwb] at c0
  clear hwb hwm hb0 hbox hsz hK hi5 hz0 hz1 hz2 hr0 hbm
  go_enter Try.func34, Try.ntmps34
  go_wp2_with fail
  rw [HW.out, HM.out]
  clear c0 hrun
  obtain ⟨g, hg⟩ : ∃ g, w.heap.size + 1 = g := ⟨_, rfl⟩
  have HGG : Hid (w.heap.size + 1 = g) := hg
  have HR1 : Hid (IRow wm g g n n (fun _ => 0) ∧ Below wb.heap.size wb wm) := by have := HR0.out; rw [hg] at this; exact this
  rw [hg]
  clear HR0 hg
  go_loopw [10] (fun y wr => ∃ (i : Nat), y = .int .i64 (i : Int) ∧ i ≤ n ∧ IRow wr g g n n (fun j => if j < i then (j : Int) else 0) ∧ Below wb.heap.size wb wr) (fun y _ => n - (intOf y).toNat)
  case atStart => exact ⟨0, rfl, Nat.zero_le _, HR1.out.1.congr fun j hj => by rw [if_neg (by omega)], HR1.out.2⟩
  case round =>
    obtain ⟨i, rfl, hi, hr, hbr⟩ := hrel
    clear HR1
    by_cases hlt : i < n
    · have dlt : decide ((i : Int) < (n : Int)) = true := by simp; omega
      have hm := gmeas hlt
      have ei : IntKind.i64.wrap ((i : Int) + 1) = (i : Int) + 1 := by rw [IntKind.wrap_i64]; omega
      have i0 : (0 : Int) ≤ (i : Int) := by omega
      have i1 : (i : Int) < (n : Int) := by omega
      have y0 := hr.cell hlt
      have fz := hr.fz
      have hput := (hr.put i (i : Int)).congr (fill_next i)
      have HP : Hid (IRow (wr.setCell ⟨g, i, none⟩ (.int .i64 (i : Int))) g g n n (fun j => if j < i + 1 then (j : Int) else 0) ∧ Below wb.heap.size wb (wr.setCell ⟨g, i, none⟩ (.int .i64 (i : Int)))) := ⟨hput, hbr.setCell (by have h1 := HB.out.2.2.1; have h2 := HGG.out; show wb.heap.size ≤ g; omega) _⟩
      clear hr hbr hput
      go_wp2_with fail
      exact ⟨⟨i + 1, rfl, hlt, HP.out.1, HP.out.2⟩, hm⟩
    · have dlt : decide ((i : Int) < (n : Int)) = false := by simp; omega
      obtain rfl : i = n := by omega
      have hrow : SI.SRow (fun x : PIx i => (x.v : Int)) wr g g i i (pix0 i) := hr.congr fun j hj => by show (if j < i then (j : Int) else 0) = ((pix0 i j).v : Int); rw [if_pos hj, pix0_v hj]
      have hcm : SI.CmpOk (fun x : PIx i => (x.v : Int)) (kcW i K) (.pointer (some ⟨w.heap.size, 0, none⟩)) i g wr := fun h0 x y W' hk => by
        have h1 := HB.out.2.2.1
        have h2 := HGG.out
        have hb9 : Below wb.heap.size wb W' := hbr.trans (hk.toBelow hbr.size (by omega))
        exact hcmp_any w.heap.size q i c K x.v y.v (by have := x.h; omega) (by have := y.h; omega) W' (cell_row (cur := [.slice q i c]) ((hb9.block _ (by omega)).trans HB.out.1) rfl) ((HB.out.2.2.2.below HB.out.2.1).below hb9)
      have HS := SI.sortS_any (kcW_ord i K) (by omega) wr hrow hcm
      have HZ : Hid (Below wb.heap.size wb wr) := hbr
      clear hr hbr hrow hcm
      go_wp2_with (go_at_call 43; (with_reducible refine HS.mono ?_); rintro e9 w2 ⟨rfl, d, h5, h6, h7, h8⟩; have H2 : Hid (SI.SRow (fun x : PIx i => (x.v : Int)) w2 g g i i d ∧ Stb (SI.klt (kcW i K)) 0 i (pix0 i) d ∧ Srt (SI.klt (kcW i K)) 0 i d ∧ SI.Kp g wr w2) := ⟨h5, h6, h7, h8⟩; clear h5 h6 h7 h8)
      go_ret
      have h1 := HB.out.2.2.1
      have h2 := HGG.out
      have hb9 : Below wb.heap.size wb w2 := HZ.out.trans (H2.out.2.2.2.toBelow HZ.out.size (by omega))
      refine ⟨g, fun i => (d i).v, rfl, IRow.lower H2.out.1 (by omega), hvy_of H2.out.2.1 H2.out.2.2.1, HB.out.2.1.trans (hb9.mono HB.out.2.1.size)⟩
end Go.Proofs.Ytkgifanlodlilaa
