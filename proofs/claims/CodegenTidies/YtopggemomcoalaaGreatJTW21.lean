import Derived.Test.YtopggemomcoalaaGreatJTW18
import Derived.Test.YtopggemomcoalaaGreatJVB
import Derived.Deep.LoopGhost
import Derived.Deep.DeepCutAuto
import Derived.Test.YtopggemomcoalaaGreatJTY7
import Derived.Test.YtopggemomcoalaaGreatJV17
import Derived.Deep.QuietTactic
namespace Go.Proofs.YtopggemomcoalaaGreat
open Go.ChangeShapes Go.WideShapes Go.ChangeAt Go.RowKit
set_option linter.unusedVariables false
set_option linter.unusedSimpArgs false

/-! ### Tidy: rounds until one changes nothing -/
noncomputable def rndI (P : Pg) : Nat → Pg
  | 0 => P
  | k + 1 => rndP R2f R1f (rndI P k)
def Tid (P Q : Pg) : Prop := ∃ k, Q = rndI P (k + 1) ∧ PEq (rndI P k) (rndI P (k + 1)) ∧ ∀ j, j < k → ¬ PEq (rndI P j) (rndI P (j + 1))
theorem rndI_vf {P : Pg} {L : Nat → Int} (v : Vf P L) (ha : A64 P) : ∀ k, (∃ L', Vf (rndI P k) L') ∧ A64 (rndI P k) ∧ SgE P (rndI P k) ∧ (rndI P k).n ≤ P.n ∧ (rndI P k).words = P.words ∧ (rndI P k).locals = P.locals
  | 0 => ⟨⟨L, v⟩, ha, ⟨rfl, fun _ _ => Iff.rfl⟩, Nat.le_refl _, rfl, rfl⟩
  | k + 1 => by
    obtain ⟨⟨L', v'⟩, a', s', n', w', l'⟩ := rndI_vf v ha k
    have R := rnd_any R2f R1f v'
    obtain ⟨L2, v2, _⟩ := R.vf
    exact ⟨⟨L2, v2⟩, rnd_a64 v' a', s'.trans R.sg, Nat.le_trans R.n.1 n', R.n.2.1.trans w', R.n.2.2.trans l'⟩
/-- what Tidy ends with -/
theorem Tid.done {P Q : Pg} {L : Nat → Int} (v : Vf P L) (ha : A64 P) (h : Tid P Q) : (∃ L', Vf Q L' ∧ Full Q L') ∧ A64 Q ∧ SgE P Q ∧ Q.n ≤ P.n ∧ Q.words = P.words ∧ Q.locals = P.locals ∧ Tdy R2f R1f Q ∧ PEq (leadP Q (endP Q)) Q := by
  obtain ⟨k, rfl, hp, _⟩ := h
  obtain ⟨⟨L', v'⟩, a', s', n', w', l'⟩ := rndI_vf v ha k
  have R := rnd_any R2f R1f v'
  obtain ⟨h1, h2⟩ := rnd_done R2f R1f v' hp.symm
  exact ⟨R.vf, rnd_a64 v' a', s'.trans R.sg, Nat.le_trans R.n.1 n', R.n.2.1.trans w', R.n.2.2.trans l', h1, h2⟩
theorem sinfoT {i? : Option TypeInfo} {z : Value} {s b : Nat} (h : i?.map (fun i => (i.zero, i.size, i.bytes)) = some (some z, s, b)) : ∃ i, i? = some i ∧ i.zero = some z := by
  cases i? with
  | none => cases h
  | some i =>
    simp only [Option.map_some, Option.some.injEq, Prod.mk.injEq] at h
    exact ⟨i, rfl, h.1⟩
theorem infoTd : (Tryz.prog.info? 67).map (fun i => (i.zero, i.size, i.bytes)) = some (some (.agg #[.int .i64 0, .int .i64 0, .slice none 0 0, .slice none 0 0]), 4, 64) := by kernel_rfl
theorem cellT {W : World} {b : Nat} {cs : Array Value} {t : TypeId} (h : W.heap[b]? = some (.cells cs t (0, 0))) {o : Nat} {v : Value} (ho : cs[o]? = some v) : W.cell? ⟨b, o, none⟩ = some v := by
  unfold World.cell?; rw [h]; exact ho
variable {P : Pg} {cp ep : Option Addr} {cc ec : Nat}
/-- the tidier's box with its clones -/
def TB (wb w : World) (tb : Nat) (P : Pg) (qc qe : Option Addr) (c1 c2 : Nat) : Prop := TD (fun _ => False) (fun _ => none) w wb.heap.size tb P qc qe c1 c2
theorem tb_of {wb w w1 w2 : World} {tb b1 b2 : Nat} {qc qe : Option Addr} {c1 c2 : Nat} (hx : w.heap[tb]? = some (.cells #[.int .i64 P.words, .int .i64 P.locals, .slice qc P.n c1, .slice qe P.m c2] 67 (0, 0))) (hl : wb.heap.size ≤ tb) (h1 : Own w1 b1 36 3 (.slice qc P.n c1) P.n (inC P.op P.a P.b)) (l1 : wb.heap.size ≤ b1) (k1 : ∀ k, k < w1.heap.size → k ≠ tb → w.heap[k]? = w1.heap[k]?) (f1 : tb < b1 ∨ w1.heap.size ≤ tb) (h2 : Own w2 b2 3 1 (.slice qe P.m c2) P.m (iv P.en)) (l2 : wb.heap.size ≤ b2) (k2 : ∀ k, k < w2.heap.size → k ≠ tb → w.heap[k]? = w2.heap[k]?) (f2 : tb < b2 ∨ w2.heap.size ≤ tb) : TB wb w tb P qc qe c1 c2 := by
  refine ⟨hx, (h1.far fun k hk => ?_).low l1, (h2.far fun k hk => ?_).low l2, hl, fun j hj => hj.elim, fun hj => hj, fun _ _ _ hj => hj, fun _ _ _ hj => hj⟩
  · have := h1.lt k hk
    exact k1 k this.2 (by omega)
  · have := h2.lt k hk
    exact k2 k this.2 (by omega)
theorem iat_cin {W : World} {q : Option Addr} {n : Nat} {op a b : Nat → Int} (h : IAt W q n op a b) : CIn W q n 3 (inC op a b) := by
  rcases h with h | ⟨g, o, h1, h2, h3⟩
  · exact .inl h
  · refine .inr ⟨g, o, h1, h2, fun j hj => ?_⟩
    obtain ⟨a1, a2, a3⟩ := h3 (j / 3) (by omega)
    rcases (by omega : j = j / 3 * 3 ∨ j = j / 3 * 3 + 1 ∨ j = j / 3 * 3 + 2) with e | e | e
    · rw [e, inC0]; exact a1
    · rw [e, inC1, ← Nat.add_assoc]; exact a2
    · rw [e, inC2, ← Nat.add_assoc]; exact a3
theorem kat_cin {W : World} {q : Option Addr} {n : Nat} {K : Nat → Int} (h : KAt W q n K) : CIn W q n 1 (iv K) := by
  rcases h with h | ⟨g, o, h1, h2, h3⟩
  · exact .inl h
  · exact .inr ⟨g, o, h1, h2, fun j hj => h3 j (by omega)⟩
theorem k_alloc {w0 w1 w : World} {tb : Nat} (h : ∀ k, k < w1.heap.size → k ≠ tb → w.heap[k]? = w1.heap[k]?) (hs : w1.heap.size ≤ w.heap.size) (hb : Below w.heap.size w w0) : ∀ k, k < w1.heap.size → k ≠ tb → w0.heap[k]? = w1.heap[k]? := fun k h1 h2 => (hb.block k (by omega)).trans (h k h1 h2)
theorem put4 {W : World} {b : Nat} {o0 o1 o2 o3 : Value} {t : TypeId} (h : W.heap[b]? = some (.cells #[o0, o1, o2, o3] t (0, 0))) (v0 v1 v2 v3 : Value) : ((((W.setCell ⟨b, 0, none⟩ v0).setCell ⟨b, 1, none⟩ v1).setCell ⟨b, 2, none⟩ v2).setCell ⟨b, 3, none⟩ v3).heap[b]? = some (.cells #[v0, v1, v2, v3] t (0, 0)) := by
  have one : ∀ {W : World} {cs : Array Value} (k : Nat) (v : Value), W.heap[b]? = some (.cells cs t (0, 0)) → (W.setCell ⟨b, k, none⟩ v).heap[b]? = some (.cells (cs.setIfInBounds k v) t (0, 0)) := fun {W} {cs} k v h => by
    obtain ⟨hlt, hk⟩ := Array.getElem?_eq_some_iff.1 h
    show (W.heap.modify b _)[b]? = _
    rw [Array.getElem?_eq_getElem (by rw [Array.size_modify]; exact hlt), Array.getElem_modify_self, hk]
    rfl
  exact one 3 v3 (one 2 v2 (one 1 v1 (one 0 v0 h)))
theorem far4 {W : World} {b : Nat} {v0 v1 v2 v3 : Value} (k : Nat) (hk : k ≠ b) : ((((W.setCell ⟨b, 0, none⟩ v0).setCell ⟨b, 1, none⟩ v1).setCell ⟨b, 2, none⟩ v2).setCell ⟨b, 3, none⟩ v3).heap[k]? = W.heap[k]? := by
  rw [Below.heap_setCell _ _ _ _ hk, Below.heap_setCell _ _ _ _ hk, Below.heap_setCell _ _ _ _ hk, Below.heap_setCell _ _ _ _ hk]
/-- what Tidy answers of a program that passes -/
def TdA (P : Pg) (W W' : World) (e : Ending) : Prop := ∃ Q lp lc lq lx, e = .returned (.tuple #[.agg #[.int .i64 Q.words, .int .i64 Q.locals, .slice lp Q.n lc, .slice lq Q.m lx], .int .i64 0]) ∧ Tid P Q ∧ Own W' W.heap.size 36 3 (.slice lp Q.n lc) Q.n (inC Q.op Q.a Q.b) ∧ Own W' W.heap.size 3 1 (.slice lq Q.m lx) Q.m (iv Q.en) ∧ Below W.heap.size W W'
set_option maxRecDepth 100000 in
set_option maxHeartbeats 8000000 in
theorem tidy_bad (W : World) (kinds : Int) (hI : IAt W cp P.n P.op P.a P.b) (hE : KAt W ep P.m P.en) (hc : dcode P kinds ≠ 0) :
    Calls Tryz.prog 6 #[.agg #[.int .i64 P.words, .int .i64 P.locals, .slice cp P.n cc, .slice ep P.m ec], .int .i64 kinds] W fun e W' => e = .returned (.tuple #[.agg #[.int .i64 0, .int .i64 0, .slice none 0 0, .slice none 0 0], .int .i64 (dcode P kinds)]) ∧ Below W.heap.size W W' := by
  have HC : Hid (∀ w, Below W.heap.size W w → Calls Tryz.prog 17 #[.agg #[.int .i64 P.words, .int .i64 P.locals, .slice cp P.n cc, .slice ep P.m ec], .int .i64 kinds] w fun e w' => e = .returned (.int .i64 (dcode P kinds)) ∧ Below w.heap.size w w') := tmh fun w hw => verify_any P ⟨cp, cc, ep, ec⟩ kinds w (hI.below hw) (hE.below hw)
  generalize dcode P kinds = d at hc HC ⊢
  have hd : decide (d = 0) = false := decide_eq_false hc
  have hd2 : (d != 0) = true := by simp [hc]
  clear hI hE
  obtain ⟨wp, hwp⟩ : ∃ wp, W.alloc (.cells #[.int .i64 P.words, .int .i64 P.locals, .slice cp P.n cc, .slice ep P.m ec] 25) = wp := ⟨_, rfl⟩
  obtain ⟨hbp, hpx, hpz⟩ := boxed _ _ _ hwp
  obtain ⟨wb, hwb⟩ : ∃ wb, wp.alloc (.cells #[.int .i64 0, .int .i64 0, .slice none 0 0, .slice none 0 0] 25) = wb := ⟨_, rfl⟩
  obtain ⟨hbb, hbx, hbz⟩ := boxed _ _ _ hwb
  rw [hpz] at hbx
  have hWb : Below W.heap.size W wb := hbp.trans (hbb.mono hbp.size)
  have HW : Hid (W.alloc (.cells #[.int .i64 P.words, .int .i64 P.locals, .slice cp P.n cc, .slice ep P.m ec] 25) = wp ∧ wp.alloc (.cells #[.int .i64 0, .int .i64 0, .slice none 0 0, .slice none 0 0] 25) = wb) := tmh ⟨hwp, hwb⟩
  have hpb : wb.heap[W.heap.size]? = _ := (hbb.block W.heap.size (by omega)).trans hpx
  have HX := tmh (And.intro hpb (And.intro hbx hWb))
  have y0 := cellT hpb (o := 0) rfl
  have y1 := cellT hpb (o := 1) rfl
  have y2 := cellT hpb (o := 2) rfl
  have y3 := cellT hpb (o := 3) rfl
  have HZ := tmh hpz
  clear hwp hbp hpx hpz hwb hbb hbx hbz hpb hWb
  go_enter Tryz.func6, Tryz.ntmps6
  go_upto_region 1 with fail
  rw [HW.out.1, HW.out.2]
  go_upto_region 2 with (go_at_call 17; (with_reducible refine (HC.out _ HX.out.2.2).mono ?_); rintro e w1 ⟨rfl, b1⟩)
  have hr1 := (b1.block _ (lt_of_block HX.out.2.1)).trans HX.out.2.1
  have hfr := fun k9 => frz hr1 k9
  have z0 := cellT hr1 (o := 0) rfl
  have z1 := cellT hr1 (o := 1) rfl
  have z2 := cellT hr1 (o := 2) rfl
  have z3 := cellT hr1 (o := 3) rfl
  have hb1 : Below W.heap.size W w1 := HX.out.2.2.trans (b1.mono HX.out.2.2.size)
  have H1 := tmh (And.intro hr1 (And.intro hb1 HX.out.2.2))
  clear b1 hr1 hb1 y0 y1 y2 y3
  go_wp2_with fail
  generalize hWF : World.setCell (World.setCell (World.setCell (World.setCell w1 _ _) _ _) _ _) _ _ = wF
  have hres : wF.heap[W.heap.size + 1]? = some (.cells #[.int .i64 0, .int .i64 0, .slice none 0 0, .slice none 0 0] 25 (0, 0)) := hWF ▸ put4 H1.out.1 _ _ _ _
  have hbF : Below W.heap.size W wF := by
    rw [← hWF]
    exact (((H1.out.2.1.setCell (p := ⟨W.heap.size + 1, 0, none⟩) (Nat.le_succ _) _).setCell (p := ⟨W.heap.size + 1, 1, none⟩) (Nat.le_succ _) _).setCell (p := ⟨W.heap.size + 1, 2, none⟩) (Nat.le_succ _) _).setCell (p := ⟨W.heap.size + 1, 3, none⟩) (Nat.le_succ _) _
  clear hWF z0 z1 z2 z3 hfr
  have z0 := cellT hres (o := 0) rfl
  have z1 := cellT hres (o := 1) rfl
  have z2 := cellT hres (o := 2) rfl
  have z3 := cellT hres (o := 3) rfl
  refine bodyPost_ret (v := .tuple #[.agg #[.int .i64 0, .int .i64 0, .slice none 0 0, .slice none 0 0], .int .i64 d]) (by simp [results, Tryz.results6, go_sem, z0, z1, z2, z3]; try rfl) rfl ?_
  exact ⟨rfl, hbF⟩
set_option maxRecDepth 100000 in
set_option maxHeartbeats 16000000 in
theorem tidy_good (W : World) (hI : IAt W cp P.n P.op P.a P.b) (hE : KAt W ep P.m P.en) (ha : A64 P) (hc : dcode P P.m = 0) :
    Calls Tryz.prog 6 #[.agg #[.int .i64 P.words, .int .i64 P.locals, .slice cp P.n cc, .slice ep P.m ec], .int .i64 (P.m : Int)] W fun e W' => TdA P W W' e := by
  obtain ⟨_, v⟩ := vf_of hc
  have hn := v.sz
  have HV := tmh (And.intro v ha)
  have HC : Hid (∀ w, Below W.heap.size W w → Calls Tryz.prog 17 #[.agg #[.int .i64 P.words, .int .i64 P.locals, .slice cp P.n cc, .slice ep P.m ec], .int .i64 (P.m : Int)] w fun e w' => e = .returned (.int .i64 0) ∧ Below w.heap.size w w') := tmh fun w hw => by
    have h := verify_any P ⟨cp, cc, ep, ec⟩ P.m w (hI.below hw) (hE.below hw)
    rw [hc] at h
    exact h
  have HI := tmh (And.intro hI hE)
  clear hI hE v ha hc
  obtain ⟨wp, hwp⟩ : ∃ wp, W.alloc (.cells #[.int .i64 P.words, .int .i64 P.locals, .slice cp P.n cc, .slice ep P.m ec] 25) = wp := ⟨_, rfl⟩
  obtain ⟨hbp, hpx, hpz⟩ := boxed _ _ _ hwp
  obtain ⟨wa, hwa⟩ : ∃ wa, wp.alloc (.cells #[.int .i64 0, .int .i64 0, .slice none 0 0, .slice none 0 0] 25) = wa := ⟨_, rfl⟩
  obtain ⟨hba, hbx, hbz⟩ := boxed _ _ _ hwa
  rw [hpz] at hbx
  have hWa : Below W.heap.size W wa := hbp.trans (hba.mono hbp.size)
  have HW : Hid (W.alloc (.cells #[.int .i64 P.words, .int .i64 P.locals, .slice cp P.n cc, .slice ep P.m ec] 25) = wp ∧ wp.alloc (.cells #[.int .i64 0, .int .i64 0, .slice none 0 0, .slice none 0 0] 25) = wa) := tmh ⟨hwp, hwa⟩
  have hpb : wa.heap[W.heap.size]? = _ := (hba.block W.heap.size (by omega)).trans hpx
  have HX := tmh (And.intro hpb (And.intro hbx hWa))
  have y0 := cellT hpb (o := 0) rfl
  have y1 := cellT hpb (o := 1) rfl
  have y2 := cellT hpb (o := 2) rfl
  have y3 := cellT hpb (o := 3) rfl
  have HZ := tmh (And.intro hpz hbz)
  clear hwp hbp hpx hpz hwa hba hbx hbz hpb hWa
  go_enter Tryz.func6, Tryz.ntmps6
  go_upto_region 1 with fail
  rw [HW.out.1, HW.out.2]
  go_upto_region 2 with (go_at_call 17; (with_reducible refine (HC.out _ HX.out.2.2).mono ?_); rintro e wb ⟨rfl, b1⟩)
  have hWb : Below W.heap.size W wb := HX.out.2.2.trans (b1.mono HX.out.2.2.size)
  have HC1 : ∀ W1, Below wb.heap.size wb W1 → Hid (Calls Tryz.prog 20 #[.slice cp P.n cc] W1 fun e w' => ∃ (q : Option Addr) (c : Nat), e = .returned (.slice q P.n c) ∧ Own w' W1.heap.size 36 3 (.slice q P.n c) P.n (inC P.op P.a P.b) ∧ Below W1.heap.size W1 w') := fun W1 hb => cloneI_any cp P.n cc (inC P.op P.a P.b) W1 (by have := hn.2.2.1; omega) (iat_cin ((HI.out.1.below hWb).below hb)) fun j hj => rfl
  have HC2 : ∀ W1, Below wb.heap.size wb W1 → Hid (Calls Tryz.prog 21 #[.slice ep P.m ec] W1 fun e w' => ∃ (q : Option Addr) (c : Nat), e = .returned (.slice q P.m c) ∧ Own w' W1.heap.size 3 1 (.slice q P.m c) P.m (iv P.en) ∧ Below W1.heap.size W1 w') := fun W1 hb => cloneN_any ep P.m ec (iv P.en) W1 (by have := hn.2.2.2; omega) (kat_cin ((HI.out.2.below hWb).below hb)) fun j hj => rfl
  have hpb := (b1.block _ (lt_of_block HX.out.1)).trans HX.out.1
  have hrb := (b1.block _ (lt_of_block HX.out.2.1)).trans HX.out.2.1
  have KK : ∀ w', Below wb.heap.size wb w' → Hid (w'.cell? ⟨W.heap.size, 0, none⟩ = some (.int .i64 P.words) ∧ w'.cell? ⟨W.heap.size, 1, none⟩ = some (.int .i64 P.locals) ∧ w'.cell? ⟨W.heap.size, 2, none⟩ = some (.slice cp P.n cc) ∧ w'.cell? ⟨W.heap.size, 3, none⟩ = some (.slice ep P.m ec)) := fun w' hb => by
    have hx := (hb.block _ (lt_of_block hpb)).trans hpb
    exact ⟨cellT hx rfl, cellT hx rfl, cellT hx rfl, cellT hx rfl⟩
  have hbd : Below wb.heap.size wb wb.drew := (Below.refl _ wb).drew
  obtain ⟨iF, hF1, hF2⟩ := sinfoT infoTd
  have HY := tmh (And.intro hrb (And.intro hWb b1.size))
  clear b1 hWb hpb hrb y0 y1 y2 y3
  go_upto_region 4 with fail
  go_cut [7] from 8 (fun x7 wc => ∃ (tb : Nat) (qc qe : Option Addr) (c1 c2 : Nat), x7 = .pointer (some ⟨tb, 0, none⟩) ∧ TB wb wc tb P qc qe c1 c2 ∧ Below wb.heap.size wb wc)
  case first =>
    refine wp_region_held_drew (S := fun W9 => Below wb.heap.size wb W9) (by kernel_rfl) hbd (fun hHeld => ?_)
    have hS0 : Below wb.heap.size wb wb.drew := hHeld
    refine wpAnyH_take (i := 0) (v := ?hv0d) rfl (by kernel_rfl) (by kernel_rfl) (by kernel_rfl) (fun _ _ _ h => h) (Or.inl ⟨by rfl, ?hy0d⟩) (by assumption) ?hr0d
    case hy0d => ((intro W9 hSw; obtain ⟨s0, s1, s2, s3⟩ := (KK W9 hSw).out; go_simp); try with_reducible rfl)
    simp only [List.getElem_toArray, List.getElem_cons_zero, List.getElem_cons_succ, Act.put, List.setIfInBounds_toArray, List.set_cons_zero, List.set_cons_succ]
    refine wpAnyH_take (i := 1) (v := ?hv1d) rfl (by kernel_rfl) (by kernel_rfl) (by kernel_rfl) (fun _ _ _ h => h) (Or.inl ⟨by rfl, ?hy1d⟩) (by assumption) ?hr1d
    case hy1d => ((intro W9 hSw; obtain ⟨s0, s1, s2, s3⟩ := (KK W9 hSw).out; go_simp); try with_reducible rfl)
    simp only [List.getElem_toArray, List.getElem_cons_zero, List.getElem_cons_succ, Act.put, List.setIfInBounds_toArray, List.set_cons_zero, List.set_cons_succ]
    refine wpAnyH_take (i := 2) (v := ?hv2d) rfl (by kernel_rfl) (by kernel_rfl) (by kernel_rfl) (fun _ _ _ h => h) (Or.inl ⟨by rfl, ?hy2d⟩) (by assumption) ?hr2d
    case hy2d => ((intro W9 hSw; obtain ⟨s0, s1, s2, s3⟩ := (KK W9 hSw).out; go_simp); try with_reducible rfl)
    simp only [List.getElem_toArray, List.getElem_cons_zero, List.getElem_cons_succ, Act.put, List.setIfInBounds_toArray, List.set_cons_zero, List.set_cons_succ]
    refine wpAnyH_take (i := 3) (v := ?hv3d) rfl (by kernel_rfl) (by kernel_rfl) (by kernel_rfl) (fun _ _ _ h => h) (Or.inl ⟨by rfl, ?hy3d⟩) (by assumption) ?hr3d
    case hy3d => ((intro W9 hSw; obtain ⟨s0, s1, s2, s3⟩ := (KK W9 hSw).out; go_simp); try with_reducible rfl)
    simp only [List.getElem_toArray, List.getElem_cons_zero, List.getElem_cons_succ, Act.put, List.setIfInBounds_toArray, List.set_cons_zero, List.set_cons_succ]
    refine wpAnyH_take (i := 4) (v := ?hv4d) rfl (by kernel_rfl) (by kernel_rfl) (by kernel_rfl) (fun _ _ _ h => h) (Or.inl ⟨by rfl, ?hy4d⟩) (by assumption) ?hr4d
    case hy4d => ((intro W9 hSw; obtain ⟨s0, s1, s2, s3⟩ := (KK W9 hSw).out; go_simp); try with_reducible rfl)
    simp only [List.getElem_toArray, List.getElem_cons_zero, List.getElem_cons_succ, Act.put, List.setIfInBounds_toArray, List.set_cons_zero, List.set_cons_succ]
    refine wpAnyH_take (i := 5) (v := ?hv5d) rfl (by kernel_rfl) (by kernel_rfl) (by kernel_rfl) (fun _ _ _ h => h) (Or.inl ⟨by rfl, ?hy5d⟩) (by assumption) ?hr5d
    case hy5d => ((intro W9 hSw; obtain ⟨s0, s1, s2, s3⟩ := (KK W9 hSw).out; go_simp); try with_reducible rfl)
    simp only [List.getElem_toArray, List.getElem_cons_zero, List.getElem_cons_succ, Act.put, List.setIfInBounds_toArray, List.set_cons_zero, List.set_cons_succ]
    refine wpAnyH_take (i := 7) (v := ?hv7d) rfl (by kernel_rfl) (by kernel_rfl) (by kernel_rfl) (fun _ _ _ h => h) (Or.inl ⟨by rfl, ?hy7d⟩) (by assumption) ?hr7d
    case hy7d => ((intro W9 hSw; obtain ⟨s0, s1, s2, s3⟩ := (KK W9 hSw).out; go_simp); try with_reducible rfl)
    simp only [List.getElem_toArray, List.getElem_cons_zero, List.getElem_cons_succ, Act.put, List.setIfInBounds_toArray, List.set_cons_zero, List.set_cons_succ]
    refine wpAnyH_take (i := 8) (v := ?hv8d) rfl (by kernel_rfl) (by kernel_rfl) (by kernel_rfl) (fun _ _ _ h => h) (Or.inl ⟨by rfl, ?hy8d⟩) (by assumption) ?hr8d
    case hy8d => ((intro W9 hSw; obtain ⟨s0, s1, s2, s3⟩ := (KK W9 hSw).out; go_simp); try with_reducible rfl)
    simp only [List.getElem_toArray, List.getElem_cons_zero, List.getElem_cons_succ, Act.put, List.setIfInBounds_toArray, List.set_cons_zero, List.set_cons_succ]
    refine wpAnyH_ready (rs := [6, 12]) (by kernel_rfl) (by simp) (AllReadyH.cons rfl (fun KK9 hK => ?_) (AllReadyH.cons rfl (fun KK9 hK => ?_) AllReadyH.nil))
    all_goals dsimp -proj only [List.getElem_toArray, List.getElem_cons_zero, List.getElem_cons_succ]
    · go_simp
      go_at_call 20
      refine (HC1 wb.drew hS0).out.mono ?_
      rintro e x1 ⟨qc, c1, rfl, o11, hb1⟩
      try go_wp2_with fail
      have hs1 : Below wb.heap.size wb x1 := hS0.trans (hb1.mono hS0.size)
      have hB1 : Below x1.heap.size x1 x1 := Below.refl _ _
      refine hK.out _ _ hs1 (fun hHeld => ?_)
      clear hK KK9
      try simp only [Act.put, List.setIfInBounds_toArray, List.set_cons_zero, List.set_cons_succ]
      refine wpAnyH_ready (rs := [9, 12]) (by kernel_rfl) (by simp) (AllReadyH.cons rfl (fun KK9 hK => ?_) (AllReadyH.cons rfl (fun KK9 hK => ?_) AllReadyH.nil))
      all_goals dsimp -proj only [List.getElem_toArray, List.getElem_cons_zero, List.getElem_cons_succ]
      · go_simp
        go_at_call 21
        refine (HC2 x1 hs1).out.mono ?_
        rintro e x2 ⟨qe, c2, rfl, o22, hb2⟩
        try go_wp2_with fail
        have hs2 : Below wb.heap.size wb x2 := hs1.trans (hb2.mono hs1.size)
        have hB2 : Below x2.heap.size x2 x2 := Below.refl _ _
        have hC2 := hB1.trans (hb2.mono hB1.size)
        refine hK.out _ _ hs2 (fun hHeld => ?_)
        clear hK KK9
        try simp only [Act.put, List.setIfInBounds_toArray, List.set_cons_zero, List.set_cons_succ]
        refine wpAnyH_take (i := 10) (v := ?hv10b3) rfl (by kernel_rfl) (by kernel_rfl) (by kernel_rfl) (fun _ _ _ h => h) (Or.inl ⟨by rfl, ?hy10b3⟩) (by assumption) ?hr10b3
        case hy10b3 => ((intro W9 hSw; skip; go_simp); try with_reducible rfl)
        simp only [List.getElem_toArray, List.getElem_cons_zero, List.getElem_cons_succ, Act.put, List.setIfInBounds_toArray, List.set_cons_zero, List.set_cons_succ]
        refine wpAnyH_take (i := 11) (v := ?hv11c3) rfl (by kernel_rfl) (by kernel_rfl) (by kernel_rfl) (fun _ _ _ h => h) (Or.inl ⟨by rfl, ?hy11c3⟩) (by assumption) ?hr11c3
        case hy11c3 => ((intro W9 hSw; skip; go_simp); try with_reducible rfl)
        simp only [List.getElem_toArray, List.getElem_cons_zero, List.getElem_cons_succ, Act.put, List.setIfInBounds_toArray, List.set_cons_zero, List.set_cons_succ]
        refine wpAnyH_ready (rs := [12]) (by kernel_rfl) (by simp) (AllReadyH.cons rfl (fun KK9 hK => ?_) AllReadyH.nil)
        all_goals dsimp -proj only [List.getElem_toArray, List.getElem_cons_zero, List.getElem_cons_succ]
        · refine step_alloc_row rfl 67 rfl iF _ hF1 hF2 ?_
          obtain ⟨x4, hw4⟩ : ∃ x, (x2).alloc (.cells #[.int .i64 0, .int .i64 0, .slice none 0 0, .slice none 0 0] 67) = x := ⟨_, rfl⟩
          obtain ⟨hb4, hm4, hz4⟩ := boxed _ _ _ hw4
          have hs4 : Below wb.heap.size wb x4 := hs2.trans (hb4.mono hs2.size)
          have hfl4 : wb.heap.size ≤ (x2).heap.size := hs2.size
          have hr14 : (x2).heap.size < (wb.drew).heap.size ∨ (x1).heap.size ≤ (x2).heap.size := .inr hC2.size
          have hC14 := hC2.trans (hb4.mono hC2.size)
          have hr24 : (x2).heap.size < (x1).heap.size ∨ (x2).heap.size ≤ (x2).heap.size := .inr hB2.size
          have hC24 := hB2.trans (hb4.mono hB2.size)
          show KK9 _ ((x2).alloc (.cells #[.int .i64 0, .int .i64 0, .slice none 0 0, .slice none 0 0] 67))
          rw [hw4]
          clear hw4
          refine hK.out _ _ hs4 (fun hHeld => ?_)
          clear hK KK9
          try simp only [Act.put, List.setIfInBounds_toArray, List.set_cons_zero, List.set_cons_succ]
          refine wpAnyH_ready (rs := [13]) (by kernel_rfl) (by simp) (AllReadyH.cons rfl (fun KK9 hK => ?_) AllReadyH.nil)
          all_goals dsimp -proj only [List.getElem_toArray, List.getElem_cons_zero, List.getElem_cons_succ]
          · refine step_store_row rfl 67 _ _ rfl (x2).heap.size _ rfl rfl 67 _ hm4 (by kernel_rfl) rfl (by kernel_rfl) ?_
            obtain ⟨x5, hw5⟩ : ∃ x, (x4).setRow (x2).heap.size #[.int .i64 P.words, .int .i64 P.locals, .slice qc P.n c1, .slice qe P.m c2] = x := ⟨_, rfl⟩
            have hm5 : x5.heap[(x2).heap.size]? = some (.cells #[.int .i64 P.words, .int .i64 P.locals, .slice qc P.n c1, .slice qe P.m c2] 67 (0, 0)) := by
              rw [← hw5]
              exact setRow_heap _ _ _ _ _ _ hm4
            have hs5 : Below wb.heap.size wb x5 := by
              rw [← hw5]
              exact setRow_below _ hs4 hfl4
            have hkb5 : ∀ k9, k9 ≠ (x2).heap.size → x5.heap[k9]? = (x4).heap[k9]? := fun k9 e9 => by
              rw [← hw5]
              exact setRow_far _ _ _ _ e9
            have hrs5 : TB wb x5 ((x2).heap.size) P qc qe c1 c2 := tb_of hm5 hfl4 o11 hS0.size (fun k8 g1 g2 => (hkb5 k8 g2).trans (hC14.block k8 g1)) hr14 o22 hs1.size (fun k8 g1 g2 => (hkb5 k8 g2).trans (hC24.block k8 g1)) hr24
            rw [hw5]
            clear hw5
            refine hK.out _ _ hs5 (fun hHeld => ?_)
            clear hK KK9
            try simp only [Act.put, List.setIfInBounds_toArray, List.set_cons_zero, List.set_cons_succ]
            refine wpAnyH_done (by kernel_rfl) ?_ _
            go_wp2_with fail
            go_meet
            case rel =>
              exact ⟨(x2).heap.size, qc, qe, c1, c2, rfl, hrs5, hs5⟩
      · refine step_alloc_row rfl 67 rfl iF _ hF1 hF2 ?_
        obtain ⟨x6, hw6⟩ : ∃ x, (x1).alloc (.cells #[.int .i64 0, .int .i64 0, .slice none 0 0, .slice none 0 0] 67) = x := ⟨_, rfl⟩
        obtain ⟨hb6, hm6, hz6⟩ := boxed _ _ _ hw6
        have hs6 : Below wb.heap.size wb x6 := hs1.trans (hb6.mono hs1.size)
        have hfl6 : wb.heap.size ≤ (x1).heap.size := hs1.size
        have hr16 : (x1).heap.size < (wb.drew).heap.size ∨ (x1).heap.size ≤ (x1).heap.size := .inr hB1.size
        have hC16 := hB1.trans (hb6.mono hB1.size)
        show KK9 _ ((x1).alloc (.cells #[.int .i64 0, .int .i64 0, .slice none 0 0, .slice none 0 0] 67))
        rw [hw6]
        clear hw6
        refine hK.out _ _ hs6 (fun hHeld => ?_)
        clear hK KK9
        try simp only [Act.put, List.setIfInBounds_toArray, List.set_cons_zero, List.set_cons_succ]
        refine wpAnyH_ready (rs := [9]) (by kernel_rfl) (by simp) (AllReadyH.cons rfl (fun KK9 hK => ?_) AllReadyH.nil)
        all_goals dsimp -proj only [List.getElem_toArray, List.getElem_cons_zero, List.getElem_cons_succ]
        · go_simp
          go_at_call 21
          refine (HC2 x6 hs6).out.mono ?_
          rintro e x7 ⟨qe, c2, rfl, o27, hb7⟩
          try go_wp2_with fail
          have hs7 : Below wb.heap.size wb x7 := hs6.trans (hb7.mono hs6.size)
          have hm7 := (hb7.block _ (lt_of_block hm6)).trans hm6
          have hr7 : (x1).heap.size < (x6).heap.size ∨ x7.heap.size ≤ (x1).heap.size := .inl (lt_of_block hm6)
          have hB7 : Below x7.heap.size x7 x7 := Below.refl _ _
          have hC7 := hC16.trans (hb7.mono hC16.size)
          refine hK.out _ _ hs7 (fun hHeld => ?_)
          clear hK KK9
          try simp only [Act.put, List.setIfInBounds_toArray, List.set_cons_zero, List.set_cons_succ]
          refine wpAnyH_take (i := 10) (v := ?hv10b8) rfl (by kernel_rfl) (by kernel_rfl) (by kernel_rfl) (fun _ _ _ h => h) (Or.inl ⟨by rfl, ?hy10b8⟩) (by assumption) ?hr10b8
          case hy10b8 => ((intro W9 hSw; skip; go_simp); try with_reducible rfl)
          simp only [List.getElem_toArray, List.getElem_cons_zero, List.getElem_cons_succ, Act.put, List.setIfInBounds_toArray, List.set_cons_zero, List.set_cons_succ]
          refine wpAnyH_take (i := 11) (v := ?hv11c8) rfl (by kernel_rfl) (by kernel_rfl) (by kernel_rfl) (fun _ _ _ h => h) (Or.inl ⟨by rfl, ?hy11c8⟩) (by assumption) ?hr11c8
          case hy11c8 => ((intro W9 hSw; skip; go_simp); try with_reducible rfl)
          simp only [List.getElem_toArray, List.getElem_cons_zero, List.getElem_cons_succ, Act.put, List.setIfInBounds_toArray, List.set_cons_zero, List.set_cons_succ]
          refine wpAnyH_ready (rs := [13]) (by kernel_rfl) (by simp) (AllReadyH.cons rfl (fun KK9 hK => ?_) AllReadyH.nil)
          all_goals dsimp -proj only [List.getElem_toArray, List.getElem_cons_zero, List.getElem_cons_succ]
          · refine step_store_row rfl 67 _ _ rfl (x1).heap.size _ rfl rfl 67 _ hm7 (by kernel_rfl) rfl (by kernel_rfl) ?_
            obtain ⟨x9, hw9⟩ : ∃ x, (x7).setRow (x1).heap.size #[.int .i64 P.words, .int .i64 P.locals, .slice qc P.n c1, .slice qe P.m c2] = x := ⟨_, rfl⟩
            have hm9 : x9.heap[(x1).heap.size]? = some (.cells #[.int .i64 P.words, .int .i64 P.locals, .slice qc P.n c1, .slice qe P.m c2] 67 (0, 0)) := by
              rw [← hw9]
              exact setRow_heap _ _ _ _ _ _ hm7
            have hs9 : Below wb.heap.size wb x9 := by
              rw [← hw9]
              exact setRow_below _ hs7 hfl6
            have hkb9 : ∀ k9, k9 ≠ (x1).heap.size → x9.heap[k9]? = (x7).heap[k9]? := fun k9 e9 => by
              rw [← hw9]
              exact setRow_far _ _ _ _ e9
            have hrs9 : TB wb x9 ((x1).heap.size) P qc qe c1 c2 := tb_of hm9 hfl6 o11 hS0.size (fun k8 g1 g2 => (hkb9 k8 g2).trans (hC7.block k8 g1)) hr16 o27 hs6.size (fun k8 g1 g2 => (hkb9 k8 g2).trans (hB7.block k8 g1)) hr7
            rw [hw9]
            clear hw9
            refine hK.out _ _ hs9 (fun hHeld => ?_)
            clear hK KK9
            try simp only [Act.put, List.setIfInBounds_toArray, List.set_cons_zero, List.set_cons_succ]
            refine wpAnyH_done (by kernel_rfl) ?_ _
            go_wp2_with fail
            go_meet
            case rel =>
              exact ⟨(x1).heap.size, qc, qe, c1, c2, rfl, hrs9, hs9⟩
    · refine step_alloc_row rfl 67 rfl iF _ hF1 hF2 ?_
      obtain ⟨x10, hw10⟩ : ∃ x, (wb.drew).alloc (.cells #[.int .i64 0, .int .i64 0, .slice none 0 0, .slice none 0 0] 67) = x := ⟨_, rfl⟩
      obtain ⟨hb10, hm10, hz10⟩ := boxed _ _ _ hw10
      have hs10 : Below wb.heap.size wb x10 := hS0.trans (hb10.mono hS0.size)
      have hfl10 : wb.heap.size ≤ (wb.drew).heap.size := hS0.size
      show KK9 _ ((wb.drew).alloc (.cells #[.int .i64 0, .int .i64 0, .slice none 0 0, .slice none 0 0] 67))
      rw [hw10]
      clear hw10
      refine hK.out _ _ hs10 (fun hHeld => ?_)
      clear hK KK9
      try simp only [Act.put, List.setIfInBounds_toArray, List.set_cons_zero, List.set_cons_succ]
      refine wpAnyH_ready (rs := [6]) (by kernel_rfl) (by simp) (AllReadyH.cons rfl (fun KK9 hK => ?_) AllReadyH.nil)
      all_goals dsimp -proj only [List.getElem_toArray, List.getElem_cons_zero, List.getElem_cons_succ]
      · go_simp
        go_at_call 20
        refine (HC1 x10 hs10).out.mono ?_
        rintro e x11 ⟨qc, c1, rfl, o111, hb11⟩
        try go_wp2_with fail
        have hs11 : Below wb.heap.size wb x11 := hs10.trans (hb11.mono hs10.size)
        have hm11 := (hb11.block _ (lt_of_block hm10)).trans hm10
        have hr11 : (wb.drew).heap.size < (x10).heap.size ∨ x11.heap.size ≤ (wb.drew).heap.size := .inl (lt_of_block hm10)
        have hB11 : Below x11.heap.size x11 x11 := Below.refl _ _
        refine hK.out _ _ hs11 (fun hHeld => ?_)
        clear hK KK9
        try simp only [Act.put, List.setIfInBounds_toArray, List.set_cons_zero, List.set_cons_succ]
        refine wpAnyH_ready (rs := [9]) (by kernel_rfl) (by simp) (AllReadyH.cons rfl (fun KK9 hK => ?_) AllReadyH.nil)
        all_goals dsimp -proj only [List.getElem_toArray, List.getElem_cons_zero, List.getElem_cons_succ]
        · go_simp
          go_at_call 21
          refine (HC2 x11 hs11).out.mono ?_
          rintro e x12 ⟨qe, c2, rfl, o212, hb12⟩
          try go_wp2_with fail
          have hs12 : Below wb.heap.size wb x12 := hs11.trans (hb12.mono hs11.size)
          have hm12 := (hb12.block _ (lt_of_block hm11)).trans hm11
          have hr12 : (wb.drew).heap.size < (x11).heap.size ∨ x12.heap.size ≤ (wb.drew).heap.size := .inl (lt_of_block hm11)
          have hB12 : Below x12.heap.size x12 x12 := Below.refl _ _
          have hC12 := hB11.trans (hb12.mono hB11.size)
          refine hK.out _ _ hs12 (fun hHeld => ?_)
          clear hK KK9
          try simp only [Act.put, List.setIfInBounds_toArray, List.set_cons_zero, List.set_cons_succ]
          refine wpAnyH_take (i := 10) (v := ?hv10b13) rfl (by kernel_rfl) (by kernel_rfl) (by kernel_rfl) (fun _ _ _ h => h) (Or.inl ⟨by rfl, ?hy10b13⟩) (by assumption) ?hr10b13
          case hy10b13 => ((intro W9 hSw; skip; go_simp); try with_reducible rfl)
          simp only [List.getElem_toArray, List.getElem_cons_zero, List.getElem_cons_succ, Act.put, List.setIfInBounds_toArray, List.set_cons_zero, List.set_cons_succ]
          refine wpAnyH_take (i := 11) (v := ?hv11c13) rfl (by kernel_rfl) (by kernel_rfl) (by kernel_rfl) (fun _ _ _ h => h) (Or.inl ⟨by rfl, ?hy11c13⟩) (by assumption) ?hr11c13
          case hy11c13 => ((intro W9 hSw; skip; go_simp); try with_reducible rfl)
          simp only [List.getElem_toArray, List.getElem_cons_zero, List.getElem_cons_succ, Act.put, List.setIfInBounds_toArray, List.set_cons_zero, List.set_cons_succ]
          refine wpAnyH_ready (rs := [13]) (by kernel_rfl) (by simp) (AllReadyH.cons rfl (fun KK9 hK => ?_) AllReadyH.nil)
          all_goals dsimp -proj only [List.getElem_toArray, List.getElem_cons_zero, List.getElem_cons_succ]
          · refine step_store_row rfl 67 _ _ rfl (wb.drew).heap.size _ rfl rfl 67 _ hm12 (by kernel_rfl) rfl (by kernel_rfl) ?_
            obtain ⟨x14, hw14⟩ : ∃ x, (x12).setRow (wb.drew).heap.size #[.int .i64 P.words, .int .i64 P.locals, .slice qc P.n c1, .slice qe P.m c2] = x := ⟨_, rfl⟩
            have hm14 : x14.heap[(wb.drew).heap.size]? = some (.cells #[.int .i64 P.words, .int .i64 P.locals, .slice qc P.n c1, .slice qe P.m c2] 67 (0, 0)) := by
              rw [← hw14]
              exact setRow_heap _ _ _ _ _ _ hm12
            have hs14 : Below wb.heap.size wb x14 := by
              rw [← hw14]
              exact setRow_below _ hs12 hfl10
            have hkb14 : ∀ k9, k9 ≠ (wb.drew).heap.size → x14.heap[k9]? = (x12).heap[k9]? := fun k9 e9 => by
              rw [← hw14]
              exact setRow_far _ _ _ _ e9
            have hrs14 : TB wb x14 ((wb.drew).heap.size) P qc qe c1 c2 := tb_of hm14 hfl10 o111 hs10.size (fun k8 g1 g2 => (hkb14 k8 g2).trans (hC12.block k8 g1)) hr11 o212 hs11.size (fun k8 g1 g2 => (hkb14 k8 g2).trans (hB12.block k8 g1)) hr12
            rw [hw14]
            clear hw14
            refine hK.out _ _ hs14 (fun hHeld => ?_)
            clear hK KK9
            try simp only [Act.put, List.setIfInBounds_toArray, List.set_cons_zero, List.set_cons_succ]
            refine wpAnyH_done (by kernel_rfl) ?_ _
            go_wp2_with fail
            go_meet
            case rel =>
              exact ⟨(wb.drew).heap.size, qc, qe, c1, c2, rfl, hrs14, hs14⟩
  case rest =>
    obtain ⟨tb, qc, qe, c1, c2, rfl, htd, hbc⟩ := hcut
    have H0 := tmh (And.intro htd hbc)
    clear htd hbc KK HC1 HC2 hbd hF1 hF2 HI
    go_wp2_with fail
    go_loopg [] (wM P) (fun gk wr => ∃ (k : Nat) (lp : Option Addr) (lc : Nat), gk = wM (rndI P k) ∧ TD (fun _ => False) (fun _ => none) wr wb.heap.size tb (rndI P k) lp qe lc c2 ∧ (∀ j, j < k → ¬ PEq (rndI P j) (rndI P (j + 1))) ∧ Below wb.heap.size wb wr)
    case atStart => exact ⟨0, qc, c1, rfl, H0.out.1, fun j hj => absurd hj (Nat.not_lt_zero _), H0.out.2⟩
    case round =>
      obtain ⟨k, lp, lc, hg, htr, hne, hbr⟩ := hrel
      obtain ⟨⟨L2, v2⟩, a2, -⟩ := rndI_vf HV.out.1 HV.out.2 k
      have HR := round_any v2 a2 wr htr hbr.size
      by_cases hp : PEq (rndI P k) (rndI P (k + 1))
      · have HR2 : Hid (Calls Tryz.prog 22 #[.pointer (some ⟨tb, 0, none⟩)] wr fun e W' => e = .returned (.bool false) ∧ (∃ lp lc, TD (fun _ => False) (fun _ => none) W' wb.heap.size tb (rndI P (k + 1)) lp qe lc c2) ∧ Below wb.heap.size wr W') := tmh (HR.mono fun e w' => by
          rintro ⟨r, rfl, g1, g2, g3⟩
          obtain rfl : r = false := g1.2 hp
          exact ⟨rfl, g2, g3⟩)
        have HT : Hid (Tid P (rndI P (k + 1)) ∧ Below wb.heap.size wb wr) := tmh ⟨⟨k, rfl, hp, hne⟩, hbr⟩
        clear HR hp hne hbr hg htr v2 a2 H0
        generalize rndI P (k + 1) = Q at HR2 HT
        go_upto_region 6 with (go_at_call 22; (with_reducible refine HR2.out.mono ?_); rintro e w2 ⟨rfl, ⟨lp2, lc2, t2⟩, b2⟩)
        obtain ⟨y0, y1, y2, y3⟩ := t2.cells
        have hb2 := HT.out.2.trans b2
        have hr2 := (hb2.block _ (lt_of_block HY.out.1)).trans HY.out.1
        have hfr := fun k9 => frz hr2 k9
        have z0 := cellT hr2 (o := 0) rfl
        have z1 := cellT hr2 (o := 1) rfl
        have z2 := cellT hr2 (o := 2) rfl
        have z3 := cellT hr2 (o := 3) rfl
        have H2 := tmh (And.intro t2 (And.intro hb2 hr2))
        have hlt : W.heap.size + 1 < wb.heap.size := lt_of_block HY.out.1
        have hnt : tb ≠ W.heap.size + 1 := by have := t2.lo; omega
        clear t2 b2 hb2 hr2 HR2 hlt
        go_wp2_with fail
        generalize hWF : World.setCell (World.setCell (World.setCell (World.setCell w2 _ _) _ _) _ _) _ _ = wF
        have hres : wF.heap[W.heap.size + 1]? = some (.cells #[.int .i64 Q.words, .int .i64 Q.locals, .slice lp2 Q.n lc2, .slice qe Q.m c2] 25 (0, 0)) := hWF ▸ put4 H2.out.2.2 _ _ _ _
        have hbF : Below W.heap.size W wF := by
          rw [← hWF]
          exact (((((HY.out.2.1.trans (H2.out.2.1.mono HY.out.2.1.size)).setCell (p := ⟨W.heap.size + 1, 0, none⟩) (Nat.le_succ _) _).setCell (p := ⟨W.heap.size + 1, 1, none⟩) (Nat.le_succ _) _).setCell (p := ⟨W.heap.size + 1, 2, none⟩) (Nat.le_succ _) _).setCell (p := ⟨W.heap.size + 1, 3, none⟩) (Nat.le_succ _) _)
        have hfa : ∀ k9, W.heap.size + 1 < k9 → wF.heap[k9]? = w2.heap[k9]? := fun k9 h9 => by
          rw [← hWF]
          exact far4 k9 (by omega)
        clear hWF z0 z1 z2 z3 hfr y0 y1 y2 y3
        have hlt : W.heap.size + 1 < wb.heap.size := lt_of_block HY.out.1
        have o1 : Own wF W.heap.size 36 3 (.slice lp2 Q.n lc2) Q.n (inC Q.op Q.a Q.b) := (H2.out.1.cd.far fun k9 h9 => hfa k9 (by have := (H2.out.1.cd.lt k9 h9).1; omega)).low (by omega)
        have o2 : Own wF W.heap.size 3 1 (.slice qe Q.m c2) Q.m (iv Q.en) := (H2.out.1.en.far fun k9 h9 => hfa k9 (by have := (H2.out.1.en.lt k9 h9).1; omega)).low (by omega)
        have z0 := cellT hres (o := 0) rfl
        have z1 := cellT hres (o := 1) rfl
        have z2 := cellT hres (o := 2) rfl
        have z3 := cellT hres (o := 3) rfl
        refine bodyPost_ret (v := .tuple #[.agg #[.int .i64 Q.words, .int .i64 Q.locals, .slice lp2 Q.n lc2, .slice qe Q.m c2], .int .i64 0]) (by simp [results, Tryz.results6, go_sem, z0, z1, z2, z3]; try rfl) rfl ?_
        exact ⟨Q, lp2, lc2, qe, c2, rfl, HT.out.1, o1, o2, hbF⟩
      · have HR2 : Hid (Calls Tryz.prog 22 #[.pointer (some ⟨tb, 0, none⟩)] wr fun e W' => e = .returned (.bool true) ∧ (∃ lp lc, TD (fun _ => False) (fun _ => none) W' wb.heap.size tb (rndI P (k + 1)) lp qe lc c2) ∧ Below wb.heap.size wr W') := tmh (HR.mono fun e w' => by
          rintro ⟨r, rfl, g1, g2, g3⟩
          obtain rfl : r = true := by
            cases r with
            | true => rfl
            | false => exact absurd (g1.1 rfl) hp
          exact ⟨rfl, g2, g3⟩)
        have HT := tmh (And.intro hp (And.intro hne (And.intro hbr (And.intro hg (rnd_less R2f R1f v2 fun h9 => hp h9.symm)))))
        clear HR hp hne hbr hg htr v2 a2 H0
        go_wp2_with (go_at_call 22; (with_reducible refine HR2.out.mono ?_); rintro e w2 ⟨rfl, ⟨lp2, lc2, t2⟩, b2⟩)
        go_roundg (wM (rndI P (k + 1)))
        case measure => rw [HT.out.2.2.2.1]; exact HT.out.2.2.2.2
        case rel => exact ⟨k + 1, lp2, lc2, rfl, t2, fun j hj => by
          rcases Nat.lt_or_eq_of_le (Nat.le_of_lt_succ hj) with h9 | rfl
          · exact HT.out.2.1 j h9
          · exact HT.out.1, HT.out.2.2.1.trans b2⟩
end Go.Proofs.YtopggemomcoalaaGreat
namespace Go.Proofs.YtopggemomcoalaaGreat
open Go.ChangeShapes Go.WideShapes Go.ChangeAt Go.RowKit
set_option linter.unusedVariables false
set_option linter.unusedSimpArgs false

/-! ### what Tidy answers, as the law reads it -/
structure DQ (P Q : Pg) (L : Nat → Int) : Prop where
  v : Vf Q L
  f : Full Q L
  a : A64 Q
  sg : SgE P Q
  n : Q.n ≤ P.n
  w : Q.words = P.words
  l : Q.locals = P.locals
  t : Tdy R2f R1f Q
  p : PEq (leadP Q (endP Q)) Q
theorem DQ.m {P Q : Pg} {L : Nat → Int} (d : DQ P Q L) : Q.m = P.m := d.sg.1
theorem DQ.z {P Q : Pg} {L : Nat → Int} (d : DQ P Q L) : Q.n ≤ 4096 := d.v.sz.2.2.1
theorem tidy_1 {P : Pg} {cp ep : Option Addr} {cc ec : Nat} (W : World) (hI : IAt W cp P.n P.op P.a P.b) (hE : KAt W ep P.m P.en) (ha : A64 P) (hc : dcode P P.m = 0) :
    Calls Tryz.prog 6 #[.agg #[.int .i64 P.words, .int .i64 P.locals, .slice cp P.n cc, .slice ep P.m ec], .int .i64 (P.m : Int)] W fun e W' => ∃ Q L lp lc lq lx, e = .returned (.tuple #[.agg #[.int .i64 P.words, .int .i64 P.locals, .slice lp Q.n lc, .slice lq P.m lx], .int .i64 0]) ∧ (DQ P Q L ∧ Tid P Q) ∧ Own W' W.heap.size 36 3 (.slice lp Q.n lc) Q.n (inC Q.op Q.a Q.b) ∧ Own W' W.heap.size 3 1 (.slice lq P.m lx) P.m (iv Q.en) ∧ Below W.heap.size W W' := (tidy_good W hI hE ha hc).mono fun e w' => by
  rintro ⟨Q, lp, lc, lq, lx, rfl, ht, h1, h2, h3⟩
  obtain ⟨⟨L, v, f⟩, a, sg, n, w, l, t, p⟩ := ht.done (vf_of hc).2 ha
  rw [sg.1] at h2
  exact ⟨Q, L, lp, lc, lq, lx, by rw [w, l, sg.1], ⟨⟨v, f, a, sg, n, w, l, t, p⟩, ht⟩, h1, h2, h3⟩
theorem PEq.iat {P Q : Pg} (h : PEq P Q) {W : World} {q : Option Addr} (hI : IAt W q P.n P.op P.a P.b) : IAt W q Q.n Q.op Q.a Q.b := by
  rcases hI with hI | ⟨g, o, h1, h2, h3⟩
  · exact .inl (h.n.symm.trans hI)
  · exact .inr ⟨g, o, h1, h2, fun j hj => by
      have hj : j < P.n := by rw [h.n]; exact hj
      rw [← h.op j hj, ← h.a j hj, ← h.b j hj]
      exact h3 j hj⟩
theorem PEq.kat {P Q : Pg} (h : PEq P Q) {W : World} {q : Option Addr} (hI : KAt W q P.m P.en) : KAt W q Q.m Q.en := by
  rcases hI with hI | ⟨g, o, h1, h2, h3⟩
  · exact .inl (h.m.symm.trans hI)
  · exact .inr ⟨g, o, h1, h2, fun j hj => by
      have hj : j < P.m := by rw [h.m]; exact hj
      rw [← h.en j hj]
      exact h3 j hj⟩
theorem Tid.fix {P Q : Pg} {L : Nat → Int} (d : DQ P Q L) {Q2 : Pg} (h : Tid Q Q2) : PEq Q2 Q := by
  obtain ⟨k, rfl, hp, hne⟩ := h
  have hf : PEq (rndI Q 1) Q := rnd_fix R2f R1f d.v d.t d.p
  cases k with
  | zero => exact hf
  | succ k => exact absurd hf.symm (hne 0 (Nat.succ_pos k))
theorem tidy_2 {P Q : Pg} {L : Nat → Int} (d : DQ P Q L) (W : World) {lp lq : Option Addr} {lc lx : Nat} (hI : IAt W lp Q.n Q.op Q.a Q.b) (hE : KAt W lq P.m Q.en) :
    Calls Tryz.prog 6 #[.agg #[.int .i64 P.words, .int .i64 P.locals, .slice lp Q.n lc, .slice lq P.m lx], .int .i64 (P.m : Int)] W fun e W' => ∃ lp2 lc2 lq2 lx2, e = .returned (.tuple #[.agg #[.int .i64 P.words, .int .i64 P.locals, .slice lp2 Q.n lc2, .slice lq2 P.m lx2], .int .i64 0]) ∧ IAt W' lp2 Q.n Q.op Q.a Q.b ∧ KAt W' lq2 P.m Q.en ∧ Below W.heap.size W W' := by
  have hE2 : KAt W lq Q.m Q.en := by rw [d.m]; exact hE
  have h := tidy_good (cc := lc) (ec := lx) W hI hE2 d.a d.v.code
  rw [show Q.m = P.m from d.m, show Q.words = P.words from d.w, show Q.locals = P.locals from d.l] at h
  refine h.mono fun e w' => ?_
  rintro ⟨Q2, lp2, lc2, lq2, lx2, rfl, ht, h1, h2, h3⟩
  have p := ht.fix d
  have q1 := p.iat (own_iat h1)
  have q2 := p.kat (own_kat h2)
  rw [d.m] at q2
  exact ⟨lp2, lc2, lq2, lx2, by rw [p.w, p.l, p.n, p.m, d.w, d.l, d.m], q1, q2, h3⟩
theorem same_q {P Q : Pg} {L : Nat → Int} (d : DQ P Q L) (w : World) {lp lq lp2 lq2 : Option Addr} {lc lx lc2 lx2 : Nat} (hI : IAt w lp Q.n Q.op Q.a Q.b) (hE : KAt w lq P.m Q.en) (hI2 : IAt w lp2 Q.n Q.op Q.a Q.b) (hE2 : KAt w lq2 P.m Q.en) :
    Calls Tryz.prog 9 #[.agg #[.int .i64 P.words, .int .i64 P.locals, .slice lp Q.n lc, .slice lq P.m lx], .agg #[.int .i64 P.words, .int .i64 P.locals, .slice lp2 Q.n lc2, .slice lq2 P.m lx2]] w fun e w' => e = .returned (.bool true) ∧ Below w.heap.size w w' := by
  have hE3 : KAt w lq Q.m Q.en := by rw [d.m]; exact hE
  have hE4 : KAt w lq2 Q.m Q.en := by rw [d.m]; exact hE2
  have := d.v.sz
  have h := sameProgram_yes Q ⟨lp, lc, lq, lx⟩ ⟨lp2, lc2, lq2, lx2⟩ w ⟨hI, hE3⟩ ⟨hI2, hE4⟩ ⟨by have := this.2.2.1; omega, by have := this.2.2.2; omega⟩
  dsimp only at h
  rw [show Q.m = P.m from d.m, show Q.words = P.words from d.w, show Q.locals = P.locals from d.l] at h
  exact h
theorem depths_q {P Q : Pg} {L : Nat → Int} (d : DQ P Q L) (w : World) {lp lq : Option Addr} {lc lx : Nat} (hI : IAt w lp Q.n Q.op Q.a Q.b) (hE : KAt w lq P.m Q.en) :
    Calls Tryz.prog 10 #[.agg #[.int .i64 P.words, .int .i64 P.locals, .slice lp Q.n lc, .slice lq P.m lx], .int .i64 (P.m : Int)] w fun e w' => ∃ db, e = .returned (.tuple #[.slice (some ⟨db, 0, none⟩) Q.n Q.n, .int .i64 0]) ∧ Own w' w.heap.size 3 1 (.slice (some ⟨db, 0, none⟩) Q.n Q.n) Q.n (iv (dL Q)) ∧ Below w.heap.size w w' := by
  have hE3 : KAt w lq Q.m Q.en := by rw [d.m]; exact hE
  have h := depths_any Q ⟨lp, lc, lq, lx⟩ Q.m w hI hE3
  dsimp only at h
  rw [show Q.m = P.m from d.m, show Q.words = P.words from d.w, show Q.locals = P.locals from d.l] at h
  refine h.mono fun e w' => ?_
  rintro ⟨r, c, rfl, hb, h1, h2, h3⟩
  have hc : dcode Q (P.m : Int) = 0 := by rw [← d.m]; exact d.v.code
  rw [hc] at h1
  obtain ⟨db, rfl, hO⟩ := h3 h1
  subst h1
  exact ⟨db, rfl, hO, hb⟩
/-! ### circles -/
set_option maxRecDepth 100000 in
set_option maxHeartbeats 8000000 in
theorem circles_any {Q : Pg} (g : Gd Q) (hn : Q.n ≤ 4096) {base gb c x : Nat} (hx : x < Q.n) (h : ∀ k, Q.op (jit Q k x) = 35) (w : World) (hO : Own w base 36 3 (.slice (some ⟨gb, 0, none⟩) Q.n c) Q.n (inC Q.op Q.a Q.b)) :
    Calls Tryz.prog 11 #[.slice (some ⟨gb, 0, none⟩) Q.n c, .int .i64 (x : Int)] w fun e w' => e = .returned (.bool true) ∧ Below w.heap.size w w' := by
  have H0 := tmh (And.intro g (And.intro h (And.intro hO (And.intro hn hx))))
  clear g h hO
  go_enter Tryz.func11, Tryz.ntmps11
  go_wp2_with fail
  go_loopw [1, 5] (fun y x5 wr => ∃ i : Nat, y = .int .i64 ((jit Q i x : Nat) : Int) ∧ x5 = .int .i64 (i : Int) ∧ i ≤ Q.n + 1 ∧ Below w.heap.size w wr) (fun _ x5 _ => Q.n + 1 - (intOf x5).toNat)
  case atStart => exact ⟨0, rfl, rfl, Nat.zero_le _, Below.refl _ _⟩
  case round =>
    obtain ⟨i, rfl, rfl, hi, hbr⟩ := hrel
    have hlt := jit_lt H0.out.1 i H0.out.2.2.2.2
    have h35 := H0.out.2.1 i
    have hst : jit Q (i + 1) x = (Q.a (jit Q i x)).toNat := by
      have e : ∀ k y, jit Q (k + 1) y = jst Q (jit Q k y) := fun k => by
        induction k with
        | zero => intro y; rfl
        | succ k ih => intro y; exact ih (jst Q y)
      rw [e]
      exact if_pos h35
    have hA := H0.out.1.a _ hlt (by rw [h35]; rfl)
    obtain ⟨⟨x0, x1, x2⟩, hfz⟩ := own_ins (H0.out.2.2.1.later hbr) hlt
    rw [h35] at x0
    by_cases h9 : i ≤ Q.n
    · have d1 : decide ((i : Int) ≤ (Q.n : Int)) = true := by simp; omega
      have d2 : decide (i ≤ Q.n) = true := by simp; omega
      generalize hu : jit Q i x = u at *
      obtain ⟨A, hA2⟩ : ∃ A : Nat, Q.a u = (A : Int) := ⟨(Q.a u).toNat, by omega⟩
      rw [hA2] at x1
      have e3 : jit Q (i + 1) x = A := by rw [hst, hA2]; rfl
      have i0 : (0 : Int) ≤ (u : Int) := by omega
      have i1 : (u : Int) < (Q.n : Int) := by omega
      have ek : IntKind.i64.wrap ((i : Int) + 1) = ((i + 1 : Nat) : Int) := by have := H0.out.2.2.2.1; rw [IntKind.wrap_i64]; omega
      have hm : Q.n + 1 - (i + 1) < Q.n + 1 - i := by omega
      have HR := tmh (And.intro e3 (And.intro hbr (show i + 1 ≤ Q.n + 1 by omega)))
      have HM := tmh hm
      clear hst hu hA hA2 e3 hbr hi h35 hm h9 hlt
      go_wp2_with fail
      exact ⟨⟨i + 1, by rw [HR.out.1], rfl, HR.out.2.2, HR.out.2.1⟩, HM.out⟩
    · have d1 : decide ((i : Int) ≤ (Q.n : Int)) = false := by simp; omega
      have d2 : decide (i ≤ Q.n) = false := by simp; omega
      clear hst hA h35 x0 x1 x2 hi h9
      go_wp2_with fail
      go_ret
      exact ⟨rfl, hbr⟩
end Go.Proofs.YtopggemomcoalaaGreat
