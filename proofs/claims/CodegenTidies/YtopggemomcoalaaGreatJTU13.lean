import Derived.Test.YtopggemomcoalaaGreatJTU9
import Derived.Test.YtopggemomcoalaaGreatJTU10
import Derived.Deep.RegionWith
namespace Go.Proofs.YtopggemomcoalaaGreat
open Go.ChangeShapes Go.WideShapes Go.ChangeAt Go.RowKit
set_option linter.unusedVariables false
set_option linter.unusedSimpArgs false

/-! ### SameProgram, of any two -/
set_option maxRecDepth 100000 in
set_option maxHeartbeats 8000000 in
theorem sameCode_any (p q : Option Addr) (n m c d : Nat) (op a b op' a' b' : Nat → Int) (hn : n ≤ 100000) (W : World) (h : IAt W p n op a b) (h' : IAt W q m op' a' b') : Calls Tryz.prog 25 #[.slice p n c, .slice q m d] W fun e W' => ∃ r, e = .returned (.bool r) ∧ (r = true ↔ n = m ∧ ∀ j, j < n → op j = op' j ∧ a j = a' j ∧ b j = b' j) ∧ Below W.heap.size W W' := by
  have H0 := tmh (And.intro h h')
  clear h h'
  by_cases hnm : n = m
  · subst hnm
    have d0 : ((n : Int) != (n : Int)) = false := by simp
    go_enter Tryz.func25, Tryz.ntmps25
    go_wp2_with fail
    go_loopw [13] (fun x wr => ∃ k : Nat, x = .int .i64 (k : Int) ∧ k ≤ n ∧ (∀ j, j < k → op j = op' j ∧ a j = a' j ∧ b j = b' j) ∧ Below W.heap.size W wr) (fun x _ => n - (intOf x).toNat)
    case atStart => exact ⟨0, rfl, Nat.zero_le _, fun j hj => by omega, Below.refl _ _⟩
    case round =>
      obtain ⟨k, rfl, hk, he, hbr⟩ := hrel
      by_cases hlt : k < n
      · have d1 : decide ((k : Int) < (n : Int)) = true := by simp; omega
        have d2 : decide (k < n) = true := by simp; omega
        have i0 : (0 : Int) ≤ (k : Int) := by omega
        have i1 : (k : Int) < (n : Int) := by omega
        have ek : IntKind.i64.wrap ((k : Int) + 1) = ((k + 1 : Nat) : Int) := by rw [IntKind.wrap_i64]; omega
        have hm := meas0 hlt
        have h1 := H0.out.1.below hbr
        have h2 := H0.out.2.below hbr
        obtain ⟨b1, o1, hp⟩ := iat_pt h1 (by omega)
        subst hp
        obtain ⟨b2, o2, hq⟩ := iat_pt h2 (by omega)
        subst hq
        obtain ⟨x0, x1, x2⟩ := iat_at h1 hlt
        obtain ⟨z0, z1, z2⟩ := iat_at h2 hlt
        clear h1 h2
        have HB := tmh (And.intro hbr.drew he)
        clear hbr he hk
        by_cases hs : op k = op' k ∧ a k = a' k ∧ b k = b' k
        · have HS := tmh hs
          rw [← hs.1] at z0
          rw [← hs.2.1] at z1
          rw [← hs.2.2] at z2
          clear hs
          go_upto_region 6 with fail
          go_region
          all_goals (go_wp2_with fail)
          all_goals exact ⟨⟨k + 1, rfl, hlt, fun j hj => by
            rcases (by omega : j < k ∨ j = k) with h9 | rfl
            · exact HB.out.2 j h9
            · exact HS.out, HB.out.1⟩, hm⟩
        · have HS := tmh hs
          by_cases g1 : op k = op' k
          · rw [← g1] at z0
            by_cases g2 : a k = a' k
            · rw [← g2] at z1
              have g3 : ¬ b k = b' k := fun g3 => hs ⟨g1, g2, g3⟩
              clear hs g1 g2
              go_upto_region 6 with fail
              go_region
              all_goals (go_wp2_with fail)
              all_goals go_ret
              all_goals exact ⟨_, rfl, ⟨fun h9 => (by cases h9), fun h9 => absurd (h9.2 k hlt) HS.out⟩, HB.out.1⟩
            · clear hs g1
              go_upto_region 6 with fail
              go_region
              all_goals (go_wp2_with fail)
              all_goals go_ret
              all_goals exact ⟨_, rfl, ⟨fun h9 => (by cases h9), fun h9 => absurd (h9.2 k hlt) HS.out⟩, HB.out.1⟩
          · clear hs
            go_upto_region 6 with fail
            go_region
            all_goals (go_wp2_with fail)
            all_goals go_ret
            all_goals exact ⟨_, rfl, ⟨fun h9 => (by cases h9), fun h9 => absurd (h9.2 k hlt) HS.out⟩, HB.out.1⟩
      · have d1 : decide ((k : Int) < (n : Int)) = false := by simp; omega
        have d2 : decide (k < n) = false := by simp; omega
        obtain rfl : k = n := by omega
        have HB := tmh (And.intro hbr he)
        clear hbr he hk
        go_wp2_with fail
        go_ret
        exact ⟨_, rfl, ⟨fun _ => ⟨(by first | exact rfl | trivial), HB.out.2⟩, fun _ => rfl⟩, HB.out.1⟩
  · have d0 : ((n : Int) != (m : Int)) = true := by simp [bne]; omega
    have d1 : ((n : Int) == (m : Int)) = false := by simp; omega
    have HN := tmh hnm
    clear hnm
    go_enter Tryz.func25, Tryz.ntmps25
    go_wp2_with fail
    go_ret
    exact ⟨_, rfl, ⟨fun h9 => (by cases h9), fun h9 => absurd h9.1 HN.out⟩, Below.refl _ _⟩
set_option maxRecDepth 100000 in
set_option maxHeartbeats 8000000 in
theorem sameProgram_any (P Q : Pg) (cp ep cq eq : Option Addr) (cc ec cd ed : Nat) (hw : P.words = Q.words) (hl : P.locals = Q.locals) (w : World) (h1 : IAt w cp P.n P.op P.a P.b) (h2 : KAt w ep P.m P.en) (h3 : IAt w cq Q.n Q.op Q.a Q.b) (h4 : KAt w eq Q.m Q.en) (hn : P.n ≤ 4096) (hm : P.m ≤ 32) :
    Calls Tryz.prog 9 #[.agg #[.int .i64 P.words, .int .i64 P.locals, .slice cp P.n cc, .slice ep P.m ec], .agg #[.int .i64 P.words, .int .i64 P.locals, .slice cq Q.n cd, .slice eq Q.m ed]] w fun e w' => ∃ r : Bool, e = .returned (.bool r) ∧ (r = true ↔ PEq P Q) ∧ Below w.heap.size w w' := by
  have hb : Below w.heap.size w ((w.alloc (.cells #[.int .i64 P.words, .int .i64 P.locals, .slice cp P.n cc, .slice ep P.m ec] 25)).alloc (.cells #[.int .i64 P.words, .int .i64 P.locals, .slice cq Q.n cd, .slice eq Q.m ed] 25)) := ((Below.refl _ w).alloc (Nat.le_refl _) _).alloc (by simp) _
  obtain ⟨wp, hwp⟩ : ∃ wp, (w.alloc (.cells #[.int .i64 P.words, .int .i64 P.locals, .slice cp P.n cc, .slice ep P.m ec] 25)).alloc (.cells #[.int .i64 P.words, .int .i64 P.locals, .slice cq Q.n cd, .slice eq Q.m ed] 25) = wp := ⟨_, rfl⟩
  have hbox1 : wp.heap[w.heap.size]? = some (.cells #[.int .i64 P.words, .int .i64 P.locals, .slice cp P.n cc, .slice ep P.m ec] 25 (0, 0)) := by
    rw [← hwp, Below.heap_alloc _ _ _ (by simp)]
    exact World.alloc_heap_new w _
  have hbox2 : wp.heap[w.heap.size + 1]? = some (.cells #[.int .i64 P.words, .int .i64 P.locals, .slice cq Q.n cd, .slice eq Q.m ed] 25 (0, 0)) := by
    rw [← hwp]
    have := World.alloc_heap_new (w.alloc (.cells #[.int .i64 P.words, .int .i64 P.locals, .slice cp P.n cc, .slice ep P.m ec] 25)) (.cells #[.int .i64 P.words, .int .i64 P.locals, .slice cq Q.n cd, .slice eq Q.m ed] 25)
    rwa [World.size_alloc] at this
  have hszp : w.heap.size + 1 < wp.heap.size := by rw [← hwp]; simp
  rw [hwp] at hb
  have HB := tmh hwp
  clear hwp
  have HC := sameCode_any cp cq P.n Q.n cc cd P.op P.a P.b Q.op Q.a Q.b (by omega) wp (h1.below hb) (h3.below hb)
  have hk := h2.below hb
  have hk' := h4.below hb
  have HK := tmh (And.intro hw (And.intro hl (And.intro hb (And.intro hszp (And.intro hk hk')))))
  have HBX := tmh (And.intro hbox1 hbox2)
  obtain ⟨x0, x1, x2, x3⟩ := cells4 hbox1
  obtain ⟨y0, y1, y2, y3⟩ := cells4 hbox2
  clear h1 h2 h3 h4 hbox1 hbox2 hw hl hk hk' hszp hb
  by_cases hC : P.n = Q.n ∧ ∀ j, j < P.n → P.op j = Q.op j ∧ P.a j = Q.a j ∧ P.b j = Q.b j
  · have HCC := tmh hC
    by_cases hI : P.m = Q.m ∧ sameF P.m P.en Q.en = true
    · have hi : (decide (P.m = Q.m) && sameF P.m P.en Q.en) = true := by rw [decide_eq_true hI.1, Bool.true_and]; exact hI.2
      have hp : PEq P Q := ⟨HK.out.1, HK.out.2.1, hC.1, hI.1, fun j hj => (hC.2 j hj).1, fun j hj => (hC.2 j hj).2.1, fun j hj => (hC.2 j hj).2.2, fun j hj => Decidable.byContradiction fun hne => by have := sameF_no hj hne; rw [hI.2] at this; cases this⟩
      have HF := tmh (And.intro hp hi)
      clear hC hI hp hi
      go_enter Tryz.func9, Tryz.ntmps9
      go_upto_region 1 with fail
      rw [HB.out]
      go_wp2_with (first | (go_at_call 25; (with_reducible refine HC.mono ?_); rintro e w1 ⟨r, rfl, hr, z1⟩; have hr1 : r = true := hr.2 HCC.out; subst hr1; clear hr; clear x0 x1 x2 x3 y0 y1 y2 y3; obtain ⟨a0, a1, a2, a3⟩ := cells4 ((z1.block _ (by have := HK.out.2.2.2.1; omega)).trans HBX.out.1); obtain ⟨b0, b1, b2, b3⟩ := cells4 ((z1.block _ HK.out.2.2.2.1).trans HBX.out.2); have HI := sameInts_any ep eq P.m Q.m ec ed P.en Q.en (by omega) w1 (HK.out.2.2.2.2.1.below z1) (HK.out.2.2.2.2.2.below z1); rw [HF.out.2] at HI; have HZ := tmh z1; clear z1) | (go_at_call 26; (with_reducible refine HI.mono ?_); rintro e w2 ⟨rfl, z2⟩; have HZ2 := tmh z2; clear z2))
      go_ret
      exact ⟨true, rfl, ⟨fun _ => HF.out.1, fun _ => rfl⟩, (HK.out.2.2.1.trans (HZ.out.mono HK.out.2.2.1.size)).trans (HZ2.out.mono (Nat.le_trans HK.out.2.2.1.size HZ.out.size))⟩
    · have hi : (decide (P.m = Q.m) && sameF P.m P.en Q.en) = false := by
        by_cases hm : P.m = Q.m
        · have : ¬ sameF P.m P.en Q.en = true := fun h => hI ⟨hm, h⟩
          simp at this
          rw [this, Bool.and_false]
        · rw [decide_eq_false hm]; rfl
      have hp : ¬ PEq P Q := fun h => hI ⟨h.m, sameF_yes fun j hj => h.en j hj⟩
      have HF := tmh (And.intro hp hi)
      clear hC hI hp hi
      go_enter Tryz.func9, Tryz.ntmps9
      go_upto_region 1 with fail
      rw [HB.out]
      go_wp2_with (first | (go_at_call 25; (with_reducible refine HC.mono ?_); rintro e w1 ⟨r, rfl, hr, z1⟩; have hr1 : r = true := hr.2 HCC.out; subst hr1; clear hr; clear x0 x1 x2 x3 y0 y1 y2 y3; obtain ⟨a0, a1, a2, a3⟩ := cells4 ((z1.block _ (by have := HK.out.2.2.2.1; omega)).trans HBX.out.1); obtain ⟨b0, b1, b2, b3⟩ := cells4 ((z1.block _ HK.out.2.2.2.1).trans HBX.out.2); have HI := sameInts_any ep eq P.m Q.m ec ed P.en Q.en (by omega) w1 (HK.out.2.2.2.2.1.below z1) (HK.out.2.2.2.2.2.below z1); rw [HF.out.2] at HI; have HZ := tmh z1; clear z1) | (go_at_call 26; (with_reducible refine HI.mono ?_); rintro e w2 ⟨rfl, z2⟩; have HZ2 := tmh z2; clear z2))
      go_ret
      exact ⟨false, rfl, ⟨fun h => (by cases h), fun h => absurd h HF.out.1⟩, (HK.out.2.2.1.trans (HZ.out.mono HK.out.2.2.1.size)).trans (HZ2.out.mono (Nat.le_trans HK.out.2.2.1.size HZ.out.size))⟩
  · have HCC := tmh hC
    have hp : ¬ PEq P Q := fun h => hC ⟨h.n, fun j hj => ⟨h.op j hj, h.a j hj, h.b j hj⟩⟩
    have HF := tmh hp
    clear hC hp
    go_enter Tryz.func9, Tryz.ntmps9
    go_upto_region 1 with fail
    rw [HB.out]
    go_wp2_with (go_at_call 25; (with_reducible refine HC.mono ?_); rintro e w1 ⟨r, rfl, hr, z1⟩; have hr1 : r = false := (by cases r with | false => rfl | true => exact absurd (hr.1 rfl) HCC.out); subst hr1; clear hr; have HZ := tmh z1; clear z1)
    go_ret
    exact ⟨false, rfl, ⟨fun h => (by cases h), fun h => absurd h HF.out⟩, HK.out.2.2.1.trans (HZ.out.mono HK.out.2.2.1.size)⟩
end Go.Proofs.YtopggemomcoalaaGreat
namespace Go.Proofs.YtopggemomcoalaaGreat
open Go.ChangeShapes Go.WideShapes Go.ChangeAt Go.RowKit
set_option linter.unusedVariables false
set_option linter.unusedSimpArgs false

/-! ### the document's Tidy -/
theorem pb_put {W wF : World} {base b2 tb : Nat} {R : Pg} {z0 z1 z2 z3 : Value} {lp lq : Option Addr} {lc lx : Nat} (hbx : W.heap[tb]? = some (.cells #[z0, z1, z2, z3] 25 (0, 0))) (o1 : Own W b2 36 3 (.slice lp R.n lc) R.n (inC R.op R.a R.b)) (o2 : Own W b2 3 1 (.slice lq R.m lx) R.m (iv R.en)) (hlt : tb < b2) (hb : base ≤ tb) (e : (((W.setCell ⟨tb, 0, none⟩ (.int .i64 R.words)).setCell ⟨tb, 1, none⟩ (.int .i64 R.locals)).setCell ⟨tb, 2, none⟩ (.slice lp R.n lc)).setCell ⟨tb, 3, none⟩ (.slice lq R.m lx) = wF) :
    PB NoS NoH wF base tb R lp lq lc lx ∧ Below tb W wF := by
  have hfa : ∀ k9, k9 ≠ tb → wF.heap[k9]? = W.heap[k9]? := fun k9 h9 => by
    rw [← e]
    exact far4 k9 h9
  refine ⟨⟨e ▸ put4 hbx _ _ _ _, (o1.far fun k9 h9 => hfa k9 (by have := (o1.lt k9 h9).1; omega)).low (by omega), (o2.far fun k9 h9 => hfa k9 (by have := (o2.lt k9 h9).1; omega)).low (by omega), hb, fun j hj => hj.elim, fun hj => hj, fun _ _ _ hj => hj, fun _ _ _ hj => hj⟩, ?_⟩
  rw [← e]
  exact ((((Below.refl tb W).setCell (p := ⟨tb, 0, none⟩) (Nat.le_refl _) _).setCell (p := ⟨tb, 1, none⟩) (Nat.le_refl _) _).setCell (p := ⟨tb, 2, none⟩) (Nat.le_refl _) _).setCell (p := ⟨tb, 3, none⟩) (Nat.le_refl _) _
theorem PB.iat {Sf : Nat → Prop} {Hf : Nat → Option Obj} {W : World} {base tb : Nat} {P : Pg} {cp ep : Option Addr} {cc ec : Nat} (h : PB Sf Hf W base tb P cp ep cc ec) : IAt W cp P.n P.op P.a P.b := own_iat h.cd
theorem PB.kat {Sf : Nat → Prop} {Hf : Nat → Option Obj} {W : World} {base tb : Nat} {P : Pg} {cp ep : Option Addr} {cc ec : Nat} (h : PB Sf Hf W base tb P cp ep cc ec) : KAt W ep P.m P.en := own_kat h.en
/-- what the document's Tidy answers of a program that passes -/
def RTid (P : Pg) (W W' : World) (e : Ending) : Prop := ∃ (k : Nat) (lp lq : Option Addr) (lc lx : Nat), e = .returned (.tuple #[.agg #[.int .i64 (rndI P k).words, .int .i64 (rndI P k).locals, .slice lp (rndI P k).n lc, .slice lq (rndI P k).m lx], .int .i64 0]) ∧ PEq (rndI P (k + 1)) (rndI P k) ∧ (∀ j, j < k → ¬ PEq (rndI P (j + 1)) (rndI P j)) ∧ Own W' W.heap.size 36 3 (.slice lp (rndI P k).n lc) (rndI P k).n (inC (rndI P k).op (rndI P k).a (rndI P k).b) ∧ Own W' W.heap.size 3 1 (.slice lq (rndI P k).m lx) (rndI P k).m (iv (rndI P k).en) ∧ Below W.heap.size W W'
set_option maxRecDepth 100000 in
set_option maxHeartbeats 8000000 in
theorem rtidy_bad {P : Pg} (cp ep : Option Addr) (cc ec : Nat) (kinds : Int) (W : World) (hI : IAt W cp P.n P.op P.a P.b) (hE : KAt W ep P.m P.en) (hc : dcode P kinds ≠ 0) :
    Calls Tryz.prog 13 #[.agg #[.int .i64 P.words, .int .i64 P.locals, .slice cp P.n cc, .slice ep P.m ec], .int .i64 kinds] W fun e W' => e = .returned (.tuple #[.agg #[.int .i64 0, .int .i64 0, .slice none 0 0, .slice none 0 0], .int .i64 (dcode P kinds)]) ∧ Below W.heap.size W W' := by
  obtain ⟨wp, hwp⟩ : ∃ wp, W.alloc (.cells #[.int .i64 P.words, .int .i64 P.locals, .slice cp P.n cc, .slice ep P.m ec] 25) = wp := ⟨_, rfl⟩
  obtain ⟨hbp, hpx, hpz⟩ := boxed _ _ _ hwp
  obtain ⟨wa, hwa⟩ : ∃ wa, wp.alloc (.cells #[.int .i64 0, .int .i64 0, .slice none 0 0, .slice none 0 0] 25) = wa := ⟨_, rfl⟩
  obtain ⟨hba, hrx, haz⟩ := boxed _ _ _ hwa
  rw [hpz] at hrx
  have hWa : Below W.heap.size W wa := hbp.trans (hba.mono hbp.size)
  have hpb := (hba.block W.heap.size (by omega)).trans hpx
  have HV := rverify_any P ⟨cp, cc, ep, ec⟩ kinds wa ⟨hI.below hWa, hE.below hWa⟩
  dsimp only at HV
  have hd2 : (dcode P kinds != 0) = true := by simp [hc]
  generalize dcode P kinds = d at hc HV hd2 ⊢
  have HW := tmh (And.intro hwp hwa)
  have H0 := tmh (And.intro hrx (And.intro hWa (show wa.heap.size = W.heap.size + 2 by omega)))
  have HV := tmh HV
  obtain ⟨y0, y1, y2, y3⟩ := cells4 hpb
  clear hwp hbp hpx hpz hwa hba hrx haz hWa hpb hI hE hc
  go_enter Tryz.func13, Tryz.ntmps13
  go_upto_region 1 with fail
  rw [HW.out.1, HW.out.2]
  go_upto_region 2 with (go_at_call 8; (with_reducible refine HV.out.mono ?_); rintro e w1 ⟨rfl, b1⟩; have HB1 := tmh b1; clear b1)
  have hr2 := (HB1.out.block _ (show W.heap.size + 1 < wa.heap.size by have := H0.out.2.2; omega)).trans H0.out.1
  have hfz := fun k9 => frz hr2 k9
  have HR2 := tmh hr2
  obtain ⟨z0, z1, z2, z3⟩ := cells4 hr2
  clear hr2 y0 y1 y2 y3
  go_wp2_with fail
  generalize hWF : World.setCell (World.setCell (World.setCell (World.setCell w1 _ _) _ _) _ _) _ _ = wF
  have hres : wF.heap[W.heap.size + 1]? = some (.cells #[.int .i64 0, .int .i64 0, .slice none 0 0, .slice none 0 0] 25 (0, 0)) := hWF ▸ put4 HR2.out _ _ _ _
  have hbF : Below W.heap.size W wF := by
    rw [← hWF]
    exact (((((H0.out.2.1.trans (HB1.out.mono H0.out.2.1.size)).setCell (p := ⟨W.heap.size + 1, 0, none⟩) (Nat.le_succ _) _).setCell (p := ⟨W.heap.size + 1, 1, none⟩) (Nat.le_succ _) _).setCell (p := ⟨W.heap.size + 1, 2, none⟩) (Nat.le_succ _) _).setCell (p := ⟨W.heap.size + 1, 3, none⟩) (Nat.le_succ _) _)
  clear hWF z0 z1 z2 z3 hfz
  obtain ⟨z0, z1, z2, z3⟩ := cells4 hres
  refine bodyPost_ret (v := .tuple #[.agg #[.int .i64 0, .int .i64 0, .slice none 0 0, .slice none 0 0], .int .i64 d]) (by simp [results, Tryz.results13, go_sem, z0, z1, z2, z3]; try rfl) rfl ?_
  exact ⟨rfl, hbF⟩
set_option maxRecDepth 100000 in
set_option maxHeartbeats 16000000 in
theorem rtidy_good {P : Pg} (cp ep : Option Addr) (cc ec : Nat) (W : World) (hI : IAt W cp P.n P.op P.a P.b) (hE : KAt W ep P.m P.en) (ha : A64 P) (hc : dcode P P.m = 0) :
    Calls Tryz.prog 13 #[.agg #[.int .i64 P.words, .int .i64 P.locals, .slice cp P.n cc, .slice ep P.m ec], .int .i64 (P.m : Int)] W fun e W' => RTid P W W' e := by
  obtain ⟨_, v⟩ := vf_of hc
  have hsz := v.sz
  have hn := hsz.2.2.1
  have hm32 := hsz.2.2.2
  obtain ⟨wp, hwp⟩ : ∃ wp, W.alloc (.cells #[.int .i64 P.words, .int .i64 P.locals, .slice cp P.n cc, .slice ep P.m ec] 25) = wp := ⟨_, rfl⟩
  obtain ⟨hbp, hpx, hpz⟩ := boxed _ _ _ hwp
  obtain ⟨wa, hwa⟩ : ∃ wa, wp.alloc (.cells #[.int .i64 0, .int .i64 0, .slice none 0 0, .slice none 0 0] 25) = wa := ⟨_, rfl⟩
  obtain ⟨hba, hrx, haz⟩ := boxed _ _ _ hwa
  rw [hpz] at hrx
  have hWa : Below W.heap.size W wa := hbp.trans (hba.mono hbp.size)
  have hpb := (hba.block W.heap.size (by omega)).trans hpx
  have HV := rverify_any P ⟨cp, cc, ep, ec⟩ P.m wa ⟨hI.below hWa, hE.below hWa⟩
  dsimp only at HV
  rw [hc] at HV
  have HC : Hid (∀ w, Below wa.heap.size wa w → Calls Tryz.prog 7 #[.agg #[.int .i64 P.words, .int .i64 P.locals, .slice cp P.n cc, .slice ep P.m ec]] w fun e w' => OwnP w w' e P) := tmh fun w hw => copyProgram_own P ⟨cp, cc, ep, ec⟩ w ⟨(hI.below hWa).below hw, (hE.below hWa).below hw⟩ ⟨by omega, by omega⟩
  have HW := tmh (And.intro hwp hwa)
  have H0 := tmh (And.intro v (And.intro hpb (And.intro hrx (And.intro hWa (And.intro (show wa.heap.size = W.heap.size + 2 by omega) ha)))))
  have HV := tmh HV
  obtain ⟨y0, y1, y2, y3⟩ := cells4 hpb
  clear hwp hbp hpx hpz hwa hba hrx haz hWa hpb hI hE v hsz ha hc
  go_enter Tryz.func13, Tryz.ntmps13
  go_upto_region 1 with fail
  rw [HW.out.1, HW.out.2]
  go_upto_region 2 with (go_at_call 8; (with_reducible refine HV.out.mono ?_); rintro e w1 ⟨rfl, b1⟩; have HB1 := tmh b1; clear b1)
  clear y0 y1 y2 y3
  obtain ⟨y0, y1, y2, y3⟩ := cells4 ((HB1.out.block _ (show W.heap.size < wa.heap.size by have := H0.out.2.2.2.2.1; omega)).trans H0.out.2.1)
  go_upto_region 5 with (go_at_call 7; (with_reducible refine (HC.out _ HB1.out).mono ?_); rintro e w2 ⟨lp, lq, lc, lx, rfl, o1, o2, b1⟩)
  obtain ⟨wq, hwq⟩ : ∃ wq, w2.alloc (.cells #[.int .i64 P.words, .int .i64 P.locals, .slice lp P.n lc, .slice lq P.m lx] 25) = wq := ⟨_, rfl⟩
  obtain ⟨hpq, hbq⟩ := pb_new (o1.low HB1.out.size) (o2.low HB1.out.size) (Nat.le_trans HB1.out.size b1.size) hwq
  rw [hwq]
  obtain ⟨nb, hnb⟩ : ∃ nb, nb = w2.heap.size := ⟨_, rfl⟩
  rw [← hnb] at hpq ⊢
  have hbw : Below wa.heap.size wa wq := (HB1.out.trans (b1.mono HB1.out.size)).trans (hbq.mono (Nat.le_trans HB1.out.size b1.size))
  have H1 := tmh (And.intro hpq hbw)
  clear hwq hpq hbq hbw o1 o2 b1 HC hnb y0 y1 y2 y3
  go_wp2_with fail
  go_loopg [] (wM P) (fun gk wr => ∃ (k : Nat) (lp lq : Option Addr) (lc lx : Nat), gk = wM (rndI P k) ∧ PB NoS NoH wr wa.heap.size nb (rndI P k) lp lq lc lx ∧ (∀ j, j < k → ¬ PEq (rndI P (j + 1)) (rndI P j)) ∧ Below wa.heap.size wa wr)
  case atStart => exact ⟨0, lp, lq, lc, lx, rfl, H1.out.1, fun j hj => absurd hj (Nat.not_lt_zero _), H1.out.2⟩
  case round =>
    obtain ⟨k, lp, lq, lc, lx, hg, hT, hne, hbr⟩ := hrel
    obtain ⟨⟨L1, v1⟩, a1, -⟩ := rndI_vf H0.out.1 H0.out.2.2.2.2.2 k
    have hR : rndI P (k + 1) = rndP R2f R1f (rndI P k) := rfl
    obtain ⟨_, hRw, hRl⟩ := (rnd_any R2f R1f v1).n
    have HPK := tmh (And.intro hg hne)
    clear hg hne
    obtain ⟨Q, hQ⟩ : ∃ Q, rndI P k = Q := ⟨_, rfl⟩
    rw [hQ] at hT v1 a1 hR hRw hRl
    obtain ⟨v2, n2⟩ := shP_vf v1
    have a2 := a64_sh v1 a1
    obtain ⟨S, hS⟩ : ∃ S, shP Q = S := ⟨_, rfl⟩
    rw [hS] at v2 n2 a2
    obtain ⟨L3, v3, f3⟩ := goU_drop v2
    have a3 := a64_drop v2 a2 (goU S)
    obtain ⟨T, hTT⟩ : ∃ T, dropP S (goU S) = T := ⟨_, rfl⟩
    rw [hTT] at v3 f3 a3
    obtain ⟨L4, v4, f4⟩ := goS_drop v3 f3
    have a4 := a64_drop v3 a3 (goS T)
    obtain ⟨U, hU⟩ : ∃ U, dropP T (goS T) = U := ⟨_, rfl⟩
    rw [hU] at v4 f4 a4
    have hRR : rndP R2f R1f Q = foldL R2f R1f (frB U) U.n 0 U := by rw [← hU, ← hTT, ← hS]; rfl
    obtain ⟨R, hRn⟩ : ∃ R, foldL R2f R1f (frB U) U.n 0 U = R := ⟨_, rfl⟩
    rw [hRn] at hRR
    rw [hRR] at hRw hRl hR
    have HE := tmh (And.intro hQ (And.intro hR (And.intro hS (And.intro hTT (And.intro hU (And.intro hRn (And.intro hRw hRl)))))))
    have HV1 := tmh v1
    have HV2 := tmh v2
    have HV3 := tmh v3
    have HV4 := tmh (And.intro v4 (And.intro f4 a4))
    have HT := tmh (And.intro hT hbr)
    obtain ⟨y0, y1, y2, y3⟩ := hT.cells
    have HSh := shortcuts_any v1 lp lq lc lx wr hT.iat hT.kat
    rw [hS] at HSh
    have HSh := tmh HSh
    clear hT hbr v1 a1 v2 n2 a2 v3 f3 a3 v4 f4 a4 hQ hR hS hTT hU hRn hRw hRl hRR
    go_upto_region 6 with (go_at_call 30; (with_reducible refine HSh.out.mono ?_); rintro e w3 ⟨p3, q3, c3, x3, rfl, o1, o2, b3⟩)
    obtain ⟨w4, hw4⟩ : ∃ w4, w3.alloc (.cells #[.int .i64 S.words, .int .i64 S.locals, .slice p3 S.n c3, .slice q3 S.m x3] 25) = w4 := ⟨_, rfl⟩
    obtain ⟨hp4, hb4⟩ := pb_new o1 o2 b3.size hw4
    rw [hw4]
    have hb34 : Below wr.heap.size wr w4 := b3.trans (hb4.mono b3.size)
    have HS6 := tmh (And.intro hp4 hb34)
    have HLo6 : Hid (∀ w, Below w4.heap.size w4 w → Calls Tryz.prog 32 #[.agg #[.int .i64 S.words, .int .i64 S.locals, .slice p3 S.n c3, .slice q3 S.m x3]] w fun e W' => ∃ B, e = .returned (.slice (some ⟨B, 0, none⟩) S.n S.n) ∧ Own W' w.heap.size 4 1 (.slice (some ⟨B, 0, none⟩) S.n S.n) S.n (fun x => .bool (goU S x)) ∧ Below w.heap.size w W') := tmh fun w hw => lost_any HV2.out p3 q3 c3 x3 w (HS6.out.1.later hw).iat (HS6.out.1.later hw).kat
    have HWo6 : Hid (∀ (w : World) (bo ob : Nat), Below w4.heap.size w4 w → Own w bo 4 1 (.slice (some ⟨ob, 0, none⟩) S.n S.n) S.n (fun x => .bool (goU S x)) → Calls Tryz.prog 31 #[.agg #[.int .i64 S.words, .int .i64 S.locals, .slice p3 S.n c3, .slice q3 S.m x3], .slice (some ⟨ob, 0, none⟩) S.n S.n] w fun e W' => OwnP w W' e T) := tmh fun w bo ob hw hG => by
      have := without_any HV2.out.gd HV2.out.sz.2.2.1 HV2.out.sz.2.2.2 (goU S) p3 q3 c3 x3 w (HS6.out.1.later hw).iat (HS6.out.1.later hw).kat hG
      rw [HE.out.2.2.2.1] at this
      exact this
    clear hw4 hp4 hb4 o1 o2 b3 hb34 HSh y0 y1 y2 y3
    go_cut [] from 18 to 34 (fun wc => ∃ (lp2 lq2 : Option Addr) (lc2 lx2 : Nat), PB NoS NoH wc wr.heap.size w3.heap.size T lp2 lq2 lc2 lx2 ∧ Below wr.heap.size wr wc)
    case first =>
      obtain ⟨d0, d1, d2, d3⟩ := HS6.out.1.cells
      go_region_with (first
        | (go_at_call 32; (with_reducible refine (HLo6.out _ ?_).mono ?_); (first | exact Below.refl _ _ | exact (Below.refl _ _).drew); rintro e x6 ⟨B6, rfl, oB, b10⟩; have hx : Below w4.heap.size w4 x6 := (below_drewNq _ w4 1).trans (b10.mono (Nat.le_refl _)); have HX6 := tmh (And.intro oB hx); clear oB b10 hx; obtain ⟨g0, g1, g2, g3⟩ := (HS6.out.1.later HX6.out.2).cells)
        | (go_at_call 31; (with_reducible refine (HWo6.out _ _ _ HX6.out.2 HX6.out.1).mono ?_); rintro e z6 ⟨lp2, lq2, lc2, lx2, rfl, o3, o4, b11⟩; have HZ6 := tmh (And.intro o3 (And.intro o4 (And.intro (HX6.out.2.trans (b11.mono HX6.out.2.size)) HX6.out.2.size))); clear o3 o4 b11; obtain ⟨h0, h1, h2, h3⟩ := (HS6.out.1.later HZ6.out.2.2.1).cells; have hfz := frz (HS6.out.1.later HZ6.out.2.2.1).bx; have f0 := hfz 0; have f1 := hfz 1; have f2 := hfz 2; have f3 := hfz 3; clear hfz))
      all_goals (try clear d0 d1 d2 d3)
      all_goals (go_wp2_with fail)
      all_goals go_meet
      all_goals
        have hlo := HS6.out.1.lo
        have hlt := ltB HS6.out.1.bx
        obtain ⟨r1, r2⟩ := pb_put (base := wr.heap.size) (HS6.out.1.later HZ6.out.2.2.1).bx HZ6.out.1 HZ6.out.2.1 (by have := HZ6.out.2.2.2; omega) hlo rfl
        exact ⟨lp2, lq2, lc2, lx2, r1, (HS6.out.2.trans (HZ6.out.2.2.1.mono HS6.out.2.size)).trans (r2.mono hlo)⟩
    case rest =>
    obtain ⟨p5, q5, c5, x5, hp5, hb5⟩ := hcut
    obtain ⟨w5, hw5⟩ : ∃ w5, w5 = wc := ⟨_, rfl⟩
    subst hw5
    have HS7 := tmh (And.intro hp5 hb5)
    clear hp5 hb5 HLo6 HWo6
    have HLo7 : Hid (∀ w, Below w5.heap.size w5 w → Calls Tryz.prog 33 #[.agg #[.int .i64 T.words, .int .i64 T.locals, .slice p5 T.n c5, .slice q5 T.m x5]] w fun e W' => ∃ B, e = .returned (.slice (some ⟨B, 0, none⟩) T.n T.n) ∧ Own W' w.heap.size 4 1 (.slice (some ⟨B, 0, none⟩) T.n T.n) T.n (fun x => .bool (goS T x)) ∧ Below w.heap.size w W') := tmh fun w hw => needless_any HV3.out.sz.2.2.1 p5 q5 c5 x5 w (HS7.out.1.later hw).iat
    have HWo7 : Hid (∀ (w : World) (bo ob : Nat), Below w5.heap.size w5 w → Own w bo 4 1 (.slice (some ⟨ob, 0, none⟩) T.n T.n) T.n (fun x => .bool (goS T x)) → Calls Tryz.prog 31 #[.agg #[.int .i64 T.words, .int .i64 T.locals, .slice p5 T.n c5, .slice q5 T.m x5], .slice (some ⟨ob, 0, none⟩) T.n T.n] w fun e W' => OwnP w W' e U) := tmh fun w bo ob hw hG => by
      have := without_any HV3.out.gd HV3.out.sz.2.2.1 HV3.out.sz.2.2.2 (goS T) p5 q5 c5 x5 w (HS7.out.1.later hw).iat (HS7.out.1.later hw).kat hG
      rw [HE.out.2.2.2.2.1] at this
      exact this
    go_upto_region 7 with fail
    go_cut [] from 18 to 34 (fun wc => ∃ (lp2 lq2 : Option Addr) (lc2 lx2 : Nat), PB NoS NoH wc wr.heap.size w3.heap.size U lp2 lq2 lc2 lx2 ∧ Below wr.heap.size wr wc)
    case first =>
      obtain ⟨d0, d1, d2, d3⟩ := HS7.out.1.cells
      go_region_with (first
        | (go_at_call 33; (with_reducible refine (HLo7.out _ ?_).mono ?_); (first | exact Below.refl _ _ | exact (Below.refl _ _).drew); rintro e x7 ⟨B7, rfl, oB, b10⟩; have hx : Below w5.heap.size w5 x7 := (below_drewNq _ w5 1).trans (b10.mono (Nat.le_refl _)); have HX7 := tmh (And.intro oB hx); clear oB b10 hx; obtain ⟨g0, g1, g2, g3⟩ := (HS7.out.1.later HX7.out.2).cells)
        | (go_at_call 31; (with_reducible refine (HWo7.out _ _ _ HX7.out.2 HX7.out.1).mono ?_); rintro e z7 ⟨lp2, lq2, lc2, lx2, rfl, o3, o4, b11⟩; have HZ7 := tmh (And.intro o3 (And.intro o4 (And.intro (HX7.out.2.trans (b11.mono HX7.out.2.size)) HX7.out.2.size))); clear o3 o4 b11; obtain ⟨h0, h1, h2, h3⟩ := (HS7.out.1.later HZ7.out.2.2.1).cells; have hfz := frz (HS7.out.1.later HZ7.out.2.2.1).bx; have f0 := hfz 0; have f1 := hfz 1; have f2 := hfz 2; have f3 := hfz 3; clear hfz))
      all_goals (try clear d0 d1 d2 d3)
      all_goals (go_wp2_with fail)
      all_goals go_meet
      all_goals
        have hlo := HS7.out.1.lo
        have hlt := ltB HS7.out.1.bx
        obtain ⟨r1, r2⟩ := pb_put (base := wr.heap.size) (HS7.out.1.later HZ7.out.2.2.1).bx HZ7.out.1 HZ7.out.2.1 (by have := HZ7.out.2.2.2; omega) hlo rfl
        exact ⟨lp2, lq2, lc2, lx2, r1, (HS7.out.2.trans (HZ7.out.2.2.1.mono HS7.out.2.size)).trans (r2.mono hlo)⟩
    case rest =>
    obtain ⟨p6, q6, c6, x6, hp6, hb6⟩ := hcut
    obtain ⟨w6, hw6⟩ : ∃ w6, w6 = wc := ⟨_, rfl⟩
    subst hw6
    have HS8 := tmh (And.intro hp6 hb6)
    clear hp6 hb6 HLo7 HWo7
    have HCo := constants_any HV4.out.1 HV4.out.2.1 HV4.out.2.2 p6 q6 c6 x6 w6 HS8.out.1.iat HS8.out.1.kat
    rw [HE.out.2.2.2.2.2.1] at HCo
    have HCo := tmh HCo
    obtain ⟨d0, d1, d2, d3⟩ := HS8.out.1.cells
    go_upto_region 9 with (go_at_call 34; (with_reducible refine HCo.out.mono ?_); rintro e w7 ⟨p7, q7, c7, x7, rfl, o3, o4, b7⟩; have HZ8 := tmh (And.intro o3 (And.intro o4 b7)); clear o3 o4 b7; obtain ⟨h0, h1, h2, h3⟩ := (HS8.out.1.later HZ8.out.2.2).cells; have hfz := frz (HS8.out.1.later HZ8.out.2.2).bx; have f0 := hfz 0; have f1 := hfz 1; have f2 := hfz 2; have f3 := hfz 3; clear hfz)
    generalize hWF : World.setCell (World.setCell (World.setCell (World.setCell w7 _ _) _ _) _ _) _ _ = w8
    have hlo := HS8.out.1.lo
    have hlt := ltB HS8.out.1.bx
    obtain ⟨r1, r2⟩ := pb_put (base := wr.heap.size) (HS8.out.1.later HZ8.out.2.2).bx HZ8.out.1 HZ8.out.2.1 (by omega) hlo hWF
    have hb8 : Below wr.heap.size wr w8 := (HS8.out.2.trans (HZ8.out.2.2.mono HS8.out.2.size)).trans (r2.mono hlo)
    have hT8 := HT.out.1.later hb8
    have H8 := tmh (And.intro r1 (And.intro hT8 (And.intro hb8 (HT.out.2.trans (hb8.mono HT.out.2.size)))))
    have HSm := sameProgram_any R Q p7 q7 lp lq c7 x7 lc lx HE.out.2.2.2.2.2.2.1 HE.out.2.2.2.2.2.2.2 w8 r1.iat r1.kat hT8.iat hT8.kat
    clear hWF hlo hlt r1 r2 hb8 hT8 d0 d1 d2 d3 h0 h1 h2 h3 f0 f1 f2 f3 HCo
    rw [HE.out.2.2.2.2.2.2.1, HE.out.2.2.2.2.2.2.2] at HSm
    obtain ⟨d0, d1, d2, d3⟩ := H8.out.1.cells
    rw [HE.out.2.2.2.2.2.2.1] at d0
    rw [HE.out.2.2.2.2.2.2.2] at d1
    obtain ⟨y0, y1, y2, y3⟩ := H8.out.2.1.cells
    have hRv : R.n ≤ 4096 ∧ R.m ≤ 32 := by
      obtain ⟨⟨L9, v9⟩, -⟩ := rndI_vf H0.out.1 H0.out.2.2.2.2.2 (k + 1)
      rw [HE.out.2.1] at v9
      exact ⟨v9.sz.2.2.1, v9.sz.2.2.2⟩
    have HSm := tmh (HSm hRv.1 hRv.2)
    clear hRv
    by_cases hp : PEq R Q
    · have HSt : Hid (Calls Tryz.prog 9 #[.agg #[.int .i64 Q.words, .int .i64 Q.locals, .slice p7 R.n c7, .slice q7 R.m x7], .agg #[.int .i64 Q.words, .int .i64 Q.locals, .slice lp Q.n lc, .slice lq Q.m lx]] w8 fun e w' => e = .returned (.bool true) ∧ Below w8.heap.size w8 w') := tmh (HSm.out.mono fun e w' => by
        rintro ⟨r, rfl, hr, hb⟩
        obtain rfl : r = true := hr.2 hp
        exact ⟨rfl, hb⟩)
      have HP := tmh hp
      clear hp HSm
      go_upto_region 10 with (go_at_call 9; (with_reducible refine HSt.out.mono ?_); rintro e w9 ⟨rfl, b9⟩; have H9 := tmh b9; clear b9)
      clear d0 d1 d2 d3 y0 y1 y2 y3 HSt
      have hT9 := H8.out.2.1.later H9.out
      have hb9 := H8.out.2.2.2.trans (H9.out.mono H8.out.2.2.2.size)
      obtain ⟨y0, y1, y2, y3⟩ := hT9.cells
      have hr2 := (hb9.block _ (show W.heap.size + 1 < wa.heap.size by have := H0.out.2.2.2.2.1; omega)).trans H0.out.2.2.1
      have hfz := fun k9 => frz hr2 k9
      obtain ⟨z0, z1, z2, z3⟩ := cells4 hr2
      have hnt : nb ≠ W.heap.size + 1 := by have := hT9.lo; have := H0.out.2.2.2.2.1; omega
      have HX := tmh (And.intro hT9 (And.intro hb9 hr2))
      clear hT9 hb9 hr2
      go_wp2_with fail
      generalize hWF : World.setCell (World.setCell (World.setCell (World.setCell w9 _ _) _ _) _ _) _ _ = wF
      obtain ⟨hres, o1, o2, hbF⟩ := rT_end H0.out.2.2.2.1 H0.out.2.2.2.2.1 HX.out.1 HX.out.2.1 HX.out.2.2 hWF
      clear hWF z0 z1 z2 z3 hfz y0 y1 y2 y3
      obtain ⟨z0, z1, z2, z3⟩ := cells4 hres
      refine bodyPost_ret (v := .tuple #[.agg #[.int .i64 Q.words, .int .i64 Q.locals, .slice lp Q.n lc, .slice lq Q.m lx], .int .i64 0]) (by simp [results, Tryz.results13, go_sem, z0, z1, z2, z3]; try rfl) rfl ?_
      unfold RTid
      refine ⟨k, lp, lq, lc, lx, ?_, ?_, HPK.out.2, ?_, ?_, hbF⟩
      · rw [HE.out.1]
      · rw [HE.out.2.1, HE.out.1]; exact HP.out
      · rw [HE.out.1]; exact o1
      · rw [HE.out.1]; exact o2
    · have HSt : Hid (Calls Tryz.prog 9 #[.agg #[.int .i64 Q.words, .int .i64 Q.locals, .slice p7 R.n c7, .slice q7 R.m x7], .agg #[.int .i64 Q.words, .int .i64 Q.locals, .slice lp Q.n lc, .slice lq Q.m lx]] w8 fun e w' => e = .returned (.bool false) ∧ Below w8.heap.size w8 w') := tmh (HSm.out.mono fun e w' => by
        rintro ⟨r, rfl, hr, hb⟩
        obtain rfl : r = false := by
          cases r with
          | false => rfl
          | true => exact absurd (hr.1 rfl) hp
        exact ⟨rfl, hb⟩)
      have HP := tmh hp
      clear hp HSm
      go_upto_region 11 with (go_at_call 9; (with_reducible refine HSt.out.mono ?_); rintro e w9 ⟨rfl, b9⟩; have H9 := tmh b9; clear b9)
      clear d0 d1 d2 d3 y0 y1 y2 y3 HSt
      have hT9 := H8.out.2.1.later H9.out
      have hR9 := H8.out.1.later H9.out
      have hb9 := H8.out.2.2.2.trans (H9.out.mono H8.out.2.2.2.size)
      obtain ⟨y0, y1, y2, y3⟩ := hT9.cells
      obtain ⟨d0, d1, d2, d3⟩ := hR9.cells
      have hfz := frz hT9.bx
      have f0 := hfz 0
      have f1 := hfz 1
      have f2 := hfz 2
      have f3 := hfz 3
      have HX := tmh (And.intro hT9 (And.intro hR9 hb9))
      clear hT9 hR9 hb9 hfz
      go_wp2_with fail
      go_roundg (wM (rndI P (k + 1)))
      case measure =>
        rw [HPK.out.1, HE.out.2.1, HE.out.1]
        have h := rnd_less R2f R1f HV1.out
        have e9 : rndP R2f R1f Q = R := by rw [← HE.out.2.1, ← HE.out.1]; rfl
        rw [e9] at h
        exact h HP.out
      case rel =>
        have hlt := ltB HT.out.1.bx
        obtain ⟨r1, r2⟩ := pb_put (base := wa.heap.size) HX.out.1.bx HX.out.2.1.cd HX.out.2.1.en hlt HX.out.1.lo rfl
        refine ⟨k + 1, p7, q7, c7, x7, rfl, ?_, fun j hj => ?_, HX.out.2.2.trans (r2.mono HX.out.1.lo)⟩
        · rw [HE.out.2.1]; exact r1
        · rcases Nat.lt_or_eq_of_le (Nat.le_of_lt_succ hj) with h9 | rfl
          · exact HPK.out.2 j h9
          · rw [HE.out.2.1, HE.out.1]; exact HP.out
end Go.Proofs.YtopggemomcoalaaGreat
namespace Go.Proofs.YtopggemomcoalaaGreat
open Go.ChangeShapes Go.WideShapes Go.ChangeAt Go.RowKit
set_option linter.unusedVariables false
set_option linter.unusedSimpArgs false

/-! ### a program with room behind it -/
def rmO (P : Pg) : Nat → Int := fun k => if k = P.n + 1 then -32 else if k = P.n then -31 else P.op k
def rmA (P : Pg) (f : Nat → Int) : Nat → Int := fun k => if P.n ≤ k then 0 else f k
def rmE (P : Pg) : Nat → Int := fun k => if k = P.m + 1 then -34 else if k = P.m then -33 else P.en k
def RmA (P : Pg) (W W' : World) (e : Ending) : Prop := ∃ g h : Nat, e = .returned (.tuple #[.agg #[.int .i64 P.words, .int .i64 P.locals, .slice (some ⟨g, 0, none⟩) P.n (P.n + 2), .slice (some ⟨h, 0, none⟩) P.m (P.m + 2)], .slice (some ⟨g, 0, none⟩) (P.n + 2) (P.n + 2), .slice (some ⟨h, 0, none⟩) (P.m + 2) (P.m + 2)]) ∧ Own W' W.heap.size 36 3 (.slice (some ⟨g, 0, none⟩) (P.n + 2) (P.n + 2)) (P.n + 2) (inC (rmO P) (rmA P P.a) (rmA P P.b)) ∧ Own W' W.heap.size 3 1 (.slice (some ⟨h, 0, none⟩) (P.m + 2) (P.m + 2)) (P.m + 2) (iv (rmE P)) ∧ Below W.heap.size W W'
theorem rm_cells (P : Pg) (F1 : Nat → Value) (j : Nat) (hj : j < (P.n + 2) * 3) : putF (putF (fun j => if j < P.n * 3 then inC P.op P.a P.b j else F1 j) (P.n * 3) [.int .i64 (-31), .int .i64 0, .int .i64 0]) ((P.n + 1) * 3) [.int .i64 (-32), .int .i64 0, .int .i64 0] j = inC (rmO P) (rmA P P.a) (rmA P P.b) j := by
  by_cases h1 : (P.n + 1) * 3 ≤ j
  · have e : j = (P.n + 1) * 3 ∨ j = (P.n + 1) * 3 + 1 ∨ j = (P.n + 1) * 3 + 2 := by omega
    unfold putF
    rcases e with rfl | rfl | rfl
    · rw [if_pos (by simp), inC0]; unfold rmO; rw [if_pos rfl]; simp
    · rw [if_pos (by simp), inC1]; unfold rmA; rw [if_pos (by omega)]; simp
    · rw [if_pos (by simp), inC2]; unfold rmA; rw [if_pos (by omega)]; simp
  · by_cases h2 : P.n * 3 ≤ j
    · have e : j = P.n * 3 ∨ j = P.n * 3 + 1 ∨ j = P.n * 3 + 2 := by omega
      unfold putF
      rw [if_neg (by simp; omega)]
      rcases e with rfl | rfl | rfl
      · rw [if_pos (by simp), inC0]; unfold rmO; rw [if_neg (by omega), if_pos rfl]; simp
      · rw [if_pos (by simp), inC1]; unfold rmA; rw [if_pos (by omega)]; simp
      · rw [if_pos (by simp), inC2]; unfold rmA; rw [if_pos (by omega)]; simp
    · unfold putF
      rw [if_neg (by simp; omega), if_neg (by simp; omega)]
      dsimp only
      rw [if_pos (by omega)]
      unfold inC rmO rmA
      rw [if_neg (show ¬ j / 3 = P.n + 1 by omega), if_neg (show ¬ j / 3 = P.n by omega), if_neg (show ¬ P.n ≤ j / 3 by omega), if_neg (show ¬ P.n ≤ j / 3 by omega)]
theorem rm_ints (P : Pg) (F1 : Nat → Value) (j : Nat) (hj : j < (P.m + 2) * 1) : putF (putF (fun j => if j < P.m * 1 then iv P.en j else F1 j) P.m [.int .i64 (-33)]) (P.m + 1) [.int .i64 (-34)] j = iv (rmE P) j := by
  unfold putF iv rmE
  by_cases h1 : j = P.m + 1
  · subst h1
    rw [if_pos (by simp), if_pos rfl]; simp
  · by_cases h2 : j = P.m
    · subst h2
      rw [if_neg (by simp; omega), if_pos (by simp), if_neg h1, if_pos rfl]; simp
    · rw [if_neg (by simp; omega), if_neg (by simp; omega)]
      dsimp only
      rw [if_pos (by omega), if_neg h1, if_neg h2]
theorem own_cut {W : World} {base g m c : Nat} {t : TypeId} {s : Nat} {F : Nat → Value} (h : Own W base t s (.slice (some ⟨g, 0, none⟩) m c) m F) (j : Nat) : W.frozen? ⟨g, j, none⟩ = false := by
  obtain ⟨cur, hcur, _⟩ := Own.block h
  exact frz hcur j
set_option maxRecDepth 100000 in
set_option maxHeartbeats 8000000 in
theorem roomy_any {P : Pg} (cp ep : Option Addr) (cc ec : Nat) (W : World) (hI : IAt W cp P.n P.op P.a P.b) (hE : KAt W ep P.m P.en) (hs : roomyP P) :
    Calls Tryz.prog 12 #[.agg #[.int .i64 P.words, .int .i64 P.locals, .slice cp P.n cc, .slice ep P.m ec]] W fun e W' => RmA P W W' e := by
  obtain ⟨hs1, hs2⟩ := hs
  obtain ⟨i5, hi5, ha5, hb5, hc5⟩ := info_parts infoIns
  obtain ⟨i6, hi6, ha6, hb6, hc6⟩ := info_parts infoInt1
  have hsz5 : (Tryz.prog.info? 36).map (·.size) = some 3 := by simp [hi5, hb5]
  have hsz6 : (Tryz.prog.info? 3).map (·.size) = some 1 := by simp [hi6, hb6]
  obtain ⟨wp, hwp⟩ : ∃ wp, W.alloc (.cells #[.int .i64 P.words, .int .i64 P.locals, .slice cp P.n cc, .slice ep P.m ec] 25) = wp := ⟨_, rfl⟩
  obtain ⟨hbp, hpx, hpz⟩ := boxed _ _ _ hwp
  obtain ⟨wa, hwa⟩ : ∃ wa, wp.alloc (.cells #[.int .i64 0, .int .i64 0, .slice none 0 0, .slice none 0 0] 25) = wa := ⟨_, rfl⟩
  obtain ⟨hba, hrx, haz⟩ := boxed _ _ _ hwa
  rw [hpz] at hrx
  have hWa : Below W.heap.size W wa := hbp.trans (hba.mono hbp.size)
  have hpb := (hba.block W.heap.size (by omega)).trans hpx
  have H0 := tmh (And.intro hpb (And.intro hrx (And.intro hWa (And.intro (show wa.heap.size = W.heap.size + 2 by omega) (And.intro (hI.below hWa) (hE.below hWa))))))
  obtain ⟨N, hN⟩ : ∃ N, P.n = N := ⟨_, rfl⟩
  obtain ⟨M, hM⟩ : ∃ M, P.m = M := ⟨_, rfl⟩
  obtain ⟨N1, hN1⟩ : ∃ N1, N + 1 = N1 := ⟨_, rfl⟩
  obtain ⟨N2, hN2⟩ : ∃ N2, N + 2 = N2 := ⟨_, rfl⟩
  obtain ⟨M1, hM1⟩ : ∃ M1, M + 1 = M1 := ⟨_, rfl⟩
  obtain ⟨M2, hM2⟩ : ∃ M2, M + 2 = M2 := ⟨_, rfl⟩
  rw [hN, hM] at hwp
  have HW := tmh (And.intro hwp hwa)
  rw [hN] at hs1
  rw [hM] at hs2
  have e1 : IntKind.i64.wrap ((N : Int) + 1) = (N1 : Int) := by rw [IntKind.wrap_i64]; omega
  have e2 : IntKind.i64.wrap ((N : Int) + 2) = (N2 : Int) := by rw [IntKind.wrap_i64]; omega
  have e3 : IntKind.i64.wrap ((M : Int) + 1) = (M1 : Int) := by rw [IntKind.wrap_i64]; omega
  have e4 : IntKind.i64.wrap ((M : Int) + 2) = (M2 : Int) := by rw [IntKind.wrap_i64]; omega
  obtain ⟨y0, y1, y2, y3⟩ := cells4 hpb
  rw [hN] at y2
  rw [hM] at y3
  have HN := tmh (And.intro hN (And.intro hM (And.intro hN1 (And.intro hN2 (And.intro hM1 hM2)))))
  have HI5 := tmh (And.intro hi5 (And.intro ha5 hb5))
  have HI6 := tmh (And.intro hi6 (And.intro ha6 hb6))
  have k1 : 24 * N2 ≤ 281474976710656 := by omega
  have k2 : N2 ≤ maxLen := by unfold maxLen; omega
  have k3 : 8 * M2 ≤ 281474976710656 := by omega
  have k4 : M2 ≤ maxLen := by unfold maxLen; omega
  have HK := tmh (And.intro k1 (And.intro k2 (And.intro k3 k4)))
  have a1 : (N : Int) < (N2 : Int) := by omega
  have a2 : (N1 : Int) < (N2 : Int) := by omega
  have a3 : (M : Int) < (M2 : Int) := by omega
  have a4 : (M1 : Int) < (M2 : Int) := by omega
  have b1 : (0 : Int) ≤ (N : Int) := by omega
  have b2 : (0 : Int) ≤ (N1 : Int) := by omega
  have b3 : (0 : Int) ≤ (M : Int) := by omega
  have b4 : (0 : Int) ≤ (M1 : Int) := by omega
  rw [hN, hM]
  clear hwp hbp hpx hpz hwa hba hrx haz hWa hpb hI hE hN hM hN1 hN2 hM1 hM2 k1 k2 k3 k4
  go_enter Tryz.func12, Tryz.ntmps12
  go_upto_region 1 with fail
  rw [HW.out.1, HW.out.2]
  go_upto_region 2 with (at_make; refine wpList_make_full _ rfl (.tmp 11) (.tmp 11) 22 rfl wa.heap.size 36 i5 _ 3 Tryz.underlying22 hi5 ha5 hb5 .i64 .i64 N2 N2 N2 rfl rfl rfl rfl ?c1 ?c2 ?c3 ?_)
  case c1 => rw [hc5]; exact HK.out.1
  case c2 => exact HK.out.2.1
  case c3 => exact Nat.le_refl _
  intro w1 hown hgrow
  have hb1 : Below wa.heap.size wa w1 := (Below.refl _ _).grown hgrow (Nat.le_refl _) (by simp)
  obtain ⟨g, hg⟩ : ∃ g, g = wa.heap.size := ⟨_, rfl⟩
  rw [← hg] at hown hb1 ⊢
  obtain ⟨F1, hO1⟩ : ∃ F1, Own w1 g 36 3 (.slice (some ⟨g, 0, none⟩) N2 N2) N2 F1 := ⟨_, own_of hown⟩
  have hI1 := H0.out.2.2.2.2.1.below (hg ▸ hb1)
  have hsrc : N = 0 ∨ ∃ ad, cp = some ad ∧ ∀ j, j < N * 3 → w1.cell? (ad.add j) = some (inC P.op P.a P.b j) := by
    rw [← HN.out.1]
    rcases hI1 with h0 | ⟨g, o, e, _, hc⟩
    · exact .inl h0
    · exact .inr ⟨_, e, fun j hj => by rw [addr_add0]; exact IAt.cellsAt hc j hj⟩
  have hpb1 : w1.heap[W.heap.size]? = some (.cells #[.int .i64 P.words, .int .i64 P.locals, .slice cp N cc, .slice ep M ec] 25 (0, 0)) := by
    rw [← HN.out.1, ← HN.out.2.1]
    exact (hb1.block _ (by have := H0.out.2.2.2.1; omega)).trans H0.out.1
  have H1 := tmh (And.intro hO1 (And.intro hsrc (And.intro hb1 (And.intro hg hpb1))))
  clear y0 y1 y2 y3
  obtain ⟨y0, y1, y2, y3⟩ := cells4 hpb1
  clear hown hgrow hO1 hsrc hb1 hg hI1 hpb1
  go_upto_region 3 with (refine wpList_copy_head rfl (.tmp 13) (.tmp 15) 22 22 rfl 36 3 Tryz.underlying22 hsz5 g g N2 N2 N cc cp rfl rfl (by omega) F1 (inC P.op P.a P.b) H1.out.1 (fun j _ => inC_one _ _ _ j) H1.out.2.1 g wa H1.out.2.2.1 (Nat.le_refl _) ?_; intro w2 h2 hb2; have HB2 := tmh (And.intro h2 hb2); clear h2 hb2)
  obtain ⟨F2, hF2⟩ : ∃ F2, (fun j => if j < N * 3 then inC P.op P.a P.b j else F1 j) = F2 := ⟨_, rfl⟩
  have hO2 : Own w2 g 36 3 (.slice (some ⟨g, 0, none⟩) N2 N2) N2 F2 := hF2 ▸ HB2.out.1.out
  have HO2 := tmh (And.intro hO2 hF2)
  clear hO2 hF2
  have hg1 : W.heap.size < g := by rw [H1.out.2.2.2.1]; have := H0.out.2.2.2.1; omega
  have hpb2 := (HB2.out.2.block _ (show W.heap.size < g from hg1)).trans ((H1.out.2.2.1.block _ hg1).symm.trans H1.out.2.2.2.2)
  clear y0 y1 y2 y3
  obtain ⟨y0, y1, y2, y3⟩ := cells4 hpb2
  have u0 : w2.cell? ⟨g, N * 3, none⟩ = some (F2 (N * 3)) := HO2.out.1.cell (by have := HN.out.2.2.2.1; omega)
  have u1 : w2.cell? ⟨g, N * 3 + 1, none⟩ = some (F2 (N * 3 + 1)) := HO2.out.1.cell (by have := HN.out.2.2.2.1; omega)
  have u2 : w2.cell? ⟨g, N * 3 + 2, none⟩ = some (F2 (N * 3 + 2)) := HO2.out.1.cell (by have := HN.out.2.2.2.1; omega)
  have f0 := own_cut HO2.out.1 (N * 3)
  have f1 := own_cut HO2.out.1 (N * 3 + 1)
  have f2 := own_cut HO2.out.1 (N * 3 + 2)
  have HPB2 := tmh hpb2
  have HG1 := tmh hg1
  clear hpb2 hg1
  go_upto_region 4 with fail
  have hO3 := HO2.out.1.put (N * 3) [.int .i64 (-31), .int .i64 0, .int .i64 0]
  have t3 : ((w2.setCell ⟨g, N * 3, none⟩ (.int .i64 (-31))).setCell ⟨g, N * 3 + 1, none⟩ (.int .i64 0)).setCell ⟨g, N * 3 + 2, none⟩ (.int .i64 0) = w2.setCells g (N * 3) [.int .i64 (-31), .int .i64 0, .int .i64 0] := rfl
  rw [← t3] at hO3
  have hb3 : Below g wa (((w2.setCell ⟨g, N * 3, none⟩ (.int .i64 (-31))).setCell ⟨g, N * 3 + 1, none⟩ (.int .i64 0)).setCell ⟨g, N * 3 + 2, none⟩ (.int .i64 0)) := ((HB2.out.2.setCell (p := ⟨g, N * 3, none⟩) (Nat.le_refl _) _).setCell (p := ⟨g, N * 3 + 1, none⟩) (Nat.le_refl _) _).setCell (p := ⟨g, N * 3 + 2, none⟩) (Nat.le_refl _) _
  generalize ((w2.setCell ⟨g, N * 3, none⟩ (.int .i64 (-31))).setCell ⟨g, N * 3 + 1, none⟩ (.int .i64 0)).setCell ⟨g, N * 3 + 2, none⟩ (.int .i64 0) = w3 at hO3 hb3 ⊢
  obtain ⟨F3, hF3⟩ : ∃ F3, putF F2 (N * 3) [.int .i64 (-31), .int .i64 0, .int .i64 0] = F3 := ⟨_, rfl⟩
  rw [hF3] at hO3
  have HO3 := tmh (And.intro hO3 (And.intro hb3 hF3))
  have hpb3 := (hb3.block _ HG1.out).trans ((H1.out.2.2.1.block _ HG1.out).symm.trans H1.out.2.2.2.2)
  clear t3 hO3 hb3 hF3 y0 y1 y2 y3 u0 u1 u2 f0 f1 f2
  obtain ⟨y0, y1, y2, y3⟩ := cells4 hpb3
  have u0 : w3.cell? ⟨g, N1 * 3, none⟩ = some (F3 (N1 * 3)) := HO3.out.1.cell (by have := HN.out.2.2.1; have := HN.out.2.2.2.1; omega)
  have u1 : w3.cell? ⟨g, N1 * 3 + 1, none⟩ = some (F3 (N1 * 3 + 1)) := HO3.out.1.cell (by have := HN.out.2.2.1; have := HN.out.2.2.2.1; omega)
  have u2 : w3.cell? ⟨g, N1 * 3 + 2, none⟩ = some (F3 (N1 * 3 + 2)) := HO3.out.1.cell (by have := HN.out.2.2.1; have := HN.out.2.2.2.1; omega)
  have f0 := own_cut HO3.out.1 (N1 * 3)
  have f1 := own_cut HO3.out.1 (N1 * 3 + 1)
  have f2 := own_cut HO3.out.1 (N1 * 3 + 2)
  clear hpb3
  go_upto_region 5 with fail
  have hO4 := HO3.out.1.put (N1 * 3) [.int .i64 (-32), .int .i64 0, .int .i64 0]
  have t3 : ((w3.setCell ⟨g, N1 * 3, none⟩ (.int .i64 (-32))).setCell ⟨g, N1 * 3 + 1, none⟩ (.int .i64 0)).setCell ⟨g, N1 * 3 + 2, none⟩ (.int .i64 0) = w3.setCells g (N1 * 3) [.int .i64 (-32), .int .i64 0, .int .i64 0] := rfl
  rw [← t3] at hO4
  have hb4 : Below g wa (((w3.setCell ⟨g, N1 * 3, none⟩ (.int .i64 (-32))).setCell ⟨g, N1 * 3 + 1, none⟩ (.int .i64 0)).setCell ⟨g, N1 * 3 + 2, none⟩ (.int .i64 0)) := ((HO3.out.2.1.setCell (p := ⟨g, N1 * 3, none⟩) (Nat.le_refl _) _).setCell (p := ⟨g, N1 * 3 + 1, none⟩) (Nat.le_refl _) _).setCell (p := ⟨g, N1 * 3 + 2, none⟩) (Nat.le_refl _) _
  generalize ((w3.setCell ⟨g, N1 * 3, none⟩ (.int .i64 (-32))).setCell ⟨g, N1 * 3 + 1, none⟩ (.int .i64 0)).setCell ⟨g, N1 * 3 + 2, none⟩ (.int .i64 0) = w4 at hO4 hb4 ⊢
  have hO4' : Own w4 g 36 3 (.slice (some ⟨g, 0, none⟩) N2 N2) N2 (inC (rmO P) (rmA P P.a) (rmA P P.b)) := hO4.congr fun j hj => by
    rw [← HO3.out.2.2, ← HO2.out.2, ← HN.out.2.2.1, ← HN.out.1]
    exact rm_cells P F1 j (by rw [HN.out.1, HN.out.2.2.2.1]; exact hj)
  have hpb4 := (hb4.block _ HG1.out).trans ((H1.out.2.2.1.block _ HG1.out).symm.trans H1.out.2.2.2.2)
  clear y0 y1 y2 y3 u0 u1 u2 f0 f1 f2
  obtain ⟨y0, y1, y2, y3⟩ := cells4 hpb4
  have hle4 : g ≤ w4.heap.size := Nat.le_of_lt (hO4'.lt g rfl).2
  have HO4 := tmh (And.intro hO4' (And.intro hb4 (And.intro hpb4 (hO4'.lt g rfl).2)))
  clear hO4 hO4' t3 hb4 hpb4 hle4
  go_upto_region 6 with (at_make; refine wpList_make_full _ rfl (.tmp 33) (.tmp 33) 23 rfl w4.heap.size 3 i6 _ 1 Tryz.underlying23 hi6 ha6 hb6 .i64 .i64 M2 M2 M2 rfl rfl rfl rfl ?c1 ?c2 ?c3 ?_)
  case c1 => rw [hc6]; exact HK.out.2.2.1
  case c2 => exact HK.out.2.2.2
  case c3 => exact Nat.le_refl _
  intro w5 hown hgrow
  have hb5 : Below w4.heap.size w4 w5 := (Below.refl _ _).grown hgrow (Nat.le_refl _) (by simp)
  obtain ⟨h, hh⟩ : ∃ h, h = w4.heap.size := ⟨_, rfl⟩
  rw [← hh] at hown hb5 ⊢
  obtain ⟨F5, hO5⟩ : ∃ F5, Own w5 h 3 1 (.slice (some ⟨h, 0, none⟩) M2 M2) M2 F5 := ⟨_, own_of hown⟩
  have hE5 := ((H0.out.2.2.2.2.2.below (H1.out.2.2.2.1 ▸ HO4.out.2.1))).below (hh ▸ hb5)
  have hsrc : M = 0 ∨ ∃ ad, ep = some ad ∧ ∀ j, j < M * 1 → w5.cell? (ad.add j) = some (iv P.en j) := by
    rw [← HN.out.2.1]
    rcases hE5 with h0 | ⟨g, o, e, _, hc⟩
    · exact .inl h0
    · exact .inr ⟨_, e, fun j hj => by rw [addr_add0]; exact hc j (by omega)⟩
  have hpb5 := (hb5.block _ (show W.heap.size < h by rw [hh]; have := HG1.out; have := HO4.out.2.2.2; omega)).trans HO4.out.2.2.1
  have H5 := tmh (And.intro hO5 (And.intro hsrc (And.intro hb5 (And.intro hh hpb5))))
  clear y0 y1 y2 y3
  obtain ⟨y0, y1, y2, y3⟩ := cells4 hpb5
  clear hown hgrow hO5 hsrc hb5 hh hE5 hpb5
  go_upto_region 7 with (refine wpList_copy_head rfl (.tmp 35) (.tmp 37) 23 23 rfl 3 1 Tryz.underlying23 hsz6 h h M2 M2 M ec ep rfl rfl (by omega) F5 (iv P.en) H5.out.1 (fun j _ => rfl) H5.out.2.1 h w4 H5.out.2.2.1 (Nat.le_refl _) ?_; intro w6 h2 hb2; have HB6 := tmh (And.intro h2 hb2); clear h2 hb2)
  obtain ⟨F6, hF6⟩ : ∃ F6, (fun j => if j < M * 1 then iv P.en j else F5 j) = F6 := ⟨_, rfl⟩
  have hO6 : Own w6 h 3 1 (.slice (some ⟨h, 0, none⟩) M2 M2) M2 F6 := hF6 ▸ HB6.out.1.out
  have hh1 : W.heap.size < h := by rw [H5.out.2.2.2.1]; have := HG1.out; have := HO4.out.2.2.2; omega
  have hgh : g < h := by rw [H5.out.2.2.2.1]; exact HO4.out.2.2.2
  have hpb6 := (HB6.out.2.block _ (show W.heap.size < h from hh1)).trans ((H5.out.2.2.1.block _ hh1).symm.trans H5.out.2.2.2.2)
  have HO6 := tmh (And.intro hO6 (And.intro hF6 (And.intro hh1 hgh)))
  clear y0 y1 y2 y3 hO6 hF6 hh1 hgh
  obtain ⟨y0, y1, y2, y3⟩ := cells4 hpb6
  have u0 : w6.cell? ⟨h, M, none⟩ = some (F6 M) := HO6.out.1.cell (by have := HN.out.2.2.2.2.2; omega)
  have f0 := own_cut HO6.out.1 M
  clear hpb6
  go_upto_region 8 with fail
  have hO7 := HO6.out.1.put M [.int .i64 (-33)]
  have t3 : w6.setCell ⟨h, M, none⟩ (.int .i64 (-33)) = w6.setCells h M [.int .i64 (-33)] := rfl
  rw [← t3] at hO7
  have hb7 : Below h w4 (w6.setCell ⟨h, M, none⟩ (.int .i64 (-33))) := HB6.out.2.setCell (p := ⟨h, M, none⟩) (Nat.le_refl _) _
  generalize w6.setCell ⟨h, M, none⟩ (.int .i64 (-33)) = w7 at hO7 hb7 ⊢
  obtain ⟨F7, hF7⟩ : ∃ F7, putF F6 M [.int .i64 (-33)] = F7 := ⟨_, rfl⟩
  rw [hF7] at hO7
  have HO7 := tmh (And.intro hO7 (And.intro hb7 hF7))
  have hpb7 := (hb7.block _ HO6.out.2.2.1).trans ((H5.out.2.2.1.block _ HO6.out.2.2.1).symm.trans H5.out.2.2.2.2)
  clear t3 hO7 hb7 hF7 y0 y1 y2 y3 u0 f0
  obtain ⟨y0, y1, y2, y3⟩ := cells4 hpb7
  have u0 : w7.cell? ⟨h, M1, none⟩ = some (F7 M1) := HO7.out.1.cell (by have := HN.out.2.2.2.2; omega)
  have f0 := own_cut HO7.out.1 M1
  clear hpb7
  go_upto_region 9 with fail
  have hO8 := HO7.out.1.put M1 [.int .i64 (-34)]
  have t3 : w7.setCell ⟨h, M1, none⟩ (.int .i64 (-34)) = w7.setCells h M1 [.int .i64 (-34)] := rfl
  rw [← t3] at hO8
  have hb8 : Below h w4 (w7.setCell ⟨h, M1, none⟩ (.int .i64 (-34))) := HO7.out.2.1.setCell (p := ⟨h, M1, none⟩) (Nat.le_refl _) _
  generalize w7.setCell ⟨h, M1, none⟩ (.int .i64 (-34)) = w8 at hO8 hb8 ⊢
  have hO8' : Own w8 h 3 1 (.slice (some ⟨h, 0, none⟩) M2 M2) M2 (iv (rmE P)) := hO8.congr fun j hj => by
    rw [← HO7.out.2.2, ← HO6.out.2.1, ← HN.out.2.2.2.2.1, ← HN.out.2.1]
    exact rm_ints P F5 j (by rw [HN.out.2.1, HN.out.2.2.2.2.2]; exact hj)
  have hpb8 := (hb8.block _ HO6.out.2.2.1).trans ((H5.out.2.2.1.block _ HO6.out.2.2.1).symm.trans H5.out.2.2.2.2)
  have hOg : Own w8 g 36 3 (.slice (some ⟨g, 0, none⟩) N2 N2) N2 (inC (rmO P) (rmA P P.a) (rmA P P.b)) := HO4.out.1.later (H5.out.2.2.2.1 ▸ hb8)
  have hba8 : Below g wa w8 := HO4.out.2.1.trans (hb8.mono (Nat.le_of_lt HO6.out.2.2.2))
  clear y0 y1 y2 y3 u0 f0 hO8 t3
  obtain ⟨y0, y1, y2, y3⟩ := cells4 hpb8
  obtain ⟨w9, hw9⟩ : ∃ w9, w8.alloc (.cells #[.int .i64 P.words, .int .i64 P.locals, .slice cp N cc, .slice ep M ec] 25) = w9 := ⟨_, rfl⟩
  obtain ⟨hb9, hx9, hz9⟩ := boxed _ _ _ hw9
  have hlt8 : h < w8.heap.size := (hO8'.lt h rfl).2
  have hnp : W.heap.size < w8.heap.size := by have := HO6.out.2.2.1; omega
  have H9 := tmh (And.intro (hO8'.later hb9) (And.intro (hOg.later hb9) (And.intro (hba8.trans (hb9.mono (by have := HO6.out.2.2.2; omega))) (And.intro hx9 (And.intro hlt8 hnp)))))
  have hpb9 := (hb9.block _ hnp).trans hpb8
  have HW9 := tmh hw9
  have HPB9 := tmh hpb9
  clear hO8' hOg hba8 hb8 hpb8 hw9 hb9 hx9 hz9 hlt8 hnp hpb9
  go_upto_region 10 with fail
  rw [HW9.out]
  clear y0 y1 y2 y3
  obtain ⟨y0, y1, y2, y3⟩ := cells4 HPB9.out
  obtain ⟨c0, c1, c2, c3⟩ := cells4 H9.out.2.2.2.1
  have cf2 := frz H9.out.2.2.2.1 2
  have cf3 := frz H9.out.2.2.2.1 3
  have nq : w8.heap.size ≠ W.heap.size := by have := H9.out.2.2.2.2.2; omega
  have nq2 : W.heap.size ≠ w8.heap.size := by have := H9.out.2.2.2.2.2; omega
  have g1 : (N : Int) ≤ (N2 : Int) := by omega
  have g2 : (M : Int) ≤ (M2 : Int) := by omega
  have g3 : N ≤ N2 := by omega
  have g4 : M ≤ M2 := by omega
  go_upto_region 12 with fail
  clear y0 y1 y2 y3 c0 c1 c2 c3 cf2 cf3 nq nq2
  generalize hwB : (w9.setCell ⟨w8.heap.size, 2, none⟩ (.slice (some ⟨g, 0, none⟩) N N2)).setCell ⟨w8.heap.size, 3, none⟩ (.slice (some ⟨h, 0, none⟩) M M2) = wB
  have hxB : wB.heap[w8.heap.size]? = some (.cells #[.int .i64 P.words, .int .i64 P.locals, .slice (some ⟨g, 0, none⟩) N N2, .slice (some ⟨h, 0, none⟩) M M2] 25 (0, 0)) := by
    rw [← hwB, setCell_block _ _ _ _ (setCell_block _ _ _ _ H9.out.2.2.2.1)]
    rfl
  have hfB : ∀ k9, k9 ≠ w8.heap.size → wB.heap[k9]? = w9.heap[k9]? := fun k9 h9 => by
    rw [← hwB, Below.heap_setCell _ _ _ _ h9, Below.heap_setCell _ _ _ _ h9]
  have hga : g = W.heap.size + 2 := by rw [H1.out.2.2.2.1]; exact H0.out.2.2.2.1
  have hgh := HO6.out.2.2.2
  have hh8 := H9.out.2.2.2.2.1
  have hr9 : w9.heap[W.heap.size + 1]? = some (.cells #[.int .i64 0, .int .i64 0, .slice none 0 0, .slice none 0 0] 25 (0, 0)) := (H9.out.2.2.1.block _ (by omega)).trans H0.out.2.1
  have hrB := (hfB (W.heap.size + 1) (by omega)).trans hr9
  have hbB : Below g wa wB := by
    rw [← hwB]
    exact (H9.out.2.2.1.setCell (p := ⟨w8.heap.size, 2, none⟩) (by show g ≤ w8.heap.size; omega) _).setCell (p := ⟨w8.heap.size, 3, none⟩) (by show g ≤ w8.heap.size; omega) _
  have hOg : Own wB g 36 3 (.slice (some ⟨g, 0, none⟩) N2 N2) N2 (inC (rmO P) (rmA P P.a) (rmA P P.b)) := H9.out.2.1.far fun k9 h9 => hfB k9 (by simp [Value.ownBlock] at h9; omega)
  have hOh : Own wB h 3 1 (.slice (some ⟨h, 0, none⟩) M2 M2) M2 (iv (rmE P)) := H9.out.1.far fun k9 h9 => hfB k9 (by simp [Value.ownBlock] at h9; omega)
  have HB := tmh (And.intro hOg (And.intro hOh (And.intro hbB hrB)))
  obtain ⟨c0, c1, c2, c3⟩ := cells4 hxB
  have hfz := fun k9 => frz hrB k9
  obtain ⟨z0, z1, z2, z3⟩ := cells4 hrB
  have nq : W.heap.size + 1 ≠ w8.heap.size := by omega
  have nq2 : w8.heap.size ≠ W.heap.size + 1 := by omega
  have HGA := tmh (And.intro hga hgh)
  clear hwB hxB hfB hga hgh hh8 hr9 hrB hbB hOg hOh
  go_wp2_with fail
  generalize hWF : World.setCell (World.setCell (World.setCell (World.setCell wB _ _) _ _) _ _) _ _ = wF
  have hres : wF.heap[W.heap.size + 1]? = some (.cells #[.int .i64 P.words, .int .i64 P.locals, .slice (some ⟨g, 0, none⟩) N N2, .slice (some ⟨h, 0, none⟩) M M2] 25 (0, 0)) := hWF ▸ put4 HB.out.2.2.2 _ _ _ _
  have hfa : ∀ k9, k9 ≠ W.heap.size + 1 → wF.heap[k9]? = wB.heap[k9]? := fun k9 h9 => by
    rw [← hWF]
    exact far4 k9 h9
  have hbF : Below W.heap.size W wF := by
    rw [← hWF]
    exact ((((((H0.out.2.2.1.trans (HB.out.2.2.1.mono (by rw [HGA.out.1]; omega)))).setCell (p := ⟨W.heap.size + 1, 0, none⟩) (Nat.le_succ _) _).setCell (p := ⟨W.heap.size + 1, 1, none⟩) (Nat.le_succ _) _).setCell (p := ⟨W.heap.size + 1, 2, none⟩) (Nat.le_succ _) _).setCell (p := ⟨W.heap.size + 1, 3, none⟩) (Nat.le_succ _) _)
  have o1 := (HB.out.1.far (W' := wF) fun k9 h9 => hfa k9 (by simp [Value.ownBlock] at h9; have := HGA.out.1; omega)).low (base' := W.heap.size) (by have := HGA.out.1; omega)
  have o2 := (HB.out.2.1.far (W' := wF) fun k9 h9 => hfa k9 (by simp [Value.ownBlock] at h9; have := HGA.out; omega)).low (base' := W.heap.size) (by have := HGA.out; omega)
  clear hWF z0 z1 z2 z3 hfz c0 c1 c2 c3
  obtain ⟨z0, z1, z2, z3⟩ := cells4 hres
  refine bodyPost_ret (v := .tuple #[.agg #[.int .i64 P.words, .int .i64 P.locals, .slice (some ⟨g, 0, none⟩) N N2, .slice (some ⟨h, 0, none⟩) M M2], .slice (some ⟨g, 0, none⟩) N2 N2, .slice (some ⟨h, 0, none⟩) M2 M2]) (by simp [results, Tryz.results12, go_sem, z0, z1, z2, z3]; try rfl) rfl ?_
  have q1 : P.n + 2 = N2 := by rw [HN.out.1]; exact HN.out.2.2.2.1
  have q2 : P.m + 2 = M2 := by rw [HN.out.2.1]; exact HN.out.2.2.2.2.2
  unfold RmA
  rw [q1, q2, HN.out.1, HN.out.2.1]
  exact ⟨g, h, rfl, o1, o2, hbF⟩
end Go.Proofs.YtopggemomcoalaaGreat
