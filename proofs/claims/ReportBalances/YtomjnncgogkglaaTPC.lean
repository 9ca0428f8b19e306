import Derived.Test.YtomjnncgogkglaaTPB
namespace Go.Proofs.Ytomjnncgogkglaa
open Go.ChangeShapes Go.WideShapes Go.ChangeAt Go.RowKit
set_option linter.unusedVariables false
set_option linter.unusedSimpArgs false

theorem bal_m {e wk : Int} {a b : Nat} (h1 : e = 0 → (a : Int) = wk) (h2 : e ≠ 0 → a = 0) (g1 : e = 0 → (b : Int) = wk) (g2 : e ≠ 0 → b = 0) : a = b := by
  by_cases e0 : e = 0
  · have := h1 e0
    have := g1 e0
    omega
  · have := h2 e0
    have := g2 e0
    omega
theorem bal_le {l : Ly} {nx : Nat} {X : Nat → Se} {e : Int} {a : Nat} (h : BE l nx X e) (h1 : e = 0 → (a : Int) = l.wk) (h2 : e ≠ 0 → a = 0) : a ≤ 17592186044416 := by
  by_cases e0 : e = 0
  · have := h1 e0
    have := h.wk e0
    omega
  · have := h2 e0
    omega
theorem bal_any (l : Ly) (u : LyV) (ak ac aa0 aa1 aa2 am : Int) (aq ax : Option Addr) (an acq anx acx : Nat) (X : Nat → Se) (hln : l.n ≤ 17592186044416) (hn : anx ≤ 2932031007402) (w : World) (hO : KAt w u.op l.n l.O) (hX : SIn w ax anx X) : Calls Try.prog 16 #[.agg #[.int .i64 l.wk, .slice u.op l.n u.oc, .int .i64 l.ar, .int .i64 l.bx, .int .i64 l.un], .agg #[.int .i64 ak, .int .i64 ac, .int .u64 aa0, .int .i64 aa1, .int .u64 aa2, .int .i64 am, .slice aq an acq, .slice ax anx acx]] w fun e w' => ∃ (p : Option Addr) (m c : Nat) (e9 : Int), e = .returned (.tuple #[.slice p m c, .int .i64 e9]) ∧ BE l anx X e9 ∧ KAt w' p m (fun k => cnt l.O X k anx) ∧ (e9 = 0 → (m : Int) = l.wk) ∧ (e9 ≠ 0 → m = 0) ∧ Below w.heap.size w w' := by
  by_cases h : 1 ≤ l.wk ∧ l.wk ≤ 64
  · exact bal_in l u ak ac aa0 aa1 aa2 am aq ax an acq anx acx X hln hn w hO hX h
  · exact bal_w l u ak ac aa0 aa1 aa2 am aq ax an acq anx acx X hln hn w hO hX (by omega)
theorem rbal_any (l : Ly) (u : LyV) (ak ac aa0 aa1 aa2 am : Int) (aq ax : Option Addr) (an acq anx acx : Nat) (X : Nat → Se) (hln : l.n ≤ 17592186044416) (hn : anx ≤ 2932031007402) (w : World) (hO : KAt w u.op l.n l.O) (hX : SIn w ax anx X) : Calls Try.prog 18 #[.agg #[.int .i64 l.wk, .slice u.op l.n u.oc, .int .i64 l.ar, .int .i64 l.bx, .int .i64 l.un], .agg #[.int .i64 ak, .int .i64 ac, .int .u64 aa0, .int .i64 aa1, .int .u64 aa2, .int .i64 am, .slice aq an acq, .slice ax anx acx]] w fun e w' => ∃ (p : Option Addr) (m c : Nat) (e9 : Int), e = .returned (.tuple #[.slice p m c, .int .i64 e9]) ∧ BE l anx X e9 ∧ KAt w' p m (fun k => cnt l.O X k anx) ∧ (e9 = 0 → (m : Int) = l.wk) ∧ (e9 ≠ 0 → m = 0) ∧ Below w.heap.size w w' := by
  by_cases h : 1 ≤ l.wk ∧ l.wk ≤ 64
  · exact rbal_in l u ak ac aa0 aa1 aa2 am aq ax an acq anx acx X hln hn w hO hX h
  · exact rbal_w l u ak ac aa0 aa1 aa2 am aq ax an acq anx acx X hln hn w hO hX (by omega)
set_option maxRecDepth 100000 in
set_option maxHeartbeats 4000000 in
theorem balances_law (l : Ly) (u : LyV) (ak ac aa0 aa1 aa2 am : Int) (aq ax : Option Addr) (an acq anx acx : Nat) (A : Nat → Sa) (K : Nat → Nat → Int) (X : Nat → Se) (hq : an * 40 ≤ 140737488355328) (hqw : ∀ j, j < an → (A j).n ≤ 17592186044416) (hln : l.n ≤ 17592186044416) (hn : anx ≤ 2932031007402) (w : World) (hO : KAt w u.op l.n l.O) (hS : SsAt w aq an A K) (hX : SIn w ax anx X) :
    Calls Try.prog 6 #[.agg #[.int .i64 l.wk, .slice u.op l.n u.oc, .int .i64 l.ar, .int .i64 l.bx, .int .i64 l.un], .agg #[.int .i64 ak, .int .i64 ac, .int .u64 aa0, .int .i64 aa1, .int .u64 aa2, .int .i64 am, .slice aq an acq, .slice ax anx acx]] w fun e w' => e = .returned (.bool true) ∧ Below w.heap.size w w' := by
  obtain ⟨wb, hwb, hb0, hbx1, hbx2, hsz⟩ := kboxed2 w #[.int .i64 l.wk, .slice u.op l.n u.oc, .int .i64 l.ar, .int .i64 l.bx, .int .i64 l.un] #[.int .i64 ak, .int .i64 ac, .int .u64 aa0, .int .i64 aa1, .int .u64 aa2, .int .i64 am, .slice aq an acq, .slice ax anx acx] 46 29
  have HW : Hid ((w.alloc (.cells #[.int .i64 l.wk, .slice u.op l.n u.oc, .int .i64 l.ar, .int .i64 l.bx, .int .i64 l.un] 46)).alloc (.cells #[.int .i64 ak, .int .i64 ac, .int .u64 aa0, .int .i64 aa1, .int .u64 aa2, .int .i64 am, .slice aq an acq, .slice ax anx acx] 29) = wb) := hwb
  have KK : ∀ w', Below wb.heap.size wb w' → Hid ((w'.cell? ⟨w.heap.size, 0, none⟩ = some (.int .i64 l.wk) ∧ w'.cell? ⟨w.heap.size, 1, none⟩ = some (.slice u.op l.n u.oc) ∧ w'.cell? ⟨w.heap.size, 2, none⟩ = some (.int .i64 l.ar) ∧ w'.cell? ⟨w.heap.size, 3, none⟩ = some (.int .i64 l.bx) ∧ w'.cell? ⟨w.heap.size, 4, none⟩ = some (.int .i64 l.un)) ∧ (w'.cell? ⟨w.heap.size + 1, 0, none⟩ = some (.int .i64 ak) ∧ w'.cell? ⟨w.heap.size + 1, 1, none⟩ = some (.int .i64 ac) ∧ w'.cell? ⟨w.heap.size + 1, 2, none⟩ = some (.int .u64 aa0) ∧ w'.cell? ⟨w.heap.size + 1, 3, none⟩ = some (.int .i64 aa1) ∧ w'.cell? ⟨w.heap.size + 1, 4, none⟩ = some (.int .u64 aa2) ∧ w'.cell? ⟨w.heap.size + 1, 5, none⟩ = some (.int .i64 am) ∧ w'.cell? ⟨w.heap.size + 1, 6, none⟩ = some (.slice aq an acq) ∧ w'.cell? ⟨w.heap.size + 1, 7, none⟩ = some (.slice ax anx acx))) := fun w' hb => ⟨cells5p ((hb.block _ (lt_of_block hbx1)).trans hbx1), cells8k ((hb.block _ (lt_of_block hbx2)).trans hbx2)⟩
  have hbd : Below wb.heap.size wb wb.drew := (Below.refl _ wb).drew
  have HX : Hid (SIn wb ax anx X) := hX.below hb0
  have HO : Hid (KAt wb u.op l.n l.O) := hO.below hb0
  have HSS : Hid (SsAt wb aq an A K) := hS.below hb0
  have HC1 := copyLayout_any l u wb.drew hln (HO.out.below hbd)
  have HC2 : ∀ W, Below wb.heap.size wb W → Hid (Calls Try.prog 12 #[.agg #[.int .i64 ak, .int .i64 ac, .int .u64 aa0, .int .i64 aa1, .int .u64 aa2, .int .i64 am, .slice aq an acq, .slice ax anx acx]] W fun e w' => ∃ (q' : Option Addr) (cq' : Nat) (C : Nat → Sa) (x' : Option Addr) (cx' : Nat), e = .returned (.agg #[.int .i64 ak, .int .i64 ac, .int .u64 aa0, .int .i64 aa1, .int .u64 aa2, .int .i64 am, .slice q' an cq', .slice x' anx cx']) ∧ SsAt w' q' an C K ∧ SaEq an A C ∧ SIn w' x' anx X ∧ Below W.heap.size W w') := fun W hb => copyResult_any ak ac aa0 aa1 aa2 am aq ax an acq anx acx A K X hq hqw hn W (HSS.out.below hb) (HX.out.below hb)
  have HC4 : ∀ W, Below wb.heap.size wb W → Hid (Calls Try.prog 18 #[.agg #[.int .i64 l.wk, .slice u.op l.n u.oc, .int .i64 l.ar, .int .i64 l.bx, .int .i64 l.un], .agg #[.int .i64 ak, .int .i64 ac, .int .u64 aa0, .int .i64 aa1, .int .u64 aa2, .int .i64 am, .slice aq an acq, .slice ax anx acx]] W fun e w' => ∃ (p : Option Addr) (m c : Nat) (e9 : Int), e = .returned (.tuple #[.slice p m c, .int .i64 e9]) ∧ BE l anx X e9 ∧ KAt w' p m (fun k => cnt l.O X k anx) ∧ (e9 = 0 → (m : Int) = l.wk) ∧ (e9 ≠ 0 → m = 0) ∧ Below W.heap.size W w') := fun W hb => rbal_any l u ak ac aa0 aa1 aa2 am aq ax an acq anx acx X hln hn W (HO.out.below hb) (HX.out.below hb)
  have KP0 := (KK wb.drew hbd).out
  have HB0 : Hid (Below w.heap.size w wb) := hb0
  clear hwb hX hO hS hsz hbx1 hbx2 hb0
  go_enter Try.func6, Try.ntmps6
  go_upto_region 1 with fail
  rw [HW.out]
  go_region_held3 (fun w' => (w'.cell? ⟨w.heap.size, 0, none⟩ = some (.int .i64 l.wk) ∧ w'.cell? ⟨w.heap.size, 1, none⟩ = some (.slice u.op l.n u.oc) ∧ w'.cell? ⟨w.heap.size, 2, none⟩ = some (.int .i64 l.ar) ∧ w'.cell? ⟨w.heap.size, 3, none⟩ = some (.int .i64 l.bx) ∧ w'.cell? ⟨w.heap.size, 4, none⟩ = some (.int .i64 l.un)) ∧ (w'.cell? ⟨w.heap.size + 1, 0, none⟩ = some (.int .i64 ak) ∧ w'.cell? ⟨w.heap.size + 1, 1, none⟩ = some (.int .i64 ac) ∧ w'.cell? ⟨w.heap.size + 1, 2, none⟩ = some (.int .u64 aa0) ∧ w'.cell? ⟨w.heap.size + 1, 3, none⟩ = some (.int .i64 aa1) ∧ w'.cell? ⟨w.heap.size + 1, 4, none⟩ = some (.int .u64 aa2) ∧ w'.cell? ⟨w.heap.size + 1, 5, none⟩ = some (.int .i64 am) ∧ w'.cell? ⟨w.heap.size + 1, 6, none⟩ = some (.slice aq an acq) ∧ w'.cell? ⟨w.heap.size + 1, 7, none⟩ = some (.slice ax anx acx))) (first | with_reducible exact KP0 | with_reducible exact KP1 | with_reducible exact KP2 | with_reducible exact KP3 | go_keep) (first | (go_at_call 17; (with_reducible refine HC1.mono ?_); rintro e w1 ⟨u1, rfl, hp1, hb1⟩; have hw1 : Below wb.heap.size wb w1 := hbd.trans (hb1.mono hbd.size); have KP1 := (KK w1 hw1).out; have H1 : Hid (KAt w1 u1.op l.n l.O) := hp1; clear hp1 hb1) | (go_at_call 12; (with_reducible refine (HC2 w1 hw1).out.mono ?_); rintro e w2 ⟨q2, cq2, C2, x2, cx2, rfl, -, -, hx2, hb2⟩; have hw2 : Below wb.heap.size wb w2 := hw1.trans (hb2.mono hw1.size); have KP2 := (KK w2 hw2).out; have HC3 := bal_any l u1 ak ac aa0 aa1 aa2 am q2 x2 an cq2 anx cx2 X hln hn w2 (H1.out.below hb2) hx2; clear hx2 hb2) | (go_at_call 16; (with_reducible refine HC3.mono ?_); rintro e w3 ⟨p3, m3, c3, e3, rfl, he3, hk3, hm3, hz3, hb3⟩; have hw3 : Below wb.heap.size wb w3 := hw2.trans (hb3.mono hw2.size); have KP3 := (KK w3 hw3).out; have H3 : Hid (BE l anx X e3 ∧ KAt w3 p3 m3 (fun k => cnt l.O X k anx) ∧ (e3 = 0 → (m3 : Int) = l.wk) ∧ (e3 ≠ 0 → m3 = 0)) := ⟨he3, hk3, hm3, hz3⟩; clear he3 hk3 hm3 hz3 hb3))
  all_goals (
    go_wp2_with (first | (go_at_call 18; (with_reducible refine (HC4 w3 hw3).out.mono ?_); rintro e w4 ⟨p4, m4, c4, e4, rfl, he4, hk4, hm4, hz4, hb4⟩; have hw4 : Below wb.heap.size wb w4 := hw3.trans (hb4.mono hw3.size); obtain rfl : e3 = e4 := H3.out.1.one he4; obtain rfl : m3 = m4 := bal_m H3.out.2.2.1 H3.out.2.2.2 hm4 hz4; have hm64 : m3 ≤ 17592186044416 := bal_le he4 hm4 hz4; have HSI := sameInts_any p3 p4 m3 m3 c3 c4 (fun k => cnt l.O X k anx) (fun k => cnt l.O X k anx) hm64 w4 (H3.out.2.1.below hb4) hk4; rw [sameF_yes (fun j hj => rfl)] at HSI; have H4 : Hid (Below wb.heap.size wb w4) := hw4; clear he4 hk4 hm4 hz4 hb4 hw4) | (go_at_call 19; (with_reducible refine HSI.mono ?_); rintro e w5 ⟨rfl, hb5⟩; have H5 : Hid (Below w.heap.size w w5) := (by have h9 := H4.out.trans (hb5.mono H4.out.size); exact HB0.out.trans (h9.mono HB0.out.size)); clear hb5))
    go_ret
    exact ⟨by simp, H5.out⟩)
end Go.Proofs.Ytomjnncgogkglaa
