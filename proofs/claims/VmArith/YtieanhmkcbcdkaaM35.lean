import Derived.Test.YtieanhmkcbcdkaaM34
import Derived.Test.YtieanhmkcbcdkaaM26
import Derived.Deep.DeepCutAuto
namespace Go.Proofs.Ytieanhmkcbcdkaa
open Go.ChangeShapes Go.WideShapes Go.ChangeAt Go.RowKit
set_option linter.unusedVariables false
set_option linter.unusedSimpArgs false

theorem eight {w wq : World} {o0 o1 o2 o3 o4 o5 o6 o7 : Obj} (h : ((((((((w.alloc o0).alloc o1).alloc o2).alloc o3).alloc o4).alloc o5).alloc o6).alloc o7) = wq) : (wq.heap[w.heap.size]? = some o0 ∧ wq.heap[w.heap.size + 1]? = some o1 ∧ wq.heap[w.heap.size + 2]? = some o2 ∧ wq.heap[w.heap.size + 3]? = some o3 ∧ wq.heap[w.heap.size + 4]? = some o4 ∧ wq.heap[w.heap.size + 5]? = some o5 ∧ wq.heap[w.heap.size + 6]? = some o6 ∧ wq.heap[w.heap.size + 7]? = some o7) ∧ wq.heap.size = w.heap.size + 8 ∧ Below w.heap.size w wq := by
  subst h
  refine ⟨⟨?_, ?_, ?_, ?_, ?_, ?_, ?_, ?_⟩, by simp, ?_⟩
  · have := World.alloc_heap_new (w) o0
    rw [Below.heap_alloc _ _ _ (by simp; try omega), Below.heap_alloc _ _ _ (by simp; try omega), Below.heap_alloc _ _ _ (by simp; try omega), Below.heap_alloc _ _ _ (by simp; try omega), Below.heap_alloc _ _ _ (by simp; try omega), Below.heap_alloc _ _ _ (by simp; try omega), Below.heap_alloc _ _ _ (by simp; try omega)]
    exact this
  · have := World.alloc_heap_new ((w).alloc o0) o1
    rw [World.size_alloc] at this
    rw [Below.heap_alloc _ _ _ (by simp; try omega), Below.heap_alloc _ _ _ (by simp; try omega), Below.heap_alloc _ _ _ (by simp; try omega), Below.heap_alloc _ _ _ (by simp; try omega), Below.heap_alloc _ _ _ (by simp; try omega), Below.heap_alloc _ _ _ (by simp; try omega)]
    exact this
  · have := World.alloc_heap_new (((w).alloc o0).alloc o1) o2
    rw [World.size_alloc, World.size_alloc] at this
    rw [Below.heap_alloc _ _ _ (by simp; try omega), Below.heap_alloc _ _ _ (by simp; try omega), Below.heap_alloc _ _ _ (by simp; try omega), Below.heap_alloc _ _ _ (by simp; try omega), Below.heap_alloc _ _ _ (by simp; try omega)]
    exact this
  · have := World.alloc_heap_new ((((w).alloc o0).alloc o1).alloc o2) o3
    rw [World.size_alloc, World.size_alloc, World.size_alloc] at this
    rw [Below.heap_alloc _ _ _ (by simp; try omega), Below.heap_alloc _ _ _ (by simp; try omega), Below.heap_alloc _ _ _ (by simp; try omega), Below.heap_alloc _ _ _ (by simp; try omega)]
    exact this
  · have := World.alloc_heap_new (((((w).alloc o0).alloc o1).alloc o2).alloc o3) o4
    rw [World.size_alloc, World.size_alloc, World.size_alloc, World.size_alloc] at this
    rw [Below.heap_alloc _ _ _ (by simp; try omega), Below.heap_alloc _ _ _ (by simp; try omega), Below.heap_alloc _ _ _ (by simp; try omega)]
    exact this
  · have := World.alloc_heap_new ((((((w).alloc o0).alloc o1).alloc o2).alloc o3).alloc o4) o5
    rw [World.size_alloc, World.size_alloc, World.size_alloc, World.size_alloc, World.size_alloc] at this
    rw [Below.heap_alloc _ _ _ (by simp; try omega), Below.heap_alloc _ _ _ (by simp; try omega)]
    exact this
  · have := World.alloc_heap_new (((((((w).alloc o0).alloc o1).alloc o2).alloc o3).alloc o4).alloc o5) o6
    rw [World.size_alloc, World.size_alloc, World.size_alloc, World.size_alloc, World.size_alloc, World.size_alloc] at this
    rw [Below.heap_alloc _ _ _ (by simp; try omega)]
    exact this
  · have := World.alloc_heap_new ((((((((w).alloc o0).alloc o1).alloc o2).alloc o3).alloc o4).alloc o5).alloc o6) o7
    rw [World.size_alloc, World.size_alloc, World.size_alloc, World.size_alloc, World.size_alloc, World.size_alloc, World.size_alloc] at this
    exact this
  · exact (((((((((Below.refl _ w).alloc (by simp; try omega) o0).alloc (by simp; try omega) o1).alloc (by simp; try omega) o2).alloc (by simp; try omega) o3).alloc (by simp; try omega) o4).alloc (by simp; try omega) o5).alloc (by simp; try omega) o6).alloc (by simp; try omega) o7)
def arV (n : Nat) : PgV := ⟨some ⟨n + 1, 0, none⟩, 5, some ⟨n + 2, 0, none⟩, 1⟩
theorem ar_prog {W : World} {n : Nat} {o a b : Int} (h1 : W.heap[n + 1]? = some (.cells #[.int .i64 1, .int .i64 a, .int .i64 0, .int .i64 1, .int .i64 b, .int .i64 0, .int .i64 o, .int .i64 0, .int .i64 0, .int .i64 4, .int .i64 0, .int .i64 0, .int .i64 0, .int .i64 0, .int .i64 0] 51 (0, 0))) (h2 : W.heap[n + 2]? = some (.cells #[.int .i64 0] 3 (0, 0))) : PAt W (arP o a b) (arV n) := by
  refine ⟨.inr ⟨_, _, rfl, (Array.getElem?_eq_some_iff.1 h1).1, fun j hj => ?_⟩, .inr ⟨_, _, rfl, (Array.getElem?_eq_some_iff.1 h2).1, fun j hj => ?_⟩⟩
  · rcases five hj with rfl | rfl | rfl | rfl | rfl
    all_goals exact ⟨(cell_of h1 _).trans rfl, (cell_of h1 _).trans rfl, (cell_of h1 _).trans rfl⟩
  · have hj' : j < 1 := hj
    obtain rfl : j = 0 := by omega
    exact (cell_of h2 _).trans rfl
theorem ar_call {W : World} {n : Nat} (h : W.heap[n + 4]? = some (.cells #[.int .i64 (-5)] 2 (0, 0))) : CallAt W arC (some ⟨n + 4, 0, none⟩) 1 1 (fun _ => -5) 0 0 := by
  refine ⟨.inr ⟨_, _, rfl, (Array.getElem?_eq_some_iff.1 h).1, fun j hj => ?_⟩, (fun h => by cases h), by omega, ⟨⟨by decide, by decide⟩, ⟨by decide, by decide⟩, ⟨by decide, by decide⟩, ⟨by decide, by decide⟩⟩, fun _ => ⟨by decide, by decide⟩, ⟨by decide, by decide⟩, ⟨by decide, by decide⟩⟩
  obtain rfl : j = 0 := by omega
  exact (cell_of h _).trans rfl
theorem ar_kat {W : World} {g : Nat} {x : Int} (h : W.heap[g]? = some (.cells #[.int .i64 x] 2 (0, 0))) : KAt W (some ⟨g, 0, none⟩) 1 (fun _ => x) := by
  refine .inr ⟨_, _, rfl, (Array.getElem?_eq_some_iff.1 h).1, fun j hj => ?_⟩
  obtain rfl : j = 0 := by omega
  exact (cell_of h _).trans rfl
theorem ar_vmrun (o a b : Int) (n : Nat) (w : World) (ho : isPair o) (ha : In64 a) (hb : In64 b) (h : PAt w (arP o a b) (arV n)) (hc : CallAt w arC (some ⟨n + 4, 0, none⟩) 1 1 (fun _ => -5) 0 0) : Calls Try.prog 10 #[.agg #[.int .i64 1, .int .i64 0, .slice (some ⟨n + 1, 0, none⟩) 5 5, .slice (some ⟨n + 2, 0, none⟩) 1 1], .agg #[.int .u64 0, .int .i64 0, .int .u64 0, .int .i64 0, .int .i64 0, .int .i64 0, .slice (some ⟨n + 4, 0, none⟩) 1 1, .int .u64 0, .int .u64 0, .int .u64 0, .int .i64 1, .int .i64 10]] w fun e w' => ∃ E, EfEq E (arE o a b) ∧ ∃ (wp : Option Addr) (wc : Nat) (op : Option Addr) (oc : Nat), e = .returned (.agg #[.int .i64 E.code, .slice wp E.nw wc, .int .u64 E.dice, .int .u64 E.sent, .slice op E.on oc, .int .i64 E.used]) ∧ EfL w' (.agg #[.int .i64 E.code, .slice wp E.nw wc, .int .u64 E.dice, .int .u64 E.sent, .slice op E.on oc, .int .i64 E.used]) E ∧ Below w.heap.size w w' := by
  refine (vmRun (arP o a b) (arV n) arC (some ⟨n + 4, 0, none⟩) 1 1 (fun _ => -5) 0 0 w h hc (by
    intro i hi
    rcases five hi with rfl | rfl | rfl | rfl | rfl
    · exact ha
    · exact hb
    · exact in64_0
    · exact in64_0
    · exact in64_0)).mono ?_
  rintro e w' ⟨r, rfl, hE, hb⟩
  have hl := hE.lies
  obtain ⟨wp, wc, op, oc, rfl, h1, h2⟩ := hE
  exact ⟨_, ar_eff o a b ho, wp, wc, op, oc, rfl, hl, hb⟩
theorem arE_on (o a b : Int) : (arE o a b).on = 0 ∧ (arE o a b).nw = 1 := by
  unfold arE
  split <;> exact ⟨rfl, rfl⟩
set_option maxRecDepth 100000 in
set_option maxHeartbeats 8000000 in
theorem arith_law (n a b : Int) (w : World) (ha : In64 a) (hb : In64 b) :
    Calls Try.prog 7 #[.int .i64 n, .int .i64 a, .int .i64 b] w fun e w' => e = .returned (.bool true) ∧ Below w.heap.size w w' := by
  have HM := mod18_any n
  have HB : Hid (In64 b) := hb
  have HA : Hid (In64 a) := ha
  clear ha hb
  go_enter Try.func7, Try.ntmps7
  go_wp2_with (first | (go_at_call 18; (with_reducible refine (HM _).mono ?_); rintro e w1 ⟨m, hm, rfl, rfl⟩; obtain ⟨o, ho, hop⟩ := ops18 m hm; have HO : Hid (isPair o) := ho; have m0 : (0 : Int) ≤ (m : Int) := (by omega); have m1 : (m : Int) < 18 := (by omega); clear ho hm; have HRK := reckoned_any o a b HO.out HB.out; generalize hpv : pairV o a b = pv at HRK; have HPV : Hid (pairV o a b = pv) := hpv; clear hpv) | (go_at_call 19; (with_reducible refine (HRK _).mono ?_); rintro e w2 ⟨rfl, rfl⟩))
  · rename_i hpz _ _
    have hz : pv.2 = 0 := by simpa using hpz
    generalize hq : (World.alloc (World.alloc (World.alloc (World.alloc (World.alloc (World.alloc (World.alloc (World.alloc (World.alloc w _) _) _) _) _) _) _) _) _) = wq
    obtain ⟨⟨h0, h1, h2, h3, h4, h5, h6, h7, h8⟩, hsz, hbq⟩ := nine hq
    have hP : PAt wq (arP o a b) (arV w.heap.size) := ar_prog h1 h2
    have hC := ar_call (n := w.heap.size) h4
    have hEq : arE o a b = ⟨0, 1, fun _ => pv.1, 0, 0, 0, fun _ => undef, 5⟩ := by unfold arE; rw [HPV.out, if_pos hz]
    have hE : EfL wq (.agg #[.int .i64 0, .slice (some ⟨w.heap.size + 8, 0, none⟩) 1 1, .int .u64 0, .int .u64 0, .slice none 0 0, .int .i64 5]) (arE o a b) := by rw [hEq]; exact ⟨_, _, _, _, rfl, ar_kat h8, .inl rfl⟩
    have hsh : EvSh (arE o a b).on (arE o a b).oF := by rw [(arE_on o a b).1]; exact EvSh.zero _
    have hn1 : (arE o a b).nw ≤ 17592186044416 := by rw [(arE_on o a b).2]; decide
    have hn2 : (arE o a b).on ≤ 1000000 := by rw [(arE_on o a b).1]; decide
    clear hq hEq hpz hz HM HRK hop m0 m1
    have hlq := hsz
    have HR := ar_vmrun o a b w.heap.size wq.drew HO.out HA.out HB.out (hP.below (below_drewNq _ wq 1)) (hC.below (below_drewNq _ wq 1))
    refine wp_region_held_drew (S := fun W => Below wq.heap.size wq W) (by kernel_rfl) (below_drewNq _ wq 1) (fun hHeld => ?_)
    refine wpAnyH_take (i := 0) (v := ?hv0u1) rfl (by kernel_rfl) (by kernel_rfl) (by kernel_rfl) (fun _ _ _ h => h) (Or.inl ⟨by rfl, ?hy0u1⟩) (by assumption) ?hr0u1
    case hy0u1 => ((intro W hSw; obtain ⟨a0, a1, a2, a3⟩ := cells4 ((hSw.block _ (by omega)).trans h3); go_simp); try with_reducible rfl)
    simp only [List.getElem_toArray, List.getElem_cons_zero, List.getElem_cons_succ, Act.put, List.setIfInBounds_toArray, List.set_cons_zero, List.set_cons_succ]
    refine wpAnyH_take (i := 1) (v := ?hv1u2) rfl (by kernel_rfl) (by kernel_rfl) (by kernel_rfl) (fun _ _ _ h => h) (Or.inl ⟨by rfl, ?hy1u2⟩) (by assumption) ?hr1u2
    case hy1u2 => ((intro W hSw; obtain ⟨⟨b0, b1, b2, b3, b4, b5⟩, b6, b7, b8, b9, b10, b11⟩ := cells12 ((hSw.block _ (by omega)).trans h5); go_simp); try with_reducible rfl)
    simp only [List.getElem_toArray, List.getElem_cons_zero, List.getElem_cons_succ, Act.put, List.setIfInBounds_toArray, List.set_cons_zero, List.set_cons_succ]
    refine wpAnyH_take (i := 3) (v := ?hv3u3) rfl (by kernel_rfl) (by kernel_rfl) (by kernel_rfl) (fun _ _ _ h => h) (Or.inl ⟨by rfl, ?hy3u3⟩) (by assumption) ?hr3u3
    case hy3u3 => ((intro W hSw; obtain ⟨⟨r0, r1, r2, r3, r4, r5⟩, _⟩ := cells6' ((hSw.block _ (by omega)).trans h7); go_simp); try with_reducible rfl)
    simp only [List.getElem_toArray, List.getElem_cons_zero, List.getElem_cons_succ, Act.put, List.setIfInBounds_toArray, List.set_cons_zero, List.set_cons_succ]
    refine wpAnyH_ready (rs := [2]) (by kernel_rfl) (by simp) (AllReadyH.cons rfl (fun KK hK => ?_) AllReadyH.nil)
    all_goals dsimp -proj only [List.getElem_toArray, List.getElem_cons_zero, List.getElem_cons_succ]
    go_simp
    go_at_call 10
    refine HR.mono ?_
    rintro e w3 ⟨G, hGE, wp, wc, op, oc, rfl, hGL, hb3⟩
    try go_wp2_with fail
    have hs3 : Below wq.heap.size wq w3 := (below_drewNq _ wq 1).trans (hb3.mono (Nat.le_refl _))
    refine hK.out _ _ hs3 (fun hHeld => ?_)
    clear hK KK
    try simp only [Act.put, List.setIfInBounds_toArray, List.set_cons_zero, List.set_cons_succ]
    have HS := sameEffect_yes G _ (.agg #[.int .i64 0, .slice (some ⟨w.heap.size + 8, 0, none⟩) 1 1, .int .u64 0, .int .u64 0, .slice none 0 0, .int .i64 5]) w3 hGL ((hE.below hs3).eqv hGE.symm) (hsh.congr hGE.on.symm (fun j hj => hGE.symm.oF j hj)) (by rw [hGE.nw]; exact hn1) (by rw [hGE.on]; exact hn2)
    refine wpAnyH_ready (rs := [4]) (by kernel_rfl) (by simp) (AllReadyH.cons rfl (fun KK hK => ?_) AllReadyH.nil)
    all_goals dsimp -proj only [List.getElem_toArray, List.getElem_cons_zero, List.getElem_cons_succ]
    go_simp
    go_at_call 13
    refine HS.mono ?_
    rintro e w6 ⟨rfl, hb6⟩
    try go_wp2_with fail
    have hs6 : Below wq.heap.size wq w6 := hs3.trans (hb6.mono hs3.size)
    refine hK.out _ _ hs6 (fun hHeld => ?_)
    clear hK KK
    try simp only [Act.put, List.setIfInBounds_toArray, List.set_cons_zero, List.set_cons_succ]
    refine wpAnyH_take (i := 5) (v := ?hv5u4) rfl (by kernel_rfl) (by kernel_rfl) (by kernel_rfl) (fun _ _ _ h => h) (Or.inl ⟨by rfl, ?hy5u4⟩) (by assumption) ?hr5u4
    case hy5u4 => ((intro W hSw; go_simp); try with_reducible rfl)
    simp only [List.getElem_toArray, List.getElem_cons_zero, List.getElem_cons_succ, Act.put, List.setIfInBounds_toArray, List.set_cons_zero, List.set_cons_succ]
    refine wpAnyH_done (by kernel_rfl) ?_ _
    go_wp2
    go_ret
    exact ⟨rfl, hbq.trans (hs6.mono hbq.size)⟩
  · rename_i hpz _ _
    have hz : pv.2 ≠ 0 := by simpa using hpz
    generalize hq : (World.alloc (World.alloc (World.alloc (World.alloc (World.alloc (World.alloc (World.alloc (World.alloc w _) _) _) _) _) _) _) _) = wq
    obtain ⟨⟨h0, h1, h2, h3, h4, h5, h6, h7⟩, hsz, hbq⟩ := eight hq
    have hP : PAt wq (arP o a b) (arV w.heap.size) := ar_prog h1 h2
    have hC := ar_call (n := w.heap.size) h4
    have hEq : arE o a b = ⟨pv.2, 1, fun _ => -5, 0, 0, 0, fun _ => undef, 3⟩ := by unfold arE; rw [HPV.out, if_neg hz]
    have hE : EfL wq (.agg #[.int .i64 pv.2, .slice (some ⟨w.heap.size + 6, 0, none⟩) 1 1, .int .u64 0, .int .u64 0, .slice none 0 0, .int .i64 3]) (arE o a b) := by rw [hEq]; exact ⟨_, _, _, _, rfl, ar_kat h6, .inl rfl⟩
    have hsh : EvSh (arE o a b).on (arE o a b).oF := by rw [(arE_on o a b).1]; exact EvSh.zero _
    have hn1 : (arE o a b).nw ≤ 17592186044416 := by rw [(arE_on o a b).2]; decide
    have hn2 : (arE o a b).on ≤ 1000000 := by rw [(arE_on o a b).1]; decide
    clear hq hEq hpz hz HM HRK hop m0 m1
    have hlq := hsz
    have HR := ar_vmrun o a b w.heap.size wq.drew HO.out HA.out HB.out (hP.below (below_drewNq _ wq 1)) (hC.below (below_drewNq _ wq 1))
    refine wp_region_held_drew (S := fun W => Below wq.heap.size wq W) (by kernel_rfl) (below_drewNq _ wq 1) (fun hHeld => ?_)
    refine wpAnyH_take (i := 0) (v := ?hv0u5) rfl (by kernel_rfl) (by kernel_rfl) (by kernel_rfl) (fun _ _ _ h => h) (Or.inl ⟨by rfl, ?hy0u5⟩) (by assumption) ?hr0u5
    case hy0u5 => ((intro W hSw; obtain ⟨a0, a1, a2, a3⟩ := cells4 ((hSw.block _ (by omega)).trans h3); go_simp); try with_reducible rfl)
    simp only [List.getElem_toArray, List.getElem_cons_zero, List.getElem_cons_succ, Act.put, List.setIfInBounds_toArray, List.set_cons_zero, List.set_cons_succ]
    refine wpAnyH_take (i := 1) (v := ?hv1u6) rfl (by kernel_rfl) (by kernel_rfl) (by kernel_rfl) (fun _ _ _ h => h) (Or.inl ⟨by rfl, ?hy1u6⟩) (by assumption) ?hr1u6
    case hy1u6 => ((intro W hSw; obtain ⟨⟨b0, b1, b2, b3, b4, b5⟩, b6, b7, b8, b9, b10, b11⟩ := cells12 ((hSw.block _ (by omega)).trans h5); go_simp); try with_reducible rfl)
    simp only [List.getElem_toArray, List.getElem_cons_zero, List.getElem_cons_succ, Act.put, List.setIfInBounds_toArray, List.set_cons_zero, List.set_cons_succ]
    refine wpAnyH_take (i := 3) (v := ?hv3u7) rfl (by kernel_rfl) (by kernel_rfl) (by kernel_rfl) (fun _ _ _ h => h) (Or.inl ⟨by rfl, ?hy3u7⟩) (by assumption) ?hr3u7
    case hy3u7 => ((intro W hSw; obtain ⟨⟨r0, r1, r2, r3, r4, r5⟩, _⟩ := cells6' ((hSw.block _ (by omega)).trans h7); go_simp); try with_reducible rfl)
    simp only [List.getElem_toArray, List.getElem_cons_zero, List.getElem_cons_succ, Act.put, List.setIfInBounds_toArray, List.set_cons_zero, List.set_cons_succ]
    refine wpAnyH_ready (rs := [2]) (by kernel_rfl) (by simp) (AllReadyH.cons rfl (fun KK hK => ?_) AllReadyH.nil)
    all_goals dsimp -proj only [List.getElem_toArray, List.getElem_cons_zero, List.getElem_cons_succ]
    go_simp
    go_at_call 10
    refine HR.mono ?_
    rintro e w3 ⟨G, hGE, wp, wc, op, oc, rfl, hGL, hb3⟩
    try go_wp2_with fail
    have hs3 : Below wq.heap.size wq w3 := (below_drewNq _ wq 1).trans (hb3.mono (Nat.le_refl _))
    refine hK.out _ _ hs3 (fun hHeld => ?_)
    clear hK KK
    try simp only [Act.put, List.setIfInBounds_toArray, List.set_cons_zero, List.set_cons_succ]
    have HS := sameEffect_yes G _ (.agg #[.int .i64 pv.2, .slice (some ⟨w.heap.size + 6, 0, none⟩) 1 1, .int .u64 0, .int .u64 0, .slice none 0 0, .int .i64 3]) w3 hGL ((hE.below hs3).eqv hGE.symm) (hsh.congr hGE.on.symm (fun j hj => hGE.symm.oF j hj)) (by rw [hGE.nw]; exact hn1) (by rw [hGE.on]; exact hn2)
    refine wpAnyH_ready (rs := [4]) (by kernel_rfl) (by simp) (AllReadyH.cons rfl (fun KK hK => ?_) AllReadyH.nil)
    all_goals dsimp -proj only [List.getElem_toArray, List.getElem_cons_zero, List.getElem_cons_succ]
    go_simp
    go_at_call 13
    refine HS.mono ?_
    rintro e w6 ⟨rfl, hb6⟩
    try go_wp2_with fail
    have hs6 : Below wq.heap.size wq w6 := hs3.trans (hb6.mono hs3.size)
    refine hK.out _ _ hs6 (fun hHeld => ?_)
    clear hK KK
    try simp only [Act.put, List.setIfInBounds_toArray, List.set_cons_zero, List.set_cons_succ]
    refine wpAnyH_take (i := 5) (v := ?hv5u8) rfl (by kernel_rfl) (by kernel_rfl) (by kernel_rfl) (fun _ _ _ h => h) (Or.inl ⟨by rfl, ?hy5u8⟩) (by assumption) ?hr5u8
    case hy5u8 => ((intro W hSw; go_simp); try with_reducible rfl)
    simp only [List.getElem_toArray, List.getElem_cons_zero, List.getElem_cons_succ, Act.put, List.setIfInBounds_toArray, List.set_cons_zero, List.set_cons_succ]
    refine wpAnyH_done (by kernel_rfl) ?_ _
    go_wp2
    go_ret
    exact ⟨rfl, hbq.trans (hs6.mono hbq.size)⟩
end Go.Proofs.Ytieanhmkcbcdkaa
