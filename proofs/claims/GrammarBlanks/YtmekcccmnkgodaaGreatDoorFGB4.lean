import Derived.Test.YtmekcccmnkgodaaGreatDoorFGI6
import Derived.Test.YtmekcccmnkgodaaGreatDoorFGB0
import Derived.Test.YtmekcccmnkgodaaGreatDoorFGPR
import Derived.Test.YtmekcccmnkgodaaGreatDoorFGPQ
import Derived.Test.YtmekcccmnkgodaaGreatDoorFGPV
namespace Go.Proofs.YtmekcccmnkgodaaGreatDoor
open Go.ChangeShapes Go.WideShapes Go.ChangeAt Go.RowKit
set_option linter.unusedVariables false
set_option linter.unusedSimpArgs false
/-! ### grammar.Build -/
/-- how Build ends -/
def BldP (w : World) (R : Pr (List Nat)) (e : Ending) (w' : World) : Prop := Below w.heap.size w w' ∧ match R with
  | .out => False
  | .bad er => ∃ b, w.heap.size ≤ b ∧ e = .returned (.tuple #[.agg #[.slice none 0 0], .iface 56 (.pointer (some ⟨b, 0, none⟩))]) ∧ w'.heap[b]? = some (.cells #[.int .i64 er.line, .int .i64 er.col, .iface 51 (.int .i64 er.code)] 59 (0, 0))
  | .ok s v => ∃ tp tc vs, e = .returned (.tuple #[.agg #[.slice tp (trOf s v).length tc], .nilIface]) ∧ TR w' w.heap.size (.slice tp (trOf s v).length tc) (trOf s v) vs
/-- the parser as it begins -/
theorem pw_start {w w3 : World} {X : Nat → Tk} {n : Nat} {lp : Option Addr} {lc : Nat} (hT : TX w lp n X) (hb : Below w.heap.size w w3) (hs : w3.heap.size = w.heap.size + 3) (hp : w3.heap[w.heap.size + 2]? = some (.cells #[.slice lp n lc, .int .i64 0, .int .i64 0, .slice none 0 0] 79 (0, 0))) : PW w3 (w.heap.size + 2) (w.heap.size + 2) lp lc n X ⟨0, 0, []⟩ [] := by
  refine ⟨⟨.slice none 0 0, hp, World.ownsRow_nil _ _ _ _⟩, ?_, rfl, fun i d v h => by simp at h, fun i j v u b _ h => by simp at h, Nat.le_refl _, Nat.zero_le _, Nat.zero_le _, by omega⟩
  rcases hT.below hb with h | ⟨b, o, e, hl, hc⟩
  · exact .inl h
  · rcases hT with h | ⟨b', o', e', hl', hc'⟩
    · exact .inl h
    · rw [e] at e'
      injection e' with e'
      injection e' with e1 e2 _
      subst e1 e2
      exact .inr ⟨b, o, e, by omega, hc⟩
end Go.Proofs.YtmekcccmnkgodaaGreatDoor
namespace Go.Proofs.YtmekcccmnkgodaaGreatDoor
open Go.ChangeShapes Go.WideShapes Go.ChangeAt Go.RowKit Go.Stop
set_option linter.unusedVariables false
set_option linter.unusedSimpArgs false
/-- the two results' boxes -/
theorem two_box (w : World) : ((w.alloc (.cells #[.slice none 0 0] 24)).alloc (.cells #[.nilIface] 26)).heap[w.heap.size]? = some (.cells #[.slice none 0 0] 24 (0, 0)) ∧ ((w.alloc (.cells #[.slice none 0 0] 24)).alloc (.cells #[.nilIface] 26)).heap[w.heap.size + 1]? = some (.cells #[.nilIface] 26 (0, 0)) ∧ Below w.heap.size w ((w.alloc (.cells #[.slice none 0 0] 24)).alloc (.cells #[.nilIface] 26)) ∧ ((w.alloc (.cells #[.slice none 0 0] 24)).alloc (.cells #[.nilIface] 26)).heap.size = w.heap.size + 2 := by
  refine ⟨?_, ?_, ((Below.refl _ w).alloc (Nat.le_refl _) _).alloc (by simp) _, by simp⟩
  · rw [Below.heap_alloc _ _ _ (by simp)]
    exact World.alloc_heap_new w _
  · have h9 := World.alloc_heap_new (w.alloc (.cells #[.slice none 0 0] 24)) (.cells #[.nilIface] 26 (0, 0))
    rw [World.size_alloc] at h9
    exact h9
/-- the two results, written and read -/
theorem two_res {w1 : World} {n : Nat} (v2 : Value) (ht : ∃ v, w1.heap[n]? = some (.cells #[v] 24 (0, 0))) (he : ∃ v, w1.heap[n + 1]? = some (.cells #[v] 26 (0, 0))) (v1 : Value) : ((w1.setCell ⟨n, 0, none⟩ v1).setCell ⟨n + 1, 0, none⟩ v2).cell? ⟨n, 0, none⟩ = some v1 ∧ ((w1.setCell ⟨n, 0, none⟩ v1).setCell ⟨n + 1, 0, none⟩ v2).cell? ⟨n + 1, 0, none⟩ = some v2 ∧ (∀ b, b ≠ n → b ≠ n + 1 → ((w1.setCell ⟨n, 0, none⟩ v1).setCell ⟨n + 1, 0, none⟩ v2).heap[b]? = w1.heap[b]?) ∧ Below n w1 ((w1.setCell ⟨n, 0, none⟩ v1).setCell ⟨n + 1, 0, none⟩ v2) := by
  obtain ⟨x, ht⟩ := ht
  obtain ⟨y, he⟩ := he
  have h1 := setCell_block w1 n 0 v1 ht
  have h2 : (w1.setCell ⟨n, 0, none⟩ v1).heap[n + 1]? = some (.cells #[y] 26 (0, 0)) := (Below.heap_setCell w1 ⟨n, 0, none⟩ v1 (n + 1) (by show n + 1 ≠ n; omega)).trans he
  have h3 := setCell_block (w1.setCell ⟨n, 0, none⟩ v1) (n + 1) 0 v2 h2
  have h4 := (Below.heap_setCell (w1.setCell ⟨n, 0, none⟩ v1) ⟨n + 1, 0, none⟩ v2 n (by show n ≠ n + 1; omega)).trans h1
  refine ⟨?_, ?_, fun b h5 h6 => ?_, ((Below.refl n w1).setCell (p := ⟨n, 0, none⟩) (Nat.le_refl _) _).setCell (p := ⟨n + 1, 0, none⟩) (Nat.le_succ _) _⟩
  · exact cell_box1 h4
  · exact cell_box1 h3
  · rw [Below.heap_setCell _ ⟨n + 1, 0, none⟩ _ b h6, Below.heap_setCell _ ⟨n, 0, none⟩ _ b h5]
set_option maxRecDepth 100000 in
set_option maxHeartbeats 4000000 in
theorem build_long {X : Nat → Tk} {n : Nat} {lp : Option Addr} {lc : Nat} (w : World) (hT : TX w lp n X) (hn : 16384 < n) (hm : n ≤ maxLen) : Calls Tryz.prog 10 #[.slice lp n lc] w (BldP w (.bad ⟨16384, (X 16384).line, (X 16384).col, 34⟩)) := by
  obtain h9 | ⟨b, o, rfl, hl, hc⟩ := hT
  · omega
  obtain ⟨t0, t1, t2, t3, t4⟩ := TX.at hc hn
  generalize X 16384 = t at *
  simp only [Nat.reduceMul, Nat.add_assoc, Nat.reduceAdd] at t0 t1 t2 t3 t4
  have hmf : ∀ (fn : Fn) (first cap : Array Value) (w : World), (Instr.makeFunc fn first cap).run Tryz.prog w = .ok (.func fn first cap) w := fun _ _ _ _ => rfl
  have d1 : decide ((n : Int) > 16384) = true := decide_eq_true (by omega)
  have d2 : decide ((16384 : Int) < (n : Int)) = true := decide_eq_true (by omega)
  have d3 : decide (16384 < n) = true := decide_eq_true hn
  have i1 : (16384 : Int) < (n : Int) := by omega
  have nb1 : ¬ (w.heap.size = b) := by omega
  have nb2 : ¬ (w.heap.size + 1 = b) := by omega
  have HF : Hid (∀ W, Calls Tryz.prog 19 #[.agg #[.int .i64 t.kind, .string ⟨t.text.toArray⟩, .int .u64 (t.num : Int), .int .i64 t.line, .int .i64 t.col], .int .i64 34] W fun e w' => ∃ b, W.heap.size ≤ b ∧ e = .returned (.iface 56 (.pointer (some ⟨b, 0, none⟩))) ∧ w'.heap[b]? = some (.cells #[.int .i64 t.line, .int .i64 t.col, .iface 51 (.int .i64 34)] 59 (0, 0)) ∧ Below W.heap.size W w') := fun W => faultAt_any t 34 W
  have HW := mhid (two_box w)
  clear hc hm
  go_enter_defers Tryz.func10, Tryz.ntmps10
  go_wp2_with (go_at_call 19; (with_reducible refine (HF.out _).mono ?_); rintro e w1 ⟨b9, h91, rfl, h93, h94⟩; have ht1 := (h94.block w.heap.size (by simp <;> omega)).trans HW.out.1; have he1 := (h94.block (w.heap.size + 1) (by simp <;> omega)).trans HW.out.2.1; have ct := cell_box1 ht1; have ce := cell_box1 he1; have ft : w1.frozen? ⟨w.heap.size, 0, none⟩ = false := frz_box ht1; have fe : w1.frozen? ⟨w.heap.size + 1, 0, none⟩ = false := frz_box he1; have ne1 : ¬ (w.heap.size + 1 = w.heap.size) := (by omega); have HX := mhid (And.intro h91 (And.intro h93 h94)); clear ht1 he1 h91 h93 h94)
  obtain ⟨h91, h93, h94⟩ := HX.out
  obtain ⟨q1, q2, q3, q4⟩ := HW.out
  obtain ⟨c1, c2, c3, c4⟩ := two_res (w1 := w1) (n := w.heap.size) (.iface 56 (.pointer (some ⟨b9, 0, none⟩))) ⟨_, (h94.block w.heap.size (by rw [q4]; omega)).trans q1⟩ ⟨_, (h94.block (w.heap.size + 1) (by rw [q4]; omega)).trans q2⟩ (.slice none 0 0)
  rw [q4] at h91
  refine ⟨.tuple #[.agg #[.slice none 0 0], .iface 56 (.pointer (some ⟨b9, 0, none⟩))], ?_, ?_⟩
  · simp [results, Tryz.results10, go_sem, c1, c2]
  · refine ⟨(q3.trans (h94.mono q3.size)).trans c4, b9, by omega, rfl, ?_⟩
    rw [c3 b9 (by omega) (by omega)]
    exact h93
end Go.Proofs.YtmekcccmnkgodaaGreatDoor
namespace Go.Proofs.YtmekcccmnkgodaaGreatDoor
open Go.ChangeShapes Go.WideShapes Go.ChangeAt Go.RowKit Go.Stop
set_option linter.unusedVariables false
set_option linter.unusedSimpArgs false
/-- the world with the three boxes -/
abbrev W3 (w : World) (lp : Option Addr) (n lc : Nat) : World := ((w.alloc (.cells #[.slice none 0 0] 24)).alloc (.cells #[.nilIface] 26)).alloc (.cells #[.slice lp n lc, .int .i64 0, .int .i64 0, .slice none 0 0] 79)
theorem three_box (w : World) (lp : Option Addr) (n lc : Nat) : (W3 w lp n lc).heap[w.heap.size]? = some (.cells #[.slice none 0 0] 24 (0, 0)) ∧ (W3 w lp n lc).heap[w.heap.size + 1]? = some (.cells #[.nilIface] 26 (0, 0)) ∧ (W3 w lp n lc).heap[w.heap.size + 1 + 1]? = some (.cells #[.slice lp n lc, .int .i64 0, .int .i64 0, .slice none 0 0] 79 (0, 0)) ∧ Below w.heap.size w (W3 w lp n lc) ∧ (W3 w lp n lc).heap.size = w.heap.size + 3 := by
  obtain ⟨h1, h2, h3, h4⟩ := two_box w
  unfold W3
  refine ⟨?_, ?_, ?_, h3.alloc (by rw [h4]; omega) _, by rw [World.size_alloc, h4]⟩
  · rw [Below.heap_alloc _ _ _ (by rw [h4]; omega)]; exact h1
  · rw [Below.heap_alloc _ _ _ (by rw [h4]; omega)]; exact h2
  · have h9 := World.alloc_heap_new ((w.alloc (.cells #[.slice none 0 0] 24)).alloc (.cells #[.nilIface] 26)) (.cells #[.slice lp n lc, .int .i64 0, .int .i64 0, .slice none 0 0] 79 (0, 0))
    rw [h4] at h9
    exact h9
/-- scene, where Build calls it -/
theorem scene_at {X : Nat → Tk} {n F : Nat} {lp : Option Addr} {lc : Nat} (w : World) (hT : TX w lp n X) (hn : n ≤ 16384) (hr : ∀ i, i < n → TkR (X i)) (hg : Sp w) (hne : P X n (F + 1) .scene ⟨0, 0, []⟩ ≠ .out) : Calls Tryz.prog 22 #[.pointer (some ⟨w.heap.size + 1 + 1, 0, none⟩)] (W3 w lp n lc) (Ft (w.heap.size + 1 + 1) (w.heap.size + 1 + 1) lp lc n X (W3 w lp n lc) [] false (P X n (F + 1) .scene ⟨0, 0, []⟩)) := by
  obtain ⟨h1, h2, h3, h4, h5⟩ := three_box w lp n lc
  have hb : 1 < w.heap.size := World.block_lt_of_cell? _ _ (hg 0 (by omega))
  exact ct_scene hn (fun hz g => ct_all ⟨hn, hz, hr⟩ g) ⟨pw_start hT h4 h5 h3, hg.keep h4, by omega⟩ (Nat.le_refl _) hne
set_option maxRecDepth 100000 in
set_option maxHeartbeats 4000000 in
theorem build_bad {X : Nat → Tk} {n F : Nat} {lp : Option Addr} {lc : Nat} {er : Pe} (w : World) (hT : TX w lp n X) (hn : n ≤ 16384) (hr : ∀ i, i < n → TkR (X i)) (hg : Sp w) (he : Et w) (hR : P X n (F + 1) .scene ⟨0, 0, []⟩ = .bad er) : Calls Tryz.prog 10 #[.slice lp n lc] w (BldP w (.bad er)) := by
  have HS0 := scene_at (lc := lc) w hT hn hr hg (by rw [hR]; intro h; cases h)
  rw [hR] at HS0
  have HS : Hid (Calls Tryz.prog 22 #[.pointer (some ⟨w.heap.size + 1 + 1, 0, none⟩)] (W3 w lp n lc) (PanP (w.heap.size + 1 + 1) (W3 w lp n lc) er)) := HS0
  have HW := mhid (three_box w lp n lc)
  have HE := mhid he
  have hmf : ∀ (fn : Fn) (first cap : Array Value) (w : World), (Instr.makeFunc fn first cap).run Tryz.prog w = .ok (.func fn first cap) w := fun _ _ _ _ => rfl
  have d1 : decide ((16384 : Int) < (n : Int)) = false := decide_eq_false (by omega)
  have d2 : decide (16384 < n) = false := decide_eq_false (by omega)
  clear HS0 hT hr hg he hR hn
  go_enter_defers Tryz.func10, Tryz.ntmps10
  go_wp2_with (go_at_call 22; (with_reducible refine (HS.out).mono ?_); rintro e w1 ⟨b, rfl, hb1, hb2, hk1⟩; skip)
  obtain ⟨q1, q2, q3, q4, q5⟩ := HW.out
  have t1 : w1.heap[w.heap.size]? = some (.cells #[.slice none 0 0] 24 (0, 0)) := (hk1.b.block _ (by omega)).trans q1
  have t2 : w1.heap[w.heap.size + 1]? = some (.cells #[.nilIface] 26 (0, 0)) := (hk1.b.block _ (by omega)).trans q2
  have hlt : ∀ {b : Nat} {o : Obj}, w1.heap[b]? = some o → b < w1.heap.size := fun e => (Array.getElem?_eq_some_iff.1 e).1
  have hbw : Below w.heap.size w w1 := q4.trans (hk1.b.mono (by omega))
  refine leaves_cons (f := 20) (args := #[.pointer (some ⟨w.heap.size, 0, none⟩), .pointer (some ⟨w.heap.size + 1, 0, none⟩)]) (by simp) (by simp [go_sem]) ?_
  refine (catch_bad w.heap.size (w.heap.size + 1) b [] (.slice none 0 0) w1 (HE.out.keep hbw) t1 t2 (by omega) ⟨hlt t1, hlt t2⟩).mono ?_
  rintro e u' w' ⟨rfl, rfl, w2, hb2', rfl⟩
  obtain ⟨c1, c2, c3, c4⟩ := two_res (w1 := w2) (n := w.heap.size) (.iface 56 (.pointer (some ⟨b, 0, none⟩))) ⟨_, (hb2'.block _ (hlt t1)).trans t1⟩ ⟨_, (hb2'.block _ (hlt t2)).trans t2⟩ (.slice none 0 0)
  refine ⟨.tuple #[.agg #[.slice none 0 0], .iface 56 (.pointer (some ⟨b, 0, none⟩))], ?_, ?_⟩
  · simp [results, Tryz.results10, go_sem, c1, c2]
  · refine ⟨(hbw.trans (hb2'.mono hbw.size)).trans c4, b, by omega, rfl, ?_⟩
    rw [c3 b (by omega) (by omega), hb2'.block b (hlt hb2)]
    exact hb2
end Go.Proofs.YtmekcccmnkgodaaGreatDoor
namespace Go.Proofs.YtmekcccmnkgodaaGreatDoor
open Go.ChangeShapes Go.WideShapes Go.ChangeAt Go.RowKit Go.Stop
set_option linter.unusedVariables false
set_option linter.unusedSimpArgs false
set_option maxRecDepth 100000 in
set_option maxHeartbeats 4000000 in
theorem build_fine {X : Nat → Tk} {n F : Nat} {lp : Option Addr} {lc : Nat} {s : St} {v : List Nat} (w : World) (hT : TX w lp n X) (hn : n ≤ 16384) (hr : ∀ i, i < n → TkR (X i)) (hg : Sp w) (hR : P X n (F + 1) .scene ⟨0, 0, []⟩ = .ok s v) : Calls Tryz.prog 10 #[.slice lp n lc] w (BldP w (.ok s v)) := by
  have HS0 := scene_at (lc := lc) w hT hn hr hg (by rw [hR]; intro h; cases h)
  rw [hR] at HS0
  obtain ⟨d, hWh⟩ := bld_ok (X := X) (n := n) (F := F) (s := s) (v := v) (by unfold Bld; rw [if_neg (by omega)]; exact hR)
  obtain ⟨m, hm⟩ : ∃ m, s.md.length = m := ⟨_, rfl⟩
  have HS : Hid (Calls Tryz.prog 22 #[.pointer (some ⟨w.heap.size + 1 + 1, 0, none⟩)] (W3 w lp n lc) (fun e w1 => e = .returned (.int .i64 (hd v : Int)) ∧ KG (w.heap.size + 1 + 1) (W3 w lp n lc) w1 ∧ ∃ gm cm, w1.heap[w.heap.size + 1 + 1]? = some (.cells #[.slice lp n lc, .int .i64 (s.nx : Int), .int .i64 (s.dp : Int), .slice (some ⟨gm, 0, none⟩) m cm] 79 (0, 0)) ∧ Calls Tryz.prog 23 #[.slice (some ⟨gm, 0, none⟩) m cm, .int .i64 (hd v : Int)] w1 fun e w' => ∃ tp tc T q vs, e = .returned (.slice tp T.length tc) ∧ Lay s.md [hd v] 0 [0] T q ∧ TR w' (w.heap.size + 1 + 1) (.slice tp T.length tc) T vs ∧ Below (w.heap.size + 1 + 1) w1 w')) := by
    refine HS0.mono fun e w1 h => ?_
    obtain ⟨r, ks, rfl, h1, h2, h3, h4⟩ := h
    rw [if_neg (by decide)] at h1
    subst h1
    obtain ⟨mv, b1, b2⟩ := h2.blk
    obtain ⟨p, c, rfl, hp⟩ := own_form' b2
    obtain ⟨gm, rfl⟩ : ∃ g, p = some ⟨g, 0, none⟩ := hp.resolve_left (by have := hWh.top; omega)
    rw [hm] at b1
    refine ⟨rfl, h3, gm, c, b1, ?_⟩
    have hi := inOrder_any w1 h2.sz b2 h2.len h2.kid h2.apt (by have := hWh.len; omega) hWh.at' hWh.sg hWh.top
    rw [hm] at hi
    exact hi
  have HW := mhid (three_box w lp n lc)
  have HM := mhid hWh
  have hmf : ∀ (fn : Fn) (first cap : Array Value) (w : World), (Instr.makeFunc fn first cap).run Tryz.prog w = .ok (.func fn first cap) w := fun _ _ _ _ => rfl
  have d1 : decide ((16384 : Int) < (n : Int)) = false := decide_eq_false (by omega)
  have d2 : decide (16384 < n) = false := decide_eq_false (by omega)
  clear HS0 hT hr hg hR hn hWh hm
  go_enter_defers Tryz.func10, Tryz.ntmps10
  go_wp2_with (first
    | (go_at_call 22; (with_reducible refine (HS.out).mono ?_); rintro e w1 ⟨rfl, hk1, gm, cm, hb1, hi1⟩; obtain ⟨p0, p1, p2, p3⟩ := cell_box4 hb1; have HI := mhid hi1; have HK := mhid (And.intro hk1 hb1); clear hb1 hi1 hk1)
    | (go_at_call 23; (with_reducible refine (HI.out).mono ?_); rintro e w2 ⟨tp, tc, T, q, vs, rfl, hL, hTR, hb2⟩; have t1 : w2.heap[w.heap.size]? = some (.cells #[.slice none 0 0] 24 (0, 0)) := ((hb2.block _ (by omega)).trans (HK.out.1.b.block _ (by omega))).trans HW.out.1; have t2 : w2.heap[w.heap.size + 1]? = some (.cells #[.nilIface] 26 (0, 0)) := ((hb2.block _ (by omega)).trans (HK.out.1.b.block _ (by omega))).trans HW.out.2.1; have ct := cell_box1 t1; have ce := cell_box1 t2; have ft : w2.frozen? ⟨w.heap.size, 0, none⟩ = false := frz_box t1; have fe : w2.frozen? ⟨w.heap.size + 1, 0, none⟩ = false := frz_box t2; have ne1 : ¬ (w.heap.size + 1 = w.heap.size) := (by omega); have HX := mhid (And.intro hL (And.intro hTR (And.intro hb2 (And.intro t1 t2)))); clear hL hTR hb2 t1 t2))
  obtain ⟨hL, hTR, hb2, t1, t2⟩ := HX.out
  obtain ⟨q1, q2, q3, q4, q5⟩ := HW.out
  obtain ⟨c1, c2, c3, c4⟩ := two_res (w1 := w2) (n := w.heap.size) .nilIface ⟨_, t1⟩ ⟨_, t2⟩ (.slice tp T.length tc)
  refine leaves_cons (f := 20) (args := #[.pointer (some ⟨w.heap.size, 0, none⟩), .pointer (some ⟨w.heap.size + 1, 0, none⟩)]) (by simp) (by simp [go_sem]) ?_
  refine (catch_good w.heap.size (w.heap.size + 1) _).mono ?_
  rintro e u' w' ⟨rfl, rfl, rfl⟩
  have hbw : Below w.heap.size w w2 := (q4.trans (HK.out.1.b.mono (by omega))).trans (hb2.mono (by omega))
  refine ⟨.tuple #[.agg #[.slice tp T.length tc], .nilIface], ?_, ?_⟩
  · simp [results, Tryz.results10, go_sem, c1, c2]
  · have eT := HM.out.lay hL
    refine ⟨hbw.trans c4, tp, tc, vs, by rw [eT], ?_⟩
    rw [← eT]
    have far : ∀ {t : TypeId} {sz m : Nat} {v : Value} {F : Nat → Value}, Own w2 (w.heap.size + 1 + 1) t sz v m F → ∀ b, v.ownBlock = some b → ((w2.setCell ⟨w.heap.size, 0, none⟩ (.slice tp T.length tc)).setCell ⟨w.heap.size + 1, 0, none⟩ .nilIface).heap[b]? = w2.heap[b]? := fun h b hb => by
      have := own_ltG h hb
      exact c3 b (by omega) (by omega)
    exact ⟨own_low (hTR.row.far (far hTR.row)) (by omega), hTR.len, fun j d v h1 h2 => own_low ((hTR.kid j d v h1 h2).far (far (hTR.kid j d v h1 h2))) (by omega), hTR.apt⟩
/-- BUILD, whatever the tokens -/
theorem build_any {X : Nat → Tk} {n F : Nat} {lp : Option Addr} {lc : Nat} (w : World) (hT : TX w lp n X) (hm : n ≤ maxLen) (hr : ∀ i, i < n → TkR (X i)) (hg : Sp w) (he : Et w) (hF : 20 * n + 10 ≤ F) : Calls Tryz.prog 10 #[.slice lp n lc] w (BldP w (Bld X n F)) := by
  have ho := bld_out X n F hF
  unfold Bld at ho ⊢
  by_cases hn : 16384 < n
  · rw [if_pos hn]
    exact build_long w hT hn hm
  · rw [if_neg hn] at ho ⊢
    cases hR : P X n (F + 1) .scene ⟨0, 0, []⟩ with
    | out => exact absurd hR ho
    | bad er => exact build_bad w hT (by omega) hr hg he hR
    | ok s v => exact build_fine w hT (by omega) hr hg hR
end Go.Proofs.YtmekcccmnkgodaaGreatDoor
