import Derived.Test.YtnofndpgodledaaY17
import Derived.Test.YtnofndpgodledaaQ1
namespace Go.Proofs.Ytnofndpgodledaa
open Go.ChangeShapes Go.WideShapes Go.ChangeAt Go.RowKit
set_option linter.unusedVariables false
set_option linter.unusedSimpArgs false

theorem new_QS {W : World} {base qb nb : Nat} {room : Int} (hq : W.heap[qb]? = some (.cells #[.slice (some ⟨nb, 0, none⟩) 1 1, .int .i64 0, .int .i64 0, .int .i64 0, .int .i64 room, .int .i64 0] 56 (0, 0))) (hO : Own W base 70 8 (.slice (some ⟨nb, 0, none⟩) 1 1) 1 zNd) (hne : qb ≠ nb) (hb : base ≤ qb) (hr : 1 ≤ room ∧ room ≤ 8192) : QS base qb nb room 0 [] W := by
  refine ⟨1, 1, ⟨fun _ => ev0, fun _ => 0, fun _ => 0⟩, .nil, [], 0, 0, ⟨⟨?_, ?_, fun e => hne e.symm⟩, rfl, trivial, by simp [Tr.ps], by simp [Tr.ps], rfl, ⟨rfl, rfl⟩, by omega, hr, List.Pairwise.nil, Int.le_refl _⟩, rfl, Int.le_refl _⟩
  · refine Own.mk' hq rfl (Nat.le_refl _) (by unfold maxLen; omega) hb fun j hj => ?_
    have : j = 0 ∨ j = 1 ∨ j = 2 ∨ j = 3 ∨ j = 4 ∨ j = 5 := by omega
    rcases this with rfl | rfl | rfl | rfl | rfl | rfl <;> rfl
  · refine hO.congr fun j hj => ?_
    have : j = 0 ∨ j = 1 ∨ j = 2 ∨ j = 3 ∨ j = 4 ∨ j = 5 ∨ j = 6 ∨ j = 7 := by omega
    rcases this with rfl | rfl | rfl | rfl | rfl | rfl | rfl | rfl <;> rfl
theorem QS.up {base qb g : Nat} {room wb wb' : Int} {L : List Ev} {W : World} (h : QS base qb g room wb L W) (hw : wb ≤ wb') : QS base qb g room wb' L W := by
  obtain ⟨c, n, A, t, fl, root, work, hq, hL, h2⟩ := h
  exact ⟨c, n, A, t, fl, root, work, hq, hL, by omega⟩
/-- events that come in -/
def EvIn (W : World) (p : Option Addr) (N : Nat) (X : Nat → Ev) : Prop := N = 0 ∨ ∃ b o, p = some ⟨b, o, none⟩ ∧ b < W.heap.size ∧ ∀ i r, i < N → r < 6 → W.cell? ⟨b, o + i * 6 + r, none⟩ = some (evC (X i) r)
theorem keyCmp_self (t s q : Int) : keyCmp t s q t s q = 0 := by
  rw [keyCmp_eq]
  exact ⟨rfl, rfl, rfl⟩
def XAt (W : World) (p : Option Addr) (n : Nat) (F : Nat → Value) : Prop := n = 0 ∨ ∃ b o, p = some ⟨b, o, none⟩ ∧ b < W.heap.size ∧ ∀ j, j < n * 6 → W.cell? ⟨b, o + j, none⟩ = some (F j)
theorem XAt.below {W W' : World} {p : Option Addr} {n : Nat} {F : Nat → Value} (h : XAt W p n F) (hb : Below W.heap.size W W') : XAt W' p n F := by
  rcases h with h | ⟨b, o, e, hl, hc⟩
  · exact .inl h
  · exact .inr ⟨b, o, e, Nat.lt_of_lt_of_le hl hb.size, fun j hj => (cell_below (a := ⟨b, o + j, none⟩) hb hl).trans (hc j hj)⟩
theorem XAt.congr {W : World} {p : Option Addr} {n : Nat} {F G : Nat → Value} (h : XAt W p n F) (he : ∀ j, j < n * 6 → F j = G j) : XAt W p n G := by
  rcases h with h | ⟨b, o, e, hl, hc⟩
  · exact .inl h
  · exact .inr ⟨b, o, e, hl, fun j hj => by rw [hc j hj, he j hj]⟩
/-- the cells are events' -/
def EvSh (n : Nat) (F : Nat → Value) : Prop := ∀ i, i < n → ∃ t s q d k x : Int, F (i * 6) = .int .u64 t ∧ F (i * 6 + 1) = .int .i64 s ∧ F (i * 6 + 2) = .int .u64 q ∧ F (i * 6 + 3) = .int .i64 d ∧ F (i * 6 + 4) = .int .i64 k ∧ F (i * 6 + 5) = .int .i64 x
theorem EvSh.zero (F : Nat → Value) : EvSh 0 F := fun i hi => by omega
theorem neq_evV (a b c d e f : Int) (W : World) : (binOp .neq 33 (.agg #[.int .u64 a, .int .i64 b, .int .u64 c, .int .i64 d, .int .i64 e, .int .i64 f]) (.agg #[.int .u64 a, .int .i64 b, .int .u64 c, .int .i64 d, .int .i64 e, .int .i64 f])).run Try.prog W = .ok (.bool false) W := by
  go_simp
set_option maxRecDepth 100000 in
set_option maxHeartbeats 2000000 in
theorem sameEvents_yes (n : Nat) (F : Nat → Value) (p1 p2 : Option Addr) (c1 c2 : Nat) (hL : n ≤ 1000000) (w : World) (h1 : XAt w p1 n F) (h2 : XAt w p2 n F) (hs : EvSh n F) :
    Calls Try.prog 11 #[.slice p1 n c1, .slice p2 n c2] w fun e w' => e = .returned (.bool true) ∧ Below w.heap.size w w' := by
  have HH1 : Hid (XAt w p1 n F) := h1
  have HH2 : Hid (XAt w p2 n F) := h2
  have HS : Hid (EvSh n F) := hs
  clear h1 h2 hs
  go_enter Try.func11, Try.ntmps11
  go_wp2
  go_loopw [13] (fun v wr => ∃ i : Nat, v = .int .i64 i ∧ i ≤ n ∧ Below w.heap.size w wr) (fun v _ => n - (intOf v).toNat)
  case atStart => exact ⟨0, rfl, Nat.zero_le _, Below.refl _ _⟩
  case round =>
    obtain ⟨i, rfl, hi, hbel⟩ := hrel
    by_cases hlt : i < n
    · have dl : decide ((i : Int) < n) = true := decide_eq_true (by omega)
      have hm := meas hlt
      obtain ⟨t, s, q, d, k, x, e0, e1, e2, e3, e4, e5⟩ := HS.out i hlt
      obtain hx | ⟨g1, o1, rfl, hg1, k1⟩ := HH1.out.below hbel
      · omega
      obtain hx | ⟨g2, o2, rfl, hg2, k2⟩ := HH2.out.below hbel
      · omega
      have x0 := (k1 (i * 6) (by omega)).trans (congrArg some e0)
      have x1 := (k1 (i * 6 + 1) (by omega)).trans (congrArg some e1)
      have x2 := (k1 (i * 6 + 2) (by omega)).trans (congrArg some e2)
      have x3 := (k1 (i * 6 + 3) (by omega)).trans (congrArg some e3)
      have x4 := (k1 (i * 6 + 4) (by omega)).trans (congrArg some e4)
      have x5 := (k1 (i * 6 + 5) (by omega)).trans (congrArg some e5)
      have y0 := (k2 (i * 6) (by omega)).trans (congrArg some e0)
      have y1 := (k2 (i * 6 + 1) (by omega)).trans (congrArg some e1)
      have y2 := (k2 (i * 6 + 2) (by omega)).trans (congrArg some e2)
      have y3 := (k2 (i * 6 + 3) (by omega)).trans (congrArg some e3)
      have y4 := (k2 (i * 6 + 4) (by omega)).trans (congrArg some e4)
      have y5 := (k2 (i * 6 + 5) (by omega)).trans (congrArg some e5)
      simp only [← Nat.add_assoc] at x1 x2 x3 x4 x5 y1 y2 y3 y4 y5
      have ne1 := neq_evV t s q d k x
      clear HH1 HH2 k1 k2 HS e0 e1 e2 e3 e4 e5
      go_wp2
      go_quiet (fail)
      go_wp2
      exact ⟨⟨i + 1, rfl, hlt, hbel.trans (below_drewNq _ _ _)⟩, hm⟩
    · have dl : decide ((i : Int) < n) = false := decide_eq_false (by omega)
      obtain rfl : i = n := by omega
      clear HH1 HH2 HS
      go_wp2
      go_ret
      exact ⟨rfl, hbel⟩
theorem evSh_evC (n : Nat) (X : Nat → Ev) : EvSh n (fun j => evC (X (j / 6)) (j % 6)) := fun i hi => by
  refine ⟨(X i).t, (X i).s, (X i).q, (X i).d, (X i).k, (X i).v, ?_, ?_, ?_, ?_, ?_, ?_⟩
  all_goals simp only []
  · rw [show i * 6 / 6 = i by omega, show i * 6 % 6 = 0 by omega]; rfl
  · rw [show (i * 6 + 1) / 6 = i by omega, show (i * 6 + 1) % 6 = 1 by omega]; rfl
  · rw [show (i * 6 + 2) / 6 = i by omega, show (i * 6 + 2) % 6 = 2 by omega]; rfl
  · rw [show (i * 6 + 3) / 6 = i by omega, show (i * 6 + 3) % 6 = 3 by omega]; rfl
  · rw [show (i * 6 + 4) / 6 = i by omega, show (i * 6 + 4) % 6 = 4 by omega]; rfl
  · rw [show (i * 6 + 5) / 6 = i by omega, show (i * 6 + 5) % 6 = 5 by omega]; rfl
/-- events that lie somewhere, from the o-th on -/
theorem EvsL.xat {W : World} {b N : Nat} {X : Nat → Ev} (h : EvsL W b N X) (o m : Nat) (ho : o + m ≤ N) : XAt W (some ⟨b, o * 6, none⟩) m (fun j => evC (X (o + j / 6)) (j % 6)) := by
  refine .inr ⟨b, o * 6, rfl, h.1, fun j hj => ?_⟩
  have h9 := h.2 (o + j / 6) (j % 6) (by omega) (by omega)
  rw [show (o + j / 6) * 6 + j % 6 = o * 6 + j by omega] at h9
  exact h9
theorem QS.srt {base qb g : Nat} {room wb : Int} {L : List Ev} {W : World} (h : QS base qb g room wb L W) : L.Pairwise keyLt := by
  obtain ⟨c, n, A, t, fl, root, work, hq, hL, hw⟩ := h
  rw [hL]
  exact List.pairwise_map.2 hq.srt
theorem EvsL.keep {W W' : World} {b N : Nat} {X : Nat → Ev} {S : Nat → Prop} (h : EvsL W b N X) (hc : Ch S W W') (hs : ¬ S b) : EvsL W' b N X := ⟨Nat.lt_of_lt_of_le h.1 hc.size, fun i r hi hr => (World.cell?_of_block (hc.block b h.1 hs)).trans (h.2 i r hi hr)⟩
/-- the cells of the list that two sides see -/
theorem EvsL.xatEq {W : World} {b N : Nat} {X Y : Nat → Ev} (h : EvsL W b N X) (o m : Nat) (ho : o + m ≤ N) (he : ∀ i, i < m → X (o + i) = Y i) : XAt W (some ⟨b, o * 6, none⟩) m (fun j => evC (Y (j / 6)) (j % 6)) :=
  (h.xat o m ho).congr fun j hj => by rw [he (j / 6) (by omega)]
set_option maxRecDepth 100000 in
set_option maxHeartbeats 4000000 in
theorem pop_none (base qb g c n : Nat) (A : Ar) (fl : List Nat) (root : Nat) (room work : Int) (W : World) (h : QI W base qb g c n A .nil fl root room work) :
    Calls Try.prog 13 #[.pointer (some ⟨qb, 0, none⟩)] W fun e' W' => e' = .returned (.tuple #[evV ev0, .int .i64 82]) ∧ Below W.heap.size W W' := by
  obtain ⟨W1, hW1⟩ : ∃ W1, W.alloc (.cells #[.int .u64 0, .int .i64 0, .int .u64 0, .int .i64 0, .int .i64 0, .int .i64 0] 33) = W1 := ⟨_, rfl⟩
  have hb1 : Below W.heap.size W W1 := by rw [← hW1]; exact (Below.refl _ W).alloc (Nat.le_refl _) _
  have he1 : W1.heap[W.heap.size]? = some (.cells #[.int .u64 0, .int .i64 0, .int .u64 0, .int .i64 0, .int .i64 0, .int .i64 0] 33 (0, 0)) := by rw [← hW1]; exact World.alloc_heap_new W _
  have hroot : root = 0 := h.ti
  subst hroot
  obtain ⟨q0, q1, q2, q3, q4, q5⟩ := (h.q.later hb1).cells
  obtain ⟨r0, r1, r2, r3, r4, r5⟩ := q6c he1
  have rf := frz he1
  have rf0 := rf 0; have rf1 := rf 1; have rf2 := rf 2; have rf3 := rf 3; have rf4 := rf 4; have rf5 := rf 5
  clear rf
  rw [← hW1] at q0 q1 q2 q3 q4 q5 r0 r1 r2 r3 r4 r5 rf0 rf1 rf2 rf3 rf4 rf5
  have HE : Hid (Below W.heap.size W W1 ∧ W1.heap[W.heap.size]? = some (.cells #[.int .u64 0, .int .i64 0, .int .u64 0, .int .i64 0, .int .i64 0, .int .i64 0] 33 (0, 0)) ∧ W.alloc (.cells #[.int .u64 0, .int .i64 0, .int .u64 0, .int .i64 0, .int .i64 0, .int .i64 0] 33) = W1) := ⟨hb1, he1, hW1⟩
  clear hb1 he1 hW1 h
  go_enter Try.func13, Try.ntmps13
  go_wp2_with fail
  obtain ⟨hb1, he1, hW1⟩ := HE.out
  rw [hW1]
  obtain ⟨d0, d1, d2, d3, d4, d5⟩ := q6c he1
  refine bodyPost_ret (v := .tuple #[evV ev0, .int .i64 82]) (by simp [results, Try.results13, go_sem, d0, d1, d2, d3, d4, d5, evV, ev0]; try rfl) rfl ?_
  exact ⟨rfl, hb1⟩
theorem popS2 {base qb g : Nat} {room wb : Int} {L : List Ev} (W : World) (h : QS base qb g room wb L W) (hwb : wb ≤ 4611686018427000000) : Calls Try.prog 13 #[.pointer (some ⟨qb, 0, none⟩)] W fun e' W' => ∃ (x : Ev) (code : Int) (L' : List Ev), e' = .returned (.tuple #[evV x, .int .i64 code]) ∧ (L = [] ∧ L' = [] ∧ x = ev0 ∧ code = 82 ∨ code = 0 ∧ L = x :: L') ∧ QS base qb g room (wb + 16384) L' W' ∧ Ch (S2 qb g) W W' := by
  by_cases hL0 : L = []
  · have h0 := h
    obtain ⟨c, n, A, t, fl, root, work, hq, hL, hw⟩ := h
    have ht : t = .nil := by
      cases t with
      | nil => rfl
      | node a p b => rw [hL0] at hL; simp [Tr.ps] at hL
    subst ht
    refine (pop_none base qb g c n A fl root room work W hq).mono ?_
    rintro e' W' ⟨rfl, hb⟩
    exact ⟨ev0, 82, [], rfl, .inl ⟨hL0, rfl, rfl, rfl⟩, by rw [← hL0]; exact (h0.later hb).up (by omega), Ch.below hb⟩
  · refine (popS W h (by omega) hL0).mono ?_
    rintro e' W' ⟨x, L', rfl, hLL, hQ, hC⟩
    exact ⟨x, 0, L', rfl, .inr ⟨rfl, hLL⟩, hQ.up (by omega), hC⟩
end Go.Proofs.Ytnofndpgodledaa
