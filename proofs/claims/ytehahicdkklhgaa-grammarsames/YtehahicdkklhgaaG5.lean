import Derived.Test.YtehahicdkklhgaaG4
import Derived.RangeFuncOwn
namespace Go.Proofs.Ytehahicdkklhgaa
open Go.ChangeShapes Go.WideShapes Go.ChangeAt Go.RowKit
set_option linter.unusedVariables false

/-! ### a tree that the call has made -/
def ndCells (x : NdF) : List Value := [.int .i64 x.kind, .string x.name, .int .u64 x.num, .int .i64 x.op, .slice x.kp x.kn x.kc, .int .i64 x.line, .int .i64 x.col]
def ndsCells (C : Nat → NdF) (n : Nat) : List Value := (List.range n).flatMap fun k => ndCells (C k)
def upd (C : Nat → NdF) (i : Nat) (y : NdF) : Nat → NdF := fun k => if k = i then y else C k
theorem upd_lt (C : Nat → NdF) (i : Nat) (y : NdF) {k : Nat} (h : k < i) : upd C i y k = C k := by unfold upd; rw [if_neg (by omega)]
theorem upd_at (C : Nat → NdF) (i : Nat) (y : NdF) : upd C i y i = y := by unfold upd; rw [if_pos rfl]
theorem nds_snoc (C : Nat → NdF) (i : Nat) (y : NdF) : ndsCells (upd C i y) (i + 1) = ndsCells C i ++ ndCells y := by
  unfold ndsCells
  rw [List.range_succ, List.flatMap_append]
  congr 1
  · have : ∀ l : List Nat, (∀ k ∈ l, k < i) → l.flatMap (fun k => ndCells (upd C i y k)) = l.flatMap fun k => ndCells (C k) := by
      intro l
      induction l with
      | nil => intro _; rfl
      | cons a l ih =>
        intro h
        rw [List.flatMap_cons, List.flatMap_cons, upd_lt C i y (h a (by simp)), ih (fun k hk => h k (by simp [hk]))]
    exact this _ (fun k hk => List.mem_range.1 hk)
  · simp [upd_at]
def CT (W : World) (B : Nat) (v : Value) (n : Nat) (C : Nat → NdF) : Prop :=
  W.ownsRow B 30 7 v n (ndsCells C n) ∧ ∀ k, k < n → ∃ g, (C k).kp = some ⟨g, 0, none⟩ ∧ B ≤ g ∧ W.heap[g]? = some (.cells (intsL (C k).K (C k).kn).toArray 3 (0, 0)) ∧ (C k).kn ≤ 17592186044416
theorem grown_of_below {A B : World} (h : Below A.heap.size A B) : A.grownBy B none := ⟨h.os, h.tape, h.output, h.size, fun k hk _ => h.block k hk⟩
theorem own_more' {W W' : World} {base : Nat} {e : TypeId} {size : Nat} {v : Value} {k : Nat} {xs : List Value} (h : W.ownsRow base e size v k xs) (hb : Below W.heap.size W W') : W'.ownsRow base e size v k xs := by
  rcases h.2 with ⟨rfl, _⟩ | ⟨g, cap, cur, rfl, _⟩
  · exact h.kept (grown_of_below hb) (.inl rfl)
  · exact h.kept (grown_of_below hb) (.inr (by simp [Value.ownBlock]))
theorem own_slice {W : World} {base : Nat} {e : TypeId} {size : Nat} {v : Value} {k : Nat} {xs : List Value} (h : W.ownsRow base e size v k xs) : ∃ p m c, v = .slice p m c := by
  rcases h.2 with ⟨rfl, _⟩ | ⟨g', cap, cur, rfl, _⟩
  · exact ⟨_, _, _, rfl⟩
  · exact ⟨_, _, _, rfl⟩
theorem own_len' {W : World} {base : Nat} {e : TypeId} {size : Nat} {p : Option Addr} {m c : Nat} {k : Nat} {xs : List Value} (h : W.ownsRow base e size (.slice p m c) k xs) : m = k := by
  rcases h.2 with ⟨h1, h2⟩ | ⟨g, cap, cur, h1, _⟩
  · injection h1 with _ h1 _; omega
  · injection h1
theorem own_base {W : World} {base : Nat} {e : TypeId} {size : Nat} {v : Value} {k : Nat} {xs : List Value} (h : W.ownsRow base e size v k xs) {g : Nat} (hg : v.ownBlock = some g) : base ≤ g := by
  rcases h.2 with ⟨rfl, _⟩ | ⟨g', cap, cur, rfl, hb, _⟩
  · cases hg
  · cases hg; exact hb
theorem size_setCell (W : World) (a : Addr) (v : Value) : (W.setCell a v).heap.size = W.heap.size := by simp [World.setCell]
/-- a kid's block is not the row's -/
theorem kid_not_row {W : World} {base : Nat} {v : Value} {k : Nat} {xs : List Value} (h : W.ownsRow base 30 7 v k xs) {g : Nat} {a : Array Value} (hg : W.heap[g]? = some (.cells a 3 (0, 0))) : some g ≠ v.ownBlock := by
  rcases h.2 with ⟨rfl, _⟩ | ⟨g', cap, cur, rfl, _, hh, _⟩
  · intro e; cases e
  · intro e
    have : g = g' := by simpa [Value.ownBlock] using e
    subst this
    rw [hg] at hh
    injection hh with hh
    injection hh with _ hh _
    revert hh
    decide
theorem CT.below {W W' : World} {B : Nat} {v : Value} {n : Nat} {C : Nat → NdF} (h : CT W B v n C) (hb : Below W.heap.size W W') : CT W' B v n C :=
  ⟨own_more' h.1 hb, fun k hk => by
    obtain ⟨g, h1, h2, h3, h4⟩ := h.2 k hk
    exact ⟨g, h1, h2, (hb.block g (Array.getElem?_eq_some_iff.1 h3).1).trans h3, h4⟩⟩
theorem CT.low {W : World} {B B' : Nat} {v : Value} {n : Nat} {C : Nat → NdF} (h : CT W B v n C) (hB : B' ≤ B) : CT W B' v n C := by
  refine ⟨?_, fun k hk => by obtain ⟨g, h1, h2, h3, h4⟩ := h.2 k hk; exact ⟨g, h1, Nat.le_trans hB h2, h3, h4⟩⟩
  rcases h.1.2 with ⟨h1, h2⟩ | ⟨g', cap, cur, h1, hb', h3⟩
  · exact ⟨h.1.1, .inl ⟨h1, h2⟩⟩
  · exact ⟨h.1.1, .inr ⟨g', cap, cur, h1, Nat.le_trans hB hb', h3⟩⟩
theorem CT.set {W : World} {B : Nat} {v : Value} {n : Nat} {C : Nat → NdF} (h : CT W B v n C) {b : Nat} (hb : b < B) (u : Value) : CT (W.setCell ⟨b, 0, none⟩ u) B v n C :=
  ⟨h.1.kept (grownBy_setCell' W b u) (.inr (fun e => by have := own_base h.1 e; omega)), fun k hk => by
    obtain ⟨g, h1, h2, h3, h4⟩ := h.2 k hk
    exact ⟨g, h1, h2, (Below.heap_setCell W ⟨b, 0, none⟩ u g (by show g ≠ b; omega)).trans h3, h4⟩⟩
theorem ct_step {wr w2 w3 : World} {B : Nat} {v3 v' : Value} {i : Nat} {C : Nat → NdF} {y : NdF} {g : Nat} (hct : CT wr B v3 i C) (hb : Below wr.heap.size wr w2) (hyk : y.kp = some ⟨g, 0, none⟩) (hgB : B ≤ g) (hg : w2.heap[g]? = some (.cells (intsL y.K y.kn).toArray 3 (0, 0))) (hk : y.kn ≤ 17592186044416)
    (hown' : w3.ownsRow B 30 7 v' (i + 1) (ndsCells C i ++ ndCells y)) (hgrow : w2.grownBy w3 v3.ownBlock) : CT w3 B v' (i + 1) (upd C i y) := by
  have h2 := hct.below hb
  refine ⟨by rw [nds_snoc]; exact hown', fun k hk' => ?_⟩
  by_cases hki : k = i
  · subst hki
    rw [upd_at]
    exact ⟨g, hyk, hgB, (hgrow.block g (Array.getElem?_eq_some_iff.1 hg).1 (kid_not_row h2.1 hg)).trans hg, hk⟩
  · rw [upd_lt C i y (by omega)]
    obtain ⟨g', a1, a2, a3, a4⟩ := h2.2 k (by omega)
    exact ⟨g', a1, a2, (hgrow.block g' (Array.getElem?_eq_some_iff.1 a3).1 (kid_not_row h2.1 a3)).trans a3, a4⟩

theorem infoNd : (Try.prog.info? 30).map (fun i => (i.zero, i.size, i.bytes)) = some (some (.agg #[.int .i64 0, .string ⟨#[]⟩, .int .u64 0, .int .i64 0, .slice none 0 0, .int .i64 0, .int .i64 0]), 7, 80) := by kernel_rfl
theorem cell_seven_new (w : World) (c0 c1 c2 c3 c4 c5 c6 : Value) (t : TypeId) : ∀ j u, [c0, c1, c2, c3, c4, c5, c6][j]? = some u → (w.alloc (.cells #[c0, c1, c2, c3, c4, c5, c6] t)).cell? ((⟨w.heap.size, 0, none⟩ : Addr).add j) = some u := by
  intro j u hj
  have hlt : j < 7 := by
    by_cases h : j < 7
    · exact h
    · rw [List.getElem?_eq_none (by simp; omega)] at hj; cases hj
  rw [addr_add]
  unfold World.cell?
  rw [World.alloc_heap_new]
  match j, hlt with
  | 0, _ => exact hj
  | 1, _ => exact hj
  | 2, _ => exact hj
  | 3, _ => exact hj
  | 4, _ => exact hj
  | 5, _ => exact hj
  | 6, _ => exact hj
theorem cells7 {W : World} {b : Nat} {c0 c1 c2 c3 c4 c5 c6 : Value} {t : TypeId} (h : W.heap[b]? = some (.cells #[c0, c1, c2, c3, c4, c5, c6] t (0, 0))) : (W.cell? ⟨b, 0, none⟩ = some c0 ∧ W.cell? ⟨b, 1, none⟩ = some c1 ∧ W.cell? ⟨b, 2, none⟩ = some c2 ∧ W.cell? ⟨b, 3, none⟩ = some c3 ∧ W.cell? ⟨b, 4, none⟩ = some c4 ∧ W.cell? ⟨b, 5, none⟩ = some c5 ∧ W.cell? ⟨b, 6, none⟩ = some c6) ∧
    W.frozen? ⟨b, 4, none⟩ = false := by
  refine ⟨?_, by simp [World.frozen?, h]⟩
  refine ⟨?_, ?_, ?_, ?_, ?_, ?_, ?_⟩
  all_goals (unfold World.cell?; rw [h]; rfl)
theorem set7 {W : World} {b : Nat} {c0 c1 c2 c3 c4 c5 c6 : Value} {t : TypeId} (v : Value) (h : W.heap[b]? = some (.cells #[c0, c1, c2, c3, c4, c5, c6] t (0, 0))) : (W.setCell ⟨b, 4, none⟩ v).heap[b]? = some (.cells #[c0, c1, c2, c3, v, c5, c6] t (0, 0)) := by
  obtain ⟨hlt, hk⟩ := Array.getElem?_eq_some_iff.1 h
  show (W.heap.modify b _)[b]? = _
  rw [Array.getElem?_eq_getElem (by rw [Array.size_modify]; exact hlt), Array.getElem_modify_self, hk]
  rfl

set_option maxRecDepth 100000 in
set_option maxHeartbeats 4000000 in
theorem copyTree_any (p : Option Addr) (n c : Nat) (N : Nat → NdF) (hn : n * 80 ≤ 140737488351232) (w : World) (hp : NAt w p n N) :
    Calls Try.prog 6 #[.agg #[.slice p n c]] w fun e w' => ∃ v C, e = .returned (.agg #[v]) ∧ CT w' w.heap.size v n C ∧ (∀ k, k < n → ∃ g kc, C k = { N k with kp := some ⟨g, 0, none⟩, kc := kc }) ∧ Below w.heap.size w w' := by
  obtain ⟨i0, hi, hz0, hz1, hz2⟩ := info_parts infoNd
  have hb0 : Below w.heap.size w ((w.alloc (.cells #[.slice p n c] 24)).alloc (.cells #[.slice none 0 0] 24)) := ((Below.refl _ w).alloc (Nat.le_refl _) _).alloc (by simp) _
  have k1 := (Boxed.new w 24 (.slice p n c)).alloc (.cells #[.slice none 0 0] 24)
  have k2 := Boxed.new (w.alloc (.cells #[.slice p n c] 24)) 24 (.slice none 0 0)
  simp only [World.size_alloc] at k2
  have hp' := hp.below hb0
  clear hp
  go_enter Try.func6, Try.ntmps6
  go_wp2
  obtain ⟨w0, hw0⟩ : ∃ w0, (w.alloc (.cells #[.slice p n c] 24)).alloc (.cells #[.slice none 0 0] 24) = w0 := ⟨_, rfl⟩
  have hs0 : w0.heap.size = w.heap.size + 2 := by rw [← hw0]; simp
  rw [hw0] at hb0 k1 k2 hp' ⊢
  clear hw0
  go_loopw [3, 9] (fun v3 v9 wr => ∃ (i : Nat) (C : Nat → NdF), v9 = .int .i64 i ∧ i ≤ n ∧ CT wr w0.heap.size v3 i C ∧ (∀ k, k < i → ∃ g kc, C k = { N k with kp := some ⟨g, 0, none⟩, kc := kc }) ∧ Below w0.heap.size w0 wr) (fun _ v _ => n - (intOf v).toNat)
  case atStart => exact ⟨0, N, rfl, Nat.zero_le _, ⟨World.ownsRow_nil _ _ _ _, fun k hk => by omega⟩, fun k hk => by omega, Below.refl _ _⟩
  case round =>
    obtain ⟨i, C, rfl, hi1, hct, hcp, hbel⟩ := hrel
    by_cases hlt : i < n
    · obtain h0 | ⟨b, o, rfl, hl, hc⟩ := hp'.below hbel
      · omega
      obtain ⟨⟨x0, x1, x2, x3, x4, x5, x6⟩, kx⟩ := hc i hlt
      have dl : decide ((i : Int) < n) = true := decide_eq_true (by omega)
      have hm := meas hlt
      have hsz : w0.heap.size ≤ wr.heap.size := hbel.size
      have HC : ∀ o : Obj, Hid (Calls Try.prog 11 #[.slice (N i).kp (N i).kn (N i).kc] (wr.alloc o) fun r w' => r = .returned (.slice (some ⟨wr.heap.size + 1, 0, none⟩) (N i).kn (N i).kn) ∧ w'.heap[wr.heap.size + 1]? = some (.cells (intsL (N i).K (N i).kn).toArray 3 (0, 0)) ∧ Below (wr.heap.size + 1) (wr.alloc o) w' ∧ wr.heap.size + 1 < w'.heap.size) := fun o => by
        have := copyInts_any (N i).kp (N i).kn (N i).kc (N i).K (wr.alloc o) kx.2 (kx.1.below ((Below.refl _ wr).alloc (Nat.le_refl _) _))
        rw [World.size_alloc] at this
        exact this
      have hkn := kx.2
      have p1 : i + 1 ≤ maxLen := by unfold maxLen; omega
      have p2 : (i + 1) * 80 ≤ 140737488355328 := by omega
      obtain ⟨vp, vm, vc, rfl⟩ := own_slice hct.1
      have hct' : Hid (CT wr w0.heap.size (.slice vp vm vc) i C) := hct
      have hcp' : Hid (∀ k, k < i → ∃ g kc, C k = { N k with kp := some ⟨g, 0, none⟩, kc := kc }) := hcp
      obtain ⟨X, hX⟩ : ∃ X, N i = X := ⟨_, rfl⟩
      have hX' : Hid (N i = X) := hX
      rw [hX] at x0 x1 x2 x3 x4 x5 x6 HC hkn
      clear hc hct hcp hp' kx hX k1 k2 hl
      go_wp2_with (first | (go_at_call 11; (with_reducible refine ((HC _).out).mono ?_); rintro e w1 ⟨rfl, hg, b1, hlt1⟩; have hbx := (b1.block wr.heap.size (by simp)).trans (World.alloc_heap_new wr _); obtain ⟨⟨f0, f1, f2, f3, f4, f5, f6⟩, f7⟩ := cells7 hbx; obtain ⟨⟨s0, s1, s2, s3, s4, s5, s6⟩, s7⟩ := cells7 (set7 (.slice (some ⟨wr.heap.size + 1, 0, none⟩) X.kn X.kn) hbx); have hbS := (((Below.refl _ wr).alloc (Nat.le_refl _) (.cells #[.int .i64 X.kind, .string X.name, .int .u64 X.num, .int .i64 X.op, .slice X.kp X.kn X.kc, .int .i64 X.line, .int .i64 X.col] 30)).trans (b1.mono (Nat.le_succ _))).setCell (p := ⟨wr.heap.size, 4, none⟩) (Nat.le_refl _) (.slice (some ⟨wr.heap.size + 1, 0, none⟩) X.kn X.kn); have hb2 := hbS.alloc hbS.size (.cells #[.int .i64 X.kind, .string X.name, .int .u64 X.num, .int .i64 X.op, (.slice (some ⟨wr.heap.size + 1, 0, none⟩) X.kn X.kn), .int .i64 X.line, .int .i64 X.col] 30); have hg2 := (Below.heap_alloc (w1.setCell ⟨wr.heap.size, 4, none⟩ (.slice (some ⟨wr.heap.size + 1, 0, none⟩) X.kn X.kn)) (.cells #[.int .i64 X.kind, .string X.name, .int .u64 X.num, .int .i64 X.op, (.slice (some ⟨wr.heap.size + 1, 0, none⟩) X.kn X.kn), .int .i64 X.line, .int .i64 X.col] 30) (wr.heap.size + 1) (Nat.lt_of_lt_of_le hlt1 (KeepsOthers.setCell w1 ⟨wr.heap.size, 4, none⟩ (.slice (some ⟨wr.heap.size + 1, 0, none⟩) X.kn X.kn)).size)).trans ((Below.heap_setCell w1 ⟨wr.heap.size, 4, none⟩ (.slice (some ⟨wr.heap.size + 1, 0, none⟩) X.kn X.kn) (wr.heap.size + 1) (Nat.succ_ne_self _)).trans hg)) | (at_builtin; refine wpList_append_own_at _ rfl _ _ 22 rfl w0.heap.size 30 i0 _ 7 80 Try.underlying22 hi hz0 hz1 hz2 rfl (by decide) _ _ _ rfl (own_more' hct'.out.1 hb2) ⟨w1.heap.size, 0, none⟩ 1 1 [.int .i64 X.kind, .string X.name, .int .u64 X.num, .int .i64 X.op, (.slice (some ⟨wr.heap.size + 1, 0, none⟩) X.kn X.kn), .int .i64 X.line, .int .i64 X.col] rfl rfl (by have := cell_seven_new (w1.setCell ⟨wr.heap.size, 4, none⟩ (.slice (some ⟨wr.heap.size + 1, 0, none⟩) X.kn X.kn)) (.int .i64 X.kind) (.string X.name) (.int .u64 X.num) (.int .i64 X.op) (.slice (some ⟨wr.heap.size + 1, 0, none⟩) X.kn X.kn) (.int .i64 X.line) (.int .i64 X.col) 30; rw [size_setCell] at this; exact this) (by simp [Value.oneCell']) p1 p2 (Nat.le_trans hsz hb2.size) ?_; intro v' w3 hown' hgrow _ _; obtain ⟨g', cap', rfl⟩ := ownsRow_succ hown'))
      have hfin := ct_step (y := { X with kp := some ⟨wr.heap.size + 1, 0, none⟩, kc := X.kn }) hct'.out hb2 rfl (Nat.le_trans hsz (Nat.le_succ _)) hg2 hkn hown' hgrow
      refine ⟨⟨i + 1, _, rfl, hlt, hfin, fun k hk => ?_, ?_⟩, hm⟩
      · by_cases hki : k = i
        · subst hki
          rw [upd_at, hX'.out]
          exact ⟨_, _, rfl⟩
        · rw [upd_lt _ _ _ (by omega)]
          exact hcp'.out k (by omega)
      · exact (hbel.trans (hb2.mono hsz)).grown hgrow (Nat.le_trans hsz hb2.size) (fun r e => own_base hct'.out.1 e)
    · have dl : decide ((i : Int) < n) = false := decide_eq_false (by omega)
      obtain rfl : i = n := by omega
      obtain ⟨vp, vm, vc, rfl⟩ := own_slice hct.1
      have r2 : Boxed wr (w.heap.size + 1) 24 (.slice none 0 0) := (hbel.block _ k2.lt).trans k2
      have r2c := r2.cell
      have r2f := r2.frozen
      clear hp' k1 k2
      go_wp2
      have dR := (r2.set (.slice vp vm vc)).cell
      refine bodyPost_ret (by simp [results, Try.results6, go_sem, dR]; try rfl) rfl ?_
      exact ⟨_, rfl, C, (CT.set hct (by omega) _).low (by omega), hcp, (hb0.trans (hbel.mono hb0.size)).setCell (p := ⟨w.heap.size + 1, 0, none⟩) (Nat.le_succ _) _⟩
end Go.Proofs.Ytehahicdkklhgaa
