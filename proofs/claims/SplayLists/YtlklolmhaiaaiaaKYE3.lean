import Derived.Test.YtlklolmhaiaaiaaKYE1
import Derived.Maps.OwnIn
import Derived.Shelf.Abstract
namespace Go.Proofs.Ytlklolmhaiaaiaa
open Go.ChangeShapes Go.WideShapes Go.ChangeAt Go.RowKit
set_option linter.unusedVariables false
set_option linter.unusedSimpArgs false
attribute [local go_sem] Oper.semAt_some

/-! ### some: what Each gives, left behind so many -/
def evX (X : Nat → Ev) (j : Nat) : Value := evC (X (j / 6)) (j % 6)
theorem evX_push (X : Nat → Ev) (n : Nat) {j : Nat} (hj : j < (n + 1) * 6) : (if j < n * 6 then evX X j else (evL (X n)).getD (j - n * 6) undef) = evX X j := by
  split
  · rfl
  · unfold evX evC
    rw [show j / 6 = n by omega, show j - n * 6 = j % 6 by omega]
structure So (QX : World → Prop) (qb g : Nat) (X : Nat → Ev) (k : Int) (s : Nat) (W0 : World) (i : Nat) (lv : Value) (V : World) : Prop where
  bx : V.heap[s + 1]? = some (.cells #[lv] 27 (0, 0))
  row : Own V (s + 5) 64 6 lv i (evX X)
  q : QX V
  nb : V.heap[s]? = some (.cells #[.int .i64 k] 3 (0, 0))
  d : V.heap[s + 3]? = some (.deferred (some []))
  sz : s + 4 < V.heap.size
  ch : Ch (S2 qb g) W0 V
/-- QX hangs on nothing but the queue -/
def QOk (QX : World → Prop) (qb g : Nat) : Prop := ∀ (V V' : World) (S : Nat → Prop), QX V → Ch S V V' → ¬ S qb → ¬ S g → QX V'
theorem So.far {QX : World → Prop} {qb g : Nat} {X : Nat → Ev} {k : Int} {s : Nat} {W0 V V' : World} {i : Nat} {lv : Value} (h : So QX qb g X k s W0 i lv V) (hq : QOk QX qb g) (h0 : W0.heap.size = s) (hqb : qb < s ∧ g < s) {S : Nat → Prop} (hc : Ch S V V') (hS : ∀ r, S r → r = s + 4 ∨ V.heap.size ≤ r) : So QX qb g X k s W0 i lv V' := by
  have hsz := h.sz
  have n : ∀ r, r < V.heap.size → r ≠ s + 4 → ¬ S r := fun r hr hr2 hs => by rcases hS r hs with e | e <;> omega
  exact ⟨(hc.block _ (by omega) (n _ (by omega) (by omega))).trans h.bx, h.row.far fun r e => hc.block r (Own.lt h.row r e).2 (n r (Own.lt h.row r e).2 (by have := (Own.lt h.row r e).1; omega)), hq _ _ S h.q hc (n _ (by omega) (by omega)) (n _ (by omega) (by omega)), (hc.block _ (by omega) (n _ (by omega) (by omega))).trans h.nb, (hc.block _ (by omega) (n _ (by omega) (by omega))).trans h.d, Nat.lt_of_lt_of_le h.sz hc.size, ⟨hc.os.trans h.ch.os, hc.tape.trans h.ch.tape, hc.output.trans h.ch.output, Nat.le_trans h.ch.size hc.size, fun j hj hs => (hc.block j (by have := h.ch.size; omega) (n j (by have := h.ch.size; omega) (by omega))).trans (h.ch.block j hj hs)⟩⟩
theorem So.one {QX : World → Prop} {qb g : Nat} {X : Nat → Ev} {k : Int} {s : Nat} {W0 V : World} {i i' : Nat} {lv lv' : Value} (h : So QX qb g X k s W0 i lv V) (h' : So QX qb g X k s W0 i' lv' V) : lv' = lv ∧ i' = i := by
  have e := h.bx.symm.trans h'.bx
  injection e with e
  injection e with e _
  have e : lv' = lv := by simpa using e.symm
  subst e
  refine ⟨rfl, ?_⟩
  rcases h.row.form with ⟨h1, h2⟩ | ⟨g1, c1, h1, _⟩
  · rcases h'.row.form with ⟨h3, h4⟩ | ⟨g2, c2, h3, _⟩
    · omega
    · rw [h1] at h3; injection h3 with h3; cases h3
  · rcases h'.row.form with ⟨h3, h4⟩ | ⟨g2, c2, h3, _⟩
    · rw [h1] at h3; injection h3 with h3; cases h3
    · rw [h1] at h3; injection h3 with _ h3 _; exact h3.symm
/-- may one go on behind i events? -/
def cont (k : Int) (i : Nat) : Prop := (1 ≤ k ∧ (i : Int) < k) ∨ (k < 1 ∧ i = 0)
def evA (X : Nat → Ev) (i : Nat) : Value := .agg #[.int .u64 (X i).t, .int .i64 (X i).s, .int .u64 (X i).q, .int .i64 (X i).d, .int .i64 (X i).k, .int .i64 (X i).v]
def SoO (QX : World → Prop) (qb g : Nat) (X : Nat → Ev) (k : Int) (s : Nat) (W0 : World) (N : Nat) (vs : Array Value) (V V' : World) : Prop := ∃ i lv lv', i < N ∧ vs = #[evA X i] ∧ So QX qb g X k s W0 i lv V ∧ So QX qb g X k s W0 (i + 1) lv' V' ∧ cont k (i + 1) ∧ (V.heap.size ≤ V'.heap.size ∧ ∀ r, r < V.heap.size → r ≠ s + 1 → r ≠ s + 4 → lv.ownBlock ≠ some r → V'.heap[r]? = V.heap[r]?) ∧ (lv'.ownBlock = lv.ownBlock ∨ ∃ k9, lv'.ownBlock = some k9 ∧ V.heap.size ≤ k9)
def SoX (QX : World → Prop) (qb g : Nat) (X : Nat → Ev) (k : Int) (s : Nat) (W0 : World) (N M ex : Nat) (c : Code) (vs : Array Value) (V V' : World) : Prop := c = .exit ex ∧ ∃ lv', So QX qb g X k s W0 M lv' V'
theorem But.ch {L : Nat} {V V' : World} (h : But L V V') : Ch (fun r => r = L) V V' := ⟨h.1.1, h.1.2.1, h.1.2.2, Nat.le_of_eq h.2.1.symm, fun r _ hr => h.2.2 r hr⟩
theorem evx_row {w9 WD : World} {b0 i : Nat} {X : Nat → Ev} {v' : Value} (hown : w9.ownsRow b0 64 6 v' (i + 1) (cellsF (evX X) (i * 6) ++ evL (X i))) : ∃ g6 c6, v' = .slice (some ⟨g6, 0, none⟩) (i + 1) c6 ∧ Own w9 b0 64 6 v' (i + 1) (evX X) := by
  have hO : Own w9 b0 64 6 v' (i + 1) (evX X) := by
    have e6 : evL (X i) = cellsF (fun j => (evL (X i)).getD j undef) 6 := rfl
    rw [e6, cellsF_append, show i * 6 + 6 = (i + 1) * 6 by omega] at hown
    exact Own.congr (F := fun j => if j < i * 6 then evX X j else (evL (X i)).getD (j - i * 6) undef) hown fun j hj => evX_push X i hj
  rcases hO.form with ⟨_, h2⟩ | ⟨g6, c6, h2, _, _⟩
  · omega
  · exact ⟨g6, c6, h2, hO⟩
set_option maxRecDepth 100000 in
set_option maxHeartbeats 8000000 in
theorem some_any (qb g N : Nat) (hn : N ≤ 8192) (X : Nat → Ev) (QX : World → Prop) (hQ : QOk QX qb g) (k : Int) (M : Nat) (hM : (k < 1 → M = 0) ∧ (1 ≤ k → k ≤ (N : Int) → (M : Int) = k) ∧ (1 ≤ k → (N : Int) < k → M = N)) (W : World) (hq : QX W) (hqb : qb < W.heap.size ∧ g < W.heap.size)
    (HS : ∀ w, QX w → Calls Try.prog 10 #[.pointer (some ⟨qb, 0, none⟩)] w fun e' W' => ∃ b, e' = .returned (.slice (some ⟨b, 0, none⟩) N N) ∧ EvsL W' b N X ∧ w.heap.size ≤ b ∧ QX W' ∧ Ch (S2 qb g) w W') :
    Calls Try.prog 44 #[.pointer (some ⟨qb, 0, none⟩), .int .i64 k] W fun e W' => ∃ lv, e = .returned lv ∧ Own W' W.heap.size 64 6 lv M (evX X) ∧ QX W' ∧ Ch (S2 qb g) W W' := by
  obtain ⟨i6, hi6, ha6, hb6, hc6⟩ := qinfo infoEV
  obtain ⟨s, hs0⟩ : ∃ s, W.heap.size = s := ⟨_, rfl⟩
  obtain ⟨w2, hw2⟩ : ∃ w2, (W.alloc (.cells #[.int .i64 k] 3)).alloc (.cells #[.slice none 0 0] 27) = w2 := ⟨_, rfl⟩
  obtain ⟨hn2, hl2, hb2⟩ := two_alloc _ _ _ _ _ _ hw2
  have hz2 : w2.heap.size = s + 2 := by rw [← hw2, World.size_alloc, World.size_alloc, hs0]
  obtain ⟨w3, hw3⟩ : ∃ w3, w2.alloc (.cells #[.pointer (some ⟨qb, 0, none⟩)] 23) = w3 := ⟨_, rfl⟩
  have hb3 : Below w2.heap.size w2 w3 := by rw [← hw3]; exact (Below.refl _ _).alloc (Nat.le_refl _) _
  have hx3 : w3.heap[s + 2]? = some (.cells #[.pointer (some ⟨qb, 0, none⟩)] 23 (0, 0)) := by rw [← hz2, ← hw3]; exact World.alloc_heap_new w2 _
  have hz3 : w3.heap.size = s + 3 := by rw [← hw3, World.size_alloc, hz2]
  have hb03 : Below W.heap.size W w3 := hb2.trans (hb3.mono (by omega))
  rw [hs0] at hn2 hl2
  have hn3 := (hb3.block s (by omega)).trans hn2
  have hl3 := (hb3.block (s + 1) (by omega)).trans hl2
  have hq3 : QX w3 := hQ _ _ (fun _ => False) hq (Ch.below hb03 |>.mono fun _ h => h) (fun h => h) (fun h => h)
  have HW2 : Hid ((W.alloc (.cells #[.int .i64 k] 3)).alloc (.cells #[.slice none 0 0] 27) = w2) := hw2
  have HW3 : Hid (w2.alloc (.cells #[.pointer (some ⟨qb, 0, none⟩)] 23) = w3) := hw3
  have HA : Hid (w3.heap[s]? = some (.cells #[.int .i64 k] 3 (0, 0)) ∧ w3.heap[s + 1]? = some (.cells #[.slice none 0 0] 27 (0, 0)) ∧ w3.heap[s + 2]? = some (.cells #[.pointer (some ⟨qb, 0, none⟩)] 23 (0, 0)) ∧ QX w3 ∧ w3.heap.size = s + 3 ∧ Below W.heap.size W w3) := ⟨hn3, hl3, hx3, hq3, hz3, hb03⟩
  have HZ : Hid (w2.heap.size = s + 2 ∧ W.heap.size = s) := ⟨hz2, hs0⟩
  clear hw2 hw3 hn2 hl2 hb2 hb3 hx3 hb03 hn3 hl3 hq3 hz2 hz3 hq
  refine (callsIn_wide (n := 3)).1 ?_
  refine callsIn_of_wp_marks Try.func44 rfl trivial ?_ rfl
  simp only [Try.ntmps44, List.size_toArray, List.length_cons, List.length_nil, Nat.reduceAdd, Nat.reduceSub, Array.replicate_succ, Array.replicate_zero, List.push_toArray, List.append_toArray, List.nil_append, List.cons_append]
  gi_wp2_with (refine ⟨trivial, ?_⟩; gi_at_call 66; rw [HW2.out]; (with_reducible refine (callsIn_wide.2 (each_any qb _)).mono ?_); rintro e w9 ⟨rfl, rfl⟩; rw [HW3.out])
  rw [HZ.out.1]
  obtain ⟨hn3, hl3, hx3, hq3, hz3, hb03⟩ := HA.out
  have hsW := HZ.out.2
  refine range_mut (n := 3) (by decide) (gf := 78) (lb := #[.pointer (some ⟨s + 2, 0, none⟩)]) rfl (enters_of Try.func78 (by kernel_rfl) rfl)
    (fun vs V => ∃ i lv, i < N ∧ vs = #[evA X i] ∧ So QX qb g X k s W i lv V ∧ cont k i)
    (fun vs V a' V' => ∃ i lv, i < N ∧ vs = #[evA X i] ∧ So QX qb g X k s W i lv V ∧ cont k i ∧ a' = { tmps := #[.pointer (some ⟨qb, 0, none⟩), .int .i64 k, undef, .pointer (some ⟨s, 0, none⟩), .slice none 0 0, .pointer (some ⟨s + 1, 0, none⟩), .pointer (some ⟨V.heap.size, 0, none⟩), .pointer (some ⟨qb, 0, none⟩), .func (.func 78) #[] #[.pointer (some ⟨s + 2, 0, none⟩)], evA X i, undef, undef, undef, undef, undef, undef, undef, undef, undef, undef, undef], defers := [] } ∧ But (s + 4) (V.alloc (.cells #[.int .u64 (X i).t, .int .i64 (X i).s, .int .u64 (X i).q, .int .i64 (X i).d, .int .i64 (X i).k, .int .i64 (X i).v] 64)) V')
    (SoO QX qb g X k s W N) (SoX QX qb g X k s W N M 0) ?hA ?hO ?hOx ?assign ?body ?ps
    (fun V => ∃ lv, So QX qb g X k s W M lv V) (fun c V => c = .exit 0 ∧ ∃ lv, So QX qb g X k s W M lv V) ?seq ?done ?stop
  case hA =>
    rintro vs V a' W1 W2 ⟨i, lv, h1, h2, h3, h4, h5, h6⟩ hb
    rw [hz3] at hb
    exact ⟨i, lv, h1, h2, h3, h4, h5, ⟨⟨hb.1.1.trans h6.1.1, hb.1.2.1.trans h6.1.2.1, hb.1.2.2.trans h6.1.2.2⟩, hb.2.1.trans h6.2.1, fun r hr => (hb.2.2 r hr).trans (h6.2.2 r hr)⟩⟩
  case hO =>
    rintro vs V W1 W2 ⟨i, lv, lv', h1, h2, h3, h4, h5, h6, h7⟩ hb
    rw [hz3] at hb
    exact ⟨i, lv, lv', h1, h2, h3, h4.far hQ hsW (by omega) hb.ch (fun r hr => .inl hr), h5, ⟨by rw [hb.2.1]; exact h6.1, fun r hr hr1 hr2 hr3 => (hb.2.2 r hr2).trans (h6.2 r hr hr1 hr2 hr3)⟩, h7⟩
  case hOx =>
    rintro c vs V W1 W2 ⟨h1, lv', h2⟩ hb
    rw [hz3] at hb
    exact ⟨h1, lv', h2.far hQ hsW (by omega) hb.ch (fun r hr => .inl hr)⟩
  case ps =>
    rintro vs V ⟨i, lv, _, rfl, _⟩
    rfl
  case assign =>
    rintro m vs V K ⟨i, lv, h1, rfl, h2, h3⟩ hLs hK
    unfold evA at *
    gi_wp2
    exact hK _ _ ⟨i, lv, h1, rfl, h2, h3, rfl, ⟨⟨rfl, rfl, rfl⟩, rfl, fun _ _ => rfl⟩⟩ (((Below.refl _ V).alloc (Nat.le_refl _) _).block _ hLs)
  case body =>
    rw [hz3]
    rintro m vs V a' V' rc ⟨i, lv, hi, rfl, hso, hc, rfl, hbut⟩ hlr
    unfold evA
    have hal : Below V.heap.size V (V.alloc (.cells #[.int .u64 (X i).t, .int .i64 (X i).s, .int .u64 (X i).q, .int .i64 (X i).d, .int .i64 (X i).k, .int .i64 (X i).v] 64)) := (Below.refl _ V).alloc (Nat.le_refl _) _
    have hVz : V'.heap.size = V.heap.size + 1 := by rw [hbut.2.1]; simp
    have hcb : Ch (fun r => r = s + 4) V V' := ⟨hbut.1.1.trans hal.os, hbut.1.2.1.trans hal.tape, hbut.1.2.2.trans hal.output, by omega, fun r hr hr2 => (hbut.2.2 r hr2).trans (hal.block r hr)⟩
    have hso' := hso.far hQ hsW (by omega) hcb (fun r hr => .inl hr)
    have hsz := hso.sz
    have hE : V'.heap[V.heap.size]? = some (.cells #[.int .u64 (X i).t, .int .i64 (X i).s, .int .u64 (X i).q, .int .i64 (X i).d, .int .i64 (X i).k, .int .i64 (X i).v] 64 (0, 0)) := (hbut.2.2 _ (by omega)).trans (World.alloc_heap_new V _)
    obtain ⟨gw, cw, hlv, hgw⟩ := own_slice8 hso'.row
    subst hlv
    have b0 : V'.cell? ⟨s + 1, 0, none⟩ = some (.slice gw i cw) := one_c hso'.bx
    have n0 : V'.cell? ⟨s, 0, none⟩ = some (.int .i64 k) := one_c hso'.nb
    obtain ⟨x0, x1, x2, x3, x4, x5⟩ := q6c hE
    have le := lt_of_block hE
    have lb1 := lt_of_block hso'.bx
    have ln1 := lt_of_block hso'.nb
    by_cases hk : k < 1
    · have d1 : decide (k < 1) = true := by simpa using hk
      have hi0 : i = 0 := by rcases hc with h9 | h9; omega; exact h9.2
      have hfin : V'.heap[s + 4]? = some (.loop rc) ∧ rexit (SoO QX qb g X k s W N #[.agg #[.int .u64 (X i).t, .int .i64 (X i).s, .int .u64 (X i).q, .int .i64 (X i).d, .int .i64 (X i).k, .int .i64 (X i).v]] V) (fun c => SoX QX qb g X k s W N M 0 c #[.agg #[.int .u64 (X i).t, .int .i64 (X i).s, .int .u64 (X i).q, .int .i64 (X i).d, .int .i64 (X i).k, .int .i64 (X i).v]] V) (.exit 0) V' := ⟨hlr, rfl, .slice gw i cw, by rw [hM.1 hk, ← hi0]; exact hso'⟩
      have HF : Hid _ := hfin
      clear hfin hso hso' hcb hbut hal hE hlr hc hi0 hk hi hVz hsz hM
      gi_wp2
      exact HF.out
    · have d1 : decide (k < 1) = false := by simpa using hk
      have hc1 : (i : Int) < k := by rcases hc with h9 | h9; exact h9.2; omega
      have p1 : i + 1 ≤ maxLen := by unfold maxLen; omega
      have p2 : (i + 1) * 48 ≤ 140737488355328 := by omega
      obtain ⟨W8, hW8⟩ : ∃ W8, V'.alloc (.cells #[.int .u64 (X i).t, .int .i64 (X i).s, .int .u64 (X i).q, .int .i64 (X i).d, .int .i64 (X i).k, .int .i64 (X i).v] 64) = W8 := ⟨_, rfl⟩
      have hb8 : Below V'.heap.size V' W8 := by rw [← hW8]; exact (Below.refl _ V').alloc (Nat.le_refl _) _
      have hz8 : W8.heap.size = V'.heap.size + 1 := by rw [← hW8, World.size_alloc]
      have HO : Hid (W8.ownsRow (s + 5) 64 6 (.slice gw i cw) i (cellsF (evX X) (i * 6))) := hso'.row.later hb8
      have HN : Hid (∀ j u, (evL (X i))[j]? = some u → W8.cell? ((⟨V'.heap.size, 0, none⟩ : Addr).add j) = some u) := fun j u hj => by rw [← hW8]; exact cells_new V' (evL (X i)) 64 j u hj
      have HBS : Hid (s + 5 ≤ W8.heap.size) := (by omega : s + 5 ≤ W8.heap.size)
      have HB : Hid (Below V'.heap.size V' W8 ∧ W8.heap.size = V'.heap.size + 1 ∧ (∀ r, (Value.slice gw i cw).ownBlock = some r → s + 5 ≤ r ∧ r < V'.heap.size)) := ⟨hb8, hz8, hgw⟩
      have HV : Hid (So QX qb g X k s W i (.slice gw i cw) V ∧ So QX qb g X k s W i (.slice gw i cw) V' ∧ Ch (fun r => r = s + 4) V V' ∧ V'.heap[s + 4]? = some (.loop rc) ∧ V'.heap.size = V.heap.size + 1 ∧ s + 4 < V.heap.size) := ⟨hso, hso', hcb, hlr, hVz, hsz⟩
      have HW8 : Hid (V'.alloc (.cells #[.int .u64 (X i).t, .int .i64 (X i).s, .int .u64 (X i).q, .int .i64 (X i).d, .int .i64 (X i).k, .int .i64 (X i).v] 64) = W8) := hW8
      have HI : Hid (i < N ∧ ¬ k < 1 ∧ (i : Int) < k) := ⟨hi, hk, hc1⟩
      have HMk : Hid ((i : Int) + 1 = k → M = i + 1) := fun e => by have h9 := hM.2.1 (by omega) (by omega); omega
      have HCk : Hid ((i : Int) + 1 ≠ k → cont k (i + 1)) := fun e => .inl ⟨by omega, by omega⟩
      have HFIN : Hid (∀ (w9 : World) (g6 c6 : Nat), Own w9 (s + 5) 64 6 (.slice (some ⟨g6, 0, none⟩) (i + 1) c6) (i + 1) (evX X) → W8.grownBy w9 (Value.slice gw i cw).ownBlock → ((Value.slice (some ⟨g6, 0, none⟩) (i + 1) c6).ownBlock = (Value.slice gw i cw).ownBlock ∨ (Value.slice (some ⟨g6, 0, none⟩) (i + 1) c6).ownBlock = some W8.heap.size) → ∃ w10, w9.setCell ⟨s + 1, 0, none⟩ (.slice (some ⟨g6, 0, none⟩) (i + 1) c6) = w10 ∧ So QX qb g X k s W (i + 1) (.slice (some ⟨g6, 0, none⟩) (i + 1) c6) w10 ∧ w10.heap[s + 4]? = some (.loop rc) ∧ (cont k (i + 1) → SoO QX qb g X k s W N #[evA X i] V w10)) := by
        intro w9 g6 c6 ho9 hg9 ha9
        obtain ⟨y1, y2, y3, y4, y5, y6⟩ := HV.out
        have hsz9 := hg9.size
        have hB8 : ∀ r, r < V'.heap.size → (Value.slice gw i cw).ownBlock ≠ some r → w9.heap[r]? = V'.heap[r]? := fun r hr hr2 => (hg9.block r (by omega) (fun e => hr2 e.symm)).trans (hb8.block r hr)
        have hno : ∀ r, r < s + 5 → (Value.slice gw i cw).ownBlock ≠ some r := fun r hr e => by have := (hgw r e).1; omega
        have hg6 : g6 ≠ s + 1 ∧ g6 ≠ s + 4 ∧ s + 5 ≤ g6 := by have := (Own.lt ho9 g6 rfl).1; omega
        obtain ⟨w10, hw10⟩ : ∃ w10, w9.setCell ⟨s + 1, 0, none⟩ (.slice (some ⟨g6, 0, none⟩) (i + 1) c6) = w10 := ⟨_, rfl⟩
        have hz10 : w10.heap.size = w9.heap.size := by rw [← hw10]; simp [World.setCell]
        have far : ∀ r, r ≠ s + 1 → w10.heap[r]? = w9.heap[r]? := fun r hr => by rw [← hw10]; exact Below.heap_setCell _ _ _ _ hr
        have hbx9 : w9.heap[s + 1]? = some (.cells #[.slice gw i cw] 27 (0, 0)) := (hB8 _ (by omega) (hno _ (by omega))).trans y2.bx
        have hbx10 : w10.heap[s + 1]? = some (.cells #[.slice (some ⟨g6, 0, none⟩) (i + 1) c6] 27 (0, 0)) := by
          rw [← hw10, setCell_block _ _ _ _ hbx9]
          rfl
        have h0b : Below 0 V' w9 := (hb8.mono (Nat.zero_le _)).grown hg9 (Nat.zero_le _) (fun _ _ => Nat.zero_le _)
        have h10b : Below 0 V' w10 := by rw [← hw10]; exact h0b.setCell (p := ⟨s + 1, 0, none⟩) (Nat.zero_le _) _
        have hch : Ch (fun r => r = s + 1 ∨ some r = (Value.slice gw i cw).ownBlock) V' w10 := ⟨h10b.os, h10b.tape, h10b.output, h10b.size, fun r hr hr2 => (far r fun e => hr2 (.inl e)).trans (hB8 r hr fun e => hr2 (.inr e.symm))⟩
        have hso10 : So QX qb g X k s W (i + 1) (.slice (some ⟨g6, 0, none⟩) (i + 1) c6) w10 := by
          refine ⟨hbx10, ho9.far fun r e => far r (by have e' : some g6 = some r := e; injection e' with e'; omega), hQ _ _ _ y2.q hch ?_ ?_, ?_, ?_, by omega, ?_⟩
          · rintro (e | e)
            · omega
            · exact hno qb (by omega) e.symm
          · rintro (e | e)
            · omega
            · exact hno g (by omega) e.symm
          · exact (hch.block s (by omega) (by rintro (e | e); omega; exact hno _ (by omega) e.symm)).trans y2.nb
          · exact (hch.block (s + 3) (by omega) (by rintro (e | e); omega; exact hno _ (by omega) e.symm)).trans y2.d
          · have hs2 := y2.ch.size
            exact ⟨hch.os.trans y2.ch.os, hch.tape.trans y2.ch.tape, hch.output.trans y2.ch.output, Nat.le_trans hs2 hch.size, fun j hj hs => (hch.block j (by omega) (by rintro (e | e); omega; exact hno _ (by omega) e.symm)).trans (y2.ch.block j hj hs)⟩
        refine ⟨w10, hw10, hso10, ?_, fun hcc => ⟨i, .slice gw i cw, _, HI.out.1, rfl, y1, hso10, hcc, ⟨by omega, fun r hr hr1 hr2 hr3 => ?_⟩, ?_⟩⟩
        · exact (hch.block (s + 4) (by omega) (by rintro (e | e); omega; exact hno _ (by omega) e.symm)).trans y4
        · exact (hch.block r (by omega) (by rintro (e | e); exact hr1 e; exact hr3 e.symm)).trans (y3.block r hr hr2)
        · rcases ha9 with ha9 | ha9
          · exact .inl ha9
          · exact .inr ⟨_, ha9, by omega⟩
      have hfz : ∀ w9 : World, W8.grownBy w9 (Value.slice gw i cw).ownBlock → w9.heap[s + 1]? = some (.cells #[.slice gw i cw] 27 (0, 0)) ∧ w9.heap[s]? = some (.cells #[.int .i64 k] 3 (0, 0)) := fun w9 hg9 => by
        obtain ⟨y1, y2, y3, y4, y5, y6⟩ := HV.out
        exact ⟨(hg9.block (s + 1) (by omega) (fun e => by have := (hgw _ e.symm).1; omega)).trans ((hb8.block _ (by omega)).trans y2.bx), (hg9.block s (by omega) (fun e => by have := (hgw _ e.symm).1; omega)).trans ((hb8.block _ (by omega)).trans y2.nb)⟩
      have HFZ : Hid (∀ w9 : World, W8.grownBy w9 (Value.slice gw i cw).ownBlock → w9.heap[s + 1]? = some (.cells #[.slice gw i cw] 27 (0, 0)) ∧ w9.heap[s]? = some (.cells #[.int .i64 k] 3 (0, 0))) := hfz
      clear hfz hso hso' hcb hbut hal hE hlr hc hk hi hVz hsz hW8 hb8 hz8 hgw hc1 hM
      by_cases hik : (i : Int) + 1 = k
      · have d2 : ((i : Int) + 1 == k) = true := by simpa using hik
        have HE : Hid ((i : Int) + 1 = k) := hik
        clear hik
        gi_wp2_with (gi_at_builtin; rw [HW8.out]; refine wpListIn_append_own_at _ rfl _ _ 27 rfl (s + 5) 64 i6 _ 6 48 Try.underlying27 hi6 ha6 hb6 hc6 rfl (by decide) _ _ _ rfl HO.out ⟨V'.heap.size, 0, none⟩ 1 1 (evL (X i)) rfl rfl HN.out (by simp [evL, Value.oneCell']) p1 p2 HBS.out ?_; intro v' w9 hown9 hgrow9 _ hat9; obtain ⟨g6, c6, hv', hO6⟩ := evx_row (WD := W8) hown9; subst hv'; obtain ⟨w10, hw10, hso10, hlr10, hgo10⟩ := HFIN.out w9 g6 c6 hO6 hgrow9 hat9; obtain ⟨hbx9, hnb9⟩ := HFZ.out w9 hgrow9; have f0 := frz hbx9 0; have hb9c := one_c hbx9; have lb9 := lt_of_block hbx9; have hn9c := one_c hnb9; have ln9 := lt_of_block hnb9; have HW10 : Hid (w9.setCell ⟨s + 1, 0, none⟩ (.slice (some ⟨g6, 0, none⟩) (i + 1) c6) = w10) := hw10; have HG10 : Hid (So QX qb g X k s W (i + 1) (.slice (some ⟨g6, 0, none⟩) (i + 1) c6) w10 ∧ w10.heap[s + 4]? = some (.loop rc) ∧ (cont k (i + 1) → SoO QX qb g X k s W N #[evA X i] V w10)) := ⟨hso10, hlr10, hgo10⟩; clear hw10 hown9 hgrow9 hat9 hO6 hbx9 hnb9 hso10 hlr10 hgo10)
        rw [HW10.out]
        obtain ⟨z1, z2, z3⟩ := HG10.out
        exact ⟨z2, rfl, _, by rw [HMk.out HE.out]; exact z1⟩
      · have d2 : ((i : Int) + 1 == k) = false := by simpa using hik
        have HE : Hid ((i : Int) + 1 ≠ k) := hik
        clear hik
        gi_wp2_with (gi_at_builtin; rw [HW8.out]; refine wpListIn_append_own_at _ rfl _ _ 27 rfl (s + 5) 64 i6 _ 6 48 Try.underlying27 hi6 ha6 hb6 hc6 rfl (by decide) _ _ _ rfl HO.out ⟨V'.heap.size, 0, none⟩ 1 1 (evL (X i)) rfl rfl HN.out (by simp [evL, Value.oneCell']) p1 p2 HBS.out ?_; intro v' w9 hown9 hgrow9 _ hat9; obtain ⟨g6, c6, hv', hO6⟩ := evx_row (WD := W8) hown9; subst hv'; obtain ⟨w10, hw10, hso10, hlr10, hgo10⟩ := HFIN.out w9 g6 c6 hO6 hgrow9 hat9; obtain ⟨hbx9, hnb9⟩ := HFZ.out w9 hgrow9; have f0 := frz hbx9 0; have hb9c := one_c hbx9; have lb9 := lt_of_block hbx9; have hn9c := one_c hnb9; have ln9 := lt_of_block hnb9; have HW10 : Hid (w9.setCell ⟨s + 1, 0, none⟩ (.slice (some ⟨g6, 0, none⟩) (i + 1) c6) = w10) := hw10; have HG10 : Hid (So QX qb g X k s W (i + 1) (.slice (some ⟨g6, 0, none⟩) (i + 1) c6) w10 ∧ w10.heap[s + 4]? = some (.loop rc) ∧ (cont k (i + 1) → SoO QX qb g X k s W N #[evA X i] V w10)) := ⟨hso10, hlr10, hgo10⟩; clear hw10 hown9 hgrow9 hat9 hO6 hbx9 hnb9 hso10 hlr10 hgo10)
        rw [HW10.out]
        obtain ⟨z1, z2, z3⟩ := HG10.out
        exact ⟨z2, z3 (HCk.out HE.out)⟩
  case seq =>
    intro L D rc rx W6 hB6 hsz6 hD hL hl hd hY
    rw [hz3] at hD hL hsz6
    subst hD
    subst hL
    have hb6 : ∀ r, r < w3.heap.size → W6.heap[r]? = w3.heap[r]? := fun r hr => hB6.block r hr
    have hq6 : QX W6 := hQ _ _ (fun _ => False) hq3 ((Ch.below hB6).mono fun _ h => h) (fun h => h) (fun h => h)
    refine (each1_gen W6 qb g N hn X QX (HS W6 hq6) _ (s + 3 + 1) _ (s + 2) ((hb6 _ (by omega)).trans hx3) hl (by rintro (e | e) <;> omega)
      (fun b i V => ∃ lv, So QX qb g X k s W i lv V ∧ cont k i ∧ lv.ownBlock ≠ some b ∧ s + 4 < b ∧ b < V.heap.size ∨ (i = N ∧ False))
      (fun b i V => (∃ lv, So QX qb g X k s W M lv V) ∧ V.heap[s + 3 + 1]? = some (.loop (rx (.exit 0)))) ?j0 ?jb ?yy).mono ?out
    case j0 =>
      intro b W7 hq7 hc7 hb7 hb8
      have f7 : ∀ r, r < w3.heap.size → r ≠ qb → r ≠ g → W7.heap[r]? = w3.heap[r]? := fun r hr h1 h2 => (hc7.block r (by omega) (by rintro (e | e); exact h1 e; exact h2 e)).trans (hb6 r hr)
      have hz7 := hc7.size
      refine ⟨.slice none 0 0, .inl ⟨⟨(f7 _ (by omega) (by omega) (by omega)).trans hl3, Own.nil0, hq7, (f7 _ (by omega) (by omega) (by omega)).trans hn3, (hc7.block _ (by omega) (by rintro (e | e) <;> omega)).trans hd, by omega, ?_⟩, ?_, (by intro e; cases e), by omega, hb8⟩⟩
      · exact ((Ch.below hb03).trans ((Ch.below hB6))).trans hc7
      · by_cases hk : k < 1
        · exact .inr ⟨hk, rfl⟩
        · exact .inl ⟨by omega, by omega⟩
    case jb =>
      rintro b i w w' ⟨lv, ⟨h1, h2, h3, h4, h5⟩ | h1⟩ hb
      · exact ⟨lv, .inl ⟨h1.far hQ hsW (by omega) (S := fun _ => False) ((Ch.below hb).mono fun _ h => h) (fun _ h => h.elim), h2, h3, h4, Nat.lt_of_lt_of_le h5 hb.size⟩⟩
      · exact absurd h1.2 (fun h => h)
    case yy =>
      rintro m b i W7 hi ⟨lv, ⟨h1, h2, h3, h4, h5⟩ | h1⟩ hb7 hl7
      · obtain ⟨fn, tm, asg, bd, hy, hRd⟩ := hY m #[evA X i] W7 ⟨i, lv, hi, rfl, h1, h2⟩ hl7
        refine ⟨fn, tm, asg, bd, hy, hRd.mono ?_⟩
        rintro e' W8 (⟨rfl, ⟨i2, lv2, lv3, g1, g2, g3, g4, g5, g6, g7⟩, hl9⟩ | ⟨rfl, c9, ⟨hc9, lv9, hx9⟩, hl9⟩)
        · obtain ⟨rfl, rfl⟩ := h1.one g3
          refine .inl ⟨rfl, hl9, ⟨lv3, .inl ⟨g4, g5, ?_, h4, by omega⟩⟩, g6.2 b h5 (by omega) (by omega) h3, g6.1⟩
          rcases g7 with e | ⟨k9, e, e2⟩
          · rw [e]; exact h3
          · rw [e]; intro e3; injection e3 with e3; omega
        · subst hc9
          exact .inr ⟨rfl, ⟨lv9, hx9⟩, hl9⟩
      · exact absurd h1.2 (fun h => h)
    case out =>
      rintro e W7 ⟨hv, ⟨b, ⟨lv, ⟨h1, h2, h3, h4, h5⟩ | h1⟩, hl7⟩ | ⟨b, i, hi, ⟨lv, hx⟩, hl9⟩⟩
      · have hMN : M = N := by
          rcases h2 with ⟨h8, h9⟩ | ⟨h8, h9⟩
          · exact hM.2.2 h8 h9
          · rw [hM.1 h8, h9]
        exact ⟨hv, h1.d, .inl ⟨hl7, lv, by rw [hMN]; exact h1⟩⟩
      · exact absurd h1.2 (fun h => h)
      · exact ⟨hv, hx.d, .inr ⟨.exit 0, hl9, rfl, lv, hx⟩⟩
  case done =>
    rintro D L V V' hD hL hLt ⟨lv, hso⟩ hbut hdd
    rw [hz3] at hD hL
    subst hD
    subst hL
    have hso' := hso.far hQ hsW (by omega) hbut.ch (fun r hr => .inl hr)
    have b0 := one_c hso'.bx
    have lb := lt_of_block hso'.bx
    have HE : Hid (So QX qb g X k s W M lv V') := hso'
    clear hso hso' hbut hdd hLt
    gi_wp2
    have hso := HE.out
    refine ⟨by simp, .inl ⟨_, _, rfl, run_takeDeferred hso.d, ?_⟩⟩
    refine ⟨lv, by simp [results, Try.results44, go_sem]; try rfl, ?_⟩
    have hcp : Ch (fun r => r = s + 3) V' (V'.putObj (s + 3) (.deferred none)) := ⟨rfl, rfl, rfl, by simp, fun r hr h => World.putObj_heap_other h⟩
    have hVs := hso.ch.size
    refine ⟨lv, rfl, (hso.row.far fun r e => hcp.block r (Own.lt hso.row r e).2 (by have := (Own.lt hso.row r e).1; intro e9; omega)).lower (by omega), hQ _ _ _ hso.q hcp (by omega) (by omega), ⟨hcp.os.trans hso.ch.os, hcp.tape.trans hso.ch.tape, hcp.output.trans hso.ch.output, Nat.le_trans hVs hcp.size, fun j hj hs => (hcp.block j (by omega) (by omega)).trans (hso.ch.block j hj hs)⟩⟩
  case stop =>
    rintro D L c V V' hD hL hLt ⟨rfl, lv, hso⟩ hbut hdd
    rw [hz3] at hD hL
    subst hD
    subst hL
    have hso' := hso.far hQ hsW (by omega) hbut.ch (fun r hr => .inl hr)
    have b0 := one_c hso'.bx
    have lb := lt_of_block hso'.bx
    have HE : Hid (So QX qb g X k s W M lv V') := hso'
    clear hso hso' hbut hdd hLt
    gi_wp2
    have hso := HE.out
    refine ⟨by simp, .inl ⟨_, _, rfl, run_takeDeferred hso.d, ?_⟩⟩
    refine ⟨lv, by simp [results, Try.results44, go_sem]; try rfl, ?_⟩
    have hcp : Ch (fun r => r = s + 3) V' (V'.putObj (s + 3) (.deferred none)) := ⟨rfl, rfl, rfl, by simp, fun r hr h => World.putObj_heap_other h⟩
    have hVs := hso.ch.size
    refine ⟨lv, rfl, (hso.row.far fun r e => hcp.block r (Own.lt hso.row r e).2 (by have := (Own.lt hso.row r e).1; intro e9; omega)).lower (by omega), hQ _ _ _ hso.q hcp (by omega) (by omega), ⟨hcp.os.trans hso.ch.os, hcp.tape.trans hso.ch.tape, hcp.output.trans hso.ch.output, Nat.le_trans hVs hcp.size, fun j hj hs => (hcp.block j (by omega) (by omega)).trans (hso.ch.block j hj hs)⟩⟩
end Go.Proofs.Ytlklolmhaiaaiaa
namespace Go.Proofs.Ytlklolmhaiaaiaa
open Go.ChangeShapes Go.WideShapes Go.ChangeAt Go.RowKit
set_option linter.unusedVariables false
set_option linter.unusedSimpArgs false

def frM (k : Int) (n : Nat) : Nat := if k < 1 then 0 else if (n : Int) ≤ k then n else k.toNat
theorem frM_le (k : Int) (n : Nat) : frM k n ≤ n := by
  unfold frM
  split
  · omega
  · split <;> omega
theorem frM_ok (k : Int) (N : Nat) : (k < 1 → frM k N = 0) ∧ (1 ≤ k → k ≤ (N : Int) → (frM k N : Int) = k) ∧ (1 ≤ k → (N : Int) < k → frM k N = N) := by
  unfold frM
  refine ⟨fun h => if_pos h, fun h1 h2 => ?_, fun h1 h2 => ?_⟩
  · rw [if_neg (by omega)]
    split <;> omega
  · rw [if_neg (by omega), if_pos (by omega)]
set_option maxRecDepth 100000 in
set_option maxHeartbeats 4000000 in
theorem front_any (p : Option Addr) (n c : Nat) (hnc : n ≤ c) (k : Int) (W : World) : Calls Try.prog 45 #[.slice p n c, .int .i64 k] W fun e W' => ∃ c', e = .returned (.slice p (frM k n) c') ∧ W' = W := by
  by_cases h0 : k < 0
  · have d0 : decide (k < 0) = true := by simpa using h0
    have e : frM k n = 0 := if_pos (by omega)
    rw [e]
    by_cases hn : 0 < n
    · have d1 : decide ((0 : Int) < (n : Int)) = true := by simpa using hn
      have d2 : decide (0 < n) = true := by simpa using hn
      clear h0 e
      go_enter Try.func45, Try.ntmps45
      go_wp2_with fail
      go_ret
      exact ⟨_, rfl, rfl⟩
    · obtain rfl : n = 0 := by omega
      clear h0 e hn
      go_enter Try.func45, Try.ntmps45
      go_wp2_with fail
      go_ret
      exact ⟨_, rfl, rfl⟩
  · have d0 : decide (k < 0) = false := by simpa using h0
    obtain ⟨q, rfl⟩ : ∃ q : Nat, k = (q : Int) := ⟨k.toNat, by omega⟩
    by_cases hn : q < n
    · have e : frM (q : Int) n = q := by unfold frM; split; omega; rw [if_neg (by omega)]; omega
      rw [e]
      have d1 : decide ((q : Int) < (n : Int)) = true := by simpa using hn
      have d2 : decide (q < n) = true := by simpa using hn
      have i1 : (q : Int) ≤ (c : Int) := by omega
      have i0 : (0 : Int) ≤ (q : Int) := by omega
      clear h0 e
      go_enter Try.func45, Try.ntmps45
      go_wp2_with fail
      go_ret
      exact ⟨_, rfl, rfl⟩
    · have e : frM (q : Int) n = n := by unfold frM; split; omega; rw [if_pos (by omega)]
      rw [e]
      have d1 : decide ((q : Int) < (n : Int)) = false := by simpa using hn
      have d2 : decide (q < n) = false := by simpa using hn
      clear h0 e
      go_enter Try.func45, Try.ntmps45
      go_wp2_with fail
      go_ret
      exact ⟨_, rfl, rfl⟩
theorem own_cap {W : World} {base : Nat} {ty : TypeId} {sz n c : Nat} {p : Option Addr} {F : Nat → Value} (h : Own W base ty sz (.slice p n c) n F) : n ≤ c := by
  rcases h.form with ⟨h1, h2⟩ | ⟨g9, c9, h1, _, _⟩
  · omega
  · injection h1 with h1 _ h4
    subst h1 h4
    obtain ⟨cur, _, _, h5, _⟩ := h.block
    exact h5
theorem XAt.cut {W : World} {p : Option Addr} {n m : Nat} {F : Nat → Value} (h : XAt W p n F) (hm : m ≤ n) : XAt W p m F := by
  rcases h with h | ⟨b, o, e, hl, hc⟩
  · exact .inl (by omega)
  · exact .inr ⟨b, o, e, hl, fun j hj => hc j (by omega)⟩
theorem qi_ok (base qb g c n : Nat) (A : Ar) (t : Tr) (fl : List Nat) (root : Nat) (room work : Int) : QOk (fun V => QI V base qb g c n A t fl root room work) qb g := fun V V' S h hc h1 h2 => ⟨h.q.keep hc h1 h2, h.ti, h.fr, h.nd, h.inr, h.cnt, h.z, h.nr, h.rm, h.srt, h.wk⟩
def spE (A : Ar) (t : Tr) (i : Nat) : Ev := A.E ((t.spots 0).getD i (0, 0)).1
theorem qi_list (base qb g c n : Nat) (A : Ar) (t : Tr) (fl : List Nat) (root : Nat) (room work : Int) (w : World) (h : QI w base qb g c n A t fl root room work) : Calls Try.prog 10 #[.pointer (some ⟨qb, 0, none⟩)] w fun e' W' => ∃ b, e' = .returned (.slice (some ⟨b, 0, none⟩) t.size t.size) ∧ EvsL W' b t.size (spE A t) ∧ w.heap.size ≤ b ∧ QI W' base qb g c n A t fl root room work ∧ Ch (S2 qb g) w W' := by
  refine (list_any base qb g c n A _ root _ _ _ t w h.q h.n1.2.1 h.ti h.ndT h.inT h.n1.2.2).mono ?_
  rintro e W1 ⟨b, rfl, ho, hq, hC⟩
  have hlt := Own.lt ho b rfl
  refine ⟨b, rfl, ⟨hlt.2, fun i r hi hr => ?_⟩, hlt.1, ⟨hq, h.ti, h.fr, h.nd, h.inr, h.cnt, h.z, h.nr, h.rm, h.srt, h.wk⟩, hC⟩
  have h9 := ho.cell (j := i * 6 + r) (by omega)
  rw [h9]
  unfold evF spE
  rw [show (i * 6 + r) / 6 = i by omega, show (i * 6 + r) % 6 = r by omega]
set_option maxRecDepth 100000 in
set_option maxHeartbeats 16000000 in
theorem step_each {base qb g qr : Nat} {room wb : Int} (o : OpV) (W : World) (h : PR W base qb g qr room wb) (hwb : wb ≤ 4611686018427000000 - 16384) (hk : o.kd = 9) :
    Calls Try.prog 16 #[.pointer (some ⟨qb, 0, none⟩), .pointer (some ⟨qr, 0, none⟩), .agg (opA o)] W fun r W' => TRes base qb g qr room wb W r W' := by
  unfold opA
  obtain ⟨W1, hW1⟩ : ∃ W1, W.alloc (.cells #[.int .i64 o.kd, .int .i64 o.wh, .int .u64 o.t, .int .i64 o.s, .int .u64 o.q, .int .i64 o.d, .int .i64 o.n] 32) = W1 := ⟨_, rfl⟩
  have HW : Hid (W.alloc (.cells #[.int .i64 o.kd, .int .i64 o.wh, .int .u64 o.t, .int .i64 o.s, .int .u64 o.q, .int .i64 o.d, .int .i64 o.n] 32) = W1) := hW1
  have hb1 : Below W.heap.size W W1 := by rw [← hW1]; exact (Below.refl _ W).alloc (Nat.le_refl _) _
  have ho1 : W1.heap[W.heap.size]? = some (.cells #[.int .i64 o.kd, .int .i64 o.wh, .int .u64 o.t, .int .i64 o.s, .int .u64 o.q, .int .i64 o.d, .int .i64 o.n] 32 (0, 0)) := by rw [← hW1]; exact World.alloc_heap_new W _
  have h1 := h.ke (KE.below hb1)
  have hlt := h.lt
  obtain ⟨y0, y1, y2, y3, y4, y5, y6⟩ := c7 ho1
  have lo1 := lt_of_block ho1
  obtain ⟨c, n, A, t, fl, root, work, hq, hr, hw⟩ := h1
  have HN : Hid (t.size ≤ 8192) := hq.n1.2.2
  have hqd : QI W1.drew base qb g c n A t fl root room work := hq.ke (KE.below (below_drewNq _ W1 1))
  have hqlt := hqd.q.lt
  have HSM := some_any qb g t.size HN.out (spE A t) (fun V => QI V base qb g c n A t fl root room work) (qi_ok _ _ _ _ _ _ _ _ _ _ _) o.n (frM o.n t.size) (frM_ok _ _) W1.drew hqd ⟨hqlt.1.1, hqlt.2.1⟩ (fun w hw => qi_list base qb g c n A t fl root room work w hw)
  have HR : Hid (QI W1 base qb g c n A t fl root room work ∧ RQ W1 qr A.E t room work ∧ work ≤ wb) := ⟨hq, hr, hw⟩
  have H0 : Hid (Below W.heap.size W W1 ∧ W1.heap[W.heap.size]? = some (.cells #[.int .i64 o.kd, .int .i64 o.wh, .int .u64 o.t, .int .i64 o.s, .int .u64 o.q, .int .i64 o.d, .int .i64 o.n] 32 (0, 0)) ∧ (qb < W.heap.size ∧ g < W.heap.size ∧ qr < W.heap.size)) := ⟨hb1, ho1, hlt⟩
  obtain ⟨nt, hnt⟩ : ∃ nt, t.size = nt := ⟨_, rfl⟩
  have HNT : Hid (t.size = nt) := hnt
  obtain ⟨M, hMe⟩ : ∃ M, frM o.n t.size = M := ⟨_, rfl⟩
  have HM : Hid (frM o.n t.size = M) := hMe
  rw [hMe] at HSM
  have d1 : (o.kd == 1) = false := by rw [hk]; rfl
  have d2 : (o.kd == 2) = false := by rw [hk]; rfl
  have d3 : (o.kd == 3) = false := by rw [hk]; rfl
  have d4 : (o.kd == 4) = false := by rw [hk]; rfl
  have d5 : (o.kd == 5) = false := by rw [hk]; rfl
  have d6 : (o.kd == 6) = false := by rw [hk]; rfl
  have d7 : (o.kd == 7) = false := by rw [hk]; rfl
  have d8 : (o.kd == 8) = false := by rw [hk]; rfl
  have d9 : (o.kd == 9) = true := by rw [hk]; rfl
  clear hW1 hk h hb1 ho1 hlt hwb hq hr hw hqd hqlt hnt hMe
  go_enter Try.func16, Try.ntmps16
  go_upto_region 1 with fail
  rw [HW.out]
  go_upto_region 18 with fail
  go_region_held3 (fun w' => w'.cell? ⟨W.heap.size, 6, none⟩ = some (.int .i64 o.n)) (first | exact y6 | with_reducible exact KP | with_reducible exact KP2 | with_reducible exact KP3 | go_keep) (first | (go_at_call 44; (with_reducible refine HSM.mono ?_); rintro e w3 ⟨lv, rfl, ho, hqi, hC⟩; obtain ⟨gw, cw, hlv, _⟩ := own_slice8 ho; subst hlv; have hC13 : Ch (S2 qb g) W1 w3 := (Ch.below (below_drewNq _ W1 1)).trans hC; have KP : w3.cell? ⟨W.heap.size, 6, none⟩ = some (.int .i64 o.n) := (World.cell?_of_block (hC13.block W.heap.size lo1 (by have := H0.out.2.2; rintro (e | e) <;> omega))).trans y6; have hr3 : RQ w3 qr A.E t room work := HR.out.2.1.ch HR.out.1.q hC13; have HX3 : Hid (XAt w3 gw M (evX (spE A t)) ∧ QI w3 base qb g c n A t fl root room work ∧ RQ w3 qr A.E t room work ∧ Ch (S2 qb g) W1 w3) := ⟨own_xat ho, hqi, hr3, hC13⟩; have lo3 := Nat.lt_of_lt_of_le lo1 hC13.size; have HL := rlist_any w3 hr3 HN.out; clear ho hqi hC hC13 hr3) | (go_at_call 19; (with_reducible refine HL.mono ?_); rintro e w4 ⟨v, rfl, ho4, hb4⟩; obtain ⟨gv, cv, hv, _⟩ := own_slice8 ho4; subst hv; have hcv : t.size ≤ cv := own_cap ho4; have KP2 : w4.cell? ⟨W.heap.size, 6, none⟩ = some (.int .i64 o.n) := (cell_below hb4 lo3).trans KP; have HX4 : Hid (XAt w4 gv t.size (evF A.E (t.spots 0)) ∧ Below w3.heap.size w3 w4) := ⟨own_xat ho4, hb4⟩; have HF := front_any gv t.size cv hcv o.n w4; rw [HM.out] at HF; clear ho4 hb4 hcv HL) | (go_at_call 45; (with_reducible refine HF.mono ?_); rintro e w5 ⟨c5, rfl, h5⟩; have h5 := h5.symm; subst h5; have HS := sameEvents_yes M (evX (spE A t)) gw gv cw c5 (by have h8 := frM_le o.n t.size; have h9 := HN.out; have h7 := HM.out; omega) w4 (HX3.out.1.below HX4.out.2) ((HX4.out.1.cut (by have h8 := frM_le o.n t.size; have h7 := HM.out; omega)).congr fun j _ => rfl) (evF_sh A.E (t.spots 0) M)) | (go_at_call 9; (with_reducible refine HS.mono ?_); rintro e w6 ⟨rfl, hb6⟩; have KP3 : w6.cell? ⟨W.heap.size, 6, none⟩ = some (.int .i64 o.n) := (cell_below hb6 (Nat.lt_of_lt_of_le lo3 HX4.out.2.size)).trans KP2))
  go_wp2_with fail
  go_ret
  have h36 : Below w3.heap.size w3 w6 := HX4.out.2.trans (hb6.mono HX4.out.2.size)
  exact ⟨rfl, g, ⟨c, n, A, t, fl, root, work, HX3.out.2.1.ke (KE.below h36), HX3.out.2.2.1.later h36, by have := HR.out.2.2; omega⟩, .inl rfl, (((Ch.below H0.out.1).trans HX3.out.2.2.2).sq2).trans (Ch.below h36)⟩
end Go.Proofs.Ytlklolmhaiaaiaa
