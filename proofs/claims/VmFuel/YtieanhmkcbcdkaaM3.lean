import Derived.Test.YtieanhmkcbcdkaaM1
import Derived.Test.YtieanhmkcbcdkaaM2
namespace Go.Proofs.Ytieanhmkcbcdkaa
open Go.ChangeShapes Go.WideShapes Go.ChangeAt Go.RowKit
set_option linter.unusedVariables false

/-- a machine, its words and what it has sent -/
structure MW (w0 W : World) (base mb nw : Nat) (C : Nat → Value) (M : Mc) : Prop where
  box : MB W base mb C M
  wr : Own W base 2 1 M.wv nw (iv M.wd)
  out : Own W base 30 6 M.ov M.on M.oF
  d1 : M.wv.ownBlock ≠ some mb
  d2 : M.ov.ownBlock ≠ some mb
  d3 : ∀ k, M.wv.ownBlock = some k → M.ov.ownBlock ≠ some k
  bel : Below base w0 W
/-- what a step leaves alone -/
structure Fr (mb : Nat) (M : Mc) (w w' : World) : Prop where
  size : w.heap.size ≤ w'.heap.size
  far : ∀ k, k < w.heap.size → k ≠ mb → M.wv.ownBlock ≠ some k → M.ov.ownBlock ≠ some k → w'.heap[k]? = w.heap[k]?
theorem Fr.refl (mb : Nat) (M : Mc) (w : World) : Fr mb M w w := ⟨Nat.le_refl _, fun _ _ _ _ _ => rfl⟩
theorem Fr.of {mb : Nat} {M : Mc} {w w' : World} (h : Only mb w w') : Fr mb M w w' := ⟨by rw [h.size]; exact Nat.le_refl _, fun k _ hk _ _ => h.far k hk⟩
theorem Fr.trans {mb : Nat} {M M' : Mc} {a b c : World} (h : Fr mb M a b) (h' : Fr mb M' b c) (e1 : M'.wv = M.wv) (e2 : M'.ov = M.ov) : Fr mb M a c :=
  ⟨Nat.le_trans h.size h'.size, fun k h1 h2 h3 h4 => (h'.far k (Nat.lt_of_lt_of_le h1 h.size) h2 (by rw [e1]; exact h3) (by rw [e2]; exact h4)).trans (h.far k h1 h2 h3 h4)⟩
theorem only_below {base mb : Nat} {w0 w w' : World} (hb : Below base w0 w) (h : Only mb w w') (hm : base ≤ mb) : Below base w0 w' :=
  ⟨h.os.trans hb.os, h.tape.trans hb.tape, h.output.trans hb.output, by rw [h.size]; exact hb.size, fun k hk => (h.far k (by omega)).trans (hb.block k hk)⟩
theorem MW.only {w0 w w' : World} {base mb nw : Nat} {C : Nat → Value} {M M' : Mc} (h : MW w0 w base mb nw C M) (ho : Only mb w w') (hm : MB w' base mb C M') (e1 : M'.wv = M.wv) (e2 : M'.wd = M.wd) (e3 : M'.ov = M.ov) (e4 : M'.on = M.on) (e5 : M'.oF = M.oF) : MW w0 w' base mb nw C M' := by
  refine ⟨hm, ?_, ?_, by rw [e1]; exact h.d1, by rw [e3]; exact h.d2, by rw [e1, e3]; exact h.d3, only_below h.bel ho hm.lt.2⟩
  · rw [e1, e2]; exact h.wr.far fun k hk => ho.far k (by rintro rfl; exact h.d1 hk)
  · rw [e3, e4, e5]; exact h.out.far fun k hk => ho.far k (by rintro rfl; exact h.d2 hk)
def pushM (M : Mc) (x : Int) : Mc := { M with st := updI M.st M.hi x, hi := M.hi + 1 }
def popM (M : Mc) : Mc := { M with hi := M.hi - 1 }
def topM (M : Mc) : Int := M.st (M.hi - 1)
theorem pushW (w0 w : World) (base mb nw : Nat) (C : Nat → Value) (M : Mc) (x : Int) (h : MW w0 w base mb nw C M) (hh : M.hi < 64) :
    Calls Try.prog 62 #[.pointer (some ⟨mb, 0, none⟩), .int .i64 x] w fun e w' => e = .returned (.tuple #[]) ∧ Only mb w w' ∧ MW w0 w' base mb nw C (pushM M x) :=
  (push_any mb base C M x w h.box hh).mono fun e w' ⟨h1, h2, h3⟩ => ⟨h1, h2, h.only h2 h3 rfl rfl rfl rfl rfl⟩
theorem popW (w0 w : World) (base mb nw : Nat) (C : Nat → Value) (M : Mc) (h : MW w0 w base mb nw C M) (hh : 0 < M.hi) (h64 : M.hi ≤ 64) :
    Calls Try.prog 54 #[.pointer (some ⟨mb, 0, none⟩)] w fun e w' => e = .returned (.int .i64 (topM M)) ∧ Only mb w w' ∧ MW w0 w' base mb nw C (popM M) :=
  (pop_any mb base C M (M.hi - 1) w h.box (by omega) h64).mono fun e w' ⟨h1, h2, h3⟩ => ⟨h1, h2, h.only h2 h3 rfl rfl rfl rfl rfl⟩
theorem MW.later {w0 w w' : World} {base mb nw : Nat} {C : Nat → Value} {M : Mc} (h : MW w0 w base mb nw C M) (hb : Below w.heap.size w w') : MW w0 w' base mb nw C M := by
  have hbw := h.bel.size
  have own : ∀ {t : TypeId} {s m : Nat} {v : Value} {F : Nat → Value}, Own w base t s v m F → Own w' base t s v m F := fun ho => ho.far fun k hk => by
    rcases ho.form with ⟨h7, _⟩ | ⟨g, c, h7, h8, h9⟩
    · rw [h7] at hk; cases hk
    · rw [h7] at hk; cases hk; exact hb.block _ h9
  exact ⟨own h.box, own h.wr, own h.out, h.d1, h.d2, h.d3, h.bel.trans (hb.mono (by
    have := h.box.lt
    have hb0 := h.bel.size
    omega))⟩
/-! ### two values make one -/
def isPair (o : Int) : Prop := o = 13 ∨ o = 14 ∨ o = 15 ∨ o = 16 ∨ o = 17 ∨ o = 18 ∨ o = 19 ∨ o = 20 ∨ o = 21 ∨ o = 22 ∨ o = 26 ∨ o = 27 ∨ o = 28 ∨ o = 29 ∨ o = 30 ∨ o = 31 ∨ o = 32 ∨ o = 33
theorem pairCalls (o a b : Int) (h : isPair o) (w : World) : Calls Try.prog (pairF o) #[.int .i64 a, .int .i64 b] w fun e w' => e = .returned (.tuple #[.int .i64 (pairV o a b).1, .int .i64 (pairV o a b).2]) ∧ w' = w := by
  rcases h with rfl | rfl | rfl | rfl | rfl | rfl | rfl | rfl | rfl | rfl | rfl | rfl | rfl | rfl | rfl | rfl | rfl | rfl
  · exact pair13_any a b w
  · exact pair14_any a b w
  · exact pair15_any a b w
  · exact pair16_any a b w
  · exact pair17_any a b w
  · exact pair18_any a b w
  · exact pair19_any a b w
  · exact pair20_any a b w
  · exact pair21_any a b w
  · exact pair22_any a b w
  · exact pair26_any a b w
  · exact pair27_any a b w
  · exact pair28_any a b w
  · exact pair29_any a b w
  · exact pair30_any a b w
  · exact pair31_any a b w
  · exact pair32_any a b w
  · exact pair33_any a b w
theorem pairEnter (o : Int) (h : isPair o) (args : Array Value) (W : World) : Sem.run Try.prog (callFunc (pairF o) args) W = .ok (.enter (pairF o) args) W := by
  rcases h with rfl | rfl | rfl | rfl | rfl | rfl | rfl | rfl | rfl | rfl | rfl | rfl | rfl | rfl | rfl | rfl | rfl | rfl
  all_goals
    simp only [pairF]
    go_simp
set_option maxRecDepth 100000 in
set_option maxHeartbeats 4000000 in
theorem pair_any (w0 w : World) (base mb nw : Nat) (C : Nat → Value) (M : Mc) (o : Int) (ho : isPair o) (h : MW w0 w base mb nw C M) (hh : 2 ≤ M.hi) (h64 : M.hi ≤ 64) :
    Calls Try.prog 68 #[.pointer (some ⟨mb, 0, none⟩), .agg #[.func (.func (pairF o)) #[] #[]]] w fun e w' => e = .returned (.int .i64 (pairV o (topM (popM M)) (topM M)).2) ∧ Fr mb M w w' ∧ MW w0 w' base mb nw C (pushM (popM (popM M)) (pairV o (topM (popM M)) (topM M)).1) := by
  obtain ⟨wb, hwb⟩ : ∃ wb, w.alloc (.cells #[.func (.func (pairF o)) #[] #[]] 64) = wb := ⟨_, rfl⟩
  have hbb : Below w.heap.size w wb := by rw [← hwb]; exact (Below.refl _ w).alloc (Nat.le_refl _) _
  have hbox : wb.heap[w.heap.size]? = some (.cells #[.func (.func (pairF o)) #[] #[]] 64 (0, 0)) := by rw [← hwb]; exact World.alloc_heap_new w _
  have hsz : wb.heap.size = w.heap.size + 1 := by rw [← hwb, World.size_alloc]
  have hlt := h.box.lt.1
  have HB : Hid (w.alloc (.cells #[.func (.func (pairF o)) #[] #[]] 64) = wb) := hwb
  have hb := h.later hbb
  have HP1 := popW w0 wb base mb nw C M hb (by omega) h64
  have HV := pairCalls o (topM (popM M)) (topM M) ho
  have HF := pairEnter o ho
  generalize pairV o (topM (popM M)) (topM M) = pv at HV ⊢
  generalize pairF o = f at HV HB hbox hwb HF ⊢
  clear hwb
  go_enter Try.func68, Try.ntmps68
  go_wp2_with (first | (go_at_call 54; (first | (rw [HB.out]; (with_reducible refine HP1.mono ?_); rintro e w1 ⟨rfl, o1, m1⟩; have HP2 := popW w0 w1 base mb nw C (popM M) m1 (by show 0 < M.hi - 1; omega) (by show M.hi - 1 ≤ 64; omega); clear HP1) | ((with_reducible refine HP2.mono ?_); rintro e w2 ⟨rfl, o2, m2⟩; have hbx2 := (o2.far w.heap.size (by omega)).trans ((o1.far w.heap.size (by omega)).trans hbox); have c0 : w2.cell? ⟨w.heap.size, 0, none⟩ = some (.func (.func f) #[] #[]) := (by unfold World.cell?; rw [hbx2]; rfl); have HPU := pushW w0 w2 base mb nw C (popM (popM M)) pv.1 m2 (by show M.hi - 1 - 1 < 64; omega)))) | (go_at_call 62; (with_reducible refine HPU.mono ?_); rintro e w4 ⟨rfl, o4, m4⟩) | ((with_reducible refine (HV _).mono ?_); rintro e w3 ⟨rfl, rfl⟩))
  go_ret
  have hO := (o1.trans o2).trans o4
  refine ⟨rfl, ⟨?_, fun k h1 h2 h3 h4 => (hO.far k h2).trans (hbb.block k h1)⟩, m4⟩
  rw [hO.size, hsz]
  omega
end Go.Proofs.Ytieanhmkcbcdkaa
