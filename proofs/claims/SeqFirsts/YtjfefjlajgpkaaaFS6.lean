import Derived.Test.YtjfefjlajgpkaaaFS4
import Derived.Test.YtjfefjlajgpkaaaFS5
import Derived.Test.YtjfefjlajgpkaaaSV8
namespace Go.Proofs.Ytjfefjlajgpkaaa
open Go.ChangeShapes Go.WideShapes Go.ChangeAt Go.RowKit
set_option linter.unusedVariables false
set_option linter.unusedSimpArgs false

theorem VC.good {p : Pl} (h : VC p 0) : GT p ∧ GS p := by
  unfold VC at h
  rcases h with ⟨_, h⟩ | ⟨_, ⟨_, h⟩ | ⟨_, ⟨_, h⟩ | ⟨hT, ⟨_, h⟩ | ⟨hS, _⟩⟩⟩⟩
  · omega
  · omega
  · omega
  · omega
  · exact ⟨hT, hS⟩
/-- a first point, as it lies there -/
def FP (W : World) (p : Pl) (q : Option Addr) (q2 : Option Addr) : Prop := ∃ (A : Nat → Sa) (d : Nat → Se), SsAt W q p.nq A p.K ∧ (∀ j, j < p.nq → (A j).n = p.nw j ∧ (A j).d = dz p.sd j ∧ (A j).s = (cntS p.S p.ns (j : Int) : Nat)) ∧ SIn W q2 p.ns d ∧ Stb klt 0 p.ns (evS p.S) d ∧ Srt klt 0 p.ns d
theorem FP.below {W W' : World} {p : Pl} {q q2 : Option Addr} (h : FP W p q q2) (hb : Below W.heap.size W W') : FP W' p q q2 := by
  obtain ⟨A, d, h1, h2, h3, h4⟩ := h
  exact ⟨A, d, h1.below hb, h2, h3.below hb, h4⟩
theorem offI {W : World} {b o : Nat} {t : TypeId} {k : IntKind} {x : Int} (hW : W.heap[b]? = some (.cells #[.slice none 0 0, .slice none 0 0, .slice none 0 0] t (0, 0))) (h : W.cell? ⟨b, o, none⟩ = some (.int k x)) : False := by
  unfold World.cell? at h
  rw [hW] at h
  rcases o with _ | _ | _ | o
  · simp at h
  · simp at h
  · simp at h
  · simp at h
theorem KAt.off {W W' : World} {b n : Nat} {t : TypeId} {p : Option Addr} {K : Nat → Int} (hW : W.heap[b]? = some (.cells #[.slice none 0 0, .slice none 0 0, .slice none 0 0] t (0, 0))) (hs : W'.heap.size = W.heap.size) (hk : ∀ k, k ≠ b → W'.heap[k]? = W.heap[k]?) (h : KAt W p n K) : KAt W' p n K := by
  by_cases h0 : n = 0
  · exact .inl h0
  refine h.kb (S := fun k => k = b) ⟨by omega, fun k _ hb => hk k hb⟩ fun g o e h9 => ?_
  rcases h with h | ⟨g', o', e', hl, hc⟩
  · exact h0 h
  · rw [e] at e'
    injection e' with e'
    injection e' with e1 e2 e3
    have h8 := hc 0 (by omega)
    have h7 : g = b := h9
    rw [← e1, h7] at h8
    exact offI hW h8
theorem FP.off {W W' : World} {b : Nat} {t : TypeId} {p : Pl} {q q2 : Option Addr} (hW : W.heap[b]? = some (.cells #[.slice none 0 0, .slice none 0 0, .slice none 0 0] t (0, 0))) (hs : W'.heap.size = W.heap.size) (hk : ∀ k, k ≠ b → W'.heap[k]? = W.heap[k]?) (h : FP W p q q2) : FP W' p q q2 := by
  obtain ⟨A, d, h1, h2, h3, h4⟩ := h
  refine ⟨A, d, ?_, h2, ?_, h4⟩
  · by_cases h0 : p.nq = 0
    · exact .inl h0
    rcases h1 with h | ⟨g, o, e, hl, hc, hp⟩
    · exact absurd h h0
    have hg : g ≠ b := fun e9 => by
      have h8 := (hc 0 (by omega)).2.1
      rw [e9] at h8
      exact offI hW h8
    exact .inr ⟨g, o, e, by omega, fun j hj => ⟨(World.cell?_of_block (hk g hg)).trans (hc j hj).1, (World.cell?_of_block (hk g hg)).trans (hc j hj).2.1, (World.cell?_of_block (hk g hg)).trans (hc j hj).2.2⟩, fun j hj => (hp j hj).off hW hs hk⟩
  · by_cases h0 : p.ns = 0
    · exact .inl h0
    rcases h3 with h | ⟨g, o, e, hl, hc⟩
    · exact absurd h h0
    have hg : g ≠ b := fun e9 => by
      have h8 := hc 0 (by omega)
      rw [e9] at h8
      exact offI hW h8
    exact .inr ⟨g, o, e, by omega, fun j hj => (World.cell?_of_block (hk g hg)).trans (hc j hj)⟩
theorem samePoint_fp {p : Pl} (hr : RoomyL p) (hT : GT p) (hS : GS p) (q q2 q' q2' : Option Addr) (c c2 c' c2' : Nat) (w : World) (h : FP w p q q2) (h' : FP w p q' q2') : Calls Try.prog 19 #[.agg #[.slice q p.nq c, .slice q2 p.ns c2, .slice none 0 0], .agg #[.slice q' p.nq c', .slice q2' p.ns c2', .slice none 0 0]] w fun e w' => e = .returned (.bool true) ∧ Below w.heap.size w w' := by
  obtain ⟨A, d, h1, h2, h3, h4, h5⟩ := h
  obtain ⟨C, d', k1, k2, k3, k4, k5⟩ := h'
  have hq := hT.1
  have hs := hS.1
  have hd : ∀ j, j < p.ns → d' j = d j := fun j hj => stable_one klt_ord k4 k5 h4 h5 j hj
  exact samePoint_yes p.nq A C p.K q q' c c' p.ns d q2 q2' c2 c2' (by omega) (fun j hj => by rw [(h2 j hj).1]; exact hr.nw j hj) (fun j hj => ⟨(k2 j hj).1.trans (h2 j hj).1.symm, (k2 j hj).2.1.trans (h2 j hj).2.1.symm, (k2 j hj).2.2.trans (h2 j hj).2.2.symm⟩) (by omega) w h1 k1 h3 (k3.congr hd)
set_option maxRecDepth 100000 in
set_option maxHeartbeats 4000000 in
theorem first_any (p : Pl) (v : PlV) (w : World) (h : PlAt w p v) (hr : RoomyL p) : Calls Try.prog 16 #[.agg #[.int .i64 p.ki, .slice v.pp p.np v.pc, .slice v.tp p.nq v.tc, .slice v.sp p.ns v.sc, .int .u64 p.sd, .int .u64 p.lk, .int .u64 p.en, .int .i64 p.bu, .int .i64 p.fu]] w fun e w' => ∃ cd, VC p cd ∧ Below w.heap.size w w' ∧ (cd ≠ 0 ∧ e = .returned (.tuple #[.agg #[.slice none 0 0, .slice none 0 0, .slice none 0 0], .int .i64 cd]) ∨ cd = 0 ∧ ∃ q c q2 c2, e = .returned (.tuple #[.agg #[.slice q p.nq c, .slice q2 p.ns c2, .slice none 0 0], .int .i64 0]) ∧ FP w' p q q2) := by
  obtain ⟨wb, hwb⟩ : ∃ wb, (w.alloc (.cells #[.int .i64 p.ki, .slice v.pp p.np v.pc, .slice v.tp p.nq v.tc, .slice v.sp p.ns v.sc, .int .u64 p.sd, .int .u64 p.lk, .int .u64 p.en, .int .i64 p.bu, .int .i64 p.fu] 35)).alloc (.cells #[.slice none 0 0, .slice none 0 0, .slice none 0 0] 39) = wb := ⟨_, rfl⟩
  have hb0 : Below w.heap.size w wb := by rw [← hwb]; exact ((Below.refl _ w).alloc (Nat.le_refl _) _).alloc (by simp) _
  have hbox : wb.heap[w.heap.size]? = some (.cells #[.int .i64 p.ki, .slice v.pp p.np v.pc, .slice v.tp p.nq v.tc, .slice v.sp p.ns v.sc, .int .u64 p.sd, .int .u64 p.lk, .int .u64 p.en, .int .i64 p.bu, .int .i64 p.fu] 35 (0, 0)) := by
    rw [← hwb, Below.heap_alloc _ _ _ (by simp)]
    exact World.alloc_heap_new w _
  have hres : wb.heap[w.heap.size + 1]? = some (.cells #[.slice none 0 0, .slice none 0 0, .slice none 0 0] 39 (0, 0)) := by
    rw [← hwb]
    have := World.alloc_heap_new (w.alloc (.cells #[.int .i64 p.ki, .slice v.pp p.np v.pc, .slice v.tp p.nq v.tc, .slice v.sp p.ns v.sc, .int .u64 p.sd, .int .u64 p.lk, .int .u64 p.en, .int .i64 p.bu, .int .i64 p.fu] 35)) (.cells #[.slice none 0 0, .slice none 0 0, .slice none 0 0] 39)
    rwa [World.size_alloc] at this
  have HW : Hid ((w.alloc (.cells #[.int .i64 p.ki, .slice v.pp p.np v.pc, .slice v.tp p.nq v.tc, .slice v.sp p.ns v.sc, .int .u64 p.sd, .int .u64 p.lk, .int .u64 p.en, .int .i64 p.bu, .int .i64 p.fu] 35)).alloc (.cells #[.slice none 0 0, .slice none 0 0, .slice none 0 0] 39) = wb) := hwb
  have HP : Hid (PlAt wb p v ∧ RoomyL p ∧ Below w.heap.size w wb) := ⟨h.below hb0, hr, hb0⟩
  have HV := valid_any p v wb (h.below hb0)
  obtain ⟨⟨c0, c1, c2, c3⟩, c4, c5, c6, c7, c8⟩ := cells9 hbox
  rw [← hwb] at c0 c1 c2 c3 c4 c5 c6 c7 c8
  clear h hr hb0 hwb
  go_enter Try.func16, Try.ntmps16
  go_upto_region 2 with (go_at_call 28; rw [HW.out]; (with_reducible refine HV.mono ?_); rintro e w1 ⟨cd, rfl, hvc, hb1⟩)
  have HVC : Hid (VC p cd ∧ Below wb.heap.size wb w1) := ⟨hvc, hb1⟩
  have hbx1 := (hb1.block _ (lt_of_block hbox)).trans hbox
  have hrs1 := (hb1.block _ (lt_of_block hres)).trans hres
  clear c0 c1 c2 c3 c4 c5 c6 c7 c8 hvc hb1 HV
  by_cases hcd : cd = 0
  · subst hcd
    obtain ⟨hT, hS⟩ := HVC.out.1.good
    have HF := firstPoint_any p v w1 (HP.out.1.below HVC.out.2) HP.out.2.1 hT hS
    obtain ⟨⟨c0, c1, c2, c3⟩, c4, c5, c6, c7, c8⟩ := cells9 hbx1
    have HRS : Hid (w1.heap[w.heap.size + 1]? = some (.cells #[.slice none 0 0, .slice none 0 0, .slice none 0 0] 39 (0, 0))) := hrs1
    clear hT hS hrs1 hbx1
    go_wp2_with (go_at_call 29; (with_reducible refine HF.mono ?_); rintro e w2 ⟨q, c, A, q2, c2q, d, rfl, h1, h2, h3, h4, h5, h6⟩; have hr2 := (h6.block _ (lt_of_block HRS.out)).trans HRS.out; have H2 : Hid (FP w2 p q q2 ∧ Below w1.heap.size w1 w2 ∧ w2.heap[w.heap.size + 1]? = some (.cells #[.slice none 0 0, .slice none 0 0, .slice none 0 0] 39 (0, 0))) := ⟨⟨A, d, h1, h2, h3, h4, h5⟩, h6, hr2⟩; obtain ⟨l0, l1, l2⟩ := cells3p hr2; have z0 := frz hr2 0; have z1 := frz hr2 1; have z2 := frz hr2 2; clear h1 h2 h3 h4 h5 h6 hr2)
    generalize hWF : (World.setCell (World.setCell (World.setCell w2 _ _) _ _) _ _) = wF
    obtain ⟨q1, q2x, q3, q4⟩ := put3 H2.out.2.2 _ _ _ wF hWF
    obtain ⟨e0, e1, e2⟩ := cells3p q1
    refine bodyPost_ret (v := .tuple #[.agg #[.slice q p.nq c, .slice q2 p.ns c2q, .slice none 0 0], .int .i64 0]) (by simp [results, Try.results16, go_sem, e0, e1, e2]; try rfl) rfl ?_
    obtain ⟨f1, f2, f3⟩ := HP.out
    obtain ⟨v1, v2⟩ := HVC.out
    obtain ⟨x1, x2, x3⟩ := H2.out
    have hbw : Below w.heap.size w w2 := (f3.trans (v2.mono f3.size)).trans (x2.mono (Nat.le_trans f3.size v2.size))
    exact ⟨0, v1, q3 _ _ hbw (Nat.le_succ _), .inr ⟨rfl, q, c, q2, c2q, rfl, x1.off x3 q4 q2x⟩⟩
  · have g0 : (cd == 0) = false := by simpa using hcd
    obtain ⟨l0, l1, l2⟩ := cells3p hrs1
    have z0 := frz hrs1 0
    have z1 := frz hrs1 1
    have z2 := frz hrs1 2
    have HRS : Hid (w1.heap[w.heap.size + 1]? = some (.cells #[.slice none 0 0, .slice none 0 0, .slice none 0 0] 39 (0, 0))) := hrs1
    clear hrs1 hbx1
    go_wp2_with fail
    generalize hWF : (World.setCell (World.setCell (World.setCell w1 _ _) _ _) _ _) = wF
    obtain ⟨q1, q2x, q3, q4⟩ := put3 HRS.out _ _ _ wF hWF
    obtain ⟨e0, e1, e2⟩ := cells3p q1
    refine bodyPost_ret (v := .tuple #[.agg #[.slice none 0 0, .slice none 0 0, .slice none 0 0], .int .i64 cd]) (by simp [results, Try.results16, go_sem, e0, e1, e2]; try rfl) rfl ?_
    obtain ⟨f1, f2, f3⟩ := HP.out
    obtain ⟨v1, v2⟩ := HVC.out
    exact ⟨cd, v1, q3 _ _ (f3.trans (v2.mono f3.size)) (Nat.le_succ _), .inl ⟨hcd, rfl⟩⟩
end Go.Proofs.Ytjfefjlajgpkaaa
