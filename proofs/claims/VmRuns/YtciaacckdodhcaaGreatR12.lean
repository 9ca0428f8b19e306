import Derived.Test.YtciaacckdodhcaaGreatR9
import Derived.Test.YtciaacckdodhcaaGreatM23
namespace Go.Proofs.YtciaacckdodhcaaGreat
open Go.ChangeShapes Go.WideShapes Go.ChangeAt Go.RowKit
set_option linter.unusedVariables false
set_option linter.unusedSimpArgs false

set_option maxRecDepth 100000 in
set_option maxHeartbeats 1000000 in
theorem copyStateO (p : Option Addr) (n c : Nat) (K : Nat → Int) (d s : Int) (w : World) (hn : n ≤ 17592186044416) (h : KAt w p n K) :
    Calls Tryz.prog 48 #[.agg #[.slice p n c, .int .u64 d, .int .u64 s]] w fun e w' => e = .returned (.agg #[.slice (some ⟨w.heap.size + 2, 0, none⟩) n n, .int .u64 d, .int .u64 s]) ∧ Own w' w.heap.size 2 1 (.slice (some ⟨w.heap.size + 2, 0, none⟩) n n) n (iv K) ∧ Below w.heap.size w w' := by
  obtain ⟨w1, hw1⟩ : ∃ w1, (w.alloc (.cells #[.slice p n c, .int .u64 d, .int .u64 s] 33)).alloc (.cells #[.slice none 0 0, .int .u64 0, .int .u64 0] 33) = w1 := ⟨_, rfl⟩
  have hb1 : Below w.heap.size w w1 := by rw [← hw1]; exact ((Below.refl _ w).alloc (Nat.le_refl _) _).alloc (by simp) _
  have hbox : w1.heap[w.heap.size]? = some (.cells #[.slice p n c, .int .u64 d, .int .u64 s] 33 (0, 0)) := by
    rw [← hw1, Below.heap_alloc _ _ _ (by simp)]
    exact World.alloc_heap_new w _
  have hres : w1.heap[w.heap.size + 1]? = some (.cells #[.slice none 0 0, .int .u64 0, .int .u64 0] 33 (0, 0)) := by
    rw [← hw1]
    have := World.alloc_heap_new (w.alloc (.cells #[.slice p n c, .int .u64 d, .int .u64 s] 33)) (.cells #[.slice none 0 0, .int .u64 0, .int .u64 0] 33)
    rwa [World.size_alloc] at this
  have hsz : w1.heap.size = w.heap.size + 2 := by rw [← hw1]; simp
  have HC := copyWords_any p n c K w1 hn (h.below hb1)
  rw [hsz] at HC
  obtain ⟨a0, a1, a2⟩ := cells3' hbox
  have HW : Hid ((w.alloc (.cells #[.slice p n c, .int .u64 d, .int .u64 s] 33)).alloc (.cells #[.slice none 0 0, .int .u64 0, .int .u64 0] 33) = w1) := hw1
  clear hw1 h
  go_enter Tryz.func48, Tryz.ntmps48
  go_wp2_with (go_at_call 5; rw [HW.out]; (with_reducible refine HC.mono ?_); rintro e w2 ⟨rfl, hO, hb2, hlt2⟩; have hbox2 := (hb2.block _ (by omega)).trans hbox; have hres2 := (hb2.block _ (by omega)).trans hres; obtain ⟨b0, b1, b2⟩ := cells3' hbox2; obtain ⟨r0, r1, r2⟩ := cells3' hres2; have bf0 := frz' hbox2 0; have rf0 := frz' hres2 0; have rf1 := frz' hres2 1; have rf2 := frz' hres2 2)
  generalize hWF : (World.setCell (World.setCell (World.setCell (World.setCell _ _ _) _ _) _ _) _ _) = wF
  have hwF : wF = (((w2.setCell ⟨w.heap.size, 0, none⟩ (.slice (some ⟨w.heap.size + 2, 0, none⟩) n n)).setCell ⟨w.heap.size + 1, 0, none⟩ (.slice (some ⟨w.heap.size + 2, 0, none⟩) n n)).setCell ⟨w.heap.size + 1, 1, none⟩ (.int .u64 d)).setCell ⟨w.heap.size + 1, 2, none⟩ (.int .u64 s) := hWF.symm
  clear hWF
  have hF : wF.heap[w.heap.size + 1]? = some (.cells #[.slice (some ⟨w.heap.size + 2, 0, none⟩) n n, .int .u64 d, .int .u64 s] 33 (0, 0)) := by
    have h0 : (w2.setCell ⟨w.heap.size, 0, none⟩ (.slice (some ⟨w.heap.size + 2, 0, none⟩) n n)).heap[w.heap.size + 1]? = some (.cells #[.slice none 0 0, .int .u64 0, .int .u64 0] 33 (0, 0)) := (Below.heap_setCell _ _ _ _ (by show w.heap.size + 1 ≠ w.heap.size; omega)).trans hres2
    rw [hwF, setCell_block _ _ _ _ (setCell_block _ _ _ _ (setCell_block _ _ _ _ h0))]
    rfl
  have far : ∀ k, k ≠ w.heap.size → k ≠ w.heap.size + 1 → wF.heap[k]? = w2.heap[k]? := fun k h1 h2 => by
    rw [hwF, Below.heap_setCell _ _ _ _ h2, Below.heap_setCell _ _ _ _ h2, Below.heap_setCell _ _ _ _ h2, Below.heap_setCell _ _ _ _ h1]
  have hbF : Below w.heap.size w wF := by
    rw [hwF]
    exact ((((hb1.trans (hb2.mono (by omega))).setCell (p := ⟨w.heap.size, 0, none⟩) (Nat.le_refl _) _).setCell (p := ⟨w.heap.size + 1, 0, none⟩) (Nat.le_succ _) _).setCell (p := ⟨w.heap.size + 1, 1, none⟩) (Nat.le_succ _) _).setCell (p := ⟨w.heap.size + 1, 2, none⟩) (Nat.le_succ _) _
  obtain ⟨d0, d1, d2⟩ := cells3' hF
  refine bodyPost_ret (v := .agg #[.slice (some ⟨w.heap.size + 2, 0, none⟩) n n, .int .u64 d, .int .u64 s]) (by simp [results, Tryz.results48, go_sem, d0, d1, d2]; try rfl) rfl ?_
  have hrow := (far (w.heap.size + 2) (by omega) (by omega)).trans hO
  refine ⟨rfl, Own.mk' hrow (by simp [intsL]) (Nat.le_refl _) (by unfold maxLen; omega) (by omega) fun j hj => ?_, hbF⟩
  have := intsL_get (K := K) (show j < n by omega)
  simpa [iv] using this
set_option maxRecDepth 100000 in
set_option maxHeartbeats 4000000 in
theorem refused_any (P : Pg) (v : PgV) (cl : Cl) (p : Option Addr) (n c : Nat) (d s : Int) (w : World) :
    Calls Tryz.prog 47 #[.agg #[.int .i64 P.words, .int .i64 P.locals, .slice v.cp P.n v.cc, .slice v.ep P.m v.ec], .agg #[.int .u64 cl.time, .int .i64 cl.src, .int .u64 cl.seq, .int .i64 cl.dst, .int .i64 cl.kind, .int .i64 cl.data, .slice p n c, .int .u64 d, .int .u64 s, .int .u64 cl.look, .int .i64 cl.parts, .int .i64 cl.fuel]] w fun e w' => e = .returned (.bool (!(fitsB P cl n))) ∧ Below w.heap.size w w' := by
  go_enter Tryz.func47, Tryz.ntmps47
  go_wp2
  all_goals first
    | (have hf : fitsB P cl n = false := by
        unfold fitsB
        simp
        omega
       rw [hf]
       go_ret
       exact ⟨rfl, ((Below.refl _ w).alloc (Nat.le_refl _) _).alloc (by simp) _⟩)
    | (have hf : (!(fitsB P cl n)) = (decide (cl.kind < 0) || decide ((P.m : Int) ≤ cl.kind) || decide (cl.fuel < 0) || decide (4096 < cl.fuel)) := by
        unfold fitsB
        rw [Bool.eq_iff_iff]
        simp
        omega
       rw [hf]
       go_ret
       exact ⟨rfl, ((Below.refl _ w).alloc (Nat.le_refl _) _).alloc (by simp) _⟩)
end Go.Proofs.YtciaacckdodhcaaGreat
namespace Go.Proofs.YtciaacckdodhcaaGreat
open Go.ChangeShapes Go.WideShapes Go.ChangeAt Go.RowKit
set_option linter.unusedVariables false
set_option linter.unusedSimpArgs false

/-- the machine's first sixteen cells -/
def docC (l : List Value) (k : Nat) : Value := l.getD k undef
theorem rb_new {W : World} {mb base : Nat} {l : List Value} {wv : Value} {d s : Int} {e : Int} {K : Nat → Int} (hl : l.length = 16) (h : W.heap[mb]? = some (.cells (l ++ [wv, .int .u64 d, .int .u64 s, .slice none 0 0, .slice none 0 0, .slice none 0 0, .int .i64 e]).toArray 77 (0, 0))) (hb : base ≤ mb) : RB W base mb (docC l) (newM K d s wv) (.slice none 0 0) (.slice none 0 0) (.slice none 0 0) e := by
  refine Own.mk' h (by simp [hl]) (Nat.le_refl _) (by unfold maxLen; omega) hb fun j hj => ?_
  have e0 : (l ++ [wv, .int .u64 d, .int .u64 s, .slice none 0 0, .slice none 0 0, .slice none 0 0, .int .i64 e]).toArray[j]? = (l ++ [wv, .int .u64 d, .int .u64 s, .slice none 0 0, .slice none 0 0, .slice none 0 0, .int .i64 e])[j]? := by simp
  rw [e0]
  by_cases hj16 : j < 16
  · rw [List.getElem?_append_left (by omega)]
    unfold rF docC
    rw [if_pos hj16, List.getD_eq_getElem?_getD, List.getElem?_eq_getElem (by omega)]
    rfl
  · rw [List.getElem?_append_right (by omega), hl]
    have : j = 16 ∨ j = 17 ∨ j = 18 ∨ j = 19 ∨ j = 20 ∨ j = 21 ∨ j = 22 := by omega
    rcases this with rfl | rfl | rfl | rfl | rfl | rfl | rfl <;> rfl
theorem rws_new {w0 W : World} {mb base n : Nat} {l : List Value} {wv : Value} {d s : Int} {e : Int} {K : Nat → Int} (hl : l.length = 16) (h : W.heap[mb]? = some (.cells (l ++ [wv, .int .u64 d, .int .u64 s, .slice none 0 0, .slice none 0 0, .slice none 0 0, .int .i64 e]).toArray 77 (0, 0))) (hb : base ≤ mb) (hw : Own W base 2 1 wv n (iv K)) (hne : wv.ownBlock ≠ some mb) (hbel : Below base w0 W) : RWs w0 W base mb n 0 (docC l) (newM K d s wv) (.slice none 0 0) (.slice none 0 0) (.slice none 0 0) e := by
  refine ⟨rb_new hl h hb, hw, Own.nil0, Own.nil0, Own.nil0, ?_, hbel⟩
  intro i j hi hj hij k hk hc
  have h2 : ∀ i, 2 ≤ i → bks mb wv (.slice none 0 0) (.slice none 0 0) (.slice none 0 0) i = none := fun i hi => by
    unfold bks
    rw [if_neg (by omega), if_neg (by omega)]
    repeat' split
    all_goals rfl
  have hi2 : i < 2 := Classical.byContradiction fun hn => by
    have := h2 i (by omega)
    rw [show (newM K d s wv).wv = wv from rfl, this] at hk
    cases hk
  have hj2 : j < 2 := Classical.byContradiction fun hn => by
    have := h2 j (by omega)
    rw [show (newM K d s wv).wv = wv from rfl, this] at hc
    cases hc
  have : i = 0 ∧ j = 1 ∨ i = 1 ∧ j = 0 := by omega
  rcases this with ⟨rfl, rfl⟩ | ⟨rfl, rfl⟩
  · have hk' : mb = k := by simpa [bks] using hk
    exact hne (by rw [hk']; exact hc)
  · have hc' : mb = k := by simpa [bks] using hc
    exact hne (by rw [hc']; exact hk)
set_option maxRecDepth 100000 in
set_option maxHeartbeats 4000000 in
theorem rver_idle (P : Pg) (v : PgV) (cl : Cl) (p : Option Addr) (n c : Nat) (K : Nat → Int) (d s : Int) (w : World) (h : PAt w P v) (hz : dcode P P.m = 0) (hf : fitsB P cl n = true) (hc : CallAt w cl p n c K d s) (hA64 : ∀ i, i < P.n → In64 (P.a i)) (hen : P.en cl.kind.toNat = -1) :
    Calls Tryz.prog 18 #[.agg #[.int .i64 P.words, .int .i64 P.locals, .slice v.cp P.n v.cc, .slice v.ep P.m v.ec], .agg #[.int .u64 cl.time, .int .i64 cl.src, .int .u64 cl.seq, .int .i64 cl.dst, .int .i64 cl.kind, .int .i64 cl.data, .slice p n c, .int .u64 d, .int .u64 s, .int .u64 cl.look, .int .i64 cl.parts, .int .i64 cl.fuel]] w fun e w' => ∃ r, e = .returned r ∧ EfAt w' w.heap.size r (effP P cl n K d s) ∧ Below w.heap.size w w' := by
  obtain ⟨w3, hw3⟩ : ∃ w3, ((w.alloc (.cells #[.int .i64 P.words, .int .i64 P.locals, .slice v.cp P.n v.cc, .slice v.ep P.m v.ec] 25)).alloc (.cells #[.int .u64 cl.time, .int .i64 cl.src, .int .u64 cl.seq, .int .i64 cl.dst, .int .i64 cl.kind, .int .i64 cl.data, .slice p n c, .int .u64 d, .int .u64 s, .int .u64 cl.look, .int .i64 cl.parts, .int .i64 cl.fuel] 35)).alloc (.cells #[.int .i64 0, .slice none 0 0, .int .u64 0, .int .u64 0, .slice none 0 0, .int .i64 0] 41) = w3 := ⟨_, rfl⟩
  have hB := bx_new w P v cl p n c d s w3 hw3
  have HW : Hid (((w.alloc (.cells #[.int .i64 P.words, .int .i64 P.locals, .slice v.cp P.n v.cc, .slice v.ep P.m v.ec] 25)).alloc (.cells #[.int .u64 cl.time, .int .i64 cl.src, .int .u64 cl.seq, .int .i64 cl.dst, .int .i64 cl.kind, .int .i64 cl.data, .slice p n c, .int .u64 d, .int .u64 s, .int .u64 cl.look, .int .i64 cl.parts, .int .i64 cl.fuel] 35)).alloc (.cells #[.int .i64 0, .slice none 0 0, .int .u64 0, .int .u64 0, .slice none 0 0, .int .i64 0] 41) = w3) := hw3
  have HF := refused_any P v cl p n c d s
  rw [hf] at HF
  obtain ⟨y1, y2, y3, y4, y5, y6⟩ := fitsB_yes hf
  obtain ⟨k, hk⟩ := Int.eq_ofNat_of_zero_le y3.1
  have HE : Hid (effP P cl n K d s = effP P cl n K d s) := rfl
  have HZ : Hid (dcode P P.m = 0) := hz
  have HFB : Hid (fitsB P cl n = true) := hf
  have HP : Hid (PAt w P v) := h
  have HC : Hid (CallAt w cl p n c K d s) := hc
  have HA : Hid (∀ i, i < P.n → In64 (P.a i)) := hA64
  have hkm : k < P.m := by omega
  obtain ⟨eb, eo, hep, hel, hec⟩ : ∃ b o, v.ep = some ⟨b, o, none⟩ ∧ b < w.heap.size ∧ ∀ j, j < P.m → w.cell? ⟨b, o + j, none⟩ = some (.int .i64 (P.en j)) := by
    rcases h.2 with e | e
    · omega
    · exact e
  have hk0 : (0 : Int) ≤ (k : Int) := by omega
  have hk1 : (k : Int) < (P.m : Int) := by omega
  have HK : Hid (cl.kind = (k : Int)) := hk
  have HEP : Hid (v.ep = some ⟨eb, eo, none⟩) := hep
  rw [hk, Int.toNat_natCast] at hen
  have hE0 : effP P cl n K d s = ⟨0, n, K, d, s, 0, fun _ => undef, 0⟩ := by
    unfold effP
    rw [if_neg (by rw [HZ.out]; simp), if_neg (by rw [HFB.out]; simp), if_pos (by rw [hk, Int.toNat_natCast]; exact hen)]
  have HE0 : Hid (effP P cl n K d s = ⟨0, n, K, d, s, 0, fun _ => undef, 0⟩) := hE0
  have HEN0 : Hid (P.en k = -1) := hen
  clear hE0 hen
  clear hw3 h hz hf hc hA64 hk hep y3
  generalize hE : effP P cl n K d s = E
  go_enter Tryz.func18, Tryz.ntmps18
  go_upto_region 3 with (go_at_call 47; rw [HW.out]; (with_reducible refine (HF _).mono ?_); rintro e w2 ⟨rfl, hb2⟩)
  have hB2 := hB.later hb2
  have hl2 := hB2.lt
  have hec2 : ∀ W, Below w2.heap.size w2 W → (fun W => W.cell? ⟨w.heap.size, 0, none⟩ = some (.int .i64 P.words) ∧ W.cell? ⟨w.heap.size, 1, none⟩ = some (.int .i64 P.locals) ∧ W.cell? ⟨w.heap.size, 2, none⟩ = some (.slice v.cp P.n v.cc) ∧ W.cell? ⟨w.heap.size, 3, none⟩ = some (.slice (some ⟨eb, eo, none⟩) P.m v.ec) ∧ W.cell? ⟨w.heap.size + 1, 0, none⟩ = some (.int .u64 cl.time) ∧ W.cell? ⟨w.heap.size + 1, 1, none⟩ = some (.int .i64 cl.src) ∧ W.cell? ⟨w.heap.size + 1, 2, none⟩ = some (.int .u64 cl.seq) ∧ W.cell? ⟨w.heap.size + 1, 3, none⟩ = some (.int .i64 cl.dst) ∧ W.cell? ⟨w.heap.size + 1, 4, none⟩ = some (.int .i64 (k : Int)) ∧ W.cell? ⟨w.heap.size + 1, 5, none⟩ = some (.int .i64 cl.data) ∧ W.cell? ⟨w.heap.size + 1, 6, none⟩ = some (.slice p n c) ∧ W.cell? ⟨w.heap.size + 1, 7, none⟩ = some (.int .u64 d) ∧ W.cell? ⟨w.heap.size + 1, 8, none⟩ = some (.int .u64 s) ∧ W.cell? ⟨w.heap.size + 1, 9, none⟩ = some (.int .u64 cl.look) ∧ W.cell? ⟨w.heap.size + 1, 10, none⟩ = some (.int .i64 cl.parts) ∧ W.cell? ⟨w.heap.size + 1, 11, none⟩ = some (.int .i64 cl.fuel) ∧ W.cell? ⟨eb, eo + k, none⟩ = some (.int .i64 (P.en k))) W := fun W hW => by
    obtain ⟨a0, a1, a2, a3⟩ := cells4 (hB2.later hW).pb
    obtain ⟨⟨b0, b1, b2, b3, b4, b5⟩, b6, b7, b8, b9, b10, b11⟩ := cells12 (hB2.later hW).cb
    rw [HEP.out] at a3
    rw [HK.out] at b4
    exact ⟨a0, a1, a2, a3, b0, b1, b2, b3, b4, b5, b6, b7, b8, b9, b10, b11, (cell_below (a := ⟨eb, eo + k, none⟩) (hB2.later hW).bel hel).trans (hec k hkm)⟩
  have HKS : Hid (∀ W, Below w2.heap.size w2 W → (fun W => W.cell? ⟨w.heap.size, 0, none⟩ = some (.int .i64 P.words) ∧ W.cell? ⟨w.heap.size, 1, none⟩ = some (.int .i64 P.locals) ∧ W.cell? ⟨w.heap.size, 2, none⟩ = some (.slice v.cp P.n v.cc) ∧ W.cell? ⟨w.heap.size, 3, none⟩ = some (.slice (some ⟨eb, eo, none⟩) P.m v.ec) ∧ W.cell? ⟨w.heap.size + 1, 0, none⟩ = some (.int .u64 cl.time) ∧ W.cell? ⟨w.heap.size + 1, 1, none⟩ = some (.int .i64 cl.src) ∧ W.cell? ⟨w.heap.size + 1, 2, none⟩ = some (.int .u64 cl.seq) ∧ W.cell? ⟨w.heap.size + 1, 3, none⟩ = some (.int .i64 cl.dst) ∧ W.cell? ⟨w.heap.size + 1, 4, none⟩ = some (.int .i64 (k : Int)) ∧ W.cell? ⟨w.heap.size + 1, 5, none⟩ = some (.int .i64 cl.data) ∧ W.cell? ⟨w.heap.size + 1, 6, none⟩ = some (.slice p n c) ∧ W.cell? ⟨w.heap.size + 1, 7, none⟩ = some (.int .u64 d) ∧ W.cell? ⟨w.heap.size + 1, 8, none⟩ = some (.int .u64 s) ∧ W.cell? ⟨w.heap.size + 1, 9, none⟩ = some (.int .u64 cl.look) ∧ W.cell? ⟨w.heap.size + 1, 10, none⟩ = some (.int .i64 cl.parts) ∧ W.cell? ⟨w.heap.size + 1, 11, none⟩ = some (.int .i64 cl.fuel) ∧ W.cell? ⟨eb, eo + k, none⟩ = some (.int .i64 (P.en k))) W) := hec2
  have HCS := copyStateO p n c K d s w2.drew HC.out.room (HC.out.words.below (hB2.bel.trans ((below_drewNq _ w2 1).mono (by have := hB2.bel.size; omega))))
  obtain ⟨a0, a1, a2, a3, b0, b1, b2, b3, b4, b5, b6, b7, b8, b9, b10, b11, ee⟩ := hec2 w2.drew (below_drewNq _ w2 1)
  clear hec2 hb2 hB HF HW hec
  go_region_held3 (fun W => W.cell? ⟨w.heap.size, 0, none⟩ = some (.int .i64 P.words) ∧ W.cell? ⟨w.heap.size, 1, none⟩ = some (.int .i64 P.locals) ∧ W.cell? ⟨w.heap.size, 2, none⟩ = some (.slice v.cp P.n v.cc) ∧ W.cell? ⟨w.heap.size, 3, none⟩ = some (.slice (some ⟨eb, eo, none⟩) P.m v.ec) ∧ W.cell? ⟨w.heap.size + 1, 0, none⟩ = some (.int .u64 cl.time) ∧ W.cell? ⟨w.heap.size + 1, 1, none⟩ = some (.int .i64 cl.src) ∧ W.cell? ⟨w.heap.size + 1, 2, none⟩ = some (.int .u64 cl.seq) ∧ W.cell? ⟨w.heap.size + 1, 3, none⟩ = some (.int .i64 cl.dst) ∧ W.cell? ⟨w.heap.size + 1, 4, none⟩ = some (.int .i64 (k : Int)) ∧ W.cell? ⟨w.heap.size + 1, 5, none⟩ = some (.int .i64 cl.data) ∧ W.cell? ⟨w.heap.size + 1, 6, none⟩ = some (.slice p n c) ∧ W.cell? ⟨w.heap.size + 1, 7, none⟩ = some (.int .u64 d) ∧ W.cell? ⟨w.heap.size + 1, 8, none⟩ = some (.int .u64 s) ∧ W.cell? ⟨w.heap.size + 1, 9, none⟩ = some (.int .u64 cl.look) ∧ W.cell? ⟨w.heap.size + 1, 10, none⟩ = some (.int .i64 cl.parts) ∧ W.cell? ⟨w.heap.size + 1, 11, none⟩ = some (.int .i64 cl.fuel) ∧ W.cell? ⟨eb, eo + k, none⟩ = some (.int .i64 (P.en k))) (first | exact HKS.out _ (below_drewNq _ w2 1) | exact KP | go_keep) ((go_at_call 48; (with_reducible refine HCS.mono ?_); rintro e x1 ⟨rfl, hO1, hx1⟩; have KP := HKS.out x1 ((below_drewNq _ w2 1).trans (hx1.mono (Nat.le_refl _)))))
  generalize hwm : World.alloc x1 _ = wm
  have hmx0 : wm.heap[x1.heap.size]? = some (.cells #[Value.int .i64 P.words, .int .i64 P.locals, .slice v.cp P.n v.cc, .slice (some ⟨eb, eo, none⟩) P.m v.ec, .int .u64 cl.time, .int .i64 cl.src, .int .u64 cl.seq, .int .i64 cl.dst, .int .i64 (k : Int), .int .i64 cl.data, .slice p n c, .int .u64 d, .int .u64 s, .int .u64 cl.look, .int .i64 cl.parts, .int .i64 cl.fuel, .slice (some ⟨w2.heap.size + 2, 0, none⟩) n n, .int .u64 d, .int .u64 s, .slice none 0 0, .slice none 0 0, .slice none 0 0, .int .i64 (P.en k)] 77 (0, 0)) := by rw [← hwm]; exact World.alloc_heap_new x1 _
  have hmx : wm.heap[x1.heap.size]? = some (.cells (([Value.int .i64 P.words, .int .i64 P.locals, .slice v.cp P.n v.cc, .slice (some ⟨eb, eo, none⟩) P.m v.ec, .int .u64 cl.time, .int .i64 cl.src, .int .u64 cl.seq, .int .i64 cl.dst, .int .i64 (k : Int), .int .i64 cl.data, .slice p n c, .int .u64 d, .int .u64 s, .int .u64 cl.look, .int .i64 cl.parts, .int .i64 cl.fuel] : List Value) ++ [Value.slice (some ⟨w2.heap.size + 2, 0, none⟩) n n, .int .u64 d, .int .u64 s, .slice none 0 0, .slice none 0 0, .slice none 0 0, .int .i64 (P.en k)]).toArray 77 (0, 0)) := hmx0
  have hbm : Below x1.heap.size x1 wm := by rw [← hwm]; exact (Below.refl _ x1).alloc (Nat.le_refl _) _
  have hx2 : Below w2.heap.size w2 x1 := (below_drewNq _ w2 1).trans (hx1.mono (Nat.le_refl _))
  have hxs := hx2.size
  have hO2 : Own x1 w2.heap.size 2 1 (.slice (some ⟨w2.heap.size + 2, 0, none⟩) n n) n (iv K) := hO1
  have hM := rws_new (w0 := w2) (l := [Value.int .i64 P.words, .int .i64 P.locals, .slice v.cp P.n v.cc, .slice (some ⟨eb, eo, none⟩) P.m v.ec, .int .u64 cl.time, .int .i64 cl.src, .int .u64 cl.seq, .int .i64 cl.dst, .int .i64 (k : Int), .int .i64 cl.data, .slice p n c, .int .u64 d, .int .u64 s, .int .u64 cl.look, .int .i64 cl.parts, .int .i64 cl.fuel]) rfl hmx hxs (hO2.later hbm) (fun e => by have := (hO2.lt _ e).2; omega) (hx2.trans (hbm.mono hxs))
  have hBm := (hB2.later hx2).later hbm
  obtain ⟨⟨r0, r1, r2, r3, r4, r5⟩, f0, f1, f2, f3, f4, f5⟩ := cells6' hBm.rb
  have m16 : wm.cell? ⟨x1.heap.size, 16, none⟩ = some (.slice (some ⟨w2.heap.size + 2, 0, none⟩) n n) := hM.box.cell 16 (by decide)
  have m17 : wm.cell? ⟨x1.heap.size, 17, none⟩ = some (.int .u64 d) := hM.box.cell 17 (by decide)
  have m18 : wm.cell? ⟨x1.heap.size, 18, none⟩ = some (.int .u64 s) := hM.box.cell 18 (by decide)
  have m22 : wm.cell? ⟨x1.heap.size, 22, none⟩ = some (.int .i64 (P.en k)) := hM.box.cell 22 (by decide)
  have hls := hBm.lt
  clear hwm HCS KP a0 a1 a2 a3 b0 b1 b2 b3 b4 b5 b6 b7 b8 b9 b10 b11 ee
  rw [HEN0.out] at m22
  go_wp2
  generalize hWF : (World.setCell (World.setCell (World.setCell (World.setCell (World.setCell (World.setCell _ _ _) _ _) _ _) _ _) _ _) _ _) = wF
  obtain ⟨p1, p2, p3⟩ := put6 hBm.rb _ _ _ _ _ _ wF hWF
  have hbF := p3 _ _ hBm.bel (by omega)
  obtain ⟨⟨d0, d1, d2, d3, d4, d5⟩, _⟩ := cells6' p1
  refine bodyPost_ret (v := .agg #[.int .i64 0, .slice (some ⟨w2.heap.size + 2, 0, none⟩) n n, .int .u64 d, .int .u64 s, .slice none 0 0, .int .i64 0]) (by simp [results, Tryz.results18, go_sem, d0, d1, d2, d3, d4, d5]; try rfl) rfl ?_
  refine ⟨_, rfl, ?_, hbF⟩
  rw [← hE, HE0.out]
  have hwr := hM.wr
  refine ⟨_, n, none, 0, rfl, (hwr.far fun k hk => p2 k ?_).lower (by omega), Own.nil0⟩
  have := (hwr.lt _ hk).1
  omega
end Go.Proofs.YtciaacckdodhcaaGreat
namespace Go.Proofs.YtciaacckdodhcaaGreat
open Go.ChangeShapes Go.WideShapes Go.ChangeAt Go.RowKit
set_option linter.unusedVariables false
set_option linter.unusedSimpArgs false

/-- the locals made, their head laid into the machine -/
theorem RWs.growLo {w0 W W2 : World} {base mb nw nl nl' : Nat} {C : Nat → Value} {M : Mc} {sv lv ov v' : Value} {at_ : Int} (h : RWs w0 W base mb nw nl C M sv lv ov at_) (hb2 : Below W.heap.size W W2) (hO : Own W2 base 2 1 v' nl' (iv M.lo)) (hat : v'.ownBlock = some W.heap.size) : RWs w0 (W2.setCell ⟨mb, 21, none⟩ v') base mb nw nl' C M sv v' ov at_ := by
  have hlt := h.lts
  have hs2 := hb2.size
  have ap' : ApB (bks mb M.wv ov sv v') := h.ap.upd (j := 4) (sz := W.heap.size) (fun i k hi hk => (hlt i k hi hk).1) (fun i hi hi3 => by
      have : i = 0 ∨ i = 1 ∨ i = 2 ∨ i = 3 := by omega
      rcases this with rfl | rfl | rfl | rfl <;> rfl) (.inr ⟨_, hat, Nat.le_refl _⟩)
  have ne0 : ∀ i, i < 5 → i ≠ 0 → ∀ k, bks mb M.wv ov sv v' i = some k → (some mb : Option Nat) ≠ some k := fun i hi h0 k hk => by
    have := ap' 0 i (by omega) hi (fun e => h0 e.symm) mb rfl
    rw [hk] at this
    exact fun e => this e.symm
  have hg2 := grown_set W2 mb 21 v'
  have hbm := h.box.lt
  have hsz := h.bel.size
  have box1 : RB W2 base mb C M sv lv ov at_ := Own.later h.box hb2
  refine ⟨?_, ?_, ?_, ?_, ?_, ap', ?_⟩
  · refine box1.put 21 v' rfl fun j hj hne => ?_
    unfold rF
    repeat' split
    all_goals first | rfl | omega
  · exact (h.wr.later hb2).keptBy hg2 (ne0 1 (by omega) (by omega))
  · exact (h.out.later hb2).keptBy hg2 (ne0 2 (by omega) (by omega))
  · exact (h.st.later hb2).keptBy hg2 (ne0 3 (by omega) (by omega))
  · exact hO.keptBy hg2 (ne0 4 (by omega) (by omega))
  · exact (h.bel.trans (hb2.mono (by omega))).grown hg2 (by omega) (fun k hk => by injection hk with hk; omega)
set_option maxRecDepth 100000 in
set_option maxHeartbeats 4000000 in
theorem rver_unfit (P : Pg) (v : PgV) (cl : Cl) (p : Option Addr) (n c : Nat) (d s : Int) (w : World) (hf : fitsB P cl n = false) :
    Calls Tryz.prog 18 #[.agg #[.int .i64 P.words, .int .i64 P.locals, .slice v.cp P.n v.cc, .slice v.ep P.m v.ec], .agg #[.int .u64 cl.time, .int .i64 cl.src, .int .u64 cl.seq, .int .i64 cl.dst, .int .i64 cl.kind, .int .i64 cl.data, .slice p n c, .int .u64 d, .int .u64 s, .int .u64 cl.look, .int .i64 cl.parts, .int .i64 cl.fuel]] w fun e w' => ∃ r, e = .returned r ∧ EfAt w' w.heap.size r (efErr 63) ∧ Below w.heap.size w w' := by
  obtain ⟨w3, hw3⟩ : ∃ w3, ((w.alloc (.cells #[.int .i64 P.words, .int .i64 P.locals, .slice v.cp P.n v.cc, .slice v.ep P.m v.ec] 25)).alloc (.cells #[.int .u64 cl.time, .int .i64 cl.src, .int .u64 cl.seq, .int .i64 cl.dst, .int .i64 cl.kind, .int .i64 cl.data, .slice p n c, .int .u64 d, .int .u64 s, .int .u64 cl.look, .int .i64 cl.parts, .int .i64 cl.fuel] 35)).alloc (.cells #[.int .i64 0, .slice none 0 0, .int .u64 0, .int .u64 0, .slice none 0 0, .int .i64 0] 41) = w3 := ⟨_, rfl⟩
  have hB := bx_new w P v cl p n c d s w3 hw3
  have HW : Hid (((w.alloc (.cells #[.int .i64 P.words, .int .i64 P.locals, .slice v.cp P.n v.cc, .slice v.ep P.m v.ec] 25)).alloc (.cells #[.int .u64 cl.time, .int .i64 cl.src, .int .u64 cl.seq, .int .i64 cl.dst, .int .i64 cl.kind, .int .i64 cl.data, .slice p n c, .int .u64 d, .int .u64 s, .int .u64 cl.look, .int .i64 cl.parts, .int .i64 cl.fuel] 35)).alloc (.cells #[.int .i64 0, .slice none 0 0, .int .u64 0, .int .u64 0, .slice none 0 0, .int .i64 0] 41) = w3) := hw3
  have HF := refused_any P v cl p n c d s
  rw [hf] at HF
  clear hw3 hf
  go_enter Tryz.func18, Tryz.ntmps18
  go_wp2_with (go_at_call 47; rw [HW.out]; (with_reducible refine (HF _).mono ?_); rintro e w2 ⟨rfl, hb2⟩; obtain ⟨⟨r0, r1, r2, r3, r4, r5⟩, f0, f1, f2, f3, f4, f5⟩ := cells6' (hB.later hb2).rb)
  generalize hWF : (World.setCell (World.setCell (World.setCell (World.setCell (World.setCell (World.setCell _ _ _) _ _) _ _) _ _) _ _) _ _) = wF
  obtain ⟨p1, p2, p3⟩ := put6 (hB.later hb2).rb _ _ _ _ _ _ wF hWF
  have hbF := p3 _ _ (hB.later hb2).bel (by omega)
  clear hWF p2 p3 r0 r1 r2 r3 r4 r5 f0 f1 f2 f3 f4 f5
  obtain ⟨⟨d0, d1, d2, d3, d4, d5⟩, _⟩ := cells6' p1
  refine bodyPost_ret (v := .agg #[.int .i64 63, .slice none 0 0, .int .u64 0, .int .u64 0, .slice none 0 0, .int .i64 0]) (by simp [results, Tryz.results18, go_sem, d0, d1, d2, d3, d4, d5]; try rfl) rfl ?_
  exact ⟨_, rfl, ⟨none, 0, none, 0, rfl, Own.nil0, Own.nil0⟩, hbF⟩
end Go.Proofs.YtciaacckdodhcaaGreat
