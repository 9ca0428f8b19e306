import Derived.Test.YtciaacckdodhcaaGreatR12
namespace Go.Proofs.YtciaacckdodhcaaGreat
open Go.ChangeShapes Go.WideShapes Go.ChangeAt Go.RowKit
set_option linter.unusedVariables false
set_option linter.unusedSimpArgs false

theorem made_ints (nl : Nat) : (madeCells #[Value.int .i64 0] nl).toList = cellsF (iv (fun _ => 0)) (nl * 1) := by
  apply List.ext_getElem?
  intro j
  rw [Nat.mul_one]
  simp only [madeCells, cellsF, iv]
  by_cases hj : j < nl <;> simp [hj, Nat.mod_one]
  rfl
theorem RWs.us {w0 W : World} {base mb nw nl : Nat} {C : Nat → Value} {M : Mc} {sv lv ov : Value} {at_ : Int} (h : RWs w0 W base mb nw nl C M sv lv ov at_) : RWs w0 W base mb nw nl C (usM M) sv lv ov at_ := ⟨h.box, h.wr, h.out, h.st, h.lo, h.ap, h.bel⟩
set_option maxRecDepth 100000 in
set_option maxHeartbeats 4000000 in
theorem rver_run (P : Pg) (v : PgV) (cl : Cl) (p : Option Addr) (n c : Nat) (K : Nat → Int) (d s : Int) (w : World) (h : PAt w P v) (hz : dcode P P.m = 0) (hf : fitsB P cl n = true) (hc : CallAt w cl p n c K d s) (hA64 : ∀ i, i < P.n → In64 (P.a i)) (hen : P.en cl.kind.toNat ≠ -1) :
    Calls Tryz.prog 18 #[.agg #[.int .i64 P.words, .int .i64 P.locals, .slice v.cp P.n v.cc, .slice v.ep P.m v.ec], .agg #[.int .u64 cl.time, .int .i64 cl.src, .int .u64 cl.seq, .int .i64 cl.dst, .int .i64 cl.kind, .int .i64 cl.data, .slice p n c, .int .u64 d, .int .u64 s, .int .u64 cl.look, .int .i64 cl.parts, .int .i64 cl.fuel]] w fun e w' => ∃ r, e = .returned r ∧ EfAt w' w.heap.size r (effP P cl n K d s) ∧ Below w.heap.size w w' := by
  obtain ⟨w3, hw3⟩ : ∃ w3, ((w.alloc (.cells #[.int .i64 P.words, .int .i64 P.locals, .slice v.cp P.n v.cc, .slice v.ep P.m v.ec] 25)).alloc (.cells #[.int .u64 cl.time, .int .i64 cl.src, .int .u64 cl.seq, .int .i64 cl.dst, .int .i64 cl.kind, .int .i64 cl.data, .slice p n c, .int .u64 d, .int .u64 s, .int .u64 cl.look, .int .i64 cl.parts, .int .i64 cl.fuel] 35)).alloc (.cells #[.int .i64 0, .slice none 0 0, .int .u64 0, .int .u64 0, .slice none 0 0, .int .i64 0] 41) = w3 := ⟨_, rfl⟩
  have hB := bx_new w P v cl p n c d s w3 hw3
  have HW : Hid (((w.alloc (.cells #[.int .i64 P.words, .int .i64 P.locals, .slice v.cp P.n v.cc, .slice v.ep P.m v.ec] 25)).alloc (.cells #[.int .u64 cl.time, .int .i64 cl.src, .int .u64 cl.seq, .int .i64 cl.dst, .int .i64 cl.kind, .int .i64 cl.data, .slice p n c, .int .u64 d, .int .u64 s, .int .u64 cl.look, .int .i64 cl.parts, .int .i64 cl.fuel] 35)).alloc (.cells #[.int .i64 0, .slice none 0 0, .int .u64 0, .int .u64 0, .slice none 0 0, .int .i64 0] 41) = w3) := hw3
  have HF := refused_any P v cl p n c d s
  rw [hf] at HF
  obtain ⟨y1, y2, y3, y4, y5, y6⟩ := fitsB_yes hf
  obtain ⟨k, hk⟩ := Int.eq_ofNat_of_zero_le y3.1
  have HE : Hid (effP P cl n K d s = effP P cl n K d s) := rfl
  have HZ : Hid (dcode P P.m = 0) := hz
  have HFB : Hid (fitsB P cl n = true) := hf
  have HP : Hid (PAt w P v) := h
  have HC : Hid (CallAt w cl p n c K d s) := hc
  have HA : Hid (∀ i, i < P.n → In64 (P.a i)) := hA64
  have hkm : k < P.m := by omega
  obtain ⟨eb, eo, hep, hel, hec⟩ : ∃ b o, v.ep = some ⟨b, o, none⟩ ∧ b < w.heap.size ∧ ∀ j, j < P.m → w.cell? ⟨b, o + j, none⟩ = some (.int .i64 (P.en j)) := by
    rcases h.2 with e | e
    · omega
    · exact e
  have hk0 : (0 : Int) ≤ (k : Int) := by omega
  have hk1 : (k : Int) < (P.m : Int) := by omega
  have HK : Hid (cl.kind = (k : Int)) := hk
  have HEP : Hid (v.ep = some ⟨eb, eo, none⟩) := hep
  rw [hk, Int.toNat_natCast] at hen
  obtain ⟨_, hsP, hins, g, hnr, hbd⟩ := dcode_zero hz
  have hge : 0 ≤ P.en k ∧ P.en k < P.n := by have := g.en k hkm; omega
  have hdl := (sol_dL g hnr hbd).en _ hkm (by omega)
  obtain ⟨i0, hi0⟩ := Int.eq_ofNat_of_zero_le hge.1
  have HI0 : Hid (P.en k = (i0 : Int)) := hi0
  have hlt0 : i0 < P.n := by omega
  clear hw3 h hz hf hc hA64 hk hep y3 hi0 hge hen
  generalize hE : effP P cl n K d s = E
  go_enter Tryz.func18, Tryz.ntmps18
  go_upto_region 3 with (go_at_call 47; rw [HW.out]; (with_reducible refine (HF _).mono ?_); rintro e w2 ⟨rfl, hb2⟩)
  have hB2 := hB.later hb2
  have hl2 := hB2.lt
  have hec2 : ∀ W, Below w2.heap.size w2 W → (fun W => W.cell? ⟨w.heap.size, 0, none⟩ = some (.int .i64 P.words) ∧ W.cell? ⟨w.heap.size, 1, none⟩ = some (.int .i64 P.locals) ∧ W.cell? ⟨w.heap.size, 2, none⟩ = some (.slice v.cp P.n v.cc) ∧ W.cell? ⟨w.heap.size, 3, none⟩ = some (.slice (some ⟨eb, eo, none⟩) P.m v.ec) ∧ W.cell? ⟨w.heap.size + 1, 0, none⟩ = some (.int .u64 cl.time) ∧ W.cell? ⟨w.heap.size + 1, 1, none⟩ = some (.int .i64 cl.src) ∧ W.cell? ⟨w.heap.size + 1, 2, none⟩ = some (.int .u64 cl.seq) ∧ W.cell? ⟨w.heap.size + 1, 3, none⟩ = some (.int .i64 cl.dst) ∧ W.cell? ⟨w.heap.size + 1, 4, none⟩ = some (.int .i64 (k : Int)) ∧ W.cell? ⟨w.heap.size + 1, 5, none⟩ = some (.int .i64 cl.data) ∧ W.cell? ⟨w.heap.size + 1, 6, none⟩ = some (.slice p n c) ∧ W.cell? ⟨w.heap.size + 1, 7, none⟩ = some (.int .u64 d) ∧ W.cell? ⟨w.heap.size + 1, 8, none⟩ = some (.int .u64 s) ∧ W.cell? ⟨w.heap.size + 1, 9, none⟩ = some (.int .u64 cl.look) ∧ W.cell? ⟨w.heap.size + 1, 10, none⟩ = some (.int .i64 cl.parts) ∧ W.cell? ⟨w.heap.size + 1, 11, none⟩ = some (.int .i64 cl.fuel) ∧ W.cell? ⟨eb, eo + k, none⟩ = some (.int .i64 (P.en k))) W := fun W hW => by
    obtain ⟨a0, a1, a2, a3⟩ := cells4 (hB2.later hW).pb
    obtain ⟨⟨b0, b1, b2, b3, b4, b5⟩, b6, b7, b8, b9, b10, b11⟩ := cells12 (hB2.later hW).cb
    rw [HEP.out] at a3
    rw [HK.out] at b4
    exact ⟨a0, a1, a2, a3, b0, b1, b2, b3, b4, b5, b6, b7, b8, b9, b10, b11, (cell_below (a := ⟨eb, eo + k, none⟩) (hB2.later hW).bel hel).trans (hec k hkm)⟩
  have HKS : Hid (∀ W, Below w2.heap.size w2 W → (fun W => W.cell? ⟨w.heap.size, 0, none⟩ = some (.int .i64 P.words) ∧ W.cell? ⟨w.heap.size, 1, none⟩ = some (.int .i64 P.locals) ∧ W.cell? ⟨w.heap.size, 2, none⟩ = some (.slice v.cp P.n v.cc) ∧ W.cell? ⟨w.heap.size, 3, none⟩ = some (.slice (some ⟨eb, eo, none⟩) P.m v.ec) ∧ W.cell? ⟨w.heap.size + 1, 0, none⟩ = some (.int .u64 cl.time) ∧ W.cell? ⟨w.heap.size + 1, 1, none⟩ = some (.int .i64 cl.src) ∧ W.cell? ⟨w.heap.size + 1, 2, none⟩ = some (.int .u64 cl.seq) ∧ W.cell? ⟨w.heap.size + 1, 3, none⟩ = some (.int .i64 cl.dst) ∧ W.cell? ⟨w.heap.size + 1, 4, none⟩ = some (.int .i64 (k : Int)) ∧ W.cell? ⟨w.heap.size + 1, 5, none⟩ = some (.int .i64 cl.data) ∧ W.cell? ⟨w.heap.size + 1, 6, none⟩ = some (.slice p n c) ∧ W.cell? ⟨w.heap.size + 1, 7, none⟩ = some (.int .u64 d) ∧ W.cell? ⟨w.heap.size + 1, 8, none⟩ = some (.int .u64 s) ∧ W.cell? ⟨w.heap.size + 1, 9, none⟩ = some (.int .u64 cl.look) ∧ W.cell? ⟨w.heap.size + 1, 10, none⟩ = some (.int .i64 cl.parts) ∧ W.cell? ⟨w.heap.size + 1, 11, none⟩ = some (.int .i64 cl.fuel) ∧ W.cell? ⟨eb, eo + k, none⟩ = some (.int .i64 (P.en k))) W) := hec2
  have HCS := copyStateO p n c K d s w2.drew HC.out.room (HC.out.words.below (hB2.bel.trans ((below_drewNq _ w2 1).mono (by have := hB2.bel.size; omega))))
  obtain ⟨a0, a1, a2, a3, b0, b1, b2, b3, b4, b5, b6, b7, b8, b9, b10, b11, ee⟩ := hec2 w2.drew (below_drewNq _ w2 1)
  clear hec2 hb2 hB HF HW hec
  go_region_held3 (fun W => W.cell? ⟨w.heap.size, 0, none⟩ = some (.int .i64 P.words) ∧ W.cell? ⟨w.heap.size, 1, none⟩ = some (.int .i64 P.locals) ∧ W.cell? ⟨w.heap.size, 2, none⟩ = some (.slice v.cp P.n v.cc) ∧ W.cell? ⟨w.heap.size, 3, none⟩ = some (.slice (some ⟨eb, eo, none⟩) P.m v.ec) ∧ W.cell? ⟨w.heap.size + 1, 0, none⟩ = some (.int .u64 cl.time) ∧ W.cell? ⟨w.heap.size + 1, 1, none⟩ = some (.int .i64 cl.src) ∧ W.cell? ⟨w.heap.size + 1, 2, none⟩ = some (.int .u64 cl.seq) ∧ W.cell? ⟨w.heap.size + 1, 3, none⟩ = some (.int .i64 cl.dst) ∧ W.cell? ⟨w.heap.size + 1, 4, none⟩ = some (.int .i64 (k : Int)) ∧ W.cell? ⟨w.heap.size + 1, 5, none⟩ = some (.int .i64 cl.data) ∧ W.cell? ⟨w.heap.size + 1, 6, none⟩ = some (.slice p n c) ∧ W.cell? ⟨w.heap.size + 1, 7, none⟩ = some (.int .u64 d) ∧ W.cell? ⟨w.heap.size + 1, 8, none⟩ = some (.int .u64 s) ∧ W.cell? ⟨w.heap.size + 1, 9, none⟩ = some (.int .u64 cl.look) ∧ W.cell? ⟨w.heap.size + 1, 10, none⟩ = some (.int .i64 cl.parts) ∧ W.cell? ⟨w.heap.size + 1, 11, none⟩ = some (.int .i64 cl.fuel) ∧ W.cell? ⟨eb, eo + k, none⟩ = some (.int .i64 (P.en k))) (first | exact HKS.out _ (below_drewNq _ w2 1) | exact KP | go_keep) ((go_at_call 48; (with_reducible refine HCS.mono ?_); rintro e x1 ⟨rfl, hO1, hx1⟩; have KP := HKS.out x1 ((below_drewNq _ w2 1).trans (hx1.mono (Nat.le_refl _)))))
  generalize hwm : World.alloc x1 _ = wm
  have hmx0 : wm.heap[x1.heap.size]? = some (.cells #[Value.int .i64 P.words, .int .i64 P.locals, .slice v.cp P.n v.cc, .slice (some ⟨eb, eo, none⟩) P.m v.ec, .int .u64 cl.time, .int .i64 cl.src, .int .u64 cl.seq, .int .i64 cl.dst, .int .i64 (k : Int), .int .i64 cl.data, .slice p n c, .int .u64 d, .int .u64 s, .int .u64 cl.look, .int .i64 cl.parts, .int .i64 cl.fuel, .slice (some ⟨w2.heap.size + 2, 0, none⟩) n n, .int .u64 d, .int .u64 s, .slice none 0 0, .slice none 0 0, .slice none 0 0, .int .i64 (P.en k)] 77 (0, 0)) := by rw [← hwm]; exact World.alloc_heap_new x1 _
  have hmx : wm.heap[x1.heap.size]? = some (.cells (([Value.int .i64 P.words, .int .i64 P.locals, .slice v.cp P.n v.cc, .slice (some ⟨eb, eo, none⟩) P.m v.ec, .int .u64 cl.time, .int .i64 cl.src, .int .u64 cl.seq, .int .i64 cl.dst, .int .i64 (k : Int), .int .i64 cl.data, .slice p n c, .int .u64 d, .int .u64 s, .int .u64 cl.look, .int .i64 cl.parts, .int .i64 cl.fuel] : List Value) ++ [Value.slice (some ⟨w2.heap.size + 2, 0, none⟩) n n, .int .u64 d, .int .u64 s, .slice none 0 0, .slice none 0 0, .slice none 0 0, .int .i64 (P.en k)]).toArray 77 (0, 0)) := hmx0
  have hbm : Below x1.heap.size x1 wm := by rw [← hwm]; exact (Below.refl _ x1).alloc (Nat.le_refl _) _
  have hx2 : Below w2.heap.size w2 x1 := (below_drewNq _ w2 1).trans (hx1.mono (Nat.le_refl _))
  have hxs := hx2.size
  have hO2 : Own x1 w2.heap.size 2 1 (.slice (some ⟨w2.heap.size + 2, 0, none⟩) n n) n (iv K) := hO1
  have hM := rws_new (w0 := w2) (l := [Value.int .i64 P.words, .int .i64 P.locals, .slice v.cp P.n v.cc, .slice (some ⟨eb, eo, none⟩) P.m v.ec, .int .u64 cl.time, .int .i64 cl.src, .int .u64 cl.seq, .int .i64 cl.dst, .int .i64 (k : Int), .int .i64 cl.data, .slice p n c, .int .u64 d, .int .u64 s, .int .u64 cl.look, .int .i64 cl.parts, .int .i64 cl.fuel]) rfl hmx hxs (hO2.later hbm) (fun e => by have := (hO2.lt _ e).2; omega) (hx2.trans (hbm.mono hxs))
  have hBm := (hB2.later hx2).later hbm
  obtain ⟨⟨r0, r1, r2, r3, r4, r5⟩, f0, f1, f2, f3, f4, f5⟩ := cells6' hBm.rb
  have m16 : wm.cell? ⟨x1.heap.size, 16, none⟩ = some (.slice (some ⟨w2.heap.size + 2, 0, none⟩) n n) := hM.box.cell 16 (by decide)
  have m17 : wm.cell? ⟨x1.heap.size, 17, none⟩ = some (.int .u64 d) := hM.box.cell 17 (by decide)
  have m18 : wm.cell? ⟨x1.heap.size, 18, none⟩ = some (.int .u64 s) := hM.box.cell 18 (by decide)
  have m22 : wm.cell? ⟨x1.heap.size, 22, none⟩ = some (.int .i64 (P.en k)) := hM.box.cell 22 (by decide)
  have hls := hBm.lt
  clear hwm HCS KP a0 a1 a2 a3 b0 b1 b2 b3 b4 b5 b6 b7 b8 b9 b10 b11 ee
  rw [HI0.out] at m22
  obtain ⟨i5, hi5, ha5, hb5, hc5⟩ := info_parts infoI64
  obtain ⟨nl, hnl⟩ := Int.eq_ofNat_of_zero_le hsP.2.1.1
  have hnl32 : nl ≤ 32 := by have := hsP.2.1.2; omega
  obtain ⟨z0, z1, z2, z3⟩ := cells4 hBm.pb
  rw [hnl] at z1
  go_wp2_with (at_make; refine wpList_make_full _ rfl (.tmp 38) (.tmp 38) 31 rfl w2.heap.size 2 i5 (.int .i64 0) 1 Tryz.underlying31 hi5 ha5 hb5 .i64 .i64 nl nl nl rfl rfl rfl rfl ?c1 ?c2 ?c3 ?_)
  case c1 => rw [hc5]; omega
  case c2 => unfold maxLen; omega
  case c3 => exact Nat.le_trans hxs hbm.size
  intro w4 hown hgrow
  have hO4 : Own w4 w2.heap.size 2 1 (.slice (some ⟨wm.heap.size, 0, none⟩) nl nl) nl (iv (fun _ => 0)) := by rw [made_ints] at hown; exact hown
  have hb4 : Below wm.heap.size wm w4 := (Below.refl _ _).grown hgrow (Nat.le_refl _) (by simp)
  have hM4 := hM.growLo (nl' := nl) (v' := .slice (some ⟨wm.heap.size, 0, none⟩) nl nl) hb4 hO4 rfl
  have f21 := (hM.later hb4).box.frozen 21
  have c21 := (hM.later hb4).box.cell 21 (by decide)
  clear hown hgrow
  obtain h0 | ⟨cb, co, hcp, hcl2, hcc⟩ := HP.out.1
  · omega
  have hwords : P.words = n := by obtain ⟨k1, k2, k3, k4, k5, k6⟩ := fitsB_yes HFB.out; omega
  have hfu : cl.fuel ≤ 4096 ∧ 0 ≤ cl.fuel := by obtain ⟨k1, k2, k3, k4, k5, k6⟩ := fitsB_yes HFB.out; omega
  have hCR : CR (docC [Value.int .i64 P.words, .int .i64 P.locals, .slice v.cp P.n v.cc, .slice (some ⟨eb, eo, none⟩) P.m v.ec, .int .u64 cl.time, .int .i64 cl.src, .int .u64 cl.seq, .int .i64 cl.dst, .int .i64 (k : Int), .int .i64 cl.data, .slice p n c, .int .u64 d, .int .u64 s, .int .u64 cl.look, .int .i64 cl.parts, .int .i64 cl.fuel]) cl (.slice (some ⟨cb, co, none⟩) P.n v.cc) := ⟨by show Value.slice v.cp P.n v.cc = _; rw [hcp], rfl, rfl, rfl, by show Value.int .i64 (k : Int) = _; rw [HK.out], rfl, rfl, rfl, rfl⟩
  obtain ⟨C, hCd⟩ : ∃ C, docC [Value.int .i64 P.words, .int .i64 P.locals, .slice v.cp P.n v.cc, .slice (some ⟨eb, eo, none⟩) P.m v.ec, .int .u64 cl.time, .int .i64 cl.src, .int .u64 cl.seq, .int .i64 cl.dst, .int .i64 (k : Int), .int .i64 cl.data, .slice p n c, .int .u64 d, .int .u64 s, .int .u64 cl.look, .int .i64 cl.parts, .int .i64 cl.fuel] = C := ⟨_, rfl⟩
  rw [hCd] at hM4 hCR
  obtain ⟨R, hR⟩ : ∃ R, runP P cl cl.fuel.toNat i0 (newM K d s (.slice (some ⟨w2.heap.size + 2, 0, none⟩) n n)) = R := ⟨_, rfl⟩
  have hEE : E = if R.1 ≠ 0 then ⟨R.1, n, K, d, s, 0, fun _ => undef, R.2.used⟩ else ⟨0, n, R.2.wd, R.2.dice, R.2.sent, R.2.on, R.2.oF, R.2.used⟩ := by
    rw [← hE, ← hR]
    have hwv : runP P cl cl.fuel.toNat i0 (newM K d s (.slice (some ⟨w2.heap.size + 2, 0, none⟩) n n)) = ((runOf P cl K d s).1, wvM (runOf P cl K d s).2 (.slice (some ⟨w2.heap.size + 2, 0, none⟩) n n)) := by
      unfold runOf
      rw [HK.out, Int.toNat_natCast, HI0.out, Int.toNat_natCast]
      exact runP_wv P cl (.slice (some ⟨w2.heap.size + 2, 0, none⟩) n n) cl.fuel.toNat i0 (newM K d s (.slice none 0 0))
    rw [hwv]
    unfold effP
    rw [if_neg (by rw [HZ.out]; simp), if_neg (by rw [HFB.out]; simp), if_neg (by rw [HK.out, Int.toNat_natCast, HI0.out]; omega)]
    rfl
  have HEE : Hid (E = _) := hEE
  have hd0 : ((newM K d s (.slice (some ⟨w2.heap.size + 2, 0, none⟩) n n)).hi : Int) = dL P i0 := by rw [HI0.out, Int.toNat_natCast] at hdl; rw [hdl]; rfl
  have hok0 := newM_ok HC.out (.slice (some ⟨w2.heap.size + 2, 0, none⟩) n n)
  have hsol := sol_dL g hnr hbd
  have hn : P.n ≤ 4096 := hsP.2.2.1
  have HCC : Hid (∀ i, i < P.n → w.cell? ⟨cb, co + i * 3, none⟩ = some (.int .i64 (P.op i)) ∧ w.cell? ⟨cb, co + i * 3 + 1, none⟩ = some (.int .i64 (P.a i)) ∧ w.cell? ⟨cb, co + i * 3 + 2, none⟩ = some (.int .i64 (P.b i))) := hcc
  have HCP : Hid (v.cp = some ⟨cb, co, none⟩) := hcp
  have HWD : Hid (P.words = n) := hwords
  have HD0 : Hid (((newM K d s (.slice (some ⟨w2.heap.size + 2, 0, none⟩) n n)).hi : Int) = dL P i0) := hd0
  have HR0 : Hid (runP P cl cl.fuel.toNat i0 (newM K d s (.slice (some ⟨w2.heap.size + 2, 0, none⟩) n n)) = R) := hR
  have HNL : Hid (P.locals = nl) := hnl
  have HM4 : Hid (RWs w2 _ w2.heap.size x1.heap.size n nl C _ _ _ _ _) := hM4
  have HSOL : Hid (Sol P (dL P)) := hsol
  have HCR : Hid (CR C cl (.slice (some ⟨cb, co, none⟩) P.n v.cc)) := hCR
  clear hcc hE hEE hdl hCd hcp hwords hd0 hR hM4 hsol hCR hM hO4
  go_wp2
  go_loopw [6] (fun x wr => ∃ (i : Nat) (M : Mc) (k : Nat), x = .int .i64 (M.used + 1) ∧ i < P.n ∧ RX w2 wr w2.heap.size x1.heap.size n nl C M (i : Int) ∧ OkM M ∧ (M.hi : Int) = dL P i ∧ M.used + k = cl.fuel ∧ 0 ≤ M.used ∧ runP P cl k i M = R) (fun x _ => usedOf (cl.fuel + 1) (some x))
  case atStart => exact ⟨i0, newM K d s (.slice (some ⟨w2.heap.size + 2, 0, none⟩) n n), cl.fuel.toNat, rfl, hlt0, ⟨_, _, _, by have h9 := HM4.out; rw [HI0.out] at h9; exact h9⟩, hok0, HD0.out, by show (0 : Int) + _ = _; omega, Int.le_refl _, HR0.out⟩
  case round =>
    clear HM4 HD0 HR0 hok0 hlt0
    obtain ⟨i, M, k', rfl, hi, hX, hok, hd, hk, hu, hR⟩ := hrel
    obtain ⟨sv, lv, ov, h⟩ := hX
    have hBr := hB2.later h.bel
    obtain ⟨⟨b0, b1, b2, b3, b4, b5⟩, b6, b7, b8, b9, b10, b11⟩ := cells12 hBr.cb
    have hmes : usedOf (cl.fuel + 1) (some (.int .i64 (M.used + 1))) = k' := by show (cl.fuel + 1 - (M.used + 1)).toNat = k'; omega
    rcases k' with _ | k'
    · have dl : decide (M.used + 1 ≤ cl.fuel) = false := by simp; omega
      rw [runP_zero] at hR
      have HR : Hid ((200, M) = R) := hR
      have HU : Hid (M.used = cl.fuel) := by show M.used = cl.fuel; omega
      have HBE : Hid (Below w2.heap.size w2 wr) := h.bel
      clear hR hk hd h hmes
      go_wp2_with (fail)
      have HCP5 := copyStateO p n c K d s wr.drew HC.out.room (HC.out.words.below (hBr.bel.trans ((below_drewNq _ wr 1).mono (by have := hBr.bel.size; omega))))
      have hl4 := hBr.lt
      refine wp_region_held_drew (S := fun W => W.heap[w.heap.size + 1]? = wr.heap[w.heap.size + 1]?) (by kernel_rfl) rfl (fun hHeld => ?_)
      clear b0 b1 b2 b3 b4 b5 b6 b7 b8 b9 b10 b11
      refine wpAnyH_take (i := 0) (v := ?hv0u1) rfl (by kernel_rfl) (by kernel_rfl) (by kernel_rfl) (fun _ _ _ h => h) (Or.inl ⟨by rfl, ?hy0u1⟩) (by assumption) ?hr0u1
      case hy0u1 => ((intro W hSw; obtain ⟨⟨b0, b1, b2, b3, b4, b5⟩, b6, b7, b8, b9, b10, b11⟩ := cells12 (hSw.trans hBr.cb); go_simp); try with_reducible rfl)
      simp only [List.getElem_toArray, List.getElem_cons_zero, List.getElem_cons_succ, Act.put, List.setIfInBounds_toArray, List.set_cons_zero, List.set_cons_succ]
      refine wpAnyH_take (i := 1) (v := ?hv1u2) rfl (by kernel_rfl) (by kernel_rfl) (by kernel_rfl) (fun _ _ _ h => h) (Or.inl ⟨by rfl, ?hy1u2⟩) (by assumption) ?hr1u2
      case hy1u2 => ((intro W hSw; obtain ⟨⟨b0, b1, b2, b3, b4, b5⟩, b6, b7, b8, b9, b10, b11⟩ := cells12 (hSw.trans hBr.cb); go_simp); try with_reducible rfl)
      simp only [List.getElem_toArray, List.getElem_cons_zero, List.getElem_cons_succ, Act.put, List.setIfInBounds_toArray, List.set_cons_zero, List.set_cons_succ]
      refine wpAnyH_take (i := 3) (v := ?hv3u3) rfl (by kernel_rfl) (by kernel_rfl) (by kernel_rfl) (fun _ _ _ h => h) (Or.inl ⟨by rfl, ?hy3u3⟩) (by assumption) ?hr3u3
      case hy3u3 => ((intro W hSw; obtain ⟨⟨b0, b1, b2, b3, b4, b5⟩, b6, b7, b8, b9, b10, b11⟩ := cells12 (hSw.trans hBr.cb); go_simp); try with_reducible rfl)
      simp only [List.getElem_toArray, List.getElem_cons_zero, List.getElem_cons_succ, Act.put, List.setIfInBounds_toArray, List.set_cons_zero, List.set_cons_succ]
      refine wpAnyH_take (i := 4) (v := ?hv4u4) rfl (by kernel_rfl) (by kernel_rfl) (by kernel_rfl) (fun _ _ _ h => h) (Or.inl ⟨by rfl, ?hy4u4⟩) (by assumption) ?hr4u4
      case hy4u4 => ((intro W hSw; obtain ⟨⟨b0, b1, b2, b3, b4, b5⟩, b6, b7, b8, b9, b10, b11⟩ := cells12 (hSw.trans hBr.cb); go_simp); try with_reducible rfl)
      simp only [List.getElem_toArray, List.getElem_cons_zero, List.getElem_cons_succ, Act.put, List.setIfInBounds_toArray, List.set_cons_zero, List.set_cons_succ]
      refine wpAnyH_ready (rs := [2]) (by kernel_rfl) (by simp) (AllReadyH.cons rfl (fun KK hK => ?_) AllReadyH.nil)
      all_goals dsimp -proj only [List.getElem_toArray, List.getElem_cons_zero, List.getElem_cons_succ]
      go_simp
      go_at_call 48
      refine HCP5.mono ?_
      rintro e w5 ⟨rfl, hO5, hb5⟩
      try go_wp2_with fail
      have hB5 := (hBr.later (below_drewNq _ wr 1)).later hb5
      have hne1 : w.heap.size + 1 ≠ w.heap.size + 2 := by omega
      have hs5 : w5.heap[w.heap.size + 1]? = wr.heap[w.heap.size + 1]? := hb5.block _ (by show _ < wr.heap.size; omega)
      refine hK.out _ _ hs5 (fun hHeld => ?_)
      clear hK KK
      try simp only [Act.put, List.setIfInBounds_toArray, List.set_cons_zero, List.set_cons_succ]
      refine wpAnyH_take (i := 5) (v := ?hv5u5) rfl (by kernel_rfl) (by kernel_rfl) (by kernel_rfl) (fun _ _ _ h => h) (Or.inl ⟨by rfl, ?hy5u5⟩) (by assumption) ?hr5u5
      case hy5u5 => ((intro W hSw; go_simp); try with_reducible rfl)
      simp only [List.getElem_toArray, List.getElem_cons_zero, List.getElem_cons_succ, Act.put, List.setIfInBounds_toArray, List.set_cons_zero, List.set_cons_succ]
      refine wpAnyH_ready (rs := [6]) (by kernel_rfl) (by simp) (AllReadyH.cons rfl (fun KK hK => ?_) AllReadyH.nil)
      all_goals dsimp -proj only [List.getElem_toArray, List.getElem_cons_zero, List.getElem_cons_succ]
      refine step_store_row rfl 41 _ _ rfl (w.heap.size + 2) _ rfl rfl 41 _ hB5.rb (by kernel_rfl) rfl (by kernel_rfl) ?_
      refine hK.out _ _ ((setRow_far _ _ _ _ hne1).trans hs5) (fun hHeld => ?_)
      clear hK KK
      try simp only [Act.put, List.setIfInBounds_toArray, List.set_cons_zero, List.set_cons_succ]
      refine wpAnyH_done (by kernel_rfl) ?_ _
      go_wp2
      refine bodyPost_ret_by (v := .agg #[.int .i64 200, .slice (some ⟨wr.drew.heap.size + 2, 0, none⟩) n n, .int .u64 d, .int .u64 s, .slice none 0 0, .int .i64 cl.fuel]) (results_cell_row (p := 4) (ty := 41) rfl _ _ (w.heap.size + 2) 41 _ (0, 0) _ rfl (setRow_heap _ _ _ _ _ _ hB5.rb) Tryz.underlying41 rfl (by kernel_rfl)) rfl ?_
      refine ⟨_, rfl, ?_, setRow_below _ hB5.bel (by omega)⟩
      rw [HEE.out, ← HR.out, if_pos (by show (200 : Int) ≠ 0; decide)]
      show EfAt _ _ _ ⟨200, n, K, d, s, 0, fun _ => undef, M.used⟩
      rw [HU.out]
      refine ⟨some ⟨wr.drew.heap.size + 2, 0, none⟩, n, none, 0, rfl, (hO5.far fun k hk => setRow_far _ _ _ _ ?_).lower ?_, Own.nil0⟩
      · have := (hO5.lt _ hk).1
        have e4 : wr.drew.heap.size = wr.heap.size := rfl
        omega
      · show w.heap.size ≤ wr.heap.size
        omega
    · have dl : decide (M.used + 1 ≤ cl.fuel) = true := by simp; omega
      obtain ⟨a0, a1, a2, a3⟩ := cells4 hBr.pb
      rw [HCP.out] at a2
      have hsz2 := hBr.bel.size
      have m22 : wr.cell? ⟨x1.heap.size, 22, none⟩ = some (.int .i64 (i : Int)) := h.box.cell 22 (by decide)
      have x0 := (cell_below (a := ⟨cb, co + i * 3, none⟩) hBr.bel hcl2).trans (HCC.out i hi).1
      have x1' := (cell_below (a := ⟨cb, co + i * 3 + 1, none⟩) hBr.bel hcl2).trans (HCC.out i hi).2.1
      have x2' := (cell_below (a := ⟨cb, co + i * 3 + 2, none⟩) hBr.bel hcl2).trans (HCC.out i hi).2.2
      have j0 : (0 : Int) ≤ (i : Int) := by omega
      have j1 : (i : Int) < (P.n : Int) := by omega
      have hne1 : dL P i ≠ -1 := by omega
      have HF : Hid (fine P i (dL P i)) := HSOL.out.fine i hi hne1
      have HD : Hid (Dp P i (dL P i)) := HSOL.out.dp i hi hne1
      have hins1 : insErr P (P.op i) (P.a i) (P.b i) = 0 := ferr_zero hins i (by omega) (by omega)
      have HIN : Hid (insErr P (P.op i) (P.a i) (P.b i) = 0) := hins1
      have hdj : Hid ((M.hi : Int) = dL P i) := hd
      have HR : Hid (runP P cl (k' + 1) i M = R) := hR
      have u1 : 0 ≤ M.used + 1 := by omega
      have u2 : M.used ≤ 4096 := by omega
      have HX1 : Hid (wr.cell? ⟨cb, co + i * 3 + 1, none⟩ = some (.int .i64 (P.a i))) := x1'
      have HX2 : Hid (wr.cell? ⟨cb, co + i * 3 + 2, none⟩ = some (.int .i64 (P.b i))) := x2'
      have HX0 : Hid (wr.cell? ⟨cb, co + i * 3, none⟩ = some (.int .i64 (P.op i))) := x0
      have HKK : Hid (M.used + (k' + 1) = cl.fuel) := by show M.used + (k' + 1) = cl.fuel; omega
      clear hins1 hd hR hne1 x1' x2' hk
      by_cases h0 : P.op i = 0
      · have d0 : (P.op i == 0) = true := by simpa using h0
        have H0 : Hid (P.op i = 0) := h0
        clear h0
        go_wp2_with (fail)
        go_quiet (fail)
        generalize hwq : World.drewN wr _ = wq
        have hq : RWs w2 wq w2.heap.size x1.heap.size n nl C M sv lv ov (i : Int) := by rw [← hwq]; exact h.later (below_drewNq _ _ _)
        clear hwq h
        obtain ⟨qp, qc, hwv⟩ := own_slice hq.wr
        obtain ⟨op, oc, hov⟩ := own_slice hq.out
        subst hov
        have hBq := hB2.later hq.bel
        have hl4 := hBq.lt
        have hmbl := hq.box.lt
        have z16 : wq.cell? ⟨x1.heap.size, 16, none⟩ = some (.slice qp n qc) := (hq.box.cell 16 (by decide)).trans (congrArg some hwv)
        have z17 : wq.cell? ⟨x1.heap.size, 17, none⟩ = some (.int .u64 M.dice) := hq.box.cell 17 (by decide)
        have z18 : wq.cell? ⟨x1.heap.size, 18, none⟩ = some (.int .u64 M.sent) := hq.box.cell 18 (by decide)
        have z19 : wq.cell? ⟨x1.heap.size, 19, none⟩ = some (.slice op M.on oc) := hq.box.cell 19 (by decide)
        have HWV : Hid (M.wv = .slice qp n qc) := hwv
        have HQ : Hid (RWs w2 wq w2.heap.size x1.heap.size n nl C M sv lv (.slice op M.on oc) (i : Int)) := hq
        clear hwv hq b0 b1 b2 b3 b4 b5 b6 b7 b8 b9 b10 b11 a0 a1 a2 a3 m22 x0
        go_wp2_with (fail)
        refine wp_region_held_drew (S := fun W => W.heap[x1.heap.size]? = wq.heap[x1.heap.size]?) (by kernel_rfl) rfl (fun hHeld => ?_)
        refine wpAnyH_take (i := 0) (v := ?hv0u6) rfl (by kernel_rfl) (by kernel_rfl) (by kernel_rfl) (fun _ _ _ h => h) (Or.inl ⟨by rfl, ?hy0u6⟩) (by assumption) ?hr0u6
        case hy0u6 => ((intro W hSw; have m16 := (World.cell?_of_block (a := ⟨x1.heap.size, 16, none⟩) hSw).trans z16; have m17 := (World.cell?_of_block (a := ⟨x1.heap.size, 17, none⟩) hSw).trans z17; have m18 := (World.cell?_of_block (a := ⟨x1.heap.size, 18, none⟩) hSw).trans z18; have m19 := (World.cell?_of_block (a := ⟨x1.heap.size, 19, none⟩) hSw).trans z19; go_simp); try with_reducible rfl)
        simp only [List.getElem_toArray, List.getElem_cons_zero, List.getElem_cons_succ, Act.put, List.setIfInBounds_toArray, List.set_cons_zero, List.set_cons_succ]
        refine wpAnyH_take (i := 1) (v := ?hv1u7) rfl (by kernel_rfl) (by kernel_rfl) (by kernel_rfl) (fun _ _ _ h => h) (Or.inl ⟨by rfl, ?hy1u7⟩) (by assumption) ?hr1u7
        case hy1u7 => ((intro W hSw; have m16 := (World.cell?_of_block (a := ⟨x1.heap.size, 16, none⟩) hSw).trans z16; have m17 := (World.cell?_of_block (a := ⟨x1.heap.size, 17, none⟩) hSw).trans z17; have m18 := (World.cell?_of_block (a := ⟨x1.heap.size, 18, none⟩) hSw).trans z18; have m19 := (World.cell?_of_block (a := ⟨x1.heap.size, 19, none⟩) hSw).trans z19; go_simp); try with_reducible rfl)
        simp only [List.getElem_toArray, List.getElem_cons_zero, List.getElem_cons_succ, Act.put, List.setIfInBounds_toArray, List.set_cons_zero, List.set_cons_succ]
        refine wpAnyH_take (i := 2) (v := ?hv2u8) rfl (by kernel_rfl) (by kernel_rfl) (by kernel_rfl) (fun _ _ _ h => h) (Or.inl ⟨by rfl, ?hy2u8⟩) (by assumption) ?hr2u8
        case hy2u8 => ((intro W hSw; have m16 := (World.cell?_of_block (a := ⟨x1.heap.size, 16, none⟩) hSw).trans z16; have m17 := (World.cell?_of_block (a := ⟨x1.heap.size, 17, none⟩) hSw).trans z17; have m18 := (World.cell?_of_block (a := ⟨x1.heap.size, 18, none⟩) hSw).trans z18; have m19 := (World.cell?_of_block (a := ⟨x1.heap.size, 19, none⟩) hSw).trans z19; go_simp); try with_reducible rfl)
        simp only [List.getElem_toArray, List.getElem_cons_zero, List.getElem_cons_succ, Act.put, List.setIfInBounds_toArray, List.set_cons_zero, List.set_cons_succ]
        refine wpAnyH_take (i := 3) (v := ?hv3u9) rfl (by kernel_rfl) (by kernel_rfl) (by kernel_rfl) (fun _ _ _ h => h) (Or.inl ⟨by rfl, ?hy3u9⟩) (by assumption) ?hr3u9
        case hy3u9 => ((intro W hSw; have m16 := (World.cell?_of_block (a := ⟨x1.heap.size, 16, none⟩) hSw).trans z16; have m17 := (World.cell?_of_block (a := ⟨x1.heap.size, 17, none⟩) hSw).trans z17; have m18 := (World.cell?_of_block (a := ⟨x1.heap.size, 18, none⟩) hSw).trans z18; have m19 := (World.cell?_of_block (a := ⟨x1.heap.size, 19, none⟩) hSw).trans z19; go_simp); try with_reducible rfl)
        simp only [List.getElem_toArray, List.getElem_cons_zero, List.getElem_cons_succ, Act.put, List.setIfInBounds_toArray, List.set_cons_zero, List.set_cons_succ]
        refine wpAnyH_take (i := 4) (v := ?hv4u10) rfl (by kernel_rfl) (by kernel_rfl) (by kernel_rfl) (fun _ _ _ h => h) (Or.inl ⟨by rfl, ?hy4u10⟩) (by assumption) ?hr4u10
        case hy4u10 => ((intro W hSw; have m16 := (World.cell?_of_block (a := ⟨x1.heap.size, 16, none⟩) hSw).trans z16; have m17 := (World.cell?_of_block (a := ⟨x1.heap.size, 17, none⟩) hSw).trans z17; have m18 := (World.cell?_of_block (a := ⟨x1.heap.size, 18, none⟩) hSw).trans z18; have m19 := (World.cell?_of_block (a := ⟨x1.heap.size, 19, none⟩) hSw).trans z19; go_simp); try with_reducible rfl)
        simp only [List.getElem_toArray, List.getElem_cons_zero, List.getElem_cons_succ, Act.put, List.setIfInBounds_toArray, List.set_cons_zero, List.set_cons_succ]
        refine wpAnyH_take (i := 5) (v := ?hv5u11) rfl (by kernel_rfl) (by kernel_rfl) (by kernel_rfl) (fun _ _ _ h => h) (Or.inl ⟨by rfl, ?hy5u11⟩) (by assumption) ?hr5u11
        case hy5u11 => ((intro W hSw; have m16 := (World.cell?_of_block (a := ⟨x1.heap.size, 16, none⟩) hSw).trans z16; have m17 := (World.cell?_of_block (a := ⟨x1.heap.size, 17, none⟩) hSw).trans z17; have m18 := (World.cell?_of_block (a := ⟨x1.heap.size, 18, none⟩) hSw).trans z18; have m19 := (World.cell?_of_block (a := ⟨x1.heap.size, 19, none⟩) hSw).trans z19; go_simp); try with_reducible rfl)
        simp only [List.getElem_toArray, List.getElem_cons_zero, List.getElem_cons_succ, Act.put, List.setIfInBounds_toArray, List.set_cons_zero, List.set_cons_succ]
        refine wpAnyH_take (i := 6) (v := ?hv6u12) rfl (by kernel_rfl) (by kernel_rfl) (by kernel_rfl) (fun _ _ _ h => h) (Or.inl ⟨by rfl, ?hy6u12⟩) (by assumption) ?hr6u12
        case hy6u12 => ((intro W hSw; have m16 := (World.cell?_of_block (a := ⟨x1.heap.size, 16, none⟩) hSw).trans z16; have m17 := (World.cell?_of_block (a := ⟨x1.heap.size, 17, none⟩) hSw).trans z17; have m18 := (World.cell?_of_block (a := ⟨x1.heap.size, 18, none⟩) hSw).trans z18; have m19 := (World.cell?_of_block (a := ⟨x1.heap.size, 19, none⟩) hSw).trans z19; go_simp); try with_reducible rfl)
        simp only [List.getElem_toArray, List.getElem_cons_zero, List.getElem_cons_succ, Act.put, List.setIfInBounds_toArray, List.set_cons_zero, List.set_cons_succ]
        refine wpAnyH_take (i := 7) (v := ?hv7u13) rfl (by kernel_rfl) (by kernel_rfl) (by kernel_rfl) (fun _ _ _ h => h) (Or.inl ⟨by rfl, ?hy7u13⟩) (by assumption) ?hr7u13
        case hy7u13 => ((intro W hSw; have m16 := (World.cell?_of_block (a := ⟨x1.heap.size, 16, none⟩) hSw).trans z16; have m17 := (World.cell?_of_block (a := ⟨x1.heap.size, 17, none⟩) hSw).trans z17; have m18 := (World.cell?_of_block (a := ⟨x1.heap.size, 18, none⟩) hSw).trans z18; have m19 := (World.cell?_of_block (a := ⟨x1.heap.size, 19, none⟩) hSw).trans z19; go_simp); try with_reducible rfl)
        simp only [List.getElem_toArray, List.getElem_cons_zero, List.getElem_cons_succ, Act.put, List.setIfInBounds_toArray, List.set_cons_zero, List.set_cons_succ]
        refine wpAnyH_take (i := 8) (v := ?hv8u14) rfl (by kernel_rfl) (by kernel_rfl) (by kernel_rfl) (fun _ _ _ h => h) (Or.inl ⟨by rfl, ?hy8u14⟩) (by assumption) ?hr8u14
        case hy8u14 => ((intro W hSw; have m16 := (World.cell?_of_block (a := ⟨x1.heap.size, 16, none⟩) hSw).trans z16; have m17 := (World.cell?_of_block (a := ⟨x1.heap.size, 17, none⟩) hSw).trans z17; have m18 := (World.cell?_of_block (a := ⟨x1.heap.size, 18, none⟩) hSw).trans z18; have m19 := (World.cell?_of_block (a := ⟨x1.heap.size, 19, none⟩) hSw).trans z19; go_simp); try with_reducible rfl)
        simp only [List.getElem_toArray, List.getElem_cons_zero, List.getElem_cons_succ, Act.put, List.setIfInBounds_toArray, List.set_cons_zero, List.set_cons_succ]
        refine wpAnyH_take (i := 9) (v := ?hv9u15) rfl (by kernel_rfl) (by kernel_rfl) (by kernel_rfl) (fun _ _ _ h => h) (Or.inl ⟨by rfl, ?hy9u15⟩) (by assumption) ?hr9u15
        case hy9u15 => ((intro W hSw; have m16 := (World.cell?_of_block (a := ⟨x1.heap.size, 16, none⟩) hSw).trans z16; have m17 := (World.cell?_of_block (a := ⟨x1.heap.size, 17, none⟩) hSw).trans z17; have m18 := (World.cell?_of_block (a := ⟨x1.heap.size, 18, none⟩) hSw).trans z18; have m19 := (World.cell?_of_block (a := ⟨x1.heap.size, 19, none⟩) hSw).trans z19; go_simp); try with_reducible rfl)
        simp only [List.getElem_toArray, List.getElem_cons_zero, List.getElem_cons_succ, Act.put, List.setIfInBounds_toArray, List.set_cons_zero, List.set_cons_succ]
        refine wpAnyH_ready (rs := [10]) (by kernel_rfl) (by simp) (AllReadyH.cons rfl (fun KK hK => ?_) AllReadyH.nil)
        all_goals dsimp -proj only [List.getElem_toArray, List.getElem_cons_zero, List.getElem_cons_succ]
        have hBd := hBq.later (below_drewNq _ wq 1)
        have hne1 : x1.heap.size ≠ w.heap.size + 2 := by omega
        refine step_store_row rfl 41 _ _ rfl (w.heap.size + 2) _ rfl rfl 41 _ hBd.rb (by kernel_rfl) rfl (by kernel_rfl) ?_
        refine hK.out _ _ (setRow_far _ _ _ _ hne1) (fun hHeld => ?_)
        clear hK KK
        try simp only [Act.put, List.setIfInBounds_toArray, List.set_cons_zero, List.set_cons_succ]
        refine wpAnyH_done (by kernel_rfl) ?_ _
        go_wp2
        refine bodyPost_ret_by (v := .agg #[.int .i64 0, .slice qp n qc, .int .u64 M.dice, .int .u64 M.sent, .slice op M.on oc, .int .i64 (M.used + 1)]) (results_cell_row (p := 4) (ty := 41) rfl _ _ (w.heap.size + 2) 41 _ (0, 0) _ rfl (setRow_heap _ _ _ _ _ _ hBd.rb) Tryz.underlying41 rfl (by kernel_rfl)) rfl ?_
        refine ⟨_, rfl, ?_, setRow_below _ hBd.bel (by omega)⟩
        have h3 := HR.out
        rw [runP_stop H0.out] at h3
        rw [HEE.out, ← h3, if_neg (by show ¬ (0 : Int) ≠ 0; decide)]
        have hw9 := HQ.out.wr
        rw [HWV.out] at hw9
        have ho9 := HQ.out.out
        refine ⟨qp, qc, op, oc, rfl, ((hw9.later (below_drewNq _ wq 1)).far fun k hk => setRow_far _ _ _ _ ?_).lower ?_, ((ho9.later (below_drewNq _ wq 1)).far fun k hk => setRow_far _ _ _ _ ?_).lower ?_⟩
        · have := (hw9.lt _ hk).1
          omega
        · omega
        · have := (ho9.lt _ hk).1
          omega
        · omega
      · have d0 : (P.op i == 0) = false := by simpa using h0
        have H0 : Hid (P.op i ≠ 0) := h0
        clear h0
        go_wp2_with (fail)
        go_quiet (fail)
        generalize hwq : World.drewN wr _ = wq
        have hbq : Below wr.heap.size wr wq := by rw [← hwq]; exact below_drewNq _ _ _
        have hq : RWs w2 wq w2.heap.size x1.heap.size n nl C (usM M) sv lv ov (i : Int) := (h.later hbq).us
        have hBq := hB2.later hq.bel
        have hcw : cb < wr.heap.size := by omega
        have q0 := (cell_below (a := ⟨cb, co + i * 3, none⟩) hbq hcw).trans HX0.out
        have q1 := (cell_below (a := ⟨cb, co + i * 3 + 1, none⟩) hbq hcw).trans HX1.out
        have q2 := (cell_below (a := ⟨cb, co + i * 3 + 2, none⟩) hbq hcw).trans HX2.out
        clear hwq h b0 b1 b2 b3 b4 b5 b6 b7 b8 b9 b10 b11 a0 a1 a2 a3 m22 x0
        have hcb : cb < w2.heap.size := by omega
        have hle64 : M.hi ≤ 64 := by have := HD.out.le64; have := hdj.out; omega
        have e1 : IntKind.i64.wrap (M.used + 1 + 1) = M.used + 1 + 1 := by rw [IntKind.wrap_i64]; omega
        have mes : usedOf (cl.fuel + 1) (some (.int .i64 (M.used + 1 + 1))) < k' + 1 := by show (cl.fuel + 1 - (M.used + 1 + 1)).toNat < k' + 1; have := HKK.out; omega
        by_cases h35 : P.op i = 35
        · rw [h35] at q0
          have H35 : Hid (P.op i = 35) := h35
          clear h35
          have HS := rstep_35 w2 wq w2.heap.size x1.heap.size n nl C (usM M) sv lv ov cl i P.n cb co v.cc HCR.out hq hi hn hcb (P.a i) (P.b i) q0 q1 q2
          clear q0 q1 q2 hq
          go_wp2_with ((go_at_call 49; (with_reducible refine HS.mono ?_); rintro e w5 ⟨rfl, hX5⟩))
          have hj : jmp (P.op i) = true := by rw [H35.out]; rfl
          have ha := g.a i hi hj
          have hRR := HR.out
          rw [runP_jump H35.out] at hRR
          have hL := HSOL.out.jump i hi (by have := hdj.out; omega) hj
          rw [hmes]
          refine ⟨⟨(P.a i).toNat, usM M, k', rfl, by omega, by rw [Int.toNat_of_nonneg ha.1]; exact hX5, hok.us, ?_, ?_, u1, hRR⟩, mes⟩
          · show (M.hi : Int) = _
            rw [hL]
            unfold aft
            rw [H35.out, show pops 35 = 0 from rfl, show pushes 35 = 0 from rfl]
            have := hdj.out
            omega
          · show M.used + 1 + k' = cl.fuel
            have := HKK.out
            omega
        · have H35 : Hid (P.op i ≠ 35) := h35
          clear h35
          by_cases h36 : P.op i = 36
          · have hhi : 1 ≤ M.hi := by
              have := HF.out.1
              rw [h36, show pops 36 = 1 from rfl] at this
              have := hdj.out
              omega
            rw [h36] at q0
            have H36 : Hid (P.op i = 36) := h36
            clear h36
            have hj : jmp (P.op i) = true := by rw [H36.out]; rfl
            have hen : ends (P.op i) = false := by rw [H36.out]; rfl
            have haft : Hid (aft P i (dL P i) = dL P i - 1) := by
              show aft P i (dL P i) = _
              unfold aft
              rw [H36.out, show pops 36 = 1 from rfl, show pushes 36 = 0 from rfl]
              omega
            have HJ : Hid (jmp (P.op i) = true) := hj
            have HE9 : Hid (ends (P.op i) = false) := hen
            have HRR : Hid (runP P cl k' (if topM M = 0 then (P.a i).toNat else i + 1) (popM (usM M)) = R) := by have h3 := HR.out; rw [runP_ifz H36.out] at h3; exact h3
            clear hj hen
            by_cases ht : topM M = 0
            · have HS := rstep_36z w2 wq w2.heap.size x1.heap.size n nl C (usM M) sv lv ov cl i P.n cb co v.cc HCR.out hq hi hn hcb (P.a i) (P.b i) q0 q1 q2 (M.hi - 1) (by show M.hi = _; omega) hle64 ht
              have HT : Hid (topM M = 0) := ht
              clear q0 q1 q2 hq ht
              go_wp2_with ((go_at_call 49; (with_reducible refine HS.mono ?_); rintro e w5 ⟨rfl, hX5⟩))
              have ha := g.a i hi HJ.out
              have hL := HSOL.out.jump i hi (by have := hdj.out; omega) HJ.out
              have h3 := HRR.out
              rw [if_pos HT.out] at h3
              rw [hmes]
              refine ⟨⟨(P.a i).toNat, popM (usM M), k', rfl, by omega, by rw [Int.toNat_of_nonneg ha.1]; exact hX5, hok.us.pop, ?_, ?_, u1, h3⟩, mes⟩
              · show ((M.hi - 1 : Nat) : Int) = _
                rw [hL, haft.out]
                have := hdj.out
                omega
              · show M.used + 1 + k' = cl.fuel
                have := HKK.out
                omega
            · have HS := rstep_36n w2 wq w2.heap.size x1.heap.size n nl C (usM M) sv lv ov cl i P.n cb co v.cc HCR.out hq hi hn hcb (P.a i) (P.b i) q0 q1 q2 (M.hi - 1) (by show M.hi = _; omega) hle64 ht
              have HT : Hid (topM M ≠ 0) := ht
              clear q0 q1 q2 hq ht
              go_wp2_with ((go_at_call 49; (with_reducible refine HS.mono ?_); rintro e w5 ⟨rfl, hX5⟩))
              have hnx := HSOL.out.eq g hnr (.next i _ HD.out hi HF.out HE9.out)
              have h3 := HRR.out
              rw [if_neg HT.out] at h3
              rw [hmes]
              refine ⟨⟨i + 1, popM (usM M), k', rfl, hnx.1, by exact_mod_cast hX5, hok.us.pop, ?_, ?_, u1, h3⟩, mes⟩
              · show ((M.hi - 1 : Nat) : Int) = _
                rw [hnx.2, haft.out]
                have := hdj.out
                omega
              · show M.used + 1 + k' = cl.fuel
                have := HKK.out
                omega
          · have hf1 : pops (P.op i) ≤ M.hi := by have := HF.out.1; have := hdj.out; omega
            have hf2 : (M.hi : Int) - pops (P.op i) + pushes (P.op i) ≤ 64 := by have := HF.out.2; have := hdj.out; omega
            have HDo := rstep_any P hsP w2 wq w2.heap.size x1.heap.size n nl C (usM M) sv lv ov cl i cb co v.cc HCR.out HC.out.ok hok.us HWD.out HNL.out hq hi hcb (P.op i) (P.a i) (P.b i) q0 q1 q2 HIN.out hf1 hf2 hle64 ⟨H0.out, H35.out, h36⟩
            have HN : Hid (P.op i ≠ 0 ∧ P.op i ≠ 35 ∧ P.op i ≠ 36) := ⟨H0.out, H35.out, h36⟩
            have HOP : Hid (0 ≤ P.op i ∧ P.op i < 42) := g.op i hi
            have HF1 : Hid (pops (P.op i) ≤ (M.hi : Int)) := hf1
            clear h36 hf1 hf2 q0 q1 q2 hq
            by_cases hz : doF cl (usM M) (P.op i) (P.a i) (P.b i) = 0
            · have HZ9 : Hid (doF cl (usM M) (P.op i) (P.a i) (P.b i) = 0) := hz
              rw [hz] at HDo
              have H40 : Hid (P.op i ≠ 40) := fun e => by
                have h4 := HZ9.out
                rw [e] at h4
                unfold doF at h4
                rw [if_pos rfl] at h4
                cases h4
              clear hz
              go_wp2_with ((go_at_call 49; (with_reducible refine HDo.mono ?_); rintro e w5 ⟨rfl, r1⟩))
              have m2 := r1.1 rfl
              have hen : ends (P.op i) = false := by
                have h1 := HN.out
                have h2 := H40.out
                unfold ends
                simp [h1.1, h1.2.1, h2]
              have hnx := HSOL.out.eq g hnr (.next i _ HD.out hi HF.out hen)
              have h3 := HR.out
              rw [runP_go HN.out HZ9.out] at h3
              have hhi := doM_hi cl (usM M) (P.op i) (P.a i) (P.b i) HOP.out ⟨HN.out.1, HN.out.2.1, HN.out.2.2, H40.out⟩ HZ9.out HF1.out
              have hus : (doM cl (usM M) (P.op i) (P.a i) (P.b i)).used = M.used + 1 := doM_used cl (usM M) (P.op i) (P.a i) (P.b i)
              rw [hmes]
              refine ⟨⟨i + 1, doM cl (usM M) (P.op i) (P.a i) (P.b i), k', by rw [hus], hnx.1, by exact_mod_cast m2, doM_ok cl HC.out.ok (usM M) hok.us (P.op i) (P.a i) (P.b i) ?_ HZ9.out ?_, ?_, ?_, ?_, h3⟩, mes⟩
              · exact HA.out i hi
              · intro e38
                have h5 := ins_two HIN.out (by rw [e38]; rfl)
                rw [e38, show limI P 38 = 64 from rfl] at h5
                omega
              · rw [hhi, hnx.2]
                unfold aft
                have := hdj.out
                show (M.hi : Int) - _ + _ = _
                omega
              · rw [hus]; have := HKK.out; omega
              · rw [hus]; omega
            · have dz : (doF cl (usM M) (P.op i) (P.a i) (P.b i) == 0) = false := by simpa using hz
              have HZ9 : Hid (doF cl (usM M) (P.op i) (P.a i) (P.b i) ≠ 0) := hz
              have h3 := HR.out
              rw [runP_fault HN.out hz] at h3
              have H3 : Hid ((doF cl (usM M) (P.op i) (P.a i) (P.b i), usM M) = R) := h3
              clear hz h3
              go_wp2_with (first | (go_at_call 49; (with_reducible refine HDo.mono ?_); rintro e w5 ⟨rfl, r1⟩; have hb5 := r1.2 HZ9.out; have hB5 := hB2.later hb5; obtain ⟨⟨b0, b1, b2, b3, b4, b5⟩, b6, b7, b8, b9, b10, b11⟩ := cells12 hB5.cb) | (go_at_call 48; refine (copyStateO p n c K d s w5 HC.out.room (HC.out.words.below hB5.bel)).mono ?_; rintro e w6 ⟨rfl, hO6, hb6⟩; have hB6 := hB5.later hb6; obtain ⟨⟨r0, r1', r2, r3, r4, r5⟩, f0, f1, f2, f3, f4, f5⟩ := cells6' hB6.rb))
              generalize hWF : (World.setCell (World.setCell (World.setCell (World.setCell (World.setCell (World.setCell _ _ _) _ _) _ _) _ _) _ _) _ _) = wF
              obtain ⟨p1, p2, p3⟩ := put6 hB6.rb _ _ _ _ _ _ wF hWF
              have hl6 := hB5.lt
              have hbF := p3 _ _ hB6.bel (by omega)
              obtain ⟨⟨d0', d1, d2, d3, d4, d5⟩, _⟩ := cells6' p1
              refine bodyPost_ret (v := .agg #[.int .i64 (doF cl (usM M) (P.op i) (P.a i) (P.b i)), .slice (some ⟨w5.heap.size + 2, 0, none⟩) n n, .int .u64 d, .int .u64 s, .slice none 0 0, .int .i64 (M.used + 1)]) (by simp [results, Tryz.results18, go_sem, d0', d1, d2, d3, d4, d5]; try rfl) rfl ?_
              refine ⟨_, rfl, ?_, hbF⟩
              rw [HEE.out, ← H3.out, if_pos HZ9.out]
              refine ⟨_, n, none, 0, rfl, (hO6.far fun k hk => p2 k ?_).lower (by omega), Own.nil0⟩
              have := (hO6.lt _ hk).1
              omega
end Go.Proofs.YtciaacckdodhcaaGreat
