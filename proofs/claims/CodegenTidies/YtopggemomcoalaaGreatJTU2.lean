import Derived.Test.YtopggemomcoalaaGreatJTW21
import Derived.Deep.Cut
import Derived.BigQuiet
import Derived.Deep.DeepCutAuto
namespace Go.Proofs.YtopggemomcoalaaGreat
open Go.ChangeShapes Go.WideShapes Go.ChangeAt Go.RowKit
set_option linter.unusedVariables false
set_option linter.unusedSimpArgs false

/-! ### a program's box of the call's own -/
structure PB (Sf : Nat → Prop) (Hf : Nat → Option Obj) (W : World) (base tb : Nat) (P : Pg) (cp ep : Option Addr) (cc ec : Nat) : Prop where
  bx : W.heap[tb]? = some (.cells #[.int .i64 P.words, .int .i64 P.locals, .slice cp P.n cc, .slice ep P.m ec] 25 (0, 0))
  cd : Own W base 36 3 (.slice cp P.n cc) P.n (inC P.op P.a P.b)
  en : Own W base 3 1 (.slice ep P.m ec) P.m (iv P.en)
  lo : base ≤ tb
  fr : ∀ j, Sf j → j < W.heap.size ∧ W.heap[j]? = Hf j
  ft : ¬ Sf tb
  fc : ∀ g o, cp = some ⟨g, o, none⟩ → ¬ Sf g
  fe : ∀ g o, ep = some ⟨g, o, none⟩ → ¬ Sf g
section
variable {Sf : Nat → Prop} {Hf : Nat → Option Obj} {W W' : World} {base tb : Nat} {P : Pg} {cp ep : Option Addr} {cc ec : Nat}
theorem PB.later (h : PB Sf Hf W base tb P cp ep cc ec) (hb : Below W.heap.size W W') : PB Sf Hf W' base tb P cp ep cc ec := ⟨(hb.block _ (ltB h.bx)).trans h.bx, h.cd.later hb, h.en.later hb, h.lo, fr_keep h.fr fun j hj => hb.block j (h.fr j hj).1, h.ft, h.fc, h.fe⟩
theorem PB.cells (h : PB Sf Hf W base tb P cp ep cc ec) : W.cell? ⟨tb, 0, none⟩ = some (.int .i64 P.words) ∧ W.cell? ⟨tb, 1, none⟩ = some (.int .i64 P.locals) ∧ W.cell? ⟨tb, 2, none⟩ = some (.slice cp P.n cc) ∧ W.cell? ⟨tb, 3, none⟩ = some (.slice ep P.m ec) := c4t h.bx
theorem PB.ip (h : PB Sf Hf W base tb P cp ep cc ec) (hn : 0 < P.n) : ∃ g, cp = some ⟨g, 0, none⟩ := by
  rcases h.cd.form with ⟨_, h2⟩ | ⟨g, c, h1, _⟩
  · omega
  · injection h1 with h1; exact ⟨g, h1⟩
theorem PB.ePt (h : PB Sf Hf W base tb P cp ep cc ec) (hn : 0 < P.m) : ∃ g, ep = some ⟨g, 0, none⟩ := by
  rcases h.en.form with ⟨_, h2⟩ | ⟨g, c, h1, _⟩
  · omega
  · injection h1 with h1; exact ⟨g, h1⟩
theorem PB.ins {g : Nat} (h : PB Sf Hf W base tb P (some ⟨g, 0, none⟩) ep cc ec) {k : Nat} (hk : k < P.n) : (W.cell? ⟨g, k * 3, none⟩ = some (.int .i64 (P.op k)) ∧ W.cell? ⟨g, k * 3 + 1, none⟩ = some (.int .i64 (P.a k)) ∧ W.cell? ⟨g, k * 3 + 2, none⟩ = some (.int .i64 (P.b k))) ∧ ∀ i, W.frozen? ⟨g, i, none⟩ = false := own_ins h.cd hk
theorem PB.gb {g : Nat} (h : PB Sf Hf W base tb P (some ⟨g, 0, none⟩) ep cc ec) : base ≤ g ∧ g < W.heap.size ∧ g ≠ tb := ⟨(h.cd.lt g rfl).1, (h.cd.lt g rfl).2, ownA h.cd h.bx (by decide) g rfl⟩
/-- what is written into the code leaves the rest -/
theorem PB.wr {g : Nat} {op a b : Nat → Int} (h : PB Sf Hf W base tb P (some ⟨g, 0, none⟩) ep cc ec) (hk : ∀ k, k ≠ g → W'.heap[k]? = W.heap[k]?) (ho : Own W' base 36 3 (.slice (some ⟨g, 0, none⟩) P.n cc) P.n (inC op a b)) : PB Sf Hf W' base tb { P with op := op, a := a, b := b } (some ⟨g, 0, none⟩) ep cc ec :=
  ⟨(hk tb (fun e => h.gb.2.2 e.symm)).trans h.bx, ho, h.en.far fun k e => hk k fun e2 => ownC h.cd h.en (by decide) rfl (e2 ▸ e), h.lo, fr_keep h.fr fun j hj => hk j fun e => h.fc g 0 rfl (e ▸ hj), h.ft, h.fc, h.fe⟩
theorem PB.setA {g : Nat} (h : PB Sf Hf W base tb P (some ⟨g, 0, none⟩) ep cc ec) (k : Nat) (x : Int) : PB Sf Hf (W.setCell ⟨g, k * 3 + 1, none⟩ (.int .i64 x)) base tb { P with a := updI P.a k x } (some ⟨g, 0, none⟩) ep cc ec := by
  refine h.wr (op := P.op) (b := P.b) (fun j hj => Below.heap_setCell _ _ _ _ hj) ((h.cd.put (k * 3 + 1) [.int .i64 x]).congr fun j hj => ?_)
  unfold putF
  by_cases h1 : k * 3 + 1 ≤ j ∧ j < k * 3 + 1 + 1
  · have e : j = k * 3 + 1 := by omega
    subst e
    rw [if_pos (by simp), inC1, updI_at]
    simp
  · rw [if_neg (by simpa using h1)]
    unfold inC updI
    by_cases h2 : j % 3 = 1
    · rw [if_neg (by omega), if_pos h2, if_neg (by omega), if_pos h2, if_neg (by omega)]
    · by_cases h3 : j % 3 = 0
      · rw [if_pos h3, if_pos h3]
      · rw [if_neg h3, if_neg h2, if_neg h3, if_neg h2]
theorem PB.setO {g : Nat} (h : PB Sf Hf W base tb P (some ⟨g, 0, none⟩) ep cc ec) (k : Nat) (x : Int) : PB Sf Hf (W.setCell ⟨g, k * 3, none⟩ (.int .i64 x)) base tb { P with op := updI P.op k x } (some ⟨g, 0, none⟩) ep cc ec := by
  refine h.wr (a := P.a) (b := P.b) (fun j hj => Below.heap_setCell _ _ _ _ hj) ((h.cd.put (k * 3) [.int .i64 x]).congr fun j hj => ?_)
  unfold putF
  by_cases h1 : k * 3 ≤ j ∧ j < k * 3 + 1
  · have e : j = k * 3 := by omega
    subst e
    rw [if_pos (by simp), inC0, updI_at]
    simp
  · rw [if_neg (by simpa using h1)]
    unfold inC updI
    by_cases h3 : j % 3 = 0
    · rw [if_pos h3, if_pos h3, if_neg (by omega)]
    · rw [if_neg h3, if_neg h3]
theorem PB.setI {g : Nat} (h : PB Sf Hf W base tb P (some ⟨g, 0, none⟩) ep cc ec) (k : Nat) (o a b : Int) : PB Sf Hf (W.setCells g (k * 3) [.int .i64 o, .int .i64 a, .int .i64 b]) base tb (Go.Proofs.YtopggemomcoalaaGreat.setI P k o a b) (some ⟨g, 0, none⟩) ep cc ec := by
  refine h.wr (fun j hj => setCells_other g _ _ _ j hj) ((h.cd.put (k * 3) [.int .i64 o, .int .i64 a, .int .i64 b]).congr fun j hj => ?_)
  unfold putF
  by_cases h1 : k * 3 ≤ j ∧ j < k * 3 + 3
  · rw [if_pos (by simpa using h1)]
    have hj3 : j = k * 3 ∨ j = k * 3 + 1 ∨ j = k * 3 + 2 := by omega
    rcases hj3 with rfl | rfl | rfl
    · rw [inC0]; rw [if_pos rfl]; simp
    · rw [inC1]; rw [if_pos rfl]; simp
    · rw [inC2]; rw [if_pos rfl]; simp
  · rw [if_neg (by simpa using h1)]
    have hne : j / 3 ≠ k := by omega
    unfold inC
    dsimp only
    rw [if_neg hne, if_neg hne, if_neg hne]
theorem PB.setE {g : Nat} (h : PB Sf Hf W base tb P cp (some ⟨g, 0, none⟩) cc ec) (k : Nat) (x : Int) : PB Sf Hf (W.setCell ⟨g, k, none⟩ (.int .i64 x)) base tb { P with en := updI P.en k x } cp (some ⟨g, 0, none⟩) cc ec := by
  refine ⟨(Below.heap_setCell _ _ _ _ fun e => ownA h.en h.bx (by decide) g rfl e.symm).trans h.bx, h.cd.far fun j e => Below.heap_setCell _ _ _ _ fun e2 => ownC h.cd h.en (by decide) e (e2 ▸ rfl), (h.en.put k [.int .i64 x]).congr fun j hj => ?_, h.lo, fr_keep h.fr fun j hj => Below.heap_setCell _ _ _ _ fun e => h.fe g 0 rfl (show Sf (Addr.block ⟨g, k, none⟩) from e ▸ hj), h.ft, h.fc, h.fe⟩
  unfold putF iv updI
  by_cases h1 : k ≤ j ∧ j < k + 1
  · have e : j = k := by omega
    subst e
    rw [if_pos (by simp)]
    dsimp only
    rw [if_pos rfl]
    simp
  · rw [if_neg (by simpa using h1)]
    dsimp only
    rw [if_neg (by omega)]
theorem PB.same {W : World} {Q : Pg} (h : PB Sf Hf W base tb P cp ep cc ec) (he : PEq P Q) : PB Sf Hf W base tb Q cp ep cc ec := by
  obtain ⟨e1, e2, e3, e4, e5, e6, e7, e8⟩ := he
  obtain ⟨h1, h2, h3, h4, h5, h6, h7, h8⟩ := h
  refine ⟨by rw [← e1, ← e2, ← e3, ← e4]; exact h1, ?_, ?_, h4, h5, h6, h7, h8⟩
  · rw [← e3]
    refine h2.congr fun j hj => ?_
    unfold inC
    rw [e5 _ (by omega), e6 _ (by omega), e7 _ (by omega)]
  · rw [← e4]
    exact h3.eqv fun j hj => e8 j (by omega)
end

/-! ### CopyProgram, its rows own -/
theorem own_iptU {W : World} {b n c : Nat} {q : Option Addr} {F : Nat → Value} {t : TypeId} {s : Nat} (h : Own W b t s (.slice q n c) n F) (hn : 0 < n) : ∃ g, q = some ⟨g, 0, none⟩ := by
  rcases h.form with ⟨_, h2⟩ | ⟨g, c', h1, _⟩
  · omega
  · injection h1 with h1; exact ⟨g, h1⟩
theorem kat_ptU {W : World} {n : Nat} {q : Option Addr} {K : Nat → Int} (h : KAt W q n K) (hn : 0 < n) : ∃ g o, q = some ⟨g, o, none⟩ := by
  rcases h with h | ⟨g, o, h1, _⟩
  · omega
  · exact ⟨g, o, h1⟩
theorem kat_atU {W : World} {n g o : Nat} {K : Nat → Int} (h : KAt W (some ⟨g, o, none⟩) n K) {k : Nat} (hk : k < n) : W.cell? ⟨g, o + k, none⟩ = some (.int .i64 (K k)) := by
  rcases h with h | ⟨g', o', h1, _, h3⟩
  · omega
  · injection h1 with h1
    injection h1 with h1 h2
    subst h1; subst h2
    exact h3 k hk
set_option maxRecDepth 100000 in
set_option maxHeartbeats 4000000 in
theorem copyProgram_own (P : Pg) (v : PgV) (w : World) (h : PAt w P v) (hs : roomyP P) :
    Calls Tryz.prog 7 #[.agg #[.int .i64 P.words, .int .i64 P.locals, .slice v.cp P.n v.cc, .slice v.ep P.m v.ec]] w fun e w' => ∃ (lp lq : Option Addr) (lc lx : Nat), e = .returned (.agg #[.int .i64 P.words, .int .i64 P.locals, .slice lp P.n lc, .slice lq P.m lx]) ∧ Own w' w.heap.size 36 3 (.slice lp P.n lc) P.n (inC P.op P.a P.b) ∧ Own w' w.heap.size 3 1 (.slice lq P.m lx) P.m (iv P.en) ∧ Below w.heap.size w w' := by
  obtain ⟨hs1, hs2⟩ := hs
  obtain ⟨i5, hi5, ha5, hb5, hc5⟩ := info_parts infoIns
  have hsz : (Tryz.prog.info? 36).map (·.size) = some 3 := by simp [hi5, hb5]
  obtain ⟨wp, hwp⟩ : ∃ wp, (w.alloc (.cells #[.int .i64 P.words, .int .i64 P.locals, .slice v.cp P.n v.cc, .slice v.ep P.m v.ec] 25)).alloc (.cells #[.int .i64 0, .int .i64 0, .slice none 0 0, .slice none 0 0] 25) = wp := ⟨_, rfl⟩
  have hbp : Below w.heap.size w wp := by rw [← hwp]; exact ((Below.refl _ w).alloc (Nat.le_refl _) _).alloc (by simp) _
  have hbox : wp.heap[w.heap.size]? = some (.cells #[.int .i64 P.words, .int .i64 P.locals, .slice v.cp P.n v.cc, .slice v.ep P.m v.ec] 25 (0, 0)) := by
    rw [← hwp, Below.heap_alloc _ _ _ (by simp)]
    exact World.alloc_heap_new w _
  have hres : wp.heap[w.heap.size + 1]? = some (.cells #[.int .i64 0, .int .i64 0, .slice none 0 0, .slice none 0 0] 25 (0, 0)) := by
    rw [← hwp]
    have := World.alloc_heap_new (w.alloc (.cells #[.int .i64 P.words, .int .i64 P.locals, .slice v.cp P.n v.cc, .slice v.ep P.m v.ec] 25)) (.cells #[.int .i64 0, .int .i64 0, .slice none 0 0, .slice none 0 0] 25)
    rwa [World.size_alloc] at this
  have hszp : wp.heap.size = w.heap.size + 2 := by rw [← hwp]; simp
  have HB : Hid ((w.alloc (.cells #[.int .i64 P.words, .int .i64 P.locals, .slice v.cp P.n v.cc, .slice v.ep P.m v.ec] 25)).alloc (.cells #[.int .i64 0, .int .i64 0, .slice none 0 0, .slice none 0 0] 25) = wp) := hwp
  obtain ⟨p0, p1, p2, p3⟩ := cells4 hbox
  have hI := h.1.below hbp
  clear hwp
  go_enter Tryz.func7, Tryz.ntmps7
  go_wp2_with (at_make; rw [HB.out]; refine wpList_make_full _ rfl (.tmp 6) (.tmp 6) 22 rfl wp.heap.size 36 i5 _ 3 Tryz.underlying22 hi5 ha5 hb5 .i64 .i64 P.n P.n P.n rfl rfl rfl rfl ?c1 ?c2 ?c3 ?_)
  case c1 => rw [hc5]; omega
  case c2 => unfold maxLen; omega
  case c3 => exact Nat.le_refl _
  intro w1 hown hgrow
  have hb1 : Below wp.heap.size wp w1 := (Below.refl _ _).grown hgrow (Nat.le_refl _) (by simp)
  have hI1 := hI.below hb1
  rw [hszp] at hb1
  obtain ⟨F1, hO1⟩ : ∃ F1, Own w1 (w.heap.size + 2) 36 3 (.slice (some ⟨(w.heap.size + 2), 0, none⟩) P.n P.n) P.n F1 := ⟨_, own_of hown⟩
  have hsrc : P.n = 0 ∨ ∃ ad, v.cp = some ad ∧ ∀ j, j < P.n * 3 → w1.cell? (ad.add j) = some (inC P.op P.a P.b j) := by
    rcases hI1 with h0 | ⟨g, o, e, _, hc⟩
    · exact .inl h0
    · exact .inr ⟨_, e, fun j hj => by rw [addr_add0]; exact IAt.cellsAt hc j hj⟩
  obtain ⟨q0, q1, q2, q3⟩ := cells4 ((hb1.block _ (by omega)).trans hbox)
  have HO1 : Hid (Own w1 (w.heap.size + 2) 36 3 (.slice (some ⟨(w.heap.size + 2), 0, none⟩) P.n P.n) P.n F1) := hO1
  have HSRC : Hid (P.n = 0 ∨ ∃ ad, v.cp = some ad ∧ ∀ j, j < P.n * 3 → w1.cell? (ad.add j) = some (inC P.op P.a P.b j)) := hsrc
  clear hown hgrow hO1 hsrc p0 p1 p2 p3
  go_wp2_with (refine wpList_copy_head rfl (.tmp 8) (.tmp 10) 22 22 rfl 36 3 Tryz.underlying22 hsz (w.heap.size + 2) (w.heap.size + 2) P.n P.n P.n v.cc v.cp rfl rfl (Nat.le_refl _) F1 (inC P.op P.a P.b) HO1.out (fun j _ => inC_one _ _ _ j) HSRC.out (w.heap.size + 2) wp hb1 (Nat.le_refl _) ?_; intro w2 h2 hb2; have hbx2 := (hb2.block _ (by omega)).trans hbox; obtain ⟨r0, r1, r2, r3⟩ := cells4 hbx2; have rf := frz hbx2)
  obtain ⟨wA, hwA⟩ : ∃ wA, w2.setCell ⟨w.heap.size, 2, none⟩ (.slice (some ⟨w.heap.size + 2, 0, none⟩) P.n P.n) = wA := ⟨_, rfl⟩
  rw [hwA]
  have hboxA : wA.heap[w.heap.size]? = some (.cells #[.int .i64 P.words, .int .i64 P.locals, .slice (some ⟨w.heap.size + 2, 0, none⟩) P.n P.n, .slice v.ep P.m v.ec] 25 (0, 0)) := by rw [← hwA, setCell_block _ _ _ _ hbx2]; rfl
  have hresA : wA.heap[w.heap.size + 1]? = some (.cells #[.int .i64 0, .int .i64 0, .slice none 0 0, .slice none 0 0] 25 (0, 0)) := by
    rw [← hwA, Below.heap_setCell _ _ _ _ (by show w.heap.size + 1 ≠ w.heap.size; omega)]
    exact (hb2.block _ (by omega)).trans hres
  have hO2 : Own wA (w.heap.size + 2) 36 3 (.slice (some ⟨w.heap.size + 2, 0, none⟩) P.n P.n) P.n (inC P.op P.a P.b) := by
    refine (h2.out.congr fun j hj => ?_).far (W' := wA) fun k hk => ?_
    · rw [if_pos hj]
    · cases hk
      rw [← hwA]
      exact Below.heap_setCell _ _ _ _ (by show w.heap.size + 2 ≠ w.heap.size; omega)
  have hbA : Below w.heap.size w wA := by
    rw [← hwA]
    exact (hbp.trans (hb2.mono (by omega))).setCell (p := ⟨w.heap.size, 2, none⟩) (Nat.le_refl _) _
  have hltA : w.heap.size + 2 < wA.heap.size := by
    obtain ⟨cur, k1, _⟩ := hO2.block
    exact (Array.getElem?_eq_some_iff.1 k1).1
  have HCI := copyInts_any v.ep P.m v.ec P.en wA hs2 (h.2.below hbA)
  clear hwA h2 hb2 hbx2 r0 r1 r2 r3 rf hres hbox q0 q1 q2 q3 hI hI1 hb1 HSRC HO1 HB h
  refine HCI.mono ?_
  rintro e w4 ⟨rfl, z1, z2, z3⟩
  obtain ⟨eb, heb⟩ : ∃ eb, wA.heap.size = eb := ⟨_, rfl⟩
  rw [heb] at z1 ⊢
  have hbox4 := (z2.block _ (by omega)).trans hboxA
  have hres4 := (z2.block _ (by omega)).trans hresA
  have hb4 := hbA.trans (z2.mono hbA.size)
  have hO4 : Own w4 (w.heap.size + 2) 36 3 (.slice (some ⟨w.heap.size + 2, 0, none⟩) P.n P.n) P.n (inC P.op P.a P.b) := hO2.far fun k hk => by cases hk; exact z2.block _ hltA
  obtain ⟨r0, r1, r2, r3⟩ := cells4 hbox4
  have rf := frz hbox4
  have rf3 := rf 3
  obtain ⟨s0, s1, s2, s3⟩ := cells4 hres4
  have sf := frz hres4
  have sf0 := sf 0
  have sf1 := sf 1
  have sf2 := sf 2
  have sf3 := sf 3
  clear HCI hO2 hresA hboxA z2 rf sf
  go_wp2
  generalize hWF : (World.setCell (World.setCell (World.setCell (World.setCell _ _ _) _ _) _ _) _ _) = wF
  have hwF : wF = ((((w4.setCell ⟨w.heap.size, 3, none⟩ (.slice (some ⟨eb, 0, none⟩) P.m P.m)).setCell ⟨w.heap.size + 1, 0, none⟩ (.int .i64 P.words)).setCell ⟨w.heap.size + 1, 1, none⟩ (.int .i64 P.locals)).setCell ⟨w.heap.size + 1, 2, none⟩ (.slice (some ⟨w.heap.size + 2, 0, none⟩) P.n P.n)).setCell ⟨w.heap.size + 1, 3, none⟩ (.slice (some ⟨eb, 0, none⟩) P.m P.m) := hWF.symm
  clear hWF
  have hF : wF.heap[w.heap.size + 1]? = some (.cells #[.int .i64 P.words, .int .i64 P.locals, .slice (some ⟨w.heap.size + 2, 0, none⟩) P.n P.n, .slice (some ⟨eb, 0, none⟩) P.m P.m] 25 (0, 0)) := by
    have h0 : (w4.setCell ⟨w.heap.size, 3, none⟩ (.slice (some ⟨eb, 0, none⟩) P.m P.m)).heap[w.heap.size + 1]? = some (.cells #[.int .i64 0, .int .i64 0, .slice none 0 0, .slice none 0 0] 25 (0, 0)) := (Below.heap_setCell _ _ _ _ (by show w.heap.size + 1 ≠ w.heap.size; omega)).trans hres4
    rw [hwF, setCell_block _ _ _ _ (setCell_block _ _ _ _ (setCell_block _ _ _ _ (setCell_block _ _ _ _ h0)))]
    rfl
  have far : ∀ k, k ≠ w.heap.size → k ≠ w.heap.size + 1 → wF.heap[k]? = w4.heap[k]? := fun k h1 h2 => by
    rw [hwF, Below.heap_setCell _ _ _ _ h2, Below.heap_setCell _ _ _ _ h2, Below.heap_setCell _ _ _ _ h2, Below.heap_setCell _ _ _ _ h2, Below.heap_setCell _ _ _ _ h1]
  have hbF : Below w.heap.size w wF := by
    rw [hwF]
    exact ((((hb4.setCell (p := ⟨w.heap.size, 3, none⟩) (Nat.le_refl _) _).setCell (p := ⟨w.heap.size + 1, 0, none⟩) (Nat.le_succ _) _).setCell (p := ⟨w.heap.size + 1, 1, none⟩) (Nat.le_succ _) _).setCell (p := ⟨w.heap.size + 1, 2, none⟩) (Nat.le_succ _) _).setCell (p := ⟨w.heap.size + 1, 3, none⟩) (Nat.le_succ _) _
  obtain ⟨d0, d1, d2, d3⟩ := cells4 hF
  have hszF : wF.heap.size = w4.heap.size := by rw [hwF]; simp [World.setCell]
  have hsz4 : eb < w4.heap.size := (Array.getElem?_eq_some_iff.1 z1).1
  refine bodyPost_ret (v := .agg #[.int .i64 P.words, .int .i64 P.locals, .slice (some ⟨w.heap.size + 2, 0, none⟩) P.n P.n, .slice (some ⟨eb, 0, none⟩) P.m P.m]) (by simp [results, Tryz.results7, go_sem, d0, d1, d2, d3]; try rfl) rfl ?_
  refine ⟨some ⟨w.heap.size + 2, 0, none⟩, some ⟨eb, 0, none⟩, P.n, P.m, rfl, (hO4.far fun k hk => ?_).low (by omega), ?_, hbF⟩
  · have hk' : k = w.heap.size + 2 := by simpa [Value.ownBlock] using hk.symm
    exact far _ (by omega) (by omega)
  · have hz := (far eb (by omega) (by omega)).trans z1
    refine Own.mk' (cur := (intsL P.en P.m).toArray) hz (by simp [intsL_len]) (Nat.le_refl _) (by unfold maxLen; omega) (by omega) fun j hj => ?_
    have := intsL_get (K := P.en) (show j < P.m by omega)
    simpa [iv] using this

end Go.Proofs.YtopggemomcoalaaGreat
namespace Go.Proofs.YtopggemomcoalaaGreat
open Go.ChangeShapes Go.WideShapes Go.ChangeAt Go.RowKit
set_option linter.unusedVariables false
set_option linter.unusedSimpArgs false

/-! ### the document's leads, endOf -/
set_option maxRecDepth 100000 in
theorem rleads_any (o a b : Int) (w : World) : Calls Tryz.prog 55 #[.agg #[.int .i64 o, .int .i64 a, .int .i64 b]] w fun e w' => e = .returned (.bool (jmp o)) ∧ Below w.heap.size w w' := by
  have hb0 : Below w.heap.size w (w.alloc (.cells #[.int .i64 o, .int .i64 a, .int .i64 b] 36)) := (Below.refl _ w).alloc (Nat.le_refl _) _
  unfold jmp
  cases h1 : (o == 35) with
  | true =>
    go_enter Tryz.func55, Tryz.ntmps55
    go_wp2
    go_ret
    exact ⟨rfl, hb0⟩
  | false =>
    cases h2 : (o == 36) with
    | true =>
      go_enter Tryz.func55, Tryz.ntmps55
      go_wp2
      go_ret
      exact ⟨rfl, hb0⟩
    | false =>
      go_enter Tryz.func55, Tryz.ntmps55
      go_wp2
      go_ret
      exact ⟨rfl, hb0⟩
theorem jit_succ (P : Pg) : ∀ k x, jit P (k + 1) x = jst P (jit P k x)
  | 0, x => rfl
  | k + 1, x => jit_succ P k (jst P x)
theorem jit_end {P : Pg} (g : Gd P) {x i : Nat} (hx : x < P.n) (hi : i ≤ P.n) (h : P.op (jit P i x) ≠ 35) : endP P x = jit P i x := by
  have e := jit_short g hx h P.n (Nat.le_refl _)
  unfold endP
  rw [e, if_neg h]
set_option maxRecDepth 100000 in
set_option maxHeartbeats 8000000 in
theorem endOf_any {P : Pg} (g : Gd P) (hn : P.n ≤ 4096) (q : Option Addr) (c x : Nat) (hx : x < P.n) (w : World) (hI : IAt w q P.n P.op P.a P.b) :
    Calls Tryz.prog 56 #[.slice q P.n c, .int .i64 (x : Int)] w fun e w' => e = .returned (.int .i64 ((endP P x : Nat) : Int)) ∧ Below w.heap.size w w' := by
  obtain ⟨gb, o, hq⟩ := iat_pt hI (by omega)
  subst hq
  have H0 := tmh (And.intro g (And.intro hI hx))
  clear g hI
  go_enter Tryz.func56, Tryz.ntmps56
  go_wp2_with fail
  go_loopw [5, 6] (fun y x5 wr => ∃ i : Nat, y = .int .i64 ((jit P i x : Nat) : Int) ∧ x5 = .int .i64 (i : Int) ∧ i ≤ P.n + 1 ∧ (∀ j, j < i → P.op (jit P j x) = 35) ∧ Below w.heap.size w wr) (fun _ x5 _ => P.n + 1 - (intOf x5).toNat)
  case atStart => exact ⟨0, rfl, rfl, Nat.zero_le _, fun j hj => absurd hj (Nat.not_lt_zero _), Below.refl _ _⟩
  case round =>
    obtain ⟨i, rfl, rfl, hi, hj, hbr⟩ := hrel
    have hlt := jit_lt H0.out.1 i H0.out.2.2
    obtain ⟨x0, x1, x2⟩ := iat_at (H0.out.2.1.below hbr) hlt
    by_cases h9 : i ≤ P.n
    · have d1 : decide ((i : Int) ≤ (P.n : Int)) = true := by simp; omega
      have d2 : decide (i ≤ P.n) = true := by simp; omega
      have hst := jit_succ P i x
      have hend := fun h => jit_end H0.out.1 H0.out.2.2 h9 h
      generalize hu : jit P i x = u at *
      have i0 : (0 : Int) ≤ (u : Int) := by omega
      have i1 : (u : Int) < (P.n : Int) := by omega
      have ek : IntKind.i64.wrap ((i : Int) + 1) = ((i + 1 : Nat) : Int) := by rw [IntKind.wrap_i64]; omega
      have hm : P.n + 1 - (i + 1) < P.n + 1 - i := by omega
      rcases (by cases (P.op u == 35) <;> simp : (P.op u == 35) = true ∨ (P.op u == 35) = false) with h1 | h1
      · have h35 : P.op u = 35 := by simpa using h1
        have h2 : (P.op u != 35) = false := by simp [bne, h1]
        have hA := H0.out.1.a _ hlt (by rw [h35]; rfl)
        obtain ⟨A, hA2⟩ : ∃ A : Nat, P.a u = (A : Int) := ⟨(P.a u).toNat, by omega⟩
        rw [hA2] at x1
        have e3 : jit P (i + 1) x = A := by
          rw [hst]
          unfold jst
          rw [if_pos h35, hA2]; rfl
        have HR := tmh (And.intro e3 (And.intro hbr (And.intro (show i + 1 ≤ P.n + 1 by omega) (show ∀ j, j < i + 1 → P.op (jit P j x) = 35 from fun j h8 => by
          rcases Nat.lt_or_eq_of_le (Nat.le_of_lt_succ h8) with h7 | rfl
          · exact hj j h7
          · rw [hu]; exact h35))))
        have HM := tmh hm
        clear hst hu hA hA2 e3 hbr hi h35 hm h9 hlt hj hend
        go_wp2_with fail
        exact ⟨⟨i + 1, by rw [HR.out.1], rfl, HR.out.2.2.1, HR.out.2.2.2, HR.out.2.1⟩, HM.out⟩
      · have h35 : P.op u ≠ 35 := by simpa using h1
        have h2 : (P.op u != 35) = true := by simp [bne, h1]
        have he := hend h35
        have HE := tmh (And.intro he hbr)
        clear hst hu hbr hi h35 hm h9 hlt hj hend he
        go_wp2_with fail
        go_ret
        exact ⟨by rw [HE.out.1]; rfl, HE.out.2⟩
    · have d1 : decide ((i : Int) ≤ (P.n : Int)) = false := by simp; omega
      have d2 : decide (i ≤ P.n) = false := by simp; omega
      have he : endP P x = x := if_pos (hj P.n (by omega))
      have HE := tmh he
      clear x0 x1 x2 hi h9 hj he
      go_wp2_with fail
      go_ret
      exact ⟨by rw [HE.out]; rfl, hbr⟩
/-! ### stops -/
theorem stpN_op {Q : Pg} (C : ∀ i, i < Q.n → jmp (Q.op i) = true → Q.op (Q.a i).toNat = 35 → Q.op (Q.a (Q.a i).toNat).toNat = 35) : ∀ k, k ≤ Q.n → (∀ t, k ≤ t → (stpN Q k).op t = Q.op t ∧ (stpN Q k).a t = Q.a t ∧ (stpN Q k).b t = Q.b t) ∧ ∀ t, (stpN Q k).op t = Q.op t ∨ (Q.op t = 35 ∧ Q.op (Q.a t).toNat = 0)
  | 0, _ => ⟨fun _ _ => ⟨rfl, rfl, rfl⟩, fun _ => .inl rfl⟩
  | k + 1, hk => by
    obtain ⟨h1, h2⟩ := stpN_op C k (by omega)
    have e : stpN Q (k + 1) = stp1 (stpN Q k) k := rfl
    obtain ⟨a1, a2, a3⟩ := h1 k (Nat.le_refl _)
    by_cases hc : (stpN Q k).op k = 35 ∧ (stpN Q k).op ((stpN Q k).a k).toNat = 0
    · have e2 : stp1 (stpN Q k) k = setI (stpN Q k) k 0 0 0 := if_pos hc
      rw [e, e2]
      refine ⟨fun t ht => ?_, fun t => ?_⟩
      · rw [setI_op, setI_a, setI_b, if_neg (by omega), if_neg (by omega), if_neg (by omega)]
        exact h1 t (by omega)
      · rw [setI_op]
        by_cases ht : t = k
        · subst ht
          right
          have h35 : Q.op t = 35 := a1.symm.trans hc.1
          refine ⟨h35, ?_⟩
          have h0 := hc.2
          rw [a2] at h0
          rcases h2 (Q.a t).toNat with h9 | ⟨h9, h8⟩
          · rw [← h9]; exact h0
          · have := C t (by omega) (by rw [h35]; rfl) h9
            rw [h8] at this
            cases this
        · rw [if_neg ht]; exact h2 t
    · have e2 : stp1 (stpN Q k) k = stpN Q k := if_neg hc
      rw [e, e2]
      exact ⟨fun t ht => h1 t (by omega), h2⟩
theorem stpN_cond {Q : Pg} (C : ∀ i, i < Q.n → jmp (Q.op i) = true → Q.op (Q.a i).toNat = 35 → Q.op (Q.a (Q.a i).toNat).toNat = 35) {k : Nat} (hk : k < Q.n) (h35 : Q.op k = 35) : stpN Q (k + 1) = if Q.op (Q.a k).toNat = 0 then setI (stpN Q k) k 0 0 0 else stpN Q k := by
  obtain ⟨h1, h2⟩ := stpN_op C k (by omega)
  obtain ⟨a1, a2, a3⟩ := h1 k (Nat.le_refl _)
  show stp1 (stpN Q k) k = _
  unfold stp1
  have hi : (stpN Q k).op (Q.a k).toNat = 0 ↔ Q.op (Q.a k).toNat = 0 := by
    rcases h2 (Q.a k).toNat with h9 | ⟨h9, h8⟩
    · rw [h9]
    · have := C k hk (by rw [h35]; rfl) h9
      rw [h8] at this
      cases this
  rw [a1, a2]
  by_cases h0 : Q.op (Q.a k).toNat = 0
  · rw [if_pos h0, if_pos ⟨h35, hi.2 h0⟩]
  · rw [if_neg h0, if_neg (fun h => h0 (hi.1 h.2))]
theorem stpN_no {Q : Pg} (C : ∀ i, i < Q.n → jmp (Q.op i) = true → Q.op (Q.a i).toNat = 35 → Q.op (Q.a (Q.a i).toNat).toNat = 35) {k : Nat} (hk : k < Q.n) (h35 : Q.op k ≠ 35) : stpN Q (k + 1) = stpN Q k := by
  obtain ⟨h1, h2⟩ := stpN_op C k (by omega)
  obtain ⟨a1, a2, a3⟩ := h1 k (Nat.le_refl _)
  show stp1 (stpN Q k) k = _
  exact if_neg (fun h => h35 (a1.symm.trans h.1))
theorem lead_C {P : Pg} {L : Nat → Int} (v : Vf P L) : ∀ i, i < (leadP P (endP P)).n → jmp ((leadP P (endP P)).op i) = true → (leadP P (endP P)).op ((leadP P (endP P)).a i).toNat = 35 → (leadP P (endP P)).op ((leadP P (endP P)).a ((leadP P (endP P)).a i).toNat).toNat = 35 := fun i hi hj h35 => by
  have h := tdy_circ (lead_gd v) (lead_idem v.gd) hi hj h35 1
  have e : jit (leadP P (endP P)) 1 ((leadP P (endP P)).a i).toNat = ((leadP P (endP P)).a ((leadP P (endP P)).a i).toNat).toNat := if_pos h35
  rw [e] at h
  exact h
end Go.Proofs.YtopggemomcoalaaGreat
namespace Go.Proofs.YtopggemomcoalaaGreat
open Go.ChangeShapes Go.WideShapes Go.ChangeAt Go.RowKit
set_option linter.unusedVariables false
set_option linter.unusedSimpArgs false

/-! ### the document's shortcuts -/
def NoS : Nat → Prop := fun _ => False
def NoH : Nat → Option Obj := fun _ => none
theorem pb_new {w w' : World} {base : Nat} {P : Pg} {lp lq : Option Addr} {lc lx : Nat} (h1 : Own w base 36 3 (.slice lp P.n lc) P.n (inC P.op P.a P.b)) (h2 : Own w base 3 1 (.slice lq P.m lx) P.m (iv P.en)) (hb : base ≤ w.heap.size) (e : w.alloc (.cells #[.int .i64 P.words, .int .i64 P.locals, .slice lp P.n lc, .slice lq P.m lx] 25) = w') : PB NoS NoH w' base w.heap.size P lp lq lc lx ∧ Below w.heap.size w w' := by
  obtain ⟨b1, b2, b3⟩ := boxed _ _ _ e
  exact ⟨⟨b2, h1.later b1, h2.later b1, hb, fun j hj => hj.elim, fun hj => hj, fun _ _ _ hj => hj, fun _ _ _ hj => hj⟩, b1⟩
/-- what a step answers: a program in rows of its own -/
def OwnP (W W' : World) (e : Ending) (Q : Pg) : Prop := ∃ (lp lq : Option Addr) (lc lx : Nat), e = .returned (.agg #[.int .i64 Q.words, .int .i64 Q.locals, .slice lp Q.n lc, .slice lq Q.m lx]) ∧ Own W' W.heap.size 36 3 (.slice lp Q.n lc) Q.n (inC Q.op Q.a Q.b) ∧ Own W' W.heap.size 3 1 (.slice lq Q.m lx) Q.m (iv Q.en) ∧ Below W.heap.size W W'
theorem rT_end {W wa wr wF : World} {tb : Nat} {Q : Pg} {lp lq : Option Addr} {lc lx : Nat} {z0 z1 z2 z3 : Value} (hW : Below W.heap.size W wa) (hs : wa.heap.size = W.heap.size + 2) (hT : PB NoS NoH wr wa.heap.size tb Q lp lq lc lx) (hbr : Below wa.heap.size wa wr) (hr : wr.heap[W.heap.size + 1]? = some (.cells #[z0, z1, z2, z3] 25 (0, 0)))
    (e : (((wr.setCell ⟨W.heap.size + 1, 0, none⟩ (.int .i64 Q.words)).setCell ⟨W.heap.size + 1, 1, none⟩ (.int .i64 Q.locals)).setCell ⟨W.heap.size + 1, 2, none⟩ (.slice lp Q.n lc)).setCell ⟨W.heap.size + 1, 3, none⟩ (.slice lq Q.m lx) = wF) :
    wF.heap[W.heap.size + 1]? = some (.cells #[.int .i64 Q.words, .int .i64 Q.locals, .slice lp Q.n lc, .slice lq Q.m lx] 25 (0, 0)) ∧ Own wF W.heap.size 36 3 (.slice lp Q.n lc) Q.n (inC Q.op Q.a Q.b) ∧ Own wF W.heap.size 3 1 (.slice lq Q.m lx) Q.m (iv Q.en) ∧ Below W.heap.size W wF := by
  have hfa : ∀ k9, W.heap.size + 1 < k9 → wF.heap[k9]? = wr.heap[k9]? := fun k9 h9 => by
    rw [← e]
    exact far4 k9 (by omega)
  refine ⟨e ▸ put4 hr _ _ _ _, (hT.cd.far fun k9 h9 => hfa k9 (by have := (hT.cd.lt k9 h9).1; omega)).low (by omega), (hT.en.far fun k9 h9 => hfa k9 (by have := (hT.en.lt k9 h9).1; omega)).low (by omega), ?_⟩
  rw [← e]
  exact ((((hW.trans (hbr.mono hW.size)).setCell (p := ⟨W.heap.size + 1, 0, none⟩) (Nat.le_succ _) _).setCell (p := ⟨W.heap.size + 1, 1, none⟩) (Nat.le_succ _) _).setCell (p := ⟨W.heap.size + 1, 2, none⟩) (Nat.le_succ _) _).setCell (p := ⟨W.heap.size + 1, 3, none⟩) (Nat.le_succ _) _
set_option maxRecDepth 100000 in
set_option maxHeartbeats 16000000 in
theorem shortcuts_any {P : Pg} {L : Nat → Int} (v : Vf P L) (cp ep : Option Addr) (cc ec : Nat) (W : World) (hI : IAt W cp P.n P.op P.a P.b) (hE : KAt W ep P.m P.en) :
    Calls Tryz.prog 30 #[.agg #[.int .i64 P.words, .int .i64 P.locals, .slice cp P.n cc, .slice ep P.m ec]] W fun e W' => OwnP W W' e (shP P) := by
  have hsz := v.sz
  have hn := hsz.2.2.1
  have hm32 := hsz.2.2.2
  obtain ⟨wp, hwp⟩ : ∃ wp, W.alloc (.cells #[.int .i64 P.words, .int .i64 P.locals, .slice cp P.n cc, .slice ep P.m ec] 25) = wp := ⟨_, rfl⟩
  obtain ⟨hbp, hpx, hpz⟩ := boxed _ _ _ hwp
  obtain ⟨wa, hwa⟩ : ∃ wa, wp.alloc (.cells #[.int .i64 0, .int .i64 0, .slice none 0 0, .slice none 0 0] 25) = wa := ⟨_, rfl⟩
  obtain ⟨hba, hrx, haz⟩ := boxed _ _ _ hwa
  rw [hpz] at hrx
  have hWa : Below W.heap.size W wa := hbp.trans (hba.mono hbp.size)
  have hpb := (hba.block W.heap.size (by omega)).trans hpx
  have HC := copyProgram_own P ⟨cp, cc, ep, ec⟩ wa ⟨hI.below hWa, hE.below hWa⟩ ⟨by omega, by omega⟩
  dsimp only at HC
  have HW := tmh (And.intro hwp hwa)
  have H0 := tmh (And.intro v (And.intro hpb (And.intro hrx (And.intro hWa (And.intro (show wa.heap.size = W.heap.size + 2 by omega) (hI.below hWa))))))
  have HE := tmh (hE.below hWa)
  obtain ⟨y0, y1, y2, y3⟩ := cells4 hpb
  clear hwp hbp hpx hpz hwa hba hrx haz hWa hpb hI hE v hsz
  go_enter Tryz.func30, Tryz.ntmps30
  go_upto_region 1 with fail
  rw [HW.out.1, HW.out.2]
  go_upto_region 2 with (go_at_call 7; (with_reducible refine HC.mono ?_); rintro e w1 ⟨lp, lq, lc, lx, rfl, o1, o2, b1⟩)
  obtain ⟨wq, hwq⟩ : ∃ wq, w1.alloc (.cells #[.int .i64 P.words, .int .i64 P.locals, .slice lp P.n lc, .slice lq P.m lx] 25) = wq := ⟨_, rfl⟩
  obtain ⟨hpq, hbq⟩ := pb_new o1 o2 b1.size hwq
  rw [hwq]
  obtain ⟨tb, htb⟩ : ∃ tb, tb = w1.heap.size := ⟨_, rfl⟩
  rw [← htb] at hpq ⊢
  have hbw : Below wa.heap.size wa wq := b1.trans (hbq.mono b1.size)
  have H1 := tmh (And.intro hpq (And.intro hbw (show wa.heap.size ≤ tb by rw [htb]; exact b1.size)))
  obtain ⟨p0, p1, p2, p3⟩ := cells4 ((hbw.block _ (show W.heap.size < wa.heap.size by have := H0.out.2.2.2.2.1; omega)).trans H0.out.2.1)
  clear hwq hpq hbq hbw o1 o2 b1 HC y0 y1 y2 y3 htb
  have hlt0 : W.heap.size < wa.heap.size := by have := H0.out.2.2.2.2.1; omega
  have HL0 := tmh hlt0
  clear hlt0
  go_wp2_with fail
  clear p0 p1 p2 p3
  go_loopw [15] (fun x wr => ∃ k : Nat, x = .int .i64 (k : Int) ∧ k ≤ P.n ∧ PB NoS NoH wr wa.heap.size tb (leadK P (endP P) k 0) lp lq lc lx ∧ Below wa.heap.size wa wr) (fun x _ => P.n - (intOf x).toNat)
  case atStart => exact ⟨0, rfl, Nat.zero_le _, by rw [leadK_zero]; exact H1.out.1, H1.out.2.1⟩
  case round =>
    obtain ⟨k, rfl, hk, hT, hbr⟩ := hrel
    obtain ⟨p0, p1, p2, p3⟩ := cells4 ((hbr.block _ HL0.out).trans H0.out.2.1)
    by_cases hlt : k < P.n
    · have d1 : decide ((k : Int) < (P.n : Int)) = true := by simp; omega
      have d2 : decide (k < P.n) = true := by simp; omega
      have i0 : (0 : Int) ≤ (k : Int) := by omega
      have i1 : (k : Int) < (P.n : Int) := by omega
      have ek : IntKind.i64.wrap ((k : Int) + 1) = ((k + 1 : Nat) : Int) := by rw [IntKind.wrap_i64]; omega
      have hm := meas0 hlt
      obtain ⟨gp, op, hgp⟩ := iat_pt H0.out.2.2.2.2.2 (by omega)
      subst hgp
      obtain ⟨g, hg⟩ := hT.ip (by show 0 < P.n; omega)
      subst hg
      have hgr := hT.gb
      have hIr := H0.out.2.2.2.2.2.below hbr
      obtain ⟨x0, x1, x2⟩ := iat_at hIr hlt
      obtain ⟨w8, hw8⟩ : ∃ w8, wr.alloc (.cells #[.int .i64 (P.op k), .int .i64 (P.a k), .int .i64 (P.b k)] 36) = w8 := ⟨_, rfl⟩
      obtain ⟨hb8, hx8, hz8⟩ := boxed _ _ _ hw8
      have HW8 := tmh hw8
      have hba : Below wa.heap.size wa w8 := hbr.trans (hb8.mono hbr.size)
      have H8 := tmh (And.intro (hT.later hb8) (And.intro hba (And.intro hx8 (show wr.heap.size < w8.heap.size by omega))))
      have HJ := rleads_any (P.op k) (P.a k) (P.b k) w8
      obtain ⟨c0, c1, c2⟩ : w8.cell? ⟨wr.heap.size, 0, none⟩ = some (.int .i64 (P.op k)) ∧ w8.cell? ⟨wr.heap.size, 1, none⟩ = some (.int .i64 (P.a k)) ∧ w8.cell? ⟨wr.heap.size, 2, none⟩ = some (.int .i64 (P.b k)) := ⟨cellT hx8 rfl, cellT hx8 rfl, cellT hx8 rfl⟩
      have HWR := tmh hbr.size
      clear hw8 hb8 hx8 hz8 hT hbr hba hk hIr
      go_upto_region 5 with fail
      rw [HW8.out]
      clear x0 x1 x2 HW8
      cases hj : jmp (P.op k) with
      | false =>
        rw [hj] at HJ
        go_wp2_with (go_at_call 55; (with_reducible refine HJ.mono ?_); rintro e w9 ⟨rfl, b9⟩)
        exact ⟨⟨k + 1, rfl, hlt, by rw [leadK_skip hj]; exact H8.out.1.later b9, H8.out.2.1.trans (b9.mono H8.out.2.1.size)⟩, hm⟩
      | true =>
        rw [hj] at HJ
        obtain ⟨A, hA, hAn⟩ : ∃ A : Nat, P.a k = (A : Int) ∧ A < P.n := by
          have := H0.out.1.gd.a k hlt hj
          exact ⟨(P.a k).toNat, by omega, by omega⟩
        have HA := tmh hA
        clear hA
        go_upto_region 6 with (go_at_call 55; (with_reducible refine HJ.mono ?_); rintro e w9 ⟨rfl, b9⟩; have HB9 := tmh b9; clear b9)
        have hT9 := H8.out.1.later HB9.out
        have hb9 : Below wa.heap.size wa w9 := H8.out.2.1.trans (HB9.out.mono H8.out.2.1.size)
        have hI9 := H0.out.2.2.2.2.2.below hb9
        have HEnd : Hid (∀ w, Below w9.heap.size w9 w → Calls Tryz.prog 56 #[.slice (some ⟨gp, op, none⟩) P.n cc, .int .i64 (A : Int)] w fun e w' => e = .returned (.int .i64 ((endP P A : Nat) : Int)) ∧ Below w.heap.size w w') := tmh fun w hw => endOf_any H0.out.1.gd hn _ cc A hAn w (hI9.below hw)
        have hp9 := (hb9.block _ HL0.out).trans H0.out.2.1
        have hx9 := (HB9.out.block _ H8.out.2.2.2).trans H8.out.2.2.1
        rw [HA.out] at hx9
        have s0 : w9.cell? ⟨tb, 2, none⟩ = some (.slice (some ⟨g, 0, none⟩) P.n lc) := hT9.cells.2.2.1
        have s1 : w9.cell? ⟨W.heap.size, 2, none⟩ = some (.slice (some ⟨gp, op, none⟩) P.n cc) := cellT hp9 rfl
        have s2 : w9.cell? ⟨wr.heap.size, 1, none⟩ = some (.int .i64 (A : Int)) := cellT hx9 rfl
        have hgb := hT9.gb
        have hgw : g ≠ wr.heap.size := by have := hgr.2.1; omega
        have HGB := tmh hgr
        have n1 : tb ≠ g := fun e => hgb.2.2 e.symm
        have n2 : g ≠ tb := hgb.2.2
        have n3 : W.heap.size ≠ g := by have := HL0.out; omega
        have n4 : g ≠ W.heap.size := fun e => n3 e.symm
        have n5 : wr.heap.size ≠ g := fun e => hgw e.symm
        have HS9 := tmh (And.intro hT9 (And.intro hb9 (And.intro hp9 hx9)))
        have HD := tmh (And.intro HA.out (And.intro hj hlt))
        clear hT9 hb9 hI9 hp9 hx9 hgb hgr hj hAn p0 p1 p2 p3 c0 c1 c2 HJ
        go_region_held3 (fun w' => w'.cell? ⟨tb, 2, none⟩ = some (.slice (some ⟨g, 0, none⟩) P.n lc) ∧ w'.cell? ⟨W.heap.size, 2, none⟩ = some (.slice (some ⟨gp, op, none⟩) P.n cc) ∧ w'.cell? ⟨wr.heap.size, 1, none⟩ = some (.int .i64 (A : Int))) (first | exact ⟨s0, s1, s2⟩ | with_reducible exact KP | go_keep) ((go_at_call 56; (with_reducible refine (HEnd.out _ ?_).mono ?_); (first | exact Below.refl _ _ | exact (Below.refl _ _).drew); rintro e w10 ⟨rfl, b10⟩; have hb10 : Below w9.heap.size w9 w10 := (below_drewNq _ w9 1).trans (b10.mono (Nat.le_refl _)); have hT10 := HS9.out.1.later hb10; have KP : (fun w' => w'.cell? ⟨tb, 2, none⟩ = some (.slice (some ⟨g, 0, none⟩) P.n lc) ∧ w'.cell? ⟨W.heap.size, 2, none⟩ = some (.slice (some ⟨gp, op, none⟩) P.n cc) ∧ w'.cell? ⟨wr.heap.size, 1, none⟩ = some (.int .i64 (A : Int))) w10 := ⟨hT10.cells.2.2.1, cellT ((hb10.block _ (lt_of_block HS9.out.2.2.1)).trans HS9.out.2.2.1) rfl, cellT ((hb10.block _ (lt_of_block HS9.out.2.2.2)).trans HS9.out.2.2.2) rfl⟩; obtain ⟨⟨g0, g1, g2⟩, gf⟩ := hT10.ins (k := k) HD.out.2.2; have gf1 := gf (k * 3 + 1)))
        have hTA := PB.setA (P := leadK P (endP P) k 0) hT10 k ((endP P A : Nat) : Int)
        have e1 : { leadK P (endP P) k 0 with a := updI (leadK P (endP P) k 0).a k ((endP P A : Nat) : Int) } = leadK P (endP P) (k + 1) 0 := by
          have := leadK_step (P := P) (t := endP P) (k := k) (j := 0) HD.out.2.1
          rw [HD.out.1, Int.toNat_natCast] at this
          exact this
        rw [e1] at hTA
        have hbA : Below wa.heap.size wa (w10.setCell ⟨g, k * 3 + 1, none⟩ (.int .i64 ((endP P A : Nat) : Int))) := (HS9.out.2.1.trans (hb10.mono HS9.out.2.1.size)).setCell (p := ⟨g, k * 3 + 1, none⟩) HGB.out.1 _
        have HF := tmh (And.intro hTA hbA)
        clear hTA hbA e1 hT10 hb10 b10 g0 g1 g2 gf gf1 KP s0 s1 s2
        go_wp2_with fail
        exact ⟨⟨k + 1, rfl, hlt, HF.out.1, HF.out.2⟩, hm⟩
    · have d1 : decide ((k : Int) < (P.n : Int)) = false := by simp; omega
      have d2 : decide (k < P.n) = false := by simp; omega
      obtain rfl : k = P.n := by omega
      have H2 := tmh (And.intro hT hbr)
      clear hT hbr hk hlt
      go_wp2_with fail
      clear p0 p1 p2 p3
      go_loopw [36] (fun x wr => ∃ k : Nat, x = .int .i64 (k : Int) ∧ k ≤ P.m ∧ PB NoS NoH wr wa.heap.size tb (leadK P (endP P) P.n k) lp lq lc lx ∧ Below wa.heap.size wa wr) (fun x _ => P.m - (intOf x).toNat)
      case atStart => exact ⟨0, rfl, Nat.zero_le _, H2.out.1, H2.out.2⟩
      case round =>
        obtain ⟨k, rfl, hk, hT, hbr⟩ := hrel
        by_cases hlt : k < P.m
        · have d1 : decide ((k : Int) < (P.m : Int)) = true := by simp; omega
          have d2 : decide (k < P.m) = true := by simp; omega
          have i0 : (0 : Int) ≤ (k : Int) := by omega
          have i1 : (k : Int) < (P.m : Int) := by omega
          have ek : IntKind.i64.wrap ((k : Int) + 1) = ((k + 1 : Nat) : Int) := by rw [IntKind.wrap_i64]; omega
          have hm := meas0 hlt
          obtain ⟨ge, oe, hge⟩ := kat_ptU HE.out (by omega)
          subst hge
          obtain ⟨g, hg⟩ := hT.ePt (by show 0 < P.m; omega)
          subst hg
          have x0 : wr.cell? ⟨ge, oe + k, none⟩ = some (.int .i64 (P.en k)) := kat_atU (HE.out.below hbr) hlt
          have hp9 := (hbr.block _ HL0.out).trans H0.out.2.1
          have hv := H0.out.1.en k hlt
          rcases (by cases decide (0 ≤ P.en k) <;> simp : decide (0 ≤ P.en k) = true ∨ decide (0 ≤ P.en k) = false) with e0 | e0
          · obtain ⟨A, hA, hAn⟩ : ∃ A : Nat, P.en k = (A : Int) ∧ A < P.n := by
              have := of_decide_eq_true e0
              exact ⟨(P.en k).toNat, by omega, by omega⟩
            have hEnd : Hid (∀ w, Below wr.heap.size wr w → Calls Tryz.prog 56 #[.slice cp P.n cc, .int .i64 (A : Int)] w fun e w' => e = .returned (.int .i64 ((endP P A : Nat) : Int)) ∧ Below w.heap.size w w') := tmh fun w hw => endOf_any H0.out.1.gd hn _ cc A hAn w ((H0.out.2.2.2.2.2.below hbr).below hw)
            have s0 : wr.cell? ⟨tb, 3, none⟩ = some (.slice (some ⟨g, 0, none⟩) P.m lx) := hT.cells.2.2.2
            have s1 : wr.cell? ⟨W.heap.size, 2, none⟩ = some (.slice cp P.n cc) := cellT hp9 rfl
            have hgb := hT.en.lt g rfl
            have hgt : g ≠ tb := ownA hT.en hT.bx (by decide) g rfl
            have n1 : tb ≠ g := fun e => hgt e.symm
            have n3 : W.heap.size ≠ g := by have := HL0.out; omega
            have n4 : g ≠ W.heap.size := fun e => n3 e.symm
            have HS9 := tmh (And.intro hT (And.intro hbr (And.intro hp9 (And.intro hgb.1 hA))))
            rw [hA] at x0 e0
            have h0 : P.en k ≠ -1 := by rw [hA]; omega
            have HNE := tmh h0
            have HKL := tmh hlt
            clear hT hbr hp9 hv hgb hA hk h0 hAn
            go_upto_region 12 with fail
            go_region_held3 (fun w' => w'.cell? ⟨tb, 3, none⟩ = some (.slice (some ⟨g, 0, none⟩) P.m lx) ∧ w'.cell? ⟨W.heap.size, 2, none⟩ = some (.slice cp P.n cc)) (first | exact ⟨s0, s1⟩ | with_reducible exact KP | go_keep) ((go_at_call 56; (with_reducible refine (hEnd.out _ ?_).mono ?_); (first | exact Below.refl _ _ | exact (Below.refl _ _).drew); rintro e w10 ⟨rfl, b10⟩; have hb10 : Below wr.heap.size wr w10 := (below_drewNq _ wr 1).trans (b10.mono (Nat.le_refl _)); have hT10 := HS9.out.1.later hb10; have KP : (fun w' => w'.cell? ⟨tb, 3, none⟩ = some (.slice (some ⟨g, 0, none⟩) P.m lx) ∧ w'.cell? ⟨W.heap.size, 2, none⟩ = some (.slice cp P.n cc)) w10 := ⟨hT10.cells.2.2.2, cellT ((hb10.block _ (lt_of_block HS9.out.2.2.1)).trans HS9.out.2.2.1) rfl⟩; obtain ⟨cur, hcur, _⟩ := Own.block hT10.en; have f0 := frz hcur k; have g0 := hT10.en.cell (j := k) (by show k < P.m * 1; have := HKL.out; omega)))
            have hTA := PB.setE (P := leadK P (endP P) P.n k) hT10 k ((endP P A : Nat) : Int)
            have e1 : { leadK P (endP P) P.n k with en := updI (leadK P (endP P) P.n k).en k ((endP P A : Nat) : Int) } = leadK P (endP P) P.n (k + 1) := by
              have := leadK_ent (P := P) (t := endP P) (k := P.n) (j := k) HNE.out
              rw [HS9.out.2.2.2.2, Int.toNat_natCast] at this
              exact this
            rw [e1] at hTA
            have hbA : Below wa.heap.size wa (w10.setCell ⟨g, k, none⟩ (.int .i64 ((endP P A : Nat) : Int))) := (HS9.out.2.1.trans (hb10.mono HS9.out.2.1.size)).setCell (p := ⟨g, k, none⟩) HS9.out.2.2.2.1 _
            have HF := tmh (And.intro hTA hbA)
            clear hTA hbA e1 hT10 hb10 b10 g0 f0 hcur KP s0 s1
            go_wp2_with fail
            exact ⟨⟨k + 1, rfl, hlt, HF.out.1, HF.out.2⟩, hm⟩
          · have h0 : P.en k = -1 := by have := of_decide_eq_false e0; omega
            have HF := tmh (And.intro hT (And.intro hbr (leadK_eskip (P := P) (t := endP P) (k := P.n) (j := k) h0)))
            clear hT hbr hp9 hv hk h0
            go_wp2_with fail
            exact ⟨⟨k + 1, rfl, hlt, by rw [HF.out.2.2]; exact HF.out.1, HF.out.2.1⟩, hm⟩
        · have d1 : decide ((k : Int) < (P.m : Int)) = false := by simp; omega
          have d2 : decide (k < P.m) = false := by simp; omega
          obtain rfl : k = P.m := by omega
          have hT := hT.same leadK_all
          have H3 := tmh (And.intro hT hbr)
          have q2 : wr.cell? ⟨tb, 2, none⟩ = some (.slice lp P.n lc) := hT.cells.2.2.1
          clear hT hbr hk hlt
          go_wp2_with fail
          clear q2
          go_loopw [55] (fun x wr => ∃ k : Nat, x = .int .i64 (k : Int) ∧ k ≤ P.n ∧ PB NoS NoH wr wa.heap.size tb (stpN (leadP P (endP P)) k) lp lq lc lx ∧ Below wa.heap.size wa wr) (fun x _ => P.n - (intOf x).toNat)
          case atStart => exact ⟨0, rfl, Nat.zero_le _, H3.out.1, H3.out.2⟩
          case round =>
            obtain ⟨k, rfl, hk, hT, hbr⟩ := hrel
            obtain ⟨sn, sm, sw, sl, se⟩ := stpN_n (leadP P (endP P)) k
            obtain ⟨sop, sa, sb⟩ := (stpN_op (lead_C H0.out.1) k hk).1 k (Nat.le_refl _)
            have sn : (stpN (leadP P (endP P)) k).n = P.n := sn
            by_cases hlt : k < P.n
            · have d1 : decide ((k : Int) < (P.n : Int)) = true := by simp; omega
              have d2 : decide (k < P.n) = true := by simp; omega
              have i0 : (0 : Int) ≤ (k : Int) := by omega
              have i1 : (k : Int) < (P.n : Int) := by omega
              have ek : IntKind.i64.wrap ((k : Int) + 1) = ((k + 1 : Nat) : Int) := by rw [IntKind.wrap_i64]; omega
              have hm := meas0 hlt
              have hst1 := stpN_cond (lead_C H0.out.1) (k := k) hlt
              have hst2 := stpN_no (lead_C H0.out.1) (k := k) hlt
              have sop : (stpN (leadP P (endP P)) k).op k = P.op k := sop
              have hla := (lead_gd H0.out.1).gd.a k hlt
              have hlt2 : k < (stpN (leadP P (endP P)) k).n := by rw [sn]; exact hlt
              have hopP : ∀ t, (leadP P (endP P)).op t = P.op t := fun _ => rfl
              rw [hopP] at hst1 hst2 hla
              obtain ⟨lak, hlak⟩ : ∃ x, (leadP P (endP P)).a k = x := ⟨_, rfl⟩
              rw [hlak] at hst1 hla sa
              have HST := tmh (And.intro hst1 (And.intro hst2 hla))
              clear hst1 hst2 hla hlak hopP
              generalize stpN (leadP P (endP P)) k = S at hT sn sm sw sl se sop sa sb hlt2 HST
              obtain ⟨g, hg⟩ := hT.ip (by omega)
              subst hg
              obtain ⟨⟨x0, x1, x2⟩, hfz⟩ := hT.ins (k := k) hlt2
              rw [sop] at x0
              rw [sa] at x1
              obtain ⟨gp, op, hgp⟩ := iat_pt H0.out.2.2.2.2.2 (by omega)
              subst hgp
              obtain ⟨w8, hw8⟩ : ∃ w8, wr.alloc (.cells #[.int .i64 (P.op k), .int .i64 lak, .int .i64 (S.b k)] 36) = w8 := ⟨_, rfl⟩
              obtain ⟨hb8, hx8, hz8⟩ := boxed _ _ _ hw8
              have HW8 := tmh hw8
              have hba : Below wa.heap.size wa w8 := hbr.trans (hb8.mono hbr.size)
              have hT8 := hT.later hb8
              have q2 : w8.cell? ⟨tb, 2, none⟩ = some (.slice (some ⟨g, 0, none⟩) P.n lc) := by have := hT8.cells.2.2.1; rw [sn] at this; exact this
              have p2 : w8.cell? ⟨W.heap.size, 2, none⟩ = some (.slice (some ⟨gp, op, none⟩) P.n cc) := cellT ((hba.block _ HL0.out).trans H0.out.2.1) rfl
              have c0 : w8.cell? ⟨wr.heap.size, 0, none⟩ = some (.int .i64 (P.op k)) := cellT hx8 rfl
              have c1 : w8.cell? ⟨wr.heap.size, 1, none⟩ = some (.int .i64 lak) := cellT hx8 rfl
              obtain ⟨⟨u0, u1, u2⟩, hfz⟩ := hT8.ins (k := k) hlt2
              have f0 := hfz (k * 3)
              have f1 := hfz (k * 3 + 1)
              have f2 := hfz (k * 3 + 2)
              have hI8 := H0.out.2.2.2.2.2.below hba
              have H8 := tmh (And.intro hT8 hba)
              have HI8 := tmh hI8
              have y2 : wr.cell? ⟨tb, 2, none⟩ = some (.slice (some ⟨g, 0, none⟩) P.n lc) := by have := hT.cells.2.2.1; rw [sn] at this; exact this
              clear hw8 hb8 hx8 hz8 hT hbr hba hk hT8 hfz hI8 sn sm sw sl se sop sa sb
              go_upto_region 17 with fail
              rw [HW8.out]
              clear x0 x1 x2 HW8 y2
              cases h1 : (P.op k == 35) with
              | false =>
                have e9 : stpN (leadP P (endP P)) (k + 1) = S := HST.out.2.1 (by simpa using h1)
                have HE9 := tmh e9
                clear e9
                go_wp2_with fail
                exact ⟨⟨k + 1, rfl, hlt, by rw [HE9.out]; exact H8.out.1, H8.out.2⟩, hm⟩
              | true =>
                have h35 : P.op k = 35 := by simpa using h1
                have hla := HST.out.2.2 (by rw [h35]; rfl)
                have hla2 : lak < P.n := hla.2
                obtain ⟨A, hA⟩ : ∃ A : Nat, lak = (A : Int) := ⟨lak.toNat, by omega⟩
                subst hA
                have hAn : A < P.n := by omega
                have hst := HST.out.1 h35
                rw [Int.toNat_natCast] at hst
                obtain ⟨v0, v1, v2⟩ := iat_at HI8.out hAn
                have j0 : (0 : Int) ≤ (A : Int) := by omega
                have j1 : (A : Int) < (P.n : Int) := by omega
                have HH := tmh hst
                clear h35 hla hla2 hst v1 v2
                cases h2 : (P.op A == 0) with
                | false =>
                  have e9 : stpN (leadP P (endP P)) (k + 1) = S := HH.out.trans (if_neg (by show ¬ P.op A = 0; simpa using h2))
                  have HE9 := tmh e9
                  clear e9
                  go_wp2_with fail
                  exact ⟨⟨k + 1, rfl, hlt, by rw [HE9.out]; exact H8.out.1, H8.out.2⟩, hm⟩
                | true =>
                  have e9 : stpN (leadP P (endP P)) (k + 1) = setI S k 0 0 0 := HH.out.trans (if_pos (by show P.op A = 0; simpa using h2))
                  have HE9 := tmh e9
                  clear e9
                  go_wp2_with fail
                  have hTS := H8.out.1.setI k 0 0 0
                  have hb7 : Below wa.heap.size wa (((w8.setCell ⟨g, k * 3, none⟩ (.int .i64 0)).setCell ⟨g, k * 3 + 1, none⟩ (.int .i64 0)).setCell ⟨g, k * 3 + 2, none⟩ (.int .i64 0)) := ((H8.out.2.setCell (p := ⟨g, k * 3, none⟩) H8.out.1.gb.1 _).setCell (p := ⟨g, k * 3 + 1, none⟩) H8.out.1.gb.1 _).setCell (p := ⟨g, k * 3 + 2, none⟩) H8.out.1.gb.1 _
                  exact ⟨⟨k + 1, rfl, hlt, by rw [HE9.out]; exact hTS, hb7⟩, hm⟩
            · have d1 : decide ((k : Int) < (P.n : Int)) = false := by simp; omega
              have d2 : decide (k < P.n) = false := by simp; omega
              obtain rfl : k = P.n := by omega
              have hT2 : PB NoS NoH wr wa.heap.size tb (shP P) lp lq lc lx := hT
              clear hT
              have hT := hT2
              clear hT2 sn sm sw sl se sop sa sb hk hlt
              obtain ⟨q0, q1, q2, q3⟩ := hT.cells
              have hr2 := (hbr.block _ (show W.heap.size + 1 < wa.heap.size by have := H0.out.2.2.2.2.1; omega)).trans H0.out.2.2.1
              have hfr := fun k9 => frz hr2 k9
              obtain ⟨z0, z1, z2, z3⟩ := cells4 hr2
              have hnt : tb ≠ W.heap.size + 1 := by have := hT.lo; have := H0.out.2.2.2.2.1; omega
              have HX := tmh (And.intro hT (And.intro hbr hr2))
              clear hT hbr hr2
              generalize hQ : shP P = Q at q0 q1 q2 q3 HX
              have HQ := tmh hQ
              clear hQ
              go_wp2_with fail
              generalize hWF : World.setCell (World.setCell (World.setCell (World.setCell wr _ _) _ _) _ _) _ _ = wF
              obtain ⟨hres, o1, o2, hbF⟩ := rT_end H0.out.2.2.2.1 H0.out.2.2.2.2.1 HX.out.1 HX.out.2.1 HX.out.2.2 hWF
              clear hWF z0 z1 z2 z3 hfr q0 q1 q2 q3
              obtain ⟨z0, z1, z2, z3⟩ := cells4 hres
              refine bodyPost_ret (v := .agg #[.int .i64 Q.words, .int .i64 Q.locals, .slice lp Q.n lc, .slice lq Q.m lx]) (by simp [results, Tryz.results30, go_sem, z0, z1, z2, z3]; try rfl) rfl ?_
              rw [HQ.out]
              exact ⟨lp, lq, lc, lx, rfl, o1, o2, hbF⟩
end Go.Proofs.YtopggemomcoalaaGreat
