import Derived.Test.YtopggemomcoalaaGreatJTU13
namespace Go.Proofs.YtopggemomcoalaaGreat
open Go.ChangeShapes Go.WideShapes Go.ChangeAt Go.RowKit
set_option linter.unusedVariables false
set_option linter.unusedSimpArgs false

/-! ### what is handed out is spoilt -/
def spC (P : Pg) (k : Nat) : Pg := { P with op := fun i => if i < k then -5 else P.op i, a := fun i => if i < k then (i : Int) else P.a i, b := fun i => if i < k then 0 else P.b i }
def spE (P : Pg) (k : Nat) : Pg := { P with en := fun i => if i < k then -100 - (i : Int) else P.en i }
def spW (P : Pg) : Pg := { P with words := -1 }
def spF (P : Pg) : Pg := spW (spE (spC P P.n) P.m)
def spI (P : Pg) (i : Nat) : Pg := if i = 0 then P else spF P
theorem spC_zero (P : Pg) : spC P 0 = P := by
  unfold spC
  have e : ∀ (f g : Nat → Int), (fun i => if i < 0 then f i else g i) = g := fun f g => funext fun i => if_neg (by omega)
  rw [e, e (fun i => (i : Int)), e]
theorem spE_zero (P : Pg) : spE P 0 = P := by
  unfold spE
  have e : ∀ (f g : Nat → Int), (fun i => if i < 0 then f i else g i) = g := fun f g => funext fun i => if_neg (by omega)
  rw [e (fun i => -100 - (i : Int))]
theorem spC_step (P : Pg) (k : Nat) : setI (spC P k) k (-5) (k : Int) 0 = spC P (k + 1) := by
  unfold setI spC
  dsimp only
  have e : ∀ (f g : Nat → Int), (fun i => if i = k then f k else if i < k then f i else g i) = fun i => if i < k + 1 then f i else g i := fun f g => funext fun i => by
    by_cases h1 : i = k
    · subst h1; rw [if_pos rfl, if_pos (by omega)]
    · by_cases h2 : i < k
      · rw [if_neg h1, if_pos h2, if_pos (by omega)]
      · rw [if_neg h1, if_neg h2, if_neg (by omega)]
  rw [e (fun _ => -5) P.op, e (fun i => (i : Int)) P.a, e (fun _ => 0) P.b]
theorem spE_step (P : Pg) (k : Nat) : { spE P k with en := updI (spE P k).en k (-100 - (k : Int)) } = spE P (k + 1) := by
  unfold spE updI
  dsimp only
  have e : (fun i => if i = k then -100 - (k : Int) else if i < k then -100 - (i : Int) else P.en i) = fun i => if i < k + 1 then -100 - (i : Int) else P.en i := funext fun i => by
    by_cases h1 : i = k
    · subst h1; rw [if_pos rfl, if_pos (by omega)]
    · by_cases h2 : i < k
      · rw [if_neg h1, if_pos h2, if_pos (by omega)]
      · rw [if_neg h1, if_neg h2, if_neg (by omega)]
  rw [e]
section
variable {Sf : Nat → Prop} {Hf : Nat → Option Obj} {W : World} {base tb : Nat} {P : Pg} {cp ep : Option Addr} {cc ec : Nat}
theorem PB.setW (h : PB Sf Hf W base tb P cp ep cc ec) (x : Int) : PB Sf Hf (W.setCell ⟨tb, 0, none⟩ (.int .i64 x)) base tb { P with words := x } cp ep cc ec := by
  have hf : ∀ j, j ≠ tb → (W.setCell ⟨tb, 0, none⟩ (.int .i64 x)).heap[j]? = W.heap[j]? := fun j hj => Below.heap_setCell _ _ _ _ hj
  refine ⟨by rw [setCell_block _ _ _ _ h.bx]; rfl, h.cd.far fun j e => hf j fun e2 => ownA h.cd h.bx (by decide) j e e2, h.en.far fun j e => hf j fun e2 => ownA h.en h.bx (by decide) j e e2, h.lo, fr_keep h.fr fun j hj => hf j fun e => h.ft (e ▸ hj), h.ft, h.fc, h.fe⟩
end
theorem own_of_rowU {W : World} {base : Nat} {t : TypeId} {s m : Nat} {v : Value} {xs : List Value} (h : W.ownsRow base t s v m xs) : Own W base t s v m (fun j => xs.getD j undef) := by
  unfold Own
  rw [← h.1, ← cellsF_of]
  exact h
theorem zInt64_one (n : Nat) : ∀ u ∈ (Builtin.zeroCells (Value.int .i64 0).cells n).toList, u.oneCell' = true := fun u hu => by
  unfold Builtin.zeroCells at hu
  rw [Array.toList_map, Array.toList_range] at hu
  obtain ⟨x, _, rfl⟩ := List.mem_map.1 hu
  have h6 : (Value.int .i64 0).cells.size = 1 := rfl
  rw [h6, Nat.mod_one]
  rfl
theorem own_app {w' : World} {base n k s : Nat} {t : TypeId} {v' : Value} {F : Nat → Value} {zs : List Value} (h : w'.ownsRow base t s v' (n + k) (cellsF F (n * s) ++ zs)) (hk : 0 < k) : ∃ (gc cc : Nat) (FC : Nat → Value), v' = .slice (some ⟨gc, 0, none⟩) (n + k) cc ∧ Own w' base t s (.slice (some ⟨gc, 0, none⟩) (n + k) cc) (n + k) FC ∧ ∀ j, j < n * s → FC j = F j := by
  have ho := own_of_rowU h
  rcases ho.form with ⟨_, h2⟩ | ⟨g, c, h1, _, _⟩
  · omega
  · subst h1
    refine ⟨g, c, _, rfl, ho, fun j hj => ?_⟩
    rw [List.getD_eq_getElem?_getD, List.getElem?_append_left (by rw [cellsF_len]; exact hj), cellsF_at F hj]
    rfl
section
variable {Sf : Nat → Prop} {Hf : Nat → Option Obj} {W : World} {base r : Nat} {R : Pg} {lp lq : Option Addr} {lc lx : Nat}
/-- a program's code grown by 64 -/
theorem pb_appC (h : PB Sf Hf W base r R lp lq lc lx) (hn : R.n ≤ 4096) (hB : base ≤ W.heap.size) : ∃ (gc cc : Nat) (FC : Nat → Value) (w' : World), (Builtin.append_ #[22, 3] 22 #[.slice lp R.n lc, .int .i64 64]).run Tryz.prog W = .ok (.slice (some ⟨gc, 0, none⟩) (R.n + 64) cc) w' ∧ PB Sf Hf w' base r R lp lq lc lx ∧ Own w' base 36 3 (.slice (some ⟨gc, 0, none⟩) (R.n + 64) cc) (R.n + 64) FC ∧ (∀ j, j < R.n * 3 → FC j = inC R.op R.a R.b j) ∧ gc ≠ r ∧ ¬ Sf gc ∧ Below base W w' := by
  obtain ⟨iE, hE1, hE2, hE3, hE4⟩ := info_parts infoIns
  obtain ⟨v', w', hr, h2, h3, h4, h5⟩ := run_append_own_zeros (P := Tryz.prog) W base 22 3 22 36 iE zIns .i64 .i64 3 24 Tryz.underlying22 Tryz.underlying3 hE1 hE2 hE3 hE4 rfl (by decide) (.slice lp R.n lc) R.n _ h.cd 64 (by decide) (zIns_one 64) (by unfold maxLen; omega) (by omega) hB
  obtain ⟨gc, cc, FC, rfl, hO, hF⟩ := own_app h2 (by decide)
  have hne : ∀ k, (Value.slice lp R.n lc).ownBlock = some k → k ≠ r := fun k hk => ownA h.cd h.bx (by decide) k hk
  have hns : ∀ k, (Value.slice lp R.n lc).ownBlock = some k → ¬ Sf k := fun k hk hs => by
    rcases h.cd.form with ⟨e, _⟩ | ⟨g, c, e, _⟩
    · injection e with e; subst e; cases hk
    · injection e with e; subst e
      injection hk with hk
      exact h.fc g 0 rfl (by subst hk; exact hs)
  have hbl : ∀ j, j < W.heap.size → (Value.slice lp R.n lc).ownBlock ≠ some j → w'.heap[j]? = W.heap[j]? := fun j hj hn => h3.block j hj fun e => hn e.symm
  refine ⟨gc, cc, FC, w', hr, ⟨(hbl r (ltB h.bx) fun e => hne r e rfl).trans h.bx, h5, h.en.far fun k hk => hbl k (h.en.lt k hk).2 fun e => ownC h.cd h.en (by decide) e hk, h.lo, fun j hj => ⟨Nat.lt_of_lt_of_le (h.fr j hj).1 h3.size, (hbl j (h.fr j hj).1 fun e => hns j e hj).trans (h.fr j hj).2⟩, h.ft, h.fc, h.fe⟩, hO, hF, ?_, ?_, (Below.refl _ _).grown h3 hB fun k hk => (h.cd.lt k hk).1⟩
  · rcases h4 with e | e
    · exact hne gc e.symm
    · have e : gc = W.heap.size := by simpa [Value.ownBlock] using e
      have := ltB h.bx
      omega
  · rcases h4 with e | e
    · exact hns gc e.symm
    · have e : gc = W.heap.size := by simpa [Value.ownBlock] using e
      intro hs
      have := (h.fr gc hs).1
      omega
/-- its entries grown by 64 -/
theorem pb_appE (h : PB Sf Hf W base r R lp lq lc lx) (hn : R.m ≤ 32) (hB : base ≤ W.heap.size) : ∃ (gc cc : Nat) (FC : Nat → Value) (w' : World), (Builtin.append_ #[23, 3] 23 #[.slice lq R.m lx, .int .i64 64]).run Tryz.prog W = .ok (.slice (some ⟨gc, 0, none⟩) (R.m + 64) cc) w' ∧ PB Sf Hf w' base r R lp lq lc lx ∧ Own w' base 3 1 (.slice (some ⟨gc, 0, none⟩) (R.m + 64) cc) (R.m + 64) FC ∧ (∀ j, j < R.m * 1 → FC j = iv R.en j) ∧ gc ≠ r ∧ ¬ Sf gc ∧ Below base W w' ∧ W.grownBy w' (Value.slice lq R.m lx).ownBlock := by
  obtain ⟨iE, hE1, hE2, hE3, hE4⟩ := info_parts infoInt1
  obtain ⟨v', w', hr, h2, h3, h4, h5⟩ := run_append_own_zeros (P := Tryz.prog) W base 23 3 23 3 iE (.int .i64 0) .i64 .i64 1 8 Tryz.underlying23 Tryz.underlying3 hE1 hE2 hE3 hE4 rfl (by decide) (.slice lq R.m lx) R.m _ h.en 64 (by decide) (zInt64_one 64) (by unfold maxLen; omega) (by omega) hB
  obtain ⟨gc, cc, FC, rfl, hO, hF⟩ := own_app h2 (by decide)
  have hne : ∀ k, (Value.slice lq R.m lx).ownBlock = some k → k ≠ r := fun k hk => ownA h.en h.bx (by decide) k hk
  have hns : ∀ k, (Value.slice lq R.m lx).ownBlock = some k → ¬ Sf k := fun k hk hs => by
    rcases h.en.form with ⟨e, _⟩ | ⟨g, c, e, _⟩
    · injection e with e; subst e; cases hk
    · injection e with e; subst e
      injection hk with hk
      exact h.fe g 0 rfl (by subst hk; exact hs)
  have hbl : ∀ j, j < W.heap.size → (Value.slice lq R.m lx).ownBlock ≠ some j → w'.heap[j]? = W.heap[j]? := fun j hj hn => h3.block j hj fun e => hn e.symm
  refine ⟨gc, cc, FC, w', hr, ⟨(hbl r (ltB h.bx) fun e => hne r e rfl).trans h.bx, h.cd.far fun k hk => hbl k (h.cd.lt k hk).2 fun e => ownC h.cd h.en (by decide) hk e, h5, h.lo, fun j hj => ⟨Nat.lt_of_lt_of_le (h.fr j hj).1 h3.size, (hbl j (h.fr j hj).1 fun e => hns j e hj).trans (h.fr j hj).2⟩, h.ft, h.fc, h.fe⟩, hO, hF, ?_, ?_, (Below.refl _ _).grown h3 hB fun k hk => (h.en.lt k hk).1, h3⟩
  · rcases h4 with e | e
    · exact hne gc e.symm
    · have e : gc = W.heap.size := by simpa [Value.ownBlock] using e
      have := ltB h.bx
      omega
  · rcases h4 with e | e
    · exact hns gc e.symm
    · have e : gc = W.heap.size := by simpa [Value.ownBlock] using e
      intro hs
      have := (h.fr gc hs).1
      omega
end
section
variable {Sf : Nat → Prop} {Hf : Nat → Option Obj} {W : World} {base r : Nat} {R : Pg} {lp lq : Option Addr} {lc lx : Nat}
/-- a write behind a program's code leaves it -/
theorem pb_tailC (h : PB Sf Hf W base r R lp lq lc lx) {gc m c : Nat} {FC : Nat → Value} (hO : Own W base 36 3 (.slice (some ⟨gc, 0, none⟩) m c) m FC) (hr : gc ≠ r) (hs : ¬ Sf gc) {o : Nat} (ho : R.n * 3 ≤ o) (v : Value) : PB Sf Hf (W.setCell ⟨gc, o, none⟩ v) base r R lp lq lc lx ∧ Own (W.setCell ⟨gc, o, none⟩ v) base 36 3 (.slice (some ⟨gc, 0, none⟩) m c) m (fun j => if j = o then v else FC j) := by
  have hf : ∀ j, j ≠ gc → (W.setCell ⟨gc, o, none⟩ v).heap[j]? = W.heap[j]? := fun j hj => Below.heap_setCell _ _ _ _ hj
  have hp : ∀ (F : Nat → Value) j, putF F o [v] j = if j = o then v else F j := fun F j => by
    unfold putF
    by_cases e : j = o
    · subst e; rw [if_pos (by simp), if_pos rfl]; simp
    · rw [if_neg (by simp; omega), if_neg e]
  refine ⟨⟨(hf r fun e => hr e.symm).trans h.bx, ?_, h.en.far fun j e => hf j fun e2 => ownC hO h.en (by decide) rfl (e2 ▸ e), h.lo, fr_keep h.fr fun j hj => hf j fun e => hs (e ▸ hj), h.ft, h.fc, h.fe⟩, (hO.put o [v]).congr fun j hj => hp _ _⟩
  by_cases e : lp = some ⟨gc, 0, none⟩
  · subst e
    exact (h.cd.put o [v]).congr fun j hj => by rw [hp, if_neg (by omega)]
  · refine h.cd.far fun j hj => hf j fun e2 => e ?_
    rcases h.cd.form with ⟨e3, _⟩ | ⟨g, c', e3, _⟩
    · injection e3 with e3; subst e3; cases hj
    · injection e3 with e3; subst e3
      have : g = j := by simpa [Value.ownBlock] using hj
      rw [this, e2]
theorem pb_tailE (h : PB Sf Hf W base r R lp lq lc lx) {gc m c : Nat} {FC : Nat → Value} (hO : Own W base 3 1 (.slice (some ⟨gc, 0, none⟩) m c) m FC) (hr : gc ≠ r) (hs : ¬ Sf gc) {o : Nat} (ho : R.m ≤ o) (v : Value) : PB Sf Hf (W.setCell ⟨gc, o, none⟩ v) base r R lp lq lc lx ∧ Own (W.setCell ⟨gc, o, none⟩ v) base 3 1 (.slice (some ⟨gc, 0, none⟩) m c) m (fun j => if j = o then v else FC j) := by
  have hf : ∀ j, j ≠ gc → (W.setCell ⟨gc, o, none⟩ v).heap[j]? = W.heap[j]? := fun j hj => Below.heap_setCell _ _ _ _ hj
  have hp : ∀ (F : Nat → Value) j, putF F o [v] j = if j = o then v else F j := fun F j => by
    unfold putF
    by_cases e : j = o
    · subst e; rw [if_pos (by simp), if_pos rfl]; simp
    · rw [if_neg (by simp; omega), if_neg e]
  refine ⟨⟨(hf r fun e => hr e.symm).trans h.bx, h.cd.far fun j e => hf j fun e2 => ownC h.cd hO (by decide) (e2 ▸ e) rfl, ?_, h.lo, fr_keep h.fr fun j hj => hf j fun e => hs (e ▸ hj), h.ft, h.fc, h.fe⟩, (hO.put o [v]).congr fun j hj => hp _ _⟩
  by_cases e : lq = some ⟨gc, 0, none⟩
  · subst e
    exact (h.en.put o [v]).congr fun j hj => by rw [hp, if_neg (by omega)]
  · refine h.en.far fun j hj => hf j fun e2 => e ?_
    rcases h.en.form with ⟨e3, _⟩ | ⟨g, c', e3, _⟩
    · injection e3 with e3; subst e3; cases hj
    · injection e3 with e3; subst e3
      have : g = j := by simpa [Value.ownBlock] using hj
      rw [this, e2]
end
/-- what the second half of spoilt looks at -/
def SQ (Sf : Nat → Prop) (Hf : Nat → Option Obj) (W : World) (base r : Nat) (R : Pg) (lp lq : Option Addr) (lc lx : Nat) (wr : World) (x6 x7 : Value) : Prop := ∃ (gc cc ge ce kc c1 ke c2 : Nat) (FC FE : Nat → Value), x6 = .slice (some ⟨kc, 0, none⟩) 1 c1 ∧ x7 = .slice (some ⟨ke, 0, none⟩) 1 c2 ∧ PB Sf Hf wr base r R lp lq lc lx ∧ Own wr base 36 3 (.slice (some ⟨gc, 0, none⟩) (R.n + 64) cc) (R.n + 64) FC ∧ (∀ j, j < R.n * 3 → FC j = inC R.op R.a R.b j) ∧ FC ((R.n + 63) * 3) = .int .i64 (-70) ∧ Own wr base 3 1 (.slice (some ⟨ge, 0, none⟩) (R.m + 64) ce) (R.m + 64) FE ∧ (∀ j, j < R.m * 1 → FE j = iv R.en j) ∧ FE (R.m + 63) = .int .i64 (-80) ∧ Own wr base 22 1 (.slice (some ⟨kc, 0, none⟩) 1 c1) 1 (fun _ => .slice (some ⟨gc, 0, none⟩) (R.n + 64) cc) ∧ Own wr base 23 1 (.slice (some ⟨ke, 0, none⟩) 1 c2) 1 (fun _ => .slice (some ⟨ge, 0, none⟩) (R.m + 64) ce) ∧ Below base W wr
theorem infoCs : (Tryz.prog.info? 22).map (fun i => (i.zero, i.size, i.bytes)) = some (some (.slice none 0 0), 1, 24) := by kernel_rfl
theorem infoEs : (Tryz.prog.info? 23).map (fun i => (i.zero, i.size, i.bytes)) = some (some (.slice none 0 0), 1, 24) := by kernel_rfl
end Go.Proofs.YtopggemomcoalaaGreat
namespace Go.Proofs.YtopggemomcoalaaGreat
open Go.ChangeShapes Go.WideShapes Go.ChangeAt Go.RowKit
set_option linter.unusedVariables false
set_option linter.unusedSimpArgs false

/-! ### spoilt, of one program -/
theorem own_farne {W : World} {b g m c q o : Nat} {t : TypeId} {s : Nat} {F : Nat → Value} {x : Value} (h : Own W b t s (.slice (some ⟨g, 0, none⟩) m c) m F) (hne : g ≠ q) : Own (W.setCell ⟨q, o, none⟩ x) b t s (.slice (some ⟨g, 0, none⟩) m c) m F := h.far fun k hk => Below.heap_setCell _ _ _ _ fun e => hne (by
  have h9 : g = k := by simpa [Value.ownBlock] using hk
  rw [h9]
  exact e)
theorem own_one {w' : World} {base : Nat} {t : TypeId} {v' x : Value} (h : w'.ownsRow base t 1 v' (0 + 1) ([] ++ [x])) : ∃ kc c1, v' = .slice (some ⟨kc, 0, none⟩) 1 c1 ∧ Own w' base t 1 (.slice (some ⟨kc, 0, none⟩) 1 c1) 1 (fun _ => x) := by
  have ho : Own w' base t 1 v' 1 (fun _ => x) := (own_of_rowU h).congr fun j hj => by
    obtain rfl : j = 0 := by omega
    rfl
  rcases ho.form with ⟨_, h2⟩ | ⟨g, c, h1, _, _⟩
  · omega
  · subst h1
    exact ⟨g, c, rfl, ho⟩
theorem new_at (w : World) (x : Value) (t : TypeId) : ∀ a u, [x][a]? = some u → (w.alloc (.cells #[x] t)).cell? ((⟨w.heap.size, 0, none⟩ : Addr).add a) = some u := fun a u ha => by
  have h0 : a = 0 := by
    have := (List.getElem?_eq_some_iff.1 ha).1
    simpa using this
  subst h0
  rw [addr_add0]
  unfold World.cell?
  rw [World.alloc_heap_new]
  exact ha
attribute [-go_sem] run_eql_struct in
set_option maxRecDepth 100000 in
set_option maxHeartbeats 16000000 in
theorem spoilt_one {Sf : Nat → Prop} {Hf : Nat → Option Obj} {base r : Nat} {P : Pg} {lp lq : Option Addr} {lc lx : Nat} (W : World) (h : PB Sf Hf W base r P lp lq lc lx) (hn : P.n ≤ 4096) (hm : P.m ≤ 32) (hB : base ≤ W.heap.size) :
    Calls Tryz.prog 14 #[.slice (some ⟨r, 0, none⟩) 1 1] W fun e W' => e = .returned (.bool true) ∧ (∀ j, Sf j → j < W'.heap.size ∧ W'.heap[j]? = Hf j) ∧ Below base W W' := by
  have H0 := tmh (And.intro h hB)
  clear h hB
  go_enter Tryz.func14, Tryz.ntmps14
  go_wp2_with fail
  go_loopw [16] (fun x wr => ∃ i : Nat, x = .int .i64 (i : Int) ∧ i ≤ 1 ∧ PB Sf Hf wr base r (spI P i) lp lq lc lx ∧ Below base W wr) (fun x _ => 1 - (intOf x).toNat)
  case atStart => exact ⟨0, rfl, Nat.zero_le _, H0.out.1, Below.refl _ _⟩
  case round =>
    obtain ⟨i, rfl, hi, hT, hbr⟩ := hrel
    by_cases hlt : i < 1
    · obtain rfl : i = 0 := by omega
      have hT : PB Sf Hf wr base r P lp lq lc lx := hT
      obtain ⟨y0, y1, y2, y3⟩ := hT.cells
      have HT := tmh (And.intro hT hbr)
      clear hT hbr hi
      go_wp2_with fail
      clear y0 y1 y2 y3
      go_loopw [25] (fun x wr => ∃ k : Nat, x = .int .i64 (k : Int) ∧ k ≤ P.n ∧ PB Sf Hf wr base r (spC P k) lp lq lc lx ∧ Below base W wr) (fun x _ => P.n - (intOf x).toNat)
      case atStart => exact ⟨0, rfl, Nat.zero_le _, by rw [spC_zero]; exact HT.out.1, HT.out.2⟩
      case round =>
        obtain ⟨k, rfl, hk, hT, hbr⟩ := hrel
        by_cases hlk : k < P.n
        · have d1 : decide ((k : Int) < (P.n : Int)) = true := by simp; omega
          have d2 : decide (k < P.n) = true := by simp; omega
          have i0 : (0 : Int) ≤ (k : Int) := by omega
          have i1 : (k : Int) < (P.n : Int) := by omega
          have ek : IntKind.i64.wrap ((k : Int) + 1) = ((k + 1 : Nat) : Int) := by rw [IntKind.wrap_i64]; omega
          have hmm := meas0 hlk
          obtain ⟨g, hg⟩ := hT.ip (by show 0 < P.n; omega)
          subst hg
          obtain ⟨-, -, z2, -⟩ := hT.cells
          have y2 : wr.cell? ⟨r, 2, none⟩ = some (.slice (some ⟨g, 0, none⟩) P.n lc) := z2
          clear z2
          obtain ⟨⟨u0, u1, u2⟩, uf⟩ := hT.ins (k := k) hlk
          have f0 := uf (k * 3)
          have f1 := uf (k * 3 + 1)
          have f2 := uf (k * 3 + 2)
          have hT2 := hT.setI k (-5) (k : Int) 0
          rw [spC_step] at hT2
          have e3 : ((wr.setCell ⟨g, k * 3, none⟩ (.int .i64 (-5))).setCell ⟨g, k * 3 + 1, none⟩ (.int .i64 (k : Int))).setCell ⟨g, k * 3 + 2, none⟩ (.int .i64 0) = wr.setCells g (k * 3) [.int .i64 (-5), .int .i64 (k : Int), .int .i64 0] := rfl
          rw [← e3] at hT2
          have hb2 : Below base W (((wr.setCell ⟨g, k * 3, none⟩ (.int .i64 (-5))).setCell ⟨g, k * 3 + 1, none⟩ (.int .i64 (k : Int))).setCell ⟨g, k * 3 + 2, none⟩ (.int .i64 0)) := ((hbr.setCell (p := ⟨g, k * 3, none⟩) hT.gb.1 _).setCell (p := ⟨g, k * 3 + 1, none⟩) hT.gb.1 _).setCell (p := ⟨g, k * 3 + 2, none⟩) hT.gb.1 _
          have H2 := tmh (And.intro hT2 hb2)
          clear hT hbr hT2 hb2 e3 uf hk
          go_wp2_with fail
          exact ⟨⟨k + 1, rfl, hlk, H2.out.1, H2.out.2⟩, hmm⟩
        · have d1 : decide ((k : Int) < (P.n : Int)) = false := by simp; omega
          have d2 : decide (k < P.n) = false := by simp; omega
          obtain rfl : k = P.n := by omega
          obtain ⟨-, -, -, z3⟩ := hT.cells
          have y3 : wr.cell? ⟨r, 3, none⟩ = some (.slice lq P.m lx) := z3
          clear z3
          have HT2 := tmh (And.intro hT hbr)
          clear hT hbr hk hlk
          go_wp2_with fail
          clear y3
          go_loopw [46] (fun x wr => ∃ k : Nat, x = .int .i64 (k : Int) ∧ k ≤ P.m ∧ PB Sf Hf wr base r (spE (spC P P.n) k) lp lq lc lx ∧ Below base W wr) (fun x _ => P.m - (intOf x).toNat)
          case atStart => exact ⟨0, rfl, Nat.zero_le _, by rw [spE_zero]; exact HT2.out.1, HT2.out.2⟩
          case round =>
            obtain ⟨k, rfl, hk, hT, hbr⟩ := hrel
            by_cases hlk : k < P.m
            · have d1 : decide ((k : Int) < (P.m : Int)) = true := by simp; omega
              have d2 : decide (k < P.m) = true := by simp; omega
              have i0 : (0 : Int) ≤ (k : Int) := by omega
              have i1 : (k : Int) < (P.m : Int) := by omega
              have ek : IntKind.i64.wrap ((k : Int) + 1) = ((k + 1 : Nat) : Int) := by rw [IntKind.wrap_i64]; omega
              have em : IntKind.i64.wrap (-100 - (k : Int)) = -100 - (k : Int) := by rw [IntKind.wrap_i64]; omega
              have hmm := meas0 hlk
              obtain ⟨g, hg⟩ := hT.ePt (by show 0 < P.m; omega)
              subst hg
              obtain ⟨-, -, -, z3⟩ := hT.cells
              have y3 : wr.cell? ⟨r, 3, none⟩ = some (.slice (some ⟨g, 0, none⟩) P.m lx) := z3
              clear z3
              have u0 := hT.en.cell (j := k) (by show k < P.m * 1; omega)
              have f0 := own_cut hT.en k
              have hT2 := hT.setE k (-100 - (k : Int))
              rw [spE_step] at hT2
              have hb2 : Below base W (wr.setCell ⟨g, k, none⟩ (.int .i64 (-100 - (k : Int)))) := hbr.setCell (p := ⟨g, k, none⟩) (hT.en.lt g rfl).1 _
              have H2 := tmh (And.intro hT2 hb2)
              clear hT hbr hT2 hb2 hk
              go_wp2_with fail
              exact ⟨⟨k + 1, rfl, hlk, H2.out.1, H2.out.2⟩, hmm⟩
            · have d1 : decide ((k : Int) < (P.m : Int)) = false := by simp; omega
              have d2 : decide (k < P.m) = false := by simp; omega
              obtain rfl : k = P.m := by omega
              obtain ⟨y0, -, -, -⟩ := hT.cells
              have f0 := frz hT.bx 0
              have hT2 := hT.setW (-1)
              have hb2 : Below base W (wr.setCell ⟨r, 0, none⟩ (.int .i64 (-1))) := hbr.setCell (p := ⟨r, 0, none⟩) hT.lo _
              have H2 := tmh (And.intro hT2 hb2)
              clear hT hbr hT2 hb2 hk hlk
              go_wp2_with fail
              exact ⟨⟨1, rfl, Nat.le_refl _, H2.out.1, H2.out.2⟩, by decide⟩
    · obtain rfl : i = 1 := by omega
      have hT : PB Sf Hf wr base r (spF P) lp lq lc lx := hT
      rw [show ((1 : Nat) : Int) = 1 from rfl]
      obtain ⟨R, hR⟩ : ∃ R, spF P = R := ⟨_, rfl⟩
      have hRn : R.n = P.n := by rw [← hR]; rfl
      have hRm : R.m = P.m := by rw [← hR]; rfl
      rw [hR] at hT
      rw [← hRn] at hn
      rw [← hRm] at hm
      have HT := tmh (And.intro hT (And.intro hbr (And.intro hR (And.intro hRn hRm))))
      clear hT hbr hi hlt hR hRn hRm
      obtain ⟨N63, hN63⟩ : ∃ x, R.n + 63 = x := ⟨_, rfl⟩
      obtain ⟨N64, hN64⟩ : ∃ x, R.n + 64 = x := ⟨_, rfl⟩
      obtain ⟨M63, hM63⟩ : ∃ x, R.m + 63 = x := ⟨_, rfl⟩
      obtain ⟨M64, hM64⟩ : ∃ x, R.m + 64 = x := ⟨_, rfl⟩
      have en1 : IntKind.i64.wrap ((N64 : Int) - 1) = (N63 : Int) := by rw [IntKind.wrap_i64]; omega
      have em1 : IntKind.i64.wrap ((M64 : Int) - 1) = (M63 : Int) := by rw [IntKind.wrap_i64]; omega
      have qn0 : (0 : Int) ≤ (N63 : Int) := by omega
      have qn1 : (N63 : Int) < (N64 : Int) := by omega
      have qm0 : (0 : Int) ≤ (M63 : Int) := by omega
      have qm1 : (M63 : Int) < (M64 : Int) := by omega
      have HN := tmh (And.intro hN63 (And.intro hN64 (And.intro hM63 hM64)))
      clear hN63 hN64 hM63 hM64
      go_wp2_with fail
      go_loopw [6, 7, 69] (fun x6 x7 x wr => ∃ i : Nat, x = .int .i64 (i : Int) ∧ (i = 0 ∧ x6 = .slice none 0 0 ∧ x7 = .slice none 0 0 ∧ PB Sf Hf wr base r R lp lq lc lx ∧ Below base W wr ∨ i = 1 ∧ SQ Sf Hf W base r R lp lq lc lx wr x6 x7)) (fun x6 x7 x _ => 1 - (intOf x).toNat)
      case atStart => exact ⟨0, rfl, .inl ⟨rfl, rfl, rfl, HT.out.1, HT.out.2.1⟩⟩
      case round =>
        obtain ⟨i, rfl, ⟨rfl, rfl, rfl, hT, hbr⟩ | ⟨rfl, hS⟩⟩ := hrel
        · rw [show ((0 : Nat) : Int) = 0 from rfl]
          have hBr := Nat.le_trans H0.out.2 hbr.size
          obtain ⟨gc, cc, FC, w1, hr1, hT1, hOc, hFC, hgr, hgs, hb1⟩ := pb_appC hT hn hBr
          have hB1 := Nat.le_trans hBr hb1.size
          obtain ⟨ge, ce, FE, w2, hr2, hT2, hOe, hFE, her, hes, hb2, hg2⟩ := pb_appE hT1 hm hB1
          have hOc2 := hOc.far (W' := w2) fun k hk => hg2.block k (hOc.lt k hk).2 fun e => ownC hOc hT1.en (by decide) hk e.symm
          obtain ⟨hT3, hOc3⟩ := pb_tailC hT2 hOc2 hgr hgs (o := (R.n + 63) * 3) (by omega) (.int .i64 (-70))
          have hge : ge ≠ gc := fun e => ownC hOc2 hOe (by decide) rfl (by rw [e]; rfl)
          have hOe3 := own_farne (o := (R.n + 63) * 3) (x := .int .i64 (-70)) hOe hge
          obtain ⟨hT4, hOe4⟩ := pb_tailE hT3 hOe3 her hes (o := R.m + 63) (by omega) (.int .i64 (-80))
          have hOc4 := own_farne (o := R.m + 63) (x := .int .i64 (-80)) hOc3 hge.symm
          have hb12 := hbr.trans (hb1.trans hb2)
          have hb4 : Below base W ((w2.setCell ⟨gc, (R.n + 63) * 3, none⟩ (.int .i64 (-70))).setCell ⟨ge, R.m + 63, none⟩ (.int .i64 (-80))) := (hb12.setCell (p := ⟨gc, (R.n + 63) * 3, none⟩) (hOc.lt gc rfl).1 _).setCell (p := ⟨ge, R.m + 63, none⟩) (hOe.lt ge rfl).1 _
          have u0 := hOc2.cell (j := (R.n + 63) * 3) (by omega)
          have f0 := own_cut hOc2 ((R.n + 63) * 3)
          have v0 := hOe3.cell (j := R.m + 63) (by omega)
          have f1 := own_cut hOe3 (R.m + 63)
          obtain ⟨-, -, y2, -⟩ := hT.cells
          obtain ⟨-, -, -, y3⟩ := hT1.cells
          rw [HN.out.2.1] at hr1 hOc4
          rw [HN.out.1] at u0 f0 v0 f1 hT4 hOc4 hOe4 hb4
          rw [HN.out.2.2.1] at v0 f1 hT4 hOc4 hOe4 hb4
          rw [HN.out.2.2.2] at hr2 hOe4
          have hle4 : base ≤ ((w2.setCell ⟨gc, N63 * 3, none⟩ (.int .i64 (-70))).setCell ⟨ge, M63, none⟩ (.int .i64 (-80))).heap.size := Nat.le_trans H0.out.2 hb4.size
          have HR := tmh (And.intro hT4 (And.intro hOc4 (And.intro hOe4 (And.intro hb4 (And.intro hFC (And.intro hFE hle4))))))
          clear hT hbr hBr hT1 hOc hFC hgr hgs hb1 hB1 hT2 hOe hFE her hes hb2 hg2 hOc2 hT3 hOc3 hge hOe3 hT4 hOe4 hOc4 hb12 hb4 hle4
          go_upto_region 22 with (at_builtin; refine Lib.wpList_append_run _ rfl _ _ 22 3 rfl _ _ rfl rfl _ _ hr1 ?_)
          go_upto_region 23 with (at_builtin; refine Lib.wpList_append_run _ rfl _ _ 23 3 rfl _ _ rfl rfl _ _ hr2 ?_)
          clear hr1 hr2 y2 y3
          go_upto_region 25 with fail
          clear u0 f0 v0 f1
          generalize (w2.setCell ⟨gc, N63 * 3, none⟩ (.int .i64 (-70))).setCell ⟨ge, M63, none⟩ (.int .i64 (-80)) = w4 at HR ⊢
          obtain ⟨iC, hC1, hC2, hC3, hC4⟩ := info_parts infoCs
          obtain ⟨iE, hE1, hE2, hE3, hE4⟩ := info_parts infoEs
          have p1 : 0 + 1 ≤ maxLen := by unfold maxLen; omega
          have p2 : (0 + 1) * 24 ≤ 140737488355328 := by omega
          have hN1 := tmh (new_at w4 (.slice (some ⟨gc, 0, none⟩) N64 cc) 22)
          have hA1 : base ≤ (w4.alloc (.cells #[.slice (some ⟨gc, 0, none⟩) N64 cc] 22)).heap.size := by rw [World.size_alloc]; have := HR.out.2.2.2.2.2.2; omega
          go_upto_region 26 with (at_builtin; refine wpList_append_own_at _ rfl _ _ 78 rfl base 22 iC _ 1 24 Tryz.underlying78 hC1 hC2 hC3 hC4 rfl (by decide) _ _ _ rfl (World.ownsRow_nil _ _ _ _) ⟨w4.heap.size, 0, none⟩ 1 1 [.slice (some ⟨gc, 0, none⟩) N64 cc] rfl rfl hN1.out (by simp [Value.oneCell']) p1 p2 hA1 ?_; intro v5 w5 hown5 hgrow5 _ hat5)
          obtain ⟨kc, c1, rfl, hK1⟩ := own_one hown5
          have hb5 : Below w4.heap.size w4 w5 := ((Below.refl _ w4).alloc (Nat.le_refl _) _).grown hgrow5 (by rw [World.size_alloc]; omega) (fun k hk => by cases hk)
          have HR5 := tmh (And.intro (HR.out.1.later hb5) (And.intro (HR.out.2.1.later hb5) (And.intro (HR.out.2.2.1.later hb5) (And.intro (HR.out.2.2.2.1.trans (hb5.mono HR.out.2.2.2.2.2.2)) (And.intro hK1 (Nat.le_trans HR.out.2.2.2.2.2.2 hb5.size))))))
          clear hown5 hgrow5 hat5 hN1 hA1 hb5 hK1
          have hN1 := tmh (new_at w5 (.slice (some ⟨ge, 0, none⟩) M64 ce) 23)
          have hA1 : base ≤ (w5.alloc (.cells #[.slice (some ⟨ge, 0, none⟩) M64 ce] 23)).heap.size := by rw [World.size_alloc]; have := HR5.out.2.2.2.2.2; omega
          go_upto_region 27 with (at_builtin; refine wpList_append_own_at _ rfl _ _ 79 rfl base 23 iE _ 1 24 Tryz.underlying79 hE1 hE2 hE3 hE4 rfl (by decide) _ _ _ rfl (World.ownsRow_nil _ _ _ _) ⟨w5.heap.size, 0, none⟩ 1 1 [.slice (some ⟨ge, 0, none⟩) M64 ce] rfl rfl hN1.out (by simp [Value.oneCell']) p1 p2 hA1 ?_; intro v6 w6 hown6 hgrow6 _ hat6)
          obtain ⟨ke, c2, rfl, hK2⟩ := own_one hown6
          have hb6 : Below w5.heap.size w5 w6 := ((Below.refl _ w5).alloc (Nat.le_refl _) _).grown hgrow6 (by rw [World.size_alloc]; omega) (fun k hk => by cases hk)
          have HR6 := tmh (And.intro (HR5.out.1.later hb6) (And.intro (HR5.out.2.1.later hb6) (And.intro (HR5.out.2.2.1.later hb6) (And.intro (HR5.out.2.2.2.1.trans (hb6.mono HR5.out.2.2.2.2.2)) (And.intro (HR5.out.2.2.2.2.1.later hb6) hK2)))))
          clear hown6 hgrow6 hat6 hN1 hA1 hb6 hK2 hC1 hC2 hC3 hC4 hE1 hE2 hE3 hE4
          go_wp2_with fail
          refine ⟨⟨1, rfl, .inr ⟨rfl, gc, cc, ge, ce, kc, c1, ke, c2, _, _, rfl, rfl, HR6.out.1, by rw [HN.out.2.1]; exact HR6.out.2.1, fun j hj => ?_, by rw [HN.out.1, if_pos rfl], by rw [HN.out.2.2.2]; exact HR6.out.2.2.1, fun j hj => ?_, by rw [HN.out.2.2.1, if_pos rfl], by rw [HN.out.2.1]; exact HR6.out.2.2.2.2.1, by rw [HN.out.2.2.2]; exact HR6.out.2.2.2.2.2, HR6.out.2.2.2.1⟩⟩, by decide⟩
          · rw [if_neg (by have := HN.out.1; omega)]
            exact HR.out.2.2.2.2.1 j hj
          · rw [if_neg (by have := HN.out.2.2.1; omega)]
            exact HR.out.2.2.2.2.2.1 j hj
        · rw [show ((1 : Nat) : Int) = 1 from rfl]
          obtain ⟨gc, cc, ge, ce, kc, c1, ke, c2, FC, FE, rfl, rfl, hT, hOc, hFC, hFC2, hOe, hFE, hFE2, hK1, hK2, hb⟩ := hS
          have HS := tmh (And.intro hT (And.intro hOc (And.intro hFC (And.intro hFC2 (And.intro hOe (And.intro hFE (And.intro hFE2 (And.intro hK1 (And.intro hK2 hb)))))))))
          clear hT hOc hFC hFC2 hOe hFE hFE2 hK1 hK2 hb
          obtain ⟨ws, hws⟩ : ∃ ws, ws = wr := ⟨_, rfl⟩
          subst hws
          go_wp2_with fail
          go_loopw [110] (fun x wr => ∃ i : Nat, x = .int .i64 (i : Int) ∧ i ≤ 1 ∧ Below ws.heap.size ws wr) (fun x _ => 1 - (intOf x).toNat)
          case atStart => exact ⟨0, rfl, Nat.zero_le _, Below.refl _ _⟩
          case round =>
            obtain ⟨i, rfl, hi, hbr⟩ := hrel
            by_cases hlt : i < 1
            · obtain rfl : i = 0 := by omega
              rw [show ((0 : Nat) : Int) = 0 from rfl]
              have HB := tmh hbr
              obtain ⟨-, -, y2, -⟩ := (HS.out.1.later hbr).cells
              clear hbr hi hlt
              go_wp2_with fail
              clear y2
              go_loopw [119] (fun x wr => ∃ k : Nat, x = .int .i64 (k : Int) ∧ k ≤ R.n ∧ Below ws.heap.size ws wr) (fun x _ => R.n - (intOf x).toNat)
              case atStart => exact ⟨0, rfl, Nat.zero_le _, HB.out⟩
              case round =>
                obtain ⟨k, rfl, hk, hbr⟩ := hrel
                by_cases hlk : k < R.n
                · have d1 : decide ((k : Int) < (R.n : Int)) = true := by simp; omega
                  have d2 : decide (k < R.n) = true := by simp; omega
                  have i0 : (0 : Int) ≤ (k : Int) := by omega
                  have i1 : (k : Int) < (R.n : Int) := by omega
                  have i2 : (k : Int) < (N64 : Int) := by have := HN.out.2.1; omega
                  have ek : IntKind.i64.wrap ((k : Int) + 1) = ((k + 1 : Nat) : Int) := by rw [IntKind.wrap_i64]; omega
                  have hmm := meas0 hlk
                  have hT := HS.out.1.later hbr
                  obtain ⟨g, hg⟩ := hT.ip (by omega)
                  subst hg
                  obtain ⟨-, -, y2, -⟩ := hT.cells
                  have ro : R.op k = -5 ∧ R.a k = (k : Int) ∧ R.b k = 0 := by
                    have h9 : k < P.n := by rw [← HT.out.2.2.2.1]; exact hlk
                    rw [← HT.out.2.2.1]
                    exact ⟨if_pos h9, if_pos h9, if_pos h9⟩
                  obtain ⟨⟨u0, u1, u2⟩, -⟩ := hT.ins (k := k) hlk
                  rw [ro.1] at u0
                  rw [ro.2.1] at u1
                  rw [ro.2.2] at u2
                  have hK := HS.out.2.2.2.2.2.2.2.1.later hbr
                  have q0 : wr.cell? ⟨kc, 0, none⟩ = some (.slice (some ⟨gc, 0, none⟩) N64 cc) := by rw [← HN.out.2.1]; exact hK.cell (by omega)
                  have hO := HS.out.2.1.later hbr
                  have c0 : wr.cell? ⟨gc, k * 3, none⟩ = some (.int .i64 (-5)) := by rw [hO.cell (by omega), HS.out.2.2.1 _ (by omega), inC0, ro.1]
                  have c1' : wr.cell? ⟨gc, k * 3 + 1, none⟩ = some (.int .i64 (k : Int)) := by rw [hO.cell (by omega), HS.out.2.2.1 _ (by omega), inC1, ro.2.1]
                  have c2' : wr.cell? ⟨gc, k * 3 + 2, none⟩ = some (.int .i64 0) := by rw [hO.cell (by omega), HS.out.2.2.1 _ (by omega), inC2, ro.2.2]
                  have HBR := tmh hbr
                  have HE := neq_ins
                  clear hT ro hK hO hbr hk
                  go_upto_region 34 with fail
                  go_quiet (fail)
                  go_wp2_with fail
                  exact ⟨⟨k + 1, rfl, hlk, HBR.out.trans (below_drewNq _ _ _)⟩, hmm⟩
                · have d1 : decide ((k : Int) < (R.n : Int)) = false := by simp; omega
                  have d2 : decide (k < R.n) = false := by simp; omega
                  obtain rfl : k = R.n := by omega
                  have HB := tmh hbr
                  obtain ⟨-, -, -, y3⟩ := (HS.out.1.later hbr).cells
                  clear hbr hk hlk
                  go_wp2_with fail
                  clear y3
                  go_loopw [160] (fun x wr => ∃ k : Nat, x = .int .i64 (k : Int) ∧ k ≤ R.m ∧ Below ws.heap.size ws wr) (fun x _ => R.m - (intOf x).toNat)
                  case atStart => exact ⟨0, rfl, Nat.zero_le _, HB.out⟩
                  case round =>
                    obtain ⟨k, rfl, hk, hbr⟩ := hrel
                    by_cases hlk : k < R.m
                    · have d1 : decide ((k : Int) < (R.m : Int)) = true := by simp; omega
                      have d2 : decide (k < R.m) = true := by simp; omega
                      have i0 : (0 : Int) ≤ (k : Int) := by omega
                      have i1 : (k : Int) < (R.m : Int) := by omega
                      have i2 : (k : Int) < (M64 : Int) := by have := HN.out.2.2.2; omega
                      have ek : IntKind.i64.wrap ((k : Int) + 1) = ((k + 1 : Nat) : Int) := by rw [IntKind.wrap_i64]; omega
                      have em : IntKind.i64.wrap (-100 - (k : Int)) = -100 - (k : Int) := by rw [IntKind.wrap_i64]; omega
                      have hmm := meas0 hlk
                      have hT := HS.out.1.later hbr
                      obtain ⟨g, hg⟩ := hT.ePt (by omega)
                      subst hg
                      obtain ⟨-, -, -, y3⟩ := hT.cells
                      have ro : R.en k = -100 - (k : Int) := by
                        have h9 : k < P.m := by rw [← HT.out.2.2.2.2]; exact hlk
                        rw [← HT.out.2.2.1]
                        exact if_pos h9
                      have u0 : wr.cell? ⟨g, k, none⟩ = some (.int .i64 (-100 - (k : Int))) := by rw [hT.en.cell (by omega)]; unfold iv; rw [ro]
                      have hK := HS.out.2.2.2.2.2.2.2.2.1.later hbr
                      have q0 : wr.cell? ⟨ke, 0, none⟩ = some (.slice (some ⟨ge, 0, none⟩) M64 ce) := by rw [← HN.out.2.2.2]; exact hK.cell (by omega)
                      have hO := HS.out.2.2.2.2.1.later hbr
                      have c0 : wr.cell? ⟨ge, k, none⟩ = some (.int .i64 (-100 - (k : Int))) := by rw [hO.cell (by omega), HS.out.2.2.2.2.2.1 _ (by omega)]; unfold iv; rw [ro]
                      have HBR := tmh hbr
                      clear hT ro hK hO hbr hk
                      go_upto_region 40 with fail
                      go_quiet (fail)
                      go_wp2_with fail
                      exact ⟨⟨k + 1, rfl, hlk, HBR.out.trans (below_drewNq _ _ _)⟩, hmm⟩
                    · have d1 : decide ((k : Int) < (R.m : Int)) = false := by simp; omega
                      have d2 : decide (k < R.m) = false := by simp; omega
                      obtain rfl : k = R.m := by omega
                      have hK := HS.out.2.2.2.2.2.2.2.1.later hbr
                      have q0 : wr.cell? ⟨kc, 0, none⟩ = some (.slice (some ⟨gc, 0, none⟩) N64 cc) := by rw [← HN.out.2.1]; exact hK.cell (by omega)
                      have hL := HS.out.2.2.2.2.2.2.2.2.1.later hbr
                      have q1 : wr.cell? ⟨ke, 0, none⟩ = some (.slice (some ⟨ge, 0, none⟩) M64 ce) := by rw [← HN.out.2.2.2]; exact hL.cell (by omega)
                      have hO := HS.out.2.1.later hbr
                      have c0 : wr.cell? ⟨gc, N63 * 3, none⟩ = some (.int .i64 (-70)) := by rw [← HN.out.1, hO.cell (by omega), HS.out.2.2.2.1]
                      have hE := HS.out.2.2.2.2.1.later hbr
                      have c1' : wr.cell? ⟨ge, M63, none⟩ = some (.int .i64 (-80)) := by rw [← HN.out.2.2.1, hE.cell (by omega), HS.out.2.2.2.2.2.2.1]
                      have HBR := tmh hbr
                      clear hK hL hO hE hbr hk hlk
                      go_upto_region 43 with fail
                      go_quiet (fail)
                      go_wp2_with fail
                      exact ⟨⟨1, rfl, Nat.le_refl _, HBR.out.trans (below_drewNq _ _ _)⟩, by decide⟩
            · obtain rfl : i = 1 := by omega
              have HT9 := tmh (And.intro (HS.out.1.later hbr) (HS.out.2.2.2.2.2.2.2.2.2.trans (hbr.mono (Nat.le_trans H0.out.2 HS.out.2.2.2.2.2.2.2.2.2.size))))
              clear hbr hi hlt
              go_wp2_with fail
              go_ret
              exact ⟨rfl, HT9.out.1.fr, HT9.out.2⟩
end Go.Proofs.YtopggemomcoalaaGreat
namespace Go.Proofs.YtopggemomcoalaaGreat
open Go.ChangeShapes Go.WideShapes Go.ChangeAt Go.RowKit
set_option linter.unusedVariables false
set_option linter.unusedSimpArgs false

/-! ### what both tidiers answer -/
def zPg : Pg := { words := 0, locals := 0, n := 0, m := 0, op := fun _ => 0, a := fun _ => 0, b := fun _ => 0, en := fun _ => 0 }
def TQ (P : Pg) (kinds : Int) (Q : Pg) : Prop := dcode P kinds = 0 ∧ Tid P Q ∨ dcode P kinds ≠ 0 ∧ Q = zPg
def AnsP (Q : Pg) (code : Int) (W W' : World) (e : Ending) : Prop := ∃ (lp lq : Option Addr) (lc lx : Nat), e = .returned (.tuple #[.agg #[.int .i64 Q.words, .int .i64 Q.locals, .slice lp Q.n lc, .slice lq Q.m lx], .int .i64 code]) ∧ Own W' W.heap.size 36 3 (.slice lp Q.n lc) Q.n (inC Q.op Q.a Q.b) ∧ Own W' W.heap.size 3 1 (.slice lq Q.m lx) Q.m (iv Q.en) ∧ Below W.heap.size W W'
theorem tid_one {P Q Q' : Pg} (h : Tid P Q) (h' : Tid P Q') : Q = Q' := by
  obtain ⟨k, rfl, h1, h2⟩ := h
  obtain ⟨k', rfl, h3, h4⟩ := h'
  have : k = k' := by
    rcases Nat.lt_trichotomy k k' with h | h | h
    · exact absurd h1 (h4 k h)
    · exact h
    · exact absurd h3 (h2 k' h)
  rw [this]
theorem TQ.one {P Q Q' : Pg} {kinds : Int} (h : TQ P kinds Q) (h' : TQ P kinds Q') : Q = Q' := by
  rcases h with ⟨h1, h2⟩ | ⟨h1, h2⟩
  · rcases h' with ⟨h3, h4⟩ | ⟨h3, h4⟩
    · exact tid_one h2 h4
    · exact absurd h1 h3
  · rcases h' with ⟨h3, h4⟩ | ⟨h3, h4⟩
    · exact absurd h3 h1
    · rw [h2, h4]
theorem TQ.sz {P Q : Pg} {kinds : Int} (ha : A64 P) (h : TQ P kinds Q) : Q.n ≤ 4096 ∧ Q.m ≤ 32 := by
  rcases h with ⟨h1, h2⟩ | ⟨_, rfl⟩
  · obtain ⟨rfl, v⟩ := vf_of h1
    obtain ⟨⟨L', v', _⟩, _⟩ := h2.done v ha
    exact ⟨v'.sz.2.2.1, v'.sz.2.2.2⟩
  · exact ⟨by decide, by decide⟩
theorem own_nilC (w : World) (b : Nat) : Own w b 36 3 (.slice none zPg.n 0) zPg.n (inC zPg.op zPg.a zPg.b) := World.ownsRow_nil _ _ _ _
theorem own_nilE (w : World) (b : Nat) : Own w b 3 1 (.slice none zPg.m 0) zPg.m (iv zPg.en) := World.ownsRow_nil _ _ _ _
variable {P : Pg} {cp ep : Option Addr} {cc ec : Nat}
theorem tidy_first (kinds : Int) (W : World) (hI : IAt W cp P.n P.op P.a P.b) (hE : KAt W ep P.m P.en) (ha : A64 P) :
    Calls Tryz.prog 6 #[.agg #[.int .i64 P.words, .int .i64 P.locals, .slice cp P.n cc, .slice ep P.m ec], .int .i64 kinds] W fun e W' => ∃ Q, TQ P kinds Q ∧ AnsP Q (dcode P kinds) W W' e := by
  by_cases hc : dcode P kinds = 0
  · obtain ⟨rfl, _⟩ := vf_of hc
    refine (tidy_good W hI hE ha hc).mono fun e W' h => ?_
    obtain ⟨Q, lp, lc, lq, lx, h1, h2, h3, h4, h5⟩ := h
    exact ⟨Q, .inl ⟨hc, h2⟩, lp, lq, lc, lx, by rw [hc]; exact h1, h3, h4, h5⟩
  · refine (tidy_bad W kinds hI hE hc).mono fun e W' h => ?_
    exact ⟨zPg, .inr ⟨hc, rfl⟩, none, none, 0, 0, h.1, own_nilC _ _, own_nilE _ _, h.2⟩
theorem tidy_same {Q : Pg} (kinds : Int) (hQ : TQ P kinds Q) (W : World) (hI : IAt W cp P.n P.op P.a P.b) (hE : KAt W ep P.m P.en) (ha : A64 P) :
    Calls Tryz.prog 6 #[.agg #[.int .i64 P.words, .int .i64 P.locals, .slice cp P.n cc, .slice ep P.m ec], .int .i64 kinds] W fun e W' => AnsP Q (dcode P kinds) W W' e :=
  (tidy_first kinds W hI hE ha).mono fun e W' h => by
    obtain ⟨Q', h1, h2⟩ := h
    rw [hQ.one h1]
    exact h2
theorem rtidy_same {Q : Pg} (kinds : Int) (hQ : TQ P kinds Q) (W : World) (hI : IAt W cp P.n P.op P.a P.b) (hE : KAt W ep P.m P.en) (ha : A64 P) :
    Calls Tryz.prog 13 #[.agg #[.int .i64 P.words, .int .i64 P.locals, .slice cp P.n cc, .slice ep P.m ec], .int .i64 kinds] W fun e W' => AnsP Q (dcode P kinds) W W' e := by
  rcases hQ with ⟨hc, hT⟩ | ⟨hc, rfl⟩
  · obtain ⟨rfl, _⟩ := vf_of hc
    refine (rtidy_good cp ep cc ec W hI hE ha hc).mono fun e W' h => ?_
    obtain ⟨k, lp, lq, lc, lx, h1, h2, h3, h4, h5, h6⟩ := h
    obtain ⟨k', rfl, g2, g3⟩ := hT
    have ek : k = k' := by
      rcases Nat.lt_trichotomy k k' with h | h | h
      · exact absurd h2.symm (g3 k h)
      · exact h
      · exact absurd g2.symm (h3 k' h)
    subst ek
    have hp := h2.symm
    refine ⟨lp, lq, lc, lx, ?_, ?_, ?_, h6⟩
    · rw [h1, hc, hp.w, hp.l, hp.n, hp.m]
    · rw [← hp.n]
      exact h4.congr fun j hj => by
        unfold inC
        rw [hp.op _ (by omega), hp.a _ (by omega), hp.b _ (by omega)]
    · rw [← hp.m]
      exact h5.eqv fun j hj => hp.en j (by omega)
  · refine (rtidy_bad cp ep cc ec kinds W hI hE hc).mono fun e W' h => ?_
    exact ⟨none, none, 0, 0, h.1, own_nilC _ _, own_nilE _ _, h.2⟩
end Go.Proofs.YtopggemomcoalaaGreat
