import Derived.Test.YtopggemomcoalaaGreatJVB
import Derived.Laws.CopyOwn
import Derived.Test.YtopggemomcoalaaGreatJV3
import Derived.Test.YtopggemomcoalaaGreatJV5
import Derived.Test.YtopggemomcoalaaGreatJG1
import Derived.BigQuiet
import Derived.Test.YtopggemomcoalaaGreatJV7
import Derived.Test.YtopggemomcoalaaGreatJV13
namespace Go.Proofs.YtopggemomcoalaaGreat
open Go.ChangeShapes Go.WideShapes Go.ChangeAt Go.RowKit
set_option linter.unusedVariables false

theorem run_copy_wide {P : Program} (w : World) (dT sT ty elem : TypeId) (size g o dLen dCap : Nat) (a : Addr) (sLen sCap : Nat) (cur : Array Value) (t : TypeId) (cs : List Value)
    (hu : P.underlying dT = some (.slice elem)) (hs : (P.info? elem).map (·.size) = some size)
    (hg : w.heap[g]? = some (.cells cur t (0, 0))) (hn : cs.length = Nat.min sLen dLen * size)
    (hsrc : ∀ j v, cs[j]? = some v → w.cell? (a.add j) = some v) (hfit : o + cs.length ≤ cur.size) (h1 : ∀ v ∈ cs, v.oneCell' = true) :
    (Builtin.copy_ #[dT, sT] ty #[.slice (some ⟨g, o, none⟩) dLen dCap, .slice (some a) sLen sCap]).run P w =
      .ok (goInt (Nat.min sLen dLen)) (w.setRow g (cur.toList.take o ++ cs ++ cur.toList.drop (o + cs.length)).toArray) := by
  have hl := run_firstCells_some (P := P) w size (Nat.min sLen dLen) a sLen sCap cs hn hsrc
  have hst := run_storeCells_at P g o t cs 0 cur w hg (by simpa using hfit) h1
  cases hq : P.info? elem with
  | none => simp [hq] at hs
  | some i =>
    have hi : i.size = size := by simpa [hq] using hs
    simp [Builtin.copy_, run_underlying hu, Builtin.lenOf, sizeOf, typeInfo, hq, hi, hl, hst]
theorem run_copy_zero {P : Program} (w : World) (dT sT ty elem : TypeId) (d a : Option Addr) (dLen dCap sCap : Nat) (hu : P.underlying dT = some (.slice elem)) (hs : (P.info? elem).isSome) :
    (Builtin.copy_ #[dT, sT] ty #[.slice d dLen dCap, .slice a 0 sCap]).run P w = .ok (goInt 0) w := by
  cases hq : P.info? elem with
  | none => simp [hq] at hs
  | some i =>
    have hl : ∀ (x : Addr), (loadCells x 0).run P w = .ok #[] w := fun x => by simpa using run_loadCells_list (P := P) w x [] (by simp)
    have h0 : Nat.min 0 dLen = 0 := Nat.zero_min _
    cases d <;> cases a <;> simp [Builtin.copy_, run_underlying hu, Builtin.lenOf, Builtin.firstCells, sizeOf, typeInfo, hq, h0, storeCells, hl]
/-- n elements of s cells go over to the head of a row of the call's own -/
theorem wpList_copy_head {P : Program} {w : World} {ops : Array Oper} {rest : List Oper} {o : Oper} {a : Act} {Q : Exit → Act → World → Prop} (hgd : o.guard = none) (d s : Operand) (dT sT : TypeId)
    (ho : o.op = .call { callee := .builtin .copy, args := #[d, s], argTypes := #[dT, sT] }) (elem : TypeId) (size : Nat) (hu : P.underlying dT = some (.slice elem)) (hsz : (P.info? elem).map (·.size) = some size)
    (base g dLen dCap n sCap : Nat) (sp : Option Addr) (hd : a.eval d = .slice (some ⟨g, 0, none⟩) dLen dCap) (hs : a.eval s = .slice sp n sCap) (hle : n ≤ dLen)
    (F G : Nat → Value) (hown : Own w base elem size (.slice (some ⟨g, 0, none⟩) dLen dCap) dLen F) (h1 : ∀ j, j < n * size → (G j).oneCell' = true)
    (hsrc : n = 0 ∨ ∃ ad, sp = some ad ∧ ∀ j, j < n * size → w.cell? (ad.add j) = some (G j)) (B : Nat) (w0 : World) (hb : Below B w0 w) (hBg : B ≤ g)
    (h : ∀ w', Hid (Own w' base elem size (.slice (some ⟨g, 0, none⟩) dLen dCap) dLen (fun j => if j < n * size then G j else F j)) → Below B w0 w' → wpList P ops Q rest (a.put o.dst (goInt n)) w') :
    wpList P ops Q (o :: rest) a w := by
  obtain ⟨cur, hg, hcs, hnc, hcm, hbg, hF⟩ := hown.block
  have hmin : Nat.min n dLen = n := Nat.min_eq_left hle
  rcases Nat.eq_zero_or_pos n with h0 | hp
  · subst h0
    have hrun := run_copy_zero (P := P) w dT sT o.type elem (some ⟨g, 0, none⟩) sp dLen dCap sCap hu (by cases hq : P.info? elem with | none => simp [hq] at hsz | some i => rfl)
    refine wpList_plain hgd fun K hK => ?_
    unfold Oper.wp
    simp [execOp, ho, resolve, invoke, builtin, hd, hs, hrun, Result.andThen]
    refine hK _ _ (h w ?_ hb)
    exact hown.congr fun j _ => by rw [if_neg (by omega)]
  · obtain ⟨ad, rfl, hc⟩ : ∃ ad, sp = some ad ∧ ∀ j, j < n * size → w.cell? (ad.add j) = some (G j) := by
      rcases hsrc with h | h
      · omega
      · exact h
    have hle2 : n * size ≤ cur.size := by rw [hcs]; exact Nat.mul_le_mul_right _ (Nat.le_trans hle hnc)
    have hrun := run_copy_wide (P := P) w dT sT o.type elem size g 0 dLen dCap ad n sCap cur elem (cellsF G (n * size)) hu hsz hg (by rw [cellsF_len, hmin])
      (fun j v hj => by
        have hlt : j < n * size := by
          have := (List.getElem?_eq_some_iff.1 hj).1
          rw [cellsF_len] at this
          exact this
        rw [cellsF_at _ hlt] at hj
        rw [hc j hlt]
        exact hj) (by rw [cellsF_len]; omega)
      (fun v hv => by
        unfold cellsF at hv
        obtain ⟨j, hj, rfl⟩ := List.mem_map.1 hv
        exact h1 j (List.mem_range.1 hj))
    rw [hmin] at hrun
    refine wpList_plain hgd fun K hK => ?_
    unfold Oper.wp
    simp [execOp, ho, resolve, invoke, builtin, hd, hs, hrun, Result.andThen]
    refine hK _ _ (h _ ?_ (below_setRow hb hBg _))
    refine Own.mk' (setRow_heap w g cur _ elem _ hg) ?_ hnc hcm hbg fun j hj => ?_
    · simp [cellsF_len]
      omega
    · have hj' : j < cur.size := by rw [hcs]; exact Nat.lt_of_lt_of_le hj (Nat.mul_le_mul_right _ hnc)
      by_cases hjn : j < n * size
      · rw [if_pos hjn]
        have : (cellsF G (n * size) ++ cur.toList.drop (n * size))[j]? = some (G j) := by
          rw [List.getElem?_append_left (by rw [cellsF_len]; exact hjn), cellsF_at _ hjn]
        simpa [cellsF_len] using this
      · rw [if_neg hjn]
        have : (cellsF G (n * size) ++ cur.toList.drop (n * size))[j]? = some (F j) := by
          rw [List.getElem?_append_right (by rw [cellsF_len]; omega), cellsF_len, List.getElem?_drop]
          rw [show n * size + (j - n * size) = j by omega]
          simpa using hF j hj
        simpa [cellsF_len] using this
end Go.Proofs.YtopggemomcoalaaGreat
namespace Go.Proofs.YtopggemomcoalaaGreat
open Go.ChangeShapes Go.WideShapes Go.ChangeAt Go.RowKit
set_option linter.unusedVariables false

def inC (op a b : Nat → Int) (x : Nat) : Value := .int .i64 (if x % 3 = 0 then op (x / 3) else if x % 3 = 1 then a (x / 3) else b (x / 3))
theorem inC_one (op a b : Nat → Int) (x : Nat) : (inC op a b x).oneCell' = true := rfl
theorem IAt.cellsAt {w : World} {g o n : Nat} {op a b : Nat → Int} (hc : ∀ j, j < n → w.cell? ⟨g, o + j * 3, none⟩ = some (.int .i64 (op j)) ∧ w.cell? ⟨g, o + j * 3 + 1, none⟩ = some (.int .i64 (a j)) ∧ w.cell? ⟨g, o + j * 3 + 2, none⟩ = some (.int .i64 (b j))) : ∀ x, x < n * 3 → w.cell? ⟨g, o + x, none⟩ = some (inC op a b x) := fun x hx => by
  obtain ⟨i, r, hr, rfl⟩ : ∃ i r, r < 3 ∧ x = i * 3 + r := ⟨x / 3, x % 3, by omega, by omega⟩
  obtain ⟨c0, c1, c2⟩ := hc i (by omega)
  have e1 : (i * 3 + r) / 3 = i := by omega
  have e2 : (i * 3 + r) % 3 = r := by omega
  unfold inC
  rw [e1, e2, ← Nat.add_assoc]
  match r, hr with
  | 0, _ => exact c0
  | 1, _ => exact c1
  | 2, _ => exact c2
theorem iat_own {W : World} {base g n c : Nat} {op a b : Nat → Int} (h : Own W base 36 3 (.slice (some ⟨g, 0, none⟩) n c) n (inC op a b)) : IAt W (some ⟨g, 0, none⟩) n op a b := by
  obtain ⟨cur, h1, _⟩ := h.block
  refine .inr ⟨g, 0, rfl, (Array.getElem?_eq_some_iff.1 h1).1, fun j hj => ?_⟩
  have e0 := h.cell (j := j * 3) (by omega)
  have e1 := h.cell (j := j * 3 + 1) (by omega)
  have e2 := h.cell (j := j * 3 + 2) (by omega)
  unfold inC at e0 e1 e2
  rw [show (j * 3) % 3 = 0 by omega, show (j * 3) / 3 = j by omega, if_pos rfl] at e0
  rw [show (j * 3 + 1) % 3 = 1 by omega, show (j * 3 + 1) / 3 = j by omega, if_neg (by decide), if_pos rfl] at e1
  rw [show (j * 3 + 2) % 3 = 2 by omega, show (j * 3 + 2) / 3 = j by omega, if_neg (by decide), if_neg (by decide)] at e2
  rw [Nat.zero_add]
  exact ⟨e0, e1, e2⟩
theorem kat_cells {W : World} {g n : Nat} {K : Nat → Int} (h : W.heap[g]? = some (.cells (intsL K n).toArray 3 (0, 0))) : KAt W (some ⟨g, 0, none⟩) n K := by
  refine .inr ⟨g, 0, rfl, (Array.getElem?_eq_some_iff.1 h).1, fun j hj => ?_⟩
  unfold World.cell?
  rw [h]
  have := intsL_get (K := K) hj
  simpa using this
theorem own_of {W : World} {base : Nat} {t : TypeId} {s m : Nat} {v : Value} {xs : List Value} (h : W.ownsRow base t s v m xs) : Own W base t s v m (fun j => xs.getD j undef) := by
  unfold Own
  have h2 := cellsF_of xs
  rw [h.1] at h2
  rw [← h2]
  exact h
theorem infoIns : (Tryz.prog.info? 36).map (fun i => (i.zero, i.size, i.bytes)) = some (some (.agg #[.int .i64 0, .int .i64 0, .int .i64 0]), 3, 24) := by kernel_rfl
/-- a program lies there -/
def PAt (W : World) (P : Pg) (v : PgV) : Prop := IAt W v.cp P.n P.op P.a P.b ∧ KAt W v.ep P.m P.en
theorem PAt.below {W W' : World} {P : Pg} {v : PgV} (h : PAt W P v) (hb : Below W.heap.size W W') : PAt W' P v := ⟨h.1.below hb, h.2.below hb⟩
def pv (P : Pg) (v : PgV) : Value := .agg #[.int .i64 P.words, .int .i64 P.locals, .slice v.cp P.n v.cc, .slice v.ep P.m v.ec]
def roomyP (P : Pg) : Prop := P.n * 24 ≤ 140737488351232 ∧ P.m ≤ 17592186044416
set_option maxRecDepth 100000 in
set_option maxHeartbeats 4000000 in
theorem copyProgram_new (P : Pg) (v : PgV) (w : World) (h : PAt w P v) (hs : roomyP P) :
    Calls Tryz.prog 7 #[.agg #[.int .i64 P.words, .int .i64 P.locals, .slice v.cp P.n v.cc, .slice v.ep P.m v.ec]] w fun e w' => ∃ v' : PgV, e = .returned (.agg #[.int .i64 P.words, .int .i64 P.locals, .slice v'.cp P.n v'.cc, .slice v'.ep P.m v'.ec]) ∧ PAt w' P v' ∧ Below w.heap.size w w' ∧ (∀ g o, v'.cp = some ⟨g, o, none⟩ → w.heap.size ≤ g ∧ g < w'.heap.size) ∧ ∀ g o, v'.ep = some ⟨g, o, none⟩ → w.heap.size ≤ g ∧ g < w'.heap.size := by
  obtain ⟨hs1, hs2⟩ := hs
  obtain ⟨i5, hi5, ha5, hb5, hc5⟩ := info_parts infoIns
  have hsz : (Tryz.prog.info? 36).map (·.size) = some 3 := by simp [hi5, hb5]
  obtain ⟨wp, hwp⟩ : ∃ wp, (w.alloc (.cells #[.int .i64 P.words, .int .i64 P.locals, .slice v.cp P.n v.cc, .slice v.ep P.m v.ec] 25)).alloc (.cells #[.int .i64 0, .int .i64 0, .slice none 0 0, .slice none 0 0] 25) = wp := ⟨_, rfl⟩
  have hbp : Below w.heap.size w wp := by rw [← hwp]; exact ((Below.refl _ w).alloc (Nat.le_refl _) _).alloc (by simp) _
  have hbox : wp.heap[w.heap.size]? = some (.cells #[.int .i64 P.words, .int .i64 P.locals, .slice v.cp P.n v.cc, .slice v.ep P.m v.ec] 25 (0, 0)) := by
    rw [← hwp, Below.heap_alloc _ _ _ (by simp)]
    exact World.alloc_heap_new w _
  have hres : wp.heap[w.heap.size + 1]? = some (.cells #[.int .i64 0, .int .i64 0, .slice none 0 0, .slice none 0 0] 25 (0, 0)) := by
    rw [← hwp]
    have := World.alloc_heap_new (w.alloc (.cells #[.int .i64 P.words, .int .i64 P.locals, .slice v.cp P.n v.cc, .slice v.ep P.m v.ec] 25)) (.cells #[.int .i64 0, .int .i64 0, .slice none 0 0, .slice none 0 0] 25)
    rwa [World.size_alloc] at this
  have hszp : wp.heap.size = w.heap.size + 2 := by rw [← hwp]; simp
  have HB : Hid ((w.alloc (.cells #[.int .i64 P.words, .int .i64 P.locals, .slice v.cp P.n v.cc, .slice v.ep P.m v.ec] 25)).alloc (.cells #[.int .i64 0, .int .i64 0, .slice none 0 0, .slice none 0 0] 25) = wp) := hwp
  obtain ⟨p0, p1, p2, p3⟩ := cells4 hbox
  have hI := h.1.below hbp
  clear hwp
  go_enter Tryz.func7, Tryz.ntmps7
  go_wp2_with (at_make; rw [HB.out]; refine wpList_make_full _ rfl (.tmp 6) (.tmp 6) 22 rfl wp.heap.size 36 i5 _ 3 Tryz.underlying22 hi5 ha5 hb5 .i64 .i64 P.n P.n P.n rfl rfl rfl rfl ?c1 ?c2 ?c3 ?_)
  case c1 => rw [hc5]; omega
  case c2 => unfold maxLen; omega
  case c3 => exact Nat.le_refl _
  intro w1 hown hgrow
  have hb1 : Below wp.heap.size wp w1 := (Below.refl _ _).grown hgrow (Nat.le_refl _) (by simp)
  have hI1 := hI.below hb1
  rw [hszp] at hb1
  obtain ⟨F1, hO1⟩ : ∃ F1, Own w1 (w.heap.size + 2) 36 3 (.slice (some ⟨(w.heap.size + 2), 0, none⟩) P.n P.n) P.n F1 := ⟨_, own_of hown⟩
  have hsrc : P.n = 0 ∨ ∃ ad, v.cp = some ad ∧ ∀ j, j < P.n * 3 → w1.cell? (ad.add j) = some (inC P.op P.a P.b j) := by
    rcases hI1 with h0 | ⟨g, o, e, _, hc⟩
    · exact .inl h0
    · exact .inr ⟨_, e, fun j hj => by rw [addr_add0]; exact IAt.cellsAt hc j hj⟩
  obtain ⟨q0, q1, q2, q3⟩ := cells4 ((hb1.block _ (by omega)).trans hbox)
  have HO1 : Hid (Own w1 (w.heap.size + 2) 36 3 (.slice (some ⟨(w.heap.size + 2), 0, none⟩) P.n P.n) P.n F1) := hO1
  have HSRC : Hid (P.n = 0 ∨ ∃ ad, v.cp = some ad ∧ ∀ j, j < P.n * 3 → w1.cell? (ad.add j) = some (inC P.op P.a P.b j)) := hsrc
  clear hown hgrow hO1 hsrc p0 p1 p2 p3
  go_wp2_with (refine wpList_copy_head rfl (.tmp 8) (.tmp 10) 22 22 rfl 36 3 Tryz.underlying22 hsz (w.heap.size + 2) (w.heap.size + 2) P.n P.n P.n v.cc v.cp rfl rfl (Nat.le_refl _) F1 (inC P.op P.a P.b) HO1.out (fun j _ => inC_one _ _ _ j) HSRC.out (w.heap.size + 2) wp hb1 (Nat.le_refl _) ?_; intro w2 h2 hb2; have hbx2 := (hb2.block _ (by omega)).trans hbox; obtain ⟨r0, r1, r2, r3⟩ := cells4 hbx2; have rf := frz hbx2)
  obtain ⟨wA, hwA⟩ : ∃ wA, w2.setCell ⟨w.heap.size, 2, none⟩ (.slice (some ⟨w.heap.size + 2, 0, none⟩) P.n P.n) = wA := ⟨_, rfl⟩
  rw [hwA]
  have hboxA : wA.heap[w.heap.size]? = some (.cells #[.int .i64 P.words, .int .i64 P.locals, .slice (some ⟨w.heap.size + 2, 0, none⟩) P.n P.n, .slice v.ep P.m v.ec] 25 (0, 0)) := by rw [← hwA, setCell_block _ _ _ _ hbx2]; rfl
  have hresA : wA.heap[w.heap.size + 1]? = some (.cells #[.int .i64 0, .int .i64 0, .slice none 0 0, .slice none 0 0] 25 (0, 0)) := by
    rw [← hwA, Below.heap_setCell _ _ _ _ (by show w.heap.size + 1 ≠ w.heap.size; omega)]
    exact (hb2.block _ (by omega)).trans hres
  have hO2 : Own wA (w.heap.size + 2) 36 3 (.slice (some ⟨w.heap.size + 2, 0, none⟩) P.n P.n) P.n (inC P.op P.a P.b) := by
    refine (h2.out.congr fun j hj => ?_).far (W' := wA) fun k hk => ?_
    · rw [if_pos hj]
    · cases hk
      rw [← hwA]
      exact Below.heap_setCell _ _ _ _ (by show w.heap.size + 2 ≠ w.heap.size; omega)
  have hbA : Below w.heap.size w wA := by
    rw [← hwA]
    exact (hbp.trans (hb2.mono (by omega))).setCell (p := ⟨w.heap.size, 2, none⟩) (Nat.le_refl _) _
  have hltA : w.heap.size + 2 < wA.heap.size := by
    obtain ⟨cur, k1, _⟩ := hO2.block
    exact (Array.getElem?_eq_some_iff.1 k1).1
  have HCI := copyInts_any v.ep P.m v.ec P.en wA hs2 (h.2.below hbA)
  clear hwA h2 hb2 hbx2 r0 r1 r2 r3 rf hres hbox q0 q1 q2 q3 hI hI1 hb1 HSRC HO1 HB h
  refine HCI.mono ?_
  rintro e w4 ⟨rfl, z1, z2, z3⟩
  obtain ⟨eb, heb⟩ : ∃ eb, wA.heap.size = eb := ⟨_, rfl⟩
  rw [heb] at z1 ⊢
  have hbox4 := (z2.block _ (by omega)).trans hboxA
  have hres4 := (z2.block _ (by omega)).trans hresA
  have hb4 := hbA.trans (z2.mono hbA.size)
  have hO4 : Own w4 (w.heap.size + 2) 36 3 (.slice (some ⟨w.heap.size + 2, 0, none⟩) P.n P.n) P.n (inC P.op P.a P.b) := hO2.far fun k hk => by cases hk; exact z2.block _ hltA
  obtain ⟨r0, r1, r2, r3⟩ := cells4 hbox4
  have rf := frz hbox4
  have rf3 := rf 3
  obtain ⟨s0, s1, s2, s3⟩ := cells4 hres4
  have sf := frz hres4
  have sf0 := sf 0
  have sf1 := sf 1
  have sf2 := sf 2
  have sf3 := sf 3
  clear HCI hO2 hresA hboxA z2 rf sf
  go_wp2
  generalize hWF : (World.setCell (World.setCell (World.setCell (World.setCell _ _ _) _ _) _ _) _ _) = wF
  have hwF : wF = ((((w4.setCell ⟨w.heap.size, 3, none⟩ (.slice (some ⟨eb, 0, none⟩) P.m P.m)).setCell ⟨w.heap.size + 1, 0, none⟩ (.int .i64 P.words)).setCell ⟨w.heap.size + 1, 1, none⟩ (.int .i64 P.locals)).setCell ⟨w.heap.size + 1, 2, none⟩ (.slice (some ⟨w.heap.size + 2, 0, none⟩) P.n P.n)).setCell ⟨w.heap.size + 1, 3, none⟩ (.slice (some ⟨eb, 0, none⟩) P.m P.m) := hWF.symm
  clear hWF
  have hF : wF.heap[w.heap.size + 1]? = some (.cells #[.int .i64 P.words, .int .i64 P.locals, .slice (some ⟨w.heap.size + 2, 0, none⟩) P.n P.n, .slice (some ⟨eb, 0, none⟩) P.m P.m] 25 (0, 0)) := by
    have h0 : (w4.setCell ⟨w.heap.size, 3, none⟩ (.slice (some ⟨eb, 0, none⟩) P.m P.m)).heap[w.heap.size + 1]? = some (.cells #[.int .i64 0, .int .i64 0, .slice none 0 0, .slice none 0 0] 25 (0, 0)) := (Below.heap_setCell _ _ _ _ (by show w.heap.size + 1 ≠ w.heap.size; omega)).trans hres4
    rw [hwF, setCell_block _ _ _ _ (setCell_block _ _ _ _ (setCell_block _ _ _ _ (setCell_block _ _ _ _ h0)))]
    rfl
  have far : ∀ k, k ≠ w.heap.size → k ≠ w.heap.size + 1 → wF.heap[k]? = w4.heap[k]? := fun k h1 h2 => by
    rw [hwF, Below.heap_setCell _ _ _ _ h2, Below.heap_setCell _ _ _ _ h2, Below.heap_setCell _ _ _ _ h2, Below.heap_setCell _ _ _ _ h2, Below.heap_setCell _ _ _ _ h1]
  have hbF : Below w.heap.size w wF := by
    rw [hwF]
    exact ((((hb4.setCell (p := ⟨w.heap.size, 3, none⟩) (Nat.le_refl _) _).setCell (p := ⟨w.heap.size + 1, 0, none⟩) (Nat.le_succ _) _).setCell (p := ⟨w.heap.size + 1, 1, none⟩) (Nat.le_succ _) _).setCell (p := ⟨w.heap.size + 1, 2, none⟩) (Nat.le_succ _) _).setCell (p := ⟨w.heap.size + 1, 3, none⟩) (Nat.le_succ _) _
  obtain ⟨d0, d1, d2, d3⟩ := cells4 hF
  have hszF : wF.heap.size = w4.heap.size := by rw [hwF]; simp [World.setCell]
  have hsz4 : eb < w4.heap.size := (Array.getElem?_eq_some_iff.1 z1).1
  refine bodyPost_ret (v := .agg #[.int .i64 P.words, .int .i64 P.locals, .slice (some ⟨w.heap.size + 2, 0, none⟩) P.n P.n, .slice (some ⟨eb, 0, none⟩) P.m P.m]) (by simp [results, Tryz.results7, go_sem, d0, d1, d2, d3]; try rfl) rfl ?_
  refine ⟨⟨some ⟨w.heap.size + 2, 0, none⟩, P.n, some ⟨eb, 0, none⟩, P.m⟩, rfl, ⟨iat_own (hO4.far fun k hk => ?_), kat_cells ((far eb (by omega) (by omega)).trans z1)⟩, hbF, fun g o e => (by cases e; omega), fun g o e => (by cases e; omega)⟩
  have hk' : k = w.heap.size + 2 := by simpa [Value.ownBlock] using hk.symm
  exact far _ (by omega) (by omega)
theorem copyProgram_any (P : Pg) (v : PgV) (w : World) (h : PAt w P v) (hs : roomyP P) :
    Calls Tryz.prog 7 #[.agg #[.int .i64 P.words, .int .i64 P.locals, .slice v.cp P.n v.cc, .slice v.ep P.m v.ec]] w fun e w' => ∃ v' : PgV, e = .returned (.agg #[.int .i64 P.words, .int .i64 P.locals, .slice v'.cp P.n v'.cc, .slice v'.ep P.m v'.ec]) ∧ PAt w' P v' ∧ Below w.heap.size w w' := (copyProgram_new P v w h hs).mono (by
  rintro e w' ⟨v', h1, h2, h3, _⟩
  exact ⟨v', h1, h2, h3⟩)

/-! ### the same again -/
theorem neq_ins (x y z : Int) (W : World) : (binOp .neq 36 (.agg #[.int .i64 x, .int .i64 y, .int .i64 z]) (.agg #[.int .i64 x, .int .i64 y, .int .i64 z])).run Tryz.prog W = .ok (.bool false) W := by
  go_simp
attribute [-go_sem] run_eql_struct in
set_option maxRecDepth 100000 in
set_option maxHeartbeats 1000000 in
theorem sameCode_yes (p q : Option Addr) (n c d : Nat) (op a b : Nat → Int) (hn : n ≤ 17592186044416) (w : World) (hp : IAt w p n op a b) (hq : IAt w q n op a b) :
    Calls Tryz.prog 25 #[.slice p n c, .slice q n d] w fun e w' => e = .returned (.bool true) ∧ Below w.heap.size w w' := by
  have HE := neq_ins
  go_enter Tryz.func25, Tryz.ntmps25
  go_wp2
  go_loopw [13] (fun v wr => ∃ i : Nat, v = .int .i64 i ∧ i ≤ n ∧ Below w.heap.size w wr) (fun v _ => n - (intOf v).toNat)
  case atStart => exact ⟨0, rfl, Nat.zero_le _, Below.refl _ _⟩
  case round =>
    obtain ⟨i, rfl, hi, hbel⟩ := hrel
    by_cases hlt : i < n
    · obtain h0 | ⟨b1, o1, hp1, hl1, hc1⟩ := hp.below hbel
      · omega
      obtain h0 | ⟨b2, o2, hp2, hl2, hc2⟩ := hq.below hbel
      · omega
      obtain ⟨x0, x1, x2⟩ := hc1 i hlt
      obtain ⟨y0, y1, y2⟩ := hc2 i hlt
      have dl : decide ((i : Int) < n) = true := decide_eq_true (by omega)
      have hm := meas0 hlt
      have i0 : (0 : Int) ≤ (i : Int) := by omega
      have i1 : (i : Int) < (n : Int) := by omega
      subst hp1 hp2
      clear hc1 hc2 hl1 hl2
      go_wp2
      go_quiet (fail)
      go_wp2
      exact ⟨⟨i + 1, rfl, hlt, hbel.trans (below_drewNq _ _ _)⟩, hm⟩
    · have dl : decide ((i : Int) < n) = false := decide_eq_false (by omega)
      clear hp hq
      go_wp2
      go_ret
      exact ⟨rfl, hbel⟩
set_option maxRecDepth 100000 in
set_option maxHeartbeats 1000000 in
theorem sameProgram_yes (P : Pg) (v v' : PgV) (w : World) (h : PAt w P v) (h' : PAt w P v') (hs : roomyP P) :
    Calls Tryz.prog 9 #[.agg #[.int .i64 P.words, .int .i64 P.locals, .slice v.cp P.n v.cc, .slice v.ep P.m v.ec], .agg #[.int .i64 P.words, .int .i64 P.locals, .slice v'.cp P.n v'.cc, .slice v'.ep P.m v'.ec]] w fun e w' => e = .returned (.bool true) ∧ Below w.heap.size w w' := by
  obtain ⟨hs1, hs2⟩ := hs
  have hb : Below w.heap.size w ((w.alloc (.cells #[.int .i64 P.words, .int .i64 P.locals, .slice v.cp P.n v.cc, .slice v.ep P.m v.ec] 25)).alloc (.cells #[.int .i64 P.words, .int .i64 P.locals, .slice v'.cp P.n v'.cc, .slice v'.ep P.m v'.ec] 25)) := ((Below.refl _ w).alloc (Nat.le_refl _) _).alloc (by simp) _
  obtain ⟨wp, hwp⟩ : ∃ wp, (w.alloc (.cells #[.int .i64 P.words, .int .i64 P.locals, .slice v.cp P.n v.cc, .slice v.ep P.m v.ec] 25)).alloc (.cells #[.int .i64 P.words, .int .i64 P.locals, .slice v'.cp P.n v'.cc, .slice v'.ep P.m v'.ec] 25) = wp := ⟨_, rfl⟩
  have hbox1 : wp.heap[w.heap.size]? = some (.cells #[.int .i64 P.words, .int .i64 P.locals, .slice v.cp P.n v.cc, .slice v.ep P.m v.ec] 25 (0, 0)) := by
    rw [← hwp, Below.heap_alloc _ _ _ (by simp)]
    exact World.alloc_heap_new w _
  have hbox2 : wp.heap[w.heap.size + 1]? = some (.cells #[.int .i64 P.words, .int .i64 P.locals, .slice v'.cp P.n v'.cc, .slice v'.ep P.m v'.ec] 25 (0, 0)) := by
    rw [← hwp]
    have := World.alloc_heap_new (w.alloc (.cells #[.int .i64 P.words, .int .i64 P.locals, .slice v.cp P.n v.cc, .slice v.ep P.m v.ec] 25)) (.cells #[.int .i64 P.words, .int .i64 P.locals, .slice v'.cp P.n v'.cc, .slice v'.ep P.m v'.ec] 25)
    rwa [World.size_alloc] at this
  have hszp : w.heap.size + 1 < wp.heap.size := by rw [← hwp]; simp
  rw [hwp] at hb
  have HC := sameCode_yes v.cp v'.cp P.n v.cc v'.cc P.op P.a P.b (by omega) wp (h.1.below hb) (h'.1.below hb)
  have hk := h.2.below hb
  have hk' := h'.2.below hb
  have HB : Hid ((w.alloc (.cells #[.int .i64 P.words, .int .i64 P.locals, .slice v.cp P.n v.cc, .slice v.ep P.m v.ec] 25)).alloc (.cells #[.int .i64 P.words, .int .i64 P.locals, .slice v'.cp P.n v'.cc, .slice v'.ep P.m v'.ec] 25) = wp) := hwp
  clear hwp h h'
  go_enter Tryz.func9, Tryz.ntmps9
  go_wp2_with (first | (go_at_call 25; rw [HB.out]; (with_reducible refine HC.mono ?_); rintro e w1 ⟨rfl, z1⟩; obtain ⟨a0, a1, a2, a3⟩ := cells4 ((z1.block _ (by omega)).trans hbox1); obtain ⟨b0, b1, b2, b3⟩ := cells4 ((z1.block _ (by omega)).trans hbox2); have HI := sameInts_any v.ep v'.ep P.m P.m v.ec v'.ec P.en P.en hs2 w1 (hk.below z1) (hk'.below z1); rw [decide_eq_true rfl, sameF_yes (fun _ _ => rfl)] at HI) | (go_at_call 26; (with_reducible refine HI.mono ?_); rintro e w2 ⟨rfl, z2⟩))
  go_ret
  exact ⟨rfl, (hb.trans (z1.mono hb.size)).trans (z2.mono (Nat.le_trans hb.size z1.size))⟩
end Go.Proofs.YtopggemomcoalaaGreat
namespace Go.Proofs.YtopggemomcoalaaGreat
open Go.ChangeShapes Go.WideShapes Go.ChangeAt Go.RowKit
set_option linter.unusedVariables false

set_option maxRecDepth 100000 in
theorem rverify_any (P : Pg) (v : PgV) (kinds : Int) (w : World) (h : PAt w P v) :
    Calls Tryz.prog 8 #[.agg #[.int .i64 P.words, .int .i64 P.locals, .slice v.cp P.n v.cc, .slice v.ep P.m v.ec], .int .i64 kinds] w fun e w' => e = .returned (.int .i64 (dcode P kinds)) ∧ Below w.heap.size w w' := by
  have hb0 : Below w.heap.size w (w.alloc (.cells #[.int .i64 P.words, .int .i64 P.locals, .slice v.cp P.n v.cc, .slice v.ep P.m v.ec] 25)) := (Below.refl _ w).alloc (Nat.le_refl _) _
  have HD := rDepths_any P v kinds _ (h.1.below hb0) (h.2.below hb0)
  clear h
  go_enter Tryz.func8, Tryz.ntmps8
  go_wp2_with (go_at_call 24; (with_reducible refine HD.mono ?_); rintro e w1 ⟨r, c, rfl, z1, z2⟩)
  go_ret
  exact ⟨by rw [← z2.1]; rfl, hb0.trans (z1.mono hb0.size)⟩
end Go.Proofs.YtopggemomcoalaaGreat
