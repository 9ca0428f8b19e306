import Derived.Test.YtabmikdekkoiaaaDoorLF2
namespace Go.Proofs.YtabmikdekkoiaaaDoor
open Go.ChangeShapes Go.WideShapes Go.ChangeAt Go.RowKit
set_option linter.unusedVariables false
set_option linter.unusedSimpArgs false
variable {D : Bl} {w W W' : World} {fT V : Nat → Value} {M : Nat → Nat} {F : Nat → Nat → Value}

theorem putF_in (F : Nat → Value) (o : Nat) (vs : List Value) {j : Nat} (h : j < vs.length) : putF F o vs (o + j) = vs.getD j undef := by
  unfold putF
  rw [if_pos (by omega), show o + j - o = j by omega]
theorem putF_out (F : Nat → Value) (o : Nat) (vs : List Value) {x : Nat} (h : x < o) : putF F o vs x = F x := by
  unfold putF
  rw [if_neg (by omega)]
/-- a mark is written into a row -/
theorem FS.mark (h : FS D w fT V M F W) (hD : D.Ok w) {k g c : Nat} (hk : k < 10) (hv : V k = .slice (some ⟨g, 0, none⟩) (M k) c) (o : Nat) (vs : List Value) : FS D w fT V M (fun j => if j = k then putF (F k) o vs else F j) (W.setCells g o vs) := by
  have oa := hD.a
  have ob := hD.b
  have oc := hD.c
  have od := hD.d
  have hb : (V k).ownBlock = some g := by rw [hv]; rfl
  have hkd := (h.ls.own k hk).kind hb
  have n1 : D.tb ≠ g := by omega
  have n2 : D.lb ≠ g := by omega
  have n3 : D.ub ≠ g := by omega
  exact ⟨h.ls.put hk hv o vs, (setCells_other g vs o W _ n1).trans h.t, (setCells_other g vs o W _ n2).trans h.l, (setCells_other g vs o W _ n3).trans h.u, setCells_below _ _ _ h.be (by omega), by rw [setCells_size]; exact h.bs⟩
/-- the rows up to k are full of marks, row k up to i; those of the copies hold tokens -/
def Mk (A B : List Tk) (k i : Nat) (M : Nat → Nat) (F : Nat → Nat → Value) : Prop := (∀ j, j < k → ∀ x, x < M j * 5 → F j x = markT j x) ∧ (∀ x, x < i * 5 → F k x = markT k x) ∧ ∀ j, j < 5 → M j = (pick A B j).length ∧ M (5 + j) = (pick A B j).length ∧ F (5 + j) = TF (pick A B j)
theorem Mk.step {A B : List Tk} {k i : Nat} (h : Mk A B k i M F) (hk : k < 5) : Mk A B k (i + 1) M (fun j => if j = k then putF (F k) (i * 5) (mkL k i) else F j) := by
  refine ⟨fun j hj x hx => ?_, fun x hx => ?_, fun j hj => ?_⟩
  · show (if j = k then _ else F j) x = _
    rw [if_neg (by omega)]
    exact h.1 j hj x hx
  · show (if k = k then putF (F k) (i * 5) (mkL k i) else F k) x = _
    rw [if_pos rfl]
    by_cases hx2 : x < i * 5
    · rw [putF_out _ _ _ hx2]
      exact h.2.1 x hx2
    · obtain ⟨m0, m1, m2, m3, m4⟩ := markT_at k i
      have e : x = i * 5 + 0 ∨ x = i * 5 + 1 ∨ x = i * 5 + 2 ∨ x = i * 5 + 3 ∨ x = i * 5 + 4 := by omega
      rcases e with rfl | rfl | rfl | rfl | rfl
      · rw [putF_in _ _ _ (by simp [mkL])]; exact m0.symm
      · rw [putF_in _ _ _ (by simp [mkL])]; exact m1.symm
      · rw [putF_in _ _ _ (by simp [mkL])]; exact m2.symm
      · rw [putF_in _ _ _ (by simp [mkL])]; exact m3.symm
      · rw [putF_in _ _ _ (by simp [mkL])]; exact m4.symm
  · obtain ⟨h1, h2, h3⟩ := h.2.2 j hj
    refine ⟨h1, h2, ?_⟩
    show (if 5 + j = k then _ else F (5 + j)) = _
    rw [if_neg (by omega)]
    exact h3
theorem Mk.next {A B : List Tk} {k : Nat} (h : Mk A B k (M k) M F) : Mk A B (k + 1) 0 M F :=
  ⟨fun j hj x hx => by
    by_cases e : j = k
    · subst e; exact h.2.1 x hx
    · exact h.1 j (by omega) x hx, fun x hx => by omega, h.2.2⟩
/-! ### the grown lists -/
structure GR (D : Bl) (mb : Nat) (w : World) (fT V : Nat → Value) (M : Nat → Nat) (F : Nat → Nat → Value) (k : Nat) (Z : Nat → Value) (N : Nat → Nat) (G : Nat → Nat → Value) (W : World) : Prop where
  fs : FS D w fT V M F W
  mb : W.heap[mb]? = some (.cells (a5 Z) 25 (0, 0))
  own : ∀ j, j < k → Own W D.B 34 5 (Z j) (N j) (G j)
  rl : ∀ j, j < k → M j ≤ N j ∧ ((∃ g c, Z j = .slice (some ⟨g, 0, none⟩) (N j) c ∧ V j = .slice (some ⟨g, 0, none⟩) (M j) c) ∨ ∀ g, (Z j).ownBlock = some g → ∀ i, i < 10 → (V i).ownBlock ≠ some g)
  ax : ∀ i j, i < k → j < k → i ≠ j → ∀ g, (Z i).ownBlock = some g → (Z j).ownBlock ≠ some g
variable {mb k : Nat} {Z : Nat → Value} {N : Nat → Nat} {G : Nat → Nat → Value}
theorem GR.later (h : GR D mb w fT V M F k Z N G W) (hD : D.Ok w) (hb : Below W.heap.size W W') : GR D mb w fT V M F k Z N G W' :=
  ⟨h.fs.later hD hb, (hb.block _ (Array.getElem?_eq_some_iff.1 h.mb).1).trans h.mb, fun j hj => (h.own j hj).more hb, h.rl, h.ax⟩
/-- the array's cell is written -/
theorem GR.put (h : GR D mb w fT V M F k Z N G W) (hD : D.Ok w) (hmb : D.B ≤ mb) {i : Nat} (hi : i < 5) (v : Value) {k' : Nat} {Z' : Nat → Value} {N' : Nat → Nat} {G' : Nat → Nat → Value} (hZ : a5 (ext Z i v) = a5 Z') (ho : ∀ j, j < k' → Own W D.B 34 5 (Z' j) (N' j) (G' j)) (hr : ∀ j, j < k' → M j ≤ N' j ∧ ((∃ g c, Z' j = .slice (some ⟨g, 0, none⟩) (N' j) c ∧ V j = .slice (some ⟨g, 0, none⟩) (M j) c) ∨ ∀ g, (Z' j).ownBlock = some g → ∀ i, i < 10 → (V i).ownBlock ≠ some g)) (hx : ∀ i j, i < k' → j < k' → i ≠ j → ∀ g, (Z' i).ownBlock = some g → (Z' j).ownBlock ≠ some g) : GR D mb w fT V M F k' Z' N' G' (W.setCell ⟨mb, i, none⟩ v) := by
  have oa := hD.a
  have ob := hD.b
  have oc := hD.c
  have od := hD.d
  refine ⟨⟨lists_far h.fs.ls h.mb (by decide) (fun k hk => set_oth v hk), (set_oth v (by omega)).trans h.fs.t, (set_oth v (by omega)).trans h.fs.l, (set_oth v (by omega)).trans h.fs.u, below_set h.fs.be _ _ _ (by omega), by have := h.fs.bs; simpa using this⟩, ?_, fun j hj => (ho j hj).far fun g hg => set_oth v fun e => (ho j hj).other h.mb (by decide) (by rw [hg, e]), hr, hx⟩
  rw [setCell_blk v h.mb, a5_set Z hi, hZ]
/-- more[k] = l[k] -/
theorem GR.first (h : GR D mb w fT V M F k Z N G W) (hD : D.Ok w) (hmb : D.B ≤ mb) (hk : k < 5) : GR D mb w fT V M F (k + 1) (ext Z k (V k)) (ext N k (M k)) (ext G k (F k)) (W.setCell ⟨mb, k, none⟩ (V k)) := by
  refine h.put hD hmb hk (V k) rfl (fun j hj => ?_) (fun j hj => ?_) (fun i j hi hj hij g hg => ?_)
  · by_cases e : j = k
    · subst e
      rw [ext_at, ext_at, ext_at]
      exact h.fs.ls.own j (by omega)
    · rw [ext_ne _ _ _ e, ext_ne _ _ _ e, ext_ne _ _ _ e]
      exact h.own j (by omega)
  · by_cases e : j = k
    · subst e
      rw [ext_at, ext_at]
      refine ⟨Nat.le_refl _, ?_⟩
      rcases (h.fs.ls.own j (by omega)).form with ⟨h1, h2⟩ | ⟨g, c, h1, _⟩
      · right
        intro g hg
        rw [h1] at hg
        cases hg
      · exact .inl ⟨g, c, h1, h1⟩
    · rw [ext_ne _ _ _ e, ext_ne _ _ _ e]
      exact h.rl j (by omega)
  · have key : ∀ x, x < k → ∀ g, (Z x).ownBlock = some g → (V k).ownBlock ≠ some g := fun x hx g hg e => by
      rcases (h.rl x hx).2 with ⟨g2, c, h1, h2⟩ | h1
      · have hg2 : g2 = g := by rw [h1] at hg; simpa [Value.ownBlock] using hg
        subst hg2
        rcases h.fs.ls.apart x k (by omega) (by omega) (by omega) with h3 | h3
        · rw [h2] at h3; cases h3
        · rw [e, h2] at h3; exact h3 rfl
      · exact h1 g hg k (by omega) e
    by_cases e1 : i = k
    · subst e1
      rw [ext_at] at hg
      rw [ext_ne _ _ _ (fun e => hij e.symm)]
      intro e
      exact key j (by omega) g e hg
    · rw [ext_ne _ _ _ e1] at hg
      by_cases e2 : j = k
      · subst e2
        rw [ext_at]
        exact key i (by omega) g hg
      · rw [ext_ne _ _ _ e2]
        exact h.ax i j (by omega) (by omega) hij g hg
/-- more[k] = append(more[k], ..) -/
theorem GR.app (h : GR D mb w fT V M F (k + 1) Z N G W) (hD : D.Ok w) (hmb : D.B ≤ mb) (hk : k < 5) {v' : Value} {m : Nat} {H : Nat → Value} (ho : Own W' D.B 34 5 v' (N k + m) H) (ha : AK W 34 5 (N k) m (Z k) v' W') : GR D mb w fT V M F (k + 1) (ext Z k v') (ext N k (N k + m)) (ext G k H) (W'.setCell ⟨mb, k, none⟩ v') := by
  have oa := hD.a
  have ob := hD.b
  have oc := hD.c
  have od := hD.d
  have hbs := h.fs.bs
  rcases ha with ⟨g, cap, cur, cur', e1, e2, e3, e4, e5, e6, e7, e8, e9⟩ | ⟨e1, e2⟩
  · have hg : (Z k).ownBlock = some g := by rw [e1]; rfl
    have hgk := (h.own k (by omega)).kind hg
    have nt : ∀ (b : Nat) (cs : Array Value) (t : TypeId), 34 ≠ t → W.heap[b]? = some (.cells cs t (0, 0)) → W'.heap[b]? = some (.cells cs t (0, 0)) := fun b cs t hne hb => (e9 b (by
      rintro rfl
      rw [e3] at hb
      injection hb with hb
      injection hb with _ hb _
      exact hne hb)).trans hb
    have rl := (h.rl k (by omega)).2
    have vrow : ∀ j, j < 10 → Own W' D.B 34 5 (V j) (M j) (F j) := fun j hj => by
      by_cases e : (V j).ownBlock = some g
      · rcases rl with ⟨g2, c, h1, h2⟩ | h1
        · have hg2 : g2 = g := by rw [h1] at hg; simpa [Value.ownBlock] using hg
          subst hg2
          have hjk : j = k := by
            by_cases hjk : j = k
            · exact hjk
            · rcases h.fs.ls.apart j k hj (by omega) hjk with h3 | h3
              · rw [e] at h3; cases h3
              · rw [e, h2] at h3; exact absurd rfl h3
          subst hjk
          have hc : c = cap := by rw [h1] at e1; injection e1
          subst hc
          have hO := h.fs.ls.own j hj
          rw [h2] at hO ⊢
          obtain ⟨cu, k1, k2, k3, k4, k5, k6⟩ := hO.block
          rw [e3] at k1
          injection k1 with k1
          injection k1 with k1 _ _
          subst k1
          have hle := (h.rl j (by omega)).1
          exact Own.mk' e4 (e5.trans k2) k3 k4 k5 fun x hx => (e6 x (by omega)).trans (k6 x hx)
        · exact absurd e (h1 g hg j hj)
      · exact (h.fs.ls.own j hj).far fun b hb => e9 b fun e' => e (by rw [hb, e'])
    have hfs : FS D w fT V M F W' := by
      refine ⟨⟨vrow, h.fs.ls.apart⟩, nt _ _ _ (by decide) h.fs.t, nt _ _ _ (by decide) h.fs.l, nt _ _ _ (by decide) h.fs.u, ⟨e7.1.trans h.fs.be.os, e7.2.1.trans h.fs.be.tape, e7.2.2.trans h.fs.be.output, by rw [e8]; exact h.fs.be.size, fun x hx => (e9 x (by omega)).trans (h.fs.be.block x hx)⟩, by omega⟩
    have hG : GR D mb w fT V M F k Z N G W' := ⟨hfs, nt _ _ _ (by decide) h.mb, fun j hj => (h.own j (by omega)).far fun b hb => e9 b fun e' => h.ax j k (by omega) (by omega) (by omega) b hb (by rw [hg, e']), fun j hj => h.rl j (by omega), fun i j hi hj => h.ax i j (by omega) (by omega)⟩
    refine hG.put hD hmb hk v' rfl (fun j hj => ?_) (fun j hj => ?_) (fun i j hi hj hij b hb => ?_)
    · by_cases e : j = k
      · subst e
        rw [ext_at, ext_at, ext_at]
        exact ho
      · rw [ext_ne _ _ _ e, ext_ne _ _ _ e, ext_ne _ _ _ e]
        exact hG.own j (by omega)
    · by_cases e : j = k
      · subst e
        rw [ext_at, ext_at]
        refine ⟨by have := (h.rl j (by omega)).1; omega, ?_⟩
        rcases rl with ⟨g2, c, h1, h2⟩ | h1
        · have hg2 : g2 = g := by rw [h1] at hg; simpa [Value.ownBlock] using hg
          subst hg2
          have hc : c = cap := by rw [h1] at e1; injection e1
          subst hc
          exact .inl ⟨g2, c, e2, h2⟩
        · refine .inr fun b hb i hi => ?_
          rw [e2] at hb
          have : g = b := by simpa [Value.ownBlock] using hb
          subst this
          exact h1 g hg i hi
      · rw [ext_ne _ _ _ e, ext_ne _ _ _ e]
        exact h.rl j (by omega)
    · have hv : v'.ownBlock = some g := by rw [e2]; rfl
      by_cases x1 : i = k
      · subst x1
        rw [ext_at, hv] at hb
        rw [ext_ne _ _ _ (fun e => hij e.symm)]
        exact h.ax i j (by omega) (by omega) hij b (by rw [hg]; exact hb)
      · rw [ext_ne _ _ _ x1] at hb
        by_cases x2 : j = k
        · subst x2
          rw [ext_at, hv]
          have := h.ax i j (by omega) (by omega) hij b hb
          rw [hg] at this
          exact this
        · rw [ext_ne _ _ _ x2]
          exact h.ax i j (by omega) (by omega) hij b hb
  · have h1 := h.later hD e2
    refine h1.put hD hmb hk v' rfl (fun j hj => ?_) (fun j hj => ?_) (fun i j hi hj hij b hb => ?_)
    · by_cases e : j = k
      · subst e
        rw [ext_at, ext_at, ext_at]
        exact ho
      · rw [ext_ne _ _ _ e, ext_ne _ _ _ e, ext_ne _ _ _ e]
        exact h1.own j (by omega)
    · by_cases e : j = k
      · subst e
        rw [ext_at, ext_at]
        refine ⟨by have := (h.rl j (by omega)).1; omega, .inr fun b hb i hi e9 => ?_⟩
        rw [e1] at hb
        injection hb with hb
        have := ((h.fs.ls.own i hi).kind e9).2.1
        omega
      · rw [ext_ne _ _ _ e, ext_ne _ _ _ e]
        exact h.rl j (by omega)
    · by_cases x1 : i = k
      · subst x1
        rw [ext_at, e1] at hb
        injection hb with hb
        rw [ext_ne _ _ _ (fun e => hij e.symm)]
        intro e9
        have := ((h.own j (by omega)).kind e9).2.1
        omega
      · rw [ext_ne _ _ _ x1] at hb
        by_cases x2 : j = k
        · subst x2
          rw [ext_at, e1]
          intro e9
          injection e9 with e9
          have := ((h.own i (by omega)).kind hb).2.1
          omega
        · rw [ext_ne _ _ _ x2]
          exact h.ax i j (by omega) (by omega) hij b hb
theorem infoTkS : (Tryd.prog.info? 34).map (·.size) = some 5 := by kernel_rfl
theorem tkOne (a b : Int) : (#[.int .i64 a, .string ⟨#[]⟩, .int .u64 0, .int .i64 b, .int .i64 0] : Array Value).all (·.oneCell') = true := by simp [Value.oneCell']
theorem store_tk {ops : Array Oper} {rest : List Oper} {op : Oper} {a : Act} {w : World} {Q : Exit → Act → World → Prop} (hgd : op.guard = none) (x y : Operand) (ho : op.op = .store 34 x y) (g o : Nat) (p q : Int)
    (hx : a.eval x = .pointer (some ⟨g, o, none⟩)) (hy : a.eval y = .agg #[.int .i64 p, .string ⟨#[]⟩, .int .u64 0, .int .i64 q, .int .i64 0]) (ht : Hid (w.there g o 5))
    (h : wpList Tryd.prog ops Q rest (a.put op.dst undef) (w.setCells g o [.int .i64 p, .string ⟨#[]⟩, .int .u64 0, .int .i64 q, .int .i64 0])) : wpList Tryd.prog ops Q (op :: rest) a w :=
  wpList_store_mid hgd 34 x y ho g o _ hx hy ht.out infoTkS (tkOne _ _) h
theorem FS.mbk (h : FS D w fT V M F W) {k g c mb : Nat} {cs : Array Value} (hk : k < 10) (hv : V k = .slice (some ⟨g, 0, none⟩) (M k) c) (hm : W.heap[mb]? = some (.cells cs 25 (0, 0))) (o : Nat) (vs : List Value) : (W.setCells g o vs).heap[mb]? = some (.cells cs 25 (0, 0)) :=
  (setCells_other g vs o W mb (fun e => (h.ls.own k hk).other hm (by decide) (by rw [hv, e]; rfl))).trans hm
/-! ### what a grown list holds -/
def mixT (k m x : Nat) : Value := if x < m * 5 then markT k x else tailT k m x
def tlL (k t : Nat) : List Value := [.int .i64 (2000 + (k : Int)), .string ⟨#[]⟩, .int .u64 0, .int .i64 (t : Int), .int .i64 0]
theorem app_mix {k m n t : Nat} {G : Nat → Value} (hn : n = m + t) (hG : ∀ x, x < n * 5 → G x = mixT k m x) : ∀ x, x < (n + 1) * 5 → (cellsF G (n * 5) ++ tlL k t).getD x undef = mixT k m x := fun x hx => by
  by_cases h : x < n * 5
  · rw [List.getD_eq_getElem?_getD, List.getElem?_append_left (by rw [cellsF_len]; exact h), cellsF_at G h]
    exact hG x h
  · rw [List.getD_eq_getElem?_getD, List.getElem?_append_right (by rw [cellsF_len]; omega), cellsF_len]
    unfold mixT
    rw [if_neg (by omega)]
    obtain ⟨m0, m1, m2, m3, m4⟩ := tailT_at k m n
    have e : x = n * 5 ∨ x = n * 5 + 1 ∨ x = n * 5 + 2 ∨ x = n * 5 + 3 ∨ x = n * 5 + 4 := by omega
    have et : n - m = t := by omega
    rw [et] at m3
    rcases e with rfl | rfl | rfl | rfl | rfl
    · rw [m0, show n * 5 - n * 5 = 0 by omega]; rfl
    · rw [m1, show n * 5 + 1 - n * 5 = 1 by omega]; rfl
    · rw [m2, show n * 5 + 2 - n * 5 = 2 by omega]; rfl
    · rw [m3, show n * 5 + 3 - n * 5 = 3 by omega]; rfl
    · rw [m4, show n * 5 + 4 - n * 5 = 4 by omega]; rfl
def Dn (M : Nat → Nat) (k : Nat) (N : Nat → Nat) (G : Nat → Nat → Value) : Prop := ∀ j, j < k → N j = M j + 64 ∧ ∀ x, x < N j * 5 → G j x = mixT j (M j) x
theorem Dn.ext {k : Nat} {n : Nat} {H : Nat → Value} (h : Dn M k N G) : Dn M k (ext N k n) (ext G k H) := fun j hj => by
  rw [ext_ne _ _ _ (by omega), ext_ne _ _ _ (by omega)]
  exact h j hj
theorem Dn.next {k : Nat} (h : Dn M k N G) (h1 : N k = M k + 64) (h2 : ∀ x, x < N k * 5 → G k x = mixT k (M k) x) : Dn M (k + 1) N G := fun j hj => by
  by_cases e : j = k
  · subst e; exact ⟨h1, h2⟩
  · exact h j (by omega)
theorem AK.keepB {e t : TypeId} {size n m b : Nat} {v v' : Value} {cs : Array Value} (h : AK W e size n m v v' W') (hb : W.heap[b]? = some (.cells cs t (0, 0))) (ht : e ≠ t) : W'.heap[b]? = some (.cells cs t (0, 0)) := by
  rcases h with ⟨g, cap, cur, cur', _, _, e3, _, _, _, _, _, e9⟩ | ⟨_, e2⟩
  · refine (e9 b ?_).trans hb
    rintro rfl
    rw [e3] at hb
    injection hb with hb
    injection hb with _ hb _
    exact ht hb
  · exact (e2.block b (Array.getElem?_eq_some_iff.1 hb).1).trans hb
theorem row_same {A : List Tk} (hl : A.length ≤ 16384) {B1 B2 : Nat} {x y : Value} {m1 m2 : Nat} {F1 F2 : Nat → Value} (h1 : Own W B1 34 5 x m1 F1) (h2 : Own W B2 34 5 y m2 F2) (e1 : m1 = A.length ∧ F1 = TF A) (e2 : m2 = A.length ∧ F2 = TF A) : Calls Tryd.prog 9 #[x, y] W fun e w' => e = .returned (.bool true) ∧ Below W.heap.size W w' := by
  obtain ⟨rfl, rfl⟩ := e1
  obtain ⟨rfl, rfl⟩ := e2
  exact same_yes x y B1 B2 A hl W (own_tks.1 h1) (own_tks.1 h2)
end Go.Proofs.YtabmikdekkoiaaaDoor
