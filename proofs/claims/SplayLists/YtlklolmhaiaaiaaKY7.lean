import Derived.Test.YtlklolmhaiaaiaaKY5
import Derived.Test.YtlklolmhaiaaiaaKCmp
import Derived.Test.YtlklolmhaiaaiaaKQ1
import Derived.Deep.RegionLaw
import Derived.Deep.MidRow
import Derived.Deep.RegionHeld
namespace Go.Proofs.Ytlklolmhaiaaiaa
open Go.ChangeShapes Go.WideShapes Go.ChangeAt Go.RowKit
set_option linter.unusedVariables false

/-! ### the ways -/
def sideOf (c : Int) : Int := if c = -1 then 0 else if c = 1 then 1 else 2
def cmpE (kt ks kq : Int) (e : Ev) : Int := keyCmp kt ks kq e.t e.s e.q
def sdK (kt ks kq : Int) (E : Nat → Ev) : Tr → Int
  | .nil => 2
  | .node _ p _ => sideOf (cmpE kt ks kq (E p))
def sdL : Tr → Int
  | .nil => 2
  | .node .nil _ _ => 2
  | .node (.node _ _ _) _ _ => 0
theorem cmpN_three (x y : Int) : cmpN x y = -1 ∨ cmpN x y = 0 ∨ cmpN x y = 1 := by
  unfold cmpN
  repeat' split
  all_goals simp
theorem keyCmp_three (a b c d e f : Int) : keyCmp a b c d e f = -1 ∨ keyCmp a b c d e f = 0 ∨ keyCmp a b c d e f = 1 := by
  unfold keyCmp orN
  repeat' split
  all_goals exact cmpN_three _ _
theorem side_sdK (kt ks kq : Int) (E : Nat → Ev) : Side (sdK kt ks kq E) := fun l p r => by
  show sideOf _ = 0 ∨ sideOf _ = 1 ∨ sideOf _ = 2
  unfold sideOf
  repeat' split
  all_goals simp
theorem side_sdL : Side sdL := fun l p r => by
  cases l <;> simp [sdL]
def KBx (W : World) (kb : Nat) (kt ks kq : Int) : Prop := W.heap[kb]? = some (.cells #[.int .u64 kt, .int .i64 ks, .int .u64 kq] 30 (0, 0))
def PBx (W : World) (pb qb : Nat) : Prop := W.heap[pb]? = some (.cells #[.pointer (some ⟨qb, 0, none⟩)] 23 (0, 0))
theorem KBx.cells {W : World} {kb : Nat} {kt ks kq : Int} (h : KBx W kb kt ks kq) : W.cell? ⟨kb, 0, none⟩ = some (.int .u64 kt) ∧ W.cell? ⟨kb, 1, none⟩ = some (.int .i64 ks) ∧ W.cell? ⟨kb, 2, none⟩ = some (.int .u64 kq) := by
  unfold KBx at h
  refine ⟨?_, ?_, ?_⟩
  all_goals (unfold World.cell?; rw [h]; rfl)
theorem PBx.cell {W : World} {pb qb : Nat} (h : PBx W pb qb) : W.cell? ⟨pb, 0, none⟩ = some (.pointer (some ⟨qb, 0, none⟩)) := by
  unfold PBx at h
  unfold World.cell?
  rw [h]
  rfl
set_option maxRecDepth 100000 in
set_option maxHeartbeats 4000000 in
theorem toKey1_any (kb pb base qb g c n : Nat) (A : Ar) (f r s m k : Int) (kt ks kq : Int) (p : Nat) (W : World) (h : QW W base qb g c n A f r s m k) (hK : KBx W kb kt ks kq) (hP : PBx W pb qb) (hp : p < n) (hn : n ≤ 8193) :
    Calls Try.prog 73 #[.int .i64 (p : Int), .pointer (some ⟨kb, 0, none⟩), .pointer (some ⟨pb, 0, none⟩)] W fun e W' => e = .returned (.int .i64 (sideOf (cmpE kt ks kq (A.E p)))) ∧ Below W.heap.size W W' := by
  obtain ⟨q0, q1, q2, q3, q4, q5⟩ := h.cells
  obtain ⟨k0, k1, k2⟩ := hK.cells
  have p0 := hP.cell
  have i0 : (0 : Int) ≤ (p : Int) := by omega
  have i1 : (p : Int) < (n : Int) := by omega
  have x0 : W.cell? ⟨g, p * 8, none⟩ = some (.int .u64 (A.E p).t) := h.nd hp 0 (by decide)
  have x1 : W.cell? ⟨g, p * 8 + 1, none⟩ = some (.int .i64 (A.E p).s) := h.nd hp 1 (by decide)
  have x2 : W.cell? ⟨g, p * 8 + 2, none⟩ = some (.int .u64 (A.E p).q) := h.nd hp 2 (by decide)
  have hlt := h.lt
  have lk := lt_of_block hK
  have lp := lt_of_block hP
  have HCM := compare_any kt ks kq (A.E p).t (A.E p).s (A.E p).q W.drew
  have hthree := keyCmp_three kt ks kq (A.E p).t (A.E p).s (A.E p).q
  unfold cmpE
  generalize keyCmp kt ks kq (A.E p).t (A.E p).s (A.E p).q = cm at HCM hthree ⊢
  go_enter Try.func73, Try.ntmps73
  go_wp2_with fail
  go_region_held3 (fun w' => w'.cell? ⟨kb, 0, none⟩ = some (.int .u64 kt) ∧ w'.cell? ⟨kb, 1, none⟩ = some (.int .i64 ks) ∧ w'.cell? ⟨kb, 2, none⟩ = some (.int .u64 kq) ∧ w'.cell? ⟨pb, 0, none⟩ = some (.pointer (some ⟨qb, 0, none⟩)) ∧ w'.cell? ⟨qb, 0, none⟩ = some (.slice (some ⟨g, 0, none⟩) n c) ∧ w'.cell? ⟨g, p * 8, none⟩ = some (.int .u64 (A.E p).t) ∧ w'.cell? ⟨g, p * 8 + 1, none⟩ = some (.int .i64 (A.E p).s) ∧ w'.cell? ⟨g, p * 8 + 2, none⟩ = some (.int .u64 (A.E p).q)) (first | exact ⟨k0, k1, k2, p0, q0, x0, x1, x2⟩ | exact KP | go_keep) ((go_at_call 74; (with_reducible refine HCM.mono ?_); rintro e w1 ⟨rfl, hb1⟩; have hb0 : Below W.heap.size W w1 := (below_drewNq _ W 1).trans (hb1.mono (Nat.le_refl _)); have KP : (fun w' => w'.cell? ⟨kb, 0, none⟩ = some (.int .u64 kt) ∧ w'.cell? ⟨kb, 1, none⟩ = some (.int .i64 ks) ∧ w'.cell? ⟨kb, 2, none⟩ = some (.int .u64 kq) ∧ w'.cell? ⟨pb, 0, none⟩ = some (.pointer (some ⟨qb, 0, none⟩)) ∧ w'.cell? ⟨qb, 0, none⟩ = some (.slice (some ⟨g, 0, none⟩) n c) ∧ w'.cell? ⟨g, p * 8, none⟩ = some (.int .u64 (A.E p).t) ∧ w'.cell? ⟨g, p * 8 + 1, none⟩ = some (.int .i64 (A.E p).s) ∧ w'.cell? ⟨g, p * 8 + 2, none⟩ = some (.int .u64 (A.E p).q)) w1 := ⟨(cell_below hb0 lk).trans k0, (cell_below hb0 lk).trans k1, (cell_below hb0 lk).trans k2, (cell_below hb0 lp).trans p0, (cell_below hb0 hlt.1.1).trans q0, (cell_below (a := ⟨g, p * 8, none⟩) hb0 hlt.2.1).trans x0, (cell_below (a := ⟨g, p * 8 + 1, none⟩) hb0 hlt.2.1).trans x1, (cell_below (a := ⟨g, p * 8 + 2, none⟩) hb0 hlt.2.1).trans x2⟩))
  rcases hthree with rfl | rfl | rfl
  all_goals
    go_wp2
    go_ret
    exact ⟨rfl, (below_drewNq _ W 1).trans (hb1.mono (Nat.le_refl _))⟩
set_option maxRecDepth 100000 in
set_option maxHeartbeats 4000000 in
theorem least1_any (pb base qb g c n : Nat) (A : Ar) (f r s m k : Int) (p : Nat) (W : World) (h : QW W base qb g c n A f r s m k) (hP : PBx W pb qb) (hp : p < n) (hn : n ≤ 8193) :
    Calls Try.prog 75 #[.int .i64 (p : Int), .pointer (some ⟨pb, 0, none⟩)] W fun e W' => e = .returned (.int .i64 (if A.L p = 0 then 2 else 0)) ∧ W' = W := by
  obtain ⟨q0, q1, q2, q3, q4, q5⟩ := h.cells
  have p0 := hP.cell
  have i0 : (0 : Int) ≤ (p : Int) := by omega
  have i1 : (p : Int) < (n : Int) := by omega
  have x6 : W.cell? ⟨g, p * 8 + 6, none⟩ = some (.int .i64 (A.L p : Int)) := h.nd hp 6 (by decide)
  by_cases hz : A.L p = 0
  · have dz : ((A.L p : Int) == 0) = true := by simp [hz]
    go_enter Try.func75, Try.ntmps75
    go_wp2
    go_ret
    exact ⟨by simp, rfl⟩
  · have dz : ((A.L p : Int) == 0) = false := by simp; omega
    go_enter Try.func75, Try.ntmps75
    go_wp2
    go_ret
    exact ⟨by simp, rfl⟩
set_option maxRecDepth 100000 in
set_option maxHeartbeats 4000000 in
theorem toKey_any (qb : Nat) (kt ks kq : Int) (W : World) :
    Calls Try.prog 57 #[.pointer (some ⟨qb, 0, none⟩), .agg #[.int .u64 kt, .int .i64 ks, .int .u64 kq]] W fun e W' => e = .returned (.func (.func 73) #[] #[.pointer (some ⟨W.heap.size + 1, 0, none⟩), .pointer (some ⟨W.heap.size, 0, none⟩)]) ∧ KBx W' (W.heap.size + 1) kt ks kq ∧ PBx W' W.heap.size qb ∧ Below W.heap.size W W' := by
  go_enter Try.func57, Try.ntmps57
  go_wp2
  go_ret
  refine ⟨rfl, ?_, ?_, ((Below.refl _ W).alloc (Nat.le_refl _) _).alloc (by simp) _⟩
  · have := World.alloc_heap_new (W.alloc (.cells #[.pointer (some ⟨qb, 0, none⟩)] 23)) (.cells #[.int .u64 kt, .int .i64 ks, .int .u64 kq] 30)
    rw [World.size_alloc] at this
    exact this
  · show _ = _
    rw [Below.heap_alloc _ _ _ (by simp)]
    exact World.alloc_heap_new W _
theorem enterK (args : Array Value) (W : World) : Sem.run Try.prog (callFunc 73 args) W = .ok (.enter 73 args) W := by go_simp
theorem enterL (args : Array Value) (W : World) : Sem.run Try.prog (callFunc 75 args) W = .ok (.enter 75 args) W := by go_simp
theorem wayK {base qb g c n : Nat} {A : Ar} {f r s m : Int} {kb pb : Nat} {kt ks kq : Int} {W : World} (hK : KBx W kb kt ks kq) (hP : PBx W pb qb) (h1 : kb ≠ qb ∧ kb ≠ g) (h2 : pb ≠ qb ∧ pb ≠ g) (hn : n ≤ 8193) : WayOk 73 #[.pointer (some ⟨kb, 0, none⟩), .pointer (some ⟨pb, 0, none⟩)] base qb g c n A f r s m (sdK kt ks kq A.E) W := by
  intro W2 A2 wk t q hc hq hE hl hq0 hqn
  obtain ⟨l, r', rfl, _, _⟩ := Tr.lies_node hl hq0
  have hK2 : KBx W2 kb kt ks kq := (hc.block kb (lt_of_block hK) (by rintro (e | e); exact h1.1 e; exact h1.2 e)).trans hK
  have hP2 : PBx W2 pb qb := (hc.block pb (lt_of_block hP) (by rintro (e | e); exact h2.1 e; exact h2.2 e)).trans hP
  have h := toKey1_any kb pb base qb g c n A2 f r s m wk kt ks kq q W2 hq hK2 hP2 hqn hn
  rw [hE] at h
  exact h
theorem wayL {base qb g c n : Nat} {A : Ar} {f r s m : Int} {pb : Nat} {W : World} (hP : PBx W pb qb) (h2 : pb ≠ qb ∧ pb ≠ g) (hn : n ≤ 8193) : WayOk 75 #[.pointer (some ⟨pb, 0, none⟩)] base qb g c n A f r s m sdL W := by
  intro W2 A2 wk t q hc hq hE hl hq0 hqn
  obtain ⟨l, r', rfl, hl1, _⟩ := Tr.lies_node hl hq0
  have hP2 : PBx W2 pb qb := (hc.block pb (lt_of_block hP) (by rintro (e | e); exact h2.1 e; exact h2.2 e)).trans hP
  refine (least1_any pb base qb g c n A2 f r s m wk q W2 hq hP2 hqn hn).mono ?_
  rintro e W3 ⟨rfl, rfl⟩
  refine ⟨?_, Below.refl _ _⟩
  cases l with
  | nil => rw [show A2.L q = 0 from hl1]; rfl
  | node a b c' =>
    rw [if_neg (by rw [hl1.1]; exact hl1.2.1)]
    rfl
/-! ### the least -/
theorem least_a : ∀ (n : Nat) (t : Tr), t.size ≤ n → (openT sdL t).a = .nil
  | n, .nil, _ => by rw [openT_nil]
  | 0, .node a x b, h => by simp [Tr.size] at h
  | n + 1, .node .nil x b, h => by rw [openT_here rfl]
  | n + 1, .node (.node .nil y d) x b, h => by rw [openT_lh rfl rfl]
  | n + 1, .node (.node (.node c z e) y d) x b, h => by
    rw [openT_ll rfl rfl]
    exact least_a n (.node c z e) (by simp [Tr.size] at h ⊢; omega)
theorem least_m : ∀ (n : Nat) (t : Tr), t.size ≤ n → t ≠ .nil → (∀ p ∈ t.ps, p ≠ 0) → (openT sdL t).m ≠ 0
  | n, .nil, _, h, _ => absurd rfl h
  | 0, .node a x b, h, _, _ => by simp [Tr.size] at h
  | n + 1, .node .nil x b, h, _, hp => by rw [openT_here rfl]; exact hp x (by simp [Tr.ps])
  | n + 1, .node (.node .nil y d) x b, h, _, hp => by rw [openT_lh rfl rfl]; exact hp y (by simp [Tr.ps])
  | n + 1, .node (.node (.node c z e) y d) x b, h, _, hp => by
    rw [openT_ll rfl rfl]
    exact least_m n (.node c z e) (by simp [Tr.size] at h ⊢; omega) (by simp) (fun p hq => hp p (by simp only [Tr.ps] at hq ⊢; simp at hq ⊢; rcases hq with h | h | h <;> simp [h]))
theorem least_ps {t : Tr} (ht : t ≠ .nil) (hp : ∀ p ∈ t.ps, p ≠ 0) : t.ps = (openT sdL t).m :: (openT sdL t).b.ps := by
  have h := openT_ps side_sdL t.size t (Nat.le_refl _) hp
  rw [least_a _ t (Nat.le_refl _), midn (least_m _ t (Nat.le_refl _) ht hp)] at h
  exact h.symm
set_option maxRecDepth 100000 in
set_option maxHeartbeats 4000000 in
theorem least_any (base qb g c n : Nat) (A : Ar) (f r s m k : Int) (t0 : Tr) (q0 : Nat) (W : World) (h : QW W base qb g c n A f r s m k) (hn : n ≤ 8193) (hn0 : 0 < n) (ht : t0.lies A.L A.R q0) (hnd : t0.ps.Nodup) (hin : ∀ p ∈ t0.ps, p < n) (hz : A.L 0 = 0 ∧ A.R 0 = 0) (hk : 0 ≤ k ∧ k ≤ 4611686018427387904) (hsz : t0.size ≤ 8192) :
    Calls Try.prog 60 #[.pointer (some ⟨qb, 0, none⟩), .int .i64 (q0 : Int)] W fun e W' => ∃ (A' : Ar) (rb : Nat), e = .returned (.tuple #[.int .i64 ((openT sdL t0).m : Int), .int .i64 (rb : Int)]) ∧ QW W' base qb g c n A' f r s m (k + (openT sdL t0).k) ∧ A'.E = A.E ∧ (openT sdL t0).b.lies A'.L A'.R rb ∧ (∀ p, p ∉ t0.ps → A'.L p = A.L p ∧ A'.R p = A.R p) ∧ Ch (S2 qb g) W W' := by
  obtain ⟨W1, hW1⟩ : ∃ W1, W.alloc (.cells #[.pointer (some ⟨qb, 0, none⟩)] 23) = W1 := ⟨_, rfl⟩
  have hb1 : Below W.heap.size W W1 := by rw [← hW1]; exact (Below.refl _ W).alloc (Nat.le_refl _) _
  have hP1 : PBx W1 W.heap.size qb := by unfold PBx; rw [← hW1]; exact World.alloc_heap_new W _
  have hlt := h.lt
  have HO := open_any 75 #[.pointer (some ⟨W.heap.size, 0, none⟩)] enterL base qb g c n A f r s m k sdL side_sdL t0 q0 W1 (h.later hb1) hn hn0 ht hnd hin hz hk hsz (wayL hP1 (by omega) hn)
  have HW : Hid (W.alloc (.cells #[.pointer (some ⟨qb, 0, none⟩)] 23) = W1) := hW1
  have p0 := hP1.cell
  rw [← hW1] at p0
  clear hW1
  go_enter Try.func60, Try.ntmps60
  go_wp2_with (go_at_call 46; rw [HW.out]; (with_reducible refine HO.mono ?_); rintro e w2 ⟨A2, ra, rb, rfl, hQ2, hE2, hl1, hl2, hout, hC2⟩)
  refine bodyPost_ret (v := .tuple #[.int .i64 ((openT sdL t0).m : Int), .int .i64 (rb : Int)]) (by simp [results, Try.results60, go_sem]) rfl ?_
  exact ⟨A2, rb, rfl, hQ2, hE2, hl2, hout, (Ch.below hb1).trans hC2⟩
end Go.Proofs.Ytlklolmhaiaaiaa
namespace Go.Proofs.Ytlklolmhaiaaiaa
open Go.ChangeShapes Go.WideShapes Go.ChangeAt Go.RowKit
set_option linter.unusedVariables false
set_option linter.unusedSimpArgs false

theorem step_append_own {P : Program} {ops : Array Oper} {o : Oper} {a : Act} {w : World} {K : Act → World → Prop} {Q : Exit → Act → World → Prop} {E : Prop}
    (hg : o.guard = none) (s x : Operand) (t : TypeId) (hop : o.op = Op.call { callee := Callee.builtin Builtin.append, args := #[s, x], argTypes := #[t, t] })
    (base : Nat) (e : TypeId) (i : TypeInfo) (z : Value) (size bytes : Nat) (ht : P.underlying t = some (.slice e)) (hi : P.info? e = some i) (hz : i.zero = some z)
    (hsize : i.size = size) (hby : i.bytes = bytes) (hzs : z.cells.size = size) (hsz : 0 < size)
    (v : Value) (n : Nat) (xs : List Value) (hs : a.eval s = v) (hown : w.ownsRow base e size v n xs)
    (ad : Addr) (m c : Nat) (news : List Value) (hx : a.eval x = .slice (some ad) m c) (hl : news.length = m * size) (hnews : ∀ j u, news[j]? = some u → w.cell? (ad.add j) = some u) (h1 : ∀ u ∈ news, u.oneCell' = true)
    (h63 : n + m ≤ maxLen) (hbytes : (n + m) * bytes ≤ 140737488355328) (hbase : base ≤ w.heap.size)
    (hK : ∀ v' w', w'.ownsRow base e size v' (n + m) (xs ++ news) → w.grownBy w' v.ownBlock → (v'.ownBlock = v.ownBlock ∨ v'.ownBlock = some w.heap.size) → K (a.put o.dst v') w') :
    if Region.wanted o (yielded ops a.tmps) = true then Oper.wp P o a w K Q else E := by
  have hw : Region.wanted o (yielded ops a.tmps) = true := by simp [Region.wanted, hg]
  rw [if_pos hw]
  obtain ⟨v', w', hr, h2, h3, h4, h5⟩ := run_append_own_at (P := P) w base t o.type e i z size bytes ht hi hz hsize hby hzs hsz v n xs hown ad m c news hl hnews h1 h63 hbytes hbase
  unfold Oper.wp execOp
  simp only [hop, resolve, invoke, builtin, Sem.run_bind, Sem.run_pure, Result.andThen_ok, List.map_toArray, List.map_cons, List.map_nil, hs, hx, hr]
  exact hK _ _ h2 h3 h5
theorem cells_new (w : World) (cs : List Value) (t : TypeId) : ∀ j u, cs[j]? = some u → (w.alloc (.cells cs.toArray t)).cell? ((⟨w.heap.size, 0, none⟩ : Addr).add j) = some u := by
  intro j u hj
  rw [addr_add0, Nat.zero_add]
  unfold World.cell?
  rw [World.alloc_heap_new]
  simpa using hj
theorem belowDA (w : World) (o : Obj) : Below w.heap.size w (w.drew.alloc o) := (show Below w.heap.size w w.drew from ⟨rfl, rfl, rfl, Nat.le_refl _, fun _ _ => rfl⟩).alloc (Nat.le_refl _) o

theorem step_store_mid {P : Program} {ops : Array Oper} {o : Oper} {a : Act} {w : World} {K : Act → World → Prop} {Q : Exit → Act → World → Prop} {E : Prop} (hg : o.guard = none) (ty : TypeId) (x y : Operand) (ho : o.op = .store ty x y)
    (b off : Nat) (cells : Array Value) (hx : a.eval x = .pointer (some ⟨b, off, none⟩)) (hy : a.eval y = .agg cells)
    (ht : w.there b off cells.size) (hi : (P.info? ty).map (·.size) = some cells.size) (h1 : cells.all (·.oneCell') = true)
    (h : K (a.put o.dst undef) (w.setCells b off cells.toList)) : if Region.wanted o (yielded ops a.tmps) = true then Oper.wp P o a w K Q else E := by
  have hw : Region.wanted o (yielded ops a.tmps) = true := by simp [Region.wanted, hg]
  rw [if_pos hw]
  exact wp_store_mid ty x y ho b off cells hx hy ht hi h1 h
theorem q6c {W : World} {b : Nat} {c0 c1 c2 c3 c4 c5 : Value} {t : TypeId} (h : W.heap[b]? = some (.cells #[c0, c1, c2, c3, c4, c5] t (0, 0))) : W.cell? ⟨b, 0, none⟩ = some c0 ∧ W.cell? ⟨b, 1, none⟩ = some c1 ∧ W.cell? ⟨b, 2, none⟩ = some c2 ∧ W.cell? ⟨b, 3, none⟩ = some c3 ∧ W.cell? ⟨b, 4, none⟩ = some c4 ∧ W.cell? ⟨b, 5, none⟩ = some c5 := by
  refine ⟨?_, ?_, ?_, ?_, ?_, ?_⟩
  all_goals (unfold World.cell?; rw [h]; rfl)
/-- six cells written -/
theorem put6 {W : World} {b : Nat} {a0 a1 a2 a3 a4 a5 : Value} {t : TypeId} (h : W.heap[b]? = some (.cells #[a0, a1, a2, a3, a4, a5] t (0, 0))) (c0 c1 c2 c3 c4 c5 : Value) (W' : World) (e : (((((W.setCell ⟨b, 0, none⟩ c0).setCell ⟨b, 1, none⟩ c1).setCell ⟨b, 2, none⟩ c2).setCell ⟨b, 3, none⟩ c3).setCell ⟨b, 4, none⟩ c4).setCell ⟨b, 5, none⟩ c5 = W') :
    W'.heap[b]? = some (.cells #[c0, c1, c2, c3, c4, c5] t (0, 0)) ∧ (∀ k, k ≠ b → W'.heap[k]? = W.heap[k]?) ∧ ∀ B w0, Below B w0 W → B ≤ b → Below B w0 W' := by
  subst e
  refine ⟨?_, fun k hk => ?_, fun B w0 hb hB => ?_⟩
  · rw [setCell_block _ _ _ _ (setCell_block _ _ _ _ (setCell_block _ _ _ _ (setCell_block _ _ _ _ (setCell_block _ _ _ _ (setCell_block _ _ _ _ h)))))]
    rfl
  · rw [Below.heap_setCell _ _ _ _ hk, Below.heap_setCell _ _ _ _ hk, Below.heap_setCell _ _ _ _ hk, Below.heap_setCell _ _ _ _ hk, Below.heap_setCell _ _ _ _ hk, Below.heap_setCell _ _ _ _ hk]
  · exact (((((hb.setCell (p := ⟨b, 0, none⟩) hB _).setCell (p := ⟨b, 1, none⟩) hB _).setCell (p := ⟨b, 2, none⟩) hB _).setCell (p := ⟨b, 3, none⟩) hB _).setCell (p := ⟨b, 4, none⟩) hB _).setCell (p := ⟨b, 5, none⟩) hB _
def updE (F : Nat → Ev) (i : Nat) (v : Ev) : Nat → Ev := fun j => if j = i then v else F j
def Ar.set (A : Ar) (p : Nat) (e : Ev) (l r : Nat) : Ar := ⟨updE A.E p e, upd A.L p l, upd A.R p r⟩
def evL (e : Ev) : List Value := [.int .u64 e.t, .int .i64 e.s, .int .u64 e.q, .int .i64 e.d, .int .i64 e.k, .int .i64 e.v]
def evV (e : Ev) : Value := .agg #[.int .u64 e.t, .int .i64 e.s, .int .u64 e.q, .int .i64 e.d, .int .i64 e.k, .int .i64 e.v]
theorem ndF_set (A : Ar) (p : Nat) (e : Ev) (l r : Nat) (j : Nat) : putF (ndF A) (p * 8) (evL e ++ [.int .i64 (l : Int), .int .i64 (r : Int)]) j = ndF (A.set p e l r) j := by
  obtain ⟨i, y, hy, rfl⟩ : ∃ i y, y < 8 ∧ j = i * 8 + y := ⟨j / 8, j % 8, by omega, by omega⟩
  rw [ndF_at _ _ _ hy]
  unfold putF
  by_cases hi : i = p
  · subst hi
    rw [if_pos (by simp [evL]; omega)]
    have : y = 0 ∨ y = 1 ∨ y = 2 ∨ y = 3 ∨ y = 4 ∨ y = 5 ∨ y = 6 ∨ y = 7 := by omega
    rcases this with rfl | rfl | rfl | rfl | rfl | rfl | rfl | rfl <;> simp [evL, Ar.set, updE, upd, ndC]
  · rw [if_neg (by simp [evL]; omega), ndF_at _ _ _ hy]
    simp [Ar.set, updE, upd, hi]
theorem QW.setNode {W : World} {base qb g c n : Nat} {A : Ar} {f r s m k : Int} (h : QW W base qb g c n A f r s m k) (p : Nat) (e : Ev) (l x : Nat) : QW (W.setCells g (p * 8) (evL e ++ [.int .i64 (l : Int), .int .i64 (x : Int)])) base qb g c n (A.set p e l x) f r s m k :=
  ⟨h.box.far fun k e => by cases e; exact setCells_other g _ _ _ _ fun e => h.ne e.symm, (Own.put h.row (p * 8) _).congr fun j _ => ndF_set A p e l x j, h.ne⟩
theorem Ch.sets (S : Nat → Prop) (W : World) (b o : Nat) (vs : List Value) (h : S b) : Ch S W (W.setCells b o vs) := by
  have hb : Below 0 W (W.setCells b o vs) := setCells_below vs o W (Below.refl _ _) (Nat.zero_le _)
  exact ⟨hb.os, hb.tape, hb.output, hb.size, fun k _ hs => setCells_other b vs o W k fun e => hs (e ▸ h)⟩
set_option maxRecDepth 100000 in
set_option maxHeartbeats 4000000 in
theorem leave_any (base qb g c n : Nat) (A : Ar) (f : Nat) (r : Int) (s : Nat) (m k : Int) (p : Nat) (W : World) (h : QW W base qb g c n A f r s m k) (hp : p < n) (hn : n ≤ 8193) (hs : 0 < s ∧ s ≤ 8192) :
    Calls Try.prog 49 #[.pointer (some ⟨qb, 0, none⟩), .int .i64 (p : Int)] W fun e W' => e = .returned (evV (A.E p)) ∧ QW W' base qb g c n (A.set p ev0 f 0) p r ((s - 1 : Nat) : Int) m k ∧ Ch (S2 qb g) W W' := by
  obtain ⟨W1, hW1⟩ : ∃ W1, (W.alloc (.cells #[.int .u64 0, .int .i64 0, .int .u64 0, .int .i64 0, .int .i64 0, .int .i64 0] 64)).alloc (.cells #[.int .u64 (A.E p).t, .int .i64 (A.E p).s, .int .u64 (A.E p).q, .int .i64 (A.E p).d, .int .i64 (A.E p).k, .int .i64 (A.E p).v] 64) = W1 := ⟨_, rfl⟩
  have hb1 : Below W.heap.size W W1 := by rw [← hW1]; exact ((Below.refl _ W).alloc (Nat.le_refl _) _).alloc (by simp) _
  have hr1 : W1.heap[W.heap.size]? = some (.cells #[.int .u64 0, .int .i64 0, .int .u64 0, .int .i64 0, .int .i64 0, .int .i64 0] 64 (0, 0)) := by rw [← hW1, Below.heap_alloc _ _ _ (by simp)]; exact World.alloc_heap_new W _
  have he1 : W1.heap[W.heap.size + 1]? = some (.cells #[.int .u64 (A.E p).t, .int .i64 (A.E p).s, .int .u64 (A.E p).q, .int .i64 (A.E p).d, .int .i64 (A.E p).k, .int .i64 (A.E p).v] 64 (0, 0)) := by
    rw [← hW1]
    have := World.alloc_heap_new (W.alloc (.cells #[.int .u64 0, .int .i64 0, .int .u64 0, .int .i64 0, .int .i64 0, .int .i64 0] 64)) (.cells #[.int .u64 (A.E p).t, .int .i64 (A.E p).s, .int .u64 (A.E p).q, .int .i64 (A.E p).d, .int .i64 (A.E p).k, .int .i64 (A.E p).v] 64)
    rwa [World.size_alloc] at this
  have HW : Hid ((W.alloc (.cells #[.int .u64 0, .int .i64 0, .int .u64 0, .int .i64 0, .int .i64 0, .int .i64 0] 64)).alloc (.cells #[.int .u64 (A.E p).t, .int .i64 (A.E p).s, .int .u64 (A.E p).q, .int .i64 (A.E p).d, .int .i64 (A.E p).k, .int .i64 (A.E p).v] 64) = W1) := hW1
  clear hW1
  have i0 : (0 : Int) ≤ (p : Int) := by omega
  have i1 : (p : Int) < (n : Int) := by omega
  obtain ⟨q0, q1, q2, q3, q4, q5⟩ := h.cells
  have x0 : W.cell? ⟨g, p * 8, none⟩ = some (.int .u64 (A.E p).t) := h.nd hp 0 (by decide)
  have x1 : W.cell? ⟨g, p * 8 + 1, none⟩ = some (.int .i64 (A.E p).s) := h.nd hp 1 (by decide)
  have x2 : W.cell? ⟨g, p * 8 + 2, none⟩ = some (.int .u64 (A.E p).q) := h.nd hp 2 (by decide)
  have x3 : W.cell? ⟨g, p * 8 + 3, none⟩ = some (.int .i64 (A.E p).d) := h.nd hp 3 (by decide)
  have x4 : W.cell? ⟨g, p * 8 + 4, none⟩ = some (.int .i64 (A.E p).k) := h.nd hp 4 (by decide)
  have x5 : W.cell? ⟨g, p * 8 + 5, none⟩ = some (.int .i64 (A.E p).v) := h.nd hp 5 (by decide)
  have hlt := h.lt
  have l1 : qb < W.heap.size := hlt.1.1
  have l2 : g < W.heap.size := hlt.2.1
  go_enter Try.func49, Try.ntmps49
  go_wp2_with fail
  rw [HW.out]
  have hQ1 := h.later hb1
  clear q0 q1 q2 q3 q4 q5 x0 x1 x2 x3 x4 x5
  obtain ⟨q0, q1, q2, q3, q4, q5⟩ := hQ1.cells
  have hne := hQ1.ne
  have hne' : qb ≠ g := fun e => hne e.symm
  refine wp_region_held_drew (S := fun W9 => W9.heap[qb]? = W1.heap[qb]?) (by kernel_rfl) rfl (fun hHeld => ?_)
  refine wpAnyH_take (i := 0) (v := ?hv0) rfl (by kernel_rfl) (by kernel_rfl) (by kernel_rfl) (fun _ _ _ h => h) (Or.inl ⟨by rfl, ?hy0⟩) (by assumption) ?hr0
  case hy0 => ((intro W9 hSw; have q0' := (World.cell?_of_block (a := ⟨qb, 0, none⟩) hSw).trans q0; have q1' := (World.cell?_of_block (a := ⟨qb, 1, none⟩) hSw).trans q1; go_simp); try with_reducible rfl)
  simp only [List.getElem_toArray, List.getElem_cons_zero, List.getElem_cons_succ, Act.put, List.setIfInBounds_toArray, List.set_cons_zero, List.set_cons_succ]
  refine wpAnyH_take (i := 1) (v := ?hv1) rfl (by kernel_rfl) (by kernel_rfl) (by kernel_rfl) (fun _ _ _ h => h) (Or.inl ⟨by rfl, ?hy1⟩) (by assumption) ?hr1
  case hy1 => ((intro W9 hSw; have q0' := (World.cell?_of_block (a := ⟨qb, 0, none⟩) hSw).trans q0; have q1' := (World.cell?_of_block (a := ⟨qb, 1, none⟩) hSw).trans q1; go_simp); try with_reducible rfl)
  simp only [List.getElem_toArray, List.getElem_cons_zero, List.getElem_cons_succ, Act.put, List.setIfInBounds_toArray, List.set_cons_zero, List.set_cons_succ]
  refine wpAnyH_take (i := 2) (v := ?hv2) rfl (by kernel_rfl) (by kernel_rfl) (by kernel_rfl) (fun _ _ _ h => h) (Or.inl ⟨by rfl, ?hy2⟩) (by assumption) ?hr2
  case hy2 => ((intro W9 hSw; have q0' := (World.cell?_of_block (a := ⟨qb, 0, none⟩) hSw).trans q0; have q1' := (World.cell?_of_block (a := ⟨qb, 1, none⟩) hSw).trans q1; go_simp); try with_reducible rfl)
  simp only [List.getElem_toArray, List.getElem_cons_zero, List.getElem_cons_succ, Act.put, List.setIfInBounds_toArray, List.set_cons_zero, List.set_cons_succ]
  refine wpAnyH_take (i := 3) (v := ?hv3) rfl (by kernel_rfl) (by kernel_rfl) (by kernel_rfl) (fun _ _ _ h => h) (Or.inl ⟨by rfl, ?hy3⟩) (by assumption) ?hr3
  case hy3 => ((intro W9 hSw; have q0' := (World.cell?_of_block (a := ⟨qb, 0, none⟩) hSw).trans q0; have q1' := (World.cell?_of_block (a := ⟨qb, 1, none⟩) hSw).trans q1; go_simp); try with_reducible rfl)
  simp only [List.getElem_toArray, List.getElem_cons_zero, List.getElem_cons_succ, Act.put, List.setIfInBounds_toArray, List.set_cons_zero, List.set_cons_succ]
  refine wpAnyH_take (i := 4) (v := ?hv4) rfl (by kernel_rfl) (by kernel_rfl) (by kernel_rfl) (fun _ _ _ h => h) (Or.inl ⟨by rfl, ?hy4⟩) (by assumption) ?hr4
  case hy4 => ((intro W9 hSw; have q0' := (World.cell?_of_block (a := ⟨qb, 0, none⟩) hSw).trans q0; have q1' := (World.cell?_of_block (a := ⟨qb, 1, none⟩) hSw).trans q1; go_simp); try with_reducible rfl)
  simp only [List.getElem_toArray, List.getElem_cons_zero, List.getElem_cons_succ, Act.put, List.setIfInBounds_toArray, List.set_cons_zero, List.set_cons_succ]
  refine wpAnyH_take (i := 5) (v := ?hv5) rfl (by kernel_rfl) (by kernel_rfl) (by kernel_rfl) (fun _ _ _ h => h) (Or.inl ⟨by rfl, ?hy5⟩) (by assumption) ?hr5
  case hy5 => ((intro W9 hSw; have q0' := (World.cell?_of_block (a := ⟨qb, 0, none⟩) hSw).trans q0; have q1' := (World.cell?_of_block (a := ⟨qb, 1, none⟩) hSw).trans q1; go_simp); try with_reducible rfl)
  simp only [List.getElem_toArray, List.getElem_cons_zero, List.getElem_cons_succ, Act.put, List.setIfInBounds_toArray, List.set_cons_zero, List.set_cons_succ]
  refine wpAnyH_take (i := 6) (v := ?hv6) rfl (by kernel_rfl) (by kernel_rfl) (by kernel_rfl) (fun _ _ _ h => h) (Or.inl ⟨by rfl, ?hy6⟩) (by assumption) ?hr6
  case hy6 => ((intro W9 hSw; have q0' := (World.cell?_of_block (a := ⟨qb, 0, none⟩) hSw).trans q0; have q1' := (World.cell?_of_block (a := ⟨qb, 1, none⟩) hSw).trans q1; go_simp); try with_reducible rfl)
  simp only [List.getElem_toArray, List.getElem_cons_zero, List.getElem_cons_succ, Act.put, List.setIfInBounds_toArray, List.set_cons_zero, List.set_cons_succ]
  refine wpAnyH_take (i := 7) (v := ?hv7) rfl (by kernel_rfl) (by kernel_rfl) (by kernel_rfl) (fun _ _ _ h => h) (Or.inl ⟨by rfl, ?hy7⟩) (by assumption) ?hr7
  case hy7 => ((intro W9 hSw; have q0' := (World.cell?_of_block (a := ⟨qb, 0, none⟩) hSw).trans q0; have q1' := (World.cell?_of_block (a := ⟨qb, 1, none⟩) hSw).trans q1; go_simp); try with_reducible rfl)
  simp only [List.getElem_toArray, List.getElem_cons_zero, List.getElem_cons_succ, Act.put, List.setIfInBounds_toArray, List.set_cons_zero, List.set_cons_succ]
  refine wpAnyH_take (i := 8) (v := ?hv8) rfl (by kernel_rfl) (by kernel_rfl) (by kernel_rfl) (fun _ _ _ h => h) (Or.inl ⟨by rfl, ?hy8⟩) (by assumption) ?hr8
  case hy8 => ((intro W9 hSw; have q0' := (World.cell?_of_block (a := ⟨qb, 0, none⟩) hSw).trans q0; have q1' := (World.cell?_of_block (a := ⟨qb, 1, none⟩) hSw).trans q1; go_simp); try with_reducible rfl)
  simp only [List.getElem_toArray, List.getElem_cons_zero, List.getElem_cons_succ, Act.put, List.setIfInBounds_toArray, List.set_cons_zero, List.set_cons_succ]
  refine wpAnyH_take (i := 9) (v := ?hv9) rfl (by kernel_rfl) (by kernel_rfl) (by kernel_rfl) (fun _ _ _ h => h) (Or.inl ⟨by rfl, ?hy9⟩) (by assumption) ?hr9
  case hy9 => ((intro W9 hSw; have q0' := (World.cell?_of_block (a := ⟨qb, 0, none⟩) hSw).trans q0; have q1' := (World.cell?_of_block (a := ⟨qb, 1, none⟩) hSw).trans q1; go_simp); try with_reducible rfl)
  simp only [List.getElem_toArray, List.getElem_cons_zero, List.getElem_cons_succ, Act.put, List.setIfInBounds_toArray, List.set_cons_zero, List.set_cons_succ]
  refine wpAnyH_take (i := 10) (v := ?hv10) rfl (by kernel_rfl) (by kernel_rfl) (by kernel_rfl) (fun _ _ _ h => h) (Or.inl ⟨by rfl, ?hy10⟩) (by assumption) ?hr10
  case hy10 => ((intro W9 hSw; have q0' := (World.cell?_of_block (a := ⟨qb, 0, none⟩) hSw).trans q0; have q1' := (World.cell?_of_block (a := ⟨qb, 1, none⟩) hSw).trans q1; go_simp); try with_reducible rfl)
  simp only [List.getElem_toArray, List.getElem_cons_zero, List.getElem_cons_succ, Act.put, List.setIfInBounds_toArray, List.set_cons_zero, List.set_cons_succ]
  refine wpAnyH_take (i := 11) (v := ?hv11) rfl (by kernel_rfl) (by kernel_rfl) (by kernel_rfl) (fun _ _ _ h => h) (Or.inl ⟨by rfl, ?hy11⟩) (by assumption) ?hr11
  case hy11 => ((intro W9 hSw; have q0' := (World.cell?_of_block (a := ⟨qb, 0, none⟩) hSw).trans q0; have q1' := (World.cell?_of_block (a := ⟨qb, 1, none⟩) hSw).trans q1; go_simp); try with_reducible rfl)
  simp only [List.getElem_toArray, List.getElem_cons_zero, List.getElem_cons_succ, Act.put, List.setIfInBounds_toArray, List.set_cons_zero, List.set_cons_succ]
  refine wpAnyH_ready (rs := [12]) (by kernel_rfl) (by simp) (AllReadyH.cons rfl (fun KK hK => ?_) AllReadyH.nil)
  dsimp -proj only [List.getElem_toArray, List.getElem_cons_zero, List.getElem_cons_succ]
  have hQd := hQ1.later (below_drewNq _ W1 1)
  refine step_store_mid rfl 67 _ _ rfl g (p * 8) _ rfl rfl (by exact hQd.row.there (o := p * 8) (n := 8) (by omega)) (by kernel_rfl) (by kernel_rfl) ?_
  refine hK.out _ _ (setCells_other g _ _ _ _ hne') (fun hHeld => ?_)
  clear hK KK
  simp only [List.getElem_toArray, List.getElem_cons_zero, List.getElem_cons_succ, Act.put, List.setIfInBounds_toArray, List.set_cons_zero, List.set_cons_succ]
  refine wpAnyH_done (by kernel_rfl) ?_ _
  have hQ2 := hQd.setNode p ev0 f 0
  have hc2 : Ch (S2 qb g) W1 ((W1.drewN 1).setCells g (p * 8) (evL ev0 ++ [.int .i64 (f : Int), .int .i64 0])) := (Ch.drew _ _ 1).trans (Ch.sets _ _ _ _ _ (.inr rfl))
  generalize hw2 : (World.setCells _ g (p * 8) _) = w2
  have hQ2' : QW w2 base qb g c n (A.set p ev0 f 0) f r s m k := by rw [← hw2]; exact hQ2
  have hC2 : Ch (S2 qb g) W1 w2 := by rw [← hw2]; exact hc2
  clear hw2 hQ2 hc2 hQd q0 q1 q2 q3 q4 q5
  obtain ⟨q0, q1, q2, q3, q4, q5⟩ := hQ2'.cells
  have qf1 := own_frozen hQ2'.box 1
  have hQ3 := hQ2'.setFree p
  obtain ⟨u0, u1, u2, u3, u4, u5⟩ := hQ3.cells
  have uf3 := own_frozen hQ3.box 3
  have hQ4 := hQ3.setSize ((s - 1 : Nat) : Int)
  have es : IntKind.i64.wrap ((s : Int) - 1) = ((s - 1 : Nat) : Int) := by rw [IntKind.wrap_i64]; omega
  have hl1 := lt_of_block he1
  have hC4 : Ch (S2 qb g) W1 ((w2.setCell ⟨qb, 1, none⟩ (.int .i64 (p : Int))).setCell ⟨qb, 3, none⟩ (.int .i64 ((s - 1 : Nat) : Int))) := (hC2.trans (Ch.set _ _ _ _ _ (.inl rfl))).trans (Ch.set _ _ _ _ _ (.inl rfl))
  have he4 := (hC4.block _ hl1 (by rintro (e | e) <;> omega)).trans he1
  have hr4 := (hC4.block _ (by omega) (by rintro (e | e) <;> omega)).trans hr1
  obtain ⟨v0, v1, v2, v3, v4, v5⟩ := q6c he4
  obtain ⟨r0, r1, r2, r3, r4, r5⟩ := q6c hr4
  have rf := frz hr4
  have rf0 := rf 0
  have rf1 := rf 1
  have rf2 := rf 2
  have rf3 := rf 3
  have rf4 := rf 4
  have rf5 := rf 5
  clear rf
  go_wp2
  have hl0 := hr1
  generalize hWF : (World.setCell (World.setCell (World.setCell (World.setCell (World.setCell (World.setCell _ _ _) _ _) _ _) _ _) _ _) ⟨W.heap.size, 5, none⟩ _) = wF
  obtain ⟨p1, p2, p3⟩ := put6 hr4 _ _ _ _ _ _ wF hWF
  obtain ⟨d0, d1, d2, d3, d4, d5⟩ := q6c p1
  refine bodyPost_ret (v := evV (A.E p)) (by simp [results, Try.results49, go_sem, d0, d1, d2, d3, d4, d5, evV]; try rfl) rfl ?_
  refine ⟨rfl, ⟨hQ4.box.far fun j e => (by cases e; exact p2 qb (by omega)), hQ4.row.far fun j e => (by cases e; exact p2 g (by omega)), hQ4.ne⟩, ?_⟩
  have hcF : Ch (S2 qb g) W _ := (Ch.below hb1).trans hC4
  have hbF := p3 0 _ (Below.refl 0 _) (Nat.zero_le _)
  exact ⟨hbF.os.trans hcF.os, hbF.tape.trans hcF.tape, hbF.output.trans hcF.output, Nat.le_trans hcF.size hbF.size, fun j hj hs => (p2 j (by omega)).trans (hcF.block j hj hs)⟩
end Go.Proofs.Ytlklolmhaiaaiaa
