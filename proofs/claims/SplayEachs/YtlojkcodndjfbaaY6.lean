import Derived.Test.YtlojkcodndjfbaaY5
import Derived.Test.YtlojkcodndjfbaaCmp
namespace Go.Proofs.Ytlojkcodndjfbaa
open Go.ChangeShapes Go.WideShapes Go.ChangeAt Go.RowKit
set_option linter.unusedVariables false

/-! ### the ways -/
def sideOf (c : Int) : Int := if c = -1 then 0 else if c = 1 then 1 else 2
def cmpE (kt ks kq : Int) (e : Ev) : Int := keyCmp kt ks kq e.t e.s e.q
def sdK (kt ks kq : Int) (E : Nat → Ev) : Tr → Int
  | .nil => 2
  | .node _ p _ => sideOf (cmpE kt ks kq (E p))
def sdL : Tr → Int
  | .nil => 2
  | .node .nil _ _ => 2
  | .node (.node _ _ _) _ _ => 0
theorem cmpN_three (x y : Int) : cmpN x y = -1 ∨ cmpN x y = 0 ∨ cmpN x y = 1 := by
  unfold cmpN
  repeat' split
  all_goals simp
theorem keyCmp_three (a b c d e f : Int) : keyCmp a b c d e f = -1 ∨ keyCmp a b c d e f = 0 ∨ keyCmp a b c d e f = 1 := by
  unfold keyCmp orN
  repeat' split
  all_goals exact cmpN_three _ _
theorem side_sdK (kt ks kq : Int) (E : Nat → Ev) : Side (sdK kt ks kq E) := fun l p r => by
  show sideOf _ = 0 ∨ sideOf _ = 1 ∨ sideOf _ = 2
  unfold sideOf
  repeat' split
  all_goals simp
theorem side_sdL : Side sdL := fun l p r => by
  cases l <;> simp [sdL]
def KBx (W : World) (kb : Nat) (kt ks kq : Int) : Prop := W.heap[kb]? = some (.cells #[.int .u64 kt, .int .i64 ks, .int .u64 kq] 25 (0, 0))
def PBx (W : World) (pb qb : Nat) : Prop := W.heap[pb]? = some (.cells #[.pointer (some ⟨qb, 0, none⟩)] 29 (0, 0))
theorem KBx.cells {W : World} {kb : Nat} {kt ks kq : Int} (h : KBx W kb kt ks kq) : W.cell? ⟨kb, 0, none⟩ = some (.int .u64 kt) ∧ W.cell? ⟨kb, 1, none⟩ = some (.int .i64 ks) ∧ W.cell? ⟨kb, 2, none⟩ = some (.int .u64 kq) := by
  unfold KBx at h
  refine ⟨?_, ?_, ?_⟩
  all_goals (unfold World.cell?; rw [h]; rfl)
theorem PBx.cell {W : World} {pb qb : Nat} (h : PBx W pb qb) : W.cell? ⟨pb, 0, none⟩ = some (.pointer (some ⟨qb, 0, none⟩)) := by
  unfold PBx at h
  unfold World.cell?
  rw [h]
  rfl
set_option maxRecDepth 100000 in
set_option maxHeartbeats 4000000 in
theorem toKey1_any (kb pb base qb g c n : Nat) (A : Ar) (f r s m k : Int) (kt ks kq : Int) (p : Nat) (W : World) (h : QW W base qb g c n A f r s m k) (hK : KBx W kb kt ks kq) (hP : PBx W pb qb) (hp : p < n) (hn : n ≤ 8193) :
    Calls Try.prog 54 #[.int .i64 (p : Int), .pointer (some ⟨kb, 0, none⟩), .pointer (some ⟨pb, 0, none⟩)] W fun e W' => e = .returned (.int .i64 (sideOf (cmpE kt ks kq (A.E p)))) ∧ Below W.heap.size W W' := by
  obtain ⟨q0, q1, q2, q3, q4, q5⟩ := h.cells
  obtain ⟨k0, k1, k2⟩ := hK.cells
  have p0 := hP.cell
  have i0 : (0 : Int) ≤ (p : Int) := by omega
  have i1 : (p : Int) < (n : Int) := by omega
  have x0 : W.cell? ⟨g, p * 8, none⟩ = some (.int .u64 (A.E p).t) := h.nd hp 0 (by decide)
  have x1 : W.cell? ⟨g, p * 8 + 1, none⟩ = some (.int .i64 (A.E p).s) := h.nd hp 1 (by decide)
  have x2 : W.cell? ⟨g, p * 8 + 2, none⟩ = some (.int .u64 (A.E p).q) := h.nd hp 2 (by decide)
  have hlt := h.lt
  have lk := lt_of_block hK
  have lp := lt_of_block hP
  have HCM := compare_any kt ks kq (A.E p).t (A.E p).s (A.E p).q W.drew
  have hthree := keyCmp_three kt ks kq (A.E p).t (A.E p).s (A.E p).q
  unfold cmpE
  generalize keyCmp kt ks kq (A.E p).t (A.E p).s (A.E p).q = cm at HCM hthree ⊢
  go_enter Try.func54, Try.ntmps54
  go_wp2_with fail
  go_region_held3 (fun w' => w'.cell? ⟨kb, 0, none⟩ = some (.int .u64 kt) ∧ w'.cell? ⟨kb, 1, none⟩ = some (.int .i64 ks) ∧ w'.cell? ⟨kb, 2, none⟩ = some (.int .u64 kq) ∧ w'.cell? ⟨pb, 0, none⟩ = some (.pointer (some ⟨qb, 0, none⟩)) ∧ w'.cell? ⟨qb, 0, none⟩ = some (.slice (some ⟨g, 0, none⟩) n c) ∧ w'.cell? ⟨g, p * 8, none⟩ = some (.int .u64 (A.E p).t) ∧ w'.cell? ⟨g, p * 8 + 1, none⟩ = some (.int .i64 (A.E p).s) ∧ w'.cell? ⟨g, p * 8 + 2, none⟩ = some (.int .u64 (A.E p).q)) (first | exact ⟨k0, k1, k2, p0, q0, x0, x1, x2⟩ | exact KP | go_keep) ((go_at_call 55; (with_reducible refine HCM.mono ?_); rintro e w1 ⟨rfl, hb1⟩; have hb0 : Below W.heap.size W w1 := (below_drewNq _ W 1).trans (hb1.mono (Nat.le_refl _)); have KP : (fun w' => w'.cell? ⟨kb, 0, none⟩ = some (.int .u64 kt) ∧ w'.cell? ⟨kb, 1, none⟩ = some (.int .i64 ks) ∧ w'.cell? ⟨kb, 2, none⟩ = some (.int .u64 kq) ∧ w'.cell? ⟨pb, 0, none⟩ = some (.pointer (some ⟨qb, 0, none⟩)) ∧ w'.cell? ⟨qb, 0, none⟩ = some (.slice (some ⟨g, 0, none⟩) n c) ∧ w'.cell? ⟨g, p * 8, none⟩ = some (.int .u64 (A.E p).t) ∧ w'.cell? ⟨g, p * 8 + 1, none⟩ = some (.int .i64 (A.E p).s) ∧ w'.cell? ⟨g, p * 8 + 2, none⟩ = some (.int .u64 (A.E p).q)) w1 := ⟨(cell_below hb0 lk).trans k0, (cell_below hb0 lk).trans k1, (cell_below hb0 lk).trans k2, (cell_below hb0 lp).trans p0, (cell_below hb0 hlt.1.1).trans q0, (cell_below (a := ⟨g, p * 8, none⟩) hb0 hlt.2.1).trans x0, (cell_below (a := ⟨g, p * 8 + 1, none⟩) hb0 hlt.2.1).trans x1, (cell_below (a := ⟨g, p * 8 + 2, none⟩) hb0 hlt.2.1).trans x2⟩))
  rcases hthree with rfl | rfl | rfl
  all_goals
    go_wp2
    go_ret
    exact ⟨rfl, (below_drewNq _ W 1).trans (hb1.mono (Nat.le_refl _))⟩
set_option maxRecDepth 100000 in
set_option maxHeartbeats 4000000 in
theorem least1_any (pb base qb g c n : Nat) (A : Ar) (f r s m k : Int) (p : Nat) (W : World) (h : QW W base qb g c n A f r s m k) (hP : PBx W pb qb) (hp : p < n) (hn : n ≤ 8193) :
    Calls Try.prog 58 #[.int .i64 (p : Int), .pointer (some ⟨pb, 0, none⟩)] W fun e W' => e = .returned (.int .i64 (if A.L p = 0 then 2 else 0)) ∧ W' = W := by
  obtain ⟨q0, q1, q2, q3, q4, q5⟩ := h.cells
  have p0 := hP.cell
  have i0 : (0 : Int) ≤ (p : Int) := by omega
  have i1 : (p : Int) < (n : Int) := by omega
  have x6 : W.cell? ⟨g, p * 8 + 6, none⟩ = some (.int .i64 (A.L p : Int)) := h.nd hp 6 (by decide)
  by_cases hz : A.L p = 0
  · have dz : ((A.L p : Int) == 0) = true := by simp [hz]
    go_enter Try.func58, Try.ntmps58
    go_wp2
    go_ret
    exact ⟨by simp, rfl⟩
  · have dz : ((A.L p : Int) == 0) = false := by simp; omega
    go_enter Try.func58, Try.ntmps58
    go_wp2
    go_ret
    exact ⟨by simp, rfl⟩
set_option maxRecDepth 100000 in
set_option maxHeartbeats 4000000 in
theorem toKey_any (qb : Nat) (kt ks kq : Int) (W : World) :
    Calls Try.prog 26 #[.pointer (some ⟨qb, 0, none⟩), .agg #[.int .u64 kt, .int .i64 ks, .int .u64 kq]] W fun e W' => e = .returned (.func (.func 54) #[] #[.pointer (some ⟨W.heap.size + 1, 0, none⟩), .pointer (some ⟨W.heap.size, 0, none⟩)]) ∧ KBx W' (W.heap.size + 1) kt ks kq ∧ PBx W' W.heap.size qb ∧ Below W.heap.size W W' := by
  go_enter Try.func26, Try.ntmps26
  go_wp2
  go_ret
  refine ⟨rfl, ?_, ?_, ((Below.refl _ W).alloc (Nat.le_refl _) _).alloc (by simp) _⟩
  · have := World.alloc_heap_new (W.alloc (.cells #[.pointer (some ⟨qb, 0, none⟩)] 29)) (.cells #[.int .u64 kt, .int .i64 ks, .int .u64 kq] 25)
    rw [World.size_alloc] at this
    exact this
  · show _ = _
    rw [Below.heap_alloc _ _ _ (by simp)]
    exact World.alloc_heap_new W _
theorem enterK (args : Array Value) (W : World) : Sem.run Try.prog (callFunc 54 args) W = .ok (.enter 54 args) W := by go_simp
theorem enterL (args : Array Value) (W : World) : Sem.run Try.prog (callFunc 58 args) W = .ok (.enter 58 args) W := by go_simp
theorem wayK {base qb g c n : Nat} {A : Ar} {f r s m : Int} {kb pb : Nat} {kt ks kq : Int} {W : World} (hK : KBx W kb kt ks kq) (hP : PBx W pb qb) (h1 : kb ≠ qb ∧ kb ≠ g) (h2 : pb ≠ qb ∧ pb ≠ g) (hn : n ≤ 8193) : WayOk 54 #[.pointer (some ⟨kb, 0, none⟩), .pointer (some ⟨pb, 0, none⟩)] base qb g c n A f r s m (sdK kt ks kq A.E) W := by
  intro W2 A2 wk t q hc hq hE hl hq0 hqn
  obtain ⟨l, r', rfl, _, _⟩ := Tr.lies_node hl hq0
  have hK2 : KBx W2 kb kt ks kq := (hc.block kb (lt_of_block hK) (by rintro (e | e); exact h1.1 e; exact h1.2 e)).trans hK
  have hP2 : PBx W2 pb qb := (hc.block pb (lt_of_block hP) (by rintro (e | e); exact h2.1 e; exact h2.2 e)).trans hP
  have h := toKey1_any kb pb base qb g c n A2 f r s m wk kt ks kq q W2 hq hK2 hP2 hqn hn
  rw [hE] at h
  exact h
theorem wayL {base qb g c n : Nat} {A : Ar} {f r s m : Int} {pb : Nat} {W : World} (hP : PBx W pb qb) (h2 : pb ≠ qb ∧ pb ≠ g) (hn : n ≤ 8193) : WayOk 58 #[.pointer (some ⟨pb, 0, none⟩)] base qb g c n A f r s m sdL W := by
  intro W2 A2 wk t q hc hq hE hl hq0 hqn
  obtain ⟨l, r', rfl, hl1, _⟩ := Tr.lies_node hl hq0
  have hP2 : PBx W2 pb qb := (hc.block pb (lt_of_block hP) (by rintro (e | e); exact h2.1 e; exact h2.2 e)).trans hP
  refine (least1_any pb base qb g c n A2 f r s m wk q W2 hq hP2 hqn hn).mono ?_
  rintro e W3 ⟨rfl, rfl⟩
  refine ⟨?_, Below.refl _ _⟩
  cases l with
  | nil => rw [show A2.L q = 0 from hl1]; rfl
  | node a b c' =>
    rw [if_neg (by rw [hl1.1]; exact hl1.2.1)]
    rfl
/-! ### the least -/
theorem least_a : ∀ (n : Nat) (t : Tr), t.size ≤ n → (openT sdL t).a = .nil
  | n, .nil, _ => by rw [openT_nil]
  | 0, .node a x b, h => by simp [Tr.size] at h
  | n + 1, .node .nil x b, h => by rw [openT_here rfl]
  | n + 1, .node (.node .nil y d) x b, h => by rw [openT_lh rfl rfl]
  | n + 1, .node (.node (.node c z e) y d) x b, h => by
    rw [openT_ll rfl rfl]
    exact least_a n (.node c z e) (by simp [Tr.size] at h ⊢; omega)
theorem least_m : ∀ (n : Nat) (t : Tr), t.size ≤ n → t ≠ .nil → (∀ p ∈ t.ps, p ≠ 0) → (openT sdL t).m ≠ 0
  | n, .nil, _, h, _ => absurd rfl h
  | 0, .node a x b, h, _, _ => by simp [Tr.size] at h
  | n + 1, .node .nil x b, h, _, hp => by rw [openT_here rfl]; exact hp x (by simp [Tr.ps])
  | n + 1, .node (.node .nil y d) x b, h, _, hp => by rw [openT_lh rfl rfl]; exact hp y (by simp [Tr.ps])
  | n + 1, .node (.node (.node c z e) y d) x b, h, _, hp => by
    rw [openT_ll rfl rfl]
    exact least_m n (.node c z e) (by simp [Tr.size] at h ⊢; omega) (by simp) (fun p hq => hp p (by simp only [Tr.ps] at hq ⊢; simp at hq ⊢; rcases hq with h | h | h <;> simp [h]))
theorem least_ps {t : Tr} (ht : t ≠ .nil) (hp : ∀ p ∈ t.ps, p ≠ 0) : t.ps = (openT sdL t).m :: (openT sdL t).b.ps := by
  have h := openT_ps side_sdL t.size t (Nat.le_refl _) hp
  rw [least_a _ t (Nat.le_refl _), midn (least_m _ t (Nat.le_refl _) ht hp)] at h
  exact h.symm
set_option maxRecDepth 100000 in
set_option maxHeartbeats 4000000 in
theorem least_any (base qb g c n : Nat) (A : Ar) (f r s m k : Int) (t0 : Tr) (q0 : Nat) (W : World) (h : QW W base qb g c n A f r s m k) (hn : n ≤ 8193) (hn0 : 0 < n) (ht : t0.lies A.L A.R q0) (hnd : t0.ps.Nodup) (hin : ∀ p ∈ t0.ps, p < n) (hz : A.L 0 = 0 ∧ A.R 0 = 0) (hk : 0 ≤ k ∧ k ≤ 4611686018427387904) (hsz : t0.size ≤ 8192) :
    Calls Try.prog 36 #[.pointer (some ⟨qb, 0, none⟩), .int .i64 (q0 : Int)] W fun e W' => ∃ (A' : Ar) (rb : Nat), e = .returned (.tuple #[.int .i64 ((openT sdL t0).m : Int), .int .i64 (rb : Int)]) ∧ QW W' base qb g c n A' f r s m (k + (openT sdL t0).k) ∧ A'.E = A.E ∧ (openT sdL t0).b.lies A'.L A'.R rb ∧ (∀ p, p ∉ t0.ps → A'.L p = A.L p ∧ A'.R p = A.R p) ∧ Ch (S2 qb g) W W' := by
  obtain ⟨W1, hW1⟩ : ∃ W1, W.alloc (.cells #[.pointer (some ⟨qb, 0, none⟩)] 29) = W1 := ⟨_, rfl⟩
  have hb1 : Below W.heap.size W W1 := by rw [← hW1]; exact (Below.refl _ W).alloc (Nat.le_refl _) _
  have hP1 : PBx W1 W.heap.size qb := by unfold PBx; rw [← hW1]; exact World.alloc_heap_new W _
  have hlt := h.lt
  have HO := open_any 58 #[.pointer (some ⟨W.heap.size, 0, none⟩)] enterL base qb g c n A f r s m k sdL side_sdL t0 q0 W1 (h.later hb1) hn hn0 ht hnd hin hz hk hsz (wayL hP1 (by omega) hn)
  have HW : Hid (W.alloc (.cells #[.pointer (some ⟨qb, 0, none⟩)] 29) = W1) := hW1
  have p0 := hP1.cell
  rw [← hW1] at p0
  clear hW1
  go_enter Try.func36, Try.ntmps36
  go_wp2_with (go_at_call 25; rw [HW.out]; (with_reducible refine HO.mono ?_); rintro e w2 ⟨A2, ra, rb, rfl, hQ2, hE2, hl1, hl2, hout, hC2⟩)
  refine bodyPost_ret (v := .tuple #[.int .i64 ((openT sdL t0).m : Int), .int .i64 (rb : Int)]) (by simp [results, Try.results36, go_sem]) rfl ?_
  exact ⟨A2, rb, rfl, hQ2, hE2, hl2, hout, (Ch.below hb1).trans hC2⟩
end Go.Proofs.Ytlojkcodndjfbaa
