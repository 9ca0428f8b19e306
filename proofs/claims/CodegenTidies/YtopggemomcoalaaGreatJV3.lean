import Derived.Test.YtopggemomcoalaaGreatJVPure
import Derived.Test.YtopggemomcoalaaGreatJVB
import Derived.Test.YtopggemomcoalaaGreatJG1
namespace Go.Proofs.YtopggemomcoalaaGreat
open Go.ChangeShapes Go.WideShapes Go.ChangeAt Go.RowKit
set_option linter.unusedVariables false

/-! ### instructions, wherever they lie -/
def IAt (W : World) (p : Option Addr) (n : Nat) (op a b : Nat → Int) : Prop :=
  n = 0 ∨ ∃ g o, p = some ⟨g, o, none⟩ ∧ g < W.heap.size ∧ ∀ j, j < n → W.cell? ⟨g, o + j * 3, none⟩ = some (.int .i64 (op j)) ∧ W.cell? ⟨g, o + j * 3 + 1, none⟩ = some (.int .i64 (a j)) ∧ W.cell? ⟨g, o + j * 3 + 2, none⟩ = some (.int .i64 (b j))
theorem IAt.below {W W' : World} {p : Option Addr} {n : Nat} {op a b : Nat → Int} (h : IAt W p n op a b) (hb : Below W.heap.size W W') : IAt W' p n op a b := by
  rcases h with h | ⟨g, o, rfl, hl, hc⟩
  · exact .inl h
  · exact .inr ⟨g, o, rfl, Nat.lt_of_lt_of_le hl hb.size, fun j hj => ⟨(cell_below (a := ⟨g, o + j * 3, none⟩) hb hl).trans (hc j hj).1, (cell_below (a := ⟨g, o + j * 3 + 1, none⟩) hb hl).trans (hc j hj).2.1, (cell_below (a := ⟨g, o + j * 3 + 2, none⟩) hb hl).trans (hc j hj).2.2⟩⟩

/-! ### the survey's box -/
def iv (F : Nat → Int) : Nat → Value := fun j => .int .i64 (F j)
structure SvW (w0 W : World) (base sb db n cc : Nat) (cp : Option Addr) (s : Sv) (ov : Value) : Prop where
  box : W.heap[sb]? = some (.cells #[.slice cp n cc, .slice (some ⟨db, 0, none⟩) n n, ov, .bool s.bey, .bool s.un] 100 (0, 0))
  dep : Own W base 3 1 (.slice (some ⟨db, 0, none⟩) n n) n (iv s.L)
  opn : Own W base 3 1 ov s.S.length (iv fun i => ((s.S.getD i 0 : Nat) : Int))
  ns : ov.ownBlock ≠ some sb
  nd : ov.ownBlock ≠ some db
  sd : sb ≠ db
  bs : base ≤ sb
  bel : Below base w0 W
theorem SvW.cells {w0 W : World} {base sb db n cc : Nat} {cp : Option Addr} {s : Sv} {ov : Value} (h : SvW w0 W base sb db n cc cp s ov) :
    W.cell? ⟨sb, 0, none⟩ = some (.slice cp n cc) ∧ W.cell? ⟨sb, 1, none⟩ = some (.slice (some ⟨db, 0, none⟩) n n) ∧ W.cell? ⟨sb, 2, none⟩ = some ov ∧ W.cell? ⟨sb, 3, none⟩ = some (.bool s.bey) ∧ W.cell? ⟨sb, 4, none⟩ = some (.bool s.un) ∧ ∀ k, W.frozen? ⟨sb, k, none⟩ = false := by
  have := h.box
  refine ⟨?_, ?_, ?_, ?_, ?_, fun k => ?_⟩ <;> simp [World.cell?, World.frozen?, this]
theorem SvW.depc {w0 W : World} {base sb db n cc : Nat} {cp : Option Addr} {s : Sv} {ov : Value} (h : SvW w0 W base sb db n cc cp s ov) {k : Nat} (hk : k < n) : W.cell? ⟨db, k, none⟩ = some (.int .i64 (s.L k)) ∧ W.frozen? ⟨db, k, none⟩ = false := by
  refine ⟨h.dep.cell (by omega), ?_⟩
  obtain ⟨cur, h1, _⟩ := h.dep.block
  simp [World.frozen?, h1]
theorem SvW.setBey {w0 W : World} {base sb db n cc : Nat} {cp : Option Addr} {s : Sv} {ov : Value} (h : SvW w0 W base sb db n cc cp s ov) (b : Bool) : SvW w0 (W.setCell ⟨sb, 3, none⟩ (.bool b)) base sb db n cc cp { s with bey := b } ov := by
  refine ⟨?_, h.dep.far fun k hk => Below.heap_setCell _ _ _ _ ?_, h.opn.far fun k hk => Below.heap_setCell _ _ _ _ ?_, h.ns, h.nd, h.sd, h.bs, h.bel.setCell (p := ⟨sb, 3, none⟩) h.bs _⟩
  · rw [setCell_block _ _ _ _ h.box]; rfl
  · cases hk; exact h.sd.symm
  · rintro rfl; exact h.ns hk
theorem SvW.setUn {w0 W : World} {base sb db n cc : Nat} {cp : Option Addr} {s : Sv} {ov : Value} (h : SvW w0 W base sb db n cc cp s ov) (b : Bool) : SvW w0 (W.setCell ⟨sb, 4, none⟩ (.bool b)) base sb db n cc cp { s with un := b } ov := by
  refine ⟨?_, h.dep.far fun k hk => Below.heap_setCell _ _ _ _ ?_, h.opn.far fun k hk => Below.heap_setCell _ _ _ _ ?_, h.ns, h.nd, h.sd, h.bs, h.bel.setCell (p := ⟨sb, 4, none⟩) h.bs _⟩
  · rw [setCell_block _ _ _ _ h.box]; rfl
  · cases hk; exact h.sd.symm
  · rintro rfl; exact h.ns hk
theorem SvW.setL {w0 W : World} {base sb db n cc : Nat} {cp : Option Addr} {s : Sv} {ov : Value} (h : SvW w0 W base sb db n cc cp s ov) {k : Nat} (hk : k < n) (d : Int) : SvW w0 (W.setCell ⟨db, k, none⟩ (.int .i64 d)) base sb db n cc cp { s with L := updI s.L k d } ov := by
  obtain ⟨cur, h1, h2, h3, h4, h5, h6⟩ := h.dep.block
  refine ⟨?_, ?_, h.opn.far fun k hk => Below.heap_setCell _ _ _ _ ?_, h.ns, h.nd, h.sd, h.bs, h.bel.setCell (p := ⟨db, k, none⟩) h5 _⟩
  · rw [Below.heap_setCell _ _ _ _ h.sd]; exact h.box
  · refine (h.dep.put k [.int .i64 d]).congr fun j hj => ?_
    show _ = Value.int .i64 (updI s.L k d j)
    unfold putF iv updI
    by_cases e : j = k
    · subst e; simp
    · rw [if_neg (by simp; omega), if_neg e]
  · rintro rfl; exact h.nd hk
/-- the open places' row is another now -/
theorem SvW.setOpn {w0 W W' : World} {base sb db n cc : Nat} {cp : Option Addr} {s : Sv} {ov ov' : Value} (h : SvW w0 W base sb db n cc cp s ov) (hg : W.grownBy W' ov.ownBlock) {S' : List Nat} (ho : Own W' base 3 1 ov' S'.length (iv fun i => ((S'.getD i 0 : Nat) : Int))) (hv : ov'.ownBlock = ov.ownBlock ∨ ∀ k, ov'.ownBlock = some k → W.heap.size ≤ k) (hbw : base ≤ W.heap.size) : SvW w0 (W'.setCell ⟨sb, 2, none⟩ ov') base sb db n cc cp { s with S := S' } ov' := by
  obtain ⟨cur, h1, h2, h3, h4, h5, h6⟩ := h.dep.block
  have hsb : W'.heap[sb]? = W.heap[sb]? := hg.block sb (Array.getElem?_eq_some_iff.1 h.box).1 (fun e => h.ns e.symm)
  have hdb : W'.heap[db]? = W.heap[db]? := hg.block db (Array.getElem?_eq_some_iff.1 h1).1 (fun e => h.nd e.symm)
  have n1 : ov'.ownBlock ≠ some sb := by
    rcases hv with e | e
    · rw [e]; exact h.ns
    · intro e'; have := e _ e'; have := (Array.getElem?_eq_some_iff.1 h.box).1; omega
  have n2 : ov'.ownBlock ≠ some db := by
    rcases hv with e | e
    · rw [e]; exact h.nd
    · intro e'; have := e _ e'; have := (Array.getElem?_eq_some_iff.1 h1).1; omega
  refine ⟨?_, ?_, ho.far fun k hk => Below.heap_setCell _ _ _ _ (by rintro rfl; exact n1 hk), n1, n2, h.sd, h.bs, ?_⟩
  · rw [setCell_block _ _ _ _ (hsb.trans h.box)]; rfl
  · refine (h.dep.far (W' := W') fun k hk => ?_).far fun k hk => Below.heap_setCell _ _ _ _ ?_
    · cases hk; exact hdb
    · cases hk; exact h.sd.symm
  · refine (h.bel.grown hg hbw fun r e => ?_).setCell (p := ⟨sb, 2, none⟩) h.bs _
    rcases h.opn.form with ⟨h7, _⟩ | ⟨g, c, h7, h8, _⟩
    · rw [h7] at e; cases e
    · rw [h7] at e; cases e; exact h8

theorem SvW.grownCell {w0 W W' : World} {base sb db n cc : Nat} {cp : Option Addr} {s : Sv} {ov : Value} (h : SvW w0 W base sb db n cc cp s ov) (hg : W.grownBy W' ov.ownBlock) : W'.cell? ⟨sb, 2, none⟩ = some ov ∧ W'.frozen? ⟨sb, 2, none⟩ = false := by
  have hsb : W'.heap[sb]? = W.heap[sb]? := hg.block sb (Array.getElem?_eq_some_iff.1 h.box).1 (fun e => h.ns e.symm)
  have := hsb.trans h.box
  constructor <;> simp [World.cell?, World.frozen?, this]
theorem iv_snoc (S : List Nat) (k : Nat) : cellsF (iv fun i => ((S.getD i 0 : Nat) : Int)) (S.length * 1) ++ [Value.int .i64 (k : Int)] = cellsF (iv fun i => (((S ++ [k]).getD i 0 : Nat) : Int)) ((S ++ [k]).length * 1) := by
  have e : [Value.int .i64 (k : Int)] = cellsF (fun _ => Value.int .i64 (k : Int)) 1 := rfl
  rw [e, cellsF_append]
  simp only [Nat.mul_one, List.length_append, List.length_singleton]
  refine cellsF_congr fun j hj => ?_
  unfold iv
  by_cases hl : j < S.length
  · rw [if_pos hl]
    simp [List.getElem?_append_left hl]
  · rw [if_neg hl]
    obtain rfl : j = S.length := by omega
    simp
theorem infoInt1 : (Tryz.prog.info? 3).map (fun i => (i.zero, i.size, i.bytes)) = some (some (.int .i64 0), 1, 8) := by kernel_rfl
theorem SvW.later {w0 W W' : World} {base sb db n cc : Nat} {cp : Option Addr} {s : Sv} {ov : Value} (h : SvW w0 W base sb db n cc cp s ov) (hb : Below W.heap.size W W') (hbw : base ≤ W.heap.size) : SvW w0 W' base sb db n cc cp s ov := by
  obtain ⟨cur, h1, h2, h3, h4, h5, h6⟩ := h.dep.block
  refine ⟨(hb.block _ (Array.getElem?_eq_some_iff.1 h.box).1).trans h.box, h.dep.far fun k hk => ?_, h.opn.far fun k hk => ?_, h.ns, h.nd, h.sd, h.bs, h.bel.trans (hb.mono hbw)⟩
  · cases hk; exact hb.block _ (Array.getElem?_eq_some_iff.1 h1).1
  · rcases h.opn.form with ⟨h7, _⟩ | ⟨g, c, h7, h8, h9⟩
    · rw [h7] at hk; cases hk
    · rw [h7] at hk; cases hk; exact hb.block _ h9

set_option maxRecDepth 100000 in
set_option maxHeartbeats 1000000 in
theorem arrive_any (w0 w : World) (base sb db n cc : Nat) (cp : Option Addr) (s : Sv) (ov : Value) (k : Nat) (d : Int) (hk : k ≤ n) (hn : n ≤ 4096) (hS : s.S.length ≤ 4096) (hbw : base ≤ w.heap.size) (h : SvW w0 w base sb db n cc cp s ov) :
    Calls Tryz.prog 53 #[.pointer (some ⟨sb, 0, none⟩), .int .i64 k, .int .i64 d] w fun e w' => e = .returned (.tuple #[]) ∧ w.heap.size ≤ w'.heap.size ∧ (∀ k', k' < w.heap.size → k' ≠ sb → k' ≠ db → ov.ownBlock ≠ some k' → w'.heap[k']? = w.heap[k']?) ∧ ∃ ov', SvW w0 w' base sb db n cc cp (arr n s k d) ov' := by
  obtain ⟨i5, hi5, hz0, hz1, hz2⟩ := info_parts infoInt1
  obtain ⟨c0, c1, c2, c3, c4, fz⟩ := h.cells
  have f2 := fz 2
  have f3 := fz 3
  have f4 := fz 4
  have hsb := (Array.getElem?_eq_some_iff.1 h.box).1
  go_enter Tryz.func53, Tryz.ntmps53
  by_cases h1 : k = n
  · subst h1
    have hq := h.setBey true
    clear h fz
    go_wp2
    go_end0
    unfold arr
    rw [if_pos rfl]
    exact ⟨rfl, by simp [World.setCell], fun k' _ h1 _ _ => Below.heap_setCell _ _ _ _ h1, ov, hq⟩
  · have d1 : ((k : Int) == n) = false := by simp; omega
    obtain ⟨x0, x1⟩ := h.depc (k := k) (by omega)
    have i0 : (0 : Int) ≤ (k : Int) := by omega
    have i1 : (k : Int) < (n : Int) := by omega
    by_cases h2 : s.L k = -1
    · rw [h2] at x0
      have hq := h.setL (k := k) (by omega) d
      have hres : arr n s k d = { s with L := updI s.L k d, S := s.S ++ [k] } := by unfold arr; rw [if_neg h1, if_pos h2]
      rw [hres]
      obtain ⟨_, _, c2', _, _, fz'⟩ := hq.cells
      have f2' := fz' 2
      have hH : Hid (SvW w0 (w.setCell ⟨db, k, none⟩ (.int .i64 d)) base sb db n cc cp { s with L := updI s.L k d } ov) := hq
      have hof := h.opn.form
      clear h hq fz fz' hres
      obtain ⟨vp, vm, vc, rfl⟩ : ∃ p m c, ov = .slice p m c := by
        rcases hof with ⟨h1, _⟩ | ⟨g, c, h1, _⟩
        · exact ⟨_, _, _, h1⟩
        · exact ⟨_, _, _, h1⟩
      have hbq : Below w.heap.size w (w.setCell ⟨db, k, none⟩ (.int .i64 d)) → True := fun _ => trivial
      have hbA : Below (w.setCell ⟨db, k, none⟩ (.int .i64 d)).heap.size (w.setCell ⟨db, k, none⟩ (.int .i64 d)) ((w.setCell ⟨db, k, none⟩ (.int .i64 d)).alloc (.cells #[.int .i64 k] 3)) := (Below.refl _ _).alloc (Nat.le_refl _) _
      have hsz' : (w.setCell ⟨db, k, none⟩ (.int .i64 d)).heap.size = w.heap.size := by simp [World.setCell]
      have hA : Hid (SvW w0 ((w.setCell ⟨db, k, none⟩ (.int .i64 d)).alloc (.cells #[.int .i64 k] 3)) base sb db n cc cp { s with L := updI s.L k d } (.slice vp vm vc)) := hH.out.later hbA (by omega)
      have hO : Hid (World.ownsRow ((w.setCell ⟨db, k, none⟩ (.int .i64 d)).alloc (.cells #[.int .i64 k] 3)) base 3 1 (.slice vp vm vc) s.S.length (cellsF (iv fun i => ((s.S.getD i 0 : Nat) : Int)) (s.S.length * 1))) := hA.out.opn
      have p1 : s.S.length + 1 ≤ maxLen := by unfold maxLen; omega
      have p2 : (s.S.length + 1) * 8 ≤ 140737488355328 := by omega
      have p3 : base ≤ ((w.setCell ⟨db, k, none⟩ (.int .i64 d)).alloc (.cells #[.int .i64 k] 3)).heap.size := by rw [World.size_alloc, hsz']; omega
      have p4 : ∀ j u, [Value.int .i64 (k : Int)][j]? = some u → ((w.setCell ⟨db, k, none⟩ (.int .i64 d)).alloc (.cells #[.int .i64 k] 3)).cell? ((⟨w.heap.size, 0, none⟩ : Addr).add j) = some u := by
        have := cell_one_new (w.setCell ⟨db, k, none⟩ (.int .i64 d)) (.int .i64 k) 3
        rw [hsz'] at this
        exact this
      clear hbq
      go_wp2_with (at_builtin; refine wpList_append_own_at _ rfl _ _ 23 rfl base 3 i5 _ 1 8 Tryz.underlying23 hi5 hz0 hz1 hz2 rfl (by decide) _ _ _ rfl hO.out ⟨w.heap.size, 0, none⟩ 1 1 [.int .i64 k] rfl rfl p4 (by simp [Value.oneCell']) p1 p2 p3 ?_; intro v' w3 hown' hgrow _ hat; obtain ⟨g', cap', rfl⟩ := ownsRow_succ hown'; obtain ⟨z1, z2⟩ := hA.out.grownCell hgrow)
      go_end0
      rw [iv_snoc] at hown'
      have eL : (s.S ++ [k]).length = s.S.length + 1 := by simp
      have ho : Own w3 base 3 1 (.slice (some ⟨g', 0, none⟩) (s.S.length + 1) cap') (s.S ++ [k]).length (iv fun i => (((s.S ++ [k]).getD i 0 : Nat) : Int)) := by
        unfold Own
        rw [eL] at hown' ⊢
        exact hown'
      have hfin := hA.out.setOpn (S' := s.S ++ [k]) hgrow ho (hat.imp id fun e k' hk' => by rw [e] at hk'; cases hk'; rw [World.size_alloc]; exact Nat.le_refl _) p3
      exact ⟨rfl, by have := hgrow.size; rw [World.size_alloc, hsz'] at this; simp [World.setCell]; omega, fun k' h1 h2 h3 h4 => (Below.heap_setCell _ _ _ _ h2).trans ((hgrow.block k' (by rw [World.size_alloc, hsz']; omega) (fun e => h4 e.symm)).trans ((Below.heap_alloc _ _ k' (by rw [hsz']; exact h1)).trans (Below.heap_setCell _ _ _ _ h3))), _, hfin⟩
    · have d2 : (s.L k == -1) = false := by simpa using h2
      by_cases h3 : s.L k = d
      · have hres : arr n s k d = s := by unfold arr; rw [if_neg h1, if_neg h2, if_pos h3]
        rw [hres]
        rw [h3] at x0 d2
        clear h3 hres
        go_wp2
        go_end0
        exact ⟨rfl, Nat.le_refl _, fun _ _ _ _ _ => rfl, ov, h⟩
      · have d3 : (s.L k == d) = false := by simpa using h3
        have hq := h.setUn true
        have hres : arr n s k d = { s with un := true } := by unfold arr; rw [if_neg h1, if_neg h2, if_neg h3]
        rw [hres]
        clear h fz
        go_wp2
        go_end0
        exact ⟨rfl, by simp [World.setCell], fun k' _ h1 _ _ => Below.heap_setCell _ _ _ _ h1, ov, hq⟩
end Go.Proofs.YtopggemomcoalaaGreat
namespace Go.Proofs.YtopggemomcoalaaGreat
open Go.ChangeShapes Go.WideShapes Go.ChangeAt Go.RowKit
set_option linter.unusedVariables false

theorem all42 {o : Int} (h : 0 ≤ o ∧ o < 42) : o = 0 ∨ o = 1 ∨ o = 2 ∨ o = 3 ∨ o = 4 ∨ o = 5 ∨ o = 6 ∨ o = 7 ∨ o = 8 ∨ o = 9 ∨ o = 10 ∨ o = 11 ∨ o = 12 ∨ o = 13 ∨ o = 14 ∨ o = 15 ∨ o = 16 ∨ o = 17 ∨ o = 18 ∨ o = 19 ∨ o = 20 ∨ o = 21 ∨ o = 22 ∨ o = 23 ∨ o = 24 ∨ o = 25 ∨ o = 26 ∨ o = 27 ∨ o = 28 ∨ o = 29 ∨ o = 30 ∨ o = 31 ∨ o = 32 ∨ o = 33 ∨ o = 34 ∨ o = 35 ∨ o = 36 ∨ o = 37 ∨ o = 38 ∨ o = 39 ∨ o = 40 ∨ o = 41 := by omega
set_option maxRecDepth 100000 in
set_option maxHeartbeats 4000000 in
theorem moves_any (o : Int) (h : 0 ≤ o ∧ o < 42) (w : World) :
    Calls Tryz.prog 94 #[.int .i64 o] w fun e w' => e = .returned (.tuple #[.int .i64 (pops o), .int .i64 (pushes o)]) ∧ w' = w := by
  rcases all42 h with rfl | rfl | rfl | rfl | rfl | rfl | rfl | rfl | rfl | rfl | rfl | rfl | rfl | rfl | rfl | rfl | rfl | rfl | rfl | rfl | rfl | rfl | rfl | rfl | rfl | rfl | rfl | rfl | rfl | rfl | rfl | rfl | rfl | rfl | rfl | rfl | rfl | rfl | rfl | rfl | rfl | rfl
  all_goals
    clear h
    go_enter Tryz.func94, Tryz.ntmps94
    go_wp2
    go_ret2
    exact ⟨rfl, rfl⟩
def wantTab : List Int := [0, 1, 0, 1, 1, 2, 2, 1, 1, 0, 0, 0, 0, 0, 0, 0, 0, 0, 0, 0, 0, 0, 0, 0, 0, 0, 0, 0, 0, 0, 0, 0, 0, 0, 0, 1, 1, 0, 2, 1, 0, 0]
def wantsI (o : Int) : Int := wantTab.getD o.toNat 0
set_option maxRecDepth 100000 in
set_option maxHeartbeats 4000000 in
theorem wants_any (o : Int) (h : 0 ≤ o ∧ o < 42) (w : World) :
    Calls Tryz.prog 51 #[.int .i64 o] w fun e w' => e = .returned (.int .i64 (wantsI o)) ∧ w' = w := by
  rcases all42 h with rfl | rfl | rfl | rfl | rfl | rfl | rfl | rfl | rfl | rfl | rfl | rfl | rfl | rfl | rfl | rfl | rfl | rfl | rfl | rfl | rfl | rfl | rfl | rfl | rfl | rfl | rfl | rfl | rfl | rfl | rfl | rfl | rfl | rfl | rfl | rfl | rfl | rfl | rfl | rfl | rfl | rfl
  all_goals
    clear h
    go_enter Tryz.func51, Tryz.ntmps51
    go_wp2
    go_ret
    exact ⟨rfl, rfl⟩
theorem isOp_any (o : Int) (w : World) : Calls Tryz.prog 49 #[.int .i64 o] w fun e w' => e = .returned (.bool (decide (0 ≤ o) && decide (o < 42))) ∧ w' = w := by
  go_enter Tryz.func49, Tryz.ntmps49
  by_cases h : 0 ≤ o
  · go_wp2
    go_ret
    exact ⟨by simp [h], rfl⟩
  · have e : (decide (0 ≤ o) && decide (o < 42)) = false := by simp; omega
    go_wp2
    go_ret
    exact ⟨by first | rfl | (rw [e]; rfl), rfl⟩
theorem jumps_any (o : Int) (w : World) : Calls Tryz.prog 52 #[.int .i64 o] w fun e w' => e = .returned (.bool (jmp o)) ∧ w' = w := by
  go_enter Tryz.func52, Tryz.ntmps52
  by_cases h : o = 35
  · subst h
    go_wp2
    go_ret
    exact ⟨rfl, rfl⟩
  · have h' : (o == 35) = false := by simpa using h
    have e : jmp o = (o == 36) := by unfold jmp; rw [h', Bool.false_or]
    go_wp2
    go_ret
    exact ⟨by rw [e]; rfl, rfl⟩
theorem ends_any (o : Int) (w : World) : Calls Tryz.prog 95 #[.int .i64 o] w fun e w' => e = .returned (.bool (ends o)) ∧ w' = w := by
  go_enter Tryz.func95, Tryz.ntmps95
  by_cases h : o = 0
  · subst h
    go_wp2
    go_ret
    exact ⟨rfl, rfl⟩
  · have h' : (o == 0) = false := by simpa using h
    by_cases h2 : o = 35
    · subst h2
      go_wp2
      go_ret
      exact ⟨rfl, rfl⟩
    · have h2' : (o == 35) = false := by simpa using h2
      have e : ends o = (o == 40) := by unfold ends; rw [h', h2', Bool.false_or, Bool.false_or]
      go_wp2
      go_ret
      exact ⟨by rw [e]; rfl, rfl⟩

/-! ### a program as a value -/
structure PgV where
  cp : Option Addr
  cc : Nat
  ep : Option Addr
  ec : Nat
def pgV (P : Pg) (v : PgV) : List Value := [.int .i64 P.words, .int .i64 P.locals, .slice v.cp P.n v.cc, .slice v.ep P.m v.ec]
def limI (P : Pg) (o : Int) : Int :=
  if o = 3 ∨ o = 4 ∨ o = 5 ∨ o = 6 then P.words else if o = 7 ∨ o = 8 then P.locals else if o = 35 ∨ o = 36 then P.n else if o = 38 then 64 else if o = 39 then P.m else 1
set_option maxRecDepth 100000 in
set_option maxHeartbeats 4000000 in
theorem room_any (P : Pg) (v : PgV) (o : Int) (h : 0 ≤ o ∧ o < 42) (w : World) :
    Calls Tryz.prog 50 #[.agg #[.int .i64 P.words, .int .i64 P.locals, .slice v.cp P.n v.cc, .slice v.ep P.m v.ec], .int .i64 o] w fun e w' => e = .returned (.int .i64 (limI P o)) ∧ w' = w.alloc (.cells #[.int .i64 P.words, .int .i64 P.locals, .slice v.cp P.n v.cc, .slice v.ep P.m v.ec] 25) := by
  rcases all42 h with rfl | rfl | rfl | rfl | rfl | rfl | rfl | rfl | rfl | rfl | rfl | rfl | rfl | rfl | rfl | rfl | rfl | rfl | rfl | rfl | rfl | rfl | rfl | rfl | rfl | rfl | rfl | rfl | rfl | rfl | rfl | rfl | rfl | rfl | rfl | rfl | rfl | rfl | rfl | rfl | rfl | rfl
  all_goals
    clear h
    go_enter Tryz.func50, Tryz.ntmps50
    go_wp2
    go_ret
    exact ⟨rfl, rfl⟩
def sizedP (P : Pg) : Prop := (0 ≤ P.words ∧ P.words ≤ 64) ∧ (0 ≤ P.locals ∧ P.locals ≤ 32) ∧ P.n ≤ 4096 ∧ P.m ≤ 32
instance (P : Pg) : Decidable (sizedP P) := by unfold sizedP; exact inferInstance
set_option maxRecDepth 100000 in
theorem sized_any (P : Pg) (v : PgV) (w : World) :
    Calls Tryz.prog 27 #[.agg #[.int .i64 P.words, .int .i64 P.locals, .slice v.cp P.n v.cc, .slice v.ep P.m v.ec]] w fun e w' => e = .returned (.bool (decide (sizedP P))) ∧ w' = w.alloc (.cells #[.int .i64 P.words, .int .i64 P.locals, .slice v.cp P.n v.cc, .slice v.ep P.m v.ec] 25) := by
  go_enter Tryz.func27, Tryz.ntmps27
  by_cases h1 : 0 ≤ P.words
  · by_cases h2 : P.words ≤ 64
    · by_cases h3 : 0 ≤ P.locals
      · by_cases h4 : P.locals ≤ 32
        · by_cases h5 : P.n ≤ 4096
          · have h5' : decide ((P.n : Int) ≤ 4096) = true := by simp; omega
            by_cases h6 : P.m ≤ 32
            · have h6' : decide ((P.m : Int) ≤ 32) = true := by simp; omega
              go_wp2
              go_ret
              exact ⟨by rw [decide_eq_true (show sizedP P from ⟨⟨h1, h2⟩, ⟨h3, h4⟩, h5, h6⟩)]; rfl, rfl⟩
            · have h6' : decide ((P.m : Int) ≤ 32) = false := by simp; omega
              go_wp2
              go_ret
              exact ⟨by rw [decide_eq_false (show ¬ sizedP P from fun h => by have := h.2.2.2; omega)]; rfl, rfl⟩
          · have h5' : decide ((P.n : Int) ≤ 4096) = false := by simp; omega
            go_wp2
            go_ret
            exact ⟨by rw [decide_eq_false (show ¬ sizedP P from fun h => by have := h.2.2.1; omega)]; rfl, rfl⟩
        · go_wp2
          go_ret
          exact ⟨by rw [decide_eq_false (show ¬ sizedP P from fun h => by have := h.2.1.2; omega)]; rfl, rfl⟩
      · go_wp2
        go_ret
        exact ⟨by rw [decide_eq_false (show ¬ sizedP P from fun h => by have := h.2.1.1; omega)]; rfl, rfl⟩
    · go_wp2
      go_ret
      exact ⟨by rw [decide_eq_false (show ¬ sizedP P from fun h => by have := h.1.2; omega)]; rfl, rfl⟩
  · go_wp2
    go_ret
    exact ⟨by rw [decide_eq_false (show ¬ sizedP P from fun h => by have := h.1.1; omega)]; rfl, rfl⟩
end Go.Proofs.YtopggemomcoalaaGreat
namespace Go.Proofs.YtopggemomcoalaaGreat
open Go.ChangeShapes Go.WideShapes Go.ChangeAt Go.RowKit
set_option linter.unusedVariables false

/-- what is wrong with an instruction -/
def insErr (P : Pg) (o a b : Int) : Int :=
  if ¬ (0 ≤ o ∧ o < 42) then 64
  else if wantsI o = 2 then (if 1 ≤ b ∧ b ≤ limI P o then (if 0 ≤ a ∧ a ≤ limI P o - b then 0 else 63) else 63)
  else if b ≠ 0 then 63
  else if o = 1 ∨ (0 ≤ a ∧ a ≤ limI P o - 1) then 0
  else if jmp o then 62 else 63
theorem lim_b {P : Pg} (h : sizedP P) (o : Int) : 0 ≤ limI P o ∧ limI P o ≤ 4096 := by
  obtain ⟨⟨h1, h2⟩, ⟨h3, h4⟩, h5, h6⟩ := h
  unfold limI
  repeat' split
  all_goals omega
theorem wants2 {o : Int} (h : wantsI o = 2) : o ≠ 1 ∧ jmp o = false := by
  constructor
  · rintro rfl; revert h; decide
  · unfold jmp
    have h1 : o ≠ 35 := by rintro rfl; revert h; decide
    have h2 : o ≠ 36 := by rintro rfl; revert h; decide
    simp [h1, h2]
set_option maxRecDepth 100000 in
set_option maxHeartbeats 4000000 in
theorem check_any (P : Pg) (v : PgV) (o a b : Int) (hs : sizedP P) (w : World) :
    Calls Tryz.prog 28 #[.agg #[.int .i64 P.words, .int .i64 P.locals, .slice v.cp P.n v.cc, .slice v.ep P.m v.ec], .agg #[.int .i64 o, .int .i64 a, .int .i64 b]] w fun e w' => e = .returned (.int .i64 (insErr P o a b)) ∧ Below w.heap.size w w' := by
  have hl := lim_b hs o
  have hb2 : Below w.heap.size w ((w.alloc (.cells #[.int .i64 P.words, .int .i64 P.locals, .slice v.cp P.n v.cc, .slice v.ep P.m v.ec] 25)).alloc (.cells #[.int .i64 o, .int .i64 a, .int .i64 b] 36)) := ((Below.refl _ w).alloc (Nat.le_refl _) _).alloc (by simp) _
  have hb3 := hb2.alloc (by simp; omega) (.cells #[.int .i64 P.words, .int .i64 P.locals, .slice v.cp P.n v.cc, .slice v.ep P.m v.ec] 25)
  go_enter Tryz.func28, Tryz.ntmps28
  by_cases ho : 0 ≤ o ∧ o < 42
  · have dO : (decide (0 ≤ o) && decide (o < 42)) = true := by simp; exact ho
    have HO := isOp_any o
    rw [dO] at HO
    have HR := room_any P v o ho
    have HW := wants_any o ho
    have HJ := jumps_any o
    clear hs
    by_cases hw2 : wantsI o = 2
    · obtain ⟨no1, nj⟩ := wants2 hw2
      have dw : ((2 : Int) == 2) = true := rfl
      have d1 : (o == 1) = false := by simpa using no1
      have hv : insErr P o a b = (if 1 ≤ b ∧ b ≤ limI P o then (if 0 ≤ a ∧ a ≤ limI P o - b then 0 else 63) else 63) := by
        unfold insErr; rw [if_neg (by simp; omega), if_pos hw2]
      rw [hv]
      rw [hw2] at HW
      rw [nj] at HJ
      generalize limI P o = L at hl HR hv ⊢
      by_cases hb1 : b < 1
      · rw [if_neg (by omega)]
        clear hv
        go_wp2_with (first | (go_at_call 49; (with_reducible refine (HO _).mono ?_); rintro e w1 ⟨rfl, rfl⟩) | (go_at_call 50; (with_reducible refine (HR _).mono ?_); rintro e w1 ⟨rfl, rfl⟩) | (go_at_call 51; (with_reducible refine (HW _).mono ?_); rintro e w1 ⟨rfl, rfl⟩) | (go_at_call 52; (with_reducible refine (HJ _).mono ?_); rintro e w1 ⟨rfl, rfl⟩))
        go_ret
        exact ⟨rfl, hb3⟩
      · by_cases hb4 : L < b
        · rw [if_neg (by omega)]
          clear hv
          go_wp2_with (first | (go_at_call 49; (with_reducible refine (HO _).mono ?_); rintro e w1 ⟨rfl, rfl⟩) | (go_at_call 50; (with_reducible refine (HR _).mono ?_); rintro e w1 ⟨rfl, rfl⟩) | (go_at_call 51; (with_reducible refine (HW _).mono ?_); rintro e w1 ⟨rfl, rfl⟩) | (go_at_call 52; (with_reducible refine (HJ _).mono ?_); rintro e w1 ⟨rfl, rfl⟩))
          go_ret
          exact ⟨rfl, hb3⟩
        · rw [if_pos (by omega)]
          clear hv
          by_cases ha : a < 0
          · rw [if_neg (by omega)]
            go_wp2_with (first | (go_at_call 49; (with_reducible refine (HO _).mono ?_); rintro e w1 ⟨rfl, rfl⟩) | (go_at_call 50; (with_reducible refine (HR _).mono ?_); rintro e w1 ⟨rfl, rfl⟩) | (go_at_call 51; (with_reducible refine (HW _).mono ?_); rintro e w1 ⟨rfl, rfl⟩) | (go_at_call 52; (with_reducible refine (HJ _).mono ?_); rintro e w1 ⟨rfl, rfl⟩))
            go_ret
            exact ⟨rfl, hb3⟩
          · by_cases ha2 : a ≤ L - b
            · rw [if_pos (by omega)]
              go_wp2_with (first | (go_at_call 49; (with_reducible refine (HO _).mono ?_); rintro e w1 ⟨rfl, rfl⟩) | (go_at_call 50; (with_reducible refine (HR _).mono ?_); rintro e w1 ⟨rfl, rfl⟩) | (go_at_call 51; (with_reducible refine (HW _).mono ?_); rintro e w1 ⟨rfl, rfl⟩) | (go_at_call 52; (with_reducible refine (HJ _).mono ?_); rintro e w1 ⟨rfl, rfl⟩))
              go_ret
              exact ⟨rfl, hb3⟩
            · rw [if_neg (by omega)]
              go_wp2_with (first | (go_at_call 49; (with_reducible refine (HO _).mono ?_); rintro e w1 ⟨rfl, rfl⟩) | (go_at_call 50; (with_reducible refine (HR _).mono ?_); rintro e w1 ⟨rfl, rfl⟩) | (go_at_call 51; (with_reducible refine (HW _).mono ?_); rintro e w1 ⟨rfl, rfl⟩) | (go_at_call 52; (with_reducible refine (HJ _).mono ?_); rintro e w1 ⟨rfl, rfl⟩))
              go_ret
              exact ⟨rfl, hb3⟩
    · have dw : (wantsI o == 2) = false := by simpa using hw2
      have hv : insErr P o a b = (if b ≠ 0 then 63 else if o = 1 ∨ (0 ≤ a ∧ a ≤ limI P o - 1) then 0 else if jmp o then 62 else 63) := by
        unfold insErr; rw [if_neg (by simp; omega), if_neg hw2]
      rw [hv]
      clear hv hw2
      generalize wantsI o = wo at dw HW
      generalize limI P o = L at hl HR ⊢
      by_cases hb : b = 0
      · subst hb
        rw [if_neg (by simp)]
        by_cases h1 : o = 1
        · subst h1
          rw [if_pos (.inl rfl)]
          go_wp2_with (first | (go_at_call 49; (with_reducible refine (HO _).mono ?_); rintro e w1 ⟨rfl, rfl⟩) | (go_at_call 50; (with_reducible refine (HR _).mono ?_); rintro e w1 ⟨rfl, rfl⟩) | (go_at_call 51; (with_reducible refine (HW _).mono ?_); rintro e w1 ⟨rfl, rfl⟩) | (go_at_call 52; (with_reducible refine (HJ _).mono ?_); rintro e w1 ⟨rfl, rfl⟩))
          go_ret
          exact ⟨rfl, hb3⟩
        · have d1 : (o == 1) = false := by simpa using h1
          by_cases ha : a < 0
          · rw [if_neg (by omega)]
            generalize jmp o = jo at HJ ⊢
            rcases jo with _ | _
            all_goals
              go_wp2_with (first | (go_at_call 49; (with_reducible refine (HO _).mono ?_); rintro e w1 ⟨rfl, rfl⟩) | (go_at_call 50; (with_reducible refine (HR _).mono ?_); rintro e w1 ⟨rfl, rfl⟩) | (go_at_call 51; (with_reducible refine (HW _).mono ?_); rintro e w1 ⟨rfl, rfl⟩) | (go_at_call 52; (with_reducible refine (HJ _).mono ?_); rintro e w1 ⟨rfl, rfl⟩))
              go_ret
              exact ⟨rfl, hb3⟩
          · by_cases ha2 : a ≤ L - 1
            · rw [if_pos (by omega)]
              go_wp2_with (first | (go_at_call 49; (with_reducible refine (HO _).mono ?_); rintro e w1 ⟨rfl, rfl⟩) | (go_at_call 50; (with_reducible refine (HR _).mono ?_); rintro e w1 ⟨rfl, rfl⟩) | (go_at_call 51; (with_reducible refine (HW _).mono ?_); rintro e w1 ⟨rfl, rfl⟩) | (go_at_call 52; (with_reducible refine (HJ _).mono ?_); rintro e w1 ⟨rfl, rfl⟩))
              go_ret
              exact ⟨rfl, hb3⟩
            · rw [if_neg (by omega)]
              generalize jmp o = jo at HJ ⊢
              rcases jo with _ | _
              all_goals
                go_wp2_with (first | (go_at_call 49; (with_reducible refine (HO _).mono ?_); rintro e w1 ⟨rfl, rfl⟩) | (go_at_call 50; (with_reducible refine (HR _).mono ?_); rintro e w1 ⟨rfl, rfl⟩) | (go_at_call 51; (with_reducible refine (HW _).mono ?_); rintro e w1 ⟨rfl, rfl⟩) | (go_at_call 52; (with_reducible refine (HJ _).mono ?_); rintro e w1 ⟨rfl, rfl⟩))
                go_ret
                exact ⟨rfl, hb3⟩
      · have db : (b == 0) = false := by simpa using hb
        rw [if_pos hb]
        go_wp2_with (first | (go_at_call 49; (with_reducible refine (HO _).mono ?_); rintro e w1 ⟨rfl, rfl⟩) | (go_at_call 50; (with_reducible refine (HR _).mono ?_); rintro e w1 ⟨rfl, rfl⟩) | (go_at_call 51; (with_reducible refine (HW _).mono ?_); rintro e w1 ⟨rfl, rfl⟩) | (go_at_call 52; (with_reducible refine (HJ _).mono ?_); rintro e w1 ⟨rfl, rfl⟩))
        go_ret
        exact ⟨rfl, hb3⟩
  · have dO : (decide (0 ≤ o) && decide (o < 42)) = false := by simp; omega
    have HO := isOp_any o
    rw [dO] at HO
    have hv : insErr P o a b = 64 := by unfold insErr; rw [if_pos ho]
    rw [hv]
    clear hv hs
    go_wp2_with (go_at_call 49; (with_reducible refine (HO _).mono ?_); rintro e w1 ⟨rfl, rfl⟩)
    go_ret
    exact ⟨rfl, hb2⟩
end Go.Proofs.YtopggemomcoalaaGreat
