import Derived.Test.YtkgifanlodlilaaVPure
import Derived.Test.YtkgifanlodlilaaA1
import Derived.Test.YtkgifanlodlilaaG1
namespace Go.Proofs.Ytkgifanlodlilaa
open Go.ChangeShapes Go.WideShapes Go.ChangeAt Go.RowKit
set_option linter.unusedVariables false

/-! ### instructions, wherever they lie -/
def IAt (W : World) (p : Option Addr) (n : Nat) (op a b : Nat → Int) : Prop :=
  n = 0 ∨ ∃ g o, p = some ⟨g, o, none⟩ ∧ g < W.heap.size ∧ ∀ j, j < n → W.cell? ⟨g, o + j * 3, none⟩ = some (.int .i64 (op j)) ∧ W.cell? ⟨g, o + j * 3 + 1, none⟩ = some (.int .i64 (a j)) ∧ W.cell? ⟨g, o + j * 3 + 2, none⟩ = some (.int .i64 (b j))
theorem IAt.below {W W' : World} {p : Option Addr} {n : Nat} {op a b : Nat → Int} (h : IAt W p n op a b) (hb : Below W.heap.size W W') : IAt W' p n op a b := by
  rcases h with h | ⟨g, o, rfl, hl, hc⟩
  · exact .inl h
  · exact .inr ⟨g, o, rfl, Nat.lt_of_lt_of_le hl hb.size, fun j hj => ⟨(cell_below (a := ⟨g, o + j * 3, none⟩) hb hl).trans (hc j hj).1, (cell_below (a := ⟨g, o + j * 3 + 1, none⟩) hb hl).trans (hc j hj).2.1, (cell_below (a := ⟨g, o + j * 3 + 2, none⟩) hb hl).trans (hc j hj).2.2⟩⟩

/-! ### the survey's box -/
def iv (F : Nat → Int) : Nat → Value := fun j => .int .i64 (F j)
structure SvW (w0 W : World) (base sb db n cc : Nat) (cp : Option Addr) (s : Sv) (ov : Value) : Prop where
  box : W.heap[sb]? = some (.cells #[.slice cp n cc, .slice (some ⟨db, 0, none⟩) n n, ov, .bool s.bey, .bool s.un] 104 (0, 0))
  dep : Own W base 3 1 (.slice (some ⟨db, 0, none⟩) n n) n (iv s.L)
  opn : Own W base 3 1 ov s.S.length (iv fun i => ((s.S.getD i 0 : Nat) : Int))
  ns : ov.ownBlock ≠ some sb
  nd : ov.ownBlock ≠ some db
  sd : sb ≠ db
  bs : base ≤ sb
  bel : Below base w0 W
theorem SvW.cells {w0 W : World} {base sb db n cc : Nat} {cp : Option Addr} {s : Sv} {ov : Value} (h : SvW w0 W base sb db n cc cp s ov) :
    W.cell? ⟨sb, 0, none⟩ = some (.slice cp n cc) ∧ W.cell? ⟨sb, 1, none⟩ = some (.slice (some ⟨db, 0, none⟩) n n) ∧ W.cell? ⟨sb, 2, none⟩ = some ov ∧ W.cell? ⟨sb, 3, none⟩ = some (.bool s.bey) ∧ W.cell? ⟨sb, 4, none⟩ = some (.bool s.un) ∧ ∀ k, W.frozen? ⟨sb, k, none⟩ = false := by
  have := h.box
  refine ⟨?_, ?_, ?_, ?_, ?_, fun k => ?_⟩ <;> simp [World.cell?, World.frozen?, this]
theorem SvW.depc {w0 W : World} {base sb db n cc : Nat} {cp : Option Addr} {s : Sv} {ov : Value} (h : SvW w0 W base sb db n cc cp s ov) {k : Nat} (hk : k < n) : W.cell? ⟨db, k, none⟩ = some (.int .i64 (s.L k)) ∧ W.frozen? ⟨db, k, none⟩ = false := by
  refine ⟨h.dep.cell (by omega), ?_⟩
  obtain ⟨cur, h1, _⟩ := h.dep.block
  simp [World.frozen?, h1]
theorem SvW.setBey {w0 W : World} {base sb db n cc : Nat} {cp : Option Addr} {s : Sv} {ov : Value} (h : SvW w0 W base sb db n cc cp s ov) (b : Bool) : SvW w0 (W.setCell ⟨sb, 3, none⟩ (.bool b)) base sb db n cc cp { s with bey := b } ov := by
  refine ⟨?_, h.dep.far fun k hk => Below.heap_setCell _ _ _ _ ?_, h.opn.far fun k hk => Below.heap_setCell _ _ _ _ ?_, h.ns, h.nd, h.sd, h.bs, h.bel.setCell (p := ⟨sb, 3, none⟩) h.bs _⟩
  · rw [setCell_block _ _ _ _ h.box]; rfl
  · cases hk; exact h.sd.symm
  · rintro rfl; exact h.ns hk
theorem SvW.setUn {w0 W : World} {base sb db n cc : Nat} {cp : Option Addr} {s : Sv} {ov : Value} (h : SvW w0 W base sb db n cc cp s ov) (b : Bool) : SvW w0 (W.setCell ⟨sb, 4, none⟩ (.bool b)) base sb db n cc cp { s with un := b } ov := by
  refine ⟨?_, h.dep.far fun k hk => Below.heap_setCell _ _ _ _ ?_, h.opn.far fun k hk => Below.heap_setCell _ _ _ _ ?_, h.ns, h.nd, h.sd, h.bs, h.bel.setCell (p := ⟨sb, 4, none⟩) h.bs _⟩
  · rw [setCell_block _ _ _ _ h.box]; rfl
  · cases hk; exact h.sd.symm
  · rintro rfl; exact h.ns hk
theorem SvW.setL {w0 W : World} {base sb db n cc : Nat} {cp : Option Addr} {s : Sv} {ov : Value} (h : SvW w0 W base sb db n cc cp s ov) {k : Nat} (hk : k < n) (d : Int) : SvW w0 (W.setCell ⟨db, k, none⟩ (.int .i64 d)) base sb db n cc cp { s with L := updI s.L k d } ov := by
  obtain ⟨cur, h1, h2, h3, h4, h5, h6⟩ := h.dep.block
  refine ⟨?_, ?_, h.opn.far fun k hk => Below.heap_setCell _ _ _ _ ?_, h.ns, h.nd, h.sd, h.bs, h.bel.setCell (p := ⟨db, k, none⟩) h5 _⟩
  · rw [Below.heap_setCell _ _ _ _ h.sd]; exact h.box
  · refine (h.dep.put k [.int .i64 d]).congr fun j hj => ?_
    show _ = Value.int .i64 (updI s.L k d j)
    unfold putF iv updI
    by_cases e : j = k
    · subst e; simp
    · rw [if_neg (by simp; omega), if_neg e]
  · rintro rfl; exact h.nd hk
/-- the open places' row is another now -/
theorem SvW.setOpn {w0 W W' : World} {base sb db n cc : Nat} {cp : Option Addr} {s : Sv} {ov ov' : Value} (h : SvW w0 W base sb db n cc cp s ov) (hg : W.grownBy W' ov.ownBlock) {S' : List Nat} (ho : Own W' base 3 1 ov' S'.length (iv fun i => ((S'.getD i 0 : Nat) : Int))) (hv : ov'.ownBlock = ov.ownBlock ∨ ∀ k, ov'.ownBlock = some k → W.heap.size ≤ k) (hbw : base ≤ W.heap.size) : SvW w0 (W'.setCell ⟨sb, 2, none⟩ ov') base sb db n cc cp { s with S := S' } ov' := by
  obtain ⟨cur, h1, h2, h3, h4, h5, h6⟩ := h.dep.block
  have hsb : W'.heap[sb]? = W.heap[sb]? := hg.block sb (Array.getElem?_eq_some_iff.1 h.box).1 (fun e => h.ns e.symm)
  have hdb : W'.heap[db]? = W.heap[db]? := hg.block db (Array.getElem?_eq_some_iff.1 h1).1 (fun e => h.nd e.symm)
  have n1 : ov'.ownBlock ≠ some sb := by
    rcases hv with e | e
    · rw [e]; exact h.ns
    · intro e'; have := e _ e'; have := (Array.getElem?_eq_some_iff.1 h.box).1; omega
  have n2 : ov'.ownBlock ≠ some db := by
    rcases hv with e | e
    · rw [e]; exact h.nd
    · intro e'; have := e _ e'; have := (Array.getElem?_eq_some_iff.1 h1).1; omega
  refine ⟨?_, ?_, ho.far fun k hk => Below.heap_setCell _ _ _ _ (by rintro rfl; exact n1 hk), n1, n2, h.sd, h.bs, ?_⟩
  · rw [setCell_block _ _ _ _ (hsb.trans h.box)]; rfl
  · refine (h.dep.far (W' := W') fun k hk => ?_).far fun k hk => Below.heap_setCell _ _ _ _ ?_
    · cases hk; exact hdb
    · cases hk; exact h.sd.symm
  · refine (h.bel.grown hg hbw fun r e => ?_).setCell (p := ⟨sb, 2, none⟩) h.bs _
    rcases h.opn.form with ⟨h7, _⟩ | ⟨g, c, h7, h8, _⟩
    · rw [h7] at e; cases e
    · rw [h7] at e; cases e; exact h8

theorem SvW.grownCell {w0 W W' : World} {base sb db n cc : Nat} {cp : Option Addr} {s : Sv} {ov : Value} (h : SvW w0 W base sb db n cc cp s ov) (hg : W.grownBy W' ov.ownBlock) : W'.cell? ⟨sb, 2, none⟩ = some ov ∧ W'.frozen? ⟨sb, 2, none⟩ = false := by
  have hsb : W'.heap[sb]? = W.heap[sb]? := hg.block sb (Array.getElem?_eq_some_iff.1 h.box).1 (fun e => h.ns e.symm)
  have := hsb.trans h.box
  constructor <;> simp [World.cell?, World.frozen?, this]
theorem iv_snoc (S : List Nat) (k : Nat) : cellsF (iv fun i => ((S.getD i 0 : Nat) : Int)) (S.length * 1) ++ [Value.int .i64 (k : Int)] = cellsF (iv fun i => (((S ++ [k]).getD i 0 : Nat) : Int)) ((S ++ [k]).length * 1) := by
  have e : [Value.int .i64 (k : Int)] = cellsF (fun _ => Value.int .i64 (k : Int)) 1 := rfl
  rw [e, cellsF_append]
  simp only [Nat.mul_one, List.length_append, List.length_singleton]
  refine cellsF_congr fun j hj => ?_
  unfold iv
  by_cases hl : j < S.length
  · rw [if_pos hl]
    simp [List.getElem?_append_left hl]
  · rw [if_neg hl]
    obtain rfl : j = S.length := by omega
    simp
theorem infoInt1 : (Try.prog.info? 3).map (fun i => (i.zero, i.size, i.bytes)) = some (some (.int .i64 0), 1, 8) := by kernel_rfl
theorem SvW.later {w0 W W' : World} {base sb db n cc : Nat} {cp : Option Addr} {s : Sv} {ov : Value} (h : SvW w0 W base sb db n cc cp s ov) (hb : Below W.heap.size W W') (hbw : base ≤ W.heap.size) : SvW w0 W' base sb db n cc cp s ov := by
  obtain ⟨cur, h1, h2, h3, h4, h5, h6⟩ := h.dep.block
  refine ⟨(hb.block _ (Array.getElem?_eq_some_iff.1 h.box).1).trans h.box, h.dep.far fun k hk => ?_, h.opn.far fun k hk => ?_, h.ns, h.nd, h.sd, h.bs, h.bel.trans (hb.mono hbw)⟩
  · cases hk; exact hb.block _ (Array.getElem?_eq_some_iff.1 h1).1
  · rcases h.opn.form with ⟨h7, _⟩ | ⟨g, c, h7, h8, h9⟩
    · rw [h7] at hk; cases hk
    · rw [h7] at hk; cases hk; exact hb.block _ h9

set_option maxRecDepth 100000 in
set_option maxHeartbeats 1000000 in
theorem arrive_any (w0 w : World) (base sb db n cc : Nat) (cp : Option Addr) (s : Sv) (ov : Value) (k : Nat) (d : Int) (hk : k ≤ n) (hn : n ≤ 4096) (hS : s.S.length ≤ 4096) (hbw : base ≤ w.heap.size) (h : SvW w0 w base sb db n cc cp s ov) :
    Calls Try.prog 65 #[.pointer (some ⟨sb, 0, none⟩), .int .i64 k, .int .i64 d] w fun e w' => e = .returned (.tuple #[]) ∧ w.heap.size ≤ w'.heap.size ∧ (∀ k', k' < w.heap.size → k' ≠ sb → k' ≠ db → ov.ownBlock ≠ some k' → w'.heap[k']? = w.heap[k']?) ∧ ∃ ov', SvW w0 w' base sb db n cc cp (arr n s k d) ov' := by
  obtain ⟨i5, hi5, hz0, hz1, hz2⟩ := info_parts infoInt1
  obtain ⟨c0, c1, c2, c3, c4, fz⟩ := h.cells
  have f2 := fz 2
  have f3 := fz 3
  have f4 := fz 4
  have hsb := (Array.getElem?_eq_some_iff.1 h.box).1
  go_enter Try.func65, Try.ntmps65
  by_cases h1 : k = n
  · subst h1
    have hq := h.setBey true
    clear h fz
    go_wp2
    go_end0
    unfold arr
    rw [if_pos rfl]
    exact ⟨rfl, by simp [World.setCell], fun k' _ h1 _ _ => Below.heap_setCell _ _ _ _ h1, ov, hq⟩
  · have d1 : ((k : Int) == n) = false := by simp; omega
    obtain ⟨x0, x1⟩ := h.depc (k := k) (by omega)
    have i0 : (0 : Int) ≤ (k : Int) := by omega
    have i1 : (k : Int) < (n : Int) := by omega
    by_cases h2 : s.L k = -1
    · rw [h2] at x0
      have hq := h.setL (k := k) (by omega) d
      have hres : arr n s k d = { s with L := updI s.L k d, S := s.S ++ [k] } := by unfold arr; rw [if_neg h1, if_pos h2]
      rw [hres]
      obtain ⟨_, _, c2', _, _, fz'⟩ := hq.cells
      have f2' := fz' 2
      have hH : Hid (SvW w0 (w.setCell ⟨db, k, none⟩ (.int .i64 d)) base sb db n cc cp { s with L := updI s.L k d } ov) := hq
      have hof := h.opn.form
      clear h hq fz fz' hres
      obtain ⟨vp, vm, vc, rfl⟩ : ∃ p m c, ov = .slice p m c := by
        rcases hof with ⟨h1, _⟩ | ⟨g, c, h1, _⟩
        · exact ⟨_, _, _, h1⟩
        · exact ⟨_, _, _, h1⟩
      have hbq : Below w.heap.size w (w.setCell ⟨db, k, none⟩ (.int .i64 d)) → True := fun _ => trivial
      have hbA : Below (w.setCell ⟨db, k, none⟩ (.int .i64 d)).heap.size (w.setCell ⟨db, k, none⟩ (.int .i64 d)) ((w.setCell ⟨db, k, none⟩ (.int .i64 d)).alloc (.cells #[.int .i64 k] 3)) := (Below.refl _ _).alloc (Nat.le_refl _) _
      have hsz' : (w.setCell ⟨db, k, none⟩ (.int .i64 d)).heap.size = w.heap.size := by simp [World.setCell]
      have hA : Hid (SvW w0 ((w.setCell ⟨db, k, none⟩ (.int .i64 d)).alloc (.cells #[.int .i64 k] 3)) base sb db n cc cp { s with L := updI s.L k d } (.slice vp vm vc)) := hH.out.later hbA (by omega)
      have hO : Hid (World.ownsRow ((w.setCell ⟨db, k, none⟩ (.int .i64 d)).alloc (.cells #[.int .i64 k] 3)) base 3 1 (.slice vp vm vc) s.S.length (cellsF (iv fun i => ((s.S.getD i 0 : Nat) : Int)) (s.S.length * 1))) := hA.out.opn
      have p1 : s.S.length + 1 ≤ maxLen := by unfold maxLen; omega
      have p2 : (s.S.length + 1) * 8 ≤ 140737488355328 := by omega
      have p3 : base ≤ ((w.setCell ⟨db, k, none⟩ (.int .i64 d)).alloc (.cells #[.int .i64 k] 3)).heap.size := by rw [World.size_alloc, hsz']; omega
      have p4 : ∀ j u, [Value.int .i64 (k : Int)][j]? = some u → ((w.setCell ⟨db, k, none⟩ (.int .i64 d)).alloc (.cells #[.int .i64 k] 3)).cell? ((⟨w.heap.size, 0, none⟩ : Addr).add j) = some u := by
        have := cell_one_new (w.setCell ⟨db, k, none⟩ (.int .i64 d)) (.int .i64 k) 3
        rw [hsz'] at this
        exact this
      clear hbq
      go_wp2_with (at_builtin; refine wpList_append_own_at _ rfl _ _ 28 rfl base 3 i5 _ 1 8 Try.underlying28 hi5 hz0 hz1 hz2 rfl (by decide) _ _ _ rfl hO.out ⟨w.heap.size, 0, none⟩ 1 1 [.int .i64 k] rfl rfl p4 (by simp [Value.oneCell']) p1 p2 p3 ?_; intro v' w3 hown' hgrow _ hat; obtain ⟨g', cap', rfl⟩ := ownsRow_succ hown'; obtain ⟨z1, z2⟩ := hA.out.grownCell hgrow)
      go_end0
      rw [iv_snoc] at hown'
      have eL : (s.S ++ [k]).length = s.S.length + 1 := by simp
      have ho : Own w3 base 3 1 (.slice (some ⟨g', 0, none⟩) (s.S.length + 1) cap') (s.S ++ [k]).length (iv fun i => (((s.S ++ [k]).getD i 0 : Nat) : Int)) := by
        unfold Own
        rw [eL] at hown' ⊢
        exact hown'
      have hfin := hA.out.setOpn (S' := s.S ++ [k]) hgrow ho (hat.imp id fun e k' hk' => by rw [e] at hk'; cases hk'; rw [World.size_alloc]; exact Nat.le_refl _) p3
      exact ⟨rfl, by have := hgrow.size; rw [World.size_alloc, hsz'] at this; simp [World.setCell]; omega, fun k' h1 h2 h3 h4 => (Below.heap_setCell _ _ _ _ h2).trans ((hgrow.block k' (by rw [World.size_alloc, hsz']; omega) (fun e => h4 e.symm)).trans ((Below.heap_alloc _ _ k' (by rw [hsz']; exact h1)).trans (Below.heap_setCell _ _ _ _ h3))), _, hfin⟩
    · have d2 : (s.L k == -1) = false := by simpa using h2
      by_cases h3 : s.L k = d
      · have hres : arr n s k d = s := by unfold arr; rw [if_neg h1, if_neg h2, if_pos h3]
        rw [hres]
        rw [h3] at x0 d2
        clear h3 hres
        go_wp2
        go_end0
        exact ⟨rfl, Nat.le_refl _, fun _ _ _ _ _ => rfl, ov, h⟩
      · have d3 : (s.L k == d) = false := by simpa using h3
        have hq := h.setUn true
        have hres : arr n s k d = { s with un := true } := by unfold arr; rw [if_neg h1, if_neg h2, if_neg h3]
        rw [hres]
        clear h fz
        go_wp2
        go_end0
        exact ⟨rfl, by simp [World.setCell], fun k' _ h1 _ _ => Below.heap_setCell _ _ _ _ h1, ov, hq⟩
end Go.Proofs.Ytkgifanlodlilaa
