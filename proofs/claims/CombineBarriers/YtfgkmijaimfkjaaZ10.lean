import Derived.Test.YtfgkmijaimfkjaaZ9
import Derived.Test.YtfgkmijaimfkjaaC9
namespace Go.Proofs.Ytfgkmijaimfkjaa
open Go.ChangeShapes Go.WideShapes Go.ChangeAt Go.RowKit
set_option linter.unusedVariables false
set_option linter.unusedSimpArgs false

theorem infoWZ : (Try.prog.info? 128).map (fun i => (i.zero, i.size, i.bytes)) = some (some (.agg #[.int .i64 0, .int .i64 0]), 2, 24) := by kernel_rfl
theorem infoCZ : (Try.prog.info? 125).map (fun i => (i.zero, i.size, i.bytes)) = some (some (.agg #[.bool false, .bool false]), 2, 3) := by kernel_rfl
theorem madeV (z : Value) (cs : Array Value) (hz : z.cells = cs) (n s j : Nat) (hs : cs.size = s) (h0 : 0 < s) (hj : j < n * s) : (madeCells z.cells (n * s)).toList.getD j undef = cs.getD (j % s) undef := by
  unfold madeCells
  have : j % s < s := Nat.mod_lt _ h0
  have h7 : j % s < cs.size := by omega
  rw [hz]
  simp [hj, hs]
  rw [getElem!_pos cs (j % s) h7, Array.getElem?_eq_getElem h7]
  rfl
theorem wkNewZ (n j : Nat) (hj : j < n * 2) : (madeCells (Value.agg #[.int .i64 0, .int .i64 0]).cells (n * 2)).toList.getD j undef = wkFz Nt.new j := by
  rw [madeV _ #[.int .i64 0, .int .i64 0] rfl n 2 j rfl (by decide) hj]
  unfold wkFz
  have h : j % 2 = 0 ∨ j % 2 = 1 := by omega
  rcases h with h | h <;> rw [h] <;> rfl
theorem clNewZ (n j : Nat) (hj : j < n * 2) : (madeCells (Value.agg #[.bool false, .bool false]).cells (n * 2)).toList.getD j undef = clFz Nt.new j := by
  rw [madeV _ #[.bool false, .bool false] rfl n 2 j rfl (by decide) hj]
  unfold clFz
  have h : j % 2 = 0 ∨ j % 2 = 1 := by omega
  rcases h with h | h <;> rw [h] <;> rfl
theorem znewA (W : World) (n : Nat) (hn : n ≤ maxLen) : NZ W.heap.size (W.heap.size + 1 + 1) W.heap.size (W.heap.size + 1) n Nt.new (((W.alloc (.cells (zA (.agg #[.int .i64 0, .int .i64 0]) n 2) 128)).alloc (.cells (zA (.agg #[.bool false, .bool false]) n 2) 125)).alloc (.cells #[.func (.func 96) #[] #[], .slice (some ⟨W.heap.size, 0, none⟩) n n, .slice (some ⟨W.heap.size + 1, 0, none⟩) n n] 123)).drew ∧ Below W.heap.size W (((W.alloc (.cells (zA (.agg #[.int .i64 0, .int .i64 0]) n 2) 128)).alloc (.cells (zA (.agg #[.bool false, .bool false]) n 2) 125)).alloc (.cells #[.func (.func 96) #[] #[], .slice (some ⟨W.heap.size, 0, none⟩) n n, .slice (some ⟨W.heap.size + 1, 0, none⟩) n n] 123)).drew := by
  have o1 := own_new W 128 (.agg #[.int .i64 0, .int .i64 0]) n 2 hn
  have s1 : (W.alloc (.cells (zA (.agg #[.int .i64 0, .int .i64 0]) n 2) 128)).heap.size = W.heap.size + 1 := World.size_alloc _ _
  have b1 : Below W.heap.size W (W.alloc (.cells (zA (.agg #[.int .i64 0, .int .i64 0]) n 2) 128)) := (Below.refl _ W).alloc (Nat.le_refl _) _
  generalize (W.alloc (.cells (zA (.agg #[.int .i64 0, .int .i64 0]) n 2) 128)) = w1 at o1 s1 b1 ⊢
  have o2 := own_new w1 125 (.agg #[.bool false, .bool false]) n 2 hn
  have b2 : Below w1.heap.size w1 (w1.alloc (.cells (zA (.agg #[.bool false, .bool false]) n 2) 125)) := (Below.refl _ w1).alloc (Nat.le_refl _) _
  have s2 : (w1.alloc (.cells (zA (.agg #[.bool false, .bool false]) n 2) 125)).heap.size = w1.heap.size + 1 := World.size_alloc _ _
  generalize (w1.alloc (.cells (zA (.agg #[.bool false, .bool false]) n 2) 125)) = w2 at o2 s2 b2 ⊢
  rw [s1] at o2 s2
  have b3 : Below w2.heap.size w2 (w2.alloc (.cells #[.func (.func 96) #[] #[], .slice (some ⟨W.heap.size, 0, none⟩) n n, .slice (some ⟨W.heap.size + 1, 0, none⟩) n n] 123)).drew := ((Below.refl _ w2).alloc (Nat.le_refl _) _).trans ⟨rfl, rfl, rfl, Nat.le_refl _, fun _ _ => rfl⟩
  refine ⟨⟨?_, ((o1.congr fun j hj => wkNewZ n j hj).later b2).later b3, ((o2.congr fun j hj => clNewZ n j hj).later b3).lower (by omega), by omega⟩, (b1.trans (b2.mono (by omega))).trans (b3.mono (by omega))⟩
  show (w2.alloc _).heap[W.heap.size + 1 + 1]? = _
  rw [← s2]
  exact World.alloc_heap_new w2 _
theorem znewB (W : World) (n : Nat) (hn : n ≤ maxLen) : NZ W.heap.size (W.heap.size + 1 + 1) (W.heap.size + 1) W.heap.size n Nt.new (((W.alloc (.cells (zA (.agg #[.bool false, .bool false]) n 2) 125)).alloc (.cells (zA (.agg #[.int .i64 0, .int .i64 0]) n 2) 128)).alloc (.cells #[.func (.func 96) #[] #[], .slice (some ⟨W.heap.size + 1, 0, none⟩) n n, .slice (some ⟨W.heap.size, 0, none⟩) n n] 123)).drew ∧ Below W.heap.size W (((W.alloc (.cells (zA (.agg #[.bool false, .bool false]) n 2) 125)).alloc (.cells (zA (.agg #[.int .i64 0, .int .i64 0]) n 2) 128)).alloc (.cells #[.func (.func 96) #[] #[], .slice (some ⟨W.heap.size + 1, 0, none⟩) n n, .slice (some ⟨W.heap.size, 0, none⟩) n n] 123)).drew := by
  have o1 := own_new W 125 (.agg #[.bool false, .bool false]) n 2 hn
  have s1 : (W.alloc (.cells (zA (.agg #[.bool false, .bool false]) n 2) 125)).heap.size = W.heap.size + 1 := World.size_alloc _ _
  have b1 : Below W.heap.size W (W.alloc (.cells (zA (.agg #[.bool false, .bool false]) n 2) 125)) := (Below.refl _ W).alloc (Nat.le_refl _) _
  generalize (W.alloc (.cells (zA (.agg #[.bool false, .bool false]) n 2) 125)) = w1 at o1 s1 b1 ⊢
  have o2 := own_new w1 128 (.agg #[.int .i64 0, .int .i64 0]) n 2 hn
  have b2 : Below w1.heap.size w1 (w1.alloc (.cells (zA (.agg #[.int .i64 0, .int .i64 0]) n 2) 128)) := (Below.refl _ w1).alloc (Nat.le_refl _) _
  have s2 : (w1.alloc (.cells (zA (.agg #[.int .i64 0, .int .i64 0]) n 2) 128)).heap.size = w1.heap.size + 1 := World.size_alloc _ _
  generalize (w1.alloc (.cells (zA (.agg #[.int .i64 0, .int .i64 0]) n 2) 128)) = w2 at o2 s2 b2 ⊢
  rw [s1] at o2 s2
  have b3 : Below w2.heap.size w2 (w2.alloc (.cells #[.func (.func 96) #[] #[], .slice (some ⟨W.heap.size + 1, 0, none⟩) n n, .slice (some ⟨W.heap.size, 0, none⟩) n n] 123)).drew := ((Below.refl _ w2).alloc (Nat.le_refl _) _).trans ⟨rfl, rfl, rfl, Nat.le_refl _, fun _ _ => rfl⟩
  refine ⟨⟨?_, ((o2.congr fun j hj => wkNewZ n j hj).later b3).lower (by omega), ((o1.congr fun j hj => clNewZ n j hj).later b2).later b3, by omega⟩, (b1.trans (b2.mono (by omega))).trans (b3.mono (by omega))⟩
  show (w2.alloc _).heap[W.heap.size + 1 + 1]? = _
  rw [← s2]
  exact World.alloc_heap_new w2 _
set_option maxRecDepth 100000 in
theorem znew_bad (x : Int) (h : x < 1 ∨ 64 < x) (W : World) : Calls Try.prog 53 #[.int .i64 x, .nilFunc] W fun e W' => e = .returned (.tuple #[.pointer none, .int .i64 100]) ∧ W' = W := by
  by_cases h1 : x < 1
  · have d1 : decide (x < 1) = true := by simpa using h1
    go_enter Try.func53, Try.ntmps53
    go_wp2
    go_returns
    exact ⟨rfl, rfl⟩
  · have d1 : decide (x < 1) = false := by simpa using h1
    have d2 : decide (64 < x) = true := by simp; omega
    go_enter Try.func53, Try.ntmps53
    go_wp2
    go_returns
    exact ⟨rfl, rfl⟩
set_option maxRecDepth 100000 in
set_option maxHeartbeats 4000000 in
theorem znew_nil (n : Nat) (h1 : 1 ≤ n) (h2 : n ≤ 64) (W : World) : Calls Try.prog 53 #[.int .i64 (n : Int), .nilFunc] W fun e W' => ∃ hb wb cb, e = .returned (.tuple #[.pointer (some ⟨hb, 0, none⟩), .int .i64 0]) ∧ NZ W.heap.size hb wb cb n Nt.new W' ∧ Below W.heap.size W W' := by
  have d1 : decide ((n : Int) < 1) = false := by simp; omega
  have d2 : decide (64 < (n : Int)) = false := by simp; omega
  obtain ⟨iW, hW1, hW2, hW3, hW4⟩ := binfo infoWZ
  obtain ⟨iC, hC1, hC2, hC3, hC4⟩ := binfo infoCZ
  have en : ∀ w : World, (binOp .eql 119 Value.nilFunc Value.nilFunc).run Try.prog w = .ok (.bool true) w := fun w => rfl
  have rW : ∀ w : World, (Instr.makeSlice 120 (.int .i64 (n : Int)) (.int .i64 (n : Int))).run Try.prog w = .ok (.slice (some ⟨w.heap.size, 0, none⟩) n n) (w.alloc (.cells (zA (.agg #[.int .i64 0, .int .i64 0]) n 2) 128)) := run_make_eq _ _ iW _ 2 Try.underlying120 hW1 hW2 hW3 n (by rw [hW4]; omega) (by omega)
  have rC : ∀ w : World, (Instr.makeSlice 121 (.int .i64 (n : Int)) (.int .i64 (n : Int))).run Try.prog w = .ok (.slice (some ⟨w.heap.size, 0, none⟩) n n) (w.alloc (.cells (zA (.agg #[.bool false, .bool false]) n 2) 125)) := run_make_eq _ _ iC _ 2 Try.underlying121 hC1 hC2 hC3 n (by rw [hC4]; omega) (by omega)
  have hm : n ≤ maxLen := by unfold maxLen; omega
  clear hW1 hW2 hW3 hW4 hC1 hC2 hC3 hC4
  go_enter Try.func53, Try.ntmps53
  go_wp2
  go_region
  · go_wp2
    go_returns
    exact ⟨_, _, _, rfl, znewA W n hm⟩
  · go_wp2
    go_returns
    exact ⟨_, _, _, rfl, znewB W n hm⟩
/-- a barrier: a box with its net in it -/
structure BZ (base pb hb wb cb n : Nat) (N : Nt) (W : World) : Prop where
  net : NZ base hb wb cb n N W
  box : W.heap[pb]? = some (.cells #[.pointer (some ⟨hb, 0, none⟩)] 32 (0, 0))
  bs : base ≤ pb
theorem BZ.cell {base pb hb wb cb n : Nat} {N : Nt} {W : World} (h : BZ base pb hb wb cb n N W) : W.cell? ⟨pb, 0, none⟩ = some (.pointer (some ⟨hb, 0, none⟩)) := by
  unfold World.cell?
  rw [h.box]
  rfl
theorem BZ.ne {base pb hb wb cb n : Nat} {N : Nt} {W : World} (h : BZ base pb hb wb cb n N W) : pb ≠ wb ∧ pb ≠ cb := by
  obtain ⟨c1, h1, _⟩ := h.net.row.block
  obtain ⟨c2, h2, _⟩ := h.net.cel.block
  exact ⟨typ_ne h.box h1 (by decide), typ_ne h.box h2 (by decide)⟩
theorem BZ.step {base pb hb wb cb n : Nat} {N N' : Nt} {W W' : World} (h : BZ base pb hb wb cb n N W) (hz : ZC W base hb wb cb n N' W') : BZ base pb hb wb cb n N' W' :=
  ⟨hz.1, (hz.2.block _ (lt_of_block h.box) (fun e => e.elim h.ne.1 h.ne.2)).trans h.box, h.bs⟩
theorem BZ.later {base pb hb wb cb n : Nat} {N : Nt} {W W' : World} (h : BZ base pb hb wb cb n N W) (hb' : Below W.heap.size W W') : BZ base pb hb wb cb n N W' :=
  ⟨h.net.later hb', (hb'.block _ (lt_of_block h.box)).trans h.box, h.bs⟩
set_option maxRecDepth 100000 in
theorem znewB_bad (x : Int) (h : x < 1 ∨ 64 < x) (W : World) : Calls Try.prog 9 #[.int .i64 x] W fun e W' => e = .returned (.tuple #[.pointer none, .int .i64 100]) ∧ W' = W := by
  have HB := znew_bad x h W
  go_enter Try.func9, Try.ntmps9
  go_wp2_with (go_at_call 53; (with_reducible refine HB.mono ?_); rintro e w1 ⟨rfl, h9⟩; subst h9)
  go_returns
  exact ⟨rfl, rfl⟩
set_option maxRecDepth 100000 in
theorem znewB_any (n : Nat) (h1 : 1 ≤ n) (h2 : n ≤ 64) (W : World) : Calls Try.prog 9 #[.int .i64 (n : Int)] W fun e W' => ∃ pb hb wb cb, e = .returned (.tuple #[.pointer (some ⟨pb, 0, none⟩), .int .i64 0]) ∧ BZ W.heap.size pb hb wb cb n Nt.new W' ∧ Below W.heap.size W W' := by
  have HB := znew_nil n h1 h2 W
  go_enter Try.func9, Try.ntmps9
  go_wp2_with (go_at_call 53; (with_reducible refine HB.mono ?_); rintro e w1 ⟨hb, wb, cb, rfl, hN, hbl⟩; have HN : Hid (NZ W.heap.size hb wb cb n Nt.new w1) := hN; have HL : Hid (Below W.heap.size W w1) := hbl; clear hN hbl)
  go_returns
  have hl := HL.out.size
  refine ⟨_, hb, wb, cb, rfl, ⟨HN.out.later ((Below.refl _ w1).alloc (Nat.le_refl _) _), World.alloc_heap_new _ _, hl⟩, HL.out.alloc hl _⟩
/-- one Wait -/
def waiN (J : Int → Int → Int) (n : Nat) (N : Nt) (x : Int) : Nt := stpN J n (if inN n x && (N.pl x.toNat != 0) then N else entN n N x 0) x
def waiB (J : Int → Int → Int) (n : Nat) (N : Nt) (x : Int) : Bool := stpB J n (if inN n x && (N.pl x.toNat != 0) then N else entN n N x 0) x
def waiE (n : Nat) (N : Nt) (x : Int) : Int := stpE n (if inN n x && (N.pl x.toNat != 0) then N else entN n N x 0) x
set_option maxRecDepth 100000 in
set_option maxHeartbeats 1000000 in
theorem zwait_any {base pb hb wb cb n : Nat} {N : Nt} (J : Int → Int → Int) (x : Int) (hn : n ≤ 64) (hp5 : ∀ w, w < n → N.pl w ≤ 5) (hr : ∀ w, w < n → N.rd w < 1000000000000000000) (W : World) (h : BZ base pb hb wb cb n N W) : Calls Try.prog 12 #[.pointer (some ⟨pb, 0, none⟩), .int .i64 x] W fun e W' => e = .returned (.tuple #[.bool (waiB J n N x), .int .i64 (waiE n N x)]) ∧ ZC W base hb wb cb n (waiN J n N x) W' := by
  have c0 := h.cell
  have HI := zinside_any x W h.net
  have HW : Hid (BZ base pb hb wb cb n N W) := h
  unfold waiB waiE waiN
  by_cases hq : (inN n x && (N.pl x.toNat != 0)) = true
  · rw [hq] at HI ⊢
    simp only [if_true]
    have HS := zStep_any J x hn hp5 hr W h.net
    clear h
    go_enter Try.func12, Try.ntmps12
    go_wp2_with (first | (go_at_call 17; (with_reducible refine HI.mono ?_); rintro e w1 ⟨rfl, h9⟩; subst h9) | (go_at_call 14; (with_reducible refine HS.mono ?_); rintro e w2 ⟨rfl, hz⟩; have HZ : Hid (_ ∧ True) := ⟨hz, trivial⟩; clear hz))
    go_returns
    exact ⟨rfl, HZ.out.1⟩
  · rw [Bool.not_eq_true] at hq
    rw [hq] at HI ⊢
    simp only [Bool.false_eq_true, if_false]
    have HE := zenter_any x W h.net
    have hp5' : ∀ w, w < n → (entN n N x 0).pl w ≤ 5 := fun w hw => by
      unfold entN
      split
      · show upF N.pl x.toNat 1 w ≤ 5
        unfold upF
        split
        · omega
        · exact hp5 w hw
      · exact hp5 w hw
    have hr' : ∀ w, w < n → (entN n N x 0).rd w < 1000000000000000000 := fun w hw => by
      unfold entN
      split
      · exact hr w hw
      · exact hr w hw
    have HS := fun W' h' => zStep_any (N := entN n N x 0) (base := base) (hb := hb) (wb := wb) (cb := cb) J x hn hp5' hr' W' h'
    clear h
    go_enter Try.func12, Try.ntmps12
    go_wp2_with (first | (go_at_call 17; (with_reducible refine HI.mono ?_); rintro e w1 ⟨rfl, h9⟩; subst h9) | (go_at_call 13; (with_reducible refine HE.mono ?_); rintro e w2 ⟨rfl, hz⟩; have c1 := (BZ.step HW.out hz).cell; have HS2 := HS w2 hz.1; have HZ : Hid (_ ∧ True) := ⟨hz, trivial⟩; clear hz) | (go_at_call 14; (with_reducible refine HS2.mono ?_); rintro e w3 ⟨rfl, hz2⟩; have HZ2 : Hid (_ ∧ True) := ⟨hz2, trivial⟩; clear hz2))
    go_returns
    exact ⟨rfl, HZ2.out.1.1, HZ.out.1.2.trans HZ2.out.1.2⟩
end Go.Proofs.Ytfgkmijaimfkjaa
