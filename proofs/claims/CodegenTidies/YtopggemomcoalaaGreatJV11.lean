import Derived.Test.YtopggemomcoalaaGreatJV9
import Derived.Test.YtopggemomcoalaaGreatJV5
namespace Go.Proofs.YtopggemomcoalaaGreat
open Go.ChangeShapes Go.WideShapes Go.ChangeAt Go.RowKit
set_option linter.unusedVariables false

/-! ### the reference: depths, plainly -/
structure Lk where
  L : Nat → Int
  bad : Bool
  new : Bool
def cm (s : Lk) (k : Nat) (d : Int) : Lk :=
  if s.L k = -1 then { s with L := updI s.L k d, new := true } else if s.L k = d then s else { s with bad := true }
def clo (P : Pg) (L : Nat → Int) (i : Nat) : Prop := fine P i (L i) ∧ (ends (P.op i) = false → L (i + 1) = aft P i (L i)) ∧ (jmp (P.op i) = true → L (P.a i).toNat = aft P i (L i))
structure LInv (P : Pg) (s : Lk) (m : Nat) : Prop where
  dp : s.bad = false → ∀ i, i < P.n → s.L i ≠ -1 → Dp P i (s.L i)
  ent0 : s.bad = false → ∀ j, j < m → 0 ≤ P.en j → s.L (P.en j).toNat = 0
  bad : s.bad = true → BadD P
  wide : ∀ i, i < P.n → -1 ≤ s.L i ∧ s.L i ≤ 64
theorem cm_still {s : Lk} {k : Nat} {d : Int} (hb : (cm s k d).bad = false) (hn : (cm s k d).new = false) : s.bad = false ∧ s.new = false ∧ (cm s k d).L = s.L ∧ s.L k = d := by
  unfold cm at hb hn ⊢
  by_cases h1 : s.L k = -1
  · rw [if_pos h1] at hn; cases hn
  · rw [if_neg h1] at hb hn ⊢
    by_cases h2 : s.L k = d
    · rw [if_pos h2] at hb hn ⊢
      exact ⟨hb, hn, rfl, h2⟩
    · rw [if_neg h2] at hb; cases hb
theorem cm_bad {s : Lk} {k : Nat} {d : Int} (hb : (cm s k d).bad = false) : s.bad = false := by
  unfold cm at hb
  by_cases h1 : s.L k = -1
  · rw [if_pos h1] at hb; exact hb
  · rw [if_neg h1] at hb
    by_cases h2 : s.L k = d
    · rw [if_pos h2] at hb; exact hb
    · rw [if_neg h2] at hb; cases hb
theorem cm_at {s : Lk} {k : Nat} {d : Int} (hb : (cm s k d).bad = false) : (cm s k d).L k = d := by
  unfold cm at hb ⊢
  by_cases h1 : s.L k = -1
  · rw [if_pos h1]; exact updI_at _ _ _
  · rw [if_neg h1] at hb ⊢
    by_cases h2 : s.L k = d
    · rw [if_pos h2]; exact h2
    · rw [if_neg h2] at hb; cases hb
theorem cm_keep {s : Lk} {k i : Nat} {d : Int} (h : s.L i ≠ -1) : (cm s k d).L i = s.L i := by
  unfold cm
  by_cases h1 : s.L k = -1
  · rw [if_pos h1]
    exact updI_ne _ _ (by rintro rfl; exact h h1)
  · rw [if_neg h1]
    by_cases h2 : s.L k = d
    · rw [if_pos h2]
    · rw [if_neg h2]
theorem LInv.cm {P : Pg} {s : Lk} {m k : Nat} {d : Int} (h : LInv P s m) (hk : k < P.n) (hd : 0 ≤ d ∧ d ≤ 64) (hdp : s.bad = false → Dp P k d) : LInv P (cm s k d) m := by
  unfold Go.Proofs.YtopggemomcoalaaGreat.cm
  by_cases h1 : s.L k = -1
  · rw [if_pos h1]
    refine ⟨fun hb i hi hl => ?_, fun hb j hj he => ?_, h.bad, fun i hi => ?_⟩
    · show Dp P i (updI s.L k d i)
      by_cases e : i = k
      · subst e; rw [updI_at]; exact hdp hb
      · rw [updI_ne _ _ e]
        exact h.dp hb i hi (by have : updI s.L k d i ≠ -1 := hl; rwa [updI_ne _ _ e] at this)
    · show updI s.L k d _ = 0
      have h2 := h.ent0 hb j hj he
      rw [updI_ne _ _ (by intro e; rw [e] at h2; omega)]
      exact h2
    · show -1 ≤ updI s.L k d i ∧ updI s.L k d i ≤ 64
      by_cases e : i = k
      · subst e; rw [updI_at]; omega
      · rw [updI_ne _ _ e]; exact h.wide i hi
  · rw [if_neg h1]
    by_cases h2 : s.L k = d
    · rw [if_pos h2]; exact h
    · rw [if_neg h2]
      refine ⟨fun hb => (by cases hb), fun hb => (by cases hb), fun _ => ?_, h.wide⟩
      by_cases hb : s.bad = true
      · exact h.bad hb
      · have hb' : s.bad = false := by simpa using hb
        exact .inr ⟨k, _, _, h.dp hb' k hk h1, hdp hb', hk, h2⟩
/-- ahead of place i in a round that began with M places not known -/
structure LIn (P : Pg) (s : Lk) (i M : Nat) : Prop where
  inv : LInv P s P.m
  cl : s.bad = false → s.new = false → ∀ k, k < i → s.L k ≠ -1 → clo P s.L k
  le : left P.n s.L ≤ M
  lt : s.new = true → left P.n s.L < M
theorem cm_left {n : Nat} {s : Lk} {k M : Nat} {d : Int} (hk : k < n) (hd : d ≠ -1) (hle : left n s.L ≤ M) (hlt : s.new = true → left n s.L < M) : left n (cm s k d).L ≤ M ∧ ((cm s k d).new = true → left n (cm s k d).L < M) := by
  unfold cm
  by_cases h1 : s.L k = -1
  · rw [if_pos h1]
    have := left_upd hk h1 hd
    exact ⟨by show left n (updI s.L k d) ≤ M; omega, fun _ => by show left n (updI s.L k d) < M; omega⟩
  · rw [if_neg h1]
    by_cases h2 : s.L k = d
    · rw [if_pos h2]; exact ⟨hle, hlt⟩
    · rw [if_neg h2]; exact ⟨hle, hlt⟩
def lk1 (P : Pg) (s : Lk) (i : Nat) : Lk := if jmp (P.op i) then cm s (P.a i).toNat (aft P i (s.L i)) else s
def lk2 (P : Pg) (s : Lk) (i : Nat) : Lk := if ends (P.op i) then lk1 P s i else cm (lk1 P s i) (i + 1) (aft P i (s.L i))
theorem LIn.step {P : Pg} (g : Gd P) (hnr : ¬ Rch P P.n) {s : Lk} {i M : Nat} (h : LIn P s i M) (hi : i < P.n) (hb : s.bad = false) (hl : s.L i ≠ -1) (hf : fine P i (s.L i)) : LIn P (lk2 P s i) (i + 1) M ∧ (ends (P.op i) = false → i + 1 < P.n) := by
  have hd := h.inv.dp hb i hi hl
  have hnx : ends (P.op i) = false → i + 1 < P.n := fun he => by
    rcases Nat.lt_or_ge (i + 1) P.n with z | z
    · exact z
    · exact absurd (by have := Rch.next i hd.rch hi he; rwa [show i + 1 = P.n by omega] at this) hnr
  have hd64 : 0 ≤ aft P i (s.L i) ∧ aft P i (s.L i) ≤ 64 := ⟨aft_nn hf, hf.2⟩
  refine ⟨?_, hnx⟩
  have i1 : LInv P (lk1 P s i) P.m ∧ (left P.n (lk1 P s i).L ≤ M ∧ ((lk1 P s i).new = true → left P.n (lk1 P s i).L < M)) := by
    unfold lk1
    by_cases hj : jmp (P.op i) = true
    · have ha := g.a i hi hj
      rw [if_pos hj]
      exact ⟨h.inv.cm (by omega) hd64 (fun _ => .jump i _ hd hi hf hj), cm_left (by omega) (by omega) h.le h.lt⟩
    · rw [if_neg hj]; exact ⟨h.inv, h.le, h.lt⟩
  have i2 : LInv P (lk2 P s i) P.m ∧ (left P.n (lk2 P s i).L ≤ M ∧ ((lk2 P s i).new = true → left P.n (lk2 P s i).L < M)) := by
    unfold lk2
    by_cases he : ends (P.op i) = true
    · rw [if_pos he]; exact i1
    · rw [if_neg he]
      have he' : ends (P.op i) = false := by simpa using he
      exact ⟨i1.1.cm (hnx he') hd64 (fun _ => .next i _ hd hi hf he'), cm_left (hnx he') (by omega) i1.2.1 i1.2.2⟩
  refine ⟨i2.1, fun hb2 hn2 k hk hlk => ?_, i2.2.1, i2.2.2⟩
  have f1 : (lk1 P s i).bad = false ∧ (lk1 P s i).new = false ∧ (lk2 P s i).L = (lk1 P s i).L ∧ (ends (P.op i) = false → (lk1 P s i).L (i + 1) = aft P i (s.L i)) := by
    unfold lk2 at hb2 hn2 ⊢
    by_cases he : ends (P.op i) = true
    · rw [if_pos he] at hb2 hn2 ⊢
      exact ⟨hb2, hn2, rfl, fun he' => by rw [he] at he'; cases he'⟩
    · rw [if_neg he] at hb2 hn2 ⊢
      obtain ⟨a1, a2, a3, a4⟩ := cm_still hb2 hn2
      exact ⟨a1, a2, a3, fun _ => a4⟩
  obtain ⟨b1, n1, e1, x1⟩ := f1
  have f0 : s.new = false ∧ (lk1 P s i).L = s.L ∧ (jmp (P.op i) = true → s.L (P.a i).toNat = aft P i (s.L i)) := by
    unfold lk1 at b1 n1 ⊢
    by_cases hj : jmp (P.op i) = true
    · rw [if_pos hj] at b1 n1 ⊢
      obtain ⟨a1, a2, a3, a4⟩ := cm_still b1 n1
      exact ⟨a2, a3, fun _ => a4⟩
    · rw [if_neg hj] at b1 n1 ⊢
      exact ⟨n1, rfl, fun hj' => absurd hj' hj⟩
  obtain ⟨n0, e0, x0⟩ := f0
  rw [e1, e0] at hlk ⊢
  rw [e0] at x1
  by_cases e : k = i
  · subst e; exact ⟨hf, x1, x0⟩
  · exact h.cl hb n0 k (by omega) hlk
theorem LIn.skip {P : Pg} {s : Lk} {i M : Nat} (h : LIn P s i M) (hl : s.L i = -1) : LIn P s (i + 1) M :=
  ⟨h.inv, fun hb hn k hk hlk => h.cl hb hn k (by
    by_cases e : k = i
    · subst e; exact absurd hl hlk
    · omega) hlk, h.le, h.lt⟩
theorem LIn.spoil {P : Pg} {s : Lk} {i M : Nat} (h : LIn P s i M) (hi : i < P.n) (hb : s.bad = false) (hl : s.L i ≠ -1) (hf : ¬ fine P i (s.L i)) : LIn P { s with bad := true } (i + 1) M :=
  ⟨⟨fun hb => (by cases hb), fun hb => (by cases hb), fun _ => .inl ⟨i, _, h.inv.dp hb i hi hl, hi, hf⟩, h.inv.wide⟩, fun hb => (by cases hb), h.le, h.lt⟩
theorem linv_done {P : Pg} (g : Gd P) {s : Lk} (h : LInv P s P.m) (hb : s.bad = false) (hc : ∀ k, k < P.n → s.L k ≠ -1 → clo P s.L k) : Sol P s.L :=
  ⟨h.dp hb, h.ent0 hb, fun i hi hl => (hc i hi hl).1, fun i hi hl he => (hc i hi hl).2.1 he, fun i hi hl he => (hc i hi hl).2.2 he⟩

/-! ### its box -/
structure LkW (w0 W : World) (base kb m : Nat) (s : Lk) (av : Value) : Prop where
  box : W.heap[kb]? = some (.cells #[av, .bool s.bad, .bool s.new] 117 (0, 0))
  row : Own W base 3 1 av m (iv s.L)
  nk : av.ownBlock ≠ some kb
  bk : base ≤ kb
  bel : Below base w0 W
theorem LkW.cells {w0 W : World} {base kb m : Nat} {s : Lk} {av : Value} (h : LkW w0 W base kb m s av) : W.cell? ⟨kb, 0, none⟩ = some av ∧ W.cell? ⟨kb, 1, none⟩ = some (.bool s.bad) ∧ W.cell? ⟨kb, 2, none⟩ = some (.bool s.new) ∧ ∀ k, W.frozen? ⟨kb, k, none⟩ = false := by
  have := h.box
  refine ⟨?_, ?_, ?_, fun k => ?_⟩ <;> simp [World.cell?, World.frozen?, this]
theorem LkW.at {w0 W : World} {base kb m : Nat} {s : Lk} {av : Value} (h : LkW w0 W base kb m s av) {k : Nat} (hk : k < m) : ∃ ab c, av = .slice (some ⟨ab, 0, none⟩) m c ∧ W.cell? ⟨ab, k, none⟩ = some (.int .i64 (s.L k)) ∧ W.frozen? ⟨ab, k, none⟩ = false := by
  rcases h.row.form with ⟨h1, h2⟩ | ⟨ab, c, h1, h2, h3⟩
  · omega
  · have ho := h.row
    rw [h1] at ho
    refine ⟨ab, c, h1, ho.cell (by omega), ?_⟩
    obtain ⟨cur, h4, _⟩ := ho.block
    simp [World.frozen?, h4]
theorem LkW.setBad {w0 W : World} {base kb m : Nat} {s : Lk} {av : Value} (h : LkW w0 W base kb m s av) (b : Bool) : LkW w0 (W.setCell ⟨kb, 1, none⟩ (.bool b)) base kb m { s with bad := b } av := by
  refine ⟨?_, h.row.far fun k hk => Below.heap_setCell _ _ _ _ ?_, h.nk, h.bk, h.bel.setCell (p := ⟨kb, 1, none⟩) h.bk _⟩
  · rw [setCell_block _ _ _ _ h.box]; rfl
  · rintro rfl; exact h.nk hk
theorem LkW.setNew {w0 W : World} {base kb m : Nat} {s : Lk} {av : Value} (h : LkW w0 W base kb m s av) (b : Bool) : LkW w0 (W.setCell ⟨kb, 2, none⟩ (.bool b)) base kb m { s with new := b } av := by
  refine ⟨?_, h.row.far fun k hk => Below.heap_setCell _ _ _ _ ?_, h.nk, h.bk, h.bel.setCell (p := ⟨kb, 2, none⟩) h.bk _⟩
  · rw [setCell_block _ _ _ _ h.box]; rfl
  · rintro rfl; exact h.nk hk
theorem LkW.setL {w0 W : World} {base kb m ab c : Nat} {s : Lk} (h : LkW w0 W base kb m s (.slice (some ⟨ab, 0, none⟩) m c)) {k : Nat} (hk : k < m) (d : Int) : LkW w0 (W.setCell ⟨ab, k, none⟩ (.int .i64 d)) base kb m { s with L := updI s.L k d } (.slice (some ⟨ab, 0, none⟩) m c) := by
  obtain ⟨cur, h1, h2, h3, h4, h5, h6⟩ := h.row.block
  have hne : kb ≠ ab := fun e => h.nk (by rw [e]; rfl)
  refine ⟨?_, ?_, h.nk, h.bk, h.bel.setCell (p := ⟨ab, k, none⟩) h5 _⟩
  · rw [Below.heap_setCell _ _ _ _ hne]; exact h.box
  · refine (h.row.put k [.int .i64 d]).congr fun j hj => ?_
    show _ = Value.int .i64 (updI s.L k d j)
    unfold putF iv updI
    by_cases e : j = k
    · subst e; simp
    · rw [if_neg (by simp; omega), if_neg e]
theorem LkW.later {w0 W W' : World} {base kb m : Nat} {s : Lk} {av : Value} (h : LkW w0 W base kb m s av) (hb : Below W.heap.size W W') (hbw : base ≤ W.heap.size) : LkW w0 W' base kb m s av := by
  refine ⟨(hb.block _ (Array.getElem?_eq_some_iff.1 h.box).1).trans h.box, h.row.far fun k hk => ?_, h.nk, h.bk, h.bel.trans (hb.mono hbw)⟩
  rcases h.row.form with ⟨h7, _⟩ | ⟨g, c, h7, h8, h9⟩
  · rw [h7] at hk; cases hk
  · rw [h7] at hk; cases hk; exact hb.block _ h9
def abOf : Option Value → Nat
  | some (.slice (some ad) _ _) => ad.block
  | _ => 0
def bitOf : Option Value → Nat
  | some (.bool true) => 1
  | _ => 0
def muL (kb n : Nat) (W : World) : Nat := 2 * ((List.range n).filter fun i => isN1 (W.cell? ⟨abOf (W.cell? ⟨kb, 0, none⟩), i, none⟩)).length + bitOf (W.cell? ⟨kb, 2, none⟩)
theorem LkW.mu {w0 W : World} {base kb n : Nat} {s : Lk} {av : Value} (h : LkW w0 W base kb n s av) : muL kb n W = 2 * left n s.L + (if s.new then 1 else 0) := by
  obtain ⟨c0, c1, c2, _⟩ := h.cells
  unfold muL left
  rw [c0, c2]
  congr 1
  · congr 2
    apply List.filter_congr
    intro i hi
    obtain ⟨ab, c, e, h1, _⟩ := h.at (List.mem_range.1 hi)
    rw [e]
    show isN1 (W.cell? ⟨ab, i, none⟩) = _
    rw [h1]
    rfl
  · rcases s.new with _ | _ <;> rfl

set_option maxRecDepth 100000 in
theorem come_any (w0 w : World) (base kb n ab c : Nat) (s : Lk) (k : Nat) (d : Int) (hk : k < n) (h : LkW w0 w base kb n s (.slice (some ⟨ab, 0, none⟩) n c)) :
    Calls Tryz.prog 91 #[.pointer (some ⟨kb, 0, none⟩), .int .i64 k, .int .i64 d] w fun e w' => e = .returned (.tuple #[]) ∧ LkW w0 w' base kb n (cm s k d) (.slice (some ⟨ab, 0, none⟩) n c) := by
  obtain ⟨c0, c1, c2, fz⟩ := h.cells
  have f1 := fz 1
  obtain ⟨ab', c', e, x0, x1⟩ := h.at hk
  injection e with e1 e2 e3
  injection e1 with e1
  injection e1 with e1 _ _
  subst e1 e3
  have i0 : (0 : Int) ≤ (k : Int) := by omega
  have i1 : (k : Int) < (n : Int) := by omega
  go_enter Tryz.func91, Tryz.ntmps91
  by_cases h1 : s.L k = -1
  · rw [h1] at x0
    have hq := h.setL hk d
    obtain ⟨_, _, y2, yf⟩ := hq.cells
    have yf2 := yf 2
    have hq2 := hq.setNew true
    have hres : Hid (cm s k d = { s with L := updI s.L k d, new := true }) := by show cm s k d = _; unfold cm; rw [if_pos h1]
    clear h hq
    go_wp2
    go_end0
    exact ⟨rfl, by rw [hres.out]; exact hq2⟩
  · have d1 : (s.L k == -1) = false := by simpa using h1
    by_cases h2 : s.L k = d
    · have hres : Hid (cm s k d = s) := by show cm s k d = _; unfold cm; rw [if_neg h1, if_pos h2]
      rw [h2] at x0 d1
      clear h2
      go_wp2
      go_end0
      exact ⟨rfl, by rw [hres.out]; exact h⟩
    · have d2 : (s.L k == d) = false := by simpa using h2
      have hres : Hid (cm s k d = { s with bad := true }) := by show cm s k d = _; unfold cm; rw [if_neg h1, if_neg h2]
      have hq := h.setBad true
      clear h
      go_wp2
      go_end0
      exact ⟨rfl, by rw [hres.out]; exact hq⟩
end Go.Proofs.YtopggemomcoalaaGreat
