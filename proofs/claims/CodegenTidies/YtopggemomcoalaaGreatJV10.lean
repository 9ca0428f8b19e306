import Derived.Test.YtopggemomcoalaaGreatJV9
import Derived.Test.YtopggemomcoalaaGreatJV5
namespace Go.Proofs.YtopggemomcoalaaGreat
open Go.ChangeShapes Go.WideShapes Go.ChangeAt Go.RowKit
set_option linter.unusedVariables false

/-! ### the reference: which places are reached -/
def bv (L : Nat → Bool) : Nat → Value := fun j => .bool (L j)
def updB (L : Nat → Bool) (k : Nat) : Nat → Bool := fun i => if i = k then true else L i
theorem updB_at (L : Nat → Bool) (k : Nat) : updB L k k = true := by unfold updB; rw [if_pos rfl]
theorem updB_ne (L : Nat → Bool) {k i : Nat} (h : i ≠ k) : updB L k i = L i := by unfold updB; rw [if_neg h]
theorem updB_mono {L : Nat → Bool} {k i : Nat} (h : L i = true) : updB L k i = true := by
  by_cases e : i = k
  · subst e; exact updB_at _ _
  · rw [updB_ne _ e]; exact h
def leftB (n : Nat) (L : Nat → Bool) : Nat := ((List.range n).filter fun i => !L i).length
theorem leftB_upd {n : Nat} {L : Nat → Bool} {k : Nat} (hk : k < n) (h : L k = false) : leftB n (updB L k) + 1 = leftB n L := by
  unfold leftB
  induction n with
  | zero => omega
  | succ n ih =>
    rw [List.range_succ, List.filter_append, List.filter_append, List.length_append, List.length_append]
    by_cases hkn : k = n
    · subst hkn
      have e : ((List.range k).filter fun i => !updB L k i) = (List.range k).filter fun i => !L i := by
        apply List.filter_congr
        intro i hi
        rw [updB_ne _ (by have := List.mem_range.1 hi; omega)]
      rw [e]
      have e1 : ([k].filter fun i => !updB L k i) = [] := by simp [updB_at]
      have e2 : ([k].filter fun i => !L i) = [k] := by simp [h]
      rw [e1, e2]
      simp
    · have := ih (by omega)
      have e : ([n].filter fun i => !updB L k i) = [n].filter fun i => !L i := by
        apply List.filter_congr
        intro i hi
        rw [updB_ne _ (by have := List.mem_singleton.1 hi; omega)]
      rw [e]
      omega
/-- a way leads on from i, all that it leads to is marked -/
def closedB (P : Pg) (L : Nat → Bool) (i : Nat) : Prop := (ends (P.op i) = false → L (i + 1) = true) ∧ (jmp (P.op i) = true → L (P.a i).toNat = true)
theorem closedB_mono {P : Pg} {L : Nat → Bool} {i k : Nat} (h : closedB P L i) : closedB P (updB L k) i := ⟨fun he => updB_mono (h.1 he), fun he => updB_mono (h.2 he)⟩
structure RInv (P : Pg) (L : Nat → Bool) (m : Nat) : Prop where
  rch : ∀ i, i ≤ P.n → L i = true → Rch P i
  ent : ∀ j, j < m → 0 ≤ P.en j → L (P.en j).toNat = true
theorem RInv.upd {P : Pg} {L : Nat → Bool} {m k : Nat} (h : RInv P L m) (hr : Rch P k) : RInv P (updB L k) m :=
  ⟨fun i hi hl => by
    by_cases e : i = k
    · subst e; exact hr
    · rw [updB_ne _ e] at hl; exact h.rch i hi hl, fun j hj he => updB_mono (h.ent j hj he)⟩
theorem rinv_done {P : Pg} (g : Gd P) {L : Nat → Bool} (h : RInv P L P.m) (hc : ∀ i, i < P.n → L i = true → closedB P L i) : L P.n = true ↔ Rch P P.n := by
  refine ⟨h.rch P.n (Nat.le_refl _), fun hr => ?_⟩
  have all : ∀ i, Rch P i → L i = true := by
    intro i hr
    induction hr with
    | entry j hj he => exact h.ent j hj he
    | next i hr hi he ih => exact (hc i hi ih).1 he
    | jump i hr hi he ih => exact (hc i hi ih).2 he
  exact all _ hr
def isF : Option Value → Bool
  | some (.bool b) => !b
  | _ => false
def b2n : Value → Nat
  | .bool true => 1
  | _ => 0
def lbW (lb n : Nat) (W : World) : Nat := ((List.range n).filter fun i => isF (W.cell? ⟨lb, i, none⟩)).length
/-- the marks' row -/
structure RW (w0 W : World) (base lb n : Nat) (L : Nat → Bool) : Prop where
  row : Own W base 4 1 (.slice (some ⟨lb, 0, none⟩) n n) n (bv L)
  bel : Below base w0 W
theorem RW.cell {w0 W : World} {base lb n : Nat} {L : Nat → Bool} (h : RW w0 W base lb n L) {k : Nat} (hk : k < n) : W.cell? ⟨lb, k, none⟩ = some (.bool (L k)) ∧ W.frozen? ⟨lb, k, none⟩ = false := by
  refine ⟨h.row.cell (by omega), ?_⟩
  obtain ⟨cur, h1, _⟩ := h.row.block
  simp [World.frozen?, h1]
theorem RW.set {w0 W : World} {base lb n : Nat} {L : Nat → Bool} (h : RW w0 W base lb n L) {k : Nat} (hk : k < n) : RW w0 (W.setCell ⟨lb, k, none⟩ (.bool true)) base lb n (updB L k) := by
  obtain ⟨cur, h1, h2, h3, h4, h5, h6⟩ := h.row.block
  refine ⟨?_, h.bel.setCell (p := ⟨lb, k, none⟩) h5 _⟩
  refine (h.row.put k [.bool true]).congr fun j hj => ?_
  unfold putF bv updB
  by_cases e : j = k
  · subst e; simp
  · rw [if_neg (by simp; omega), if_neg e]
theorem RW.mu {w0 W : World} {base lb n : Nat} {L : Nat → Bool} (h : RW w0 W base lb n L) : lbW lb n W = leftB n L := by
  unfold lbW leftB
  congr 1
  apply List.filter_congr
  intro i hi
  rw [(h.cell (List.mem_range.1 hi)).1]
  rfl
theorem infoBool : (Tryz.prog.info? 4).map (fun i => (i.zero, i.size, i.bytes)) = some (some (.bool false), 1, 1) := by kernel_rfl
theorem updB_id {L : Nat → Bool} {k : Nat} (h : L k = true) : updB L k = L := by
  funext i
  by_cases e : i = k
  · subst e; rw [updB_at, h]
  · rw [updB_ne _ e]
theorem leftB_le {n : Nat} {L : Nat → Bool} {k : Nat} (hk : k < n) : leftB n (updB L k) ≤ leftB n L := by
  rcases h : L k with _ | _
  · have := leftB_upd hk h; omega
  · rw [updB_id h]; exact Nat.le_refl _
/-- what holds ahead of place i in a round that began with M marks left -/
structure RIn (P : Pg) (L : Nat → Bool) (b : Bool) (i M : Nat) : Prop where
  inv : RInv P L P.m
  cl : b = false → ∀ k, k < i → L k = true → closedB P L k
  le : leftB (P.n + 1) L ≤ M
  lt : b = true → leftB (P.n + 1) L < M
theorem RIn.skip {P : Pg} {L : Nat → Bool} {b : Bool} {i M : Nat} (h : RIn P L b i M) (hl : L i = false) : RIn P L b (i + 1) M :=
  ⟨h.inv, fun hb k hk hlk => h.cl hb k (by
    by_cases e : k = i
    · subst e; rw [hl] at hlk; cases hlk
    · omega) hlk, h.le, h.lt⟩
def rL1 (P : Pg) (L : Nat → Bool) (i : Nat) : Nat → Bool := if ends (P.op i) then L else updB L (i + 1)
def rL2 (P : Pg) (L : Nat → Bool) (i : Nat) : Nat → Bool := if jmp (P.op i) then updB (rL1 P L i) (P.a i).toNat else rL1 P L i
def rB (P : Pg) (L : Nat → Bool) (b : Bool) (i : Nat) : Bool := b || (jmp (P.op i) && (!rL1 P L i (P.a i).toNat && decide (P.a i < i)))
theorem RIn.step {P : Pg} (g : Gd P) {L : Nat → Bool} {b : Bool} {i M : Nat} (h : RIn P L b i M) (hi : i < P.n) (hl : L i = true) : RIn P (rL2 P L i) (rB P L b i) (i + 1) M := by
  have hr : Rch P i := h.inv.rch i (by omega) hl
  have m1 : ∀ k, L k = true → rL1 P L i k = true := by
    intro k hk
    unfold rL1
    by_cases he : ends (P.op i) = true
    · rw [if_pos he]; exact hk
    · rw [if_neg he]; exact updB_mono hk
  have m2 : ∀ k, rL1 P L i k = true → rL2 P L i k = true := by
    intro k hk
    unfold rL2
    by_cases he : jmp (P.op i) = true
    · rw [if_pos he]; exact updB_mono hk
    · rw [if_neg he]; exact hk
  have inv1 : RInv P (rL1 P L i) P.m := by
    unfold rL1
    by_cases he : ends (P.op i) = true
    · rw [if_pos he]; exact h.inv
    · rw [if_neg he]; exact h.inv.upd (.next i hr hi (by simpa using he))
  have inv2 : RInv P (rL2 P L i) P.m := by
    unfold rL2
    by_cases he : jmp (P.op i) = true
    · rw [if_pos he]; exact inv1.upd (.jump i hr hi he)
    · rw [if_neg he]; exact inv1
  have le1 : leftB (P.n + 1) (rL1 P L i) ≤ leftB (P.n + 1) L := by
    unfold rL1
    by_cases he : ends (P.op i) = true
    · rw [if_pos he]; exact Nat.le_refl _
    · rw [if_neg he]; exact leftB_le (by omega)
  have le2 : leftB (P.n + 1) (rL2 P L i) ≤ leftB (P.n + 1) (rL1 P L i) := by
    unfold rL2
    by_cases he : jmp (P.op i) = true
    · rw [if_pos he]; exact leftB_le (by have := g.a i hi he; omega)
    · rw [if_neg he]; exact Nat.le_refl _
  have hle := h.le
  refine ⟨inv2, fun hb k hk hlk => ?_, by omega, fun hb => ?_⟩
  · unfold rB at hb
    simp only [Bool.or_eq_false_iff] at hb
    obtain ⟨hb1, hb2⟩ := hb
    by_cases e : k = i
    · subst e
      refine ⟨fun he => m2 _ ?_, fun he => ?_⟩
      · unfold rL1; rw [if_neg (by simp [he])]; exact updB_at _ _
      · unfold rL2; rw [if_pos he]; exact updB_at _ _
    · have hk' : k < i := by omega
      have hold : L k = true := by
        have h1 : rL1 P L i k = true := by
          unfold rL2 at hlk
          by_cases he : jmp (P.op i) = true
          · rw [if_pos he] at hlk
            by_cases e2 : k = (P.a i).toNat
            · have ha := g.a i hi he
              rw [he, Bool.true_and] at hb2
              rw [decide_eq_true (by omega), Bool.and_true] at hb2
              rw [e2]
              simpa using hb2
            · rw [updB_ne _ e2] at hlk; exact hlk
          · rw [if_neg he] at hlk; exact hlk
        unfold rL1 at h1
        by_cases he : ends (P.op i) = true
        · rw [if_pos he] at h1; exact h1
        · rw [if_neg he, updB_ne _ (by omega)] at h1; exact h1
      obtain ⟨c1, c2⟩ := h.cl hb1 k hk' hold
      exact ⟨fun he => m2 _ (m1 _ (c1 he)), fun he => m2 _ (m1 _ (c2 he))⟩
  · unfold rB at hb
    rw [Bool.or_eq_true] at hb
    rcases hb with hb | hb
    · have := h.lt hb; omega
    · simp only [Bool.and_eq_true] at hb
      obtain ⟨hj, h1, h2⟩ := hb
      have h1' : rL1 P L i (P.a i).toNat = false := by simpa using h1
      have ha := g.a i hi hj
      have := leftB_upd (n := P.n + 1) (k := (P.a i).toNat) (by omega) h1'
      have e : rL2 P L i = updB (rL1 P L i) (P.a i).toNat := by unfold rL2; rw [if_pos hj]
      rw [e]
      omega
set_option maxRecDepth 100000 in
set_option maxHeartbeats 8000000 in
theorem reached_any (P : Pg) (g : Gd P) (hs : sizedP P) (v : PgV) (w : World) (hI : IAt w v.cp P.n P.op P.a P.b) (hE : KAt w v.ep P.m P.en) :
    Calls Tryz.prog 47 #[.agg #[.int .i64 P.words, .int .i64 P.locals, .slice v.cp P.n v.cc, .slice v.ep P.m v.ec]] w fun e w' => ∃ lb, e = .returned (.slice (some ⟨lb, 0, none⟩) (P.n + 1) (P.n + 1)) ∧ Below w.heap.size w w' ∧ ∃ L, w'.cell? ⟨lb, P.n, none⟩ = some (.bool L) ∧ (L = true ↔ Rch P P.n) := by
  obtain ⟨i5, hi5, hz0, hz1, hz2⟩ := info_parts infoBool
  have hn : P.n ≤ 4096 := hs.2.2.1
  have hm32 : P.m ≤ 32 := hs.2.2.2
  have hb5 : i5.bytes * (P.n + 1) ≤ 281474976710656 := by rw [hz2]; omega
  have hn9 : P.n + 1 ≤ 9223372036854775807 := by omega
  go_enter Tryz.func47, Tryz.ntmps47
  go_wp2_with (at_make; refine wpList_make_row _ rfl _ _ 34 rfl 4 i5 (.bool false) Tryz.underlying34 hi5 hz0 hz1 rfl .i64 .i64 (P.n + 1) rfl rfl hb5 hn9 ?_)
  obtain ⟨wp, hwp⟩ : ∃ wp, w.alloc (.cells #[.int .i64 P.words, .int .i64 P.locals, .slice v.cp P.n v.cc, .slice v.ep P.m v.ec] 25) = wp := ⟨_, rfl⟩
  rw [hwp]
  have hbox : wp.heap[w.heap.size]? = some (.cells #[.int .i64 P.words, .int .i64 P.locals, .slice v.cp P.n v.cc, .slice v.ep P.m v.ec] 25 (0, 0)) := by rw [← hwp]; exact World.alloc_heap_new w _
  have hbelp : Below w.heap.size w wp := by rw [← hwp]; exact (Below.refl _ w).alloc (Nat.le_refl _) _
  have hszp : wp.heap.size = w.heap.size + 1 := by rw [← hwp, World.size_alloc]
  have hI' := hI.below hbelp
  have hE' := hE.below hbelp
  clear hwp hI hE
  obtain ⟨lb, hlb⟩ : ∃ lb, w.heap.size + 1 = lb := ⟨_, rfl⟩
  rw [hlb]
  have hR0 : RW wp (wp.alloc (.cells (madeCells #[.bool false] (P.n + 1)) 4)) wp.heap.size lb (P.n + 1) (fun _ => false) := by
    refine ⟨Own.mk' (cur := madeCells #[.bool false] (P.n + 1)) ?_ (by rw [size_madeCells, Nat.mul_one]) (Nat.le_refl _) (by unfold maxLen; omega) (by omega) (fun j hj => ?_), (Below.refl _ wp).alloc (Nat.le_refl _) _⟩
    · rw [show lb = wp.heap.size by omega]; exact World.alloc_heap_new wp _
    · have e : j % 1 = 0 := by omega
      simp [madeCells, show j < P.n + 1 by omega, e]
      rfl
  clear hb5 hn9
  go_loopw [4] (fun x wr => ∃ (j : Nat) (L : Nat → Bool), x = .int .i64 j ∧ j ≤ P.m ∧ RW wp wr wp.heap.size lb (P.n + 1) L ∧ RInv P L j) (fun x _ => P.m - (intOf x).toNat)
  case atStart => exact ⟨0, _, rfl, Nat.zero_le _, hR0, ⟨fun i hi h => (by cases h), fun j hj => (by omega)⟩⟩
  case round =>
    obtain ⟨j, L, rfl, hj, hr, hinv⟩ := hrel
    have hbx := (hr.bel.block w.heap.size (by omega)).trans hbox
    obtain ⟨p0, p1, p2, p3⟩ := cells4 hbx
    by_cases hlt : j < P.m
    · obtain h0 | ⟨eb, eo, hep, hel, hec⟩ := hE'.below hr.bel
      · omega
      have x0 := hec j hlt
      have hm := meas0 hlt
      have i0 : (0 : Int) ≤ (j : Int) := by omega
      have i1 : (j : Int) < (P.m : Int) := by omega
      have hen := g.en j hlt
      rw [hep] at p3
      by_cases he : P.en j < 0
      · have hinv' : RInv P L (j + 1) := ⟨hinv.rch, fun j' hj' he' => by
          by_cases e : j' = j
          · subst e; omega
          · exact hinv.ent j' (by omega) he'⟩
        clear hec hE' hI' hR0 hbox hbx hinv
        go_wp2
        exact ⟨⟨j + 1, L, rfl, hlt, hr, hinv'⟩, hm⟩
      · obtain ⟨ek, hek⟩ : ∃ ek : Nat, P.en j = ek := ⟨(P.en j).toNat, by omega⟩
        have hq := hr.set (k := ek) (by omega)
        obtain ⟨y0, y1⟩ := hr.cell (k := ek) (by omega)
        have hinv' : RInv P (updB L ek) (j + 1) := by
          have e1 : (P.en j).toNat = ek := by omega
          have h1 := hinv.upd (k := ek) (by rw [← e1]; exact .entry j hlt (by omega))
          exact ⟨h1.rch, fun j' hj' he' => by
            by_cases e : j' = j
            · subst e; rw [e1]; exact updB_at _ _
            · exact h1.ent j' (by omega) he'⟩
        rw [hek] at x0
        have j0 : (0 : Int) ≤ (ek : Int) := by omega
        have j1 : (ek : Int) < (P.n : Int) + 1 := by omega
        clear hec hE' hI' hR0 hbox hbx hinv hek he
        go_wp2
        exact ⟨⟨j + 1, _, rfl, hlt, hq, hinv'⟩, hm⟩
    · obtain rfl : j = P.m := by omega
      have dl : decide ((P.m : Int) < P.m) = false := by simp
      clear hR0
      go_wp2
      clear p0 p1 p2 p3 hbx
      obtain ⟨w5, hw5⟩ : ∃ w5, wr = w5 := ⟨_, rfl⟩
      rw [hw5] at hr ⊢
      clear hw5 wr
      go_loopw [5] (fun x wr => ∃ (b : Bool) (L : Nat → Bool), x = .bool b ∧ RW wp wr wp.heap.size lb (P.n + 1) L ∧ RInv P L P.m ∧ (b = false → ∀ i, i < P.n → L i = true → closedB P L i)) (fun x wr => 2 * lbW lb (P.n + 1) wr + b2n x)
      case atStart => exact ⟨true, L, rfl, hr, hinv, fun h => by cases h⟩
      case round =>
        clear hr hinv
        obtain ⟨b, L, rfl, hr, hinv, hcl⟩ := hrel
        rcases b with _ | _
        · have hiff := rinv_done g hinv (hcl rfl)
          obtain ⟨y0, y1⟩ := hr.cell (k := P.n) (by omega)
          have hbw := hbelp.trans (hr.bel.mono hbelp.size)
          clear hcl hinv hI' hE' hbox
          go_wp2
          go_ret
          exact ⟨lb, rfl, hbw, _, y0, hiff⟩
        · clear hcl
          have hmu := hr.mu
          go_wp2
          go_loopw [5, 6] (fun x y wr => ∃ (b : Bool) (i : Nat) (L' : Nat → Bool), x = .bool b ∧ y = .int .i64 i ∧ i ≤ P.n ∧ RW wp wr wp.heap.size lb (P.n + 1) L' ∧ RIn P L' b i (leftB (P.n + 1) L)) (fun _ y _ => P.n - (intOf y).toNat)
          case atStart => exact ⟨false, 0, L, rfl, rfl, Nat.zero_le _, hr, hinv, fun _ k hk => by omega, Nat.le_refl _, fun h => by cases h⟩
          case round =>
            rename_i wr0 _ _
            clear hinv
            obtain ⟨b, i, L', rfl, rfl, hi, hr', hin⟩ := hrel
            have hbx := (hr'.bel.block w.heap.size (by omega)).trans hbox
            obtain ⟨p0, p1, p2, p3⟩ := cells4 hbx
            by_cases hlt : i < P.n
            · obtain h0 | ⟨cb, co, hcp, hcl2, hcc⟩ := hI'
              · omega
              obtain ⟨k0, k1, k2⟩ := hcc i hlt
              have x0 := (cell_below (a := ⟨cb, co + i * 3, none⟩) hr'.bel hcl2).trans k0
              have x1 := (cell_below (a := ⟨cb, co + i * 3 + 1, none⟩) hr'.bel hcl2).trans k1
              rw [hcp] at p2
              have HCP : Hid (v.cp = some ⟨cb, co, none⟩) := hcp
              clear hcp
              obtain ⟨z0, z1⟩ := hr'.cell (k := i) (by omega)
              have i0 : (0 : Int) ≤ (i : Int) := by omega
              have i1 : (i : Int) < (P.n : Int) := by omega
              have i2 : (i : Int) < (P.n : Int) + 1 := by omega
              have i3 : (0 : Int) ≤ (i : Int) + 1 := by omega
              have hm := meas0 hlt
              have HO := goesOn_any (P.op i)
              have HJ := rjumps_any (P.op i)
              rcases hLi : L' i with _ | _
              · have hin' := hin.skip hLi
                rw [hLi] at z0
                clear hin hcc hbx hE' hbox
                go_wp2
                exact ⟨⟨b, i + 1, L', rfl, rfl, hlt, hr', hin'⟩, hm⟩
              · have hst : Hid (RIn P (rL2 P L' i) (rB P L' b i) (i + 1) (leftB (P.n + 1) L)) := hin.step g hlt hLi
                rw [hLi] at z0
                clear hin hcc hE'
                by_cases he : ends (P.op i) = true
                · have hL1 : Hid (rL1 P L' i = L') := by
                    show rL1 P L' i = L'
                    unfold rL1
                    rw [if_pos he]
                  rw [he] at HO
                  by_cases hj : jmp (P.op i) = true
                  · have ha := g.a i hlt hj
                    obtain ⟨ak, hak⟩ : ∃ ak : Nat, (P.a i).toNat = ak := ⟨_, rfl⟩
                    have hai : P.a i = (ak : Int) := by omega
                    have hL2 : Hid (rL2 P L' i = updB L' ak) := by
                      show rL2 P L' i = _
                      unfold rL2
                      rw [if_pos hj, hL1.out, hak]
                    have hB : Hid (rB P L' b i = (b || (!(L' ak) && decide ((ak : Int) < i)))) := by
                      show rB P L' b i = _
                      unfold rB
                      rw [hj, hL1.out, hak, hai, Bool.true_and]
                    have j0 : (0 : Int) ≤ (ak : Int) := by omega
                    have j1 : (ak : Int) < (P.n : Int) + 1 := by omega
                    obtain ⟨y0, y1⟩ := hr'.cell (k := ak) (by omega)
                    rw [hj] at HJ
                    rw [hai] at x1
                    have hq2 := hr'.set (k := ak) (by omega)
                    have hAi : Hid (P.a i = (ak : Int)) := hai
                    clear hai hak ha
                    rcases hLa : L' ak with _ | _
                    · rw [hLa] at y0
                      obtain ⟨u0, u1⟩ := hq2.cell (k := ak) (by omega)
                      have x1q := (cell_below (a := ⟨cb, co + i * 3 + 1, none⟩) hq2.bel hcl2).trans k1
                      have hbxq := (hq2.bel.block w.heap.size (by omega)).trans hbox
                      obtain ⟨r0, r1, r2, r3⟩ := cells4 hbxq
                      rw [HCP.out] at r2
                      rw [hAi.out] at x1q
                      by_cases hlti : ak < i
                      · have dl : decide ((ak : Int) < (i : Int)) = true := by simp; omega
                        have hbt : Hid (rB P L' b i = true) := by
                          show rB P L' b i = true
                          rw [hB.out, hLa, dl]; simp
                        rcases b with _ | _
                        · go_wp2_with (first | (go_at_call 89; (with_reducible refine (HO _).mono ?_); rintro e w1 ⟨rfl, rfl⟩) | (go_at_call 90; (with_reducible refine (HJ _).mono ?_); rintro e w1 ⟨rfl, rfl⟩))
                          exact ⟨⟨true, i + 1, _, rfl, rfl, hlt, hq2, by have := hst.out; rw [hL2.out, hbt.out] at this; exact this⟩, hm⟩
                        · go_wp2_with (first | (go_at_call 89; (with_reducible refine (HO _).mono ?_); rintro e w1 ⟨rfl, rfl⟩) | (go_at_call 90; (with_reducible refine (HJ _).mono ?_); rintro e w1 ⟨rfl, rfl⟩))
                          exact ⟨⟨true, i + 1, _, rfl, rfl, hlt, hq2, by have := hst.out; rw [hL2.out, hbt.out] at this; exact this⟩, hm⟩
                      · have dl : decide ((ak : Int) < (i : Int)) = false := by simp; omega
                        have hbt : Hid (rB P L' b i = b) := by
                          show rB P L' b i = b
                          rw [hB.out, hLa, dl]; simp
                        rcases b with _ | _
                        · go_wp2_with (first | (go_at_call 89; (with_reducible refine (HO _).mono ?_); rintro e w1 ⟨rfl, rfl⟩) | (go_at_call 90; (with_reducible refine (HJ _).mono ?_); rintro e w1 ⟨rfl, rfl⟩))
                          exact ⟨⟨false, i + 1, _, rfl, rfl, hlt, hq2, by have := hst.out; rw [hL2.out, hbt.out] at this; exact this⟩, hm⟩
                        · go_wp2_with (first | (go_at_call 89; (with_reducible refine (HO _).mono ?_); rintro e w1 ⟨rfl, rfl⟩) | (go_at_call 90; (with_reducible refine (HJ _).mono ?_); rintro e w1 ⟨rfl, rfl⟩))
                          exact ⟨⟨true, i + 1, _, rfl, rfl, hlt, hq2, by have := hst.out; rw [hL2.out, hbt.out] at this; exact this⟩, hm⟩
                    · rw [hLa] at y0
                      have hbt : Hid (rB P L' b i = b) := by
                        show rB P L' b i = b
                        rw [hB.out, hLa]; simp
                      have hL3 : Hid (rL2 P L' i = L') := hL2.out.trans (updB_id hLa)
                      go_wp2_with (first | (go_at_call 89; (with_reducible refine (HO _).mono ?_); rintro e w1 ⟨rfl, rfl⟩) | (go_at_call 90; (with_reducible refine (HJ _).mono ?_); rintro e w1 ⟨rfl, rfl⟩))
                      exact ⟨⟨b, i + 1, _, rfl, rfl, hlt, hr', by have := hst.out; rw [hL3.out, hbt.out] at this; exact this⟩, hm⟩
                  · have hj' : jmp (P.op i) = false := by simpa using hj
                    have hL2 : Hid (rL2 P L' i = L') := by
                      show rL2 P L' i = _
                      unfold rL2
                      rw [if_neg hj, hL1.out]
                    have hbt : Hid (rB P L' b i = b) := by
                      show rB P L' b i = b
                      unfold rB
                      rw [hj']; simp
                    rw [hj'] at HJ
                    go_wp2_with (first | (go_at_call 89; (with_reducible refine (HO _).mono ?_); rintro e w1 ⟨rfl, rfl⟩) | (go_at_call 90; (with_reducible refine (HJ _).mono ?_); rintro e w1 ⟨rfl, rfl⟩))
                    exact ⟨⟨b, i + 1, _, rfl, rfl, hlt, hr', by have := hst.out; rw [hL2.out, hbt.out] at this; exact this⟩, hm⟩
                · have he' : ends (P.op i) = false := by simpa using he
                  rw [he'] at HO
                  obtain ⟨n0, n1⟩ := hr'.cell (k := i + 1) (by omega)
                  have i4 : (i : Int) + 1 < (P.n : Int) + 1 := by omega
                  rcases hLn : L' (i + 1) with _ | _
                  · have hL1 : Hid (rL1 P L' i = updB L' (i + 1)) := by
                      show rL1 P L' i = _
                      unfold rL1
                      rw [if_neg he]
                    rw [hLn] at n0
                    have hq1 := hr'.set (k := i + 1) (by omega)
                    have x0' := (cell_below (a := ⟨cb, co + i * 3, none⟩) hq1.bel hcl2).trans k0
                    have x1' := (cell_below (a := ⟨cb, co + i * 3 + 1, none⟩) hq1.bel hcl2).trans k1
                    have hbx1 := (hq1.bel.block w.heap.size (by omega)).trans hbox
                    obtain ⟨t0, t1, t2, t3⟩ := cells4 hbx1
                    rw [HCP.out] at t2
                    by_cases hj : jmp (P.op i) = true
                    · have ha := g.a i hlt hj
                      obtain ⟨ak, hak⟩ : ∃ ak : Nat, (P.a i).toNat = ak := ⟨_, rfl⟩
                      have hai : P.a i = (ak : Int) := by omega
                      have hL2 : Hid (rL2 P L' i = updB (updB L' (i + 1)) ak) := by
                        show rL2 P L' i = _
                        unfold rL2
                        rw [if_pos hj, hL1.out, hak]
                      have hB : Hid (rB P L' b i = (b || (!((updB L' (i + 1)) ak) && decide ((ak : Int) < i)))) := by
                        show rB P L' b i = _
                        unfold rB
                        rw [hj, hL1.out, hak, hai, Bool.true_and]
                      have j0 : (0 : Int) ≤ (ak : Int) := by omega
                      have j1 : (ak : Int) < (P.n : Int) + 1 := by omega
                      obtain ⟨y0, y1⟩ := hq1.cell (k := ak) (by omega)
                      rw [hj] at HJ
                      rw [hai] at x1 x1'
                      have hq2 := hq1.set (k := ak) (by omega)
                      have hAi : Hid (P.a i = (ak : Int)) := hai
                      clear hai hak ha
                      rcases hLa : (updB L' (i + 1)) ak with _ | _
                      · rw [hLa] at y0
                        obtain ⟨u0, u1⟩ := hq2.cell (k := ak) (by omega)
                        have x1q := (cell_below (a := ⟨cb, co + i * 3 + 1, none⟩) hq2.bel hcl2).trans k1
                        have hbxq := (hq2.bel.block w.heap.size (by omega)).trans hbox
                        obtain ⟨r0, r1, r2, r3⟩ := cells4 hbxq
                        rw [HCP.out] at r2
                        rw [hAi.out] at x1q
                        by_cases hlti : ak < i
                        · have dl : decide ((ak : Int) < (i : Int)) = true := by simp; omega
                          have hbt : Hid (rB P L' b i = true) := by
                            show rB P L' b i = true
                            rw [hB.out, hLa, dl]; simp
                          rcases b with _ | _
                          · go_wp2_with (first | (go_at_call 89; (with_reducible refine (HO _).mono ?_); rintro e w1 ⟨rfl, rfl⟩) | (go_at_call 90; (with_reducible refine (HJ _).mono ?_); rintro e w1 ⟨rfl, rfl⟩))
                            exact ⟨⟨true, i + 1, _, rfl, rfl, hlt, hq2, by have := hst.out; rw [hL2.out, hbt.out] at this; exact this⟩, hm⟩
                          · go_wp2_with (first | (go_at_call 89; (with_reducible refine (HO _).mono ?_); rintro e w1 ⟨rfl, rfl⟩) | (go_at_call 90; (with_reducible refine (HJ _).mono ?_); rintro e w1 ⟨rfl, rfl⟩))
                            exact ⟨⟨true, i + 1, _, rfl, rfl, hlt, hq2, by have := hst.out; rw [hL2.out, hbt.out] at this; exact this⟩, hm⟩
                        · have dl : decide ((ak : Int) < (i : Int)) = false := by simp; omega
                          have hbt : Hid (rB P L' b i = b) := by
                            show rB P L' b i = b
                            rw [hB.out, hLa, dl]; simp
                          rcases b with _ | _
                          · go_wp2_with (first | (go_at_call 89; (with_reducible refine (HO _).mono ?_); rintro e w1 ⟨rfl, rfl⟩) | (go_at_call 90; (with_reducible refine (HJ _).mono ?_); rintro e w1 ⟨rfl, rfl⟩))
                            exact ⟨⟨false, i + 1, _, rfl, rfl, hlt, hq2, by have := hst.out; rw [hL2.out, hbt.out] at this; exact this⟩, hm⟩
                          · go_wp2_with (first | (go_at_call 89; (with_reducible refine (HO _).mono ?_); rintro e w1 ⟨rfl, rfl⟩) | (go_at_call 90; (with_reducible refine (HJ _).mono ?_); rintro e w1 ⟨rfl, rfl⟩))
                            exact ⟨⟨true, i + 1, _, rfl, rfl, hlt, hq2, by have := hst.out; rw [hL2.out, hbt.out] at this; exact this⟩, hm⟩
                      · rw [hLa] at y0
                        have hbt : Hid (rB P L' b i = b) := by
                          show rB P L' b i = b
                          rw [hB.out, hLa]; simp
                        have hL3 : Hid (rL2 P L' i = (updB L' (i + 1))) := hL2.out.trans (updB_id hLa)
                        go_wp2_with (first | (go_at_call 89; (with_reducible refine (HO _).mono ?_); rintro e w1 ⟨rfl, rfl⟩) | (go_at_call 90; (with_reducible refine (HJ _).mono ?_); rintro e w1 ⟨rfl, rfl⟩))
                        exact ⟨⟨b, i + 1, _, rfl, rfl, hlt, hq1, by have := hst.out; rw [hL3.out, hbt.out] at this; exact this⟩, hm⟩
                    · have hj' : jmp (P.op i) = false := by simpa using hj
                      have hL2 : Hid (rL2 P L' i = (updB L' (i + 1))) := by
                        show rL2 P L' i = _
                        unfold rL2
                        rw [if_neg hj, hL1.out]
                      have hbt : Hid (rB P L' b i = b) := by
                        show rB P L' b i = b
                        unfold rB
                        rw [hj']; simp
                      rw [hj'] at HJ
                      go_wp2_with (first | (go_at_call 89; (with_reducible refine (HO _).mono ?_); rintro e w1 ⟨rfl, rfl⟩) | (go_at_call 90; (with_reducible refine (HJ _).mono ?_); rintro e w1 ⟨rfl, rfl⟩))
                      exact ⟨⟨b, i + 1, _, rfl, rfl, hlt, hq1, by have := hst.out; rw [hL2.out, hbt.out] at this; exact this⟩, hm⟩
                  · have hL1 : Hid (rL1 P L' i = L') := by
                      show rL1 P L' i = L'
                      unfold rL1
                      rw [if_neg he]
                      exact updB_id hLn
                    rw [hLn] at n0
                    by_cases hj : jmp (P.op i) = true
                    · have ha := g.a i hlt hj
                      obtain ⟨ak, hak⟩ : ∃ ak : Nat, (P.a i).toNat = ak := ⟨_, rfl⟩
                      have hai : P.a i = (ak : Int) := by omega
                      have hL2 : Hid (rL2 P L' i = updB L' ak) := by
                        show rL2 P L' i = _
                        unfold rL2
                        rw [if_pos hj, hL1.out, hak]
                      have hB : Hid (rB P L' b i = (b || (!(L' ak) && decide ((ak : Int) < i)))) := by
                        show rB P L' b i = _
                        unfold rB
                        rw [hj, hL1.out, hak, hai, Bool.true_and]
                      have j0 : (0 : Int) ≤ (ak : Int) := by omega
                      have j1 : (ak : Int) < (P.n : Int) + 1 := by omega
                      obtain ⟨y0, y1⟩ := hr'.cell (k := ak) (by omega)
                      rw [hj] at HJ
                      rw [hai] at x1
                      have hq2 := hr'.set (k := ak) (by omega)
                      have hAi : Hid (P.a i = (ak : Int)) := hai
                      clear hai hak ha
                      rcases hLa : L' ak with _ | _
                      · rw [hLa] at y0
                        obtain ⟨u0, u1⟩ := hq2.cell (k := ak) (by omega)
                        have x1q := (cell_below (a := ⟨cb, co + i * 3 + 1, none⟩) hq2.bel hcl2).trans k1
                        have hbxq := (hq2.bel.block w.heap.size (by omega)).trans hbox
                        obtain ⟨r0, r1, r2, r3⟩ := cells4 hbxq
                        rw [HCP.out] at r2
                        rw [hAi.out] at x1q
                        by_cases hlti : ak < i
                        · have dl : decide ((ak : Int) < (i : Int)) = true := by simp; omega
                          have hbt : Hid (rB P L' b i = true) := by
                            show rB P L' b i = true
                            rw [hB.out, hLa, dl]; simp
                          rcases b with _ | _
                          · go_wp2_with (first | (go_at_call 89; (with_reducible refine (HO _).mono ?_); rintro e w1 ⟨rfl, rfl⟩) | (go_at_call 90; (with_reducible refine (HJ _).mono ?_); rintro e w1 ⟨rfl, rfl⟩))
                            exact ⟨⟨true, i + 1, _, rfl, rfl, hlt, hq2, by have := hst.out; rw [hL2.out, hbt.out] at this; exact this⟩, hm⟩
                          · go_wp2_with (first | (go_at_call 89; (with_reducible refine (HO _).mono ?_); rintro e w1 ⟨rfl, rfl⟩) | (go_at_call 90; (with_reducible refine (HJ _).mono ?_); rintro e w1 ⟨rfl, rfl⟩))
                            exact ⟨⟨true, i + 1, _, rfl, rfl, hlt, hq2, by have := hst.out; rw [hL2.out, hbt.out] at this; exact this⟩, hm⟩
                        · have dl : decide ((ak : Int) < (i : Int)) = false := by simp; omega
                          have hbt : Hid (rB P L' b i = b) := by
                            show rB P L' b i = b
                            rw [hB.out, hLa, dl]; simp
                          rcases b with _ | _
                          · go_wp2_with (first | (go_at_call 89; (with_reducible refine (HO _).mono ?_); rintro e w1 ⟨rfl, rfl⟩) | (go_at_call 90; (with_reducible refine (HJ _).mono ?_); rintro e w1 ⟨rfl, rfl⟩))
                            exact ⟨⟨false, i + 1, _, rfl, rfl, hlt, hq2, by have := hst.out; rw [hL2.out, hbt.out] at this; exact this⟩, hm⟩
                          · go_wp2_with (first | (go_at_call 89; (with_reducible refine (HO _).mono ?_); rintro e w1 ⟨rfl, rfl⟩) | (go_at_call 90; (with_reducible refine (HJ _).mono ?_); rintro e w1 ⟨rfl, rfl⟩))
                            exact ⟨⟨true, i + 1, _, rfl, rfl, hlt, hq2, by have := hst.out; rw [hL2.out, hbt.out] at this; exact this⟩, hm⟩
                      · rw [hLa] at y0
                        have hbt : Hid (rB P L' b i = b) := by
                          show rB P L' b i = b
                          rw [hB.out, hLa]; simp
                        have hL3 : Hid (rL2 P L' i = L') := hL2.out.trans (updB_id hLa)
                        go_wp2_with (first | (go_at_call 89; (with_reducible refine (HO _).mono ?_); rintro e w1 ⟨rfl, rfl⟩) | (go_at_call 90; (with_reducible refine (HJ _).mono ?_); rintro e w1 ⟨rfl, rfl⟩))
                        exact ⟨⟨b, i + 1, _, rfl, rfl, hlt, hr', by have := hst.out; rw [hL3.out, hbt.out] at this; exact this⟩, hm⟩
                    · have hj' : jmp (P.op i) = false := by simpa using hj
                      have hL2 : Hid (rL2 P L' i = L') := by
                        show rL2 P L' i = _
                        unfold rL2
                        rw [if_neg hj, hL1.out]
                      have hbt : Hid (rB P L' b i = b) := by
                        show rB P L' b i = b
                        unfold rB
                        rw [hj']; simp
                      rw [hj'] at HJ
                      go_wp2_with (first | (go_at_call 89; (with_reducible refine (HO _).mono ?_); rintro e w1 ⟨rfl, rfl⟩) | (go_at_call 90; (with_reducible refine (HJ _).mono ?_); rintro e w1 ⟨rfl, rfl⟩))
                      exact ⟨⟨b, i + 1, _, rfl, rfl, hlt, hr', by have := hst.out; rw [hL2.out, hbt.out] at this; exact this⟩, hm⟩
            · obtain rfl : i = P.n := by omega
              have dl : decide ((P.n : Int) < P.n) = false := by simp
              have hmu2 := hr'.mu
              clear hI' hE' hbox hbx
              go_wp2
              refine ⟨⟨b, L', rfl, hr', hin.inv, fun hb i hi hl => hin.cl hb i hi hl⟩, ?_⟩
              rw [hmu, hmu2]
              have h1 := hin.le
              rcases b with _ | _
              · simp only [b2n]; omega
              · have h2 := hin.lt rfl
                simp only [b2n]; omega
end Go.Proofs.YtopggemomcoalaaGreat
