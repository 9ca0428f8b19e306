import Derived.Test.YthbngffonbhakaaDoorA1
import Derived.Test.YthbngffonbhakaaDoorW0
import Derived.Test.YthbngffonbhakaaDoorKC
import Derived.Test.YthbngffonbhakaaDoorG1
import Derived.BigQuiet
import Derived.Deep.RegionLaw
import Derived.Deep.RegionHeld3
import Derived.Deep.Cut
import Derived.Deep.DeepCutAuto
import Derived.Deep.CutBlock
import Derived.Deep.CutRange
import Derived.Handy
namespace Go.Proofs.YthbngffonbhakaaDoor
open Go.ChangeShapes Go.WideShapes Go.ChangeAt Go.RowKit
set_option linter.unusedVariables false
set_option linter.unusedSimpArgs false

structure Pg where
  words : Int
  locals : Int
  n : Nat
  op : Nat → Int
  a : Nat → Int
  b : Nat → Int
  m : Nat
  en : Nat → Int
def IAt (W : World) (p : Option Addr) (n : Nat) (op a b : Nat → Int) : Prop :=
  n = 0 ∨ ∃ g o, p = some ⟨g, o, none⟩ ∧ g < W.heap.size ∧ ∀ j, j < n → W.cell? ⟨g, o + j * 3, none⟩ = some (.int .i64 (op j)) ∧ W.cell? ⟨g, o + j * 3 + 1, none⟩ = some (.int .i64 (a j)) ∧ W.cell? ⟨g, o + j * 3 + 2, none⟩ = some (.int .i64 (b j))
theorem IAt.below {W W' : World} {p : Option Addr} {n : Nat} {op a b : Nat → Int} (h : IAt W p n op a b) (hb : Below W.heap.size W W') : IAt W' p n op a b := by
  rcases h with h | ⟨g, o, rfl, hl, hc⟩
  · exact .inl h
  · exact .inr ⟨g, o, rfl, Nat.lt_of_lt_of_le hl hb.size, fun j hj => ⟨(cell_below (a := ⟨g, o + j * 3, none⟩) hb hl).trans (hc j hj).1, (cell_below (a := ⟨g, o + j * 3 + 1, none⟩) hb hl).trans (hc j hj).2.1, (cell_below (a := ⟨g, o + j * 3 + 2, none⟩) hb hl).trans (hc j hj).2.2⟩⟩
theorem infoInt1 : (Tryd.prog.info? 3).map (fun i => (i.zero, i.size, i.bytes)) = some (some (.int .i64 0), 1, 8) := by kernel_rfl
theorem all42 {o : Int} (h : 0 ≤ o ∧ o < 42) : o = 0 ∨ o = 1 ∨ o = 2 ∨ o = 3 ∨ o = 4 ∨ o = 5 ∨ o = 6 ∨ o = 7 ∨ o = 8 ∨ o = 9 ∨ o = 10 ∨ o = 11 ∨ o = 12 ∨ o = 13 ∨ o = 14 ∨ o = 15 ∨ o = 16 ∨ o = 17 ∨ o = 18 ∨ o = 19 ∨ o = 20 ∨ o = 21 ∨ o = 22 ∨ o = 23 ∨ o = 24 ∨ o = 25 ∨ o = 26 ∨ o = 27 ∨ o = 28 ∨ o = 29 ∨ o = 30 ∨ o = 31 ∨ o = 32 ∨ o = 33 ∨ o = 34 ∨ o = 35 ∨ o = 36 ∨ o = 37 ∨ o = 38 ∨ o = 39 ∨ o = 40 ∨ o = 41 := by omega
def wantTab : List Int := [0, 1, 0, 1, 1, 2, 2, 1, 1, 0, 0, 0, 0, 0, 0, 0, 0, 0, 0, 0, 0, 0, 0, 0, 0, 0, 0, 0, 0, 0, 0, 0, 0, 0, 0, 1, 1, 0, 2, 1, 0, 0]
def wantsI (o : Int) : Int := wantTab.getD o.toNat 0
set_option maxRecDepth 100000 in
set_option maxHeartbeats 4000000 in
theorem wants_any (o : Int) (h : 0 ≤ o ∧ o < 42) (w : World) :
    Calls Tryd.prog 22 #[.int .i64 o] w fun e w' => e = .returned (.int .i64 (wantsI o)) ∧ w' = w := by
  rcases all42 h with rfl | rfl | rfl | rfl | rfl | rfl | rfl | rfl | rfl | rfl | rfl | rfl | rfl | rfl | rfl | rfl | rfl | rfl | rfl | rfl | rfl | rfl | rfl | rfl | rfl | rfl | rfl | rfl | rfl | rfl | rfl | rfl | rfl | rfl | rfl | rfl | rfl | rfl | rfl | rfl | rfl | rfl
  all_goals
    clear h
    go_enter Tryd.func22, Tryd.ntmps22
    go_wp2
    go_ret
    exact ⟨rfl, rfl⟩
theorem isOp_any (o : Int) (w : World) : Calls Tryd.prog 20 #[.int .i64 o] w fun e w' => e = .returned (.bool (decide (0 ≤ o) && decide (o < 42))) ∧ w' = w := by
  go_enter Tryd.func20, Tryd.ntmps20
  by_cases h : 0 ≤ o
  · go_wp2
    go_ret
    exact ⟨by simp [h], rfl⟩
  · have e : (decide (0 ≤ o) && decide (o < 42)) = false := by simp; omega
    go_wp2
    go_ret
    exact ⟨by first | rfl | (rw [e]; rfl), rfl⟩
structure PgV where
  cp : Option Addr
  cc : Nat
  ep : Option Addr
  ec : Nat
def sizedP (P : Pg) : Prop := (0 ≤ P.words ∧ P.words ≤ 64) ∧ (0 ≤ P.locals ∧ P.locals ≤ 32) ∧ P.n ≤ 4096 ∧ P.m ≤ 32
set_option maxRecDepth 100000 in
theorem sized_any (P : Pg) (v : PgV) (w : World) :
    Calls Tryd.prog 19 #[.agg #[.int .i64 P.words, .int .i64 P.locals, .slice v.cp P.n v.cc, .slice v.ep P.m v.ec]] w fun e w' => ∃ b, e = .returned (.bool b) ∧ (b = true ↔ sizedP P) ∧ w' = w.alloc (.cells #[.int .i64 P.words, .int .i64 P.locals, .slice v.cp P.n v.cc, .slice v.ep P.m v.ec] 25) := by
  go_enter Tryd.func19, Tryd.ntmps19
  by_cases h1 : 0 ≤ P.words
  · by_cases h2 : P.words ≤ 64
    · by_cases h3 : 0 ≤ P.locals
      · by_cases h4 : P.locals ≤ 32
        · by_cases h5 : P.n ≤ 4096
          · have h5' : decide ((P.n : Int) ≤ 4096) = true := by simp; omega
            by_cases h6 : P.m ≤ 32
            · have h6' : decide ((P.m : Int) ≤ 32) = true := by simp; omega
              go_wp2
              go_ret
              first | exact ⟨true, rfl, ⟨fun _ => ⟨⟨h1, h2⟩, ⟨h3, h4⟩, h5, h6⟩, fun _ => rfl⟩, rfl⟩ | exact .inr ⟨rfl, ⟨⟨h1, h2⟩, ⟨h3, h4⟩, h5, h6⟩, rfl⟩
            · have h6' : decide ((P.m : Int) ≤ 32) = false := by simp; omega
              go_wp2
              go_ret
              first | exact ⟨false, rfl, ⟨fun e => (by cases e), fun h9 => absurd h9 (show ¬ sizedP P from fun h => by have := h.2.2.2; omega)⟩, rfl⟩ | exact .inl ⟨rfl, (show ¬ sizedP P from fun h => by have := h.2.2.2; omega), rfl⟩
          · have h5' : decide ((P.n : Int) ≤ 4096) = false := by simp; omega
            go_wp2
            go_ret
            first | exact ⟨false, rfl, ⟨fun e => (by cases e), fun h9 => absurd h9 (show ¬ sizedP P from fun h => by have := h.2.2.1; omega)⟩, rfl⟩ | exact .inl ⟨rfl, (show ¬ sizedP P from fun h => by have := h.2.2.1; omega), rfl⟩
        · go_wp2
          go_ret
          first | exact ⟨false, rfl, ⟨fun e => (by cases e), fun h9 => absurd h9 (show ¬ sizedP P from fun h => by have := h.2.1.2; omega)⟩, rfl⟩ | exact .inl ⟨rfl, (show ¬ sizedP P from fun h => by have := h.2.1.2; omega), rfl⟩
      · go_wp2
        go_ret
        first | exact ⟨false, rfl, ⟨fun e => (by cases e), fun h9 => absurd h9 (show ¬ sizedP P from fun h => by have := h.2.1.1; omega)⟩, rfl⟩ | exact .inl ⟨rfl, (show ¬ sizedP P from fun h => by have := h.2.1.1; omega), rfl⟩
    · go_wp2
      go_ret
      first | exact ⟨false, rfl, ⟨fun e => (by cases e), fun h9 => absurd h9 (show ¬ sizedP P from fun h => by have := h.1.2; omega)⟩, rfl⟩ | exact .inl ⟨rfl, (show ¬ sizedP P from fun h => by have := h.1.2; omega), rfl⟩
  · go_wp2
    go_ret
    first | exact ⟨false, rfl, ⟨fun e => (by cases e), fun h9 => absurd h9 (show ¬ sizedP P from fun h => by have := h.1.1; omega)⟩, rfl⟩ | exact .inl ⟨rfl, (show ¬ sizedP P from fun h => by have := h.1.1; omega), rfl⟩
theorem cells4 {W : World} {b : Nat} {c0 c1 c2 c3 : Value} {t : TypeId} (h : W.heap[b]? = some (.cells #[c0, c1, c2, c3] t (0, 0))) : W.cell? ⟨b, 0, none⟩ = some c0 ∧ W.cell? ⟨b, 1, none⟩ = some c1 ∧ W.cell? ⟨b, 2, none⟩ = some c2 ∧ W.cell? ⟨b, 3, none⟩ = some c3 := by
  refine ⟨?_, ?_, ?_, ?_⟩
  all_goals (unfold World.cell?; rw [h]; rfl)
def inC (op a b : Nat → Int) (x : Nat) : Value := .int .i64 (if x % 3 = 0 then op (x / 3) else if x % 3 = 1 then a (x / 3) else b (x / 3))
theorem inC_one (op a b : Nat → Int) (x : Nat) : (inC op a b x).oneCell' = true := rfl
theorem IAt.cellsAt {w : World} {g o n : Nat} {op a b : Nat → Int} (hc : ∀ j, j < n → w.cell? ⟨g, o + j * 3, none⟩ = some (.int .i64 (op j)) ∧ w.cell? ⟨g, o + j * 3 + 1, none⟩ = some (.int .i64 (a j)) ∧ w.cell? ⟨g, o + j * 3 + 2, none⟩ = some (.int .i64 (b j))) : ∀ x, x < n * 3 → w.cell? ⟨g, o + x, none⟩ = some (inC op a b x) := fun x hx => by
  obtain ⟨i, r, hr, rfl⟩ : ∃ i r, r < 3 ∧ x = i * 3 + r := ⟨x / 3, x % 3, by omega, by omega⟩
  obtain ⟨c0, c1, c2⟩ := hc i (by omega)
  have e1 : (i * 3 + r) / 3 = i := by omega
  have e2 : (i * 3 + r) % 3 = r := by omega
  unfold inC
  rw [e1, e2, ← Nat.add_assoc]
  match r, hr with
  | 0, _ => exact c0
  | 1, _ => exact c1
  | 2, _ => exact c2
theorem iat_own {W : World} {base g n c : Nat} {op a b : Nat → Int} (h : Own W base 35 3 (.slice (some ⟨g, 0, none⟩) n c) n (inC op a b)) : IAt W (some ⟨g, 0, none⟩) n op a b := by
  obtain ⟨cur, h1, _⟩ := h.block
  refine .inr ⟨g, 0, rfl, (Array.getElem?_eq_some_iff.1 h1).1, fun j hj => ?_⟩
  have e0 := h.cell (j := j * 3) (by omega)
  have e1 := h.cell (j := j * 3 + 1) (by omega)
  have e2 := h.cell (j := j * 3 + 2) (by omega)
  unfold inC at e0 e1 e2
  rw [show (j * 3) % 3 = 0 by omega, show (j * 3) / 3 = j by omega, if_pos rfl] at e0
  rw [show (j * 3 + 1) % 3 = 1 by omega, show (j * 3 + 1) / 3 = j by omega, if_neg (by decide), if_pos rfl] at e1
  rw [show (j * 3 + 2) % 3 = 2 by omega, show (j * 3 + 2) / 3 = j by omega, if_neg (by decide), if_neg (by decide)] at e2
  rw [Nat.zero_add]
  exact ⟨e0, e1, e2⟩
theorem kat_cells {W : World} {g n : Nat} {K : Nat → Int} (h : W.heap[g]? = some (.cells (intsL K n).toArray 3 (0, 0))) : KAt W (some ⟨g, 0, none⟩) n K := by
  refine .inr ⟨g, 0, rfl, (Array.getElem?_eq_some_iff.1 h).1, fun j hj => ?_⟩
  unfold World.cell?
  rw [h]
  have := intsL_get (K := K) hj
  simpa using this
theorem own_of {W : World} {base : Nat} {t : TypeId} {s m : Nat} {v : Value} {xs : List Value} (h : W.ownsRow base t s v m xs) : Own W base t s v m (fun j => xs.getD j undef) := by
  unfold Own
  have h2 := cellsF_of xs
  rw [h.1] at h2
  rw [← h2]
  exact h
theorem infoIns : (Tryd.prog.info? 35).map (fun i => (i.zero, i.size, i.bytes)) = some (some (.agg #[.int .i64 0, .int .i64 0, .int .i64 0]), 3, 24) := by kernel_rfl
/-- a program lies there -/
def PAt (W : World) (P : Pg) (v : PgV) : Prop := IAt W v.cp P.n P.op P.a P.b ∧ KAt W v.ep P.m P.en
theorem PAt.below {W W' : World} {P : Pg} {v : PgV} (h : PAt W P v) (hb : Below W.heap.size W W') : PAt W' P v := ⟨h.1.below hb, h.2.below hb⟩
def pv (P : Pg) (v : PgV) : Value := .agg #[.int .i64 P.words, .int .i64 P.locals, .slice v.cp P.n v.cc, .slice v.ep P.m v.ec]
def roomyP (P : Pg) : Prop := P.n * 24 ≤ 140737488351232 ∧ P.m ≤ 17592186044416
set_option maxRecDepth 100000 in
set_option maxHeartbeats 4000000 in
theorem copyProgram_new (P : Pg) (v : PgV) (w : World) (h : PAt w P v) (hs : roomyP P) :
    Calls Tryd.prog 4 #[.agg #[.int .i64 P.words, .int .i64 P.locals, .slice v.cp P.n v.cc, .slice v.ep P.m v.ec]] w fun e w' => ∃ v' : PgV, e = .returned (.agg #[.int .i64 P.words, .int .i64 P.locals, .slice v'.cp P.n v'.cc, .slice v'.ep P.m v'.ec]) ∧ PAt w' P v' ∧ Below w.heap.size w w' ∧ (∀ g o, v'.cp = some ⟨g, o, none⟩ → w.heap.size ≤ g ∧ g < w'.heap.size) ∧ ∀ g o, v'.ep = some ⟨g, o, none⟩ → w.heap.size ≤ g ∧ g < w'.heap.size := by
  obtain ⟨hs1, hs2⟩ := hs
  obtain ⟨i5, hi5, ha5, hb5, hc5⟩ := info_parts infoIns
  have hsz : (Tryd.prog.info? 35).map (·.size) = some 3 := by simp [hi5, hb5]
  obtain ⟨wp, hwp⟩ : ∃ wp, (w.alloc (.cells #[.int .i64 P.words, .int .i64 P.locals, .slice v.cp P.n v.cc, .slice v.ep P.m v.ec] 25)).alloc (.cells #[.int .i64 0, .int .i64 0, .slice none 0 0, .slice none 0 0] 25) = wp := ⟨_, rfl⟩
  have hbp : Below w.heap.size w wp := by rw [← hwp]; exact ((Below.refl _ w).alloc (Nat.le_refl _) _).alloc (by simp) _
  have hbox : wp.heap[w.heap.size]? = some (.cells #[.int .i64 P.words, .int .i64 P.locals, .slice v.cp P.n v.cc, .slice v.ep P.m v.ec] 25 (0, 0)) := by
    rw [← hwp, Below.heap_alloc _ _ _ (by simp)]
    exact World.alloc_heap_new w _
  have hres : wp.heap[w.heap.size + 1]? = some (.cells #[.int .i64 0, .int .i64 0, .slice none 0 0, .slice none 0 0] 25 (0, 0)) := by
    rw [← hwp]
    have := World.alloc_heap_new (w.alloc (.cells #[.int .i64 P.words, .int .i64 P.locals, .slice v.cp P.n v.cc, .slice v.ep P.m v.ec] 25)) (.cells #[.int .i64 0, .int .i64 0, .slice none 0 0, .slice none 0 0] 25)
    rwa [World.size_alloc] at this
  have hszp : wp.heap.size = w.heap.size + 2 := by rw [← hwp]; simp
  have HB : Hid ((w.alloc (.cells #[.int .i64 P.words, .int .i64 P.locals, .slice v.cp P.n v.cc, .slice v.ep P.m v.ec] 25)).alloc (.cells #[.int .i64 0, .int .i64 0, .slice none 0 0, .slice none 0 0] 25) = wp) := hwp
  obtain ⟨p0, p1, p2, p3⟩ := cells4 hbox
  have hI := h.1.below hbp
  clear hwp
  go_enter Tryd.func4, Tryd.ntmps4
  go_wp2_with (at_make; rw [HB.out]; refine wpList_make_full _ rfl (.tmp 6) (.tmp 6) 22 rfl wp.heap.size 35 i5 _ 3 Tryd.underlying22 hi5 ha5 hb5 .i64 .i64 P.n P.n P.n rfl rfl rfl rfl ?c1 ?c2 ?c3 ?_)
  case c1 => rw [hc5]; omega
  case c2 => unfold maxLen; omega
  case c3 => exact Nat.le_refl _
  intro w1 hown hgrow
  have hb1 : Below wp.heap.size wp w1 := (Below.refl _ _).grown hgrow (Nat.le_refl _) (by simp)
  have hI1 := hI.below hb1
  rw [hszp] at hb1
  obtain ⟨F1, hO1⟩ : ∃ F1, Own w1 (w.heap.size + 2) 35 3 (.slice (some ⟨(w.heap.size + 2), 0, none⟩) P.n P.n) P.n F1 := ⟨_, own_of hown⟩
  have hsrc : P.n = 0 ∨ ∃ ad, v.cp = some ad ∧ ∀ j, j < P.n * 3 → w1.cell? (ad.add j) = some (inC P.op P.a P.b j) := by
    rcases hI1 with h0 | ⟨g, o, e, _, hc⟩
    · exact .inl h0
    · exact .inr ⟨_, e, fun j hj => by rw [addr_add0]; exact IAt.cellsAt hc j hj⟩
  obtain ⟨q0, q1, q2, q3⟩ := cells4 ((hb1.block _ (by omega)).trans hbox)
  have HO1 : Hid (Own w1 (w.heap.size + 2) 35 3 (.slice (some ⟨(w.heap.size + 2), 0, none⟩) P.n P.n) P.n F1) := hO1
  have HSRC : Hid (P.n = 0 ∨ ∃ ad, v.cp = some ad ∧ ∀ j, j < P.n * 3 → w1.cell? (ad.add j) = some (inC P.op P.a P.b j)) := hsrc
  clear hown hgrow hO1 hsrc p0 p1 p2 p3
  go_wp2_with (refine wpList_copy_head rfl (.tmp 8) (.tmp 10) 22 22 rfl 35 3 Tryd.underlying22 hsz (w.heap.size + 2) (w.heap.size + 2) P.n P.n P.n v.cc v.cp rfl rfl (Nat.le_refl _) F1 (inC P.op P.a P.b) HO1.out (fun j _ => inC_one _ _ _ j) HSRC.out (w.heap.size + 2) wp hb1 (Nat.le_refl _) ?_; intro w2 h2 hb2; have hbx2 := (hb2.block _ (by omega)).trans hbox; obtain ⟨r0, r1, r2, r3⟩ := cells4 hbx2; have rf := frz hbx2)
  obtain ⟨wA, hwA⟩ : ∃ wA, w2.setCell ⟨w.heap.size, 2, none⟩ (.slice (some ⟨w.heap.size + 2, 0, none⟩) P.n P.n) = wA := ⟨_, rfl⟩
  rw [hwA]
  have hboxA : wA.heap[w.heap.size]? = some (.cells #[.int .i64 P.words, .int .i64 P.locals, .slice (some ⟨w.heap.size + 2, 0, none⟩) P.n P.n, .slice v.ep P.m v.ec] 25 (0, 0)) := by rw [← hwA, setCell_block _ _ _ _ hbx2]; rfl
  have hresA : wA.heap[w.heap.size + 1]? = some (.cells #[.int .i64 0, .int .i64 0, .slice none 0 0, .slice none 0 0] 25 (0, 0)) := by
    rw [← hwA, Below.heap_setCell _ _ _ _ (by show w.heap.size + 1 ≠ w.heap.size; omega)]
    exact (hb2.block _ (by omega)).trans hres
  have hO2 : Own wA (w.heap.size + 2) 35 3 (.slice (some ⟨w.heap.size + 2, 0, none⟩) P.n P.n) P.n (inC P.op P.a P.b) := by
    refine (h2.out.congr fun j hj => ?_).far (W' := wA) fun k hk => ?_
    · rw [if_pos hj]
    · cases hk
      rw [← hwA]
      exact Below.heap_setCell _ _ _ _ (by show w.heap.size + 2 ≠ w.heap.size; omega)
  have hbA : Below w.heap.size w wA := by
    rw [← hwA]
    exact (hbp.trans (hb2.mono (by omega))).setCell (p := ⟨w.heap.size, 2, none⟩) (Nat.le_refl _) _
  have hltA : w.heap.size + 2 < wA.heap.size := by
    obtain ⟨cur, k1, _⟩ := hO2.block
    exact (Array.getElem?_eq_some_iff.1 k1).1
  have HCI := copyInts_any v.ep P.m v.ec P.en wA hs2 (h.2.below hbA)
  clear hwA h2 hb2 hbx2 r0 r1 r2 r3 rf hres hbox q0 q1 q2 q3 hI hI1 hb1 HSRC HO1 HB h
  refine HCI.mono ?_
  rintro e w4 ⟨rfl, z1, z2, z3⟩
  obtain ⟨eb, heb⟩ : ∃ eb, wA.heap.size = eb := ⟨_, rfl⟩
  rw [heb] at z1 ⊢
  have hbox4 := (z2.block _ (by omega)).trans hboxA
  have hres4 := (z2.block _ (by omega)).trans hresA
  have hb4 := hbA.trans (z2.mono hbA.size)
  have hO4 : Own w4 (w.heap.size + 2) 35 3 (.slice (some ⟨w.heap.size + 2, 0, none⟩) P.n P.n) P.n (inC P.op P.a P.b) := hO2.far fun k hk => by cases hk; exact z2.block _ hltA
  obtain ⟨r0, r1, r2, r3⟩ := cells4 hbox4
  have rf := frz hbox4
  have rf3 := rf 3
  obtain ⟨s0, s1, s2, s3⟩ := cells4 hres4
  have sf := frz hres4
  have sf0 := sf 0
  have sf1 := sf 1
  have sf2 := sf 2
  have sf3 := sf 3
  clear HCI hO2 hresA hboxA z2 rf sf
  go_wp2
  generalize hWF : (World.setCell (World.setCell (World.setCell (World.setCell _ _ _) _ _) _ _) _ _) = wF
  have hwF : wF = ((((w4.setCell ⟨w.heap.size, 3, none⟩ (.slice (some ⟨eb, 0, none⟩) P.m P.m)).setCell ⟨w.heap.size + 1, 0, none⟩ (.int .i64 P.words)).setCell ⟨w.heap.size + 1, 1, none⟩ (.int .i64 P.locals)).setCell ⟨w.heap.size + 1, 2, none⟩ (.slice (some ⟨w.heap.size + 2, 0, none⟩) P.n P.n)).setCell ⟨w.heap.size + 1, 3, none⟩ (.slice (some ⟨eb, 0, none⟩) P.m P.m) := hWF.symm
  clear hWF
  have hF : wF.heap[w.heap.size + 1]? = some (.cells #[.int .i64 P.words, .int .i64 P.locals, .slice (some ⟨w.heap.size + 2, 0, none⟩) P.n P.n, .slice (some ⟨eb, 0, none⟩) P.m P.m] 25 (0, 0)) := by
    have h0 : (w4.setCell ⟨w.heap.size, 3, none⟩ (.slice (some ⟨eb, 0, none⟩) P.m P.m)).heap[w.heap.size + 1]? = some (.cells #[.int .i64 0, .int .i64 0, .slice none 0 0, .slice none 0 0] 25 (0, 0)) := (Below.heap_setCell _ _ _ _ (by show w.heap.size + 1 ≠ w.heap.size; omega)).trans hres4
    rw [hwF, setCell_block _ _ _ _ (setCell_block _ _ _ _ (setCell_block _ _ _ _ (setCell_block _ _ _ _ h0)))]
    rfl
  have far : ∀ k, k ≠ w.heap.size → k ≠ w.heap.size + 1 → wF.heap[k]? = w4.heap[k]? := fun k h1 h2 => by
    rw [hwF, Below.heap_setCell _ _ _ _ h2, Below.heap_setCell _ _ _ _ h2, Below.heap_setCell _ _ _ _ h2, Below.heap_setCell _ _ _ _ h2, Below.heap_setCell _ _ _ _ h1]
  have hbF : Below w.heap.size w wF := by
    rw [hwF]
    exact ((((hb4.setCell (p := ⟨w.heap.size, 3, none⟩) (Nat.le_refl _) _).setCell (p := ⟨w.heap.size + 1, 0, none⟩) (Nat.le_succ _) _).setCell (p := ⟨w.heap.size + 1, 1, none⟩) (Nat.le_succ _) _).setCell (p := ⟨w.heap.size + 1, 2, none⟩) (Nat.le_succ _) _).setCell (p := ⟨w.heap.size + 1, 3, none⟩) (Nat.le_succ _) _
  obtain ⟨d0, d1, d2, d3⟩ := cells4 hF
  have hszF : wF.heap.size = w4.heap.size := by rw [hwF]; simp [World.setCell]
  have hsz4 : eb < w4.heap.size := (Array.getElem?_eq_some_iff.1 z1).1
  refine bodyPost_ret (v := .agg #[.int .i64 P.words, .int .i64 P.locals, .slice (some ⟨w.heap.size + 2, 0, none⟩) P.n P.n, .slice (some ⟨eb, 0, none⟩) P.m P.m]) (by simp [results, Tryd.results4, go_sem, d0, d1, d2, d3]; try rfl) rfl ?_
  refine ⟨⟨some ⟨w.heap.size + 2, 0, none⟩, P.n, some ⟨eb, 0, none⟩, P.m⟩, rfl, ⟨iat_own (hO4.far fun k hk => ?_), kat_cells ((far eb (by omega) (by omega)).trans z1)⟩, hbF, fun g o e => (by cases e; omega), fun g o e => (by cases e; omega)⟩
  have hk' : k = w.heap.size + 2 := by simpa [Value.ownBlock] using hk.symm
  exact far _ (by omega) (by omega)
theorem copyProgram_any (P : Pg) (v : PgV) (w : World) (h : PAt w P v) (hs : roomyP P) :
    Calls Tryd.prog 4 #[.agg #[.int .i64 P.words, .int .i64 P.locals, .slice v.cp P.n v.cc, .slice v.ep P.m v.ec]] w fun e w' => ∃ v' : PgV, e = .returned (.agg #[.int .i64 P.words, .int .i64 P.locals, .slice v'.cp P.n v'.cc, .slice v'.ep P.m v'.ec]) ∧ PAt w' P v' ∧ Below w.heap.size w w' := (copyProgram_new P v w h hs).mono (by
  rintro e w' ⟨v', h1, h2, h3, _⟩
  exact ⟨v', h1, h2, h3⟩)

/-! ### the same again -/
theorem neq_ins (x y z : Int) (W : World) : (binOp .neq 35 (.agg #[.int .i64 x, .int .i64 y, .int .i64 z]) (.agg #[.int .i64 x, .int .i64 y, .int .i64 z])).run Tryd.prog W = .ok (.bool false) W := by
  go_simp
attribute [-go_sem] run_eql_struct in
set_option maxRecDepth 100000 in
set_option maxHeartbeats 1000000 in
theorem sameCode_yes (p q : Option Addr) (n c d : Nat) (op a b : Nat → Int) (hn : n ≤ 17592186044416) (w : World) (hp : IAt w p n op a b) (hq : IAt w q n op a b) :
    Calls Tryd.prog 17 #[.slice p n c, .slice q n d] w fun e w' => e = .returned (.bool true) ∧ Below w.heap.size w w' := by
  have HE := neq_ins
  go_enter Tryd.func17, Tryd.ntmps17
  go_wp2
  go_loopw [13] (fun v wr => ∃ i : Nat, v = .int .i64 i ∧ i ≤ n ∧ Below w.heap.size w wr) (fun v _ => n - (intOf v).toNat)
  case atStart => exact ⟨0, rfl, Nat.zero_le _, Below.refl _ _⟩
  case round =>
    obtain ⟨i, rfl, hi, hbel⟩ := hrel
    by_cases hlt : i < n
    · obtain h0 | ⟨b1, o1, hp1, hl1, hc1⟩ := hp.below hbel
      · omega
      obtain h0 | ⟨b2, o2, hp2, hl2, hc2⟩ := hq.below hbel
      · omega
      obtain ⟨x0, x1, x2⟩ := hc1 i hlt
      obtain ⟨y0, y1, y2⟩ := hc2 i hlt
      have dl : decide ((i : Int) < n) = true := decide_eq_true (by omega)
      have hm := meas hlt
      have i0 : (0 : Int) ≤ (i : Int) := by omega
      have i1 : (i : Int) < (n : Int) := by omega
      subst hp1 hp2
      clear hc1 hc2 hl1 hl2
      go_wp2
      go_quiet (fail)
      go_wp2
      exact ⟨⟨i + 1, rfl, hlt, hbel.trans (below_drewNq _ _ _)⟩, hm⟩
    · have dl : decide ((i : Int) < n) = false := decide_eq_false (by omega)
      clear hp hq
      go_wp2
      go_ret
      exact ⟨rfl, hbel⟩
set_option maxRecDepth 100000 in
set_option maxHeartbeats 1000000 in
theorem sameProgram_yes (P : Pg) (v v' : PgV) (w : World) (h : PAt w P v) (h' : PAt w P v') (hs : roomyP P) :
    Calls Tryd.prog 7 #[.agg #[.int .i64 P.words, .int .i64 P.locals, .slice v.cp P.n v.cc, .slice v.ep P.m v.ec], .agg #[.int .i64 P.words, .int .i64 P.locals, .slice v'.cp P.n v'.cc, .slice v'.ep P.m v'.ec]] w fun e w' => e = .returned (.bool true) ∧ Below w.heap.size w w' := by
  obtain ⟨hs1, hs2⟩ := hs
  have hb : Below w.heap.size w ((w.alloc (.cells #[.int .i64 P.words, .int .i64 P.locals, .slice v.cp P.n v.cc, .slice v.ep P.m v.ec] 25)).alloc (.cells #[.int .i64 P.words, .int .i64 P.locals, .slice v'.cp P.n v'.cc, .slice v'.ep P.m v'.ec] 25)) := ((Below.refl _ w).alloc (Nat.le_refl _) _).alloc (by simp) _
  obtain ⟨wp, hwp⟩ : ∃ wp, (w.alloc (.cells #[.int .i64 P.words, .int .i64 P.locals, .slice v.cp P.n v.cc, .slice v.ep P.m v.ec] 25)).alloc (.cells #[.int .i64 P.words, .int .i64 P.locals, .slice v'.cp P.n v'.cc, .slice v'.ep P.m v'.ec] 25) = wp := ⟨_, rfl⟩
  have hbox1 : wp.heap[w.heap.size]? = some (.cells #[.int .i64 P.words, .int .i64 P.locals, .slice v.cp P.n v.cc, .slice v.ep P.m v.ec] 25 (0, 0)) := by
    rw [← hwp, Below.heap_alloc _ _ _ (by simp)]
    exact World.alloc_heap_new w _
  have hbox2 : wp.heap[w.heap.size + 1]? = some (.cells #[.int .i64 P.words, .int .i64 P.locals, .slice v'.cp P.n v'.cc, .slice v'.ep P.m v'.ec] 25 (0, 0)) := by
    rw [← hwp]
    have := World.alloc_heap_new (w.alloc (.cells #[.int .i64 P.words, .int .i64 P.locals, .slice v.cp P.n v.cc, .slice v.ep P.m v.ec] 25)) (.cells #[.int .i64 P.words, .int .i64 P.locals, .slice v'.cp P.n v'.cc, .slice v'.ep P.m v'.ec] 25)
    rwa [World.size_alloc] at this
  have hszp : w.heap.size + 1 < wp.heap.size := by rw [← hwp]; simp
  rw [hwp] at hb
  have HC := sameCode_yes v.cp v'.cp P.n v.cc v'.cc P.op P.a P.b (by omega) wp (h.1.below hb) (h'.1.below hb)
  have hk := h.2.below hb
  have hk' := h'.2.below hb
  have HB : Hid ((w.alloc (.cells #[.int .i64 P.words, .int .i64 P.locals, .slice v.cp P.n v.cc, .slice v.ep P.m v.ec] 25)).alloc (.cells #[.int .i64 P.words, .int .i64 P.locals, .slice v'.cp P.n v'.cc, .slice v'.ep P.m v'.ec] 25) = wp) := hwp
  clear hwp h h'
  go_enter Tryd.func7, Tryd.ntmps7
  go_wp2_with (first | (go_at_call 17; rw [HB.out]; (with_reducible refine HC.mono ?_); rintro e w1 ⟨rfl, z1⟩; obtain ⟨a0, a1, a2, a3⟩ := cells4 ((z1.block _ (by omega)).trans hbox1); obtain ⟨b0, b1, b2, b3⟩ := cells4 ((z1.block _ (by omega)).trans hbox2); have HI := sameInts_any v.ep v'.ep P.m P.m v.ec v'.ec P.en P.en hs2 w1 (hk.below z1) (hk'.below z1); rw [decide_eq_true rfl, sameF_yes (fun _ _ => rfl)] at HI) | (go_at_call 18; (with_reducible refine HI.mono ?_); rintro e w2 ⟨rfl, z2⟩))
  go_ret
  exact ⟨rfl, (hb.trans (z1.mono hb.size)).trans (z2.mono (Nat.le_trans hb.size z1.size))⟩
end Go.Proofs.YthbngffonbhakaaDoor
