import Derived.Test.YtcifdlncbekohaaDoorParse1
import Derived.RegionTactic
import Derived.BigRegion
namespace Go.Proofs.YtcifdlncbekohaaDoor
open Go.ChangeShapes Go.WideShapes Go.ChangeAt Go.RowKit

/-- an event's numbers are in range -/
def EvIn (t q : Nat) (s d k v : Int) : Prop := t < 18446744073709551616 ∧ q < 18446744073709551616 ∧ (-9223372036854775808 ≤ s ∧ s ≤ 9223372036854775807) ∧ (-9223372036854775808 ≤ d ∧ d ≤ 9223372036854775807) ∧ (-9223372036854775808 ≤ k ∧ k ≤ 9223372036854775807) ∧ (-9223372036854775808 ≤ v ∧ v ≤ 9223372036854775807)
def evV (t q : Nat) (s d k v : Int) : Value := .agg #[.int .u64 t, .int .i64 s, .int .u64 q, .int .i64 d, .int .i64 k, .int .i64 v]

/-- what a way that parses must answer: of a text of an event that event, of any other text none -/
def Answer (l : List UInt8) (e : Value) (n : Int) : Prop :=
  (∃ t q s d k v, EvIn t q s d k v ∧ l = txt t q s d k v ∧ e = evV t q s d k v ∧ n = 0) ∨ ((∀ t q s d k v, EvIn t q s d k v → l ≠ txt t q s d k v) ∧ e = evV 0 0 0 0 0 0 ∧ n = 12)

theorem txt_inj {t q t' q' : Nat} {s d k v s' d' k' v' : Int} (h1 : EvIn t q s d k v) (h2 : EvIn t' q' s' d' k' v') (h : txt t q s d k v = txt t' q' s' d' k' v') : t = t' ∧ q = q' ∧ s = s' ∧ d = d' ∧ k = k' ∧ v = v' := by
  obtain ⟨a1, a2, a3, a4, a5, a6⟩ := cuts_txt t q s d k v
  obtain ⟨b1, b2, b3, b4, b5, b6⟩ := cuts_txt t' q' s' d' k' v'
  rw [h] at a1 a2 a3 a4 a5 a6
  obtain ⟨g1, g2, g3, g4, g5, g6⟩ := h1
  obtain ⟨f1, f2, f3, f4, f5, f6⟩ := h2
  have x1 := congrArg pU (a1.symm.trans b1)
  have x2 := congrArg pI (a2.symm.trans b2)
  have x3 := congrArg pU (a3.symm.trans b3)
  have x4 := congrArg pI (a4.symm.trans b4)
  have x5 := congrArg pI (a5.symm.trans b5)
  have x6 := congrArg pI (a6.symm.trans b6)
  rw [pU_dec _ g1, pU_dec _ f1] at x1
  rw [pU_dec _ g2, pU_dec _ f2] at x3
  rw [pI_itoa _ g3.1 g3.2, pI_itoa _ f3.1 f3.2] at x2
  rw [pI_itoa _ g4.1 g4.2, pI_itoa _ f4.1 f4.2] at x4
  rw [pI_itoa _ g5.1 g5.2, pI_itoa _ f5.1 f5.2] at x5
  rw [pI_itoa _ g6.1 g6.2, pI_itoa _ f6.1 f6.2] at x6
  exact ⟨x1, x3, x2, x4, x5, x6⟩
theorem Answer.one {l : List UInt8} {e e' : Value} {n n' : Int} (h : Answer l e n) (h' : Answer l e' n') : e = e' ∧ n = n' := by
  rcases h with ⟨t, q, s, d, k, v, hi, rfl, rfl, rfl⟩ | ⟨hno, rfl, rfl⟩
  · rcases h' with ⟨t', q', s', d', k', v', hi', h, rfl, rfl⟩ | ⟨hno, rfl, rfl⟩
    · obtain ⟨rfl, rfl, rfl, rfl, rfl, rfl⟩ := txt_inj hi hi' h
      exact ⟨rfl, rfl⟩
    · exact absurd rfl (hno t q s d k v hi)
  · rcases h' with ⟨t', q', s', d', k', v', hi', h, rfl, rfl⟩ | ⟨hno, rfl, rfl⟩
    · exact absurd h (hno _ _ _ _ _ _ hi')
    · exact ⟨rfl, rfl⟩

/-- a way that makes an event of the pieces and holds its text against the given one answers so -/
theorem answer_cand {l : List UInt8} {t q : Nat} {s d k v : Int} (hc : ∀ t' q' s' d' k' v', EvIn t' q' s' d' k' v' → l = txt t' q' s' d' k' v' → t = t' ∧ q = q' ∧ s = s' ∧ d = d' ∧ k = k' ∧ v = v') (hne : txt t q s d k v ≠ l) :
    Answer l (evV 0 0 0 0 0 0) 12 := by
  refine Or.inr ⟨?_, rfl, rfl⟩
  intro t' q' s' d' k' v' hi' h
  obtain ⟨rfl, rfl, rfl, rfl, rfl, rfl⟩ := hc _ _ _ _ _ _ hi' h
  exact hne h.symm

theorem cand_own (l : List UInt8) : EvIn (pU (c1 l).1) (pU (c3 l).1) (pI (c2 l).1) (pI (c4 l).1) (pI (c5 l).1) (pI (c5 l).2.1) :=
  ⟨pU_lt _, pU_lt _, pI_in _, pI_in _, pI_in _, pI_in _⟩
theorem cand_right (l : List UInt8) (t' q' : Nat) (s' d' k' v' : Int) (hi : EvIn t' q' s' d' k' v') (h : l = txt t' q' s' d' k' v') :
    pU (c1 l).1 = t' ∧ pU (c3 l).1 = q' ∧ pI (c2 l).1 = s' ∧ pI (c4 l).1 = d' ∧ pI (c5 l).1 = k' ∧ pI (c5 l).2.1 = v' := by
  subst h
  obtain ⟨a1, a2, a3, a4, a5, a6⟩ := cuts_txt t' q' s' d' k' v'
  obtain ⟨f1, f2, f3, f4, f5, f6⟩ := hi
  rw [a1, a2, a3, a4, a5, a6, pU_dec _ f1, pU_dec _ f2, pI_itoa _ f3.1 f3.2, pI_itoa _ f4.1 f4.2, pI_itoa _ f5.1 f5.2, pI_itoa _ f6.1 f6.2]
  exact ⟨rfl, rfl, rfl, rfl, rfl, rfl⟩
theorem lens (l : List UInt8) : (c1 l).1.length ≤ l.length ∧ (c1 l).2.1.length ≤ l.length ∧ (c2 l).1.length ≤ l.length ∧ (c2 l).2.1.length ≤ l.length ∧ (c3 l).1.length ≤ l.length ∧ (c3 l).2.1.length ≤ l.length ∧ (c4 l).1.length ≤ l.length ∧ (c4 l).2.1.length ≤ l.length ∧ (c5 l).1.length ≤ l.length ∧ (c5 l).2.1.length ≤ l.length := by
  have a1 := cut_len1 l [46]
  have b1 := cut_len2 l [46]
  have a2 := cut_len1 (c1 l).2.1 [46]
  have b2 := cut_len2 (c1 l).2.1 [46]
  have a3 := cut_len1 (c2 l).2.1 [62]
  have b3 := cut_len2 (c2 l).2.1 [62]
  have a4 := cut_len1 (c3 l).2.1 [58]
  have b4 := cut_len2 (c3 l).2.1 [58]
  have a5 := cut_len1 (c4 l).2.1 [61]
  have b5 := cut_len2 (c4 l).2.1 [61]
  rw [← c1] at a1 b1
  rw [← c2] at a2 b2
  rw [← c3] at a3 b3
  rw [← c4] at a4 b4
  rw [← c5] at a5 b5
  omega

theorem block6p {w : World} {h : Nat} {v0 v1 v2 v3 v4 v5 : Value} {T : TypeId} (hb : w.heap[h]? = some (.cells #[v0, v1, v2, v3, v4, v5] T (0, 0))) :
    (w.cell? ⟨h, 0, none⟩ = some v0 ∧ w.cell? ⟨h, 1, none⟩ = some v1 ∧ w.cell? ⟨h, 2, none⟩ = some v2 ∧ w.cell? ⟨h, 3, none⟩ = some v3 ∧ w.cell? ⟨h, 4, none⟩ = some v4 ∧ w.cell? ⟨h, 5, none⟩ = some v5) ∧
    (w.frozen? ⟨h, 0, none⟩ = false ∧ w.frozen? ⟨h, 1, none⟩ = false ∧ w.frozen? ⟨h, 2, none⟩ = false ∧ w.frozen? ⟨h, 3, none⟩ = false ∧ w.frozen? ⟨h, 4, none⟩ = false ∧ w.frozen? ⟨h, 5, none⟩ = false) := by
  refine ⟨⟨?_, ?_, ?_, ?_, ?_, ?_⟩, ?_, ?_, ?_, ?_, ?_, ?_⟩ <;> simp [World.cell?, World.frozen?, hb]
theorem below6 {w w' : World} (h : Below w.heap.size w w') (v0 v1 v2 v3 v4 v5 : Value) : Below w.heap.size w ((((((w'.setCell ⟨w.heap.size, 0, none⟩ v0).setCell ⟨w.heap.size, 1, none⟩ v1).setCell ⟨w.heap.size, 2, none⟩ v2).setCell ⟨w.heap.size, 3, none⟩ v3).setCell ⟨w.heap.size, 4, none⟩ v4).setCell ⟨w.heap.size, 5, none⟩ v5) :=
  (((((h.setCell (p := ⟨w.heap.size, 0, none⟩) (Nat.le_refl _) _).setCell (p := ⟨w.heap.size, 1, none⟩) (Nat.le_refl _) _).setCell (p := ⟨w.heap.size, 2, none⟩) (Nat.le_refl _) _).setCell (p := ⟨w.heap.size, 3, none⟩) (Nat.le_refl _) _).setCell (p := ⟨w.heap.size, 4, none⟩) (Nat.le_refl _) _).setCell (p := ⟨w.heap.size, 5, none⟩) (Nat.le_refl _) _

set_option maxHeartbeats 2000000 in
theorem parse_any (l : List UInt8) (hl : l.length ≤ 4294967280) (w : World) (g0 : Gr w) :
    Calls Tryd.prog 12 #[.string ⟨l.toArray⟩] w fun e w' => ∃ ev n, e = .returned (.tuple #[ev, .int .i64 n]) ∧ Answer l ev n ∧ Below w.heap.size w w' := by
  obtain ⟨n1, m1, n2, m2, n3, m3, n4, m4, n5, m5⟩ := lens l
  have hb : Below (w.heap.size + 1) (w.alloc (.cells #[.int .u64 0, .int .i64 0, .int .u64 0, .int .i64 0, .int .i64 0, .int .i64 0] 36)) (w.alloc (.cells #[.int .u64 0, .int .i64 0, .int .u64 0, .int .i64 0, .int .i64 0, .int .i64 0] 36)) := Below.refl _ _
  have hsz : w.heap.size + 1 ≤ (w.alloc (.cells #[.int .u64 0, .int .i64 0, .int .u64 0, .int .i64 0, .int .i64 0, .int .i64 0] 36)).heap.size := by simp
  have g : Gr (w.alloc (.cells #[.int .u64 0, .int .i64 0, .int .u64 0, .int .i64 0, .int .i64 0, .int .i64 0] 36)) := g0.keep ((Below.refl _ _).alloc (Nat.le_refl _) _)
  clear g0
  go_enter Tryd.func12, Tryd.ntmps12
  go_wp2_with fail
  refine (cut_any l 46 hl _ g).mono ?_
  rintro e w1 ⟨rfl, b1⟩
  replace g := g.keep b1
  replace hb := hb.trans (b1.mono hsz)
  replace hsz := Nat.le_trans hsz b1.size
  clear b1
  go_wp2_with fail
  refine (cut_any (c1 l).2.1 46 (by omega) _ g).mono ?_
  rintro e w2 ⟨rfl, b2⟩
  replace g := g.keep b2
  replace hb := hb.trans (b2.mono hsz)
  replace hsz := Nat.le_trans hsz b2.size
  clear b2
  go_wp2_with fail
  refine (cut_any (c2 l).2.1 62 (by omega) _ g).mono ?_
  rintro e w3 ⟨rfl, b3⟩
  replace g := g.keep b3
  replace hb := hb.trans (b3.mono hsz)
  replace hsz := Nat.le_trans hsz b3.size
  clear b3
  go_wp2_with fail
  refine (cut_any (c3 l).2.1 58 (by omega) _ g).mono ?_
  rintro e w4 ⟨rfl, b4⟩
  replace g := g.keep b4
  replace hb := hb.trans (b4.mono hsz)
  replace hsz := Nat.le_trans hsz b4.size
  clear b4
  go_wp2_with fail
  refine (cut_any (c4 l).2.1 61 (by omega) _ g).mono ?_
  rintro e w5 ⟨rfl, b5⟩
  replace g := g.keep b5
  replace hb := hb.trans (b5.mono hsz)
  replace hsz := Nat.le_trans hsz b5.size
  clear b5
  go_wp2_with fail
  refine (pU_any (c1 l).1 (by omega) _ g).mono ?_
  rintro e w6 ⟨rfl, b6⟩
  replace g := g.keep b6
  replace hb := hb.trans (b6.mono hsz)
  replace hsz := Nat.le_trans hsz b6.size
  clear b6
  go_wp2_with fail
  refine (pI_any (c2 l).1 (by omega) _ g).mono ?_
  rintro e w7 ⟨rfl, b7⟩
  replace g := g.keep b7
  replace hb := hb.trans (b7.mono hsz)
  replace hsz := Nat.le_trans hsz b7.size
  clear b7
  go_wp2_with fail
  refine (pU_any (c3 l).1 (by omega) _ g).mono ?_
  rintro e w8 ⟨rfl, b8⟩
  replace g := g.keep b8
  replace hb := hb.trans (b8.mono hsz)
  replace hsz := Nat.le_trans hsz b8.size
  clear b8
  go_wp2_with fail
  refine (pI_any (c4 l).1 (by omega) _ g).mono ?_
  rintro e w9 ⟨rfl, b9⟩
  replace g := g.keep b9
  replace hb := hb.trans (b9.mono hsz)
  replace hsz := Nat.le_trans hsz b9.size
  clear b9
  go_wp2_with fail
  refine (pI_any (c5 l).1 (by omega) _ g).mono ?_
  rintro e w10 ⟨rfl, b10⟩
  replace g := g.keep b10
  replace hb := hb.trans (b10.mono hsz)
  replace hsz := Nat.le_trans hsz b10.size
  clear b10
  go_wp2_with fail
  refine (pI_any (c5 l).2.1 (by omega) _ g).mono ?_
  rintro e w11 ⟨rfl, b11⟩
  replace g := g.keep b11
  replace hb := hb.trans (b11.mono hsz)
  replace hsz := Nat.le_trans hsz b11.size
  clear b11
  go_wp2_with fail
  have hi := cand_own l
  have hr := cand_right l
  generalize pU (c1 l).1 = t at hi hr ⊢
  generalize pU (c3 l).1 = q at hi hr ⊢
  generalize pI (c2 l).1 = s at hi hr ⊢
  generalize pI (c4 l).1 = d at hi hr ⊢
  generalize pI (c5 l).1 = k at hi hr ⊢
  generalize pI (c5 l).2.1 = v at hi hr ⊢
  clear n1 m1 n2 m2 n3 m3 n4 m4 n5 m5
  have gt := g.keep ((Below.refl _ _).alloc (Nat.le_refl _) (.cells #[.int .u64 t, .int .i64 s, .int .u64 q, .int .i64 d, .int .i64 k, .int .i64 v] 36))
  refine (text_any t q s d k v hi.1 hi.2.1 hi.2.2.1 hi.2.2.2.1 hi.2.2.2.2.1 hi.2.2.2.2.2 _ gt.tab).mono ?_
  rintro e w12 ⟨rfl, b12⟩
  have b12' : Below (w11.heap.size + 1) (w11.alloc (.cells #[.int .u64 t, .int .i64 s, .int .u64 q, .int .i64 d, .int .i64 k, .int .i64 v] 36)) w12 := by
    exact b12.mono (by simp)
  obtain ⟨c0, c1, c2, c3, c4, c5⟩ := box6 b12'
  replace hb := (hb.trans ((Below.refl _ _).alloc hsz _)).trans (b12'.mono (by omega))
  have hres := block6p ((hb.block w.heap.size (by omega)).trans (heap_alloc_new w _))
  have hB : Below w.heap.size w w12 := ((Below.refl _ _).alloc (Nat.le_refl _) _).trans (hb.mono (by omega))
  clear hb b12 b12' g gt hsz
  by_cases he : txt t q s d k v = l
  · have hs : (!(txt t q s d k v == l)) = false := by simp [he]
    go_wp2_with fail
    refine bodyPost_ret (v := .tuple #[evV t q s d k v, .int .i64 0]) ?_ rfl ⟨_, _, rfl, Or.inl ⟨t, q, s, d, k, v, hi, he.symm, rfl, rfl⟩, below6 hB _ _ _ _ _ _⟩
    simp [results, Tryd.results12, go_sem, hres, evV]
  · have hs : (!(txt t q s d k v == l)) = true := by simp [he]
    go_wp2_with fail
    refine bodyPost_ret (v := .tuple #[evV 0 0 0 0 0 0, .int .i64 12]) ?_ rfl ⟨_, _, rfl, answer_cand hr he, below6 hB _ _ _ _ _ _⟩
    simp [results, Tryd.results12, go_sem, hres, evV]
end Go.Proofs.YtcifdlncbekohaaDoor
