import Derived.Test.YtopggemomcoalaaGreatJV3
namespace Go.Proofs.YtopggemomcoalaaGreat
open Go.ChangeShapes Go.WideShapes Go.ChangeAt Go.RowKit
set_option linter.unusedVariables false

theorem cells3 {W : World} {b : Nat} {c0 c1 c2 : Value} {t : TypeId} (h : W.heap[b]? = some (.cells #[c0, c1, c2] t (0, 0))) : W.cell? ⟨b, 0, none⟩ = some c0 ∧ W.cell? ⟨b, 1, none⟩ = some c1 ∧ W.cell? ⟨b, 2, none⟩ = some c2 := by
  refine ⟨?_, ?_, ?_⟩
  all_goals (unfold World.cell?; rw [h]; rfl)
theorem cast1 (k : Nat) : ((k + 1 : Nat) : Int) = (k : Int) + 1 := by omega
theorem arr_S {n : Nat} {s : Sv} {k : Nat} {d : Int} : (arr n s k d).S.length ≤ s.S.length + 1 := by
  unfold arr
  repeat' split
  all_goals simp
set_option maxRecDepth 100000 in
set_option maxHeartbeats 4000000 in
theorem goOn_any (P : Pg) (g : Gd P) (w0 w : World) (sb db cc : Nat) (cp : Option Addr) (s : Sv) (ov : Value) (k : Nat) (hk : k < P.n) (hn : P.n ≤ 4096) (hS : s.S.length ≤ 4095) (hL : 0 ≤ s.L k ∧ s.L k ≤ 64) (hI : IAt w0 cp P.n P.op P.a P.b) (h : SvW w0 w w0.heap.size sb db P.n cc cp s ov) :
    Calls Tryz.prog 54 #[.pointer (some ⟨sb, 0, none⟩), .int .i64 k] w fun e w' => e = .returned (.tuple #[]) ∧ ∃ ov', SvW w0 w' w0.heap.size sb db P.n cc cp (gon P s k) ov' := by
  have hbw := h.bel.size
  obtain h0 | ⟨cb, co, rfl, hcl, hcc⟩ := hI.below h.bel
  · omega
  obtain ⟨x0, x1, x2⟩ := hcc k hk
  obtain ⟨c0, c1, c2, c3, c4, fz⟩ := h.cells
  have i0 : (0 : Int) ≤ (k : Int) := by omega
  have i1 : (k : Int) < (P.n : Int) := by omega
  have hop := g.op k hk
  have hpp := pops_b (P.op k)
  have hpu := pushes_b (P.op k)
  have HM := moves_any (P.op k) hop
  have HJ := jumps_any (P.op k)
  have HE := ends_any (P.op k)
  have hlt : sb < w.heap.size := (Array.getElem?_eq_some_iff.1 h.box).1
  have hlt2 : db < w.heap.size := by
    obtain ⟨cur, h1, _⟩ := h.dep.block
    exact (Array.getElem?_eq_some_iff.1 h1).1
  have hov : ov.ownBlock ≠ some w.heap.size := by
    rcases h.opn.form with ⟨h7, _⟩ | ⟨g, c, h7, h8, h9⟩
    · rw [h7]; intro e; cases e
    · rw [h7]; intro e; have : g = w.heap.size := by simpa [Value.ownBlock] using e
      omega
  obtain ⟨wb, hwb⟩ : ∃ wb, w.alloc (.cells #[.int .i64 (P.op k), .int .i64 (P.a k), .int .i64 (P.b k)] 36) = wb := ⟨_, rfl⟩
  have hbb : Below w.heap.size w wb := by rw [← hwb]; exact (Below.refl _ w).alloc (Nat.le_refl _) _
  have hsz : wb.heap.size = w.heap.size + 1 := by rw [← hwb, World.size_alloc]
  have hq := h.later hbb hbw
  have hbox : wb.heap[w.heap.size]? = some (.cells #[.int .i64 (P.op k), .int .i64 (P.a k), .int .i64 (P.b k)] 36 (0, 0)) := by rw [← hwb]; exact World.alloc_heap_new w _
  obtain ⟨b0, b1, b2⟩ := cells3 hbox
  obtain ⟨q0, q1, q2, q3, q4, qf⟩ := hq.cells
  have qf4 := qf 4
  obtain ⟨y0, y1⟩ := hq.depc hk
  have hbad : ∃ bad, (decide (s.L k - pops (P.op k) < 0) || decide (64 < s.L k - pops (P.op k) + pushes (P.op k))) = bad := ⟨_, rfl⟩
  obtain ⟨bad, hbad⟩ := hbad
  have hgo : gon P s k = (let d := (if bad then 0 else s.L k - pops (P.op k)) + pushes (P.op k)
      let s1 : Sv := { s with un := s.un || bad }
      let s2 := if jmp (P.op k) then arr P.n s1 (P.a k).toNat d else s1
      if ends (P.op k) then s2 else arr P.n s2 (k + 1) d) := by
    unfold gon
    rw [hbad]
  obtain ⟨d, hd⟩ : ∃ d, (if bad then 0 else s.L k - pops (P.op k)) + pushes (P.op k) = d := ⟨_, rfl⟩
  obtain ⟨s1, hs1⟩ : ∃ s1 : Sv, { s with un := s.un || bad } = s1 := ⟨_, rfl⟩
  simp only [hd, hs1] at hgo
  have hja : Hid (jmp (P.op k) = true → ((P.a k).toNat : Int) = P.a k ∧ (P.a k).toNat ≤ P.n) := fun hj => by have := g.a k hk hj; omega
  have hS1 : s1.S.length ≤ 4095 := by rw [← hs1]; exact hS
  have HG : Hid _ := hgo
  have HB : Hid (w.alloc (.cells #[.int .i64 (P.op k), .int .i64 (P.a k), .int .i64 (P.b k)] 36) = wb) := hwb
  clear h hgo hbb hcc hI hwb
  go_enter Tryz.func54, Tryz.ntmps54
  by_cases hb1 : s.L k - pops (P.op k) < 0
  · have hbt : bad = true := by rw [← hbad]; simp [hb1]
    subst hbt
    rw [if_pos rfl] at hd
    have hA := hq.setUn true
    have hs1' : ({ s with un := true } : Sv) = s1 := by rw [← hs1, Bool.or_true]
    rw [hs1'] at hA
    have hbq : (wb.setCell ⟨sb, 4, none⟩ (.bool true)).heap[w.heap.size]? = _ := (Below.heap_setCell wb ⟨sb, 4, none⟩ (.bool true) w.heap.size (by show w.heap.size ≠ sb; omega)).trans hbox
    obtain ⟨t0, t1, t2⟩ := cells3 hbq
    have hsq : (wb.setCell ⟨sb, 4, none⟩ (.bool true)).heap.size = w.heap.size + 1 := by rw [← hsz]; simp [World.setCell]
    clear hs1 hs1' hbad hq
    by_cases hj : jmp (P.op k) = true
    · have HA1 := arrive_any w0 (wb.setCell ⟨sb, 4, none⟩ (.bool true)) w0.heap.size sb db P.n cc (some ⟨cb, co, none⟩) s1 ov (P.a k).toNat d (hja.out hj).2 hn (by omega) (by omega) hA
      rw [(hja.out hj).1] at HA1
      rw [hj] at HJ
      by_cases he : ends (P.op k) = true
      · rw [he] at HE
        go_wp2_with (first | (go_at_call 94; (with_reducible refine (HM _).mono ?_); rintro e w1 ⟨rfl, rfl⟩; rw [HB.out]) | (go_at_call 52; (with_reducible refine (HJ _).mono ?_); rintro e w1 ⟨rfl, rfl⟩) | (go_at_call 95; (with_reducible refine (HE _).mono ?_); rintro e w1 ⟨rfl, rfl⟩) | (go_at_call 53; (with_reducible refine HA1.mono ?_); rintro e w2 ⟨rfl, z1, z2, ov2, z3⟩; have hbx2 := (z2 w.heap.size (by omega) (by omega) (by omega) hov).trans hbq; obtain ⟨v0, v1, v2⟩ := cells3 hbx2; have HA2 := arrive_any w0 w2 w0.heap.size sb db P.n cc (some ⟨cb, co, none⟩) _ ov2 (k + 1) d (by omega) hn (by have := arr_S (n := P.n) (s := s1) (k := (P.a k).toNat) (d := d); omega) (by omega) z3; rw [cast1] at HA2; clear z2))
        go_end0
        exact ⟨rfl, _, by rw [HG.out]; first | simpa only [hj, he, ↓reduceIte] using z3 | simpa only [hj, he', ↓reduceIte, Bool.false_eq_true] using z3 | simpa only [hj', he, ↓reduceIte, Bool.false_eq_true] using z3 | simpa only [hj', he', ↓reduceIte, Bool.false_eq_true] using z3⟩
      · have he' : ends (P.op k) = false := by simpa using he
        rw [he'] at HE
        go_wp2_with (first | (go_at_call 94; (with_reducible refine (HM _).mono ?_); rintro e w1 ⟨rfl, rfl⟩; rw [HB.out]) | (go_at_call 52; (with_reducible refine (HJ _).mono ?_); rintro e w1 ⟨rfl, rfl⟩) | (go_at_call 95; (with_reducible refine (HE _).mono ?_); rintro e w1 ⟨rfl, rfl⟩) | (go_at_call 53; (with_reducible refine HA1.mono ?_); rintro e w2 ⟨rfl, z1, z2, ov2, z3⟩; have hbx2 := (z2 w.heap.size (by omega) (by omega) (by omega) hov).trans hbq; obtain ⟨v0, v1, v2⟩ := cells3 hbx2; have HA2 := arrive_any w0 w2 w0.heap.size sb db P.n cc (some ⟨cb, co, none⟩) _ ov2 (k + 1) d (by omega) hn (by have := arr_S (n := P.n) (s := s1) (k := (P.a k).toNat) (d := d); omega) (by omega) z3; rw [cast1] at HA2; clear z2) | (go_at_call 53; (with_reducible refine HA2.mono ?_); rintro e w3 ⟨rfl, y1, y2, ov3, y3⟩))
        go_end0
        exact ⟨rfl, _, by rw [HG.out]; first | simpa only [hj, he, ↓reduceIte] using y3 | simpa only [hj, he', ↓reduceIte, Bool.false_eq_true] using y3 | simpa only [hj', he, ↓reduceIte, Bool.false_eq_true] using y3 | simpa only [hj', he', ↓reduceIte, Bool.false_eq_true] using y3⟩
    · have hj' : jmp (P.op k) = false := by simpa using hj
      have HA2 := arrive_any w0 (wb.setCell ⟨sb, 4, none⟩ (.bool true)) w0.heap.size sb db P.n cc (some ⟨cb, co, none⟩) s1 ov (k + 1) d (by omega) hn (by omega) (by omega) hA
      rw [cast1] at HA2
      rw [hj'] at HJ
      by_cases he : ends (P.op k) = true
      · rw [he] at HE
        go_wp2_with (first | (go_at_call 94; (with_reducible refine (HM _).mono ?_); rintro e w1 ⟨rfl, rfl⟩; rw [HB.out]) | (go_at_call 52; (with_reducible refine (HJ _).mono ?_); rintro e w1 ⟨rfl, rfl⟩) | (go_at_call 95; (with_reducible refine (HE _).mono ?_); rintro e w1 ⟨rfl, rfl⟩))
        go_end0
        exact ⟨rfl, _, by rw [HG.out]; first | simpa only [hj, he, ↓reduceIte] using hA | simpa only [hj, he', ↓reduceIte, Bool.false_eq_true] using hA | simpa only [hj', he, ↓reduceIte, Bool.false_eq_true] using hA | simpa only [hj', he', ↓reduceIte, Bool.false_eq_true] using hA⟩
      · have he' : ends (P.op k) = false := by simpa using he
        rw [he'] at HE
        go_wp2_with (first | (go_at_call 94; (with_reducible refine (HM _).mono ?_); rintro e w1 ⟨rfl, rfl⟩; rw [HB.out]) | (go_at_call 52; (with_reducible refine (HJ _).mono ?_); rintro e w1 ⟨rfl, rfl⟩) | (go_at_call 95; (with_reducible refine (HE _).mono ?_); rintro e w1 ⟨rfl, rfl⟩) | (go_at_call 53; (with_reducible refine HA2.mono ?_); rintro e w3 ⟨rfl, y1, y2, ov3, y3⟩))
        go_end0
        exact ⟨rfl, _, by rw [HG.out]; first | simpa only [hj, he, ↓reduceIte] using y3 | simpa only [hj, he', ↓reduceIte, Bool.false_eq_true] using y3 | simpa only [hj', he, ↓reduceIte, Bool.false_eq_true] using y3 | simpa only [hj', he', ↓reduceIte, Bool.false_eq_true] using y3⟩
  · by_cases hb2 : 64 < s.L k - pops (P.op k) + pushes (P.op k)
    · have hbt : bad = true := by rw [← hbad]; simp [hb2]
      subst hbt
      rw [if_pos rfl] at hd
      have hA := hq.setUn true
      have hs1' : ({ s with un := true } : Sv) = s1 := by rw [← hs1, Bool.or_true]
      rw [hs1'] at hA
      have hbq : (wb.setCell ⟨sb, 4, none⟩ (.bool true)).heap[w.heap.size]? = _ := (Below.heap_setCell wb ⟨sb, 4, none⟩ (.bool true) w.heap.size (by show w.heap.size ≠ sb; omega)).trans hbox
      obtain ⟨t0, t1, t2⟩ := cells3 hbq
      have hsq : (wb.setCell ⟨sb, 4, none⟩ (.bool true)).heap.size = w.heap.size + 1 := by rw [← hsz]; simp [World.setCell]
      clear hs1 hs1' hbad hq
      by_cases hj : jmp (P.op k) = true
      · have HA1 := arrive_any w0 (wb.setCell ⟨sb, 4, none⟩ (.bool true)) w0.heap.size sb db P.n cc (some ⟨cb, co, none⟩) s1 ov (P.a k).toNat d (hja.out hj).2 hn (by omega) (by omega) hA
        rw [(hja.out hj).1] at HA1
        rw [hj] at HJ
        by_cases he : ends (P.op k) = true
        · rw [he] at HE
          go_wp2_with (first | (go_at_call 94; (with_reducible refine (HM _).mono ?_); rintro e w1 ⟨rfl, rfl⟩; rw [HB.out]) | (go_at_call 52; (with_reducible refine (HJ _).mono ?_); rintro e w1 ⟨rfl, rfl⟩) | (go_at_call 95; (with_reducible refine (HE _).mono ?_); rintro e w1 ⟨rfl, rfl⟩) | (go_at_call 53; (with_reducible refine HA1.mono ?_); rintro e w2 ⟨rfl, z1, z2, ov2, z3⟩; have hbx2 := (z2 w.heap.size (by omega) (by omega) (by omega) hov).trans hbq; obtain ⟨v0, v1, v2⟩ := cells3 hbx2; have HA2 := arrive_any w0 w2 w0.heap.size sb db P.n cc (some ⟨cb, co, none⟩) _ ov2 (k + 1) d (by omega) hn (by have := arr_S (n := P.n) (s := s1) (k := (P.a k).toNat) (d := d); omega) (by omega) z3; rw [cast1] at HA2; clear z2))
          go_end0
          exact ⟨rfl, _, by rw [HG.out]; first | simpa only [hj, he, ↓reduceIte] using z3 | simpa only [hj, he', ↓reduceIte, Bool.false_eq_true] using z3 | simpa only [hj', he, ↓reduceIte, Bool.false_eq_true] using z3 | simpa only [hj', he', ↓reduceIte, Bool.false_eq_true] using z3⟩
        · have he' : ends (P.op k) = false := by simpa using he
          rw [he'] at HE
          go_wp2_with (first | (go_at_call 94; (with_reducible refine (HM _).mono ?_); rintro e w1 ⟨rfl, rfl⟩; rw [HB.out]) | (go_at_call 52; (with_reducible refine (HJ _).mono ?_); rintro e w1 ⟨rfl, rfl⟩) | (go_at_call 95; (with_reducible refine (HE _).mono ?_); rintro e w1 ⟨rfl, rfl⟩) | (go_at_call 53; (with_reducible refine HA1.mono ?_); rintro e w2 ⟨rfl, z1, z2, ov2, z3⟩; have hbx2 := (z2 w.heap.size (by omega) (by omega) (by omega) hov).trans hbq; obtain ⟨v0, v1, v2⟩ := cells3 hbx2; have HA2 := arrive_any w0 w2 w0.heap.size sb db P.n cc (some ⟨cb, co, none⟩) _ ov2 (k + 1) d (by omega) hn (by have := arr_S (n := P.n) (s := s1) (k := (P.a k).toNat) (d := d); omega) (by omega) z3; rw [cast1] at HA2; clear z2) | (go_at_call 53; (with_reducible refine HA2.mono ?_); rintro e w3 ⟨rfl, y1, y2, ov3, y3⟩))
          go_end0
          exact ⟨rfl, _, by rw [HG.out]; first | simpa only [hj, he, ↓reduceIte] using y3 | simpa only [hj, he', ↓reduceIte, Bool.false_eq_true] using y3 | simpa only [hj', he, ↓reduceIte, Bool.false_eq_true] using y3 | simpa only [hj', he', ↓reduceIte, Bool.false_eq_true] using y3⟩
      · have hj' : jmp (P.op k) = false := by simpa using hj
        have HA2 := arrive_any w0 (wb.setCell ⟨sb, 4, none⟩ (.bool true)) w0.heap.size sb db P.n cc (some ⟨cb, co, none⟩) s1 ov (k + 1) d (by omega) hn (by omega) (by omega) hA
        rw [cast1] at HA2
        rw [hj'] at HJ
        by_cases he : ends (P.op k) = true
        · rw [he] at HE
          go_wp2_with (first | (go_at_call 94; (with_reducible refine (HM _).mono ?_); rintro e w1 ⟨rfl, rfl⟩; rw [HB.out]) | (go_at_call 52; (with_reducible refine (HJ _).mono ?_); rintro e w1 ⟨rfl, rfl⟩) | (go_at_call 95; (with_reducible refine (HE _).mono ?_); rintro e w1 ⟨rfl, rfl⟩))
          go_end0
          exact ⟨rfl, _, by rw [HG.out]; first | simpa only [hj, he, ↓reduceIte] using hA | simpa only [hj, he', ↓reduceIte, Bool.false_eq_true] using hA | simpa only [hj', he, ↓reduceIte, Bool.false_eq_true] using hA | simpa only [hj', he', ↓reduceIte, Bool.false_eq_true] using hA⟩
        · have he' : ends (P.op k) = false := by simpa using he
          rw [he'] at HE
          go_wp2_with (first | (go_at_call 94; (with_reducible refine (HM _).mono ?_); rintro e w1 ⟨rfl, rfl⟩; rw [HB.out]) | (go_at_call 52; (with_reducible refine (HJ _).mono ?_); rintro e w1 ⟨rfl, rfl⟩) | (go_at_call 95; (with_reducible refine (HE _).mono ?_); rintro e w1 ⟨rfl, rfl⟩) | (go_at_call 53; (with_reducible refine HA2.mono ?_); rintro e w3 ⟨rfl, y1, y2, ov3, y3⟩))
          go_end0
          exact ⟨rfl, _, by rw [HG.out]; first | simpa only [hj, he, ↓reduceIte] using y3 | simpa only [hj, he', ↓reduceIte, Bool.false_eq_true] using y3 | simpa only [hj', he, ↓reduceIte, Bool.false_eq_true] using y3 | simpa only [hj', he', ↓reduceIte, Bool.false_eq_true] using y3⟩
    · have hbt : bad = false := by rw [← hbad]; simp [hb1, hb2]
      subst hbt
      rw [if_neg (by simp)] at hd
      have hs1' : s = s1 := by rw [← hs1, Bool.or_false]
      subst hs1'
      have hA := hq
      have hbq := hbox
      have hsq := hsz
      obtain ⟨t0, t1, t2⟩ := cells3 hbq
      clear hs1 hbad hq
      by_cases hj : jmp (P.op k) = true
      · have HA1 := arrive_any w0 wb w0.heap.size sb db P.n cc (some ⟨cb, co, none⟩) s ov (P.a k).toNat d (hja.out hj).2 hn (by omega) (by omega) hA
        rw [(hja.out hj).1] at HA1
        rw [hj] at HJ
        by_cases he : ends (P.op k) = true
        · rw [he] at HE
          go_wp2_with (first | (go_at_call 94; (with_reducible refine (HM _).mono ?_); rintro e w1 ⟨rfl, rfl⟩; rw [HB.out]) | (go_at_call 52; (with_reducible refine (HJ _).mono ?_); rintro e w1 ⟨rfl, rfl⟩) | (go_at_call 95; (with_reducible refine (HE _).mono ?_); rintro e w1 ⟨rfl, rfl⟩) | (go_at_call 53; (with_reducible refine HA1.mono ?_); rintro e w2 ⟨rfl, z1, z2, ov2, z3⟩; have hbx2 := (z2 w.heap.size (by omega) (by omega) (by omega) hov).trans hbq; obtain ⟨v0, v1, v2⟩ := cells3 hbx2; have HA2 := arrive_any w0 w2 w0.heap.size sb db P.n cc (some ⟨cb, co, none⟩) _ ov2 (k + 1) d (by omega) hn (by have := arr_S (n := P.n) (s := s) (k := (P.a k).toNat) (d := d); omega) (by omega) z3; rw [cast1] at HA2; clear z2))
          go_end0
          exact ⟨rfl, _, by rw [HG.out]; first | simpa only [hj, he, ↓reduceIte] using z3 | simpa only [hj, he', ↓reduceIte, Bool.false_eq_true] using z3 | simpa only [hj', he, ↓reduceIte, Bool.false_eq_true] using z3 | simpa only [hj', he', ↓reduceIte, Bool.false_eq_true] using z3⟩
        · have he' : ends (P.op k) = false := by simpa using he
          rw [he'] at HE
          go_wp2_with (first | (go_at_call 94; (with_reducible refine (HM _).mono ?_); rintro e w1 ⟨rfl, rfl⟩; rw [HB.out]) | (go_at_call 52; (with_reducible refine (HJ _).mono ?_); rintro e w1 ⟨rfl, rfl⟩) | (go_at_call 95; (with_reducible refine (HE _).mono ?_); rintro e w1 ⟨rfl, rfl⟩) | (go_at_call 53; (with_reducible refine HA1.mono ?_); rintro e w2 ⟨rfl, z1, z2, ov2, z3⟩; have hbx2 := (z2 w.heap.size (by omega) (by omega) (by omega) hov).trans hbq; obtain ⟨v0, v1, v2⟩ := cells3 hbx2; have HA2 := arrive_any w0 w2 w0.heap.size sb db P.n cc (some ⟨cb, co, none⟩) _ ov2 (k + 1) d (by omega) hn (by have := arr_S (n := P.n) (s := s) (k := (P.a k).toNat) (d := d); omega) (by omega) z3; rw [cast1] at HA2; clear z2) | (go_at_call 53; (with_reducible refine HA2.mono ?_); rintro e w3 ⟨rfl, y1, y2, ov3, y3⟩))
          go_end0
          exact ⟨rfl, _, by rw [HG.out]; first | simpa only [hj, he, ↓reduceIte] using y3 | simpa only [hj, he', ↓reduceIte, Bool.false_eq_true] using y3 | simpa only [hj', he, ↓reduceIte, Bool.false_eq_true] using y3 | simpa only [hj', he', ↓reduceIte, Bool.false_eq_true] using y3⟩
      · have hj' : jmp (P.op k) = false := by simpa using hj
        have HA2 := arrive_any w0 wb w0.heap.size sb db P.n cc (some ⟨cb, co, none⟩) s ov (k + 1) d (by omega) hn (by omega) (by omega) hA
        rw [cast1] at HA2
        rw [hj'] at HJ
        by_cases he : ends (P.op k) = true
        · rw [he] at HE
          go_wp2_with (first | (go_at_call 94; (with_reducible refine (HM _).mono ?_); rintro e w1 ⟨rfl, rfl⟩; rw [HB.out]) | (go_at_call 52; (with_reducible refine (HJ _).mono ?_); rintro e w1 ⟨rfl, rfl⟩) | (go_at_call 95; (with_reducible refine (HE _).mono ?_); rintro e w1 ⟨rfl, rfl⟩))
          go_end0
          exact ⟨rfl, _, by rw [HG.out]; first | simpa only [hj, he, ↓reduceIte] using hA | simpa only [hj, he', ↓reduceIte, Bool.false_eq_true] using hA | simpa only [hj', he, ↓reduceIte, Bool.false_eq_true] using hA | simpa only [hj', he', ↓reduceIte, Bool.false_eq_true] using hA⟩
        · have he' : ends (P.op k) = false := by simpa using he
          rw [he'] at HE
          go_wp2_with (first | (go_at_call 94; (with_reducible refine (HM _).mono ?_); rintro e w1 ⟨rfl, rfl⟩; rw [HB.out]) | (go_at_call 52; (with_reducible refine (HJ _).mono ?_); rintro e w1 ⟨rfl, rfl⟩) | (go_at_call 95; (with_reducible refine (HE _).mono ?_); rintro e w1 ⟨rfl, rfl⟩) | (go_at_call 53; (with_reducible refine HA2.mono ?_); rintro e w3 ⟨rfl, y1, y2, ov3, y3⟩))
          go_end0
          exact ⟨rfl, _, by rw [HG.out]; first | simpa only [hj, he, ↓reduceIte] using y3 | simpa only [hj, he', ↓reduceIte, Bool.false_eq_true] using y3 | simpa only [hj', he, ↓reduceIte, Bool.false_eq_true] using y3 | simpa only [hj', he', ↓reduceIte, Bool.false_eq_true] using y3⟩
end Go.Proofs.YtopggemomcoalaaGreat
