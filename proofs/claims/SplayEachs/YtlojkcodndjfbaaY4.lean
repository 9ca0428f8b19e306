import Derived.Test.YtlojkcodndjfbaaY2
namespace Go.Proofs.Ytlojkcodndjfbaa
open Go.ChangeShapes Go.WideShapes Go.ChangeAt Go.RowKit
set_option linter.unusedVariables false

/-! ### open as it goes down -/
structure OI (t0 : Tr) (A0 A : Ar) (q r0 r1 l0 l1 : Nat) (t : Tr) (FL FR : Tr → Tr) (PL PR : List Nat) : Prop where
  lies : t.lies A.L A.R q
  lh : LH A.L A.R r0 l0 FL PL
  rh : RH A.L A.R r1 l1 FR PR
  ps : PL ++ (t.ps ++ PR) = t0.ps
  E : A.E = A0.E
  out : ∀ p, p ∉ t0.ps → A.L p = A0.L p ∧ A.R p = A0.R p
theorem OI.mem {t0 : Tr} {A0 A : Ar} {q r0 r1 l0 l1 : Nat} {t : Tr} {FL FR : Tr → Tr} {PL PR : List Nat} (h : OI t0 A0 A q r0 r1 l0 l1 t FL FR PL PR) {p : Nat} (hp : p ∈ PL ∨ p ∈ t.ps ∨ p ∈ PR) : p ∈ t0.ps := by
  rw [← h.ps]
  simpa using hp
theorem OI.l0in {t0 : Tr} {A0 A : Ar} {q r0 r1 l0 l1 : Nat} {t : Tr} {FL FR : Tr → Tr} {PL PR : List Nat} (h : OI t0 A0 A q r0 r1 l0 l1 t FL FR PL PR) (hl : l0 ≠ 0) : l0 ∈ PL := (h.lh.nz hl).1
theorem OI.l1in {t0 : Tr} {A0 A : Ar} {q r0 r1 l0 l1 : Nat} {t : Tr} {FL FR : Tr → Tr} {PL PR : List Nat} (h : OI t0 A0 A q r0 r1 l0 l1 t FL FR PL PR) (hl : l1 ≠ 0) : l1 ∈ PR := (h.rh.nz hl).1
theorem hR_ne {R : Nat → Nat} {last x p : Nat} (h : p ≠ last ∨ last = 0) : hR R last x p = R p := by
  unfold hR
  split
  · rfl
  · rename_i hl
    rcases h with h | h
    · exact upd_ne _ _ h
    · exact absurd h hl
theorem nd3 {l m r : List Nat} (h : (l ++ (m ++ r)).Nodup) : (∀ p ∈ l, p ∉ m ∧ p ∉ r) ∧ (∀ p ∈ m, p ∉ l ∧ p ∉ r) ∧ (∀ p ∈ r, p ∉ l ∧ p ∉ m) ∧ m.Nodup := by
  rw [List.nodup_append] at h
  obtain ⟨h1, h2, h3⟩ := h
  rw [List.nodup_append] at h2
  obtain ⟨h4, h5, h6⟩ := h2
  refine ⟨fun p hp => ⟨fun hm => h3 p hp p (by simp [hm]) rfl, fun hr => h3 p hp p (by simp [hr]) rfl⟩, fun p hp => ⟨fun hl => h3 p hl p (by simp [hp]) rfl, fun hr => h6 p hp p hr rfl⟩, fun p hp => ⟨fun hl => h3 p hl p (by simp [hp]) rfl, fun hm => h6 p hm p hp rfl⟩, h4⟩
theorem ndNode {a b : Tr} {x : Nat} (h : (Tr.node a x b).ps.Nodup) : x ∉ a.ps ∧ x ∉ b.ps ∧ (∀ p ∈ a.ps, p ∉ b.ps) ∧ a.ps.Nodup ∧ b.ps.Nodup := by
  simp only [Tr.ps] at h
  rw [List.nodup_append] at h
  obtain ⟨h1, h2, h3⟩ := h
  rw [List.nodup_cons] at h2
  exact ⟨fun hx => h3 x hx x (by simp) rfl, h2.1, fun p hp hb => h3 p hp p (by simp [hb]) rfl, h1, h2.2⟩
/-- x goes to the greater half; what was sought is less -/
theorem OI.mvR {t0 : Tr} {A0 A : Ar} {q r0 r1 l0 l1 : Nat} {a b : Tr} {x : Nat} {FL FR : Tr → Tr} {PL PR : List Nat} (h : OI t0 A0 A q r0 r1 l0 l1 (.node a x b) FL FR PL PR) (hnd : t0.ps.Nodup) (h00 : (0 : Nat) ∉ t0.ps) :
    OI t0 A0 { A with L := hR A.L l1 x } (A.L x) r0 (hRoot r1 l1 x) l0 x a FL (fun t => FR (.node t x b)) PL (x :: b.ps ++ PR) ∧ hR A.L l1 x x = A.L x := by
  obtain ⟨rfl, hx, ha, hb⟩ := h.lies
  have hn := hnd
  rw [← h.ps] at hn
  obtain ⟨d1, d2, d3, d4⟩ := nd3 hn
  obtain ⟨e1, e2, e3, e4, e5⟩ := ndNode d4
  have hl1 : ∀ p ∈ (Tr.node a q b).ps ++ PL, p ≠ l1 ∨ l1 = 0 := fun p hp => by
    by_cases hz : l1 = 0
    · exact .inr hz
    · refine .inl fun e => ?_
      have := h.l1in hz
      rcases List.mem_append.1 hp with hp | hp
      · exact (d2 p hp).2 (e ▸ this)
      · exact (d1 p hp).2 (e ▸ this)
  have hqe : hR A.L l1 q q = A.L q := hR_ne (hl1 q (by simp [Tr.ps]))
  refine ⟨⟨?_, ?_, ?_, ?_, h.E, fun p hp => ⟨?_, (h.out p hp).2⟩⟩, hqe⟩
  · exact Tr.lies_congr ha fun p hp => ⟨hR_ne (hl1 p (by simp [Tr.ps, hp])), rfl⟩
  · exact h.lh.congr fun p hp => ⟨hR_ne (hl1 p (by simp [hp])), fun _ => rfl⟩
  · exact h.rh.hang hb hx (d2 q (by simp [Tr.ps])).2 (fun p hp => (d2 p (by simp [Tr.ps, hp])).2) e2
  · rw [← h.ps]
    simp [Tr.ps]
  · rw [← (h.out p hp).1]
    refine hR_ne ?_
    by_cases hz : l1 = 0
    · exact .inr hz
    · exact .inl fun e => hp (e ▸ h.mem (.inr (.inr (h.l1in hz))))
theorem OI.mvL {t0 : Tr} {A0 A : Ar} {q r0 r1 l0 l1 : Nat} {a b : Tr} {x : Nat} {FL FR : Tr → Tr} {PL PR : List Nat} (h : OI t0 A0 A q r0 r1 l0 l1 (.node a x b) FL FR PL PR) (hnd : t0.ps.Nodup) (h00 : (0 : Nat) ∉ t0.ps) :
    OI t0 A0 { A with R := hR A.R l0 x } (A.R x) (hRoot r0 l0 x) r1 x l1 b (fun t => FL (.node a x t)) FR (PL ++ (a.ps ++ [x])) PR ∧ hR A.R l0 x x = A.R x := by
  obtain ⟨rfl, hx, ha, hb⟩ := h.lies
  have hn := hnd
  rw [← h.ps] at hn
  obtain ⟨d1, d2, d3, d4⟩ := nd3 hn
  obtain ⟨e1, e2, e3, e4, e5⟩ := ndNode d4
  have hl0 : ∀ p ∈ (Tr.node a q b).ps ++ PR, p ≠ l0 ∨ l0 = 0 := fun p hp => by
    by_cases hz : l0 = 0
    · exact .inr hz
    · refine .inl fun e => ?_
      have := h.l0in hz
      rcases List.mem_append.1 hp with hp | hp
      · exact (d2 p hp).1 (e ▸ this)
      · exact (d3 p hp).1 (e ▸ this)
  have hqe : hR A.R l0 q q = A.R q := hR_ne (hl0 q (by simp [Tr.ps]))
  refine ⟨⟨?_, ?_, ?_, ?_, h.E, fun p hp => ⟨(h.out p hp).1, ?_⟩⟩, hqe⟩
  · exact Tr.lies_congr hb fun p hp => ⟨rfl, hR_ne (hl0 p (by simp [Tr.ps, hp]))⟩
  · exact h.lh.hang ha hx (d2 q (by simp [Tr.ps])).1 (fun p hp => (d2 p (by simp [Tr.ps, hp])).1) e1
  · exact h.rh.congr fun p hp => ⟨hR_ne (hl0 p (by simp [hp])), fun _ => rfl⟩
  · rw [← h.ps]
    simp [Tr.ps]
  · rw [← (h.out p hp).2]
    refine hR_ne ?_
    by_cases hz : l0 = 0
    · exact .inr hz
    · exact .inl fun e => hp (e ▸ h.mem (.inl (h.l0in hz)))
theorem OI.turn0 {t0 : Tr} {A0 A : Ar} {q r0 r1 l0 l1 : Nat} {c d b : Tr} {x y : Nat} {FL FR : Tr → Tr} {PL PR : List Nat} (h : OI t0 A0 A q r0 r1 l0 l1 (.node (.node c y d) x b) FL FR PL PR) (hnd : t0.ps.Nodup) :
    OI t0 A0 { A with L := upd A.L x (A.R y), R := upd A.R y x } y r0 r1 l0 l1 (.node c y (.node d x b)) FL FR PL PR ∧ upd A.L x (A.R y) y = A.L y := by
  obtain ⟨rfl, hx, ⟨hy', hy, hc, hd⟩, hb⟩ := h.lies
  have hn := hnd
  rw [← h.ps] at hn
  obtain ⟨d1, d2, d3, d4⟩ := nd3 hn
  obtain ⟨e1, e2, e3, e4, e5⟩ := ndNode d4
  obtain ⟨f1, f2, f3, f4, f5⟩ := ndNode e4
  have hyq : y ≠ q := fun e => e1 (by rw [← e]; simp [Tr.ps])
  have hLy : upd A.L q (A.R y) y = A.L y := upd_ne _ _ hyq
  refine ⟨⟨⟨rfl, hy, ?_, ?_⟩, ?_, ?_, ?_, h.E, fun p hp => ?_⟩, hLy⟩
  · show c.lies _ _ (upd A.L q (A.R y) y)
    rw [hLy]
    exact Tr.lies_congr hc fun p hp => ⟨upd_ne _ _ fun e => e1 (by rw [← e]; simp [Tr.ps, hp]), upd_ne _ _ fun e => f1 (e ▸ hp)⟩
  · show (Tr.node d q b).lies _ _ (upd A.R y q y)
    rw [upd_at]
    refine ⟨rfl, hx, ?_, ?_⟩
    · show d.lies _ _ (upd A.L q (A.R y) q)
      rw [upd_at]
      exact Tr.lies_congr hd fun p hp => ⟨upd_ne _ _ fun e => e1 (by rw [← e]; simp [Tr.ps, hp]), upd_ne _ _ fun e => f2 (e ▸ hp)⟩
    · show b.lies _ _ (upd A.R y q q)
      rw [upd_ne _ _ (fun e => hyq e.symm)]
      exact Tr.lies_congr hb fun p hp => ⟨upd_ne _ _ fun e => e2 (e ▸ hp), upd_ne _ _ fun e => e3 y (by simp [Tr.ps]) (e ▸ hp)⟩
  · exact h.lh.congr fun p hp => ⟨upd_ne _ _ fun e => (d1 p hp).1 (by rw [e]; simp [Tr.ps]), fun _ => upd_ne _ _ fun e => (d1 p hp).1 (by rw [e]; simp [Tr.ps])⟩
  · exact h.rh.congr fun p hp => ⟨upd_ne _ _ fun e => (d3 p hp).2 (by rw [e]; simp [Tr.ps]), fun _ => upd_ne _ _ fun e => (d3 p hp).2 (by rw [e]; simp [Tr.ps])⟩
  · rw [← h.ps]
    simp [Tr.ps]
  · have m1 : q ∈ t0.ps := h.mem (.inr (.inl (by simp [Tr.ps])))
    have m2 : y ∈ t0.ps := h.mem (.inr (.inl (by simp [Tr.ps])))
    have k1 : p ≠ q := fun e => hp (e ▸ m1)
    have k2 : p ≠ y := fun e => hp (e ▸ m2)
    exact ⟨(upd_ne _ _ k1).trans (h.out p hp).1, (upd_ne _ _ k2).trans (h.out p hp).2⟩
theorem OI.turn1 {t0 : Tr} {A0 A : Ar} {q r0 r1 l0 l1 : Nat} {a c d : Tr} {x y : Nat} {FL FR : Tr → Tr} {PL PR : List Nat} (h : OI t0 A0 A q r0 r1 l0 l1 (.node a x (.node c y d)) FL FR PL PR) (hnd : t0.ps.Nodup) :
    OI t0 A0 { A with R := upd A.R x (A.L y), L := upd A.L y x } y r0 r1 l0 l1 (.node (.node a x c) y d) FL FR PL PR ∧ upd A.R x (A.L y) y = A.R y := by
  obtain ⟨rfl, hx, ha, ⟨hy', hy, hc, hd⟩⟩ := h.lies
  have hn := hnd
  rw [← h.ps] at hn
  obtain ⟨d1, d2, d3, d4⟩ := nd3 hn
  obtain ⟨e1, e2, e3, e4, e5⟩ := ndNode d4
  obtain ⟨f1, f2, f3, f4, f5⟩ := ndNode e5
  have hyq : y ≠ q := fun e => e2 (by rw [← e]; simp [Tr.ps])
  have hRy : upd A.R q (A.L y) y = A.R y := upd_ne _ _ hyq
  refine ⟨⟨⟨rfl, hy, ?_, ?_⟩, ?_, ?_, ?_, h.E, fun p hp => ?_⟩, hRy⟩
  · show (Tr.node a q c).lies _ _ (upd A.L y q y)
    rw [upd_at]
    refine ⟨rfl, hx, ?_, ?_⟩
    · show a.lies _ _ (upd A.L y q q)
      rw [upd_ne _ _ (fun e => hyq e.symm)]
      exact Tr.lies_congr ha fun p hp => ⟨upd_ne _ _ fun e => e3 p hp (by rw [e]; simp [Tr.ps]), upd_ne _ _ fun e => e1 (e ▸ hp)⟩
    · show c.lies _ _ (upd A.R q (A.L y) q)
      rw [upd_at]
      exact Tr.lies_congr hc fun p hp => ⟨upd_ne _ _ fun e => f1 (e ▸ hp), upd_ne _ _ fun e => e2 (by rw [← e]; simp [Tr.ps, hp])⟩
  · show d.lies _ _ (upd A.R q (A.L y) y)
    rw [hRy]
    exact Tr.lies_congr hd fun p hp => ⟨upd_ne _ _ fun e => f2 (e ▸ hp), upd_ne _ _ fun e => e2 (by rw [← e]; simp [Tr.ps, hp])⟩
  · exact h.lh.congr fun p hp => ⟨upd_ne _ _ fun e => (d1 p hp).1 (by rw [e]; simp [Tr.ps]), fun _ => upd_ne _ _ fun e => (d1 p hp).1 (by rw [e]; simp [Tr.ps])⟩
  · exact h.rh.congr fun p hp => ⟨upd_ne _ _ fun e => (d3 p hp).2 (by rw [e]; simp [Tr.ps]), fun _ => upd_ne _ _ fun e => (d3 p hp).2 (by rw [e]; simp [Tr.ps])⟩
  · rw [← h.ps]
    simp [Tr.ps]
  · have m1 : q ∈ t0.ps := h.mem (.inr (.inl (by simp [Tr.ps])))
    have m2 : y ∈ t0.ps := h.mem (.inr (.inl (by simp [Tr.ps])))
    have k1 : p ≠ q := fun e => hp (e ▸ m1)
    have k2 : p ≠ y := fun e => hp (e ▸ m2)
    exact ⟨(upd_ne _ _ k2).trans (h.out p hp).1, (upd_ne _ _ k1).trans (h.out p hp).2⟩
def Tr.lf : Tr → Tr
  | .nil => .nil
  | .node l _ _ => l
def Tr.rt : Tr → Tr
  | .nil => .nil
  | .node _ _ r => r
/-- both halves are shut -/
theorem OI.shut {t0 : Tr} {A0 A : Ar} {q r0 r1 l0 l1 : Nat} {t : Tr} {FL FR : Tr → Tr} {PL PR : List Nat} (h : OI t0 A0 A q r0 r1 l0 l1 t FL FR PL PR) (hnd : t0.ps.Nodup) (h00 : (0 : Nat) ∉ t0.ps) (hz : A0.L 0 = 0 ∧ A0.R 0 = 0) :
    (FL t.lf).lies (hR A.L l1 (A.R q)) (hR A.R l0 (A.L q)) (hRoot r0 l0 (A.L q)) ∧ (FR t.rt).lies (hR A.L l1 (A.R q)) (hR A.R l0 (A.L q)) (hRoot r1 l1 (A.R q)) ∧ (∀ p, p ∉ t0.ps → hR A.L l1 (A.R q) p = A0.L p ∧ hR A.R l0 (A.L q) p = A0.R p) := by
  have hn := hnd
  rw [← h.ps] at hn
  obtain ⟨d1, d2, d3, d4⟩ := nd3 hn
  have hlf : t.lf.lies A.L A.R (A.L q) ∧ t.rt.lies A.L A.R (A.R q) ∧ (∀ p ∈ t.lf.ps, p ∈ t.ps) ∧ (∀ p ∈ t.rt.ps, p ∈ t.ps) := by
    have hl := h.lies
    cases t with
    | nil =>
      have hq : q = 0 := hl
      subst hq
      exact ⟨(h.out 0 h00).1.trans hz.1, (h.out 0 h00).2.trans hz.2, fun p hp => hp, fun p hp => hp⟩
    | node a x b =>
      obtain ⟨rfl, _, ha, hb⟩ := hl
      exact ⟨ha, hb, fun p hp => (by simp [Tr.ps, Tr.lf] at hp ⊢; exact .inl hp), fun p hp => (by simp [Tr.ps, Tr.rt] at hp ⊢; exact .inr (.inr hp))⟩
  obtain ⟨g1, g2, g3, g4⟩ := hlf
  have k0 : ∀ p, p ∉ PL → p ≠ l0 ∨ l0 = 0 := fun p hp => by
    by_cases hz : l0 = 0
    · exact .inr hz
    · exact .inl fun e => hp (e ▸ h.l0in hz)
  have k1 : ∀ p, p ∉ PR → p ≠ l1 ∨ l1 = 0 := fun p hp => by
    by_cases hz : l1 = 0
    · exact .inr hz
    · exact .inl fun e => hp (e ▸ h.l1in hz)
  have n0 : l0 ∉ t.lf.ps := fun hm => by
    by_cases hz : l0 = 0
    · exact Tr.lies_ne g1 l0 hm hz
    · exact (d1 l0 (h.l0in hz)).1 (g3 l0 hm)
  have n1 : l1 ∉ t.rt.ps := fun hm => by
    by_cases hz : l1 = 0
    · exact Tr.lies_ne g2 l1 hm hz
    · exact (d3 l1 (h.l1in hz)).2 (g4 l1 hm)
  refine ⟨?_, ?_, fun p hp => ⟨?_, ?_⟩⟩
  · have s1 := h.lh.shut g1 n0
    refine Tr.lies_congr s1 fun p hp => ⟨hR_ne (k1 p ?_), rfl⟩
    rw [h.lh.ps] at hp
    rcases List.mem_append.1 hp with hp | hp
    · exact (d1 p hp).2
    · exact (d2 p (g3 p hp)).2
  · have hrh : RH A.L (hR A.R l0 (A.L q)) r1 l1 FR PR := h.rh.congr fun p hp => ⟨hR_ne (k0 p (d3 p hp).1), fun _ => rfl⟩
    have g2' : t.rt.lies A.L (hR A.R l0 (A.L q)) (A.R q) := Tr.lies_congr g2 fun p hp => ⟨rfl, hR_ne (k0 p (d2 p (g4 p hp)).1)⟩
    exact hrh.shut g2' n1
  · rw [← (h.out p hp).1]
    exact hR_ne (k1 p fun hm => hp (h.mem (.inr (.inr hm))))
  · rw [← (h.out p hp).2]
    exact hR_ne (k0 p fun hm => hp (h.mem (.inl hm)))
theorem openT_k (sd : Tr → Int) (hs : Side sd) : ∀ (n : Nat) (t : Tr), t.size ≤ n → (openT sd t).k + t.bit ≤ t.size
  | n, .nil, _ => by rw [openT_nil]; exact Nat.le_refl _
  | 0, .node a x b, h => by simp [Tr.size] at h
  | n + 1, .node a x b, hn => by
    simp only [Tr.size, Tr.bit] at hn ⊢
    rcases hs a x b with h | h | h
    · cases a with
      | nil => rw [openT_l h]; simp
      | node c y d =>
        simp only [Tr.size] at hn ⊢
        rcases hs c y d with h2 | h2 | h2
        · have ih := openT_k sd hs n c (by omega)
          rw [openT_ll h h2]; simp only []; omega
        · have ih := openT_k sd hs n d (by omega)
          rw [openT_lr h h2]; simp only []; omega
        · rw [openT_lh h h2]; simp only []; omega
    · cases b with
      | nil => rw [openT_r h]; simp
      | node c y d =>
        simp only [Tr.size] at hn ⊢
        rcases hs c y d with h2 | h2 | h2
        · have ih := openT_k sd hs n c (by omega)
          rw [openT_rl h h2]; simp only []; omega
        · have ih := openT_k sd hs n d (by omega)
          rw [openT_rr h h2]; simp only []; omega
        · rw [openT_rh h h2]; simp only []; omega
    · rw [openT_here h]; simp
end Go.Proofs.Ytlojkcodndjfbaa
