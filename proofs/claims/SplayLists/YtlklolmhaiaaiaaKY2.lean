import Derived.Test.YtlklolmhaiaaiaaKQ1
namespace Go.Proofs.Ytlklolmhaiaaiaa
open Go.ChangeShapes Go.WideShapes Go.ChangeAt Go.RowKit
set_option linter.unusedVariables false

/-! ### trees of places -/
inductive Tr where
  | nil : Tr
  | node (l : Tr) (p : Nat) (r : Tr) : Tr
def Tr.ps : Tr → List Nat
  | .nil => []
  | .node l p r => l.ps ++ p :: r.ps
def Tr.size : Tr → Nat
  | .nil => 0
  | .node l p r => l.size + r.size + 1
def Tr.bit : Tr → Nat
  | .nil => 0
  | .node _ _ _ => 1
def Tr.lies (L R : Nat → Nat) : Tr → Nat → Prop
  | .nil, q => q = 0
  | .node l p r, q => q = p ∧ p ≠ 0 ∧ l.lies L R (L p) ∧ r.lies L R (R p)
theorem Tr.size_ps : ∀ t : Tr, t.ps.length = t.size
  | .nil => rfl
  | .node l p r => by simp [Tr.ps, Tr.size, Tr.size_ps l, Tr.size_ps r]; omega
theorem Tr.lies_congr {L R L' R' : Nat → Nat} : ∀ {t : Tr} {q : Nat}, t.lies L R q → (∀ p, p ∈ t.ps → L' p = L p ∧ R' p = R p) → t.lies L' R' q
  | .nil, q, h, _ => h
  | .node l p r, q, h, hc => by
    obtain ⟨h1, h2, h3, h4⟩ := h
    have hp := hc p (by simp [Tr.ps])
    refine ⟨h1, h2, ?_, ?_⟩
    · rw [hp.1]; exact Tr.lies_congr h3 fun x hx => hc x (by simp [Tr.ps, hx])
    · rw [hp.2]; exact Tr.lies_congr h4 fun x hx => hc x (by simp [Tr.ps, hx])
theorem Tr.lies_ne {L R : Nat → Nat} : ∀ {t : Tr} {q : Nat}, t.lies L R q → ∀ p ∈ t.ps, p ≠ 0
  | .nil, q, h, p, hp => by simp [Tr.ps] at hp
  | .node l x r, q, h, p, hp => by
    obtain ⟨h1, h2, h3, h4⟩ := h
    simp only [Tr.ps, List.mem_append, List.mem_cons] at hp
    rcases hp with hp | hp | hp
    · exact Tr.lies_ne h3 p hp
    · rw [hp]; exact h2
    · exact Tr.lies_ne h4 p hp
theorem Tr.lies_zero {L R : Nat → Nat} {t : Tr} (h : t.lies L R 0) : t = .nil := by
  cases t with
  | nil => rfl
  | node l p r => exact absurd h.1.symm h.2.1
theorem Tr.lies_node {L R : Nat → Nat} {t : Tr} {q : Nat} (h : t.lies L R q) (hq : q ≠ 0) : ∃ l r, t = .node l q r ∧ l.lies L R (L q) ∧ r.lies L R (R q) := by
  cases t with
  | nil => exact absurd h hq
  | node l p r =>
    obtain ⟨rfl, h2, h3, h4⟩ := h
    exact ⟨l, r, rfl, h3, h4⟩
/-! ### the document's open -/
structure OT where
  a : Tr
  m : Nat
  b : Tr
  k : Nat
def openT (sd : Tr → Int) : Tr → OT
  | .nil => ⟨.nil, 0, .nil, 0⟩
  | .node a x b =>
    if sd (.node a x b) = 2 then ⟨a, x, b, 0⟩
    else if sd (.node a x b) = 0 then
      match a with
      | .nil => ⟨.nil, 0, .node .nil x b, 0⟩
      | .node c y d =>
        if sd (.node c y d) = 2 then ⟨c, y, .node d x b, 1⟩
        else if sd (.node c y d) = 0 then ⟨(openT sd c).a, (openT sd c).m, .node (openT sd c).b y (.node d x b), 1 + c.bit + (openT sd c).k⟩
        else ⟨.node c y (openT sd d).a, (openT sd d).m, .node (openT sd d).b x b, 1 + d.bit + (openT sd d).k⟩
    else
      match b with
      | .nil => ⟨.node a x .nil, 0, .nil, 0⟩
      | .node c y d =>
        if sd (.node c y d) = 2 then ⟨.node a x c, y, d, 1⟩
        else if sd (.node c y d) = 1 then ⟨.node (.node a x c) y (openT sd d).a, (openT sd d).m, (openT sd d).b, 1 + d.bit + (openT sd d).k⟩
        else ⟨.node a x (openT sd c).a, (openT sd c).m, .node (openT sd c).b y d, 1 + c.bit + (openT sd c).k⟩
theorem openT_nil (sd : Tr → Int) : openT sd .nil = ⟨.nil, 0, .nil, 0⟩ := by rw [openT]
theorem openT_here {sd : Tr → Int} {a b : Tr} {x : Nat} (h : sd (.node a x b) = 2) : openT sd (.node a x b) = ⟨a, x, b, 0⟩ := by
  rw [openT.eq_def]
  simp only [if_pos h]
theorem openT_l {sd : Tr → Int} {b : Tr} {x : Nat} (h : sd (.node .nil x b) = 0) : openT sd (.node .nil x b) = ⟨.nil, 0, .node .nil x b, 0⟩ := by
  rw [openT.eq_def]
  have h9 : ¬ (0 : Int) = 2 := by decide
  simp only [h, if_neg h9, if_true]
theorem openT_lh {sd : Tr → Int} {b c d : Tr} {x y : Nat} (h : sd (.node (.node c y d) x b) = 0) (h2 : sd (.node c y d) = 2) : openT sd (.node (.node c y d) x b) = ⟨c, y, .node d x b, 1⟩ := by
  rw [openT.eq_def]
  have h9 : ¬ (0 : Int) = 2 := by decide
  simp only [h, if_neg h9, if_true]
  simp only [h2, if_true]
theorem openT_ll {sd : Tr → Int} {b c d : Tr} {x y : Nat} (h : sd (.node (.node c y d) x b) = 0) (h2 : sd (.node c y d) = 0) : openT sd (.node (.node c y d) x b) = ⟨(openT sd c).a, (openT sd c).m, .node (openT sd c).b y (.node d x b), 1 + c.bit + (openT sd c).k⟩ := by
  rw [openT.eq_def]
  have h9 : ¬ (0 : Int) = 2 := by decide
  simp only [h, if_neg h9, if_true]
  have g9 : ¬ sd (.node c y d) = 2 := by omega
  simp only [if_neg g9, if_pos h2]
theorem openT_lr {sd : Tr → Int} {b c d : Tr} {x y : Nat} (h : sd (.node (.node c y d) x b) = 0) (h2 : sd (.node c y d) = 1) : openT sd (.node (.node c y d) x b) = ⟨.node c y (openT sd d).a, (openT sd d).m, .node (openT sd d).b x b, 1 + d.bit + (openT sd d).k⟩ := by
  rw [openT.eq_def]
  have h9 : ¬ (0 : Int) = 2 := by decide
  simp only [h, if_neg h9, if_true]
  have g9 : ¬ sd (.node c y d) = 2 := by omega
  have g8 : ¬ sd (.node c y d) = 0 := by omega
  simp only [if_neg g9, if_neg g8]
theorem openT_r {sd : Tr → Int} {a : Tr} {x : Nat} (h : sd (.node a x .nil) = 1) : openT sd (.node a x .nil) = ⟨.node a x .nil, 0, .nil, 0⟩ := by
  rw [openT.eq_def]
  have h9 : ¬ (1 : Int) = 2 := by decide
  have h8 : ¬ (1 : Int) = 0 := by decide
  simp only [h, if_neg h9, if_neg h8]
theorem openT_rh {sd : Tr → Int} {a c d : Tr} {x y : Nat} (h : sd (.node a x (.node c y d)) = 1) (h2 : sd (.node c y d) = 2) : openT sd (.node a x (.node c y d)) = ⟨.node a x c, y, d, 1⟩ := by
  rw [openT.eq_def]
  have h9 : ¬ (1 : Int) = 2 := by decide
  have h8 : ¬ (1 : Int) = 0 := by decide
  simp only [h, if_neg h9, if_neg h8]
  simp only [h2, if_true]
theorem openT_rr {sd : Tr → Int} {a c d : Tr} {x y : Nat} (h : sd (.node a x (.node c y d)) = 1) (h2 : sd (.node c y d) = 1) : openT sd (.node a x (.node c y d)) = ⟨.node (.node a x c) y (openT sd d).a, (openT sd d).m, (openT sd d).b, 1 + d.bit + (openT sd d).k⟩ := by
  rw [openT.eq_def]
  have h9 : ¬ (1 : Int) = 2 := by decide
  have h8 : ¬ (1 : Int) = 0 := by decide
  simp only [h, if_neg h9, if_neg h8]
  have g9 : ¬ sd (.node c y d) = 2 := by omega
  simp only [if_neg g9, if_pos h2]
theorem openT_rl {sd : Tr → Int} {a c d : Tr} {x y : Nat} (h : sd (.node a x (.node c y d)) = 1) (h2 : sd (.node c y d) = 0) : openT sd (.node a x (.node c y d)) = ⟨.node a x (openT sd c).a, (openT sd c).m, .node (openT sd c).b y d, 1 + c.bit + (openT sd c).k⟩ := by
  rw [openT.eq_def]
  have h9 : ¬ (1 : Int) = 2 := by decide
  have h8 : ¬ (1 : Int) = 0 := by decide
  simp only [h, if_neg h9, if_neg h8]
  have g9 : ¬ sd (.node c y d) = 2 := by omega
  have g8 : ¬ sd (.node c y d) = 1 := by omega
  simp only [if_neg g9, if_neg g8]
def Side (sd : Tr → Int) : Prop := ∀ l p r, sd (.node l p r) = 0 ∨ sd (.node l p r) = 1 ∨ sd (.node l p r) = 2
def mid (m : Nat) : List Nat := if m = 0 then [] else [m]
theorem mid0 : mid 0 = [] := rfl
theorem midn {m : Nat} (h : m ≠ 0) : mid m = [m] := if_neg h
/-- the order of the places is kept -/
theorem openT_ps {sd : Tr → Int} (hs : Side sd) : ∀ (n : Nat) (t : Tr), t.size ≤ n → (∀ p ∈ t.ps, p ≠ 0) → (openT sd t).a.ps ++ mid (openT sd t).m ++ (openT sd t).b.ps = t.ps
  | n, .nil, _, _ => by rw [openT_nil]; rfl
  | 0, .node a x b, h, _ => by simp [Tr.size] at h
  | n + 1, .node a x b, hn, hp => by
    have hx : x ≠ 0 := hp x (by simp [Tr.ps])
    simp only [Tr.size] at hn
    rcases hs a x b with h | h | h
    · cases a with
      | nil => rw [openT_l h]; rfl
      | node c y d =>
        simp only [Tr.size] at hn
        have hy : y ≠ 0 := hp y (by simp [Tr.ps])
        rcases hs c y d with h2 | h2 | h2
        · have ih := openT_ps hs n c (by omega) (fun p hq => hp p (by simp [Tr.ps, hq]))
          rw [openT_ll h h2]
          simp only [Tr.ps]
          rw [← ih]
          simp
        · have ih := openT_ps hs n d (by omega) (fun p hq => hp p (by simp [Tr.ps, hq]))
          rw [openT_lr h h2]
          simp only [Tr.ps]
          rw [← ih]
          simp
        · rw [openT_lh h h2]
          simp [Tr.ps, midn hy]
    · cases b with
      | nil => rw [openT_r h]; simp [Tr.ps, mid0]
      | node c y d =>
        simp only [Tr.size] at hn
        have hy : y ≠ 0 := hp y (by simp [Tr.ps])
        rcases hs c y d with h2 | h2 | h2
        · have ih := openT_ps hs n c (by omega) (fun p hq => hp p (by simp [Tr.ps, hq]))
          rw [openT_rl h h2]
          simp only [Tr.ps]
          rw [← ih]
          simp
        · have ih := openT_ps hs n d (by omega) (fun p hq => hp p (by simp [Tr.ps, hq]))
          rw [openT_rr h h2]
          simp only [Tr.ps]
          rw [← ih]
          simp
        · rw [openT_rh h h2]
          simp [Tr.ps, midn hy]
    · rw [openT_here h]
      simp [Tr.ps, midn hx]
/-! ### the two halves as they are built: trees with a hole -/
def upd (F : Nat → Nat) (i v : Nat) : Nat → Nat := fun j => if j = i then v else F j
theorem upd_at (F : Nat → Nat) (i v : Nat) : upd F i v i = v := if_pos rfl
theorem upd_ne (F : Nat → Nat) {i j : Nat} (v : Nat) (h : j ≠ i) : upd F i v j = F j := if_neg h
/-- the lesser half: its root, its last node, what it makes of a tree hung below the last one; its places -/
structure LH (L R : Nat → Nat) (root last : Nat) (F : Tr → Tr) (P : List Nat) : Prop where
  z : last = 0 → (∀ t, F t = t) ∧ P = []
  nz : last ≠ 0 → last ∈ P ∧ ∀ L' R' : Nat → Nat, (∀ p ∈ P, L' p = L p ∧ (p ≠ last → R' p = R p)) → ∀ t : Tr, t.lies L' R' (R' last) → (F t).lies L' R' root
  ps : ∀ t, (F t).ps = P ++ t.ps
structure RH (L R : Nat → Nat) (root last : Nat) (F : Tr → Tr) (P : List Nat) : Prop where
  z : last = 0 → (∀ t, F t = t) ∧ P = []
  nz : last ≠ 0 → last ∈ P ∧ ∀ L' R' : Nat → Nat, (∀ p ∈ P, R' p = R p ∧ (p ≠ last → L' p = L p)) → ∀ t : Tr, t.lies L' R' (L' last) → (F t).lies L' R' root
  ps : ∀ t, (F t).ps = t.ps ++ P
theorem LH.start (L R : Nat → Nat) : LH L R 0 0 id [] := ⟨fun _ => ⟨fun _ => rfl, rfl⟩, fun h => absurd rfl h, fun _ => rfl⟩
theorem RH.start (L R : Nat → Nat) : RH L R 0 0 id [] := ⟨fun _ => ⟨fun _ => rfl, rfl⟩, fun h => absurd rfl h, fun t => by simp⟩
theorem LH.congr {L R L' R' : Nat → Nat} {root last : Nat} {F : Tr → Tr} {P : List Nat} (h : LH L R root last F P) (hc : ∀ p ∈ P, L' p = L p ∧ (p ≠ last → R' p = R p)) : LH L' R' root last F P :=
  ⟨h.z, fun hl => ⟨(h.nz hl).1, fun L2 R2 h2 t ht => (h.nz hl).2 L2 R2 (fun p hp => ⟨(h2 p hp).1.trans (hc p hp).1, fun hq => ((h2 p hp).2 hq).trans ((hc p hp).2 hq)⟩) t ht⟩, h.ps⟩
theorem RH.congr {L R L' R' : Nat → Nat} {root last : Nat} {F : Tr → Tr} {P : List Nat} (h : RH L R root last F P) (hc : ∀ p ∈ P, R' p = R p ∧ (p ≠ last → L' p = L p)) : RH L' R' root last F P :=
  ⟨h.z, fun hl => ⟨(h.nz hl).1, fun L2 R2 h2 t ht => (h.nz hl).2 L2 R2 (fun p hp => ⟨(h2 p hp).1.trans (hc p hp).1, fun hq => ((h2 p hp).2 hq).trans ((hc p hp).2 hq)⟩) t ht⟩, h.ps⟩
def hR (R : Nat → Nat) (last x : Nat) : Nat → Nat := if last = 0 then R else upd R last x
def hRoot (root last x : Nat) : Nat := if last = 0 then x else root
/-- a node x with its lesser tree a is hung on the lesser half -/
theorem LH.hang {L R : Nat → Nat} {root last : Nat} {F : Tr → Tr} {P : List Nat} (h : LH L R root last F P) {a : Tr} {x : Nat} (ha : a.lies L R (L x)) (hx : x ≠ 0) (hxP : x ∉ P) (haP : ∀ p ∈ a.ps, p ∉ P) (hxa : x ∉ a.ps) :
    LH L (hR R last x) (hRoot root last x) x (fun t => F (.node a x t)) (P ++ (a.ps ++ [x])) := by
  refine ⟨fun e => absurd e hx, fun _ => ⟨by simp, fun L' R' hc t ht => ?_⟩, fun t => ?_⟩
  · have hcx := hc x (by simp)
    have hn : (Tr.node a x t).lies L' R' x := by
      refine ⟨rfl, hx, ?_, ht⟩
      rw [hcx.1]
      refine Tr.lies_congr ha fun p hp => ?_
      have h1 := hc p (by simp [hp])
      have hpx : p ≠ x := fun e => hxa (e ▸ hp)
      refine ⟨h1.1, (h1.2 hpx).trans ?_⟩
      unfold hR
      split
      · rfl
      · rename_i hl
        exact upd_ne _ _ fun e => haP p hp (e ▸ (h.nz hl).1)
    by_cases hl : last = 0
    · show (F (.node a x t)).lies L' R' (hRoot root last x)
      rw [(h.z hl).1]
      unfold hRoot
      rw [if_pos hl]
      exact hn
    · show (F (.node a x t)).lies L' R' (hRoot root last x)
      unfold hRoot
      rw [if_neg hl]
      have hlx : last ≠ x := fun e => hxP (e ▸ (h.nz hl).1)
      refine (h.nz hl).2 L' R' (fun p hp => ?_) _ ?_
      · have h1 := hc p (by simp [hp])
        refine ⟨h1.1, fun hpl => (h1.2 fun e => hxP (e ▸ hp)).trans ?_⟩
        unfold hR
        rw [if_neg hl]
        exact upd_ne _ _ hpl
      · have h1 := (hc last (by simp [(h.nz hl).1])).2 hlx
        rw [h1]
        unfold hR
        rw [if_neg hl, upd_at]
        exact hn
  · rw [h.ps]
    simp [Tr.ps]
theorem RH.hang {L R : Nat → Nat} {root last : Nat} {F : Tr → Tr} {P : List Nat} (h : RH L R root last F P) {b : Tr} {x : Nat} (hb : b.lies L R (R x)) (hx : x ≠ 0) (hxP : x ∉ P) (hbP : ∀ p ∈ b.ps, p ∉ P) (hxb : x ∉ b.ps) :
    RH (hR L last x) R (hRoot root last x) x (fun t => F (.node t x b)) (x :: b.ps ++ P) := by
  refine ⟨fun e => absurd e hx, fun _ => ⟨by simp, fun L' R' hc t ht => ?_⟩, fun t => ?_⟩
  · have hcx := hc x (by simp)
    have hn : (Tr.node t x b).lies L' R' x := by
      refine ⟨rfl, hx, ht, ?_⟩
      rw [hcx.1]
      refine Tr.lies_congr hb fun p hp => ?_
      have h1 := hc p (by simp [hp])
      have hpx : p ≠ x := fun e => hxb (e ▸ hp)
      refine ⟨(h1.2 hpx).trans ?_, h1.1⟩
      unfold hR
      split
      · rfl
      · rename_i hl
        exact upd_ne _ _ fun e => hbP p hp (e ▸ (h.nz hl).1)
    by_cases hl : last = 0
    · show (F (.node t x b)).lies L' R' (hRoot root last x)
      rw [(h.z hl).1]
      unfold hRoot
      rw [if_pos hl]
      exact hn
    · show (F (.node t x b)).lies L' R' (hRoot root last x)
      unfold hRoot
      rw [if_neg hl]
      have hlx : last ≠ x := fun e => hxP (e ▸ (h.nz hl).1)
      refine (h.nz hl).2 L' R' (fun p hp => ?_) _ ?_
      · have h1 := hc p (by simp [hp])
        refine ⟨h1.1, fun hpl => (h1.2 fun e => hxP (e ▸ hp)).trans ?_⟩
        unfold hR
        rw [if_neg hl]
        exact upd_ne _ _ hpl
      · have h1 := (hc last (by simp [(h.nz hl).1])).2 hlx
        rw [h1]
        unfold hR
        rw [if_neg hl, upd_at]
        exact hn
  · rw [h.ps]
    simp [Tr.ps]
/-- the last tree is hung on -/
theorem LH.shut {L R : Nat → Nat} {root last : Nat} {F : Tr → Tr} {P : List Nat} (h : LH L R root last F P) {a : Tr} {q : Nat} (ha : a.lies L R q) (haP : last ∉ a.ps) : (F a).lies L (hR R last q) (hRoot root last q) := by
  by_cases hl : last = 0
  · rw [(h.z hl).1]
    unfold hR hRoot
    rw [if_pos hl, if_pos hl]
    exact ha
  · unfold hR hRoot
    rw [if_neg hl, if_neg hl]
    refine (h.nz hl).2 _ _ (fun p hp => ⟨rfl, fun hpl => upd_ne _ _ hpl⟩) _ ?_
    rw [upd_at]
    exact Tr.lies_congr ha fun p hp => ⟨rfl, upd_ne _ _ fun e => haP (e ▸ hp)⟩
theorem RH.shut {L R : Nat → Nat} {root last : Nat} {F : Tr → Tr} {P : List Nat} (h : RH L R root last F P) {b : Tr} {q : Nat} (hb : b.lies L R q) (hbP : last ∉ b.ps) : (F b).lies (hR L last q) R (hRoot root last q) := by
  by_cases hl : last = 0
  · rw [(h.z hl).1]
    unfold hR hRoot
    rw [if_pos hl, if_pos hl]
    exact hb
  · unfold hR hRoot
    rw [if_neg hl, if_neg hl]
    refine (h.nz hl).2 _ _ (fun p hp => ⟨rfl, fun hpl => upd_ne _ _ hpl⟩) _ ?_
    rw [upd_at]
    exact Tr.lies_congr hb fun p hp => ⟨upd_ne _ _ fun e => hbP (e ▸ hp), rfl⟩
end Go.Proofs.Ytlklolmhaiaaiaa
namespace Go.Proofs.Ytlklolmhaiaaiaa
open Go.ChangeShapes Go.WideShapes Go.ChangeAt Go.RowKit
set_option linter.unusedVariables false

/-! ### the arena as it lies -/
structure Ev where
  t : Int
  s : Int
  q : Int
  d : Int
  k : Int
  v : Int
def ev0 : Ev := ⟨0, 0, 0, 0, 0, 0⟩
structure Ar where
  E : Nat → Ev
  L : Nat → Nat
  R : Nat → Nat
def ndC (e : Ev) (l r : Nat) (x : Nat) : Value :=
  match x with
  | 0 => .int .u64 e.t
  | 1 => .int .i64 e.s
  | 2 => .int .u64 e.q
  | 3 => .int .i64 e.d
  | 4 => .int .i64 e.k
  | 5 => .int .i64 e.v
  | 6 => .int .i64 (l : Int)
  | _ => .int .i64 (r : Int)
def ndF (A : Ar) (x : Nat) : Value := ndC (A.E (x / 8)) (A.L (x / 8)) (A.R (x / 8)) (x % 8)
def qF (qv : Value) (free root size room work : Int) (x : Nat) : Value :=
  match x with
  | 0 => qv
  | 1 => .int .i64 free
  | 2 => .int .i64 root
  | 3 => .int .i64 size
  | 4 => .int .i64 room
  | _ => .int .i64 work
structure QW (W : World) (base qb g c n : Nat) (A : Ar) (free root size room work : Int) : Prop where
  box : Own W base 58 6 (.slice (some ⟨qb, 0, none⟩) 1 1) 1 (qF (.slice (some ⟨g, 0, none⟩) n c) free root size room work)
  row : Own W base 67 8 (.slice (some ⟨g, 0, none⟩) n c) n (ndF A)
  ne : g ≠ qb
/-- all blocks but these stay -/
structure Ch (S : Nat → Prop) (W W' : World) : Prop where
  os : W'.os = W.os
  tape : W'.tape = W.tape
  output : W'.output = W.output
  size : W.heap.size ≤ W'.heap.size
  block : ∀ k, k < W.heap.size → ¬ S k → W'.heap[k]? = W.heap[k]?
theorem Ch.refl (S : Nat → Prop) (W : World) : Ch S W W := ⟨rfl, rfl, rfl, Nat.le_refl _, fun _ _ _ => rfl⟩
theorem Ch.trans {S : Nat → Prop} {a b c : World} (h : Ch S a b) (h' : Ch S b c) : Ch S a c := ⟨h'.os.trans h.os, h'.tape.trans h.tape, h'.output.trans h.output, Nat.le_trans h.size h'.size, fun k hk hs => (h'.block k (Nat.lt_of_lt_of_le hk h.size) hs).trans (h.block k hk hs)⟩
theorem Ch.mono {S S' : Nat → Prop} {a b : World} (h : Ch S a b) (hs : ∀ k, S k → S' k) : Ch S' a b := ⟨h.os, h.tape, h.output, h.size, fun k hk h' => h.block k hk fun e => h' (hs k e)⟩
theorem Ch.set (S : Nat → Prop) (W : World) (b k : Nat) (v : Value) (h : S b) : Ch S W (W.setCell ⟨b, k, none⟩ v) := ⟨rfl, rfl, rfl, by simp [World.setCell], fun j _ hs => Below.heap_setCell _ _ _ _ fun e => hs (by show S j; rw [show j = b from e]; exact h)⟩
theorem Ch.below {S : Nat → Prop} {W W' : World} (h : Below W.heap.size W W') : Ch S W W' := ⟨h.os, h.tape, h.output, h.size, fun k hk _ => h.block k hk⟩
theorem Ch.drew (S : Nat → Prop) (W : World) (n : Nat) : Ch S W (W.drewN n) := Ch.below (below_drewNq _ _ _)
theorem Ch.toBelow {S : Nat → Prop} {W W' : World} {B : Nat} (h : Ch S W W') (hB : B ≤ W.heap.size) (hs : ∀ k, S k → B ≤ k) : Below B W W' := ⟨h.os, h.tape, h.output, h.size, fun k hk => h.block k (by omega) fun e => by have := hs k e; omega⟩
theorem QW.lt {W : World} {base qb g c n : Nat} {A : Ar} {f r s m k : Int} (h : QW W base qb g c n A f r s m k) : (qb < W.heap.size ∧ base ≤ qb) ∧ g < W.heap.size ∧ base ≤ g := ⟨⟨(Own.lt h.box qb rfl).2, (Own.lt h.box qb rfl).1⟩, (Own.lt h.row g rfl).2, (Own.lt h.row g rfl).1⟩
theorem QW.later {W W' : World} {base qb g c n : Nat} {A : Ar} {f r s m k : Int} (h : QW W base qb g c n A f r s m k) (hb : Below W.heap.size W W') : QW W' base qb g c n A f r s m k := ⟨h.box.later hb, h.row.later hb, h.ne⟩
theorem QW.keep {W W' : World} {base qb g c n : Nat} {A : Ar} {f r s m k : Int} (h : QW W base qb g c n A f r s m k) {S : Nat → Prop} (hc : Ch S W W') (h1 : ¬ S qb) (h2 : ¬ S g) : QW W' base qb g c n A f r s m k := ⟨h.box.far fun k e => by cases e; exact hc.block _ h.lt.1.1 h1, h.row.far fun k e => by cases e; exact hc.block _ h.lt.2.1 h2, h.ne⟩
theorem QW.cap {W : World} {base qb g c n : Nat} {A : Ar} {f r s m k : Int} (h : QW W base qb g c n A f r s m k) : n ≤ c ∧ c ≤ maxLen := by
  obtain ⟨cur, _, _, h1, h2, _⟩ := h.row.block
  exact ⟨h1, h2⟩
theorem QW.cells {W : World} {base qb g c n : Nat} {A : Ar} {f r s m k : Int} (h : QW W base qb g c n A f r s m k) : W.cell? ⟨qb, 0, none⟩ = some (.slice (some ⟨g, 0, none⟩) n c) ∧ W.cell? ⟨qb, 1, none⟩ = some (.int .i64 f) ∧ W.cell? ⟨qb, 2, none⟩ = some (.int .i64 r) ∧ W.cell? ⟨qb, 3, none⟩ = some (.int .i64 s) ∧ W.cell? ⟨qb, 4, none⟩ = some (.int .i64 m) ∧ W.cell? ⟨qb, 5, none⟩ = some (.int .i64 k) :=
  ⟨h.box.cell (by decide), h.box.cell (by decide), h.box.cell (by decide), h.box.cell (by decide), h.box.cell (by decide), h.box.cell (by decide)⟩
theorem ndF_at (A : Ar) (p r : Nat) (h : r < 8) : ndF A (p * 8 + r) = ndC (A.E p) (A.L p) (A.R p) r := by
  unfold ndF
  rw [show (p * 8 + r) / 8 = p by omega, show (p * 8 + r) % 8 = r by omega]
theorem QW.nd {W : World} {base qb g c n : Nat} {A : Ar} {f r s m k : Int} (h : QW W base qb g c n A f r s m k) {p : Nat} (hp : p < n) (x : Nat) (hx : x < 8) : W.cell? ⟨g, p * 8 + x, none⟩ = some (ndC (A.E p) (A.L p) (A.R p) x) := by
  rw [h.row.cell (j := p * 8 + x) (by omega), ndF_at _ _ _ hx]
theorem own_frozen {W : World} {base : Nat} {t : TypeId} {s b m c : Nat} {F : Nat → Value} (h : Own W base t s (.slice (some ⟨b, 0, none⟩) m c) m F) (k : Nat) : W.frozen? ⟨b, k, none⟩ = false := by
  obtain ⟨cur, h1, _⟩ := Own.block h
  simp [World.frozen?, h1]
/-- one cell of a row written -/
theorem own_put {W : World} {base : Nat} {t : TypeId} {s b m c : Nat} {F G : Nat → Value} (h : Own W base t s (.slice (some ⟨b, 0, none⟩) m c) m F) (k : Nat) (v : Value) (hv : G k = v) (he : ∀ j, j < m * s → j ≠ k → F j = G j) : Own (W.setCell ⟨b, k, none⟩ v) base t s (.slice (some ⟨b, 0, none⟩) m c) m G := by
  refine Own.congr (Own.put h k [v]) fun j hj => ?_
  unfold putF
  by_cases e : j = k
  · subst e
    rw [if_pos (by simp)]
    simp [hv]
  · rw [if_neg (by simp; omega)]
    exact he j hj e
theorem own_other {W : World} {base : Nat} {t : TypeId} {s b m c : Nat} {F : Nat → Value} (h : Own W base t s (.slice (some ⟨b, 0, none⟩) m c) m F) (b' k : Nat) (v : Value) (hne : b ≠ b') : Own (W.setCell ⟨b', k, none⟩ v) base t s (.slice (some ⟨b, 0, none⟩) m c) m F := h.far fun k e => by cases e; exact Below.heap_setCell _ _ _ _ hne
theorem QW.setR {W : World} {base qb g c n : Nat} {A : Ar} {f r s m k : Int} (h : QW W base qb g c n A f r s m k) (p x : Nat) : QW (W.setCell ⟨g, p * 8 + 7, none⟩ (.int .i64 (x : Int))) base qb g c n { A with R := upd A.R p x } f r s m k := by
  refine ⟨own_other h.box _ _ _ fun e => h.ne e.symm, own_put h.row _ _ ?_ fun j hj hne => ?_, h.ne⟩
  · rw [ndF_at _ _ _ (by decide)]; simp [ndC, upd_at]
  · obtain ⟨i, y, hy, rfl⟩ : ∃ i y, y < 8 ∧ j = i * 8 + y := ⟨j / 8, j % 8, by omega, by omega⟩
    rw [ndF_at _ _ _ hy, ndF_at _ _ _ hy]
    by_cases hi : i = p
    · subst hi
      have : y = 0 ∨ y = 1 ∨ y = 2 ∨ y = 3 ∨ y = 4 ∨ y = 5 ∨ y = 6 := by omega
      rcases this with rfl | rfl | rfl | rfl | rfl | rfl | rfl <;> rfl
    · simp only [upd_ne _ _ hi]
theorem QW.setL {W : World} {base qb g c n : Nat} {A : Ar} {f r s m k : Int} (h : QW W base qb g c n A f r s m k) (p x : Nat) : QW (W.setCell ⟨g, p * 8 + 6, none⟩ (.int .i64 (x : Int))) base qb g c n { A with L := upd A.L p x } f r s m k := by
  refine ⟨own_other h.box _ _ _ fun e => h.ne e.symm, own_put h.row _ _ ?_ fun j hj hne => ?_, h.ne⟩
  · rw [ndF_at _ _ _ (by decide)]; simp [ndC, upd_at]
  · obtain ⟨i, y, hy, rfl⟩ : ∃ i y, y < 8 ∧ j = i * 8 + y := ⟨j / 8, j % 8, by omega, by omega⟩
    rw [ndF_at _ _ _ hy, ndF_at _ _ _ hy]
    by_cases hi : i = p
    · subst hi
      have : y = 0 ∨ y = 1 ∨ y = 2 ∨ y = 3 ∨ y = 4 ∨ y = 5 ∨ y = 7 := by omega
      rcases this with rfl | rfl | rfl | rfl | rfl | rfl | rfl <;> rfl
    · simp only [upd_ne _ _ hi]
theorem QW.setBox {W : World} {base qb g c n : Nat} {A : Ar} {f r s m k : Int} (h : QW W base qb g c n A f r s m k) (x : Nat) (y : Int) (f' r' s' m' k' : Int) (hv : qF (.slice (some ⟨g, 0, none⟩) n c) f' r' s' m' k' x = .int .i64 y) (he : ∀ j, j < 6 → j ≠ x → qF (.slice (some ⟨g, 0, none⟩) n c) f r s m k j = qF (.slice (some ⟨g, 0, none⟩) n c) f' r' s' m' k' j) : QW (W.setCell ⟨qb, x, none⟩ (.int .i64 y)) base qb g c n A f' r' s' m' k' :=
  ⟨own_put h.box _ _ hv fun j hj hne => he j (by omega) hne, own_other h.row _ _ _ h.ne, h.ne⟩
/-! ### the halves -/
def HBx (W : World) (hb : Nat) (r0 r1 l0 l1 : Nat) : Prop := W.heap[hb]? = some (.cells #[.int .i64 (r0 : Int), .int .i64 (r1 : Int), .int .i64 (l0 : Int), .int .i64 (l1 : Int)] 113 (0, 0))
theorem HBx.cells {W : World} {hb r0 r1 l0 l1 : Nat} (h : HBx W hb r0 r1 l0 l1) : W.cell? ⟨hb, 0, none⟩ = some (.int .i64 (r0 : Int)) ∧ W.cell? ⟨hb, 1, none⟩ = some (.int .i64 (r1 : Int)) ∧ W.cell? ⟨hb, 2, none⟩ = some (.int .i64 (l0 : Int)) ∧ W.cell? ⟨hb, 3, none⟩ = some (.int .i64 (l1 : Int)) := by
  unfold HBx at h
  refine ⟨?_, ?_, ?_, ?_⟩
  all_goals (unfold World.cell?; rw [h]; rfl)
theorem HBx.frz {W : World} {hb r0 r1 l0 l1 : Nat} (h : HBx W hb r0 r1 l0 l1) (k : Nat) : W.frozen? ⟨hb, k, none⟩ = false := by
  unfold HBx at h
  simp [World.frozen?, h]
theorem HBx.lt {W : World} {hb r0 r1 l0 l1 : Nat} (h : HBx W hb r0 r1 l0 l1) : hb < W.heap.size := lt_of_block h
def S2 (qb g : Nat) : Nat → Prop := fun k => k = qb ∨ k = g
def S3 (qb g hb : Nat) : Nat → Prop := fun k => k = qb ∨ k = g ∨ k = hb
theorem HBx.keep {W W' : World} {hb r0 r1 l0 l1 : Nat} {S : Nat → Prop} (h : HBx W hb r0 r1 l0 l1) (hc : Ch S W W') (hs : ¬ S hb) : HBx W' hb r0 r1 l0 l1 := (hc.block hb h.lt hs).trans h
theorem HBx.set {W : World} {hb r0 r1 l0 l1 : Nat} (h : HBx W hb r0 r1 l0 l1) (x : Nat) : HBx (W.setCell ⟨hb, 0, none⟩ (.int .i64 (x : Int))) hb x r1 l0 l1 ∧ HBx (W.setCell ⟨hb, 1, none⟩ (.int .i64 (x : Int))) hb r0 x l0 l1 ∧ HBx (W.setCell ⟨hb, 2, none⟩ (.int .i64 (x : Int))) hb r0 r1 x l1 ∧ HBx (W.setCell ⟨hb, 3, none⟩ (.int .i64 (x : Int))) hb r0 r1 l0 x := by
  unfold HBx at h ⊢
  refine ⟨?_, ?_, ?_, ?_⟩
  all_goals (rw [setCell_block _ _ _ _ h]; rfl)
end Go.Proofs.Ytlklolmhaiaaiaa
