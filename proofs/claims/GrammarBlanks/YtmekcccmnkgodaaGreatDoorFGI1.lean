import Derived.Test.YtmekcccmnkgodaaGreatDoorFGPT
import Derived.Test.YtmekcccmnkgodaaGreatDoorFLMark
import Derived.Test.YtmekcccmnkgodaaGreatDoorFLWord
namespace Go.Proofs.YtmekcccmnkgodaaGreatDoor
open Go.ChangeShapes Go.WideShapes Go.ChangeAt Go.RowKit
set_option linter.unusedVariables false
set_option linter.unusedSimpArgs false
/-! ### the nodes ahead of their kids, numbered anew -/
def layK (g : Nat → Nat → List Nd) : List Nat → Nat → List Nat × List Nd
  | [], _ => ([], [])
  | c :: cs, at' => (at' :: (layK g cs (at' + (g c at').length)).1, g c at' ++ (layK g cs (at' + (g c at').length)).2)
def nT1 : Nd := ⟨0, [], 0, 0, [], 0, 0⟩
def layF (md : List Nd) : Nat → Nat → Nat → List Nd
  | 0, _, _ => []
  | f + 1, k, at' => ⟨(md.getD k nT1).kind, (md.getD k nT1).name, (md.getD k nT1).num, (md.getD k nT1).op, (layK (layF md f) (md.getD k nT1).kids (at' + 1)).1, (md.getD k nT1).line, (md.getD k nT1).col⟩ :: (layK (layF md f) (md.getD k nT1).kids (at' + 1)).2
/-- scanning, with its steps counted, so that it can be reckoned -/
def scanF : Nat → Bs → Nat → Nat → Nat → List Tk × Option Er
  | 0, _, _, _, _ => ([], none)
  | f + 1, s, line, col, cnt => match s with
    | [] => ([], none)
    | c :: r =>
      if c.toNat = 10 then scanF f r (line + 1) 1 cnt
      else if c.toNat = 32 ∨ c.toNat = 9 ∨ c.toNat = 13 then scanF f r line (col + 1) cnt
      else if c.toNat = 35 then scanF f (r.drop (r.takeWhile pC).length) line (col + 1 + (r.takeWhile pC).length) cnt
      else match rd (c :: r) with
        | .err e => ([], some ⟨e, line, col⟩)
        | .ok k t v => if cnt = 16384 then ([], some ⟨34, line, col⟩) else
          ((⟨k, t, v, line, col⟩ : Tk) :: (scanF f (r.drop (t.length - 1)) line (col + t.length) (cnt + 1)).1, (scanF f (r.drop (t.length - 1)) line (col + t.length) (cnt + 1)).2)
theorem scanF_eq : ∀ (f : Nat) (s : Bs) (l c cnt : Nat), s.length < f → scanF f s l c cnt = scan s l c cnt := by
  intro f
  induction f with
  | zero => intro s l c cnt h; omega
  | succ f ih =>
    intro s l c cnt h
    cases s with
    | nil => rw [scan_nil]; rfl
    | cons x r =>
      simp only [List.length_cons] at h
      rw [scan]
      unfold scanF
      dsimp only
      by_cases h1 : x.toNat = 10
      · rw [if_pos h1, if_pos h1]; exact ih _ _ _ _ (by omega)
      · rw [if_neg h1, if_neg h1]
        by_cases h2 : x.toNat = 32 ∨ x.toNat = 9 ∨ x.toNat = 13
        · rw [if_pos h2, if_pos h2]; exact ih _ _ _ _ (by omega)
        · rw [if_neg h2, if_neg h2]
          by_cases h3 : x.toNat = 35
          · rw [if_pos h3, if_pos h3]; exact ih _ _ _ _ (by rw [List.length_drop]; omega)
          · rw [if_neg h3, if_neg h3]
            cases hr : rd (x :: r) with
            | err e => rfl
            | ok k t v =>
              dsimp only
              rw [ih (r.drop (t.length - 1)) l _ _ (by rw [List.length_drop]; omega)]
/-! ### how any two operators bind: reckoned -/
def bText (x y u : Nat) : Bs := [99, 111, 110, 115, 116, 32, 65, 32, 61, 32] ++ spl ([74, 78, 79].getD u 0) ++ [97, 32] ++ spl (60 + x) ++ [32, 98, 32] ++ spl (60 + y) ++ [32, 99]
def strong (x : Nat) : Nat := [1, 2, 3, 3, 3, 3, 3, 3, 4, 5, 6, 7, 7, 8, 8, 9, 9, 9].getD x 0
def bToks (x y u : Nat) : List Tk × Option Er := scanF 40 (bText x y u) 1 1 0
def bRun (x y u : Nat) : Pr (List Nat) := P (fun i => (bToks x y u).1.getD i nT) (bToks x y u).1.length 220 .scene ⟨0, 0, []⟩
def bOk (x y u : Nat) : Bool := decide ((bToks x y u).2 = none) && (decide ((bToks x y u).1.length = 9) && match bRun x y u with
  | .out => false
  | .bad e => decide (strong x = 3 ∧ strong y = 3 ∧ e.code = 40)
  | .ok s v => (!(decide (strong x = 3) && decide (strong y = 3))) && (decide ((layF s.md 10 (hd v) 0).length = 8) && (if strong x < strong y
      then decide ((layF s.md 10 (hd v) 0).map (fun d => (d.kind, d.op)) = [((1 : Int), (0 : Int)), (3, 0), ((43 : Int), ((60 + x : Nat) : Int)), (44, (([74, 78, 79].getD u 0 : Nat) : Int)), (41, 0), ((43 : Int), ((60 + y : Nat) : Int)), (41, 0), (41, 0)])
      else decide ((layF s.md 10 (hd v) 0).map (fun d => (d.kind, d.op)) = [((1 : Int), (0 : Int)), (3, 0), ((43 : Int), ((60 + y : Nat) : Int)), ((43 : Int), ((60 + x : Nat) : Int)), (44, (([74, 78, 79].getD u 0 : Nat) : Int)), (41, 0), (41, 0), (41, 0)]))))
theorem binds_0 : ((List.range 18).all fun y => (List.range 3).all fun u => bOk 0 y u) = true := by decide +kernel
theorem binds_1 : ((List.range 18).all fun y => (List.range 3).all fun u => bOk 1 y u) = true := by decide +kernel
theorem binds_2 : ((List.range 18).all fun y => (List.range 3).all fun u => bOk 2 y u) = true := by decide +kernel
theorem binds_3 : ((List.range 18).all fun y => (List.range 3).all fun u => bOk 3 y u) = true := by decide +kernel
theorem binds_4 : ((List.range 18).all fun y => (List.range 3).all fun u => bOk 4 y u) = true := by decide +kernel
theorem binds_5 : ((List.range 18).all fun y => (List.range 3).all fun u => bOk 5 y u) = true := by decide +kernel
theorem binds_6 : ((List.range 18).all fun y => (List.range 3).all fun u => bOk 6 y u) = true := by decide +kernel
theorem binds_7 : ((List.range 18).all fun y => (List.range 3).all fun u => bOk 7 y u) = true := by decide +kernel
theorem binds_8 : ((List.range 18).all fun y => (List.range 3).all fun u => bOk 8 y u) = true := by decide +kernel
theorem binds_9 : ((List.range 18).all fun y => (List.range 3).all fun u => bOk 9 y u) = true := by decide +kernel
theorem binds_10 : ((List.range 18).all fun y => (List.range 3).all fun u => bOk 10 y u) = true := by decide +kernel
theorem binds_11 : ((List.range 18).all fun y => (List.range 3).all fun u => bOk 11 y u) = true := by decide +kernel
theorem binds_12 : ((List.range 18).all fun y => (List.range 3).all fun u => bOk 12 y u) = true := by decide +kernel
theorem binds_13 : ((List.range 18).all fun y => (List.range 3).all fun u => bOk 13 y u) = true := by decide +kernel
theorem binds_14 : ((List.range 18).all fun y => (List.range 3).all fun u => bOk 14 y u) = true := by decide +kernel
theorem binds_15 : ((List.range 18).all fun y => (List.range 3).all fun u => bOk 15 y u) = true := by decide +kernel
theorem binds_16 : ((List.range 18).all fun y => (List.range 3).all fun u => bOk 16 y u) = true := by decide +kernel
theorem binds_17 : ((List.range 18).all fun y => (List.range 3).all fun u => bOk 17 y u) = true := by decide +kernel
theorem binds_ok (x y u : Nat) (hx : x < 18) (hy : y < 18) (hu : u < 3) : bOk x y u = true := by
  have h : ((List.range 18).all fun y => (List.range 3).all fun u => bOk x y u) = true := by
    rcases (by omega : x = 0 ∨ x = 1 ∨ x = 2 ∨ x = 3 ∨ x = 4 ∨ x = 5 ∨ x = 6 ∨ x = 7 ∨ x = 8 ∨ x = 9 ∨ x = 10 ∨ x = 11 ∨ x = 12 ∨ x = 13 ∨ x = 14 ∨ x = 15 ∨ x = 16 ∨ x = 17) with rfl | rfl | rfl | rfl | rfl | rfl | rfl | rfl | rfl | rfl | rfl | rfl | rfl | rfl | rfl | rfl | rfl | rfl
    · exact binds_0
    · exact binds_1
    · exact binds_2
    · exact binds_3
    · exact binds_4
    · exact binds_5
    · exact binds_6
    · exact binds_7
    · exact binds_8
    · exact binds_9
    · exact binds_10
    · exact binds_11
    · exact binds_12
    · exact binds_13
    · exact binds_14
    · exact binds_15
    · exact binds_16
    · exact binds_17
  exact List.all_eq_true.1 (List.all_eq_true.1 h y (List.mem_range.2 hy)) u (List.mem_range.2 hu)
end Go.Proofs.YtmekcccmnkgodaaGreatDoor
namespace Go.Proofs.YtmekcccmnkgodaaGreatDoor
open Go.ChangeShapes Go.WideShapes Go.ChangeAt Go.RowKit
set_option linter.unusedVariables false
set_option linter.unusedSimpArgs false
/-! ### the nodes ahead of their kids, as a relation -/
def nk (d : Nd) (l : List Nat) : Nd := ⟨d.kind, d.name, d.num, d.op, l, d.line, d.col⟩
/-- these places, and all that lies in them, numbered from a on: their new numbers, the nodes, and where each stood -/
inductive Lay (md : List Nd) : List Nat → Nat → List Nat → List Nd → List Nat → Prop
  | nil (a : Nat) : Lay md [] a [] [] []
  | cons {k a : Nat} {d : Nd} {cs n1 n2 q1 q2 : List Nat} {t1 t2 : List Nd} (hd : md[k]? = some d) (h1 : Lay md d.kids (a + 1) n1 t1 q1) (h2 : Lay md cs (a + 1 + t1.length) n2 t2 q2) : Lay md (k :: cs) a (a :: n2) (nk d n1 :: (t1 ++ t2)) (k :: (q1 ++ q2))
theorem Lay.append {md : List Nd} {l l' n n' q q' : List Nat} {t t' : List Nd} {a : Nat} (h : Lay md l a n t q) : Lay md l' (a + t.length) n' t' q' → Lay md (l ++ l') a (n ++ n') (t ++ t') (q ++ q') := by
  induction h with
  | nil a => intro k; simpa using k
  | @cons k a d cs n1 n2 q1 q2 t1 t2 hd h1 h2 _ ih2 =>
    intro k
    have k' := ih2 (by have e : a + 1 + t1.length + t2.length = a + (nk d n1 :: (t1 ++ t2)).length := by simp only [List.length_cons, List.length_append]; omega
                       rw [e]; exact k)
    have := Lay.cons hd h1 k'
    simpa using this
theorem Lay.len {md : List Nd} {l n q : List Nat} {t : List Nd} {a : Nat} (h : Lay md l a n t q) : n.length = l.length ∧ q.length = t.length := by
  induction h with
  | nil a => exact ⟨rfl, rfl⟩
  | cons hd h1 h2 ih1 ih2 => simp only [List.length_cons, List.length_append]; omega
theorem Lay.one {md : List Nd} {l n q : List Nat} {t : List Nd} {a : Nat} (h : Lay md l a n t q) : ∀ {n' q' : List Nat} {t' : List Nd}, Lay md l a n' t' q' → n' = n ∧ t' = t ∧ q' = q := by
  induction h with
  | nil a => intro n' q' t' k; cases k; exact ⟨rfl, rfl, rfl⟩
  | cons hd h1 h2 ih1 ih2 =>
    intro n' q' t' k
    cases k with
    | cons hd' k1 k2 =>
      rw [hd] at hd'
      injection hd' with hd'
      subst hd'
      obtain ⟨rfl, rfl, rfl⟩ := ih1 k1
      obtain ⟨rfl, rfl, rfl⟩ := ih2 k2
      exact ⟨rfl, rfl, rfl⟩
theorem Sg.le {md : List Nd} {lo hi : Nat} {l : List Nat} (h : Sg md lo hi l) : lo ≤ hi := by
  induction h with
  | nil lo => exact Nat.le_refl _
  | cons hd h1 h2 ih1 ih2 => omega
theorem Sg.lay {md : List Nd} {lo hi : Nat} {l : List Nat} (h : Sg md lo hi l) : ∀ a, ∃ n t q, Lay md l a n t q ∧ t.length = hi - lo ∧ ∀ x ∈ q, lo ≤ x ∧ x < hi := by
  induction h with
  | nil lo => intro a; exact ⟨[], [], [], .nil a, by simp, by simp⟩
  | @cons lo k hi d ks hd h1 h2 ih1 ih2 =>
    intro a
    obtain ⟨n1, t1, q1, l1, e1, r1⟩ := ih1 (a + 1)
    obtain ⟨n2, t2, q2, l2, e2, r2⟩ := ih2 (a + 1 + t1.length)
    have g1 := h1.le
    have g2 := h2.le
    refine ⟨_, _, _, .cons hd l1 l2, by simp only [List.length_cons, List.length_append]; omega, fun x hx => ?_⟩
    rcases List.mem_cons.1 hx with rfl | hx
    · omega
    · rcases List.mem_append.1 hx with hx | hx
      · have := r1 x hx; omega
      · have := r2 x hx; omega
theorem Sg.size {md : List Nd} {lo hi : Nat} {l n q : List Nat} {t : List Nd} {a : Nat} (h : Sg md lo hi l) (k : Lay md l a n t q) : t.length = hi - lo ∧ (∀ x ∈ q, lo ≤ x ∧ x < hi) := by
  obtain ⟨n', t', q', k', h1, h2⟩ := h.lay a
  obtain ⟨rfl, rfl, rfl⟩ := k'.one k
  exact ⟨h1, h2⟩
/-- no node comes twice -/
theorem Sg.nodup {md : List Nd} {lo hi : Nat} {l : List Nat} (h : Sg md lo hi l) : ∀ {a : Nat} {n q : List Nat} {t : List Nd}, Lay md l a n t q → q.Nodup := by
  induction h with
  | nil lo => intro a n q t k; cases k; exact List.nodup_nil
  | @cons lo k hi d ks hd h1 h2 ih1 ih2 =>
    intro a n q t z
    cases z with
    | cons hd' k1 k2 =>
      rw [hd] at hd'
      injection hd' with hd'
      subst hd'
      have s1 := (h1.size k1).2
      have s2 := (h2.size k2).2
      have g1 := h1.le
      have g2 := h2.le
      refine List.nodup_cons.2 ⟨fun hm => ?_, List.nodup_append.2 ⟨ih1 k1, ih2 k2, fun x hx y hy e => ?_⟩⟩
      · rcases List.mem_append.1 hm with hm | hm
        · have := s1 k hm; omega
        · have := s2 k hm; omega
      · have := s1 x hx
        have := s2 y hy
        omega
/-- what is reckoned is what is related -/
theorem Sg.layF {md : List Nd} {lo hi : Nat} {l : List Nat} (h : Sg md lo hi l) : ∀ (f a : Nat), hi - lo ≤ f → ∃ q, Lay md l a (layK (layF md f) l a).1 (layK (layF md f) l a).2 q := by
  induction h with
  | nil lo => intro f a _; exact ⟨[], .nil a⟩
  | @cons lo k hi d ks hd h1 h2 ih1 ih2 =>
    intro f a hf
    have g1 := h1.le
    have g2 := h2.le
    have e : md.getD k nT1 = d := by rw [List.getD_eq_getElem?_getD, hd]; rfl
    cases f with
    | zero => omega
    | succ f =>
      obtain ⟨q1, k1⟩ := ih1 f (a + 1) (by omega)
      have e1 : Go.Proofs.YtmekcccmnkgodaaGreatDoor.layF md (f + 1) k a = nk d (layK (Go.Proofs.YtmekcccmnkgodaaGreatDoor.layF md f) d.kids (a + 1)).1 :: (layK (Go.Proofs.YtmekcccmnkgodaaGreatDoor.layF md f) d.kids (a + 1)).2 := by
        show _ :: _ = _
        rw [e]
        rfl
      obtain ⟨q2, k2⟩ := ih2 (f + 1) (a + (Go.Proofs.YtmekcccmnkgodaaGreatDoor.layF md (f + 1) k a).length) (by omega)
      have e2 : a + (Go.Proofs.YtmekcccmnkgodaaGreatDoor.layF md (f + 1) k a).length = a + 1 + (layK (Go.Proofs.YtmekcccmnkgodaaGreatDoor.layF md f) d.kids (a + 1)).2.length := by rw [e1, List.length_cons]; omega
      have k2' := k2
      rw [e2] at k2'
      refine ⟨k :: (q1 ++ q2), ?_⟩
      have k3 := Lay.cons hd k1 k2'
      show Lay md (k :: ks) a (a :: (layK (Go.Proofs.YtmekcccmnkgodaaGreatDoor.layF md (f + 1)) ks (a + (Go.Proofs.YtmekcccmnkgodaaGreatDoor.layF md (f + 1) k a).length)).1) (Go.Proofs.YtmekcccmnkgodaaGreatDoor.layF md (f + 1) k a ++ (layK (Go.Proofs.YtmekcccmnkgodaaGreatDoor.layF md (f + 1)) ks (a + (Go.Proofs.YtmekcccmnkgodaaGreatDoor.layF md (f + 1) k a).length)).2) _
      rw [e2, e1]
      exact k3
end Go.Proofs.YtmekcccmnkgodaaGreatDoor
