import Derived.Test.YtfgkmijaimfkjaaX13
import Derived.Test.YtfgkmijaimfkjaaX11
import Derived.Test.YtfgkmijaimfkjaaZ12
namespace Go.Proofs.Ytfgkmijaimfkjaa
open Go.ChangeShapes Go.WideShapes Go.ChangeAt Go.RowKit
set_option linter.unusedVariables false
set_option linter.unusedSimpArgs false

theorem TL.lower {W : World} {base base' gb : Nat} {v : Value} {l : List Nat} (h : TL W base gb v l) (hb : base' ≤ base) : TL W base' gb v l := by
  obtain ⟨p, c, h1, h2, h3⟩ := h
  refine ⟨p, c, h1, h2, fun hne => ?_⟩
  obtain ⟨b, o, cur, a1, a2, a3⟩ := h3 hne
  exact ⟨b, o, cur, a1, Nat.le_trans hb a2, a3⟩
theorem RN.lower {base base' n kd : Nat} {B : RB} {R : Rt} {W : World} (h : RN base n kd B R W) (hb : base' ≤ base) : RN base' n kd B R W :=
  ⟨h.box, h.up.lower hb, h.dn.lower hb, h.uv.lower hb, h.dv.lower hb, h.td.lower hb, h.hs.lower hb, h.ls.lower hb, h.th.lower hb, fun i hi => (h.tl i hi).lower hb, h.n1, h.n2, h.n3, Nat.le_trans hb h.bs⟩
/-- the reference's net lies apart from two blocks of other types -/
theorem RN.apart {base n kd : Nat} {B : RB} {R : Rt} {W W' : World} {wb cb : Nat} {c1 c2 : Array Value} {t1 t2 : TypeId} (h : RN base n kd B R W) (h1 : W.heap[wb]? = some (.cells c1 t1 (0, 0))) (h2 : W.heap[cb]? = some (.cells c2 t2 (0, 0))) (n1 : t1 ≠ 4 ∧ t1 ≠ 62 ∧ t1 ≠ 56 ∧ t1 ≠ 3 ∧ t1 ≠ 138) (n2 : t2 ≠ 4 ∧ t2 ≠ 62 ∧ t2 ≠ 56 ∧ t2 ≠ 3 ∧ t2 ≠ 138) (hc : Ch (S2 wb cb) W W') : RN base n kd B R W' := by
  have key : ∀ k cur t, W.heap[k]? = some (.cells cur t (0, 0)) → t1 ≠ t → t2 ≠ t → ¬ S2 wb cb k := fun k cur t hk e1 e2 e => by
    rcases e with e | e
    · exact (typ_ne hk h1 (Ne.symm e1)) e
    · exact (typ_ne hk h2 (Ne.symm e2)) e
  refine h.kept hc (key _ _ _ h.box n1.2.2.2.2 n2.2.2.2.2) (fun k e => ?_) (fun b cur hb _ _ => key _ _ _ hb n1.2.2.2.1 n2.2.2.2.1)
  obtain ⟨_, a1⟩ := own_typ h.up
  obtain ⟨_, a2⟩ := own_typ h.dn
  obtain ⟨_, a3⟩ := own_typ h.uv
  obtain ⟨_, a4⟩ := own_typ h.dv
  obtain ⟨_, a5⟩ := own_typ h.td
  obtain ⟨_, a6⟩ := own_typ h.hs
  obtain ⟨_, a7⟩ := own_typ h.ls
  obtain ⟨_, a8⟩ := own_typ h.th
  rcases e with rfl | rfl | rfl | rfl | rfl | rfl | rfl | rfl
  · exact key _ _ _ a1 n1.1 n2.1
  · exact key _ _ _ a2 n1.1 n2.1
  · exact key _ _ _ a3 n1.2.1 n2.2.1
  · exact key _ _ _ a4 n1.2.1 n2.2.1
  · exact key _ _ _ a5 n1.2.2.1 n2.2.2.1
  · exact key _ _ _ a6 n1.2.1 n2.2.1
  · exact key _ _ _ a7 n1.2.1 n2.2.1
  · exact key _ _ _ a8 n1.2.2.2.1 n2.2.2.2.1
/-- a block of another type is none of the reference's -/
theorem RN.not {base n kd : Nat} {B : RB} {R : Rt} {W : World} {b : Nat} {c1 : Array Value} {t1 : TypeId} {f : Nat × Nat} (h : RN base n kd B R W) (h1 : W.heap[b]? = some (.cells c1 t1 f)) (n1 : t1 ≠ 4 ∧ t1 ≠ 62 ∧ t1 ≠ 56 ∧ t1 ≠ 3) : ¬ RS B b := fun e => by
  obtain ⟨_, a1⟩ := own_typ h.up
  obtain ⟨_, a2⟩ := own_typ h.dn
  obtain ⟨_, a3⟩ := own_typ h.uv
  obtain ⟨_, a4⟩ := own_typ h.dv
  obtain ⟨_, a5⟩ := own_typ h.td
  obtain ⟨_, a6⟩ := own_typ h.hs
  obtain ⟨_, a7⟩ := own_typ h.ls
  obtain ⟨_, a8⟩ := own_typ h.th
  rcases e with e | e | e | e | e | e | e | e
  · exact typ_ne h1 a1 n1.1 e
  · exact typ_ne h1 a2 n1.1 e
  · exact typ_ne h1 a3 n1.2.1 e
  · exact typ_ne h1 a4 n1.2.1 e
  · exact typ_ne h1 a5 n1.2.2.1 e
  · exact typ_ne h1 a6 n1.2.1 e
  · exact typ_ne h1 a7 n1.2.1 e
  · exact typ_ne h1 a8 n1.2.2.2 e
abbrev jvF : Value := .func (.func 56) #[] #[]
/-- the two nets side by side -/
structure PI (W0 : World) (hb wb cb : Nat) (B : RB) (n k : Nat) (N : Nt) (R : Rt) (W : World) : Prop where
  nw : NW W0.heap.size hb wb cb n jvF N W
  rn : RN W0.heap.size n 0 B R W
  rl : RL n N R
  sm : Sm N k
  bl : Below W0.heap.size W0 W
variable {W0 W W' : World} {hb wb cb n k : Nat} {B : RB} {N N' : Nt} {R R' : Rt}
theorem PI.later (h : PI W0 hb wb cb B n k N R W) (hb' : Below W.heap.size W W') : PI W0 hb wb cb B n k N R W' := ⟨h.nw.later hb', h.rn.later hb', h.rl, h.sm, h.bl.trans (hb'.mono h.bl.size)⟩
theorem PI.mono {m : Nat} (h : PI W0 hb wb cb B n k N R W) (hk : k ≤ m) : PI W0 hb wb cb B n m N R W := ⟨h.nw, h.rn, h.rl, h.sm.mono hk, h.bl⟩
/-- the program's call is done, the reference's is not -/
structure PH (W0 : World) (hb wb cb : Nat) (B : RB) (n : Nat) (N' : Nt) (R : Rt) (W : World) : Prop where
  nw : NW W0.heap.size hb wb cb n jvF N' W
  rn : RN W0.heap.size n 0 B R W
  bl : Below W0.heap.size W0 W
theorem PI.half (h : PI W0 hb wb cb B n k N R W) (hN : NW W0.heap.size hb wb cb n jvF N' W') (hc : Ch (S2 wb cb) W W') : PH W0 hb wb cb B n N' R W' := by
  obtain ⟨_, a1⟩ := own_typ h.nw.row
  obtain ⟨_, a2⟩ := own_typ h.nw.cel
  have hl := h.nw.bl
  exact ⟨hN, h.rn.apart a1 a2 (by decide) (by decide) hc, h.bl.trans (hc.toBelow h.bl.size fun i e => by rcases e with e | e <;> omega)⟩
theorem PH.whole (h : PH W0 hb wb cb B n N' R W) (hr : RC W W0.heap.size n 0 B R' W') (hl : RL n N' R') (hs : Sm N' k) : PI W0 hb wb cb B n k N' R' W' := by
  obtain ⟨_, a1⟩ := own_typ h.nw.row
  obtain ⟨_, a2⟩ := own_typ h.nw.cel
  exact ⟨h.nw.keep hr.2 (h.rn.not h.nw.box (by decide)) (h.rn.not a1 (by decide)) (h.rn.not a2 (by decide)), hr.1, hl, hs, h.bl.trans (hr.2.toBelow h.bl.size h.rn.bl)⟩
theorem PH.later (h : PH W0 hb wb cb B n N' R W) (hb' : Below W.heap.size W W') : PH W0 hb wb cb B n N' R W' := ⟨h.nw.later hb', h.rn.later hb', h.bl.trans (hb'.mono h.bl.size)⟩
/-- the call's own box stays -/
theorem box_ch {S : Nat → Prop} {Wp w7 : World} {b : Nat} {cs : Array Value} {T : TypeId} (hc : Ch S Wp w7) (hp : Wp.heap[b]? = some (.cells cs T (0, 0))) (hn : ¬ S b) : w7.heap[b]? = some (.cells cs T (0, 0)) := (hc.block _ (lt_of_block hp) hn).trans hp
theorem box_cell {w : World} {b r : Nat} {cs : Array Value} {T : TypeId} {v : Value} (hp : w.heap[b]? = some (.cells cs T (0, 0))) (hv : cs[r]? = some v) : w.cell? ⟨b, r, none⟩ = some v := by
  unfold World.cell?
  rw [hp]
  exact hv
end Go.Proofs.Ytfgkmijaimfkjaa
