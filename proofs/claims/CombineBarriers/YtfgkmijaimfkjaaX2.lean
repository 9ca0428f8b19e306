import Derived.Test.YtfgkmijaimfkjaaX1
namespace Go.Proofs.Ytfgkmijaimfkjaa
open Go.ChangeShapes Go.WideShapes Go.ChangeAt Go.RowKit
set_option linter.unusedVariables false
set_option linter.unusedSimpArgs false
variable {base n kd : Nat} {B : RB} {R : Rt} {W W' W0 : World}

theorem RN.set_up (h : RN base n kd B R W) (i : Nat) (v : Bool) : RN base n kd B { R with up := setF R.up i v } (W.setCell ⟨B.ub, i, none⟩ (.bool v)) := by
  have l := h.lt
  have hc : Ch (fun k => k = B.ub) W (W.setCell ⟨B.ub, i, none⟩ (.bool v)) := Ch.set (fun k => k = B.ub) W _ _ _ rfl
  obtain ⟨ct, hct⟩ := own_typ h.up
  refine ⟨(hc.block _ l.1.1 (typ_ne h.box hct (by decide))).trans h.box, own_set1 h.up _ (by simp [blF, setF_at]) (fun j hj => by simp [blF, setF_ne _ _ hj]), h.dn.far fun k e => by cases e; exact hc.block _ l.1.2.2.1 (h.n1.symm), h.uv.far fun k e => by cases e; exact hc.block _ l.1.2.2.2 (own_ne h.uv h.up (by decide)), h.dv.far fun k e => by cases e; exact hc.block _ l.2.1 (own_ne h.dv h.up (by decide)), h.td.far fun k e => by cases e; exact hc.block _ l.2.2.1 (own_ne h.td h.up (by decide)), h.hs.far fun k e => by cases e; exact hc.block _ l.2.2.2.1 (own_ne h.hs h.up (by decide)), h.ls.far fun k e => by cases e; exact hc.block _ l.2.2.2.2.1 (own_ne h.ls h.up (by decide)), h.th.far fun k e => by cases e; exact hc.block _ l.2.2.2.2.2 (own_ne h.th h.up (by decide)), ?_, h.n1, h.n2, h.n3, h.bs⟩
  exact fun j hj => (h.tl j hj).keep fun b cur hb h1 h2 => hc.block b (lt_of_block hb) (typ_ne hb hct (by decide))
theorem RC.set_up (h : RC W0 base n kd B R W) (i : Nat) (v : Bool) : RC W0 base n kd B { R with up := setF R.up i v } (W.setCell ⟨B.ub, i, none⟩ (.bool v)) := ⟨h.1.set_up i v, h.2.trans (Ch.set (RS B) W _ _ _ (by simp [RS]))⟩
theorem RN.set_dn (h : RN base n kd B R W) (i : Nat) (v : Bool) : RN base n kd B { R with dn := setF R.dn i v } (W.setCell ⟨B.db, i, none⟩ (.bool v)) := by
  have l := h.lt
  have hc : Ch (fun k => k = B.db) W (W.setCell ⟨B.db, i, none⟩ (.bool v)) := Ch.set (fun k => k = B.db) W _ _ _ rfl
  obtain ⟨ct, hct⟩ := own_typ h.dn
  refine ⟨(hc.block _ l.1.1 (typ_ne h.box hct (by decide))).trans h.box, h.up.far fun k e => by cases e; exact hc.block _ l.1.2.1 (h.n1), own_set1 h.dn _ (by simp [blF, setF_at]) (fun j hj => by simp [blF, setF_ne _ _ hj]), h.uv.far fun k e => by cases e; exact hc.block _ l.1.2.2.2 (own_ne h.uv h.dn (by decide)), h.dv.far fun k e => by cases e; exact hc.block _ l.2.1 (own_ne h.dv h.dn (by decide)), h.td.far fun k e => by cases e; exact hc.block _ l.2.2.1 (own_ne h.td h.dn (by decide)), h.hs.far fun k e => by cases e; exact hc.block _ l.2.2.2.1 (own_ne h.hs h.dn (by decide)), h.ls.far fun k e => by cases e; exact hc.block _ l.2.2.2.2.1 (own_ne h.ls h.dn (by decide)), h.th.far fun k e => by cases e; exact hc.block _ l.2.2.2.2.2 (own_ne h.th h.dn (by decide)), ?_, h.n1, h.n2, h.n3, h.bs⟩
  exact fun j hj => (h.tl j hj).keep fun b cur hb h1 h2 => hc.block b (lt_of_block hb) (typ_ne hb hct (by decide))
theorem RC.set_dn (h : RC W0 base n kd B R W) (i : Nat) (v : Bool) : RC W0 base n kd B { R with dn := setF R.dn i v } (W.setCell ⟨B.db, i, none⟩ (.bool v)) := ⟨h.1.set_dn i v, h.2.trans (Ch.set (RS B) W _ _ _ (by simp [RS]))⟩
theorem RN.set_uv (h : RN base n kd B R W) (i : Nat) (v : Int) : RN base n kd B { R with uv := setF R.uv i v } (W.setCells B.xb (i * 10) (rvL v)) := by
  have l := h.lt
  have hc : Ch (fun k => k = B.xb) W (W.setCells B.xb (i * 10) (rvL v)) := ch_sets (fun k => k = B.xb) W B.xb _ _ rfl
  obtain ⟨ct, hct⟩ := own_typ h.uv
  refine ⟨(hc.block _ l.1.1 (typ_ne h.box hct (by decide))).trans h.box, h.up.far fun k e => by cases e; exact hc.block _ l.1.2.1 (own_ne h.up h.uv (by decide)), h.dn.far fun k e => by cases e; exact hc.block _ l.1.2.2.1 (own_ne h.dn h.uv (by decide)), own_set10 h.uv v, h.dv.far fun k e => by cases e; exact hc.block _ l.2.1 (h.n2.1.symm), h.td.far fun k e => by cases e; exact hc.block _ l.2.2.1 (own_ne h.td h.uv (by decide)), h.hs.far fun k e => by cases e; exact hc.block _ l.2.2.2.1 (h.n2.2.1.symm), h.ls.far fun k e => by cases e; exact hc.block _ l.2.2.2.2.1 (h.n2.2.2.symm), h.th.far fun k e => by cases e; exact hc.block _ l.2.2.2.2.2 (own_ne h.th h.uv (by decide)), ?_, h.n1, h.n2, h.n3, h.bs⟩
  exact fun j hj => (h.tl j hj).keep fun b cur hb h1 h2 => hc.block b (lt_of_block hb) (typ_ne hb hct (by decide))
theorem RC.set_uv (h : RC W0 base n kd B R W) (i : Nat) (v : Int) : RC W0 base n kd B { R with uv := setF R.uv i v } (W.setCells B.xb (i * 10) (rvL v)) := ⟨h.1.set_uv i v, h.2.trans (ch_sets (RS B) W B.xb _ _ (by simp [RS]))⟩
theorem RN.set_dv (h : RN base n kd B R W) (i : Nat) (v : Int) : RN base n kd B { R with dv := setF R.dv i v } (W.setCells B.yb (i * 10) (rvL v)) := by
  have l := h.lt
  have hc : Ch (fun k => k = B.yb) W (W.setCells B.yb (i * 10) (rvL v)) := ch_sets (fun k => k = B.yb) W B.yb _ _ rfl
  obtain ⟨ct, hct⟩ := own_typ h.dv
  refine ⟨(hc.block _ l.1.1 (typ_ne h.box hct (by decide))).trans h.box, h.up.far fun k e => by cases e; exact hc.block _ l.1.2.1 (own_ne h.up h.dv (by decide)), h.dn.far fun k e => by cases e; exact hc.block _ l.1.2.2.1 (own_ne h.dn h.dv (by decide)), h.uv.far fun k e => by cases e; exact hc.block _ l.1.2.2.2 (h.n2.1), own_set10 h.dv v, h.td.far fun k e => by cases e; exact hc.block _ l.2.2.1 (own_ne h.td h.dv (by decide)), h.hs.far fun k e => by cases e; exact hc.block _ l.2.2.2.1 (h.n3.1.symm), h.ls.far fun k e => by cases e; exact hc.block _ l.2.2.2.2.1 (h.n3.2.1.symm), h.th.far fun k e => by cases e; exact hc.block _ l.2.2.2.2.2 (own_ne h.th h.dv (by decide)), ?_, h.n1, h.n2, h.n3, h.bs⟩
  exact fun j hj => (h.tl j hj).keep fun b cur hb h1 h2 => hc.block b (lt_of_block hb) (typ_ne hb hct (by decide))
theorem RC.set_dv (h : RC W0 base n kd B R W) (i : Nat) (v : Int) : RC W0 base n kd B { R with dv := setF R.dv i v } (W.setCells B.yb (i * 10) (rvL v)) := ⟨h.1.set_dv i v, h.2.trans (ch_sets (RS B) W B.yb _ _ (by simp [RS]))⟩
theorem RN.set_td (h : RN base n kd B R W) (i : Nat) (v : Value) (l : List Nat) (ht : TL W base B.gb v l) : RN base n kd B { R with tv := setF R.tv i v, td := setF R.td i l } (W.setCell ⟨B.tb, i, none⟩ v) := by
  have ll := h.lt
  have hc : Ch (fun k => k = B.tb) W (W.setCell ⟨B.tb, i, none⟩ v) := Ch.set (fun k => k = B.tb) W _ _ _ rfl
  obtain ⟨ct, hct⟩ := own_typ h.td
  refine ⟨(hc.block _ ll.1.1 (typ_ne h.box hct (by decide))).trans h.box, h.up.far fun k e => by cases e; exact hc.block _ ll.1.2.1 (own_ne h.up h.td (by decide)), h.dn.far fun k e => by cases e; exact hc.block _ ll.1.2.2.1 (own_ne h.dn h.td (by decide)), h.uv.far fun k e => by cases e; exact hc.block _ ll.1.2.2.2 (own_ne h.uv h.td (by decide)), h.dv.far fun k e => by cases e; exact hc.block _ ll.2.1 (own_ne h.dv h.td (by decide)), own_set1 h.td _ (setF_at _ _ _) (fun j hj => (setF_ne _ _ hj).symm), h.hs.far fun k e => by cases e; exact hc.block _ ll.2.2.2.1 (own_ne h.hs h.td (by decide)), h.ls.far fun k e => by cases e; exact hc.block _ ll.2.2.2.2.1 (own_ne h.ls h.td (by decide)), h.th.far fun k e => by cases e; exact hc.block _ ll.2.2.2.2.2 (own_ne h.th h.td (by decide)), ?_, h.n1, h.n2, h.n3, h.bs⟩
  exact fun j hj => by
    by_cases e : j = i
    · subst e
      show TL _ _ _ (setF R.tv j v j) (setF R.td j l j)
      rw [setF_at, setF_at]
      exact ht.keep fun b cur hb h1 h2 => hc.block b (lt_of_block hb) (typ_ne hb hct (by decide))
    · show TL _ _ _ (setF R.tv i v j) (setF R.td i l j)
      rw [setF_ne _ _ e, setF_ne _ _ e]
      exact (h.tl j hj).keep fun b cur hb h1 h2 => hc.block b (lt_of_block hb) (typ_ne hb hct (by decide))
theorem RC.set_td (h : RC W0 base n kd B R W) (i : Nat) (v : Value) (l : List Nat) (ht : TL W base B.gb v l) : RC W0 base n kd B { R with tv := setF R.tv i v, td := setF R.td i l } (W.setCell ⟨B.tb, i, none⟩ v) := ⟨h.1.set_td i v l ht, h.2.trans (Ch.set (RS B) W _ _ _ (by simp [RS]))⟩
theorem RN.set_hs (h : RN base n kd B R W) (i : Nat) (v : Int) : RN base n kd B { R with hs := setF R.hs i v } (W.setCells B.hb (i * 10) (rvL v)) := by
  have l := h.lt
  have hc : Ch (fun k => k = B.hb) W (W.setCells B.hb (i * 10) (rvL v)) := ch_sets (fun k => k = B.hb) W B.hb _ _ rfl
  obtain ⟨ct, hct⟩ := own_typ h.hs
  refine ⟨(hc.block _ l.1.1 (typ_ne h.box hct (by decide))).trans h.box, h.up.far fun k e => by cases e; exact hc.block _ l.1.2.1 (own_ne h.up h.hs (by decide)), h.dn.far fun k e => by cases e; exact hc.block _ l.1.2.2.1 (own_ne h.dn h.hs (by decide)), h.uv.far fun k e => by cases e; exact hc.block _ l.1.2.2.2 (h.n2.2.1), h.dv.far fun k e => by cases e; exact hc.block _ l.2.1 (h.n3.1), h.td.far fun k e => by cases e; exact hc.block _ l.2.2.1 (own_ne h.td h.hs (by decide)), own_set10 h.hs v, h.ls.far fun k e => by cases e; exact hc.block _ l.2.2.2.2.1 (h.n3.2.2.symm), h.th.far fun k e => by cases e; exact hc.block _ l.2.2.2.2.2 (own_ne h.th h.hs (by decide)), ?_, h.n1, h.n2, h.n3, h.bs⟩
  exact fun j hj => (h.tl j hj).keep fun b cur hb h1 h2 => hc.block b (lt_of_block hb) (typ_ne hb hct (by decide))
theorem RC.set_hs (h : RC W0 base n kd B R W) (i : Nat) (v : Int) : RC W0 base n kd B { R with hs := setF R.hs i v } (W.setCells B.hb (i * 10) (rvL v)) := ⟨h.1.set_hs i v, h.2.trans (ch_sets (RS B) W B.hb _ _ (by simp [RS]))⟩
theorem RN.set_ls (h : RN base n kd B R W) (i : Nat) (v : Int) : RN base n kd B { R with ls := setF R.ls i v } (W.setCells B.lb (i * 10) (rvL v)) := by
  have l := h.lt
  have hc : Ch (fun k => k = B.lb) W (W.setCells B.lb (i * 10) (rvL v)) := ch_sets (fun k => k = B.lb) W B.lb _ _ rfl
  obtain ⟨ct, hct⟩ := own_typ h.ls
  refine ⟨(hc.block _ l.1.1 (typ_ne h.box hct (by decide))).trans h.box, h.up.far fun k e => by cases e; exact hc.block _ l.1.2.1 (own_ne h.up h.ls (by decide)), h.dn.far fun k e => by cases e; exact hc.block _ l.1.2.2.1 (own_ne h.dn h.ls (by decide)), h.uv.far fun k e => by cases e; exact hc.block _ l.1.2.2.2 (h.n2.2.2), h.dv.far fun k e => by cases e; exact hc.block _ l.2.1 (h.n3.2.1), h.td.far fun k e => by cases e; exact hc.block _ l.2.2.1 (own_ne h.td h.ls (by decide)), h.hs.far fun k e => by cases e; exact hc.block _ l.2.2.2.1 (h.n3.2.2), own_set10 h.ls v, h.th.far fun k e => by cases e; exact hc.block _ l.2.2.2.2.2 (own_ne h.th h.ls (by decide)), ?_, h.n1, h.n2, h.n3, h.bs⟩
  exact fun j hj => (h.tl j hj).keep fun b cur hb h1 h2 => hc.block b (lt_of_block hb) (typ_ne hb hct (by decide))
theorem RC.set_ls (h : RC W0 base n kd B R W) (i : Nat) (v : Int) : RC W0 base n kd B { R with ls := setF R.ls i v } (W.setCells B.lb (i * 10) (rvL v)) := ⟨h.1.set_ls i v, h.2.trans (ch_sets (RS B) W B.lb _ _ (by simp [RS]))⟩
theorem RN.set_th (h : RN base n kd B R W) (i : Nat) (v : Nat) : RN base n kd B { R with th := setF R.th i v } (W.setCell ⟨B.gb, i, none⟩ (.int .i64 (v : Int))) := by
  have l := h.lt
  have hc : Ch (fun k => k = B.gb) W (W.setCell ⟨B.gb, i, none⟩ (.int .i64 (v : Int))) := Ch.set (fun k => k = B.gb) W _ _ _ rfl
  obtain ⟨ct, hct⟩ := own_typ h.th
  refine ⟨(hc.block _ l.1.1 (typ_ne h.box hct (by decide))).trans h.box, h.up.far fun k e => by cases e; exact hc.block _ l.1.2.1 (own_ne h.up h.th (by decide)), h.dn.far fun k e => by cases e; exact hc.block _ l.1.2.2.1 (own_ne h.dn h.th (by decide)), h.uv.far fun k e => by cases e; exact hc.block _ l.1.2.2.2 (own_ne h.uv h.th (by decide)), h.dv.far fun k e => by cases e; exact hc.block _ l.2.1 (own_ne h.dv h.th (by decide)), h.td.far fun k e => by cases e; exact hc.block _ l.2.2.1 (own_ne h.td h.th (by decide)), h.hs.far fun k e => by cases e; exact hc.block _ l.2.2.2.1 (own_ne h.hs h.th (by decide)), h.ls.far fun k e => by cases e; exact hc.block _ l.2.2.2.2.1 (own_ne h.ls h.th (by decide)), own_set1 h.th _ (by simp [ntF, setF_at]) (fun j hj => by simp [ntF, setF_ne _ _ hj]), ?_, h.n1, h.n2, h.n3, h.bs⟩
  exact fun j hj => (h.tl j hj).keep fun b cur hb h1 h2 => hc.block b (lt_of_block hb) h2
theorem RC.set_th (h : RC W0 base n kd B R W) (i : Nat) (v : Nat) : RC W0 base n kd B { R with th := setF R.th i v } (W.setCell ⟨B.gb, i, none⟩ (.int .i64 (v : Int))) := ⟨h.1.set_th i v, h.2.trans (Ch.set (RS B) W _ _ _ (by simp [RS]))⟩
end Go.Proofs.Ytfgkmijaimfkjaa
