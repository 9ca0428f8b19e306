import Derived.Test.YtecgecpgmpmkoaaGreatHRN15
namespace Go.Proofs.YtecgecpgmpmkoaaGreat
open Go.ChangeShapes Go.WideShapes Go.ChangeAt Go.RowKit
set_option linter.unusedVariables false
set_option linter.unusedSimpArgs false
def ResK (p:Pl) (A:Ab) (k cd:Int) (x:Se):Prop:=
 (A.f≠0∧k=3∧cd=A.f∧Lst A.M x)∨(A.f=0∧x=zeroE∧((Idle p A∧k=1∧cd=0)∨(¬Idle p A∧((Spent p A∧k=2∧cd=0)∨(¬Spent p A∧k=5∧cd=140)))))
structure RsA (W:World) (b rb:Nat) (p:Pl) (A:Ab) (q1:Option Addr) (C:Nat→Sa) (q3:Option Addr) (c3:Nat):Prop where
 ss:SsAt W q1 p.nq C A.K
 eq: ∀j,j<p.nq→(C j).n=p.nw j∧(C j).d=A.d j∧(C j).s=A.s j
 tr:SIn W q3 A.m A.Z
 s1: ∀g o,q1=some ⟨g,o,none⟩→0<p.nq→b≤g∧g≠rb
 s2: ∀j,j<p.nq→ ∀g o,(C j).p=some ⟨g,o,none⟩→0<(C j).n→b≤g∧g≠rb
 s3: ∀g o,q3=some ⟨g,o,none⟩→0<A.m→b≤g∧g≠rb
 cp:A.m≤c3
theorem SsAt.kb0 {S:Nat→Prop} {W W':World} {p:Option Addr} {n:Nat} {A:Nat→Sa} {K:Nat→Nat→Int} (h:SsAt W p n A K) (hk:Kb S W W') (h0: ∀g o,p=some ⟨g,o,none⟩→0<n→ ¬S g) (h1: ∀j,j<n→ ∀g o,(A j).p=some ⟨g,o,none⟩→0<(A j).n→ ¬S g):SsAt W' p n A K:=by
 by_cases hn:n=0
 ·exact .inl hn
 rcases h with h|⟨g,o,rfl,hl,hc,hp⟩
 ·exact .inl h
 ·have hs:=h0 g o rfl (by omega)
  exact .inr ⟨g,o,rfl,Nat.lt_of_lt_of_le hl hk.size,fun j hj=>⟨(cell_kb (a:=⟨g,o+j*3,none⟩) hk hl hs).trans (hc j hj).1,(cell_kb (a:=⟨g,o+j*3+1,none⟩) hk hl hs).trans (hc j hj).2.1,(cell_kb (a:=⟨g,o+j*3+2,none⟩) hk hl hs).trans (hc j hj).2.2⟩,fun j hj=>(hp j hj).kb0 hk (h1 j hj)⟩
theorem SIn.kb0 {S:Nat→Prop} {W W':World} {p:Option Addr} {m:Nat} {X:Nat→Se} (h:SIn W p m X) (hk:Kb S W W') (h0: ∀g o,p=some ⟨g,o,none⟩→0<m→ ¬S g):SIn W' p m X:=by
 by_cases hn:m=0
 ·exact .inl hn
 rcases h with h|⟨g,o,rfl,hl,hc⟩
 ·exact .inl h
 ·have hs:=h0 g o rfl (by omega)
  exact .inr ⟨g,o,rfl,Nat.lt_of_lt_of_le hl hk.size,fun j hj=>(cell_kb (a:=⟨g,o+j,none⟩) hk hl hs).trans (hc j hj)⟩
theorem RsA.kb {W W':World} {b rb:Nat} {p:Pl} {A:Ab} {q1:Option Addr} {C:Nat→Sa} {q3:Option Addr} {c3:Nat} (h:RsA W b rb p A q1 C q3 c3) (hk:Kb (fun k=>k<b∨k=rb) W W'):RsA W' b rb p A q1 C q3 c3:=
 ⟨h.ss.kb0 hk (fun g o e hn=>by have:=h.s1 g o e hn;omega) (fun j hj g o e hn=>by have:=h.s2 j hj g o e hn;omega),h.eq,h.tr.kb0 hk (fun g o e hn=>by have:=h.s3 g o e hn;omega),h.s1,h.s2,h.s3,h.cp⟩
theorem Kb.row {S:Nat→Prop} (W:World) (g:Nat) (cells:Array Value) (h:S g):Kb S W (W.setRow g cells):=⟨by simp [World.setRow],fun k _ hs=>setRow_far _ _ _ _ fun e=>hs (by rw [e];exact h)⟩
theorem Kb.kq {S:Nat→Prop} {W W':World} (h:Kq S W W'):Kb S W W':=⟨h.size,h.block⟩
theorem Kb.wide {S S':Nat→Prop} {W W':World} (h:Kb S W W') (hs: ∀k,S k→S' k):Kb S' W W':=⟨h.size,fun k hk h9=>h.block k hk fun e=>h9 (hs k e)⟩
theorem own_cap {W:World} {b:Nat} {t:TypeId} {s m c:Nat} {q:Option Addr} {F:Nat→Value} (h:Own W b t s (.slice q m c) m F):m≤c:=by
 rcases h.2 with ⟨h1,h2⟩|⟨g,cap,cur,hv,_,_,hnc,_⟩
 ·omega
 ·injection hv with _ _ e
  omega
theorem rsA_of {W1 W2 wc:World} {b b1 b2 rb:Nat} {p:Pl} {A:Ab} {q1:Option Addr} {c1:Nat} {C:Nat→Sa} {q3:Option Addr} {c3:Nat} {B:Nat→Sa} (h1:StRow W1 b1 (.slice q1 p.nq c1) p.nq C A.K) (r1:rb<b1∨W1.heap.size≤rb) (k1:Kb (fun k=>k=rb) W1 wc) (l1:b≤b1) (he:SaEq p.nq B C) (hB: ∀j,j<p.nq→(B j).n=p.nw j∧(B j).d=A.d j∧(B j).s=A.s j) (h2:Own W2 b2 54 6 (.slice q3 A.m c3) A.m (seF A.Z)) (r2:rb<b2∨W2.heap.size≤rb) (k2:Kb (fun k=>k=rb) W2 wc) (l2:b≤b2):RsA wc b rb p A q1 C q3 c3:=by
 have f1: ∀g o,q1=some ⟨g,o,none⟩→0<p.nq→b1≤g∧g<W1.heap.size:=fun g o e hn=>by
  rcases h1.row.form with ⟨h,h9⟩|⟨g9,c9,h,_⟩
  ·omega
  ·injection h with e1
   rw [e1] at e
   injection e with e
   injection e with e2
   have:=Own.lt h1.row g9 (by rw [e1];rfl)
   omega
 have f2: ∀j,j<p.nq→ ∀g o,(C j).p=some ⟨g,o,none⟩→b1≤g∧g<W1.heap.size:=fun j hj g o e=>by
  have:=(h1.wds j hj).2 g o e
  exact ⟨this.1,this.2.1⟩
 have f3: ∀g o,q3=some ⟨g,o,none⟩→0<A.m→b2≤g∧g<W2.heap.size:=fun g o e hn=>by
  rcases h2.form with ⟨h,h9⟩|⟨g9,c9,h,_⟩
  ·omega
  ·injection h with e1
   rw [e1] at e
   injection e with e
   injection e with e2
   have:=Own.lt h2 g9 (by rw [e1];rfl)
   omega
 refine ⟨h1.ss.kb0 k1 (fun g o e hn e9=> ?_) (fun j hj g o e hn e9=> ?_),fun j hj=> ?_,(own_sin0 h2).kb0 k2 (fun g o e hn e9=> ?_),fun g o e hn=> ?_,fun j hj g o e hn=> ?_,fun g o e hn=> ?_,own_cap h2⟩
 ·have:=f1 g o e hn;omega
 ·have:=f2 j hj g o e;omega
 ·obtain ⟨a1,a2,a3⟩:=he j hj
  obtain ⟨b1,b2,b3⟩:=hB j hj
  exact ⟨a1.trans b1,a2.trans b2,a3.trans b3⟩
 ·have:=f3 g o e hn;omega
 ·have:=f1 g o e hn;omega
 ·have:=f2 j hj g o e;omega
 ·have:=f3 g o e hn;omega
theorem infoRS:(Tryz.prog.info? 37).map (fun i=>(i.zero,i.size,i.bytes))=some (some (.agg #[.int .i64 0,.int .i64 0,.int .u64 0,.int .i64 0,.int .u64 0,.int .i64 0,.slice none 0 0,.slice none 0 0]),8,96):=by kernel_rfl
theorem own_form {W:World} {b:Nat} {t:TypeId} {s m:Nat} {v:Value} {F:Nat→Value} (h:Own W b t s v m F): ∃q c,v=.slice q m c:=by
 rcases h.form with ⟨h1,h2⟩|⟨g,c,h1,h2,h3⟩
 ·exact ⟨none,0,by rw [h1,h2]⟩
 ·exact ⟨_,_,h1⟩
set_option maxRecDepth 100000 in
set_option maxHeartbeats 8000000 in
theorem result_any (W:World) (b0 sb:Nat) (p:Pl) (A:Ab) (R:Rv) (h:SimR W b0 sb p A R) (ho:AOk2 p A) (hpl:PlOk p) (hfl:A.f≠0→ ∃x,A.M x):Calls Tryz.prog 46 #[.pointer (some ⟨sb,0,none⟩)] W fun r W'=> ∃(k cd:Int) (x:Se) (q1:Option Addr) (c1:Nat) (C:Nat→Sa) (q3:Option Addr) (c3:Nat),r=.returned (.agg #[.int .i64 k,.int .i64 cd,.int .u64 x.t,.int .i64 x.s,.int .u64 x.q,.int .i64 0,.slice q1 p.nq c1,.slice q3 A.m c3])∧ResK p A k cd x∧(∃rb,RsA W' (W.heap.size+1) rb p A q1 C q3 c3)∧Below W.heap.size W W':=by
 obtain ⟨wb,hwb⟩: ∃wb,W.alloc (.cells #[.int .i64 0,.int .i64 0,.int .u64 0,.int .i64 0,.int .u64 0,.int .i64 0,.slice none 0 0,.slice none 0 0] 37)=wb:=⟨_,rfl⟩
 obtain ⟨hb0,hbox,hsz⟩:=boxed _ _ _ hwb
 have HW:Hid (W.alloc (.cells #[.int .i64 0,.int .i64 0,.int .u64 0,.int .i64 0,.int .u64 0,.int .i64 0,.slice none 0 0,.slice none 0 0] 37)=wb):=hwb
 have hS1:=h.below hb0
 obtain ⟨sq,sc,hsv⟩:=own_form h.st
 obtain ⟨tq,tc,htv⟩:=own_form h.tr
 have hm:=ho.m
 have HCE:Hid (∀j,j<p.nq→(R.C j).n=p.nw j∧(R.C j).d=A.d j∧(R.C j).s=A.s j):=fun j hj=>(h.wd j hj).1
 have HC1: ∀W1,Below wb.heap.size wb W1→Hid (Calls Tryz.prog 68 #[.slice sq p.nq sc] W1 fun e w'=> ∃(q:Option Addr) (cc:Nat) (C:Nat→Sa),e=.returned (.slice q p.nq cc)∧StRow w' W1.heap.size (.slice q p.nq cc) p.nq C A.K∧SaEq p.nq R.C C∧Below W1.heap.size W1 w'):=fun W1 hb=>by
  have hs:=hS1.below hb
  have hst:=hs.st
  rw [hsv] at hst
  obtain ⟨q9,c9,e9,hss⟩:=own_ss (K:=A.K) hst (fun j hj=>by have h9:=hs.wd j hj;rw [h9.1.1];exact h9.2.1)
  injection e9 with e1 e2 e3
  subst e1
  refine copiedStates_any _ _ _ R.C A.K (by have:=hpl.gt.1;omega) (fun j hj=> ?_) W1 hss
  rw [(hs.wd j hj).1.1]
  obtain ⟨k1,k2,k3⟩:=hpl.gt.2 j hj
  have:=(dcode_zero (hpl.gp.2 (p.pr j).toNat (by omega))).2.1.1
  omega
 have HC2: ∀W1,Below wb.heap.size wb W1→Hid (Calls Tryz.prog 70 #[.slice tq A.m tc] W1 fun e w'=> ∃(q:Option Addr) (cc:Nat),e=.returned (.slice q A.m cc)∧Own w' W1.heap.size 54 6 (.slice q A.m cc) A.m (seF A.Z)∧Below W1.heap.size W1 w'):=fun W1 hb=>by
  have hst:=(hS1.below hb).tr
  rw [htv] at hst
  exact cloneE_any tq A.m tc (seF A.Z) W1 (by omega) (own_sin0 hst).cin (fun j _=>seF_one _ j)
 have KK: ∀w',Below wb.heap.size wb w'→Hid (w'.cell? ⟨sb,5,none⟩=some (.slice sq p.nq sc)∧w'.cell? ⟨sb,7,none⟩=some (.slice tq A.m tc)):=fun w' hb=>by
  have hx:=(hS1.below hb).box
  exact ⟨hsv▸cell_in hx rfl,htv▸cell_in hx rfl⟩
 have hbd:Below wb.heap.size wb wb.drew:=(Below.refl _ wb).drew
 have KP0:=(KK wb.drew hbd).out
 obtain ⟨iF,hF1,hF2,hF3,hF4⟩:=sinfo infoRS
 have HX:Hid (SimR W b0 sb p A R∧(A.f≠0→ ∃x,A.M x)∧Below W.heap.size W wb∧wb.heap[W.heap.size]? =some (.cells #[.int .i64 0,.int .i64 0,.int .u64 0,.int .i64 0,.int .u64 0,.int .i64 0,.slice none 0 0,.slice none 0 0] 37 (0,0))∧wb.heap.size=W.heap.size+1∧AOk2 p A):=⟨h,hfl,hb0,hbox,hsz,ho⟩
 have hsl:=h.lt
 clear hwb h hfl hb0 hbox hsz hS1 hm hsv htv ho
 go_enter Tryz.func46,Tryz.ntmps46
 go_upto_region 1 with fail
 rw [HW.out]
 go_cut [3] from 4 (fun x3 wc=> ∃(rb:Nat) (q1:Option Addr) (c1:Nat) (C:Nat→Sa) (q3:Option Addr) (c3:Nat),x3=.pointer (some ⟨rb,0,none⟩)∧wc.heap[rb]? =some (.cells #[.int .i64 0,.int .i64 0,.int .u64 0,.int .i64 0,.int .u64 0,.int .i64 0,.slice q1 p.nq c1,.slice q3 A.m c3] 37 (0,0))∧RsA wc wb.heap.size rb p A q1 C q3 c3∧Below wb.heap.size wb wc∧wb.heap.size≤rb)
 case first=>
  refine wp_region_held_drew (S:=fun W9=>Below wb.heap.size wb W9) (by kernel_rfl) hbd (fun hHeld=> ?_)
  have hS0:Below wb.heap.size wb wb.drew:=hHeld
  refine wpAnyH_take (i:=0) (v:= ?hv0d) rfl (by kernel_rfl) (by kernel_rfl) (by kernel_rfl) (fun _ _ _ h=>h) (Or.inl ⟨by rfl,?hy0d⟩) (by assumption) ?hr0d
  case hy0d=>((intro W9 hSw;obtain ⟨s5,s7⟩:=(KK W9 hSw).out;go_simp);try with_reducible rfl)
  simp only [List.getElem_toArray,List.getElem_cons_zero,List.getElem_cons_succ,Act.put,List.setIfInBounds_toArray,List.set_cons_zero,List.set_cons_succ]
  refine wpAnyH_take (i:=1) (v:= ?hv1d) rfl (by kernel_rfl) (by kernel_rfl) (by kernel_rfl) (fun _ _ _ h=>h) (Or.inl ⟨by rfl,?hy1d⟩) (by assumption) ?hr1d
  case hy1d=>((intro W9 hSw;obtain ⟨s5,s7⟩:=(KK W9 hSw).out;go_simp);try with_reducible rfl)
  simp only [List.getElem_toArray,List.getElem_cons_zero,List.getElem_cons_succ,Act.put,List.setIfInBounds_toArray,List.set_cons_zero,List.set_cons_succ]
  refine wpAnyH_take (i:=2) (v:= ?hv2d) rfl (by kernel_rfl) (by kernel_rfl) (by kernel_rfl) (fun _ _ _ h=>h) (Or.inl ⟨by rfl,?hy2d⟩) (by assumption) ?hr2d
  case hy2d=>((intro W9 hSw;obtain ⟨s5,s7⟩:=(KK W9 hSw).out;go_simp);try with_reducible rfl)
  simp only [List.getElem_toArray,List.getElem_cons_zero,List.getElem_cons_succ,Act.put,List.setIfInBounds_toArray,List.set_cons_zero,List.set_cons_succ]
  refine wpAnyH_take (i:=3) (v:= ?hv3d) rfl (by kernel_rfl) (by kernel_rfl) (by kernel_rfl) (fun _ _ _ h=>h) (Or.inl ⟨by rfl,?hy3d⟩) (by assumption) ?hr3d
  case hy3d=>((intro W9 hSw;obtain ⟨s5,s7⟩:=(KK W9 hSw).out;go_simp);try with_reducible rfl)
  simp only [List.getElem_toArray,List.getElem_cons_zero,List.getElem_cons_succ,Act.put,List.setIfInBounds_toArray,List.set_cons_zero,List.set_cons_succ]
  refine wpAnyH_take (i:=5) (v:= ?hv5d) rfl (by kernel_rfl) (by kernel_rfl) (by kernel_rfl) (fun _ _ _ h=>h) (Or.inl ⟨by rfl,?hy5d⟩) (by assumption) ?hr5d
  case hy5d=>((intro W9 hSw;obtain ⟨s5,s7⟩:=(KK W9 hSw).out;go_simp);try with_reducible rfl)
  simp only [List.getElem_toArray,List.getElem_cons_zero,List.getElem_cons_succ,Act.put,List.setIfInBounds_toArray,List.set_cons_zero,List.set_cons_succ]
  refine wpAnyH_take (i:=6) (v:= ?hv6d) rfl (by kernel_rfl) (by kernel_rfl) (by kernel_rfl) (fun _ _ _ h=>h) (Or.inl ⟨by rfl,?hy6d⟩) (by assumption) ?hr6d
  case hy6d=>((intro W9 hSw;obtain ⟨s5,s7⟩:=(KK W9 hSw).out;go_simp);try with_reducible rfl)
  simp only [List.getElem_toArray,List.getElem_cons_zero,List.getElem_cons_succ,Act.put,List.setIfInBounds_toArray,List.set_cons_zero,List.set_cons_succ]
  refine wpAnyH_take (i:=7) (v:= ?hv7d) rfl (by kernel_rfl) (by kernel_rfl) (by kernel_rfl) (fun _ _ _ h=>h) (Or.inl ⟨by rfl,?hy7d⟩) (by assumption) ?hr7d
  case hy7d=>((intro W9 hSw;obtain ⟨s5,s7⟩:=(KK W9 hSw).out;go_simp);try with_reducible rfl)
  simp only [List.getElem_toArray,List.getElem_cons_zero,List.getElem_cons_succ,Act.put,List.setIfInBounds_toArray,List.set_cons_zero,List.set_cons_succ]
  refine wpAnyH_take (i:=8) (v:= ?hv8d) rfl (by kernel_rfl) (by kernel_rfl) (by kernel_rfl) (fun _ _ _ h=>h) (Or.inl ⟨by rfl,?hy8d⟩) (by assumption) ?hr8d
  case hy8d=>((intro W9 hSw;obtain ⟨s5,s7⟩:=(KK W9 hSw).out;go_simp);try with_reducible rfl)
  simp only [List.getElem_toArray,List.getElem_cons_zero,List.getElem_cons_succ,Act.put,List.setIfInBounds_toArray,List.set_cons_zero,List.set_cons_succ]
  refine wpAnyH_ready (rs:= [4,11]) (by kernel_rfl) (by simp) (AllReadyH.cons rfl (fun KK9 hK=> ?_) (AllReadyH.cons rfl (fun KK9 hK=> ?_) AllReadyH.nil))
  all_goals dsimp -proj only [List.getElem_toArray,List.getElem_cons_zero,List.getElem_cons_succ]
  ·go_simp
   go_at_call 68
   refine (HC1 wb.drew hS0).out.mono ?_
   rintro e x1 ⟨q1,c1,C,rfl,o11,e11,hb1⟩
   try go_wp2_with fail
   have hs1:Below wb.heap.size wb x1:=hS0.trans (hb1.mono hS0.size)
   have hB1:Below x1.heap.size x1 x1:=Below.refl _ _
   refine hK.out _ _ hs1 (fun hHeld=> ?_)
   clear hK KK9
   try simp only [Act.put,List.setIfInBounds_toArray,List.set_cons_zero,List.set_cons_succ]
   refine wpAnyH_ready (rs:= [9,11]) (by kernel_rfl) (by simp) (AllReadyH.cons rfl (fun KK9 hK=> ?_) (AllReadyH.cons rfl (fun KK9 hK=> ?_) AllReadyH.nil))
   all_goals dsimp -proj only [List.getElem_toArray,List.getElem_cons_zero,List.getElem_cons_succ]
   ·go_simp
    go_at_call 70
    refine (HC2 x1 hs1).out.mono ?_
    rintro e x2 ⟨q3,c3,rfl,o22,hb2⟩
    try go_wp2_with fail
    have hs2:Below wb.heap.size wb x2:=hs1.trans (hb2.mono hs1.size)
    have hB2:Below x2.heap.size x2 x2:=Below.refl _ _
    have hC2:=hB1.trans (hb2.mono hB1.size)
    refine hK.out _ _ hs2 (fun hHeld=> ?_)
    clear hK KK9
    try simp only [Act.put,List.setIfInBounds_toArray,List.set_cons_zero,List.set_cons_succ]
    refine wpAnyH_take (i:=10) (v:= ?hv10b3) rfl (by kernel_rfl) (by kernel_rfl) (by kernel_rfl) (fun _ _ _ h=>h) (Or.inl ⟨by rfl,?hy10b3⟩) (by assumption) ?hr10b3
    case hy10b3=>((intro W9 hSw;skip;go_simp);try with_reducible rfl)
    simp only [List.getElem_toArray,List.getElem_cons_zero,List.getElem_cons_succ,Act.put,List.setIfInBounds_toArray,List.set_cons_zero,List.set_cons_succ]
    refine wpAnyH_ready (rs:= [11]) (by kernel_rfl) (by simp) (AllReadyH.cons rfl (fun KK9 hK=> ?_) AllReadyH.nil)
    all_goals dsimp -proj only [List.getElem_toArray,List.getElem_cons_zero,List.getElem_cons_succ]
    ·refine step_alloc_row rfl 37 rfl iF _ hF1 hF2 ?_
     obtain ⟨x4,hw4⟩: ∃x,(x2).alloc (.cells #[.int .i64 0,.int .i64 0,.int .u64 0,.int .i64 0,.int .u64 0,.int .i64 0,.slice none 0 0,.slice none 0 0] 37)=x:=⟨_,rfl⟩
     obtain ⟨hb4,hm4,hz4⟩:=boxed _ _ _ hw4
     have hs4:Below wb.heap.size wb x4:=hs2.trans (hb4.mono hs2.size)
     have hfl4:wb.heap.size≤(x2).heap.size:=hs2.size
     have hr14:(x2).heap.size<(wb.drew).heap.size∨(x1).heap.size≤(x2).heap.size:=.inr hC2.size
     have hC14:=hC2.trans (hb4.mono hC2.size)
     have hr24:(x2).heap.size<(x1).heap.size∨(x2).heap.size≤(x2).heap.size:=.inr hB2.size
     have hC24:=hB2.trans (hb4.mono hB2.size)
     show KK9 _ ((x2).alloc (.cells #[.int .i64 0,.int .i64 0,.int .u64 0,.int .i64 0,.int .u64 0,.int .i64 0,.slice none 0 0,.slice none 0 0] 37))
     rw [hw4]
     clear hw4
     refine hK.out _ _ hs4 (fun hHeld=> ?_)
     clear hK KK9
     try simp only [Act.put,List.setIfInBounds_toArray,List.set_cons_zero,List.set_cons_succ]
     refine wpAnyH_ready (rs:= [12]) (by kernel_rfl) (by simp) (AllReadyH.cons rfl (fun KK9 hK=> ?_) AllReadyH.nil)
     all_goals dsimp -proj only [List.getElem_toArray,List.getElem_cons_zero,List.getElem_cons_succ]
     ·refine step_store_row rfl 37 _ _ rfl (x2).heap.size _ rfl rfl 37 _ hm4 (by kernel_rfl) rfl (by kernel_rfl) ?_
      obtain ⟨x5,hw5⟩: ∃x,(x4).setRow (x2).heap.size #[.int .i64 0,.int .i64 0,.int .u64 0,.int .i64 0,.int .u64 0,.int .i64 0,.slice q1 p.nq c1,.slice q3 A.m c3]=x:=⟨_,rfl⟩
      have hm5:x5.heap[(x2).heap.size]? =some (.cells #[.int .i64 0,.int .i64 0,.int .u64 0,.int .i64 0,.int .u64 0,.int .i64 0,.slice q1 p.nq c1,.slice q3 A.m c3] 37 (0,0)):=by
       rw [←hw5]
       exact setRow_heap _ _ _ _ _ _ hm4
      have hs5:Below wb.heap.size wb x5:=by
       rw [←hw5]
       exact setRow_below _ hs4 hfl4
      have hkb5:Kb (fun k9=>k9=(x2).heap.size) (x4) x5:=by
       rw [←hw5]
       exact Kb.row _ _ _ rfl
      have hrs5:RsA x5 wb.heap.size (x2).heap.size p A q1 C q3 c3:=rsA_of o11 hr14 ((Kb.below hC14).trans hkb5) hS0.size e11 HCE.out o22 hr24 ((Kb.below hC24).trans hkb5) hs1.size
      rw [hw5]
      clear hw5
      refine hK.out _ _ hs5 (fun hHeld=> ?_)
      clear hK KK9
      try simp only [Act.put,List.setIfInBounds_toArray,List.set_cons_zero,List.set_cons_succ]
      refine wpAnyH_done (by kernel_rfl) ?_ _
      go_wp2_with fail
      go_meet
      case rel=>
       exact ⟨(x2).heap.size,q1,c1,C,q3,c3,rfl,hm5,hrs5,hs5,hfl4⟩
   ·refine step_alloc_row rfl 37 rfl iF _ hF1 hF2 ?_
    obtain ⟨x6,hw6⟩: ∃x,(x1).alloc (.cells #[.int .i64 0,.int .i64 0,.int .u64 0,.int .i64 0,.int .u64 0,.int .i64 0,.slice none 0 0,.slice none 0 0] 37)=x:=⟨_,rfl⟩
    obtain ⟨hb6,hm6,hz6⟩:=boxed _ _ _ hw6
    have hs6:Below wb.heap.size wb x6:=hs1.trans (hb6.mono hs1.size)
    have hfl6:wb.heap.size≤(x1).heap.size:=hs1.size
    have hr16:(x1).heap.size<(wb.drew).heap.size∨(x1).heap.size≤(x1).heap.size:=.inr hB1.size
    have hC16:=hB1.trans (hb6.mono hB1.size)
    show KK9 _ ((x1).alloc (.cells #[.int .i64 0,.int .i64 0,.int .u64 0,.int .i64 0,.int .u64 0,.int .i64 0,.slice none 0 0,.slice none 0 0] 37))
    rw [hw6]
    clear hw6
    refine hK.out _ _ hs6 (fun hHeld=> ?_)
    clear hK KK9
    try simp only [Act.put,List.setIfInBounds_toArray,List.set_cons_zero,List.set_cons_succ]
    refine wpAnyH_ready (rs:= [9]) (by kernel_rfl) (by simp) (AllReadyH.cons rfl (fun KK9 hK=> ?_) AllReadyH.nil)
    all_goals dsimp -proj only [List.getElem_toArray,List.getElem_cons_zero,List.getElem_cons_succ]
    ·go_simp
     go_at_call 70
     refine (HC2 x6 hs6).out.mono ?_
     rintro e x7 ⟨q3,c3,rfl,o27,hb7⟩
     try go_wp2_with fail
     have hs7:Below wb.heap.size wb x7:=hs6.trans (hb7.mono hs6.size)
     have hm7:=(hb7.block _ (lt_of_block hm6)).trans hm6
     have hr7:(x1).heap.size<(x6).heap.size∨x7.heap.size≤(x1).heap.size:=.inl (lt_of_block hm6)
     have hB7:Below x7.heap.size x7 x7:=Below.refl _ _
     have hC7:=hC16.trans (hb7.mono hC16.size)
     refine hK.out _ _ hs7 (fun hHeld=> ?_)
     clear hK KK9
     try simp only [Act.put,List.setIfInBounds_toArray,List.set_cons_zero,List.set_cons_succ]
     refine wpAnyH_take (i:=10) (v:= ?hv10b8) rfl (by kernel_rfl) (by kernel_rfl) (by kernel_rfl) (fun _ _ _ h=>h) (Or.inl ⟨by rfl,?hy10b8⟩) (by assumption) ?hr10b8
     case hy10b8=>((intro W9 hSw;skip;go_simp);try with_reducible rfl)
     simp only [List.getElem_toArray,List.getElem_cons_zero,List.getElem_cons_succ,Act.put,List.setIfInBounds_toArray,List.set_cons_zero,List.set_cons_succ]
     refine wpAnyH_ready (rs:= [12]) (by kernel_rfl) (by simp) (AllReadyH.cons rfl (fun KK9 hK=> ?_) AllReadyH.nil)
     all_goals dsimp -proj only [List.getElem_toArray,List.getElem_cons_zero,List.getElem_cons_succ]
     ·refine step_store_row rfl 37 _ _ rfl (x1).heap.size _ rfl rfl 37 _ hm7 (by kernel_rfl) rfl (by kernel_rfl) ?_
      obtain ⟨x9,hw9⟩: ∃x,(x7).setRow (x1).heap.size #[.int .i64 0,.int .i64 0,.int .u64 0,.int .i64 0,.int .u64 0,.int .i64 0,.slice q1 p.nq c1,.slice q3 A.m c3]=x:=⟨_,rfl⟩
      have hm9:x9.heap[(x1).heap.size]? =some (.cells #[.int .i64 0,.int .i64 0,.int .u64 0,.int .i64 0,.int .u64 0,.int .i64 0,.slice q1 p.nq c1,.slice q3 A.m c3] 37 (0,0)):=by
       rw [←hw9]
       exact setRow_heap _ _ _ _ _ _ hm7
      have hs9:Below wb.heap.size wb x9:=by
       rw [←hw9]
       exact setRow_below _ hs7 hfl6
      have hkb9:Kb (fun k9=>k9=(x1).heap.size) (x7) x9:=by
       rw [←hw9]
       exact Kb.row _ _ _ rfl
      have hrs9:RsA x9 wb.heap.size (x1).heap.size p A q1 C q3 c3:=rsA_of o11 hr16 ((Kb.below hC7).trans hkb9) hS0.size e11 HCE.out o27 hr7 ((Kb.below hB7).trans hkb9) hs6.size
      rw [hw9]
      clear hw9
      refine hK.out _ _ hs9 (fun hHeld=> ?_)
      clear hK KK9
      try simp only [Act.put,List.setIfInBounds_toArray,List.set_cons_zero,List.set_cons_succ]
      refine wpAnyH_done (by kernel_rfl) ?_ _
      go_wp2_with fail
      go_meet
      case rel=>
       exact ⟨(x1).heap.size,q1,c1,C,q3,c3,rfl,hm9,hrs9,hs9,hfl6⟩
  ·refine step_alloc_row rfl 37 rfl iF _ hF1 hF2 ?_
   obtain ⟨x10,hw10⟩: ∃x,(wb.drew).alloc (.cells #[.int .i64 0,.int .i64 0,.int .u64 0,.int .i64 0,.int .u64 0,.int .i64 0,.slice none 0 0,.slice none 0 0] 37)=x:=⟨_,rfl⟩
   obtain ⟨hb10,hm10,hz10⟩:=boxed _ _ _ hw10
   have hs10:Below wb.heap.size wb x10:=hS0.trans (hb10.mono hS0.size)
   have hfl10:wb.heap.size≤(wb.drew).heap.size:=hS0.size
   show KK9 _ ((wb.drew).alloc (.cells #[.int .i64 0,.int .i64 0,.int .u64 0,.int .i64 0,.int .u64 0,.int .i64 0,.slice none 0 0,.slice none 0 0] 37))
   rw [hw10]
   clear hw10
   refine hK.out _ _ hs10 (fun hHeld=> ?_)
   clear hK KK9
   try simp only [Act.put,List.setIfInBounds_toArray,List.set_cons_zero,List.set_cons_succ]
   refine wpAnyH_ready (rs:= [4]) (by kernel_rfl) (by simp) (AllReadyH.cons rfl (fun KK9 hK=> ?_) AllReadyH.nil)
   all_goals dsimp -proj only [List.getElem_toArray,List.getElem_cons_zero,List.getElem_cons_succ]
   ·go_simp
    go_at_call 68
    refine (HC1 x10 hs10).out.mono ?_
    rintro e x11 ⟨q1,c1,C,rfl,o111,e111,hb11⟩
    try go_wp2_with fail
    have hs11:Below wb.heap.size wb x11:=hs10.trans (hb11.mono hs10.size)
    have hm11:=(hb11.block _ (lt_of_block hm10)).trans hm10
    have hr11:(wb.drew).heap.size<(x10).heap.size∨x11.heap.size≤(wb.drew).heap.size:=.inl (lt_of_block hm10)
    have hB11:Below x11.heap.size x11 x11:=Below.refl _ _
    refine hK.out _ _ hs11 (fun hHeld=> ?_)
    clear hK KK9
    try simp only [Act.put,List.setIfInBounds_toArray,List.set_cons_zero,List.set_cons_succ]
    refine wpAnyH_ready (rs:= [9]) (by kernel_rfl) (by simp) (AllReadyH.cons rfl (fun KK9 hK=> ?_) AllReadyH.nil)
    all_goals dsimp -proj only [List.getElem_toArray,List.getElem_cons_zero,List.getElem_cons_succ]
    ·go_simp
     go_at_call 70
     refine (HC2 x11 hs11).out.mono ?_
     rintro e x12 ⟨q3,c3,rfl,o212,hb12⟩
     try go_wp2_with fail
     have hs12:Below wb.heap.size wb x12:=hs11.trans (hb12.mono hs11.size)
     have hm12:=(hb12.block _ (lt_of_block hm11)).trans hm11
     have hr12:(wb.drew).heap.size<(x11).heap.size∨x12.heap.size≤(wb.drew).heap.size:=.inl (lt_of_block hm11)
     have hB12:Below x12.heap.size x12 x12:=Below.refl _ _
     have hC12:=hB11.trans (hb12.mono hB11.size)
     refine hK.out _ _ hs12 (fun hHeld=> ?_)
     clear hK KK9
     try simp only [Act.put,List.setIfInBounds_toArray,List.set_cons_zero,List.set_cons_succ]
     refine wpAnyH_take (i:=10) (v:= ?hv10b13) rfl (by kernel_rfl) (by kernel_rfl) (by kernel_rfl) (fun _ _ _ h=>h) (Or.inl ⟨by rfl,?hy10b13⟩) (by assumption) ?hr10b13
     case hy10b13=>((intro W9 hSw;skip;go_simp);try with_reducible rfl)
     simp only [List.getElem_toArray,List.getElem_cons_zero,List.getElem_cons_succ,Act.put,List.setIfInBounds_toArray,List.set_cons_zero,List.set_cons_succ]
     refine wpAnyH_ready (rs:= [12]) (by kernel_rfl) (by simp) (AllReadyH.cons rfl (fun KK9 hK=> ?_) AllReadyH.nil)
     all_goals dsimp -proj only [List.getElem_toArray,List.getElem_cons_zero,List.getElem_cons_succ]
     ·refine step_store_row rfl 37 _ _ rfl (wb.drew).heap.size _ rfl rfl 37 _ hm12 (by kernel_rfl) rfl (by kernel_rfl) ?_
      obtain ⟨x14,hw14⟩: ∃x,(x12).setRow (wb.drew).heap.size #[.int .i64 0,.int .i64 0,.int .u64 0,.int .i64 0,.int .u64 0,.int .i64 0,.slice q1 p.nq c1,.slice q3 A.m c3]=x:=⟨_,rfl⟩
      have hm14:x14.heap[(wb.drew).heap.size]? =some (.cells #[.int .i64 0,.int .i64 0,.int .u64 0,.int .i64 0,.int .u64 0,.int .i64 0,.slice q1 p.nq c1,.slice q3 A.m c3] 37 (0,0)):=by
       rw [←hw14]
       exact setRow_heap _ _ _ _ _ _ hm12
      have hs14:Below wb.heap.size wb x14:=by
       rw [←hw14]
       exact setRow_below _ hs12 hfl10
      have hkb14:Kb (fun k9=>k9=(wb.drew).heap.size) (x12) x14:=by
       rw [←hw14]
       exact Kb.row _ _ _ rfl
      have hrs14:RsA x14 wb.heap.size (wb.drew).heap.size p A q1 C q3 c3:=rsA_of o111 hr11 ((Kb.below hC12).trans hkb14) hs10.size e111 HCE.out o212 hr12 ((Kb.below hB12).trans hkb14) hs11.size
      rw [hw14]
      clear hw14
      refine hK.out _ _ hs14 (fun hHeld=> ?_)
      clear hK KK9
      try simp only [Act.put,List.setIfInBounds_toArray,List.set_cons_zero,List.set_cons_succ]
      refine wpAnyH_done (by kernel_rfl) ?_ _
      go_wp2_with fail
      go_meet
      case rel=>
       exact ⟨(wb.drew).heap.size,q1,c1,C,q3,c3,rfl,hm14,hrs14,hs14,hfl10⟩
 case rest=>
  obtain ⟨rb,q1,c1,C,q3,c3,rfl,hrx,hrs,hbc,hrl⟩:=hcut
  obtain ⟨x1,x2,x3,x4,x5,x6⟩:=HX.out
  have hWc:Below W.heap.size W wc:=x3.trans (hbc.mono x3.size)
  have hsimc:=x1.below hWc
  have hec:=(hbc.block W.heap.size (by omega)).trans x4
  have hne1:rb≠W.heap.size:=by omega
  have hne2:W.heap.size≠rb:=by omega
  have hne3:rb≠sb:=by omega
  have hne4:sb≠rb:=by omega
  have HRB:Hid (W.heap.size≤rb∧rb≠W.heap.size):=⟨by omega,by omega⟩
  have HSZ:Hid (W.heap.size<wb.heap.size):=(by omega:W.heap.size<wb.heap.size)
  have HSZ2:Hid (wb.heap.size=W.heap.size+1):=x5
  have k8:wc.cell? ⟨sb,8,none⟩=some (.int .i64 A.f):=cell_in hsimc.box rfl
  have HR:Hid (wc.heap[rb]? =some (.cells #[.int .i64 0,.int .i64 0,.int .u64 0,.int .i64 0,.int .u64 0,.int .i64 0,.slice q1 p.nq c1,.slice q3 A.m c3] 37 (0,0))∧wc.heap[W.heap.size]? =some (.cells #[.int .i64 0,.int .i64 0,.int .u64 0,.int .i64 0,.int .u64 0,.int .i64 0,.slice none 0 0,.slice none 0 0] 37 (0,0))∧RsA wc wb.heap.size rb p A q1 C q3 c3∧Below W.heap.size W wc∧SimR wc b0 sb p A R):=⟨hrx,hec,hrs,hWc,hsimc⟩
  by_cases hf:A.f=0
  case neg=>
   have hM:=x2 hf
   have hn0:0<R.n:=by
    obtain ⟨y,hy⟩:=hM
    obtain ⟨i9,hi9,_⟩:=(x1.set y).1 hy
    omega
   obtain ⟨g,c,hqv,hrow⟩:=hsimc.qrow hn0
   obtain ⟨e0,he0⟩: ∃e0,R.X 0=e0:=⟨_,rfl⟩
   have hlst:Lst A.M e0:=he0▸top_least x6 x1.hp x1.set hn0
   have HK:Hid (ResK p A 3 A.f e0):=.inl ⟨hf,rfl,rfl,hlst⟩
   have hbd2:Below wc.heap.size wc wc.drew:=(Below.refl _ wc).drew
   have HL:=least_any g R.n c b0 R.X hn0 wc.drew (SRow.later hrow hbd2)
   rw [he0] at HL
   have KQ: ∀w1,Below wc.heap.size wc w1→(w1.cell? ⟨sb,6,none⟩=some (.slice (some ⟨g,0,none⟩) R.n c)∧w1.cell? ⟨sb,8,none⟩=some (.int .i64 A.f)):=fun w1 hb=>by
    have hx:=(hsimc.below hb).box
    rw [hqv] at hx
    exact ⟨cell_in hx rfl,cell_in hx rfl⟩
   have KP1:=KQ _ hbd2
   have q0:(A.f !=0)=true:=by simpa using hf
   have q1':(A.f==0)=false:=by simpa using hf
   have fe1:=field_key e0.t e0.s e0.q e0.d e0.k e0.v
   clear hrx hrs hbc hrl x1 x2 x3 x4 x5 x6 hWc hsimc hec hf HX HC1 HC2 KK KP0 hbd HCE hM hn0 hqv hrow he0 hlst
   go_upto_region 4 with fail
   refine wp_region_held_drew (S:=fun W9=>(W9.cell? ⟨sb,6,none⟩=some (.slice (some ⟨g,0,none⟩) R.n c)∧W9.cell? ⟨sb,8,none⟩=some (.int .i64 A.f))) (by kernel_rfl) KP1 (fun hHeld=> ?_)
   refine wpAnyH_take (i:=0) (v:= ?hv0n) rfl (by kernel_rfl) (by kernel_rfl) (by kernel_rfl) (fun _ _ _ h=>h) (Or.inl ⟨by rfl,?hy0n⟩) (by assumption) ?hr0n
   case hy0n=>((intro W9 hSw;obtain ⟨s6,s8⟩:=hSw;go_simp);try with_reducible rfl)
   simp only [List.getElem_toArray,List.getElem_cons_zero,List.getElem_cons_succ,Act.put,List.setIfInBounds_toArray,List.set_cons_zero,List.set_cons_succ]
   refine wpAnyH_take (i:=1) (v:= ?hv1n) rfl (by kernel_rfl) (by kernel_rfl) (by kernel_rfl) (fun _ _ _ h=>h) (Or.inl ⟨by rfl,?hy1n⟩) (by assumption) ?hr1n
   case hy1n=>((intro W9 hSw;obtain ⟨s6,s8⟩:=hSw;go_simp);try with_reducible rfl)
   simp only [List.getElem_toArray,List.getElem_cons_zero,List.getElem_cons_succ,Act.put,List.setIfInBounds_toArray,List.set_cons_zero,List.set_cons_succ]
   refine wpAnyH_take (i:=2) (v:= ?hv2n) rfl (by kernel_rfl) (by kernel_rfl) (by kernel_rfl) (fun _ _ _ h=>h) (Or.inl ⟨by rfl,?hy2n⟩) (by assumption) ?hr2n
   case hy2n=>((intro W9 hSw;obtain ⟨s6,s8⟩:=hSw;go_simp);try with_reducible rfl)
   simp only [List.getElem_toArray,List.getElem_cons_zero,List.getElem_cons_succ,Act.put,List.setIfInBounds_toArray,List.set_cons_zero,List.set_cons_succ]
   refine wpAnyH_take (i:=3) (v:= ?hv3n) rfl (by kernel_rfl) (by kernel_rfl) (by kernel_rfl) (fun _ _ _ h=>h) (Or.inl ⟨by rfl,?hy3n⟩) (by assumption) ?hr3n
   case hy3n=>((intro W9 hSw;obtain ⟨s6,s8⟩:=hSw;go_simp);try with_reducible rfl)
   simp only [List.getElem_toArray,List.getElem_cons_zero,List.getElem_cons_succ,Act.put,List.setIfInBounds_toArray,List.set_cons_zero,List.set_cons_succ]
   refine wpAnyH_take (i:=4) (v:= ?hv4n) rfl (by kernel_rfl) (by kernel_rfl) (by kernel_rfl) (fun _ _ _ h=>h) (Or.inl ⟨by rfl,?hy4n⟩) (by assumption) ?hr4n
   case hy4n=>((intro W9 hSw;obtain ⟨s6,s8⟩:=hSw;go_simp);try with_reducible rfl)
   simp only [List.getElem_toArray,List.getElem_cons_zero,List.getElem_cons_succ,Act.put,List.setIfInBounds_toArray,List.set_cons_zero,List.set_cons_succ]
   refine wpAnyH_take (i:=5) (v:= ?hv5n) rfl (by kernel_rfl) (by kernel_rfl) (by kernel_rfl) (fun _ _ _ h=>h) (Or.inl ⟨by rfl,?hy5n⟩) (by assumption) ?hr5n
   case hy5n=>((intro W9 hSw;obtain ⟨s6,s8⟩:=hSw;go_simp);try with_reducible rfl)
   simp only [List.getElem_toArray,List.getElem_cons_zero,List.getElem_cons_succ,Act.put,List.setIfInBounds_toArray,List.set_cons_zero,List.set_cons_succ]
   refine wpAnyH_take (i:=6) (v:= ?hv6n) rfl (by kernel_rfl) (by kernel_rfl) (by kernel_rfl) (fun _ _ _ h=>h) (Or.inl ⟨by rfl,?hy6n⟩) (by assumption) ?hr6n
   case hy6n=>((intro W9 hSw;obtain ⟨s6,s8⟩:=hSw;go_simp);try with_reducible rfl)
   simp only [List.getElem_toArray,List.getElem_cons_zero,List.getElem_cons_succ,Act.put,List.setIfInBounds_toArray,List.set_cons_zero,List.set_cons_succ]
   refine wpAnyH_take (i:=7) (v:= ?hv7n) rfl (by kernel_rfl) (by kernel_rfl) (by kernel_rfl) (fun _ _ _ h=>h) (Or.inl ⟨by rfl,?hy7n⟩) (by assumption) ?hr7n
   case hy7n=>((intro W9 hSw;obtain ⟨s6,s8⟩:=hSw;go_simp);try with_reducible rfl)
   simp only [List.getElem_toArray,List.getElem_cons_zero,List.getElem_cons_succ,Act.put,List.setIfInBounds_toArray,List.set_cons_zero,List.set_cons_succ]
   refine wpAnyH_take (i:=10) (v:= ?hv10n) rfl (by kernel_rfl) (by kernel_rfl) (by kernel_rfl) (fun _ _ _ h=>h) (Or.inl ⟨by rfl,?hy10n⟩) (by assumption) ?hr10n
   case hy10n=>((intro W9 hSw;obtain ⟨s6,s8⟩:=hSw;go_simp);try with_reducible rfl)
   simp only [List.getElem_toArray,List.getElem_cons_zero,List.getElem_cons_succ,Act.put,List.setIfInBounds_toArray,List.set_cons_zero,List.set_cons_succ]
   refine wpAnyH_ready (rs:= [8]) (by kernel_rfl) (by simp) (AllReadyH.cons rfl (fun KK9 hK=> ?_) AllReadyH.nil)
   all_goals dsimp -proj only [List.getElem_toArray,List.getElem_cons_zero,List.getElem_cons_succ]
   go_simp
   go_at_call 64
   refine HL.mono ?_
   rintro e w1 ⟨rfl,hb1'⟩
   try go_wp2_with fail
   have hb1:Below wc.heap.size wc w1:=hbd2.trans (hb1'.mono hbd2.size)
   have hr1:=(hb1.block rb (lt_of_block HR.out.1)).trans HR.out.1
   have hK1:=KQ w1 hb1
   refine hK.out _ _ hK1 (fun hHeld=> ?_)
   clear hK KK9
   try simp only [Act.put,List.setIfInBounds_toArray,List.set_cons_zero,List.set_cons_succ]
   refine wpAnyH_take (i:=9) (v:= ?hv9n) rfl (by kernel_rfl) (by kernel_rfl) (by kernel_rfl) (fun _ _ _ h=>h) (Or.inl ⟨by rfl,?hy9n⟩) (by assumption) ?hr9n
   case hy9n=>((intro W9 hSw;skip;go_simp);try with_reducible rfl)
   simp only [List.getElem_toArray,List.getElem_cons_zero,List.getElem_cons_succ,Act.put,List.setIfInBounds_toArray,List.set_cons_zero,List.set_cons_succ]
   have l0:w1.cell? ⟨rb,0,none⟩=some (.int .i64 0):=cell_in hr1 rfl
   have l1:w1.cell? ⟨rb,1,none⟩=some (.int .i64 0):=cell_in hr1 rfl
   have l2:w1.cell? ⟨rb,2,none⟩=some (.int .u64 0):=cell_in hr1 rfl
   have l3:w1.cell? ⟨rb,3,none⟩=some (.int .i64 0):=cell_in hr1 rfl
   have l4:w1.cell? ⟨rb,4,none⟩=some (.int .u64 0):=cell_in hr1 rfl
   have l5:w1.cell? ⟨rb,5,none⟩=some (.int .i64 0):=cell_in hr1 rfl
   have l6:w1.cell? ⟨rb,6,none⟩=some (.slice q1 p.nq c1):=cell_in hr1 rfl
   have l7:w1.cell? ⟨rb,7,none⟩=some (.slice q3 A.m c3):=cell_in hr1 rfl
   have hfr:=fun k9=>frz hr1 k9
   refine wpAnyH_ready (rs:= [11]) (by kernel_rfl) (by simp) (AllReadyH.cons rfl (fun KK9 hK=> ?_) AllReadyH.nil)
   all_goals dsimp -proj only [List.getElem_toArray,List.getElem_cons_zero,List.getElem_cons_succ]
   go_simp
   refine hK.out _ _ ⟨(World.cell?_of_block (Below.heap_setCell _ _ _ _ hne4)).trans hK1.1,(World.cell?_of_block (Below.heap_setCell _ _ _ _ hne4)).trans hK1.2⟩ (fun hHeld=> ?_)
   have hK2:=hHeld
   clear hK KK9
   try simp only [Act.put,List.setIfInBounds_toArray,List.set_cons_zero,List.set_cons_succ]
   refine wpAnyH_take (i:=12) (v:= ?hv12n) rfl (by kernel_rfl) (by kernel_rfl) (by kernel_rfl) (fun _ _ _ h=>h) (Or.inl ⟨by rfl,?hy12n⟩) (by assumption) ?hr12n
   case hy12n=>((intro W9 hSw;obtain ⟨s6,s8⟩:=hSw;go_simp);try with_reducible rfl)
   simp only [List.getElem_toArray,List.getElem_cons_zero,List.getElem_cons_succ,Act.put,List.setIfInBounds_toArray,List.set_cons_zero,List.set_cons_succ]
   refine wpAnyH_ready (rs:= [13]) (by kernel_rfl) (by simp) (AllReadyH.cons rfl (fun KK9 hK=> ?_) AllReadyH.nil)
   all_goals dsimp -proj only [List.getElem_toArray,List.getElem_cons_zero,List.getElem_cons_succ]
   go_simp
   refine hK.out _ _ ⟨(World.cell?_of_block (Below.heap_setCell _ _ _ _ hne4)).trans hK2.1,(World.cell?_of_block (Below.heap_setCell _ _ _ _ hne4)).trans hK2.2⟩ (fun hHeld=> ?_)
   have hK3:=hHeld
   clear hK KK9
   try simp only [Act.put,List.setIfInBounds_toArray,List.set_cons_zero,List.set_cons_succ]
   refine wpAnyH_take (i:=14) (v:= ?hv14n) rfl (by kernel_rfl) (by kernel_rfl) (by kernel_rfl) (fun _ _ _ h=>h) (Or.inl ⟨by rfl,?hy14n⟩) (by assumption) ?hr14n
   case hy14n=>((intro W9 hSw;obtain ⟨s6,s8⟩:=hSw;go_simp);try with_reducible rfl)
   simp only [List.getElem_toArray,List.getElem_cons_zero,List.getElem_cons_succ,Act.put,List.setIfInBounds_toArray,List.set_cons_zero,List.set_cons_succ]
   refine wpAnyH_ready (rs:= [15]) (by kernel_rfl) (by simp) (AllReadyH.cons rfl (fun KK9 hK=> ?_) AllReadyH.nil)
   all_goals dsimp -proj only [List.getElem_toArray,List.getElem_cons_zero,List.getElem_cons_succ]
   go_simp
   refine hK.out _ _ ⟨(World.cell?_of_block ((Below.heap_setCell _ _ _ _ hne4).trans ((Below.heap_setCell _ _ _ _ hne4).trans (Below.heap_setCell _ _ _ _ hne4)))).trans hK3.1,(World.cell?_of_block ((Below.heap_setCell _ _ _ _ hne4).trans ((Below.heap_setCell _ _ _ _ hne4).trans (Below.heap_setCell _ _ _ _ hne4)))).trans hK3.2⟩ (fun hHeld=> ?_)
   clear hK KK9
   try simp only [Act.put,List.setIfInBounds_toArray,List.set_cons_zero,List.set_cons_succ]
   refine wpAnyH_done (by kernel_rfl) ?_ _
   go_upto_region 9 with fail
   have hrw:=hr1
   have hew:=(hb1.block W.heap.size (lt_of_block HR.out.2.1)).trans HR.out.2.1
   have hbw:=HR.out.2.2.2.1.trans (hb1.mono HR.out.2.2.2.1.size)
   have hrsw:=HR.out.2.2.1.kb (Kb.below hb1)
   clear l0 l1 l2 l3 l4 l5 l6 l7 hfr k8 hK1 hK2 hK3 hHeld KQ KP1 HL
   obtain ⟨wz,hwz⟩: ∃wz,(((((w1).setCell ⟨rb,0,none⟩ (.int .i64 3)).setCell ⟨rb,1,none⟩ (.int .i64 A.f)).setCell ⟨rb,2,none⟩ (.int .u64 e0.t)).setCell ⟨rb,3,none⟩ (.int .i64 e0.s)).setCell ⟨rb,4,none⟩ (.int .u64 e0.q)=wz:=⟨_,rfl⟩
   rw [hwz]
   have hrz:wz.heap[rb]? =some (.cells #[.int .i64 3,.int .i64 A.f,.int .u64 e0.t,.int .i64 e0.s,.int .u64 e0.q,.int .i64 0,.slice q1 p.nq c1,.slice q3 A.m c3] 37 (0,0)):=by
    rw [←hwz,setCell_block _ _ _ _ (setCell_block _ _ _ _ (setCell_block _ _ _ _ (setCell_block _ _ _ _ (setCell_block _ _ _ _ hrw))))]
    rfl
   have hkz:Kb (fun k9=>k9=rb) w1 wz:=by
    rw [←hwz]
    exact (((((Kb.set (S:=fun k9=>k9=rb) _ _ _ _ rfl).trans (Kb.set _ _ _ _ rfl)).trans (Kb.set _ _ _ _ rfl)).trans (Kb.set _ _ _ _ rfl)).trans (Kb.set _ _ _ _ rfl))
   have hez:wz.heap[W.heap.size]? =some (.cells #[.int .i64 0,.int .i64 0,.int .u64 0,.int .i64 0,.int .u64 0,.int .i64 0,.slice none 0 0,.slice none 0 0] 37 (0,0)):=(hkz.block _ (lt_of_block hew) (fun e9=>HRB.out.2 e9.symm)).trans hew
   have hrsz:RsA wz wb.heap.size rb p A q1 C q3 c3:=hrsw.kb (hkz.wide fun k9 e9=>.inr e9)
   have hbz:Below W.heap.size W wz:=by
    rw [←hwz]
    exact (((((hbw.setCell (p:=⟨rb,0,none⟩) HRB.out.1 _).setCell (p:=⟨rb,1,none⟩) HRB.out.1 _).setCell (p:=⟨rb,2,none⟩) HRB.out.1 _).setCell (p:=⟨rb,3,none⟩) HRB.out.1 _).setCell (p:=⟨rb,4,none⟩) HRB.out.1 _)
   clear hwz hkz hrw hew hbw hrsw
   have hfr:=fun k9=>frz hrz k9
   have hfe:=fun k9=>frz hez k9
   have l0:wz.cell? ⟨rb,0,none⟩=some (.int .i64 3):=cell_in hrz rfl
   have l1:wz.cell? ⟨rb,1,none⟩=some (.int .i64 A.f):=cell_in hrz rfl
   have l2:wz.cell? ⟨rb,2,none⟩=some (.int .u64 e0.t):=cell_in hrz rfl
   have l3:wz.cell? ⟨rb,3,none⟩=some (.int .i64 e0.s):=cell_in hrz rfl
   have l4:wz.cell? ⟨rb,4,none⟩=some (.int .u64 e0.q):=cell_in hrz rfl
   have l5:wz.cell? ⟨rb,5,none⟩=some (.int .i64 0):=cell_in hrz rfl
   have l6:wz.cell? ⟨rb,6,none⟩=some (.slice q1 p.nq c1):=cell_in hrz rfl
   have l7:wz.cell? ⟨rb,7,none⟩=some (.slice q3 A.m c3):=cell_in hrz rfl
   have m0:wz.cell? ⟨W.heap.size,0,none⟩=some (.int .i64 0):=cell_in hez rfl
   have m1:wz.cell? ⟨W.heap.size,1,none⟩=some (.int .i64 0):=cell_in hez rfl
   have m2:wz.cell? ⟨W.heap.size,2,none⟩=some (.int .u64 0):=cell_in hez rfl
   have m3:wz.cell? ⟨W.heap.size,3,none⟩=some (.int .i64 0):=cell_in hez rfl
   have m4:wz.cell? ⟨W.heap.size,4,none⟩=some (.int .u64 0):=cell_in hez rfl
   have m5:wz.cell? ⟨W.heap.size,5,none⟩=some (.int .i64 0):=cell_in hez rfl
   have m6:wz.cell? ⟨W.heap.size,6,none⟩=some (.slice none 0 0):=cell_in hez rfl
   have m7:wz.cell? ⟨W.heap.size,7,none⟩=some (.slice none 0 0):=cell_in hez rfl
   have HZ:Hid (wz.heap[W.heap.size]? =some (.cells #[.int .i64 0,.int .i64 0,.int .u64 0,.int .i64 0,.int .u64 0,.int .i64 0,.slice none 0 0,.slice none 0 0] 37 (0,0))∧RsA wz wb.heap.size rb p A q1 C q3 c3∧Below W.heap.size W wz):=⟨hez,hrsz,hbz⟩
   clear hrz hez hrsz hbz
   go_wp2_with fail
   generalize hWF:(World.setCell (World.setCell (World.setCell (World.setCell (World.setCell (World.setCell (World.setCell (World.setCell wz _ _) _ _) _ _) _ _) _ _) _ _) _ _) _ _)=wF
   have hres:wF.heap[W.heap.size]? =some (.cells #[.int .i64 3,.int .i64 A.f,.int .u64 e0.t,.int .i64 e0.s,.int .u64 e0.q,.int .i64 0,.slice q1 p.nq c1,.slice q3 A.m c3] 37 (0,0)):=by
    rw [←hWF,setCell_block _ _ _ _ (setCell_block _ _ _ _ (setCell_block _ _ _ _ (setCell_block _ _ _ _ (setCell_block _ _ _ _ (setCell_block _ _ _ _ (setCell_block _ _ _ _ (setCell_block _ _ _ _ HZ.out.1)))))))]
    rfl
   have hkF:Kb (fun k9=>k9<wb.heap.size∨k9=rb) wz wF:=by
    rw [←hWF]
    exact ((((((((Kb.set (S:=fun k9=>k9<wb.heap.size∨k9=rb) _ _ _ _ (.inl HSZ.out)).trans (Kb.set _ _ _ _ (.inl HSZ.out))).trans (Kb.set _ _ _ _ (.inl HSZ.out))).trans (Kb.set _ _ _ _ (.inl HSZ.out))).trans (Kb.set _ _ _ _ (.inl HSZ.out))).trans (Kb.set _ _ _ _ (.inl HSZ.out))).trans (Kb.set _ _ _ _ (.inl HSZ.out))).trans (Kb.set _ _ _ _ (.inl HSZ.out)))
   have hbF:Below W.heap.size W wF:=by
    rw [←hWF]
    exact ((((((((HZ.out.2.2.setCell (p:=⟨W.heap.size,0,none⟩) (Nat.le_refl _) _).setCell (p:=⟨W.heap.size,1,none⟩) (Nat.le_refl _) _).setCell (p:=⟨W.heap.size,2,none⟩) (Nat.le_refl _) _).setCell (p:=⟨W.heap.size,3,none⟩) (Nat.le_refl _) _).setCell (p:=⟨W.heap.size,4,none⟩) (Nat.le_refl _) _).setCell (p:=⟨W.heap.size,5,none⟩) (Nat.le_refl _) _).setCell (p:=⟨W.heap.size,6,none⟩) (Nat.le_refl _) _).setCell (p:=⟨W.heap.size,7,none⟩) (Nat.le_refl _) _)
   have z0:wF.cell? ⟨W.heap.size,0,none⟩=some (.int .i64 3):=cell_in hres rfl
   have z1:wF.cell? ⟨W.heap.size,1,none⟩=some (.int .i64 A.f):=cell_in hres rfl
   have z2:wF.cell? ⟨W.heap.size,2,none⟩=some (.int .u64 e0.t):=cell_in hres rfl
   have z3:wF.cell? ⟨W.heap.size,3,none⟩=some (.int .i64 e0.s):=cell_in hres rfl
   have z4:wF.cell? ⟨W.heap.size,4,none⟩=some (.int .u64 e0.q):=cell_in hres rfl
   have z5:wF.cell? ⟨W.heap.size,5,none⟩=some (.int .i64 0):=cell_in hres rfl
   have z6:wF.cell? ⟨W.heap.size,6,none⟩=some (.slice q1 p.nq c1):=cell_in hres rfl
   have z7:wF.cell? ⟨W.heap.size,7,none⟩=some (.slice q3 A.m c3):=cell_in hres rfl
   refine bodyPost_ret (v:=.agg #[.int .i64 3,.int .i64 A.f,.int .u64 e0.t,.int .i64 e0.s,.int .u64 e0.q,.int .i64 0,.slice q1 p.nq c1,.slice q3 A.m c3]) (by simp [results,Tryz.results46,go_sem,z0,z1,z2,z3,z4,z5,z6,z7];try rfl) rfl ?_
   exact ⟨3,A.f,e0,q1,c1,C,q3,c3,rfl,HK.out,⟨rb,HSZ2.out▸HZ.out.2.1.kb hkF⟩,hbF⟩
  have HI:=idle_any wc b0 sb p A R hsimc
  have HSP: ∀w1,Below wc.heap.size wc w1→Hid (Calls Tryz.prog 63 #[.pointer (some ⟨sb,0,none⟩)] w1 fun e w'=>e=.returned (.bool (decide (p.bu≤(A.m:Int))))∧Below w1.heap.size w1 w'):=fun w1 hb=>spent_any w1 b0 sb p A R (hsimc.below hb)
  have q0:(A.f !=0)=false:=by simpa using hf
  have q1':(A.f==0)=true:=by simpa using hf
  have HF0:Hid (A.f=0):=hf
  clear hrx hrs hbc hrl x1 x2 x3 x4 x5 x6 hWc hsimc hec hf HX HC1 HC2 KK KP0 hbd HCE
  by_cases hi:Idle p A
  case pos=>
   have HI:=bcall (b0:=true) HI ⟨fun _=>hi,fun _=>rfl⟩
   have HK:Hid (ResK p A 1 0 zeroE):=.inr ⟨HF0.out,rfl,.inl ⟨hi,rfl,rfl⟩⟩
   clear hi
   go_upto_region 9 with (go_at_call 62;(with_reducible refine HI.mono ?_);rintro e w1 ⟨rfl,hb1⟩;have hr1:=(hb1.block rb (lt_of_block HR.out.1)).trans HR.out.1;have hv1:w1.cell? ⟨rb,0,none⟩=some (.int .i64 0):=(cell_in hr1 rfl);have hz1:=frz hr1 0)
   have hrw:=hr1
   have hew:=(hb1.block W.heap.size (lt_of_block HR.out.2.1)).trans HR.out.2.1
   have hbw:=HR.out.2.2.2.1.trans (hb1.mono HR.out.2.2.2.1.size)
   have hrsw:=HR.out.2.2.1.kb (Kb.below hb1)
   clear hv1 hz1 k8
   obtain ⟨wz,hwz⟩: ∃wz,(w1).setCell ⟨rb,0,none⟩ (.int .i64 1)=wz:=⟨_,rfl⟩
   rw [hwz]
   have hrz:wz.heap[rb]? =some (.cells #[.int .i64 1,.int .i64 0,.int .u64 0,.int .i64 0,.int .u64 0,.int .i64 0,.slice q1 p.nq c1,.slice q3 A.m c3] 37 (0,0)):=by
    rw [←hwz,setCell_block _ _ _ _ hrw]
    rfl
   have hkz:Kb (fun k9=>k9=rb) w1 wz:=by
    rw [←hwz]
    exact (Kb.set (S:=fun k9=>k9=rb) _ _ _ _ rfl)
   have hez:wz.heap[W.heap.size]? =some (.cells #[.int .i64 0,.int .i64 0,.int .u64 0,.int .i64 0,.int .u64 0,.int .i64 0,.slice none 0 0,.slice none 0 0] 37 (0,0)):=(hkz.block _ (lt_of_block hew) (fun e9=>HRB.out.2 e9.symm)).trans hew
   have hrsz:RsA wz wb.heap.size rb p A q1 C q3 c3:=hrsw.kb (hkz.wide fun k9 e9=>.inr e9)
   have hbz:Below W.heap.size W wz:=by
    rw [←hwz]
    exact (hbw.setCell (p:=⟨rb,0,none⟩) HRB.out.1 _)
   clear hwz hkz hrw hew hbw hrsw
   have hfr:=fun k9=>frz hrz k9
   have hfe:=fun k9=>frz hez k9
   have l0:wz.cell? ⟨rb,0,none⟩=some (.int .i64 1):=cell_in hrz rfl
   have l1:wz.cell? ⟨rb,1,none⟩=some (.int .i64 0):=cell_in hrz rfl
   have l2:wz.cell? ⟨rb,2,none⟩=some (.int .u64 0):=cell_in hrz rfl
   have l3:wz.cell? ⟨rb,3,none⟩=some (.int .i64 0):=cell_in hrz rfl
   have l4:wz.cell? ⟨rb,4,none⟩=some (.int .u64 0):=cell_in hrz rfl
   have l5:wz.cell? ⟨rb,5,none⟩=some (.int .i64 0):=cell_in hrz rfl
   have l6:wz.cell? ⟨rb,6,none⟩=some (.slice q1 p.nq c1):=cell_in hrz rfl
   have l7:wz.cell? ⟨rb,7,none⟩=some (.slice q3 A.m c3):=cell_in hrz rfl
   have m0:wz.cell? ⟨W.heap.size,0,none⟩=some (.int .i64 0):=cell_in hez rfl
   have m1:wz.cell? ⟨W.heap.size,1,none⟩=some (.int .i64 0):=cell_in hez rfl
   have m2:wz.cell? ⟨W.heap.size,2,none⟩=some (.int .u64 0):=cell_in hez rfl
   have m3:wz.cell? ⟨W.heap.size,3,none⟩=some (.int .i64 0):=cell_in hez rfl
   have m4:wz.cell? ⟨W.heap.size,4,none⟩=some (.int .u64 0):=cell_in hez rfl
   have m5:wz.cell? ⟨W.heap.size,5,none⟩=some (.int .i64 0):=cell_in hez rfl
   have m6:wz.cell? ⟨W.heap.size,6,none⟩=some (.slice none 0 0):=cell_in hez rfl
   have m7:wz.cell? ⟨W.heap.size,7,none⟩=some (.slice none 0 0):=cell_in hez rfl
   have HZ:Hid (wz.heap[W.heap.size]? =some (.cells #[.int .i64 0,.int .i64 0,.int .u64 0,.int .i64 0,.int .u64 0,.int .i64 0,.slice none 0 0,.slice none 0 0] 37 (0,0))∧RsA wz wb.heap.size rb p A q1 C q3 c3∧Below W.heap.size W wz):=⟨hez,hrsz,hbz⟩
   clear hrz hez hrsz hbz
   go_wp2_with fail
   generalize hWF:(World.setCell (World.setCell (World.setCell (World.setCell (World.setCell (World.setCell (World.setCell (World.setCell wz _ _) _ _) _ _) _ _) _ _) _ _) _ _) _ _)=wF
   have hres:wF.heap[W.heap.size]? =some (.cells #[.int .i64 1,.int .i64 0,.int .u64 0,.int .i64 0,.int .u64 0,.int .i64 0,.slice q1 p.nq c1,.slice q3 A.m c3] 37 (0,0)):=by
    rw [←hWF,setCell_block _ _ _ _ (setCell_block _ _ _ _ (setCell_block _ _ _ _ (setCell_block _ _ _ _ (setCell_block _ _ _ _ (setCell_block _ _ _ _ (setCell_block _ _ _ _ (setCell_block _ _ _ _ HZ.out.1)))))))]
    rfl
   have hkF:Kb (fun k9=>k9<wb.heap.size∨k9=rb) wz wF:=by
    rw [←hWF]
    exact ((((((((Kb.set (S:=fun k9=>k9<wb.heap.size∨k9=rb) _ _ _ _ (.inl HSZ.out)).trans (Kb.set _ _ _ _ (.inl HSZ.out))).trans (Kb.set _ _ _ _ (.inl HSZ.out))).trans (Kb.set _ _ _ _ (.inl HSZ.out))).trans (Kb.set _ _ _ _ (.inl HSZ.out))).trans (Kb.set _ _ _ _ (.inl HSZ.out))).trans (Kb.set _ _ _ _ (.inl HSZ.out))).trans (Kb.set _ _ _ _ (.inl HSZ.out)))
   have hbF:Below W.heap.size W wF:=by
    rw [←hWF]
    exact ((((((((HZ.out.2.2.setCell (p:=⟨W.heap.size,0,none⟩) (Nat.le_refl _) _).setCell (p:=⟨W.heap.size,1,none⟩) (Nat.le_refl _) _).setCell (p:=⟨W.heap.size,2,none⟩) (Nat.le_refl _) _).setCell (p:=⟨W.heap.size,3,none⟩) (Nat.le_refl _) _).setCell (p:=⟨W.heap.size,4,none⟩) (Nat.le_refl _) _).setCell (p:=⟨W.heap.size,5,none⟩) (Nat.le_refl _) _).setCell (p:=⟨W.heap.size,6,none⟩) (Nat.le_refl _) _).setCell (p:=⟨W.heap.size,7,none⟩) (Nat.le_refl _) _)
   have z0:wF.cell? ⟨W.heap.size,0,none⟩=some (.int .i64 1):=cell_in hres rfl
   have z1:wF.cell? ⟨W.heap.size,1,none⟩=some (.int .i64 0):=cell_in hres rfl
   have z2:wF.cell? ⟨W.heap.size,2,none⟩=some (.int .u64 0):=cell_in hres rfl
   have z3:wF.cell? ⟨W.heap.size,3,none⟩=some (.int .i64 0):=cell_in hres rfl
   have z4:wF.cell? ⟨W.heap.size,4,none⟩=some (.int .u64 0):=cell_in hres rfl
   have z5:wF.cell? ⟨W.heap.size,5,none⟩=some (.int .i64 0):=cell_in hres rfl
   have z6:wF.cell? ⟨W.heap.size,6,none⟩=some (.slice q1 p.nq c1):=cell_in hres rfl
   have z7:wF.cell? ⟨W.heap.size,7,none⟩=some (.slice q3 A.m c3):=cell_in hres rfl
   refine bodyPost_ret (v:=.agg #[.int .i64 1,.int .i64 0,.int .u64 0,.int .i64 0,.int .u64 0,.int .i64 0,.slice q1 p.nq c1,.slice q3 A.m c3]) (by simp [results,Tryz.results46,go_sem,z0,z1,z2,z3,z4,z5,z6,z7];try rfl) rfl ?_
   exact ⟨1,0,zeroE,q1,c1,C,q3,c3,rfl,HK.out,⟨rb,HSZ2.out▸HZ.out.2.1.kb hkF⟩,hbF⟩
  have HI:=bcall (b0:=false) HI ⟨fun e=>(by cases e),fun e=>absurd e hi⟩
  by_cases hs:Spent p A
  case pos=>
   have d0:decide (p.bu≤(A.m:Int))=true:=decide_eq_true hs
   have HK:Hid (ResK p A 2 0 zeroE):=.inr ⟨HF0.out,rfl,.inr ⟨hi,.inl ⟨hs,rfl,rfl⟩⟩⟩
   rw [d0] at HSP
   clear hi hs d0
   go_upto_region 9 with (first|(go_at_call 62;(with_reducible refine HI.mono ?_);rintro e w0 ⟨rfl,hb0'⟩)|(go_at_call 63;(with_reducible refine (HSP w0 hb0').out.mono ?_);rintro e w1 ⟨rfl,hb1'⟩;have hb1:Below wc.heap.size wc w1:=hb0'.trans (hb1'.mono hb0'.size);have hr1:=(hb1.block rb (lt_of_block HR.out.1)).trans HR.out.1;have hv1:w1.cell? ⟨rb,0,none⟩=some (.int .i64 0):=(cell_in hr1 rfl);have hz1:=frz hr1 0))
   have hrw:=hr1
   have hew:=(hb1.block W.heap.size (lt_of_block HR.out.2.1)).trans HR.out.2.1
   have hbw:=HR.out.2.2.2.1.trans (hb1.mono HR.out.2.2.2.1.size)
   have hrsw:=HR.out.2.2.1.kb (Kb.below hb1)
   clear hv1 hz1 k8
   obtain ⟨wz,hwz⟩: ∃wz,(w1).setCell ⟨rb,0,none⟩ (.int .i64 2)=wz:=⟨_,rfl⟩
   rw [hwz]
   have hrz:wz.heap[rb]? =some (.cells #[.int .i64 2,.int .i64 0,.int .u64 0,.int .i64 0,.int .u64 0,.int .i64 0,.slice q1 p.nq c1,.slice q3 A.m c3] 37 (0,0)):=by
    rw [←hwz,setCell_block _ _ _ _ hrw]
    rfl
   have hkz:Kb (fun k9=>k9=rb) w1 wz:=by
    rw [←hwz]
    exact (Kb.set (S:=fun k9=>k9=rb) _ _ _ _ rfl)
   have hez:wz.heap[W.heap.size]? =some (.cells #[.int .i64 0,.int .i64 0,.int .u64 0,.int .i64 0,.int .u64 0,.int .i64 0,.slice none 0 0,.slice none 0 0] 37 (0,0)):=(hkz.block _ (lt_of_block hew) (fun e9=>HRB.out.2 e9.symm)).trans hew
   have hrsz:RsA wz wb.heap.size rb p A q1 C q3 c3:=hrsw.kb (hkz.wide fun k9 e9=>.inr e9)
   have hbz:Below W.heap.size W wz:=by
    rw [←hwz]
    exact (hbw.setCell (p:=⟨rb,0,none⟩) HRB.out.1 _)
   clear hwz hkz hrw hew hbw hrsw
   have hfr:=fun k9=>frz hrz k9
   have hfe:=fun k9=>frz hez k9
   have l0:wz.cell? ⟨rb,0,none⟩=some (.int .i64 2):=cell_in hrz rfl
   have l1:wz.cell? ⟨rb,1,none⟩=some (.int .i64 0):=cell_in hrz rfl
   have l2:wz.cell? ⟨rb,2,none⟩=some (.int .u64 0):=cell_in hrz rfl
   have l3:wz.cell? ⟨rb,3,none⟩=some (.int .i64 0):=cell_in hrz rfl
   have l4:wz.cell? ⟨rb,4,none⟩=some (.int .u64 0):=cell_in hrz rfl
   have l5:wz.cell? ⟨rb,5,none⟩=some (.int .i64 0):=cell_in hrz rfl
   have l6:wz.cell? ⟨rb,6,none⟩=some (.slice q1 p.nq c1):=cell_in hrz rfl
   have l7:wz.cell? ⟨rb,7,none⟩=some (.slice q3 A.m c3):=cell_in hrz rfl
   have m0:wz.cell? ⟨W.heap.size,0,none⟩=some (.int .i64 0):=cell_in hez rfl
   have m1:wz.cell? ⟨W.heap.size,1,none⟩=some (.int .i64 0):=cell_in hez rfl
   have m2:wz.cell? ⟨W.heap.size,2,none⟩=some (.int .u64 0):=cell_in hez rfl
   have m3:wz.cell? ⟨W.heap.size,3,none⟩=some (.int .i64 0):=cell_in hez rfl
   have m4:wz.cell? ⟨W.heap.size,4,none⟩=some (.int .u64 0):=cell_in hez rfl
   have m5:wz.cell? ⟨W.heap.size,5,none⟩=some (.int .i64 0):=cell_in hez rfl
   have m6:wz.cell? ⟨W.heap.size,6,none⟩=some (.slice none 0 0):=cell_in hez rfl
   have m7:wz.cell? ⟨W.heap.size,7,none⟩=some (.slice none 0 0):=cell_in hez rfl
   have HZ:Hid (wz.heap[W.heap.size]? =some (.cells #[.int .i64 0,.int .i64 0,.int .u64 0,.int .i64 0,.int .u64 0,.int .i64 0,.slice none 0 0,.slice none 0 0] 37 (0,0))∧RsA wz wb.heap.size rb p A q1 C q3 c3∧Below W.heap.size W wz):=⟨hez,hrsz,hbz⟩
   clear hrz hez hrsz hbz
   go_wp2_with fail
   generalize hWF:(World.setCell (World.setCell (World.setCell (World.setCell (World.setCell (World.setCell (World.setCell (World.setCell wz _ _) _ _) _ _) _ _) _ _) _ _) _ _) _ _)=wF
   have hres:wF.heap[W.heap.size]? =some (.cells #[.int .i64 2,.int .i64 0,.int .u64 0,.int .i64 0,.int .u64 0,.int .i64 0,.slice q1 p.nq c1,.slice q3 A.m c3] 37 (0,0)):=by
    rw [←hWF,setCell_block _ _ _ _ (setCell_block _ _ _ _ (setCell_block _ _ _ _ (setCell_block _ _ _ _ (setCell_block _ _ _ _ (setCell_block _ _ _ _ (setCell_block _ _ _ _ (setCell_block _ _ _ _ HZ.out.1)))))))]
    rfl
   have hkF:Kb (fun k9=>k9<wb.heap.size∨k9=rb) wz wF:=by
    rw [←hWF]
    exact ((((((((Kb.set (S:=fun k9=>k9<wb.heap.size∨k9=rb) _ _ _ _ (.inl HSZ.out)).trans (Kb.set _ _ _ _ (.inl HSZ.out))).trans (Kb.set _ _ _ _ (.inl HSZ.out))).trans (Kb.set _ _ _ _ (.inl HSZ.out))).trans (Kb.set _ _ _ _ (.inl HSZ.out))).trans (Kb.set _ _ _ _ (.inl HSZ.out))).trans (Kb.set _ _ _ _ (.inl HSZ.out))).trans (Kb.set _ _ _ _ (.inl HSZ.out)))
   have hbF:Below W.heap.size W wF:=by
    rw [←hWF]
    exact ((((((((HZ.out.2.2.setCell (p:=⟨W.heap.size,0,none⟩) (Nat.le_refl _) _).setCell (p:=⟨W.heap.size,1,none⟩) (Nat.le_refl _) _).setCell (p:=⟨W.heap.size,2,none⟩) (Nat.le_refl _) _).setCell (p:=⟨W.heap.size,3,none⟩) (Nat.le_refl _) _).setCell (p:=⟨W.heap.size,4,none⟩) (Nat.le_refl _) _).setCell (p:=⟨W.heap.size,5,none⟩) (Nat.le_refl _) _).setCell (p:=⟨W.heap.size,6,none⟩) (Nat.le_refl _) _).setCell (p:=⟨W.heap.size,7,none⟩) (Nat.le_refl _) _)
   have z0:wF.cell? ⟨W.heap.size,0,none⟩=some (.int .i64 2):=cell_in hres rfl
   have z1:wF.cell? ⟨W.heap.size,1,none⟩=some (.int .i64 0):=cell_in hres rfl
   have z2:wF.cell? ⟨W.heap.size,2,none⟩=some (.int .u64 0):=cell_in hres rfl
   have z3:wF.cell? ⟨W.heap.size,3,none⟩=some (.int .i64 0):=cell_in hres rfl
   have z4:wF.cell? ⟨W.heap.size,4,none⟩=some (.int .u64 0):=cell_in hres rfl
   have z5:wF.cell? ⟨W.heap.size,5,none⟩=some (.int .i64 0):=cell_in hres rfl
   have z6:wF.cell? ⟨W.heap.size,6,none⟩=some (.slice q1 p.nq c1):=cell_in hres rfl
   have z7:wF.cell? ⟨W.heap.size,7,none⟩=some (.slice q3 A.m c3):=cell_in hres rfl
   refine bodyPost_ret (v:=.agg #[.int .i64 2,.int .i64 0,.int .u64 0,.int .i64 0,.int .u64 0,.int .i64 0,.slice q1 p.nq c1,.slice q3 A.m c3]) (by simp [results,Tryz.results46,go_sem,z0,z1,z2,z3,z4,z5,z6,z7];try rfl) rfl ?_
   exact ⟨2,0,zeroE,q1,c1,C,q3,c3,rfl,HK.out,⟨rb,HSZ2.out▸HZ.out.2.1.kb hkF⟩,hbF⟩
  have d0:decide (p.bu≤(A.m:Int))=false:=decide_eq_false hs
  have HK:Hid (ResK p A 5 140 zeroE):=.inr ⟨HF0.out,rfl,.inr ⟨hi,.inr ⟨hs,rfl,rfl⟩⟩⟩
  rw [d0] at HSP
  clear hi hs d0
  go_upto_region 9 with (first|(go_at_call 62;(with_reducible refine HI.mono ?_);rintro e w0 ⟨rfl,hb0'⟩)|(go_at_call 63;(with_reducible refine (HSP w0 hb0').out.mono ?_);rintro e w1 ⟨rfl,hb1'⟩;have hb1:Below wc.heap.size wc w1:=hb0'.trans (hb1'.mono hb0'.size);have hr1:=(hb1.block rb (lt_of_block HR.out.1)).trans HR.out.1;have hv1:w1.cell? ⟨rb,0,none⟩=some (.int .i64 0):=(cell_in hr1 rfl);have hv2:w1.cell? ⟨rb,1,none⟩=some (.int .i64 0):=(cell_in hr1 rfl);have hz1:=frz hr1))
  have hrw:=hr1
  have hew:=(hb1.block W.heap.size (lt_of_block HR.out.2.1)).trans HR.out.2.1
  have hbw:=HR.out.2.2.2.1.trans (hb1.mono HR.out.2.2.2.1.size)
  have hrsw:=HR.out.2.2.1.kb (Kb.below hb1)
  clear hv1 hv2 hz1 k8
  obtain ⟨wz,hwz⟩: ∃wz,((w1).setCell ⟨rb,0,none⟩ (.int .i64 5)).setCell ⟨rb,1,none⟩ (.int .i64 140)=wz:=⟨_,rfl⟩
  rw [hwz]
  have hrz:wz.heap[rb]? =some (.cells #[.int .i64 5,.int .i64 140,.int .u64 0,.int .i64 0,.int .u64 0,.int .i64 0,.slice q1 p.nq c1,.slice q3 A.m c3] 37 (0,0)):=by
   rw [←hwz,setCell_block _ _ _ _ (setCell_block _ _ _ _ hrw)]
   rfl
  have hkz:Kb (fun k9=>k9=rb) w1 wz:=by
   rw [←hwz]
   exact ((Kb.set (S:=fun k9=>k9=rb) _ _ _ _ rfl).trans (Kb.set _ _ _ _ rfl))
  have hez:wz.heap[W.heap.size]? =some (.cells #[.int .i64 0,.int .i64 0,.int .u64 0,.int .i64 0,.int .u64 0,.int .i64 0,.slice none 0 0,.slice none 0 0] 37 (0,0)):=(hkz.block _ (lt_of_block hew) (fun e9=>HRB.out.2 e9.symm)).trans hew
  have hrsz:RsA wz wb.heap.size rb p A q1 C q3 c3:=hrsw.kb (hkz.wide fun k9 e9=>.inr e9)
  have hbz:Below W.heap.size W wz:=by
   rw [←hwz]
   exact ((hbw.setCell (p:=⟨rb,0,none⟩) HRB.out.1 _).setCell (p:=⟨rb,1,none⟩) HRB.out.1 _)
  clear hwz hkz hrw hew hbw hrsw
  have hfr:=fun k9=>frz hrz k9
  have hfe:=fun k9=>frz hez k9
  have l0:wz.cell? ⟨rb,0,none⟩=some (.int .i64 5):=cell_in hrz rfl
  have l1:wz.cell? ⟨rb,1,none⟩=some (.int .i64 140):=cell_in hrz rfl
  have l2:wz.cell? ⟨rb,2,none⟩=some (.int .u64 0):=cell_in hrz rfl
  have l3:wz.cell? ⟨rb,3,none⟩=some (.int .i64 0):=cell_in hrz rfl
  have l4:wz.cell? ⟨rb,4,none⟩=some (.int .u64 0):=cell_in hrz rfl
  have l5:wz.cell? ⟨rb,5,none⟩=some (.int .i64 0):=cell_in hrz rfl
  have l6:wz.cell? ⟨rb,6,none⟩=some (.slice q1 p.nq c1):=cell_in hrz rfl
  have l7:wz.cell? ⟨rb,7,none⟩=some (.slice q3 A.m c3):=cell_in hrz rfl
  have m0:wz.cell? ⟨W.heap.size,0,none⟩=some (.int .i64 0):=cell_in hez rfl
  have m1:wz.cell? ⟨W.heap.size,1,none⟩=some (.int .i64 0):=cell_in hez rfl
  have m2:wz.cell? ⟨W.heap.size,2,none⟩=some (.int .u64 0):=cell_in hez rfl
  have m3:wz.cell? ⟨W.heap.size,3,none⟩=some (.int .i64 0):=cell_in hez rfl
  have m4:wz.cell? ⟨W.heap.size,4,none⟩=some (.int .u64 0):=cell_in hez rfl
  have m5:wz.cell? ⟨W.heap.size,5,none⟩=some (.int .i64 0):=cell_in hez rfl
  have m6:wz.cell? ⟨W.heap.size,6,none⟩=some (.slice none 0 0):=cell_in hez rfl
  have m7:wz.cell? ⟨W.heap.size,7,none⟩=some (.slice none 0 0):=cell_in hez rfl
  have HZ:Hid (wz.heap[W.heap.size]? =some (.cells #[.int .i64 0,.int .i64 0,.int .u64 0,.int .i64 0,.int .u64 0,.int .i64 0,.slice none 0 0,.slice none 0 0] 37 (0,0))∧RsA wz wb.heap.size rb p A q1 C q3 c3∧Below W.heap.size W wz):=⟨hez,hrsz,hbz⟩
  clear hrz hez hrsz hbz
  go_wp2_with fail
  generalize hWF:(World.setCell (World.setCell (World.setCell (World.setCell (World.setCell (World.setCell (World.setCell (World.setCell wz _ _) _ _) _ _) _ _) _ _) _ _) _ _) _ _)=wF
  have hres:wF.heap[W.heap.size]? =some (.cells #[.int .i64 5,.int .i64 140,.int .u64 0,.int .i64 0,.int .u64 0,.int .i64 0,.slice q1 p.nq c1,.slice q3 A.m c3] 37 (0,0)):=by
   rw [←hWF,setCell_block _ _ _ _ (setCell_block _ _ _ _ (setCell_block _ _ _ _ (setCell_block _ _ _ _ (setCell_block _ _ _ _ (setCell_block _ _ _ _ (setCell_block _ _ _ _ (setCell_block _ _ _ _ HZ.out.1)))))))]
   rfl
  have hkF:Kb (fun k9=>k9<wb.heap.size∨k9=rb) wz wF:=by
   rw [←hWF]
   exact ((((((((Kb.set (S:=fun k9=>k9<wb.heap.size∨k9=rb) _ _ _ _ (.inl HSZ.out)).trans (Kb.set _ _ _ _ (.inl HSZ.out))).trans (Kb.set _ _ _ _ (.inl HSZ.out))).trans (Kb.set _ _ _ _ (.inl HSZ.out))).trans (Kb.set _ _ _ _ (.inl HSZ.out))).trans (Kb.set _ _ _ _ (.inl HSZ.out))).trans (Kb.set _ _ _ _ (.inl HSZ.out))).trans (Kb.set _ _ _ _ (.inl HSZ.out)))
  have hbF:Below W.heap.size W wF:=by
   rw [←hWF]
   exact ((((((((HZ.out.2.2.setCell (p:=⟨W.heap.size,0,none⟩) (Nat.le_refl _) _).setCell (p:=⟨W.heap.size,1,none⟩) (Nat.le_refl _) _).setCell (p:=⟨W.heap.size,2,none⟩) (Nat.le_refl _) _).setCell (p:=⟨W.heap.size,3,none⟩) (Nat.le_refl _) _).setCell (p:=⟨W.heap.size,4,none⟩) (Nat.le_refl _) _).setCell (p:=⟨W.heap.size,5,none⟩) (Nat.le_refl _) _).setCell (p:=⟨W.heap.size,6,none⟩) (Nat.le_refl _) _).setCell (p:=⟨W.heap.size,7,none⟩) (Nat.le_refl _) _)
  have z0:wF.cell? ⟨W.heap.size,0,none⟩=some (.int .i64 5):=cell_in hres rfl
  have z1:wF.cell? ⟨W.heap.size,1,none⟩=some (.int .i64 140):=cell_in hres rfl
  have z2:wF.cell? ⟨W.heap.size,2,none⟩=some (.int .u64 0):=cell_in hres rfl
  have z3:wF.cell? ⟨W.heap.size,3,none⟩=some (.int .i64 0):=cell_in hres rfl
  have z4:wF.cell? ⟨W.heap.size,4,none⟩=some (.int .u64 0):=cell_in hres rfl
  have z5:wF.cell? ⟨W.heap.size,5,none⟩=some (.int .i64 0):=cell_in hres rfl
  have z6:wF.cell? ⟨W.heap.size,6,none⟩=some (.slice q1 p.nq c1):=cell_in hres rfl
  have z7:wF.cell? ⟨W.heap.size,7,none⟩=some (.slice q3 A.m c3):=cell_in hres rfl
  refine bodyPost_ret (v:=.agg #[.int .i64 5,.int .i64 140,.int .u64 0,.int .i64 0,.int .u64 0,.int .i64 0,.slice q1 p.nq c1,.slice q3 A.m c3]) (by simp [results,Tryz.results46,go_sem,z0,z1,z2,z3,z4,z5,z6,z7];try rfl) rfl ?_
  exact ⟨5,140,zeroE,q1,c1,C,q3,c3,rfl,HK.out,⟨rb,HSZ2.out▸HZ.out.2.1.kb hkF⟩,hbF⟩
end Go.Proofs.YtecgecpgmpmkoaaGreat
