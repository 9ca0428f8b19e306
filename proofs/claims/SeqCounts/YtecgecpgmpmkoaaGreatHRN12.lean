import Derived.Test.YtecgecpgmpmkoaaGreatHRN11
namespace Go.Proofs.YtecgecpgmpmkoaaGreat
open Go.ChangeShapes Go.WideShapes Go.ChangeAt Go.RowKit
set_option linter.unusedVariables false
set_option linter.unusedSimpArgs false
theorem drew_heap9 (w:World):w.drew.heap=w.heap:=rfl
theorem zeros6 {W:World} {r:Nat} {t:TypeId} (h:W.heap[r]? =some (.cells #[.int .u64 0,.int .i64 0,.int .u64 0,.int .i64 0,.int .i64 0,.int .i64 0] t (0,0))):(World.drew ((((((W.setCell ⟨r,0,none⟩ (.int .u64 0)).setCell ⟨r,1,none⟩ (.int .i64 0)).setCell ⟨r,2,none⟩ (.int .u64 0)).setCell ⟨r,3,none⟩ (.int .i64 0)).setCell ⟨r,4,none⟩ (.int .i64 0)).setCell ⟨r,5,none⟩ (.int .i64 0))).heap[r]? =some (.cells #[.int .u64 0,.int .i64 0,.int .u64 0,.int .i64 0,.int .i64 0,.int .i64 0] t (0,0))∧Kq (fun k=>k=r) W (World.drew ((((((W.setCell ⟨r,0,none⟩ (.int .u64 0)).setCell ⟨r,1,none⟩ (.int .i64 0)).setCell ⟨r,2,none⟩ (.int .u64 0)).setCell ⟨r,3,none⟩ (.int .i64 0)).setCell ⟨r,4,none⟩ (.int .i64 0)).setCell ⟨r,5,none⟩ (.int .i64 0))):=by
 constructor
 ·rw [drew_heap9]
  rw [setCell_block _ _ _ _ (setCell_block _ _ _ _ (setCell_block _ _ _ _ (setCell_block _ _ _ _ (setCell_block _ _ _ _ (setCell_block _ _ _ _ h)))))]
  rfl
 ·exact ((((((Kq.set (S:=fun k=>k=r) _ _ _ _ rfl).trans (Kq.set _ _ _ _ rfl)).trans (Kq.set _ _ _ _ rfl)).trans (Kq.set _ _ _ _ rfl)).trans (Kq.set _ _ _ _ rfl)).trans (Kq.set _ _ _ _ rfl)).trans (Kq.below (drewS _))
theorem infoEF:(Tryz.prog.info? 128).map (fun i=>(i.zero,i.size,i.bytes))=some (some (.agg #[.int .i64 0,.slice none 0 0,.int .u64 0,.int .u64 0,.slice none 0 0,.int .i64 0]),6,80):=by kernel_rfl
set_option maxRecDepth 100000 in
set_option maxHeartbeats 8000000 in
theorem step_go (W:World) (b0 sb:Nat) (p:Pl) (A:Ab) (R:Rv) (h:SimR W b0 sb p A R) (ho:AOk2 p A) (hpl:PlOk p) (hov: ¬Over p A):Calls Tryz.prog 22 #[.pointer (some ⟨sb,0,none⟩)] W fun r W'=> ∃(B:Ab) (R':Rv) (x:Se) (c:Int),r=.returned (.tuple #[.agg #[.int .u64 x.t,.int .i64 x.s,.int .u64 x.q,.int .i64 x.d,.int .i64 x.k,.int .i64 x.v],.int .i64 c])∧StepR p A x c B∧SimR W' b0 sb p B R'∧AOk2 p B∧Kq (Mu sb R) W W'∧(∀k,k<W.heap.size→Mu sb R' k→Mu sb R k)∧ ∀r,r<W.heap.size→Av p R sb r→Av p R' sb r:=by
 obtain ⟨wb,hwb⟩: ∃wb,W.alloc (.cells #[.int .u64 0,.int .i64 0,.int .u64 0,.int .i64 0,.int .i64 0,.int .i64 0] 54)=wb:=⟨_,rfl⟩
 obtain ⟨hb0,hbox,hsz⟩:=boxed _ _ _ hwb
 have HW:Hid (W.alloc (.cells #[.int .u64 0,.int .i64 0,.int .u64 0,.int .i64 0,.int .i64 0,.int .i64 0] 54)=wb):=hwb
 have hS1:=h.below hb0
 have hsl:=h.lt
 have k8:wb.cell? ⟨sb,8,none⟩=some (.int .i64 A.f):=cell_in hS1.box rfl
 have hf0:A.f=0:=Classical.byContradiction fun e=>hov (.inl e)
 have hni: ¬Idle p A:=fun e=>hov (.inr (.inl e))
 have hns: ¬Spent p A:=fun e=>hov (.inr (.inr e))
 have hii:=idle_iff (p:=p) h.hp h.set
 obtain ⟨n,hn⟩: ∃n,R.n=n+1:=⟨R.n-1,by have:R.n≠0:=fun e=>hni (hii.2 (.inl e));omega⟩
 obtain ⟨g,c,hqv,hrow⟩:=h.qrow (by omega)
 obtain ⟨e0,he0⟩: ∃e0,R.X 0=e0:=⟨_,rfl⟩
 have hM0:A.M e0:=he0▸(h.set _).2 ⟨0,by omega,rfl⟩
 have hF:=fitE hpl ho hM0
 have hlst:Lst A.M e0:=he0▸top_least ho h.hp h.set (show 0<R.n by omega)
 obtain ⟨dn,hdn⟩: ∃dn,e0.d.toNat=dn:=⟨_,rfl⟩
 have hd0:e0.d=(dn:Int):=hdn▸hF.dn.2
 have hdq:dn<p.nq:=hdn▸hF.dn.1
 obtain ⟨⟨a1,a2,a3⟩,a4,a5⟩:=h.wd dn hdq
 have hpg:pgA p e0=p.P (p.pr dn).toNat:=by unfold pgA;rw [hdn]
 obtain ⟨gp,op,hpq⟩: ∃gp op,R.pq=some ⟨gp,op,none⟩:=by
  rcases h.ps with h9|⟨g9,o9,e9,_⟩
  ·omega
  ·exact ⟨g9,o9,e9⟩
 have hPS: ∀w',Below W.heap.size W w'→Hid ((w'.cell? ⟨gp,op+dn*4,none⟩=some (.int .i64 (pgA p e0).words)∧w'.cell? ⟨gp,op+dn*4+1,none⟩=some (.int .i64 (pgA p e0).locals)∧w'.cell? ⟨gp,op+dn*4+2,none⟩=some (.slice (R.U dn).cp (pgA p e0).n (R.U dn).cc)∧w'.cell? ⟨gp,op+dn*4+3,none⟩=some (.slice (R.U dn).ep (pgA p e0).m (R.U dn).ec))∧PAt w' (pgA p e0) (R.U dn)):=fun w' hb=>by
  rcases h.ps.below hb with h9|⟨g9,o9,e9,_,hc,hpa⟩
  ·omega
  ·rw [hpq] at e9
   injection e9 with e9
   injection e9 with e1 e2
   subst e1 e2
   rw [hpg]
   exact ⟨hc dn hdq,hpa dn hdq⟩
 obtain ⟨E,hE⟩: ∃E,effA p A e0=E:=⟨_,rfl⟩
 have HI:=bcall (b0:=false) (idle_any wb b0 sb p A R hS1) ⟨fun e=>(by cases e),fun e=>absurd e hni⟩
 have HSP: ∀w1,Below wb.heap.size wb w1→Hid (Calls Tryz.prog 63 #[.pointer (some ⟨sb,0,none⟩)] w1 fun e w'=>e=.returned (.bool false)∧Below w1.heap.size w1 w'):=fun w1 hb=>by
  have h9:=spent_any w1 b0 sb p A R (hS1.below hb)
  have hsp': ¬p.bu≤(A.m:Int):=hns
  rw [decide_eq_false hsp'] at h9
  exact h9
 have HL: ∀w1,Below wb.heap.size wb w1→Hid (Calls Tryz.prog 64 #[.slice (some ⟨g,0,none⟩) R.n c] w1 fun r w'=>r=.returned (.agg #[.int .u64 e0.t,.int .i64 e0.s,.int .u64 e0.q,.int .i64 (dn:Int),.int .i64 e0.k,.int .i64 e0.v])∧Below w1.heap.size w1 w'):=fun w1 hb=>by
  have h9:=least_any g R.n c b0 R.X (by omega) w1 (SRow.later (SRow.later hrow hb0) hb)
  rw [he0,hd0] at h9
  exact h9
 have HC: ∀w1,Below W.heap.size W w1→Hid (Calls Tryz.prog 66 #[.pointer (some ⟨sb,0,none⟩),.agg #[.int .u64 e0.t,.int .i64 e0.s,.int .u64 e0.q,.int .i64 (dn:Int),.int .i64 e0.k,.int .i64 e0.v]] w1 fun r w'=>r=.returned (.agg #[.int .u64 e0.t,.int .i64 e0.s,.int .u64 e0.q,.int .i64 (dn:Int),.int .i64 e0.k,.int .i64 e0.v,.slice (R.C dn).p (p.nw dn) (R.C dn).c,.int .u64 (A.d dn),.int .u64 (A.s dn),.int .u64 p.lk,.int .i64 (p.nq:Int),.int .i64 p.fu])∧Below w1.heap.size w1 w'):=fun w1 hb=>by
  have h9:=call_any w1 b0 sb p A R (h.below hb) e0 dn hd0 hdq
  rw [hd0,a1,a2,a3] at h9
  exact h9
 have HV: ∀w1,Below W.heap.size W w1→Hid (Calls Tryz.prog 65 #[.agg #[.int .i64 (pgA p e0).words,.int .i64 (pgA p e0).locals,.slice (R.U dn).cp (pgA p e0).n (R.U dn).cc,.slice (R.U dn).ep (pgA p e0).m (R.U dn).ec],.agg #[.int .u64 e0.t,.int .i64 e0.s,.int .u64 e0.q,.int .i64 (dn:Int),.int .i64 e0.k,.int .i64 e0.v,.slice (R.C dn).p (p.nw dn) (R.C dn).c,.int .u64 (A.d dn),.int .u64 (A.s dn),.int .u64 p.lk,.int .i64 (p.nq:Int),.int .i64 p.fu]] w1 fun r w'=> ∃(wp:Option Addr) (wc:Nat) (ou:Option Addr) (oc:Nat),r=.returned (.agg #[.int .i64 E.code,.slice wp E.nw wc,.int .u64 E.dice,.int .u64 E.sent,.slice ou E.on oc,.int .i64 E.used])∧Own w' w1.heap.size 2 1 (.slice wp E.nw wc) E.nw (iv E.wd)∧Own w' w1.heap.size 54 6 (.slice ou E.on oc) E.on E.oF∧Below w1.heap.size w1 w'):=fun w1 hb=>by
  have h9:=vmRun (pgA p e0) (R.U dn) (clA p e0) (R.C dn).p (p.nw dn) (R.C dn).c (A.K dn) (A.d dn) (A.s dn) w1 (hPS w1 hb).out.2 ⟨a4.below hb,a5,by have:=hpl.k64;have hq:=hF.fits;have:=(fitsB_yes hF.fits).2.2.2.1;rw [hdn] at this;have h8:=(dcode_zero hF.z).2.1.1;omega,hF.ok,ho.wd dn hdq,ho.dc dn hdq,by have:=hF.s0;rw [hdn] at this;have:=ho.m;exact ⟨by omega,by omega⟩⟩ hF.a64
  have hEE:effP (pgA p e0) (clA p e0) (p.nw dn) (A.K dn) (A.d dn) (A.s dn)=E:=by
   rw [←hE]
   unfold effA
   rw [hdn]
  rw [hEE] at h9
  have h8:Calls Tryz.prog 65 #[.agg #[.int .i64 (pgA p e0).words,.int .i64 (pgA p e0).locals,.slice (R.U dn).cp (pgA p e0).n (R.U dn).cc,.slice (R.U dn).ep (pgA p e0).m (R.U dn).ec],.agg #[.int .u64 e0.t,.int .i64 e0.s,.int .u64 e0.q,.int .i64 (dn:Int),.int .i64 e0.k,.int .i64 e0.v,.slice (R.C dn).p (p.nw dn) (R.C dn).c,.int .u64 (A.d dn),.int .u64 (A.s dn),.int .u64 p.lk,.int .i64 (p.nq:Int),.int .i64 p.fu]] w1 fun r w'=> ∃v,r=.returned v∧EfAt w' w1.heap.size v E∧Below w1.heap.size w1 w':=by
   have e9:(clA p e0).dst=(dn:Int):=hd0
   have:=h9
   rw [e9] at this
   exact this
  refine h8.mono ?_
  rintro r w' ⟨v,rfl,⟨wp,wc,ou,oc,rfl,o1,o2⟩,b1⟩
  exact ⟨wp,wc,ou,oc,rfl,o1,o2,b1⟩
 have hmu:=h.mu
 have hon:=hF.eo.on
 have HX:Hid (SimR W b0 sb p A R∧AOk2 p A∧Lst A.M e0∧ ¬Over p A∧ ¬Spent p A∧R.n=n+1∧R.X 0=e0∧effA p A e0=E∧e0.d=(dn:Int)):=⟨h,ho,hlst,hov,hns,hn,he0,hE,hd0⟩
 have HB:Hid (wb.heap[W.heap.size]? =some (.cells #[.int .u64 0,.int .i64 0,.int .u64 0,.int .i64 0,.int .i64 0,.int .i64 0] 54 (0,0))∧wb.heap.size=W.heap.size+1∧Below W.heap.size W wb):=⟨hbox,hsz,hb0⟩
 have HD9:Hid (e0.d=(dn:Int)):=hd0
 have HMU:Hid (∀k,Mu sb R k→b0≤k∧k<W.heap.size):=hmu
 have K6: ∀w1,Below wb.heap.size wb w1→Hid (w1.cell? ⟨sb,6,none⟩=some (.slice (some ⟨g,0,none⟩) R.n c)):=fun w1 hb=>by
  have:=cell_in (hS1.below hb).box (o:=6) (v:=R.qv) rfl
  rw [hqv] at this
  exact this
 have K0: ∀w1,Below W.heap.size W w1→Hid (w1.cell? ⟨sb,0,none⟩=some (.slice (some ⟨gp,op,none⟩) p.nq R.pc)):=fun w1 hb=>by
  have:=cell_in (h.below hb).box (o:=0) rfl
  rw [hpq] at this
  exact this
 have g0:(A.f !=0)=false:=by simpa using hf0
 have g1:(A.f==0)=true:=by simpa using hf0
 have j0:(0:Int)≤(dn:Int):=by omega
 have j1:(dn:Int)<(p.nq:Int):=by omega
 rw [←hwb] at k8
 clear hwb h ho hlst hov hns hni hn he0 hE hd0 hbox hsz hb0 hmu hS1 hqv hrow hM0 hF hdn a1 a2 a3 a4 a5 hpg hpq hii hf0
 go_enter Tryz.func22,Tryz.ntmps22
 go_upto_region 4 with (first|(go_at_call 62;rw [HW.out];(with_reducible refine HI.mono ?_);rintro e w1 ⟨rfl,hb1⟩)|(go_at_call 63;(with_reducible refine (HSP w1 hb1).out.mono ?_);rintro e w2 ⟨rfl,hb2'⟩;have hb2:Below wb.heap.size wb w2:=hb1.trans (hb2'.mono hb1.size);have k6:=(K6 w2 hb2).out)|(go_at_call 64;(with_reducible refine (HL w2 hb2).out.mono ?_);rintro e w3 ⟨rfl,hb3'⟩;have hb3:Below wb.heap.size wb w3:=hb2.trans (hb3'.mono hb2.size)))
 obtain ⟨w4,hw4⟩: ∃w4,w3.alloc (.cells #[.int .u64 e0.t,.int .i64 e0.s,.int .u64 e0.q,.int .i64 (dn:Int),.int .i64 e0.k,.int .i64 e0.v] 54)=w4:=⟨_,rfl⟩
 obtain ⟨hb4,hbx4,hsz4⟩:=boxed _ _ _ hw4
 rw [hw4]
 have hW3:Below W.heap.size W w3:=HB.out.2.2.trans (hb3.mono HB.out.2.2.size)
 have hW4:Below W.heap.size W w4:=hW3.trans (hb4.mono hW3.size)
 obtain ⟨eb,heb⟩: ∃eb,w3.heap.size=eb:=⟨_,rfl⟩
 rw [heb] at hbx4 ⊢
 have hebl:eb<w4.heap.size:=by omega
 have hz3:=hb3.size
 have hebW:W.heap.size<eb:=by have:=HB.out.2.1;omega
 have hres4:w4.heap[W.heap.size]? =some (.cells #[.int .u64 0,.int .i64 0,.int .u64 0,.int .i64 0,.int .i64 0,.int .i64 0] 54 (0,0)):=(hb4.block _ (by omega)).trans ((hb3.block _ (by have:=HB.out.2.1;omega)).trans HB.out.1)
 have KK: ∀w',Below w4.heap.size w4 w'→Hid (w'.cell? ⟨sb,0,none⟩=some (.slice (some ⟨gp,op,none⟩) p.nq R.pc)∧(w'.cell? ⟨eb,0,none⟩=some (.int .u64 e0.t)∧w'.cell? ⟨eb,1,none⟩=some (.int .i64 e0.s)∧w'.cell? ⟨eb,2,none⟩=some (.int .u64 e0.q)∧w'.cell? ⟨eb,3,none⟩=some (.int .i64 (dn:Int))∧w'.cell? ⟨eb,4,none⟩=some (.int .i64 e0.k)∧w'.cell? ⟨eb,5,none⟩=some (.int .i64 e0.v))∧w'.cell? ⟨gp,op+dn*4,none⟩=some (.int .i64 (pgA p e0).words)∧w'.cell? ⟨gp,op+dn*4+1,none⟩=some (.int .i64 (pgA p e0).locals)∧w'.cell? ⟨gp,op+dn*4+2,none⟩=some (.slice (R.U dn).cp (pgA p e0).n (R.U dn).cc)∧w'.cell? ⟨gp,op+dn*4+3,none⟩=some (.slice (R.U dn).ep (pgA p e0).m (R.U dn).ec)):=fun w' hb=>by
  have hx:=(hb.block eb hebl).trans hbx4
  have hw':Below W.heap.size W w':=hW4.trans (hb.mono hW4.size)
  exact ⟨(K0 w' hw').out,⟨cell_in hx rfl,cell_in hx rfl,cell_in hx rfl,cell_in hx rfl,cell_in hx rfl,cell_in hx rfl⟩,(hPS w' hw').out.1⟩
 have hbd:Below w4.heap.size w4 w4.drew:=(Below.refl _ w4).drew
 have KP0:=(KK w4.drew hbd).out
 have HCd:=(HC w4.drew (hW4.trans (hbd.mono hW4.size))).out
 have H4:Hid (Below W.heap.size W w4∧w4.heap[eb]? =some (.cells #[.int .u64 e0.t,.int .i64 e0.s,.int .u64 e0.q,.int .i64 (dn:Int),.int .i64 e0.k,.int .i64 e0.v] 54 (0,0))∧w4.heap[W.heap.size]? =some (.cells #[.int .u64 0,.int .i64 0,.int .u64 0,.int .i64 0,.int .i64 0,.int .i64 0] 54 (0,0))∧W.heap.size<eb∧eb<w4.heap.size):=⟨hW4,hbx4,hres4,hebW,hebl⟩
 clear hw4 hbx4 hsz4 hb4 hres4 hb3 hb3' hb2 hb2' hb1 k6 K6 HL HSP HI heb hz3 hW3
 obtain ⟨iF,hF1,hF2,hF3,hF4⟩:=sinfo infoEF
 have HREST:Hid (∀w5 w6:World,Below w4.heap.size w4 w5→Below w5.heap.size w5 w6→True):=fun _ _ _ _=>trivial
 go_cut [5] from 6 (fun x5 wc=> ∃(fb:Nat) (wp:Option Addr) (wq:Nat) (ou:Option Addr) (oc bw:Nat),x5=.pointer (some ⟨fb,0,none⟩)∧wc.heap[fb]? =some (.cells #[.int .i64 E.code,.slice wp E.nw wq,.int .u64 E.dice,.int .u64 E.sent,.slice ou E.on oc,.int .i64 E.used] 128 (0,0))∧Own wc bw 2 1 (.slice wp E.nw wq) E.nw (iv E.wd)∧Own wc bw 54 6 (.slice ou E.on oc) E.on E.oF∧Below w4.heap.size w4 wc∧w4.heap.size≤bw∧w4.heap.size≤fb)
 case first=>
  refine wp_region_held_drew (S:=fun W9=>Below w4.heap.size w4 W9) (by kernel_rfl) hbd (fun hHeld=> ?_)
  have hS0:Below w4.heap.size w4 w4.drew:=hHeld
  refine wpAnyH_take (i:=0) (v:= ?hv0d) rfl (by kernel_rfl) (by kernel_rfl) (by kernel_rfl) (fun _ _ _ h=>h) (Or.inl ⟨by rfl,?hy0d⟩) (by assumption) ?hr0d
  case hy0d=>((intro W9 hSw;obtain ⟨s0,⟨q0,q1,q2,q3,q4,q5⟩,u0,u1,u2,u3⟩:=(KK W9 hSw).out;go_simp);try with_reducible rfl)
  simp only [List.getElem_toArray,List.getElem_cons_zero,List.getElem_cons_succ,Act.put,List.setIfInBounds_toArray,List.set_cons_zero,List.set_cons_succ]
  refine wpAnyH_take (i:=1) (v:= ?hv1d) rfl (by kernel_rfl) (by kernel_rfl) (by kernel_rfl) (fun _ _ _ h=>h) (Or.inl ⟨by rfl,?hy1d⟩) (by assumption) ?hr1d
  case hy1d=>((intro W9 hSw;obtain ⟨s0,⟨q0,q1,q2,q3,q4,q5⟩,u0,u1,u2,u3⟩:=(KK W9 hSw).out;go_simp);try with_reducible rfl)
  simp only [List.getElem_toArray,List.getElem_cons_zero,List.getElem_cons_succ,Act.put,List.setIfInBounds_toArray,List.set_cons_zero,List.set_cons_succ]
  refine wpAnyH_take (i:=2) (v:= ?hv2d) rfl (by kernel_rfl) (by kernel_rfl) (by kernel_rfl) (fun _ _ _ h=>h) (Or.inl ⟨by rfl,?hy2d⟩) (by assumption) ?hr2d
  case hy2d=>((intro W9 hSw;obtain ⟨s0,⟨q0,q1,q2,q3,q4,q5⟩,u0,u1,u2,u3⟩:=(KK W9 hSw).out;go_simp);try with_reducible rfl)
  simp only [List.getElem_toArray,List.getElem_cons_zero,List.getElem_cons_succ,Act.put,List.setIfInBounds_toArray,List.set_cons_zero,List.set_cons_succ]
  refine wpAnyH_take (i:=3) (v:= ?hv3d) rfl (by kernel_rfl) (by kernel_rfl) (by kernel_rfl) (fun _ _ _ h=>h) (Or.inl ⟨by rfl,?hy3d⟩) (by assumption) ?hr3d
  case hy3d=>((intro W9 hSw;obtain ⟨s0,⟨q0,q1,q2,q3,q4,q5⟩,u0,u1,u2,u3⟩:=(KK W9 hSw).out;go_simp);try with_reducible rfl)
  simp only [List.getElem_toArray,List.getElem_cons_zero,List.getElem_cons_succ,Act.put,List.setIfInBounds_toArray,List.set_cons_zero,List.set_cons_succ]
  refine wpAnyH_take (i:=4) (v:= ?hv4d) rfl (by kernel_rfl) (by kernel_rfl) (by kernel_rfl) (fun _ _ _ h=>h) (Or.inl ⟨by rfl,?hy4d⟩) (by assumption) ?hr4d
  case hy4d=>((intro W9 hSw;obtain ⟨s0,⟨q0,q1,q2,q3,q4,q5⟩,u0,u1,u2,u3⟩:=(KK W9 hSw).out;go_simp);try with_reducible rfl)
  simp only [List.getElem_toArray,List.getElem_cons_zero,List.getElem_cons_succ,Act.put,List.setIfInBounds_toArray,List.set_cons_zero,List.set_cons_succ]
  refine wpAnyH_take (i:=5) (v:= ?hv5d) rfl (by kernel_rfl) (by kernel_rfl) (by kernel_rfl) (fun _ _ _ h=>h) (Or.inl ⟨by rfl,?hy5d⟩) (by assumption) ?hr5d
  case hy5d=>((intro W9 hSw;obtain ⟨s0,⟨q0,q1,q2,q3,q4,q5⟩,u0,u1,u2,u3⟩:=(KK W9 hSw).out;go_simp);try with_reducible rfl)
  simp only [List.getElem_toArray,List.getElem_cons_zero,List.getElem_cons_succ,Act.put,List.setIfInBounds_toArray,List.set_cons_zero,List.set_cons_succ]
  refine wpAnyH_take (i:=6) (v:= ?hv6d) rfl (by kernel_rfl) (by kernel_rfl) (by kernel_rfl) (fun _ _ _ h=>h) (Or.inl ⟨by rfl,?hy6d⟩) (by assumption) ?hr6d
  case hy6d=>((intro W9 hSw;obtain ⟨s0,⟨q0,q1,q2,q3,q4,q5⟩,u0,u1,u2,u3⟩:=(KK W9 hSw).out;go_simp);try with_reducible rfl)
  simp only [List.getElem_toArray,List.getElem_cons_zero,List.getElem_cons_succ,Act.put,List.setIfInBounds_toArray,List.set_cons_zero,List.set_cons_succ]
  refine wpAnyH_take (i:=7) (v:= ?hv7d) rfl (by kernel_rfl) (by kernel_rfl) (by kernel_rfl) (fun _ _ _ h=>h) (Or.inl ⟨by rfl,?hy7d⟩) (by assumption) ?hr7d
  case hy7d=>((intro W9 hSw;obtain ⟨s0,⟨q0,q1,q2,q3,q4,q5⟩,u0,u1,u2,u3⟩:=(KK W9 hSw).out;go_simp);try with_reducible rfl)
  simp only [List.getElem_toArray,List.getElem_cons_zero,List.getElem_cons_succ,Act.put,List.setIfInBounds_toArray,List.set_cons_zero,List.set_cons_succ]
  refine wpAnyH_take (i:=8) (v:= ?hv8d) rfl (by kernel_rfl) (by kernel_rfl) (by kernel_rfl) (fun _ _ _ h=>h) (Or.inl ⟨by rfl,?hy8d⟩) (by assumption) ?hr8d
  case hy8d=>((intro W9 hSw;obtain ⟨s0,⟨q0,q1,q2,q3,q4,q5⟩,u0,u1,u2,u3⟩:=(KK W9 hSw).out;go_simp);try with_reducible rfl)
  simp only [List.getElem_toArray,List.getElem_cons_zero,List.getElem_cons_succ,Act.put,List.setIfInBounds_toArray,List.set_cons_zero,List.set_cons_succ]
  refine wpAnyH_take (i:=9) (v:= ?hv9d) rfl (by kernel_rfl) (by kernel_rfl) (by kernel_rfl) (fun _ _ _ h=>h) (Or.inl ⟨by rfl,?hy9d⟩) (by assumption) ?hr9d
  case hy9d=>((intro W9 hSw;obtain ⟨s0,⟨q0,q1,q2,q3,q4,q5⟩,u0,u1,u2,u3⟩:=(KK W9 hSw).out;go_simp);try with_reducible rfl)
  simp only [List.getElem_toArray,List.getElem_cons_zero,List.getElem_cons_succ,Act.put,List.setIfInBounds_toArray,List.set_cons_zero,List.set_cons_succ]
  refine wpAnyH_ready (rs:= [10,12]) (by kernel_rfl) (by simp) (AllReadyH.cons rfl (fun KK9 hK=> ?_) (AllReadyH.cons rfl (fun KK9 hK=> ?_) AllReadyH.nil))
  all_goals dsimp -proj only [List.getElem_toArray,List.getElem_cons_zero,List.getElem_cons_succ]
  ·go_simp
   go_at_call 66
   refine (HC w4.drew (hW4.trans (hS0.mono hW4.size))).out.mono ?_
   rintro e x1 ⟨rfl,hb1⟩
   try go_wp2_with fail
   have hs1:Below w4.heap.size w4 x1:=hS0.trans (hb1.mono hS0.size)
   refine hK.out _ _ hs1 (fun hHeld=> ?_)
   clear hK KK9
   try simp only [Act.put,List.setIfInBounds_toArray,List.set_cons_zero,List.set_cons_succ]
   refine wpAnyH_ready (rs:= [11,12]) (by kernel_rfl) (by simp) (AllReadyH.cons rfl (fun KK9 hK=> ?_) (AllReadyH.cons rfl (fun KK9 hK=> ?_) AllReadyH.nil))
   all_goals dsimp -proj only [List.getElem_toArray,List.getElem_cons_zero,List.getElem_cons_succ]
   ·go_simp
    go_at_call 65
    refine (HV x1 (hW4.trans (hs1.mono hW4.size))).out.mono ?_
    rintro e x2 ⟨wp,wq,ou,oc,rfl,o12,o22,hb2⟩
    try go_wp2_with fail
    have hs2:Below w4.heap.size w4 x2:=hs1.trans (hb2.mono hs1.size)
    refine hK.out _ _ hs2 (fun hHeld=> ?_)
    clear hK KK9
    try simp only [Act.put,List.setIfInBounds_toArray,List.set_cons_zero,List.set_cons_succ]
    refine wpAnyH_ready (rs:= [12]) (by kernel_rfl) (by simp) (AllReadyH.cons rfl (fun KK9 hK=> ?_) AllReadyH.nil)
    all_goals dsimp -proj only [List.getElem_toArray,List.getElem_cons_zero,List.getElem_cons_succ]
    ·refine step_alloc_row rfl 128 rfl iF _ hF1 hF2 ?_
     obtain ⟨x3,hw3⟩: ∃x,(x2).alloc (.cells #[.int .i64 0,.slice none 0 0,.int .u64 0,.int .u64 0,.slice none 0 0,.int .i64 0] 128)=x:=⟨_,rfl⟩
     obtain ⟨hb3,hm3,hz3⟩:=boxed _ _ _ hw3
     have hs3:Below w4.heap.size w4 x3:=hs2.trans (hb3.mono hs2.size)
     have hfl3:w4.heap.size≤(x2).heap.size:=hs2.size
     have p13:=Own.later o12 hb3
     have p23:=Own.later o22 hb3
     show KK9 _ ((x2).alloc (.cells #[.int .i64 0,.slice none 0 0,.int .u64 0,.int .u64 0,.slice none 0 0,.int .i64 0] 128))
     rw [hw3]
     clear hw3
     refine hK.out _ _ hs3 (fun hHeld=> ?_)
     clear hK KK9
     try simp only [Act.put,List.setIfInBounds_toArray,List.set_cons_zero,List.set_cons_succ]
     refine wpAnyH_ready (rs:= [13]) (by kernel_rfl) (by simp) (AllReadyH.cons rfl (fun KK9 hK=> ?_) AllReadyH.nil)
     all_goals dsimp -proj only [List.getElem_toArray,List.getElem_cons_zero,List.getElem_cons_succ]
     ·refine step_store_row rfl 128 _ _ rfl (x2).heap.size _ rfl rfl 128 _ hm3 (by kernel_rfl) rfl (by kernel_rfl) ?_
      obtain ⟨x4,hw4⟩: ∃x,(x3).setRow (x2).heap.size #[.int .i64 E.code,.slice wp E.nw wq,.int .u64 E.dice,.int .u64 E.sent,.slice ou E.on oc,.int .i64 E.used]=x:=⟨_,rfl⟩
      have hm4:x4.heap[(x2).heap.size]? =some (.cells #[.int .i64 E.code,.slice wp E.nw wq,.int .u64 E.dice,.int .u64 E.sent,.slice ou E.on oc,.int .i64 E.used] 128 (0,0)):=by
       rw [←hw4]
       exact setRow_heap _ _ _ _ _ _ hm3
      have hs4:Below w4.heap.size w4 x4:=by
       rw [←hw4]
       exact setRow_below _ hs3 hfl3
      have r14:=Own.far (W':=x4) p13 fun k9 e9=>by
       rw [←hw4]
       refine setRow_far _ _ _ _ fun e8=> ?_
       subst e8
       have h1:=(Own.lt o12 _ e9).2
       omega
      have r24:=Own.far (W':=x4) p23 fun k9 e9=>by
       rw [←hw4]
       refine setRow_far _ _ _ _ fun e8=> ?_
       subst e8
       have h1:=(Own.lt o22 _ e9).2
       omega
      rw [hw4]
      clear hw4
      refine hK.out _ _ hs4 (fun hHeld=> ?_)
      clear hK KK9
      try simp only [Act.put,List.setIfInBounds_toArray,List.set_cons_zero,List.set_cons_succ]
      refine wpAnyH_done (by kernel_rfl) ?_ _
      go_wp2_with fail
      go_meet
      case rel=>
       exact ⟨(x2).heap.size,wp,wq,ou,oc,x1.heap.size,rfl,hm4,r14,r24,hs4,hs1.size,hfl3⟩
   ·refine step_alloc_row rfl 128 rfl iF _ hF1 hF2 ?_
    obtain ⟨x5,hw5⟩: ∃x,(x1).alloc (.cells #[.int .i64 0,.slice none 0 0,.int .u64 0,.int .u64 0,.slice none 0 0,.int .i64 0] 128)=x:=⟨_,rfl⟩
    obtain ⟨hb5,hm5,hz5⟩:=boxed _ _ _ hw5
    have hs5:Below w4.heap.size w4 x5:=hs1.trans (hb5.mono hs1.size)
    have hfl5:w4.heap.size≤(x1).heap.size:=hs1.size
    show KK9 _ ((x1).alloc (.cells #[.int .i64 0,.slice none 0 0,.int .u64 0,.int .u64 0,.slice none 0 0,.int .i64 0] 128))
    rw [hw5]
    clear hw5
    refine hK.out _ _ hs5 (fun hHeld=> ?_)
    clear hK KK9
    try simp only [Act.put,List.setIfInBounds_toArray,List.set_cons_zero,List.set_cons_succ]
    refine wpAnyH_ready (rs:= [11]) (by kernel_rfl) (by simp) (AllReadyH.cons rfl (fun KK9 hK=> ?_) AllReadyH.nil)
    all_goals dsimp -proj only [List.getElem_toArray,List.getElem_cons_zero,List.getElem_cons_succ]
    ·go_simp
     go_at_call 65
     refine (HV x5 (hW4.trans (hs5.mono hW4.size))).out.mono ?_
     rintro e x6 ⟨wp,wq,ou,oc,rfl,o16,o26,hb6⟩
     try go_wp2_with fail
     have hs6:Below w4.heap.size w4 x6:=hs5.trans (hb6.mono hs5.size)
     have hm6:=(hb6.block _ (lt_of_block hm5)).trans hm5
     have hno6:(x1).heap.size<x5.heap.size:=lt_of_block hm5
     refine hK.out _ _ hs6 (fun hHeld=> ?_)
     clear hK KK9
     try simp only [Act.put,List.setIfInBounds_toArray,List.set_cons_zero,List.set_cons_succ]
     refine wpAnyH_ready (rs:= [13]) (by kernel_rfl) (by simp) (AllReadyH.cons rfl (fun KK9 hK=> ?_) AllReadyH.nil)
     all_goals dsimp -proj only [List.getElem_toArray,List.getElem_cons_zero,List.getElem_cons_succ]
     ·refine step_store_row rfl 128 _ _ rfl (x1).heap.size _ rfl rfl 128 _ hm6 (by kernel_rfl) rfl (by kernel_rfl) ?_
      obtain ⟨x7,hw7⟩: ∃x,(x6).setRow (x1).heap.size #[.int .i64 E.code,.slice wp E.nw wq,.int .u64 E.dice,.int .u64 E.sent,.slice ou E.on oc,.int .i64 E.used]=x:=⟨_,rfl⟩
      have hm7:x7.heap[(x1).heap.size]? =some (.cells #[.int .i64 E.code,.slice wp E.nw wq,.int .u64 E.dice,.int .u64 E.sent,.slice ou E.on oc,.int .i64 E.used] 128 (0,0)):=by
       rw [←hw7]
       exact setRow_heap _ _ _ _ _ _ hm6
      have hs7:Below w4.heap.size w4 x7:=by
       rw [←hw7]
       exact setRow_below _ hs6 hfl5
      have r17:=Own.far (W':=x7) o16 fun k9 e9=>by
       rw [←hw7]
       refine setRow_far _ _ _ _ fun e8=> ?_
       subst e8
       have h1:=(Own.lt o16 _ e9).1
       have h2:=hno6
       omega
      have r27:=Own.far (W':=x7) o26 fun k9 e9=>by
       rw [←hw7]
       refine setRow_far _ _ _ _ fun e8=> ?_
       subst e8
       have h1:=(Own.lt o26 _ e9).1
       have h2:=hno6
       omega
      rw [hw7]
      clear hw7
      refine hK.out _ _ hs7 (fun hHeld=> ?_)
      clear hK KK9
      try simp only [Act.put,List.setIfInBounds_toArray,List.set_cons_zero,List.set_cons_succ]
      refine wpAnyH_done (by kernel_rfl) ?_ _
      go_wp2_with fail
      go_meet
      case rel=>
       exact ⟨(x1).heap.size,wp,wq,ou,oc,x5.heap.size,rfl,hm7,r17,r27,hs7,hs5.size,hfl5⟩
  ·refine step_alloc_row rfl 128 rfl iF _ hF1 hF2 ?_
   obtain ⟨x8,hw8⟩: ∃x,(w4.drew).alloc (.cells #[.int .i64 0,.slice none 0 0,.int .u64 0,.int .u64 0,.slice none 0 0,.int .i64 0] 128)=x:=⟨_,rfl⟩
   obtain ⟨hb8,hm8,hz8⟩:=boxed _ _ _ hw8
   have hs8:Below w4.heap.size w4 x8:=hS0.trans (hb8.mono hS0.size)
   have hfl8:w4.heap.size≤(w4.drew).heap.size:=hS0.size
   show KK9 _ ((w4.drew).alloc (.cells #[.int .i64 0,.slice none 0 0,.int .u64 0,.int .u64 0,.slice none 0 0,.int .i64 0] 128))
   rw [hw8]
   clear hw8
   refine hK.out _ _ hs8 (fun hHeld=> ?_)
   clear hK KK9
   try simp only [Act.put,List.setIfInBounds_toArray,List.set_cons_zero,List.set_cons_succ]
   refine wpAnyH_ready (rs:= [10]) (by kernel_rfl) (by simp) (AllReadyH.cons rfl (fun KK9 hK=> ?_) AllReadyH.nil)
   all_goals dsimp -proj only [List.getElem_toArray,List.getElem_cons_zero,List.getElem_cons_succ]
   ·go_simp
    go_at_call 66
    refine (HC x8 (hW4.trans (hs8.mono hW4.size))).out.mono ?_
    rintro e x9 ⟨rfl,hb9⟩
    try go_wp2_with fail
    have hs9:Below w4.heap.size w4 x9:=hs8.trans (hb9.mono hs8.size)
    have hm9:=(hb9.block _ (lt_of_block hm8)).trans hm8
    refine hK.out _ _ hs9 (fun hHeld=> ?_)
    clear hK KK9
    try simp only [Act.put,List.setIfInBounds_toArray,List.set_cons_zero,List.set_cons_succ]
    refine wpAnyH_ready (rs:= [11]) (by kernel_rfl) (by simp) (AllReadyH.cons rfl (fun KK9 hK=> ?_) AllReadyH.nil)
    all_goals dsimp -proj only [List.getElem_toArray,List.getElem_cons_zero,List.getElem_cons_succ]
    ·go_simp
     go_at_call 65
     refine (HV x9 (hW4.trans (hs9.mono hW4.size))).out.mono ?_
     rintro e x10 ⟨wp,wq,ou,oc,rfl,o110,o210,hb10⟩
     try go_wp2_with fail
     have hs10:Below w4.heap.size w4 x10:=hs9.trans (hb10.mono hs9.size)
     have hm10:=(hb10.block _ (lt_of_block hm9)).trans hm9
     have hno10:(w4.drew).heap.size<x9.heap.size:=lt_of_block hm9
     refine hK.out _ _ hs10 (fun hHeld=> ?_)
     clear hK KK9
     try simp only [Act.put,List.setIfInBounds_toArray,List.set_cons_zero,List.set_cons_succ]
     refine wpAnyH_ready (rs:= [13]) (by kernel_rfl) (by simp) (AllReadyH.cons rfl (fun KK9 hK=> ?_) AllReadyH.nil)
     all_goals dsimp -proj only [List.getElem_toArray,List.getElem_cons_zero,List.getElem_cons_succ]
     ·refine step_store_row rfl 128 _ _ rfl (w4.drew).heap.size _ rfl rfl 128 _ hm10 (by kernel_rfl) rfl (by kernel_rfl) ?_
      obtain ⟨x11,hw11⟩: ∃x,(x10).setRow (w4.drew).heap.size #[.int .i64 E.code,.slice wp E.nw wq,.int .u64 E.dice,.int .u64 E.sent,.slice ou E.on oc,.int .i64 E.used]=x:=⟨_,rfl⟩
      have hm11:x11.heap[(w4.drew).heap.size]? =some (.cells #[.int .i64 E.code,.slice wp E.nw wq,.int .u64 E.dice,.int .u64 E.sent,.slice ou E.on oc,.int .i64 E.used] 128 (0,0)):=by
       rw [←hw11]
       exact setRow_heap _ _ _ _ _ _ hm10
      have hs11:Below w4.heap.size w4 x11:=by
       rw [←hw11]
       exact setRow_below _ hs10 hfl8
      have r111:=Own.far (W':=x11) o110 fun k9 e9=>by
       rw [←hw11]
       refine setRow_far _ _ _ _ fun e8=> ?_
       subst e8
       have h1:=(Own.lt o110 _ e9).1
       have h2:=hno10
       omega
      have r211:=Own.far (W':=x11) o210 fun k9 e9=>by
       rw [←hw11]
       refine setRow_far _ _ _ _ fun e8=> ?_
       subst e8
       have h1:=(Own.lt o210 _ e9).1
       have h2:=hno10
       omega
      rw [hw11]
      clear hw11
      refine hK.out _ _ hs11 (fun hHeld=> ?_)
      clear hK KK9
      try simp only [Act.put,List.setIfInBounds_toArray,List.set_cons_zero,List.set_cons_succ]
      refine wpAnyH_done (by kernel_rfl) ?_ _
      go_wp2_with fail
      go_meet
      case rel=>
       exact ⟨(w4.drew).heap.size,wp,wq,ou,oc,x9.heap.size,rfl,hm11,r111,r211,hs11,hs9.size,hfl8⟩
 case rest=>
  obtain ⟨fb,wp,wq,ou,oc,bw,rfl,hfx,ho1,ho2,hbc,hbw,hfb⟩:=hcut
  have hWc:Below W.heap.size W wc:=H4.out.1.trans (hbc.mono H4.out.1.size)
  obtain ⟨x1,x2,x3,x4,x5,x6,x7,x8,x9⟩:=HX.out
  have hsimc:=x1.below hWc
  have hebc:=(hbc.block eb H4.out.2.2.2.2).trans H4.out.2.1
  have hresc:=(hbc.block W.heap.size (by have:=H4.out.2.2.2;omega)).trans H4.out.2.2.1
  have v0:wc.cell? ⟨fb,0,none⟩=some (.int .i64 E.code):=cell_in hfx rfl
  have v1:wc.cell? ⟨fb,1,none⟩=some (.slice wp E.nw wq):=cell_in hfx rfl
  have v2:wc.cell? ⟨fb,2,none⟩=some (.int .u64 E.dice):=cell_in hfx rfl
  have v3:wc.cell? ⟨fb,3,none⟩=some (.int .u64 E.sent):=cell_in hfx rfl
  have v4:wc.cell? ⟨fb,4,none⟩=some (.slice ou E.on oc):=cell_in hfx rfl
  have v5:wc.cell? ⟨fb,5,none⟩=some (.int .i64 E.used):=cell_in hfx rfl
  have hb0W:b0≤W.heap.size:=Nat.le_of_lt (Nat.lt_of_le_of_lt x1.b x1.lt)
  have hz4:=H4.out.1.size
  have hav:=x1.av (Nat.le_refl _)
  by_cases hz:E.code=0
  case pos=>
   have q0:(E.code !=0)=false:=by simpa using hz
   have q1:(E.code==0)=true:=by simpa using hz
   have HT:=take_any wc b0 sb p A R hsimc x2 hpl n x6 x5 bw (fun k hk=>by have:=(HMU.out k hk).2;omega) (by omega) E (by rw [x7];exact x8) wp wq ou oc ho1 ho2
   rw [x7] at HT
   have HN:Hid (AOk2 p (nextA p A e0)∧StepR p A e0 0 (nextA p A e0)):=⟨AOk2.next hpl x2 x3.1 x5,.inr ⟨x4,e0,x3,.inr ⟨by rw [x8];exact hz,rfl,rfl,rfl⟩⟩⟩
   have HE:Hid (wc.heap[eb]? =some (.cells #[.int .u64 e0.t,.int .i64 e0.s,.int .u64 e0.q,.int .i64 (dn:Int),.int .i64 e0.k,.int .i64 e0.v] 54 (0,0))∧wc.heap[W.heap.size]? =some (.cells #[.int .u64 0,.int .i64 0,.int .u64 0,.int .i64 0,.int .i64 0,.int .i64 0] 54 (0,0))∧Below W.heap.size W wc∧b0≤W.heap.size∧W.heap.size<bw∧Av p R sb W.heap.size):=⟨hebc,hresc,hWc,hb0W,by have:=H4.out.2.2.2;omega,hav⟩
   have hmuc:=hsimc.mu
   clear hfx ho1 ho2 hbc hWc x1 x2 x3 x4 x5 x6 x7 x8 x9 hsimc hebc hresc hb0W hz4 hav hz HX HV HC hPS K0 KK KP0 HCd
   go_upto_region 9 with (go_at_call 67;(with_reducible refine HT.mono ?_);rintro e w8 ⟨rfl,R',hs8,hk8,hmu8,hav8⟩)
   have hW8: ∀k,W.heap.size≤k→ ¬Mu sb R k:=fun k hk hM=>by have:=(HMU.out k hM).2;omega
   have heb8:=(hk8.block eb (lt_of_block HE.out.1) (hW8 eb (by have:=H4.out.2.2.2;omega))).trans HE.out.1
   have hre8:=(hk8.block W.heap.size (lt_of_block HE.out.2.1) (hW8 _ (Nat.le_refl _))).trans HE.out.2.1
   have hfz:=fun k=>frz hre8 k
   have l0:w8.cell? ⟨eb,0,none⟩=some (.int .u64 e0.t):=cell_in heb8 rfl
   have l1:w8.cell? ⟨eb,1,none⟩=some (.int .i64 e0.s):=cell_in heb8 rfl
   have l2:w8.cell? ⟨eb,2,none⟩=some (.int .u64 e0.q):=cell_in heb8 rfl
   have l3:w8.cell? ⟨eb,3,none⟩=some (.int .i64 (dn:Int)):=cell_in heb8 rfl
   have l4:w8.cell? ⟨eb,4,none⟩=some (.int .i64 e0.k):=cell_in heb8 rfl
   have l5:w8.cell? ⟨eb,5,none⟩=some (.int .i64 e0.v):=cell_in heb8 rfl
   have m0:w8.cell? ⟨W.heap.size,0,none⟩=some (.int .u64 0):=cell_in hre8 rfl
   have m1:w8.cell? ⟨W.heap.size,1,none⟩=some (.int .i64 0):=cell_in hre8 rfl
   have m2:w8.cell? ⟨W.heap.size,2,none⟩=some (.int .u64 0):=cell_in hre8 rfl
   have m3:w8.cell? ⟨W.heap.size,3,none⟩=some (.int .i64 0):=cell_in hre8 rfl
   have m4:w8.cell? ⟨W.heap.size,4,none⟩=some (.int .i64 0):=cell_in hre8 rfl
   have m5:w8.cell? ⟨W.heap.size,5,none⟩=some (.int .i64 0):=cell_in hre8 rfl
   have H8:Hid (SimR w8 b0 sb p (nextA p A e0) R'∧Kq (Mu sb R) W w8∧w8.heap[W.heap.size]? =some (.cells #[.int .u64 0,.int .i64 0,.int .u64 0,.int .i64 0,.int .i64 0,.int .i64 0] 54 (0,0))∧Av p R' sb W.heap.size∧(∀k,k<W.heap.size→Mu sb R' k→Mu sb R k)∧ ∀r,r<W.heap.size→Av p R sb r→Av p R' sb r):=⟨hs8,(Kq.below HE.out.2.2.1).trans hk8,hre8,hav8 _ (lt_of_block HE.out.2.1) HE.out.2.2.2.2.1 HE.out.2.2.2.2.2,fun k hk e=>hmu8 k (Nat.lt_of_lt_of_le hk HE.out.2.2.1.size) e,fun r hr ha=>hav8 r (Nat.lt_of_lt_of_le hr HE.out.2.2.1.size) (Nat.lt_trans hr HE.out.2.2.2.2.1) ha⟩
   clear hmu8
   clear hs8 hk8 hav8 heb8 hre8
   go_wp2_with fail
   generalize hWF:(World.setCell (World.setCell (World.setCell (World.setCell (World.setCell (World.setCell w8 _ _) _ _) _ _) _ _) _ _) _ _)=wF
   have hres:wF.heap[W.heap.size]? =some (.cells #[.int .u64 e0.t,.int .i64 e0.s,.int .u64 e0.q,.int .i64 (dn:Int),.int .i64 e0.k,.int .i64 e0.v] 54 (0,0)):=by
    rw [←hWF,setCell_block _ _ _ _ (setCell_block _ _ _ _ (setCell_block _ _ _ _ (setCell_block _ _ _ _ (setCell_block _ _ _ _ (setCell_block _ _ _ _ H8.out.2.2.1)))))]
    rfl
   have hkF:Kq (fun k=>k=W.heap.size) w8 wF:=by
    rw [←hWF]
    exact (((((Kq.set (S:=fun k=>k=W.heap.size) _ _ _ _ rfl).trans (Kq.set _ _ _ _ rfl)).trans (Kq.set _ _ _ _ rfl)).trans (Kq.set _ _ _ _ rfl)).trans (Kq.set _ _ _ _ rfl)).trans (Kq.set _ _ _ _ rfl)
   have z0:wF.cell? ⟨W.heap.size,0,none⟩=some (.int .u64 e0.t):=cell_in hres rfl
   have z1:wF.cell? ⟨W.heap.size,1,none⟩=some (.int .i64 e0.s):=cell_in hres rfl
   have z2:wF.cell? ⟨W.heap.size,2,none⟩=some (.int .u64 e0.q):=cell_in hres rfl
   have z3:wF.cell? ⟨W.heap.size,3,none⟩=some (.int .i64 (dn:Int)):=cell_in hres rfl
   have z4:wF.cell? ⟨W.heap.size,4,none⟩=some (.int .i64 e0.k):=cell_in hres rfl
   have z5:wF.cell? ⟨W.heap.size,5,none⟩=some (.int .i64 e0.v):=cell_in hres rfl
   refine bodyPost_ret (v:=.tuple #[.agg #[.int .u64 e0.t,.int .i64 e0.s,.int .u64 e0.q,.int .i64 (dn:Int),.int .i64 e0.k,.int .i64 e0.v],.int .i64 0]) (by simp [results,Tryz.results22,go_sem,z0,z1,z2,z3,z4,z5];try rfl) rfl ?_
   refine ⟨nextA p A e0,R',e0,0,by rw [HD9.out],HN.out.2,H8.out.1.skip hkF H8.out.2.2.2.1,HN.out.1,H8.out.2.1.transM hkF (fun k hk e=>by have:k=W.heap.size:=e;omega),H8.out.2.2.2.2⟩
  have q0:(E.code !=0)=true:=by simpa using hz
  have q1:(E.code==0)=false:=by simpa using hz
  have HN:Hid (AOk2 p { A with f:=E.code } ∧StepR p A zeroE E.code { A with f:=E.code }):=⟨x2.fault _,.inr ⟨x4,e0,x3,.inl ⟨by rw [x8];exact hz,by rw [x8],rfl,by rw [x8]⟩⟩⟩
  have k8c:wc.cell? ⟨sb,8,none⟩=some (.int .i64 A.f):=cell_in hsimc.box rfl
  have z8c:=frz hsimc.box 8
  have HE:Hid (SimR wc b0 sb p A R∧wc.heap[W.heap.size]? =some (.cells #[.int .u64 0,.int .i64 0,.int .u64 0,.int .i64 0,.int .i64 0,.int .i64 0] 54 (0,0))∧Below W.heap.size W wc∧b0≤W.heap.size∧Av p R sb W.heap.size∧sb<W.heap.size):=⟨hsimc,hresc,hWc,hb0W,hav,x1.lt⟩
  clear hfx ho1 ho2 hbc hWc x1 x2 x3 x4 x5 x6 x7 x8 x9 hsimc hebc hresc hb0W hz4 hav hz HX HV HC hPS K0 KK KP0 HCd
  go_upto_region 7 with fail
  obtain ⟨w8,hw8⟩: ∃w8,wc.setCell ⟨sb,8,none⟩ (.int .i64 E.code)=w8:=⟨_,rfl⟩
  rw [hw8]
  have hk8:Kq (fun k=>k=sb) wc w8:=by
   rw [←hw8]
   exact Kq.set _ _ _ _ rfl
  have hb8:w8.heap[sb]? =some (.cells #[.slice R.pq p.nq R.pc,.int .u64 p.lk,.int .u64 p.en,.int .i64 p.bu,.int .i64 p.fu,R.sv,R.qv,R.tv,.int .i64 E.code] 125 (0,0)):=by
   rw [←hw8,setCell_block _ _ _ _ HE.out.1.box]
   rfl
  have hs8:=HE.out.1.fault E.code hk8 hb8
  have hre8:=(hk8.block W.heap.size (lt_of_block HE.out.2.1) (by have:=HE.out.2.2.2.2.2;show W.heap.size≠sb;omega)).trans HE.out.2.1
  have k8d:w8.cell? ⟨sb,8,none⟩=some (.int .i64 E.code):=cell_in hb8 rfl
  have hfz:=fun k=>frz hre8 k
  have m0:w8.cell? ⟨W.heap.size,0,none⟩=some (.int .u64 0):=cell_in hre8 rfl
  have m1:w8.cell? ⟨W.heap.size,1,none⟩=some (.int .i64 0):=cell_in hre8 rfl
  have m2:w8.cell? ⟨W.heap.size,2,none⟩=some (.int .u64 0):=cell_in hre8 rfl
  have m3:w8.cell? ⟨W.heap.size,3,none⟩=some (.int .i64 0):=cell_in hre8 rfl
  have m4:w8.cell? ⟨W.heap.size,4,none⟩=some (.int .i64 0):=cell_in hre8 rfl
  have m5:w8.cell? ⟨W.heap.size,5,none⟩=some (.int .i64 0):=cell_in hre8 rfl
  have H8:Hid (SimR w8 b0 sb p { A with f:=E.code } R∧Kq (Mu sb R) W w8∧w8.heap[W.heap.size]? =some (.cells #[.int .u64 0,.int .i64 0,.int .u64 0,.int .i64 0,.int .i64 0,.int .i64 0] 54 (0,0))∧W.heap.size≤w8.heap.size):=⟨hs8,(Kq.below HE.out.2.2.1).trans (hk8.mono fun k _ e=>.inl e),hre8,by have:=hk8.size;have:=HE.out.2.2.1.size;omega⟩
  clear hw8 hk8 hb8 hs8 hre8 v0 v1 v2 v3 v4 v5 k8c z8c k8
  go_region
  all_goals (
   go_wp2_with fail
   generalize hWF:World.drew (World.setCell (World.setCell (World.setCell (World.setCell (World.setCell (World.setCell w8 _ _) _ _) _ _) _ _) _ _) _ _)=wF
   obtain ⟨hres,hkF⟩:=zeros6 (W:=w8) H8.out.2.2.1
   rw [hWF] at hres hkF
   clear hWF
   have z0:wF.cell? ⟨W.heap.size,0,none⟩=some (.int .u64 0):=cell_in hres rfl
   have z1:wF.cell? ⟨W.heap.size,1,none⟩=some (.int .i64 0):=cell_in hres rfl
   have z2:wF.cell? ⟨W.heap.size,2,none⟩=some (.int .u64 0):=cell_in hres rfl
   have z3:wF.cell? ⟨W.heap.size,3,none⟩=some (.int .i64 0):=cell_in hres rfl
   have z4:wF.cell? ⟨W.heap.size,4,none⟩=some (.int .i64 0):=cell_in hres rfl
   have z5:wF.cell? ⟨W.heap.size,5,none⟩=some (.int .i64 0):=cell_in hres rfl
   refine bodyPost_ret (v:=.tuple #[.agg #[.int .u64 0,.int .i64 0,.int .u64 0,.int .i64 0,.int .i64 0,.int .i64 0],.int .i64 E.code]) (by simp [results,Tryz.results22,go_sem,z0,z1,z2,z3,z4,z5];try rfl) rfl ?_
   refine ⟨{ A with f:=E.code },R,zeroE,E.code,rfl,HN.out.2,H8.out.1.skip hkF HE.out.2.2.2.2.1,HN.out.1,H8.out.2.1.transM hkF (fun k hk e=>by have:k=W.heap.size:=e;omega),fun _ _ e=>e,fun _ _ e=>e⟩)
theorem step_any (W:World) (b0 sb:Nat) (p:Pl) (A:Ab) (R:Rv) (h:SimR W b0 sb p A R) (ho:AOk2 p A) (hpl:PlOk p):Calls Tryz.prog 22 #[.pointer (some ⟨sb,0,none⟩)] W fun r W'=> ∃(B:Ab) (R':Rv) (x:Se) (c:Int),r=.returned (.tuple #[.agg #[.int .u64 x.t,.int .i64 x.s,.int .u64 x.q,.int .i64 x.d,.int .i64 x.k,.int .i64 x.v],.int .i64 c])∧StepR p A x c B∧SimR W' b0 sb p B R'∧AOk2 p B∧Kq (Mu sb R) W W'∧(∀k,k<W.heap.size→Mu sb R' k→Mu sb R k)∧ ∀r,r<W.heap.size→Av p R sb r→Av p R' sb r:=by
 by_cases hov:Over p A
 ·exact step_over W b0 sb p A R h ho hov
 ·exact step_go W b0 sb p A R h ho hpl hov
end Go.Proofs.YtecgecpgmpmkoaaGreat
