import Derived.Test.YtecgecpgmpmkoaaGreatJWN2
import Derived.Test.YtecgecpgmpmkoaaGreatJRP1
namespace Go.Proofs.YtecgecpgmpmkoaaGreat
open Go.ChangeShapes Go.WideShapes Go.ChangeAt Go.RowKit
set_option linter.unusedVariables false
set_option linter.unusedSimpArgs false
attribute [local go_sem] Oper.semAt_some
theorem SimR.skipW {S:Nat→Prop} {W W':World} {b0 sb:Nat} {p:Pl} {A:Ab} {R:Rv} (h:SimR W b0 sb p A R) (hk:Kq S W W') (ha: ∀r,S r→Av p R sb r):SimR W' b0 sb p A R:=by
 have n0: ¬S sb:=fun e=>(ha sb e).1 (.inl rfl)
 refine ⟨(hk.block sb h.lt n0).trans h.box,h.b,h.ps.kb0 hk.kb (fun g o e hn e9=>(ha g e9).2.1 g o e hn rfl) (fun j hj=>⟨fun g o e hn e9=>((ha g e9).2.2 j hj).1 g o e hn rfl,fun g o e hn e9=>((ha g e9).2.2 j hj).2.1 g o e hn rfl⟩),h.st.far fun k e=>hk.block k (Own.lt h.st k e).2 fun e9=>(ha k e9).1 (.inr (.inl e.symm)),fun j hj=>⟨(h.wd j hj).1,(h.wd j hj).2.1.kb0 hk.kb (fun g o e hn e9=>((ha g e9).2.2 j hj).2.2 g o e hn rfl),(h.wd j hj).2.2⟩,h.q.far fun k e=>hk.block k (Own.lt h.q k e).2 fun e9=>(ha k e9).1 (.inr (.inr (.inl e.symm))),h.tr.far fun k e=>hk.block k (Own.lt h.tr k e).2 fun e9=>(ha k e9).1 (.inr (.inr (.inr e.symm))),h.hp,h.inj,h.set,h.nb,h.n1,h.n2,h.n3,h.n4,h.n5,h.r0,h.r1⟩
structure JW (p:Pl) (w2 wb:World) (sb lB q:Nat) (C:Ab) (R:Rv) (W:World):Prop where
 lv: ∃lv,W.heap[lB]? =some (.cells #[lv] 65 (0,0))∧Own W (w2.heap.size+2) 68 4 lv (wnR p.lk p.en C.Z q).1 (wiF (wnR p.lk p.en C.Z q).2)∧ ∀g,lv.ownBlock=some g→Av p R sb g
 al:Av p R sb lB
 d:W.heap[w2.heap.size]? =some (.deferred (some []))
 ad:Av p R sb w2.heap.size
 bel:Below wb.heap.size wb W
 sz:w2.heap.size+2≤W.heap.size
theorem JW.below {p:Pl} {w2 wb:World} {sb lB q:Nat} {C:Ab} {R:Rv} {W W':World} (h:JW p w2 wb sb lB q C R W) (hb:Below W.heap.size W W'):JW p w2 wb sb lB q C R W':=by
 obtain ⟨lv,h1,h2,h3⟩:=h.lv
 exact ⟨⟨lv,(hb.block _ (lt_of_block h1)).trans h1,h2.later hb,h3⟩,h.al,(hb.block _ (by have:=h.sz;omega)).trans h.d,h.ad,h.bel.trans (hb.mono h.bel.size),Nat.le_trans h.sz hb.size⟩
theorem stepZ {p:Pl} {B C:Ab} {x:Se} {c:Int} (h:StepR p B x c C): ∀j,j<B.m→C.Z j=B.Z j:=fun j hj=>by
 rcases h with ⟨_,_,_,rfl⟩|⟨_,y,_,⟨_,_,_,rfl⟩|⟨_,_,_,rfl⟩⟩
 ·rfl
 ·rfl
 ·show setS B.Z B.m y j=B.Z j
  unfold setS
  rw [if_neg (by omega)]
theorem stepX {p:Pl} {B C:Ab} {x:Se} (h:StepR p B x 0 C):C.Z B.m=x:=by
 rcases h with ⟨_,h,_⟩|⟨_,y,_,⟨h,h',_⟩|⟨_,_,rfl,rfl⟩⟩
 ·cases h
 ·exact absurd h'.symm h
 ·show setS B.Z B.m x B.m=x
  unfold setS
  rw [if_pos rfl]
theorem stepTW {p:Pl} (hp:PlOk p) {q:Nat} {B C:Ab} {x:Se} (hst:StepsR p (fstA p) q B) (hsp:StepR p B x 0 C):u64ok x.t:=by
 have ho:=steps_ok hp (fst_ok hp) hst
 rcases hsp with ⟨_,h,_⟩|⟨_,y,hy,⟨h,h',_⟩|⟨_,_,rfl,rfl⟩⟩
 ·cases h
 ·exact absurd h'.symm h
 ·exact (ho.ev _ hy.1).t
theorem JW.step {p:Pl} {w2 wb:World} {sb lB q:Nat} {B C:Ab} {R1 R2:Rv} {w w':World} {x:Se} {c:Int} (h:JW p w2 wb sb lB q B R1 w) (hst:StepsR p (fstA p) q B) (hsp:StepR p B x c C) (hs1:SimR w wb.heap.size sb p B R1) (hk:Kq (Mu sb R1) w w') (hav: ∀r,r<w.heap.size→Av p R1 sb r→Av p R2 sb r):JW p w2 wb sb lB q C R2 w':=by
 obtain ⟨lv,h1,h2,h3⟩:=h.lv
 have hm:B.m=q:=by have:=hst.m;show B.m=q;rw [this];exact Nat.zero_add q
 have hZ:wnR p.lk p.en C.Z q=wnR p.lk p.en B.Z q:=wnR_congr fun j hj=>stepZ hsp j (by omega)
 refine ⟨⟨lv,(hk.block lB (lt_of_block h1) h.al.1).trans h1,?_,fun g e=>hav g (Own.lt h2 g e).2 (h3 g e)⟩,hav lB (lt_of_block h1) h.al,(hk.block _ (by have:=h.sz;omega) h.ad.1).trans h.d,hav _ (by have:=h.sz;omega) h.ad,h.bel.trans (hk.toBelow h.bel.size (fun k e=>(hs1.mu k e).1)),Nat.le_trans h.sz hk.size⟩
 rw [hZ]
 exact Own.far h2 fun k e=>hk.block k (Own.lt h2 k e).2 (h3 k e).1
def OW (p:Pl) (w2:World) (lB:Nat) (vs:Array Value) (W W':World):Prop:= ∃(q:Nat) (B C:Ab) (x:Se) (lv lv':Value),vs= #[.int .i64 (q:Int),.agg #[.int .u64 x.t,.int .i64 x.s,.int .u64 x.q,.int .i64 x.d,.int .i64 x.k,.int .i64 x.v]]∧StepsR p (fstA p) q B∧StepR p B x 0 C∧W.heap[lB]? =some (.cells #[lv] 65 (0,0))∧W'.heap[lB]? =some (.cells #[lv'] 65 (0,0))∧Own W' (w2.heap.size+2) 68 4 lv' (wnR p.lk p.en C.Z (q+1)).1 (wiF (wnR p.lk p.en C.Z (q+1)).2)∧Kq (fun r=>r=lB∨r=w2.heap.size+1∨some r=lv.ownBlock) W W'∧(lv'.ownBlock=lv.ownBlock∨ ∃g,lv'.ownBlock=some g∧W.heap.size≤g)
theorem OW.but {p:Pl} {w2:World} {lB:Nat} {vs:Array Value} {W W1 W2:World} (hlb:lB<w2.heap.size) (h:OW p w2 lB vs W W1) (hb:But (w2.heap.size+1) W1 W2):OW p w2 lB vs W W2:=by
 obtain ⟨q,B,C,x,lv,lv',h1,h2,h3,h4,h5,h6,h7,h8⟩:=h
 have hk:Kq (fun r=>r=lB∨r=w2.heap.size+1∨some r=lv.ownBlock) W1 W2:=⟨hb.1.1,hb.1.2.1,hb.1.2.2,by rw [hb.2.1];exact Nat.le_refl _,fun k _ hs=>hb.2.2 k fun e=>hs (.inr (.inl e))⟩
 exact ⟨q,B,C,x,lv,lv',h1,h2,h3,h4,(hb.2.2 lB (by omega)).trans h5,Own.far h6 fun k e=>hb.2.2 k (by have:=(Own.lt h6 k e).1;omega),h7.trans hk,h8⟩
theorem OW.use {p:Pl} {w2 wb:World} {sb lB q:Nat} {B C:Ab} {R:Rv} {x:Se} {W W':World} (hlb:lB<w2.heap.size) (hl0:wb.heap.size≤lB) (h:OW p w2 lB #[.int .i64 (q:Int),.agg #[.int .u64 x.t,.int .i64 x.s,.int .u64 x.q,.int .i64 x.d,.int .i64 x.k,.int .i64 x.v]] W W') (hst:StepsR p (fstA p) q B) (hsp:StepR p B x 0 C) (hs:SimR W wb.heap.size sb p C R) (hj:JW p w2 wb sb lB q C R W) (hL:Av p R sb (w2.heap.size+1)):SimR W' wb.heap.size sb p C R∧JW p w2 wb sb lB (q+1) C R W':=by
 obtain ⟨q9,B9,C9,x9,lv,lv',h1,h2,h3,h4,h5,h6,h7,h8⟩:=h
 have eq:q9=q:=by
  have e9:=congrArg (fun a=>a[0]?) h1
  simp at e9
  omega
 subst eq
 obtain rfl:=hst.one h2
 obtain ⟨_,_,rfl⟩:=hsp.one h3
 obtain ⟨lw,k1,k2,k3⟩:=hj.lv
 rw [h4] at k1
 have el:lv=lw:=by
  injection k1 with k1
  injection k1 with k1
  simpa using k1
 subst el
 have hAv: ∀r,(r=lB∨r=w2.heap.size+1∨some r=lv.ownBlock)→Av p R sb r:=fun r e=>by
  rcases e with rfl|rfl|e
  ·exact hj.al
  ·exact hL
  ·exact k3 r e.symm
 have hge: ∀r,(r=lB∨r=w2.heap.size+1∨some r=lv.ownBlock)→wb.heap.size≤r:=fun r e=>by
  rcases e with rfl|rfl|e
  ·exact hl0
  ·omega
  ·have:=(Own.lt k2 r e.symm).1
   omega
 refine ⟨hs.skipW h7 hAv,⟨lv',h5,h6,fun g e=> ?_⟩,hj.al,(h7.block _ (by have:=hj.sz;omega) ?_).trans hj.d,hj.ad,hj.bel.trans (h7.toBelow hj.bel.size hge),Nat.le_trans hj.sz h7.size⟩
 ·rcases h8 with h8|⟨g9,h8,h9⟩
  ·exact k3 g (h8.symm.trans e)
  ·rw [h8] at e
   injection e with e
   subst e
   exact hs.av h9
 ·rintro (e|e|e)
  ·omega
  ·omega
  ·have:=(Own.lt k2 _ e.symm).1
   omega
theorem ok_vcW {p:Pl} (h:PlOk p):VC p 0:=.inr ⟨by have:=h.ki;omega,.inr ⟨h.gp,.inr ⟨h.gt,.inr ⟨h.gs,.inr ⟨by have:=h.lk;omega,.inr ⟨by have:=h.bu;omega,.inr ⟨by have:=h.fu;omega,rfl⟩⟩⟩⟩⟩⟩⟩
set_option maxRecDepth 100000 in
set_option maxHeartbeats 8000000 in
theorem windows_good (p:Pl) (v:PlV) (w:World) (h:PlAt w p v) (hr:RoomyL p) (hpl:PlOk p) (hlk:u64ok p.lk) (hen:u64ok p.en):Calls Tryz.prog 26 #[.agg #[.int .i64 p.ki,.slice v.pp p.np v.pc,.slice v.tp p.nq v.tc,.slice v.sp p.ns v.sc,.int .u64 p.sd,.int .u64 p.lk,.int .u64 p.en,.int .i64 p.bu,.int .i64 p.fu]] w fun r w'=> ∃(C:Ab) (lq:Option Addr) (lc:Nat),EndR p (fstA p) C∧AOk2 p C∧r=.returned (.slice lq (wnR p.lk p.en C.Z C.m).1 lc)∧Own w' (w.heap.size+1) 68 4 (.slice lq (wnR p.lk p.en C.Z C.m).1 lc) (wnR p.lk p.en C.Z C.m).1 (wiF (wnR p.lk p.en C.Z C.m).2)∧Below w.heap.size w w':=by
 obtain ⟨iW,hW1,hW2,hW3,hW4⟩:=sinfo infoWI
 obtain ⟨wb,hwb⟩: ∃wb,w.alloc (.cells #[.int .i64 p.ki,.slice v.pp p.np v.pc,.slice v.tp p.nq v.tc,.slice v.sp p.ns v.sc,.int .u64 p.sd,.int .u64 p.lk,.int .u64 p.en,.int .i64 p.bu,.int .i64 p.fu] 27)=wb:=⟨_,rfl⟩
 obtain ⟨hb0,hbox,hsz⟩:=boxed _ _ _ hwb
 have HH:Hid (w.alloc (.cells #[.int .i64 p.ki,.slice v.pp p.np v.pc,.slice v.tp p.nq v.tc,.slice v.sp p.ns v.sc,.int .u64 p.sd,.int .u64 p.lk,.int .u64 p.en,.int .i64 p.bu,.int .i64 p.fu] 27)=wb):=hwb
 have HBG:Calls Tryz.prog 44 #[.agg #[.int .i64 p.ki,.slice v.pp p.np v.pc,.slice v.tp p.nq v.tc,.slice v.sp p.ns v.sc,.int .u64 p.sd,.int .u64 p.lk,.int .u64 p.en,.int .i64 p.bu,.int .i64 p.fu]] wb fun e w'=> ∃(sb:Nat) (R:Rv),e=.returned (.tuple #[.pointer (some ⟨sb,0,none⟩),.int .i64 0])∧SimR w' wb.heap.size sb p (fstA p) R∧Below wb.heap.size wb w':=by
  refine (begin_any p v wb (h.below hb0) hr 0 (ok_vcW hpl)).mono ?_
  rintro e w' (⟨h9,_⟩|⟨_,h9⟩)
  ·exact absurd rfl h9
  ·exact h9
 have HB:Hid (Below w.heap.size w wb∧wb.heap[w.heap.size]? =some (.cells #[.int .i64 p.ki,.slice v.pp p.np v.pc,.slice v.tp p.nq v.tc,.slice v.sp p.ns v.sc,.int .u64 p.sd,.int .u64 p.lk,.int .u64 p.en,.int .i64 p.bu,.int .i64 p.fu] 27 (0,0))∧wb.heap.size=w.heap.size+1):=⟨hb0,hbox,hsz⟩
 have g0:wb.cell? ⟨w.heap.size,0,none⟩=some (.int .i64 p.ki):=cell_in hbox rfl
 have g1:wb.cell? ⟨w.heap.size,1,none⟩=some (.slice v.pp p.np v.pc):=cell_in hbox rfl
 have g2:wb.cell? ⟨w.heap.size,2,none⟩=some (.slice v.tp p.nq v.tc):=cell_in hbox rfl
 have g3:wb.cell? ⟨w.heap.size,3,none⟩=some (.slice v.sp p.ns v.sc):=cell_in hbox rfl
 have g4:wb.cell? ⟨w.heap.size,4,none⟩=some (.int .u64 p.sd):=cell_in hbox rfl
 have g5:wb.cell? ⟨w.heap.size,5,none⟩=some (.int .u64 p.lk):=cell_in hbox rfl
 have g6:wb.cell? ⟨w.heap.size,6,none⟩=some (.int .u64 p.en):=cell_in hbox rfl
 have g7:wb.cell? ⟨w.heap.size,7,none⟩=some (.int .i64 p.bu):=cell_in hbox rfl
 have g8:wb.cell? ⟨w.heap.size,8,none⟩=some (.int .i64 p.fu):=cell_in hbox rfl
 rw [←hwb] at g0 g1 g2 g3 g4 g5 g6 g7 g8
 clear hwb hb0 hbox hsz h hr
 refine (callsIn_wide (n:=3)).1 ?_
 refine callsIn_of_wp_marks Tryz.func26 rfl trivial ?_ rfl
 simp only [Tryz.ntmps26,List.size_toArray,List.length_cons,List.length_nil,Nat.reduceAdd,Nat.reduceSub,Array.replicate_succ,Array.replicate_zero,List.push_toArray,List.append_toArray,List.nil_append,List.cons_append]
 gi_wp2_with (first|(refine ⟨trivial,?_⟩;gi_at_call 44;rw [HH.out];(with_reducible refine (callsIn_wide.2 HBG).mono ?_);rintro e w1 ⟨sb,R,rfl,hsim,hb1⟩)|(refine ⟨trivial,?_⟩;gi_at_call 45;(with_reducible refine (callsIn_wide.2 (events_any sb _)).mono ?_);rintro e w2 ⟨rfl,rfl⟩))
 obtain ⟨w1a,hw1a⟩: ∃w1a,w1.alloc (.cells #[.slice none 0 0] 65)=w1a:=⟨_,rfl⟩
 obtain ⟨hb1a,hx1a,hsz1a⟩:=boxed _ _ _ hw1a
 rw [hw1a]
 obtain ⟨w2,hw2⟩: ∃w2,w1a.alloc (.cells #[.pointer (some ⟨sb,0,none⟩)] 50)=w2:=⟨_,rfl⟩
 obtain ⟨hb2,hbx2,hsz2⟩:=boxed _ _ _ hw2
 rw [hw2]
 obtain ⟨lB,hlB⟩: ∃lB,w1.heap.size=lB:=⟨_,rfl⟩
 rw [hlB] at hx1a ⊢
 rw [hsz1a,hlB] at hbx2
 obtain ⟨bx,hbx⟩: ∃bx,lB+1=bx:=⟨_,rfl⟩
 rw [hbx] at hbx2 ⊢
 have hx2:=(hb2.block _ (lt_of_block hx1a)).trans hx1a
 have hb12:Below w1.heap.size w1 w2:=hb1a.trans (hb2.mono hb1a.size)
 have hs2:=hsim.below hb12
 have hbB2:Below wb.heap.size wb w2:=hb1.trans (hb12.mono hb1.size)
 have hzb:=HB.out.2.2
 have hz1:=hb1.size
 have hlb:lB<w2.heap.size:=by omega
 have hl0:wb.heap.size≤lB:=by omega
 have hbxl:bx<w2.heap.size:=by omega
 have hlAv:Av p R sb lB:=hsim.av (by omega)
 have HHH:Hid (SimR w2 wb.heap.size sb p (fstA p) R∧w2.heap[lB]? =some (.cells #[.slice none 0 0] 65 (0,0))∧Below wb.heap.size wb w2∧w2.heap[bx]? =some (.cells #[.pointer (some ⟨sb,0,none⟩)] 50 (0,0))∧lB<w2.heap.size∧wb.heap.size≤lB∧bx<w2.heap.size∧Av p R sb lB∧PlOk p∧u64ok p.lk∧u64ok p.en):=⟨hs2,hx2,hbB2,hbx2,hlb,hl0,hbxl,hlAv,hpl,hlk,hen⟩
 clear hw1a hb1a hx1a hsz1a hw2 hb2 hbx2 hsz2 hlB hbx hx2 hb12 hs2 hbB2 hz1 hlAv hsim hb1 HBG g0 g1 g2 g3 g4 g5 g6 g7 g8 HH hzb hbxl
 refine range_mut (n:=3) (by decide) (gf:=89) (lb:= #[.pointer (some ⟨bx,0,none⟩)]) rfl (enters_of Tryz.func89 (by kernel_rfl) rfl)
  (fun vs W=> ∃(q:Nat) (B C:Ab) (R2:Rv) (x:Se),vs= #[.int .i64 (q:Int),.agg #[.int .u64 x.t,.int .i64 x.s,.int .u64 x.q,.int .i64 x.d,.int .i64 x.k,.int .i64 x.v]]∧StepsR p (fstA p) q B∧StepR p B x 0 C∧SimR W wb.heap.size sb p C R2∧AOk2 p C∧JW p w2 wb sb lB q C R2 W∧Av p R2 sb (w2.heap.size+1))
  (fun vs W a' W'=> ∃(q:Nat) (B C:Ab) (R2:Rv) (x:Se),(vs= #[.int .i64 (q:Int),.agg #[.int .u64 x.t,.int .i64 x.s,.int .u64 x.q,.int .i64 x.d,.int .i64 x.k,.int .i64 x.v]]∧StepsR p (fstA p) q B∧StepR p B x 0 C∧SimR W wb.heap.size sb p C R2∧AOk2 p C∧JW p w2 wb sb lB q C R2 W∧Av p R2 sb (w2.heap.size+1))∧a'= { tmps:= #[.agg #[.int .i64 p.ki,.slice v.pp p.np v.pc,.slice v.tp p.nq v.tc,.slice v.sp p.ns v.sc,.int .u64 p.sd,.int .u64 p.lk,.int .u64 p.en,.int .i64 p.bu,.int .i64 p.fu],.pointer (some ⟨w.heap.size,0,none⟩),.slice none 0 0,.pointer (some ⟨sb,0,none⟩),.int .i64 0,.pointer (some ⟨lB,0,none⟩),undef,.pointer (some ⟨W.heap.size,0,none⟩),undef,.tuple #[.pointer (some ⟨sb,0,none⟩),.int .i64 0],.agg #[.int .i64 p.ki,.slice v.pp p.np v.pc,.slice v.tp p.nq v.tc,.slice v.sp p.ns v.sc,.int .u64 p.sd,.int .u64 p.lk,.int .u64 p.en,.int .i64 p.bu,.int .i64 p.fu],.tuple #[.pointer (some ⟨sb,0,none⟩),.int .i64 0],.pointer (some ⟨sb,0,none⟩),.int .i64 0,.int .i64 0,.bool false,.pointer (some ⟨sb,0,none⟩),.func (.func 89) #[] #[.pointer (some ⟨bx,0,none⟩)],.int .i64 (q:Int),.agg #[.int .u64 x.t,.int .i64 x.s,.int .u64 x.q,.int .i64 x.d,.int .i64 x.k,.int .i64 x.v],undef,undef,undef,undef,undef,undef,undef,undef,undef,undef,undef,undef,undef,undef,undef,undef,undef,undef,undef,undef,undef,undef,undef,undef,undef,undef,undef,undef,undef,undef,undef,undef,undef,undef,undef,undef,undef],defers:= [] } ∧But (w2.heap.size+1) (W.alloc (.cells #[.int .u64 x.t,.int .i64 x.s,.int .u64 x.q,.int .i64 x.d,.int .i64 x.k,.int .i64 x.v] 54)) W')
  (OW p w2 lB) (fun _ _ _ _=>False) ?hA (fun vs W W1 W2 h1 h2=>OW.but hlb h1 h2) (fun _ _ _ _ _ h _=>h) ?assign ?body ?ps
  (fun W=> ∃(C:Ab) (R':Rv),EndR p (fstA p) C∧AOk2 p C∧JW p w2 wb sb lB C.m C R' W) (fun _ _=>False) ?seq ?done (fun _ _ _ _ _ _ _ _ h _ _=>h.elim)
 case hA=>
  rintro vs W a' W1 W2 ⟨q,B,C,R2,x,h1,h2,h3⟩ hb
  exact ⟨q,B,C,R2,x,h1,h2,⟨⟨hb.1.1.trans h3.1.1,hb.1.2.1.trans h3.1.2.1,hb.1.2.2.trans h3.1.2.2⟩,hb.2.1.trans h3.2.1,fun k hk=>(hb.2.2 k hk).trans (h3.2.2 k hk)⟩⟩
 case ps=>
  rintro vs W ⟨q,B,C,R2,x,rfl,_⟩
  rfl
 case assign=>
  rintro m vs W K ⟨q,B,C,R2,x,rfl,h1,h2,h3,h4,h5,h6⟩ hLs hK
  gi_wp2
  exact hK _ _ ⟨q,B,C,R2,x,⟨rfl,h1,h2,h3,h4,h5,h6⟩,rfl,⟨⟨rfl,rfl,rfl⟩,rfl,fun _ _=>rfl⟩⟩ (((Below.refl _ W).alloc (Nat.le_refl _) _).block _ hLs)
 case body=>
  rintro m vs W a' W' rc ⟨q,B,C,R2,x,⟨rfl,hst,hsp,hs,hok,hj,havL⟩,rfl,hbut⟩ hlr
  obtain ⟨A1,A2,A3,A4,A5,A6,A7,A8,A9,A10,A11⟩:=HHH.out
  obtain ⟨lv,l1,l2,l3⟩:=hj.lv
  obtain ⟨kk,hkk⟩: ∃kk,wnR p.lk p.en C.Z q=kk:=⟨_,rfl⟩
  have hle:=wnR_le p.lk p.en C.Z q
  rw [hkk] at l2 hle
  obtain ⟨k,Q⟩:=kk
  have hle1:k≤q:=hle.1
  have hle2: ∀j,j<k→1≤(Q j).ev∧(Q j).ev≤(q:Int):=hle.2
  have l2:Own W (w2.heap.size+2) 68 4 lv k (wiF Q):=l2
  obtain ⟨lq,lc,rfl⟩:=own_form l2
  have hBm:B.m=q:=by have:=hst.m;rw [this];exact Nat.zero_add q
  have hCm:C.m=q+1:=by have:=(hst.more hsp).m;rw [this];exact Nat.zero_add _
  have hq4:q<4096:=by have:=hok.m;omega
  have hxq:C.Z q=x:=by rw [←hBm];exact stepX hsp
  have hxt:u64ok x.t:=stepTW A9 hst hsp
  have hwn:wnR p.lk p.en C.Z (q+1)=if opW x.t k Q then (k+1,adW p.lk p.en x.t Q k) else (k,upW Q k):=by
   show (if opW (C.Z q).t (wnR p.lk p.en C.Z q).1 (wnR p.lk p.en C.Z q).2 then _ else _)=_
   rw [hkk,hxq]
  obtain ⟨eb,heb⟩: ∃eb,W.heap.size=eb:=⟨_,rfl⟩
  have hsz:=hj.sz
  have hAl:Below W.heap.size W (W.alloc (.cells #[.int .u64 x.t,.int .i64 x.s,.int .u64 x.q,.int .i64 x.d,.int .i64 x.k,.int .i64 x.v] 54)):=(Below.refl _ W).alloc (Nat.le_refl _) _
  have hN:=hbut.2.2
  have hE:W'.heap[eb]? =some (.cells #[.int .u64 x.t,.int .i64 x.s,.int .u64 x.q,.int .i64 x.d,.int .i64 x.k,.int .i64 x.v] 54 (0,0)):=by
   rw [←heb]
   exact (hN _ (by omega)).trans (World.alloc_heap_new W _)
  have hL':W'.heap[lB]? =some (.cells #[.slice lq k lc] 65 (0,0)):=(hN lB (by omega)).trans ((hAl.block lB (by omega)).trans l1)
  have hrow':Own W' (w2.heap.size+2) 68 4 (.slice lq k lc) k (wiF Q):=Own.far (l2.later hAl) fun j e=>hN j (by have:=(Own.lt l2 j e).1;omega)
  have hzb:=HB.out.2.2
  have hP':W'.heap[w.heap.size]? =some (.cells #[.int .i64 p.ki,.slice v.pp p.np v.pc,.slice v.tp p.nq v.tc,.slice v.sp p.ns v.sc,.int .u64 p.sd,.int .u64 p.lk,.int .u64 p.en,.int .i64 p.bu,.int .i64 p.fu] 27 (0,0)):=(hN _ (by omega)).trans ((hAl.block _ (by omega)).trans ((hj.bel.block _ (by omega)).trans HB.out.2.1))
  have hWz:W'.heap.size=W.heap.size+1:=by rw [hbut.2.1];simp
  have hk0:Kq (fun r=>r=lB∨r=w2.heap.size+1∨some r=(Value.slice lq k lc).ownBlock) W W':=⟨hbut.1.1,hbut.1.2.1,hbut.1.2.2,by omega,fun j hj9 hs9=>(hN j fun e=>hs9 (.inr (.inl e))).trans (hAl.block j hj9)⟩
  have ct:W'.cell? ⟨eb,0,none⟩=some (.int .u64 x.t):=cell_in hE rfl
  have cl0:W'.cell? ⟨lB,0,none⟩=some (.slice lq k lc):=cell_in hL' rfl
  rw [heb]
  have HX:Hid (StepsR p (fstA p) q B∧StepR p B x 0 C∧W.heap[lB]? =some (.cells #[.slice lq k lc] 65 (0,0))∧wnR p.lk p.en C.Z (q+1)=(if opW x.t k Q then (k+1,adW p.lk p.en x.t Q k) else (k,upW Q k))):=⟨hst,hsp,l1,hwn⟩
  by_cases hop:opW x.t k Q
  case neg=>
   have hk9:k≠0:=fun e=>hop (.inl e)
   have hbt: ¬(Q (k-1)).bd≤x.t:=fun e=>hop (.inr e)
   obtain ⟨k1,hk1⟩: ∃k1,k=k1+1:=⟨k-1,by omega⟩
   obtain ⟨g,hg⟩: ∃g,lq=some ⟨g,0,none⟩:=by
    rcases Own.form l2 with ⟨_,h9⟩|⟨g9,c9,h9,_⟩
    ·omega
    ·injection h9 with h9
     exact ⟨g9,h9⟩
   subst hg
   obtain ⟨c0,c1,c2,c3⟩:=WRow.cells hrow' (i:=k1) (by omega)
   obtain ⟨ev,hev⟩: ∃ev,(Q k1).ev=ev:=⟨_,rfl⟩
   have hev9:=hle2 k1 (by omega)
   rw [hev] at c3 hev9
   obtain ⟨bd,hbd⟩: ∃bd,(Q k1).bd=bd:=⟨_,rfl⟩
   rw [show k-1=k1 by omega,hbd] at hbt
   rw [hbd] at c2
   have e0:((k:Int)==0)=false:=by simp;omega
   have e1:IntKind.i64.wrap ((k:Int)-1)=(k1:Int):=by rw [IntKind.wrap_i64];omega
   have e2:(0:Int)≤(k1:Int):=by omega
   have e3:(k1:Int)<(k:Int):=by omega
   have e4:decide (x.t≥bd)=false:=decide_eq_false (by omega)
   have e5:decide (bd≤x.t)=false:=decide_eq_false (by omega)
   have e6:IntKind.i64.wrap (ev+1)=ev+1:=by rw [IntKind.wrap_i64];omega
   have fz: ∀j,W'.frozen? ⟨g,j,none⟩=false:=fun j=>by
    obtain ⟨cur,hblk,_⟩:=Own.block hrow'
    simp [World.frozen?,hblk]
   have hgl:=Own.lt l2 g rfl
   have HFI:Hid (∀nq,((W'.drewN nq).setCell ⟨g,k1*4+3,none⟩ (.int .i64 (ev+1))).heap[w2.heap.size+1]? =some (.loop rc)∧OW p w2 lB #[.int .i64 (q:Int),.agg #[.int .u64 x.t,.int .i64 x.s,.int .u64 x.q,.int .i64 x.d,.int .i64 x.k,.int .i64 x.v]] W ((W'.drewN nq).setCell ⟨g,k1*4+3,none⟩ (.int .i64 (ev+1)))):=fun nq=>by
    have hd:Below W'.heap.size W' (W'.drewN nq):=below_drewNq _ _ _
    have hkk9:Kq (fun r=>r=lB∨r=w2.heap.size+1∨some r=(Value.slice (some ⟨g,0,none⟩) k lc).ownBlock) W ((W'.drewN nq).setCell ⟨g,k1*4+3,none⟩ (.int .i64 (ev+1))):=(hk0.trans (Kq.below hd)).trans (Kq.set _ _ _ _ (.inr (.inr rfl)))
    refine ⟨(Below.heap_setCell _ _ _ _ (show w2.heap.size+1≠g by omega)).trans ((hd.block _ (by omega)).trans hlr),q,B,C,x,_,.slice (some ⟨g,0,none⟩) k lc,rfl,HX.out.1,HX.out.2.1,HX.out.2.2.1,(Below.heap_setCell _ _ _ _ (show lB≠g by omega)).trans ((hd.block _ (by omega)).trans hL'),?_,hkk9,.inl rfl⟩
    rw [HX.out.2.2.2,if_neg hop]
    have h9:=WRow.put (hrow'.later hd) (i:=k1) (by omega) (ev+1)
    show Own _ _ _ _ _ k (wiF (upW Q k))
    unfold upW
    rw [show k-1=k1 by omega,hev]
    exact h9
   clear hbut hN hAl hsz hj hs hok havL l1 l2 l3 hle hle1 hle2 hkk hst hsp hBm hCm hxq hxt hwn hop hbt hk9 hev hbd hev9 hgl hE hL' hrow' hP' hWz hk0 hzb HX heb hlr A1 A2 A3 A4 A5 A6 A7 A8 A9 A10 A11 hk1 hq4
   gi_wp2
   refine region_quietR (by kernel_rfl) (by kernel_rfl) (by kernel_rfl) ?_
   repeat (gi_big_quiet_step (fail))
   refine wpQuietIn_nil ?_
   intro _ hw9
   obtain ⟨nq,hw8⟩:=hw9
   subst hw8
   gi_wp2
   exact HFI.out nq
  case pos=>
   obtain ⟨bn,hbn⟩: ∃bn,bndN x.t p.lk p.en=bn:=⟨_,rfl⟩
   have HO: ∀W9,Hid (Calls Tryz.prog 72 #[.agg #[.int .i64 p.ki,.slice v.pp p.np v.pc,.slice v.tp p.nq v.tc,.slice v.sp p.ns v.sc,.int .u64 p.sd,.int .u64 p.lk,.int .u64 p.en,.int .i64 p.bu,.int .i64 p.fu],.int .i64 ((k:Int)+1),.int .u64 x.t] W9 fun e w'=>e=.returned (.agg #[.int .i64 ((k:Int)+1),.int .u64 x.t,.int .u64 bn,.int .i64 0])∧Below W9.heap.size W9 w'):=fun W9=>by
    have:=opened_any p v W9 ((k:Int)+1) x.t hxt A10 A11
    rw [hbn] at this
    exact this
   have e6:IntKind.i64.wrap ((k:Int)+1)=(k:Int)+1:=by rw [IntKind.wrap_i64];omega
   have p1:k+1≤maxLen:=by unfold maxLen;omega
   have p2:(k+1)*32≤140737488355328:=by omega
   have ex:IntKind.i64.wrap ((k:Int)+1-1)=(k:Int):=by rw [IntKind.wrap_i64];omega
   have ex2:IntKind.i64.wrap (((k+1:Nat):Int)-1)=(k:Int):=by rw [IntKind.wrap_i64];omega
   have ey:IntKind.i64.wrap ((0:Int)+1)=1:=by rw [IntKind.wrap_i64];rfl
   have iy0:(0:Int)≤(k:Int):=by omega
   have iy1:(k:Int)<(k:Int)+1:=by omega
   have iy2:(k:Int)<((k+1:Nat):Int):=by omega
   have HLBN:Hid (lB<W'.heap.size∧w2.heap.size+1<W'.heap.size∧eb<W'.heap.size∧w.heap.size<W'.heap.size∧lB<w2.heap.size∧w.heap.size<lB∧eb≠lB∧w2.heap.size+2≤eb∧W'.heap.size=eb+1):=⟨by omega,by omega,by omega,by omega,by omega,by omega,by omega,by omega,by omega⟩
   have HW0:Hid (Kq (fun r=>r=lB∨r=w2.heap.size+1∨some r=(Value.slice lq k lc).ownBlock) W W'∧Own W' (w2.heap.size+2) 68 4 (.slice lq k lc) k (wiF Q)∧W'.heap[lB]? =some (.cells #[.slice lq k lc] 65 (0,0))∧W'.heap[w2.heap.size+1]? =some (.loop rc)∧W'.heap[eb]? =some (.cells #[.int .u64 x.t,.int .i64 x.s,.int .u64 x.q,.int .i64 x.d,.int .i64 x.k,.int .i64 x.v] 54 (0,0))∧W'.heap[w.heap.size]? =some (.cells #[.int .i64 p.ki,.slice v.pp p.np v.pc,.slice v.tp p.nq v.tc,.slice v.sp p.ns v.sc,.int .u64 p.sd,.int .u64 p.lk,.int .u64 p.en,.int .i64 p.bu,.int .i64 p.fu] 27 (0,0))∧(∀j,(Value.slice lq k lc).ownBlock=some j→w2.heap.size+2≤j∧j<eb)∧W.heap.size=eb∧opW x.t k Q∧bndN x.t p.lk p.en=bn):=⟨hk0,hrow',hL',hlr,hE,hP',fun j e=>by have:=Own.lt l2 j e;omega,heb,hop,hbn⟩
   obtain ⟨wq0,hwq0⟩: ∃wq0:Unit,True:=⟨(),trivial⟩
   have CORE: ∀wq,Below W'.heap.size W' wq→Hid ((∀W9,Below wq.heap.size wq W9→((W9.cell? ⟨w.heap.size,0,none⟩=some (.int .i64 p.ki)∧W9.cell? ⟨w.heap.size,1,none⟩=some (.slice v.pp p.np v.pc)∧W9.cell? ⟨w.heap.size,2,none⟩=some (.slice v.tp p.nq v.tc)∧W9.cell? ⟨w.heap.size,3,none⟩=some (.slice v.sp p.ns v.sc)∧W9.cell? ⟨w.heap.size,4,none⟩=some (.int .u64 p.sd)∧W9.cell? ⟨w.heap.size,5,none⟩=some (.int .u64 p.lk)∧W9.cell? ⟨w.heap.size,6,none⟩=some (.int .u64 p.en)∧W9.cell? ⟨w.heap.size,7,none⟩=some (.int .i64 p.bu)∧W9.cell? ⟨w.heap.size,8,none⟩=some (.int .i64 p.fu))∧W9.cell? ⟨eb,0,none⟩=some (.int .u64 x.t)))∧(∀(W9 W8:World) (g5 c5:Nat),Below wq.heap.size wq W9→W8.ownsRow (w2.heap.size+2) 68 4 (.slice (some ⟨g5,0,none⟩) (k+1) c5) (k+1) (cellsF (wiF Q) (k*4)++wiL ⟨(k:Int)+1,x.t,bn,0⟩)→W9.grownBy W8 (Value.slice lq k lc).ownBlock→((Value.slice (some ⟨g5,0,none⟩) (k+1) c5).ownBlock=(Value.slice lq k lc).ownBlock∨(Value.slice (some ⟨g5,0,none⟩) (k+1) c5).ownBlock=some W9.heap.size)→Hid (((W8.cell? ⟨w.heap.size,0,none⟩=some (.int .i64 p.ki)∧W8.cell? ⟨w.heap.size,1,none⟩=some (.slice v.pp p.np v.pc)∧W8.cell? ⟨w.heap.size,2,none⟩=some (.slice v.tp p.nq v.tc)∧W8.cell? ⟨w.heap.size,3,none⟩=some (.slice v.sp p.ns v.sc)∧W8.cell? ⟨w.heap.size,4,none⟩=some (.int .u64 p.sd)∧W8.cell? ⟨w.heap.size,5,none⟩=some (.int .u64 p.lk)∧W8.cell? ⟨w.heap.size,6,none⟩=some (.int .u64 p.en)∧W8.cell? ⟨w.heap.size,7,none⟩=some (.int .i64 p.bu)∧W8.cell? ⟨w.heap.size,8,none⟩=some (.int .i64 p.fu))∧W8.cell? ⟨eb,0,none⟩=some (.int .u64 x.t))∧Own W8 (w2.heap.size+2) 68 4 (.slice (some ⟨g5,0,none⟩) (k+1) c5) (k+1) (wiF (setS Q k ⟨(k:Int)+1,x.t,bn,0⟩))∧W8.heap[lB]? =some (.cells #[.slice lq k lc] 65 (0,0))∧W8.heap[w2.heap.size+1]? =some (.loop rc)∧Kq (fun r=>r=lB∨r=w2.heap.size+1∨some r=(Value.slice lq k lc).ownBlock) W W8∧((Value.slice (some ⟨g5,0,none⟩) (k+1) c5).ownBlock=(Value.slice lq k lc).ownBlock∨ ∃g,(Value.slice (some ⟨g5,0,none⟩) (k+1) c5).ownBlock=some g∧W.heap.size≤g)))∧(∀(W8 W7:World) (g5 c5:Nat),(((W8.cell? ⟨w.heap.size,0,none⟩=some (.int .i64 p.ki)∧W8.cell? ⟨w.heap.size,1,none⟩=some (.slice v.pp p.np v.pc)∧W8.cell? ⟨w.heap.size,2,none⟩=some (.slice v.tp p.nq v.tc)∧W8.cell? ⟨w.heap.size,3,none⟩=some (.slice v.sp p.ns v.sc)∧W8.cell? ⟨w.heap.size,4,none⟩=some (.int .u64 p.sd)∧W8.cell? ⟨w.heap.size,5,none⟩=some (.int .u64 p.lk)∧W8.cell? ⟨w.heap.size,6,none⟩=some (.int .u64 p.en)∧W8.cell? ⟨w.heap.size,7,none⟩=some (.int .i64 p.bu)∧W8.cell? ⟨w.heap.size,8,none⟩=some (.int .i64 p.fu))∧W8.cell? ⟨eb,0,none⟩=some (.int .u64 x.t))∧Own W8 (w2.heap.size+2) 68 4 (.slice (some ⟨g5,0,none⟩) (k+1) c5) (k+1) (wiF (setS Q k ⟨(k:Int)+1,x.t,bn,0⟩))∧W8.heap[lB]? =some (.cells #[.slice lq k lc] 65 (0,0))∧W8.heap[w2.heap.size+1]? =some (.loop rc)∧Kq (fun r=>r=lB∨r=w2.heap.size+1∨some r=(Value.slice lq k lc).ownBlock) W W8∧((Value.slice (some ⟨g5,0,none⟩) (k+1) c5).ownBlock=(Value.slice lq k lc).ownBlock∨ ∃g,(Value.slice (some ⟨g5,0,none⟩) (k+1) c5).ownBlock=some g∧W.heap.size≤g))→W8.setCell ⟨lB,0,none⟩ (.slice (some ⟨g5,0,none⟩) (k+1) c5)=W7→Hid (((W7.cell? ⟨w.heap.size,0,none⟩=some (.int .i64 p.ki)∧W7.cell? ⟨w.heap.size,1,none⟩=some (.slice v.pp p.np v.pc)∧W7.cell? ⟨w.heap.size,2,none⟩=some (.slice v.tp p.nq v.tc)∧W7.cell? ⟨w.heap.size,3,none⟩=some (.slice v.sp p.ns v.sc)∧W7.cell? ⟨w.heap.size,4,none⟩=some (.int .u64 p.sd)∧W7.cell? ⟨w.heap.size,5,none⟩=some (.int .u64 p.lk)∧W7.cell? ⟨w.heap.size,6,none⟩=some (.int .u64 p.en)∧W7.cell? ⟨w.heap.size,7,none⟩=some (.int .i64 p.bu)∧W7.cell? ⟨w.heap.size,8,none⟩=some (.int .i64 p.fu))∧W7.cell? ⟨eb,0,none⟩=some (.int .u64 x.t))∧Own W7 (w2.heap.size+2) 68 4 (.slice (some ⟨g5,0,none⟩) (k+1) c5) (k+1) (wiF (setS Q k ⟨(k:Int)+1,x.t,bn,0⟩))∧W7.heap[lB]? =some (.cells #[.slice (some ⟨g5,0,none⟩) (k+1) c5] 65 (0,0))∧W7.heap[w2.heap.size+1]? =some (.loop rc)∧Kq (fun r=>r=lB∨r=w2.heap.size+1∨some r=(Value.slice lq k lc).ownBlock) W W7∧((Value.slice (some ⟨g5,0,none⟩) (k+1) c5).ownBlock=(Value.slice lq k lc).ownBlock∨ ∃g,(Value.slice (some ⟨g5,0,none⟩) (k+1) c5).ownBlock=some g∧W.heap.size≤g)))∧(∀(W7:World) (g5 c5:Nat),(((W7.cell? ⟨w.heap.size,0,none⟩=some (.int .i64 p.ki)∧W7.cell? ⟨w.heap.size,1,none⟩=some (.slice v.pp p.np v.pc)∧W7.cell? ⟨w.heap.size,2,none⟩=some (.slice v.tp p.nq v.tc)∧W7.cell? ⟨w.heap.size,3,none⟩=some (.slice v.sp p.ns v.sc)∧W7.cell? ⟨w.heap.size,4,none⟩=some (.int .u64 p.sd)∧W7.cell? ⟨w.heap.size,5,none⟩=some (.int .u64 p.lk)∧W7.cell? ⟨w.heap.size,6,none⟩=some (.int .u64 p.en)∧W7.cell? ⟨w.heap.size,7,none⟩=some (.int .i64 p.bu)∧W7.cell? ⟨w.heap.size,8,none⟩=some (.int .i64 p.fu))∧W7.cell? ⟨eb,0,none⟩=some (.int .u64 x.t))∧Own W7 (w2.heap.size+2) 68 4 (.slice (some ⟨g5,0,none⟩) (k+1) c5) (k+1) (wiF (setS Q k ⟨(k:Int)+1,x.t,bn,0⟩))∧W7.heap[lB]? =some (.cells #[.slice (some ⟨g5,0,none⟩) (k+1) c5] 65 (0,0))∧W7.heap[w2.heap.size+1]? =some (.loop rc)∧Kq (fun r=>r=lB∨r=w2.heap.size+1∨some r=(Value.slice lq k lc).ownBlock) W W7∧((Value.slice (some ⟨g5,0,none⟩) (k+1) c5).ownBlock=(Value.slice lq k lc).ownBlock∨ ∃g,(Value.slice (some ⟨g5,0,none⟩) (k+1) c5).ownBlock=some g∧W.heap.size≤g))→(W7.setCell ⟨g5,k*4+3,none⟩ (.int .i64 1)).heap[w2.heap.size+1]? =some (.loop rc)∧OW p w2 lB #[.int .i64 (q:Int),.agg #[.int .u64 x.t,.int .i64 x.s,.int .u64 x.q,.int .i64 x.d,.int .i64 x.k,.int .i64 x.v]] W (W7.setCell ⟨g5,k*4+3,none⟩ (.int .i64 1)))):=fun wq hq=>by
    obtain ⟨y1,y2,y3,y4,y5,y6,y7,y8,y9,y10⟩:=HW0.out
    obtain ⟨n1,n2,n3,n4,n5,n6,n7,n8,n9⟩:=HLBN.out
    have hS9: ∀W9:World,W9.heap[w.heap.size]? =W'.heap[w.heap.size]? →W9.heap[eb]? =W'.heap[eb]? →((W9.cell? ⟨w.heap.size,0,none⟩=some (.int .i64 p.ki)∧W9.cell? ⟨w.heap.size,1,none⟩=some (.slice v.pp p.np v.pc)∧W9.cell? ⟨w.heap.size,2,none⟩=some (.slice v.tp p.nq v.tc)∧W9.cell? ⟨w.heap.size,3,none⟩=some (.slice v.sp p.ns v.sc)∧W9.cell? ⟨w.heap.size,4,none⟩=some (.int .u64 p.sd)∧W9.cell? ⟨w.heap.size,5,none⟩=some (.int .u64 p.lk)∧W9.cell? ⟨w.heap.size,6,none⟩=some (.int .u64 p.en)∧W9.cell? ⟨w.heap.size,7,none⟩=some (.int .i64 p.bu)∧W9.cell? ⟨w.heap.size,8,none⟩=some (.int .i64 p.fu))∧W9.cell? ⟨eb,0,none⟩=some (.int .u64 x.t)):=fun W9 z1 z2=>by
     have x1:=z1.trans y6
     have x2:=z2.trans y5
     exact ⟨⟨cell_in x1 rfl,cell_in x1 rfl,cell_in x1 rfl,cell_in x1 rfl,cell_in x1 rfl,cell_in x1 rfl,cell_in x1 rfl,cell_in x1 rfl,cell_in x1 rfl⟩,cell_in x2 rfl⟩
    refine ⟨fun W9 hb=> ?_,fun W9 W8 g5 c5 hb ho hgr ha=> ?_,fun W8 W7 g5 c5 hg9 e9=> ?_,fun W7 g5 c5 hg9=> ?_⟩
    ·have hb':Below W'.heap.size W' W9:=hq.trans (hb.mono hq.size)
     exact hS9 W9 (hb'.block _ n4) (hb'.block _ n3)
    ·have hb':Below W'.heap.size W' W9:=hq.trans (hb.mono hq.size)
     have hz9:=hb'.size
     have nr: ∀r,r<w2.heap.size+2∨eb≤r→some r≠(Value.slice lq k lc).ownBlock:=fun r hr e=>by have:=y7 r e.symm;omega
     have hB8: ∀r,r<W'.heap.size→(r<w2.heap.size+2∨eb≤r)→W8.heap[r]? =W'.heap[r]? :=fun r h1 h2=>(hgr.block r (by omega) (nr r h2)).trans (hb'.block r h1)
     refine ⟨hS9 W8 (hB8 _ n4 (.inl (by omega))) (hB8 _ n3 (.inr (Nat.le_refl _))),?_,(hB8 _ n1 (.inl (by omega))).trans y3,(hB8 _ n2 (.inl (by omega))).trans y4,(y1.trans (Kq.below hb')).trans ((Kq.grown hgr).mono fun r _ e=>.inr (.inr e)),?_⟩
     ·unfold Own
      rw [←wi_app]
      exact ho
     ·rcases ha with ha|ha
      ·exact .inl ha
      ·exact .inr ⟨_,ha,by omega⟩
    ·obtain ⟨z1,z2,z3,z4,z5,z6⟩:=hg9
     have hg5:=(Own.lt z2 g5 rfl)
     have far: ∀r,r≠lB→W7.heap[r]? =W8.heap[r]? :=fun r hr=>by rw [←e9];exact Below.heap_setCell _ _ _ _ hr
     have c9: ∀r o9,r≠lB→W7.cell? ⟨r,o9,none⟩=W8.cell? ⟨r,o9,none⟩:=fun r o9 hr=>World.cell?_of_block (far r hr)
     refine ⟨⟨⟨(c9 _ _ (by omega)).trans z1.1.1,(c9 _ _ (by omega)).trans z1.1.2.1,(c9 _ _ (by omega)).trans z1.1.2.2.1,(c9 _ _ (by omega)).trans z1.1.2.2.2.1,(c9 _ _ (by omega)).trans z1.1.2.2.2.2.1,(c9 _ _ (by omega)).trans z1.1.2.2.2.2.2.1,(c9 _ _ (by omega)).trans z1.1.2.2.2.2.2.2.1,(c9 _ _ (by omega)).trans z1.1.2.2.2.2.2.2.2.1,(c9 _ _ (by omega)).trans z1.1.2.2.2.2.2.2.2.2⟩,(c9 _ _ n7).trans z1.2⟩,Own.far z2 fun r e=>far r (by have e':some g5=some r:=e;injection e' with e';omega),?_,(far _ (by omega)).trans z4,z5.trans (by rw [←e9];exact Kq.set _ _ _ _ (.inl rfl)),z6⟩
     rw [←e9,setCell_block _ _ _ _ z3]
     rfl
    ·obtain ⟨z1,z2,z3,z4,z5,z6⟩:=hg9
     have hg5:=(Own.lt z2 g5 rfl)
     have hkS:Kq (fun r=>r=lB∨r=w2.heap.size+1∨some r=(Value.slice lq k lc).ownBlock) W (W7.setCell ⟨g5,k*4+3,none⟩ (.int .i64 1)):=by
      rcases z6 with z6|⟨g9,z6,z7⟩
      ·exact z5.trans (Kq.set _ _ _ _ (.inr (.inr z6)))
      ·have e':some g5=some g9:=z6
       injection e' with e'
       exact ⟨z5.os,z5.tape,z5.output,by simpa [World.setCell] using z5.size,fun r hr hs9=>(Below.heap_setCell _ _ _ _ (show r≠g5 by omega)).trans (z5.block r hr hs9)⟩
     refine ⟨(Below.heap_setCell _ _ _ _ (show w2.heap.size+1≠g5 by omega)).trans z4,q,B,C,x,_,.slice (some ⟨g5,0,none⟩) (k+1) c5,rfl,HX.out.1,HX.out.2.1,HX.out.2.2.1,(Below.heap_setCell _ _ _ _ (show lB≠g5 by omega)).trans z3,?_,hkS,z6⟩
     rw [HX.out.2.2.2,if_pos y9]
     have h9:=WRow.put z2 (i:=k) (Nat.lt_succ_self k) 1
     show Own _ _ _ _ _ (k+1) (wiF (adW p.lk p.en x.t Q k))
     refine Own.congr h9 fun j _=> ?_
     congr 1
     unfold adW
     rw [y10]
     funext i
     unfold setS
     by_cases ei:i=k
     ·simp [ei]
     ·simp [ei]
   have iq:((k:Int)==0)=decide (k=0):=by
    by_cases e:k=0
    ·rw [e];rfl
    ·rw [decide_eq_false e];simp;exact e
   have HPRE:Hid (k≠0→ ∃(g k1:Nat) (bd:Int),lq=some ⟨g,0,none⟩∧k=k1+1∧W'.cell? ⟨g,k1*4+2,none⟩=some (.int .u64 bd)∧bd≤x.t):=fun hk9=>by
    obtain ⟨g,hg⟩: ∃g,lq=some ⟨g,0,none⟩:=by
     rcases Own.form l2 with ⟨_,h9⟩|⟨g9,c9,h9,_⟩
     ·omega
     ·injection h9 with h9
      exact ⟨g9,h9⟩
    subst hg
    obtain ⟨_,_,c2,_⟩:=WRow.cells hrow' (i:=k-1) (by omega)
    rcases hop with e|e
    ·exact absurd e hk9
    ·exact ⟨g,k-1,_,rfl,by omega,c2,e⟩
   have HLB:Hid (lB<W'.heap.size):=HLBN.out.1
   clear hbut hN hAl hsz hj hs hok havL l1 l2 l3 hle hle1 hle2 hkk hst hsp hBm hCm hxq hxt hwn hop hE hL' hrow' hP' hWz hk0 hzb heb hlr A1 A2 A3 A4 A5 A6 A7 A8 A9 A10 A11 hq4 hbn hwq0
   by_cases hk9:k=0
   case pos=>
    have e0:((k:Int)==0)=true:=by rw [hk9];rfl
    clear hk9 iq
    gi_wp2
    refine region_quietR (by kernel_rfl) (by kernel_rfl) (by kernel_rfl) ?_
    repeat (gi_big_quiet_step (fail))
    refine wpQuietIn_nil ?_
    intro _ hw9
    obtain ⟨nq,hw8⟩:=hw9
    subst hw8
    obtain ⟨wq,hwq⟩: ∃wq,W'.drewN nq=wq:=⟨_,rfl⟩
    have hq:Below W'.heap.size W' wq:=by rw [←hwq];exact below_drewNq _ _ _
    rw [hwq]
    obtain ⟨KS,NEWF,STOF,NEWD⟩:=(CORE wq hq).out
    have HROW:Hid (Own wq (w2.heap.size+2) 68 4 (.slice lq k lc) k (wiF Q)):=HW0.out.2.1.later hq
    have HL:Hid (wq.heap[lB]? =some (.cells #[.slice lq k lc] 65 (0,0))):=(hq.block lB HLB.out).trans HW0.out.2.2.1
    have HBS:Hid (w2.heap.size+2≤wq.heap.size):=(by have:=HLBN.out.2.2.2.2.2.2.2;have:=hq.size;omega:w2.heap.size+2≤wq.heap.size)
    have HLB:Hid (lB<wq.heap.size):=Nat.lt_of_lt_of_le HLB.out hq.size
    have hbd9:Below wq.heap.size wq wq.drew:=(Below.refl _ wq).drew
    clear cl0 ct
    gi_wp2_with fail
    refine region_heldR (S:=fun W9=>((W9.cell? ⟨w.heap.size,0,none⟩=some (.int .i64 p.ki)∧W9.cell? ⟨w.heap.size,1,none⟩=some (.slice v.pp p.np v.pc)∧W9.cell? ⟨w.heap.size,2,none⟩=some (.slice v.tp p.nq v.tc)∧W9.cell? ⟨w.heap.size,3,none⟩=some (.slice v.sp p.ns v.sc)∧W9.cell? ⟨w.heap.size,4,none⟩=some (.int .u64 p.sd)∧W9.cell? ⟨w.heap.size,5,none⟩=some (.int .u64 p.lk)∧W9.cell? ⟨w.heap.size,6,none⟩=some (.int .u64 p.en)∧W9.cell? ⟨w.heap.size,7,none⟩=some (.int .i64 p.bu)∧W9.cell? ⟨w.heap.size,8,none⟩=some (.int .i64 p.fu))∧W9.cell? ⟨eb,0,none⟩=some (.int .u64 x.t))) (by kernel_rfl) (by rintro ⟨_,_,h9⟩;exact h9.2) (by kernel_rfl) (KS _ hbd9) (fun hHeld=> ?_)
    refine wpAnyH_take (i:=1) (v:= ?hv1a) rfl (by kernel_rfl) (by kernel_rfl) (by kernel_rfl) (fun _ _ _ h=>h) (Or.inl ⟨by rfl,?hy1a⟩) (by assumption) ?hr1a
    case hy1a=>((intro W9 hSw;obtain ⟨⟨f0,f1,f2,f3,f4,f5,f6,f7,f8⟩,fe⟩:=hSw;go_simp);try with_reducible rfl)
    simp only [List.getElem_toArray,List.getElem_cons_zero,List.getElem_cons_succ,Act.put,List.setIfInBounds_toArray,List.set_cons_zero,List.set_cons_succ]
    refine wpAnyH_take (i:=2) (v:= ?hv2a) rfl (by kernel_rfl) (by kernel_rfl) (by kernel_rfl) (fun _ _ _ h=>h) (Or.inl ⟨by rfl,?hy2a⟩) (by assumption) ?hr2a
    case hy2a=>((intro W9 hSw;obtain ⟨⟨f0,f1,f2,f3,f4,f5,f6,f7,f8⟩,fe⟩:=hSw;go_simp);try with_reducible rfl)
    simp only [List.getElem_toArray,List.getElem_cons_zero,List.getElem_cons_succ,Act.put,List.setIfInBounds_toArray,List.set_cons_zero,List.set_cons_succ]
    refine wpAnyH_take (i:=3) (v:= ?hv3a) rfl (by kernel_rfl) (by kernel_rfl) (by kernel_rfl) (fun _ _ _ h=>h) (Or.inl ⟨by rfl,?hy3a⟩) (by assumption) ?hr3a
    case hy3a=>((intro W9 hSw;obtain ⟨⟨f0,f1,f2,f3,f4,f5,f6,f7,f8⟩,fe⟩:=hSw;go_simp);try with_reducible rfl)
    simp only [List.getElem_toArray,List.getElem_cons_zero,List.getElem_cons_succ,Act.put,List.setIfInBounds_toArray,List.set_cons_zero,List.set_cons_succ]
    refine wpAnyH_take (i:=4) (v:= ?hv4a) rfl (by kernel_rfl) (by kernel_rfl) (by kernel_rfl) (fun _ _ _ h=>h) (Or.inl ⟨by rfl,?hy4a⟩) (by assumption) ?hr4a
    case hy4a=>((intro W9 hSw;obtain ⟨⟨f0,f1,f2,f3,f4,f5,f6,f7,f8⟩,fe⟩:=hSw;go_simp);try with_reducible rfl)
    simp only [List.getElem_toArray,List.getElem_cons_zero,List.getElem_cons_succ,Act.put,List.setIfInBounds_toArray,List.set_cons_zero,List.set_cons_succ]
    refine wpAnyH_take (i:=5) (v:= ?hv5a) rfl (by kernel_rfl) (by kernel_rfl) (by kernel_rfl) (fun _ _ _ h=>h) (Or.inl ⟨by rfl,?hy5a⟩) (by assumption) ?hr5a
    case hy5a=>((intro W9 hSw;obtain ⟨⟨f0,f1,f2,f3,f4,f5,f6,f7,f8⟩,fe⟩:=hSw;go_simp);try with_reducible rfl)
    simp only [List.getElem_toArray,List.getElem_cons_zero,List.getElem_cons_succ,Act.put,List.setIfInBounds_toArray,List.set_cons_zero,List.set_cons_succ]
    refine wpAnyH_take (i:=6) (v:= ?hv6a) rfl (by kernel_rfl) (by kernel_rfl) (by kernel_rfl) (fun _ _ _ h=>h) (Or.inl ⟨by rfl,?hy6a⟩) (by assumption) ?hr6a
    case hy6a=>((intro W9 hSw;obtain ⟨⟨f0,f1,f2,f3,f4,f5,f6,f7,f8⟩,fe⟩:=hSw;go_simp);try with_reducible rfl)
    simp only [List.getElem_toArray,List.getElem_cons_zero,List.getElem_cons_succ,Act.put,List.setIfInBounds_toArray,List.set_cons_zero,List.set_cons_succ]
    refine wpAnyH_ready (rs:= [0,7]) (by kernel_rfl) (by simp) (AllReadyH.cons rfl (fun KK9 hK=> ?_) (AllReadyH.cons rfl (fun KK9 hK=> ?_) AllReadyH.nil))
    all_goals dsimp -proj only [List.getElem_toArray,List.getElem_cons_zero,List.getElem_cons_succ]
    ·have cl1:(wq.drew).cell? ⟨lB,0,none⟩=some (.slice lq k lc):=cell_in (((hbd9).block lB HLB.out).trans HL.out) rfl
     go_simp
     refine hK.out _ _ (KS _ hbd9) (fun hHeld=> ?_)
     clear hK KK9
     try simp only [Act.put,List.setIfInBounds_toArray,List.set_cons_zero,List.set_cons_succ]
     refine wpAnyH_ready (rs:= [7]) (by kernel_rfl) (by simp) (AllReadyH.cons rfl (fun KK9 hK=> ?_) AllReadyH.nil)
     all_goals dsimp -proj only [List.getElem_toArray,List.getElem_cons_zero,List.getElem_cons_succ]
     ·go_simp
      go_at_call 72
      refine (HO wq.drew).out.mono ?_
      rintro e x2 ⟨rfl,hb2⟩
      try go_wp2_with fail
      have B2:Below wq.heap.size wq x2:=(hbd9).trans (hb2.mono (hbd9).size)
      refine hK.out _ _ (KS _ B2) (fun hHeld=> ?_)
      clear hK KK9
      try simp only [Act.put,List.setIfInBounds_toArray,List.set_cons_zero,List.set_cons_succ]
      refine wpAnyH_ready (rs:= [8]) (by kernel_rfl) (by simp) (AllReadyH.cons rfl (fun KK9 hK=> ?_) AllReadyH.nil)
      all_goals dsimp -proj only [List.getElem_toArray,List.getElem_cons_zero,List.getElem_cons_succ]
      ·go_simp
       obtain ⟨x3,hx3⟩: ∃y,(x2).alloc (.cells (wiL ⟨(k:Int)+1,x.t,bn,0⟩).toArray 68)=y:=⟨_,rfl⟩
       have hb3:Below (x2).heap.size (x2) x3:=by rw [←hx3];exact (Below.refl _ _).alloc (Nat.le_refl _) _
       have B3:Below wq.heap.size wq x3:=(B2).trans (hb3.mono (B2).size)
       have cn3: ∀j y,(wiL ⟨(k:Int)+1,x.t,bn,0⟩)[j]? =some y→x3.cell? ((⟨(x2).heap.size,0,none⟩:Addr).add j)=some y:=by rw [←hx3];exact scells_new _ _ _
       show KK9 _ ((x2).alloc (.cells (wiL ⟨(k:Int)+1,x.t,bn,0⟩).toArray 68))
       rw [hx3]
       clear hx3
       refine hK.out _ _ (KS _ B3) (fun hHeld=> ?_)
       clear hK KK9
       try simp only [Act.put,List.setIfInBounds_toArray,List.set_cons_zero,List.set_cons_succ]
       refine wpAnyH_ready (rs:= [9]) (by kernel_rfl) (by simp) (AllReadyH.cons rfl (fun KK9 hK=> ?_) AllReadyH.nil)
       all_goals dsimp -proj only [List.getElem_toArray,List.getElem_cons_zero,List.getElem_cons_succ]
       ·refine step_ap rfl (.tmp 36) (.tmp 44) 65 rfl (w2.heap.size+2) 68 iW _ 4 32 Tryz.underlying65 hW1 hW2 hW3 hW4 rfl (by decide) (.slice lq k lc) k (cellsF (wiF Q) (k*4)) (by simp [Act.eval]) (Own.later HROW.out B3) ⟨(x2).heap.size,0,none⟩ 1 1 (wiL ⟨(k:Int)+1,x.t,bn,0⟩) (by simp [Act.eval]) rfl cn3 (by simp [wiL,Value.oneCell']) p1 p2 (Nat.le_trans HBS.out (B3).size) ?_
        intro v' x4 ho4 hg4 ha4
        obtain ⟨g5,c5,rfl⟩:=ownsRow_succ ho4
        have HG4:=NEWF x3 x4 g5 c5 B3 ho4 hg4 ha4
        clear ho4 hg4 ha4
        refine hK.out _ _ HG4.out.1 (fun hHeld=> ?_)
        clear hK KK9
        try simp only [Act.put,List.setIfInBounds_toArray,List.set_cons_zero,List.set_cons_succ]
        refine wpAnyH_ready (rs:= [10]) (by kernel_rfl) (by simp) (AllReadyH.cons rfl (fun KK9 hK=> ?_) AllReadyH.nil)
        all_goals dsimp -proj only [List.getElem_toArray,List.getElem_cons_zero,List.getElem_cons_succ]
        ·have hx5:x4.heap[lB]? =some (.cells #[.slice lq k lc] 65 (0,0)):=HG4.out.2.2.1
         have cl5:x4.cell? ⟨lB,0,none⟩=some (.slice lq k lc):=cell_in hx5 rfl
         have fz5:x4.frozen? ⟨lB,0,none⟩=false:=frz hx5 0
         go_simp
         obtain ⟨x5,hy5⟩: ∃y,x4.setCell ⟨lB,0,none⟩ (.slice (some ⟨g5,0,none⟩) (k+1) c5)=y:=⟨_,rfl⟩
         have HF5:=STOF x4 x5 g5 c5 HG4.out hy5
         rw [hy5]
         clear hy5 cl5 fz5 hx5
         refine hK.out _ _ HF5.out.1 (fun hHeld=> ?_)
         clear hK KK9
         try simp only [Act.put,List.setIfInBounds_toArray,List.set_cons_zero,List.set_cons_succ]
         refine wpAnyH_done (by kernel_rfl) ?_ _
         have HZ:=HF5
         clear hHeld
         obtain ⟨y,hyy⟩: ∃y,x5=y:=⟨_,rfl⟩
         rw [hyy] at HZ ⊢
         obtain ⟨z1,z2,z3,z4,z5,z6⟩:=HZ.out
         obtain ⟨c0,c1,c2,c3⟩:=WRow.cells z2 (i:=k) (Nat.lt_succ_self k)
         have es:setS Q k ⟨(k:Int)+1,x.t,bn,0⟩ k=⟨(k:Int)+1,x.t,bn,0⟩:=by unfold setS;rw [if_pos rfl]
         rw [es] at c3
         have cl9:y.cell? ⟨lB,0,none⟩=some (.slice (some ⟨g5,0,none⟩) (k+1) c5):=cell_in z3 rfl
         have fz9:y.frozen? ⟨g5,k*4+3,none⟩=false:=by
          obtain ⟨cur,hblk,_⟩:=Own.block z2
          simp [World.frozen?,hblk]
         have HZ2:=HZ
         clear z1 z2 z3 z4 z5 z6 c0 c1 c2 es hyy HZ
         gi_wp2
         exact NEWD y g5 c5 HZ2.out
    ·go_simp
     go_at_call 72
     refine (HO wq.drew).out.mono ?_
     rintro e x6 ⟨rfl,hb6⟩
     try go_wp2_with fail
     have B6:Below wq.heap.size wq x6:=(hbd9).trans (hb6.mono (hbd9).size)
     refine hK.out _ _ (KS _ B6) (fun hHeld=> ?_)
     clear hK KK9
     try simp only [Act.put,List.setIfInBounds_toArray,List.set_cons_zero,List.set_cons_succ]
     refine wpAnyH_ready (rs:= [0,8]) (by kernel_rfl) (by simp) (AllReadyH.cons rfl (fun KK9 hK=> ?_) (AllReadyH.cons rfl (fun KK9 hK=> ?_) AllReadyH.nil))
     all_goals dsimp -proj only [List.getElem_toArray,List.getElem_cons_zero,List.getElem_cons_succ]
     ·have cl7:(x6).cell? ⟨lB,0,none⟩=some (.slice lq k lc):=cell_in (((B6).block lB HLB.out).trans HL.out) rfl
      go_simp
      refine hK.out _ _ (KS _ B6) (fun hHeld=> ?_)
      clear hK KK9
      try simp only [Act.put,List.setIfInBounds_toArray,List.set_cons_zero,List.set_cons_succ]
      refine wpAnyH_ready (rs:= [8]) (by kernel_rfl) (by simp) (AllReadyH.cons rfl (fun KK9 hK=> ?_) AllReadyH.nil)
      all_goals dsimp -proj only [List.getElem_toArray,List.getElem_cons_zero,List.getElem_cons_succ]
      ·go_simp
       obtain ⟨x8,hx8⟩: ∃y,(x6).alloc (.cells (wiL ⟨(k:Int)+1,x.t,bn,0⟩).toArray 68)=y:=⟨_,rfl⟩
       have hb8:Below (x6).heap.size (x6) x8:=by rw [←hx8];exact (Below.refl _ _).alloc (Nat.le_refl _) _
       have B8:Below wq.heap.size wq x8:=(B6).trans (hb8.mono (B6).size)
       have cn8: ∀j y,(wiL ⟨(k:Int)+1,x.t,bn,0⟩)[j]? =some y→x8.cell? ((⟨(x6).heap.size,0,none⟩:Addr).add j)=some y:=by rw [←hx8];exact scells_new _ _ _
       show KK9 _ ((x6).alloc (.cells (wiL ⟨(k:Int)+1,x.t,bn,0⟩).toArray 68))
       rw [hx8]
       clear hx8
       refine hK.out _ _ (KS _ B8) (fun hHeld=> ?_)
       clear hK KK9
       try simp only [Act.put,List.setIfInBounds_toArray,List.set_cons_zero,List.set_cons_succ]
       refine wpAnyH_ready (rs:= [9]) (by kernel_rfl) (by simp) (AllReadyH.cons rfl (fun KK9 hK=> ?_) AllReadyH.nil)
       all_goals dsimp -proj only [List.getElem_toArray,List.getElem_cons_zero,List.getElem_cons_succ]
       ·refine step_ap rfl (.tmp 36) (.tmp 44) 65 rfl (w2.heap.size+2) 68 iW _ 4 32 Tryz.underlying65 hW1 hW2 hW3 hW4 rfl (by decide) (.slice lq k lc) k (cellsF (wiF Q) (k*4)) (by simp [Act.eval]) (Own.later HROW.out B8) ⟨(x6).heap.size,0,none⟩ 1 1 (wiL ⟨(k:Int)+1,x.t,bn,0⟩) (by simp [Act.eval]) rfl cn8 (by simp [wiL,Value.oneCell']) p1 p2 (Nat.le_trans HBS.out (B8).size) ?_
        intro v' x9 ho9 hg9 ha9
        obtain ⟨g5,c5,rfl⟩:=ownsRow_succ ho9
        have HG9:=NEWF x8 x9 g5 c5 B8 ho9 hg9 ha9
        clear ho9 hg9 ha9
        refine hK.out _ _ HG9.out.1 (fun hHeld=> ?_)
        clear hK KK9
        try simp only [Act.put,List.setIfInBounds_toArray,List.set_cons_zero,List.set_cons_succ]
        refine wpAnyH_ready (rs:= [10]) (by kernel_rfl) (by simp) (AllReadyH.cons rfl (fun KK9 hK=> ?_) AllReadyH.nil)
        all_goals dsimp -proj only [List.getElem_toArray,List.getElem_cons_zero,List.getElem_cons_succ]
        ·have hx10:x9.heap[lB]? =some (.cells #[.slice lq k lc] 65 (0,0)):=HG9.out.2.2.1
         have cl10:x9.cell? ⟨lB,0,none⟩=some (.slice lq k lc):=cell_in hx10 rfl
         have fz10:x9.frozen? ⟨lB,0,none⟩=false:=frz hx10 0
         go_simp
         obtain ⟨x10,hy10⟩: ∃y,x9.setCell ⟨lB,0,none⟩ (.slice (some ⟨g5,0,none⟩) (k+1) c5)=y:=⟨_,rfl⟩
         have HF10:=STOF x9 x10 g5 c5 HG9.out hy10
         rw [hy10]
         clear hy10 cl10 fz10 hx10
         refine hK.out _ _ HF10.out.1 (fun hHeld=> ?_)
         clear hK KK9
         try simp only [Act.put,List.setIfInBounds_toArray,List.set_cons_zero,List.set_cons_succ]
         refine wpAnyH_done (by kernel_rfl) ?_ _
         have HZ:=HF10
         clear hHeld
         obtain ⟨y,hyy⟩: ∃y,x10=y:=⟨_,rfl⟩
         rw [hyy] at HZ ⊢
         obtain ⟨z1,z2,z3,z4,z5,z6⟩:=HZ.out
         obtain ⟨c0,c1,c2,c3⟩:=WRow.cells z2 (i:=k) (Nat.lt_succ_self k)
         have es:setS Q k ⟨(k:Int)+1,x.t,bn,0⟩ k=⟨(k:Int)+1,x.t,bn,0⟩:=by unfold setS;rw [if_pos rfl]
         rw [es] at c3
         have cl9:y.cell? ⟨lB,0,none⟩=some (.slice (some ⟨g5,0,none⟩) (k+1) c5):=cell_in z3 rfl
         have fz9:y.frozen? ⟨g5,k*4+3,none⟩=false:=by
          obtain ⟨cur,hblk,_⟩:=Own.block z2
          simp [World.frozen?,hblk]
         have HZ2:=HZ
         clear z1 z2 z3 z4 z5 z6 c0 c1 c2 es hyy HZ
         gi_wp2
         exact NEWD y g5 c5 HZ2.out
     ·go_simp
      obtain ⟨x11,hx11⟩: ∃y,(x6).alloc (.cells (wiL ⟨(k:Int)+1,x.t,bn,0⟩).toArray 68)=y:=⟨_,rfl⟩
      have hb11:Below (x6).heap.size (x6) x11:=by rw [←hx11];exact (Below.refl _ _).alloc (Nat.le_refl _) _
      have B11:Below wq.heap.size wq x11:=(B6).trans (hb11.mono (B6).size)
      have cn11: ∀j y,(wiL ⟨(k:Int)+1,x.t,bn,0⟩)[j]? =some y→x11.cell? ((⟨(x6).heap.size,0,none⟩:Addr).add j)=some y:=by rw [←hx11];exact scells_new _ _ _
      show KK9 _ ((x6).alloc (.cells (wiL ⟨(k:Int)+1,x.t,bn,0⟩).toArray 68))
      rw [hx11]
      clear hx11
      refine hK.out _ _ (KS _ B11) (fun hHeld=> ?_)
      clear hK KK9
      try simp only [Act.put,List.setIfInBounds_toArray,List.set_cons_zero,List.set_cons_succ]
      refine wpAnyH_ready (rs:= [0]) (by kernel_rfl) (by simp) (AllReadyH.cons rfl (fun KK9 hK=> ?_) AllReadyH.nil)
      all_goals dsimp -proj only [List.getElem_toArray,List.getElem_cons_zero,List.getElem_cons_succ]
      ·have cl12:(x11).cell? ⟨lB,0,none⟩=some (.slice lq k lc):=cell_in (((B11).block lB HLB.out).trans HL.out) rfl
       go_simp
       refine hK.out _ _ (KS _ B11) (fun hHeld=> ?_)
       clear hK KK9
       try simp only [Act.put,List.setIfInBounds_toArray,List.set_cons_zero,List.set_cons_succ]
       refine wpAnyH_ready (rs:= [9]) (by kernel_rfl) (by simp) (AllReadyH.cons rfl (fun KK9 hK=> ?_) AllReadyH.nil)
       all_goals dsimp -proj only [List.getElem_toArray,List.getElem_cons_zero,List.getElem_cons_succ]
       ·refine step_ap rfl (.tmp 36) (.tmp 44) 65 rfl (w2.heap.size+2) 68 iW _ 4 32 Tryz.underlying65 hW1 hW2 hW3 hW4 rfl (by decide) (.slice lq k lc) k (cellsF (wiF Q) (k*4)) (by simp [Act.eval]) (Own.later HROW.out B11) ⟨(x6).heap.size,0,none⟩ 1 1 (wiL ⟨(k:Int)+1,x.t,bn,0⟩) (by simp [Act.eval]) rfl cn11 (by simp [wiL,Value.oneCell']) p1 p2 (Nat.le_trans HBS.out (B11).size) ?_
        intro v' x13 ho13 hg13 ha13
        obtain ⟨g5,c5,rfl⟩:=ownsRow_succ ho13
        have HG13:=NEWF x11 x13 g5 c5 B11 ho13 hg13 ha13
        clear ho13 hg13 ha13
        refine hK.out _ _ HG13.out.1 (fun hHeld=> ?_)
        clear hK KK9
        try simp only [Act.put,List.setIfInBounds_toArray,List.set_cons_zero,List.set_cons_succ]
        refine wpAnyH_ready (rs:= [10]) (by kernel_rfl) (by simp) (AllReadyH.cons rfl (fun KK9 hK=> ?_) AllReadyH.nil)
        all_goals dsimp -proj only [List.getElem_toArray,List.getElem_cons_zero,List.getElem_cons_succ]
        ·have hx14:x13.heap[lB]? =some (.cells #[.slice lq k lc] 65 (0,0)):=HG13.out.2.2.1
         have cl14:x13.cell? ⟨lB,0,none⟩=some (.slice lq k lc):=cell_in hx14 rfl
         have fz14:x13.frozen? ⟨lB,0,none⟩=false:=frz hx14 0
         go_simp
         obtain ⟨x14,hy14⟩: ∃y,x13.setCell ⟨lB,0,none⟩ (.slice (some ⟨g5,0,none⟩) (k+1) c5)=y:=⟨_,rfl⟩
         have HF14:=STOF x13 x14 g5 c5 HG13.out hy14
         rw [hy14]
         clear hy14 cl14 fz14 hx14
         refine hK.out _ _ HF14.out.1 (fun hHeld=> ?_)
         clear hK KK9
         try simp only [Act.put,List.setIfInBounds_toArray,List.set_cons_zero,List.set_cons_succ]
         refine wpAnyH_done (by kernel_rfl) ?_ _
         have HZ:=HF14
         clear hHeld
         obtain ⟨y,hyy⟩: ∃y,x14=y:=⟨_,rfl⟩
         rw [hyy] at HZ ⊢
         obtain ⟨z1,z2,z3,z4,z5,z6⟩:=HZ.out
         obtain ⟨c0,c1,c2,c3⟩:=WRow.cells z2 (i:=k) (Nat.lt_succ_self k)
         have es:setS Q k ⟨(k:Int)+1,x.t,bn,0⟩ k=⟨(k:Int)+1,x.t,bn,0⟩:=by unfold setS;rw [if_pos rfl]
         rw [es] at c3
         have cl9:y.cell? ⟨lB,0,none⟩=some (.slice (some ⟨g5,0,none⟩) (k+1) c5):=cell_in z3 rfl
         have fz9:y.frozen? ⟨g5,k*4+3,none⟩=false:=by
          obtain ⟨cur,hblk,_⟩:=Own.block z2
          simp [World.frozen?,hblk]
         have HZ2:=HZ
         clear z1 z2 z3 z4 z5 z6 c0 c1 c2 es hyy HZ
         gi_wp2
         exact NEWD y g5 c5 HZ2.out
   case neg=>
    have e0:((k:Int)==0)=false:=by simp;exact hk9
    obtain ⟨g,k1,bd,hlq,hk1,c2,hbt⟩:=HPRE.out hk9
    have e1:IntKind.i64.wrap ((k:Int)-1)=(k1:Int):=by rw [IntKind.wrap_i64];omega
    have e2:(0:Int)≤(k1:Int):=by omega
    have e3:(k1:Int)<(k:Int):=by omega
    have e4:decide (x.t≥bd)=true:=decide_eq_true hbt
    have e5:decide (bd≤x.t)=true:=decide_eq_true hbt
    subst hlq
    clear hk9 iq hbt hk1
    gi_wp2
    refine region_quietR (by kernel_rfl) (by kernel_rfl) (by kernel_rfl) ?_
    repeat (gi_big_quiet_step (fail))
    refine wpQuietIn_nil ?_
    intro _ hw9
    obtain ⟨nq,hw8⟩:=hw9
    subst hw8
    obtain ⟨wq,hwq⟩: ∃wq,W'.drewN nq=wq:=⟨_,rfl⟩
    have hq:Below W'.heap.size W' wq:=by rw [←hwq];exact below_drewNq _ _ _
    rw [hwq]
    obtain ⟨KS,NEWF,STOF,NEWD⟩:=(CORE wq hq).out
    have HROW:Hid (Own wq (w2.heap.size+2) 68 4 (.slice (some ⟨g,0,none⟩) k lc) k (wiF Q)):=HW0.out.2.1.later hq
    have HL:Hid (wq.heap[lB]? =some (.cells #[.slice (some ⟨g,0,none⟩) k lc] 65 (0,0))):=(hq.block lB HLB.out).trans HW0.out.2.2.1
    have HBS:Hid (w2.heap.size+2≤wq.heap.size):=(by have:=HLBN.out.2.2.2.2.2.2.2;have:=hq.size;omega:w2.heap.size+2≤wq.heap.size)
    have HLB:Hid (lB<wq.heap.size):=Nat.lt_of_lt_of_le HLB.out hq.size
    have hbd9:Below wq.heap.size wq wq.drew:=(Below.refl _ wq).drew
    clear cl0 ct
    gi_wp2_with fail
    refine region_heldR (S:=fun W9=>((W9.cell? ⟨w.heap.size,0,none⟩=some (.int .i64 p.ki)∧W9.cell? ⟨w.heap.size,1,none⟩=some (.slice v.pp p.np v.pc)∧W9.cell? ⟨w.heap.size,2,none⟩=some (.slice v.tp p.nq v.tc)∧W9.cell? ⟨w.heap.size,3,none⟩=some (.slice v.sp p.ns v.sc)∧W9.cell? ⟨w.heap.size,4,none⟩=some (.int .u64 p.sd)∧W9.cell? ⟨w.heap.size,5,none⟩=some (.int .u64 p.lk)∧W9.cell? ⟨w.heap.size,6,none⟩=some (.int .u64 p.en)∧W9.cell? ⟨w.heap.size,7,none⟩=some (.int .i64 p.bu)∧W9.cell? ⟨w.heap.size,8,none⟩=some (.int .i64 p.fu))∧W9.cell? ⟨eb,0,none⟩=some (.int .u64 x.t))) (by kernel_rfl) (by rintro ⟨_,_,h9⟩;exact h9.2) (by kernel_rfl) (KS _ hbd9) (fun hHeld=> ?_)
    refine wpAnyH_take (i:=1) (v:= ?hv1b) rfl (by kernel_rfl) (by kernel_rfl) (by kernel_rfl) (fun _ _ _ h=>h) (Or.inl ⟨by rfl,?hy1b⟩) (by assumption) ?hr1b
    case hy1b=>((intro W9 hSw;obtain ⟨⟨f0,f1,f2,f3,f4,f5,f6,f7,f8⟩,fe⟩:=hSw;go_simp);try with_reducible rfl)
    simp only [List.getElem_toArray,List.getElem_cons_zero,List.getElem_cons_succ,Act.put,List.setIfInBounds_toArray,List.set_cons_zero,List.set_cons_succ]
    refine wpAnyH_take (i:=2) (v:= ?hv2b) rfl (by kernel_rfl) (by kernel_rfl) (by kernel_rfl) (fun _ _ _ h=>h) (Or.inl ⟨by rfl,?hy2b⟩) (by assumption) ?hr2b
    case hy2b=>((intro W9 hSw;obtain ⟨⟨f0,f1,f2,f3,f4,f5,f6,f7,f8⟩,fe⟩:=hSw;go_simp);try with_reducible rfl)
    simp only [List.getElem_toArray,List.getElem_cons_zero,List.getElem_cons_succ,Act.put,List.setIfInBounds_toArray,List.set_cons_zero,List.set_cons_succ]
    refine wpAnyH_take (i:=3) (v:= ?hv3b) rfl (by kernel_rfl) (by kernel_rfl) (by kernel_rfl) (fun _ _ _ h=>h) (Or.inl ⟨by rfl,?hy3b⟩) (by assumption) ?hr3b
    case hy3b=>((intro W9 hSw;obtain ⟨⟨f0,f1,f2,f3,f4,f5,f6,f7,f8⟩,fe⟩:=hSw;go_simp);try with_reducible rfl)
    simp only [List.getElem_toArray,List.getElem_cons_zero,List.getElem_cons_succ,Act.put,List.setIfInBounds_toArray,List.set_cons_zero,List.set_cons_succ]
    refine wpAnyH_take (i:=4) (v:= ?hv4b) rfl (by kernel_rfl) (by kernel_rfl) (by kernel_rfl) (fun _ _ _ h=>h) (Or.inl ⟨by rfl,?hy4b⟩) (by assumption) ?hr4b
    case hy4b=>((intro W9 hSw;obtain ⟨⟨f0,f1,f2,f3,f4,f5,f6,f7,f8⟩,fe⟩:=hSw;go_simp);try with_reducible rfl)
    simp only [List.getElem_toArray,List.getElem_cons_zero,List.getElem_cons_succ,Act.put,List.setIfInBounds_toArray,List.set_cons_zero,List.set_cons_succ]
    refine wpAnyH_take (i:=5) (v:= ?hv5b) rfl (by kernel_rfl) (by kernel_rfl) (by kernel_rfl) (fun _ _ _ h=>h) (Or.inl ⟨by rfl,?hy5b⟩) (by assumption) ?hr5b
    case hy5b=>((intro W9 hSw;obtain ⟨⟨f0,f1,f2,f3,f4,f5,f6,f7,f8⟩,fe⟩:=hSw;go_simp);try with_reducible rfl)
    simp only [List.getElem_toArray,List.getElem_cons_zero,List.getElem_cons_succ,Act.put,List.setIfInBounds_toArray,List.set_cons_zero,List.set_cons_succ]
    refine wpAnyH_take (i:=6) (v:= ?hv6b) rfl (by kernel_rfl) (by kernel_rfl) (by kernel_rfl) (fun _ _ _ h=>h) (Or.inl ⟨by rfl,?hy6b⟩) (by assumption) ?hr6b
    case hy6b=>((intro W9 hSw;obtain ⟨⟨f0,f1,f2,f3,f4,f5,f6,f7,f8⟩,fe⟩:=hSw;go_simp);try with_reducible rfl)
    simp only [List.getElem_toArray,List.getElem_cons_zero,List.getElem_cons_succ,Act.put,List.setIfInBounds_toArray,List.set_cons_zero,List.set_cons_succ]
    refine wpAnyH_ready (rs:= [0,7]) (by kernel_rfl) (by simp) (AllReadyH.cons rfl (fun KK9 hK=> ?_) (AllReadyH.cons rfl (fun KK9 hK=> ?_) AllReadyH.nil))
    all_goals dsimp -proj only [List.getElem_toArray,List.getElem_cons_zero,List.getElem_cons_succ]
    ·have cl15:(wq.drew).cell? ⟨lB,0,none⟩=some (.slice (some ⟨g,0,none⟩) k lc):=cell_in (((hbd9).block lB HLB.out).trans HL.out) rfl
     go_simp
     refine hK.out _ _ (KS _ hbd9) (fun hHeld=> ?_)
     clear hK KK9
     try simp only [Act.put,List.setIfInBounds_toArray,List.set_cons_zero,List.set_cons_succ]
     refine wpAnyH_ready (rs:= [7]) (by kernel_rfl) (by simp) (AllReadyH.cons rfl (fun KK9 hK=> ?_) AllReadyH.nil)
     all_goals dsimp -proj only [List.getElem_toArray,List.getElem_cons_zero,List.getElem_cons_succ]
     ·go_simp
      go_at_call 72
      refine (HO wq.drew).out.mono ?_
      rintro e x16 ⟨rfl,hb16⟩
      try go_wp2_with fail
      have B16:Below wq.heap.size wq x16:=(hbd9).trans (hb16.mono (hbd9).size)
      refine hK.out _ _ (KS _ B16) (fun hHeld=> ?_)
      clear hK KK9
      try simp only [Act.put,List.setIfInBounds_toArray,List.set_cons_zero,List.set_cons_succ]
      refine wpAnyH_ready (rs:= [8]) (by kernel_rfl) (by simp) (AllReadyH.cons rfl (fun KK9 hK=> ?_) AllReadyH.nil)
      all_goals dsimp -proj only [List.getElem_toArray,List.getElem_cons_zero,List.getElem_cons_succ]
      ·go_simp
       obtain ⟨x17,hx17⟩: ∃y,(x16).alloc (.cells (wiL ⟨(k:Int)+1,x.t,bn,0⟩).toArray 68)=y:=⟨_,rfl⟩
       have hb17:Below (x16).heap.size (x16) x17:=by rw [←hx17];exact (Below.refl _ _).alloc (Nat.le_refl _) _
       have B17:Below wq.heap.size wq x17:=(B16).trans (hb17.mono (B16).size)
       have cn17: ∀j y,(wiL ⟨(k:Int)+1,x.t,bn,0⟩)[j]? =some y→x17.cell? ((⟨(x16).heap.size,0,none⟩:Addr).add j)=some y:=by rw [←hx17];exact scells_new _ _ _
       show KK9 _ ((x16).alloc (.cells (wiL ⟨(k:Int)+1,x.t,bn,0⟩).toArray 68))
       rw [hx17]
       clear hx17
       refine hK.out _ _ (KS _ B17) (fun hHeld=> ?_)
       clear hK KK9
       try simp only [Act.put,List.setIfInBounds_toArray,List.set_cons_zero,List.set_cons_succ]
       refine wpAnyH_ready (rs:= [9]) (by kernel_rfl) (by simp) (AllReadyH.cons rfl (fun KK9 hK=> ?_) AllReadyH.nil)
       all_goals dsimp -proj only [List.getElem_toArray,List.getElem_cons_zero,List.getElem_cons_succ]
       ·refine step_ap rfl (.tmp 36) (.tmp 44) 65 rfl (w2.heap.size+2) 68 iW _ 4 32 Tryz.underlying65 hW1 hW2 hW3 hW4 rfl (by decide) (.slice (some ⟨g,0,none⟩) k lc) k (cellsF (wiF Q) (k*4)) (by simp [Act.eval]) (Own.later HROW.out B17) ⟨(x16).heap.size,0,none⟩ 1 1 (wiL ⟨(k:Int)+1,x.t,bn,0⟩) (by simp [Act.eval]) rfl cn17 (by simp [wiL,Value.oneCell']) p1 p2 (Nat.le_trans HBS.out (B17).size) ?_
        intro v' x18 ho18 hg18 ha18
        obtain ⟨g5,c5,rfl⟩:=ownsRow_succ ho18
        have HG18:=NEWF x17 x18 g5 c5 B17 ho18 hg18 ha18
        clear ho18 hg18 ha18
        refine hK.out _ _ HG18.out.1 (fun hHeld=> ?_)
        clear hK KK9
        try simp only [Act.put,List.setIfInBounds_toArray,List.set_cons_zero,List.set_cons_succ]
        refine wpAnyH_ready (rs:= [10]) (by kernel_rfl) (by simp) (AllReadyH.cons rfl (fun KK9 hK=> ?_) AllReadyH.nil)
        all_goals dsimp -proj only [List.getElem_toArray,List.getElem_cons_zero,List.getElem_cons_succ]
        ·have hx19:x18.heap[lB]? =some (.cells #[.slice (some ⟨g,0,none⟩) k lc] 65 (0,0)):=HG18.out.2.2.1
         have cl19:x18.cell? ⟨lB,0,none⟩=some (.slice (some ⟨g,0,none⟩) k lc):=cell_in hx19 rfl
         have fz19:x18.frozen? ⟨lB,0,none⟩=false:=frz hx19 0
         go_simp
         obtain ⟨x19,hy19⟩: ∃y,x18.setCell ⟨lB,0,none⟩ (.slice (some ⟨g5,0,none⟩) (k+1) c5)=y:=⟨_,rfl⟩
         have HF19:=STOF x18 x19 g5 c5 HG18.out hy19
         rw [hy19]
         clear hy19 cl19 fz19 hx19
         refine hK.out _ _ HF19.out.1 (fun hHeld=> ?_)
         clear hK KK9
         try simp only [Act.put,List.setIfInBounds_toArray,List.set_cons_zero,List.set_cons_succ]
         refine wpAnyH_done (by kernel_rfl) ?_ _
         have HZ:=HF19
         clear hHeld
         obtain ⟨y,hyy⟩: ∃y,x19=y:=⟨_,rfl⟩
         rw [hyy] at HZ ⊢
         obtain ⟨z1,z2,z3,z4,z5,z6⟩:=HZ.out
         obtain ⟨c0,c1,c2,c3⟩:=WRow.cells z2 (i:=k) (Nat.lt_succ_self k)
         have es:setS Q k ⟨(k:Int)+1,x.t,bn,0⟩ k=⟨(k:Int)+1,x.t,bn,0⟩:=by unfold setS;rw [if_pos rfl]
         rw [es] at c3
         have cl9:y.cell? ⟨lB,0,none⟩=some (.slice (some ⟨g5,0,none⟩) (k+1) c5):=cell_in z3 rfl
         have fz9:y.frozen? ⟨g5,k*4+3,none⟩=false:=by
          obtain ⟨cur,hblk,_⟩:=Own.block z2
          simp [World.frozen?,hblk]
         have HZ2:=HZ
         clear z1 z2 z3 z4 z5 z6 c0 c1 c2 es hyy HZ
         gi_wp2
         exact NEWD y g5 c5 HZ2.out
    ·go_simp
     go_at_call 72
     refine (HO wq.drew).out.mono ?_
     rintro e x20 ⟨rfl,hb20⟩
     try go_wp2_with fail
     have B20:Below wq.heap.size wq x20:=(hbd9).trans (hb20.mono (hbd9).size)
     refine hK.out _ _ (KS _ B20) (fun hHeld=> ?_)
     clear hK KK9
     try simp only [Act.put,List.setIfInBounds_toArray,List.set_cons_zero,List.set_cons_succ]
     refine wpAnyH_ready (rs:= [0,8]) (by kernel_rfl) (by simp) (AllReadyH.cons rfl (fun KK9 hK=> ?_) (AllReadyH.cons rfl (fun KK9 hK=> ?_) AllReadyH.nil))
     all_goals dsimp -proj only [List.getElem_toArray,List.getElem_cons_zero,List.getElem_cons_succ]
     ·have cl21:(x20).cell? ⟨lB,0,none⟩=some (.slice (some ⟨g,0,none⟩) k lc):=cell_in (((B20).block lB HLB.out).trans HL.out) rfl
      go_simp
      refine hK.out _ _ (KS _ B20) (fun hHeld=> ?_)
      clear hK KK9
      try simp only [Act.put,List.setIfInBounds_toArray,List.set_cons_zero,List.set_cons_succ]
      refine wpAnyH_ready (rs:= [8]) (by kernel_rfl) (by simp) (AllReadyH.cons rfl (fun KK9 hK=> ?_) AllReadyH.nil)
      all_goals dsimp -proj only [List.getElem_toArray,List.getElem_cons_zero,List.getElem_cons_succ]
      ·go_simp
       obtain ⟨x22,hx22⟩: ∃y,(x20).alloc (.cells (wiL ⟨(k:Int)+1,x.t,bn,0⟩).toArray 68)=y:=⟨_,rfl⟩
       have hb22:Below (x20).heap.size (x20) x22:=by rw [←hx22];exact (Below.refl _ _).alloc (Nat.le_refl _) _
       have B22:Below wq.heap.size wq x22:=(B20).trans (hb22.mono (B20).size)
       have cn22: ∀j y,(wiL ⟨(k:Int)+1,x.t,bn,0⟩)[j]? =some y→x22.cell? ((⟨(x20).heap.size,0,none⟩:Addr).add j)=some y:=by rw [←hx22];exact scells_new _ _ _
       show KK9 _ ((x20).alloc (.cells (wiL ⟨(k:Int)+1,x.t,bn,0⟩).toArray 68))
       rw [hx22]
       clear hx22
       refine hK.out _ _ (KS _ B22) (fun hHeld=> ?_)
       clear hK KK9
       try simp only [Act.put,List.setIfInBounds_toArray,List.set_cons_zero,List.set_cons_succ]
       refine wpAnyH_ready (rs:= [9]) (by kernel_rfl) (by simp) (AllReadyH.cons rfl (fun KK9 hK=> ?_) AllReadyH.nil)
       all_goals dsimp -proj only [List.getElem_toArray,List.getElem_cons_zero,List.getElem_cons_succ]
       ·refine step_ap rfl (.tmp 36) (.tmp 44) 65 rfl (w2.heap.size+2) 68 iW _ 4 32 Tryz.underlying65 hW1 hW2 hW3 hW4 rfl (by decide) (.slice (some ⟨g,0,none⟩) k lc) k (cellsF (wiF Q) (k*4)) (by simp [Act.eval]) (Own.later HROW.out B22) ⟨(x20).heap.size,0,none⟩ 1 1 (wiL ⟨(k:Int)+1,x.t,bn,0⟩) (by simp [Act.eval]) rfl cn22 (by simp [wiL,Value.oneCell']) p1 p2 (Nat.le_trans HBS.out (B22).size) ?_
        intro v' x23 ho23 hg23 ha23
        obtain ⟨g5,c5,rfl⟩:=ownsRow_succ ho23
        have HG23:=NEWF x22 x23 g5 c5 B22 ho23 hg23 ha23
        clear ho23 hg23 ha23
        refine hK.out _ _ HG23.out.1 (fun hHeld=> ?_)
        clear hK KK9
        try simp only [Act.put,List.setIfInBounds_toArray,List.set_cons_zero,List.set_cons_succ]
        refine wpAnyH_ready (rs:= [10]) (by kernel_rfl) (by simp) (AllReadyH.cons rfl (fun KK9 hK=> ?_) AllReadyH.nil)
        all_goals dsimp -proj only [List.getElem_toArray,List.getElem_cons_zero,List.getElem_cons_succ]
        ·have hx24:x23.heap[lB]? =some (.cells #[.slice (some ⟨g,0,none⟩) k lc] 65 (0,0)):=HG23.out.2.2.1
         have cl24:x23.cell? ⟨lB,0,none⟩=some (.slice (some ⟨g,0,none⟩) k lc):=cell_in hx24 rfl
         have fz24:x23.frozen? ⟨lB,0,none⟩=false:=frz hx24 0
         go_simp
         obtain ⟨x24,hy24⟩: ∃y,x23.setCell ⟨lB,0,none⟩ (.slice (some ⟨g5,0,none⟩) (k+1) c5)=y:=⟨_,rfl⟩
         have HF24:=STOF x23 x24 g5 c5 HG23.out hy24
         rw [hy24]
         clear hy24 cl24 fz24 hx24
         refine hK.out _ _ HF24.out.1 (fun hHeld=> ?_)
         clear hK KK9
         try simp only [Act.put,List.setIfInBounds_toArray,List.set_cons_zero,List.set_cons_succ]
         refine wpAnyH_done (by kernel_rfl) ?_ _
         have HZ:=HF24
         clear hHeld
         obtain ⟨y,hyy⟩: ∃y,x24=y:=⟨_,rfl⟩
         rw [hyy] at HZ ⊢
         obtain ⟨z1,z2,z3,z4,z5,z6⟩:=HZ.out
         obtain ⟨c0,c1,c2,c3⟩:=WRow.cells z2 (i:=k) (Nat.lt_succ_self k)
         have es:setS Q k ⟨(k:Int)+1,x.t,bn,0⟩ k=⟨(k:Int)+1,x.t,bn,0⟩:=by unfold setS;rw [if_pos rfl]
         rw [es] at c3
         have cl9:y.cell? ⟨lB,0,none⟩=some (.slice (some ⟨g5,0,none⟩) (k+1) c5):=cell_in z3 rfl
         have fz9:y.frozen? ⟨g5,k*4+3,none⟩=false:=by
          obtain ⟨cur,hblk,_⟩:=Own.block z2
          simp [World.frozen?,hblk]
         have HZ2:=HZ
         clear z1 z2 z3 z4 z5 z6 c0 c1 c2 es hyy HZ
         gi_wp2
         exact NEWD y g5 c5 HZ2.out
     ·go_simp
      obtain ⟨x25,hx25⟩: ∃y,(x20).alloc (.cells (wiL ⟨(k:Int)+1,x.t,bn,0⟩).toArray 68)=y:=⟨_,rfl⟩
      have hb25:Below (x20).heap.size (x20) x25:=by rw [←hx25];exact (Below.refl _ _).alloc (Nat.le_refl _) _
      have B25:Below wq.heap.size wq x25:=(B20).trans (hb25.mono (B20).size)
      have cn25: ∀j y,(wiL ⟨(k:Int)+1,x.t,bn,0⟩)[j]? =some y→x25.cell? ((⟨(x20).heap.size,0,none⟩:Addr).add j)=some y:=by rw [←hx25];exact scells_new _ _ _
      show KK9 _ ((x20).alloc (.cells (wiL ⟨(k:Int)+1,x.t,bn,0⟩).toArray 68))
      rw [hx25]
      clear hx25
      refine hK.out _ _ (KS _ B25) (fun hHeld=> ?_)
      clear hK KK9
      try simp only [Act.put,List.setIfInBounds_toArray,List.set_cons_zero,List.set_cons_succ]
      refine wpAnyH_ready (rs:= [0]) (by kernel_rfl) (by simp) (AllReadyH.cons rfl (fun KK9 hK=> ?_) AllReadyH.nil)
      all_goals dsimp -proj only [List.getElem_toArray,List.getElem_cons_zero,List.getElem_cons_succ]
      ·have cl26:(x25).cell? ⟨lB,0,none⟩=some (.slice (some ⟨g,0,none⟩) k lc):=cell_in (((B25).block lB HLB.out).trans HL.out) rfl
       go_simp
       refine hK.out _ _ (KS _ B25) (fun hHeld=> ?_)
       clear hK KK9
       try simp only [Act.put,List.setIfInBounds_toArray,List.set_cons_zero,List.set_cons_succ]
       refine wpAnyH_ready (rs:= [9]) (by kernel_rfl) (by simp) (AllReadyH.cons rfl (fun KK9 hK=> ?_) AllReadyH.nil)
       all_goals dsimp -proj only [List.getElem_toArray,List.getElem_cons_zero,List.getElem_cons_succ]
       ·refine step_ap rfl (.tmp 36) (.tmp 44) 65 rfl (w2.heap.size+2) 68 iW _ 4 32 Tryz.underlying65 hW1 hW2 hW3 hW4 rfl (by decide) (.slice (some ⟨g,0,none⟩) k lc) k (cellsF (wiF Q) (k*4)) (by simp [Act.eval]) (Own.later HROW.out B25) ⟨(x20).heap.size,0,none⟩ 1 1 (wiL ⟨(k:Int)+1,x.t,bn,0⟩) (by simp [Act.eval]) rfl cn25 (by simp [wiL,Value.oneCell']) p1 p2 (Nat.le_trans HBS.out (B25).size) ?_
        intro v' x27 ho27 hg27 ha27
        obtain ⟨g5,c5,rfl⟩:=ownsRow_succ ho27
        have HG27:=NEWF x25 x27 g5 c5 B25 ho27 hg27 ha27
        clear ho27 hg27 ha27
        refine hK.out _ _ HG27.out.1 (fun hHeld=> ?_)
        clear hK KK9
        try simp only [Act.put,List.setIfInBounds_toArray,List.set_cons_zero,List.set_cons_succ]
        refine wpAnyH_ready (rs:= [10]) (by kernel_rfl) (by simp) (AllReadyH.cons rfl (fun KK9 hK=> ?_) AllReadyH.nil)
        all_goals dsimp -proj only [List.getElem_toArray,List.getElem_cons_zero,List.getElem_cons_succ]
        ·have hx28:x27.heap[lB]? =some (.cells #[.slice (some ⟨g,0,none⟩) k lc] 65 (0,0)):=HG27.out.2.2.1
         have cl28:x27.cell? ⟨lB,0,none⟩=some (.slice (some ⟨g,0,none⟩) k lc):=cell_in hx28 rfl
         have fz28:x27.frozen? ⟨lB,0,none⟩=false:=frz hx28 0
         go_simp
         obtain ⟨x28,hy28⟩: ∃y,x27.setCell ⟨lB,0,none⟩ (.slice (some ⟨g5,0,none⟩) (k+1) c5)=y:=⟨_,rfl⟩
         have HF28:=STOF x27 x28 g5 c5 HG27.out hy28
         rw [hy28]
         clear hy28 cl28 fz28 hx28
         refine hK.out _ _ HF28.out.1 (fun hHeld=> ?_)
         clear hK KK9
         try simp only [Act.put,List.setIfInBounds_toArray,List.set_cons_zero,List.set_cons_succ]
         refine wpAnyH_done (by kernel_rfl) ?_ _
         have HZ:=HF28
         clear hHeld
         obtain ⟨y,hyy⟩: ∃y,x28=y:=⟨_,rfl⟩
         rw [hyy] at HZ ⊢
         obtain ⟨z1,z2,z3,z4,z5,z6⟩:=HZ.out
         obtain ⟨c0,c1,c2,c3⟩:=WRow.cells z2 (i:=k) (Nat.lt_succ_self k)
         have es:setS Q k ⟨(k:Int)+1,x.t,bn,0⟩ k=⟨(k:Int)+1,x.t,bn,0⟩:=by unfold setS;rw [if_pos rfl]
         rw [es] at c3
         have cl9:y.cell? ⟨lB,0,none⟩=some (.slice (some ⟨g5,0,none⟩) (k+1) c5):=cell_in z3 rfl
         have fz9:y.frozen? ⟨g5,k*4+3,none⟩=false:=by
          obtain ⟨cur,hblk,_⟩:=Own.block z2
          simp [World.frozen?,hblk]
         have HZ2:=HZ
         clear z1 z2 z3 z4 z5 z6 c0 c1 c2 es hyy HZ
         gi_wp2
         exact NEWD y g5 c5 HZ2.out
 case seq=>
  intro L D rc rx W1 hB hsz1 hD hL hl hd hY
  obtain ⟨a1,a2,a3,a4,a5,a6,a7,a8,a9,a10,a11⟩:=HHH.out
  subst hD
  subst hL
  have hsW:=a1.below hB
  have avL:Av p R sb (w2.heap.size+1):=a1.av (by omega)
  have avD:Av p R sb w2.heap.size:=a1.av (Nat.le_refl _)
  have hJ0:JW p w2 wb sb lB 0 (fstA p) R W1:=⟨⟨.slice none 0 0,(hB.block _ a5).trans a2,World.ownsRow_nil _ _ _ _,fun g e=>by cases e⟩,a8,hd,avD,a3.trans (hB.mono a3.size),by omega⟩
  refine (events1_mut W1 wb.heap.size sb p (fstA p) R hsW (fst_ok a9) a9 _ (w2.heap.size+1) _ hl avL (JW p w2 wb sb lB) (fun _ _ _=>False) hJ0 (fun q C R1 w w' h1 h2=>h1.below h2) (fun q B C R1 R2 w w' x c h1 h2 h3 h4 h5 h6 h7=>h1.step h2 h3 h4 h6 h7) ?_ bx ((hB.block bx a7).trans a4)).mono ?_
  ·rintro m q B C R2 w x hst hsp ⟨k1,k2,k3,k4,k5⟩
   obtain ⟨fn,tm,asg,bd,hy,hRd⟩:=hY m #[.int .i64 (q:Int),.agg #[.int .u64 x.t,.int .i64 x.s,.int .u64 x.q,.int .i64 x.d,.int .i64 x.k,.int .i64 x.v]] w ⟨q,B,C,R2,x,rfl,hst,hsp,k1,k2,k3,k5⟩ k4
   refine ⟨fn,tm,asg,bd,hy,hRd.mono ?_⟩
   rintro e w' (⟨rfl,ho,hl9⟩|⟨_,c9,h9,_⟩)
   ·obtain ⟨z1,z2⟩:=ho.use a5 a6 hst hsp k1 k3 k5
    exact .inl ⟨rfl,hl9,z1,z2⟩
   ·exact h9.elim
  ·rintro e W' ⟨hv,(⟨q,C,R',⟨B,x,c,s1,s2,s3⟩,k1,k2,k3,k4,k5⟩|⟨q,B,x,C,_,_,h9⟩)⟩
   ·refine ⟨hv,k3.d,.inl ⟨k4,C,R',⟨q,B,x,c,s1,s2,s3⟩,k2,?_⟩⟩
    have hm:C.m=q:=by
     have h1:=s1.m
     have h2:C.m=B.m:=by
      rcases s2 with ⟨_,_,_,rfl⟩|⟨_,y,_,⟨_,_,_,rfl⟩|⟨_,e9,_⟩⟩
      ·rfl
      ·rfl
      ·exact absurd e9 s3
     rw [h2,h1]
     exact Nat.zero_add q
    rw [hm]
    exact k3
   ·exact h9.elim
 case done=>
  rintro D L W W' hD hL hLt ⟨C,R',hend,hok,hj⟩ hbut hdd
  subst hD
  subst hL
  obtain ⟨a1,a2,a3,a4,a5,a6,a7,a8,a9,a10,a11⟩:=HHH.out
  obtain ⟨lv,k1,k2,k3⟩:=hj.lv
  obtain ⟨lq,lc,hlv⟩:=own_form k2
  rw [hlv] at k1 k2
  have hx:W'.heap[lB]? =some (.cells #[.slice lq (wnR p.lk p.en C.Z C.m).1 lc] 65 (0,0)):=(hbut.2.2 lB (by omega)).trans k1
  have hrow:Own W' (w2.heap.size+2) 68 4 (.slice lq (wnR p.lk p.en C.Z C.m).1 lc) (wnR p.lk p.en C.Z C.m).1 (wiF (wnR p.lk p.en C.Z C.m).2):=Own.far k2 fun k e=>hbut.2.2 k (by have:=(Own.lt k2 k e).1;omega)
  have hbW:Below w.heap.size w W:=HB.out.1.trans (hj.bel.mono HB.out.1.size)
  have hzz:w.heap.size+1≤w2.heap.size:=by have:=HB.out.2.2;omega
  have hbW':Below w.heap.size w W':=⟨hbut.1.1.trans hbW.os,hbut.1.2.1.trans hbW.tape,hbut.1.2.2.trans hbW.output,by rw [hbut.2.1];exact hbW.size,fun k hk=>(hbut.2.2 k (by omega)).trans (hbW.block k hk)⟩
  have c0:W'.cell? ⟨lB,0,none⟩=some (.slice lq (wnR p.lk p.en C.Z C.m).1 lc):=cell_in hx rfl
  obtain ⟨kk,hkk⟩: ∃kk,wnR p.lk p.en C.Z C.m=kk:=⟨_,rfl⟩
  have HE:Hid (EndR p (fstA p) C∧AOk2 p C∧wnR p.lk p.en C.Z C.m=kk∧Own W' (w2.heap.size+2) 68 4 (.slice lq (wnR p.lk p.en C.Z C.m).1 lc) (wnR p.lk p.en C.Z C.m).1 (wiF (wnR p.lk p.en C.Z C.m).2)∧Below w.heap.size w W'∧W'.heap[w2.heap.size]? =some (.deferred (some []))∧w.heap.size+1≤w2.heap.size):=⟨hend,hok,hkk,hrow,hbW',hdd,hzz⟩
  rw [hkk] at c0
  clear k1 k2 k3 hlv hx hrow hbW hbW' hkk hend hok hj hbut hdd hLt a1 a2 a3 a4 a5 a6 a7 a8 a9 a10 a11 hzz
  gi_wp2
  obtain ⟨e1,e2,e3,e4,e5,e6,e7⟩:=HE.out
  refine ⟨by simp,.inl ⟨_,_,rfl,run_takeDeferred e6,?_⟩⟩
  refine ⟨.slice lq kk.1 lc,by simp [results,Tryz.results26,go_sem];try rfl,?_⟩
  have hkG:Kq (fun k9=>k9=w2.heap.size) W' (W'.putObj w2.heap.size (.deferred none)):=Kq.put _ _ _ rfl
  refine ⟨C,lq,lc,e1,e2,by rw [e3],?_,below_put e5 _ _ (by omega)⟩
  exact (Own.far e4 fun k e=>hkG.block k (Own.lt e4 k e).2 (by show ¬k=_;have:=(Own.lt e4 k e).1;omega)).lower (by omega)
end Go.Proofs.YtecgecpgmpmkoaaGreat
