import Derived.Test.YtecgecpgmpmkoaaGreatHRN15
import Derived.Test.YtecgecpgmpmkoaaGreatHRN5
import Derived.Test.YtecgecpgmpmkoaaGreatHOP5
import Derived.Test.YtecgecpgmpmkoaaGreatHCN1
import Derived.Test.YtecgecpgmpmkoaaGreatHSV2
import Derived.Test.YtecgecpgmpmkoaaGreatHOP3
import Derived.Test.YtecgecpgmpmkoaaGreatHRN14
namespace Go.Proofs.YtecgecpgmpmkoaaGreat
open Go.ChangeShapes Go.WideShapes Go.ChangeAt Go.RowKit
set_option linter.unusedVariables false
set_option linter.unusedSimpArgs false
theorem VC.good {p:Pl} (h:VC p 0):GT p∧GS p:=by
 unfold VC at h
 rcases h with ⟨_,h⟩|⟨_,⟨_,h⟩|⟨_,⟨_,h⟩|⟨hT,⟨_,h⟩|⟨hS,_⟩⟩⟩⟩
 ·omega
 ·omega
 ·omega
 ·omega
 ·exact ⟨hT,hS⟩
def FP (W:World) (p:Pl) (q:Option Addr) (q2:Option Addr):Prop:= ∃(A:Nat→Sa) (d:Nat→Se),SsAt W q p.nq A p.K∧(∀j,j<p.nq→(A j).n=p.nw j∧(A j).d=dz p.sd j∧(A j).s=(cntS p.S p.ns (j:Int):Nat))∧SIn W q2 p.ns d∧Stb klt 0 p.ns (evS p.S) d∧Srt klt 0 p.ns d
theorem FP.below {W W':World} {p:Pl} {q q2:Option Addr} (h:FP W p q q2) (hb:Below W.heap.size W W'):FP W' p q q2:=by
 obtain ⟨A,d,h1,h2,h3,h4⟩:=h
 exact ⟨A,d,h1.below hb,h2,h3.below hb,h4⟩
theorem offI {W:World} {b o:Nat} {t:TypeId} {k:IntKind} {x:Int} (hW:W.heap[b]? =some (.cells #[.slice none 0 0,.slice none 0 0,.slice none 0 0] t (0,0))) (h:W.cell? ⟨b,o,none⟩=some (.int k x)):False:=by
 unfold World.cell? at h
 rw [hW] at h
 rcases o with _|_|_|o
 ·simp at h
 ·simp at h
 ·simp at h
 ·simp at h
theorem KAt.off {W W':World} {b n:Nat} {t:TypeId} {p:Option Addr} {K:Nat→Int} (hW:W.heap[b]? =some (.cells #[.slice none 0 0,.slice none 0 0,.slice none 0 0] t (0,0))) (hs:W'.heap.size=W.heap.size) (hk: ∀k,k≠b→W'.heap[k]? =W.heap[k]?) (h:KAt W p n K):KAt W' p n K:=by
 by_cases h0:n=0
 ·exact .inl h0
 refine h.kb (S:=fun k=>k=b) ⟨by omega,fun k _ hb=>hk k hb⟩ fun g o e h9=> ?_
 rcases h with h|⟨g',o',e',hl,hc⟩
 ·exact h0 h
 ·rw [e] at e'
  injection e' with e'
  injection e' with e1 e2 e3
  have h8:=hc 0 (by omega)
  have h7:g=b:=h9
  rw [←e1,h7] at h8
  exact offI hW h8
theorem FP.off {W W':World} {b:Nat} {t:TypeId} {p:Pl} {q q2:Option Addr} (hW:W.heap[b]? =some (.cells #[.slice none 0 0,.slice none 0 0,.slice none 0 0] t (0,0))) (hs:W'.heap.size=W.heap.size) (hk: ∀k,k≠b→W'.heap[k]? =W.heap[k]?) (h:FP W p q q2):FP W' p q q2:=by
 obtain ⟨A,d,h1,h2,h3,h4⟩:=h
 refine ⟨A,d,?_,h2,?_,h4⟩
 ·by_cases h0:p.nq=0
  ·exact .inl h0
  rcases h1 with h|⟨g,o,e,hl,hc,hp⟩
  ·exact absurd h h0
  have hg:g≠b:=fun e9=>by
   have h8:=(hc 0 (by omega)).2.1
   rw [e9] at h8
   exact offI hW h8
  exact .inr ⟨g,o,e,by omega,fun j hj=>⟨(World.cell?_of_block (hk g hg)).trans (hc j hj).1,(World.cell?_of_block (hk g hg)).trans (hc j hj).2.1,(World.cell?_of_block (hk g hg)).trans (hc j hj).2.2⟩,fun j hj=>(hp j hj).off hW hs hk⟩
 ·by_cases h0:p.ns=0
  ·exact .inl h0
  rcases h3 with h|⟨g,o,e,hl,hc⟩
  ·exact absurd h h0
  have hg:g≠b:=fun e9=>by
   have h8:=hc 0 (by omega)
   rw [e9] at h8
   exact offI hW h8
  exact .inr ⟨g,o,e,by omega,fun j hj=>(World.cell?_of_block (hk g hg)).trans (hc j hj)⟩
set_option maxRecDepth 100000 in
set_option maxHeartbeats 4000000 in
theorem first_any (p:Pl) (v:PlV) (w:World) (h:PlAt w p v) (hr:RoomyL p):Calls Tryz.prog 20 #[.agg #[.int .i64 p.ki,.slice v.pp p.np v.pc,.slice v.tp p.nq v.tc,.slice v.sp p.ns v.sc,.int .u64 p.sd,.int .u64 p.lk,.int .u64 p.en,.int .i64 p.bu,.int .i64 p.fu]] w fun e w'=> ∃cd,VC p cd∧Below w.heap.size w w'∧(cd≠0∧e=.returned (.tuple #[.agg #[.slice none 0 0,.slice none 0 0,.slice none 0 0],.int .i64 cd])∨cd=0∧ ∃q c q2 c2,e=.returned (.tuple #[.agg #[.slice q p.nq c,.slice q2 p.ns c2,.slice none 0 0],.int .i64 0])∧FP w' p q q2):=by
 obtain ⟨wb,hwb⟩: ∃wb,(w.alloc (.cells #[.int .i64 p.ki,.slice v.pp p.np v.pc,.slice v.tp p.nq v.tc,.slice v.sp p.ns v.sc,.int .u64 p.sd,.int .u64 p.lk,.int .u64 p.en,.int .i64 p.bu,.int .i64 p.fu] 27)).alloc (.cells #[.slice none 0 0,.slice none 0 0,.slice none 0 0] 47)=wb:=⟨_,rfl⟩
 have hb0:Below w.heap.size w wb:=by rw [←hwb];exact ((Below.refl _ w).alloc (Nat.le_refl _) _).alloc (by simp) _
 have hbox:wb.heap[w.heap.size]? =some (.cells #[.int .i64 p.ki,.slice v.pp p.np v.pc,.slice v.tp p.nq v.tc,.slice v.sp p.ns v.sc,.int .u64 p.sd,.int .u64 p.lk,.int .u64 p.en,.int .i64 p.bu,.int .i64 p.fu] 27 (0,0)):=by
  rw [←hwb,Below.heap_alloc _ _ _ (by simp)]
  exact World.alloc_heap_new w _
 have hres:wb.heap[w.heap.size+1]? =some (.cells #[.slice none 0 0,.slice none 0 0,.slice none 0 0] 47 (0,0)):=by
  rw [←hwb]
  have:=World.alloc_heap_new (w.alloc (.cells #[.int .i64 p.ki,.slice v.pp p.np v.pc,.slice v.tp p.nq v.tc,.slice v.sp p.ns v.sc,.int .u64 p.sd,.int .u64 p.lk,.int .u64 p.en,.int .i64 p.bu,.int .i64 p.fu] 27)) (.cells #[.slice none 0 0,.slice none 0 0,.slice none 0 0] 47)
  rwa [World.size_alloc] at this
 have HW:Hid ((w.alloc (.cells #[.int .i64 p.ki,.slice v.pp p.np v.pc,.slice v.tp p.nq v.tc,.slice v.sp p.ns v.sc,.int .u64 p.sd,.int .u64 p.lk,.int .u64 p.en,.int .i64 p.bu,.int .i64 p.fu] 27)).alloc (.cells #[.slice none 0 0,.slice none 0 0,.slice none 0 0] 47)=wb):=hwb
 have HP:Hid (PlAt wb p v∧RoomyL p∧Below w.heap.size w wb):=⟨h.below hb0,hr,hb0⟩
 have HV:=valid_any p v wb (h.below hb0)
 obtain ⟨⟨c0,c1,c2,c3⟩,c4,c5,c6,c7,c8⟩:=cells9 hbox
 rw [←hwb] at c0 c1 c2 c3 c4 c5 c6 c7 c8
 clear h hr hb0 hwb
 go_enter Tryz.func20,Tryz.ntmps20
 go_upto_region 2 with (go_at_call 19;rw [HW.out];(with_reducible refine HV.mono ?_);rintro e w1 ⟨cd,rfl,hvc,hb1⟩)
 have HVC:Hid (VC p cd∧Below wb.heap.size wb w1):=⟨hvc,hb1⟩
 have hbx1:=(hb1.block _ (lt_of_block hbox)).trans hbox
 have hrs1:=(hb1.block _ (lt_of_block hres)).trans hres
 clear c0 c1 c2 c3 c4 c5 c6 c7 c8 hvc hb1 HV
 by_cases hcd:cd=0
 ·subst hcd
  obtain ⟨hT,hS⟩:=HVC.out.1.good
  have HF:=firstPoint_any p v w1 (HP.out.1.below HVC.out.2) HP.out.2.1 hT hS
  obtain ⟨⟨c0,c1,c2,c3⟩,c4,c5,c6,c7,c8⟩:=cells9 hbx1
  have HRS:Hid (w1.heap[w.heap.size+1]? =some (.cells #[.slice none 0 0,.slice none 0 0,.slice none 0 0] 47 (0,0))):=hrs1
  clear hT hS hrs1 hbx1
  go_wp2_with (go_at_call 59;(with_reducible refine HF.mono ?_);rintro e w2 ⟨q,c,A,q2,c2q,d,rfl,h1,h2,h3,h4,h5,h6⟩;have hr2:=(h6.block _ (lt_of_block HRS.out)).trans HRS.out;have H2:Hid (FP w2 p q q2∧Below w1.heap.size w1 w2∧w2.heap[w.heap.size+1]? =some (.cells #[.slice none 0 0,.slice none 0 0,.slice none 0 0] 47 (0,0))):=⟨⟨A,d,h1,h2,h3,h4,h5⟩,h6,hr2⟩;obtain ⟨l0,l1,l2⟩:=cells3p hr2;have z0:=frz hr2 0;have z1:=frz hr2 1;have z2:=frz hr2 2;clear h1 h2 h3 h4 h5 h6 hr2)
  generalize hWF:(World.setCell (World.setCell (World.setCell w2 _ _) _ _) _ _)=wF
  obtain ⟨q1,q2x,q3,q4⟩:=put3 H2.out.2.2 _ _ _ wF hWF
  obtain ⟨e0,e1,e2⟩:=cells3p q1
  refine bodyPost_ret (v:=.tuple #[.agg #[.slice q p.nq c,.slice q2 p.ns c2q,.slice none 0 0],.int .i64 0]) (by simp [results,Tryz.results20,go_sem,e0,e1,e2];try rfl) rfl ?_
  obtain ⟨f1,f2,f3⟩:=HP.out
  obtain ⟨v1,v2⟩:=HVC.out
  obtain ⟨x1,x2,x3⟩:=H2.out
  have hbw:Below w.heap.size w w2:=(f3.trans (v2.mono f3.size)).trans (x2.mono (Nat.le_trans f3.size v2.size))
  exact ⟨0,v1,q3 _ _ hbw (Nat.le_succ _),.inr ⟨rfl,q,c,q2,c2q,rfl,x1.off x3 q4 q2x⟩⟩
 ·have g0:(cd==0)=false:=by simpa using hcd
  obtain ⟨l0,l1,l2⟩:=cells3p hrs1
  have z0:=frz hrs1 0
  have z1:=frz hrs1 1
  have z2:=frz hrs1 2
  have HRS:Hid (w1.heap[w.heap.size+1]? =some (.cells #[.slice none 0 0,.slice none 0 0,.slice none 0 0] 47 (0,0))):=hrs1
  clear hrs1 hbx1
  go_wp2_with fail
  generalize hWF:(World.setCell (World.setCell (World.setCell w1 _ _) _ _) _ _)=wF
  obtain ⟨q1,q2x,q3,q4⟩:=put3 HRS.out _ _ _ wF hWF
  obtain ⟨e0,e1,e2⟩:=cells3p q1
  refine bodyPost_ret (v:=.tuple #[.agg #[.slice none 0 0,.slice none 0 0,.slice none 0 0],.int .i64 cd]) (by simp [results,Tryz.results20,go_sem,e0,e1,e2];try rfl) rfl ?_
  obtain ⟨f1,f2,f3⟩:=HP.out
  obtain ⟨v1,v2⟩:=HVC.out
  exact ⟨cd,v1,q3 _ _ (f3.trans (v2.mono f3.size)) (Nat.le_succ _),.inl ⟨hcd,rfl⟩⟩
end Go.Proofs.YtecgecpgmpmkoaaGreat
namespace Go.Proofs.YtecgecpgmpmkoaaGreat
open Go.ChangeShapes Go.WideShapes Go.ChangeAt Go.RowKit
set_option linter.unusedVariables false
set_option linter.unusedSimpArgs false
structure SimAtF (W:World) (sb:Nat) (p:Pl) (o:Pn) (fv:Int):Prop where
 ex: ∃(pq:Option Addr) (pc:Nat) (U:Nat→PgV) (x:PnV),W.heap[sb]? =some (.cells #[.slice pq p.nq pc,.int .u64 p.lk,.int .u64 p.en,.int .i64 p.bu,.int .i64 p.fu,.slice x.q o.n x.c,.slice x.q2 o.m x.c2,.slice x.q3 o.l x.c3,.int .i64 fv] 125 (0,0))∧PsAt W pq p.nq (fun j=>p.P (p.pr j).toNat) U∧PnAt W o x
theorem pointF_any (p:Pl) (o:Pn) (sb:Nat) (fv:Int) (w:World) (h:SimAtF w sb p o fv) (hn:RoomyN o):
  Calls Tryz.prog 23 #[.pointer (some ⟨sb,0,none⟩)] w fun e w'=> ∃(y:PnV) (d:Nat→Se),e=.returned (.agg #[.slice y.q o.n y.c,.slice y.q2 o.m y.c2,.slice y.q3 o.l y.c3])∧PnAt w' ⟨o.n,o.A,o.K,o.m,d,o.l,o.Z⟩ y∧Stb klt 0 o.m o.X d∧Srt klt 0 o.m d∧Below w.heap.size w w':=by
 obtain ⟨pq,pc,U,x,hsim,hps,hpn⟩:=h.ex
 obtain ⟨wb,hwb⟩: ∃wb,w.alloc (.cells #[.slice none 0 0,.slice none 0 0,.slice none 0 0] 47)=wb:=⟨_,rfl⟩
 obtain ⟨hb0,hres,hsz⟩:=boxed _ _ _ hwb
 have HW:Hid (w.alloc (.cells #[.slice none 0 0,.slice none 0 0,.slice none 0 0] 47)=wb):=hwb
 have hsim1:=(hb0.block _ (lt_of_block hsim)).trans hsim
 obtain ⟨⟨A0,hA0,hS0⟩,hX0,hZ0⟩:=hpn.below hb0
 have hsl:=lt_of_block hsim
 have HQ:Hid (SaEq o.n o.A A0∧Below w.heap.size w wb∧wb.heap[w.heap.size]? =some (.cells #[.slice none 0 0,.slice none 0 0,.slice none 0 0] 47 (0,0))∧wb.heap.size=w.heap.size+1):=⟨hA0,hb0,hres,hsz⟩
 have HC1: ∀W,Below wb.heap.size wb W→Hid (Calls Tryz.prog 68 #[.slice x.q o.n x.c] W fun e w'=> ∃(q:Option Addr) (cc:Nat) (C:Nat→Sa),e=.returned (.slice q o.n cc)∧StRow w' W.heap.size (.slice q o.n cc) o.n C o.K∧SaEq o.n A0 C∧Below W.heap.size W w'):=fun W hb=>copiedStates_any x.q o.n x.c A0 o.K hn.n (fun j hj=>by rw [(hA0 j hj).1];exact hn.w j hj) W (hS0.below hb)
 have HC2: ∀W,Below wb.heap.size wb W→Hid (Calls Tryz.prog 69 #[.slice x.q2 o.m x.c2] W fun e w'=> ∃g d,e=.returned (.slice (some ⟨g,0,none⟩) o.m o.m)∧SRow w' W.heap.size g o.m o.m d∧Stb klt 0 o.m o.X d∧Srt klt 0 o.m d∧Below W.heap.size W w'):=fun W hb=>order_any x.q2 o.m x.c2 o.X hn.m W (hX0.below hb)
 have HC3: ∀W,Below wb.heap.size wb W→Hid (Calls Tryz.prog 70 #[.slice x.q3 o.l x.c3] W fun e w'=> ∃(q:Option Addr) (cc:Nat),e=.returned (.slice q o.l cc)∧Own w' W.heap.size 54 6 (.slice q o.l cc) o.l (seF o.Z)∧Below W.heap.size W w'):=fun W hb=>cloneE_any x.q3 o.l x.c3 (seF o.Z) W (by have:=hn.l;omega) (hZ0.below hb).cin (fun j _=>seF_one _ j)
 have hl1:=lt_of_block hsim1
 have KK: ∀w',Below wb.heap.size wb w'→Hid (w'.cell? ⟨sb,5,none⟩=some (.slice x.q o.n x.c)∧w'.cell? ⟨sb,6,none⟩=some (.slice x.q2 o.m x.c2)∧w'.cell? ⟨sb,7,none⟩=some (.slice x.q3 o.l x.c3)):=fun w' hb=>by
  obtain ⟨_,_,k5,k6,k7,_⟩:=cells9 ((hb.block _ hl1).trans hsim1)
  exact ⟨k5,k6,k7⟩
 have hbd:Below wb.heap.size wb wb.drew:=(Below.refl _ wb).drew
 have KP0:(wb.drew.cell? ⟨sb,5,none⟩=some (.slice x.q o.n x.c)∧wb.drew.cell? ⟨sb,6,none⟩=some (.slice x.q2 o.m x.c2)∧wb.drew.cell? ⟨sb,7,none⟩=some (.slice x.q3 o.l x.c3)):=(KK wb.drew hbd).out
 have hne:sb≠w.heap.size:=by omega
 have HSZ:Hid (wb.heap.size=w.heap.size+1):=hsz
 clear hwb h hn hb0 hres hsz hsim hsim1 hA0 hS0 hX0 hZ0 hpn hps hl1 hsl
 go_enter Tryz.func23,Tryz.ntmps23
 go_upto_region 1 with fail
 rw [HW.out]
 go_region_held3 (fun w'=>(w'.cell? ⟨sb,5,none⟩=some (.slice x.q o.n x.c)∧w'.cell? ⟨sb,6,none⟩=some (.slice x.q2 o.m x.c2)∧w'.cell? ⟨sb,7,none⟩=some (.slice x.q3 o.l x.c3))) (first|with_reducible exact KP0|with_reducible exact KP1|with_reducible exact KP2|with_reducible exact KP3|with_reducible exact KPS3 hne KP3|go_keep) (first|(go_at_call 68;(with_reducible refine (HC1 wb.drew hbd).out.mono ?_);rintro e w1 ⟨q1,c1,C,rfl,hs1,he1,hb1⟩;have hw1:Below wb.heap.size wb w1:=hbd.trans hb1;have KP1:=(KK w1 hw1).out;have H1:Hid (StRow w1 wb.heap.size (.slice q1 o.n c1) o.n C o.K∧SaEq o.n A0 C):=⟨hs1,he1⟩;clear hs1 he1 hb1)|(go_at_call 69;(with_reducible refine (HC2 w1 hw1).out.mono ?_);rintro e w2 ⟨g2,d,rfl,hs2,hst,hso,hb2⟩;have hw2:Below wb.heap.size wb w2:=hw1.trans (hb2.mono hw1.size);have KP2:=(KK w2 hw2).out;have H2:Hid (SRow w2 w1.heap.size g2 o.m o.m d∧Below w1.heap.size w1 w2∧Stb klt 0 o.m o.X d∧Srt klt 0 o.m d):=⟨hs2,hb2,hst,hso⟩;clear hs2 hb2 hst hso)|(go_at_call 70;(with_reducible refine (HC3 w2 hw2).out.mono ?_);rintro e w3 ⟨q3,c3,rfl,hs3,hb3⟩;have hw3:Below wb.heap.size wb w3:=hw2.trans (hb3.mono hw2.size);have KP3:=(KK w3 hw3).out;have hr3:=(hw3.block _ (lt_of_block HQ.out.2.2.1)).trans HQ.out.2.2.1;obtain ⟨r0,r1,r2⟩:=cells3p hr3;have z0:=frz hr3 0;have z1:=frz hr3 1;have z2:=frz hr3 2;have H3:Hid (Own w3 w2.heap.size 54 6 (.slice q3 o.l c3) o.l (seF o.Z)∧Below w2.heap.size w2 w3∧w3.heap[w.heap.size]? =some (.cells #[.slice none 0 0,.slice none 0 0,.slice none 0 0] 47 (0,0))):=⟨hs3,hb3,hr3⟩;clear hs3 hb3 hr3))
 all_goals (
  go_wp2_with fail
  generalize hWF:(World.setCell (World.setCell (World.setCell w3 _ _) _ _) _ _)=wF
  obtain ⟨t1,t2,t3,t4⟩:=put3 H3.out.2.2 _ _ _ wF hWF
  obtain ⟨e0,e1,e2⟩:=cells3p t1
  refine bodyPost_ret (v:=.agg #[.slice q1 o.n c1,.slice (some ⟨g2,0,none⟩) o.m o.m,.slice q3 o.l c3]) (by simp [results,Tryz.results23,go_sem,e0,e1,e2];try rfl) rfl ?_
  have hz:=HSZ.out
  have hs1:=hw1.size
  have hs2:=hw2.size
  have kbF:Kb (fun k=>k=w.heap.size) w3 wF:=⟨by omega,fun k _ hs=>t2 k hs⟩
  have h13:Below w1.heap.size w1 w3:=H2.out.2.1.trans (H3.out.2.1.mono H2.out.2.1.size)
  refine ⟨⟨q1,c1,some ⟨g2,0,none⟩,o.m,q3,c3⟩,d,rfl,⟨⟨C,HQ.out.1.trans H1.out.2,((H1.out.1.later h13).kb kbF (fun k hk=> ?_)).ss⟩,own_sin0 (SRow.kb (SRow.later H2.out.1 H3.out.2.1) kbF (fun k hk=> ?_)),own_sin0 (own_kb H3.out.1 kbF (fun k hk=> ?_))⟩,H2.out.2.2.1,H2.out.2.2.2,t3 _ _ (HQ.out.2.1.trans (hw3.mono HQ.out.2.1.size)) (Nat.le_refl _)⟩
  ·show ¬k=_
   omega
  ·show ¬k=_
   omega
  ·show ¬k=_
   omega)
end Go.Proofs.YtecgecpgmpmkoaaGreat
namespace Go.Proofs.YtecgecpgmpmkoaaGreat
open Go.ChangeShapes Go.WideShapes Go.ChangeAt Go.RowKit
set_option linter.unusedVariables false
set_option linter.unusedSimpArgs false
theorem calls_yes {f:FuncId} {args:Array Value} {w:World} {P:Prop} {Q:World→Prop} (h:Calls Tryz.prog f args w fun e w'=> ∃b,e=.returned (.bool b)∧(b=true↔P)∧Q w') (hp:P):Calls Tryz.prog f args w fun e w'=>e=.returned (.bool true)∧Q w':=by
 refine h.mono ?_
 rintro e w' ⟨b,h1,h2,h3⟩
 rw [h2.2 hp] at h1
 exact ⟨h1,h3⟩
theorem calls_no {f:FuncId} {args:Array Value} {w:World} {P:Prop} {Q:World→Prop} (h:Calls Tryz.prog f args w fun e w'=> ∃b,e=.returned (.bool b)∧(b=true↔P)∧Q w') (hp: ¬P):Calls Tryz.prog f args w fun e w'=>e=.returned (.bool false)∧Q w':=by
 refine h.mono ?_
 rintro e w' ⟨b,h1,h2,h3⟩
 cases b with
 |false=>exact ⟨h1,h3⟩
 |true=>exact absurd (h2.1 rfl) hp
set_option maxRecDepth 100000 in
set_option maxHeartbeats 8000000 in
theorem pointFits_any (p:Pl) (v:PlV) (o:Pn) (u:PnV) (hnq:p.nq≤64) (hn:RoomyN o) (w:World) (h:PlAt w p v) (ho:PnAt w o u):
  Calls Tryz.prog 60 #[.agg #[.int .i64 p.ki,.slice v.pp p.np v.pc,.slice v.tp p.nq v.tc,.slice v.sp p.ns v.sc,.int .u64 p.sd,.int .u64 p.lk,.int .u64 p.en,.int .i64 p.bu,.int .i64 p.fu],.agg #[.slice u.q o.n u.c,.slice u.q2 o.m u.c2,.slice u.q3 o.l u.c3]] w fun e w'=> ∃b,e=.returned (.bool b)∧(b=true↔PF p o)∧Below w.heap.size w w':=by
 obtain ⟨wb,hwb⟩: ∃wb,(w.alloc (.cells #[.int .i64 p.ki,.slice v.pp p.np v.pc,.slice v.tp p.nq v.tc,.slice v.sp p.ns v.sc,.int .u64 p.sd,.int .u64 p.lk,.int .u64 p.en,.int .i64 p.bu,.int .i64 p.fu] 27)).alloc (.cells #[.slice u.q o.n u.c,.slice u.q2 o.m u.c2,.slice u.q3 o.l u.c3] 47)=wb:=⟨_,rfl⟩
 have hb0:Below w.heap.size w wb:=by rw [←hwb];exact ((Below.refl _ w).alloc (Nat.le_refl _) _).alloc (by simp) _
 have hbox:wb.heap[w.heap.size]? =some (.cells #[.int .i64 p.ki,.slice v.pp p.np v.pc,.slice v.tp p.nq v.tc,.slice v.sp p.ns v.sc,.int .u64 p.sd,.int .u64 p.lk,.int .u64 p.en,.int .i64 p.bu,.int .i64 p.fu] 27 (0,0)):=by
  rw [←hwb,Below.heap_alloc _ _ _ (by simp)]
  exact World.alloc_heap_new w _
 have hbx2:wb.heap[w.heap.size+1]? =some (.cells #[.slice u.q o.n u.c,.slice u.q2 o.m u.c2,.slice u.q3 o.l u.c3] 47 (0,0)):=by
  rw [←hwb]
  have:=World.alloc_heap_new (w.alloc (.cells #[.int .i64 p.ki,.slice v.pp p.np v.pc,.slice v.tp p.nq v.tc,.slice v.sp p.ns v.sc,.int .u64 p.sd,.int .u64 p.lk,.int .u64 p.en,.int .i64 p.bu,.int .i64 p.fu] 27)) (.cells #[.slice u.q o.n u.c,.slice u.q2 o.m u.c2,.slice u.q3 o.l u.c3] 47)
  rwa [World.size_alloc] at this
 have HW:Hid ((w.alloc (.cells #[.int .i64 p.ki,.slice v.pp p.np v.pc,.slice v.tp p.nq v.tc,.slice v.sp p.ns v.sc,.int .u64 p.sd,.int .u64 p.lk,.int .u64 p.en,.int .i64 p.bu,.int .i64 p.fu] 27)).alloc (.cells #[.slice u.q o.n u.c,.slice u.q2 o.m u.c2,.slice u.q3 o.l u.c3] 47)=wb):=hwb
 obtain ⟨⟨C,hC,hS0⟩,hX0,hZ0⟩:=ho.below hb0
 have hp:=h.below hb0
 have HP:Hid (PlAt wb p v∧SsAt wb u.q o.n C o.K∧SIn wb u.q2 o.m o.X∧Below w.heap.size w wb∧SaEq o.n o.A C):=⟨hp,hS0,hX0,hb0,hC⟩
 have HBX:Hid (wb.heap[w.heap.size]? =some (.cells #[.int .i64 p.ki,.slice v.pp p.np v.pc,.slice v.tp p.nq v.tc,.slice v.sp p.ns v.sc,.int .u64 p.sd,.int .u64 p.lk,.int .u64 p.en,.int .i64 p.bu,.int .i64 p.fu] 27 (0,0))∧wb.heap[w.heap.size+1]? =some (.cells #[.slice u.q o.n u.c,.slice u.q2 o.m u.c2,.slice u.q3 o.l u.c3] 47 (0,0))):=⟨hbox,hbx2⟩
 have HSF:=statesFit_any p v u.q o.n u.c C o.K hn.n hnq wb hp hS0
 have HRI: ∀W,Below wb.heap.size wb W→Hid (Calls Tryz.prog 105 #[.slice u.q2 o.m u.c2] W fun e w'=> ∃b,e=.returned (.bool b)∧(b=true↔Rsg o.m o.X)∧Below W.heap.size W w'):=fun W hb=>rising_any u.q2 o.m u.c2 o.X hn.m W (hX0.below hb)
 have hom:=hn.m
 have hol:=hn.l
 obtain ⟨⟨c0,c1,c2,c3⟩,c4,c5,c6,c7,c8⟩:=cells9 hbox
 obtain ⟨e0,e1,e2⟩:=cells3p hbx2
 rw [←hwb] at c0 c1 c2 c3 c4 c5 c6 c7 c8 e0 e1 e2
 clear hwb h ho hb0 hbox hbx2 hC hS0 hX0 hZ0 hp hn
 by_cases hsf:SF p o.n C
 case neg=>
  have HSF:=calls_no HSF hsf
  have HN:Hid (¬PF p o):=fun hG=>hsf ((SF.eqv HP.out.2.2.2.2).2 hG.1)
  clear hsf
  go_enter Tryz.func60,Tryz.ntmps60
  go_wp2_with (go_at_call 104;rw [HW.out];(with_reducible refine HSF.mono ?_);rintro e w1 ⟨rfl,hb1⟩)
  go_ret
  have hY:=HP.out.2.2.2.1.trans (hb1.mono HP.out.2.2.2.1.size)
  have hX:=HN.out
  first|exact ⟨false,rfl,⟨fun e=>(by cases e),fun hG=>(hX hG).elim⟩,hY⟩|exact .inl ⟨rfl,hX,hY⟩
 have HSFy:=calls_yes HSF hsf
 have HSS:Hid (SF p o.n C):=hsf
 clear hsf HSF
 by_cases hri:Rsg o.m o.X
 case neg=>
  have HRN: ∀W,Below wb.heap.size wb W→Hid (Calls Tryz.prog 105 #[.slice u.q2 o.m u.c2] W fun e w'=>e=.returned (.bool false)∧Below W.heap.size W w'):=fun W hb=>calls_no (HRI W hb).out hri
  have HN:Hid (¬PF p o):=fun hG=>hri hG.2.1
  clear hri HRI
  go_enter Tryz.func60,Tryz.ntmps60
  go_wp2_with (first|(go_at_call 104;rw [HW.out];(with_reducible refine HSFy.mono ?_);rintro e w1 ⟨rfl,hb1⟩;clear c0 c1 c2 c3 c4 c5 c6 c7 c8 e0 e1 e2;obtain ⟨e0,e1,e2⟩:=cells3p ((hb1.block _ (lt_of_block HBX.out.2)).trans HBX.out.2))|(go_at_call 105;(with_reducible refine (HRN w1 hb1).out.mono ?_);rintro e w2 ⟨rfl,hb2⟩))
  go_ret
  have h12:Below wb.heap.size wb w2:=hb1.trans (hb2.mono hb1.size)
  have hY:=HP.out.2.2.2.1.trans (h12.mono HP.out.2.2.2.1.size)
  have hX:=HN.out
  first|exact ⟨false,rfl,⟨fun e=>(by cases e),fun hG=>(hX hG).elim⟩,hY⟩|exact .inl ⟨rfl,hX,hY⟩
 have HRY: ∀W,Below wb.heap.size wb W→Hid (Calls Tryz.prog 105 #[.slice u.q2 o.m u.c2] W fun e w'=>e=.returned (.bool true)∧Below W.heap.size W w'):=fun W hb=>calls_yes (HRI W hb).out hri
 have HRS:Hid (Rsg o.m o.X):=hri
 clear hri HRI
 by_cases hbu:(o.l:Int)≤p.bu
 case neg=>
  have HN:Hid (¬PF p o):=fun hG=>hbu hG.2.2.1
  have d0:decide (p.bu<(o.l:Int))=true:=by simp;omega
  clear hbu
  go_enter Tryz.func60,Tryz.ntmps60
  go_wp2_with (first|(go_at_call 104;rw [HW.out];(with_reducible refine HSFy.mono ?_);rintro e w1 ⟨rfl,hb1⟩;clear c0 c1 c2 c3 c4 c5 c6 c7 c8 e0 e1 e2;obtain ⟨e0,e1,e2⟩:=cells3p ((hb1.block _ (lt_of_block HBX.out.2)).trans HBX.out.2))|(go_at_call 105;(with_reducible refine (HRY w1 hb1).out.mono ?_);rintro e w2 ⟨rfl,hb2⟩;have h12:Below wb.heap.size wb w2:=hb1.trans (hb2.mono hb1.size);clear e0 e1 e2;obtain ⟨e0,e1,e2⟩:=cells3p ((h12.block _ (lt_of_block HBX.out.2)).trans HBX.out.2);obtain ⟨⟨c0,c1,c2,c3⟩,c4,c5,c6,c7,c8⟩:=cells9 ((h12.block _ (lt_of_block HBX.out.1)).trans HBX.out.1)))
  go_ret
  have hY:=HP.out.2.2.2.1.trans (h12.mono HP.out.2.2.2.1.size)
  have hX:=HN.out
  first|exact ⟨false,rfl,⟨fun e=>(by cases e),fun hG=>(hX hG).elim⟩,hY⟩|exact .inl ⟨rfl,hX,hY⟩
 have d0:decide (p.bu<(o.l:Int))=false:=by simp;omega
 have HBU:Hid ((o.l:Int)≤p.bu):=hbu
 clear hbu
 go_enter Tryz.func60,Tryz.ntmps60
 go_wp2_with (first|(go_at_call 104;rw [HW.out];(with_reducible refine HSFy.mono ?_);rintro e w1 ⟨rfl,hb1⟩;clear c0 c1 c2 c3 c4 c5 c6 c7 c8 e0 e1 e2;obtain ⟨e0,e1,e2⟩:=cells3p ((hb1.block _ (lt_of_block HBX.out.2)).trans HBX.out.2))|(go_at_call 105;(with_reducible refine (HRY w1 hb1).out.mono ?_);rintro e w2 ⟨rfl,hb2⟩;have h12:Below wb.heap.size wb w2:=hb1.trans (hb2.mono hb1.size);clear e0 e1 e2;obtain ⟨e0,e1,e2⟩:=cells3p ((h12.block _ (lt_of_block HBX.out.2)).trans HBX.out.2);obtain ⟨⟨c0,c1,c2,c3⟩,c4,c5,c6,c7,c8⟩:=cells9 ((h12.block _ (lt_of_block HBX.out.1)).trans HBX.out.1)))
 have H12:Hid (Below wb.heap.size wb w2):=h12
 clear c0 c1 c2 c3 c4 c5 c6 c7 c8 e0 e1 e2 hb1 hb2 h12 d0 HSFy HRY
 go_loopw [29] (fun x wr=> ∃i:Nat,x=.int .i64 (i:Int)∧i≤o.m∧(∀j,j<i→ef1 p o.A (o.X j))∧Below wb.heap.size wb wr) (fun x _=>o.m-(intOf x).toNat)
 case atStart=>exact ⟨0,rfl,Nat.zero_le _,fun j hj=>absurd hj (Nat.not_lt_zero _),H12.out⟩
 case round=>
  obtain ⟨i,rfl,hi,hall,hbr⟩:=hrel
  by_cases hlt:i<o.m
  case pos=>
   have dlt:decide ((i:Int)<(o.m:Int))=true:=by simp;omega
   have i0:(0:Int)≤(i:Int):=by omega
   have i1:(i:Int)<(o.m:Int):=by omega
   have ei:IntKind.i64.wrap ((i:Int)+1)=(i:Int)+1:=by rw [IntKind.wrap_i64];omega
   have hme:=meas hlt
   obtain ⟨ge,oe,hqe,hle,x0,x1,x2,x3,x4,x5⟩:=(HP.out.2.2.1.below hbr).at hlt
   have hba:Below wr.heap.size wr (wr.alloc (.cells #[.int .u64 (o.X i).t,.int .i64 (o.X i).s,.int .u64 (o.X i).q,.int .i64 (o.X i).d,.int .i64 (o.X i).k,.int .i64 (o.X i).v] 54)):=(Below.refl _ wr).alloc (Nat.le_refl _) _
   obtain ⟨wa,hwa⟩: ∃wa,wr.alloc (.cells #[.int .u64 (o.X i).t,.int .i64 (o.X i).s,.int .u64 (o.X i).q,.int .i64 (o.X i).d,.int .i64 (o.X i).k,.int .i64 (o.X i).v] 54)=wa:=⟨_,rfl⟩
   have hbn:(wr.alloc (.cells #[.int .u64 (o.X i).t,.int .i64 (o.X i).s,.int .u64 (o.X i).q,.int .i64 (o.X i).d,.int .i64 (o.X i).k,.int .i64 (o.X i).v] 54)).heap[wr.heap.size]? =some (.cells #[.int .u64 (o.X i).t,.int .i64 (o.X i).s,.int .u64 (o.X i).q,.int .i64 (o.X i).d,.int .i64 (o.X i).k,.int .i64 (o.X i).v] 54 (0,0)):=World.alloc_heap_new wr _
   rw [hwa] at hba hbn
   have hbwa:Below wb.heap.size wb wa:=hbr.trans (hba.mono hbr.size)
   obtain ⟨⟨c0,c1,c2,c3⟩,c4,c5,c6,c7,c8⟩:=cells9 ((hbwa.block _ (lt_of_block HBX.out.1)).trans HBX.out.1)
   obtain ⟨e0,e1,e2⟩:=cells3p ((hbwa.block _ (lt_of_block HBX.out.2)).trans HBX.out.2)
   obtain ⟨y0,y1,y2,y3,y4,y5⟩:=cells6p hbn
   have HWA:Hid (wr.alloc (.cells #[.int .u64 (o.X i).t,.int .i64 (o.X i).s,.int .u64 (o.X i).q,.int .i64 (o.X i).d,.int .i64 (o.X i).k,.int .i64 (o.X i).v] 54)=wa):=hwa
   have HA:Hid ((∀j,j<i→ef1 p o.A (o.X j))∧Below wb.heap.size wb wa):=⟨hall,hbwa⟩
   have hY: ∀q,Below w.heap.size w (wa.drewN q):=fun q=>HP.out.2.2.2.1.trans ((hbwa.trans ((below_drewNq _ _ q).mono hbwa.size)).mono HP.out.2.2.2.1.size)
   have HY:Hid (∀q,Below w.heap.size w (wa.drewN q)):=hY
   obtain ⟨b1,hb1⟩: ∃b1,decide (0≤(o.X i).d∧(o.X i).d<(p.nq:Int))=b1:=⟨_,rfl⟩
   obtain ⟨b2,hb2⟩: ∃b2,decide (0≤(o.X i).k∧(o.X i).k<p.ki)=b2:=⟨_,rfl⟩
   obtain ⟨b3,hb3⟩: ∃b3,decide (0≤(o.X i).s∧(o.X i).s<(p.nq:Int))=b3:=⟨_,rfl⟩
   have I1:=isIn_any (o.X i).d (p.nq:Int) wa
   have I2:=isIn_any (o.X i).k p.ki wa
   have I3:=isIn_any (o.X i).s (p.nq:Int) wa
   rw [hb1] at I1
   rw [hb2] at I2
   rw [hb3] at I3
   have HB:Hid (decide (0≤(o.X i).d∧(o.X i).d<(p.nq:Int))=b1∧decide (0≤(o.X i).k∧(o.X i).k<p.ki)=b2∧decide (0≤(o.X i).s∧(o.X i).s<(p.nq:Int))=b3):=⟨hb1,hb2,hb3⟩
   rw [hqe]
   clear hqe hle hall hbr hba hbwa hwa hbn hb1 hb2 hb3 hY
   cases b1 with
   |false=>
    go_upto_region 6 with fail
    rw [HWA.out]
    clear x0 x1 x2 x3 x4 x5
    go_wp2_with (go_at_call 101;(with_reducible refine I1.mono ?_);rintro e w9 ⟨rfl,h9⟩;subst w9)
    go_ret
    have hX: ¬PF p o:=fun hG=>by
     have:=(hG.2.2.2 i hlt).1
     have h8:=HB.out.1
     rw [decide_eq_true this] at h8
     cases h8
    have hY:=HY.out 0
    first|exact ⟨false,rfl,⟨fun e=>(by cases e),fun hG=>(hX hG).elim⟩,hY⟩|exact .inl ⟨rfl,hX,hY⟩
   |true=>
    cases b2 with
    |false=>
     go_upto_region 6 with fail
     rw [HWA.out]
     clear x0 x1 x2 x3 x4 x5
     go_wp2_with (first|(go_at_call 101;(with_reducible refine I1.mono ?_);rintro e w9 ⟨rfl,h9⟩;subst w9)|(go_at_call 101;(with_reducible refine I2.mono ?_);rintro e w9 ⟨rfl,h9⟩;subst w9))
     go_ret
     have hX: ¬PF p o:=fun hG=>by
      have:=(hG.2.2.2 i hlt).2.1
      have h8:=HB.out.2.1
      rw [decide_eq_true this] at h8
      cases h8
     have hY:=HY.out 0
     first|exact ⟨false,rfl,⟨fun e=>(by cases e),fun hG=>(hX hG).elim⟩,hY⟩|exact .inl ⟨rfl,hX,hY⟩
    |true=>
     cases b3 with
     |false=>
      go_upto_region 6 with fail
      rw [HWA.out]
      clear x0 x1 x2 x3 x4 x5
      go_wp2_with (first|(go_at_call 101;(with_reducible refine I1.mono ?_);rintro e w9 ⟨rfl,h9⟩;subst w9)|(go_at_call 101;(with_reducible refine I2.mono ?_);rintro e w9 ⟨rfl,h9⟩;subst w9)|(go_at_call 101;(with_reducible refine I3.mono ?_);rintro e w9 ⟨rfl,h9⟩;subst w9))
      go_ret
      have hX: ¬PF p o:=fun hG=>by
       have:=(hG.2.2.2 i hlt).2.2.1
       have h8:=HB.out.2.2
       rw [decide_eq_true this] at h8
       cases h8
      have hY:=HY.out 0
      first|exact ⟨false,rfl,⟨fun e=>(by cases e),fun hG=>(hX hG).elim⟩,hY⟩|exact .inl ⟨rfl,hX,hY⟩
     |true=>
      obtain ⟨hs0,hs1⟩:=of_decide_eq_true HB.out.2.2
      obtain ⟨sn,hsn⟩: ∃sn:Nat,(o.X i).s=(sn:Int):=⟨(o.X i).s.toNat,by omega⟩
      have hsl:sn<o.n:=by have:=HSS.out.1;omega
      obtain hz|⟨gs,os,hse,hls,hcs,_⟩:=HP.out.2.1.below HA.out.2
      ·omega
      obtain ⟨z0,z1,z2⟩:=hcs sn hsl
      have j0:(0:Int)≤(sn:Int):=by omega
      have j1:(sn:Int)<(o.n:Int):=by omega
      rw [hsn] at y1 x1 I3 HWA
      rw [hse] at e0
      have HSN:Hid ((o.X i).s=(sn:Int)∧(C sn).s=(o.A sn).s):=⟨hsn,(HP.out.2.2.2.2 sn hsl).2.2⟩
      rw [hse]
      clear hs0 hs1 hsl hcs hls hse hsn
      by_cases hq:(o.X i).q<(C sn).s
      case neg=>
       have k1:decide ((C sn).s≤(o.X i).q)=true:=by simp;omega
       have HQ:Hid ((C sn).s≤(o.X i).q):=by show (C sn).s≤(o.X i).q;omega
       clear hq
       go_upto_region 6 with fail
       rw [HWA.out]
       clear x0 x1 x2 x3 x4 x5
       go_upto_region 8 with (first|(go_at_call 101;(with_reducible refine I1.mono ?_);rintro e w9 ⟨rfl,h9⟩;subst w9)|(go_at_call 101;(with_reducible refine I2.mono ?_);rintro e w9 ⟨rfl,h9⟩;subst w9)|(go_at_call 101;(with_reducible refine I3.mono ?_);rintro e w9 ⟨rfl,h9⟩;subst w9))
       go_quiet (fail)
       go_wp2_with fail
       go_ret
       have hX: ¬PF p o:=fun hG=>by
        have h7:=(hG.2.2.2 i hlt).2.2.2
        rw [HSN.out.1,Int.toNat_natCast,←HSN.out.2] at h7
        have:=HQ.out
        omega
       have hY:=HY.out
       first|exact ⟨false,rfl,⟨fun e=>(by cases e),fun hG=>(hX hG).elim⟩,hY _⟩|exact .inl ⟨rfl,hX,hY _⟩
      have k1:decide ((C sn).s≤(o.X i).q)=false:=by simp;omega
      have HQ:Hid ((o.X i).q<(C sn).s):=hq
      clear hq
      go_upto_region 6 with fail
      rw [HWA.out]
      clear x0 x1 x2 x3 x4 x5
      go_upto_region 8 with (first|(go_at_call 101;(with_reducible refine I1.mono ?_);rintro e w9 ⟨rfl,h9⟩;subst w9)|(go_at_call 101;(with_reducible refine I2.mono ?_);rintro e w9 ⟨rfl,h9⟩;subst w9)|(go_at_call 101;(with_reducible refine I3.mono ?_);rintro e w9 ⟨rfl,h9⟩;subst w9))
      go_quiet (fail)
      go_wp2_with fail
      refine ⟨⟨i+1,rfl,hlt,fun j hj=> ?_,HA.out.2.trans ((below_drewNq _ _ _).mono HA.out.2.size)⟩,hme⟩
      by_cases e:j=i
      ·rw [e]
       refine ⟨of_decide_eq_true HB.out.1,of_decide_eq_true HB.out.2.1,of_decide_eq_true HB.out.2.2,?_⟩
       rw [HSN.out.1,Int.toNat_natCast,←HSN.out.2]
       exact HQ.out
      ·exact HA.out.1 j (by omega)
  have dlt:decide ((i:Int)<(o.m:Int))=false:=by simp;omega
  obtain rfl:i=o.m:=by omega
  have HF:Hid (PF p o∧Below w.heap.size w wr):=⟨⟨(SF.eqv HP.out.2.2.2.2).1 HSS.out,HRS.out,HBU.out,hall⟩,HP.out.2.2.2.1.trans (hbr.mono HP.out.2.2.2.1.size)⟩
  clear hall hbr
  go_wp2_with fail
  go_ret
  have hX:=HF.out.1
  have hY:=HF.out.2
  first|exact ⟨true,rfl,⟨fun _=>hX,fun _=>rfl⟩,hY⟩|exact .inr ⟨rfl,hX,hY⟩
end Go.Proofs.YtecgecpgmpmkoaaGreat
namespace Go.Proofs.YtecgecpgmpmkoaaGreat
open Go.ChangeShapes Go.WideShapes Go.ChangeAt Go.RowKit
set_option linter.unusedVariables false
set_option linter.unusedSimpArgs false
def UNew (b n:Nat) (P:Nat→Pg) (U:Nat→PgV):Prop:= ∀j,j<n→(∀g o,(U j).cp=some ⟨g,o,none⟩→0<(P j).n→b≤g)∧ ∀g o,(U j).ep=some ⟨g,o,none⟩→0<(P j).m→b≤g
set_option maxRecDepth 100000 in
set_option maxHeartbeats 4000000 in
theorem copiedPrograms_new (p:Option Addr) (n c:Nat) (P:Nat→Pg) (V:Nat→PgV) (hn:n*64≤140737488355328) (hw: ∀j,j<n→roomyP (P j)) (w:World) (h:PsAt w p n P V):
  Calls Tryz.prog 118 #[.slice p n c] w fun e w'=> ∃(q:Option Addr) (cc:Nat) (U:Nat→PgV),e=.returned (.slice q n cc)∧PsAt w' q n P U∧UNew w.heap.size n P U∧Below w.heap.size w w':=by
 have HS:Hid (PsAt w p n P V∧ ∀j,j<n→roomyP (P j)):=⟨h,hw⟩
 have HC:=cloneP_any p n c (pgF P V) w hn h.cin (fun j _=>pgF_one P V j)
 clear h hw
 go_enter Tryz.func118,Tryz.ntmps118
 go_wp2_with (go_at_call 161;(with_reducible refine HC.mono ?_);rintro e w1 ⟨q,cc,rfl,ho1,hb1⟩)
 have H1:Hid (Own w1 w.heap.size 103 4 (.slice q n cc) n (pgF P V)∧Below w.heap.size w w1):=⟨ho1,hb1⟩
 clear ho1 hb1 HC
 go_loopw [10] (fun x wr=> ∃(i:Nat) (U:Nat→PgV),x=.int .i64 (i:Int)∧i≤n∧Own wr w.heap.size 103 4 (.slice q n cc) n (pgF P U)∧(∀g,q=some ⟨g,0,none⟩→ ∀j,j<i→PA wr (P j) (U j) g w.heap.size)∧(∀j,i≤j→U j=V j)∧Below w.heap.size w wr) (fun x _=>n-(intOf x).toNat)
 case atStart=>exact ⟨0,V,rfl,Nat.zero_le _,H1.out.1,fun g _ j hj=>absurd hj (Nat.not_lt_zero _),fun j _=>rfl,H1.out.2⟩
 case round=>
  obtain ⟨i,U,rfl,hi,ho,hk,ha,hb⟩:=hrel
  by_cases hlt:i<n
  case pos=>
   have dlt:decide ((i:Int)<(n:Int))=true:=by simp;omega
   have i0:(0:Int)≤(i:Int):=by omega
   have i1:(i:Int)<(n:Int):=by omega
   have ei:IntKind.i64.wrap ((i:Int)+1)=(i:Int)+1:=by rw [IntKind.wrap_i64];omega
   have hme:=meas hlt
   obtain ⟨g,hq⟩: ∃g,q=some ⟨g,0,none⟩:=by
    rcases ho.form with ⟨h1,h2⟩|⟨g,c',h1,h2,h3⟩
    ·omega
    ·injection h1 with e1 e2 e3
     exact ⟨g,e1⟩
   subst hq
   have hrow:PRow wr w.heap.size g n cc P U:=ho
   obtain ⟨x0,x1,x2,x3⟩:=hrow.cells hlt
   rw [ha i (Nat.le_refl _)] at x2 x3
   obtain hz|⟨gp9,op9,he9,hl9,hc9,hkw⟩:=HS.out.1
   ·omega
   clear he9 hl9 hc9
   have hbx:Below wr.heap.size wr (wr.alloc (.cells #[.int .i64 (P i).words,.int .i64 (P i).locals,.slice (V i).cp (P i).n (V i).cc,.slice (V i).ep (P i).m (V i).ec] 103)).drew:=((Below.refl _ wr).alloc (Nat.le_refl _) _).drew
   have hbw:=hb.trans (hbx.mono hb.size)
   have hbs:(wr.alloc (.cells #[.int .i64 (P i).words,.int .i64 (P i).locals,.slice (V i).cp (P i).n (V i).cc,.slice (V i).ep (P i).m (V i).ec] 103)).drew.heap.size=wr.heap.size+1:=World.size_alloc wr _
   have hpb:(wr.alloc (.cells #[.int .i64 (P i).words,.int .i64 (P i).locals,.slice (V i).cp (P i).n (V i).cc,.slice (V i).ep (P i).m (V i).ec] 103)).drew.heap[wr.heap.size]? =some (.cells #[.int .i64 (P i).words,.int .i64 (P i).locals,.slice (V i).cp (P i).n (V i).cc,.slice (V i).ep (P i).m (V i).ec] 103 (0,0)):=World.alloc_heap_new wr _
   have hro:=HS.out.2 i hlt
   have HC1:=cloneI_any (V i).cp (P i).n (V i).cc (inF (P i).op (P i).a (P i).b) (wr.alloc (.cells #[.int .i64 (P i).words,.int .i64 (P i).locals,.slice (V i).cp (P i).n (V i).cc,.slice (V i).ep (P i).m (V i).ec] 103)).drew (by have:=hro.1;omega) ((hkw i hlt).1.below hbw).cin (fun j _=>inF_one _ _ _ j)
   have HC2: ∀w',Below (wr.alloc (.cells #[.int .i64 (P i).words,.int .i64 (P i).locals,.slice (V i).cp (P i).n (V i).cc,.slice (V i).ep (P i).m (V i).ec] 103)).drew.heap.size (wr.alloc (.cells #[.int .i64 (P i).words,.int .i64 (P i).locals,.slice (V i).cp (P i).n (V i).cc,.slice (V i).ep (P i).m (V i).ec] 103)).drew w'→Hid (Calls Tryz.prog 163 #[.slice (V i).ep (P i).m (V i).ec] w' fun e w9=> ∃(q:Option Addr) (cc:Nat),e=.returned (.slice q (P i).m cc)∧Own w9 w'.heap.size 3 1 (.slice q (P i).m cc) (P i).m (iv (P i).en)∧Below w'.heap.size w' w9):=fun w' hb'=>cloneN_any (V i).ep (P i).m (V i).ec (iv (P i).en) w' (by have:=hro.2;omega) ((((hkw i hlt).2.below hbw).below hb').cin) (fun j _=>rfl)
   have hgl:=hrow.lt
   have hn1:wr.heap.size≠g:=by omega
   have KP0:(wr.alloc (.cells #[.int .i64 (P i).words,.int .i64 (P i).locals,.slice (V i).cp (P i).n (V i).cc,.slice (V i).ep (P i).m (V i).ec] 103)).drew.cell? ⟨wr.heap.size,2,none⟩=some (.slice (V i).cp (P i).n (V i).cc)∧(wr.alloc (.cells #[.int .i64 (P i).words,.int .i64 (P i).locals,.slice (V i).cp (P i).n (V i).cc,.slice (V i).ep (P i).m (V i).ec] 103)).drew.cell? ⟨wr.heap.size,3,none⟩=some (.slice (V i).ep (P i).m (V i).ec):=⟨by unfold World.cell?;rw [hpb];rfl,by unfold World.cell?;rw [hpb];rfl⟩
   have HA:Hid (PRow wr w.heap.size g n cc P U∧(∀j,j<i→PA wr (P j) (U j) g w.heap.size)∧(∀j,i≤j→U j=V j)∧Below w.heap.size w wr∧Below wr.heap.size wr (wr.alloc (.cells #[.int .i64 (P i).words,.int .i64 (P i).locals,.slice (V i).cp (P i).n (V i).cc,.slice (V i).ep (P i).m (V i).ec] 103)).drew∧(wr.alloc (.cells #[.int .i64 (P i).words,.int .i64 (P i).locals,.slice (V i).cp (P i).n (V i).cc,.slice (V i).ep (P i).m (V i).ec] 103)).drew.heap.size=wr.heap.size+1):=⟨hrow,hk g rfl,ha,hb,hbx,hbs⟩
   have KK: ∀w',Below (wr.alloc (.cells #[.int .i64 (P i).words,.int .i64 (P i).locals,.slice (V i).cp (P i).n (V i).cc,.slice (V i).ep (P i).m (V i).ec] 103)).drew.heap.size (wr.alloc (.cells #[.int .i64 (P i).words,.int .i64 (P i).locals,.slice (V i).cp (P i).n (V i).cc,.slice (V i).ep (P i).m (V i).ec] 103)).drew w'→Hid (w'.cell? ⟨wr.heap.size,2,none⟩=some (.slice (V i).cp (P i).n (V i).cc)∧w'.cell? ⟨wr.heap.size,3,none⟩=some (.slice (V i).ep (P i).m (V i).ec)):=fun w' hb'=>⟨(cell_below (a:=⟨wr.heap.size,2,none⟩) hb' (by show wr.heap.size<_;rw [hbs];exact Nat.lt_succ_self _)).trans KP0.1,(cell_below (a:=⟨wr.heap.size,3,none⟩) hb' (by show wr.heap.size<_;rw [hbs];exact Nat.lt_succ_self _)).trans KP0.2⟩
   clear ho hk ha hb hrow hkw hbx hbw hbs hpb hro
   go_upto_region 5 with fail
   go_region_held3 (fun w'=>(w'.cell? ⟨wr.heap.size,2,none⟩=some (.slice (V i).cp (P i).n (V i).cc)∧w'.cell? ⟨wr.heap.size,3,none⟩=some (.slice (V i).ep (P i).m (V i).ec))) (first|with_reducible exact KP0|with_reducible exact KP3|with_reducible exact KP4|with_reducible exact pkeep hn1 KP4|with_reducible exact pkeep2 hn1 KP4|go_keep) (first|(go_at_call 162;(with_reducible refine HC1.mono ?_);rintro e w3 ⟨q3,c3,rfl,ho3,hb3⟩;have KP3:=(KK w3 hb3).out;have H3:Hid (Own w3 (wr.alloc (.cells #[.int .i64 (P i).words,.int .i64 (P i).locals,.slice (V i).cp (P i).n (V i).cc,.slice (V i).ep (P i).m (V i).ec] 103)).drew.heap.size 139 3 (.slice q3 (P i).n c3) (P i).n (inF (P i).op (P i).a (P i).b)∧Below (wr.alloc (.cells #[.int .i64 (P i).words,.int .i64 (P i).locals,.slice (V i).cp (P i).n (V i).cc,.slice (V i).ep (P i).m (V i).ec] 103)).drew.heap.size (wr.alloc (.cells #[.int .i64 (P i).words,.int .i64 (P i).locals,.slice (V i).cp (P i).n (V i).cc,.slice (V i).ep (P i).m (V i).ec] 103)).drew w3):=⟨ho3,hb3⟩;clear ho3 hb3)|(go_at_call 163;(with_reducible refine ((HC2 w3 H3.out.2).out).mono ?_);rintro e w4 ⟨q4,c4,rfl,ho4,hb4⟩;have hbb:Below (wr.alloc (.cells #[.int .i64 (P i).words,.int .i64 (P i).locals,.slice (V i).cp (P i).n (V i).cc,.slice (V i).ep (P i).m (V i).ec] 103)).drew.heap.size (wr.alloc (.cells #[.int .i64 (P i).words,.int .i64 (P i).locals,.slice (V i).cp (P i).n (V i).cc,.slice (V i).ep (P i).m (V i).ec] 103)).drew w4:=H3.out.2.trans (hb4.mono H3.out.2.size);have KP4:=(KK w4 hbb).out;have hbr:Below wr.heap.size wr w4:=HA.out.2.2.2.2.1.trans (hbb.mono HA.out.2.2.2.2.1.size);have hrow4:PRow w4 w.heap.size g n cc P U:=Own.later HA.out.1 hbr;have f2:=hrow4.fz (i*4+2);have f3:=hrow4.fz (i*4+3);obtain ⟨k0,k1,k2,k3⟩:=hrow4.cells hlt;have H4:Hid (PRow w4 w.heap.size g n cc P U∧Own w4 w3.heap.size 3 1 (.slice q4 (P i).m c4) (P i).m (iv (P i).en)∧Below w3.heap.size w3 w4∧Below wr.heap.size wr w4):=⟨hrow4,ho4,hb4,hbr⟩;clear hrow4 ho4 hb4 hbb hbr))
   all_goals (
    go_wp2_with fail
    obtain ⟨a1,a2,a3,a4,a5,a6⟩:=HA.out
    obtain ⟨b1,b2⟩:=H3.out
    obtain ⟨d1,d2,d3,d4⟩:=H4.out
    have hgl3:=a1.lt
    have hz2:=b2.size
    have hz3:=d3.size
    have hz4:=a4.size
    obtain ⟨W',hW'⟩: ∃W',(w4.setCell ⟨g,i*4+2,none⟩ (.slice q3 (P i).n c3)).setCell ⟨g,i*4+3,none⟩ (.slice q4 (P i).m c4)=W':=⟨_,rfl⟩
    have hk4:Kb (fun k=>k=g) w4 W':=by rw [←hW'];exact (Kb.set (S:=fun k=>k=g) w4 g _ _ rfl).trans (Kb.set (S:=fun k=>k=g) _ g _ _ rfl)
    have hkk:Kb (fun k=>k=g) wr W':=(Kb.below d4).trans hk4
    have hnew:PRow W' w.heap.size g n cc P (setS U i ⟨q3,c3,q4,c4⟩):=by rw [←hW'];exact d1.put i ⟨q3,c3,q4,c4⟩
    have hbn:Below w.heap.size w W':=by
     rw [←hW']
     exact ((a4.trans (d4.mono a4.size)).setCell (p:=⟨g,i*4+2,none⟩) hgl3.1 _).setCell (p:=⟨g,i*4+3,none⟩) hgl3.1 _
    have hi3:=own_iat b1
    have hk3:=own_katn d2
    have hPA:PA w4 (P i) ⟨q3,c3,q4,c4⟩ g w.heap.size:=⟨⟨hi3.1.below d3,hk3.1⟩,fun g' o' e' h0=>by
     have:=hi3.2 g' o' e' h0
     omega,fun g' o' e' h0=>by
     have:=hk3.2 g' o' e' h0
     omega⟩
    subst hW'
    refine ⟨⟨i+1,setS U i ⟨q3,c3,q4,c4⟩,rfl,hlt,hnew,fun g' hg' j hj=> ?_,fun j hj=> ?_,hbn⟩,hme⟩
    ·obtain rfl:g=g':=by
      injection hg' with hg'
      injection hg'
     unfold setS
     by_cases e:j=i
     ·rw [if_pos e,e]
      exact hPA.kb hk4
     ·rw [if_neg e]
      exact (a2 j (by omega)).kb hkk
    ·unfold setS
     rw [if_neg (by omega)]
     exact a3 j (by omega))
  have dlt:decide ((i:Int)<(n:Int))=false:=by simp;omega
  obtain rfl:i=n:=by omega
  have hps:PsAt wr q i P U:=by
   by_cases h0:i=0
   ·exact .inl h0
   ·rcases ho.form with ⟨h1,h2⟩|⟨g,c',h1,h2,h3⟩
    ·omega
    ·injection h1 with e1 e2 e3
     obtain ⟨q',c'',e4,h5⟩:=own_ps ho (fun j hj=>(hk g e1 j hj).1)
     injection e4 with e5 e6 e7
     subst e5
     exact h5
  have hun:UNew w.heap.size i P U:=by
   by_cases h0:i=0
   ·exact fun j hj=>absurd hj (by omega)
   ·rcases ho.form with ⟨h1,h2⟩|⟨g,c',h1,h2,h3⟩
    ·omega
    ·injection h1 with e1 e2 e3
     exact fun j hj=>⟨fun g' o e h9=>((hk g e1 j hj).2.1 g' o e h9).1,fun g' o e h9=>((hk g e1 j hj).2.2 g' o e h9).1⟩
  have HF:Hid (PsAt wr q i P U∧UNew w.heap.size i P U∧Below w.heap.size w wr):=⟨hps,hun,hb⟩
  clear ho hk ha hb hps hun
  go_wp2_with fail
  go_ret
  exact ⟨q,cc,U,rfl,HF.out⟩
set_option maxRecDepth 100000 in
set_option maxHeartbeats 4000000 in
theorem programsOfParts_new (p:Pl) (v:PlV) (w:World) (h:PlAt w p v) (hr:RoomyL p) (hT:GT p):
  Calls Tryz.prog 106 #[.agg #[.int .i64 p.ki,.slice v.pp p.np v.pc,.slice v.tp p.nq v.tc,.slice v.sp p.ns v.sc,.int .u64 p.sd,.int .u64 p.lk,.int .u64 p.en,.int .i64 p.bu,.int .i64 p.fu]] w fun e w'=> ∃(q:Option Addr) (cc:Nat) (U:Nat→PgV),e=.returned (.slice q p.nq cc)∧PsAt w' q p.nq (fun j=>p.P (p.pr j).toNat) U∧(∀g o,q=some ⟨g,o,none⟩→w.heap.size≤g)∧UNew w.heap.size p.nq (fun j=>p.P (p.pr j).toNat) U∧Below w.heap.size w w':=by
 obtain ⟨iP,hP1,hP2,hP3,hP4⟩:=sinfo cloneP_inf
 obtain ⟨wb,hwb⟩: ∃wb,w.alloc (.cells #[.int .i64 p.ki,.slice v.pp p.np v.pc,.slice v.tp p.nq v.tc,.slice v.sp p.ns v.sc,.int .u64 p.sd,.int .u64 p.lk,.int .u64 p.en,.int .i64 p.bu,.int .i64 p.fu] 27)=wb:=⟨_,rfl⟩
 obtain ⟨hb0,hbox,hsz⟩:=boxed _ _ _ hwb
 have HW:Hid (w.alloc (.cells #[.int .i64 p.ki,.slice v.pp p.np v.pc,.slice v.tp p.nq v.tc,.slice v.sp p.ns v.sc,.int .u64 p.sd,.int .u64 p.lk,.int .u64 p.en,.int .i64 p.bu,.int .i64 p.fu] 27)=wb):=hwb
 have HC:=copiedPrograms_new v.pp p.np v.pc p.P v.V (by have:=hr.np;omega) hr.pg wb (h.below hb0).ps
 have HP:Hid (PlAt wb p v∧GT p∧Below w.heap.size w wb):=⟨h.below hb0,hT,hb0⟩
 have hnq:=hT.1
 obtain ⟨⟨c0,c1,c2,c3⟩,c4,c5,c6,c7,c8⟩:=cells9 hbox
 rw [←hwb] at c0 c1 c2 c3 c4 c5 c6 c7 c8
 clear h hr hT hb0 hsz hwb
 go_enter Tryz.func106,Tryz.ntmps106
 go_upto_region 2 with (go_at_call 118;rw [HW.out];(with_reducible refine HC.mono ?_);rintro e w1 ⟨q,cc,U,rfl,hps1,hun1,hb1⟩)
 have hbx1:=(hb1.block _ (lt_of_block hbox)).trans hbox
 have H1:Hid (PsAt w1 q p.np p.P U∧Below wb.heap.size wb w1∧w1.heap[w.heap.size]? =some (.cells #[.int .i64 p.ki,.slice v.pp p.np v.pc,.slice v.tp p.nq v.tc,.slice v.sp p.ns v.sc,.int .u64 p.sd,.int .u64 p.lk,.int .u64 p.en,.int .i64 p.bu,.int .i64 p.fu] 27 (0,0))):=⟨hps1,hb1,hbx1⟩
 have HUN:Hid (UNew wb.heap.size p.np p.P U∧wb.heap.size≤w1.heap.size):=⟨hun1,hb1.size⟩
 clear c0 c1 c2 c3 c4 c5 c6 c7 c8 hps1 hb1 HC hun1
 obtain ⟨⟨c0,c1,c2,c3⟩,c4,c5,c6,c7,c8⟩:=cells9 hbx1
 clear hbx1 hbox
 go_wp2_with (at_make;refine wpList_make_full _ rfl (.tmp 12) (.tmp 12) 22 rfl w1.heap.size 103 iP _ 4 Tryz.underlying22 hP1 hP2 hP3 .i64 .i64 p.nq p.nq p.nq rfl rfl rfl rfl ?c1 ?c2 ?c3 ?_)
 case c1=>rw [hP4];omega
 case c2=>unfold maxLen;omega
 case c3=>exact Nat.le_refl _
 intro w2 hown hgrow
 have hb2:Below w1.heap.size w1 w2:=(Below.refl _ _).grown hgrow (Nat.le_refl _) (by simp)
 obtain ⟨g,hg⟩: ∃g,w1.heap.size=g:=⟨_,rfl⟩
 rw [hg] at hown hb2
 have hrow:PRow w2 g g p.nq p.nq (fun _=>⟨0,0,0,fun _=>0,fun _=>0,fun _=>0,0,fun _=>0⟩) (fun _=>⟨none,0,none,0⟩):=(own_of_row hown).congr fun j hj=>mdP p.nq j hj
 have hbx2:=(hb2.block w.heap.size (by rw [←hg];exact lt_of_block H1.out.2.2)).trans H1.out.2.2
 have H2:Hid (PRow w2 g g p.nq p.nq (fun _=>⟨0,0,0,fun _=>0,fun _=>0,fun _=>0,0,fun _=>0⟩) (fun _=>⟨none,0,none,0⟩)∧Below g w1 w2∧w1.heap.size=g):=⟨hrow,hb2,hg⟩
 clear c0 c1 c2 c3 c4 c5 c6 c7 c8 hown hgrow hrow hb2
 obtain ⟨⟨c0,c1,c2,c3⟩,c4,c5,c6,c7,c8⟩:=cells9 hbx2
 rw [hg]
 clear hbx2 hg
 go_wp2_with fail
 clear c0 c1 c2 c3 c4 c5 c6 c7 c8
 go_loopw [17] (fun x wr=> ∃(i:Nat) (Q:Nat→Pg) (T:Nat→PgV),x=.int .i64 (i:Int)∧i≤p.nq∧PRow wr g g p.nq p.nq Q T∧(∀j,j<i→Q j=p.P (p.pr j).toNat∧T j=U (p.pr j).toNat)∧Below g w1 wr) (fun x _=>p.nq-(intOf x).toNat)
 case atStart=>exact ⟨0,_,_,rfl,Nat.zero_le _,H2.out.1,fun j hj=>absurd hj (Nat.not_lt_zero _),H2.out.2.1⟩
 case round=>
  obtain ⟨i,Q,T,rfl,hi,hrow,hqt,hb⟩:=hrel
  have hgs:=H2.out.2.2
  have hb1':Below w1.heap.size w1 wr:=by rw [hgs];exact hb
  by_cases hlt:i<p.nq
  case pos=>
   have dlt:decide ((i:Int)<(p.nq:Int))=true:=by simp;omega
   have i0:(0:Int)≤(i:Int):=by omega
   have i1:(i:Int)<(p.nq:Int):=by omega
   have ei:IntKind.i64.wrap ((i:Int)+1)=(i:Int)+1:=by rw [IntKind.wrap_i64];omega
   have hme:=meas hlt
   have hbw:Below wb.heap.size wb wr:=H1.out.2.1.trans (hb1'.mono H1.out.2.1.size)
   obtain hz|⟨gt,ot,hpp,hl,hc,hpa⟩:=(HP.out.1.below hbw).ts
   ·omega
   obtain ⟨y0,y1⟩:=hc i hlt
   obtain ⟨hr0,hr1,_⟩:=HP.out.2.1.2 i hlt
   obtain ⟨pn,hpn⟩: ∃pn:Nat,p.pr i=(pn:Int):=⟨(p.pr i).toNat,by omega⟩
   have hpl:pn<p.np:=by omega
   have j0:(0:Int)≤(pn:Int):=by omega
   have j1:(pn:Int)<(p.np:Int):=by omega
   rw [hpn] at y0
   obtain hz|⟨gq,oq,hqe,hlq,hcq,hpq⟩:=H1.out.1.below hb1'
   ·omega
   obtain ⟨z0,z1,z2,z3⟩:=hcq pn hpl
   have hgl:=hrow.lt
   have k0:=hrow.cells hlt
   obtain ⟨k0,k1,k2,k3⟩:=k0
   have f0:=hrow.fz (i*4)
   have f1:=hrow.fz (i*4+1)
   have f2:=hrow.fz (i*4+2)
   have f3:=hrow.fz (i*4+3)
   have hn1:wr.heap.size≠g:=by omega
   have HA:Hid (PRow wr g g p.nq p.nq Q T∧(∀j,j<i→Q j=p.P (p.pr j).toNat∧T j=U (p.pr j).toNat)∧Below g w1 wr∧p.pr i=(pn:Int)):=⟨hrow,hqt,hb,hpn⟩
   subst hqe
   rw [hpp]
   clear hrow hqt hb hb1' hbw hc hpa hl hpp hcq hpq hr0 hr1 hpn hgs
   go_wp2_with fail
   obtain ⟨a1,a2,a3,a4⟩:=HA.out
   have hput:=a1.put4 i (p.P pn) (U pn)
   have hba:Below (wr.setCells g (i*4) (pgL (p.P pn) (U pn))).heap.size (wr.setCells g (i*4) (pgL (p.P pn) (U pn))) ((wr.setCells g (i*4) (pgL (p.P pn) (U pn))).alloc (.cells #[.int .i64 (pn:Int),.slice (v.wp i) (p.nw i) (v.wc i)] 106)):=(Below.refl _ _).alloc (Nat.le_refl _) _
   have hbs:Below g w1 (wr.setCells g (i*4) (pgL (p.P pn) (U pn))):=setCells_below _ _ _ a3 (Nat.le_refl _)
   have hzs:(wr.setCells g (i*4) (pgL (p.P pn) (U pn))).heap.size=wr.heap.size:=setCells_size _ _ _ _
   refine ⟨⟨i+1,setS Q i (p.P pn),setS T i (U pn),rfl,hlt,Own.later hput hba,fun j hj=> ?_,hbs.trans (hba.mono (by omega))⟩,hme⟩
   unfold setS
   by_cases e:j=i
   ·rw [if_pos e,if_pos e,e,a4]
    exact ⟨rfl,rfl⟩
   ·rw [if_neg e,if_neg e]
    exact a2 j (by omega)
  have dlt:decide ((i:Int)<(p.nq:Int))=false:=by simp;omega
  obtain rfl:i=p.nq:=by omega
  have hps:PsAt wr (some ⟨g,0,none⟩) p.nq (fun j=>p.P (p.pr j).toNat) (fun j=>U (p.pr j).toNat):=by
   have ho:Own wr g 103 4 (.slice (some ⟨g,0,none⟩) p.nq p.nq) p.nq (pgF (fun j=>p.P (p.pr j).toNat) (fun j=>U (p.pr j).toNat)):=Own.congr hrow fun x hx=>by
    unfold pgF
    rw [(hqt (x / 4) (by omega)).1,(hqt (x / 4) (by omega)).2]
   obtain ⟨q',c'',e4,h5⟩:=own_ps ho (fun j hj=>by
    obtain ⟨hr0,hr1,_⟩:=HP.out.2.1.2 j hj
    obtain hz|⟨gq,oq,hqe,hlq,hcq,hpq⟩:=H1.out.1.below hb1'
    ·omega
    ·exact hpq (p.pr j).toNat (by omega))
   injection e4 with e5 e6 e7
   subst e5
   exact h5
  have hbw:Below w.heap.size w wr:=(HP.out.2.2.trans (H1.out.2.1.mono HP.out.2.2.size)).trans (hb1'.mono (Nat.le_trans HP.out.2.2.size H1.out.2.1.size))
  have HF:Hid (PsAt wr (some ⟨g,0,none⟩) p.nq (fun j=>p.P (p.pr j).toNat) (fun j=>U (p.pr j).toNat)∧(∀g' o,(some ⟨g,0,none⟩:Option Addr)=some ⟨g',o,none⟩→w.heap.size≤g')∧UNew w.heap.size p.nq (fun j=>p.P (p.pr j).toNat) (fun j=>U (p.pr j).toNat)∧Below w.heap.size w wr):=⟨hps,fun g' o e=>by injection e with e;injection e with e1 e2 e3;have:=H2.out.2.2;have:=HUN.out.2;have:=HP.out.2.2.size;omega,fun j hj=>by
   obtain ⟨hr0,hr1,_⟩:=HP.out.2.1.2 j hj
   have h9:=HUN.out.1 (p.pr j).toNat (by omega)
   have h8:=HP.out.2.2.size
   exact ⟨fun g' o e h0=>Nat.le_trans h8 (h9.1 g' o e h0),fun g' o e h0=>Nat.le_trans h8 (h9.2 g' o e h0)⟩,hbw⟩
  clear hrow hqt hb hps hbw hb1' hgs
  go_wp2_with fail
  go_ret
  exact ⟨_,_,_,rfl,HF.out⟩
end Go.Proofs.YtecgecpgmpmkoaaGreat
namespace Go.Proofs.YtecgecpgmpmkoaaGreat
open Go.ChangeShapes Go.WideShapes Go.ChangeAt Go.RowKit
set_option linter.unusedVariables false
set_option linter.unusedSimpArgs false
set_option maxRecDepth 100000 in
set_option maxHeartbeats 8000000 in
theorem simGo_new (p:Pl) (v:PlV) (o:Pn) (u:PnV) (w:World) (h:PlAt w p v) (hr:RoomyL p) (hT:GT p) (ho:PnAt w o u) (hn:RoomyN o) (hq0:o.n=p.nq) (hw0: ∀j,j<p.nq→(o.A j).n=p.nw j) (hhp:Hp o.m o.X) (hin:Inj o.m o.X) (hnb:o.m+16*(4096-o.l)≤2932031007402):
  Calls Tryz.prog 61 #[.agg #[.int .i64 p.ki,.slice v.pp p.np v.pc,.slice v.tp p.nq v.tc,.slice v.sp p.ns v.sc,.int .u64 p.sd,.int .u64 p.lk,.int .u64 p.en,.int .i64 p.bu,.int .i64 p.fu],.agg #[.slice u.q o.n u.c,.slice u.q2 o.m u.c2,.slice u.q3 o.l u.c3]] w fun e w'=> ∃(sb:Nat) (R:Rv),e=.returned (.pointer (some ⟨sb,0,none⟩))∧SimR w' w.heap.size sb p (abO o) R∧(∀k,k<w.heap.size→Av p R sb k)∧Below w.heap.size w w':=by
 have HPRE:Hid (o.n=p.nq∧(∀j,j<p.nq→(o.A j).n=p.nw j)∧Hp o.m o.X∧Inj o.m o.X∧o.m+16*(4096-o.l)≤2932031007402):=⟨hq0,hw0,hhp,hin,hnb⟩
 clear hq0 hw0 hhp hin hnb
 obtain ⟨wb,hwb⟩: ∃wb,(w.alloc (.cells #[.int .i64 p.ki,.slice v.pp p.np v.pc,.slice v.tp p.nq v.tc,.slice v.sp p.ns v.sc,.int .u64 p.sd,.int .u64 p.lk,.int .u64 p.en,.int .i64 p.bu,.int .i64 p.fu] 27)).alloc (.cells #[.slice u.q o.n u.c,.slice u.q2 o.m u.c2,.slice u.q3 o.l u.c3] 47)=wb:=⟨_,rfl⟩
 have hb0:Below w.heap.size w wb:=by rw [←hwb];exact ((Below.refl _ w).alloc (Nat.le_refl _) _).alloc (by simp) _
 have hbox:wb.heap[w.heap.size]? =some (.cells #[.int .i64 p.ki,.slice v.pp p.np v.pc,.slice v.tp p.nq v.tc,.slice v.sp p.ns v.sc,.int .u64 p.sd,.int .u64 p.lk,.int .u64 p.en,.int .i64 p.bu,.int .i64 p.fu] 27 (0,0)):=by
  rw [←hwb,Below.heap_alloc _ _ _ (by simp)]
  exact World.alloc_heap_new w _
 have hbx2:wb.heap[w.heap.size+1]? =some (.cells #[.slice u.q o.n u.c,.slice u.q2 o.m u.c2,.slice u.q3 o.l u.c3] 47 (0,0)):=by
  rw [←hwb]
  have:=World.alloc_heap_new (w.alloc (.cells #[.int .i64 p.ki,.slice v.pp p.np v.pc,.slice v.tp p.nq v.tc,.slice v.sp p.ns v.sc,.int .u64 p.sd,.int .u64 p.lk,.int .u64 p.en,.int .i64 p.bu,.int .i64 p.fu] 27)) (.cells #[.slice u.q o.n u.c,.slice u.q2 o.m u.c2,.slice u.q3 o.l u.c3] 47)
  rwa [World.size_alloc] at this
 have HW:Hid ((w.alloc (.cells #[.int .i64 p.ki,.slice v.pp p.np v.pc,.slice v.tp p.nq v.tc,.slice v.sp p.ns v.sc,.int .u64 p.sd,.int .u64 p.lk,.int .u64 p.en,.int .i64 p.bu,.int .i64 p.fu] 27)).alloc (.cells #[.slice u.q o.n u.c,.slice u.q2 o.m u.c2,.slice u.q3 o.l u.c3] 47)=wb):=hwb
 obtain ⟨⟨A0,hA0,hS0⟩,hX0,hZ0⟩:=ho.below hb0
 have hp:=h.below hb0
 have HQ:Hid (SaEq o.n o.A A0∧Below w.heap.size w wb):=⟨hA0,hb0⟩
 have HC0: ∀W,Below wb.heap.size wb W→Hid (Calls Tryz.prog 106 #[.agg #[.int .i64 p.ki,.slice v.pp p.np v.pc,.slice v.tp p.nq v.tc,.slice v.sp p.ns v.sc,.int .u64 p.sd,.int .u64 p.lk,.int .u64 p.en,.int .i64 p.bu,.int .i64 p.fu]] W fun e w'=> ∃(q:Option Addr) (cc:Nat) (U:Nat→PgV),e=.returned (.slice q p.nq cc)∧PsAt w' q p.nq (fun j=>p.P (p.pr j).toNat) U∧(∀g o,q=some ⟨g,o,none⟩→W.heap.size≤g)∧UNew W.heap.size p.nq (fun j=>p.P (p.pr j).toNat) U∧Below W.heap.size W w'):=fun W hb=>programsOfParts_new p v W (hp.below hb) hr hT
 have HC1: ∀W,Below wb.heap.size wb W→Hid (Calls Tryz.prog 68 #[.slice u.q o.n u.c] W fun e w'=> ∃(q:Option Addr) (cc:Nat) (C:Nat→Sa),e=.returned (.slice q o.n cc)∧StRow w' W.heap.size (.slice q o.n cc) o.n C o.K∧SaEq o.n A0 C∧Below W.heap.size W w'):=fun W hb=>copiedStates_any u.q o.n u.c A0 o.K hn.n (fun j hj=>by rw [(hA0 j hj).1];exact hn.w j hj) W (hS0.below hb)
 have HC2: ∀W,Below wb.heap.size wb W→Hid (Calls Tryz.prog 70 #[.slice u.q2 o.m u.c2] W fun e w'=> ∃(q:Option Addr) (cc:Nat),e=.returned (.slice q o.m cc)∧Own w' W.heap.size 54 6 (.slice q o.m cc) o.m (seF o.X)∧Below W.heap.size W w'):=fun W hb=>cloneE_any u.q2 o.m u.c2 (seF o.X) W (by have:=hn.m;omega) (hX0.below hb).cin (fun j _=>seF_one _ j)
 have HC3: ∀W,Below wb.heap.size wb W→Hid (Calls Tryz.prog 70 #[.slice u.q3 o.l u.c3] W fun e w'=> ∃(q:Option Addr) (cc:Nat),e=.returned (.slice q o.l cc)∧Own w' W.heap.size 54 6 (.slice q o.l cc) o.l (seF o.Z)∧Below W.heap.size W w'):=fun W hb=>cloneE_any u.q3 o.l u.c3 (seF o.Z) W (by have:=hn.l;omega) (hZ0.below hb).cin (fun j _=>seF_one _ j)
 have hl1:=lt_of_block hbox
 have hl2:=lt_of_block hbx2
 have KK: ∀w',Below wb.heap.size wb w'→Hid (((w'.cell? ⟨w.heap.size,0,none⟩=some (.int .i64 p.ki)∧w'.cell? ⟨w.heap.size,1,none⟩=some (.slice v.pp p.np v.pc)∧w'.cell? ⟨w.heap.size,2,none⟩=some (.slice v.tp p.nq v.tc)∧w'.cell? ⟨w.heap.size,3,none⟩=some (.slice v.sp p.ns v.sc))∧w'.cell? ⟨w.heap.size,4,none⟩=some (.int .u64 p.sd)∧w'.cell? ⟨w.heap.size,5,none⟩=some (.int .u64 p.lk)∧w'.cell? ⟨w.heap.size,6,none⟩=some (.int .u64 p.en)∧w'.cell? ⟨w.heap.size,7,none⟩=some (.int .i64 p.bu)∧w'.cell? ⟨w.heap.size,8,none⟩=some (.int .i64 p.fu))∧w'.cell? ⟨w.heap.size+1,0,none⟩=some (.slice u.q o.n u.c)∧w'.cell? ⟨w.heap.size+1,1,none⟩=some (.slice u.q2 o.m u.c2)∧w'.cell? ⟨w.heap.size+1,2,none⟩=some (.slice u.q3 o.l u.c3)):=fun w' hb=>⟨cells9 ((hb.block _ hl1).trans hbox),cells3p ((hb.block _ hl2).trans hbx2)⟩
 have hbd:Below wb.heap.size wb wb.drew:=(Below.refl _ wb).drew
 have KP0:(((wb.drew.cell? ⟨w.heap.size,0,none⟩=some (.int .i64 p.ki)∧wb.drew.cell? ⟨w.heap.size,1,none⟩=some (.slice v.pp p.np v.pc)∧wb.drew.cell? ⟨w.heap.size,2,none⟩=some (.slice v.tp p.nq v.tc)∧wb.drew.cell? ⟨w.heap.size,3,none⟩=some (.slice v.sp p.ns v.sc))∧wb.drew.cell? ⟨w.heap.size,4,none⟩=some (.int .u64 p.sd)∧wb.drew.cell? ⟨w.heap.size,5,none⟩=some (.int .u64 p.lk)∧wb.drew.cell? ⟨w.heap.size,6,none⟩=some (.int .u64 p.en)∧wb.drew.cell? ⟨w.heap.size,7,none⟩=some (.int .i64 p.bu)∧wb.drew.cell? ⟨w.heap.size,8,none⟩=some (.int .i64 p.fu))∧wb.drew.cell? ⟨w.heap.size+1,0,none⟩=some (.slice u.q o.n u.c)∧wb.drew.cell? ⟨w.heap.size+1,1,none⟩=some (.slice u.q2 o.m u.c2)∧wb.drew.cell? ⟨w.heap.size+1,2,none⟩=some (.slice u.q3 o.l u.c3)):=(KK wb.drew hbd).out
 clear hwb h hr hT ho hn hb0 hbox hbx2 hA0 hS0 hX0 hZ0 hp hl1 hl2
 go_enter Tryz.func61,Tryz.ntmps61
 go_upto_region 1 with fail
 rw [HW.out]
 go_region_held3 (fun w'=>(((w'.cell? ⟨w.heap.size,0,none⟩=some (.int .i64 p.ki)∧w'.cell? ⟨w.heap.size,1,none⟩=some (.slice v.pp p.np v.pc)∧w'.cell? ⟨w.heap.size,2,none⟩=some (.slice v.tp p.nq v.tc)∧w'.cell? ⟨w.heap.size,3,none⟩=some (.slice v.sp p.ns v.sc))∧w'.cell? ⟨w.heap.size,4,none⟩=some (.int .u64 p.sd)∧w'.cell? ⟨w.heap.size,5,none⟩=some (.int .u64 p.lk)∧w'.cell? ⟨w.heap.size,6,none⟩=some (.int .u64 p.en)∧w'.cell? ⟨w.heap.size,7,none⟩=some (.int .i64 p.bu)∧w'.cell? ⟨w.heap.size,8,none⟩=some (.int .i64 p.fu))∧w'.cell? ⟨w.heap.size+1,0,none⟩=some (.slice u.q o.n u.c)∧w'.cell? ⟨w.heap.size+1,1,none⟩=some (.slice u.q2 o.m u.c2)∧w'.cell? ⟨w.heap.size+1,2,none⟩=some (.slice u.q3 o.l u.c3))) (first|with_reducible exact KP0|with_reducible exact KP1|with_reducible exact KP2|with_reducible exact KP3|with_reducible exact KP4|go_keep) (first|(go_at_call 106;(with_reducible refine (HC0 wb.drew hbd).out.mono ?_);rintro e w1 ⟨pq,pc,U,rfl,hs1,hpq1,hun1,hb1⟩;have hw1:Below wb.heap.size wb w1:=hbd.trans hb1;have KP1:=(KK w1 hw1).out;have H1:Hid (PsAt w1 pq p.nq (fun j=>p.P (p.pr j).toNat) U):=hs1;have HN1:Hid ((∀g o,pq=some ⟨g,o,none⟩→wb.heap.size≤g)∧UNew wb.heap.size p.nq (fun j=>p.P (p.pr j).toNat) U):=⟨hpq1,hun1⟩;clear hpq1 hun1;clear hs1 hb1)|(go_at_call 68;(with_reducible refine (HC1 w1 hw1).out.mono ?_);rintro e w2 ⟨q1,c1,C,rfl,hs2,he2,hb2⟩;have hw2:Below wb.heap.size wb w2:=hw1.trans (hb2.mono hw1.size);have KP2:=(KK w2 hw2).out;have H2:Hid (StRow w2 w1.heap.size (.slice q1 o.n c1) o.n C o.K∧SaEq o.n A0 C∧Below w1.heap.size w1 w2):=⟨hs2,he2,hb2⟩;clear hs2 he2 hb2)|(go_at_call 70;(with_reducible refine (HC2 w2 hw2).out.mono ?_);rintro e w3 ⟨q2,c2,rfl,hs3,hb3⟩;have hw3:Below wb.heap.size wb w3:=hw2.trans (hb3.mono hw2.size);have KP3:=(KK w3 hw3).out;have H3:Hid (Own w3 w2.heap.size 54 6 (.slice q2 o.m c2) o.m (seF o.X)∧Below w2.heap.size w2 w3):=⟨hs3,hb3⟩;clear hs3 hb3)|(go_at_call 70;(with_reducible refine (HC3 w3 hw3).out.mono ?_);rintro e w4 ⟨q3,c3,rfl,hs4,hb4⟩;have hw4:Below wb.heap.size wb w4:=hw3.trans (hb4.mono hw3.size);have KP4:=(KK w4 hw4).out;have H4:Hid (Own w4 w3.heap.size 54 6 (.slice q3 o.l c3) o.l (seF o.Z)∧Below w3.heap.size w3 w4):=⟨hs4,hb4⟩;clear hs4 hb4))
 all_goals (
  go_wp2_with fail
  go_ret
  have h34:=H4.out.2
  have h24:Below w2.heap.size w2 w4:=H3.out.2.trans (h34.mono H3.out.2.size)
  have h14:Below w1.heap.size w1 w4:=H2.out.2.2.trans (h24.mono H2.out.2.2.size)
  have hbF:Below w4.heap.size w4 (w4.alloc (.cells #[.slice pq p.nq pc,.int .u64 p.lk,.int .u64 p.en,.int .i64 p.bu,.int .i64 p.fu,.slice q1 o.n c1,.slice q2 o.m c2,.slice q3 o.l c3,.int .i64 0] 125)):=(Below.refl _ w4).alloc (Nat.le_refl _) _
  have hbw:Below w.heap.size w w4:=HQ.out.2.trans (hw4.mono HQ.out.2.size)
  have hw1z:w.heap.size≤w1.heap.size:=(HQ.out.2.trans (hw1.mono HQ.out.2.size)).size
  obtain ⟨z1,z2,z3,z4,z5⟩:=HPRE.out
  have hsm:=sim_made hw1z H1.out H2.out.1 (HQ.out.1.trans H2.out.2.1) H2.out.2.2 H3.out.1 H3.out.2 H4.out.1 H4.out.2 hbF (World.alloc_heap_new w4 _) z1 z2 z3 z4 z5
  refine ⟨_,_,rfl,hsm,fun k hk=>⟨fun hM=> ?_,fun g o e hn=> ?_,fun j hj=>⟨fun g o e hn=> ?_,fun g o e hn=> ?_,fun g o e hn=> ?_⟩⟩,hbw.trans (hbF.mono hbw.size)⟩
  ·have:=(hsm.mu k hM).1;omega
  ·have:=HN1.out.1 g o e;have:=HQ.out.2.size;omega
  ·have:=(HN1.out.2 j hj).1 g o e hn;have:=HQ.out.2.size;omega
  ·have:=(HN1.out.2 j hj).2 g o e hn;have:=HQ.out.2.size;omega
  ·have:=((H2.out.1.wds j (by rw [z1];exact hj)).2 g o e).1;omega)
end Go.Proofs.YtecgecpgmpmkoaaGreat
namespace Go.Proofs.YtecgecpgmpmkoaaGreat
open Go.ChangeShapes Go.WideShapes Go.ChangeAt Go.RowKit
set_option linter.unusedVariables false
set_option linter.unusedSimpArgs false
theorem VC.gt {p:Pl} (h:VC p 0):GT p:=by
 unfold VC at h
 rcases h with ⟨_,h⟩|⟨_,⟨_,h⟩|⟨_,⟨_,h⟩|⟨hT,_⟩⟩⟩
 ·omega
 ·omega
 ·omega
 ·exact hT
set_option maxRecDepth 100000 in
set_option maxHeartbeats 8000000 in
theorem open_new (p:Pl) (v:PlV) (o:Pn) (u:PnV) (hr:RoomyL p) (hn:RoomyN o) (w:World) (h:PlAt w p v) (ho:PnAt w o u) (hv0:VC p 0) (hpf:PF p o) (hpre:(∀j,j<p.nq→(o.A j).n=p.nw j)∧Hp o.m o.X∧Inj o.m o.X∧o.m+16*(4096-o.l)≤2932031007402):
  Calls Tryz.prog 21 #[.agg #[.int .i64 p.ki,.slice v.pp p.np v.pc,.slice v.tp p.nq v.tc,.slice v.sp p.ns v.sc,.int .u64 p.sd,.int .u64 p.lk,.int .u64 p.en,.int .i64 p.bu,.int .i64 p.fu],.agg #[.slice u.q o.n u.c,.slice u.q2 o.m u.c2,.slice u.q3 o.l u.c3]] w fun e w'=> ∃(sb:Nat) (R:Rv),e=.returned (.tuple #[.pointer (some ⟨sb,0,none⟩),.int .i64 0])∧SimR w' w.heap.size sb p (abO o) R∧(∀k,k<w.heap.size→Av p R sb k)∧Below w.heap.size w w':=by
 obtain ⟨wb,hwb⟩: ∃wb,(w.alloc (.cells #[.int .i64 p.ki,.slice v.pp p.np v.pc,.slice v.tp p.nq v.tc,.slice v.sp p.ns v.sc,.int .u64 p.sd,.int .u64 p.lk,.int .u64 p.en,.int .i64 p.bu,.int .i64 p.fu] 27)).alloc (.cells #[.slice u.q o.n u.c,.slice u.q2 o.m u.c2,.slice u.q3 o.l u.c3] 47)=wb:=⟨_,rfl⟩
 have hb0:Below w.heap.size w wb:=by rw [←hwb];exact ((Below.refl _ w).alloc (Nat.le_refl _) _).alloc (by simp) _
 have hbox:wb.heap[w.heap.size]? =some (.cells #[.int .i64 p.ki,.slice v.pp p.np v.pc,.slice v.tp p.nq v.tc,.slice v.sp p.ns v.sc,.int .u64 p.sd,.int .u64 p.lk,.int .u64 p.en,.int .i64 p.bu,.int .i64 p.fu] 27 (0,0)):=by
  rw [←hwb,Below.heap_alloc _ _ _ (by simp)]
  exact World.alloc_heap_new w _
 have hbx2:wb.heap[w.heap.size+1]? =some (.cells #[.slice u.q o.n u.c,.slice u.q2 o.m u.c2,.slice u.q3 o.l u.c3] 47 (0,0)):=by
  rw [←hwb]
  have:=World.alloc_heap_new (w.alloc (.cells #[.int .i64 p.ki,.slice v.pp p.np v.pc,.slice v.tp p.nq v.tc,.slice v.sp p.ns v.sc,.int .u64 p.sd,.int .u64 p.lk,.int .u64 p.en,.int .i64 p.bu,.int .i64 p.fu] 27)) (.cells #[.slice u.q o.n u.c,.slice u.q2 o.m u.c2,.slice u.q3 o.l u.c3] 47)
  rwa [World.size_alloc] at this
 have HW:Hid ((w.alloc (.cells #[.int .i64 p.ki,.slice v.pp p.np v.pc,.slice v.tp p.nq v.tc,.slice v.sp p.ns v.sc,.int .u64 p.sd,.int .u64 p.lk,.int .u64 p.en,.int .i64 p.bu,.int .i64 p.fu] 27)).alloc (.cells #[.slice u.q o.n u.c,.slice u.q2 o.m u.c2,.slice u.q3 o.l u.c3] 47)=wb):=hwb
 have HP:Hid (PlAt wb p v∧PnAt wb o u∧Below w.heap.size w wb∧RoomyL p∧RoomyN o):=⟨h.below hb0,ho.below hb0,hb0,hr,hn⟩
 have HBX:Hid (wb.heap[w.heap.size]? =some (.cells #[.int .i64 p.ki,.slice v.pp p.np v.pc,.slice v.tp p.nq v.tc,.slice v.sp p.ns v.sc,.int .u64 p.sd,.int .u64 p.lk,.int .u64 p.en,.int .i64 p.bu,.int .i64 p.fu] 27 (0,0))∧wb.heap[w.heap.size+1]? =some (.cells #[.slice u.q o.n u.c,.slice u.q2 o.m u.c2,.slice u.q3 o.l u.c3] 47 (0,0))):=⟨hbox,hbx2⟩
 have HV:=valid_any p v wb (h.below hb0)
 obtain ⟨⟨c0,c1,c2,c3⟩,c4,c5,c6,c7,c8⟩:=cells9 hbox
 rw [←hwb] at c0 c1 c2 c3 c4 c5 c6 c7 c8
 clear hwb h ho hb0 hbox hbx2 hn hr
 go_enter Tryz.func21,Tryz.ntmps21
 go_upto_region 2 with (go_at_call 19;rw [HW.out];(with_reducible refine HV.mono ?_);rintro e w1 ⟨cd,rfl,hvc,hb1⟩)
 have hcd:=hvc.one hv0
 have H1:Hid (VC p cd∧Below wb.heap.size wb w1):=⟨hvc,hb1⟩
 clear hvc c0 c1 c2 c3 c4 c5 c6 c7 c8 HV
 subst hcd
 obtain ⟨⟨c0,c1,c2,c3⟩,c4,c5,c6,c7,c8⟩:=cells9 ((hb1.block _ (lt_of_block HBX.out.1)).trans HBX.out.1)
 obtain ⟨e0,e1,e2⟩:=cells3p ((hb1.block _ (lt_of_block HBX.out.2)).trans HBX.out.2)
 have HGT:Hid (GT p):=H1.out.1.gt
 have HF:=pointFits_any p v o u HGT.out.1 HP.out.2.2.2.2 w1 (HP.out.1.below hb1) (HP.out.2.1.below hb1)
 clear hb1
 have HFY:=calls_yes HF hpf
 have HPF:Hid (PF p o):=hpf
 clear hpf HF
 go_wp2_with (first|(go_at_call 60;(with_reducible refine HFY.mono ?_);rintro e w2 ⟨rfl,hb2⟩;have h12:Below wb.heap.size wb w2:=H1.out.2.trans (hb2.mono H1.out.2.size);clear c0 c1 c2 c3 c4 c5 c6 c7 c8 e0 e1 e2;obtain ⟨⟨c0,c1,c2,c3⟩,c4,c5,c6,c7,c8⟩:=cells9 ((h12.block _ (lt_of_block HBX.out.1)).trans HBX.out.1);obtain ⟨e0,e1,e2⟩:=cells3p ((h12.block _ (lt_of_block HBX.out.2)).trans HBX.out.2);have HGO:=simGo_new p v o u w2 (HP.out.1.below h12) HP.out.2.2.2.1 HGT.out (HP.out.2.1.below h12) HP.out.2.2.2.2 HPF.out.1.1 hpre.1 hpre.2.1 hpre.2.2.1 hpre.2.2.2)|(go_at_call 61;(with_reducible refine HGO.mono ?_);rintro e w3 ⟨sb,R,rfl,hsim,hnw,hb3⟩))
 go_ret2
 have h13:Below wb.heap.size wb w3:=h12.trans (hb3.mono h12.size)
 exact ⟨sb,R,rfl,hsim.lowerR (by have:=h12.size;have:=HP.out.2.2.1.size;omega),fun k hk=>hnw k (by have:=h12.size;have:=HP.out.2.2.1.size;omega),HP.out.2.2.1.trans (h13.mono HP.out.2.2.1.size)⟩
end Go.Proofs.YtecgecpgmpmkoaaGreat
