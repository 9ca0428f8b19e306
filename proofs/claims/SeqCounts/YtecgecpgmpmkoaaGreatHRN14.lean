import Derived.Test.YtecgecpgmpmkoaaGreatHRN12
namespace Go.Proofs.YtecgecpgmpmkoaaGreat
open Go.ChangeShapes Go.WideShapes Go.ChangeAt Go.RowKit
set_option linter.unusedVariables false
set_option linter.unusedSimpArgs false
def abO (o:Pn):Ab:=⟨o.K,fun j=>(o.A j).d,fun j=>(o.A j).s,InX o.m o.X,o.l,o.Z,0⟩
theorem sim_made {w w1 w2 w3 w4 wF:World} {p:Pl} {o:Pn} {pq:Option Addr} {pc:Nat} {U:Nat→PgV} {q1:Option Addr} {c1:Nat} {C:Nat→Sa} {q2:Option Addr} {c2:Nat} {q3:Option Addr} {c3:Nat} (b01:w.heap.size≤w1.heap.size) (h1:PsAt w1 pq p.nq (fun j=>p.P (p.pr j).toNat) U) (h2:StRow w2 w1.heap.size (.slice q1 o.n c1) o.n C o.K) (he:SaEq o.n o.A C) (b12:Below w1.heap.size w1 w2) (h3:Own w3 w2.heap.size 54 6 (.slice q2 o.m c2) o.m (seF o.X)) (b23:Below w2.heap.size w2 w3) (h4:Own w4 w3.heap.size 54 6 (.slice q3 o.l c3) o.l (seF o.Z)) (b34:Below w3.heap.size w3 w4) (b4:Below w4.heap.size w4 wF) (hbox:wF.heap[w4.heap.size]? =some (.cells #[.slice pq p.nq pc,.int .u64 p.lk,.int .u64 p.en,.int .i64 p.bu,.int .i64 p.fu,.slice q1 o.n c1,.slice q2 o.m c2,.slice q3 o.l c3,.int .i64 0] 125 (0,0))) (hq0:o.n=p.nq) (hw0: ∀j,j<p.nq→(o.A j).n=p.nw j) (hhp:Hp o.m o.X) (hin:Inj o.m o.X) (hnb:o.m+16*(4096-o.l)≤2932031007402):
  SimR wF w.heap.size w4.heap.size p (abO o) ⟨pq,pc,U,.slice q1 o.n c1,C,.slice q2 o.m c2,o.m,o.X,.slice q3 o.l c3⟩:=by
 have b24:Below w2.heap.size w2 w4:=b23.trans (b34.mono b23.size)
 have b14:Below w1.heap.size w1 w4:=b12.trans (b24.mono b12.size)
 have b3F:Below w3.heap.size w3 wF:=b34.trans (b4.mono b34.size)
 have b2F:Below w2.heap.size w2 wF:=b24.trans (b4.mono b24.size)
 have b1F:Below w1.heap.size w1 wF:=b14.trans (b4.mono b14.size)
 have z12:=b12.size
 have z23:=b23.size
 have z34:=b34.size
 have s1:=Own.lt h2.row
 have s2:=Own.lt h3
 have s3:=Own.lt h4
 have hst:=h2.later b2F
 rw [hq0] at hst he
 have hmu: ∀k,Mu w4.heap.size ⟨pq,pc,U,.slice q1 o.n c1,C,.slice q2 o.m c2,o.m,o.X,.slice q3 o.l c3⟩ k→w1.heap.size≤k:=fun k hk=>by
  rcases hk with rfl|hk|hk|hk
  ·omega
  ·exact (s1 k hk.symm).1
  ·have:=(s2 k hk.symm).1
   omega
  ·have:=(s3 k hk.symm).1
   omega
 have hpl:=h1.lt0
 refine ⟨hbox,by omega,h1.below b1F,?_,fun j hj=> ?_,(h3.later b3F).lower (by omega),(h4.later b4).lower (by omega),hhp,hin,fun x=>Iff.rfl,hnb,fun e=> ?_,fun e=> ?_,fun e=> ?_,fun k hk=>⟨fun e=> ?_,fun e=> ?_⟩,fun k hk e=> ?_,fun g o9 e hn e9=> ?_,fun j hj=>⟨fun g o9 e hn e9=> ?_,fun g o9 e hn e9=> ?_,fun g o9 e hn e9=> ?_⟩⟩
 ·rw [hq0]
  exact hst.row.lower b01
 ·obtain ⟨e1,e2,e3⟩:=he j hj
  have hk:=(hst.wds j hj).1
  have hnn:=e1.trans (hw0 j hj)
  rw [hnn] at hk
  refine ⟨⟨hnn,e2,e3⟩,hk,fun e=>⟨?_,trivial⟩⟩
  rcases hk with hz|⟨g,o9,e9,_⟩
  ·exact hz
  ·rw [show (C j).p=none from e] at e9
   cases e9
 ·have:=s1 _ e;omega
 ·have:=s2 _ e;omega
 ·have:=s3 _ e;omega
 ·have:=s1 _ hk;have:=s2 _ e;omega
 ·have:=s1 _ hk;have:=s3 _ e;omega
 ·have:=s2 _ hk;have:=s3 _ e;omega
 ·have:=(hpl hn).1 g o9 e
  have:=hmu g e9
  omega
 ·have:=((hpl (by omega)).2 j hj).1.lt0 hn g o9 e
  have:=hmu g e9
  omega
 ·have:=((hpl (by omega)).2 j hj).2.lt0 hn g o9 e
  have:=hmu g e9
  omega
 ·obtain ⟨a1,a2,a3⟩:=(h2.wds j (by omega)).2 g o9 e
  rcases e9 with e9|e9|e9|e9
  ·omega
  ·exact a3 e9
  ·have:=s2 _ e9.symm;omega
  ·have:=s3 _ e9.symm;omega
set_option maxRecDepth 100000 in
set_option maxHeartbeats 8000000 in
theorem simGo_any (p:Pl) (v:PlV) (o:Pn) (u:PnV) (w:World) (h:PlAt w p v) (hr:RoomyL p) (hT:GT p) (ho:PnAt w o u) (hn:RoomyN o) (hq0:o.n=p.nq) (hw0: ∀j,j<p.nq→(o.A j).n=p.nw j) (hhp:Hp o.m o.X) (hin:Inj o.m o.X) (hnb:o.m+16*(4096-o.l)≤2932031007402):
  Calls Tryz.prog 61 #[.agg #[.int .i64 p.ki,.slice v.pp p.np v.pc,.slice v.tp p.nq v.tc,.slice v.sp p.ns v.sc,.int .u64 p.sd,.int .u64 p.lk,.int .u64 p.en,.int .i64 p.bu,.int .i64 p.fu],.agg #[.slice u.q o.n u.c,.slice u.q2 o.m u.c2,.slice u.q3 o.l u.c3]] w fun e w'=> ∃(sb:Nat) (R:Rv),e=.returned (.pointer (some ⟨sb,0,none⟩))∧SimR w' w.heap.size sb p (abO o) R∧Below w.heap.size w w':=by
 have HPRE:Hid (o.n=p.nq∧(∀j,j<p.nq→(o.A j).n=p.nw j)∧Hp o.m o.X∧Inj o.m o.X∧o.m+16*(4096-o.l)≤2932031007402):=⟨hq0,hw0,hhp,hin,hnb⟩
 clear hq0 hw0 hhp hin hnb
 obtain ⟨wb,hwb⟩: ∃wb,(w.alloc (.cells #[.int .i64 p.ki,.slice v.pp p.np v.pc,.slice v.tp p.nq v.tc,.slice v.sp p.ns v.sc,.int .u64 p.sd,.int .u64 p.lk,.int .u64 p.en,.int .i64 p.bu,.int .i64 p.fu] 27)).alloc (.cells #[.slice u.q o.n u.c,.slice u.q2 o.m u.c2,.slice u.q3 o.l u.c3] 47)=wb:=⟨_,rfl⟩
 have hb0:Below w.heap.size w wb:=by rw [←hwb];exact ((Below.refl _ w).alloc (Nat.le_refl _) _).alloc (by simp) _
 have hbox:wb.heap[w.heap.size]? =some (.cells #[.int .i64 p.ki,.slice v.pp p.np v.pc,.slice v.tp p.nq v.tc,.slice v.sp p.ns v.sc,.int .u64 p.sd,.int .u64 p.lk,.int .u64 p.en,.int .i64 p.bu,.int .i64 p.fu] 27 (0,0)):=by
  rw [←hwb,Below.heap_alloc _ _ _ (by simp)]
  exact World.alloc_heap_new w _
 have hbx2:wb.heap[w.heap.size+1]? =some (.cells #[.slice u.q o.n u.c,.slice u.q2 o.m u.c2,.slice u.q3 o.l u.c3] 47 (0,0)):=by
  rw [←hwb]
  have:=World.alloc_heap_new (w.alloc (.cells #[.int .i64 p.ki,.slice v.pp p.np v.pc,.slice v.tp p.nq v.tc,.slice v.sp p.ns v.sc,.int .u64 p.sd,.int .u64 p.lk,.int .u64 p.en,.int .i64 p.bu,.int .i64 p.fu] 27)) (.cells #[.slice u.q o.n u.c,.slice u.q2 o.m u.c2,.slice u.q3 o.l u.c3] 47)
  rwa [World.size_alloc] at this
 have HW:Hid ((w.alloc (.cells #[.int .i64 p.ki,.slice v.pp p.np v.pc,.slice v.tp p.nq v.tc,.slice v.sp p.ns v.sc,.int .u64 p.sd,.int .u64 p.lk,.int .u64 p.en,.int .i64 p.bu,.int .i64 p.fu] 27)).alloc (.cells #[.slice u.q o.n u.c,.slice u.q2 o.m u.c2,.slice u.q3 o.l u.c3] 47)=wb):=hwb
 obtain ⟨⟨A0,hA0,hS0⟩,hX0,hZ0⟩:=ho.below hb0
 have hp:=h.below hb0
 have HQ:Hid (SaEq o.n o.A A0∧Below w.heap.size w wb):=⟨hA0,hb0⟩
 have HC0: ∀W,Below wb.heap.size wb W→Hid (Calls Tryz.prog 106 #[.agg #[.int .i64 p.ki,.slice v.pp p.np v.pc,.slice v.tp p.nq v.tc,.slice v.sp p.ns v.sc,.int .u64 p.sd,.int .u64 p.lk,.int .u64 p.en,.int .i64 p.bu,.int .i64 p.fu]] W fun e w'=> ∃(q:Option Addr) (cc:Nat) (U:Nat→PgV),e=.returned (.slice q p.nq cc)∧PsAt w' q p.nq (fun j=>p.P (p.pr j).toNat) U∧Below W.heap.size W w'):=fun W hb=>programsOfParts_any p v W (hp.below hb) hr hT
 have HC1: ∀W,Below wb.heap.size wb W→Hid (Calls Tryz.prog 68 #[.slice u.q o.n u.c] W fun e w'=> ∃(q:Option Addr) (cc:Nat) (C:Nat→Sa),e=.returned (.slice q o.n cc)∧StRow w' W.heap.size (.slice q o.n cc) o.n C o.K∧SaEq o.n A0 C∧Below W.heap.size W w'):=fun W hb=>copiedStates_any u.q o.n u.c A0 o.K hn.n (fun j hj=>by rw [(hA0 j hj).1];exact hn.w j hj) W (hS0.below hb)
 have HC2: ∀W,Below wb.heap.size wb W→Hid (Calls Tryz.prog 70 #[.slice u.q2 o.m u.c2] W fun e w'=> ∃(q:Option Addr) (cc:Nat),e=.returned (.slice q o.m cc)∧Own w' W.heap.size 54 6 (.slice q o.m cc) o.m (seF o.X)∧Below W.heap.size W w'):=fun W hb=>cloneE_any u.q2 o.m u.c2 (seF o.X) W (by have:=hn.m;omega) (hX0.below hb).cin (fun j _=>seF_one _ j)
 have HC3: ∀W,Below wb.heap.size wb W→Hid (Calls Tryz.prog 70 #[.slice u.q3 o.l u.c3] W fun e w'=> ∃(q:Option Addr) (cc:Nat),e=.returned (.slice q o.l cc)∧Own w' W.heap.size 54 6 (.slice q o.l cc) o.l (seF o.Z)∧Below W.heap.size W w'):=fun W hb=>cloneE_any u.q3 o.l u.c3 (seF o.Z) W (by have:=hn.l;omega) (hZ0.below hb).cin (fun j _=>seF_one _ j)
 have hl1:=lt_of_block hbox
 have hl2:=lt_of_block hbx2
 have KK: ∀w',Below wb.heap.size wb w'→Hid (((w'.cell? ⟨w.heap.size,0,none⟩=some (.int .i64 p.ki)∧w'.cell? ⟨w.heap.size,1,none⟩=some (.slice v.pp p.np v.pc)∧w'.cell? ⟨w.heap.size,2,none⟩=some (.slice v.tp p.nq v.tc)∧w'.cell? ⟨w.heap.size,3,none⟩=some (.slice v.sp p.ns v.sc))∧w'.cell? ⟨w.heap.size,4,none⟩=some (.int .u64 p.sd)∧w'.cell? ⟨w.heap.size,5,none⟩=some (.int .u64 p.lk)∧w'.cell? ⟨w.heap.size,6,none⟩=some (.int .u64 p.en)∧w'.cell? ⟨w.heap.size,7,none⟩=some (.int .i64 p.bu)∧w'.cell? ⟨w.heap.size,8,none⟩=some (.int .i64 p.fu))∧w'.cell? ⟨w.heap.size+1,0,none⟩=some (.slice u.q o.n u.c)∧w'.cell? ⟨w.heap.size+1,1,none⟩=some (.slice u.q2 o.m u.c2)∧w'.cell? ⟨w.heap.size+1,2,none⟩=some (.slice u.q3 o.l u.c3)):=fun w' hb=>⟨cells9 ((hb.block _ hl1).trans hbox),cells3p ((hb.block _ hl2).trans hbx2)⟩
 have hbd:Below wb.heap.size wb wb.drew:=(Below.refl _ wb).drew
 have KP0:(((wb.drew.cell? ⟨w.heap.size,0,none⟩=some (.int .i64 p.ki)∧wb.drew.cell? ⟨w.heap.size,1,none⟩=some (.slice v.pp p.np v.pc)∧wb.drew.cell? ⟨w.heap.size,2,none⟩=some (.slice v.tp p.nq v.tc)∧wb.drew.cell? ⟨w.heap.size,3,none⟩=some (.slice v.sp p.ns v.sc))∧wb.drew.cell? ⟨w.heap.size,4,none⟩=some (.int .u64 p.sd)∧wb.drew.cell? ⟨w.heap.size,5,none⟩=some (.int .u64 p.lk)∧wb.drew.cell? ⟨w.heap.size,6,none⟩=some (.int .u64 p.en)∧wb.drew.cell? ⟨w.heap.size,7,none⟩=some (.int .i64 p.bu)∧wb.drew.cell? ⟨w.heap.size,8,none⟩=some (.int .i64 p.fu))∧wb.drew.cell? ⟨w.heap.size+1,0,none⟩=some (.slice u.q o.n u.c)∧wb.drew.cell? ⟨w.heap.size+1,1,none⟩=some (.slice u.q2 o.m u.c2)∧wb.drew.cell? ⟨w.heap.size+1,2,none⟩=some (.slice u.q3 o.l u.c3)):=(KK wb.drew hbd).out
 clear hwb h hr hT ho hn hb0 hbox hbx2 hA0 hS0 hX0 hZ0 hp hl1 hl2
 go_enter Tryz.func61,Tryz.ntmps61
 go_upto_region 1 with fail
 rw [HW.out]
 go_region_held3 (fun w'=>(((w'.cell? ⟨w.heap.size,0,none⟩=some (.int .i64 p.ki)∧w'.cell? ⟨w.heap.size,1,none⟩=some (.slice v.pp p.np v.pc)∧w'.cell? ⟨w.heap.size,2,none⟩=some (.slice v.tp p.nq v.tc)∧w'.cell? ⟨w.heap.size,3,none⟩=some (.slice v.sp p.ns v.sc))∧w'.cell? ⟨w.heap.size,4,none⟩=some (.int .u64 p.sd)∧w'.cell? ⟨w.heap.size,5,none⟩=some (.int .u64 p.lk)∧w'.cell? ⟨w.heap.size,6,none⟩=some (.int .u64 p.en)∧w'.cell? ⟨w.heap.size,7,none⟩=some (.int .i64 p.bu)∧w'.cell? ⟨w.heap.size,8,none⟩=some (.int .i64 p.fu))∧w'.cell? ⟨w.heap.size+1,0,none⟩=some (.slice u.q o.n u.c)∧w'.cell? ⟨w.heap.size+1,1,none⟩=some (.slice u.q2 o.m u.c2)∧w'.cell? ⟨w.heap.size+1,2,none⟩=some (.slice u.q3 o.l u.c3))) (first|with_reducible exact KP0|with_reducible exact KP1|with_reducible exact KP2|with_reducible exact KP3|with_reducible exact KP4|go_keep) (first|(go_at_call 106;(with_reducible refine (HC0 wb.drew hbd).out.mono ?_);rintro e w1 ⟨pq,pc,U,rfl,hs1,hb1⟩;have hw1:Below wb.heap.size wb w1:=hbd.trans hb1;have KP1:=(KK w1 hw1).out;have H1:Hid (PsAt w1 pq p.nq (fun j=>p.P (p.pr j).toNat) U):=hs1;clear hs1 hb1)|(go_at_call 68;(with_reducible refine (HC1 w1 hw1).out.mono ?_);rintro e w2 ⟨q1,c1,C,rfl,hs2,he2,hb2⟩;have hw2:Below wb.heap.size wb w2:=hw1.trans (hb2.mono hw1.size);have KP2:=(KK w2 hw2).out;have H2:Hid (StRow w2 w1.heap.size (.slice q1 o.n c1) o.n C o.K∧SaEq o.n A0 C∧Below w1.heap.size w1 w2):=⟨hs2,he2,hb2⟩;clear hs2 he2 hb2)|(go_at_call 70;(with_reducible refine (HC2 w2 hw2).out.mono ?_);rintro e w3 ⟨q2,c2,rfl,hs3,hb3⟩;have hw3:Below wb.heap.size wb w3:=hw2.trans (hb3.mono hw2.size);have KP3:=(KK w3 hw3).out;have H3:Hid (Own w3 w2.heap.size 54 6 (.slice q2 o.m c2) o.m (seF o.X)∧Below w2.heap.size w2 w3):=⟨hs3,hb3⟩;clear hs3 hb3)|(go_at_call 70;(with_reducible refine (HC3 w3 hw3).out.mono ?_);rintro e w4 ⟨q3,c3,rfl,hs4,hb4⟩;have hw4:Below wb.heap.size wb w4:=hw3.trans (hb4.mono hw3.size);have KP4:=(KK w4 hw4).out;have H4:Hid (Own w4 w3.heap.size 54 6 (.slice q3 o.l c3) o.l (seF o.Z)∧Below w3.heap.size w3 w4):=⟨hs4,hb4⟩;clear hs4 hb4))
 all_goals (
  go_wp2_with fail
  go_ret
  have h34:=H4.out.2
  have h24:Below w2.heap.size w2 w4:=H3.out.2.trans (h34.mono H3.out.2.size)
  have h14:Below w1.heap.size w1 w4:=H2.out.2.2.trans (h24.mono H2.out.2.2.size)
  have hbF:Below w4.heap.size w4 (w4.alloc (.cells #[.slice pq p.nq pc,.int .u64 p.lk,.int .u64 p.en,.int .i64 p.bu,.int .i64 p.fu,.slice q1 o.n c1,.slice q2 o.m c2,.slice q3 o.l c3,.int .i64 0] 125)):=(Below.refl _ w4).alloc (Nat.le_refl _) _
  have hbw:Below w.heap.size w w4:=HQ.out.2.trans (hw4.mono HQ.out.2.size)
  have hw1z:w.heap.size≤w1.heap.size:=(HQ.out.2.trans (hw1.mono HQ.out.2.size)).size
  obtain ⟨z1,z2,z3,z4,z5⟩:=HPRE.out
  exact ⟨_,_,rfl,sim_made hw1z H1.out H2.out.1 (HQ.out.1.trans H2.out.2.1) H2.out.2.2 H3.out.1 H3.out.2 H4.out.1 H4.out.2 hbF (World.alloc_heap_new w4 _) z1 z2 z3 z4 z5,hbw.trans (hbF.mono hbw.size)⟩)
end Go.Proofs.YtecgecpgmpmkoaaGreat
