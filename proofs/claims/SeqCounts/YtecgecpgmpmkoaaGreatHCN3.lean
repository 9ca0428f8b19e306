import Derived.Test.YtecgecpgmpmkoaaGreatHRN20
import Derived.Test.YtecgecpgmpmkoaaGreatHRN24a
import Derived.Test.YtecgecpgmpmkoaaGreatHCN2
import Derived.Test.YtecgecpgmpmkoaaGreatHOP9n
import Derived.BigQuiet
namespace Go.Proofs.YtecgecpgmpmkoaaGreat
open Go.ChangeShapes Go.WideShapes Go.ChangeAt Go.RowKit
set_option linter.unusedVariables false
set_option linter.unusedSimpArgs false
def saO (p:Pl) (A:Ab) (R:Rv):Nat→Sa:=fun j=>if j<p.nq then R.C j else ⟨none,p.nw j,0,A.d j,A.s j⟩
theorem saO_eq {W:World} {b0 sb:Nat} {p:Pl} {A:Ab} {R:Rv} (h:SimR W b0 sb p A R): ∀j,((saO p A R j).n=p.nw j∧(saO p A R j).d=A.d j∧(saO p A R j).s=A.s j):=fun j=>by
 unfold saO
 by_cases e:j<p.nq
 ·rw [if_pos e];exact (h.wd j e).1
 ·rw [if_neg e];exact ⟨rfl,rfl,rfl⟩
theorem SimR.atF {W:World} {b0 sb:Nat} {p:Pl} {A:Ab} {R:Rv} (h:SimR W b0 sb p A R):SimAtF W sb p ⟨p.nq,saO p A R,A.K,R.n,R.X,A.m,A.Z⟩ A.f:=by
 obtain ⟨q1,c1,e1⟩:=own_slice h.st
 obtain ⟨q2,c2,e2⟩:=own_slice h.q
 obtain ⟨q3,c3,e3⟩:=own_slice h.tr
 have hb:=h.box
 have hst:=h.st
 have hq:=h.q
 have htr:=h.tr
 rw [e1] at hst
 rw [e2] at hq
 rw [e3] at htr
 rw [e1,e2,e3] at hb
 obtain ⟨q1',c1',e9,hss⟩:=own_ss (K:=A.K) hst (fun j hj=>by rw [(h.wd j hj).1.1];exact (h.wd j hj).2.1)
 injection e9 with a b c
 subst a
 subst c
 exact ⟨R.pq,R.pc,R.U,⟨q1,c1,q2,c2,q3,c3⟩,hb,h.ps,⟨R.C,fun j hj=>by
  have e:saO p A R j=R.C j:=by unfold saO;rw [if_pos hj]
  show (R.C j).n=(saO p A R j).n∧(R.C j).d=(saO p A R j).d∧(R.C j).s=(saO p A R j).s
  rw [e]
  exact ⟨rfl,rfl,rfl⟩,hss⟩,own_sin0 hq,own_sin0 htr⟩
theorem SimR.roomyN {W:World} {b0 sb:Nat} {p:Pl} {A:Ab} {R:Rv} (h:SimR W b0 sb p A R) (ho:AOk2 p A) (hr:RoomyL p) (hT:GT p):RoomyN ⟨p.nq,saO p A R,A.K,R.n,R.X,A.m,A.Z⟩:=by
 have h1:=hT.1
 have h2:=h.nb
 have h3:=ho.m
 refine ⟨by show p.nq*40≤_;omega,fun j hj=>by show (saO p A R j).n≤_;rw [(saO_eq h j).1];exact hr.nw j hj,by show R.n≤_;omega,by show A.m≤_;omega⟩
theorem infoBB:(Tryz.prog.info? 4).map (fun i=>(i.zero,i.size,i.bytes))=some (some (.bool false),1,1):=by kernel_rfl
theorem infoLB:(Tryz.prog.info? 63).map (fun i=>(i.zero,i.size,i.bytes))=some (some (.slice none 0 0),1,24):=by kernel_rfl
theorem neBB:(4:TypeId)≠63:=by decide
theorem field_tr5 (a b c d e f:Int) (q1 q3:Option Addr) (n m c1 c3:Nat) (W:World):(Instr.field 37 (.agg #[.int .i64 a,.int .i64 b,.int .u64 c,.int .i64 d,.int .u64 e,.int .i64 f,.slice q1 n c1,.slice q3 m c3]) 5).run Tryz.prog W=.ok (.slice q3 m c3) W:=by kernel_rfl
set_option maxRecDepth 100000 in
set_option maxHeartbeats 4000000 in
theorem counts_bad (p:Pl) (v:PlV) (w:World) (h:PlAt w p v) (hr:RoomyL p) (c0:Int) (hc0:VC p c0) (hz:c0≠0):Calls Tryz.prog 5 #[.agg #[.int .i64 p.ki,.slice v.pp p.np v.pc,.slice v.tp p.nq v.tc,.slice v.sp p.ns v.sc,.int .u64 p.sd,.int .u64 p.lk,.int .u64 p.en,.int .i64 p.bu,.int .i64 p.fu]] w fun e w'=>e=.returned (.bool true)∧Below w.heap.size w w':=by
 obtain ⟨wb,hwb⟩: ∃wb,w.alloc (.cells #[.int .i64 p.ki,.slice v.pp p.np v.pc,.slice v.tp p.nq v.tc,.slice v.sp p.ns v.sc,.int .u64 p.sd,.int .u64 p.lk,.int .u64 p.en,.int .i64 p.bu,.int .i64 p.fu] 27)=wb:=⟨_,rfl⟩
 obtain ⟨hb0,hbox,hsz⟩:=boxed _ _ _ hwb
 have HH:Hid (w.alloc (.cells #[.int .i64 p.ki,.slice v.pp p.np v.pc,.slice v.tp p.nq v.tc,.slice v.sp p.ns v.sc,.int .u64 p.sd,.int .u64 p.lk,.int .u64 p.en,.int .i64 p.bu,.int .i64 p.fu] 27)=wb):=hwb
 have HA:=awake_any wb
 have HV: ∀W,Below wb.heap.size wb W→Hid (Calls Tryz.prog 19 #[.agg #[.int .i64 p.ki,.slice v.pp p.np v.pc,.slice v.tp p.nq v.tc,.slice v.sp p.ns v.sc,.int .u64 p.sd,.int .u64 p.lk,.int .u64 p.en,.int .i64 p.bu,.int .i64 p.fu]] W fun e w'=>e=.returned (.int .i64 c0)∧Below W.heap.size W w'):=fun W hb=>by
  refine (valid_any p v W ((h.below hb0).below hb)).mono ?_
  rintro e w' ⟨c,rfl,k1,k2⟩
  rw [k1.one hc0]
  exact ⟨rfl,k2⟩
 have KK: ∀W,Below wb.heap.size wb W→Hid (W.cell? ⟨w.heap.size,0,none⟩=some (.int .i64 p.ki)∧W.cell? ⟨w.heap.size,1,none⟩=some (.slice v.pp p.np v.pc)∧W.cell? ⟨w.heap.size,2,none⟩=some (.slice v.tp p.nq v.tc)∧W.cell? ⟨w.heap.size,3,none⟩=some (.slice v.sp p.ns v.sc)∧W.cell? ⟨w.heap.size,4,none⟩=some (.int .u64 p.sd)∧W.cell? ⟨w.heap.size,5,none⟩=some (.int .u64 p.lk)∧W.cell? ⟨w.heap.size,6,none⟩=some (.int .u64 p.en)∧W.cell? ⟨w.heap.size,7,none⟩=some (.int .i64 p.bu)∧W.cell? ⟨w.heap.size,8,none⟩=some (.int .i64 p.fu)):=fun W hb=>by
  have hx:=(hb.block _ (lt_of_block hbox)).trans hbox
  exact ⟨cell_in hx rfl,cell_in hx rfl,cell_in hx rfl,cell_in hx rfl,cell_in hx rfl,cell_in hx rfl,cell_in hx rfl,cell_in hx rfl,cell_in hx rfl⟩
 have HB:Hid (Below w.heap.size w wb∧wb.heap[w.heap.size]? =some (.cells #[.int .i64 p.ki,.slice v.pp p.np v.pc,.slice v.tp p.nq v.tc,.slice v.sp p.ns v.sc,.int .u64 p.sd,.int .u64 p.lk,.int .u64 p.en,.int .i64 p.bu,.int .i64 p.fu] 27 (0,0))):=⟨hb0,hbox⟩
 have q0:(c0 !=0)=true:=by simpa using hz
 have q1:(c0==0)=false:=by simpa using hz
 clear hwb hb0 hbox hsz h hc0 hz
 go_enter Tryz.func5,Tryz.ntmps5
 go_wp2_with (first|(go_at_call 18;rw [HH.out];(with_reducible refine HA.mono ?_);rintro e w1 ⟨rfl,hb1⟩;obtain ⟨f0,f1,f2,f3,f4,f5,f6,f7,f8⟩:=(KK w1 hb1).out)|(go_at_call 19;(with_reducible refine (HV w1 hb1).out.mono ?_);rintro e w1v ⟨rfl,hbv'⟩;have hbv:Below wb.heap.size wb w1v:=hb1.trans (hbv'.mono hb1.size);clear f0 f1 f2 f3 f4 f5 f6 f7 f8;obtain ⟨f0,f1,f2,f3,f4,f5,f6,f7,f8⟩:=(KK w1v hbv).out))
 go_ret
 exact ⟨rfl,HB.out.1.trans (hbv.mono HB.out.1.size)⟩
set_option maxRecDepth 100000 in
set_option maxHeartbeats 4000000 in
theorem counts_far (p:Pl) (v:PlV) (w:World) (h:PlAt w p v) (hr:RoomyL p) (hpl:PlOk p) (hn:150<p.bu):Calls Tryz.prog 5 #[.agg #[.int .i64 p.ki,.slice v.pp p.np v.pc,.slice v.tp p.nq v.tc,.slice v.sp p.ns v.sc,.int .u64 p.sd,.int .u64 p.lk,.int .u64 p.en,.int .i64 p.bu,.int .i64 p.fu]] w fun e w'=>e=.returned (.bool true)∧Below w.heap.size w w':=by
 obtain ⟨c0,hcc⟩: ∃c0:Int,c0=0:=⟨_,rfl⟩
 have hc0:VC p c0:=by rw [hcc];exact okVC hpl
 obtain ⟨wb,hwb⟩: ∃wb,w.alloc (.cells #[.int .i64 p.ki,.slice v.pp p.np v.pc,.slice v.tp p.nq v.tc,.slice v.sp p.ns v.sc,.int .u64 p.sd,.int .u64 p.lk,.int .u64 p.en,.int .i64 p.bu,.int .i64 p.fu] 27)=wb:=⟨_,rfl⟩
 obtain ⟨hb0,hbox,hsz⟩:=boxed _ _ _ hwb
 have HH:Hid (w.alloc (.cells #[.int .i64 p.ki,.slice v.pp p.np v.pc,.slice v.tp p.nq v.tc,.slice v.sp p.ns v.sc,.int .u64 p.sd,.int .u64 p.lk,.int .u64 p.en,.int .i64 p.bu,.int .i64 p.fu] 27)=wb):=hwb
 have HA:=awake_any wb
 have HV: ∀W,Below wb.heap.size wb W→Hid (Calls Tryz.prog 19 #[.agg #[.int .i64 p.ki,.slice v.pp p.np v.pc,.slice v.tp p.nq v.tc,.slice v.sp p.ns v.sc,.int .u64 p.sd,.int .u64 p.lk,.int .u64 p.en,.int .i64 p.bu,.int .i64 p.fu]] W fun e w'=>e=.returned (.int .i64 c0)∧Below W.heap.size W w'):=fun W hb=>by
  refine (valid_any p v W ((h.below hb0).below hb)).mono ?_
  rintro e w' ⟨c,rfl,k1,k2⟩
  rw [k1.one hc0]
  exact ⟨rfl,k2⟩
 have KK: ∀W,Below wb.heap.size wb W→Hid (W.cell? ⟨w.heap.size,0,none⟩=some (.int .i64 p.ki)∧W.cell? ⟨w.heap.size,1,none⟩=some (.slice v.pp p.np v.pc)∧W.cell? ⟨w.heap.size,2,none⟩=some (.slice v.tp p.nq v.tc)∧W.cell? ⟨w.heap.size,3,none⟩=some (.slice v.sp p.ns v.sc)∧W.cell? ⟨w.heap.size,4,none⟩=some (.int .u64 p.sd)∧W.cell? ⟨w.heap.size,5,none⟩=some (.int .u64 p.lk)∧W.cell? ⟨w.heap.size,6,none⟩=some (.int .u64 p.en)∧W.cell? ⟨w.heap.size,7,none⟩=some (.int .i64 p.bu)∧W.cell? ⟨w.heap.size,8,none⟩=some (.int .i64 p.fu)):=fun W hb=>by
  have hx:=(hb.block _ (lt_of_block hbox)).trans hbox
  exact ⟨cell_in hx rfl,cell_in hx rfl,cell_in hx rfl,cell_in hx rfl,cell_in hx rfl,cell_in hx rfl,cell_in hx rfl,cell_in hx rfl,cell_in hx rfl⟩
 have HB:Hid (Below w.heap.size w wb∧wb.heap[w.heap.size]? =some (.cells #[.int .i64 p.ki,.slice v.pp p.np v.pc,.slice v.tp p.nq v.tc,.slice v.sp p.ns v.sc,.int .u64 p.sd,.int .u64 p.lk,.int .u64 p.en,.int .i64 p.bu,.int .i64 p.fu] 27 (0,0))):=⟨hb0,hbox⟩
 subst hcc
 have d0:decide (p.bu>150)=true:=decide_eq_true hn
 have d1:decide (150<p.bu)=true:=decide_eq_true hn
 clear hwb hb0 hbox hsz h hc0 hn
 go_enter Tryz.func5,Tryz.ntmps5
 go_wp2_with (first|(go_at_call 18;rw [HH.out];(with_reducible refine HA.mono ?_);rintro e w1 ⟨rfl,hb1⟩;obtain ⟨f0,f1,f2,f3,f4,f5,f6,f7,f8⟩:=(KK w1 hb1).out)|(go_at_call 19;(with_reducible refine (HV w1 hb1).out.mono ?_);rintro e w1v ⟨rfl,hbv'⟩;have hbv:Below wb.heap.size wb w1v:=hb1.trans (hbv'.mono hb1.size);clear f0 f1 f2 f3 f4 f5 f6 f7 f8;obtain ⟨f0,f1,f2,f3,f4,f5,f6,f7,f8⟩:=(KK w1v hbv).out))
 go_ret
 exact ⟨rfl,HB.out.1.trans (hbv.mono HB.out.1.size)⟩
set_option maxRecDepth 100000 in
set_option maxHeartbeats 16000000 in
theorem counts_good (p:Pl) (v:PlV) (w:World) (h:PlAt w p v) (hr:RoomyL p) (hpl:PlOk p) (hn: ¬150<p.bu):Calls Tryz.prog 5 #[.agg #[.int .i64 p.ki,.slice v.pp p.np v.pc,.slice v.tp p.nq v.tc,.slice v.sp p.ns v.sc,.int .u64 p.sd,.int .u64 p.lk,.int .u64 p.en,.int .i64 p.bu,.int .i64 p.fu]] w fun e w'=>e=.returned (.bool true)∧Below w.heap.size w w':=by
 obtain ⟨c0,hcc⟩: ∃c0:Int,c0=0:=⟨_,rfl⟩
 have hc0:VC p c0:=by rw [hcc];exact okVC hpl
 obtain ⟨wb,hwb⟩: ∃wb,w.alloc (.cells #[.int .i64 p.ki,.slice v.pp p.np v.pc,.slice v.tp p.nq v.tc,.slice v.sp p.ns v.sc,.int .u64 p.sd,.int .u64 p.lk,.int .u64 p.en,.int .i64 p.bu,.int .i64 p.fu] 27)=wb:=⟨_,rfl⟩
 obtain ⟨hb0,hbox,hsz⟩:=boxed _ _ _ hwb
 have HH:Hid (w.alloc (.cells #[.int .i64 p.ki,.slice v.pp p.np v.pc,.slice v.tp p.nq v.tc,.slice v.sp p.ns v.sc,.int .u64 p.sd,.int .u64 p.lk,.int .u64 p.en,.int .i64 p.bu,.int .i64 p.fu] 27)=wb):=hwb
 have HA:=awake_any wb
 have HV: ∀W,Below wb.heap.size wb W→Hid (Calls Tryz.prog 19 #[.agg #[.int .i64 p.ki,.slice v.pp p.np v.pc,.slice v.tp p.nq v.tc,.slice v.sp p.ns v.sc,.int .u64 p.sd,.int .u64 p.lk,.int .u64 p.en,.int .i64 p.bu,.int .i64 p.fu]] W fun e w'=>e=.returned (.int .i64 c0)∧Below W.heap.size W w'):=fun W hb=>by
  refine (valid_any p v W ((h.below hb0).below hb)).mono ?_
  rintro e w' ⟨c,rfl,k1,k2⟩
  rw [k1.one hc0]
  exact ⟨rfl,k2⟩
 have KK: ∀W,Below wb.heap.size wb W→Hid (W.cell? ⟨w.heap.size,0,none⟩=some (.int .i64 p.ki)∧W.cell? ⟨w.heap.size,1,none⟩=some (.slice v.pp p.np v.pc)∧W.cell? ⟨w.heap.size,2,none⟩=some (.slice v.tp p.nq v.tc)∧W.cell? ⟨w.heap.size,3,none⟩=some (.slice v.sp p.ns v.sc)∧W.cell? ⟨w.heap.size,4,none⟩=some (.int .u64 p.sd)∧W.cell? ⟨w.heap.size,5,none⟩=some (.int .u64 p.lk)∧W.cell? ⟨w.heap.size,6,none⟩=some (.int .u64 p.en)∧W.cell? ⟨w.heap.size,7,none⟩=some (.int .i64 p.bu)∧W.cell? ⟨w.heap.size,8,none⟩=some (.int .i64 p.fu)):=fun W hb=>by
  have hx:=(hb.block _ (lt_of_block hbox)).trans hbox
  exact ⟨cell_in hx rfl,cell_in hx rfl,cell_in hx rfl,cell_in hx rfl,cell_in hx rfl,cell_in hx rfl,cell_in hx rfl,cell_in hx rfl,cell_in hx rfl⟩
 have HB:Hid (Below w.heap.size w wb∧wb.heap[w.heap.size]? =some (.cells #[.int .i64 p.ki,.slice v.pp p.np v.pc,.slice v.tp p.nq v.tc,.slice v.sp p.ns v.sc,.int .u64 p.sd,.int .u64 p.lk,.int .u64 p.en,.int .i64 p.bu,.int .i64 p.fu] 27 (0,0))):=⟨hb0,hbox⟩
 subst hcc
 have HF: ∀W,Below wb.heap.size wb W→Hid (Calls Tryz.prog 20 #[.agg #[.int .i64 p.ki,.slice v.pp p.np v.pc,.slice v.tp p.nq v.tc,.slice v.sp p.ns v.sc,.int .u64 p.sd,.int .u64 p.lk,.int .u64 p.en,.int .i64 p.bu,.int .i64 p.fu]] W fun e w'=> ∃q c q2 c2,e=.returned (.tuple #[.agg #[.slice q p.nq c,.slice q2 p.ns c2,.slice none 0 0],.int .i64 0])∧FP w' p q q2∧Below W.heap.size W w'):=fun W hb=>by
  refine (first_any p v W ((h.below hb0).below hb) hr).mono ?_
  rintro e w' ⟨c,k1,k2,⟨k3,k4⟩|⟨k3,q,c9,q2,c2,k4,k5⟩⟩
  ·exact absurd (k1.one hc0) k3
  ·exact ⟨q,c9,q2,c2,k4,k5,k2⟩
 have HR: ∀W,Below wb.heap.size wb W→Hid (Calls Tryz.prog 12 #[.agg #[.int .i64 p.ki,.slice v.pp p.np v.pc,.slice v.tp p.nq v.tc,.slice v.sp p.ns v.sc,.int .u64 p.sd,.int .u64 p.lk,.int .u64 p.en,.int .i64 p.bu,.int .i64 p.fu]] W fun r w'=> ∃(C:Ab) (kd cd:Int) (x:Se) (q1:Option Addr) (c1:Nat) (CC:Nat→Sa) (q3:Option Addr) (c3:Nat),EndR p (fstA p) C∧AOk2 p C∧ResK p C kd cd x∧r=.returned (.agg #[.int .i64 kd,.int .i64 cd,.int .u64 x.t,.int .i64 x.s,.int .u64 x.q,.int .i64 0,.slice q1 p.nq c1,.slice q3 C.m c3])∧(∃b rb,W.heap.size<b∧RsA w' b rb p C q1 CC q3 c3)∧Below W.heap.size W w'):=fun W hb=>sqRun_good p v W ((h.below hb0).below hb) hr (okVC hpl) hpl
 have HPL:Hid (PlAt wb p v∧RoomyL p∧PlOk p∧w.heap.size<wb.heap.size):=⟨h.below hb0,hr,hpl,lt_of_block hbox⟩
 have hnq:=hpl.gt.1
 have hns:=hpl.gs.1
 have hbuu:=hpl.bu
 have HBU:Hid (¬150<p.bu):=hn
 have d0:decide (p.bu>150)=false:=decide_eq_false hn
 have d1:decide (150<p.bu)=false:=decide_eq_false hn
 clear hwb hb0 hbox hsz h hr hpl hc0
 go_enter Tryz.func5,Tryz.ntmps5
 go_upto_region 6 with (first|(go_at_call 18;rw [HH.out];(with_reducible refine HA.mono ?_);rintro e w1 ⟨rfl,hb1⟩;obtain ⟨f0,f1,f2,f3,f4,f5,f6,f7,f8⟩:=(KK w1 hb1).out)|(go_at_call 19;(with_reducible refine (HV w1 hb1).out.mono ?_);rintro e w1v ⟨rfl,hbv'⟩;have hbv:Below wb.heap.size wb w1v:=hb1.trans (hbv'.mono hb1.size);clear f0 f1 f2 f3 f4 f5 f6 f7 f8;obtain ⟨f0,f1,f2,f3,f4,f5,f6,f7,f8⟩:=(KK w1v hbv).out)|(go_at_call 20;(with_reducible refine (HF w1v hbv).out.mono ?_);rintro e w2 ⟨q,c,q2,c2,rfl,hfp,hb2'⟩;have hb2:Below wb.heap.size wb w2:=hbv.trans (hb2'.mono hbv.size)))
 obtain ⟨w3,hw3⟩: ∃w3,w2.alloc (.cells #[.slice q p.nq c,.slice q2 p.ns c2,.slice none 0 0] 47)=w3:=⟨_,rfl⟩
 obtain ⟨hb3',hx3,hsz3⟩:=boxed _ _ _ hw3
 rw [hw3]
 obtain ⟨g5,hg5⟩: ∃g5,w2.heap.size=g5:=⟨_,rfl⟩
 rw [hg5] at hx3 ⊢
 have hb3:Below wb.heap.size wb w3:=hb2.trans (hb3'.mono hb2.size)
 clear f0 f1 f2 f3 f4 f5 f6 f7 f8
 obtain ⟨f0,f1,f2,f3,f4,f5,f6,f7,f8⟩:=(KK w3 hb3).out
 obtain ⟨e0,e1,e2⟩:=cells3p hx3
 obtain ⟨SA,d,hA1,hA2,hA3,hA4,hA5⟩:=hfp.below hb3'
 have hpnd:=Pnd.fst hA4 hA5
 have hPF:PF p (fstO p d):=point_fits HPL.out.2.2.1 (.zero:StepsR p (fstA p) 0 (fstA p)) (SA:=fun j=>⟨none,p.nw j,0,dz p.sd j,(cntS p.S p.ns (j:Int):Nat)⟩) hpnd (fun j hj=>⟨rfl,rfl,rfl⟩)
 have HO:Calls Tryz.prog 21 #[.agg #[.int .i64 p.ki,.slice v.pp p.np v.pc,.slice v.tp p.nq v.tc,.slice v.sp p.ns v.sc,.int .u64 p.sd,.int .u64 p.lk,.int .u64 p.en,.int .i64 p.bu,.int .i64 p.fu],.agg #[.slice q p.nq c,.slice q2 p.ns c2,.slice none 0 0]] w3 fun e w'=> ∃(sb:Nat) (R:Rv),e=.returned (.tuple #[.pointer (some ⟨sb,0,none⟩),.int .i64 0])∧SimR w' w3.heap.size sb p (abO (fstO p d)) R∧(∀k,k<w3.heap.size→Av p R sb k)∧Below w3.heap.size w3 w':=open_new p v (fstO p d) ⟨q,c,q2,c2,none,0⟩ HPL.out.2.1 ⟨by show p.nq*40≤_;omega,fun j hj=>HPL.out.2.1.nw j hj,by show p.ns≤_;omega,by show 0≤_;omega⟩ w3 (HPL.out.1.below hb3) ⟨⟨SA,fun j hj=>⟨(hA2 j hj).1,(hA2 j hj).2.1,(hA2 j hj).2.2⟩,hA1⟩,hA3,.inl rfl⟩ (okVC HPL.out.2.2.1) hPF ⟨fun j hj=>rfl,hpnd.hp,hpnd.inj,by show p.ns+16*(4096-0)≤_;omega⟩
 rw [fstO_ab hA4] at HO
 have H3:Hid (Below wb.heap.size wb w3):=hb3
 clear hw3 hb3' hx3 hsz3 hg5 hA1 hA2 hA3 hA4 hA5 hpnd hPF hfp hb2 hb2' hb1 hbv hbv' hb3 HA HV HF hn
 go_upto_region 9 with (go_at_call 21;(with_reducible refine HO.mono ?_);rintro e w4 ⟨sb,R0,rfl,hsim0,_,hb4'⟩)
 obtain ⟨bs,hbs⟩: ∃bs,w3.heap.size=bs:=⟨_,rfl⟩
 rw [hbs] at hsim0
 have H4:Hid (SimR w4 bs sb p (fstA p) R0∧Below wb.heap.size wb w4∧wb.heap.size≤bs∧bs≤w4.heap.size):=⟨hsim0,H3.out.trans (hb4'.mono H3.out.size),by have:=H3.out.size;omega,by have:=hb4'.size;omega⟩
 clear hsim0 hb4' hbs HO f0 f1 f2 f3 f4 f5 f6 f7 f8 e0 e1 e2 H3
 go_wp2_with fail
 go_loopw [7] (fun v9 wr=> ∃(i:Nat) (A:Ab) (R:Rv),v9=.int .i64 (i:Int)∧(i:Int)≤p.bu∧Sts p (fstA p) i A∧SimR wr bs sb p A R∧AOk2 p A∧Below bs w4 wr) (fun v9 _=>p.bu.toNat-(intOf v9).toNat)
 case atStart=>exact ⟨0,fstA p,R0,rfl,by show (0:Int)≤_;exact HPL.out.2.2.1.bu.1,rfl,H4.out.1,fst_ok HPL.out.2.2.1,Below.refl _ _⟩
 case round=>
  obtain ⟨i,A,R,rfl,hi,hsts,hsim,hok,hbr⟩:=hrel
  have hbwr:Below wb.heap.size wb wr:=H4.out.2.1.trans (hbr.mono H4.out.2.2.1)
  obtain ⟨f0,f1,f2,f3,f4,f5,f6,f7,f8⟩:=(KK wr hbwr).out
  by_cases hlt:(i:Int)<p.bu
  case pos=>
   have dl:decide ((i:Int)<p.bu)=true:=decide_eq_true hlt
   have ei:IntKind.i64.wrap ((i:Int)+1)=(i:Int)+1:=by rw [IntKind.wrap_i64];omega
   have HM:Hid (p.bu.toNat-(i+1)<p.bu.toNat-i):=(by omega:p.bu.toNat-(i+1)<p.bu.toNat-i)
   have HLT:Hid ((i:Int)<p.bu):=hlt
   have HS:=step_any wr bs sb p A R hsim hok HPL.out.2.2.1
   have HI:Hid (Sts p (fstA p) i A∧SimR wr bs sb p A R∧Below bs w4 wr):=⟨hsts,hsim,hbr⟩
   clear hsts hsim hok hbr hlt hi hbwr
   go_wp2_with (go_at_call 22;(with_reducible refine HS.mono ?_);rintro e wz ⟨B,R',x,cx,rfl,hst,hsim',hok',hkq,_,_⟩)
   obtain ⟨i1,i2,i3⟩:=HI.out
   refine ⟨⟨i+1,B,R',rfl,by have:=HLT.out;show ((i+1:Nat):Int)≤p.bu;omega,⟨A,x,cx,i1,hst⟩,hsim',hok',below_kq i3 hkq (fun k hk=>(i2.mu k hk).1) (Nat.le_trans H4.out.2.2.2 i3.size)⟩,?_⟩
   have:=HM.out
   simp [intOf]
   omega
  have dl:decide ((i:Int)<p.bu)=false:=decide_eq_false hlt
  have hib:(i:Int)=p.bu:=by omega
  have HS1:Hid (Sts p (fstA p) i A∧SimR wr bs sb p A R∧AOk2 p A∧Below bs w4 wr∧(i:Int)=p.bu∧Below wb.heap.size wb wr):=⟨hsts,hsim,hok,hbr,hib,hbwr⟩
  have HPT:Calls Tryz.prog 23 #[.pointer (some ⟨sb,0,none⟩)] wr fun e w'=> ∃(yq:Option Addr) (yc:Nat) (yq2:Option Addr) (yc2:Nat) (yq3:Option Addr) (yc3:Nat) (d:Nat→Se),e=.returned (.agg #[.slice yq p.nq yc,.slice yq2 R.n yc2,.slice yq3 A.m yc3])∧PnAt w' ⟨p.nq,saO p A R,A.K,R.n,d,A.m,A.Z⟩ ⟨yq,yc,yq2,yc2,yq3,yc3⟩∧Stb klt 0 R.n R.X d∧Srt klt 0 R.n d∧Below wr.heap.size wr w':=by
   refine (pointF_any p ⟨p.nq,saO p A R,A.K,R.n,R.X,A.m,A.Z⟩ sb A.f wr hsim.atF (hsim.roomyN hok HPL.out.2.1 HPL.out.2.2.1.gt)).mono ?_
   rintro e w' ⟨⟨z1,z2,z3,z4,z5,z6⟩,d,k1,k2,k3,k4,k5⟩
   exact ⟨z1,z2,z3,z4,z5,z6,d,k1,k2,k3,k4,k5⟩
  clear hsts hsim hok hbr hi hlt hib
  go_upto_region 14 with (go_at_call 23;(with_reducible refine HPT.mono ?_);rintro e w5 ⟨yq,yc,yq2,yc2,yq3,yc3,d,rfl,hpn,hstb,hsrt,hb5'⟩)
  obtain ⟨w6,hw6⟩: ∃w6,w5.alloc (.cells #[.slice yq p.nq yc,.slice yq2 R.n yc2,.slice yq3 A.m yc3] 47)=w6:=⟨_,rfl⟩
  obtain ⟨hb6',hx6,hsz6⟩:=boxed _ _ _ hw6
  rw [hw6]
  obtain ⟨g8,hg8⟩: ∃g8,w5.heap.size=g8:=⟨_,rfl⟩
  rw [hg8] at hx6 ⊢
  have hb6:Below wb.heap.size wb w6:=hbwr.trans ((hb5'.trans (hb6'.mono hb5'.size)).mono hbwr.size)
  have hpn6:PnAt w6 ⟨p.nq,saO p A R,A.K,R.n,d,A.m,A.Z⟩ ⟨yq,yc,yq2,yc2,yq3,yc3⟩:=hpn.below hb6'
  have KP: ∀W,Below w6.heap.size w6 W→((W.cell? ⟨w.heap.size,0,none⟩=some (.int .i64 p.ki)∧W.cell? ⟨w.heap.size,1,none⟩=some (.slice v.pp p.np v.pc)∧W.cell? ⟨w.heap.size,2,none⟩=some (.slice v.tp p.nq v.tc)∧W.cell? ⟨w.heap.size,3,none⟩=some (.slice v.sp p.ns v.sc)∧W.cell? ⟨w.heap.size,4,none⟩=some (.int .u64 p.sd)∧W.cell? ⟨w.heap.size,5,none⟩=some (.int .u64 p.lk)∧W.cell? ⟨w.heap.size,6,none⟩=some (.int .u64 p.en)∧W.cell? ⟨w.heap.size,7,none⟩=some (.int .i64 p.bu)∧W.cell? ⟨w.heap.size,8,none⟩=some (.int .i64 p.fu))∧(W.cell? ⟨g8,0,none⟩=some (.slice yq p.nq yc)∧W.cell? ⟨g8,1,none⟩=some (.slice yq2 R.n yc2)∧W.cell? ⟨g8,2,none⟩=some (.slice yq3 A.m yc3))):=fun W hb=>by
   have hx:=(hb.block _ (lt_of_block hx6)).trans hx6
   exact ⟨(KK W (hb6.trans (hb.mono hb6.size))).out,cell_in hx rfl,cell_in hx rfl,cell_in hx rfl⟩
  have hbd:Below w6.heap.size w6 w6.drew:=(Below.refl _ w6).drew
  have KP0:=KP _ hbd
  have HRR:=(HR w6.drew (hb6.trans (hbd.mono hb6.size))).out
  have H6:Hid (Below wb.heap.size wb w6∧PnAt w6 ⟨p.nq,saO p A R,A.K,R.n,d,A.m,A.Z⟩ ⟨yq,yc,yq2,yc2,yq3,yc3⟩∧Stb klt 0 R.n R.X d∧Srt klt 0 R.n d∧w6.heap[g8]? =some (.cells #[.slice yq p.nq yc,.slice yq2 R.n yc2,.slice yq3 A.m yc3] 47 (0,0))):=⟨hb6,hpn6,hstb,hsrt,hx6⟩
  have HSE: ∀W,Below w6.heap.size w6 W→ ∀(C:Ab) (q3:Option Addr) (c3:Nat),EndR p (fstA p) C→SIn W q3 C.m C.Z→Hid (Calls Tryz.prog 24 #[.slice yq3 A.m yc3,.slice q3 C.m c3] W fun e w'=>e=.returned (.bool true)∧Below W.heap.size W w'):=fun W hb C q3 c3 he hs=>by
   obtain ⟨_,_,z1,z2⟩:=sts_cnt HPL.out.2.2.1 he HS1.out.2.2.2.2.1 HS1.out.1
   rw [←z1,←z2] at hs
   rw [←z1]
   exact sEvents_yes A.m A.Z yq3 q3 yc3 c3 (by have:=HS1.out.2.2.1.m;omega) W (hpn6.2.2.below hb) hs
  have l0:(!decide ((p.nq:Int)=(p.nq:Int)))=false:=by simp
  clear hw6 hb6' hx6 hsz6 hg8 hpn hstb hsrt hb5' hb6 hpn6 HPT hbwr f0 f1 f2 f3 f4 f5 f6 f7 f8 dl KK HR
  go_region_held3 (fun W=>((W.cell? ⟨w.heap.size,0,none⟩=some (.int .i64 p.ki)∧W.cell? ⟨w.heap.size,1,none⟩=some (.slice v.pp p.np v.pc)∧W.cell? ⟨w.heap.size,2,none⟩=some (.slice v.tp p.nq v.tc)∧W.cell? ⟨w.heap.size,3,none⟩=some (.slice v.sp p.ns v.sc)∧W.cell? ⟨w.heap.size,4,none⟩=some (.int .u64 p.sd)∧W.cell? ⟨w.heap.size,5,none⟩=some (.int .u64 p.lk)∧W.cell? ⟨w.heap.size,6,none⟩=some (.int .u64 p.en)∧W.cell? ⟨w.heap.size,7,none⟩=some (.int .i64 p.bu)∧W.cell? ⟨w.heap.size,8,none⟩=some (.int .i64 p.fu))∧(W.cell? ⟨g8,0,none⟩=some (.slice yq p.nq yc)∧W.cell? ⟨g8,1,none⟩=some (.slice yq2 R.n yc2)∧W.cell? ⟨g8,2,none⟩=some (.slice yq3 A.m yc3)))) (first|with_reducible exact KP0|with_reducible exact KP1|with_reducible exact KP2|go_keep) (first|(go_at_call 12;(with_reducible refine HRR.mono ?_);rintro e y1 ⟨C,kd,cd,x,q1,c1,CC,q3,c3,he1,hoC,hk1,rfl,⟨b,rb,hlb,hrs⟩,hby1'⟩;have fe:=field_tr5 kd cd x.t x.s x.q 0 q1 q3 p.nq C.m c1 c3;have hy1:Below w6.heap.size w6 y1:=hbd.trans (hby1'.mono hbd.size);have KP1:=KP y1 hy1;have HEC:Hid (EndR p (fstA p) C):=he1;have HSa:=(HSE y1 hy1 C q3 c3 he1 hrs.tr).out)|(go_at_call 24;(with_reducible refine HSa.mono ?_);rintro e y2 ⟨rfl,hby2'⟩;have hy2:Below w6.heap.size w6 y2:=hy1.trans (hby2'.mono hy1.size);have KP2:=KP y2 hy2))
  clear HRR HSa HSE KP0 KP1 KP2 fe hby1' hby2' hrs hk1 hoC hlb hbd hy1 l0
  obtain ⟨w7,hw7⟩: ∃w7,y2=w7:=⟨_,rfl⟩
  subst hw7
  have H7:Hid (Cnt p A∧(∀j,j<p.nq→A.s j≤256+16*(i:Int))∧Below w6.heap.size w6 y2∧Below wb.heap.size wb y2∧PnAt y2 ⟨p.nq,saO p A R,A.K,R.n,d,A.m,A.Z⟩ ⟨yq,yc,yq2,yc2,yq3,yc3⟩∧R.n≤1000000∧A.m≤4096):=by
   obtain ⟨z1,z2,_,_⟩:=sts_cnt HPL.out.2.2.1 HEC.out HS1.out.2.2.2.2.1 HS1.out.1
   exact ⟨z1,z2,hy2,H6.out.1.trans (hy2.mono H6.out.1.size),H6.out.2.1.below hy2,by have z3:=sts_pend HPL.out.2.2.1 HEC.out HS1.out.2.2.2.2.1 HS1.out.1 HS1.out.2.1.inj (fun a ha=>(HS1.out.2.1.set _).2 ⟨a,ha,rfl⟩);have:=HS1.out.2.2.2.2.1;omega,by have:=HS1.out.2.2.1.m;omega⟩
  have KQ: ∀W,Below y2.heap.size y2 W→(W.cell? ⟨g8,0,none⟩=some (.slice yq p.nq yc)∧W.cell? ⟨g8,1,none⟩=some (.slice yq2 R.n yc2)∧W.cell? ⟨g8,2,none⟩=some (.slice yq3 A.m yc3)):=fun W hb=>(KP W (hy2.trans (hb.mono hy2.size))).2
  obtain ⟨iB,hB1,hB2,hB3,hB4⟩:=infoPM infoBB
  obtain ⟨iL,hL1,hL2,hL3,hL4⟩:=infoPM infoLB
  have HMB: ∀(an:Nat) (W:World),an≤4000→(Instr.makeSlice 63 (.int .i64 (an:Int)) (.int .i64 (an:Int))).run Tryz.prog W=.ok (.slice (some ⟨W.heap.size,0,none⟩) an an) (W.alloc (.cells (madeCells (Value.bool false).cells (an*1)) 4)):=fun an W ha=>makeB 63 4 iB (.bool false) rfl Tryz.underlying63 hB1 hB2 hB3 an (by rw [hB4];omega) (by omega) W
  have HMH:Hid (∀(an:Nat) (W:World),an≤4000→(Instr.makeSlice 63 (.int .i64 (an:Int)) (.int .i64 (an:Int))).run Tryz.prog W=.ok (.slice (some ⟨W.heap.size,0,none⟩) an an) (W.alloc (.cells (madeCells (Value.bool false).cells (an*1)) 4))):=HMB
  clear HMB hB1 hB2 hB3 hB4 hy2 KP he1
  obtain ⟨bq,hbq⟩: ∃bq,y2.heap.size=bq:=⟨_,rfl⟩
  have HBQ:Hid (y2.heap.size=bq):=hbq
  clear hbq
  go_wp2_with fail
  go_loopw [9,10] (fun v9 v10 wr=> ∃(k:Nat) (sv:Value) (G:Nat→Nat),v9=sv∧v10=.int .i64 (k:Int)∧k≤p.nq∧Sn wr bq sv k G (fun j=>(A.s j).toNat) (fun _ _=>false)∧Below y2.heap.size y2 wr) (fun _ v10 _=>p.nq-(intOf v10).toNat)
  case atStart=>exact ⟨0,_,fun _=>0,rfl,rfl,Nat.zero_le _,Sn.zero _ _ _ _ _,Below.refl _ _⟩
  case round=>
   obtain ⟨k,sv,G,rfl,rfl,hk,hsn,hbr⟩:=hrel
   obtain ⟨sq,sc,rfl,hsc⟩:=hsn.sl
   obtain ⟨c0,c1,c2⟩:=KQ _ hbr
   by_cases hlt:k<p.nq
   case pos=>
    have dl:decide ((k:Int)<(p.nq:Int))=true:=decide_eq_true (by omega)
    have k0:(0:Int)≤(k:Int):=by omega
    have k1:(k:Int)<(p.nq:Int):=by omega
    have ei:IntKind.i64.wrap ((k:Int)+1)=(k:Int)+1:=by rw [IntKind.wrap_i64];omega
    have HM:Hid (p.nq-(k+1)<p.nq-k):=(by omega:p.nq-(k+1)<p.nq-k)
    obtain ⟨⟨SA2,hSA,hss⟩,_,_⟩:=H7.out.2.2.2.2.1
    rcases hss with h0|⟨gq,oq,hyq,hlq,hcs,_⟩
    ·exact absurd hlt (by show ¬k<p.nq;have h0:p.nq=0:=h0;omega)
    have hyq:yq=some ⟨gq,oq,none⟩:=hyq
    subst hyq
    obtain ⟨an,han⟩: ∃an:Nat,A.s k=(an:Int):=⟨(A.s k).toNat,by have:=(HS1.out.2.2.1.sn k hlt).1;omega⟩
    have hle:(an:Int)≤4000:=by have z1:=H7.out.2.1 k hlt;have z2:=HS1.out.2.2.2.2.1;have z3:=HBU.out;omega
    have s2:wr.cell? ⟨gq,oq+k*3+2,none⟩=some (.int .u64 (an:Int)):=by
     have z1:=(hcs k hlt).2.2
     have z2:(SA2 k).s=A.s k:=((hSA k hlt).2.2).trans (saO_eq HS1.out.2.1 k).2.2
     rw [z2,han] at z1
     exact (cell_below (a:=⟨gq,oq+k*3+2,none⟩) hbr hlq).trans z1
    have x0:decide ((an:Int)>4000)=false:=decide_eq_false (by omega)
    have x1:decide (4000<(an:Int))=false:=decide_eq_false (by omega)
    have x2:IntKind.i64.wrap (an:Int)=(an:Int):=by rw [IntKind.wrap_i64];omega
    have rB:=HMH.out an wr (by omega)
    obtain ⟨wz,hwz⟩: ∃wz,wr.alloc (.cells (madeCells (Value.bool false).cells (an*1)) 4)=wz:=⟨_,rfl⟩
    obtain ⟨g1,hg1⟩: ∃g1,wr.heap.size=g1:=⟨_,rfl⟩
    rw [hwz,hg1] at rB
    have hbz:Below wr.heap.size wr wz:=by rw [←hwz];exact (Below.refl _ wr).alloc (Nat.le_refl _) _
    have hbz2:Below wr.heap.size wr (wz.alloc (.cells #[.slice (some ⟨g1,0,none⟩) an an] 63)):=hbz.alloc hbz.size _
    have hbq1:bq≤wr.heap.size:=by have:=HBQ.out;have:=hbr.size;omega
    have hbq2:bq≤(wz.alloc (.cells #[.slice (some ⟨g1,0,none⟩) an an] 63)).heap.size:=Nat.le_trans hbq1 hbz2.size
    have HMO:Hid ((wz.alloc (.cells #[.slice (some ⟨g1,0,none⟩) an an] 63)).ownsRow bq 63 1 (.slice sq k sc) k (cellsF (fun j=>.slice (some ⟨G j,0,none⟩) (A.s j).toNat (A.s j).toNat) (k*1))):=hsn.row.more hbz2
    have hnew:Hid (∀a u,[Value.slice (some ⟨g1,0,none⟩) an an][a]? =some u→(wz.alloc (.cells #[.slice (some ⟨g1,0,none⟩) an an] 63)).cell? ((⟨wz.heap.size,0,none⟩:Addr).add a)=some u):=fun a u ha=>by
     have h0:a=0:=by
      have:=(List.getElem?_eq_some_iff.1 ha).1
      simpa using this
     subst h0
     rw [addr_add0]
     unfold World.cell?
     rw [World.alloc_heap_new]
     exact ha
    have p1:k+1≤maxLen:=by unfold maxLen;omega
    have p2:(k+1)*24≤140737488355328:=by omega
    have HX:Hid (Sn wr bq (.slice sq k sc) k G (fun j=>(A.s j).toNat) (fun _ _=>false)∧Below y2.heap.size y2 wr∧Below wr.heap.size wr (wz.alloc (.cells #[.slice (some ⟨g1,0,none⟩) an an] 63))∧wr.alloc (.cells (madeCells (Value.bool false).cells (an*1)) 4)=wz∧wr.heap.size=g1∧A.s k=(an:Int)∧k<p.nq∧bq≤wr.heap.size∧(an:Int)≤4000):=⟨hsn,hbr,hbz2,hwz,hg1,han,hlt,hbq1,hle⟩
    clear hsn hbr hbz2 hwz hg1 han hlt hbq1 hbz hsc hSA hcs hlq hle hk KQ
    go_wp2_with (at_builtin;refine wpList_append_own_at _ rfl _ _ 59 rfl bq 63 iL _ 1 24 Tryz.underlying59 hL1 hL2 hL3 hL4 rfl (by decide) _ _ _ rfl HMO.out ⟨wz.heap.size,0,none⟩ 1 1 [.slice (some ⟨g1,0,none⟩) an an] rfl rfl hnew.out (by simp [Value.oneCell']) p1 p2 hbq2 ?_;intro sv' w9 hown9 hgrow9 _ hat9)
    obtain ⟨u1,u2,u3,u4,u5,u6,u7,u8,u9⟩:=HX.out
    have hS:=u1.snoc u8 an (by unfold maxLen;omega) (W1:=wz.alloc (.cells #[.slice (some ⟨g1,0,none⟩) an an] 63)) (by rw [u4,u5]) (W2:=w9) (sv':=sv') (by rw [u5];exact hown9) hgrow9 neBB
    have hS2:Sn w9 bq sv' (k+1) (ext G k wr.heap.size) (fun j=>(A.s j).toNat) (fun _ _=>false):=hS.congr (fun j hj=>by
     by_cases e:j=k
     ·subst e;rw [ext_at,u6];exact (Int.toNat_natCast an).symm
     ·rw [ext_ne _ _ _ e]) (fun j q hj=>by
     by_cases e:j=k
     ·subst e;rw [ext_at]
     ·rw [ext_ne _ _ _ e])
    refine ⟨⟨k+1,sv',ext G k wr.heap.size,rfl,rfl,u7,hS2,(u2.trans (u3.mono u2.size)).grown hgrow9 (by have:=u3.size;have:=u2.size;omega) fun r e=>by have:=(Own.kind u1.row e).1;have:=HBQ.out;omega⟩,?_⟩
    have:=HM.out
    simp [intOf]
    omega
   have dl:decide ((k:Int)<(p.nq:Int))=false:=decide_eq_false (by omega)
   obtain rfl:k=p.nq:=by omega
   obtain ⟨w8,rfl⟩: ∃w8,w8=wr:=⟨_,rfl⟩
   obtain ⟨w9,hw9⟩: ∃w9,w8.alloc (.cells #[.slice yq3 A.m yc3,.slice yq2 R.n yc2] 35)=w9:=⟨_,rfl⟩
   obtain ⟨hb9',hx9,hsz9⟩:=boxed _ _ _ hw9
   obtain ⟨g9,hg9⟩: ∃g9,w8.heap.size=g9:=⟨_,rfl⟩
   rw [hg9] at hx9
   obtain ⟨nn,hnn⟩: ∃nn,A.m+R.n=nn:=⟨_,rfl⟩
   have hpn8:PnAt w8 ⟨p.nq,saO p A R,A.K,R.n,d,A.m,A.Z⟩ ⟨yq,yc,yq2,yc2,yq3,yc3⟩:=H7.out.2.2.2.2.1.below hbr
   have hls:LsIn w9 (some ⟨g9,0,none⟩) 2 (two ⟨yq3,yc3,A.m,A.Z⟩ ⟨yq2,yc2,R.n,d⟩):=by
    refine ⟨.inr ⟨g9,0,rfl,lt_of_block hx9,fun a ha=> ?_⟩,fun a ha=> ?_⟩
    ·have:a=0∨a=1:=by omega
     rcases this with rfl|rfl
     ·exact cell_in hx9 rfl
     ·exact cell_in hx9 rfl
    ·have:a=0∨a=1:=by omega
     rcases this with rfl|rfl
     ·exact hpn8.2.2.below hb9'
     ·exact hpn8.2.1.below hb9'
   have HMG:Calls Tryz.prog 25 #[.slice (some ⟨g9,0,none⟩) 2 2] w9 fun e w'=> ∃(gd:Nat) (dd:Nat→Se),e=.returned (.slice (some ⟨gd,0,none⟩) nn nn)∧SRow w' w9.heap.size gd nn nn dd∧Stb klt 0 nn (catL (two ⟨yq3,yc3,A.m,A.Z⟩ ⟨yq2,yc2,R.n,d⟩) 2) dd∧Below w9.heap.size w9 w':=by
    have ho:offL (two ⟨yq3,yc3,A.m,A.Z⟩ ⟨yq2,yc2,R.n,d⟩) 2=nn:=(two_off _ _).trans hnn
    have z:=H7.out.2.2.2.2.2
    have hm:=merge_any (some ⟨g9,0,none⟩) 2 2 (two ⟨yq3,yc3,A.m,A.Z⟩ ⟨yq2,yc2,R.n,d⟩) (by omega) (by rw [ho];omega) w9 hls
    rw [ho] at hm
    refine hm.mono ?_
    rintro e w' ⟨gd,dd,k1,k2,k3,_,k5⟩
    exact ⟨gd,dd,k1,k2,k3,k5⟩
   have HW9:Hid (w8.alloc (.cells #[.slice yq3 A.m yc3,.slice yq2 R.n yc2] 35)=w9):=hw9
   have HG9:Hid (w8.heap.size=g9):=hg9
   have H8:Hid (Sn w8 bq (.slice sq p.nq sc) p.nq G (fun j=>(A.s j).toNat) (fun _ _=>false)∧Below y2.heap.size y2 w8∧Below w8.heap.size w8 w9∧A.m+R.n=nn∧bq≤w8.heap.size):=⟨hsn,hbr,hb9',hnn,by have:=HBQ.out;have:=hbr.size;omega⟩
   clear hw9 hb9' hx9 hsz9 hg9 hnn hpn8 hls hsn hbr hsc hk KQ hlt HMH hL1 hL2 hL3 hL4
   go_upto_region 24 with (go_at_call 25;rw [HG9.out,HW9.out];(with_reducible refine HMG.mono ?_);rintro e w10 ⟨gd,dd,rfl,hrow,hst,hb10'⟩)
   have H10:Hid ((∀x,InX nn dd x↔AllE A x)∧Inj nn dd∧Below w8.heap.size w8 w10∧SRow w10 w9.heap.size gd nn nn dd∧(∀j,j<p.nq→G j<w9.heap.size∧bq≤G j)∧(∀j,j<p.nq→0≤A.s j)):=by
    obtain ⟨u1,u2,u3,u4,u5⟩:=H8.out
    obtain ⟨v1,v2,v3,v4,v5⟩:=H6.out
    have hsim:=HS1.out.2.1
    have hpi: ∀x,InX R.n d x↔A.M x:=fun x=>(stb_set v3 x).trans (hsim.set x).symm
    refine ⟨fun x=> ?_,?_,u3.trans (hb10'.mono u3.size),hrow,fun j hj=> ?_,fun j hj=>(HS1.out.2.2.1.sn j hj).1⟩
    ·refine (stb_set hst x).trans ?_
     rw [←u4]
     exact (two_in (a:=⟨yq3,yc3,A.m,A.Z⟩) (b:=⟨yq2,yc2,R.n,d⟩) x).trans (or_congr Iff.rfl (hpi x))
    ·refine stb_inj hst ?_
     rw [←u4]
     exact two_inj (a:=⟨yq3,yc3,A.m,A.Z⟩) (b:=⟨yq2,yc2,R.n,d⟩) H7.out.1.ij (stb_inj v3 hsim.inj) (fun a b ha hb e=>H7.out.1.dj a ha ((hpi _).1 ⟨b,hb,e.symm⟩))
    ·have z:=Own.kind (u1.bl j hj) rfl
     exact ⟨Nat.lt_of_lt_of_le z.2.1 u3.size,z.1⟩
   clear hrow hst hb10' HMG c0 c1 c2 dl
   go_wp2_with fail
   go_loopw [12] (fun v12 wr=> ∃k:Nat,v12=.int .i64 (k:Int)∧k≤nn∧Sn wr bq (.slice sq p.nq sc) p.nq G (fun j=>(A.s j).toNat) (sn dd k)∧Kq (fun b=> ∃j,j<p.nq∧b=G j) w10 wr) (fun v12 _=>nn-(intOf v12).toNat)
   case atStart=>exact ⟨0,rfl,Nat.zero_le _,(H8.out.1.below H10.out.2.2.1).congr (fun j hj=>rfl) (fun j q hj=>rfl),Kq.refl _ _⟩
   case round=>
    obtain ⟨k,rfl,hk,hsn,hkq⟩:=hrel
    have hnb:nn≤2000000:=by have:=H8.out.2.2.2.1;have:=H7.out.2.2.2.2.2;omega
    by_cases hlt:k<nn
    case pos=>
     have dl:decide ((k:Int)<(nn:Int))=true:=decide_eq_true (by omega)
     have k0:(0:Int)≤(k:Int):=by omega
     have k1:(k:Int)<(nn:Int):=by omega
     have ei:IntKind.i64.wrap ((k:Int)+1)=(k:Int)+1:=by rw [IntKind.wrap_i64];omega
     have HM:Hid (nn-(k+1)<nn-k):=(by omega:nn-(k+1)<nn-k)
     obtain ⟨t1,t2,t3,t4,t5,t6⟩:=H10.out
     obtain ⟨⟨b1,b1'⟩,b2,b3⟩:=H7.out.1.bd (dd k) ((t1 _).1 ⟨k,hlt,rfl⟩)
     have hrow:SRow wr w9.heap.size gd nn nn dd:=Kq.own t4 hkq (fun a ha=>by
      rintro ⟨j,hj,rfl⟩
      have z1:=(Own.lt t4 _ ha).1
      have z2:=(t5 j hj).1
      omega)
     obtain ⟨a0,a1,a2,a3,a4,a5⟩:=hrow.cells hlt
     obtain ⟨js,hjs⟩: ∃js:Nat,(dd k).s=(js:Int):=⟨(dd k).s.toNat,by omega⟩
     obtain ⟨qs,hqs⟩: ∃qs:Nat,(dd k).q=(qs:Int):=⟨(dd k).q.toNat,by omega⟩
     rw [hjs] at a1 b1 b1' b3
     rw [hqs] at a2 b2 b3
     rw [Int.toNat_natCast] at b3
     have hjl:js<p.nq:=by omega
     obtain ⟨mj,hmj⟩: ∃mj:Nat,A.s js=(mj:Int):=⟨(A.s js).toNat,by have:=t6 js hjl;omega⟩
     rw [hmj] at b3
     have hmj':(A.s js).toNat=mj:=by rw [hmj];exact Int.toNat_natCast mj
     obtain ⟨sq',sc',e9,hsc⟩:=hsn.sl
     injection e9 with e8 _ e7
     subst e8
     subst e7
     obtain ⟨gs,hgs,hcs⟩:=hsc js hjl
     subst hgs
     have hcs:wr.cell? ⟨gs,js,none⟩=some (.slice (some ⟨G js,0,none⟩) (A.s js).toNat (A.s js).toNat):=hcs
     rw [hmj'] at hcs
     have hcq:=hsn.at hjl (q:=qs) (by show qs<(A.s js).toNat;omega)
     have hno:sn dd k js qs=false:=by
      cases e:sn dd k js qs with
      |false=>rfl
      |true=>
       obtain ⟨a,ha,ha1,ha2⟩:=(sn_iff dd js qs k).1 e
       have z:=H7.out.1.un (dd a) (dd k) ((t1 _).1 ⟨a,by omega,rfl⟩) ((t1 _).1 ⟨k,hlt,rfl⟩) (ha1.trans hjs.symm) (ha2.trans hqs.symm)
       have:=t2 a k (by omega) hlt z
       omega
     rw [hno] at hcq
     have hfz: ∀o,wr.frozen? ⟨G js,o,none⟩=false:=fun o=>by
      obtain ⟨cur,hc⟩:=(Own.kind (hsn.bl js hjl) rfl).2.2
      simp [World.frozen?,hc]
     have HX:Hid (Sn wr bq (.slice (some ⟨gs,0,none⟩) p.nq sc) p.nq G (fun j=>(A.s j).toNat) (sn dd k)∧Kq (fun b=> ∃j,j<p.nq∧b=G j) w10 wr∧k<nn∧(dd k).s=(js:Int)∧(dd k).q=(qs:Int)∧js<p.nq∧(A.s js).toNat=mj∧(qs:Int)<(mj:Int)∧G js<wr.heap.size):=⟨hsn,hkq,hlt,hjs,hqs,hjl,hmj',b3,(Own.kind (hsn.bl js hjl) rfl).2.1⟩
     have x0:decide ((js:Int)<0)=false:=decide_eq_false (by omega)
     have x1:decide ((js:Int)≥(p.nq:Int))=false:=decide_eq_false (by omega)
     have x2:decide ((p.nq:Int)≤(js:Int))=false:=decide_eq_false (by omega)
     have x3:IntKind.u64.wrap (mj:Int)=(mj:Int):=by rw [IntKind.wrap_u64];have z1:=H7.out.2.1 js hjl;have z2:=HS1.out.2.2.2.2.1;have z3:=HBU.out;omega
     have x4:decide ((qs:Int)≥(mj:Int))=false:=decide_eq_false (by omega)
     have x5:decide ((mj:Int)≤(qs:Int))=false:=decide_eq_false (by omega)
     have x6:decide (p.nq≤js)=false:=decide_eq_false (by omega)
     have x7:decide (mj≤qs)=false:=decide_eq_false (by omega)
     have j0:(0:Int)≤(js:Int):=by omega
     have j1:(js:Int)<(p.nq:Int):=by omega
     have q0:(0:Int)≤(qs:Int):=by omega
     have q1:(qs:Int)<(mj:Int):=by omega
     obtain ⟨gj,hgj⟩: ∃gj,G js=gj:=⟨_,rfl⟩
     have HGJ:Hid (G js=gj):=hgj
     rw [hgj] at hcs hcq hfz
     obtain ⟨tv,htv⟩: ∃tv,(dd k).t=tv:=⟨_,rfl⟩
     rw [htv] at a0
     clear hsn hkq hlt hjs hqs hjl hmj hmj' b1 b1' b2 b3 hsc hno t1 t2 t3 t4 t5 t6 a3 a4 a5 hrow hgj htv hk hnb
     go_upto_region 28 with fail
     obtain ⟨wa,hwa⟩: ∃wa,wr.alloc (.cells #[.int .u64 tv,.int .i64 (js:Int),.int .u64 (qs:Int)] 33)=wa:=⟨_,rfl⟩
     obtain ⟨hba,hxa,hsza⟩:=boxed _ _ _ hwa
     rw [hwa]
     obtain ⟨kb,hkb⟩: ∃kb,wr.heap.size=kb:=⟨_,rfl⟩
     rw [hkb] at hxa ⊢
     obtain ⟨n0,n1,n2⟩:=cells3p hxa
     have hgl:gj<wr.heap.size:=by rw [←HGJ.out];exact HX.out.2.2.2.2.2.2.2.2
     have hgsl:gs<wr.heap.size:=(Own.lt HX.out.1.row gs rfl).2
     have m0:wa.cell? ⟨gs,js,none⟩=some (.slice (some ⟨gj,0,none⟩) mj mj):=(cell_below (a:=⟨gs,js,none⟩) hba hgsl).trans hcs
     have m1:wa.cell? ⟨gj,qs,none⟩=some (.bool false):=(cell_below (a:=⟨gj,qs,none⟩) hba hgl).trans hcq
     have m2: ∀o,wa.frozen? ⟨gj,o,none⟩=false:=fun o=>by
      have z:=hfz o
      unfold World.frozen? at z ⊢
      rw [hba.block gj hgl]
      exact z
     have HA9:Hid (Below wr.heap.size wr wa∧gj<wr.heap.size):=⟨hba,hgl⟩
     clear hwa hba hxa hsza hkb hcs hcq hfz a0 a1 a2 hgl hgsl
     go_quiet (fail)
     go_upto_region 30 with fail
     go_region
     all_goals (
      go_wp2_with fail
      obtain ⟨u1,u2,u3,u4,u5,u6,u7,u8,u9⟩:=HX.out
      have hgj:=HGJ.out
      subst hgj
      have hbw: ∀m,Below wr.heap.size wr (wa.drewN m):=fun m=>HA9.out.1.trans (below_drewNq _ _ _)
      refine ⟨⟨k+1,rfl,u3,((u1.below (hbw _)).put u6 (by show qs<(A.s js).toNat;omega) neBB (sn dd (k+1)) ((sn_iff dd js qs (k+1)).2 ⟨k,Nat.lt_succ_self k,u4,u5⟩) (fun a r hn=> ?_)),(u2.trans (Kq.below (hbw _))).trans (Kq.set _ _ _ _ ⟨js,u6,rfl⟩)⟩,?_⟩
      ·show sn dd k a r=(sn dd k a r||((dd k).s==(a:Int) && (dd k).q==(r:Int)))
       have z:((dd k).s==(a:Int) && (dd k).q==(r:Int))=false:=by
        cases e:((dd k).s==(a:Int) && (dd k).q==(r:Int)) with
        |false=>rfl
        |true=>
         rw [Bool.and_eq_true,beq_iff_eq,beq_iff_eq] at e
         exact absurd ⟨by have:=e.1;omega,by have:=e.2;omega⟩ hn
       rw [z,Bool.or_false]
      ·have:=HM.out
       simp [intOf]
       omega)
    have dl:decide ((k:Int)<(nn:Int))=false:=decide_eq_false (by omega)
    obtain rfl:k=nn:=by omega
    obtain ⟨w12,rfl⟩: ∃w12,w12=wr:=⟨_,rfl⟩
    have H12:Hid (Sn w12 bq (.slice sq p.nq sc) p.nq G (fun j=>(A.s j).toNat) (sn dd k)∧Below w.heap.size w w12):=by
     refine ⟨hsn,?_⟩
     have z1:Below y2.heap.size y2 w10:=H8.out.2.1.trans (H10.out.2.2.1.mono H8.out.2.1.size)
     have z2:Below y2.heap.size y2 w12:=below_kq z1 hkq (fun a ha=>by obtain ⟨j,hj,rfl⟩:=ha;have:=(H10.out.2.2.2.2.1 j hj).2;have:=HBQ.out;omega) z1.size
     have z3:Below wb.heap.size wb w12:=H7.out.2.2.2.1.trans (z2.mono H7.out.2.2.2.1.size)
     exact HB.out.1.trans (z3.mono HB.out.1.size)
    have HT:Hid (∀j,j<p.nq→ ∃(gs:Nat) (mj:Nat),sq=some ⟨gs,0,none⟩∧(A.s j).toNat=mj∧mj≤4000∧w12.cell? ⟨gs,j,none⟩=some (.slice (some ⟨G j,0,none⟩) mj mj)∧ ∀q,q<mj→w12.cell? ⟨G j,q,none⟩=some (.bool true)):=fun j hj=>by
     obtain ⟨sq',sc',e9,hsc⟩:=hsn.sl
     injection e9 with e8 _ e7
     obtain ⟨gs,hgs,hcs⟩:=hsc j hj
     refine ⟨gs,(A.s j).toNat,e8.trans hgs,rfl,by have z1:=H7.out.2.1 j hj;have z2:=HS1.out.2.2.2.2.1;have z3:=HBU.out;omega,hcs,fun q hq=> ?_⟩
     have z:=hsn.at hj (q:=q) hq
     have h0:=H10.out.2.2.2.2.2 j hj
     obtain ⟨x,hx1,hx2,hx3⟩:=H7.out.1.ex j hj q (by omega)
     obtain ⟨a,ha,ha2⟩:=(H10.out.1 x).2 hx1
     rw [(sn_iff dd j q k).2 ⟨a,ha,by rw [ha2];exact hx2,by rw [ha2];exact hx3⟩] at z
     exact z
    clear hsn hkq hk hlt hnb
    go_wp2_with fail
    go_loopw [14] (fun v14 wr=> ∃a:Nat,v14=.int .i64 (a:Int)∧a≤p.nq∧wr=w12) (fun v14 _=>p.nq-(intOf v14).toNat)
    case atStart=>exact ⟨0,rfl,Nat.zero_le _,rfl⟩
    case round=>
     obtain ⟨a,rfl,ha,hwr⟩:=hrel
     subst hwr
     by_cases hlt:a<p.nq
     case pos=>
      have da:decide ((a:Int)<(p.nq:Int))=true:=decide_eq_true (by omega)
      have a0:(0:Int)≤(a:Int):=by omega
      have a1:(a:Int)<(p.nq:Int):=by omega
      have ea:IntKind.i64.wrap ((a:Int)+1)=(a:Int)+1:=by rw [IntKind.wrap_i64];omega
      have HMa:Hid (p.nq-(a+1)<p.nq-a∧a<p.nq):=⟨by omega,hlt⟩
      obtain ⟨gs,mj,rfl,_,hmj4,hcs,hct⟩:=HT.out a hlt
      have HCT:Hid (∀q,q<mj→wr.cell? ⟨G a,q,none⟩=some (.bool true)):=hct
      clear hct hlt ha HT
      obtain ⟨gj,hgj⟩: ∃gj,G a=gj:=⟨_,rfl⟩
      rw [hgj] at hcs HCT
      clear hgj
      go_wp2_with fail
      obtain ⟨w13,rfl⟩: ∃w13,w13=wr:=⟨_,rfl⟩
      go_loopw [15] (fun v15 wr=> ∃b:Nat,v15=.int .i64 (b:Int)∧b≤mj∧wr=w13) (fun v15 _=>mj-(intOf v15).toNat)
      case atStart=>exact ⟨0,rfl,Nat.zero_le _,rfl⟩
      case round=>
       obtain ⟨b,rfl,hb,hwr⟩:=hrel
       subst hwr
       by_cases hlt:b<mj
       case pos=>
        have db:decide ((b:Int)<(mj:Int))=true:=decide_eq_true (by omega)
        have b0:(0:Int)≤(b:Int):=by omega
        have b1:(b:Int)<(mj:Int):=by omega
        have eb:IntKind.i64.wrap ((b:Int)+1)=(b:Int)+1:=by rw [IntKind.wrap_i64];omega
        have HMb:Hid (mj-(b+1)<mj-b∧b<mj):=⟨by omega,hlt⟩
        have hc:=HCT.out b hlt
        clear hlt hb
        go_wp2_with fail
        refine ⟨⟨b+1,rfl,HMb.out.2,by trivial⟩,?_⟩
        have:=HMb.out.1
        simp [intOf]
        omega
       have db:decide ((b:Int)<(mj:Int))=false:=decide_eq_false (by omega)
       go_wp2_with fail
       refine ⟨⟨a+1,rfl,HMa.out.2,by trivial⟩,?_⟩
       have:=HMa.out.1
       simp [intOf]
       omega
     have da:decide ((a:Int)<(p.nq:Int))=false:=decide_eq_false (by omega)
     clear HT
     go_wp2_with fail
     go_ret
     exact ⟨rfl,H12.out.2⟩
theorem counts_law (p:Pl) (v:PlV) (w:World) (h:PlAt w p v) (hr:RoomyL p) (hok:VC p 0→PlOk p):Calls Tryz.prog 5 #[.agg #[.int .i64 p.ki,.slice v.pp p.np v.pc,.slice v.tp p.nq v.tc,.slice v.sp p.ns v.sc,.int .u64 p.sd,.int .u64 p.lk,.int .u64 p.en,.int .i64 p.bu,.int .i64 p.fu]] w fun e w'=>e=.returned (.bool true)∧Below w.heap.size w w':=by
 obtain ⟨c0,hc0⟩:=VC.some p
 by_cases hz:c0=0
 ·subst hz
  by_cases hn:150<p.bu
  ·exact counts_far p v w h hr (hok hc0) hn
  ·exact counts_good p v w h hr (hok hc0) hn
 ·exact counts_bad p v w h hr c0 hc0 hz
end Go.Proofs.YtecgecpgmpmkoaaGreat
