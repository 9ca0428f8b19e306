import Derived.Test.YtecgecpgmpmkoaaGreatJSV2
import Derived.Test.YtecgecpgmpmkoaaGreatJRN7
import Derived.Test.YtecgecpgmpmkoaaGreatJSO9
import Derived.Test.YtecgecpgmpmkoaaGreatJWN4
import Derived.Test.YtecgecpgmpmkoaaGreatJRN20
import Derived.BigQuiet
namespace Go.Proofs.YtecgecpgmpmkoaaGreat
open Go.ChangeShapes Go.WideShapes Go.ChangeAt Go.RowKit
set_option linter.unusedVariables false
set_option linter.unusedSimpArgs false
theorem VC.some (p:Pl): ∃c,VC p c:=by
 unfold VC
 by_cases h1:p.ki<0∨32<p.ki
 ·exact ⟨_,.inl ⟨h1,rfl⟩⟩
 by_cases h2:GP p
 ·by_cases h3:GT p
  ·by_cases h4:GS p
   ·by_cases h5:p.lk=0
    ·exact ⟨_,.inr ⟨h1,.inr ⟨h2,.inr ⟨h3,.inr ⟨h4,.inl ⟨h5,rfl⟩⟩⟩⟩⟩⟩
    by_cases h6:p.bu<0∨4096<p.bu
    ·exact ⟨_,.inr ⟨h1,.inr ⟨h2,.inr ⟨h3,.inr ⟨h4,.inr ⟨h5,.inl ⟨h6,rfl⟩⟩⟩⟩⟩⟩⟩
    by_cases h7:p.fu<1∨4096<p.fu
    ·exact ⟨_,.inr ⟨h1,.inr ⟨h2,.inr ⟨h3,.inr ⟨h4,.inr ⟨h5,.inr ⟨h6,.inl ⟨h7,rfl⟩⟩⟩⟩⟩⟩⟩⟩
    ·exact ⟨_,.inr ⟨h1,.inr ⟨h2,.inr ⟨h3,.inr ⟨h4,.inr ⟨h5,.inr ⟨h6,.inr ⟨h7,rfl⟩⟩⟩⟩⟩⟩⟩⟩
   ·exact ⟨_,.inr ⟨h1,.inr ⟨h2,.inr ⟨h3,.inl ⟨h4,rfl⟩⟩⟩⟩⟩
  ·exact ⟨_,.inr ⟨h1,.inr ⟨h2,.inl ⟨h3,rfl⟩⟩⟩⟩
 ·exact ⟨_,.inr ⟨h1,.inl ⟨h2,rfl⟩⟩⟩
theorem okVC {p:Pl} (h:PlOk p):VC p 0:=.inr ⟨by have:=h.ki;omega,.inr ⟨h.gp,.inr ⟨h.gt,.inr ⟨h.gs,.inr ⟨by have:=h.lk;omega,.inr ⟨by have:=h.bu;omega,.inr ⟨by have:=h.fu;omega,rfl⟩⟩⟩⟩⟩⟩⟩
end Go.Proofs.YtecgecpgmpmkoaaGreat
namespace Go.Proofs.YtecgecpgmpmkoaaGreat
open Go.ChangeShapes Go.WideShapes Go.ChangeAt Go.RowKit
set_option linter.unusedVariables false
set_option linter.unusedSimpArgs false
set_option maxRecDepth 100000 in
set_option maxHeartbeats 4000000 in
theorem field_trc (a b c d e f:Int) (q1 q3:Option Addr) (n m c1 c3:Nat) (W:World):(Instr.field 37 (.agg #[.int .i64 a,.int .i64 b,.int .u64 c,.int .i64 d,.int .u64 e,.int .i64 f,.slice q1 n c1,.slice q3 m c3]) 5).run Tryz.prog W=.ok (.slice q3 m c3) W:=by kernel_rfl
theorem evT {p:Pl} (hp:PlOk p) {C:Ab} (h:EndR p (fstA p) C) {i:Nat} (hi:i<C.m):u64ok (C.Z i).t:=by
 obtain ⟨B,hB,hZ,_⟩:=h.steps
 obtain ⟨A,k1,k2,k3,k4,k5,k6,k7,k8⟩:=hB.at hp hi
 rw [hZ]
 exact (k2.ev _ k6.1).t
set_option maxRecDepth 100000 in
set_option maxHeartbeats 4000000 in
theorem spans_bad (p:Pl) (v:PlV) (w:World) (h:PlAt w p v) (hr:RoomyL p) (c0:Int) (hc0:VC p c0) (hz:c0≠0):Calls Tryz.prog 6 #[.agg #[.int .i64 p.ki,.slice v.pp p.np v.pc,.slice v.tp p.nq v.tc,.slice v.sp p.ns v.sc,.int .u64 p.sd,.int .u64 p.lk,.int .u64 p.en,.int .i64 p.bu,.int .i64 p.fu]] w fun e w'=>e=.returned (.bool true)∧Below w.heap.size w w':=by
 obtain ⟨wb,hwb⟩: ∃wb,w.alloc (.cells #[.int .i64 p.ki,.slice v.pp p.np v.pc,.slice v.tp p.nq v.tc,.slice v.sp p.ns v.sc,.int .u64 p.sd,.int .u64 p.lk,.int .u64 p.en,.int .i64 p.bu,.int .i64 p.fu] 27)=wb:=⟨_,rfl⟩
 obtain ⟨hb0,hbox,hsz⟩:=boxed _ _ _ hwb
 have HH:Hid (w.alloc (.cells #[.int .i64 p.ki,.slice v.pp p.np v.pc,.slice v.tp p.nq v.tc,.slice v.sp p.ns v.sc,.int .u64 p.sd,.int .u64 p.lk,.int .u64 p.en,.int .i64 p.bu,.int .i64 p.fu] 27)=wb):=hwb
 have HA:=awake_any wb
 have HV: ∀W,Below wb.heap.size wb W→Hid (Calls Tryz.prog 19 #[.agg #[.int .i64 p.ki,.slice v.pp p.np v.pc,.slice v.tp p.nq v.tc,.slice v.sp p.ns v.sc,.int .u64 p.sd,.int .u64 p.lk,.int .u64 p.en,.int .i64 p.bu,.int .i64 p.fu]] W fun e w'=>e=.returned (.int .i64 c0)∧Below W.heap.size W w'):=fun W hb=>by
  refine (valid_any p v W ((h.below hb0).below hb)).mono ?_
  rintro e w' ⟨c,rfl,k1,k2⟩
  rw [k1.one hc0]
  exact ⟨rfl,k2⟩
 have KK: ∀W,Below wb.heap.size wb W→Hid (W.cell? ⟨w.heap.size,0,none⟩=some (.int .i64 p.ki)∧W.cell? ⟨w.heap.size,1,none⟩=some (.slice v.pp p.np v.pc)∧W.cell? ⟨w.heap.size,2,none⟩=some (.slice v.tp p.nq v.tc)∧W.cell? ⟨w.heap.size,3,none⟩=some (.slice v.sp p.ns v.sc)∧W.cell? ⟨w.heap.size,4,none⟩=some (.int .u64 p.sd)∧W.cell? ⟨w.heap.size,5,none⟩=some (.int .u64 p.lk)∧W.cell? ⟨w.heap.size,6,none⟩=some (.int .u64 p.en)∧W.cell? ⟨w.heap.size,7,none⟩=some (.int .i64 p.bu)∧W.cell? ⟨w.heap.size,8,none⟩=some (.int .i64 p.fu)):=fun W hb=>by
  have hx:=(hb.block _ (lt_of_block hbox)).trans hbox
  exact ⟨cell_in hx rfl,cell_in hx rfl,cell_in hx rfl,cell_in hx rfl,cell_in hx rfl,cell_in hx rfl,cell_in hx rfl,cell_in hx rfl,cell_in hx rfl⟩
 have HB:Hid (Below w.heap.size w wb∧wb.heap[w.heap.size]? =some (.cells #[.int .i64 p.ki,.slice v.pp p.np v.pc,.slice v.tp p.nq v.tc,.slice v.sp p.ns v.sc,.int .u64 p.sd,.int .u64 p.lk,.int .u64 p.en,.int .i64 p.bu,.int .i64 p.fu] 27 (0,0))):=⟨hb0,hbox⟩
 have HWI: ∀W,Below wb.heap.size wb W→Hid (Calls Tryz.prog 26 #[.agg #[.int .i64 p.ki,.slice v.pp p.np v.pc,.slice v.tp p.nq v.tc,.slice v.sp p.ns v.sc,.int .u64 p.sd,.int .u64 p.lk,.int .u64 p.en,.int .i64 p.bu,.int .i64 p.fu]] W fun r w'=>r=.returned (.slice none 0 0)∧Below W.heap.size W w'):=fun W hb=>windows_bad p v W ((h.below hb0).below hb) hr c0 hc0 hz
 have q0:(c0 !=0)=true:=by simpa using hz
 have q1:(c0==0)=false:=by simpa using hz
 clear hwb hb0 hbox hsz h hc0 hz hr
 go_enter Tryz.func6,Tryz.ntmps6
 go_wp2_with (first|(go_at_call 18;rw [HH.out];(with_reducible refine HA.mono ?_);rintro e w1 ⟨rfl,hb1⟩;obtain ⟨f0,f1,f2,f3,f4,f5,f6,f7,f8⟩:=(KK w1 hb1).out)|(go_at_call 19;(with_reducible refine (HV w1 hb1).out.mono ?_);rintro e w2 ⟨rfl,hb2'⟩;have hb2:Below wb.heap.size wb w2:=hb1.trans (hb2'.mono hb1.size);clear f0 f1 f2 f3 f4 f5 f6 f7 f8;obtain ⟨f0,f1,f2,f3,f4,f5,f6,f7,f8⟩:=(KK w2 hb2).out)|(go_at_call 26;(with_reducible refine (HWI w2 hb2).out.mono ?_);rintro e w3 ⟨rfl,hb3⟩))
 go_ret
 exact ⟨rfl,HB.out.1.trans ((hb2.trans (hb3.mono hb2.size)).mono HB.out.1.size)⟩
set_option maxRecDepth 100000 in
set_option maxHeartbeats 8000000 in
theorem spans_good (p:Pl) (v:PlV) (w:World) (h:PlAt w p v) (hr:RoomyL p) (hpl:PlOk p) (hlk:u64ok p.lk) (hen:u64ok p.en):Calls Tryz.prog 6 #[.agg #[.int .i64 p.ki,.slice v.pp p.np v.pc,.slice v.tp p.nq v.tc,.slice v.sp p.ns v.sc,.int .u64 p.sd,.int .u64 p.lk,.int .u64 p.en,.int .i64 p.bu,.int .i64 p.fu]] w fun e w'=>e=.returned (.bool true)∧Below w.heap.size w w':=by
 obtain ⟨c0,hcc⟩: ∃c0:Int,c0=0:=⟨_,rfl⟩
 have hc0:VC p c0:=by rw [hcc];exact okVC hpl
 obtain ⟨wb,hwb⟩: ∃wb,w.alloc (.cells #[.int .i64 p.ki,.slice v.pp p.np v.pc,.slice v.tp p.nq v.tc,.slice v.sp p.ns v.sc,.int .u64 p.sd,.int .u64 p.lk,.int .u64 p.en,.int .i64 p.bu,.int .i64 p.fu] 27)=wb:=⟨_,rfl⟩
 obtain ⟨hb0,hbox,hsz⟩:=boxed _ _ _ hwb
 have HH:Hid (w.alloc (.cells #[.int .i64 p.ki,.slice v.pp p.np v.pc,.slice v.tp p.nq v.tc,.slice v.sp p.ns v.sc,.int .u64 p.sd,.int .u64 p.lk,.int .u64 p.en,.int .i64 p.bu,.int .i64 p.fu] 27)=wb):=hwb
 have HA:=awake_any wb
 have HV: ∀W,Below wb.heap.size wb W→Hid (Calls Tryz.prog 19 #[.agg #[.int .i64 p.ki,.slice v.pp p.np v.pc,.slice v.tp p.nq v.tc,.slice v.sp p.ns v.sc,.int .u64 p.sd,.int .u64 p.lk,.int .u64 p.en,.int .i64 p.bu,.int .i64 p.fu]] W fun e w'=>e=.returned (.int .i64 c0)∧Below W.heap.size W w'):=fun W hb=>by
  refine (valid_any p v W ((h.below hb0).below hb)).mono ?_
  rintro e w' ⟨c,rfl,k1,k2⟩
  rw [k1.one hc0]
  exact ⟨rfl,k2⟩
 have KK: ∀W,Below wb.heap.size wb W→Hid (W.cell? ⟨w.heap.size,0,none⟩=some (.int .i64 p.ki)∧W.cell? ⟨w.heap.size,1,none⟩=some (.slice v.pp p.np v.pc)∧W.cell? ⟨w.heap.size,2,none⟩=some (.slice v.tp p.nq v.tc)∧W.cell? ⟨w.heap.size,3,none⟩=some (.slice v.sp p.ns v.sc)∧W.cell? ⟨w.heap.size,4,none⟩=some (.int .u64 p.sd)∧W.cell? ⟨w.heap.size,5,none⟩=some (.int .u64 p.lk)∧W.cell? ⟨w.heap.size,6,none⟩=some (.int .u64 p.en)∧W.cell? ⟨w.heap.size,7,none⟩=some (.int .i64 p.bu)∧W.cell? ⟨w.heap.size,8,none⟩=some (.int .i64 p.fu)):=fun W hb=>by
  have hx:=(hb.block _ (lt_of_block hbox)).trans hbox
  exact ⟨cell_in hx rfl,cell_in hx rfl,cell_in hx rfl,cell_in hx rfl,cell_in hx rfl,cell_in hx rfl,cell_in hx rfl,cell_in hx rfl,cell_in hx rfl⟩
 have HB:Hid (Below w.heap.size w wb∧wb.heap[w.heap.size]? =some (.cells #[.int .i64 p.ki,.slice v.pp p.np v.pc,.slice v.tp p.nq v.tc,.slice v.sp p.ns v.sc,.int .u64 p.sd,.int .u64 p.lk,.int .u64 p.en,.int .i64 p.bu,.int .i64 p.fu] 27 (0,0))):=⟨hb0,hbox⟩
 subst hcc
 have HR: ∀W,Below wb.heap.size wb W→Hid (Calls Tryz.prog 12 #[.agg #[.int .i64 p.ki,.slice v.pp p.np v.pc,.slice v.tp p.nq v.tc,.slice v.sp p.ns v.sc,.int .u64 p.sd,.int .u64 p.lk,.int .u64 p.en,.int .i64 p.bu,.int .i64 p.fu]] W fun r w'=> ∃(C:Ab) (kd cd:Int) (x:Se) (q1:Option Addr) (c1:Nat) (CC:Nat→Sa) (q3:Option Addr) (c3:Nat),EndR p (fstA p) C∧AOk2 p C∧ResK p C kd cd x∧r=.returned (.agg #[.int .i64 kd,.int .i64 cd,.int .u64 x.t,.int .i64 x.s,.int .u64 x.q,.int .i64 0,.slice q1 p.nq c1,.slice q3 C.m c3])∧(∃b rb,W.heap.size<b∧RsA w' b rb p C q1 CC q3 c3)∧Below W.heap.size W w'):=fun W hb=>sqRun_good p v W ((h.below hb0).below hb) hr (okVC hpl) hpl
 have HWI: ∀W,Below wb.heap.size wb W→Hid (Calls Tryz.prog 26 #[.agg #[.int .i64 p.ki,.slice v.pp p.np v.pc,.slice v.tp p.nq v.tc,.slice v.sp p.ns v.sc,.int .u64 p.sd,.int .u64 p.lk,.int .u64 p.en,.int .i64 p.bu,.int .i64 p.fu]] W fun r w'=> ∃(C:Ab) (lq:Option Addr) (lc:Nat),EndR p (fstA p) C∧AOk2 p C∧r=.returned (.slice lq (wnR p.lk p.en C.Z C.m).1 lc)∧Own w' (W.heap.size+1) 68 4 (.slice lq (wnR p.lk p.en C.Z C.m).1 lc) (wnR p.lk p.en C.Z C.m).1 (wiF (wnR p.lk p.en C.Z C.m).2)∧Below W.heap.size W w'):=fun W hb=>windows_good p v W ((h.below hb0).below hb) hr hpl hlk hen
 have HPL:Hid (PlOk p∧u64ok p.lk∧u64ok p.en):=⟨hpl,hlk,hen⟩
 clear hwb hb0 hbox hsz h hr hpl hc0 hlk hen
 go_enter Tryz.func6,Tryz.ntmps6
 go_upto_region 6 with (first|(go_at_call 18;rw [HH.out];(with_reducible refine HA.mono ?_);rintro e w1 ⟨rfl,hb1⟩;obtain ⟨f0,f1,f2,f3,f4,f5,f6,f7,f8⟩:=(KK w1 hb1).out)|(go_at_call 19;(with_reducible refine (HV w1 hb1).out.mono ?_);rintro e w2 ⟨rfl,hb2'⟩;have hb2:Below wb.heap.size wb w2:=hb1.trans (hb2'.mono hb1.size);clear f0 f1 f2 f3 f4 f5 f6 f7 f8;obtain ⟨f0,f1,f2,f3,f4,f5,f6,f7,f8⟩:=(KK w2 hb2).out)|(go_at_call 26;(with_reducible refine (HWI w2 hb2).out.mono ?_);rintro e w3 ⟨C,lq,lc,he1,ho1,rfl,hrow,hb3'⟩;have hb3:Below wb.heap.size wb w3:=hb2.trans (hb3'.mono hb2.size)))
 clear f0 f1 f2 f3 f4 f5 f6 f7 f8
 obtain ⟨f0,f1,f2,f3,f4,f5,f6,f7,f8⟩:=(KK w3 hb3).out
 obtain ⟨kk,hkk⟩: ∃kk,wnR p.lk p.en C.Z C.m=kk:=⟨_,rfl⟩
 rw [hkk] at hrow ⊢
 have hsp:=wn_sp HPL.out.1 he1 (i:=C.m) (Nat.le_refl _)
 rw [hkk] at hsp
 have hkl:=(wnR_le p.lk p.en C.Z C.m).1
 rw [hkk] at hkl
 obtain ⟨k,Q⟩:=kk
 have hsp:WSp p.lk p.en C.Z C.m k Q:=hsp
 have hkl:k≤C.m:=hkl
 have hrow:Own w3 (w2.heap.size+1) 68 4 (.slice lq k lc) k (wiF Q):=hrow
 have H3:Hid (EndR p (fstA p) C∧AOk2 p C∧WSp p.lk p.en C.Z C.m k Q∧Own w3 (w2.heap.size+1) 68 4 (.slice lq k lc) k (wiF Q)∧Below wb.heap.size wb w3∧k≤C.m):=⟨he1,ho1,hsp,hrow,hb3,hkl⟩
 show Code.wp _ _ _ _ _
 clear he1 ho1 hkk hsp hrow hb3' hb1 hb2' hb2 hkl
 go_upto_region 7 with (go_at_call 12;(with_reducible refine (HR w3 hb3).out.mono ?_);rintro e w4 ⟨C',kd,cd,x,q1,c1,CC,q3,c3,he2,ho2,hk2,rfl,⟨b,rb,hlb,hrs⟩,hb4'⟩;have fe:=field_trc kd cd x.t x.s x.q 0 q1 q3 p.nq C'.m c1 c3)
 obtain rfl:=H3.out.1.one he2
 have hb4:Below wb.heap.size wb w4:=hb3.trans (hb4'.mono hb3.size)
 have hm4:=ho2.m
 have H4:Hid (Own w4 (w2.heap.size+1) 68 4 (.slice lq k lc) k (wiF Q)∧SIn w4 q3 C.m C.Z∧Below wb.heap.size wb w4∧w4.heap[w.heap.size]? =some (.cells #[.int .i64 p.ki,.slice v.pp p.np v.pc,.slice v.tp p.nq v.tc,.slice v.sp p.ns v.sc,.int .u64 p.sd,.int .u64 p.lk,.int .u64 p.en,.int .i64 p.bu,.int .i64 p.fu] 27 (0,0))∧(C.m:Int)≤4096):=⟨H3.out.2.2.2.1.later hb4',hrs.tr,hb4,(hb4.block _ (lt_of_block HB.out.2)).trans HB.out.2,hm4⟩
 clear f0 f1 f2 f3 f4 f5 f6 f7 f8 he2 ho2 hk2 hlb hrs hb4' hb4 hm4 hb3 HA HV HR HWI KK HH fe
 go_wp2_with fail
 go_loopw [5,6] (fun x5 x6 wr=> ∃i:Nat,x6=.int .i64 (i:Int)∧x5=.int .i64 ((stW Q i:Nat):Int)∧i≤k∧Below w4.heap.size w4 wr) (fun _ x6 _=>k-(intOf x6).toNat)
 case atStart=>exact ⟨0,rfl,rfl,Nat.zero_le _,Below.refl _ _⟩
 case round=>
  obtain ⟨i,rfl,rfl,hi,hbr⟩:=hrel
  have hkm:=H3.out.2.2.2.2.2
  have hm4:=H4.out.2.2.2.2
  by_cases hlt:i<k
  case pos=>
   obtain ⟨wo,rfl⟩: ∃wo,wo=wr:=⟨_,rfl⟩
   obtain ⟨a,b,ev,lo,bd,w1',w2',w3',w4',w5',w6',w7,w8,w9,w10,w11,w12,w13,w14,w15,w16,w17⟩:=H3.out.2.2.1.all HPL.out.1 H3.out.1 hlt
   have dlt:decide ((i:Int)<(k:Int))=true:=decide_eq_true (by omega)
   have dlt':decide (i<k)=true:=decide_eq_true hlt
   have i0:(0:Int)≤(i:Int):=by omega
   have i1:(i:Int)<(k:Int):=by omega
   have ei:IntKind.i64.wrap ((i:Int)+1)=(i:Int)+1:=by rw [IntKind.wrap_i64];omega
   have HM:=meas hlt
   obtain ⟨g,hg⟩: ∃g,lq=some ⟨g,0,none⟩:=by
    rcases Own.form H4.out.1 with ⟨_,h9⟩|⟨g9,c9,h9,_⟩
    ·omega
    ·injection h9 with h9
     exact ⟨g9,h9⟩
   subst hg
   obtain ⟨s0,s1,s2,s3⟩:=WRow.cells (H4.out.1.later hbr) hlt
   rw [w3'] at s0
   rw [w5'] at s1
   rw [w6'] at s2
   rw [w4'] at s3
   obtain ⟨tg,tof,hq3,htl,tc⟩:=(H4.out.2.1.below hbr).at (show a<C.m by omega)
   subst hq3
   obtain ⟨w5,hw5⟩: ∃w5,wo.alloc (.cells #[.int .i64 ((i:Int)+1),.int .u64 lo,.int .u64 bd,.int .i64 ev] 68)=w5:=⟨_,rfl⟩
   obtain ⟨hb5,hx5,hsz5⟩:=boxed _ _ _ hw5
   have HW5:Hid (wo.alloc (.cells #[.int .i64 ((i:Int)+1),.int .u64 lo,.int .u64 bd,.int .i64 ev] 68)=w5):=hw5
   obtain ⟨g5,hg5⟩: ∃g5,wo.heap.size=g5:=⟨_,rfl⟩
   have HG5:Hid (wo.heap.size=g5):=hg5
   rw [hg5] at hx5
   have hbr5:Below w4.heap.size w4 w5:=hbr.trans (hb5.mono hbr.size)
   have TR:Hid (∀W,Below w5.heap.size w5 W→ ∀e,e<C.m→W.cell? ⟨tg,tof+e*6,none⟩=some (.int .u64 (C.Z e).t)):=fun W hb e he=>by
    obtain ⟨tg',tof',hq',_,tc',_⟩:=((H4.out.2.1.below hbr5).below hb).at he
    injection hq' with hq'
    injection hq' with z1 z2
    subst z1
    subst z2
    exact tc'
   have WB:Hid (∀W,Below w5.heap.size w5 W→(W.cell? ⟨g5,0,none⟩=some (.int .i64 ((i:Int)+1))∧W.cell? ⟨g5,1,none⟩=some (.int .u64 lo)∧W.cell? ⟨g5,2,none⟩=some (.int .u64 bd)∧W.cell? ⟨g5,3,none⟩=some (.int .i64 ev))∧W.cell? ⟨w.heap.size,5,none⟩=some (.int .u64 p.lk)∧W.cell? ⟨w.heap.size,6,none⟩=some (.int .u64 p.en)):=fun W hb=>by
    have e1:=(hb.block _ (lt_of_block hx5)).trans hx5
    have hbW:Below w4.heap.size w4 W:=hbr5.trans (hb.mono hbr5.size)
    have e2:=(hbW.block _ (lt_of_block H4.out.2.2.2.1)).trans H4.out.2.2.2.1
    exact ⟨⟨cell_in e1 rfl,cell_in e1 rfl,cell_in e1 rfl,cell_in e1 rfl⟩,cell_in e2 rfl,cell_in e2 rfl⟩
   obtain ⟨⟨b0,b1,b2,b3⟩,b5,b6⟩:=WB.out w5 (Below.refl _ _)
   have ta:=TR.out w5 (Below.refl _ _) a (by omega)
   rw [w11] at ta
   have hlo0:u64ok lo:=by
    rw [←w11]
    have:=(H3.out.1.cause HPL.out.1 (i:=a) (by omega))
    exact evT HPL.out.1 H3.out.1 (by omega)
   have hen9:=HPL.out.2.2.2
   have hlo9:=hlo0.1
   have d1:decide (ev<1)=false:=decide_eq_false (by omega)
   have e1:IntKind.i64.wrap ((a:Int)+ev)=(b:Int):=by rw [IntKind.wrap_i64];omega
   have d2:decide ((b:Int)>(C.m:Int))=false:=decide_eq_false (by omega)
   have d2':decide ((C.m:Int)<(b:Int))=false:=decide_eq_false (by omega)
   have d2'':decide (C.m<b)=false:=decide_eq_false (by omega)
   have ia0:(0:Int)≤(a:Int):=by omega
   have ia1:(a:Int)<(C.m:Int):=by omega
   have d3:decide (bd>p.en)=false:=decide_eq_false (by omega)
   have d3':decide (p.en<bd)=false:=decide_eq_false (by omega)
   have d4:decide (bd≤lo)=false:=decide_eq_false (by omega)
   have e5:IntKind.u64.wrap (bd-lo)=bd-lo:=by simp only [IntKind.wrap,IntKind.bits,IntKind.signed];simp;omega
   have d6:decide (bd-lo>p.lk)=false:=decide_eq_false (by omega)
   have d6':decide (p.lk<bd-lo)=false:=decide_eq_false (by omega)
   have n1:(((i:Int)+1) !=((i:Int)+1))=false:=by simp
   have n2:(lo !=lo)=false:=by simp
   have HX:Hid ((∀e,a≤e→e<b→lo≤(C.Z e).t∧(C.Z e).t<bd)∧(b<C.m→i+1<k∧bd≤(C.Z b).t)∧stW Q i=a∧stW Q (i+1)=b∧a<b∧b≤C.m∧(a:Int)+ev=(b:Int)∧Below w4.heap.size w4 w5∧C.m≤4096∧Below wo.heap.size wo w5):=⟨w16,w17,w1',w2',w9,w10,w8,hbr5,by omega,hb5⟩
   rw [w1']
   obtain ⟨bb,hbb⟩: ∃bb,(bd !=p.en)=bb:=⟨_,rfl⟩
   have e7:bb=true→(bd-lo !=p.lk)=false:=fun e9=>by
    rw [e9] at hbb
    rcases w14 with h9|h9
    ·rw [h9] at hbb;simp at hbb
    ·rw [h9];simp
   clear hi hbr hkm hm4 w1' w2' w3' w4' w5' w6' w7 w8 w9 w10 w11 w12 w13 w14 w15 w16 w17 htl tc hw5 hb5 hx5 hsz5 hg5 hbr5 hlo0 hen9 hlo9
   go_upto_region 12 with fail
   rw [HW5.out,HG5.out]
   go_quiet (fail)
   obtain ⟨w6,hw6⟩: ∃w6,w5.drewN nq=w6:=⟨_,rfl⟩
   have hb6:Below w5.heap.size w5 w6:=by rw [←hw6];exact below_drewNq _ _ _
   rw [hw6]
   obtain ⟨⟨x0,x1,x2,x3⟩,x5,x6⟩:=WB.out w6 hb6
   have HB6:Hid (Below w5.heap.size w5 w6):=hb6
   clear hw6 hb6 b0 b1 b2 b3 b5 b6 ta s0 s1 s2 s3
   have tail:True:=trivial
   cases bb
   case' true=>have e8:=e7 rfl
   all_goals (
    clear e7
    go_wp2_with fail
    go_loopw [8] (fun x8 wr=> ∃e:Nat,x8=.int .i64 (e:Int)∧a≤e∧e≤b∧Below w6.heap.size w6 wr) (fun x8 _=>b-(intOf x8).toNat)
    case atStart=>exact ⟨a,rfl,Nat.le_refl _,Nat.le_of_lt HX.out.2.2.2.2.1,Below.refl _ _⟩
    case round=>
     obtain ⟨e,rfl,ha,hb,hbr6⟩:=hrel
     have hbr5:Below w5.heap.size w5 wr:=HB6.out.trans (hbr6.mono HB6.out.size)
     obtain ⟨⟨y0,y1,y2,y3⟩,y5,y6⟩:=WB.out wr hbr5
     by_cases hle:e<b
     case pos=>
      obtain ⟨z1,z2,z3,z4,z5,z6,z7,z8,z9,z10⟩:=HX.out
      have te:=TR.out wr hbr5 e (by omega)
      obtain ⟨t1,t2⟩:=z1 e ha hle
      obtain ⟨tt,htt⟩: ∃tt,(C.Z e).t=tt:=⟨_,rfl⟩
      rw [htt] at te t1 t2
      have f1:decide ((e:Int)<(b:Int))=true:=decide_eq_true (by omega)
      have f1':decide (e<b)=true:=decide_eq_true hle
      have f2:(0:Int)≤(e:Int):=by omega
      have f3:(e:Int)<(C.m:Int):=by omega
      have f4:decide (tt<lo)=false:=decide_eq_false (by omega)
      have f5:decide (tt≥bd)=false:=decide_eq_false (by omega)
      have f5':decide (bd≤tt)=false:=decide_eq_false (by omega)
      have f6:IntKind.i64.wrap ((e:Int)+1)=(e:Int)+1:=by rw [IntKind.wrap_i64];omega
      have HM2:=meas hle
      have HBR:Hid (Below w6.heap.size w6 wr):=hbr6
      have hae:a≤e+1:=by omega
      have heb:e+1≤b:=hle
      clear z1 z2 z3 z4 z5 z6 z7 z8 z9 z10 t1 t2 htt ha hb hle hbr6 hbr5
      go_upto_region 19 with fail
      go_quiet (fail)
      go_wp2_with fail
      exact ⟨⟨e+1,rfl,hae,heb,HBR.out.trans ((below_drewNq _ _ _:Below wr.heap.size wr (wr.drewN _)).mono HBR.out.size)⟩,HM2⟩
     case neg=>
      obtain rfl:e=b:=by omega
      have f1:decide ((e:Int)<(e:Int))=false:=decide_eq_false (by omega)
      have f1':decide (e<e)=false:=decide_eq_false (by omega)
      obtain ⟨z1,z2,z3,z4,z5,z6,z7,z8,z9,z10⟩:=HX.out
      have HBR:Hid (Below w4.heap.size w4 wr∧stW Q (i+1)=e):=⟨z8.trans (hbr5.mono z8.size),z4⟩
      have hi1:i+1≤k:=hlt
      by_cases hbm:e<C.m
      case pos=>
       have te:=TR.out wr hbr5 e hbm
       obtain ⟨_,t2⟩:=z2 hbm
       obtain ⟨tt,htt⟩: ∃tt,(C.Z e).t=tt:=⟨_,rfl⟩
       rw [htt] at te t2
       have f2:(0:Int)≤(e:Int):=by omega
       have f3:(e:Int)<(C.m:Int):=by omega
       have f4:decide ((e:Int)<(C.m:Int))=true:=decide_eq_true f3
       have f4':decide (e<C.m)=true:=decide_eq_true hbm
       have f5:decide (tt<bd)=false:=decide_eq_false (by omega)
       clear z1 z2 z3 z4 z5 z6 z7 z8 z9 z10 t2 htt ha hb hle hbr6 hbr5 hlt
       go_upto_region 22 with fail
       go_quiet (fail)
       go_wp2_with fail
       exact ⟨⟨i+1,rfl,by rw [HBR.out.2],hi1,HBR.out.1.trans ((below_drewNq _ _ _:Below wr.heap.size wr (wr.drewN _)).mono HBR.out.1.size)⟩,HM⟩
      case neg=>
       have f4:decide ((e:Int)<(C.m:Int))=false:=decide_eq_false (by omega)
       have f4':decide (e<C.m)=false:=decide_eq_false hbm
       clear z1 z2 z3 z4 z5 z6 z7 z8 z9 z10 ha hb hle hbr6 hbr5 hlt hbm
       go_upto_region 22 with fail
       go_quiet (fail)
       go_wp2_with fail
       exact ⟨⟨i+1,rfl,by rw [HBR.out.2],hi1,HBR.out.1.trans ((below_drewNq _ _ _:Below wr.heap.size wr (wr.drewN _)).mono HBR.out.1.size)⟩,HM⟩)
  case neg=>
   obtain rfl:i=k:=by omega
   have dlt:decide ((i:Int)<(i:Int))=false:=decide_eq_false (by omega)
   have dlt':decide (i<i)=false:=decide_eq_false (by omega)
   rw [H3.out.2.2.1.sum]
   have HE:Hid (Below w.heap.size w wr):=by
    have z:=H4.out.2.2.1
    have z2:Below wb.heap.size wb wr:=z.trans (hbr.mono z.size)
    exact HB.out.1.trans (z2.mono HB.out.1.size)
   have ee:((C.m:Int)==(C.m:Int))=true:=by simp
   clear hbr hi hlt hkm hm4
   go_wp2_with fail
   go_ret
   exact ⟨rfl,HE.out⟩
theorem spans_law (p:Pl) (v:PlV) (w:World) (h:PlAt w p v) (hr:RoomyL p) (hok:VC p 0→PlOk p) (hlk:u64ok p.lk) (hen:u64ok p.en):Calls Tryz.prog 6 #[.agg #[.int .i64 p.ki,.slice v.pp p.np v.pc,.slice v.tp p.nq v.tc,.slice v.sp p.ns v.sc,.int .u64 p.sd,.int .u64 p.lk,.int .u64 p.en,.int .i64 p.bu,.int .i64 p.fu]] w fun e w'=>e=.returned (.bool true)∧Below w.heap.size w w':=by
 obtain ⟨c0,hc0⟩:=VC.some p
 by_cases hz:c0=0
 ·subst hz
  exact spans_good p v w h hr (hok hc0) hlk hen
 ·exact spans_bad p v w h hr c0 hc0 hz
end Go.Proofs.YtecgecpgmpmkoaaGreat
