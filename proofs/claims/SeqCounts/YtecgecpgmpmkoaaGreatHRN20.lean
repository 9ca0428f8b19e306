import Derived.Test.YtecgecpgmpmkoaaGreatHRN15
import Derived.Test.YtecgecpgmpmkoaaGreatHRN13
import Derived.Test.YtecgecpgmpmkoaaGreatHRN17
import Derived.Test.YtecgecpgmpmkoaaGreatHSV6
namespace Go.Proofs.YtecgecpgmpmkoaaGreat
open Go.ChangeShapes Go.WideShapes Go.ChangeAt Go.RowKit
set_option linter.unusedVariables false
set_option linter.unusedSimpArgs false
def cwP:Pg:=⟨1,0,9,fun i=> [1,11,1,39,3,1,13,4,0].getD i 0,fun i=> [0,0,5,0,0,1,0,0,0].getD i 0,fun _=>0,1,fun _=>0⟩
def cwK (j i:Nat):Int:=if j=1∧i=0 then 10 else 0
def cwS (i:Nat):St:=if i=0 then ⟨0,0,0,1⟩ else ⟨3,1,0,2⟩
def cw:Pl:= { ki:=1,np:=1,P:=fun _=>cwP,nq:=2,pr:=fun _=>0,nw:=fun _=>1,K:=cwK,ns:=2,S:=cwS,sd:=7,lk:=5,en:=14,bu:=100,fu:=20 }
theorem cw_op {i:Nat} (h:i<9):i=0∨i=1∨i=2∨i=3∨i=4∨i=5∨i=6∨i=7∨i=8:=by omega
theorem cw_rch {i:Nat} (h:Rch cwP i):i≤8:=by
 induction h with
 |entry j hj h=>exact Nat.zero_le _
 |next i h hi he ih=>
  rcases cw_op hi with rfl|rfl|rfl|rfl|rfl|rfl|rfl|rfl|rfl
  all_goals first|omega|(exfalso;revert he;decide)
 |jump i h hi he ih=>
  exfalso
  rcases cw_op hi with rfl|rfl|rfl|rfl|rfl|rfl|rfl|rfl|rfl
  all_goals (revert he;decide)
def cwD (i:Nat):Int:= [0,1,2,3,0,1,2,1,0].getD i 0
theorem cw_dp {i:Nat} {d:Int} (h:Dp cwP i d):d=cwD i:=by
 induction h with
 |entry j hj h=>rfl
 |next i d h hi hf he ih=>
  subst ih
  rcases cw_op hi with rfl|rfl|rfl|rfl|rfl|rfl|rfl|rfl|rfl
  all_goals first|rfl|(exfalso;revert he;decide)
 |jump i d h hi hf he ih=>
  exfalso
  rcases cw_op hi with rfl|rfl|rfl|rfl|rfl|rfl|rfl|rfl|rfl
  all_goals (revert he;decide)
theorem cw_code:dcode cwP 1=0:=by
 unfold dcode
 rw [if_neg (by decide),if_neg (by decide),if_neg (by decide),if_neg (fun h=>by have:=cw_rch h;exact absurd this (by decide))]
 refine if_neg ?_
 rintro (⟨i,d,h,hi,hf⟩|⟨i,d,d',h,h',hi,hne⟩)
 ·rw [cw_dp h] at hf
  rcases cw_op hi with rfl|rfl|rfl|rfl|rfl|rfl|rfl|rfl|rfl
  all_goals (revert hf;decide)
 ·exact hne ((cw_dp h).trans (cw_dp h').symm)
theorem cw_ok:PlOk cw:=by
 refine ⟨by decide,⟨by decide,fun j _=>cw_code⟩,⟨by decide,fun j _=>⟨show (0:Int)≤0 by decide,show (0:Int)<((1:Nat):Int) by decide,rfl⟩⟩,⟨by decide,fun j hj=> ?_⟩,by decide,by decide,by decide,fun j _ i hi=> ?_,fun j _ i=> ?_,fun j hj=> ?_⟩
 ·have:j=0∨j=1:=by have:j<2:=hj;omega
  rcases this with rfl|rfl
  ·exact ⟨⟨by decide,by decide⟩,by decide,by decide⟩
  ·exact ⟨⟨by decide,by decide⟩,by decide,by decide⟩
 ·rcases cw_op hi with rfl|rfl|rfl|rfl|rfl|rfl|rfl|rfl|rfl
  all_goals (refine (show In64 (cwP.a _) from ⟨?_,?_⟩)<;>decide)
 ·show In64 (cwK j i)
  unfold cwK In64
  split<;>omega
 ·show u64ok (cwS j).t∧In64 (cwS j).v
  unfold cwS In64 u64ok
  split<;>(constructor<;>(constructor<;>decide))
theorem cw_vc:VC cw 0:=by
 have h:=cw_ok
 exact .inr ⟨by decide,.inr ⟨h.gp,.inr ⟨h.gt,.inr ⟨h.gs,.inr ⟨by decide,.inr ⟨by decide,.inr ⟨by decide,rfl⟩⟩⟩⟩⟩⟩⟩
theorem wrap64_id {x:Int} (h:In64 x):wrap64 x=x:=by
 unfold In64 at h
 unfold wrap64
 omega
theorem cw_run (cl:Cl) (K:Nat→Int) (d s:Int) (hp:cl.parts=2) (hl:cl.look=5) (hd:cl.dst=0∨cl.dst=1) (ht:0≤cl.time∧cl.time≤1000) (hk: -1000≤K 0∧K 0≤1000) (hs:0≤s∧s≤1000):
  ∃M:Mc,runP cwP cl 20 0 (newM K d s (.slice none 0 0))=(0,M)∧M.wd 0=K 0+1∧M.dice=d∧M.sent=s+1∧M.on=1∧M.oF 0=.int .u64 (cl.time+5)∧M.oF 1=.int .i64 cl.dst∧M.oF 2=.int .u64 s∧M.oF 3=.int .i64 cl.dst∧M.oF 4=.int .i64 0∧M.oF 5=.int .i64 0:=by
 have hu:u64of 5=5:=by decide
 rw [runP_go (k:=19) (i:=0) (by decide) rfl,runP_go (k:=18) (by decide) rfl,runP_go (k:=17) (by decide) rfl]
 obtain ⟨M3,hM3⟩: ∃M3,doM cl (usM (doM cl (usM (doM cl (usM (newM K d s (.slice none 0 0))) (cwP.op 0) (cwP.a 0) (cwP.b 0))) (cwP.op (0+1)) (cwP.a (0+1)) (cwP.b (0+1)))) (cwP.op (0+1+1)) (cwP.a (0+1+1)) (cwP.b (0+1+1))=M3:=⟨_,rfl⟩
 have t1:topM (usM M3)=5:=by rw [←hM3];rfl
 have t2:topM (popM (usM M3))=cl.dst:=by rw [←hM3];rfl
 have t3:(usM M3).on=0:=by rw [←hM3];rfl
 have hf:doF cl (usM M3) (cwP.op (0+1+1+1)) (cwP.a (0+1+1+1)) (cwP.b (0+1+1+1))=0:=by
  show sendF cl (usM M3) (topM (usM M3)) (topM (popM (usM M3)))=0
  rw [t1,t2]
  unfold sendF
  rw [if_neg (by omega),hu,if_neg (by omega),if_neg (by rw [t3];decide),if_neg]
  unfold addE
  rw [if_pos (by omega)]
  decide
 rw [hM3,runP_go (k:=16) (by decide) hf]
 rw [runP_go (k:=15) (by decide) rfl,runP_go (k:=14) (by decide) rfl,runP_go (k:=13) (by decide) rfl,runP_go (k:=12) (by decide) rfl,runP_stop (k:=11) (by decide)]
 refine ⟨_,rfl,?_,?_,?_,?_,?_,?_,?_,?_,?_,?_⟩
 all_goals subst hM3
 ·show wrap64 (K 0+1)=K 0+1
  exact wrap64_id (by unfold In64;omega)
 ·rfl
 ·show u64of (s+1)=s+1
  unfold u64of
  rw [IntKind.wrap_u64]
  omega
 ·rfl
 ·show Value.int .u64 (addN cl.time (u64of 5))=_
  rw [hu]
  unfold addN
  rw [if_pos (by omega)]
 all_goals rfl
theorem cw_eff (e:Se) (A:Ab) (hd:e.d=0∨e.d=1) (hk:e.k=0) (ht:0≤e.t∧e.t≤1000) (h1: -1000≤A.K e.d.toNat 0∧A.K e.d.toNat 0≤1000) (h2:0≤A.s e.d.toNat∧A.s e.d.toNat≤1000):
  (effA cw A e).code=0∧(effA cw A e).wd 0=A.K e.d.toNat 0+1∧(effA cw A e).sent=A.s e.d.toNat+1∧(effA cw A e).on=1∧outS (effA cw A e) 0=⟨e.t+5,e.d,A.s e.d.toNat,e.d,0,0⟩:=by
 obtain ⟨M,hM,a1,a2,a3,a4,a5,a6,a7,a8,a9,a10⟩:=cw_run (clA cw e) (A.K e.d.toNat) (A.d e.d.toNat) (A.s e.d.toNat) rfl rfl hd ht h1 h2
 have hro:runOf cwP (clA cw e) (A.K e.d.toNat) (A.d e.d.toNat) (A.s e.d.toNat)=(0,M):=hM
 have hfit:fitsB cwP (clA cw e) 1=true:=by
  unfold fitsB
  have e1:(clA cw e).parts=2:=rfl
  have e2:(clA cw e).dst=e.d:=rfl
  have e3:(clA cw e).kind=0:=hk
  have e4:(clA cw e).fuel=20:=rfl
  rw [e1,e2,e3,e4]
  rcases hd with h|h<;>rw [h]<;>decide
 have hE:effA cw A e=⟨0,1,M.wd,M.dice,M.sent,M.on,M.oF,M.used⟩:=by
  show effP cwP (clA cw e) 1 (A.K e.d.toNat) (A.d e.d.toNat) (A.s e.d.toNat)=_
  unfold effP
  rw [if_neg (by rw [show dcode cwP cwP.m=0 from cw_code];decide),if_neg (by rw [hfit];decide),if_neg (show ¬cwP.en (clA cw e).kind.toNat= -1 from (by decide: ¬(0:Int)= -1)),hro,if_neg (show ¬((0,M):Int×Mc).1≠0 from (by decide: ¬((0:Int)≠0)))]
 rw [hE]
 refine ⟨rfl,a1,a3,a4,?_⟩
 show (⟨intOf (M.oF (0*6)),intOf (M.oF (0*6+1)),intOf (M.oF (0*6+2)),intOf (M.oF (0*6+3)),intOf (M.oF (0*6+4)),intOf (M.oF (0*6+5))⟩:Se)=_
 rw [show 0*6=0 from rfl,Nat.zero_add,Nat.zero_add,Nat.zero_add,Nat.zero_add,Nat.zero_add,a5,a6,a7,a8,a9,a10]
 rfl
structure CwS (A:Ab) (i:Nat) (a b:Se) (k0 k1 s0 s1:Int):Prop where
 f:A.f=0
 m:A.m=i
 M: ∀x,A.M x↔x=a∨x=b
 K0:A.K 0 0=k0
 K1:A.K 1 0=k1
 s0:A.s 0=s0
 s1:A.s 1=s1
theorem cw_step {A:Ab} {i:Nat} {a b:Se} {k0 k1 s0 s1:Int} (h:CwS A i a b k0 k1 s0 s1) (hi:i<50) (hab:klt a b=true) (ht:0≤a.t∧a.t<14) (hk:a.k=0) (hd:a.d=0∨a.d=1) (r0:0≤k0∧k0≤500) (r1:0≤k1∧k1≤500) (q0:0≤s0∧s0≤500) (q1:0≤s1∧s1≤500) (hb:b.t≠a.t):
  StepR cw A a 0 (nextA cw A a)∧(a.d=0→CwS (nextA cw A a) (i+1) b ⟨a.t+5,0,s0,0,0,0⟩ (k0+1) k1 (s0+1) s1)∧(a.d=1→CwS (nextA cw A a) (i+1) b ⟨a.t+5,1,s1,1,0,0⟩ k0 (k1+1) s0 (s1+1)):=by
 have hl:Lst A.M a:=⟨(h.M a).2 (.inl rfl),fun x hx hne=>by
  rcases (h.M x).1 hx with rfl|rfl
  ·exact absurd rfl hne
  ·exact hab⟩
 have hne:b≠a:=fun e=>hb (by rw [e])
 have hov: ¬Over cw A:=by
  rintro (e|e|e)
  ·exact e h.f
  ·have h9:(14:Int)≤a.t:=e a ((h.M a).2 (.inl rfl))
   omega
  ·have h9:(100:Int)≤(A.m:Int):=e
   rw [h.m] at h9
   omega
 have hKr: -1000≤A.K a.d.toNat 0∧A.K a.d.toNat 0≤1000:=by
  rcases hd with e|e
  ·rw [e]
   show -1000≤A.K 0 0∧A.K 0 0≤1000
   rw [h.K0];omega
  ·rw [e]
   show -1000≤A.K 1 0∧A.K 1 0≤1000
   rw [h.K1];omega
 have hSr:0≤A.s a.d.toNat∧A.s a.d.toNat≤1000:=by
  rcases hd with e|e
  ·rw [e]
   show 0≤A.s 0∧A.s 0≤1000
   rw [h.s0];omega
  ·rw [e]
   show 0≤A.s 1∧A.s 1≤1000
   rw [h.s1];omega
 have hE:=cw_eff a A hd hk (by omega) hKr hSr
 obtain ⟨e1,e2,e3,e4,e5⟩:=hE
 have hM: ∀x,(nextA cw A a).M x↔x=b∨x=⟨a.t+5,a.d,A.s a.d.toNat,a.d,0,0⟩:=fun x=>by
  show ((A.M x∧x≠a)∨InX (effA cw A a).on (outS (effA cw A a)) x)↔_
  rw [e4]
  constructor
  ·rintro (⟨h1,h2⟩|⟨j,hj,rfl⟩)
   ·rcases (h.M x).1 h1 with rfl|rfl
    ·exact absurd rfl h2
    ·exact .inl rfl
   ·rw [show j=0 by omega,e5]
    exact .inr rfl
  ·rintro (rfl|rfl)
   ·exact .inl ⟨(h.M _).2 (.inr rfl),hne⟩
   ·exact .inr ⟨0,by omega,e5⟩
 refine ⟨.inr ⟨hov,a,hl,.inr ⟨e1,rfl,rfl,rfl⟩⟩,fun e=> ?_,fun e=> ?_⟩
 ·rw [e] at e2 e3 hM
  refine ⟨h.f,by show A.m+1=i+1;rw [h.m],fun x=> ?_,?_,?_,?_,?_⟩
  ·have:=hM x
   rw [show A.s (0:Int).toNat=s0 from h.s0] at this
   exact this
  ·show (if 0=a.d.toNat then (effA cw A a).wd else A.K 0) 0=k0+1
   rw [e,if_pos (by decide),e2]
   show A.K 0 0+1=_
   rw [h.K0]
  ·show (if 1=a.d.toNat then (effA cw A a).wd else A.K 1) 0=k1
   rw [e,if_neg (by decide)]
   exact h.K1
  ·show (if 0=a.d.toNat then (effA cw A a).sent else A.s 0)=s0+1
   rw [e,if_pos (by decide),e3]
   show A.s 0+1=_
   rw [h.s0]
  ·show (if 1=a.d.toNat then (effA cw A a).sent else A.s 1)=s1
   rw [e,if_neg (by decide)]
   exact h.s1
 ·rw [e] at e2 e3 hM
  refine ⟨h.f,by show A.m+1=i+1;rw [h.m],fun x=> ?_,?_,?_,?_,?_⟩
  ·have:=hM x
   rw [show A.s (1:Int).toNat=s1 from h.s1] at this
   exact this
  ·show (if 0=a.d.toNat then (effA cw A a).wd else A.K 0) 0=k0
   rw [e,if_neg (by decide)]
   exact h.K0
  ·show (if 1=a.d.toNat then (effA cw A a).wd else A.K 1) 0=k1+1
   rw [e,if_pos (by decide),e2]
   show A.K 1 0+1=_
   rw [h.K1]
  ·show (if 0=a.d.toNat then (effA cw A a).sent else A.s 0)=s0
   rw [e,if_neg (by decide)]
   exact h.s0
  ·show (if 1=a.d.toNat then (effA cw A a).sent else A.s 1)=s1+1
   rw [e,if_pos (by decide),e3]
   show A.s 1+1=_
   rw [h.s1]
theorem cw_first:CwS (fstA cw) 0 ⟨0,0,0,0,0,1⟩ ⟨3,1,0,1,0,2⟩ 0 10 1 1:=by
 refine ⟨rfl,rfl,fun x=> ?_,rfl,rfl,by decide,by decide⟩
 show InX 2 (evS cwS) x↔_
 have x0:evS cwS 0=⟨0,0,0,0,0,1⟩:=rfl
 have x1:evS cwS 1=⟨3,1,0,1,0,2⟩:=rfl
 constructor
 ·rintro ⟨j,hj,rfl⟩
  have:j=0∨j=1:=by omega
  rcases this with rfl|rfl
  ·exact .inl x0
  ·exact .inr x1
 ·rintro (rfl|rfl)
  ·exact ⟨0,by decide,x0⟩
  ·exact ⟨1,by decide,x1⟩
theorem cw_end {C:Ab} (h:EndR cw (fstA cw) C):C.f=0∧C.m=6∧Idle cw C∧C.Z 0=⟨0,0,0,0,0,1⟩∧C.Z 5=⟨13,1,2,1,0,0⟩∧C.s 0=4∧C.s 1=4∧C.K 1 0=13:=by
 have g0:=cw_step cw_first (by decide) (by decide) (by decide) rfl (.inl rfl) (by decide) (by decide) (by decide) (by decide) (by decide)
 have h1:=g0.2.1 rfl
 have g1:=cw_step h1 (by decide) (by decide) (by decide) rfl (.inr rfl) (by decide) (by decide) (by decide) (by decide) (by decide)
 have h2:=g1.2.2 rfl
 have g2:=cw_step h2 (by decide) (by decide) (by decide) rfl (.inl rfl) (by decide) (by decide) (by decide) (by decide) (by decide)
 have h3:=g2.2.1 rfl
 have g3:=cw_step h3 (by decide) (by decide) (by decide) rfl (.inr rfl) (by decide) (by decide) (by decide) (by decide) (by decide)
 have h4:=g3.2.2 rfl
 have g4:=cw_step h4 (by decide) (by decide) (by decide) rfl (.inl rfl) (by decide) (by decide) (by decide) (by decide) (by decide)
 have h5:=g4.2.1 rfl
 have g5:=cw_step h5 (by decide) (by decide) (by decide) rfl (.inr rfl) (by decide) (by decide) (by decide) (by decide) (by decide)
 have h6:=g5.2.2 rfl
 have hst:=(((((StepsR.zero.more g0.1).more g1.1).more g2.1).more g3.1).more g4.1).more g5.1
 have hid:Idle cw _:=fun x hx=>by
  rcases (h6.M x).1 hx with rfl|rfl
  ·show (14:Int)≤0+5+5+5;decide
  ·show (14:Int)≤3+5+5+5;decide
 have hend:EndR cw (fstA cw) _:=⟨6,_,zeroE,128,hst,.inl ⟨.inr (.inl hid),rfl,rfl,rfl⟩,by decide⟩
 obtain rfl:=h.one hend
 refine ⟨h6.f,h6.m,hid,?_,?_,h6.s0,h6.s1,h6.K1⟩
 ·rfl
 ·rfl
end Go.Proofs.YtecgecpgmpmkoaaGreat
namespace Go.Proofs.YtecgecpgmpmkoaaGreat
open Go.ChangeShapes Go.WideShapes Go.ChangeAt Go.RowKit
set_option linter.unusedVariables false
set_option linter.unusedSimpArgs false
set_option maxRecDepth 100000 in
set_option maxHeartbeats 8000000 in
theorem clockwork_any (w:World):Calls Tryz.prog 54 #[] w fun e w'=> ∃v:PlV,e=.returned (.agg #[.int .i64 cw.ki,.slice v.pp cw.np v.pc,.slice v.tp cw.nq v.tc,.slice v.sp cw.ns v.sc,.int .u64 cw.sd,.int .u64 cw.lk,.int .u64 cw.en,.int .i64 cw.bu,.int .i64 cw.fu])∧PlAt w' cw v∧Below w.heap.size w w':=by
 go_enter Tryz.func54,Tryz.ntmps54
 go_wp2_with fail
 generalize h1:World.alloc w _=w1
 generalize h2:World.alloc w1 _=w2
 generalize h3:World.alloc w2 _=w3
 generalize h4:World.alloc w3 _=w4
 generalize h5:World.alloc w4 _=w5
 generalize h6:World.alloc w5 _=w6
 generalize h7:World.alloc w6 _=w7
 generalize h8:World.alloc w7 _=w8
 generalize h9:World.alloc w8 _=w9
 obtain ⟨b1,o1,z1⟩:=boxed _ _ _ h1
 clear h1
 obtain ⟨b2,o2,z2⟩:=boxed _ _ _ h2
 clear h2
 obtain ⟨b3,o3,z3⟩:=boxed _ _ _ h3
 clear h3
 obtain ⟨b4,o4,z4⟩:=boxed _ _ _ h4
 clear h4
 obtain ⟨b5,o5,z5⟩:=boxed _ _ _ h5
 clear h5
 obtain ⟨b6,o6,z6⟩:=boxed _ _ _ h6
 clear h6
 obtain ⟨b7,o7,z7⟩:=boxed _ _ _ h7
 clear h7
 obtain ⟨b8,o8,z8⟩:=boxed _ _ _ h8
 clear h8
 obtain ⟨b9,o9,z9⟩:=boxed _ _ _ h9
 clear h9
 have y1:w1.heap.size=w.heap.size+1:=z1
 rw [y1] at o2 z2
 have y2:w2.heap.size=w.heap.size+1+1:=z2
 rw [y2] at o3 z3
 have y3:w3.heap.size=w.heap.size+1+1+1:=z3
 rw [y3] at o4 z4
 have y4:w4.heap.size=w.heap.size+1+1+1+1:=z4
 rw [y4] at o5 z5
 have y5:w5.heap.size=w.heap.size+1+1+1+1+1:=z5
 rw [y5] at o6 z6
 have y6:w6.heap.size=w.heap.size+1+1+1+1+1+1:=z6
 rw [y6] at o7 z7
 have y7:w7.heap.size=w.heap.size+1+1+1+1+1+1+1:=z7
 rw [y7] at o8 z8
 have y8:w8.heap.size=w.heap.size+1+1+1+1+1+1+1+1:=z8
 rw [y8] at o9 z9
 have y9:w9.heap.size=w.heap.size+1+1+1+1+1+1+1+1+1:=z9
 have q1:=(b9.block _ (by omega)).trans ((b8.block _ (by omega)).trans ((b7.block _ (by omega)).trans ((b6.block _ (by omega)).trans ((b5.block _ (by omega)).trans ((b4.block _ (by omega)).trans ((b3.block _ (by omega)).trans ((b2.block _ (by omega)).trans (o1))))))))
 have q2:=(b9.block _ (by omega)).trans ((b8.block _ (by omega)).trans ((b7.block _ (by omega)).trans ((b6.block _ (by omega)).trans ((b5.block _ (by omega)).trans ((b4.block _ (by omega)).trans ((b3.block _ (by omega)).trans (o2)))))))
 have q3:=(b9.block _ (by omega)).trans ((b8.block _ (by omega)).trans ((b7.block _ (by omega)).trans ((b6.block _ (by omega)).trans ((b5.block _ (by omega)).trans ((b4.block _ (by omega)).trans (o3))))))
 have q4:=(b9.block _ (by omega)).trans ((b8.block _ (by omega)).trans ((b7.block _ (by omega)).trans ((b6.block _ (by omega)).trans ((b5.block _ (by omega)).trans (o4)))))
 have q5:=(b9.block _ (by omega)).trans ((b8.block _ (by omega)).trans ((b7.block _ (by omega)).trans ((b6.block _ (by omega)).trans (o5))))
 have q6:=(b9.block _ (by omega)).trans ((b8.block _ (by omega)).trans ((b7.block _ (by omega)).trans (o6)))
 have q7:=(b9.block _ (by omega)).trans ((b8.block _ (by omega)).trans (o7))
 have q8:=(b9.block _ (by omega)).trans (o8)
 have q9:=o9
 have hB:Below w.heap.size w w9:=((((((((b1.trans (b2.mono (b1).size)).trans (b3.mono ((b1.trans (b2.mono (b1).size))).size)).trans (b4.mono (((b1.trans (b2.mono (b1).size)).trans (b3.mono ((b1.trans (b2.mono (b1).size))).size))).size)).trans (b5.mono ((((b1.trans (b2.mono (b1).size)).trans (b3.mono ((b1.trans (b2.mono (b1).size))).size)).trans (b4.mono (((b1.trans (b2.mono (b1).size)).trans (b3.mono ((b1.trans (b2.mono (b1).size))).size))).size))).size)).trans (b6.mono (((((b1.trans (b2.mono (b1).size)).trans (b3.mono ((b1.trans (b2.mono (b1).size))).size)).trans (b4.mono (((b1.trans (b2.mono (b1).size)).trans (b3.mono ((b1.trans (b2.mono (b1).size))).size))).size)).trans (b5.mono ((((b1.trans (b2.mono (b1).size)).trans (b3.mono ((b1.trans (b2.mono (b1).size))).size)).trans (b4.mono (((b1.trans (b2.mono (b1).size)).trans (b3.mono ((b1.trans (b2.mono (b1).size))).size))).size))).size))).size)).trans (b7.mono ((((((b1.trans (b2.mono (b1).size)).trans (b3.mono ((b1.trans (b2.mono (b1).size))).size)).trans (b4.mono (((b1.trans (b2.mono (b1).size)).trans (b3.mono ((b1.trans (b2.mono (b1).size))).size))).size)).trans (b5.mono ((((b1.trans (b2.mono (b1).size)).trans (b3.mono ((b1.trans (b2.mono (b1).size))).size)).trans (b4.mono (((b1.trans (b2.mono (b1).size)).trans (b3.mono ((b1.trans (b2.mono (b1).size))).size))).size))).size)).trans (b6.mono (((((b1.trans (b2.mono (b1).size)).trans (b3.mono ((b1.trans (b2.mono (b1).size))).size)).trans (b4.mono (((b1.trans (b2.mono (b1).size)).trans (b3.mono ((b1.trans (b2.mono (b1).size))).size))).size)).trans (b5.mono ((((b1.trans (b2.mono (b1).size)).trans (b3.mono ((b1.trans (b2.mono (b1).size))).size)).trans (b4.mono (((b1.trans (b2.mono (b1).size)).trans (b3.mono ((b1.trans (b2.mono (b1).size))).size))).size))).size))).size))).size)).trans (b8.mono (((((((b1.trans (b2.mono (b1).size)).trans (b3.mono ((b1.trans (b2.mono (b1).size))).size)).trans (b4.mono (((b1.trans (b2.mono (b1).size)).trans (b3.mono ((b1.trans (b2.mono (b1).size))).size))).size)).trans (b5.mono ((((b1.trans (b2.mono (b1).size)).trans (b3.mono ((b1.trans (b2.mono (b1).size))).size)).trans (b4.mono (((b1.trans (b2.mono (b1).size)).trans (b3.mono ((b1.trans (b2.mono (b1).size))).size))).size))).size)).trans (b6.mono (((((b1.trans (b2.mono (b1).size)).trans (b3.mono ((b1.trans (b2.mono (b1).size))).size)).trans (b4.mono (((b1.trans (b2.mono (b1).size)).trans (b3.mono ((b1.trans (b2.mono (b1).size))).size))).size)).trans (b5.mono ((((b1.trans (b2.mono (b1).size)).trans (b3.mono ((b1.trans (b2.mono (b1).size))).size)).trans (b4.mono (((b1.trans (b2.mono (b1).size)).trans (b3.mono ((b1.trans (b2.mono (b1).size))).size))).size))).size))).size)).trans (b7.mono ((((((b1.trans (b2.mono (b1).size)).trans (b3.mono ((b1.trans (b2.mono (b1).size))).size)).trans (b4.mono (((b1.trans (b2.mono (b1).size)).trans (b3.mono ((b1.trans (b2.mono (b1).size))).size))).size)).trans (b5.mono ((((b1.trans (b2.mono (b1).size)).trans (b3.mono ((b1.trans (b2.mono (b1).size))).size)).trans (b4.mono (((b1.trans (b2.mono (b1).size)).trans (b3.mono ((b1.trans (b2.mono (b1).size))).size))).size))).size)).trans (b6.mono (((((b1.trans (b2.mono (b1).size)).trans (b3.mono ((b1.trans (b2.mono (b1).size))).size)).trans (b4.mono (((b1.trans (b2.mono (b1).size)).trans (b3.mono ((b1.trans (b2.mono (b1).size))).size))).size)).trans (b5.mono ((((b1.trans (b2.mono (b1).size)).trans (b3.mono ((b1.trans (b2.mono (b1).size))).size)).trans (b4.mono (((b1.trans (b2.mono (b1).size)).trans (b3.mono ((b1.trans (b2.mono (b1).size))).size))).size))).size))).size))).size))).size)).trans (b9.mono ((((((((b1.trans (b2.mono (b1).size)).trans (b3.mono ((b1.trans (b2.mono (b1).size))).size)).trans (b4.mono (((b1.trans (b2.mono (b1).size)).trans (b3.mono ((b1.trans (b2.mono (b1).size))).size))).size)).trans (b5.mono ((((b1.trans (b2.mono (b1).size)).trans (b3.mono ((b1.trans (b2.mono (b1).size))).size)).trans (b4.mono (((b1.trans (b2.mono (b1).size)).trans (b3.mono ((b1.trans (b2.mono (b1).size))).size))).size))).size)).trans (b6.mono (((((b1.trans (b2.mono (b1).size)).trans (b3.mono ((b1.trans (b2.mono (b1).size))).size)).trans (b4.mono (((b1.trans (b2.mono (b1).size)).trans (b3.mono ((b1.trans (b2.mono (b1).size))).size))).size)).trans (b5.mono ((((b1.trans (b2.mono (b1).size)).trans (b3.mono ((b1.trans (b2.mono (b1).size))).size)).trans (b4.mono (((b1.trans (b2.mono (b1).size)).trans (b3.mono ((b1.trans (b2.mono (b1).size))).size))).size))).size))).size)).trans (b7.mono ((((((b1.trans (b2.mono (b1).size)).trans (b3.mono ((b1.trans (b2.mono (b1).size))).size)).trans (b4.mono (((b1.trans (b2.mono (b1).size)).trans (b3.mono ((b1.trans (b2.mono (b1).size))).size))).size)).trans (b5.mono ((((b1.trans (b2.mono (b1).size)).trans (b3.mono ((b1.trans (b2.mono (b1).size))).size)).trans (b4.mono (((b1.trans (b2.mono (b1).size)).trans (b3.mono ((b1.trans (b2.mono (b1).size))).size))).size))).size)).trans (b6.mono (((((b1.trans (b2.mono (b1).size)).trans (b3.mono ((b1.trans (b2.mono (b1).size))).size)).trans (b4.mono (((b1.trans (b2.mono (b1).size)).trans (b3.mono ((b1.trans (b2.mono (b1).size))).size))).size)).trans (b5.mono ((((b1.trans (b2.mono (b1).size)).trans (b3.mono ((b1.trans (b2.mono (b1).size))).size)).trans (b4.mono (((b1.trans (b2.mono (b1).size)).trans (b3.mono ((b1.trans (b2.mono (b1).size))).size))).size))).size))).size))).size)).trans (b8.mono (((((((b1.trans (b2.mono (b1).size)).trans (b3.mono ((b1.trans (b2.mono (b1).size))).size)).trans (b4.mono (((b1.trans (b2.mono (b1).size)).trans (b3.mono ((b1.trans (b2.mono (b1).size))).size))).size)).trans (b5.mono ((((b1.trans (b2.mono (b1).size)).trans (b3.mono ((b1.trans (b2.mono (b1).size))).size)).trans (b4.mono (((b1.trans (b2.mono (b1).size)).trans (b3.mono ((b1.trans (b2.mono (b1).size))).size))).size))).size)).trans (b6.mono (((((b1.trans (b2.mono (b1).size)).trans (b3.mono ((b1.trans (b2.mono (b1).size))).size)).trans (b4.mono (((b1.trans (b2.mono (b1).size)).trans (b3.mono ((b1.trans (b2.mono (b1).size))).size))).size)).trans (b5.mono ((((b1.trans (b2.mono (b1).size)).trans (b3.mono ((b1.trans (b2.mono (b1).size))).size)).trans (b4.mono (((b1.trans (b2.mono (b1).size)).trans (b3.mono ((b1.trans (b2.mono (b1).size))).size))).size))).size))).size)).trans (b7.mono ((((((b1.trans (b2.mono (b1).size)).trans (b3.mono ((b1.trans (b2.mono (b1).size))).size)).trans (b4.mono (((b1.trans (b2.mono (b1).size)).trans (b3.mono ((b1.trans (b2.mono (b1).size))).size))).size)).trans (b5.mono ((((b1.trans (b2.mono (b1).size)).trans (b3.mono ((b1.trans (b2.mono (b1).size))).size)).trans (b4.mono (((b1.trans (b2.mono (b1).size)).trans (b3.mono ((b1.trans (b2.mono (b1).size))).size))).size))).size)).trans (b6.mono (((((b1.trans (b2.mono (b1).size)).trans (b3.mono ((b1.trans (b2.mono (b1).size))).size)).trans (b4.mono (((b1.trans (b2.mono (b1).size)).trans (b3.mono ((b1.trans (b2.mono (b1).size))).size))).size)).trans (b5.mono ((((b1.trans (b2.mono (b1).size)).trans (b3.mono ((b1.trans (b2.mono (b1).size))).size)).trans (b4.mono (((b1.trans (b2.mono (b1).size)).trans (b3.mono ((b1.trans (b2.mono (b1).size))).size))).size))).size))).size))).size))).size))).size))
 have c0:w9.cell? ⟨w.heap.size,0,none⟩=some (.int .i64 1):=cell_in q1 rfl
 have c1:w9.cell? ⟨w.heap.size,1,none⟩=some (.slice (some ⟨w.heap.size+1+1+1+1+1+1+1+1,0,none⟩) 1 1):=cell_in q1 rfl
 have c2:w9.cell? ⟨w.heap.size,2,none⟩=some (.slice (some ⟨w.heap.size+1+1+1+1+1+1,0,none⟩) 2 2):=cell_in q1 rfl
 have c3:w9.cell? ⟨w.heap.size,3,none⟩=some (.slice (some ⟨w.heap.size+1+1+1+1+1+1+1,0,none⟩) 2 2):=cell_in q1 rfl
 have c4:w9.cell? ⟨w.heap.size,4,none⟩=some (.int .u64 7):=cell_in q1 rfl
 have c5:w9.cell? ⟨w.heap.size,5,none⟩=some (.int .u64 5):=cell_in q1 rfl
 have c6:w9.cell? ⟨w.heap.size,6,none⟩=some (.int .u64 14):=cell_in q1 rfl
 have c7:w9.cell? ⟨w.heap.size,7,none⟩=some (.int .i64 100):=cell_in q1 rfl
 have c8:w9.cell? ⟨w.heap.size,8,none⟩=some (.int .i64 20):=cell_in q1 rfl
 refine bodyPost_ret (v:=.agg #[.int .i64 1,.slice (some ⟨w.heap.size+1+1+1+1+1+1+1+1,0,none⟩) 1 1,.slice (some ⟨w.heap.size+1+1+1+1+1+1,0,none⟩) 2 2,.slice (some ⟨w.heap.size+1+1+1+1+1+1+1,0,none⟩) 2 2,.int .u64 7,.int .u64 5,.int .u64 14,.int .i64 100,.int .i64 20]) (by simp [results,Tryz.results54,go_sem,c0,c1,c2,c3,c4,c5,c6,c7,c8];try rfl) rfl ?_
 refine ⟨⟨some ⟨w.heap.size+1+1+1+1+1+1+1+1,0,none⟩,1,fun _=>⟨some ⟨w.heap.size+1,0,none⟩,9,some ⟨w.heap.size+1+1,0,none⟩,1⟩,some ⟨w.heap.size+1+1+1+1+1+1,0,none⟩,2,fun j=>if j=0 then some ⟨w.heap.size+1+1+1+1,0,none⟩ else some ⟨w.heap.size+1+1+1+1+1,0,none⟩,fun _=>1,some ⟨w.heap.size+1+1+1+1+1+1+1,0,none⟩,2⟩,rfl,⟨.inr ⟨_,_,rfl,by omega,fun j hj=> ?_,fun j hj=>⟨.inr ⟨_,_,rfl,by omega,fun i hi=> ?_⟩,.inr ⟨_,_,rfl,by omega,fun i hi=> ?_⟩⟩⟩,.inr ⟨_,_,rfl,by omega,fun j hj=> ?_,fun j hj=> ?_⟩,.inr ⟨_,_,rfl,by omega,fun j hj=> ?_⟩⟩,hB⟩
 ·have:j<1:=hj
  obtain rfl:j=0:=by omega
  exact ⟨cell_in q9 rfl,cell_in q9 rfl,cell_in q9 rfl,cell_in q9 rfl⟩
 ·rcases cw_op hi with rfl|rfl|rfl|rfl|rfl|rfl|rfl|rfl|rfl
  all_goals exact ⟨cell_in q2 rfl,cell_in q2 rfl,cell_in q2 rfl⟩
 ·have:i<1:=hi
  obtain rfl:i=0:=by omega
  exact cell_in q3 rfl
 ·have:j<2:=hj
  have:j=0∨j=1:=by omega
  rcases this with rfl|rfl
  ·exact ⟨cell_in q7 rfl,cell_in q7 rfl⟩
  ·exact ⟨cell_in q7 rfl,cell_in q7 rfl⟩
 ·have:j<2:=hj
  have:j=0∨j=1:=by omega
  rcases this with rfl|rfl
  ·refine .inr ⟨_,_,rfl,by omega,fun i hi=> ?_⟩
   have:i<1:=hi
   obtain rfl:i=0:=by omega
   exact cell_in q5 rfl
  ·refine .inr ⟨_,_,rfl,by omega,fun i hi=> ?_⟩
   have:i<1:=hi
   obtain rfl:i=0:=by omega
   exact cell_in q6 rfl
 ·have:j<2:=hj
  have:j=0∨j=1:=by omega
  rcases this with rfl|rfl
  ·exact ⟨cell_in q8 rfl,cell_in q8 rfl,cell_in q8 rfl,cell_in q8 rfl⟩
  ·exact ⟨cell_in q8 rfl,cell_in q8 rfl,cell_in q8 rfl,cell_in q8 rfl⟩
end Go.Proofs.YtecgecpgmpmkoaaGreat
namespace Go.Proofs.YtecgecpgmpmkoaaGreat
open Go.ChangeShapes Go.WideShapes Go.ChangeAt Go.RowKit
set_option linter.unusedVariables false
set_option linter.unusedSimpArgs false
theorem cw_roomy:RoomyL cw:=⟨by decide,fun j _=>(⟨by decide,by decide⟩:roomyP cwP),by decide,fun j _=>(by decide:1≤17592186044416),by decide⟩
def CwR (w:World) (g1 o1 g3 o3:Nat) (wp:Option Addr) (wc:Nat):Prop:=(g1<w.heap.size∧g3<w.heap.size∧KAt w wp 1 (fun _=>13))∧w.cell? ⟨g3,o3,none⟩=some (.int .u64 0)∧w.cell? ⟨g3,o3+1,none⟩=some (.int .i64 0)∧w.cell? ⟨g3,o3+2,none⟩=some (.int .u64 0)∧w.cell? ⟨g3,o3+3,none⟩=some (.int .i64 0)∧w.cell? ⟨g3,o3+4,none⟩=some (.int .i64 0)∧w.cell? ⟨g3,o3+5,none⟩=some (.int .i64 1)∧w.cell? ⟨g3,o3+30,none⟩=some (.int .u64 13)∧w.cell? ⟨g3,o3+30+1,none⟩=some (.int .i64 1)∧w.cell? ⟨g3,o3+30+2,none⟩=some (.int .u64 2)∧w.cell? ⟨g3,o3+30+3,none⟩=some (.int .i64 1)∧w.cell? ⟨g3,o3+30+4,none⟩=some (.int .i64 0)∧w.cell? ⟨g3,o3+30+5,none⟩=some (.int .i64 0)∧w.cell? ⟨g1,o1+2,none⟩=some (.int .u64 4)∧w.cell? ⟨g1,o1+3+2,none⟩=some (.int .u64 4)∧w.cell? ⟨g1,o1+3,none⟩=some (.slice wp 1 wc)
theorem CwR.below {w w':World} {g1 o1 g3 o3:Nat} {wp:Option Addr} {wc:Nat} (h:CwR w g1 o1 g3 o3 wp wc) (hb:Below w.heap.size w w'):CwR w' g1 o1 g3 o3 wp wc:=by
 obtain ⟨⟨h1,h3,hk⟩,a0,a1,a2,a3,a4,a5,a6,a7,a8,a9,a10,a11,a12,a13,a14⟩:=h
 have hz:=hb.size
 have k1: ∀o,w'.cell? ⟨g1,o,none⟩=w.cell? ⟨g1,o,none⟩:=fun o=>cell_below (a:=⟨g1,o,none⟩) hb h1
 have k3: ∀o,w'.cell? ⟨g3,o,none⟩=w.cell? ⟨g3,o,none⟩:=fun o=>cell_below (a:=⟨g3,o,none⟩) hb h3
 exact ⟨⟨by omega,by omega,hk.below hb⟩,(k3 _).trans a0,(k3 _).trans a1,(k3 _).trans a2,(k3 _).trans a3,(k3 _).trans a4,(k3 _).trans a5,(k3 _).trans a6,(k3 _).trans a7,(k3 _).trans a8,(k3 _).trans a9,(k3 _).trans a10,(k3 _).trans a11,(k1 _).trans a12,(k1 _).trans a13,(k1 _).trans a14⟩
theorem cw_result (v:PlV) (w:World) (h:PlAt w cw v):Calls Tryz.prog 12 #[.agg #[.int .i64 cw.ki,.slice v.pp cw.np v.pc,.slice v.tp cw.nq v.tc,.slice v.sp cw.ns v.sc,.int .u64 cw.sd,.int .u64 cw.lk,.int .u64 cw.en,.int .i64 cw.bu,.int .i64 cw.fu]] w fun r w'=> ∃(g1 o1 c1 g3 o3 c3:Nat) (wp:Option Addr) (wc:Nat),r=.returned (.agg #[.int .i64 1,.int .i64 0,.int .u64 0,.int .i64 0,.int .u64 0,.int .i64 0,.slice (some ⟨g1,o1,none⟩) 2 c1,.slice (some ⟨g3,o3,none⟩) 6 c3])∧CwR w' g1 o1 g3 o3 wp wc∧Below w.heap.size w w':=by
 refine (sqRun_good cw v w h cw_roomy cw_vc cw_ok).mono ?_
 rintro r w' ⟨C,k,cd,x,q1,c1,CC,q3,c3,hend,hok,hrk,rfl,⟨b,rb,_,hrs⟩,hb⟩
 obtain ⟨hf,hm,hid,hz0,hz5,hs0,hs1,hk1⟩:=cw_end hend
 rcases hrk with ⟨e,_⟩|⟨_,rfl,⟨_,rfl,rfl⟩|⟨e,_⟩⟩
 ·exact absurd hf e
 ·obtain h9|⟨g1,o1,rfl,l1,hc1,hw1⟩:=hrs.ss
  ·exact absurd h9 (by decide)
  obtain h9|⟨g3,o3,rfl,l3,hc3⟩:=hrs.tr
  ·omega
  rw [hm] at hc3
  have he:=hrs.eq
  have c2: ∀i r,i<6→r<6→w'.cell? ⟨g3,o3+(i*6+r),none⟩=some (seF C.Z (i*6+r)):=fun i r hi hr=>hc3 (i*6+r) (by omega)
  have z0:=fun r (hr:r<6)=>c2 0 r (by decide) hr
  have z5:=fun r (hr:r<6)=>c2 5 r (by decide) hr
  obtain ⟨p1,p2,p3⟩:=hc1 0 (by decide)
  obtain ⟨p4,p5,p6⟩:=hc1 1 (by decide)
  obtain ⟨e1,e2,e3⟩:=he 0 (by decide)
  obtain ⟨e4,e5,e6⟩:=he 1 (by decide)
  have hw:=hw1 1 (by decide)
  rw [e4] at hw p4
  rw [e3,hs0] at p3
  rw [e6,hs1] at p6
  have hK:KAt w' (CC 1).p 1 (fun _=>13):=by
   rcases hw with h9|⟨g,o,e,l,hc⟩
   ·exact .inl h9
   ·refine .inr ⟨g,o,e,l,fun j hj=> ?_⟩
    obtain rfl:j=0:=by omega
    have:=hc 0 (by decide)
    rw [hk1] at this
    exact this
  have sz: ∀r,r<6→seF C.Z (0*6+r)=seC (⟨0,0,0,0,0,1⟩:Se) r:=fun r hr=>by rw [seF_at _ _ _ hr,hz0]
  have sv: ∀r,r<6→seF C.Z (5*6+r)=seC (⟨13,1,2,1,0,0⟩:Se) r:=fun r hr=>by rw [seF_at _ _ _ hr,hz5]
  refine ⟨g1,o1,c1,g3,o3,c3,(CC 1).p,(CC 1).c,by rw [hm];rfl,⟨⟨l1,l3,hK⟩,((z0 0 (by decide)).trans (congrArg some (sz 0 (by decide)))),((z0 1 (by decide)).trans (congrArg some (sz 1 (by decide)))),((z0 2 (by decide)).trans (congrArg some (sz 2 (by decide)))),((z0 3 (by decide)).trans (congrArg some (sz 3 (by decide)))),((z0 4 (by decide)).trans (congrArg some (sz 4 (by decide)))),((z0 5 (by decide)).trans (congrArg some (sz 5 (by decide)))),((z5 0 (by decide)).trans (congrArg some (sv 0 (by decide)))),((z5 1 (by decide)).trans (congrArg some (sv 1 (by decide)))),((z5 2 (by decide)).trans (congrArg some (sv 2 (by decide)))),((z5 3 (by decide)).trans (congrArg some (sv 3 (by decide)))),((z5 4 (by decide)).trans (congrArg some (sv 4 (by decide)))),((z5 5 (by decide)).trans (congrArg some (sv 5 (by decide)))),p3,p6,p4⟩,hb⟩
 ·exact absurd hid e
set_option maxRecDepth 100000 in
set_option maxHeartbeats 8000000 in
theorem awake_any (w:World):Calls Tryz.prog 18 #[] w fun e w'=>e=.returned (.bool true)∧Below w.heap.size w w':=by
 have HC:=clockwork_any w
 have HR:=fun (v:PlV) (W:World) (h:PlAt W cw v)=>cw_result v W h
 go_enter Tryz.func18,Tryz.ntmps18
 go_upto_region 2 with (first|(go_at_call 54;(with_reducible refine HC.mono ?_);rintro e w1 ⟨v,rfl,hpl,hb1⟩)|(go_at_call 12;(with_reducible refine (HR v w1 hpl).mono ?_);rintro e w2 ⟨g1,o1,c1,g3,o3,c3,wp,wc,rfl,hcw,hb2⟩))
 obtain ⟨w3,hw3⟩: ∃w3,w2.alloc (.cells #[.int .i64 1,.int .i64 0,.int .u64 0,.int .i64 0,.int .u64 0,.int .i64 0,.slice (some ⟨g1,o1,none⟩) 2 c1,.slice (some ⟨g3,o3,none⟩) 6 c3] 37)=w3:=⟨_,rfl⟩
 obtain ⟨hb3,hbx,hsz⟩:=boxed _ _ _ hw3
 rw [hw3]
 obtain ⟨bx,hbe⟩: ∃bx,w2.heap.size=bx:=⟨_,rfl⟩
 rw [hbe] at hbx ⊢
 have hcw3:=hcw.below hb3
 have hbw:Below w.heap.size w w3:=(hb1.trans (hb2.mono hb1.size)).trans (hb3.mono (hb1.trans (hb2.mono hb1.size)).size)
 obtain ⟨⟨_,_,hk⟩,a0,a1,a2,a3,a4,a5,a6,a7,a8,a9,a10,a11,a12,a13,a14⟩:=hcw3
 have r0:w3.cell? ⟨bx,0,none⟩=some (.int .i64 1):=cell_in hbx rfl
 have r1:w3.cell? ⟨bx,1,none⟩=some (.int .i64 0):=cell_in hbx rfl
 have r2:w3.cell? ⟨bx,2,none⟩=some (.int .u64 0):=cell_in hbx rfl
 have r3:w3.cell? ⟨bx,3,none⟩=some (.int .i64 0):=cell_in hbx rfl
 have r4:w3.cell? ⟨bx,4,none⟩=some (.int .u64 0):=cell_in hbx rfl
 have r5:w3.cell? ⟨bx,5,none⟩=some (.int .i64 0):=cell_in hbx rfl
 have r6:w3.cell? ⟨bx,6,none⟩=some (.slice (some ⟨g1,o1,none⟩) 2 c1):=cell_in hbx rfl
 have r7:w3.cell? ⟨bx,7,none⟩=some (.slice (some ⟨g3,o3,none⟩) 6 c3):=cell_in hbx rfl
 have hsl: ∀g,g=w3.heap.size→KAt (w3.alloc (.cells #[.int .i64 13] 2)) (some ⟨g,0,none⟩) 1 (fun _=>13):=fun g e=>by
  subst e
  refine .inr ⟨_,_,rfl,by simp,fun j hj=> ?_⟩
  obtain rfl:j=0:=by omega
  exact cell_in (World.alloc_heap_new w3 _) rfl
 have hba:Below w3.heap.size w3 (w3.alloc (.cells #[.int .i64 13] 2)):=(Below.refl _ w3).alloc (Nat.le_refl _) _
 have HSW:=sameWords_any wp (some ⟨w3.heap.size,0,none⟩) 1 1 wc 1 (fun _=>13) (fun _=>13) (by decide) (w3.alloc (.cells #[.int .i64 13] 2)) (hk.below hba) (hsl _ rfl)
 have hsf:(decide (1=1) && sameF 1 (fun _=>13) (fun _=>13))=true:=by decide
 rw [hsf] at HSW
 clear hw3 hb3 hbx hsz hbe hcw hb1 hb2 hpl HC HR hk hsl hsf
 go_wp2_with (go_at_call 55;(with_reducible refine HSW.mono ?_);rintro e w5 ⟨rfl,hb5⟩)
 go_ret
 exact ⟨rfl,hbw.trans ((hba.trans (hb5.mono hba.size)).mono hbw.size)⟩
end Go.Proofs.YtecgecpgmpmkoaaGreat
