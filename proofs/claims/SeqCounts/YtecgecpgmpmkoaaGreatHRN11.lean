import Derived.Test.YtecgecpgmpmkoaaGreatHRN9
namespace Go.Proofs.YtecgecpgmpmkoaaGreat
open Go.ChangeShapes Go.WideShapes Go.ChangeAt Go.RowKit
set_option linter.unusedVariables false
set_option linter.unusedSimpArgs false
theorem Kq.own {S:Nat→Prop} {W W':World} {b:Nat} {t:TypeId} {s m:Nat} {v:Value} {F:Nat→Value} (h:Own W b t s v m F) (hk:Kq S W W') (hs: ∀k,v.ownBlock=some k→ ¬S k):Own W' b t s v m F:=h.far fun k hk9=>hk.block k (Own.lt h k hk9).2 (hs k hk9)
theorem box_set6 (a0 a1 a2 a3 a4 a5 a6 a7 a8 v:Value):(#[a0,a1,a2,a3,a4,a5,a6,a7,a8]:Array Value).setIfInBounds 6 v= #[a0,a1,a2,a3,a4,a5,v,a7,a8]:=rfl
structure PuI (W wr:World) (B b0 sb:Nat) (p:Pl) (A:Ab) (R:Rv) (e0:Se) (E:Ef) (n i:Nat) (qv:Value) (Y:Nat→Se):Prop where
 box:wr.heap[sb]? =some (.cells #[.slice R.pq p.nq R.pc,.int .u64 p.lk,.int .u64 p.en,.int .i64 p.bu,.int .i64 p.fu,R.sv,qv,R.tv,.int .i64 A.f] 125 (0,0))
 q:Own wr b0 54 6 qv (n+i) (seF Y)
 hp:Hp (n+i) Y
 inj:Inj (n+i) Y
 set: ∀x,InX (n+i) Y x↔(A.M x∧x≠e0)∨InX i (outS E) x
 fr:qv.ownBlock=R.qv.ownBlock∨ ∃k,qv.ownBlock=some k∧B≤k
 bB:W.heap.size≤B∧B≤wr.heap.size
 k:Kq (fun k=>k=sb∨some k=R.qv.ownBlock) W wr
theorem PuI.ne {W wr:World} {B b0 sb:Nat} {p:Pl} {A:Ab} {R:Rv} {e0:Se} {E:Ef} {n i:Nat} {qv:Value} {Y:Nat→Se} (h:PuI W wr B b0 sb p A R e0 E n i qv Y) (hs:SimR W b0 sb p A R):qv.ownBlock≠some sb:=fun e=>by
 rcases h.fr with f|⟨k,f1,f2⟩
 ·exact hs.n2 (f.symm.trans e)
 ·rw [e] at f1
  injection f1 with f1
  have:=hs.lt
  have:=h.bB
  omega
theorem PuI.below {W wr wr':World} {B b0 sb:Nat} {p:Pl} {A:Ab} {R:Rv} {e0:Se} {E:Ef} {n i:Nat} {qv:Value} {Y:Nat→Se} (h:PuI W wr B b0 sb p A R e0 E n i qv Y) (hb:Below wr.heap.size wr wr'):PuI W wr' B b0 sb p A R e0 E n i qv Y:=
 ⟨(hb.block _ (lt_of_block h.box)).trans h.box,h.q.later hb,h.hp,h.inj,h.set,h.fr,⟨h.bB.1,Nat.le_trans h.bB.2 hb.size⟩,h.k.trans (Kq.below hb)⟩
theorem InX_succ (i:Nat) (X:Nat→Se) (x:Se):InX (i+1) X x↔InX i X x∨x=X i:=by
 constructor
 ·rintro ⟨j,hj,rfl⟩
  by_cases e:j<i
  ·exact .inl ⟨j,e,rfl⟩
  ·exact .inr (by rw [show j=i by omega])
 ·rintro (⟨j,hj,rfl⟩|rfl)
  ·exact ⟨j,by omega,rfl⟩
  ·exact ⟨i,by omega,rfl⟩
theorem PuI.push {W wr wr':World} {B b0 sb:Nat} {p:Pl} {A:Ab} {R:Rv} {e0:Se} {E:Ef} {n i:Nat} {qv qv':Value} {Y Y':Nat→Se} (h:PuI W wr B b0 sb p A R e0 E n i qv Y) (hfr: ¬A.M (outS E i)) (hnj: ∀j,j<i→outS E j≠outS E i)
  (h1:wr'.heap[sb]? =some (.cells (#[.slice R.pq p.nq R.pc,.int .u64 p.lk,.int .u64 p.en,.int .i64 p.bu,.int .i64 p.fu,R.sv,qv,R.tv,.int .i64 A.f].setIfInBounds 6 qv') 125 (0,0))) (h2:Own wr' b0 54 6 qv' (n+i+1) (seF Y')) (h3:Hp (n+i+1) Y') (h4:Sam (n+i+1) (setS Y (n+i) (outS E i)) Y') (h5:qv'.ownBlock=qv.ownBlock∨ ∃k,qv'.ownBlock=some k∧wr.heap.size≤k) (h6:Kq (fun k=>k=sb∨some k=qv.ownBlock) wr wr'):PuI W wr' B b0 sb p A R e0 E n (i+1) qv' Y':=by
 refine ⟨by rw [h1,box_set6],h2,h3,h4.inj (push_inj h.inj fun hin=> ?_),fun x=> ?_,?_,⟨h.bB.1,Nat.le_trans h.bB.2 h6.size⟩,h.k.transM h6 fun k hk e=> ?_⟩
 ·rcases (h.set _).1 hin with ⟨a,_⟩|⟨j,hj,he⟩
  ·exact hfr a
  ·exact hnj j hj he
 ·rw [show n+(i+1)=n+i+1 from rfl,h4.set x,push_set,h.set x,InX_succ]
  constructor
  ·rintro ((a|a)|a)
   ·exact .inl a
   ·exact .inr (.inl a)
   ·exact .inr (.inr a)
  ·rintro (a|a|a)
   ·exact .inl (.inl a)
   ·exact .inl (.inr a)
   ·exact .inr a
 ·rcases h5 with f|⟨k,f1,f2⟩
  ·rw [f]
   exact h.fr
  ·exact .inr ⟨k,f1,Nat.le_trans h.bB.2 f2⟩
 ·rcases e with e|e
  ·exact .inl e
  ·rcases h.fr with f|⟨k9,f1,f2⟩
   ·exact .inr (e.trans f)
   ·rw [f1] at e
    injection e with e
    have:=h.bB
    omega
set_option maxHeartbeats 1000000 in
theorem take_end {W wr w7 w8:World} {B b0 sb:Nat} {p:Pl} {A:Ab} {R:Rv} {e0:Se} {E:Ef} {n:Nat} {qv tv':Value} {Y9:Nat→Se} {bw gs cs dn:Nat} {wp:Option Addr} {wc:Nat} (hs:SimR W b0 sb p A R) (ho:AOk2 p A) (hpl:PlOk p) (hF:FitE p A e0) (hE:effA p A e0=E) (hsp: ¬Spent p A) (hn:R.n=n+1) (hbw: ∀k,Mu sb R k→k<bw)
  (hw:Own W bw 2 1 (.slice wp E.nw wc) E.nw (iv E.wd)) (hI:PuI W wr B b0 sb p A R e0 E n E.on qv Y9) (hdn:e0.d.toNat=dn) (hdq:dn<p.nq) (hsv:R.sv=.slice (some ⟨gs,0,none⟩) p.nq cs) (hk7:Kq (fun k=>k=gs) wr w7) (hst7:ARow w7 b0 gs p.nq cs (setS R.C dn ⟨wp,E.nw,wc,E.dice,E.sent⟩))
  (hk8:Kq (fun k=>some k=R.tv.ownBlock) w7 w8) (htr8:Own w8 b0 54 6 tv' (A.m+1) (seF (setS A.Z A.m e0))) (hat:tv'.ownBlock=R.tv.ownBlock∨ ∃k,tv'.ownBlock=some k∧w7.heap.size≤k) (hsb8:w8.heap[sb]? =some (.cells #[.slice R.pq p.nq R.pc,.int .u64 p.lk,.int .u64 p.en,.int .i64 p.bu,.int .i64 p.fu,R.sv,qv,R.tv,.int .i64 A.f] 125 (0,0))): ∃R',SimR (w8.setCell ⟨sb,7,none⟩ tv') b0 sb p (nextA p A e0) R'∧Kq (Mu sb R) W (w8.setCell ⟨sb,7,none⟩ tv')∧(∀k,k<W.heap.size→Mu sb R' k→Mu sb R k)∧ ∀r,r<W.heap.size→r<bw→Av p R sb r→Av p R' sb r:=by
 have hmu:=hs.mu
 have hgsM:Mu sb R gs:=.inr (.inl (by rw [hsv];rfl))
 have hgs2:gs≠sb:=fun e9=>hs.n1 (by rw [hsv,e9];rfl)
 have hsvb:R.sv.ownBlock=some gs:=by rw [hsv];rfl
 have kq0:Kq (Mu sb R) W wr:=hI.k.mono fun k _ e=>e.elim .inl fun e=>.inr (.inr (.inl e))
 have kq7:Kq (Mu sb R) W w7:=kq0.transM hk7 fun k _ e=>by rw [show k=gs from e];exact hgsM
 have kq8:Kq (Mu sb R) W w8:=kq7.transM hk8 fun k _ e=>.inr (.inr (.inr e))
 have kqF:Kq (Mu sb R) W (w8.setCell ⟨sb,7,none⟩ tv'):=kq8.trans (Kq.set _ _ _ _ (.inl rfl))
 have z0:=kq0.size
 have z7:=kq7.size
 have hB:=hI.bB
 have hsbl:=hmu sb (.inl rfl)
 have hgsl:=hmu gs hgsM
 have hqne: ∀k,k<W.heap.size→qv.ownBlock=some k→R.qv.ownBlock=some k:=fun k hk e=>by
  rcases hI.fr with f|⟨k9,f1,f2⟩
  ·exact f.symm.trans e
  ·rw [e] at f1
   injection f1 with f1
   omega
 have htne: ∀k,k<W.heap.size→tv'.ownBlock=some k→R.tv.ownBlock=some k:=fun k hk e=>by
  rcases hat with f|⟨k9,f1,f2⟩
  ·exact f.symm.trans e
  ·rw [e] at f1
   injection f1 with f1
   omega
 have hmuR: ∀k,k<W.heap.size→Mu sb ⟨R.pq,R.pc,R.U,R.sv,setS R.C dn ⟨wp,E.nw,wc,E.dice,E.sent⟩,qv,n+E.on,Y9,tv'⟩ k→Mu sb R k:=fun k hk e=>by
  rcases e with e|e|e|e
  ·exact .inl e
  ·exact .inr (.inl e)
  ·exact .inr (.inr (.inl (hqne k hk e.symm).symm))
  ·exact .inr (.inr (.inr (htne k hk e.symm).symm))
 have hqgs:qv.ownBlock≠some gs:=fun e=>(hs.n4 gs hsvb).1 (hqne gs hgsl.2 e)
 have htgs:tv'.ownBlock≠some gs:=fun e=>(hs.n4 gs hsvb).2 (htne gs hgsl.2 e)
 have hqsb:qv.ownBlock≠some sb:=hI.ne hs
 have htsb:tv'.ownBlock≠some sb:=fun e=>hs.n3 (htne sb hsbl.2 e)
 have hrt: ∀k,R.tv.ownBlock=some k→k<W.heap.size:=fun k e=>(hmu k (.inr (.inr (.inr e.symm)))).2
 have hqt: ∀k,qv.ownBlock=some k→R.tv.ownBlock≠some k:=fun k e e'=>hs.n5 k (hqne k (hrt k e') e) e'
 have hqtv: ∀k,qv.ownBlock=some k→tv'.ownBlock≠some k:=fun k e e'=>by
  rcases hat with f|⟨k9,f1,f2⟩
  ·exact hqt k e (f.symm.trans e')
  ·rw [e'] at f1
   injection f1 with f1
   have:=(Own.lt hI.q k e).2
   have:=hk7.size
   omega
 have hEo:=hF.eo
 rw [hE,hdn] at hEo
 have hnw:E.nw=p.nw dn:=hEo.nw
 have hwF:=Kq.own hw kqF fun k e e9=>by
  have:=(Own.lt hw k e).1
  have:=hbw k e9
  omega
 have hwK:=own_kat hwF
 rw [hnw] at hwK
 have hbu:=hpl.bu
 have hon:=hEo.on
 refine ⟨⟨R.pq,R.pc,R.U,R.sv,setS R.C dn ⟨wp,E.nw,wc,E.dice,E.sent⟩,qv,n+E.on,Y9,tv'⟩,⟨?_,hs.b,?_,?_,?_,?_,?_,hI.hp,hI.inj,?_,?_,hs.n1,hqsb,htsb,?_,hqtv,?_,?_⟩,kqF,hmuR,?_⟩
 ·rw [setCell_block _ _ _ _ hsb8]
  rfl
 ·exact hs.ps.kb0 kqF.kb hs.r0 fun j hj=>⟨(hs.r1 j hj).1,(hs.r1 j hj).2.1⟩
 ·show Own _ b0 _ 3 R.sv p.nq _
  rw [hsv]
  refine Kq.own (Kq.own hst7 hk8 fun k e e9=> ?_) (Kq.set (S:=fun k=>k=sb) _ _ _ _ rfl) fun k e e9=> ?_
  ·have h8:some gs=some k:=e
   injection h8 with h8
   subst h8
   exact (hs.n4 gs hsvb).2 e9.symm
  ·have h8:some gs=some k:=e
   injection h8 with h8
   exact hgs2 (h8.trans e9)
 ·intro j hj
  obtain ⟨⟨a1,a2,a3⟩,a4,a5⟩:=hs.wd j hj
  show ((setS R.C dn ⟨wp,E.nw,wc,E.dice,E.sent⟩ j).n=p.nw j∧(setS R.C dn ⟨wp,E.nw,wc,E.dice,E.sent⟩ j).d=(if j=e0.d.toNat then (effA p A e0).dice else A.d j)∧(setS R.C dn ⟨wp,E.nw,wc,E.dice,E.sent⟩ j).s=(if j=e0.d.toNat then (effA p A e0).sent else A.s j))∧KAt _ (setS R.C dn ⟨wp,E.nw,wc,E.dice,E.sent⟩ j).p (p.nw j) (if j=e0.d.toNat then (effA p A e0).wd else A.K j)∧((setS R.C dn ⟨wp,E.nw,wc,E.dice,E.sent⟩ j).p=none→p.nw j=0∧True)
  rw [hdn,hE]
  unfold setS
  by_cases e:j=dn
  ·subst e
   simp only [if_true]
   refine ⟨⟨hnw,by trivial,by trivial⟩,hwK,fun e9=> ?_⟩
   rcases hw.form with ⟨h1,h2⟩|⟨g9,c9,h1,_,_⟩
   ·injection h1 with h1 h3 h4
    exact ⟨by omega,trivial⟩
   ·injection h1 with h1
    rw [e9] at h1
    cases h1
  ·simp only [if_neg e]
   exact ⟨⟨a1,a2,a3⟩,a4.kb0 kqF.kb fun g o e9 hn9=>(hs.r1 j hj).2.2 g o e9 hn9,a5⟩
 ·refine Kq.own (Kq.own (Kq.own hI.q hk7 fun k e e9=>hqgs (by rw [←show k=gs from e9];exact e)) hk8 fun k e e9=>hqt k e e9.symm) (Kq.set (S:=fun k=>k=sb) _ _ _ _ rfl) fun k e e9=>hqsb (by rw [←show k=sb from e9];exact e)
 ·exact Kq.own htr8 (Kq.set (S:=fun k=>k=sb) _ _ _ _ rfl) fun k e e9=>htsb (by rw [←show k=sb from e9];exact e)
 ·intro x
  rw [hI.set x]
  show (A.M x∧x≠e0)∨InX (effA p A e0).on (outS (effA p A e0)) x↔_
  rw [hE]
 ·have h1:=hs.nb
  have h2:(A.m:Int)<p.bu:=by unfold Spent at hsp;omega
  show n+E.on+16*(4096-(A.m+1))≤_
  omega
 ·intro k e
  have e1:R.sv.ownBlock=some k:=e
  rw [hsvb] at e1
  injection e1 with e1
  subst e1
  exact ⟨hqgs,htgs⟩
 ·intro g o e hn9 hM
  exact hs.r0 g o e hn9 (hmuR g ((hs.ps.lt0 hn9).1 g o e) hM)
 ·intro j hj
  obtain ⟨q1,q2⟩:=hs.ps.lt0 (show 0<p.nq by omega)
  obtain ⟨c1,c2,c3⟩:=hs.r1 j hj
  refine ⟨fun g o e hn9 hM=>c1 g o e hn9 (hmuR g ((q2 j hj).1.lt0 hn9 g o e) hM),fun g o e hn9 hM=>c2 g o e hn9 (hmuR g ((q2 j hj).2.lt0 hn9 g o e) hM),fun g o e hn9 hM=> ?_⟩
  have e':(setS R.C dn ⟨wp,E.nw,wc,E.dice,E.sent⟩ j).p=some ⟨g,o,none⟩:=e
  unfold setS at e'
  by_cases ej:j=dn
  ·rw [if_pos ej] at e'
   rcases hw.form with ⟨h1,h2⟩|⟨g9,c9,h1,h3,h4⟩
   ·rw [ej] at hn9
    omega
   ·injection h1 with h1
    have e'':wp=some ⟨g,o,none⟩:=e'
    rw [e''] at h1
    injection h1 with h1
    injection h1 with h1
    subst h1
    have:=hbw g (hmuR g h4 hM)
    omega
  ·rw [if_neg ej] at e'
   exact c3 g o e' hn9 (hmuR g ((hs.wd j hj).2.1.lt0 hn9 g o e') hM)
 ·intro r hr1 hr2 ha
  refine ⟨fun hM=>ha.1 (hmuR r hr1 hM),ha.2.1,fun j hj=>⟨(ha.2.2 j hj).1,(ha.2.2 j hj).2.1,fun g o e hn9 e9=> ?_⟩⟩
  have e':(setS R.C dn ⟨wp,E.nw,wc,E.dice,E.sent⟩ j).p=some ⟨g,o,none⟩:=e
  unfold setS at e'
  by_cases ej:j=dn
  ·rw [if_pos ej] at e'
   rcases hw.form with ⟨h1,h2⟩|⟨g9,c9,h1,h3,h4⟩
   ·rw [ej] at hn9
    omega
   ·injection h1 with h1
    have e'':wp=some ⟨g,o,none⟩:=e'
    rw [e''] at h1
    injection h1 with h1
    injection h1 with h1
    omega
  ·rw [if_neg ej] at e'
   exact (ha.2.2 j hj).2.2 g o e' hn9 e9
set_option maxRecDepth 100000 in
set_option maxHeartbeats 4000000 in
theorem take_any (W:World) (b0 sb:Nat) (p:Pl) (A:Ab) (R:Rv) (h:SimR W b0 sb p A R) (ho:AOk2 p A) (hpl:PlOk p) (n:Nat) (hn:R.n=n+1) (hsp: ¬Spent p A) (bw:Nat) (hbw: ∀k,Mu sb R k→k<bw) (hbb:b0≤bw) (E:Ef) (hE:effA p A (R.X 0)=E) (wp:Option Addr) (wc:Nat) (op:Option Addr) (oc:Nat)
  (hw:Own W bw 2 1 (.slice wp E.nw wc) E.nw (iv E.wd)) (hout:Own W bw 54 6 (.slice op E.on oc) E.on E.oF):
  Calls Tryz.prog 67 #[.pointer (some ⟨sb,0,none⟩),.agg #[.int .i64 E.code,.slice wp E.nw wc,.int .u64 E.dice,.int .u64 E.sent,.slice op E.on oc,.int .i64 E.used]] W fun r W'=>r=.returned (.tuple #[])∧ ∃R',SimR W' b0 sb p (nextA p A (R.X 0)) R'∧Kq (Mu sb R) W W'∧(∀k,k<W.heap.size→Mu sb R' k→Mu sb R k)∧ ∀r,r<W.heap.size→r<bw→Av p R sb r→Av p R' sb r:=by
 have hF:=fitE hpl ho ((h.set _).2 ⟨0,by omega,rfl⟩)
 have hlst:=top_least ho h.hp h.set (show 0<R.n by omega)
 obtain ⟨g,c,hqv,hrow⟩:=h.qrow (by omega)
 rw [hn] at hqv hrow
 have hb:=h.nb
 have hm4:=ho.m
 obtain ⟨e0,he0⟩: ∃e0,R.X 0=e0:=⟨_,rfl⟩
 rw [he0] at hF hlst hE ⊢
 have hon:E.on≤16:=hE▸hF.eo.on
 obtain ⟨dn,hdn⟩: ∃dn,e0.d.toNat=dn:=⟨_,rfl⟩
 have hd0:e0.d=(dn:Int):=hdn▸hF.dn.2
 have hdq:dn<p.nq:=hdn▸hF.dn.1
 have hmu:=h.mu
 have hgs:g≠sb:=fun e9=>h.n2 (by rw [hqv,e9];rfl)
 obtain ⟨wb,hwb⟩: ∃wb,W.alloc (.cells #[.int .i64 E.code,.slice wp E.nw wc,.int .u64 E.dice,.int .u64 E.sent,.slice op E.on oc,.int .i64 E.used] 128)=wb:=⟨_,rfl⟩
 obtain ⟨hb0,hbox,hsz⟩:=boxed _ _ _ hwb
 have HW:Hid (W.alloc (.cells #[.int .i64 E.code,.slice wp E.nw wc,.int .u64 E.dice,.int .u64 E.sent,.slice op E.on oc,.int .i64 E.used] 128)=wb):=hwb
 have hS1:=h.below hb0
 have HP1:=qpop_any sb 6 _ _ b0 g n c R.X wb hS1.box (by rw [hqv];rfl) (SRow.later hrow hb0) hgs (by omega) (by rw [←hn];exact h.hp)
 rw [he0] at HP1
 have HX:Hid (SimR W b0 sb p A R∧AOk2 p A∧FitE p A e0∧Lst A.M e0∧effA p A e0=E∧ ¬Spent p A):=⟨h,ho,hF,hlst,hE,hsp⟩
 have HB:Hid (wb.heap[W.heap.size]? =some (.cells #[.int .i64 E.code,.slice wp E.nw wc,.int .u64 E.dice,.int .u64 E.sent,.slice op E.on oc,.int .i64 E.used] 128 (0,0))∧wb.heap.size=W.heap.size+1∧Below W.heap.size W wb):=⟨hbox,hsz,hb0⟩
 have HOW:Hid (Own W bw 2 1 (.slice wp E.nw wc) E.nw (iv E.wd)∧Own W bw 54 6 (.slice op E.on oc) E.on E.oF):=⟨hw,hout⟩
 have HQ:Hid (R.qv=.slice (some ⟨g,0,none⟩) (n+1) c∧R.n=n+1∧R.X 0=e0∧SRow W b0 g (n+1) c R.X∧g≠sb):=⟨hqv,hn,he0,hrow,hgs⟩
 have HNB:Hid (R.n+16*(4096-A.m)≤2932031007402):=hb
 have HD:Hid (e0.d.toNat=dn∧e0.d=(dn:Int)∧dn<p.nq):=⟨hdn,hd0,hdq⟩
 have HMU:Hid ((∀k,Mu sb R k→k<bw)∧b0≤bw∧ ∀k,Mu sb R k→b0≤k∧k<W.heap.size):=⟨hbw,hbb,hmu⟩
 clear hwb h ho hF hlst hE hsp hbox hw hout hqv hn he0 hrow hb hbw hbb hmu hS1 hb0 hm4 hdn hd0 hdq
 go_enter Tryz.func67,Tryz.ntmps67
 go_upto_region 2 with (go_at_call 111;rw [HW.out];(with_reducible refine HP1.mono ?_);rintro e9 w1 ⟨rfl,Y,hs1,hr1,hp1,hsm1,hk1⟩)
 obtain ⟨w2,hw2⟩: ∃w2,w1.alloc (.cells #[.int .u64 e0.t,.int .i64 e0.s,.int .u64 e0.q,.int .i64 e0.d,.int .i64 e0.k,.int .i64 e0.v] 54)=w2:=⟨_,rfl⟩
 obtain ⟨hb2,hbx2,hsz2⟩:=boxed _ _ _ hw2
 rw [hw2]
 have hL:=HX.out.2.2.2.1
 have hI0:PuI W w2 w1.heap.size b0 sb p A R e0 E n 0 (.slice (some ⟨g,0,none⟩) n c) Y:=by
  have hsim:=HX.out.1
  have hinj:Inj (n+1) R.X:=by have:=hsim.inj;rwa [HQ.out.2.1] at this
  have q1:PuI W w1 w1.heap.size b0 sb p A R e0 E n 0 (.slice (some ⟨g,0,none⟩) n c) Y:=by
   refine ⟨by rw [hs1,box_set6],hr1,hp1,hsm1.inj (pop_inj hinj),fun x=> ?_,.inl (by rw [HQ.out.1];rfl),⟨by have:=HB.out.2.1;have:=hk1.size;omega,Nat.le_refl _⟩,?_⟩
   ·rw [show n+0=n from rfl,hsm1.set x,pop_set hinj,←HQ.out.2.1,←hsim.set x,HQ.out.2.2.1]
    constructor
    ·exact .inl
    ·rintro (a|⟨j,hj,_⟩)
     ·exact a
     ·omega
   ·refine (Kq.below HB.out.2.2).transM hk1 fun k hk e9=> ?_
    rcases e9 with e9|e9
    ·exact .inl e9
    ·exact .inr (by rw [HQ.out.1,e9];rfl)
  exact q1.below hb2
 have hz1:=hk1.size
 have HB1:=HB.out
 have hef2:w2.heap[W.heap.size]? =some (.cells #[.int .i64 E.code,.slice wp E.nw wc,.int .u64 E.dice,.int .u64 E.sent,.slice op E.on oc,.int .i64 E.used] 128 (0,0)):=by
  refine (hb2.block _ (by omega)).trans ((hk1.block _ (by omega) ?_).trans HB1.1)
  have h8:=HMU.out.2.2 sb (.inl rfl)
  have h9:=HMU.out.2.2 g (.inr (.inr (.inl (by rw [HQ.out.1];rfl))))
  rintro (e9|e9)<;>omega
 have c4:w2.cell? ⟨W.heap.size,4,none⟩=some (.slice op E.on oc):=cell_in hef2 rfl
 have hI0:PuI W w2 (w1.heap.size+1) b0 sb p A R e0 E n 0 (.slice (some ⟨g,0,none⟩) n c) Y:=⟨hI0.box,hI0.q,hI0.hp,hI0.inj,hI0.set,.inl (by rw [HQ.out.1];rfl),⟨by have:=hI0.bB;omega,by omega⟩,hI0.k⟩
 have HI0:Hid (PuI W w2 (w1.heap.size+1) b0 sb p A R e0 E n 0 (.slice (some ⟨g,0,none⟩) n c) Y∧w2.heap[W.heap.size]? =some (.cells #[.int .i64 E.code,.slice wp E.nw wc,.int .u64 E.dice,.int .u64 E.sent,.slice op E.on oc,.int .i64 E.used] 128 (0,0))∧w2.heap[w1.heap.size]? =some (.cells #[.int .u64 e0.t,.int .i64 e0.s,.int .u64 e0.q,.int .i64 e0.d,.int .i64 e0.k,.int .i64 e0.v] 54 (0,0))∧wb.heap.size≤w1.heap.size):=⟨hI0,hef2,hbx2,hz1⟩
 obtain ⟨ge,hge⟩: ∃ge,w1.heap.size=ge:=⟨_,rfl⟩
 rw [hge] at HI0 ⊢
 have HGE:Hid (w1.heap.size=ge∧wb.heap.size≤ge):=⟨hge,by omega⟩
 clear hs1 hr1 hp1 hsm1 hk1 hw2 hb2 hbx2 hsz2 hI0 hef2 hz1 HB1 HP1 hge
 go_wp2_with fail
 clear c4
 go_loopw [14] (fun x wr=> ∃(i:Nat) (qv:Value) (Y:Nat→Se),x=.int .i64 (i:Int)∧i≤E.on∧PuI W wr (ge+1) b0 sb p A R e0 E n i qv Y∧wr.heap[W.heap.size]? =some (.cells #[.int .i64 E.code,.slice wp E.nw wc,.int .u64 E.dice,.int .u64 E.sent,.slice op E.on oc,.int .i64 E.used] 128 (0,0))∧wr.heap[ge]? =some (.cells #[.int .u64 e0.t,.int .i64 e0.s,.int .u64 e0.q,.int .i64 e0.d,.int .i64 e0.k,.int .i64 e0.v] 54 (0,0))) (fun x _=>E.on-(intOf x).toNat)
 case atStart=>exact ⟨0,_,Y,rfl,Nat.zero_le _,HI0.out.1,HI0.out.2.1,HI0.out.2.2.1⟩
 case round=>
  obtain ⟨i,qv,Y9,rfl,hi,hI,hef,heb⟩:=hrel
  by_cases hlt:i<E.on
  case pos=>
   have dlt:decide ((i:Int)<(E.on:Int))=true:=by simp;omega
   have i0:(0:Int)≤(i:Int):=by omega
   have i1:(i:Int)<(E.on:Int):=by omega
   have ei:IntKind.i64.wrap ((i:Int)+1)=(i:Int)+1:=by rw [IntKind.wrap_i64];omega
   have hme:=meas hlt
   have hbB:=hI.bB
   obtain ⟨gO,hgO⟩: ∃gO,op=some ⟨gO,0,none⟩:=by
    rcases HOW.out.2.form with ⟨_,h2⟩|⟨g9,c9,h1,_,_⟩
    ·omega
    ·injection h1 with h1
     exact ⟨g9,h1⟩
   subst hgO
   have hOw:Own wr bw 54 6 (.slice (some ⟨gO,0,none⟩) E.on oc) E.on (seF (outS E)):=by
    refine Own.congr (Kq.own HOW.out.2 hI.k fun k hk9 e9=> ?_) fun j hj=> ?_
    ·have l1:=(Own.lt HOW.out.2 k hk9).1
     have l2:=HMU.out.1 k (by rcases e9 with e9|e9;exact .inl e9;exact .inr (.inr (.inl e9)))
     omega
    ·have:=HX.out.2.2.1.eo.outF
     rw [HX.out.2.2.2.2.1] at this
     exact this j hj
   obtain ⟨x0,x1,x2,x3,x4,x5⟩:=SRow.cells hOw hlt
   obtain ⟨wa,hwa⟩: ∃wa,wr.alloc (.cells #[.int .u64 (outS E i).t,.int .i64 (outS E i).s,.int .u64 (outS E i).q,.int .i64 (outS E i).d,.int .i64 (outS E i).k,.int .i64 (outS E i).v] 54)=wa:=⟨_,rfl⟩
   obtain ⟨hba,hbxa,hsza⟩:=boxed _ _ _ hwa
   have HWA:Hid (wr.alloc (.cells #[.int .u64 (outS E i).t,.int .i64 (outS E i).s,.int .u64 (outS E i).q,.int .i64 (outS E i).d,.int .i64 (outS E i).k,.int .i64 (outS E i).v] 54)=wa):=hwa
   have hIa:=hI.below hba
   have hbd:Below wa.heap.size wa wa.drew:=(Below.refl _ wa).drew
   have hId:=hIa.below hbd
   have hnn:n+i+1≤2932031007402:=by
    have h1:=HNB.out
    have h2:=HX.out.2.2.2.2.2
    have h3:=hpl.bu
    have h4:=HQ.out.2.1
    unfold Spent at h2
    omega
   have HP:=qpush_any sb 6 _ _ qv b0 (n+i) Y9 (outS E i) wa.drew hId.box rfl hId.q (hId.ne HX.out.1) (by have:=HMU.out.2.2 sb (.inl rfl);have:=hId.k.size;omega) hnn hId.hp
   have hfr: ¬A.M (outS E i):=by
    have:=HX.out.2.2.1.fresh HX.out.2.1 (i:=i)
    rw [HX.out.2.2.2.2.1] at this
    exact this hlt
   have hnj: ∀j,j<i→outS E j≠outS E i:=fun j hj he=>by
    have:=HX.out.2.2.1.inj HX.out.2.1.m (i:=j) (j:=i)
    rw [HX.out.2.2.2.2.1] at this
    have:=this (by omega) hlt he
    omega
   have HII:Hid (PuI W wa.drew (ge+1) b0 sb p A R e0 E n i qv Y9∧ ¬A.M (outS E i)∧(∀j,j<i→outS E j≠outS E i)∧wa.drew.heap[W.heap.size]? =some (.cells #[.int .i64 E.code,.slice wp E.nw wc,.int .u64 E.dice,.int .u64 E.sent,.slice (some ⟨gO,0,none⟩) E.on oc,.int .i64 E.used] 128 (0,0))∧wa.drew.heap[ge]? =some (.cells #[.int .u64 e0.t,.int .i64 e0.s,.int .u64 e0.q,.int .i64 e0.d,.int .i64 e0.k,.int .i64 e0.v] 54 (0,0))):=⟨hId,hfr,hnj,(hba.block _ (lt_of_block hef)).trans hef,(hba.block _ (lt_of_block heb)).trans heb⟩
   have HPU: ∀(w5:World) (qv':Value) (Y':Nat→Se),w5.heap[sb]? =some (.cells (#[.slice R.pq p.nq R.pc,.int .u64 p.lk,.int .u64 p.en,.int .i64 p.bu,.int .i64 p.fu,R.sv,qv,R.tv,.int .i64 A.f].setIfInBounds 6 qv') 125 (0,0))→Own w5 b0 54 6 qv' (n+i+1) (seF Y')→Hp (n+i+1) Y'→Sam (n+i+1) (setS Y9 (n+i) (outS E i)) Y'→(qv'.ownBlock=qv.ownBlock∨ ∃k,qv'.ownBlock=some k∧wa.drew.heap.size≤k)→Kq (fun k=>k=sb∨some k=qv.ownBlock) wa.drew w5→Hid (PuI W w5 (ge+1) b0 sb p A R e0 E n (i+1) qv' Y'∧w5.heap[W.heap.size]? =some (.cells #[.int .i64 E.code,.slice wp E.nw wc,.int .u64 E.dice,.int .u64 E.sent,.slice (some ⟨gO,0,none⟩) E.on oc,.int .i64 E.used] 128 (0,0))∧w5.heap[ge]? =some (.cells #[.int .u64 e0.t,.int .i64 e0.s,.int .u64 e0.q,.int .i64 e0.d,.int .i64 e0.k,.int .i64 e0.v] 54 (0,0))):=fun w5 qv' Y' g1 g2 g3 g4 g5 g6=>by
    obtain ⟨q1,q2,q3,q4,q5⟩:=HII.out
    have hS:=HMU.out.2.2 sb (.inl rfl)
    have hG:=HGE.out
    have hBs:=HB.out.2.1
    have hno: ∀k0,k0≤ge→W.heap.size≤k0→ ¬(k0=sb∨some k0=qv.ownBlock):=fun k0 l1 l2=>by
     rintro (e9|e9)
     ·omega
     ·rcases q1.fr with f|⟨k9,f1,f2⟩
      ·have:=HMU.out.2.2 k0 (.inr (.inr (.inl (e9.trans f))))
       omega
      ·rw [f1] at e9
       injection e9 with e9
       omega
    exact ⟨q1.push q2 q3 g1 g2 g3 g4 g5 g6,(g6.block _ (lt_of_block q4) (hno _ (by omega) (Nat.le_refl _))).trans q4,(g6.block _ (lt_of_block q5) (hno _ (Nat.le_refl _) (by omega))).trans q5⟩
   have hbl:wr.heap.size≠sb∧ ∀k,qv.ownBlock=some k→k<wr.heap.size:=⟨by have:=lt_of_block hI.box;omega,fun k hk9=>(Own.lt hI.q k hk9).2⟩
   have KK: ∀w',Kq (fun k=>k=sb∨some k=qv.ownBlock) wa w'→Hid (w'.cell? ⟨wr.heap.size,0,none⟩=some (.int .u64 (outS E i).t)∧w'.cell? ⟨wr.heap.size,1,none⟩=some (.int .i64 (outS E i).s)∧w'.cell? ⟨wr.heap.size,2,none⟩=some (.int .u64 (outS E i).q)∧w'.cell? ⟨wr.heap.size,3,none⟩=some (.int .i64 (outS E i).d)∧w'.cell? ⟨wr.heap.size,4,none⟩=some (.int .i64 (outS E i).k)∧w'.cell? ⟨wr.heap.size,5,none⟩=some (.int .i64 (outS E i).v)):=fun w' hk=>by
    have hx:=(hk.block wr.heap.size (by omega) (by rintro (e9|e9);exact hbl.1 e9;have:=hbl.2 _ e9.symm;omega)).trans hbxa
    exact ⟨cell_in hx rfl,cell_in hx rfl,cell_in hx rfl,cell_in hx rfl,cell_in hx rfl,cell_in hx rfl⟩
   have hkd:Kq (fun k=>k=sb∨some k=qv.ownBlock) wa wa.drew:=Kq.below hbd
   have KP0:=(KK wa.drew hkd).out
   clear hI hef heb hOw hIa hId hwa hba hbxa hfr hnj hbd hsza hbl
   go_upto_region 5 with fail
   rw [HWA.out]
   clear x0 x1 x2 x3 x4 x5
   go_region_held3 (fun w'=>w'.cell? ⟨wr.heap.size,0,none⟩=some (.int .u64 (outS E i).t)∧w'.cell? ⟨wr.heap.size,1,none⟩=some (.int .i64 (outS E i).s)∧w'.cell? ⟨wr.heap.size,2,none⟩=some (.int .u64 (outS E i).q)∧w'.cell? ⟨wr.heap.size,3,none⟩=some (.int .i64 (outS E i).d)∧w'.cell? ⟨wr.heap.size,4,none⟩=some (.int .i64 (outS E i).k)∧w'.cell? ⟨wr.heap.size,5,none⟩=some (.int .i64 (outS E i).v)) (first|with_reducible exact KP0|with_reducible exact KP1|go_keep) ((go_at_call 112;(with_reducible refine HP.mono ?_);rintro e9 w5 ⟨rfl,qv',Y',g1,g2,g3,g4,g5,g6⟩;have KP1:=(KK w5 (hkd.trans g6)).out;have H5:=HPU w5 qv' Y' g1 g2 g3 g4 g5 g6;clear g1 g2 g3 g4 g5 g6))
   all_goals (
    go_wp2_with fail
    exact ⟨⟨i+1,qv',Y',rfl,hlt,H5.out.1,H5.out.2.1,H5.out.2.2⟩,hme⟩)
  have dlt:decide ((i:Int)<(E.on:Int))=false:=by simp;omega
  obtain rfl:i=E.on:=by omega
  have hsim:=HX.out.1
  have hBs:=HB.out.2.1
  have hG:=HGE.out
  have hS:=HMU.out.2.2 sb (.inl rfl)
  obtain ⟨gs,cs,hsv,hst⟩: ∃gs cs,R.sv=.slice (some ⟨gs,0,none⟩) p.nq cs∧ARow W b0 gs p.nq cs R.C:=by
   rcases hsim.st.form with ⟨h1,h2⟩|⟨g9,c9,h1,h2,h3⟩
   ·have:=HD.out.2.2
    omega
   ·have hq:=hsim.st
    rw [h1] at hq
    exact ⟨g9,c9,h1,hq⟩
  have hgsM:Mu sb R gs:=.inr (.inl (by rw [hsv];rfl))
  have hgs2:gs≠sb:=fun e9=>hsim.n1 (by rw [hsv,e9];rfl)
  have hgsq: ¬(gs=sb∨some gs=R.qv.ownBlock):=by
   rintro (e9|e9)
   ·exact hgs2 e9
   ·exact (hsim.n4 gs (by rw [hsv];rfl)).1 e9.symm
  have hst1:ARow wr b0 gs p.nq cs R.C:=Kq.own hst hI.k fun k hk9 e9=>by
   have h8:some gs=some k:=hk9
   injection h8 with h8
   exact hgsq (h8▸e9)
  have hgl:=hst1.lt.2
  have hgW:=HMU.out.2.2 gs hgsM
  have KK: ∀w',Kq (fun k=>k=gs) wr w'→Hid ((w'.cell? ⟨sb,5,none⟩=some (.slice (some ⟨gs,0,none⟩) p.nq cs)∧w'.cell? ⟨ge,3,none⟩=some (.int .i64 (dn:Int))∧w'.cell? ⟨W.heap.size,1,none⟩=some (.slice wp E.nw wc)∧w'.cell? ⟨W.heap.size,2,none⟩=some (.int .u64 E.dice)∧w'.cell? ⟨W.heap.size,3,none⟩=some (.int .u64 E.sent))):=fun w' hk=>by
   have hs1:=(hk.block sb (lt_of_block hI.box) (fun e9=>hgs2 e9.symm)).trans hI.box
   have he1:=(hk.block ge (lt_of_block heb) (by show ge≠gs;omega)).trans heb
   have hf1:=(hk.block W.heap.size (lt_of_block hef) (by show W.heap.size≠gs;omega)).trans hef
   have k5:=cell_in hs1 (o:=5) (v:=R.sv) rfl
   rw [hsv] at k5
   have k3:=cell_in he1 (o:=3) (v:=.int .i64 e0.d) rfl
   rw [HD.out.2.1] at k3
   exact ⟨k5,k3,cell_in hf1 rfl,cell_in hf1 rfl,cell_in hf1 rfl⟩
  have hkd:Kq (fun k=>k=gs) wr wr.drew:=Kq.below (drewS wr)
  have KP0:=(KK wr.drew hkd).out
  have hstd:ARow wr.drew b0 gs p.nq cs R.C:=Own.later hst1 (drewS wr)
  obtain ⟨y0,y1,y2⟩:=hst1.cells HD.out.2.2
  have fz:=hst1.fz
  have j0:(0:Int)≤(dn:Int):=by omega
  have j1:(dn:Int)<(p.nq:Int):=by have:=HD.out.2.2;omega
  have HEND:Hid (PuI W wr (ge+1) b0 sb p A R e0 E n E.on qv Y9∧wr.heap[ge]? =some (.cells #[.int .u64 e0.t,.int .i64 e0.s,.int .u64 e0.q,.int .i64 e0.d,.int .i64 e0.k,.int .i64 e0.v] 54 (0,0))∧ARow wr b0 gs p.nq cs R.C∧R.sv=.slice (some ⟨gs,0,none⟩) p.nq cs∧Mu sb R gs∧gs≠sb):=⟨hI,heb,hst1,hsv,hgsM,hgs2⟩
  clear hI hef heb hst hst1 hsv hgsM hgsq hsim hstd
  go_upto_region 7 with fail
  go_region_held3 (fun w'=>(w'.cell? ⟨sb,5,none⟩=some (.slice (some ⟨gs,0,none⟩) p.nq cs)∧w'.cell? ⟨ge,3,none⟩=some (.int .i64 (dn:Int))∧w'.cell? ⟨W.heap.size,1,none⟩=some (.slice wp E.nw wc)∧w'.cell? ⟨W.heap.size,2,none⟩=some (.int .u64 E.dice)∧w'.cell? ⟨W.heap.size,3,none⟩=some (.int .u64 E.sent))) (first|with_reducible exact KP0|exact (KK _ (((hkd.trans (Kq.set _ _ _ _ rfl)).trans (Kq.set _ _ _ _ rfl)).trans (Kq.set _ _ _ _ rfl))).out|go_keep) (fail)
  all_goals (
   generalize hW7:World.drew (World.setCell (World.setCell (World.setCell wr _ _) _ _) _ _)=w7
   obtain ⟨i5,hi5,hz0,hz1,hz2⟩:=sinfo infoSE
   obtain ⟨hI,heb,hst1,hsv,hgsM,hgs2⟩:=HEND.out
   have hk7:Kq (fun k=>k=gs) wr w7:=by
    rw [←hW7]
    exact (((Kq.set (S:=fun k=>k=gs) _ _ _ _ rfl).trans (Kq.set _ _ _ _ rfl)).trans (Kq.set _ _ _ _ rfl)).trans (Kq.below (drewS _))
   have hst7:ARow w7 b0 gs p.nq cs (setS R.C dn ⟨wp,E.nw,wc,E.dice,E.sent⟩):=by
    rw [←hW7]
    exact Own.later (ARow.put hst1 dn ⟨wp,E.nw,wc,E.dice,E.sent⟩) (drewS _)
   have hsb7:=(hk7.block sb (lt_of_block hI.box) (fun e9=>hgs2 e9.symm)).trans hI.box
   have heb7:=(hk7.block ge (lt_of_block heb) (by show ge≠gs;omega)).trans heb
   have hsim:=HX.out.1
   obtain ⟨tp,tc,htv⟩:=own_slice hsim.tr
   have htr7:Own w7 b0 54 6 R.tv A.m (seF A.Z):=by
    refine Kq.own (Kq.own hsim.tr hI.k fun k hk9 e9=> ?_) hk7 fun k hk9 e9=> ?_
    ·rcases e9 with e9|e9
     ·exact hsim.n3 (e9▸hk9)
     ·exact hsim.n5 k e9.symm hk9
    ·exact (hsim.n4 gs (by rw [hsv];rfl)).2 (e9▸hk9)
   have hntb:R.tv.ownBlock≠some sb:=hsim.n3
   have hz7:=hk7.size
   have hzr:=hI.k.size
   have t0:w7.cell? ⟨ge,0,none⟩=some (.int .u64 e0.t):=cell_in heb7 rfl
   have t1:w7.cell? ⟨ge,1,none⟩=some (.int .i64 e0.s):=cell_in heb7 rfl
   have t2:w7.cell? ⟨ge,2,none⟩=some (.int .u64 e0.q):=cell_in heb7 rfl
   have t3:w7.cell? ⟨ge,3,none⟩=some (.int .i64 e0.d):=cell_in heb7 rfl
   have t4:w7.cell? ⟨ge,4,none⟩=some (.int .i64 e0.k):=cell_in heb7 rfl
   have t5:w7.cell? ⟨ge,5,none⟩=some (.int .i64 e0.v):=cell_in heb7 rfl
   have k7:w7.cell? ⟨sb,7,none⟩=some (.slice tp A.m tc):=by
    have:=cell_in hsb7 (o:=7) (v:=R.tv) rfl
    rw [this,htv]
   rw [htv] at htr7 hntb
   have hsb7l:=lt_of_block hsb7
   have hA6:Hid (∀j u,(seL e0)[j]? =some u→(w7.drew.alloc (.cells #[.int .u64 e0.t,.int .i64 e0.s,.int .u64 e0.q,.int .i64 e0.d,.int .i64 e0.k,.int .i64 e0.v] 54)).cell? ((⟨w7.heap.size,0,none⟩:Addr).add j)=some u):=scells_new w7.drew (seL e0) 54
   have kA7:(w7.drew.alloc (.cells #[.int .u64 e0.t,.int .i64 e0.s,.int .u64 e0.q,.int .i64 e0.d,.int .i64 e0.k,.int .i64 e0.v] 54)).cell? ⟨sb,7,none⟩=some (.slice tp A.m tc):=(World.cell?_of_block ((blkDA w7 _).block sb hsb7l)).trans k7
   have kB7:(w7.alloc (.cells #[.int .u64 e0.t,.int .i64 e0.s,.int .u64 e0.q,.int .i64 e0.d,.int .i64 e0.k,.int .i64 e0.v] 54)).cell? ⟨sb,7,none⟩=some (.slice tp A.m tc):=(World.cell?_of_block (((Below.refl _ w7).alloc (Nat.le_refl _) _).block sb hsb7l)).trans k7
   have HO:Hid (∀W9,Below w7.heap.size w7 W9→W9.ownsRow b0 54 6 (.slice tp A.m tc) A.m (cellsF (seF A.Z) (A.m*6))):=fun W9 h9=>Own.later htr7 h9
   have hm4:=HX.out.2.1.m
   have p3:b0≤w7.heap.size:=by omega
   have p1:A.m+1≤maxLen:=by unfold maxLen;omega
   have p2:(A.m+1)*48≤140737488355328:=by omega
   have HE7:Hid (Kq (fun k=>k=gs) wr w7∧ARow w7 b0 gs p.nq cs (setS R.C dn ⟨wp,E.nw,wc,E.dice,E.sent⟩)∧w7.heap[sb]? =some (.cells #[.slice R.pq p.nq R.pc,.int .u64 p.lk,.int .u64 p.en,.int .i64 p.bu,.int .i64 p.fu,R.sv,qv,R.tv,.int .i64 A.f] 125 (0,0))∧R.tv=.slice tp A.m tc∧W.heap.size≤w7.heap.size∧sb<w7.heap.size):=⟨hk7,hst7,hsb7,htv,by omega,hsb7l⟩
   clear hI heb hst1 hsv hgsM hsim htv htr7 hk7 hst7 hsb7 heb7 hW7 KP0 KK hkd y0 y1 y2 fz hm4 hz7 hzr
   go_upto_region 8 with fail
   go_region_law ((refine step_ap rfl (.tmp 37) (.tmp 39) 35 rfl b0 54 i5 _ 6 48 Tryz.underlying35 hi5 hz0 hz1 hz2 rfl (by decide) (.slice tp A.m tc) A.m _ (by simp [Act.eval]) (HO.out _ (blkDA w7 _)) ⟨w7.heap.size,0,none⟩ 1 1 (seL e0) (by simp [Act.eval]) rfl hA6.out (by simp [seL,Value.oneCell']) p1 p2 (by show b0≤(World.alloc w7.drew _).heap.size;rw [World.size_alloc];exact Nat.le_succ_of_le p3) ?_;intro v' w8 hown' hgrow hat;obtain ⟨g8,c8,rfl⟩:=ownsRow_succ hown';have hsb8:=(hgrow.block sb (by show sb<(World.alloc w7.drew _).heap.size;rw [World.size_alloc];exact Nat.lt_succ_of_lt HE7.out.2.2.2.2.2) (fun e9=>hntb e9.symm)).trans (((blkDA w7 _).block sb HE7.out.2.2.2.2.2).trans HE7.out.2.2.1);have n7:w8.cell? ⟨sb,7,none⟩=some R.tv:=cell_in hsb8 rfl;have nfz:w8.frozen? ⟨sb,7,none⟩=false:=frz hsb8 7;rw [HE7.out.2.2.2.1] at n7))
   all_goals (
    go_wp2_with fail
    go_end0
    refine ⟨rfl,?_⟩
    obtain ⟨x1,x2,x3,x4,x5,x6⟩:=HX.out
    obtain ⟨y1,y2,y3,y4,y5,y6⟩:=HEND.out
    obtain ⟨q1,q2,q3,q4,q5,q6⟩:=HE7.out
    have hO8:Own w8 b0 54 6 (.slice (some ⟨g8,0,none⟩) (A.m+1) c8) (A.m+1) (seF (setS A.Z A.m e0)):=by
     unfold Own
     rw [←seapp]
     exact hown'
    have hk78:Kq (fun k=>some k=R.tv.ownBlock) w7 w8:=by
     have g1:=(Kq.grown hgrow).mono (T:=fun k=>some k=R.tv.ownBlock) fun k _ e9=>by rw [q4];exact e9
     have g3:Kq (fun k=>some k=R.tv.ownBlock) w7 _:=Kq.below (blkDA w7 (.cells #[.int .u64 e0.t,.int .i64 e0.s,.int .u64 e0.q,.int .i64 e0.d,.int .i64 e0.k,.int .i64 e0.v] 54))
     exact g3.trans g1
    have hat2:(Value.slice (some ⟨g8,0,none⟩) (A.m+1) c8).ownBlock=R.tv.ownBlock∨ ∃k,(Value.slice (some ⟨g8,0,none⟩) (A.m+1) c8).ownBlock=some k∧w7.heap.size≤k:=by
     rcases hat with h9|h9
     ·exact .inl (by rw [q4];exact h9)
     ·refine .inr ⟨_,h9,?_⟩
      first|(rw [World.size_alloc];exact Nat.le_succ _)|(show w7.heap.size≤(World.alloc w7 _).heap.size;rw [World.size_alloc];exact Nat.le_succ _)
    exact take_end x1 x2 hpl x3 x5 x6 HQ.out.2.1 HMU.out.1 HOW.out.1 y1 HD.out.1 HD.out.2.2 y4 q1 q2 hk78 hO8 hat2 hsb8))
end Go.Proofs.YtecgecpgmpmkoaaGreat
namespace Go.Proofs.YtecgecpgmpmkoaaGreat
open Go.ChangeShapes Go.WideShapes Go.ChangeAt Go.RowKit
set_option linter.unusedVariables false
set_option linter.unusedSimpArgs false
theorem bcall {f:Nat} {args:Array Value} {w:World} {G:Prop} {b0:Bool} (h:Calls Tryz.prog f args w fun e w'=> ∃b,e=.returned (.bool b)∧(b=true↔G)∧Below w.heap.size w w') (hb:b0=true↔G):Calls Tryz.prog f args w fun e w'=>e=.returned (.bool b0)∧Below w.heap.size w w':=h.mono (by
 rintro e w' ⟨b,rfl,h1,h2⟩
 have:b=b0:=by
  have h3:=h1.trans hb.symm
  cases b<;>cases b0<;>simp at h3<;>rfl
 subst this
 exact ⟨rfl,h2⟩)
theorem AOk2.fault {p:Pl} {A:Ab} (h:AOk2 p A) (c:Int):AOk2 p { A with f:=c } :=⟨h.wd,h.dc,h.sn,h.ev,h.kd,h.m⟩
theorem SimR.fault {W W':World} {b0 sb:Nat} {p:Pl} {A:Ab} {R:Rv} (h:SimR W b0 sb p A R) (c:Int) (hk:Kq (fun k=>k=sb) W W') (hb:W'.heap[sb]? =some (.cells #[.slice R.pq p.nq R.pc,.int .u64 p.lk,.int .u64 p.en,.int .i64 p.bu,.int .i64 p.fu,R.sv,R.qv,R.tv,.int .i64 c] 125 (0,0))):SimR W' b0 sb p { A with f:=c } R:=by
 have hm: ∀k,k=sb→Mu sb R k:=fun k e=>.inl e
 exact ⟨hb,h.b,h.ps.kb0 hk.kb (fun g o e hn e9=>h.r0 g o e hn (hm g e9)) (fun j hj=>⟨fun g o e hn e9=>(h.r1 j hj).1 g o e hn (hm g e9),fun g o e hn e9=>(h.r1 j hj).2.1 g o e hn (hm g e9)⟩),Kq.own h.st hk fun k e e9=>h.n1 (by rw [←show k=sb from e9];exact e),fun j hj=>⟨(h.wd j hj).1,(h.wd j hj).2.1.kb0 hk.kb (fun g o e hn e9=>(h.r1 j hj).2.2 g o e hn (hm g e9)),(h.wd j hj).2.2⟩,Kq.own h.q hk fun k e e9=>h.n2 (by rw [←show k=sb from e9];exact e),Kq.own h.tr hk fun k e e9=>h.n3 (by rw [←show k=sb from e9];exact e),h.hp,h.inj,h.set,h.nb,h.n1,h.n2,h.n3,h.n4,h.n5,h.r0,h.r1⟩
set_option maxRecDepth 100000 in
set_option maxHeartbeats 4000000 in
theorem step_over (W:World) (b0 sb:Nat) (p:Pl) (A:Ab) (R:Rv) (h:SimR W b0 sb p A R) (ho:AOk2 p A) (hov:Over p A):Calls Tryz.prog 22 #[.pointer (some ⟨sb,0,none⟩)] W fun r W'=> ∃(B:Ab) (R':Rv) (x:Se) (c:Int),r=.returned (.tuple #[.agg #[.int .u64 x.t,.int .i64 x.s,.int .u64 x.q,.int .i64 x.d,.int .i64 x.k,.int .i64 x.v],.int .i64 c])∧StepR p A x c B∧SimR W' b0 sb p B R'∧AOk2 p B∧Kq (Mu sb R) W W'∧(∀k,k<W.heap.size→Mu sb R' k→Mu sb R k)∧ ∀r,r<W.heap.size→Av p R sb r→Av p R' sb r:=by
 obtain ⟨wb,hwb⟩: ∃wb,W.alloc (.cells #[.int .u64 0,.int .i64 0,.int .u64 0,.int .i64 0,.int .i64 0,.int .i64 0] 54)=wb:=⟨_,rfl⟩
 obtain ⟨hb0,hbox,hsz⟩:=boxed _ _ _ hwb
 have HW:Hid (W.alloc (.cells #[.int .u64 0,.int .i64 0,.int .u64 0,.int .i64 0,.int .i64 0,.int .i64 0] 54)=wb):=hwb
 have hS1:=h.below hb0
 have hsl:=h.lt
 have k8:wb.cell? ⟨sb,8,none⟩=some (.int .i64 A.f):=cell_in hS1.box rfl
 have HF:Hid (SimR W b0 sb p A R∧AOk2 p A∧Over p A∧Below W.heap.size W wb∧wb.heap[W.heap.size]? =some (.cells #[.int .u64 0,.int .i64 0,.int .u64 0,.int .i64 0,.int .i64 0,.int .i64 0] 54 (0,0))):=⟨h,ho,hov,hb0,hbox⟩
 rw [←hwb] at k8
 have hI:=idle_any wb b0 sb p A R hS1
 have hrl:W.heap.size<wb.heap.size:=by omega
 by_cases hf:A.f≠0
 ·have g0:(A.f !=0)=true:=by simpa using hf
  have g1:(A.f==0)=false:=by simpa using hf
  clear hwb h ho hov hS1 hbox hsz hb0 hf hI
  go_enter Tryz.func22,Tryz.ntmps22
  go_wp2_with fail
  rw [HW.out]
  have z0:wb.cell? ⟨W.heap.size,0,none⟩=some (.int .u64 0):=cell_in HF.out.2.2.2.2 rfl
  have z1:wb.cell? ⟨W.heap.size,1,none⟩=some (.int .i64 0):=cell_in HF.out.2.2.2.2 rfl
  have z2:wb.cell? ⟨W.heap.size,2,none⟩=some (.int .u64 0):=cell_in HF.out.2.2.2.2 rfl
  have z3:wb.cell? ⟨W.heap.size,3,none⟩=some (.int .i64 0):=cell_in HF.out.2.2.2.2 rfl
  have z4:wb.cell? ⟨W.heap.size,4,none⟩=some (.int .i64 0):=cell_in HF.out.2.2.2.2 rfl
  have z5:wb.cell? ⟨W.heap.size,5,none⟩=some (.int .i64 0):=cell_in HF.out.2.2.2.2 rfl
  refine bodyPost_ret (v:=.tuple #[.agg #[.int .u64 0,.int .i64 0,.int .u64 0,.int .i64 0,.int .i64 0,.int .i64 0],.int .i64 128]) (by simp [results,Tryz.results22,go_sem,z0,z1,z2,z3,z4,z5];try rfl) rfl ?_
  exact ⟨A,R,zeroE,128,rfl,.inl ⟨HF.out.2.2.1,rfl,rfl,rfl⟩,HF.out.1.below HF.out.2.2.2.1,HF.out.2.1,Kq.below HF.out.2.2.2.1,fun _ _ e=>e,fun _ _ e=>e⟩
 have hf0:A.f=0:=Classical.byContradiction hf
 have g0:(A.f !=0)=false:=by simpa using hf0
 have g1:(A.f==0)=true:=by simpa using hf0
 by_cases hi:Idle p A
 ·have HI:=bcall (b0:=true) hI ⟨fun _=>hi,fun _=>rfl⟩
  clear hwb h ho hov hS1 hbox hsz hb0 hf hf0 hI hi
  go_enter Tryz.func22,Tryz.ntmps22
  go_wp2_with (go_at_call 62;rw [HW.out];(with_reducible refine HI.mono ?_);rintro e w1 ⟨rfl,hb1⟩;have hr1:=(hb1.block _ hrl).trans HF.out.2.2.2.2;have hfz:=fun k=>frz hr1 k;have m0:w1.cell? ⟨W.heap.size,0,none⟩=some (.int .u64 0):=cell_in hr1 rfl;have m1:w1.cell? ⟨W.heap.size,1,none⟩=some (.int .i64 0):=cell_in hr1 rfl;have m2:w1.cell? ⟨W.heap.size,2,none⟩=some (.int .u64 0):=cell_in hr1 rfl;have m3:w1.cell? ⟨W.heap.size,3,none⟩=some (.int .i64 0):=cell_in hr1 rfl;have m4:w1.cell? ⟨W.heap.size,4,none⟩=some (.int .i64 0):=cell_in hr1 rfl;have m5:w1.cell? ⟨W.heap.size,5,none⟩=some (.int .i64 0):=cell_in hr1 rfl)
  have hbw1:Below W.heap.size W w1:=HF.out.2.2.2.1.trans (hb1.mono HF.out.2.2.2.1.size)
  generalize hWF:(World.setCell (World.setCell (World.setCell (World.setCell (World.setCell (World.setCell w1 _ _) _ _) _ _) _ _) _ _) _ _)=wF
  have hres:wF.heap[W.heap.size]? =some (.cells #[.int .u64 0,.int .i64 0,.int .u64 0,.int .i64 0,.int .i64 0,.int .i64 0] 54 (0,0)):=by
   rw [←hWF,setCell_block _ _ _ _ (setCell_block _ _ _ _ (setCell_block _ _ _ _ (setCell_block _ _ _ _ (setCell_block _ _ _ _ (setCell_block _ _ _ _ hr1)))))]
   rfl
  have hbF:Below W.heap.size W wF:=by
   rw [←hWF]
   exact (((((hbw1.setCell (p:=⟨W.heap.size,0,none⟩) (Nat.le_refl _) _).setCell (p:=⟨W.heap.size,1,none⟩) (Nat.le_refl _) _).setCell (p:=⟨W.heap.size,2,none⟩) (Nat.le_refl _) _).setCell (p:=⟨W.heap.size,3,none⟩) (Nat.le_refl _) _).setCell (p:=⟨W.heap.size,4,none⟩) (Nat.le_refl _) _).setCell (p:=⟨W.heap.size,5,none⟩) (Nat.le_refl _) _
  have z0:wF.cell? ⟨W.heap.size,0,none⟩=some (.int .u64 0):=cell_in hres rfl
  have z1:wF.cell? ⟨W.heap.size,1,none⟩=some (.int .i64 0):=cell_in hres rfl
  have z2:wF.cell? ⟨W.heap.size,2,none⟩=some (.int .u64 0):=cell_in hres rfl
  have z3:wF.cell? ⟨W.heap.size,3,none⟩=some (.int .i64 0):=cell_in hres rfl
  have z4:wF.cell? ⟨W.heap.size,4,none⟩=some (.int .i64 0):=cell_in hres rfl
  have z5:wF.cell? ⟨W.heap.size,5,none⟩=some (.int .i64 0):=cell_in hres rfl
  refine bodyPost_ret (v:=.tuple #[.agg #[.int .u64 0,.int .i64 0,.int .u64 0,.int .i64 0,.int .i64 0,.int .i64 0],.int .i64 128]) (by simp [results,Tryz.results22,go_sem,z0,z1,z2,z3,z4,z5];try rfl) rfl ?_
  exact ⟨A,R,zeroE,128,rfl,.inl ⟨HF.out.2.2.1,rfl,rfl,rfl⟩,HF.out.1.below hbF,HF.out.2.1,Kq.below hbF,fun _ _ e=>e,fun _ _ e=>e⟩
 ·have HI:=bcall (b0:=false) hI ⟨fun e=>(by cases e),fun e=>absurd e hi⟩
  have hsp:Spent p A:=by
   rcases hov with e|e|e
   ·exact absurd hf0 e
   ·exact absurd e hi
   ·exact e
  have HSP: ∀w1,Below wb.heap.size wb w1→Hid (Calls Tryz.prog 63 #[.pointer (some ⟨sb,0,none⟩)] w1 fun e w'=>e=.returned (.bool true)∧Below w1.heap.size w1 w'):=fun w1 hb=>by
   have h9:=spent_any w1 b0 sb p A R (hS1.below hb)
   have hsp':p.bu≤(A.m:Int):=hsp
   rw [decide_eq_true hsp'] at h9
   exact h9
  clear hwb h ho hov hS1 hbox hsz hb0 hf hf0 hI hi hsp
  go_enter Tryz.func22,Tryz.ntmps22
  go_wp2_with (first|(go_at_call 62;rw [HW.out];(with_reducible refine HI.mono ?_);rintro e w0 ⟨rfl,hb01⟩)|(go_at_call 63;(with_reducible refine (HSP w0 hb01).out.mono ?_);rintro e w1 ⟨rfl,hb12⟩;have hb1:Below wb.heap.size wb w1:=hb01.trans (hb12.mono hb01.size);have hr1:=(hb1.block _ hrl).trans HF.out.2.2.2.2;have hfz:=fun k=>frz hr1 k;have m0:w1.cell? ⟨W.heap.size,0,none⟩=some (.int .u64 0):=cell_in hr1 rfl;have m1:w1.cell? ⟨W.heap.size,1,none⟩=some (.int .i64 0):=cell_in hr1 rfl;have m2:w1.cell? ⟨W.heap.size,2,none⟩=some (.int .u64 0):=cell_in hr1 rfl;have m3:w1.cell? ⟨W.heap.size,3,none⟩=some (.int .i64 0):=cell_in hr1 rfl;have m4:w1.cell? ⟨W.heap.size,4,none⟩=some (.int .i64 0):=cell_in hr1 rfl;have m5:w1.cell? ⟨W.heap.size,5,none⟩=some (.int .i64 0):=cell_in hr1 rfl))
  have hbw1:Below W.heap.size W w1:=HF.out.2.2.2.1.trans (hb1.mono HF.out.2.2.2.1.size)
  generalize hWF:(World.setCell (World.setCell (World.setCell (World.setCell (World.setCell (World.setCell w1 _ _) _ _) _ _) _ _) _ _) _ _)=wF
  have hres:wF.heap[W.heap.size]? =some (.cells #[.int .u64 0,.int .i64 0,.int .u64 0,.int .i64 0,.int .i64 0,.int .i64 0] 54 (0,0)):=by
   rw [←hWF,setCell_block _ _ _ _ (setCell_block _ _ _ _ (setCell_block _ _ _ _ (setCell_block _ _ _ _ (setCell_block _ _ _ _ (setCell_block _ _ _ _ hr1)))))]
   rfl
  have hbF:Below W.heap.size W wF:=by
   rw [←hWF]
   exact (((((hbw1.setCell (p:=⟨W.heap.size,0,none⟩) (Nat.le_refl _) _).setCell (p:=⟨W.heap.size,1,none⟩) (Nat.le_refl _) _).setCell (p:=⟨W.heap.size,2,none⟩) (Nat.le_refl _) _).setCell (p:=⟨W.heap.size,3,none⟩) (Nat.le_refl _) _).setCell (p:=⟨W.heap.size,4,none⟩) (Nat.le_refl _) _).setCell (p:=⟨W.heap.size,5,none⟩) (Nat.le_refl _) _
  have z0:wF.cell? ⟨W.heap.size,0,none⟩=some (.int .u64 0):=cell_in hres rfl
  have z1:wF.cell? ⟨W.heap.size,1,none⟩=some (.int .i64 0):=cell_in hres rfl
  have z2:wF.cell? ⟨W.heap.size,2,none⟩=some (.int .u64 0):=cell_in hres rfl
  have z3:wF.cell? ⟨W.heap.size,3,none⟩=some (.int .i64 0):=cell_in hres rfl
  have z4:wF.cell? ⟨W.heap.size,4,none⟩=some (.int .i64 0):=cell_in hres rfl
  have z5:wF.cell? ⟨W.heap.size,5,none⟩=some (.int .i64 0):=cell_in hres rfl
  refine bodyPost_ret (v:=.tuple #[.agg #[.int .u64 0,.int .i64 0,.int .u64 0,.int .i64 0,.int .i64 0,.int .i64 0],.int .i64 128]) (by simp [results,Tryz.results22,go_sem,z0,z1,z2,z3,z4,z5];try rfl) rfl ?_
  exact ⟨A,R,zeroE,128,rfl,.inl ⟨HF.out.2.2.1,rfl,rfl,rfl⟩,HF.out.1.below hbF,HF.out.2.1,Kq.below hbF,fun _ _ e=>e,fun _ _ e=>e⟩
end Go.Proofs.YtecgecpgmpmkoaaGreat
