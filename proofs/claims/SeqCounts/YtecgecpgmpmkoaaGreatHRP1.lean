import Derived.Test.YtecgecpgmpmkoaaGreatHRN16
import Derived.Test.YtecgecpgmpmkoaaGreatHRN13
namespace Go.Proofs.YtecgecpgmpmkoaaGreat
open Go.ChangeShapes Go.WideShapes Go.ChangeAt Go.RowKit
set_option linter.unusedVariables false
set_option linter.unusedSimpArgs false
theorem StepsR.cut {p:Pl} {A:Ab} {n:Nat} {B:Ab} (h:StepsR p A n B): ∀m,m≤n→ ∃B',StepsR p A m B'∧ ∀i,i<A.m+m→B.Z i=B'.Z i:=by
 induction h with
 |zero=>
  intro m hm
  obtain rfl:m=0:=by omega
  exact ⟨A,.zero,fun _ _=>rfl⟩
 |more h1 h2 ih=>
  rename_i n B C x
  intro m hm
  by_cases e:m=n+1
  ·subst e
   exact ⟨C,h1.more h2,fun _ _=>rfl⟩
  ·obtain ⟨B',hB',hz⟩:=ih m (by omega)
   refine ⟨B',hB',fun i hi=> ?_⟩
   have hm1:=h1.m
   have hm2:=hB'.m
   rcases h2 with ⟨_,e,_⟩|⟨_,y,_,⟨e,e',_⟩|⟨_,_,rfl,rfl⟩⟩
   ·cases e
   ·exact absurd e'.symm e
   ·show setS _ _ _ i=_
    unfold setS
    rw [if_neg (by omega)]
    exact hz i hi
end Go.Proofs.YtecgecpgmpmkoaaGreat
namespace Go.Proofs.YtecgecpgmpmkoaaGreat
open Go.ChangeShapes Go.WideShapes Go.ChangeAt Go.RowKit
set_option linter.unusedVariables false
set_option linter.unusedSimpArgs false
theorem StepR.zero {p:Pl} {A B:Ab} {x:Se} (h:StepR p A x 0 B): ¬Over p A∧Lst A.M x∧(effA p A x).code=0∧B=nextA p A x:=by
 rcases h with ⟨_,e,_⟩|⟨ho,y,hy,⟨e,e',_⟩|⟨e1,_,rfl,rfl⟩⟩
 ·cases e
 ·exact absurd e'.symm e
 ·exact ⟨ho,hy,e1,rfl⟩
theorem steps_ok {p:Pl} (hp:PlOk p) {A:Ab} (ha:AOk2 p A) {n:Nat} {B:Ab} (h:StepsR p A n B):AOk2 p B:=by
 induction h with
 |zero=>exact ha
 |more h1 h2 ih=>
  obtain ⟨ho,hl,_,rfl⟩:=h2.zero
  exact ih.next hp hl.1 fun e=>ho (.inr (.inr e))
theorem nextA_at (p:Pl) (A:Ab) (x:Se):(nextA p A x).Z A.m=x:=by
 show setS A.Z A.m x A.m=x
 unfold setS
 rw [if_pos rfl]
theorem StepsR.at {p:Pl} (hp:PlOk p) {n:Nat} {B:Ab} (h:StepsR p (fstA p) n B) {i:Nat} (hi:i<n): ∃A,StepsR p (fstA p) i A∧AOk2 p A∧A.m=i∧(∀j,j<i→A.Z j=B.Z j)∧ ¬Over p A∧Lst A.M (B.Z i)∧(effA p A (B.Z i)).code=0∧StepsR p (fstA p) (i+1) (nextA p A (B.Z i)):=by
 obtain ⟨A,x,C,j1,j2,j3⟩:=h.pre i hi
 obtain ⟨B',hB,hz⟩:=h.cut (i+1) (by omega)
 obtain rfl:=j3.one hB
 have hm0:(fstA p).m=0:=rfl
 have hm:=j1.m
 obtain ⟨ho,hl,hc,rfl⟩:=j2.zero
 have hx:B.Z i=x:=by
  rw [hz i (by omega)]
  have:=nextA_at p A x
  rw [show A.m=i by omega] at this
  exact this
 have hzA: ∀j,j<i→A.Z j=B.Z j:=fun j hj=>by
  rw [hz j (by omega)]
  show A.Z j=setS A.Z A.m x j
  unfold setS
  rw [if_neg (by omega)]
 rw [hx]
 exact ⟨A,j1,steps_ok hp (fst_ok hp) j1,by omega,hzA,ho,hl,hc,j3⟩
theorem EndR.steps {p:Pl} {C:Ab} (h:EndR p (fstA p) C): ∃B,StepsR p (fstA p) C.m B∧C.Z=B.Z∧C.K=B.K∧C.d=B.d∧C.s=B.s∧C.M=B.M:=by
 obtain ⟨n,B,y,c,h1,h2,h3⟩:=h
 have hm:=h1.m
 have hm0:(fstA p).m=0:=rfl
 rcases h2 with ⟨_,_,_,rfl⟩|⟨_,z,_,⟨_,_,_,rfl⟩|⟨_,e9,_⟩⟩
 ·exact ⟨_,by rw [show C.m=n by omega];exact h1,rfl,rfl,rfl,rfl,rfl⟩
 ·exact ⟨B,by show StepsR p (fstA p) B.m B;rw [show B.m=n by omega];exact h1,rfl,rfl,rfl,rfl,rfl⟩
 ·exact absurd e9 h3
noncomputable def efS (p:Pl) (x:Se) (σ:(Nat→Int)×Int×Int):Ef:=effP (pgA p x) (clA p x) (p.nw x.d.toNat) σ.1 σ.2.1 σ.2.2
noncomputable def stP (p:Pl) (Z:Nat→Se) (k:Nat):Nat→(Nat→Int)×Int×Int
 |0=>(p.K k,(fstA p).d k,(fstA p).s k)
 |n+1=>if (Z n).d.toNat=k then ((efS p (Z n) (stP p Z k n)).wd,(efS p (Z n) (stP p Z k n)).dice,(efS p (Z n) (stP p Z k n)).sent) else stP p Z k n
theorem stP_congr (p:Pl) {Z Y:Nat→Se} (k:Nat): ∀n,(∀i,i<n→Z i=Y i)→stP p Z k n=stP p Y k n
 |0,_=>rfl
 |n+1,h=>by
  show (if (Z n).d.toNat=k then _ else _)=(if (Y n).d.toNat=k then _ else _)
  rw [h n (by omega),stP_congr p k n fun i hi=>h i (by omega)]
theorem steps_stP {p:Pl} {n:Nat} {B:Ab} (h:StepsR p (fstA p) n B): ∀k,stP p B.Z k n=(B.K k,B.d k,B.s k):=by
 induction h with
 |zero=>exact fun k=>rfl
 |more h1 h2 ih=>
  rename_i n A C x
  intro k
  obtain ⟨ho,hl,hc,rfl⟩:=h2.zero
  have hm:=h1.m
  have hm0:(fstA p).m=0:=rfl
  have hz:(nextA p A x).Z n=x:=by
   have:=nextA_at p A x
   rw [show A.m=n by omega] at this
   exact this
  have hco:stP p (nextA p A x).Z k n=(A.K k,A.d k,A.s k):=by
   rw [←ih k]
   refine stP_congr p k n fun i hi=> ?_
   show setS A.Z A.m x i=_
   unfold setS
   rw [if_neg (by omega)]
  show (if ((nextA p A x).Z n).d.toNat=k then _ else _)=_
  rw [hco,hz]
  by_cases e:x.d.toNat=k
  ·subst e
   rw [if_pos rfl]
   show _=((if x.d.toNat=x.d.toNat then (effA p A x).wd else A.K x.d.toNat),(if x.d.toNat=x.d.toNat then (effA p A x).dice else A.d x.d.toNat),(if x.d.toNat=x.d.toNat then (effA p A x).sent else A.s x.d.toNat))
   rw [if_pos rfl,if_pos rfl,if_pos rfl]
   rfl
  ·rw [if_neg e]
   show _=((if k=x.d.toNat then (effA p A x).wd else A.K k),(if k=x.d.toNat then (effA p A x).dice else A.d k),(if k=x.d.toNat then (effA p A x).sent else A.s k))
   rw [if_neg (fun e9=>e e9.symm),if_neg (fun e9=>e e9.symm),if_neg (fun e9=>e e9.symm)]
structure AtE (p:Pl) (C:Ab) (i:Nat):Prop where
 dn:(C.Z i).d.toNat<p.nq∧(C.Z i).d=((C.Z i).d.toNat:Int)
 pr:(p.pr (C.Z i).d.toNat).toNat<p.np∧0≤p.pr (C.Z i).d.toNat∧p.pr (C.Z i).d.toNat<(p.np:Int)
 ok:OkC (clA p (C.Z i))
 a64: ∀j,j<(pgA p (C.Z i)).n→In64 ((pgA p (C.Z i)).a j)
 wd: ∀j,In64 ((stP p C.Z (C.Z i).d.toNat i).1 j)
 dc:u64ok (stP p C.Z (C.Z i).d.toNat i).2.1
 sn:u64ok (stP p C.Z (C.Z i).d.toNat i).2.2
 eo:EOk (pgA p (C.Z i)) (clA p (C.Z i)) (stP p C.Z (C.Z i).d.toNat i).2.2 (p.nw (C.Z i).d.toNat) (efS p (C.Z i) (stP p C.Z (C.Z i).d.toNat i))
 code:(efS p (C.Z i) (stP p C.Z (C.Z i).d.toNat i)).code=0
theorem EndR.atE {p:Pl} (hp:PlOk p) {C:Ab} (h:EndR p (fstA p) C) {i:Nat} (hi:i<C.m):AtE p C i:=by
 obtain ⟨B,hB,hZ,_⟩:=h.steps
 obtain ⟨A,k1,k2,k3,k4,k5,k6,k7,_⟩:=hB.at hp hi
 have hF:=fitE hp k2 k6.1
 have hst:stP p C.Z (C.Z i).d.toNat i=(A.K (C.Z i).d.toNat,A.d (C.Z i).d.toNat,A.s (C.Z i).d.toNat):=by
  rw [←steps_stP k1]
  exact stP_congr p _ i fun j hj=>by rw [hZ];exact (k4 j hj).symm
 rw [←hZ] at hF k7
 obtain ⟨g1,g2,g3⟩:=hp.gt.2 _ hF.dn.1
 have hs:=hF.s0
 have hm:=k2.m
 refine ⟨hF.dn,⟨hF.pr,g1,g2⟩,hF.ok,hF.a64,?_,?_,?_,?_,?_⟩
 ·rw [hst];exact k2.wd _ hF.dn.1
 ·rw [hst];exact k2.dc _ hF.dn.1
 ·rw [hst]
  show 0≤A.s (C.Z i).d.toNat∧A.s (C.Z i).d.toNat≤18446744073709551615
  omega
 ·rw [hst];exact hF.eo
 ·rw [hst];exact k7
end Go.Proofs.YtecgecpgmpmkoaaGreat
