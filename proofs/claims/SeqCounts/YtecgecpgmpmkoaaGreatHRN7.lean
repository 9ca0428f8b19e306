import Derived.Test.YtecgecpgmpmkoaaGreatHRN3
import Derived.Test.YtecgecpgmpmkoaaGreatHM23
import Derived.Test.YtecgecpgmpmkoaaGreatHSV2
namespace Go.Proofs.YtecgecpgmpmkoaaGreat
open Go.ChangeShapes Go.WideShapes Go.ChangeAt Go.RowKit
set_option linter.unusedVariables false
set_option linter.unusedSimpArgs false
structure Ab where
 K:Nat→Nat→Int
 d:Nat→Int
 s:Nat→Int
 M:Se→Prop
 m:Nat
 Z:Nat→Se
 f:Int
structure PlOk (p:Pl):Prop where
 ki:0≤p.ki∧p.ki≤32
 gp:GP p
 gt:GT p
 gs:GS p
 lk:0<p.lk
 bu:0≤p.bu∧p.bu≤4096
 fu:1≤p.fu∧p.fu≤4096
 a64: ∀j,j<p.np→ ∀i,i<(p.P j).n→In64 ((p.P j).a i)
 k64: ∀j,j<p.nq→ ∀i,In64 (p.K j i)
 s64: ∀j,j<p.ns→u64ok (p.S j).t∧In64 (p.S j).v
def clA (p:Pl) (e:Se):Cl:=⟨e.t,e.s,e.q,e.d,e.k,e.v,p.lk,(p.nq:Int),p.fu⟩
def pgA (p:Pl) (e:Se):Pg:=p.P (p.pr e.d.toNat).toNat
noncomputable def effA (p:Pl) (A:Ab) (e:Se):Ef:=effP (pgA p e) (clA p e) (p.nw e.d.toNat) (A.K e.d.toNat) (A.d e.d.toNat) (A.s e.d.toNat)
def outS (E:Ef) (i:Nat):Se:=⟨intOf (E.oF (i*6)),intOf (E.oF (i*6+1)),intOf (E.oF (i*6+2)),intOf (E.oF (i*6+3)),intOf (E.oF (i*6+4)),intOf (E.oF (i*6+5))⟩
def Lst (M:Se→Prop) (e:Se):Prop:=M e∧ ∀x,M x→x≠e→klt e x=true
theorem Lst.one {M:Se→Prop} {e e':Se} (h:Lst M e) (h':Lst M e'):e=e':=Classical.byContradiction fun hne=>by
 have h1:=h.2 e' h'.1 (fun x=>hne x.symm)
 have h2:=h'.2 e h.1 hne
 rw [klt_iff] at h1 h2
 omega
def Idle (p:Pl) (A:Ab):Prop:= ∀x,A.M x→p.en≤x.t
def Spent (p:Pl) (A:Ab):Prop:=p.bu≤(A.m:Int)
def Over (p:Pl) (A:Ab):Prop:=A.f≠0∨Idle p A∨Spent p A
noncomputable def nextA (p : Pl) (A : Ab) (e : Se) : Ab :=
  { K := fun j => if j = e.d.toNat then (effA p A e).wd else A.K j
    d := fun j => if j = e.d.toNat then (effA p A e).dice else A.d j
    s := fun j => if j = e.d.toNat then (effA p A e).sent else A.s j
    M := fun x => (A.M x ∧ x ≠ e) ∨ InX (effA p A e).on (outS (effA p A e)) x
    m := A.m + 1
    Z := setS A.Z A.m e
    f := A.f }
def zeroE:Se:=⟨0,0,0,0,0,0⟩
def StepR (p:Pl) (A:Ab) (e:Se) (c:Int) (B:Ab):Prop:=
 (Over p A∧c=128∧e=zeroE∧B=A)∨
 (¬Over p A∧ ∃x,Lst A.M x∧(((effA p A x).code≠0∧c=(effA p A x).code∧e=zeroE∧B= { A with f:=(effA p A x).code })∨((effA p A x).code=0∧c=0∧e=x∧B=nextA p A x)))
theorem StepR.one {p:Pl} {A B B':Ab} {e e':Se} {c c':Int} (h:StepR p A e c B) (h':StepR p A e' c' B'):e=e'∧c=c'∧B=B':=by
 rcases h with ⟨h1,rfl,rfl,rfl⟩|⟨h1,x,hx,h2⟩
 ·rcases h' with ⟨_,rfl,rfl,rfl⟩|⟨h9,_⟩
  ·exact ⟨rfl,rfl,rfl⟩
  ·exact absurd h1 h9
 ·rcases h' with ⟨h9,_⟩|⟨_,y,hy,h3⟩
  ·exact absurd h9 h1
  ·obtain rfl:=Lst.one hx hy
   rcases h2 with ⟨a,rfl,rfl,rfl⟩|⟨a,rfl,rfl,rfl⟩<;>rcases h3 with ⟨b,rfl,rfl,rfl⟩|⟨b,rfl,rfl,rfl⟩
   ·exact ⟨rfl,rfl,rfl⟩
   ·exact absurd b a
   ·exact absurd a b
   ·exact ⟨rfl,rfl,rfl⟩
structure EvOk (p:Pl) (sn:Nat→Int) (x:Se):Prop where
 t:u64ok x.t
 s:0≤x.s∧x.s<(p.nq:Int)
 q:0≤x.q∧x.q<sn x.s.toNat
 d:0≤x.d∧x.d<(p.nq:Int)
 k:0≤x.k∧x.k<p.ki
 v:In64 x.v
structure AOk2 (p:Pl) (A:Ab):Prop where
 wd: ∀j,j<p.nq→ ∀i,In64 (A.K j i)
 dc: ∀j,j<p.nq→u64ok (A.d j)
 sn: ∀j,j<p.nq→0≤A.s j∧A.s j≤4611686018427387904+16*(A.m:Int)
 ev: ∀x,A.M x→EvOk p A.s x
 kd: ∀x y,A.M x→A.M y→x.s=y.s→x.q=y.q→x=y
 m:(A.m:Int)≤4096
structure EOk (P:Pg) (cl:Cl) (s0:Int) (n:Nat) (E:Ef):Prop where
 nw:E.nw=n
 on:E.on≤16
 sent:E.sent=u64of (s0+E.on)
 wd: ∀j,In64 (E.wd j)
 dice:u64ok E.dice
 ev: ∀i,i<E.on→ ∃D T k X:Int,E.oF (i*6)=.int .u64 (cl.time+D)∧E.oF (i*6+1)=.int .i64 cl.dst∧E.oF (i*6+2)=.int .u64 (u64of (s0+i))∧E.oF (i*6+3)=.int .i64 T∧E.oF (i*6+4)=.int .i64 k∧E.oF (i*6+5)=.int .i64 X∧(0≤T∧T<cl.parts)∧(0≤k∧k<P.m)∧In64 X∧cl.look≤D∧0≤D∧cl.time+D≤18446744073709551615
def DatOk (M:Mc):Prop:= ∀i,i<M.on→ ∃X,M.oF (i*6+5)=.int .i64 X∧In64 X
theorem dat_do {cl:Cl} (M:Mc) (o a b:Int) (hok:OkM M) (h:DatOk M) (hf:doF cl M o a b=0):DatOk (doM cl M o a b):=by
 by_cases h39:o=39
 ·subst h39
  have e:doM cl M 39 a b=sentM cl a M:=by
   unfold doM
   rw [if_neg (by omega),if_neg (by omega),if_neg (by omega),if_neg (by omega),if_neg (by omega),if_neg (by omega),if_neg (by omega),if_neg (by omega),if_neg (by omega),if_neg (by omega),if_neg (by omega),if_neg (by omega),if_neg (by omega),if_neg (by omega),if_neg (by omega),if_pos rfl]
  rw [e]
  intro i hi
  have hi':i<M.on+1:=hi
  by_cases hlt:i<M.on
  ·obtain ⟨X,h1,h2⟩:=h i hlt
   refine ⟨X,?_,h2⟩
   show oApp M _ (i*6+5)=_
   unfold oApp
   rw [if_pos (by omega)]
   exact h1
  ·obtain rfl:i=M.on:=by omega
   refine ⟨topM (popM (popM M)),?_,hok.st _⟩
   show oApp M _ (M.on*6+5)=_
   unfold oApp
   rw [if_neg (by omega),show M.on*6+5-M.on*6=5 by omega]
   rfl
 ·obtain ⟨e1,e2,e3⟩:=doM_out cl M o a b h39
  intro i hi
  rw [e2]
  exact h i (by rw [e1] at hi;exact hi)
theorem u64of_idx {x:Int} (h:u64ok x):u64of x=x:=by
 obtain ⟨h1,h2⟩:=h
 unfold u64of
 simp only [IntKind.wrap,IntKind.bits,IntKind.signed]
 simp
 omega
theorem u64of_ok (x:Int):u64ok (u64of x):=by
 unfold u64of u64ok
 simp only [IntKind.wrap,IntKind.bits,IntKind.signed]
 simp
 omega
theorem effOk {P:Pg} {cl:Cl} {n:Nat} {K:Nat→Int} {d s:Int} (hz:dcode P P.m=0) (hf:fitsB P cl n=true) (hcl:OkC cl) (hwd: ∀j,In64 (K j)) (hd:u64ok d) (hs:u64ok s) (hA64: ∀i,i<P.n→In64 (P.a i)):EOk P cl s n (effP P cl n K d s):=by
 have hs0:s=u64of (s+((0:Nat):Int)):=by rw [show s+((0:Nat):Int)=s by omega,u64of_idx hs]
 unfold effP
 rw [if_neg (by rw [hz];simp),if_neg (by rw [hf];simp)]
 by_cases hen:P.en cl.kind.toNat= -1
 ·rw [if_pos hen]
  exact ⟨rfl,Nat.zero_le _,hs0,hwd,hd,fun i hi=>absurd hi (Nat.not_lt_zero _)⟩
 ·rw [if_neg hen]
  by_cases h0:(runOf P cl K d s).1=0
  ·rw [if_neg (by simpa using h0)]
   obtain ⟨_,hsP,hins,g,hnr,hbd⟩:=dcode_zero hz
   obtain ⟨⟨k1,k2⟩,⟨k3,k4⟩,⟨k5,k6⟩,k7,k8,k9⟩:=fitsB_yes hf
   have hkk:cl.kind.toNat<P.m:=by omega
   have en0:=g.en cl.kind.toNat hkk
   have hdl:=(sol_dL g hnr hbd).en _ hkk (by omega)
   have hnm:OkM (newM K d s (.slice none 0 0)):=⟨fun _=>in64_0,fun _=>in64_0,hwd,hd,hs,Nat.zero_le _⟩
   obtain ⟨⟨⟨hS,hD⟩,_⟩,hO⟩:=runP_ind g hsP hnr hbd hins hcl hA64 (fun M=>(SInv P cl s M∧DatOk M)∧True) (fun M h=>⟨⟨⟨h.1.1.on,h.1.1.sent,h.1.1.ev⟩,h.1.2⟩,trivial⟩) (fun M h=>⟨⟨⟨h.1.1.on,h.1.1.sent,h.1.1.ev⟩,h.1.2⟩,trivial⟩) (fun M i hi hok hJ h1 h2=>⟨⟨sinv_do (usM M) _ _ _ hJ.1.1 h1 h2,dat_do (usM M) _ _ _ ⟨hok.st,hok.lo,hok.wd,hok.dice,hok.sent,hok.on⟩ hJ.1.2 h2⟩,trivial⟩) cl.fuel.toNat (P.en cl.kind.toNat).toNat (newM K d s (.slice none 0 0)) (by omega) (by rw [hdl];rfl) hnm ⟨⟨⟨Nat.zero_le _,hs0,fun i hi=>absurd hi (Nat.not_lt_zero _)⟩,fun i hi=>absurd hi (Nat.not_lt_zero _)⟩,trivial⟩
   refine ⟨rfl,hS.on,hS.sent,hO.wd,hO.dice,fun i hi=> ?_⟩
   obtain ⟨D,T,k,X,e0,e1,e2,e3,e4,e5,r1,r2,r3,r4⟩:=hS.ev i hi
   obtain ⟨X',e5',hX⟩:=hD i hi
   have hXX:X=X':=by
    have:=e5.symm.trans e5'
    injection this
   have ht:=u64of_ok D
   unfold addE at r4
   have hle:cl.time+u64of D≤18446744073709551615:=by
    apply Classical.byContradiction
    intro hc
    rw [if_neg hc] at r4
    cases r4
   have hae:addN cl.time (u64of D)=cl.time+u64of D:=by unfold addN;rw [if_pos hle]
   rw [hae] at e0
   exact ⟨u64of D,T,k,X,e0,e1,e2,e3,e4,e5,r1,r2,hXX▸hX,by omega,ht.1,hle⟩
  ·rw [if_pos h0]
   exact ⟨rfl,Nat.zero_le _,hs0,hwd,hd,fun i hi=>absurd hi (Nat.not_lt_zero _)⟩
theorem EOk.outF {P:Pg} {cl:Cl} {s0:Int} {n:Nat} {E:Ef} (h:EOk P cl s0 n E): ∀j,j<E.on*6→E.oF j=seF (outS E) j:=fun j hj=>by
 obtain ⟨i,r,hr,rfl⟩: ∃i r,r<6∧j=i*6+r:=⟨j / 6,j % 6,by omega,by omega⟩
 obtain ⟨D,T,k,X,e0,e1,e2,e3,e4,e5,_⟩:=h.ev i (by omega)
 rw [seF_at _ _ _ hr]
 unfold seC seL outS
 rw [e0,e1,e2,e3,e4,e5]
 have:r=0∨r=1∨r=2∨r=3∨r=4∨r=5:=by omega
 rcases this with rfl|rfl|rfl|rfl|rfl|rfl
 ·exact e0
 ·exact e1
 ·exact e2
 ·exact e3
 ·exact e4
 ·exact e5
end Go.Proofs.YtecgecpgmpmkoaaGreat
namespace Go.Proofs.YtecgecpgmpmkoaaGreat
open Go.ChangeShapes Go.WideShapes Go.ChangeAt Go.RowKit
set_option linter.unusedVariables false
set_option linter.unusedSimpArgs false
structure FitE (p:Pl) (A:Ab) (e:Se):Prop where
 dn:e.d.toNat<p.nq∧e.d=(e.d.toNat:Int)
 pr:(p.pr e.d.toNat).toNat<p.np
 z:dcode (pgA p e) (pgA p e).m=0
 m:((pgA p e).m:Int)=p.ki
 fits:fitsB (pgA p e) (clA p e) (p.nw e.d.toNat)=true
 ok:OkC (clA p e)
 a64: ∀i,i<(pgA p e).n→In64 ((pgA p e).a i)
 eo:EOk (pgA p e) (clA p e) (A.s e.d.toNat) (p.nw e.d.toNat) (effA p A e)
 s0:0≤A.s e.d.toNat∧A.s e.d.toNat≤4611686018427387904+16*(A.m:Int)
theorem fitE {p:Pl} {A:Ab} {e:Se} (hp:PlOk p) (h:AOk2 p A) (he:A.M e):FitE p A e:=by
 have ho:=h.ev e he
 obtain ⟨d1,d2⟩:=ho.d
 have hdn:e.d.toNat<p.nq:=by omega
 obtain ⟨g1,g2,g3⟩:=hp.gt.2 _ hdn
 have hpr:(p.pr e.d.toNat).toNat<p.np:=by omega
 have hz0:=hp.gp.2 _ hpr
 have hm:p.ki=(pgA p e).m:=(dcode_zero hz0).1
 have hz:dcode (pgA p e) (pgA p e).m=0:=by rw [←hm];exact hz0
 obtain ⟨k1,k2⟩:=ho.k
 have hq64:=hp.gt.1
 obtain ⟨f1,f2⟩:=hp.fu
 have hf:fitsB (pgA p e) (clA p e) (p.nw e.d.toNat)=true:=by
  have g3':(p.nw e.d.toNat:Int)=(pgA p e).words:=g3
  unfold fitsB clA
  simp
  omega
 have hcl:OkC (clA p e):=⟨ho.t,by show In64 e.s;have:=ho.s;unfold In64;omega,by show In64 e.d;unfold In64;omega,ho.v⟩
 have hs:=h.sn _ hdn
 have hmm:=h.m
 have ha:=hp.a64 _ hpr
 exact ⟨⟨hdn,by omega⟩,hpr,hz,hm.symm,hf,hcl,ha,effOk hz hf hcl (h.wd _ hdn) (h.dc _ hdn) ⟨hs.1,by omega⟩ ha,hs⟩
theorem FitE.sent {p:Pl} {A:Ab} {e:Se} (h:FitE p A e) (hm:(A.m:Int)≤4096):(effA p A e).sent=A.s e.d.toNat+((effA p A e).on:Int):=by
 rw [h.eo.sent,u64of_idx]
 have:=h.s0
 have:=h.eo.on
 exact ⟨by omega,by omega⟩
theorem FitE.out {p:Pl} {A:Ab} {e:Se} (h:FitE p A e) (hm:(A.m:Int)≤4096) {i:Nat} (hi:i<(effA p A e).on): ∃D,outS (effA p A e) i=⟨e.t+D,e.d,A.s e.d.toNat+i,(outS (effA p A e) i).d,(outS (effA p A e) i).k,(outS (effA p A e) i).v⟩∧(0≤(outS (effA p A e) i).d∧(outS (effA p A e) i).d<(p.nq:Int))∧(0≤(outS (effA p A e) i).k∧(outS (effA p A e) i).k<p.ki)∧In64 (outS (effA p A e) i).v∧p.lk≤D∧0≤D∧e.t+D≤18446744073709551615:=by
 obtain ⟨D,T,k,X,e0,e1,e2,e3,e4,e5,r1,r2,r3,r4,r5,r6⟩:=h.eo.ev i hi
 have hs:=h.s0
 have hon:=h.eo.on
 have hu:u64of (A.s e.d.toNat+i)=A.s e.d.toNat+i:=u64of_idx ⟨by omega,by omega⟩
 have hm':=h.m
 refine ⟨D,?_,?_,?_,?_,r4,r5,r6⟩
 ·unfold outS
  rw [e0,e1,e2,e3,e4,e5,hu]
  rfl
 ·unfold outS
  rw [e3]
  exact r1
 ·unfold outS
  rw [e4]
  simp only [intOf]
  omega
 ·unfold outS
  rw [e5]
  exact r3
theorem FitE.outq {p:Pl} {A:Ab} {e:Se} (h:FitE p A e) (hm:(A.m:Int)≤4096) {i:Nat} (hi:i<(effA p A e).on):(outS (effA p A e) i).s=e.d∧(outS (effA p A e) i).q=A.s e.d.toNat+i∧e.t+p.lk≤(outS (effA p A e) i).t:=by
 obtain ⟨D,h1,_,_,_,h2,_⟩:=h.out hm hi
 refine ⟨by rw [h1],by rw [h1],?_⟩
 rw [h1]
 show e.t+p.lk≤e.t+D
 omega
theorem FitE.inj {p:Pl} {A:Ab} {e:Se} (h:FitE p A e) (hm:(A.m:Int)≤4096) {i j:Nat} (hi:i<(effA p A e).on) (hj:j<(effA p A e).on) (he:outS (effA p A e) i=outS (effA p A e) j):i=j:=by
 have h1:=(h.outq hm hi).2.1
 have h2:=(h.outq hm hj).2.1
 rw [he] at h1
 omega
theorem FitE.fresh {p:Pl} {A:Ab} {e:Se} (h:FitE p A e) (ho:AOk2 p A) {i:Nat} (hi:i<(effA p A e).on): ¬A.M (outS (effA p A e) i):=fun hM=>by
 have h1:=(ho.ev _ hM).q.2
 obtain ⟨h2,h3,_⟩:=h.outq ho.m hi
 rw [h2,h3] at h1
 omega
theorem AOk2.next {p:Pl} {A:Ab} {e:Se} (hp:PlOk p) (h:AOk2 p A) (he:A.M e) (hs: ¬Spent p A):AOk2 p (nextA p A e):=by
 have hF:=fitE hp h he
 have hsent:=hF.sent h.m
 have hbu:=hp.bu
 have hon:=hF.eo.on
 have hm1:(A.m:Int)+1≤4096:=by unfold Spent at hs;omega
 have hge: ∀j,A.s j≤(nextA p A e).s j:=fun j=>by
  show A.s j≤if j=e.d.toNat then (effA p A e).sent else A.s j
  by_cases ej:j=e.d.toNat
  ·rw [if_pos ej,hsent,ej]
   omega
  ·rw [if_neg ej]
   exact Int.le_refl _
 have hsd:(nextA p A e).s e.d.toNat=A.s e.d.toNat+((effA p A e).on:Int):=by
  show (if e.d.toNat=e.d.toNat then (effA p A e).sent else A.s e.d.toNat)=_
  rw [if_pos rfl,hsent]
 refine ⟨fun j hj i=> ?_,fun j hj=> ?_,fun j hj=> ?_,fun x hx=> ?_,fun x y hx hy hxs hxq=> ?_,?_⟩
 ·show In64 ((if j=e.d.toNat then (effA p A e).wd else A.K j) i)
  by_cases ej:j=e.d.toNat
  ·rw [if_pos ej];exact hF.eo.wd i
  ·rw [if_neg ej];exact h.wd j hj i
 ·show u64ok (if j=e.d.toNat then (effA p A e).dice else A.d j)
  by_cases ej:j=e.d.toNat
  ·rw [if_pos ej];exact hF.eo.dice
  ·rw [if_neg ej];exact h.dc j hj
 ·have h1:=h.sn j hj
  have h2:=hge j
  refine ⟨by omega,?_⟩
  show (if j=e.d.toNat then (effA p A e).sent else A.s j)≤4611686018427387904+16*((A.m+1:Nat):Int)
  by_cases ej:j=e.d.toNat
  ·rw [if_pos ej,hsent,←ej];omega
  ·rw [if_neg ej];omega
 ·rcases hx with ⟨hx,_⟩|⟨i,hi,rfl⟩
  ·have ho:=h.ev x hx
   exact ⟨ho.t,ho.s,⟨ho.q.1,Int.lt_of_lt_of_le ho.q.2 (hge _)⟩,ho.d,ho.k,ho.v⟩
  ·obtain ⟨D,h1,h2,h3,h4,h5,h6,h7⟩:=hF.out h.m hi
   obtain ⟨q1,q2,_⟩:=hF.outq h.m hi
   have hde:=(h.ev e he)
   have hs0:=hF.s0
   refine ⟨?_,?_,?_,h2,h3,h4⟩
   ·rw [h1]
    have:=hde.t
    unfold u64ok at this ⊢
    exact ⟨by show 0≤e.t+D;omega,h7⟩
   ·rw [q1]
    exact hde.d
   ·rw [q1,q2,hsd]
    omega
 ·have key: ∀x y,A.M x→InX (effA p A e).on (outS (effA p A e)) y→x.s=y.s→x.q=y.q→False:=fun x y hx ⟨i,hi,hy⟩ e1 e2=>by
   subst hy
   obtain ⟨q1,q2,_⟩:=hF.outq h.m hi
   have:=(h.ev x hx).q.2
   rw [e1,q1] at this
   omega
  rcases hx with ⟨hx,_⟩|hx<;>rcases hy with ⟨hy,_⟩|hy
  ·exact h.kd x y hx hy hxs hxq
  ·exact (key x y hx hy hxs hxq).elim
  ·exact (key y x hy hx hxs.symm hxq.symm).elim
  ·obtain ⟨i,hi,rfl⟩:=hx
   obtain ⟨j,hj,rfl⟩:=hy
   have h1:=(hF.outq h.m hi).2.1
   have h2:=(hF.outq h.m hj).2.1
   have:i=j:=by omega
   rw [this]
 ·show ((A.m+1:Nat):Int)≤4096
  omega
theorem top_least {p:Pl} {A:Ab} {n:Nat} {X:Nat→Se} (h:AOk2 p A) (hh:Hp n X) (hs: ∀x,A.M x↔InX n X x) (hn:0<n):Lst A.M (X 0):=by
 refine ⟨(hs _).2 ⟨0,hn,rfl⟩,fun x hx hne=> ?_⟩
 obtain ⟨i,hi,rfl⟩:=(hs x).1 hx
 have h1:=hh.least i hi
 apply Classical.byContradiction
 intro h2
 have h2':klt (X 0) (X i)=false:=by simpa using h2
 rw [klt_not] at h1 h2'
 exact hne (h.kd _ _ hx ((hs _).2 ⟨0,hn,rfl⟩) (by omega) (by omega))
theorem idle_iff {p:Pl} {A:Ab} {n:Nat} {X:Nat→Se} (hh:Hp n X) (hs: ∀x,A.M x↔InX n X x):Idle p A↔n=0∨p.en≤(X 0).t:=by
 constructor
 ·intro h
  by_cases hn:n=0
  ·exact .inl hn
  ·exact .inr (h _ ((hs _).2 ⟨0,by omega,rfl⟩))
 ·rintro (h|h) x hx
  ·obtain ⟨i,hi,_⟩:=(hs x).1 hx
   omega
  ·obtain ⟨i,hi,rfl⟩:=(hs x).1 hx
   have:=hh.least i hi
   rw [klt_not] at this
   omega
end Go.Proofs.YtecgecpgmpmkoaaGreat
