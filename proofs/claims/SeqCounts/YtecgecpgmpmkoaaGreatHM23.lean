import Derived.Test.YtecgecpgmpmkoaaGreatHM21
namespace Go.Proofs.YtecgecpgmpmkoaaGreat
open Go.ChangeShapes Go.WideShapes Go.ChangeAt Go.RowKit
set_option linter.unusedVariables false
theorem vmRun (P:Pg) (v:PgV) (cl:Cl) (p:Option Addr) (n c:Nat) (K:Nat→Int) (d s:Int) (w:World) (h:PAt w P v) (hc:CallAt w cl p n c K d s) (hA64: ∀i,i<P.n→In64 (P.a i)):
  Calls Tryz.prog 65 #[.agg #[.int .i64 P.words,.int .i64 P.locals,.slice v.cp P.n v.cc,.slice v.ep P.m v.ec],.agg #[.int .u64 cl.time,.int .i64 cl.src,.int .u64 cl.seq,.int .i64 cl.dst,.int .i64 cl.kind,.int .i64 cl.data,.slice p n c,.int .u64 d,.int .u64 s,.int .u64 cl.look,.int .i64 cl.parts,.int .i64 cl.fuel]] w fun e w'=> ∃r,e=.returned r∧EfAt w' w.heap.size r (effP P cl n K d s)∧Below w.heap.size w w':=by
 by_cases hz:dcode P P.m=0
 ·by_cases hf:fitsB P cl n=true
  ·exact run_good P v cl p n c K d s w h hz hf hc hA64
  ·have hf':fitsB P cl n=false:=by simpa using hf
   have e:effP P cl n K d s=efErr 63:=by
    unfold effP
    rw [if_neg (by rw [hz];simp),if_pos hf']
   rw [e]
   exact run_unfit P v cl p n c d s w h hz hf'
 ·have e:effP P cl n K d s=efErr (dcode P P.m):=by
   unfold effP
   rw [if_pos hz]
  rw [e]
  exact run_bad P v cl p n c d s w h hz
theorem doM_out (cl:Cl) (M:Mc) (o a b:Int) (ho:o≠39):(doM cl M o a b).on=M.on∧(doM cl M o a b).oF=M.oF∧(doM cl M o a b).sent=M.sent:=by
 unfold doM
 by_cases h1:o=1
 ·rw [if_pos h1];exact ⟨rfl,rfl,rfl⟩
 rw [if_neg h1]
 by_cases h2:o=2
 ·rw [if_pos h2];exact ⟨rfl,rfl,rfl⟩
 rw [if_neg h2]
 by_cases h3:o=3
 ·rw [if_pos h3];exact ⟨rfl,rfl,rfl⟩
 rw [if_neg h3]
 by_cases h4:o=4
 ·rw [if_pos h4];exact ⟨rfl,rfl,rfl⟩
 rw [if_neg h4]
 by_cases h5:o=5
 ·rw [if_pos h5];exact ⟨rfl,rfl,rfl⟩
 rw [if_neg h5]
 by_cases h6:o=6
 ·rw [if_pos h6];exact ⟨rfl,rfl,rfl⟩
 rw [if_neg h6]
 by_cases h7:o=7
 ·rw [if_pos h7];exact ⟨rfl,rfl,rfl⟩
 rw [if_neg h7]
 by_cases h8:o=8
 ·rw [if_pos h8];exact ⟨rfl,rfl,rfl⟩
 rw [if_neg h8]
 by_cases h9:o=9
 ·rw [if_pos h9];exact ⟨rfl,rfl,rfl⟩
 rw [if_neg h9]
 by_cases h10:o=10
 ·rw [if_pos h10];exact ⟨rfl,rfl,rfl⟩
 rw [if_neg h10]
 by_cases h11:o=11
 ·rw [if_pos h11];exact ⟨rfl,rfl,rfl⟩
 rw [if_neg h11]
 by_cases h12:o=12
 ·rw [if_pos h12];exact ⟨rfl,rfl,rfl⟩
 rw [if_neg h12]
 by_cases h38:o=38
 ·rw [if_pos h38];exact ⟨rfl,rfl,rfl⟩
 rw [if_neg h38]
 by_cases h37:o=37
 ·rw [if_pos h37];exact ⟨rfl,rfl,rfl⟩
 rw [if_neg h37]
 by_cases h41:o=41
 ·rw [if_pos h41];(generalize waitV M.dice (topM M)=r;rcases r with _|r<;>exact ⟨rfl,rfl,rfl⟩)
 rw [if_neg h41]
 by_cases h39:o=39
 ·exact absurd h39 (by omega)
 rw [if_neg h39]
 by_cases hs:o=23∨o=24∨o=25∨o=34
 ·rw [if_pos hs];exact ⟨rfl,rfl,rfl⟩
 rw [if_neg hs]
 by_cases hp:isPairB o=true
 ·rw [if_pos hp];exact ⟨rfl,rfl,rfl⟩
 rw [if_neg hp]
 exact ⟨rfl,rfl,rfl⟩
theorem runP_ind {P:Pg} (g:Gd P) (hs:sizedP P) (hnr: ¬Rch P P.n) (hbd: ¬BadD P) (hins:ferr (insE P) 0 P.n=0) {cl:Cl} (hcl:OkC cl) (hA64: ∀i,i<P.n→In64 (P.a i)) (J:Mc→Prop) (hus: ∀M,J M→J (usM M)) (hpop: ∀M,J M→J (popM M))
  (hdo: ∀M i,i<P.n→OkM M→J (usM M)→insErr P (P.op i) (P.a i) (P.b i)=0→doF cl (usM M) (P.op i) (P.a i) (P.b i)=0→J (doM cl (usM M) (P.op i) (P.a i) (P.b i))): ∀(k i:Nat) (M:Mc),i<P.n→(M.hi:Int)=dL P i→OkM M→J M→J (runP P cl k i M).2∧OkM (runP P cl k i M).2
 |0,i,M,hi,hd,hok,hJ=>by rw [runP_zero];exact ⟨hJ,hok⟩
 |k+1,i,M,hi,hd,hok,hJ=>by
  have hsol:=sol_dL g hnr hbd
  have hdn:dL P i≠ -1:=by omega
  have HD:=hsol.dp i hi hdn
  have HF:=hsol.fine i hi hdn
  have hins1:insErr P (P.op i) (P.a i) (P.b i)=0:=ferr_zero hins i (by omega) (by omega)
  by_cases h0:P.op i=0
  ·rw [runP_stop h0];exact ⟨hus _ hJ,hok.us⟩
  by_cases h1:P.op i=35
  ·rw [runP_jump h1]
   have hj:jmp (P.op i)=true:=by rw [h1];rfl
   have ha:=g.a i hi hj
   have hL:=hsol.jump i hi hdn hj
   refine runP_ind g hs hnr hbd hins hcl hA64 J hus hpop hdo k _ _ (by omega) ?_ hok.us (hus _ hJ)
   show (M.hi:Int)=_
   rw [hL]
   unfold aft
   rw [h1,show pops 35=0 from rfl,show pushes 35=0 from rfl]
   omega
  by_cases h2:P.op i=36
  ·rw [runP_ifz h2]
   have hj:jmp (P.op i)=true:=by rw [h2];rfl
   have hen:ends (P.op i)=false:=by rw [h2];rfl
   have haft:aft P i (dL P i)=dL P i-1:=by
    unfold aft
    rw [h2,show pops 36=1 from rfl,show pushes 36=0 from rfl]
    omega
   have hhi:1≤M.hi:=by
    have:=HF.1
    rw [h2,show pops 36=1 from rfl] at this
    omega
   by_cases ht:topM M=0
   ·rw [if_pos ht]
    have ha:=g.a i hi hj
    have hL:=hsol.jump i hi hdn hj
    refine runP_ind g hs hnr hbd hins hcl hA64 J hus hpop hdo k _ _ (by omega) ?_ hok.us.pop (hpop _ (hus _ hJ))
    show ((M.hi-1:Nat):Int)=_
    rw [hL,haft]
    omega
   ·rw [if_neg ht]
    have hnx:=hsol.eq g hnr (.next i _ HD hi HF hen)
    refine runP_ind g hs hnr hbd hins hcl hA64 J hus hpop hdo k _ _ hnx.1 ?_ hok.us.pop (hpop _ (hus _ hJ))
    show ((M.hi-1:Nat):Int)=_
    rw [hnx.2,haft]
    omega
  have h3:P.op i≠0∧P.op i≠35∧P.op i≠36:=⟨h0,h1,h2⟩
  by_cases hf:doF cl (usM M) (P.op i) (P.a i) (P.b i)=0
  ·rw [runP_go h3 hf]
   have h40:P.op i≠40:=fun e=>by
    rw [e] at hf
    unfold doF at hf
    rw [if_pos rfl] at hf
    cases hf
   have hen:ends (P.op i)=false:=by
    unfold ends
    simp [h0,h1,h40]
   have hnx:=hsol.eq g hnr (.next i _ HD hi HF hen)
   have hf1:pops (P.op i)≤(usM M).hi:=by have:=HF.1;show pops (P.op i)≤(M.hi:Int);omega
   have hhi:=doM_hi cl (usM M) (P.op i) (P.a i) (P.b i) (g.op i hi) ⟨h0,h1,h2,h40⟩ hf hf1
   refine runP_ind g hs hnr hbd hins hcl hA64 J hus hpop hdo k _ _ hnx.1 ?_ (doM_ok cl hcl (usM M) hok.us _ _ _ (hA64 i hi) hf ?_) (hdo M i hi hok (hus _ hJ) hins1 hf)
   ·rw [hhi,hnx.2]
    unfold aft
    show (M.hi:Int)-_+_=_
    omega
   ·intro e38
    have h5:=ins_two hins1 (by rw [e38];rfl)
    rw [e38,show limI P 38=64 from rfl] at h5
    omega
  ·rw [runP_fault h3 hf];exact ⟨hus _ hJ,hok.us⟩
structure SInv (P:Pg) (cl:Cl) (s0:Int) (M:Mc):Prop where
 on:M.on≤16
 sent:M.sent=u64of (s0+M.on)
 ev: ∀i,i<M.on→ ∃D T k X:Int,M.oF (i*6)=.int .u64 (addN cl.time (u64of D))∧M.oF (i*6+1)=.int .i64 cl.dst∧M.oF (i*6+2)=.int .u64 (u64of (s0+i))∧M.oF (i*6+3)=.int .i64 T∧M.oF (i*6+4)=.int .i64 k∧M.oF (i*6+5)=.int .i64 X∧(0≤T∧T<cl.parts)∧(0≤k∧k<P.m)∧ ¬u64of D<cl.look∧addE cl.time (u64of D)=0
theorem u64of_u (x:Int):u64of (u64of x+1)=u64of (x+1):=by
 unfold u64of
 simp only [IntKind.wrap,IntKind.bits,IntKind.signed]
 simp
theorem sinv_do {P:Pg} {cl:Cl} {s0:Int} (M:Mc) (o a b:Int) (h:SInv P cl s0 M) (hi:insErr P o a b=0) (hf:doF cl M o a b=0):SInv P cl s0 (doM cl M o a b):=by
 by_cases h39:o=39
 ·subst h39
  have hz:sendF cl M (topM M) (topM (popM M))=0:=hf
  have hk:=ins_one hi (by decide) (by decide)
  rw [show limI P 39=P.m from rfl] at hk
  have hon:=sendF_on hz
  have e:doM cl M 39 a b=sentM cl a M:=by
   unfold doM
   rw [if_neg (by omega),if_neg (by omega),if_neg (by omega),if_neg (by omega),if_neg (by omega),if_neg (by omega),if_neg (by omega),if_neg (by omega),if_neg (by omega),if_neg (by omega),if_neg (by omega),if_neg (by omega),if_neg (by omega),if_neg (by omega),if_neg (by omega),if_pos rfl]
  rw [e]
  have ho:=h.on
  refine ⟨by show M.on+1≤16;omega,?_,fun i hi=> ?_⟩
  ·show u64of (M.sent+1)=u64of (s0+((M.on+1:Nat):Int))
   rw [h.sent,u64of_u]
   congr 1
   omega
  ·have hi':i<M.on+1:=hi
   by_cases hlt:i<M.on
   ·obtain ⟨D,T,k,X,e0,e1,e2,e3,e4,e5,r⟩:=h.ev i hlt
    have ap: ∀r,r<6→(sentM cl a M).oF (i*6+r)=M.oF (i*6+r):=fun r hr=>by
     show oApp M _ (i*6+r)=_
     unfold oApp
     rw [if_pos (by omega)]
    refine ⟨D,T,k,X,?_,?_,?_,?_,?_,?_,r⟩
    ·rw [←e0];exact ap 0 (by omega)
    ·rw [←e1];exact ap 1 (by omega)
    ·rw [←e2];exact ap 2 (by omega)
    ·rw [←e3];exact ap 3 (by omega)
    ·rw [←e4];exact ap 4 (by omega)
    ·rw [←e5];exact ap 5 (by omega)
   ·obtain rfl:i=M.on:=by omega
    have ap: ∀r,r<6→(sentM cl a M).oF (M.on*6+r)=(sentEv cl M a (topM M) (topM (popM M)) (topM (popM (popM M)))).getD r undef:=fun r hr=>by
     show oApp M _ (M.on*6+r)=_
     unfold oApp
     rw [if_neg (by omega),show M.on*6+r-M.on*6=r by omega]
    unfold sendF at hz
    by_cases c1:topM (popM M)<0∨cl.parts≤topM (popM M)
    ·rw [if_pos c1] at hz;cases hz
    rw [if_neg c1] at hz
    by_cases c2:topM M<0∨u64of (topM M)<cl.look
    ·rw [if_pos c2] at hz;cases hz
    rw [if_neg c2,if_neg hon] at hz
    by_cases c3:addE cl.time (u64of (topM M))≠0
    ·rw [if_pos c3] at hz;cases hz
    refine ⟨topM M,topM (popM M),a,topM (popM (popM M)),ap 0 (by omega),ap 1 (by omega),?_,ap 3 (by omega),ap 4 (by omega),ap 5 (by omega),by omega,by omega,fun hc=>c2 (.inr hc),by omega⟩
    rw [ap 2 (by omega),←h.sent]
    rfl
 ·obtain ⟨e1,e2,e3⟩:=doM_out cl M o a b h39
  exact ⟨by rw [e1];exact h.on,by rw [e1,e3];exact h.sent,fun i hi=>by rw [e2];exact h.ev i (by rw [e1] at hi;exact hi)⟩
end Go.Proofs.YtecgecpgmpmkoaaGreat
