import Derived.Test.YtecgecpgmpmkoaaGreatJRP1
import Derived.Test.YtecgecpgmpmkoaaGreatJWN3
namespace Go.Proofs.YtecgecpgmpmkoaaGreat
open Go.ChangeShapes Go.WideShapes Go.ChangeAt Go.RowKit
set_option linter.unusedVariables false
set_option linter.unusedSimpArgs false
noncomputable def efN (p:Pl) (Z:Nat→Se) (n:Nat):Ef:=efS p (Z n) (stP p Z (Z n).d.toNat n)
noncomputable def outN (p:Pl) (Z:Nat→Se):Nat→Nat
 |0=>0
 |n+1=>outN p Z n+(efN p Z n).on
noncomputable def outZ (p:Pl) (Z:Nat→Se):Nat→Nat→Se
 |0=>fun _=>zeroE
 |n+1=>fun j=>if j<outN p Z n then outZ p Z n j else outS (efN p Z n) (j-outN p Z n)
theorem efN_congr (p:Pl) {Z Y:Nat→Se} {n:Nat} (h: ∀i,i<n+1→Z i=Y i):efN p Z n=efN p Y n:=by
 unfold efN
 rw [h n (by omega),stP_congr p _ n fun i hi=>h i (by omega)]
theorem outN_congr (p:Pl) {Z Y:Nat→Se} : ∀n,(∀i,i<n→Z i=Y i)→outN p Z n=outN p Y n
 |0,_=>rfl
 |n+1,h=>by
  show outN p Z n+(efN p Z n).on=outN p Y n+(efN p Y n).on
  rw [outN_congr p n fun i hi=>h i (by omega),efN_congr p h]
theorem outZ_congr (p:Pl) {Z Y:Nat→Se} : ∀n,(∀i,i<n→Z i=Y i)→outZ p Z n=outZ p Y n
 |0,_=>rfl
 |n+1,h=>by
  show (fun j=>if j<outN p Z n then outZ p Z n j else outS (efN p Z n) (j-outN p Z n))=fun j=>if j<outN p Y n then outZ p Y n j else outS (efN p Y n) (j-outN p Y n)
  rw [outN_congr p n fun i hi=>h i (by omega),outZ_congr p n fun i hi=>h i (by omega),efN_congr p h]
theorem out_old {p:Pl} {Z:Nat→Se} {n:Nat} {x:Se} (h:InX (outN p Z n) (outZ p Z n) x):InX (outN p Z (n+1)) (outZ p Z (n+1)) x:=by
 obtain ⟨j,hj,rfl⟩:=h
 refine ⟨j,by show j<outN p Z n+_;omega,?_⟩
 show (if j<outN p Z n then outZ p Z n j else _)=_
 rw [if_pos hj]
theorem out_new {p:Pl} {Z:Nat→Se} {n:Nat} {x:Se} (h:InX (efN p Z n).on (outS (efN p Z n)) x):InX (outN p Z (n+1)) (outZ p Z (n+1)) x:=by
 obtain ⟨j,hj,rfl⟩:=h
 refine ⟨outN p Z n+j,by show outN p Z n+j<outN p Z n+(efN p Z n).on;omega,?_⟩
 show (if outN p Z n+j<outN p Z n then _ else outS (efN p Z n) (outN p Z n+j-outN p Z n))=_
 rw [if_neg (by omega),show outN p Z n+j-outN p Z n=j by omega]
theorem steps_next_z {p:Pl} {n:Nat} {A:Ab} (h:StepsR p (fstA p) n A) (x:Se):(nextA p A x).Z n=x∧ ∀i,i<n→(nextA p A x).Z i=A.Z i:=by
 have hm:=h.m
 have hm0:(fstA p).m=0:=rfl
 refine ⟨?_,fun i hi=> ?_⟩
 ·have:=nextA_at p A x
  rw [show A.m=n by omega] at this
  exact this
 ·show setS A.Z A.m x i=_
  unfold setS
  rw [if_neg (by omega)]
theorem steps_efN {p:Pl} {n:Nat} {A:Ab} (h:StepsR p (fstA p) n A) (x:Se):efN p (nextA p A x).Z n=effA p A x:=by
 obtain ⟨hz,hl⟩:=steps_next_z h x
 unfold efN
 rw [hz,stP_congr p _ n hl,steps_stP h]
 rfl
theorem steps_pend {p:Pl} {n:Nat} {A:Ab} (h:StepsR p (fstA p) n A): ∀x,A.M x→InX p.ns (evS p.S) x∨InX (outN p A.Z n) (outZ p A.Z n) x:=by
 induction h with
 |zero=>exact fun x hx=>.inl hx
 |more h1 h2 ih=>
  rename_i n A C e
  obtain ⟨ho,hl,hc,rfl⟩:=h2.zero
  obtain ⟨hz,hlt⟩:=steps_next_z h1 e
  intro x hx
  have hN:=outN_congr p (Z:=(nextA p A e).Z) (Y:=A.Z) n hlt
  have hZ:=outZ_congr p (Z:=(nextA p A e).Z) (Y:=A.Z) n hlt
  rcases hx with ⟨hx,_⟩|hx
  ·rcases ih x hx with h9|h9
   ·exact .inl h9
   ·exact .inr (out_old (by rw [hN,hZ];exact h9))
  ·exact .inr (out_new (by rw [steps_efN h1];exact hx))
theorem klt_lt {a b:Se} (h:a.t<b.t):klt a b=true:=(klt_iff a b).2 (by omega)
structure Cause (p:Pl) (C:Ab) (i:Nat):Prop where
 en:(C.Z i).t<p.en
 up:0<i→klt (C.Z (i-1)) (C.Z i)=true
 src:InX p.ns (evS p.S) (C.Z i)∨InX (outN p C.Z i) (outZ p C.Z i) (C.Z i)
 out: ∀k,k<(efN p C.Z i).on→(outS (efN p C.Z i) k).s=(C.Z i).d∧(C.Z i).t+p.lk≤(outS (efN p C.Z i) k).t
theorem EndR.cause {p:Pl} (hp:PlOk p) {C:Ab} (h:EndR p (fstA p) C) {i:Nat} (hi:i<C.m):Cause p C i:=by
 obtain ⟨B,hB,hZ,_⟩:=h.steps
 obtain ⟨A,k1,k2,k3,k4,k5,k6,k7,k8⟩:=hB.at hp hi
 rw [←hZ] at k6 k7 k8 k4
 have hF:=fitE hp k2 k6.1
 have hmm:=k2.m
 have hef:efN p C.Z i=effA p A (C.Z i):=by
  unfold efN
  rw [stP_congr p (Y:=A.Z) _ i fun j hj=>(k4 j hj).symm,steps_stP k1]
  rfl
 refine ⟨?_,fun h0=> ?_,?_,fun k hk=> ?_⟩
 ·apply Classical.byContradiction
  intro hc
  refine k5 (.inr (.inl fun y hy=> ?_))
  by_cases e:y=C.Z i
  ·rw [e];omega
  ·have:=(klt_iff _ _).1 (k6.2 y hy e)
   omega
 ·obtain ⟨A',j1,j2,j3,j4,j5,j6,j7,j8⟩:=hB.at hp (show i-1<C.m by omega)
  rw [←hZ] at j6 j7 j8
  rw [show i-1+1=i by omega] at j8
  have hAA:=j8.one k1
  have hy:=k6.1
  rw [←hAA] at hy
  have hF':=fitE hp j2 j6.1
  rcases hy with ⟨hy,hne⟩|⟨k,hk,he⟩
  ·exact j6.2 _ hy hne
  ·have:=(hF'.outq j2.m hk).2.2
   have hlk:=hp.lk
   rw [he] at this
   exact klt_lt (by omega)
 ·have:=steps_pend k1 (C.Z i) k6.1
  rw [outN_congr p (Z:=C.Z) (Y:=A.Z) i fun j hj=>(k4 j hj).symm,outZ_congr p (Z:=C.Z) (Y:=A.Z) i fun j hj=>(k4 j hj).symm]
  exact this
 ·rw [hef] at hk ⊢
  have:=hF.outq hmm hk
  exact ⟨this.1,this.2.2⟩
end Go.Proofs.YtecgecpgmpmkoaaGreat
namespace Go.Proofs.YtecgecpgmpmkoaaGreat
open Go.ChangeShapes Go.WideShapes Go.ChangeAt Go.RowKit
set_option linter.unusedVariables false
set_option linter.unusedSimpArgs false
set_option maxRecDepth 100000 in
set_option maxHeartbeats 4000000 in
theorem windows_bad (p:Pl) (v:PlV) (w:World) (h:PlAt w p v) (hr:RoomyL p) (c0:Int) (hc0:VC p c0) (hz:c0≠0):Calls Tryz.prog 26 #[.agg #[.int .i64 p.ki,.slice v.pp p.np v.pc,.slice v.tp p.nq v.tc,.slice v.sp p.ns v.sc,.int .u64 p.sd,.int .u64 p.lk,.int .u64 p.en,.int .i64 p.bu,.int .i64 p.fu]] w fun r w'=>r=.returned (.slice none 0 0)∧Below w.heap.size w w':=by
 obtain ⟨wb,hwb⟩: ∃wb,w.alloc (.cells #[.int .i64 p.ki,.slice v.pp p.np v.pc,.slice v.tp p.nq v.tc,.slice v.sp p.ns v.sc,.int .u64 p.sd,.int .u64 p.lk,.int .u64 p.en,.int .i64 p.bu,.int .i64 p.fu] 27)=wb:=⟨_,rfl⟩
 obtain ⟨hb0,hbox,hsz⟩:=boxed _ _ _ hwb
 have HH:Hid (w.alloc (.cells #[.int .i64 p.ki,.slice v.pp p.np v.pc,.slice v.tp p.nq v.tc,.slice v.sp p.ns v.sc,.int .u64 p.sd,.int .u64 p.lk,.int .u64 p.en,.int .i64 p.bu,.int .i64 p.fu] 27)=wb):=hwb
 have HBG:Calls Tryz.prog 44 #[.agg #[.int .i64 p.ki,.slice v.pp p.np v.pc,.slice v.tp p.nq v.tc,.slice v.sp p.ns v.sc,.int .u64 p.sd,.int .u64 p.lk,.int .u64 p.en,.int .i64 p.bu,.int .i64 p.fu]] wb fun e w'=>e=.returned (.tuple #[.pointer none,.int .i64 c0])∧Below wb.heap.size wb w':=by
  refine (begin_any p v wb (h.below hb0) hr c0 hc0).mono ?_
  rintro e w' (⟨_,h9⟩|⟨h9,_⟩)
  ·exact h9
  ·exact absurd h9 hz
 have HB:Hid (Below w.heap.size w wb):=hb0
 have g0:wb.cell? ⟨w.heap.size,0,none⟩=some (.int .i64 p.ki):=cell_in hbox rfl
 have g1:wb.cell? ⟨w.heap.size,1,none⟩=some (.slice v.pp p.np v.pc):=cell_in hbox rfl
 have g2:wb.cell? ⟨w.heap.size,2,none⟩=some (.slice v.tp p.nq v.tc):=cell_in hbox rfl
 have g3:wb.cell? ⟨w.heap.size,3,none⟩=some (.slice v.sp p.ns v.sc):=cell_in hbox rfl
 have g4:wb.cell? ⟨w.heap.size,4,none⟩=some (.int .u64 p.sd):=cell_in hbox rfl
 have g5:wb.cell? ⟨w.heap.size,5,none⟩=some (.int .u64 p.lk):=cell_in hbox rfl
 have g6:wb.cell? ⟨w.heap.size,6,none⟩=some (.int .u64 p.en):=cell_in hbox rfl
 have g7:wb.cell? ⟨w.heap.size,7,none⟩=some (.int .i64 p.bu):=cell_in hbox rfl
 have g8:wb.cell? ⟨w.heap.size,8,none⟩=some (.int .i64 p.fu):=cell_in hbox rfl
 rw [←hwb] at g0 g1 g2 g3 g4 g5 g6 g7 g8
 have q0:(c0 !=0)=true:=by simpa using hz
 have q1:(c0==0)=false:=by simpa using hz
 clear hwb hb0 hbox hsz h hr hc0 hz
 go_enter Tryz.func26,Tryz.ntmps26
 go_wp2_with (go_at_call 44;rw [HH.out];(with_reducible refine HBG.mono ?_);rintro e w1 ⟨rfl,hb1⟩)
 go_ret
 exact ⟨rfl,HB.out.trans (hb1.mono HB.out.size)⟩
def stW (Q:Nat→Wi):Nat→Nat
 |0=>0
 |j+1=>stW Q j+(Q j).ev.toNat
theorem stW_congr {Q Q':Nat→Wi} : ∀ {j:Nat},(∀a,a<j→Q a=Q' a)→stW Q j=stW Q' j
 |0,_=>rfl
 |j+1,h=>by
  show stW Q j+(Q j).ev.toNat=stW Q' j+(Q' j).ev.toNat
  rw [stW_congr fun a ha=>h a (by omega),h j (by omega)]
theorem stW_mono (Q:Nat→Wi) {i j:Nat} (h:i≤j):stW Q i≤stW Q j:=by
 induction j with
 |zero=>rw [show i=0 by omega];exact Nat.le_refl _
 |succ j ih=>
  by_cases e:i=j+1
  ·rw [e];exact Nat.le_refl _
  ·exact Nat.le_trans (ih (by omega)) (by show _≤stW Q j+_;omega)
structure WSp (lk en:Int) (Z:Nat→Se) (i k:Nat) (Q:Nat→Wi):Prop where
 sum:stW Q k=i
 ev: ∀j,j<k→1≤(Q j).ev
 no: ∀j,j<k→(Q j).no=(j:Int)+1
 lo: ∀j,j<k→(Q j).lo=(Z (stW Q j)).t∧(Q j).bd=bndN (Q j).lo lk en
 bt: ∀j,j<k→ ∀e,stW Q j≤e→e<stW Q (j+1)→(Z e).t<(Q j).bd
 nx: ∀j,j+1<k→(Q j).bd≤(Z (stW Q (j+1))).t
theorem WSp.add {lk en:Int} {Z:Nat→Se} {i k:Nat} {Q:Nat→Wi} (h:WSp lk en Z i k Q) (hop:opW (Z i).t k Q) (hlk:0<lk) (hen:(Z i).t<en):WSp lk en Z (i+1) (k+1) (adW lk en (Z i).t Q k):=by
 have old: ∀a,a<k→adW lk en (Z i).t Q k a=Q a:=fun a ha=>by unfold adW setS;rw [if_neg (by omega)]
 have new:adW lk en (Z i).t Q k k=⟨(k:Int)+1,(Z i).t,bndN (Z i).t lk en,1⟩:=by unfold adW setS;rw [if_pos rfl]
 have hs: ∀j,j≤k→stW (adW lk en (Z i).t Q k) j=stW Q j:=fun j hj=>stW_congr fun a ha=>old a (by omega)
 have hk:stW (adW lk en (Z i).t Q k) (k+1)=i+1:=by
  show stW (adW lk en (Z i).t Q k) k+(adW lk en (Z i).t Q k k).ev.toNat=i+1
  rw [hs k (Nat.le_refl _),h.sum,new]
  rfl
 refine ⟨hk,fun j hj=> ?_,fun j hj=> ?_,fun j hj=> ?_,fun j hj e h1 h2=> ?_,fun j hj=> ?_⟩
 ·by_cases ej:j=k
  ·rw [ej,new];exact Int.le_refl _
  ·rw [old j (by omega)];exact h.ev j (by omega)
 ·by_cases ej:j=k
  ·rw [ej,new]
  ·rw [old j (by omega)];exact h.no j (by omega)
 ·by_cases ej:j=k
  ·rw [ej,new,hs k (Nat.le_refl _),h.sum];exact ⟨rfl,rfl⟩
  ·rw [old j (by omega),hs j (by omega)];exact h.lo j (by omega)
 ·by_cases ej:j=k
  ·subst ej
   rw [hk] at h2
   rw [hs j (Nat.le_refl _),h.sum] at h1
   obtain rfl:e=i:=by omega
   rw [new]
   show (Z e).t<bndN (Z e).t lk en
   unfold bndN
   split<;>omega
  ·rw [hs j (by omega)] at h1
   rw [hs (j+1) (by omega)] at h2
   rw [old j (by omega)]
   exact h.bt j (by omega) e h1 h2
 ·rw [old j (by omega),hs (j+1) (by omega)]
  by_cases ej:j+1=k
  ·rcases hop with e|e
   ·omega
   ·rw [ej,h.sum]
    rw [show k-1=j by omega] at e
    exact e
  ·exact h.nx j (by omega)
theorem WSp.up {lk en:Int} {Z:Nat→Se} {i k:Nat} {Q:Nat→Wi} (h:WSp lk en Z i k Q) (hop: ¬opW (Z i).t k Q):WSp lk en Z (i+1) k (upW Q k):=by
 have hk0:k≠0:=fun e=>hop (.inl e)
 have hbt: ¬(Q (k-1)).bd≤(Z i).t:=fun e=>hop (.inr e)
 obtain ⟨k1,rfl⟩: ∃k1,k=k1+1:=⟨k-1,by omega⟩
 rw [show k1+1-1=k1 by omega] at hbt
 have old: ∀a,a≠k1→upW Q (k1+1) a=Q a:=fun a ha=>by unfold upW setS;rw [if_neg (by omega)]
 have new:upW Q (k1+1) k1=⟨(Q k1).no,(Q k1).lo,(Q k1).bd,(Q k1).ev+1⟩:=by unfold upW setS;rw [if_pos (by omega)];rfl
 have hs: ∀j,j≤k1→stW (upW Q (k1+1)) j=stW Q j:=fun j hj=>stW_congr fun a ha=>old a (by omega)
 have hev:=h.ev k1 (Nat.lt_succ_self _)
 have hsum:stW Q k1+(Q k1).ev.toNat=i:=h.sum
 have hk:stW (upW Q (k1+1)) (k1+1)=i+1:=by
  show stW (upW Q (k1+1)) k1+(upW Q (k1+1) k1).ev.toNat=i+1
  rw [hs k1 (Nat.le_refl _),new]
  show stW Q k1+((Q k1).ev+1).toNat=i+1
  omega
 have cs: ∀j,(upW Q (k1+1) j).no=(Q j).no∧(upW Q (k1+1) j).lo=(Q j).lo∧(upW Q (k1+1) j).bd=(Q j).bd:=fun j=>by
  by_cases ej:j=k1
  ·rw [ej,new];exact ⟨rfl,rfl,rfl⟩
  ·rw [old j ej];exact ⟨rfl,rfl,rfl⟩
 refine ⟨hk,fun j hj=> ?_,fun j hj=> ?_,fun j hj=> ?_,fun j hj e h1 h2=> ?_,fun j hj=> ?_⟩
 ·by_cases ej:j=k1
  ·rw [ej,new];show 1≤(Q k1).ev+1;omega
  ·rw [old j ej];exact h.ev j hj
 ·rw [(cs j).1];exact h.no j hj
 ·rw [(cs j).2.1,(cs j).2.2,hs j (by omega)];exact h.lo j hj
 ·rw [(cs j).2.2]
  rw [hs j (by omega)] at h1
  by_cases ej:j=k1
  ·subst ej
   rw [hk] at h2
   by_cases ee:e=i
   ·rw [ee];omega
   ·exact h.bt j hj e h1 (by show e<stW Q j+(Q j).ev.toNat;omega)
  ·rw [hs (j+1) (by omega)] at h2
   exact h.bt j hj e h1 h2
 ·rw [(cs j).2.2,hs (j+1) (by omega)];exact h.nx j hj
theorem wn_sp {p:Pl} (hp:PlOk p) {C:Ab} (h:EndR p (fstA p) C): ∀ {i:Nat},i≤C.m→WSp p.lk p.en C.Z i (wnR p.lk p.en C.Z i).1 (wnR p.lk p.en C.Z i).2
 |0,_=>⟨rfl,fun _ hj=>absurd hj (Nat.not_lt_zero _),fun _ hj=>absurd hj (Nat.not_lt_zero _),fun _ hj=>absurd hj (Nat.not_lt_zero _),fun _ hj=>absurd hj (Nat.not_lt_zero _),fun _ hj=>absurd hj (Nat.not_lt_zero _)⟩
 |i+1,hi=>by
  have ih:=wn_sp hp h (i:=i) (by omega)
  have hc:=h.cause hp (i:=i) (by omega)
  by_cases hop:opW (C.Z i).t (wnR p.lk p.en C.Z i).1 (wnR p.lk p.en C.Z i).2
  ·have e:wnR p.lk p.en C.Z (i+1)=((wnR p.lk p.en C.Z i).1+1,adW p.lk p.en (C.Z i).t (wnR p.lk p.en C.Z i).2 (wnR p.lk p.en C.Z i).1):=if_pos hop
   rw [e]
   exact ih.add hop hp.lk hc.en
  ·have e:wnR p.lk p.en C.Z (i+1)=((wnR p.lk p.en C.Z i).1,upW (wnR p.lk p.en C.Z i).2 (wnR p.lk p.en C.Z i).1):=if_neg hop
   rw [e]
   exact ih.up hop
theorem rise_t {p:Pl} (hp:PlOk p) {C:Ab} (h:EndR p (fstA p) C) {i j:Nat} (hij:i≤j) (hj:j<C.m):(C.Z i).t≤(C.Z j).t:=by
 induction j with
 |zero=>rw [show i=0 by omega];exact Int.le_refl _
 |succ j ih=>
  by_cases e:i=j+1
  ·rw [e];exact Int.le_refl _
  ·have h1:=ih (by omega) (by omega)
   have h2:=(h.cause hp hj).up (by omega)
   rw [show j+1-1=j by omega,klt_iff] at h2
   omega
theorem WSp.all {p:Pl} (hp:PlOk p) {C:Ab} (h:EndR p (fstA p) C) {k:Nat} {Q:Nat→Wi} (hw:WSp p.lk p.en C.Z C.m k Q) {i:Nat} (hi:i<k): ∃(a b:Nat) (ev lo bd:Int),stW Q i=a∧stW Q (i+1)=b∧(Q i).no=(i:Int)+1∧(Q i).ev=ev∧(Q i).lo=lo∧(Q i).bd=bd∧1≤ev∧(a:Int)+ev=(b:Int)∧a<b∧b≤C.m∧(C.Z a).t=lo∧lo<bd∧bd≤p.en∧(bd=p.en∨bd-lo=p.lk)∧bd-lo≤p.lk∧(∀e,a≤e→e<b→lo≤(C.Z e).t∧(C.Z e).t<bd)∧(b<C.m→i+1<k∧bd≤(C.Z b).t):=by
 have hev:=hw.ev i hi
 have hb:stW Q (i+1)=stW Q i+(Q i).ev.toNat:=rfl
 have hm:=stW_mono Q (show i+1≤k by omega)
 rw [hw.sum] at hm
 obtain ⟨hl,hbd⟩:=hw.lo i hi
 have hen:=(h.cause hp (i:=stW Q i) (by omega)).en
 have hlk:=hp.lk
 have hx:(Q i).lo<(Q i).bd∧(Q i).bd≤p.en∧((Q i).bd=p.en∨(Q i).bd-(Q i).lo=p.lk)∧(Q i).bd-(Q i).lo≤p.lk:=by
  rw [hbd]
  rw [hl] at*
  unfold bndN
  split<;>refine ⟨by omega,by omega,?_,by omega⟩
  ·exact .inr (by omega)
  ·exact .inl rfl
 refine ⟨stW Q i,stW Q (i+1),(Q i).ev,(Q i).lo,(Q i).bd,rfl,rfl,hw.no i hi,rfl,rfl,rfl,hev,by omega,by omega,hm,hl.symm,hx.1,hx.2.1,hx.2.2.1,hx.2.2.2,fun e h1 h2=>⟨by rw [hl];exact rise_t hp h h1 (by omega),hw.bt i hi e h1 h2⟩,fun h1=> ?_⟩
 have hi1:i+1<k:=by
  apply Classical.byContradiction
  intro hc
  have:i+1=k:=by omega
  rw [this,hw.sum] at h1
  omega
 exact ⟨hi1,hw.nx i hi1⟩
end Go.Proofs.YtecgecpgmpmkoaaGreat
