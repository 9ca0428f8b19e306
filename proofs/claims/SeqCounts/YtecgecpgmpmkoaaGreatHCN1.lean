import Derived.Test.YtecgecpgmpmkoaaGreatHRP1
import Derived.Test.YtecgecpgmpmkoaaGreatHRO2
import Derived.Test.YtecgecpgmpmkoaaGreatHOP5
namespace Go.Proofs.YtecgecpgmpmkoaaGreat
open Go.ChangeShapes Go.WideShapes Go.ChangeAt Go.RowKit
set_option linter.unusedVariables false
set_option linter.unusedSimpArgs false
noncomputable def efN (p:Pl) (Z:Nat→Se) (n:Nat):Ef:=efS p (Z n) (stP p Z (Z n).d.toNat n)
noncomputable def outN (p:Pl) (Z:Nat→Se):Nat→Nat
 |0=>0
 |n+1=>outN p Z n+(efN p Z n).on
noncomputable def outZ (p:Pl) (Z:Nat→Se):Nat→Nat→Se
 |0=>fun _=>zeroE
 |n+1=>fun j=>if j<outN p Z n then outZ p Z n j else outS (efN p Z n) (j-outN p Z n)
theorem efN_congr (p:Pl) {Z Y:Nat→Se} {n:Nat} (h: ∀i,i<n+1→Z i=Y i):efN p Z n=efN p Y n:=by
 unfold efN
 rw [h n (by omega),stP_congr p _ n fun i hi=>h i (by omega)]
theorem outN_congr (p:Pl) {Z Y:Nat→Se} : ∀n,(∀i,i<n→Z i=Y i)→outN p Z n=outN p Y n
 |0,_=>rfl
 |n+1,h=>by
  show outN p Z n+(efN p Z n).on=outN p Y n+(efN p Y n).on
  rw [outN_congr p n fun i hi=>h i (by omega),efN_congr p h]
theorem outZ_congr (p:Pl) {Z Y:Nat→Se} : ∀n,(∀i,i<n→Z i=Y i)→outZ p Z n=outZ p Y n
 |0,_=>rfl
 |n+1,h=>by
  show (fun j=>if j<outN p Z n then outZ p Z n j else outS (efN p Z n) (j-outN p Z n))=fun j=>if j<outN p Y n then outZ p Y n j else outS (efN p Y n) (j-outN p Y n)
  rw [outN_congr p n fun i hi=>h i (by omega),outZ_congr p n fun i hi=>h i (by omega),efN_congr p h]
theorem out_old {p:Pl} {Z:Nat→Se} {n:Nat} {x:Se} (h:InX (outN p Z n) (outZ p Z n) x):InX (outN p Z (n+1)) (outZ p Z (n+1)) x:=by
 obtain ⟨j,hj,rfl⟩:=h
 refine ⟨j,by show j<outN p Z n+_;omega,?_⟩
 show (if j<outN p Z n then outZ p Z n j else _)=_
 rw [if_pos hj]
theorem out_new {p:Pl} {Z:Nat→Se} {n:Nat} {x:Se} (h:InX (efN p Z n).on (outS (efN p Z n)) x):InX (outN p Z (n+1)) (outZ p Z (n+1)) x:=by
 obtain ⟨j,hj,rfl⟩:=h
 refine ⟨outN p Z n+j,by show outN p Z n+j<outN p Z n+(efN p Z n).on;omega,?_⟩
 show (if outN p Z n+j<outN p Z n then _ else outS (efN p Z n) (outN p Z n+j-outN p Z n))=_
 rw [if_neg (by omega),show outN p Z n+j-outN p Z n=j by omega]
theorem steps_next_z {p:Pl} {n:Nat} {A:Ab} (h:StepsR p (fstA p) n A) (x:Se):(nextA p A x).Z n=x∧ ∀i,i<n→(nextA p A x).Z i=A.Z i:=by
 have hm:=h.m
 have hm0:(fstA p).m=0:=rfl
 refine ⟨?_,fun i hi=> ?_⟩
 ·have:=nextA_at p A x
  rw [show A.m=n by omega] at this
  exact this
 ·show setS A.Z A.m x i=_
  unfold setS
  rw [if_neg (by omega)]
theorem steps_efN {p:Pl} {n:Nat} {A:Ab} (h:StepsR p (fstA p) n A) (x:Se):efN p (nextA p A x).Z n=effA p A x:=by
 obtain ⟨hz,hl⟩:=steps_next_z h x
 unfold efN
 rw [hz,stP_congr p _ n hl,steps_stP h]
 rfl
theorem steps_pend {p:Pl} {n:Nat} {A:Ab} (h:StepsR p (fstA p) n A): ∀x,A.M x→InX p.ns (evS p.S) x∨InX (outN p A.Z n) (outZ p A.Z n) x:=by
 induction h with
 |zero=>exact fun x hx=>.inl hx
 |more h1 h2 ih=>
  rename_i n A C e
  obtain ⟨ho,hl,hc,rfl⟩:=h2.zero
  obtain ⟨hz,hlt⟩:=steps_next_z h1 e
  intro x hx
  have hN:=outN_congr p (Z:=(nextA p A e).Z) (Y:=A.Z) n hlt
  have hZ:=outZ_congr p (Z:=(nextA p A e).Z) (Y:=A.Z) n hlt
  rcases hx with ⟨hx,_⟩|hx
  ·rcases ih x hx with h9|h9
   ·exact .inl h9
   ·exact .inr (out_old (by rw [hN,hZ];exact h9))
  ·exact .inr (out_new (by rw [steps_efN h1];exact hx))
theorem outN_le {p:Pl} (hp:PlOk p) {C:Ab} (h:EndR p (fstA p) C): ∀ {i:Nat},i≤C.m→outN p C.Z i≤16*i
 |0,_=>Nat.zero_le _
 |i+1,hi=>by
  have h1:=outN_le hp h (show i≤C.m by omega)
  have h2:=(h.atE hp (show i<C.m by omega)).eo.on
  have h3:(efN p C.Z i).on≤16:=h2
  show outN p C.Z i+(efN p C.Z i).on≤16*(i+1)
  omega
end Go.Proofs.YtecgecpgmpmkoaaGreat
namespace Go.Proofs.YtecgecpgmpmkoaaGreat
open Go.ChangeShapes Go.WideShapes Go.ChangeAt Go.RowKit
set_option linter.unusedVariables false
set_option linter.unusedSimpArgs false
def Rsg (n:Nat) (X:Nat→Se):Prop:= ∀i,i+1<n→klt (X i) (X (i+1))=true
set_option maxRecDepth 100000 in
set_option maxHeartbeats 4000000 in
theorem rising_any (p:Option Addr) (n cp:Nat) (X:Nat→Se) (hn:n≤2932031007402) (w:World) (h:SIn w p n X):Calls Tryz.prog 105 #[.slice p n cp] w fun e w'=> ∃q,e=.returned (.bool q)∧(q=true↔Rsg n X)∧Below w.heap.size w w':=by
 have HH:Hid (SIn w p n X):=h
 clear h
 go_enter Tryz.func105,Tryz.ntmps105
 go_wp2_with fail
 go_loopw [3] (fun x wr=> ∃i:Nat,x=.int .i64 (i:Int)∧1≤i∧i≤n+1∧(∀k,k+1<i→k+1<n→klt (X k) (X (k+1))=true)∧Below w.heap.size w wr) (fun x _=>n-(intOf x).toNat)
 case atStart=>exact ⟨1,rfl,Nat.le_refl _,by omega,fun k hk=>absurd hk (by omega),Below.refl _ _⟩
 case round=>
  obtain ⟨i,rfl,h1,h2,hall,hbr⟩:=hrel
  by_cases hlt:i<n
  case neg=>
   have dlt:decide ((i:Int)<(n:Int))=false:=by simp;omega
   go_wp2_with fail
   go_ret
   exact ⟨true,rfl,⟨fun _ k hk=>hall k (by omega) hk,fun _=>rfl⟩,hbr⟩
  have dlt:decide ((i:Int)<(n:Int))=true:=by simp;omega
  have hm:=smeas hlt
  obtain ⟨j,hj⟩: ∃j,j+1=i:=⟨i-1,by omega⟩
  have i0:(0:Int)≤(i:Int):=by omega
  have i1:(i:Int)<(n:Int):=by omega
  have j0:(0:Int)≤(j:Int):=by omega
  have j1:(j:Int)<(n:Int):=by omega
  have ei:IntKind.i64.wrap ((i:Int)+1)=(i:Int)+1:=by rw [IntKind.wrap_i64];omega
  have ej:IntKind.i64.wrap ((i:Int)-1)=(j:Int):=by rw [IntKind.wrap_i64];omega
  obtain ⟨b,o,hp,hl,b0,b1,b2,b3,b4,b5⟩:=(HH.out.below hbr).at hlt
  obtain ⟨b',o',hp',_,a0,a1,a2,a3,a4,a5⟩:=(HH.out.below hbr).at (i:=j) (by omega)
  subst hp
  injection hp' with hp'
  injection hp' with g1 g2 g3
  subst g1 g2
  obtain ⟨r,hr⟩: ∃r,kc (X j) (X i)=r:=⟨_,rfl⟩
  have HC: ∀w',Below wr.heap.size wr w'→Hid (Calls Tryz.prog 115 #[.agg #[.int .u64 (X j).t,.int .i64 (X j).s,.int .u64 (X j).q,.int .i64 (X j).d,.int .i64 (X j).k,.int .i64 (X j).v],.agg #[.int .u64 (X i).t,.int .i64 (X i).s,.int .u64 (X i).q,.int .i64 (X i).d,.int .i64 (X i).k,.int .i64 (X i).v]] w' fun e w9=>e=.returned (.int .i64 r)∧Below wr.heap.size wr w9):=fun w' hb=>by
   refine (cev_any (X j) (X i) w').mono ?_
   rintro e w9 ⟨h1,h2⟩
   exact ⟨by first|(rw [h1,←hr];done)|(rw [h1,←hr];rfl),hb.trans (h2.mono hb.size)⟩
  have KK: ∀w1,Below wr.heap.size wr w1→Hid ((w1.cell? ⟨b,o+j*6,none⟩=some (.int .u64 (X j).t)∧w1.cell? ⟨b,o+j*6+1,none⟩=some (.int .i64 (X j).s)∧w1.cell? ⟨b,o+j*6+2,none⟩=some (.int .u64 (X j).q)∧w1.cell? ⟨b,o+j*6+3,none⟩=some (.int .i64 (X j).d)∧w1.cell? ⟨b,o+j*6+4,none⟩=some (.int .i64 (X j).k)∧w1.cell? ⟨b,o+j*6+5,none⟩=some (.int .i64 (X j).v))∧w1.cell? ⟨b,o+i*6,none⟩=some (.int .u64 (X i).t)∧w1.cell? ⟨b,o+i*6+1,none⟩=some (.int .i64 (X i).s)∧w1.cell? ⟨b,o+i*6+2,none⟩=some (.int .u64 (X i).q)∧w1.cell? ⟨b,o+i*6+3,none⟩=some (.int .i64 (X i).d)∧w1.cell? ⟨b,o+i*6+4,none⟩=some (.int .i64 (X i).k)∧w1.cell? ⟨b,o+i*6+5,none⟩=some (.int .i64 (X i).v)):=fun w1 hb=>⟨⟨(cell_below (a:=⟨b,o+j*6,none⟩) hb hl).trans a0,(cell_below (a:=⟨b,o+j*6+1,none⟩) hb hl).trans a1,(cell_below (a:=⟨b,o+j*6+2,none⟩) hb hl).trans a2,(cell_below (a:=⟨b,o+j*6+3,none⟩) hb hl).trans a3,(cell_below (a:=⟨b,o+j*6+4,none⟩) hb hl).trans a4,(cell_below (a:=⟨b,o+j*6+5,none⟩) hb hl).trans a5⟩,(cell_below (a:=⟨b,o+i*6,none⟩) hb hl).trans b0,(cell_below (a:=⟨b,o+i*6+1,none⟩) hb hl).trans b1,(cell_below (a:=⟨b,o+i*6+2,none⟩) hb hl).trans b2,(cell_below (a:=⟨b,o+i*6+3,none⟩) hb hl).trans b3,(cell_below (a:=⟨b,o+i*6+4,none⟩) hb hl).trans b4,(cell_below (a:=⟨b,o+i*6+5,none⟩) hb hl).trans b5⟩
  have HR:Hid (kc (X j) (X i)=r∧j+1=i∧(∀k,k+1<i→k+1<n→klt (X k) (X (k+1))=true)∧Below w.heap.size w wr):=⟨hr,hj,hall,hbr⟩
  clear hr hj hall hbr
  by_cases hlt0:0≤r
  case pos=>
   have dR:decide (0≤r)=true:=by simpa using hlt0
   go_upto_region 4 with fail
   go_region_held3 (fun w'=>(w'.cell? ⟨b,o+j*6,none⟩=some (.int .u64 (X j).t)∧w'.cell? ⟨b,o+j*6+1,none⟩=some (.int .i64 (X j).s)∧w'.cell? ⟨b,o+j*6+2,none⟩=some (.int .u64 (X j).q)∧w'.cell? ⟨b,o+j*6+3,none⟩=some (.int .i64 (X j).d)∧w'.cell? ⟨b,o+j*6+4,none⟩=some (.int .i64 (X j).k)∧w'.cell? ⟨b,o+j*6+5,none⟩=some (.int .i64 (X j).v))∧w'.cell? ⟨b,o+i*6,none⟩=some (.int .u64 (X i).t)∧w'.cell? ⟨b,o+i*6+1,none⟩=some (.int .i64 (X i).s)∧w'.cell? ⟨b,o+i*6+2,none⟩=some (.int .u64 (X i).q)∧w'.cell? ⟨b,o+i*6+3,none⟩=some (.int .i64 (X i).d)∧w'.cell? ⟨b,o+i*6+4,none⟩=some (.int .i64 (X i).k)∧w'.cell? ⟨b,o+i*6+5,none⟩=some (.int .i64 (X i).v)) (first|exact ⟨⟨a0,a1,a2,a3,a4,a5⟩,b0,b1,b2,b3,b4,b5⟩|exact KP|go_keep) ((go_at_call 115;(with_reducible refine ((HC _ (Below.drew (Below.refl _ wr))).out).mono ?_);rintro e w1 ⟨rfl,hb1⟩;have KP:=(KK w1 hb1).out))
   all_goals (try go_wp2_with fail)
   all_goals (
    go_ret
    refine ⟨false,rfl,⟨fun e=>(by cases e),fun hG=> ?_⟩,HR.out.2.2.2.trans (hb1.mono HR.out.2.2.2.size)⟩
    have h9:=hG j (by have:=HR.out.2.1;omega)
    rw [HR.out.2.1] at h9
    unfold klt at h9
    rw [HR.out.1] at h9
    have h7:=of_decide_eq_true h9
    omega)
  have dR:decide (0≤r)=false:=by simpa using hlt0
  go_upto_region 4 with fail
  go_region_held3 (fun w'=>(w'.cell? ⟨b,o+j*6,none⟩=some (.int .u64 (X j).t)∧w'.cell? ⟨b,o+j*6+1,none⟩=some (.int .i64 (X j).s)∧w'.cell? ⟨b,o+j*6+2,none⟩=some (.int .u64 (X j).q)∧w'.cell? ⟨b,o+j*6+3,none⟩=some (.int .i64 (X j).d)∧w'.cell? ⟨b,o+j*6+4,none⟩=some (.int .i64 (X j).k)∧w'.cell? ⟨b,o+j*6+5,none⟩=some (.int .i64 (X j).v))∧w'.cell? ⟨b,o+i*6,none⟩=some (.int .u64 (X i).t)∧w'.cell? ⟨b,o+i*6+1,none⟩=some (.int .i64 (X i).s)∧w'.cell? ⟨b,o+i*6+2,none⟩=some (.int .u64 (X i).q)∧w'.cell? ⟨b,o+i*6+3,none⟩=some (.int .i64 (X i).d)∧w'.cell? ⟨b,o+i*6+4,none⟩=some (.int .i64 (X i).k)∧w'.cell? ⟨b,o+i*6+5,none⟩=some (.int .i64 (X i).v)) (first|exact ⟨⟨a0,a1,a2,a3,a4,a5⟩,b0,b1,b2,b3,b4,b5⟩|exact KP|go_keep) ((go_at_call 115;(with_reducible refine ((HC _ (Below.drew (Below.refl _ wr))).out).mono ?_);rintro e w1 ⟨rfl,hb1⟩;have KP:=(KK w1 hb1).out))
  all_goals (try go_wp2_with fail)
  all_goals (
   refine ⟨⟨i+1,rfl,by omega,by omega,fun k hk1 hk2=> ?_,HR.out.2.2.2.trans (hb1.mono HR.out.2.2.2.size)⟩,hm⟩
   by_cases e:k+1<i
   ·exact HR.out.2.2.1 k e hk2
   ·have h8:k=j:=by have:=HR.out.2.1;omega
    rw [h8,HR.out.2.1]
    unfold klt
    rw [HR.out.1]
    simp
    omega)
end Go.Proofs.YtecgecpgmpmkoaaGreat
namespace Go.Proofs.YtecgecpgmpmkoaaGreat
open Go.ChangeShapes Go.WideShapes Go.ChangeAt Go.RowKit
set_option linter.unusedVariables false
set_option linter.unusedSimpArgs false
theorem stb_set {n:Nat} {c d:Nat→Se} (hs:Stb klt 0 n c d) (x:Se):InX n d x↔InX n c x:=by
 obtain ⟨f,g,hf⟩:=hs
 constructor
 ·rintro ⟨i,hi,rfl⟩
  exact ⟨f i,(hf.inr i (Nat.zero_le _) hi).2,(hf.val i).symm⟩
 ·rintro ⟨i,hi,rfl⟩
  refine ⟨g i,?_,by rw [hf.val,hf.ri]⟩
  rcases Nat.lt_or_ge (g i) n with h|h
  ·exact h
  ·have:=hf.out (g i) (by omega)
   rw [hf.ri] at this
   omega
theorem stb_inj {n:Nat} {c d:Nat→Se} (hs:Stb klt 0 n c d) (hc:Inj n c):Inj n d:=fun i j hi hj e=>by
 obtain ⟨f,g,hf⟩:=hs
 rw [hf.val,hf.val] at e
 have:=hc _ _ (hf.inr i (Nat.zero_le _) hi).2 (hf.inr j (Nat.zero_le _) hj).2 e
 rw [←hf.li i,this,hf.li]
structure Pnd (A:Ab) (n:Nat) (X:Nat→Se):Prop where
 srt:Srt klt 0 n X
 set: ∀x,A.M x↔InX n X x
 inj:Inj n X
theorem Pnd.hp {A:Ab} {n:Nat} {X:Nat→Se} (h:Pnd A n X):Hp n X:=fun i h0 hi=>h.srt (par i) i (Nat.zero_le _) (by unfold par;omega) hi
theorem Pnd.fst {p:Pl} {d:Nat→Se} (hs:Stb klt 0 p.ns (evS p.S) d) (ht:Srt klt 0 p.ns d):Pnd (fstA p) p.ns d:=⟨ht,fun x=>(stb_set hs x).symm,fstO_inj hs⟩
theorem Pnd.rsg {p:Pl} {A:Ab} {n:Nat} {X:Nat→Se} (h:Pnd A n X) (ho:AOk2 p A):Rsg n X:=fun i hi=>by
 have h1:=h.srt i (i+1) (Nat.zero_le _) (by omega) hi
 apply Classical.byContradiction
 intro hc
 have hk:=ho.kd (X i) (X (i+1)) ((h.set _).2 ⟨i,by omega,rfl⟩) ((h.set _).2 ⟨i+1,hi,rfl⟩)
 have e1: ¬klt (X (i+1)) (X i)=true:=by rw [h1];decide
 rw [klt_iff] at hc e1
 have:=h.inj i (i+1) (by omega) hi (hk (by omega) (by omega))
 omega
theorem steps_bu {p:Pl} (hb:0≤p.bu) {n:Nat} {B:Ab} (h:StepsR p (fstA p) n B):(n:Int)≤p.bu:=by
 have hm0:(fstA p).m=0:=rfl
 cases h with
 |zero=>simpa using hb
 | @more n A _ x h1 h2=>
  obtain ⟨ho,_⟩:=h2.zero
  have hm:=h1.m
  have: ¬p.bu≤(A.m:Int):=fun e=>ho (.inr (.inr e))
  omega
end Go.Proofs.YtecgecpgmpmkoaaGreat
namespace Go.Proofs.YtecgecpgmpmkoaaGreat
open Go.ChangeShapes Go.WideShapes Go.ChangeAt Go.RowKit
set_option linter.unusedVariables false
set_option linter.unusedSimpArgs false
theorem cells6p {W:World} {b:Nat} {c0 c1 c2 c3 c4 c5:Value} {t:TypeId} (h:W.heap[b]? =some (.cells #[c0,c1,c2,c3,c4,c5] t (0,0))):W.cell? ⟨b,0,none⟩=some c0∧W.cell? ⟨b,1,none⟩=some c1∧W.cell? ⟨b,2,none⟩=some c2∧W.cell? ⟨b,3,none⟩=some c3∧W.cell? ⟨b,4,none⟩=some c4∧W.cell? ⟨b,5,none⟩=some c5:=by
 refine ⟨?_,?_,?_,?_,?_,?_⟩
 all_goals (unfold World.cell?;rw [h];rfl)
def sf1 (p:Pl) (C:Nat→Sa) (j:Nat):Prop:=(C j).n=p.nw j∧(C j).s≤4611686018427387904
def SF (p:Pl) (n:Nat) (C:Nat→Sa):Prop:=n=p.nq∧ ∀j,j<n→sf1 p C j
def ef1 (p:Pl) (C:Nat→Sa) (x:Se):Prop:=(0≤x.d∧x.d<(p.nq:Int))∧(0≤x.k∧x.k<p.ki)∧(0≤x.s∧x.s<(p.nq:Int))∧x.q<(C x.s.toNat).s
def PF (p:Pl) (o:Pn):Prop:=SF p o.n o.A∧Rsg o.m o.X∧(o.l:Int)≤p.bu∧ ∀j,j<o.m→ef1 p o.A (o.X j)
theorem SF.eqv {p:Pl} {n:Nat} {A C:Nat→Sa} (h:SaEq n A C):SF p n C↔SF p n A:=by
 unfold SF sf1
 constructor
 ·intro ⟨h1,h2⟩
  exact ⟨h1,fun j hj=>by rw [←(h j hj).1,←(h j hj).2.2];exact h2 j hj⟩
 ·intro ⟨h1,h2⟩
  exact ⟨h1,fun j hj=>by rw [(h j hj).1,(h j hj).2.2];exact h2 j hj⟩
set_option maxRecDepth 100000 in
set_option maxHeartbeats 4000000 in
theorem statesFit_any (p:Pl) (v:PlV) (q:Option Addr) (n c:Nat) (C:Nat→Sa) (K:Nat→Nat→Int) (hn:n*40≤140737488355328) (hnq:p.nq≤64) (w:World) (h:PlAt w p v) (hs:SsAt w q n C K):
  Calls Tryz.prog 104 #[.agg #[.int .i64 p.ki,.slice v.pp p.np v.pc,.slice v.tp p.nq v.tc,.slice v.sp p.ns v.sc,.int .u64 p.sd,.int .u64 p.lk,.int .u64 p.en,.int .i64 p.bu,.int .i64 p.fu],.slice q n c] w fun e w'=> ∃b,e=.returned (.bool b)∧(b=true↔SF p n C)∧Below w.heap.size w w':=by
 obtain ⟨wb,hwb⟩: ∃wb,w.alloc (.cells #[.int .i64 p.ki,.slice v.pp p.np v.pc,.slice v.tp p.nq v.tc,.slice v.sp p.ns v.sc,.int .u64 p.sd,.int .u64 p.lk,.int .u64 p.en,.int .i64 p.bu,.int .i64 p.fu] 27)=wb:=⟨_,rfl⟩
 obtain ⟨hb0,hbox,hsz⟩:=boxed _ _ _ hwb
 have HW:Hid (w.alloc (.cells #[.int .i64 p.ki,.slice v.pp p.np v.pc,.slice v.tp p.nq v.tc,.slice v.sp p.ns v.sc,.int .u64 p.sd,.int .u64 p.lk,.int .u64 p.en,.int .i64 p.bu,.int .i64 p.fu] 27)=wb):=hwb
 have HP:Hid (PlAt wb p v∧SsAt wb q n C K∧Below w.heap.size w wb):=⟨h.below hb0,hs.below hb0,hb0⟩
 obtain ⟨⟨c0,c1,c2,c3⟩,c4,c5,c6,c7,c8⟩:=cells9 hbox
 rw [←hwb] at c0 c1 c2 c3 c4 c5 c6 c7 c8
 clear h hs hb0 hsz hwb
 by_cases he:n=p.nq
 case neg=>
  have g0:((n:Int)==(p.nq:Int))=false:=by simp;omega
  have g1:((n:Int) !=(p.nq:Int))=true:=by simp;omega
  have g2:(n !=p.nq)=true:=by simp;omega
  have g3:(n==p.nq)=false:=by simp;omega
  go_enter Tryz.func104,Tryz.ntmps104
  go_wp2_with fail
  go_ret
  rw [HW.out]
  have hX:SF p n C→False:=fun hG=>absurd hG.1 he
  have hY:=HP.out.2.2
  first|exact ⟨false,rfl,⟨fun e=>(by cases e),fun hG=>(hX hG).elim⟩,hY⟩|exact .inl ⟨rfl,hX,hY⟩
 have g0:((n:Int)==(p.nq:Int))=true:=by simp;omega
 have g1:((n:Int) !=(p.nq:Int))=false:=by simp;omega
 have g2:(n !=p.nq)=false:=by simp;omega
 have g3:(n==p.nq)=true:=by simp;omega
 have HE:Hid (n=p.nq):=he
 clear he
 go_enter Tryz.func104,Tryz.ntmps104
 go_wp2_with fail
 rw [HW.out]
 clear c0 c1 c2 c3 c4 c5 c6 c7 c8
 go_loopw [15] (fun x wr=> ∃i:Nat,x=.int .i64 (i:Int)∧i≤n∧(∀j,j<i→sf1 p C j)∧Below wb.heap.size wb wr) (fun x _=>n-(intOf x).toNat)
 case atStart=>exact ⟨0,rfl,Nat.zero_le _,fun j hj=>absurd hj (Nat.not_lt_zero _),Below.refl _ _⟩
 case round=>
  obtain ⟨i,rfl,hi,hall,hbr⟩:=hrel
  by_cases hlt:i<n
  case pos=>
   have dlt:decide ((i:Int)<(n:Int))=true:=by simp;omega
   have i0:(0:Int)≤(i:Int):=by omega
   have i1:(i:Int)<(n:Int):=by omega
   have i2:(i:Int)<(p.nq:Int):=by rw [←HE.out];exact i1
   have ei:IntKind.i64.wrap ((i:Int)+1)=(i:Int)+1:=by rw [IntKind.wrap_i64];omega
   have hme:=meas hlt
   obtain hz|⟨g,o,hqe,hl,hc,_⟩:=HP.out.2.1.below hbr
   ·omega
   obtain ⟨x0,x1,x2⟩:=hc i hlt
   have hlq:i<p.nq:=by rw [←HE.out];exact hlt
   obtain hz|⟨gt,ot,hpp,hlt',hct,_⟩:=(HP.out.1.below hbr).ts
   ·omega
   obtain ⟨y0,y1⟩:=hct i hlq
   have hboxr:=(hbr.block _ (lt_of_block hbox)).trans hbox
   obtain ⟨⟨_,_,d2,_⟩,_⟩:=cells9 hboxr
   have hwl:=lt_of_block hboxr
   have hn1:w.heap.size≠wr.heap.size:=by omega
   have hn2:gt≠wr.heap.size:=by omega
   have hba:Below wr.heap.size wr (wr.alloc (.cells #[.slice (C i).p (C i).n (C i).c,.int .u64 (C i).d,.int .u64 (C i).s] 62)):=(Below.refl _ wr).alloc (Nat.le_refl _) _
   obtain ⟨wa,hwa⟩: ∃wa,wr.alloc (.cells #[.slice (C i).p (C i).n (C i).c,.int .u64 (C i).d,.int .u64 (C i).s] 62)=wa:=⟨_,rfl⟩
   have hbn:(wr.alloc (.cells #[.slice (C i).p (C i).n (C i).c,.int .u64 (C i).d,.int .u64 (C i).s] 62)).heap[wr.heap.size]? =some (.cells #[.slice (C i).p (C i).n (C i).c,.int .u64 (C i).d,.int .u64 (C i).s] 62 (0,0)):=World.alloc_heap_new wr _
   rw [hpp] at d2
   have d2a:=(cell_below (a:=⟨w.heap.size,2,none⟩) hba hwl).trans d2
   have y1a:=(cell_below (a:=⟨gt,ot+i*2+1,none⟩) hba hlt').trans y1
   rw [hwa] at hba hbn d2a y1a
   obtain ⟨b0,b1,b2⟩:=cells3p hbn
   have HA:Hid ((∀j,j<i→sf1 p C j)∧Below wb.heap.size wb wr∧Below wr.heap.size wr wa):=⟨hall,hbr,hba⟩
   have HWA:Hid (wr.alloc (.cells #[.slice (C i).p (C i).n (C i).c,.int .u64 (C i).d,.int .u64 (C i).s] 62)=wa):=hwa
   subst hqe
   rw [hpp]
   clear hc hct hall hbr hba hboxr hpp hl hlt' hwa hbn
   by_cases h1:(C i).n=p.nw i
   case neg=>
    have k0:(((C i).n:Int)==(p.nw i:Int))=false:=by simp;omega
    have k1:(((C i).n:Int) !=(p.nw i:Int))=true:=by simp;omega
    have k2:((C i).n==p.nw i)=false:=by simp;omega
    have k3:((C i).n !=p.nw i)=true:=by simp;omega
    go_upto_region 6 with fail
    rw [HWA.out]
    go_quiet (fail)
    go_wp2_with fail
    go_ret
    have hb5:=HA.out.2.1.trans (HA.out.2.2.mono HA.out.2.1.size)
    have hX:SF p n C→False:=fun hG=>absurd (hG.2 i hlt).1 h1
    have hY: ∀q,Below w.heap.size w (wa.drewN q):=fun q=>HP.out.2.2.trans ((hb5.trans ((below_drewNq _ _ q).mono hb5.size)).mono HP.out.2.2.size)
    first|exact ⟨false,rfl,⟨fun e=>(by cases e),fun hG=>(hX hG).elim⟩,hY _⟩|exact .inl ⟨rfl,hX,hY _⟩
   have k0:(((C i).n:Int)==(p.nw i:Int))=true:=by simp;omega
   have k1:(((C i).n:Int) !=(p.nw i:Int))=false:=by simp;omega
   have k2:((C i).n==p.nw i)=true:=by simp;omega
   have k3:((C i).n !=p.nw i)=false:=by simp;omega
   by_cases h2:(C i).s≤4611686018427387904
   case neg=>
    have k4:decide (4611686018427387904<(C i).s)=true:=by simp;omega
    have HN:Hid (¬(C i).s≤4611686018427387904):=h2
    clear h2 h1
    go_upto_region 6 with fail
    rw [HWA.out]
    go_quiet (fail)
    go_wp2_with fail
    go_ret
    have hb5:=HA.out.2.1.trans (HA.out.2.2.mono HA.out.2.1.size)
    have hX:SF p n C→False:=fun hG=>absurd (hG.2 i hlt).2 (by have:=HN.out;omega)
    have hY: ∀q,Below w.heap.size w (wa.drewN q):=fun q=>HP.out.2.2.trans ((hb5.trans ((below_drewNq _ _ q).mono hb5.size)).mono HP.out.2.2.size)
    first|exact ⟨false,rfl,⟨fun e=>(by cases e),fun hG=>(hX hG).elim⟩,hY _⟩|exact .inl ⟨rfl,hX,hY _⟩
   have k4:decide (4611686018427387904<(C i).s)=false:=by simp;omega
   have HN:Hid ((C i).n=p.nw i∧(C i).s≤4611686018427387904):=⟨h1,h2⟩
   clear h1 h2
   go_upto_region 6 with fail
   rw [HWA.out]
   go_quiet (fail)
   go_wp2_with fail
   have hb5:=HA.out.2.1.trans (HA.out.2.2.mono HA.out.2.1.size)
   refine ⟨⟨i+1,rfl,hlt,fun j hj=> ?_,hb5.trans ((below_drewNq _ _ _).mono hb5.size)⟩,hme⟩
   by_cases e:j=i
   ·rw [e]
    exact HN.out
   ·exact HA.out.1 j (by omega)
  have dlt:decide ((i:Int)<(n:Int))=false:=by simp;omega
  obtain rfl:i=n:=by omega
  have HA:Hid ((∀j,j<i→sf1 p C j)∧Below wb.heap.size wb wr):=⟨hall,hbr⟩
  clear hall hbr
  go_wp2_with fail
  go_ret
  exact ⟨true,rfl,⟨fun _=>⟨HE.out,HA.out.1⟩,fun _=>rfl⟩,HP.out.2.2.trans (HA.out.2.mono HP.out.2.2.size)⟩
end Go.Proofs.YtecgecpgmpmkoaaGreat
namespace Go.Proofs.YtecgecpgmpmkoaaGreat
open Go.ChangeShapes Go.WideShapes Go.ChangeAt Go.RowKit
set_option linter.unusedVariables false
set_option linter.unusedSimpArgs false
def Sts (p:Pl) (A:Ab):Nat→Ab→Prop
 |0,B=>B=A
 |n+1,C=> ∃B x c,Sts p A n B∧StepR p B x c C
theorem over_stay {p:Pl} {A B:Ab} {x:Se} {c:Int} (ho:Over p A) (h:StepR p A x c B):B=A∧c=128:=by
 rcases h with ⟨_,e,_,rfl⟩|⟨h9,_⟩
 ·exact ⟨rfl,e⟩
 ·exact absurd ho h9
theorem EndR.over {p:Pl} {A C:Ab} (h:EndR p A C):Over p C:=by
 obtain ⟨n,B,x,c,_,h2,h3⟩:=h
 rcases h2 with ⟨ho,_,_,rfl⟩|⟨_,z,_,⟨e,_,_,rfl⟩|⟨_,e,_⟩⟩
 ·exact ho
 ·exact .inl e
 ·exact absurd e h3
theorem sts_end {p:Pl} {A C:Ab} {K:Nat} {B':Ab} {x:Se} {c:Int} (h1:StepsR p A K B') (h2:StepR p B' x c C) (hc:c≠0): ∀ {n:Nat} {B:Ab},Sts p A n B→(n≤K→StepsR p A n B)∧(K<n→B=C)
 |0,B,h=>by
  obtain rfl:B=A:=h
  exact ⟨fun _=>.zero,fun e=>absurd e (Nat.not_lt_zero _)⟩
 |n+1,D,h=>by
  obtain ⟨B,y,d,hB,hs⟩:=h
  obtain ⟨i1,i2⟩:=sts_end h1 h2 hc hB
  have hov:Over p C:=EndR.over ⟨K,B',x,c,h1,h2,hc⟩
  refine ⟨fun hle=> ?_,fun hlt=> ?_⟩
  ·obtain ⟨B1,x1,C1,j1,j2,j3⟩:=h1.pre n (by omega)
   obtain rfl:=(i1 (by omega)).one j1
   obtain ⟨_,_,rfl⟩:=j2.one hs
   exact j3
  ·by_cases e:n=K
   ·obtain rfl:=e
    obtain rfl:=(i1 (Nat.le_refl _)).one h1
    exact (hs.one h2).2.2
   ·obtain rfl:=i2 (by omega)
    exact (over_stay hov hs).1
theorem steps_sent {p:Pl} (hp:PlOk p) {n:Nat} {B:Ab} (h:StepsR p (fstA p) n B): ∀j,j<p.nq→B.s j≤256+16*(n:Int):=by
 induction h with
 |zero=>
  intro j hj
  have h1:=cntS_le p.S p.ns (j:Int)
  have h2:=hp.gs.1
  show ((cntS p.S p.ns (j:Int):Nat):Int)≤_
  omega
 |more h1 h2 ih=>
  rename_i n A D x
  obtain ⟨ho,hl,hc,rfl⟩:=h2.zero
  have hok:=steps_ok hp (fst_ok hp) h1
  have hF:=fitE hp hok hl.1
  have hon:=hF.eo.on
  have hst:=hF.sent hok.m
  intro j hj
  have:=ih j hj
  show (if j=x.d.toNat then (effA p A x).sent else A.s j)≤_
  split
  ·rename_i e
   have:=ih x.d.toNat hF.dn.1
   rw [hst]
   omega
  ·omega
theorem point_fits {p:Pl} (hp:PlOk p) {k:Nat} {A:Ab} (h:StepsR p (fstA p) k A) {m:Nat} {d:Nat→Se} {SA:Nat→Sa} (hd:Pnd A m d) (hs: ∀j,j<p.nq→(SA j).n=p.nw j∧(SA j).d=A.d j∧(SA j).s=A.s j):PF p ⟨p.nq,SA,A.K,m,d,A.m,A.Z⟩:=by
 have hok:=steps_ok hp (fst_ok hp) h
 have hm:=h.m
 have hm0:(fstA p).m=0:=rfl
 have hbu:=steps_bu hp.bu.1 h
 have hb:=hp.bu
 refine ⟨⟨rfl,fun j hj=>⟨(hs j hj).1,?_⟩⟩,hd.rsg hok,?_,fun j hj=> ?_⟩
 ·have:=steps_sent hp h j hj
  rw [(hs j hj).2.2]
  omega
 ·show (A.m:Int)≤p.bu
  omega
 ·have he:=hok.ev (d j) ((hd.set _).2 ⟨j,hj,rfl⟩)
  refine ⟨he.d,he.k,he.s,?_⟩
  have hsl:(d j).s.toNat<p.nq:=by have:=he.s;omega
  show (d j).q<(SA (d j).s.toNat).s
  rw [(hs _ hsl).2.2]
  exact he.q.2
end Go.Proofs.YtecgecpgmpmkoaaGreat
namespace Go.Proofs.YtecgecpgmpmkoaaGreat
open Go.ChangeShapes Go.WideShapes Go.ChangeAt Go.RowKit
set_option linter.unusedVariables false
set_option linter.unusedSimpArgs false
end Go.Proofs.YtecgecpgmpmkoaaGreat
namespace Go.Proofs.YtecgecpgmpmkoaaGreat
open Go.ChangeShapes Go.WideShapes Go.ChangeAt Go.RowKit
set_option linter.unusedVariables false
set_option linter.unusedSimpArgs false
def AllE (A:Ab) (x:Se):Prop:=InX A.m A.Z x∨A.M x
structure Cnt (p:Pl) (A:Ab):Prop where
 bd: ∀x,AllE A x→(0≤x.s∧x.s<(p.nq:Int))∧0≤x.q∧x.q<A.s x.s.toNat
 ex: ∀j,j<p.nq→ ∀q:Nat,(q:Int)<A.s j→ ∃x,AllE A x∧x.s=(j:Int)∧x.q=(q:Int)
 un: ∀x y,AllE A x→AllE A y→x.s=y.s→x.q=y.q→x=y
 ij:Inj A.m A.Z
 dj: ∀i,i<A.m→ ¬A.M (A.Z i)
theorem cnt_hit (S:Nat→St) (j:Int): ∀n q,q<cntS S n j→ ∃i,i<n∧(S i).d=j∧cntS S i j=q
 |0,q,h=>absurd h (Nat.not_lt_zero _)
 |n+1,q,h=>by
  have h':q<cntS S n j+(if (S n).d=j then 1 else 0):=h
  by_cases e:q<cntS S n j
  ·obtain ⟨i,h1,h2⟩:=cnt_hit S j n q e
   exact ⟨i,by omega,h2⟩
  ·by_cases e2:(S n).d=j
   ·rw [if_pos e2] at h'
    exact ⟨n,Nat.lt_succ_self n,e2,by omega⟩
   ·rw [if_neg e2] at h'
    omega
theorem cnt_fst {p:Pl} (hp:PlOk p):Cnt p (fstA p):=by
 have ho:=fst_ok hp
 have hA: ∀x,AllE (fstA p) x→(fstA p).M x:=fun x hx=>hx.elim (fun ⟨_,h,_⟩=>absurd h (Nat.not_lt_zero _)) id
 refine ⟨fun x hx=> ?_,fun j hj q hq=> ?_,fun x y hx hy=>ho.kd x y (hA x hx) (hA y hy),fun i _ hi=>absurd hi (Nat.not_lt_zero _),fun i hi=>absurd hi (Nat.not_lt_zero _)⟩
 ·have:=ho.ev x (hA x hx)
  exact ⟨this.s,this.q⟩
 ·have hq':(q:Int)<((cntS p.S p.ns (j:Int):Nat):Int):=hq
  obtain ⟨i,h1,h2,h3⟩:=cnt_hit p.S (j:Int) p.ns q (by omega)
  refine ⟨evS p.S i,.inr ⟨i,h1,rfl⟩,h2,?_⟩
  show ((cntS p.S i (p.S i).d:Nat):Int)=(q:Int)
  rw [h2,h3]
theorem all_next {p:Pl} {A:Ab} {x:Se} (hx:A.M x) (y:Se):AllE (nextA p A x) y↔AllE A y∨InX (effA p A x).on (outS (effA p A x)) y:=by
 show InX (A.m+1) (setS A.Z A.m x) y∨((A.M y∧y≠x)∨InX (effA p A x).on (outS (effA p A x)) y)↔(InX A.m A.Z y∨A.M y)∨_
 rw [push_set]
 constructor
 ·rintro ((h|h)|(h|h))
  ·exact .inl (.inl h)
  ·exact .inl (.inr (h▸hx))
  ·exact .inl (.inr h.1)
  ·exact .inr h
 ·rintro ((h|h)|h)
  ·exact .inl (.inl h)
  ·by_cases e:y=x
   ·exact .inl (.inr e)
   ·exact .inr (.inl ⟨h,e⟩)
  ·exact .inr (.inr h)
theorem Cnt.next {p:Pl} (hp:PlOk p) {A:Ab} (ho:AOk2 p A) (h:Cnt p A) {x:Se} (hx:A.M x):Cnt p (nextA p A x):=by
 have hF:=fitE hp ho hx
 have hm:=ho.m
 have hdn:=hF.dn
 have hsent:=hF.sent hm
 have hs': ∀j,(nextA p A x).s j=if j=x.d.toNat then A.s x.d.toNat+((effA p A x).on:Int) else A.s j:=fun j=>by
  show (if j=x.d.toNat then (effA p A x).sent else A.s j)=_
  rw [hsent]
 have hs0:=hF.s0.1
 have hge: ∀j,A.s j≤(nextA p A x).s j:=fun j=>by
  rw [hs' j]
  by_cases e:j=x.d.toNat
  ·rw [if_pos e,e];omega
  ·rw [if_neg e];exact Int.le_refl _
 have hxd: ∀i,i<(effA p A x).on→(outS (effA p A x) i).s=x.d∧(outS (effA p A x) i).q=A.s x.d.toNat+i:=fun i hi=>⟨(hF.outq hm hi).1,(hF.outq hm hi).2.1⟩
 have hon: ∀y,AllE A y→ ∀i,i<(effA p A x).on→y.s=(outS (effA p A x) i).s→y.q=(outS (effA p A x) i).q→False:=fun y hy i hi e1 e2=>by
  obtain ⟨z1,z2⟩:=hxd i hi
  have:=(h.bd y hy).2.2
  rw [e1,z1,e2,z2] at this
  omega
 refine ⟨fun y hy=> ?_,fun j hj q hq=> ?_,fun y z hy hz e1 e2=> ?_,?_,fun i hi hM=> ?_⟩
 ·rcases (all_next hx y).1 hy with hy|⟨i,hi,rfl⟩
  ·obtain ⟨b1,b2,b3⟩:=h.bd y hy
   exact ⟨b1,b2,Int.lt_of_lt_of_le b3 (hge _)⟩
  ·obtain ⟨z1,z2⟩:=hxd i hi
   refine ⟨by rw [z1];omega,by rw [z2];omega,?_⟩
   rw [z2,z1,hs',if_pos rfl]
   omega
 ·rw [hs' j] at hq
  by_cases e:j=x.d.toNat
  ·rw [if_pos e] at hq
   by_cases e2:(q:Int)<A.s j
   ·obtain ⟨y,h1,h2⟩:=h.ex j hj q e2
    exact ⟨y,(all_next hx y).2 (.inl h1),h2⟩
   ·rw [e] at e2
    obtain ⟨z1,z2⟩:=hxd (q-(A.s x.d.toNat).toNat) (by omega)
    exact ⟨outS (effA p A x) (q-(A.s x.d.toNat).toNat),(all_next hx _).2 (.inr ⟨_,by omega,rfl⟩),by rw [z1,e];exact hdn.2,by rw [z2];omega⟩
  ·rw [if_neg e] at hq
   obtain ⟨y,h1,h2⟩:=h.ex j hj q hq
   exact ⟨y,(all_next hx y).2 (.inl h1),h2⟩
 ·rcases (all_next hx y).1 hy with hy|⟨i,hi,rfl⟩<;>rcases (all_next hx z).1 hz with hz|⟨k,hk,rfl⟩
  ·exact h.un y z hy hz e1 e2
  ·exact (hon y hy k hk e1 e2).elim
  ·exact (hon z hz i hi e1.symm e2.symm).elim
  ·have h1:=(hxd i hi).2
   have h2:=(hxd k hk).2
   rw [h1,h2] at e2
   rw [show i=k by omega]
 ·exact push_inj h.ij fun ⟨i,hi,e⟩=>h.dj i hi (e▸hx)
 ·have hi':i<A.m+1:=hi
  have hZ:(nextA p A x).Z i=if i=A.m then x else A.Z i:=rfl
  rw [hZ] at hM
  have hM':(A.M (if i=A.m then x else A.Z i)∧(if i=A.m then x else A.Z i)≠x)∨InX (effA p A x).on (outS (effA p A x)) (if i=A.m then x else A.Z i):=hM
  by_cases e:i=A.m
  ·rw [if_pos e] at hM'
   rcases hM' with h9|⟨k,hk,h9⟩
   ·exact h9.2 rfl
   ·exact hF.fresh ho hk (Eq.mp (congrArg A.M h9.symm) hx)
  ·rw [if_neg e] at hM'
   rcases hM' with h9|⟨k,hk,h9⟩
   ·exact h.dj i (by omega) h9.1
   ·exact hon (A.Z i) (.inl ⟨i,by omega,rfl⟩) k hk (by rw [h9]) (by rw [h9])
theorem cnt_steps {p:Pl} (hp:PlOk p) {n:Nat} {B:Ab} (h:StepsR p (fstA p) n B):Cnt p B:=by
 induction h with
 |zero=>exact cnt_fst hp
 |more h1 h2 ih=>
  obtain ⟨_,hl,_,rfl⟩:=h2.zero
  exact ih.next hp (steps_ok hp (fst_ok hp) h1) hl.1
theorem sts_trace {p:Pl} {C:Ab} (h:EndR p (fstA p) C) (hb:0≤p.bu) {n:Nat} (hn:(n:Int)=p.bu) {A:Ab} (hs:Sts p (fstA p) n A):A.m=C.m∧A.Z=C.Z:=by
 obtain ⟨K,B',x,c,h1,h2,h3⟩:=h
 have hK:=steps_bu hb h1
 obtain ⟨k1,k2⟩:=sts_end h1 h2 h3 hs
 by_cases e:n≤K
 ·have e':n=K:=by omega
  subst e'
  obtain rfl:=(k1 e).one h1
  rcases h2 with ⟨_,_,_,rfl⟩|⟨_,y,_,⟨_,_,_,rfl⟩|⟨_,e9,_⟩⟩
  ·exact ⟨rfl,rfl⟩
  ·exact ⟨rfl,rfl⟩
  ·exact absurd e9 h3
 ·rw [k2 (by omega)]
  exact ⟨rfl,rfl⟩
theorem sts_cnt {p:Pl} (hp:PlOk p) {C:Ab} (h:EndR p (fstA p) C) {n:Nat} (hn:(n:Int)=p.bu) {A:Ab} (hs:Sts p (fstA p) n A):Cnt p A∧(∀j,j<p.nq→A.s j≤256+16*(n:Int))∧A.m=C.m∧A.Z=C.Z:=by
 have hb:=hp.bu.1
 refine ⟨?_,?_,sts_trace h hb hn hs⟩
 all_goals
  obtain ⟨K,B',x,c,h1,h2,h3⟩:=h
  have hK:=steps_bu hb h1
  obtain ⟨k1,k2⟩:=sts_end h1 h2 h3 hs
  have hc:=cnt_steps hp h1
  have hse:=steps_sent hp h1
  by_cases e:n≤K
 ·obtain rfl:n=K:=by omega
  obtain rfl:=(k1 e).one h1
  exact hc
 ·rw [k2 (by omega)]
  rcases h2 with ⟨_,_,_,rfl⟩|⟨_,y,_,⟨_,_,_,rfl⟩|⟨_,e9,_⟩⟩
  ·exact hc
  ·exact ⟨hc.bd,hc.ex,hc.un,hc.ij,hc.dj⟩
  ·exact absurd e9 h3
 ·obtain rfl:n=K:=by omega
  obtain rfl:=(k1 e).one h1
  exact hse
 ·rw [k2 (by omega)]
  rcases h2 with ⟨_,_,_,rfl⟩|⟨_,y,_,⟨_,_,_,rfl⟩|⟨_,e9,_⟩⟩
  ·exact fun j hj=>by have:=hse j hj;omega
  ·exact fun j hj=>by have:=hse j hj;show B'.s j≤_;omega
  ·exact absurd e9 h3
theorem inj_le: ∀(m:Nat) (Y:Nat→Se) (n:Nat) (X:Nat→Se),Inj n X→(∀i,i<n→InX m Y (X i))→n≤m
 |0,Y,n,X,_,h=>by
  by_cases e:n=0
  ·omega
  ·obtain ⟨_,h9,_⟩:=h 0 (by omega)
   omega
 |m+1,Y,n,X,hX,h=>by
  by_cases e: ∃i,i<n∧X i=Y m
  ·obtain ⟨i,hi,he⟩:=e
   have:=inj_le m Y (n-1) (fun j=>if j=i then X (n-1) else X j) (fun a b ha hb hab=>by
    have hab:(if a=i then X (n-1) else X a)=(if b=i then X (n-1) else X b):=hab
    by_cases e1:a=i<;>by_cases e2:b=i
    ·omega
    ·rw [if_pos e1,if_neg e2] at hab
     have:=hX _ _ (by omega) (by omega) hab
     omega
    ·rw [if_neg e1,if_pos e2] at hab
     have:=hX _ _ (by omega) (by omega) hab
     omega
    ·rw [if_neg e1,if_neg e2] at hab
     exact hX _ _ (by omega) (by omega) hab) (fun a ha=>by
    show InX m Y (if a=i then X (n-1) else X a)
    have key: ∀b,b<n→b≠i→InX m Y (X b):=fun b hb hbi=>by
     obtain ⟨k,hk,hk2⟩:=h b hb
     by_cases e3:k=m
     ·subst e3
      exact absurd (hX b i hb hi (hk2.symm.trans he.symm)) hbi
     ·exact ⟨k,by omega,hk2⟩
    by_cases e1:a=i
    ·rw [if_pos e1]
     exact key _ (by omega) (by omega)
    ·rw [if_neg e1]
     exact key _ (by omega) e1)
   omega
  ·have:=inj_le m Y n X hX (fun i hi=>by
    obtain ⟨k,hk,hk2⟩:=h i hi
    by_cases e3:k=m
    ·subst e3
     exact absurd ⟨i,hi,hk2.symm⟩ e
    ·exact ⟨k,by omega,hk2⟩)
   omega
theorem sts_pend {p:Pl} (hp:PlOk p) {C:Ab} (h:EndR p (fstA p) C) {n:Nat} (hn:(n:Int)=p.bu) {A:Ab} (hs:Sts p (fstA p) n A) {r:Nat} {X:Nat→Se} (hX:Inj r X) (hM: ∀i,i<r→A.M (X i)):(r:Int)≤256+16*(n:Int):=by
 have hb:=hp.bu.1
 have ho: ∀ {i:Nat},i≤C.m→outN p C.Z i≤16*i:=outN_le hp h
 obtain ⟨K,B',x,c,h1,h2,h3⟩:=h
 have hK:=steps_bu hb h1
 obtain ⟨k1,k2⟩:=sts_end h1 h2 h3 hs
 have hns:=hp.gs.1
 have hpe:=steps_pend h1
 have hBm:B'.m=0+K:=h1.m
 have hCZ:C.Z=B'.Z∧C.m=B'.m∧C.M=B'.M:=by
  rcases h2 with ⟨_,_,_,rfl⟩|⟨_,y,_,⟨_,_,_,rfl⟩|⟨_,e9,_⟩⟩
  ·exact ⟨rfl,rfl,rfl⟩
  ·exact ⟨rfl,rfl,rfl⟩
  ·exact absurd e9 h3
 have hAM:A.M=B'.M:=by
  by_cases e:n≤K
  ·obtain rfl:n=K:=by omega
   obtain rfl:=(k1 e).one h1
   rfl
  ·rw [k2 (by omega),hCZ.2.2]
 have hoK:=ho (i:=K) (by omega)
 rw [hCZ.1] at hoK
 have:=inj_le (p.ns+outN p B'.Z K) (fun i=>if i<p.ns then evS p.S i else outZ p B'.Z K (i-p.ns)) r X hX (fun i hi=>by
  have h9:=hM i hi
  rw [hAM] at h9
  rcases hpe _ h9 with ⟨k,hk,e⟩|⟨k,hk,e⟩
  ·exact ⟨k,by omega,by show (if k<p.ns then _ else _)=_;rw [if_pos hk];exact e⟩
  ·exact ⟨p.ns+k,by omega,by show (if p.ns+k<p.ns then _ else outZ p B'.Z K (p.ns+k-p.ns))=_;rw [if_neg (by omega),show p.ns+k-p.ns=k by omega];exact e⟩)
 omega
def sn (d:Nat→Se):Nat→Nat→Nat→Bool
 |0,_,_=>false
 |i+1,j,q=>sn d i j q||((d i).s==(j:Int) && (d i).q==(q:Int))
theorem sn_iff (d:Nat→Se) (j q:Nat): ∀i,sn d i j q=true↔ ∃k,k<i∧(d k).s=(j:Int)∧(d k).q=(q:Int)
 |0=>⟨fun h=>(by cases h),fun ⟨_,h,_⟩=>absurd h (Nat.not_lt_zero _)⟩
 |i+1=>by
  show (sn d i j q||((d i).s==(j:Int) && (d i).q==(q:Int)))=true↔_
  rw [Bool.or_eq_true,sn_iff d j q i,Bool.and_eq_true,beq_iff_eq,beq_iff_eq]
  constructor
  ·rintro (⟨k,h1,h2⟩|h)
   ·exact ⟨k,by omega,h2⟩
   ·exact ⟨i,Nat.lt_succ_self i,h⟩
  ·rintro ⟨k,h1,h2⟩
   by_cases e:k=i
   ·exact .inr (e▸h2)
   ·exact .inl ⟨k,by omega,h2⟩
end Go.Proofs.YtecgecpgmpmkoaaGreat
