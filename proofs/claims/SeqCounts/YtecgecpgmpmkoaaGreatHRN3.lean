import Derived.Test.YtecgecpgmpmkoaaGreatHSO4
namespace Go.Proofs.YtecgecpgmpmkoaaGreat
open Go.ChangeShapes Go.WideShapes Go.ChangeAt Go.RowKit
set_option linter.unusedVariables false
set_option linter.unusedSimpArgs false
def par (i:Nat):Nat:=(i-1) / 2
def InX (n:Nat) (X:Nat→Se) (x:Se):Prop:= ∃i,i<n∧X i=x
def Inj (n:Nat) (X:Nat→Se):Prop:= ∀i j,i<n→j<n→X i=X j→i=j
structure Sam (n:Nat) (X Y:Nat→Se):Prop where
 set: ∀x,InX n Y x↔InX n X x
 inj:Inj n X→Inj n Y
theorem Sam.refl (n:Nat) (X:Nat→Se):Sam n X X:=⟨fun _=>Iff.rfl,id⟩
theorem Sam.trans {n:Nat} {X Y Z:Nat→Se} (h:Sam n X Y) (h':Sam n Y Z):Sam n X Z:=⟨fun x=>(h'.set x).trans (h.set x),fun i=>h'.inj (h.inj i)⟩
theorem swp_at (X:Nat→Se) (i j k:Nat):swp X i j k=X (if k=i then j else if k=j then i else k):=by
 unfold swp
 by_cases h1:k=i
 ·rw [if_pos h1,if_pos h1]
 ·rw [if_neg h1,if_neg h1]
  by_cases h2:k=j
  ·rw [if_pos h2,if_pos h2]
  ·rw [if_neg h2,if_neg h2]
theorem swp_l (X:Nat→Se) (i j:Nat):swp X i j i=X j:=by unfold swp;rw [if_pos rfl]
theorem swp_r (X:Nat→Se) (i j:Nat):swp X i j j=X i:=by
 unfold swp
 by_cases h:j=i
 ·rw [if_pos h,h]
 ·rw [if_neg h,if_pos rfl]
theorem swp_o (X:Nat→Se) {i j k:Nat} (h1:k≠i) (h2:k≠j):swp X i j k=X k:=by unfold swp;rw [if_neg h1,if_neg h2]
theorem Sam.swap {n:Nat} {X:Nat→Se} {i j:Nat} (hi:i<n) (hj:j<n):Sam n X (swp X i j):=by
 have hk: ∀k,k<n→(if k=i then j else if k=j then i else k)<n:=fun k hk=>by
  by_cases h1:k=i
  ·rw [if_pos h1];exact hj
  ·rw [if_neg h1]
   by_cases h2:k=j
   ·rw [if_pos h2];exact hi
   ·rw [if_neg h2];exact hk
 refine ⟨fun x=>⟨fun ⟨k,h1,h2⟩=>⟨_,hk k h1,(swp_at X i j k).symm.trans h2⟩,fun ⟨k,h1,h2⟩=> ?_⟩,fun h a b ha hb he=> ?_⟩
 ·by_cases e1:k=i
  ·exact ⟨j,hj,by rw [swp_r,←e1];exact h2⟩
  ·by_cases e2:k=j
   ·exact ⟨i,hi,by rw [swp_l,←e2];exact h2⟩
   ·exact ⟨k,h1,by rw [swp_o X e1 e2];exact h2⟩
 ·rw [swp_at,swp_at] at he
  have:=h _ _ (hk a ha) (hk b hb) he
  clear he hk h
  split at this<;>(try split at this)<;>(try split at this)<;>(try split at this)<;>omega
def Hp (n:Nat) (X:Nat→Se):Prop:= ∀i,0<i→i<n→klt (X i) (X (par i))=false
def HpU (n:Nat) (X:Nat→Se) (a:Nat):Prop:=(∀i,0<i→i<n→i≠a→klt (X i) (X (par i))=false)∧(∀i,0<i→i<n→par i=a→0<a→klt (X i) (X (par a))=false)
def HpD (n:Nat) (X:Nat→Se) (a:Nat):Prop:=(∀i,0<i→i<n→par i≠a→klt (X i) (X (par i))=false)∧(∀i,0<i→i<n→par i=a→0<a→klt (X i) (X (par a))=false)
theorem par_lt {i:Nat} (h:0<i):par i<i:=by unfold par;omega
theorem klt_as {x y:Se} (h:klt x y=true):klt y x=false:=by rw [klt_iff] at h;rw [klt_not];omega
theorem klt_bk {x y z:Se} (h:klt x z=false) (h':klt y z=true):klt x y=false:=by rw [klt_not] at*;rw [klt_iff] at h';omega
theorem klt_nt {x y z:Se} (h:klt x y=false) (h':klt y z=false):klt x z=false:=by rw [klt_not] at*;omega
theorem HpU.step {n:Nat} {X:Nat→Se} {a:Nat} (h:HpU n X a) (ha:0<a) (hn:a<n) (hk:klt (X a) (X (par a))=true):HpU n (swp X a (par a)) (par a):=by
 have hp:=par_lt ha
 refine ⟨fun i h0 hi hne=> ?_,fun i h0 hi he hpa=> ?_⟩
 ·have hpi:=par_lt h0
  by_cases e:i=a
  ·rw [e,swp_l,swp_r]
   exact klt_as hk
  ·rw [swp_o X e hne]
   by_cases e1:par i=a
   ·rw [e1,swp_l]
    exact h.2 i h0 hi e1 ha
   ·by_cases e2:par i=par a
    ·rw [e2,swp_r]
     have:=h.1 i h0 hi e
     rw [e2] at this
     exact klt_bk this hk
    ·rw [swp_o X e1 e2]
     exact h.1 i h0 hi e
 ·have hpp:=par_lt hpa
  have hpi:=par_lt h0
  rw [swp_o X (show par (par a)≠a by omega) (show par (par a)≠par a by omega)]
  by_cases e:i=a
  ·rw [e,swp_l]
   exact h.1 (par a) hpa (by omega) (by omega)
  ·rw [swp_o X e (show i≠par a by omega)]
   have h1:=h.1 i h0 hi e
   rw [he] at h1
   exact klt_nt h1 (h.1 (par a) hpa (by omega) (by omega))
theorem HpU.top {n:Nat} {X:Nat→Se} (h:HpU n X 0):Hp n X:=fun i h0 hi=>h.1 i h0 hi (by omega)
theorem HpU.stop {n:Nat} {X:Nat→Se} {a:Nat} (h:HpU n X a) (hk:klt (X a) (X (par a))=false):Hp n X:=fun i h0 hi=>by
 by_cases e:i=a
 ·rw [e];exact hk
 ·exact h.1 i h0 hi e
theorem par_eq {i a:Nat} (h0:0<i):par i=a↔i=2*a+1∨i=2*a+2:=by unfold par;omega
theorem HpD.step {n:Nat} {X:Nat→Se} {a d:Nat} (h:HpD n X a) (hd:par d=a) (hd0:0<d) (hn:d<n) (hm: ∀i,0<i→i<n→par i=a→klt (X i) (X d)=false) (hk:klt (X d) (X a)=true):HpD n (swp X a d) d:=by
 have hp:=par_lt hd0
 refine ⟨fun i h0 hi hne=> ?_,fun i h0 hi he _=> ?_⟩
 ·have hpi:=par_lt h0
  by_cases e:i=d
  ·rw [e,hd,swp_r,swp_l]
   exact klt_as hk
  ·by_cases e1:i=a
   ·have ha0:0<a:=by omega
    have:=par_lt ha0
    rw [e1,swp_l,swp_o X (show par a≠a by omega) (show par a≠d by omega)]
    exact h.2 d hd0 hn hd ha0
   ·rw [swp_o X e1 e]
    by_cases e2:par i=a
    ·rw [e2,swp_l]
     exact hm i h0 hi e2
    ·rw [swp_o X e2 hne]
     exact h.1 i h0 hi e2
 ·have hpi:=par_lt h0
  rw [hd,swp_l,swp_o X (show i≠a by omega) (show i≠d by omega)]
  have:=h.1 i h0 hi (by omega)
  rwa [he] at this
theorem HpD.none {n:Nat} {X:Nat→Se} {a:Nat} (h:HpD n X a) (hn:n≤2*a+1):Hp n X:=fun i h0 hi=>h.1 i h0 hi fun e=>by
 rw [par_eq h0] at e
 omega
theorem HpD.stop {n:Nat} {X:Nat→Se} {a d:Nat} (h:HpD n X a) (hm: ∀i,0<i→i<n→par i=a→klt (X i) (X d)=false) (hk:klt (X d) (X a)=false):Hp n X:=fun i h0 hi=>by
 by_cases e:par i=a
 ·rw [e]
  exact klt_nt (hm i h0 hi e) hk
 ·exact h.1 i h0 hi e
theorem Hp.least {n:Nat} {X:Nat→Se} (h:Hp n X): ∀i,i<n→klt (X i) (X 0)=false:=by
 intro i
 induction i using Nat.strongRecOn with
 |ind i ih=>
  intro hi
  by_cases h0:i=0
  ·rw [h0];rw [klt_not];omega
  ·have hp:=par_lt (show 0<i by omega)
   exact klt_nt (h i (by omega) hi) (ih (par i) hp (by omega))
theorem pop_d {n:Nat} {X:Nat→Se} (h:Hp (n+1) X):HpD n (setS X 0 (X n)) 0:=⟨fun i h0 hi hne=>by
 have hp:=par_lt h0
 unfold setS
 rw [if_neg (by omega),if_neg hne]
 exact h i h0 (by omega),fun i _ _ _ h0=>absurd h0 (Nat.lt_irrefl _)⟩
theorem pop_set {n:Nat} {X:Nat→Se} (h:Inj (n+1) X) (x:Se):InX n (setS X 0 (X n)) x↔InX (n+1) X x∧x≠X 0:=by
 constructor
 ·rintro ⟨i,hi,he⟩
  unfold setS at he
  by_cases e:i=0
  ·rw [if_pos e] at he
   refine ⟨⟨n,by omega,he⟩,fun e9=> ?_⟩
   have:=h n 0 (by omega) (by omega) (he.trans e9)
   omega
  ·rw [if_neg e] at he
   refine ⟨⟨i,by omega,he⟩,fun e9=>e (h i 0 (by omega) (by omega) (he.trans e9))⟩
 ·rintro ⟨⟨i,hi,he⟩,hne⟩
  have h0:i≠0:=fun e=>hne (by rw [←he,e])
  by_cases e:i=n
  ·exact ⟨0,by omega,by unfold setS;rw [if_pos rfl,←e];exact he⟩
  ·exact ⟨i,by omega,by unfold setS;rw [if_neg h0];exact he⟩
theorem pop_inj {n:Nat} {X:Nat→Se} (h:Inj (n+1) X):Inj n (setS X 0 (X n)):=fun i j hi hj he=>by
 unfold setS at he
 by_cases e1:i=0<;>by_cases e2:j=0
 ·omega
 ·rw [if_pos e1,if_neg e2] at he
  have:=h n j (by omega) (by omega) he
  omega
 ·rw [if_neg e1,if_pos e2] at he
  have:=h i n (by omega) (by omega) he
  omega
 ·rw [if_neg e1,if_neg e2] at he
  exact h i j (by omega) (by omega) he
theorem push_u {n:Nat} {X:Nat→Se} (h:Hp n X) (e:Se):HpU (n+1) (setS X n e) n:=⟨fun i h0 hi hne=>by
 have hp:=par_lt h0
 unfold setS
 rw [if_neg hne,if_neg (by omega)]
 exact h i h0 (by omega),fun i h0 hi he h9=>by have:=par_lt h0;omega⟩
theorem push_set {n:Nat} {X:Nat→Se} {e:Se} (x:Se):InX (n+1) (setS X n e) x↔InX n X x∨x=e:=by
 constructor
 ·rintro ⟨i,hi,he⟩
  unfold setS at he
  by_cases e1:i=n
  ·rw [if_pos e1] at he
   exact .inr he.symm
  ·rw [if_neg e1] at he
   exact .inl ⟨i,by omega,he⟩
 ·rintro (⟨i,hi,he⟩|rfl)
  ·exact ⟨i,by omega,by unfold setS;rw [if_neg (by omega)];exact he⟩
  ·exact ⟨n,by omega,by unfold setS;rw [if_pos rfl]⟩
theorem push_inj {n:Nat} {X:Nat→Se} {e:Se} (h:Inj n X) (hne: ¬InX n X e):Inj (n+1) (setS X n e):=fun i j hi hj he=>by
 unfold setS at he
 by_cases e1:i=n<;>by_cases e2:j=n
 ·omega
 ·rw [if_pos e1,if_neg e2] at he
  exact absurd ⟨j,by omega,he.symm⟩ hne
 ·rw [if_neg e1,if_pos e2] at he
  exact absurd ⟨i,by omega,he⟩ hne
 ·rw [if_neg e1,if_neg e2] at he
  exact h i j (by omega) (by omega) he
end Go.Proofs.YtecgecpgmpmkoaaGreat
namespace Go.Proofs.YtecgecpgmpmkoaaGreat
open Go.ChangeShapes Go.WideShapes Go.ChangeAt Go.RowKit
set_option linter.unusedVariables false
set_option linter.unusedSimpArgs false
variable {base g n cap:Nat} {X:Nat→Se}
set_option maxRecDepth 100000 in
set_option maxHeartbeats 2000000 in
theorem ahead_any (a b:Nat) (ha:a<n) (hb:b<n) (w:World) (h:SRow w base g n cap X):Calls Tryz.prog 180 #[.slice (some ⟨g,0,none⟩) n cap,.int .i64 (a:Int),.int .i64 (b:Int)] w fun e w'=>e=.returned (.bool (klt (X a) (X b)))∧Below w.heap.size w w':=by
 have p0:(0:Int)≤(a:Int):=by omega
 have p1:(a:Int)<(n:Int):=by omega
 have r0:(0:Int)≤(b:Int):=by omega
 have r1:(b:Int)<(n:Int):=by omega
 obtain ⟨a0,a1,a2,a3,a4,a5⟩:=h.cells ha
 obtain ⟨b0,b1,b2,b3,b4,b5⟩:=h.cells hb
 have HC: ∀w',Below w.heap.size w w'→Hid (Calls Tryz.prog 159 #[.agg #[.int .u64 (X a).t,.int .i64 (X a).s,.int .u64 (X a).q],.agg #[.int .u64 (X b).t,.int .i64 (X b).s,.int .u64 (X b).q]] w' fun e w''=>e=.returned (.int .i64 (kc (X a) (X b)))∧Below w'.heap.size w' w''):=fun w' _=>compare_any _ _ _ _ _ _ w'
 have hlt:=h.lt.2
 have KK: ∀w',Below w.heap.size w w'→Hid ((w'.cell? ⟨g,a*6,none⟩=some (.int .u64 (X a).t)∧w'.cell? ⟨g,a*6+1,none⟩=some (.int .i64 (X a).s)∧w'.cell? ⟨g,a*6+2,none⟩=some (.int .u64 (X a).q))∧(w'.cell? ⟨g,b*6,none⟩=some (.int .u64 (X b).t)∧w'.cell? ⟨g,b*6+1,none⟩=some (.int .i64 (X b).s)∧w'.cell? ⟨g,b*6+2,none⟩=some (.int .u64 (X b).q))):=fun w' hb9=>by
  have h9:=SRow.later h hb9
  obtain ⟨a0,a1,a2,a3,a4,a5⟩:=h9.cells ha
  obtain ⟨b0,b1,b2,b3,b4,b5⟩:=h9.cells hb
  exact ⟨⟨a0,a1,a2⟩,b0,b1,b2⟩
 have hbd:Below w.heap.size w w.drew:=(Below.refl _ w).drew
 have KP0:=(KK w.drew hbd).out
 obtain ⟨kb,hkb⟩: ∃kb,klt (X a) (X b)=kb:=⟨_,rfl⟩
 have hdk:decide (kc (X a) (X b)<0)=kb:=hkb
 obtain ⟨kv,hkv⟩: ∃kv,kc (X a) (X b)=kv:=⟨_,rfl⟩
 rw [hkv] at HC hdk
 rw [hkb]
 clear hkb hkv h a3 a4 a5 b3 b4 b5
 go_enter Tryz.func180,Tryz.ntmps180
 go_upto_region 1 with fail
 go_region_held3 (fun w'=>(w'.cell? ⟨g,a*6,none⟩=some (.int .u64 (X a).t)∧w'.cell? ⟨g,a*6+1,none⟩=some (.int .i64 (X a).s)∧w'.cell? ⟨g,a*6+2,none⟩=some (.int .u64 (X a).q))∧(w'.cell? ⟨g,b*6,none⟩=some (.int .u64 (X b).t)∧w'.cell? ⟨g,b*6+1,none⟩=some (.int .i64 (X b).s)∧w'.cell? ⟨g,b*6+2,none⟩=some (.int .u64 (X b).q))) (first|with_reducible exact KP0|with_reducible exact KP1|go_keep) ((go_at_call 159;(with_reducible refine (HC w.drew hbd).out.mono ?_);rintro e w1 ⟨rfl,hb1⟩;have hw1:Below w.heap.size w w1:=hbd.trans (hb1.mono hbd.size);have KP1:=(KK w1 hw1).out))
 all_goals (
  go_wp2_with fail
  go_ret
  exact ⟨rfl,hw1⟩)
set_option maxRecDepth 100000 in
set_option maxHeartbeats 2000000 in
theorem swap_any (p r:Nat) (hp:p<n) (hr:r<n) (hpr:p≠r) (w:World) (h:SRow w base g n cap X):Calls Tryz.prog 181 #[.slice (some ⟨g,0,none⟩) n cap,.int .i64 (p:Int),.int .i64 (r:Int)] w fun e w'=>e=.returned (.tuple #[])∧SRow w' base g n cap (swp X p r)∧Kp g w w':=by
 have p0:(0:Int)≤(p:Int):=by omega
 have p1:(p:Int)<(n:Int):=by omega
 have r0:(0:Int)≤(r:Int):=by omega
 have r1:(r:Int)<(n:Int):=by omega
 obtain ⟨a0,a1,a2,a3,a4,a5⟩:=h.cells hp
 obtain ⟨b0,b1,b2,b3,b4,b5⟩:=h.cells hr
 have fg:=h.fz
 have HR:Hid (SRow w base g n cap X):=h
 clear h
 obtain ⟨Y,hY⟩: ∃Y,X p=Y:=⟨_,rfl⟩
 obtain ⟨Z,hZ⟩: ∃Z,X r=Z:=⟨_,rfl⟩
 have HXY:Hid (X p=Y∧X r=Z):=⟨hY,hZ⟩
 rw [hY] at a0 a1 a2 a3 a4 a5
 rw [hZ] at b0 b1 b2 b3 b4 b5
 clear hY hZ
 have hne: ∀u v,u<6→v<6→p*6+u≠r*6+v:=fun u v _ _=>by omega
 go_enter Tryz.func181,Tryz.ntmps181
 go_region
 all_goals (
  go_wp2_with fail
  go_end0
  first|(with_reducible exact ⟨rfl,swp_row HR.out p r Y Z HXY.out.1 HXY.out.2⟩)|(with_reducible exact ⟨rfl,swp_row' HR.out p r Y Z HXY.out.1 HXY.out.2⟩))
end Go.Proofs.YtecgecpgmpmkoaaGreat
namespace Go.Proofs.YtecgecpgmpmkoaaGreat
open Go.ChangeShapes Go.WideShapes Go.ChangeAt Go.RowKit
set_option linter.unusedVariables false
set_option linter.unusedSimpArgs false
variable {base g n cap:Nat} {X:Nat→Se}
set_option maxRecDepth 100000 in
set_option maxHeartbeats 2000000 in
theorem rise_any (a:Nat) (ha:a<n) (hn:n≤2932031007402) (W:World) (h:SRow W base g n cap X) (hu:HpU n X a):Calls Tryz.prog 157 #[.slice (some ⟨g,0,none⟩) n cap,.int .i64 (a:Int)] W fun e W'=>e=.returned (.tuple #[])∧ ∃Y,SRow W' base g n cap Y∧Hp n Y∧Sam n X Y∧Kp g W W':=by
 have HH:Hid (SRow W base g n cap X∧HpU n X a):=⟨h,hu⟩
 clear h hu
 go_enter Tryz.func157,Tryz.ntmps157
 go_wp2_with fail
 go_loopw [1] (fun x wr=> ∃(k:Nat) (Y:Nat→Se),x=.int .i64 (k:Int)∧k<n∧SRow wr base g n cap Y∧HpU n Y k∧Sam n X Y∧Kp g W wr) (fun x _=>(intOf x).toNat)
 case atStart=>exact ⟨a,X,rfl,ha,HH.out.1,HH.out.2,Sam.refl _ _,Kp.refl _ _⟩
 case round=>
  obtain ⟨k,Y,rfl,hk,hr,hu,hs,hkp⟩:=hrel
  by_cases h0:0<k
  ·have d0:decide ((0:Int)<(k:Int))=true:=by simp;omega
   have d1:decide (0<k)=true:=by simp;omega
   have e1:IntKind.i64.wrap ((k:Int)-1)=((k-1:Nat):Int):=by rw [IntKind.wrap_i64];omega
   have e2:Int.tdiv ((k-1:Nat):Int) 2=(par k:Int):=by unfold par;rw [Int.tdiv_eq_ediv_of_nonneg (by omega)];omega
   have hpl:=par_lt h0
   have e3:IntKind.i64.wrap (par k:Int)=(par k:Int):=by rw [IntKind.wrap_i64];omega
   have HA:=ahead_any k (par k) hk (by omega) wr hr
   have HS: ∀w1,Below wr.heap.size wr w1→Hid (Calls Tryz.prog 181 #[.slice (some ⟨g,0,none⟩) n cap,.int .i64 (k:Int),.int .i64 (par k:Int)] w1 fun e w'=>e=.returned (.tuple #[])∧SRow w' base g n cap (swp Y k (par k))∧Kp g w1 w'):=fun w1 hb=>swap_any k (par k) hk (by omega) (by omega) w1 (SRow.later hr hb)
   have HI:Hid (SRow wr base g n cap Y∧HpU n Y k∧Sam n X Y∧Kp g W wr∧0<k∧k<n):=⟨hr,hu,hs,hkp,h0,hk⟩
   have hm:(intOf (.int .i64 (par k:Int))).toNat<(intOf (.int .i64 (k:Int))).toNat:=by simp only [intOf];omega
   have HPL:Hid (par k<n):=by show par k<n;omega
   obtain ⟨q,hq⟩: ∃q,par k=q:=⟨_,rfl⟩
   rw [hq] at e2 e3 HA HS hm HPL
   have HQ:Hid (par k=q):=hq
   clear hr hu hs hkp hq hpl
   by_cases hkl:klt (Y k) (Y q)=true
   ·rw [hkl] at HA
    have HKL:Hid (klt (Y k) (Y q)=true):=hkl
    clear hkl
    go_wp2_with (first|(go_at_call 180;(with_reducible refine HA.mono ?_);rintro e w1 ⟨rfl,hb1⟩)|(go_at_call 181;(with_reducible refine (HS w1 hb1).out.mono ?_);rintro e w2 ⟨rfl,hs2,hk2⟩))
    obtain ⟨i1,i2,i3,i4,i5,i6⟩:=HI.out
    have hq:=HQ.out
    subst hq
    refine ⟨⟨par k,swp Y k (par k),rfl,HPL.out,hs2,i2.step i5 i6 HKL.out,i3.trans (Sam.swap i6 HPL.out),i4.trans ((Kp.below hb1).trans hk2)⟩,hm⟩
   ·have hkl':klt (Y k) (Y q)=false:=by simpa using hkl
    rw [hkl'] at HA
    have HKL:Hid (klt (Y k) (Y q)=false):=hkl'
    clear hkl hkl'
    go_wp2_with (go_at_call 180;(with_reducible refine HA.mono ?_);rintro e w1 ⟨rfl,hb1⟩)
    obtain ⟨i1,i2,i3,i4,i5,i6⟩:=HI.out
    have hq:=HQ.out
    subst hq
    refine bodyPost_ret (results_none rfl _ _ _) rfl ?_
    exact ⟨rfl,Y,SRow.later i1 hb1,i2.stop HKL.out,i3,i4.trans (Kp.below hb1)⟩
  ·have d0:decide ((0:Int)<(k:Int))=false:=by simp;omega
   have d1:decide (0<k)=false:=by simp;omega
   obtain rfl:k=0:=by omega
   have HI:Hid (SRow wr base g n cap Y∧HpU n Y 0∧Sam n X Y∧Kp g W wr):=⟨hr,hu,hs,hkp⟩
   clear hr hu hs hkp
   go_wp2_with fail
   go_end0
   obtain ⟨i1,i2,i3,i4⟩:=HI.out
   exact ⟨rfl,Y,i1,i2.top,i3,i4⟩
set_option maxRecDepth 100000 in
set_option maxHeartbeats 4000000 in
theorem sink_any (hn:n≤2932031007402) (W:World) (h:SRow W base g n cap X) (hu:HpD n X 0):Calls Tryz.prog 156 #[.slice (some ⟨g,0,none⟩) n cap,.int .i64 0] W fun e W'=>e=.returned (.tuple #[])∧ ∃Y,SRow W' base g n cap Y∧Hp n Y∧Sam n X Y∧Kp g W W':=by
 have HH:Hid (SRow W base g n cap X∧HpD n X 0):=⟨h,hu⟩
 have HN0:Hid (n≤2932031007402):=hn
 clear h hu hn
 go_enter Tryz.func156,Tryz.ntmps156
 go_wp2_with fail
 go_loopw [1] (fun x wr=> ∃(k:Nat) (Y:Nat→Se),x=.int .i64 (k:Int)∧k≤n∧SRow wr base g n cap Y∧HpD n Y k∧Sam n X Y∧Kp g W wr) (fun x _=>n-(intOf x).toNat)
 case atStart=>exact ⟨0,X,rfl,Nat.zero_le _,HH.out.1,HH.out.2,Sam.refl _ _,Kp.refl _ _⟩
 case round=>
  obtain ⟨k,Y,rfl,hk,hr,hu,hs,hkp⟩:=hrel
  have hn:=HN0.out
  obtain ⟨m,hm⟩: ∃m,2*k=m:=⟨_,rfl⟩
  obtain ⟨d,hd⟩: ∃d,2*k+1=d:=⟨_,rfl⟩
  have e1:IntKind.i64.wrap (2*(k:Int))=(m:Int):=by rw [IntKind.wrap_i64];omega
  have e2:IntKind.i64.wrap ((m:Int)+1)=(d:Int):=by rw [IntKind.wrap_i64];omega
  clear hm
  have HI:Hid (SRow wr base g n cap Y∧HpD n Y k∧Sam n X Y∧Kp g W wr):=⟨hr,hu,hs,hkp⟩
  have HD:Hid (2*k+1=d):=hd
  by_cases h1:d<n
  case neg=>
   have d1:decide ((n:Int)≤(d:Int))=true:=by simp;omega
   have d2:decide (n≤d)=true:=by simp;omega
   have HN:Hid (n≤2*k+1):=by show n≤2*k+1;omega
   clear hr hu hs hkp hd h1 hn hk
   go_wp2_with fail
   refine bodyPost_ret (results_none rfl _ _ _) rfl ?_
   obtain ⟨i1,i2,i3,i4⟩:=HI.out
   exact ⟨rfl,Y,i1,i2.none HN.out,i3,i4⟩
  have d1:decide ((n:Int)≤(d:Int))=false:=by simp;omega
  have d2:decide (n≤d)=false:=by simp;omega
  obtain ⟨o,ho⟩: ∃o,d+1=o:=⟨_,rfl⟩
  have e3:IntKind.i64.wrap ((d:Int)+1)=(o:Int):=by rw [IntKind.wrap_i64];omega
  have HO:Hid (d+1=o∧d<n):=⟨ho,h1⟩
  have HA1:o<n→Hid (Calls Tryz.prog 180 #[.slice (some ⟨g,0,none⟩) n cap,.int .i64 (o:Int),.int .i64 (d:Int)] wr fun e w'=>e=.returned (.bool (klt (Y o) (Y d)))∧Below wr.heap.size wr w'):=fun h2=>ahead_any o d h2 h1 wr hr
  have HA2: ∀c,c<n→k<n→ ∀w1,Below wr.heap.size wr w1→Hid (Calls Tryz.prog 180 #[.slice (some ⟨g,0,none⟩) n cap,.int .i64 (c:Int),.int .i64 (k:Int)] w1 fun e w'=>e=.returned (.bool (klt (Y c) (Y k)))∧Below w1.heap.size w1 w'):=fun c hc hk2 w1 hb=>ahead_any c k hc hk2 w1 (SRow.later hr hb)
  have HS: ∀c,c<n→k<n→k≠c→ ∀w1,Below wr.heap.size wr w1→Hid (Calls Tryz.prog 181 #[.slice (some ⟨g,0,none⟩) n cap,.int .i64 (k:Int),.int .i64 (c:Int)] w1 fun e w'=>e=.returned (.tuple #[])∧SRow w' base g n cap (swp Y k c)∧Kp g w1 w'):=fun c hc hk2 hne w1 hb=>swap_any k c hk2 hc hne w1 (SRow.later hr hb)
  have hkn:k<n:=by omega
  have HFIN: ∀c,Hid ((c=d∨c=o)→c<n→(∀i,0<i→i<n→par i=k→klt (Y i) (Y c)=false)→klt (Y c) (Y k)=true→ ∀w1 w2,Below wr.heap.size wr w1→SRow w2 base g n cap (swp Y k c)→Kp g w1 w2→(∃(k9:Nat) (Y9:Nat→Se),Value.int .i64 (c:Int)=.int .i64 (k9:Int)∧k9≤n∧SRow w2 base g n cap Y9∧HpD n Y9 k9∧Sam n X Y9∧Kp g W w2)∧n-(intOf (.int .i64 (c:Int))).toNat<n-(intOf (.int .i64 (k:Int))).toNat):=fun c hc hcn hmin hkl w1 w2 hb1 hs2 hk2=>by
   have hd0:0<c:=by omega
   have hpc:par c=k:=by rw [par_eq hd0];omega
   refine ⟨⟨c,swp Y k c,rfl,by omega,hs2,hu.step hpc hd0 hcn hmin hkl,hs.trans (Sam.swap hkn hcn),hkp.trans ((Kp.below hb1).trans hk2)⟩,?_⟩
   simp only [intOf]
   omega
  have HEND: ∀c,Hid ((∀i,0<i→i<n→par i=k→klt (Y i) (Y c)=false)→klt (Y c) (Y k)=false→Hp n Y):=fun c hm hk9=>hu.stop hm hk9
  have HMO:Hid (o<n→klt (Y o) (Y d)=true→ ∀i,0<i→i<n→par i=k→klt (Y i) (Y o)=false):=fun _ hko i h0 hi he=>by
   rw [par_eq h0] at he
   rcases he with e|e
   ·rw [show i=d by omega];exact klt_as hko
   ·rw [show i=o by omega];rw [klt_not];omega
  have HMD:Hid ((o<n→klt (Y o) (Y d)=false)→ ∀i,0<i→i<n→par i=k→klt (Y i) (Y d)=false):=fun hko i h0 hi he=>by
   rw [par_eq h0] at he
   rcases he with e|e
   ·rw [show i=d by omega];rw [klt_not];omega
   ·rw [show i=o by omega];exact hko (by omega)
  have HNE:Hid (k≠d∧k≠o):=⟨by omega,by omega⟩
  have HKN:Hid (k<n):=hkn
  clear hr hu hs hkp hd ho hn hk
  by_cases h2:o<n∧klt (Y o) (Y d)=true
  ·obtain ⟨h2,hko⟩:=h2
   have o1:decide ((o:Int)<(n:Int))=true:=by simp;omega
   have o2:decide (o<n)=true:=by simp;omega
   have HB1:=(HA1 h2).out
   rw [hko] at HB1
   have HB2:=HA2 o h2 hkn
   have HB3:=HS o h2 hkn HNE.out.2
   have HM:=HMO.out h2 hko
   have HMH:Hid (∀i,0<i→i<n→par i=k→klt (Y i) (Y o)=false):=HM
   clear HA1 HA2 HS HMO HMD hko HM h1 hkn
   by_cases hkl:klt (Y o) (Y k)=true
   ·rw [hkl] at HB2
    have HKL:Hid (klt (Y o) (Y k)=true∧o<n):=⟨hkl,h2⟩
    clear hkl h2
    go_wp2_with (first|(go_at_call 180;(with_reducible refine HB1.mono ?_);rintro e w1 ⟨rfl,hb1⟩)|(go_at_call 180;(with_reducible refine (HB2 w1 hb1).out.mono ?_);rintro e w2 ⟨rfl,hb2⟩;have hb12:Below wr.heap.size wr w2:=hb1.trans (hb2.mono hb1.size))|(go_at_call 181;(with_reducible refine (HB3 w2 hb12).out.mono ?_);rintro e w3 ⟨rfl,hs3,hk3⟩))
    exact (HFIN o).out (.inr rfl) HKL.out.2 HMH.out HKL.out.1 w2 w3 hb12 hs3 hk3
   ·have hkl':klt (Y o) (Y k)=false:=by simpa using hkl
    rw [hkl'] at HB2
    have HKL:Hid (klt (Y o) (Y k)=false):=hkl'
    clear hkl hkl' h2
    go_wp2_with (first|(go_at_call 180;(with_reducible refine HB1.mono ?_);rintro e w1 ⟨rfl,hb1⟩)|(go_at_call 180;(with_reducible refine (HB2 w1 hb1).out.mono ?_);rintro e w2 ⟨rfl,hb2⟩;have hb12:Below wr.heap.size wr w2:=hb1.trans (hb2.mono hb1.size)))
    refine bodyPost_ret (results_none rfl _ _ _) rfl ?_
    obtain ⟨i1,i2,i3,i4⟩:=HI.out
    exact ⟨rfl,Y,SRow.later i1 hb12,(HEND o).out HMH.out HKL.out,i3,i4.trans (Kp.below hb12)⟩
  ·have hnd:o<n→klt (Y o) (Y d)=false:=fun h=>by
    cases e:klt (Y o) (Y d)
    ·rfl
    ·exact absurd ⟨h,e⟩ h2
   have HMH:Hid (∀i,0<i→i<n→par i=k→klt (Y i) (Y d)=false):=HMD.out hnd
   have HB2:=HA2 d h1 hkn
   have HB3:=HS d h1 hkn HNE.out.1
   have HDN:Hid (d<n):=h1
   clear HA2 HS HMO HMD h2 h1 hkn
   by_cases h3:o<n
   ·have o1:decide ((o:Int)<(n:Int))=true:=by simp;omega
    have o2:decide (o<n)=true:=by simp;omega
    have HB1:=(HA1 h3).out
    rw [hnd h3] at HB1
    clear HA1 hnd h3
    by_cases hkl:klt (Y d) (Y k)=true
    ·rw [hkl] at HB2
     have HKL:Hid (klt (Y d) (Y k)=true):=hkl
     clear hkl
     go_wp2_with (first|(go_at_call 180;(with_reducible refine HB1.mono ?_);rintro e w1 ⟨rfl,hb1⟩)|(go_at_call 180;(with_reducible refine (HB2 w1 hb1).out.mono ?_);rintro e w2 ⟨rfl,hb2⟩;have hb12:Below wr.heap.size wr w2:=hb1.trans (hb2.mono hb1.size))|(go_at_call 181;(with_reducible refine (HB3 w2 hb12).out.mono ?_);rintro e w3 ⟨rfl,hs3,hk3⟩))
     exact (HFIN d).out (.inl rfl) HDN.out HMH.out HKL.out w2 w3 hb12 hs3 hk3
    ·have hkl':klt (Y d) (Y k)=false:=by simpa using hkl
     rw [hkl'] at HB2
     have HKL:Hid (klt (Y d) (Y k)=false):=hkl'
     clear hkl hkl'
     go_wp2_with (first|(go_at_call 180;(with_reducible refine HB1.mono ?_);rintro e w1 ⟨rfl,hb1⟩)|(go_at_call 180;(with_reducible refine (HB2 w1 hb1).out.mono ?_);rintro e w2 ⟨rfl,hb2⟩;have hb12:Below wr.heap.size wr w2:=hb1.trans (hb2.mono hb1.size)))
     refine bodyPost_ret (results_none rfl _ _ _) rfl ?_
     obtain ⟨i1,i2,i3,i4⟩:=HI.out
     exact ⟨rfl,Y,SRow.later i1 hb12,(HEND d).out HMH.out HKL.out,i3,i4.trans (Kp.below hb12)⟩
   ·have o1:decide ((o:Int)<(n:Int))=false:=by simp;omega
    have o2:decide (o<n)=false:=by simp;omega
    have hb0:Below wr.heap.size wr wr:=Below.refl _ _
    clear HA1 hnd h3
    by_cases hkl:klt (Y d) (Y k)=true
    ·rw [hkl] at HB2
     have HKL:Hid (klt (Y d) (Y k)=true):=hkl
     clear hkl
     go_wp2_with (first|(go_at_call 180;(with_reducible refine (HB2 wr hb0).out.mono ?_);rintro e w2 ⟨rfl,hb12⟩)|(go_at_call 181;(with_reducible refine (HB3 w2 hb12).out.mono ?_);rintro e w3 ⟨rfl,hs3,hk3⟩))
     exact (HFIN d).out (.inl rfl) HDN.out HMH.out HKL.out w2 w3 hb12 hs3 hk3
    ·have hkl':klt (Y d) (Y k)=false:=by simpa using hkl
     rw [hkl'] at HB2
     have HKL:Hid (klt (Y d) (Y k)=false):=hkl'
     clear hkl hkl'
     go_wp2_with (go_at_call 180;(with_reducible refine (HB2 wr hb0).out.mono ?_);rintro e w2 ⟨rfl,hb12⟩)
     refine bodyPost_ret (results_none rfl _ _ _) rfl ?_
     obtain ⟨i1,i2,i3,i4⟩:=HI.out
     exact ⟨rfl,Y,SRow.later i1 hb12,(HEND d).out HMH.out HKL.out,i3,i4.trans (Kp.below hb12)⟩
end Go.Proofs.YtecgecpgmpmkoaaGreat
