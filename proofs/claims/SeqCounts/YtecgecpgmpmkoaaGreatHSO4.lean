import Derived.Test.YtecgecpgmpmkoaaGreatHQ0
import Derived.Test.YtecgecpgmpmkoaaGreatHSO2
import Derived.Deep.RegionLaw
import Derived.Deep.RegionHeld3
import Derived.Deep.Cut
import Derived.Deep.DeepCutAuto
import Derived.Deep.CutBlock
import Derived.Deep.CutRange
import Derived.Handy
namespace Go.Proofs.YtecgecpgmpmkoaaGreat
open Go.ChangeShapes Go.WideShapes Go.ChangeAt Go.RowKit
set_option linter.unusedVariables false
set_option linter.unusedSimpArgs false
structure Se where
 t:Int
 s:Int
 q:Int
 d:Int
 k:Int
 v:Int
def seL (e:Se):List Value:= [.int .u64 e.t,.int .i64 e.s,.int .u64 e.q,.int .i64 e.d,.int .i64 e.k,.int .i64 e.v]
def seC (e:Se) (r:Nat):Value:=(seL e).getD r undef
def seF (c:Nat→Se) (j:Nat):Value:=seC (c (j / 6)) (j % 6)
theorem seF_at (c:Nat→Se) (i r:Nat) (h:r<6):seF c (i*6+r)=seC (c i) r:=by
 unfold seF
 rw [show (i*6+r) / 6=i by omega,show (i*6+r) % 6=r by omega]
def kc (x y:Se):Int:=keyCmp x.t x.s x.q y.t y.s y.q
def klt (x y:Se):Bool:=decide (kc x y<0)
theorem cmpN_lt (x y:Int):cmpN x y<0↔x<y:=by unfold cmpN;split<;>(try split)<;>omega
theorem cmpN_z (x y:Int):cmpN x y=0↔x=y:=by unfold cmpN;split<;>(try split)<;>omega
theorem klt_iff (x y:Se):klt x y=true↔x.t<y.t∨(x.t=y.t∧(x.s<y.s∨(x.s=y.s∧x.q<y.q))):=by
 unfold klt kc keyCmp orN
 rw [decide_eq_true_iff]
 have a1:=cmpN_lt x.t y.t
 have a2:=cmpN_z x.t y.t
 have a3:=cmpN_lt x.s y.s
 have a4:=cmpN_z x.s y.s
 have a5:=cmpN_lt x.q y.q
 by_cases h1:cmpN x.t y.t=0
 ·rw [if_pos h1]
  by_cases h2:cmpN x.s y.s=0
  ·rw [if_pos h2];omega
  ·rw [if_neg h2];omega
 ·rw [if_neg h1];omega
theorem klt_not (x y:Se):klt x y=false↔ ¬(x.t<y.t∨(x.t=y.t∧(x.s<y.s∨(x.s=y.s∧x.q<y.q)))):=by
 rw [←klt_iff]
 simp
theorem klt_ord:SOrd klt where
 irr x:=by rw [klt_not];omega
 tr x y z h1 h2:=by rw [klt_iff] at*;omega
 ntr x y z h1 h2:=by rw [klt_not] at*;omega
structure Kp (g:Nat) (W W':World):Prop where
 os:W'.os=W.os
 tape:W'.tape=W.tape
 output:W'.output=W.output
 size:W.heap.size≤W'.heap.size
 block: ∀k,k<W.heap.size→k≠g→W'.heap[k]? =W.heap[k]?
theorem Kp.refl (g:Nat) (W:World):Kp g W W:=⟨rfl,rfl,rfl,Nat.le_refl _,fun _ _ _=>rfl⟩
theorem Kp.trans {g:Nat} {a b c:World} (h:Kp g a b) (h':Kp g b c):Kp g a c:=⟨h'.os.trans h.os,h'.tape.trans h.tape,h'.output.trans h.output,Nat.le_trans h.size h'.size,fun k hk hs=>(h'.block k (Nat.lt_of_lt_of_le hk h.size) hs).trans (h.block k hk hs)⟩
theorem Kp.below {g:Nat} {W W':World} (h:Below W.heap.size W W'):Kp g W W':=⟨h.os,h.tape,h.output,h.size,fun k hk _=>h.block k hk⟩
theorem Kp.set (g k:Nat) (W:World) (v:Value):Kp g W (W.setCell ⟨g,k,none⟩ v):=⟨rfl,rfl,rfl,by simp [World.setCell],fun j _ hs=>Below.heap_setCell _ _ _ _ hs⟩
theorem Kp.sets (g o:Nat) (W:World) (vs:List Value):Kp g W (W.setCells g o vs):=by
 induction vs generalizing W o with
 |nil=>exact Kp.refl _ _
 |cons v vs ih=>exact (Kp.set g o W v).trans (ih (o+1) (W.setCell ⟨g,o,none⟩ v))
theorem Kp.toBelow {g B:Nat} {W W':World} (h:Kp g W W') (h1:B≤W.heap.size) (h2:B≤g):Below B W W':=⟨h.os,h.tape,h.output,h.size,fun k hk=>h.block k (by omega) (by omega)⟩
theorem drewS (w:World):Below w.heap.size w w.drew:=⟨rfl,rfl,rfl,Nat.le_refl _,fun _ _=>rfl⟩
def SRow (W:World) (base g n cap:Nat) (c:Nat→Se):Prop:=Own W base 54 6 (.slice (some ⟨g,0,none⟩) n cap) n (seF c)
variable {W W':World} {base g n cap:Nat} {c d:Nat→Se}
theorem SRow.later (h:SRow W base g n cap c) (hb:Below W.heap.size W W'):SRow W' base g n cap c:=Own.later h hb
theorem SRow.lt (h:SRow W base g n cap c):base≤g∧g<W.heap.size:=Own.lt h g rfl
theorem SRow.cells (h:SRow W base g n cap c) {i:Nat} (hi:i<n):W.cell? ⟨g,i*6,none⟩=some (.int .u64 (c i).t)∧W.cell? ⟨g,i*6+1,none⟩=some (.int .i64 (c i).s)∧W.cell? ⟨g,i*6+2,none⟩=some (.int .u64 (c i).q)∧W.cell? ⟨g,i*6+3,none⟩=some (.int .i64 (c i).d)∧W.cell? ⟨g,i*6+4,none⟩=some (.int .i64 (c i).k)∧W.cell? ⟨g,i*6+5,none⟩=some (.int .i64 (c i).v):=by
 have hh: ∀r,r<6→W.cell? ⟨g,i*6+r,none⟩=some (seC (c i) r):=fun r hr=>by rw [Own.cell h (j:=i*6+r) (by omega),seF_at _ _ _ hr]
 exact ⟨hh 0 (by decide),hh 1 (by decide),hh 2 (by decide),hh 3 (by decide),hh 4 (by decide),hh 5 (by decide)⟩
theorem SRow.fz (h:SRow W base g n cap c) (k:Nat):W.frozen? ⟨g,k,none⟩=false:=by
 obtain ⟨cur,h1,_⟩:=Own.block h
 simp [World.frozen?,h1]
def setS {β:Type} (c:Nat→β) (i:Nat) (e:β):Nat→β:=fun j=>if j=i then e else c j
theorem SRow.put (h:SRow W base g n cap c) (i:Nat) (e:Se):SRow (W.setCells g (i*6) (seL e)) base g n cap (setS c i e):=by
 refine Own.congr (Own.put h (i*6) (seL e)) fun j hj=> ?_
 have hl:(seL e).length=6:=rfl
 unfold putF
 by_cases x:i*6≤j∧j<i*6+(seL e).length
 ·rw [if_pos x]
  obtain ⟨r,rfl⟩: ∃r,j=i*6+r:=⟨j-i*6,by omega⟩
  rw [seF_at _ _ _ (by omega),show i*6+r-i*6=r by omega]
  unfold setS
  rw [if_pos rfl]
  rfl
 ·rw [if_neg x]
  unfold seF setS
  rw [if_neg (by omega)]
theorem swp_sets (c:Nat→Se) (i j:Nat):setS (setS c i (c j)) j (c i)=swp c i j:=by
 funext k
 unfold setS swp
 by_cases e1:k=j
 ·rw [if_pos e1]
  by_cases e2:k=i
  ·rw [if_pos e2,←e1,←e2]
  ·rw [if_neg e2,if_pos e1]
 ·rw [if_neg e1]
  by_cases e2:k=i
  ·rw [if_pos e2,if_pos e2]
  ·rw [if_neg e2,if_neg e2,if_neg e1]
theorem swp_sets' (c:Nat→Se) (i j:Nat):setS (setS c j (c i)) i (c j)=swp c i j:=by
 funext k
 unfold setS swp
 by_cases e1:k=i
 ·rw [if_pos e1]
 ·rw [if_neg e1]
set_option maxRecDepth 100000 in
theorem cev_any (x y:Se) (w:World):Calls Tryz.prog 115 #[.agg #[.int .u64 x.t,.int .i64 x.s,.int .u64 x.q,.int .i64 x.d,.int .i64 x.k,.int .i64 x.v],.agg #[.int .u64 y.t,.int .i64 y.s,.int .u64 y.q,.int .i64 y.d,.int .i64 y.k,.int .i64 y.v]] w fun e w'=>e=.returned (.int .i64 (kc x y))∧Below w.heap.size w w':=by
 unfold kc
 have HC:=fun w'=>compare_any x.t x.s x.q y.t y.s y.q w'
 generalize keyCmp x.t x.s x.q y.t y.s y.q=r at*
 go_enter Tryz.func115,Tryz.ntmps115
 go_wp2_with (go_at_call 159;(with_reducible refine (HC _).mono ?_);rintro e w1 ⟨rfl,hb⟩)
 go_ret
 refine ⟨rfl,Below.trans (b:=(w.alloc _).alloc _) ?_ (hb.mono (by simp [World.size_alloc];omega))⟩
 exact ((Below.refl _ w).alloc (Nat.le_refl _) _).alloc (by simp [World.size_alloc]) _
end Go.Proofs.YtecgecpgmpmkoaaGreat
namespace Go.Proofs.YtecgecpgmpmkoaaGreat
open Go.ChangeShapes Go.WideShapes Go.ChangeAt Go.RowKit
set_option linter.unusedVariables false
set_option linter.unusedSimpArgs false
variable {base g n cap:Nat} {c:Nat→Se}
theorem smeas {n k:Nat} (h:k<n):n-(intOf (.int .i64 ((k:Int)+1))).toNat<n-(intOf (.int .i64 (k:Int))).toNat:=by
 simp only [intOf]
 omega
theorem swp_row {W:World} {d:Nat→Se} (h:SRow W base g n cap d) (p r:Nat) (X Y:Se) (hX:d p=X) (hY:d r=Y):SRow ((((((((((((((W).setCell ⟨g,p*6,none⟩ (.int .u64 Y.t)).setCell ⟨g,p*6+1,none⟩ (.int .i64 Y.s)).setCell ⟨g,p*6+2,none⟩ (.int .u64 Y.q)).setCell ⟨g,p*6+3,none⟩ (.int .i64 Y.d)).setCell ⟨g,p*6+4,none⟩ (.int .i64 Y.k)).setCell ⟨g,p*6+5,none⟩ (.int .i64 Y.v)).setCell ⟨g,r*6,none⟩ (.int .u64 X.t)).setCell ⟨g,r*6+1,none⟩ (.int .i64 X.s)).setCell ⟨g,r*6+2,none⟩ (.int .u64 X.q)).setCell ⟨g,r*6+3,none⟩ (.int .i64 X.d)).setCell ⟨g,r*6+4,none⟩ (.int .i64 X.k)).setCell ⟨g,r*6+5,none⟩ (.int .i64 X.v)).drew) base g n cap (swp d p r)∧Kp g W ((((((((((((((W).setCell ⟨g,p*6,none⟩ (.int .u64 Y.t)).setCell ⟨g,p*6+1,none⟩ (.int .i64 Y.s)).setCell ⟨g,p*6+2,none⟩ (.int .u64 Y.q)).setCell ⟨g,p*6+3,none⟩ (.int .i64 Y.d)).setCell ⟨g,p*6+4,none⟩ (.int .i64 Y.k)).setCell ⟨g,p*6+5,none⟩ (.int .i64 Y.v)).setCell ⟨g,r*6,none⟩ (.int .u64 X.t)).setCell ⟨g,r*6+1,none⟩ (.int .i64 X.s)).setCell ⟨g,r*6+2,none⟩ (.int .u64 X.q)).setCell ⟨g,r*6+3,none⟩ (.int .i64 X.d)).setCell ⟨g,r*6+4,none⟩ (.int .i64 X.k)).setCell ⟨g,r*6+5,none⟩ (.int .i64 X.v)).drew):=by
 subst hX hY
 have h1:=(h.put p (d r)).put r (d p)
 rw [swp_sets] at h1
 exact ⟨SRow.later h1 (drewS _),((Kp.sets g (p*6) W (seL (d r))).trans (Kp.sets g (r*6) _ (seL (d p)))).trans (Kp.below (drewS _))⟩
theorem swp_row' {W:World} {d:Nat→Se} (h:SRow W base g n cap d) (p r:Nat) (X Y:Se) (hX:d p=X) (hY:d r=Y):SRow ((((((((((((((W).setCell ⟨g,r*6,none⟩ (.int .u64 X.t)).setCell ⟨g,r*6+1,none⟩ (.int .i64 X.s)).setCell ⟨g,r*6+2,none⟩ (.int .u64 X.q)).setCell ⟨g,r*6+3,none⟩ (.int .i64 X.d)).setCell ⟨g,r*6+4,none⟩ (.int .i64 X.k)).setCell ⟨g,r*6+5,none⟩ (.int .i64 X.v)).setCell ⟨g,p*6,none⟩ (.int .u64 Y.t)).setCell ⟨g,p*6+1,none⟩ (.int .i64 Y.s)).setCell ⟨g,p*6+2,none⟩ (.int .u64 Y.q)).setCell ⟨g,p*6+3,none⟩ (.int .i64 Y.d)).setCell ⟨g,p*6+4,none⟩ (.int .i64 Y.k)).setCell ⟨g,p*6+5,none⟩ (.int .i64 Y.v)).drew) base g n cap (swp d p r)∧Kp g W ((((((((((((((W).setCell ⟨g,r*6,none⟩ (.int .u64 X.t)).setCell ⟨g,r*6+1,none⟩ (.int .i64 X.s)).setCell ⟨g,r*6+2,none⟩ (.int .u64 X.q)).setCell ⟨g,r*6+3,none⟩ (.int .i64 X.d)).setCell ⟨g,r*6+4,none⟩ (.int .i64 X.k)).setCell ⟨g,r*6+5,none⟩ (.int .i64 X.v)).setCell ⟨g,p*6,none⟩ (.int .u64 Y.t)).setCell ⟨g,p*6+1,none⟩ (.int .i64 Y.s)).setCell ⟨g,p*6+2,none⟩ (.int .u64 Y.q)).setCell ⟨g,p*6+3,none⟩ (.int .i64 Y.d)).setCell ⟨g,p*6+4,none⟩ (.int .i64 Y.k)).setCell ⟨g,p*6+5,none⟩ (.int .i64 Y.v)).drew):=by
 subst hX hY
 have h1:=(h.put r (d p)).put p (d r)
 rw [swp_sets'] at h1
 exact ⟨SRow.later h1 (drewS _),((Kp.sets g (r*6) W (seL (d p))).trans (Kp.sets g (p*6) _ (seL (d r)))).trans (Kp.below (drewS _))⟩
set_option maxRecDepth 100000 in
set_option maxHeartbeats 1000000 in
theorem swr_any (fv:Value) (x y k:Nat) (hx:x+k≤y) (hy:y+k≤n) (hn:n≤2932031007402) (W:World) (h:SRow W base g n cap c):Calls Tryz.prog 229 #[.slice (some ⟨g,0,none⟩) n cap,.int .i64 (x:Int),.int .i64 (y:Int),.int .i64 (k:Int),fv] W fun e W'=>e=.returned (.tuple #[])∧SRow W' base g n cap (swpR c x y k)∧Kp g W W':=by
 have HH:Hid (SRow W base g n cap c):=h
 clear h
 go_enter Tryz.func229,Tryz.ntmps229
 go_wp2_with fail
 go_loopw [10] (fun z wr=> ∃i:Nat,z=.int .i64 (i:Int)∧i≤k∧SRow wr base g n cap (swpR c x y i)∧Kp g W wr) (fun z _=>k-(intOf z).toNat)
 case atStart=>exact ⟨0,rfl,Nat.zero_le _,by rw [swpR_zero];exact HH.out,Kp.refl _ _⟩
 case round=>
  obtain ⟨i,rfl,hik,hr,hkp⟩:=hrel
  by_cases hlt:i<k
  ·have dl:decide ((i:Int)<(k:Int))=true:=by simp;omega
   have hm:=smeas hlt
   have e1:IntKind.i64.wrap ((x:Int)+(i:Int))=((x+i:Nat):Int):=by rw [IntKind.wrap_i64];omega
   have e2:IntKind.i64.wrap ((y:Int)+(i:Int))=((y+i:Nat):Int):=by rw [IntKind.wrap_i64];omega
   have e3:IntKind.i64.wrap ((i:Int)+1)=(i:Int)+1:=by rw [IntKind.wrap_i64];omega
   obtain ⟨p,hp⟩: ∃p,x+i=p:=⟨_,rfl⟩
   obtain ⟨r,hr'⟩: ∃r,y+i=r:=⟨_,rfl⟩
   have HPR:Hid (x+i=p∧y+i=r):=⟨hp,hr'⟩
   rw [hp] at e1
   rw [hr'] at e2
   have p0:(0:Int)≤(p:Int):=by omega
   have p1:(p:Int)<(n:Int):=by omega
   have r0:(0:Int)≤(r:Int):=by omega
   have r1:(r:Int)<(n:Int):=by omega
   have hpr:p<r:=by omega
   obtain ⟨a0,a1,a2,a3,a4,a5⟩:=hr.cells (i:=p) (by omega)
   obtain ⟨b0,b1,b2,b3,b4,b5⟩:=hr.cells (i:=r) (by omega)
   have fg:=hr.fz
   have HR:Hid (SRow wr base g n cap (swpR c x y i)):=hr
   have HK:Hid (Kp g W wr):=hkp
   clear hr hkp hp hr'
   obtain ⟨X,hX⟩: ∃X,swpR c x y i p=X:=⟨_,rfl⟩
   obtain ⟨Y,hY⟩: ∃Y,swpR c x y i r=Y:=⟨_,rfl⟩
   have HXY:Hid (swpR c x y i p=X∧swpR c x y i r=Y):=⟨hX,hY⟩
   rw [hX] at a0 a1 a2 a3 a4 a5
   rw [hY] at b0 b1 b2 b3 b4 b5
   clear hX hY
   have hne: ∀u v,u<6→v<6→p*6+u≠r*6+v:=fun u v _ _=>by omega
   go_upto_region 3 with fail
   go_region
   all_goals (
    go_wp2_with fail
    refine ⟨⟨i+1,rfl,hlt,?_⟩,hm⟩
    rw [swpR_succ _ _ _ _ (by omega),HPR.out.1,HPR.out.2]
    first|(with_reducible refine (swp_row HR.out p r X Y HXY.out.1 HXY.out.2).imp id fun z=>HK.out.trans z)|(with_reducible refine (swp_row' HR.out p r X Y HXY.out.1 HXY.out.2).imp id fun z=>HK.out.trans z))
  ·have dl:decide ((i:Int)<(k:Int))=false:=by simp;omega
   obtain rfl:i=k:=by omega
   go_wp2_with fail
   go_end0
   exact ⟨rfl,hr,hkp⟩
set_option maxRecDepth 100000 in
set_option maxHeartbeats 1000000 in
theorem rot_any (fv:Value) (a m b:Nat) (ha:a<m) (hb:m<b) (hbn:b≤n) (hn:n≤2932031007402) (W:World) (h:SRow W base g n cap c):Calls Tryz.prog 223 #[.slice (some ⟨g,0,none⟩) n cap,.int .i64 (a:Int),.int .i64 (m:Int),.int .i64 (b:Int),fv] W fun e W'=>e=.returned (.tuple #[])∧SRow W' base g n cap (rotF c a m b)∧Kp g W W':=by
 have HH:Hid (SRow W base g n cap c):=h
 have e1:IntKind.i64.wrap ((m:Int)-(a:Int))=((m-a:Nat):Int):=by rw [IntKind.wrap_i64];omega
 have e2:IntKind.i64.wrap ((b:Int)-(m:Int))=((b-m:Nat):Int):=by rw [IntKind.wrap_i64];omega
 clear h
 go_enter Tryz.func223,Tryz.ntmps223
 go_wp2_with fail
 go_loopw [10,11] (fun x y wr=> ∃(i j:Nat) (d:Nat→Se),x=.int .i64 (i:Int)∧y=.int .i64 (j:Int)∧0<i∧0<j∧i≤m-a∧j≤b-m∧SRow wr base g n cap d∧rotF d (m-i) m (m+j)=rotF c a m b∧Kp g W wr) (fun x y _=>(intOf x).toNat+(intOf y).toNat)
 case atStart=>exact ⟨m-a,b-m,c,rfl,rfl,by omega,by omega,Nat.le_refl _,Nat.le_refl _,HH.out,by rw [show m-(m-a)=a by omega,show m+(b-m)=b by omega],Kp.refl _ _⟩
 case round=>
  obtain ⟨i,j,d,rfl,rfl,hi0,hj0,hi,hj,hr,hrot,hkp⟩:=hrel
  have f1:IntKind.i64.wrap ((m:Int)-(i:Int))=((m-i:Nat):Int):=by rw [IntKind.wrap_i64];omega
  by_cases hij:i=j
  ·subst hij
   have dn:((i:Int) !=(i:Int))=false:=by simp
   have HS:=swr_any fv (m-i) m i (by omega) (by omega) hn wr hr
   rw [rot_eq d m i (by omega),hrot] at HS
   have HK:Hid (Kp g W wr):=hkp
   clear hr hrot hkp
   go_wp2_with (go_at_call 229;(with_reducible refine HS.mono ?_);rintro e w1 ⟨rfl,h1,h2⟩)
   go_end0
   exact ⟨rfl,h1,HK.out.trans h2⟩
  ·have dn:((i:Int) !=(j:Int))=true:=by simp;omega
   by_cases hgt:j<i
   ·have dg:decide ((j:Int)<(i:Int))=true:=by simp;omega
    have dg2:decide (j<i)=true:=by simp;omega
    have f2:IntKind.i64.wrap ((i:Int)-(j:Int))=((i-j:Nat):Int):=by rw [IntKind.wrap_i64];omega
    have HS:=swr_any fv (m-i) m j (by omega) (by omega) hn wr hr
    have hrot2:=(rot_gt d m i j (by omega) hj0 hgt).trans hrot
    have HK:Hid (Kp g W wr∧rotF (swpR d (m-i) m j) (m-(i-j)) m (m+j)=rotF c a m b):=⟨hkp,hrot2⟩
    clear hr hrot hkp hrot2
    go_wp2_with (go_at_call 229;(with_reducible refine HS.mono ?_);rintro e w1 ⟨rfl,h1,h2⟩)
    refine ⟨⟨i-j,j,_,rfl,rfl,by omega,hj0,by omega,hj,h1,HK.out.2,HK.out.1.trans h2⟩,?_⟩
    simp only [intOf]
    omega
   ·have dg:decide ((j:Int)<(i:Int))=false:=by simp;omega
    have dg2:decide (j<i)=false:=by simp;omega
    have f2:IntKind.i64.wrap ((j:Int)-(i:Int))=((j-i:Nat):Int):=by rw [IntKind.wrap_i64];omega
    have f3:IntKind.i64.wrap ((m:Int)+(j:Int))=(m:Int)+(j:Int):=by rw [IntKind.wrap_i64];omega
    have f4:IntKind.i64.wrap ((m:Int)+(j:Int)-(i:Int))=((m+j-i:Nat):Int):=by rw [IntKind.wrap_i64];omega
    have HS:=swr_any fv (m-i) (m+j-i) i (by omega) (by omega) hn wr hr
    have hrot2:=(rot_lt d m i j (by omega) hi0 (by omega)).trans hrot
    have HK:Hid (Kp g W wr∧rotF (swpR d (m-i) (m+j-i) i) (m-i) m (m+(j-i))=rotF c a m b):=⟨hkp,hrot2⟩
    clear hr hrot hkp hrot2
    go_wp2_with (go_at_call 229;(with_reducible refine HS.mono ?_);rintro e w1 ⟨rfl,h1,h2⟩)
    refine ⟨⟨i,j-i,_,rfl,rfl,hi0,by omega,hi,by omega,h1,HK.out.2,HK.out.1.trans h2⟩,?_⟩
    simp only [intOf]
    omega
end Go.Proofs.YtecgecpgmpmkoaaGreat
