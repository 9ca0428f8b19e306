import Derived.Test.YtecgecpgmpmkoaaGreatHQ0
import Derived.Lib.AppendZerosOnto
import Derived.Test.YtecgecpgmpmkoaaGreatHRO2
import Derived.Test.YtecgecpgmpmkoaaGreatHOP5
import Derived.Deep.Upon
import Derived.Test.YtecgecpgmpmkoaaGreatHCN1
import Derived.Lib.AppendZeros
namespace Go.Proofs.YtecgecpgmpmkoaaGreat
open Go.ChangeShapes Go.WideShapes Go.ChangeAt Go.RowKit
set_option linter.unusedVariables false
theorem run_append_room_zeros {P:Program} (w:World) (t tn ty e:TypeId) (i:TypeInfo) (z:Value) (kq kn:IntKind) (ht:P.underlying t=some (.slice e)) (htn:P.underlying tn=some (.int kn)) (hi:P.info? e=some i) (hz:i.zero=some z)
  (g sLen sCap:Nat) (cur:Array Value) (hg:w.heap[g]? =some (.cells cur e (0,0))) (k:Nat) (h0:0<k) (hs:0<i.size) (h63:(k:Int)≤9223372036854775807) (h48:k*i.bytes≤281474976710656)
  (h1: ∀u ∈ (Builtin.zeroCells z.cells k).toList,u.oneCell'=true) (hroom:sLen+k≤sCap) (hfit:sLen*i.size+(Builtin.zeroCells z.cells k).toList.length≤cur.size):
  (Builtin.append_ #[t,tn] ty #[.slice (some ⟨g,0,none⟩) sLen sCap,.int kq k]).run P w=
   .ok (.slice (some ⟨g,0,none⟩) (sLen+k) sCap) (w.setRow g (cur.toList.take (sLen*i.size)++(Builtin.zeroCells z.cells k).toList++cur.toList.drop (sLen*i.size+(Builtin.zeroCells z.cells k).toList.length)).toArray):=by
 have hst:=run_storeCells_at P g (sLen*i.size) e (Builtin.zeroCells z.cells k).toList 0 cur w hg (by simpa using hfit) h1
 simp only [Nat.add_zero] at hst
 have hk:k≠0:=by omega
 have hw:IntKind.i64.wrap (k:Int)=k:=by rw [IntKind.wrap_i64];omega
 have h48i: ¬(281474976710656<(k:Int)*(i.bytes:Int)):=by
  rw [←Int.natCast_mul]
  omega
 have hneg: ¬((k:Int)<0):=by omega
 have hns: ¬(k*i.size=0):=Nat.mul_ne_zero hk (by omega)
 simp [Builtin.append_,run_underlying ht,run_underlying htn,sizeOf,typeInfo,zeroValue,hi,hz,asInt,asIntOf,hw,hroom,hneg,hns,h48i,Addr.add_lit,hst]
theorem run_append_own_zeros {P:Program} (w:World) (base:Nat) (t tn ty e:TypeId) (i:TypeInfo) (z:Value) (kq kn:IntKind) (size bytes:Nat) (ht:P.underlying t=some (.slice e)) (htn:P.underlying tn=some (.int kn)) (hi:P.info? e=some i) (hz:i.zero=some z)
  (hsize:i.size=size) (hby:i.bytes=bytes) (hzs:z.cells.size=size) (hsz:0<size) (v:Value) (n:Nat) (xs:List Value) (hown:w.ownsRow base e size v n xs) (k:Nat) (h0:0<k)
  (h1: ∀u ∈ (Builtin.zeroCells z.cells k).toList,u.oneCell'=true) (h63:n+k≤maxLen) (hbytes:(n+k)*bytes≤140737488355328) (hbase:base≤w.heap.size):
  ∃v' w',(Builtin.append_ #[t,tn] ty #[v,.int kq k]).run P w=.ok v' w'∧w'.ownsRow base e size v' (n+k) (xs++(Builtin.zeroCells z.cells k).toList)∧w.grownBy w' v.ownBlock∧(v'.ownBlock=v.ownBlock∨v'.ownBlock=some w.heap.size)∧w'.ownsRow base e size v n xs:=by
 subst hsize
 subst hby
 have hl:(Builtin.zeroCells z.cells k).toList.length=k*i.size:=by rw [Array.length_toList,size_zeroCells,hzs]
 have hsmall:n+k≤9223372036854775807:=by simp only [maxLen] at h63;omega
 have hb1:k*i.bytes≤281474976710656:=by have:=Nat.mul_le_mul_right i.bytes (Nat.le_add_left k n);omega
 have hlen:(xs++(Builtin.zeroCells z.cells k).toList).length=(n+k)*i.size:=by rw [List.length_append,hown.1,hl,Nat.add_mul]
 have grown: ∀(old:Nat),old<n+k→ ∀(row:Option Nat),
   (w.drew.alloc (.cells (xs.toArray++Builtin.zeroCells z.cells k++Builtin.zeroCells z.cells (grownCap w (n+k) old e-(n+k))) e)).ownsRow base e i.size
    (.slice (some ⟨w.heap.size,0,none⟩) (n+k) (grownCap w (n+k) old e)) (n+k) (xs++(Builtin.zeroCells z.cells k).toList)∧
   w.grownBy (w.drew.alloc (.cells (xs.toArray++Builtin.zeroCells z.cells k++Builtin.zeroCells z.cells (grownCap w (n+k) old e-(n+k))) e)) row:=by
  intro old ho row
  have hge:=grownCap_ge w (n+k) old e
  have hcm:grownCap w (n+k) old e≤maxLen:=grownCap_le_maxLen w (n+k) old e h63
  refine ⟨⟨hlen,.inr ⟨w.heap.size,_,_,rfl,hbase,heap_alloc_new w.drew _,hge,hcm,?_,?_⟩⟩,⟨rfl,rfl,rfl,by simp,fun j hj _=>Below.heap_alloc w.drew _ j hj⟩⟩
  ·simp only [Array.size_append,List.size_toArray,size_zeroCells,hzs,hown.1,←Nat.add_mul]
   congr 1
   omega
  ·simp only [Array.toList_append,List.append_assoc]
   rw [←List.append_assoc,←hlen]
   exact List.take_left
 rcases hown.2 with ⟨rfl,rfl⟩|⟨g,cap,cur,rfl,hbg,hg,hnc,hcm,hcs,htake⟩
 ·have hx:xs= []:=List.eq_nil_of_length_eq_zero (by simpa using hown.1)
  subst hx
  have hr:=Lib.run_append_nil_zeros (P:=P) w t tn ty e i z kq kn ht htn hi hz k h0 hsz (by omega) hb1
  have hgr:=grown 0 (by omega) (Value.ownBlock (.slice none 0 0))
  simp only [Nat.zero_add,List.nil_append,Array.empty_append] at hgr ⊢
  exact ⟨_,_,hr,hgr.1,hgr.2,Or.inr rfl,World.ownsRow_nil _ _ _ _⟩
 ·by_cases hroom:n+k≤cap
  ·have hfit:n*i.size+(Builtin.zeroCells z.cells k).toList.length≤cur.size:=by rw [hl,hcs,←Nat.add_mul];exact Nat.mul_le_mul_right _ hroom
   have hr:=run_append_room_zeros (P:=P) w t tn ty e i z kq kn ht htn hi hz g n cap cur hg k h0 hsz (by omega) hb1 h1 hroom hfit
   refine ⟨_,_,hr,⟨hlen,.inr ⟨g,cap,_,rfl,hbg,setRow_heap w g cur _ e _ hg,hroom,hcm,?_,?_⟩⟩,⟨rfl,rfl,rfl,by simp,fun k _ hk=>setRow_other w g k _ (fun e=>hk (by simp [Value.ownBlock,e]))⟩,Or.inl rfl,⟨hown.1,.inr ⟨g,cap,_,rfl,hbg,setRow_heap w g cur _ e _ hg,hnc,hcm,?_,?_⟩⟩⟩
   ·simp only [List.size_toArray,List.length_append,List.length_take,List.length_drop,Array.length_toList]
    rw [Array.length_toList] at hfit
    omega
   ·rw [htake,←hlen]
    exact List.take_left
   ·simp only [List.size_toArray,List.length_append,List.length_take,List.length_drop,Array.length_toList]
    rw [Array.length_toList] at hfit
    omega
   ·rw [htake,List.append_assoc,←hown.1]
    exact List.take_left
  ·have holds: ∀j u,xs[j]? =some u→w.drew.cell? ((⟨g,0,none⟩:Addr).add j)=some u:=hown.cells (g:=g) rfl
   have hold:=run_firstCells_some (P:=P) w.drew i.size n ⟨g,0,none⟩ n cap xs hown.1 holds
   have hr:=Lib.run_append_grow_zeros (P:=P) w t tn ty e i z kq kn ht htn hi hz (some ⟨g,0,none⟩) n cap xs hold k h0 hsz (by omega) (by omega) hb1 (growslice_fits (by omega) hbytes)
   have hgr:=grown cap (by omega) (Value.ownBlock (.slice (some ⟨g,0,none⟩) n cap))
   exact ⟨_,_,hr,hgr.1,hgr.2,Or.inr rfl,⟨hown.1,.inr ⟨g,cap,cur,rfl,hbg,(Below.heap_alloc w.drew _ g (Array.getElem?_eq_some_iff.1 hg).1).trans hg,hnc,hcm,hcs,htake⟩⟩⟩
end Go.Proofs.YtecgecpgmpmkoaaGreat
namespace Go.Proofs.YtecgecpgmpmkoaaGreat
open Go.ChangeShapes Go.WideShapes Go.ChangeAt Go.RowKit
set_option linter.unusedVariables false
theorem Own.kind {W:World} {base:Nat} {t:TypeId} {s m:Nat} {v:Value} {F:Nat→Value} (h:Own W base t s v m F) {g:Nat} (hg:v.ownBlock=some g):base≤g∧g<W.heap.size∧ ∃cur,W.heap[g]? =some (.cells cur t (0,0)):=by
 rcases h.2 with ⟨rfl,_⟩|⟨g',cap,cur,rfl,hb,hh,r⟩
 ·cases hg
 ·cases hg
  exact ⟨hb,(Array.getElem?_eq_some_iff.1 hh).1,cur,hh⟩
theorem Own.other {W:World} {base:Nat} {t u:TypeId} {s m:Nat} {v:Value} {F:Nat→Value} (h:Own W base t s v m F) {g:Nat} {cur:Array Value} {fr:Nat×Nat} (hg:W.heap[g]? =some (.cells cur u fr)) (hne:t≠u):v.ownBlock≠some g:=by
 intro e
 obtain ⟨_,_,c,hc⟩:=h.kind e
 rw [hg] at hc
 injection hc with hc
 injection hc with _ h2 _
 exact hne h2.symm
theorem Own.grown {W W':World} {base:Nat} {t:TypeId} {s m:Nat} {v:Value} {F:Nat→Value} (h:Own W base t s v m F) {row:Option Nat} (hg:W.grownBy W' row) (hne: ∀g,v.ownBlock=some g→row≠some g):Own W' base t s v m F:=
 h.far fun k hk=>hg.block k (h.kind hk).2.1 (fun e=>hne k hk e.symm)
theorem Own.more {W W':World} {base:Nat} {t:TypeId} {s m:Nat} {v:Value} {F:Nat→Value} (h:Own W base t s v m F) (hb:Below W.heap.size W W'):Own W' base t s v m F:=
 h.far fun k hk=>hb.block k (h.kind hk).2.1
def ext {α:Type} (f:Nat→α) (k:Nat) (a:α):Nat→α:=fun j=>if j=k then a else f j
theorem ext_at {α:Type} (f:Nat→α) (k:Nat) (a:α):ext f k a k=a:=by unfold ext;rw [if_pos rfl]
theorem ext_ne {α:Type} (f:Nat→α) (k:Nat) (a:α) {j:Nat} (h:j≠k):ext f k a j=f j:=by unfold ext;rw [if_neg h]
end Go.Proofs.YtecgecpgmpmkoaaGreat
namespace Go.Proofs.YtecgecpgmpmkoaaGreat
open Go.ChangeShapes Go.WideShapes Go.ChangeAt Go.RowKit
set_option linter.unusedVariables false
set_option linter.unusedSimpArgs false
theorem seF_onesX (c:Nat→Se) (n:Nat): ∀u ∈ cellsF (seF c) n,u.oneCell'=true:=fun u hu=>by
 obtain ⟨k,hk,rfl⟩:=List.getElem_of_mem hu
 rw [cellsF_len] at hk
 have h1:=cellsF_at (seF c) hk
 rw [List.getElem?_eq_getElem (by rw [cellsF_len];exact hk)] at h1
 rw [Option.some.inj h1]
 exact seF_one c k
def catS (O X:Nat→Se) (n:Nat):Nat→Se:=fun t=>if t<n then O t else X (t-n)
theorem catS_cells (O X:Nat→Se) (n m:Nat):cellsF (seF O) (n*6)++cellsF (seF X) (m*6)=cellsF (seF (catS O X n)) ((n+m)*6):=by
 rw [cellsF_append,Nat.add_mul]
 refine cellsF_congr fun j hj=> ?_
 by_cases h:j<n*6
 ·rw [if_pos h]
  unfold seF catS
  rw [if_pos (by omega)]
 ·rw [if_neg h]
  unfold seF catS
  rw [if_neg (by omega),show (j-n*6) / 6=j / 6-n by omega,show (j-n*6) % 6=j % 6 by omega]
theorem grown_refl (w:World) (r:Option Nat):w.grownBy w r:=⟨rfl,rfl,rfl,Nat.le_refl _,fun _ _ _=>rfl⟩
theorem app_in (w:World) (base:Nat) (ty:TypeId) (v:Value) (n:Nat) (O:Nat→Se) (p:Option Addr) (m c:Nat) (X:Nat→Se) (ho:Own w base 54 6 v n (seF O)) (hs:SIn w p m X) (hnm:n+m≤1000000000000) (hb:base≤w.heap.size):
  ∃v' w',(Builtin.append_ #[35,35] ty #[v,.slice p m c]).run Tryz.prog w=.ok v' w'∧Own w' base 54 6 v' (n+m) (seF (catS O X n))∧w.grownBy w' v.ownBlock∧(v'.ownBlock=v.ownBlock∨v'.ownBlock=some w.heap.size):=by
 obtain ⟨iE,hE1,hE2,hE3,hE4⟩:=sinfo infoSE
 by_cases h0:m=0
 ·subst h0
  obtain ⟨vp,vc,rfl⟩:=own_slice ho
  have hle:n≤vc:=by
   rcases ho.form with ⟨h1,h2⟩|⟨g,c',h1,_,_⟩
   ·omega
   ·rw [h1] at ho
    obtain ⟨_,_,_,h5,_⟩:=Own.block ho
    injection h1 with e1 e2 e3
    omega
  refine ⟨.slice vp n vc,w,?_,?_,grown_refl _ _,.inl rfl⟩
  ·refine run_append_nothing w 35 35 ty 54 iE Tryz.underlying35 hE1 vp n vc hle (.slice p 0 c) ?_
   cases p with
   |none=>exact Src.ofNil w Tryz.underlying35 c
   |some a=>exact Src.ofSlice w Tryz.underlying35 a 0 c [] (by simp) (fun j u h=>by simp at h) (fun u h=>by cases h)
  ·refine ho.congr fun j hj=> ?_
   unfold seF catS
   rw [if_pos (by omega)]
 ·rcases hs with h|⟨b,o,rfl,hlt,hc⟩
  ·exact absurd h h0
  have hnews: ∀j u,(cellsF (seF X) (m*6))[j]? =some u→w.cell? ((⟨b,o,none⟩:Addr).add j)=some u:=fun j u hu=>by
   have hj:j<m*6:=by
    have:=(List.getElem?_eq_some_iff.1 hu).1
    rwa [cellsF_len] at this
   rw [cellsF_at _ hj] at hu
   cases hu
   rw [addr_add0]
   exact hc j hj
  obtain ⟨v',w',hr,h2,h3,h4,h5⟩:=run_append_own_at (P:=Tryz.prog) w base 35 ty 54 iE _ 6 48 Tryz.underlying35 hE1 hE2 hE3 hE4 rfl (by decide) v n _ ho ⟨b,o,none⟩ m c (cellsF (seF X) (m*6)) (cellsF_len _ _) hnews (seF_onesX X _) (by unfold maxLen;omega) (by omega) hb
  refine ⟨v',w',hr,?_,h3,h5⟩
  unfold Own
  rw [←catS_cells]
  exact h2
end Go.Proofs.YtecgecpgmpmkoaaGreat
namespace Go.Proofs.YtecgecpgmpmkoaaGreat
open Go.ChangeShapes Go.WideShapes Go.ChangeAt Go.RowKit
set_option linter.unusedVariables false
set_option linter.unusedSimpArgs false
def zeSM:Se:=⟨0,0,0,0,0,0⟩
def zeroCM (x:Nat):Value:=
 match x % 6 with
 |0=>.int .u64 0
 |2=>.int .u64 0
 |_=>.int .i64 0
def zEvM:Value:=.agg #[.int .u64 0,.int .i64 0,.int .u64 0,.int .i64 0,.int .i64 0,.int .i64 0]
theorem mod6M (x:Nat):x % 6=0∨x % 6=1∨x % 6=2∨x % 6=3∨x % 6=4∨x % 6=5:=by omega
theorem zeroC_eqM (x:Nat):zEvM.cells[x % zEvM.cells.size]! =zeroCM x:=by
 have h6:zEvM.cells.size=6:=rfl
 rw [h6]
 unfold zeroCM
 rcases mod6M x with h|h|h|h|h|h<;>rw [h]<;>rfl
theorem zeros_eqM (k:Nat):(Builtin.zeroCells zEvM.cells k).toList=cellsF zeroCM (k*6):=by
 unfold Builtin.zeroCells
 rw [Array.toList_map,Array.toList_range]
 have h6:zEvM.cells.size=6:=rfl
 rw [h6]
 exact cellsF_congr (fun j _=>zeroC_eqM j)
theorem zeroC_oneM (x:Nat):(zeroCM x).oneCell'=true:=by
 unfold zeroCM
 split<;>rfl
theorem infoPM {i? :Option TypeInfo} {z:Value} {s b:Nat} (h:i?.map (fun i=>(i.zero,i.size,i.bytes))=some (some z,s,b)): ∃i,i? =some i∧i.zero=some z∧i.size=s∧i.bytes=b:=by
 cases i? with
 |none=>cases h
 |some i=>
  simp at h
  exact ⟨i,rfl,h.1,h.2.1,h.2.2⟩
structure LsP where
 p:Option Addr
 c:Nat
 n:Nat
 X:Nat→Se
def LsIn (W:World) (p:Option Addr) (m:Nat) (Y:Nat→LsP):Prop:=(m=0∨ ∃b o,p=some ⟨b,o,none⟩∧b<W.heap.size∧ ∀k,k<m→W.cell? ⟨b,o+k,none⟩=some (.slice (Y k).p (Y k).n (Y k).c))∧ ∀k,k<m→SIn W (Y k).p (Y k).n (Y k).X
theorem LsIn.below {W W':World} {p:Option Addr} {m:Nat} {Y:Nat→LsP} (h:LsIn W p m Y) (hb:Below W.heap.size W W'):LsIn W' p m Y:=by
 refine ⟨?_,fun k hk=>(h.2 k hk).below hb⟩
 rcases h.1 with h|⟨b,o,h1,h2,h3⟩
 ·exact .inl h
 ·exact .inr ⟨b,o,h1,Nat.lt_of_lt_of_le h2 hb.size,fun k hk=>(cell_below (a:=⟨b,o+k,none⟩) hb h2).trans (h3 k hk)⟩
def offL (Y:Nat→LsP):Nat→Nat
 |0=>0
 |k+1=>offL Y k+(Y k).n
def catL (Y:Nat→LsP):Nat→Nat→Se
 |0=>fun _=>zeSM
 |k+1=>catS (catL Y k) (Y k).X (offL Y k)
theorem offL_mono (Y:Nat→LsP) {j k:Nat} (h:j≤k):offL Y j≤offL Y k:=by
 induction k with
 |zero=>rw [show j=0 by omega];exact Nat.le_refl _
 |succ k ih=>
  by_cases e:j=k+1
  ·rw [e];exact Nat.le_refl _
  ·have:=ih (by omega)
   show offL Y j≤offL Y k+(Y k).n
   omega
theorem own_cut0 {W:World} {base g m c:Nat} {F G:Nat→Value} {t:TypeId} {s:Nat} (h:Own W base t s (.slice (some ⟨g,0,none⟩) m c) m F):Own W base t s (.slice (some ⟨g,0,none⟩) 0 c) 0 G:=by
 obtain ⟨cur,h1,h2,h3,h4,h5,h6⟩:=Own.block h
 exact Own.mk' h1 h2 (Nat.zero_le _) h4 h5 fun j hj=>by omega
theorem zeros_one' (n:Nat): ∀u ∈ (Builtin.zeroCells zEvM.cells n).toList,u.oneCell'=true:=fun u hu=>by
 rw [zeros_eqM] at hu
 unfold cellsF at hu
 obtain ⟨x,_,rfl⟩:=List.mem_map.1 hu
 exact zeroC_oneM x
set_option maxRecDepth 100000 in
set_option maxHeartbeats 4000000 in
theorem grow_any (n:Nat) (hn:n≤1000000000000) (w:World):Calls Tryz.prog 116 #[.slice none 0 0,.int .i64 (n:Int)] w fun e w'=> ∃v,e=.returned v∧Own w' w.heap.size 54 6 v 0 (seF (fun _=>zeSM))∧Below w.heap.size w w':=by
 have d0:decide ((n:Int)<0)=false:=by simp
 by_cases h0:n=0
 ·subst h0
  go_enter Tryz.func116,Tryz.ntmps116
  go_wp2_with fail
  go_ret
  exact ⟨_,rfl,World.ownsRow_nil _ _ _ _,Below.refl _ _⟩
 ·obtain ⟨iE,hE1,hE2,hE3,hE4⟩:=infoPM infoSE
  have d1:decide ((0:Int)<(n:Int))=true:=by simp;omega
  have e1:IntKind.i64.wrap ((n:Int)-0)=(n:Int):=by rw [IntKind.wrap_i64];omega
  have e2:IntKind.i64.wrap (n:Int)=(n:Int):=by rw [IntKind.wrap_i64];omega
  obtain ⟨v',w',hr,h2,h3,h4,h5⟩:=run_append_own_zeros (P:=Tryz.prog) w w.heap.size 35 3 35 54 iE zEvM .i64 .i64 6 48 Tryz.underlying35 Tryz.underlying3 hE1 hE2 hE3 hE4 rfl (by decide) (.slice none 0 0) 0 [] (World.ownsRow_nil _ _ _ _) n (by omega) (zeros_one' n) (by unfold maxLen;omega) (by omega) (Nat.le_refl _)
  have hb':Below w.heap.size w w':=(Below.refl _ w).grown h3 (Nat.le_refl _) (fun k hk=>by cases hk)
  have ho:=own_of_row h2
  rw [Nat.zero_add] at ho
  obtain ⟨g,c,rfl⟩: ∃g c,v'=.slice (some ⟨g,0,none⟩) n c:=by
   rcases ho.form with ⟨h1,h2⟩|⟨g,c',h1,_,_⟩
   ·omega
   ·exact ⟨g,c',h1⟩
  have hcut:Hid (Own w' w.heap.size 54 6 (.slice (some ⟨g,0,none⟩) 0 c) 0 (seF (fun _=>zeSM))∧Below w.heap.size w w'):=⟨own_cut0 ho,hb'⟩
  have hcn:n≤c:=by
   obtain ⟨_,_,_,h9,_⟩:=Own.block ho
   exact h9
  clear h2 h3 h4 h5 ho hb'
  go_enter Tryz.func116,Tryz.ntmps116
  go_wp2_with (at_builtin;refine Lib.wpList_append_run _ rfl _ _ 35 3 rfl _ _ rfl rfl _ _ hr ?_)
  go_ret
  exact ⟨_,rfl,hcut.out⟩
set_option maxRecDepth 100000 in
set_option maxHeartbeats 4000000 in
theorem concat_any (p:Option Addr) (m cp:Nat) (Y:Nat→LsP) (hm:m≤1000000000000) (hn:offL Y m≤1000000000000) (w:World) (h:LsIn w p m Y):Calls Tryz.prog 71 #[.slice p m cp] w fun e w'=> ∃v,e=.returned v∧Own w' w.heap.size 54 6 v (offL Y m) (seF (catL Y m))∧Below w.heap.size w w':=by
 have HH:Hid (LsIn w p m Y):=h
 clear h
 go_enter Tryz.func71,Tryz.ntmps71
 go_wp2_with fail
 go_loopw [3,11] (fun v x wr=> ∃k:Nat,x=.int .i64 (k:Int)∧k≤m∧v=.int .i64 (offL Y k:Nat)∧wr=w) (fun _ x _=>m-(intOf x).toNat)
 case atStart=>exact ⟨0,rfl,Nat.zero_le _,rfl,rfl⟩
 case round=>
  obtain ⟨k,rfl,hk,rfl,hw⟩:=hrel
  subst wr
  by_cases hlt:k<m
  ·have dlt:decide ((k:Int)<(m:Int))=true:=by simp;omega
   have i0:(0:Int)≤(k:Int):=by omega
   have i1:(k:Int)<(m:Int):=by omega
   have ei:IntKind.i64.wrap ((k:Int)+1)=(k:Int)+1:=by rw [IntKind.wrap_i64];omega
   have hme:=meas hlt
   rcases HH.out.1 with hz|⟨b,o,hp,hlb,hc⟩
   ·omega
   have c0:=hc k hlt
   have hof:offL Y (k+1)≤offL Y m:=offL_mono Y hlt
   have hofk:offL Y (k+1)=offL Y k+(Y k).n:=rfl
   obtain ⟨a,ha⟩: ∃a,offL Y k=a:=⟨_,rfl⟩
   obtain ⟨z,hz⟩: ∃z,offL Y (k+1)=z:=⟨_,rfl⟩
   rw [ha,hz] at hofk
   rw [hz] at hof
   have es:IntKind.i64.wrap ((a:Int)+((Y k).n:Int))=(z:Int):=by rw [IntKind.wrap_i64];omega
   have ds:decide ((z:Int)<0)=false:=by simp
   have HZ:Hid (offL Y (k+1)=z):=hz
   rw [hp,ha]
   clear hc hlb hof hofk hp ha hz
   go_wp2_with fail
   exact ⟨⟨k+1,rfl,hlt,by rw [HZ.out],trivial⟩,hme⟩
  ·have dlt:decide ((k:Int)<(m:Int))=false:=by simp;omega
   obtain rfl:k=m:=by omega
   have HG:=grow_any (offL Y k) hn w
   go_wp2_with (go_at_call 116;(with_reducible refine HG.mono ?_);rintro e9 w3 ⟨gv,rfl,h5,h6⟩)
   have HG3:Hid (Own w3 w.heap.size 54 6 gv 0 (seF (fun _=>zeSM))∧Below w.heap.size w w3):=⟨h5,h6⟩
   clear h5 h6
   go_loopw [6,27] (fun v x wr=> ∃j:Nat,x=.int .i64 (j:Int)∧j≤k∧Own wr w.heap.size 54 6 v (offL Y j) (seF (catL Y j))∧Below w.heap.size w wr) (fun _ x _=>k-(intOf x).toNat)
   case atStart=>exact ⟨0,rfl,Nat.zero_le _,HG3.out.1,HG3.out.2⟩
   case round=>
    obtain ⟨j,rfl,hj,ho,hb⟩:=hrel
    by_cases hlt:j<k
    ·have dlt:decide ((j:Int)<(k:Int))=true:=by simp;omega
     have i0:(0:Int)≤(j:Int):=by omega
     have i1:(j:Int)<(k:Int):=by omega
     have ei:IntKind.i64.wrap ((j:Int)+1)=(j:Int)+1:=by rw [IntKind.wrap_i64];omega
     have hme:=meas hlt
     have hl:=HH.out.below hb
     rcases hl.1 with hz|⟨b,o,hp,hlb,hc⟩
     ·omega
     have c0:=hc j hlt
     have hof:offL Y (j+1)≤offL Y k:=offL_mono Y hlt
     obtain ⟨v',w',hr,h2,h3,h4⟩:=app_in wr w.heap.size 35 u6 (offL Y j) (catL Y j) (Y j).p (Y j).n (Y j).c (Y j).X ho (hl.2 j hlt) (by have:offL Y (j+1)=offL Y j+(Y j).n:=rfl;omega) hb.size
     have hb':Below w.heap.size w w':=hb.grown h3 hb.size (fun r' e=>(Own.lt ho r' e).1)
     have H2:Hid (Own w' w.heap.size 54 6 v' (offL Y (j+1)) (seF (catL Y (j+1)))∧Below w.heap.size w w'):=⟨h2,hb'⟩
     rw [hp]
     clear hl hc hlb h2 h3 h4 hb' ho hb hof hp
     go_wp2_with (at_builtin;refine Lib.wpList_append_run _ rfl _ _ 35 35 rfl _ _ rfl rfl _ _ hr ?_)
     exact ⟨⟨j+1,rfl,hlt,H2.out⟩,hme⟩
    ·have dlt:decide ((j:Int)<(k:Int))=false:=by simp;omega
     obtain rfl:j=k:=by omega
     have HF:Hid (Own wr w.heap.size 54 6 u6 (offL Y j) (seF (catL Y j))∧Below w.heap.size w wr):=⟨ho,hb⟩
     clear ho hb
     go_wp2_with fail
     go_ret
     exact ⟨_,rfl,HF.out⟩
set_option maxRecDepth 100000 in
set_option maxHeartbeats 4000000 in
theorem merge_any (p:Option Addr) (m cp:Nat) (Y:Nat→LsP) (hm:m≤1000000000000) (hn:offL Y m≤1000000000000) (w:World) (h:LsIn w p m Y):Calls Tryz.prog 25 #[.slice p m cp] w fun e w'=> ∃g d,e=.returned (.slice (some ⟨g,0,none⟩) (offL Y m) (offL Y m))∧SRow w' w.heap.size g (offL Y m) (offL Y m) d∧Stb klt 0 (offL Y m) (catL Y m) d∧Srt klt 0 (offL Y m) d∧Below w.heap.size w w':=by
 have HC:=concat_any p m cp Y hm hn w h
 obtain ⟨n,hnn⟩: ∃n,offL Y m=n:=⟨_,rfl⟩
 rw [hnn] at HC hn ⊢
 clear hnn h
 go_enter Tryz.func25,Tryz.ntmps25
 go_wp2_with (first|(go_at_call 71;(with_reducible refine HC.mono ?_);rintro e1 w1 ⟨v,rfl,h1,h2⟩;obtain ⟨vp,vc,rfl⟩:=own_slice h1;have HO:=order_any vp n vc (catL Y m) (by omega) w1 (own_sin0 h1);have HB:Hid (Below w.heap.size w w1):=h2;clear h1 h2)|(go_at_call 69;(with_reducible refine HO.mono ?_);rintro e2 w2 ⟨g,d,rfl,h5⟩;have H5:Hid (SRow w2 w1.heap.size g n n d∧Stb klt 0 n (catL Y m) d∧Srt klt 0 n d∧Below w1.heap.size w1 w2):=h5;clear h5))
 go_ret
 exact ⟨g,d,rfl,Own.lower H5.out.1 HB.out.size,H5.out.2.1,H5.out.2.2.1,HB.out.trans (H5.out.2.2.2.mono HB.out.size)⟩
end Go.Proofs.YtecgecpgmpmkoaaGreat
namespace Go.Proofs.YtecgecpgmpmkoaaGreat
open Go.ChangeShapes Go.WideShapes Go.ChangeAt Go.RowKit
set_option linter.unusedVariables false
set_option linter.unusedSimpArgs false
theorem own_ptr {W:World} {base:Nat} {t:TypeId} {s m:Nat} {p:Option Addr} {c:Nat} {F:Nat→Value} (h:Own W base t s (.slice p m c) m F) (hm:0<m): ∃g,p=some ⟨g,0,none⟩:=by
 rcases h.2 with ⟨h1,h2⟩|⟨g,cap,cur,h1,_⟩
 ·injection h1 with _ e _
  omega
 ·injection h1 with e
  exact ⟨g,e⟩
theorem own_putB {W:World} {base:Nat} {t:TypeId} {s b m c:Nat} {F G:Nat→Value} (h:Own W base t s (.slice (some ⟨b,0,none⟩) m c) m F) (k:Nat) (v:Value) (hv:G k=v) (he: ∀j,j<m*s→j≠k→F j=G j):Own (W.setCell ⟨b,k,none⟩ v) base t s (.slice (some ⟨b,0,none⟩) m c) m G:=by
 refine Own.congr (Own.put h k [v]) fun j hj=> ?_
 unfold putF
 by_cases e:j=k
 ·subst e
  rw [if_pos (by simp)]
  simp [hv]
 ·rw [if_neg (by simp;omega)]
  exact he j hj e
theorem own_otherB {W:World} {base:Nat} {t:TypeId} {s b m c:Nat} {F:Nat→Value} (h:Own W base t s (.slice (some ⟨b,0,none⟩) m c) m F) (b' k:Nat) (v:Value) (hne:b≠b'):Own (W.setCell ⟨b',k,none⟩ v) base t s (.slice (some ⟨b,0,none⟩) m c) m F:=h.far fun k e=>by cases e;exact Below.heap_setCell _ _ _ _ hne
theorem makeB (t e:TypeId) (i:TypeInfo) (z:Value) (hz1:z.cells= #[z]) (ht:Tryz.prog.underlying t=some (.slice e)) (hi:Tryz.prog.info? e=some i) (hz:i.zero=some z) (hsize:i.size=1)
  (n:Nat) (hbytes:i.bytes*n≤281474976710656) (h63:n≤9223372036854775807) (w:World):
  (Instr.makeSlice t (.int .i64 (n:Int)) (.int .i64 (n:Int))).run Tryz.prog w=.ok (.slice (some ⟨w.heap.size,0,none⟩) n n) (w.alloc (.cells (madeCells z.cells (n*1)) e)):=by
 have hb':(i.bytes:Int)*(n:Int)≤281474976710656:=by
  have h:((i.bytes*n:Nat):Int)≤281474976710656:=by omega
  rwa [Int.natCast_mul] at h
 have hr:=run_make (P:=Tryz.prog) w t e i z ht hi hz .i64 .i64 n n (by omega) (Int.le_refl _) hb' (by omega)
 simp only [Int.toNat_natCast,hsize] at hr
 exact hr
theorem own_madeB (w:World) (e:TypeId) (b:Nat) (hb:b≤w.heap.size) (n:Nat) (hn:n≤maxLen):Own (w.alloc (.cells (madeCells (Value.bool false).cells (n*1)) e)) b e 1 (.slice (some ⟨w.heap.size,0,none⟩) n n) n (fun _=>.bool false):=by
 have h:=own_of_row (World.ownsRow_lit (base:=b) (e:=e) w (madeCells (Value.bool false).cells (n*1)) n hb hn (size_madeCells _ _))
 refine Own.congr h fun j hj=> ?_
 rw [Nat.mul_one] at hj ⊢
 unfold madeCells
 have hz:(Value.bool false).cells= #[Value.bool false]:=rfl
 rw [hz]
 simp [hj,Nat.mod_one]
structure Sn (W:World) (b:Nat) (sv:Value) (n:Nat) (G M:Nat→Nat) (F:Nat→Nat→Bool):Prop where
 row:Own W b 63 1 sv n (fun j=>.slice (some ⟨G j,0,none⟩) (M j) (M j))
 bl: ∀j,j<n→Own W b 4 1 (.slice (some ⟨G j,0,none⟩) (M j) (M j)) (M j) (fun q=>.bool (F j q))
 ap: ∀i j,i<n→j<n→i≠j→G i≠G j
theorem Sn.below {W W':World} {b n:Nat} {sv:Value} {G M:Nat→Nat} {F:Nat→Nat→Bool} (h:Sn W b sv n G M F) (hb:Below W.heap.size W W'):Sn W' b sv n G M F:=⟨h.row.more hb,fun j hj=>(h.bl j hj).more hb,h.ap⟩
theorem Sn.sl {W:World} {b n:Nat} {sv:Value} {G M:Nat→Nat} {F:Nat→Nat→Bool} (h:Sn W b sv n G M F): ∃q c,sv=.slice q n c∧ ∀j,j<n→ ∃g,q=some ⟨g,0,none⟩∧W.cell? ⟨g,j,none⟩=some (.slice (some ⟨G j,0,none⟩) (M j) (M j)):=by
 obtain ⟨q,c,rfl⟩:=own_slice h.row
 refine ⟨q,c,rfl,fun j hj=> ?_⟩
 obtain ⟨g,e⟩:=own_ptr h.row (by omega)
 subst e
 exact ⟨g,rfl,Own.cell h.row (by omega)⟩
theorem Sn.at {W:World} {b n:Nat} {sv:Value} {G M:Nat→Nat} {F:Nat→Nat→Bool} (h:Sn W b sv n G M F) {j q:Nat} (hj:j<n) (hq:q<M j):W.cell? ⟨G j,q,none⟩=some (.bool (F j q)):=by
 exact Own.cell (h.bl j hj) (by omega)
theorem Sn.put {W:World} {b n:Nat} {sv:Value} {G M:Nat→Nat} {F:Nat→Nat→Bool} (h:Sn W b sv n G M F) {j q:Nat} (hj:j<n) (hq:q<M j) (hne:(4:TypeId)≠63) (F':Nat→Nat→Bool) (h1:F' j q=true) (h2: ∀i r,¬(i=j∧r=q)→F i r=F' i r):Sn (W.setCell ⟨G j,q,none⟩ (.bool true)) b sv n G M F':=by
 obtain ⟨cur,hc⟩: ∃cur,W.heap[G j]? =some (.cells cur 4 (0,0)):=(Own.kind (h.bl j hj) rfl).2.2
 refine ⟨h.row.far fun k e=>Below.heap_setCell _ _ _ _ fun e9=> ?_,fun i hi=> ?_,h.ap⟩
 ·have e8:k=G j:=e9
  subst e8
  exact Own.other h.row hc (fun e=>hne e.symm) e
 ·by_cases e:i=j
  ·subst e
   exact own_putB (h.bl i hi) q (.bool true) (by show Value.bool (F' i q)=_;rw [h1]) fun r hr hn=>by show Value.bool (F i r)=.bool (F' i r);rw [h2 i r fun z=>hn z.2]
  ·refine Own.congr (own_otherB (h.bl i hi) (G j) q _ (h.ap i j hi hj e)) fun r hr=> ?_
   show Value.bool (F i r)=.bool (F' i r)
   rw [h2 i r fun z=>e z.1]
theorem Sn.zero (W:World) (b:Nat) (G M:Nat→Nat) (F:Nat→Nat→Bool):Sn W b (.slice none 0 0) 0 G M F:=⟨own_nil0,fun j hj=>absurd hj (Nat.not_lt_zero _),fun i j hi=>absurd hi (Nat.not_lt_zero _)⟩
theorem Sn.snoc {W W2:World} {b n:Nat} {sv sv':Value} {G M:Nat→Nat} {F:Nat→Nat→Bool} (h:Sn W b sv n G M F) (hb:b≤W.heap.size) (m:Nat) (hm:m≤maxLen) {W1:World} (hw1:W1=(W.alloc (.cells (madeCells (Value.bool false).cells (m*1)) 4)).alloc (.cells #[.slice (some ⟨W.heap.size,0,none⟩) m m] 63))
  (h1:W2.ownsRow b 63 1 sv' (n+1) (cellsF (fun j=>.slice (some ⟨G j,0,none⟩) (M j) (M j)) (n*1)++ [.slice (some ⟨W.heap.size,0,none⟩) m m])) (h2:W1.grownBy W2 sv.ownBlock) (hne:(4:TypeId)≠63):
  Sn W2 b sv' (n+1) (ext G n W.heap.size) (ext M n m) (ext F n fun _=>false):=by
 have hb1:Below W.heap.size W W1:=by rw [hw1];exact ((Below.refl _ W).alloc (Nat.le_refl _) _).alloc (by rw [World.size_alloc];omega) _
 have hn9: ∀j,j<n→G j<W.heap.size:=fun j hj=>(Own.kind (h.bl j hj) rfl).2.1
 have hs1:W.heap.size<W1.heap.size:=by rw [hw1,World.size_alloc,World.size_alloc];omega
 have key: ∀ {v:Value} {m':Nat} {F':Nat→Value},Own W1 b 4 1 v m' F'→Own W2 b 4 1 v m' F':=fun {v m' F'} ho=>ho.grown h2 fun g e1 e2=>by
  obtain ⟨_,_,cur,hc⟩:=Own.kind ho e1
  exact Own.other (h.row.more hb1) hc (fun e=>hne e.symm) e2
 have hnew:Own W1 b 4 1 (.slice (some ⟨W.heap.size,0,none⟩) m m) m (fun _=>.bool false):=by
  rw [hw1]
  exact (own_madeB W 4 b hb m hm).more ((Below.refl _ _).alloc (Nat.le_refl _) _)
 refine ⟨?_,fun j hj=> ?_,fun i j hi hj hij=> ?_⟩
 ·have e1: [Value.slice (some ⟨W.heap.size,0,none⟩) m m]=cellsF (fun _=>.slice (some ⟨W.heap.size,0,none⟩) m m) 1:=rfl
  rw [e1,cellsF_append] at h1
  have h7:Own W2 b 63 1 sv' (n+1) (fun a=>if a<n*1 then .slice (some ⟨G a,0,none⟩) (M a) (M a) else .slice (some ⟨W.heap.size,0,none⟩) m m):=by
   unfold Own
   rw [Nat.add_mul,Nat.one_mul]
   exact h1
  refine h7.congr fun a ha=> ?_
  by_cases e:a<n*1
  ·rw [if_pos e,ext_ne _ _ _ (by omega),ext_ne _ _ _ (by omega)]
  ·rw [if_neg e]
   obtain rfl:a=n:=by omega
   rw [ext_at,ext_at]
 ·by_cases e:j=n
  ·subst e
   rw [ext_at,ext_at,ext_at]
   exact key hnew
  ·rw [ext_ne _ _ _ e,ext_ne _ _ _ e,ext_ne _ _ _ e]
   exact key ((h.bl j (by omega)).more hb1)
 ·by_cases e1:i=n
  ·subst e1
   rw [ext_at,ext_ne _ _ _ (fun e=>hij e.symm)]
   have:=hn9 j (by omega)
   omega
  ·rw [ext_ne _ _ _ e1]
   by_cases e2:j=n
   ·subst e2
    rw [ext_at]
    have:=hn9 i (by omega)
    omega
   ·rw [ext_ne _ _ _ e2]
    exact h.ap i j (by omega) (by omega) hij
theorem Sn.congr {W:World} {b n:Nat} {sv:Value} {G M M':Nat→Nat} {F F':Nat→Nat→Bool} (h:Sn W b sv n G M F) (h1: ∀j,j<n→M j=M' j) (h2: ∀j q,j<n→F j q=F' j q):Sn W b sv n G M' F':=⟨Own.congr h.row fun j hj=>by rw [h1 j (by omega)],fun j hj=>by
 rw [←h1 j hj]
 exact Own.congr (h.bl j hj) fun q hq=>by rw [h2 j q hj],h.ap⟩
def two (a b:LsP):Nat→LsP:=fun k=>if k=0 then a else b
theorem two_off (a b:LsP):offL (two a b) 2=a.n+b.n:=by
 show 0+a.n+b.n=_
 omega
theorem two_in {a b:LsP} (x:Se):InX (a.n+b.n) (catL (two a b) 2) x↔InX a.n a.X x∨InX b.n b.X x:=by
 have e: ∀i,catL (two a b) 2 i=if i<a.n then a.X i else b.X (i-a.n):=fun i=>by
  show (if i<0+a.n then (if i<0 then zeSM else a.X (i-0)) else b.X (i-(0+a.n)))=_
  rw [Nat.zero_add,if_neg (Nat.not_lt_zero _)]
  rfl
 constructor
 ·rintro ⟨i,hi,rfl⟩
  rw [e i]
  by_cases h:i<a.n
  ·rw [if_pos h];exact .inl ⟨i,h,rfl⟩
  ·rw [if_neg h];exact .inr ⟨i-a.n,by omega,rfl⟩
 ·rintro (⟨i,hi,rfl⟩|⟨i,hi,rfl⟩)
  ·exact ⟨i,by omega,by rw [e i,if_pos hi]⟩
  ·exact ⟨a.n+i,by omega,by rw [e,if_neg (by omega),show a.n+i-a.n=i by omega]⟩
theorem two_inj {a b:LsP} (h1:Inj a.n a.X) (h2:Inj b.n b.X) (h3: ∀i j,i<a.n→j<b.n→a.X i≠b.X j):Inj (a.n+b.n) (catL (two a b) 2):=by
 have e: ∀i,catL (two a b) 2 i=if i<a.n then a.X i else b.X (i-a.n):=fun i=>by
  show (if i<0+a.n then (if i<0 then zeSM else a.X (i-0)) else b.X (i-(0+a.n)))=_
  rw [Nat.zero_add,if_neg (Nat.not_lt_zero _)]
  rfl
 intro i j hi hj
 rw [e i,e j]
 by_cases z1:i<a.n<;>by_cases z2:j<a.n
 ·rw [if_pos z1,if_pos z2];exact h1 i j z1 z2
 ·rw [if_pos z1,if_neg z2];exact fun z=>(h3 i (j-a.n) z1 (by omega) z).elim
 ·rw [if_neg z1,if_pos z2];exact fun z=>(h3 j (i-a.n) z2 (by omega) z.symm).elim
 ·rw [if_neg z1,if_neg z2];intro z;have:=h2 (i-a.n) (j-a.n) (by omega) (by omega) z;omega
end Go.Proofs.YtecgecpgmpmkoaaGreat
