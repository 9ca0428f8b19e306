import Derived.Test.YtecgecpgmpmkoaaGreatHRN3
import Derived.Test.YtecgecpgmpmkoaaGreatHSV6
import Derived.Test.YtecgecpgmpmkoaaGreatHSO9
import Derived.RangeFuncBox
namespace Go.Proofs.YtecgecpgmpmkoaaGreat
open Go.ChangeShapes Go.WideShapes Go.ChangeAt Go.RowKit
set_option linter.unusedVariables false
set_option linter.unusedSimpArgs false
structure Kq (S:Nat→Prop) (W W':World):Prop where
 os:W'.os=W.os
 tape:W'.tape=W.tape
 output:W'.output=W.output
 size:W.heap.size≤W'.heap.size
 block: ∀k,k<W.heap.size→ ¬S k→W'.heap[k]? =W.heap[k]?
theorem Kq.refl (S:Nat→Prop) (W:World):Kq S W W:=⟨rfl,rfl,rfl,Nat.le_refl _,fun _ _ _=>rfl⟩
theorem Kq.trans {S:Nat→Prop} {a b c:World} (h:Kq S a b) (h':Kq S b c):Kq S a c:=⟨h'.os.trans h.os,h'.tape.trans h.tape,h'.output.trans h.output,Nat.le_trans h.size h'.size,fun k hk hs=>(h'.block k (Nat.lt_of_lt_of_le hk h.size) hs).trans (h.block k hk hs)⟩
theorem Kq.below {S:Nat→Prop} {W W':World} (h:Below W.heap.size W W'):Kq S W W':=⟨h.os,h.tape,h.output,h.size,fun k hk _=>h.block k hk⟩
theorem Kq.set {S:Nat→Prop} (W:World) (b k:Nat) (v:Value) (h:S b):Kq S W (W.setCell ⟨b,k,none⟩ v):=⟨rfl,rfl,rfl,by simp [World.setCell],fun j _ hs=>Below.heap_setCell _ _ _ _ fun e=>hs (by show S j;rw [show j=b from e];exact h)⟩
theorem Kq.kp {g:Nat} {S:Nat→Prop} {W W':World} (h:Kp g W W') (hs:S g∨W.heap.size≤g):Kq S W W':=⟨h.os,h.tape,h.output,h.size,fun k hk h9=>h.block k hk fun e=>by
 rcases hs with hs|hs
 ·exact h9 (e▸hs)
 ·omega⟩
theorem Kq.mono {S T:Nat→Prop} {W W':World} (h:Kq S W W') (hs: ∀k,k<W.heap.size→S k→T k):Kq T W W':=⟨h.os,h.tape,h.output,h.size,fun k hk h9=>h.block k hk fun e=>h9 (hs k hk e)⟩
theorem Kq.transM {S T:Nat→Prop} {a b c:World} (h:Kq S a b) (h':Kq T b c) (hs: ∀k,k<a.heap.size→T k→S k):Kq S a c:=⟨h'.os.trans h.os,h'.tape.trans h.tape,h'.output.trans h.output,Nat.le_trans h.size h'.size,fun k hk h9=>(h'.block k (Nat.lt_of_lt_of_le hk h.size) fun e=>h9 (hs k hk e)).trans (h.block k hk h9)⟩
theorem Kq.kb {S:Nat→Prop} {W W':World} (h:Kq S W W'):Kb S W W':=⟨h.size,h.block⟩
theorem Kq.grown {W W':World} {r:Option Nat} (h:W.grownBy W' r):Kq (fun k=>some k=r) W W':=⟨h.os,h.tape,h.output,h.size,fun k hk hs=>h.block k hk hs⟩
theorem blkDA (w:World) (o:Obj):Below w.heap.size w (w.drew.alloc o):=(show Below w.heap.size w w.drew from ⟨rfl,rfl,rfl,Nat.le_refl _,fun _ _=>rfl⟩).alloc (Nat.le_refl _) o
theorem cell_in {W:World} {b:Nat} {cs:Array Value} {t:TypeId} (h:W.heap[b]? =some (.cells cs t (0,0))) {o:Nat} {v:Value} (ho:cs[o]? =some v):W.cell? ⟨b,o,none⟩=some v:=by
 unfold World.cell?
 rw [h]
 exact ho
theorem seapp (X:Nat→Se) (n:Nat) (e:Se):cellsF (seF X) (n*6)++seL e=cellsF (seF (setS X n e)) ((n+1)*6):=by
 have e1:seL e=cellsF (fun r=>(seL e).getD r undef) 6:=rfl
 rw [e1,cellsF_append,show (n+1)*6=n*6+6 by omega]
 refine cellsF_congr fun j hj=> ?_
 by_cases h:j<n*6
 ·rw [if_pos h]
  unfold seF setS
  rw [if_neg (by omega)]
 ·rw [if_neg h]
  unfold seF setS
  rw [show j / 6=n by omega,if_pos rfl,show j % 6=j-n*6 by omega]
  rfl
set_option maxRecDepth 100000 in
set_option maxHeartbeats 4000000 in
theorem qpush_any (sb o:Nat) (cs:Array Value) (t:TypeId) (v:Value) (b n:Nat) (X:Nat→Se) (e:Se) (W:World) (hs:W.heap[sb]? =some (.cells cs t (0,0))) (ho:cs[o]? =some v) (hown:Own W b 54 6 v n (seF X)) (hne:v.ownBlock≠some sb) (hb:b≤W.heap.size) (hn:n+1≤2932031007402) (hp:Hp n X):
  Calls Tryz.prog 112 #[.pointer (some ⟨sb,o,none⟩),.agg #[.int .u64 e.t,.int .i64 e.s,.int .u64 e.q,.int .i64 e.d,.int .i64 e.k,.int .i64 e.v]] W fun r W'=>r=.returned (.tuple #[])∧ ∃v' Y,W'.heap[sb]? =some (.cells (cs.setIfInBounds o v') t (0,0))∧Own W' b 54 6 v' (n+1) (seF Y)∧Hp (n+1) Y∧Sam (n+1) (setS X n e) Y∧(v'.ownBlock=v.ownBlock∨ ∃k,v'.ownBlock=some k∧W.heap.size≤k)∧Kq (fun k=>k=sb∨some k=v.ownBlock) W W':=by
 obtain ⟨i5,hi5,hz0,hz1,hz2⟩:=sinfo infoSE
 obtain ⟨vp,vc,rfl⟩:=own_slice hown
 obtain ⟨wb,hwb⟩: ∃wb,W.alloc (.cells #[.int .u64 e.t,.int .i64 e.s,.int .u64 e.q,.int .i64 e.d,.int .i64 e.k,.int .i64 e.v] 54)=wb:=⟨_,rfl⟩
 obtain ⟨hb0,hbox,hsz⟩:=boxed _ _ _ hwb
 have HW:Hid (W.alloc (.cells #[.int .u64 e.t,.int .i64 e.s,.int .u64 e.q,.int .i64 e.d,.int .i64 e.k,.int .i64 e.v] 54)=wb):=hwb
 have hsl:=lt_of_block hs
 have hs1:=(hb0.block _ hsl).trans hs
 have k0:wb.cell? ⟨sb,o,none⟩=some (.slice vp n vc):=cell_in hs1 ho
 have hebox:wb.heap[W.heap.size]? =some (.cells (seL e).toArray 54 (0,0)):=hbox
 have c0:wb.cell? ⟨W.heap.size,0,none⟩=some (.int .u64 e.t):=cell_in hbox rfl
 have c1:wb.cell? ⟨W.heap.size,1,none⟩=some (.int .i64 e.s):=cell_in hbox rfl
 have c2:wb.cell? ⟨W.heap.size,2,none⟩=some (.int .u64 e.q):=cell_in hbox rfl
 have c3:wb.cell? ⟨W.heap.size,3,none⟩=some (.int .i64 e.d):=cell_in hbox rfl
 have c4:wb.cell? ⟨W.heap.size,4,none⟩=some (.int .i64 e.k):=cell_in hbox rfl
 have c5:wb.cell? ⟨W.heap.size,5,none⟩=some (.int .i64 e.v):=cell_in hbox rfl
 have HO:Hid (∀W9,Below wb.heap.size wb W9→W9.ownsRow b 54 6 (.slice vp n vc) n (cellsF (seF X) (n*6))):=fun W9 h9=>(Own.later (Own.later hown hb0) h9)
 have p3:b≤wb.heap.size:=by omega
 have p1:n+1≤maxLen:=by unfold maxLen;omega
 have p2:(n+1)*48≤140737488355328:=by omega
 have hnk:(Value.slice vp n vc).ownBlock≠some W.heap.size:=fun h9=>by have:=(Own.lt hown _ h9).2;omega
 have hA6:Hid (∀j u,(seL e)[j]? =some u→(wb.drew.alloc (.cells #[.int .u64 e.t,.int .i64 e.s,.int .u64 e.q,.int .i64 e.d,.int .i64 e.k,.int .i64 e.v] 54)).cell? ((⟨wb.heap.size,0,none⟩:Addr).add j)=some u):=scells_new wb.drew (seL e) 54
 have HS:Hid (wb.heap[sb]? =some (.cells cs t (0,0))∧Below W.heap.size W wb∧sb<W.heap.size∧wb.heap.size=W.heap.size+1∧Own W b 54 6 (.slice vp n vc) n (seF X)):=⟨hs1,hb0,hsl,hsz,hown⟩
 have kA0:(wb.drew.alloc (.cells #[.int .u64 e.t,.int .i64 e.s,.int .u64 e.q,.int .i64 e.d,.int .i64 e.k,.int .i64 e.v] 54)).cell? ⟨sb,o,none⟩=some (.slice vp n vc):=(World.cell?_of_block ((blkDA wb _).block sb (by omega))).trans k0
 have kB0:(wb.alloc (.cells #[.int .u64 e.t,.int .i64 e.s,.int .u64 e.q,.int .i64 e.d,.int .i64 e.k,.int .i64 e.v] 54)).cell? ⟨sb,o,none⟩=some (.slice vp n vc):=(World.cell?_of_block (((Below.refl _ wb).alloc (Nat.le_refl _) _).block sb (by omega))).trans k0
 have HP:Hid (Hp n X):=hp
 have hwz:wb.heap.size=W.heap.size+1:=hsz
 clear hwb hown hb0 hbox hs1 hs hp hsz hebox hwz
 go_enter Tryz.func112,Tryz.ntmps112
 go_upto_region 1 with fail
 rw [HW.out]
 go_region_law ((refine step_ap rfl (.tmp 7) (.tmp 9) 123 rfl b 54 i5 _ 6 48 Tryz.underlying123 hi5 hz0 hz1 hz2 rfl (by decide) (.slice vp n vc) n _ (by simp [Act.eval]) (HO.out _ (blkDA wb _)) ⟨wb.heap.size,0,none⟩ 1 1 (seL e) (by simp [Act.eval]) rfl hA6.out (by simp [seL,Value.oneCell']) p1 p2 (by show b≤(World.alloc wb.drew _).heap.size;rw [World.size_alloc];exact Nat.le_succ_of_le p3) ?_;intro v' w6 hown' hgrow hat;obtain ⟨g6,c6,rfl⟩:=ownsRow_succ hown';have hsb6:=(hgrow.block sb (by show sb<(World.alloc wb.drew _).heap.size;rw [World.size_alloc];show _<wb.heap.size+1;have:=HS.out.2.2.1;have:=HS.out.2.2.2.1;omega) (fun e9=>hne e9.symm)).trans (((blkDA wb _).block sb (by have:=HS.out.2.2.1;have:=HS.out.2.2.2.1;omega)).trans HS.out.1);have n0:w6.cell? ⟨sb,o,none⟩=some (.slice vp n vc):=cell_in hsb6 ho;have nfz:w6.frozen? ⟨sb,o,none⟩=false:=frz hsb6 o))
 all_goals (
  obtain ⟨w7,hw7⟩: ∃w7,w6.setCell ⟨sb,o,none⟩ (.slice (some ⟨g6,0,none⟩) (n+1) c6)=w7:=⟨_,rfl⟩
  rw [hw7]
  have hat2:(Value.slice (some ⟨g6,0,none⟩) (n+1) c6).ownBlock=(Value.slice vp n vc).ownBlock∨g6=wb.heap.size+1:=by
   rcases hat with h9|h9
   ·exact .inl h9
   ·have h8:some g6=some _:=h9
    injection h8 with h8
    exact .inr (h8.trans (World.size_alloc _ _))
  have hg6:g6≠sb:=fun e9=>by
   rcases hat2 with h9|h9
   ·exact hne (h9.symm.trans (by rw [e9];rfl))
   ·have:=HS.out.2.2.1
    have:=HS.out.2.2.2.1
    omega
  have hs7:w7.heap[sb]? =some (.cells (cs.setIfInBounds o (.slice (some ⟨g6,0,none⟩) (n+1) c6)) t (0,0)):=by rw [←hw7,setCell_block _ _ _ _ hsb6]
  have hO6:Own w6 b 54 6 (.slice (some ⟨g6,0,none⟩) (n+1) c6) (n+1) (seF (setS X n e)):=by
   unfold Own
   rw [←seapp]
   exact hown'
  have hO7:SRow w7 b g6 (n+1) c6 (setS X n e):=hO6.far fun k hk=>by
   rw [←hw7]
   refine Below.heap_setCell _ _ _ _ ?_
   have h8:some g6=some k:=hk
   injection h8 with h8
   show k≠sb
   omega
  have holt:o<cs.size:=(Array.getElem?_eq_some_iff.1 ho).1
  have ho7:(cs.setIfInBounds o (.slice (some ⟨g6,0,none⟩) (n+1) c6))[o]? =some (.slice (some ⟨g6,0,none⟩) (n+1) c6):=by simp [holt]
  have KK: ∀w',Kp g6 w7 w'→Hid (w'.cell? ⟨sb,o,none⟩=some (.slice (some ⟨g6,0,none⟩) (n+1) c6)):=fun w' h9=>cell_in ((h9.block sb (lt_of_block hs7) (fun e9=>hg6 e9.symm)).trans hs7) ho7
  have hkd:Kp g6 w7 w7.drew:=Kp.below (drewS w7)
  have KP0:=(KK w7.drew hkd).out
  have HR:=rise_any (n:=n+1) n (Nat.lt_succ_self n) hn w7.drew (SRow.later hO7 (drewS w7)) (push_u HP.out e)
  have e1:IntKind.i64.wrap ((n:Int)+1-1)=(n:Int):=by rw [IntKind.wrap_i64];omega
  have e2:IntKind.i64.wrap (((n+1:Nat):Int)-1)=(n:Int):=by rw [IntKind.wrap_i64];omega
  have e3:IntKind.i64.wrap (n:Int)=(n:Int):=by rw [IntKind.wrap_i64];omega
  have hq6:Kq (fun k=>k=sb∨some k=(Value.slice vp n vc).ownBlock) W w7:=by
   rw [←hw7]
   have g1:=(Kq.grown hgrow).mono (T:=fun k=>k=sb∨some k=(Value.slice vp n vc).ownBlock) fun k _ e9=>.inr e9
   have g2:Kq (fun k=>k=sb∨some k=(Value.slice vp n vc).ownBlock) W wb:=Kq.below HS.out.2.1
   have g3:Kq (fun k=>k=sb∨some k=(Value.slice vp n vc).ownBlock) wb _:=Kq.below (blkDA wb (.cells #[.int .u64 e.t,.int .i64 e.s,.int .u64 e.q,.int .i64 e.d,.int .i64 e.k,.int .i64 e.v] 54))
   exact ((g2.trans g3).trans g1).trans (Kq.set _ _ _ _ (.inl rfl))
  have HF:Hid (Kq (fun k=>k=sb∨some k=(Value.slice vp n vc).ownBlock) W w7∧w7.heap[sb]? =some (.cells (cs.setIfInBounds o (.slice (some ⟨g6,0,none⟩) (n+1) c6)) t (0,0))∧((Value.slice (some ⟨g6,0,none⟩) (n+1) c6).ownBlock=(Value.slice vp n vc).ownBlock∨g6=wb.heap.size+1)∧g6≠sb):=⟨hq6,hs7,hat2,hg6⟩
  clear hw7 hO6 hO7 hs7 hsb6 n0 nfz hgrow hown' hat hat2 hq6 k0 kA0 kB0
  go_upto_region 2 with fail
  go_region_held3 (fun w'=>w'.cell? ⟨sb,o,none⟩=some (.slice (some ⟨g6,0,none⟩) (n+1) c6)) (first|with_reducible exact KP0|with_reducible exact KP1|go_keep) ((go_at_call 157;(with_reducible refine HR.mono ?_);rintro e9 w8 ⟨rfl,Y,hr8,hp8,hs8,hk8⟩;have hk78:Kp g6 w7 w8:=hkd.trans hk8;have KP1:=(KK w8 hk78).out))
  all_goals (
   go_wp2_with fail
   go_end0
   obtain ⟨f1,f2,f3,f4⟩:=HF.out
   refine ⟨rfl,_,Y,(hk78.block sb (lt_of_block f2) (fun e9=>f4 e9.symm)).trans f2,hr8,hp8,hs8,?_,?_⟩
   ·rcases f3 with f3|f3
    ·exact .inl f3
    ·exact .inr ⟨g6,rfl,by have:=HS.out.2.2.2.1;omega⟩
   ·refine f1.transM (T:=fun k=>k=g6) (Kq.kp hk78 (.inl rfl)) fun k hk e9=> ?_
    rcases f3 with f3|f3
    ·refine .inr ?_
     rw [←f3,e9]
     rfl
    ·have h9:k=g6:=e9
     have:=HS.out.2.2.2.1
     omega))
end Go.Proofs.YtecgecpgmpmkoaaGreat
namespace Go.Proofs.YtecgecpgmpmkoaaGreat
open Go.ChangeShapes Go.WideShapes Go.ChangeAt Go.RowKit
set_option linter.unusedVariables false
set_option linter.unusedSimpArgs false
set_option maxRecDepth 100000 in
set_option maxHeartbeats 4000000 in
theorem least_any (g n c:Nat) (b:Nat) (X:Nat→Se) (hn:0<n) (W:World) (h:SRow W b g n c X):Calls Tryz.prog 64 #[.slice (some ⟨g,0,none⟩) n c] W fun r W'=>r=.returned (.agg #[.int .u64 (X 0).t,.int .i64 (X 0).s,.int .u64 (X 0).q,.int .i64 (X 0).d,.int .i64 (X 0).k,.int .i64 (X 0).v])∧Below W.heap.size W W':=by
 obtain ⟨wb,hwb⟩: ∃wb,W.alloc (.cells #[.int .u64 0,.int .i64 0,.int .u64 0,.int .i64 0,.int .i64 0,.int .i64 0] 54)=wb:=⟨_,rfl⟩
 obtain ⟨hb0,hbox,hsz⟩:=boxed _ _ _ hwb
 have HW:Hid (W.alloc (.cells #[.int .u64 0,.int .i64 0,.int .u64 0,.int .i64 0,.int .i64 0,.int .i64 0] 54)=wb):=hwb
 have h1:=SRow.later h hb0
 obtain ⟨a0,a1,a2,a3,a4,a5⟩:=h1.cells hn
 simp only [Nat.zero_mul,Nat.zero_add] at a0 a1 a2 a3 a4 a5
 have i1:(0:Int)<(n:Int):=by omega
 rw [←hwb] at a0 a1 a2 a3 a4 a5
 have HB:Hid (Below W.heap.size W wb):=hb0
 clear hwb h h1 hbox hsz hb0
 go_enter Tryz.func64,Tryz.ntmps64
 go_wp2_with fail
 refine bodyPost_ret (v:=.agg #[.int .u64 (X 0).t,.int .i64 (X 0).s,.int .u64 (X 0).q,.int .i64 (X 0).d,.int .i64 (X 0).k,.int .i64 (X 0).v]) (by simp [results,Tryz.results64,go_sem];try rfl) rfl ?_
 exact ⟨rfl,(Below.refl _ W).alloc (Nat.le_refl _) _⟩
theorem SRow.cut {W:World} {b g n c:Nat} {X:Nat→Se} (h:SRow W b g (n+1) c X):SRow W b g n c X:=by
 obtain ⟨cur,h1,h2,h3,h4,h5,h6⟩:=Own.block h
 exact Own.mk' h1 h2 (by omega) h4 h5 fun j hj=>h6 j (by omega)
set_option maxRecDepth 100000 in
set_option maxHeartbeats 4000000 in
theorem qpop_any (sb o:Nat) (cs:Array Value) (t:TypeId) (b g n c:Nat) (X:Nat→Se) (W:World) (hs:W.heap[sb]? =some (.cells cs t (0,0))) (ho:cs[o]? =some (.slice (some ⟨g,0,none⟩) (n+1) c)) (hown:SRow W b g (n+1) c X) (hne:g≠sb) (hn:n+1≤2932031007402) (hp:Hp (n+1) X):
  Calls Tryz.prog 111 #[.pointer (some ⟨sb,o,none⟩)] W fun r W'=>r=.returned (.agg #[.int .u64 (X 0).t,.int .i64 (X 0).s,.int .u64 (X 0).q,.int .i64 (X 0).d,.int .i64 (X 0).k,.int .i64 (X 0).v])∧ ∃Y,W'.heap[sb]? =some (.cells (cs.setIfInBounds o (.slice (some ⟨g,0,none⟩) n c)) t (0,0))∧SRow W' b g n c Y∧Hp n Y∧Sam n (setS X 0 (X n)) Y∧Kq (fun k=>k=sb∨k=g) W W':=by
 obtain ⟨wb,hwb⟩: ∃wb,W.alloc (.cells #[.int .u64 0,.int .i64 0,.int .u64 0,.int .i64 0,.int .i64 0,.int .i64 0] 54)=wb:=⟨_,rfl⟩
 obtain ⟨hb0,hbox,hsz⟩:=boxed _ _ _ hwb
 have HW:Hid (W.alloc (.cells #[.int .u64 0,.int .i64 0,.int .u64 0,.int .i64 0,.int .i64 0,.int .i64 0] 54)=wb):=hwb
 have hsl:=lt_of_block hs
 have hs1:=(hb0.block _ hsl).trans hs
 have k0:wb.cell? ⟨sb,o,none⟩=some (.slice (some ⟨g,0,none⟩) (n+1) c):=cell_in hs1 ho
 have h1:=SRow.later hown hb0
 have e1:IntKind.i64.wrap ((n:Int)+1-1)=(n:Int):=by rw [IntKind.wrap_i64];omega
 have e2:IntKind.i64.wrap (((n+1:Nat):Int)-1)=(n:Int):=by rw [IntKind.wrap_i64];omega
 have e3:IntKind.i64.wrap (n:Int)=(n:Int):=by rw [IntKind.wrap_i64];omega
 obtain ⟨a0,a1,a2,a3,a4,a5⟩:=h1.cells (i:=0) (Nat.succ_pos n)
 simp only [Nat.zero_mul,Nat.zero_add] at a0 a1 a2 a3 a4 a5
 obtain ⟨E,hE⟩: ∃E,X 0=E:=⟨_,rfl⟩
 rw [hE] at a0 a1 a2 a3 a4 a5 ⊢
 rw [←hwb] at a0 a1 a2 a3 a4 a5 k0
 have HS:Hid (wb.heap[sb]? =some (.cells cs t (0,0))∧Below W.heap.size W wb∧sb<W.heap.size∧wb.heap.size=W.heap.size+1∧SRow wb b g (n+1) c X∧wb.heap[W.heap.size]? =some (.cells #[.int .u64 0,.int .i64 0,.int .u64 0,.int .i64 0,.int .i64 0,.int .i64 0] 54 (0,0))):=⟨hs1,hb0,hsl,hsz,h1,hbox⟩
 have HP:Hid (Hp (n+1) X):=hp
 have i0:(0:Int)<(n:Int)+1:=by omega
 have hglt:=h1.lt.2
 have hgl:g<W.heap.size:=hown.lt.2
 clear hwb hb0 hbox hs1 hs hp hsz h1 hE hown
 go_enter Tryz.func111,Tryz.ntmps111
 go_upto_region 3 with fail
 rw [HW.out]
 obtain ⟨w2,hw2⟩: ∃w2,wb.alloc (.cells #[.int .u64 E.t,.int .i64 E.s,.int .u64 E.q,.int .i64 E.d,.int .i64 E.k,.int .i64 E.v] 54)=w2:=⟨_,rfl⟩
 obtain ⟨hb2,hbx2,hsz2⟩:=boxed _ _ _ hw2
 rw [hw2]
 have r2:=SRow.later HS.out.2.2.2.2.1 hb2
 obtain ⟨b0,b1,b2,b3,b4,b5⟩:=r2.cells (i:=n) (Nat.lt_succ_self n)
 obtain ⟨L,hL⟩: ∃L,X n=L:=⟨_,rfl⟩
 rw [hL] at b0 b1 b2 b3 b4 b5
 obtain ⟨x0,x1,x2,x3,x4,x5⟩:=r2.cells (i:=0) (Nat.succ_pos n)
 simp only [Nat.zero_mul,Nat.zero_add] at x0 x1 x2 x3 x4 x5
 have fg:=r2.fz
 have j0:(0:Int)≤(n:Int):=by omega
 have j1:(n:Int)<(n:Int)+1:=by omega
 have H2:Hid (SRow w2 b g (n+1) c X∧Below wb.heap.size wb w2∧w2.heap[wb.heap.size]? =some (.cells #[.int .u64 E.t,.int .i64 E.s,.int .u64 E.q,.int .i64 E.d,.int .i64 E.k,.int .i64 E.v] 54 (0,0))∧X n=L):=⟨r2,hb2,hbx2,hL⟩
 clear a0 a1 a2 a3 a4 a5 k0 r2 hw2 hbx2 hL hsz2
 go_upto_region 4 with fail
 generalize hW3:(World.setCell (World.setCell (World.setCell (World.setCell (World.setCell (World.setCell w2 _ _) _ _) _ _) _ _) _ _) _ _)=w3
 have hr3:SRow w3 b g (n+1) c (setS X 0 L):=by
  rw [←hW3]
  exact H2.out.1.put 0 L
 have hk3:Kp g w2 w3:=by
  rw [←hW3]
  exact Kp.sets g (0*6) w2 (seL L)
 have hz2:=hb2.size
 have hs3:w3.heap[sb]? =some (.cells cs t (0,0)):=(hk3.block sb (by have:=HS.out.2.2.1;have:=HS.out.2.2.2.1;omega) (fun e9=>hne e9.symm)).trans ((hb2.block sb (by have:=HS.out.2.2.1;have:=HS.out.2.2.2.1;omega)).trans HS.out.1)
 have k3:w3.cell? ⟨sb,o,none⟩=some (.slice (some ⟨g,0,none⟩) (n+1) c):=cell_in hs3 ho
 have z3:=frz hs3 o
 have hcap:n+1≤c:=by
  obtain ⟨cur,q1,q2,q3,_⟩:=Own.block hr3
  exact q3
 have q1:(n:Int)≤(c:Int):=by omega
 have H3:Hid (SRow w3 b g (n+1) c (setS X 0 L)∧Kp g w2 w3∧w3.heap[sb]? =some (.cells cs t (0,0))):=⟨hr3,hk3,hs3⟩
 clear b0 b1 b2 b3 b4 b5 x0 x1 x2 x3 x4 x5 fg hW3 hr3 hk3 hs3
 go_upto_region 5 with fail
 obtain ⟨w4,hw4⟩: ∃w4,w3.setCell ⟨sb,o,none⟩ (.slice (some ⟨g,0,none⟩) n c)=w4:=⟨_,rfl⟩
 rw [hw4]
 have hs4:w4.heap[sb]? =some (.cells (cs.setIfInBounds o (.slice (some ⟨g,0,none⟩) n c)) t (0,0)):=by rw [←hw4,setCell_block _ _ _ _ H3.out.2.2]
 have hr4:SRow w4 b g n c (setS X 0 L):=(SRow.cut H3.out.1).far fun k hk=>by
  rw [←hw4]
  refine Below.heap_setCell _ _ _ _ ?_
  have h8:some g=some k:=hk
  injection h8 with h8
  show k≠sb
  omega
 have holt:o<cs.size:=(Array.getElem?_eq_some_iff.1 ho).1
 have ho4:(cs.setIfInBounds o (.slice (some ⟨g,0,none⟩) n c))[o]? =some (.slice (some ⟨g,0,none⟩) n c):=by simp [holt]
 have k4:w4.cell? ⟨sb,o,none⟩=some (.slice (some ⟨g,0,none⟩) n c):=cell_in hs4 ho4
 have hx0:=HS.out.2.2.2.1
 have hl4:=H2.out.2.2.2
 have HD:HpD n (setS X 0 L) 0:=by rw [←hl4];exact pop_d HP.out
 have HR:=sink_any (by omega) w4 hr4 HD
 have hk24:Kq (fun k=>k=sb∨k=g) w2 w4:=by
  rw [←hw4]
  exact (Kq.kp H3.out.2.1 (.inl (.inr rfl))).trans (Kq.set _ _ _ _ (.inl rfl))
 have H4:Hid (Kq (fun k=>k=sb∨k=g) w2 w4∧w4.heap[sb]? =some (.cells (cs.setIfInBounds o (.slice (some ⟨g,0,none⟩) n c)) t (0,0))):=⟨hk24,hs4⟩
 clear k3 z3 hw4 hs4 hr4 hk24 hl4 HD
 go_upto_region 6 with (go_at_call 156;(with_reducible refine HR.mono ?_);rintro e9 w5 ⟨rfl,Y,hr5,hp5,hs5,hk5⟩)
 have hk25:Kq (fun k=>k=sb∨k=g) w2 w5:=H4.out.1.trans (Kq.kp hk5 (.inl (.inr rfl)))
 have hwz:=HS.out.2.2.2.1
 have hle5:w5.heap[wb.heap.size]? =some (.cells #[.int .u64 E.t,.int .i64 E.s,.int .u64 E.q,.int .i64 E.d,.int .i64 E.k,.int .i64 E.v] 54 (0,0)):=(hk25.block _ (lt_of_block H2.out.2.2.1) (by rintro (h9|h9)<;>omega)).trans H2.out.2.2.1
 have hre5:w5.heap[W.heap.size]? =some (.cells #[.int .u64 0,.int .i64 0,.int .u64 0,.int .i64 0,.int .i64 0,.int .i64 0] 54 (0,0)):=(hk25.block _ (by omega) (by rintro (h9|h9)<;>omega)).trans ((hb2.block _ (by omega)).trans HS.out.2.2.2.2.2)
 rw [hwz] at hle5
 have l0:w5.cell? ⟨W.heap.size+1,0,none⟩=some (.int .u64 E.t):=cell_in hle5 rfl
 have l1:w5.cell? ⟨W.heap.size+1,1,none⟩=some (.int .i64 E.s):=cell_in hle5 rfl
 have l2:w5.cell? ⟨W.heap.size+1,2,none⟩=some (.int .u64 E.q):=cell_in hle5 rfl
 have l3:w5.cell? ⟨W.heap.size+1,3,none⟩=some (.int .i64 E.d):=cell_in hle5 rfl
 have l4:w5.cell? ⟨W.heap.size+1,4,none⟩=some (.int .i64 E.k):=cell_in hle5 rfl
 have l5:w5.cell? ⟨W.heap.size+1,5,none⟩=some (.int .i64 E.v):=cell_in hle5 rfl
 have m0:w5.cell? ⟨W.heap.size,0,none⟩=some (.int .u64 0):=cell_in hre5 rfl
 have m1:w5.cell? ⟨W.heap.size,1,none⟩=some (.int .i64 0):=cell_in hre5 rfl
 have m2:w5.cell? ⟨W.heap.size,2,none⟩=some (.int .u64 0):=cell_in hre5 rfl
 have m3:w5.cell? ⟨W.heap.size,3,none⟩=some (.int .i64 0):=cell_in hre5 rfl
 have m4:w5.cell? ⟨W.heap.size,4,none⟩=some (.int .i64 0):=cell_in hre5 rfl
 have m5:w5.cell? ⟨W.heap.size,5,none⟩=some (.int .i64 0):=cell_in hre5 rfl
 have fz:=fun k=>frz hre5 k
 have H5:Hid (SRow w5 b g n c Y∧Hp n Y∧Sam n (setS X 0 L) Y∧Kq (fun k=>k=sb∨k=g) w2 w5∧Kp g w4 w5∧w5.heap[W.heap.size]? =some (.cells #[.int .u64 0,.int .i64 0,.int .u64 0,.int .i64 0,.int .i64 0,.int .i64 0] 54 (0,0))):=⟨hr5,hp5,hs5,hk25,hk5,hre5⟩
 have HZ:Hid (wb.heap.size=W.heap.size+1∧wb.heap.size≤w2.heap.size∧g<W.heap.size∧sb<W.heap.size):=⟨hwz,hz2,hgl,hsl⟩
 clear hr5 hp5 hs5 hk25 hk5 hre5 hle5 hwz hx0
 go_wp2_with fail
 generalize hWF:(World.setCell (World.setCell (World.setCell (World.setCell (World.setCell (World.setCell w5 _ _) _ _) _ _) _ _) _ _) _ _)=wF
 have hres:wF.heap[W.heap.size]? =some (.cells #[.int .u64 E.t,.int .i64 E.s,.int .u64 E.q,.int .i64 E.d,.int .i64 E.k,.int .i64 E.v] 54 (0,0)):=by
  rw [←hWF,setCell_block _ _ _ _ (setCell_block _ _ _ _ (setCell_block _ _ _ _ (setCell_block _ _ _ _ (setCell_block _ _ _ _ (setCell_block _ _ _ _ H5.out.2.2.2.2.2)))))]
  rfl
 have hkF:Kp W.heap.size w5 wF:=by
  rw [←hWF]
  exact (((((Kp.set _ _ _ _).trans (Kp.set _ _ _ _)).trans (Kp.set _ _ _ _)).trans (Kp.set _ _ _ _)).trans (Kp.set _ _ _ _)).trans (Kp.set _ _ _ _)
 have f0:wF.cell? ⟨W.heap.size,0,none⟩=some (.int .u64 E.t):=cell_in hres rfl
 have f1:wF.cell? ⟨W.heap.size,1,none⟩=some (.int .i64 E.s):=cell_in hres rfl
 have f2:wF.cell? ⟨W.heap.size,2,none⟩=some (.int .u64 E.q):=cell_in hres rfl
 have f3:wF.cell? ⟨W.heap.size,3,none⟩=some (.int .i64 E.d):=cell_in hres rfl
 have f4:wF.cell? ⟨W.heap.size,4,none⟩=some (.int .i64 E.k):=cell_in hres rfl
 have f5:wF.cell? ⟨W.heap.size,5,none⟩=some (.int .i64 E.v):=cell_in hres rfl
 refine bodyPost_ret (v:=.agg #[.int .u64 E.t,.int .i64 E.s,.int .u64 E.q,.int .i64 E.d,.int .i64 E.k,.int .i64 E.v]) (by simp [results,Tryz.results111,go_sem,f0,f1,f2,f3,f4,f5];try rfl) rfl ?_
 obtain ⟨g1,g2,g3,g4,g5,g6⟩:=H5.out
 obtain ⟨z1,z2,z3,z4⟩:=HZ.out
 have hz5:=g4.size
 have q4:=H4.out.1.size
 rw [H2.out.2.2.2]
 refine ⟨rfl,Y,(hkF.block sb (by omega) (by omega)).trans ((g5.block sb (by omega) (fun e9=>hne e9.symm)).trans H4.out.2),Own.far g1 fun k hk=>hkF.block k ?_ ?_,g2,g3,?_⟩
 ·have h8:some g=some k:=hk
  injection h8 with h8
  omega
 ·have h8:some g=some k:=hk
  injection h8 with h8
  omega
 ·have a1:Kq (fun k=>k=sb∨k=g) W w2:=(Kq.below HS.out.2.1).trans (Kq.below H2.out.2.1)
  exact (a1.trans g4).transM (T:=fun k=>k=W.heap.size) (Kq.kp hkF (.inl rfl)) fun k hk e9=>by
   have:k=W.heap.size:=e9
   omega
end Go.Proofs.YtecgecpgmpmkoaaGreat
