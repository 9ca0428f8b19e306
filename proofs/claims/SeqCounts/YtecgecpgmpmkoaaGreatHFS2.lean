import Derived.Test.YtecgecpgmpmkoaaGreatHRO2
import Derived.BigQuiet
import Derived.Test.YtecgecpgmpmkoaaGreatHOP0
import Derived.Test.YtecgecpgmpmkoaaGreatHSV6
namespace Go.Proofs.YtecgecpgmpmkoaaGreat
open Go.ChangeShapes Go.WideShapes Go.ChangeAt Go.RowKit
set_option linter.unusedVariables false
set_option linter.unusedSimpArgs false
theorem neq_seV (a b c d e f:Int) (W:World):(binOp .neq 54 (.agg #[.int .u64 a,.int .i64 b,.int .u64 c,.int .i64 d,.int .i64 e,.int .i64 f]) (.agg #[.int .u64 a,.int .i64 b,.int .u64 c,.int .i64 d,.int .i64 e,.int .i64 f])).run Tryz.prog W=.ok (.bool false) W:=by
 go_simp
theorem SIn.congr {W:World} {p:Option Addr} {m:Nat} {X Y:Nat→Se} (h:SIn W p m X) (he: ∀j,j<m→X j=Y j):SIn W p m Y:=by
 rcases h with h|⟨b,o,h1,h2,h3⟩
 ·exact .inl h
 ·exact .inr ⟨b,o,h1,h2,fun j hj=>by rw [h3 j hj];unfold seF;rw [he (j / 6) (by omega)]⟩
theorem own_sin0 {W:World} {base n c:Nat} {p:Option Addr} {X:Nat→Se} (h:Own W base 54 6 (.slice p n c) n (seF X)):SIn W p n X:=by
 rcases h.form with ⟨h1,h2⟩|⟨g,c',h1,h2,h3⟩
 ·exact .inl h2
 ·injection h1 with e1 e2 e3
  subst e1
  subst e3
  refine .inr ⟨g,0,rfl,h3,fun j hj=> ?_⟩
  rw [Nat.zero_add]
  exact h.cell (j:=j) hj
set_option maxRecDepth 100000 in
set_option maxHeartbeats 2000000 in
theorem sEvents_yes (n:Nat) (X:Nat→Se) (p1 p2:Option Addr) (c1 c2:Nat) (hL:n≤2932031007402) (w:World) (h1:SIn w p1 n X) (h2:SIn w p2 n X):
  Calls Tryz.prog 24 #[.slice p1 n c1,.slice p2 n c2] w fun e w'=>e=.returned (.bool true)∧Below w.heap.size w w':=by
 have HH1:Hid (SIn w p1 n X):=h1
 have HH2:Hid (SIn w p2 n X):=h2
 clear h1 h2
 go_enter Tryz.func24,Tryz.ntmps24
 go_wp2
 go_loopw [13] (fun v wr=> ∃i:Nat,v=.int .i64 i∧i≤n∧Below w.heap.size w wr) (fun v _=>n-(intOf v).toNat)
 case atStart=>exact ⟨0,rfl,Nat.zero_le _,Below.refl _ _⟩
 case round=>
  obtain ⟨i,rfl,hi,hbel⟩:=hrel
  by_cases hlt:i<n
  ·have dl:decide ((i:Int)<n)=true:=decide_eq_true (by omega)
   have hm:=meas hlt
   obtain ⟨g1,o1,rfl,hg1,x0,x1,x2,x3,x4,x5⟩:=(HH1.out.below hbel).at hlt
   obtain ⟨g2,o2,rfl,hg2,y0,y1,y2,y3,y4,y5⟩:=(HH2.out.below hbel).at hlt
   have ne1:=neq_seV (X i).t (X i).s (X i).q (X i).d (X i).k (X i).v
   clear HH1 HH2
   go_wp2
   go_quiet (fail)
   go_wp2
   exact ⟨⟨i+1,rfl,hlt,hbel.trans (below_drewNq _ _ _)⟩,hm⟩
  ·have dl:decide ((i:Int)<n)=false:=decide_eq_false (by omega)
   obtain rfl:i=n:=by omega
   clear HH1 HH2
   go_wp2
   go_ret
   exact ⟨rfl,hbel⟩
end Go.Proofs.YtecgecpgmpmkoaaGreat
namespace Go.Proofs.YtecgecpgmpmkoaaGreat
open Go.ChangeShapes Go.WideShapes Go.ChangeAt Go.RowKit
set_option linter.unusedVariables false
set_option linter.unusedSimpArgs false
structure Sa where
 p:Option Addr
 n:Nat
 c:Nat
 d:Int
 s:Int
def saL (a:Sa):List Value:= [.slice a.p a.n a.c,.int .u64 a.d,.int .u64 a.s]
def saF (A:Nat→Sa) (x:Nat):Value:=(saL (A (x / 3))).getD (x % 3) undef
theorem saF_at (A:Nat→Sa) (i r:Nat) (h:r<3):saF A (i*3+r)=(saL (A i)).getD r undef:=by
 unfold saF
 rw [show (i*3+r) / 3=i by omega,show (i*3+r) % 3=r by omega]
theorem infoSA:(Tryz.prog.info? 62).map (fun i=>(i.zero,i.size,i.bytes))=some (some (.agg #[.slice none 0 0,.int .u64 0,.int .u64 0]),3,40):=by kernel_rfl
def ARow (W:World) (base g n cap:Nat) (A:Nat→Sa):Prop:=Own W base 62 3 (.slice (some ⟨g,0,none⟩) n cap) n (saF A)
theorem ARow.cells {W:World} {base g n cap:Nat} {A:Nat→Sa} (h:ARow W base g n cap A) {i:Nat} (hi:i<n):W.cell? ⟨g,i*3,none⟩=some (.slice (A i).p (A i).n (A i).c)∧W.cell? ⟨g,i*3+1,none⟩=some (.int .u64 (A i).d)∧W.cell? ⟨g,i*3+2,none⟩=some (.int .u64 (A i).s):=by
 have hh: ∀r,r<3→W.cell? ⟨g,i*3+r,none⟩=some ((saL (A i)).getD r undef):=fun r hr=>by rw [Own.cell h (j:=i*3+r) (by omega),saF_at _ _ _ hr]
 exact ⟨hh 0 (by decide),hh 1 (by decide),hh 2 (by decide)⟩
theorem ARow.fz {W:World} {base g n cap:Nat} {A:Nat→Sa} (h:ARow W base g n cap A) (k:Nat):W.frozen? ⟨g,k,none⟩=false:=by
 obtain ⟨cur,h1,_⟩:=Own.block h
 simp [World.frozen?,h1]
theorem ARow.lt {W:World} {base g n cap:Nat} {A:Nat→Sa} (h:ARow W base g n cap A):base≤g∧g<W.heap.size:=Own.lt h g rfl
theorem ARow.congr {W:World} {base g n cap:Nat} {A C:Nat→Sa} (h:ARow W base g n cap A) (he: ∀i,i<n→A i=C i):ARow W base g n cap C:=Own.congr h fun j hj=>by
 unfold saF
 rw [he (j / 3) (by omega)]
theorem ARow.put {W:World} {base g n cap:Nat} {A:Nat→Sa} (h:ARow W base g n cap A) (i:Nat) (a:Sa):ARow (W.setCells g (i*3) (saL a)) base g n cap (setS A i a):=by
 refine Own.congr (Own.put h (i*3) (saL a)) fun j hj=> ?_
 have hl:(saL a).length=3:=rfl
 unfold putF
 by_cases x:i*3≤j∧j<i*3+(saL a).length
 ·rw [if_pos x]
  obtain ⟨r,rfl⟩: ∃r,j=i*3+r:=⟨j-i*3,by omega⟩
  rw [saF_at _ _ _ (by omega),show i*3+r-i*3=r by omega]
  unfold setS
  rw [if_pos rfl]
 ·rw [if_neg x]
  unfold saF setS
  rw [if_neg (by omega)]
theorem ARow.put2 {W:World} {base g n cap:Nat} {A:Nat→Sa} (h:ARow W base g n cap A) (i:Nat) (s:Int):ARow (W.setCell ⟨g,i*3+2,none⟩ (.int .u64 s)) base g n cap (setS A i ⟨(A i).p,(A i).n,(A i).c,(A i).d,s⟩):=by
 refine Own.congr (Own.put h (i*3+2) [.int .u64 s]) fun j hj=> ?_
 unfold putF
 by_cases x:i*3+2≤j∧j<i*3+2+ [Value.int .u64 s].length
 ·rw [if_pos x]
  obtain rfl:j=i*3+2:=by
   have: [Value.int .u64 s].length=1:=rfl
   omega
  rw [saF_at _ _ _ (by omega),show i*3+2-(i*3+2)=0 by omega]
  unfold setS
  rw [if_pos rfl]
  rfl
 ·rw [if_neg x]
  have x':j≠i*3+2:=fun e=>x (by rw [e];exact ⟨Nat.le_refl _,Nat.lt_succ_self _⟩)
  unfold saF setS
  by_cases e:j / 3=i
  ·rw [if_pos e,e]
   have:j % 3=0∨j % 3=1:=by omega
   rcases this with e9|e9<;>rw [e9]<;>rfl
  ·rw [if_neg e]
theorem kb_sets (S:Nat→Prop) (g o:Nat) (W:World) (vs:List Value) (h:S g):Kb S W (W.setCells g o vs):=⟨by rw [setCells_size];exact Nat.le_refl _,fun k _ hs=>setCells_other g vs o W k fun e=>hs (by rw [e];exact h)⟩
theorem cells3p {W:World} {b:Nat} {c0 c1 c2:Value} {t:TypeId} (h:W.heap[b]? =some (.cells #[c0,c1,c2] t (0,0))):W.cell? ⟨b,0,none⟩=some c0∧W.cell? ⟨b,1,none⟩=some c1∧W.cell? ⟨b,2,none⟩=some c2:=by
 refine ⟨?_,?_,?_⟩
 all_goals (unfold World.cell?;rw [h];rfl)
theorem cells4p {W:World} {b:Nat} {c0 c1 c2 c3:Value} {t:TypeId} (h:W.heap[b]? =some (.cells #[c0,c1,c2,c3] t (0,0))):W.cell? ⟨b,0,none⟩=some c0∧W.cell? ⟨b,1,none⟩=some c1∧W.cell? ⟨b,2,none⟩=some c2∧W.cell? ⟨b,3,none⟩=some c3:=by
 refine ⟨?_,?_,?_,?_⟩
 all_goals (unfold World.cell?;rw [h];rfl)
theorem Kb.mono {S S':Nat→Prop} {W W':World} (h:Kb S W W') (hs: ∀k,S k→S' k):Kb S' W W':=⟨h.size,fun k hk h9=>h.block k hk fun e=>h9 (hs k e)⟩
theorem put3 {W:World} {b:Nat} {a0 a1 a2:Value} {t:TypeId} (h:W.heap[b]? =some (.cells #[a0,a1,a2] t (0,0))) (c0 c1 c2:Value) (W':World) (e:((W.setCell ⟨b,0,none⟩ c0).setCell ⟨b,1,none⟩ c1).setCell ⟨b,2,none⟩ c2=W'):W'.heap[b]? =some (.cells #[c0,c1,c2] t (0,0))∧(∀k,k≠b→W'.heap[k]? =W.heap[k]?)∧(∀B w0,Below B w0 W→B≤b→Below B w0 W')∧W'.heap.size=W.heap.size:=by
 subst e
 have h0:(W.setCell ⟨b,0,none⟩ c0).heap[b]? =some (.cells #[c0,a1,a2] t (0,0)):=by rw [setCell_block _ _ _ _ h];rfl
 have h1:((W.setCell ⟨b,0,none⟩ c0).setCell ⟨b,1,none⟩ c1).heap[b]? =some (.cells #[c0,c1,a2] t (0,0)):=by rw [setCell_block _ _ _ _ h0];rfl
 refine ⟨by rw [setCell_block _ _ _ _ h1];rfl,fun k hk=> ?_,fun B w0 hb hB=> ?_,by simp [World.setCell]⟩
 ·rw [Below.heap_setCell _ _ _ _ hk,Below.heap_setCell _ _ _ _ hk,Below.heap_setCell _ _ _ _ hk]
 ·exact ((hb.setCell (p:=⟨b,0,none⟩) hB _).setCell (p:=⟨b,1,none⟩) hB _).setCell (p:=⟨b,2,none⟩) hB _
def cntS (S:Nat→St):Nat→Int→Nat
 |0,_=>0
 |i+1,d=>cntS S i d+(if (S i).d=d then 1 else 0)
theorem cntS_le (S:Nat→St) (i:Nat) (d:Int):cntS S i d≤i:=by
 induction i with
 |zero=>exact Nat.le_refl _
 |succ i ih=>
  show cntS S i d+(if (S i).d=d then 1 else 0)≤i+1
  split<;>omega
def evS (S:Nat→St) (i:Nat):Se:=⟨(S i).t,(S i).d,(cntS S i (S i).d:Nat),(S i).d,(S i).k,(S i).v⟩
def dz (m:Int) (j:Nat):Int:=U (sd (B m) (B (j:Int)))
def sA (A:Nat→Sa) (S:Nat→St) (i:Nat):Nat→Sa:=fun j=>⟨(A j).p,(A j).n,(A j).c,(A j).d,(cntS S i (j:Int):Nat)⟩
theorem sA_zero {A:Nat→Sa} {S:Nat→St} {n:Nat} (h: ∀j,j<n→(A j).s=0): ∀j,j<n→A j=sA A S 0 j:=fun j hj=>by
 have:=h j hj
 unfold sA cntS
 cases hA:A j
 rw [hA] at this
 simp at this ⊢
 exact this
theorem sA_step (A:Nat→Sa) (S:Nat→St) (i dn:Nat) (h:(S i).d=(dn:Int)):setS (sA A S i) dn ⟨(sA A S i dn).p,(sA A S i dn).n,(sA A S i dn).c,(sA A S i dn).d,((cntS S i (dn:Int):Nat):Int)+1⟩=sA A S (i+1):=by
 funext j
 unfold setS
 by_cases e:j=dn
 ·rw [if_pos e,e]
  unfold sA
  show _=(⟨_,_,_,_,((cntS S i (dn:Int)+(if (S i).d=(dn:Int) then 1 else 0):Nat):Int)⟩:Sa)
  rw [if_pos h]
  rfl
 ·rw [if_neg e]
  unfold sA
  show _=(⟨_,_,_,_,((cntS S i (j:Int)+(if (S i).d=(j:Int) then 1 else 0):Nat):Int)⟩:Sa)
  rw [if_neg (by rw [h];omega)]
  rfl
def AOk (W:World) (p:Pl) (r:Value) (b:Nat) (A:Nat→Sa) (n:Nat):Prop:= ∀j,j<n→(A j).n=p.nw j∧(A j).d=dz p.sd j∧(A j).s=0∧KAt W (A j).p (p.nw j) (p.K j)∧EA W r b (A j).p
theorem EA.kept {W W9:World} {r:Value} {b:Nat} {p:Option Addr} (h:EA W r b p) (h2:W.heap.size≤W9.heap.size):EA W9 r b p:=fun g o e=>by
 obtain ⟨a1,a2,a3⟩:=h g o e
 exact ⟨a1,by omega,a3⟩
theorem AOk.kb {W W':World} {p:Pl} {r:Value} {b:Nat} {A:Nat→Sa} {n:Nat} (h:AOk W p r b A n) (hk:Kb (fun k=>some k=r.ownBlock) W W'):AOk W' p r b A n:=fun j hj=>by
 obtain ⟨h1,h2,h3,h4,h5⟩:=h j hj
 exact ⟨h1,h2,h3,h4.kb hk (fun g o e=>(h5 g o e).2.2),h5.kept hk.size⟩
def SsAt (W:World) (p:Option Addr) (n:Nat) (A:Nat→Sa) (K:Nat→Nat→Int):Prop:=n=0∨ ∃g o,p=some ⟨g,o,none⟩∧g<W.heap.size∧(∀j,j<n→W.cell? ⟨g,o+j*3,none⟩=some (.slice (A j).p (A j).n (A j).c)∧W.cell? ⟨g,o+j*3+1,none⟩=some (.int .u64 (A j).d)∧W.cell? ⟨g,o+j*3+2,none⟩=some (.int .u64 (A j).s))∧ ∀j,j<n→KAt W (A j).p (A j).n (K j)
theorem SsAt.below {W W':World} {p:Option Addr} {n:Nat} {A:Nat→Sa} {K:Nat→Nat→Int} (h:SsAt W p n A K) (hb:Below W.heap.size W W'):SsAt W' p n A K:=by
 rcases h with h|⟨g,o,rfl,hl,hc,hp⟩
 ·exact .inl h
 ·exact .inr ⟨g,o,rfl,Nat.lt_of_lt_of_le hl hb.size,fun j hj=>⟨(cell_below (a:=⟨g,o+j*3,none⟩) hb hl).trans (hc j hj).1,(cell_below (a:=⟨g,o+j*3+1,none⟩) hb hl).trans (hc j hj).2.1,(cell_below (a:=⟨g,o+j*3+2,none⟩) hb hl).trans (hc j hj).2.2⟩,fun j hj=>(hp j hj).below hb⟩
theorem own_ss {W:World} {base n:Nat} {v:Value} {A:Nat→Sa} {K:Nat→Nat→Int} (h:Own W base 62 3 v n (saF A)) (hp: ∀j,j<n→KAt W (A j).p (A j).n (K j)): ∃q c,v=.slice q n c∧SsAt W q n A K:=by
 rcases h.form with ⟨h1,h2⟩|⟨g,c,h1,h2,h3⟩
 ·exact ⟨none,0,by rw [h1,h2],.inl h2⟩
 ·subst h1
  refine ⟨_,c,rfl,.inr ⟨g,0,rfl,h3,fun j hj=> ?_,hp⟩⟩
  rw [Nat.zero_add]
  exact ARow.cells h hj
end Go.Proofs.YtecgecpgmpmkoaaGreat
