import Derived.Test.YtecgecpgmpmkoaaGreatHOP0
import Derived.Test.YtecgecpgmpmkoaaGreatHFS2
namespace Go.Proofs.YtecgecpgmpmkoaaGreat
open Go.ChangeShapes Go.WideShapes Go.ChangeAt Go.RowKit
set_option linter.unusedVariables false
set_option linter.unusedSimpArgs false
theorem saF_one (A:Nat→Sa) (j:Nat):(saF A j).oneCell'=true:=by
 unfold saF saL
 have:j % 3=0∨j % 3=1∨j % 3=2:=by omega
 rcases this with h|h|h<;>rw [h]<;>rfl
theorem SsAt.cin {W:World} {p:Option Addr} {n:Nat} {A:Nat→Sa} {K:Nat→Nat→Int} (h:SsAt W p n A K):CIn W p n 3 (saF A):=by
 rcases h with h|⟨g,o,h1,h2,h3,_⟩
 ·exact .inl h
 ·refine .inr ⟨g,o,h1,h2,fun x hx=> ?_⟩
  obtain ⟨i,r,hr,rfl⟩: ∃i r,r<3∧x=i*3+r:=⟨x / 3,x % 3,by omega,by omega⟩
  obtain ⟨c0,c1,c2⟩:=h3 i (by omega)
  rw [saF_at _ _ _ hr,←Nat.add_assoc]
  have:r=0∨r=1∨r=2:=by omega
  rcases this with rfl|rfl|rfl
  ·exact c0
  ·exact c1
  ·exact c2
theorem ARow.put0 {W:World} {base g n cap:Nat} {A:Nat→Sa} (h:ARow W base g n cap A) (i:Nat) (q:Option Addr) (m c:Nat):ARow (W.setCell ⟨g,i*3,none⟩ (.slice q m c)) base g n cap (setS A i ⟨q,m,c,(A i).d,(A i).s⟩):=by
 refine Own.congr (Own.put h (i*3) [.slice q m c]) fun j hj=> ?_
 unfold putF
 by_cases x:i*3≤j∧j<i*3+ [Value.slice q m c].length
 ·rw [if_pos x]
  obtain rfl:j=i*3:=by
   have: [Value.slice q m c].length=1:=rfl
   omega
  rw [show i*3=i*3+0 by omega,saF_at _ _ _ (by omega),show i*3+0-(i*3+0)=0 by omega]
  unfold setS
  rw [if_pos rfl]
  rfl
 ·rw [if_neg x]
  have x':j≠i*3:=fun e=>x (by rw [e];exact ⟨Nat.le_refl _,Nat.lt_succ_self _⟩)
  unfold saF setS
  by_cases e:j / 3=i
  ·rw [if_pos e,e]
   have:j % 3=1∨j % 3=2:=by omega
   rcases this with e9|e9<;>rw [e9]<;>rfl
  ·rw [if_neg e]
def SaEq (n:Nat) (A C:Nat→Sa):Prop:= ∀j,j<n→(C j).n=(A j).n∧(C j).d=(A j).d∧(C j).s=(A j).s
structure StRow (W:World) (b:Nat) (v:Value) (n:Nat) (A:Nat→Sa) (K:Nat→Nat→Int):Prop where
 row:Own W b 62 3 v n (saF A)
 wds: ∀j,j<n→KAt W (A j).p (A j).n (K j)∧EA W v b (A j).p
theorem StRow.ss {W:World} {b:Nat} {q:Option Addr} {n c:Nat} {A:Nat→Sa} {K:Nat→Nat→Int} (h:StRow W b (.slice q n c) n A K):SsAt W q n A K:=by
 obtain ⟨q',c',e,hs⟩:=own_ss h.row (fun j hj=>(h.wds j hj).1)
 injection e with e1 e2 e3
 subst e1
 exact hs
set_option maxRecDepth 100000 in
set_option maxHeartbeats 4000000 in
theorem copiedStates_any (p:Option Addr) (n c:Nat) (A:Nat→Sa) (K:Nat→Nat→Int) (hn:n*40≤140737488355328) (hw: ∀j,j<n→(A j).n≤17592186044416) (w:World) (h:SsAt w p n A K):
  Calls Tryz.prog 68 #[.slice p n c] w fun e w'=> ∃(q:Option Addr) (cc:Nat) (C:Nat→Sa),e=.returned (.slice q n cc)∧StRow w' w.heap.size (.slice q n cc) n C K∧SaEq n A C∧Below w.heap.size w w':=by
 have HS:Hid (SsAt w p n A K∧ ∀j,j<n→(A j).n≤17592186044416):=⟨h,hw⟩
 have HC:=cloneS_any p n c (saF A) w hn h.cin (fun j _=>saF_one A j)
 clear h hw
 go_enter Tryz.func68,Tryz.ntmps68
 go_wp2_with (go_at_call 113;(with_reducible refine HC.mono ?_);rintro e w1 ⟨q,cc,rfl,ho1,hb1⟩)
 have H1:Hid (Own w1 w.heap.size 62 3 (.slice q n cc) n (saF A)∧Below w.heap.size w w1):=⟨ho1,hb1⟩
 clear ho1 hb1 HC
 go_loopw [10] (fun x wr=> ∃(i:Nat) (C:Nat→Sa),x=.int .i64 (i:Int)∧i≤n∧Own wr w.heap.size 62 3 (.slice q n cc) n (saF C)∧(∀j,j<i→KAt wr (C j).p (C j).n (K j)∧EA wr (.slice q n cc) w.heap.size (C j).p)∧(∀j,j<n→(C j).n=(A j).n∧(C j).d=(A j).d∧(C j).s=(A j).s)∧(∀j,i≤j→C j=A j)∧Below w.heap.size w wr) (fun x _=>n-(intOf x).toNat)
 case atStart=>exact ⟨0,A,rfl,Nat.zero_le _,H1.out.1,fun j hj=>absurd hj (Nat.not_lt_zero _),fun j hj=>⟨rfl,rfl,rfl⟩,fun j _=>rfl,H1.out.2⟩
 case round=>
  obtain ⟨i,C,rfl,hi,ho,hk,he,ha,hb⟩:=hrel
  by_cases hlt:i<n
  case pos=>
   have dlt:decide ((i:Int)<(n:Int))=true:=by simp;omega
   have i0:(0:Int)≤(i:Int):=by omega
   have i1:(i:Int)<(n:Int):=by omega
   have ei:IntKind.i64.wrap ((i:Int)+1)=(i:Int)+1:=by rw [IntKind.wrap_i64];omega
   have hme:=meas hlt
   obtain ⟨g,hq⟩: ∃g,q=some ⟨g,0,none⟩:=by
    rcases ho.form with ⟨h1,h2⟩|⟨g,c',h1,h2,h3⟩
    ·omega
    ·injection h1 with e1 e2 e3
     exact ⟨g,e1⟩
   subst hq
   have hrow:ARow wr w.heap.size g n cc C:=ho
   obtain ⟨x0,x1,x2⟩:=hrow.cells hlt
   rw [ha i (Nat.le_refl _)] at x0 x1 x2
   obtain hz|⟨gp9,op9,he9,hl9,hc9,hkw⟩:=HS.out.1
   ·omega
   clear he9 hl9 hc9
   have hbx:Below wr.heap.size wr (wr.alloc (.cells #[.slice (A i).p (A i).n (A i).c,.int .u64 (A i).d,.int .u64 (A i).s] 62)):=(Below.refl _ wr).alloc (Nat.le_refl _) _
   have hbw:=hb.trans (hbx.mono hb.size)
   have HC:=clone_any (A i).p (A i).n (A i).c (K i) _ (HS.out.2 i hlt) ((hkw i hlt).below hbw)
   have hgl:=hrow.lt
   have hn1:wr.heap.size≠g:=by omega
   have HA:Hid (ARow wr w.heap.size g n cc C∧(∀j,j<i→KAt wr (C j).p (C j).n (K j)∧EA wr (.slice (some ⟨g,0,none⟩) n cc) w.heap.size (C j).p)∧(∀j,j<n→(C j).n=(A j).n∧(C j).d=(A j).d∧(C j).s=(A j).s)∧(∀j,i≤j→C j=A j)∧Below w.heap.size w wr∧Below wr.heap.size wr (wr.alloc (.cells #[.slice (A i).p (A i).n (A i).c,.int .u64 (A i).d,.int .u64 (A i).s] 62))):=⟨hrow,hk,he,ha,hb,hbx⟩
   clear ho hk he ha hb hrow hkw hbx hbw
   go_wp2_with (go_at_call 102;(with_reducible refine HC.mono ?_);rintro e w3 ⟨q3,c3,rfl,hq3,hqn3,hb3⟩;have hrow3:ARow w3 w.heap.size g n cc C:=Own.later HA.out.1 (HA.out.2.2.2.2.2.trans (hb3.mono HA.out.2.2.2.2.2.size));have f0:=hrow3.fz (i*3);obtain ⟨k0,k1,k2⟩:=hrow3.cells hlt;have hn3:wr.heap.size<w3.heap.size:=Nat.lt_of_lt_of_le (by rw [World.size_alloc];exact Nat.lt_succ_self _) hb3.size;have H3:Hid (ARow w3 w.heap.size g n cc C∧KAt w3 q3 (A i).n (K i)∧(∀g o,q3=some ⟨g,o,none⟩→wr.heap.size<g∧g<w3.heap.size)∧Below wr.heap.size wr w3):=⟨hrow3,hq3,fun g o e=>⟨by have:=(hqn3 g o e).1;rw [World.size_alloc] at this;omega,(hqn3 g o e).2⟩,HA.out.2.2.2.2.2.trans (hb3.mono HA.out.2.2.2.2.2.size)⟩;clear hrow3 hq3 hqn3 hb3 hn3)
   obtain ⟨a1,a2,a3,a4,a5,a6⟩:=HA.out
   obtain ⟨b1,b2,b3,b4⟩:=H3.out
   have hgl3:=a1.lt
   have hz4:=b4.size
   obtain ⟨W',hW'⟩: ∃W',w3.setCell ⟨g,i*3,none⟩ (.slice q3 (A i).n c3)=W':=⟨_,rfl⟩
   have hk4:Kb (fun k=>some k=(Value.slice (some ⟨g,0,none⟩) n cc).ownBlock) w3 W':=by rw [←hW'];exact Kb.set w3 g (i*3) _ rfl
   have hkk:Kb (fun k=>some k=(Value.slice (some ⟨g,0,none⟩) n cc).ownBlock) wr W':=(Kb.below b4).trans hk4
   have hnew:ARow W' w.heap.size g n cc (setS C i ⟨q3,(A i).n,c3,(C i).d,(C i).s⟩):=by rw [←hW'];exact b1.put0 i q3 (A i).n c3
   have hbn:Below w.heap.size w W':=by
    rw [←hW']
    exact (a5.trans (b4.mono a5.size)).setCell (p:=⟨g,i*3,none⟩) hgl3.1 _
   have eaq:EA W' (.slice (some ⟨g,0,none⟩) n cc) w.heap.size q3:=fun g' o' e'=>by
    obtain ⟨l1,l2⟩:=b3 g' o' e'
    have:=hk4.size
    refine ⟨by have:=a5.size;omega,by omega,fun e9=> ?_⟩
    have e8:some g'=some g:=e9
    injection e8 with e8
    omega
   subst hW'
   refine ⟨⟨i+1,setS C i ⟨q3,(A i).n,c3,(C i).d,(C i).s⟩,rfl,hlt,?_,fun j hj=> ?_,fun j hj=> ?_,fun j hj=> ?_,hbn⟩,hme⟩
   ·exact hnew
   ·unfold setS
    by_cases e:j=i
    ·rw [if_pos e,e]
     exact ⟨b2.kb hk4 (fun g' o' e'=>(eaq g' o' e').2.2),eaq⟩
    ·rw [if_neg e]
     obtain ⟨u1,u2⟩:=a2 j (by omega)
     exact ⟨u1.kb hkk (fun g' o' e'=>(u2 g' o' e').2.2),u2.kept hkk.size⟩
   ·unfold setS
    by_cases e:j=i
    ·rw [if_pos e,e]
     exact ⟨rfl,(a3 i hlt).2⟩
    ·rw [if_neg e]
     exact a3 j hj
   ·unfold setS
    rw [if_neg (by omega)]
    exact a4 j (by omega)
  have dlt:decide ((i:Int)<(n:Int))=false:=by simp;omega
  obtain rfl:i=n:=by omega
  have HF:Hid (StRow wr w.heap.size (.slice q i cc) i C K∧SaEq i A C∧Below w.heap.size w wr):=⟨⟨ho,hk⟩,he,hb⟩
  clear ho hk he ha hb
  go_wp2_with fail
  go_ret
  exact ⟨q,cc,C,rfl,HF.out⟩
end Go.Proofs.YtecgecpgmpmkoaaGreat
namespace Go.Proofs.YtecgecpgmpmkoaaGreat
open Go.ChangeShapes Go.WideShapes Go.ChangeAt Go.RowKit
set_option linter.unusedVariables false
set_option linter.unusedSimpArgs false
def inF (op a b:Nat→Int) (x:Nat):Value:=([.int .i64 (op (x / 3)),.int .i64 (a (x / 3)),.int .i64 (b (x / 3))]:List Value).getD (x % 3) undef
theorem inF_one (op a b:Nat→Int) (j:Nat):(inF op a b j).oneCell'=true:=by
 unfold inF
 have:j % 3=0∨j % 3=1∨j % 3=2:=by omega
 rcases this with h|h|h<;>rw [h]<;>rfl
theorem IAt.cin {W:World} {p:Option Addr} {n:Nat} {op a b:Nat→Int} (h:IAt W p n op a b):CIn W p n 3 (inF op a b):=by
 rcases h with h|⟨g,o,h1,h2,h3⟩
 ·exact .inl h
 ·refine .inr ⟨g,o,h1,h2,fun x hx=> ?_⟩
  obtain ⟨i,r,hr,rfl⟩: ∃i r,r<3∧x=i*3+r:=⟨x / 3,x % 3,by omega,by omega⟩
  obtain ⟨c0,c1,c2⟩:=h3 i (by omega)
  unfold inF
  rw [show (i*3+r) / 3=i by omega,show (i*3+r) % 3=r by omega,←Nat.add_assoc]
  have:r=0∨r=1∨r=2:=by omega
  rcases this with rfl|rfl|rfl
  ·exact c0
  ·exact c1
  ·exact c2
theorem KAt.cin {W:World} {p:Option Addr} {n:Nat} {K:Nat→Int} (h:KAt W p n K):CIn W p n 1 (iv K):=by
 rcases h with h|⟨g,o,h1,h2,h3⟩
 ·exact .inl h
 ·exact .inr ⟨g,o,h1,h2,fun x hx=>h3 x (by omega)⟩
theorem own_iat {W:World} {base n c:Nat} {q:Option Addr} {op a b:Nat→Int} (h:Own W base 139 3 (.slice q n c) n (inF op a b)):IAt W q n op a b∧ ∀g o,q=some ⟨g,o,none⟩→0<n→base≤g∧g<W.heap.size:=by
 rcases h.form with ⟨h1,h2⟩|⟨g,c',h1,h2,h3⟩
 ·exact ⟨.inl h2,fun g o _ h0=>by omega⟩
 ·injection h1 with e1 e2 e3
  subst e1
  subst e3
  refine ⟨.inr ⟨g,0,rfl,h3,fun j hj=> ?_⟩,fun g' o e _=> ?_⟩
  ·have key: ∀r,r<3→W.cell? ⟨g,0+j*3+r,none⟩=some (([.int .i64 (op j),.int .i64 (a j),.int .i64 (b j)]:List Value).getD r undef):=fun r hr=>by
    rw [Nat.zero_add,h.cell (j:=j*3+r) (by omega)]
    unfold inF
    rw [show (j*3+r) / 3=j by omega,show (j*3+r) % 3=r by omega]
   exact ⟨key 0 (by decide),key 1 (by decide),key 2 (by decide)⟩
  ·cases e
   exact ⟨h2,h3⟩
theorem own_katn {W:World} {base n c:Nat} {q:Option Addr} {K:Nat→Int} (h:Own W base 3 1 (.slice q n c) n (iv K)):KAt W q n K∧ ∀g o,q=some ⟨g,o,none⟩→0<n→base≤g∧g<W.heap.size:=by
 rcases h.form with ⟨h1,h2⟩|⟨g,c',h1,h2,h3⟩
 ·exact ⟨.inl h2,fun g o _ h0=>by omega⟩
 ·injection h1 with e1 e2 e3
  subst e1
  subst e3
  refine ⟨.inr ⟨g,0,rfl,h3,fun j hj=>by rw [Nat.zero_add];exact h.cell (j:=j) (by omega)⟩,fun g' o e _=> ?_⟩
  cases e
  exact ⟨h2,h3⟩
theorem pgF_one (P:Nat→Pg) (V:Nat→PgV) (j:Nat):(pgF P V j).oneCell'=true:=by
 unfold pgF pgL
 have:j % 4=0∨j % 4=1∨j % 4=2∨j % 4=3:=by omega
 rcases this with h|h|h|h<;>rw [h]<;>rfl
theorem PsAt.cin {W:World} {p:Option Addr} {n:Nat} {P:Nat→Pg} {V:Nat→PgV} (h:PsAt W p n P V):CIn W p n 4 (pgF P V):=by
 rcases h with h|⟨g,o,h1,h2,h3,_⟩
 ·exact .inl h
 ·refine .inr ⟨g,o,h1,h2,fun x hx=> ?_⟩
  obtain ⟨i,r,hr,rfl⟩: ∃i r,r<4∧x=i*4+r:=⟨x / 4,x % 4,by omega,by omega⟩
  obtain ⟨c0,c1,c2,c3⟩:=h3 i (by omega)
  unfold pgF pgL
  rw [show (i*4+r) / 4=i by omega,show (i*4+r) % 4=r by omega,←Nat.add_assoc]
  have:r=0∨r=1∨r=2∨r=3:=by omega
  rcases this with rfl|rfl|rfl|rfl
  ·exact c0
  ·exact c1
  ·exact c2
  ·exact c3
def PRow (W:World) (base g n cap:Nat) (P:Nat→Pg) (V:Nat→PgV):Prop:=Own W base 103 4 (.slice (some ⟨g,0,none⟩) n cap) n (pgF P V)
theorem PRow.cells {W:World} {base g n cap:Nat} {P:Nat→Pg} {V:Nat→PgV} (h:PRow W base g n cap P V) {i:Nat} (hi:i<n):W.cell? ⟨g,i*4,none⟩=some (.int .i64 (P i).words)∧W.cell? ⟨g,i*4+1,none⟩=some (.int .i64 (P i).locals)∧W.cell? ⟨g,i*4+2,none⟩=some (.slice (V i).cp (P i).n (V i).cc)∧W.cell? ⟨g,i*4+3,none⟩=some (.slice (V i).ep (P i).m (V i).ec):=by
 have hh: ∀r,r<4→W.cell? ⟨g,i*4+r,none⟩=some ((pgL (P i) (V i)).getD r undef):=fun r hr=>by
  rw [Own.cell h (j:=i*4+r) (by omega)]
  unfold pgF
  rw [show (i*4+r) / 4=i by omega,show (i*4+r) % 4=r by omega]
 exact ⟨hh 0 (by decide),hh 1 (by decide),hh 2 (by decide),hh 3 (by decide)⟩
theorem PRow.fz {W:World} {base g n cap:Nat} {P:Nat→Pg} {V:Nat→PgV} (h:PRow W base g n cap P V) (k:Nat):W.frozen? ⟨g,k,none⟩=false:=by
 obtain ⟨cur,h1,_⟩:=Own.block h
 simp [World.frozen?,h1]
theorem PRow.lt {W:World} {base g n cap:Nat} {P:Nat→Pg} {V:Nat→PgV} (h:PRow W base g n cap P V):base≤g∧g<W.heap.size:=Own.lt h g rfl
theorem PRow.put {W:World} {base g n cap:Nat} {P:Nat→Pg} {V:Nat→PgV} (h:PRow W base g n cap P V) (i:Nat) (u:PgV):PRow ((W.setCell ⟨g,i*4+2,none⟩ (.slice u.cp (P i).n u.cc)).setCell ⟨g,i*4+3,none⟩ (.slice u.ep (P i).m u.ec)) base g n cap P (setS V i u):=by
 refine Own.congr (Own.put h (i*4+2) [.slice u.cp (P i).n u.cc,.slice u.ep (P i).m u.ec]) fun j hj=> ?_
 have hl: [Value.slice u.cp (P i).n u.cc,Value.slice u.ep (P i).m u.ec].length=2:=rfl
 unfold putF
 rw [hl]
 unfold pgF setS
 by_cases e:j / 4=i
 ·rw [if_pos e,e]
  by_cases x:i*4+2≤j∧j<i*4+2+2
  ·rw [if_pos x]
   have:j=i*4+2∨j=i*4+3:=by omega
   rcases this with rfl|rfl
   ·rw [show i*4+2-(i*4+2)=0 by omega,show (i*4+2) % 4=2 by omega]
    rfl
   ·rw [show i*4+3-(i*4+2)=1 by omega,show (i*4+3) % 4=3 by omega]
    rfl
  ·rw [if_neg x]
   have:j % 4=0∨j % 4=1:=by omega
   rcases this with e9|e9<;>rw [e9]<;>rfl
 ·rw [if_neg e,if_neg (by omega)]
theorem pkeep {W:World} {g b o1:Nat} {x y u:Value} (h1:b≠g) (h:W.cell? ⟨b,2,none⟩=some x∧W.cell? ⟨b,3,none⟩=some y):(W.setCell ⟨g,o1,none⟩ u).cell? ⟨b,2,none⟩=some x∧(W.setCell ⟨g,o1,none⟩ u).cell? ⟨b,3,none⟩=some y:=by
 have key:(W.setCell ⟨g,o1,none⟩ u).heap[b]? =W.heap[b]? :=Below.heap_setCell _ _ _ _ h1
 exact ⟨(World.cell?_of_block key).trans h.1,(World.cell?_of_block key).trans h.2⟩
theorem pkeep2 {W:World} {g b o1 o2:Nat} {x y u v:Value} (h1:b≠g) (h:W.cell? ⟨b,2,none⟩=some x∧W.cell? ⟨b,3,none⟩=some y):((W.setCell ⟨g,o1,none⟩ u).setCell ⟨g,o2,none⟩ v).cell? ⟨b,2,none⟩=some x∧((W.setCell ⟨g,o1,none⟩ u).setCell ⟨g,o2,none⟩ v).cell? ⟨b,3,none⟩=some y:=by
 have key:((W.setCell ⟨g,o1,none⟩ u).setCell ⟨g,o2,none⟩ v).heap[b]? =W.heap[b]? :=by rw [Below.heap_setCell _ _ _ _ h1,Below.heap_setCell _ _ _ _ h1]
 exact ⟨(World.cell?_of_block key).trans h.1,(World.cell?_of_block key).trans h.2⟩
def PA (W:World) (P:Pg) (u:PgV) (g b:Nat):Prop:=PAt W P u∧(∀g' o,u.cp=some ⟨g',o,none⟩→0<P.n→b≤g'∧g'<W.heap.size∧g'≠g)∧ ∀g' o,u.ep=some ⟨g',o,none⟩→0<P.m→b≤g'∧g'<W.heap.size∧g'≠g
theorem IAt.kb0 {S:Nat→Prop} {W W':World} {p:Option Addr} {n:Nat} {op a b:Nat→Int} (h:IAt W p n op a b) (hk:Kb S W W') (hs: ∀g o,p=some ⟨g,o,none⟩→0<n→ ¬S g):IAt W' p n op a b:=by
 by_cases h0:n=0
 ·exact .inl h0
 ·exact h.kb hk (fun g o e=>hs g o e (by omega))
theorem KAt.kb0 {S:Nat→Prop} {W W':World} {p:Option Addr} {n:Nat} {K:Nat→Int} (h:KAt W p n K) (hk:Kb S W W') (hs: ∀g o,p=some ⟨g,o,none⟩→0<n→ ¬S g):KAt W' p n K:=by
 by_cases h0:n=0
 ·exact .inl h0
 ·exact h.kb hk (fun g o e=>hs g o e (by omega))
theorem PA.kb {W W':World} {P:Pg} {u:PgV} {g b:Nat} (h:PA W P u g b) (hk:Kb (fun k=>k=g) W W'):PA W' P u g b:=
 ⟨⟨h.1.1.kb0 hk (fun g' o e h0=>(h.2.1 g' o e h0).2.2),h.1.2.kb0 hk (fun g' o e h0=>(h.2.2 g' o e h0).2.2)⟩,fun g' o e h0=>⟨(h.2.1 g' o e h0).1,Nat.lt_of_lt_of_le (h.2.1 g' o e h0).2.1 hk.size,(h.2.1 g' o e h0).2.2⟩,fun g' o e h0=>⟨(h.2.2 g' o e h0).1,Nat.lt_of_lt_of_le (h.2.2 g' o e h0).2.1 hk.size,(h.2.2 g' o e h0).2.2⟩⟩
set_option maxRecDepth 100000 in
set_option maxHeartbeats 4000000 in
theorem copiedPrograms_any (p:Option Addr) (n c:Nat) (P:Nat→Pg) (V:Nat→PgV) (hn:n*64≤140737488355328) (hw: ∀j,j<n→roomyP (P j)) (w:World) (h:PsAt w p n P V):
  Calls Tryz.prog 118 #[.slice p n c] w fun e w'=> ∃(q:Option Addr) (cc:Nat) (U:Nat→PgV),e=.returned (.slice q n cc)∧PsAt w' q n P U∧Below w.heap.size w w':=by
 have HS:Hid (PsAt w p n P V∧ ∀j,j<n→roomyP (P j)):=⟨h,hw⟩
 have HC:=cloneP_any p n c (pgF P V) w hn h.cin (fun j _=>pgF_one P V j)
 clear h hw
 go_enter Tryz.func118,Tryz.ntmps118
 go_wp2_with (go_at_call 161;(with_reducible refine HC.mono ?_);rintro e w1 ⟨q,cc,rfl,ho1,hb1⟩)
 have H1:Hid (Own w1 w.heap.size 103 4 (.slice q n cc) n (pgF P V)∧Below w.heap.size w w1):=⟨ho1,hb1⟩
 clear ho1 hb1 HC
 go_loopw [10] (fun x wr=> ∃(i:Nat) (U:Nat→PgV),x=.int .i64 (i:Int)∧i≤n∧Own wr w.heap.size 103 4 (.slice q n cc) n (pgF P U)∧(∀g,q=some ⟨g,0,none⟩→ ∀j,j<i→PA wr (P j) (U j) g w.heap.size)∧(∀j,i≤j→U j=V j)∧Below w.heap.size w wr) (fun x _=>n-(intOf x).toNat)
 case atStart=>exact ⟨0,V,rfl,Nat.zero_le _,H1.out.1,fun g _ j hj=>absurd hj (Nat.not_lt_zero _),fun j _=>rfl,H1.out.2⟩
 case round=>
  obtain ⟨i,U,rfl,hi,ho,hk,ha,hb⟩:=hrel
  by_cases hlt:i<n
  case pos=>
   have dlt:decide ((i:Int)<(n:Int))=true:=by simp;omega
   have i0:(0:Int)≤(i:Int):=by omega
   have i1:(i:Int)<(n:Int):=by omega
   have ei:IntKind.i64.wrap ((i:Int)+1)=(i:Int)+1:=by rw [IntKind.wrap_i64];omega
   have hme:=meas hlt
   obtain ⟨g,hq⟩: ∃g,q=some ⟨g,0,none⟩:=by
    rcases ho.form with ⟨h1,h2⟩|⟨g,c',h1,h2,h3⟩
    ·omega
    ·injection h1 with e1 e2 e3
     exact ⟨g,e1⟩
   subst hq
   have hrow:PRow wr w.heap.size g n cc P U:=ho
   obtain ⟨x0,x1,x2,x3⟩:=hrow.cells hlt
   rw [ha i (Nat.le_refl _)] at x2 x3
   obtain hz|⟨gp9,op9,he9,hl9,hc9,hkw⟩:=HS.out.1
   ·omega
   clear he9 hl9 hc9
   have hbx:Below wr.heap.size wr (wr.alloc (.cells #[.int .i64 (P i).words,.int .i64 (P i).locals,.slice (V i).cp (P i).n (V i).cc,.slice (V i).ep (P i).m (V i).ec] 103)).drew:=((Below.refl _ wr).alloc (Nat.le_refl _) _).drew
   have hbw:=hb.trans (hbx.mono hb.size)
   have hbs:(wr.alloc (.cells #[.int .i64 (P i).words,.int .i64 (P i).locals,.slice (V i).cp (P i).n (V i).cc,.slice (V i).ep (P i).m (V i).ec] 103)).drew.heap.size=wr.heap.size+1:=World.size_alloc wr _
   have hpb:(wr.alloc (.cells #[.int .i64 (P i).words,.int .i64 (P i).locals,.slice (V i).cp (P i).n (V i).cc,.slice (V i).ep (P i).m (V i).ec] 103)).drew.heap[wr.heap.size]? =some (.cells #[.int .i64 (P i).words,.int .i64 (P i).locals,.slice (V i).cp (P i).n (V i).cc,.slice (V i).ep (P i).m (V i).ec] 103 (0,0)):=World.alloc_heap_new wr _
   have hro:=HS.out.2 i hlt
   have HC1:=cloneI_any (V i).cp (P i).n (V i).cc (inF (P i).op (P i).a (P i).b) (wr.alloc (.cells #[.int .i64 (P i).words,.int .i64 (P i).locals,.slice (V i).cp (P i).n (V i).cc,.slice (V i).ep (P i).m (V i).ec] 103)).drew (by have:=hro.1;omega) ((hkw i hlt).1.below hbw).cin (fun j _=>inF_one _ _ _ j)
   have HC2: ∀w',Below (wr.alloc (.cells #[.int .i64 (P i).words,.int .i64 (P i).locals,.slice (V i).cp (P i).n (V i).cc,.slice (V i).ep (P i).m (V i).ec] 103)).drew.heap.size (wr.alloc (.cells #[.int .i64 (P i).words,.int .i64 (P i).locals,.slice (V i).cp (P i).n (V i).cc,.slice (V i).ep (P i).m (V i).ec] 103)).drew w'→Hid (Calls Tryz.prog 163 #[.slice (V i).ep (P i).m (V i).ec] w' fun e w9=> ∃(q:Option Addr) (cc:Nat),e=.returned (.slice q (P i).m cc)∧Own w9 w'.heap.size 3 1 (.slice q (P i).m cc) (P i).m (iv (P i).en)∧Below w'.heap.size w' w9):=fun w' hb'=>cloneN_any (V i).ep (P i).m (V i).ec (iv (P i).en) w' (by have:=hro.2;omega) ((((hkw i hlt).2.below hbw).below hb').cin) (fun j _=>rfl)
   have hgl:=hrow.lt
   have hn1:wr.heap.size≠g:=by omega
   have KP0:(wr.alloc (.cells #[.int .i64 (P i).words,.int .i64 (P i).locals,.slice (V i).cp (P i).n (V i).cc,.slice (V i).ep (P i).m (V i).ec] 103)).drew.cell? ⟨wr.heap.size,2,none⟩=some (.slice (V i).cp (P i).n (V i).cc)∧(wr.alloc (.cells #[.int .i64 (P i).words,.int .i64 (P i).locals,.slice (V i).cp (P i).n (V i).cc,.slice (V i).ep (P i).m (V i).ec] 103)).drew.cell? ⟨wr.heap.size,3,none⟩=some (.slice (V i).ep (P i).m (V i).ec):=⟨by unfold World.cell?;rw [hpb];rfl,by unfold World.cell?;rw [hpb];rfl⟩
   have HA:Hid (PRow wr w.heap.size g n cc P U∧(∀j,j<i→PA wr (P j) (U j) g w.heap.size)∧(∀j,i≤j→U j=V j)∧Below w.heap.size w wr∧Below wr.heap.size wr (wr.alloc (.cells #[.int .i64 (P i).words,.int .i64 (P i).locals,.slice (V i).cp (P i).n (V i).cc,.slice (V i).ep (P i).m (V i).ec] 103)).drew∧(wr.alloc (.cells #[.int .i64 (P i).words,.int .i64 (P i).locals,.slice (V i).cp (P i).n (V i).cc,.slice (V i).ep (P i).m (V i).ec] 103)).drew.heap.size=wr.heap.size+1):=⟨hrow,hk g rfl,ha,hb,hbx,hbs⟩
   have KK: ∀w',Below (wr.alloc (.cells #[.int .i64 (P i).words,.int .i64 (P i).locals,.slice (V i).cp (P i).n (V i).cc,.slice (V i).ep (P i).m (V i).ec] 103)).drew.heap.size (wr.alloc (.cells #[.int .i64 (P i).words,.int .i64 (P i).locals,.slice (V i).cp (P i).n (V i).cc,.slice (V i).ep (P i).m (V i).ec] 103)).drew w'→Hid (w'.cell? ⟨wr.heap.size,2,none⟩=some (.slice (V i).cp (P i).n (V i).cc)∧w'.cell? ⟨wr.heap.size,3,none⟩=some (.slice (V i).ep (P i).m (V i).ec)):=fun w' hb'=>⟨(cell_below (a:=⟨wr.heap.size,2,none⟩) hb' (by show wr.heap.size<_;rw [hbs];exact Nat.lt_succ_self _)).trans KP0.1,(cell_below (a:=⟨wr.heap.size,3,none⟩) hb' (by show wr.heap.size<_;rw [hbs];exact Nat.lt_succ_self _)).trans KP0.2⟩
   clear ho hk ha hb hrow hkw hbx hbw hbs hpb hro
   go_upto_region 5 with fail
   go_region_held3 (fun w'=>(w'.cell? ⟨wr.heap.size,2,none⟩=some (.slice (V i).cp (P i).n (V i).cc)∧w'.cell? ⟨wr.heap.size,3,none⟩=some (.slice (V i).ep (P i).m (V i).ec))) (first|with_reducible exact KP0|with_reducible exact KP3|with_reducible exact KP4|with_reducible exact pkeep hn1 KP4|with_reducible exact pkeep2 hn1 KP4|go_keep) (first|(go_at_call 162;(with_reducible refine HC1.mono ?_);rintro e w3 ⟨q3,c3,rfl,ho3,hb3⟩;have KP3:=(KK w3 hb3).out;have H3:Hid (Own w3 (wr.alloc (.cells #[.int .i64 (P i).words,.int .i64 (P i).locals,.slice (V i).cp (P i).n (V i).cc,.slice (V i).ep (P i).m (V i).ec] 103)).drew.heap.size 139 3 (.slice q3 (P i).n c3) (P i).n (inF (P i).op (P i).a (P i).b)∧Below (wr.alloc (.cells #[.int .i64 (P i).words,.int .i64 (P i).locals,.slice (V i).cp (P i).n (V i).cc,.slice (V i).ep (P i).m (V i).ec] 103)).drew.heap.size (wr.alloc (.cells #[.int .i64 (P i).words,.int .i64 (P i).locals,.slice (V i).cp (P i).n (V i).cc,.slice (V i).ep (P i).m (V i).ec] 103)).drew w3):=⟨ho3,hb3⟩;clear ho3 hb3)|(go_at_call 163;(with_reducible refine ((HC2 w3 H3.out.2).out).mono ?_);rintro e w4 ⟨q4,c4,rfl,ho4,hb4⟩;have hbb:Below (wr.alloc (.cells #[.int .i64 (P i).words,.int .i64 (P i).locals,.slice (V i).cp (P i).n (V i).cc,.slice (V i).ep (P i).m (V i).ec] 103)).drew.heap.size (wr.alloc (.cells #[.int .i64 (P i).words,.int .i64 (P i).locals,.slice (V i).cp (P i).n (V i).cc,.slice (V i).ep (P i).m (V i).ec] 103)).drew w4:=H3.out.2.trans (hb4.mono H3.out.2.size);have KP4:=(KK w4 hbb).out;have hbr:Below wr.heap.size wr w4:=HA.out.2.2.2.2.1.trans (hbb.mono HA.out.2.2.2.2.1.size);have hrow4:PRow w4 w.heap.size g n cc P U:=Own.later HA.out.1 hbr;have f2:=hrow4.fz (i*4+2);have f3:=hrow4.fz (i*4+3);obtain ⟨k0,k1,k2,k3⟩:=hrow4.cells hlt;have H4:Hid (PRow w4 w.heap.size g n cc P U∧Own w4 w3.heap.size 3 1 (.slice q4 (P i).m c4) (P i).m (iv (P i).en)∧Below w3.heap.size w3 w4∧Below wr.heap.size wr w4):=⟨hrow4,ho4,hb4,hbr⟩;clear hrow4 ho4 hb4 hbb hbr))
   all_goals (
    go_wp2_with fail
    obtain ⟨a1,a2,a3,a4,a5,a6⟩:=HA.out
    obtain ⟨b1,b2⟩:=H3.out
    obtain ⟨d1,d2,d3,d4⟩:=H4.out
    have hgl3:=a1.lt
    have hz2:=b2.size
    have hz3:=d3.size
    have hz4:=a4.size
    obtain ⟨W',hW'⟩: ∃W',(w4.setCell ⟨g,i*4+2,none⟩ (.slice q3 (P i).n c3)).setCell ⟨g,i*4+3,none⟩ (.slice q4 (P i).m c4)=W':=⟨_,rfl⟩
    have hk4:Kb (fun k=>k=g) w4 W':=by rw [←hW'];exact (Kb.set (S:=fun k=>k=g) w4 g _ _ rfl).trans (Kb.set (S:=fun k=>k=g) _ g _ _ rfl)
    have hkk:Kb (fun k=>k=g) wr W':=(Kb.below d4).trans hk4
    have hnew:PRow W' w.heap.size g n cc P (setS U i ⟨q3,c3,q4,c4⟩):=by rw [←hW'];exact d1.put i ⟨q3,c3,q4,c4⟩
    have hbn:Below w.heap.size w W':=by
     rw [←hW']
     exact ((a4.trans (d4.mono a4.size)).setCell (p:=⟨g,i*4+2,none⟩) hgl3.1 _).setCell (p:=⟨g,i*4+3,none⟩) hgl3.1 _
    have hi3:=own_iat b1
    have hk3:=own_katn d2
    have hPA:PA w4 (P i) ⟨q3,c3,q4,c4⟩ g w.heap.size:=⟨⟨hi3.1.below d3,hk3.1⟩,fun g' o' e' h0=>by
     have:=hi3.2 g' o' e' h0
     omega,fun g' o' e' h0=>by
     have:=hk3.2 g' o' e' h0
     omega⟩
    subst hW'
    refine ⟨⟨i+1,setS U i ⟨q3,c3,q4,c4⟩,rfl,hlt,hnew,fun g' hg' j hj=> ?_,fun j hj=> ?_,hbn⟩,hme⟩
    ·obtain rfl:g=g':=by
      injection hg' with hg'
      injection hg'
     unfold setS
     by_cases e:j=i
     ·rw [if_pos e,e]
      exact hPA.kb hk4
     ·rw [if_neg e]
      exact (a2 j (by omega)).kb hkk
    ·unfold setS
     rw [if_neg (by omega)]
     exact a3 j (by omega))
  have dlt:decide ((i:Int)<(n:Int))=false:=by simp;omega
  obtain rfl:i=n:=by omega
  have hps:PsAt wr q i P U:=by
   by_cases h0:i=0
   ·exact .inl h0
   ·rcases ho.form with ⟨h1,h2⟩|⟨g,c',h1,h2,h3⟩
    ·omega
    ·injection h1 with e1 e2 e3
     obtain ⟨q',c'',e4,h5⟩:=own_ps ho (fun j hj=>(hk g e1 j hj).1)
     injection e4 with e5 e6 e7
     subst e5
     exact h5
  have HF:Hid (PsAt wr q i P U∧Below w.heap.size w wr):=⟨hps,hb⟩
  clear ho hk ha hb hps
  go_wp2_with fail
  go_ret
  exact ⟨q,cc,U,rfl,HF.out⟩
theorem mdP (n j:Nat) (hj:j<n*4):(madeCells (Value.agg #[.int .i64 0,.int .i64 0,.slice none 0 0,.slice none 0 0]).cells (n*4)).toList.getD j undef=pgF (fun _=>⟨0,0,0,fun _=>0,fun _=>0,fun _=>0,0,fun _=>0⟩) (fun _=>⟨none,0,none,0⟩) j:=by
 unfold madeCells pgF pgL
 have h6:(Value.agg #[.int .i64 0,.int .i64 0,.slice none 0 0,.slice none 0 0]).cells.size=4:=rfl
 have hm:j % 4=0∨j % 4=1∨j % 4=2∨j % 4=3:=by omega
 simp [hj,h6]
 rcases hm with h|h|h|h<;>rw [h]<;>rfl
theorem PRow.put4 {W:World} {base g n cap:Nat} {P:Nat→Pg} {V:Nat→PgV} (h:PRow W base g n cap P V) (i:Nat) (Q:Pg) (u:PgV):PRow (W.setCells g (i*4) (pgL Q u)) base g n cap (setS P i Q) (setS V i u):=by
 refine Own.congr (Own.put h (i*4) (pgL Q u)) fun j hj=> ?_
 have hl:(pgL Q u).length=4:=rfl
 unfold putF
 rw [hl]
 unfold pgF setS
 by_cases x:i*4≤j∧j<i*4+4
 ·rw [if_pos x]
  obtain ⟨r,rfl⟩: ∃r,j=i*4+r:=⟨j-i*4,by omega⟩
  rw [show (i*4+r) / 4=i by omega,if_pos rfl,if_pos rfl,show (i*4+r) % 4=r by omega,show i*4+r-i*4=r by omega]
 ·rw [if_neg x,if_neg (by omega),if_neg (by omega)]
set_option maxRecDepth 100000 in
set_option maxHeartbeats 4000000 in
theorem programsOfParts_any (p:Pl) (v:PlV) (w:World) (h:PlAt w p v) (hr:RoomyL p) (hT:GT p):
  Calls Tryz.prog 106 #[.agg #[.int .i64 p.ki,.slice v.pp p.np v.pc,.slice v.tp p.nq v.tc,.slice v.sp p.ns v.sc,.int .u64 p.sd,.int .u64 p.lk,.int .u64 p.en,.int .i64 p.bu,.int .i64 p.fu]] w fun e w'=> ∃(q:Option Addr) (cc:Nat) (U:Nat→PgV),e=.returned (.slice q p.nq cc)∧PsAt w' q p.nq (fun j=>p.P (p.pr j).toNat) U∧Below w.heap.size w w':=by
 obtain ⟨iP,hP1,hP2,hP3,hP4⟩:=sinfo cloneP_inf
 obtain ⟨wb,hwb⟩: ∃wb,w.alloc (.cells #[.int .i64 p.ki,.slice v.pp p.np v.pc,.slice v.tp p.nq v.tc,.slice v.sp p.ns v.sc,.int .u64 p.sd,.int .u64 p.lk,.int .u64 p.en,.int .i64 p.bu,.int .i64 p.fu] 27)=wb:=⟨_,rfl⟩
 obtain ⟨hb0,hbox,hsz⟩:=boxed _ _ _ hwb
 have HW:Hid (w.alloc (.cells #[.int .i64 p.ki,.slice v.pp p.np v.pc,.slice v.tp p.nq v.tc,.slice v.sp p.ns v.sc,.int .u64 p.sd,.int .u64 p.lk,.int .u64 p.en,.int .i64 p.bu,.int .i64 p.fu] 27)=wb):=hwb
 have HC:=copiedPrograms_any v.pp p.np v.pc p.P v.V (by have:=hr.np;omega) hr.pg wb (h.below hb0).ps
 have HP:Hid (PlAt wb p v∧GT p∧Below w.heap.size w wb):=⟨h.below hb0,hT,hb0⟩
 have hnq:=hT.1
 obtain ⟨⟨c0,c1,c2,c3⟩,c4,c5,c6,c7,c8⟩:=cells9 hbox
 rw [←hwb] at c0 c1 c2 c3 c4 c5 c6 c7 c8
 clear h hr hT hb0 hsz hwb
 go_enter Tryz.func106,Tryz.ntmps106
 go_upto_region 2 with (go_at_call 118;rw [HW.out];(with_reducible refine HC.mono ?_);rintro e w1 ⟨q,cc,U,rfl,hps1,hb1⟩)
 have hbx1:=(hb1.block _ (lt_of_block hbox)).trans hbox
 have H1:Hid (PsAt w1 q p.np p.P U∧Below wb.heap.size wb w1∧w1.heap[w.heap.size]? =some (.cells #[.int .i64 p.ki,.slice v.pp p.np v.pc,.slice v.tp p.nq v.tc,.slice v.sp p.ns v.sc,.int .u64 p.sd,.int .u64 p.lk,.int .u64 p.en,.int .i64 p.bu,.int .i64 p.fu] 27 (0,0))):=⟨hps1,hb1,hbx1⟩
 clear c0 c1 c2 c3 c4 c5 c6 c7 c8 hps1 hb1 HC
 obtain ⟨⟨c0,c1,c2,c3⟩,c4,c5,c6,c7,c8⟩:=cells9 hbx1
 clear hbx1 hbox
 go_wp2_with (at_make;refine wpList_make_full _ rfl (.tmp 12) (.tmp 12) 22 rfl w1.heap.size 103 iP _ 4 Tryz.underlying22 hP1 hP2 hP3 .i64 .i64 p.nq p.nq p.nq rfl rfl rfl rfl ?c1 ?c2 ?c3 ?_)
 case c1=>rw [hP4];omega
 case c2=>unfold maxLen;omega
 case c3=>exact Nat.le_refl _
 intro w2 hown hgrow
 have hb2:Below w1.heap.size w1 w2:=(Below.refl _ _).grown hgrow (Nat.le_refl _) (by simp)
 obtain ⟨g,hg⟩: ∃g,w1.heap.size=g:=⟨_,rfl⟩
 rw [hg] at hown hb2
 have hrow:PRow w2 g g p.nq p.nq (fun _=>⟨0,0,0,fun _=>0,fun _=>0,fun _=>0,0,fun _=>0⟩) (fun _=>⟨none,0,none,0⟩):=(own_of_row hown).congr fun j hj=>mdP p.nq j hj
 have hbx2:=(hb2.block w.heap.size (by rw [←hg];exact lt_of_block H1.out.2.2)).trans H1.out.2.2
 have H2:Hid (PRow w2 g g p.nq p.nq (fun _=>⟨0,0,0,fun _=>0,fun _=>0,fun _=>0,0,fun _=>0⟩) (fun _=>⟨none,0,none,0⟩)∧Below g w1 w2∧w1.heap.size=g):=⟨hrow,hb2,hg⟩
 clear c0 c1 c2 c3 c4 c5 c6 c7 c8 hown hgrow hrow hb2
 obtain ⟨⟨c0,c1,c2,c3⟩,c4,c5,c6,c7,c8⟩:=cells9 hbx2
 rw [hg]
 clear hbx2 hg
 go_wp2_with fail
 clear c0 c1 c2 c3 c4 c5 c6 c7 c8
 go_loopw [17] (fun x wr=> ∃(i:Nat) (Q:Nat→Pg) (T:Nat→PgV),x=.int .i64 (i:Int)∧i≤p.nq∧PRow wr g g p.nq p.nq Q T∧(∀j,j<i→Q j=p.P (p.pr j).toNat∧T j=U (p.pr j).toNat)∧Below g w1 wr) (fun x _=>p.nq-(intOf x).toNat)
 case atStart=>exact ⟨0,_,_,rfl,Nat.zero_le _,H2.out.1,fun j hj=>absurd hj (Nat.not_lt_zero _),H2.out.2.1⟩
 case round=>
  obtain ⟨i,Q,T,rfl,hi,hrow,hqt,hb⟩:=hrel
  have hgs:=H2.out.2.2
  have hb1':Below w1.heap.size w1 wr:=by rw [hgs];exact hb
  by_cases hlt:i<p.nq
  case pos=>
   have dlt:decide ((i:Int)<(p.nq:Int))=true:=by simp;omega
   have i0:(0:Int)≤(i:Int):=by omega
   have i1:(i:Int)<(p.nq:Int):=by omega
   have ei:IntKind.i64.wrap ((i:Int)+1)=(i:Int)+1:=by rw [IntKind.wrap_i64];omega
   have hme:=meas hlt
   have hbw:Below wb.heap.size wb wr:=H1.out.2.1.trans (hb1'.mono H1.out.2.1.size)
   obtain hz|⟨gt,ot,hpp,hl,hc,hpa⟩:=(HP.out.1.below hbw).ts
   ·omega
   obtain ⟨y0,y1⟩:=hc i hlt
   obtain ⟨hr0,hr1,_⟩:=HP.out.2.1.2 i hlt
   obtain ⟨pn,hpn⟩: ∃pn:Nat,p.pr i=(pn:Int):=⟨(p.pr i).toNat,by omega⟩
   have hpl:pn<p.np:=by omega
   have j0:(0:Int)≤(pn:Int):=by omega
   have j1:(pn:Int)<(p.np:Int):=by omega
   rw [hpn] at y0
   obtain hz|⟨gq,oq,hqe,hlq,hcq,hpq⟩:=H1.out.1.below hb1'
   ·omega
   obtain ⟨z0,z1,z2,z3⟩:=hcq pn hpl
   have hgl:=hrow.lt
   have k0:=hrow.cells hlt
   obtain ⟨k0,k1,k2,k3⟩:=k0
   have f0:=hrow.fz (i*4)
   have f1:=hrow.fz (i*4+1)
   have f2:=hrow.fz (i*4+2)
   have f3:=hrow.fz (i*4+3)
   have hn1:wr.heap.size≠g:=by omega
   have HA:Hid (PRow wr g g p.nq p.nq Q T∧(∀j,j<i→Q j=p.P (p.pr j).toNat∧T j=U (p.pr j).toNat)∧Below g w1 wr∧p.pr i=(pn:Int)):=⟨hrow,hqt,hb,hpn⟩
   subst hqe
   rw [hpp]
   clear hrow hqt hb hb1' hbw hc hpa hl hpp hcq hpq hr0 hr1 hpn hgs
   go_wp2_with fail
   obtain ⟨a1,a2,a3,a4⟩:=HA.out
   have hput:=a1.put4 i (p.P pn) (U pn)
   have hba:Below (wr.setCells g (i*4) (pgL (p.P pn) (U pn))).heap.size (wr.setCells g (i*4) (pgL (p.P pn) (U pn))) ((wr.setCells g (i*4) (pgL (p.P pn) (U pn))).alloc (.cells #[.int .i64 (pn:Int),.slice (v.wp i) (p.nw i) (v.wc i)] 106)):=(Below.refl _ _).alloc (Nat.le_refl _) _
   have hbs:Below g w1 (wr.setCells g (i*4) (pgL (p.P pn) (U pn))):=setCells_below _ _ _ a3 (Nat.le_refl _)
   have hzs:(wr.setCells g (i*4) (pgL (p.P pn) (U pn))).heap.size=wr.heap.size:=setCells_size _ _ _ _
   refine ⟨⟨i+1,setS Q i (p.P pn),setS T i (U pn),rfl,hlt,Own.later hput hba,fun j hj=> ?_,hbs.trans (hba.mono (by omega))⟩,hme⟩
   unfold setS
   by_cases e:j=i
   ·rw [if_pos e,if_pos e,e,a4]
    exact ⟨rfl,rfl⟩
   ·rw [if_neg e,if_neg e]
    exact a2 j (by omega)
  have dlt:decide ((i:Int)<(p.nq:Int))=false:=by simp;omega
  obtain rfl:i=p.nq:=by omega
  have hps:PsAt wr (some ⟨g,0,none⟩) p.nq (fun j=>p.P (p.pr j).toNat) (fun j=>U (p.pr j).toNat):=by
   have ho:Own wr g 103 4 (.slice (some ⟨g,0,none⟩) p.nq p.nq) p.nq (pgF (fun j=>p.P (p.pr j).toNat) (fun j=>U (p.pr j).toNat)):=Own.congr hrow fun x hx=>by
    unfold pgF
    rw [(hqt (x / 4) (by omega)).1,(hqt (x / 4) (by omega)).2]
   obtain ⟨q',c'',e4,h5⟩:=own_ps ho (fun j hj=>by
    obtain ⟨hr0,hr1,_⟩:=HP.out.2.1.2 j hj
    obtain hz|⟨gq,oq,hqe,hlq,hcq,hpq⟩:=H1.out.1.below hb1'
    ·omega
    ·exact hpq (p.pr j).toNat (by omega))
   injection e4 with e5 e6 e7
   subst e5
   exact h5
  have hbw:Below w.heap.size w wr:=(HP.out.2.2.trans (H1.out.2.1.mono HP.out.2.2.size)).trans (hb1'.mono (Nat.le_trans HP.out.2.2.size H1.out.2.1.size))
  have HF:Hid (PsAt wr (some ⟨g,0,none⟩) p.nq (fun j=>p.P (p.pr j).toNat) (fun j=>U (p.pr j).toNat)∧Below w.heap.size w wr):=⟨hps,hbw⟩
  clear hrow hqt hb hps hbw hb1' hgs
  go_wp2_with fail
  go_ret
  exact ⟨_,_,_,rfl,HF.out⟩
end Go.Proofs.YtecgecpgmpmkoaaGreat
namespace Go.Proofs.YtecgecpgmpmkoaaGreat
open Go.ChangeShapes Go.WideShapes Go.ChangeAt Go.RowKit
set_option linter.unusedVariables false
set_option linter.unusedSimpArgs false
end Go.Proofs.YtecgecpgmpmkoaaGreat
