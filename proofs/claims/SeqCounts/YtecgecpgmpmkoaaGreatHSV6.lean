import Derived.Test.YtecgecpgmpmkoaaGreatHQ0
import Derived.Test.YtecgecpgmpmkoaaGreatHSV2
import Derived.Laws.CopyOwn
import Derived.Maps.AppendAt
namespace Go.Proofs.YtecgecpgmpmkoaaGreat
open Go.ChangeShapes Go.WideShapes Go.ChangeAt Go.RowKit
set_option linter.unusedVariables false
set_option linter.unusedSimpArgs false
structure Kb (S:Nat→Prop) (W W':World):Prop where
 size:W.heap.size≤W'.heap.size
 block: ∀k,k<W.heap.size→ ¬S k→W'.heap[k]? =W.heap[k]?
theorem Kb.trans {S:Nat→Prop} {a b c:World} (h:Kb S a b) (h':Kb S b c):Kb S a c:=⟨Nat.le_trans h.size h'.size,fun k hk hs=>(h'.block k (Nat.lt_of_lt_of_le hk h.size) hs).trans (h.block k hk hs)⟩
theorem Kb.below {S:Nat→Prop} {W W':World} (h:Below W.heap.size W W'):Kb S W W':=⟨h.size,fun k hk _=>h.block k hk⟩
theorem Kb.set {S:Nat→Prop} (W:World) (b k:Nat) (v:Value) (h:S b):Kb S W (W.setCell ⟨b,k,none⟩ v):=⟨by simp [World.setCell],fun j _ hs=>Below.heap_setCell _ _ _ _ fun e=>hs (by show S j;rw [show j=b from e];exact h)⟩
theorem cell_kb {S:Nat→Prop} {W W':World} {a:Addr} (h:Kb S W W') (hlt:a.block<W.heap.size) (hs: ¬S a.block):W'.cell? a=W.cell? a:=World.cell?_of_block (h.block _ hlt hs)
theorem KAt.kb {S:Nat→Prop} {W W':World} {p:Option Addr} {n:Nat} {K:Nat→Int} (h:KAt W p n K) (hk:Kb S W W') (hs: ∀g o,p=some ⟨g,o,none⟩→ ¬S g):KAt W' p n K:=by
 rcases h with h|⟨g,o,rfl,hl,hc⟩
 ·exact .inl h
 ·exact .inr ⟨g,o,rfl,Nat.lt_of_lt_of_le hl hk.size,fun j hj=>(cell_kb (a:=⟨g,o+j,none⟩) hk hl (hs g o rfl)).trans (hc j hj)⟩
theorem IAt.kb {S:Nat→Prop} {W W':World} {p:Option Addr} {n:Nat} {op a b:Nat→Int} (h:IAt W p n op a b) (hk:Kb S W W') (hs: ∀g o,p=some ⟨g,o,none⟩→ ¬S g):IAt W' p n op a b:=by
 rcases h with h|⟨g,o,rfl,hl,hc⟩
 ·exact .inl h
 ·exact .inr ⟨g,o,rfl,Nat.lt_of_lt_of_le hl hk.size,fun j hj=>⟨(cell_kb (a:=⟨g,o+j*3,none⟩) hk hl (hs g o rfl)).trans (hc j hj).1,(cell_kb (a:=⟨g,o+j*3+1,none⟩) hk hl (hs g o rfl)).trans (hc j hj).2.1,(cell_kb (a:=⟨g,o+j*3+2,none⟩) hk hl (hs g o rfl)).trans (hc j hj).2.2⟩⟩
def EA (W:World) (r:Value) (b:Nat) (p:Option Addr):Prop:= ∀g o,p=some ⟨g,o,none⟩→b≤g∧g<W.heap.size∧some g≠r.ownBlock
theorem step_ap {P:Program} {ops:Array Oper} {o:Oper} {a:Act} {w:World} {K:Act→World→Prop} {Q:Exit→Act→World→Prop} {E:Prop}
  (hg:o.guard=none) (s x:Operand) (t:TypeId) (hop:o.op=Op.call { callee:=Callee.builtin Builtin.append,args:= #[s,x],argTypes:= #[t,t] })
  (base:Nat) (e:TypeId) (i:TypeInfo) (z:Value) (size bytes:Nat) (ht:P.underlying t=some (.slice e)) (hi:P.info? e=some i) (hz:i.zero=some z)
  (hsize:i.size=size) (hby:i.bytes=bytes) (hzs:z.cells.size=size) (hsz:0<size)
  (v:Value) (n:Nat) (xs:List Value) (hs:a.eval s=v) (hown:w.ownsRow base e size v n xs)
  (ad:Addr) (m c:Nat) (news:List Value) (hx:a.eval x=.slice (some ad) m c) (hl:news.length=m*size) (hnews: ∀j u,news[j]? =some u→w.cell? (ad.add j)=some u) (h1: ∀u ∈ news,u.oneCell'=true)
  (h63:n+m≤maxLen) (hbytes:(n+m)*bytes≤140737488355328) (hbase:base≤w.heap.size)
  (hK: ∀v' w',w'.ownsRow base e size v' (n+m) (xs++news)→w.grownBy w' v.ownBlock→(v'.ownBlock=v.ownBlock∨v'.ownBlock=some w.heap.size)→K (a.put o.dst v') w'):
  if Region.wanted o (yielded ops a.tmps)=true then Oper.wp P o a w K Q else E:=by
 have hw:Region.wanted o (yielded ops a.tmps)=true:=by simp [Region.wanted,hg]
 rw [if_pos hw]
 obtain ⟨v',w',hr,h2,h3,h4,h5⟩:=run_append_own_at (P:=P) w base t o.type e i z size bytes ht hi hz hsize hby hzs hsz v n xs hown ad m c news hl hnews h1 h63 hbytes hbase
 unfold Oper.wp execOp
 simp only [hop,resolve,invoke,builtin,Sem.run_bind,Sem.run_pure,Result.andThen_ok,List.map_toArray,List.map_cons,List.map_nil,hs,hx,hr]
 exact hK _ _ h2 h3 h5
def pgL (P:Pg) (u:PgV):List Value:= [.int .i64 P.words,.int .i64 P.locals,.slice u.cp P.n u.cc,.slice u.ep P.m u.ec]
def pgF (P:Nat→Pg) (V:Nat→PgV) (x:Nat):Value:=(pgL (P (x / 4)) (V (x / 4))).getD (x % 4) undef
theorem own_ps {W:World} {base n:Nat} {v:Value} {P:Nat→Pg} {V:Nat→PgV} (h:Own W base 103 4 v n (pgF P V)) (hp: ∀j,j<n→PAt W (P j) (V j)): ∃q c,v=.slice q n c∧PsAt W q n P V:=by
 rcases h.form with ⟨h1,h2⟩|⟨g,c,h1,h2,h3⟩
 ·exact ⟨none,0,by rw [h1,h2],.inl h2⟩
 ·subst h1
  refine ⟨_,c,rfl,.inr ⟨g,0,rfl,h3,fun j hj=> ?_,hp⟩⟩
  have key: ∀r,r<4→W.cell? ⟨g,0+j*4+r,none⟩=some ((pgL (P j) (V j)).getD r undef):=fun r hr=>by
   rw [Nat.zero_add,h.cell (j:=j*4+r) (by omega)]
   unfold pgF
   rw [show (j*4+r) / 4=j by omega,show (j*4+r) % 4=r by omega]
  exact ⟨key 0 (by decide),key 1 (by decide),key 2 (by decide),key 3 (by decide)⟩
set_option maxRecDepth 100000 in
set_option maxHeartbeats 1000000 in
theorem sameWords_any (p q:Option Addr) (n m c d:Nat) (K L:Nat→Int) (hn:n≤17592186044416) (w:World) (hp:KAt w p n K) (hq:KAt w q m L):
  Calls Tryz.prog 55 #[.slice p n c,.slice q m d] w fun e w'=>e=.returned (.bool (decide (n=m) && sameF n K L))∧Below w.heap.size w w':=by
 by_cases hnm:n=m
 ·subst hnm
  rw [decide_eq_true rfl,Bool.true_and]
  have fy:Hid ((∀j,j<n→K j=L j)→sameF n K L=true):=sameF_yes
  have fn: ∀j,Hid (j<n→K j≠L j→sameF n K L=false):=fun j=>sameF_no
  generalize sameF n K L=res at fy fn ⊢
  go_enter Tryz.func55,Tryz.ntmps55
  go_wp2
  go_loopw [13] (fun v wr=> ∃i:Nat,v=.int .i64 i∧i≤n∧Hid (∀j,j<i→K j=L j)∧Below w.heap.size w wr) (fun v _=>n-(intOf v).toNat)
  case atStart=>exact ⟨0,rfl,Nat.zero_le _,(fun j hj=>by omega: ∀j,j<0→K j=L j),Below.refl _ _⟩
  case round=>
   obtain ⟨i,rfl,hi,hsm,hbel⟩:=hrel
   by_cases hlt:i<n
   ·obtain h0|⟨b,o,rfl,hl,hc⟩:=hp
    ·omega
    obtain h0|⟨b',o',rfl,hl',hc'⟩:=hq
    ·omega
    have x0:=(cell_below (a:=⟨b,o+i,none⟩) hbel hl).trans (hc i hlt)
    have y0:=(cell_below (a:=⟨b',o'+i,none⟩) hbel hl').trans (hc' i hlt)
    have dl:decide ((i:Int)<n)=true:=decide_eq_true (by omega)
    have hm:=meas hlt
    have hni:=fn i
    clear hc hc' hl hl' fn
    by_cases he:K i=L i
    ·have hsm':Hid (∀j,j<i+1→K j=L j):=by
      show ∀j,j<i+1→K j=L j
      intro j hj
      by_cases h:j<i
      ·exact hsm.out j h
      ·obtain rfl:j=i:=by omega
       exact he
     rw [he] at x0
     clear he hsm hni
     generalize L i=z at x0 y0
     go_wp2
     go_quiet (fail)
     go_wp2
     exact ⟨⟨i+1,rfl,hlt,hsm',hbel.trans (below_drewNq _ _ _)⟩,hm⟩
    ·have hres:res=false:=hni.out hlt he
     subst hres
     have de:(K i==L i)=false:=by simpa using he
     clear he hsm hni fy
     generalize K i=z1 at x0 de
     generalize L i=z2 at y0 de
     go_wp2
     go_quiet (fail)
     go_wp2
     go_ret
     exact ⟨rfl,hbel.trans (below_drewNq _ _ _)⟩
   ·have dl:decide ((i:Int)<n)=false:=decide_eq_false (by omega)
    obtain rfl:i=n:=by omega
    have hres:res=true:=fy.out hsm.out
    subst hres
    clear fy fn hp hq
    go_wp2
    go_ret
    exact ⟨rfl,hbel⟩
 ·have d0:((n:Int)==m)=false:=by simp;omega
  rw [decide_eq_false hnm,Bool.false_and]
  clear hp hq
  go_enter Tryz.func55,Tryz.ntmps55
  go_wp2
  go_ret
  exact ⟨rfl,Below.refl _ _⟩
end Go.Proofs.YtecgecpgmpmkoaaGreat
namespace Go.Proofs.YtecgecpgmpmkoaaGreat
open Go.ChangeShapes Go.WideShapes Go.ChangeAt Go.RowKit
set_option linter.unusedVariables false
set_option linter.unusedSimpArgs false
structure RoomyL (p:Pl):Prop where
 np:p.np*64≤140737488351232
 pg: ∀j,j<p.np→roomyP (p.P j)
 nq:p.nq*32≤140737488351232
 nw: ∀j,j<p.nq→p.nw j≤17592186044416
 ns:p.ns*32≤140737488351232
end Go.Proofs.YtecgecpgmpmkoaaGreat
