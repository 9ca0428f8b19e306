import Derived.Test.YtecgecpgmpmkoaaGreatJM9b
import Derived.Test.YtecgecpgmpmkoaaGreatJWN1
namespace Go.Proofs.YtecgecpgmpmkoaaGreat
open Go.ChangeShapes Go.WideShapes Go.ChangeAt Go.RowKit
def bndN (low look en:Int):Int:=if low+look<en then low+look else en
theorem bound_any (t d en:Int) (ht:0≤t∧t≤18446744073709551615) (hd:0≤d∧d≤18446744073709551615) (he:0≤en∧en≤18446744073709551615) (w:World):
  Calls Tryz.prog 117 #[.int .u64 t,.int .u64 d,.int .u64 en] w fun e w'=>e=.returned (.int .u64 (bndN t d en))∧w'=w:=by
 by_cases c:t+d≤18446744073709551615
 ·by_cases c2:t+d<en
  ·have h1:bndN t d en=t+d:=by simp [bndN,c2]
   rw [h1]
   clear h1
   go_enter Tryz.func117,Tryz.ntmps117
   go_wp2
   go_ret
   first|exact ⟨rfl,rfl⟩|exact ⟨congrArg Ending.returned (congrArg (Value.int .u64) (by omega)),rfl⟩
  ·have h1:bndN t d en=en:=by simp [bndN,c2]
   rw [h1]
   clear h1
   by_cases c3:en<t+d
   ·go_enter Tryz.func117,Tryz.ntmps117
    go_wp2
    go_ret
    first|exact ⟨rfl,rfl⟩|exact ⟨congrArg Ending.returned (congrArg (Value.int .u64) (by omega)),rfl⟩
   ·obtain rfl:en=t+d:=by omega
    go_enter Tryz.func117,Tryz.ntmps117
    go_wp2
    go_ret
    first|exact ⟨rfl,rfl⟩|exact ⟨congrArg Ending.returned (congrArg (Value.int .u64) (by omega)),rfl⟩
 ·have h1:bndN t d en=en:=by simp only [bndN];rw [if_neg (by omega)]
  rw [h1]
  clear h1
  have hw:=wrap_over t d ht.1 ht.2 hd.1 hd.2 c
  go_enter Tryz.func117,Tryz.ntmps117
  go_wp2
  go_ret
  first|exact ⟨rfl,rfl⟩|exact ⟨congrArg Ending.returned (congrArg (Value.int .u64) (by omega)),rfl⟩
end Go.Proofs.YtecgecpgmpmkoaaGreat
namespace Go.Proofs.YtecgecpgmpmkoaaGreat
open Go.ChangeShapes Go.WideShapes Go.ChangeAt Go.RowKit
set_option linter.unusedVariables false
set_option linter.unusedSimpArgs false
structure Wi where
 no:Int
 lo:Int
 bd:Int
 ev:Int
def wiL (x:Wi):List Value:= [.int .i64 x.no,.int .u64 x.lo,.int .u64 x.bd,.int .i64 x.ev]
def wiF (Q:Nat→Wi) (x:Nat):Value:=(wiL (Q (x / 4))).getD (x % 4) undef
theorem wi_app (S:Nat→Wi) (i:Nat) (m:Wi):cellsF (wiF S) (i*4)++wiL m=cellsF (wiF (setS S i m)) ((i+1)*4):=by
 have e1:wiL m=cellsF (fun r=>(wiL m).getD r undef) 4:=rfl
 rw [e1,cellsF_append,show (i+1)*4=i*4+4 by omega]
 refine cellsF_congr fun j hj=> ?_
 by_cases h:j<i*4
 ·rw [if_pos h]
  unfold wiF setS
  rw [if_neg (by omega)]
 ·rw [if_neg h]
  unfold wiF setS
  rw [show j / 4=i by omega,if_pos rfl,show j % 4=j-i*4 by omega]
def opW (t:Int) (k:Nat) (Q:Nat→Wi):Prop:=k=0∨(Q (k-1)).bd≤t
instance (t:Int) (k:Nat) (Q:Nat→Wi):Decidable (opW t k Q):=by unfold opW;infer_instance
def upW (Q:Nat→Wi) (k:Nat):Nat→Wi:=setS Q (k-1) ⟨(Q (k-1)).no,(Q (k-1)).lo,(Q (k-1)).bd,(Q (k-1)).ev+1⟩
def adW (lk en t:Int) (Q:Nat→Wi) (k:Nat):Nat→Wi:=setS Q k ⟨(k:Int)+1,t,bndN t lk en,1⟩
def wnR (lk en:Int) (Z:Nat→Se):Nat→Nat×(Nat→Wi)
 |0=>(0,fun _=>⟨0,0,0,0⟩)
 |i+1=>if opW (Z i).t (wnR lk en Z i).1 (wnR lk en Z i).2 then ((wnR lk en Z i).1+1,adW lk en (Z i).t (wnR lk en Z i).2 (wnR lk en Z i).1) else ((wnR lk en Z i).1,upW (wnR lk en Z i).2 (wnR lk en Z i).1)
theorem wnR_congr {lk en:Int} {Z Z':Nat→Se} : ∀ {i:Nat},(∀j,j<i→Z j=Z' j)→wnR lk en Z i=wnR lk en Z' i
 |0,_=>rfl
 |i+1,h=>by
  have e:=wnR_congr (lk:=lk) (en:=en) (i:=i) fun j hj=>h j (by omega)
  show (if opW (Z i).t (wnR lk en Z i).1 (wnR lk en Z i).2 then _ else _)=(if opW (Z' i).t (wnR lk en Z' i).1 (wnR lk en Z' i).2 then _ else _)
  rw [e,h i (by omega)]
theorem wnR_le (lk en:Int) (Z:Nat→Se): ∀i,(wnR lk en Z i).1≤i∧ ∀j,j<(wnR lk en Z i).1→1≤((wnR lk en Z i).2 j).ev∧((wnR lk en Z i).2 j).ev≤(i:Int)
 |0=>⟨Nat.le_refl _,fun j hj=>absurd hj (Nat.not_lt_zero _)⟩
 |i+1=>by
  obtain ⟨h1,h2⟩:=wnR_le lk en Z i
  obtain ⟨s,hs⟩: ∃s,wnR lk en Z i=s:=⟨_,rfl⟩
  rw [hs] at h1 h2
  have e:wnR lk en Z (i+1)=if opW (Z i).t s.1 s.2 then (s.1+1,adW lk en (Z i).t s.2 s.1) else (s.1,upW s.2 s.1):=by rw [←hs];rfl
  rw [e]
  by_cases c:opW (Z i).t s.1 s.2
  ·rw [if_pos c]
   refine ⟨by show s.1+1≤i+1;omega,fun j hj=> ?_⟩
   show 1≤(adW lk en (Z i).t s.2 s.1 j).ev∧(adW lk en (Z i).t s.2 s.1 j).ev≤_
   unfold adW setS
   by_cases ej:j=s.1
   ·rw [if_pos ej]
    exact ⟨Int.le_refl _,by show (1:Int)≤((i+1:Nat):Int);omega⟩
   ·rw [if_neg ej]
    have hj':j<s.1+1:=hj
    have:=h2 j (by omega)
    exact ⟨this.1,by have:=this.2;omega⟩
  ·rw [if_neg c]
   refine ⟨by show s.1≤i+1;omega,fun j hj=> ?_⟩
   show 1≤(upW s.2 s.1 j).ev∧(upW s.2 s.1 j).ev≤_
   unfold upW setS
   have hj':j<s.1:=hj
   have:=h2 j hj'
   by_cases ej:j=s.1-1
   ·rw [if_pos ej]
    have h9:=h2 (s.1-1) (by omega)
    exact ⟨by show 1≤(s.2 (s.1-1)).ev+1;omega,by show (s.2 (s.1-1)).ev+1≤_;omega⟩
   ·rw [if_neg ej]
    exact ⟨this.1,by have:=this.2;omega⟩
theorem infoWI:(Tryz.prog.info? 68).map (fun i=>(i.zero,i.size,i.bytes))=some (some (.agg #[.int .i64 0,.int .u64 0,.int .u64 0,.int .i64 0]),4,32):=by kernel_rfl
theorem WRow.cells {W:World} {base g n c:Nat} {Q:Nat→Wi} (h:Own W base 68 4 (.slice (some ⟨g,0,none⟩) n c) n (wiF Q)) {i:Nat} (hi:i<n):(W.cell? ⟨g,i*4,none⟩=some (.int .i64 (Q i).no)∧W.cell? ⟨g,i*4+1,none⟩=some (.int .u64 (Q i).lo)∧W.cell? ⟨g,i*4+2,none⟩=some (.int .u64 (Q i).bd)∧W.cell? ⟨g,i*4+3,none⟩=some (.int .i64 (Q i).ev)):=by
 have key: ∀r,r<4→W.cell? ⟨g,i*4+r,none⟩=some ((wiL (Q i)).getD r undef):=fun r hr=>by
  have h9:=Own.cell h (j:=i*4+r) (by omega)
  rw [h9]
  unfold wiF
  rw [show (i*4+r) / 4=i by omega,show (i*4+r) % 4=r by omega]
 exact ⟨key 0 (by omega),key 1 (by omega),key 2 (by omega),key 3 (by omega)⟩
theorem WRow.put {W:World} {base g n c:Nat} {Q:Nat→Wi} (h:Own W base 68 4 (.slice (some ⟨g,0,none⟩) n c) n (wiF Q)) {i:Nat} (hi:i<n) (e:Int):Own (W.setCell ⟨g,i*4+3,none⟩ (.int .i64 e)) base 68 4 (.slice (some ⟨g,0,none⟩) n c) n (wiF (setS Q i ⟨(Q i).no,(Q i).lo,(Q i).bd,e⟩)):=by
 refine Own.congr (show Own (W.setCell ⟨g,i*4+3,none⟩ (.int .i64 e)) base 68 4 (.slice (some ⟨g,0,none⟩) n c) n (putF (wiF Q) (i*4+3) [.int .i64 e]) from Own.put h (i*4+3) [.int .i64 e]) fun j hj=> ?_
 unfold putF
 by_cases ej:j=i*4+3
 ·subst ej
  rw [if_pos ⟨Nat.le_refl _,by simp⟩,Nat.sub_self]
  unfold wiF setS
  rw [show (i*4+3) / 4=i by omega,show (i*4+3) % 4=3 by omega,if_pos rfl]
  rfl
 ·rw [if_neg (by simp;omega)]
  unfold wiF setS
  by_cases eq:j / 4=i
  ·rw [eq,if_pos rfl]
   have hr:j % 4=0∨j % 4=1∨j % 4=2:=by omega
   rcases hr with hr|hr|hr<;>rw [hr]<;>rfl
  ·rw [if_neg eq]
set_option maxRecDepth 100000 in
set_option maxHeartbeats 4000000 in
theorem opened_any (p:Pl) (v:PlV) (w:World) (n t:Int) (ht:u64ok t) (hlk:u64ok p.lk) (hen:u64ok p.en):Calls Tryz.prog 72 #[.agg #[.int .i64 p.ki,.slice v.pp p.np v.pc,.slice v.tp p.nq v.tc,.slice v.sp p.ns v.sc,.int .u64 p.sd,.int .u64 p.lk,.int .u64 p.en,.int .i64 p.bu,.int .i64 p.fu],.int .i64 n,.int .u64 t] w fun e w'=>e=.returned (.agg #[.int .i64 n,.int .u64 t,.int .u64 (bndN t p.lk p.en),.int .i64 0])∧Below w.heap.size w w':=by
 obtain ⟨wa,hwa⟩: ∃wa,w.alloc (.cells #[.int .i64 p.ki,.slice v.pp p.np v.pc,.slice v.tp p.nq v.tc,.slice v.sp p.ns v.sc,.int .u64 p.sd,.int .u64 p.lk,.int .u64 p.en,.int .i64 p.bu,.int .i64 p.fu] 27)=wa:=⟨_,rfl⟩
 obtain ⟨ha0,haox,hasz⟩:=boxed _ _ _ hwa
 obtain ⟨wb,hwb⟩: ∃wb,wa.alloc (.cells #[.int .i64 0,.int .u64 0,.int .u64 0,.int .i64 0] 68)=wb:=⟨_,rfl⟩
 obtain ⟨hb0',hbox,hsz⟩:=boxed _ _ _ hwb
 have hb0:Below w.heap.size w wb:=ha0.trans (hb0'.mono ha0.size)
 have hpb:=(hb0'.block _ (lt_of_block haox)).trans haox
 rw [hasz] at hbox
 have HW:Hid ((w.alloc (.cells #[.int .i64 p.ki,.slice v.pp p.np v.pc,.slice v.tp p.nq v.tc,.slice v.sp p.ns v.sc,.int .u64 p.sd,.int .u64 p.lk,.int .u64 p.en,.int .i64 p.bu,.int .i64 p.fu] 27)).alloc (.cells #[.int .i64 0,.int .u64 0,.int .u64 0,.int .i64 0] 68)=wb):=(by rw [hwa,hwb]:(w.alloc (.cells #[.int .i64 p.ki,.slice v.pp p.np v.pc,.slice v.tp p.nq v.tc,.slice v.sp p.ns v.sc,.int .u64 p.sd,.int .u64 p.lk,.int .u64 p.en,.int .i64 p.bu,.int .i64 p.fu] 27)).alloc (.cells #[.int .i64 0,.int .u64 0,.int .u64 0,.int .i64 0] 68)=wb)
 have HB:Hid (Below w.heap.size w wb∧wb.heap[w.heap.size+1]? =some (.cells #[.int .i64 0,.int .u64 0,.int .u64 0,.int .i64 0] 68 (0,0))):=⟨hb0,hbox⟩
 have HBD:=bound_any t p.lk p.en ht hlk hen wb
 have g5:wb.cell? ⟨w.heap.size,5,none⟩=some (.int .u64 p.lk):=cell_in hpb rfl
 have g6:wb.cell? ⟨w.heap.size,6,none⟩=some (.int .u64 p.en):=cell_in hpb rfl
 have hfr:=(fun k9=>frz hbox k9)
 have l0:wb.cell? ⟨w.heap.size+1,0,none⟩=some (.int .i64 0):=cell_in hbox rfl
 have l1:wb.cell? ⟨w.heap.size+1,1,none⟩=some (.int .u64 0):=cell_in hbox rfl
 have l2:wb.cell? ⟨w.heap.size+1,2,none⟩=some (.int .u64 0):=cell_in hbox rfl
 have l3:wb.cell? ⟨w.heap.size+1,3,none⟩=some (.int .i64 0):=cell_in hbox rfl
 obtain ⟨bn,hbn⟩: ∃bn,bndN t p.lk p.en=bn:=⟨_,rfl⟩
 rw [hbn] at HBD ⊢
 clear hwa ha0 haox hasz hwb hb0' hbox hsz hb0 hpb ht hlk hen hbn
 go_enter Tryz.func72,Tryz.ntmps72
 go_upto_region 1 with fail
 rw [HW.out]
 go_wp2_with (go_at_call 117;(with_reducible refine HBD.mono ?_);rintro e w1 ⟨rfl,rfl⟩)
 generalize hWF:World.setCell (World.setCell (World.setCell (World.setCell w1 _ _) _ _) _ _) _ _=wF
 have hres:wF.heap[w.heap.size+1]? =some (.cells #[.int .i64 n,.int .u64 t,.int .u64 bn,.int .i64 0] 68 (0,0)):=by
  rw [←hWF,setCell_block _ _ _ _ (setCell_block _ _ _ _ (setCell_block _ _ _ _ (setCell_block _ _ _ _ HB.out.2)))]
  rfl
 have hbF:Below w.heap.size w wF:=by
  rw [←hWF]
  exact (((HB.out.1.setCell (p:=⟨w.heap.size+1,0,none⟩) (Nat.le_succ _) _).setCell (p:=⟨w.heap.size+1,1,none⟩) (Nat.le_succ _) _).setCell (p:=⟨w.heap.size+1,2,none⟩) (Nat.le_succ _) _).setCell (p:=⟨w.heap.size+1,3,none⟩) (Nat.le_succ _) _
 have z0:wF.cell? ⟨w.heap.size+1,0,none⟩=some (.int .i64 n):=cell_in hres rfl
 have z1:wF.cell? ⟨w.heap.size+1,1,none⟩=some (.int .u64 t):=cell_in hres rfl
 have z2:wF.cell? ⟨w.heap.size+1,2,none⟩=some (.int .u64 bn):=cell_in hres rfl
 have z3:wF.cell? ⟨w.heap.size+1,3,none⟩=some (.int .i64 0):=cell_in hres rfl
 refine bodyPost_ret (v:=.agg #[.int .i64 n,.int .u64 t,.int .u64 bn,.int .i64 0]) (by simp [results,Tryz.results72,go_sem,z0,z1,z2,z3];try rfl) rfl ?_
 exact ⟨rfl,hbF⟩
end Go.Proofs.YtecgecpgmpmkoaaGreat
