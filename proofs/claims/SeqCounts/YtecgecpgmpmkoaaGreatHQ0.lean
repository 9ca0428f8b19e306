import Derived.Test.YtecgecpgmpmkoaaGreatRows
import Derived.WalkKit
import Derived.ProofKit
import Derived.OpenShut
import Derived.Below
import Derived.Deep.RegionHeld3
import Derived.Test.YtecgecpgmpmkoaaGreatChecked
import Derived.Laws.CopyOwn
import Derived.Deep.MidRow
import Derived.Maps.AppendAt
import Derived.RangeFuncOwn
import Derived.BigQuiet
import Derived.WalkMore
namespace Go.Proofs.YtecgecpgmpmkoaaGreat
open Go.ChangeShapes Go.WideShapes Go.ChangeAt Go.RowKit
def cmpN (x y:Int):Int:=if x<y then -1 else if y<x then 1 else 0
theorem cmpu_any (x y:Int) (w:World):
  Calls Tryz.prog 184 #[.int .u64 x,.int .u64 y] w fun e w'=>e=.returned (.int .i64 (cmpN x y))∧w'=w:=by
 by_cases h1:x<y
 ·have hv:cmpN x y= -1:=by simp [cmpN,h1]
  rw [hv]
  clear hv
  go_enter Tryz.func184,Tryz.ntmps184
  go_wp2
  go_ret
  exact ⟨rfl,rfl⟩
 ·by_cases h2:y<x
  ·have hv:cmpN x y=1:=by simp [cmpN,h1,h2]
   rw [hv]
   clear hv
   go_enter Tryz.func184,Tryz.ntmps184
   go_wp2
   go_ret
   exact ⟨rfl,rfl⟩
  ·have hv:cmpN x y=0:=by simp [cmpN,h1,h2]
   rw [hv]
   clear hv
   go_enter Tryz.func184,Tryz.ntmps184
   go_wp2
   go_ret
   exact ⟨rfl,rfl⟩
theorem cmpi_any (x y:Int) (w:World):
  Calls Tryz.prog 185 #[.int .i64 x,.int .i64 y] w fun e w'=>e=.returned (.int .i64 (cmpN x y))∧w'=w:=by
 by_cases h1:x<y
 ·have hv:cmpN x y= -1:=by simp [cmpN,h1]
  rw [hv]
  clear hv
  go_enter Tryz.func185,Tryz.ntmps185
  go_wp2
  go_ret
  exact ⟨rfl,rfl⟩
 ·by_cases h2:y<x
  ·have hv:cmpN x y=1:=by simp [cmpN,h1,h2]
   rw [hv]
   clear hv
   go_enter Tryz.func185,Tryz.ntmps185
   go_wp2
   go_ret
   exact ⟨rfl,rfl⟩
  ·have hv:cmpN x y=0:=by simp [cmpN,h1,h2]
   rw [hv]
   clear hv
   go_enter Tryz.func185,Tryz.ntmps185
   go_wp2
   go_ret
   exact ⟨rfl,rfl⟩
def orN (a b c:Int):Int:=if a=0 then (if b=0 then c else b) else a
theorem orN_a {a b c : Int} (h : (a != 0) = true) : orN a b c = a := by have : a ≠ 0 := by simpa using h
                                                                        simp [orN, this]
theorem orN_b {a b c:Int} (h:(a !=0)=false) (h1:(b !=0)=true):orN a b c=b:=by
 have:a=0:=by simpa using h
 have:b≠0:=by simpa using h1
 simp [orN, *]
theorem orN_c {a b c:Int} (h:(a !=0)=false) (h1:(b !=0)=false):orN a b c=c:=by
 have:a=0:=by simpa using h
 have:b=0:=by simpa using h1
 simp [orN, *]
theorem ret_int {k:IntKind} {a b:Int} (h:a=b):Ending.returned (.int k a)=.returned (.int k b):=by rw [h]
theorem or_any (a b c : Int) (k : Nat) (w : World) (h0 : w.cell? ⟨k, 0, none⟩ = some (.int .i64 a)) (h1 : w.cell? ⟨k, 1, none⟩ = some (.int .i64 b)) (h2 : w.cell? ⟨k, 2, none⟩ = some (.int .i64 c)) :
    Calls Tryz.prog 183 #[.slice (some ⟨k, 0, none⟩) 3 3] w fun e w' => e = .returned (.int .i64 (orN a b c)) ∧ w' = w := by
  go_enter Tryz.func183, Tryz.ntmps183
  go_wp2
  refine wp_loop_rounds 4 ?_
  rw [rounds_succ]
  go_wp2
  · go_ret
    exact ⟨ret_int (orN_a ‹_›).symm, rfl⟩
  · rw [rounds_succ]
    go_wp2
    · go_ret
      exact ⟨ret_int (orN_b ‹_› ‹_›).symm, rfl⟩
    · rw [rounds_succ]
      go_wp2
      · go_ret
        exact ⟨ret_int (orN_c ‹_› ‹_›).symm, rfl⟩
      · rw [rounds_succ]
        go_wp2
        go_ret
        exact ⟨ret_int (by rw [orN_c ‹_› ‹_›]; have : c = 0 := by simpa using ‹(c != 0) = false›
                           rw [this]), rfl⟩
def keyCmp (t s q t' s' q':Int):Int:=orN (cmpN t t') (cmpN s s') (cmpN q q')
theorem compare_any (t s q t' s' q':Int) (w:World):
  Calls Tryz.prog 159 #[.agg #[.int .u64 t,.int .i64 s,.int .u64 q],.agg #[.int .u64 t',.int .i64 s',.int .u64 q']] w fun e w'=>e=.returned (.int .i64 (keyCmp t s q t' s' q'))∧Below w.heap.size w w':=by
 go_enter Tryz.func159,Tryz.ntmps159
 go_wp2
 go_region_held3 (fun w'=>w'.cell? ⟨w.heap.size,0,none⟩=some (.int .u64 t)∧w'.cell? ⟨w.heap.size,1,none⟩=some (.int .i64 s)∧w'.cell? ⟨w.heap.size,2,none⟩=some (.int .u64 q)∧w'.cell? ⟨w.heap.size+1,0,none⟩=some (.int .u64 t')∧w'.cell? ⟨w.heap.size+1,1,none⟩=some (.int .i64 s')∧w'.cell? ⟨w.heap.size+1,2,none⟩=some (.int .u64 q')) (go_keep) (first|(go_at_call 184;refine (cmpu_any _ _ _).mono ?_;rintro e w' ⟨rfl,rfl⟩)|(go_at_call 185;refine (cmpi_any _ _ _).mono ?_;rintro e w' ⟨rfl,rfl⟩)|(go_at_call 183;refine (or_any (cmpN t t') (cmpN s s') (cmpN q q') _ _ ?_ ?_ ?_).mono ?_;(go_simp);(go_simp);(go_simp);rintro e w' ⟨rfl,rfl⟩))
 go_wp2
 go_ret
 exact ⟨rfl,by repeat (first|exact Below.refl _ _|apply Below.drew|refine Below.alloc ?_ (by simp<;>omega) _)⟩
end Go.Proofs.YtecgecpgmpmkoaaGreat
namespace Go.Proofs.YtecgecpgmpmkoaaGreat
open Go.ChangeShapes Go.WideShapes Go.ChangeAt Go.RowKit
set_option linter.unusedVariables false
theorem addr_add0 (b off i:Nat):(⟨b,off,none⟩:Addr).add i=⟨b,off+i,none⟩:=by
 unfold Addr.add
 by_cases hi:i=0<;>simp [hi]
def cellsF (F:Nat→Value) (n:Nat):List Value:=(List.range n).map F
theorem cellsF_len (F:Nat→Value) (n:Nat):(cellsF F n).length=n:=by simp [cellsF]
theorem cellsF_at (F:Nat→Value) {n j:Nat} (h:j<n):(cellsF F n)[j]? =some (F j):=by
 unfold cellsF
 rw [List.getElem?_map,List.getElem?_range h]
 rfl
theorem cellsF_of (xs:List Value):xs=cellsF (fun j=>xs.getD j undef) xs.length:=by
 apply List.ext_getElem?
 intro j
 by_cases h:j<xs.length
 ·rw [cellsF_at _ h,List.getD_eq_getElem?_getD,List.getElem?_eq_getElem h]
  rfl
 ·rw [List.getElem?_eq_none (by omega),List.getElem?_eq_none (by rw [cellsF_len];omega)]
theorem cellsF_congr {F G:Nat→Value} {n:Nat} (h: ∀j,j<n→F j=G j):cellsF F n=cellsF G n:=by
 unfold cellsF
 exact List.map_congr_left fun j hj=>h j (List.mem_range.1 hj)
theorem cellsF_append (F G:Nat→Value) (n m:Nat):cellsF F n++cellsF G m=cellsF (fun j=>if j<n then F j else G (j-n)) (n+m):=by
 apply List.ext_getElem?
 intro j
 by_cases h:j<n
 ·rw [List.getElem?_append_left (by rw [cellsF_len];exact h),cellsF_at F h,cellsF_at _ (by omega),if_pos h]
 ·rw [List.getElem?_append_right (by rw [cellsF_len];omega),cellsF_len]
  by_cases h2:j-n<m
  ·rw [cellsF_at G h2,cellsF_at _ (by omega),if_neg h]
  ·rw [List.getElem?_eq_none (by rw [cellsF_len];omega),List.getElem?_eq_none (by rw [cellsF_len];omega)]
def Own (W:World) (base:Nat) (t:TypeId) (s:Nat) (v:Value) (m:Nat) (F:Nat→Value):Prop:=W.ownsRow base t s v m (cellsF F (m*s))
theorem Own.cell {W:World} {base:Nat} {t:TypeId} {s g m c:Nat} {F:Nat→Value} (h:Own W base t s (.slice (some ⟨g,0,none⟩) m c) m F) {j:Nat} (hj:j<m*s):W.cell? ⟨g,j,none⟩=some (F j):=by
 have:=h.cells (g:=g) rfl j _ (cellsF_at F hj)
 rw [addr_add0,Nat.zero_add] at this
 exact this
theorem Own.block {W:World} {base:Nat} {t:TypeId} {s g m c:Nat} {F:Nat→Value} (h:Own W base t s (.slice (some ⟨g,0,none⟩) m c) m F): ∃cur:Array Value,W.heap[g]? =some (.cells cur t (0,0))∧cur.size=c*s∧m≤c∧c≤maxLen∧base≤g∧ ∀j,j<m*s→cur[j]? =some (F j):=by
 rcases h.2 with ⟨h1,_⟩|⟨g',cap,cur,hv,hb,hg,hnc,hcm,hcs,htk⟩
 ·cases h1
 ·injection hv with h1 h2 h3
  injection h1 with h1
  injection h1 with h1 _ _
  subst h1 h3
  refine ⟨cur,hg,hcs,hnc,hcm,hb,fun j hj=> ?_⟩
  have:=cellsF_at F hj
  rw [←htk,List.getElem?_take,if_pos hj] at this
  simpa using this
theorem Own.mk' {W:World} {base:Nat} {t:TypeId} {s g m c:Nat} {F:Nat→Value} {cur:Array Value} (hg:W.heap[g]? =some (.cells cur t (0,0))) (hcs:cur.size=c*s) (hnc:m≤c) (hcm:c≤maxLen) (hb:base≤g) (hc: ∀j,j<m*s→cur[j]? =some (F j)):Own W base t s (.slice (some ⟨g,0,none⟩) m c) m F:=by
 refine ⟨cellsF_len _ _,.inr ⟨g,c,cur,rfl,hb,hg,hnc,hcm,hcs,?_⟩⟩
 apply List.ext_getElem?
 intro j
 rw [List.getElem?_take]
 by_cases h:j<m*s
 ·rw [if_pos h,cellsF_at F h]
  simpa using hc j h
 ·rw [if_neg h,List.getElem?_eq_none (by rw [cellsF_len];omega)]
theorem setCell_block (w:World) (g o:Nat) (v:Value) {cur:Array Value} {t:TypeId} {fr:Nat×Nat} (h:w.heap[g]? =some (.cells cur t fr)):(w.setCell ⟨g,o,none⟩ v).heap[g]? =some (.cells (cur.setIfInBounds o v) t fr):=by
 obtain ⟨hlt,hk⟩:=Array.getElem?_eq_some_iff.1 h
 show (w.heap.modify g _)[g]? =_
 rw [Array.getElem?_eq_getElem (by rw [Array.size_modify];exact hlt),Array.getElem_modify_self,hk]
 rfl
theorem setCells_block (g:Nat) {t:TypeId} {fr:Nat×Nat} : ∀(vs:List Value) (o:Nat) (w:World) (cur:Array Value),w.heap[g]? =some (.cells cur t fr)→ ∃cur',(w.setCells g o vs).heap[g]? =some (.cells cur' t fr)∧cur'.size=cur.size∧ ∀j,j<cur.size→cur'[j]? =if o≤j∧j<o+vs.length then vs[j-o]? else cur[j]?
 | [],o,w,cur,h=>⟨cur,h,rfl,fun j _=>by rw [if_neg (by simp only [List.length_nil];omega)]⟩
 |v::r,o,w,cur,h=>by
  obtain ⟨cur',h1,h2,h3⟩:=setCells_block g r (o+1) (w.setCell ⟨g,o,none⟩ v) _ (setCell_block w g o v h)
  refine ⟨cur',h1,by rw [h2];simp,fun j hj=> ?_⟩
  rw [h3 j (by simpa using hj)]
  by_cases h4:j=o
  ·subst h4
   rw [if_neg (by omega),if_pos (by simp)]
   simp [hj]
  ·by_cases h5:o+1≤j∧j<o+1+r.length
   ·rw [if_pos h5,if_pos (by simp;omega)]
    have:j-o=(j-(o+1))+1:=by omega
    rw [this]
    rfl
   ·rw [if_neg h5,if_neg (by simp;omega),Array.getElem?_setIfInBounds_ne (by omega)]
theorem setCells_other (g:Nat): ∀(vs:List Value) (o:Nat) (w:World) (k:Nat),k≠g→(w.setCells g o vs).heap[k]? =w.heap[k]?
 | [],_,_,_,_=>rfl
 |v::r,o,w,k,h=>(setCells_other g r (o+1) _ k h).trans (Below.heap_setCell w ⟨g,o,none⟩ v k h)
theorem setCells_size (g:Nat): ∀(vs:List Value) (o:Nat) (w:World),(w.setCells g o vs).heap.size=w.heap.size
 | [],_,_=>rfl
 |v::r,o,w=>(setCells_size g r (o+1) _).trans (by simp [World.setCell])
theorem setCells_below {B g:Nat} {w0:World} : ∀(vs:List Value) (o:Nat) (w:World),Below B w0 w→B≤g→Below B w0 (w.setCells g o vs)
 | [],_,_,h,_=>h
 |v::r,o,w,h,hg=>setCells_below r (o+1) _ (h.setCell (p:=⟨g,o,none⟩) hg v) hg
def putF (F:Nat→Value) (o:Nat) (vs:List Value):Nat→Value:=fun j=>if o≤j∧j<o+vs.length then vs.getD (j-o) undef else F j
theorem Own.put {W:World} {base:Nat} {t:TypeId} {s g m c:Nat} {F:Nat→Value} (h:Own W base t s (.slice (some ⟨g,0,none⟩) m c) m F) (o:Nat) (vs:List Value):Own (W.setCells g o vs) base t s (.slice (some ⟨g,0,none⟩) m c) m (putF F o vs):=by
 obtain ⟨cur,h1,h2,h3,h4,h5,h6⟩:=h.block
 obtain ⟨cur',k1,k2,k3⟩:=setCells_block g vs o W cur h1
 refine Own.mk' k1 (k2.trans h2) h3 h4 h5 fun j hj=> ?_
 have hj':j<cur.size:=by rw [h2];exact Nat.lt_of_lt_of_le hj (Nat.mul_le_mul_right _ h3)
 rw [k3 j hj']
 unfold putF
 by_cases hc:o≤j∧j<o+vs.length
 ·rw [if_pos hc,if_pos hc,List.getD_eq_getElem?_getD]
  rw [List.getElem?_eq_getElem (by omega)]
  rfl
 ·rw [if_neg hc,if_neg hc]
  exact h6 j hj
theorem Own.far {W W':World} {base:Nat} {t:TypeId} {s m:Nat} {v:Value} {F:Nat→Value} (h:Own W base t s v m F) (hk: ∀k,v.ownBlock=some k→W'.heap[k]? =W.heap[k]?):Own W' base t s v m F:=by
 refine ⟨h.1,?_⟩
 rcases h.2 with h|⟨g,cap,cur,rfl,hg,hh,r⟩
 ·exact Or.inl h
 ·exact Or.inr ⟨g,cap,cur,rfl,hg,(hk g rfl).trans hh,r⟩
theorem Own.congr {W:World} {base:Nat} {t:TypeId} {s m:Nat} {v:Value} {F G:Nat→Value} (h:Own W base t s v m F) (he: ∀j,j<m*s→F j=G j):Own W base t s v m G:=by
 unfold Own
 rw [←cellsF_congr he]
 exact h
theorem Own.form {W:World} {base:Nat} {t:TypeId} {s m:Nat} {v:Value} {F:Nat→Value} (h:Own W base t s v m F):(v=.slice none 0 0∧m=0)∨ ∃g c,v=.slice (some ⟨g,0,none⟩) m c∧base≤g∧g<W.heap.size:=by
 rcases h.2 with h|⟨g,cap,cur,rfl,hg,hh,r⟩
 ·exact .inl h
 ·exact .inr ⟨g,cap,rfl,hg,(Array.getElem?_eq_some_iff.1 hh).1⟩
end Go.Proofs.YtecgecpgmpmkoaaGreat
namespace Go.Proofs.YtecgecpgmpmkoaaGreat
open Go.ChangeShapes Go.WideShapes Go.ChangeAt Go.RowKit
set_option linter.unusedVariables false
theorem cell_below {W W':World} {a:Addr} (hb:Below W.heap.size W W') (hlt:a.block<W.heap.size):W'.cell? a=W.cell? a:=by
 unfold World.cell?
 rw [hb.block _ hlt]
theorem below_drewNq (B:Nat) (w:World) (n:Nat):Below B w (w.drewN n):=⟨rfl,rfl,rfl,Nat.le_refl _,fun _ _=>rfl⟩
theorem meas {n L:Nat} (h:n<L):L-(intOf (.int .i64 ((n:Int)+1))).toNat<L-(intOf (.int .i64 (n:Int))).toNat:=by
 simp only [intOf]
 omega
theorem addr_add (b off i:Nat):(⟨b,off,none⟩:Addr).add i=⟨b,off+i,none⟩:=by
 unfold Addr.add
 by_cases hi:i=0<;>simp [hi]
theorem lt_of_block {w:World} {g:Nat} {o:Obj} (h:w.heap[g]? =some o):g<w.heap.size:=(Array.getElem?_eq_some_iff.1 h).1
theorem frz {W:World} {b:Nat} {cur:Array Value} {t:TypeId} (h:W.heap[b]? =some (.cells cur t (0,0))): ∀k,W.frozen? ⟨b,k,none⟩=false:=fun k=>by simp [World.frozen?,h]
theorem scells_new (w:World) (cs:List Value) (t:TypeId): ∀j u,cs[j]? =some u→(w.alloc (.cells cs.toArray t)).cell? ((⟨w.heap.size,0,none⟩:Addr).add j)=some u:=by
 intro j u hj
 rw [addr_add0,Nat.zero_add]
 unfold World.cell?
 rw [World.alloc_heap_new]
 simpa using hj
theorem Own.lower {W:World} {base base':Nat} {t:TypeId} {s m:Nat} {v:Value} {F:Nat→Value} (h:Own W base t s v m F) (hb:base'≤base):Own W base' t s v m F:=by
 rcases h with ⟨h1,h2|⟨g,c,cur,h3,h4,h5⟩⟩
 ·exact ⟨h1,.inl h2⟩
 ·exact ⟨h1,.inr ⟨g,c,cur,h3,Nat.le_trans hb h4,h5⟩⟩
theorem Own.later {w w':World} {base:Nat} {t:TypeId} {s m:Nat} {v:Value} {F:Nat→Value} (ho:Own w base t s v m F) (hb:Below w.heap.size w w'):Own w' base t s v m F:=ho.far fun k hk=>by
 rcases ho.form with ⟨h7,_⟩|⟨g,c,h7,h8,h9⟩
 ·rw [h7] at hk;cases hk
 ·rw [h7] at hk;cases hk;exact hb.block _ h9
theorem own_slice {W:World} {base:Nat} {t:TypeId} {s m:Nat} {v:Value} {F:Nat→Value} (h:Own W base t s v m F): ∃op oc,v=.slice op m oc:=by
 rcases h.form with ⟨h1,h2⟩|⟨g,c,h1,_⟩
 ·exact ⟨none,0,by rw [h1,h2]⟩
 ·exact ⟨_,_,h1⟩
theorem Own.lt {w:World} {base:Nat} {t:TypeId} {s m:Nat} {v:Value} {F:Nat→Value} (ho:Own w base t s v m F): ∀k,v.ownBlock=some k→base≤k∧k<w.heap.size:=fun k hk=>by
 rcases ho.form with ⟨h7,_⟩|⟨g,c,h7,h8,h9⟩
 ·rw [h7] at hk;cases hk
 ·rw [h7] at hk;cases hk;exact ⟨h8,h9⟩
end Go.Proofs.YtecgecpgmpmkoaaGreat
namespace Go.Proofs.YtecgecpgmpmkoaaGreat
open Go.ChangeShapes Go.WideShapes Go.ChangeAt Go.RowKit
set_option linter.unusedVariables false
theorem run_copy_wide {P:Program} (w:World) (dT sT ty elem:TypeId) (size g o dLen dCap:Nat) (a:Addr) (sLen sCap:Nat) (cur:Array Value) (t:TypeId) (cs:List Value)
  (hu:P.underlying dT=some (.slice elem)) (hs:(P.info? elem).map (·.size)=some size)
  (hg:w.heap[g]? =some (.cells cur t (0,0))) (hn:cs.length=Nat.min sLen dLen*size)
  (hsrc: ∀j v,cs[j]? =some v→w.cell? (a.add j)=some v) (hfit:o+cs.length≤cur.size) (h1: ∀v ∈ cs,v.oneCell'=true):
  (Builtin.copy_ #[dT,sT] ty #[.slice (some ⟨g,o,none⟩) dLen dCap,.slice (some a) sLen sCap]).run P w=
   .ok (goInt (Nat.min sLen dLen)) (w.setRow g (cur.toList.take o++cs++cur.toList.drop (o+cs.length)).toArray):=by
 have hl:=run_firstCells_some (P:=P) w size (Nat.min sLen dLen) a sLen sCap cs hn hsrc
 have hst:=run_storeCells_at P g o t cs 0 cur w hg (by simpa using hfit) h1
 cases hq:P.info? elem with
 |none=>simp [hq] at hs
 |some i=>
  have hi:i.size=size:=by simpa [hq] using hs
  simp [Builtin.copy_,run_underlying hu,Builtin.lenOf,sizeOf,typeInfo,hq,hi,hl,hst]
theorem run_copy_zero {P:Program} (w:World) (dT sT ty elem:TypeId) (d a:Option Addr) (dLen dCap sCap:Nat) (hu:P.underlying dT=some (.slice elem)) (hs:(P.info? elem).isSome):
  (Builtin.copy_ #[dT,sT] ty #[.slice d dLen dCap,.slice a 0 sCap]).run P w=.ok (goInt 0) w:=by
 cases hq:P.info? elem with
 |none=>simp [hq] at hs
 |some i=>
  have hl: ∀(x:Addr),(loadCells x 0).run P w=.ok #[] w:=fun x=>by simpa using run_loadCells_list (P:=P) w x [] (by simp)
  have h0:Nat.min 0 dLen=0:=Nat.zero_min _
  cases d<;>cases a<;>simp [Builtin.copy_,run_underlying hu,Builtin.lenOf,Builtin.firstCells,sizeOf,typeInfo,hq,h0,storeCells,hl]
theorem wpList_copy_head {P:Program} {w:World} {ops:Array Oper} {rest:List Oper} {o:Oper} {a:Act} {Q:Exit→Act→World→Prop} (hgd:o.guard=none) (d s:Operand) (dT sT:TypeId)
  (ho:o.op=.call { callee:=.builtin .copy,args:= #[d,s],argTypes:= #[dT,sT] }) (elem:TypeId) (size:Nat) (hu:P.underlying dT=some (.slice elem)) (hsz:(P.info? elem).map (·.size)=some size)
  (base g dLen dCap n sCap:Nat) (sp:Option Addr) (hd:a.eval d=.slice (some ⟨g,0,none⟩) dLen dCap) (hs:a.eval s=.slice sp n sCap) (hle:n≤dLen)
  (F G:Nat→Value) (hown:Own w base elem size (.slice (some ⟨g,0,none⟩) dLen dCap) dLen F) (h1: ∀j,j<n*size→(G j).oneCell'=true)
  (hsrc:n=0∨ ∃ad,sp=some ad∧ ∀j,j<n*size→w.cell? (ad.add j)=some (G j)) (B:Nat) (w0:World) (hb:Below B w0 w) (hBg:B≤g)
  (h: ∀w',Hid (Own w' base elem size (.slice (some ⟨g,0,none⟩) dLen dCap) dLen (fun j=>if j<n*size then G j else F j))→Below B w0 w'→wpList P ops Q rest (a.put o.dst (goInt n)) w'):
  wpList P ops Q (o::rest) a w:=by
 obtain ⟨cur,hg,hcs,hnc,hcm,hbg,hF⟩:=hown.block
 have hmin:Nat.min n dLen=n:=Nat.min_eq_left hle
 rcases Nat.eq_zero_or_pos n with h0|hp
 ·subst h0
  have hrun:=run_copy_zero (P:=P) w dT sT o.type elem (some ⟨g,0,none⟩) sp dLen dCap sCap hu (by cases hq:P.info? elem with|none=>simp [hq] at hsz|some i=>rfl)
  refine wpList_plain hgd fun K hK=> ?_
  unfold Oper.wp
  simp [execOp,ho,resolve,invoke,builtin,hd,hs,hrun,Result.andThen]
  refine hK _ _ (h w ?_ hb)
  exact hown.congr fun j _=>by rw [if_neg (by omega)]
 ·obtain ⟨ad,rfl,hc⟩: ∃ad,sp=some ad∧ ∀j,j<n*size→w.cell? (ad.add j)=some (G j):=by
   rcases hsrc with h|h
   ·omega
   ·exact h
  have hle2:n*size≤cur.size:=by rw [hcs];exact Nat.mul_le_mul_right _ (Nat.le_trans hle hnc)
  have hrun:=run_copy_wide (P:=P) w dT sT o.type elem size g 0 dLen dCap ad n sCap cur elem (cellsF G (n*size)) hu hsz hg (by rw [cellsF_len,hmin])
   (fun j v hj=>by
    have hlt:j<n*size:=by
     have:=(List.getElem?_eq_some_iff.1 hj).1
     rw [cellsF_len] at this
     exact this
    rw [cellsF_at _ hlt] at hj
    rw [hc j hlt]
    exact hj) (by rw [cellsF_len];omega)
   (fun v hv=>by
    unfold cellsF at hv
    obtain ⟨j,hj,rfl⟩:=List.mem_map.1 hv
    exact h1 j (List.mem_range.1 hj))
  rw [hmin] at hrun
  refine wpList_plain hgd fun K hK=> ?_
  unfold Oper.wp
  simp [execOp,ho,resolve,invoke,builtin,hd,hs,hrun,Result.andThen]
  refine hK _ _ (h _ ?_ (below_setRow hb hBg _))
  refine Own.mk' (setRow_heap w g cur _ elem _ hg) ?_ hnc hcm hbg fun j hj=> ?_
  ·simp [cellsF_len]
   omega
  ·have hj':j<cur.size:=by rw [hcs];exact Nat.lt_of_lt_of_le hj (Nat.mul_le_mul_right _ hnc)
   by_cases hjn:j<n*size
   ·rw [if_pos hjn]
    have:(cellsF G (n*size)++cur.toList.drop (n*size))[j]? =some (G j):=by
     rw [List.getElem?_append_left (by rw [cellsF_len];exact hjn),cellsF_at _ hjn]
    simpa [cellsF_len] using this
   ·rw [if_neg hjn]
    have:(cellsF G (n*size)++cur.toList.drop (n*size))[j]? =some (F j):=by
     rw [List.getElem?_append_right (by rw [cellsF_len];omega),cellsF_len,List.getElem?_drop]
     rw [show n*size+(j-n*size)=j by omega]
     simpa using hF j hj
    simpa [cellsF_len] using this
end Go.Proofs.YtecgecpgmpmkoaaGreat
namespace Go.Proofs.YtecgecpgmpmkoaaGreat
open Go.ChangeShapes Go.WideShapes Go.ChangeAt Go.RowKit
set_option linter.unusedVariables false
theorem own_of_row {W:World} {base:Nat} {t:TypeId} {s m:Nat} {v:Value} {xs:List Value} (h:W.ownsRow base t s v m xs):Own W base t s v m (fun j=>xs.getD j undef):=by
 unfold Own
 rw [←h.1,←cellsF_of xs]
 exact h
end Go.Proofs.YtecgecpgmpmkoaaGreat
