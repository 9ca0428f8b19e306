import Derived.Test.YtecgecpgmpmkoaaGreatHDBelow
import Derived.Test.YtecgecpgmpmkoaaGreatHV1
import Derived.Test.YtecgecpgmpmkoaaGreatHSO9
import Derived.Laws.NewBlocks
import Derived.Laws.Cover3
import Derived.Test.YtecgecpgmpmkoaaGreatHSV6
namespace Go.Proofs.YtecgecpgmpmkoaaGreat
open Go.ChangeShapes Go.WideShapes Go.ChangeAt Go.RowKit
set_option linter.unusedVariables false
set_option linter.unusedSimpArgs false
theorem infoI64:(Tryz.prog.info? 2).map (fun i=>(i.zero,i.size,i.bytes))=some (some (.int .i64 0),1,8):=by kernel_rfl
theorem run_nil_yes (n c:Nat) (W:World):(binOp .eql 60 (.slice none n c) (.slice none 0 0)).run Tryz.prog W=.ok (.bool true) W:=by
 have:=run_equal_slice_nil (P:=Tryz.prog) W 60 2 none n c Tryz.underlying60
 simp [binOp,this]
theorem run_nil_no (ad:Addr) (n c:Nat) (W:World):(binOp .eql 60 (.slice (some ad) n c) (.slice none 0 0)).run Tryz.prog W=.ok (.bool false) W:=by
 have:=run_equal_slice_nil (P:=Tryz.prog) W 60 2 (some ad) n c Tryz.underlying60
 simp [binOp,this]
theorem own_nil0 {W:World} {base:Nat} {t:TypeId} {s:Nat} {F:Nat→Value} :Own W base t s (.slice none 0 0) 0 F:=⟨by simp [cellsF],.inl ⟨rfl,rfl⟩⟩
theorem own_new0 (w:World) (t:TypeId) (F:Nat→Value):Own (w.alloc (.cells #[] t)) w.heap.size t 1 (.slice (some ⟨w.heap.size,0,none⟩) 0 0) 0 F:=
 Own.mk' (World.alloc_heap_new w _) rfl (Nat.le_refl _) (Nat.zero_le _) (Nat.le_refl _) fun j hj=>by omega
theorem own_kat {W:World} {base:Nat} {p:Option Addr} {n c:Nat} {K:Nat→Int} (h:Own W base 2 1 (.slice p n c) n (iv K)):KAt W p n K:=by
 rcases h.form with ⟨h1,h2⟩|⟨g,c',h1,h2,h3⟩
 ·exact .inl h2
 ·injection h1 with e1 e2 e3
  subst e1
  subst e3
  refine .inr ⟨g,0,rfl,h3,fun j hj=> ?_⟩
  rw [Nat.zero_add]
  exact h.cell (j:=j) (by omega)
set_option maxRecDepth 100000 in
set_option maxHeartbeats 1000000 in
theorem clone_any (p:Option Addr) (n c:Nat) (K:Nat→Int) (w:World) (hn:n≤17592186044416) (h:KAt w p n K):
  Calls Tryz.prog 102 #[.slice p n c] w fun e w'=> ∃(q:Option Addr) (cc:Nat),e=.returned (.slice q n cc)∧KAt w' q n K∧(∀g o,q=some ⟨g,o,none⟩→w.heap.size≤g∧g<w'.heap.size)∧Below w.heap.size w w':=by
 rcases p with _|ad
 ·have h0:n=0:=by
   rcases h with h|⟨b,o,e,_⟩
   ·exact h
   ·cases e
  subst h0
  have hq:=run_nil_yes 0 c
  go_enter Tryz.func102,Tryz.ntmps102
  go_wp2
  go_ret
  exact ⟨none,0,rfl,.inl rfl,fun g o e=>(by cases e),Below.refl _ _⟩
 ·have hq:=run_nil_no ad n c
  obtain ⟨i3,hi3,ha3,hb3,hc3⟩:=sinfo infoI64
  have hz3:(Value.int .i64 0).cells.size=1:=rfl
  obtain ⟨w1,hw1⟩: ∃w1,w.alloc (.cells #[] 2)=w1:=⟨_,rfl⟩
  have hO:=own_new0 w 2 (iv K)
  have hb1:Below w.heap.size w w1:=by rw [←hw1];exact (Below.refl _ w).alloc (Nat.le_refl _) _
  rw [hw1] at hO
  have hc: ∀j u,(intsL K n)[j]? =some u→w1.cell? (ad.add j)=some u:=fun j u hu=>by
   have hj:j<n:=by
    have:=(List.getElem?_eq_some_iff.1 hu).1
    rwa [intsL_len] at this
   rw [intsL_get hj] at hu
   cases hu
   rcases h with e0|⟨b,o,e,hlt,hcc⟩
   ·omega
   ·cases e
    rw [addr_add]
    exact (cell_below hb1 hlt).trans (hcc j hj)
  have HW:Hid (w.alloc (.cells #[] 2)=w1):=hw1
  have HO:Hid (w1.ownsRow w.heap.size 2 1 (.slice (some ⟨w.heap.size,0,none⟩) 0 0) 0 []):=hO
  clear hO hw1
  have hsz:=hb1.size
  go_enter Tryz.func102,Tryz.ntmps102
  go_wp2_with (at_builtin;rw [HW.out];refine wpList_append_own _ rfl (.tmp 5) (.tmp 6) 60 rfl w.heap.size 2 i3 (.int .i64 0) 1 8 Tryz.underlying60 hi3 ha3 hb3 hc3 hz3 (by decide) (.slice (some ⟨w.heap.size,0,none⟩) 0 0) 0 [] rfl HO.out ad n c (intsL K n) rfl (by rw [intsL_len,Nat.mul_one]) hc (intsL_one K n) (by unfold maxLen;omega) (by omega) hsz ?_;intro v' w2 hown hgrow _)
  go_ret
  have hF:Own w2 w.heap.size 2 1 v' n (iv K):=by
   unfold Own
   have e:cellsF (iv K) (n*1)= []++intsL K n:=by rw [Nat.mul_one];rfl
   rw [e]
   simpa using hown
  have hB:Below w.heap.size w w2:=hb1.grown hgrow hsz (fun k hk=>by simp [Value.ownBlock] at hk;omega)
  rcases hF.form with ⟨e1,e2⟩|⟨g,cc,e1,hg1,hg2⟩
  ·subst e1 e2
   exact ⟨none,0,rfl,.inl rfl,fun g o e=>(by cases e),hB⟩
  ·subst e1
   exact ⟨_,_,rfl,own_kat hF,fun g' o e=>(by cases e;exact ⟨hg1,hg2⟩),hB⟩
end Go.Proofs.YtecgecpgmpmkoaaGreat
namespace Go.Proofs.YtecgecpgmpmkoaaGreat
open Go.ChangeShapes Go.WideShapes Go.ChangeAt Go.RowKit
set_option linter.unusedVariables false
set_option linter.unusedSimpArgs false
def CIn (W:World) (p:Option Addr) (n s:Nat) (F:Nat→Value):Prop:=n=0∨ ∃b o,p=some ⟨b,o,none⟩∧b<W.heap.size∧ ∀j,j<n*s→W.cell? ⟨b,o+j,none⟩=some (F j)
theorem own_news (w:World) (t:TypeId) (s:Nat) (F:Nat→Value):Own (w.alloc (.cells #[] t)) w.heap.size t s (.slice (some ⟨w.heap.size,0,none⟩) 0 0) 0 F:=
 Own.mk' (World.alloc_heap_new w _) (by simp) (Nat.le_refl _) (Nat.zero_le _) (Nat.le_refl _) fun j hj=>by omega
theorem cloneE_inf:(Tryz.prog.info? 54).map (fun i=>(i.zero,i.size,i.bytes))=some (some (.agg #[.int .u64 0,.int .i64 0,.int .u64 0,.int .i64 0,.int .i64 0,.int .i64 0]),6,48):=by kernel_rfl
theorem cloneE_yes (n c:Nat) (W:World):(binOp .eql 35 (.slice none n c) (.slice none 0 0)).run Tryz.prog W=.ok (.bool true) W:=by
 have:=run_equal_slice_nil (P:=Tryz.prog) W 35 54 none n c Tryz.underlying35
 simp [binOp,this]
theorem cloneE_no (ad:Addr) (n c:Nat) (W:World):(binOp .eql 35 (.slice (some ad) n c) (.slice none 0 0)).run Tryz.prog W=.ok (.bool false) W:=by
 have:=run_equal_slice_nil (P:=Tryz.prog) W 35 54 (some ad) n c Tryz.underlying35
 simp [binOp,this]
set_option maxRecDepth 100000 in
set_option maxHeartbeats 1000000 in
theorem cloneE_any (p:Option Addr) (n c:Nat) (F:Nat→Value) (w:World) (hn:n*48≤140737488355328) (h:CIn w p n 6 F) (h1: ∀j,j<n*6→(F j).oneCell'=true):
  Calls Tryz.prog 70 #[.slice p n c] w fun e w'=> ∃(q:Option Addr) (cc:Nat),e=.returned (.slice q n cc)∧Own w' w.heap.size 54 6 (.slice q n cc) n F∧Below w.heap.size w w':=by
 rcases p with _|ad
 ·have h0:n=0:=by
   rcases h with h|⟨b,o,e,_⟩
   ·exact h
   ·cases e
  subst h0
  have hq:=cloneE_yes 0 c
  go_enter Tryz.func70,Tryz.ntmps70
  go_wp2
  go_ret
  exact ⟨none,0,rfl,own_nil0,Below.refl _ _⟩
 ·have hq:=cloneE_no ad n c
  obtain ⟨i3,hi3,ha3,hb3,hc3⟩:=sinfo cloneE_inf
  have hz3:(.agg #[.int .u64 0,.int .i64 0,.int .u64 0,.int .i64 0,.int .i64 0,.int .i64 0]:Value).cells.size=6:=rfl
  obtain ⟨w1,hw1⟩: ∃w1,w.alloc (.cells #[] 54)=w1:=⟨_,rfl⟩
  have hO:=own_news w 54 6 F
  have hb1:Below w.heap.size w w1:=by rw [←hw1];exact (Below.refl _ w).alloc (Nat.le_refl _) _
  rw [hw1] at hO
  have hc: ∀j u,(cellsF F (n*6))[j]? =some u→w1.cell? (ad.add j)=some u:=fun j u hu=>by
   have hj:j<n*6:=by
    have:=(List.getElem?_eq_some_iff.1 hu).1
    rwa [cellsF_len] at this
   rw [cellsF_at _ hj] at hu
   cases hu
   rcases h with e0|⟨b,o,e,hlt,hcc⟩
   ·omega
   ·cases e
    rw [addr_add]
    exact (cell_below hb1 hlt).trans (hcc j hj)
  have hone: ∀u ∈ cellsF F (n*6),u.oneCell'=true:=fun u hu=>by
   unfold cellsF at hu
   obtain ⟨j,hj,rfl⟩:=List.mem_map.1 hu
   exact h1 j (List.mem_range.1 hj)
  have HW:Hid (w.alloc (.cells #[] 54)=w1):=hw1
  have HO:Hid (w1.ownsRow w.heap.size 54 6 (.slice (some ⟨w.heap.size,0,none⟩) 0 0) 0 []):=by
   have h9:w1.ownsRow w.heap.size 54 6 (.slice (some ⟨w.heap.size,0,none⟩) 0 0) 0 (cellsF F (0*6)):=hO
   rw [Nat.zero_mul] at h9
   exact h9
  have HC:Hid ((∀j u,(cellsF F (n*6))[j]? =some u→w1.cell? (ad.add j)=some u)∧ ∀u ∈ cellsF F (n*6),u.oneCell'=true):=⟨hc,hone⟩
  clear hO hw1 hc hone h h1
  have hsz:=hb1.size
  go_enter Tryz.func70,Tryz.ntmps70
  go_wp2_with (at_builtin;rw [HW.out];refine wpList_append_own _ rfl (.tmp 5) (.tmp 6) 35 rfl w.heap.size 54 i3 (.agg #[.int .u64 0,.int .i64 0,.int .u64 0,.int .i64 0,.int .i64 0,.int .i64 0]) 6 48 Tryz.underlying35 hi3 ha3 hb3 hc3 hz3 (by decide) (.slice (some ⟨w.heap.size,0,none⟩) 0 0) 0 [] rfl HO.out ad n c (cellsF F (n*6)) rfl (cellsF_len _ _) HC.out.1 HC.out.2 (by unfold maxLen;omega) (by omega) hsz ?_;intro v' w2 hown hgrow _)
  go_ret
  have hF:Own w2 w.heap.size 54 6 v' n F:=by
   unfold Own
   simpa using hown
  have hB:Below w.heap.size w w2:=hb1.grown hgrow hsz (fun k hk=>by simp [Value.ownBlock] at hk;omega)
  obtain ⟨q,cc,rfl⟩: ∃q cc,v'=.slice q n cc:=by
   rcases hF.form with ⟨e1,e2⟩|⟨g,cc,e1,_,_⟩
   ·exact ⟨none,0,by rw [e1,e2]⟩
   ·exact ⟨_,_,e1⟩
  exact ⟨q,cc,rfl,hF,hB⟩
theorem cloneS_inf:(Tryz.prog.info? 62).map (fun i=>(i.zero,i.size,i.bytes))=some (some (.agg #[.slice none 0 0,.int .u64 0,.int .u64 0]),3,40):=by kernel_rfl
theorem cloneS_yes (n c:Nat) (W:World):(binOp .eql 34 (.slice none n c) (.slice none 0 0)).run Tryz.prog W=.ok (.bool true) W:=by
 have:=run_equal_slice_nil (P:=Tryz.prog) W 34 62 none n c Tryz.underlying34
 simp [binOp,this]
theorem cloneS_no (ad:Addr) (n c:Nat) (W:World):(binOp .eql 34 (.slice (some ad) n c) (.slice none 0 0)).run Tryz.prog W=.ok (.bool false) W:=by
 have:=run_equal_slice_nil (P:=Tryz.prog) W 34 62 (some ad) n c Tryz.underlying34
 simp [binOp,this]
set_option maxRecDepth 100000 in
set_option maxHeartbeats 1000000 in
theorem cloneS_any (p:Option Addr) (n c:Nat) (F:Nat→Value) (w:World) (hn:n*40≤140737488355328) (h:CIn w p n 3 F) (h1: ∀j,j<n*3→(F j).oneCell'=true):
  Calls Tryz.prog 113 #[.slice p n c] w fun e w'=> ∃(q:Option Addr) (cc:Nat),e=.returned (.slice q n cc)∧Own w' w.heap.size 62 3 (.slice q n cc) n F∧Below w.heap.size w w':=by
 rcases p with _|ad
 ·have h0:n=0:=by
   rcases h with h|⟨b,o,e,_⟩
   ·exact h
   ·cases e
  subst h0
  have hq:=cloneS_yes 0 c
  go_enter Tryz.func113,Tryz.ntmps113
  go_wp2
  go_ret
  exact ⟨none,0,rfl,own_nil0,Below.refl _ _⟩
 ·have hq:=cloneS_no ad n c
  obtain ⟨i3,hi3,ha3,hb3,hc3⟩:=sinfo cloneS_inf
  have hz3:(.agg #[.slice none 0 0,.int .u64 0,.int .u64 0]:Value).cells.size=3:=rfl
  obtain ⟨w1,hw1⟩: ∃w1,w.alloc (.cells #[] 62)=w1:=⟨_,rfl⟩
  have hO:=own_news w 62 3 F
  have hb1:Below w.heap.size w w1:=by rw [←hw1];exact (Below.refl _ w).alloc (Nat.le_refl _) _
  rw [hw1] at hO
  have hc: ∀j u,(cellsF F (n*3))[j]? =some u→w1.cell? (ad.add j)=some u:=fun j u hu=>by
   have hj:j<n*3:=by
    have:=(List.getElem?_eq_some_iff.1 hu).1
    rwa [cellsF_len] at this
   rw [cellsF_at _ hj] at hu
   cases hu
   rcases h with e0|⟨b,o,e,hlt,hcc⟩
   ·omega
   ·cases e
    rw [addr_add]
    exact (cell_below hb1 hlt).trans (hcc j hj)
  have hone: ∀u ∈ cellsF F (n*3),u.oneCell'=true:=fun u hu=>by
   unfold cellsF at hu
   obtain ⟨j,hj,rfl⟩:=List.mem_map.1 hu
   exact h1 j (List.mem_range.1 hj)
  have HW:Hid (w.alloc (.cells #[] 62)=w1):=hw1
  have HO:Hid (w1.ownsRow w.heap.size 62 3 (.slice (some ⟨w.heap.size,0,none⟩) 0 0) 0 []):=by
   have h9:w1.ownsRow w.heap.size 62 3 (.slice (some ⟨w.heap.size,0,none⟩) 0 0) 0 (cellsF F (0*3)):=hO
   rw [Nat.zero_mul] at h9
   exact h9
  have HC:Hid ((∀j u,(cellsF F (n*3))[j]? =some u→w1.cell? (ad.add j)=some u)∧ ∀u ∈ cellsF F (n*3),u.oneCell'=true):=⟨hc,hone⟩
  clear hO hw1 hc hone h h1
  have hsz:=hb1.size
  go_enter Tryz.func113,Tryz.ntmps113
  go_wp2_with (at_builtin;rw [HW.out];refine wpList_append_own _ rfl (.tmp 5) (.tmp 6) 34 rfl w.heap.size 62 i3 (.agg #[.slice none 0 0,.int .u64 0,.int .u64 0]) 3 40 Tryz.underlying34 hi3 ha3 hb3 hc3 hz3 (by decide) (.slice (some ⟨w.heap.size,0,none⟩) 0 0) 0 [] rfl HO.out ad n c (cellsF F (n*3)) rfl (cellsF_len _ _) HC.out.1 HC.out.2 (by unfold maxLen;omega) (by omega) hsz ?_;intro v' w2 hown hgrow _)
  go_ret
  have hF:Own w2 w.heap.size 62 3 v' n F:=by
   unfold Own
   simpa using hown
  have hB:Below w.heap.size w w2:=hb1.grown hgrow hsz (fun k hk=>by simp [Value.ownBlock] at hk;omega)
  obtain ⟨q,cc,rfl⟩: ∃q cc,v'=.slice q n cc:=by
   rcases hF.form with ⟨e1,e2⟩|⟨g,cc,e1,_,_⟩
   ·exact ⟨none,0,by rw [e1,e2]⟩
   ·exact ⟨_,_,e1⟩
  exact ⟨q,cc,rfl,hF,hB⟩
theorem cloneP_inf:(Tryz.prog.info? 103).map (fun i=>(i.zero,i.size,i.bytes))=some (some (.agg #[.int .i64 0,.int .i64 0,.slice none 0 0,.slice none 0 0]),4,64):=by kernel_rfl
theorem cloneP_yes (n c:Nat) (W:World):(binOp .eql 22 (.slice none n c) (.slice none 0 0)).run Tryz.prog W=.ok (.bool true) W:=by
 have:=run_equal_slice_nil (P:=Tryz.prog) W 22 103 none n c Tryz.underlying22
 simp [binOp,this]
theorem cloneP_no (ad:Addr) (n c:Nat) (W:World):(binOp .eql 22 (.slice (some ad) n c) (.slice none 0 0)).run Tryz.prog W=.ok (.bool false) W:=by
 have:=run_equal_slice_nil (P:=Tryz.prog) W 22 103 (some ad) n c Tryz.underlying22
 simp [binOp,this]
set_option maxRecDepth 100000 in
set_option maxHeartbeats 1000000 in
theorem cloneP_any (p:Option Addr) (n c:Nat) (F:Nat→Value) (w:World) (hn:n*64≤140737488355328) (h:CIn w p n 4 F) (h1: ∀j,j<n*4→(F j).oneCell'=true):
  Calls Tryz.prog 161 #[.slice p n c] w fun e w'=> ∃(q:Option Addr) (cc:Nat),e=.returned (.slice q n cc)∧Own w' w.heap.size 103 4 (.slice q n cc) n F∧Below w.heap.size w w':=by
 rcases p with _|ad
 ·have h0:n=0:=by
   rcases h with h|⟨b,o,e,_⟩
   ·exact h
   ·cases e
  subst h0
  have hq:=cloneP_yes 0 c
  go_enter Tryz.func161,Tryz.ntmps161
  go_wp2
  go_ret
  exact ⟨none,0,rfl,own_nil0,Below.refl _ _⟩
 ·have hq:=cloneP_no ad n c
  obtain ⟨i3,hi3,ha3,hb3,hc3⟩:=sinfo cloneP_inf
  have hz3:(.agg #[.int .i64 0,.int .i64 0,.slice none 0 0,.slice none 0 0]:Value).cells.size=4:=rfl
  obtain ⟨w1,hw1⟩: ∃w1,w.alloc (.cells #[] 103)=w1:=⟨_,rfl⟩
  have hO:=own_news w 103 4 F
  have hb1:Below w.heap.size w w1:=by rw [←hw1];exact (Below.refl _ w).alloc (Nat.le_refl _) _
  rw [hw1] at hO
  have hc: ∀j u,(cellsF F (n*4))[j]? =some u→w1.cell? (ad.add j)=some u:=fun j u hu=>by
   have hj:j<n*4:=by
    have:=(List.getElem?_eq_some_iff.1 hu).1
    rwa [cellsF_len] at this
   rw [cellsF_at _ hj] at hu
   cases hu
   rcases h with e0|⟨b,o,e,hlt,hcc⟩
   ·omega
   ·cases e
    rw [addr_add]
    exact (cell_below hb1 hlt).trans (hcc j hj)
  have hone: ∀u ∈ cellsF F (n*4),u.oneCell'=true:=fun u hu=>by
   unfold cellsF at hu
   obtain ⟨j,hj,rfl⟩:=List.mem_map.1 hu
   exact h1 j (List.mem_range.1 hj)
  have HW:Hid (w.alloc (.cells #[] 103)=w1):=hw1
  have HO:Hid (w1.ownsRow w.heap.size 103 4 (.slice (some ⟨w.heap.size,0,none⟩) 0 0) 0 []):=by
   have h9:w1.ownsRow w.heap.size 103 4 (.slice (some ⟨w.heap.size,0,none⟩) 0 0) 0 (cellsF F (0*4)):=hO
   rw [Nat.zero_mul] at h9
   exact h9
  have HC:Hid ((∀j u,(cellsF F (n*4))[j]? =some u→w1.cell? (ad.add j)=some u)∧ ∀u ∈ cellsF F (n*4),u.oneCell'=true):=⟨hc,hone⟩
  clear hO hw1 hc hone h h1
  have hsz:=hb1.size
  go_enter Tryz.func161,Tryz.ntmps161
  go_wp2_with (at_builtin;rw [HW.out];refine wpList_append_own _ rfl (.tmp 5) (.tmp 6) 22 rfl w.heap.size 103 i3 (.agg #[.int .i64 0,.int .i64 0,.slice none 0 0,.slice none 0 0]) 4 64 Tryz.underlying22 hi3 ha3 hb3 hc3 hz3 (by decide) (.slice (some ⟨w.heap.size,0,none⟩) 0 0) 0 [] rfl HO.out ad n c (cellsF F (n*4)) rfl (cellsF_len _ _) HC.out.1 HC.out.2 (by unfold maxLen;omega) (by omega) hsz ?_;intro v' w2 hown hgrow _)
  go_ret
  have hF:Own w2 w.heap.size 103 4 v' n F:=by
   unfold Own
   simpa using hown
  have hB:Below w.heap.size w w2:=hb1.grown hgrow hsz (fun k hk=>by simp [Value.ownBlock] at hk;omega)
  obtain ⟨q,cc,rfl⟩: ∃q cc,v'=.slice q n cc:=by
   rcases hF.form with ⟨e1,e2⟩|⟨g,cc,e1,_,_⟩
   ·exact ⟨none,0,by rw [e1,e2]⟩
   ·exact ⟨_,_,e1⟩
  exact ⟨q,cc,rfl,hF,hB⟩
theorem cloneI_inf:(Tryz.prog.info? 139).map (fun i=>(i.zero,i.size,i.bytes))=some (some (.agg #[.int .i64 0,.int .i64 0,.int .i64 0]),3,24):=by kernel_rfl
theorem cloneI_yes (n c:Nat) (W:World):(binOp .eql 101 (.slice none n c) (.slice none 0 0)).run Tryz.prog W=.ok (.bool true) W:=by
 have:=run_equal_slice_nil (P:=Tryz.prog) W 101 139 none n c Tryz.underlying101
 simp [binOp,this]
theorem cloneI_no (ad:Addr) (n c:Nat) (W:World):(binOp .eql 101 (.slice (some ad) n c) (.slice none 0 0)).run Tryz.prog W=.ok (.bool false) W:=by
 have:=run_equal_slice_nil (P:=Tryz.prog) W 101 139 (some ad) n c Tryz.underlying101
 simp [binOp,this]
set_option maxRecDepth 100000 in
set_option maxHeartbeats 1000000 in
theorem cloneI_any (p:Option Addr) (n c:Nat) (F:Nat→Value) (w:World) (hn:n*24≤140737488355328) (h:CIn w p n 3 F) (h1: ∀j,j<n*3→(F j).oneCell'=true):
  Calls Tryz.prog 162 #[.slice p n c] w fun e w'=> ∃(q:Option Addr) (cc:Nat),e=.returned (.slice q n cc)∧Own w' w.heap.size 139 3 (.slice q n cc) n F∧Below w.heap.size w w':=by
 rcases p with _|ad
 ·have h0:n=0:=by
   rcases h with h|⟨b,o,e,_⟩
   ·exact h
   ·cases e
  subst h0
  have hq:=cloneI_yes 0 c
  go_enter Tryz.func162,Tryz.ntmps162
  go_wp2
  go_ret
  exact ⟨none,0,rfl,own_nil0,Below.refl _ _⟩
 ·have hq:=cloneI_no ad n c
  obtain ⟨i3,hi3,ha3,hb3,hc3⟩:=sinfo cloneI_inf
  have hz3:(.agg #[.int .i64 0,.int .i64 0,.int .i64 0]:Value).cells.size=3:=rfl
  obtain ⟨w1,hw1⟩: ∃w1,w.alloc (.cells #[] 139)=w1:=⟨_,rfl⟩
  have hO:=own_news w 139 3 F
  have hb1:Below w.heap.size w w1:=by rw [←hw1];exact (Below.refl _ w).alloc (Nat.le_refl _) _
  rw [hw1] at hO
  have hc: ∀j u,(cellsF F (n*3))[j]? =some u→w1.cell? (ad.add j)=some u:=fun j u hu=>by
   have hj:j<n*3:=by
    have:=(List.getElem?_eq_some_iff.1 hu).1
    rwa [cellsF_len] at this
   rw [cellsF_at _ hj] at hu
   cases hu
   rcases h with e0|⟨b,o,e,hlt,hcc⟩
   ·omega
   ·cases e
    rw [addr_add]
    exact (cell_below hb1 hlt).trans (hcc j hj)
  have hone: ∀u ∈ cellsF F (n*3),u.oneCell'=true:=fun u hu=>by
   unfold cellsF at hu
   obtain ⟨j,hj,rfl⟩:=List.mem_map.1 hu
   exact h1 j (List.mem_range.1 hj)
  have HW:Hid (w.alloc (.cells #[] 139)=w1):=hw1
  have HO:Hid (w1.ownsRow w.heap.size 139 3 (.slice (some ⟨w.heap.size,0,none⟩) 0 0) 0 []):=by
   have h9:w1.ownsRow w.heap.size 139 3 (.slice (some ⟨w.heap.size,0,none⟩) 0 0) 0 (cellsF F (0*3)):=hO
   rw [Nat.zero_mul] at h9
   exact h9
  have HC:Hid ((∀j u,(cellsF F (n*3))[j]? =some u→w1.cell? (ad.add j)=some u)∧ ∀u ∈ cellsF F (n*3),u.oneCell'=true):=⟨hc,hone⟩
  clear hO hw1 hc hone h h1
  have hsz:=hb1.size
  go_enter Tryz.func162,Tryz.ntmps162
  go_wp2_with (at_builtin;rw [HW.out];refine wpList_append_own _ rfl (.tmp 5) (.tmp 6) 101 rfl w.heap.size 139 i3 (.agg #[.int .i64 0,.int .i64 0,.int .i64 0]) 3 24 Tryz.underlying101 hi3 ha3 hb3 hc3 hz3 (by decide) (.slice (some ⟨w.heap.size,0,none⟩) 0 0) 0 [] rfl HO.out ad n c (cellsF F (n*3)) rfl (cellsF_len _ _) HC.out.1 HC.out.2 (by unfold maxLen;omega) (by omega) hsz ?_;intro v' w2 hown hgrow _)
  go_ret
  have hF:Own w2 w.heap.size 139 3 v' n F:=by
   unfold Own
   simpa using hown
  have hB:Below w.heap.size w w2:=hb1.grown hgrow hsz (fun k hk=>by simp [Value.ownBlock] at hk;omega)
  obtain ⟨q,cc,rfl⟩: ∃q cc,v'=.slice q n cc:=by
   rcases hF.form with ⟨e1,e2⟩|⟨g,cc,e1,_,_⟩
   ·exact ⟨none,0,by rw [e1,e2]⟩
   ·exact ⟨_,_,e1⟩
  exact ⟨q,cc,rfl,hF,hB⟩
theorem cloneN_inf:(Tryz.prog.info? 3).map (fun i=>(i.zero,i.size,i.bytes))=some (some (.int .i64 0),1,8):=by kernel_rfl
theorem cloneN_yes (n c:Nat) (W:World):(binOp .eql 87 (.slice none n c) (.slice none 0 0)).run Tryz.prog W=.ok (.bool true) W:=by
 have:=run_equal_slice_nil (P:=Tryz.prog) W 87 3 none n c Tryz.underlying87
 simp [binOp,this]
theorem cloneN_no (ad:Addr) (n c:Nat) (W:World):(binOp .eql 87 (.slice (some ad) n c) (.slice none 0 0)).run Tryz.prog W=.ok (.bool false) W:=by
 have:=run_equal_slice_nil (P:=Tryz.prog) W 87 3 (some ad) n c Tryz.underlying87
 simp [binOp,this]
set_option maxRecDepth 100000 in
set_option maxHeartbeats 1000000 in
theorem cloneN_any (p:Option Addr) (n c:Nat) (F:Nat→Value) (w:World) (hn:n*8≤140737488355328) (h:CIn w p n 1 F) (h1: ∀j,j<n*1→(F j).oneCell'=true):
  Calls Tryz.prog 163 #[.slice p n c] w fun e w'=> ∃(q:Option Addr) (cc:Nat),e=.returned (.slice q n cc)∧Own w' w.heap.size 3 1 (.slice q n cc) n F∧Below w.heap.size w w':=by
 rcases p with _|ad
 ·have h0:n=0:=by
   rcases h with h|⟨b,o,e,_⟩
   ·exact h
   ·cases e
  subst h0
  have hq:=cloneN_yes 0 c
  go_enter Tryz.func163,Tryz.ntmps163
  go_wp2
  go_ret
  exact ⟨none,0,rfl,own_nil0,Below.refl _ _⟩
 ·have hq:=cloneN_no ad n c
  obtain ⟨i3,hi3,ha3,hb3,hc3⟩:=sinfo cloneN_inf
  have hz3:(.int .i64 0:Value).cells.size=1:=rfl
  obtain ⟨w1,hw1⟩: ∃w1,w.alloc (.cells #[] 3)=w1:=⟨_,rfl⟩
  have hO:=own_news w 3 1 F
  have hb1:Below w.heap.size w w1:=by rw [←hw1];exact (Below.refl _ w).alloc (Nat.le_refl _) _
  rw [hw1] at hO
  have hc: ∀j u,(cellsF F (n*1))[j]? =some u→w1.cell? (ad.add j)=some u:=fun j u hu=>by
   have hj:j<n*1:=by
    have:=(List.getElem?_eq_some_iff.1 hu).1
    rwa [cellsF_len] at this
   rw [cellsF_at _ hj] at hu
   cases hu
   rcases h with e0|⟨b,o,e,hlt,hcc⟩
   ·omega
   ·cases e
    rw [addr_add]
    exact (cell_below hb1 hlt).trans (hcc j hj)
  have hone: ∀u ∈ cellsF F (n*1),u.oneCell'=true:=fun u hu=>by
   unfold cellsF at hu
   obtain ⟨j,hj,rfl⟩:=List.mem_map.1 hu
   exact h1 j (List.mem_range.1 hj)
  have HW:Hid (w.alloc (.cells #[] 3)=w1):=hw1
  have HO:Hid (w1.ownsRow w.heap.size 3 1 (.slice (some ⟨w.heap.size,0,none⟩) 0 0) 0 []):=by
   have h9:w1.ownsRow w.heap.size 3 1 (.slice (some ⟨w.heap.size,0,none⟩) 0 0) 0 (cellsF F (0*1)):=hO
   rw [Nat.zero_mul] at h9
   exact h9
  have HC:Hid ((∀j u,(cellsF F (n*1))[j]? =some u→w1.cell? (ad.add j)=some u)∧ ∀u ∈ cellsF F (n*1),u.oneCell'=true):=⟨hc,hone⟩
  clear hO hw1 hc hone h h1
  have hsz:=hb1.size
  go_enter Tryz.func163,Tryz.ntmps163
  go_wp2_with (at_builtin;rw [HW.out];refine wpList_append_own _ rfl (.tmp 5) (.tmp 6) 87 rfl w.heap.size 3 i3 (.int .i64 0) 1 8 Tryz.underlying87 hi3 ha3 hb3 hc3 hz3 (by decide) (.slice (some ⟨w.heap.size,0,none⟩) 0 0) 0 [] rfl HO.out ad n c (cellsF F (n*1)) rfl (cellsF_len _ _) HC.out.1 HC.out.2 (by unfold maxLen;omega) (by omega) hsz ?_;intro v' w2 hown hgrow _)
  go_ret
  have hF:Own w2 w.heap.size 3 1 v' n F:=by
   unfold Own
   simpa using hown
  have hB:Below w.heap.size w w2:=hb1.grown hgrow hsz (fun k hk=>by simp [Value.ownBlock] at hk;omega)
  obtain ⟨q,cc,rfl⟩: ∃q cc,v'=.slice q n cc:=by
   rcases hF.form with ⟨e1,e2⟩|⟨g,cc,e1,_,_⟩
   ·exact ⟨none,0,by rw [e1,e2]⟩
   ·exact ⟨_,_,e1⟩
  exact ⟨q,cc,rfl,hF,hB⟩
end Go.Proofs.YtecgecpgmpmkoaaGreat
