import Derived.Test.YtecgecpgmpmkoaaGreatHFS2
import Derived.Test.YtecgecpgmpmkoaaGreatHOP3
namespace Go.Proofs.YtecgecpgmpmkoaaGreat
open Go.ChangeShapes Go.WideShapes Go.ChangeAt Go.RowKit
set_option linter.unusedVariables false
set_option linter.unusedSimpArgs false
end Go.Proofs.YtecgecpgmpmkoaaGreat
namespace Go.Proofs.YtecgecpgmpmkoaaGreat
open Go.ChangeShapes Go.WideShapes Go.ChangeAt Go.RowKit
set_option linter.unusedVariables false
set_option linter.unusedSimpArgs false
structure Pn where
 n:Nat
 A:Nat→Sa
 K:Nat→Nat→Int
 m:Nat
 X:Nat→Se
 l:Nat
 Z:Nat→Se
structure PnV where
 q:Option Addr
 c:Nat
 q2:Option Addr
 c2:Nat
 q3:Option Addr
 c3:Nat
def PnAt (W:World) (o:Pn) (v:PnV):Prop:=(∃C,SaEq o.n o.A C∧SsAt W v.q o.n C o.K)∧SIn W v.q2 o.m o.X∧SIn W v.q3 o.l o.Z
theorem PnAt.below {W W':World} {o:Pn} {v:PnV} (h:PnAt W o v) (hb:Below W.heap.size W W'):PnAt W' o v:=by
 obtain ⟨⟨C,h1,h2⟩,h3,h4⟩:=h
 exact ⟨⟨C,h1,h2.below hb⟩,h3.below hb,h4.below hb⟩
structure RoomyN (o:Pn):Prop where
 n:o.n*40≤140737488355328
 w: ∀j,j<o.n→(o.A j).n≤17592186044416
 m:o.m≤2932031007402
 l:o.l≤2932031007402
theorem SaEq.trans {n:Nat} {A C D:Nat→Sa} (h:SaEq n A C) (h':SaEq n C D):SaEq n A D:=fun j hj=>⟨(h' j hj).1.trans (h j hj).1,(h' j hj).2.1.trans (h j hj).2.1,(h' j hj).2.2.trans (h j hj).2.2⟩
theorem StRow.kb {S:Nat→Prop} {W W':World} {b:Nat} {v:Value} {n:Nat} {A:Nat→Sa} {K:Nat→Nat→Int} (h:StRow W b v n A K) (hk:Kb S W W') (hs: ∀k,b≤k→ ¬S k):StRow W' b v n A K:=
 ⟨Own.far h.row fun k hk9=>hk.block k (Own.lt h.row k hk9).2 (hs k (Own.lt h.row k hk9).1),fun j hj=>⟨(h.wds j hj).1.kb hk (fun g o e=>hs g ((h.wds j hj).2 g o e).1),(h.wds j hj).2.kept hk.size⟩⟩
theorem StRow.later {W W':World} {b:Nat} {v:Value} {n:Nat} {A:Nat→Sa} {K:Nat→Nat→Int} (h:StRow W b v n A K) (hb:Below W.heap.size W W'):StRow W' b v n A K:=
 h.kb (S:=fun _=>False) (Kb.below hb) (fun _ _ e=>e)
theorem SRow.kb {S:Nat→Prop} {W W':World} {b g n c:Nat} {X:Nat→Se} (h:SRow W b g n c X) (hk:Kb S W W') (hs: ∀k,b≤k→ ¬S k):SRow W' b g n c X:=Own.far h fun k hk9=>hk.block k (Own.lt h k hk9).2 (hs k (Own.lt h k hk9).1)
theorem own_kb {S:Nat→Prop} {W W':World} {b:Nat} {t:TypeId} {s n:Nat} {v:Value} {F:Nat→Value} (h:Own W b t s v n F) (hk:Kb S W W') (hs: ∀k,b≤k→ ¬S k):Own W' b t s v n F:=Own.far h fun k hk9=>hk.block k (Own.lt h k hk9).2 (hs k (Own.lt h k hk9).1)
theorem SIn.cin {W:World} {p:Option Addr} {n:Nat} {X:Nat→Se} (h:SIn W p n X):CIn W p n 6 (seF X):=h
end Go.Proofs.YtecgecpgmpmkoaaGreat
namespace Go.Proofs.YtecgecpgmpmkoaaGreat
open Go.ChangeShapes Go.WideShapes Go.ChangeAt Go.RowKit
set_option linter.unusedVariables false
set_option linter.unusedSimpArgs false
theorem KPS3 {W:World} {g b o1 o2 o3:Nat} {x y z x1 x2 x3:Value} (h1:b≠g) (h:W.cell? ⟨b,5,none⟩=some x∧W.cell? ⟨b,6,none⟩=some y∧W.cell? ⟨b,7,none⟩=some z):(((W.setCell ⟨g,o1,none⟩ x1).setCell ⟨g,o2,none⟩ x2).setCell ⟨g,o3,none⟩ x3).cell? ⟨b,5,none⟩=some x∧(((W.setCell ⟨g,o1,none⟩ x1).setCell ⟨g,o2,none⟩ x2).setCell ⟨g,o3,none⟩ x3).cell? ⟨b,6,none⟩=some y∧(((W.setCell ⟨g,o1,none⟩ x1).setCell ⟨g,o2,none⟩ x2).setCell ⟨g,o3,none⟩ x3).cell? ⟨b,7,none⟩=some z:=by
 have key:(((W.setCell ⟨g,o1,none⟩ x1).setCell ⟨g,o2,none⟩ x2).setCell ⟨g,o3,none⟩ x3).heap[b]? =W.heap[b]? :=by
  rw [Below.heap_setCell _ _ _ _ h1,Below.heap_setCell _ _ _ _ h1,Below.heap_setCell _ _ _ _ h1]
 exact ⟨(World.cell?_of_block key).trans h.1,(World.cell?_of_block key).trans h.2.1,(World.cell?_of_block key).trans h.2.2⟩
end Go.Proofs.YtecgecpgmpmkoaaGreat
