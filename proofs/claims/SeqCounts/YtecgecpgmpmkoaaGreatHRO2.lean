import Derived.Test.YtecgecpgmpmkoaaGreatHSO4
import Derived.Test.YtecgecpgmpmkoaaGreatHSO9
import Derived.Maps.AppendAt
namespace Go.Proofs.YtecgecpgmpmkoaaGreat
set_option linter.unusedVariables false
set_option linter.unusedSimpArgs false
end Go.Proofs.YtecgecpgmpmkoaaGreat
namespace Go.Proofs.YtecgecpgmpmkoaaGreat
open Go.ChangeShapes Go.WideShapes Go.ChangeAt Go.RowKit
set_option linter.unusedVariables false
set_option linter.unusedSimpArgs false
theorem SIn.at {W:World} {p:Option Addr} {m:Nat} {X:Nat→Se} (h:SIn W p m X) {i:Nat} (hi:i<m): ∃b o,p=some ⟨b,o,none⟩∧b<W.heap.size∧W.cell? ⟨b,o+i*6,none⟩=some (.int .u64 (X i).t)∧W.cell? ⟨b,o+i*6+1,none⟩=some (.int .i64 (X i).s)∧W.cell? ⟨b,o+i*6+2,none⟩=some (.int .u64 (X i).q)∧W.cell? ⟨b,o+i*6+3,none⟩=some (.int .i64 (X i).d)∧W.cell? ⟨b,o+i*6+4,none⟩=some (.int .i64 (X i).k)∧W.cell? ⟨b,o+i*6+5,none⟩=some (.int .i64 (X i).v):=by
 rcases h with h|⟨b,o,h1,h2,h3⟩
 ·omega
 ·have key: ∀r,r<6→W.cell? ⟨b,o+i*6+r,none⟩=some (seC (X i) r):=fun r hr=>by
   have:=h3 (i*6+r) (by omega)
   rw [seF_at _ _ _ hr] at this
   rw [Nat.add_assoc]
   exact this
  exact ⟨b,o,h1,h2,key 0 (by decide),key 1 (by decide),key 2 (by decide),key 3 (by decide),key 4 (by decide),key 5 (by decide)⟩
end Go.Proofs.YtecgecpgmpmkoaaGreat
