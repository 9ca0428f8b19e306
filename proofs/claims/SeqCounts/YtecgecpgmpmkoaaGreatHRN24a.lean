import Derived.Test.YtecgecpgmpmkoaaGreatHOP5
import Derived.Test.YtecgecpgmpmkoaaGreatHFS2
import Derived.Test.YtecgecpgmpmkoaaGreatHRN9
import Derived.Test.YtecgecpgmpmkoaaGreatHSV2
import Derived.Test.YtecgecpgmpmkoaaGreatHRN7
import Derived.Test.YtecgecpgmpmkoaaGreatHSO9
namespace Go.Proofs.YtecgecpgmpmkoaaGreat
open Go.ChangeShapes Go.WideShapes Go.ChangeAt Go.RowKit
set_option linter.unusedVariables false
set_option linter.unusedSimpArgs false
end Go.Proofs.YtecgecpgmpmkoaaGreat
namespace Go.Proofs.YtecgecpgmpmkoaaGreat
open Go.ChangeShapes Go.WideShapes Go.ChangeAt Go.RowKit
set_option linter.unusedVariables false
set_option linter.unusedSimpArgs false
theorem VC.some (p:Pl): ∃c,VC p c:=by
 unfold VC
 by_cases h1:p.ki<0∨32<p.ki
 ·exact ⟨_,.inl ⟨h1,rfl⟩⟩
 by_cases h2:GP p
 ·by_cases h3:GT p
  ·by_cases h4:GS p
   ·by_cases h5:p.lk=0
    ·exact ⟨_,.inr ⟨h1,.inr ⟨h2,.inr ⟨h3,.inr ⟨h4,.inl ⟨h5,rfl⟩⟩⟩⟩⟩⟩
    by_cases h6:p.bu<0∨4096<p.bu
    ·exact ⟨_,.inr ⟨h1,.inr ⟨h2,.inr ⟨h3,.inr ⟨h4,.inr ⟨h5,.inl ⟨h6,rfl⟩⟩⟩⟩⟩⟩⟩
    by_cases h7:p.fu<1∨4096<p.fu
    ·exact ⟨_,.inr ⟨h1,.inr ⟨h2,.inr ⟨h3,.inr ⟨h4,.inr ⟨h5,.inr ⟨h6,.inl ⟨h7,rfl⟩⟩⟩⟩⟩⟩⟩⟩
    ·exact ⟨_,.inr ⟨h1,.inr ⟨h2,.inr ⟨h3,.inr ⟨h4,.inr ⟨h5,.inr ⟨h6,.inr ⟨h7,rfl⟩⟩⟩⟩⟩⟩⟩⟩
   ·exact ⟨_,.inr ⟨h1,.inr ⟨h2,.inr ⟨h3,.inl ⟨h4,rfl⟩⟩⟩⟩⟩
  ·exact ⟨_,.inr ⟨h1,.inr ⟨h2,.inl ⟨h3,rfl⟩⟩⟩⟩
 ·exact ⟨_,.inr ⟨h1,.inl ⟨h2,rfl⟩⟩⟩
theorem okVC {p:Pl} (h:PlOk p):VC p 0:=.inr ⟨by have:=h.ki;omega,.inr ⟨h.gp,.inr ⟨h.gt,.inr ⟨h.gs,.inr ⟨by have:=h.lk;omega,.inr ⟨by have:=h.bu;omega,.inr ⟨by have:=h.fu;omega,rfl⟩⟩⟩⟩⟩⟩⟩
end Go.Proofs.YtecgecpgmpmkoaaGreat
