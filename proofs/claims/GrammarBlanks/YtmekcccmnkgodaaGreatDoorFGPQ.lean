import Derived.Test.YtmekcccmnkgodaaGreatDoorFGPB
import Derived.Test.YtmekcccmnkgodaaGreatDoorFGPD
import Derived.Test.YtmekcccmnkgodaaGreatDoorFGPG
import Derived.Test.YtmekcccmnkgodaaGreatDoorFGPF
import Derived.Test.YtmekcccmnkgodaaGreatDoorFGPK
import Derived.Test.YtmekcccmnkgodaaGreatDoorFGPN
import Derived.Test.YtmekcccmnkgodaaGreatDoorFGPP
namespace Go.Proofs.YtmekcccmnkgodaaGreatDoor
open Go.ChangeShapes Go.WideShapes Go.ChangeAt Go.RowKit
set_option linter.unusedVariables false
set_option linter.unusedSimpArgs false
/-- every method, by its tokens -/
theorem ct_all {X : Nat → Tk} {n : Nat} (hA : TkA X n) : ∀ f, CT X n f := by
  have key : ∀ F f, f ≤ F → CT X n f := by
    intro F
    induction F with
    | zero =>
      intro f hf m fn a isL hg w base pb lp lc s ks h hm hp hne
      obtain rfl : f = 0 := by omega
      exact absurd rfl hne
    | succ F ih =>
      intro f hf
      cases f with
      | zero =>
        intro m fn a isL hg w base pb lp lc s ks h hm hp hne
        exact absurd rfl hne
      | succ f =>
        have ih' : ∀ g, g ≤ f → CT X n g := fun g hg => ih g (by omega)
        intro m fn a isL hg w base pb lp lc s ks h hm hp hne
        cases m with
        | bin st =>
          injection hg with hg
          injection hg with e1 e2
          injection e2 with e2 e3
          subst e1 e2 e3
          exact ct_bin hA ih' st h hm hp hne
        | binL st left => cases hg
        | una =>
          injection hg with hg
          injection hg with e1 e2
          injection e2 with e2 e3
          subst e1 e2 e3
          exact ct_una hA ih' h hm hne
        | atom =>
          injection hg with hg
          injection hg with e1 e2
          injection e2 with e2 e3
          subst e1 e2 e3
          exact ct_atom hA ih' h hm hne
        | named =>
          injection hg with hg
          injection hg with e1 e2
          injection e2 with e2 e3
          subst e1 e2 e3
          exact ct_named hA ih' h hm hne
        | throw q =>
          injection hg with hg
          injection hg with e1 e2
          injection e2 with e2 e3
          subst e1 e2 e3
          exact ct_throw hA ih' q h hm hp hne
        | choice q =>
          injection hg with hg
          injection hg with e1 e2
          injection e2 with e2 e3
          subst e1 e2 e3
          exact ct_choice hA ih' q h hm hp hne
        | brack =>
          injection hg with hg
          injection hg with e1 e2
          injection e2 with e2 e3
          subst e1 e2 e3
          exact ct_brack hA ih' h hm hne
        | index =>
          injection hg with hg
          injection hg with e1 e2
          injection e2 with e2 e3
          subst e1 e2 e3
          exact ct_index hA ih' h hm hne
        | value =>
          injection hg with hg
          injection hg with e1 e2
          injection e2 with e2 e3
          subst e1 e2 e3
          exact ct_value hA ih' h hm hne
        | name q =>
          injection hg with hg
          injection hg with e1 e2
          injection e2 with e2 e3
          subst e1 e2 e3
          exact ct_name hA ih' q h hm hne
        | scene => cases hg
        | sceneL l => cases hg
        | item =>
          injection hg with hg
          injection hg with e1 e2
          injection e2 with e2 e3
          subst e1 e2 e3
          exact ct_item hA ih' h hm hne
        | setting =>
          injection hg with hg
          injection hg with e1 e2
          injection e2 with e2 e3
          subst e1 e2 e3
          exact ct_setting hA ih' h hm hp hne
        | constant =>
          injection hg with hg
          injection hg with e1 e2
          injection e2 with e2 e3
          subst e1 e2 e3
          exact ct_constant hA ih' h hm hne
        | kinds =>
          injection hg with hg
          injection hg with e1 e2
          injection e2 with e2 e3
          subst e1 e2 e3
          exact ct_kinds hA ih' h hm hne
        | kindsL l => cases hg
        | ptype =>
          injection hg with hg
          injection hg with e1 e2
          injection e2 with e2 e3
          subst e1 e2 e3
          exact ct_ptype hA ih' h hm hne
        | memL l => cases hg
        | member =>
          injection hg with hg
          injection hg with e1 e2
          injection e2 with e2 e3
          subst e1 e2 e3
          exact ct_member hA ih' h hm hne
        | vari =>
          injection hg with hg
          injection hg with e1 e2
          injection e2 with e2 e3
          subst e1 e2 e3
          exact ct_vari hA ih' h hm hne
        | handler =>
          injection hg with hg
          injection hg with e1 e2
          injection e2 with e2 e3
          subst e1 e2 e3
          exact ct_handler hA ih' h hm hne
        | place =>
          injection hg with hg
          injection hg with e1 e2
          injection e2 with e2 e3
          subst e1 e2 e3
          exact ct_place hA ih' h hm hne
        | gives =>
          injection hg with hg
          injection hg with e1 e2
          injection e2 with e2 e3
          subst e1 e2 e3
          exact ct_gives hA ih' h hm hne
        | givesL l => cases hg
        | give =>
          injection hg with hg
          injection hg with e1 e2
          injection e2 with e2 e3
          subst e1 e2 e3
          exact ct_give hA ih' h hm hne
        | start =>
          injection hg with hg
          injection hg with e1 e2
          injection e2 with e2 e3
          subst e1 e2 e3
          exact ct_start hA ih' h hm hne
        | block =>
          injection hg with hg
          injection hg with e1 e2
          injection e2 with e2 e3
          subst e1 e2 e3
          exact ct_block hA ih' h hm hne
        | blockL l => cases hg
        | stmt =>
          injection hg with hg
          injection hg with e1 e2
          injection e2 with e2 e3
          subst e1 e2 e3
          exact ct_stmt hA ih' h hm hne
        | set =>
          injection hg with hg
          injection hg with e1 e2
          injection e2 with e2 e3
          subst e1 e2 e3
          exact ct_set hA ih' h hm hne
        | branch t =>
          injection hg with hg
          injection hg with e1 e2
          injection e2 with e2 e3
          subst e1 e2 e3
          exact ct_branch hA ih' t h hm hne
        | otherwise =>
          injection hg with hg
          injection hg with e1 e2
          injection e2 with e2 e3
          subst e1 e2 e3
          exact ct_otherwise hA ih' h hm hne
        | send =>
          injection hg with hg
          injection hg with e1 e2
          injection e2 with e2 e3
          subst e1 e2 e3
          exact ct_send hA ih' h hm hne
  exact fun f => key f f (Nat.le_refl _)
end Go.Proofs.YtmekcccmnkgodaaGreatDoor
