import Derived.Test.YtnofndpgodledaaY15
namespace Go.Proofs.Ytnofndpgodledaa
open Go.ChangeShapes Go.WideShapes Go.ChangeAt Go.RowKit
set_option linter.unusedVariables false
set_option linter.unusedSimpArgs false

/-- events lie there, cell by cell -/
def EvsL (W : World) (b N : Nat) (X : Nat → Ev) : Prop := b < W.heap.size ∧ ∀ i r, i < N → r < 6 → W.cell? ⟨b, i * 6 + r, none⟩ = some (evC (X i) r)
theorem EvsL.later {W W' : World} {b N : Nat} {X : Nat → Ev} (h : EvsL W b N X) (hb : Below W.heap.size W W') : EvsL W' b N X := ⟨Nat.lt_of_lt_of_le h.1 hb.size, fun i r hi hr => (cell_below (a := ⟨b, i * 6 + r, none⟩) hb h.1).trans (h.2 i r hi hr)⟩
def keyIs (kt ks kq : Int) (e : Ev) : Bool := e.t == kt && (e.s == ks && e.q == kq)
end Go.Proofs.Ytnofndpgodledaa
