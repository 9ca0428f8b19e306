/-
  No cell of these rows narrows 'for every input' (looked for: loops, veiled, ifaces, maps, wideKeys, modest, calm, conditions, laid).
  DERIVED. THE GIVEN ROWS OF THIS SEAT. 10 by the template 'for every input the law returns true; each argument reads behind the call as it read before'; 0 by the template 'total and deterministic' (their statements: YtkfjcbnhohipgaaTotals.lean).
  GIVEN WITH THE SEED: the statements are not yours to turn. If you find one false, say at which input.
  Laid BY PROGRAM, IN A SANDBOX (cutbox-rows.mjs): the forced cells as the released guide's own fill.sh prints them over the translation 586f5fb9cf967693… (all of the seat's roots in one cut). By AI agents, Wed Nov 11 2026. No macro, syntax, notation, axiom, sorry.
-/
import Derived.Test.YtkfjcbnhohipgaaChecked
import GoSem.Claim
import GoSem.ClaimJoined
import GoSem.ClaimMapViews
import Derived.JoinedTies
import Derived.KernelRfl
namespace Go.Proofs.Ytkfjcbnhohipgaa
/- THE CELL 'sum', in the pinned program and in every row, IS THE sha256 OF THE DUMP (.gsa) THAT YtkfjcbnhohipgaaProg.lean LOADS. Nothing in Lean hashes anything: it is a label: what it is worth is what the hold of that sum in a sandbox is worth. -/
noncomputable def Try.pinned : Pinned := { name := "ytkfjcbnhohipgaa", sum := "586f5fb9cf9676934d883e3547a1716b56579bf63dc6ee0c14fa88e174370f07", checked := Try.checked }
namespace Rows
def none {H : Type} : Left H := { results := [], args := [] }

/-- 'horizonlaw9.MailMoves': WHATEVER THE INPUT: true; the input reads as it did. -/
def mailMovesSpec : ChangeSpec := { name := "mailMoves", fn := fun _ => fun
  | [d] => { results := [.lit (.bool true)], args := [d] }
  | _ => none }
def mailMovesRow : OpenClaim := { program := "ytkfjcbnhohipgaa", sum := "586f5fb9cf9676934d883e3547a1716b56579bf63dc6ee0c14fa88e174370f07", func := "horizon/horizonlaw9.MailMoves", spec := "mailMoves", unfollowed := true, recurses := true, apart := false }
def MailMovesSaid : Prop := mailMovesRow.holds Try.pinned (OpenSpec.ofChange mailMovesSpec)

/-- ITS FALSE NEIGHBOUR: 'it returns false'. Refute it at one input. -/
def mailMovesWrong : ChangeSpec := { name := "mailMoves", fn := fun _ => fun
  | [d] => { results := [.lit (.bool false)], args := [d] }
  | _ => none }
def MailMovesWrongFalsely : Prop := mailMovesRow.holds Try.pinned (OpenSpec.ofChange mailMovesWrong)

/-- 'horizonlaw9.MailRounds': WHATEVER THE INPUT: true; the input reads as it did. -/
def mailRoundsSpec : ChangeSpec := { name := "mailRounds", fn := fun _ => fun
  | [d] => { results := [.lit (.bool true)], args := [d] }
  | _ => none }
def mailRoundsRow : OpenClaim := { program := "ytkfjcbnhohipgaa", sum := "586f5fb9cf9676934d883e3547a1716b56579bf63dc6ee0c14fa88e174370f07", func := "horizon/horizonlaw9.MailRounds", spec := "mailRounds", unfollowed := true, recurses := true, apart := false }
def MailRoundsSaid : Prop := mailRoundsRow.holds Try.pinned (OpenSpec.ofChange mailRoundsSpec)

/-- ITS FALSE NEIGHBOUR: 'it returns false'. Refute it at one input. -/
def mailRoundsWrong : ChangeSpec := { name := "mailRounds", fn := fun _ => fun
  | [d] => { results := [.lit (.bool false)], args := [d] }
  | _ => none }
def MailRoundsWrongFalsely : Prop := mailRoundsRow.holds Try.pinned (OpenSpec.ofChange mailRoundsWrong)

/-- 'horizonlaw9.MailKeeps': WHATEVER THE INPUT: true; the input reads as it did. -/
def mailKeepsSpec : ChangeSpec := { name := "mailKeeps", fn := fun _ => fun
  | [d] => { results := [.lit (.bool true)], args := [d] }
  | _ => none }
def mailKeepsRow : OpenClaim := { program := "ytkfjcbnhohipgaa", sum := "586f5fb9cf9676934d883e3547a1716b56579bf63dc6ee0c14fa88e174370f07", func := "horizon/horizonlaw9.MailKeeps", spec := "mailKeeps", unfollowed := true, recurses := true, apart := false }
def MailKeepsSaid : Prop := mailKeepsRow.holds Try.pinned (OpenSpec.ofChange mailKeepsSpec)

/-- ITS FALSE NEIGHBOUR: 'it returns false'. Refute it at one input. -/
def mailKeepsWrong : ChangeSpec := { name := "mailKeeps", fn := fun _ => fun
  | [d] => { results := [.lit (.bool false)], args := [d] }
  | _ => none }
def MailKeepsWrongFalsely : Prop := mailKeepsRow.holds Try.pinned (OpenSpec.ofChange mailKeepsWrong)

/-- 'horizonlaw9.MailNone': WHATEVER THE INPUT: true; the input reads as it did. -/
def mailNoneSpec : ChangeSpec := { name := "mailNone", fn := fun _ => fun
  | [d] => { results := [.lit (.bool true)], args := [d] }
  | _ => none }
def mailNoneRow : OpenClaim := { program := "ytkfjcbnhohipgaa", sum := "586f5fb9cf9676934d883e3547a1716b56579bf63dc6ee0c14fa88e174370f07", func := "horizon/horizonlaw9.MailNone", spec := "mailNone", unfollowed := true, recurses := true, apart := false }
def MailNoneSaid : Prop := mailNoneRow.holds Try.pinned (OpenSpec.ofChange mailNoneSpec)

/-- ITS FALSE NEIGHBOUR: 'it returns false'. Refute it at one input. -/
def mailNoneWrong : ChangeSpec := { name := "mailNone", fn := fun _ => fun
  | [d] => { results := [.lit (.bool false)], args := [d] }
  | _ => none }
def MailNoneWrongFalsely : Prop := mailNoneRow.holds Try.pinned (OpenSpec.ofChange mailNoneWrong)

/-- 'horizonlaw9.MailSends': WHATEVER THE INPUT: true; the input reads as it did. -/
def mailSendsSpec : ChangeSpec := { name := "mailSends", fn := fun _ => fun
  | [d] => { results := [.lit (.bool true)], args := [d] }
  | _ => none }
def mailSendsRow : OpenClaim := { program := "ytkfjcbnhohipgaa", sum := "586f5fb9cf9676934d883e3547a1716b56579bf63dc6ee0c14fa88e174370f07", func := "horizon/horizonlaw9.MailSends", spec := "mailSends", unfollowed := true, recurses := true, apart := false }
def MailSendsSaid : Prop := mailSendsRow.holds Try.pinned (OpenSpec.ofChange mailSendsSpec)

/-- ITS FALSE NEIGHBOUR: 'it returns false'. Refute it at one input. -/
def mailSendsWrong : ChangeSpec := { name := "mailSends", fn := fun _ => fun
  | [d] => { results := [.lit (.bool false)], args := [d] }
  | _ => none }
def MailSendsWrongFalsely : Prop := mailSendsRow.holds Try.pinned (OpenSpec.ofChange mailSendsWrong)

/-- 'horizonlaw9.MailFlips': WHATEVER THE INPUT: true; the input reads as it did. -/
def mailFlipsSpec : ChangeSpec := { name := "mailFlips", fn := fun _ => fun
  | [d] => { results := [.lit (.bool true)], args := [d] }
  | _ => none }
def mailFlipsRow : OpenClaim := { program := "ytkfjcbnhohipgaa", sum := "586f5fb9cf9676934d883e3547a1716b56579bf63dc6ee0c14fa88e174370f07", func := "horizon/horizonlaw9.MailFlips", spec := "mailFlips", unfollowed := true, recurses := true, apart := false }
def MailFlipsSaid : Prop := mailFlipsRow.holds Try.pinned (OpenSpec.ofChange mailFlipsSpec)

/-- ITS FALSE NEIGHBOUR: 'it returns false'. Refute it at one input. -/
def mailFlipsWrong : ChangeSpec := { name := "mailFlips", fn := fun _ => fun
  | [d] => { results := [.lit (.bool false)], args := [d] }
  | _ => none }
def MailFlipsWrongFalsely : Prop := mailFlipsRow.holds Try.pinned (OpenSpec.ofChange mailFlipsWrong)

/-- 'horizonlaw9.MailDrains': WHATEVER THE INPUT: true; the input reads as it did. -/
def mailDrainsSpec : ChangeSpec := { name := "mailDrains", fn := fun _ => fun
  | [d] => { results := [.lit (.bool true)], args := [d] }
  | _ => none }
def mailDrainsRow : OpenClaim := { program := "ytkfjcbnhohipgaa", sum := "586f5fb9cf9676934d883e3547a1716b56579bf63dc6ee0c14fa88e174370f07", func := "horizon/horizonlaw9.MailDrains", spec := "mailDrains", unfollowed := true, recurses := true, apart := false }
def MailDrainsSaid : Prop := mailDrainsRow.holds Try.pinned (OpenSpec.ofChange mailDrainsSpec)

/-- ITS FALSE NEIGHBOUR: 'it returns false'. Refute it at one input. -/
def mailDrainsWrong : ChangeSpec := { name := "mailDrains", fn := fun _ => fun
  | [d] => { results := [.lit (.bool false)], args := [d] }
  | _ => none }
def MailDrainsWrongFalsely : Prop := mailDrainsRow.holds Try.pinned (OpenSpec.ofChange mailDrainsWrong)

/-- 'horizonlaw9.MailDrops': WHATEVER THE INPUT: true; the input reads as it did. -/
def mailDropsSpec : ChangeSpec := { name := "mailDrops", fn := fun _ => fun
  | [d] => { results := [.lit (.bool true)], args := [d] }
  | _ => none }
def mailDropsRow : OpenClaim := { program := "ytkfjcbnhohipgaa", sum := "586f5fb9cf9676934d883e3547a1716b56579bf63dc6ee0c14fa88e174370f07", func := "horizon/horizonlaw9.MailDrops", spec := "mailDrops", unfollowed := true, recurses := true, apart := false }
def MailDropsSaid : Prop := mailDropsRow.holds Try.pinned (OpenSpec.ofChange mailDropsSpec)

/-- ITS FALSE NEIGHBOUR: 'it returns false'. Refute it at one input. -/
def mailDropsWrong : ChangeSpec := { name := "mailDrops", fn := fun _ => fun
  | [d] => { results := [.lit (.bool false)], args := [d] }
  | _ => none }
def MailDropsWrongFalsely : Prop := mailDropsRow.holds Try.pinned (OpenSpec.ofChange mailDropsWrong)

/-- 'horizonlaw9.MailAsks': WHATEVER THE INPUT: true; the input reads as it did. -/
def mailAsksSpec : ChangeSpec := { name := "mailAsks", fn := fun _ => fun
  | [d] => { results := [.lit (.bool true)], args := [d] }
  | _ => none }
def mailAsksRow : OpenClaim := { program := "ytkfjcbnhohipgaa", sum := "586f5fb9cf9676934d883e3547a1716b56579bf63dc6ee0c14fa88e174370f07", func := "horizon/horizonlaw9.MailAsks", spec := "mailAsks", unfollowed := true, recurses := true, apart := false }
def MailAsksSaid : Prop := mailAsksRow.holds Try.pinned (OpenSpec.ofChange mailAsksSpec)

/-- ITS FALSE NEIGHBOUR: 'it returns false'. Refute it at one input. -/
def mailAsksWrong : ChangeSpec := { name := "mailAsks", fn := fun _ => fun
  | [d] => { results := [.lit (.bool false)], args := [d] }
  | _ => none }
def MailAsksWrongFalsely : Prop := mailAsksRow.holds Try.pinned (OpenSpec.ofChange mailAsksWrong)

/-- 'horizonlaw9.MailAll': WHATEVER THE INPUT: true; the input reads as it did. -/
def mailAllSpec : ChangeSpec := { name := "mailAll", fn := fun _ => fun
  | [d] => { results := [.lit (.bool true)], args := [d] }
  | _ => none }
def mailAllRow : OpenClaim := { program := "ytkfjcbnhohipgaa", sum := "586f5fb9cf9676934d883e3547a1716b56579bf63dc6ee0c14fa88e174370f07", func := "horizon/horizonlaw9.MailAll", spec := "mailAll", unfollowed := true, recurses := true, apart := false }
def MailAllSaid : Prop := mailAllRow.holds Try.pinned (OpenSpec.ofChange mailAllSpec)

/-- ITS FALSE NEIGHBOUR: 'it returns false'. Refute it at one input. -/
def mailAllWrong : ChangeSpec := { name := "mailAll", fn := fun _ => fun
  | [d] => { results := [.lit (.bool false)], args := [d] }
  | _ => none }
def MailAllWrongFalsely : Prop := mailAllRow.holds Try.pinned (OpenSpec.ofChange mailAllWrong)

/- THE SECOND FORM. 'bulk': how many values and letters a reading holds, each counted each time it is reached (what is shared counts as often as it is met; a slice's spare places count too). A statement '..UptoSaid' is the law's where the arguments, and the package variables that the reading takes, are together of bulk at most 1048576: NARROWER than '..Said'. Prove '..Said' where nothing that the law and all that it calls make is longer than what came in: it says more and counts as full. Else prove '..UptoSaid'. A law counts once. -/
mutual
def uptoBulk {H : Type} : DataW H → Nat
  | .lit (.string bytes) => bytes.length + 1
  | .lit _ => 1
  | .nil => 1
  | .ptr d => uptoBulk d + 1
  | .slice elems spare => uptoBulkAll elems + uptoBulkAll spare + 1
  | .agg parts => uptoBulkAll parts + 1
  | .iface _ d => uptoBulk d + 1
  | .map entries => uptoBulkEntries entries + 1
  | .held _ => 1
def uptoBulkAll {H : Type} : List (DataW H) → Nat
  | [] => 0
  | d :: r => uptoBulk d + uptoBulkAll r
def uptoBulkEntries {H : Type} : List (Lit × DataW H) → Nat
  | [] => 0
  | x :: r => uptoBulkEntry x + uptoBulkEntries r
def uptoBulkEntry {H : Type} : Lit × DataW H → Nat
  | (.string bytes, d) => bytes.length + uptoBulk d + 1
  | (_, d) => uptoBulk d + 1
 end
def uptoSmall : (H : Type) → List (DataW H) → Bool := fun _ ds => decide (uptoBulkAll ds ≤ 1048576)
def OpenSpec.upto (s : _root_.Go.ChangeSpec) : _root_.Go.OpenSpec := { _root_.Go.OpenSpec.ofChange s with cond := some uptoSmall }

/-- 'horizonlaw9.MailMoves', WHERE WHAT IT READS IS OF BULK AT MOST 1048576: true; the input reads as it did. -/
def mailMovesUptoRow : OpenClaim := { program := "ytkfjcbnhohipgaa", sum := "586f5fb9cf9676934d883e3547a1716b56579bf63dc6ee0c14fa88e174370f07", func := "horizon/horizonlaw9.MailMoves", spec := "mailMoves", unfollowed := true, recurses := true, apart := false, narrowed := true }
def MailMovesUptoSaid : Prop := mailMovesUptoRow.holds Try.pinned (OpenSpec.upto mailMovesSpec)

/-- 'horizonlaw9.MailRounds', WHERE WHAT IT READS IS OF BULK AT MOST 1048576: true; the input reads as it did. -/
def mailRoundsUptoRow : OpenClaim := { program := "ytkfjcbnhohipgaa", sum := "586f5fb9cf9676934d883e3547a1716b56579bf63dc6ee0c14fa88e174370f07", func := "horizon/horizonlaw9.MailRounds", spec := "mailRounds", unfollowed := true, recurses := true, apart := false, narrowed := true }
def MailRoundsUptoSaid : Prop := mailRoundsUptoRow.holds Try.pinned (OpenSpec.upto mailRoundsSpec)

/-- 'horizonlaw9.MailKeeps', WHERE WHAT IT READS IS OF BULK AT MOST 1048576: true; the input reads as it did. -/
def mailKeepsUptoRow : OpenClaim := { program := "ytkfjcbnhohipgaa", sum := "586f5fb9cf9676934d883e3547a1716b56579bf63dc6ee0c14fa88e174370f07", func := "horizon/horizonlaw9.MailKeeps", spec := "mailKeeps", unfollowed := true, recurses := true, apart := false, narrowed := true }
def MailKeepsUptoSaid : Prop := mailKeepsUptoRow.holds Try.pinned (OpenSpec.upto mailKeepsSpec)

/-- 'horizonlaw9.MailNone', WHERE WHAT IT READS IS OF BULK AT MOST 1048576: true; the input reads as it did. -/
def mailNoneUptoRow : OpenClaim := { program := "ytkfjcbnhohipgaa", sum := "586f5fb9cf9676934d883e3547a1716b56579bf63dc6ee0c14fa88e174370f07", func := "horizon/horizonlaw9.MailNone", spec := "mailNone", unfollowed := true, recurses := true, apart := false, narrowed := true }
def MailNoneUptoSaid : Prop := mailNoneUptoRow.holds Try.pinned (OpenSpec.upto mailNoneSpec)

/-- 'horizonlaw9.MailSends', WHERE WHAT IT READS IS OF BULK AT MOST 1048576: true; the input reads as it did. -/
def mailSendsUptoRow : OpenClaim := { program := "ytkfjcbnhohipgaa", sum := "586f5fb9cf9676934d883e3547a1716b56579bf63dc6ee0c14fa88e174370f07", func := "horizon/horizonlaw9.MailSends", spec := "mailSends", unfollowed := true, recurses := true, apart := false, narrowed := true }
def MailSendsUptoSaid : Prop := mailSendsUptoRow.holds Try.pinned (OpenSpec.upto mailSendsSpec)

/-- 'horizonlaw9.MailFlips', WHERE WHAT IT READS IS OF BULK AT MOST 1048576: true; the input reads as it did. -/
def mailFlipsUptoRow : OpenClaim := { program := "ytkfjcbnhohipgaa", sum := "586f5fb9cf9676934d883e3547a1716b56579bf63dc6ee0c14fa88e174370f07", func := "horizon/horizonlaw9.MailFlips", spec := "mailFlips", unfollowed := true, recurses := true, apart := false, narrowed := true }
def MailFlipsUptoSaid : Prop := mailFlipsUptoRow.holds Try.pinned (OpenSpec.upto mailFlipsSpec)

/-- 'horizonlaw9.MailDrains', WHERE WHAT IT READS IS OF BULK AT MOST 1048576: true; the input reads as it did. -/
def mailDrainsUptoRow : OpenClaim := { program := "ytkfjcbnhohipgaa", sum := "586f5fb9cf9676934d883e3547a1716b56579bf63dc6ee0c14fa88e174370f07", func := "horizon/horizonlaw9.MailDrains", spec := "mailDrains", unfollowed := true, recurses := true, apart := false, narrowed := true }
def MailDrainsUptoSaid : Prop := mailDrainsUptoRow.holds Try.pinned (OpenSpec.upto mailDrainsSpec)

/-- 'horizonlaw9.MailDrops', WHERE WHAT IT READS IS OF BULK AT MOST 1048576: true; the input reads as it did. -/
def mailDropsUptoRow : OpenClaim := { program := "ytkfjcbnhohipgaa", sum := "586f5fb9cf9676934d883e3547a1716b56579bf63dc6ee0c14fa88e174370f07", func := "horizon/horizonlaw9.MailDrops", spec := "mailDrops", unfollowed := true, recurses := true, apart := false, narrowed := true }
def MailDropsUptoSaid : Prop := mailDropsUptoRow.holds Try.pinned (OpenSpec.upto mailDropsSpec)

/-- 'horizonlaw9.MailAsks', WHERE WHAT IT READS IS OF BULK AT MOST 1048576: true; the input reads as it did. -/
def mailAsksUptoRow : OpenClaim := { program := "ytkfjcbnhohipgaa", sum := "586f5fb9cf9676934d883e3547a1716b56579bf63dc6ee0c14fa88e174370f07", func := "horizon/horizonlaw9.MailAsks", spec := "mailAsks", unfollowed := true, recurses := true, apart := false, narrowed := true }
def MailAsksUptoSaid : Prop := mailAsksUptoRow.holds Try.pinned (OpenSpec.upto mailAsksSpec)

/-- 'horizonlaw9.MailAll', WHERE WHAT IT READS IS OF BULK AT MOST 1048576: true; the input reads as it did. -/
def mailAllUptoRow : OpenClaim := { program := "ytkfjcbnhohipgaa", sum := "586f5fb9cf9676934d883e3547a1716b56579bf63dc6ee0c14fa88e174370f07", func := "horizon/horizonlaw9.MailAll", spec := "mailAll", unfollowed := true, recurses := true, apart := false, narrowed := true }
def MailAllUptoSaid : Prop := mailAllUptoRow.holds Try.pinned (OpenSpec.upto mailAllSpec)

end Rows
end Go.Proofs.Ytkfjcbnhohipgaa
