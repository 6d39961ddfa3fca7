/-
  No cell of these rows narrows 'for every input' (looked for: loops, veiled, ifaces, maps, wideKeys, modest, calm, conditions, laid).
  DERIVED. THE GIVEN ROWS OF THIS SEAT. 20 by the template 'for every input the law returns true; each argument reads behind the call as it read before'; 0 by the template 'total and deterministic' (their statements: YtnibceeoejeimaaTotals.lean).
  GIVEN WITH THE SEED: the statements are not yours to turn. If you find one false, say at which input.
  Laid BY PROGRAM, IN A SANDBOX (cutbox-rows.mjs): the forced cells as the released guide's own fill.sh prints them over the translation 8634ea6dcbbd0b65… (all of the seat's roots in one cut). By AI agents, Wed Nov 11 2026. No macro, syntax, notation, axiom, sorry.
-/
import Derived.Test.YtnibceeoejeimaaChecked
import GoSem.Claim
import GoSem.ClaimJoined
import GoSem.ClaimMapViews
import Derived.JoinedTies
import Derived.KernelRfl
namespace Go.Proofs.Ytnibceeoejeimaa
/- THE CELL 'sum', in the pinned program and in every row, IS THE sha256 OF THE DUMP (.gsa) THAT YtnibceeoejeimaaProg.lean LOADS. Nothing in Lean hashes anything: it is a label: what it is worth is what the hold of that sum in a sandbox is worth. -/
noncomputable def Try.pinned : Pinned := { name := "ytnibceeoejeimaa", sum := "8634ea6dcbbd0b65f79435a44b7e2a844552614b68b3fc0874bab20d79b2753e", checked := Try.checked }
namespace Rows
def none {H : Type} : Left H := { results := [], args := [] }

/-- 'anillaw01.VatPlays': WHATEVER THE INPUT: true; the input reads as it did. -/
def vatPlaysSpec : ChangeSpec := { name := "vatPlays", fn := fun _ => fun
  | [d1, d2] => { results := [.lit (.bool true)], args := [d1, d2] }
  | _ => none }
def vatPlaysRow : OpenClaim := { program := "ytnibceeoejeimaa", sum := "8634ea6dcbbd0b65f79435a44b7e2a844552614b68b3fc0874bab20d79b2753e", func := "anil/anillaw01.VatPlays", spec := "vatPlays", unfollowed := true, recurses := true, plainKeys := false, apart := false }
def VatPlaysSaid : Prop := vatPlaysRow.holds Try.pinned (OpenSpec.ofChange vatPlaysSpec)

/-- ITS FALSE NEIGHBOUR: 'it returns false'. Refute it at one input. -/
def vatPlaysWrong : ChangeSpec := { name := "vatPlays", fn := fun _ => fun
  | [d1, d2] => { results := [.lit (.bool false)], args := [d1, d2] }
  | _ => none }
def VatPlaysWrongFalsely : Prop := vatPlaysRow.holds Try.pinned (OpenSpec.ofChange vatPlaysWrong)

/-- 'anillaw01.VatBounds': WHATEVER THE INPUT: true; the input reads as it did. -/
def vatBoundsSpec : ChangeSpec := { name := "vatBounds", fn := fun _ => fun
  | [d] => { results := [.lit (.bool true)], args := [d] }
  | _ => none }
def vatBoundsRow : OpenClaim := { program := "ytnibceeoejeimaa", sum := "8634ea6dcbbd0b65f79435a44b7e2a844552614b68b3fc0874bab20d79b2753e", func := "anil/anillaw01.VatBounds", spec := "vatBounds", unfollowed := true, recurses := true, plainKeys := false, apart := false }
def VatBoundsSaid : Prop := vatBoundsRow.holds Try.pinned (OpenSpec.ofChange vatBoundsSpec)

/-- ITS FALSE NEIGHBOUR: 'it returns false'. Refute it at one input. -/
def vatBoundsWrong : ChangeSpec := { name := "vatBounds", fn := fun _ => fun
  | [d] => { results := [.lit (.bool false)], args := [d] }
  | _ => none }
def VatBoundsWrongFalsely : Prop := vatBoundsRow.holds Try.pinned (OpenSpec.ofChange vatBoundsWrong)

/-- 'anillaw01.VatMore': WHATEVER THE INPUT: true; the input reads as it did. -/
def vatMoreSpec : ChangeSpec := { name := "vatMore", fn := fun _ => fun
  | [d1, d2, d3] => { results := [.lit (.bool true)], args := [d1, d2, d3] }
  | _ => none }
def vatMoreRow : OpenClaim := { program := "ytnibceeoejeimaa", sum := "8634ea6dcbbd0b65f79435a44b7e2a844552614b68b3fc0874bab20d79b2753e", func := "anil/anillaw01.VatMore", spec := "vatMore", unfollowed := true, recurses := true, plainKeys := false, apart := false }
def VatMoreSaid : Prop := vatMoreRow.holds Try.pinned (OpenSpec.ofChange vatMoreSpec)

/-- ITS FALSE NEIGHBOUR: 'it returns false'. Refute it at one input. -/
def vatMoreWrong : ChangeSpec := { name := "vatMore", fn := fun _ => fun
  | [d1, d2, d3] => { results := [.lit (.bool false)], args := [d1, d2, d3] }
  | _ => none }
def VatMoreWrongFalsely : Prop := vatMoreRow.holds Try.pinned (OpenSpec.ofChange vatMoreWrong)

/-- 'anillaw01.VatNeeds': WHATEVER THE INPUT: true; the input reads as it did. -/
def vatNeedsSpec : ChangeSpec := { name := "vatNeeds", fn := fun _ => fun
  | [d1, d2, d3, d4] => { results := [.lit (.bool true)], args := [d1, d2, d3, d4] }
  | _ => none }
def vatNeedsRow : OpenClaim := { program := "ytnibceeoejeimaa", sum := "8634ea6dcbbd0b65f79435a44b7e2a844552614b68b3fc0874bab20d79b2753e", func := "anil/anillaw01.VatNeeds", spec := "vatNeeds", unfollowed := true, recurses := true, plainKeys := false, apart := false }
def VatNeedsSaid : Prop := vatNeedsRow.holds Try.pinned (OpenSpec.ofChange vatNeedsSpec)

/-- ITS FALSE NEIGHBOUR: 'it returns false'. Refute it at one input. -/
def vatNeedsWrong : ChangeSpec := { name := "vatNeeds", fn := fun _ => fun
  | [d1, d2, d3, d4] => { results := [.lit (.bool false)], args := [d1, d2, d3, d4] }
  | _ => none }
def VatNeedsWrongFalsely : Prop := vatNeedsRow.holds Try.pinned (OpenSpec.ofChange vatNeedsWrong)

/-- 'anillaw01.VatSpreads': WHATEVER THE INPUT: true; the input reads as it did. -/
def vatSpreadsSpec : ChangeSpec := { name := "vatSpreads", fn := fun _ => fun
  | [d1, d2, d3, d4, d5] => { results := [.lit (.bool true)], args := [d1, d2, d3, d4, d5] }
  | _ => none }
def vatSpreadsRow : OpenClaim := { program := "ytnibceeoejeimaa", sum := "8634ea6dcbbd0b65f79435a44b7e2a844552614b68b3fc0874bab20d79b2753e", func := "anil/anillaw01.VatSpreads", spec := "vatSpreads", unfollowed := true, recurses := true, plainKeys := false, apart := false }
def VatSpreadsSaid : Prop := vatSpreadsRow.holds Try.pinned (OpenSpec.ofChange vatSpreadsSpec)

/-- ITS FALSE NEIGHBOUR: 'it returns false'. Refute it at one input. -/
def vatSpreadsWrong : ChangeSpec := { name := "vatSpreads", fn := fun _ => fun
  | [d1, d2, d3, d4, d5] => { results := [.lit (.bool false)], args := [d1, d2, d3, d4, d5] }
  | _ => none }
def VatSpreadsWrongFalsely : Prop := vatSpreadsRow.holds Try.pinned (OpenSpec.ofChange vatSpreadsWrong)

/-- 'anillaw01.VatLeaves': WHATEVER THE INPUT: true; the input reads as it did. -/
def vatLeavesSpec : ChangeSpec := { name := "vatLeaves", fn := fun _ => fun
  | [d] => { results := [.lit (.bool true)], args := [d] }
  | _ => none }
def vatLeavesRow : OpenClaim := { program := "ytnibceeoejeimaa", sum := "8634ea6dcbbd0b65f79435a44b7e2a844552614b68b3fc0874bab20d79b2753e", func := "anil/anillaw01.VatLeaves", spec := "vatLeaves", unfollowed := true, recurses := true, plainKeys := false, apart := false }
def VatLeavesSaid : Prop := vatLeavesRow.holds Try.pinned (OpenSpec.ofChange vatLeavesSpec)

/-- ITS FALSE NEIGHBOUR: 'it returns false'. Refute it at one input. -/
def vatLeavesWrong : ChangeSpec := { name := "vatLeaves", fn := fun _ => fun
  | [d] => { results := [.lit (.bool false)], args := [d] }
  | _ => none }
def VatLeavesWrongFalsely : Prop := vatLeavesRow.holds Try.pinned (OpenSpec.ofChange vatLeavesWrong)

/-- 'anillaw01.VatNames': WHATEVER THE INPUT: true; the input reads as it did. -/
def vatNamesSpec : ChangeSpec := { name := "vatNames", fn := fun _ => fun
  | [] => { results := [.lit (.bool true)], args := [] }
  | _ => none }
def vatNamesRow : OpenClaim := { program := "ytnibceeoejeimaa", sum := "8634ea6dcbbd0b65f79435a44b7e2a844552614b68b3fc0874bab20d79b2753e", func := "anil/anillaw01.VatNames", spec := "vatNames", unfollowed := true, recurses := true, plainKeys := false, apart := false }
def VatNamesSaid : Prop := vatNamesRow.holds Try.pinned (OpenSpec.ofChange vatNamesSpec)

/-- ITS FALSE NEIGHBOUR: 'it returns false'. Refute it at one input. -/
def vatNamesWrong : ChangeSpec := { name := "vatNames", fn := fun _ => fun
  | [] => { results := [.lit (.bool false)], args := [] }
  | _ => none }
def VatNamesWrongFalsely : Prop := vatNamesRow.holds Try.pinned (OpenSpec.ofChange vatNamesWrong)

/-- 'anillaw01.VatTruth': WHATEVER THE INPUT: true; the input reads as it did. -/
def vatTruthSpec : ChangeSpec := { name := "vatTruth", fn := fun _ => fun
  | [d1, d2, d3, d4, d5] => { results := [.lit (.bool true)], args := [d1, d2, d3, d4, d5] }
  | _ => none }
def vatTruthRow : OpenClaim := { program := "ytnibceeoejeimaa", sum := "8634ea6dcbbd0b65f79435a44b7e2a844552614b68b3fc0874bab20d79b2753e", func := "anil/anillaw01.VatTruth", spec := "vatTruth", unfollowed := true, recurses := true, plainKeys := false, apart := false }
def VatTruthSaid : Prop := vatTruthRow.holds Try.pinned (OpenSpec.ofChange vatTruthSpec)

/-- ITS FALSE NEIGHBOUR: 'it returns false'. Refute it at one input. -/
def vatTruthWrong : ChangeSpec := { name := "vatTruth", fn := fun _ => fun
  | [d1, d2, d3, d4, d5] => { results := [.lit (.bool false)], args := [d1, d2, d3, d4, d5] }
  | _ => none }
def VatTruthWrongFalsely : Prop := vatTruthRow.holds Try.pinned (OpenSpec.ofChange vatTruthWrong)

/-- 'anillaw01.VatEnds': WHATEVER THE INPUT: true; the input reads as it did. -/
def vatEndsSpec : ChangeSpec := { name := "vatEnds", fn := fun _ => fun
  | [d1, d2, d3] => { results := [.lit (.bool true)], args := [d1, d2, d3] }
  | _ => none }
def vatEndsRow : OpenClaim := { program := "ytnibceeoejeimaa", sum := "8634ea6dcbbd0b65f79435a44b7e2a844552614b68b3fc0874bab20d79b2753e", func := "anil/anillaw01.VatEnds", spec := "vatEnds", unfollowed := true, recurses := true, plainKeys := false, apart := false }
def VatEndsSaid : Prop := vatEndsRow.holds Try.pinned (OpenSpec.ofChange vatEndsSpec)

/-- ITS FALSE NEIGHBOUR: 'it returns false'. Refute it at one input. -/
def vatEndsWrong : ChangeSpec := { name := "vatEnds", fn := fun _ => fun
  | [d1, d2, d3] => { results := [.lit (.bool false)], args := [d1, d2, d3] }
  | _ => none }
def VatEndsWrongFalsely : Prop := vatEndsRow.holds Try.pinned (OpenSpec.ofChange vatEndsWrong)

/-- 'anillaw01.VatAbove': WHATEVER THE INPUT: true; the input reads as it did. -/
def vatAboveSpec : ChangeSpec := { name := "vatAbove", fn := fun _ => fun
  | [d1, d2] => { results := [.lit (.bool true)], args := [d1, d2] }
  | _ => none }
def vatAboveRow : OpenClaim := { program := "ytnibceeoejeimaa", sum := "8634ea6dcbbd0b65f79435a44b7e2a844552614b68b3fc0874bab20d79b2753e", func := "anil/anillaw01.VatAbove", spec := "vatAbove", unfollowed := true, recurses := true, plainKeys := false, apart := false }
def VatAboveSaid : Prop := vatAboveRow.holds Try.pinned (OpenSpec.ofChange vatAboveSpec)

/-- ITS FALSE NEIGHBOUR: 'it returns false'. Refute it at one input. -/
def vatAboveWrong : ChangeSpec := { name := "vatAbove", fn := fun _ => fun
  | [d1, d2] => { results := [.lit (.bool false)], args := [d1, d2] }
  | _ => none }
def VatAboveWrongFalsely : Prop := vatAboveRow.holds Try.pinned (OpenSpec.ofChange vatAboveWrong)

/-- 'anillaw01.VatAsked': WHATEVER THE INPUT: true; the input reads as it did. -/
def vatAskedSpec : ChangeSpec := { name := "vatAsked", fn := fun _ => fun
  | [d1, d2] => { results := [.lit (.bool true)], args := [d1, d2] }
  | _ => none }
def vatAskedRow : OpenClaim := { program := "ytnibceeoejeimaa", sum := "8634ea6dcbbd0b65f79435a44b7e2a844552614b68b3fc0874bab20d79b2753e", func := "anil/anillaw01.VatAsked", spec := "vatAsked", unfollowed := true, recurses := true, plainKeys := false, apart := false }
def VatAskedSaid : Prop := vatAskedRow.holds Try.pinned (OpenSpec.ofChange vatAskedSpec)

/-- ITS FALSE NEIGHBOUR: 'it returns false'. Refute it at one input. -/
def vatAskedWrong : ChangeSpec := { name := "vatAsked", fn := fun _ => fun
  | [d1, d2] => { results := [.lit (.bool false)], args := [d1, d2] }
  | _ => none }
def VatAskedWrongFalsely : Prop := vatAskedRow.holds Try.pinned (OpenSpec.ofChange vatAskedWrong)

/-- 'anillaw01.VatNeeded': WHATEVER THE INPUT: true; the input reads as it did. -/
def vatNeededSpec : ChangeSpec := { name := "vatNeeded", fn := fun _ => fun
  | [d1, d2, d3] => { results := [.lit (.bool true)], args := [d1, d2, d3] }
  | _ => none }
def vatNeededRow : OpenClaim := { program := "ytnibceeoejeimaa", sum := "8634ea6dcbbd0b65f79435a44b7e2a844552614b68b3fc0874bab20d79b2753e", func := "anil/anillaw01.VatNeeded", spec := "vatNeeded", unfollowed := true, recurses := true, plainKeys := false, apart := false }
def VatNeededSaid : Prop := vatNeededRow.holds Try.pinned (OpenSpec.ofChange vatNeededSpec)

/-- ITS FALSE NEIGHBOUR: 'it returns false'. Refute it at one input. -/
def vatNeededWrong : ChangeSpec := { name := "vatNeeded", fn := fun _ => fun
  | [d1, d2, d3] => { results := [.lit (.bool false)], args := [d1, d2, d3] }
  | _ => none }
def VatNeededWrongFalsely : Prop := vatNeededRow.holds Try.pinned (OpenSpec.ofChange vatNeededWrong)

/-- 'anillaw01.VatNoBetter': WHATEVER THE INPUT: true; the input reads as it did. -/
def vatNoBetterSpec : ChangeSpec := { name := "vatNoBetter", fn := fun _ => fun
  | [d1, d2, d3] => { results := [.lit (.bool true)], args := [d1, d2, d3] }
  | _ => none }
def vatNoBetterRow : OpenClaim := { program := "ytnibceeoejeimaa", sum := "8634ea6dcbbd0b65f79435a44b7e2a844552614b68b3fc0874bab20d79b2753e", func := "anil/anillaw01.VatNoBetter", spec := "vatNoBetter", unfollowed := true, recurses := true, plainKeys := false, apart := false }
def VatNoBetterSaid : Prop := vatNoBetterRow.holds Try.pinned (OpenSpec.ofChange vatNoBetterSpec)

/-- ITS FALSE NEIGHBOUR: 'it returns false'. Refute it at one input. -/
def vatNoBetterWrong : ChangeSpec := { name := "vatNoBetter", fn := fun _ => fun
  | [d1, d2, d3] => { results := [.lit (.bool false)], args := [d1, d2, d3] }
  | _ => none }
def VatNoBetterWrongFalsely : Prop := vatNoBetterRow.holds Try.pinned (OpenSpec.ofChange vatNoBetterWrong)

/-- 'anillaw01.VatBundle': WHATEVER THE INPUT: true; the input reads as it did. -/
def vatBundleSpec : ChangeSpec := { name := "vatBundle", fn := fun _ => fun
  | [d1, d2, d3] => { results := [.lit (.bool true)], args := [d1, d2, d3] }
  | _ => none }
def vatBundleRow : OpenClaim := { program := "ytnibceeoejeimaa", sum := "8634ea6dcbbd0b65f79435a44b7e2a844552614b68b3fc0874bab20d79b2753e", func := "anil/anillaw01.VatBundle", spec := "vatBundle", unfollowed := true, recurses := true, plainKeys := false, apart := false }
def VatBundleSaid : Prop := vatBundleRow.holds Try.pinned (OpenSpec.ofChange vatBundleSpec)

/-- ITS FALSE NEIGHBOUR: 'it returns false'. Refute it at one input. -/
def vatBundleWrong : ChangeSpec := { name := "vatBundle", fn := fun _ => fun
  | [d1, d2, d3] => { results := [.lit (.bool false)], args := [d1, d2, d3] }
  | _ => none }
def VatBundleWrongFalsely : Prop := vatBundleRow.holds Try.pinned (OpenSpec.ofChange vatBundleWrong)

/-- 'anillaw01.VatTurned': WHATEVER THE INPUT: true; the input reads as it did. -/
def vatTurnedSpec : ChangeSpec := { name := "vatTurned", fn := fun _ => fun
  | [d1, d2, d3] => { results := [.lit (.bool true)], args := [d1, d2, d3] }
  | _ => none }
def vatTurnedRow : OpenClaim := { program := "ytnibceeoejeimaa", sum := "8634ea6dcbbd0b65f79435a44b7e2a844552614b68b3fc0874bab20d79b2753e", func := "anil/anillaw01.VatTurned", spec := "vatTurned", unfollowed := true, recurses := true, plainKeys := false, apart := false }
def VatTurnedSaid : Prop := vatTurnedRow.holds Try.pinned (OpenSpec.ofChange vatTurnedSpec)

/-- ITS FALSE NEIGHBOUR: 'it returns false'. Refute it at one input. -/
def vatTurnedWrong : ChangeSpec := { name := "vatTurned", fn := fun _ => fun
  | [d1, d2, d3] => { results := [.lit (.bool false)], args := [d1, d2, d3] }
  | _ => none }
def VatTurnedWrongFalsely : Prop := vatTurnedRow.holds Try.pinned (OpenSpec.ofChange vatTurnedWrong)

/-- 'anillaw01.VatOneMore': WHATEVER THE INPUT: true; the input reads as it did. -/
def vatOneMoreSpec : ChangeSpec := { name := "vatOneMore", fn := fun _ => fun
  | [d1, d2, d3, d4] => { results := [.lit (.bool true)], args := [d1, d2, d3, d4] }
  | _ => none }
def vatOneMoreRow : OpenClaim := { program := "ytnibceeoejeimaa", sum := "8634ea6dcbbd0b65f79435a44b7e2a844552614b68b3fc0874bab20d79b2753e", func := "anil/anillaw01.VatOneMore", spec := "vatOneMore", unfollowed := true, recurses := true, plainKeys := false, apart := false }
def VatOneMoreSaid : Prop := vatOneMoreRow.holds Try.pinned (OpenSpec.ofChange vatOneMoreSpec)

/-- ITS FALSE NEIGHBOUR: 'it returns false'. Refute it at one input. -/
def vatOneMoreWrong : ChangeSpec := { name := "vatOneMore", fn := fun _ => fun
  | [d1, d2, d3, d4] => { results := [.lit (.bool false)], args := [d1, d2, d3, d4] }
  | _ => none }
def VatOneMoreWrongFalsely : Prop := vatOneMoreRow.holds Try.pinned (OpenSpec.ofChange vatOneMoreWrong)

/-- 'anillaw01.VatWider': WHATEVER THE INPUT: true; the input reads as it did. -/
def vatWiderSpec : ChangeSpec := { name := "vatWider", fn := fun _ => fun
  | [d1, d2, d3, d4] => { results := [.lit (.bool true)], args := [d1, d2, d3, d4] }
  | _ => none }
def vatWiderRow : OpenClaim := { program := "ytnibceeoejeimaa", sum := "8634ea6dcbbd0b65f79435a44b7e2a844552614b68b3fc0874bab20d79b2753e", func := "anil/anillaw01.VatWider", spec := "vatWider", unfollowed := true, recurses := true, plainKeys := false, apart := false }
def VatWiderSaid : Prop := vatWiderRow.holds Try.pinned (OpenSpec.ofChange vatWiderSpec)

/-- ITS FALSE NEIGHBOUR: 'it returns false'. Refute it at one input. -/
def vatWiderWrong : ChangeSpec := { name := "vatWider", fn := fun _ => fun
  | [d1, d2, d3, d4] => { results := [.lit (.bool false)], args := [d1, d2, d3, d4] }
  | _ => none }
def VatWiderWrongFalsely : Prop := vatWiderRow.holds Try.pinned (OpenSpec.ofChange vatWiderWrong)

/-- 'anillaw01.VatFirst': WHATEVER THE INPUT: true; the input reads as it did. -/
def vatFirstSpec : ChangeSpec := { name := "vatFirst", fn := fun _ => fun
  | [d] => { results := [.lit (.bool true)], args := [d] }
  | _ => none }
def vatFirstRow : OpenClaim := { program := "ytnibceeoejeimaa", sum := "8634ea6dcbbd0b65f79435a44b7e2a844552614b68b3fc0874bab20d79b2753e", func := "anil/anillaw01.VatFirst", spec := "vatFirst", unfollowed := true, recurses := true, plainKeys := false, apart := false }
def VatFirstSaid : Prop := vatFirstRow.holds Try.pinned (OpenSpec.ofChange vatFirstSpec)

/-- ITS FALSE NEIGHBOUR: 'it returns false'. Refute it at one input. -/
def vatFirstWrong : ChangeSpec := { name := "vatFirst", fn := fun _ => fun
  | [d] => { results := [.lit (.bool false)], args := [d] }
  | _ => none }
def VatFirstWrongFalsely : Prop := vatFirstRow.holds Try.pinned (OpenSpec.ofChange vatFirstWrong)

/-- 'anillaw01.VatLeft': WHATEVER THE INPUT: true; the input reads as it did. -/
def vatLeftSpec : ChangeSpec := { name := "vatLeft", fn := fun _ => fun
  | [d1, d2] => { results := [.lit (.bool true)], args := [d1, d2] }
  | _ => none }
def vatLeftRow : OpenClaim := { program := "ytnibceeoejeimaa", sum := "8634ea6dcbbd0b65f79435a44b7e2a844552614b68b3fc0874bab20d79b2753e", func := "anil/anillaw01.VatLeft", spec := "vatLeft", unfollowed := true, recurses := true, plainKeys := false, apart := false }
def VatLeftSaid : Prop := vatLeftRow.holds Try.pinned (OpenSpec.ofChange vatLeftSpec)

/-- ITS FALSE NEIGHBOUR: 'it returns false'. Refute it at one input. -/
def vatLeftWrong : ChangeSpec := { name := "vatLeft", fn := fun _ => fun
  | [d1, d2] => { results := [.lit (.bool false)], args := [d1, d2] }
  | _ => none }
def VatLeftWrongFalsely : Prop := vatLeftRow.holds Try.pinned (OpenSpec.ofChange vatLeftWrong)

/-- 'anillaw01.VatMemory': WHATEVER THE INPUT: true; the input reads as it did. -/
def vatMemorySpec : ChangeSpec := { name := "vatMemory", fn := fun _ => fun
  | [d1, d2, d3, d4] => { results := [.lit (.bool true)], args := [d1, d2, d3, d4] }
  | _ => none }
def vatMemoryRow : OpenClaim := { program := "ytnibceeoejeimaa", sum := "8634ea6dcbbd0b65f79435a44b7e2a844552614b68b3fc0874bab20d79b2753e", func := "anil/anillaw01.VatMemory", spec := "vatMemory", unfollowed := true, recurses := true, plainKeys := false, apart := false }
def VatMemorySaid : Prop := vatMemoryRow.holds Try.pinned (OpenSpec.ofChange vatMemorySpec)

/-- ITS FALSE NEIGHBOUR: 'it returns false'. Refute it at one input. -/
def vatMemoryWrong : ChangeSpec := { name := "vatMemory", fn := fun _ => fun
  | [d1, d2, d3, d4] => { results := [.lit (.bool false)], args := [d1, d2, d3, d4] }
  | _ => none }
def VatMemoryWrongFalsely : Prop := vatMemoryRow.holds Try.pinned (OpenSpec.ofChange vatMemoryWrong)

/- THE SECOND FORM. 'bulk': how many values and letters a reading holds, each counted each time it is reached (what is shared counts as often as it is met; a slice's spare places count too). A statement '..UptoSaid' is the law's where the arguments, and the package variables that the reading takes, are together of bulk at most 1048576: NARROWER than '..Said'. Prove '..Said' where nothing that the law and all that it calls make is longer than what came in: it says more and counts as full. Else prove '..UptoSaid'. A law counts once. -/
mutual
def uptoBulk {H : Type} : DataW H → Nat
  | .lit (.string bytes) => bytes.length + 1
  | .lit _ => 1
  | .nil => 1
  | .ptr d => uptoBulk d + 1
  | .slice elems spare => uptoBulkAll elems + uptoBulkAll spare + 1
  | .agg parts => uptoBulkAll parts + 1
  | .iface _ d => uptoBulk d + 1
  | .map entries => uptoBulkEntries entries + 1
  | .held _ => 1
def uptoBulkAll {H : Type} : List (DataW H) → Nat
  | [] => 0
  | d :: r => uptoBulk d + uptoBulkAll r
def uptoBulkEntries {H : Type} : List (Lit × DataW H) → Nat
  | [] => 0
  | x :: r => uptoBulkEntry x + uptoBulkEntries r
def uptoBulkEntry {H : Type} : Lit × DataW H → Nat
  | (.string bytes, d) => bytes.length + uptoBulk d + 1
  | (_, d) => uptoBulk d + 1
 end
def uptoSmall : (H : Type) → List (DataW H) → Bool := fun _ ds => decide (uptoBulkAll ds ≤ 1048576)
def OpenSpec.upto (s : _root_.Go.ChangeSpec) : _root_.Go.OpenSpec := { _root_.Go.OpenSpec.ofChange s with cond := some uptoSmall }

/-- 'anillaw01.VatPlays', WHERE WHAT IT READS IS OF BULK AT MOST 1048576: true; the input reads as it did. -/
def vatPlaysUptoRow : OpenClaim := { program := "ytnibceeoejeimaa", sum := "8634ea6dcbbd0b65f79435a44b7e2a844552614b68b3fc0874bab20d79b2753e", func := "anil/anillaw01.VatPlays", spec := "vatPlays", unfollowed := true, recurses := true, plainKeys := false, apart := false, narrowed := true }
def VatPlaysUptoSaid : Prop := vatPlaysUptoRow.holds Try.pinned (OpenSpec.upto vatPlaysSpec)

/-- 'anillaw01.VatBounds', WHERE WHAT IT READS IS OF BULK AT MOST 1048576: true; the input reads as it did. -/
def vatBoundsUptoRow : OpenClaim := { program := "ytnibceeoejeimaa", sum := "8634ea6dcbbd0b65f79435a44b7e2a844552614b68b3fc0874bab20d79b2753e", func := "anil/anillaw01.VatBounds", spec := "vatBounds", unfollowed := true, recurses := true, plainKeys := false, apart := false, narrowed := true }
def VatBoundsUptoSaid : Prop := vatBoundsUptoRow.holds Try.pinned (OpenSpec.upto vatBoundsSpec)

/-- 'anillaw01.VatMore', WHERE WHAT IT READS IS OF BULK AT MOST 1048576: true; the input reads as it did. -/
def vatMoreUptoRow : OpenClaim := { program := "ytnibceeoejeimaa", sum := "8634ea6dcbbd0b65f79435a44b7e2a844552614b68b3fc0874bab20d79b2753e", func := "anil/anillaw01.VatMore", spec := "vatMore", unfollowed := true, recurses := true, plainKeys := false, apart := false, narrowed := true }
def VatMoreUptoSaid : Prop := vatMoreUptoRow.holds Try.pinned (OpenSpec.upto vatMoreSpec)

/-- 'anillaw01.VatNeeds', WHERE WHAT IT READS IS OF BULK AT MOST 1048576: true; the input reads as it did. -/
def vatNeedsUptoRow : OpenClaim := { program := "ytnibceeoejeimaa", sum := "8634ea6dcbbd0b65f79435a44b7e2a844552614b68b3fc0874bab20d79b2753e", func := "anil/anillaw01.VatNeeds", spec := "vatNeeds", unfollowed := true, recurses := true, plainKeys := false, apart := false, narrowed := true }
def VatNeedsUptoSaid : Prop := vatNeedsUptoRow.holds Try.pinned (OpenSpec.upto vatNeedsSpec)

/-- 'anillaw01.VatSpreads', WHERE WHAT IT READS IS OF BULK AT MOST 1048576: true; the input reads as it did. -/
def vatSpreadsUptoRow : OpenClaim := { program := "ytnibceeoejeimaa", sum := "8634ea6dcbbd0b65f79435a44b7e2a844552614b68b3fc0874bab20d79b2753e", func := "anil/anillaw01.VatSpreads", spec := "vatSpreads", unfollowed := true, recurses := true, plainKeys := false, apart := false, narrowed := true }
def VatSpreadsUptoSaid : Prop := vatSpreadsUptoRow.holds Try.pinned (OpenSpec.upto vatSpreadsSpec)

/-- 'anillaw01.VatLeaves', WHERE WHAT IT READS IS OF BULK AT MOST 1048576: true; the input reads as it did. -/
def vatLeavesUptoRow : OpenClaim := { program := "ytnibceeoejeimaa", sum := "8634ea6dcbbd0b65f79435a44b7e2a844552614b68b3fc0874bab20d79b2753e", func := "anil/anillaw01.VatLeaves", spec := "vatLeaves", unfollowed := true, recurses := true, plainKeys := false, apart := false, narrowed := true }
def VatLeavesUptoSaid : Prop := vatLeavesUptoRow.holds Try.pinned (OpenSpec.upto vatLeavesSpec)

/-- 'anillaw01.VatNames', WHERE WHAT IT READS IS OF BULK AT MOST 1048576: true; the input reads as it did. -/
def vatNamesUptoRow : OpenClaim := { program := "ytnibceeoejeimaa", sum := "8634ea6dcbbd0b65f79435a44b7e2a844552614b68b3fc0874bab20d79b2753e", func := "anil/anillaw01.VatNames", spec := "vatNames", unfollowed := true, recurses := true, plainKeys := false, apart := false, narrowed := true }
def VatNamesUptoSaid : Prop := vatNamesUptoRow.holds Try.pinned (OpenSpec.upto vatNamesSpec)

/-- 'anillaw01.VatTruth', WHERE WHAT IT READS IS OF BULK AT MOST 1048576: true; the input reads as it did. -/
def vatTruthUptoRow : OpenClaim := { program := "ytnibceeoejeimaa", sum := "8634ea6dcbbd0b65f79435a44b7e2a844552614b68b3fc0874bab20d79b2753e", func := "anil/anillaw01.VatTruth", spec := "vatTruth", unfollowed := true, recurses := true, plainKeys := false, apart := false, narrowed := true }
def VatTruthUptoSaid : Prop := vatTruthUptoRow.holds Try.pinned (OpenSpec.upto vatTruthSpec)

/-- 'anillaw01.VatEnds', WHERE WHAT IT READS IS OF BULK AT MOST 1048576: true; the input reads as it did. -/
def vatEndsUptoRow : OpenClaim := { program := "ytnibceeoejeimaa", sum := "8634ea6dcbbd0b65f79435a44b7e2a844552614b68b3fc0874bab20d79b2753e", func := "anil/anillaw01.VatEnds", spec := "vatEnds", unfollowed := true, recurses := true, plainKeys := false, apart := false, narrowed := true }
def VatEndsUptoSaid : Prop := vatEndsUptoRow.holds Try.pinned (OpenSpec.upto vatEndsSpec)

/-- 'anillaw01.VatAbove', WHERE WHAT IT READS IS OF BULK AT MOST 1048576: true; the input reads as it did. -/
def vatAboveUptoRow : OpenClaim := { program := "ytnibceeoejeimaa", sum := "8634ea6dcbbd0b65f79435a44b7e2a844552614b68b3fc0874bab20d79b2753e", func := "anil/anillaw01.VatAbove", spec := "vatAbove", unfollowed := true, recurses := true, plainKeys := false, apart := false, narrowed := true }
def VatAboveUptoSaid : Prop := vatAboveUptoRow.holds Try.pinned (OpenSpec.upto vatAboveSpec)

/-- 'anillaw01.VatAsked', WHERE WHAT IT READS IS OF BULK AT MOST 1048576: true; the input reads as it did. -/
def vatAskedUptoRow : OpenClaim := { program := "ytnibceeoejeimaa", sum := "8634ea6dcbbd0b65f79435a44b7e2a844552614b68b3fc0874bab20d79b2753e", func := "anil/anillaw01.VatAsked", spec := "vatAsked", unfollowed := true, recurses := true, plainKeys := false, apart := false, narrowed := true }
def VatAskedUptoSaid : Prop := vatAskedUptoRow.holds Try.pinned (OpenSpec.upto vatAskedSpec)

/-- 'anillaw01.VatNeeded', WHERE WHAT IT READS IS OF BULK AT MOST 1048576: true; the input reads as it did. -/
def vatNeededUptoRow : OpenClaim := { program := "ytnibceeoejeimaa", sum := "8634ea6dcbbd0b65f79435a44b7e2a844552614b68b3fc0874bab20d79b2753e", func := "anil/anillaw01.VatNeeded", spec := "vatNeeded", unfollowed := true, recurses := true, plainKeys := false, apart := false, narrowed := true }
def VatNeededUptoSaid : Prop := vatNeededUptoRow.holds Try.pinned (OpenSpec.upto vatNeededSpec)

/-- 'anillaw01.VatNoBetter', WHERE WHAT IT READS IS OF BULK AT MOST 1048576: true; the input reads as it did. -/
def vatNoBetterUptoRow : OpenClaim := { program := "ytnibceeoejeimaa", sum := "8634ea6dcbbd0b65f79435a44b7e2a844552614b68b3fc0874bab20d79b2753e", func := "anil/anillaw01.VatNoBetter", spec := "vatNoBetter", unfollowed := true, recurses := true, plainKeys := false, apart := false, narrowed := true }
def VatNoBetterUptoSaid : Prop := vatNoBetterUptoRow.holds Try.pinned (OpenSpec.upto vatNoBetterSpec)

/-- 'anillaw01.VatBundle', WHERE WHAT IT READS IS OF BULK AT MOST 1048576: true; the input reads as it did. -/
def vatBundleUptoRow : OpenClaim := { program := "ytnibceeoejeimaa", sum := "8634ea6dcbbd0b65f79435a44b7e2a844552614b68b3fc0874bab20d79b2753e", func := "anil/anillaw01.VatBundle", spec := "vatBundle", unfollowed := true, recurses := true, plainKeys := false, apart := false, narrowed := true }
def VatBundleUptoSaid : Prop := vatBundleUptoRow.holds Try.pinned (OpenSpec.upto vatBundleSpec)

/-- 'anillaw01.VatTurned', WHERE WHAT IT READS IS OF BULK AT MOST 1048576: true; the input reads as it did. -/
def vatTurnedUptoRow : OpenClaim := { program := "ytnibceeoejeimaa", sum := "8634ea6dcbbd0b65f79435a44b7e2a844552614b68b3fc0874bab20d79b2753e", func := "anil/anillaw01.VatTurned", spec := "vatTurned", unfollowed := true, recurses := true, plainKeys := false, apart := false, narrowed := true }
def VatTurnedUptoSaid : Prop := vatTurnedUptoRow.holds Try.pinned (OpenSpec.upto vatTurnedSpec)

/-- 'anillaw01.VatOneMore', WHERE WHAT IT READS IS OF BULK AT MOST 1048576: true; the input reads as it did. -/
def vatOneMoreUptoRow : OpenClaim := { program := "ytnibceeoejeimaa", sum := "8634ea6dcbbd0b65f79435a44b7e2a844552614b68b3fc0874bab20d79b2753e", func := "anil/anillaw01.VatOneMore", spec := "vatOneMore", unfollowed := true, recurses := true, plainKeys := false, apart := false, narrowed := true }
def VatOneMoreUptoSaid : Prop := vatOneMoreUptoRow.holds Try.pinned (OpenSpec.upto vatOneMoreSpec)

/-- 'anillaw01.VatWider', WHERE WHAT IT READS IS OF BULK AT MOST 1048576: true; the input reads as it did. -/
def vatWiderUptoRow : OpenClaim := { program := "ytnibceeoejeimaa", sum := "8634ea6dcbbd0b65f79435a44b7e2a844552614b68b3fc0874bab20d79b2753e", func := "anil/anillaw01.VatWider", spec := "vatWider", unfollowed := true, recurses := true, plainKeys := false, apart := false, narrowed := true }
def VatWiderUptoSaid : Prop := vatWiderUptoRow.holds Try.pinned (OpenSpec.upto vatWiderSpec)

/-- 'anillaw01.VatFirst', WHERE WHAT IT READS IS OF BULK AT MOST 1048576: true; the input reads as it did. -/
def vatFirstUptoRow : OpenClaim := { program := "ytnibceeoejeimaa", sum := "8634ea6dcbbd0b65f79435a44b7e2a844552614b68b3fc0874bab20d79b2753e", func := "anil/anillaw01.VatFirst", spec := "vatFirst", unfollowed := true, recurses := true, plainKeys := false, apart := false, narrowed := true }
def VatFirstUptoSaid : Prop := vatFirstUptoRow.holds Try.pinned (OpenSpec.upto vatFirstSpec)

/-- 'anillaw01.VatLeft', WHERE WHAT IT READS IS OF BULK AT MOST 1048576: true; the input reads as it did. -/
def vatLeftUptoRow : OpenClaim := { program := "ytnibceeoejeimaa", sum := "8634ea6dcbbd0b65f79435a44b7e2a844552614b68b3fc0874bab20d79b2753e", func := "anil/anillaw01.VatLeft", spec := "vatLeft", unfollowed := true, recurses := true, plainKeys := false, apart := false, narrowed := true }
def VatLeftUptoSaid : Prop := vatLeftUptoRow.holds Try.pinned (OpenSpec.upto vatLeftSpec)

/-- 'anillaw01.VatMemory', WHERE WHAT IT READS IS OF BULK AT MOST 1048576: true; the input reads as it did. -/
def vatMemoryUptoRow : OpenClaim := { program := "ytnibceeoejeimaa", sum := "8634ea6dcbbd0b65f79435a44b7e2a844552614b68b3fc0874bab20d79b2753e", func := "anil/anillaw01.VatMemory", spec := "vatMemory", unfollowed := true, recurses := true, plainKeys := false, apart := false, narrowed := true }
def VatMemoryUptoSaid : Prop := vatMemoryUptoRow.holds Try.pinned (OpenSpec.upto vatMemorySpec)

end Rows
end Go.Proofs.Ytnibceeoejeimaa
