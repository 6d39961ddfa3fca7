/-
  No cell of these rows narrows 'for every input' (looked for: loops, veiled, ifaces, maps, wideKeys, modest, calm, conditions, laid).
  DERIVED. THE GIVEN ROWS OF THIS SEAT. 20 by the template 'for every input the law returns true; each argument reads behind the call as it read before'; 0 by the template 'total and deterministic' (their statements: YtjihegbffhhcaaaTotals.lean).
  GIVEN WITH THE SEED: the statements are not yours to turn. If you find one false, say at which input.
  Laid BY PROGRAM, IN A SANDBOX (cutbox-rows.mjs): the forced cells as the released guide's own fill.sh prints them over the translation dc6f395ca1dee4c3… (all of the seat's roots in one cut). By AI agents, Wed Nov 11 2026. No macro, syntax, notation, axiom, sorry.
-/
import Derived.Test.YtjihegbffhhcaaaChecked
import GoSem.Claim
import GoSem.ClaimJoined
import GoSem.ClaimMapViews
import Derived.JoinedTies
import Derived.KernelRfl
namespace Go.Proofs.Ytjihegbffhhcaaa
/- THE CELL 'sum', in the pinned program and in every row, IS THE sha256 OF THE DUMP (.gsa) THAT YtjihegbffhhcaaaProg.lean LOADS. Nothing in Lean hashes anything: it is a label: what it is worth is what the hold of that sum in a sandbox is worth. -/
noncomputable def Try.pinned : Pinned := { name := "ytjihegbffhhcaaa", sum := "dc6f395ca1dee4c38ced0af1f35c8fc04a9d605fe92ad02906e5d22204bcb3ee", checked := Try.checked }
namespace Rows
def none {H : Type} : Left H := { results := [], args := [] }

/-- 'anillaw03.BeatPlays': WHATEVER THE INPUT: true; the input reads as it did. -/
def beatPlaysSpec : ChangeSpec := { name := "beatPlays", fn := fun _ => fun
  | [d1, d2, d3] => { results := [.lit (.bool true)], args := [d1, d2, d3] }
  | _ => none }
def beatPlaysRow : OpenClaim := { program := "ytjihegbffhhcaaa", sum := "dc6f395ca1dee4c38ced0af1f35c8fc04a9d605fe92ad02906e5d22204bcb3ee", func := "anil/anillaw03.BeatPlays", spec := "beatPlays", unfollowed := true, recurses := true, plainKeys := false, apart := false }
def BeatPlaysSaid : Prop := beatPlaysRow.holds Try.pinned (OpenSpec.ofChange beatPlaysSpec)

/-- ITS FALSE NEIGHBOUR: 'it returns false'. Refute it at one input. -/
def beatPlaysWrong : ChangeSpec := { name := "beatPlays", fn := fun _ => fun
  | [d1, d2, d3] => { results := [.lit (.bool false)], args := [d1, d2, d3] }
  | _ => none }
def BeatPlaysWrongFalsely : Prop := beatPlaysRow.holds Try.pinned (OpenSpec.ofChange beatPlaysWrong)

/-- 'anillaw03.BeatBounds': WHATEVER THE INPUT: true; the input reads as it did. -/
def beatBoundsSpec : ChangeSpec := { name := "beatBounds", fn := fun _ => fun
  | [d1, d2, d3] => { results := [.lit (.bool true)], args := [d1, d2, d3] }
  | _ => none }
def beatBoundsRow : OpenClaim := { program := "ytjihegbffhhcaaa", sum := "dc6f395ca1dee4c38ced0af1f35c8fc04a9d605fe92ad02906e5d22204bcb3ee", func := "anil/anillaw03.BeatBounds", spec := "beatBounds", unfollowed := true, recurses := true, plainKeys := false, apart := false }
def BeatBoundsSaid : Prop := beatBoundsRow.holds Try.pinned (OpenSpec.ofChange beatBoundsSpec)

/-- ITS FALSE NEIGHBOUR: 'it returns false'. Refute it at one input. -/
def beatBoundsWrong : ChangeSpec := { name := "beatBounds", fn := fun _ => fun
  | [d1, d2, d3] => { results := [.lit (.bool false)], args := [d1, d2, d3] }
  | _ => none }
def BeatBoundsWrongFalsely : Prop := beatBoundsRow.holds Try.pinned (OpenSpec.ofChange beatBoundsWrong)

/-- 'anillaw03.BeatLosses': WHATEVER THE INPUT: true; the input reads as it did. -/
def beatLossesSpec : ChangeSpec := { name := "beatLosses", fn := fun _ => fun
  | [d1, d2] => { results := [.lit (.bool true)], args := [d1, d2] }
  | _ => none }
def beatLossesRow : OpenClaim := { program := "ytjihegbffhhcaaa", sum := "dc6f395ca1dee4c38ced0af1f35c8fc04a9d605fe92ad02906e5d22204bcb3ee", func := "anil/anillaw03.BeatLosses", spec := "beatLosses", unfollowed := true, recurses := true, plainKeys := false, apart := false }
def BeatLossesSaid : Prop := beatLossesRow.holds Try.pinned (OpenSpec.ofChange beatLossesSpec)

/-- ITS FALSE NEIGHBOUR: 'it returns false'. Refute it at one input. -/
def beatLossesWrong : ChangeSpec := { name := "beatLosses", fn := fun _ => fun
  | [d1, d2] => { results := [.lit (.bool false)], args := [d1, d2] }
  | _ => none }
def BeatLossesWrongFalsely : Prop := beatLossesRow.holds Try.pinned (OpenSpec.ofChange beatLossesWrong)

/-- 'anillaw03.BeatBest': WHATEVER THE INPUT: true; the input reads as it did. -/
def beatBestSpec : ChangeSpec := { name := "beatBest", fn := fun _ => fun
  | [d1, d2, d3] => { results := [.lit (.bool true)], args := [d1, d2, d3] }
  | _ => none }
def beatBestRow : OpenClaim := { program := "ytjihegbffhhcaaa", sum := "dc6f395ca1dee4c38ced0af1f35c8fc04a9d605fe92ad02906e5d22204bcb3ee", func := "anil/anillaw03.BeatBest", spec := "beatBest", unfollowed := true, recurses := true, plainKeys := false, apart := false }
def BeatBestSaid : Prop := beatBestRow.holds Try.pinned (OpenSpec.ofChange beatBestSpec)

/-- ITS FALSE NEIGHBOUR: 'it returns false'. Refute it at one input. -/
def beatBestWrong : ChangeSpec := { name := "beatBest", fn := fun _ => fun
  | [d1, d2, d3] => { results := [.lit (.bool false)], args := [d1, d2, d3] }
  | _ => none }
def BeatBestWrongFalsely : Prop := beatBestRow.holds Try.pinned (OpenSpec.ofChange beatBestWrong)

/-- 'anillaw03.BeatAsks': WHATEVER THE INPUT: true; the input reads as it did. -/
def beatAsksSpec : ChangeSpec := { name := "beatAsks", fn := fun _ => fun
  | [d] => { results := [.lit (.bool true)], args := [d] }
  | _ => none }
def beatAsksRow : OpenClaim := { program := "ytjihegbffhhcaaa", sum := "dc6f395ca1dee4c38ced0af1f35c8fc04a9d605fe92ad02906e5d22204bcb3ee", func := "anil/anillaw03.BeatAsks", spec := "beatAsks", unfollowed := true, recurses := true, plainKeys := false, apart := false }
def BeatAsksSaid : Prop := beatAsksRow.holds Try.pinned (OpenSpec.ofChange beatAsksSpec)

/-- ITS FALSE NEIGHBOUR: 'it returns false'. Refute it at one input. -/
def beatAsksWrong : ChangeSpec := { name := "beatAsks", fn := fun _ => fun
  | [d] => { results := [.lit (.bool false)], args := [d] }
  | _ => none }
def BeatAsksWrongFalsely : Prop := beatAsksRow.holds Try.pinned (OpenSpec.ofChange beatAsksWrong)

/-- 'anillaw03.BeatLeaves': WHATEVER THE INPUT: true; the input reads as it did. -/
def beatLeavesSpec : ChangeSpec := { name := "beatLeaves", fn := fun _ => fun
  | [d] => { results := [.lit (.bool true)], args := [d] }
  | _ => none }
def beatLeavesRow : OpenClaim := { program := "ytjihegbffhhcaaa", sum := "dc6f395ca1dee4c38ced0af1f35c8fc04a9d605fe92ad02906e5d22204bcb3ee", func := "anil/anillaw03.BeatLeaves", spec := "beatLeaves", unfollowed := true, recurses := true, plainKeys := false, apart := false }
def BeatLeavesSaid : Prop := beatLeavesRow.holds Try.pinned (OpenSpec.ofChange beatLeavesSpec)

/-- ITS FALSE NEIGHBOUR: 'it returns false'. Refute it at one input. -/
def beatLeavesWrong : ChangeSpec := { name := "beatLeaves", fn := fun _ => fun
  | [d] => { results := [.lit (.bool false)], args := [d] }
  | _ => none }
def BeatLeavesWrongFalsely : Prop := beatLeavesRow.holds Try.pinned (OpenSpec.ofChange beatLeavesWrong)

/-- 'anillaw03.BeatNames': WHATEVER THE INPUT: true; the input reads as it did. -/
def beatNamesSpec : ChangeSpec := { name := "beatNames", fn := fun _ => fun
  | [] => { results := [.lit (.bool true)], args := [] }
  | _ => none }
def beatNamesRow : OpenClaim := { program := "ytjihegbffhhcaaa", sum := "dc6f395ca1dee4c38ced0af1f35c8fc04a9d605fe92ad02906e5d22204bcb3ee", func := "anil/anillaw03.BeatNames", spec := "beatNames", unfollowed := true, recurses := true, plainKeys := false, apart := false }
def BeatNamesSaid : Prop := beatNamesRow.holds Try.pinned (OpenSpec.ofChange beatNamesSpec)

/-- ITS FALSE NEIGHBOUR: 'it returns false'. Refute it at one input. -/
def beatNamesWrong : ChangeSpec := { name := "beatNames", fn := fun _ => fun
  | [] => { results := [.lit (.bool false)], args := [] }
  | _ => none }
def BeatNamesWrongFalsely : Prop := beatNamesRow.holds Try.pinned (OpenSpec.ofChange beatNamesWrong)

/-- 'anillaw03.BeatTruth': WHATEVER THE INPUT: true; the input reads as it did. -/
def beatTruthSpec : ChangeSpec := { name := "beatTruth", fn := fun _ => fun
  | [d1, d2, d3, d4, d5] => { results := [.lit (.bool true)], args := [d1, d2, d3, d4, d5] }
  | _ => none }
def beatTruthRow : OpenClaim := { program := "ytjihegbffhhcaaa", sum := "dc6f395ca1dee4c38ced0af1f35c8fc04a9d605fe92ad02906e5d22204bcb3ee", func := "anil/anillaw03.BeatTruth", spec := "beatTruth", unfollowed := true, recurses := true, plainKeys := false, apart := false }
def BeatTruthSaid : Prop := beatTruthRow.holds Try.pinned (OpenSpec.ofChange beatTruthSpec)

/-- ITS FALSE NEIGHBOUR: 'it returns false'. Refute it at one input. -/
def beatTruthWrong : ChangeSpec := { name := "beatTruth", fn := fun _ => fun
  | [d1, d2, d3, d4, d5] => { results := [.lit (.bool false)], args := [d1, d2, d3, d4, d5] }
  | _ => none }
def BeatTruthWrongFalsely : Prop := beatTruthRow.holds Try.pinned (OpenSpec.ofChange beatTruthWrong)

/-- 'anillaw03.BeatEnds': WHATEVER THE INPUT: true; the input reads as it did. -/
def beatEndsSpec : ChangeSpec := { name := "beatEnds", fn := fun _ => fun
  | [d1, d2] => { results := [.lit (.bool true)], args := [d1, d2] }
  | _ => none }
def beatEndsRow : OpenClaim := { program := "ytjihegbffhhcaaa", sum := "dc6f395ca1dee4c38ced0af1f35c8fc04a9d605fe92ad02906e5d22204bcb3ee", func := "anil/anillaw03.BeatEnds", spec := "beatEnds", unfollowed := true, recurses := true, plainKeys := false, apart := false }
def BeatEndsSaid : Prop := beatEndsRow.holds Try.pinned (OpenSpec.ofChange beatEndsSpec)

/-- ITS FALSE NEIGHBOUR: 'it returns false'. Refute it at one input. -/
def beatEndsWrong : ChangeSpec := { name := "beatEnds", fn := fun _ => fun
  | [d1, d2] => { results := [.lit (.bool false)], args := [d1, d2] }
  | _ => none }
def BeatEndsWrongFalsely : Prop := beatEndsRow.holds Try.pinned (OpenSpec.ofChange beatEndsWrong)

/-- 'anillaw03.BeatOnward': WHATEVER THE INPUT: true; the input reads as it did. -/
def beatOnwardSpec : ChangeSpec := { name := "beatOnward", fn := fun _ => fun
  | [d1, d2] => { results := [.lit (.bool true)], args := [d1, d2] }
  | _ => none }
def beatOnwardRow : OpenClaim := { program := "ytjihegbffhhcaaa", sum := "dc6f395ca1dee4c38ced0af1f35c8fc04a9d605fe92ad02906e5d22204bcb3ee", func := "anil/anillaw03.BeatOnward", spec := "beatOnward", unfollowed := true, recurses := true, plainKeys := false, apart := false }
def BeatOnwardSaid : Prop := beatOnwardRow.holds Try.pinned (OpenSpec.ofChange beatOnwardSpec)

/-- ITS FALSE NEIGHBOUR: 'it returns false'. Refute it at one input. -/
def beatOnwardWrong : ChangeSpec := { name := "beatOnward", fn := fun _ => fun
  | [d1, d2] => { results := [.lit (.bool false)], args := [d1, d2] }
  | _ => none }
def BeatOnwardWrongFalsely : Prop := beatOnwardRow.holds Try.pinned (OpenSpec.ofChange beatOnwardWrong)

/-- 'anillaw03.BeatNoBetter': WHATEVER THE INPUT: true; the input reads as it did. -/
def beatNoBetterSpec : ChangeSpec := { name := "beatNoBetter", fn := fun _ => fun
  | [d1, d2] => { results := [.lit (.bool true)], args := [d1, d2] }
  | _ => none }
def beatNoBetterRow : OpenClaim := { program := "ytjihegbffhhcaaa", sum := "dc6f395ca1dee4c38ced0af1f35c8fc04a9d605fe92ad02906e5d22204bcb3ee", func := "anil/anillaw03.BeatNoBetter", spec := "beatNoBetter", unfollowed := true, recurses := true, plainKeys := false, apart := false }
def BeatNoBetterSaid : Prop := beatNoBetterRow.holds Try.pinned (OpenSpec.ofChange beatNoBetterSpec)

/-- ITS FALSE NEIGHBOUR: 'it returns false'. Refute it at one input. -/
def beatNoBetterWrong : ChangeSpec := { name := "beatNoBetter", fn := fun _ => fun
  | [d1, d2] => { results := [.lit (.bool false)], args := [d1, d2] }
  | _ => none }
def BeatNoBetterWrongFalsely : Prop := beatNoBetterRow.holds Try.pinned (OpenSpec.ofChange beatNoBetterWrong)

/-- 'anillaw03.BeatKnown': WHATEVER THE INPUT: true; the input reads as it did. -/
def beatKnownSpec : ChangeSpec := { name := "beatKnown", fn := fun _ => fun
  | [d1, d2] => { results := [.lit (.bool true)], args := [d1, d2] }
  | _ => none }
def beatKnownRow : OpenClaim := { program := "ytjihegbffhhcaaa", sum := "dc6f395ca1dee4c38ced0af1f35c8fc04a9d605fe92ad02906e5d22204bcb3ee", func := "anil/anillaw03.BeatKnown", spec := "beatKnown", unfollowed := true, recurses := true, plainKeys := false, apart := false }
def BeatKnownSaid : Prop := beatKnownRow.holds Try.pinned (OpenSpec.ofChange beatKnownSpec)

/-- ITS FALSE NEIGHBOUR: 'it returns false'. Refute it at one input. -/
def beatKnownWrong : ChangeSpec := { name := "beatKnown", fn := fun _ => fun
  | [d1, d2] => { results := [.lit (.bool false)], args := [d1, d2] }
  | _ => none }
def BeatKnownWrongFalsely : Prop := beatKnownRow.holds Try.pinned (OpenSpec.ofChange beatKnownWrong)

/-- 'anillaw03.BeatAlone': WHATEVER THE INPUT: true; the input reads as it did. -/
def beatAloneSpec : ChangeSpec := { name := "beatAlone", fn := fun _ => fun
  | [d] => { results := [.lit (.bool true)], args := [d] }
  | _ => none }
def beatAloneRow : OpenClaim := { program := "ytjihegbffhhcaaa", sum := "dc6f395ca1dee4c38ced0af1f35c8fc04a9d605fe92ad02906e5d22204bcb3ee", func := "anil/anillaw03.BeatAlone", spec := "beatAlone", unfollowed := true, recurses := true, plainKeys := false, apart := false }
def BeatAloneSaid : Prop := beatAloneRow.holds Try.pinned (OpenSpec.ofChange beatAloneSpec)

/-- ITS FALSE NEIGHBOUR: 'it returns false'. Refute it at one input. -/
def beatAloneWrong : ChangeSpec := { name := "beatAlone", fn := fun _ => fun
  | [d] => { results := [.lit (.bool false)], args := [d] }
  | _ => none }
def BeatAloneWrongFalsely : Prop := beatAloneRow.holds Try.pinned (OpenSpec.ofChange beatAloneWrong)

/-- 'anillaw03.BeatWorth': WHATEVER THE INPUT: true; the input reads as it did. -/
def beatWorthSpec : ChangeSpec := { name := "beatWorth", fn := fun _ => fun
  | [d1, d2, d3] => { results := [.lit (.bool true)], args := [d1, d2, d3] }
  | _ => none }
def beatWorthRow : OpenClaim := { program := "ytjihegbffhhcaaa", sum := "dc6f395ca1dee4c38ced0af1f35c8fc04a9d605fe92ad02906e5d22204bcb3ee", func := "anil/anillaw03.BeatWorth", spec := "beatWorth", unfollowed := true, recurses := true, plainKeys := false, apart := false }
def BeatWorthSaid : Prop := beatWorthRow.holds Try.pinned (OpenSpec.ofChange beatWorthSpec)

/-- ITS FALSE NEIGHBOUR: 'it returns false'. Refute it at one input. -/
def beatWorthWrong : ChangeSpec := { name := "beatWorth", fn := fun _ => fun
  | [d1, d2, d3] => { results := [.lit (.bool false)], args := [d1, d2, d3] }
  | _ => none }
def BeatWorthWrongFalsely : Prop := beatWorthRow.holds Try.pinned (OpenSpec.ofChange beatWorthWrong)

/-- 'anillaw03.BeatLess': WHATEVER THE INPUT: true; the input reads as it did. -/
def beatLessSpec : ChangeSpec := { name := "beatLess", fn := fun _ => fun
  | [d1, d2, d3] => { results := [.lit (.bool true)], args := [d1, d2, d3] }
  | _ => none }
def beatLessRow : OpenClaim := { program := "ytjihegbffhhcaaa", sum := "dc6f395ca1dee4c38ced0af1f35c8fc04a9d605fe92ad02906e5d22204bcb3ee", func := "anil/anillaw03.BeatLess", spec := "beatLess", unfollowed := true, recurses := true, plainKeys := false, apart := false }
def BeatLessSaid : Prop := beatLessRow.holds Try.pinned (OpenSpec.ofChange beatLessSpec)

/-- ITS FALSE NEIGHBOUR: 'it returns false'. Refute it at one input. -/
def beatLessWrong : ChangeSpec := { name := "beatLess", fn := fun _ => fun
  | [d1, d2, d3] => { results := [.lit (.bool false)], args := [d1, d2, d3] }
  | _ => none }
def BeatLessWrongFalsely : Prop := beatLessRow.holds Try.pinned (OpenSpec.ofChange beatLessWrong)

/-- 'anillaw03.BeatMore': WHATEVER THE INPUT: true; the input reads as it did. -/
def beatMoreSpec : ChangeSpec := { name := "beatMore", fn := fun _ => fun
  | [d1, d2] => { results := [.lit (.bool true)], args := [d1, d2] }
  | _ => none }
def beatMoreRow : OpenClaim := { program := "ytjihegbffhhcaaa", sum := "dc6f395ca1dee4c38ced0af1f35c8fc04a9d605fe92ad02906e5d22204bcb3ee", func := "anil/anillaw03.BeatMore", spec := "beatMore", unfollowed := true, recurses := true, plainKeys := false, apart := false }
def BeatMoreSaid : Prop := beatMoreRow.holds Try.pinned (OpenSpec.ofChange beatMoreSpec)

/-- ITS FALSE NEIGHBOUR: 'it returns false'. Refute it at one input. -/
def beatMoreWrong : ChangeSpec := { name := "beatMore", fn := fun _ => fun
  | [d1, d2] => { results := [.lit (.bool false)], args := [d1, d2] }
  | _ => none }
def BeatMoreWrongFalsely : Prop := beatMoreRow.holds Try.pinned (OpenSpec.ofChange beatMoreWrong)

/-- 'anillaw03.BeatWider': WHATEVER THE INPUT: true; the input reads as it did. -/
def beatWiderSpec : ChangeSpec := { name := "beatWider", fn := fun _ => fun
  | [d1, d2, d3] => { results := [.lit (.bool true)], args := [d1, d2, d3] }
  | _ => none }
def beatWiderRow : OpenClaim := { program := "ytjihegbffhhcaaa", sum := "dc6f395ca1dee4c38ced0af1f35c8fc04a9d605fe92ad02906e5d22204bcb3ee", func := "anil/anillaw03.BeatWider", spec := "beatWider", unfollowed := true, recurses := true, plainKeys := false, apart := false }
def BeatWiderSaid : Prop := beatWiderRow.holds Try.pinned (OpenSpec.ofChange beatWiderSpec)

/-- ITS FALSE NEIGHBOUR: 'it returns false'. Refute it at one input. -/
def beatWiderWrong : ChangeSpec := { name := "beatWider", fn := fun _ => fun
  | [d1, d2, d3] => { results := [.lit (.bool false)], args := [d1, d2, d3] }
  | _ => none }
def BeatWiderWrongFalsely : Prop := beatWiderRow.holds Try.pinned (OpenSpec.ofChange beatWiderWrong)

/-- 'anillaw03.BeatLonger': WHATEVER THE INPUT: true; the input reads as it did. -/
def beatLongerSpec : ChangeSpec := { name := "beatLonger", fn := fun _ => fun
  | [d] => { results := [.lit (.bool true)], args := [d] }
  | _ => none }
def beatLongerRow : OpenClaim := { program := "ytjihegbffhhcaaa", sum := "dc6f395ca1dee4c38ced0af1f35c8fc04a9d605fe92ad02906e5d22204bcb3ee", func := "anil/anillaw03.BeatLonger", spec := "beatLonger", unfollowed := true, recurses := true, plainKeys := false, apart := false }
def BeatLongerSaid : Prop := beatLongerRow.holds Try.pinned (OpenSpec.ofChange beatLongerSpec)

/-- ITS FALSE NEIGHBOUR: 'it returns false'. Refute it at one input. -/
def beatLongerWrong : ChangeSpec := { name := "beatLonger", fn := fun _ => fun
  | [d] => { results := [.lit (.bool false)], args := [d] }
  | _ => none }
def BeatLongerWrongFalsely : Prop := beatLongerRow.holds Try.pinned (OpenSpec.ofChange beatLongerWrong)

/-- 'anillaw03.BeatFirst': WHATEVER THE INPUT: true; the input reads as it did. -/
def beatFirstSpec : ChangeSpec := { name := "beatFirst", fn := fun _ => fun
  | [d] => { results := [.lit (.bool true)], args := [d] }
  | _ => none }
def beatFirstRow : OpenClaim := { program := "ytjihegbffhhcaaa", sum := "dc6f395ca1dee4c38ced0af1f35c8fc04a9d605fe92ad02906e5d22204bcb3ee", func := "anil/anillaw03.BeatFirst", spec := "beatFirst", unfollowed := true, recurses := true, plainKeys := false, apart := false }
def BeatFirstSaid : Prop := beatFirstRow.holds Try.pinned (OpenSpec.ofChange beatFirstSpec)

/-- ITS FALSE NEIGHBOUR: 'it returns false'. Refute it at one input. -/
def beatFirstWrong : ChangeSpec := { name := "beatFirst", fn := fun _ => fun
  | [d] => { results := [.lit (.bool false)], args := [d] }
  | _ => none }
def BeatFirstWrongFalsely : Prop := beatFirstRow.holds Try.pinned (OpenSpec.ofChange beatFirstWrong)

/-- 'anillaw03.BeatLeft': WHATEVER THE INPUT: true; the input reads as it did. -/
def beatLeftSpec : ChangeSpec := { name := "beatLeft", fn := fun _ => fun
  | [d1, d2] => { results := [.lit (.bool true)], args := [d1, d2] }
  | _ => none }
def beatLeftRow : OpenClaim := { program := "ytjihegbffhhcaaa", sum := "dc6f395ca1dee4c38ced0af1f35c8fc04a9d605fe92ad02906e5d22204bcb3ee", func := "anil/anillaw03.BeatLeft", spec := "beatLeft", unfollowed := true, recurses := true, plainKeys := false, apart := false }
def BeatLeftSaid : Prop := beatLeftRow.holds Try.pinned (OpenSpec.ofChange beatLeftSpec)

/-- ITS FALSE NEIGHBOUR: 'it returns false'. Refute it at one input. -/
def beatLeftWrong : ChangeSpec := { name := "beatLeft", fn := fun _ => fun
  | [d1, d2] => { results := [.lit (.bool false)], args := [d1, d2] }
  | _ => none }
def BeatLeftWrongFalsely : Prop := beatLeftRow.holds Try.pinned (OpenSpec.ofChange beatLeftWrong)

/- THE SECOND FORM. 'bulk': how many values and letters a reading holds, each counted each time it is reached (what is shared counts as often as it is met; a slice's spare places count too). A statement '..UptoSaid' is the law's where the arguments, and the package variables that the reading takes, are together of bulk at most 1048576: NARROWER than '..Said'. Prove '..Said' where nothing that the law and all that it calls make is longer than what came in: it says more and counts as full. Else prove '..UptoSaid'. A law counts once. -/
mutual
def uptoBulk {H : Type} : DataW H → Nat
  | .lit (.string bytes) => bytes.length + 1
  | .lit _ => 1
  | .nil => 1
  | .ptr d => uptoBulk d + 1
  | .slice elems spare => uptoBulkAll elems + uptoBulkAll spare + 1
  | .agg parts => uptoBulkAll parts + 1
  | .iface _ d => uptoBulk d + 1
  | .map entries => uptoBulkEntries entries + 1
  | .held _ => 1
def uptoBulkAll {H : Type} : List (DataW H) → Nat
  | [] => 0
  | d :: r => uptoBulk d + uptoBulkAll r
def uptoBulkEntries {H : Type} : List (Lit × DataW H) → Nat
  | [] => 0
  | x :: r => uptoBulkEntry x + uptoBulkEntries r
def uptoBulkEntry {H : Type} : Lit × DataW H → Nat
  | (.string bytes, d) => bytes.length + uptoBulk d + 1
  | (_, d) => uptoBulk d + 1
 end
def uptoSmall : (H : Type) → List (DataW H) → Bool := fun _ ds => decide (uptoBulkAll ds ≤ 1048576)
def OpenSpec.upto (s : _root_.Go.ChangeSpec) : _root_.Go.OpenSpec := { _root_.Go.OpenSpec.ofChange s with cond := some uptoSmall }

/-- 'anillaw03.BeatPlays', WHERE WHAT IT READS IS OF BULK AT MOST 1048576: true; the input reads as it did. -/
def beatPlaysUptoRow : OpenClaim := { program := "ytjihegbffhhcaaa", sum := "dc6f395ca1dee4c38ced0af1f35c8fc04a9d605fe92ad02906e5d22204bcb3ee", func := "anil/anillaw03.BeatPlays", spec := "beatPlays", unfollowed := true, recurses := true, plainKeys := false, apart := false, narrowed := true }
def BeatPlaysUptoSaid : Prop := beatPlaysUptoRow.holds Try.pinned (OpenSpec.upto beatPlaysSpec)

/-- 'anillaw03.BeatBounds', WHERE WHAT IT READS IS OF BULK AT MOST 1048576: true; the input reads as it did. -/
def beatBoundsUptoRow : OpenClaim := { program := "ytjihegbffhhcaaa", sum := "dc6f395ca1dee4c38ced0af1f35c8fc04a9d605fe92ad02906e5d22204bcb3ee", func := "anil/anillaw03.BeatBounds", spec := "beatBounds", unfollowed := true, recurses := true, plainKeys := false, apart := false, narrowed := true }
def BeatBoundsUptoSaid : Prop := beatBoundsUptoRow.holds Try.pinned (OpenSpec.upto beatBoundsSpec)

/-- 'anillaw03.BeatLosses', WHERE WHAT IT READS IS OF BULK AT MOST 1048576: true; the input reads as it did. -/
def beatLossesUptoRow : OpenClaim := { program := "ytjihegbffhhcaaa", sum := "dc6f395ca1dee4c38ced0af1f35c8fc04a9d605fe92ad02906e5d22204bcb3ee", func := "anil/anillaw03.BeatLosses", spec := "beatLosses", unfollowed := true, recurses := true, plainKeys := false, apart := false, narrowed := true }
def BeatLossesUptoSaid : Prop := beatLossesUptoRow.holds Try.pinned (OpenSpec.upto beatLossesSpec)

/-- 'anillaw03.BeatBest', WHERE WHAT IT READS IS OF BULK AT MOST 1048576: true; the input reads as it did. -/
def beatBestUptoRow : OpenClaim := { program := "ytjihegbffhhcaaa", sum := "dc6f395ca1dee4c38ced0af1f35c8fc04a9d605fe92ad02906e5d22204bcb3ee", func := "anil/anillaw03.BeatBest", spec := "beatBest", unfollowed := true, recurses := true, plainKeys := false, apart := false, narrowed := true }
def BeatBestUptoSaid : Prop := beatBestUptoRow.holds Try.pinned (OpenSpec.upto beatBestSpec)

/-- 'anillaw03.BeatAsks', WHERE WHAT IT READS IS OF BULK AT MOST 1048576: true; the input reads as it did. -/
def beatAsksUptoRow : OpenClaim := { program := "ytjihegbffhhcaaa", sum := "dc6f395ca1dee4c38ced0af1f35c8fc04a9d605fe92ad02906e5d22204bcb3ee", func := "anil/anillaw03.BeatAsks", spec := "beatAsks", unfollowed := true, recurses := true, plainKeys := false, apart := false, narrowed := true }
def BeatAsksUptoSaid : Prop := beatAsksUptoRow.holds Try.pinned (OpenSpec.upto beatAsksSpec)

/-- 'anillaw03.BeatLeaves', WHERE WHAT IT READS IS OF BULK AT MOST 1048576: true; the input reads as it did. -/
def beatLeavesUptoRow : OpenClaim := { program := "ytjihegbffhhcaaa", sum := "dc6f395ca1dee4c38ced0af1f35c8fc04a9d605fe92ad02906e5d22204bcb3ee", func := "anil/anillaw03.BeatLeaves", spec := "beatLeaves", unfollowed := true, recurses := true, plainKeys := false, apart := false, narrowed := true }
def BeatLeavesUptoSaid : Prop := beatLeavesUptoRow.holds Try.pinned (OpenSpec.upto beatLeavesSpec)

/-- 'anillaw03.BeatNames', WHERE WHAT IT READS IS OF BULK AT MOST 1048576: true; the input reads as it did. -/
def beatNamesUptoRow : OpenClaim := { program := "ytjihegbffhhcaaa", sum := "dc6f395ca1dee4c38ced0af1f35c8fc04a9d605fe92ad02906e5d22204bcb3ee", func := "anil/anillaw03.BeatNames", spec := "beatNames", unfollowed := true, recurses := true, plainKeys := false, apart := false, narrowed := true }
def BeatNamesUptoSaid : Prop := beatNamesUptoRow.holds Try.pinned (OpenSpec.upto beatNamesSpec)

/-- 'anillaw03.BeatTruth', WHERE WHAT IT READS IS OF BULK AT MOST 1048576: true; the input reads as it did. -/
def beatTruthUptoRow : OpenClaim := { program := "ytjihegbffhhcaaa", sum := "dc6f395ca1dee4c38ced0af1f35c8fc04a9d605fe92ad02906e5d22204bcb3ee", func := "anil/anillaw03.BeatTruth", spec := "beatTruth", unfollowed := true, recurses := true, plainKeys := false, apart := false, narrowed := true }
def BeatTruthUptoSaid : Prop := beatTruthUptoRow.holds Try.pinned (OpenSpec.upto beatTruthSpec)

/-- 'anillaw03.BeatEnds', WHERE WHAT IT READS IS OF BULK AT MOST 1048576: true; the input reads as it did. -/
def beatEndsUptoRow : OpenClaim := { program := "ytjihegbffhhcaaa", sum := "dc6f395ca1dee4c38ced0af1f35c8fc04a9d605fe92ad02906e5d22204bcb3ee", func := "anil/anillaw03.BeatEnds", spec := "beatEnds", unfollowed := true, recurses := true, plainKeys := false, apart := false, narrowed := true }
def BeatEndsUptoSaid : Prop := beatEndsUptoRow.holds Try.pinned (OpenSpec.upto beatEndsSpec)

/-- 'anillaw03.BeatOnward', WHERE WHAT IT READS IS OF BULK AT MOST 1048576: true; the input reads as it did. -/
def beatOnwardUptoRow : OpenClaim := { program := "ytjihegbffhhcaaa", sum := "dc6f395ca1dee4c38ced0af1f35c8fc04a9d605fe92ad02906e5d22204bcb3ee", func := "anil/anillaw03.BeatOnward", spec := "beatOnward", unfollowed := true, recurses := true, plainKeys := false, apart := false, narrowed := true }
def BeatOnwardUptoSaid : Prop := beatOnwardUptoRow.holds Try.pinned (OpenSpec.upto beatOnwardSpec)

/-- 'anillaw03.BeatNoBetter', WHERE WHAT IT READS IS OF BULK AT MOST 1048576: true; the input reads as it did. -/
def beatNoBetterUptoRow : OpenClaim := { program := "ytjihegbffhhcaaa", sum := "dc6f395ca1dee4c38ced0af1f35c8fc04a9d605fe92ad02906e5d22204bcb3ee", func := "anil/anillaw03.BeatNoBetter", spec := "beatNoBetter", unfollowed := true, recurses := true, plainKeys := false, apart := false, narrowed := true }
def BeatNoBetterUptoSaid : Prop := beatNoBetterUptoRow.holds Try.pinned (OpenSpec.upto beatNoBetterSpec)

/-- 'anillaw03.BeatKnown', WHERE WHAT IT READS IS OF BULK AT MOST 1048576: true; the input reads as it did. -/
def beatKnownUptoRow : OpenClaim := { program := "ytjihegbffhhcaaa", sum := "dc6f395ca1dee4c38ced0af1f35c8fc04a9d605fe92ad02906e5d22204bcb3ee", func := "anil/anillaw03.BeatKnown", spec := "beatKnown", unfollowed := true, recurses := true, plainKeys := false, apart := false, narrowed := true }
def BeatKnownUptoSaid : Prop := beatKnownUptoRow.holds Try.pinned (OpenSpec.upto beatKnownSpec)

/-- 'anillaw03.BeatAlone', WHERE WHAT IT READS IS OF BULK AT MOST 1048576: true; the input reads as it did. -/
def beatAloneUptoRow : OpenClaim := { program := "ytjihegbffhhcaaa", sum := "dc6f395ca1dee4c38ced0af1f35c8fc04a9d605fe92ad02906e5d22204bcb3ee", func := "anil/anillaw03.BeatAlone", spec := "beatAlone", unfollowed := true, recurses := true, plainKeys := false, apart := false, narrowed := true }
def BeatAloneUptoSaid : Prop := beatAloneUptoRow.holds Try.pinned (OpenSpec.upto beatAloneSpec)

/-- 'anillaw03.BeatWorth', WHERE WHAT IT READS IS OF BULK AT MOST 1048576: true; the input reads as it did. -/
def beatWorthUptoRow : OpenClaim := { program := "ytjihegbffhhcaaa", sum := "dc6f395ca1dee4c38ced0af1f35c8fc04a9d605fe92ad02906e5d22204bcb3ee", func := "anil/anillaw03.BeatWorth", spec := "beatWorth", unfollowed := true, recurses := true, plainKeys := false, apart := false, narrowed := true }
def BeatWorthUptoSaid : Prop := beatWorthUptoRow.holds Try.pinned (OpenSpec.upto beatWorthSpec)

/-- 'anillaw03.BeatLess', WHERE WHAT IT READS IS OF BULK AT MOST 1048576: true; the input reads as it did. -/
def beatLessUptoRow : OpenClaim := { program := "ytjihegbffhhcaaa", sum := "dc6f395ca1dee4c38ced0af1f35c8fc04a9d605fe92ad02906e5d22204bcb3ee", func := "anil/anillaw03.BeatLess", spec := "beatLess", unfollowed := true, recurses := true, plainKeys := false, apart := false, narrowed := true }
def BeatLessUptoSaid : Prop := beatLessUptoRow.holds Try.pinned (OpenSpec.upto beatLessSpec)

/-- 'anillaw03.BeatMore', WHERE WHAT IT READS IS OF BULK AT MOST 1048576: true; the input reads as it did. -/
def beatMoreUptoRow : OpenClaim := { program := "ytjihegbffhhcaaa", sum := "dc6f395ca1dee4c38ced0af1f35c8fc04a9d605fe92ad02906e5d22204bcb3ee", func := "anil/anillaw03.BeatMore", spec := "beatMore", unfollowed := true, recurses := true, plainKeys := false, apart := false, narrowed := true }
def BeatMoreUptoSaid : Prop := beatMoreUptoRow.holds Try.pinned (OpenSpec.upto beatMoreSpec)

/-- 'anillaw03.BeatWider', WHERE WHAT IT READS IS OF BULK AT MOST 1048576: true; the input reads as it did. -/
def beatWiderUptoRow : OpenClaim := { program := "ytjihegbffhhcaaa", sum := "dc6f395ca1dee4c38ced0af1f35c8fc04a9d605fe92ad02906e5d22204bcb3ee", func := "anil/anillaw03.BeatWider", spec := "beatWider", unfollowed := true, recurses := true, plainKeys := false, apart := false, narrowed := true }
def BeatWiderUptoSaid : Prop := beatWiderUptoRow.holds Try.pinned (OpenSpec.upto beatWiderSpec)

/-- 'anillaw03.BeatLonger', WHERE WHAT IT READS IS OF BULK AT MOST 1048576: true; the input reads as it did. -/
def beatLongerUptoRow : OpenClaim := { program := "ytjihegbffhhcaaa", sum := "dc6f395ca1dee4c38ced0af1f35c8fc04a9d605fe92ad02906e5d22204bcb3ee", func := "anil/anillaw03.BeatLonger", spec := "beatLonger", unfollowed := true, recurses := true, plainKeys := false, apart := false, narrowed := true }
def BeatLongerUptoSaid : Prop := beatLongerUptoRow.holds Try.pinned (OpenSpec.upto beatLongerSpec)

/-- 'anillaw03.BeatFirst', WHERE WHAT IT READS IS OF BULK AT MOST 1048576: true; the input reads as it did. -/
def beatFirstUptoRow : OpenClaim := { program := "ytjihegbffhhcaaa", sum := "dc6f395ca1dee4c38ced0af1f35c8fc04a9d605fe92ad02906e5d22204bcb3ee", func := "anil/anillaw03.BeatFirst", spec := "beatFirst", unfollowed := true, recurses := true, plainKeys := false, apart := false, narrowed := true }
def BeatFirstUptoSaid : Prop := beatFirstUptoRow.holds Try.pinned (OpenSpec.upto beatFirstSpec)

/-- 'anillaw03.BeatLeft', WHERE WHAT IT READS IS OF BULK AT MOST 1048576: true; the input reads as it did. -/
def beatLeftUptoRow : OpenClaim := { program := "ytjihegbffhhcaaa", sum := "dc6f395ca1dee4c38ced0af1f35c8fc04a9d605fe92ad02906e5d22204bcb3ee", func := "anil/anillaw03.BeatLeft", spec := "beatLeft", unfollowed := true, recurses := true, plainKeys := false, apart := false, narrowed := true }
def BeatLeftUptoSaid : Prop := beatLeftUptoRow.holds Try.pinned (OpenSpec.upto beatLeftSpec)

end Rows
end Go.Proofs.Ytjihegbffhhcaaa
