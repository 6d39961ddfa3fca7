/-
  No cell of these rows narrows 'for every input' (looked for: loops, veiled, ifaces, maps, wideKeys, modest, calm, conditions, laid).
  DERIVED. THE GIVEN ROWS OF THIS SEAT. 20 by the template 'for every input the law returns true; each argument reads behind the call as it read before'; 0 by the template 'total and deterministic' (their statements: YtffgdpkogokdhaaTotals.lean).
  GIVEN WITH THE SEED: the statements are not yours to turn. If you find one false, say at which input.
  Laid BY PROGRAM, IN A SANDBOX (cutbox-rows.mjs): the forced cells as the released guide's own fill.sh prints them over the translation 63a7ccf3b7749ba7… (all of the seat's roots in one cut). By AI agents, Wed Nov 11 2026. No macro, syntax, notation, axiom, sorry.
-/
import Derived.Test.YtffgdpkogokdhaaChecked
import GoSem.Claim
import GoSem.ClaimJoined
import GoSem.ClaimMapViews
import Derived.JoinedTies
import Derived.KernelRfl
namespace Go.Proofs.Ytffgdpkogokdhaa
/- THE CELL 'sum', in the pinned program and in every row, IS THE sha256 OF THE DUMP (.gsa) THAT YtffgdpkogokdhaaProg.lean LOADS. Nothing in Lean hashes anything: it is a label: what it is worth is what the hold of that sum in a sandbox is worth. -/
noncomputable def Try.pinned : Pinned := { name := "ytffgdpkogokdhaa", sum := "63a7ccf3b7749ba7656231d478cbbe24ee9e2e3d6eb4cee47e6d64dde65ebad3", checked := Try.checked }
namespace Rows
def none {H : Type} : Left H := { results := [], args := [] }

/-- 'anillaw02.SteepPlays': WHATEVER THE INPUT: true; the input reads as it did. -/
def steepPlaysSpec : ChangeSpec := { name := "steepPlays", fn := fun _ => fun
  | [d1, d2] => { results := [.lit (.bool true)], args := [d1, d2] }
  | _ => none }
def steepPlaysRow : OpenClaim := { program := "ytffgdpkogokdhaa", sum := "63a7ccf3b7749ba7656231d478cbbe24ee9e2e3d6eb4cee47e6d64dde65ebad3", func := "anil/anillaw02.SteepPlays", spec := "steepPlays", unfollowed := true, recurses := true, plainKeys := false, apart := false }
def SteepPlaysSaid : Prop := steepPlaysRow.holds Try.pinned (OpenSpec.ofChange steepPlaysSpec)

/-- ITS FALSE NEIGHBOUR: 'it returns false'. Refute it at one input. -/
def steepPlaysWrong : ChangeSpec := { name := "steepPlays", fn := fun _ => fun
  | [d1, d2] => { results := [.lit (.bool false)], args := [d1, d2] }
  | _ => none }
def SteepPlaysWrongFalsely : Prop := steepPlaysRow.holds Try.pinned (OpenSpec.ofChange steepPlaysWrong)

/-- 'anillaw02.SteepOut': WHATEVER THE INPUT: true; the input reads as it did. -/
def steepOutSpec : ChangeSpec := { name := "steepOut", fn := fun _ => fun
  | [d1, d2] => { results := [.lit (.bool true)], args := [d1, d2] }
  | _ => none }
def steepOutRow : OpenClaim := { program := "ytffgdpkogokdhaa", sum := "63a7ccf3b7749ba7656231d478cbbe24ee9e2e3d6eb4cee47e6d64dde65ebad3", func := "anil/anillaw02.SteepOut", spec := "steepOut", unfollowed := true, recurses := true, plainKeys := false, apart := false }
def SteepOutSaid : Prop := steepOutRow.holds Try.pinned (OpenSpec.ofChange steepOutSpec)

/-- ITS FALSE NEIGHBOUR: 'it returns false'. Refute it at one input. -/
def steepOutWrong : ChangeSpec := { name := "steepOut", fn := fun _ => fun
  | [d1, d2] => { results := [.lit (.bool false)], args := [d1, d2] }
  | _ => none }
def SteepOutWrongFalsely : Prop := steepOutRow.holds Try.pinned (OpenSpec.ofChange steepOutWrong)

/-- 'anillaw02.SteepRight': WHATEVER THE INPUT: true; the input reads as it did. -/
def steepRightSpec : ChangeSpec := { name := "steepRight", fn := fun _ => fun
  | [d1, d2, d3] => { results := [.lit (.bool true)], args := [d1, d2, d3] }
  | _ => none }
def steepRightRow : OpenClaim := { program := "ytffgdpkogokdhaa", sum := "63a7ccf3b7749ba7656231d478cbbe24ee9e2e3d6eb4cee47e6d64dde65ebad3", func := "anil/anillaw02.SteepRight", spec := "steepRight", unfollowed := true, recurses := true, plainKeys := false, apart := false }
def SteepRightSaid : Prop := steepRightRow.holds Try.pinned (OpenSpec.ofChange steepRightSpec)

/-- ITS FALSE NEIGHBOUR: 'it returns false'. Refute it at one input. -/
def steepRightWrong : ChangeSpec := { name := "steepRight", fn := fun _ => fun
  | [d1, d2, d3] => { results := [.lit (.bool false)], args := [d1, d2, d3] }
  | _ => none }
def SteepRightWrongFalsely : Prop := steepRightRow.holds Try.pinned (OpenSpec.ofChange steepRightWrong)

/-- 'anillaw02.SteepGood': WHATEVER THE INPUT: true; the input reads as it did. -/
def steepGoodSpec : ChangeSpec := { name := "steepGood", fn := fun _ => fun
  | [d1, d2] => { results := [.lit (.bool true)], args := [d1, d2] }
  | _ => none }
def steepGoodRow : OpenClaim := { program := "ytffgdpkogokdhaa", sum := "63a7ccf3b7749ba7656231d478cbbe24ee9e2e3d6eb4cee47e6d64dde65ebad3", func := "anil/anillaw02.SteepGood", spec := "steepGood", unfollowed := true, recurses := true, plainKeys := false, apart := false }
def SteepGoodSaid : Prop := steepGoodRow.holds Try.pinned (OpenSpec.ofChange steepGoodSpec)

/-- ITS FALSE NEIGHBOUR: 'it returns false'. Refute it at one input. -/
def steepGoodWrong : ChangeSpec := { name := "steepGood", fn := fun _ => fun
  | [d1, d2] => { results := [.lit (.bool false)], args := [d1, d2] }
  | _ => none }
def SteepGoodWrongFalsely : Prop := steepGoodRow.holds Try.pinned (OpenSpec.ofChange steepGoodWrong)

/-- 'anillaw02.SteepStuck': WHATEVER THE INPUT: true; the input reads as it did. -/
def steepStuckSpec : ChangeSpec := { name := "steepStuck", fn := fun _ => fun
  | [d] => { results := [.lit (.bool true)], args := [d] }
  | _ => none }
def steepStuckRow : OpenClaim := { program := "ytffgdpkogokdhaa", sum := "63a7ccf3b7749ba7656231d478cbbe24ee9e2e3d6eb4cee47e6d64dde65ebad3", func := "anil/anillaw02.SteepStuck", spec := "steepStuck", unfollowed := true, recurses := true, plainKeys := false, apart := false }
def SteepStuckSaid : Prop := steepStuckRow.holds Try.pinned (OpenSpec.ofChange steepStuckSpec)

/-- ITS FALSE NEIGHBOUR: 'it returns false'. Refute it at one input. -/
def steepStuckWrong : ChangeSpec := { name := "steepStuck", fn := fun _ => fun
  | [d] => { results := [.lit (.bool false)], args := [d] }
  | _ => none }
def SteepStuckWrongFalsely : Prop := steepStuckRow.holds Try.pinned (OpenSpec.ofChange steepStuckWrong)

/-- 'anillaw02.SteepAsks': WHATEVER THE INPUT: true; the input reads as it did. -/
def steepAsksSpec : ChangeSpec := { name := "steepAsks", fn := fun _ => fun
  | [d] => { results := [.lit (.bool true)], args := [d] }
  | _ => none }
def steepAsksRow : OpenClaim := { program := "ytffgdpkogokdhaa", sum := "63a7ccf3b7749ba7656231d478cbbe24ee9e2e3d6eb4cee47e6d64dde65ebad3", func := "anil/anillaw02.SteepAsks", spec := "steepAsks", unfollowed := true, recurses := true, plainKeys := false, apart := false }
def SteepAsksSaid : Prop := steepAsksRow.holds Try.pinned (OpenSpec.ofChange steepAsksSpec)

/-- ITS FALSE NEIGHBOUR: 'it returns false'. Refute it at one input. -/
def steepAsksWrong : ChangeSpec := { name := "steepAsks", fn := fun _ => fun
  | [d] => { results := [.lit (.bool false)], args := [d] }
  | _ => none }
def SteepAsksWrongFalsely : Prop := steepAsksRow.holds Try.pinned (OpenSpec.ofChange steepAsksWrong)

/-- 'anillaw02.SteepLeaves': WHATEVER THE INPUT: true; the input reads as it did. -/
def steepLeavesSpec : ChangeSpec := { name := "steepLeaves", fn := fun _ => fun
  | [d] => { results := [.lit (.bool true)], args := [d] }
  | _ => none }
def steepLeavesRow : OpenClaim := { program := "ytffgdpkogokdhaa", sum := "63a7ccf3b7749ba7656231d478cbbe24ee9e2e3d6eb4cee47e6d64dde65ebad3", func := "anil/anillaw02.SteepLeaves", spec := "steepLeaves", unfollowed := true, recurses := true, plainKeys := false, apart := false }
def SteepLeavesSaid : Prop := steepLeavesRow.holds Try.pinned (OpenSpec.ofChange steepLeavesSpec)

/-- ITS FALSE NEIGHBOUR: 'it returns false'. Refute it at one input. -/
def steepLeavesWrong : ChangeSpec := { name := "steepLeaves", fn := fun _ => fun
  | [d] => { results := [.lit (.bool false)], args := [d] }
  | _ => none }
def SteepLeavesWrongFalsely : Prop := steepLeavesRow.holds Try.pinned (OpenSpec.ofChange steepLeavesWrong)

/-- 'anillaw02.SteepNames': WHATEVER THE INPUT: true; the input reads as it did. -/
def steepNamesSpec : ChangeSpec := { name := "steepNames", fn := fun _ => fun
  | [] => { results := [.lit (.bool true)], args := [] }
  | _ => none }
def steepNamesRow : OpenClaim := { program := "ytffgdpkogokdhaa", sum := "63a7ccf3b7749ba7656231d478cbbe24ee9e2e3d6eb4cee47e6d64dde65ebad3", func := "anil/anillaw02.SteepNames", spec := "steepNames", unfollowed := true, recurses := true, plainKeys := false, apart := false }
def SteepNamesSaid : Prop := steepNamesRow.holds Try.pinned (OpenSpec.ofChange steepNamesSpec)

/-- ITS FALSE NEIGHBOUR: 'it returns false'. Refute it at one input. -/
def steepNamesWrong : ChangeSpec := { name := "steepNames", fn := fun _ => fun
  | [] => { results := [.lit (.bool false)], args := [] }
  | _ => none }
def SteepNamesWrongFalsely : Prop := steepNamesRow.holds Try.pinned (OpenSpec.ofChange steepNamesWrong)

/-- 'anillaw02.SteepTruth': WHATEVER THE INPUT: true; the input reads as it did. -/
def steepTruthSpec : ChangeSpec := { name := "steepTruth", fn := fun _ => fun
  | [d1, d2, d3] => { results := [.lit (.bool true)], args := [d1, d2, d3] }
  | _ => none }
def steepTruthRow : OpenClaim := { program := "ytffgdpkogokdhaa", sum := "63a7ccf3b7749ba7656231d478cbbe24ee9e2e3d6eb4cee47e6d64dde65ebad3", func := "anil/anillaw02.SteepTruth", spec := "steepTruth", unfollowed := true, recurses := true, plainKeys := false, apart := false }
def SteepTruthSaid : Prop := steepTruthRow.holds Try.pinned (OpenSpec.ofChange steepTruthSpec)

/-- ITS FALSE NEIGHBOUR: 'it returns false'. Refute it at one input. -/
def steepTruthWrong : ChangeSpec := { name := "steepTruth", fn := fun _ => fun
  | [d1, d2, d3] => { results := [.lit (.bool false)], args := [d1, d2, d3] }
  | _ => none }
def SteepTruthWrongFalsely : Prop := steepTruthRow.holds Try.pinned (OpenSpec.ofChange steepTruthWrong)

/-- 'anillaw02.SteepEnds': WHATEVER THE INPUT: true; the input reads as it did. -/
def steepEndsSpec : ChangeSpec := { name := "steepEnds", fn := fun _ => fun
  | [d1, d2, d3] => { results := [.lit (.bool true)], args := [d1, d2, d3] }
  | _ => none }
def steepEndsRow : OpenClaim := { program := "ytffgdpkogokdhaa", sum := "63a7ccf3b7749ba7656231d478cbbe24ee9e2e3d6eb4cee47e6d64dde65ebad3", func := "anil/anillaw02.SteepEnds", spec := "steepEnds", unfollowed := true, recurses := true, plainKeys := false, apart := false }
def SteepEndsSaid : Prop := steepEndsRow.holds Try.pinned (OpenSpec.ofChange steepEndsSpec)

/-- ITS FALSE NEIGHBOUR: 'it returns false'. Refute it at one input. -/
def steepEndsWrong : ChangeSpec := { name := "steepEnds", fn := fun _ => fun
  | [d1, d2, d3] => { results := [.lit (.bool false)], args := [d1, d2, d3] }
  | _ => none }
def SteepEndsWrongFalsely : Prop := steepEndsRow.holds Try.pinned (OpenSpec.ofChange steepEndsWrong)

/-- 'anillaw02.SteepOnward': WHATEVER THE INPUT: true; the input reads as it did. -/
def steepOnwardSpec : ChangeSpec := { name := "steepOnward", fn := fun _ => fun
  | [d1, d2] => { results := [.lit (.bool true)], args := [d1, d2] }
  | _ => none }
def steepOnwardRow : OpenClaim := { program := "ytffgdpkogokdhaa", sum := "63a7ccf3b7749ba7656231d478cbbe24ee9e2e3d6eb4cee47e6d64dde65ebad3", func := "anil/anillaw02.SteepOnward", spec := "steepOnward", unfollowed := true, recurses := true, plainKeys := false, apart := false }
def SteepOnwardSaid : Prop := steepOnwardRow.holds Try.pinned (OpenSpec.ofChange steepOnwardSpec)

/-- ITS FALSE NEIGHBOUR: 'it returns false'. Refute it at one input. -/
def steepOnwardWrong : ChangeSpec := { name := "steepOnward", fn := fun _ => fun
  | [d1, d2] => { results := [.lit (.bool false)], args := [d1, d2] }
  | _ => none }
def SteepOnwardWrongFalsely : Prop := steepOnwardRow.holds Try.pinned (OpenSpec.ofChange steepOnwardWrong)

/-- 'anillaw02.SteepWarmer': WHATEVER THE INPUT: true; the input reads as it did. -/
def steepWarmerSpec : ChangeSpec := { name := "steepWarmer", fn := fun _ => fun
  | [d1, d2, d3, d4] => { results := [.lit (.bool true)], args := [d1, d2, d3, d4] }
  | _ => none }
def steepWarmerRow : OpenClaim := { program := "ytffgdpkogokdhaa", sum := "63a7ccf3b7749ba7656231d478cbbe24ee9e2e3d6eb4cee47e6d64dde65ebad3", func := "anil/anillaw02.SteepWarmer", spec := "steepWarmer", unfollowed := true, recurses := true, plainKeys := false, apart := false }
def SteepWarmerSaid : Prop := steepWarmerRow.holds Try.pinned (OpenSpec.ofChange steepWarmerSpec)

/-- ITS FALSE NEIGHBOUR: 'it returns false'. Refute it at one input. -/
def steepWarmerWrong : ChangeSpec := { name := "steepWarmer", fn := fun _ => fun
  | [d1, d2, d3, d4] => { results := [.lit (.bool false)], args := [d1, d2, d3, d4] }
  | _ => none }
def SteepWarmerWrongFalsely : Prop := steepWarmerRow.holds Try.pinned (OpenSpec.ofChange steepWarmerWrong)

/-- 'anillaw02.SteepLater': WHATEVER THE INPUT: true; the input reads as it did. -/
def steepLaterSpec : ChangeSpec := { name := "steepLater", fn := fun _ => fun
  | [d1, d2, d3, d4] => { results := [.lit (.bool true)], args := [d1, d2, d3, d4] }
  | _ => none }
def steepLaterRow : OpenClaim := { program := "ytffgdpkogokdhaa", sum := "63a7ccf3b7749ba7656231d478cbbe24ee9e2e3d6eb4cee47e6d64dde65ebad3", func := "anil/anillaw02.SteepLater", spec := "steepLater", unfollowed := true, recurses := true, plainKeys := false, apart := false }
def SteepLaterSaid : Prop := steepLaterRow.holds Try.pinned (OpenSpec.ofChange steepLaterSpec)

/-- ITS FALSE NEIGHBOUR: 'it returns false'. Refute it at one input. -/
def steepLaterWrong : ChangeSpec := { name := "steepLater", fn := fun _ => fun
  | [d1, d2, d3, d4] => { results := [.lit (.bool false)], args := [d1, d2, d3, d4] }
  | _ => none }
def SteepLaterWrongFalsely : Prop := steepLaterRow.holds Try.pinned (OpenSpec.ofChange steepLaterWrong)

/-- 'anillaw02.SteepMore': WHATEVER THE INPUT: true; the input reads as it did. -/
def steepMoreSpec : ChangeSpec := { name := "steepMore", fn := fun _ => fun
  | [d1, d2, d3, d4] => { results := [.lit (.bool true)], args := [d1, d2, d3, d4] }
  | _ => none }
def steepMoreRow : OpenClaim := { program := "ytffgdpkogokdhaa", sum := "63a7ccf3b7749ba7656231d478cbbe24ee9e2e3d6eb4cee47e6d64dde65ebad3", func := "anil/anillaw02.SteepMore", spec := "steepMore", unfollowed := true, recurses := true, plainKeys := false, apart := false }
def SteepMoreSaid : Prop := steepMoreRow.holds Try.pinned (OpenSpec.ofChange steepMoreSpec)

/-- ITS FALSE NEIGHBOUR: 'it returns false'. Refute it at one input. -/
def steepMoreWrong : ChangeSpec := { name := "steepMore", fn := fun _ => fun
  | [d1, d2, d3, d4] => { results := [.lit (.bool false)], args := [d1, d2, d3, d4] }
  | _ => none }
def SteepMoreWrongFalsely : Prop := steepMoreRow.holds Try.pinned (OpenSpec.ofChange steepMoreWrong)

/-- 'anillaw02.SteepWider': WHATEVER THE INPUT: true; the input reads as it did. -/
def steepWiderSpec : ChangeSpec := { name := "steepWider", fn := fun _ => fun
  | [d1, d2, d3, d4] => { results := [.lit (.bool true)], args := [d1, d2, d3, d4] }
  | _ => none }
def steepWiderRow : OpenClaim := { program := "ytffgdpkogokdhaa", sum := "63a7ccf3b7749ba7656231d478cbbe24ee9e2e3d6eb4cee47e6d64dde65ebad3", func := "anil/anillaw02.SteepWider", spec := "steepWider", unfollowed := true, recurses := true, plainKeys := false, apart := false }
def SteepWiderSaid : Prop := steepWiderRow.holds Try.pinned (OpenSpec.ofChange steepWiderSpec)

/-- ITS FALSE NEIGHBOUR: 'it returns false'. Refute it at one input. -/
def steepWiderWrong : ChangeSpec := { name := "steepWider", fn := fun _ => fun
  | [d1, d2, d3, d4] => { results := [.lit (.bool false)], args := [d1, d2, d3, d4] }
  | _ => none }
def SteepWiderWrongFalsely : Prop := steepWiderRow.holds Try.pinned (OpenSpec.ofChange steepWiderWrong)

/-- 'anillaw02.SteepLess': WHATEVER THE INPUT: true; the input reads as it did. -/
def steepLessSpec : ChangeSpec := { name := "steepLess", fn := fun _ => fun
  | [d1, d2, d3] => { results := [.lit (.bool true)], args := [d1, d2, d3] }
  | _ => none }
def steepLessRow : OpenClaim := { program := "ytffgdpkogokdhaa", sum := "63a7ccf3b7749ba7656231d478cbbe24ee9e2e3d6eb4cee47e6d64dde65ebad3", func := "anil/anillaw02.SteepLess", spec := "steepLess", unfollowed := true, recurses := true, plainKeys := false, apart := false }
def SteepLessSaid : Prop := steepLessRow.holds Try.pinned (OpenSpec.ofChange steepLessSpec)

/-- ITS FALSE NEIGHBOUR: 'it returns false'. Refute it at one input. -/
def steepLessWrong : ChangeSpec := { name := "steepLess", fn := fun _ => fun
  | [d1, d2, d3] => { results := [.lit (.bool false)], args := [d1, d2, d3] }
  | _ => none }
def SteepLessWrongFalsely : Prop := steepLessRow.holds Try.pinned (OpenSpec.ofChange steepLessWrong)

/-- 'anillaw02.SteepAsked': WHATEVER THE INPUT: true; the input reads as it did. -/
def steepAskedSpec : ChangeSpec := { name := "steepAsked", fn := fun _ => fun
  | [d1, d2, d3, d4] => { results := [.lit (.bool true)], args := [d1, d2, d3, d4] }
  | _ => none }
def steepAskedRow : OpenClaim := { program := "ytffgdpkogokdhaa", sum := "63a7ccf3b7749ba7656231d478cbbe24ee9e2e3d6eb4cee47e6d64dde65ebad3", func := "anil/anillaw02.SteepAsked", spec := "steepAsked", unfollowed := true, recurses := true, plainKeys := false, apart := false }
def SteepAskedSaid : Prop := steepAskedRow.holds Try.pinned (OpenSpec.ofChange steepAskedSpec)

/-- ITS FALSE NEIGHBOUR: 'it returns false'. Refute it at one input. -/
def steepAskedWrong : ChangeSpec := { name := "steepAsked", fn := fun _ => fun
  | [d1, d2, d3, d4] => { results := [.lit (.bool false)], args := [d1, d2, d3, d4] }
  | _ => none }
def SteepAskedWrongFalsely : Prop := steepAskedRow.holds Try.pinned (OpenSpec.ofChange steepAskedWrong)

/-- 'anillaw02.SteepTurned': WHATEVER THE INPUT: true; the input reads as it did. -/
def steepTurnedSpec : ChangeSpec := { name := "steepTurned", fn := fun _ => fun
  | [d1, d2, d3] => { results := [.lit (.bool true)], args := [d1, d2, d3] }
  | _ => none }
def steepTurnedRow : OpenClaim := { program := "ytffgdpkogokdhaa", sum := "63a7ccf3b7749ba7656231d478cbbe24ee9e2e3d6eb4cee47e6d64dde65ebad3", func := "anil/anillaw02.SteepTurned", spec := "steepTurned", unfollowed := true, recurses := true, plainKeys := false, apart := false }
def SteepTurnedSaid : Prop := steepTurnedRow.holds Try.pinned (OpenSpec.ofChange steepTurnedSpec)

/-- ITS FALSE NEIGHBOUR: 'it returns false'. Refute it at one input. -/
def steepTurnedWrong : ChangeSpec := { name := "steepTurned", fn := fun _ => fun
  | [d1, d2, d3] => { results := [.lit (.bool false)], args := [d1, d2, d3] }
  | _ => none }
def SteepTurnedWrongFalsely : Prop := steepTurnedRow.holds Try.pinned (OpenSpec.ofChange steepTurnedWrong)

/-- 'anillaw02.SteepFirst': WHATEVER THE INPUT: true; the input reads as it did. -/
def steepFirstSpec : ChangeSpec := { name := "steepFirst", fn := fun _ => fun
  | [d] => { results := [.lit (.bool true)], args := [d] }
  | _ => none }
def steepFirstRow : OpenClaim := { program := "ytffgdpkogokdhaa", sum := "63a7ccf3b7749ba7656231d478cbbe24ee9e2e3d6eb4cee47e6d64dde65ebad3", func := "anil/anillaw02.SteepFirst", spec := "steepFirst", unfollowed := true, recurses := true, plainKeys := false, apart := false }
def SteepFirstSaid : Prop := steepFirstRow.holds Try.pinned (OpenSpec.ofChange steepFirstSpec)

/-- ITS FALSE NEIGHBOUR: 'it returns false'. Refute it at one input. -/
def steepFirstWrong : ChangeSpec := { name := "steepFirst", fn := fun _ => fun
  | [d] => { results := [.lit (.bool false)], args := [d] }
  | _ => none }
def SteepFirstWrongFalsely : Prop := steepFirstRow.holds Try.pinned (OpenSpec.ofChange steepFirstWrong)

/-- 'anillaw02.SteepLeft': WHATEVER THE INPUT: true; the input reads as it did. -/
def steepLeftSpec : ChangeSpec := { name := "steepLeft", fn := fun _ => fun
  | [d1, d2] => { results := [.lit (.bool true)], args := [d1, d2] }
  | _ => none }
def steepLeftRow : OpenClaim := { program := "ytffgdpkogokdhaa", sum := "63a7ccf3b7749ba7656231d478cbbe24ee9e2e3d6eb4cee47e6d64dde65ebad3", func := "anil/anillaw02.SteepLeft", spec := "steepLeft", unfollowed := true, recurses := true, plainKeys := false, apart := false }
def SteepLeftSaid : Prop := steepLeftRow.holds Try.pinned (OpenSpec.ofChange steepLeftSpec)

/-- ITS FALSE NEIGHBOUR: 'it returns false'. Refute it at one input. -/
def steepLeftWrong : ChangeSpec := { name := "steepLeft", fn := fun _ => fun
  | [d1, d2] => { results := [.lit (.bool false)], args := [d1, d2] }
  | _ => none }
def SteepLeftWrongFalsely : Prop := steepLeftRow.holds Try.pinned (OpenSpec.ofChange steepLeftWrong)

/- THE SECOND FORM. 'bulk': how many values and letters a reading holds, each counted each time it is reached (what is shared counts as often as it is met; a slice's spare places count too). A statement '..UptoSaid' is the law's where the arguments, and the package variables that the reading takes, are together of bulk at most 1048576: NARROWER than '..Said'. Prove '..Said' where nothing that the law and all that it calls make is longer than what came in: it says more and counts as full. Else prove '..UptoSaid'. A law counts once. -/
mutual
def uptoBulk {H : Type} : DataW H → Nat
  | .lit (.string bytes) => bytes.length + 1
  | .lit _ => 1
  | .nil => 1
  | .ptr d => uptoBulk d + 1
  | .slice elems spare => uptoBulkAll elems + uptoBulkAll spare + 1
  | .agg parts => uptoBulkAll parts + 1
  | .iface _ d => uptoBulk d + 1
  | .map entries => uptoBulkEntries entries + 1
  | .held _ => 1
def uptoBulkAll {H : Type} : List (DataW H) → Nat
  | [] => 0
  | d :: r => uptoBulk d + uptoBulkAll r
def uptoBulkEntries {H : Type} : List (Lit × DataW H) → Nat
  | [] => 0
  | x :: r => uptoBulkEntry x + uptoBulkEntries r
def uptoBulkEntry {H : Type} : Lit × DataW H → Nat
  | (.string bytes, d) => bytes.length + uptoBulk d + 1
  | (_, d) => uptoBulk d + 1
 end
def uptoSmall : (H : Type) → List (DataW H) → Bool := fun _ ds => decide (uptoBulkAll ds ≤ 1048576)
def OpenSpec.upto (s : _root_.Go.ChangeSpec) : _root_.Go.OpenSpec := { _root_.Go.OpenSpec.ofChange s with cond := some uptoSmall }

/-- 'anillaw02.SteepPlays', WHERE WHAT IT READS IS OF BULK AT MOST 1048576: true; the input reads as it did. -/
def steepPlaysUptoRow : OpenClaim := { program := "ytffgdpkogokdhaa", sum := "63a7ccf3b7749ba7656231d478cbbe24ee9e2e3d6eb4cee47e6d64dde65ebad3", func := "anil/anillaw02.SteepPlays", spec := "steepPlays", unfollowed := true, recurses := true, plainKeys := false, apart := false, narrowed := true }
def SteepPlaysUptoSaid : Prop := steepPlaysUptoRow.holds Try.pinned (OpenSpec.upto steepPlaysSpec)

/-- 'anillaw02.SteepOut', WHERE WHAT IT READS IS OF BULK AT MOST 1048576: true; the input reads as it did. -/
def steepOutUptoRow : OpenClaim := { program := "ytffgdpkogokdhaa", sum := "63a7ccf3b7749ba7656231d478cbbe24ee9e2e3d6eb4cee47e6d64dde65ebad3", func := "anil/anillaw02.SteepOut", spec := "steepOut", unfollowed := true, recurses := true, plainKeys := false, apart := false, narrowed := true }
def SteepOutUptoSaid : Prop := steepOutUptoRow.holds Try.pinned (OpenSpec.upto steepOutSpec)

/-- 'anillaw02.SteepRight', WHERE WHAT IT READS IS OF BULK AT MOST 1048576: true; the input reads as it did. -/
def steepRightUptoRow : OpenClaim := { program := "ytffgdpkogokdhaa", sum := "63a7ccf3b7749ba7656231d478cbbe24ee9e2e3d6eb4cee47e6d64dde65ebad3", func := "anil/anillaw02.SteepRight", spec := "steepRight", unfollowed := true, recurses := true, plainKeys := false, apart := false, narrowed := true }
def SteepRightUptoSaid : Prop := steepRightUptoRow.holds Try.pinned (OpenSpec.upto steepRightSpec)

/-- 'anillaw02.SteepGood', WHERE WHAT IT READS IS OF BULK AT MOST 1048576: true; the input reads as it did. -/
def steepGoodUptoRow : OpenClaim := { program := "ytffgdpkogokdhaa", sum := "63a7ccf3b7749ba7656231d478cbbe24ee9e2e3d6eb4cee47e6d64dde65ebad3", func := "anil/anillaw02.SteepGood", spec := "steepGood", unfollowed := true, recurses := true, plainKeys := false, apart := false, narrowed := true }
def SteepGoodUptoSaid : Prop := steepGoodUptoRow.holds Try.pinned (OpenSpec.upto steepGoodSpec)

/-- 'anillaw02.SteepStuck', WHERE WHAT IT READS IS OF BULK AT MOST 1048576: true; the input reads as it did. -/
def steepStuckUptoRow : OpenClaim := { program := "ytffgdpkogokdhaa", sum := "63a7ccf3b7749ba7656231d478cbbe24ee9e2e3d6eb4cee47e6d64dde65ebad3", func := "anil/anillaw02.SteepStuck", spec := "steepStuck", unfollowed := true, recurses := true, plainKeys := false, apart := false, narrowed := true }
def SteepStuckUptoSaid : Prop := steepStuckUptoRow.holds Try.pinned (OpenSpec.upto steepStuckSpec)

/-- 'anillaw02.SteepAsks', WHERE WHAT IT READS IS OF BULK AT MOST 1048576: true; the input reads as it did. -/
def steepAsksUptoRow : OpenClaim := { program := "ytffgdpkogokdhaa", sum := "63a7ccf3b7749ba7656231d478cbbe24ee9e2e3d6eb4cee47e6d64dde65ebad3", func := "anil/anillaw02.SteepAsks", spec := "steepAsks", unfollowed := true, recurses := true, plainKeys := false, apart := false, narrowed := true }
def SteepAsksUptoSaid : Prop := steepAsksUptoRow.holds Try.pinned (OpenSpec.upto steepAsksSpec)

/-- 'anillaw02.SteepLeaves', WHERE WHAT IT READS IS OF BULK AT MOST 1048576: true; the input reads as it did. -/
def steepLeavesUptoRow : OpenClaim := { program := "ytffgdpkogokdhaa", sum := "63a7ccf3b7749ba7656231d478cbbe24ee9e2e3d6eb4cee47e6d64dde65ebad3", func := "anil/anillaw02.SteepLeaves", spec := "steepLeaves", unfollowed := true, recurses := true, plainKeys := false, apart := false, narrowed := true }
def SteepLeavesUptoSaid : Prop := steepLeavesUptoRow.holds Try.pinned (OpenSpec.upto steepLeavesSpec)

/-- 'anillaw02.SteepNames', WHERE WHAT IT READS IS OF BULK AT MOST 1048576: true; the input reads as it did. -/
def steepNamesUptoRow : OpenClaim := { program := "ytffgdpkogokdhaa", sum := "63a7ccf3b7749ba7656231d478cbbe24ee9e2e3d6eb4cee47e6d64dde65ebad3", func := "anil/anillaw02.SteepNames", spec := "steepNames", unfollowed := true, recurses := true, plainKeys := false, apart := false, narrowed := true }
def SteepNamesUptoSaid : Prop := steepNamesUptoRow.holds Try.pinned (OpenSpec.upto steepNamesSpec)

/-- 'anillaw02.SteepTruth', WHERE WHAT IT READS IS OF BULK AT MOST 1048576: true; the input reads as it did. -/
def steepTruthUptoRow : OpenClaim := { program := "ytffgdpkogokdhaa", sum := "63a7ccf3b7749ba7656231d478cbbe24ee9e2e3d6eb4cee47e6d64dde65ebad3", func := "anil/anillaw02.SteepTruth", spec := "steepTruth", unfollowed := true, recurses := true, plainKeys := false, apart := false, narrowed := true }
def SteepTruthUptoSaid : Prop := steepTruthUptoRow.holds Try.pinned (OpenSpec.upto steepTruthSpec)

/-- 'anillaw02.SteepEnds', WHERE WHAT IT READS IS OF BULK AT MOST 1048576: true; the input reads as it did. -/
def steepEndsUptoRow : OpenClaim := { program := "ytffgdpkogokdhaa", sum := "63a7ccf3b7749ba7656231d478cbbe24ee9e2e3d6eb4cee47e6d64dde65ebad3", func := "anil/anillaw02.SteepEnds", spec := "steepEnds", unfollowed := true, recurses := true, plainKeys := false, apart := false, narrowed := true }
def SteepEndsUptoSaid : Prop := steepEndsUptoRow.holds Try.pinned (OpenSpec.upto steepEndsSpec)

/-- 'anillaw02.SteepOnward', WHERE WHAT IT READS IS OF BULK AT MOST 1048576: true; the input reads as it did. -/
def steepOnwardUptoRow : OpenClaim := { program := "ytffgdpkogokdhaa", sum := "63a7ccf3b7749ba7656231d478cbbe24ee9e2e3d6eb4cee47e6d64dde65ebad3", func := "anil/anillaw02.SteepOnward", spec := "steepOnward", unfollowed := true, recurses := true, plainKeys := false, apart := false, narrowed := true }
def SteepOnwardUptoSaid : Prop := steepOnwardUptoRow.holds Try.pinned (OpenSpec.upto steepOnwardSpec)

/-- 'anillaw02.SteepWarmer', WHERE WHAT IT READS IS OF BULK AT MOST 1048576: true; the input reads as it did. -/
def steepWarmerUptoRow : OpenClaim := { program := "ytffgdpkogokdhaa", sum := "63a7ccf3b7749ba7656231d478cbbe24ee9e2e3d6eb4cee47e6d64dde65ebad3", func := "anil/anillaw02.SteepWarmer", spec := "steepWarmer", unfollowed := true, recurses := true, plainKeys := false, apart := false, narrowed := true }
def SteepWarmerUptoSaid : Prop := steepWarmerUptoRow.holds Try.pinned (OpenSpec.upto steepWarmerSpec)

/-- 'anillaw02.SteepLater', WHERE WHAT IT READS IS OF BULK AT MOST 1048576: true; the input reads as it did. -/
def steepLaterUptoRow : OpenClaim := { program := "ytffgdpkogokdhaa", sum := "63a7ccf3b7749ba7656231d478cbbe24ee9e2e3d6eb4cee47e6d64dde65ebad3", func := "anil/anillaw02.SteepLater", spec := "steepLater", unfollowed := true, recurses := true, plainKeys := false, apart := false, narrowed := true }
def SteepLaterUptoSaid : Prop := steepLaterUptoRow.holds Try.pinned (OpenSpec.upto steepLaterSpec)

/-- 'anillaw02.SteepMore', WHERE WHAT IT READS IS OF BULK AT MOST 1048576: true; the input reads as it did. -/
def steepMoreUptoRow : OpenClaim := { program := "ytffgdpkogokdhaa", sum := "63a7ccf3b7749ba7656231d478cbbe24ee9e2e3d6eb4cee47e6d64dde65ebad3", func := "anil/anillaw02.SteepMore", spec := "steepMore", unfollowed := true, recurses := true, plainKeys := false, apart := false, narrowed := true }
def SteepMoreUptoSaid : Prop := steepMoreUptoRow.holds Try.pinned (OpenSpec.upto steepMoreSpec)

/-- 'anillaw02.SteepWider', WHERE WHAT IT READS IS OF BULK AT MOST 1048576: true; the input reads as it did. -/
def steepWiderUptoRow : OpenClaim := { program := "ytffgdpkogokdhaa", sum := "63a7ccf3b7749ba7656231d478cbbe24ee9e2e3d6eb4cee47e6d64dde65ebad3", func := "anil/anillaw02.SteepWider", spec := "steepWider", unfollowed := true, recurses := true, plainKeys := false, apart := false, narrowed := true }
def SteepWiderUptoSaid : Prop := steepWiderUptoRow.holds Try.pinned (OpenSpec.upto steepWiderSpec)

/-- 'anillaw02.SteepLess', WHERE WHAT IT READS IS OF BULK AT MOST 1048576: true; the input reads as it did. -/
def steepLessUptoRow : OpenClaim := { program := "ytffgdpkogokdhaa", sum := "63a7ccf3b7749ba7656231d478cbbe24ee9e2e3d6eb4cee47e6d64dde65ebad3", func := "anil/anillaw02.SteepLess", spec := "steepLess", unfollowed := true, recurses := true, plainKeys := false, apart := false, narrowed := true }
def SteepLessUptoSaid : Prop := steepLessUptoRow.holds Try.pinned (OpenSpec.upto steepLessSpec)

/-- 'anillaw02.SteepAsked', WHERE WHAT IT READS IS OF BULK AT MOST 1048576: true; the input reads as it did. -/
def steepAskedUptoRow : OpenClaim := { program := "ytffgdpkogokdhaa", sum := "63a7ccf3b7749ba7656231d478cbbe24ee9e2e3d6eb4cee47e6d64dde65ebad3", func := "anil/anillaw02.SteepAsked", spec := "steepAsked", unfollowed := true, recurses := true, plainKeys := false, apart := false, narrowed := true }
def SteepAskedUptoSaid : Prop := steepAskedUptoRow.holds Try.pinned (OpenSpec.upto steepAskedSpec)

/-- 'anillaw02.SteepTurned', WHERE WHAT IT READS IS OF BULK AT MOST 1048576: true; the input reads as it did. -/
def steepTurnedUptoRow : OpenClaim := { program := "ytffgdpkogokdhaa", sum := "63a7ccf3b7749ba7656231d478cbbe24ee9e2e3d6eb4cee47e6d64dde65ebad3", func := "anil/anillaw02.SteepTurned", spec := "steepTurned", unfollowed := true, recurses := true, plainKeys := false, apart := false, narrowed := true }
def SteepTurnedUptoSaid : Prop := steepTurnedUptoRow.holds Try.pinned (OpenSpec.upto steepTurnedSpec)

/-- 'anillaw02.SteepFirst', WHERE WHAT IT READS IS OF BULK AT MOST 1048576: true; the input reads as it did. -/
def steepFirstUptoRow : OpenClaim := { program := "ytffgdpkogokdhaa", sum := "63a7ccf3b7749ba7656231d478cbbe24ee9e2e3d6eb4cee47e6d64dde65ebad3", func := "anil/anillaw02.SteepFirst", spec := "steepFirst", unfollowed := true, recurses := true, plainKeys := false, apart := false, narrowed := true }
def SteepFirstUptoSaid : Prop := steepFirstUptoRow.holds Try.pinned (OpenSpec.upto steepFirstSpec)

/-- 'anillaw02.SteepLeft', WHERE WHAT IT READS IS OF BULK AT MOST 1048576: true; the input reads as it did. -/
def steepLeftUptoRow : OpenClaim := { program := "ytffgdpkogokdhaa", sum := "63a7ccf3b7749ba7656231d478cbbe24ee9e2e3d6eb4cee47e6d64dde65ebad3", func := "anil/anillaw02.SteepLeft", spec := "steepLeft", unfollowed := true, recurses := true, plainKeys := false, apart := false, narrowed := true }
def SteepLeftUptoSaid : Prop := steepLeftUptoRow.holds Try.pinned (OpenSpec.upto steepLeftSpec)

end Rows
end Go.Proofs.Ytffgdpkogokdhaa
