/-
  No cell of these rows narrows 'for every input' (looked for: loops, veiled, ifaces, maps, wideKeys, modest, calm, conditions, laid).
  DERIVED. THE GIVEN ROWS OF THIS SEAT. 19 by the template 'for every input the law returns true; each argument reads behind the call as it read before'; 0 by the template 'total and deterministic' (their statements: YtlkambpieajplaaGreatTotals.lean).
  GIVEN WITH THE SEED: the statements are not yours to turn. If you find one false, say at which input.
  Laid BY PROGRAM, IN A SANDBOX (cutbox-rows.mjs): the forced cells as the released guide's own fill.sh prints them over the translation c59b0ba9f61a6b81… (all of the seat's roots in one cut). By AI agents, Wed Nov 11 2026. No macro, syntax, notation, axiom, sorry.
-/
import Derived.Test.YtlkambpieajplaaGreatChecked
import GoSem.Claim
import GoSem.ClaimJoined
import GoSem.ClaimMapViews
import Derived.JoinedTies
import Derived.KernelRfl
namespace Go.Proofs.YtlkambpieajplaaGreat
/- THE CELL 'sum', in the pinned program and in every row, IS THE sha256 OF THE DUMP (.gsa) THAT YtlkambpieajplaaGreatProg.lean LOADS. Nothing in Lean hashes anything: it is a label: what it is worth is what the hold of that sum in a sandbox is worth. -/
noncomputable def Tryz.pinned : Pinned := { name := "ytlkambpieajplaagreat", sum := "c59b0ba9f61a6b8181c3d983aeabe8edc285daa19a1a7ed243b54780de7de247", checked := Tryz.checked }
namespace Rows
def none {H : Type} : Left H := { results := [], args := [] }

/-- 'anillaw04.GangPlays': WHATEVER THE INPUT: true; the input reads as it did. -/
def gangPlaysSpec : ChangeSpec := { name := "gangPlays", fn := fun _ => fun
  | [d1, d2, d3] => { results := [.lit (.bool true)], args := [d1, d2, d3] }
  | _ => none }
def gangPlaysRow : OpenClaim := { program := "ytlkambpieajplaagreat", sum := "c59b0ba9f61a6b8181c3d983aeabe8edc285daa19a1a7ed243b54780de7de247", func := "anil/anillaw04.GangPlays", spec := "gangPlays", unfollowed := true, recurses := true, plainKeys := false, apart := false }
def GangPlaysSaid : Prop := gangPlaysRow.holds Tryz.pinned (OpenSpec.ofChange gangPlaysSpec)

/-- ITS FALSE NEIGHBOUR: 'it returns false'. Refute it at one input. -/
def gangPlaysWrong : ChangeSpec := { name := "gangPlays", fn := fun _ => fun
  | [d1, d2, d3] => { results := [.lit (.bool false)], args := [d1, d2, d3] }
  | _ => none }
def GangPlaysWrongFalsely : Prop := gangPlaysRow.holds Tryz.pinned (OpenSpec.ofChange gangPlaysWrong)

/-- 'anillaw04.GangBusy': WHATEVER THE INPUT: true; the input reads as it did. -/
def gangBusySpec : ChangeSpec := { name := "gangBusy", fn := fun _ => fun
  | [d1, d2] => { results := [.lit (.bool true)], args := [d1, d2] }
  | _ => none }
def gangBusyRow : OpenClaim := { program := "ytlkambpieajplaagreat", sum := "c59b0ba9f61a6b8181c3d983aeabe8edc285daa19a1a7ed243b54780de7de247", func := "anil/anillaw04.GangBusy", spec := "gangBusy", unfollowed := true, recurses := true, plainKeys := false, apart := false }
def GangBusySaid : Prop := gangBusyRow.holds Tryz.pinned (OpenSpec.ofChange gangBusySpec)

/-- ITS FALSE NEIGHBOUR: 'it returns false'. Refute it at one input. -/
def gangBusyWrong : ChangeSpec := { name := "gangBusy", fn := fun _ => fun
  | [d1, d2] => { results := [.lit (.bool false)], args := [d1, d2] }
  | _ => none }
def GangBusyWrongFalsely : Prop := gangBusyRow.holds Tryz.pinned (OpenSpec.ofChange gangBusyWrong)

/-- 'anillaw04.GangLate': WHATEVER THE INPUT: true; the input reads as it did. -/
def gangLateSpec : ChangeSpec := { name := "gangLate", fn := fun _ => fun
  | [d1, d2] => { results := [.lit (.bool true)], args := [d1, d2] }
  | _ => none }
def gangLateRow : OpenClaim := { program := "ytlkambpieajplaagreat", sum := "c59b0ba9f61a6b8181c3d983aeabe8edc285daa19a1a7ed243b54780de7de247", func := "anil/anillaw04.GangLate", spec := "gangLate", unfollowed := true, recurses := true, plainKeys := false, apart := false }
def GangLateSaid : Prop := gangLateRow.holds Tryz.pinned (OpenSpec.ofChange gangLateSpec)

/-- ITS FALSE NEIGHBOUR: 'it returns false'. Refute it at one input. -/
def gangLateWrong : ChangeSpec := { name := "gangLate", fn := fun _ => fun
  | [d1, d2] => { results := [.lit (.bool false)], args := [d1, d2] }
  | _ => none }
def GangLateWrongFalsely : Prop := gangLateRow.holds Tryz.pinned (OpenSpec.ofChange gangLateWrong)

/-- 'anillaw04.GangBest': WHATEVER THE INPUT: true; the input reads as it did. -/
def gangBestSpec : ChangeSpec := { name := "gangBest", fn := fun _ => fun
  | [d1, d2, d3] => { results := [.lit (.bool true)], args := [d1, d2, d3] }
  | _ => none }
def gangBestRow : OpenClaim := { program := "ytlkambpieajplaagreat", sum := "c59b0ba9f61a6b8181c3d983aeabe8edc285daa19a1a7ed243b54780de7de247", func := "anil/anillaw04.GangBest", spec := "gangBest", unfollowed := true, recurses := true, plainKeys := false, apart := false }
def GangBestSaid : Prop := gangBestRow.holds Tryz.pinned (OpenSpec.ofChange gangBestSpec)

/-- ITS FALSE NEIGHBOUR: 'it returns false'. Refute it at one input. -/
def gangBestWrong : ChangeSpec := { name := "gangBest", fn := fun _ => fun
  | [d1, d2, d3] => { results := [.lit (.bool false)], args := [d1, d2, d3] }
  | _ => none }
def GangBestWrongFalsely : Prop := gangBestRow.holds Tryz.pinned (OpenSpec.ofChange gangBestWrong)

/-- 'anillaw04.GangFewest': WHATEVER THE INPUT: true; the input reads as it did. -/
def gangFewestSpec : ChangeSpec := { name := "gangFewest", fn := fun _ => fun
  | [d] => { results := [.lit (.bool true)], args := [d] }
  | _ => none }
def gangFewestRow : OpenClaim := { program := "ytlkambpieajplaagreat", sum := "c59b0ba9f61a6b8181c3d983aeabe8edc285daa19a1a7ed243b54780de7de247", func := "anil/anillaw04.GangFewest", spec := "gangFewest", unfollowed := true, recurses := true, plainKeys := false, apart := false }
def GangFewestSaid : Prop := gangFewestRow.holds Tryz.pinned (OpenSpec.ofChange gangFewestSpec)

/-- ITS FALSE NEIGHBOUR: 'it returns false'. Refute it at one input. -/
def gangFewestWrong : ChangeSpec := { name := "gangFewest", fn := fun _ => fun
  | [d] => { results := [.lit (.bool false)], args := [d] }
  | _ => none }
def GangFewestWrongFalsely : Prop := gangFewestRow.holds Tryz.pinned (OpenSpec.ofChange gangFewestWrong)

/-- 'anillaw04.GangLeft': WHATEVER THE INPUT: true; the input reads as it did. -/
def gangLeftSpec : ChangeSpec := { name := "gangLeft", fn := fun _ => fun
  | [d] => { results := [.lit (.bool true)], args := [d] }
  | _ => none }
def gangLeftRow : OpenClaim := { program := "ytlkambpieajplaagreat", sum := "c59b0ba9f61a6b8181c3d983aeabe8edc285daa19a1a7ed243b54780de7de247", func := "anil/anillaw04.GangLeft", spec := "gangLeft", unfollowed := true, recurses := true, plainKeys := false, apart := false }
def GangLeftSaid : Prop := gangLeftRow.holds Tryz.pinned (OpenSpec.ofChange gangLeftSpec)

/-- ITS FALSE NEIGHBOUR: 'it returns false'. Refute it at one input. -/
def gangLeftWrong : ChangeSpec := { name := "gangLeft", fn := fun _ => fun
  | [d] => { results := [.lit (.bool false)], args := [d] }
  | _ => none }
def GangLeftWrongFalsely : Prop := gangLeftRow.holds Tryz.pinned (OpenSpec.ofChange gangLeftWrong)

/-- 'anillaw04.GangWorth': WHATEVER THE INPUT: true; the input reads as it did. -/
def gangWorthSpec : ChangeSpec := { name := "gangWorth", fn := fun _ => fun
  | [d] => { results := [.lit (.bool true)], args := [d] }
  | _ => none }
def gangWorthRow : OpenClaim := { program := "ytlkambpieajplaagreat", sum := "c59b0ba9f61a6b8181c3d983aeabe8edc285daa19a1a7ed243b54780de7de247", func := "anil/anillaw04.GangWorth", spec := "gangWorth", unfollowed := true, recurses := true, plainKeys := false, apart := false }
def GangWorthSaid : Prop := gangWorthRow.holds Tryz.pinned (OpenSpec.ofChange gangWorthSpec)

/-- ITS FALSE NEIGHBOUR: 'it returns false'. Refute it at one input. -/
def gangWorthWrong : ChangeSpec := { name := "gangWorth", fn := fun _ => fun
  | [d] => { results := [.lit (.bool false)], args := [d] }
  | _ => none }
def GangWorthWrongFalsely : Prop := gangWorthRow.holds Tryz.pinned (OpenSpec.ofChange gangWorthWrong)

/-- 'anillaw04.GangTruth': WHATEVER THE INPUT: true; the input reads as it did. -/
def gangTruthSpec : ChangeSpec := { name := "gangTruth", fn := fun _ => fun
  | [d1, d2, d3, d4] => { results := [.lit (.bool true)], args := [d1, d2, d3, d4] }
  | _ => none }
def gangTruthRow : OpenClaim := { program := "ytlkambpieajplaagreat", sum := "c59b0ba9f61a6b8181c3d983aeabe8edc285daa19a1a7ed243b54780de7de247", func := "anil/anillaw04.GangTruth", spec := "gangTruth", unfollowed := true, recurses := true, plainKeys := false, apart := false }
def GangTruthSaid : Prop := gangTruthRow.holds Tryz.pinned (OpenSpec.ofChange gangTruthSpec)

/-- ITS FALSE NEIGHBOUR: 'it returns false'. Refute it at one input. -/
def gangTruthWrong : ChangeSpec := { name := "gangTruth", fn := fun _ => fun
  | [d1, d2, d3, d4] => { results := [.lit (.bool false)], args := [d1, d2, d3, d4] }
  | _ => none }
def GangTruthWrongFalsely : Prop := gangTruthRow.holds Tryz.pinned (OpenSpec.ofChange gangTruthWrong)

/-- 'anillaw04.GangEnds': WHATEVER THE INPUT: true; the input reads as it did. -/
def gangEndsSpec : ChangeSpec := { name := "gangEnds", fn := fun _ => fun
  | [d1, d2] => { results := [.lit (.bool true)], args := [d1, d2] }
  | _ => none }
def gangEndsRow : OpenClaim := { program := "ytlkambpieajplaagreat", sum := "c59b0ba9f61a6b8181c3d983aeabe8edc285daa19a1a7ed243b54780de7de247", func := "anil/anillaw04.GangEnds", spec := "gangEnds", unfollowed := true, recurses := true, plainKeys := false, apart := false }
def GangEndsSaid : Prop := gangEndsRow.holds Tryz.pinned (OpenSpec.ofChange gangEndsSpec)

/-- ITS FALSE NEIGHBOUR: 'it returns false'. Refute it at one input. -/
def gangEndsWrong : ChangeSpec := { name := "gangEnds", fn := fun _ => fun
  | [d1, d2] => { results := [.lit (.bool false)], args := [d1, d2] }
  | _ => none }
def GangEndsWrongFalsely : Prop := gangEndsRow.holds Tryz.pinned (OpenSpec.ofChange gangEndsWrong)

/-- 'anillaw04.GangLost': WHATEVER THE INPUT: true; the input reads as it did. -/
def gangLostSpec : ChangeSpec := { name := "gangLost", fn := fun _ => fun
  | [d1, d2, d3] => { results := [.lit (.bool true)], args := [d1, d2, d3] }
  | _ => none }
def gangLostRow : OpenClaim := { program := "ytlkambpieajplaagreat", sum := "c59b0ba9f61a6b8181c3d983aeabe8edc285daa19a1a7ed243b54780de7de247", func := "anil/anillaw04.GangLost", spec := "gangLost", unfollowed := true, recurses := true, plainKeys := false, apart := false }
def GangLostSaid : Prop := gangLostRow.holds Tryz.pinned (OpenSpec.ofChange gangLostSpec)

/-- ITS FALSE NEIGHBOUR: 'it returns false'. Refute it at one input. -/
def gangLostWrong : ChangeSpec := { name := "gangLost", fn := fun _ => fun
  | [d1, d2, d3] => { results := [.lit (.bool false)], args := [d1, d2, d3] }
  | _ => none }
def GangLostWrongFalsely : Prop := gangLostRow.holds Tryz.pinned (OpenSpec.ofChange gangLostWrong)

/-- 'anillaw04.GangNoBetter': WHATEVER THE INPUT: true; the input reads as it did. -/
def gangNoBetterSpec : ChangeSpec := { name := "gangNoBetter", fn := fun _ => fun
  | [d1, d2] => { results := [.lit (.bool true)], args := [d1, d2] }
  | _ => none }
def gangNoBetterRow : OpenClaim := { program := "ytlkambpieajplaagreat", sum := "c59b0ba9f61a6b8181c3d983aeabe8edc285daa19a1a7ed243b54780de7de247", func := "anil/anillaw04.GangNoBetter", spec := "gangNoBetter", unfollowed := true, recurses := true, plainKeys := false, apart := false }
def GangNoBetterSaid : Prop := gangNoBetterRow.holds Tryz.pinned (OpenSpec.ofChange gangNoBetterSpec)

/-- ITS FALSE NEIGHBOUR: 'it returns false'. Refute it at one input. -/
def gangNoBetterWrong : ChangeSpec := { name := "gangNoBetter", fn := fun _ => fun
  | [d1, d2] => { results := [.lit (.bool false)], args := [d1, d2] }
  | _ => none }
def GangNoBetterWrongFalsely : Prop := gangNoBetterRow.holds Tryz.pinned (OpenSpec.ofChange gangNoBetterWrong)

/-- 'anillaw04.GangEnough': WHATEVER THE INPUT: true; the input reads as it did. -/
def gangEnoughSpec : ChangeSpec := { name := "gangEnough", fn := fun _ => fun
  | [d] => { results := [.lit (.bool true)], args := [d] }
  | _ => none }
def gangEnoughRow : OpenClaim := { program := "ytlkambpieajplaagreat", sum := "c59b0ba9f61a6b8181c3d983aeabe8edc285daa19a1a7ed243b54780de7de247", func := "anil/anillaw04.GangEnough", spec := "gangEnough", unfollowed := true, recurses := true, plainKeys := false, apart := false }
def GangEnoughSaid : Prop := gangEnoughRow.holds Tryz.pinned (OpenSpec.ofChange gangEnoughSpec)

/-- ITS FALSE NEIGHBOUR: 'it returns false'. Refute it at one input. -/
def gangEnoughWrong : ChangeSpec := { name := "gangEnough", fn := fun _ => fun
  | [d] => { results := [.lit (.bool false)], args := [d] }
  | _ => none }
def GangEnoughWrongFalsely : Prop := gangEnoughRow.holds Tryz.pinned (OpenSpec.ofChange gangEnoughWrong)

/-- 'anillaw04.GangMore': WHATEVER THE INPUT: true; the input reads as it did. -/
def gangMoreSpec : ChangeSpec := { name := "gangMore", fn := fun _ => fun
  | [d1, d2, d3] => { results := [.lit (.bool true)], args := [d1, d2, d3] }
  | _ => none }
def gangMoreRow : OpenClaim := { program := "ytlkambpieajplaagreat", sum := "c59b0ba9f61a6b8181c3d983aeabe8edc285daa19a1a7ed243b54780de7de247", func := "anil/anillaw04.GangMore", spec := "gangMore", unfollowed := true, recurses := true, plainKeys := false, apart := false }
def GangMoreSaid : Prop := gangMoreRow.holds Tryz.pinned (OpenSpec.ofChange gangMoreSpec)

/-- ITS FALSE NEIGHBOUR: 'it returns false'. Refute it at one input. -/
def gangMoreWrong : ChangeSpec := { name := "gangMore", fn := fun _ => fun
  | [d1, d2, d3] => { results := [.lit (.bool false)], args := [d1, d2, d3] }
  | _ => none }
def GangMoreWrongFalsely : Prop := gangMoreRow.holds Tryz.pinned (OpenSpec.ofChange gangMoreWrong)

/-- 'anillaw04.GangWithout': WHATEVER THE INPUT: true; the input reads as it did. -/
def gangWithoutSpec : ChangeSpec := { name := "gangWithout", fn := fun _ => fun
  | [d1, d2] => { results := [.lit (.bool true)], args := [d1, d2] }
  | _ => none }
def gangWithoutRow : OpenClaim := { program := "ytlkambpieajplaagreat", sum := "c59b0ba9f61a6b8181c3d983aeabe8edc285daa19a1a7ed243b54780de7de247", func := "anil/anillaw04.GangWithout", spec := "gangWithout", unfollowed := true, recurses := true, plainKeys := false, apart := false }
def GangWithoutSaid : Prop := gangWithoutRow.holds Tryz.pinned (OpenSpec.ofChange gangWithoutSpec)

/-- ITS FALSE NEIGHBOUR: 'it returns false'. Refute it at one input. -/
def gangWithoutWrong : ChangeSpec := { name := "gangWithout", fn := fun _ => fun
  | [d1, d2] => { results := [.lit (.bool false)], args := [d1, d2] }
  | _ => none }
def GangWithoutWrongFalsely : Prop := gangWithoutRow.holds Tryz.pinned (OpenSpec.ofChange gangWithoutWrong)

/-- 'anillaw04.GangKnown': WHATEVER THE INPUT: true; the input reads as it did. -/
def gangKnownSpec : ChangeSpec := { name := "gangKnown", fn := fun _ => fun
  | [d1, d2, d3] => { results := [.lit (.bool true)], args := [d1, d2, d3] }
  | _ => none }
def gangKnownRow : OpenClaim := { program := "ytlkambpieajplaagreat", sum := "c59b0ba9f61a6b8181c3d983aeabe8edc285daa19a1a7ed243b54780de7de247", func := "anil/anillaw04.GangKnown", spec := "gangKnown", unfollowed := true, recurses := true, plainKeys := false, apart := false }
def GangKnownSaid : Prop := gangKnownRow.holds Tryz.pinned (OpenSpec.ofChange gangKnownSpec)

/-- ITS FALSE NEIGHBOUR: 'it returns false'. Refute it at one input. -/
def gangKnownWrong : ChangeSpec := { name := "gangKnown", fn := fun _ => fun
  | [d1, d2, d3] => { results := [.lit (.bool false)], args := [d1, d2, d3] }
  | _ => none }
def GangKnownWrongFalsely : Prop := gangKnownRow.holds Tryz.pinned (OpenSpec.ofChange gangKnownWrong)

/-- 'anillaw04.GangTurned': WHATEVER THE INPUT: true; the input reads as it did. -/
def gangTurnedSpec : ChangeSpec := { name := "gangTurned", fn := fun _ => fun
  | [d1, d2, d3] => { results := [.lit (.bool true)], args := [d1, d2, d3] }
  | _ => none }
def gangTurnedRow : OpenClaim := { program := "ytlkambpieajplaagreat", sum := "c59b0ba9f61a6b8181c3d983aeabe8edc285daa19a1a7ed243b54780de7de247", func := "anil/anillaw04.GangTurned", spec := "gangTurned", unfollowed := true, recurses := true, plainKeys := false, apart := false }
def GangTurnedSaid : Prop := gangTurnedRow.holds Tryz.pinned (OpenSpec.ofChange gangTurnedSpec)

/-- ITS FALSE NEIGHBOUR: 'it returns false'. Refute it at one input. -/
def gangTurnedWrong : ChangeSpec := { name := "gangTurned", fn := fun _ => fun
  | [d1, d2, d3] => { results := [.lit (.bool false)], args := [d1, d2, d3] }
  | _ => none }
def GangTurnedWrongFalsely : Prop := gangTurnedRow.holds Tryz.pinned (OpenSpec.ofChange gangTurnedWrong)

/-- 'anillaw04.GangNothing': WHATEVER THE INPUT: true; the input reads as it did. -/
def gangNothingSpec : ChangeSpec := { name := "gangNothing", fn := fun _ => fun
  | [d] => { results := [.lit (.bool true)], args := [d] }
  | _ => none }
def gangNothingRow : OpenClaim := { program := "ytlkambpieajplaagreat", sum := "c59b0ba9f61a6b8181c3d983aeabe8edc285daa19a1a7ed243b54780de7de247", func := "anil/anillaw04.GangNothing", spec := "gangNothing", unfollowed := true, recurses := true, plainKeys := false, apart := false }
def GangNothingSaid : Prop := gangNothingRow.holds Tryz.pinned (OpenSpec.ofChange gangNothingSpec)

/-- ITS FALSE NEIGHBOUR: 'it returns false'. Refute it at one input. -/
def gangNothingWrong : ChangeSpec := { name := "gangNothing", fn := fun _ => fun
  | [d] => { results := [.lit (.bool false)], args := [d] }
  | _ => none }
def GangNothingWrongFalsely : Prop := gangNothingRow.holds Tryz.pinned (OpenSpec.ofChange gangNothingWrong)

/-- 'anillaw04.GangBefore': WHATEVER THE INPUT: true; the input reads as it did. -/
def gangBeforeSpec : ChangeSpec := { name := "gangBefore", fn := fun _ => fun
  | [d1, d2] => { results := [.lit (.bool true)], args := [d1, d2] }
  | _ => none }
def gangBeforeRow : OpenClaim := { program := "ytlkambpieajplaagreat", sum := "c59b0ba9f61a6b8181c3d983aeabe8edc285daa19a1a7ed243b54780de7de247", func := "anil/anillaw04.GangBefore", spec := "gangBefore", unfollowed := true, recurses := true, plainKeys := false, apart := false }
def GangBeforeSaid : Prop := gangBeforeRow.holds Tryz.pinned (OpenSpec.ofChange gangBeforeSpec)

/-- ITS FALSE NEIGHBOUR: 'it returns false'. Refute it at one input. -/
def gangBeforeWrong : ChangeSpec := { name := "gangBefore", fn := fun _ => fun
  | [d1, d2] => { results := [.lit (.bool false)], args := [d1, d2] }
  | _ => none }
def GangBeforeWrongFalsely : Prop := gangBeforeRow.holds Tryz.pinned (OpenSpec.ofChange gangBeforeWrong)

/-- 'aniltop.TopSmelled': WHATEVER THE INPUT: true; the input reads as it did. -/
def topSmelledSpec : ChangeSpec := { name := "topSmelled", fn := fun _ => fun
  | [d1, d2, d3] => { results := [.lit (.bool true)], args := [d1, d2, d3] }
  | _ => none }
def topSmelledRow : OpenClaim := { program := "ytlkambpieajplaagreat", sum := "c59b0ba9f61a6b8181c3d983aeabe8edc285daa19a1a7ed243b54780de7de247", func := "anil/aniltop.TopSmelled", spec := "topSmelled", unfollowed := true, recurses := true, plainKeys := false, apart := false }
def TopSmelledSaid : Prop := topSmelledRow.holds Tryz.pinned (OpenSpec.ofChange topSmelledSpec)

/-- ITS FALSE NEIGHBOUR: 'it returns false'. Refute it at one input. -/
def topSmelledWrong : ChangeSpec := { name := "topSmelled", fn := fun _ => fun
  | [d1, d2, d3] => { results := [.lit (.bool false)], args := [d1, d2, d3] }
  | _ => none }
def TopSmelledWrongFalsely : Prop := topSmelledRow.holds Tryz.pinned (OpenSpec.ofChange topSmelledWrong)

/- THE SECOND FORM. 'bulk': how many values and letters a reading holds, each counted each time it is reached (what is shared counts as often as it is met; a slice's spare places count too). A statement '..UptoSaid' is the law's where the arguments, and the package variables that the reading takes, are together of bulk at most 1048576: NARROWER than '..Said'. Prove '..Said' where nothing that the law and all that it calls make is longer than what came in: it says more and counts as full. Else prove '..UptoSaid'. A law counts once. -/
mutual
def uptoBulk {H : Type} : DataW H → Nat
  | .lit (.string bytes) => bytes.length + 1
  | .lit _ => 1
  | .nil => 1
  | .ptr d => uptoBulk d + 1
  | .slice elems spare => uptoBulkAll elems + uptoBulkAll spare + 1
  | .agg parts => uptoBulkAll parts + 1
  | .iface _ d => uptoBulk d + 1
  | .map entries => uptoBulkEntries entries + 1
  | .held _ => 1
def uptoBulkAll {H : Type} : List (DataW H) → Nat
  | [] => 0
  | d :: r => uptoBulk d + uptoBulkAll r
def uptoBulkEntries {H : Type} : List (Lit × DataW H) → Nat
  | [] => 0
  | x :: r => uptoBulkEntry x + uptoBulkEntries r
def uptoBulkEntry {H : Type} : Lit × DataW H → Nat
  | (.string bytes, d) => bytes.length + uptoBulk d + 1
  | (_, d) => uptoBulk d + 1
 end
def uptoSmall : (H : Type) → List (DataW H) → Bool := fun _ ds => decide (uptoBulkAll ds ≤ 1048576)
def OpenSpec.upto (s : _root_.Go.ChangeSpec) : _root_.Go.OpenSpec := { _root_.Go.OpenSpec.ofChange s with cond := some uptoSmall }

/-- 'anillaw04.GangPlays', WHERE WHAT IT READS IS OF BULK AT MOST 1048576: true; the input reads as it did. -/
def gangPlaysUptoRow : OpenClaim := { program := "ytlkambpieajplaagreat", sum := "c59b0ba9f61a6b8181c3d983aeabe8edc285daa19a1a7ed243b54780de7de247", func := "anil/anillaw04.GangPlays", spec := "gangPlays", unfollowed := true, recurses := true, plainKeys := false, apart := false, narrowed := true }
def GangPlaysUptoSaid : Prop := gangPlaysUptoRow.holds Tryz.pinned (OpenSpec.upto gangPlaysSpec)

/-- 'anillaw04.GangBusy', WHERE WHAT IT READS IS OF BULK AT MOST 1048576: true; the input reads as it did. -/
def gangBusyUptoRow : OpenClaim := { program := "ytlkambpieajplaagreat", sum := "c59b0ba9f61a6b8181c3d983aeabe8edc285daa19a1a7ed243b54780de7de247", func := "anil/anillaw04.GangBusy", spec := "gangBusy", unfollowed := true, recurses := true, plainKeys := false, apart := false, narrowed := true }
def GangBusyUptoSaid : Prop := gangBusyUptoRow.holds Tryz.pinned (OpenSpec.upto gangBusySpec)

/-- 'anillaw04.GangLate', WHERE WHAT IT READS IS OF BULK AT MOST 1048576: true; the input reads as it did. -/
def gangLateUptoRow : OpenClaim := { program := "ytlkambpieajplaagreat", sum := "c59b0ba9f61a6b8181c3d983aeabe8edc285daa19a1a7ed243b54780de7de247", func := "anil/anillaw04.GangLate", spec := "gangLate", unfollowed := true, recurses := true, plainKeys := false, apart := false, narrowed := true }
def GangLateUptoSaid : Prop := gangLateUptoRow.holds Tryz.pinned (OpenSpec.upto gangLateSpec)

/-- 'anillaw04.GangBest', WHERE WHAT IT READS IS OF BULK AT MOST 1048576: true; the input reads as it did. -/
def gangBestUptoRow : OpenClaim := { program := "ytlkambpieajplaagreat", sum := "c59b0ba9f61a6b8181c3d983aeabe8edc285daa19a1a7ed243b54780de7de247", func := "anil/anillaw04.GangBest", spec := "gangBest", unfollowed := true, recurses := true, plainKeys := false, apart := false, narrowed := true }
def GangBestUptoSaid : Prop := gangBestUptoRow.holds Tryz.pinned (OpenSpec.upto gangBestSpec)

/-- 'anillaw04.GangFewest', WHERE WHAT IT READS IS OF BULK AT MOST 1048576: true; the input reads as it did. -/
def gangFewestUptoRow : OpenClaim := { program := "ytlkambpieajplaagreat", sum := "c59b0ba9f61a6b8181c3d983aeabe8edc285daa19a1a7ed243b54780de7de247", func := "anil/anillaw04.GangFewest", spec := "gangFewest", unfollowed := true, recurses := true, plainKeys := false, apart := false, narrowed := true }
def GangFewestUptoSaid : Prop := gangFewestUptoRow.holds Tryz.pinned (OpenSpec.upto gangFewestSpec)

/-- 'anillaw04.GangLeft', WHERE WHAT IT READS IS OF BULK AT MOST 1048576: true; the input reads as it did. -/
def gangLeftUptoRow : OpenClaim := { program := "ytlkambpieajplaagreat", sum := "c59b0ba9f61a6b8181c3d983aeabe8edc285daa19a1a7ed243b54780de7de247", func := "anil/anillaw04.GangLeft", spec := "gangLeft", unfollowed := true, recurses := true, plainKeys := false, apart := false, narrowed := true }
def GangLeftUptoSaid : Prop := gangLeftUptoRow.holds Tryz.pinned (OpenSpec.upto gangLeftSpec)

/-- 'anillaw04.GangWorth', WHERE WHAT IT READS IS OF BULK AT MOST 1048576: true; the input reads as it did. -/
def gangWorthUptoRow : OpenClaim := { program := "ytlkambpieajplaagreat", sum := "c59b0ba9f61a6b8181c3d983aeabe8edc285daa19a1a7ed243b54780de7de247", func := "anil/anillaw04.GangWorth", spec := "gangWorth", unfollowed := true, recurses := true, plainKeys := false, apart := false, narrowed := true }
def GangWorthUptoSaid : Prop := gangWorthUptoRow.holds Tryz.pinned (OpenSpec.upto gangWorthSpec)

/-- 'anillaw04.GangTruth', WHERE WHAT IT READS IS OF BULK AT MOST 1048576: true; the input reads as it did. -/
def gangTruthUptoRow : OpenClaim := { program := "ytlkambpieajplaagreat", sum := "c59b0ba9f61a6b8181c3d983aeabe8edc285daa19a1a7ed243b54780de7de247", func := "anil/anillaw04.GangTruth", spec := "gangTruth", unfollowed := true, recurses := true, plainKeys := false, apart := false, narrowed := true }
def GangTruthUptoSaid : Prop := gangTruthUptoRow.holds Tryz.pinned (OpenSpec.upto gangTruthSpec)

/-- 'anillaw04.GangEnds', WHERE WHAT IT READS IS OF BULK AT MOST 1048576: true; the input reads as it did. -/
def gangEndsUptoRow : OpenClaim := { program := "ytlkambpieajplaagreat", sum := "c59b0ba9f61a6b8181c3d983aeabe8edc285daa19a1a7ed243b54780de7de247", func := "anil/anillaw04.GangEnds", spec := "gangEnds", unfollowed := true, recurses := true, plainKeys := false, apart := false, narrowed := true }
def GangEndsUptoSaid : Prop := gangEndsUptoRow.holds Tryz.pinned (OpenSpec.upto gangEndsSpec)

/-- 'anillaw04.GangLost', WHERE WHAT IT READS IS OF BULK AT MOST 1048576: true; the input reads as it did. -/
def gangLostUptoRow : OpenClaim := { program := "ytlkambpieajplaagreat", sum := "c59b0ba9f61a6b8181c3d983aeabe8edc285daa19a1a7ed243b54780de7de247", func := "anil/anillaw04.GangLost", spec := "gangLost", unfollowed := true, recurses := true, plainKeys := false, apart := false, narrowed := true }
def GangLostUptoSaid : Prop := gangLostUptoRow.holds Tryz.pinned (OpenSpec.upto gangLostSpec)

/-- 'anillaw04.GangNoBetter', WHERE WHAT IT READS IS OF BULK AT MOST 1048576: true; the input reads as it did. -/
def gangNoBetterUptoRow : OpenClaim := { program := "ytlkambpieajplaagreat", sum := "c59b0ba9f61a6b8181c3d983aeabe8edc285daa19a1a7ed243b54780de7de247", func := "anil/anillaw04.GangNoBetter", spec := "gangNoBetter", unfollowed := true, recurses := true, plainKeys := false, apart := false, narrowed := true }
def GangNoBetterUptoSaid : Prop := gangNoBetterUptoRow.holds Tryz.pinned (OpenSpec.upto gangNoBetterSpec)

/-- 'anillaw04.GangEnough', WHERE WHAT IT READS IS OF BULK AT MOST 1048576: true; the input reads as it did. -/
def gangEnoughUptoRow : OpenClaim := { program := "ytlkambpieajplaagreat", sum := "c59b0ba9f61a6b8181c3d983aeabe8edc285daa19a1a7ed243b54780de7de247", func := "anil/anillaw04.GangEnough", spec := "gangEnough", unfollowed := true, recurses := true, plainKeys := false, apart := false, narrowed := true }
def GangEnoughUptoSaid : Prop := gangEnoughUptoRow.holds Tryz.pinned (OpenSpec.upto gangEnoughSpec)

/-- 'anillaw04.GangMore', WHERE WHAT IT READS IS OF BULK AT MOST 1048576: true; the input reads as it did. -/
def gangMoreUptoRow : OpenClaim := { program := "ytlkambpieajplaagreat", sum := "c59b0ba9f61a6b8181c3d983aeabe8edc285daa19a1a7ed243b54780de7de247", func := "anil/anillaw04.GangMore", spec := "gangMore", unfollowed := true, recurses := true, plainKeys := false, apart := false, narrowed := true }
def GangMoreUptoSaid : Prop := gangMoreUptoRow.holds Tryz.pinned (OpenSpec.upto gangMoreSpec)

/-- 'anillaw04.GangWithout', WHERE WHAT IT READS IS OF BULK AT MOST 1048576: true; the input reads as it did. -/
def gangWithoutUptoRow : OpenClaim := { program := "ytlkambpieajplaagreat", sum := "c59b0ba9f61a6b8181c3d983aeabe8edc285daa19a1a7ed243b54780de7de247", func := "anil/anillaw04.GangWithout", spec := "gangWithout", unfollowed := true, recurses := true, plainKeys := false, apart := false, narrowed := true }
def GangWithoutUptoSaid : Prop := gangWithoutUptoRow.holds Tryz.pinned (OpenSpec.upto gangWithoutSpec)

/-- 'anillaw04.GangKnown', WHERE WHAT IT READS IS OF BULK AT MOST 1048576: true; the input reads as it did. -/
def gangKnownUptoRow : OpenClaim := { program := "ytlkambpieajplaagreat", sum := "c59b0ba9f61a6b8181c3d983aeabe8edc285daa19a1a7ed243b54780de7de247", func := "anil/anillaw04.GangKnown", spec := "gangKnown", unfollowed := true, recurses := true, plainKeys := false, apart := false, narrowed := true }
def GangKnownUptoSaid : Prop := gangKnownUptoRow.holds Tryz.pinned (OpenSpec.upto gangKnownSpec)

/-- 'anillaw04.GangTurned', WHERE WHAT IT READS IS OF BULK AT MOST 1048576: true; the input reads as it did. -/
def gangTurnedUptoRow : OpenClaim := { program := "ytlkambpieajplaagreat", sum := "c59b0ba9f61a6b8181c3d983aeabe8edc285daa19a1a7ed243b54780de7de247", func := "anil/anillaw04.GangTurned", spec := "gangTurned", unfollowed := true, recurses := true, plainKeys := false, apart := false, narrowed := true }
def GangTurnedUptoSaid : Prop := gangTurnedUptoRow.holds Tryz.pinned (OpenSpec.upto gangTurnedSpec)

/-- 'anillaw04.GangNothing', WHERE WHAT IT READS IS OF BULK AT MOST 1048576: true; the input reads as it did. -/
def gangNothingUptoRow : OpenClaim := { program := "ytlkambpieajplaagreat", sum := "c59b0ba9f61a6b8181c3d983aeabe8edc285daa19a1a7ed243b54780de7de247", func := "anil/anillaw04.GangNothing", spec := "gangNothing", unfollowed := true, recurses := true, plainKeys := false, apart := false, narrowed := true }
def GangNothingUptoSaid : Prop := gangNothingUptoRow.holds Tryz.pinned (OpenSpec.upto gangNothingSpec)

/-- 'anillaw04.GangBefore', WHERE WHAT IT READS IS OF BULK AT MOST 1048576: true; the input reads as it did. -/
def gangBeforeUptoRow : OpenClaim := { program := "ytlkambpieajplaagreat", sum := "c59b0ba9f61a6b8181c3d983aeabe8edc285daa19a1a7ed243b54780de7de247", func := "anil/anillaw04.GangBefore", spec := "gangBefore", unfollowed := true, recurses := true, plainKeys := false, apart := false, narrowed := true }
def GangBeforeUptoSaid : Prop := gangBeforeUptoRow.holds Tryz.pinned (OpenSpec.upto gangBeforeSpec)

/-- 'aniltop.TopSmelled', WHERE WHAT IT READS IS OF BULK AT MOST 1048576: true; the input reads as it did. -/
def topSmelledUptoRow : OpenClaim := { program := "ytlkambpieajplaagreat", sum := "c59b0ba9f61a6b8181c3d983aeabe8edc285daa19a1a7ed243b54780de7de247", func := "anil/aniltop.TopSmelled", spec := "topSmelled", unfollowed := true, recurses := true, plainKeys := false, apart := false, narrowed := true }
def TopSmelledUptoSaid : Prop := topSmelledUptoRow.holds Tryz.pinned (OpenSpec.upto topSmelledSpec)

end Rows
end Go.Proofs.YtlkambpieajplaaGreat
