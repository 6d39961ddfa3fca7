/-
  PROVED HERE: the statement of 'GangNames': the document's examples of layer 4, and its errors: whatever the world, the call returns true, and what was handed in reads as it did. Conditions: none but the statement's own.
  The road: the evaluator (VmEval) is sound (VmDraw3: 'vm_sound'); the calls that the examples make have been run by it one by one (VmN0 and on), and are looked up (VmOracle, VmReloc) in the run of the whole (VmNMain).
-/
import Derived.Test.YtjbbefkbbagdfaaRows
import Derived.WalkKit
import Derived.ProofKit
import Derived.OpenShut
import Derived.Test.YtjbbefkbbagdfaaVmNMain
import Derived.Test.YtjbbefkbbagdfaaVmN0
import Derived.Test.YtjbbefkbbagdfaaVmN1
import Derived.Test.YtjbbefkbbagdfaaVmN2
import Derived.Test.YtjbbefkbbagdfaaVmN3
import Derived.Test.YtjbbefkbbagdfaaVmN4
import Derived.Test.YtjbbefkbbagdfaaVmN5
import Derived.Test.YtjbbefkbbagdfaaVmN6
import Derived.Test.YtjbbefkbbagdfaaVmN7
import Derived.Test.YtjbbefkbbagdfaaVmN8
import Derived.Test.YtjbbefkbbagdfaaVmN9
import Derived.Test.YtjbbefkbbagdfaaVmN10
import Derived.Test.YtjbbefkbbagdfaaVmN11
import Derived.Test.YtjbbefkbbagdfaaVmN12
import Derived.Test.YtjbbefkbbagdfaaVmN13
import Derived.Test.YtjbbefkbbagdfaaVmN14
import Derived.Test.YtjbbefkbbagdfaaVmN15
import Derived.Test.YtjbbefkbbagdfaaVmN16
import Derived.Test.YtjbbefkbbagdfaaVmN17
import Derived.Test.YtjbbefkbbagdfaaVmN18
import Derived.Test.YtjbbefkbbagdfaaVmN19
import Derived.Test.YtjbbefkbbagdfaaVmN20
import Derived.Test.YtjbbefkbbagdfaaVmN21
namespace Go.Proofs.Ytjbbefkbbagdfaa
open Go.ChangeShapes Go.WideShapes Go.ChangeAt Go.RowKit Go.Vm

theorem own : ownKnob Try.prog.godebug = none := by kernel_rfl
theorem mixedOn : Try.prog.follows .mixedOrders = true := by kernel_rfl
theorem namesAll : (Try.prog.funcs.toList.all fun fn => !(fn.name == "runtime.NumGoroutine")) = true := by kernel_rfl
theorem namesFine : NamesFine Try.prog := by
  intro f fn hf
  have h := List.all_eq_true.1 namesAll fn (Array.mem_toList_iff.2 (Array.mem_of_getElem? hf))
  simpa using h

theorem tok0 : TabOk Try.prog Names.tab0 := tab_nil
theorem tok1 : TabOk Try.prog Names.tab1 := tab_cons ⟨⟨_, acallR_sound namesFine mixedOn Names.quiet tok0 1000, Names.ok0⟩, Names.low0⟩ tok0
theorem tok2 : TabOk Try.prog Names.tab2 := tab_cons ⟨⟨_, acallR_sound namesFine mixedOn Names.quiet tok1 1000, Names.ok1⟩, Names.low1⟩ tok1
theorem tok3 : TabOk Try.prog Names.tab3 := tab_cons ⟨⟨_, acallR_sound namesFine mixedOn Names.quiet tok2 1000, Names.ok2⟩, Names.low2⟩ tok2
theorem tok4 : TabOk Try.prog Names.tab4 := tab_cons ⟨⟨_, acallR_sound namesFine mixedOn Names.quiet tok3 1000, Names.ok3⟩, Names.low3⟩ tok3
theorem tok5 : TabOk Try.prog Names.tab5 := tab_cons ⟨⟨_, acallR_sound namesFine mixedOn Names.quiet tok4 1000, Names.ok4⟩, Names.low4⟩ tok4
theorem tok6 : TabOk Try.prog Names.tab6 := tab_cons ⟨⟨_, acallR_sound namesFine mixedOn Names.quiet tok5 1000, Names.ok5⟩, Names.low5⟩ tok5
theorem tok7 : TabOk Try.prog Names.tab7 := tab_cons ⟨⟨_, acallR_sound namesFine mixedOn Names.quiet tok6 1000, Names.ok6⟩, Names.low6⟩ tok6
theorem tok8 : TabOk Try.prog Names.tab8 := tab_cons ⟨⟨_, acallR_sound namesFine mixedOn Names.quiet tok7 1000, Names.ok7⟩, Names.low7⟩ tok7
theorem tok9 : TabOk Try.prog Names.tab9 := tab_cons ⟨⟨_, acallR_sound namesFine mixedOn Names.quiet tok8 1000, Names.ok8⟩, Names.low8⟩ tok8
theorem tok10 : TabOk Try.prog Names.tab10 := tab_cons ⟨⟨_, acallR_sound namesFine mixedOn Names.quiet tok9 1000, Names.ok9⟩, Names.low9⟩ tok9
theorem tok11 : TabOk Try.prog Names.tab11 := tab_cons ⟨⟨_, acallR_sound namesFine mixedOn Names.quiet tok10 1000, Names.ok10⟩, Names.low10⟩ tok10
theorem tok12 : TabOk Try.prog Names.tab12 := tab_cons ⟨⟨_, acallR_sound namesFine mixedOn Names.quiet tok11 1000, Names.ok11⟩, Names.low11⟩ tok11
theorem tok13 : TabOk Try.prog Names.tab13 := tab_cons ⟨⟨_, acallR_sound namesFine mixedOn Names.quiet tok12 1000, Names.ok12⟩, Names.low12⟩ tok12
theorem tok14 : TabOk Try.prog Names.tab14 := tab_cons ⟨⟨_, acallR_sound namesFine mixedOn Names.quiet tok13 1000, Names.ok13⟩, Names.low13⟩ tok13
theorem tok15 : TabOk Try.prog Names.tab15 := tab_cons ⟨⟨_, acallR_sound namesFine mixedOn Names.quiet tok14 1000, Names.ok14⟩, Names.low14⟩ tok14
theorem tok16 : TabOk Try.prog Names.tab16 := tab_cons ⟨⟨_, acallR_sound namesFine mixedOn Names.quiet tok15 1000, Names.ok15⟩, Names.low15⟩ tok15
theorem tok17 : TabOk Try.prog Names.tab17 := tab_cons ⟨⟨_, acallR_sound namesFine mixedOn Names.quiet tok16 1000, Names.ok16⟩, Names.low16⟩ tok16
theorem tok18 : TabOk Try.prog Names.tab18 := tab_cons ⟨⟨_, acallR_sound namesFine mixedOn Names.quiet tok17 1000, Names.ok17⟩, Names.low17⟩ tok17
theorem tok19 : TabOk Try.prog Names.tab19 := tab_cons ⟨⟨_, acallR_sound namesFine mixedOn Names.quiet tok18 1000, Names.ok18⟩, Names.low18⟩ tok18
theorem tok20 : TabOk Try.prog Names.tab20 := tab_cons ⟨⟨_, acallR_sound namesFine mixedOn Names.quiet tok19 1000, Names.ok19⟩, Names.low19⟩ tok19
theorem tok21 : TabOk Try.prog Names.tab21 := tab_cons ⟨⟨_, acallR_sound namesFine mixedOn Names.quiet tok20 1000, Names.ok20⟩, Names.low20⟩ tok20
theorem tok22 : TabOk Try.prog Names.tab22 := tab_cons ⟨⟨_, acallR_sound namesFine mixedOn Names.quiet tok21 1000, Names.ok21⟩, Names.low21⟩ tok21
theorem tok23 : TabOk Try.prog Names.tab23 := tab_cons ⟨⟨_, acallR_sound namesFine mixedOn Names.quiet tok22 1000, Names.ok22⟩, Names.low22⟩ tok22
theorem tok24 : TabOk Try.prog Names.tab24 := tab_cons ⟨⟨_, acallR_sound namesFine mixedOn Names.quiet tok23 1000, Names.ok23⟩, Names.low23⟩ tok23
theorem tok25 : TabOk Try.prog Names.tab25 := tab_cons ⟨⟨_, acallR_sound namesFine mixedOn Names.quiet tok24 1000, Names.ok24⟩, Names.low24⟩ tok24
theorem tok26 : TabOk Try.prog Names.tab26 := tab_cons ⟨⟨_, acallR_sound namesFine mixedOn Names.quiet tok25 1000, Names.ok25⟩, Names.low25⟩ tok25
theorem tok27 : TabOk Try.prog Names.tab27 := tab_cons ⟨⟨_, acallR_sound namesFine mixedOn Names.quiet tok26 1000, Names.ok26⟩, Names.low26⟩ tok26
theorem tok28 : TabOk Try.prog Names.tab28 := tab_cons ⟨⟨_, acallR_sound namesFine mixedOn Names.quiet tok27 1000, Names.ok27⟩, Names.low27⟩ tok27
theorem tok29 : TabOk Try.prog Names.tab29 := tab_cons ⟨⟨_, acallR_sound namesFine mixedOn Names.quiet tok28 1000, Names.ok28⟩, Names.low28⟩ tok28
theorem tok30 : TabOk Try.prog Names.tab30 := tab_cons ⟨⟨_, acallR_sound namesFine mixedOn Names.quiet tok29 1000, Names.ok29⟩, Names.low29⟩ tok29
theorem tok31 : TabOk Try.prog Names.tab31 := tab_cons ⟨⟨_, acallR_sound namesFine mixedOn Names.quiet tok30 1000, Names.ok30⟩, Names.low30⟩ tok30
theorem tok32 : TabOk Try.prog Names.tab32 := tab_cons ⟨⟨_, acallR_sound namesFine mixedOn Names.quiet tok31 1000, Names.ok31⟩, Names.low31⟩ tok31
theorem tok33 : TabOk Try.prog Names.tab33 := tab_cons ⟨⟨_, acallR_sound namesFine mixedOn Names.quiet tok32 1000, Names.ok32⟩, Names.low32⟩ tok32

theorem walk (w : World) : Calls Try.prog 3 #[] w fun e w' => e = .returned (.bool true) ∧ w.keptBut w' (fun _ => False) := by
  have h := Names.main_ok
  have hs := acallR_sound namesFine mixedOn Names.quiet tok33 1000
  cases hr : acallR Try.prog Names.quiet Names.tab33 1000 (.func (.func 3) #[] #[]) [] AHeap.empty with
  | none => rw [hr] at h; cases h
  | some vh =>
    obtain ⟨v, h'⟩ := vh
    rw [hr] at h
    unfold Names.isTrue at h
    split at h
    · rename_i e
      cases e
      exact vm_calls hs hr rfl w
    · cases h

set_option maxRecDepth 100000 in
theorem lifted (os : Os) (started : os.Started) (H : Type) (enc : TypeId × Value → H) :
    ReturnsInHanded {} Try.checked os 3 .any (Rows.gangNamesSpec.pre6 enc Try.prog Try.f3 Rows.gangNamesRow.domain false) (Rows.gangNamesSpec.post enc Try.prog Try.f3 false true false false) := by
  refine returnsInHanded_of_change (C := Try.checked) own started (by kernel_rfl) Try.func3
    (ChangeSpec.witness6 (enc := enc) (C := Try.checked) false ⟨#[], #[], []⟩ 8 (by kernel_rfl) (by kernel_rfl) (by kernel_rfl) (by kernel_rfl)) ?_
  intro W base args ds gs before hval0 hW hcnd _
  have hval : ∀ (j : Nat) t v, Try.f3.params[j]? = some t → args[j]? = some v → Value.okWide Try.prog W .any base t v := hval0
  have hW' := hW
  obtain ⟨p, q, hA0, hV, rfl, hfz, hnd⟩ := hW
  have hA : DataW.TrodAll enc Try.prog W 0 (fun _ => true) true Try.f3.params.toList args.toList ds p := hA0
  rw [Try.params3] at hA hval
  obtain ⟨rfl, rfl, rfl⟩ := trodAll_none hA
  obtain ⟨rfl, rfl⟩ := trodVars_none hV
  clear hA0 hval0
  simp only [List.append_nil] at hW'
  refine (walk W).mono fun e W' ⟨he, hg⟩ => ?_
  subst he
  exact ⟨_, rfl, ⟨[], [], [], [], [], [], hW', trodAll_cons_mk (shut_bool Try.underlying4 _) trodAll_mk0, trodAll_mk0, rfl, World.keptBut_mono (fun _ h => h.elim) hg, fun h => by cases h⟩⟩

/-- the statement -/
theorem gangNames_holds : Rows.GangNamesSaid :=
  OpenClaim.holds_of_wide 3 Try.f3 rfl rfl rfl rfl rfl rfl rfl ⟨rfl, rfl, rfl, rfl, rfl⟩ rfl rfl rfl rfl rfl (by kernel_rfl) Try.func3 (by kernel_rfl)
    (of_decide_eq_true (by kernel_rfl)) (by unfold Func.isWrapper; first | (rw [if_pos (by decide +kernel)]; kernel_rfl) | (rw [if_neg (by decide +kernel)]; exact ⟨rfl, rfl⟩))
    (fun os started H enc _ => lifted os started H enc)
#print axioms gangNames_holds
end Go.Proofs.Ytjbbefkbbagdfaa
