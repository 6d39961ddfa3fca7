/-
  PROVED HERE: the statement of 'BeatNames': the document's examples of layer 3, and its errors: whatever the world, the call returns true, and what was handed in reads as it did. Conditions: none but the statement's own.
  The road: the evaluator (VmEval) is sound (VmDraw3: 'vm_sound'); the calls that the examples make have been run by it one by one (VmN0 and on), and are looked up (VmOracle) in the run of the whole (VmNMain).
-/
import Derived.Test.YtgjnhdgnfnbgfaaRows
import Derived.WalkKit
import Derived.ProofKit
import Derived.OpenShut
import Derived.Test.YtgjnhdgnfnbgfaaVmNMain
import Derived.Test.YtgjnhdgnfnbgfaaVmN0
import Derived.Test.YtgjnhdgnfnbgfaaVmN1
import Derived.Test.YtgjnhdgnfnbgfaaVmN2
import Derived.Test.YtgjnhdgnfnbgfaaVmN3
import Derived.Test.YtgjnhdgnfnbgfaaVmN4
import Derived.Test.YtgjnhdgnfnbgfaaVmN5
import Derived.Test.YtgjnhdgnfnbgfaaVmN6
import Derived.Test.YtgjnhdgnfnbgfaaVmN7
import Derived.Test.YtgjnhdgnfnbgfaaVmN8
import Derived.Test.YtgjnhdgnfnbgfaaVmN9
import Derived.Test.YtgjnhdgnfnbgfaaVmN10
import Derived.Test.YtgjnhdgnfnbgfaaVmN11
namespace Go.Proofs.Ytgjnhdgnfnbgfaa
open Go.ChangeShapes Go.WideShapes Go.ChangeAt Go.RowKit Go.Vm

theorem own : ownKnob Try.prog.godebug = none := by kernel_rfl
theorem mixedOn : Try.prog.follows .mixedOrders = true := by kernel_rfl
theorem namesAll : (Try.prog.funcs.toList.all fun fn => !(fn.name == "runtime.NumGoroutine")) = true := by kernel_rfl
theorem namesFine : NamesFine Try.prog := by
  intro f fn hf
  have h := List.all_eq_true.1 namesAll fn (Array.mem_toList_iff.2 (Array.mem_of_getElem? hf))
  simpa using h

theorem tabOk : ∀ E ∈ Names.tab, ∃ cf, SoundCF Try.prog cf ∧ entryOk cf E = true := by
  have hs := vm_sound namesFine mixedOn Names.quiet 1000
  intro E hE
  refine ⟨_, hs, ?_⟩
  revert E
  simp only [Names.tab, List.forall_mem_cons, List.not_mem_nil, false_implies, implies_true, and_true]
  exact ⟨Names.ok0, Names.ok1, Names.ok2, Names.ok3, Names.ok4, Names.ok5, Names.ok6, Names.ok7, Names.ok8, Names.ok9, Names.ok10, Names.ok11, Names.ok12, Names.ok13, Names.ok14, Names.ok15, Names.ok16, Names.ok17, Names.ok18, Names.ok19, Names.ok20, Names.ok21, Names.ok22, Names.ok23, Names.ok24, Names.ok25, Names.ok26, Names.ok27, Names.ok28, Names.ok29, Names.ok30, Names.ok31, Names.ok32, Names.ok33, Names.ok34, Names.ok35⟩

theorem walk (w : World) : Calls Try.prog 9 #[] w fun e w' => e = .returned (.bool true) ∧ w.keptBut w' (fun _ => False) := by
  have h := Names.main_ok
  have hs := acallO_sound namesFine mixedOn Names.quiet tabOk 1000
  cases hr : acallO Try.prog Names.quiet Names.tab 1000 (.func (.func 9) #[] #[]) [] AHeap.empty with
  | none => rw [hr] at h; cases h
  | some vh =>
    obtain ⟨v, h'⟩ := vh
    rw [hr] at h
    unfold Names.isTrue at h
    split at h
    · rename_i e
      cases e
      exact vm_calls hs hr rfl w
    · cases h

set_option maxRecDepth 100000 in
theorem lifted (os : Os) (started : os.Started) (H : Type) (enc : TypeId × Value → H) :
    ReturnsInHanded {} Try.checked os 9 .any (Rows.beatNamesSpec.pre6 enc Try.prog Try.f9 Rows.beatNamesRow.domain false) (Rows.beatNamesSpec.post enc Try.prog Try.f9 false true false false) := by
  refine returnsInHanded_of_change (C := Try.checked) own started (by kernel_rfl) Try.func9
    (ChangeSpec.witness6 (enc := enc) (C := Try.checked) false ⟨#[], #[], []⟩ 8 (by kernel_rfl) (by kernel_rfl) (by kernel_rfl) (by kernel_rfl)) ?_
  intro W base args ds gs before hval0 hW hcnd _
  have hval : ∀ (j : Nat) t v, Try.f9.params[j]? = some t → args[j]? = some v → Value.okWide Try.prog W .any base t v := hval0
  have hW' := hW
  obtain ⟨p, q, hA0, hV, rfl, hfz, hnd⟩ := hW
  have hA : DataW.TrodAll enc Try.prog W 0 (fun _ => true) true Try.f9.params.toList args.toList ds p := hA0
  rw [Try.params9] at hA hval
  obtain ⟨rfl, rfl, rfl⟩ := trodAll_none hA
  obtain ⟨rfl, rfl⟩ := trodVars_none hV
  clear hA0 hval0
  simp only [List.append_nil] at hW'
  refine (walk W).mono fun e W' ⟨he, hg⟩ => ?_
  subst he
  exact ⟨_, rfl, ⟨[], [], [], [], [], [], hW', trodAll_cons_mk (shut_bool Try.underlying4 _) trodAll_mk0, trodAll_mk0, rfl, World.keptBut_mono (fun _ h => h.elim) hg, fun h => by cases h⟩⟩

/-- the statement -/
theorem beatNames_holds : Rows.BeatNamesSaid :=
  OpenClaim.holds_of_wide 9 Try.f9 rfl rfl rfl rfl rfl rfl rfl ⟨rfl, rfl, rfl, rfl, rfl⟩ rfl rfl rfl rfl rfl (by kernel_rfl) Try.func9 (by kernel_rfl)
    (of_decide_eq_true (by kernel_rfl)) (by unfold Func.isWrapper; first | (rw [if_pos (by decide +kernel)]; kernel_rfl) | (rw [if_neg (by decide +kernel)]; exact ⟨rfl, rfl⟩))
    (fun os started H enc _ => lifted os started H enc)
#print axioms beatNames_holds
end Go.Proofs.Ytgjnhdgnfnbgfaa
