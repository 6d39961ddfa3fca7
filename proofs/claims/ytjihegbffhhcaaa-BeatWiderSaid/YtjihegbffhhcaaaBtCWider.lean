/-
  PROVED HERE: the statement of 'BeatWider': whatever beating and numbers are handed in, the law returns true, and what was handed in reads as it did. Conditions: none but the statement's own.
  The road: what is handed in is laid into the evaluator's first heap (VmLift, BtLoad); each function of the law's road has a contract for every input (BtRef and on); the evaluator is sound (VmP: 'pcall_sound').
-/
import Derived.Test.YtjihegbffhhcaaaPk13
namespace Go.Proofs.Ytjihegbffhhcaaa
open Go.ChangeShapes Go.WideShapes Go.ChangeAt Go.RowKit Go.Vm
set_option linter.unusedSimpArgs false

set_option maxRecDepth 100000 in
theorem beatWider_lifted (os : Os) (started : os.Started) (H : Type) (enc : TypeId × Value → H) :
    ReturnsInHanded {} Try.checked os 19 .any (Rows.beatWiderSpec.pre6 enc Try.prog Try.f19 Rows.beatWiderRow.domain false) (Rows.beatWiderSpec.post enc Try.prog Try.f19 false true false false) := by
  refine returnsInHanded_of_change (C := Try.checked) Bt.own started (by kernel_rfl) Try.func19
    (ChangeSpec.witness6 (enc := enc) (C := Try.checked) false ⟨#[], #[.agg #[.int .i64 0, .int .i64 0, .slice none 0 0, .int .i64 0, .slice none 0 0], .int .u8 0, .int .u8 0], []⟩ 8 (by kernel_rfl) (by kernel_rfl) (by kernel_rfl) (by kernel_rfl)) ?_
  intro W base args ds gs before hval0 hW hcnd _
  have hval : ∀ (j : Nat) t v, Try.f19.params[j]? = some t → args[j]? = some v → Value.okWide Try.prog W .any base t v := hval0
  have hW' := hW
  obtain ⟨p, q, hA0, hV, rfl, hfz, hnd⟩ := hW
  have hA : DataW.TrodAll enc Try.prog W 0 (fun _ => true) true Try.f19.params.toList args.toList ds p := hA0
  rw [Try.params19] at hA hval
  have hB0 : DataW.TrodAll enc Try.prog W 0 (fun _ => true) true [27, 5, 5] args.toList ds p := hA
  obtain ⟨rfl, rfl⟩ := trodVars_none hV
  obtain ⟨v0, r0, d0, e0, p0, q0, ha, rfl, rfl, ⟨fu0, t0⟩, hB1⟩ := trodAll_cons hB0
  obtain ⟨v1, r1, d1, e1, p1, q1, rfl, rfl, rfl, ⟨fu1, t1⟩, hB2⟩ := trodAll_cons hB1
  obtain ⟨v2, r2, d2, e2, p2, q2, rfl, rfl, rfl, ⟨fu2, t2⟩, hB3⟩ := trodAll_cons hB2
  obtain ⟨rfl, rfl, rfl⟩ := trodAll_nil hB3
  have hargs : args = #[v0, v1, v2] := by cases args; simp_all
  subst hargs
  have ok0 := hval 0 27 v0 rfl rfl
  have ok1 := hval 1 5 v1 rfl rfl
  have ok2 := hval 2 5 v2 rfl rfl
  clear hval0 hval
  simp only [List.append_nil] at hW'
  obtain ⟨ya, yb, vv, yc, sv, e0, hy⟩ := Bt.beatW_of t0
  have := Bt.agg_struct Try.underlying27 ok0 e0
  subst this
  obtain ⟨a1, e1, _, wf1⟩ := DataW.trod_int Try.underlying5 t1
  have := Bt.cell_int Try.underlying5 ok1 e1
  subst this
  obtain ⟨a2, e2, _, wf2⟩ := DataW.trod_int Try.underlying5 t2
  have := Bt.cell_int Try.underlying5 ok2 e2
  subst this
  have φ0 : Emb := ⟨fun _ => ⟨0, 0, none⟩, fun _ => 0⟩
  have L := Loaded.empty φ0 W
  have hn0 : AHeap.empty.next = 0 := rfl
  have hfar : far = 4294967296 := rfl
  obtain ⟨φ1, h1, u1, u2, S, s1, k1, k2, hY, rfl, rfl, rfl⟩ := Bt.beat_load L (by omega) hy ya yb yc
  have n1 := s1.next
  obtain ⟨my, oy⟩ := Bt.stands_beat (w := W) (a := S.slo) (b := S.shi) (c := S.last) k1 k2
  have hfl : h1.floor ≤ h1.next := by rw [s1.floor]; exact Nat.zero_le _
  have hrun : ∃ v h', Bt.call 20000 (.func (.func 19) #[] #[]) [.agg ⟨[.int .i64 S.slo, .int .i64 S.shi, u1, .int .i64 S.last, u2]⟩, .int .u8 a1, .int .u8 a2] h1 = some (v, h') ∧ v = .bool true :=
    Bt.widerL_c (by omega) (by omega) hfl hY a1 wf1 a2 wf2
  obtain ⟨v, h', hr, hv⟩ := hrun
  have hc := law_calls (Bt.sound 20000) (args := #[.agg ⟨[.int .i64 S.slo, .int .i64 S.shi, vv, .int .i64 S.last, sv]⟩, .int .u8 a1, .int .u8 a2]) hr hv s1.ld (by
    intro u hu
    simp only [List.mem_cons, List.not_mem_nil, or_false] at hu
    rcases hu with rfl | rfl | rfl
    · exact oy
    · simp only [okV]
    · simp only [okV]) (by simp only [List.map_cons, List.map_nil, my, Bt.map_int])
  refine hc.mono fun e W' ⟨he, hg, hfr⟩ => ?_
  subst he
  refine ⟨_, rfl, ⟨_, [], _, [], (p0 ++ (p1 ++ (p2 ++ []))), [], hW', trodAll_cons_mk (shut_bool Try.underlying4 _) trodAll_mk0, ?_, rfl, World.keptBut_mono (fun _ h => h.elim) hg, fun h => by cases h⟩⟩
  exact trodAll_stays Bt.kids (fun ht he => slices_full_of Try.prog Bt.slicesOk _ _ ht he) hfr (by rw [Try.params19]; intro t ht; have ht : t ∈ [27, 5, 5] := ht; simp only [List.mem_cons, List.not_mem_nil, or_false] at ht; rcases ht with rfl | rfl | rfl <;> exact Nat.lt_trans (by decide) Bt.tsize) hA0

/-- the statement -/
theorem beatWider_holds : Rows.BeatWiderSaid :=
  OpenClaim.holds_of_wide 19 Try.f19 rfl rfl rfl rfl rfl rfl rfl ⟨rfl, rfl, rfl, rfl, rfl⟩ rfl rfl rfl rfl rfl (by kernel_rfl) Try.func19 (by kernel_rfl)
    (of_decide_eq_true (by kernel_rfl)) (by unfold Func.isWrapper; first | (rw [if_pos (by decide +kernel)]; kernel_rfl) | (rw [if_neg (by decide +kernel)]; exact ⟨rfl, rfl⟩))
    (fun os started H enc _ => beatWider_lifted os started H enc)
end Go.Proofs.Ytjihegbffhhcaaa
