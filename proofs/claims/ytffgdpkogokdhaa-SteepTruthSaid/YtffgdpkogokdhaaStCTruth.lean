/-
  PROVED HERE: the statement of 'SteepTruth': whatever steep, number and words are handed in, the law returns true, and what was handed in reads as it did. Conditions: none but the statement's own.
  The road: what is handed in is laid into the evaluator's first heap (VmLift, StLoad); each function of the law's road has a contract for every input (StRef and on); the evaluator is sound (VmP: 'pcall_sound').
-/
import Derived.Test.YtffgdpkogokdhaaPk17
namespace Go.Proofs.Ytffgdpkogokdhaa
open Go.ChangeShapes Go.WideShapes Go.ChangeAt Go.RowKit Go.Vm
set_option linter.unusedSimpArgs false

set_option maxRecDepth 100000 in
theorem steepTruth_lifted (os : Os) (started : os.Started) (H : Type) (enc : TypeId × Value → H) :
    ReturnsInHanded {} Try.checked os 11 .any (Rows.steepTruthSpec.pre6 enc Try.prog Try.f11 Rows.steepTruthRow.domain false) (Rows.steepTruthSpec.post enc Try.prog Try.f11 false true false false) := by
  refine returnsInHanded_of_change (C := Try.checked) St.own started (by kernel_rfl) Try.func11
    (ChangeSpec.witness6 (enc := enc) (C := Try.checked) false ⟨#[], #[.agg #[.int .i64 0, .int .i64 0, .slice none 0 0, .int .i64 0, .int .i64 0, .slice none 0 0, .slice none 0 0], .int .u16 0, .slice none 0 0], []⟩ 8 (by kernel_rfl) (by kernel_rfl) (by kernel_rfl) (by kernel_rfl)) ?_
  intro W base args ds gs before hval0 hW hcnd _
  have hval : ∀ (j : Nat) t v, Try.f11.params[j]? = some t → args[j]? = some v → Value.okWide Try.prog W .any base t v := hval0
  have hW' := hW
  obtain ⟨p, q, hA0, hV, rfl, hfz, hnd⟩ := hW
  have hA : DataW.TrodAll enc Try.prog W 0 (fun _ => true) true Try.f11.params.toList args.toList ds p := hA0
  rw [Try.params11] at hA hval
  have hB0 : DataW.TrodAll enc Try.prog W 0 (fun _ => true) true [28, 90, 91] args.toList ds p := hA
  obtain ⟨rfl, rfl⟩ := trodVars_none hV
  obtain ⟨v0, r0, d0, e0, p0, q0, ha, rfl, rfl, ⟨fu0, t0⟩, hB1⟩ := trodAll_cons hB0
  obtain ⟨v1, r1, d1, e1, p1, q1, rfl, rfl, rfl, ⟨fu1, t1⟩, hB2⟩ := trodAll_cons hB1
  obtain ⟨v2, r2, d2, e2, p2, q2, rfl, rfl, rfl, ⟨fu2, t2⟩, hB3⟩ := trodAll_cons hB2
  obtain ⟨rfl, rfl, rfl⟩ := trodAll_nil hB3
  have hargs : args = #[v0, v1, v2] := by cases args; simp_all
  subst hargs
  have ok0 := hval 0 28 v0 rfl rfl
  have ok1 := hval 1 90 v1 rfl rfl
  have ok2 := hval 2 91 v2 rfl rfl
  clear hval0 hval
  simp only [List.append_nil] at hW'
  obtain ⟨ya, yb, yc, yd, fv, vv, sv, e0, hy⟩ := St.steepW_of t0
  have := St.agg_struct Try.underlying28 ok0 e0
  subst this
  obtain ⟨a1, e1, _, wf1⟩ := DataW.trod_int Try.underlying90 t1
  have := St.cell_int Try.underlying90 ok1 e1
  subst this
  obtain ⟨b2, e2, hb2⟩ := St.flatS_words t2
  have := St.cell_slice Try.underlying91 ok2 e2
  subst this
  have φ0 : Emb := ⟨fun _ => ⟨0, 0, none⟩, fun _ => 0⟩
  have L := Loaded.empty φ0 W
  have hn0 : AHeap.empty.next = 0 := rfl
  have hfar : far = 4294967296 := rfl
  obtain ⟨φ1, h1, u0, u1, u2, S, s1, k0, k1, k2, hY, rfl, rfl, rfl, rfl⟩ := St.steep_load L (by omega) hy ya yb yc yd
  have n1 := s1.next
  obtain ⟨φ2, h2, ub2, s2, kb2, c2, rb2, wb2⟩ := St.flatW s1.ld (by omega) (by omega) hb2
  have n2 := s2.next
  obtain ⟨my, oy⟩ := St.stands_steep (w := W) (a := S.last) (b := S.per) (c := S.splo) (d := S.sphi) (k0.step s2) (k1.step s2) (k2.step s2)
  have hfl : h2.floor ≤ h2.next := by rw [s2.floor, s1.floor]; exact Nat.zero_le _
  have hrun : ∃ v h', St.call 20000 (.func (.func 11) #[] #[]) [.agg ⟨[.int .i64 S.last, .int .i64 S.per, u0, .int .i64 S.splo, .int .i64 S.sphi, u1, u2]⟩, .int .u16 a1, ub2] h2 = some (v, h') ∧ v = .bool true :=
    St.truthLaw_c (by omega) (by omega) hfl (hY.mono s2.sub) a1 wf1 (St.wordsOf rb2 wb2)
  obtain ⟨v, h', hr, hv⟩ := hrun
  have hc := law_calls (St.sound 20000) (args := #[.agg ⟨[.int .i64 S.last, .int .i64 S.per, fv, .int .i64 S.splo, .int .i64 S.sphi, vv, sv]⟩, .int .u16 a1, v2]) hr hv s2.ld (by
    intro u hu
    simp only [List.mem_cons, List.not_mem_nil, or_false] at hu
    rcases hu with rfl | rfl | rfl
    · exact oy
    · simp only [okV]
    · exact kb2.ok) (by simp only [List.map_cons, List.map_nil, my, kb2.map, St.map_int])
  refine hc.mono fun e W' ⟨he, hg, hfr⟩ => ?_
  subst he
  refine ⟨_, rfl, ⟨_, [], _, [], (p0 ++ (p1 ++ (p2 ++ []))), [], hW', trodAll_cons_mk (shut_bool Try.underlying4 _) trodAll_mk0, ?_, rfl, World.keptBut_mono (fun _ h => h.elim) hg, fun h => by cases h⟩⟩
  exact trodAll_stays St.kids (fun ht he => slices_full_of Try.prog St.slicesOk _ _ ht he) hfr (by rw [Try.params11]; intro t ht; have ht : t ∈ [28, 90, 91] := ht; simp only [List.mem_cons, List.not_mem_nil, or_false] at ht; rcases ht with rfl | rfl | rfl <;> exact Nat.lt_trans (by decide) St.tsize) hA0

/-- the statement -/
theorem steepTruth_holds : Rows.SteepTruthSaid :=
  OpenClaim.holds_of_wide 11 Try.f11 rfl rfl rfl rfl rfl rfl rfl ⟨rfl, rfl, rfl, rfl, rfl⟩ rfl rfl rfl rfl rfl (by kernel_rfl) Try.func11 (by kernel_rfl)
    (of_decide_eq_true (by kernel_rfl)) (by unfold Func.isWrapper; first | (rw [if_pos (by decide +kernel)]; kernel_rfl) | (rw [if_neg (by decide +kernel)]; exact ⟨rfl, rfl⟩))
    (fun os started H enc _ => steepTruth_lifted os started H enc)
end Go.Proofs.Ytffgdpkogokdhaa
