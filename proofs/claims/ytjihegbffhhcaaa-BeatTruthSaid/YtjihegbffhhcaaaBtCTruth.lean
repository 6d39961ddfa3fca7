/-
  PROVED HERE: the statement of 'BeatTruth': whatever beating, numbers and words are handed in, the law returns true, and what was handed in reads as it did. Conditions: none but the statement's own.
  The road: what is handed in is laid into the evaluator's first heap (VmLift, BtLoad); each function of the law's road has a contract for every input (BtRef and on); the evaluator is sound (VmP: 'pcall_sound').
-/
import Derived.Test.YtjihegbffhhcaaaPk13
namespace Go.Proofs.Ytjihegbffhhcaaa
open Go.ChangeShapes Go.WideShapes Go.ChangeAt Go.RowKit Go.Vm
set_option linter.unusedSimpArgs false

set_option maxRecDepth 100000 in
theorem beatTruth_lifted (os : Os) (started : os.Started) (H : Type) (enc : TypeId × Value → H) :
    ReturnsInHanded {} Try.checked os 10 .any (Rows.beatTruthSpec.pre6 enc Try.prog Try.f10 Rows.beatTruthRow.domain false) (Rows.beatTruthSpec.post enc Try.prog Try.f10 false true false false) := by
  refine returnsInHanded_of_change (C := Try.checked) Bt.own started (by kernel_rfl) Try.func10
    (ChangeSpec.witness6 (enc := enc) (C := Try.checked) false ⟨#[], #[.agg #[.int .i64 0, .int .i64 0, .slice none 0 0, .int .i64 0, .slice none 0 0], .int .u16 0, .slice none 0 0, .slice none 0 0, .int .u8 0], []⟩ 8 (by kernel_rfl) (by kernel_rfl) (by kernel_rfl) (by kernel_rfl)) ?_
  intro W base args ds gs before hval0 hW hcnd _
  have hval : ∀ (j : Nat) t v, Try.f10.params[j]? = some t → args[j]? = some v → Value.okWide Try.prog W .any base t v := hval0
  have hW' := hW
  obtain ⟨p, q, hA0, hV, rfl, hfz, hnd⟩ := hW
  have hA : DataW.TrodAll enc Try.prog W 0 (fun _ => true) true Try.f10.params.toList args.toList ds p := hA0
  rw [Try.params10] at hA hval
  have hB0 : DataW.TrodAll enc Try.prog W 0 (fun _ => true) true [27, 95, 96, 96, 5] args.toList ds p := hA
  obtain ⟨rfl, rfl⟩ := trodVars_none hV
  obtain ⟨v0, r0, d0, e0, p0, q0, ha, rfl, rfl, ⟨fu0, t0⟩, hB1⟩ := trodAll_cons hB0
  obtain ⟨v1, r1, d1, e1, p1, q1, rfl, rfl, rfl, ⟨fu1, t1⟩, hB2⟩ := trodAll_cons hB1
  obtain ⟨v2, r2, d2, e2, p2, q2, rfl, rfl, rfl, ⟨fu2, t2⟩, hB3⟩ := trodAll_cons hB2
  obtain ⟨v3, r3, d3, e3, p3, q3, rfl, rfl, rfl, ⟨fu3, t3⟩, hB4⟩ := trodAll_cons hB3
  obtain ⟨v4, r4, d4, e4, p4, q4, rfl, rfl, rfl, ⟨fu4, t4⟩, hB5⟩ := trodAll_cons hB4
  obtain ⟨rfl, rfl, rfl⟩ := trodAll_nil hB5
  have hargs : args = #[v0, v1, v2, v3, v4] := by cases args; simp_all
  subst hargs
  have ok0 := hval 0 27 v0 rfl rfl
  have ok1 := hval 1 95 v1 rfl rfl
  have ok2 := hval 2 96 v2 rfl rfl
  have ok3 := hval 3 96 v3 rfl rfl
  have ok4 := hval 4 5 v4 rfl rfl
  clear hval0 hval
  simp only [List.append_nil] at hW'
  obtain ⟨ya, yb, vv, yc, sv, e0, hy⟩ := Bt.beatW_of t0
  have := Bt.agg_struct Try.underlying27 ok0 e0
  subst this
  obtain ⟨a1, e1, _, wf1⟩ := DataW.trod_int Try.underlying95 t1
  have := Bt.cell_int Try.underlying95 ok1 e1
  subst this
  obtain ⟨b2, e2, hb2⟩ := Bt.flatS_words t2
  have := Bt.cell_slice Try.underlying96 ok2 e2
  subst this
  obtain ⟨b3, e3, hb3⟩ := Bt.flatS_words t3
  have := Bt.cell_slice Try.underlying96 ok3 e3
  subst this
  obtain ⟨a4, e4, _, wf4⟩ := DataW.trod_int Try.underlying5 t4
  have := Bt.cell_int Try.underlying5 ok4 e4
  subst this
  have φ0 : Emb := ⟨fun _ => ⟨0, 0, none⟩, fun _ => 0⟩
  have L := Loaded.empty φ0 W
  have hn0 : AHeap.empty.next = 0 := rfl
  have hfar : far = 4294967296 := rfl
  obtain ⟨φ1, h1, u1, u2, S, s1, k1, k2, hY, rfl, rfl, rfl⟩ := Bt.beat_load L (by omega) hy ya yb yc
  have n1 := s1.next
  obtain ⟨φ2, h2, ub2, s2, kb2, c2, rb2, wb2⟩ := L2.flatW s1.ld (by omega) (by omega) hb2
  have n2 := s2.next
  obtain ⟨φ3, h3, ub3, s3, kb3, c3, rb3, wb3⟩ := L2.flatW s2.ld (by omega) (by omega) hb3
  have n3 := s3.next
  obtain ⟨my, oy⟩ := Bt.stands_beat (w := W) (a := S.slo) (b := S.shi) (c := S.last) ((k1.step s2).step s3) ((k2.step s2).step s3)
  have hfl : h3.floor ≤ h3.next := by rw [s3.floor, s2.floor, s1.floor]; exact Nat.zero_le _
  have hrun : ∃ v h', Bt.call 20000 (.func (.func 10) #[] #[]) [.agg ⟨[.int .i64 S.slo, .int .i64 S.shi, u1, .int .i64 S.last, u2]⟩, .int .u16 a1, ub2, ub3, .int .u8 a4] h3 = some (v, h') ∧ v = .bool true :=
    Bt.truthL_c (by omega) (by omega) hfl ((hY.mono s2.sub).mono s3.sub) a1 wf1 (L2.wordsOf (Cells.mono rb2 s3.sub) wb2) (L2.wordsOf rb3 wb3) a4 wf4
  obtain ⟨v, h', hr, hv⟩ := hrun
  have hc := law_calls (Bt.sound 20000) (args := #[.agg ⟨[.int .i64 S.slo, .int .i64 S.shi, vv, .int .i64 S.last, sv]⟩, .int .u16 a1, v2, v3, .int .u8 a4]) hr hv s3.ld (by
    intro u hu
    simp only [List.mem_cons, List.not_mem_nil, or_false] at hu
    rcases hu with rfl | rfl | rfl | rfl | rfl
    · exact oy
    · simp only [okV]
    · exact (kb2.step s3).ok
    · exact kb3.ok
    · simp only [okV]) (by simp only [List.map_cons, List.map_nil, my, (kb2.step s3).map, kb3.map, Bt.map_int])
  refine hc.mono fun e W' ⟨he, hg, hfr⟩ => ?_
  subst he
  refine ⟨_, rfl, ⟨_, [], _, [], (p0 ++ (p1 ++ (p2 ++ (p3 ++ (p4 ++ []))))), [], hW', trodAll_cons_mk (shut_bool Try.underlying4 _) trodAll_mk0, ?_, rfl, World.keptBut_mono (fun _ h => h.elim) hg, fun h => by cases h⟩⟩
  exact trodAll_stays Bt.kids (fun ht he => slices_full_of Try.prog Bt.slicesOk _ _ ht he) hfr (by rw [Try.params10]; intro t ht; have ht : t ∈ [27, 95, 96, 96, 5] := ht; simp only [List.mem_cons, List.not_mem_nil, or_false] at ht; rcases ht with rfl | rfl | rfl | rfl | rfl <;> exact Nat.lt_trans (by decide) Bt.tsize) hA0

/-- the statement -/
theorem beatTruth_holds : Rows.BeatTruthSaid :=
  OpenClaim.holds_of_wide 10 Try.f10 rfl rfl rfl rfl rfl rfl rfl ⟨rfl, rfl, rfl, rfl, rfl⟩ rfl rfl rfl rfl rfl (by kernel_rfl) Try.func10 (by kernel_rfl)
    (of_decide_eq_true (by kernel_rfl)) (by unfold Func.isWrapper; first | (rw [if_pos (by decide +kernel)]; kernel_rfl) | (rw [if_neg (by decide +kernel)]; exact ⟨rfl, rfl⟩))
    (fun os started H enc _ => beatTruth_lifted os started H enc)
end Go.Proofs.Ytjihegbffhhcaaa
