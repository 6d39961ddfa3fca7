/-
  PROVED HERE: the statement of 'GangTruth': whatever gang, words and numbers are handed in, the law returns true, and what was handed in reads as it did. Conditions: none but the statement's own.
  The road: what is handed in is laid into the evaluator's first heap (VmLift, GgLoad); each function of the law's road has a contract for every input (S4Ref, GgRef and on); the evaluator is sound (VmP: 'pcall_sound').
-/
import Derived.Test.YtlkambpieajplaaGreatPt23
namespace Go.Proofs.YtlkambpieajplaaGreat
open Go.ChangeShapes Go.WideShapes Go.ChangeAt Go.RowKit Go.Vm
set_option linter.unusedSimpArgs false

set_option maxRecDepth 100000 in
theorem gangTruth_lifted (os : Os) (started : os.Started) (H : Type) (enc : TypeId × Value → H) :
    ReturnsInHanded {} Tryz.checked os 10 .any (Rows.gangTruthSpec.pre6 enc Tryz.prog Tryz.f10 Rows.gangTruthRow.domain false) (Rows.gangTruthSpec.post enc Tryz.prog Tryz.f10 false true false false) := by
  refine returnsInHanded_of_change (C := Tryz.checked) St.own started (by kernel_rfl) Tryz.func10
    (ChangeSpec.witness6 (enc := enc) (C := Tryz.checked) false ⟨#[], #[.agg #[.int .i64 0, .int .i64 0, .slice none 0 0, .int .i64 0, .int .i64 0, .slice none 0 0, .slice none 0 0, .int .i64 0, .int .i64 0, .slice none 0 0], .slice none 0 0, .int .u16 0, .int .u16 0], []⟩ 8 (by kernel_rfl) (by kernel_rfl) (by kernel_rfl) (by kernel_rfl)) ?_
  intro W base args ds gs before hval0 hW hcnd _
  have hval : ∀ (j : Nat) t v, Tryz.f10.params[j]? = some t → args[j]? = some v → Value.okWide Tryz.prog W .any base t v := hval0
  have hW' := hW
  obtain ⟨p, q, hA0, hV, rfl, hfz, hnd⟩ := hW
  have hA : DataW.TrodAll enc Tryz.prog W 0 (fun _ => true) true Tryz.f10.params.toList args.toList ds p := hA0
  rw [Tryz.params10] at hA hval
  have hB0 : DataW.TrodAll enc Tryz.prog W 0 (fun _ => true) true [31, 81, 82, 82] args.toList ds p := hA
  obtain ⟨rfl, rfl⟩ := trodVars_none hV
  obtain ⟨v0, r0, d0, e0, p0, q0, ha, rfl, rfl, ⟨fu0, t0⟩, hB1⟩ := trodAll_cons hB0
  obtain ⟨v1, r1, d1, e1, p1, q1, rfl, rfl, rfl, ⟨fu1, t1⟩, hB2⟩ := trodAll_cons hB1
  obtain ⟨v2, r2, d2, e2, p2, q2, rfl, rfl, rfl, ⟨fu2, t2⟩, hB3⟩ := trodAll_cons hB2
  obtain ⟨v3, r3, d3, e3, p3, q3, rfl, rfl, rfl, ⟨fu3, t3⟩, hB4⟩ := trodAll_cons hB3
  obtain ⟨rfl, rfl, rfl⟩ := trodAll_nil hB4
  have hargs : args = #[v0, v1, v2, v3] := by cases args; simp_all
  subst hargs
  have ok0 := hval 0 31 v0 rfl rfl
  have ok1 := hval 1 81 v1 rfl rfl
  have ok2 := hval 2 82 v2 rfl rfl
  have ok3 := hval 3 82 v3 rfl rfl
  clear hval0 hval
  simp only [List.append_nil] at hW'
  obtain ⟨ya, yb, yc, yd, ye, yf, wv, vv, sv, kv, e0, hy⟩ := St.gangW_of t0
  have := St.agg_struct Tryz.underlying31 ok0 e0
  subst this
  obtain ⟨b1, e1, hb1⟩ := St.flatS_words t1
  have := St.cell_slice Tryz.underlying81 ok1 e1
  subst this
  obtain ⟨a2, e2, _, wf2⟩ := DataW.trod_int Tryz.underlying82 t2
  have := St.cell_int Tryz.underlying82 ok2 e2
  subst this
  obtain ⟨a3, e3, _, wf3⟩ := DataW.trod_int Tryz.underlying82 t3
  have := St.cell_int Tryz.underlying82 ok3 e3
  subst this
  have φ0 : Emb := ⟨fun _ => ⟨0, 0, none⟩, fun _ => 0⟩
  have L := Loaded.empty φ0 W
  have hn0 : AHeap.empty.next = 0 := rfl
  have hfar : far = 4294967296 := rfl
  obtain ⟨φ1, h1, x0, x1, x2, x3, G, s1, k0, k1, k2, k3, hY, rfl, rfl, rfl, rfl, rfl, rfl⟩ := St.gang_load L (by omega) hy ya yb yc yd ye yf
  have n1 := s1.next
  obtain ⟨φ2, h2, ub1, s2, kb1, c1, rb1, wb1⟩ := St.flatW s1.ld (by omega) (by omega) hb1
  have n2 := s2.next
  obtain ⟨my, oy⟩ := St.stands_gang (w := W) (a := G.s.last) (b := G.s.per) (c := G.s.splo) (d := G.s.sphi) (e := G.men) (f := G.close) (k0.step s2) (k1.step s2) (k2.step s2) (k3.step s2)
  have hfl : h2.floor ≤ h2.next := by rw [s2.floor, s1.floor]; exact Nat.zero_le _
  have hrun : ∃ v h', St.call 20000 (.func (.func 10) #[] #[]) [.agg ⟨[.int .i64 G.s.last, .int .i64 G.s.per, x0, .int .i64 G.s.splo, .int .i64 G.s.sphi, x1, x2, .int .i64 G.men, .int .i64 G.close, x3]⟩, ub1, .int .u16 a2, .int .u16 a3] h2 = some (v, h') ∧ v = .bool true :=
    St.lawTruth_c (by omega) (by omega) hfl (hY.mono s2.sub) (St.wordsOf rb1 wb1) a2 wf2 a3 wf3
  obtain ⟨v, h', hr, hv⟩ := hrun
  have hc := law_calls (St.sound 20000) (args := #[.agg ⟨[.int .i64 G.s.last, .int .i64 G.s.per, wv, .int .i64 G.s.splo, .int .i64 G.s.sphi, vv, sv, .int .i64 G.men, .int .i64 G.close, kv]⟩, v1, .int .u16 a2, .int .u16 a3]) hr hv s2.ld (by
    intro u hu
    simp only [List.mem_cons, List.not_mem_nil, or_false] at hu
    rcases hu with rfl | rfl | rfl | rfl
    · exact oy
    · exact kb1.ok
    · simp only [okV]
    · simp only [okV]) (by simp only [List.map_cons, List.map_nil, my, kb1.map, St.map_int])
  refine hc.mono fun e W' ⟨he, hg, hfr⟩ => ?_
  subst he
  refine ⟨_, rfl, ⟨_, [], _, [], (p0 ++ (p1 ++ (p2 ++ (p3 ++ [])))), [], hW', trodAll_cons_mk (shut_bool Tryz.underlying4 _) trodAll_mk0, ?_, rfl, World.keptBut_mono (fun _ h => h.elim) hg, fun h => by cases h⟩⟩
  exact trodAll_stays St.kids (fun ht he => slices_full_of Tryz.prog St.slicesOk _ _ ht he) hfr (by rw [Tryz.params10]; intro t ht; have ht : t ∈ [31, 81, 82, 82] := ht; simp only [List.mem_cons, List.not_mem_nil, or_false] at ht; rcases ht with rfl | rfl | rfl | rfl <;> exact Nat.lt_trans (by decide) St.tsize) hA0

/-- the statement -/
theorem gangTruth_holds : Rows.GangTruthSaid :=
  OpenClaim.holds_of_wide 10 Tryz.f10 rfl rfl rfl rfl rfl rfl rfl ⟨rfl, rfl, rfl, rfl, rfl⟩ rfl rfl rfl rfl rfl (by kernel_rfl) Tryz.func10 (by kernel_rfl)
    (of_decide_eq_true (by kernel_rfl)) (by unfold Func.isWrapper; first | (rw [if_pos (by decide +kernel)]; kernel_rfl) | (rw [if_neg (by decide +kernel)]; exact ⟨rfl, rfl⟩))
    (fun os started H enc _ => gangTruth_lifted os started H enc)
end Go.Proofs.YtlkambpieajplaaGreat
