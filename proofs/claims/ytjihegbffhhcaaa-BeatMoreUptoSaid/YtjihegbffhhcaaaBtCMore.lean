/-
  PROVED HERE: the statement 'BeatMoreUptoSaid', as long as what is handed in is of bulk at most 1048576: whatever beating and sample are handed in, the law returns true, and what was handed in reads as it did. Conditions: none but the statement's own (what is handed in is of bulk at most 1048576).
  The road: what is handed in is laid into the evaluator's first heap (VmLift, BtLoad); each function of the law's road has a contract for every input (BtRef and on); the evaluator is sound (VmP: 'pcall_sound').
-/
import Derived.Test.YtjihegbffhhcaaaPk13
namespace Go.Vm.Bt
open Go.Proofs Go.Vm.Vat Go.Vm.L2
set_option linter.unusedSimpArgs false
set_option linter.unusedVariables false
set_option maxRecDepth 10000
variable {n : Nat} {h : AHeap}
theorem stands_len {φ : Emb} {a : Option Addr} {k c : Nat} {v : Value} (hs : Stands φ h (.slice a k c) v) : vlen v = k := by
  have := hs.map
  cases a with
  | none => simp only [mapV] at this; subst this; rfl
  | some a => simp only [mapV] at this; subst this; rfl
theorem bulk_pos {H : Type} (d : DataW H) : 1 ≤ Go.Proofs.Ytjihegbffhhcaaa.Rows.uptoBulk d := by
  cases d with
  | lit x => cases x <;> simp [Go.Proofs.Ytjihegbffhhcaaa.Rows.uptoBulk]
  | _ => simp [Go.Proofs.Ytjihegbffhhcaaa.Rows.uptoBulk]
theorem bulk_len {H : Type} : ∀ l : List (DataW H), l.length ≤ Go.Proofs.Ytjihegbffhhcaaa.Rows.uptoBulkAll l
  | [] => Nat.zero_le _
  | d :: r => by
    have h1 := bulk_pos d
    have h2 := bulk_len r
    simp only [Go.Proofs.Ytjihegbffhhcaaa.Rows.uptoBulkAll, List.length_cons]
    omega
theorem bulk_beat {H : Type} {enc : TypeId × Value → H} {w : World} {base : Nat} {sp : Nat → Bool} {held : Bool} {fuel : Nat} {a b c vv sv : Value} {x : DataW H × List MemPlace} (h : DataW.trod enc Try.prog w base sp held fuel 27 [a, b, vv, c, sv] = some x) : vlen sv ≤ Go.Proofs.Ytjihegbffhhcaaa.Rows.uptoBulk x.1 := by
  obtain ⟨xs, n, _, rfl, hl, hx, hf⟩ := DataW.trod_struct Try.underlying27 h
  have hx3 : xs.length = 4 := hx
  obtain ⟨y0, y1, y2, y3, rfl⟩ : ∃ a b c d, xs = [a, b, c, d] := by
    match xs, hx3 with
    | [a, b, c, d], _ => exact ⟨a, b, c, d, rfl⟩
  have h2 := hf 3 _ rfl
  change DataW.trod enc Try.prog w base sp held n 25 (([a, b, vv, c, sv].drop 4).take (Try.prog.cellsOf 25)) = some y3 at h2
  rw [c25] at h2
  change DataW.trod enc Try.prog w base sp held n 25 [sv] = some y3 at h2
  simp only [List.map_cons, List.map_nil, Go.Proofs.Ytjihegbffhhcaaa.Rows.uptoBulk, Go.Proofs.Ytjihegbffhhcaaa.Rows.uptoBulkAll]
  rcases DataW.trod_slice Try.underlying25 h2 with ⟨e, _⟩ | ⟨a, len, cap, elems, rest, n', _, e, rfl, _, _, _, hlen, _⟩
  · cases e; exact Nat.zero_le _
  · cases e
    simp only [vlen, Go.Proofs.Ytjihegbffhhcaaa.Rows.uptoBulk]
    have := bulk_len (elems.map (·.1))
    rw [List.length_map] at this
    omega
end Go.Vm.Bt
namespace Go.Proofs.Ytjihegbffhhcaaa
open Go.ChangeShapes Go.WideShapes Go.ChangeAt Go.RowKit Go.Vm
set_option linter.unusedSimpArgs false

set_option maxRecDepth 100000 in
theorem beatMore_lifted (os : Os) (started : os.Started) (H : Type) (enc : TypeId × Value → H) :
    ∀ K : Stop.Interp, ReturnsInHanded {} Try.checked os 18 .any ((Rows.OpenSpec.upto Rows.beatMoreSpec).pre6 enc Try.prog Try.f18 Rows.beatMoreUptoRow.domain false) (((Rows.OpenSpec.upto Rows.beatMoreSpec).at K).post enc Try.prog Try.f18 false true false false) := by
  intro K
  refine returnsInHanded_of_cond (C := Try.checked) (k := Rows.uptoSmall) rfl Bt.own started (by kernel_rfl) Try.func18
    (OpenSpec.witness (enc := enc) (C := Try.checked) (k := Rows.uptoSmall) rfl false ⟨#[], #[.agg #[.int .i64 0, .int .i64 0, .slice none 0 0, .int .i64 0, .slice none 0 0], .agg #[.int .i64 0, .int .i64 0, .bool false]], []⟩ 8 (by kernel_rfl) (by kernel_rfl) (by kernel_rfl)
      (x := ([.agg [.agg [.lit (.int .i64 0), .lit (.int .i64 0)], .nil, .lit (.int .i64 0), .nil], .agg [.lit (.int .i64 0), .lit (.int .i64 0), .lit (.bool false)]], [], [])) (by kernel_rfl) (by kernel_rfl) (by kernel_rfl)) ?_
  intro W base args ds gs before hval0 hW hcnd hkk _
  have hval : ∀ (j : Nat) t v, Try.f18.params[j]? = some t → args[j]? = some v → Value.okWide Try.prog W .any base t v := hval0
  have hW' := hW
  obtain ⟨p, q, hA0, hV, rfl, hfz, hnd⟩ := hW
  have hA : DataW.TrodAll enc Try.prog W 0 (fun _ => true) true Try.f18.params.toList args.toList ds p := hA0
  rw [Try.params18] at hA hval
  have hB0 : DataW.TrodAll enc Try.prog W 0 (fun _ => true) true [27, 113] args.toList ds p := hA
  obtain ⟨rfl, rfl⟩ := trodVars_none hV
  obtain ⟨v0, r0, d0, e0, p0, q0, ha, rfl, rfl, ⟨fu0, t0⟩, hB1⟩ := trodAll_cons hB0
  obtain ⟨v1, r1, d1, e1, p1, q1, rfl, rfl, rfl, ⟨fu1, t1⟩, hB2⟩ := trodAll_cons hB1
  obtain ⟨rfl, rfl, rfl⟩ := trodAll_nil hB2
  have hargs : args = #[v0, v1] := by cases args; simp_all
  subst hargs
  have ok0 := hval 0 27 v0 rfl rfl
  have ok1 := hval 1 113 v1 rfl rfl
  clear hval0 hval
  simp only [List.append_nil] at hW'
  obtain ⟨ya, yb, vv, yc, sv, e0, hy⟩ := Bt.beatW_of t0
  have := Bt.agg_struct Try.underlying27 ok0 e0
  subst this
  have hbk : vlen sv ≤ 1048576 := by
    have h1 : Rows.uptoBulkAll _ ≤ 1048576 := of_decide_eq_true hkk
    rw [e0] at t0
    have h2 : vlen sv ≤ Rows.uptoBulk d0 := Bt.bulk_beat t0
    simp only [List.cons_append, Rows.uptoBulkAll] at h1
    omega
  obtain ⟨a1, b1, d1, e1⟩ := Bt.samp_cells t1
  have := Bt.agg_struct Try.underlying113 ok1 e1
  subst this
  have φ0 : Emb := ⟨fun _ => ⟨0, 0, none⟩, fun _ => 0⟩
  have L := Loaded.empty φ0 W
  have hn0 : AHeap.empty.next = 0 := rfl
  have hfar : far = 4294967296 := rfl
  obtain ⟨φ1, h1, u1, u2, S, s1, k1, k2, hY, rfl, rfl, rfl⟩ := Bt.beat_load L (by omega) hy ya yb yc
  have n1 := s1.next
  obtain ⟨my, oy⟩ := Bt.stands_beat (w := W) (a := S.slo) (b := S.shi) (c := S.last) k1 k2
  have hfl : h1.floor ≤ h1.next := by rw [s1.floor]; exact Nat.zero_le _
  have hrun : ∃ v h', Bt.call 20000 (.func (.func 18) #[] #[]) [.agg ⟨[.int .i64 S.slo, .int .i64 S.shi, u1, .int .i64 S.last, u2]⟩, .agg ⟨[.int .i64 a1, .int .i64 b1, .bool d1]⟩] h1 = some (v, h') ∧ v = .bool true :=
    by
    have hns : S.ns ≤ 1048576 := by
      obtain ⟨a, cap, e, _⟩ := hY.s
      subst e
      have := Bt.stands_len k2
      omega
    exact Bt.moreL_c (by omega) (by omega) hfl hY hns
  obtain ⟨v, h', hr, hv⟩ := hrun
  have hc := law_calls (Bt.sound 20000) (args := #[.agg ⟨[.int .i64 S.slo, .int .i64 S.shi, vv, .int .i64 S.last, sv]⟩, .agg ⟨[.int .i64 a1, .int .i64 b1, .bool d1]⟩]) hr hv s1.ld (by
    intro u hu
    simp only [List.mem_cons, List.not_mem_nil, or_false] at hu
    rcases hu with rfl | rfl
    · exact oy
    · simp only [okV, okA, okL, and_true]) (by simp only [List.map_cons, List.map_nil, my, mapV, mapArr, mapL, k1.map, k2.map, Bt.map_int])
  refine hc.mono fun e W' ⟨he, hg, hfr⟩ => ?_
  subst he
  refine ⟨_, rfl, ⟨_, [], _, [], (p0 ++ (p1 ++ [])), [], hW', trodAll_cons_mk (shut_bool Try.underlying4 _) trodAll_mk0, ?_, rfl, World.keptBut_mono (fun _ h => h.elim) hg, fun h => by cases h⟩⟩
  exact trodAll_stays Bt.kids (fun ht he => slices_full_of Try.prog Bt.slicesOk _ _ ht he) hfr (by rw [Try.params18]; intro t ht; have ht : t ∈ [27, 113] := ht; simp only [List.mem_cons, List.not_mem_nil, or_false] at ht; rcases ht with rfl | rfl <;> exact Nat.lt_trans (by decide) Bt.tsize) hA0

/-- the statement -/
theorem beatMoreUpto_holds : Rows.BeatMoreUptoSaid :=
  OpenClaim.holds_of_cond 18 Try.f18 rfl rfl rfl rfl rfl rfl rfl ⟨rfl, rfl, rfl, rfl, rfl⟩ rfl rfl rfl rfl rfl (by kernel_rfl) Try.func18 (by kernel_rfl)
    (of_decide_eq_true (by kernel_rfl)) (by unfold Func.isWrapper; first | (rw [if_pos (by decide +kernel)]; kernel_rfl) | (rw [if_neg (by decide +kernel)]; exact ⟨rfl, rfl⟩))
    (fun os started H enc _ K => beatMore_lifted os started H enc K)
end Go.Proofs.Ytjihegbffhhcaaa
