/-
  PROVED HERE: the statement 'SteepMoreUptoSaid': whatever steep, smell and numbers are handed in, as long as what is handed in is of bulk at most 1048576, the law returns true, and what was handed in reads as it did. Conditions: none but the statement's own (what is handed in is of bulk at most 1048576).
  The road: what is handed in is laid into the evaluator's first heap (VmLift, StLoad); each function of the law's road has a contract for every input (StRef and on); the evaluator is sound (VmP: 'pcall_sound').
-/
import Derived.Test.YtffgdpkogokdhaaPk17

namespace Go.Vm.St
open Go.Proofs Go.Vm.Vat
set_option linter.unusedSimpArgs false
set_option linter.unusedVariables false
set_option maxRecDepth 10000
variable {n : Nat} {h : AHeap}
theorem stands_len {φ : Emb} {a : Option Addr} {k c : Nat} {v : Value} (hs : Stands φ h (.slice a k c) v) : vlen v = k := by
  have := hs.map
  cases a with
  | none => simp only [mapV] at this; subst this; rfl
  | some a => simp only [mapV] at this; subst this; rfl
theorem smell_of {H : Type} {enc : TypeId × Value → H} {w : World} {base : Nat} {sp : Nat → Bool} {held : Bool} {fuel : Nat} {cs : List Value} {x : DataW H × List MemPlace} (h : DataW.trod enc Try.prog w base sp held fuel 105 cs = some x) :
    ∃ v l r, cs = [.int .i64 v, .int .i64 l, .int .i64 r] := by
  obtain ⟨hl, hv⟩ := flat105 _ _ _ _ _ _ _ _ h
  obtain ⟨a, b, c, rfl⟩ : ∃ a b c, cs = [a, b, c] := by
    match cs, hl with
    | [a, b, c], _ => exact ⟨a, b, c, rfl⟩
  obtain ⟨v, rfl, _⟩ := hv a (by simp)
  obtain ⟨l, rfl, _⟩ := hv b (by simp)
  obtain ⟨r, rfl, _⟩ := hv c (by simp)
  exact ⟨v, l, r, rfl⟩
theorem map_smell {φ : Emb} {v l r : Int} : mapV φ (.agg ⟨[.int .i64 v, .int .i64 l, .int .i64 r]⟩) = .agg ⟨[.int .i64 v, .int .i64 l, .int .i64 r]⟩ := by simp [mapV, mapArr, mapL]
theorem bulk_pos {H : Type} (d : DataW H) : 1 ≤ Go.Proofs.Ytffgdpkogokdhaa.Rows.uptoBulk d := by
  cases d with
  | lit x => cases x <;> simp [Go.Proofs.Ytffgdpkogokdhaa.Rows.uptoBulk]
  | _ => simp [Go.Proofs.Ytffgdpkogokdhaa.Rows.uptoBulk]
theorem bulk_len {H : Type} : ∀ l : List (DataW H), l.length ≤ Go.Proofs.Ytffgdpkogokdhaa.Rows.uptoBulkAll l
  | [] => Nat.zero_le _
  | d :: r => by
    have h1 := bulk_pos d
    have h2 := bulk_len r
    simp only [Go.Proofs.Ytffgdpkogokdhaa.Rows.uptoBulkAll, List.length_cons]
    omega
theorem bulk_steep {H : Type} {enc : TypeId × Value → H} {w : World} {base : Nat} {sp : Nat → Bool} {held : Bool} {fuel : Nat} {a b c d wv vv sv : Value} {x : DataW H × List MemPlace} (h : DataW.trod enc Try.prog w base sp held fuel 28 [a, b, wv, c, d, vv, sv] = some x) : vlen sv ≤ Go.Proofs.Ytffgdpkogokdhaa.Rows.uptoBulk x.1 := by
  obtain ⟨xs, n, _, rfl, hl, hx, hf⟩ := DataW.trod_struct Try.underlying28 h
  have hx3 : xs.length = 6 := hx
  obtain ⟨y0, y1, y2, y3, y4, y5, rfl⟩ : ∃ a b c d e f, xs = [a, b, c, d, e, f] := by
    match xs, hx3 with
    | [a, b, c, d, e, f], _ => exact ⟨a, b, c, d, e, f, rfl⟩
  have h2 := hf 5 _ rfl
  change DataW.trod enc Try.prog w base sp held n 26 (([a, b, wv, c, d, vv, sv].drop 6).take (Try.prog.cellsOf 26)) = some y5 at h2
  rw [c26] at h2
  change DataW.trod enc Try.prog w base sp held n 26 [sv] = some y5 at h2
  simp only [List.map_cons, List.map_nil, Go.Proofs.Ytffgdpkogokdhaa.Rows.uptoBulk, Go.Proofs.Ytffgdpkogokdhaa.Rows.uptoBulkAll]
  rcases DataW.trod_slice Try.underlying26 h2 with ⟨e, _⟩ | ⟨a, len, cap, elems, rest, n', _, e, rfl, _, _, _, hlen, _⟩
  · cases e; exact Nat.zero_le _
  · cases e
    simp only [vlen, Go.Proofs.Ytffgdpkogokdhaa.Rows.uptoBulk]
    have := bulk_len (elems.map (·.1))
    rw [List.length_map] at this
    omega
end Go.Vm.St
namespace Go.Proofs.Ytffgdpkogokdhaa
open Go.ChangeShapes Go.WideShapes Go.ChangeAt Go.RowKit Go.Vm
set_option linter.unusedSimpArgs false

set_option maxRecDepth 100000 in
theorem steepMore_lifted (os : Os) (started : os.Started) (H : Type) (enc : TypeId × Value → H) :
    ∀ K : Stop.Interp, ReturnsInHanded {} Try.checked os 16 .any ((Rows.OpenSpec.upto Rows.steepMoreSpec).pre6 enc Try.prog Try.f16 Rows.steepMoreUptoRow.domain false) (((Rows.OpenSpec.upto Rows.steepMoreSpec).at K).post enc Try.prog Try.f16 false true false false) := by
  intro K
  refine returnsInHanded_of_cond (C := Try.checked) (k := Rows.uptoSmall) rfl St.own started (by kernel_rfl) Try.func16
    (OpenSpec.witness (enc := enc) (C := Try.checked) (k := Rows.uptoSmall) rfl false ⟨#[], #[.agg #[.int .i64 0, .int .i64 0, .slice none 0 0, .int .i64 0, .int .i64 0, .slice none 0 0, .slice none 0 0], .agg #[.int .i64 0, .int .i64 0, .int .i64 0], .int .u8 0, .int .u8 0], []⟩ 8 (by kernel_rfl) (by kernel_rfl) (by kernel_rfl)
      (x := ([.agg [.lit (.int .i64 0), .lit (.int .i64 0), .nil, .agg [.lit (.int .i64 0), .lit (.int .i64 0)], .nil, .nil], .agg [.lit (.int .i64 0), .lit (.int .i64 0), .lit (.int .i64 0)], .lit (.int .u8 0), .lit (.int .u8 0)], [], [])) (by kernel_rfl) (by kernel_rfl) (by kernel_rfl)) ?_
  intro W base args ds gs before hval0 hW hcnd hkk _
  have hval : ∀ (j : Nat) t v, Try.f16.params[j]? = some t → args[j]? = some v → Value.okWide Try.prog W .any base t v := hval0
  have hW' := hW
  obtain ⟨p, q, hA0, hV, rfl, hfz, hnd⟩ := hW
  have hA : DataW.TrodAll enc Try.prog W 0 (fun _ => true) true Try.f16.params.toList args.toList ds p := hA0
  rw [Try.params16] at hA hval
  have hB0 : DataW.TrodAll enc Try.prog W 0 (fun _ => true) true [28, 105, 5, 5] args.toList ds p := hA
  obtain ⟨rfl, rfl⟩ := trodVars_none hV
  obtain ⟨v0, r0, d0, e0, p0, q0, ha, rfl, rfl, ⟨fu0, t0⟩, hB1⟩ := trodAll_cons hB0
  obtain ⟨v1, r1, d1, e1, p1, q1, rfl, rfl, rfl, ⟨fu1, t1⟩, hB2⟩ := trodAll_cons hB1
  obtain ⟨v2, r2, d2, e2, p2, q2, rfl, rfl, rfl, ⟨fu2, t2⟩, hB3⟩ := trodAll_cons hB2
  obtain ⟨v3, r3, d3, e3, p3, q3, rfl, rfl, rfl, ⟨fu3, t3⟩, hB4⟩ := trodAll_cons hB3
  obtain ⟨rfl, rfl, rfl⟩ := trodAll_nil hB4
  have hargs : args = #[v0, v1, v2, v3] := by cases args; simp_all
  subst hargs
  have ok0 := hval 0 28 v0 rfl rfl
  have ok1 := hval 1 105 v1 rfl rfl
  have ok2 := hval 2 5 v2 rfl rfl
  have ok3 := hval 3 5 v3 rfl rfl
  clear hval0 hval
  simp only [List.append_nil] at hW'
  obtain ⟨ya, yb, yc, yd, fv, vv, sv, e0, hy⟩ := St.steepW_of t0
  have := St.agg_struct Try.underlying28 ok0 e0
  subst this
  have hbk : vlen sv ≤ 1048576 := by
    have h1 : Rows.uptoBulkAll _ ≤ 1048576 := of_decide_eq_true hkk
    rw [e0] at t0
    have h2 : vlen sv ≤ Rows.uptoBulk d0 := St.bulk_steep t0
    simp only [List.cons_append, Rows.uptoBulkAll] at h1
    omega
  obtain ⟨a1, b1, c1, e1⟩ := St.smell_of t1
  have := St.agg_struct Try.underlying105 ok1 e1
  subst this
  obtain ⟨a2, e2, _, wf2⟩ := DataW.trod_int Try.underlying5 t2
  have := St.cell_int Try.underlying5 ok2 e2
  subst this
  obtain ⟨a3, e3, _, wf3⟩ := DataW.trod_int Try.underlying5 t3
  have := St.cell_int Try.underlying5 ok3 e3
  subst this
  have φ0 : Emb := ⟨fun _ => ⟨0, 0, none⟩, fun _ => 0⟩
  have L := Loaded.empty φ0 W
  have hn0 : AHeap.empty.next = 0 := rfl
  have hfar : far = 4294967296 := rfl
  obtain ⟨φ1, h1, u0, u1, u2, S, s1, k0, k1, k2, hY, rfl, rfl, rfl, rfl⟩ := St.steep_load L (by omega) hy ya yb yc yd
  have n1 := s1.next
  obtain ⟨my, oy⟩ := St.stands_steep (w := W) (a := S.last) (b := S.per) (c := S.splo) (d := S.sphi) k0 k1 k2
  have hfl : h1.floor ≤ h1.next := by rw [s1.floor]; exact Nat.zero_le _
  have hrun : ∃ v h', St.call 20000 (.func (.func 16) #[] #[]) [.agg ⟨[.int .i64 S.last, .int .i64 S.per, u0, .int .i64 S.splo, .int .i64 S.sphi, u1, u2]⟩, .agg ⟨[.int .i64 a1, .int .i64 b1, .int .i64 c1]⟩, .int .u8 a2, .int .u8 a3] h1 = some (v, h') ∧ v = .bool true :=
    by
    obtain ⟨k2', rfl, hk2⟩ := St.wf8 wf2
    obtain ⟨k3', rfl, hk3⟩ := St.wf8 wf3
    have hns : S.ns ≤ 1048576 := by
      obtain ⟨a, cap, e, _⟩ := hY.s
      subst e
      have := St.stands_len k2
      omega
    exact St.moreL_c (by omega) (by omega) hfl hY hns hk2 hk3
  obtain ⟨v, h', hr, hv⟩ := hrun
  have hc := law_calls (St.sound 20000) (args := #[.agg ⟨[.int .i64 S.last, .int .i64 S.per, fv, .int .i64 S.splo, .int .i64 S.sphi, vv, sv]⟩, .agg ⟨[.int .i64 a1, .int .i64 b1, .int .i64 c1]⟩, .int .u8 a2, .int .u8 a3]) hr hv s1.ld (by
    intro u hu
    simp only [List.mem_cons, List.not_mem_nil, or_false] at hu
    rcases hu with rfl | rfl | rfl | rfl
    · exact oy
    · simp only [okV, okA, okL, and_true]
    · simp only [okV]
    · simp only [okV]) (by simp only [List.map_cons, List.map_nil, my, St.map_smell, St.map_int])
  refine hc.mono fun e W' ⟨he, hg, hfr⟩ => ?_
  subst he
  refine ⟨_, rfl, ⟨_, [], _, [], (p0 ++ (p1 ++ (p2 ++ (p3 ++ [])))), [], hW', trodAll_cons_mk (shut_bool Try.underlying4 _) trodAll_mk0, ?_, rfl, World.keptBut_mono (fun _ h => h.elim) hg, fun h => by cases h⟩⟩
  exact trodAll_stays St.kids (fun ht he => slices_full_of Try.prog St.slicesOk _ _ ht he) hfr (by rw [Try.params16]; intro t ht; have ht : t ∈ [28, 105, 5, 5] := ht; simp only [List.mem_cons, List.not_mem_nil, or_false] at ht; rcases ht with rfl | rfl | rfl | rfl <;> exact Nat.lt_trans (by decide) St.tsize) hA0

/-- the statement -/
theorem steepMoreUpto_holds : Rows.SteepMoreUptoSaid :=
  OpenClaim.holds_of_cond 16 Try.f16 rfl rfl rfl rfl rfl rfl rfl ⟨rfl, rfl, rfl, rfl, rfl⟩ rfl rfl rfl rfl rfl (by kernel_rfl) Try.func16 (by kernel_rfl)
    (of_decide_eq_true (by kernel_rfl)) (by unfold Func.isWrapper; first | (rw [if_pos (by decide +kernel)]; kernel_rfl) | (rw [if_neg (by decide +kernel)]; exact ⟨rfl, rfl⟩))
    (fun os started H enc _ K => steepMore_lifted os started H enc K)
end Go.Proofs.Ytffgdpkogokdhaa
