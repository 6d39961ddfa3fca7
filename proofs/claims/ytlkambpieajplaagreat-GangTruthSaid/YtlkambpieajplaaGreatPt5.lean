/- Texts of the proofs of this seat, put together: S4V1, S4V2, S4V3, S4V4, S4V5, S4V6, S4L1, S4L2, S4Nth. -/
import Derived.Test.YtlkambpieajplaaGreatPt4

namespace Go.Vm.St
open Go.Proofs Go.Vm.Vat
set_option linter.unusedSimpArgs false
set_option linter.unusedVariables false
set_option maxRecDepth 10000
variable {n : Nat} {h : AHeap}
def s163 : SCode := (.seq (.ops [jO 2 (.box (T 0)), jO 4 (.mov (.const (.bool false)))]) (.seq (.ops [jO 5 (.fieldAddr 0 (T 2)), jO 6 (.load1 (T 5)), jO 7 (.int2 .leq (jK 0) (T 6)), jO 8 (.mov (T 7)), ⟨some 9, (some (8, true)), .fieldAddr 0 (T 2)⟩, ⟨some 10, (some (8, true)), .load1 (T 9)⟩, ⟨some 11, (some (8, true)), .fieldAddr 1 (T 2)⟩, ⟨some 12, (some (8, true)), .load1 (T 11)⟩, ⟨some 13, (some (8, true)), .int2 .leq (T 10) (T 12)⟩, jO 14 (.pick (T 8) (T 13) (.const (.bool false))), jO 15 (.mov (T 14)), ⟨some 16, (some (15, true)), .fieldAddr 1 (T 2)⟩, ⟨some 17, (some (15, true)), .load1 (T 16)⟩, ⟨some 18, (some (15, true)), .mov (T 1)⟩, ⟨some 19, (some (15, true)), .int2 .leq (T 17) (T 18)⟩, jO 20 (.pick (T 15) (T 19) (.const (.bool false))), jO 4 (.mov (T 20))]) .ret))
theorem fok163 : FnOk Tryz.prog 163 21 s163 [.tmp 4] := ⟨Tryz.f163, _, Tryz.func163, rfl, Tryz.ntmps163, by kernel_rfl, by kernel_rfl⟩
theorem isUpTo_c (hn : 1 ≤ n) (hr : h.next < far) (lo hi m : Int) : call n (.func (.func 163) #[] #[]) [.agg ⟨[.int .i64 lo, .int .i64 hi]⟩, .int .i64 m] h = some (.bool (decide (0 ≤ lo ∧ lo ≤ hi ∧ hi ≤ m)), h) := by
  obtain ⟨n, rfl⟩ : ∃ p, n = p + 1 := ⟨n - 1, by omega⟩
  refine call_plain0 fok163 rfl rfl (by simp) rfl ?_
  simp only [s163, jO, jF, jR, jS, jU, jA, jK, W_seq, W_ops]
  refine ops_box (cs := [.int .i64 lo, .int .i64 hi]) (by exact hr) rfl rfl fun h1 hb => ?_
  by_cases c1 : 0 ≤ lo <;> by_cases c2 : lo ≤ hi <;> by_cases c3 : hi ≤ m <;> simp only [rn0, reduceIte, Nat.reduceEqDiff, Nat.reduceAdd, Nat.reduceMul, Nat.reduceSub, Nat.reduceLeDiff, Nat.reduceLT, hb.ld, Nat.zero_add, List.getElem?_cons_zero, List.getElem?_cons_succ, c1, c2, c3, and_self, and_false, false_and]
def s162 : SCode := (.seq (.ops [jO 1 (.box (T 0)), jO 2 (.mov (.const (.bool false)))]) (.seq (.ops [jO 3 (.loadN 2 (T 1)), jO 4 (.call (.func 163) [(T 3), (jK 9)]), jO 2 (.mov (T 4))]) .ret))
theorem fok162 : FnOk Tryz.prog 162 5 s162 [.tmp 2] := ⟨Tryz.f162, _, Tryz.func162, rfl, Tryz.ntmps162, by kernel_rfl, by kernel_rfl⟩
theorem isWarm_c (hn : 2 ≤ n) (hr : h.next + 1 < far) (lo hi : Int) : call n (.func (.func 162) #[] #[]) [.agg ⟨[.int .i64 lo, .int .i64 hi]⟩] h = some (.bool (decide (0 ≤ lo ∧ lo ≤ hi ∧ hi ≤ 9)), h) := by
  obtain ⟨n, rfl⟩ : ∃ p, n = p + 1 := ⟨n - 1, by omega⟩
  refine call_plain0 fok162 rfl rfl (by simp) rfl ?_
  have hr : h.shutAll.next + 1 < far := hr
  generalize h.shutAll = h at hr
  simp only [s162, jO, jF, jR, jS, jU, jA, jK, W_seq, W_ops]
  refine ops_box (cs := [.int .i64 lo, .int .i64 hi]) (by omega) rfl rfl fun h1 hb => ?_
  have hr1 : h1.next < far := by rw [hb.next]; exact hr
  simp only [rn0, reduceIte, Nat.reduceEqDiff, Nat.reduceAdd, Nat.reduceMul, Nat.reduceSub, Nat.reduceLeDiff, Nat.reduceLT, hb.ldN 0 2 (by simp) (by simp), List.drop_zero, List.take_succ_cons, List.take_zero, isUpTo_c (n := n) (by omega) hr1]
def s132 : SCode := (.seq (.ops [jO 2 (.box (T 0)), jO 4 (.mov (.const (.bool false)))]) (.seq (.ops [jO 5 (.mov (T 1)), jO 6 (.int2 .leq (jK 0) (T 5)), jO 7 (.mov (T 6)), ⟨some 8, (some (7, true)), .mov (T 1)⟩, ⟨some 9, (some (7, true)), .fieldAddr 0 (T 2)⟩, ⟨some 10, (some (7, true)), .fieldAddr 5 (T 9)⟩, ⟨some 11, (some (7, true)), .load1 (T 10)⟩, ⟨some 12, (some (7, true)), .len (T 11)⟩, ⟨some 13, (some (7, true)), .int2 .lss (T 8) (T 12)⟩, jO 14 (.pick (T 7) (T 13) (.const (.bool false))), jO 4 (.mov (T 14))]) .ret))
theorem fok132 : FnOk Tryz.prog 132 15 s132 [.tmp 4] := ⟨Tryz.f132, _, Tryz.func132, rfl, Tryz.ntmps132, by kernel_rfl, by kernel_rfl⟩
theorem hasVat_c (hn : 1 ≤ n) (hr : h.next < far) {wv vv sv tv : Value} {S : MS} (hy : SteepR h wv vv sv S) (ht : oneCell tv = true) (at_ : Int) :
    call n (.func (.func 132) #[] #[]) [.agg ⟨wkL S wv vv sv tv⟩, .int .i64 at_] h = some (.bool (decide (0 ≤ at_ ∧ at_ ≤ (S.nv : Int) - 1)), h) := by
  obtain ⟨n, rfl⟩ : ∃ p, n = p + 1 := ⟨n - 1, by omega⟩
  refine call_plain0 fok132 rfl rfl (by simp) rfl ?_
  have hy := hy.shut
  have hr : h.shutAll.next < far := hr
  generalize h.shutAll = h at hy hr
  simp only [s132, jO, jF, jR, jS, jU, jA, jK, W_seq, W_ops]
  refine ops_box (cs := wkL S wv vv sv tv) hr rfl (wk_one hy ht) fun h1 hx => ?_
  have hy := hy.mono hx.sub
  have e : (at_ < (S.nv : Int)) = (at_ ≤ (S.nv : Int) - 1) := by simp only [eq_iff_iff]; omega
  by_cases c1 : 0 ≤ at_ <;> by_cases c2 : at_ ≤ (S.nv : Int) - 1 <;> simp only [rn0, reduceIte, Nat.reduceEqDiff, Nat.reduceAdd, Nat.reduceMul, Nat.reduceSub, Nat.reduceLeDiff, Nat.reduceLT, hx.ld, wkg, Nat.zero_add, Cells.len hy.v, e, c1, c2, and_self, and_false, false_and]
def s135 : SCode := (.seq (.ops [jO 3 (.box (T 0)), jO 6 (.mov (.const (.bool false)))]) (.seq (.ops [jO 7 (.fieldAddr 0 (T 3)), jO 8 (.fieldAddr 5 (T 7)), jO 9 (.load1 (T 8)), jO 10 (.mov (T 1)), jO 11 (.idxSl 4 (T 9) (T 10)), jO 12 (.fieldAddr 0 (T 11)), jO 13 (.load1 (T 12)), jO 14 (.mov (T 2)), jO 15 (.int2 .leq (T 13) (T 14)), jO 16 (.mov (T 15)), ⟨some 17, (some (16, true)), .mov (T 2)⟩, ⟨some 18, (some (16, true)), .fieldAddr 0 (T 3)⟩, ⟨some 19, (some (16, true)), .fieldAddr 0 (T 18)⟩, ⟨some 20, (some (16, true)), .load1 (T 19)⟩, ⟨some 21, (some (16, true)), .int2 .leq (T 17) (T 20)⟩, jO 22 (.pick (T 16) (T 21) (.const (.bool false))), jO 6 (.mov (T 22))]) .ret))
theorem fok135 : FnOk Tryz.prog 135 23 s135 [.tmp 6] := ⟨Tryz.f135, _, Tryz.func135, rfl, Tryz.ntmps135, by kernel_rfl, by kernel_rfl⟩
theorem hasHour_c (hn : 1 ≤ n) (hr : h.next < far) {wv vv sv tv : Value} {S : MS} (hy : SteepR h wv vv sv S) (ht : oneCell tv = true) {v : Nat} (hv : v < S.nv) (hh : Int) :
    call n (.func (.func 135) #[] #[]) [.agg ⟨wkL S wv vv sv tv⟩, .int .i64 (v : Int), .int .i64 hh] h = some (.bool (decide (S.vb v ≤ hh ∧ hh ≤ S.last)), h) := by
  obtain ⟨n, rfl⟩ : ∃ p, n = p + 1 := ⟨n - 1, by omega⟩
  refine call_plain0 fok135 rfl rfl (by simp) rfl ?_
  have hy := hy.shut
  have hr : h.shutAll.next < far := hr
  generalize h.shutAll = h at hy hr
  simp only [s135, jO, jF, jR, jS, jU, jA, jK, W_seq, W_ops]
  refine ops_box (cs := wkL S wv vv sv tv) hr rfl (wk_one hy ht) fun h1 hx => ?_
  have hy := hy.mono hx.sub
  by_cases c1 : S.vb v ≤ hh <;> by_cases c2 : hh ≤ S.last <;> simp only [rn0, reduceIte, Nat.reduceEqDiff, Nat.reduceAdd, Nat.reduceMul, Nat.reduceSub, Nat.reduceLeDiff, Nat.reduceLT, hx.ld, wkg, Nat.zero_add, Cells.idx hy.v hv, Cells.fld hy.v hv, begin_ld hy hv, c1, c2, and_self, and_false, false_and]
def s137 : SCode := (.seq (.ops [jO 2 (.box (T 0)), jO 4 (.mov (jK 0))]) (.seq (.draw [jF 5 (.fieldAddr 0 (T 2)), jF 6 (.fieldAddr 0 (T 5)), jS 7 (.load1 (T 6)), jF 8 (.fieldAddr 0 (T 2)), jF 9 (.fieldAddr 5 (T 8)), jS 10 (.load1 (T 9)), jF 11 (.mov (T 1)), jF 12 (.idxSl 4 (T 10) (T 11)), jF 13 (.fieldAddr 0 (T 12)), jS 14 (.load1 (T 13)), jF 15 (.int2 .sub (T 7) (T 14)), jF 16 (.int2 .add (T 15) (jK 1)), jF 4 (.mov (T 16))]) .ret))
theorem fok137 : FnOk Tryz.prog 137 17 s137 [.tmp 4] := ⟨Tryz.f137, _, Tryz.func137, rfl, Tryz.ntmps137, by kernel_rfl, by kernel_rfl⟩
theorem hoursOf_c (hn : 1 ≤ n) (hr : h.next < far) {wv vv sv tv : Value} {S : MS} (hy : SteepR h wv vv sv S) (ht : oneCell tv = true) (hG : Good S) {v : Nat} (hv : v < S.nv) :
    call n (.func (.func 137) #[] #[]) [.agg ⟨wkL S wv vv sv tv⟩, .int .i64 (v : Int)] h = some (.int .i64 (S.last - S.vb v + 1), h) := by
  obtain ⟨n, rfl⟩ : ∃ p, n = p + 1 := ⟨n - 1, by omega⟩
  refine call_plain0 fok137 rfl rfl (by simp) rfl ?_
  have hy := hy.shut
  have hr : h.shutAll.next < far := hr
  generalize h.shutAll = h at hy hr
  obtain ⟨⟨q1, q2⟩, _⟩ := hG.args.vat v hv
  obtain ⟨z1, z2, _⟩ := hG.sizes
  have w1 : wrapF .i64 (S.last - S.vb v) = S.last - S.vb v := wrap_in (by omega) (by omega)
  have w2 : wrapF .i64 (S.last - S.vb v + 1) = S.last - S.vb v + 1 := wrap_in (by omega) (by omega)
  simp only [s137, jO, jF, jR, jS, jU, jA, jK, W_seq, W_ops]
  refine ops_box (cs := wkL S wv vv sv tv) hr rfl (wk_one hy ht) fun h1 hx => ?_
  have hy := hy.mono hx.sub
  simp only [rn0, reduceIte, Nat.reduceEqDiff, Nat.reduceAdd, Nat.reduceMul, Nat.reduceSub, Nat.reduceLeDiff, Nat.reduceLT]
  refine W_draw All ?_
  simp only [rn0, reduceIte, Nat.reduceEqDiff, Nat.reduceAdd, Nat.reduceMul, Nat.reduceSub, Nat.reduceLeDiff, Nat.reduceLT, hx.ld, wkg, Nat.zero_add, Cells.idx hy.v hv, Cells.fld hy.v hv, begin_ld hy hv, w1, w2]
def s165 : SCode := (.seq (.ops [jO 2 (.box (T 0)), jO 3 (.box (T 1)), jO 4 (.mov (.const (.bool false)))]) (.seq (.ops [jO 5 (.fieldAddr 0 (T 3)), jO 6 (.load1 (T 5)), jO 7 (.int2 .leq (jK 0) (T 6)), jO 8 (.mov (T 7)), ⟨some 9, (some (8, true)), .fieldAddr 0 (T 3)⟩, ⟨some 10, (some (8, true)), .load1 (T 9)⟩, ⟨some 11, (some (8, true)), .fieldAddr 0 (T 2)⟩, ⟨some 12, (some (8, true)), .fieldAddr 0 (T 11)⟩, ⟨some 13, (some (8, true)), .load1 (T 12)⟩, ⟨some 14, (some (8, true)), .int2 .leq (T 10) (T 13)⟩, jO 15 (.pick (T 8) (T 14) (.const (.bool false))), jO 16 (.mov (T 15)), ⟨some 17, (some (16, true)), .fieldAddr 1 (T 3)⟩, ⟨some 18, (some (16, true)), .loadN 2 (T 17)⟩, ⟨some 19, (some (16, true)), .call (.func 163) [(T 18), (jK 99)]⟩, jO 20 (.pick (T 16) (T 19) (.const (.bool false))), jO 21 (.mov (T 20)), ⟨some 22, (some (21, true)), .fieldAddr 3 (T 3)⟩, ⟨some 23, (some (21, true)), .load1 (T 22)⟩, ⟨some 24, (some (21, true)), .int2 .leq (jK 0) (T 23)⟩, jO 25 (.pick (T 21) (T 24) (.const (.bool false))), jO 26 (.mov (T 25)), ⟨some 27, (some (26, true)), .fieldAddr 3 (T 3)⟩, ⟨some 28, (some (26, true)), .load1 (T 27)⟩, ⟨some 29, (some (26, true)), .int2 .leq (T 28) (jK 99)⟩, jO 30 (.pick (T 26) (T 29) (.const (.bool false))), jO 4 (.mov (T 30))]) .ret))
theorem fok165 : FnOk Tryz.prog 165 31 s165 [.tmp 4] := ⟨Tryz.f165, _, Tryz.func165, rfl, Tryz.ntmps165, by kernel_rfl, by kernel_rfl⟩
theorem isVat_c (hn : 2 ≤ n) (hr : h.next + 3 < far) {wv vv sv tv : Value} {S : MS} (hy : SteepR h wv vv sv S) (ht : oneCell tv = true) (b lo hi nd : Int) :
    ∃ r, (r = true ↔ (0 ≤ b ∧ b ≤ S.last) ∧ (0 ≤ lo ∧ lo ≤ hi ∧ hi ≤ 99) ∧ 0 ≤ nd ∧ nd ≤ 99) ∧ call n (.func (.func 165) ⟨[.agg ⟨wkL S wv vv sv tv⟩]⟩ #[]) [.agg ⟨[.int .i64 b, .int .i64 lo, .int .i64 hi, .int .i64 nd]⟩] h = some (.bool r, h) := by
  classical
  refine ⟨decide ((0 ≤ b ∧ b ≤ S.last) ∧ (0 ≤ lo ∧ lo ≤ hi ∧ hi ≤ 99) ∧ 0 ≤ nd ∧ nd ≤ 99), by simp, ?_⟩
  obtain ⟨n, rfl⟩ : ∃ p, n = p + 1 := ⟨n - 1, by omega⟩
  refine call_plain (xs := [.agg ⟨wkL S wv vv sv tv⟩]) (ys := []) fok165 rfl rfl (by simp) rfl ?_
  have hy := hy.shut
  have hr : h.shutAll.next + 3 < far := hr
  generalize h.shutAll = h at hy hr
  simp only [s165, jO, jF, jR, jS, jU, jA, jK, List.cons_append, List.nil_append, List.append_nil, W_seq, W_ops]
  refine ops_box (cs := wkL S wv vv sv tv) (by omega) rfl (wk_one hy ht) fun g1 hx => ?_
  refine ops_box (cs := [.int .i64 b, .int .i64 lo, .int .i64 hi, .int .i64 nd]) (by rw [hx.next]; omega) rfl rfl fun g2 hx2 => ?_
  have n1 := hx.next
  have n2 := hx2.next
  have hrow := hx.row.mono hx2.sub
  have eu := isUpTo_c (n := n) (h := g2) (by omega) (by omega) lo hi 99
  by_cases c1 : 0 ≤ b
  case neg => simp only [rn0, reduceIte, Nat.reduceEqDiff, Nat.reduceAdd, Nat.reduceMul, Nat.reduceSub, Nat.reduceLeDiff, Nat.reduceLT, hrow.ld, wkg, hx2.ld, Nat.zero_add, List.getElem?_cons_zero, List.getElem?_cons_succ, c1, false_and]
  by_cases c2 : b ≤ S.last
  case neg => simp only [rn0, reduceIte, Nat.reduceEqDiff, Nat.reduceAdd, Nat.reduceMul, Nat.reduceSub, Nat.reduceLeDiff, Nat.reduceLT, hrow.ld, wkg, hx2.ld, Nat.zero_add, List.getElem?_cons_zero, List.getElem?_cons_succ, c1, c2, and_false, false_and]
  by_cases c3 : 0 ≤ lo ∧ lo ≤ hi ∧ hi ≤ 99
  case neg => simp only [rn0, reduceIte, Nat.reduceEqDiff, Nat.reduceAdd, Nat.reduceMul, Nat.reduceSub, Nat.reduceLeDiff, Nat.reduceLT, hrow.ld, wkg, hx2.ld, hx2.ldN 1 2 (by simp) (by simp), List.drop_succ_cons, List.drop_zero, List.take_succ_cons, List.take_zero, Nat.zero_add, List.getElem?_cons_zero, List.getElem?_cons_succ, c1, c2, eu, c3, and_false, false_and]
  by_cases c4 : 0 ≤ nd <;> by_cases c5 : nd ≤ 99 <;> simp only [rn0, reduceIte, Nat.reduceEqDiff, Nat.reduceAdd, Nat.reduceMul, Nat.reduceSub, Nat.reduceLeDiff, Nat.reduceLT, hrow.ld, wkg, hx2.ld, hx2.ldN 1 2 (by simp) (by simp), List.drop_succ_cons, List.drop_zero, List.take_succ_cons, List.take_zero, Nat.zero_add, List.getElem?_cons_zero, List.getElem?_cons_succ, c1, c2, eu, c3, c4, c5, and_self, and_false, false_and]
def s166 : SCode := (.seq (.ops [jO 2 (.box (T 0)), jO 3 (.box (T 1)), jO 4 (.mov (.const (.bool false)))]) (.seq (.ops [jO 5 (.loadN 8 (T 2)), jO 6 (.fieldAddr 0 (T 3)), jO 7 (.load1 (T 6)), jO 8 (.call (.func 132) [(T 5), (T 7)]), jO 9 (.mov (T 8)), ⟨some 10, (some (9, true)), .loadN 8 (T 2)⟩, ⟨some 11, (some (9, true)), .fieldAddr 0 (T 3)⟩, ⟨some 12, (some (9, true)), .load1 (T 11)⟩, ⟨some 13, (some (9, true)), .fieldAddr 1 (T 3)⟩, ⟨some 14, (some (9, true)), .load1 (T 13)⟩, ⟨some 15, (some (9, true)), .call (.func 135) [(T 10), (T 12), (T 14)]⟩, jO 16 (.pick (T 9) (T 15) (.const (.bool false))), jO 17 (.mov (T 16)), ⟨some 18, (some (17, true)), .fieldAddr 2 (T 3)⟩, ⟨some 19, (some (17, true)), .load1 (T 18)⟩, ⟨some 20, (some (17, true)), .int2 .leq (jK 0) (T 19)⟩, jO 21 (.pick (T 17) (T 20) (.const (.bool false))), jO 22 (.mov (T 21)), ⟨some 23, (some (22, true)), .fieldAddr 2 (T 3)⟩, ⟨some 24, (some (22, true)), .load1 (T 23)⟩, ⟨some 25, (some (22, true)), .int2 .leq (T 24) (jK 2)⟩, jO 26 (.pick (T 22) (T 25) (.const (.bool false))), jO 4 (.mov (T 26))]) .ret))
theorem fok166 : FnOk Tryz.prog 166 27 s166 [.tmp 4] := ⟨Tryz.f166, _, Tryz.func166, rfl, Tryz.ntmps166, by kernel_rfl, by kernel_rfl⟩
theorem isSmell_c (hn : 2 ≤ n) (hr : h.next + 3 < far) {wv vv sv tv : Value} {S : MS} (hy : SteepR h wv vv sv S) (ht : oneCell tv = true) (v hh k : Int) :
    ∃ r, (r = true ↔ (0 ≤ v ∧ v ≤ (S.nv : Int) - 1) ∧ (S.vb v.toNat ≤ hh ∧ hh ≤ S.last) ∧ 0 ≤ k ∧ k ≤ 2) ∧ call n (.func (.func 166) ⟨[.agg ⟨wkL S wv vv sv tv⟩]⟩ #[]) [.agg ⟨[.int .i64 v, .int .i64 hh, .int .i64 k]⟩] h = some (.bool r, h) := by
  classical
  refine ⟨decide ((0 ≤ v ∧ v ≤ (S.nv : Int) - 1) ∧ (S.vb v.toNat ≤ hh ∧ hh ≤ S.last) ∧ 0 ≤ k ∧ k ≤ 2), by simp, ?_⟩
  obtain ⟨n, rfl⟩ : ∃ p, n = p + 1 := ⟨n - 1, by omega⟩
  refine call_plain (xs := [.agg ⟨wkL S wv vv sv tv⟩]) (ys := []) fok166 rfl rfl (by simp) rfl ?_
  have hy := hy.shut
  have hr : h.shutAll.next + 3 < far := hr
  generalize h.shutAll = h at hy hr
  simp only [s166, jO, jF, jR, jS, jU, jA, jK, List.cons_append, List.nil_append, List.append_nil, W_seq, W_ops]
  refine ops_box (cs := wkL S wv vv sv tv) (by omega) rfl (wk_one hy ht) fun g1 hx => ?_
  refine ops_box (cs := [.int .i64 v, .int .i64 hh, .int .i64 k]) (by rw [hx.next]; omega) rfl rfl fun g2 hx2 => ?_
  have n1 := hx.next
  have n2 := hx2.next
  have w1 := (hx.row.mono hx2.sub).whole (n := 8) rfl
  have hy2 := (hy.mono hx.sub).mono hx2.sub
  have e1 := hasVat_c (n := n) (h := g2) (by omega) (by omega) hy2 ht v
  by_cases c1 : 0 ≤ v ∧ v ≤ (S.nv : Int) - 1
  case neg => simp only [rn0, reduceIte, Nat.reduceEqDiff, Nat.reduceAdd, Nat.reduceMul, Nat.reduceSub, Nat.reduceLeDiff, Nat.reduceLT, w1, hx2.ld, Nat.zero_add, List.getElem?_cons_zero, List.getElem?_cons_succ, e1, c1, false_and]
  have hvn : ((v.toNat : Nat) : Int) = v := by omega
  have e2 := hasHour_c (n := n) (h := g2) (by omega) (by omega) hy2 ht (v := v.toNat) (by omega) hh
  rw [hvn] at e2
  by_cases c2 : S.vb v.toNat ≤ hh ∧ hh ≤ S.last
  case neg => simp only [rn0, reduceIte, Nat.reduceEqDiff, Nat.reduceAdd, Nat.reduceMul, Nat.reduceSub, Nat.reduceLeDiff, Nat.reduceLT, w1, hx2.ld, Nat.zero_add, List.getElem?_cons_zero, List.getElem?_cons_succ, e1, c1, e2, c2, and_false, false_and]
  by_cases c4 : 0 ≤ k <;> by_cases c5 : k ≤ 2 <;> simp only [rn0, reduceIte, Nat.reduceEqDiff, Nat.reduceAdd, Nat.reduceMul, Nat.reduceSub, Nat.reduceLeDiff, Nat.reduceLT, w1, hx2.ld, Nat.zero_add, List.getElem?_cons_zero, List.getElem?_cons_succ, e1, c1, e2, c2, c4, c5, and_self, and_false, false_and]
def Cond (n : Nat) (h : AHeap) (k : Nat) (ok : Value) (m : Nat) (elem : Nat → Value) (p : Nat → Prop) : Prop :=
  ∀ g, Sub All h g → g.next ≤ h.next + k → ∀ i, i < m → ∃ b, (b = true ↔ p i) ∧ call n ok [elem i] g = some (.bool b, g)
def s161 : SCode := (.seq (.ops [jO 4 (.mov (.const (.bool false)))]) (.seq (.seq (.ops [jO 7 (.mov (T 0)), jO 8 (.len (T 7)), jO 9 (.mov (jK 0))]) (.block 0 (.loop (.seq (.ops [jO 10 (.int2 .lss (T 9) (T 8))]) (.seq (.cond (T 10) .skip (.exit 0)) (.seq (.block 1 (.seq (.ops [jO 11 (.idxSl 2 (T 7) (T 9)), jO 12 (.loadN 2 (T 11)), jO 6 (.alloc [(.int .i64 0), (.int .i64 0)]), ⟨none, none, .store 2 (T 6) (T 12)⟩]) (.seq (.ops [jO 13 (.mov (T 1)), jO 14 (.loadN 2 (T 6)), jO 15 (.call (T 13) [(T 14)]), jO 16 (.not (T 15))]) (.cond (T 16) (.seq (.ops [jO 4 (.mov (.const (.bool false)))]) .ret) .skip)))) (.ops [jO 17 (.int2 .add (T 9) (jK 1)), jO 9 (.mov (T 17))]))))))) (.seq (.ops [jO 4 (.mov (.const (.bool true)))]) .ret)))
theorem fok161 : FnOk Tryz.prog 161 18 s161 [.tmp 4] := ⟨Tryz.f161, _, Tryz.func161, rfl, Tryz.ntmps161, by kernel_rfl, by kernel_rfl⟩
open Classical in
theorem everyRange_c (hn : 100 ≤ n) (hr : h.next + 60 < far) {v ok : Value} {m : Nat} {lo hi : Nat → Int} {p : Nat → Prop} (hv : Ranges h v m lo hi) (hm : m ≤ 30) (hok : Cond (n - 1) h.shutAll 40 ok m (fun i => .agg ⟨[.int .i64 (lo i), .int .i64 (hi i)]⟩) p) :
    call n (.func (.func 161) #[] #[]) [v, ok] h = some (.bool (decide (∀ i, i < m → p i)), h) := by
  obtain ⟨n, rfl⟩ : ∃ p, n = p + 1 := ⟨n - 1, by omega⟩
  refine call_plain0 fok161 rfl rfl (by simp) rfl ?_
  have hv := Cells.shut hv
  have hr : h.shutAll.next + 60 < far := hr
  have hfl : h.shutAll.floor ≤ h.shutAll.next := Nat.le_refl _
  rw [Nat.add_sub_cancel] at hok
  generalize h.shutAll = h at hv hok hr hfl
  simp only [rn0, reduceIte, Nat.reduceEqDiff, Nat.reduceAdd, Nat.reduceMul, Nat.reduceSub, Nat.reduceLeDiff, Nat.reduceLT, s161, jO, jF, jR, jS, jU, jA, jK, Cells.len hv]
  refine W_loop m (fun k f g m' => (Sub All h g ∧ g.next = h.next + k ∧ g.floor = h.floor) ∧ m' = [] ∧ f 1 = ok ∧ f 7 = v ∧ f 8 = .int .i64 (m : Int) ∧ f 9 = .int .i64 (k : Int) ∧ ∀ i, i < k → p i) (by simp; omega) ?_ ?_ ?_
  · simp only [rn0, reduceIte, Nat.reduceEqDiff, Nat.reduceAdd, Nat.reduceMul, Nat.reduceSub, Nat.reduceLeDiff, Nat.reduceLT, Nat.not_lt_zero, false_implies, implies_true, Nat.add_zero]
    trivial
  · rintro k f g m' hk ⟨⟨g1, g2, g3⟩, rfl, f1, f7, f8, f9, hlt⟩
    have hk' : (k : Int) < (m : Int) := by omega
    have hw : wrapF .i64 ((k : Int) + 1) = ((k + 1 : Nat) : Int) := by rw [wrap_in (by omega) (by omega)]; rfl
    have hvg := Cells.mono hv g1
    have hldk : loadAgg 2 g (ptrO v 2 k 0) = some (.agg ⟨[.int .i64 (lo k), .int .i64 (hi k)]⟩) := ranges_ld hvg hk
    simp only [rn0, reduceIte, Nat.reduceEqDiff, Nat.reduceAdd, Nat.reduceMul, Nat.reduceSub, Nat.reduceLeDiff, Nat.reduceLT, f1, f7, f8, f9, hk', Cells.idx hvg hk, hldk]
    refine step_new (vs := [.int .i64 (lo k), .int .i64 (hi k)]) (by omega) (by omega) rfl (by simp only [rn0, reduceIte, Nat.reduceEqDiff, Nat.reduceAdd, Nat.reduceMul, Nat.reduceSub, Nat.reduceLeDiff, Nat.reduceLT]; rfl) rfl rfl rfl fun g' hg' => ?_
    have hin : (Sub All h g' ∧ g'.next = h.next + (k + 1) ∧ g'.floor = h.floor) = True := eq_true ⟨g1.trans hg'.sub, by rw [hg'.next, g2]; omega, by rw [hg'.floor, g3]⟩
    obtain ⟨b, hb, e⟩ := hok g' (g1.trans hg'.sub) (by rw [hg'.next, g2]; omega) k hk
    have wh := hg'.row.whole (n := 2) rfl
    cases b with
    | true =>
      have hp : p k := hb.1 rfl
      simp only [rn0, reduceIte, Nat.reduceEqDiff, Nat.reduceAdd, Nat.reduceMul, Nat.reduceSub, Nat.reduceLeDiff, Nat.reduceLT, f1, f7, f8, f9, wh, e, hw, hin]
      intro j hj
      by_cases ej : j = k
      · subst ej; exact hp
      · exact hlt j (by omega)
    | false =>
      have hp : ¬ ∀ i, i < m → p i := fun h => by have := hb.2 (h k hk); cases this
      simp only [rn0, reduceIte, Nat.reduceEqDiff, Nat.reduceAdd, Nat.reduceMul, Nat.reduceSub, Nat.reduceLeDiff, Nat.reduceLT, f1, f7, f8, f9, wh, e, hw, hp]
  · rintro f g m' ⟨⟨g1, g2, g3⟩, rfl, f1, f7, f8, f9, hlt⟩
    simp only [rn0, reduceIte, Nat.reduceEqDiff, Nat.reduceAdd, Nat.reduceMul, Nat.reduceSub, Nat.reduceLeDiff, Nat.reduceLT, f1, f7, f8, f9, Int.lt_irrefl, eq_true hlt]
def s156 : SCode := (.seq (.ops [jO 4 (.mov (.const (.bool false)))]) (.seq (.seq (.ops [jO 7 (.mov (T 0)), jO 8 (.len (T 7)), jO 9 (.mov (jK 0))]) (.block 0 (.loop (.seq (.ops [jO 10 (.int2 .lss (T 9) (T 8))]) (.seq (.cond (T 10) .skip (.exit 0)) (.seq (.block 1 (.seq (.ops [jO 11 (.idxSl 3 (T 7) (T 9)), jO 12 (.loadN 3 (T 11)), jO 6 (.alloc [(.int .i64 0), (.int .i64 0), (.int .i64 0)]), ⟨none, none, .store 3 (T 6) (T 12)⟩]) (.seq (.ops [jO 13 (.mov (T 1)), jO 14 (.loadN 3 (T 6)), jO 15 (.call (T 13) [(T 14)]), jO 16 (.not (T 15))]) (.cond (T 16) (.seq (.ops [jO 4 (.mov (.const (.bool false)))]) .ret) .skip)))) (.ops [jO 17 (.int2 .add (T 9) (jK 1)), jO 9 (.mov (T 17))]))))))) (.seq (.ops [jO 4 (.mov (.const (.bool true)))]) .ret)))
theorem fok156 : FnOk Tryz.prog 156 18 s156 [.tmp 4] := ⟨Tryz.f156, _, Tryz.func156, rfl, Tryz.ntmps156, by kernel_rfl, by kernel_rfl⟩
open Classical in
theorem everySmell_c (hn : 100 ≤ n) (hr : h.next + 60 < far) {v ok : Value} {m : Nat} {a lo hi : Nat → Int} {p : Nat → Prop} (hv : Samps h v m a lo hi) (hm : m ≤ 30) (hok : Cond (n - 1) h.shutAll 40 ok m (fun i => .agg ⟨[.int .i64 (a i), .int .i64 (lo i), .int .i64 (hi i)]⟩) p) :
    call n (.func (.func 156) #[] #[]) [v, ok] h = some (.bool (decide (∀ i, i < m → p i)), h) := by
  obtain ⟨n, rfl⟩ : ∃ p, n = p + 1 := ⟨n - 1, by omega⟩
  refine call_plain0 fok156 rfl rfl (by simp) rfl ?_
  have hv := Cells.shut hv
  have hr : h.shutAll.next + 60 < far := hr
  have hfl : h.shutAll.floor ≤ h.shutAll.next := Nat.le_refl _
  rw [Nat.add_sub_cancel] at hok
  generalize h.shutAll = h at hv hok hr hfl
  simp only [rn0, reduceIte, Nat.reduceEqDiff, Nat.reduceAdd, Nat.reduceMul, Nat.reduceSub, Nat.reduceLeDiff, Nat.reduceLT, s156, jO, jF, jR, jS, jU, jA, jK, Cells.len hv]
  refine W_loop m (fun k f g m' => (Sub All h g ∧ g.next = h.next + k ∧ g.floor = h.floor) ∧ m' = [] ∧ f 1 = ok ∧ f 7 = v ∧ f 8 = .int .i64 (m : Int) ∧ f 9 = .int .i64 (k : Int) ∧ ∀ i, i < k → p i) (by simp; omega) ?_ ?_ ?_
  · simp only [rn0, reduceIte, Nat.reduceEqDiff, Nat.reduceAdd, Nat.reduceMul, Nat.reduceSub, Nat.reduceLeDiff, Nat.reduceLT, Nat.not_lt_zero, false_implies, implies_true, Nat.add_zero]
    trivial
  · rintro k f g m' hk ⟨⟨g1, g2, g3⟩, rfl, f1, f7, f8, f9, hlt⟩
    have hk' : (k : Int) < (m : Int) := by omega
    have hw : wrapF .i64 ((k : Int) + 1) = ((k + 1 : Nat) : Int) := by rw [wrap_in (by omega) (by omega)]; rfl
    have hvg := Cells.mono hv g1
    have hldk : loadAgg 3 g (ptrO v 3 k 0) = some (.agg ⟨[.int .i64 (a k), .int .i64 (lo k), .int .i64 (hi k)]⟩) := samps_ld hvg hk
    simp only [rn0, reduceIte, Nat.reduceEqDiff, Nat.reduceAdd, Nat.reduceMul, Nat.reduceSub, Nat.reduceLeDiff, Nat.reduceLT, f1, f7, f8, f9, hk', Cells.idx hvg hk, hldk]
    refine step_new (vs := [.int .i64 (a k), .int .i64 (lo k), .int .i64 (hi k)]) (by omega) (by omega) rfl (by simp only [rn0, reduceIte, Nat.reduceEqDiff, Nat.reduceAdd, Nat.reduceMul, Nat.reduceSub, Nat.reduceLeDiff, Nat.reduceLT]; rfl) rfl rfl rfl fun g' hg' => ?_
    have hin : (Sub All h g' ∧ g'.next = h.next + (k + 1) ∧ g'.floor = h.floor) = True := eq_true ⟨g1.trans hg'.sub, by rw [hg'.next, g2]; omega, by rw [hg'.floor, g3]⟩
    obtain ⟨b, hb, e⟩ := hok g' (g1.trans hg'.sub) (by rw [hg'.next, g2]; omega) k hk
    have wh := hg'.row.whole (n := 3) rfl
    cases b with
    | true =>
      have hp : p k := hb.1 rfl
      simp only [rn0, reduceIte, Nat.reduceEqDiff, Nat.reduceAdd, Nat.reduceMul, Nat.reduceSub, Nat.reduceLeDiff, Nat.reduceLT, f1, f7, f8, f9, wh, e, hw, hin]
      intro j hj
      by_cases ej : j = k
      · subst ej; exact hp
      · exact hlt j (by omega)
    | false =>
      have hp : ¬ ∀ i, i < m → p i := fun h => by have := hb.2 (h k hk); cases this
      simp only [rn0, reduceIte, Nat.reduceEqDiff, Nat.reduceAdd, Nat.reduceMul, Nat.reduceSub, Nat.reduceLeDiff, Nat.reduceLT, f1, f7, f8, f9, wh, e, hw, hp]
  · rintro f g m' ⟨⟨g1, g2, g3⟩, rfl, f1, f7, f8, f9, hlt⟩
    simp only [rn0, reduceIte, Nat.reduceEqDiff, Nat.reduceAdd, Nat.reduceMul, Nat.reduceSub, Nat.reduceLeDiff, Nat.reduceLT, f1, f7, f8, f9, Int.lt_irrefl, eq_true hlt]
def s164 : SCode := (.seq (.ops [jO 4 (.mov (.const (.bool false)))]) (.seq (.seq (.ops [jO 7 (.mov (T 0)), jO 8 (.len (T 7)), jO 9 (.mov (jK 0))]) (.block 0 (.loop (.seq (.ops [jO 10 (.int2 .lss (T 9) (T 8))]) (.seq (.cond (T 10) .skip (.exit 0)) (.seq (.block 1 (.seq (.ops [jO 11 (.idxSl 4 (T 7) (T 9)), jO 12 (.loadN 4 (T 11)), jO 6 (.alloc [(.int .i64 0), (.int .i64 0), (.int .i64 0), (.int .i64 0)]), ⟨none, none, .store 4 (T 6) (T 12)⟩]) (.seq (.ops [jO 13 (.mov (T 1)), jO 14 (.loadN 4 (T 6)), jO 15 (.call (T 13) [(T 14)]), jO 16 (.not (T 15))]) (.cond (T 16) (.seq (.ops [jO 4 (.mov (.const (.bool false)))]) .ret) .skip)))) (.ops [jO 17 (.int2 .add (T 9) (jK 1)), jO 9 (.mov (T 17))]))))))) (.seq (.ops [jO 4 (.mov (.const (.bool true)))]) .ret)))
theorem fok164 : FnOk Tryz.prog 164 18 s164 [.tmp 4] := ⟨Tryz.f164, _, Tryz.func164, rfl, Tryz.ntmps164, by kernel_rfl, by kernel_rfl⟩
open Classical in
theorem everyVat_c (hn : 100 ≤ n) (hr : h.next + 60 < far) {v ok : Value} {m : Nat} {S : MS} {p : Nat → Prop} (hv : Cells h v 4 m (vatC S)) (hm : m ≤ 30) (hok : Cond (n - 1) h.shutAll 40 ok m (fun i => .agg ⟨[.int .i64 (S.vb i), .int .i64 (S.vlo i), .int .i64 (S.vhi i), .int .i64 (S.vn i)]⟩) p) :
    call n (.func (.func 164) #[] #[]) [v, ok] h = some (.bool (decide (∀ i, i < m → p i)), h) := by
  obtain ⟨n, rfl⟩ : ∃ p, n = p + 1 := ⟨n - 1, by omega⟩
  refine call_plain0 fok164 rfl rfl (by simp) rfl ?_
  have hv := Cells.shut hv
  have hr : h.shutAll.next + 60 < far := hr
  have hfl : h.shutAll.floor ≤ h.shutAll.next := Nat.le_refl _
  rw [Nat.add_sub_cancel] at hok
  generalize h.shutAll = h at hv hok hr hfl
  simp only [rn0, reduceIte, Nat.reduceEqDiff, Nat.reduceAdd, Nat.reduceMul, Nat.reduceSub, Nat.reduceLeDiff, Nat.reduceLT, s164, jO, jF, jR, jS, jU, jA, jK, Cells.len hv]
  refine W_loop m (fun k f g m' => (Sub All h g ∧ g.next = h.next + k ∧ g.floor = h.floor) ∧ m' = [] ∧ f 1 = ok ∧ f 7 = v ∧ f 8 = .int .i64 (m : Int) ∧ f 9 = .int .i64 (k : Int) ∧ ∀ i, i < k → p i) (by simp; omega) ?_ ?_ ?_
  · simp only [rn0, reduceIte, Nat.reduceEqDiff, Nat.reduceAdd, Nat.reduceMul, Nat.reduceSub, Nat.reduceLeDiff, Nat.reduceLT, Nat.not_lt_zero, false_implies, implies_true, Nat.add_zero]
    trivial
  · rintro k f g m' hk ⟨⟨g1, g2, g3⟩, rfl, f1, f7, f8, f9, hlt⟩
    have hk' : (k : Int) < (m : Int) := by omega
    have hw : wrapF .i64 ((k : Int) + 1) = ((k + 1 : Nat) : Int) := by rw [wrap_in (by omega) (by omega)]; rfl
    have hvg := Cells.mono hv g1
    have hldk : loadAgg 4 g (ptrO v 4 k 0) = some (.agg ⟨[.int .i64 (S.vb k), .int .i64 (S.vlo k), .int .i64 (S.vhi k), .int .i64 (S.vn k)]⟩) := by rw [Cells.ldN hvg hk (by omega) (by omega)]; simp [List.range_succ, vatC]
    simp only [rn0, reduceIte, Nat.reduceEqDiff, Nat.reduceAdd, Nat.reduceMul, Nat.reduceSub, Nat.reduceLeDiff, Nat.reduceLT, f1, f7, f8, f9, hk', Cells.idx hvg hk, hldk]
    refine step_new (vs := [.int .i64 (S.vb k), .int .i64 (S.vlo k), .int .i64 (S.vhi k), .int .i64 (S.vn k)]) (by omega) (by omega) rfl (by simp only [rn0, reduceIte, Nat.reduceEqDiff, Nat.reduceAdd, Nat.reduceMul, Nat.reduceSub, Nat.reduceLeDiff, Nat.reduceLT]; rfl) rfl rfl rfl fun g' hg' => ?_
    have hin : (Sub All h g' ∧ g'.next = h.next + (k + 1) ∧ g'.floor = h.floor) = True := eq_true ⟨g1.trans hg'.sub, by rw [hg'.next, g2]; omega, by rw [hg'.floor, g3]⟩
    obtain ⟨b, hb, e⟩ := hok g' (g1.trans hg'.sub) (by rw [hg'.next, g2]; omega) k hk
    have wh := hg'.row.whole (n := 4) rfl
    cases b with
    | true =>
      have hp : p k := hb.1 rfl
      simp only [rn0, reduceIte, Nat.reduceEqDiff, Nat.reduceAdd, Nat.reduceMul, Nat.reduceSub, Nat.reduceLeDiff, Nat.reduceLT, f1, f7, f8, f9, wh, e, hw, hin]
      intro j hj
      by_cases ej : j = k
      · subst ej; exact hp
      · exact hlt j (by omega)
    | false =>
      have hp : ¬ ∀ i, i < m → p i := fun h => by have := hb.2 (h k hk); cases this
      simp only [rn0, reduceIte, Nat.reduceEqDiff, Nat.reduceAdd, Nat.reduceMul, Nat.reduceSub, Nat.reduceLeDiff, Nat.reduceLT, f1, f7, f8, f9, wh, e, hw, hp]
  · rintro f g m' ⟨⟨g1, g2, g3⟩, rfl, f1, f7, f8, f9, hlt⟩
    simp only [rn0, reduceIte, Nat.reduceEqDiff, Nat.reduceAdd, Nat.reduceMul, Nat.reduceSub, Nat.reduceLeDiff, Nat.reduceLT, f1, f7, f8, f9, Int.lt_irrefl, eq_true hlt]
theorem args_iff {S : MS} : ArgsOk S ↔ HeadOk S ∧ WarmOk S ∧ VatOk S ∧ SmellOk S := ⟨fun h => ⟨h.head, h.warm, h.vat, h.smell⟩, fun ⟨a, b, c, d⟩ => ⟨a, b, c, d⟩⟩
noncomputable instance (S : MS) : Decidable (ArgsOk S) := Classical.propDecidable _
def s151 : SCode := (.seq (.ops [jO 1 (.box (T 0)), jO 2 (.mov (.const (.bool false)))]) (.seq (.ops [jO 3 (.fieldAddr 0 (T 1)), jO 4 (.fieldAddr 0 (T 3)), jO 5 (.load1 (T 4)), jO 6 (.int2 .leq (jK 0) (T 5)), jO 7 (.mov (T 6)), ⟨some 8, (some (7, true)), .fieldAddr 0 (T 1)⟩, ⟨some 9, (some (7, true)), .fieldAddr 2 (T 8)⟩, ⟨some 10, (some (7, true)), .load1 (T 9)⟩, ⟨some 11, (some (7, true)), .len (T 10)⟩, ⟨some 12, (some (7, true)), .fieldAddr 0 (T 1)⟩, ⟨some 13, (some (7, true)), .fieldAddr 0 (T 12)⟩, ⟨some 14, (some (7, true)), .load1 (T 13)⟩, ⟨some 15, (some (7, true)), .int2 .add (T 14) (jK 1)⟩, ⟨some 16, (some (7, true)), .int2 .eql (T 11) (T 15)⟩, jO 17 (.pick (T 7) (T 16) (.const (.bool false))), jO 18 (.mov (T 17)), ⟨some 19, (some (18, true)), .fieldAddr 0 (T 1)⟩, ⟨some 20, (some (18, true)), .fieldAddr 1 (T 19)⟩, ⟨some 21, (some (18, true)), .load1 (T 20)⟩, ⟨some 22, (some (18, true)), .int2 .leq (jK 1) (T 21)⟩, jO 23 (.pick (T 18) (T 22) (.const (.bool false))), jO 24 (.mov (T 23)), ⟨some 25, (some (24, true)), .fieldAddr 0 (T 1)⟩, ⟨some 26, (some (24, true)), .fieldAddr 1 (T 25)⟩, ⟨some 27, (some (24, true)), .load1 (T 26)⟩, ⟨some 28, (some (24, true)), .int2 .leq (T 27) (jK 9)⟩, jO 29 (.pick (T 24) (T 28) (.const (.bool false))), jO 30 (.mov (T 29)), ⟨some 31, (some (30, true)), .fieldAddr 0 (T 1)⟩, ⟨some 32, (some (30, true)), .fieldAddr 2 (T 31)⟩, ⟨some 33, (some (30, true)), .load1 (T 32)⟩, ⟨some 34, (some (30, true)), .call (.func 161) [(T 33), (.func 162)]⟩, jO 35 (.pick (T 30) (T 34) (.const (.bool false))), jO 36 (.mov (T 35)), ⟨some 37, (some (36, true)), .fieldAddr 0 (T 1)⟩, ⟨some 38, (some (36, true)), .fieldAddr 3 (T 37)⟩, ⟨some 39, (some (36, true)), .loadN 2 (T 38)⟩, ⟨some 40, (some (36, true)), .call (.func 163) [(T 39), (jK 99)]⟩, jO 41 (.pick (T 36) (T 40) (.const (.bool false))), jO 42 (.mov (T 41)), ⟨some 43, (some (42, true)), .fieldAddr 0 (T 1)⟩, ⟨some 44, (some (42, true)), .fieldAddr 5 (T 43)⟩, ⟨some 45, (some (42, true)), .load1 (T 44)⟩, ⟨some 46, (some (42, true)), .loadN 8 (T 1)⟩, ⟨some 47, (some (42, true)), .mkfunc 165 [(T 46)] []⟩, ⟨some 48, (some (42, true)), .call (.func 164) [(T 45), (T 47)]⟩, jO 49 (.pick (T 42) (T 48) (.const (.bool false))), jO 50 (.mov (T 49)), ⟨some 51, (some (50, true)), .fieldAddr 0 (T 1)⟩, ⟨some 52, (some (50, true)), .fieldAddr 6 (T 51)⟩, ⟨some 53, (some (50, true)), .load1 (T 52)⟩, ⟨some 54, (some (50, true)), .loadN 8 (T 1)⟩, ⟨some 55, (some (50, true)), .mkfunc 166 [(T 54)] []⟩, ⟨some 56, (some (50, true)), .call (.func 156) [(T 53), (T 55)]⟩, jO 57 (.pick (T 50) (T 56) (.const (.bool false))), jO 2 (.mov (T 57))]) .ret))
theorem fok151 : FnOk Tryz.prog 151 58 s151 [.tmp 2] := ⟨Tryz.f151, _, Tryz.func151, rfl, Tryz.ntmps151, by kernel_rfl, by kernel_rfl⟩
theorem isValid_c (hn : 110 ≤ n) (hr : h.next + 100 < far) {wv vv sv tv : Value} {S : MS} (hy : SteepR h wv vv sv S) (ht : oneCell tv = true) (hl : S.nw ≤ 30 ∧ S.nv ≤ 30 ∧ S.ns ≤ 30) (hla : S.last ≤ 5) :
    call n (.func (.func 151) #[] #[]) [.agg ⟨wkL S wv vv sv tv⟩] h = some (.bool (decide (ArgsOk S)), h) := by
  obtain ⟨n, rfl⟩ : ∃ p, n = p + 1 := ⟨n - 1, by omega⟩
  refine call_plain0 fok151 rfl rfl (by simp) rfl ?_
  have hy := hy.shut
  have hr : h.shutAll.next + 100 < far := hr
  generalize h.shutAll = h at hy hr
  simp only [s151, jO, jF, jR, jS, jU, jA, jK, W_seq, W_ops]
  refine ops_box (cs := wkL S wv vv sv tv) (by omega) rfl (wk_one hy ht) fun g1 hx => ?_
  have n1 := hx.next
  have r1 := hx.row
  have hy := hy.mono hx.sub
  have w1 := r1.whole (n := 8) rfl
  obtain ⟨l1, l2, l3⟩ := hl
  have eF := everyRange_c (n := n) (h := g1) (ok := .func (.func 162) #[] #[]) (p := fun i => 0 ≤ S.wlo i ∧ S.wlo i ≤ S.whi i ∧ S.whi i ≤ 9) (by omega) (by omega) hy.w l1 fun g _ (hg : g.next ≤ g1.next + 40) i hi => ⟨decide (0 ≤ S.wlo i ∧ S.wlo i ≤ S.whi i ∧ S.whi i ≤ 9), by simp, isWarm_c (by omega) (by omega) _ _⟩
  have eV := everyVat_c (n := n) (h := g1) (S := S) (ok := .func (.func 165) ⟨[.agg ⟨wkL S wv vv sv tv⟩]⟩ ⟨[]⟩) (p := fun i => (0 ≤ S.vb i ∧ S.vb i ≤ S.last) ∧ (0 ≤ S.vlo i ∧ S.vlo i ≤ S.vhi i ∧ S.vhi i ≤ 99) ∧ 0 ≤ S.vn i ∧ S.vn i ≤ 99) (by omega) (by omega) hy.v l2 fun g hs (hg : g.next ≤ g1.next + 40) i hi => isVat_c (by omega) (by omega) (hy.shut.mono hs) ht _ _ _ _
  have eS := everySmell_c (n := n) (h := g1) (ok := .func (.func 166) ⟨[.agg ⟨wkL S wv vv sv tv⟩]⟩ ⟨[]⟩) (p := fun i => (0 ≤ S.sv i ∧ S.sv i ≤ (S.nv : Int) - 1) ∧ (S.vb (S.sv i).toNat ≤ S.sh i ∧ S.sh i ≤ S.last) ∧ 0 ≤ S.sk i ∧ S.sk i ≤ 2) (by omega) (by omega) hy.s l3 fun g hs (hg : g.next ≤ g1.next + 40) i hi => isSmell_c (by omega) (by omega) (hy.shut.mono hs) ht _ _ _
  have eU := isUpTo_c (n := n) (h := g1) (by omega) (by omega) S.splo S.sphi 99
  have hA := args_iff (S := S)
  have no : ∀ {p : Prop}, (ArgsOk S → p) → ¬ p → decide (ArgsOk S) = false := fun h1 h2 => decide_eq_false fun e => h2 (h1 e)
  by_cases c1 : 0 ≤ S.last
  case neg =>
    have := no (fun e => e.head.1) c1
    simp only [rn0, reduceIte, Nat.reduceEqDiff, Nat.reduceAdd, Nat.reduceMul, Nat.reduceSub, Nat.reduceLeDiff, Nat.reduceLT, r1.ld, wkg, Nat.zero_add, c1, this]
  have hwl : wrapF .i64 (S.last + 1) = S.last + 1 := wrap_in (by omega) (by omega)
  by_cases c2 : (S.nw : Int) = S.last + 1
  case neg =>
    have := no (fun e => e.head.2.2.1) c2
    simp only [rn0, reduceIte, Nat.reduceEqDiff, Nat.reduceAdd, Nat.reduceMul, Nat.reduceSub, Nat.reduceLeDiff, Nat.reduceLT, r1.ld, wkg, Nat.zero_add, c1, Cells.len hy.w, hwl, c2, this]
  have d2 : decide ((S.nw : Int) = S.last + 1) = true := decide_eq_true c2
  by_cases c3 : 1 ≤ S.per
  case neg =>
    have := no (fun e => e.head.2.1.1) c3
    simp only [rn0, reduceIte, Nat.reduceEqDiff, Nat.reduceAdd, Nat.reduceMul, Nat.reduceSub, Nat.reduceLeDiff, Nat.reduceLT, r1.ld, wkg, Nat.zero_add, c1, Cells.len hy.w, hwl, d2, c3, this]
  by_cases c4 : S.per ≤ 9
  case neg =>
    have := no (fun e => e.head.2.1.2) c4
    simp only [rn0, reduceIte, Nat.reduceEqDiff, Nat.reduceAdd, Nat.reduceMul, Nat.reduceSub, Nat.reduceLeDiff, Nat.reduceLT, r1.ld, wkg, Nat.zero_add, c1, Cells.len hy.w, hwl, d2, c3, c4, this]
  by_cases c5 : WarmOk S
  case neg =>
    have := no (fun e => e.warm) c5
    have d5 : (∀ i, i < S.nw → 0 ≤ S.wlo i ∧ S.wlo i ≤ S.whi i ∧ S.whi i ≤ 9) = False := eq_false c5
    simp only [rn0, reduceIte, Nat.reduceEqDiff, Nat.reduceAdd, Nat.reduceMul, Nat.reduceSub, Nat.reduceLeDiff, Nat.reduceLT, r1.ld, wkg, Nat.zero_add, c1, Cells.len hy.w, hwl, d2, c3, c4, eF, d5, this]
  have d5 : (∀ i, i < S.nw → 0 ≤ S.wlo i ∧ S.wlo i ≤ S.whi i ∧ S.whi i ≤ 9) = True := eq_true c5
  by_cases c6 : 0 ≤ S.splo ∧ S.splo ≤ S.sphi ∧ S.sphi ≤ 99
  case neg =>
    have := no (fun e => e.head.2.2.2) c6
    simp only [rn0, reduceIte, Nat.reduceEqDiff, Nat.reduceAdd, Nat.reduceMul, Nat.reduceSub, Nat.reduceLeDiff, Nat.reduceLT, r1.ld, wkg, Nat.zero_add, c1, Cells.len hy.w, hwl, d2, c3, c4, eF, d5, wk_rng r1, eU, c6, this]
  by_cases c7 : VatOk S
  case neg =>
    have := no (fun e => e.vat) c7
    have d7 : (∀ i, i < S.nv → (0 ≤ S.vb i ∧ S.vb i ≤ S.last) ∧ (0 ≤ S.vlo i ∧ S.vlo i ≤ S.vhi i ∧ S.vhi i ≤ 99) ∧ 0 ≤ S.vn i ∧ S.vn i ≤ 99) = False := eq_false c7
    simp only [rn0, reduceIte, Nat.reduceEqDiff, Nat.reduceAdd, Nat.reduceMul, Nat.reduceSub, Nat.reduceLeDiff, Nat.reduceLT, r1.ld, wkg, Nat.zero_add, c1, Cells.len hy.w, hwl, d2, c3, c4, eF, d5, wk_rng r1, eU, c6, and_self, w1, eV, d7, this]
  have d7 : (∀ i, i < S.nv → (0 ≤ S.vb i ∧ S.vb i ≤ S.last) ∧ (0 ≤ S.vlo i ∧ S.vlo i ≤ S.vhi i ∧ S.vhi i ≤ 99) ∧ 0 ≤ S.vn i ∧ S.vn i ≤ 99) = True := eq_true c7
  by_cases c8 : SmellOk S
  · have : decide (ArgsOk S) = true := decide_eq_true (hA.2 ⟨⟨c1, ⟨c3, c4⟩, c2, c6⟩, c5, c7, c8⟩)
    have d8 : (∀ i, i < S.ns → (0 ≤ S.sv i ∧ S.sv i ≤ (S.nv : Int) - 1) ∧ (S.vb (S.sv i).toNat ≤ S.sh i ∧ S.sh i ≤ S.last) ∧ 0 ≤ S.sk i ∧ S.sk i ≤ 2) = True := eq_true c8
    simp only [rn0, reduceIte, Nat.reduceEqDiff, Nat.reduceAdd, Nat.reduceMul, Nat.reduceSub, Nat.reduceLeDiff, Nat.reduceLT, r1.ld, wkg, Nat.zero_add, c1, Cells.len hy.w, hwl, d2, c3, c4, eF, d5, wk_rng r1, eU, c6, and_self, w1, eV, d7, eS, d8, this]
  · have := no (fun e => e.smell) c8
    have d8 : (∀ i, i < S.ns → (0 ≤ S.sv i ∧ S.sv i ≤ (S.nv : Int) - 1) ∧ (S.vb (S.sv i).toNat ≤ S.sh i ∧ S.sh i ≤ S.last) ∧ 0 ≤ S.sk i ∧ S.sk i ≤ 2) = False := eq_false c8
    simp only [rn0, reduceIte, Nat.reduceEqDiff, Nat.reduceAdd, Nat.reduceMul, Nat.reduceSub, Nat.reduceLeDiff, Nat.reduceLT, r1.ld, wkg, Nat.zero_add, c1, Cells.len hy.w, hwl, d2, c3, c4, eF, d5, wk_rng r1, eU, c6, and_self, w1, eV, d7, eS, d8, this]

def cellU (S : MS) (u : Nat → Int) (j : Nat) : Int := if j < 6 then (if j < S.nw then u j else 0) else if j = 6 then u S.nw else if j - 7 < S.nv then u (S.nw + 1 + (j - 7)) else 0
def tarr (S : MS) (u : Nat → Int) : List Value := (List.range 11).map fun j => .int .i64 (cellU S u j)
def adr (S : MS) (i : Nat) : Nat := if i < S.nw then i else if i = S.nw then 6 else 7 + (i - S.nw - 1)
theorem tarr_one {S : MS} {u : Nat → Int} : allB oneCell (tarr S u) = true := by rw [allB_iff]; intro v hv; obtain ⟨i, _, rfl⟩ := List.mem_map.1 hv; rfl
theorem tarr_len {S : MS} {u : Nat → Int} : (tarr S u).length = 11 := by simp [tarr]
theorem tarr_get {S : MS} {u : Nat → Int} {j : Nat} (hj : j < 11) : (tarr S u)[j]? = some (.int .i64 (cellU S u j)) := by rw [tarr, List.getElem?_map, List.getElem?_range hj]; rfl
theorem adr_lt {S : MS} {i : Nat} (h1 : S.nw ≤ 6) (h2 : S.nv ≤ 4) (hi : i < numU S) : adr S i < 11 := by
  have h0 : numU S = S.nw + 1 + S.nv := rfl
  unfold adr
  by_cases c1 : i < S.nw
  · rw [if_pos c1]; omega
  · rw [if_neg c1]
    by_cases c2 : i = S.nw
    · rw [if_pos c2]; omega
    · rw [if_neg c2]; omega
theorem cell_adr {S : MS} {u : Nat → Int} {i : Nat} (h1 : S.nw ≤ 6) (hi : i < numU S) : cellU S u (adr S i) = u i := by
  have h0 : numU S = S.nw + 1 + S.nv := rfl
  unfold adr
  by_cases c1 : i < S.nw
  · have c2 : i < 6 := by omega
    simp only [if_pos c1, cellU, if_pos c2]
  · by_cases c2 : i = S.nw
    · simp [cellU, c2]
    · have e1 : ¬ 7 + (i - S.nw - 1) < 6 := by omega
      have e2 : ¬ 7 + (i - S.nw - 1) = 6 := by omega
      have e3 : 7 + (i - S.nw - 1) - 7 < S.nv := by omega
      have e4 : S.nw + 1 + (7 + (i - S.nw - 1) - 7) = i := by omega
      simp only [if_neg c1, if_neg c2, cellU, if_neg e1, if_neg e2, if_pos e3, e4]
def setU (u : Nat → Int) (i : Nat) (x : Int) (j : Nat) : Int := if j = i then x else u j
theorem tarr_set {S : MS} {u : Nat → Int} {i : Nat} {x : Int} (h1 : S.nw ≤ 6) (h2 : S.nv ≤ 4) (hi : i < numU S) : splice (tarr S u) (adr S i) [.int .i64 x] = tarr S (setU u i x) := by
  have h0 : numU S = S.nw + 1 + S.nv := rfl
  have ha := adr_lt h1 h2 hi
  refine map_splice (by simp; omega) (fun j hj hc => ?_) (fun j hj => ?_)
  · simp only [List.length_cons, List.length_nil] at hc
    congr 1
    have hne : j ≠ adr S i := by omega
    unfold adr at hne
    simp only [cellU]
    by_cases q1 : j < 6
    · rw [if_pos q1, if_pos q1]
      by_cases q2 : j < S.nw
      · rw [if_pos q2, if_pos q2]
        have : j ≠ i := fun e => hne (by subst e; rw [if_pos q2])
        rw [setU, if_neg this]
      · rw [if_neg q2, if_neg q2]
    · rw [if_neg q1, if_neg q1]
      by_cases q2 : j = 6
      · rw [if_pos q2, if_pos q2]
        have : S.nw ≠ i := fun e => hne (by subst e; rw [if_neg (by omega), if_pos rfl]; exact q2)
        rw [setU, if_neg this]
      · rw [if_neg q2, if_neg q2]
        by_cases q3 : j - 7 < S.nv
        · rw [if_pos q3, if_pos q3]
          have : S.nw + 1 + (j - 7) ≠ i := fun e => hne (by subst e; rw [if_neg (by omega), if_neg (by omega)]; omega)
          rw [setU, if_neg this]
        · rw [if_neg q3, if_neg q3]
  · simp only [List.length_cons, List.length_nil] at hj
    have : j = 0 := by omega
    subst this
    rw [Nat.add_zero, cell_adr h1 hi, setU, if_pos rfl]; rfl
def unkC (S : MS) (pb k j : Nat) : Value := if j = 0 then .pointer (some ⟨pb, adr S k, none⟩) else .int .i64 (if j = 1 then uLo S k else uHi S k)
theorem sl_unk {p : Option Addr} {a b : Int} : buildSl 3 1 [.pointer none, .int .i64 0, .int .i64 0] [0] h [.agg ⟨[.pointer p, .int .i64 a, .int .i64 b]⟩] = newSlice h [.pointer p, .int .i64 a, .int .i64 b] 1 1 0 := id rfl
theorem build_unk {p : Option Addr} {a b : Int} : buildA (fun x => (#[(0, 1), (1, 2)] : Array (Nat × Nat))[x]?) ⟨[.pointer none, .int .i64 0, .int .i64 0]⟩ [0, 1] h [.pointer p, .agg ⟨[.int .i64 a, .int .i64 b]⟩] = some (.agg ⟨[.pointer p, .int .i64 a, .int .i64 b]⟩, h) := id rfl
theorem unk_one {p : Option Addr} {a b : Int} : allB oneCell [.pointer p, .int .i64 a, .int .i64 b] = true := rfl
def GrowU (S : MS) (pb B : Nat) (h : AHeap) (v : Value) (k : Nat) : Prop := GrowC B h v 3 k (unkC S pb)
theorem GrowU.push {S : MS} {pb B k : Nat} {v : Value} {g1 : AHeap} (hg : GrowU S pb B h v k) (hB : h.floor ≤ B) (hf : h.next + 2 < far) (hBn : B ≤ h.next) (hk : k ≤ 30)
    (hx : New h g1 [.pointer (some ⟨pb, adr S k, none⟩), .int .i64 (uLo S k), .int .i64 (uHi S k)] 0) :
    ∃ v' g2, appendA 3 24 g1 v (.slice (some ⟨h.next, 0, none⟩) 1 1) = some (v', g2) ∧ GrowU S pb B g2 v' (k + 1) ∧ g2.next = h.next + 2 ∧ g2.floor = h.floor ∧ ∀ i, i < B → g2.get i = h.get i := by
  have hnx := hx.next
  have hfl := hx.floor
  have g1' : GrowC B g1 v 3 k (unkC S pb) := hg.sub hx.sub
  obtain ⟨v', g2, e, ev, gv, hk2⟩ := g1'.append (bytes := 24) (cap := 1) (by omega) (by omega) (by omega) hx.get rfl rfl (fun j hj => by
    obtain rfl | rfl | rfl : j = 0 ∨ j = 1 ∨ j = 2 := by omega
    all_goals rfl) (by simp [maxBytes]; omega) (by simp [maxBytes]; omega)
  refine ⟨v', g2, e, gv, by have := hk2.next; omega, by have := hk2.floor; omega, fun i hi => ?_⟩
  rw [hk2.old i (by omega) fun b m c e => by have := (g1'.block e).1; omega, hx.old i (by omega)]
theorem new_set {g a b : AHeap} {cs vs : List Value} {gr : Nat} (hx : New g a cs gr) (hs : Set1 a b g.next (splice cs 0 vs) gr) (hl : cs.length = vs.length) : New g b vs gr :=
  ⟨by rw [hs.get, splice_all hl], fun i hi => by rw [hs.old i (by omega), hx.old i hi], by rw [hs.next, hx.next], by rw [hs.floor, hx.floor]⟩
def s154 : SCode := (.seq (.ops [jO 2 (.box (T 0)), jO 4 (.mov (.const (.slice none 0 0)))]) (.seq (.ops [jO 5 (.mov (.const (.slice none 0 0)))]) (.seq (.seq (.ops [jO 10 (.fieldAddr 0 (T 2)), jO 11 (.fieldAddr 2 (T 10)), jO 12 (.load1 (T 11)), jO 13 (.len (T 12)), jO 14 (.mov (jK 0))]) (.block 0 (.loop (.seq (.ops [jO 15 (.int2 .lss (T 14) (T 13))]) (.seq (.cond (T 15) .skip (.exit 0)) (.seq (.block 1 (.seq (.ops [jO 16 (.mov (T 14)), jO 17 (.idxSl 2 (T 12) (T 14)), jO 18 (.loadN 2 (T 17)), jO 7 (.alloc [(.int .i64 0), (.int .i64 0)]), jO 6 (.mov (T 16)), ⟨none, none, .store 2 (T 7) (T 18)⟩]) (.draw [jF 19 (.mov (T 5)), jF 20 (.mov (T 1)), jF 21 (.mov (T 6)), jF 22 (.there (T 20)), jF 23 (.fieldAddr 0 (T 22)), jF 24 (.idxArr 6 1 (T 23) (T 21)), jS 25 (.loadN 2 (T 7)), jF 26 (.build #[(0, 1), (1, 2)] [(.pointer none), (.int .i64 0), (.int .i64 0)] [0, 1] [(T 24), (T 25)]), jA 27 (.bslice 3 1 [(.pointer none), (.int .i64 0), (.int .i64 0)] [0] [(T 26)]), jA 28 (.append 3 24 (T 19) (T 27)), jF 5 (.mov (T 28))]))) (.ops [jO 29 (.int2 .add (T 14) (jK 1)), jO 14 (.mov (T 29))]))))))) (.seq (.draw [jF 30 (.mov (T 5)), jF 31 (.mov (T 1)), jF 32 (.there (T 31)), jF 33 (.fieldAddr 6 (T 32)), jF 34 (.fieldAddr 0 (T 2)), jF 35 (.fieldAddr 3 (T 34)), jS 36 (.loadN 2 (T 35)), jF 37 (.build #[(0, 1), (1, 2)] [(.pointer none), (.int .i64 0), (.int .i64 0)] [0, 1] [(T 33), (T 36)]), jA 38 (.bslice 3 1 [(.pointer none), (.int .i64 0), (.int .i64 0)] [0] [(T 37)]), jA 39 (.append 3 24 (T 30) (T 38)), jF 5 (.mov (T 39))]) (.seq (.seq (.ops [jO 40 (.fieldAddr 0 (T 2)), jO 41 (.fieldAddr 5 (T 40)), jO 42 (.load1 (T 41)), jO 43 (.len (T 42)), jO 44 (.mov (jK 0))]) (.block 2 (.loop (.seq (.ops [jO 45 (.int2 .lss (T 44) (T 43))]) (.seq (.cond (T 45) .skip (.exit 2)) (.seq (.block 3 (.seq (.ops [jO 46 (.mov (T 44)), jO 47 (.idxSl 4 (T 42) (T 44)), jO 48 (.loadN 4 (T 47)), jO 9 (.alloc [(.int .i64 0), (.int .i64 0), (.int .i64 0), (.int .i64 0)]), jO 8 (.mov (T 46)), ⟨none, none, .store 4 (T 9) (T 48)⟩]) (.draw [jF 49 (.mov (T 5)), jF 50 (.mov (T 1)), jF 51 (.mov (T 8)), jF 52 (.there (T 50)), jF 53 (.fieldAddr 7 (T 52)), jF 54 (.idxArr 4 1 (T 53) (T 51)), jF 55 (.fieldAddr 1 (T 9)), jS 56 (.loadN 2 (T 55)), jF 57 (.build #[(0, 1), (1, 2)] [(.pointer none), (.int .i64 0), (.int .i64 0)] [0, 1] [(T 54), (T 56)]), jA 58 (.bslice 3 1 [(.pointer none), (.int .i64 0), (.int .i64 0)] [0] [(T 57)]), jA 59 (.append 3 24 (T 49) (T 58)), jF 5 (.mov (T 59))]))) (.ops [jO 60 (.int2 .add (T 44) (jK 1)), jO 44 (.mov (T 60))]))))))) (.seq (.ops [jO 61 (.mov (T 5)), jO 4 (.mov (T 61))]) .ret))))))
theorem fok154 : FnOk Tryz.prog 154 62 s154 [.tmp 4] := ⟨Tryz.f154, _, Tryz.func154, rfl, Tryz.ntmps154, by kernel_rfl, by kernel_rfl⟩
theorem unknowns_c (hn : 110 ≤ n) (hr : h.next + 200 < far) (hfl : h.floor ≤ h.next) {wv vv sv tv : Value} {S : MS} (hy : SteepR h wv vv sv S) (ht : oneCell tv = true) (h6 : S.nw ≤ 6) (h4 : S.nv ≤ 4) {pb : Nat} :
    ∃ v h', call n (.func (.func 154) #[] #[]) [.agg ⟨wkL S wv vv sv tv⟩, .pointer (some ⟨pb, 0, none⟩)] h = some (v, h') ∧ Cells h' v 3 (numU S) (unkC S pb) ∧ oneCell v = true ∧ (∀ i, i < h.next → h'.get i = h.get i) ∧ h.next ≤ h'.next ∧ h'.next ≤ h.next + 40 ∧ h'.floor = h.floor := by
  obtain ⟨n, rfl⟩ : ∃ p, n = p + 1 := ⟨n - 1, by omega⟩
  refine call_any0 fok154 rfl rfl (by simp) ?_
  simp only [s154, jO, jF, jR, jS, jU, jA, jK, W_seq, W_ops]
  refine ops_box (cs := wkL S wv vv sv tv) (by omega) rfl (wk_one hy ht) fun g1 hx1 => ?_
  have n1 := hx1.next
  have f1' := hx1.floor
  have r1 := hx1.row
  have hy1 := hy.mono hx1.sub
  have old1 := hx1.old
  simp only [rn0, reduceIte, Nat.reduceEqDiff, Nat.reduceAdd, Nat.reduceMul, Nat.reduceSub, Nat.reduceLeDiff, Nat.reduceLT, r1.ld, wkg, Nat.zero_add, Cells.len hy1.w]
  refine W_loop S.nw (fun k f g ms => (∃ v, (∀ i, i < g1.next → g.get i = g1.get i) ∧ g.floor = g1.floor ∧ g1.next ≤ g.next ∧ g.next ≤ g1.next + 3 * k ∧ GrowU S pb g1.next g v k ∧ f 5 = v) ∧ ms = [] ∧ f 1 = .pointer (some ⟨pb, 0, none⟩) ∧ f 2 = .pointer (some ⟨h.next, 0, none⟩) ∧ f 12 = wv ∧ f 13 = .int .i64 (S.nw : Int) ∧ f 14 = .int .i64 (k : Int)) (by simp; omega) ?_ ?_ ?_
  · simp only [rn0, reduceIte, Nat.reduceEqDiff, Nat.reduceAdd, Nat.reduceMul, Nat.reduceSub, Nat.reduceLeDiff, Nat.reduceLT]
    exact ⟨⟨_, fun i _ => trivial, by omega, .nil, rfl⟩, rfl⟩
  · rintro k f g ms hk ⟨⟨v, hs, hfg, hup, hnx, gv, f5⟩, rfl, f1, f2, f12, f13, f14⟩
    have hk' : (k : Int) < (S.nw : Int) := by omega
    have hw : wrapF .i64 ((k : Int) + 1) = ((k + 1 : Nat) : Int) := by rw [wrap_in (by omega) (by omega)]; rfl
    have hyg := hy1.mono (AHeap.subOf hs)
    have ha : adr S k = k := by unfold adr; rw [if_pos hk]
    have hlo : uLo S k = S.wlo k := by unfold uLo; rw [if_pos hk]
    have hhi : uHi S k = S.whi k := by unfold uHi; rw [if_pos hk]
    simp only [rn0, reduceIte, Nat.reduceEqDiff, Nat.reduceAdd, Nat.reduceMul, Nat.reduceSub, Nat.reduceLeDiff, Nat.reduceLT, f1, f2, f5, f12, f13, f14, hk', Cells.idx hyg.w hk, ranges_ld hyg.w hk]
    refine step_row (cs := [.int .i64 0, .int .i64 0]) (by omega) rfl rfl fun g2a hx2a => ?_
    have n2a := hx2a.next
    have f2a := hx2a.floor
    simp only [rn0, reduceIte, Nat.reduceEqDiff, Nat.reduceAdd, Nat.reduceMul, Nat.reduceSub, Nat.reduceLeDiff, Nat.reduceLT]
    refine step_store (b := g.next) (off := 0) (vs := [.int .i64 (S.wlo k), .int .i64 (S.whi k)]) rfl hx2a.get (by omega) (by omega) rfl rfl rfl (by simp) fun g2 hs2 => ?_
    have hx2 := new_set hx2a hs2 rfl
    have n2 := hx2.next
    have f2' := hx2.floor
    have w2 := hx2.row.whole (n := 2) rfl
    simp only [rn0, reduceIte, Nat.reduceEqDiff, Nat.reduceAdd, Nat.reduceMul, Nat.reduceSub, Nat.reduceLeDiff, Nat.reduceLT]
    refine W_draw All ?_
    simp only [rn0, reduceIte, Nat.reduceEqDiff, Nat.reduceAdd, Nat.reduceMul, Nat.reduceSub, Nat.reduceLeDiff, Nat.reduceLT, f1, f2, f5, f12, f13, f14, there_p, fieldAt_p, idxArr_p (l := 6) (k := k) (by omega), Nat.zero_add, w2, build_unk, sl_unk]
    refine up_slice (by omega) unk_one (fun _ _ => trivial) fun g3 hx3 => ?_
    have n3 := hx3.next
    have hx3' : New g2 g3 [.pointer (some ⟨pb, adr S k, none⟩), .int .i64 (uLo S k), .int .i64 (uHi S k)] 0 := by rw [ha, hlo, hhi]; exact hx3
    obtain ⟨v', g4, e4, gv4, n4, f4', old4⟩ := GrowU.push (h := g2) (gv.sub hx2.sub) (by omega) (by omega) (by omega) (by omega) hx3'
    simp only [rn0, reduceIte, Nat.reduceEqDiff, Nat.reduceAdd, Nat.reduceMul, Nat.reduceSub, Nat.reduceLeDiff, Nat.reduceLT, f1, f2, f12, f13, f14, e4, hw]
    exact ⟨by omega, v', fun i hi => by rw [old4 i hi, hx2.old i (by omega), hs i hi], by omega, by omega, by omega, gv4, rfl⟩
  rintro f g ms ⟨⟨v, hs, hfg, hup, hnx, gv, f5⟩, rfl, f1, f2, f12, f13, f14⟩
  have rg := r1.mono (AHeap.subOf hs)
  have ha : adr S S.nw = 6 := by unfold adr; rw [if_neg (Nat.lt_irrefl _), if_pos rfl]
  have hlo : uLo S S.nw = S.splo := by unfold uLo; rw [if_neg (Nat.lt_irrefl _), if_pos rfl]
  have hhi : uHi S S.nw = S.sphi := by unfold uHi; rw [if_neg (Nat.lt_irrefl _), if_pos rfl]
  simp only [rn0, reduceIte, Nat.reduceEqDiff, Nat.reduceAdd, Nat.reduceMul, Nat.reduceSub, Nat.reduceLeDiff, Nat.reduceLT, f1, f2, f5, f12, f13, f14, Int.lt_irrefl]
  refine W_draw All ?_
  simp only [rn0, reduceIte, Nat.reduceEqDiff, Nat.reduceAdd, Nat.reduceMul, Nat.reduceSub, Nat.reduceLeDiff, Nat.reduceLT, f1, f2, f5, there_p, fieldAt_p, Nat.zero_add, wk_rng rg, build_unk, sl_unk]
  refine up_slice (by omega) unk_one (fun _ _ => trivial) fun g3 hx3 => ?_
  have n3 := hx3.next
  have hx3' : New g g3 [.pointer (some ⟨pb, adr S S.nw, none⟩), .int .i64 (uLo S S.nw), .int .i64 (uHi S S.nw)] 0 := by rw [ha, hlo, hhi]; exact hx3
  obtain ⟨v', g4, e4, gv4, n4, f4', old4⟩ := GrowU.push (h := g) gv (by omega) (by omega) (by omega) (by omega) hx3'
  have hs4 : ∀ i, i < g1.next → g4.get i = g1.get i := fun i hi => by rw [old4 i hi, hs i hi]
  have rg4 := r1.mono (AHeap.subOf hs4)
  have hy4 := hy1.mono (AHeap.subOf hs4)
  simp only [rn0, reduceIte, Nat.reduceEqDiff, Nat.reduceAdd, Nat.reduceMul, Nat.reduceSub, Nat.reduceLeDiff, Nat.reduceLT, f1, f2, e4, rg4.ld, wkg, Nat.zero_add, Cells.len hy4.v]
  refine ⟨by omega, ?_⟩
  refine W_loop S.nv (fun k f g ms => (∃ v, (∀ i, i < g1.next → g.get i = g1.get i) ∧ g.floor = g1.floor ∧ g1.next ≤ g.next ∧ g.next ≤ g1.next + 20 + 3 * k ∧ GrowU S pb g1.next g v (S.nw + 1 + k) ∧ f 5 = v) ∧ ms = [] ∧ f 1 = .pointer (some ⟨pb, 0, none⟩) ∧ f 2 = .pointer (some ⟨h.next, 0, none⟩) ∧ f 42 = vv ∧ f 43 = .int .i64 (S.nv : Int) ∧ f 44 = .int .i64 (k : Int)) (by simp; omega) ?_ ?_ ?_
  · simp only [rn0, reduceIte, Nat.reduceEqDiff, Nat.reduceAdd, Nat.reduceMul, Nat.reduceSub, Nat.reduceLeDiff, Nat.reduceLT, f1, f2]
    exact ⟨⟨v', hs4, by omega, by omega, by omega, gv4, rfl⟩, rfl⟩
  · rintro k f g ms hk ⟨⟨v, hs, hfg, hup, hnx, gv, f5⟩, rfl, f1, f2, f42, f43, f44⟩
    have hk' : (k : Int) < (S.nv : Int) := by omega
    have hw : wrapF .i64 ((k : Int) + 1) = ((k + 1 : Nat) : Int) := by rw [wrap_in (by omega) (by omega)]; rfl
    have hyg := hy1.mono (AHeap.subOf hs)
    have q1 : ¬ S.nw + 1 + k < S.nw := by omega
    have q2 : ¬ S.nw + 1 + k = S.nw := by omega
    have q3 : S.nw + 1 + k - S.nw - 1 = k := by omega
    have ha : adr S (S.nw + 1 + k) = 7 + k := by unfold adr; rw [if_neg q1, if_neg q2, q3]
    have hlo : uLo S (S.nw + 1 + k) = S.vlo k := by unfold uLo; rw [if_neg q1, if_neg q2, q3]
    have hhi : uHi S (S.nw + 1 + k) = S.vhi k := by unfold uHi; rw [if_neg q1, if_neg q2, q3]
    simp only [rn0, reduceIte, Nat.reduceEqDiff, Nat.reduceAdd, Nat.reduceMul, Nat.reduceSub, Nat.reduceLeDiff, Nat.reduceLT, f1, f2, f5, f42, f43, f44, hk', Cells.idx hyg.v hk, vat_ld hyg hk]
    refine step_row (cs := [.int .i64 0, .int .i64 0, .int .i64 0, .int .i64 0]) (by omega) rfl rfl fun g2a hx2a => ?_
    have n2a := hx2a.next
    have f2a := hx2a.floor
    simp only [rn0, reduceIte, Nat.reduceEqDiff, Nat.reduceAdd, Nat.reduceMul, Nat.reduceSub, Nat.reduceLeDiff, Nat.reduceLT]
    refine step_store (b := g.next) (off := 0) (vs := [.int .i64 (S.vb k), .int .i64 (S.vlo k), .int .i64 (S.vhi k), .int .i64 (S.vn k)]) rfl hx2a.get (by omega) (by omega) rfl rfl rfl (by simp) fun g2 hs2 => ?_
    have hx2 := new_set hx2a hs2 rfl
    have n2 := hx2.next
    have f2' := hx2.floor
    simp only [rn0, reduceIte, Nat.reduceEqDiff, Nat.reduceAdd, Nat.reduceMul, Nat.reduceSub, Nat.reduceLeDiff, Nat.reduceLT]
    refine W_draw All ?_
    simp only [rn0, reduceIte, Nat.reduceEqDiff, Nat.reduceAdd, Nat.reduceMul, Nat.reduceSub, Nat.reduceLeDiff, Nat.reduceLT, f1, f2, f5, f42, f43, f44, there_p, fieldAt_p, idxArr_p (l := 4) (k := k) (by omega), Nat.zero_add, hx2.ldN 1 2 (by simp) (by simp), List.drop_succ_cons, List.drop_zero, List.take_succ_cons, List.take_zero, build_unk, sl_unk]
    refine up_slice (by omega) unk_one (fun _ _ => trivial) fun g3 hx3 => ?_
    have n3 := hx3.next
    have hx3' : New g2 g3 [.pointer (some ⟨pb, adr S (S.nw + 1 + k), none⟩), .int .i64 (uLo S (S.nw + 1 + k)), .int .i64 (uHi S (S.nw + 1 + k))] 0 := by rw [ha, hlo, hhi]; exact hx3
    obtain ⟨v', g4, e4, gv4, n4, f4', old4⟩ := GrowU.push (h := g2) (gv.sub hx2.sub) (by omega) (by omega) (by omega) (by omega) hx3'
    simp only [rn0, reduceIte, Nat.reduceEqDiff, Nat.reduceAdd, Nat.reduceMul, Nat.reduceSub, Nat.reduceLeDiff, Nat.reduceLT, f1, f2, f42, f43, f44, e4, hw]
    exact ⟨by omega, v', fun i hi => by rw [old4 i hi, hx2.old i (by omega), hs i hi], by omega, by omega, by omega, gv4, rfl⟩
  · rintro f g ms ⟨⟨v, hs, hfg, hup, hnx, gv, f5⟩, rfl, f1, f2, f42, f43, f44⟩
    simp only [rn0, reduceIte, Nat.reduceEqDiff, Nat.reduceAdd, Nat.reduceMul, Nat.reduceSub, Nat.reduceLeDiff, Nat.reduceLT, f1, f2, f5, f42, f43, f44, Int.lt_irrefl]
    exact ⟨gv.cells, gv.one, fun i hi => by rw [hs i (by omega), old1 i hi], by omega, by omega, by omega⟩

def z11 : List Value := [.int .i64 0, .int .i64 0, .int .i64 0, .int .i64 0, .int .i64 0, .int .i64 0, .int .i64 0, .int .i64 0, .int .i64 0, .int .i64 0, .int .i64 0]
theorem build_z11 {pl : Nat → Option (Nat × Nat)} : buildA pl ⟨[.int .i64 0, .int .i64 0, .int .i64 0, .int .i64 0, .int .i64 0, .int .i64 0, .int .i64 0, .int .i64 0, .int .i64 0, .int .i64 0, .int .i64 0]⟩ [] h [] = some (.agg ⟨z11⟩, h) := id rfl
theorem build_wk' {a b w c d v s : Value} : buildA (fun x => (#[(0, 7), (7, 1)] : Array (Nat × Nat))[x]?) ⟨[.int .i64 0, .int .i64 0, .slice none 0 0, .int .i64 0, .int .i64 0, .slice none 0 0, .slice none 0 0, .slice none 0 0]⟩ [0] h [.agg ⟨[a, b, w, c, d, v, s]⟩] = some (.agg ⟨[a, b, w, c, d, v, s, .slice none 0 0]⟩, h) := by
  unfold buildA
  have e : Instr.fill (fun x => (#[(0, 7), (7, 1)] : Array (Nat × Nat))[x]?) #[.int .i64 0, .int .i64 0, .slice none 0 0, .int .i64 0, .int .i64 0, .slice none 0 0, .slice none 0 0, .slice none 0 0] ([0].zip [.agg ⟨[a, b, w, c, d, v, s]⟩]) = some #[a, b, w, c, d, v, s, .slice none 0 0] := by
    simp [Instr.fill, Value.cells]
  rw [e]
theorem build_wk {S : MS} {a b c : Value} : buildA (fun x => (#[(0, 7), (7, 1)] : Array (Nat × Nat))[x]?) ⟨[.int .i64 0, .int .i64 0, .slice none 0 0, .int .i64 0, .int .i64 0, .slice none 0 0, .slice none 0 0, .slice none 0 0]⟩ [0] h [.agg ⟨stL S a b c⟩] = some (.agg ⟨wkL S a b c nilS⟩, h) := build_wk'
theorem size_bound {S : MS} (hL : LimOk S) (hA : ArgsOk S) {i : Nat} (hi : i ≤ numU S) : 1 ≤ sizeN (uLo S) (uHi S) i ∧ sizeN (uLo S) (uHi S) i ≤ 10000000000000000 := by
  have h0 : numU S = S.nw + 1 + S.nv := rfl
  obtain ⟨b1, _, b4, b5, b6, b7⟩ := hA.head
  obtain ⟨l1, l2, l3⟩ := hL
  have h6 : S.nw ≤ 6 := by omega
  have hu : ∀ k, k < numU S → uLo S k ≤ uHi S k ∧ uHi S k - uLo S k + 1 ≤ 100 := fun k hk => by
    simp only [uLo, uHi]
    by_cases c1 : k < S.nw
    · rw [if_pos c1, if_pos c1]; have := hA.warm k c1; omega
    · rw [if_neg c1, if_neg c1]
      by_cases c2 : k = S.nw
      · rw [if_pos c2, if_pos c2]; omega
      · rw [if_neg c2, if_neg c2]; have := (hA.vat (k - S.nw - 1) (by omega)).2.1; omega
  have hw : ∀ k, k < S.nw → uLo S k ≤ uHi S k ∧ uHi S k - uLo S k + 1 ≤ 10 := fun k hk => by
    simp only [uLo, uHi, if_pos hk]; have := hA.warm k hk; omega
  refine ⟨sizeN_pos i fun k hk => (hu k (by omega)).1, ?_⟩
  have p10 : ∀ m : Fin 7, (10 : Int) ^ (m : Nat) ≤ 1000000 := by decide
  have p100 : ∀ m : Fin 6, (100 : Int) ^ (m : Nat) ≤ 10000000000 := by decide
  by_cases c : i ≤ S.nw
  · have h1 := sizeN_le (B := 10) (by omega) i fun k hk => hw k (by omega)
    have h2 := p10 ⟨i, by omega⟩
    have h2 : (10 : Int) ^ i ≤ 1000000 := h2
    omega
  · obtain ⟨m, rfl⟩ : ∃ m, i = S.nw + m := ⟨i - S.nw, by omega⟩
    rw [sizeN_split]
    have h1 := sizeN_le (B := 10) (by omega) S.nw fun k hk => hw k (by omega)
    have h2 : (10 : Int) ^ S.nw ≤ 1000000 := p10 ⟨S.nw, by omega⟩
    have h3 := sizeN_le (lo := fun k => uLo S (S.nw + k)) (hi := fun k => uHi S (S.nw + k)) (B := 100) (by omega) m fun k hk => hu (S.nw + k) (by omega)
    have h4 : (100 : Int) ^ m ≤ 10000000000 := p100 ⟨m, by omega⟩
    have h5 := sizeN_pos (lo := fun k => uLo S (S.nw + k)) (hi := fun k => uHi S (S.nw + k)) m fun k hk => (hu (S.nw + k) (by omega)).1
    have h6 : sizeN (uLo S) (uHi S) S.nw * sizeN (fun k => uLo S (S.nw + k)) (fun k => uHi S (S.nw + k)) m ≤ 1000000 * 10000000000 := Int.mul_le_mul (by omega) (by omega) (by omega) (by omega)
    omega
theorem unk_ld {v : Value} {S : MS} {pb m k : Nat} (hv : Cells h v 3 m (unkC S pb)) (hk : k < m) : loadAgg 3 h (ptrO v 3 k 0) = some (.agg ⟨[.pointer (some ⟨pb, adr S k, none⟩), .int .i64 (uLo S k), .int .i64 (uHi S k)]⟩) := by
  rw [Cells.ldN hv hk (by omega) (by omega)]; simp [List.range_succ, unkC]
def s152 : SCode := (.seq (.ops [jO 1 (.box (T 0)), jO 2 (.mov (jK 0))]) (.seq (.ops [jO 3 (.mov (jK 1))]) (.seq (.seq (.ops [jO 6 (.loadN 8 (T 1)), jO 7 (.build #[(0, 6), (6, 1), (7, 4)] [(.int .i64 0), (.int .i64 0), (.int .i64 0), (.int .i64 0), (.int .i64 0), (.int .i64 0), (.int .i64 0), (.int .i64 0), (.int .i64 0), (.int .i64 0), (.int .i64 0)] [] []), jO 8 (.box (T 7)), jO 9 (.call (.func 154) [(T 6), (T 8)]), jO 10 (.len (T 9)), jO 11 (.mov (jK 0))]) (.block 0 (.loop (.seq (.ops [jO 12 (.int2 .lss (T 11) (T 10))]) (.seq (.cond (T 12) .skip (.exit 0)) (.seq (.block 1 (.seq (.ops [jO 13 (.idxSl 3 (T 9) (T 11)), jO 14 (.loadN 3 (T 13)), jO 5 (.alloc [(.pointer none), (.int .i64 0), (.int .i64 0)]), ⟨none, none, .store 3 (T 5) (T 14)⟩]) (.ops [jO 15 (.mov (T 3)), jO 16 (.fieldAddr 1 (T 5)), jO 17 (.fieldAddr 1 (T 16)), jO 18 (.load1 (T 17)), jO 19 (.fieldAddr 1 (T 5)), jO 20 (.fieldAddr 0 (T 19)), jO 21 (.load1 (T 20)), jO 22 (.int2 .sub (T 18) (T 21)), jO 23 (.int2 .add (T 22) (jK 1)), jO 24 (.int2 .mul (T 15) (T 23)), jO 3 (.mov (T 24))]))) (.ops [jO 25 (.int2 .add (T 11) (jK 1)), jO 11 (.mov (T 25))]))))))) (.seq (.ops [jO 26 (.mov (T 3)), jO 2 (.mov (T 26))]) .ret))))
theorem fok152 : FnOk Tryz.prog 152 27 s152 [.tmp 2] := ⟨Tryz.f152, _, Tryz.func152, rfl, Tryz.ntmps152, by kernel_rfl, by kernel_rfl⟩
theorem sizeW_c (hn : 120 ≤ n) (hr : h.next + 300 < far) {wv vv sv tv : Value} {S : MS} (hy : SteepR h wv vv sv S) (ht : oneCell tv = true) (hL : LimOk S) (hA : ArgsOk S) :
    call n (.func (.func 152) #[] #[]) [.agg ⟨wkL S wv vv sv tv⟩] h = some (.int .i64 (sizeN (uLo S) (uHi S) (numU S)), h) := by
  obtain ⟨n, rfl⟩ : ∃ p, n = p + 1 := ⟨n - 1, by omega⟩
  refine call_plain0 fok152 rfl rfl (by simp) rfl ?_
  have hy := hy.shut
  have hr : h.shutAll.next + 300 < far := hr
  have hfl : h.shutAll.floor ≤ h.shutAll.next := Nat.le_refl _
  generalize h.shutAll = h at hy hr hfl
  have h0 : numU S = S.nw + 1 + S.nv := rfl
  obtain ⟨b1, _, b4, b5, b6, b7⟩ := hA.head
  obtain ⟨l1, l2, l3⟩ := id hL
  simp only [s152, jO, jF, jR, jS, jU, jA, jK, W_seq, W_ops]
  refine ops_box (cs := wkL S wv vv sv tv) (by omega) rfl (wk_one hy ht) fun g1 hx1 => ?_
  have n1 := hx1.next
  have f1' := hx1.floor
  have w1 := hx1.row.whole (n := 8) rfl
  simp only [rn0, reduceIte, Nat.reduceEqDiff, Nat.reduceAdd, Nat.reduceMul, Nat.reduceSub, Nat.reduceLeDiff, Nat.reduceLT, w1, build_z11]
  refine step_row (cs := z11) (by omega) rfl rfl fun g2 hx2 => ?_
  have n2 := hx2.next
  have f2' := hx2.floor
  have hy2 := (hy.mono hx1.sub).mono hx2.sub
  obtain ⟨v, g3, e3, hv, hv1, old3, u3, nn3, f3'⟩ := unknowns_c (n := n) (h := g2) (by omega) (by omega) (by omega) hy2 ht (by omega) l2 (pb := g1.next)
  simp only [rn0, reduceIte, Nat.reduceEqDiff, Nat.reduceAdd, Nat.reduceMul, Nat.reduceSub, Nat.reduceLeDiff, Nat.reduceLT, e3, Cells.len hv]
  refine W_loop (numU S) (fun k f g ms => (Sub All g3 g ∧ g.next = g3.next + k ∧ g.floor = g3.floor) ∧ ms = [] ∧ f 3 = .int .i64 (sizeN (uLo S) (uHi S) k) ∧ f 9 = v ∧ f 10 = .int .i64 (numU S : Int) ∧ f 11 = .int .i64 (k : Int)) (by simp; omega) ?_ ?_ ?_
  · simp only [rn0, reduceIte, Nat.reduceEqDiff, Nat.reduceAdd, Nat.reduceMul, Nat.reduceSub, Nat.reduceLeDiff, Nat.reduceLT, Nat.add_zero]
    exact ⟨rfl, rfl⟩
  · rintro k f g ms hk ⟨⟨k1, k2, k3⟩, rfl, f3, f9, f10, f11⟩
    have hk' : (k : Int) < (numU S : Int) := by omega
    have hw : wrapF .i64 ((k : Int) + 1) = ((k + 1 : Nat) : Int) := by rw [wrap_in (by omega) (by omega)]; rfl
    have hvg := Cells.mono hv k1
    obtain ⟨q1, q2⟩ := size_bound hL hA (i := k) (by omega)
    obtain ⟨q3, q4⟩ := size_bound hL hA (i := k + 1) (by omega)
    have hu : 0 ≤ uLo S k ∧ uLo S k ≤ uHi S k ∧ uHi S k ≤ 99 := by
      simp only [uLo, uHi]
      by_cases c1 : k < S.nw
      · rw [if_pos c1, if_pos c1]; have := hA.warm k c1; omega
      · rw [if_neg c1, if_neg c1]
        by_cases c2 : k = S.nw
        · rw [if_pos c2, if_pos c2]; omega
        · rw [if_neg c2, if_neg c2]; have := (hA.vat (k - S.nw - 1) (by omega)).2.1; omega
    have hws : wrapF .i64 (uHi S k - uLo S k) = uHi S k - uLo S k := wrap_in (by omega) (by omega)
    have hws2 : wrapF .i64 (uHi S k - uLo S k + 1) = uHi S k - uLo S k + 1 := wrap_in (by omega) (by omega)
    have hwm : wrapF .i64 (sizeN (uLo S) (uHi S) k * (uHi S k - uLo S k + 1)) = sizeN (uLo S) (uHi S) (k + 1) := wrap_in (by simp only [sizeN] at q3; omega) (by simp only [sizeN] at q4; omega)
    simp only [rn0, reduceIte, Nat.reduceEqDiff, Nat.reduceAdd, Nat.reduceMul, Nat.reduceSub, Nat.reduceLeDiff, Nat.reduceLT, f3, f9, f10, f11, hk', Cells.idx hvg hk, unk_ld hvg hk]
    refine step_new (vs := [.pointer (some ⟨g1.next, adr S k, none⟩), .int .i64 (uLo S k), .int .i64 (uHi S k)]) (by omega) (by omega) rfl (by simp only [rn0, reduceIte, Nat.reduceEqDiff, Nat.reduceAdd, Nat.reduceMul, Nat.reduceSub, Nat.reduceLeDiff, Nat.reduceLT]; rfl) rfl rfl rfl fun g4 hx4 => ?_
    have n4 := hx4.next
    have f4' := hx4.floor
    have hin : (Sub All g3 g4 ∧ g4.next = g3.next + (k + 1) ∧ g4.floor = g3.floor) = True := eq_true ⟨k1.trans hx4.sub, by omega, by omega⟩
    simp only [rn0, reduceIte, Nat.reduceEqDiff, Nat.reduceAdd, Nat.reduceMul, Nat.reduceSub, Nat.reduceLeDiff, Nat.reduceLT, f3, f9, f10, f11, hx4.ld, Nat.zero_add, Nat.reduceAdd, List.getElem?_cons_zero, List.getElem?_cons_succ, hws, hws2, hwm, hw, hin]
  · rintro f g ms ⟨⟨k1, k2, k3⟩, rfl, f3, f9, f10, f11⟩
    simp only [rn0, reduceIte, Nat.reduceEqDiff, Nat.reduceAdd, Nat.reduceMul, Nat.reduceSub, Nat.reduceLeDiff, Nat.reduceLT, f3, f9, f10, f11, Int.lt_irrefl]
noncomputable instance (S : MS) : Decidable (LimOk S) := Classical.propDecidable _
def s145 : SCode := (.seq (.ops [jO 1 (.box (T 0)), jO 2 (.mov (jK 0))]) (.seq (.ops [jO 4 (.loadN 7 (T 1)), jO 5 (.build #[(0, 7), (7, 1)] [(.int .i64 0), (.int .i64 0), (.slice none 0 0), (.int .i64 0), (.int .i64 0), (.slice none 0 0), (.slice none 0 0), (.slice none 0 0)] [0] [(T 4)]), jO 3 (.alloc [(.int .i64 0), (.int .i64 0), (.slice none 0 0), (.int .i64 0), (.int .i64 0), (.slice none 0 0), (.slice none 0 0), (.slice none 0 0)]), ⟨none, none, .store 8 (T 3) (T 5)⟩]) (.seq (.block 0 (.seq (.ops [jO 7 (.fieldAddr 0 (T 1)), jO 8 (.load1 (T 7)), jO 9 (.int2 .gtr (T 8) (jK 5)), jO 10 (.mov (T 9)), ⟨some 11, (some (10, false)), .fieldAddr 5 (T 1)⟩, ⟨some 12, (some (10, false)), .load1 (T 11)⟩, ⟨some 13, (some (10, false)), .len (T 12)⟩, ⟨some 14, (some (10, false)), .int2 .gtr (T 13) (jK 4)⟩, jO 15 (.pick (T 10) (.const (.bool true)) (T 14)), jO 16 (.mov (T 15)), ⟨some 17, (some (16, false)), .fieldAddr 6 (T 1)⟩, ⟨some 18, (some (16, false)), .load1 (T 17)⟩, ⟨some 19, (some (16, false)), .len (T 18)⟩, ⟨some 20, (some (16, false)), .int2 .gtr (T 19) (jK 5)⟩, jO 21 (.pick (T 16) (.const (.bool true)) (T 20)), jO 6 (.mov (T 21))]) (.cond (T 6) (.seq (.ops [jO 2 (.mov (jK 3))]) .ret) (.seq (.ops [jO 23 (.loadN 8 (T 3)), jO 24 (.call (.func 151) [(T 23)]), jO 25 (.not (T 24)), jO 22 (.mov (T 25))]) (.cond (T 22) (.seq (.ops [jO 2 (.mov (jK 1))]) .ret) (.seq (.ops [jO 27 (.loadN 8 (T 3)), jO 28 (.call (.func 152) [(T 27)]), jO 29 (.int2 .gtr (T 28) (jK 2000)), jO 26 (.mov (T 29))]) (.cond (T 26) (.seq (.ops [jO 2 (.mov (jK 3))]) .ret) .skip))))))) (.seq (.ops [jO 2 (.mov (jK 0))]) .ret))))
theorem fok145 : FnOk Tryz.prog 145 30 s145 [.tmp 2] := ⟨Tryz.f145, _, Tryz.func145, rfl, Tryz.ntmps145, by kernel_rfl, by kernel_rfl⟩
theorem check_c (hn : 130 ≤ n) (hr : h.next + 400 < far) {wv vv sv : Value} {S : MS} (hy : SteepR h wv vv sv S) (hl : S.nw ≤ 30 ∧ S.nv ≤ 30 ∧ S.ns ≤ 30) :
    call n (.func (.func 145) #[] #[]) [.agg ⟨stL S wv vv sv⟩] h = some (.int .i64 (faultS S), h) := by
  obtain ⟨n, rfl⟩ : ∃ p, n = p + 1 := ⟨n - 1, by omega⟩
  refine call_plain0 fok145 rfl rfl (by simp) rfl ?_
  have hy := hy.shut
  have hr : h.shutAll.next + 400 < far := hr
  have hfl : h.shutAll.floor ≤ h.shutAll.next := Nat.le_refl _
  generalize h.shutAll = h at hy hr hfl
  simp only [s145, jO, jF, jR, jS, jU, jA, jK, W_seq, W_ops]
  refine ops_box (cs := stL S wv vv sv) (by omega) rfl hy.one fun g1 hx1 => ?_
  have n1 := hx1.next
  have f1' := hx1.floor
  have ho8 := wk_one hy (tv := nilS) rfl
  simp only [rn0, reduceIte, Nat.reduceEqDiff, Nat.reduceAdd, Nat.reduceMul, Nat.reduceSub, Nat.reduceLeDiff, Nat.reduceLT, hx1.row.whole (n := 7) rfl, build_wk]
  refine step_new (vs := wkL S wv vv sv nilS) (by omega) (by omega) rfl (by simp only [rn0, reduceIte, Nat.reduceEqDiff, Nat.reduceAdd, Nat.reduceMul, Nat.reduceSub, Nat.reduceLeDiff, Nat.reduceLT]; rfl) ho8 rfl rfl fun g2 hx2 => ?_
  have n2 := hx2.next
  have f2' := hx2.floor
  have r1 := hx1.row.mono hx2.sub
  have w2 := hx2.row.whole (n := 8) rfl
  have hy := (hy.mono hx1.sub).mono hx2.sub
  have e3 : ¬ LimOk S → faultS S = 3 := fun e => by unfold faultS; rw [if_pos e]
  by_cases c1 : 5 < S.last
  · have := e3 fun e => by have := e.1; omega
    simp only [rn0, reduceIte, Nat.reduceEqDiff, Nat.reduceAdd, Nat.reduceMul, Nat.reduceSub, Nat.reduceLeDiff, Nat.reduceLT, r1.ld, stg, Nat.zero_add, c1, this]
  by_cases c2 : (4 : Int) < (S.nv : Int)
  · have := e3 fun e => by have := e.2.1; omega
    simp only [rn0, reduceIte, Nat.reduceEqDiff, Nat.reduceAdd, Nat.reduceMul, Nat.reduceSub, Nat.reduceLeDiff, Nat.reduceLT, r1.ld, stg, Nat.zero_add, c1, Cells.len hy.v, c2, this]
  by_cases c3 : (5 : Int) < (S.ns : Int)
  · have := e3 fun e => by have := e.2.2; omega
    simp only [rn0, reduceIte, Nat.reduceEqDiff, Nat.reduceAdd, Nat.reduceMul, Nat.reduceSub, Nat.reduceLeDiff, Nat.reduceLT, r1.ld, stg, Nat.zero_add, c1, Cells.len hy.v, c2, Cells.len hy.s, c3, this]
  have hL : LimOk S := ⟨by omega, by omega, by omega⟩
  have ev := isValid_c (n := n) (h := g2) (by omega) (by omega) hy (tv := nilS) rfl hl hL.1
  by_cases hA : ArgsOk S
  case neg =>
    have : faultS S = 1 := by unfold faultS; rw [if_neg (by simpa using hL), if_pos hA]
    simp only [rn0, reduceIte, Nat.reduceEqDiff, Nat.reduceAdd, Nat.reduceMul, Nat.reduceSub, Nat.reduceLeDiff, Nat.reduceLT, r1.ld, stg, Nat.zero_add, c1, Cells.len hy.v, c2, Cells.len hy.s, c3, w2, ev, hA, this]
  have ez := sizeW_c (n := n) (h := g2) (by omega) (by omega) hy (tv := nilS) rfl hL hA
  have hms := many_size hA
  by_cases hm : 2000 < sizeN (uLo S) (uHi S) (numU S)
  · have : faultS S = 3 := by unfold faultS; rw [if_neg (by simpa using hL), if_neg (by simpa using hA), if_pos (by omega)]
    simp only [rn0, reduceIte, Nat.reduceEqDiff, Nat.reduceAdd, Nat.reduceMul, Nat.reduceSub, Nat.reduceLeDiff, Nat.reduceLT, r1.ld, stg, Nat.zero_add, c1, Cells.len hy.v, c2, Cells.len hy.s, c3, w2, ev, hA, ez, hm, this]
  · have : faultS S = 0 := by unfold faultS; rw [if_neg (by simpa using hL), if_neg (by simpa using hA), if_neg (by omega)]
    simp only [rn0, reduceIte, Nat.reduceEqDiff, Nat.reduceAdd, Nat.reduceMul, Nat.reduceSub, Nat.reduceLeDiff, Nat.reduceLT, r1.ld, stg, Nat.zero_add, c1, Cells.len hy.v, c2, Cells.len hy.s, c3, w2, ev, hA, ez, hm, this]

section
variable {P : Program} {cf : CallF} {N : Nat} {f : Fr} {x y : Operand}
end
theorem sliceArr_part {N b o l hh : Nat} (h1 : l ≤ hh) (h2 : hh ≤ N) (h3 : l < N) : sliceArr N 1 h (.pointer (some ⟨b, o, none⟩)) (some (.int .i64 (l : Int))) (some (.int .i64 (hh : Int))) = some (.slice (some ⟨b, o + l, none⟩) (hh - l) (N - l), h) := by
  have e1 : boundA 0 (some (.int .i64 (l : Int))) = some l := rfl
  have e2 : boundA N (some (.int .i64 (hh : Int))) = some hh := rfl
  have e3 : Nat.ble l hh = true := ble_iff.2 h1
  have e4 : Nat.ble hh N = true := ble_iff.2 h2
  have e5 : Nat.beq N l = false := by
    cases hb : Nat.beq N l with
    | false => rfl
    | true => have := beq_iff.1 hb; omega
  unfold sliceArr
  simp only [e1, e2, e3, e4, e5, Bool.and_self, cond_true, cond_false, addrPlus, Nat.mul_one]
end Go.Vm.St

namespace Go.Vm.St
open Go.Proofs Go.Vm.Vat
set_option linter.unusedSimpArgs false
set_option linter.unusedVariables false
set_option maxRecDepth 10000
variable {n : Nat} {h : AHeap}
def s167 : SCode := (.seq (.ops [jO 4 (.mov (jK 0))]) (.seq (.seq (.ops [jO 7 (.mov (T 1)), jO 8 (.len (T 7)), jO 9 (.mov (jK 0))]) (.block 0 (.loop (.seq (.ops [jO 10 (.int2 .lss (T 9) (T 8))]) (.seq (.cond (T 10) .skip (.exit 0)) (.seq (.block 1 (.seq (.ops [jO 11 (.idxSl 1 (T 7) (T 9)), jO 12 (.load1 (T 11)), jO 6 (.mov (T 12))]) (.ops [jO 13 (.mov (T 0)), jO 14 (.mov (T 6)), jO 15 (.plain (.call { callee := .builtin .min, args := #[(T 13), (T 14)], argTypes := #[3, 3] }) 3), jO 0 (.mov (T 15))]))) (.ops [jO 16 (.int2 .add (T 9) (jK 1)), jO 9 (.mov (T 16))]))))))) (.seq (.ops [jO 17 (.mov (T 0)), jO 4 (.mov (T 17))]) .ret)))
theorem fok167 : FnOk Tryz.prog 167 18 s167 [.tmp 4] := ⟨Tryz.f167, _, Tryz.func167, rfl, Tryz.ntmps167, by kernel_rfl, by kernel_rfl⟩
theorem minimum_c {m : Nat} (hn : m + 2 ≤ n) (hm : m ≤ 1000) {v : Value} {a : Nat → Int} (hi : Ints h v m a) (x : Int) : call n (.func (.func 167) #[] #[]) [.int .i64 x, v] h = some (.int .i64 (minN x a m), h) := by
  obtain ⟨n, rfl⟩ : ∃ p, n = p + 1 := ⟨n - 1, by omega⟩
  refine call_plain0 fok167 rfl rfl (by simp) rfl ?_
  have hi := Cells.shut hi
  generalize h.shutAll = h at hi
  simp only [rn0, reduceIte, Nat.reduceEqDiff, Nat.reduceAdd, Nat.reduceMul, Nat.reduceSub, Nat.reduceLeDiff, Nat.reduceLT, s167, jO, jF, jR, jS, jU, jA, jK, Cells.len hi]
  refine W_loop m (fun k f g ms => g = h ∧ ms = [] ∧ f 0 = .int .i64 (minN x a k) ∧ f 7 = v ∧ f 8 = .int .i64 (m : Int) ∧ f 9 = .int .i64 (k : Int)) (by simp; omega) ?_ ?_ ?_
  · simp only [rn0, reduceIte, Nat.reduceEqDiff, Nat.reduceAdd, Nat.reduceMul, Nat.reduceSub, Nat.reduceLeDiff, Nat.reduceLT]
    exact ⟨rfl, rfl⟩
  · rintro k f g ms hk ⟨rfl, rfl, f0, f7, f8, f9⟩
    have hk' : (k : Int) < (m : Int) := by omega
    have hw : wrapF .i64 ((k : Int) + 1) = ((k + 1 : Nat) : Int) := by rw [wrap_in (by omega) (by omega)]; rfl
    have he : min (minN x a k) (a k) = minN x a (k + 1) := rfl
    simp only [rn0, reduceIte, Nat.reduceEqDiff, Nat.reduceAdd, Nat.reduceMul, Nat.reduceSub, Nat.reduceLeDiff, Nat.reduceLT, f0, f7, f8, f9, hk', Cells.idx hi hk, Cells.ld hi hk Nat.zero_lt_one, valN_tmp, he, hw]
  · rintro f g ms ⟨rfl, rfl, f0, f7, f8, f9⟩
    simp only [rn0, reduceIte, Nat.reduceEqDiff, Nat.reduceAdd, Nat.reduceMul, Nat.reduceSub, Nat.reduceLeDiff, Nat.reduceLT, f0, f7, f8, f9, Int.lt_irrefl]
theorem min_one (hn : 10 ≤ n) {g : AHeap} {b : Nat} {x y : Int} (hg : g.get b = some (.row [.int .i64 y] true 0)) : call n (.func (.func 167) #[] #[]) [.int .i64 x, .slice (some ⟨b, 0, none⟩) 1 1] g = some (.int .i64 (min x y), g) := by
  have hone : Ints g (.slice (some ⟨b, 0, none⟩) 1 1) 1 (fun _ => y) := ⟨_, _, rfl, fun x e => by cases e; rfl, .inr ⟨_, 0, _, _, _, rfl, hg, fun i j hi hj => by
    have hi : i = 0 := by omega
    have hj : j = 0 := by omega
    subst hi hj; rfl⟩⟩
  exact minimum_c (n := n) (h := g) (m := 1) (by omega) (by omega) hone x
def s159 : SCode := (.seq (.ops [jO 4 (.box (T 0)), jO 5 (.box (T 1)), jO 8 (.mov (jK 0))]) (.seq (.ops [jO 9 (.mov (jK 0))]) (.seq (.seq (.ops [jO 12 (.fieldAddr 0 (T 5)), jO 13 (.fieldAddr 0 (T 4)), jO 14 (.fieldAddr 5 (T 13)), jO 15 (.load1 (T 14)), jO 16 (.mov (T 2)), jO 17 (.idxSl 4 (T 15) (T 16)), jO 18 (.fieldAddr 0 (T 17)), jO 19 (.load1 (T 18)), jO 20 (.mov (T 3)), jO 21 (.int2 .add (T 20) (jK 1)), jO 22 (.sliceArr 6 1 (T 12) (some (T 19)) (some (T 21))), jO 23 (.len (T 22)), jO 24 (.mov (jK 0))]) (.block 0 (.loop (.seq (.ops [jO 25 (.int2 .lss (T 24) (T 23))]) (.seq (.cond (T 25) .skip (.exit 0)) (.seq (.block 1 (.seq (.ops [jO 26 (.idxSl 1 (T 22) (T 24)), jO 27 (.load1 (T 26)), jO 11 (.mov (T 27))]) (.ops [jO 28 (.mov (T 9)), jO 29 (.mov (T 11)), jO 30 (.int2 .add (T 28) (T 29)), jO 9 (.mov (T 30))]))) (.ops [jO 31 (.int2 .add (T 24) (jK 1)), jO 24 (.mov (T 31))]))))))) (.seq (.ops [jO 32 (.mov (T 9)), jO 8 (.mov (T 32))]) .ret))))
theorem fok159 : FnOk Tryz.prog 159 33 s159 [.tmp 8] := ⟨Tryz.f159, _, Tryz.func159, rfl, Tryz.ntmps159, by kernel_rfl, by kernel_rfl⟩
theorem warmthW_c (hn : 100 ≤ n) (hr : h.next + 5 < far) {wv vv sv tv : Value} {S : MS} {u : Nat → Int} (hy : SteepR h wv vv sv S) (ht : oneCell tv = true) (hG : Good S) (hu : InU S u) {v : Nat} {hh : Int} (ho : HourOk S v hh) :
    call n (.func (.func 159) #[] #[]) [.agg ⟨wkL S wv vv sv tv⟩, .agg ⟨tarr S u⟩, .int .i64 (v : Int), .int .i64 hh] h = some (.int .i64 (warmS S u v hh), h) := by
  obtain ⟨n, rfl⟩ : ∃ p, n = p + 1 := ⟨n - 1, by omega⟩
  refine call_plain0 fok159 rfl rfl (by simp) rfl ?_
  have hy := hy.shut
  have hr : h.shutAll.next + 5 < far := hr
  generalize h.shutAll = h at hy hr
  obtain ⟨o1, o2, o3, o4, o5, o6⟩ := ho.nat hG
  obtain ⟨z1, z2, z3, z4, _⟩ := hG.sizes
  have hv := ho.isV
  simp only [s159, jO, jF, jR, jS, jU, jA, jK, W_seq, W_ops]
  refine ops_box (cs := wkL S wv vv sv tv) (by omega) rfl (wk_one hy ht) fun h1 hx1 => ?_
  refine ops_box (cs := tarr S u) (by rw [hx1.next]; omega) rfl tarr_one fun h2 hx2 => ?_
  have r1 := hx1.row.mono hx2.sub
  have r2 := hx2.row
  have hy := (hy.mono hx1.sub).mono hx2.sub
  have hwh : wrapF .i64 (hh + 1) = hh + 1 := wrap_in (by omega) (by omega)
  have hsl := sliceArr_part (h := h2) (N := 6) (b := h1.next) (o := 0) (l := (S.vb v).toNat) (hh := (hh + 1).toNat) (by omega) (by omega) (by omega)
  have e1 : (((hh + 1).toNat : Nat) : Int) = hh + 1 := by omega
  rw [e1, o4, show 0 + (S.vb v).toNat = (S.vb v).toNat by omega, show (hh + 1).toNat - (S.vb v).toNat = (hh - S.vb v + 1).toNat by omega] at hsl
  generalize hm : (hh - S.vb v + 1).toNat = m at o5 o6 hsl
  have hI : Ints h2 (.slice (some ⟨h1.next, (S.vb v).toNat, none⟩) m (6 - (S.vb v).toNat)) m (fun k => u ((S.vb v).toNat + k)) :=
    ⟨_, _, rfl, fun x e => by cases e; rfl, .inr ⟨_, _, _, _, _, rfl, hx2.get, fun k j hk hj => by
      have : j = 0 := by omega
      subst this
      rw [Nat.mul_one, Nat.add_zero, tarr_get (by omega)]
      have q1 : (S.vb v).toNat + k < 6 := by omega
      have q2 : (S.vb v).toNat + k < S.nw := by omega
      simp only [cellU, q1, q2, if_true]⟩⟩
  simp only [rn0, reduceIte, Nat.reduceEqDiff, Nat.reduceAdd, Nat.reduceMul, Nat.reduceSub, Nat.reduceLeDiff, Nat.reduceLT, r1.ld, wkg, Nat.zero_add, Nat.add_zero, Cells.idx hy.v hv, Cells.fld hy.v hv, begin_ld hy hv, hwh, x_sliceArr, Option.map_some, hsl]
  refine W_loop m (fun k f g ms => g = h2 ∧ ms = [] ∧ f 9 = .int .i64 (sumR u (S.vb v).toNat k) ∧ f 22 = .slice (some ⟨h1.next, (S.vb v).toNat, none⟩) m (6 - (S.vb v).toNat) ∧ f 23 = .int .i64 (m : Int) ∧ f 24 = .int .i64 (k : Int)) (by simp; omega) ?_ ?_ ?_
  · simp only [rn0, reduceIte, Nat.reduceEqDiff, Nat.reduceAdd, Nat.reduceMul, Nat.reduceSub, Nat.reduceLeDiff, Nat.reduceLT]
    exact ⟨rfl, rfl⟩
  · rintro k f g ms hk ⟨rfl, rfl, f9, f22, f23, f24⟩
    have hk' : (k : Int) < (m : Int) := by omega
    have hw : wrapF .i64 ((k : Int) + 1) = ((k + 1 : Nat) : Int) := by rw [wrap_in (by omega) (by omega)]; rfl
    obtain ⟨b1, b2⟩ := sumR_bound (u := u) (b := (S.vb v).toNat) (B := 9) (by omega) k fun j hj => hu.warm hG (by omega)
    obtain ⟨b3, b4⟩ := hu.warm hG (i := (S.vb v).toNat + k) (by omega)
    have hw2 : wrapF .i64 (sumR u (S.vb v).toNat k + u ((S.vb v).toNat + k)) = sumR u (S.vb v).toNat (k + 1) := wrap_in (by omega) (by omega)
    simp only [rn0, reduceIte, Nat.reduceEqDiff, Nat.reduceAdd, Nat.reduceMul, Nat.reduceSub, Nat.reduceLeDiff, Nat.reduceLT, f9, f22, f23, f24, hk', Cells.idx hI hk, Cells.ld hI hk Nat.zero_lt_one, hw2, hw]
  · rintro f g ms ⟨rfl, rfl, f9, f22, f23, f24⟩
    have he : warmS S u v hh = sumR u (S.vb v).toNat m := by unfold warmS; rw [hm]
    simp only [rn0, reduceIte, Nat.reduceEqDiff, Nat.reduceAdd, Nat.reduceMul, Nat.reduceSub, Nat.reduceLeDiff, Nat.reduceLT, f9, f22, f23, f24, Int.lt_irrefl, he]
theorem cell_full {S : MS} {u : Nat → Int} {v : Nat} (hv : v < S.nv) : cellU S u (7 + v) = u (S.nw + 1 + v) := by
  have c1 : ¬ 7 + v < 6 := by omega
  have c2 : ¬ 7 + v = 6 := by omega
  have c4 : 7 + v - 7 = v := by omega
  simp only [cellU, c1, c2, hv, if_true, if_false, c4]
theorem cell_spoil {S : MS} {u : Nat → Int} : cellU S u 6 = u S.nw := by simp [cellU]
def s160 : SCode := (.seq (.ops [jO 4 (.box (T 0)), jO 5 (.box (T 1)), jO 8 (.mov (jK 0))]) (.seq (.draw [jF 9 (.fieldAddr 0 (T 4)), jF 10 (.fieldAddr 1 (T 9)), jR 11 (.load1 (T 10)), jS 12 (.loadN 8 (T 4)), jS 13 (.loadN 11 (T 5)), jF 14 (.mov (T 2)), jF 15 (.mov (T 3)), jU 16 (.call (.func 159) [(T 12), (T 13), (T 14), (T 15)]), jF 17 (.int2 .mul (T 11) (T 16)), jF 18 (.mov (T 2)), jF 19 (.fieldAddr 7 (T 5)), jF 20 (.idxArr 4 1 (T 19) (T 18)), jR 21 (.load1 (T 20)), jU 22 (.bslice 1 1 [(.int .i64 0)] [0] [(T 21)]), jA 23 (.call (.func 167) [(T 17), (T 22)]), jF 8 (.mov (T 23))]) .ret))
theorem fok160 : FnOk Tryz.prog 160 24 s160 [.tmp 8] := ⟨Tryz.f160, _, Tryz.func160, rfl, Tryz.ntmps160, by kernel_rfl, by kernel_rfl⟩
theorem blueOut_c (hn : 110 ≤ n) (hr : h.next + 20 < far) {wv vv sv tv : Value} {S : MS} {u : Nat → Int} (hy : SteepR h wv vv sv S) (ht : oneCell tv = true) (hG : Good S) (hu : InU S u) {v : Nat} {hh : Int} (ho : HourOk S v hh) :
    call n (.func (.func 160) #[] #[]) [.agg ⟨wkL S wv vv sv tv⟩, .agg ⟨tarr S u⟩, .int .i64 (v : Int), .int .i64 hh] h = some (.int .i64 (blueS S u v hh), h) := by
  obtain ⟨n, rfl⟩ : ∃ p, n = p + 1 := ⟨n - 1, by omega⟩
  refine call_plain0 fok160 rfl rfl (by simp) rfl ?_
  have hy := hy.shut
  have hr : h.shutAll.next + 20 < far := hr
  generalize h.shutAll = h at hy hr
  obtain ⟨_, _, b3, b4⟩ := blue_bound hG hu ho
  obtain ⟨_, _, _, _, z5, _⟩ := hG.sizes
  have hv := ho.isV
  simp only [s160, jO, jF, jR, jS, jU, jA, jK, W_seq, W_ops]
  refine ops_box (cs := wkL S wv vv sv tv) (by omega) rfl (wk_one hy ht) fun h1 hx1 => ?_
  refine ops_box (cs := tarr S u) (by rw [hx1.next]; omega) rfl tarr_one fun h2 hx2 => ?_
  have n1 := hx1.next
  have n2 := hx2.next
  have r1 := hx1.row.mono hx2.sub
  have r2 := hx2.row
  have hy := (hy.mono hx1.sub).mono hx2.sub
  have ew := warmthW_c (n := n) (h := h2) (by omega) (by omega) hy ht hG hu ho
  have hw : wrapF .i64 (S.per * warmS S u v hh) = S.per * warmS S u v hh := wrap_in (by omega) (by omega)
  have hld : loadCell h2 (.pointer (some ⟨h1.next, 7 + v, none⟩)) = some (.int .i64 (u (S.nw + 1 + v))) := by rw [r2.ld, tarr_get (by omega), cell_full hv]
  simp only [rn0, reduceIte, Nat.reduceEqDiff, Nat.reduceAdd, Nat.reduceMul, Nat.reduceSub, Nat.reduceLeDiff, Nat.reduceLT]
  refine W_draw All ?_
  simp only [rn0, reduceIte, Nat.reduceEqDiff, Nat.reduceAdd, Nat.reduceMul, Nat.reduceSub, Nat.reduceLeDiff, Nat.reduceLT, r1.ld, wkg, r1.whole (n := 8) rfl, r2.whole tarr_len, Nat.zero_add, Nat.add_zero, eqV_int, ew, hw, fieldAt_p, idxArr_p (l := 4) (k := v) (by omega), hld, sl_int]
  refine up_slice (by omega) rfl (fun g7 hx => hx.sub) fun g3 hx3 => ?_
  have em := min_one (n := n) (x := S.per * warmS S u v hh) (by omega) hx3.get
  have hmn : min (S.per * warmS S u v hh) (u (S.nw + 1 + v)) = blueS S u v hh := rfl
  simp only [rn0, reduceIte, Nat.reduceEqDiff, Nat.reduceAdd, Nat.reduceMul, Nat.reduceSub, Nat.reduceLeDiff, Nat.reduceLT, em, hmn]
def s148 : SCode := (.seq (.ops [jO 4 (.box (T 0)), jO 5 (.box (T 1)), jO 8 (.mov (jK 0))]) (.seq (.block 0 (.seq (.draw [jS 10 (.loadN 8 (T 4)), jS 11 (.loadN 11 (T 5)), jF 12 (.mov (T 2)), jF 13 (.mov (T 3)), jU 14 (.call (.func 159) [(T 10), (T 11), (T 12), (T 13)]), jF 15 (.fieldAddr 6 (T 5)), jR 16 (.load1 (T 15)), jF 17 (.int2 .gtr (T 14) (T 16)), jF 9 (.mov (T 17))]) (.cond (T 9) (.seq (.ops [jO 8 (.mov (jK 2))]) .ret) (.seq (.draw [jS 19 (.loadN 8 (T 4)), jS 20 (.loadN 11 (T 5)), jF 21 (.mov (T 2)), jF 22 (.mov (T 3)), jU 23 (.call (.func 160) [(T 19), (T 20), (T 21), (T 22)]), jF 24 (.fieldAddr 0 (T 4)), jF 25 (.fieldAddr 5 (T 24)), jR 26 (.load1 (T 25)), jF 27 (.mov (T 2)), jF 28 (.idxSl 4 (T 26) (T 27)), jF 29 (.fieldAddr 3 (T 28)), jR 30 (.load1 (T 29)), jF 31 (.int2 .lss (T 23) (T 30)), jF 18 (.mov (T 31))]) (.cond (T 18) (.seq (.ops [jO 8 (.mov (jK 0))]) .ret) .skip))))) (.seq (.ops [jO 8 (.mov (jK 1))]) .ret)))
theorem fok148 : FnOk Tryz.prog 148 32 s148 [.tmp 8] := ⟨Tryz.f148, _, Tryz.func148, rfl, Tryz.ntmps148, by kernel_rfl, by kernel_rfl⟩
theorem kindW_c (hn : 120 ≤ n) (hr : h.next + 40 < far) {wv vv sv tv : Value} {S : MS} {u : Nat → Int} (hy : SteepR h wv vv sv S) (ht : oneCell tv = true) (hG : Good S) (hu : InU S u) {v : Nat} {hh : Int} (ho : HourOk S v hh) :
    call n (.func (.func 148) #[] #[]) [.agg ⟨wkL S wv vv sv tv⟩, .agg ⟨tarr S u⟩, .int .i64 (v : Int), .int .i64 hh] h = some (.int .i64 (kindS S u v hh), h) := by
  obtain ⟨n, rfl⟩ : ∃ p, n = p + 1 := ⟨n - 1, by omega⟩
  refine call_plain0 fok148 rfl rfl (by simp) rfl ?_
  have hy := hy.shut
  have hr : h.shutAll.next + 40 < far := hr
  generalize h.shutAll = h at hy hr
  have hv := ho.isV
  simp only [s148, jO, jF, jR, jS, jU, jA, jK, W_seq, W_ops]
  refine ops_box (cs := wkL S wv vv sv tv) (by omega) rfl (wk_one hy ht) fun h1 hx1 => ?_
  refine ops_box (cs := tarr S u) (by rw [hx1.next]; omega) rfl tarr_one fun h2 hx2 => ?_
  have n1 := hx1.next
  have n2 := hx2.next
  have r1 := hx1.row.mono hx2.sub
  have r2 := hx2.row
  have hy := (hy.mono hx1.sub).mono hx2.sub
  have ew := warmthW_c (n := n) (h := h2) (by omega) (by omega) hy ht hG hu ho
  have eb := blueOut_c (n := n) (h := h2) (by omega) (by omega) hy ht hG hu ho
  have w1 := r1.whole (n := 8) rfl
  have w2 := r2.whole tarr_len
  have hld : loadCell h2 (.pointer (some ⟨h1.next, 6, none⟩)) = some (.int .i64 (u S.nw)) := by rw [r2.ld, tarr_get (by omega), cell_spoil]
  simp only [rn0, reduceIte, Nat.reduceEqDiff, Nat.reduceAdd, Nat.reduceMul, Nat.reduceSub, Nat.reduceLeDiff, Nat.reduceLT]
  refine W_draw All ?_
  by_cases c1 : u S.nw < warmS S u v hh
  · have hk : kindS S u v hh = 2 := by unfold kindS; rw [if_pos c1]
    simp only [rn0, reduceIte, Nat.reduceEqDiff, Nat.reduceAdd, Nat.reduceMul, Nat.reduceSub, Nat.reduceLeDiff, Nat.reduceLT, w1, w2, Nat.zero_add, fieldAt_p, hld, eqV_int, ew, c1, hk]
  simp only [rn0, reduceIte, Nat.reduceEqDiff, Nat.reduceAdd, Nat.reduceMul, Nat.reduceSub, Nat.reduceLeDiff, Nat.reduceLT, w1, w2, Nat.zero_add, fieldAt_p, hld, eqV_int, ew, c1]
  refine W_draw All ?_
  by_cases c2 : blueS S u v hh < S.vn v
  · have hk : kindS S u v hh = 0 := by unfold kindS; rw [if_neg c1, if_pos c2]
    simp only [rn0, reduceIte, Nat.reduceEqDiff, Nat.reduceAdd, Nat.reduceMul, Nat.reduceSub, Nat.reduceLeDiff, Nat.reduceLT, r1.ld, w1, w2, wkg, Nat.zero_add, Cells.self hy.v, Cells.idx hy.v hv, Cells.fld hy.v hv, need_ld hy hv, eqV_int, eb, c2, hk]
  · have hk : kindS S u v hh = 1 := by unfold kindS; rw [if_neg c1, if_neg c2]
    simp only [rn0, reduceIte, Nat.reduceEqDiff, Nat.reduceAdd, Nat.reduceMul, Nat.reduceSub, Nat.reduceLeDiff, Nat.reduceLT, r1.ld, w1, w2, wkg, Nat.zero_add, Cells.self hy.v, Cells.idx hy.v hv, Cells.fld hy.v hv, need_ld hy hv, eqV_int, eb, c2, hk]
def hourRow (m k : Nat) (val : Nat → Int) : List Value := (List.range m).map fun i => .int .i64 (if i < k then val i else 0)
theorem hourRow_one {m k : Nat} {val : Nat → Int} : allB oneCell (hourRow m k val) = true := by rw [allB_iff]; intro v hv; obtain ⟨i, _, rfl⟩ := List.mem_map.1 hv; rfl
theorem hourRow_set {m k : Nat} {val : Nat → Int} (hk : k < m) : splice (hourRow m k val) (k * 1) [.int .i64 (val k)] = hourRow m (k + 1) val := by
  refine map_splice (by simp; omega) (fun i hi hc => ?_) (fun j hj => ?_)
  · simp only [List.length_cons, List.length_nil] at hc
    by_cases c : i < k
    · have : i < k + 1 := by omega
      simp only [c, this, if_true]
    · have : ¬ i < k + 1 := by omega
      simp only [c, this, if_false]
  · simp only [List.length_cons, List.length_nil] at hj
    have : j = 0 := by omega
    subst this
    simp
theorem repl_hour {m : Nat} {val : Nat → Int} : repl [.int .i64 0] m = hourRow m 0 val := by
  rw [repl_one]
  unfold hourRow
  apply List.ext_getElem?
  intro i
  by_cases hi : i < m
  · rw [List.getElem?_replicate, if_pos hi, List.getElem?_map, List.getElem?_range hi]; simp
  · rw [List.getElem?_eq_none (by simp; omega), List.getElem?_eq_none (by simp; omega)]
def hoursN (S : MS) (v : Nat) : Nat := (S.last - S.vb v + 1).toNat
theorem hoursN_ok {S : MS} (hG : Good S) {v : Nat} (hv : v < S.nv) : (hoursN S v : Int) = S.last - S.vb v + 1 ∧ 1 ≤ hoursN S v ∧ hoursN S v ≤ 6 := by
  obtain ⟨⟨q1, q2⟩, _⟩ := hG.args.vat v hv
  obtain ⟨z1, z2, _⟩ := hG.sizes
  unfold hoursN
  omega
theorem hour_at {S : MS} (hG : Good S) {v i : Nat} (hv : v < S.nv) (hi : i < hoursN S v) : HourOk S v (S.vb v + (i : Int)) := by
  obtain ⟨h1, h2, h3⟩ := hoursN_ok hG hv
  exact ⟨hv, by omega, by omega⟩
def s149 : SCode := (.seq (.ops [jO 4 (.box (T 0)), jO 5 (.box (T 1)), jO 6 (.box (T 2)), jO 8 (.mov (.const (.slice none 0 0)))]) (.seq (.ops [jO 11 (.loadN 8 (T 5)), jO 12 (.mov (T 3)), jO 13 (.call (.func 137) [(T 11), (T 12)]), jO 14 (.mkslice 1 8 [(.int .i64 0)] (T 13) (T 13)), jO 9 (.mov (T 14))]) (.seq (.seq (.ops [jO 15 (.loadN 8 (T 5)), jO 16 (.mov (T 3)), jO 17 (.call (.func 137) [(T 15), (T 16)]), jO 18 (.mov (jK 0))]) (.block 0 (.loop (.seq (.ops [jO 19 (.int2 .lss (T 18) (T 17))]) (.seq (.cond (T 19) .skip (.exit 0)) (.seq (.block 1 (.seq (.ops [jO 20 (.mov (T 18)), jO 10 (.mov (T 20))]) (.draw [jF 21 (.mov (T 9)), jF 22 (.mov (T 10)), jF 23 (.fieldAddr 0 (T 4)), jS 24 (.load1 (T 23)), jS 25 (.loadN 8 (T 5)), jS 26 (.loadN 11 (T 6)), jF 27 (.mov (T 3)), jF 28 (.fieldAddr 0 (T 5)), jF 29 (.fieldAddr 5 (T 28)), jS 30 (.load1 (T 29)), jF 31 (.mov (T 3)), jF 32 (.idxSl 4 (T 30) (T 31)), jF 33 (.fieldAddr 0 (T 32)), jS 34 (.load1 (T 33)), jF 35 (.mov (T 10)), jF 36 (.int2 .add (T 34) (T 35)), jA 37 (.call (T 24) [(T 25), (T 26), (T 27), (T 36)]), jF 38 (.idxSl 1 (T 21) (T 22)), ⟨.any, ⟨none, none, .store 1 (T 38) (T 37)⟩⟩]))) (.ops [jO 39 (.int2 .add (T 18) (jK 1)), jO 18 (.mov (T 39))]))))))) (.seq (.ops [jO 40 (.mov (T 9)), jO 8 (.mov (T 40))]) .ret))))
theorem fok149 : FnOk Tryz.prog 149 41 s149 [.tmp 8] := ⟨Tryz.f149, _, Tryz.func149, rfl, Tryz.ntmps149, by kernel_rfl, by kernel_rfl⟩
theorem hourly_c (hn : 130 ≤ n) (hr : h.next + 200 < far) (hfl : h.floor ≤ h.next) {wv vv sv tv : Value} {S : MS} {u : Nat → Int} (hy : SteepR h wv vv sv S) (ht : oneCell tv = true) (hG : Good S) {v : Nat} (hv : v < S.nv) {G : Nat} {val : Int → Int}
    (hV : ∀ g, Sub All h g → g.next ≤ h.next + 100 → ∀ hh, HourOk S v hh → call (n - 1) (.func (.func G) #[] #[]) [.agg ⟨wkL S wv vv sv tv⟩, .agg ⟨tarr S u⟩, .int .i64 (v : Int), .int .i64 hh] g = some (.int .i64 (val hh), g)) :
    ∃ h' b, call n (.func (.func 149) #[] #[]) [.agg ⟨[.func (.func G) #[] #[]]⟩, .agg ⟨wkL S wv vv sv tv⟩, .agg ⟨tarr S u⟩, .int .i64 (v : Int)] h = some (.slice (some ⟨b, 0, none⟩) (hoursN S v) (hoursN S v), h') ∧
      Ints h' (.slice (some ⟨b, 0, none⟩) (hoursN S v) (hoursN S v)) (hoursN S v) (fun i => val (S.vb v + (i : Int))) ∧ h.next ≤ b ∧ b < h'.next ∧ (∀ i, i < h.next → h'.get i = h.get i) ∧ h.next ≤ h'.next ∧ h'.next ≤ h.next + 10 ∧ h'.floor = h.floor := by
  obtain ⟨n, rfl⟩ : ∃ p, n = p + 1 := ⟨n - 1, by omega⟩
  rw [Nat.add_sub_cancel] at hV
  suffices hs : ∃ v' h', call (n + 1) (.func (.func 149) #[] #[]) [.agg ⟨[.func (.func G) #[] #[]]⟩, .agg ⟨wkL S wv vv sv tv⟩, .agg ⟨tarr S u⟩, .int .i64 (v : Int)] h = some (v', h') ∧ ∃ b, v' = .slice (some ⟨b, 0, none⟩) (hoursN S v) (hoursN S v) ∧
      Ints h' (.slice (some ⟨b, 0, none⟩) (hoursN S v) (hoursN S v)) (hoursN S v) (fun i => val (S.vb v + (i : Int))) ∧ h.next ≤ b ∧ b < h'.next ∧ (∀ i, i < h.next → h'.get i = h.get i) ∧ h.next ≤ h'.next ∧ h'.next ≤ h.next + 10 ∧ h'.floor = h.floor by
    obtain ⟨v', h', e, b, rfl, q⟩ := hs
    exact ⟨h', b, e, q⟩
  obtain ⟨m1, m2, m3⟩ := hoursN_ok hG hv
  obtain ⟨⟨q1, q2⟩, _⟩ := hG.args.vat v hv
  obtain ⟨z1, z2, _⟩ := hG.sizes
  refine call_any0 fok149 rfl rfl (by simp) ?_
  simp only [s149, jO, jF, jR, jS, jU, jA, jK, W_seq, W_ops]
  refine ops_box (cs := [.func (.func G) #[] #[]]) (by omega) rfl rfl fun g1 hx1 => ?_
  have n1 := hx1.next
  have f1' := hx1.floor
  refine ops_box (cs := wkL S wv vv sv tv) (by omega) rfl (wk_one hy ht) fun g2 hx2 => ?_
  have n2 := hx2.next
  have f2' := hx2.floor
  refine ops_box (cs := tarr S u) (by omega) rfl tarr_one fun g3 hx3 => ?_
  have n3 := hx3.next
  have f3' := hx3.floor
  have r1 := (hx1.row.mono hx2.sub).mono hx3.sub
  have r2 := hx2.row.mono hx3.sub
  have r3 := hx3.row
  have s3 : Sub All h g3 := hx1.sub.trans (hx2.sub.trans hx3.sub)
  have hy3 := hy.mono s3
  have eh := hoursOf_c (n := n) (h := g3) (by omega) (by omega) hy3 ht hG hv
  rw [← m1] at eh
  simp only [rn0, reduceIte, Nat.reduceEqDiff, Nat.reduceAdd, Nat.reduceMul, Nat.reduceSub, Nat.reduceLeDiff, Nat.reduceLT, r2.whole (n := 8) rfl, eh, make_ints (m := hoursN S v) (by omega), repl_hour (m := hoursN S v) (val := fun i => val (S.vb v + (i : Int)))]
  refine step_slice (by omega) hourRow_one fun g4 hx4 => ?_
  have n4 := hx4.next
  have f4' := hx4.floor
  have r14 := r1.mono hx4.sub
  have r24 := r2.mono hx4.sub
  have r34 := r3.mono hx4.sub
  have hy4 := hy3.mono hx4.sub
  have eh4 := hoursOf_c (n := n) (h := g4) (by omega) (by omega) hy4 ht hG hv
  rw [← m1] at eh4
  have old4 : ∀ i, i < h.next → g4.get i = h.get i := fun i hi => by rw [hx4.old i (by omega), hx3.old i (by omega), hx2.old i (by omega), hx1.old i hi]
  simp only [rn0, reduceIte, Nat.reduceEqDiff, Nat.reduceAdd, Nat.reduceMul, Nat.reduceSub, Nat.reduceLeDiff, Nat.reduceLT, r24.whole (n := 8) rfl, eh4]
  refine W_loop (hoursN S v) (fun k f g ms => ((∀ i, i ≠ g3.next → g.get i = g4.get i) ∧ g.next = g4.next ∧ g.floor = g4.floor ∧ g.get g3.next = some (.row (hourRow (hoursN S v) k (fun i => val (S.vb v + (i : Int)))) true 0)) ∧ ms = [] ∧ f 3 = .int .i64 (v : Int) ∧ f 4 = .pointer (some ⟨h.next, 0, none⟩) ∧ f 5 = .pointer (some ⟨g1.next, 0, none⟩) ∧ f 6 = .pointer (some ⟨g2.next, 0, none⟩) ∧ f 9 = .slice (some ⟨g3.next, 0, none⟩) (hoursN S v) (hoursN S v) ∧ f 17 = .int .i64 (hoursN S v : Int) ∧ f 18 = .int .i64 (k : Int)) (by simp; omega) ?_ ?_ ?_
  · simp only [rn0, reduceIte, Nat.reduceEqDiff, Nat.reduceAdd, Nat.reduceMul, Nat.reduceSub, Nat.reduceLeDiff, Nat.reduceLT]
    exact ⟨⟨fun i _ => trivial, hx4.get⟩, rfl⟩
  · rintro k f g ms hk ⟨⟨go, gn, gf, gr⟩, rfl, f3, f4, f5, f6, f9, f17, f18⟩
    have hk' : (k : Int) < (hoursN S v : Int) := by omega
    have hw : wrapF .i64 ((k : Int) + 1) = ((k + 1 : Nat) : Int) := by rw [wrap_in (by omega) (by omega)]; rfl
    have kg : Keep g3.next g4 g := ⟨fun i cs w gr hi hg => by rw [go i hi]; exact hg, by omega, gf⟩
    have r1g := r14.keep kg (by omega)
    have r2g := r24.keep kg (by omega)
    have r3g := r34.keep kg (by omega)
    have oldg : ∀ i, i < h.next → g.get i = h.get i := fun i hi => by rw [go i (by omega), old4 i hi]
    have hyg := hy.mono (AHeap.subOf oldg)
    have ho := hour_at hG hv hk
    have ev := hV g (AHeap.subOf oldg) (by omega) _ ho
    have hwb : wrapF .i64 (S.vb v + (k : Int)) = S.vb v + (k : Int) := wrap_in (by omega) (by omega)
    simp only [rn0, reduceIte, Nat.reduceEqDiff, Nat.reduceAdd, Nat.reduceMul, Nat.reduceSub, Nat.reduceLeDiff, Nat.reduceLT, f3, f4, f5, f6, f9, f17, f18, hk']
    refine W_draw All ?_
    simp only [rn0, reduceIte, Nat.reduceEqDiff, Nat.reduceAdd, Nat.reduceMul, Nat.reduceSub, Nat.reduceLeDiff, Nat.reduceLT, f3, f4, f5, f6, f9, f17, f18, r1g.ld, r2g.ld, r2g.whole (n := 8) rfl, r3g.whole tarr_len, wkg, Nat.zero_add, List.getElem?_cons_zero, Cells.idx hyg.v hv, Cells.fld hyg.v hv, begin_ld hyg hv, hwb, ev, idxSl_s (s := 1) hk]
    refine up_store (b := g3.next) (off := k * 1) (vs := [.int .i64 (val (S.vb v + (k : Int)))]) rfl gr (by omega) (by omega) rfl rfl rfl (by simp [hourRow]; omega) (fun _ _ => trivial) fun g5 hs5 => ?_
    rw [hourRow_set hk] at hs5
    have n5 := hs5.next
    have f5' := hs5.floor
    simp only [rn0, reduceIte, Nat.reduceEqDiff, Nat.reduceAdd, Nat.reduceMul, Nat.reduceSub, Nat.reduceLeDiff, Nat.reduceLT, f3, f4, f5, f6, f9, f17, f18, hw]
    exact ⟨fun i hi => by rw [hs5.old i hi, go i hi], by omega, by omega, hs5.get⟩
  · rintro f g ms ⟨⟨go, gn, gf, gr⟩, rfl, f3, f4, f5, f6, f9, f17, f18⟩
    simp only [rn0, reduceIte, Nat.reduceEqDiff, Nat.reduceAdd, Nat.reduceMul, Nat.reduceSub, Nat.reduceLeDiff, Nat.reduceLT, f3, f4, f5, f6, f9, f17, f18, Int.lt_irrefl]
    refine ⟨_, rfl, ?_, by omega, by omega, fun i hi => by rw [go i (by omega), old4 i hi], by omega, by omega, by omega⟩
    have e : hourRow (hoursN S v) (hoursN S v) (fun i => val (S.vb v + (i : Int))) = (List.range (hoursN S v)).map fun i => .int .i64 (val (S.vb v + (i : Int))) := by
      apply List.map_congr_left
      intro i hi
      rw [if_pos (List.mem_range.1 hi)]
    rw [e] at gr
    exact ints_row gr

def NeB (v : Value) (x : Nat) : Prop := ∀ b m c, v = .slice (some b) m c → x ≠ b.block
structure RowIn (B : Nat) (h : AHeap) (v1 v2 r : Value) (m : Nat) (a : Nat → Int) : Prop where
  ints : Ints h r m a
  blk : ∀ x m c, r = .slice (some x) m c → B ≤ x.block ∧ x.block < h.next ∧ NeB v1 x.block ∧ NeB v2 x.block
structure TwoR (B : Nat) (h : AHeap) (v1 v2 : Value) (k1 k2 : Nat) (cnt : Nat → Nat) (q1 q2 : Nat → Nat → Int) (r1 r2 : Nat → Value) : Prop where
  c1 : GrowC B h v1 1 k1 (fun i _ => r1 i)
  c2 : GrowC B h v2 1 k2 (fun i _ => r2 i)
  i1 : ∀ i, i < k1 → RowIn B h v1 v2 (r1 i) (cnt i) (q1 i)
  i2 : ∀ i, i < k2 → RowIn B h v1 v2 (r2 i) (cnt i) (q2 i)
  sep : ∀ x m c, v2 = .slice (some x) m c → NeB v1 x.block
theorem TwoR.nil {B : Nat} {cnt : Nat → Nat} {q1 q2 : Nat → Nat → Int} {r1 r2 : Nat → Value} : TwoR B h nilS nilS 0 0 cnt q1 q2 r1 r2 := ⟨.nil, .nil, fun i hi => by omega, fun i hi => by omega, fun x m c e => by cases e⟩
theorem RowIn.old {B : Nat} {g : AHeap} {v1 v2 r : Value} {m : Nat} {a : Nat → Int} (hr : RowIn B h v1 v2 r m a) (ho : ∀ i, i < h.next → g.get i = h.get i) (hn : h.next ≤ g.next) : RowIn B g v1 v2 r m a :=
  ⟨Cells.mono hr.ints (AHeap.subOf ho), fun x m c e => by obtain ⟨a, b, c, d⟩ := hr.blk x m c e; exact ⟨a, by omega, c, d⟩⟩
theorem TwoR.old {B : Nat} {g : AHeap} {v1 v2 : Value} {k1 k2 : Nat} {cnt : Nat → Nat} {q1 q2 : Nat → Nat → Int} {r1 r2 : Nat → Value} (ht : TwoR B h v1 v2 k1 k2 cnt q1 q2 r1 r2) (ho : ∀ i, i < h.next → g.get i = h.get i) (hn : h.next ≤ g.next) : TwoR B g v1 v2 k1 k2 cnt q1 q2 r1 r2 :=
  ⟨ht.c1.sub (AHeap.subOf ho), ht.c2.sub (AHeap.subOf ho), fun i hi => (ht.i1 i hi).old ho hn, fun i hi => (ht.i2 i hi).old ho hn, ht.sep⟩
theorem TwoR.push {B : Nat} {g1 : AHeap} {v1 v2 l : Value} {k1 k2 : Nat} {cnt : Nat → Nat} {q1 q2 : Nat → Nat → Int} {r1 r2 : Nat → Value} (ht : TwoR B h v1 v2 k1 k2 cnt q1 q2 r1 r2) (hB : h.floor ≤ B) (hf : h.next + 2 < far) (hBn : B ≤ h.next)
    (hl : RowIn B h v1 v2 l (cnt k1) (q1 k1)) (hone : oneCell l = true) (hx : New h g1 [l] 0) (hk : k1 ≤ 100) :
    ∃ v' g2, appendA 1 24 g1 v1 (.slice (some ⟨h.next, 0, none⟩) 1 1) = some (v', g2) ∧ TwoR B g2 v' v2 (k1 + 1) k2 cnt q1 q2 (fun i => if i = k1 then l else r1 i) r2 ∧ g2.next = h.next + 2 ∧ g2.floor = h.floor ∧ (∀ i, i < B → g2.get i = h.get i) := by
  have hnx := hx.next
  have hfl := hx.floor
  have ht1 := ht.old hx.old (by omega)
  have c1' : GrowC B g1 v1 1 k1 (fun i _ => if i = k1 then l else r1 i) := ht1.c1.congr fun k j hk hj => by rw [if_neg (by omega)]
  obtain ⟨v', g2, e, ev, gv, hk2⟩ := c1'.append (bytes := 24) (cap := 1) (by omega) (by omega) (by omega) hx.get rfl (by simp [allB, hone]) (fun j hj => by rw [one_get j hj, if_pos rfl]) (by simp [maxBytes]; omega) (by simp [maxBytes]; omega)
  have n2 := hk2.next
  have f2 := hk2.floor
  have hrow : ∀ {r : Value} {m : Nat} {a : Nat → Int}, RowIn B g1 v1 v2 r m a → (∀ x m c, r = .slice (some x) m c → x.block < g1.next) → RowIn B g2 v' v2 r m a := fun {r m a} hr hlt =>
    ⟨Cells.kept hr.ints hk2 fun x m c e b m' c' e' => (hr.blk x m c e).2.2.1 b m' c' e', fun x m c e => by
      obtain ⟨k1, k2, k3, k4⟩ := hr.blk x m c e
      refine ⟨k1, by omega, fun b m' c' e' => ?_, k4⟩
      rw [ev] at e'; cases e'
      show x.block ≠ g1.next
      omega⟩
  have hlr := hl.old hx.old (by omega)
  refine ⟨v', g2, e, ⟨gv, ?_, fun i hi => ?_, fun i hi => ?_, fun x m c e b m' c' e' => ?_⟩, by omega, by omega, fun i hi => ?_⟩
  · obtain ⟨cs, ⟨rfl, rfl, rfl⟩ | ⟨b, rfl, h2, h3, h4⟩, h5, h6⟩ := ht1.c2
    · exact .nil
    · exact ⟨cs, .inr ⟨b, rfl, by rw [hk2.old b (AHeap.lt_of_get h2) fun x m c e => ht.sep _ _ _ rfl x m c e]; exact h2, h3, h4⟩, h5, h6⟩
  · by_cases e : i = k1
    · subst e; simp only [if_true]
      exact hrow hlr fun x m c e => (hlr.blk x m c e).2.1
    · simp only [e, if_false]
      have := ht1.i1 i (by omega)
      exact hrow this fun x m c e => (this.blk x m c e).2.1
  · have := ht1.i2 i hi
    exact hrow this fun x m c e => (this.blk x m c e).2.1
  · rw [ev] at e'; cases e'
    have := (ht.c2.block e).2
    show x.block ≠ g1.next
    omega
  · rw [hk2.old i (by omega) fun b m c e => by have := (c1'.block e).1; omega, hx.old i (by omega)]
theorem build_meas {G : Nat} : buildA (fun x => (#[(0, 1)] : Array (Nat × Nat))[x]?) ⟨[.nilFunc]⟩ [0] h [.func (.func G) #[] #[]] = some (.agg ⟨[.func (.func G) #[] #[]]⟩, h) := id rfl

def ThinS (S : MS) : Prop := S.nw ≤ 30 ∧ S.nv ≤ 30 ∧ S.ns ≤ 30
noncomputable instance (S : MS) : Decidable (ThinS S) := Classical.propDecidable _
def s71 : SCode := (.seq (.ops [jO 1 (.box (T 0)), jO 2 (.mov (.const (.bool false)))]) (.seq (.ops [jO 3 (.fieldAddr 2 (T 1)), jO 4 (.load1 (T 3)), jO 5 (.len (T 4)), jO 6 (.int2 .leq (T 5) (jK 30)), jO 7 (.mov (T 6)), ⟨some 8, (some (7, true)), .fieldAddr 5 (T 1)⟩, ⟨some 9, (some (7, true)), .load1 (T 8)⟩, ⟨some 10, (some (7, true)), .len (T 9)⟩, ⟨some 11, (some (7, true)), .int2 .leq (T 10) (jK 30)⟩, jO 12 (.pick (T 7) (T 11) (.const (.bool false))), jO 13 (.mov (T 12)), ⟨some 14, (some (13, true)), .fieldAddr 6 (T 1)⟩, ⟨some 15, (some (13, true)), .load1 (T 14)⟩, ⟨some 16, (some (13, true)), .len (T 15)⟩, ⟨some 17, (some (13, true)), .int2 .leq (T 16) (jK 30)⟩, jO 18 (.pick (T 13) (T 17) (.const (.bool false))), jO 2 (.mov (T 18))]) .ret))
theorem fok71 : FnOk Tryz.prog 71 19 s71 [.tmp 2] := ⟨Tryz.f71, _, Tryz.func71, rfl, Tryz.ntmps71, by kernel_rfl, by kernel_rfl⟩
theorem thin_c (hn : 1 ≤ n) (hr : h.next < far) {wv vv sv : Value} {S : MS} (hy : SteepR h wv vv sv S) :
    call n (.func (.func 71) #[] #[]) [.agg ⟨stL S wv vv sv⟩] h = some (.bool (decide (ThinS S)), h) := by
  obtain ⟨n, rfl⟩ : ∃ p, n = p + 1 := ⟨n - 1, by omega⟩
  refine call_plain0 fok71 rfl rfl (by simp) rfl ?_
  have hy := hy.shut
  have hr : h.shutAll.next < far := hr
  generalize h.shutAll = h at hy hr
  simp only [s71, jO, jF, jR, jS, jU, jA, jK, W_seq, W_ops]
  refine ops_box (cs := stL S wv vv sv) hr rfl hy.one fun h1 hx => ?_
  have hy := hy.mono hx.sub
  by_cases c1 : (S.nw : Int) ≤ 30
  case neg =>
    have : ¬ ThinS S := fun e => c1 (by have := e.1; omega)
    simp only [rn0, reduceIte, Nat.reduceEqDiff, Nat.reduceAdd, Nat.reduceMul, Nat.reduceSub, Nat.reduceLeDiff, Nat.reduceLT, hx.ld, stg, Nat.zero_add, Cells.len hy.w, c1, this]
  by_cases c2 : (S.nv : Int) ≤ 30
  case neg =>
    have : ¬ ThinS S := fun e => c2 (by have := e.2.1; omega)
    simp only [rn0, reduceIte, Nat.reduceEqDiff, Nat.reduceAdd, Nat.reduceMul, Nat.reduceSub, Nat.reduceLeDiff, Nat.reduceLT, hx.ld, stg, Nat.zero_add, Cells.len hy.w, c1, Cells.len hy.v, c2, this]
  by_cases c3 : (S.ns : Int) ≤ 30
  · have : ThinS S := ⟨by omega, by omega, by omega⟩
    simp only [rn0, reduceIte, Nat.reduceEqDiff, Nat.reduceAdd, Nat.reduceMul, Nat.reduceSub, Nat.reduceLeDiff, Nat.reduceLT, hx.ld, stg, Nat.zero_add, Cells.len hy.w, c1, Cells.len hy.v, c2, Cells.len hy.s, c3, this]
  · have : ¬ ThinS S := fun e => c3 (by have := e.2.2; omega)
    simp only [rn0, reduceIte, Nat.reduceEqDiff, Nat.reduceAdd, Nat.reduceMul, Nat.reduceSub, Nat.reduceLeDiff, Nat.reduceLT, hx.ld, stg, Nat.zero_add, Cells.len hy.w, c1, Cells.len hy.v, c2, Cells.len hy.s, c3, this]
def s118 : SCode := (.seq (.ops [jO 1 (.box (T 0)), jO 2 (.alloc [(.int .i64 0), (.int .i64 0)])]) (.seq (.ops [jO 3 (.fieldAddr 0 (T 1)), jO 4 (.load1 (T 3)), jO 5 (.fieldAddr 1 (T 1)), jO 6 (.load1 (T 5)), jO 7 (.build #[(0, 1), (1, 1)] [(.int .i64 0), (.int .i64 0)] [0, 1] [(T 4), (T 6)]), ⟨none, none, .store 2 (T 2) (T 7)⟩]) .ret))
theorem fok118 : FnOk Tryz.prog 118 8 s118 [.cellN 2 2] := ⟨Tryz.f118, _, Tryz.func118, rfl, Tryz.ntmps118, by kernel_rfl, by kernel_rfl⟩
theorem to_c (hn : 1 ≤ n) (hr : h.next + 2 < far) (lo hi : Int) : call n (.func (.func 118) #[] #[]) [.agg ⟨[.int .i64 lo, .int .i64 hi]⟩] h = some (.agg ⟨[.int .i64 lo, .int .i64 hi]⟩, h) := by
  obtain ⟨n, rfl⟩ : ∃ p, n = p + 1 := ⟨n - 1, by omega⟩
  refine call_plain0 fok118 rfl rfl (by simp) rfl ?_
  have hr : h.shutAll.next + 2 < far := hr
  have hfl : h.shutAll.floor ≤ h.shutAll.next := Nat.le_refl _
  generalize h.shutAll = h at hr hfl
  simp only [s118, jO, jF, jR, jS, jU, jA, jK, W_seq, W_ops]
  refine ops_box (cs := [.int .i64 lo, .int .i64 hi]) (by omega) rfl rfl fun h1 hx => ?_
  refine ops_alloc (by rw [hx.next]; omega) rfl fun h2 hx2 => ?_
  have hrow := hx.row.mono hx2.sub
  have hr2 : h2.next ≤ far := by rw [hx2.next, hx.next]; omega
  have hf2 : h2.floor ≤ h1.next := by rw [hx2.floor, hx.floor, hx.next]; omega
  simp only [rn0, reduceIte, Nat.reduceEqDiff, Nat.reduceAdd, Nat.reduceMul, Nat.reduceSub, Nat.reduceLeDiff, Nat.reduceLT, hrow.ld, Nat.zero_add, List.getElem?_cons_zero, List.getElem?_cons_succ, build_range]
  refine step_store (vs := [.int .i64 lo, .int .i64 hi]) rfl hx2.get hf2 hr2 rfl rfl rfl (by simp) fun h3 hs => ?_
  rw [splice2] at hs
  simp only [rn0, reduceIte, Nat.reduceEqDiff, Nat.reduceAdd, Nat.reduceMul, Nat.reduceSub, Nat.reduceLeDiff, Nat.reduceLT, res_cellN, hs.row.whole (n := 2) rfl]
theorem append_nil {s bytes : Nat} {y : Value} {m : Nat} {new : List Value} (hy : ∃ x k, y = .slice x m k) (hyc : cellsOfSlice h s y = some new) (hnl : new.length = m * s) (hb1 : m * bytes ≤ maxBytes) (hb2 : m ≤ maxBytes) :
    appendA s bytes h (.slice none 0 0) y = if m = 0 then some (.slice none 0 0, h) else newSlice h new m unk s := by
  obtain ⟨a, k, rfl⟩ := hy
  have e1 : Nat.ble ((0 + m) * bytes) maxBytes = true := ble_iff.2 (by rw [Nat.zero_add]; exact hb1)
  have e2 : Nat.ble (0 + m) maxBytes = true := ble_iff.2 (by omega)
  have e3 : Nat.beq (len new) (m * s) = true := by rw [len_eq]; exact beq_iff.2 hnl
  unfold appendA
  simp only [hyc, e1, e2, e3, Bool.and_self, cond_true]
  by_cases hm : m = 0
  · subst hm
    rw [if_pos rfl]
    rfl
  · rw [if_neg hm]
    have e4 : Nat.ble (0 + m) 0 = false := by
      cases hb : Nat.ble (0 + m) 0 with
      | false => rfl
      | true => have := ble_iff.1 hb; omega
    rw [e4, Bool.false_and, cond_false]
    unfold appendGrow
    have e5 : cellsOfSlice h s (.slice none 0 0) = some [] := rfl
    have e6 : Nat.blt 0 unk = true := rfl
    simp only [e5, e6, cond_true, app_eq, List.nil_append, Nat.zero_add]
theorem ints_slice {v : Value} {m : Nat} {a : Nat → Int} (hi : Ints h v m a) : ∃ x k, v = .slice x m k := by
  obtain ⟨x, k, e, _⟩ := hi
  exact ⟨x, k, e⟩

theorem grow_push {B k s bytes : Nat} {v : Value} {c : Nat → Nat → Value} {g1 : AHeap} {row : List Value} (hg : GrowC B h v s k c) (hB : h.floor ≤ B) (hf : h.next + 2 < far) (hBn : B ≤ h.next) (hx : New h g1 row 0) (hlen : row.length = s) (hone : allB oneCell row = true) (hn : ∀ j, j < s → row[j]? = some (c k j)) (hb1 : (k + 1) * bytes ≤ maxBytes) (hb2 : k + 1 ≤ maxBytes) :
    ∃ v' g2, appendA s bytes g1 v (.slice (some ⟨h.next, 0, none⟩) 1 1) = some (v', g2) ∧ GrowC B g2 v' s (k + 1) c ∧ oneCell v' = true ∧ g2.next = h.next + 2 ∧ g2.floor = h.floor ∧ (∀ i, i < B → g2.get i = h.get i) ∧ g1.next ≤ g2.next := by
  have hnx := hx.next
  have hfl := hx.floor
  have g1' : GrowC B g1 v s k c := hg.sub hx.sub
  obtain ⟨v', g2, e, ev, gv, hk2⟩ := g1'.append (bytes := bytes) (cap := 1) (by omega) (by omega) (by omega) hx.get hlen hone hn hb1 hb2
  have n2 := hk2.next
  have f2 := hk2.floor
  refine ⟨v', g2, e, gv, gv.one, by omega, by omega, fun i hi => ?_, by omega⟩
  rw [hk2.old i (by omega) fun b m c e => by have := (g1'.block e).1; omega, hx.old i (by omega)]
theorem build_stI {a b c d : Int} : buildA (fun x => (#[(0, 1), (1, 1), (2, 1), (3, 2), (5, 1), (6, 1)] : Array (Nat × Nat))[x]?) ⟨[.int .i64 0, .int .i64 0, .slice none 0 0, .int .i64 0, .int .i64 0, .slice none 0 0, .slice none 0 0]⟩ [0, 1, 3] h [.int .i64 a, .int .i64 b, .agg ⟨[.int .i64 c, .int .i64 d]⟩] = some (.agg ⟨[.int .i64 a, .int .i64 b, .slice none 0 0, .int .i64 c, .int .i64 d, .slice none 0 0, .slice none 0 0]⟩, h) := by
  unfold buildA
  have e : Instr.fill (fun x => (#[(0, 1), (1, 1), (2, 1), (3, 2), (5, 1), (6, 1)] : Array (Nat × Nat))[x]?) #[.int .i64 0, .int .i64 0, .slice none 0 0, .int .i64 0, .int .i64 0, .slice none 0 0, .slice none 0 0] ([0, 1, 3].zip [.int .i64 a, .int .i64 b, .agg ⟨[.int .i64 c, .int .i64 d]⟩]) = some #[.int .i64 a, .int .i64 b, .slice none 0 0, .int .i64 c, .int .i64 d, .slice none 0 0, .slice none 0 0] := by
    simp [Instr.fill, Value.cells]
  rw [e]
theorem cells1 {v : Value} (h : oneCell v = true) : cellList v = [v] := by cases v <;> first | rfl | cases h
theorem build_va {a b c d : Int} : buildA (fun x => (#[(0, 1), (1, 2), (3, 1)] : Array (Nat × Nat))[x]?) ⟨[.int .i64 0, .int .i64 0, .int .i64 0, .int .i64 0]⟩ [0, 1, 2] h [.int .i64 a, .agg ⟨[.int .i64 b, .int .i64 c]⟩, .int .i64 d] = some (.agg ⟨[.int .i64 a, .int .i64 b, .int .i64 c, .int .i64 d]⟩, h) := by
  unfold buildA
  have e : Instr.fill (fun x => (#[(0, 1), (1, 2), (3, 1)] : Array (Nat × Nat))[x]?) #[.int .i64 0, .int .i64 0, .int .i64 0, .int .i64 0] ([0, 1, 2].zip [.int .i64 a, .agg ⟨[.int .i64 b, .int .i64 c]⟩, .int .i64 d]) = some #[.int .i64 a, .int .i64 b, .int .i64 c, .int .i64 d] := by
    simp [Instr.fill, Value.cells]
  rw [e]
theorem build_sm {a b c : Int} : buildA (fun x => (#[(0, 1), (1, 1), (2, 1)] : Array (Nat × Nat))[x]?) ⟨[.int .i64 0, .int .i64 0, .int .i64 0]⟩ [0, 1, 2] h [.int .i64 a, .int .i64 b, .int .i64 c] = some (.agg ⟨[.int .i64 a, .int .i64 b, .int .i64 c]⟩, h) := by
  unfold buildA
  have e : Instr.fill (fun x => (#[(0, 1), (1, 1), (2, 1)] : Array (Nat × Nat))[x]?) #[.int .i64 0, .int .i64 0, .int .i64 0] ([0, 1, 2].zip [.int .i64 a, .int .i64 b, .int .i64 c]) = some #[.int .i64 a, .int .i64 b, .int .i64 c] := by
    simp [Instr.fill, Value.cells]
  rw [e]
theorem sl_va {a b c d : Int} : buildSl 4 1 [.int .i64 0, .int .i64 0, .int .i64 0, .int .i64 0] [0] h [.agg ⟨[.int .i64 a, .int .i64 b, .int .i64 c, .int .i64 d]⟩] = newSlice h [.int .i64 a, .int .i64 b, .int .i64 c, .int .i64 d] 1 1 0 := by
  unfold buildSl
  have e : Instr.fill (fun i => some (i * 4, 4)) ⟨repl [Value.int .i64 0, .int .i64 0, .int .i64 0, .int .i64 0] 1⟩ ([0].zip [.agg ⟨[.int .i64 a, .int .i64 b, .int .i64 c, .int .i64 d]⟩]) = some #[.int .i64 a, .int .i64 b, .int .i64 c, .int .i64 d] := by
    simp [Instr.fill, Value.cells, repl, app_eq]
  rw [e]
theorem sp2 {a b c d e f g x : Value} : splice [a, b, c, d, e, f, g] 2 [x] = [a, b, x, d, e, f, g] := rfl
theorem sp5 {a b c d e f g x : Value} : splice [a, b, c, d, e, f, g] 5 [x] = [a, b, c, d, e, x, g] := rfl
theorem sp6 {a b c d e f g x : Value} : splice [a, b, c, d, e, f, g] 6 [x] = [a, b, c, d, e, f, x] := rfl
abbrev stV (a b w c d v s : Value) : List Value := [a, b, w, c, d, v, s]
def s69 : SCode := (.seq (.ops [jO 1 (.box (T 0)), jO 2 (.alloc [(.int .i64 0), (.int .i64 0), (.slice none 0 0), (.int .i64 0), (.int .i64 0), (.slice none 0 0), (.slice none 0 0)])]) (.seq (.draw [jF 9 (.fieldAddr 0 (T 1)), jR 10 (.load1 (T 9)), jF 11 (.fieldAddr 1 (T 1)), jR 12 (.load1 (T 11)), jF 13 (.fieldAddr 3 (T 1)), jS 14 (.loadN 2 (T 13)), jU 15 (.call (.func 118) [(T 14)]), jF 16 (.build #[(0, 1), (1, 1), (2, 1), (3, 2), (5, 1), (6, 1)] [(.int .i64 0), (.int .i64 0), (.slice none 0 0), (.int .i64 0), (.int .i64 0), (.slice none 0 0), (.slice none 0 0)] [0, 1, 3] [(T 10), (T 12), (T 15)]), jU 3 (.alloc [(.int .i64 0), (.int .i64 0), (.slice none 0 0), (.int .i64 0), (.int .i64 0), (.slice none 0 0), (.slice none 0 0)]), ⟨.any, ⟨none, none, .store 7 (T 3) (T 16)⟩⟩]) (.seq (.seq (.ops [jO 4 (.mov (jK 0))]) (.block 0 (.loop (.seq (.seq (.ops [jO 17 (.mov (T 4)), jO 18 (.fieldAddr 2 (T 1)), jO 19 (.load1 (T 18)), jO 20 (.len (T 19)), jO 21 (.int2 .lss (T 17) (T 20))]) (.cond (T 21) .skip (.exit 0))) (.seq (.block 1 (.draw [jF 24 (.fieldAddr 2 (T 3)), jR 25 (.load1 (T 24)), jF 26 (.fieldAddr 2 (T 1)), jS 27 (.load1 (T 26)), jF 28 (.mov (T 4)), jF 29 (.idxSl 2 (T 27) (T 28)), jS 30 (.loadN 2 (T 29)), jU 31 (.call (.func 118) [(T 30)]), jU 32 (.bslice 2 1 [(.int .i64 0), (.int .i64 0)] [0] [(T 31)]), jA 33 (.append 2 16 (T 25) (T 32)), jF 34 (.fieldAddr 2 (T 3)), ⟨.any, ⟨none, none, .store 1 (T 34) (T 33)⟩⟩])) (.ops [jO 22 (.mov (T 4)), jO 23 (.int2 .add (T 22) (jK 1)), jO 4 (.mov (T 23))])))))) (.seq (.seq (.ops [jO 5 (.mov (jK 0))]) (.block 2 (.loop (.seq (.seq (.ops [jO 35 (.mov (T 5)), jO 36 (.fieldAddr 5 (T 1)), jO 37 (.load1 (T 36)), jO 38 (.len (T 37)), jO 39 (.int2 .lss (T 35) (T 38))]) (.cond (T 39) .skip (.exit 2))) (.seq (.block 3 (.seq (.ops [jO 42 (.fieldAddr 5 (T 1)), jO 43 (.load1 (T 42)), jO 44 (.mov (T 5)), jO 45 (.idxSl 4 (T 43) (T 44)), jO 46 (.loadN 4 (T 45)), jO 6 (.alloc [(.int .i64 0), (.int .i64 0), (.int .i64 0), (.int .i64 0)]), ⟨none, none, .store 4 (T 6) (T 46)⟩]) (.draw [jF 47 (.fieldAddr 5 (T 3)), jR 48 (.load1 (T 47)), jF 49 (.fieldAddr 0 (T 6)), jR 50 (.load1 (T 49)), jF 51 (.fieldAddr 1 (T 6)), jS 52 (.loadN 2 (T 51)), jU 53 (.call (.func 118) [(T 52)]), jF 54 (.fieldAddr 3 (T 6)), jR 55 (.load1 (T 54)), jF 56 (.build #[(0, 1), (1, 2), (3, 1)] [(.int .i64 0), (.int .i64 0), (.int .i64 0), (.int .i64 0)] [0, 1, 2] [(T 50), (T 53), (T 55)]), jU 57 (.bslice 4 1 [(.int .i64 0), (.int .i64 0), (.int .i64 0), (.int .i64 0)] [0] [(T 56)]), jA 58 (.append 4 32 (T 48) (T 57)), jF 59 (.fieldAddr 5 (T 3)), ⟨.any, ⟨none, none, .store 1 (T 59) (T 58)⟩⟩]))) (.ops [jO 40 (.mov (T 5)), jO 41 (.int2 .add (T 40) (jK 1)), jO 5 (.mov (T 41))])))))) (.seq (.seq (.ops [jO 7 (.mov (jK 0))]) (.block 4 (.loop (.seq (.seq (.ops [jO 60 (.mov (T 7)), jO 61 (.fieldAddr 6 (T 1)), jO 62 (.load1 (T 61)), jO 63 (.len (T 62)), jO 64 (.int2 .lss (T 60) (T 63))]) (.cond (T 64) .skip (.exit 4))) (.seq (.block 5 (.seq (.ops [jO 67 (.fieldAddr 6 (T 1)), jO 68 (.load1 (T 67)), jO 69 (.mov (T 7)), jO 70 (.idxSl 3 (T 68) (T 69)), jO 71 (.loadN 3 (T 70)), jO 8 (.alloc [(.int .i64 0), (.int .i64 0), (.int .i64 0)]), ⟨none, none, .store 3 (T 8) (T 71)⟩]) (.ops [jO 72 (.fieldAddr 6 (T 3)), jO 73 (.load1 (T 72)), jO 74 (.fieldAddr 0 (T 8)), jO 75 (.load1 (T 74)), jO 76 (.fieldAddr 1 (T 8)), jO 77 (.load1 (T 76)), jO 78 (.fieldAddr 2 (T 8)), jO 79 (.load1 (T 78)), jO 80 (.build #[(0, 1), (1, 1), (2, 1)] [(.int .i64 0), (.int .i64 0), (.int .i64 0)] [0, 1, 2] [(T 75), (T 77), (T 79)]), jO 81 (.bslice 3 1 [(.int .i64 0), (.int .i64 0), (.int .i64 0)] [0] [(T 80)]), jO 82 (.append 3 24 (T 73) (T 81)), jO 83 (.fieldAddr 6 (T 3)), ⟨none, none, .store 1 (T 83) (T 82)⟩]))) (.ops [jO 65 (.mov (T 7)), jO 66 (.int2 .add (T 65) (jK 1)), jO 7 (.mov (T 66))])))))) (.seq (.ops [jO 84 (.loadN 7 (T 3)), ⟨none, none, .store 7 (T 2) (T 84)⟩]) .ret))))))
theorem fok69 : FnOk Tryz.prog 69 85 s69 [.cellN 2 7] := ⟨Tryz.f69, _, Tryz.func69, rfl, Tryz.ntmps69, by kernel_rfl, by kernel_rfl⟩

def rLo (S : MS) (j : Nat) : Int := if j = 0 then S.splo else if j ≤ S.nw then S.wlo (j - 1) else S.vlo (j - S.nw - 1)
def rHi (S : MS) (j : Nat) : Int := if j = 0 then S.sphi else if j ≤ S.nw then S.whi (j - 1) else S.vhi (j - S.nw - 1)
def rSz (S : MS) (j : Nat) : Nat := (rHi S j - rLo S j + 1).toNat
def posU (S : MS) (i : Nat) : Nat := if i < S.nw then i + 1 else if i = S.nw then 0 else i
def digU (S : MS) (m j : Nat) : Int := rLo S j + ((divN (rSz S) m j % rSz S j : Nat) : Int)
def nthU (S : MS) (m i : Nat) : Int := if i < numU S then digU S m (posU S i) else 0
theorem r_pos {S : MS} {i : Nat} : rLo S (posU S i) = uLo S i ∧ rHi S (posU S i) = uHi S i := by
  unfold posU rLo rHi uLo uHi
  by_cases c1 : i < S.nw
  · have q1 : ¬ i + 1 = 0 := by omega
    have q2 : i + 1 ≤ S.nw := by omega
    simp only [c1, q1, q2, if_true, if_false, Nat.add_sub_cancel, and_self]
  · by_cases c2 : i = S.nw
    · have q1 : ¬ S.nw < S.nw := by omega
      simp only [c2, q1, if_true, if_false, and_self]
    · have q1 : ¬ i = 0 := by omega
      have q2 : ¬ i ≤ S.nw := by omega
      simp only [c1, c2, q1, q2, if_false, and_self]
theorem pos_lt {S : MS} {i : Nat} (hi : i < numU S) : posU S i < numU S := by
  have h0 : numU S = S.nw + 1 + S.nv := rfl
  unfold posU
  by_cases c1 : i < S.nw
  · rw [if_pos c1]; omega
  · rw [if_neg c1]
    by_cases c2 : i = S.nw
    · rw [if_pos c2]; omega
    · rw [if_neg c2]; exact hi
def unpos (S : MS) (j : Nat) : Nat := if j = 0 then S.nw else if j ≤ S.nw then j - 1 else j
theorem pos_unpos {S : MS} {j : Nat} : posU S (unpos S j) = j := by
  unfold posU unpos
  by_cases c1 : j = 0
  · subst c1; simp
  · by_cases c2 : j ≤ S.nw
    · have q1 : j - 1 < S.nw := by omega
      simp only [c1, c2, q1, if_true, if_false]; omega
    · have q1 : ¬ j < S.nw := by omega
      have q2 : ¬ j = S.nw := by omega
      simp only [c1, c2, q1, q2, if_false]
theorem unpos_lt {S : MS} {j : Nat} (hj : j < numU S) : unpos S j < numU S := by
  have h0 : numU S = S.nw + 1 + S.nv := rfl
  unfold unpos
  by_cases c1 : j = 0
  · rw [if_pos c1]; omega
  · rw [if_neg c1]
    by_cases c2 : j ≤ S.nw
    · rw [if_pos c2]; omega
    · rw [if_neg c2]; exact hj
theorem Good.r {S : MS} (hG : Good S) {j : Nat} (hj : j < numU S) : 0 ≤ rLo S j ∧ rLo S j ≤ rHi S j ∧ rHi S j ≤ 99 ∧ (rSz S j : Int) = rHi S j - rLo S j + 1 ∧ 1 ≤ rSz S j ∧ rSz S j ≤ 100 := by
  have h1 := hG.u (unpos S j) (unpos_lt hj)
  have h2 := r_pos (S := S) (i := unpos S j)
  rw [pos_unpos] at h2
  rw [← h2.1, ← h2.2] at h1
  have : (rSz S j : Int) = rHi S j - rLo S j + 1 := Int.toNat_of_nonneg (by omega)
  omega
theorem dig_in {S : MS} (hG : Good S) {m j : Nat} (hj : j < numU S) : rLo S j ≤ digU S m j ∧ digU S m j ≤ rHi S j := by
  obtain ⟨_, _, _, h4, h5, _⟩ := hG.r hj
  have := Nat.mod_lt (divN (rSz S) m j) (show 0 < rSz S j by omega)
  unfold digU
  omega
theorem nthU_in {S : MS} (hG : Good S) {m : Nat} : InU S (nthU S m) := fun i hi => by
  have h1 := dig_in (m := m) hG (pos_lt hi)
  rw [r_pos.1, r_pos.2] at h1
  unfold nthU
  rw [if_pos hi]
  exact h1
theorem nthU_w {S : MS} {m i : Nat} (hi : i < S.nw) : nthU S m i = digU S m (i + 1) := by
  have h0 : numU S = S.nw + 1 + S.nv := rfl
  unfold nthU posU
  rw [if_pos (by omega), if_pos hi]
theorem nthU_s {S : MS} {m : Nat} : nthU S m S.nw = digU S m 0 := by
  have h0 : numU S = S.nw + 1 + S.nv := rfl
  unfold nthU posU
  rw [if_pos (by omega), if_neg (Nat.lt_irrefl _), if_pos rfl]
theorem nthU_f {S : MS} {m v : Nat} (hv : v < S.nv) : nthU S m (S.nw + 1 + v) = digU S m (S.nw + 1 + v) := by
  have h0 : numU S = S.nw + 1 + S.nv := rfl
  unfold nthU posU
  rw [if_pos (by omega), if_neg (by omega), if_neg (by omega)]
theorem divN_le' {s : Nat → Nat} {m : Nat} : ∀ k, divN s m k ≤ m
  | 0 => Nat.le_refl _
  | k + 1 => Nat.le_trans (Nat.div_le_self _ _) (divN_le' k)
theorem build_t1 {x : Int} : buildA (fun x => (#[(0, 1), (1, 1), (2, 1)] : Array (Nat × Nat))[x]?) ⟨[.slice none 0 0, .int .i64 0, .slice none 0 0]⟩ [1] h [.int .i64 x] = some (.agg ⟨[.slice none 0 0, .int .i64 x, .slice none 0 0]⟩, h) := by
  unfold buildA
  have e : Instr.fill (fun x => (#[(0, 1), (1, 1), (2, 1)] : Array (Nat × Nat))[x]?) #[.slice none 0 0, .int .i64 0, .slice none 0 0] ([1].zip [.int .i64 x]) = some #[.slice none 0 0, .int .i64 x, .slice none 0 0] := by
    simp [Instr.fill, Value.cells]
  rw [e]
theorem rd_neb {b o : Nat} {s : Option Nat} {v : Value} : (∀ ad : Addr, Value.pointer (some ⟨b, o, s⟩) = .pointer (some ad) → NeB v ad.block) = NeB v b := by
  simp only [eq_iff_iff]
  exact ⟨fun hh => hh _ rfl, fun hb ad e => by cases e; exact hb⟩
theorem grow_push2 {B k s bytes : Nat} {v : Value} {c : Nat → Nat → Value} {g1 : AHeap} {row : List Value} (hg : GrowC B h v s k c) (hB : h.floor ≤ B) (hf : h.next + 2 < far) (hBn : B ≤ h.next) (hx : New h g1 row 0) (hlen : row.length = s) (hone : allB oneCell row = true) (hn : ∀ j, j < s → row[j]? = some (c k j)) (hb1 : (k + 1) * bytes ≤ maxBytes) (hb2 : k + 1 ≤ maxBytes) :
    ∃ v' g2, appendA s bytes g1 v (.slice (some ⟨h.next, 0, none⟩) 1 1) = some (v', g2) ∧ GrowC B g2 v' s (k + 1) c ∧ oneCell v' = true ∧ g2.next = h.next + 2 ∧ g2.floor = h.floor ∧ (∀ i, i < h.next → NeB v i → g2.get i = h.get i) ∧ g1.next ≤ g2.next := by
  have hnx := hx.next
  have hfl := hx.floor
  have g1' : GrowC B g1 v s k c := hg.sub hx.sub
  obtain ⟨v', g2, e, ev, gv, hk2⟩ := g1'.append (bytes := bytes) (cap := 1) (by omega) (by omega) (by omega) hx.get hlen hone hn hb1 hb2
  have n2 := hk2.next
  have f2 := hk2.floor
  refine ⟨v', g2, e, gv, gv.one, by omega, by omega, fun i hi hne => ?_, by omega⟩
  rw [hk2.old i (by omega) fun b m c e => hne b m c e, hx.old i (by omega)]
theorem neB_of {B s k : Nat} {v : Value} {c : Nat → Nat → Value} (hg : GrowC B h v s k c) {i : Nat} (hi : i < B ∨ h.next ≤ i) : NeB v i := fun b m c e => by
  have := hg.block e
  omega
theorem _root_.Go.Vm.GrowC.le {B C s m : Nat} {v : Value} {c : Nat → Nat → Value} (hg : GrowC B h v s m c) (hc : C ≤ B) : GrowC C h v s m c := by
  obtain ⟨cs, h1, h2, h3⟩ := hg
  refine ⟨cs, ?_, h2, h3⟩
  rcases h1 with q | ⟨b, q1, q2, q3, q4⟩
  · exact .inl q
  · exact .inr ⟨b, q1, q2, q3, by omega⟩
def s89 : SCode := (.seq (.ops [jO 2 (.box (T 0)), jO 4 (.alloc [(.slice none 0 0), (.int .i64 0), (.slice none 0 0)])]) (.seq (.draw [jF 10 (.fieldAddr 3 (T 2)), jF 11 (.fieldAddr 0 (T 10)), jR 12 (.load1 (T 11)), jF 13 (.mov (T 1)), jF 14 (.fieldAddr 3 (T 2)), jS 15 (.loadN 2 (T 14)), jU 16 (.call (.func 119) [(T 15)]), jF 17 (.plain (.binOp .rem 3 (T 13) (T 16) 3) 3), jF 18 (.int2 .add (T 12) (T 17)), jF 19 (.build #[(0, 1), (1, 1), (2, 1)] [(.slice none 0 0), (.int .i64 0), (.slice none 0 0)] [1] [(T 18)]), jU 5 (.alloc [(.slice none 0 0), (.int .i64 0), (.slice none 0 0)]), ⟨.any, ⟨none, none, .store 3 (T 5) (T 19)⟩⟩]) (.seq (.ops [jO 20 (.mov (T 1)), jO 21 (.fieldAddr 3 (T 2)), jO 22 (.loadN 2 (T 21)), jO 23 (.call (.func 119) [(T 22)]), jO 24 (.plain (.binOp .quo 3 (T 20) (T 23) 3) 3), jO 1 (.mov (T 24))]) (.seq (.seq (.ops [jO 6 (.mov (jK 0))]) (.block 0 (.loop (.seq (.seq (.ops [jO 25 (.mov (T 6)), jO 26 (.fieldAddr 2 (T 2)), jO 27 (.load1 (T 26)), jO 28 (.len (T 27)), jO 29 (.int2 .lss (T 25) (T 28))]) (.cond (T 29) .skip (.exit 0))) (.seq (.block 1 (.seq (.ops [jO 32 (.fieldAddr 2 (T 2)), jO 33 (.load1 (T 32)), jO 34 (.mov (T 6)), jO 35 (.idxSl 2 (T 33) (T 34)), jO 36 (.loadN 2 (T 35)), jO 7 (.alloc [(.int .i64 0), (.int .i64 0)]), ⟨none, none, .store 2 (T 7) (T 36)⟩]) (.draw [jF 37 (.fieldAddr 0 (T 5)), jR 38 (.load1 (T 37)), jF 39 (.fieldAddr 0 (T 7)), jR 40 (.load1 (T 39)), jF 41 (.mov (T 1)), jS 42 (.loadN 2 (T 7)), jU 43 (.call (.func 119) [(T 42)]), jF 44 (.plain (.binOp .rem 3 (T 41) (T 43) 3) 3), jF 45 (.int2 .add (T 40) (T 44)), jU 46 (.bslice 1 1 [(.int .i64 0)] [0] [(T 45)]), jU 47 (.append 1 8 (T 38) (T 46)), jF 48 (.mov (T 1)), jR 49 (.loadN 2 (T 7)), jA 50 (.call (.func 119) [(T 49)]), jF 51 (.plain (.binOp .quo 3 (T 48) (T 50) 3) 3), jF 52 (.fieldAddr 0 (T 5)), ⟨.any, ⟨none, none, .store 1 (T 52) (T 47)⟩⟩, jF 1 (.mov (T 51))]))) (.ops [jO 30 (.mov (T 6)), jO 31 (.int2 .add (T 30) (jK 1)), jO 6 (.mov (T 31))])))))) (.seq (.seq (.ops [jO 8 (.mov (jK 0))]) (.block 2 (.loop (.seq (.seq (.ops [jO 53 (.mov (T 8)), jO 54 (.fieldAddr 5 (T 2)), jO 55 (.load1 (T 54)), jO 56 (.len (T 55)), jO 57 (.int2 .lss (T 53) (T 56))]) (.cond (T 57) .skip (.exit 2))) (.seq (.block 3 (.seq (.ops [jO 60 (.fieldAddr 5 (T 2)), jO 61 (.load1 (T 60)), jO 62 (.mov (T 8)), jO 63 (.idxSl 4 (T 61) (T 62)), jO 64 (.fieldAddr 1 (T 63)), jO 65 (.loadN 2 (T 64)), jO 9 (.alloc [(.int .i64 0), (.int .i64 0)]), ⟨none, none, .store 2 (T 9) (T 65)⟩]) (.draw [jF 66 (.fieldAddr 2 (T 5)), jR 67 (.load1 (T 66)), jF 68 (.fieldAddr 0 (T 9)), jR 69 (.load1 (T 68)), jF 70 (.mov (T 1)), jS 71 (.loadN 2 (T 9)), jU 72 (.call (.func 119) [(T 71)]), jF 73 (.plain (.binOp .rem 3 (T 70) (T 72) 3) 3), jF 74 (.int2 .add (T 69) (T 73)), jU 75 (.bslice 1 1 [(.int .i64 0)] [0] [(T 74)]), jU 76 (.append 1 8 (T 67) (T 75)), jF 77 (.mov (T 1)), jR 78 (.loadN 2 (T 9)), jA 79 (.call (.func 119) [(T 78)]), jF 80 (.plain (.binOp .quo 3 (T 77) (T 79) 3) 3), jF 81 (.fieldAddr 2 (T 5)), ⟨.any, ⟨none, none, .store 1 (T 81) (T 76)⟩⟩, jF 1 (.mov (T 80))]))) (.ops [jO 58 (.mov (T 8)), jO 59 (.int2 .add (T 58) (jK 1)), jO 8 (.mov (T 59))])))))) (.seq (.ops [jO 82 (.loadN 3 (T 5)), ⟨none, none, .store 3 (T 4) (T 82)⟩]) .ret))))))
theorem fok89 : FnOk Tryz.prog 89 83 s89 [.cellN 4 3] := ⟨Tryz.f89, _, Tryz.func89, rfl, Tryz.ntmps89, by kernel_rfl, by kernel_rfl⟩
set_option maxHeartbeats 1000000 in
theorem nthG_c (hn : 100 ≤ n) (hr : h.next + 300 < far) (hfl : h.floor ≤ h.next) {wv vv sv : Value} {S : MS} (hy : SteepR h wv vv sv S) (hG : Good S) {m : Nat} (hm : m ≤ 100000) :
    ∃ tw tf h', call n (.func (.func 89) #[] #[]) [.agg ⟨stL S wv vv sv⟩, .int .i64 (m : Int)] h = some (.agg ⟨trL tw tf (nthU S m S.nw)⟩, h') ∧ TruR h' tw tf S (nthU S m) ∧ (∀ i, i < h.next → h'.get i = h.get i) ∧ h.next ≤ h'.next ∧ h'.next ≤ h.next + 200 ∧ h'.floor = h.floor ∧ (∀ x k c, tw = .slice (some x) k c → h.next ≤ x.block) ∧ (∀ x k c, tf = .slice (some x) k c → h.next ≤ x.block) ∧ GrowC h.next h' tf 1 S.nv (fun i _ => .int .i64 (nthU S m (S.nw + 1 + i))) ∧ (∀ x k c y k' c', tw = .slice (some x) k c → tf = .slice (some y) k' c' → x.block < y.block) := by
  obtain ⟨n, rfl⟩ : ∃ p, n = p + 1 := ⟨n - 1, by omega⟩
  have h0 : numU S = S.nw + 1 + S.nv := rfl
  obtain ⟨_, _, _, z4, z5, _, _, _, s1, s2, s3⟩ := hG.sizes
  suffices hs : ∃ v h', call (n + 1) (.func (.func 89) #[] #[]) [.agg ⟨stL S wv vv sv⟩, .int .i64 (m : Int)] h = some (v, h') ∧ ∃ tw tf, v = .agg ⟨trL tw tf (nthU S m S.nw)⟩ ∧ TruR h' tw tf S (nthU S m) ∧ (∀ i, i < h.next → h'.get i = h.get i) ∧ h.next ≤ h'.next ∧ h'.next ≤ h.next + 200 ∧ h'.floor = h.floor ∧ (∀ x k c, tw = .slice (some x) k c → h.next ≤ x.block) ∧ (∀ x k c, tf = .slice (some x) k c → h.next ≤ x.block) ∧ GrowC h.next h' tf 1 S.nv (fun i _ => .int .i64 (nthU S m (S.nw + 1 + i))) ∧ (∀ x k c y k' c', tw = .slice (some x) k c → tf = .slice (some y) k' c' → x.block < y.block) by
    obtain ⟨v, h', e, tw, tf, rfl, q⟩ := hs
    exact ⟨tw, tf, h', e, q⟩
  refine call_any0 fok89 rfl rfl (by simp) ?_
  simp only [s89, jO, jF, jR, jS, jU, jA, jK, W_seq, W_ops]
  refine ops_box (cs := stL S wv vv sv) (by omega) rfl hy.one fun g1 hx1 => ?_
  have n1 := hx1.next
  have f1' := hx1.floor
  refine ops_alloc (cs := trL nilS nilS 0) (by omega) rfl fun g2 hx2 => ?_
  have n2 := hx2.next
  have f2' := hx2.floor
  have r1 := hx1.row.mono hx2.sub
  have old2 : ∀ i, i < h.next → g2.get i = h.get i := fun i hi => by rw [hx2.old i (by omega), hx1.old i hi]
  have es := size_ok (n := n) (h := g2) (by omega) (by omega) s1 s2 s3
  obtain ⟨_, _, _, q4, q5, q6⟩ := hG.r (j := 0) (by omega)
  have e0 : S.sphi - S.splo + 1 = ((rSz S 0 : Nat) : Int) := by rw [q4]; simp [rLo, rHi]
  rw [e0] at es
  have hne0 : ¬ ((rSz S 0 : Nat) : Int) = 0 := by omega
  have hrem : (m : Int).tmod ((rSz S 0 : Nat) : Int) = ((m % rSz S 0 : Nat) : Int) := rfl
  have hmod := Nat.mod_lt m (show 0 < rSz S 0 by omega)
  have hdig : wrapF .i64 (S.splo + ((m % rSz S 0 : Nat) : Int)) = nthU S m S.nw := by
    rw [wrap_in (by omega) (by omega), nthU_s]
    simp [digU, rLo, divN]
  have hquo : IntKind.wrap .i64 ((m : Int).tdiv ((rSz S 0 : Nat) : Int)) = ((divN (rSz S) m 1 : Nat) : Int) := by
    have e : (m : Int).tdiv ((rSz S 0 : Nat) : Int) = ((m / rSz S 0 : Nat) : Int) := rfl
    have hd := Nat.div_le_self m (rSz S 0)
    rw [e, IntKind.wrap_i64]
    simp only [divN]
    generalize m / rSz S 0 = dq at hd
    omega
  simp only [rn0, reduceIte, Nat.reduceEqDiff, Nat.reduceAdd, Nat.reduceMul, Nat.reduceSub, Nat.reduceLeDiff, Nat.reduceLT]
  refine W_draw All ?_
  simp only [rn0, reduceIte, Nat.reduceEqDiff, Nat.reduceAdd, Nat.reduceMul, Nat.reduceSub, Nat.reduceLeDiff, Nat.reduceLT, r1.ld, stg, st_rng r1, Nat.zero_add, Nat.add_zero, eqV_int, es, valN_tmp, r_rem hne0, hrem, hdig, build_t1]
  refine up_row (cs := trL nilS nilS 0) (by omega) rfl rfl (fun g3 hx => hx.sub) fun g3 hx3 => ?_
  have n3 := hx3.next
  have f3' := hx3.floor
  simp only [rn0, reduceIte, Nat.reduceEqDiff, Nat.reduceAdd, Nat.reduceMul, Nat.reduceSub, Nat.reduceLeDiff, Nat.reduceLT]
  refine up_store (b := g2.next) (off := 0) (vs := trL nilS nilS (nthU S m S.nw)) rfl hx3.get (by omega) (by omega) rfl rfl rfl (by simp [trL]) (fun _ _ => trivial) fun g4 hs4 => ?_
  rw [splice_all (by rfl)] at hs4
  have n4 := hs4.next
  have f4' := hs4.floor
  have old4 : ∀ i, i < g2.next → g4.get i = g2.get i := fun i hi => by rw [hs4.old i (by omega), hx3.old i hi]
  have r14 : Row g4 h.next (stL S wv vv sv) := r1.mono fun i cs w gr _ e => by rw [old4 i (AHeap.lt_of_get e)]; exact e
  have es4 := size_ok (n := n) (h := g4) (by omega) (by omega) s1 s2 s3
  rw [e0] at es4
  simp only [rn0, reduceIte, Nat.reduceEqDiff, Nat.reduceAdd, Nat.reduceMul, Nat.reduceSub, Nat.reduceLeDiff, Nat.reduceLT, st_rng r14, es4, valN_tmp, r_quo hne0, hquo]
  have hgen : ∀ j, j < numU S → 1 ≤ j → ∀ lo hi : Int, lo = rLo S j → hi = rHi S j → hi - lo + 1 = ((rSz S j : Nat) : Int) ∧ ¬ ((rSz S j : Nat) : Int) = 0 ∧ ((divN (rSz S) m j : Nat) : Int).tmod ((rSz S j : Nat) : Int) = ((divN (rSz S) m j % rSz S j : Nat) : Int) ∧ wrapF .i64 (lo + ((divN (rSz S) m j % rSz S j : Nat) : Int)) = digU S m j ∧ IntKind.wrap .i64 (((divN (rSz S) m j : Nat) : Int).tdiv ((rSz S j : Nat) : Int)) = ((divN (rSz S) m (j + 1) : Nat) : Int) ∧ 0 ≤ lo ∧ lo ≤ hi ∧ hi ≤ 99 := fun j hj _ lo hi el eh => by
    obtain ⟨a1, a2, a3, a4, a5, a6⟩ := hG.r hj
    have hmd := Nat.mod_lt (divN (rSz S) m j) (show 0 < rSz S j by omega)
    have hle := divN_le' (s := rSz S) (m := m) j
    subst el eh
    refine ⟨by omega, by omega, rfl, wrap_in (by omega) (by omega), ?_, a1, a2, a3⟩
    have e : ((divN (rSz S) m j : Nat) : Int).tdiv ((rSz S j : Nat) : Int) = ((divN (rSz S) m j / rSz S j : Nat) : Int) := rfl
    have hd := Nat.div_le_self (divN (rSz S) m j) (rSz S j)
    rw [e, IntKind.wrap_i64]
    simp only [divN]
    generalize divN (rSz S) m j / rSz S j = dq at hd
    omega
  refine W_loop S.nw (fun k f g ms => (∃ w, (∀ i, i < g2.next → g.get i = g2.get i) ∧ g.floor = h.floor ∧ g4.next ≤ g.next ∧ g.next ≤ g4.next + 4 * k ∧ GrowC g4.next g w 1 k (fun i _ => .int .i64 (nthU S m i)) ∧ g.get g2.next = some (.row (trL w nilS (nthU S m S.nw)) true 0)) ∧ ms = [] ∧ f 1 = .int .i64 ((divN (rSz S) m (k + 1) : Nat) : Int) ∧ f 2 = .pointer (some ⟨h.next, 0, none⟩) ∧ f 4 = .pointer (some ⟨g1.next, 0, none⟩) ∧ f 5 = .pointer (some ⟨g2.next, 0, none⟩) ∧ f 6 = .int .i64 (k : Int)) (by simp; omega) ?_ ?_ ?_
  · simp only [rn0, reduceIte, Nat.reduceEqDiff, Nat.reduceAdd, Nat.reduceMul, Nat.reduceSub, Nat.reduceLeDiff, Nat.reduceLT, Nat.zero_add]
    exact ⟨⟨nilS, old4, by omega, by omega, .nil, hs4.get⟩, rfl⟩
  · rintro k f g ms hk ⟨⟨w, hs, hfg, hup, hnx, gv, grow⟩, rfl, p1, p2, p4, p5, p6⟩
    have hk' : (k : Int) < (S.nw : Int) := by omega
    have hw : wrapF .i64 ((k : Int) + 1) = ((k + 1 : Nat) : Int) := by rw [wrap_in (by omega) (by omega)]; rfl
    have oldg : ∀ i, i < h.next → g.get i = h.get i := fun i hi => by rw [hs i (by omega), old2 i hi]
    have hyg := hy.mono (AHeap.subOf oldg)
    have rg : Row g h.next (stL S wv vv sv) := r1.mono (AHeap.subOf hs)
    simp only [rn0, reduceIte, Nat.reduceEqDiff, Nat.reduceAdd, Nat.reduceMul, Nat.reduceSub, Nat.reduceLeDiff, Nat.reduceLT, p1, p2, p4, p5, p6, rg.ld, stg, Nat.zero_add, Cells.len hyg.w, hk', Cells.idx hyg.w hk, ranges_ld hyg.w hk]
    refine step_new (vs := [.int .i64 (S.wlo k), .int .i64 (S.whi k)]) (by omega) (by omega) rfl (by simp only [rn0, reduceIte, Nat.reduceEqDiff, Nat.reduceAdd, Nat.reduceMul, Nat.reduceSub, Nat.reduceLeDiff, Nat.reduceLT]; rfl) rfl rfl rfl fun g5 hx5 => ?_
    have n5 := hx5.next
    have f5 := hx5.floor
    have gv5 := gv.sub hx5.sub
    have grow5 : g5.get g2.next = _ := hx5.sub _ _ _ _ trivial grow
    have rt : Row g5 g2.next _ := ⟨_, _, grow5⟩
    have w5 := hx5.row.whole (n := 2) rfl
    have ql : k + 1 ≤ S.nw := by omega
    have hlo : S.wlo k = rLo S (k + 1) := by simp [rLo, ql]
    have hhi : S.whi k = rHi S (k + 1) := by simp [rHi, ql]
    obtain ⟨x1, x2, x3, x4, x5, x6, x7, x8⟩ := hgen (k + 1) (by omega) (by omega) (S.wlo k) (S.whi k) hlo hhi
    have esz : ∀ g', g'.next < far → call n (.func (.func 119) #[] #[]) [.agg ⟨[.int .i64 (S.wlo k), .int .i64 (S.whi k)]⟩] g' = some (.int .i64 ((rSz S (k + 1) : Nat) : Int), g') := fun g' hg' => by rw [← x1]; exact size_ok (n := n) (h := g') (by omega) hg' x6 x7 x8
    rw [← nthU_w hk] at x4
    have ne1 : NeB w g2.next := neB_of gv5 (by left; omega)
    have ne2 : NeB w g.next := neB_of gv (by right; omega)
    simp only [rn0, reduceIte, Nat.reduceEqDiff, Nat.reduceAdd, Nat.reduceMul, Nat.reduceSub, Nat.reduceLeDiff, Nat.reduceLT]
    refine W_draw (NeB w) ?_
    simp only [rn0, reduceIte, Nat.reduceEqDiff, Nat.reduceAdd, Nat.reduceMul, Nat.reduceSub, Nat.reduceLeDiff, Nat.reduceLT, rd_1, rd_N, rd_neb, ne1, ne2, p1, p2, p4, p5, p6, rt.ld, hx5.row.ld, w5, trg, Nat.zero_add, List.getElem?_cons_zero, gv5.cells.self, eqV_int, self_two, esz g5 (by omega), valN_tmp, r_rem x2, x3, x4, sl_int]
    refine up_slice (by omega) rfl (fun g6 hx i cs w gr _ e => hx.sub i cs w gr trivial e) fun g6 hx6 => ?_
    have n6 := hx6.next
    obtain ⟨w', g7, e7, gv7, o7, n7, f7, old7, u7⟩ := grow_push2 (h := g5) (bytes := 8) gv5 (by omega) (by omega) (by omega) hx6 rfl rfl (fun j hj => by rw [one_get j hj]) (by simp [maxBytes]; omega) (by simp [maxBytes]; omega)
    simp only [rn0, reduceIte, Nat.reduceEqDiff, Nat.reduceAdd, Nat.reduceMul, Nat.reduceSub, Nat.reduceLeDiff, Nat.reduceLT, rd_1, rd_N, rd_neb, ne1, ne2, p1, p2, p4, p5, p6, e7, w5, self_two, Nat.zero_add, esz g7 (by omega), valN_tmp, r_quo x2, x5]
    refine ⟨⟨by omega, fun i cs w gr hi e => by rw [old7 i (AHeap.lt_of_get e) hi]; exact e⟩, ?_⟩
    refine up_store (b := g2.next) (off := 0) (vs := [w']) rfl (by rw [old7 _ (by omega) ne1]; exact grow5) (by omega) (by omega) (cells1 o7) (by simp [allB, o7]) rfl (by simp [trL]) (fun _ _ => trivial) fun g8 hs8 => ?_
    have n8 := hs8.next
    have f8 := hs8.floor
    simp only [rn0, reduceIte, Nat.reduceEqDiff, Nat.reduceAdd, Nat.reduceMul, Nat.reduceSub, Nat.reduceLeDiff, Nat.reduceLT, p1, p2, p4, p5, p6, hw]
    exact ⟨w', fun i hi => by rw [hs8.old i (by omega), old7 i (by omega) (neB_of gv5 (by left; omega)), hx5.old i (by omega), hs i hi], by omega, by omega, by omega, gv7.keep hs8.keep (by omega), hs8.get⟩
  rintro f ga ms ⟨⟨w', hsa, hfa, hupa, hnxa, gva, growa⟩, rfl, p1, p2, p4, p5, p6⟩
  have olda : ∀ i, i < h.next → ga.get i = h.get i := fun i hi => by rw [hsa i (by omega), old2 i hi]
  have hya := hy.mono (AHeap.subOf olda)
  have rga : Row ga h.next (stL S wv vv sv) := r1.mono (AHeap.subOf hsa)
  have bw : ∀ x k q, w' = .slice (some x) k q → g4.next ≤ x.block ∧ x.block < ga.next := fun x k q e => gva.block e
  have cw := gva.cells
  have ow := gva.one
  have hm3 : ga.get g1.next = some (.row (trL nilS nilS 0) true 0) := by rw [hsa _ (by omega)]; exact hx2.get
  have e5 : g2.next < ga.next := by omega
  clear gva
  simp only [rn0, reduceIte, Nat.reduceEqDiff, Nat.reduceAdd, Nat.reduceMul, Nat.reduceSub, Nat.reduceLeDiff, Nat.reduceLT, p1, p2, p4, p5, p6, rga.ld, stg, Nat.zero_add, Cells.len hya.w, Int.lt_irrefl]
  refine W_loop S.nv (fun k f g ms => (∃ w, (∀ i, i < ga.next → i ≠ g2.next → g.get i = ga.get i) ∧ g.floor = h.floor ∧ ga.next ≤ g.next ∧ g.next ≤ ga.next + 4 * k ∧ GrowC ga.next g w 1 k (fun i _ => .int .i64 (nthU S m (S.nw + 1 + i))) ∧ g.get g2.next = some (.row (trL w' w (nthU S m S.nw)) true 0)) ∧ ms = [] ∧ f 1 = .int .i64 ((divN (rSz S) m (S.nw + 1 + k) : Nat) : Int) ∧ f 2 = .pointer (some ⟨h.next, 0, none⟩) ∧ f 4 = .pointer (some ⟨g1.next, 0, none⟩) ∧ f 5 = .pointer (some ⟨g2.next, 0, none⟩) ∧ f 8 = .int .i64 (k : Int)) (by simp; omega) ?_ ?_ ?_
  · simp only [rn0, reduceIte, Nat.reduceEqDiff, Nat.reduceAdd, Nat.reduceMul, Nat.reduceSub, Nat.reduceLeDiff, Nat.reduceLT, p1, p2, p4, p5, Nat.add_zero]
    exact ⟨⟨nilS, fun i _ _ => trivial, hfa, .nil, growa⟩, rfl⟩
  · rintro k f g ms hk ⟨⟨w, hs, hfg, hup, hnx, gv, grow⟩, rfl, p1, p2, p4, p5, p8⟩
    have hk' : (k : Int) < (S.nv : Int) := by omega
    have hw : wrapF .i64 ((k : Int) + 1) = ((k + 1 : Nat) : Int) := by rw [wrap_in (by omega) (by omega)]; rfl
    have oldg : ∀ i, i < h.next → g.get i = h.get i := fun i hi => by rw [hs i (by omega) (by omega), olda i hi]
    have hyg := hy.mono (AHeap.subOf oldg)
    have rg : Row g h.next (stL S wv vv sv) := by obtain ⟨w, gr, e⟩ := rga; exact ⟨w, gr, by rw [hs _ (by omega) (by omega)]; exact e⟩
    simp only [rn0, reduceIte, Nat.reduceEqDiff, Nat.reduceAdd, Nat.reduceMul, Nat.reduceSub, Nat.reduceLeDiff, Nat.reduceLT, p1, p2, p4, p5, p8, rg.ld, stg, Nat.zero_add, Cells.len hyg.v, hk', Cells.idx hyg.v hk, Cells.fld hyg.v hk, full_ld hyg hk]
    refine step_new (vs := [.int .i64 (S.vlo k), .int .i64 (S.vhi k)]) (by omega) (by omega) rfl (by simp only [rn0, reduceIte, Nat.reduceEqDiff, Nat.reduceAdd, Nat.reduceMul, Nat.reduceSub, Nat.reduceLeDiff, Nat.reduceLT]; rfl) rfl rfl rfl fun g5 hx5 => ?_
    have n5 := hx5.next
    have f5 := hx5.floor
    have gv5 := gv.sub hx5.sub
    have grow5 : g5.get g2.next = _ := hx5.sub _ _ _ _ trivial grow
    have rt : Row g5 g2.next _ := ⟨_, _, grow5⟩
    have w5 := hx5.row.whole (n := 2) rfl
    have c1 : ¬ S.nw + 1 + k = 0 := by omega
    have c2 : ¬ S.nw + 1 + k ≤ S.nw := by omega
    have c3 : S.nw + 1 + k - S.nw - 1 = k := by omega
    obtain ⟨x1, x2, x3, x4, x5, x6, x7, x8⟩ := hgen (S.nw + 1 + k) (by omega) (by omega) (S.vlo k) (S.vhi k) (by simp only [rLo, c1, c2, c3, if_false]) (by simp only [rHi, c1, c2, c3, if_false])
    have esz : ∀ g', g'.next < far → call n (.func (.func 119) #[] #[]) [.agg ⟨[.int .i64 (S.vlo k), .int .i64 (S.vhi k)]⟩] g' = some (.int .i64 ((rSz S (S.nw + 1 + k) : Nat) : Int), g') := fun g' hg' => by rw [← x1]; exact size_ok (n := n) (h := g') (by omega) hg' x6 x7 x8
    rw [← nthU_f hk] at x4
    have ne1 : NeB w g2.next := neB_of gv5 (by left; omega)
    have ne2 : NeB w g.next := neB_of gv (by right; omega)
    simp only [rn0, reduceIte, Nat.reduceEqDiff, Nat.reduceAdd, Nat.reduceMul, Nat.reduceSub, Nat.reduceLeDiff, Nat.reduceLT]
    refine W_draw (NeB w) ?_
    simp only [rn0, reduceIte, Nat.reduceEqDiff, Nat.reduceAdd, Nat.reduceMul, Nat.reduceSub, Nat.reduceLeDiff, Nat.reduceLT, rd_1, rd_N, rd_neb, ne1, ne2, p1, p2, p4, p5, p8, rt.ld, hx5.row.ld, w5, trg, Nat.zero_add, List.getElem?_cons_zero, gv5.cells.self, eqV_int, self_two, esz g5 (by omega), valN_tmp, r_rem x2, x3, x4, sl_int]
    refine up_slice (by omega) rfl (fun g6 hx i cs w gr _ e => hx.sub i cs w gr trivial e) fun g6 hx6 => ?_
    have n6 := hx6.next
    obtain ⟨w'', g7, e7, gv7, o7, n7, f7, old7, u7⟩ := grow_push2 (h := g5) (bytes := 8) gv5 (by omega) (by omega) (by omega) hx6 rfl rfl (fun j hj => by rw [one_get j hj]) (by simp [maxBytes]; omega) (by simp [maxBytes]; omega)
    simp only [rn0, reduceIte, Nat.reduceEqDiff, Nat.reduceAdd, Nat.reduceMul, Nat.reduceSub, Nat.reduceLeDiff, Nat.reduceLT, rd_1, rd_N, rd_neb, ne1, ne2, p1, p2, p4, p5, p8, e7, w5, self_two, Nat.zero_add, esz g7 (by omega), valN_tmp, r_quo x2, x5]
    refine ⟨⟨by omega, fun i cs w gr hi e => by rw [old7 i (AHeap.lt_of_get e) hi]; exact e⟩, ?_⟩
    refine up_store (b := g2.next) (off := 2) (vs := [w'']) rfl (by rw [old7 _ (by omega) ne1]; exact grow5) (by omega) (by omega) (cells1 o7) (by simp [allB, o7]) rfl (by simp [trL]) (fun _ _ => trivial) fun g8 hs8 => ?_
    have n8 := hs8.next
    have f8 := hs8.floor
    simp only [rn0, reduceIte, Nat.reduceEqDiff, Nat.reduceAdd, Nat.reduceMul, Nat.reduceSub, Nat.reduceLeDiff, Nat.reduceLT, p1, p2, p4, p5, p8, hw]
    exact ⟨⟨w'', fun i hi hne => by rw [hs8.old i hne, old7 i (by omega) (neB_of gv5 (by left; omega)), hx5.old i (by omega), hs i hi hne], by omega, by omega, by omega, gv7.keep hs8.keep (by omega), hs8.get⟩, rfl⟩
  rintro f gb ms ⟨⟨x', hsb, hfb, hupb, hnxb, gvb, growb⟩, rfl, p1, p2, p4, p5, p8⟩
  have oldb : ∀ i, i < h.next → gb.get i = h.get i := fun i hi => by rw [hsb i (by omega) (by omega), olda i hi]
  have hyb := hy.mono (AHeap.subOf oldb)
  have rgb : Row gb h.next (stL S wv vv sv) := by obtain ⟨w, gr, e⟩ := rga; exact ⟨w, gr, by rw [hsb _ (by omega) (by omega)]; exact e⟩
  have hm4 : gb.get g1.next = some (.row (trL nilS nilS 0) true 0) := by rw [hsb _ (by omega) (by omega)]; exact hm3
  have rr : Row gb g2.next _ := ⟨_, _, growb⟩
  have hone : allB oneCell (trL w' x' (nthU S m S.nw)) = true := by simp [trL, allB, one_int, ow, gvb.one]
  simp only [rn0, reduceIte, Nat.reduceEqDiff, Nat.reduceAdd, Nat.reduceMul, Nat.reduceSub, Nat.reduceLeDiff, Nat.reduceLT, p1, p2, p4, p5, p8, rgb.ld, stg, Nat.zero_add, Cells.len hyb.v, Int.lt_irrefl, rr.whole (n := 3) rfl]
  refine step_store (b := g1.next) (off := 0) (vs := trL w' x' (nthU S m S.nw)) rfl hm4 (by omega) (by omega) rfl hone rfl (by simp [trL]) fun gc hsc => ?_
  rw [splice_all (by rfl)] at hsc
  have nc := hsc.next
  have fc := hsc.floor
  simp only [rn0, reduceIte, Nat.reduceEqDiff, Nat.reduceAdd, Nat.reduceMul, Nat.reduceSub, Nat.reduceLeDiff, Nat.reduceLT, p4, res_cellN, hsc.row.whole (n := 3) rfl]
  have sep : ∀ {v : Value} {s m : Nat} {c : Nat → Nat → Value}, Cells gb v s m c → (∀ x k q, v = .slice (some x) k q → g1.next < x.block) → Cells gc v s m c := fun {v s m c} hc hb => by
    obtain ⟨a, cap, rfl, hsp, h0 | ⟨b, o, cs, w, gr, rfl, h1, h2⟩⟩ := hc
    · exact ⟨a, cap, rfl, hsp, .inl h0⟩
    · have := hb _ _ _ rfl
      have : b ≠ g1.next := by have : g1.next < b := this; omega
      exact ⟨_, cap, rfl, hsp, .inr ⟨b, o, cs, w, gr, rfl, by rw [hsc.old b this]; exact h1, h2⟩⟩
  refine ⟨w', x', rfl, ⟨?_, ?_⟩, fun i hi => by rw [hsc.old i (by omega), oldb i hi], by omega, by omega, by omega, fun x k c e => by have := bw x k c e; omega, fun x k c e => by have := gvb.block e; omega, (gvb.keep hsc.keep (by omega)).le (by omega), fun x k c y k' c' e e' => by have h1 := bw x k c e; have h2 := gvb.block e'; omega⟩
  · have q : Ints gb w' S.nw (nthU S m) := by
      obtain ⟨a, cap, rfl, hsp, h0 | ⟨b, o, cs, w, gr, rfl, h1, h2⟩⟩ := cw
      · exact ⟨a, cap, rfl, hsp, .inl h0⟩
      · have hb := bw _ _ _ rfl
        have hb1 : g4.next ≤ b := hb.1
        have hb2 : b < ga.next := hb.2
        exact ⟨_, cap, rfl, hsp, .inr ⟨b, o, cs, w, gr, rfl, by rw [hsb b hb2 (by omega)]; exact h1, h2⟩⟩
    exact sep q fun x k q e => by have := bw x k q e; omega
  · exact sep gvb.cells fun x k q e => by have := gvb.block e; omega
end Go.Vm.St
