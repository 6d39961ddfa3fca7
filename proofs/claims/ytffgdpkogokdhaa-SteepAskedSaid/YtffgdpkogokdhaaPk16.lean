/- Texts of the proofs of this seat, put together: StOutL, StRightL, StRightM, StGoodP, StRightN, StGoodL, StStuckL, StAskP, StAskL, StStay, StLess, StWarmer, StAskedL. -/
import Derived.Test.YtffgdpkogokdhaaPk15

namespace Go.Vm.St
open Go.Proofs Go.Vm.Vat
set_option linter.unusedSimpArgs false
set_option linter.unusedVariables false
set_option maxRecDepth 10000
variable {n : Nat} {h : AHeap}
def s37 : SCode := (.seq (.ops [⟨(some 2), none, .box (T 0)⟩, ⟨(some 4), none, .mov (.const (.bool false))⟩]) (.seq (.ops [⟨(some 5), none, .mov (T 1)⟩, ⟨(some 6), none, .fieldAddr 5 (T 2)⟩, ⟨(some 7), none, .load1 (T 6)⟩, ⟨(some 8), none, .len (T 7)⟩, ⟨(some 9), none, .int2 .sub (T 8) (.const (.int .i64 (1)))⟩, ⟨(some 10), none, .call (.func 42) [(T 5), (.const (.int .i64 (0))), (T 9)]⟩, ⟨(some 4), none, .mov (T 10)⟩]) .ret))
theorem fok37 : FnOk Try.prog 37 11 s37 [.tmp 4] := ⟨Try.f37, _, Try.func37, rfl, Try.ntmps37, by kernel_rfl, by kernel_rfl⟩
theorem vatL_c (hn : 2 ≤ n) (hr : h.next + 2 < far) {wv vv sv : Value} {S : MS} (hy : SteepR h wv vv sv S) (hT : ThinS S) (at_ : Int) :
    call n (.func (.func 37) #[] #[]) [.agg ⟨stL S wv vv sv⟩, .int .i64 at_] h = some (.bool (decide (0 ≤ at_ ∧ at_ ≤ (S.nv : Int) - 1)), h) := by
  obtain ⟨n, rfl⟩ : ∃ p, n = p + 1 := ⟨n - 1, by omega⟩
  obtain ⟨_, t2, _⟩ := hT
  refine call_plain0 fok37 rfl rfl (by simp) rfl ?_
  have hy := hy.shut
  have hr : h.shutAll.next + 2 < far := hr
  generalize h.shutAll = h at hy hr
  simp only [s37, W_seq, W_ops]
  refine ops_box (cs := stL S wv vv sv) (by omega) rfl hy.one fun g1 hx1 => ?_
  have hy1 := hy.mono hx1.sub
  have hw : wrapF .i64 ((S.nv : Int) - 1) = (S.nv : Int) - 1 := wrap_in (by omega) (by omega)
  simp only [rn0, rn1, rn2, rn3, rn4, rn5, rn6, rn7, rn8, if_true, if_false, Nat.le_refl, true_and, and_true, decide_true, decide_false, Bool.not_true, Bool.not_false, reduceIte, Nat.reduceEqDiff, Nat.reduceAdd, Nat.reduceMul, Nat.reduceSub, Nat.reduceLeDiff, Nat.reduceLT, hx1.row.ld, stg, Nat.zero_add, Cells.len hy1.v, hw, in_c (n := n) (h := g1) (by omega)]
end Go.Vm.St

namespace Go.Vm.St
open Go.Proofs Go.Vm.Vat
set_option linter.unusedSimpArgs false
set_option linter.unusedVariables false
set_option maxRecDepth 10000
variable {n : Nat} {h : AHeap}
def s92 : SCode := (.seq (.ops [⟨(some 5), none, .box (T 0)⟩, ⟨(some 10), none, .mov (.const (.int .i64 (0)))⟩]) (.seq (.ops [⟨(some 11), none, .mov (.const (.int .i64 (0)))⟩]) (.seq (.seq (.ops [⟨(some 12), none, .mov (.const (.int .i64 (0)))⟩]) (.block 0 (.loop (.seq (.seq (.ops [⟨(some 13), none, .mov (T 12)⟩, ⟨(some 14), none, .mov (T 1)⟩, ⟨(some 15), none, .len (T 14)⟩, ⟨(some 16), none, .int2 .lss (T 13) (T 15)⟩]) (.cond (T 16) .skip (.exit 0))) (.seq (.block 1 (.seq (.draw [⟨.rd1, ⟨(some 19), none, .loadN 7 (T 5)⟩⟩, ⟨.free, ⟨(some 20), none, .mov (T 1)⟩⟩, ⟨.free, ⟨(some 21), none, .mov (T 12)⟩⟩, ⟨.free, ⟨(some 22), none, .idxSl 3 (T 20) (T 21)⟩⟩, ⟨.rd1, ⟨(some 23), none, .loadN 3 (T 22)⟩⟩, ⟨.free, ⟨(some 24), none, .mov (T 2)⟩⟩, ⟨.free, ⟨(some 25), none, .mov (T 3)⟩⟩, ⟨.any, ⟨(some 26), none, .call (.func 34) [(T 19), (T 23), (T 24), (T 25)]⟩⟩, ⟨.free, ⟨(some 27), none, .mov (T 4)⟩⟩, ⟨.free, ⟨(some 28), none, .int2 .eql (T 26) (T 27)⟩⟩]) (.cond (T 28) (.ops [⟨(some 29), none, .mov (T 11)⟩, ⟨(some 30), none, .int2 .add (T 29) (.const (.int .i64 (1)))⟩, ⟨(some 11), none, .mov (T 30)⟩]) .skip))) (.ops [⟨(some 17), none, .mov (T 12)⟩, ⟨(some 18), none, .int2 .add (T 17) (.const (.int .i64 (1)))⟩, ⟨(some 12), none, .mov (T 18)⟩])))))) (.seq (.ops [⟨(some 31), none, .mov (T 11)⟩, ⟨(some 10), none, .mov (T 31)⟩]) .ret))))
theorem fok92 : FnOk Try.prog 92 32 s92 [.tmp 10] := ⟨Try.f92, _, Try.func92, rfl, Try.ntmps92, by kernel_rfl, by kernel_rfl⟩
theorem kindsRef_c (hn : 2200 ≤ n) (hr : h.next + 100 < far) {wv vv sv l : Value} {S : MS} (hy : SteepR h wv vv sv S) (hG : Good S) {L : List (Nat → Int)} (ht : TruthsL h l S L) (hlen : L.length ≤ 2000) (hin : ∀ t, t ∈ L → InU S t) {v : Nat} {hh : Int} (ho : HourOk S v hh) (kk : Int) :
    call n (.func (.func 92) #[] #[]) [.agg ⟨stL S wv vv sv⟩, l, .int .i64 (v : Int), .int .i64 hh, .int .i64 kk] h = some (.int .i64 ((cntTo (fun i => kindS S (L.getD i fun _ => 0) v hh = kk) L.length : Nat) : Int), h) := by
  obtain ⟨n, rfl⟩ : ∃ p, n = p + 1 := ⟨n - 1, by omega⟩
  refine call_plain0 fok92 rfl rfl (by simp) rfl ?_
  have hy := hy.shut
  obtain ⟨R1, R2, hc, hq⟩ := ht
  have hc := hc.mono (g := h.shutAll) fun _ _ _ _ _ h => h
  have hq := fun k hk => (hq k hk).mono (g := h.shutAll) fun _ _ _ _ _ h => h
  have hr : h.shutAll.next + 100 < far := hr
  generalize h.shutAll = h at hy hc hq hr
  have hat : ∀ i, i < L.length → InU S (L.getD i fun _ => 0) := fun i hi => hin _ (getD_mem hi)
  simp only [s92, W_seq, W_ops]
  refine ops_box (cs := stL S wv vv sv) (by omega) rfl hy.one fun g1 hx1 => ?_
  have n1 := hx1.next
  have hy1 := hy.mono hx1.sub
  have hc1 := hc.mono hx1.sub
  simp only [rn0, rn1, rn2, rn3, rn4, rn5, rn6, rn7, rn8, if_true, if_false, Nat.le_refl, true_and, and_true, decide_true, decide_false, Bool.not_true, Bool.not_false, reduceIte, Nat.reduceEqDiff, Nat.reduceAdd, Nat.reduceMul, Nat.reduceSub, Nat.reduceLeDiff, Nat.reduceLT]
  refine W_loop L.length (fun k f g ms => g = g1 ∧ ms = [] ∧ f 1 = l ∧ f 2 = .int .i64 (v : Int) ∧ f 3 = .int .i64 hh ∧ f 4 = .int .i64 kk ∧ f 5 = .pointer (some ⟨h.next, 0, none⟩) ∧ f 11 = .int .i64 ((cntTo (fun i => kindS S (L.getD i fun _ => 0) v hh = kk) k : Nat) : Int) ∧ f 12 = .int .i64 (k : Int)) (by simp; omega) ?_ ?_ ?_
  · simp only [rn0, rn1, rn2, rn3, rn4, rn5, rn6, rn7, rn8, if_true, if_false, Nat.le_refl, true_and, and_true, decide_true, decide_false, Bool.not_true, Bool.not_false, reduceIte, Nat.reduceEqDiff, Nat.reduceAdd, Nat.reduceMul, Nat.reduceSub, Nat.reduceLeDiff, Nat.reduceLT]
    first | done | trivial | exact ⟨rfl, rfl⟩
  · rintro k f g ms hk ⟨rfl, rfl, p1, p2, p3, p4, p5, p11, p12⟩
    have hk' : (k : Int) < (L.length : Int) := by omega
    have hw : wrapF .i64 ((k : Int) + 1) = ((k + 1 : Nat) : Int) := by rw [wrap_in (by omega) (by omega)]; rfl
    have hcl := cntTo_le (p := fun i => kindS S (L.getD i fun _ => 0) v hh = kk) k
    have ek := kind_c (n := n) (h := g) (by omega) (by omega) hy1 ((hq k hk).mono hx1.sub) hG (hat k hk) ho
    simp only [rn0, rn1, rn2, rn3, rn4, rn5, rn6, rn7, rn8, if_true, if_false, Nat.le_refl, true_and, and_true, decide_true, decide_false, Bool.not_true, Bool.not_false, reduceIte, Nat.reduceEqDiff, Nat.reduceAdd, Nat.reduceMul, Nat.reduceSub, Nat.reduceLeDiff, Nat.reduceLT, p1, p2, p3, p4, p5, p11, p12, Cells.len hc1, hk']
    refine W_draw All ?_
    by_cases e : kindS S (L.getD k fun _ => 0) v hh = kk
    · have hcy := cntTo_yes (p := fun i => kindS S (L.getD i fun _ => 0) v hh = kk) (k := k) e
      have hwc : wrapF .i64 (((cntTo (fun i => kindS S (L.getD i fun _ => 0) v hh = kk) k : Nat) : Int) + 1) = ((cntTo (fun i => kindS S (L.getD i fun _ => 0) v hh = kk) (k + 1) : Nat) : Int) := by rw [hcy, wrap_in (by omega) (by omega)]; rfl
      simp only [rn0, rn1, rn2, rn3, rn4, rn5, rn6, rn7, rn8, if_true, if_false, Nat.le_refl, true_and, and_true, decide_true, decide_false, Bool.not_true, Bool.not_false, reduceIte, Nat.reduceEqDiff, Nat.reduceAdd, Nat.reduceMul, Nat.reduceSub, Nat.reduceLeDiff, Nat.reduceLT, p1, p2, p3, p4, p5, p11, p12, hx1.row.whole (n := 7) rfl, Cells.idx hc1 hk, trs_ld hc1 hk, ek, e, hwc, hw]
    · have hcn := cntTo_no (p := fun i => kindS S (L.getD i fun _ => 0) v hh = kk) (k := k) e
      simp only [rn0, rn1, rn2, rn3, rn4, rn5, rn6, rn7, rn8, if_true, if_false, Nat.le_refl, true_and, and_true, decide_true, decide_false, Bool.not_true, Bool.not_false, reduceIte, Nat.reduceEqDiff, Nat.reduceAdd, Nat.reduceMul, Nat.reduceSub, Nat.reduceLeDiff, Nat.reduceLT, p1, p2, p3, p4, p5, p11, p12, hx1.row.whole (n := 7) rfl, Cells.idx hc1 hk, trs_ld hc1 hk, ek, e, hcn, hw]
  · rintro f g ms ⟨rfl, rfl, p1, p2, p3, p4, p5, p11, p12⟩
    simp only [rn0, rn1, rn2, rn3, rn4, rn5, rn6, rn7, rn8, if_true, if_false, Nat.le_refl, true_and, and_true, decide_true, decide_false, Bool.not_true, Bool.not_false, reduceIte, Nat.reduceEqDiff, Nat.reduceAdd, Nat.reduceMul, Nat.reduceSub, Nat.reduceLeDiff, Nat.reduceLT, p1, p2, p3, p4, p5, p11, p12, Cells.len hc1, Int.lt_irrefl]
end Go.Vm.St

namespace Go.Vm.St
open Go.Proofs Go.Vm.Vat
set_option linter.unusedSimpArgs false
set_option linter.unusedVariables false
set_option maxRecDepth 10000
variable {n : Nat} {h : AHeap}
end Go.Vm.St

namespace Go.Vm.St
open Go.Proofs Go.Vm.Vat
set_option linter.unusedSimpArgs false
set_option linter.unusedVariables false
set_option maxRecDepth 10000
variable {n : Nat} {h : AHeap}
/-! ### The reference's good hours -/
def s45 : SCode := (.seq (.ops [⟨(some 3), none, .box (T 0)⟩, ⟨(some 6), none, .mov (.const (.slice none 0 0))⟩]) (.seq (.ops [⟨(some 7), none, .mov (.const (.slice none 0 0))⟩]) (.seq (.seq (.ops [⟨(some 9), none, .fieldAddr 5 (T 3)⟩, ⟨(some 10), none, .load1 (T 9)⟩, ⟨(some 11), none, .mov (T 2)⟩, ⟨(some 12), none, .idxSl 4 (T 10) (T 11)⟩, ⟨(some 13), none, .fieldAddr 0 (T 12)⟩, ⟨(some 14), none, .load1 (T 13)⟩, ⟨(some 8), none, .mov (T 14)⟩]) (.block 0 (.loop (.seq (.seq (.ops [⟨(some 15), none, .mov (T 8)⟩, ⟨(some 16), none, .fieldAddr 0 (T 3)⟩, ⟨(some 17), none, .load1 (T 16)⟩, ⟨(some 18), none, .int2 .leq (T 15) (T 17)⟩]) (.cond (T 18) .skip (.exit 0))) (.seq (.block 1 (.seq (.ops [⟨(some 21), none, .loadN 7 (T 3)⟩, ⟨(some 22), none, .mov (T 1)⟩, ⟨(some 23), none, .mov (T 2)⟩, ⟨(some 24), none, .mov (T 8)⟩, ⟨(some 25), none, .call (.func 43) [(T 21), (T 22), (T 23), (T 24)]⟩, ⟨(some 26), none, .int2 .eql (T 25) (.const (.int .i64 (1)))⟩]) (.cond (T 26) (.ops [⟨(some 27), none, .mov (T 7)⟩, ⟨(some 28), none, .mov (T 8)⟩, ⟨(some 29), none, .bslice 1 1 [(.int .i64 (0))] [0] [(T 28)]⟩, ⟨(some 30), none, .append 1 8 (T 27) (T 29)⟩, ⟨(some 7), none, .mov (T 30)⟩]) .skip))) (.ops [⟨(some 19), none, .mov (T 8)⟩, ⟨(some 20), none, .int2 .add (T 19) (.const (.int .i64 (1)))⟩, ⟨(some 8), none, .mov (T 20)⟩])))))) (.seq (.ops [⟨(some 31), none, .mov (T 7)⟩, ⟨(some 6), none, .mov (T 31)⟩]) .ret))))
end Go.Vm.St

namespace Go.Vm.St
open Go.Proofs Go.Vm.Vat
set_option linter.unusedSimpArgs false
set_option linter.unusedVariables false
set_option maxRecDepth 10000
variable {n : Nat} {h : AHeap}
end Go.Vm.St

namespace Go.Vm
variable {P : Program} {N : Nat} {f : Fr} {h : AHeap} {ty t u e : TypeId} {x y : Operand}
end Go.Vm
namespace Go.Vm.St
open Go.Proofs Go.Vm.Vat
set_option linter.unusedSimpArgs false
set_option linter.unusedVariables false
set_option maxRecDepth 10000
variable {n : Nat} {h : AHeap}
end Go.Vm.St

namespace Go.Vm.St
open Go.Proofs Go.Vm.Vat
set_option linter.unusedSimpArgs false
set_option linter.unusedVariables false
set_option maxRecDepth 10000
variable {n : Nat} {h : AHeap}
/-! ### The first vat that has no good hour -/
open Classical in
/-- the error of a question without a vat -/
noncomputable def errT (S : MS) : Int := if faultS S ≠ 0 then faultS S else if truthsS S = [] then 11 else 0
theorem errT_1 {S : MS} (hf : faultS S ≠ 0) : errT S = faultS S := if_pos hf
theorem errT_2 {S : MS} (hf : faultS S = 0) (hz : truthsS S = []) : errT S = 11 := by unfold errT; rw [if_neg (by simpa using hf), if_pos hz]
theorem errT_3 {S : MS} (hf : faultS S = 0) (hz : truthsS S ≠ []) : errT S = 0 := by unfold errT; rw [if_neg (by simpa using hf), if_neg hz]
theorem asked_errT {S : MS} {h' : AHeap} {v : Value} (ha : AskR h S true v h') :
    (errT S ≠ 0 ∧ v = .tuple ⟨[nilS, .int .i64 (errT S)]⟩) ∨ (errT S = 0 ∧ faultS S = 0 ∧ truthsS S ≠ [] ∧ ∃ l, v = .tuple ⟨[l, .int .i64 0]⟩ ∧ oneCell l = true ∧ TruthsL h' l S (refTruths S)) := by
  obtain ⟨_, _, _, _, ha⟩ := ha
  rcases ha with ⟨hf, rfl⟩ | ⟨hf, hv, rfl⟩ | ⟨hf, hv, hz, rfl⟩ | ⟨hf, hv, hz, l, rfl, h2, h3⟩
  · exact .inl ⟨by rw [errT_1 hf]; exact hf, by rw [errT_1 hf]⟩
  · cases hv
  · have e := errT_2 hf hz
    exact .inl ⟨by rw [e]; decide, by rw [e]⟩
  · exact .inr ⟨errT_3 hf hz, hf, hz, l, rfl, h2, h3⟩
def s7 : SCode := (.seq (.ops [⟨(some 1), none, .box (T 0)⟩, ⟨(some 2), none, .mov (.const (.bool false))⟩]) (.seq (.seq (.ops [⟨(some 8), none, .loadN 7 (T 1)⟩, ⟨(some 9), none, .call (.func 23) [(T 8)]⟩, ⟨(some 10), none, .not (T 9)⟩]) (.cond (T 10) (.seq (.ops [⟨(some 11), none, .call (.func 24) []⟩, ⟨(some 2), none, .mov (T 11)⟩]) .ret) .skip)) (.seq (.ops [⟨(some 13), none, .loadN 7 (T 1)⟩, ⟨(some 14), none, .call (.func 26) [(T 13)]⟩, ⟨(some 15), none, .call (.func 47) [(T 14)]⟩, ⟨(some 12), none, .mov (T 15)⟩, ⟨(some 16), none, .extract 0 (T 12)⟩, ⟨(some 17), none, .extract 1 (T 12)⟩, ⟨(some 3), none, .mov (T 16)⟩, ⟨(some 4), none, .mov (T 17)⟩]) (.seq (.ops [⟨(some 19), none, .loadN 7 (T 1)⟩, ⟨(some 20), none, .call (.func 36) [(T 19), (.const (.bool true))]⟩, ⟨(some 18), none, .mov (T 20)⟩, ⟨(some 21), none, .extract 0 (T 18)⟩, ⟨(some 22), none, .extract 1 (T 18)⟩, ⟨(some 5), none, .mov (T 21)⟩, ⟨(some 6), none, .mov (T 22)⟩]) (.seq (.seq (.ops [⟨(some 23), none, .mov (T 6)⟩, ⟨(some 24), none, .int2 .neq (T 23) (.const (.int .i64 (0)))⟩]) (.cond (T 24) (.seq (.ops [⟨(some 25), none, .mov (T 4)⟩, ⟨(some 26), none, .mov (T 6)⟩, ⟨(some 27), none, .int2 .eql (T 25) (T 26)⟩, ⟨(some 28), none, .mov (T 27)⟩, ⟨(some 29), (some (28, true)), .mov (T 3)⟩, ⟨(some 30), (some (28, true)), .int2 .eql (T 29) (.const (.int .i64 (0)))⟩, ⟨(some 31), none, .pick (T 28) (T 30) (.const (.bool false))⟩, ⟨(some 32), none, .mov (T 31)⟩, ⟨(some 33), (some (32, true)), .call (.func 24) []⟩, ⟨(some 34), none, .pick (T 32) (T 33) (.const (.bool false))⟩, ⟨(some 2), none, .mov (T 34)⟩]) .ret) .skip)) (.seq (.seq (.ops [⟨(some 35), none, .loadN 7 (T 1)⟩, ⟨(some 36), none, .mov (T 5)⟩, ⟨(some 37), none, .call (.func 48) [(T 35), (T 36)]⟩, ⟨(some 7), none, .mov (T 37)⟩]) (.seq (.ops [⟨(some 38), none, .mov (T 7)⟩, ⟨(some 39), none, .int2 .geq (T 38) (.const (.int .i64 (0)))⟩]) (.cond (T 39) (.seq (.ops [⟨(some 40), none, .mov (T 4)⟩, ⟨(some 41), none, .int2 .eql (T 40) (.const (.int .i64 (0)))⟩, ⟨(some 42), none, .mov (T 41)⟩, ⟨(some 43), (some (42, true)), .mov (T 3)⟩, ⟨(some 44), (some (42, true)), .mov (T 7)⟩, ⟨(some 45), (some (42, true)), .int2 .eql (T 43) (T 44)⟩, ⟨(some 46), none, .pick (T 42) (T 45) (.const (.bool false))⟩, ⟨(some 47), none, .mov (T 46)⟩, ⟨(some 48), (some (47, true)), .call (.func 24) []⟩, ⟨(some 49), none, .pick (T 47) (T 48) (.const (.bool false))⟩, ⟨(some 2), none, .mov (T 49)⟩]) .ret) .skip))) (.seq (.ops [⟨(some 50), none, .mov (T 4)⟩, ⟨(some 51), none, .int2 .eql (T 50) (.const (.int .i64 (7)))⟩, ⟨(some 52), none, .mov (T 51)⟩, ⟨(some 53), (some (52, true)), .mov (T 3)⟩, ⟨(some 54), (some (52, true)), .int2 .eql (T 53) (.const (.int .i64 (0)))⟩, ⟨(some 55), none, .pick (T 52) (T 54) (.const (.bool false))⟩, ⟨(some 56), none, .mov (T 55)⟩, ⟨(some 57), (some (56, true)), .call (.func 24) []⟩, ⟨(some 58), none, .pick (T 56) (T 57) (.const (.bool false))⟩, ⟨(some 2), none, .mov (T 58)⟩]) .ret)))))))
end Go.Vm.St

namespace Go.Vm.St
open Go.Proofs Go.Vm.Vat
set_option linter.unusedSimpArgs false
set_option linter.unusedVariables false
set_option maxRecDepth 10000
variable {n : Nat} {h : AHeap}
/-! ### The truths of the reference are those of the program, in another order: as many of each kind -/
def noSm (S : MS) : MS := { S with ns := 0 }
theorem noSm_good {S : MS} (hG : Good S) : Good (noSm S) := ⟨⟨hG.lim.1, hG.lim.2.1, Nat.zero_le _⟩, ⟨hG.args.head, hG.args.warm, hG.args.vat, fun i hi => absurd hi (Nat.not_lt_zero _)⟩, hG.few⟩
open Classical in
theorem noSm_ref {S : MS} {x : Nat → Int} : x ∈ refTruths (noSm S) ↔ x ∈ (List.range (manyS S).toNat).map (nthU S) := by
  unfold refTruths refTo
  rw [List.mem_filter]
  constructor
  · exact fun q => q.1
  · exact fun q => ⟨q, decide_eq_true fun j hj => absurd hj (Nat.not_lt_zero _)⟩
open Classical in
theorem noSm_tru {S : MS} {x : Nat → Int} : x ∈ truthsS (noSm S) ↔ x ∈ enumB (uLo S) (uHi S) (numU S) 0 fun _ => 0 := by
  unfold truthsS
  rw [List.mem_filter]
  constructor
  · exact fun q => q.1
  · exact fun q => ⟨q, decide_eq_true fun j hj => absurd hj (Nat.not_lt_zero _)⟩
theorem all_perm {S : MS} (hG : Good S) : ((List.range (manyS S).toNat).map (nthU S)).Perm (enumB (uLo S) (uHi S) (numU S) 0 fun _ => 0) := by
  refine (perm_of_sub _ _ (enumB_nodup _ _ _) (fun x hx => ?_) ?_).symm
  · exact noSm_ref.1 ((refTruths_mem (noSm_good hG)).2 (noSm_tru.2 hx))
  · have h1 := enumB_len (lo := uLo S) (hi := uHi S) (numU S) 0 (fun _ => 0) fun k _ hk => (hG.u k (by omega)).2.1
    have h2 := sizeN_prod (lo := uLo S) (hi := uHi S) (numU S) 0
    simp only [Nat.zero_add, sizeN, Int.one_mul] at h2
    have h3 := many_size hG.args
    have h4 := hG.few
    rw [List.length_map, List.length_range]
    omega
open Classical in
theorem ref_perm {S : MS} (hG : Good S) : (refTruths S).Perm (truthsS S) := by
  unfold refTruths refTo truthsS
  exact (all_perm hG).filter _
/-- in how many truths a vat is of a kind after an hour -/
def cntS (S : MS) (v : Nat) (hh kk : Int) (L : List (Nat → Int)) : Nat := cntB (fun t => kindS S t v hh) L kk
theorem cntS_perm {S : MS} {v : Nat} {hh kk : Int} {L M : List (Nat → Int)} (hp : L.Perm M) : cntS S v hh kk L = cntS S v hh kk M := hp.countP_eq _
theorem cnt_take {α : Type} {p : α → Bool} {d : α} {L : List α} : ∀ k, k ≤ L.length → cntTo (fun i => p (L.getD i d) = true) k = (L.take k).countP p
  | 0, _ => rfl
  | k + 1, hk => by
    have ih := cnt_take (p := p) (d := d) (L := L) k (by omega)
    have hk' : k < L.length := by omega
    have e : L.getD k d = L[k] := by rw [List.getD_eq_getElem?_getD, List.getElem?_eq_getElem hk']; rfl
    rw [List.take_succ_eq_append_getElem hk', List.countP_append, ← ih, List.countP_cons, List.countP_nil]
    by_cases c : p L[k] = true
    · rw [cntTo_yes (by rw [e]; exact c), if_pos c]
    · rw [cntTo_no (by rw [e]; exact c), if_neg c]; rfl
theorem cntTo_cntS {S : MS} {v : Nat} {hh kk : Int} {L : List (Nat → Int)} : cntTo (fun i => kindS S (L.getD i fun _ => 0) v hh = kk) L.length = cntS S v hh kk L := by
  have := cnt_take (p := fun t => decide (kindS S t v hh = kk)) (d := fun _ => 0) (L := L) L.length (Nat.le_refl _)
  rw [List.take_length] at this
  simp only [decide_eq_true_eq] at this
  exact this
theorem sumK_cnt {S : MS} {v : Nat} {L : List (Nat → Int)} {hh kk : Int} (hG : Good S) (ho : HourOk S v hh) : ∀ k, sumK S v L ((v : Int), hh, kk) k = ((cntTo (fun i => kindS S (L.getD i fun _ => 0) v hh = kk) k : Nat) : Int)
  | 0 => rfl
  | k + 1 => by
    have ih := sumK_cnt hG ho (L := L) (kk := kk) k
    obtain ⟨m1, _⟩ := hoursN_ok hG ho.isV
    have hlo := ho.isLo
    have hhi := ho.isHi
    simp only [sumK, oneK]
    by_cases c : kindS S (L.getD k fun _ => 0) v hh = kk
    · rw [cntTo_yes c, ih, if_pos ⟨trivial, hlo, by show hh < _; omega, c.symm⟩]; rfl
    · rw [cntTo_no c, ih, if_neg fun q => c q.2.2.2.symm]; omega
theorem cntK_cntS {S : MS} {v : Nat} {L : List (Nat → Int)} {hh kk : Int} (hG : Good S) (ho : HourOk S v hh) : cntK S v L L.length 0 ((v : Int), hh, kk) = (cntS S v hh kk L : Int) := by
  rw [cntK_all, sumK_cnt hG ho, cntTo_cntS]
/-- what a smell leaves -/
def lvS (S : MS) (v : Nat) (hh : Int) (L : List (Nat → Int)) : Int := max (max (cntS S v hh 0 L : Int) (cntS S v hh 1 L)) (cntS S v hh 2 L)
theorem lvS_perm {S : MS} {v : Nat} {hh : Int} {L M : List (Nat → Int)} (hp : L.Perm M) : lvS S v hh L = lvS S v hh M := by
  unfold lvS
  rw [cntS_perm hp, cntS_perm hp, cntS_perm hp]
theorem lvS_bound {S : MS} {v : Nat} {hh : Int} {L : List (Nat → Int)} : 0 ≤ lvS S v hh L ∧ lvS S v hh L ≤ L.length := by
  have h0 := cntB_le (b := fun t => kindS S t v hh) (L := L) (x := 0)
  have h1 := cntB_le (b := fun t => kindS S t v hh) (L := L) (x := 1)
  have h2 := cntB_le (b := fun t => kindS S t v hh) (L := L) (x := 2)
  unfold lvS cntS
  omega
/-! ### The best smell -/
structure Sm where
  v : Int
  h : Int
  l : Int
def smStep (S : MS) (L : List (Nat → Int)) (v : Nat) (k : Nat) (st : Sm) : Sm := if lvS S v (S.vb v + (k : Int)) L < st.l then ⟨(v : Int), S.vb v + (k : Int), lvS S v (S.vb v + (k : Int)) L⟩ else st
def smHour (S : MS) (L : List (Nat → Int)) (v : Nat) (st : Sm) : Nat → Sm
  | 0 => st
  | k + 1 => smStep S L v k (smHour S L v st k)
def smVat (S : MS) (L : List (Nat → Int)) (st : Sm) : Nat → Sm
  | 0 => st
  | v + 1 => smHour S L v (smVat S L st v) (hoursN S v)
/-- what the program and the reference find -/
def smP (S : MS) (L : List (Nat → Int)) : Sm := smVat S L ⟨0, 0, (L.length : Int) + 1⟩ S.nv
def smR (S : MS) (L : List (Nat → Int)) : Sm := smVat S L ⟨0, S.vb 0, lvS S 0 (S.vb 0) L⟩ S.nv
theorem smHour_eq {S : MS} {L : List (Nat → Int)} : ∀ k, smHour S L 0 ⟨0, 0, (L.length : Int) + 1⟩ (k + 1) = smHour S L 0 ⟨0, S.vb 0, lvS S 0 (S.vb 0) L⟩ (k + 1)
  | 0 => by
    have hb := lvS_bound (S := S) (v := 0) (hh := S.vb 0) (L := L)
    show smStep _ _ _ _ (⟨0, 0, (L.length : Int) + 1⟩ : Sm) = smStep _ _ _ _ (⟨0, S.vb 0, lvS S 0 (S.vb 0) L⟩ : Sm)
    simp only [smStep, Int.natCast_zero, Int.add_zero]
    rw [if_pos (by omega), if_neg (by omega)]
  | k + 1 => by
    show smStep _ _ _ _ (smHour S L 0 _ (k + 1)) = smStep _ _ _ _ (smHour S L 0 _ (k + 1))
    rw [smHour_eq k]
theorem smVat_eq {S : MS} {L : List (Nat → Int)} (h0 : 1 ≤ hoursN S 0) : ∀ v, smVat S L ⟨0, 0, (L.length : Int) + 1⟩ (v + 1) = smVat S L ⟨0, S.vb 0, lvS S 0 (S.vb 0) L⟩ (v + 1)
  | 0 => by
    show smHour _ _ _ _ _ = smHour _ _ _ _ _
    obtain ⟨k, hk⟩ : ∃ k, hoursN S 0 = k + 1 := ⟨hoursN S 0 - 1, by omega⟩
    rw [hk]
    exact smHour_eq k
  | v + 1 => by
    show smHour _ _ _ (smVat S L _ (v + 1)) _ = smHour _ _ _ (smVat S L _ (v + 1)) _
    rw [smVat_eq h0 v]
theorem sm_eq {S : MS} {L : List (Nat → Int)} (h0 : 1 ≤ hoursN S 0) (hv : 0 < S.nv) : smP S L = smR S L := by
  unfold smP smR
  obtain ⟨k, hk⟩ : ∃ k, S.nv = k + 1 := ⟨S.nv - 1, by omega⟩
  rw [hk]
  exact smVat_eq h0 k
theorem ret_tttt {a b c d : Nat} {f : Go.Vm.Fr} : resV f h [.tmp a, .tmp b, .tmp c, .tmp d] = some (.tuple ⟨[f a, f b, f c, f d]⟩) := id rfl
def s95 : SCode := (.seq (.ops [⟨(some 1), none, .box (T 0)⟩, ⟨(some 2), none, .mov (.const (.int .i64 (0)))⟩, ⟨(some 3), none, .mov (.const (.int .i64 (0)))⟩, ⟨(some 4), none, .mov (.const (.int .i64 (0)))⟩]) (.seq (.ops [⟨(some 11), none, .fieldAddr 7 (T 1)⟩, ⟨(some 12), none, .load1 (T 11)⟩, ⟨(some 13), none, .len (T 12)⟩, ⟨(some 14), none, .int2 .add (T 13) (.const (.int .i64 (1)))⟩, ⟨(some 4), none, .mov (T 14)⟩]) (.seq (.seq (.ops [⟨(some 15), none, .fieldAddr 0 (T 1)⟩, ⟨(some 16), none, .fieldAddr 5 (T 15)⟩, ⟨(some 17), none, .load1 (T 16)⟩, ⟨(some 18), none, .len (T 17)⟩, ⟨(some 19), none, .mov (.const (.int .i64 (0)))⟩]) (.block 0 (.loop (.seq (.ops [⟨(some 20), none, .int2 .lss (T 19) (T 18)⟩]) (.seq (.cond (T 20) .skip (.exit 0)) (.seq (.block 1 (.seq (.ops [⟨(some 21), none, .mov (T 19)⟩, ⟨(some 22), none, .idxSl 4 (T 17) (T 19)⟩, ⟨(some 23), none, .loadN 4 (T 22)⟩, ⟨(some 6), none, .alloc [(.int .i64 (0)), (.int .i64 (0)), (.int .i64 (0)), (.int .i64 (0))]⟩, ⟨(some 5), none, .mov (T 21)⟩, ⟨none, none, .store 4 (T 6) (T 23)⟩]) (.seq (.ops [⟨(some 24), none, .loadN 8 (T 1)⟩, ⟨(some 25), none, .mov (T 5)⟩, ⟨(some 26), none, .call (.func 91) [(T 24), (T 25)]⟩, ⟨(some 7), none, .mov (T 26)⟩]) (.seq (.ops [⟨(some 27), none, .loadN 8 (T 1)⟩, ⟨(some 28), none, .mov (T 5)⟩, ⟨(some 29), none, .call (.func 107) [(T 27), (T 28)]⟩, ⟨(some 30), none, .mov (.const (.int .i64 (0)))⟩]) (.block 2 (.loop (.seq (.ops [⟨(some 31), none, .int2 .lss (T 30) (T 29)⟩]) (.seq (.cond (T 31) .skip (.exit 2)) (.seq (.block 3 (.seq (.ops [⟨(some 32), none, .mov (T 30)⟩, ⟨(some 8), none, .mov (T 32)⟩]) (.seq (.ops [⟨(some 33), none, .fieldAddr 0 (T 6)⟩, ⟨(some 34), none, .load1 (T 33)⟩, ⟨(some 35), none, .mov (T 8)⟩, ⟨(some 36), none, .int2 .add (T 34) (T 35)⟩, ⟨(some 9), none, .mov (T 36)⟩]) (.seq (.draw [⟨.free, ⟨(some 37), none, .mov (T 7)⟩⟩, ⟨.free, ⟨(some 38), none, .mov (T 5)⟩⟩, ⟨.free, ⟨(some 39), none, .mov (T 9)⟩⟩, ⟨.free, ⟨(some 40), none, .build #[(0, 1), (1, 1), (2, 1)] [(.int .i64 (0)), (.int .i64 (0)), (.int .i64 (0))] [0, 1, 2] [(T 38), (T 39), (.const (.int .i64 (0)))]⟩⟩, ⟨.rd1, ⟨(some 41), none, .lookup 89 (.int .i64 (0)) false (T 37) (T 40)⟩⟩, ⟨.free, ⟨(some 42), none, .mov (T 7)⟩⟩, ⟨.free, ⟨(some 43), none, .mov (T 5)⟩⟩, ⟨.free, ⟨(some 44), none, .mov (T 9)⟩⟩, ⟨.free, ⟨(some 45), none, .build #[(0, 1), (1, 1), (2, 1)] [(.int .i64 (0)), (.int .i64 (0)), (.int .i64 (0))] [0, 1, 2] [(T 43), (T 44), (.const (.int .i64 (1)))]⟩⟩, ⟨.rd1, ⟨(some 46), none, .lookup 89 (.int .i64 (0)) false (T 42) (T 45)⟩⟩, ⟨.free, ⟨(some 47), none, .mov (T 7)⟩⟩, ⟨.free, ⟨(some 48), none, .mov (T 5)⟩⟩, ⟨.free, ⟨(some 49), none, .mov (T 9)⟩⟩, ⟨.free, ⟨(some 50), none, .build #[(0, 1), (1, 1), (2, 1)] [(.int .i64 (0)), (.int .i64 (0)), (.int .i64 (0))] [0, 1, 2] [(T 48), (T 49), (.const (.int .i64 (2)))]⟩⟩, ⟨.rd1, ⟨(some 51), none, .lookup 89 (.int .i64 (0)) false (T 47) (T 50)⟩⟩, ⟨.free, ⟨(some 52), none, .plain (.call { callee := .builtin .max, args := #[(T 41), (T 46), (T 51)], argTypes := #[3, 3, 3] }) 3⟩⟩, ⟨.free, ⟨(some 10), none, .mov (T 52)⟩⟩]) (.seq (.ops [⟨(some 53), none, .mov (T 10)⟩, ⟨(some 54), none, .mov (T 4)⟩, ⟨(some 55), none, .int2 .lss (T 53) (T 54)⟩]) (.cond (T 55) (.ops [⟨(some 56), none, .mov (T 5)⟩, ⟨(some 57), none, .mov (T 9)⟩, ⟨(some 58), none, .mov (T 10)⟩, ⟨(some 2), none, .mov (T 56)⟩, ⟨(some 3), none, .mov (T 57)⟩, ⟨(some 4), none, .mov (T 58)⟩]) .skip)))))) (.ops [⟨(some 59), none, .int2 .add (T 30) (.const (.int .i64 (1)))⟩, ⟨(some 30), none, .mov (T 59)⟩])))))))))) (.ops [⟨(some 60), none, .int2 .add (T 19) (.const (.int .i64 (1)))⟩, ⟨(some 19), none, .mov (T 60)⟩]))))))) (.seq (.ops [⟨(some 61), none, .mov (T 2)⟩, ⟨(some 62), none, .mov (T 3)⟩, ⟨(some 63), none, .mov (T 4)⟩, ⟨(some 2), none, .mov (T 61)⟩, ⟨(some 3), none, .mov (T 62)⟩, ⟨(some 4), none, .mov (T 63)⟩]) .ret))))
theorem fok95 : FnOk Try.prog 95 64 s95 [.tmp 2, .tmp 3, .tmp 4] := ⟨Try.f95, _, Try.func95, rfl, Try.ntmps95, by kernel_rfl, by kernel_rfl⟩
set_option maxHeartbeats 4000000 in
theorem bestSmell_c (hn : 2320 ≤ n) (hr : h.next + 1000000 < far) {wv vv sv tv : Value} {S : MS} (hy : SteepR h wv vv sv S) (ho1 : oneCell tv = true) (hG : Good S) {L : List (Nat → Int)} (hlen : L.length ≤ 2000) (hin : ∀ t, t ∈ L → InU S t) (htr : TruthsR h S tv L) :
    call n (.func (.func 95) #[] #[]) [.agg ⟨wkL S wv vv sv tv⟩] h = some (.tuple ⟨[.int .i64 (smP S L).v, .int .i64 (smP S L).h, .int .i64 (smP S L).l]⟩, h) := by
  obtain ⟨n, rfl⟩ : ∃ p, n = p + 1 := ⟨n - 1, by omega⟩
  refine call_plain0 fok95 rfl rfl (by simp) rfl ?_
  have hy := hy.shut
  have htr : TruthsR h.shutAll S tv L := Cells.shut htr
  have hr : h.shutAll.next + 1000000 < far := hr
  have hfl : h.shutAll.floor ≤ h.shutAll.next := Nat.le_refl _
  generalize h.shutAll = h at hy htr hr hfl
  obtain ⟨zl0, zl5, _, _, z4, _⟩ := hG.sizes
  simp only [s95, W_seq, W_ops]
  refine ops_box (cs := wkL S wv vv sv tv) (by omega) rfl (wk_one hy ho1) fun g1 hx1 => ?_
  have n1 := hx1.next
  have f1 := hx1.floor
  have hy1 := hy.mono hx1.sub
  have htr1 : TruthsR g1 S tv L := Cells.mono htr hx1.sub
  have hw1 : wrapF .i64 ((L.length : Int) + 1) = (L.length : Int) + 1 := wrap_in (by omega) (by omega)
  simp only [rn0, rn1, rn2, rn3, rn4, rn5, rn6, rn7, rn8, if_true, if_false, Nat.le_refl, true_and, and_true, decide_true, decide_false, Bool.not_true, Bool.not_false, reduceIte, Nat.reduceEqDiff, Nat.reduceAdd, Nat.reduceMul, Nat.reduceSub, Nat.reduceLeDiff, Nat.reduceLT, hx1.row.ld, wkg, Nat.zero_add, Nat.add_zero, Cells.len htr1, Cells.len hy1.v, hw1]
  refine W_loop S.nv (fun k f g ms => (Sub All g1 g ∧ g1.next ≤ g.next ∧ g.next ≤ g1.next + 100100 * k ∧ g.floor = g1.floor) ∧ ms = [] ∧ f 1 = .pointer (some ⟨h.next, 0, none⟩) ∧ f 2 = .int .i64 (smVat S L ⟨0, 0, (L.length : Int) + 1⟩ k).v ∧ f 3 = .int .i64 (smVat S L ⟨0, 0, (L.length : Int) + 1⟩ k).h ∧ f 4 = .int .i64 (smVat S L ⟨0, 0, (L.length : Int) + 1⟩ k).l ∧ f 17 = vv ∧ f 18 = .int .i64 (S.nv : Int) ∧ f 19 = .int .i64 (k : Int)) (by simp; omega) ?_ ?_ ?_
  · simp only [rn0, rn1, rn2, rn3, rn4, rn5, rn6, rn7, rn8, if_true, if_false, Nat.le_refl, true_and, and_true, decide_true, decide_false, Bool.not_true, Bool.not_false, reduceIte, Nat.reduceEqDiff, Nat.reduceAdd, Nat.reduceMul, Nat.reduceSub, Nat.reduceLeDiff, Nat.reduceLT, smVat]
    first | done | exact ⟨⟨by omega, rfl⟩, rfl⟩ | exact ⟨Nat.le_refl _, rfl⟩ | exact ⟨⟨Sub.refl, by omega, by omega, rfl⟩, rfl⟩ | trace_state
  · rintro k f g ms hk ⟨⟨sg, ug, mg, fg⟩, rfl, p1, p2, p3, p4, p17, p18, p19⟩
    have hk' : (k : Int) < (S.nv : Int) := by omega
    have hw : wrapF .i64 ((k : Int) + 1) = ((k + 1 : Nat) : Int) := by rw [wrap_in (by omega) (by omega)]; rfl
    have hyg := hy1.mono sg
    obtain ⟨mh1, mh2, mh3⟩ := hoursN_ok hG hk
    obtain ⟨⟨vb1, vb2⟩, _⟩ := hG.args.vat k hk
    simp only [rn0, rn1, rn2, rn3, rn4, rn5, rn6, rn7, rn8, if_true, if_false, Nat.le_refl, true_and, and_true, decide_true, decide_false, Bool.not_true, Bool.not_false, reduceIte, Nat.reduceEqDiff, Nat.reduceAdd, Nat.reduceMul, Nat.reduceSub, Nat.reduceLeDiff, Nat.reduceLT, p1, p2, p3, p4, p17, p18, p19, hk', Cells.idx hyg.v hk, vat_ld hyg hk]
    refine step_row (cs := [.int .i64 0, .int .i64 0, .int .i64 0, .int .i64 0]) (by omega) rfl rfl fun g2 hx2 => ?_
    have n2 := hx2.next
    have f2 := hx2.floor
    simp only [rn0, rn1, rn2, rn3, rn4, rn5, rn6, rn7, rn8, if_true, if_false, Nat.le_refl, true_and, and_true, decide_true, decide_false, Bool.not_true, Bool.not_false, reduceIte, Nat.reduceEqDiff, Nat.reduceAdd, Nat.reduceMul, Nat.reduceSub, Nat.reduceLeDiff, Nat.reduceLT, p1, p2, p3, p4, p17, p18, p19]
    refine step_store (b := g.next) (off := 0) (vs := [.int .i64 (S.vb k), .int .i64 (S.vlo k), .int .i64 (S.vhi k), .int .i64 (S.vn k)]) rfl hx2.get (by omega) (by omega) rfl rfl rfl (by simp) fun g3 hs3 => ?_
    rw [splice_all (by rfl)] at hs3
    have n3 := hs3.next
    have f3 := hs3.floor
    have sg3 : Sub All g g3 := AHeap.subOf fun i hi => by rw [hs3.old i (by omega), hx2.old i hi]
    have sub3 := sg.trans sg3
    have hy3 := hy1.mono sub3
    have r3 := hx1.row.mono sub3
    obtain ⟨r, g4, ek, hm4, hr4, sub4, u4, m4, f4⟩ := kindsOf_c (n := n) (h := g3) (by omega) (by omega) (by omega) hy3 ho1 hG hlen hin (Cells.mono htr1 sub3) hk
    have sub04 := sub3.trans sub4
    have hy4 := hy1.mono sub04
    have r4 := hx1.row.mono sub04
    have rv := hs3.row.mono sub4
    have eh := hoursOf_c (n := n) (h := g4) (by omega) (by omega) hy4 ho1 hG hk
    rw [← mh1] at eh
    simp only [rn0, rn1, rn2, rn3, rn4, rn5, rn6, rn7, rn8, if_true, if_false, Nat.le_refl, true_and, and_true, decide_true, decide_false, Bool.not_true, Bool.not_false, reduceIte, Nat.reduceEqDiff, Nat.reduceAdd, Nat.reduceMul, Nat.reduceSub, Nat.reduceLeDiff, Nat.reduceLT, p1, p2, p3, p4, p17, p18, p19, r3.whole (n := 8) rfl, ek, r4.whole (n := 8) rfl, eh]
    refine W_loop (hoursN S k) (fun j f g' ms => g' = g4 ∧ ms = [] ∧ f 1 = .pointer (some ⟨h.next, 0, none⟩) ∧ f 2 = .int .i64 (smHour S L k (smVat S L ⟨0, 0, (L.length : Int) + 1⟩ k) j).v ∧ f 3 = .int .i64 (smHour S L k (smVat S L ⟨0, 0, (L.length : Int) + 1⟩ k) j).h ∧ f 4 = .int .i64 (smHour S L k (smVat S L ⟨0, 0, (L.length : Int) + 1⟩ k) j).l ∧ f 5 = .int .i64 (k : Int) ∧ f 6 = .pointer (some ⟨g.next, 0, none⟩) ∧ f 7 = .map (some r) ∧ f 17 = vv ∧ f 18 = .int .i64 (S.nv : Int) ∧ f 19 = .int .i64 (k : Int) ∧ f 29 = .int .i64 (hoursN S k : Int) ∧ f 30 = .int .i64 (j : Int)) (by simp; omega) ?_ ?_ ?_
    · simp only [rn0, rn1, rn2, rn3, rn4, rn5, rn6, rn7, rn8, if_true, if_false, Nat.le_refl, true_and, and_true, decide_true, decide_false, Bool.not_true, Bool.not_false, reduceIte, Nat.reduceEqDiff, Nat.reduceAdd, Nat.reduceMul, Nat.reduceSub, Nat.reduceLeDiff, Nat.reduceLT, p1, p2, p3, p4, p17, p18, p19, smHour]
      first | done | trivial | exact ⟨rfl, rfl⟩ | trace_state
    · rintro j f g' ms hj ⟨rfl, rfl, p1, p2, p3, p4, p5, p6, p7, p17, p18, p19, p29, p30⟩
      have hj' : (j : Int) < (hoursN S k : Int) := by omega
      have hwj : wrapF .i64 ((j : Int) + 1) = ((j + 1 : Nat) : Int) := by rw [wrap_in (by omega) (by omega)]; rfl
      have hwb : wrapF .i64 (S.vb k + (j : Int)) = S.vb k + (j : Int) := wrap_in (by omega) (by omega)
      have ho := hour_at hG hk hj
      have el := fun kk => lookupF key89 hm4 ((k : Int), S.vb k + (j : Int), kk)
      have el : ∀ kk, lookupA Try.prog 89 (.int .i64 0) false g' (.map (some r)) (.agg ⟨[.int .i64 (k : Int), .int .i64 (S.vb k + (j : Int)), .int .i64 kk]⟩) = some (.int .i64 (cntS S k (S.vb k + (j : Int)) kk L : Int), g') := fun kk => by
        rw [← cntK_cntS hG ho]; exact el kk
      simp only [rn0, rn1, rn2, rn3, rn4, rn5, rn6, rn7, rn8, if_true, if_false, Nat.le_refl, true_and, and_true, decide_true, decide_false, Bool.not_true, Bool.not_false, reduceIte, Nat.reduceEqDiff, Nat.reduceAdd, Nat.reduceMul, Nat.reduceSub, Nat.reduceLeDiff, Nat.reduceLT, p1, p2, p3, p4, p5, p6, p7, p17, p18, p19, p29, p30, hj', rv.ld, Nat.zero_add, Nat.add_zero, List.getElem?_cons_zero, hwb]
      refine W_draw All ?_
      have hlv : max (max (cntS S k (S.vb k + (j : Int)) 0 L : Int) (cntS S k (S.vb k + (j : Int)) 1 L)) (cntS S k (S.vb k + (j : Int)) 2 L) = lvS S k (S.vb k + (j : Int)) L := rfl
      by_cases c : lvS S k (S.vb k + (j : Int)) L < (smHour S L k (smVat S L ⟨0, 0, (L.length : Int) + 1⟩ k) j).l
      · have es : smHour S L k (smVat S L ⟨0, 0, (L.length : Int) + 1⟩ k) (j + 1) = ⟨(k : Int), S.vb k + (j : Int), lvS S k (S.vb k + (j : Int)) L⟩ := if_pos c
        rw [es]
        simp only [rn0, rn1, rn2, rn3, rn4, rn5, rn6, rn7, rn8, if_true, if_false, Nat.le_refl, true_and, and_true, decide_true, decide_false, Bool.not_true, Bool.not_false, reduceIte, Nat.reduceEqDiff, Nat.reduceAdd, Nat.reduceMul, Nat.reduceSub, Nat.reduceLeDiff, Nat.reduceLT, p1, p2, p3, p4, p5, p6, p7, p17, p18, p19, p29, p30, build_sm, x_lookup, el, p_max3, r_max3, hlv, c, hwj]
      · have es : smHour S L k (smVat S L ⟨0, 0, (L.length : Int) + 1⟩ k) (j + 1) = smHour S L k (smVat S L ⟨0, 0, (L.length : Int) + 1⟩ k) j := if_neg c
        rw [es]
        simp only [rn0, rn1, rn2, rn3, rn4, rn5, rn6, rn7, rn8, if_true, if_false, Nat.le_refl, true_and, and_true, decide_true, decide_false, Bool.not_true, Bool.not_false, reduceIte, Nat.reduceEqDiff, Nat.reduceAdd, Nat.reduceMul, Nat.reduceSub, Nat.reduceLeDiff, Nat.reduceLT, p1, p2, p3, p4, p5, p6, p7, p17, p18, p19, p29, p30, build_sm, x_lookup, el, p_max3, r_max3, hlv, c, hwj]
    · rintro f g' ms ⟨rfl, rfl, p1, p2, p3, p4, p5, p6, p7, p17, p18, p19, p29, p30⟩
      have es : smVat S L ⟨0, 0, (L.length : Int) + 1⟩ (k + 1) = smHour S L k (smVat S L ⟨0, 0, (L.length : Int) + 1⟩ k) (hoursN S k) := rfl
      rw [es]
      simp only [rn0, rn1, rn2, rn3, rn4, rn5, rn6, rn7, rn8, if_true, if_false, Nat.le_refl, true_and, and_true, decide_true, decide_false, Bool.not_true, Bool.not_false, reduceIte, Nat.reduceEqDiff, Nat.reduceAdd, Nat.reduceMul, Nat.reduceSub, Nat.reduceLeDiff, Nat.reduceLT, p1, p2, p3, p4, p5, p6, p7, p17, p18, p19, p29, p30, Int.lt_irrefl, hw]
      have hmul : 100100 * (k + 1) = 100100 * k + 100100 := Nat.mul_succ _ _
      rw [hmul]
      clear hmul
      generalize 100100 * k = K at mg ⊢
      clear p1 p2 p3 p4 p5 p6 p7 p17 p18 p19 p29 p30
      refine ⟨sub04, by omega, ?_, by omega⟩
      have q1 : g3.next = g.next + 1 := by omega
      rw [q1] at m4
      generalize g'.next = a at m4 ⊢
      generalize g.next = b at m4 mg
      generalize g1.next = c at mg ⊢
      clear hr n1 n2 n3 u4
      exact Nat.le_trans m4 (Nat.le_trans (Nat.add_le_add_right (Nat.add_le_add_right mg 1) 100000) (by rw [show c + K + 1 + 100000 = c + K + (1 + 100000) from Nat.add_assoc _ _ _, Nat.add_assoc c K]; exact Nat.add_le_add_left (Nat.add_le_add_left (by decide) K) c))
  · rintro f g ms ⟨⟨sg, ug, mg, fg⟩, rfl, p1, p2, p3, p4, p17, p18, p19⟩
    simp only [rn0, rn1, rn2, rn3, rn4, rn5, rn6, rn7, rn8, if_true, if_false, Nat.le_refl, true_and, and_true, decide_true, decide_false, Bool.not_true, Bool.not_false, reduceIte, Nat.reduceEqDiff, Nat.reduceAdd, Nat.reduceMul, Nat.reduceSub, Nat.reduceLeDiff, Nat.reduceLT, p1, p2, p3, p4, p17, p18, p19, Int.lt_irrefl, ret_ttt]
    rfl
end Go.Vm.St

namespace Go.Vm.St
open Go.Proofs Go.Vm.Vat
set_option linter.unusedSimpArgs false
set_option linter.unusedVariables false
set_option maxRecDepth 10000
variable {n : Nat} {h : AHeap}
theorem ex40 {x y z w : Value} : extractA 0 (.tuple ⟨[x, y, z, w]⟩) h = some (x, h) := id rfl
theorem ex41 {x y z w : Value} : extractA 1 (.tuple ⟨[x, y, z, w]⟩) h = some (y, h) := id rfl
theorem ex42 {x y z w : Value} : extractA 2 (.tuple ⟨[x, y, z, w]⟩) h = some (z, h) := id rfl
theorem ex43 {x y z w : Value} : extractA 3 (.tuple ⟨[x, y, z, w]⟩) h = some (w, h) := id rfl
/-- what 'Ask' answers -/
noncomputable def askE (S : MS) : Int := if errT S = 0 then (if S.nv = 0 then 7 else 0) else errT S
noncomputable def askA (S : MS) : Sm := if errT S = 0 then (if S.nv = 0 then ⟨0, 0, 0⟩ else smP S (truthsS S)) else ⟨0, 0, 0⟩
theorem ask_err {S : MS} (he : errT S ≠ 0) : askE S = errT S ∧ askA S = ⟨0, 0, 0⟩ := ⟨if_neg he, if_neg he⟩
theorem ask_nil {S : MS} (he : errT S = 0) (hv : S.nv = 0) : askE S = 7 ∧ askA S = ⟨0, 0, 0⟩ := by
  unfold askE askA
  rw [if_pos he, if_pos hv, if_pos he, if_pos hv]
  exact ⟨rfl, rfl⟩
theorem ask_ok {S : MS} (he : errT S = 0) (hv : S.nv ≠ 0) : askE S = 0 ∧ askA S = smP S (truthsS S) := by
  unfold askE askA
  rw [if_pos he, if_neg hv, if_pos he, if_neg hv]
  exact ⟨rfl, rfl⟩
def s49 : SCode := (.seq (.ops [⟨(some 1), none, .box (T 0)⟩, ⟨(some 2), none, .mov (.const (.int .i64 (0)))⟩, ⟨(some 3), none, .mov (.const (.int .i64 (0)))⟩, ⟨(some 4), none, .mov (.const (.int .i64 (0)))⟩, ⟨(some 5), none, .mov (.const (.int .i64 (0)))⟩]) (.seq (.ops [⟨(some 8), none, .loadN 7 (T 1)⟩, ⟨(some 9), none, .call (.func 94) [(T 8)]⟩, ⟨(some 7), none, .mov (T 9)⟩, ⟨(some 10), none, .extract 0 (T 7)⟩, ⟨(some 11), none, .extract 1 (T 7)⟩, ⟨(some 6), none, .alloc [(.int .i64 (0)), (.int .i64 (0)), (.slice none 0 0), (.int .i64 (0)), (.int .i64 (0)), (.slice none 0 0), (.slice none 0 0), (.slice none 0 0)]⟩, ⟨none, none, .store 8 (T 6) (T 10)⟩, ⟨(some 5), none, .mov (T 11)⟩]) (.seq (.seq (.ops [⟨(some 12), none, .mov (T 5)⟩, ⟨(some 13), none, .int2 .neq (T 12) (.const (.int .i64 (0)))⟩]) (.cond (T 13) (.seq (.ops [⟨(some 14), none, .mov (T 5)⟩, ⟨(some 2), none, .mov (.const (.int .i64 (0)))⟩, ⟨(some 3), none, .mov (.const (.int .i64 (0)))⟩, ⟨(some 4), none, .mov (.const (.int .i64 (0)))⟩, ⟨(some 5), none, .mov (T 14)⟩]) .ret) .skip)) (.seq (.seq (.ops [⟨(some 15), none, .fieldAddr 0 (T 6)⟩, ⟨(some 16), none, .fieldAddr 5 (T 15)⟩, ⟨(some 17), none, .load1 (T 16)⟩, ⟨(some 18), none, .len (T 17)⟩, ⟨(some 19), none, .int2 .eql (T 18) (.const (.int .i64 (0)))⟩]) (.cond (T 19) (.seq (.ops [⟨(some 2), none, .mov (.const (.int .i64 (0)))⟩, ⟨(some 3), none, .mov (.const (.int .i64 (0)))⟩, ⟨(some 4), none, .mov (.const (.int .i64 (0)))⟩, ⟨(some 5), none, .mov (.const (.int .i64 (7)))⟩]) .ret) .skip)) (.seq (.ops [⟨(some 21), none, .loadN 8 (T 6)⟩, ⟨(some 22), none, .call (.func 95) [(T 21)]⟩, ⟨(some 20), none, .mov (T 22)⟩, ⟨(some 23), none, .extract 0 (T 20)⟩, ⟨(some 24), none, .extract 1 (T 20)⟩, ⟨(some 25), none, .extract 2 (T 20)⟩, ⟨(some 2), none, .mov (T 23)⟩, ⟨(some 3), none, .mov (T 24)⟩, ⟨(some 4), none, .mov (T 25)⟩]) (.seq (.ops [⟨(some 26), none, .mov (T 2)⟩, ⟨(some 27), none, .mov (T 3)⟩, ⟨(some 28), none, .mov (T 4)⟩, ⟨(some 2), none, .mov (T 26)⟩, ⟨(some 3), none, .mov (T 27)⟩, ⟨(some 4), none, .mov (T 28)⟩, ⟨(some 5), none, .mov (.const (.int .i64 (0)))⟩]) .ret))))))
theorem fok49 : FnOk Try.prog 49 29 s49 [.tmp 2, .tmp 3, .tmp 4, .tmp 5] := ⟨Try.f49, _, Try.func49, rfl, Try.ntmps49, by kernel_rfl, by kernel_rfl⟩
set_option maxHeartbeats 1000000 in
theorem askP_c (hn : 2500 ≤ n) (hr : h.next + 2000000 < far) {wv vv sv : Value} {S : MS} (hy : SteepR h wv vv sv S) (hT : ThinS S) :
    call n (.func (.func 49) #[] #[]) [.agg ⟨stL S wv vv sv⟩] h = some (.tuple ⟨[.int .i64 (askA S).v, .int .i64 (askA S).h, .int .i64 (askA S).l, .int .i64 (askE S)]⟩, h) := by
  obtain ⟨n, rfl⟩ : ∃ p, n = p + 1 := ⟨n - 1, by omega⟩
  refine call_plain0 fok49 rfl rfl (by simp) rfl ?_
  have hy := hy.shut
  have hr : h.shutAll.next + 2000000 < far := hr
  have hfl : h.shutAll.floor ≤ h.shutAll.next := Nat.le_refl _
  generalize h.shutAll = h at hy hr hfl
  simp only [s49, W_seq, W_ops]
  refine ops_box (cs := stL S wv vv sv) (by omega) rfl hy.one fun g1 hx1 => ?_
  have n1 := hx1.next
  have f1 := hx1.floor
  have w1 := hx1.row.whole (n := 7) rfl
  obtain ⟨pv, g3, eo, o3, u3, m3, f3, hp⟩ := openTrue_c (n := n) (h := g1) (by omega) (by omega) (by omega) (hy.mono hx1.sub) hT
  have sub3 : Sub All h g3 := hx1.sub.trans (AHeap.subOf o3)
  have z110 : ¬ (11 : Int) = 0 := by decide
  rcases hp with ⟨hf, rfl⟩ | ⟨hf, hz, rfl⟩ | ⟨hf, hz, tv, rfl, hone, htr, hlong⟩
  · have e0 : errT S = faultS S := errT_1 hf
    obtain ⟨q1, q2⟩ := ask_err (S := S) (by rw [e0]; exact hf)
    rw [q1, q2, e0]
    simp only [rn0, rn1, rn2, rn3, rn4, rn5, rn6, rn7, rn8, if_true, if_false, Nat.le_refl, true_and, and_true, decide_true, decide_false, Bool.not_true, Bool.not_false, reduceIte, Nat.reduceEqDiff, Nat.reduceAdd, Nat.reduceMul, Nat.reduceSub, Nat.reduceLeDiff, Nat.reduceLT, w1, eo, ex0, ex1]
    refine step_new (vs := wk0) (by omega) (by omega) rfl (by simp only [rn0, rn1, rn2, rn3, rn4, rn5, rn6, rn7, rn8, if_true, if_false, Nat.le_refl, true_and, and_true, decide_true, decide_false, Bool.not_true, Bool.not_false, reduceIte, Nat.reduceEqDiff, Nat.reduceAdd, Nat.reduceMul, Nat.reduceSub, Nat.reduceLeDiff, Nat.reduceLT]; rfl) rfl rfl rfl fun g4 hx4 => ?_
    simp only [rn0, rn1, rn2, rn3, rn4, rn5, rn6, rn7, rn8, if_true, if_false, Nat.le_refl, true_and, and_true, decide_true, decide_false, Bool.not_true, Bool.not_false, reduceIte, Nat.reduceEqDiff, Nat.reduceAdd, Nat.reduceMul, Nat.reduceSub, Nat.reduceLeDiff, Nat.reduceLT, hf, ret_tttt]
  · have e0 : errT S = 11 := errT_2 hf hz
    obtain ⟨q1, q2⟩ := ask_err (S := S) (by rw [e0]; exact z110)
    rw [q1, q2, e0]
    simp only [rn0, rn1, rn2, rn3, rn4, rn5, rn6, rn7, rn8, if_true, if_false, Nat.le_refl, true_and, and_true, decide_true, decide_false, Bool.not_true, Bool.not_false, reduceIte, Nat.reduceEqDiff, Nat.reduceAdd, Nat.reduceMul, Nat.reduceSub, Nat.reduceLeDiff, Nat.reduceLT, w1, eo, ex0, ex1]
    refine step_new (vs := wk0) (by omega) (by omega) rfl (by simp only [rn0, rn1, rn2, rn3, rn4, rn5, rn6, rn7, rn8, if_true, if_false, Nat.le_refl, true_and, and_true, decide_true, decide_false, Bool.not_true, Bool.not_false, reduceIte, Nat.reduceEqDiff, Nat.reduceAdd, Nat.reduceMul, Nat.reduceSub, Nat.reduceLeDiff, Nat.reduceLT]; rfl) rfl rfl rfl fun g4 hx4 => ?_
    simp only [rn0, rn1, rn2, rn3, rn4, rn5, rn6, rn7, rn8, if_true, if_false, Nat.le_refl, true_and, and_true, decide_true, decide_false, Bool.not_true, Bool.not_false, reduceIte, Nat.reduceEqDiff, Nat.reduceAdd, Nat.reduceMul, Nat.reduceSub, Nat.reduceLeDiff, Nat.reduceLT, z110, ret_tttt]
  · have hG := good_of hf
    have e0 : errT S = 0 := errT_3 hf hz
    have how := wk_one hy (tv := tv) hone
    simp only [rn0, rn1, rn2, rn3, rn4, rn5, rn6, rn7, rn8, if_true, if_false, Nat.le_refl, true_and, and_true, decide_true, decide_false, Bool.not_true, Bool.not_false, reduceIte, Nat.reduceEqDiff, Nat.reduceAdd, Nat.reduceMul, Nat.reduceSub, Nat.reduceLeDiff, Nat.reduceLT, w1, eo, ex0, ex1]
    refine step_new (vs := wkL S wv vv sv tv) (by omega) (by omega) rfl (by simp only [rn0, rn1, rn2, rn3, rn4, rn5, rn6, rn7, rn8, if_true, if_false, Nat.le_refl, true_and, and_true, decide_true, decide_false, Bool.not_true, Bool.not_false, reduceIte, Nat.reduceEqDiff, Nat.reduceAdd, Nat.reduceMul, Nat.reduceSub, Nat.reduceLeDiff, Nat.reduceLT]; rfl) how rfl rfl fun g4 hx4 => ?_
    have n4 := hx4.next
    have f4 := hx4.floor
    have sub4 := sub3.trans hx4.sub
    have htr4 : TruthsR g4 S tv (truthsS S) := Cells.mono htr hx4.sub
    have hy4 := hy.mono sub4
    by_cases hv : S.nv = 0
    · obtain ⟨q1, q2⟩ := ask_nil e0 hv
      have hv0 : (S.nv : Int) = 0 := by omega
      rw [q1, q2]
      simp only [rn0, rn1, rn2, rn3, rn4, rn5, rn6, rn7, rn8, if_true, if_false, Nat.le_refl, true_and, and_true, decide_true, decide_false, Bool.not_true, Bool.not_false, reduceIte, Nat.reduceEqDiff, Nat.reduceAdd, Nat.reduceMul, Nat.reduceSub, Nat.reduceLeDiff, Nat.reduceLT, hx4.row.ld, wkg, Nat.zero_add, Nat.add_zero, Cells.len hy4.v, hv0, ret_tttt]
    · obtain ⟨q1, q2⟩ := ask_ok e0 hv
      have hv0 : ¬ (S.nv : Int) = 0 := by omega
      have eb := bestSmell_c (n := n) (h := g4) (by omega) (by omega) hy4 hone hG (truths_len hG) (fun t ht => (truths_mem.1 ht).1.1) htr4
      rw [q1, q2]
      simp only [rn0, rn1, rn2, rn3, rn4, rn5, rn6, rn7, rn8, if_true, if_false, Nat.le_refl, true_and, and_true, decide_true, decide_false, Bool.not_true, Bool.not_false, reduceIte, Nat.reduceEqDiff, Nat.reduceAdd, Nat.reduceMul, Nat.reduceSub, Nat.reduceLeDiff, Nat.reduceLT, hx4.row.ld, hx4.row.whole (n := 8) rfl, wkg, Nat.zero_add, Nat.add_zero, Cells.len hy4.v, hv0, eb, ex30, ex31, ex32, x_extract, ret_tttt]
/-! ### The reference -/
def s69 : SCode := (.seq (.ops [⟨(some 4), none, .box (T 0)⟩, ⟨(some 8), none, .mov (.const (.int .i64 (0)))⟩]) (.seq (.draw [⟨.rd1, ⟨(some 9), none, .loadN 7 (T 4)⟩⟩, ⟨.free, ⟨(some 10), none, .mov (T 1)⟩⟩, ⟨.free, ⟨(some 11), none, .mov (T 2)⟩⟩, ⟨.free, ⟨(some 12), none, .mov (T 3)⟩⟩, ⟨.up, ⟨(some 13), none, .call (.func 92) [(T 9), (T 10), (T 11), (T 12), (.const (.int .i64 (0)))]⟩⟩, ⟨.rd, ⟨(some 14), none, .loadN 7 (T 4)⟩⟩, ⟨.free, ⟨(some 15), none, .mov (T 1)⟩⟩, ⟨.free, ⟨(some 16), none, .mov (T 2)⟩⟩, ⟨.free, ⟨(some 17), none, .mov (T 3)⟩⟩, ⟨.up, ⟨(some 18), none, .call (.func 92) [(T 14), (T 15), (T 16), (T 17), (.const (.int .i64 (1)))]⟩⟩, ⟨.rd, ⟨(some 19), none, .loadN 7 (T 4)⟩⟩, ⟨.free, ⟨(some 20), none, .mov (T 1)⟩⟩, ⟨.free, ⟨(some 21), none, .mov (T 2)⟩⟩, ⟨.free, ⟨(some 22), none, .mov (T 3)⟩⟩, ⟨.any, ⟨(some 23), none, .call (.func 92) [(T 19), (T 20), (T 21), (T 22), (.const (.int .i64 (2)))]⟩⟩, ⟨.free, ⟨(some 24), none, .plain (.call { callee := .builtin .max, args := #[(T 13), (T 18), (T 23)], argTypes := #[3, 3, 3] }) 3⟩⟩, ⟨.free, ⟨(some 8), none, .mov (T 24)⟩⟩]) .ret))
theorem fok69 : FnOk Try.prog 69 25 s69 [.tmp 8] := ⟨Try.f69, _, Try.func69, rfl, Try.ntmps69, by kernel_rfl, by kernel_rfl⟩
theorem leavesRef_c (hn : 2210 ≤ n) (hr : h.next + 200 < far) {wv vv sv l : Value} {S : MS} (hy : SteepR h wv vv sv S) (hG : Good S) {L : List (Nat → Int)} (ht : TruthsL h l S L) (hlen : L.length ≤ 2000) (hin : ∀ t, t ∈ L → InU S t) {v : Nat} {hh : Int} (ho : HourOk S v hh) :
    call n (.func (.func 69) #[] #[]) [.agg ⟨stL S wv vv sv⟩, l, .int .i64 (v : Int), .int .i64 hh] h = some (.int .i64 (lvS S v hh L), h) := by
  obtain ⟨n, rfl⟩ : ∃ p, n = p + 1 := ⟨n - 1, by omega⟩
  refine call_plain0 fok69 rfl rfl (by simp) rfl ?_
  have hy := hy.shut
  obtain ⟨R1, R2, hc, hq⟩ := ht
  have hc := hc.mono (g := h.shutAll) fun _ _ _ _ _ h => h
  have hq := fun k hk => (hq k hk).mono (g := h.shutAll) fun _ _ _ _ _ h => h
  have hr : h.shutAll.next + 200 < far := hr
  generalize h.shutAll = h at hy hc hq hr
  simp only [s69, W_seq, W_ops]
  refine ops_box (cs := stL S wv vv sv) (by omega) rfl hy.one fun g1 hx1 => ?_
  have n1 := hx1.next
  have hy1 := hy.mono hx1.sub
  have ek := fun kk => kindsRef_c (n := n) (h := g1) (by omega) (by omega) hy1 hG ⟨R1, R2, hc.mono hx1.sub, fun k hk => (hq k hk).mono hx1.sub⟩ hlen hin ho kk
  simp only [cntTo_cntS] at ek
  have hlv : max (max (cntS S v hh 0 L : Int) (cntS S v hh 1 L)) (cntS S v hh 2 L) = lvS S v hh L := rfl
  simp only [rn0, rn1, rn2, rn3, rn4, rn5, rn6, rn7, rn8, if_true, if_false, Nat.le_refl, true_and, and_true, decide_true, decide_false, Bool.not_true, Bool.not_false, reduceIte, Nat.reduceEqDiff, Nat.reduceAdd, Nat.reduceMul, Nat.reduceSub, Nat.reduceLeDiff, Nat.reduceLT]
  refine W_draw All ?_
  simp only [rn0, rn1, rn2, rn3, rn4, rn5, rn6, rn7, rn8, if_true, if_false, Nat.le_refl, true_and, and_true, decide_true, decide_false, Bool.not_true, Bool.not_false, reduceIte, Nat.reduceEqDiff, Nat.reduceAdd, Nat.reduceMul, Nat.reduceSub, Nat.reduceLeDiff, Nat.reduceLT, hx1.row.whole (n := 7) rfl, hy1.self, ek, p_max3, r_max3, hlv]
end Go.Vm.St

namespace Go.Vm.St
open Go.Proofs Go.Vm.Vat
set_option linter.unusedSimpArgs false
set_option linter.unusedVariables false
set_option maxRecDepth 10000
variable {n : Nat} {h : AHeap}
theorem g_un {X : Cx} {d : Option Nat} {want : Bool} {op : SOp} {L : List SI} {Q : WPost} {f : Go.Vm.Fr} {m : List Nat} : gW X undef want d op L Q f h m = opsW X L Q (putF f d undef) h m := by
  have : isB want undef = false := rfl
  simp [gW, this]
end Go.Vm.St

namespace Go.Vm.St
open Go.Proofs Go.Vm.Vat
set_option linter.unusedSimpArgs false
set_option linter.unusedVariables false
set_option maxRecDepth 10000
variable {n : Nat} {h : AHeap}
end Go.Vm.St

namespace Go.Vm.St
open Go.Proofs Go.Vm.Vat
set_option linter.unusedSimpArgs false
set_option linter.unusedVariables false
set_option maxRecDepth 10000
variable {n : Nat} {h : AHeap}
/-- a guard that was not set -/
theorem dg_un {X : Cx} {S : Nat → Prop} {h0 h : AHeap} {k : Kd} {d : Option Nat} {want : Bool} {op : SOp} {L : List DI} {Q : WPost} {f : Go.Vm.Fr} {m : List Nat} : dgW X S h0 undef want k d op L Q f h m = dW X S h0 L Q (putF f d undef) h m := by
  have : isB want undef = false := rfl
  simp [dgW, this]
theorem rowI_congr {m : Nat} {a b : Nat → Int} (he : ∀ i, i < m → a i = b i) : rowI m a = rowI m b := by
  unfold rowI
  refine List.map_congr_left fun i hi => ?_
  rw [he i (List.mem_range.1 hi)]
/-- the truth that is changed, as it lies in memory -/
structure WarmM (g : AHeap) (S : MS) (p b1 b2 c1 : Nat) (v2 : Value) (u : Nat → Int) : Prop where
  row : g.get p = some (.row (trL (.slice (some ⟨b1, 0, none⟩) S.nw c1) v2 (u S.nw)) true 0)
  w : g.get b1 = some (.row (rowI S.nw u) true 1)
  f : S.nv = 0 ∨ ∃ c2, v2 = .slice (some ⟨b2, 0, none⟩) S.nv c2 ∧ g.get b2 = some (.row (rowI S.nv fun v => u (S.nw + 1 + v)) true 1)
theorem WarmM.congr {g : AHeap} {S : MS} {p b1 b2 c1 : Nat} {v2 : Value} {u u' : Nat → Int} (hm : WarmM g S p b1 b2 c1 v2 u) (he : ∀ i, i < numU S → u i = u' i) : WarmM g S p b1 b2 c1 v2 u' := by
  refine ⟨?_, ?_, ?_⟩
  · rw [← he S.nw (by unfold numU; omega)]; exact hm.row
  · rw [← rowI_congr fun i hi => he i (by unfold numU; omega)]; exact hm.w
  · rcases hm.f with h0 | ⟨c2, e, q⟩
    · exact .inl h0
    · exact .inr ⟨c2, e, by rw [← rowI_congr (a := fun v => u (S.nw + 1 + v)) fun i hi => he (S.nw + 1 + i) (by unfold numU; omega)]; exact q⟩
theorem WarmM.tru {g : AHeap} {S : MS} {p b1 b2 c1 : Nat} {x2 : Option Addr} {c2 : Nat} {u : Nat → Int} (hm : WarmM g S p b1 b2 c1 (.slice x2 S.nv c2) u) (h0 : ∀ x, x2 = some x → x.spot = none) : TruR g (.slice (some ⟨b1, 0, none⟩) S.nw c1) (.slice x2 S.nv c2) S u := by
  refine ⟨ints_row hm.w, ?_⟩
  rcases hm.f with h | ⟨c', e, q⟩
  · refine ⟨x2, c2, rfl, h0, .inl h⟩
  · cases e
    exact ints_row q
end Go.Vm.St

namespace Go.Vm.St
open Go.Proofs Go.Vm.Vat
set_option linter.unusedSimpArgs false
set_option linter.unusedVariables false
set_option maxRecDepth 10000
variable {n : Nat} {h : AHeap}
/-! ### One more smell -/
/-- a list of smells, copied, and one appended -/
theorem more_append {sv : Value} {m : Nat} {sA lA rA : Nat → Int} (hS : Samps h sv m sA lA rA) (hm : m ≤ 100) (hr : h.next + 10 < far) (hfl : h.floor ≤ h.next) :
    ∃ e0 g1 a1 g2, buildSl 3 0 [.int .i64 0, .int .i64 0, .int .i64 0] [] h [] = some (e0, g1) ∧ appendA 3 24 g1 e0 sv = some (a1, g2) ∧ (∀ i, i < h.next → g1.get i = h.get i) ∧ (∀ i, i < h.next → g2.get i = h.get i) ∧ h.next ≤ g1.next ∧ g1.next ≤ g2.next ∧ g2.next ≤ h.next + 2 ∧
      ∀ v l r : Int, ∃ b1 g3 S' g4, buildSl 3 1 [.int .i64 0, .int .i64 0, .int .i64 0] [0] g2 [.agg ⟨[.int .i64 v, .int .i64 l, .int .i64 r]⟩] = some (b1, g3) ∧ appendA 3 24 g3 a1 b1 = some (S', g4) ∧ oneCell S' = true ∧
        Samps g4 S' (m + 1) (fun k => if k = m then v else sA k) (fun k => if k = m then l else lA k) (fun k => if k = m then r else rA k) ∧ (∀ i, i < h.next → g4.get i = h.get i) ∧ g2.next ≤ g3.next ∧ g3.next ≤ g4.next ∧ g4.next ≤ h.next + 4 ∧ g4.floor = h.floor ∧
        (∀ a k c, S' = .slice (some a) k c → h.next ≤ a.block) := by
  obtain ⟨xs, ks, es, ls⟩ := Cells.list (by omega) hS
  obtain ⟨g1, q1, hx1⟩ := newSlice_ex (h := h) (cs := []) (n := 0) (cap := 0) (gr := 0) (by omega) rfl
  have n1 := hx1.next
  have f1 := hx1.floor
  have hap := append_none (h := g1) (s := 3) (bytes := 24) (b := h.next) ⟨xs, ks, es⟩ (cells_sub hx1.sub hS (by omega) ls) flatL_len (by simp [maxBytes]; omega) (by simp [maxBytes]; omega)
  by_cases hm0 : m = 0
  · rw [if_pos hm0] at hap
    refine ⟨_, g1, _, g1, by rw [build_none3]; exact q1, hap, hx1.old, hx1.old, by omega, by omega, by omega, fun v l r => ?_⟩
    obtain ⟨g3, q3, hx3⟩ := newSlice_ex (h := g1) (cs := [.int .i64 v, .int .i64 l, .int .i64 r]) (n := 1) (cap := 1) (gr := 0) (by omega) rfl
    have n3 := hx3.next
    have f3 := hx3.floor
    have hap2 := append_none (h := g3) (s := 3) (bytes := 24) (b := h.next) (m := 1) ⟨_, _, rfl⟩ (one_cells (cap := 1) hx3.get rfl) rfl (by simp [maxBytes]) (by simp [maxBytes])
    rw [if_neg (by omega)] at hap2
    obtain ⟨g4, q4, hx4⟩ := newSlice_ex (h := g3) (cs := [.int .i64 v, .int .i64 l, .int .i64 r]) (n := 1) (cap := unk) (gr := 3) (by omega) rfl
    have n4 := hx4.next
    have f4 := hx4.floor
    refine ⟨_, g3, _, g4, by rw [sl_samp]; exact q3, by rw [hap2]; exact q4, rfl, ?_, fun i hi => by rw [hx4.old i (by omega), hx3.old i (by omega), hx1.old i hi], by omega, by omega, by omega, by omega, fun a k c e => by cases e; show h.next ≤ g3.next; omega⟩
    rw [hm0]
    refine cells_row (b := g3.next) ⟨true, 3, hx4.get⟩ fun k j hk hj => ?_
    obtain rfl : k = 0 := by omega
    obtain rfl | rfl | rfl : j = 0 ∨ j = 1 ∨ j = 2 := by omega
    all_goals rfl
  · rw [if_neg hm0] at hap
    obtain ⟨g2, q2, hx2⟩ := newSlice_ex (h := g1) (cs := flatL 3 m fun k j => .int .i64 (if j = 0 then sA k else if j = 1 then lA k else rA k)) (n := m) (cap := unk) (gr := 3) (by omega) flatL_one
    have n2 := hx2.next
    have f2 := hx2.floor
    refine ⟨_, g1, _, g2, by rw [build_none3]; exact q1, by rw [hap]; exact q2, hx1.old, fun i hi => by rw [hx2.old i (by omega), hx1.old i hi], by omega, by omega, by omega, fun v l r => ?_⟩
    obtain ⟨g3, q3, hx3⟩ := newSlice_ex (h := g2) (cs := [.int .i64 v, .int .i64 l, .int .i64 r]) (n := 1) (cap := 1) (gr := 0) (by omega) rfl
    have n3 := hx3.next
    have f3 := hx3.floor
    have gS : GrowC h.next g3 (.slice (some ⟨g1.next, 0, none⟩) m unk) 3 m (fun k j => .int .i64 (if j = 0 then (if k = m then v else sA k) else if j = 1 then (if k = m then l else lA k) else if k = m then r else rA k)) :=
      ⟨_, .inr ⟨_, rfl, by rw [hx3.old _ (by omega)]; exact hx2.get, flatL_len, by omega⟩, flatL_one, fun k j hk hj => by
        rw [flatL_get (c := fun k j => .int .i64 (if j = 0 then sA k else if j = 1 then lA k else rA k)) hk hj]
        have : ¬ k = m := by omega
        simp only [this, if_false]⟩
    obtain ⟨S', g4, e, e', gS', hk4⟩ := gS.append (bytes := 24) (cap := 1) (by omega) (by omega) (by omega) hx3.get rfl rfl (fun j hj => by
      simp only [if_true]
      obtain rfl | rfl | rfl : j = 0 ∨ j = 1 ∨ j = 2 := by omega
      all_goals rfl) (by simp [maxBytes]; omega) (by simp [maxBytes]; omega)
    have n4 := hk4.next
    have f4 := hk4.floor
    refine ⟨_, g3, S', g4, by rw [sl_samp]; exact q3, e, gS'.one, gS'.cells, fun i hi => ?_, by omega, by omega, by omega, by omega, fun a k c e2 => by rw [e'] at e2; cases e2; show h.next ≤ g3.next; omega⟩
    rw [hk4.old i (by omega) fun b k c e => by cases e; show i ≠ g1.next; omega, hx3.old i (by omega), hx2.old i (by omega), hx1.old i hi]
def moreS (S : MS) (v hh kk : Int) : MS := { S with ns := S.ns + 1, sv := fun i => if i = S.ns then v else S.sv i, sh := fun i => if i = S.ns then hh else S.sh i, sk := fun i => if i = S.ns then kk else S.sk i }
theorem kind_vals {S : MS} {u : Nat → Int} {v : Nat} {hh : Int} : kindS S u v hh = 0 ∨ kindS S u v hh = 1 ∨ kindS S u v hh = 2 := by
  unfold kindS
  by_cases c1 : u S.nw < warmS S u v hh
  · rw [if_pos c1]; omega
  · rw [if_neg c1]
    by_cases c2 : blueS S u v hh < S.vn v
    · rw [if_pos c2]; omega
    · rw [if_neg c2]; omega
theorem more_good {S : MS} (hG : Good S) (hs : S.ns ≤ 4) {v : Nat} {hh kk : Int} (ho : HourOk S v hh) (hk : 0 ≤ kk ∧ kk ≤ 2) : Good (moreS S (v : Int) hh kk) := by
  refine ⟨⟨hG.lim.1, hG.lim.2.1, by show S.ns + 1 ≤ 5; omega⟩, ⟨hG.args.head, hG.args.warm, hG.args.vat, fun i hi => ?_⟩, hG.few⟩
  have hi : i < S.ns + 1 := hi
  have hv := ho.isV
  show (0 ≤ (if i = S.ns then (v : Int) else S.sv i) ∧ (if i = S.ns then (v : Int) else S.sv i) ≤ (S.nv : Int) - 1) ∧ (S.vb (if i = S.ns then (v : Int) else S.sv i).toNat ≤ (if i = S.ns then hh else S.sh i) ∧ (if i = S.ns then hh else S.sh i) ≤ S.last) ∧ 0 ≤ (if i = S.ns then kk else S.sk i) ∧ (if i = S.ns then kk else S.sk i) ≤ 2
  by_cases c : i = S.ns
  · simp only [c, if_true, Int.toNat_natCast]
    exact ⟨by omega, ⟨ho.isLo, ho.isHi⟩, hk⟩
  · simp only [c, if_false]
    exact hG.args.smell i (by omega)
theorem more_right {S : MS} {v : Nat} {hh kk : Int} {t : Nat → Int} : (∀ k, k < (moreS S (v : Int) hh kk).ns → RightS (moreS S (v : Int) hh kk) t k) ↔ kindS S t v hh = kk ∧ ∀ k, k < S.ns → RightS S t k := by
  have e0 : RightS (moreS S (v : Int) hh kk) t S.ns ↔ kindS S t v hh = kk := by
    show kindS S t (if S.ns = S.ns then (v : Int) else S.sv S.ns).toNat (if S.ns = S.ns then hh else S.sh S.ns) = (if S.ns = S.ns then kk else S.sk S.ns) ↔ _
    simp only [if_true, Int.toNat_natCast]
  have e1 : ∀ k, k < S.ns → (RightS (moreS S (v : Int) hh kk) t k ↔ RightS S t k) := fun k hk => by
    show kindS S t (if k = S.ns then (v : Int) else S.sv k).toNat (if k = S.ns then hh else S.sh k) = (if k = S.ns then kk else S.sk k) ↔ _
    have : ¬ k = S.ns := by omega
    simp only [this, if_false]
    rfl
  constructor
  · intro q
    exact ⟨e0.1 (q S.ns (Nat.lt_succ_self _)), fun k hk => (e1 k hk).1 (q k (Nat.lt_succ_of_lt hk))⟩
  · rintro ⟨q1, q2⟩ k hk
    have hk : k < S.ns + 1 := hk
    by_cases c : k = S.ns
    · rw [c]; exact e0.2 q1
    · exact (e1 k (by omega)).2 (q2 k (by omega))
open Classical in
theorem more_ref {S : MS} {v : Nat} {hh kk : Int} : refTruths (moreS S (v : Int) hh kk) = (refTruths S).filter fun t => decide (kindS S t v hh = kk) := by
  unfold refTruths refTo
  rw [List.filter_filter]
  have e1 : (List.range (manyS (moreS S (v : Int) hh kk)).toNat).map (nthU (moreS S (v : Int) hh kk)) = (List.range (manyS S).toNat).map (nthU S) := rfl
  rw [e1]
  refine List.filter_congr fun t _ => ?_
  rw [Bool.eq_iff_iff, Bool.and_eq_true, decide_eq_true_eq, decide_eq_true_eq, decide_eq_true_eq]
  exact more_right
theorem more_len {S : MS} (hG : Good S) {v : Nat} {hh kk : Int} : (refTruths (moreS S (v : Int) hh kk)).length = cntS S v hh kk (truthsS S) := by
  rw [more_ref, ← cntS_perm (ref_perm hG)]
  exact List.countP_eq_length_filter.symm
theorem cnt_lv {S : MS} {v : Nat} {hh : Int} {L : List (Nat → Int)} {t : Nat → Int} : (cntS S v hh (kindS S t v hh) L : Int) ≤ lvS S v hh L := by
  unfold lvS
  rcases kind_vals (S := S) (u := t) (v := v) (hh := hh) with e | e | e <;> rw [e] <;> omega
/-- what is found is a smell of a vat, and no other one leaves fewer -/
structure SmOk (S : MS) (L : List (Nat → Int)) (st : Sm) : Prop where
  at_ : ∃ v0 : Nat, st.v = (v0 : Int) ∧ HourOk S v0 st.h ∧ st.l = lvS S v0 st.h L
theorem smStep_ok {S : MS} (hG : Good S) {L : List (Nat → Int)} {v k : Nat} (hv : v < S.nv) (hk : k < hoursN S v) {st : Sm} (ho : SmOk S L st) : SmOk S L (smStep S L v k st) ∧ (smStep S L v k st).l ≤ st.l ∧ (smStep S L v k st).l ≤ lvS S v (S.vb v + (k : Int)) L := by
  unfold smStep
  by_cases c : lvS S v (S.vb v + (k : Int)) L < st.l
  · rw [if_pos c]
    exact ⟨⟨v, rfl, hour_at hG hv hk, rfl⟩, Int.le_of_lt c, Int.le_refl _⟩
  · rw [if_neg c]
    exact ⟨ho, Int.le_refl _, by omega⟩
theorem smHour_ok {S : MS} (hG : Good S) {L : List (Nat → Int)} {v : Nat} (hv : v < S.nv) {st : Sm} (ho : SmOk S L st) : ∀ k, k ≤ hoursN S v → SmOk S L (smHour S L v st k) ∧ (smHour S L v st k).l ≤ st.l ∧ ∀ j, j < k → (smHour S L v st k).l ≤ lvS S v (S.vb v + (j : Int)) L
  | 0, _ => ⟨ho, Int.le_refl _, fun j hj => absurd hj (Nat.not_lt_zero _)⟩
  | k + 1, hk => by
    obtain ⟨h1, h2, h3⟩ := smHour_ok hG hv ho k (by omega)
    obtain ⟨k1, k2, k3⟩ := smStep_ok hG hv (show k < hoursN S v by omega) h1
    refine ⟨k1, Int.le_trans k2 h2, fun j hj => ?_⟩
    by_cases c : j = k
    · rw [c]; exact k3
    · exact Int.le_trans k2 (h3 j (by omega))
theorem smVat_ok {S : MS} (hG : Good S) {L : List (Nat → Int)} {st : Sm} (ho : SmOk S L st) : ∀ v, v ≤ S.nv → SmOk S L (smVat S L st v) ∧ (smVat S L st v).l ≤ st.l ∧ ∀ w, w < v → ∀ j, j < hoursN S w → (smVat S L st v).l ≤ lvS S w (S.vb w + (j : Int)) L
  | 0, _ => ⟨ho, Int.le_refl _, fun w hw => absurd hw (Nat.not_lt_zero _)⟩
  | v + 1, hv => by
    obtain ⟨h1, h2, h3⟩ := smVat_ok hG ho v (by omega)
    obtain ⟨k1, k2, k3⟩ := smHour_ok hG (show v < S.nv by omega) h1 (hoursN S v) (Nat.le_refl _)
    refine ⟨k1, Int.le_trans k2 h2, fun w hw j hj => ?_⟩
    by_cases c : w = v
    · subst c; exact k3 j hj
    · exact Int.le_trans k2 (h3 w (by omega) j hj)
theorem smP_ok {S : MS} (hG : Good S) {L : List (Nat → Int)} (hv : 0 < S.nv) : SmOk S L (smP S L) ∧ ∀ w, w < S.nv → ∀ j, j < hoursN S w → (smP S L).l ≤ lvS S w (S.vb w + (j : Int)) L := by
  have hh0 := (hoursN_ok hG hv).2.1
  rw [sm_eq hh0 hv]
  have ob := hour_at hG hv (i := 0) (by omega)
  simp only [Int.natCast_zero, Int.add_zero] at ob
  have h0 : SmOk S L ⟨0, S.vb 0, lvS S 0 (S.vb 0) L⟩ := ⟨0, rfl, ob, rfl⟩
  obtain ⟨k1, k2, k3⟩ := smVat_ok hG h0 S.nv (Nat.le_refl _)
  exact ⟨k1, k3⟩
def s19 : SCode := (.seq (.ops [⟨(some 4), none, .box (T 0)⟩, ⟨(some 8), none, .mov (.const (.bool false))⟩]) (.seq (.seq (.ops [⟨(some 19), none, .loadN 7 (T 4)⟩, ⟨(some 20), none, .call (.func 59) [(T 19)]⟩, ⟨(some 21), none, .not (T 20)⟩, ⟨(some 22), none, .mov (T 21)⟩, ⟨(some 23), (some (22, false)), .fieldAddr 5 (T 4)⟩, ⟨(some 24), (some (22, false)), .load1 (T 23)⟩, ⟨(some 25), (some (22, false)), .len (T 24)⟩, ⟨(some 26), (some (22, false)), .int2 .eql (T 25) (.const (.int .i64 (0)))⟩, ⟨(some 27), none, .pick (T 22) (.const (.bool true)) (T 26)⟩, ⟨(some 28), none, .mov (T 27)⟩, ⟨(some 29), (some (28, false)), .fieldAddr 6 (T 4)⟩, ⟨(some 30), (some (28, false)), .load1 (T 29)⟩, ⟨(some 31), (some (28, false)), .len (T 30)⟩, ⟨(some 32), (some (28, false)), .int2 .gtr (T 31) (.const (.int .i64 (4)))⟩, ⟨(some 33), none, .pick (T 28) (.const (.bool true)) (T 32)⟩]) (.cond (T 33) (.seq (.ops [⟨(some 34), none, .call (.func 24) []⟩, ⟨(some 8), none, .mov (T 34)⟩]) .ret) .skip)) (.seq (.ops [⟨(some 36), none, .loadN 7 (T 4)⟩, ⟨(some 37), none, .call (.func 26) [(T 36)]⟩, ⟨(some 38), none, .call (.func 49) [(T 37)]⟩, ⟨(some 35), none, .mov (T 38)⟩, ⟨(some 39), none, .extract 0 (T 35)⟩, ⟨(some 40), none, .extract 1 (T 35)⟩, ⟨(some 41), none, .extract 2 (T 35)⟩, ⟨(some 42), none, .extract 3 (T 35)⟩, ⟨(some 9), none, .mov (T 39)⟩, ⟨(some 10), none, .mov (T 40)⟩, ⟨(some 11), none, .mov (T 41)⟩, ⟨(some 12), none, .mov (T 42)⟩]) (.seq (.ops [⟨(some 44), none, .loadN 7 (T 4)⟩, ⟨(some 45), none, .call (.func 36) [(T 44), (.const (.bool true))]⟩, ⟨(some 43), none, .mov (T 45)⟩, ⟨(some 46), none, .extract 0 (T 43)⟩, ⟨(some 47), none, .extract 1 (T 43)⟩, ⟨(some 13), none, .mov (T 46)⟩, ⟨(some 14), none, .mov (T 47)⟩]) (.seq (.seq (.ops [⟨(some 48), none, .mov (T 14)⟩, ⟨(some 49), none, .int2 .neq (T 48) (.const (.int .i64 (0)))⟩]) (.cond (T 49) (.seq (.ops [⟨(some 50), none, .mov (T 12)⟩, ⟨(some 51), none, .mov (T 14)⟩, ⟨(some 52), none, .int2 .eql (T 50) (T 51)⟩, ⟨(some 53), none, .mov (T 52)⟩, ⟨(some 54), (some (53, true)), .call (.func 24) []⟩, ⟨(some 55), none, .pick (T 53) (T 54) (.const (.bool false))⟩, ⟨(some 8), none, .mov (T 55)⟩]) .ret) .skip)) (.seq (.seq (.draw [⟨.free, ⟨(some 56), none, .mov (T 12)⟩⟩, ⟨.free, ⟨(some 57), none, .int2 .neq (T 56) (.const (.int .i64 (0)))⟩⟩, ⟨.free, ⟨(some 58), none, .mov (T 57)⟩⟩, ⟨.rd1, ⟨(some 59), (some (58, false)), .loadN 7 (T 4)⟩⟩, ⟨.free, ⟨(some 60), (some (58, false)), .mov (T 9)⟩⟩, ⟨.up, ⟨(some 61), (some (58, false)), .call (.func 37) [(T 59), (T 60)]⟩⟩, ⟨.free, ⟨(some 62), (some (58, false)), .not (T 61)⟩⟩, ⟨.free, ⟨(some 63), none, .pick (T 58) (.const (.bool true)) (T 62)⟩⟩, ⟨.free, ⟨(some 64), none, .mov (T 63)⟩⟩, ⟨.free, ⟨(some 65), (some (64, false)), .mov (T 10)⟩⟩, ⟨.free, ⟨(some 66), (some (64, false)), .fieldAddr 5 (T 4)⟩⟩, ⟨.rd1, ⟨(some 67), (some (64, false)), .load1 (T 66)⟩⟩, ⟨.free, ⟨(some 68), (some (64, false)), .mov (T 9)⟩⟩, ⟨.free, ⟨(some 69), (some (64, false)), .idxSl 4 (T 67) (T 68)⟩⟩, ⟨.free, ⟨(some 70), (some (64, false)), .fieldAddr 0 (T 69)⟩⟩, ⟨.rd1, ⟨(some 71), (some (64, false)), .load1 (T 70)⟩⟩, ⟨.free, ⟨(some 72), (some (64, false)), .fieldAddr 0 (T 4)⟩⟩, ⟨.rd1, ⟨(some 73), (some (64, false)), .load1 (T 72)⟩⟩, ⟨.any, ⟨(some 74), (some (64, false)), .call (.func 42) [(T 65), (T 71), (T 73)]⟩⟩, ⟨.free, ⟨(some 75), (some (64, false)), .not (T 74)⟩⟩, ⟨.free, ⟨(some 76), none, .pick (T 64) (.const (.bool true)) (T 75)⟩⟩]) (.cond (T 76) (.seq (.ops [⟨(some 8), none, .mov (.const (.bool false))⟩]) .ret) .skip)) (.seq (.ops [⟨(some 77), none, .loadN 7 (T 4)⟩, ⟨(some 15), none, .alloc [(.int .i64 (0)), (.int .i64 (0)), (.slice none 0 0), (.int .i64 (0)), (.int .i64 (0)), (.slice none 0 0), (.slice none 0 0)]⟩, ⟨none, none, .store 7 (T 15) (T 77)⟩]) (.seq (.ops [⟨(some 78), none, .mov (T 13)⟩, ⟨(some 79), none, .mov (T 1)⟩, ⟨(some 80), none, .plain (.convert 90 3 (T 79)) 3⟩, ⟨(some 81), none, .mov (T 13)⟩, ⟨(some 82), none, .len (T 81)⟩, ⟨(some 83), none, .plain (.binOp .rem 3 (T 80) (T 82) 3) 3⟩, ⟨(some 84), none, .idxSl 3 (T 78) (T 83)⟩, ⟨(some 85), none, .loadN 3 (T 84)⟩, ⟨(some 16), none, .alloc [(.slice none 0 0), (.int .i64 (0)), (.slice none 0 0)]⟩, ⟨none, none, .store 3 (T 16) (T 85)⟩]) (.seq (.draw [⟨.up, ⟨(some 86), none, .bslice 3 0 [(.int .i64 (0)), (.int .i64 (0)), (.int .i64 (0))] [] []⟩⟩, ⟨.free, ⟨(some 87), none, .fieldAddr 6 (T 4)⟩⟩, ⟨.rd, ⟨(some 88), none, .load1 (T 87)⟩⟩, ⟨.up, ⟨(some 89), none, .append 3 24 (T 86) (T 88)⟩⟩, ⟨.free, ⟨(some 90), none, .mov (T 9)⟩⟩, ⟨.free, ⟨(some 91), none, .mov (T 10)⟩⟩, ⟨.rd, ⟨(some 92), none, .loadN 7 (T 4)⟩⟩, ⟨.rd, ⟨(some 93), none, .loadN 3 (T 16)⟩⟩, ⟨.free, ⟨(some 94), none, .mov (T 9)⟩⟩, ⟨.free, ⟨(some 95), none, .mov (T 10)⟩⟩, ⟨.any, ⟨(some 96), none, .call (.func 34) [(T 92), (T 93), (T 94), (T 95)]⟩⟩, ⟨.free, ⟨(some 97), none, .build #[(0, 1), (1, 1), (2, 1)] [(.int .i64 (0)), (.int .i64 (0)), (.int .i64 (0))] [0, 1, 2] [(T 90), (T 91), (T 96)]⟩⟩, ⟨.any, ⟨(some 98), none, .bslice 3 1 [(.int .i64 (0)), (.int .i64 (0)), (.int .i64 (0))] [0] [(T 97)]⟩⟩, ⟨.any, ⟨(some 99), none, .append 3 24 (T 89) (T 98)⟩⟩, ⟨.free, ⟨(some 100), none, .fieldAddr 6 (T 15)⟩⟩, ⟨.any, ⟨none, none, .store 1 (T 100) (T 99)⟩⟩]) (.seq (.ops [⟨(some 101), none, .mov (T 2)⟩, ⟨(some 102), none, .plain (.convert 5 3 (T 101)) 3⟩, ⟨(some 103), none, .fieldAddr 5 (T 4)⟩, ⟨(some 104), none, .load1 (T 103)⟩, ⟨(some 105), none, .len (T 104)⟩, ⟨(some 106), none, .plain (.binOp .rem 3 (T 102) (T 105) 3) 3⟩, ⟨(some 17), none, .mov (T 106)⟩]) (.seq (.ops [⟨(some 107), none, .fieldAddr 5 (T 4)⟩, ⟨(some 108), none, .load1 (T 107)⟩, ⟨(some 109), none, .mov (T 17)⟩, ⟨(some 110), none, .idxSl 4 (T 108) (T 109)⟩, ⟨(some 111), none, .fieldAddr 0 (T 110)⟩, ⟨(some 112), none, .load1 (T 111)⟩, ⟨(some 18), none, .mov (T 112)⟩]) (.seq (.draw [⟨.rd1, ⟨(some 113), none, .loadN 7 (T 15)⟩⟩, ⟨.up, ⟨(some 114), none, .call (.func 68) [(T 113)]⟩⟩, ⟨.free, ⟨(some 115), none, .len (T 114)⟩⟩, ⟨.free, ⟨(some 116), none, .mov (T 11)⟩⟩, ⟨.free, ⟨(some 117), none, .int2 .leq (T 115) (T 116)⟩⟩, ⟨.free, ⟨(some 118), none, .mov (T 117)⟩⟩, ⟨.free, ⟨(some 119), (some (118, true)), .mov (T 11)⟩⟩, ⟨.rd1, ⟨(some 120), (some (118, true)), .loadN 7 (T 4)⟩⟩, ⟨.free, ⟨(some 121), (some (118, true)), .mov (T 13)⟩⟩, ⟨.free, ⟨(some 122), (some (118, true)), .mov (T 9)⟩⟩, ⟨.free, ⟨(some 123), (some (118, true)), .mov (T 10)⟩⟩, ⟨.up, ⟨(some 124), (some (118, true)), .call (.func 69) [(T 120), (T 121), (T 122), (T 123)]⟩⟩, ⟨.free, ⟨(some 125), (some (118, true)), .int2 .eql (T 119) (T 124)⟩⟩, ⟨.free, ⟨(some 126), none, .pick (T 118) (T 125) (.const (.bool false))⟩⟩, ⟨.free, ⟨(some 127), none, .mov (T 126)⟩⟩, ⟨.rd1, ⟨(some 128), (some (127, true)), .loadN 7 (T 4)⟩⟩, ⟨.free, ⟨(some 129), (some (127, true)), .mov (T 13)⟩⟩, ⟨.free, ⟨(some 130), (some (127, true)), .mov (T 17)⟩⟩, ⟨.free, ⟨(some 131), (some (127, true)), .mov (T 18)⟩⟩, ⟨.free, ⟨(some 132), (some (127, true)), .mov (T 3)⟩⟩, ⟨.free, ⟨(some 133), (some (127, true)), .plain (.convert 5 3 (T 132)) 3⟩⟩, ⟨.free, ⟨(some 134), (some (127, true)), .fieldAddr 0 (T 4)⟩⟩, ⟨.rd1, ⟨(some 135), (some (127, true)), .load1 (T 134)⟩⟩, ⟨.free, ⟨(some 136), (some (127, true)), .mov (T 18)⟩⟩, ⟨.free, ⟨(some 137), (some (127, true)), .int2 .sub (T 135) (T 136)⟩⟩, ⟨.free, ⟨(some 138), (some (127, true)), .int2 .add (T 137) (.const (.int .i64 (1)))⟩⟩, ⟨.free, ⟨(some 139), (some (127, true)), .plain (.binOp .rem 3 (T 133) (T 138) 3) 3⟩⟩, ⟨.free, ⟨(some 140), (some (127, true)), .int2 .add (T 131) (T 139)⟩⟩, ⟨.any, ⟨(some 141), (some (127, true)), .call (.func 69) [(T 128), (T 129), (T 130), (T 140)]⟩⟩, ⟨.free, ⟨(some 142), (some (127, true)), .mov (T 11)⟩⟩, ⟨.free, ⟨(some 143), (some (127, true)), .int2 .geq (T 141) (T 142)⟩⟩, ⟨.free, ⟨(some 144), none, .pick (T 127) (T 143) (.const (.bool false))⟩⟩, ⟨.free, ⟨(some 145), none, .mov (T 144)⟩⟩, ⟨.any, ⟨(some 146), (some (145, true)), .call (.func 24) []⟩⟩, ⟨.free, ⟨(some 147), none, .pick (T 145) (T 146) (.const (.bool false))⟩⟩, ⟨.free, ⟨(some 8), none, .mov (T 147)⟩⟩]) .ret))))))))))))
theorem fok19 : FnOk Try.prog 19 148 s19 [.tmp 8] := ⟨Try.f19, _, Try.func19, rfl, Try.ntmps19, by kernel_rfl, by kernel_rfl⟩
set_option maxHeartbeats 4000000 in
theorem asked2_c (hn : 3000 ≤ n) (hr : h.next + 6000000 < far) (hfl : h.floor ≤ h.next) {wv vv sv : Value} {S : MS} (hy : SteepR h wv vv sv S) (a1 : Int) (wf1 : (Lit.int .u16 a1).wf = true) (a2 : Int) (wf2 : (Lit.int .u8 a2).wf = true) (a3 : Int) (wf3 : (Lit.int .u8 a3).wf = true) :
    ∃ v h', call n (.func (.func 19) #[] #[]) [.agg ⟨stL S wv vv sv⟩, .int .u16 a1, .int .u8 a2, .int .u8 a3] h = some (v, h') ∧ v = .bool true := by
  obtain ⟨n, rfl⟩ : ∃ p, n = p + 1 := ⟨n - 1, by omega⟩
  obtain ⟨w1, rfl, hw1⟩ := wf16 wf1
  obtain ⟨w2, rfl, hw2⟩ := wf8 wf2
  obtain ⟨w3, rfl, hw3⟩ := wf8 wf3
  refine call_any0 fok19 rfl rfl (by simp) ?_
  simp only [s19, W_seq, W_ops]
  refine ops_box (cs := stL S wv vv sv) (by omega) rfl hy.one fun g1 hx1 => ?_
  have n1 := hx1.next
  have f1 := hx1.floor
  have hy1 := hy.mono hx1.sub
  have r1 := hx1.row
  have er := ready_c (n := n) (h := g1) (by omega) (by omega) hy1
  by_cases hTf : ThinS S ∧ faultS S = 0
  case neg =>
    simp only [rn0, rn1, rn2, rn3, rn4, rn5, rn6, rn7, rn8, if_true, if_false, Nat.le_refl, true_and, and_true, decide_true, decide_false, Bool.not_true, Bool.not_false, reduceIte, Nat.reduceEqDiff, Nat.reduceAdd, Nat.reduceMul, Nat.reduceSub, Nat.reduceLeDiff, Nat.reduceLT, r1.whole (n := 7) rfl, er, hTf, g_un, awake_c (n := n) (h := g1) (by omega)]
  have hdt : decide (ThinS S ∧ faultS S = 0) = true := decide_eq_true hTf
  obtain ⟨hT, hf⟩ := hTf
  rw [hdt] at er
  have hG := good_of hf
  by_cases hz : S.nv = 0
  · have hz' : (S.nv : Int) = 0 := by omega
    simp only [rn0, rn1, rn2, rn3, rn4, rn5, rn6, rn7, rn8, if_true, if_false, Nat.le_refl, true_and, and_true, decide_true, decide_false, Bool.not_true, Bool.not_false, reduceIte, Nat.reduceEqDiff, Nat.reduceAdd, Nat.reduceMul, Nat.reduceSub, Nat.reduceLeDiff, Nat.reduceLT, r1.whole (n := 7) rfl, er, r1.ld, stg, Nat.zero_add, Cells.len hy1.v, hz', g_un, awake_c (n := n) (h := g1) (by omega)]
  have hz' : ¬ (S.nv : Int) = 0 := by omega
  by_cases h4 : 4 < S.ns
  · have h4' : (4 : Int) < (S.ns : Int) := by omega
    simp only [rn0, rn1, rn2, rn3, rn4, rn5, rn6, rn7, rn8, if_true, if_false, Nat.le_refl, true_and, and_true, decide_true, decide_false, Bool.not_true, Bool.not_false, reduceIte, Nat.reduceEqDiff, Nat.reduceAdd, Nat.reduceMul, Nat.reduceSub, Nat.reduceLeDiff, Nat.reduceLT, r1.whole (n := 7) rfl, er, r1.ld, stg, Nat.zero_add, Cells.len hy1.v, Cells.len hy1.s, hz', h4', g_un, awake_c (n := n) (h := g1) (by omega)]
  have h4' : ¬ (4 : Int) < (S.ns : Int) := by omega
  obtain ⟨zl0, zl5, zw, zw6, zv4, zs5, _⟩ := hG.sizes
  obtain ⟨wv2, vv2, sv2, g2, e2, hy2, o2, u2, m2, f2⟩ := steepL_c (n := n) (h := g1) (by omega) (by omega) (by omega) hy1 hT
  have sub2 : Sub All g1 g2 := AHeap.subOf o2
  have eg := askP_c (n := n) (h := g2) (by omega) (by omega) hy2 hT
  have r2 := r1.mono sub2
  have hy2' := hy1.mono sub2
  obtain ⟨av, g3, e3, ha⟩ := asked_c (n := n) (h := g2) (by omega) (by omega) (by omega) hy2' hT (ok := true)
  have o3 := ha.1
  have u3 := ha.2.1
  have m3 := ha.2.2.1
  have f3 := ha.2.2.2.1
  have sub3 : Sub All g2 g3 := AHeap.subOf o3
  have hy3 := hy2'.mono sub3
  have r3 := r2.mono sub3
  have haw3 := awake_c (n := n) (h := g3) (by omega)
  rcases asked_errT ha with ⟨he, rfl⟩ | ⟨he, _, hzt, l, rfl, hl1, hl⟩
  · obtain ⟨q1, q2⟩ := ask_err he
    rw [q1, q2] at eg
    simp only [rn0, rn1, rn2, rn3, rn4, rn5, rn6, rn7, rn8, if_true, if_false, Nat.le_refl, true_and, and_true, decide_true, decide_false, Bool.not_true, Bool.not_false, reduceIte, Nat.reduceEqDiff, Nat.reduceAdd, Nat.reduceMul, Nat.reduceSub, Nat.reduceLeDiff, Nat.reduceLT, r1.whole (n := 7) rfl, er, r1.ld, stg, Nat.zero_add, Cells.len hy1.v, Cells.len hy1.s, hz', h4', e2, eg, x_extract, ex40, ex41, ex42, ex43, ex0, ex1, r2.whole (n := 7) rfl, e3, he, haw3]
  obtain ⟨q1, q2⟩ := ask_ok he hz
  rw [q1, q2] at eg
  obtain ⟨hsm, hmin⟩ := smP_ok hG (L := truthsS S) (by omega)
  obtain ⟨v0, sv0, sho, sl0⟩ := hsm.at_
  have hv0 := sho.isV
  obtain ⟨bl1, bl2⟩ := lvS_bound (S := S) (v := v0) (hh := (smP S (truthsS S)).h) (L := truthsS S)
  have hlen2 := truths_len hG
  rw [sv0] at eg
  generalize (smP S (truthsS S)).h = hh at eg sho sl0 bl1 bl2
  generalize (smP S (truthsS S)).l = left at eg sl0 hmin
  have evt := vatL_c (n := n) (h := g3) (by omega) (by omega) hy3 hT (v0 : Int)
  have dvt : decide (0 ≤ (v0 : Int) ∧ (v0 : Int) ≤ (S.nv : Int) - 1) = true := decide_eq_true (by omega)
  rw [dvt] at evt
  have ein := in_c (n := n) (h := g3) (by omega) hh (S.vb v0) S.last
  have din : decide (S.vb v0 ≤ hh ∧ hh ≤ S.last) = true := decide_eq_true ⟨sho.isLo, sho.isHi⟩
  rw [din] at ein
  simp only [rn0, rn1, rn2, rn3, rn4, rn5, rn6, rn7, rn8, if_true, if_false, Nat.le_refl, true_and, and_true, decide_true, decide_false, Bool.not_true, Bool.not_false, reduceIte, Nat.reduceEqDiff, Nat.reduceAdd, Nat.reduceMul, Nat.reduceSub, Nat.reduceLeDiff, Nat.reduceLT, r1.whole (n := 7) rfl, er, r1.ld, stg, Nat.zero_add, Cells.len hy1.v, Cells.len hy1.s, hz', h4', e2, eg, x_extract, ex40, ex41, ex42, ex43, ex0, ex1, r2.whole (n := 7) rfl, e3]
  refine W_draw All ?_
  simp only [rn0, rn1, rn2, rn3, rn4, rn5, rn6, rn7, rn8, if_true, if_false, Nat.le_refl, true_and, and_true, decide_true, decide_false, Bool.not_true, Bool.not_false, reduceIte, Nat.reduceEqDiff, Nat.reduceAdd, Nat.reduceMul, Nat.reduceSub, Nat.reduceLeDiff, Nat.reduceLT, r3.whole (n := 7) rfl, r3.ld, stg, Nat.zero_add, Nat.add_zero, evt, Cells.idx hy3.v hv0, Cells.fld hy3.v hv0, begin_ld hy3 hv0, ein, d_guard, dg_tt, dg_tf, dg_ft, dg_ff, dg_un]
  refine step_new (vs := stL S wv vv sv) (by omega) (by omega) rfl (by simp only [rn0, rn1, rn2, rn3, rn4, rn5, rn6, rn7, rn8, if_true, if_false, Nat.le_refl, true_and, and_true, decide_true, decide_false, Bool.not_true, Bool.not_false, reduceIte, Nat.reduceEqDiff, Nat.reduceAdd, Nat.reduceMul, Nat.reduceSub, Nat.reduceLeDiff, Nat.reduceLT]; rfl) hy.one rfl rfl fun g4 hx4 => ?_
  have n4 := hx4.next
  have f4 := hx4.floor
  obtain ⟨R1, R2, hc, hq⟩ := hl
  have hRne : refTruths S ≠ [] := fun e => hzt ((ref_nil hG).1 e)
  have hRpos : 0 < (refTruths S).length := List.length_pos_iff.2 hRne
  have hRlen : (refTruths S).length ≤ 2000 := Nat.le_trans refTo_len (by have := many_pos hG; omega)
  obtain ⟨ti, hti⟩ : ∃ ti : Nat, ti = w1 % (refTruths S).length := ⟨_, rfl⟩
  have htl : ti < (refTruths S).length := by rw [hti]; exact Nat.mod_lt _ hRpos
  have hti' : (w1 : Int).tmod ((refTruths S).length : Int) = (ti : Int) := by rw [hti]; rfl
  have hRz : ¬ ((refTruths S).length : Int) = 0 := by omega
  have hc4 := hc.mono hx4.sub
  have ht4 := (hq ti htl).mono hx4.sub
  have hut : InU S ((refTruths S).getD ti fun _ => 0) := (truths_mem.1 ((refTruths_mem hG).1 (getD_mem htl))).1.1
  simp only [rn0, rn1, rn2, rn3, rn4, rn5, rn6, rn7, rn8, if_true, if_false, Nat.le_refl, true_and, and_true, decide_true, decide_false, Bool.not_true, Bool.not_false, reduceIte, Nat.reduceEqDiff, Nat.reduceAdd, Nat.reduceMul, Nat.reduceSub, Nat.reduceLeDiff, Nat.reduceLT, Cells.len hc4, p_conv16, r_16 hw1, valN_tmp, valN_const, Nat.reduceLT, p_rem, r_rem hRz, hti', Cells.idx hc4 htl, trs_ld hc4 htl]
  generalize ((refTruths S).getD ti fun _ => 0) = u at *
  refine step_new (vs := trL (R1 ti) (R2 ti) (u S.nw)) (by omega) (by omega) rfl (by simp only [rn0, rn1, rn2, rn3, rn4, rn5, rn6, rn7, rn8, if_true, if_false, Nat.le_refl, true_and, and_true, decide_true, decide_false, Bool.not_true, Bool.not_false, reduceIte, Nat.reduceEqDiff, Nat.reduceAdd, Nat.reduceMul, Nat.reduceSub, Nat.reduceLeDiff, Nat.reduceLT]; rfl) ht4.one rfl rfl fun g5 hx5 => ?_
  have n5 := hx5.next
  have f5 := hx5.floor
  have sub35 : Sub All g3 g5 := hx4.sub.trans hx5.sub
  have hy5 := hy3.mono sub35
  have r5 := r3.mono sub35
  have x5 : g5.get g3.next = some (.row (stL S wv vv sv) true 0) := by rw [hx5.old _ (by omega)]; exact hx4.get
  have t5 := hx5.row
  have ht5 := ht4.mono hx5.sub
  obtain ⟨e0, ga, av1, gb, t1, t2, oa, ob, na1, na2, na3, happ⟩ := more_append (h := g5) hy5.s (by omega) (by omega) (by omega)
  have suba : Sub All g5 ga := AHeap.subOf oa
  have subb : Sub All g5 gb := AHeap.subOf ob
  have ek := kind_c (n := n) (h := gb) (by omega) (by omega) (hy5.mono subb) (ht5.mono subb) hG hut sho
  obtain ⟨b1v, gc, SX, gd, t3, t4, o8, hSX, old8, nc1, nc2, nc3, f8, blk8⟩ := happ (v0 : Int) hh (kindS S u v0 hh)
  have r5a : Row ga h.next (stL S wv vv sv) := r5.mono suba
  have subd : Sub All g5 gd := AHeap.subOf old8
  have selfS : eqV sv sv = true := Cells.self hy5.s
  simp only [rn0, rn1, rn2, rn3, rn4, rn5, rn6, rn7, rn8, if_true, if_false, Nat.le_refl, true_and, and_true, decide_true, decide_false, Bool.not_true, Bool.not_false, reduceIte, Nat.reduceEqDiff, Nat.reduceAdd, Nat.reduceMul, Nat.reduceSub, Nat.reduceLeDiff, Nat.reduceLT]
  refine W_draw All ?_
  simp only [rn0, rn1, rn2, rn3, rn4, rn5, rn6, rn7, rn8, if_true, if_false, Nat.le_refl, true_and, and_true, decide_true, decide_false, Bool.not_true, Bool.not_false, reduceIte, Nat.reduceEqDiff, Nat.reduceAdd, Nat.reduceMul, Nat.reduceSub, Nat.reduceLeDiff, Nat.reduceLT, r5.ld, r5.whole (n := 7) rfl, stg, Nat.zero_add, hy5.self, ht5.self, selfS, t5.whole (n := 3) rfl, t1, t2, ek, build_sm, t3, t4]
  refine ⟨⟨na1, suba⟩, ⟨na2, subb⟩, by omega, by omega, ?_⟩
  refine up_store (b := g3.next) (off := 6) (vs := [SX]) rfl (by rw [old8 _ (by omega)]; exact x5) (by omega) (by omega) (by cases SX <;> first | rfl | cases o8) (by simp [allB, o8]) rfl (by simp [stL]) (fun _ _ => trivial) fun g6 hs6 => ?_
  have es6 : splice (stL S wv vv sv) 6 [SX] = stL (moreS S (v0 : Int) hh (kindS S u v0 hh)) wv vv SX := rfl
  rw [es6] at hs6
  have n6 := hs6.next
  have f6 := hs6.floor
  have sub36 : Sub All g3 g6 := AHeap.subOf fun i hi => by rw [hs6.old i (by omega), old8 i (by omega), hx5.old i (by omega), hx4.old i hi]
  have hy6 := hy3.mono sub36
  have r6 := r3.mono sub36
  have x6 := hs6.row
  have hX6 : SteepR g6 wv vv SX (moreS S (v0 : Int) hh (kindS S u v0 hh)) := ⟨hy6.w, hy6.v, Cells.keep hSX hs6.keep fun x k c e => by have := blk8 x k c e; omega⟩
  have hGX := more_good hG (show S.ns ≤ 4 by omega) sho (kk := kindS S u v0 hh) (by have := kind_vals (S := S) (u := u) (v := v0) (hh := hh); omega)
  obtain ⟨k, hk⟩ : ∃ k : Nat, k = w2 % S.nv := ⟨_, rfl⟩
  have hkv : k < S.nv := by rw [hk]; exact Nat.mod_lt _ (by omega)
  have hk' : (w2 : Int).tmod (S.nv : Int) = (k : Int) := by rw [hk]; rfl
  obtain ⟨mh1, mh2, mh3⟩ := hoursN_ok hG hkv
  obtain ⟨⟨vb1, vb2⟩, _⟩ := hG.args.vat k hkv
  simp only [rn0, rn1, rn2, rn3, rn4, rn5, rn6, rn7, rn8, if_true, if_false, Nat.le_refl, true_and, and_true, decide_true, decide_false, Bool.not_true, Bool.not_false, reduceIte, Nat.reduceEqDiff, Nat.reduceAdd, Nat.reduceMul, Nat.reduceSub, Nat.reduceLeDiff, Nat.reduceLT, r6.ld, stg, Nat.zero_add, Nat.add_zero, Cells.len hy6.v, p_conv8, r_8 hw2, valN_tmp, valN_const, Nat.reduceLT, p_rem, r_rem hz', hk', Cells.idx hy6.v hkv, Cells.fld hy6.v hkv, begin_ld hy6 hkv]
  obtain ⟨lx, g7, e7, hlx, hlx1, o7, u7, m7, f7⟩ := truthsRef_c (n := n) (h := g6) (by omega) (by omega) (by omega) hX6 hGX
  have sub7 : Sub All g6 g7 := AHeap.subOf o7
  have hy7 := hy6.mono sub7
  have s37 := sub36.trans sub7
  have hl7 : TruthsL g7 l S (refTruths S) := ⟨R1, R2, hc.mono s37, fun k hk => (hq k hk).mono s37⟩
  have r7 := r6.mono sub7
  have hinR : ∀ t, t ∈ refTruths S → InU S t := fun t ht => (truths_mem.1 ((refTruths_mem hG).1 ht)).1.1
  have el := fun {v : Nat} {hh : Int} (ho : HourOk S v hh) => leavesRef_c (n := n) (h := g7) (by omega) (by omega) hy7 hG hl7 hRlen hinR ho
  have el1 := el sho
  obtain ⟨hj, hhj⟩ : ∃ hj : Nat, hj = w3 % hoursN S k := ⟨_, rfl⟩
  have hjl : hj < hoursN S k := by rw [hhj]; exact Nat.mod_lt _ (by omega)
  have hj' : (w3 : Int).tmod (hoursN S k : Int) = (hj : Int) := by rw [hhj]; rfl
  have el2 := el (hour_at hG hkv hjl)
  rw [lvS_perm (ref_perm hG), ← sl0] at el1
  rw [lvS_perm (ref_perm hG)] at el2
  have hmn := hmin k hkv hj hjl
  have hcn := cnt_lv (S := S) (v := v0) (hh := hh) (L := truthsS S) (t := u)
  rw [← more_len hG, ← sl0] at hcn
  have ws1 : wrapF .i64 (S.last - S.vb k) = S.last - S.vb k := wrap_in (by omega) (by omega)
  have ws2 : wrapF .i64 (S.last - S.vb k + 1) = (hoursN S k : Int) := by rw [wrap_in (by omega) (by omega), mh1]
  have hzh : ¬ (hoursN S k : Int) = 0 := by omega
  have wsb : wrapF .i64 (S.vb k + (hj : Int)) = S.vb k + (hj : Int) := wrap_in (by omega) (by omega)
  refine W_draw All ?_
  simp only [rn0, rn1, rn2, rn3, rn4, rn5, rn6, rn7, rn8, if_true, if_false, Nat.le_refl, true_and, and_true, decide_true, decide_false, Bool.not_true, Bool.not_false, reduceIte, Nat.reduceEqDiff, Nat.reduceAdd, Nat.reduceMul, Nat.reduceSub, Nat.reduceLeDiff, Nat.reduceLT, x6.whole (n := 7) rfl, e7, Cells.len hlx.choose_spec.choose_spec.1, hcn, r6.whole (n := 7) rfl, r6.ld, stg, Nat.zero_add, el1, p_conv8, r_8 hw3, valN_tmp, valN_const, Nat.reduceLT, p_rem, r_rem hzh, hj', ws1, ws2, wsb, el2, hmn, awake_c (n := n) (h := g7) (by omega), d_guard, dg_tt, dg_tf, dg_ft, dg_ff, dg_un]
  first | exact ⟨u7, sub7⟩ | exact ⟨⟨u7, sub7⟩, by omega⟩ | trace_state
end Go.Vm.St
