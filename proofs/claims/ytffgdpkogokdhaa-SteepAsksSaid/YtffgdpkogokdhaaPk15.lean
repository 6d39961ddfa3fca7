/- Texts of the proofs of this seat, put together: StRightL, StRightM, StGoodP, StRightN, StGoodL, StStuckL, StAskP, StAskL. -/
import Derived.Test.YtffgdpkogokdhaaPk14

namespace Go.Vm.St
open Go.Proofs Go.Vm.Vat
set_option linter.unusedSimpArgs false
set_option linter.unusedVariables false
set_option maxRecDepth 10000
variable {n : Nat} {h : AHeap}
def s92 : SCode := (.seq (.ops [⟨(some 5), none, .box (T 0)⟩, ⟨(some 10), none, .mov (.const (.int .i64 (0)))⟩]) (.seq (.ops [⟨(some 11), none, .mov (.const (.int .i64 (0)))⟩]) (.seq (.seq (.ops [⟨(some 12), none, .mov (.const (.int .i64 (0)))⟩]) (.block 0 (.loop (.seq (.seq (.ops [⟨(some 13), none, .mov (T 12)⟩, ⟨(some 14), none, .mov (T 1)⟩, ⟨(some 15), none, .len (T 14)⟩, ⟨(some 16), none, .int2 .lss (T 13) (T 15)⟩]) (.cond (T 16) .skip (.exit 0))) (.seq (.block 1 (.seq (.draw [⟨.rd1, ⟨(some 19), none, .loadN 7 (T 5)⟩⟩, ⟨.free, ⟨(some 20), none, .mov (T 1)⟩⟩, ⟨.free, ⟨(some 21), none, .mov (T 12)⟩⟩, ⟨.free, ⟨(some 22), none, .idxSl 3 (T 20) (T 21)⟩⟩, ⟨.rd1, ⟨(some 23), none, .loadN 3 (T 22)⟩⟩, ⟨.free, ⟨(some 24), none, .mov (T 2)⟩⟩, ⟨.free, ⟨(some 25), none, .mov (T 3)⟩⟩, ⟨.any, ⟨(some 26), none, .call (.func 34) [(T 19), (T 23), (T 24), (T 25)]⟩⟩, ⟨.free, ⟨(some 27), none, .mov (T 4)⟩⟩, ⟨.free, ⟨(some 28), none, .int2 .eql (T 26) (T 27)⟩⟩]) (.cond (T 28) (.ops [⟨(some 29), none, .mov (T 11)⟩, ⟨(some 30), none, .int2 .add (T 29) (.const (.int .i64 (1)))⟩, ⟨(some 11), none, .mov (T 30)⟩]) .skip))) (.ops [⟨(some 17), none, .mov (T 12)⟩, ⟨(some 18), none, .int2 .add (T 17) (.const (.int .i64 (1)))⟩, ⟨(some 12), none, .mov (T 18)⟩])))))) (.seq (.ops [⟨(some 31), none, .mov (T 11)⟩, ⟨(some 10), none, .mov (T 31)⟩]) .ret))))
theorem fok92 : FnOk Try.prog 92 32 s92 [.tmp 10] := ⟨Try.f92, _, Try.func92, rfl, Try.ntmps92, by kernel_rfl, by kernel_rfl⟩
theorem kindsRef_c (hn : 2200 ≤ n) (hr : h.next + 100 < far) {wv vv sv l : Value} {S : MS} (hy : SteepR h wv vv sv S) (hG : Good S) {L : List (Nat → Int)} (ht : TruthsL h l S L) (hlen : L.length ≤ 2000) (hin : ∀ t, t ∈ L → InU S t) {v : Nat} {hh : Int} (ho : HourOk S v hh) (kk : Int) :
    call n (.func (.func 92) #[] #[]) [.agg ⟨stL S wv vv sv⟩, l, .int .i64 (v : Int), .int .i64 hh, .int .i64 kk] h = some (.int .i64 ((cntTo (fun i => kindS S (L.getD i fun _ => 0) v hh = kk) L.length : Nat) : Int), h) := by
  obtain ⟨n, rfl⟩ : ∃ p, n = p + 1 := ⟨n - 1, by omega⟩
  refine call_plain0 fok92 rfl rfl (by simp) rfl ?_
  have hy := hy.shut
  obtain ⟨R1, R2, hc, hq⟩ := ht
  have hc := hc.mono (g := h.shutAll) fun _ _ _ _ _ h => h
  have hq := fun k hk => (hq k hk).mono (g := h.shutAll) fun _ _ _ _ _ h => h
  have hr : h.shutAll.next + 100 < far := hr
  generalize h.shutAll = h at hy hc hq hr
  have hat : ∀ i, i < L.length → InU S (L.getD i fun _ => 0) := fun i hi => hin _ (getD_mem hi)
  simp only [s92, W_seq, W_ops]
  refine ops_box (cs := stL S wv vv sv) (by omega) rfl hy.one fun g1 hx1 => ?_
  have n1 := hx1.next
  have hy1 := hy.mono hx1.sub
  have hc1 := hc.mono hx1.sub
  simp only [rn0, rn1, rn2, rn3, rn4, rn5, rn6, rn7, rn8, if_true, if_false, Nat.le_refl, true_and, and_true, decide_true, decide_false, Bool.not_true, Bool.not_false, reduceIte, Nat.reduceEqDiff, Nat.reduceAdd, Nat.reduceMul, Nat.reduceSub, Nat.reduceLeDiff, Nat.reduceLT]
  refine W_loop L.length (fun k f g ms => g = g1 ∧ ms = [] ∧ f 1 = l ∧ f 2 = .int .i64 (v : Int) ∧ f 3 = .int .i64 hh ∧ f 4 = .int .i64 kk ∧ f 5 = .pointer (some ⟨h.next, 0, none⟩) ∧ f 11 = .int .i64 ((cntTo (fun i => kindS S (L.getD i fun _ => 0) v hh = kk) k : Nat) : Int) ∧ f 12 = .int .i64 (k : Int)) (by simp; omega) ?_ ?_ ?_
  · simp only [rn0, rn1, rn2, rn3, rn4, rn5, rn6, rn7, rn8, if_true, if_false, Nat.le_refl, true_and, and_true, decide_true, decide_false, Bool.not_true, Bool.not_false, reduceIte, Nat.reduceEqDiff, Nat.reduceAdd, Nat.reduceMul, Nat.reduceSub, Nat.reduceLeDiff, Nat.reduceLT]
    first | done | trivial | exact ⟨rfl, rfl⟩
  · rintro k f g ms hk ⟨rfl, rfl, p1, p2, p3, p4, p5, p11, p12⟩
    have hk' : (k : Int) < (L.length : Int) := by omega
    have hw : wrapF .i64 ((k : Int) + 1) = ((k + 1 : Nat) : Int) := by rw [wrap_in (by omega) (by omega)]; rfl
    have hcl := cntTo_le (p := fun i => kindS S (L.getD i fun _ => 0) v hh = kk) k
    have ek := kind_c (n := n) (h := g) (by omega) (by omega) hy1 ((hq k hk).mono hx1.sub) hG (hat k hk) ho
    simp only [rn0, rn1, rn2, rn3, rn4, rn5, rn6, rn7, rn8, if_true, if_false, Nat.le_refl, true_and, and_true, decide_true, decide_false, Bool.not_true, Bool.not_false, reduceIte, Nat.reduceEqDiff, Nat.reduceAdd, Nat.reduceMul, Nat.reduceSub, Nat.reduceLeDiff, Nat.reduceLT, p1, p2, p3, p4, p5, p11, p12, Cells.len hc1, hk']
    refine W_draw All ?_
    by_cases e : kindS S (L.getD k fun _ => 0) v hh = kk
    · have hcy := cntTo_yes (p := fun i => kindS S (L.getD i fun _ => 0) v hh = kk) (k := k) e
      have hwc : wrapF .i64 (((cntTo (fun i => kindS S (L.getD i fun _ => 0) v hh = kk) k : Nat) : Int) + 1) = ((cntTo (fun i => kindS S (L.getD i fun _ => 0) v hh = kk) (k + 1) : Nat) : Int) := by rw [hcy, wrap_in (by omega) (by omega)]; rfl
      simp only [rn0, rn1, rn2, rn3, rn4, rn5, rn6, rn7, rn8, if_true, if_false, Nat.le_refl, true_and, and_true, decide_true, decide_false, Bool.not_true, Bool.not_false, reduceIte, Nat.reduceEqDiff, Nat.reduceAdd, Nat.reduceMul, Nat.reduceSub, Nat.reduceLeDiff, Nat.reduceLT, p1, p2, p3, p4, p5, p11, p12, hx1.row.whole (n := 7) rfl, Cells.idx hc1 hk, trs_ld hc1 hk, ek, e, hwc, hw]
    · have hcn := cntTo_no (p := fun i => kindS S (L.getD i fun _ => 0) v hh = kk) (k := k) e
      simp only [rn0, rn1, rn2, rn3, rn4, rn5, rn6, rn7, rn8, if_true, if_false, Nat.le_refl, true_and, and_true, decide_true, decide_false, Bool.not_true, Bool.not_false, reduceIte, Nat.reduceEqDiff, Nat.reduceAdd, Nat.reduceMul, Nat.reduceSub, Nat.reduceLeDiff, Nat.reduceLT, p1, p2, p3, p4, p5, p11, p12, hx1.row.whole (n := 7) rfl, Cells.idx hc1 hk, trs_ld hc1 hk, ek, e, hcn, hw]
  · rintro f g ms ⟨rfl, rfl, p1, p2, p3, p4, p5, p11, p12⟩
    simp only [rn0, rn1, rn2, rn3, rn4, rn5, rn6, rn7, rn8, if_true, if_false, Nat.le_refl, true_and, and_true, decide_true, decide_false, Bool.not_true, Bool.not_false, reduceIte, Nat.reduceEqDiff, Nat.reduceAdd, Nat.reduceMul, Nat.reduceSub, Nat.reduceLeDiff, Nat.reduceLT, p1, p2, p3, p4, p5, p11, p12, Cells.len hc1, Int.lt_irrefl]
end Go.Vm.St

namespace Go.Vm.St
open Go.Proofs Go.Vm.Vat
set_option linter.unusedSimpArgs false
set_option linter.unusedVariables false
set_option maxRecDepth 10000
variable {n : Nat} {h : AHeap}
end Go.Vm.St

namespace Go.Vm.St
open Go.Proofs Go.Vm.Vat
set_option linter.unusedSimpArgs false
set_option linter.unusedVariables false
set_option maxRecDepth 10000
variable {n : Nat} {h : AHeap}
/-! ### The reference's good hours -/
def s45 : SCode := (.seq (.ops [⟨(some 3), none, .box (T 0)⟩, ⟨(some 6), none, .mov (.const (.slice none 0 0))⟩]) (.seq (.ops [⟨(some 7), none, .mov (.const (.slice none 0 0))⟩]) (.seq (.seq (.ops [⟨(some 9), none, .fieldAddr 5 (T 3)⟩, ⟨(some 10), none, .load1 (T 9)⟩, ⟨(some 11), none, .mov (T 2)⟩, ⟨(some 12), none, .idxSl 4 (T 10) (T 11)⟩, ⟨(some 13), none, .fieldAddr 0 (T 12)⟩, ⟨(some 14), none, .load1 (T 13)⟩, ⟨(some 8), none, .mov (T 14)⟩]) (.block 0 (.loop (.seq (.seq (.ops [⟨(some 15), none, .mov (T 8)⟩, ⟨(some 16), none, .fieldAddr 0 (T 3)⟩, ⟨(some 17), none, .load1 (T 16)⟩, ⟨(some 18), none, .int2 .leq (T 15) (T 17)⟩]) (.cond (T 18) .skip (.exit 0))) (.seq (.block 1 (.seq (.ops [⟨(some 21), none, .loadN 7 (T 3)⟩, ⟨(some 22), none, .mov (T 1)⟩, ⟨(some 23), none, .mov (T 2)⟩, ⟨(some 24), none, .mov (T 8)⟩, ⟨(some 25), none, .call (.func 43) [(T 21), (T 22), (T 23), (T 24)]⟩, ⟨(some 26), none, .int2 .eql (T 25) (.const (.int .i64 (1)))⟩]) (.cond (T 26) (.ops [⟨(some 27), none, .mov (T 7)⟩, ⟨(some 28), none, .mov (T 8)⟩, ⟨(some 29), none, .bslice 1 1 [(.int .i64 (0))] [0] [(T 28)]⟩, ⟨(some 30), none, .append 1 8 (T 27) (T 29)⟩, ⟨(some 7), none, .mov (T 30)⟩]) .skip))) (.ops [⟨(some 19), none, .mov (T 8)⟩, ⟨(some 20), none, .int2 .add (T 19) (.const (.int .i64 (1)))⟩, ⟨(some 8), none, .mov (T 20)⟩])))))) (.seq (.ops [⟨(some 31), none, .mov (T 7)⟩, ⟨(some 6), none, .mov (T 31)⟩]) .ret))))
end Go.Vm.St

namespace Go.Vm.St
open Go.Proofs Go.Vm.Vat
set_option linter.unusedSimpArgs false
set_option linter.unusedVariables false
set_option maxRecDepth 10000
variable {n : Nat} {h : AHeap}
end Go.Vm.St

namespace Go.Vm
variable {P : Program} {N : Nat} {f : Fr} {h : AHeap} {ty t u e : TypeId} {x y : Operand}
end Go.Vm
namespace Go.Vm.St
open Go.Proofs Go.Vm.Vat
set_option linter.unusedSimpArgs false
set_option linter.unusedVariables false
set_option maxRecDepth 10000
variable {n : Nat} {h : AHeap}
end Go.Vm.St

namespace Go.Vm.St
open Go.Proofs Go.Vm.Vat
set_option linter.unusedSimpArgs false
set_option linter.unusedVariables false
set_option maxRecDepth 10000
variable {n : Nat} {h : AHeap}
/-! ### The first vat that has no good hour -/
open Classical in
/-- the error of a question without a vat -/
noncomputable def errT (S : MS) : Int := if faultS S ≠ 0 then faultS S else if truthsS S = [] then 11 else 0
theorem errT_1 {S : MS} (hf : faultS S ≠ 0) : errT S = faultS S := if_pos hf
theorem errT_2 {S : MS} (hf : faultS S = 0) (hz : truthsS S = []) : errT S = 11 := by unfold errT; rw [if_neg (by simpa using hf), if_pos hz]
theorem errT_3 {S : MS} (hf : faultS S = 0) (hz : truthsS S ≠ []) : errT S = 0 := by unfold errT; rw [if_neg (by simpa using hf), if_neg hz]
theorem asked_errT {S : MS} {h' : AHeap} {v : Value} (ha : AskR h S true v h') :
    (errT S ≠ 0 ∧ v = .tuple ⟨[nilS, .int .i64 (errT S)]⟩) ∨ (errT S = 0 ∧ faultS S = 0 ∧ truthsS S ≠ [] ∧ ∃ l, v = .tuple ⟨[l, .int .i64 0]⟩ ∧ oneCell l = true ∧ TruthsL h' l S (refTruths S)) := by
  obtain ⟨_, _, _, _, ha⟩ := ha
  rcases ha with ⟨hf, rfl⟩ | ⟨hf, hv, rfl⟩ | ⟨hf, hv, hz, rfl⟩ | ⟨hf, hv, hz, l, rfl, h2, h3⟩
  · exact .inl ⟨by rw [errT_1 hf]; exact hf, by rw [errT_1 hf]⟩
  · cases hv
  · have e := errT_2 hf hz
    exact .inl ⟨by rw [e]; decide, by rw [e]⟩
  · exact .inr ⟨errT_3 hf hz, hf, hz, l, rfl, h2, h3⟩
def s7 : SCode := (.seq (.ops [⟨(some 1), none, .box (T 0)⟩, ⟨(some 2), none, .mov (.const (.bool false))⟩]) (.seq (.seq (.ops [⟨(some 8), none, .loadN 7 (T 1)⟩, ⟨(some 9), none, .call (.func 23) [(T 8)]⟩, ⟨(some 10), none, .not (T 9)⟩]) (.cond (T 10) (.seq (.ops [⟨(some 11), none, .call (.func 24) []⟩, ⟨(some 2), none, .mov (T 11)⟩]) .ret) .skip)) (.seq (.ops [⟨(some 13), none, .loadN 7 (T 1)⟩, ⟨(some 14), none, .call (.func 26) [(T 13)]⟩, ⟨(some 15), none, .call (.func 47) [(T 14)]⟩, ⟨(some 12), none, .mov (T 15)⟩, ⟨(some 16), none, .extract 0 (T 12)⟩, ⟨(some 17), none, .extract 1 (T 12)⟩, ⟨(some 3), none, .mov (T 16)⟩, ⟨(some 4), none, .mov (T 17)⟩]) (.seq (.ops [⟨(some 19), none, .loadN 7 (T 1)⟩, ⟨(some 20), none, .call (.func 36) [(T 19), (.const (.bool true))]⟩, ⟨(some 18), none, .mov (T 20)⟩, ⟨(some 21), none, .extract 0 (T 18)⟩, ⟨(some 22), none, .extract 1 (T 18)⟩, ⟨(some 5), none, .mov (T 21)⟩, ⟨(some 6), none, .mov (T 22)⟩]) (.seq (.seq (.ops [⟨(some 23), none, .mov (T 6)⟩, ⟨(some 24), none, .int2 .neq (T 23) (.const (.int .i64 (0)))⟩]) (.cond (T 24) (.seq (.ops [⟨(some 25), none, .mov (T 4)⟩, ⟨(some 26), none, .mov (T 6)⟩, ⟨(some 27), none, .int2 .eql (T 25) (T 26)⟩, ⟨(some 28), none, .mov (T 27)⟩, ⟨(some 29), (some (28, true)), .mov (T 3)⟩, ⟨(some 30), (some (28, true)), .int2 .eql (T 29) (.const (.int .i64 (0)))⟩, ⟨(some 31), none, .pick (T 28) (T 30) (.const (.bool false))⟩, ⟨(some 32), none, .mov (T 31)⟩, ⟨(some 33), (some (32, true)), .call (.func 24) []⟩, ⟨(some 34), none, .pick (T 32) (T 33) (.const (.bool false))⟩, ⟨(some 2), none, .mov (T 34)⟩]) .ret) .skip)) (.seq (.seq (.ops [⟨(some 35), none, .loadN 7 (T 1)⟩, ⟨(some 36), none, .mov (T 5)⟩, ⟨(some 37), none, .call (.func 48) [(T 35), (T 36)]⟩, ⟨(some 7), none, .mov (T 37)⟩]) (.seq (.ops [⟨(some 38), none, .mov (T 7)⟩, ⟨(some 39), none, .int2 .geq (T 38) (.const (.int .i64 (0)))⟩]) (.cond (T 39) (.seq (.ops [⟨(some 40), none, .mov (T 4)⟩, ⟨(some 41), none, .int2 .eql (T 40) (.const (.int .i64 (0)))⟩, ⟨(some 42), none, .mov (T 41)⟩, ⟨(some 43), (some (42, true)), .mov (T 3)⟩, ⟨(some 44), (some (42, true)), .mov (T 7)⟩, ⟨(some 45), (some (42, true)), .int2 .eql (T 43) (T 44)⟩, ⟨(some 46), none, .pick (T 42) (T 45) (.const (.bool false))⟩, ⟨(some 47), none, .mov (T 46)⟩, ⟨(some 48), (some (47, true)), .call (.func 24) []⟩, ⟨(some 49), none, .pick (T 47) (T 48) (.const (.bool false))⟩, ⟨(some 2), none, .mov (T 49)⟩]) .ret) .skip))) (.seq (.ops [⟨(some 50), none, .mov (T 4)⟩, ⟨(some 51), none, .int2 .eql (T 50) (.const (.int .i64 (7)))⟩, ⟨(some 52), none, .mov (T 51)⟩, ⟨(some 53), (some (52, true)), .mov (T 3)⟩, ⟨(some 54), (some (52, true)), .int2 .eql (T 53) (.const (.int .i64 (0)))⟩, ⟨(some 55), none, .pick (T 52) (T 54) (.const (.bool false))⟩, ⟨(some 56), none, .mov (T 55)⟩, ⟨(some 57), (some (56, true)), .call (.func 24) []⟩, ⟨(some 58), none, .pick (T 56) (T 57) (.const (.bool false))⟩, ⟨(some 2), none, .mov (T 58)⟩]) .ret)))))))
end Go.Vm.St

namespace Go.Vm.St
open Go.Proofs Go.Vm.Vat
set_option linter.unusedSimpArgs false
set_option linter.unusedVariables false
set_option maxRecDepth 10000
variable {n : Nat} {h : AHeap}
/-! ### The truths of the reference are those of the program, in another order: as many of each kind -/
def noSm (S : MS) : MS := { S with ns := 0 }
theorem noSm_good {S : MS} (hG : Good S) : Good (noSm S) := ⟨⟨hG.lim.1, hG.lim.2.1, Nat.zero_le _⟩, ⟨hG.args.head, hG.args.warm, hG.args.vat, fun i hi => absurd hi (Nat.not_lt_zero _)⟩, hG.few⟩
open Classical in
theorem noSm_ref {S : MS} {x : Nat → Int} : x ∈ refTruths (noSm S) ↔ x ∈ (List.range (manyS S).toNat).map (nthU S) := by
  unfold refTruths refTo
  rw [List.mem_filter]
  constructor
  · exact fun q => q.1
  · exact fun q => ⟨q, decide_eq_true fun j hj => absurd hj (Nat.not_lt_zero _)⟩
open Classical in
theorem noSm_tru {S : MS} {x : Nat → Int} : x ∈ truthsS (noSm S) ↔ x ∈ enumB (uLo S) (uHi S) (numU S) 0 fun _ => 0 := by
  unfold truthsS
  rw [List.mem_filter]
  constructor
  · exact fun q => q.1
  · exact fun q => ⟨q, decide_eq_true fun j hj => absurd hj (Nat.not_lt_zero _)⟩
theorem all_perm {S : MS} (hG : Good S) : ((List.range (manyS S).toNat).map (nthU S)).Perm (enumB (uLo S) (uHi S) (numU S) 0 fun _ => 0) := by
  refine (perm_of_sub _ _ (enumB_nodup _ _ _) (fun x hx => ?_) ?_).symm
  · exact noSm_ref.1 ((refTruths_mem (noSm_good hG)).2 (noSm_tru.2 hx))
  · have h1 := enumB_len (lo := uLo S) (hi := uHi S) (numU S) 0 (fun _ => 0) fun k _ hk => (hG.u k (by omega)).2.1
    have h2 := sizeN_prod (lo := uLo S) (hi := uHi S) (numU S) 0
    simp only [Nat.zero_add, sizeN, Int.one_mul] at h2
    have h3 := many_size hG.args
    have h4 := hG.few
    rw [List.length_map, List.length_range]
    omega
open Classical in
theorem ref_perm {S : MS} (hG : Good S) : (refTruths S).Perm (truthsS S) := by
  unfold refTruths refTo truthsS
  exact (all_perm hG).filter _
/-- in how many truths a vat is of a kind after an hour -/
def cntS (S : MS) (v : Nat) (hh kk : Int) (L : List (Nat → Int)) : Nat := cntB (fun t => kindS S t v hh) L kk
theorem cntS_perm {S : MS} {v : Nat} {hh kk : Int} {L M : List (Nat → Int)} (hp : L.Perm M) : cntS S v hh kk L = cntS S v hh kk M := hp.countP_eq _
theorem cnt_take {α : Type} {p : α → Bool} {d : α} {L : List α} : ∀ k, k ≤ L.length → cntTo (fun i => p (L.getD i d) = true) k = (L.take k).countP p
  | 0, _ => rfl
  | k + 1, hk => by
    have ih := cnt_take (p := p) (d := d) (L := L) k (by omega)
    have hk' : k < L.length := by omega
    have e : L.getD k d = L[k] := by rw [List.getD_eq_getElem?_getD, List.getElem?_eq_getElem hk']; rfl
    rw [List.take_succ_eq_append_getElem hk', List.countP_append, ← ih, List.countP_cons, List.countP_nil]
    by_cases c : p L[k] = true
    · rw [cntTo_yes (by rw [e]; exact c), if_pos c]
    · rw [cntTo_no (by rw [e]; exact c), if_neg c]; rfl
theorem cntTo_cntS {S : MS} {v : Nat} {hh kk : Int} {L : List (Nat → Int)} : cntTo (fun i => kindS S (L.getD i fun _ => 0) v hh = kk) L.length = cntS S v hh kk L := by
  have := cnt_take (p := fun t => decide (kindS S t v hh = kk)) (d := fun _ => 0) (L := L) L.length (Nat.le_refl _)
  rw [List.take_length] at this
  simp only [decide_eq_true_eq] at this
  exact this
theorem sumK_cnt {S : MS} {v : Nat} {L : List (Nat → Int)} {hh kk : Int} (hG : Good S) (ho : HourOk S v hh) : ∀ k, sumK S v L ((v : Int), hh, kk) k = ((cntTo (fun i => kindS S (L.getD i fun _ => 0) v hh = kk) k : Nat) : Int)
  | 0 => rfl
  | k + 1 => by
    have ih := sumK_cnt hG ho (L := L) (kk := kk) k
    obtain ⟨m1, _⟩ := hoursN_ok hG ho.isV
    have hlo := ho.isLo
    have hhi := ho.isHi
    simp only [sumK, oneK]
    by_cases c : kindS S (L.getD k fun _ => 0) v hh = kk
    · rw [cntTo_yes c, ih, if_pos ⟨trivial, hlo, by show hh < _; omega, c.symm⟩]; rfl
    · rw [cntTo_no c, ih, if_neg fun q => c q.2.2.2.symm]; omega
theorem cntK_cntS {S : MS} {v : Nat} {L : List (Nat → Int)} {hh kk : Int} (hG : Good S) (ho : HourOk S v hh) : cntK S v L L.length 0 ((v : Int), hh, kk) = (cntS S v hh kk L : Int) := by
  rw [cntK_all, sumK_cnt hG ho, cntTo_cntS]
/-- what a smell leaves -/
def lvS (S : MS) (v : Nat) (hh : Int) (L : List (Nat → Int)) : Int := max (max (cntS S v hh 0 L : Int) (cntS S v hh 1 L)) (cntS S v hh 2 L)
theorem lvS_perm {S : MS} {v : Nat} {hh : Int} {L M : List (Nat → Int)} (hp : L.Perm M) : lvS S v hh L = lvS S v hh M := by
  unfold lvS
  rw [cntS_perm hp, cntS_perm hp, cntS_perm hp]
theorem lvS_bound {S : MS} {v : Nat} {hh : Int} {L : List (Nat → Int)} : 0 ≤ lvS S v hh L ∧ lvS S v hh L ≤ L.length := by
  have h0 := cntB_le (b := fun t => kindS S t v hh) (L := L) (x := 0)
  have h1 := cntB_le (b := fun t => kindS S t v hh) (L := L) (x := 1)
  have h2 := cntB_le (b := fun t => kindS S t v hh) (L := L) (x := 2)
  unfold lvS cntS
  omega
/-! ### The best smell -/
structure Sm where
  v : Int
  h : Int
  l : Int
def smStep (S : MS) (L : List (Nat → Int)) (v : Nat) (k : Nat) (st : Sm) : Sm := if lvS S v (S.vb v + (k : Int)) L < st.l then ⟨(v : Int), S.vb v + (k : Int), lvS S v (S.vb v + (k : Int)) L⟩ else st
def smHour (S : MS) (L : List (Nat → Int)) (v : Nat) (st : Sm) : Nat → Sm
  | 0 => st
  | k + 1 => smStep S L v k (smHour S L v st k)
def smVat (S : MS) (L : List (Nat → Int)) (st : Sm) : Nat → Sm
  | 0 => st
  | v + 1 => smHour S L v (smVat S L st v) (hoursN S v)
/-- what the program and the reference find -/
def smP (S : MS) (L : List (Nat → Int)) : Sm := smVat S L ⟨0, 0, (L.length : Int) + 1⟩ S.nv
def smR (S : MS) (L : List (Nat → Int)) : Sm := smVat S L ⟨0, S.vb 0, lvS S 0 (S.vb 0) L⟩ S.nv
theorem smHour_eq {S : MS} {L : List (Nat → Int)} : ∀ k, smHour S L 0 ⟨0, 0, (L.length : Int) + 1⟩ (k + 1) = smHour S L 0 ⟨0, S.vb 0, lvS S 0 (S.vb 0) L⟩ (k + 1)
  | 0 => by
    have hb := lvS_bound (S := S) (v := 0) (hh := S.vb 0) (L := L)
    show smStep _ _ _ _ (⟨0, 0, (L.length : Int) + 1⟩ : Sm) = smStep _ _ _ _ (⟨0, S.vb 0, lvS S 0 (S.vb 0) L⟩ : Sm)
    simp only [smStep, Int.natCast_zero, Int.add_zero]
    rw [if_pos (by omega), if_neg (by omega)]
  | k + 1 => by
    show smStep _ _ _ _ (smHour S L 0 _ (k + 1)) = smStep _ _ _ _ (smHour S L 0 _ (k + 1))
    rw [smHour_eq k]
theorem smVat_eq {S : MS} {L : List (Nat → Int)} (h0 : 1 ≤ hoursN S 0) : ∀ v, smVat S L ⟨0, 0, (L.length : Int) + 1⟩ (v + 1) = smVat S L ⟨0, S.vb 0, lvS S 0 (S.vb 0) L⟩ (v + 1)
  | 0 => by
    show smHour _ _ _ _ _ = smHour _ _ _ _ _
    obtain ⟨k, hk⟩ : ∃ k, hoursN S 0 = k + 1 := ⟨hoursN S 0 - 1, by omega⟩
    rw [hk]
    exact smHour_eq k
  | v + 1 => by
    show smHour _ _ _ (smVat S L _ (v + 1)) _ = smHour _ _ _ (smVat S L _ (v + 1)) _
    rw [smVat_eq h0 v]
theorem sm_eq {S : MS} {L : List (Nat → Int)} (h0 : 1 ≤ hoursN S 0) (hv : 0 < S.nv) : smP S L = smR S L := by
  unfold smP smR
  obtain ⟨k, hk⟩ : ∃ k, S.nv = k + 1 := ⟨S.nv - 1, by omega⟩
  rw [hk]
  exact smVat_eq h0 k
theorem smHour_perm {S : MS} {L M : List (Nat → Int)} (hp : L.Perm M) {v : Nat} {st : Sm} : ∀ k, smHour S L v st k = smHour S M v st k
  | 0 => rfl
  | k + 1 => by
    show smStep _ _ _ _ _ = smStep _ _ _ _ _
    rw [smHour_perm hp k]
    simp only [smStep, lvS_perm hp]
theorem smVat_perm {S : MS} {L M : List (Nat → Int)} (hp : L.Perm M) {st : Sm} : ∀ v, smVat S L st v = smVat S M st v
  | 0 => rfl
  | v + 1 => by
    show smHour _ _ _ _ _ = smHour _ _ _ _ _
    rw [smVat_perm hp v, smHour_perm hp]
theorem smR_perm {S : MS} {L M : List (Nat → Int)} (hp : L.Perm M) : smR S L = smR S M := by
  unfold smR
  rw [lvS_perm hp, smVat_perm hp]
theorem ret_tttt {a b c d : Nat} {f : Go.Vm.Fr} : resV f h [.tmp a, .tmp b, .tmp c, .tmp d] = some (.tuple ⟨[f a, f b, f c, f d]⟩) := id rfl
def s95 : SCode := (.seq (.ops [⟨(some 1), none, .box (T 0)⟩, ⟨(some 2), none, .mov (.const (.int .i64 (0)))⟩, ⟨(some 3), none, .mov (.const (.int .i64 (0)))⟩, ⟨(some 4), none, .mov (.const (.int .i64 (0)))⟩]) (.seq (.ops [⟨(some 11), none, .fieldAddr 7 (T 1)⟩, ⟨(some 12), none, .load1 (T 11)⟩, ⟨(some 13), none, .len (T 12)⟩, ⟨(some 14), none, .int2 .add (T 13) (.const (.int .i64 (1)))⟩, ⟨(some 4), none, .mov (T 14)⟩]) (.seq (.seq (.ops [⟨(some 15), none, .fieldAddr 0 (T 1)⟩, ⟨(some 16), none, .fieldAddr 5 (T 15)⟩, ⟨(some 17), none, .load1 (T 16)⟩, ⟨(some 18), none, .len (T 17)⟩, ⟨(some 19), none, .mov (.const (.int .i64 (0)))⟩]) (.block 0 (.loop (.seq (.ops [⟨(some 20), none, .int2 .lss (T 19) (T 18)⟩]) (.seq (.cond (T 20) .skip (.exit 0)) (.seq (.block 1 (.seq (.ops [⟨(some 21), none, .mov (T 19)⟩, ⟨(some 22), none, .idxSl 4 (T 17) (T 19)⟩, ⟨(some 23), none, .loadN 4 (T 22)⟩, ⟨(some 6), none, .alloc [(.int .i64 (0)), (.int .i64 (0)), (.int .i64 (0)), (.int .i64 (0))]⟩, ⟨(some 5), none, .mov (T 21)⟩, ⟨none, none, .store 4 (T 6) (T 23)⟩]) (.seq (.ops [⟨(some 24), none, .loadN 8 (T 1)⟩, ⟨(some 25), none, .mov (T 5)⟩, ⟨(some 26), none, .call (.func 91) [(T 24), (T 25)]⟩, ⟨(some 7), none, .mov (T 26)⟩]) (.seq (.ops [⟨(some 27), none, .loadN 8 (T 1)⟩, ⟨(some 28), none, .mov (T 5)⟩, ⟨(some 29), none, .call (.func 107) [(T 27), (T 28)]⟩, ⟨(some 30), none, .mov (.const (.int .i64 (0)))⟩]) (.block 2 (.loop (.seq (.ops [⟨(some 31), none, .int2 .lss (T 30) (T 29)⟩]) (.seq (.cond (T 31) .skip (.exit 2)) (.seq (.block 3 (.seq (.ops [⟨(some 32), none, .mov (T 30)⟩, ⟨(some 8), none, .mov (T 32)⟩]) (.seq (.ops [⟨(some 33), none, .fieldAddr 0 (T 6)⟩, ⟨(some 34), none, .load1 (T 33)⟩, ⟨(some 35), none, .mov (T 8)⟩, ⟨(some 36), none, .int2 .add (T 34) (T 35)⟩, ⟨(some 9), none, .mov (T 36)⟩]) (.seq (.draw [⟨.free, ⟨(some 37), none, .mov (T 7)⟩⟩, ⟨.free, ⟨(some 38), none, .mov (T 5)⟩⟩, ⟨.free, ⟨(some 39), none, .mov (T 9)⟩⟩, ⟨.free, ⟨(some 40), none, .build #[(0, 1), (1, 1), (2, 1)] [(.int .i64 (0)), (.int .i64 (0)), (.int .i64 (0))] [0, 1, 2] [(T 38), (T 39), (.const (.int .i64 (0)))]⟩⟩, ⟨.rd1, ⟨(some 41), none, .lookup 89 (.int .i64 (0)) false (T 37) (T 40)⟩⟩, ⟨.free, ⟨(some 42), none, .mov (T 7)⟩⟩, ⟨.free, ⟨(some 43), none, .mov (T 5)⟩⟩, ⟨.free, ⟨(some 44), none, .mov (T 9)⟩⟩, ⟨.free, ⟨(some 45), none, .build #[(0, 1), (1, 1), (2, 1)] [(.int .i64 (0)), (.int .i64 (0)), (.int .i64 (0))] [0, 1, 2] [(T 43), (T 44), (.const (.int .i64 (1)))]⟩⟩, ⟨.rd1, ⟨(some 46), none, .lookup 89 (.int .i64 (0)) false (T 42) (T 45)⟩⟩, ⟨.free, ⟨(some 47), none, .mov (T 7)⟩⟩, ⟨.free, ⟨(some 48), none, .mov (T 5)⟩⟩, ⟨.free, ⟨(some 49), none, .mov (T 9)⟩⟩, ⟨.free, ⟨(some 50), none, .build #[(0, 1), (1, 1), (2, 1)] [(.int .i64 (0)), (.int .i64 (0)), (.int .i64 (0))] [0, 1, 2] [(T 48), (T 49), (.const (.int .i64 (2)))]⟩⟩, ⟨.rd1, ⟨(some 51), none, .lookup 89 (.int .i64 (0)) false (T 47) (T 50)⟩⟩, ⟨.free, ⟨(some 52), none, .plain (.call { callee := .builtin .max, args := #[(T 41), (T 46), (T 51)], argTypes := #[3, 3, 3] }) 3⟩⟩, ⟨.free, ⟨(some 10), none, .mov (T 52)⟩⟩]) (.seq (.ops [⟨(some 53), none, .mov (T 10)⟩, ⟨(some 54), none, .mov (T 4)⟩, ⟨(some 55), none, .int2 .lss (T 53) (T 54)⟩]) (.cond (T 55) (.ops [⟨(some 56), none, .mov (T 5)⟩, ⟨(some 57), none, .mov (T 9)⟩, ⟨(some 58), none, .mov (T 10)⟩, ⟨(some 2), none, .mov (T 56)⟩, ⟨(some 3), none, .mov (T 57)⟩, ⟨(some 4), none, .mov (T 58)⟩]) .skip)))))) (.ops [⟨(some 59), none, .int2 .add (T 30) (.const (.int .i64 (1)))⟩, ⟨(some 30), none, .mov (T 59)⟩])))))))))) (.ops [⟨(some 60), none, .int2 .add (T 19) (.const (.int .i64 (1)))⟩, ⟨(some 19), none, .mov (T 60)⟩]))))))) (.seq (.ops [⟨(some 61), none, .mov (T 2)⟩, ⟨(some 62), none, .mov (T 3)⟩, ⟨(some 63), none, .mov (T 4)⟩, ⟨(some 2), none, .mov (T 61)⟩, ⟨(some 3), none, .mov (T 62)⟩, ⟨(some 4), none, .mov (T 63)⟩]) .ret))))
theorem fok95 : FnOk Try.prog 95 64 s95 [.tmp 2, .tmp 3, .tmp 4] := ⟨Try.f95, _, Try.func95, rfl, Try.ntmps95, by kernel_rfl, by kernel_rfl⟩
set_option maxHeartbeats 4000000 in
theorem bestSmell_c (hn : 2320 ≤ n) (hr : h.next + 1000000 < far) {wv vv sv tv : Value} {S : MS} (hy : SteepR h wv vv sv S) (ho1 : oneCell tv = true) (hG : Good S) {L : List (Nat → Int)} (hlen : L.length ≤ 2000) (hin : ∀ t, t ∈ L → InU S t) (htr : TruthsR h S tv L) :
    call n (.func (.func 95) #[] #[]) [.agg ⟨wkL S wv vv sv tv⟩] h = some (.tuple ⟨[.int .i64 (smP S L).v, .int .i64 (smP S L).h, .int .i64 (smP S L).l]⟩, h) := by
  obtain ⟨n, rfl⟩ : ∃ p, n = p + 1 := ⟨n - 1, by omega⟩
  refine call_plain0 fok95 rfl rfl (by simp) rfl ?_
  have hy := hy.shut
  have htr : TruthsR h.shutAll S tv L := Cells.shut htr
  have hr : h.shutAll.next + 1000000 < far := hr
  have hfl : h.shutAll.floor ≤ h.shutAll.next := Nat.le_refl _
  generalize h.shutAll = h at hy htr hr hfl
  obtain ⟨zl0, zl5, _, _, z4, _⟩ := hG.sizes
  simp only [s95, W_seq, W_ops]
  refine ops_box (cs := wkL S wv vv sv tv) (by omega) rfl (wk_one hy ho1) fun g1 hx1 => ?_
  have n1 := hx1.next
  have f1 := hx1.floor
  have hy1 := hy.mono hx1.sub
  have htr1 : TruthsR g1 S tv L := Cells.mono htr hx1.sub
  have hw1 : wrapF .i64 ((L.length : Int) + 1) = (L.length : Int) + 1 := wrap_in (by omega) (by omega)
  simp only [rn0, rn1, rn2, rn3, rn4, rn5, rn6, rn7, rn8, if_true, if_false, Nat.le_refl, true_and, and_true, decide_true, decide_false, Bool.not_true, Bool.not_false, reduceIte, Nat.reduceEqDiff, Nat.reduceAdd, Nat.reduceMul, Nat.reduceSub, Nat.reduceLeDiff, Nat.reduceLT, hx1.row.ld, wkg, Nat.zero_add, Nat.add_zero, Cells.len htr1, Cells.len hy1.v, hw1]
  refine W_loop S.nv (fun k f g ms => (Sub All g1 g ∧ g1.next ≤ g.next ∧ g.next ≤ g1.next + 100100 * k ∧ g.floor = g1.floor) ∧ ms = [] ∧ f 1 = .pointer (some ⟨h.next, 0, none⟩) ∧ f 2 = .int .i64 (smVat S L ⟨0, 0, (L.length : Int) + 1⟩ k).v ∧ f 3 = .int .i64 (smVat S L ⟨0, 0, (L.length : Int) + 1⟩ k).h ∧ f 4 = .int .i64 (smVat S L ⟨0, 0, (L.length : Int) + 1⟩ k).l ∧ f 17 = vv ∧ f 18 = .int .i64 (S.nv : Int) ∧ f 19 = .int .i64 (k : Int)) (by simp; omega) ?_ ?_ ?_
  · simp only [rn0, rn1, rn2, rn3, rn4, rn5, rn6, rn7, rn8, if_true, if_false, Nat.le_refl, true_and, and_true, decide_true, decide_false, Bool.not_true, Bool.not_false, reduceIte, Nat.reduceEqDiff, Nat.reduceAdd, Nat.reduceMul, Nat.reduceSub, Nat.reduceLeDiff, Nat.reduceLT, smVat]
    first | done | exact ⟨⟨by omega, rfl⟩, rfl⟩ | exact ⟨Nat.le_refl _, rfl⟩ | exact ⟨⟨Sub.refl, by omega, by omega, rfl⟩, rfl⟩ | trace_state
  · rintro k f g ms hk ⟨⟨sg, ug, mg, fg⟩, rfl, p1, p2, p3, p4, p17, p18, p19⟩
    have hk' : (k : Int) < (S.nv : Int) := by omega
    have hw : wrapF .i64 ((k : Int) + 1) = ((k + 1 : Nat) : Int) := by rw [wrap_in (by omega) (by omega)]; rfl
    have hyg := hy1.mono sg
    obtain ⟨mh1, mh2, mh3⟩ := hoursN_ok hG hk
    obtain ⟨⟨vb1, vb2⟩, _⟩ := hG.args.vat k hk
    simp only [rn0, rn1, rn2, rn3, rn4, rn5, rn6, rn7, rn8, if_true, if_false, Nat.le_refl, true_and, and_true, decide_true, decide_false, Bool.not_true, Bool.not_false, reduceIte, Nat.reduceEqDiff, Nat.reduceAdd, Nat.reduceMul, Nat.reduceSub, Nat.reduceLeDiff, Nat.reduceLT, p1, p2, p3, p4, p17, p18, p19, hk', Cells.idx hyg.v hk, vat_ld hyg hk]
    refine step_row (cs := [.int .i64 0, .int .i64 0, .int .i64 0, .int .i64 0]) (by omega) rfl rfl fun g2 hx2 => ?_
    have n2 := hx2.next
    have f2 := hx2.floor
    simp only [rn0, rn1, rn2, rn3, rn4, rn5, rn6, rn7, rn8, if_true, if_false, Nat.le_refl, true_and, and_true, decide_true, decide_false, Bool.not_true, Bool.not_false, reduceIte, Nat.reduceEqDiff, Nat.reduceAdd, Nat.reduceMul, Nat.reduceSub, Nat.reduceLeDiff, Nat.reduceLT, p1, p2, p3, p4, p17, p18, p19]
    refine step_store (b := g.next) (off := 0) (vs := [.int .i64 (S.vb k), .int .i64 (S.vlo k), .int .i64 (S.vhi k), .int .i64 (S.vn k)]) rfl hx2.get (by omega) (by omega) rfl rfl rfl (by simp) fun g3 hs3 => ?_
    rw [splice_all (by rfl)] at hs3
    have n3 := hs3.next
    have f3 := hs3.floor
    have sg3 : Sub All g g3 := AHeap.subOf fun i hi => by rw [hs3.old i (by omega), hx2.old i hi]
    have sub3 := sg.trans sg3
    have hy3 := hy1.mono sub3
    have r3 := hx1.row.mono sub3
    obtain ⟨r, g4, ek, hm4, hr4, sub4, u4, m4, f4⟩ := kindsOf_c (n := n) (h := g3) (by omega) (by omega) (by omega) hy3 ho1 hG hlen hin (Cells.mono htr1 sub3) hk
    have sub04 := sub3.trans sub4
    have hy4 := hy1.mono sub04
    have r4 := hx1.row.mono sub04
    have rv := hs3.row.mono sub4
    have eh := hoursOf_c (n := n) (h := g4) (by omega) (by omega) hy4 ho1 hG hk
    rw [← mh1] at eh
    simp only [rn0, rn1, rn2, rn3, rn4, rn5, rn6, rn7, rn8, if_true, if_false, Nat.le_refl, true_and, and_true, decide_true, decide_false, Bool.not_true, Bool.not_false, reduceIte, Nat.reduceEqDiff, Nat.reduceAdd, Nat.reduceMul, Nat.reduceSub, Nat.reduceLeDiff, Nat.reduceLT, p1, p2, p3, p4, p17, p18, p19, r3.whole (n := 8) rfl, ek, r4.whole (n := 8) rfl, eh]
    refine W_loop (hoursN S k) (fun j f g' ms => g' = g4 ∧ ms = [] ∧ f 1 = .pointer (some ⟨h.next, 0, none⟩) ∧ f 2 = .int .i64 (smHour S L k (smVat S L ⟨0, 0, (L.length : Int) + 1⟩ k) j).v ∧ f 3 = .int .i64 (smHour S L k (smVat S L ⟨0, 0, (L.length : Int) + 1⟩ k) j).h ∧ f 4 = .int .i64 (smHour S L k (smVat S L ⟨0, 0, (L.length : Int) + 1⟩ k) j).l ∧ f 5 = .int .i64 (k : Int) ∧ f 6 = .pointer (some ⟨g.next, 0, none⟩) ∧ f 7 = .map (some r) ∧ f 17 = vv ∧ f 18 = .int .i64 (S.nv : Int) ∧ f 19 = .int .i64 (k : Int) ∧ f 29 = .int .i64 (hoursN S k : Int) ∧ f 30 = .int .i64 (j : Int)) (by simp; omega) ?_ ?_ ?_
    · simp only [rn0, rn1, rn2, rn3, rn4, rn5, rn6, rn7, rn8, if_true, if_false, Nat.le_refl, true_and, and_true, decide_true, decide_false, Bool.not_true, Bool.not_false, reduceIte, Nat.reduceEqDiff, Nat.reduceAdd, Nat.reduceMul, Nat.reduceSub, Nat.reduceLeDiff, Nat.reduceLT, p1, p2, p3, p4, p17, p18, p19, smHour]
      first | done | trivial | exact ⟨rfl, rfl⟩ | trace_state
    · rintro j f g' ms hj ⟨rfl, rfl, p1, p2, p3, p4, p5, p6, p7, p17, p18, p19, p29, p30⟩
      have hj' : (j : Int) < (hoursN S k : Int) := by omega
      have hwj : wrapF .i64 ((j : Int) + 1) = ((j + 1 : Nat) : Int) := by rw [wrap_in (by omega) (by omega)]; rfl
      have hwb : wrapF .i64 (S.vb k + (j : Int)) = S.vb k + (j : Int) := wrap_in (by omega) (by omega)
      have ho := hour_at hG hk hj
      have el := fun kk => lookupF key89 hm4 ((k : Int), S.vb k + (j : Int), kk)
      have el : ∀ kk, lookupA Try.prog 89 (.int .i64 0) false g' (.map (some r)) (.agg ⟨[.int .i64 (k : Int), .int .i64 (S.vb k + (j : Int)), .int .i64 kk]⟩) = some (.int .i64 (cntS S k (S.vb k + (j : Int)) kk L : Int), g') := fun kk => by
        rw [← cntK_cntS hG ho]; exact el kk
      simp only [rn0, rn1, rn2, rn3, rn4, rn5, rn6, rn7, rn8, if_true, if_false, Nat.le_refl, true_and, and_true, decide_true, decide_false, Bool.not_true, Bool.not_false, reduceIte, Nat.reduceEqDiff, Nat.reduceAdd, Nat.reduceMul, Nat.reduceSub, Nat.reduceLeDiff, Nat.reduceLT, p1, p2, p3, p4, p5, p6, p7, p17, p18, p19, p29, p30, hj', rv.ld, Nat.zero_add, Nat.add_zero, List.getElem?_cons_zero, hwb]
      refine W_draw All ?_
      have hlv : max (max (cntS S k (S.vb k + (j : Int)) 0 L : Int) (cntS S k (S.vb k + (j : Int)) 1 L)) (cntS S k (S.vb k + (j : Int)) 2 L) = lvS S k (S.vb k + (j : Int)) L := rfl
      by_cases c : lvS S k (S.vb k + (j : Int)) L < (smHour S L k (smVat S L ⟨0, 0, (L.length : Int) + 1⟩ k) j).l
      · have es : smHour S L k (smVat S L ⟨0, 0, (L.length : Int) + 1⟩ k) (j + 1) = ⟨(k : Int), S.vb k + (j : Int), lvS S k (S.vb k + (j : Int)) L⟩ := if_pos c
        rw [es]
        simp only [rn0, rn1, rn2, rn3, rn4, rn5, rn6, rn7, rn8, if_true, if_false, Nat.le_refl, true_and, and_true, decide_true, decide_false, Bool.not_true, Bool.not_false, reduceIte, Nat.reduceEqDiff, Nat.reduceAdd, Nat.reduceMul, Nat.reduceSub, Nat.reduceLeDiff, Nat.reduceLT, p1, p2, p3, p4, p5, p6, p7, p17, p18, p19, p29, p30, build_sm, x_lookup, el, p_max3, r_max3, hlv, c, hwj]
      · have es : smHour S L k (smVat S L ⟨0, 0, (L.length : Int) + 1⟩ k) (j + 1) = smHour S L k (smVat S L ⟨0, 0, (L.length : Int) + 1⟩ k) j := if_neg c
        rw [es]
        simp only [rn0, rn1, rn2, rn3, rn4, rn5, rn6, rn7, rn8, if_true, if_false, Nat.le_refl, true_and, and_true, decide_true, decide_false, Bool.not_true, Bool.not_false, reduceIte, Nat.reduceEqDiff, Nat.reduceAdd, Nat.reduceMul, Nat.reduceSub, Nat.reduceLeDiff, Nat.reduceLT, p1, p2, p3, p4, p5, p6, p7, p17, p18, p19, p29, p30, build_sm, x_lookup, el, p_max3, r_max3, hlv, c, hwj]
    · rintro f g' ms ⟨rfl, rfl, p1, p2, p3, p4, p5, p6, p7, p17, p18, p19, p29, p30⟩
      have es : smVat S L ⟨0, 0, (L.length : Int) + 1⟩ (k + 1) = smHour S L k (smVat S L ⟨0, 0, (L.length : Int) + 1⟩ k) (hoursN S k) := rfl
      rw [es]
      simp only [rn0, rn1, rn2, rn3, rn4, rn5, rn6, rn7, rn8, if_true, if_false, Nat.le_refl, true_and, and_true, decide_true, decide_false, Bool.not_true, Bool.not_false, reduceIte, Nat.reduceEqDiff, Nat.reduceAdd, Nat.reduceMul, Nat.reduceSub, Nat.reduceLeDiff, Nat.reduceLT, p1, p2, p3, p4, p5, p6, p7, p17, p18, p19, p29, p30, Int.lt_irrefl, hw]
      have hmul : 100100 * (k + 1) = 100100 * k + 100100 := Nat.mul_succ _ _
      rw [hmul]
      clear hmul
      generalize 100100 * k = K at mg ⊢
      clear p1 p2 p3 p4 p5 p6 p7 p17 p18 p19 p29 p30
      refine ⟨sub04, by omega, ?_, by omega⟩
      have q1 : g3.next = g.next + 1 := by omega
      rw [q1] at m4
      generalize g'.next = a at m4 ⊢
      generalize g.next = b at m4 mg
      generalize g1.next = c at mg ⊢
      clear hr n1 n2 n3 u4
      exact Nat.le_trans m4 (Nat.le_trans (Nat.add_le_add_right (Nat.add_le_add_right mg 1) 100000) (by rw [show c + K + 1 + 100000 = c + K + (1 + 100000) from Nat.add_assoc _ _ _, Nat.add_assoc c K]; exact Nat.add_le_add_left (Nat.add_le_add_left (by decide) K) c))
  · rintro f g ms ⟨⟨sg, ug, mg, fg⟩, rfl, p1, p2, p3, p4, p17, p18, p19⟩
    simp only [rn0, rn1, rn2, rn3, rn4, rn5, rn6, rn7, rn8, if_true, if_false, Nat.le_refl, true_and, and_true, decide_true, decide_false, Bool.not_true, Bool.not_false, reduceIte, Nat.reduceEqDiff, Nat.reduceAdd, Nat.reduceMul, Nat.reduceSub, Nat.reduceLeDiff, Nat.reduceLT, p1, p2, p3, p4, p17, p18, p19, Int.lt_irrefl, ret_ttt]
    rfl
end Go.Vm.St

namespace Go.Vm.St
open Go.Proofs Go.Vm.Vat
set_option linter.unusedSimpArgs false
set_option linter.unusedVariables false
set_option maxRecDepth 10000
variable {n : Nat} {h : AHeap}
theorem ex40 {x y z w : Value} : extractA 0 (.tuple ⟨[x, y, z, w]⟩) h = some (x, h) := id rfl
theorem ex41 {x y z w : Value} : extractA 1 (.tuple ⟨[x, y, z, w]⟩) h = some (y, h) := id rfl
theorem ex42 {x y z w : Value} : extractA 2 (.tuple ⟨[x, y, z, w]⟩) h = some (z, h) := id rfl
theorem ex43 {x y z w : Value} : extractA 3 (.tuple ⟨[x, y, z, w]⟩) h = some (w, h) := id rfl
/-- what 'Ask' answers -/
noncomputable def askE (S : MS) : Int := if errT S = 0 then (if S.nv = 0 then 7 else 0) else errT S
noncomputable def askA (S : MS) : Sm := if errT S = 0 then (if S.nv = 0 then ⟨0, 0, 0⟩ else smP S (truthsS S)) else ⟨0, 0, 0⟩
theorem ask_err {S : MS} (he : errT S ≠ 0) : askE S = errT S ∧ askA S = ⟨0, 0, 0⟩ := ⟨if_neg he, if_neg he⟩
theorem ask_nil {S : MS} (he : errT S = 0) (hv : S.nv = 0) : askE S = 7 ∧ askA S = ⟨0, 0, 0⟩ := by
  unfold askE askA
  rw [if_pos he, if_pos hv, if_pos he, if_pos hv]
  exact ⟨rfl, rfl⟩
theorem ask_ok {S : MS} (he : errT S = 0) (hv : S.nv ≠ 0) : askE S = 0 ∧ askA S = smP S (truthsS S) := by
  unfold askE askA
  rw [if_pos he, if_neg hv, if_pos he, if_neg hv]
  exact ⟨rfl, rfl⟩
def s49 : SCode := (.seq (.ops [⟨(some 1), none, .box (T 0)⟩, ⟨(some 2), none, .mov (.const (.int .i64 (0)))⟩, ⟨(some 3), none, .mov (.const (.int .i64 (0)))⟩, ⟨(some 4), none, .mov (.const (.int .i64 (0)))⟩, ⟨(some 5), none, .mov (.const (.int .i64 (0)))⟩]) (.seq (.ops [⟨(some 8), none, .loadN 7 (T 1)⟩, ⟨(some 9), none, .call (.func 94) [(T 8)]⟩, ⟨(some 7), none, .mov (T 9)⟩, ⟨(some 10), none, .extract 0 (T 7)⟩, ⟨(some 11), none, .extract 1 (T 7)⟩, ⟨(some 6), none, .alloc [(.int .i64 (0)), (.int .i64 (0)), (.slice none 0 0), (.int .i64 (0)), (.int .i64 (0)), (.slice none 0 0), (.slice none 0 0), (.slice none 0 0)]⟩, ⟨none, none, .store 8 (T 6) (T 10)⟩, ⟨(some 5), none, .mov (T 11)⟩]) (.seq (.seq (.ops [⟨(some 12), none, .mov (T 5)⟩, ⟨(some 13), none, .int2 .neq (T 12) (.const (.int .i64 (0)))⟩]) (.cond (T 13) (.seq (.ops [⟨(some 14), none, .mov (T 5)⟩, ⟨(some 2), none, .mov (.const (.int .i64 (0)))⟩, ⟨(some 3), none, .mov (.const (.int .i64 (0)))⟩, ⟨(some 4), none, .mov (.const (.int .i64 (0)))⟩, ⟨(some 5), none, .mov (T 14)⟩]) .ret) .skip)) (.seq (.seq (.ops [⟨(some 15), none, .fieldAddr 0 (T 6)⟩, ⟨(some 16), none, .fieldAddr 5 (T 15)⟩, ⟨(some 17), none, .load1 (T 16)⟩, ⟨(some 18), none, .len (T 17)⟩, ⟨(some 19), none, .int2 .eql (T 18) (.const (.int .i64 (0)))⟩]) (.cond (T 19) (.seq (.ops [⟨(some 2), none, .mov (.const (.int .i64 (0)))⟩, ⟨(some 3), none, .mov (.const (.int .i64 (0)))⟩, ⟨(some 4), none, .mov (.const (.int .i64 (0)))⟩, ⟨(some 5), none, .mov (.const (.int .i64 (7)))⟩]) .ret) .skip)) (.seq (.ops [⟨(some 21), none, .loadN 8 (T 6)⟩, ⟨(some 22), none, .call (.func 95) [(T 21)]⟩, ⟨(some 20), none, .mov (T 22)⟩, ⟨(some 23), none, .extract 0 (T 20)⟩, ⟨(some 24), none, .extract 1 (T 20)⟩, ⟨(some 25), none, .extract 2 (T 20)⟩, ⟨(some 2), none, .mov (T 23)⟩, ⟨(some 3), none, .mov (T 24)⟩, ⟨(some 4), none, .mov (T 25)⟩]) (.seq (.ops [⟨(some 26), none, .mov (T 2)⟩, ⟨(some 27), none, .mov (T 3)⟩, ⟨(some 28), none, .mov (T 4)⟩, ⟨(some 2), none, .mov (T 26)⟩, ⟨(some 3), none, .mov (T 27)⟩, ⟨(some 4), none, .mov (T 28)⟩, ⟨(some 5), none, .mov (.const (.int .i64 (0)))⟩]) .ret))))))
theorem fok49 : FnOk Try.prog 49 29 s49 [.tmp 2, .tmp 3, .tmp 4, .tmp 5] := ⟨Try.f49, _, Try.func49, rfl, Try.ntmps49, by kernel_rfl, by kernel_rfl⟩
set_option maxHeartbeats 1000000 in
theorem askP_c (hn : 2500 ≤ n) (hr : h.next + 2000000 < far) {wv vv sv : Value} {S : MS} (hy : SteepR h wv vv sv S) (hT : ThinS S) :
    call n (.func (.func 49) #[] #[]) [.agg ⟨stL S wv vv sv⟩] h = some (.tuple ⟨[.int .i64 (askA S).v, .int .i64 (askA S).h, .int .i64 (askA S).l, .int .i64 (askE S)]⟩, h) := by
  obtain ⟨n, rfl⟩ : ∃ p, n = p + 1 := ⟨n - 1, by omega⟩
  refine call_plain0 fok49 rfl rfl (by simp) rfl ?_
  have hy := hy.shut
  have hr : h.shutAll.next + 2000000 < far := hr
  have hfl : h.shutAll.floor ≤ h.shutAll.next := Nat.le_refl _
  generalize h.shutAll = h at hy hr hfl
  simp only [s49, W_seq, W_ops]
  refine ops_box (cs := stL S wv vv sv) (by omega) rfl hy.one fun g1 hx1 => ?_
  have n1 := hx1.next
  have f1 := hx1.floor
  have w1 := hx1.row.whole (n := 7) rfl
  obtain ⟨pv, g3, eo, o3, u3, m3, f3, hp⟩ := openTrue_c (n := n) (h := g1) (by omega) (by omega) (by omega) (hy.mono hx1.sub) hT
  have sub3 : Sub All h g3 := hx1.sub.trans (AHeap.subOf o3)
  have z110 : ¬ (11 : Int) = 0 := by decide
  rcases hp with ⟨hf, rfl⟩ | ⟨hf, hz, rfl⟩ | ⟨hf, hz, tv, rfl, hone, htr, hlong⟩
  · have e0 : errT S = faultS S := errT_1 hf
    obtain ⟨q1, q2⟩ := ask_err (S := S) (by rw [e0]; exact hf)
    rw [q1, q2, e0]
    simp only [rn0, rn1, rn2, rn3, rn4, rn5, rn6, rn7, rn8, if_true, if_false, Nat.le_refl, true_and, and_true, decide_true, decide_false, Bool.not_true, Bool.not_false, reduceIte, Nat.reduceEqDiff, Nat.reduceAdd, Nat.reduceMul, Nat.reduceSub, Nat.reduceLeDiff, Nat.reduceLT, w1, eo, ex0, ex1]
    refine step_new (vs := wk0) (by omega) (by omega) rfl (by simp only [rn0, rn1, rn2, rn3, rn4, rn5, rn6, rn7, rn8, if_true, if_false, Nat.le_refl, true_and, and_true, decide_true, decide_false, Bool.not_true, Bool.not_false, reduceIte, Nat.reduceEqDiff, Nat.reduceAdd, Nat.reduceMul, Nat.reduceSub, Nat.reduceLeDiff, Nat.reduceLT]; rfl) rfl rfl rfl fun g4 hx4 => ?_
    simp only [rn0, rn1, rn2, rn3, rn4, rn5, rn6, rn7, rn8, if_true, if_false, Nat.le_refl, true_and, and_true, decide_true, decide_false, Bool.not_true, Bool.not_false, reduceIte, Nat.reduceEqDiff, Nat.reduceAdd, Nat.reduceMul, Nat.reduceSub, Nat.reduceLeDiff, Nat.reduceLT, hf, ret_tttt]
  · have e0 : errT S = 11 := errT_2 hf hz
    obtain ⟨q1, q2⟩ := ask_err (S := S) (by rw [e0]; exact z110)
    rw [q1, q2, e0]
    simp only [rn0, rn1, rn2, rn3, rn4, rn5, rn6, rn7, rn8, if_true, if_false, Nat.le_refl, true_and, and_true, decide_true, decide_false, Bool.not_true, Bool.not_false, reduceIte, Nat.reduceEqDiff, Nat.reduceAdd, Nat.reduceMul, Nat.reduceSub, Nat.reduceLeDiff, Nat.reduceLT, w1, eo, ex0, ex1]
    refine step_new (vs := wk0) (by omega) (by omega) rfl (by simp only [rn0, rn1, rn2, rn3, rn4, rn5, rn6, rn7, rn8, if_true, if_false, Nat.le_refl, true_and, and_true, decide_true, decide_false, Bool.not_true, Bool.not_false, reduceIte, Nat.reduceEqDiff, Nat.reduceAdd, Nat.reduceMul, Nat.reduceSub, Nat.reduceLeDiff, Nat.reduceLT]; rfl) rfl rfl rfl fun g4 hx4 => ?_
    simp only [rn0, rn1, rn2, rn3, rn4, rn5, rn6, rn7, rn8, if_true, if_false, Nat.le_refl, true_and, and_true, decide_true, decide_false, Bool.not_true, Bool.not_false, reduceIte, Nat.reduceEqDiff, Nat.reduceAdd, Nat.reduceMul, Nat.reduceSub, Nat.reduceLeDiff, Nat.reduceLT, z110, ret_tttt]
  · have hG := good_of hf
    have e0 : errT S = 0 := errT_3 hf hz
    have how := wk_one hy (tv := tv) hone
    simp only [rn0, rn1, rn2, rn3, rn4, rn5, rn6, rn7, rn8, if_true, if_false, Nat.le_refl, true_and, and_true, decide_true, decide_false, Bool.not_true, Bool.not_false, reduceIte, Nat.reduceEqDiff, Nat.reduceAdd, Nat.reduceMul, Nat.reduceSub, Nat.reduceLeDiff, Nat.reduceLT, w1, eo, ex0, ex1]
    refine step_new (vs := wkL S wv vv sv tv) (by omega) (by omega) rfl (by simp only [rn0, rn1, rn2, rn3, rn4, rn5, rn6, rn7, rn8, if_true, if_false, Nat.le_refl, true_and, and_true, decide_true, decide_false, Bool.not_true, Bool.not_false, reduceIte, Nat.reduceEqDiff, Nat.reduceAdd, Nat.reduceMul, Nat.reduceSub, Nat.reduceLeDiff, Nat.reduceLT]; rfl) how rfl rfl fun g4 hx4 => ?_
    have n4 := hx4.next
    have f4 := hx4.floor
    have sub4 := sub3.trans hx4.sub
    have htr4 : TruthsR g4 S tv (truthsS S) := Cells.mono htr hx4.sub
    have hy4 := hy.mono sub4
    by_cases hv : S.nv = 0
    · obtain ⟨q1, q2⟩ := ask_nil e0 hv
      have hv0 : (S.nv : Int) = 0 := by omega
      rw [q1, q2]
      simp only [rn0, rn1, rn2, rn3, rn4, rn5, rn6, rn7, rn8, if_true, if_false, Nat.le_refl, true_and, and_true, decide_true, decide_false, Bool.not_true, Bool.not_false, reduceIte, Nat.reduceEqDiff, Nat.reduceAdd, Nat.reduceMul, Nat.reduceSub, Nat.reduceLeDiff, Nat.reduceLT, hx4.row.ld, wkg, Nat.zero_add, Nat.add_zero, Cells.len hy4.v, hv0, ret_tttt]
    · obtain ⟨q1, q2⟩ := ask_ok e0 hv
      have hv0 : ¬ (S.nv : Int) = 0 := by omega
      have eb := bestSmell_c (n := n) (h := g4) (by omega) (by omega) hy4 hone hG (truths_len hG) (fun t ht => (truths_mem.1 ht).1.1) htr4
      rw [q1, q2]
      simp only [rn0, rn1, rn2, rn3, rn4, rn5, rn6, rn7, rn8, if_true, if_false, Nat.le_refl, true_and, and_true, decide_true, decide_false, Bool.not_true, Bool.not_false, reduceIte, Nat.reduceEqDiff, Nat.reduceAdd, Nat.reduceMul, Nat.reduceSub, Nat.reduceLeDiff, Nat.reduceLT, hx4.row.ld, hx4.row.whole (n := 8) rfl, wkg, Nat.zero_add, Nat.add_zero, Cells.len hy4.v, hv0, eb, ex30, ex31, ex32, x_extract, ret_tttt]
/-! ### The reference -/
def s69 : SCode := (.seq (.ops [⟨(some 4), none, .box (T 0)⟩, ⟨(some 8), none, .mov (.const (.int .i64 (0)))⟩]) (.seq (.draw [⟨.rd1, ⟨(some 9), none, .loadN 7 (T 4)⟩⟩, ⟨.free, ⟨(some 10), none, .mov (T 1)⟩⟩, ⟨.free, ⟨(some 11), none, .mov (T 2)⟩⟩, ⟨.free, ⟨(some 12), none, .mov (T 3)⟩⟩, ⟨.up, ⟨(some 13), none, .call (.func 92) [(T 9), (T 10), (T 11), (T 12), (.const (.int .i64 (0)))]⟩⟩, ⟨.rd, ⟨(some 14), none, .loadN 7 (T 4)⟩⟩, ⟨.free, ⟨(some 15), none, .mov (T 1)⟩⟩, ⟨.free, ⟨(some 16), none, .mov (T 2)⟩⟩, ⟨.free, ⟨(some 17), none, .mov (T 3)⟩⟩, ⟨.up, ⟨(some 18), none, .call (.func 92) [(T 14), (T 15), (T 16), (T 17), (.const (.int .i64 (1)))]⟩⟩, ⟨.rd, ⟨(some 19), none, .loadN 7 (T 4)⟩⟩, ⟨.free, ⟨(some 20), none, .mov (T 1)⟩⟩, ⟨.free, ⟨(some 21), none, .mov (T 2)⟩⟩, ⟨.free, ⟨(some 22), none, .mov (T 3)⟩⟩, ⟨.any, ⟨(some 23), none, .call (.func 92) [(T 19), (T 20), (T 21), (T 22), (.const (.int .i64 (2)))]⟩⟩, ⟨.free, ⟨(some 24), none, .plain (.call { callee := .builtin .max, args := #[(T 13), (T 18), (T 23)], argTypes := #[3, 3, 3] }) 3⟩⟩, ⟨.free, ⟨(some 8), none, .mov (T 24)⟩⟩]) .ret))
theorem fok69 : FnOk Try.prog 69 25 s69 [.tmp 8] := ⟨Try.f69, _, Try.func69, rfl, Try.ntmps69, by kernel_rfl, by kernel_rfl⟩
theorem leavesRef_c (hn : 2210 ≤ n) (hr : h.next + 200 < far) {wv vv sv l : Value} {S : MS} (hy : SteepR h wv vv sv S) (hG : Good S) {L : List (Nat → Int)} (ht : TruthsL h l S L) (hlen : L.length ≤ 2000) (hin : ∀ t, t ∈ L → InU S t) {v : Nat} {hh : Int} (ho : HourOk S v hh) :
    call n (.func (.func 69) #[] #[]) [.agg ⟨stL S wv vv sv⟩, l, .int .i64 (v : Int), .int .i64 hh] h = some (.int .i64 (lvS S v hh L), h) := by
  obtain ⟨n, rfl⟩ : ∃ p, n = p + 1 := ⟨n - 1, by omega⟩
  refine call_plain0 fok69 rfl rfl (by simp) rfl ?_
  have hy := hy.shut
  obtain ⟨R1, R2, hc, hq⟩ := ht
  have hc := hc.mono (g := h.shutAll) fun _ _ _ _ _ h => h
  have hq := fun k hk => (hq k hk).mono (g := h.shutAll) fun _ _ _ _ _ h => h
  have hr : h.shutAll.next + 200 < far := hr
  generalize h.shutAll = h at hy hc hq hr
  simp only [s69, W_seq, W_ops]
  refine ops_box (cs := stL S wv vv sv) (by omega) rfl hy.one fun g1 hx1 => ?_
  have n1 := hx1.next
  have hy1 := hy.mono hx1.sub
  have ek := fun kk => kindsRef_c (n := n) (h := g1) (by omega) (by omega) hy1 hG ⟨R1, R2, hc.mono hx1.sub, fun k hk => (hq k hk).mono hx1.sub⟩ hlen hin ho kk
  simp only [cntTo_cntS] at ek
  have hlv : max (max (cntS S v hh 0 L : Int) (cntS S v hh 1 L)) (cntS S v hh 2 L) = lvS S v hh L := rfl
  simp only [rn0, rn1, rn2, rn3, rn4, rn5, rn6, rn7, rn8, if_true, if_false, Nat.le_refl, true_and, and_true, decide_true, decide_false, Bool.not_true, Bool.not_false, reduceIte, Nat.reduceEqDiff, Nat.reduceAdd, Nat.reduceMul, Nat.reduceSub, Nat.reduceLeDiff, Nat.reduceLT]
  refine W_draw All ?_
  simp only [rn0, rn1, rn2, rn3, rn4, rn5, rn6, rn7, rn8, if_true, if_false, Nat.le_refl, true_and, and_true, decide_true, decide_false, Bool.not_true, Bool.not_false, reduceIte, Nat.reduceEqDiff, Nat.reduceAdd, Nat.reduceMul, Nat.reduceSub, Nat.reduceLeDiff, Nat.reduceLT, hx1.row.whole (n := 7) rfl, hy1.self, ek, p_max3, r_max3, hlv]
def s50 : SCode := (.seq (.ops [⟨(some 2), none, .box (T 0)⟩, ⟨(some 4), none, .mov (.const (.int .i64 (0)))⟩, ⟨(some 5), none, .mov (.const (.int .i64 (0)))⟩, ⟨(some 6), none, .mov (.const (.int .i64 (0)))⟩]) (.seq (.draw [⟨.free, ⟨(some 13), none, .fieldAddr 5 (T 2)⟩⟩, ⟨.rd1, ⟨(some 14), none, .load1 (T 13)⟩⟩, ⟨.free, ⟨(some 15), none, .idxSl 4 (T 14) (.const (.int .i64 (0)))⟩⟩, ⟨.free, ⟨(some 16), none, .fieldAddr 0 (T 15)⟩⟩, ⟨.rd1, ⟨(some 17), none, .load1 (T 16)⟩⟩, ⟨.free, ⟨(some 7), none, .mov (.const (.int .i64 (0)))⟩⟩, ⟨.free, ⟨(some 8), none, .mov (T 17)⟩⟩]) (.seq (.ops [⟨(some 18), none, .loadN 7 (T 2)⟩, ⟨(some 19), none, .mov (T 1)⟩, ⟨(some 20), none, .mov (T 7)⟩, ⟨(some 21), none, .mov (T 8)⟩, ⟨(some 22), none, .call (.func 69) [(T 18), (T 19), (T 20), (T 21)]⟩, ⟨(some 9), none, .mov (T 22)⟩]) (.seq (.seq (.ops [⟨(some 10), none, .mov (.const (.int .i64 (0)))⟩]) (.block 0 (.loop (.seq (.seq (.ops [⟨(some 23), none, .mov (T 10)⟩, ⟨(some 24), none, .fieldAddr 5 (T 2)⟩, ⟨(some 25), none, .load1 (T 24)⟩, ⟨(some 26), none, .len (T 25)⟩, ⟨(some 27), none, .int2 .lss (T 23) (T 26)⟩]) (.cond (T 27) .skip (.exit 0))) (.seq (.block 1 (.seq (.ops [⟨(some 30), none, .fieldAddr 5 (T 2)⟩, ⟨(some 31), none, .load1 (T 30)⟩, ⟨(some 32), none, .mov (T 10)⟩, ⟨(some 33), none, .idxSl 4 (T 31) (T 32)⟩, ⟨(some 34), none, .fieldAddr 0 (T 33)⟩, ⟨(some 35), none, .load1 (T 34)⟩, ⟨(some 11), none, .mov (T 35)⟩]) (.block 2 (.loop (.seq (.seq (.ops [⟨(some 36), none, .mov (T 11)⟩, ⟨(some 37), none, .fieldAddr 0 (T 2)⟩, ⟨(some 38), none, .load1 (T 37)⟩, ⟨(some 39), none, .int2 .leq (T 36) (T 38)⟩]) (.cond (T 39) .skip (.exit 2))) (.seq (.block 3 (.seq (.ops [⟨(some 42), none, .loadN 7 (T 2)⟩, ⟨(some 43), none, .mov (T 1)⟩, ⟨(some 44), none, .mov (T 10)⟩, ⟨(some 45), none, .mov (T 11)⟩, ⟨(some 46), none, .call (.func 69) [(T 42), (T 43), (T 44), (T 45)]⟩, ⟨(some 12), none, .mov (T 46)⟩]) (.seq (.ops [⟨(some 47), none, .mov (T 12)⟩, ⟨(some 48), none, .mov (T 9)⟩, ⟨(some 49), none, .int2 .lss (T 47) (T 48)⟩]) (.cond (T 49) (.ops [⟨(some 50), none, .mov (T 10)⟩, ⟨(some 51), none, .mov (T 11)⟩, ⟨(some 52), none, .mov (T 12)⟩, ⟨(some 7), none, .mov (T 50)⟩, ⟨(some 8), none, .mov (T 51)⟩, ⟨(some 9), none, .mov (T 52)⟩]) .skip)))) (.ops [⟨(some 40), none, .mov (T 11)⟩, ⟨(some 41), none, .int2 .add (T 40) (.const (.int .i64 (1)))⟩, ⟨(some 11), none, .mov (T 41)⟩]))))))) (.ops [⟨(some 28), none, .mov (T 10)⟩, ⟨(some 29), none, .int2 .add (T 28) (.const (.int .i64 (1)))⟩, ⟨(some 10), none, .mov (T 29)⟩])))))) (.seq (.ops [⟨(some 53), none, .mov (T 7)⟩, ⟨(some 54), none, .mov (T 8)⟩, ⟨(some 55), none, .mov (T 9)⟩, ⟨(some 4), none, .mov (T 53)⟩, ⟨(some 5), none, .mov (T 54)⟩, ⟨(some 6), none, .mov (T 55)⟩]) .ret)))))
theorem fok50 : FnOk Try.prog 50 56 s50 [.tmp 4, .tmp 5, .tmp 6] := ⟨Try.f50, _, Try.func50, rfl, Try.ntmps50, by kernel_rfl, by kernel_rfl⟩
set_option maxHeartbeats 2000000 in
theorem askRef_c (hn : 2220 ≤ n) (hr : h.next + 1000 < far) {wv vv sv l : Value} {S : MS} (hy : SteepR h wv vv sv S) (hG : Good S) (hv0 : 0 < S.nv) {L : List (Nat → Int)} (ht : TruthsL h l S L) (hlen : L.length ≤ 2000) (hin : ∀ t, t ∈ L → InU S t) :
    call n (.func (.func 50) #[] #[]) [.agg ⟨stL S wv vv sv⟩, l] h = some (.tuple ⟨[.int .i64 (smR S L).v, .int .i64 (smR S L).h, .int .i64 (smR S L).l]⟩, h) := by
  obtain ⟨n, rfl⟩ : ∃ p, n = p + 1 := ⟨n - 1, by omega⟩
  refine call_plain0 fok50 rfl rfl (by simp) rfl ?_
  have hy := hy.shut
  obtain ⟨R1, R2, hc, hq⟩ := ht
  have hc := hc.mono (g := h.shutAll) fun _ _ _ _ _ h => h
  have hq := fun k hk => (hq k hk).mono (g := h.shutAll) fun _ _ _ _ _ h => h
  have hr : h.shutAll.next + 1000 < far := hr
  generalize h.shutAll = h at hy hc hq hr
  obtain ⟨zl0, zl5, _, _, z4, _⟩ := hG.sizes
  simp only [s50, W_seq, W_ops]
  refine ops_box (cs := stL S wv vv sv) (by omega) rfl hy.one fun g1 hx1 => ?_
  have n1 := hx1.next
  have hy1 := hy.mono hx1.sub
  have r1 := hx1.row
  have el := fun {v : Nat} {hh : Int} (ho : HourOk S v hh) => leavesRef_c (n := n) (h := g1) (by omega) (by omega) hy1 hG ⟨R1, R2, hc.mono hx1.sub, fun k hk => (hq k hk).mono hx1.sub⟩ hlen hin ho
  have i0 : indexSl 4 vv (.int .i64 0) = some (ptrO vv 4 0 0) := Cells.idx hy1.v hv0
  have ob := hour_at hG hv0 (i := 0) (by have := hoursN_ok hG hv0; omega)
  simp only [Int.natCast_zero, Int.add_zero] at ob
  have e00 := el ob
  rw [Int.natCast_zero] at e00
  simp only [rn0, rn1, rn2, rn3, rn4, rn5, rn6, rn7, rn8, if_true, if_false, Nat.le_refl, true_and, and_true, decide_true, decide_false, Bool.not_true, Bool.not_false, reduceIte, Nat.reduceEqDiff, Nat.reduceAdd, Nat.reduceMul, Nat.reduceSub, Nat.reduceLeDiff, Nat.reduceLT]
  refine W_draw All ?_
  simp only [rn0, rn1, rn2, rn3, rn4, rn5, rn6, rn7, rn8, if_true, if_false, Nat.le_refl, true_and, and_true, decide_true, decide_false, Bool.not_true, Bool.not_false, reduceIte, Nat.reduceEqDiff, Nat.reduceAdd, Nat.reduceMul, Nat.reduceSub, Nat.reduceLeDiff, Nat.reduceLT, r1.ld, stg, Nat.zero_add, Nat.add_zero, i0, Cells.fld hy1.v hv0, begin_ld hy1 hv0, r1.whole (n := 7) rfl, e00]
  refine W_loop S.nv (fun k f g ms => g = g1 ∧ ms = [] ∧ f 1 = l ∧ f 2 = .pointer (some ⟨h.next, 0, none⟩) ∧ f 7 = .int .i64 (smVat S L ⟨0, S.vb 0, lvS S 0 (S.vb 0) L⟩ k).v ∧ f 8 = .int .i64 (smVat S L ⟨0, S.vb 0, lvS S 0 (S.vb 0) L⟩ k).h ∧ f 9 = .int .i64 (smVat S L ⟨0, S.vb 0, lvS S 0 (S.vb 0) L⟩ k).l ∧ f 10 = .int .i64 (k : Int)) (by simp; omega) ?_ ?_ ?_
  · simp only [rn0, rn1, rn2, rn3, rn4, rn5, rn6, rn7, rn8, if_true, if_false, Nat.le_refl, true_and, and_true, decide_true, decide_false, Bool.not_true, Bool.not_false, reduceIte, Nat.reduceEqDiff, Nat.reduceAdd, Nat.reduceMul, Nat.reduceSub, Nat.reduceLeDiff, Nat.reduceLT, smVat]
    first | done | trivial | exact ⟨rfl, rfl⟩ | trace_state
  · rintro k f g ms hk ⟨rfl, rfl, p1, p2, p7, p8, p9, p10⟩
    have hk' : (k : Int) < (S.nv : Int) := by omega
    have hw : wrapF .i64 ((k : Int) + 1) = ((k + 1 : Nat) : Int) := by rw [wrap_in (by omega) (by omega)]; rfl
    obtain ⟨mh1, mh2, mh3⟩ := hoursN_ok hG hk
    obtain ⟨⟨vb1, vb2⟩, _⟩ := hG.args.vat k hk
    simp only [rn0, rn1, rn2, rn3, rn4, rn5, rn6, rn7, rn8, if_true, if_false, Nat.le_refl, true_and, and_true, decide_true, decide_false, Bool.not_true, Bool.not_false, reduceIte, Nat.reduceEqDiff, Nat.reduceAdd, Nat.reduceMul, Nat.reduceSub, Nat.reduceLeDiff, Nat.reduceLT, p1, p2, p7, p8, p9, p10, r1.ld, stg, Nat.zero_add, Nat.add_zero, Cells.len hy1.v, hk', Cells.idx hy1.v hk, Cells.fld hy1.v hk, begin_ld hy1 hk]
    refine W_loop (hoursN S k) (fun j f g' ms => g' = g ∧ ms = [] ∧ f 1 = l ∧ f 2 = .pointer (some ⟨h.next, 0, none⟩) ∧ f 7 = .int .i64 (smHour S L k (smVat S L ⟨0, S.vb 0, lvS S 0 (S.vb 0) L⟩ k) j).v ∧ f 8 = .int .i64 (smHour S L k (smVat S L ⟨0, S.vb 0, lvS S 0 (S.vb 0) L⟩ k) j).h ∧ f 9 = .int .i64 (smHour S L k (smVat S L ⟨0, S.vb 0, lvS S 0 (S.vb 0) L⟩ k) j).l ∧ f 10 = .int .i64 (k : Int) ∧ f 11 = .int .i64 (S.vb k + (j : Int))) (by simp; omega) ?_ ?_ ?_
    · simp only [rn0, rn1, rn2, rn3, rn4, rn5, rn6, rn7, rn8, if_true, if_false, Nat.le_refl, true_and, and_true, decide_true, decide_false, Bool.not_true, Bool.not_false, reduceIte, Nat.reduceEqDiff, Nat.reduceAdd, Nat.reduceMul, Nat.reduceSub, Nat.reduceLeDiff, Nat.reduceLT, p1, p2, p7, p8, p9, p10, smHour, Int.natCast_zero, Int.add_zero]
      first | done | trivial | exact ⟨rfl, rfl⟩ | trace_state
    · rintro j f g' ms hj ⟨rfl, rfl, p1, p2, p7, p8, p9, p10, p11⟩
      have hj' : S.vb k + (j : Int) ≤ S.last := by omega
      have hwj : wrapF .i64 (S.vb k + (j : Int) + 1) = S.vb k + ((j + 1 : Nat) : Int) := by rw [wrap_in (by omega) (by omega)]; omega
      have ej := el (hour_at hG hk hj)
      by_cases c : lvS S k (S.vb k + (j : Int)) L < (smHour S L k (smVat S L ⟨0, S.vb 0, lvS S 0 (S.vb 0) L⟩ k) j).l
      · have es : smHour S L k (smVat S L ⟨0, S.vb 0, lvS S 0 (S.vb 0) L⟩ k) (j + 1) = ⟨(k : Int), S.vb k + (j : Int), lvS S k (S.vb k + (j : Int)) L⟩ := if_pos c
        rw [es]
        simp only [rn0, rn1, rn2, rn3, rn4, rn5, rn6, rn7, rn8, if_true, if_false, Nat.le_refl, true_and, and_true, decide_true, decide_false, Bool.not_true, Bool.not_false, reduceIte, Nat.reduceEqDiff, Nat.reduceAdd, Nat.reduceMul, Nat.reduceSub, Nat.reduceLeDiff, Nat.reduceLT, p1, p2, p7, p8, p9, p10, p11, r1.ld, stg, Nat.zero_add, Nat.add_zero, hj', r1.whole (n := 7) rfl, ej, c, hwj]
      · have es : smHour S L k (smVat S L ⟨0, S.vb 0, lvS S 0 (S.vb 0) L⟩ k) (j + 1) = smHour S L k (smVat S L ⟨0, S.vb 0, lvS S 0 (S.vb 0) L⟩ k) j := if_neg c
        rw [es]
        simp only [rn0, rn1, rn2, rn3, rn4, rn5, rn6, rn7, rn8, if_true, if_false, Nat.le_refl, true_and, and_true, decide_true, decide_false, Bool.not_true, Bool.not_false, reduceIte, Nat.reduceEqDiff, Nat.reduceAdd, Nat.reduceMul, Nat.reduceSub, Nat.reduceLeDiff, Nat.reduceLT, p1, p2, p7, p8, p9, p10, p11, r1.ld, stg, Nat.zero_add, Nat.add_zero, hj', r1.whole (n := 7) rfl, ej, c, hwj]
    · rintro f g' ms ⟨rfl, rfl, p1, p2, p7, p8, p9, p10, p11⟩
      have hj' : ¬ S.vb k + (hoursN S k : Int) ≤ S.last := by omega
      have es : smVat S L ⟨0, S.vb 0, lvS S 0 (S.vb 0) L⟩ (k + 1) = smHour S L k (smVat S L ⟨0, S.vb 0, lvS S 0 (S.vb 0) L⟩ k) (hoursN S k) := rfl
      rw [es]
      simp only [rn0, rn1, rn2, rn3, rn4, rn5, rn6, rn7, rn8, if_true, if_false, Nat.le_refl, true_and, and_true, decide_true, decide_false, Bool.not_true, Bool.not_false, reduceIte, Nat.reduceEqDiff, Nat.reduceAdd, Nat.reduceMul, Nat.reduceSub, Nat.reduceLeDiff, Nat.reduceLT, p1, p2, p7, p8, p9, p10, p11, r1.ld, stg, Nat.zero_add, Nat.add_zero, hj', hw]
  · rintro f g ms ⟨rfl, rfl, p1, p2, p7, p8, p9, p10⟩
    simp only [rn0, rn1, rn2, rn3, rn4, rn5, rn6, rn7, rn8, if_true, if_false, Nat.le_refl, true_and, and_true, decide_true, decide_false, Bool.not_true, Bool.not_false, reduceIte, Nat.reduceEqDiff, Nat.reduceAdd, Nat.reduceMul, Nat.reduceSub, Nat.reduceLeDiff, Nat.reduceLT, p1, p2, p7, p8, p9, p10, r1.ld, stg, Nat.zero_add, Cells.len hy1.v, Int.lt_irrefl, ret_ttt]
    first | done | rfl
def s8 : SCode := (.seq (.ops [⟨(some 1), none, .box (T 0)⟩, ⟨(some 2), none, .mov (.const (.bool false))⟩]) (.seq (.seq (.ops [⟨(some 12), none, .loadN 7 (T 1)⟩, ⟨(some 13), none, .call (.func 23) [(T 12)]⟩, ⟨(some 14), none, .not (T 13)⟩]) (.cond (T 14) (.seq (.ops [⟨(some 15), none, .call (.func 24) []⟩, ⟨(some 2), none, .mov (T 15)⟩]) .ret) .skip)) (.seq (.ops [⟨(some 17), none, .loadN 7 (T 1)⟩, ⟨(some 18), none, .call (.func 26) [(T 17)]⟩, ⟨(some 19), none, .call (.func 49) [(T 18)]⟩, ⟨(some 16), none, .mov (T 19)⟩, ⟨(some 20), none, .extract 0 (T 16)⟩, ⟨(some 21), none, .extract 1 (T 16)⟩, ⟨(some 22), none, .extract 2 (T 16)⟩, ⟨(some 23), none, .extract 3 (T 16)⟩, ⟨(some 3), none, .mov (T 20)⟩, ⟨(some 4), none, .mov (T 21)⟩, ⟨(some 5), none, .mov (T 22)⟩, ⟨(some 6), none, .mov (T 23)⟩]) (.seq (.ops [⟨(some 25), none, .loadN 7 (T 1)⟩, ⟨(some 26), none, .call (.func 36) [(T 25), (.const (.bool true))]⟩, ⟨(some 24), none, .mov (T 26)⟩, ⟨(some 27), none, .extract 0 (T 24)⟩, ⟨(some 28), none, .extract 1 (T 24)⟩, ⟨(some 7), none, .mov (T 27)⟩, ⟨(some 8), none, .mov (T 28)⟩]) (.seq (.seq (.ops [⟨(some 29), none, .mov (T 8)⟩, ⟨(some 30), none, .int2 .eql (T 29) (.const (.int .i64 (0)))⟩, ⟨(some 31), none, .mov (T 30)⟩, ⟨(some 32), (some (31, true)), .fieldAddr 5 (T 1)⟩, ⟨(some 33), (some (31, true)), .load1 (T 32)⟩, ⟨(some 34), (some (31, true)), .len (T 33)⟩, ⟨(some 35), (some (31, true)), .int2 .eql (T 34) (.const (.int .i64 (0)))⟩, ⟨(some 36), none, .pick (T 31) (T 35) (.const (.bool false))⟩]) (.cond (T 36) (.ops [⟨(some 8), none, .mov (.const (.int .i64 (7)))⟩]) .skip)) (.seq (.seq (.ops [⟨(some 37), none, .mov (T 8)⟩, ⟨(some 38), none, .int2 .neq (T 37) (.const (.int .i64 (0)))⟩]) (.cond (T 38) (.seq (.ops [⟨(some 39), none, .mov (T 6)⟩, ⟨(some 40), none, .mov (T 8)⟩, ⟨(some 41), none, .int2 .eql (T 39) (T 40)⟩, ⟨(some 42), none, .mov (T 41)⟩, ⟨(some 43), (some (42, true)), .mov (T 3)⟩, ⟨(some 44), (some (42, true)), .int2 .eql (T 43) (.const (.int .i64 (0)))⟩, ⟨(some 45), none, .pick (T 42) (T 44) (.const (.bool false))⟩, ⟨(some 46), none, .mov (T 45)⟩, ⟨(some 47), (some (46, true)), .mov (T 4)⟩, ⟨(some 48), (some (46, true)), .int2 .eql (T 47) (.const (.int .i64 (0)))⟩, ⟨(some 49), none, .pick (T 46) (T 48) (.const (.bool false))⟩, ⟨(some 50), none, .mov (T 49)⟩, ⟨(some 51), (some (50, true)), .mov (T 5)⟩, ⟨(some 52), (some (50, true)), .int2 .eql (T 51) (.const (.int .i64 (0)))⟩, ⟨(some 53), none, .pick (T 50) (T 52) (.const (.bool false))⟩, ⟨(some 54), none, .mov (T 53)⟩, ⟨(some 55), (some (54, true)), .call (.func 24) []⟩, ⟨(some 56), none, .pick (T 54) (T 55) (.const (.bool false))⟩, ⟨(some 2), none, .mov (T 56)⟩]) .ret) .skip)) (.seq (.ops [⟨(some 58), none, .loadN 7 (T 1)⟩, ⟨(some 59), none, .mov (T 7)⟩, ⟨(some 60), none, .call (.func 50) [(T 58), (T 59)]⟩, ⟨(some 57), none, .mov (T 60)⟩, ⟨(some 61), none, .extract 0 (T 57)⟩, ⟨(some 62), none, .extract 1 (T 57)⟩, ⟨(some 63), none, .extract 2 (T 57)⟩, ⟨(some 9), none, .mov (T 61)⟩, ⟨(some 10), none, .mov (T 62)⟩, ⟨(some 11), none, .mov (T 63)⟩]) (.seq (.ops [⟨(some 64), none, .mov (T 6)⟩, ⟨(some 65), none, .int2 .eql (T 64) (.const (.int .i64 (0)))⟩, ⟨(some 66), none, .mov (T 65)⟩, ⟨(some 67), (some (66, true)), .mov (T 3)⟩, ⟨(some 68), (some (66, true)), .mov (T 9)⟩, ⟨(some 69), (some (66, true)), .int2 .eql (T 67) (T 68)⟩, ⟨(some 70), none, .pick (T 66) (T 69) (.const (.bool false))⟩, ⟨(some 71), none, .mov (T 70)⟩, ⟨(some 72), (some (71, true)), .mov (T 4)⟩, ⟨(some 73), (some (71, true)), .mov (T 10)⟩, ⟨(some 74), (some (71, true)), .int2 .eql (T 72) (T 73)⟩, ⟨(some 75), none, .pick (T 71) (T 74) (.const (.bool false))⟩, ⟨(some 76), none, .mov (T 75)⟩, ⟨(some 77), (some (76, true)), .mov (T 5)⟩, ⟨(some 78), (some (76, true)), .mov (T 11)⟩, ⟨(some 79), (some (76, true)), .int2 .eql (T 77) (T 78)⟩, ⟨(some 80), none, .pick (T 76) (T 79) (.const (.bool false))⟩, ⟨(some 81), none, .mov (T 80)⟩, ⟨(some 82), (some (81, true)), .call (.func 24) []⟩, ⟨(some 83), none, .pick (T 81) (T 82) (.const (.bool false))⟩, ⟨(some 2), none, .mov (T 83)⟩]) .ret))))))))
theorem fok8 : FnOk Try.prog 8 84 s8 [.tmp 2] := ⟨Try.f8, _, Try.func8, rfl, Try.ntmps8, by kernel_rfl, by kernel_rfl⟩
set_option maxHeartbeats 2000000 in
theorem asksL_c (hn : 3000 ≤ n) (hr : h.next + 4000000 < far) (hfl : h.floor ≤ h.next) {wv vv sv : Value} {S : MS} (hy : SteepR h wv vv sv S) :
    ∃ v h', call n (.func (.func 8) #[] #[]) [.agg ⟨stL S wv vv sv⟩] h = some (v, h') ∧ v = .bool true := by
  obtain ⟨n, rfl⟩ : ∃ p, n = p + 1 := ⟨n - 1, by omega⟩
  refine call_any0 fok8 rfl rfl (by simp) ?_
  simp only [s8, W_seq, W_ops]
  refine ops_box (cs := stL S wv vv sv) (by omega) rfl hy.one fun g1 hx1 => ?_
  have n1 := hx1.next
  have f1 := hx1.floor
  have hy1 := hy.mono hx1.sub
  have r1 := hx1.row
  have et := thin_c (n := n) (h := g1) (by omega) (by omega) hy1
  by_cases hth : ThinS S
  case neg =>
    simp only [rn0, rn1, rn2, rn3, rn4, rn5, rn6, rn7, rn8, if_true, if_false, Nat.le_refl, true_and, and_true, decide_true, decide_false, Bool.not_true, Bool.not_false, reduceIte, Nat.reduceEqDiff, Nat.reduceAdd, Nat.reduceMul, Nat.reduceSub, Nat.reduceLeDiff, Nat.reduceLT, r1.whole (n := 7) rfl, et, hth, awake_c (n := n) (h := g1) (by omega)]
  obtain ⟨w2, v2, s2, g2, e2, hy2, o2, u2, m2, f2⟩ := steepL_c (n := n) (h := g1) (by omega) (by omega) (by omega) hy1 hth
  have sub2 : Sub All g1 g2 := AHeap.subOf o2
  have eg := askP_c (n := n) (h := g2) (by omega) (by omega) hy2 hth
  have r2 := r1.mono sub2
  have hy2' := hy1.mono sub2
  obtain ⟨av, g4, e4, ha⟩ := asked_c (n := n) (h := g2) (by omega) (by omega) (by omega) hy2' hth (ok := true)
  have o4 := ha.1
  have u4 := ha.2.1
  have m4 := ha.2.2.1
  have f4 := ha.2.2.2.1
  have sub4 : Sub All g2 g4 := AHeap.subOf o4
  have hy4 := hy2'.mono sub4
  have r4 := r2.mono sub4
  have haw := awake_c (n := n) (h := g4) (by omega)
  have z70 : ¬ (7 : Int) = 0 := by decide
  rcases asked_errT ha with ⟨he, rfl⟩ | ⟨he, hf, hz, l, rfl, hl1, hl⟩
  · obtain ⟨q1, q2⟩ := ask_err he
    rw [q1, q2] at eg
    simp only [rn0, rn1, rn2, rn3, rn4, rn5, rn6, rn7, rn8, if_true, if_false, Nat.le_refl, true_and, and_true, decide_true, decide_false, Bool.not_true, Bool.not_false, reduceIte, Nat.reduceEqDiff, Nat.reduceAdd, Nat.reduceMul, Nat.reduceSub, Nat.reduceLeDiff, Nat.reduceLT, r1.whole (n := 7) rfl, et, hth, e2, eg, x_extract, ex40, ex41, ex42, ex43, ex0, ex1, r2.whole (n := 7) rfl, e4, he, haw]
  · have hG := good_of hf
    by_cases hv : S.nv = 0
    · obtain ⟨q1, q2⟩ := ask_nil he hv
      have hv0 : (S.nv : Int) = 0 := by omega
      rw [q1, q2] at eg
      simp only [rn0, rn1, rn2, rn3, rn4, rn5, rn6, rn7, rn8, if_true, if_false, Nat.le_refl, true_and, and_true, decide_true, decide_false, Bool.not_true, Bool.not_false, reduceIte, Nat.reduceEqDiff, Nat.reduceAdd, Nat.reduceMul, Nat.reduceSub, Nat.reduceLeDiff, Nat.reduceLT, r1.whole (n := 7) rfl, et, hth, e2, eg, x_extract, ex40, ex41, ex42, ex43, ex0, ex1, r2.whole (n := 7) rfl, e4, r4.ld, stg, Nat.zero_add, Cells.len hy4.v, hv0, z70, haw]
    · obtain ⟨q1, q2⟩ := ask_ok he hv
      have hv0 : ¬ (S.nv : Int) = 0 := by omega
      have hRlen : (refTruths S).length ≤ 2000 := Nat.le_trans refTo_len (by have := many_pos hG; omega)
      have er := askRef_c (n := n) (h := g4) (by omega) (by omega) hy4 hG (by omega) hl hRlen (fun t ht => (truths_mem.1 ((refTruths_mem hG).1 ht)).1.1)
      have hh0 := (hoursN_ok hG (show 0 < S.nv by omega)).2.1
      rw [smR_perm (ref_perm hG), ← sm_eq hh0 (by omega)] at er
      rw [q1, q2] at eg
      simp only [rn0, rn1, rn2, rn3, rn4, rn5, rn6, rn7, rn8, if_true, if_false, Nat.le_refl, true_and, and_true, decide_true, decide_false, Bool.not_true, Bool.not_false, reduceIte, Nat.reduceEqDiff, Nat.reduceAdd, Nat.reduceMul, Nat.reduceSub, Nat.reduceLeDiff, Nat.reduceLT, r1.whole (n := 7) rfl, et, hth, e2, eg, x_extract, ex40, ex41, ex42, ex43, ex30, ex31, ex32, ex0, ex1, r2.whole (n := 7) rfl, e4, r4.ld, r4.whole (n := 7) rfl, stg, Nat.zero_add, Cells.len hy4.v, hv0, er, haw]
end Go.Vm.St
