/- Texts of the proofs of this seat, put together: StMem, StOut, StOutL, StEnds. -/
import Derived.Test.YtffgdpkogokdhaaPk14

namespace Go.Vm.St
open Go.Proofs Go.Vm.Vat
set_option linter.unusedSimpArgs false
set_option linter.unusedVariables false
set_option maxRecDepth 10000
variable {n : Nat} {h : AHeap}
/-! ### The reference's truths are the truths, in another order -/
theorem unpos_pos {S : MS} {i : Nat} : unpos S (posU S i) = i := by
  unfold unpos posU
  by_cases c1 : i < S.nw
  · rw [if_pos c1, if_neg (by omega), if_pos (by omega)]; omega
  · rw [if_neg c1]
    by_cases c2 : i = S.nw
    · rw [if_pos c2, if_pos rfl, c2]
    · rw [if_neg c2, if_neg (by omega), if_neg (by omega)]
theorem sizeR {S : MS} : sizeN (rLo S) (rHi S) (numU S) = sizeN (uLo S) (uHi S) (numU S) := by
  rw [sizeU]
  have e : numU S = (1 + S.nw) + S.nv := by unfold numU; omega
  rw [e, sizeN_split, sizeN_split]
  have e1 : sizeN (rLo S) (rHi S) 1 = S.sphi - S.splo + 1 := by simp [sizeN, rLo, rHi]
  have e2 : sizeN (fun k => rLo S (1 + k)) (fun k => rHi S (1 + k)) S.nw = sizeN S.wlo S.whi S.nw := sizeN_congr _ fun k hk => by
    simp only [rLo, rHi]
    rw [if_neg (by omega), if_pos (by omega), if_neg (by omega), if_pos (by omega), show 1 + k - 1 = k by omega]
    exact ⟨rfl, rfl⟩
  have e3 : sizeN (fun k => rLo S (1 + S.nw + k)) (fun k => rHi S (1 + S.nw + k)) S.nv = sizeN S.vlo S.vhi S.nv := by
    by_cases c : S.nv = 0
    · rw [c]; rfl
    refine sizeN_congr _ fun k hk => ?_
    simp only [rLo, rHi]
    rw [if_neg (by omega), if_neg (by omega), if_neg (by omega), if_neg (by omega), show 1 + S.nw + k - S.nw - 1 = k by omega]
    exact ⟨rfl, rfl⟩
  rw [e1, e2, e3, ← Int.mul_assoc, Int.mul_comm (sizeN S.wlo S.whi S.nw)]
theorem refTruths_mem {S : MS} (hG : Good S) {x : Nat → Int} : x ∈ refTruths S ↔ x ∈ truthsS S := by
  have hr : ∀ j, j < numU S → rLo S j ≤ rHi S j := fun j hj => (hG.r hj).2.1
  have h1 := many_size hG.args
  have h2 := hG.few
  have hprod := sizeN_prod (lo := rLo S) (hi := rHi S) (numU S) 0
  simp only [Nat.zero_add, sizeN, Int.one_mul] at hprod
  have hpN := prodN_from (lo := rLo S) (hi := rHi S) (numU S) 0 fun j _ hj => hr j (by omega)
  have hsR := sizeR (S := S)
  obtain ⟨mp1, _⟩ := many_pos hG
  have hM : (manyS S).toNat = prodN (sz (rLo S) (rHi S)) (numU S) 0 := by omega
  rw [truths_mem]
  unfold refTruths refTo
  rw [List.mem_filter, List.mem_map]
  simp only [List.mem_range, decide_eq_true_eq]
  constructor
  · rintro ⟨⟨m, _, rfl⟩, h2⟩
    exact ⟨⟨nthU_in hG, fun j hj => by rw [nthU, if_neg (by omega)]⟩, h2⟩
  · rintro ⟨⟨h1, h2⟩, h3⟩
    have hin : ∀ j, j < numU S → rLo S j ≤ x (unpos S j) ∧ x (unpos S j) ≤ rHi S j := fun j hj => by
      have := h1 (unpos S j) (unpos_lt hj)
      have e := r_pos (S := S) (i := unpos S j)
      rw [pos_unpos] at e
      rw [e.1, e.2]
      exact this
    have hd : ∀ j, j < numU S → (x (unpos S j) - rLo S j).toNat < sz (rLo S) (rHi S) j := fun j hj => by
      have := hin j hj
      show (x (unpos S j) - rLo S j).toNat < (rHi S j - rLo S j + 1).toNat
      omega
    refine ⟨⟨encF (sz (rLo S) (rHi S)) (fun j => (x (unpos S j) - rLo S j).toNat) (numU S) 0, ?_, ?_⟩, h3⟩
    · rw [hM]
      exact encF_lt (numU S) 0 fun j _ hj => hd j (by omega)
    · funext i
      by_cases hi : i < numU S
      · have hp := pos_lt hi
        have hq := hin _ hp
        rw [nthU, if_pos hi]
        unfold digU
        rw [show rSz S = sz (rLo S) (rHi S) from rfl, encF_mod hd hp]
        rw [unpos_pos] at hq ⊢
        omega
      · rw [nthU, if_neg hi, h2 i (by omega)]
/-- asked: the error, or the truths -/
def AskR (h : AHeap) (S : MS) (ok : Bool) (v : Value) (h' : AHeap) : Prop := (∀ i, i < h.next → h'.get i = h.get i) ∧ h.next ≤ h'.next ∧ h'.next ≤ h.next + 500100 ∧ h'.floor = h.floor ∧
  ((faultS S ≠ 0 ∧ v = .tuple ⟨[nilS, .int .i64 (faultS S)]⟩) ∨ (faultS S = 0 ∧ ok = false ∧ v = .tuple ⟨[nilS, .int .i64 2]⟩) ∨ (faultS S = 0 ∧ ok = true ∧ truthsS S = [] ∧ v = .tuple ⟨[nilS, .int .i64 11]⟩) ∨
    (faultS S = 0 ∧ ok = true ∧ truthsS S ≠ [] ∧ ∃ l, v = .tuple ⟨[l, .int .i64 0]⟩ ∧ oneCell l = true ∧ TruthsL h' l S (refTruths S)))
theorem ref_nil {S : MS} (hG : Good S) : refTruths S = [] ↔ truthsS S = [] := by
  constructor
  · intro e
    refine List.eq_nil_iff_forall_not_mem.2 fun x hx => ?_
    have := (refTruths_mem hG).2 hx
    rw [e] at this
    cases this
  · intro e
    refine List.eq_nil_iff_forall_not_mem.2 fun x hx => ?_
    have := (refTruths_mem hG).1 hx
    rw [e] at this
    cases this
def s36 : SCode := (.seq (.ops [⟨(some 2), none, .box (T 0)⟩, ⟨(some 4), none, .mov (.const (.slice none 0 0))⟩, ⟨(some 5), none, .mov (.const (.int .i64 (0)))⟩]) (.seq (.seq (.ops [⟨(some 8), none, .loadN 7 (T 2)⟩, ⟨(some 9), none, .call (.func 29) [(T 8)]⟩, ⟨(some 6), none, .mov (T 9)⟩]) (.seq (.ops [⟨(some 10), none, .mov (T 6)⟩, ⟨(some 11), none, .int2 .neq (T 10) (.const (.int .i64 (0)))⟩]) (.cond (T 11) (.seq (.ops [⟨(some 12), none, .mov (T 6)⟩, ⟨(some 4), none, .mov (.const (.slice none 0 0))⟩, ⟨(some 5), none, .mov (T 12)⟩]) .ret) .skip))) (.seq (.seq (.ops [⟨(some 13), none, .mov (T 1)⟩, ⟨(some 14), none, .not (T 13)⟩]) (.cond (T 14) (.seq (.ops [⟨(some 4), none, .mov (.const (.slice none 0 0))⟩, ⟨(some 5), none, .mov (.const (.int .i64 (2)))⟩]) .ret) .skip)) (.seq (.ops [⟨(some 15), none, .loadN 7 (T 2)⟩, ⟨(some 16), none, .call (.func 68) [(T 15)]⟩, ⟨(some 7), none, .mov (T 16)⟩]) (.seq (.seq (.ops [⟨(some 17), none, .mov (T 7)⟩, ⟨(some 18), none, .len (T 17)⟩, ⟨(some 19), none, .int2 .eql (T 18) (.const (.int .i64 (0)))⟩]) (.cond (T 19) (.seq (.ops [⟨(some 4), none, .mov (.const (.slice none 0 0))⟩, ⟨(some 5), none, .mov (.const (.int .i64 (11)))⟩]) .ret) .skip)) (.seq (.ops [⟨(some 20), none, .mov (T 7)⟩, ⟨(some 4), none, .mov (T 20)⟩, ⟨(some 5), none, .mov (.const (.int .i64 (0)))⟩]) .ret))))))
theorem fok36 : FnOk Try.prog 36 21 s36 [.tmp 4, .tmp 5] := ⟨Try.f36, _, Try.func36, rfl, Try.ntmps36, by kernel_rfl, by kernel_rfl⟩
theorem asked_c (hn : 2210 ≤ n) (hr : h.next + 1100000 < far) (hfl : h.floor ≤ h.next) {wv vv sv : Value} {S : MS} (hy : SteepR h wv vv sv S) (hT : ThinS S) {ok : Bool} :
    ∃ v h', call n (.func (.func 36) #[] #[]) [.agg ⟨stL S wv vv sv⟩, .bool ok] h = some (v, h') ∧ AskR h S ok v h' := by
  obtain ⟨n, rfl⟩ : ∃ p, n = p + 1 := ⟨n - 1, by omega⟩
  refine call_any0 fok36 rfl rfl (by simp) ?_
  simp only [s36, W_seq, W_ops]
  refine ops_box (cs := stL S wv vv sv) (by omega) rfl hy.one fun g1 hx1 => ?_
  have n1 := hx1.next
  have f1' := hx1.floor
  have hy1 := hy.mono hx1.sub
  have w1 := hx1.row.whole (n := 7) rfl
  have ef := faultL_c (n := n) (h := g1) (by omega) (by omega) hy1 hT
  by_cases hf : faultS S = 0
  case neg =>
    simp only [rn0, rn1, rn2, rn3, rn4, rn5, rn6, rn7, rn8, if_true, if_false, Nat.le_refl, true_and, and_true, decide_true, decide_false, Bool.not_true, Bool.not_false, reduceIte, Nat.reduceEqDiff, Nat.reduceAdd, Nat.reduceMul, Nat.reduceSub, Nat.reduceLeDiff, Nat.reduceLT, w1, ef, hf, ret_tt]
    exact ⟨fun i hi => hx1.old i hi, by omega, by omega, by omega, .inl ⟨hf, rfl⟩⟩
  have hG := good_of hf
  cases ok with
  | false =>
    simp only [rn0, rn1, rn2, rn3, rn4, rn5, rn6, rn7, rn8, if_true, if_false, Nat.le_refl, true_and, and_true, decide_true, decide_false, Bool.not_true, Bool.not_false, reduceIte, Nat.reduceEqDiff, Nat.reduceAdd, Nat.reduceMul, Nat.reduceSub, Nat.reduceLeDiff, Nat.reduceLT, w1, ef, hf, ret_tt]
    exact ⟨fun i hi => hx1.old i hi, by omega, by omega, by omega, .inr (.inl ⟨hf, rfl, rfl⟩)⟩
  | true =>
    obtain ⟨v, g2, e2, ht, o1, o2, u2, m2, f2⟩ := truthsRef_c (n := n) (h := g1) (by omega) (by omega) (by omega) hy1 hG
    have hold : ∀ i, i < h.next → g2.get i = h.get i := fun i hi => by rw [o2 i (by omega), hx1.old i hi]
    have hlen : ((refTruths S).length : Int) = 0 ↔ truthsS S = [] := by
      rw [← ref_nil hG, ← List.length_eq_zero_iff]; omega
    by_cases hz : truthsS S = []
    · have hz' := hlen.2 hz
      simp only [rn0, rn1, rn2, rn3, rn4, rn5, rn6, rn7, rn8, if_true, if_false, Nat.le_refl, true_and, and_true, decide_true, decide_false, Bool.not_true, Bool.not_false, reduceIte, Nat.reduceEqDiff, Nat.reduceAdd, Nat.reduceMul, Nat.reduceSub, Nat.reduceLeDiff, Nat.reduceLT, w1, ef, hf, e2, Cells.len ht.choose_spec.choose_spec.1, hz', ret_tt]
      exact ⟨hold, by omega, by omega, by omega, .inr (.inr (.inl ⟨hf, rfl, hz, rfl⟩))⟩
    · have hz' : ¬ ((refTruths S).length : Int) = 0 := fun e => hz (hlen.1 e)
      simp only [rn0, rn1, rn2, rn3, rn4, rn5, rn6, rn7, rn8, if_true, if_false, Nat.le_refl, true_and, and_true, decide_true, decide_false, Bool.not_true, Bool.not_false, reduceIte, Nat.reduceEqDiff, Nat.reduceAdd, Nat.reduceMul, Nat.reduceSub, Nat.reduceLeDiff, Nat.reduceLT, w1, ef, hf, e2, Cells.len ht.choose_spec.choose_spec.1, hz', ret_tt]
      exact ⟨hold, by omega, by omega, by omega, .inr (.inr (.inr ⟨hf, rfl, hz, v, rfl, o1, ht⟩))⟩
end Go.Vm.St

namespace Go.Vm.St
open Go.Proofs Go.Vm.Vat
set_option linter.unusedSimpArgs false
set_option linter.unusedVariables false
set_option maxRecDepth 10000
variable {n : Nat} {h : AHeap}
/-- what 'Out' answers -/
def OutR (h : AHeap) (S : MS) (at_ : Int) (v : Value) (h' : AHeap) : Prop := Sub All h h' ∧ h.next ≤ h'.next ∧ h'.next ≤ h.next + 700000 ∧ h'.floor = h.floor ∧
  ((faultS S ≠ 0 ∧ v = .tuple ⟨[nilS, .int .i64 (faultS S)]⟩) ∨ (faultS S = 0 ∧ ¬ InV S at_ ∧ v = .tuple ⟨[nilS, .int .i64 2]⟩) ∨ (faultS S = 0 ∧ InV S at_ ∧ truthsS S = [] ∧ v = .tuple ⟨[nilS, .int .i64 11]⟩) ∨
    (faultS S = 0 ∧ InV S at_ ∧ truthsS S ≠ [] ∧ ∃ r, v = .tuple ⟨[r, .int .i64 0]⟩ ∧ Ranges h' r (hoursN S at_.toNat) (loB S at_.toNat (truthsS S) ((truthsS S).length - 1)) (hiB S at_.toNat (truthsS S) ((truthsS S).length - 1))))
def s35 : SCode := (.seq (.ops [⟨(some 2), none, .box (T 0)⟩, ⟨(some 4), none, .mov (.const (.slice none 0 0))⟩, ⟨(some 5), none, .mov (.const (.int .i64 (0)))⟩]) (.seq (.ops [⟨(some 9), none, .loadN 7 (T 2)⟩, ⟨(some 10), none, .mov (T 1)⟩, ⟨(some 11), none, .call (.func 88) [(T 9), (T 10), (.const (.slice none 0 0))]⟩, ⟨(some 8), none, .mov (T 11)⟩, ⟨(some 12), none, .extract 0 (T 8)⟩, ⟨(some 13), none, .extract 1 (T 8)⟩, ⟨(some 6), none, .alloc [(.int .i64 (0)), (.int .i64 (0)), (.slice none 0 0), (.int .i64 (0)), (.int .i64 (0)), (.slice none 0 0), (.slice none 0 0), (.slice none 0 0)]⟩, ⟨none, none, .store 8 (T 6) (T 12)⟩, ⟨(some 7), none, .mov (T 13)⟩]) (.seq (.seq (.ops [⟨(some 14), none, .mov (T 7)⟩, ⟨(some 15), none, .int2 .neq (T 14) (.const (.int .i64 (0)))⟩]) (.cond (T 15) (.seq (.ops [⟨(some 16), none, .mov (T 7)⟩, ⟨(some 4), none, .mov (.const (.slice none 0 0))⟩, ⟨(some 5), none, .mov (T 16)⟩]) .ret) .skip)) (.seq (.ops [⟨(some 17), none, .build #[(0, 1)] [.nilFunc] [0] [(.func 76)]⟩, ⟨(some 18), none, .loadN 8 (T 6)⟩, ⟨(some 19), none, .mov (T 1)⟩, ⟨(some 20), none, .call (.func 89) [(T 17), (T 18), (T 19)]⟩, ⟨(some 4), none, .mov (T 20)⟩, ⟨(some 5), none, .mov (.const (.int .i64 (0)))⟩]) .ret))))
theorem fok35 : FnOk Try.prog 35 21 s35 [.tmp 4, .tmp 5] := ⟨Try.f35, _, Try.func35, rfl, Try.ntmps35, by kernel_rfl, by kernel_rfl⟩
set_option maxHeartbeats 1000000 in
theorem out_c (hn : 2400 ≤ n) (hr : h.next + 1000000 < far) (hfl : h.floor ≤ h.next) {wv vv sv : Value} {S : MS} (hy : SteepR h wv vv sv S) (hT : ThinS S) (at_ : Int) :
    ∃ v h', call n (.func (.func 35) #[] #[]) [.agg ⟨stL S wv vv sv⟩, .int .i64 at_] h = some (v, h') ∧ OutR h S at_ v h' := by
  obtain ⟨n, rfl⟩ : ∃ p, n = p + 1 := ⟨n - 1, by omega⟩
  refine call_any0 fok35 rfl rfl (by simp) ?_
  simp only [s35, W_seq, W_ops]
  refine ops_box (cs := stL S wv vv sv) (by omega) rfl hy.one fun g1 hx1 => ?_
  have n1 := hx1.next
  have f1 := hx1.floor
  have w1 := hx1.row.whole (n := 7) rfl
  obtain ⟨pv, g2, eo, o2, u2, m2, f2, hp⟩ := openVat_c (n := n) (h := g1) (by omega) (by omega) (by omega) (hy.mono hx1.sub) hT at_
  have sub2 : Sub All h g2 := hx1.sub.trans (AHeap.subOf o2)
  rcases hp with ⟨hf, rfl⟩ | ⟨hf, hv, rfl⟩ | ⟨hf, hv, hz, rfl⟩ | ⟨hf, hv, hz, tv, rfl, hone, htr, hlong⟩
  · simp only [rn0, rn1, rn2, rn3, rn4, rn5, rn6, rn7, rn8, if_true, if_false, Nat.le_refl, true_and, and_true, decide_true, decide_false, Bool.not_true, Bool.not_false, reduceIte, Nat.reduceEqDiff, Nat.reduceAdd, Nat.reduceMul, Nat.reduceSub, Nat.reduceLeDiff, Nat.reduceLT, w1, eo, ex0, ex1]
    refine step_new (vs := wk0) (by omega) (by omega) rfl (by simp only [rn0, rn1, rn2, rn3, rn4, rn5, rn6, rn7, rn8, if_true, if_false, Nat.le_refl, true_and, and_true, decide_true, decide_false, Bool.not_true, Bool.not_false, reduceIte, Nat.reduceEqDiff, Nat.reduceAdd, Nat.reduceMul, Nat.reduceSub, Nat.reduceLeDiff, Nat.reduceLT]; rfl) rfl rfl rfl fun g3 hx3 => ?_
    have n3 := hx3.next
    have f3 := hx3.floor
    simp only [rn0, rn1, rn2, rn3, rn4, rn5, rn6, rn7, rn8, if_true, if_false, Nat.le_refl, true_and, and_true, decide_true, decide_false, Bool.not_true, Bool.not_false, reduceIte, Nat.reduceEqDiff, Nat.reduceAdd, Nat.reduceMul, Nat.reduceSub, Nat.reduceLeDiff, Nat.reduceLT, hf, ret_tt]
    exact ⟨sub2.trans hx3.sub, by omega, by omega, by omega, .inl ⟨hf, rfl⟩⟩
  · simp only [rn0, rn1, rn2, rn3, rn4, rn5, rn6, rn7, rn8, if_true, if_false, Nat.le_refl, true_and, and_true, decide_true, decide_false, Bool.not_true, Bool.not_false, reduceIte, Nat.reduceEqDiff, Nat.reduceAdd, Nat.reduceMul, Nat.reduceSub, Nat.reduceLeDiff, Nat.reduceLT, w1, eo, ex0, ex1]
    refine step_new (vs := wk0) (by omega) (by omega) rfl (by simp only [rn0, rn1, rn2, rn3, rn4, rn5, rn6, rn7, rn8, if_true, if_false, Nat.le_refl, true_and, and_true, decide_true, decide_false, Bool.not_true, Bool.not_false, reduceIte, Nat.reduceEqDiff, Nat.reduceAdd, Nat.reduceMul, Nat.reduceSub, Nat.reduceLeDiff, Nat.reduceLT]; rfl) rfl rfl rfl fun g3 hx3 => ?_
    have n3 := hx3.next
    have f3 := hx3.floor
    have z20 : ¬ (2 : Int) = 0 := by decide
    simp only [rn0, rn1, rn2, rn3, rn4, rn5, rn6, rn7, rn8, if_true, if_false, Nat.le_refl, true_and, and_true, decide_true, decide_false, Bool.not_true, Bool.not_false, reduceIte, Nat.reduceEqDiff, Nat.reduceAdd, Nat.reduceMul, Nat.reduceSub, Nat.reduceLeDiff, Nat.reduceLT, z20, ret_tt]
    exact ⟨sub2.trans hx3.sub, by omega, by omega, by omega, .inr (.inl ⟨hf, hv, rfl⟩)⟩
  · simp only [rn0, rn1, rn2, rn3, rn4, rn5, rn6, rn7, rn8, if_true, if_false, Nat.le_refl, true_and, and_true, decide_true, decide_false, Bool.not_true, Bool.not_false, reduceIte, Nat.reduceEqDiff, Nat.reduceAdd, Nat.reduceMul, Nat.reduceSub, Nat.reduceLeDiff, Nat.reduceLT, w1, eo, ex0, ex1]
    refine step_new (vs := wk0) (by omega) (by omega) rfl (by simp only [rn0, rn1, rn2, rn3, rn4, rn5, rn6, rn7, rn8, if_true, if_false, Nat.le_refl, true_and, and_true, decide_true, decide_false, Bool.not_true, Bool.not_false, reduceIte, Nat.reduceEqDiff, Nat.reduceAdd, Nat.reduceMul, Nat.reduceSub, Nat.reduceLeDiff, Nat.reduceLT]; rfl) rfl rfl rfl fun g3 hx3 => ?_
    have n3 := hx3.next
    have f3 := hx3.floor
    have z110 : ¬ (11 : Int) = 0 := by decide
    simp only [rn0, rn1, rn2, rn3, rn4, rn5, rn6, rn7, rn8, if_true, if_false, Nat.le_refl, true_and, and_true, decide_true, decide_false, Bool.not_true, Bool.not_false, reduceIte, Nat.reduceEqDiff, Nat.reduceAdd, Nat.reduceMul, Nat.reduceSub, Nat.reduceLeDiff, Nat.reduceLT, z110, ret_tt]
    exact ⟨sub2.trans hx3.sub, by omega, by omega, by omega, .inr (.inr (.inl ⟨hf, hv, hz, rfl⟩))⟩
  · have hG := good_of hf
    have how := wk_one hy (tv := tv) hone
    simp only [rn0, rn1, rn2, rn3, rn4, rn5, rn6, rn7, rn8, if_true, if_false, Nat.le_refl, true_and, and_true, decide_true, decide_false, Bool.not_true, Bool.not_false, reduceIte, Nat.reduceEqDiff, Nat.reduceAdd, Nat.reduceMul, Nat.reduceSub, Nat.reduceLeDiff, Nat.reduceLT, w1, eo, ex0, ex1]
    refine step_new (vs := wkL S wv vv sv tv) (by omega) (by omega) rfl (by simp only [rn0, rn1, rn2, rn3, rn4, rn5, rn6, rn7, rn8, if_true, if_false, Nat.le_refl, true_and, and_true, decide_true, decide_false, Bool.not_true, Bool.not_false, reduceIte, Nat.reduceEqDiff, Nat.reduceAdd, Nat.reduceMul, Nat.reduceSub, Nat.reduceLeDiff, Nat.reduceLT]; rfl) how rfl rfl fun g3 hx3 => ?_
    have n3 := hx3.next
    have f3 := hx3.floor
    have sub3 := sub2.trans hx3.sub
    obtain ⟨va, hva⟩ : ∃ va : Nat, at_ = (va : Int) := ⟨at_.toNat, by unfold InV at hv; omega⟩
    subst hva
    have hvn : va < S.nv := by unfold InV at hv; omega
    obtain ⟨r, g4, eb, hr4, hone4, sub4, u4, m4, f4⟩ := bounds_c (n := n) (h := g3) (by omega) (by omega) (by omega) (hy.mono sub3) (tv := tv) hone hG hz (truths_len hG) (fun t ht => (truths_mem.1 ht).1.1) (Cells.mono htr hx3.sub) hlong hvn
    simp only [rn0, rn1, rn2, rn3, rn4, rn5, rn6, rn7, rn8, if_true, if_false, Nat.le_refl, true_and, and_true, decide_true, decide_false, Bool.not_true, Bool.not_false, reduceIte, Nat.reduceEqDiff, Nat.reduceAdd, Nat.reduceMul, Nat.reduceSub, Nat.reduceLeDiff, Nat.reduceLT, build_meas, hx3.row.whole (n := 8) rfl, eb, ret_tt]
    exact ⟨sub3.trans sub4, by omega, by omega, by omega, .inr (.inr (.inr ⟨hf, hv, hz, r, rfl, hr4⟩))⟩
theorem trs_ld {S : MS} {l : Value} {L : List (Nat → Int)} {R1 R2 : Nat → Value} (hc : Cells h l 3 L.length (trsC S L R1 R2)) {k : Nat} (hk : k < L.length) : loadAgg 3 h (ptrO l 3 k 0) = some (.agg ⟨trL (R1 k) (R2 k) ((L.getD k fun _ => 0) S.nw)⟩) := by
  rw [Cells.ldN hc hk (by omega) (by omega)]; simp [List.range_succ, trsC, trL]
end Go.Vm.St

namespace Go.Vm.St
open Go.Proofs Go.Vm.Vat
set_option linter.unusedSimpArgs false
set_option linter.unusedVariables false
set_option maxRecDepth 10000
variable {n : Nat} {h : AHeap}
end Go.Vm.St

namespace Go.Vm.St
open Go.Proofs Go.Vm.Vat
set_option linter.unusedSimpArgs false
set_option linter.unusedVariables false
set_option maxRecDepth 10000
variable {n : Nat} {h : AHeap}
theorem lo_at {val : (Nat → Int) → Int} {L : List (Nat → Int)} (hL : L ≠ []) : ∃ k, k < L.length ∧ val (L.getD k fun _ => 0) = loN val L := by
  apply Classical.byContradiction
  intro hn
  have h1 : loN val L + 1 ≤ loN val L := (le_loN hL).2 fun t ht => by
    obtain ⟨k, hk, e⟩ := mem_getD ht
    have h2 := (le_loN hL).1 (Int.le_refl (loN val L)) t ht
    have h3 : val t ≠ loN val L := fun e' => hn ⟨k, hk, by rw [e]; exact e'⟩
    omega
  omega
theorem hi_at {val : (Nat → Int) → Int} {L : List (Nat → Int)} (hL : L ≠ []) : ∃ k, k < L.length ∧ val (L.getD k fun _ => 0) = hiN val L := by
  apply Classical.byContradiction
  intro hn
  have h1 : hiN val L ≤ hiN val L - 1 := (hiN_le hL).2 fun t ht => by
    obtain ⟨k, hk, e⟩ := mem_getD ht
    have h2 := (hiN_le hL).1 (Int.le_refl (hiN val L)) t ht
    have h3 : val t ≠ hiN val L := fun e' => hn ⟨k, hk, by rw [e]; exact e'⟩
    omega
  omega
open Classical in
noncomputable def seen (p : Nat → Prop) (k : Nat) : Bool := decide (∃ i, i < k ∧ p i)
open Classical in
theorem seen_zero {p : Nat → Prop} : seen p 0 = false := decide_eq_false fun ⟨i, hi, _⟩ => Nat.not_lt_zero _ hi
open Classical in
theorem seen_old {p : Nat → Prop} {k : Nat} (h : seen p k = true) : seen p (k + 1) = true := by
  obtain ⟨i, hi, hp⟩ := of_decide_eq_true h
  exact decide_eq_true ⟨i, by omega, hp⟩
open Classical in
theorem seen_new {p : Nat → Prop} {k : Nat} (h : p k) : seen p (k + 1) = true := decide_eq_true ⟨k, by omega, h⟩
open Classical in
theorem seen_not {p : Nat → Prop} {k : Nat} (h : seen p k = false) (hp : ¬ p k) : seen p (k + 1) = false := decide_eq_false fun ⟨i, hi, hq⟩ => by
  by_cases e : i = k
  · exact hp (e ▸ hq)
  · exact of_decide_eq_false h ⟨i, by omega, hq⟩
open Classical in
theorem seen_all {p : Nat → Prop} {k i : Nat} (hi : i < k) (hp : p i) : seen p k = true := decide_eq_true ⟨i, hi, hp⟩
def s12 : SCode := (.seq (.ops [⟨(some 3), none, .box (T 0)⟩, ⟨(some 6), none, .mov (.const (.bool false))⟩]) (.seq (.seq (.ops [⟨(some 19), none, .loadN 7 (T 3)⟩, ⟨(some 20), none, .call (.func 59) [(T 19)]⟩, ⟨(some 21), none, .not (T 20)⟩, ⟨(some 22), none, .mov (T 21)⟩, ⟨(some 23), (some (22, false)), .fieldAddr 5 (T 3)⟩, ⟨(some 24), (some (22, false)), .load1 (T 23)⟩, ⟨(some 25), (some (22, false)), .len (T 24)⟩, ⟨(some 26), (some (22, false)), .int2 .eql (T 25) (.const (.int .i64 (0)))⟩, ⟨(some 27), none, .pick (T 22) (.const (.bool true)) (T 26)⟩]) (.cond (T 27) (.seq (.ops [⟨(some 28), none, .call (.func 24) []⟩, ⟨(some 6), none, .mov (T 28)⟩]) .ret) .skip)) (.seq (.ops [⟨(some 29), none, .mov (T 1)⟩, ⟨(some 30), none, .plain (.convert 5 3 (T 29)) 3⟩, ⟨(some 31), none, .fieldAddr 5 (T 3)⟩, ⟨(some 32), none, .load1 (T 31)⟩, ⟨(some 33), none, .len (T 32)⟩, ⟨(some 34), none, .plain (.binOp .rem 3 (T 30) (T 33) 3) 3⟩, ⟨(some 7), none, .mov (T 34)⟩]) (.seq (.ops [⟨(some 35), none, .fieldAddr 5 (T 3)⟩, ⟨(some 36), none, .load1 (T 35)⟩, ⟨(some 37), none, .mov (T 7)⟩, ⟨(some 38), none, .idxSl 4 (T 36) (T 37)⟩, ⟨(some 39), none, .fieldAddr 0 (T 38)⟩, ⟨(some 40), none, .load1 (T 39)⟩, ⟨(some 8), none, .mov (T 40)⟩]) (.seq (.ops [⟨(some 41), none, .fieldAddr 0 (T 3)⟩, ⟨(some 42), none, .load1 (T 41)⟩, ⟨(some 43), none, .mov (T 8)⟩, ⟨(some 44), none, .int2 .sub (T 42) (T 43)⟩, ⟨(some 45), none, .int2 .add (T 44) (.const (.int .i64 (1)))⟩, ⟨(some 9), none, .mov (T 45)⟩]) (.seq (.ops [⟨(some 46), none, .mov (T 2)⟩, ⟨(some 47), none, .plain (.convert 5 3 (T 46)) 3⟩, ⟨(some 48), none, .mov (T 9)⟩, ⟨(some 49), none, .plain (.binOp .rem 3 (T 47) (T 48) 3) 3⟩, ⟨(some 10), none, .mov (T 49)⟩]) (.seq (.ops [⟨(some 51), none, .loadN 7 (T 3)⟩, ⟨(some 52), none, .call (.func 26) [(T 51)]⟩, ⟨(some 53), none, .mov (T 7)⟩, ⟨(some 54), none, .call (.func 35) [(T 52), (T 53)]⟩, ⟨(some 50), none, .mov (T 54)⟩, ⟨(some 55), none, .extract 0 (T 50)⟩, ⟨(some 56), none, .extract 1 (T 50)⟩, ⟨(some 11), none, .mov (T 55)⟩, ⟨(some 12), none, .mov (T 56)⟩]) (.seq (.ops [⟨(some 58), none, .loadN 7 (T 3)⟩, ⟨(some 59), none, .call (.func 36) [(T 58), (.const (.bool true))]⟩, ⟨(some 57), none, .mov (T 59)⟩, ⟨(some 60), none, .extract 0 (T 57)⟩, ⟨(some 61), none, .extract 1 (T 57)⟩, ⟨(some 13), none, .mov (T 60)⟩, ⟨(some 14), none, .mov (T 61)⟩]) (.seq (.seq (.ops [⟨(some 62), none, .mov (T 14)⟩, ⟨(some 63), none, .int2 .neq (T 62) (.const (.int .i64 (0)))⟩]) (.cond (T 63) (.seq (.ops [⟨(some 64), none, .mov (T 12)⟩, ⟨(some 65), none, .mov (T 14)⟩, ⟨(some 66), none, .int2 .eql (T 64) (T 65)⟩, ⟨(some 67), none, .mov (T 66)⟩, ⟨(some 68), (some (67, true)), .call (.func 24) []⟩, ⟨(some 69), none, .pick (T 67) (T 68) (.const (.bool false))⟩, ⟨(some 6), none, .mov (T 69)⟩]) .ret) .skip)) (.seq (.seq (.ops [⟨(some 70), none, .mov (T 12)⟩, ⟨(some 71), none, .int2 .neq (T 70) (.const (.int .i64 (0)))⟩, ⟨(some 72), none, .mov (T 71)⟩, ⟨(some 73), (some (72, false)), .mov (T 11)⟩, ⟨(some 74), (some (72, false)), .len (T 73)⟩, ⟨(some 75), (some (72, false)), .mov (T 9)⟩, ⟨(some 76), (some (72, false)), .int2 .neq (T 74) (T 75)⟩, ⟨(some 77), none, .pick (T 72) (.const (.bool true)) (T 76)⟩]) (.cond (T 77) (.seq (.ops [⟨(some 6), none, .mov (.const (.bool false))⟩]) .ret) .skip)) (.seq (.ops [⟨(some 15), none, .mov (.const (.bool false))⟩, ⟨(some 16), none, .mov (.const (.bool false))⟩]) (.seq (.seq (.ops [⟨(some 17), none, .mov (.const (.int .i64 (0)))⟩]) (.block 0 (.loop (.seq (.seq (.ops [⟨(some 78), none, .mov (T 17)⟩, ⟨(some 79), none, .mov (T 13)⟩, ⟨(some 80), none, .len (T 79)⟩, ⟨(some 81), none, .int2 .lss (T 78) (T 80)⟩]) (.cond (T 81) .skip (.exit 0))) (.seq (.block 1 (.seq (.draw [⟨.rd1, ⟨(some 84), none, .loadN 7 (T 3)⟩⟩, ⟨.free, ⟨(some 85), none, .mov (T 13)⟩⟩, ⟨.free, ⟨(some 86), none, .mov (T 17)⟩⟩, ⟨.free, ⟨(some 87), none, .idxSl 3 (T 85) (T 86)⟩⟩, ⟨.rd1, ⟨(some 88), none, .loadN 3 (T 87)⟩⟩, ⟨.free, ⟨(some 89), none, .mov (T 7)⟩⟩, ⟨.free, ⟨(some 90), none, .mov (T 8)⟩⟩, ⟨.free, ⟨(some 91), none, .mov (T 10)⟩⟩, ⟨.free, ⟨(some 92), none, .int2 .add (T 90) (T 91)⟩⟩, ⟨.any, ⟨(some 93), none, .call (.func 33) [(T 84), (T 88), (T 89), (T 92)]⟩⟩, ⟨.free, ⟨(some 18), none, .mov (T 93)⟩⟩]) (.draw [⟨.free, ⟨(some 94), none, .mov (T 15)⟩⟩, ⟨.free, ⟨(some 95), none, .mov (T 94)⟩⟩, ⟨.free, ⟨(some 96), (some (95, false)), .mov (T 18)⟩⟩, ⟨.free, ⟨(some 97), (some (95, false)), .mov (T 11)⟩⟩, ⟨.free, ⟨(some 98), (some (95, false)), .mov (T 10)⟩⟩, ⟨.free, ⟨(some 99), (some (95, false)), .idxSl 2 (T 97) (T 98)⟩⟩, ⟨.free, ⟨(some 100), (some (95, false)), .fieldAddr 0 (T 99)⟩⟩, ⟨.rd1, ⟨(some 101), (some (95, false)), .load1 (T 100)⟩⟩, ⟨.free, ⟨(some 102), (some (95, false)), .int2 .eql (T 96) (T 101)⟩⟩, ⟨.free, ⟨(some 103), none, .pick (T 95) (.const (.bool true)) (T 102)⟩⟩, ⟨.free, ⟨(some 104), none, .mov (T 16)⟩⟩, ⟨.free, ⟨(some 105), none, .mov (T 104)⟩⟩, ⟨.free, ⟨(some 106), (some (105, false)), .mov (T 18)⟩⟩, ⟨.free, ⟨(some 107), (some (105, false)), .mov (T 11)⟩⟩, ⟨.free, ⟨(some 108), (some (105, false)), .mov (T 10)⟩⟩, ⟨.free, ⟨(some 109), (some (105, false)), .idxSl 2 (T 107) (T 108)⟩⟩, ⟨.free, ⟨(some 110), (some (105, false)), .fieldAddr 1 (T 109)⟩⟩, ⟨.rd1, ⟨(some 111), (some (105, false)), .load1 (T 110)⟩⟩, ⟨.free, ⟨(some 112), (some (105, false)), .int2 .eql (T 106) (T 111)⟩⟩, ⟨.free, ⟨(some 113), none, .pick (T 105) (.const (.bool true)) (T 112)⟩⟩, ⟨.free, ⟨(some 15), none, .mov (T 103)⟩⟩, ⟨.free, ⟨(some 16), none, .mov (T 113)⟩⟩]))) (.ops [⟨(some 82), none, .mov (T 17)⟩, ⟨(some 83), none, .int2 .add (T 82) (.const (.int .i64 (1)))⟩, ⟨(some 17), none, .mov (T 83)⟩])))))) (.seq (.ops [⟨(some 114), none, .mov (T 15)⟩, ⟨(some 115), none, .mov (T 114)⟩, ⟨(some 116), (some (115, true)), .mov (T 16)⟩, ⟨(some 117), none, .pick (T 115) (T 116) (.const (.bool false))⟩, ⟨(some 118), none, .mov (T 117)⟩, ⟨(some 119), (some (118, true)), .call (.func 24) []⟩, ⟨(some 120), none, .pick (T 118) (T 119) (.const (.bool false))⟩, ⟨(some 6), none, .mov (T 120)⟩]) .ret)))))))))))))
theorem fok12 : FnOk Try.prog 12 121 s12 [.tmp 6] := ⟨Try.f12, _, Try.func12, rfl, Try.ntmps12, by kernel_rfl, by kernel_rfl⟩
set_option maxHeartbeats 2000000 in
theorem ends_c (hn : 3000 ≤ n) (hr : h.next + 4000000 < far) (hfl : h.floor ≤ h.next) {wv vv sv : Value} {S : MS} (hy : SteepR h wv vv sv S) (a1 : Int) (wf1 : (Lit.int .u8 a1).wf = true) (a2 : Int) (wf2 : (Lit.int .u8 a2).wf = true) :
    ∃ v h', call n (.func (.func 12) #[] #[]) [.agg ⟨stL S wv vv sv⟩, .int .u8 a1, .int .u8 a2] h = some (v, h') ∧ v = .bool true := by
  obtain ⟨n, rfl⟩ : ∃ p, n = p + 1 := ⟨n - 1, by omega⟩
  obtain ⟨w1, rfl, hw1⟩ := wf8 wf1
  obtain ⟨w2, rfl, hw2⟩ := wf8 wf2
  refine call_any0 fok12 rfl rfl (by simp) ?_
  simp only [s12, W_seq, W_ops]
  refine ops_box (cs := stL S wv vv sv) (by omega) rfl hy.one fun g1 hx1 => ?_
  have n1 := hx1.next
  have f1 := hx1.floor
  have hy1 := hy.mono hx1.sub
  have r1 := hx1.row
  have er := ready_c (n := n) (h := g1) (by omega) (by omega) hy1
  by_cases hTf : ThinS S ∧ faultS S = 0
  case neg =>
    simp only [rn0, rn1, rn2, rn3, rn4, rn5, rn6, rn7, rn8, if_true, if_false, Nat.le_refl, true_and, and_true, decide_true, decide_false, Bool.not_true, Bool.not_false, reduceIte, Nat.reduceEqDiff, Nat.reduceAdd, Nat.reduceMul, Nat.reduceSub, Nat.reduceLeDiff, Nat.reduceLT, r1.whole (n := 7) rfl, er, hTf, awake_c (n := n) (h := g1) (by omega)]
  have hdt : decide (ThinS S ∧ faultS S = 0) = true := decide_eq_true hTf
  obtain ⟨hT, hf⟩ := hTf
  rw [hdt] at er
  have hG := good_of hf
  by_cases hz : S.nv = 0
  · have hz' : (S.nv : Int) = 0 := by omega
    simp only [rn0, rn1, rn2, rn3, rn4, rn5, rn6, rn7, rn8, if_true, if_false, Nat.le_refl, true_and, and_true, decide_true, decide_false, Bool.not_true, Bool.not_false, reduceIte, Nat.reduceEqDiff, Nat.reduceAdd, Nat.reduceMul, Nat.reduceSub, Nat.reduceLeDiff, Nat.reduceLT, r1.whole (n := 7) rfl, er, r1.ld, stg, Nat.zero_add, Cells.len hy1.v, hz', awake_c (n := n) (h := g1) (by omega)]
  have hz' : ¬ (S.nv : Int) = 0 := by omega
  obtain ⟨zl0, zl5, zw, zw6, zv4, _⟩ := hG.sizes
  obtain ⟨o, ho⟩ : ∃ o : Nat, o = w1 % S.nv := ⟨_, rfl⟩
  have hov : o < S.nv := by rw [ho]; exact Nat.mod_lt _ (by omega)
  have ho' : (w1 : Int).tmod (S.nv : Int) = (o : Int) := by rw [ho]; rfl
  obtain ⟨m1', m2', m3'⟩ := hoursN_ok hG hov
  obtain ⟨⟨vb1, vb2⟩, _⟩ := hG.args.vat o hov
  have ws1 : wrapF .i64 (S.last - S.vb o) = S.last - S.vb o := wrap_in (by omega) (by omega)
  have ws2 : wrapF .i64 (S.last - S.vb o + 1) = (hoursN S o : Int) := by rw [wrap_in (by omega) (by omega), m1']
  obtain ⟨q, hq⟩ : ∃ q : Nat, q = w2 % hoursN S o := ⟨_, rfl⟩
  have hqv : q < hoursN S o := by rw [hq]; exact Nat.mod_lt _ (by omega)
  have hq' : (w2 : Int).tmod (hoursN S o : Int) = (q : Int) := by rw [hq]; rfl
  have zh : ¬ (hoursN S o : Int) = 0 := by omega
  obtain ⟨w3, v3, s3, g2, e2, hy2, o2, u2, m2, f2⟩ := steepL_c (n := n) (h := g1) (by omega) (by omega) (by omega) hy1 hT
  have sub2 : Sub All g1 g2 := AHeap.subOf o2
  obtain ⟨pv, g3, e3, sub3, u3, m3, f3, hp⟩ := out_c (n := n) (h := g2) (by omega) (by omega) (by omega) hy2 hT (o : Int)
  have sub13 := sub2.trans sub3
  have hy3 := hy1.mono sub13
  have r3 := r1.mono sub13
  obtain ⟨av, g4, e4, o4, u4, m4, f4, ha⟩ := asked_c (n := n) (h := g3) (by omega) (by omega) (by omega) hy3 hT (ok := true)
  have sub4 : Sub All g3 g4 := AHeap.subOf o4
  have haw := awake_c (n := n) (h := g4) (by omega)
  have z110 : ¬ (11 : Int) = 0 := by decide
  have hin : InV S (o : Int) := by unfold InV; omega
  simp only [rn0, rn1, rn2, rn3, rn4, rn5, rn6, rn7, rn8, if_true, if_false, Nat.le_refl, true_and, and_true, decide_true, decide_false, Bool.not_true, Bool.not_false, reduceIte, Nat.reduceEqDiff, Nat.reduceAdd, Nat.reduceMul, Nat.reduceSub, Nat.reduceLeDiff, Nat.reduceLT, r1.whole (n := 7) rfl, er, r1.ld, stg, Nat.zero_add, Nat.add_zero, Cells.len hy1.v, hz', p_conv8, r_8 hw1, r_8 hw2, valN_tmp, valN_const, Nat.reduceLT, p_rem, r_rem hz', ho', Cells.idx hy1.v hov, Cells.fld hy1.v hov, begin_ld hy1 hov, ws1, ws2, r_rem zh, hq', e2, e3, r3.whole (n := 7) rfl, e4, x_extract]
  rcases hp with ⟨h0, _⟩ | ⟨_, h0, _⟩ | ⟨_, _, hz0, rfl⟩ | ⟨_, _, hz0, r, rfl, hr3⟩
  · exact absurd hf h0
  · exact absurd hin h0
  · rcases ha with ⟨h0, _⟩ | ⟨_, h0, _⟩ | ⟨_, _, _, rfl⟩ | ⟨_, _, h0, _⟩
    · exact absurd hf h0
    · cases h0
    · simp only [rn0, rn1, rn2, rn3, rn4, rn5, rn6, rn7, rn8, if_true, if_false, Nat.le_refl, true_and, and_true, decide_true, decide_false, Bool.not_true, Bool.not_false, reduceIte, Nat.reduceEqDiff, Nat.reduceAdd, Nat.reduceMul, Nat.reduceSub, Nat.reduceLeDiff, Nat.reduceLT, ex0, ex1, r3.whole (n := 7) rfl, e4, z110, haw]
    · exact absurd hz0 h0
  · rcases ha with ⟨h0, _⟩ | ⟨_, h0, _⟩ | ⟨_, _, h0, _⟩ | ⟨_, _, _, l, rfl, hl1, hl⟩
    · exact absurd hf h0
    · cases h0
    · exact absurd h0 hz0
    have hr4 : Ranges g4 r (hoursN S o) (loB S o (truthsS S) ((truthsS S).length - 1)) (hiB S o (truthsS S) ((truthsS S).length - 1)) := Cells.mono hr3 sub4
    have hy4 := hy3.mono sub4
    have r4 := r3.mono sub4
    have hRne : refTruths S ≠ [] := fun e => hz0 ((ref_nil hG).1 e)
    have hRlen : (refTruths S).length ≤ 2000 := Nat.le_trans refTo_len (by have := many_pos hG; omega)
    obtain ⟨R1, R2, hc, hqq⟩ := hl
    have elo : loB S o (truthsS S) ((truthsS S).length - 1) q = loN (fun t => blueS S t o (S.vb o + (q : Int))) (refTruths S) := (show loN (fun t => blueS S t o (S.vb o + (q : Int))) (refTruths S) = loN (fun t => blueS S t o (S.vb o + (q : Int))) (truthsS S) from loN_map hRne hz0 (fun t ht => ⟨t, (refTruths_mem hG).1 ht, rfl⟩) (fun t ht => ⟨t, (refTruths_mem hG).2 ht, rfl⟩)).symm
    have ehi : hiB S o (truthsS S) ((truthsS S).length - 1) q = hiN (fun t => blueS S t o (S.vb o + (q : Int))) (refTruths S) := (show hiN (fun t => blueS S t o (S.vb o + (q : Int))) (refTruths S) = hiN (fun t => blueS S t o (S.vb o + (q : Int))) (truthsS S) from hiN_map hRne hz0 (fun t ht => ⟨t, (refTruths_mem hG).1 ht, rfl⟩) (fun t ht => ⟨t, (refTruths_mem hG).2 ht, rfl⟩)).symm
    have llo : loadCell g4 (ptrO r 2 q 0) = some (.int .i64 (loN (fun t => blueS S t o (S.vb o + (q : Int))) (refTruths S))) := by rw [← elo]; exact Cells.ld hr4 hqv (by omega)
    have lhi : loadCell g4 (ptrO r 2 q 1) = some (.int .i64 (hiN (fun t => blueS S t o (S.vb o + (q : Int))) (refTruths S))) := by rw [← ehi]; exact Cells.ld hr4 hqv (by omega)
    have hwb : wrapF .i64 (S.vb o + (q : Int)) = S.vb o + (q : Int) := wrap_in (by omega) (by omega)
    have hho := hour_at hG hov hqv
    obtain ⟨kl, hkl, ekl⟩ := lo_at (val := fun t => blueS S t o (S.vb o + (q : Int))) hRne
    obtain ⟨kh, hkh, ekh⟩ := hi_at (val := fun t => blueS S t o (S.vb o + (q : Int))) hRne
    generalize hlo : loN (fun t => blueS S t o (S.vb o + (q : Int))) (refTruths S) = lo at *
    generalize hhi : hiN (fun t => blueS S t o (S.vb o + (q : Int))) (refTruths S) = hi at *
    simp only [rn0, rn1, rn2, rn3, rn4, rn5, rn6, rn7, rn8, if_true, if_false, Nat.le_refl, true_and, and_true, decide_true, decide_false, Bool.not_true, Bool.not_false, reduceIte, Nat.reduceEqDiff, Nat.reduceAdd, Nat.reduceMul, Nat.reduceSub, Nat.reduceLeDiff, Nat.reduceLT, ex0, ex1, r3.whole (n := 7) rfl, e4, Cells.len hr4]
    refine W_loop (refTruths S).length (fun k f g ms => g = g4 ∧ ms = [] ∧ f 3 = .pointer (some ⟨h.next, 0, none⟩) ∧ f 7 = .int .i64 (o : Int) ∧ f 8 = .int .i64 (S.vb o) ∧ f 10 = .int .i64 (q : Int) ∧ f 11 = r ∧ f 13 = l ∧ f 15 = .bool (seen (fun i => blueS S ((refTruths S).getD i fun _ => 0) o (S.vb o + (q : Int)) = lo) k) ∧ f 16 = .bool (seen (fun i => blueS S ((refTruths S).getD i fun _ => 0) o (S.vb o + (q : Int)) = hi) k) ∧ f 17 = .int .i64 (k : Int)) (by simp; omega) ?_ ?_ ?_
    · simp only [rn0, rn1, rn2, rn3, rn4, rn5, rn6, rn7, rn8, if_true, if_false, Nat.le_refl, true_and, and_true, decide_true, decide_false, Bool.not_true, Bool.not_false, reduceIte, Nat.reduceEqDiff, Nat.reduceAdd, Nat.reduceMul, Nat.reduceSub, Nat.reduceLeDiff, Nat.reduceLT, seen_zero]
      first | done | exact ⟨rfl, rfl⟩ | trivial
    · rintro k f g ms hk ⟨rfl, rfl, p3, p7, p8, p10, p11, p13, p15, p16, p17⟩
      have hk' : (k : Int) < ((refTruths S).length : Int) := by omega
      have hw : wrapF .i64 ((k : Int) + 1) = ((k + 1 : Nat) : Int) := by rw [wrap_in (by omega) (by omega)]; rfl
      have hut : InU S ((refTruths S).getD k fun _ => 0) := (truths_mem.1 ((refTruths_mem hG).1 (getD_mem hk))).1.1
      have eb := blue_c (n := n) (h := g) (by omega) (by omega) hy4 (hqq k hk) hG hut hho (sp := ((refTruths S).getD k fun _ => 0) S.nw)
      simp only [rn0, rn1, rn2, rn3, rn4, rn5, rn6, rn7, rn8, if_true, if_false, Nat.le_refl, true_and, and_true, decide_true, decide_false, Bool.not_true, Bool.not_false, reduceIte, Nat.reduceEqDiff, Nat.reduceAdd, Nat.reduceMul, Nat.reduceSub, Nat.reduceLeDiff, Nat.reduceLT, p3, p7, p8, p10, p11, p13, p15, p16, p17, Cells.len hc, hk']
      refine W_draw All ?_
      simp only [rn0, rn1, rn2, rn3, rn4, rn5, rn6, rn7, rn8, if_true, if_false, Nat.le_refl, true_and, and_true, decide_true, decide_false, Bool.not_true, Bool.not_false, reduceIte, Nat.reduceEqDiff, Nat.reduceAdd, Nat.reduceMul, Nat.reduceSub, Nat.reduceLeDiff, Nat.reduceLT, p3, p7, p8, p10, p11, p13, p15, p16, p17, r4.whole (n := 7) rfl, Cells.idx hc hk, trs_ld hc hk, hwb, eb]
      refine W_draw All ?_
      have stp : ∀ (x : Int) (b : Bool), seen (fun i => blueS S ((refTruths S).getD i fun _ => 0) o (S.vb o + (q : Int)) = x) k = b → seen (fun i => blueS S ((refTruths S).getD i fun _ => 0) o (S.vb o + (q : Int)) = x) (k + 1) = (b || decide (blueS S ((refTruths S).getD k fun _ => 0) o (S.vb o + (q : Int)) = x)) := fun x b hb => by
        cases b with
        | true => rw [seen_old hb]; rfl
        | false =>
          by_cases e : blueS S ((refTruths S).getD k fun _ => 0) o (S.vb o + (q : Int)) = x
          · rw [seen_new (p := fun i => blueS S ((refTruths S).getD i fun _ => 0) o (S.vb o + (q : Int)) = x) e, decide_eq_true e]; rfl
          · rw [seen_not hb e, decide_eq_false e]; rfl
      cases b1 : seen (fun i => blueS S ((refTruths S).getD i fun _ => 0) o (S.vb o + (q : Int)) = lo) k <;> cases b2 : seen (fun i => blueS S ((refTruths S).getD i fun _ => 0) o (S.vb o + (q : Int)) = hi) k
      all_goals
        rw [b1] at p15
        rw [b2] at p16
        have s1 := stp lo _ b1
        have s2 := stp hi _ b2
        simp only [rn0, rn1, rn2, rn3, rn4, rn5, rn6, rn7, rn8, if_true, if_false, Nat.le_refl, true_and, and_true, decide_true, decide_false, Bool.not_true, Bool.not_false, reduceIte, Nat.reduceEqDiff, Nat.reduceAdd, Nat.reduceMul, Nat.reduceSub, Nat.reduceLeDiff, Nat.reduceLT, p3, p7, p8, p10, p11, p13, p15, p16, p17, Cells.idx hr4 hqv, Cells.fld hr4 hqv, llo, lhi, s1, s2, hw, d_guard, dg_tt, dg_tf, dg_ft, dg_ff, Bool.true_or, Bool.false_or]
    · rintro f g ms ⟨rfl, rfl, p3, p7, p8, p10, p11, p13, p15, p16, p17⟩
      rw [seen_all (p := fun i => blueS S ((refTruths S).getD i fun _ => 0) o (S.vb o + (q : Int)) = lo) hkl ekl] at p15
      rw [seen_all (p := fun i => blueS S ((refTruths S).getD i fun _ => 0) o (S.vb o + (q : Int)) = hi) hkh ekh] at p16
      simp only [rn0, rn1, rn2, rn3, rn4, rn5, rn6, rn7, rn8, if_true, if_false, Nat.le_refl, true_and, and_true, decide_true, decide_false, Bool.not_true, Bool.not_false, reduceIte, Nat.reduceEqDiff, Nat.reduceAdd, Nat.reduceMul, Nat.reduceSub, Nat.reduceLeDiff, Nat.reduceLT, p3, p7, p8, p10, p11, p13, p15, p16, p17, Cells.len hc, Int.lt_irrefl, haw]
end Go.Vm.St
