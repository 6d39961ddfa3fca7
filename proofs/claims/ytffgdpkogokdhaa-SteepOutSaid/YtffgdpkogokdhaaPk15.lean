/- Texts of the proofs of this seat, put together: StMem, StOut, StOutL. -/
import Derived.Test.YtffgdpkogokdhaaPk14

namespace Go.Vm.St
open Go.Proofs Go.Vm.Vat
set_option linter.unusedSimpArgs false
set_option linter.unusedVariables false
set_option maxRecDepth 10000
variable {n : Nat} {h : AHeap}
/-! ### The reference's truths are the truths, in another order -/
theorem unpos_pos {S : MS} {i : Nat} : unpos S (posU S i) = i := by
  unfold unpos posU
  by_cases c1 : i < S.nw
  · rw [if_pos c1, if_neg (by omega), if_pos (by omega)]; omega
  · rw [if_neg c1]
    by_cases c2 : i = S.nw
    · rw [if_pos c2, if_pos rfl, c2]
    · rw [if_neg c2, if_neg (by omega), if_neg (by omega)]
theorem sizeR {S : MS} : sizeN (rLo S) (rHi S) (numU S) = sizeN (uLo S) (uHi S) (numU S) := by
  rw [sizeU]
  have e : numU S = (1 + S.nw) + S.nv := by unfold numU; omega
  rw [e, sizeN_split, sizeN_split]
  have e1 : sizeN (rLo S) (rHi S) 1 = S.sphi - S.splo + 1 := by simp [sizeN, rLo, rHi]
  have e2 : sizeN (fun k => rLo S (1 + k)) (fun k => rHi S (1 + k)) S.nw = sizeN S.wlo S.whi S.nw := sizeN_congr _ fun k hk => by
    simp only [rLo, rHi]
    rw [if_neg (by omega), if_pos (by omega), if_neg (by omega), if_pos (by omega), show 1 + k - 1 = k by omega]
    exact ⟨rfl, rfl⟩
  have e3 : sizeN (fun k => rLo S (1 + S.nw + k)) (fun k => rHi S (1 + S.nw + k)) S.nv = sizeN S.vlo S.vhi S.nv := by
    by_cases c : S.nv = 0
    · rw [c]; rfl
    refine sizeN_congr _ fun k hk => ?_
    simp only [rLo, rHi]
    rw [if_neg (by omega), if_neg (by omega), if_neg (by omega), if_neg (by omega), show 1 + S.nw + k - S.nw - 1 = k by omega]
    exact ⟨rfl, rfl⟩
  rw [e1, e2, e3, ← Int.mul_assoc, Int.mul_comm (sizeN S.wlo S.whi S.nw)]
theorem refTruths_mem {S : MS} (hG : Good S) {x : Nat → Int} : x ∈ refTruths S ↔ x ∈ truthsS S := by
  have hr : ∀ j, j < numU S → rLo S j ≤ rHi S j := fun j hj => (hG.r hj).2.1
  have h1 := many_size hG.args
  have h2 := hG.few
  have hprod := sizeN_prod (lo := rLo S) (hi := rHi S) (numU S) 0
  simp only [Nat.zero_add, sizeN, Int.one_mul] at hprod
  have hpN := prodN_from (lo := rLo S) (hi := rHi S) (numU S) 0 fun j _ hj => hr j (by omega)
  have hsR := sizeR (S := S)
  obtain ⟨mp1, _⟩ := many_pos hG
  have hM : (manyS S).toNat = prodN (sz (rLo S) (rHi S)) (numU S) 0 := by omega
  rw [truths_mem]
  unfold refTruths refTo
  rw [List.mem_filter, List.mem_map]
  simp only [List.mem_range, decide_eq_true_eq]
  constructor
  · rintro ⟨⟨m, _, rfl⟩, h2⟩
    exact ⟨⟨nthU_in hG, fun j hj => by rw [nthU, if_neg (by omega)]⟩, h2⟩
  · rintro ⟨⟨h1, h2⟩, h3⟩
    have hin : ∀ j, j < numU S → rLo S j ≤ x (unpos S j) ∧ x (unpos S j) ≤ rHi S j := fun j hj => by
      have := h1 (unpos S j) (unpos_lt hj)
      have e := r_pos (S := S) (i := unpos S j)
      rw [pos_unpos] at e
      rw [e.1, e.2]
      exact this
    have hd : ∀ j, j < numU S → (x (unpos S j) - rLo S j).toNat < sz (rLo S) (rHi S) j := fun j hj => by
      have := hin j hj
      show (x (unpos S j) - rLo S j).toNat < (rHi S j - rLo S j + 1).toNat
      omega
    refine ⟨⟨encF (sz (rLo S) (rHi S)) (fun j => (x (unpos S j) - rLo S j).toNat) (numU S) 0, ?_, ?_⟩, h3⟩
    · rw [hM]
      exact encF_lt (numU S) 0 fun j _ hj => hd j (by omega)
    · funext i
      by_cases hi : i < numU S
      · have hp := pos_lt hi
        have hq := hin _ hp
        rw [nthU, if_pos hi]
        unfold digU
        rw [show rSz S = sz (rLo S) (rHi S) from rfl, encF_mod hd hp]
        rw [unpos_pos] at hq ⊢
        omega
      · rw [nthU, if_neg hi, h2 i (by omega)]
/-- asked: the error, or the truths -/
def AskR (h : AHeap) (S : MS) (ok : Bool) (v : Value) (h' : AHeap) : Prop := (∀ i, i < h.next → h'.get i = h.get i) ∧ h.next ≤ h'.next ∧ h'.next ≤ h.next + 500100 ∧ h'.floor = h.floor ∧
  ((faultS S ≠ 0 ∧ v = .tuple ⟨[nilS, .int .i64 (faultS S)]⟩) ∨ (faultS S = 0 ∧ ok = false ∧ v = .tuple ⟨[nilS, .int .i64 2]⟩) ∨ (faultS S = 0 ∧ ok = true ∧ truthsS S = [] ∧ v = .tuple ⟨[nilS, .int .i64 11]⟩) ∨
    (faultS S = 0 ∧ ok = true ∧ truthsS S ≠ [] ∧ ∃ l, v = .tuple ⟨[l, .int .i64 0]⟩ ∧ oneCell l = true ∧ TruthsL h' l S (refTruths S)))
theorem ref_nil {S : MS} (hG : Good S) : refTruths S = [] ↔ truthsS S = [] := by
  constructor
  · intro e
    refine List.eq_nil_iff_forall_not_mem.2 fun x hx => ?_
    have := (refTruths_mem hG).2 hx
    rw [e] at this
    cases this
  · intro e
    refine List.eq_nil_iff_forall_not_mem.2 fun x hx => ?_
    have := (refTruths_mem hG).1 hx
    rw [e] at this
    cases this
def s36 : SCode := (.seq (.ops [⟨(some 2), none, .box (T 0)⟩, ⟨(some 4), none, .mov (.const (.slice none 0 0))⟩, ⟨(some 5), none, .mov (.const (.int .i64 (0)))⟩]) (.seq (.seq (.ops [⟨(some 8), none, .loadN 7 (T 2)⟩, ⟨(some 9), none, .call (.func 29) [(T 8)]⟩, ⟨(some 6), none, .mov (T 9)⟩]) (.seq (.ops [⟨(some 10), none, .mov (T 6)⟩, ⟨(some 11), none, .int2 .neq (T 10) (.const (.int .i64 (0)))⟩]) (.cond (T 11) (.seq (.ops [⟨(some 12), none, .mov (T 6)⟩, ⟨(some 4), none, .mov (.const (.slice none 0 0))⟩, ⟨(some 5), none, .mov (T 12)⟩]) .ret) .skip))) (.seq (.seq (.ops [⟨(some 13), none, .mov (T 1)⟩, ⟨(some 14), none, .not (T 13)⟩]) (.cond (T 14) (.seq (.ops [⟨(some 4), none, .mov (.const (.slice none 0 0))⟩, ⟨(some 5), none, .mov (.const (.int .i64 (2)))⟩]) .ret) .skip)) (.seq (.ops [⟨(some 15), none, .loadN 7 (T 2)⟩, ⟨(some 16), none, .call (.func 68) [(T 15)]⟩, ⟨(some 7), none, .mov (T 16)⟩]) (.seq (.seq (.ops [⟨(some 17), none, .mov (T 7)⟩, ⟨(some 18), none, .len (T 17)⟩, ⟨(some 19), none, .int2 .eql (T 18) (.const (.int .i64 (0)))⟩]) (.cond (T 19) (.seq (.ops [⟨(some 4), none, .mov (.const (.slice none 0 0))⟩, ⟨(some 5), none, .mov (.const (.int .i64 (11)))⟩]) .ret) .skip)) (.seq (.ops [⟨(some 20), none, .mov (T 7)⟩, ⟨(some 4), none, .mov (T 20)⟩, ⟨(some 5), none, .mov (.const (.int .i64 (0)))⟩]) .ret))))))
theorem fok36 : FnOk Try.prog 36 21 s36 [.tmp 4, .tmp 5] := ⟨Try.f36, _, Try.func36, rfl, Try.ntmps36, by kernel_rfl, by kernel_rfl⟩
theorem asked_c (hn : 2210 ≤ n) (hr : h.next + 1100000 < far) (hfl : h.floor ≤ h.next) {wv vv sv : Value} {S : MS} (hy : SteepR h wv vv sv S) (hT : ThinS S) {ok : Bool} :
    ∃ v h', call n (.func (.func 36) #[] #[]) [.agg ⟨stL S wv vv sv⟩, .bool ok] h = some (v, h') ∧ AskR h S ok v h' := by
  obtain ⟨n, rfl⟩ : ∃ p, n = p + 1 := ⟨n - 1, by omega⟩
  refine call_any0 fok36 rfl rfl (by simp) ?_
  simp only [s36, W_seq, W_ops]
  refine ops_box (cs := stL S wv vv sv) (by omega) rfl hy.one fun g1 hx1 => ?_
  have n1 := hx1.next
  have f1' := hx1.floor
  have hy1 := hy.mono hx1.sub
  have w1 := hx1.row.whole (n := 7) rfl
  have ef := faultL_c (n := n) (h := g1) (by omega) (by omega) hy1 hT
  by_cases hf : faultS S = 0
  case neg =>
    simp only [rn0, rn1, rn2, rn3, rn4, rn5, rn6, rn7, rn8, if_true, if_false, Nat.le_refl, true_and, and_true, decide_true, decide_false, Bool.not_true, Bool.not_false, reduceIte, Nat.reduceEqDiff, Nat.reduceAdd, Nat.reduceMul, Nat.reduceSub, Nat.reduceLeDiff, Nat.reduceLT, w1, ef, hf, ret_tt]
    exact ⟨fun i hi => hx1.old i hi, by omega, by omega, by omega, .inl ⟨hf, rfl⟩⟩
  have hG := good_of hf
  cases ok with
  | false =>
    simp only [rn0, rn1, rn2, rn3, rn4, rn5, rn6, rn7, rn8, if_true, if_false, Nat.le_refl, true_and, and_true, decide_true, decide_false, Bool.not_true, Bool.not_false, reduceIte, Nat.reduceEqDiff, Nat.reduceAdd, Nat.reduceMul, Nat.reduceSub, Nat.reduceLeDiff, Nat.reduceLT, w1, ef, hf, ret_tt]
    exact ⟨fun i hi => hx1.old i hi, by omega, by omega, by omega, .inr (.inl ⟨hf, rfl, rfl⟩)⟩
  | true =>
    obtain ⟨v, g2, e2, ht, o1, o2, u2, m2, f2⟩ := truthsRef_c (n := n) (h := g1) (by omega) (by omega) (by omega) hy1 hG
    have hold : ∀ i, i < h.next → g2.get i = h.get i := fun i hi => by rw [o2 i (by omega), hx1.old i hi]
    have hlen : ((refTruths S).length : Int) = 0 ↔ truthsS S = [] := by
      rw [← ref_nil hG, ← List.length_eq_zero_iff]; omega
    by_cases hz : truthsS S = []
    · have hz' := hlen.2 hz
      simp only [rn0, rn1, rn2, rn3, rn4, rn5, rn6, rn7, rn8, if_true, if_false, Nat.le_refl, true_and, and_true, decide_true, decide_false, Bool.not_true, Bool.not_false, reduceIte, Nat.reduceEqDiff, Nat.reduceAdd, Nat.reduceMul, Nat.reduceSub, Nat.reduceLeDiff, Nat.reduceLT, w1, ef, hf, e2, Cells.len ht.choose_spec.choose_spec.1, hz', ret_tt]
      exact ⟨hold, by omega, by omega, by omega, .inr (.inr (.inl ⟨hf, rfl, hz, rfl⟩))⟩
    · have hz' : ¬ ((refTruths S).length : Int) = 0 := fun e => hz (hlen.1 e)
      simp only [rn0, rn1, rn2, rn3, rn4, rn5, rn6, rn7, rn8, if_true, if_false, Nat.le_refl, true_and, and_true, decide_true, decide_false, Bool.not_true, Bool.not_false, reduceIte, Nat.reduceEqDiff, Nat.reduceAdd, Nat.reduceMul, Nat.reduceSub, Nat.reduceLeDiff, Nat.reduceLT, w1, ef, hf, e2, Cells.len ht.choose_spec.choose_spec.1, hz', ret_tt]
      exact ⟨hold, by omega, by omega, by omega, .inr (.inr (.inr ⟨hf, rfl, hz, v, rfl, o1, ht⟩))⟩
end Go.Vm.St

namespace Go.Vm.St
open Go.Proofs Go.Vm.Vat
set_option linter.unusedSimpArgs false
set_option linter.unusedVariables false
set_option maxRecDepth 10000
variable {n : Nat} {h : AHeap}
/-- what 'Out' answers -/
def OutR (h : AHeap) (S : MS) (at_ : Int) (v : Value) (h' : AHeap) : Prop := Sub All h h' ∧ h.next ≤ h'.next ∧ h'.next ≤ h.next + 700000 ∧ h'.floor = h.floor ∧
  ((faultS S ≠ 0 ∧ v = .tuple ⟨[nilS, .int .i64 (faultS S)]⟩) ∨ (faultS S = 0 ∧ ¬ InV S at_ ∧ v = .tuple ⟨[nilS, .int .i64 2]⟩) ∨ (faultS S = 0 ∧ InV S at_ ∧ truthsS S = [] ∧ v = .tuple ⟨[nilS, .int .i64 11]⟩) ∨
    (faultS S = 0 ∧ InV S at_ ∧ truthsS S ≠ [] ∧ ∃ r, v = .tuple ⟨[r, .int .i64 0]⟩ ∧ Ranges h' r (hoursN S at_.toNat) (loB S at_.toNat (truthsS S) ((truthsS S).length - 1)) (hiB S at_.toNat (truthsS S) ((truthsS S).length - 1))))
def s35 : SCode := (.seq (.ops [⟨(some 2), none, .box (T 0)⟩, ⟨(some 4), none, .mov (.const (.slice none 0 0))⟩, ⟨(some 5), none, .mov (.const (.int .i64 (0)))⟩]) (.seq (.ops [⟨(some 9), none, .loadN 7 (T 2)⟩, ⟨(some 10), none, .mov (T 1)⟩, ⟨(some 11), none, .call (.func 88) [(T 9), (T 10), (.const (.slice none 0 0))]⟩, ⟨(some 8), none, .mov (T 11)⟩, ⟨(some 12), none, .extract 0 (T 8)⟩, ⟨(some 13), none, .extract 1 (T 8)⟩, ⟨(some 6), none, .alloc [(.int .i64 (0)), (.int .i64 (0)), (.slice none 0 0), (.int .i64 (0)), (.int .i64 (0)), (.slice none 0 0), (.slice none 0 0), (.slice none 0 0)]⟩, ⟨none, none, .store 8 (T 6) (T 12)⟩, ⟨(some 7), none, .mov (T 13)⟩]) (.seq (.seq (.ops [⟨(some 14), none, .mov (T 7)⟩, ⟨(some 15), none, .int2 .neq (T 14) (.const (.int .i64 (0)))⟩]) (.cond (T 15) (.seq (.ops [⟨(some 16), none, .mov (T 7)⟩, ⟨(some 4), none, .mov (.const (.slice none 0 0))⟩, ⟨(some 5), none, .mov (T 16)⟩]) .ret) .skip)) (.seq (.ops [⟨(some 17), none, .build #[(0, 1)] [.nilFunc] [0] [(.func 76)]⟩, ⟨(some 18), none, .loadN 8 (T 6)⟩, ⟨(some 19), none, .mov (T 1)⟩, ⟨(some 20), none, .call (.func 89) [(T 17), (T 18), (T 19)]⟩, ⟨(some 4), none, .mov (T 20)⟩, ⟨(some 5), none, .mov (.const (.int .i64 (0)))⟩]) .ret))))
theorem fok35 : FnOk Try.prog 35 21 s35 [.tmp 4, .tmp 5] := ⟨Try.f35, _, Try.func35, rfl, Try.ntmps35, by kernel_rfl, by kernel_rfl⟩
set_option maxHeartbeats 1000000 in
theorem out_c (hn : 2400 ≤ n) (hr : h.next + 1000000 < far) (hfl : h.floor ≤ h.next) {wv vv sv : Value} {S : MS} (hy : SteepR h wv vv sv S) (hT : ThinS S) (at_ : Int) :
    ∃ v h', call n (.func (.func 35) #[] #[]) [.agg ⟨stL S wv vv sv⟩, .int .i64 at_] h = some (v, h') ∧ OutR h S at_ v h' := by
  obtain ⟨n, rfl⟩ : ∃ p, n = p + 1 := ⟨n - 1, by omega⟩
  refine call_any0 fok35 rfl rfl (by simp) ?_
  simp only [s35, W_seq, W_ops]
  refine ops_box (cs := stL S wv vv sv) (by omega) rfl hy.one fun g1 hx1 => ?_
  have n1 := hx1.next
  have f1 := hx1.floor
  have w1 := hx1.row.whole (n := 7) rfl
  obtain ⟨pv, g2, eo, o2, u2, m2, f2, hp⟩ := openVat_c (n := n) (h := g1) (by omega) (by omega) (by omega) (hy.mono hx1.sub) hT at_
  have sub2 : Sub All h g2 := hx1.sub.trans (AHeap.subOf o2)
  rcases hp with ⟨hf, rfl⟩ | ⟨hf, hv, rfl⟩ | ⟨hf, hv, hz, rfl⟩ | ⟨hf, hv, hz, tv, rfl, hone, htr, hlong⟩
  · simp only [rn0, rn1, rn2, rn3, rn4, rn5, rn6, rn7, rn8, if_true, if_false, Nat.le_refl, true_and, and_true, decide_true, decide_false, Bool.not_true, Bool.not_false, reduceIte, Nat.reduceEqDiff, Nat.reduceAdd, Nat.reduceMul, Nat.reduceSub, Nat.reduceLeDiff, Nat.reduceLT, w1, eo, ex0, ex1]
    refine step_new (vs := wk0) (by omega) (by omega) rfl (by simp only [rn0, rn1, rn2, rn3, rn4, rn5, rn6, rn7, rn8, if_true, if_false, Nat.le_refl, true_and, and_true, decide_true, decide_false, Bool.not_true, Bool.not_false, reduceIte, Nat.reduceEqDiff, Nat.reduceAdd, Nat.reduceMul, Nat.reduceSub, Nat.reduceLeDiff, Nat.reduceLT]; rfl) rfl rfl rfl fun g3 hx3 => ?_
    have n3 := hx3.next
    have f3 := hx3.floor
    simp only [rn0, rn1, rn2, rn3, rn4, rn5, rn6, rn7, rn8, if_true, if_false, Nat.le_refl, true_and, and_true, decide_true, decide_false, Bool.not_true, Bool.not_false, reduceIte, Nat.reduceEqDiff, Nat.reduceAdd, Nat.reduceMul, Nat.reduceSub, Nat.reduceLeDiff, Nat.reduceLT, hf, ret_tt]
    exact ⟨sub2.trans hx3.sub, by omega, by omega, by omega, .inl ⟨hf, rfl⟩⟩
  · simp only [rn0, rn1, rn2, rn3, rn4, rn5, rn6, rn7, rn8, if_true, if_false, Nat.le_refl, true_and, and_true, decide_true, decide_false, Bool.not_true, Bool.not_false, reduceIte, Nat.reduceEqDiff, Nat.reduceAdd, Nat.reduceMul, Nat.reduceSub, Nat.reduceLeDiff, Nat.reduceLT, w1, eo, ex0, ex1]
    refine step_new (vs := wk0) (by omega) (by omega) rfl (by simp only [rn0, rn1, rn2, rn3, rn4, rn5, rn6, rn7, rn8, if_true, if_false, Nat.le_refl, true_and, and_true, decide_true, decide_false, Bool.not_true, Bool.not_false, reduceIte, Nat.reduceEqDiff, Nat.reduceAdd, Nat.reduceMul, Nat.reduceSub, Nat.reduceLeDiff, Nat.reduceLT]; rfl) rfl rfl rfl fun g3 hx3 => ?_
    have n3 := hx3.next
    have f3 := hx3.floor
    have z20 : ¬ (2 : Int) = 0 := by decide
    simp only [rn0, rn1, rn2, rn3, rn4, rn5, rn6, rn7, rn8, if_true, if_false, Nat.le_refl, true_and, and_true, decide_true, decide_false, Bool.not_true, Bool.not_false, reduceIte, Nat.reduceEqDiff, Nat.reduceAdd, Nat.reduceMul, Nat.reduceSub, Nat.reduceLeDiff, Nat.reduceLT, z20, ret_tt]
    exact ⟨sub2.trans hx3.sub, by omega, by omega, by omega, .inr (.inl ⟨hf, hv, rfl⟩)⟩
  · simp only [rn0, rn1, rn2, rn3, rn4, rn5, rn6, rn7, rn8, if_true, if_false, Nat.le_refl, true_and, and_true, decide_true, decide_false, Bool.not_true, Bool.not_false, reduceIte, Nat.reduceEqDiff, Nat.reduceAdd, Nat.reduceMul, Nat.reduceSub, Nat.reduceLeDiff, Nat.reduceLT, w1, eo, ex0, ex1]
    refine step_new (vs := wk0) (by omega) (by omega) rfl (by simp only [rn0, rn1, rn2, rn3, rn4, rn5, rn6, rn7, rn8, if_true, if_false, Nat.le_refl, true_and, and_true, decide_true, decide_false, Bool.not_true, Bool.not_false, reduceIte, Nat.reduceEqDiff, Nat.reduceAdd, Nat.reduceMul, Nat.reduceSub, Nat.reduceLeDiff, Nat.reduceLT]; rfl) rfl rfl rfl fun g3 hx3 => ?_
    have n3 := hx3.next
    have f3 := hx3.floor
    have z110 : ¬ (11 : Int) = 0 := by decide
    simp only [rn0, rn1, rn2, rn3, rn4, rn5, rn6, rn7, rn8, if_true, if_false, Nat.le_refl, true_and, and_true, decide_true, decide_false, Bool.not_true, Bool.not_false, reduceIte, Nat.reduceEqDiff, Nat.reduceAdd, Nat.reduceMul, Nat.reduceSub, Nat.reduceLeDiff, Nat.reduceLT, z110, ret_tt]
    exact ⟨sub2.trans hx3.sub, by omega, by omega, by omega, .inr (.inr (.inl ⟨hf, hv, hz, rfl⟩))⟩
  · have hG := good_of hf
    have how := wk_one hy (tv := tv) hone
    simp only [rn0, rn1, rn2, rn3, rn4, rn5, rn6, rn7, rn8, if_true, if_false, Nat.le_refl, true_and, and_true, decide_true, decide_false, Bool.not_true, Bool.not_false, reduceIte, Nat.reduceEqDiff, Nat.reduceAdd, Nat.reduceMul, Nat.reduceSub, Nat.reduceLeDiff, Nat.reduceLT, w1, eo, ex0, ex1]
    refine step_new (vs := wkL S wv vv sv tv) (by omega) (by omega) rfl (by simp only [rn0, rn1, rn2, rn3, rn4, rn5, rn6, rn7, rn8, if_true, if_false, Nat.le_refl, true_and, and_true, decide_true, decide_false, Bool.not_true, Bool.not_false, reduceIte, Nat.reduceEqDiff, Nat.reduceAdd, Nat.reduceMul, Nat.reduceSub, Nat.reduceLeDiff, Nat.reduceLT]; rfl) how rfl rfl fun g3 hx3 => ?_
    have n3 := hx3.next
    have f3 := hx3.floor
    have sub3 := sub2.trans hx3.sub
    obtain ⟨va, hva⟩ : ∃ va : Nat, at_ = (va : Int) := ⟨at_.toNat, by unfold InV at hv; omega⟩
    subst hva
    have hvn : va < S.nv := by unfold InV at hv; omega
    obtain ⟨r, g4, eb, hr4, hone4, sub4, u4, m4, f4⟩ := bounds_c (n := n) (h := g3) (by omega) (by omega) (by omega) (hy.mono sub3) (tv := tv) hone hG hz (truths_len hG) (fun t ht => (truths_mem.1 ht).1.1) (Cells.mono htr hx3.sub) hlong hvn
    simp only [rn0, rn1, rn2, rn3, rn4, rn5, rn6, rn7, rn8, if_true, if_false, Nat.le_refl, true_and, and_true, decide_true, decide_false, Bool.not_true, Bool.not_false, reduceIte, Nat.reduceEqDiff, Nat.reduceAdd, Nat.reduceMul, Nat.reduceSub, Nat.reduceLeDiff, Nat.reduceLT, build_meas, hx3.row.whole (n := 8) rfl, eb, ret_tt]
    exact ⟨sub3.trans sub4, by omega, by omega, by omega, .inr (.inr (.inr ⟨hf, hv, hz, r, rfl, hr4⟩))⟩
theorem trs_ld {S : MS} {l : Value} {L : List (Nat → Int)} {R1 R2 : Nat → Value} (hc : Cells h l 3 L.length (trsC S L R1 R2)) {k : Nat} (hk : k < L.length) : loadAgg 3 h (ptrO l 3 k 0) = some (.agg ⟨trL (R1 k) (R2 k) ((L.getD k fun _ => 0) S.nw)⟩) := by
  rw [Cells.ldN hc hk (by omega) (by omega)]; simp [List.range_succ, trsC, trL]
def s39 : SCode := (.seq (.ops [⟨(some 4), none, .box (T 0)⟩, ⟨(some 8), none, .alloc [(.int .i64 (0)), (.int .i64 (0))]⟩]) (.seq (.draw [⟨.rd1, ⟨(some 12), none, .loadN 7 (T 4)⟩⟩, ⟨.free, ⟨(some 13), none, .mov (T 1)⟩⟩, ⟨.free, ⟨(some 14), none, .idxSl 3 (T 13) (.const (.int .i64 (0)))⟩⟩, ⟨.rd1, ⟨(some 15), none, .loadN 3 (T 14)⟩⟩, ⟨.free, ⟨(some 16), none, .mov (T 2)⟩⟩, ⟨.free, ⟨(some 17), none, .mov (T 3)⟩⟩, ⟨.any, ⟨(some 18), none, .call (.func 33) [(T 12), (T 15), (T 16), (T 17)]⟩⟩, ⟨.free, ⟨(some 9), none, .mov (T 18)⟩⟩]) (.seq (.ops [⟨(some 19), none, .mov (T 9)⟩, ⟨(some 20), none, .mov (T 9)⟩, ⟨(some 21), none, .build #[(0, 1), (1, 1)] [(.int .i64 (0)), (.int .i64 (0))] [0, 1] [(T 19), (T 20)]⟩, ⟨(some 10), none, .alloc [(.int .i64 (0)), (.int .i64 (0))]⟩, ⟨none, none, .store 2 (T 10) (T 21)⟩]) (.seq (.seq (.ops [⟨(some 11), none, .mov (.const (.int .i64 (1)))⟩]) (.block 0 (.loop (.seq (.seq (.ops [⟨(some 22), none, .mov (T 11)⟩, ⟨(some 23), none, .mov (T 1)⟩, ⟨(some 24), none, .len (T 23)⟩, ⟨(some 25), none, .int2 .lss (T 22) (T 24)⟩]) (.cond (T 25) .skip (.exit 0))) (.seq (.block 1 (.seq (.draw [⟨.rd1, ⟨(some 28), none, .loadN 7 (T 4)⟩⟩, ⟨.free, ⟨(some 29), none, .mov (T 1)⟩⟩, ⟨.free, ⟨(some 30), none, .mov (T 11)⟩⟩, ⟨.free, ⟨(some 31), none, .idxSl 3 (T 29) (T 30)⟩⟩, ⟨.rd1, ⟨(some 32), none, .loadN 3 (T 31)⟩⟩, ⟨.free, ⟨(some 33), none, .mov (T 2)⟩⟩, ⟨.free, ⟨(some 34), none, .mov (T 3)⟩⟩, ⟨.any, ⟨(some 35), none, .call (.func 33) [(T 28), (T 32), (T 33), (T 34)]⟩⟩, ⟨.free, ⟨(some 9), none, .mov (T 35)⟩⟩]) (.ops [⟨(some 36), none, .fieldAddr 0 (T 10)⟩, ⟨(some 37), none, .load1 (T 36)⟩, ⟨(some 38), none, .mov (T 9)⟩, ⟨(some 39), none, .plain (.call { callee := .builtin .min, args := #[(T 37), (T 38)], argTypes := #[3, 3] }) 3⟩, ⟨(some 40), none, .fieldAddr 1 (T 10)⟩, ⟨(some 41), none, .load1 (T 40)⟩, ⟨(some 42), none, .mov (T 9)⟩, ⟨(some 43), none, .plain (.call { callee := .builtin .max, args := #[(T 41), (T 42)], argTypes := #[3, 3] }) 3⟩, ⟨(some 44), none, .build #[(0, 1), (1, 1)] [(.int .i64 (0)), (.int .i64 (0))] [0, 1] [(T 39), (T 43)]⟩, ⟨none, none, .store 2 (T 10) (T 44)⟩]))) (.ops [⟨(some 26), none, .mov (T 11)⟩, ⟨(some 27), none, .int2 .add (T 26) (.const (.int .i64 (1)))⟩, ⟨(some 11), none, .mov (T 27)⟩])))))) (.seq (.ops [⟨(some 45), none, .loadN 2 (T 10)⟩, ⟨none, none, .store 2 (T 8) (T 45)⟩]) .ret)))))
theorem fok39 : FnOk Try.prog 39 46 s39 [.cellN 8 2] := ⟨Try.f39, _, Try.func39, rfl, Try.ntmps39, by kernel_rfl, by kernel_rfl⟩
set_option maxHeartbeats 1000000 in
theorem outRef_c (hn : 2300 ≤ n) (hr : h.next + 100 < far) {wv vv sv l : Value} {S : MS} (hy : SteepR h wv vv sv S) (hG : Good S) {L : List (Nat → Int)} (ht : TruthsL h l S L) (hL : L ≠ []) (hlen : L.length ≤ 2000) (hin : ∀ t, t ∈ L → InU S t) {v : Nat} {hh : Int} (ho : HourOk S v hh) :
    call n (.func (.func 39) #[] #[]) [.agg ⟨stL S wv vv sv⟩, l, .int .i64 (v : Int), .int .i64 hh] h = some (.agg ⟨[.int .i64 (loN (fun t => blueS S t v hh) L), .int .i64 (hiN (fun t => blueS S t v hh) L)]⟩, h) := by
  obtain ⟨n, rfl⟩ : ∃ p, n = p + 1 := ⟨n - 1, by omega⟩
  refine call_plain0 fok39 rfl rfl (by simp) rfl ?_
  have hy := hy.shut
  obtain ⟨R1, R2, hc, hq⟩ := ht
  have hc := hc.mono (g := h.shutAll) fun _ _ _ _ _ h => h
  have hq := fun k hk => (hq k hk).mono (g := h.shutAll) fun _ _ _ _ _ h => h
  have hr : h.shutAll.next + 100 < far := hr
  have hfl : h.shutAll.floor ≤ h.shutAll.next := Nat.le_refl _
  generalize h.shutAll = h at hy hc hq hr hfl
  have hpos : 0 < L.length := List.length_pos_iff.2 hL
  have hat : ∀ i, i < L.length → InU S (L.getD i fun _ => 0) := fun i hi => hin _ (getD_mem hi)
  simp only [s39, W_seq, W_ops]
  refine ops_box (cs := stL S wv vv sv) (by omega) rfl hy.one fun g1 hx1 => ?_
  have n1 := hx1.next
  have f1 := hx1.floor
  simp only [rn0, rn1, rn2, rn3, rn4, rn5, rn6, rn7, rn8, if_true, if_false, Nat.le_refl, true_and, and_true, decide_true, decide_false, Bool.not_true, Bool.not_false, reduceIte, Nat.reduceEqDiff, Nat.reduceAdd, Nat.reduceMul, Nat.reduceSub, Nat.reduceLeDiff, Nat.reduceLT]
  refine step_row (cs := [.int .i64 0, .int .i64 0]) (by omega) rfl rfl fun g2 hx2 => ?_
  have n2 := hx2.next
  have f2 := hx2.floor
  have sub2 : Sub All h g2 := hx1.sub.trans hx2.sub
  have r1 := hx1.row.mono hx2.sub
  have hy2 := hy.mono sub2
  have hc2 := hc.mono sub2
  have i0 : indexSl 3 l (.int .i64 0) = some (ptrO l 3 0 0) := Cells.idx hc2 hpos
  have e0 := blue_c (n := n) (h := g2) (by omega) (by omega) hy2 ((hq 0 hpos).mono sub2) hG (hat 0 hpos) ho (sp := (L.getD 0 fun _ => 0) S.nw)
  simp only [rn0, rn1, rn2, rn3, rn4, rn5, rn6, rn7, rn8, if_true, if_false, Nat.le_refl, true_and, and_true, decide_true, decide_false, Bool.not_true, Bool.not_false, reduceIte, Nat.reduceEqDiff, Nat.reduceAdd, Nat.reduceMul, Nat.reduceSub, Nat.reduceLeDiff, Nat.reduceLT]
  refine W_draw All ?_
  simp only [rn0, rn1, rn2, rn3, rn4, rn5, rn6, rn7, rn8, if_true, if_false, Nat.le_refl, true_and, and_true, decide_true, decide_false, Bool.not_true, Bool.not_false, reduceIte, Nat.reduceEqDiff, Nat.reduceAdd, Nat.reduceMul, Nat.reduceSub, Nat.reduceLeDiff, Nat.reduceLT, r1.whole (n := 7) rfl, i0, trs_ld hc2 hpos, e0, build_range]
  refine step_new (vs := [.int .i64 (blueS S (L.getD 0 fun _ => 0) v hh), .int .i64 (blueS S (L.getD 0 fun _ => 0) v hh)]) (by omega) (by omega) rfl (by simp only [rn0, rn1, rn2, rn3, rn4, rn5, rn6, rn7, rn8, if_true, if_false, Nat.le_refl, true_and, and_true, decide_true, decide_false, Bool.not_true, Bool.not_false, reduceIte, Nat.reduceEqDiff, Nat.reduceAdd, Nat.reduceMul, Nat.reduceSub, Nat.reduceLeDiff, Nat.reduceLT]; rfl) rfl rfl rfl fun g3 hx3 => ?_
  have n3 := hx3.next
  have f3 := hx3.floor
  have sub3 : Sub All h g3 := sub2.trans hx3.sub
  have r13 := r1.mono hx3.sub
  have q8 : g3.get g1.next = some (.row [.int .i64 0, .int .i64 0] true 0) := by rw [hx3.old _ (by omega)]; exact hx2.get
  simp only [rn0, rn1, rn2, rn3, rn4, rn5, rn6, rn7, rn8, if_true, if_false, Nat.le_refl, true_and, and_true, decide_true, decide_false, Bool.not_true, Bool.not_false, reduceIte, Nat.reduceEqDiff, Nat.reduceAdd, Nat.reduceMul, Nat.reduceSub, Nat.reduceLeDiff, Nat.reduceLT]
  refine W_loop (L.length - 1) (fun i f g ms => (Keep g2.next g3 g ∧ g.next = g3.next ∧ g.get g2.next = some (.row [.int .i64 (minN (blueS S (L.getD 0 fun _ => 0) v hh) (fun i => blueS S (L.getD (i + 1) fun _ => 0) v hh) i), .int .i64 (maxN (blueS S (L.getD 0 fun _ => 0) v hh) (fun i => blueS S (L.getD (i + 1) fun _ => 0) v hh) i)] true 0)) ∧ ms = [] ∧ f 1 = l ∧ f 2 = .int .i64 (v : Int) ∧ f 3 = .int .i64 hh ∧ f 4 = .pointer (some ⟨h.next, 0, none⟩) ∧ f 8 = .pointer (some ⟨g1.next, 0, none⟩) ∧ f 10 = .pointer (some ⟨g2.next, 0, none⟩) ∧ f 11 = .int .i64 ((i + 1 : Nat) : Int)) (by simp; omega) ?_ ?_ ?_
  · simp only [rn0, rn1, rn2, rn3, rn4, rn5, rn6, rn7, rn8, if_true, if_false, Nat.le_refl, true_and, and_true, decide_true, decide_false, Bool.not_true, Bool.not_false, reduceIte, Nat.reduceEqDiff, Nat.reduceAdd, Nat.reduceMul, Nat.reduceSub, Nat.reduceLeDiff, Nat.reduceLT]
    first | exact ⟨⟨Keep.refl, hx3.get⟩, rfl⟩ | exact ⟨⟨Keep.refl, rfl, hx3.get⟩, rfl⟩ | exact ⟨Keep.refl, hx3.get⟩ | trace_state
  · rintro i f g ms hi ⟨⟨kin, gn, gi⟩, rfl, p1, p2, p3, p4, p8, p10, p11⟩
    have hi' : ((i + 1 : Nat) : Int) < (L.length : Int) := by omega
    have hi1 : i + 1 < L.length := by omega
    have hw : wrapF .i64 (((i + 1 : Nat) : Int) + 1) = ((i + 1 + 1 : Nat) : Int) := by rw [wrap_in (by omega) (by omega)]; rfl
    have kfl := kin.floor
    have sg : Sub All h g := fun q cs w gr t hg => kin.sub _ _ _ _ (by have := AHeap.lt_of_get hg; omega) (sub3 _ _ _ _ t hg)
    have hcg := hc.mono sg
    have rg := r13.keep kin (by omega)
    have rt : Row g g2.next _ := ⟨_, _, gi⟩
    have eb := blue_c (n := n) (h := g) (by omega) (by omega) (hy.mono sg) ((hq (i + 1) hi1).mono sg) hG (hat (i + 1) hi1) ho (sp := (L.getD (i + 1) fun _ => 0) S.nw)
    have hmin : min (minN (blueS S (L.getD 0 fun _ => 0) v hh) (fun i => blueS S (L.getD (i + 1) fun _ => 0) v hh) i) (blueS S (L.getD (i + 1) fun _ => 0) v hh) = minN (blueS S (L.getD 0 fun _ => 0) v hh) (fun i => blueS S (L.getD (i + 1) fun _ => 0) v hh) (i + 1) := rfl
    have hmax : max (maxN (blueS S (L.getD 0 fun _ => 0) v hh) (fun i => blueS S (L.getD (i + 1) fun _ => 0) v hh) i) (blueS S (L.getD (i + 1) fun _ => 0) v hh) = maxN (blueS S (L.getD 0 fun _ => 0) v hh) (fun i => blueS S (L.getD (i + 1) fun _ => 0) v hh) (i + 1) := rfl
    simp only [rn0, rn1, rn2, rn3, rn4, rn5, rn6, rn7, rn8, if_true, if_false, Nat.le_refl, true_and, and_true, decide_true, decide_false, Bool.not_true, Bool.not_false, reduceIte, Nat.reduceEqDiff, Nat.reduceAdd, Nat.reduceMul, Nat.reduceSub, Nat.reduceLeDiff, Nat.reduceLT, p1, p2, p3, p4, p8, p10, p11, Cells.len hcg, hi']
    refine W_draw All ?_
    simp only [rn0, rn1, rn2, rn3, rn4, rn5, rn6, rn7, rn8, if_true, if_false, Nat.le_refl, true_and, and_true, decide_true, decide_false, Bool.not_true, Bool.not_false, reduceIte, Nat.reduceEqDiff, Nat.reduceAdd, Nat.reduceMul, Nat.reduceSub, Nat.reduceLeDiff, Nat.reduceLT, p1, p2, p3, p4, p8, p10, p11, rg.whole (n := 7) rfl, Cells.idx hcg hi1, trs_ld hcg hi1, eb, rt.ld, Nat.zero_add, List.getElem?_cons_zero, List.getElem?_cons_succ, p_min, r_min, p_max, r_max, valN_tmp, Nat.reduceLT, hmin, hmax, build_range]
    refine step_store (b := g2.next) (off := 0) (vs := [.int .i64 (minN (blueS S (L.getD 0 fun _ => 0) v hh) (fun i => blueS S (L.getD (i + 1) fun _ => 0) v hh) (i + 1)), .int .i64 (maxN (blueS S (L.getD 0 fun _ => 0) v hh) (fun i => blueS S (L.getD (i + 1) fun _ => 0) v hh) (i + 1))]) rfl gi (by omega) (by omega) rfl rfl rfl (by simp) fun g4 hs4 => ?_
    rw [splice_all (by rfl)] at hs4
    have n4 := hs4.next
    simp only [rn0, rn1, rn2, rn3, rn4, rn5, rn6, rn7, rn8, if_true, if_false, Nat.le_refl, true_and, and_true, decide_true, decide_false, Bool.not_true, Bool.not_false, reduceIte, Nat.reduceEqDiff, Nat.reduceAdd, Nat.reduceMul, Nat.reduceSub, Nat.reduceLeDiff, Nat.reduceLT, p1, p2, p3, p4, p8, p10, p11, hw]
    exact ⟨kin.trans hs4.keep, by omega, hs4.get⟩
  · rintro f g ms ⟨⟨kin, gn, gi⟩, rfl, p1, p2, p3, p4, p8, p10, p11⟩
    have hcl : ((L.length - 1 + 1 : Nat) : Int) = (L.length : Int) := by omega
    rw [hcl] at p11
    have kfl := kin.floor
    have sg : Sub All h g := fun q cs w gr t hg => kin.sub _ _ _ _ (by have := AHeap.lt_of_get hg; omega) (sub3 _ _ _ _ t hg)
    have hcg := hc.mono sg
    have wt := (show Row g g2.next _ from ⟨_, _, gi⟩).whole (n := 2) rfl
    have g8 : ∃ w gr, g.get g1.next = some (.row [.int .i64 0, .int .i64 0] w gr) := ⟨_, _, kin.sub _ _ _ _ (by omega) q8⟩
    have q8g : g.get g1.next = some (.row [.int .i64 0, .int .i64 0] true 0) := kin.sub _ _ _ _ (by omega) q8
    have elo : minN (blueS S (L.getD 0 fun _ => 0) v hh) (fun i => blueS S (L.getD (i + 1) fun _ => 0) v hh) (L.length - 1) = loN (fun t => blueS S t v hh) L := rfl
    have ehi : maxN (blueS S (L.getD 0 fun _ => 0) v hh) (fun i => blueS S (L.getD (i + 1) fun _ => 0) v hh) (L.length - 1) = hiN (fun t => blueS S t v hh) L := rfl
    rw [elo, ehi] at wt
    simp only [rn0, rn1, rn2, rn3, rn4, rn5, rn6, rn7, rn8, if_true, if_false, Nat.le_refl, true_and, and_true, decide_true, decide_false, Bool.not_true, Bool.not_false, reduceIte, Nat.reduceEqDiff, Nat.reduceAdd, Nat.reduceMul, Nat.reduceSub, Nat.reduceLeDiff, Nat.reduceLT, p1, p2, p3, p4, p8, p10, p11, Cells.len hcg, Int.lt_irrefl, wt]
    refine step_store (b := g1.next) (off := 0) (vs := [.int .i64 (loN (fun t => blueS S t v hh) L), .int .i64 (hiN (fun t => blueS S t v hh) L)]) rfl q8g (by omega) (by omega) rfl rfl rfl (by simp) fun g4 hs4 => ?_
    rw [splice_all (by rfl)] at hs4
    simp only [rn0, rn1, rn2, rn3, rn4, rn5, rn6, rn7, rn8, if_true, if_false, Nat.le_refl, true_and, and_true, decide_true, decide_false, Bool.not_true, Bool.not_false, reduceIte, Nat.reduceEqDiff, Nat.reduceAdd, Nat.reduceMul, Nat.reduceSub, Nat.reduceLeDiff, Nat.reduceLT, p8, res_cellN, hs4.row.whole (n := 2) rfl]
end Go.Vm.St

namespace Go.Vm.St
open Go.Proofs Go.Vm.Vat
set_option linter.unusedSimpArgs false
set_option linter.unusedVariables false
set_option maxRecDepth 10000
variable {n : Nat} {h : AHeap}
def s37 : SCode := (.seq (.ops [⟨(some 2), none, .box (T 0)⟩, ⟨(some 4), none, .mov (.const (.bool false))⟩]) (.seq (.ops [⟨(some 5), none, .mov (T 1)⟩, ⟨(some 6), none, .fieldAddr 5 (T 2)⟩, ⟨(some 7), none, .load1 (T 6)⟩, ⟨(some 8), none, .len (T 7)⟩, ⟨(some 9), none, .int2 .sub (T 8) (.const (.int .i64 (1)))⟩, ⟨(some 10), none, .call (.func 42) [(T 5), (.const (.int .i64 (0))), (T 9)]⟩, ⟨(some 4), none, .mov (T 10)⟩]) .ret))
theorem fok37 : FnOk Try.prog 37 11 s37 [.tmp 4] := ⟨Try.f37, _, Try.func37, rfl, Try.ntmps37, by kernel_rfl, by kernel_rfl⟩
theorem vatL_c (hn : 2 ≤ n) (hr : h.next + 2 < far) {wv vv sv : Value} {S : MS} (hy : SteepR h wv vv sv S) (hT : ThinS S) (at_ : Int) :
    call n (.func (.func 37) #[] #[]) [.agg ⟨stL S wv vv sv⟩, .int .i64 at_] h = some (.bool (decide (0 ≤ at_ ∧ at_ ≤ (S.nv : Int) - 1)), h) := by
  obtain ⟨n, rfl⟩ : ∃ p, n = p + 1 := ⟨n - 1, by omega⟩
  obtain ⟨_, t2, _⟩ := hT
  refine call_plain0 fok37 rfl rfl (by simp) rfl ?_
  have hy := hy.shut
  have hr : h.shutAll.next + 2 < far := hr
  generalize h.shutAll = h at hy hr
  simp only [s37, W_seq, W_ops]
  refine ops_box (cs := stL S wv vv sv) (by omega) rfl hy.one fun g1 hx1 => ?_
  have hy1 := hy.mono hx1.sub
  have hw : wrapF .i64 ((S.nv : Int) - 1) = (S.nv : Int) - 1 := wrap_in (by omega) (by omega)
  simp only [rn0, rn1, rn2, rn3, rn4, rn5, rn6, rn7, rn8, if_true, if_false, Nat.le_refl, true_and, and_true, decide_true, decide_false, Bool.not_true, Bool.not_false, reduceIte, Nat.reduceEqDiff, Nat.reduceAdd, Nat.reduceMul, Nat.reduceSub, Nat.reduceLeDiff, Nat.reduceLT, hx1.row.ld, stg, Nat.zero_add, Cells.len hy1.v, hw, in_c (n := n) (h := g1) (by omega)]
theorem neq39 {N : Nat} {f : Go.Vm.Fr} {x y : Operand} {ty u : TypeId} {a0 a1 b0 b1 : Int} (hx : valN N f x = .agg ⟨[.int .i64 a0, .int .i64 a1]⟩) (hy : valN N f y = .agg ⟨[.int .i64 b0, .int .i64 b1]⟩) :
    plainF Try.prog N (.binOp .neq 39 x y u) ty f h = some (.bool (!(decide (a0 = b0 ∧ a1 = b1))), h) :=
  plainF_neqTwo hx hy (by kernel_rfl) (by rfl) (by kernel_rfl) (by decide) (by decide) rfl rfl (by rfl) (by rfl)
def s4 : SCode := (.seq (.ops [⟨(some 2), none, .box (T 0)⟩, ⟨(some 4), none, .mov (.const (.bool false))⟩]) (.seq (.seq (.ops [⟨(some 11), none, .loadN 7 (T 2)⟩, ⟨(some 12), none, .call (.func 23) [(T 11)]⟩, ⟨(some 13), none, .not (T 12)⟩]) (.cond (T 13) (.seq (.ops [⟨(some 14), none, .call (.func 24) []⟩, ⟨(some 4), none, .mov (T 14)⟩]) .ret) .skip)) (.seq (.ops [⟨(some 16), none, .loadN 7 (T 2)⟩, ⟨(some 17), none, .call (.func 26) [(T 16)]⟩, ⟨(some 18), none, .mov (T 1)⟩, ⟨(some 19), none, .call (.func 35) [(T 17), (T 18)]⟩, ⟨(some 15), none, .mov (T 19)⟩, ⟨(some 20), none, .extract 0 (T 15)⟩, ⟨(some 21), none, .extract 1 (T 15)⟩, ⟨(some 5), none, .mov (T 20)⟩, ⟨(some 6), none, .mov (T 21)⟩]) (.seq (.draw [⟨.rd, ⟨(some 23), none, .loadN 7 (T 2)⟩⟩, ⟨.rd1, ⟨(some 24), none, .loadN 7 (T 2)⟩⟩, ⟨.free, ⟨(some 25), none, .mov (T 1)⟩⟩, ⟨.up, ⟨(some 26), none, .call (.func 37) [(T 24), (T 25)]⟩⟩, ⟨.any, ⟨(some 27), none, .call (.func 36) [(T 23), (T 26)]⟩⟩, ⟨.free, ⟨(some 22), none, .mov (T 27)⟩⟩, ⟨.free, ⟨(some 28), none, .extract 0 (T 22)⟩⟩, ⟨.free, ⟨(some 29), none, .extract 1 (T 22)⟩⟩, ⟨.free, ⟨(some 7), none, .mov (T 28)⟩⟩, ⟨.free, ⟨(some 8), none, .mov (T 29)⟩⟩]) (.seq (.seq (.ops [⟨(some 30), none, .mov (T 8)⟩, ⟨(some 31), none, .int2 .neq (T 30) (.const (.int .i64 (0)))⟩]) (.cond (T 31) (.seq (.ops [⟨(some 32), none, .mov (T 6)⟩, ⟨(some 33), none, .mov (T 8)⟩, ⟨(some 34), none, .int2 .eql (T 32) (T 33)⟩, ⟨(some 35), none, .mov (T 34)⟩, ⟨(some 36), (some (35, true)), .mov (T 5)⟩, ⟨(some 37), (some (35, true)), .len (T 36)⟩, ⟨(some 38), (some (35, true)), .int2 .eql (T 37) (.const (.int .i64 (0)))⟩, ⟨(some 39), none, .pick (T 35) (T 38) (.const (.bool false))⟩, ⟨(some 40), none, .mov (T 39)⟩, ⟨(some 41), (some (40, true)), .call (.func 24) []⟩, ⟨(some 42), none, .pick (T 40) (T 41) (.const (.bool false))⟩, ⟨(some 4), none, .mov (T 42)⟩]) .ret) .skip)) (.seq (.ops [⟨(some 43), none, .fieldAddr 5 (T 2)⟩, ⟨(some 44), none, .load1 (T 43)⟩, ⟨(some 45), none, .mov (T 1)⟩, ⟨(some 46), none, .idxSl 4 (T 44) (T 45)⟩, ⟨(some 47), none, .fieldAddr 0 (T 46)⟩, ⟨(some 48), none, .load1 (T 47)⟩, ⟨(some 9), none, .mov (T 48)⟩]) (.seq (.seq (.ops [⟨(some 49), none, .mov (T 6)⟩, ⟨(some 50), none, .int2 .neq (T 49) (.const (.int .i64 (0)))⟩, ⟨(some 51), none, .mov (T 50)⟩, ⟨(some 52), (some (51, false)), .mov (T 5)⟩, ⟨(some 53), (some (51, false)), .len (T 52)⟩, ⟨(some 54), (some (51, false)), .fieldAddr 0 (T 2)⟩, ⟨(some 55), (some (51, false)), .load1 (T 54)⟩, ⟨(some 56), (some (51, false)), .mov (T 9)⟩, ⟨(some 57), (some (51, false)), .int2 .sub (T 55) (T 56)⟩, ⟨(some 58), (some (51, false)), .int2 .add (T 57) (.const (.int .i64 (1)))⟩, ⟨(some 59), (some (51, false)), .int2 .neq (T 53) (T 58)⟩, ⟨(some 60), none, .pick (T 51) (.const (.bool true)) (T 59)⟩]) (.cond (T 60) (.seq (.ops [⟨(some 4), none, .mov (.const (.bool false))⟩]) .ret) .skip)) (.seq (.seq (.ops [⟨(some 10), none, .mov (.const (.int .i64 (0)))⟩]) (.block 0 (.loop (.seq (.seq (.ops [⟨(some 61), none, .mov (T 10)⟩, ⟨(some 62), none, .mov (T 5)⟩, ⟨(some 63), none, .len (T 62)⟩, ⟨(some 64), none, .int2 .lss (T 61) (T 63)⟩]) (.cond (T 64) .skip (.exit 0))) (.seq (.block 1 (.seq (.draw [⟨.free, ⟨(some 67), none, .mov (T 5)⟩⟩, ⟨.free, ⟨(some 68), none, .mov (T 10)⟩⟩, ⟨.free, ⟨(some 69), none, .idxSl 2 (T 67) (T 68)⟩⟩, ⟨.rd, ⟨(some 70), none, .loadN 2 (T 69)⟩⟩, ⟨.rd1, ⟨(some 71), none, .loadN 7 (T 2)⟩⟩, ⟨.free, ⟨(some 72), none, .mov (T 7)⟩⟩, ⟨.free, ⟨(some 73), none, .mov (T 1)⟩⟩, ⟨.free, ⟨(some 74), none, .mov (T 9)⟩⟩, ⟨.free, ⟨(some 75), none, .mov (T 10)⟩⟩, ⟨.free, ⟨(some 76), none, .int2 .add (T 74) (T 75)⟩⟩, ⟨.up, ⟨(some 77), none, .call (.func 39) [(T 71), (T 72), (T 73), (T 76)]⟩⟩, ⟨.up, ⟨(some 78), none, .call (.func 38) [(T 77)]⟩⟩, ⟨.free, ⟨(some 79), none, .bin .neq (.binOp .neq 39 (T 70) (T 78) 39) 4 (T 70) (T 78)⟩⟩]) (.cond (T 79) (.seq (.ops [⟨(some 4), none, .mov (.const (.bool false))⟩]) .ret) .skip))) (.ops [⟨(some 65), none, .mov (T 10)⟩, ⟨(some 66), none, .int2 .add (T 65) (.const (.int .i64 (1)))⟩, ⟨(some 10), none, .mov (T 66)⟩])))))) (.seq (.ops [⟨(some 80), none, .call (.func 24) []⟩, ⟨(some 4), none, .mov (T 80)⟩]) .ret)))))))))
theorem fok4 : FnOk Try.prog 4 81 s4 [.tmp 4] := ⟨Try.f4, _, Try.func4, rfl, Try.ntmps4, by kernel_rfl, by kernel_rfl⟩
set_option maxHeartbeats 2000000 in
theorem outL_c (hn : 3000 ≤ n) (hr : h.next + 4000000 < far) (hfl : h.floor ≤ h.next) {wv vv sv : Value} {S : MS} (hy : SteepR h wv vv sv S) (a1 : Int) :
    ∃ v h', call n (.func (.func 4) #[] #[]) [.agg ⟨stL S wv vv sv⟩, .int .i64 a1] h = some (v, h') ∧ v = .bool true := by
  obtain ⟨n, rfl⟩ : ∃ p, n = p + 1 := ⟨n - 1, by omega⟩
  refine call_any0 fok4 rfl rfl (by simp) ?_
  simp only [s4, W_seq, W_ops]
  refine ops_box (cs := stL S wv vv sv) (by omega) rfl hy.one fun g1 hx1 => ?_
  have n1 := hx1.next
  have f1 := hx1.floor
  have hy1 := hy.mono hx1.sub
  have r1 := hx1.row
  have et := thin_c (n := n) (h := g1) (by omega) (by omega) hy1
  by_cases hth : ThinS S
  case neg =>
    simp only [rn0, rn1, rn2, rn3, rn4, rn5, rn6, rn7, rn8, if_true, if_false, Nat.le_refl, true_and, and_true, decide_true, decide_false, Bool.not_true, Bool.not_false, reduceIte, Nat.reduceEqDiff, Nat.reduceAdd, Nat.reduceMul, Nat.reduceSub, Nat.reduceLeDiff, Nat.reduceLT, r1.whole (n := 7) rfl, et, hth, awake_c (n := n) (h := g1) (by omega)]
  obtain ⟨w2, v2, s2, g2, e2, hy2, o2, u2, m2, f2⟩ := steepL_c (n := n) (h := g1) (by omega) (by omega) (by omega) hy1 hth
  have sub2 : Sub All g1 g2 := AHeap.subOf o2
  obtain ⟨pv, g3, e3, sub3, u3, m3, f3, hp⟩ := out_c (n := n) (h := g2) (by omega) (by omega) (by omega) hy2 hth a1
  have sub13 := sub2.trans sub3
  have hy3 := hy1.mono sub13
  have r3 := r1.mono sub13
  have ev := vatL_c (n := n) (h := g3) (by omega) (by omega) hy3 hth a1
  obtain ⟨av, g4, e4, o4, u4, m4, f4, ha⟩ := asked_c (n := n) (h := g3) (by omega) (by omega) (by omega) hy3 hth (ok := decide (0 ≤ a1 ∧ a1 ≤ (S.nv : Int) - 1))
  have sub4 : Sub All g3 g4 := AHeap.subOf o4
  have haw := awake_c (n := n) (h := g4) (by omega)
  have z20 : ¬ (2 : Int) = 0 := by decide
  have z110 : ¬ (11 : Int) = 0 := by decide
  have hop : pv = .tuple ⟨[nilS, .int .i64 (faultS S)]⟩ ∧ faultS S ≠ 0 ∧ av = .tuple ⟨[nilS, .int .i64 (faultS S)]⟩ ∨ (pv = .tuple ⟨[nilS, .int .i64 2]⟩ ∧ av = .tuple ⟨[nilS, .int .i64 2]⟩) ∨ (pv = .tuple ⟨[nilS, .int .i64 11]⟩ ∧ av = .tuple ⟨[nilS, .int .i64 11]⟩) ∨
      (faultS S = 0 ∧ InV S a1 ∧ truthsS S ≠ [] ∧ (∃ r, pv = .tuple ⟨[r, .int .i64 0]⟩ ∧ Ranges g3 r (hoursN S a1.toNat) (loB S a1.toNat (truthsS S) ((truthsS S).length - 1)) (hiB S a1.toNat (truthsS S) ((truthsS S).length - 1))) ∧ ∃ l, av = .tuple ⟨[l, .int .i64 0]⟩ ∧ oneCell l = true ∧ TruthsL g4 l S (refTruths S)) := by
    rcases hp with ⟨hf, rfl⟩ | ⟨hf, hv, rfl⟩ | ⟨hf, hv, hz, rfl⟩ | ⟨hf, hv, hz, r, rfl, hr3⟩
    · rcases ha with ⟨_, rfl⟩ | ⟨h0, _⟩ | ⟨h0, _⟩ | ⟨h0, _⟩
      · exact .inl ⟨rfl, hf, rfl⟩
      · exact absurd h0 hf
      · exact absurd h0 hf
      · exact absurd h0 hf
    · rcases ha with ⟨h0, _⟩ | ⟨_, _, rfl⟩ | ⟨_, h1, _⟩ | ⟨_, h1, _⟩
      · exact absurd hf h0
      · exact .inr (.inl ⟨rfl, rfl⟩)
      · exact absurd (show 0 ≤ a1 ∧ a1 ≤ (S.nv : Int) - 1 from of_decide_eq_true h1) hv
      · exact absurd (show 0 ≤ a1 ∧ a1 ≤ (S.nv : Int) - 1 from of_decide_eq_true h1) hv
    · rcases ha with ⟨h0, _⟩ | ⟨_, h1, _⟩ | ⟨_, _, _, rfl⟩ | ⟨_, _, h1, _⟩
      · exact absurd hf h0
      · exact absurd (show 0 ≤ a1 ∧ a1 ≤ (S.nv : Int) - 1 from hv) (of_decide_eq_false h1)
      · exact .inr (.inr (.inl ⟨rfl, rfl⟩))
      · exact absurd hz h1
    · rcases ha with ⟨h0, _⟩ | ⟨_, h1, _⟩ | ⟨_, _, h1, _⟩ | ⟨_, _, _, l, rfl, h2, h3⟩
      · exact absurd hf h0
      · exact absurd (show 0 ≤ a1 ∧ a1 ≤ (S.nv : Int) - 1 from hv) (of_decide_eq_false h1)
      · exact absurd h1 hz
      · exact .inr (.inr (.inr ⟨hf, hv, hz, ⟨r, rfl, hr3⟩, l, rfl, h2, h3⟩))
  clear hp ha
  rcases hop with ⟨rfl, hf, rfl⟩ | ⟨rfl, rfl⟩ | ⟨rfl, rfl⟩ | ⟨hf, hv, hz, ⟨r, rfl, hr3⟩, l, rfl, hl1, hl⟩
  · simp only [rn0, rn1, rn2, rn3, rn4, rn5, rn6, rn7, rn8, if_true, if_false, Nat.le_refl, true_and, and_true, decide_true, decide_false, Bool.not_true, Bool.not_false, reduceIte, Nat.reduceEqDiff, Nat.reduceAdd, Nat.reduceMul, Nat.reduceSub, Nat.reduceLeDiff, Nat.reduceLT, r1.whole (n := 7) rfl, et, hth, e2, e3, ex0, ex1]
    refine W_draw All ?_
    simp only [rn0, rn1, rn2, rn3, rn4, rn5, rn6, rn7, rn8, if_true, if_false, Nat.le_refl, true_and, and_true, decide_true, decide_false, Bool.not_true, Bool.not_false, reduceIte, Nat.reduceEqDiff, Nat.reduceAdd, Nat.reduceMul, Nat.reduceSub, Nat.reduceLeDiff, Nat.reduceLT, r3.whole (n := 7) rfl, hy3.self, ev, e4, ex0, ex1]
    first | refine ⟨by omega, ?_⟩ | skip
    simp only [rn0, rn1, rn2, rn3, rn4, rn5, rn6, rn7, rn8, if_true, if_false, Nat.le_refl, true_and, and_true, decide_true, decide_false, Bool.not_true, Bool.not_false, reduceIte, Nat.reduceEqDiff, Nat.reduceAdd, Nat.reduceMul, Nat.reduceSub, Nat.reduceLeDiff, Nat.reduceLT, hf, len_slice, Int.natCast_zero, haw]
  · simp only [rn0, rn1, rn2, rn3, rn4, rn5, rn6, rn7, rn8, if_true, if_false, Nat.le_refl, true_and, and_true, decide_true, decide_false, Bool.not_true, Bool.not_false, reduceIte, Nat.reduceEqDiff, Nat.reduceAdd, Nat.reduceMul, Nat.reduceSub, Nat.reduceLeDiff, Nat.reduceLT, r1.whole (n := 7) rfl, et, hth, e2, e3, ex0, ex1]
    refine W_draw All ?_
    simp only [rn0, rn1, rn2, rn3, rn4, rn5, rn6, rn7, rn8, if_true, if_false, Nat.le_refl, true_and, and_true, decide_true, decide_false, Bool.not_true, Bool.not_false, reduceIte, Nat.reduceEqDiff, Nat.reduceAdd, Nat.reduceMul, Nat.reduceSub, Nat.reduceLeDiff, Nat.reduceLT, r3.whole (n := 7) rfl, hy3.self, ev, e4, ex0, ex1]
    first | refine ⟨by omega, ?_⟩ | skip
    simp only [rn0, rn1, rn2, rn3, rn4, rn5, rn6, rn7, rn8, if_true, if_false, Nat.le_refl, true_and, and_true, decide_true, decide_false, Bool.not_true, Bool.not_false, reduceIte, Nat.reduceEqDiff, Nat.reduceAdd, Nat.reduceMul, Nat.reduceSub, Nat.reduceLeDiff, Nat.reduceLT, z20, len_slice, Int.natCast_zero, haw]
  · simp only [rn0, rn1, rn2, rn3, rn4, rn5, rn6, rn7, rn8, if_true, if_false, Nat.le_refl, true_and, and_true, decide_true, decide_false, Bool.not_true, Bool.not_false, reduceIte, Nat.reduceEqDiff, Nat.reduceAdd, Nat.reduceMul, Nat.reduceSub, Nat.reduceLeDiff, Nat.reduceLT, r1.whole (n := 7) rfl, et, hth, e2, e3, ex0, ex1]
    refine W_draw All ?_
    simp only [rn0, rn1, rn2, rn3, rn4, rn5, rn6, rn7, rn8, if_true, if_false, Nat.le_refl, true_and, and_true, decide_true, decide_false, Bool.not_true, Bool.not_false, reduceIte, Nat.reduceEqDiff, Nat.reduceAdd, Nat.reduceMul, Nat.reduceSub, Nat.reduceLeDiff, Nat.reduceLT, r3.whole (n := 7) rfl, hy3.self, ev, e4, ex0, ex1]
    first | refine ⟨by omega, ?_⟩ | skip
    simp only [rn0, rn1, rn2, rn3, rn4, rn5, rn6, rn7, rn8, if_true, if_false, Nat.le_refl, true_and, and_true, decide_true, decide_false, Bool.not_true, Bool.not_false, reduceIte, Nat.reduceEqDiff, Nat.reduceAdd, Nat.reduceMul, Nat.reduceSub, Nat.reduceLeDiff, Nat.reduceLT, z110, len_slice, Int.natCast_zero, haw]
  · have hG := good_of hf
    obtain ⟨va, hva⟩ : ∃ va : Nat, a1 = (va : Int) := ⟨a1.toNat, by unfold InV at hv; omega⟩
    subst hva
    have hvn : va < S.nv := by unfold InV at hv; omega
    have hr4 : Ranges g4 r (hoursN S va) (loB S va (truthsS S) ((truthsS S).length - 1)) (hiB S va (truthsS S) ((truthsS S).length - 1)) := Cells.mono hr3 sub4
    obtain ⟨m1', m2', m3'⟩ := hoursN_ok hG hvn
    obtain ⟨⟨vb1, vb2⟩, _⟩ := hG.args.vat va hvn
    obtain ⟨zl0, zl5, _⟩ := hG.sizes
    have ws1 : wrapF .i64 (S.last - S.vb va) = S.last - S.vb va := wrap_in (by omega) (by omega)
    have ws2 : wrapF .i64 (S.last - S.vb va + 1) = (hoursN S va : Int) := by rw [wrap_in (by omega) (by omega), m1']
    have hy4 := hy3.mono sub4
    have r4 := r3.mono sub4
    have hRne : refTruths S ≠ [] := fun e => hz ((ref_nil hG).1 e)
    have hRlen : (refTruths S).length ≤ 2000 := Nat.le_trans refTo_len (by have := many_pos hG; omega)
    simp only [rn0, rn1, rn2, rn3, rn4, rn5, rn6, rn7, rn8, if_true, if_false, Nat.le_refl, true_and, and_true, decide_true, decide_false, Bool.not_true, Bool.not_false, reduceIte, Nat.reduceEqDiff, Nat.reduceAdd, Nat.reduceMul, Nat.reduceSub, Nat.reduceLeDiff, Nat.reduceLT, r1.whole (n := 7) rfl, et, hth, e2, e3, ex0, ex1]
    refine W_draw All ?_
    simp only [rn0, rn1, rn2, rn3, rn4, rn5, rn6, rn7, rn8, if_true, if_false, Nat.le_refl, true_and, and_true, decide_true, decide_false, Bool.not_true, Bool.not_false, reduceIte, Nat.reduceEqDiff, Nat.reduceAdd, Nat.reduceMul, Nat.reduceSub, Nat.reduceLeDiff, Nat.reduceLT, r3.whole (n := 7) rfl, hy3.self, ev, e4, ex0, ex1]
    first | refine ⟨by omega, ?_⟩ | skip
    simp only [rn0, rn1, rn2, rn3, rn4, rn5, rn6, rn7, rn8, if_true, if_false, Nat.le_refl, true_and, and_true, decide_true, decide_false, Bool.not_true, Bool.not_false, reduceIte, Nat.reduceEqDiff, Nat.reduceAdd, Nat.reduceMul, Nat.reduceSub, Nat.reduceLeDiff, Nat.reduceLT, r4.ld, stg, Nat.zero_add, Nat.add_zero, Cells.idx hy4.v hvn, Cells.fld hy4.v hvn, begin_ld hy4 hvn, Cells.len hr4, ws1, ws2]
    refine W_loop (hoursN S va) (fun k f g ms => g = g4 ∧ ms = [] ∧ f 1 = .int .i64 (va : Int) ∧ f 2 = .pointer (some ⟨h.next, 0, none⟩) ∧ f 5 = r ∧ f 7 = l ∧ f 9 = .int .i64 (S.vb va) ∧ f 10 = .int .i64 (k : Int)) (by simp; omega) ?_ ?_ ?_
    · simp only [rn0, rn1, rn2, rn3, rn4, rn5, rn6, rn7, rn8, if_true, if_false, Nat.le_refl, true_and, and_true, decide_true, decide_false, Bool.not_true, Bool.not_false, reduceIte, Nat.reduceEqDiff, Nat.reduceAdd, Nat.reduceMul, Nat.reduceSub, Nat.reduceLeDiff, Nat.reduceLT]
      first | done | exact ⟨rfl, rfl⟩ | trivial
    · rintro k f g ms hk ⟨rfl, rfl, p1, p2, p5, p7, p9, p10⟩
      have hk' : (k : Int) < (hoursN S va : Int) := by omega
      have hw : wrapF .i64 ((k : Int) + 1) = ((k + 1 : Nat) : Int) := by rw [wrap_in (by omega) (by omega)]; rfl
      have hwb : wrapF .i64 (S.vb va + (k : Int)) = S.vb va + (k : Int) := wrap_in (by omega) (by omega)
      have ho := hour_at hG hvn hk
      have er := outRef_c (n := n) (h := g) (by omega) (by omega) hy4 hG hl hRne hRlen (fun t ht => (truths_mem.1 ((refTruths_mem hG).1 ht)).1.1) ho
      have elo : loN (fun t => blueS S t va (S.vb va + (k : Int))) (refTruths S) = loB S va (truthsS S) ((truthsS S).length - 1) k := loN_map hRne hz (fun t ht => ⟨t, (refTruths_mem hG).1 ht, rfl⟩) (fun t ht => ⟨t, (refTruths_mem hG).2 ht, rfl⟩)
      have ehi : hiN (fun t => blueS S t va (S.vb va + (k : Int))) (refTruths S) = hiB S va (truthsS S) ((truthsS S).length - 1) k := hiN_map hRne hz (fun t ht => ⟨t, (refTruths_mem hG).1 ht, rfl⟩) (fun t ht => ⟨t, (refTruths_mem hG).2 ht, rfl⟩)
      rw [elo, ehi] at er
      have eto := to_c (n := n) (h := g) (by omega) (by omega) (loB S va (truthsS S) ((truthsS S).length - 1) k) (hiB S va (truthsS S) ((truthsS S).length - 1) k)
      have hld : loadAgg 2 g (ptrO r 2 k 0) = some (.agg ⟨[.int .i64 (loB S va (truthsS S) ((truthsS S).length - 1) k), .int .i64 (hiB S va (truthsS S) ((truthsS S).length - 1) k)]⟩) := ranges_ld hr4 hk
      have he := fun (f : Go.Vm.Fr) (e1 : f 70 = .agg ⟨[.int .i64 (loB S va (truthsS S) ((truthsS S).length - 1) k), .int .i64 (hiB S va (truthsS S) ((truthsS S).length - 1) k)]⟩) (e2 : f 78 = .agg ⟨[.int .i64 (loB S va (truthsS S) ((truthsS S).length - 1) k), .int .i64 (hiB S va (truthsS S) ((truthsS S).length - 1) k)]⟩) => neq39 (h := g) (N := 81) (f := f) (x := T 70) (y := T 78) (ty := 4) (u := 39) (by rw [valN_tmp (by omega)]; exact e1) (by rw [valN_tmp (by omega)]; exact e2)
      simp only [rn0, rn1, rn2, rn3, rn4, rn5, rn6, rn7, rn8, if_true, if_false, Nat.le_refl, true_and, and_true, decide_true, decide_false, Bool.not_true, Bool.not_false, reduceIte, Nat.reduceEqDiff, Nat.reduceAdd, Nat.reduceMul, Nat.reduceSub, Nat.reduceLeDiff, Nat.reduceLT, p1, p2, p5, p7, p9, p10, Cells.len hr4, hk']
      refine W_draw All ?_
      simp only [rn0, rn1, rn2, rn3, rn4, rn5, rn6, rn7, rn8, if_true, if_false, Nat.le_refl, true_and, and_true, decide_true, decide_false, Bool.not_true, Bool.not_false, reduceIte, Nat.reduceEqDiff, Nat.reduceAdd, Nat.reduceMul, Nat.reduceSub, Nat.reduceLeDiff, Nat.reduceLT, p1, p2, p5, p7, p9, p10, Cells.idx hr4 hk, hld, self_two, r4.whole (n := 7) rfl, hwb, er, eto, x_binA, binA_neqAgg]
      rw [he _ (by simp only [rn0, rn1, rn2, rn3, rn4, rn5, rn6, rn7, rn8, if_true, if_false, Nat.le_refl, true_and, and_true, decide_true, decide_false, Bool.not_true, Bool.not_false, reduceIte, Nat.reduceEqDiff, Nat.reduceAdd, Nat.reduceMul, Nat.reduceSub, Nat.reduceLeDiff, Nat.reduceLT, p1, p2, p5, p7, p9, p10]) (by simp only [rn0, rn1, rn2, rn3, rn4, rn5, rn6, rn7, rn8, if_true, if_false, Nat.le_refl, true_and, and_true, decide_true, decide_false, Bool.not_true, Bool.not_false, reduceIte, Nat.reduceEqDiff, Nat.reduceAdd, Nat.reduceMul, Nat.reduceSub, Nat.reduceLeDiff, Nat.reduceLT, p1, p2, p5, p7, p9, p10])]
      simp only [rn0, rn1, rn2, rn3, rn4, rn5, rn6, rn7, rn8, if_true, if_false, Nat.le_refl, true_and, and_true, decide_true, decide_false, Bool.not_true, Bool.not_false, reduceIte, Nat.reduceEqDiff, Nat.reduceAdd, Nat.reduceMul, Nat.reduceSub, Nat.reduceLeDiff, Nat.reduceLT, p1, p2, p5, p7, p9, p10, hw]
    · rintro f g ms ⟨rfl, rfl, p1, p2, p5, p7, p9, p10⟩
      simp only [rn0, rn1, rn2, rn3, rn4, rn5, rn6, rn7, rn8, if_true, if_false, Nat.le_refl, true_and, and_true, decide_true, decide_false, Bool.not_true, Bool.not_false, reduceIte, Nat.reduceEqDiff, Nat.reduceAdd, Nat.reduceMul, Nat.reduceSub, Nat.reduceLeDiff, Nat.reduceLT, p1, p2, p5, p7, p9, p10, Cells.len hr4, Int.lt_irrefl, haw]
end Go.Vm.St
