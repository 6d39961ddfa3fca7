/- Texts of the proofs of this seat, put together: BtMin, BtLeaveP, BtLeaveQ, BtLongL, BtWiderP, BtMoreP, BtMoreL, BtEnded, BtFirstL, BtRefB, BtLeavesL, BtSampled, BtBoundsL, BtKnownL, BtKnownP, BtPlays, BtTruthL. -/
import Derived.Test.YtjihegbffhhcaaaPk12

namespace Go.Vm.Bt
open Go.Proofs Go.Vm.Vat Go.Vm.L2
set_option linter.unusedSimpArgs false
set_option linter.unusedVariables false
set_option maxRecDepth 10000
variable {n : Nat} {h : AHeap}
def cmpZ (x y : Int) : Int := if x < y then -1 else if y < x then 1 else 0
def s130 : SCode := (.seq (.ops [⟨(some 2), none, .mov (.const (.bool false))⟩]) (.seq (.ops [⟨(some 3), none, .mov (T 0)⟩, ⟨(some 4), none, .mov (T 0)⟩, ⟨(some 5), none, .int2 .neq (T 3) (T 4)⟩, ⟨(some 2), none, .mov (T 5)⟩]) .ret))
theorem fok130 : FnOk Try.prog 130 6 s130 [.tmp 2] := ⟨Try.f130, _, Try.func130, rfl, Try.ntmps130, by kernel_rfl, by kernel_rfl⟩
theorem isNaN_c (hn : 1 ≤ n) (x : Int) : call n (.func (.func 130) #[] #[]) [.int .i64 x] h = some (.bool false, h) := by
  obtain ⟨n, rfl⟩ : ∃ p, n = p + 1 := ⟨n - 1, by omega⟩
  refine call_plain0 fok130 rfl rfl (by simp) rfl ?_
  simp only [rn0, rn1, rn2, rn3, rn4, rn5, rn6, rn7, rn8, if_true, if_false, Nat.le_refl, true_and, and_true, decide_true, decide_false, Bool.not_true, Bool.not_false, reduceIte, Nat.reduceEqDiff, Nat.reduceAdd, Nat.reduceMul, Nat.reduceSub, Nat.reduceLeDiff, Nat.reduceLT, s130]
def s104 : SCode := (.seq (.ops [⟨(some 4), none, .mov (.const (.int .i64 (0)))⟩]) (.seq (.ops [⟨(some 7), none, .mov (T 0)⟩, ⟨(some 8), none, .call (.func 130) [(T 7)]⟩, ⟨(some 5), none, .mov (T 8)⟩]) (.seq (.ops [⟨(some 9), none, .mov (T 1)⟩, ⟨(some 10), none, .call (.func 130) [(T 9)]⟩, ⟨(some 6), none, .mov (T 10)⟩]) (.seq (.seq (.ops [⟨(some 11), none, .mov (T 5)⟩]) (.cond (T 11) (.seq (.seq (.ops [⟨(some 12), none, .mov (T 6)⟩]) (.cond (T 12) (.seq (.ops [⟨(some 4), none, .mov (.const (.int .i64 (0)))⟩]) .ret) .skip)) (.seq (.ops [⟨(some 4), none, .mov (.const (.int .i64 (-1)))⟩]) .ret)) .skip)) (.seq (.seq (.ops [⟨(some 13), none, .mov (T 6)⟩]) (.cond (T 13) (.seq (.ops [⟨(some 4), none, .mov (.const (.int .i64 (1)))⟩]) .ret) .skip)) (.seq (.seq (.ops [⟨(some 14), none, .mov (T 0)⟩, ⟨(some 15), none, .mov (T 1)⟩, ⟨(some 16), none, .int2 .lss (T 14) (T 15)⟩]) (.cond (T 16) (.seq (.ops [⟨(some 4), none, .mov (.const (.int .i64 (-1)))⟩]) .ret) .skip)) (.seq (.seq (.ops [⟨(some 17), none, .mov (T 0)⟩, ⟨(some 18), none, .mov (T 1)⟩, ⟨(some 19), none, .int2 .gtr (T 17) (T 18)⟩]) (.cond (T 19) (.seq (.ops [⟨(some 4), none, .mov (.const (.int .i64 (1)))⟩]) .ret) .skip)) (.seq (.ops [⟨(some 4), none, .mov (.const (.int .i64 (0)))⟩]) .ret))))))))
theorem fok104 : FnOk Try.prog 104 20 s104 [.tmp 4] := ⟨Try.f104, _, Try.func104, rfl, Try.ntmps104, by kernel_rfl, by kernel_rfl⟩
theorem cmpI_c (hn : 2 ≤ n) (x y : Int) : call n (.func (.func 104) #[] #[]) [.int .i64 x, .int .i64 y] h = some (.int .i64 (cmpZ x y), h) := by
  obtain ⟨n, rfl⟩ : ∃ p, n = p + 1 := ⟨n - 1, by omega⟩
  refine call_plain0 fok104 rfl rfl (by simp) rfl ?_
  have e1 := isNaN_c (n := n) (h := h.shutAll) (by omega) x
  have e2 := isNaN_c (n := n) (h := h.shutAll) (by omega) y
  generalize h.shutAll = h at e1 e2
  unfold cmpZ
  by_cases c1 : x < y
  · rw [if_pos c1]
    simp only [rn0, rn1, rn2, rn3, rn4, rn5, rn6, rn7, rn8, if_true, if_false, Nat.le_refl, true_and, and_true, decide_true, decide_false, Bool.not_true, Bool.not_false, reduceIte, Nat.reduceEqDiff, Nat.reduceAdd, Nat.reduceMul, Nat.reduceSub, Nat.reduceLeDiff, Nat.reduceLT, s104, e1, e2, c1]
  · rw [if_neg c1]
    by_cases c2 : y < x
    · rw [if_pos c2]
      simp only [rn0, rn1, rn2, rn3, rn4, rn5, rn6, rn7, rn8, if_true, if_false, Nat.le_refl, true_and, and_true, decide_true, decide_false, Bool.not_true, Bool.not_false, reduceIte, Nat.reduceEqDiff, Nat.reduceAdd, Nat.reduceMul, Nat.reduceSub, Nat.reduceLeDiff, Nat.reduceLT, s104, e1, e2, c1, c2, gt_iff_lt]
    · rw [if_neg c2]
      simp only [rn0, rn1, rn2, rn3, rn4, rn5, rn6, rn7, rn8, if_true, if_false, Nat.le_refl, true_and, and_true, decide_true, decide_false, Bool.not_true, Bool.not_false, reduceIte, Nat.reduceEqDiff, Nat.reduceAdd, Nat.reduceMul, Nat.reduceSub, Nat.reduceLeDiff, Nat.reduceLT, s104, e1, e2, c1, c2, gt_iff_lt]
noncomputable def lexD (a : Nat → Int) (m : Nat) (b : Nat → Int) (k : Nat) : Int := if LexLt a b (min m k) then -1 else if LexLt b a (min m k) then 1 else if k < m then 1 else if m < k then -1 else 0
theorem lexD_at {a b : Nat → Int} {m k i : Nat} (h1 : i < m) (h2 : i < k) (he : ∀ j, j < i → a j = b j) (hl : a i < b i) : lexD a m b k = -1 := by unfold lexD; rw [if_pos ⟨i, by omega, he, hl⟩]
theorem lexD_at' {a b : Nat → Int} {m k i : Nat} (h1 : i < m) (h2 : i < k) (he : ∀ j, j < i → a j = b j) (hl : b i < a i) : lexD a m b k = 1 := by
  unfold lexD
  rw [if_neg, if_pos ⟨i, by omega, fun j hj => (he j hj).symm, hl⟩]
  rintro ⟨j, j1, j2, j3⟩
  by_cases e : j = i
  · subst e; omega
  · by_cases e2 : j < i
    · have := he j e2; omega
    · have := j2 i (by omega); omega
theorem lexD_eq {a b : Nat → Int} {m k : Nat} (he : ∀ j, j < min m k → a j = b j) : lexD a m b k = if k < m then 1 else if m < k then -1 else 0 := by
  unfold lexD
  rw [if_neg, if_neg]
  · rintro ⟨j, j1, j2, j3⟩; have := he j j1; omega
  · rintro ⟨j, j1, j2, j3⟩; have := he j j1; omega
def s105 : SCode := (.seq (.ops [⟨(some 4), none, .mov (.const (.int .i64 (0)))⟩]) (.seq (.seq (.ops [⟨(some 9), none, .mov (T 0)⟩, ⟨(some 10), none, .len (T 9)⟩, ⟨(some 11), none, .mov (.const (.int .i64 (0)))⟩]) (.block 0 (.loop (.seq (.ops [⟨(some 12), none, .int2 .lss (T 11) (T 10)⟩]) (.seq (.cond (T 12) .skip (.exit 0)) (.seq (.block 1 (.seq (.ops [⟨(some 13), none, .mov (T 11)⟩, ⟨(some 14), none, .idxSl 1 (T 9) (T 11)⟩, ⟨(some 15), none, .load1 (T 14)⟩, ⟨(some 5), none, .mov (T 13)⟩, ⟨(some 6), none, .mov (T 15)⟩]) (.seq (.seq (.ops [⟨(some 16), none, .mov (T 5)⟩, ⟨(some 17), none, .mov (T 1)⟩, ⟨(some 18), none, .len (T 17)⟩, ⟨(some 19), none, .int2 .geq (T 16) (T 18)⟩]) (.cond (T 19) (.seq (.ops [⟨(some 4), none, .mov (.const (.int .i64 (1)))⟩]) .ret) .skip)) (.seq (.ops [⟨(some 20), none, .mov (T 1)⟩, ⟨(some 21), none, .mov (T 5)⟩, ⟨(some 22), none, .idxSl 1 (T 20) (T 21)⟩, ⟨(some 23), none, .load1 (T 22)⟩, ⟨(some 7), none, .mov (T 23)⟩]) (.seq (.ops [⟨(some 24), none, .mov (T 6)⟩, ⟨(some 25), none, .mov (T 7)⟩, ⟨(some 26), none, .call (.func 104) [(T 24), (T 25)]⟩, ⟨(some 8), none, .mov (T 26)⟩]) (.seq (.ops [⟨(some 27), none, .mov (T 8)⟩, ⟨(some 28), none, .int2 .neq (T 27) (.const (.int .i64 (0)))⟩]) (.cond (T 28) (.seq (.ops [⟨(some 29), none, .mov (T 8)⟩, ⟨(some 4), none, .mov (T 29)⟩]) .ret) .skip))))))) (.ops [⟨(some 30), none, .int2 .add (T 11) (.const (.int .i64 (1)))⟩, ⟨(some 11), none, .mov (T 30)⟩]))))))) (.seq (.seq (.ops [⟨(some 31), none, .mov (T 0)⟩, ⟨(some 32), none, .len (T 31)⟩, ⟨(some 33), none, .mov (T 1)⟩, ⟨(some 34), none, .len (T 33)⟩, ⟨(some 35), none, .int2 .lss (T 32) (T 34)⟩]) (.cond (T 35) (.seq (.ops [⟨(some 4), none, .mov (.const (.int .i64 (-1)))⟩]) .ret) .skip)) (.seq (.ops [⟨(some 4), none, .mov (.const (.int .i64 (0)))⟩]) .ret))))
theorem fok105 : FnOk Try.prog 105 36 s105 [.tmp 4] := ⟨Try.f105, _, Try.func105, rfl, Try.ntmps105, by kernel_rfl, by kernel_rfl⟩
theorem cmpL_c {m k : Nat} (hn : 40 ≤ n) (hm : m ≤ 30) (hk : k ≤ 30) {va vb : Value} {a b : Nat → Int} (ha : Ints h va m a) (hb : Ints h vb k b) : call n (.func (.func 105) #[] #[]) [va, vb] h = some (.int .i64 (lexD a m b k), h) := by
  obtain ⟨n, rfl⟩ : ∃ p, n = p + 1 := ⟨n - 1, by omega⟩
  refine call_plain0 fok105 rfl rfl (by simp) rfl ?_
  have ha : Ints h.shutAll va m a := Cells.shut ha
  have hb : Ints h.shutAll vb k b := Cells.shut hb
  generalize h.shutAll = h at ha hb
  simp only [rn0, rn1, rn2, rn3, rn4, rn5, rn6, rn7, rn8, if_true, if_false, Nat.le_refl, true_and, and_true, decide_true, decide_false, Bool.not_true, Bool.not_false, reduceIte, Nat.reduceEqDiff, Nat.reduceAdd, Nat.reduceMul, Nat.reduceSub, Nat.reduceLeDiff, Nat.reduceLT, s105, Cells.len ha]
  refine W_loop m (fun i f g ms => ((∀ j, j < i → a j = b j) ∧ i ≤ k ∧ g = h) ∧ ms = [] ∧ f 0 = va ∧ f 1 = vb ∧ f 9 = va ∧ f 10 = .int .i64 (m : Int) ∧ f 11 = .int .i64 (i : Int)) (by simp; omega) ?_ ?_ ?_
  · simp only [rn0, rn1, rn2, rn3, rn4, rn5, rn6, rn7, rn8, if_true, if_false, Nat.le_refl, true_and, and_true, decide_true, decide_false, Bool.not_true, Bool.not_false, reduceIte, Nat.reduceEqDiff, Nat.reduceAdd, Nat.reduceMul, Nat.reduceSub, Nat.reduceLeDiff, Nat.reduceLT, Int.natCast_zero]
    first | exact ⟨fun i hi => by omega, Nat.zero_le _⟩ | exact ⟨⟨fun i hi => by omega, Nat.zero_le _⟩, rfl⟩
  · rintro i f g ms hi ⟨⟨he, hik, rfl⟩, rfl, p0, p1, p9, p10, p11⟩
    have hi' : (i : Int) < (m : Int) := by omega
    have hw : wrapF .i64 ((i : Int) + 1) = ((i + 1 : Nat) : Int) := by rw [wrap_in (by omega) (by omega)]; rfl
    by_cases c : i < k
    · have c' : ¬ (k : Int) ≤ (i : Int) := by omega
      have ec := cmpI_c (n := n) (h := g) (by omega) (a i) (b i)
      by_cases c1 : a i < b i
      · have hz : cmpZ (a i) (b i) = -1 := if_pos c1
        rw [hz] at ec
        rw [lexD_at hi c he c1]
        simp only [rn0, rn1, rn2, rn3, rn4, rn5, rn6, rn7, rn8, if_true, if_false, Nat.le_refl, true_and, and_true, decide_true, decide_false, Bool.not_true, Bool.not_false, reduceIte, Nat.reduceEqDiff, Nat.reduceAdd, Nat.reduceMul, Nat.reduceSub, Nat.reduceLeDiff, Nat.reduceLT, p0, p1, p9, p10, p11, hi', Cells.idx ha hi, Cells.ld ha hi Nat.zero_lt_one, Cells.len hb, ge_iff_le, c', Cells.idx hb c, Cells.ld hb c Nat.zero_lt_one, ec, Int.reduceEq, Int.reduceNeg]
      · by_cases c2 : b i < a i
        · have hz : cmpZ (a i) (b i) = 1 := by unfold cmpZ; rw [if_neg c1, if_pos c2]
          rw [hz] at ec
          rw [lexD_at' hi c he c2]
          simp only [rn0, rn1, rn2, rn3, rn4, rn5, rn6, rn7, rn8, if_true, if_false, Nat.le_refl, true_and, and_true, decide_true, decide_false, Bool.not_true, Bool.not_false, reduceIte, Nat.reduceEqDiff, Nat.reduceAdd, Nat.reduceMul, Nat.reduceSub, Nat.reduceLeDiff, Nat.reduceLT, p0, p1, p9, p10, p11, hi', Cells.idx ha hi, Cells.ld ha hi Nat.zero_lt_one, Cells.len hb, ge_iff_le, c', Cells.idx hb c, Cells.ld hb c Nat.zero_lt_one, ec, Int.reduceEq]
        · have hz : cmpZ (a i) (b i) = 0 := by unfold cmpZ; rw [if_neg c1, if_neg c2]
          rw [hz] at ec
          simp only [rn0, rn1, rn2, rn3, rn4, rn5, rn6, rn7, rn8, if_true, if_false, Nat.le_refl, true_and, and_true, decide_true, decide_false, Bool.not_true, Bool.not_false, reduceIte, Nat.reduceEqDiff, Nat.reduceAdd, Nat.reduceMul, Nat.reduceSub, Nat.reduceLeDiff, Nat.reduceLT, p0, p1, p9, p10, p11, hi', Cells.idx ha hi, Cells.ld ha hi Nat.zero_lt_one, Cells.len hb, ge_iff_le, c', Cells.idx hb c, Cells.ld hb c Nat.zero_lt_one, ec, hw]
          have fin : (∀ j, j < i + 1 → a j = b j) ∧ i + 1 ≤ k := ⟨fun j hj => by
            by_cases e : j = i
            · subst e; omega
            · exact he j (by omega), c⟩
          first | exact fin | exact ⟨fin, rfl⟩
    · have c' : (k : Int) ≤ (i : Int) := by omega
      have hr : lexD a m b k = 1 := by rw [lexD_eq fun j hj => he j (by omega), if_pos (by omega)]
      rw [hr]
      simp only [rn0, rn1, rn2, rn3, rn4, rn5, rn6, rn7, rn8, if_true, if_false, Nat.le_refl, true_and, and_true, decide_true, decide_false, Bool.not_true, Bool.not_false, reduceIte, Nat.reduceEqDiff, Nat.reduceAdd, Nat.reduceMul, Nat.reduceSub, Nat.reduceLeDiff, Nat.reduceLT, p0, p1, p9, p10, p11, hi', Cells.idx ha hi, Cells.ld ha hi Nat.zero_lt_one, Cells.len hb, ge_iff_le, c']
  · rintro f g ms ⟨⟨he, hik, rfl⟩, rfl, p0, p1, p9, p10, p11⟩
    by_cases c : m < k
    · have c' : (m : Int) < (k : Int) := by omega
      have hr : lexD a m b k = -1 := by rw [lexD_eq fun j hj => he j (by omega), if_neg (by omega), if_pos c]
      rw [hr]
      simp only [rn0, rn1, rn2, rn3, rn4, rn5, rn6, rn7, rn8, if_true, if_false, Nat.le_refl, true_and, and_true, decide_true, decide_false, Bool.not_true, Bool.not_false, reduceIte, Nat.reduceEqDiff, Nat.reduceAdd, Nat.reduceMul, Nat.reduceSub, Nat.reduceLeDiff, Nat.reduceLT, p0, p1, p9, p10, p11, Int.lt_irrefl, Cells.len ha, Cells.len hb, c']
    · have c' : ¬ (m : Int) < (k : Int) := by omega
      have hr : lexD a m b k = 0 := by rw [lexD_eq fun j hj => he j (by omega), if_neg (by omega), if_neg c]
      rw [hr]
      simp only [rn0, rn1, rn2, rn3, rn4, rn5, rn6, rn7, rn8, if_true, if_false, Nat.le_refl, true_and, and_true, decide_true, decide_false, Bool.not_true, Bool.not_false, reduceIte, Nat.reduceEqDiff, Nat.reduceAdd, Nat.reduceMul, Nat.reduceSub, Nat.reduceLeDiff, Nat.reduceLT, p0, p1, p9, p10, p11, Int.lt_irrefl, Cells.len ha, Cells.len hb, c']
def s103 : SCode := (.seq (.ops [⟨(some 2), none, .mov (.const (.int .i64 (0)))⟩]) (.seq (.ops [⟨(some 3), none, .mov (.const (.int .i64 (0)))⟩]) (.seq (.seq (.ops [⟨(some 6), none, .mov (T 0)⟩, ⟨(some 7), none, .len (T 6)⟩, ⟨(some 8), none, .mov (.const (.int .i64 (0)))⟩]) (.block 0 (.loop (.seq (.ops [⟨(some 9), none, .int2 .lss (T 8) (T 7)⟩]) (.seq (.cond (T 9) .skip (.exit 0)) (.seq (.block 1 (.seq (.ops [⟨(some 10), none, .idxSl 1 (T 6) (T 8)⟩, ⟨(some 11), none, .load1 (T 10)⟩, ⟨(some 5), none, .mov (T 11)⟩]) (.seq (.ops [⟨(some 12), none, .mov (T 5)⟩, ⟨(some 13), none, .mov (T 3)⟩, ⟨(some 14), none, .int2 .neq (T 12) (T 13)⟩]) (.cond (T 14) (.seq (.ops [⟨(some 15), none, .mov (T 5)⟩, ⟨(some 2), none, .mov (T 15)⟩]) .ret) .skip)))) (.ops [⟨(some 16), none, .int2 .add (T 8) (.const (.int .i64 (1)))⟩, ⟨(some 8), none, .mov (T 16)⟩]))))))) (.seq (.ops [⟨(some 17), none, .mov (T 3)⟩, ⟨(some 2), none, .mov (T 17)⟩]) .ret))))
theorem fok103 : FnOk Try.prog 103 18 s103 [.tmp 2] := ⟨Try.f103, _, Try.func103, rfl, Try.ntmps103, by kernel_rfl, by kernel_rfl⟩
theorem or_c (hn : 10 ≤ n) {v : Value} {a : Nat → Int} (ha : Ints h v 2 a) : call n (.func (.func 103) #[] #[]) [v] h = some (.int .i64 (if a 0 = 0 then a 1 else a 0), h) := by
  obtain ⟨n, rfl⟩ : ∃ p, n = p + 1 := ⟨n - 1, by omega⟩
  refine call_plain0 fok103 rfl rfl (by simp) rfl ?_
  have ha : Ints h.shutAll v 2 a := Cells.shut ha
  generalize h.shutAll = h at ha
  simp only [rn0, rn1, rn2, rn3, rn4, rn5, rn6, rn7, rn8, if_true, if_false, Nat.le_refl, true_and, and_true, decide_true, decide_false, Bool.not_true, Bool.not_false, reduceIte, Nat.reduceEqDiff, Nat.reduceAdd, Nat.reduceMul, Nat.reduceSub, Nat.reduceLeDiff, Nat.reduceLT, s103, Cells.len ha]
  refine W_loop 2 (fun i f g ms => ((∀ j, j < i → a j = 0) ∧ g = h) ∧ ms = [] ∧ f 3 = .int .i64 0 ∧ f 6 = v ∧ f 7 = .int .i64 ((2 : Nat) : Int) ∧ f 8 = .int .i64 (i : Int)) (by simp; omega) ?_ ?_ ?_
  · simp only [rn0, rn1, rn2, rn3, rn4, rn5, rn6, rn7, rn8, if_true, if_false, Nat.le_refl, true_and, and_true, decide_true, decide_false, Bool.not_true, Bool.not_false, reduceIte, Nat.reduceEqDiff, Nat.reduceAdd, Nat.reduceMul, Nat.reduceSub, Nat.reduceLeDiff, Nat.reduceLT, Int.natCast_zero]
    first | exact fun i hi => by omega | exact ⟨fun i hi => by omega, rfl⟩
  · rintro i f g ms hi ⟨⟨he, rfl⟩, rfl, p3, p6, p7, p8⟩
    have hi' : (i : Int) < ((2 : Nat) : Int) := by omega
    have hw : wrapF .i64 ((i : Int) + 1) = ((i + 1 : Nat) : Int) := by rw [wrap_in (by omega) (by omega)]; rfl
    by_cases c : a i = 0
    · simp only [rn0, rn1, rn2, rn3, rn4, rn5, rn6, rn7, rn8, if_true, if_false, Nat.le_refl, true_and, and_true, decide_true, decide_false, Bool.not_true, Bool.not_false, reduceIte, Nat.reduceEqDiff, Nat.reduceAdd, Nat.reduceMul, Nat.reduceSub, Nat.reduceLeDiff, Nat.reduceLT, p3, p6, p7, p8, hi', Cells.idx ha hi, Cells.ld ha hi Nat.zero_lt_one, c, hw]
      have fin : ∀ j, j < i + 1 → a j = 0 := fun j hj => by
        by_cases e : j = i
        · subst e; exact c
        · exact he j (by omega)
      first | exact fin | exact ⟨fin, rfl⟩
    · have hr : (if a 0 = 0 then a 1 else a 0) = a i := by
        obtain rfl | rfl : i = 0 ∨ i = 1 := by omega
        · rw [if_neg c]
        · rw [if_pos (he 0 (by omega))]
      rw [hr]
      simp only [rn0, rn1, rn2, rn3, rn4, rn5, rn6, rn7, rn8, if_true, if_false, Nat.le_refl, true_and, and_true, decide_true, decide_false, Bool.not_true, Bool.not_false, reduceIte, Nat.reduceEqDiff, Nat.reduceAdd, Nat.reduceMul, Nat.reduceSub, Nat.reduceLeDiff, Nat.reduceLT, p3, p6, p7, p8, hi', Cells.idx ha hi, Cells.ld ha hi Nat.zero_lt_one, c]
  · rintro f g ms ⟨⟨he, rfl⟩, rfl, p3, p6, p7, p8⟩
    have hr : (if a 0 = 0 then a 1 else a 0) = 0 := by rw [if_pos (he 0 (by omega)), he 1 (by omega)]
    rw [hr]
    simp only [rn0, rn1, rn2, rn3, rn4, rn5, rn6, rn7, rn8, if_true, if_false, Nat.le_refl, true_and, and_true, decide_true, decide_false, Bool.not_true, Bool.not_false, reduceIte, Nat.reduceEqDiff, Nat.reduceAdd, Nat.reduceMul, Nat.reduceSub, Nat.reduceLeDiff, Nat.reduceLT, p3, p6, p7, p8, Int.lt_irrefl]
end Go.Vm.Bt

namespace Go.Vm.Bt
open Go.Proofs Go.Vm.Vat Go.Vm.L2
set_option linter.unusedSimpArgs false
set_option linter.unusedVariables false
set_option maxRecDepth 10000
variable {n : Nat} {h : AHeap}
theorem sl_pair {a b : Int} : buildSl 1 2 [.int .i64 0] [0, 1] h [.int .i64 a, .int .i64 b] = newSlice h [.int .i64 a, .int .i64 b] 2 2 0 := id rfl
noncomputable def slZ (a : Nat → Int) (m : Nat) (b : Nat → Int) (k : Nat) : Int := if cmpZ m k = 0 then lexD a m b k else cmpZ m k
theorem slZ_lt {a b : Nat → Int} {m k : Nat} : slZ a m b k < 0 ↔ Shortlex a m b k := by
  unfold slZ cmpZ Shortlex
  by_cases c1 : m < k
  · rw [if_neg (by rw [if_pos (by omega)]; decide), if_pos (by omega)]
    exact ⟨fun _ => .inl c1, fun _ => by decide⟩
  · by_cases c2 : k < m
    · rw [if_neg (by rw [if_neg (by omega), if_pos (by omega)]; decide), if_neg (by omega), if_pos (by omega)]
      exact ⟨fun h => by omega, fun h => by rcases h with h | h <;> omega⟩
    · have e : m = k := by omega
      subst e
      rw [if_pos (by rw [if_neg (by omega), if_neg (by omega)])]
      unfold lexD
      rw [Nat.min_self]
      by_cases c : LexLt a b m
      · rw [if_pos c]; exact ⟨fun _ => .inr ⟨rfl, c⟩, fun _ => by decide⟩
      · rw [if_neg c]
        refine ⟨fun h => ?_, fun h => ?_⟩
        · rw [if_neg (Nat.lt_irrefl _), if_neg (Nat.lt_irrefl _)] at h
          split at h <;> omega
        · rcases h with h | h
          · omega
          · exact absurd h.2 c
def s102 : SCode := (.seq (.ops [⟨(some 4), none, .mov (.const (.int .i64 (0)))⟩]) (.seq (.ops [⟨(some 5), none, .mov (T 0)⟩, ⟨(some 6), none, .len (T 5)⟩, ⟨(some 7), none, .mov (T 1)⟩, ⟨(some 8), none, .len (T 7)⟩, ⟨(some 9), none, .call (.func 104) [(T 6), (T 8)]⟩, ⟨(some 10), none, .mov (T 0)⟩, ⟨(some 11), none, .mov (T 1)⟩, ⟨(some 12), none, .call (.func 105) [(T 10), (T 11)]⟩, ⟨(some 13), none, .bslice 1 2 [(.int .i64 (0))] [0, 1] [(T 9), (T 12)]⟩, ⟨(some 14), none, .call (.func 103) [(T 13)]⟩, ⟨(some 4), none, .mov (T 14)⟩]) .ret))
theorem fok102 : FnOk Try.prog 102 15 s102 [.tmp 4] := ⟨Try.f102, _, Try.func102, rfl, Try.ntmps102, by kernel_rfl, by kernel_rfl⟩
theorem leave1_c {m k : Nat} (hn : 60 ≤ n) (hr : h.next + 10 < far) (hm : m ≤ 30) (hk : k ≤ 30) {va vb : Value} {a b : Nat → Int} (ha : Ints h va m a) (hb : Ints h vb k b) : call n (.func (.func 102) #[] #[]) [va, vb] h = some (.int .i64 (slZ a m b k), h) := by
  obtain ⟨n, rfl⟩ : ∃ p, n = p + 1 := ⟨n - 1, by omega⟩
  refine call_plain0 fok102 rfl rfl (by simp) rfl ?_
  have ha : Ints h.shutAll va m a := Cells.shut ha
  have hb : Ints h.shutAll vb k b := Cells.shut hb
  have hr : h.shutAll.next + 10 < far := hr
  have hfl : h.shutAll.floor ≤ h.shutAll.next := Nat.le_refl _
  generalize h.shutAll = h at ha hb hr hfl
  have e1 := cmpI_c (n := n) (h := h) (by omega) (m : Int) (k : Int)
  have e2 := cmpL_c (n := n) (h := h) (by omega) hm hk ha hb
  simp only [rn0, rn1, rn2, rn3, rn4, rn5, rn6, rn7, rn8, if_true, if_false, Nat.le_refl, true_and, and_true, decide_true, decide_false, Bool.not_true, Bool.not_false, reduceIte, Nat.reduceEqDiff, Nat.reduceAdd, Nat.reduceMul, Nat.reduceSub, Nat.reduceLeDiff, Nat.reduceLT, s102, Cells.len ha, Cells.len hb, e1, e2, sl_pair]
  refine step_slice (by omega) rfl fun g hx => ?_
  have hp : Ints g (.slice (some ⟨h.next, 0, none⟩) 2 2) 2 (fun i => if i = 0 then cmpZ m k else lexD a m b k) := ⟨_, _, rfl, fun x e => by cases e; rfl, .inr ⟨_, 0, _, _, _, rfl, hx.get, fun i j hi hj => by
    obtain rfl : j = 0 := by omega
    obtain rfl | rfl : i = 0 ∨ i = 1 := by omega
    · rfl
    · rfl⟩⟩
  have e3 := or_c (n := n) (h := g) (by omega) hp
  have e4 : (if (if (0 : Nat) = 0 then cmpZ m k else lexD a m b k) = 0 then (if (1 : Nat) = 0 then cmpZ m k else lexD a m b k) else (if (0 : Nat) = 0 then cmpZ m k else lexD a m b k)) = slZ a m b k := rfl
  rw [e4] at e3
  simp only [rn0, rn1, rn2, rn3, rn4, rn5, rn6, rn7, rn8, if_true, if_false, Nat.le_refl, true_and, and_true, decide_true, decide_false, Bool.not_true, Bool.not_false, reduceIte, Nat.reduceEqDiff, Nat.reduceAdd, Nat.reduceMul, Nat.reduceSub, Nat.reduceLeDiff, Nat.reduceLT, e3]
def IsLeast (L : List (List Int)) (l : List Int) : Prop := l ∈ L ∧ ∀ w, w ∈ L → ¬ SL w l
def s101 : SCode := (.seq (.ops [⟨(some 4), none, .mov (.const (.slice none 0 0))⟩]) (.seq (.seq (.ops [⟨(some 7), none, .mov (T 0)⟩, ⟨(some 8), none, .len (T 7)⟩, ⟨(some 9), none, .int2 .lss (T 8) (.const (.int .i64 (1)))⟩]) (.cond (T 9) .stuck .skip)) (.seq (.ops [⟨(some 11), none, .mov (T 0)⟩, ⟨(some 12), none, .idxSl 1 (T 11) (.const (.int .i64 (0)))⟩, ⟨(some 13), none, .load1 (T 12)⟩, ⟨(some 5), none, .mov (T 13)⟩]) (.seq (.seq (.ops [⟨(some 6), none, .mov (.const (.int .i64 (1)))⟩]) (.block 0 (.loop (.seq (.seq (.ops [⟨(some 14), none, .mov (T 6)⟩, ⟨(some 15), none, .mov (T 0)⟩, ⟨(some 16), none, .len (T 15)⟩, ⟨(some 17), none, .int2 .lss (T 14) (T 16)⟩]) (.cond (T 17) .skip (.exit 0))) (.seq (.block 1 (.seq (.ops [⟨(some 20), none, .mov (T 1)⟩, ⟨(some 21), none, .mov (T 0)⟩, ⟨(some 22), none, .mov (T 6)⟩, ⟨(some 23), none, .idxSl 1 (T 21) (T 22)⟩, ⟨(some 24), none, .load1 (T 23)⟩, ⟨(some 25), none, .mov (T 5)⟩, ⟨(some 26), none, .call (T 20) [(T 24), (T 25)]⟩, ⟨(some 27), none, .int2 .lss (T 26) (.const (.int .i64 (0)))⟩]) (.cond (T 27) (.ops [⟨(some 28), none, .mov (T 0)⟩, ⟨(some 29), none, .mov (T 6)⟩, ⟨(some 30), none, .idxSl 1 (T 28) (T 29)⟩, ⟨(some 31), none, .load1 (T 30)⟩, ⟨(some 5), none, .mov (T 31)⟩]) .skip))) (.ops [⟨(some 18), none, .mov (T 6)⟩, ⟨(some 19), none, .int2 .add (T 18) (.const (.int .i64 (1)))⟩, ⟨(some 6), none, .mov (T 19)⟩])))))) (.seq (.ops [⟨(some 32), none, .mov (T 5)⟩, ⟨(some 4), none, .mov (T 32)⟩]) .ret)))))
theorem fok101 : FnOk Try.prog 101 33 s101 [.tmp 4] := ⟨Try.f101, _, Try.func101, rfl, Try.ntmps101, by kernel_rfl, by kernel_rfl⟩
set_option maxHeartbeats 1000000 in
theorem min_c (hn : 400 ≤ n) (hr : h.next + 20 < far) {v : Value} {L : List (List Int)} (hL : L ≠ []) (ha : AllR h v L) (h5 : ∀ l, l ∈ L → l.length ≤ 30) (hlen : L.length ≤ 300) :
    ∃ r h', call n (.func (.func 101) #[] #[]) [v, .func (.func 102) #[] #[]] h = some (r, h') ∧ h' = h ∧ ∃ l, IsLeast L l ∧ Ints h r l.length (atL l) := by
  obtain ⟨n, rfl⟩ : ∃ p, n = p + 1 := ⟨n - 1, by omega⟩
  refine call_any0 fok101 rfl rfl (by simp) ?_
  obtain ⟨R, hc, hi⟩ := ha
  obtain ⟨M, hM⟩ : ∃ M, L.length = M + 1 := ⟨L.length - 1, by have := List.length_pos_iff.2 hL; omega⟩
  have hpos : 0 < L.length := by omega
  have hl1 : ¬ (L.length : Int) < 1 := by omega
  have i0 : indexSl 1 v (.int .i64 0) = some (ptrO v 1 0 0) := Cells.idx hc hpos
  have hmem : ∀ i, i < L.length → L.getD i [] ∈ L := fun i hi => by rw [List.getD_eq_getElem?_getD, List.getElem?_eq_getElem hi]; exact List.getElem_mem hi
  simp only [rn0, rn1, rn2, rn3, rn4, rn5, rn6, rn7, rn8, if_true, if_false, Nat.le_refl, true_and, and_true, decide_true, decide_false, Bool.not_true, Bool.not_false, reduceIte, Nat.reduceEqDiff, Nat.reduceAdd, Nat.reduceMul, Nat.reduceSub, Nat.reduceLeDiff, Nat.reduceLT, s101, Cells.len hc, hl1, i0, Cells.ld hc hpos Nat.zero_lt_one]
  refine W_loop M (fun k f g ms => (g = h ∧ ∃ c, c < k + 1 ∧ f 5 = R c ∧ ∀ j, j < k + 1 → ¬ SL (L.getD j []) (L.getD c [])) ∧ ms = [] ∧ f 0 = v ∧ f 1 = .func (.func 102) #[] #[] ∧ f 6 = .int .i64 ((k + 1 : Nat) : Int)) (by simp; omega) ?_ ?_ ?_
  · have hs0 : ¬ SL (L.getD 0 []) (L.getD 0 []) := fun h => by
      rcases h with h | h
      · omega
      · exact lex_irr h.2
    have z1 : ((0 + 1 : Nat) : Int) = 1 := rfl
    simp only [rn0, rn1, rn2, rn3, rn4, rn5, rn6, rn7, rn8, if_true, if_false, Nat.le_refl, true_and, and_true, decide_true, decide_false, Bool.not_true, Bool.not_false, reduceIte, Nat.reduceEqDiff, Nat.reduceAdd, Nat.reduceMul, Nat.reduceSub, Nat.reduceLeDiff, Nat.reduceLT, z1]
    have fin : ∃ c, c < 0 + 1 ∧ R 0 = R c ∧ ∀ j, j < 0 + 1 → ¬ SL (L.getD j []) (L.getD c []) := ⟨0, by omega, rfl, fun j hj => by
      obtain rfl : j = 0 := by omega
      exact hs0⟩
    first | exact fin | exact ⟨fin, rfl⟩ | exact ⟨⟨rfl, fin⟩, rfl⟩
  · rintro k f g ms hk ⟨⟨rfl, c, hc1, p5, hno⟩, rfl, p0, p1, p6⟩
    have hk2 : k + 1 < L.length := by omega
    have hk' : ((k + 1 : Nat) : Int) < (L.length : Int) := by omega
    have hw : wrapF .i64 (((k + 1 : Nat) : Int) + 1) = ((k + 1 + 1 : Nat) : Int) := by rw [wrap_in (by omega) (by omega)]; rfl
    have e1 := leave1_c (n := n) (h := g) (by omega) (by omega) (h5 _ (hmem _ hk2)) (h5 _ (hmem c (by omega))) (hi _ hk2) (hi c (by omega))
    have hz := slZ_lt (a := atL (L.getD (k + 1) [])) (b := atL (L.getD c [])) (m := (L.getD (k + 1) []).length) (k := (L.getD c []).length)
    have hsl : SL (L.getD (k + 1) []) (L.getD c []) ↔ Shortlex (atL (L.getD (k + 1) [])) (L.getD (k + 1) []).length (atL (L.getD c [])) (L.getD c []).length := Iff.rfl
    rw [← hsl] at hz
    by_cases cc : SL (L.getD (k + 1) []) (L.getD c [])
    · have hz' := hz.2 cc
      simp only [rn0, rn1, rn2, rn3, rn4, rn5, rn6, rn7, rn8, if_true, if_false, Nat.le_refl, true_and, and_true, decide_true, decide_false, Bool.not_true, Bool.not_false, reduceIte, Nat.reduceEqDiff, Nat.reduceAdd, Nat.reduceMul, Nat.reduceSub, Nat.reduceLeDiff, Nat.reduceLT, p0, p1, p5, p6, Cells.len hc, hk', Cells.idx hc hk2, Cells.ld hc hk2 Nat.zero_lt_one, e1, hz', hw]
      have fin : ∃ c', c' < k + 1 + 1 ∧ R (k + 1) = R c' ∧ ∀ j, j < k + 1 + 1 → ¬ SL (L.getD j []) (L.getD c' []) := ⟨k + 1, by omega, rfl, fun j hj hs => by
        by_cases e : j = k + 1
        · subst e
          rcases hs with h | h
          · omega
          · exact lex_irr h.2
        · exact hno j (by omega) (sl_trans hs cc)⟩
      first | exact fin | exact ⟨fin, rfl⟩ | exact ⟨⟨rfl, fin⟩, rfl⟩
    · have hz' : ¬ slZ (atL (L.getD (k + 1) [])) (L.getD (k + 1) []).length (atL (L.getD c [])) (L.getD c []).length < 0 := fun q => cc (hz.1 q)
      simp only [rn0, rn1, rn2, rn3, rn4, rn5, rn6, rn7, rn8, if_true, if_false, Nat.le_refl, true_and, and_true, decide_true, decide_false, Bool.not_true, Bool.not_false, reduceIte, Nat.reduceEqDiff, Nat.reduceAdd, Nat.reduceMul, Nat.reduceSub, Nat.reduceLeDiff, Nat.reduceLT, p0, p1, p5, p6, Cells.len hc, hk', Cells.idx hc hk2, Cells.ld hc hk2 Nat.zero_lt_one, e1, hz', hw]
      have fin : ∃ c', c' < k + 1 + 1 ∧ R c = R c' ∧ ∀ j, j < k + 1 + 1 → ¬ SL (L.getD j []) (L.getD c' []) := ⟨c, by omega, rfl, fun j hj hs => by
        by_cases e : j = k + 1
        · subst e; exact cc hs
        · exact hno j (by omega) hs⟩
      first | exact fin | exact ⟨fin, rfl⟩ | exact ⟨⟨rfl, fin⟩, rfl⟩
  · rintro f g ms ⟨⟨rfl, c, hc1, p5, hno⟩, rfl, p0, p1, p6⟩
    have hk' : ¬ ((M + 1 : Nat) : Int) < (L.length : Int) := by omega
    simp only [rn0, rn1, rn2, rn3, rn4, rn5, rn6, rn7, rn8, if_true, if_false, Nat.le_refl, true_and, and_true, decide_true, decide_false, Bool.not_true, Bool.not_false, reduceIte, Nat.reduceEqDiff, Nat.reduceAdd, Nat.reduceMul, Nat.reduceSub, Nat.reduceLeDiff, Nat.reduceLT, p0, p1, p5, p6, Cells.len hc, hk']
    refine ⟨L.getD c [], ⟨hmem c (by omega), fun w hw => ?_⟩, hi c (by omega)⟩
    obtain ⟨j, hj, e⟩ := List.getElem_of_mem hw
    have e2 : L.getD j [] = w := by rw [List.getD_eq_getElem?_getD, List.getElem?_eq_getElem hj]; exact e
    rw [← e2]
    exact hno j (by omega)
theorem least_uniq {L : List (List Int)} {l l' : List Int} (h1 : IsLeast L l) (h2 : IsLeast L l') : l = l' := by
  have a := h1.2 l' h2.1
  have b := h2.2 l h1.1
  apply sl_eq <;> assumption
open Classical in
noncomputable def leaveS (S : MB) : List Int := if h : ∃ l, IsLeast (allW S) l then h.choose else []
theorem leave_is {S : MB} {l : List Int} (hl : IsLeast (allW S) l) : leaveS S = l := by
  unfold leaveS
  rw [dif_pos ⟨l, hl⟩]
  exact least_uniq (Exists.choose_spec (p := fun l => IsLeast (allW S) l) ⟨l, hl⟩) hl
def LeaveR (h : AHeap) (S : MB) (v : Value) (h' : AHeap) : Prop := (∀ i, i < h.next → h'.get i = h.get i) ∧ h.next ≤ h'.next ∧ h'.next ≤ h.next + 50010 ∧ h'.floor = h.floor ∧
  ((faultS S ≠ 0 ∧ v = .tuple ⟨[nilS, .int .i64 (faultS S)]⟩) ∨ (faultS S = 0 ∧ ∃ l, v = .tuple ⟨[l, .int .i64 0]⟩ ∧ Ints h' l (leaveS S).length (atL (leaveS S)) ∧ IsLeast (allW S) (leaveS S)))
def s54 : SCode := (.seq (.ops [⟨(some 1), none, .box (T 0)⟩, ⟨(some 2), none, .mov (.const (.slice none 0 0))⟩, ⟨(some 3), none, .mov (.const (.int .i64 (0)))⟩]) (.seq (.seq (.ops [⟨(some 5), none, .loadN 5 (T 1)⟩, ⟨(some 6), none, .call (.func 31) [(T 5)]⟩, ⟨(some 4), none, .mov (T 6)⟩]) (.seq (.ops [⟨(some 7), none, .mov (T 4)⟩, ⟨(some 8), none, .int2 .neq (T 7) (.const (.int .i64 (0)))⟩]) (.cond (T 8) (.seq (.ops [⟨(some 9), none, .mov (T 4)⟩, ⟨(some 2), none, .mov (.const (.slice none 0 0))⟩, ⟨(some 3), none, .mov (T 9)⟩]) .ret) .skip))) (.seq (.ops [⟨(some 10), none, .loadN 5 (T 1)⟩, ⟨(some 11), none, .build #[(0, 5), (5, 1)] [(.int .i64 (0)), (.int .i64 (0)), (.slice none 0 0), (.int .i64 (0)), (.slice none 0 0), (.slice none 0 0)] [0] [(T 10)]⟩, ⟨(some 12), none, .call (.func 100) [(T 11)]⟩, ⟨(some 13), none, .call (.func 101) [(T 12), (.func 102)]⟩, ⟨(some 2), none, .mov (T 13)⟩, ⟨(some 3), none, .mov (.const (.int .i64 (0)))⟩]) .ret)))
theorem fok54 : FnOk Try.prog 54 14 s54 [.tmp 2, .tmp 3] := ⟨Try.f54, _, Try.func54, rfl, Try.ntmps54, by kernel_rfl, by kernel_rfl⟩
theorem leaveP_c (hn : 1000 ≤ n) (hr : h.next + 130000 < far) (hfl : h.floor ≤ h.next) {vv sv : Value} {S : MB} (hy : BeatR h vv sv S) (hT : ThinS S) :
    ∃ v h', call n (.func (.func 54) #[] #[]) [.agg ⟨beL S vv sv⟩] h = some (v, h') ∧ LeaveR h S v h' := by
  obtain ⟨n, rfl⟩ : ∃ p, n = p + 1 := ⟨n - 1, by omega⟩
  refine call_any0 fok54 rfl rfl (by simp) ?_
  simp only [s54, W_seq, W_ops]
  refine ops_box (cs := beL S vv sv) (by omega) rfl hy.one fun g1 hx1 => ?_
  have n1 := hx1.next
  have f1 := hx1.floor
  have hy1 := hy.mono hx1.sub
  have w1 := hx1.row.whole (n := 5) rfl
  have ec := check_c (n := n) (h := g1) (by omega) (by omega) hy1 hT
  by_cases hf : faultS S = 0
  case neg =>
    simp only [rn0, rn1, rn2, rn3, rn4, rn5, rn6, rn7, rn8, if_true, if_false, Nat.le_refl, true_and, and_true, decide_true, decide_false, Bool.not_true, Bool.not_false, reduceIte, Nat.reduceEqDiff, Nat.reduceAdd, Nat.reduceMul, Nat.reduceSub, Nat.reduceLeDiff, Nat.reduceLT, w1, ec, hf, ret_tt]
    exact ⟨fun i hi => hx1.old i hi, by omega, by omega, by omega, .inl ⟨hf, rfl⟩⟩
  have hG := good_of hf
  obtain ⟨_, _, z3, z5, _⟩ := hG.sizes
  obtain ⟨v, g2, e2, i2, ov, o2, u2, m2, f2⟩ := wrongAll_c (n := n) (h := g1) (by omega) (by omega) (by omega) hy1 hG
  have hne : allW S ≠ [] := by unfold allW; rw [Ne, List.map_eq_nil_iff]; exact allE_ne hG
  obtain ⟨r, g3, e3, rfl, l, hl, il⟩ := min_c (n := n) (h := g2) (by omega) (by omega) hne i2 (fun l hl => by
    obtain ⟨t, _, rfl⟩ := List.mem_map.1 hl
    have := wrong_len (S := S) (t := t)
    omega) (by unfold allW; rw [List.length_map]; have := enum_len hG; unfold allE; omega)
  have e := leave_is hl
  simp only [rn0, rn1, rn2, rn3, rn4, rn5, rn6, rn7, rn8, if_true, if_false, Nat.le_refl, true_and, and_true, decide_true, decide_false, Bool.not_true, Bool.not_false, reduceIte, Nat.reduceEqDiff, Nat.reduceAdd, Nat.reduceMul, Nat.reduceSub, Nat.reduceLeDiff, Nat.reduceLT, w1, ec, hf, build_wkB, e2, e3, ret_tt]
  exact ⟨fun i hi => by rw [o2 i (by omega), hx1.old i hi], by omega, by omega, by omega, .inr ⟨hf, r, rfl, by rw [e]; exact il, by rw [e]; exact hl⟩⟩
end Go.Vm.Bt

namespace Go.Vm.Bt
open Go.Proofs Go.Vm.Vat Go.Vm.L2
set_option linter.unusedSimpArgs false
set_option linter.unusedVariables false
set_option maxRecDepth 10000
variable {n : Nat} {h : AHeap}
theorem least_ex : ∀ (L : List (List Int)), L ≠ [] → ∃ l, IsLeast L l
  | [], h => absurd rfl h
  | x :: L, _ => by
    by_cases hL : L = []
    · subst hL
      exact ⟨x, List.mem_cons_self, fun w hw => by rw [List.mem_singleton] at hw; subst hw; exact sl_irr⟩
    · obtain ⟨l, h1, h2⟩ := least_ex L hL
      by_cases c : SL x l
      · refine ⟨x, List.mem_cons_self, fun w hw => ?_⟩
        rcases List.mem_cons.1 hw with rfl | hw
        · exact sl_irr
        · exact fun q => h2 w hw (sl_trans q c)
      · refine ⟨l, List.mem_cons_of_mem _ h1, fun w hw => ?_⟩
        rcases List.mem_cons.1 hw with rfl | hw
        · exact c
        · exact h2 w hw
theorem leaveS_min {S : MB} (hG : Good S) : (∃ t, t ∈ allE S ∧ leaveS S = wrongL S t) ∧ ∀ t, t ∈ allE S → ¬ SL (wrongL S t) (leaveS S) := by
  have hne : allW S ≠ [] := by unfold allW; rw [Ne, List.map_eq_nil_iff]; exact allE_ne hG
  obtain ⟨l, hl⟩ := least_ex _ hne
  rw [leave_is hl]
  refine ⟨?_, fun t ht => hl.2 _ (List.mem_map.2 ⟨t, ht, rfl⟩)⟩
  obtain ⟨t, ht, e⟩ := List.mem_map.1 hl.1
  exact ⟨t, ht, e.symm⟩
end Go.Vm.Bt

namespace Go.Vm.Bt
open Go.Proofs Go.Vm.Vat Go.Vm.L2
set_option linter.unusedSimpArgs false
set_option linter.unusedVariables false
set_option maxRecDepth 10000
variable {n : Nat} {h : AHeap}
end Go.Vm.Bt

namespace Go.Vm.Bt
open Go.Proofs Go.Vm.Vat Go.Vm.L2
set_option linter.unusedSimpArgs false
set_option linter.unusedVariables false
set_option maxRecDepth 10000
structure Wide (S X : MB) : Prop where
  nv : X.nv = S.nv
  last : X.last = S.last
  ns : X.ns = S.ns
  r : ∀ u k, k < S.ns → (RightS X u k ↔ RightS S u k)
  l : ∀ v a b, lostS X v a b = lostS S v a b
  u : ∀ i, i < numU S → uLo X i ≤ uLo S i ∧ uHi S i ≤ uHi X i
section
variable {S X : MB}
end
end Go.Vm.Bt

namespace Go.Vm.Bt
open Go.Proofs Go.Vm.Vat Go.Vm.L2
set_option linter.unusedSimpArgs false
set_option linter.unusedVariables false
set_option maxRecDepth 10000
variable {n : Nat} {h : AHeap}
section
variable {S : MB} {v hh : Int} {dd : Bool}
end
end Go.Vm.Bt

namespace Go.Vm.Bt
open Go.Proofs Go.Vm.Vat Go.Vm.L2
set_option linter.unusedSimpArgs false
set_option linter.unusedVariables false
set_option maxRecDepth 10000
variable {n : Nat} {h : AHeap}
end Go.Vm.Bt

namespace Go.Vm.Bt
open Go.Proofs Go.Vm.Vat Go.Vm.L2
set_option linter.unusedSimpArgs false
set_option linter.unusedVariables false
set_option maxRecDepth 10000
variable {n : Nat} {h : AHeap}
def s107 : SCode := (.seq (.ops [⟨(some 4), none, .mov (.const (.int .i64 (0)))⟩]) (.seq (.seq (.ops [⟨(some 5), none, .mov (T 0)⟩, ⟨(some 6), none, .len (T 5)⟩, ⟨(some 7), none, .int2 .eql (T 6) (.const (.int .i64 (0)))⟩]) (.cond (T 7) (.seq (.ops [⟨(some 4), none, .mov (.const (.int .i64 (0)))⟩]) .ret) .skip)) (.seq (.ops [⟨(some 8), none, .mov (T 0)⟩, ⟨(some 9), none, .mov (T 1)⟩, ⟨(some 10), none, .mov (T 0)⟩, ⟨(some 11), none, .len (T 10)⟩, ⟨(some 12), none, .plain (.binOp .rem 3 (T 9) (T 11) 3) 3⟩, ⟨(some 13), none, .idxSl 1 (T 8) (T 12)⟩, ⟨(some 14), none, .load1 (T 13)⟩, ⟨(some 15), none, .plain (.convert 95 3 (T 14)) 3⟩, ⟨(some 4), none, .mov (T 15)⟩]) .ret)))
theorem fok107 : FnOk Try.prog 107 16 s107 [.tmp 4] := ⟨Try.f107, _, Try.func107, rfl, Try.ntmps107, by kernel_rfl, by kernel_rfl⟩
theorem word_c (hn : 1 ≤ n) {ws : Value} {m : Nat} {a : Nat → Nat} (hw : Words h ws m a) (i : Nat) :
    call n (.func (.func 107) #[] #[]) [ws, .int .i64 (i : Int)] h = some (.int .i64 ((wordN m a i : Nat) : Int), h) := by
  obtain ⟨n, rfl⟩ : ∃ p, n = p + 1 := ⟨n - 1, by omega⟩
  refine call_plain0 fok107 rfl rfl (by simp) rfl ?_
  have hw : Words h.shutAll ws m a := ⟨Cells.shut hw.1, hw.2⟩
  generalize h.shutAll = h at hw
  by_cases hm : m = 0
  · have hm' : (m : Int) = 0 := by omega
    have hz : wordN m a i = 0 := by unfold wordN; rw [if_pos hm]
    rw [hz]
    simp only [rn0, rn1, rn2, rn3, rn4, rn5, rn6, rn7, rn8, if_true, if_false, Nat.le_refl, true_and, and_true, decide_true, decide_false, Bool.not_true, Bool.not_false, reduceIte, Nat.reduceEqDiff, Nat.reduceAdd, Nat.reduceMul, Nat.reduceSub, Nat.reduceLeDiff, Nat.reduceLT, s107, Cells.len hw.1, hm', Int.natCast_zero]
  · have hm' : ¬ (m : Int) = 0 := by omega
    have hlt : i % m < m := Nat.mod_lt _ (by omega)
    have hz : wordN m a i = a (i % m) := by unfold wordN; rw [if_neg hm]
    have m1 : (i : Int).tmod (m : Int) = ((i % m : Nat) : Int) := rfl
    rw [hz]
    simp only [rn0, rn1, rn2, rn3, rn4, rn5, rn6, rn7, rn8, if_true, if_false, Nat.le_refl, true_and, and_true, decide_true, decide_false, Bool.not_true, Bool.not_false, reduceIte, Nat.reduceEqDiff, Nat.reduceAdd, Nat.reduceMul, Nat.reduceSub, Nat.reduceLeDiff, Nat.reduceLT, s107, Cells.len hw.1, hm', valN_tmp, valN_const, Nat.reduceLT, p_rem, r_rem hm', m1, Cells.idx hw.1 hlt, Cells.ld hw.1 hlt Nat.zero_lt_one, p_conv16, r_16 (hw.2 _ hlt)]
def endW (S : MB) (m : Nat) (a : Nat → Nat) (v : Nat) : Int := if v < S.nv then ((wordN m a v % (S.last.toNat + 1) : Nat) : Int) else 0
theorem endW_ok {S : MB} (hG : Good S) {m : Nat} {a : Nat → Nat} : EndsOk S S.nv (endW S m a) := by
  obtain ⟨z0, z1, z3, _⟩ := hG.sizes
  refine ⟨fun v hv => ?_, fun v hv => by unfold endW; rw [if_neg (by omega)]⟩
  have := Nat.mod_lt (wordN m a v) (show 0 < S.last.toNat + 1 by omega)
  unfold endW
  rw [if_pos hv]
  omega
def s65 : SCode := (.seq (.ops [⟨(some 2), none, .box (T 0)⟩, ⟨(some 4), none, .mov (.const (.slice none 0 0))⟩]) (.seq (.ops [⟨(some 5), none, .mov (.const (.slice none 0 0))⟩]) (.seq (.seq (.ops [⟨(some 6), none, .mov (.const (.int .i64 (0)))⟩]) (.block 0 (.loop (.seq (.seq (.ops [⟨(some 7), none, .mov (T 6)⟩, ⟨(some 8), none, .fieldAddr 2 (T 2)⟩, ⟨(some 9), none, .load1 (T 8)⟩, ⟨(some 10), none, .len (T 9)⟩, ⟨(some 11), none, .int2 .lss (T 7) (T 10)⟩]) (.cond (T 11) .skip (.exit 0))) (.seq (.block 1 (.draw [⟨.free, ⟨(some 14), none, .mov (T 5)⟩⟩, ⟨.free, ⟨(some 15), none, .mov (T 1)⟩⟩, ⟨.free, ⟨(some 16), none, .mov (T 6)⟩⟩, ⟨.up, ⟨(some 17), none, .call (.func 107) [(T 15), (T 16)]⟩⟩, ⟨.free, ⟨(some 18), none, .fieldAddr 3 (T 2)⟩⟩, ⟨.rd, ⟨(some 19), none, .load1 (T 18)⟩⟩, ⟨.free, ⟨(some 20), none, .int2 .add (T 19) (.const (.int .i64 (1)))⟩⟩, ⟨.free, ⟨(some 21), none, .plain (.binOp .rem 3 (T 17) (T 20) 3) 3⟩⟩, ⟨.any, ⟨(some 22), none, .bslice 1 1 [(.int .i64 (0))] [0] [(T 21)]⟩⟩, ⟨.any, ⟨(some 23), none, .append 1 8 (T 14) (T 22)⟩⟩, ⟨.free, ⟨(some 5), none, .mov (T 23)⟩⟩])) (.ops [⟨(some 12), none, .mov (T 6)⟩, ⟨(some 13), none, .int2 .add (T 12) (.const (.int .i64 (1)))⟩, ⟨(some 6), none, .mov (T 13)⟩])))))) (.seq (.ops [⟨(some 24), none, .mov (T 5)⟩, ⟨(some 4), none, .mov (T 24)⟩]) .ret))))
theorem fok65 : FnOk Try.prog 65 25 s65 [.tmp 4] := ⟨Try.f65, _, Try.func65, rfl, Try.ntmps65, by kernel_rfl, by kernel_rfl⟩
set_option maxHeartbeats 1000000 in
theorem ended_c (hn : 50 ≤ n) (hr : h.next + 100 < far) (hfl : h.floor ≤ h.next) {vv sv ws : Value} {S : MB} (hy : BeatR h vv sv S) (hG : Good S) {m : Nat} {a : Nat → Nat} (hw : Words h ws m a) :
    ∃ w h', call n (.func (.func 65) #[] #[]) [.agg ⟨beL S vv sv⟩, ws] h = some (w, h') ∧ Ints h' w S.nv (endW S m a) ∧ (∀ i, i < h.next → h'.get i = h.get i) ∧ h.next ≤ h'.next ∧ h'.next ≤ h.next + 10 ∧ h'.floor = h.floor := by
  obtain ⟨n, rfl⟩ : ∃ p, n = p + 1 := ⟨n - 1, by omega⟩
  obtain ⟨z0, z1, z3, _⟩ := hG.sizes
  refine call_any0 fok65 rfl rfl (by simp) ?_
  simp only [s65, W_seq, W_ops]
  refine ops_box (cs := beL S vv sv) (by omega) rfl hy.one fun g1 hx1 => ?_
  have n1 := hx1.next
  have f1 := hx1.floor
  have hy1 := hy.mono hx1.sub
  have hw1 := hw.mono hx1.sub
  have r1 := hx1.row
  have hl1 : wrapF .i64 (S.last + 1) = S.last + 1 := wrap_in (by omega) (by omega)
  have hlz : ¬ (S.last + 1 = 0) := by omega
  simp only [rn0, rn1, rn2, rn3, rn4, rn5, rn6, rn7, rn8, if_true, if_false, Nat.le_refl, true_and, and_true, decide_true, decide_false, Bool.not_true, Bool.not_false, reduceIte, Nat.reduceEqDiff, Nat.reduceAdd, Nat.reduceMul, Nat.reduceSub, Nat.reduceLeDiff, Nat.reduceLT]
  refine W_loop S.nv (fun k f g ms => (∃ v, (∀ i, i < g1.next → g.get i = g1.get i) ∧ g.floor = h.floor ∧ g1.next ≤ g.next ∧ g.next ≤ g1.next + 2 * k ∧ GrowC g1.next g v 1 k (fun i _ => .int .i64 (endW S m a i)) ∧ f 5 = v) ∧ ms = [] ∧ f 1 = ws ∧ f 2 = .pointer (some ⟨h.next, 0, none⟩) ∧ f 6 = .int .i64 (k : Int)) (by simp; omega) ?_ ?_ ?_
  · simp only [rn0, rn1, rn2, rn3, rn4, rn5, rn6, rn7, rn8, if_true, if_false, Nat.le_refl, true_and, and_true, decide_true, decide_false, Bool.not_true, Bool.not_false, reduceIte, Nat.reduceEqDiff, Nat.reduceAdd, Nat.reduceMul, Nat.reduceSub, Nat.reduceLeDiff, Nat.reduceLT, Int.natCast_zero]
    exact ⟨nilS, fun i _ => trivial, f1, by omega, .nil, rfl⟩
  · rintro k f g ms hk ⟨⟨v, ho, hfg, hup, hnx, gv, p5⟩, rfl, p1, p2, p6⟩
    have hk' : (k : Int) < (S.nv : Int) := by omega
    have hwk : wrapF .i64 ((k : Int) + 1) = ((k + 1 : Nat) : Int) := by rw [wrap_in (by omega) (by omega)]; rfl
    have rg : Row g h.next (beL S vv sv) := r1.mono (AHeap.subOf ho)
    have ew := word_c (n := n) (h := g) (by omega) (hw1.mono (AHeap.subOf ho)) k
    have hm : ((wordN m a k : Nat) : Int).tmod (S.last + 1) = endW S m a k := by
      unfold endW
      rw [if_pos hk, show S.last + 1 = ((S.last.toNat + 1 : Nat) : Int) by omega]
      rfl
    simp only [rn0, rn1, rn2, rn3, rn4, rn5, rn6, rn7, rn8, if_true, if_false, Nat.le_refl, true_and, and_true, decide_true, decide_false, Bool.not_true, Bool.not_false, reduceIte, Nat.reduceEqDiff, Nat.reduceAdd, Nat.reduceMul, Nat.reduceSub, Nat.reduceLeDiff, Nat.reduceLT, p1, p2, p5, p6, rg.ld, beg, Nat.zero_add, Cells.len hy1.v, hk']
    refine W_draw All ?_
    simp only [rn0, rn1, rn2, rn3, rn4, rn5, rn6, rn7, rn8, if_true, if_false, Nat.le_refl, true_and, and_true, decide_true, decide_false, Bool.not_true, Bool.not_false, reduceIte, Nat.reduceEqDiff, Nat.reduceAdd, Nat.reduceMul, Nat.reduceSub, Nat.reduceLeDiff, Nat.reduceLT, p1, p2, p5, p6, rg.ld, beg, Nat.zero_add, ew, hl1, valN_tmp, valN_const, Nat.reduceLT, p_rem, r_rem hlz, hm]
    refine up_slice (by omega) rfl (fun _ _ => trivial) fun g4 hx4 => ?_
    have n4 := hx4.next
    have f4 := hx4.floor
    obtain ⟨v', g5, e5, gv5, o5, n5, f5, old5, u5⟩ := grow_push (h := g) (bytes := 8) gv (by omega) (by omega) (by omega) hx4 rfl rfl (fun j hj => by
      obtain rfl : j = 0 := by omega
      rfl) (by simp [maxBytes]; omega) (by simp [maxBytes]; omega)
    simp only [rn0, rn1, rn2, rn3, rn4, rn5, rn6, rn7, rn8, if_true, if_false, Nat.le_refl, true_and, and_true, decide_true, decide_false, Bool.not_true, Bool.not_false, reduceIte, Nat.reduceEqDiff, Nat.reduceAdd, Nat.reduceMul, Nat.reduceSub, Nat.reduceLeDiff, Nat.reduceLT, p1, p2, p6, e5, hwk]
    exact ⟨by omega, _, fun i hi => by rw [old5 i (by omega), ho i hi], by omega, by omega, by omega, gv5, rfl⟩
  · rintro f g ms ⟨⟨v, ho, hfg, hup, hnx, gv, p5⟩, rfl, p1, p2, p6⟩
    have rg : Row g h.next (beL S vv sv) := r1.mono (AHeap.subOf ho)
    simp only [rn0, rn1, rn2, rn3, rn4, rn5, rn6, rn7, rn8, if_true, if_false, Nat.le_refl, true_and, and_true, decide_true, decide_false, Bool.not_true, Bool.not_false, reduceIte, Nat.reduceEqDiff, Nat.reduceAdd, Nat.reduceMul, Nat.reduceSub, Nat.reduceLeDiff, Nat.reduceLT, p1, p2, p5, p6, rg.ld, beg, Nat.zero_add, Cells.len hy1.v, Int.lt_irrefl]
    exact ⟨gv.cells, fun i hi => by rw [ho i (by omega), hx1.old i hi], by omega, by omega, by omega⟩
end Go.Vm.Bt

namespace Go.Vm.Bt
open Go.Proofs Go.Vm.Vat Go.Vm.L2
set_option linter.unusedSimpArgs false
set_option linter.unusedVariables false
set_option maxRecDepth 10000
variable {n : Nat} {h : AHeap}
end Go.Vm.Bt

namespace Go.Vm.Bt
open Go.Proofs Go.Vm.Vat Go.Vm.L2
set_option linter.unusedSimpArgs false
set_option linter.unusedVariables false
set_option maxRecDepth 10000
variable {n : Nat} {h : AHeap}
end Go.Vm.Bt

namespace Go.Vm.Bt
open Go.Proofs Go.Vm.Vat Go.Vm.L2
set_option linter.unusedSimpArgs false
set_option linter.unusedVariables false
set_option maxRecDepth 10000
variable {n : Nat} {h : AHeap}
noncomputable instance (S : MB) (s : Nat) : Decidable (CanB S s) := Classical.propDecidable _
theorem all_mem {S : MB} (hG : Good S) {c : Nat → Int} : c ∈ allE S ↔ ∃ i, i < (manyS S).toNat ∧ nthU S i = c := by
  rw [allE_mem]
  constructor
  · rintro ⟨h1, h2⟩; exact nth_all hG h1 h2
  · rintro ⟨i, _, rfl⟩; exact ⟨nthU_in hG, fun j hj => nthU_out hj⟩
def s8 : SCode := (.seq (.ops [⟨(some 1), none, .box (T 0)⟩, ⟨(some 2), none, .mov (.const (.bool false))⟩]) (.seq (.seq (.ops [⟨(some 10), none, .loadN 5 (T 1)⟩, ⟨(some 11), none, .call (.func 23) [(T 10)]⟩, ⟨(some 12), none, .not (T 11)⟩]) (.cond (T 12) (.seq (.ops [⟨(some 13), none, .call (.func 24) []⟩, ⟨(some 2), none, .mov (T 13)⟩]) .ret) .skip)) (.seq (.ops [⟨(some 15), none, .loadN 5 (T 1)⟩, ⟨(some 16), none, .call (.func 26) [(T 15)]⟩, ⟨(some 17), none, .call (.func 53) [(T 16)]⟩, ⟨(some 14), none, .mov (T 17)⟩, ⟨(some 18), none, .extract 0 (T 14)⟩, ⟨(some 19), none, .extract 1 (T 14)⟩, ⟨(some 3), none, .mov (T 18)⟩, ⟨(some 4), none, .mov (T 19)⟩]) (.seq (.ops [⟨(some 21), none, .loadN 5 (T 1)⟩, ⟨(some 22), none, .call (.func 26) [(T 21)]⟩, ⟨(some 23), none, .call (.func 54) [(T 22)]⟩, ⟨(some 20), none, .mov (T 23)⟩, ⟨(some 24), none, .extract 0 (T 20)⟩, ⟨(some 25), none, .extract 1 (T 20)⟩, ⟨(some 5), none, .mov (T 24)⟩, ⟨(some 6), none, .mov (T 25)⟩]) (.seq (.seq (.ops [⟨(some 26), none, .loadN 5 (T 1)⟩, ⟨(some 27), none, .call (.func 30) [(T 26)]⟩, ⟨(some 7), none, .mov (T 27)⟩]) (.seq (.ops [⟨(some 28), none, .mov (T 7)⟩, ⟨(some 29), none, .int2 .neq (T 28) (.const (.int .i64 (0)))⟩]) (.cond (T 29) (.seq (.ops [⟨(some 30), none, .mov (T 4)⟩, ⟨(some 31), none, .mov (T 7)⟩, ⟨(some 32), none, .int2 .eql (T 30) (T 31)⟩, ⟨(some 33), none, .mov (T 32)⟩, ⟨(some 34), (some (33, true)), .mov (T 3)⟩, ⟨(some 35), (some (33, true)), .int2 .eql (T 34) (.const (.int .i64 (0)))⟩, ⟨(some 36), none, .pick (T 33) (T 35) (.const (.bool false))⟩, ⟨(some 37), none, .mov (T 36)⟩, ⟨(some 38), (some (37, true)), .mov (T 6)⟩, ⟨(some 39), (some (37, true)), .mov (T 7)⟩, ⟨(some 40), (some (37, true)), .int2 .eql (T 38) (T 39)⟩, ⟨(some 41), none, .pick (T 37) (T 40) (.const (.bool false))⟩, ⟨(some 42), none, .mov (T 41)⟩, ⟨(some 43), (some (42, true)), .mov (T 5)⟩, ⟨(some 44), (some (42, true)), .len (T 43)⟩, ⟨(some 45), (some (42, true)), .int2 .eql (T 44) (.const (.int .i64 (0)))⟩, ⟨(some 46), none, .pick (T 42) (T 45) (.const (.bool false))⟩, ⟨(some 47), none, .mov (T 46)⟩, ⟨(some 48), (some (47, true)), .call (.func 24) []⟩, ⟨(some 49), none, .pick (T 47) (T 48) (.const (.bool false))⟩, ⟨(some 2), none, .mov (T 49)⟩]) .ret) .skip))) (.seq (.ops [⟨(some 50), none, .loadN 5 (T 1)⟩, ⟨(some 51), none, .call (.func 55) [(T 50)]⟩, ⟨(some 8), none, .mov (T 51)⟩]) (.seq (.seq (.ops [⟨(some 52), none, .mov (T 6)⟩, ⟨(some 53), none, .int2 .neq (T 52) (.const (.int .i64 (0)))⟩, ⟨(some 54), none, .mov (T 53)⟩, ⟨(some 55), (some (54, false)), .mov (T 5)⟩, ⟨(some 56), (some (54, false)), .loadN 5 (T 1)⟩, ⟨(some 57), (some (54, false)), .mov (T 8)⟩, ⟨(some 58), (some (54, false)), .call (.func 56) [(T 56), (T 57)]⟩, ⟨(some 59), (some (54, false)), .call (.func 50) [(T 55), (T 58)]⟩, ⟨(some 60), (some (54, false)), .not (T 59)⟩, ⟨(some 61), none, .pick (T 54) (.const (.bool true)) (T 60)⟩]) (.cond (T 61) (.seq (.ops [⟨(some 2), none, .mov (.const (.bool false))⟩]) .ret) .skip)) (.seq (.ops [⟨(some 62), none, .loadN 5 (T 1)⟩, ⟨(some 63), none, .mov (T 8)⟩, ⟨(some 64), none, .call (.func 57) [(T 62), (T 63)]⟩, ⟨(some 9), none, .mov (T 64)⟩]) (.seq (.seq (.ops [⟨(some 65), none, .mov (T 9)⟩, ⟨(some 66), none, .int2 .lss (T 65) (.const (.int .i64 (0)))⟩]) (.cond (T 66) (.seq (.ops [⟨(some 67), none, .mov (T 4)⟩, ⟨(some 68), none, .int2 .eql (T 67) (.const (.int .i64 (7)))⟩, ⟨(some 69), none, .mov (T 68)⟩, ⟨(some 70), (some (69, true)), .mov (T 3)⟩, ⟨(some 71), (some (69, true)), .int2 .eql (T 70) (.const (.int .i64 (0)))⟩, ⟨(some 72), none, .pick (T 69) (T 71) (.const (.bool false))⟩, ⟨(some 73), none, .mov (T 72)⟩, ⟨(some 74), (some (73, true)), .call (.func 24) []⟩, ⟨(some 75), none, .pick (T 73) (T 74) (.const (.bool false))⟩, ⟨(some 2), none, .mov (T 75)⟩]) .ret) .skip)) (.seq (.ops [⟨(some 76), none, .mov (T 4)⟩, ⟨(some 77), none, .int2 .eql (T 76) (.const (.int .i64 (0)))⟩, ⟨(some 78), none, .mov (T 77)⟩, ⟨(some 79), (some (78, true)), .mov (T 3)⟩, ⟨(some 80), (some (78, true)), .mov (T 9)⟩, ⟨(some 81), (some (78, true)), .int2 .eql (T 79) (T 80)⟩, ⟨(some 82), none, .pick (T 78) (T 81) (.const (.bool false))⟩, ⟨(some 83), none, .mov (T 82)⟩, ⟨(some 84), (some (83, true)), .call (.func 24) []⟩, ⟨(some 85), none, .pick (T 83) (T 84) (.const (.bool false))⟩, ⟨(some 2), none, .mov (T 85)⟩]) .ret))))))))))
end Go.Vm.Bt

namespace Go.Vm.Bt
open Go.Proofs Go.Vm.Vat Go.Vm.L2
set_option linter.unusedSimpArgs false
set_option linter.unusedVariables false
set_option maxRecDepth 10000
variable {n : Nat} {h : AHeap}
section
variable (S : MB) (m : Nat) (a : Nat → Nat) (u : Nat → Int)
def spV (i : Nat) : Nat := wordN m a (2 * i + 1) % S.nv
def spH (i : Nat) : Nat := wordN m a (2 * i + 2) % (S.last.toNat + 1)
def spD (i : Nat) : Bool := decide (whenS u (spV S m a i) ≤ (spH S m a i : Int))
def spN : Nat := if S.nv = 0 then 0 else wordN m a 0 % 6
def spX (i j : Nat) : Value := if j = 0 then .int .i64 (spV S m a i : Int) else if j = 1 then .int .i64 (spH S m a i : Int) else .bool (spD S m a u i)
def sampledS : MB := { S with ns := spN S m a, sv := fun i => (spV S m a i : Int), sh := fun i => (spH S m a i : Int), sd := spD S m a u }
end
section
variable {S : MB} {m : Nat} {a : Nat → Nat} {u : Nat → Int}
theorem spN_le : spN S m a ≤ 5 := by
  unfold spN
  by_cases c : S.nv = 0
  · rw [if_pos c]; omega
  · rw [if_neg c]; omega
theorem spN_pos {k : Nat} (hk : k < spN S m a) : 0 < S.nv := by
  apply Nat.pos_of_ne_zero
  intro e
  unfold spN at hk
  rw [if_pos e] at hk
  omega
theorem sp_good (hG : Good S) : Good (sampledS S m a u) := by
  refine ⟨⟨hG.lim.1, hG.lim.2.1, spN_le⟩, ⟨hG.args.head, hG.args.vat, fun k hk => ?_⟩, hG.few⟩
  have hk : k < spN S m a := hk
  have h1 : spV S m a k < S.nv := Nat.mod_lt _ (spN_pos hk)
  obtain ⟨z0, _⟩ := hG.sizes
  have h2 : spH S m a k < S.last.toNat + 1 := Nat.mod_lt _ (by omega)
  refine ⟨?_, ?_⟩
  · show (0 : Int) ≤ (spV S m a k : Int) ∧ (spV S m a k : Int) ≤ (S.nv : Int) - 1; omega
  · show (0 : Int) ≤ (spH S m a k : Int) ∧ (spH S m a k : Int) ≤ S.last; omega
theorem sp_right (k : Nat) : RightS (sampledS S m a u) u k := by
  show decide (whenS u ((spV S m a k : Int)).toNat ≤ (spH S m a k : Int)) = spD S m a u k
  rw [Int.toNat_natCast]; rfl
theorem sp_truth (hu : u ∈ allE S) : u ∈ truthsS (sampledS S m a u) := truths_mem.2 ⟨allE_mem.1 hu, fun k _ => sp_right k⟩
end
theorem res_52 {a b : Nat} {f : Go.Vm.Fr} {x y : Value} (h1 : loadAgg 5 h (f a) = some x) (h2 : loadAgg 2 h (f b) = some y) : resV f h [.cellN a 5, .cellN b 2] = some (.tuple ⟨[x, y]⟩) := by
  simp [resV, resL, res1, h1, h2]
theorem build_sp {x y : Int} {z : Bool} : buildA (fun x => (#[(0, 1), (1, 1), (2, 1)] : Array (Nat × Nat))[x]?) ⟨[.int .i64 0, .int .i64 0, .bool false]⟩ [0, 1, 2] h [.int .i64 x, .int .i64 y, .bool z] = some (.agg ⟨[.int .i64 x, .int .i64 y, .bool z]⟩, h) := id rfl
def SampledR (h : AHeap) (S : MB) (m : Nat) (a : Nat → Nat) (u : Nat → Int) (vv : Value) (v : Value) (h' : AHeap) : Prop :=
  (∀ i, i < h.next → h'.get i = h.get i) ∧ h.next ≤ h'.next ∧ h'.next ≤ h.next + 300 ∧ h'.floor = h.floor ∧
    ∃ X cw, v = .tuple ⟨[.agg ⟨beL (sampledS S m a u) vv X⟩, .agg ⟨coL (u 0) cw⟩]⟩ ∧ BeatR h' vv X (sampledS S m a u) ∧ CouR h' cw S u
def s64 : SCode := (.seq (.ops [⟨(some 3), none, .box (T 0)⟩, ⟨(some 6), none, .alloc [(.int .i64 (0)), (.int .i64 (0)), (.slice none 0 0), (.int .i64 (0)), (.slice none 0 0)]⟩, ⟨(some 7), none, .alloc [(.int .i64 (0)), (.slice none 0 0)]⟩]) (.seq (.draw [⟨.rd, ⟨(some 13), none, .loadN 5 (T 3)⟩⟩, ⟨.free, ⟨(some 14), none, .mov (T 1)⟩⟩, ⟨.free, ⟨(some 15), none, .plain (.convert 95 3 (T 14)) 3⟩⟩, ⟨.rd1, ⟨(some 16), none, .loadN 5 (T 3)⟩⟩, ⟨.up, ⟨(some 17), none, .call (.func 70) [(T 16)]⟩⟩, ⟨.free, ⟨(some 18), none, .plain (.binOp .rem 3 (T 15) (T 17) 3) 3⟩⟩, ⟨.any, ⟨(some 19), none, .call (.func 69) [(T 13), (T 18)]⟩⟩, ⟨.any, ⟨(some 8), none, .alloc [(.int .i64 (0)), (.slice none 0 0)]⟩⟩, ⟨.any, ⟨none, none, .store 2 (T 8) (T 19)⟩⟩]) (.seq (.ops [⟨(some 20), none, .loadN 5 (T 3)⟩, ⟨(some 9), none, .alloc [(.int .i64 (0)), (.int .i64 (0)), (.slice none 0 0), (.int .i64 (0)), (.slice none 0 0)]⟩, ⟨none, none, .store 5 (T 9) (T 20)⟩]) (.seq (.ops [⟨(some 21), none, .fieldAddr 4 (T 9)⟩, ⟨none, none, .store 1 (T 21) (.const (.slice none 0 0))⟩]) (.seq (.seq (.ops [⟨(some 10), none, .mov (.const (.int .i64 (0)))⟩]) (.block 0 (.loop (.seq (.seq (.ops [⟨(some 22), none, .mov (T 10)⟩, ⟨(some 23), none, .mov (T 2)⟩, ⟨(some 24), none, .call (.func 107) [(T 23), (.const (.int .i64 (0)))]⟩, ⟨(some 25), none, .plain (.binOp .rem 3 (T 24) (.const (.int .i64 (6))) 3) 3⟩, ⟨(some 26), none, .int2 .lss (T 22) (T 25)⟩, ⟨(some 27), none, .mov (T 26)⟩, ⟨(some 28), (some (27, true)), .fieldAddr 2 (T 3)⟩, ⟨(some 29), (some (27, true)), .load1 (T 28)⟩, ⟨(some 30), (some (27, true)), .len (T 29)⟩, ⟨(some 31), (some (27, true)), .int2 .gtr (T 30) (.const (.int .i64 (0)))⟩, ⟨(some 32), none, .pick (T 27) (T 31) (.const (.bool false))⟩]) (.cond (T 32) .skip (.exit 0))) (.seq (.block 1 (.seq (.draw [⟨.free, ⟨(some 35), none, .mov (T 2)⟩⟩, ⟨.free, ⟨(some 36), none, .mov (T 10)⟩⟩, ⟨.free, ⟨(some 37), none, .int2 .mul (.const (.int .i64 (2))) (T 36)⟩⟩, ⟨.free, ⟨(some 38), none, .int2 .add (T 37) (.const (.int .i64 (1)))⟩⟩, ⟨.up, ⟨(some 39), none, .call (.func 107) [(T 35), (T 38)]⟩⟩, ⟨.free, ⟨(some 40), none, .fieldAddr 2 (T 3)⟩⟩, ⟨.rd, ⟨(some 41), none, .load1 (T 40)⟩⟩, ⟨.free, ⟨(some 42), none, .len (T 41)⟩⟩, ⟨.free, ⟨(some 43), none, .plain (.binOp .rem 3 (T 39) (T 42) 3) 3⟩⟩, ⟨.free, ⟨(some 44), none, .mov (T 2)⟩⟩, ⟨.free, ⟨(some 45), none, .mov (T 10)⟩⟩, ⟨.free, ⟨(some 46), none, .int2 .mul (.const (.int .i64 (2))) (T 45)⟩⟩, ⟨.free, ⟨(some 47), none, .int2 .add (T 46) (.const (.int .i64 (2)))⟩⟩, ⟨.up, ⟨(some 48), none, .call (.func 107) [(T 44), (T 47)]⟩⟩, ⟨.free, ⟨(some 49), none, .fieldAddr 3 (T 3)⟩⟩, ⟨.rd, ⟨(some 50), none, .load1 (T 49)⟩⟩, ⟨.free, ⟨(some 51), none, .int2 .add (T 50) (.const (.int .i64 (1)))⟩⟩, ⟨.free, ⟨(some 52), none, .plain (.binOp .rem 3 (T 48) (T 51) 3) 3⟩⟩, ⟨.free, ⟨(some 11), none, .mov (T 43)⟩⟩, ⟨.free, ⟨(some 12), none, .mov (T 52)⟩⟩]) (.draw [⟨.free, ⟨(some 53), none, .fieldAddr 4 (T 9)⟩⟩, ⟨.rd, ⟨(some 54), none, .load1 (T 53)⟩⟩, ⟨.free, ⟨(some 55), none, .mov (T 11)⟩⟩, ⟨.free, ⟨(some 56), none, .mov (T 12)⟩⟩, ⟨.free, ⟨(some 57), none, .mov (T 12)⟩⟩, ⟨.rd1, ⟨(some 58), none, .loadN 2 (T 8)⟩⟩, ⟨.free, ⟨(some 59), none, .mov (T 11)⟩⟩, ⟨.up, ⟨(some 60), none, .call (.func 66) [(T 58), (T 59)]⟩⟩, ⟨.free, ⟨(some 61), none, .int2 .geq (T 57) (T 60)⟩⟩, ⟨.free, ⟨(some 62), none, .build #[(0, 1), (1, 1), (2, 1)] [(.int .i64 (0)), (.int .i64 (0)), (.bool false)] [0, 1, 2] [(T 55), (T 56), (T 61)]⟩⟩, ⟨.up, ⟨(some 63), none, .bslice 3 1 [(.int .i64 (0)), (.int .i64 (0)), (.bool false)] [0] [(T 62)]⟩⟩, ⟨.any, ⟨(some 64), none, .append 3 24 (T 54) (T 63)⟩⟩, ⟨.free, ⟨(some 65), none, .fieldAddr 4 (T 9)⟩⟩, ⟨.any, ⟨none, none, .store 1 (T 65) (T 64)⟩⟩]))) (.ops [⟨(some 33), none, .mov (T 10)⟩, ⟨(some 34), none, .int2 .add (T 33) (.const (.int .i64 (1)))⟩, ⟨(some 10), none, .mov (T 34)⟩])))))) (.seq (.draw [⟨.rd1, ⟨(some 66), none, .loadN 5 (T 9)⟩⟩, ⟨.rd, ⟨(some 67), none, .loadN 2 (T 8)⟩⟩, ⟨.up, ⟨none, none, .store 5 (T 6) (T 66)⟩⟩, ⟨.any, ⟨none, none, .store 2 (T 7) (T 67)⟩⟩]) .ret))))))
theorem fok64 : FnOk Try.prog 64 68 s64 [.cellN 6 5, .cellN 7 2] := ⟨Try.f64, _, Try.func64, rfl, Try.ntmps64, by kernel_rfl, by kernel_rfl⟩
set_option maxHeartbeats 4000000 in
theorem sampled_c (hn : 200 ≤ n) (hr : h.next + 500 < far) (hfl : h.floor ≤ h.next) {vv sv ws : Value} {S : MB} (hy : BeatR h vv sv S) (hG : Good S) {w0 m : Nat} (hw0 : w0 < 65536) {a : Nat → Nat} (hw : Words h ws m a) :
    ∃ v h', call n (.func (.func 64) #[] #[]) [.agg ⟨beL S vv sv⟩, .int .u16 (w0 : Int), ws] h = some (v, h') ∧ ∃ u, u ∈ allE S ∧ SampledR h S m a u vv v h' := by
  obtain ⟨n, rfl⟩ : ∃ p, n = p + 1 := ⟨n - 1, by omega⟩
  obtain ⟨z0, z1, z3, z5, _⟩ := hG.sizes
  obtain ⟨mp1, mp2⟩ := many_pos hG
  refine call_any0 fok64 rfl rfl (by simp) ?_
  simp only [s64, W_seq, W_ops]
  refine ops_box (cs := beL S vv sv) (by omega) rfl hy.one fun g1 hx1 => ?_
  have n1 := hx1.next
  have f1' := hx1.floor
  have e1 : g1.next = h.next + 1 := n1
  simp only [rn0, rn1, rn2, rn3, rn4, rn5, rn6, rn7, rn8, if_true, if_false, Nat.le_refl, true_and, and_true, decide_true, decide_false, Bool.not_true, Bool.not_false, reduceIte, Nat.reduceEqDiff, Nat.reduceAdd, Nat.reduceMul, Nat.reduceSub, Nat.reduceLeDiff, Nat.reduceLT]
  refine step_row (cs := zr5) (by omega) rfl rfl fun g2 hx2 => ?_
  have n2 := hx2.next
  have f2' := hx2.floor
  simp only [rn0, rn1, rn2, rn3, rn4, rn5, rn6, rn7, rn8, if_true, if_false, Nat.le_refl, true_and, and_true, decide_true, decide_false, Bool.not_true, Bool.not_false, reduceIte, Nat.reduceEqDiff, Nat.reduceAdd, Nat.reduceMul, Nat.reduceSub, Nat.reduceLeDiff, Nat.reduceLT]
  refine step_row (cs := coL 0 nilS) (by omega) rfl rfl fun g3 hx3 => ?_
  have n3 := hx3.next
  have f3' := hx3.floor
  have s3 : Sub All h g3 := hx1.sub.trans (hx2.sub.trans hx3.sub)
  have old3 : ∀ i, i < h.next → g3.get i = h.get i := fun i hi => by rw [hx3.old i (by omega), hx2.old i (by omega), hx1.old i hi]
  have hy3 := hy.mono s3
  have r3 : Row g3 h.next (beL S vv sv) := (hx1.row.mono hx2.sub).mono hx3.sub
  have w3 := r3.whole (n := 5) rfl
  have q6 : g3.get (h.next + 1) = some (.row zr5 true 0) := by rw [hx3.old _ (by omega)]; have := hx2.get; rw [e1] at this; exact this
  have q7 : g3.get (h.next + 2) = some (.row (coL 0 nilS) true 0) := by have := hx3.get; rw [show g2.next = h.next + 2 by omega] at this; exact this
  have em := manyR_c (n := n) (h := g3) (by omega) (by omega) hy3 hG.args (by omega)
  obtain ⟨M, hM⟩ : ∃ M : Nat, (M : Int) = manyS S := ⟨(manyS S).toNat, by omega⟩
  rw [← hM] at em
  have zM : ¬ (M : Int) = 0 := by omega
  obtain ⟨k, hk⟩ : ∃ k, k = w0 % M := ⟨_, rfl⟩
  have m1 : (w0 : Int).tmod (M : Int) = (k : Int) := by rw [hk]; rfl
  have hkM : k < M := by rw [hk]; exact Nat.mod_lt _ (by omega)
  obtain ⟨cw, g4, e4, hc4, o4, u4, m4, f4', gw4⟩ := nthG_c (n := n) (h := g3) (m := k) (by omega) (by omega) (by omega) hy3 hG (by omega)
  have hu : nthU S k ∈ allE S := (all_mem hG).2 ⟨k, by omega, rfl⟩
  have hui : InU S (nthU S k) := nthU_in hG
  generalize nthU S k = u at e4 hc4 hu hui gw4
  have s4 : Sub All g3 g4 := AHeap.subOf o4
  have hb1 : ∀ x k c, cw = .slice (some x) k c → h.next + 3 ≤ x.block := fun x k c e => by have := gw4.block e; omega
  have hb2 : ∀ x k c, cw = .slice (some x) k c → x.block < g4.next := fun x k c e => by
    have := gw4.block e; omega
  clear gw4
  rw [e1, show g2.next = h.next + 2 by omega]
  simp only [rn0, rn1, rn2, rn3, rn4, rn5, rn6, rn7, rn8, if_true, if_false, Nat.le_refl, true_and, and_true, decide_true, decide_false, Bool.not_true, Bool.not_false, reduceIte, Nat.reduceEqDiff, Nat.reduceAdd, Nat.reduceMul, Nat.reduceSub, Nat.reduceLeDiff, Nat.reduceLT]
  refine W_draw All ?_
  simp only [rn0, rn1, rn2, rn3, rn4, rn5, rn6, rn7, rn8, if_true, if_false, Nat.le_refl, true_and, and_true, decide_true, decide_false, Bool.not_true, Bool.not_false, reduceIte, Nat.reduceEqDiff, Nat.reduceAdd, Nat.reduceMul, Nat.reduceSub, Nat.reduceLeDiff, Nat.reduceLT, w3, hy3.self, p_conv16, r_16 hw0, valN_tmp, valN_const, Nat.reduceLT, em, zM, p_rem, r_rem zM, m1, e4]
  first | refine ⟨u4, ?_⟩ | refine ⟨by omega, ?_⟩ | skip
  refine up_row (cs := coL 0 nilS) (by omega) rfl rfl (fun g hx => trivial) fun g5 hx5 => ?_
  have n5 := hx5.next
  have f5' := hx5.floor
  simp only [rn0, rn1, rn2, rn3, rn4, rn5, rn6, rn7, rn8, if_true, if_false, Nat.le_refl, true_and, and_true, decide_true, decide_false, Bool.not_true, Bool.not_false, reduceIte, Nat.reduceEqDiff, Nat.reduceAdd, Nat.reduceMul, Nat.reduceSub, Nat.reduceLeDiff, Nat.reduceLT]
  refine up_store (b := g4.next) (off := 0) (vs := coL (u 0) cw) rfl hx5.get (by omega) (by omega) rfl (co_one hc4) rfl (by simp [coL]) (fun _ _ => trivial) fun g6 hs6 => ?_
  have es6 : splice (coL 0 nilS) 0 (coL (u 0) cw) = coL (u 0) cw := rfl
  rw [es6] at hs6
  have n6 := hs6.next
  have f6' := hs6.floor
  have old6 : ∀ i, i < g4.next → g6.get i = g4.get i := fun i hi => by rw [hs6.old i (by omega), hx5.old i hi]
  have r6 : Row g6 h.next (beL S vv sv) := by
    obtain ⟨w, gr, e⟩ := r3.mono s4
    exact ⟨w, gr, by rw [old6 _ (by omega)]; exact e⟩
  simp only [rn0, rn1, rn2, rn3, rn4, rn5, rn6, rn7, rn8, if_true, if_false, Nat.le_refl, true_and, and_true, decide_true, decide_false, Bool.not_true, Bool.not_false, reduceIte, Nat.reduceEqDiff, Nat.reduceAdd, Nat.reduceMul, Nat.reduceSub, Nat.reduceLeDiff, Nat.reduceLT, r6.whole (n := 5) rfl]
  refine step_new (vs := beL S vv sv) (by omega) (by omega) rfl (by simp only [rn0, rn1, rn2, rn3, rn4, rn5, rn6, rn7, rn8, if_true, if_false, Nat.le_refl, true_and, and_true, decide_true, decide_false, Bool.not_true, Bool.not_false, reduceIte, Nat.reduceEqDiff, Nat.reduceAdd, Nat.reduceMul, Nat.reduceSub, Nat.reduceLeDiff, Nat.reduceLT]; rfl) hy.one rfl rfl fun g7 hx7 => ?_
  have n7 := hx7.next
  have f7' := hx7.floor
  obtain ⟨q9, hq9⟩ : ∃ q, q = g6.next := ⟨_, rfl⟩
  have hg7 := hx7.get
  rw [← hq9] at hg7
  rw [← hq9]
  simp only [rn0, rn1, rn2, rn3, rn4, rn5, rn6, rn7, rn8, if_true, if_false, Nat.le_refl, true_and, and_true, decide_true, decide_false, Bool.not_true, Bool.not_false, reduceIte, Nat.reduceEqDiff, Nat.reduceAdd, Nat.reduceMul, Nat.reduceSub, Nat.reduceLeDiff, Nat.reduceLT, Nat.zero_add]
  refine step_store (b := q9) (off := 4) (vs := [nilS]) rfl hg7 (by omega) (by omega) rfl rfl rfl (by simp [beL]) fun g8 hs8 => ?_
  have es8 : splice (beL S vv sv) 4 [nilS] = beL S vv nilS := rfl
  rw [es8] at hs8
  have n8 := hs8.next
  have f8' := hs8.floor
  have old8 : ∀ i, i < q9 → g8.get i = g6.get i := fun i hi => by rw [hs8.old i (by omega), hx7.old i (by omega)]
  have hout : g8.get q9 = some (.row (beL S vv nilS) true 0) := hs8.get
  have r8 : Row g8 h.next (beL S vv sv) := by
    obtain ⟨w, gr, e⟩ := r6
    exact ⟨w, gr, by rw [old8 _ (by omega)]; exact e⟩
  have t8 : Row g8 g4.next (coL (u 0) cw) := by
    obtain ⟨w, gr, e⟩ := hs6.row
    exact ⟨w, gr, by rw [old8 _ (by omega)]; exact e⟩
  have p6 : g8.get (h.next + 1) = some (.row zr5 true 0) := by rw [old8 _ (by omega), old6 _ (by omega), o4 _ (by omega)]; exact q6
  have p7 : g8.get (h.next + 2) = some (.row (coL 0 nilS) true 0) := by rw [old8 _ (by omega), old6 _ (by omega), o4 _ (by omega)]; exact q7
  have old84 : ∀ i, i < g4.next → g8.get i = g4.get i := fun i hi => by rw [old8 i (by omega), old6 i hi]
  have old8h : ∀ i, i < h.next → g8.get i = h.get i := fun i hi => by rw [old84 i (by omega), o4 i (by omega), old3 i hi]
  obtain ⟨q8, hq8⟩ : ∃ q, q = g4.next := ⟨_, rfl⟩
  rw [← hq8] at t8 old84 hb2
  rw [← hq8]
  have b8 : g8.next = q9 + 1 ∧ q9 = q8 + 1 ∧ h.next + 3 ≤ q8 ∧ q8 ≤ h.next + 203 ∧ g8.floor = h.floor := by omega
  have hc8 : CouR g8 cw S u := hc4.mono (AHeap.subOf (by rw [← hq8]; exact old84))
  clear hs8 hx7 hg7 hs6 hx5 hx1 hx2 hx3 q6 q7 old6 old8 r6 e4 o4 s4 em w3 r3
  obtain ⟨c1, c2, c3, c4, c5⟩ := b8
  clear n1 n2 n3 n5 n6 n7 n8 u4 m4
  obtain ⟨K, hK⟩ : ∃ K, K = spN S m a := ⟨_, rfl⟩
  have hK5 : K ≤ 5 := by rw [hK]; exact spN_le
  have z6 : ¬ (6 : Int) = 0 := by decide
  have mK : ((wordN m a 0 : Nat) : Int).tmod 6 = ((wordN m a 0 % 6 : Nat) : Int) := rfl
  have keepT : ∀ {g : AHeap}, (∀ i, i < q9 → g.get i = g8.get i) → CouR g cw S u := fun {g} ho =>
    cells_at hc4 fun x k cap e lt => by rw [ho _ (by omega), old84 _ (by omega)]
  have keepH : ∀ {g : AHeap}, (∀ i, i < q9 → g.get i = g8.get i) → Sub All h g := fun {g} ho => AHeap.subOf fun i hi => by rw [ho i (by omega), old8h i hi]
  have keepR : ∀ {g : AHeap} {b : Nat} {cs : List Value}, b < q9 → Row g8 b cs → (∀ i, i < q9 → g.get i = g8.get i) → Row g b cs := fun hb ⟨w, gr, e⟩ ho => ⟨w, gr, by rw [ho _ hb]; exact e⟩
  simp only [rn0, rn1, rn2, rn3, rn4, rn5, rn6, rn7, rn8, if_true, if_false, Nat.le_refl, true_and, and_true, decide_true, decide_false, Bool.not_true, Bool.not_false, reduceIte, Nat.reduceEqDiff, Nat.reduceAdd, Nat.reduceMul, Nat.reduceSub, Nat.reduceLeDiff, Nat.reduceLT]
  refine W_loop K (fun i f g ms => (∃ X, (∀ i, i < q9 → g.get i = g8.get i) ∧ Keep q9 g8 g ∧ g.get q9 = some (.row (beL S vv X) true 0) ∧ GrowC g8.next g X 3 i (spX S m a u) ∧ g.next ≤ g8.next + 2 * i) ∧ ms = [] ∧ f 2 = ws ∧ f 3 = .pointer (some ⟨h.next, 0, none⟩) ∧ f 6 = .pointer (some ⟨h.next + 1, 0, none⟩) ∧ f 7 = .pointer (some ⟨h.next + 2, 0, none⟩) ∧ f 8 = .pointer (some ⟨q8, 0, none⟩) ∧ f 9 = .pointer (some ⟨q9, 0, none⟩) ∧ f 10 = .int .i64 (i : Int)) (by simp; omega) ?_ ?_ ?_
  · simp only [rn0, rn1, rn2, rn3, rn4, rn5, rn6, rn7, rn8, if_true, if_false, Nat.le_refl, true_and, and_true, decide_true, decide_false, Bool.not_true, Bool.not_false, reduceIte, Nat.reduceEqDiff, Nat.reduceAdd, Nat.reduceMul, Nat.reduceSub, Nat.reduceLeDiff, Nat.reduceLT]
    first | exact ⟨⟨_, fun _ _ => trivial, Keep.refl, hout, .nil, by omega⟩, rfl⟩ | exact ⟨_, fun _ _ => trivial, Keep.refl, hout, .nil, by omega⟩ | exact ⟨_, Keep.refl, hout, .nil, by omega⟩ | exact ⟨_, fun _ _ => rfl, Keep.refl, hout, .nil, by omega⟩
  · rintro i f g ms hi ⟨⟨X, ho, st, go, gS, hgn⟩, rfl, p2, p3, p6', p7', p8, p9, p10⟩
    have hnv : 0 < S.nv := spN_pos (by rw [← hK]; exact hi)
    have hKw : K = wordN m a 0 % 6 := by rw [hK]; unfold spN; rw [if_neg (by omega)]
    have hi' : (i : Int) < ((wordN m a 0 % 6 : Nat) : Int) := by omega
    have hv0 : (0 : Int) < (S.nv : Int) := by omega
    have zv : ¬ (S.nv : Int) = 0 := by omega
    have hwi : wrapF .i64 ((i : Int) + 1) = ((i + 1 : Nat) : Int) := by rw [wrap_in (by omega) (by omega)]; rfl
    have hup := st.up
    have hfg := st.floor
    have sH := keepH ho
    have hyg := hy.mono sH
    have hTg := keepT ho
    have rg := keepR (by omega) r8 ho
    have tg := keepR (by omega) t8 ho
    have hrow : Row g q9 (beL S vv X) := ⟨_, _, go⟩
    have ew0 := word_c (n := n) (by omega) (hw.mono sH) 0
    have ew0 : call n (.func (.func 107) #[] #[]) [ws, .int .i64 0] g = some (.int .i64 ((wordN m a 0 : Nat) : Int), g) := ew0
    have ew1 := word_c (n := n) (by omega) (hw.mono sH) (2 * i + 1)
    have ew2 := word_c (n := n) (by omega) (hw.mono sH) (2 * i + 2)
    have h2i : wrapF .i64 (2 * (i : Int)) = 2 * (i : Int) := wrap_in (by omega) (by omega)
    have h2a : wrapF .i64 (2 * (i : Int) + 1) = ((2 * i + 1 : Nat) : Int) := by rw [wrap_in (by omega) (by omega)]; omega
    have h2b : wrapF .i64 (2 * (i : Int) + 2) = ((2 * i + 2 : Nat) : Int) := by rw [wrap_in (by omega) (by omega)]; omega
    have mv : ((wordN m a (2 * i + 1) : Nat) : Int).tmod (S.nv : Int) = (spV S m a i : Int) := rfl
    have hvl : spV S m a i < S.nv := Nat.mod_lt _ hnv
    have wl : wrapF .i64 (S.last + 1) = ((S.last.toNat + 1 : Nat) : Int) := by rw [wrap_in (by omega) (by omega)]; omega
    have zl : ¬ ((S.last.toNat + 1 : Nat) : Int) = 0 := by omega
    have mh : ((wordN m a (2 * i + 2) : Nat) : Int).tmod ((S.last.toNat + 1 : Nat) : Int) = (spH S m a i : Int) := rfl
    have ewh := when_u (n := n) (h := g) (by omega) (by omega) hG hui hTg hvl
    have hge : decide ((spH S m a i : Int) ≥ whenS u (spV S m a i)) = spD S m a u i := rfl
    simp only [rn0, rn1, rn2, rn3, rn4, rn5, rn6, rn7, rn8, if_true, if_false, Nat.le_refl, true_and, and_true, decide_true, decide_false, Bool.not_true, Bool.not_false, reduceIte, Nat.reduceEqDiff, Nat.reduceAdd, Nat.reduceMul, Nat.reduceSub, Nat.reduceLeDiff, Nat.reduceLT, p2, p3, p6', p7', p8, p9, p10, ew0, p_rem, valN_tmp, valN_const, Nat.reduceLT, r_rem z6, mK, z6, hi', rg.ld, beg, Nat.zero_add, Cells.len hyg.v, gt_iff_lt, hv0]
    refine W_draw All ?_
    simp only [rn0, rn1, rn2, rn3, rn4, rn5, rn6, rn7, rn8, if_true, if_false, Nat.le_refl, true_and, and_true, decide_true, decide_false, Bool.not_true, Bool.not_false, reduceIte, Nat.reduceEqDiff, Nat.reduceAdd, Nat.reduceMul, Nat.reduceSub, Nat.reduceLeDiff, Nat.reduceLT, p2, p3, p6', p7', p8, p9, p10, Cells.self hyg.v, h2i, h2a, h2b, ew1, ew2, rg.ld, beg, Nat.zero_add, Cells.len hyg.v, valN_tmp, valN_const, Nat.reduceLT, p_rem, zv, r_rem zv, mv, wl, zl, r_rem zl, mh]
    refine W_draw All ?_
    simp only [rn0, rn1, rn2, rn3, rn4, rn5, rn6, rn7, rn8, if_true, if_false, Nat.le_refl, true_and, and_true, decide_true, decide_false, Bool.not_true, Bool.not_false, reduceIte, Nat.reduceEqDiff, Nat.reduceAdd, Nat.reduceMul, Nat.reduceSub, Nat.reduceLeDiff, Nat.reduceLT, p2, p3, p6', p7', p8, p9, p10, hrow.ld, tg.whole (n := 2) rfl, beg, Nat.zero_add, gS.cells.self, co_self hTg, ewh, build_sp, sl_smp]
    refine up_slice (by omega) rfl (fun g1 hx => hx.sub) fun g1 hx => ?_
    have hgx := hx.next
    have hgf := hx.floor
    obtain ⟨S', g2, e, e', gS', hk2⟩ := (gS.keep (hx.keep (o := q9)) (by omega)).append (bytes := 24) (cap := 1) (by omega) (by omega) (by omega) hx.get rfl rfl (fun j hj => by
      obtain rfl | rfl | rfl : j = 0 ∨ j = 1 ∨ j = 2 := by omega
      all_goals rfl) (by simp [maxBytes]; omega) (by simp [maxBytes]; omega)
    obtain ⟨st2, go2⟩ := grew (st.trans hx.keep) hk2 (fun a k c e => (gS.block e).1) (by omega) (hx.sub _ _ _ _ trivial go)
    have hgx2 := hk2.next
    have hgf2 := hk2.floor
    have ho2 : ∀ i, i < q9 → g2.get i = g8.get i := fun i hi => by
      rw [hk2.old i (by omega) (fun a k c e => by have := (gS.block e).1; omega), hx.old i (by omega), ho i hi]
    simp only [rn0, rn1, rn2, rn3, rn4, rn5, rn6, rn7, rn8, if_true, if_false, Nat.le_refl, true_and, and_true, decide_true, decide_false, Bool.not_true, Bool.not_false, reduceIte, Nat.reduceEqDiff, Nat.reduceAdd, Nat.reduceMul, Nat.reduceSub, Nat.reduceLeDiff, Nat.reduceLT, p2, p3, p6', p7', p8, p9, p10, e, Nat.add_zero, Nat.zero_add]
    refine ⟨by omega, up_store (b := q9) (off := 4) (vs := [S']) rfl go2 (by omega) (by omega) (by rw [e']; rfl) (by simp [allB, gS'.one]) rfl (by simp [beL]) (fun _ _ => trivial) fun g3 hs => ?_⟩
    have hgx3 := hs.next
    have hspl : splice (beL S vv X) 4 [S'] = beL S vv S' := rfl
    have hg3 := hs.get
    rw [hspl] at hg3
    have ho3 : ∀ i, i < q9 → g3.get i = g8.get i := fun i hi => by rw [hs.old i (by omega), ho2 i hi]
    simp only [rn0, rn1, rn2, rn3, rn4, rn5, rn6, rn7, rn8, if_true, if_false, Nat.le_refl, true_and, and_true, decide_true, decide_false, Bool.not_true, Bool.not_false, reduceIte, Nat.reduceEqDiff, Nat.reduceAdd, Nat.reduceMul, Nat.reduceSub, Nat.reduceLeDiff, Nat.reduceLT, p2, p3, p6', p7', p8, p9, p10, hwi, Nat.add_zero]
    first | exact ⟨⟨_, ho3, set_keep st2 hs, hg3, gS'.keep hs.keep (by omega), by omega⟩, rfl⟩ | exact ⟨_, ho3, set_keep st2 hs, hg3, gS'.keep hs.keep (by omega), by omega⟩
  · rintro f g ms ⟨⟨X, ho, st, go, gS, hgn⟩, rfl, p2, p3, p6', p7', p8, p9, p10⟩
    have hup := st.up
    have hfg := st.floor
    have sH := keepH ho
    have hyg := hy.mono sH
    have hTg := keepT ho
    have rg := keepR (by omega) r8 ho
    have tg := keepR (by omega) t8 ho
    have hrow : Row g q9 (beL S vv X) := ⟨_, _, go⟩
    have ew0 := word_c (n := n) (by omega) (hw.mono sH) 0
    have ew0 : call n (.func (.func 107) #[] #[]) [ws, .int .i64 0] g = some (.int .i64 ((wordN m a 0 : Nat) : Int), g) := ew0
    have hXS : BeatR g vv X (sampledS S m a u) := ⟨hyg.v, by
      have := gS.cells
      rw [hK] at this
      exact this⟩
    have hq6 : g.get (h.next + 1) = some (.row zr5 true 0) := by rw [ho _ (by omega)]; exact p6
    have hq7 : g.get (h.next + 2) = some (.row (coL 0 nilS) true 0) := by rw [ho _ (by omega)]; exact p7
    have n0q : (q9 = h.next + 1) = False := eq_false (by omega)
    have n1q : (q8 = h.next + 1) = False := eq_false (by omega)
    have hone : allB oneCell (beL S vv X) = true := hXS.one
    have hself : eqV (.agg ⟨beL S vv X⟩) (.agg ⟨beL S vv X⟩) = true := hXS.self
    have hc : ((K : Int) < ((wordN m a 0 % 6 : Nat) : Int) ∧ ¬ (0 : Int) < (S.nv : Int)) ∨ (¬ (K : Int) < ((wordN m a 0 % 6 : Nat) : Int) ∧ ¬ (1 : Int) < 0) := by
      by_cases hnv : S.nv = 0
      · by_cases c : (K : Int) < ((wordN m a 0 % 6 : Nat) : Int)
        · exact .inl ⟨c, by omega⟩
        · exact .inr ⟨c, by decide⟩
      · refine .inr ⟨?_, by decide⟩
        rw [hK]; unfold spN; rw [if_neg hnv]; omega
    rcases hc with ⟨c, hv0⟩ | ⟨c, hv0⟩
    all_goals
      simp only [rn0, rn1, rn2, rn3, rn4, rn5, rn6, rn7, rn8, if_true, if_false, Nat.le_refl, true_and, and_true, decide_true, decide_false, Bool.not_true, Bool.not_false, reduceIte, Nat.reduceEqDiff, Nat.reduceAdd, Nat.reduceMul, Nat.reduceSub, Nat.reduceLeDiff, Nat.reduceLT, p2, p3, p6', p7', p8, p9, p10, ew0, p_rem, valN_tmp, valN_const, Nat.reduceLT, r_rem z6, mK, z6, c, g_un, rg.ld, beg, Nat.zero_add, Cells.len hyg.v, gt_iff_lt, hv0]
      refine W_draw (fun i => i ≠ h.next + 1) ?_
      simp only [rn0, rn1, rn2, rn3, rn4, rn5, rn6, rn7, rn8, if_true, if_false, Nat.le_refl, true_and, and_true, decide_true, decide_false, Bool.not_true, Bool.not_false, reduceIte, Nat.reduceEqDiff, Nat.reduceAdd, Nat.reduceMul, Nat.reduceSub, Nat.reduceLeDiff, Nat.reduceLT, rd_1', rd_N, rd_ne, p2, p3, p6', p7', p8, p9, p10, hrow.whole (n := 5) rfl, tg.whole (n := 2) rfl, hself, co_self hTg, ne_eq, n0q, n1q, not_false_eq_true]
      refine up_store (b := h.next + 1) (off := 0) (vs := beL S vv X) rfl hq6 (by omega) (by omega) rfl hone rfl (by simp [zr5]) (fun g hs => fun i cs w gr hi hg => by rw [hs.old i hi]; exact hg) fun g5 hs5 => ?_
      have es5 : splice zr5 0 (beL S vv X) = beL S vv X := rfl
      rw [es5] at hs5
      have n5 := hs5.next
      have f5 := hs5.floor
      simp only [rn0, rn1, rn2, rn3, rn4, rn5, rn6, rn7, rn8, if_true, if_false, Nat.le_refl, true_and, and_true, decide_true, decide_false, Bool.not_true, Bool.not_false, reduceIte, Nat.reduceEqDiff, Nat.reduceAdd, Nat.reduceMul, Nat.reduceSub, Nat.reduceLeDiff, Nat.reduceLT]
      refine up_store (b := h.next + 2) (off := 0) (vs := coL (u 0) cw) p7' (by rw [hs5.old _ (by omega)]; exact hq7) (by omega) (by omega) rfl (co_one hTg) rfl (by simp [coL]) (fun _ _ => trivial) fun g6 hs6 => ?_
      have es6 : splice (coL 0 nilS) 0 (coL (u 0) cw) = coL (u 0) cw := rfl
      rw [es6] at hs6
      have n6 := hs6.next
      have f6 := hs6.floor
      have ra : Row g6 (h.next + 1) (beL S vv X) := by
        obtain ⟨w, gr, e⟩ := hs5.row
        exact ⟨w, gr, by rw [hs6.old _ (by omega)]; exact e⟩
      have rb : Row g6 (h.next + 2) (coL (u 0) cw) := hs6.row
      have old6 : ∀ i, i ≠ h.next + 1 → i ≠ h.next + 2 → g6.get i = g.get i := fun i h1 h2 => by rw [hs6.old i h2, hs5.old i h1]
      have oldh : ∀ i, i < h.next → g6.get i = h.get i := fun i hi => by rw [old6 i (by omega) (by omega), ho i (by omega), old8h i hi]
      have hy6 := hy.mono (AHeap.subOf oldh)
      have hT6 : CouR g6 cw S u := cells_at hTg fun x k c e lt => by have := hb1 x k c e; rw [old6 _ (by omega) (by omega)]
      have hX6 : BeatR g6 vv X (sampledS S m a u) := ⟨hy6.v, by
        have hc : GrowC g8.next g6 X 3 K (spX S m a u) := (gS.keep hs5.keep (by omega)).keep hs6.keep (by omega)
        have hc := hc.cells
        rw [hK] at hc
        exact hc⟩
      simp only [rn0, rn1, rn2, rn3, rn4, rn5, rn6, rn7, rn8, if_true, if_false, Nat.le_refl, true_and, and_true, decide_true, decide_false, Bool.not_true, Bool.not_false, reduceIte, Nat.reduceEqDiff, Nat.reduceAdd, Nat.reduceMul, Nat.reduceSub, Nat.reduceLeDiff, Nat.reduceLT, p2, p3, p6', p7', p8, p9, p10]
      exact ⟨_, res_52 (x := .agg ⟨beL S vv X⟩) (y := .agg ⟨coL (u 0) cw⟩) (by simp only [rn0, rn1, rn2, rn3, rn4, rn5, rn6, rn7, rn8, if_true, if_false, Nat.le_refl, true_and, and_true, decide_true, decide_false, Bool.not_true, Bool.not_false, reduceIte, Nat.reduceEqDiff, Nat.reduceAdd, Nat.reduceMul, Nat.reduceSub, Nat.reduceLeDiff, Nat.reduceLT, p6', ra.whole (n := 5) rfl]) (by simp only [rn0, rn1, rn2, rn3, rn4, rn5, rn6, rn7, rn8, if_true, if_false, Nat.le_refl, true_and, and_true, decide_true, decide_false, Bool.not_true, Bool.not_false, reduceIte, Nat.reduceEqDiff, Nat.reduceAdd, Nat.reduceMul, Nat.reduceSub, Nat.reduceLeDiff, Nat.reduceLT, p7', rb.whole (n := 2) rfl]), u, hu, oldh, by omega, by omega, by omega, X, cw, rfl, hX6, hT6⟩
end Go.Vm.Bt

namespace Go.Vm.Bt
open Go.Proofs Go.Vm.Vat Go.Vm.L2
set_option linter.unusedSimpArgs false
set_option linter.unusedVariables false
set_option maxRecDepth 10000
variable {n : Nat} {h : AHeap}
def s4 : SCode := (.seq (.ops [⟨(some 3), none, .box (T 0)⟩, ⟨(some 6), none, .mov (.const (.bool false))⟩]) (.seq (.seq (.ops [⟨(some 16), none, .loadN 5 (T 3)⟩, ⟨(some 17), none, .call (.func 23) [(T 16)]⟩, ⟨(some 18), none, .not (T 17)⟩]) (.cond (T 18) (.seq (.ops [⟨(some 19), none, .call (.func 24) []⟩, ⟨(some 6), none, .mov (T 19)⟩]) .ret) .skip)) (.seq (.ops [⟨(some 21), none, .loadN 5 (T 3)⟩, ⟨(some 22), none, .call (.func 26) [(T 21)]⟩, ⟨(some 23), none, .call (.func 36) [(T 22)]⟩, ⟨(some 20), none, .mov (T 23)⟩, ⟨(some 24), none, .extract 0 (T 20)⟩, ⟨(some 25), none, .extract 1 (T 20)⟩, ⟨(some 7), none, .mov (T 24)⟩, ⟨(some 8), none, .mov (T 25)⟩]) (.seq (.ops [⟨(some 27), none, .loadN 5 (T 3)⟩, ⟨(some 28), none, .call (.func 26) [(T 27)]⟩, ⟨(some 29), none, .mov (T 1)⟩, ⟨(some 30), none, .mov (T 2)⟩, ⟨(some 31), none, .call (.func 37) [(T 28), (T 29), (T 30)]⟩, ⟨(some 26), none, .mov (T 31)⟩, ⟨(some 32), none, .extract 0 (T 26)⟩, ⟨(some 33), none, .extract 1 (T 26)⟩, ⟨(some 9), none, .mov (T 32)⟩, ⟨(some 10), none, .mov (T 33)⟩]) (.seq (.seq (.draw [⟨.rd, ⟨(some 35), none, .loadN 5 (T 3)⟩⟩, ⟨.free, ⟨(some 36), none, .mov (T 1)⟩⟩, ⟨.free, ⟨(some 37), none, .fieldAddr 2 (T 3)⟩⟩, ⟨.rd1, ⟨(some 38), none, .load1 (T 37)⟩⟩, ⟨.free, ⟨(some 39), none, .len (T 38)⟩⟩, ⟨.free, ⟨(some 40), none, .int2 .sub (T 39) (.const (.int .i64 (1)))⟩⟩, ⟨.up, ⟨(some 41), none, .call (.func 39) [(T 36), (.const (.int .i64 (0))), (T 40)]⟩⟩, ⟨.free, ⟨(some 42), none, .mov (T 41)⟩⟩, ⟨.free, ⟨(some 43), (some (42, true)), .mov (T 2)⟩⟩, ⟨.free, ⟨(some 44), (some (42, true)), .fieldAddr 3 (T 3)⟩⟩, ⟨.rd1, ⟨(some 45), (some (42, true)), .load1 (T 44)⟩⟩, ⟨.up, ⟨(some 46), (some (42, true)), .call (.func 39) [(T 43), (.const (.int .i64 (0))), (T 45)]⟩⟩, ⟨.free, ⟨(some 47), none, .pick (T 42) (T 46) (.const (.bool false))⟩⟩, ⟨.any, ⟨(some 48), none, .call (.func 38) [(T 35), (T 47)]⟩⟩, ⟨.free, ⟨(some 34), none, .mov (T 48)⟩⟩, ⟨.free, ⟨(some 49), none, .extract 0 (T 34)⟩⟩, ⟨.free, ⟨(some 50), none, .extract 1 (T 34)⟩⟩, ⟨.free, ⟨(some 11), none, .mov (T 49)⟩⟩, ⟨.free, ⟨(some 12), none, .mov (T 50)⟩⟩]) (.seq (.ops [⟨(some 51), none, .mov (T 12)⟩, ⟨(some 52), none, .int2 .neq (T 51) (.const (.int .i64 (0)))⟩]) (.cond (T 52) (.seq (.ops [⟨(some 53), none, .mov (T 10)⟩, ⟨(some 54), none, .mov (T 12)⟩, ⟨(some 55), none, .int2 .neq (T 53) (T 54)⟩, ⟨(some 56), none, .mov (T 55)⟩, ⟨(some 57), (some (56, false)), .mov (T 9)⟩, ⟨(some 58), (some (56, false)), .int2 .neq (T 57) (.const (.int .i64 (0)))⟩, ⟨(some 59), none, .pick (T 56) (.const (.bool true)) (T 58)⟩]) (.cond (T 59) (.seq (.ops [⟨(some 6), none, .mov (.const (.bool false))⟩]) .ret) .skip)) (.seq (.ops [⟨(some 60), none, .mov (T 10)⟩, ⟨(some 61), none, .int2 .neq (T 60) (.const (.int .i64 (0)))⟩, ⟨(some 62), none, .mov (T 61)⟩, ⟨(some 63), (some (62, false)), .mov (T 9)⟩, ⟨(some 64), (some (62, false)), .mov (T 11)⟩, ⟨(some 65), (some (62, false)), .mov (T 1)⟩, ⟨(some 66), (some (62, false)), .mov (T 2)⟩, ⟨(some 67), (some (62, false)), .call (.func 40) [(T 64), (T 65), (T 66)]⟩, ⟨(some 68), (some (62, false)), .int2 .neq (T 63) (T 67)⟩, ⟨(some 69), none, .pick (T 62) (.const (.bool true)) (T 68)⟩]) (.cond (T 69) (.seq (.ops [⟨(some 6), none, .mov (.const (.bool false))⟩]) .ret) .skip))))) (.seq (.ops [⟨(some 71), none, .loadN 5 (T 3)⟩, ⟨(some 72), none, .call (.func 41) [(T 71)]⟩, ⟨(some 70), none, .mov (T 72)⟩, ⟨(some 73), none, .extract 0 (T 70)⟩, ⟨(some 74), none, .extract 1 (T 70)⟩, ⟨(some 13), none, .mov (T 73)⟩, ⟨(some 14), none, .mov (T 74)⟩]) (.seq (.seq (.ops [⟨(some 75), none, .mov (T 14)⟩, ⟨(some 76), none, .int2 .neq (T 75) (.const (.int .i64 (0)))⟩]) (.cond (T 76) (.seq (.ops [⟨(some 77), none, .mov (T 8)⟩, ⟨(some 78), none, .mov (T 14)⟩, ⟨(some 79), none, .int2 .eql (T 77) (T 78)⟩, ⟨(some 80), none, .mov (T 79)⟩, ⟨(some 81), (some (80, true)), .mov (T 7)⟩, ⟨(some 82), (some (80, true)), .len (T 81)⟩, ⟨(some 83), (some (80, true)), .int2 .eql (T 82) (.const (.int .i64 (0)))⟩, ⟨(some 84), none, .pick (T 80) (T 83) (.const (.bool false))⟩, ⟨(some 85), none, .mov (T 84)⟩, ⟨(some 86), (some (85, true)), .call (.func 24) []⟩, ⟨(some 87), none, .pick (T 85) (T 86) (.const (.bool false))⟩, ⟨(some 6), none, .mov (T 87)⟩]) .ret) .skip)) (.seq (.seq (.ops [⟨(some 88), none, .mov (T 8)⟩, ⟨(some 89), none, .int2 .neq (T 88) (.const (.int .i64 (0)))⟩, ⟨(some 90), none, .mov (T 89)⟩, ⟨(some 91), (some (90, false)), .mov (T 7)⟩, ⟨(some 92), (some (90, false)), .len (T 91)⟩, ⟨(some 93), (some (90, false)), .fieldAddr 2 (T 3)⟩, ⟨(some 94), (some (90, false)), .load1 (T 93)⟩, ⟨(some 95), (some (90, false)), .len (T 94)⟩, ⟨(some 96), (some (90, false)), .int2 .neq (T 92) (T 95)⟩, ⟨(some 97), none, .pick (T 90) (.const (.bool true)) (T 96)⟩]) (.cond (T 97) (.seq (.ops [⟨(some 6), none, .mov (.const (.bool false))⟩]) .ret) .skip)) (.seq (.seq (.ops [⟨(some 15), none, .mov (.const (.int .i64 (0)))⟩]) (.block 0 (.loop (.seq (.seq (.ops [⟨(some 98), none, .mov (T 15)⟩, ⟨(some 99), none, .mov (T 7)⟩, ⟨(some 100), none, .len (T 99)⟩, ⟨(some 101), none, .int2 .lss (T 98) (T 100)⟩]) (.cond (T 101) .skip (.exit 0))) (.seq (.block 1 (.seq (.draw [⟨.free, ⟨(some 104), none, .mov (T 7)⟩⟩, ⟨.free, ⟨(some 105), none, .mov (T 15)⟩⟩, ⟨.free, ⟨(some 106), none, .idxSl 2 (T 104) (T 105)⟩⟩, ⟨.rd, ⟨(some 107), none, .loadN 2 (T 106)⟩⟩, ⟨.free, ⟨(some 108), none, .mov (T 13)⟩⟩, ⟨.free, ⟨(some 109), none, .mov (T 15)⟩⟩, ⟨.up, ⟨(some 110), none, .call (.func 43) [(T 108), (T 109)]⟩⟩, ⟨.up, ⟨(some 111), none, .call (.func 42) [(T 110)]⟩⟩, ⟨.free, ⟨(some 112), none, .bin .neq (.binOp .neq 36 (T 107) (T 111) 36) 4 (T 107) (T 111)⟩⟩]) (.cond (T 112) (.seq (.ops [⟨(some 6), none, .mov (.const (.bool false))⟩]) .ret) .skip))) (.ops [⟨(some 102), none, .mov (T 15)⟩, ⟨(some 103), none, .int2 .add (T 102) (.const (.int .i64 (1)))⟩, ⟨(some 15), none, .mov (T 103)⟩])))))) (.seq (.ops [⟨(some 113), none, .call (.func 24) []⟩, ⟨(some 6), none, .mov (T 113)⟩]) .ret))))))))))
end Go.Vm.Bt

namespace Go.Vm.Bt
open Go.Proofs Go.Vm.Vat Go.Vm.L2
set_option linter.unusedSimpArgs false
set_option linter.unusedVariables false
set_option maxRecDepth 10000
variable {n : Nat} {h : AHeap}
section
variable {S : MB} {u : Nat → Int}
end
end Go.Vm.Bt

namespace Go.Vm.Bt
open Go.Proofs Go.Vm.Vat Go.Vm.L2
set_option linter.unusedSimpArgs false
set_option linter.unusedVariables false
set_option maxRecDepth 10000
variable {n : Nat} {h : AHeap}
end Go.Vm.Bt

namespace Go.Vm.Bt
open Go.Proofs Go.Vm.Vat Go.Vm.L2
set_option linter.unusedSimpArgs false
set_option linter.unusedVariables false
set_option maxRecDepth 10000
variable {n : Nat} {h : AHeap}
open Classical in
noncomputable def errP (S : MB) (x : Int) (m : Nat) (a : Nat → Int) (k : Nat) (e : Nat → Int) : Int := if faultS S ≠ 0 then faultS S else if Listed S x m a ∧ Hours S k e then 0 else 2
def s25 : SCode := (.seq (.ops [⟨(some 3), none, .box (T 0)⟩, ⟨(some 4), none, .box (T 1)⟩, ⟨(some 6), none, .mov (.const (.slice none 0 0))⟩, ⟨(some 7), none, .mov (.const (.int .i64 (0)))⟩]) (.seq (.seq (.ops [⟨(some 14), none, .loadN 5 (T 3)⟩, ⟨(some 15), none, .call (.func 31) [(T 14)]⟩, ⟨(some 8), none, .mov (T 15)⟩]) (.seq (.ops [⟨(some 16), none, .mov (T 8)⟩, ⟨(some 17), none, .int2 .neq (T 16) (.const (.int .i64 (0)))⟩]) (.cond (T 17) (.seq (.ops [⟨(some 18), none, .mov (T 8)⟩, ⟨(some 6), none, .mov (.const (.slice none 0 0))⟩, ⟨(some 7), none, .mov (T 18)⟩]) .ret) .skip))) (.seq (.ops [⟨(some 19), none, .loadN 5 (T 3)⟩, ⟨(some 20), none, .build #[(0, 5), (5, 1)] [(.int .i64 (0)), (.int .i64 (0)), (.slice none 0 0), (.int .i64 (0)), (.slice none 0 0), (.slice none 0 0)] [0] [(T 19)]⟩, ⟨(some 9), none, .alloc [(.int .i64 (0)), (.int .i64 (0)), (.slice none 0 0), (.int .i64 (0)), (.slice none 0 0), (.slice none 0 0)]⟩, ⟨none, none, .store 6 (T 9) (T 20)⟩]) (.seq (.seq (.ops [⟨(some 21), none, .loadN 6 (T 9)⟩, ⟨(some 22), none, .loadN 2 (T 4)⟩, ⟨(some 23), none, .call (.func 78) [(T 21), (T 22)]⟩, ⟨(some 24), none, .not (T 23)⟩, ⟨(some 25), none, .mov (T 24)⟩, ⟨(some 26), (some (25, false)), .loadN 6 (T 9)⟩, ⟨(some 27), (some (25, false)), .mov (T 2)⟩, ⟨(some 28), (some (25, false)), .call (.func 79) [(T 26), (T 27)]⟩, ⟨(some 29), (some (25, false)), .not (T 28)⟩, ⟨(some 30), none, .pick (T 25) (.const (.bool true)) (T 29)⟩]) (.cond (T 30) (.seq (.ops [⟨(some 6), none, .mov (.const (.slice none 0 0))⟩, ⟨(some 7), none, .mov (.const (.int .i64 (2)))⟩]) .ret) .skip)) (.seq (.ops [⟨(some 10), none, .mov (.const (.slice none 0 0))⟩]) (.seq (.ops [⟨(some 31), none, .loadN 2 (T 4)⟩, ⟨(some 32), none, .call (.func 80) [(T 31)]⟩, ⟨(some 11), none, .alloc [(.int .i64 (0)), (.int .i64 (0)), (.int .i64 (0))]⟩, ⟨none, none, .store 3 (T 11) (T 32)⟩]) (.seq (.seq (.ops [⟨(some 33), none, .mov (T 2)⟩, ⟨(some 34), none, .len (T 33)⟩, ⟨(some 35), none, .mov (.const (.int .i64 (0)))⟩]) (.block 0 (.loop (.seq (.ops [⟨(some 36), none, .int2 .lss (T 35) (T 34)⟩]) (.seq (.cond (T 36) .skip (.exit 0)) (.seq (.block 1 (.seq (.ops [⟨(some 37), none, .mov (T 35)⟩, ⟨(some 38), none, .idxSl 1 (T 33) (T 35)⟩, ⟨(some 39), none, .load1 (T 38)⟩, ⟨(some 12), none, .mov (T 37)⟩, ⟨(some 13), none, .mov (T 39)⟩]) (.draw [⟨.free, ⟨(some 40), none, .mov (T 10)⟩⟩, ⟨.free, ⟨(some 41), none, .fieldAddr 0 (T 9)⟩⟩, ⟨.free, ⟨(some 42), none, .fieldAddr 2 (T 41)⟩⟩, ⟨.rd1, ⟨(some 43), none, .load1 (T 42)⟩⟩, ⟨.free, ⟨(some 44), none, .mov (T 12)⟩⟩, ⟨.free, ⟨(some 45), none, .idxSl 4 (T 43) (T 44)⟩⟩, ⟨.rd1, ⟨(some 46), none, .loadN 4 (T 45)⟩⟩, ⟨.free, ⟨(some 47), none, .mov (T 13)⟩⟩, ⟨.free, ⟨(some 48), none, .mov (T 12)⟩⟩, ⟨.free, ⟨(some 49), none, .idxArr 3 1 (T 11) (T 48)⟩⟩, ⟨.rd1, ⟨(some 50), none, .load1 (T 49)⟩⟩, ⟨.any, ⟨(some 51), none, .call (.func 81) [(T 46), (T 47), (T 50)]⟩⟩, ⟨.any, ⟨(some 52), none, .bslice 1 1 [(.int .i64 (0))] [0] [(T 51)]⟩⟩, ⟨.any, ⟨(some 53), none, .append 1 8 (T 40) (T 52)⟩⟩, ⟨.free, ⟨(some 10), none, .mov (T 53)⟩⟩]))) (.ops [⟨(some 54), none, .int2 .add (T 35) (.const (.int .i64 (1)))⟩, ⟨(some 35), none, .mov (T 54)⟩]))))))) (.seq (.ops [⟨(some 55), none, .mov (T 10)⟩, ⟨(some 6), none, .mov (T 55)⟩, ⟨(some 7), none, .mov (.const (.int .i64 (0)))⟩]) .ret))))))))
theorem fok25 : FnOk Try.prog 25 56 s25 [.tmp 6, .tmp 7] := ⟨Try.f25, _, Try.func25, rfl, Try.ntmps25, by kernel_rfl, by kernel_rfl⟩
set_option maxHeartbeats 2000000 in
theorem play_c (hn : 200 ≤ n) (hr : h.next + 400 < far) (hfl : h.floor ≤ h.next) {vv sv cw lv : Value} {S : MB} {x : Int} {m k : Nat} {a e : Nat → Int} (hy : BeatR h vv sv S) (hT : ThinS S) (hc : Ints h cw m a) (hl : Ints h lv k e) (h30 : m ≤ 30 ∧ k ≤ 30) :
    ∃ r h', call n (.func (.func 25) #[] #[]) [.agg ⟨beL S vv sv⟩, .agg ⟨coL x cw⟩, lv] h = some (.tuple ⟨[r, .int .i64 (errP S x m a k e)]⟩, h') ∧ Ints h' r (if errP S x m a k e = 0 then S.nv else 0) (fun v => lostS S v (whenS (asU x a m) v) (e v)) ∧ (∀ i, i < h.next → h'.get i = h.get i) ∧ h.next ≤ h'.next ∧ h'.next ≤ h.next + 40 ∧ h'.floor = h.floor := by
  obtain ⟨n, rfl⟩ : ∃ p, n = p + 1 := ⟨n - 1, by omega⟩
  suffices hs : ∃ w h', call (n + 1) (.func (.func 25) #[] #[]) [.agg ⟨beL S vv sv⟩, .agg ⟨coL x cw⟩, lv] h = some (w, h') ∧ ∃ r, w = .tuple ⟨[r, .int .i64 (errP S x m a k e)]⟩ ∧ Ints h' r (if errP S x m a k e = 0 then S.nv else 0) (fun v => lostS S v (whenS (asU x a m) v) (e v)) ∧ (∀ i, i < h.next → h'.get i = h.get i) ∧ h.next ≤ h'.next ∧ h'.next ≤ h.next + 40 ∧ h'.floor = h.floor by
    obtain ⟨w, h', e, r, rfl, q⟩ := hs
    exact ⟨r, h', e, q⟩
  have hnil : ∀ (g : AHeap) (c : Nat → Int), Ints g nilS 0 c := fun g c => ⟨none, 0, rfl, fun x e => (by cases e), .inl rfl⟩
  refine call_any0 fok25 rfl rfl (by simp) ?_
  simp only [s25, W_seq, W_ops]
  refine ops_box (cs := beL S vv sv) (by omega) rfl hy.one fun g1 hx1 => ?_
  have n1 := hx1.next
  have f1 := hx1.floor
  refine ops_box (cs := coL x cw) (by omega) rfl (co_one hc) fun g2 hx2 => ?_
  have n2 := hx2.next
  have f2 := hx2.floor
  have r1 := hx1.row.mono hx2.sub
  have r2 := hx2.row
  have s02 := hx1.sub.trans hx2.sub
  have old2 : ∀ i, i < h.next → g2.get i = h.get i := fun i hi => by rw [hx2.old i (by omega), hx1.old i hi]
  have hy2 := hy.mono s02
  have ec := check_c (n := n) (h := g2) (by omega) (by omega) hy2 hT
  by_cases hf : faultS S = 0
  case neg =>
    have he : errP S x m a k e = faultS S := by unfold errP; rw [if_pos hf]
    rw [he, if_neg hf]
    simp only [rn0, rn1, rn2, rn3, rn4, rn5, rn6, rn7, rn8, if_true, if_false, Nat.le_refl, true_and, and_true, decide_true, decide_false, Bool.not_true, Bool.not_false, reduceIte, Nat.reduceEqDiff, Nat.reduceAdd, Nat.reduceMul, Nat.reduceSub, Nat.reduceLeDiff, Nat.reduceLT, r1.whole (n := 5) rfl, ec, hf]
    exact ⟨_, rfl, _, rfl, hnil _ _, old2, by omega, by omega, by omega⟩
  have hG := good_of hf
  obtain ⟨z0, z1, z3, _⟩ := hG.sizes
  simp only [rn0, rn1, rn2, rn3, rn4, rn5, rn6, rn7, rn8, if_true, if_false, Nat.le_refl, true_and, and_true, decide_true, decide_false, Bool.not_true, Bool.not_false, reduceIte, Nat.reduceEqDiff, Nat.reduceAdd, Nat.reduceMul, Nat.reduceSub, Nat.reduceLeDiff, Nat.reduceLT, r1.whole (n := 5) rfl, ec, hf, build_wkB]
  refine step_row (cs := [.int .i64 0, .int .i64 0, nilS, .int .i64 0, nilS, nilS]) (by omega) rfl rfl fun g3 hx3 => ?_
  have n3 := hx3.next
  have f3 := hx3.floor
  simp only [rn0, rn1, rn2, rn3, rn4, rn5, rn6, rn7, rn8, if_true, if_false, Nat.le_refl, true_and, and_true, decide_true, decide_false, Bool.not_true, Bool.not_false, reduceIte, Nat.reduceEqDiff, Nat.reduceAdd, Nat.reduceMul, Nat.reduceSub, Nat.reduceLeDiff, Nat.reduceLT]
  refine step_store (b := g2.next) (off := 0) (vs := wkL S vv sv nilS) rfl hx3.get (by omega) (by omega) rfl (wk_one hy2 rfl) rfl (by simp) fun g4 hs4 => ?_
  rw [splice_all (by rfl)] at hs4
  have n4 := hs4.next
  have f4 := hs4.floor
  have old4 : ∀ i, i < g2.next → g4.get i = g2.get i := fun i hi => by rw [hs4.old i (by omega), hx3.old i hi]
  have s24 : Sub All g2 g4 := AHeap.subOf old4
  have hy4 := hy2.mono s24
  have hc4 := hc.mono (s02.trans s24)
  have hl4 := hl.mono (s02.trans s24)
  have r24 := r2.mono s24
  have rw4 := hs4.row
  have e1 := isCourse_c (n := n) (h := g4) (x := x) (by omega) (by omega) hy4 (show oneCell nilS = true from rfl) hc4 h30.1
  have e2 := isEnds_c (n := n) (h := g4) (by omega) (by omega) hy4 (show oneCell nilS = true from rfl) hl4 h30.2
  by_cases c1 : Listed S x m a
  case neg =>
    have he : errP S x m a k e = 2 := by unfold errP; rw [if_neg (by simpa using hf), if_neg (fun q => c1 q.1)]
    rw [he, if_neg (by decide)]
    simp only [rn0, rn1, rn2, rn3, rn4, rn5, rn6, rn7, rn8, if_true, if_false, Nat.le_refl, true_and, and_true, decide_true, decide_false, Bool.not_true, Bool.not_false, reduceIte, Nat.reduceEqDiff, Nat.reduceAdd, Nat.reduceMul, Nat.reduceSub, Nat.reduceLeDiff, Nat.reduceLT, rw4.whole (n := 6) rfl, r24.whole (n := 2) rfl, e1, c1, g_un]
    exact ⟨_, rfl, _, rfl, hnil _ _, fun i hi => by rw [old4 i (by omega), old2 i hi], by omega, by omega, by omega⟩
  by_cases c2 : Hours S k e
  case neg =>
    have he : errP S x m a k e = 2 := by unfold errP; rw [if_neg (by simpa using hf), if_neg (fun q => c2 q.2)]
    rw [he, if_neg (by decide)]
    simp only [rn0, rn1, rn2, rn3, rn4, rn5, rn6, rn7, rn8, if_true, if_false, Nat.le_refl, true_and, and_true, decide_true, decide_false, Bool.not_true, Bool.not_false, reduceIte, Nat.reduceEqDiff, Nat.reduceAdd, Nat.reduceMul, Nat.reduceSub, Nat.reduceLeDiff, Nat.reduceLT, rw4.whole (n := 6) rfl, r24.whole (n := 2) rfl, e1, c1, e2, c2, g_un]
    exact ⟨_, rfl, _, rfl, hnil _ _, fun i hi => by rw [old4 i (by omega), old2 i hi], by omega, by omega, by omega⟩
  have he : errP S x m a k e = 0 := by unfold errP; rw [if_neg (by simpa using hf), if_pos ⟨c1, c2⟩]
  rw [he, if_pos rfl]
  have hu := (listed_u c1).1
  have hcu := cou_of c1 hc4
  have hd := done_c (n := n) (h := g4) (by omega) (by omega) hcu hG hu
  have hu0 : asU x a m 0 = x := rfl
  rw [hu0] at hd
  simp only [rn0, rn1, rn2, rn3, rn4, rn5, rn6, rn7, rn8, if_true, if_false, Nat.le_refl, true_and, and_true, decide_true, decide_false, Bool.not_true, Bool.not_false, reduceIte, Nat.reduceEqDiff, Nat.reduceAdd, Nat.reduceMul, Nat.reduceSub, Nat.reduceLeDiff, Nat.reduceLT, rw4.whole (n := 6) rfl, r24.whole (n := 2) rfl, e1, c1, e2, c2, g_un, hd]
  refine step_row (cs := dn fun _ => 0) (by omega) rfl rfl fun g5 hx5 => ?_
  have n5 := hx5.next
  have f5 := hx5.floor
  simp only [rn0, rn1, rn2, rn3, rn4, rn5, rn6, rn7, rn8, if_true, if_false, Nat.le_refl, true_and, and_true, decide_true, decide_false, Bool.not_true, Bool.not_false, reduceIte, Nat.reduceEqDiff, Nat.reduceAdd, Nat.reduceMul, Nat.reduceSub, Nat.reduceLeDiff, Nat.reduceLT]
  refine step_store (b := g4.next) (off := 0) (vs := dn (doneS S (asU x a m))) rfl hx5.get (by omega) (by omega) rfl dn_one dn_len (by simp [dn_len]) fun g6 hs6 => ?_
  rw [splice_all (by simp [dn_len])] at hs6
  have n6 := hs6.next
  have f6 := hs6.floor
  have old6 : ∀ i, i < g4.next → g6.get i = g4.get i := fun i hi => by rw [hs6.old i (by omega), hx5.old i hi]
  have s46 : Sub All g4 g6 := AHeap.subOf old6
  have rw6 := rw4.mono s46
  have hl6 := hl4.mono s46
  have hy6 := hy4.mono s46
  have rd6 := hs6.row
  obtain ⟨hk, hh⟩ := c2
  subst hk
  simp only [rn0, rn1, rn2, rn3, rn4, rn5, rn6, rn7, rn8, if_true, if_false, Nat.le_refl, true_and, and_true, decide_true, decide_false, Bool.not_true, Bool.not_false, reduceIte, Nat.reduceEqDiff, Nat.reduceAdd, Nat.reduceMul, Nat.reduceSub, Nat.reduceLeDiff, Nat.reduceLT, Cells.len hl6]
  refine W_loop S.nv (fun i f g ms => (∃ v, (∀ j, j < g6.next → g.get j = g6.get j) ∧ g.floor = h.floor ∧ g6.next ≤ g.next ∧ g.next ≤ g6.next + 2 * i ∧ GrowC g6.next g v 1 i (fun i _ => .int .i64 (lostS S i (whenS (asU x a m) i) (e i))) ∧ f 10 = v) ∧ ms = [] ∧ f 2 = lv ∧ f 9 = .pointer (some ⟨g2.next, 0, none⟩) ∧ f 11 = .pointer (some ⟨g4.next, 0, none⟩) ∧ f 33 = lv ∧ f 34 = .int .i64 (S.nv : Int) ∧ f 35 = .int .i64 (i : Int)) (by simp; omega) ?_ ?_ ?_
  · simp only [rn0, rn1, rn2, rn3, rn4, rn5, rn6, rn7, rn8, if_true, if_false, Nat.le_refl, true_and, and_true, decide_true, decide_false, Bool.not_true, Bool.not_false, reduceIte, Nat.reduceEqDiff, Nat.reduceAdd, Nat.reduceMul, Nat.reduceSub, Nat.reduceLeDiff, Nat.reduceLT, Int.natCast_zero]
    exact ⟨nilS, fun i _ => trivial, by omega, by omega, .nil, rfl⟩
  · rintro i f g ms hi ⟨⟨v, ho, hfg, hup, hnx, gv, p10⟩, rfl, p2, p9, p11, p33, p34, p35⟩
    have hi' : (i : Int) < (S.nv : Int) := by omega
    have hwi : wrapF .i64 ((i : Int) + 1) = ((i + 1 : Nat) : Int) := by rw [wrap_in (by omega) (by omega)]; rfl
    have sg : Sub All g6 g := AHeap.subOf ho
    have rwg := rw6.mono sg
    have rdg := rd6.mono sg
    have hlg := hl6.mono sg
    have hyg := hy6.mono sg
    have hdd : (dn (doneS S (asU x a m)))[i]? = some (.int .i64 (whenS (asU x a m) i)) := by rw [dn_get (by omega)]; simp [doneS, hi]
    have hwb := when_bound hG hu hi
    have hei := hh i hi
    have el := loses_c (n := n) (h := g) (by omega) (by omega) hG hi (d := whenS (asU x a m) i) (e := e i) hwb (by omega)
    simp only [rn0, rn1, rn2, rn3, rn4, rn5, rn6, rn7, rn8, if_true, if_false, Nat.le_refl, true_and, and_true, decide_true, decide_false, Bool.not_true, Bool.not_false, reduceIte, Nat.reduceEqDiff, Nat.reduceAdd, Nat.reduceMul, Nat.reduceSub, Nat.reduceLeDiff, Nat.reduceLT, p2, p9, p10, p11, p33, p34, p35, hi', Cells.idx hlg hi, Cells.ld hlg hi Nat.zero_lt_one]
    refine W_draw All ?_
    simp only [rn0, rn1, rn2, rn3, rn4, rn5, rn6, rn7, rn8, if_true, if_false, Nat.le_refl, true_and, and_true, decide_true, decide_false, Bool.not_true, Bool.not_false, reduceIte, Nat.reduceEqDiff, Nat.reduceAdd, Nat.reduceMul, Nat.reduceSub, Nat.reduceLeDiff, Nat.reduceLT, p2, p9, p10, p11, p33, p34, p35, rwg.ld, wkg, Nat.zero_add, Cells.idx hyg.v hi, vat_ld hyg hi, idxArr_p (show i < 3 by omega), rdg.ld, hdd, el]
    refine up_slice (by omega) rfl (fun _ _ => trivial) fun g7 hx7 => ?_
    have n7 := hx7.next
    have f7 := hx7.floor
    obtain ⟨v', g8, e8, gv8, o8, n8, f8, old8, u8⟩ := grow_push (h := g) (bytes := 8) gv (by omega) (by omega) (by omega) hx7 rfl rfl (fun j hj => by
      obtain rfl : j = 0 := by omega
      rfl) (by simp [maxBytes]; omega) (by simp [maxBytes]; omega)
    simp only [rn0, rn1, rn2, rn3, rn4, rn5, rn6, rn7, rn8, if_true, if_false, Nat.le_refl, true_and, and_true, decide_true, decide_false, Bool.not_true, Bool.not_false, reduceIte, Nat.reduceEqDiff, Nat.reduceAdd, Nat.reduceMul, Nat.reduceSub, Nat.reduceLeDiff, Nat.reduceLT, p2, p9, p11, p33, p34, p35, e8, hwi]
    exact ⟨by omega, _, fun i hi => by rw [old8 i (by omega), ho i hi], by omega, by omega, by omega, gv8, rfl⟩
  · rintro f g ms ⟨⟨v, ho, hfg, hup, hnx, gv, p10⟩, rfl, p2, p9, p11, p33, p34, p35⟩
    simp only [rn0, rn1, rn2, rn3, rn4, rn5, rn6, rn7, rn8, if_true, if_false, Nat.le_refl, true_and, and_true, decide_true, decide_false, Bool.not_true, Bool.not_false, reduceIte, Nat.reduceEqDiff, Nat.reduceAdd, Nat.reduceMul, Nat.reduceSub, Nat.reduceLeDiff, Nat.reduceLT, p2, p9, p10, p11, p33, p34, p35, Int.lt_irrefl]
    exact ⟨_, rfl, _, rfl, gv.cells, fun i hi => by rw [ho i (by omega), old6 i (by omega), old4 i (by omega), old2 i hi], by omega, by omega, by omega⟩
theorem wk_self {vv sv : Value} {S : MB} (hy : BeatR h vv sv S) : eqV (.agg ⟨wkL S vv sv nilS⟩) (.agg ⟨wkL S vv sv nilS⟩) = true := by simp [wkL, eqV, eqCells, eqC_int, Cells.selfC hy.v, Cells.selfC hy.s]; try rfl
def s29 : SCode := (.seq (.ops [⟨(some 2), none, .box (T 0)⟩, ⟨(some 3), none, .box (T 1)⟩, ⟨(some 4), none, .mov (.const (.bool false))⟩]) (.seq (.ops [⟨(some 6), none, .loadN 5 (T 2)⟩, ⟨(some 7), none, .build #[(0, 5), (5, 1)] [(.int .i64 (0)), (.int .i64 (0)), (.slice none 0 0), (.int .i64 (0)), (.slice none 0 0), (.slice none 0 0)] [0] [(T 6)]⟩, ⟨(some 5), none, .alloc [(.int .i64 (0)), (.int .i64 (0)), (.slice none 0 0), (.int .i64 (0)), (.slice none 0 0), (.slice none 0 0)]⟩, ⟨none, none, .store 6 (T 5) (T 7)⟩]) (.seq (.draw [⟨.rd1, ⟨(some 8), none, .loadN 5 (T 2)⟩⟩, ⟨.up, ⟨(some 9), none, .call (.func 31) [(T 8)]⟩⟩, ⟨.free, ⟨(some 10), none, .int2 .eql (T 9) (.const (.int .i64 (0)))⟩⟩, ⟨.free, ⟨(some 11), none, .mov (T 10)⟩⟩, ⟨.rd1, ⟨(some 12), (some (11, true)), .loadN 6 (T 5)⟩⟩, ⟨.rd1, ⟨(some 13), (some (11, true)), .loadN 2 (T 3)⟩⟩, ⟨.up, ⟨(some 14), (some (11, true)), .call (.func 78) [(T 12), (T 13)]⟩⟩, ⟨.free, ⟨(some 15), none, .pick (T 11) (T 14) (.const (.bool false))⟩⟩, ⟨.free, ⟨(some 16), none, .mov (T 15)⟩⟩, ⟨.rd, ⟨(some 17), (some (16, true)), .loadN 6 (T 5)⟩⟩, ⟨.rd1, ⟨(some 18), (some (16, true)), .loadN 2 (T 3)⟩⟩, ⟨.up, ⟨(some 19), (some (16, true)), .call (.func 80) [(T 18)]⟩⟩, ⟨.any, ⟨(some 20), (some (16, true)), .call (.func 82) [(T 17), (T 19)]⟩⟩, ⟨.free, ⟨(some 21), none, .pick (T 16) (T 20) (.const (.bool false))⟩⟩, ⟨.free, ⟨(some 4), none, .mov (T 21)⟩⟩]) .ret)))
theorem fok29 : FnOk Try.prog 29 22 s29 [.tmp 4] := ⟨Try.f29, _, Try.func29, rfl, Try.ntmps29, by kernel_rfl, by kernel_rfl⟩
set_option maxHeartbeats 1000000 in
theorem proveTruth_c (hn : 200 ≤ n) (hr : h.next + 400 < far) {vv sv cw : Value} {S : MB} {x : Int} {m : Nat} {a : Nat → Int} (hy : BeatR h vv sv S) (hT : ThinS S) (hc : Ints h cw m a) (h30 : m ≤ 30) :
    ∃ r, (r = true ↔ faultS S = 0 ∧ Listed S x m a ∧ ∀ k, k < S.ns → RightS S (asU x a m) k) ∧ call n (.func (.func 29) #[] #[]) [.agg ⟨beL S vv sv⟩, .agg ⟨coL x cw⟩] h = some (.bool r, h) := by
  classical
  refine ⟨decide (faultS S = 0 ∧ Listed S x m a ∧ ∀ k, k < S.ns → RightS S (asU x a m) k), by simp, ?_⟩
  obtain ⟨n, rfl⟩ : ∃ p, n = p + 1 := ⟨n - 1, by omega⟩
  refine call_plain0 fok29 rfl rfl (by simp) rfl ?_
  have hy := hy.shut
  have hc := Cells.shut hc
  have hr : h.shutAll.next + 400 < far := hr
  have hfl : h.shutAll.floor ≤ h.shutAll.next := Nat.le_refl _
  generalize h.shutAll = h at hy hc hr hfl
  simp only [s29, W_seq, W_ops]
  refine ops_box (cs := beL S vv sv) (by omega) rfl hy.one fun g1 hx1 => ?_
  have n1 := hx1.next
  have f1 := hx1.floor
  refine ops_box (cs := coL x cw) (by omega) rfl (co_one hc) fun g2 hx2 => ?_
  have n2 := hx2.next
  have f2 := hx2.floor
  have r1 := hx1.row.mono hx2.sub
  have r2 := hx2.row
  have s02 := hx1.sub.trans hx2.sub
  have hy2 := hy.mono s02
  simp only [rn0, rn1, rn2, rn3, rn4, rn5, rn6, rn7, rn8, if_true, if_false, Nat.le_refl, true_and, and_true, decide_true, decide_false, Bool.not_true, Bool.not_false, reduceIte, Nat.reduceEqDiff, Nat.reduceAdd, Nat.reduceMul, Nat.reduceSub, Nat.reduceLeDiff, Nat.reduceLT, r1.whole (n := 5) rfl, build_wkB]
  refine step_row (cs := [.int .i64 0, .int .i64 0, nilS, .int .i64 0, nilS, nilS]) (by omega) rfl rfl fun g3 hx3 => ?_
  have n3 := hx3.next
  have f3 := hx3.floor
  simp only [rn0, rn1, rn2, rn3, rn4, rn5, rn6, rn7, rn8, if_true, if_false, Nat.le_refl, true_and, and_true, decide_true, decide_false, Bool.not_true, Bool.not_false, reduceIte, Nat.reduceEqDiff, Nat.reduceAdd, Nat.reduceMul, Nat.reduceSub, Nat.reduceLeDiff, Nat.reduceLT]
  refine step_store (b := g2.next) (off := 0) (vs := wkL S vv sv nilS) rfl hx3.get (by omega) (by omega) rfl (wk_one hy2 rfl) rfl (by simp) fun g4 hs4 => ?_
  rw [splice_all (by rfl)] at hs4
  have n4 := hs4.next
  have f4 := hs4.floor
  have old4 : ∀ i, i < g2.next → g4.get i = g2.get i := fun i hi => by rw [hs4.old i (by omega), hx3.old i hi]
  have s24 : Sub All g2 g4 := AHeap.subOf old4
  have hy4 := hy2.mono s24
  have hc4 := hc.mono (s02.trans s24)
  have r14 := r1.mono s24
  have r24 := r2.mono s24
  have rw4 := hs4.row
  have ec := check_c (n := n) (h := g4) (by omega) (by omega) hy4 hT
  have e1 := isCourse_c (n := n) (h := g4) (x := x) (by omega) (by omega) hy4 (show oneCell nilS = true from rfl) hc4 h30
  simp only [rn0, rn1, rn2, rn3, rn4, rn5, rn6, rn7, rn8, if_true, if_false, Nat.le_refl, true_and, and_true, decide_true, decide_false, Bool.not_true, Bool.not_false, reduceIte, Nat.reduceEqDiff, Nat.reduceAdd, Nat.reduceMul, Nat.reduceSub, Nat.reduceLeDiff, Nat.reduceLT]
  refine W_draw All ?_
  by_cases hf : faultS S = 0
  case neg =>
    simp only [rn0, rn1, rn2, rn3, rn4, rn5, rn6, rn7, rn8, if_true, if_false, Nat.le_refl, true_and, and_true, decide_true, decide_false, Bool.not_true, Bool.not_false, reduceIte, Nat.reduceEqDiff, Nat.reduceAdd, Nat.reduceMul, Nat.reduceSub, Nat.reduceLeDiff, Nat.reduceLT, r14.whole (n := 5) rfl, ec, hf, d_guard, dg_tt, dg_tf, dg_ft, dg_ff, dg_un, false_and]
  have hG := good_of hf
  by_cases c1 : Listed S x m a
  case neg =>
    simp only [rn0, rn1, rn2, rn3, rn4, rn5, rn6, rn7, rn8, if_true, if_false, Nat.le_refl, true_and, and_true, decide_true, decide_false, Bool.not_true, Bool.not_false, reduceIte, Nat.reduceEqDiff, Nat.reduceAdd, Nat.reduceMul, Nat.reduceSub, Nat.reduceLeDiff, Nat.reduceLT, r14.whole (n := 5) rfl, ec, hf, d_guard, dg_tt, dg_tf, dg_ft, dg_ff, dg_un, false_and, rw4.whole (n := 6) rfl, r24.whole (n := 2) rfl, e1, c1]
  have hu := (listed_u c1).1
  have hcu := cou_of c1 hc4
  have hd := done_c (n := n) (h := g4) (by omega) (by omega) hcu hG hu
  have hu0 : asU x a m 0 = x := rfl
  rw [hu0] at hd
  have et := isTruth_c (n := n) (h := g4) (u := asU x a m) (by omega) (by omega) hy4 (show oneCell nilS = true from rfl) hG
  simp only [rn0, rn1, rn2, rn3, rn4, rn5, rn6, rn7, rn8, if_true, if_false, Nat.le_refl, true_and, and_true, decide_true, decide_false, Bool.not_true, Bool.not_false, reduceIte, Nat.reduceEqDiff, Nat.reduceAdd, Nat.reduceMul, Nat.reduceSub, Nat.reduceLeDiff, Nat.reduceLT, r14.whole (n := 5) rfl, ec, hf, d_guard, dg_tt, dg_tf, dg_ft, dg_ff, dg_un, rw4.whole (n := 6) rfl, r24.whole (n := 2) rfl, e1, c1, hd, et, wk_self hy4, eqV_int]
end Go.Vm.Bt

namespace Go.Vm.Bt
open Go.Proofs Go.Vm.Vat Go.Vm.L2
set_option linter.unusedSimpArgs false
set_option linter.unusedVariables false
set_option maxRecDepth 10000
variable {n : Nat} {h : AHeap}
theorem asU_u {S : MB} {u : Nat → Int} (h0 : ∀ j, numU S ≤ j → u j = 0) : asU (u 0) (fun v => u (v + 1)) S.nv = u := by
  funext i
  unfold asU
  by_cases c1 : i = 0
  · rw [if_pos c1, c1]
  · rw [if_neg c1]
    by_cases c2 : i < S.nv + 1
    · rw [if_pos c2]; show u (i - 1 + 1) = u i; rw [show i - 1 + 1 = i by omega]
    · rw [if_neg c2, h0 i (by unfold numU; omega)]
theorem first_free {S : MB} {u : Nat → Int} (hu : u ∈ truthsS S) : firstF S = none := by
  rw [truths_mem, ← allE_mem] at hu
  refine fstP_none.2 fun k hk hb => ?_
  obtain ⟨i, _, i2, i3⟩ := hb u hu.1
  exact i3 (hu.2 i i2)
theorem leave_free {S : MB} {u : Nat → Int} (hG : Good S) (hu : u ∈ truthsS S) : leaveS S = [] := by
  rw [truths_mem, ← allE_mem] at hu
  have h2 := (leaveS_min hG).2 u hu.1
  have hw : wrongL S u = [] := by
    apply Classical.byContradiction
    intro hne
    have hl : 0 < (wrongL S u).length := List.length_pos_iff.2 hne
    obtain ⟨j, j1, _, j3⟩ := pick_at (p := wrS S u) (k := S.ns) (i := 0) hl
    exact j3 (hu.2 j j1)
  rw [hw] at h2
  apply Classical.byContradiction
  intro hne
  exact h2 (.inl (by rw [List.length_nil]; exact List.length_pos_iff.2 hne))
def tN (i : Nat) : Nat := 60000 * i
theorem tN_succ {i : Nat} : tN (i + 1) = tN i + 60000 := Nat.mul_succ _ _
theorem tN_le {i : Nat} (hi : i ≤ 3) : tN i ≤ 180000 := Nat.le_trans (Nat.mul_le_mul_left _ hi) (by decide)
def s10 : SCode := (.seq (.ops [⟨(some 5), none, .box (T 0)⟩, ⟨(some 10), none, .mov (.const (.bool false))⟩]) (.seq (.seq (.ops [⟨(some 30), none, .loadN 5 (T 5)⟩, ⟨(some 31), none, .call (.func 63) [(T 30)]⟩, ⟨(some 32), none, .not (T 31)⟩]) (.cond (T 32) (.seq (.ops [⟨(some 33), none, .call (.func 24) []⟩, ⟨(some 10), none, .mov (T 33)⟩]) .ret) .skip)) (.seq (.ops [⟨(some 35), none, .loadN 5 (T 5)⟩, ⟨(some 36), none, .mov (T 1)⟩, ⟨(some 37), none, .mov (T 2)⟩, ⟨(some 38), none, .call (.func 64) [(T 35), (T 36), (T 37)]⟩, ⟨(some 34), none, .mov (T 38)⟩, ⟨(some 39), none, .extract 0 (T 34)⟩, ⟨(some 40), none, .extract 1 (T 34)⟩, ⟨(some 11), none, .alloc [(.int .i64 (0)), (.int .i64 (0)), (.slice none 0 0), (.int .i64 (0)), (.slice none 0 0)]⟩, ⟨(some 12), none, .alloc [(.int .i64 (0)), (.slice none 0 0)]⟩, ⟨none, none, .store 5 (T 11) (T 39)⟩, ⟨none, none, .store 2 (T 12) (T 40)⟩]) (.seq (.draw [⟨.rd1, ⟨(some 41), none, .loadN 5 (T 5)⟩⟩, ⟨.free, ⟨(some 42), none, .mov (T 3)⟩⟩, ⟨.up, ⟨(some 43), none, .call (.func 65) [(T 41), (T 42)]⟩⟩, ⟨.free, ⟨(some 44), none, .mov (T 4)⟩⟩, ⟨.free, ⟨(some 45), none, .plain (.convert 5 3 (T 44)) 3⟩⟩, ⟨.free, ⟨(some 46), none, .fieldAddr 3 (T 5)⟩⟩, ⟨.rd, ⟨(some 47), none, .load1 (T 46)⟩⟩, ⟨.free, ⟨(some 48), none, .int2 .add (T 47) (.const (.int .i64 (1)))⟩⟩, ⟨.free, ⟨(some 49), none, .plain (.binOp .rem 3 (T 45) (T 48) 3) 3⟩⟩, ⟨.free, ⟨(some 13), none, .mov (T 43)⟩⟩, ⟨.free, ⟨(some 14), none, .mov (T 49)⟩⟩]) (.seq (.ops [⟨(some 51), none, .loadN 5 (T 11)⟩, ⟨(some 52), none, .call (.func 26) [(T 51)]⟩, ⟨(some 53), none, .call (.func 36) [(T 52)]⟩, ⟨(some 50), none, .mov (T 53)⟩, ⟨(some 54), none, .extract 0 (T 50)⟩, ⟨(some 55), none, .extract 1 (T 50)⟩, ⟨(some 15), none, .mov (T 54)⟩, ⟨(some 16), none, .mov (T 55)⟩]) (.seq (.ops [⟨(some 57), none, .loadN 5 (T 11)⟩, ⟨(some 58), none, .call (.func 26) [(T 57)]⟩, ⟨(some 59), none, .mov (T 13)⟩, ⟨(some 60), none, .call (.func 28) [(T 59)]⟩, ⟨(some 61), none, .call (.func 44) [(T 58), (T 60)]⟩, ⟨(some 56), none, .mov (T 61)⟩, ⟨(some 62), none, .extract 0 (T 56)⟩, ⟨(some 63), none, .extract 1 (T 56)⟩, ⟨(some 17), none, .alloc [(.int .i64 (0)), (.int .i64 (0))]⟩, ⟨none, none, .store 2 (T 17) (T 62)⟩, ⟨(some 18), none, .mov (T 63)⟩]) (.seq (.draw [⟨.rd1, ⟨(some 65), none, .loadN 5 (T 11)⟩⟩, ⟨.up, ⟨(some 66), none, .call (.func 26) [(T 65)]⟩⟩, ⟨.rd, ⟨(some 67), none, .loadN 2 (T 12)⟩⟩, ⟨.any, ⟨(some 68), none, .call (.func 27) [(T 67)]⟩⟩, ⟨.free, ⟨(some 69), none, .mov (T 13)⟩⟩, ⟨.any, ⟨(some 70), none, .call (.func 28) [(T 69)]⟩⟩, ⟨.any, ⟨(some 71), none, .call (.func 25) [(T 66), (T 68), (T 70)]⟩⟩, ⟨.free, ⟨(some 64), none, .mov (T 71)⟩⟩, ⟨.free, ⟨(some 72), none, .extract 0 (T 64)⟩⟩, ⟨.free, ⟨(some 73), none, .extract 1 (T 64)⟩⟩, ⟨.free, ⟨(some 19), none, .mov (T 72)⟩⟩, ⟨.free, ⟨(some 20), none, .mov (T 73)⟩⟩]) (.seq (.ops [⟨(some 75), none, .loadN 5 (T 11)⟩, ⟨(some 76), none, .call (.func 26) [(T 75)]⟩, ⟨(some 77), none, .call (.func 54) [(T 76)]⟩, ⟨(some 74), none, .mov (T 77)⟩, ⟨(some 78), none, .extract 0 (T 74)⟩, ⟨(some 79), none, .extract 1 (T 74)⟩, ⟨(some 21), none, .mov (T 78)⟩, ⟨(some 22), none, .mov (T 79)⟩]) (.seq (.ops [⟨(some 81), none, .loadN 5 (T 11)⟩, ⟨(some 82), none, .call (.func 26) [(T 81)]⟩, ⟨(some 83), none, .call (.func 53) [(T 82)]⟩, ⟨(some 80), none, .mov (T 83)⟩, ⟨(some 84), none, .extract 0 (T 80)⟩, ⟨(some 85), none, .extract 1 (T 80)⟩, ⟨(some 23), none, .mov (T 84)⟩, ⟨(some 24), none, .mov (T 85)⟩]) (.seq (.seq (.draw [⟨.free, ⟨(some 86), none, .mov (T 16)⟩⟩, ⟨.free, ⟨(some 87), none, .int2 .neq (T 86) (.const (.int .i64 (0)))⟩⟩, ⟨.free, ⟨(some 88), none, .mov (T 87)⟩⟩, ⟨.free, ⟨(some 89), (some (88, false)), .mov (T 18)⟩⟩, ⟨.free, ⟨(some 90), (some (88, false)), .int2 .neq (T 89) (.const (.int .i64 (0)))⟩⟩, ⟨.free, ⟨(some 91), none, .pick (T 88) (.const (.bool true)) (T 90)⟩⟩, ⟨.free, ⟨(some 92), none, .mov (T 91)⟩⟩, ⟨.free, ⟨(some 93), (some (92, false)), .mov (T 20)⟩⟩, ⟨.free, ⟨(some 94), (some (92, false)), .int2 .neq (T 93) (.const (.int .i64 (0)))⟩⟩, ⟨.free, ⟨(some 95), none, .pick (T 92) (.const (.bool true)) (T 94)⟩⟩, ⟨.free, ⟨(some 96), none, .mov (T 95)⟩⟩, ⟨.free, ⟨(some 97), (some (96, false)), .mov (T 22)⟩⟩, ⟨.free, ⟨(some 98), (some (96, false)), .int2 .neq (T 97) (.const (.int .i64 (0)))⟩⟩, ⟨.free, ⟨(some 99), none, .pick (T 96) (.const (.bool true)) (T 98)⟩⟩, ⟨.free, ⟨(some 100), none, .mov (T 99)⟩⟩, ⟨.free, ⟨(some 101), (some (100, false)), .mov (T 21)⟩⟩, ⟨.free, ⟨(some 102), (some (100, false)), .len (T 101)⟩⟩, ⟨.free, ⟨(some 103), (some (100, false)), .int2 .neq (T 102) (.const (.int .i64 (0)))⟩⟩, ⟨.free, ⟨(some 104), none, .pick (T 100) (.const (.bool true)) (T 103)⟩⟩, ⟨.free, ⟨(some 105), none, .mov (T 104)⟩⟩, ⟨.free, ⟨(some 106), (some (105, false)), .mov (T 24)⟩⟩, ⟨.free, ⟨(some 107), (some (105, false)), .int2 .neq (T 106) (.const (.int .i64 (7)))⟩⟩, ⟨.free, ⟨(some 108), none, .pick (T 105) (.const (.bool true)) (T 107)⟩⟩, ⟨.free, ⟨(some 109), none, .mov (T 108)⟩⟩, ⟨.free, ⟨(some 110), (some (109, false)), .mov (T 15)⟩⟩, ⟨.free, ⟨(some 111), (some (109, false)), .len (T 110)⟩⟩, ⟨.free, ⟨(some 112), (some (109, false)), .fieldAddr 2 (T 5)⟩⟩, ⟨.rd1, ⟨(some 113), (some (109, false)), .load1 (T 112)⟩⟩, ⟨.free, ⟨(some 114), (some (109, false)), .len (T 113)⟩⟩, ⟨.free, ⟨(some 115), (some (109, false)), .int2 .neq (T 111) (T 114)⟩⟩, ⟨.free, ⟨(some 116), none, .pick (T 109) (.const (.bool true)) (T 115)⟩⟩, ⟨.free, ⟨(some 117), none, .mov (T 116)⟩⟩, ⟨.free, ⟨(some 118), (some (117, false)), .mov (T 19)⟩⟩, ⟨.free, ⟨(some 119), (some (117, false)), .len (T 118)⟩⟩, ⟨.free, ⟨(some 120), (some (117, false)), .mov (T 15)⟩⟩, ⟨.free, ⟨(some 121), (some (117, false)), .len (T 120)⟩⟩, ⟨.free, ⟨(some 122), (some (117, false)), .int2 .neq (T 119) (T 121)⟩⟩, ⟨.free, ⟨(some 123), none, .pick (T 117) (.const (.bool true)) (T 122)⟩⟩, ⟨.free, ⟨(some 124), none, .mov (T 123)⟩⟩, ⟨.rd1, ⟨(some 125), (some (124, false)), .loadN 5 (T 11)⟩⟩, ⟨.up, ⟨(some 126), (some (124, false)), .call (.func 26) [(T 125)]⟩⟩, ⟨.rd, ⟨(some 127), (some (124, false)), .loadN 2 (T 12)⟩⟩, ⟨.any, ⟨(some 128), (some (124, false)), .call (.func 27) [(T 127)]⟩⟩, ⟨.any, ⟨(some 129), (some (124, false)), .call (.func 29) [(T 126), (T 128)]⟩⟩, ⟨.free, ⟨(some 130), (some (124, false)), .not (T 129)⟩⟩, ⟨.free, ⟨(some 131), none, .pick (T 124) (.const (.bool true)) (T 130)⟩⟩]) (.cond (T 131) (.seq (.ops [⟨(some 10), none, .mov (.const (.bool false))⟩]) .ret) .skip)) (.seq (.ops [⟨(some 25), none, .mov (.const (.int .i64 (0)))⟩]) (.seq (.seq (.ops [⟨(some 26), none, .mov (.const (.int .i64 (0)))⟩]) (.block 0 (.loop (.seq (.seq (.ops [⟨(some 132), none, .mov (T 26)⟩, ⟨(some 133), none, .mov (T 15)⟩, ⟨(some 134), none, .len (T 133)⟩, ⟨(some 135), none, .int2 .lss (T 132) (T 134)⟩]) (.cond (T 135) .skip (.exit 0))) (.seq (.block 1 (.seq (.ops [⟨(some 138), none, .loadN 2 (T 12)⟩, ⟨(some 139), none, .mov (T 26)⟩, ⟨(some 140), none, .call (.func 66) [(T 138), (T 139)]⟩, ⟨(some 27), none, .mov (T 140)⟩]) (.seq (.ops [⟨(some 142), none, .loadN 5 (T 11)⟩, ⟨(some 143), none, .call (.func 26) [(T 142)]⟩, ⟨(some 144), none, .mov (T 26)⟩, ⟨(some 145), none, .mov (T 14)⟩, ⟨(some 146), none, .call (.func 37) [(T 143), (T 144), (T 145)]⟩, ⟨(some 141), none, .mov (T 146)⟩, ⟨(some 147), none, .extract 0 (T 141)⟩, ⟨(some 148), none, .extract 1 (T 141)⟩, ⟨(some 28), none, .mov (T 147)⟩, ⟨(some 29), none, .mov (T 148)⟩]) (.seq (.seq (.ops [⟨(some 149), none, .mov (T 27)⟩, ⟨(some 150), none, .mov (T 15)⟩, ⟨(some 151), none, .mov (T 26)⟩, ⟨(some 152), none, .idxSl 2 (T 150) (T 151)⟩, ⟨(some 153), none, .fieldAddr 0 (T 152)⟩, ⟨(some 154), none, .load1 (T 153)⟩, ⟨(some 155), none, .int2 .lss (T 149) (T 154)⟩, ⟨(some 156), none, .mov (T 155)⟩, ⟨(some 157), (some (156, false)), .mov (T 27)⟩, ⟨(some 158), (some (156, false)), .mov (T 15)⟩, ⟨(some 159), (some (156, false)), .mov (T 26)⟩, ⟨(some 160), (some (156, false)), .idxSl 2 (T 158) (T 159)⟩, ⟨(some 161), (some (156, false)), .fieldAddr 1 (T 160)⟩, ⟨(some 162), (some (156, false)), .load1 (T 161)⟩, ⟨(some 163), (some (156, false)), .int2 .gtr (T 157) (T 162)⟩, ⟨(some 164), none, .pick (T 156) (.const (.bool true)) (T 163)⟩, ⟨(some 165), none, .mov (T 164)⟩, ⟨(some 166), (some (165, false)), .mov (T 29)⟩, ⟨(some 167), (some (165, false)), .int2 .neq (T 166) (.const (.int .i64 (0)))⟩, ⟨(some 168), none, .pick (T 165) (.const (.bool true)) (T 167)⟩, ⟨(some 169), none, .mov (T 168)⟩, ⟨(some 170), (some (169, false)), .mov (T 28)⟩, ⟨(some 171), (some (169, false)), .call (.func 39) [(T 170), (.const (.int .i64 (1))), (.const (.int .i64 (3)))]⟩, ⟨(some 172), (some (169, false)), .not (T 171)⟩, ⟨(some 173), none, .pick (T 169) (.const (.bool true)) (T 172)⟩, ⟨(some 174), none, .mov (T 173)⟩, ⟨(some 175), (some (174, false)), .mov (T 28)⟩, ⟨(some 176), (some (174, false)), .int2 .eql (T 175) (.const (.int .i64 (1)))⟩, ⟨(some 177), (some (174, false)), .mov (T 176)⟩, ⟨(some 178), (some (177, true)), .mov (T 14)⟩, ⟨(some 179), (some (177, true)), .mov (T 27)⟩, ⟨(some 180), (some (177, true)), .int2 .lss (T 178) (T 179)⟩, ⟨(some 181), (some (174, false)), .pick (T 177) (T 180) (.const (.bool false))⟩, ⟨(some 182), none, .pick (T 174) (.const (.bool true)) (T 181)⟩, ⟨(some 183), none, .mov (T 182)⟩, ⟨(some 184), (some (183, false)), .mov (T 28)⟩, ⟨(some 185), (some (183, false)), .int2 .eql (T 184) (.const (.int .i64 (2)))⟩, ⟨(some 186), (some (183, false)), .mov (T 185)⟩, ⟨(some 187), (some (186, true)), .mov (T 14)⟩, ⟨(some 188), (some (186, true)), .mov (T 27)⟩, ⟨(some 189), (some (186, true)), .int2 .geq (T 187) (T 188)⟩, ⟨(some 190), (some (183, false)), .pick (T 186) (T 189) (.const (.bool false))⟩, ⟨(some 191), none, .pick (T 183) (.const (.bool true)) (T 190)⟩]) (.cond (T 191) (.seq (.ops [⟨(some 10), none, .mov (.const (.bool false))⟩]) .ret) .skip)) (.ops [⟨(some 192), none, .mov (T 25)⟩, ⟨(some 193), none, .mov (T 19)⟩, ⟨(some 194), none, .mov (T 26)⟩, ⟨(some 195), none, .idxSl 1 (T 193) (T 194)⟩, ⟨(some 196), none, .load1 (T 195)⟩, ⟨(some 197), none, .int2 .add (T 192) (T 196)⟩, ⟨(some 25), none, .mov (T 197)⟩]))))) (.ops [⟨(some 136), none, .mov (T 26)⟩, ⟨(some 137), none, .int2 .add (T 136) (.const (.int .i64 (1)))⟩, ⟨(some 26), none, .mov (T 137)⟩])))))) (.seq (.ops [⟨(some 198), none, .mov (T 25)⟩, ⟨(some 199), none, .fieldAddr 0 (T 17)⟩, ⟨(some 200), none, .load1 (T 199)⟩, ⟨(some 201), none, .int2 .geq (T 198) (T 200)⟩, ⟨(some 202), none, .mov (T 201)⟩, ⟨(some 203), (some (202, true)), .mov (T 25)⟩, ⟨(some 204), (some (202, true)), .fieldAddr 1 (T 17)⟩, ⟨(some 205), (some (202, true)), .load1 (T 204)⟩, ⟨(some 206), (some (202, true)), .int2 .leq (T 203) (T 205)⟩, ⟨(some 207), none, .pick (T 202) (T 206) (.const (.bool false))⟩, ⟨(some 208), none, .mov (T 207)⟩, ⟨(some 209), (some (208, true)), .call (.func 24) []⟩, ⟨(some 210), none, .pick (T 208) (T 209) (.const (.bool false))⟩, ⟨(some 10), none, .mov (T 210)⟩]) .ret)))))))))))))
theorem fok10 : FnOk Try.prog 10 211 s10 [.tmp 10] := ⟨Try.f10, _, Try.func10, rfl, Try.ntmps10, by kernel_rfl, by kernel_rfl⟩
set_option maxHeartbeats 6000000 in
theorem truthL_c (hn : 1500 ≤ n) (hr : h.next + 1200000 < far) (hfl : h.floor ≤ h.next) {vv sv : Value} {S : MB} (hy : BeatR h vv sv S) (a1 : Int) (wf1 : (Lit.int .u16 a1).wf = true) {ws : Value} {m : Nat} {a : Nat → Nat} (hw : Words h ws m a) {ws2 : Value} {m2 : Nat} {b : Nat → Nat} (hw2 : Words h ws2 m2 b) (a4 : Int) (wf4 : (Lit.int .u8 a4).wf = true) :
    ∃ v h', call n (.func (.func 10) #[] #[]) [.agg ⟨beL S vv sv⟩, .int .u16 a1, ws, ws2, .int .u8 a4] h = some (v, h') ∧ v = .bool true := by
  obtain ⟨n, rfl⟩ : ∃ p, n = p + 1 := ⟨n - 1, by omega⟩
  obtain ⟨w0, rfl, hw0⟩ := wf16 wf1
  obtain ⟨w4, rfl, hw4⟩ := wf8 wf4
  refine call_any0 fok10 rfl rfl (by simp) ?_
  simp only [s10, W_seq, W_ops]
  refine ops_box (cs := beL S vv sv) (by omega) rfl hy.one fun g1 hx1 => ?_
  have n1 := hx1.next
  have f1 := hx1.floor
  have hy1 := hy.mono hx1.sub
  have x1 := hx1.row.whole (n := 5) rfl
  have r1 := hx1.row
  have er := ready_c (n := n) (h := g1) (by omega) (by omega) hy1
  have haw := awake_c (n := n) (h := g1) (by omega)
  by_cases hTf : Rdy S
  case neg => simp only [rn0, rn1, rn2, rn3, rn4, rn5, rn6, rn7, rn8, if_true, if_false, Nat.le_refl, true_and, and_true, decide_true, decide_false, Bool.not_true, Bool.not_false, reduceIte, Nat.reduceEqDiff, Nat.reduceAdd, Nat.reduceMul, Nat.reduceSub, Nat.reduceLeDiff, Nat.reduceLT, x1, er, hTf, g_un, haw]
  have hdt : decide (Rdy S) = true := decide_eq_true hTf
  obtain ⟨hth, hf⟩ := hTf
  have hG := good_of hf
  obtain ⟨z0, z1, z3, z5, _⟩ := hG.sizes
  obtain ⟨sv2, g2, e2, u, hu, o2, u2, m2', f2, X', cw, rfl, hX2, hC2⟩ := sampled_c (n := n) (h := g1) (by omega) (by omega) (by omega) hy1 hG hw0 (hw.mono hx1.sub)
  have hGX := sp_good (S := S) (m := m) (a := a) (u := u) hG
  have huX := sp_truth (S := S) (m := m) (a := a) hu
  obtain ⟨X, hXX⟩ : ∃ X, X = sampledS S m a u := ⟨_, rfl⟩
  have hX1 : X.nv = S.nv ∧ X.last = S.last ∧ X.ns ≤ 5 ∧ (∀ d e k, lossTo X d e k = lossTo S d e k) := by
    rw [hXX]
    refine ⟨rfl, rfl, spN_le (S := S) (m := m) (a := a), fun d e k => ?_⟩
    induction k with
    | zero => rfl
    | succ k ih => simp only [lossTo]; rw [ih]; rfl
  rw [← hXX] at hGX huX hX2
  have eXL : beL (sampledS S m a u) vv X' = beL X vv X' := by rw [hXX]
  rw [eXL] at e2
  have lostX : ∀ v d e, lostS X v d e = lostS S v d e := fun v d e => by rw [hXX]; rfl
  clear hXX eXL
  obtain ⟨xv, xl, xn, xo⟩ := hX1
  have hTX : ThinS X := ⟨by rw [xv]; exact hth.1, by omega⟩
  have hfx := fault_of hGX
  have hzx : truthsS X ≠ [] := List.ne_nil_of_mem huX
  have heX : errS X = 0 := errS_zero.2 ⟨hGX, hzx⟩
  have hlx := leave_free hGX huX
  have hffx := first_free huX
  have hui : InU S u := (allE_mem.1 hu).1
  have hu0 := (allE_mem.1 hu).2
  have hasU : asU (u 0) (fun v => u (v + 1)) S.nv = u := asU_u hu0
  have r2 := r1.mono (AHeap.subOf o2)
  have hy2 := hy1.mono (AHeap.subOf o2)
  simp only [rn0, rn1, rn2, rn3, rn4, rn5, rn6, rn7, rn8, if_true, if_false, Nat.le_refl, true_and, and_true, decide_true, decide_false, Bool.not_true, Bool.not_false, reduceIte, Nat.reduceEqDiff, Nat.reduceAdd, Nat.reduceMul, Nat.reduceSub, Nat.reduceLeDiff, Nat.reduceLT, x1, er, hdt, e2, ex0, ex1]
  refine step_row (cs := zr5) (by omega) rfl rfl fun g3 hx3 => ?_
  have n3 := hx3.next
  have f3 := hx3.floor
  simp only [rn0, rn1, rn2, rn3, rn4, rn5, rn6, rn7, rn8, if_true, if_false, Nat.le_refl, true_and, and_true, decide_true, decide_false, Bool.not_true, Bool.not_false, reduceIte, Nat.reduceEqDiff, Nat.reduceAdd, Nat.reduceMul, Nat.reduceSub, Nat.reduceLeDiff, Nat.reduceLT]
  refine step_row (cs := coL 0 nilS) (by omega) rfl rfl fun g4 hx4 => ?_
  have n4 := hx4.next
  have f4 := hx4.floor
  simp only [rn0, rn1, rn2, rn3, rn4, rn5, rn6, rn7, rn8, if_true, if_false, Nat.le_refl, true_and, and_true, decide_true, decide_false, Bool.not_true, Bool.not_false, reduceIte, Nat.reduceEqDiff, Nat.reduceAdd, Nat.reduceMul, Nat.reduceSub, Nat.reduceLeDiff, Nat.reduceLT]
  refine step_store (b := g2.next) (off := 0) (vs := beL X vv X') rfl (by rw [hx4.old _ (by omega)]; exact hx3.get) (by omega) (by omega) rfl hX2.one rfl (by simp [zr5]) fun g5 hs5 => ?_
  have es5 : splice zr5 0 (beL X vv X') = beL X vv X' := rfl
  rw [es5] at hs5
  have n5 := hs5.next
  have f5 := hs5.floor
  simp only [rn0, rn1, rn2, rn3, rn4, rn5, rn6, rn7, rn8, if_true, if_false, Nat.le_refl, true_and, and_true, decide_true, decide_false, Bool.not_true, Bool.not_false, reduceIte, Nat.reduceEqDiff, Nat.reduceAdd, Nat.reduceMul, Nat.reduceSub, Nat.reduceLeDiff, Nat.reduceLT]
  refine step_store (b := g3.next) (off := 0) (vs := coL (u 0) cw) rfl (by rw [hs5.old _ (by omega)]; exact hx4.get) (by omega) (by omega) rfl (co_one hC2) rfl (by simp [coL]) fun g6 hs6 => ?_
  have es6 : splice (coL 0 nilS) 0 (coL (u 0) cw) = coL (u 0) cw := rfl
  rw [es6] at hs6
  have n6 := hs6.next
  have f6 := hs6.floor
  have s26 : Sub All g2 g6 := AHeap.subOf fun i hi => by rw [hs6.old i (by omega), hs5.old i (by omega), hx4.old i (by omega), hx3.old i hi]
  have hX6 := hX2.mono s26
  have hC6 : CouR g6 cw S u := Cells.mono hC2 s26
  have r6 := r2.mono s26
  have hy6 := hy2.mono s26
  have hw6 := hw2.mono (hx1.sub.trans ((AHeap.subOf o2).trans s26))
  obtain ⟨A7, hA7⟩ : ∃ q, q = g2.next := ⟨_, rfl⟩
  obtain ⟨A8, hA8⟩ : ∃ q, q = g3.next := ⟨_, rfl⟩
  rw [← hA7, ← hA8]
  rw [← hA7] at hs5
  rw [← hA8] at hs6
  have t6 : Row g6 A7 (beL X vv X') := by
    obtain ⟨w, gr, e⟩ := hs5.row
    exact ⟨w, gr, by rw [hs6.old _ (by omega)]; exact e⟩
  have v6 : Row g6 A8 (coL (u 0) cw) := hs6.row
  have b6 : g6.next ≤ h.next + 400 ∧ g6.floor ≤ g6.next := by omega
  clear hx1 hx3 hx4 hs5 hs6 s26 r2 hX2 hC2 e2 o2 hy1 hy2 x1 r1 er
  obtain ⟨b61, b62⟩ := b6
  clear n1 f1 u2 m2' f2 n3 f3 n4 f4 n5 f5 n6 f6
  obtain ⟨ew, g7, e7, hE7, o7, u7, m7, f7⟩ := ended_c (n := n) (h := g6) (by omega) (by omega) (by omega) hy6 hG hw6
  have s7 : Sub All g6 g7 := AHeap.subOf o7
  have hok := endW_ok (m := m2) (a := b) hG
  obtain ⟨E, hE⟩ : ∃ E, E = endW S m2 b := ⟨_, rfl⟩
  rw [← hE] at hE7 hok
  clear hE
  have wl : wrapF .i64 (S.last + 1) = ((S.last.toNat + 1 : Nat) : Int) := by rw [wrap_in (by omega) (by omega)]; omega
  have zl : ¬ ((S.last.toNat + 1 : Nat) : Int) = 0 := by omega
  obtain ⟨H, hH⟩ : ∃ H : Nat, H = w4 % (S.last.toNat + 1) := ⟨_, rfl⟩
  have mH : (w4 : Int).tmod ((S.last.toNat + 1 : Nat) : Int) = (H : Int) := by rw [hH]; rfl
  have hHl : (H : Int) ≤ S.last := by have := Nat.mod_lt w4 (show 0 < S.last.toNat + 1 by omega); omega
  simp only [rn0, rn1, rn2, rn3, rn4, rn5, rn6, rn7, rn8, if_true, if_false, Nat.le_refl, true_and, and_true, decide_true, decide_false, Bool.not_true, Bool.not_false, reduceIte, Nat.reduceEqDiff, Nat.reduceAdd, Nat.reduceMul, Nat.reduceSub, Nat.reduceLeDiff, Nat.reduceLT]
  refine W_draw All ?_
  simp only [rn0, rn1, rn2, rn3, rn4, rn5, rn6, rn7, rn8, if_true, if_false, Nat.le_refl, true_and, and_true, decide_true, decide_false, Bool.not_true, Bool.not_false, reduceIte, Nat.reduceEqDiff, Nat.reduceAdd, Nat.reduceMul, Nat.reduceSub, Nat.reduceLeDiff, Nat.reduceLT, r6.whole (n := 5) rfl, r6.ld, beg, Nat.zero_add, hy6.self, e7, p_conv8, r_8 hw4, valN_tmp, valN_const, Nat.reduceLT, wl, zl, p_rem, r_rem zl, mH]
  first | refine ⟨u7, ?_⟩ | refine ⟨⟨u7, s7⟩, ?_⟩ | skip
  have r7 := r6.mono s7
  have t7 := t6.mono s7
  have v7 := v6.mono s7
  have hX7 := hX6.mono s7
  have hC7 : CouR g7 cw S u := Cells.mono hC6 s7
  have hy7 := hy6.mono s7
  obtain ⟨va, sa, g8, e8, hy8, o8, u8, m8, f8⟩ := beatL_c (n := n) (h := g7) (by omega) (by omega) (by omega) hX7 hTX
  obtain ⟨r9, g9, e9, b9, k9, o9, u9, m9, f9⟩ := boundsV_c (n := n) (h := g8) (by omega) (by omega) (by omega) hy8 hTX
  have s79 : Sub All g7 g9 := (AHeap.subOf o8).trans (AHeap.subOf o9)
  have hcX : cntS X = S.nv := by unfold cntS; rw [if_pos heX, xv]
  rw [heX] at e9
  rw [hcX] at b9
  obtain ⟨vb, sb, ga, ea, hya, oa, ua, ma, fa⟩ := beatL_c (n := n) (h := g9) (by omega) (by omega) (by omega) (hX7.mono s79) hTX
  obtain ⟨la, gb, eb, ib, kb, ob, ub, mb, fb, _⟩ := list_c (n := n) (h := ga) (by omega) (by omega) (Cells.mono hE7 (s79.trans (AHeap.subOf oa))) (by omega)
  have sab : Sub All g9 gb := (AHeap.subOf oa).trans (AHeap.subOf ob)
  have hHo : Hours X S.nv E := ⟨xv.symm, fun i hi => by rw [xl]; exact hok.1 i hi⟩
  have eL := lossesV_c (n := n) (h := gb) (by omega) (by omega) (hya.mono (AHeap.subOf ob)) hTX ib (by omega)
  have heE : errE X S.nv E = 0 := by unfold errE; rw [if_neg (by simpa using hfx), if_neg (fun q => q hHo), if_neg hzx]
  rw [heE, if_pos rfl, if_pos rfl, xv] at eL
  obtain ⟨L0, hL0⟩ : ∃ x, x = wLo X E S.nv := ⟨_, rfl⟩
  obtain ⟨L1, hL1⟩ : ∃ x, x = wHi X E S.nv := ⟨_, rfl⟩
  have hLa : L0 ≤ lossTo X (whenS u) E S.nv := by rw [hL0]; exact (le_loN hzx).1 (Int.le_refl _) u huX
  have hLb : lossTo X (whenS u) E S.nv ≤ L1 := by rw [hL1]; exact (hiN_le hzx).1 (Int.le_refl _) u huX
  rw [← hL0, ← hL1] at eL
  clear hL0 hL1
  have s7b := s79.trans sab
  simp only [rn0, rn1, rn2, rn3, rn4, rn5, rn6, rn7, rn8, if_true, if_false, Nat.le_refl, true_and, and_true, decide_true, decide_false, Bool.not_true, Bool.not_false, reduceIte, Nat.reduceEqDiff, Nat.reduceAdd, Nat.reduceMul, Nat.reduceSub, Nat.reduceLeDiff, Nat.reduceLT, t7.whole (n := 5) rfl, e8, e9, ex0, ex1, (t7.mono s79).whole (n := 5) rfl, ea, eb, eL]
  refine step_new (vs := [.int .i64 L0, .int .i64 L1]) (by omega) (by omega) rfl (by simp only [rn0, rn1, rn2, rn3, rn4, rn5, rn6, rn7, rn8, if_true, if_false, Nat.le_refl, true_and, and_true, decide_true, decide_false, Bool.not_true, Bool.not_false, reduceIte, Nat.reduceEqDiff, Nat.reduceAdd, Nat.reduceMul, Nat.reduceSub, Nat.reduceLeDiff, Nat.reduceLT]; rfl) rfl rfl rfl fun gc hxc => ?_
  have nc := hxc.next
  have fc := hxc.floor
  obtain ⟨A17, hA17⟩ : ∃ q, q = gb.next := ⟨_, rfl⟩
  have qc := hxc.row
  rw [← hA17] at qc
  rw [← hA17]
  have s7c := s7b.trans hxc.sub
  have tc := t7.mono s7c
  have vc := v7.mono s7c
  have rc := r7.mono s7c
  have hXc := hX7.mono s7c
  have hCc : CouR gc cw S u := Cells.mono hC7 s7c
  have hyc := hy7.mono s7c
  have hEc := Cells.mono hE7 s7c
  have b9c := Cells.mono b9 (sab.trans hxc.sub)
  have bc : gc.next ≤ h.next + 30000 ∧ gc.floor ≤ gc.next := by omega
  clear s7b s7c s79 sab hxc hX7 hC7 hy7 hE7 t7 v7 r7 t6 v6 r6 hX6 hC6 hy6 hw6 s7 e7 e8 e9 ea eb eL hy8 hya ib b9 o7 o8 o9 oa ob
  obtain ⟨bc1, bc2⟩ := bc
  clear b61 b62 u7 m7 f7 u8 m8 f8 u9 m9 f9 ua ma fa ub mb fb nc fc
  obtain ⟨vd, sd, gd, ed, hyd, od, ud, md, fd⟩ := beatL_c (n := n) (h := gc) (by omega) (by omega) (by omega) hXc hTX
  have scd : Sub All gc gd := AHeap.subOf od
  obtain ⟨cw2, ge, ee, hCe, oe, ue, me, fe⟩ := courseL_c (n := n) (h := gd) (x := u 0) (by omega) (by omega) (by omega) (Cells.mono hCc scd) (by omega)
  have sde : Sub All gd ge := AHeap.subOf oe
  obtain ⟨lf, gf, ef, hlf, kf, of', uf, mf, ff, _⟩ := list_c (n := n) (h := ge) (by omega) (by omega) (Cells.mono hEc (scd.trans sde)) (by omega)
  have sef : Sub All ge gf := AHeap.subOf of'
  obtain ⟨pl, gg, eg, hpl, og, ug, mg, fg⟩ := play_c (n := n) (h := gf) (x := u 0) (by omega) (by omega) (by omega) (hyd.mono (sde.trans sef)) hTX (Cells.mono hCe sef) hlf ⟨by omega, by omega⟩
  have sfg : Sub All gf gg := AHeap.subOf og
  have hListed : Listed X (u 0) S.nv fun v => u (v + 1) := by
    have huX' := (truths_mem.1 huX).1.1
    refine ⟨huX' 0 (by unfold numU; omega), xv.symm, fun i hi => ?_⟩
    have := huX' (i + 1) (by unfold numU; omega)
    rw [uLo_succ, uHi_succ] at this; exact this
  have heP : errP X (u 0) S.nv (fun v => u (v + 1)) S.nv E = 0 := by unfold errP; rw [if_neg (by simpa using hfx), if_pos ⟨hListed, hHo⟩]
  rw [heP] at eg
  rw [heP, if_pos rfl, xv, hasU] at hpl
  have scg := (scd.trans sde).trans (sef.trans sfg)
  simp only [rn0, rn1, rn2, rn3, rn4, rn5, rn6, rn7, rn8, if_true, if_false, Nat.le_refl, true_and, and_true, decide_true, decide_false, Bool.not_true, Bool.not_false, reduceIte, Nat.reduceEqDiff, Nat.reduceAdd, Nat.reduceMul, Nat.reduceSub, Nat.reduceLeDiff, Nat.reduceLT]
  refine W_draw All ?_
  simp only [rn0, rn1, rn2, rn3, rn4, rn5, rn6, rn7, rn8, if_true, if_false, Nat.le_refl, true_and, and_true, decide_true, decide_false, Bool.not_true, Bool.not_false, reduceIte, Nat.reduceEqDiff, Nat.reduceAdd, Nat.reduceMul, Nat.reduceSub, Nat.reduceLeDiff, Nat.reduceLT, tc.whole (n := 5) rfl, vc.whole (n := 2) rfl, hXc.self, co_self hCc, Cells.self hEc, ed, (vc.mono scd).whole (n := 2) rfl, ee, ef, eg, ex0, ex1]
  first | refine ⟨⟨ud, scd⟩, ⟨ue, scd.trans sde⟩, ⟨uf, (scd.trans sde).trans sef⟩, ug, ?_⟩ | refine ⟨ud, ue, uf, ug, ?_⟩ | refine ⟨⟨ud, scd⟩, ue, uf, ug, ?_⟩ | skip
  have tg := tc.mono scg
  have vg := vc.mono scg
  have rg := rc.mono scg
  have qg := qc.mono scg
  have hXg := hXc.mono scg
  have hCg : CouR gg cw S u := Cells.mono hCc scg
  have hyg := hyc.mono scg
  have b9g := Cells.mono b9c scg
  obtain ⟨vi, si, gi, ei, hyi, oi, ui, mi, fi⟩ := beatL_c (n := n) (h := gg) (by omega) (by omega) (by omega) hXg hTX
  obtain ⟨lj, gj, ej, oj, uj, mj, fj, hLj⟩ := leaveP_c (n := n) (h := gi) (by omega) (by omega) (by omega) hyi hTX
  have sgj : Sub All gg gj := (AHeap.subOf oi).trans (AHeap.subOf oj)
  rcases hLj with ⟨h0, _⟩ | ⟨_, l1, rfl, il1, _⟩
  · exact absurd hfx h0
  rw [hlx] at il1
  obtain ⟨vk, sk, gk, ek, hyk, ok, uk, mk, fk⟩ := beatL_c (n := n) (h := gj) (by omega) (by omega) (by omega) (hXg.mono sgj) hTX
  have eF := firstP_c (n := n) (h := gk) (by omega) (by omega) hyk hTX
  have q1 : firstE X = 7 := by unfold firstE; rw [if_pos hfx, if_pos hffx]
  have q2 : firstV X = 0 := by unfold firstV; rw [if_pos hfx, hffx]; rfl
  rw [q1, q2] at eF
  have sjk : Sub All gj gk := AHeap.subOf ok
  have sgk := sgj.trans sjk
  have il1k := Cells.mono il1 sjk
  have hplk := Cells.mono hpl sgk
  have b9k := Cells.mono b9g sgk
  have tk := tg.mono sgk
  have vk' := vg.mono sgk
  have rk := rg.mono sgk
  have hXk := hXg.mono sgk
  have hCk : CouR gk cw S u := Cells.mono hCg sgk
  have hyk' := hyg.mono sgk
  obtain ⟨vl, sl, gl, el, hyl, ol, ul, ml, fl⟩ := beatL_c (n := n) (h := gk) (by omega) (by omega) (by omega) hXk hTX
  have skl : Sub All gk gl := AHeap.subOf ol
  obtain ⟨cw3, gm, em, hCm, om, um, mm, fm⟩ := courseL_c (n := n) (h := gl) (x := u 0) (by omega) (by omega) (by omega) (Cells.mono hCk skl) (by omega)
  have slm : Sub All gl gm := AHeap.subOf om
  obtain ⟨pr, hpr, ep⟩ := proveTruth_c (n := n) (h := gm) (x := u 0) (by omega) (by omega) (hyl.mono slm) hTX hCm (by omega)
  have hpr' : pr = true := hpr.2 ⟨hfx, hListed, fun k hk => by rw [hasU]; exact (truths_mem.1 huX).2 k hk⟩
  subst hpr'
  have skm := skl.trans slm
  have z07 : ¬ (7 : Int) = 0 := by decide
  simp only [rn0, rn1, rn2, rn3, rn4, rn5, rn6, rn7, rn8, if_true, if_false, Nat.le_refl, true_and, and_true, decide_true, decide_false, Bool.not_true, Bool.not_false, reduceIte, Nat.reduceEqDiff, Nat.reduceAdd, Nat.reduceMul, Nat.reduceSub, Nat.reduceLeDiff, Nat.reduceLT, tg.whole (n := 5) rfl, ei, ej, ex0, ex1, (tg.mono sgj).whole (n := 5) rfl, ek, eF]
  refine W_draw All ?_
  simp only [rn0, rn1, rn2, rn3, rn4, rn5, rn6, rn7, rn8, if_true, if_false, Nat.le_refl, true_and, and_true, decide_true, decide_false, Bool.not_true, Bool.not_false, reduceIte, Nat.reduceEqDiff, Nat.reduceAdd, Nat.reduceMul, Nat.reduceSub, Nat.reduceLeDiff, Nat.reduceLT, g_un, dg_un, d_guard, dg_tt, dg_tf, dg_ft, dg_ff, Cells.len il1k, List.length_nil, Int.natCast_zero, rk.ld, beg, Nat.zero_add, Cells.self hyk'.v, Cells.len hyk'.v, Cells.len b9k, Cells.len hplk, tk.whole (n := 5) rfl, vk'.whole (n := 2) rfl, hXk.self, co_self hCk, el, (vk'.mono skl).whole (n := 2) rfl, em, ep]
  first | refine ⟨⟨ul, skl⟩, um, ?_⟩ | refine ⟨ul, um, ?_⟩ | skip
  have s1 := sgk.trans skm
  have tm := tg.mono s1
  have vm := vg.mono s1
  have qm := qg.mono s1
  have hXm := hXg.mono s1
  have hCm' : CouR gm cw S u := Cells.mono hCg s1
  have b9m := Cells.mono b9g s1
  have plm := Cells.mono hpl s1
  have bm : gm.next ≤ h.next + 400000 ∧ gm.floor ≤ gm.next := by omega
  obtain ⟨bm1, bm2⟩ := bm
  clear s1 skm hpr ep em el hCm hyl hyk' hCk hXk rk vk' tk b9k hplk il1k sgk sjk eF ek hyk il1 sgj ej ei hyi hyg hCg hXg qg rg vg tg hpl eg ef hlf ee hCe ed hyd scg qc rc vc tc hXc hCc hyc hEc b9c oi oj ok ol om od oe of' og
  have haw := fun g => awake_c (n := n) (h := g) (by omega)
  have hwhen := fun v (hv : v < S.nv) => when_bound hG hui hv
  refine W_loop S.nv (fun i f g ms => (Sub All gm g ∧ gm.next ≤ g.next ∧ g.next ≤ gm.next + tN i ∧ g.floor = gm.floor) ∧ ms = [] ∧ f 11 = .pointer (some ⟨A7, 0, none⟩) ∧ f 12 = .pointer (some ⟨A8, 0, none⟩) ∧ f 14 = .int .i64 (H : Int) ∧ f 15 = r9 ∧ f 17 = .pointer (some ⟨A17, 0, none⟩) ∧ f 19 = pl ∧ f 25 = .int .i64 (lossTo S (whenS u) E i) ∧ f 26 = .int .i64 (i : Int)) (by simp; omega) ?_ ?_ ?_
  · simp only [rn0, rn1, rn2, rn3, rn4, rn5, rn6, rn7, rn8, if_true, if_false, Nat.le_refl, true_and, and_true, decide_true, decide_false, Bool.not_true, Bool.not_false, reduceIte, Nat.reduceEqDiff, Nat.reduceAdd, Nat.reduceMul, Nat.reduceSub, Nat.reduceLeDiff, Nat.reduceLT, Int.natCast_zero, lossTo]
    first | exact ⟨⟨Sub.refl, Nat.le_refl _, Nat.le_add_right _ _, rfl⟩, rfl⟩ | exact ⟨Sub.refl, Nat.le_refl _, Nat.le_add_right _ _, rfl⟩ | exact ⟨Nat.le_refl _, Nat.le_add_right _ _⟩ | exact Nat.le_add_right _ _
  · rintro i f g ms hi ⟨⟨sg, ug, mg, fg⟩, rfl, p11, p12, p14, p15, p17, p19, p25, p26⟩
    have hi' : (i : Int) < (S.nv : Int) := by omega
    have hwi : wrapF .i64 ((i : Int) + 1) = ((i + 1 : Nat) : Int) := by rw [wrap_in (by omega) (by omega)]; rfl
    have hbi := tN_le (i := i) (by omega)
    have hbs := tN_succ (i := i)
    have tg := tm.mono sg
    have vg := vm.mono sg
    have hXg := hXm.mono sg
    have hCg : CouR g cw S u := Cells.mono hCm' sg
    have b9g := Cells.mono b9m sg
    have plg := Cells.mono plm sg
    have ew := when_u (n := n) (h := g) (by omega) (by omega) hG hui hCg hi
    obtain ⟨va, sa, g8, e8, hy8, o8, u8, m8, f8⟩ := beatL_c (n := n) (h := g) (by omega) (by omega) (by omega) hXg hTX
    have s8 : Sub All g g8 := AHeap.subOf o8
    have e9 := doneV_c (n := n) (h := g8) (by omega) (by omega) hy8 hTX (i : Int) (H : Int)
    have hmo : MomOk X (i : Int) (H : Int) := ⟨⟨by omega, by omega⟩, by omega, by omega⟩
    rw [decide_eq_true hmo, errF_s, heX, if_pos rfl, Int.toNat_natCast] at e9
    have b98 := Cells.mono b9g s8
    have pl8 := Cells.mono plg s8
    have hin := in_c (n := n) (h := g8) (by omega) (verdV X i H) 1 3
    rw [decide_eq_true (verd_in (S := X) (v := i) (x := H))] at hin
    have c1 : ¬ whenS u i < bLo X i := by have := (le_loN hzx (val := fun t => whenS t i)).1 (Int.le_refl _) u huX; exact Int.not_lt.2 this
    have c2 : ¬ bHi X i < whenS u i := by have := (hiN_le hzx (val := fun t => whenS t i)).1 (Int.le_refl _) u huX; exact Int.not_lt.2 this
    have v1 : verdV X i H = 1 → ¬ (H : Int) < whenS u i := fun q => by have := verd_one.1 q; omega
    have v2 : verdV X i H = 2 → ¬ whenS u i ≤ (H : Int) := fun q => by have := (verd_two (bnd_le hzx)).1 q; omega
    have v3 : verdV X i H = 1 ∨ verdV X i H = 2 ∨ verdV X i H = 3 := by have := verd_in (S := X) (v := i) (x := (H : Int)); omega
    generalize verdV X i H = V at e9 hin v1 v2 v3
    have l0 := Cells.ld b98 hi (show 0 < 2 by omega)
    have l1 := Cells.ld b98 hi (show 1 < 2 by omega)
    simp only [if_true, Nat.reduceEqDiff, reduceIte] at l0 l1
    have lb1 := loss_bound (S := S) hG (d := whenS u) (e := E) i (by omega) fun v hv => ⟨hwhen v (by omega), by have := hok.1 v (by omega); omega⟩
    have lb2 := loss_bound (S := S) hG (d := whenS u) (e := E) (i + 1) (by omega) fun v hv => ⟨hwhen v (by omega), by have := hok.1 v (by omega); omega⟩
    have hwl : wrapF .i64 (lossTo S (whenS u) E i + lostS X i (whenS u i) (E i)) = lossTo S (whenS u) E (i + 1) := by
      rw [lostX]
      exact wrap_in (z := lossTo S (whenS u) E (i + 1)) (by omega) (by omega)
    have lp := Cells.ld pl8 hi Nat.zero_lt_one
    have fin := And.intro (sg.trans s8) (And.intro (by omega : gm.next ≤ g8.next) (And.intro (by omega : g8.next ≤ gm.next + tN (i + 1)) (by omega : g8.floor = gm.floor)))
    rcases v3 with rfl | rfl | rfl
    · have c3 := v1 rfl
      simp only [rn0, rn1, rn2, rn3, rn4, rn5, rn6, rn7, rn8, if_true, if_false, Nat.le_refl, true_and, and_true, decide_true, decide_false, Bool.not_true, Bool.not_false, reduceIte, Nat.reduceEqDiff, Nat.reduceAdd, Nat.reduceMul, Nat.reduceSub, Nat.reduceLeDiff, Nat.reduceLT, p11, p12, p14, p15, p17, p19, p25, p26, Cells.len b9g, hi', vg.whole (n := 2) rfl, ew, tg.whole (n := 5) rfl, e8, e9, ex0, ex1, g_un, Cells.idx b98 hi, Cells.fld b98 hi, l0, l1, c1, c2, gt_iff_lt, ge_iff_le, hin, c3, Int.reduceEq, Cells.idx pl8 hi, lp, hwl, hwi]
      first | exact fin | exact ⟨fin, rfl⟩
    · have c3 := v2 rfl
      simp only [rn0, rn1, rn2, rn3, rn4, rn5, rn6, rn7, rn8, if_true, if_false, Nat.le_refl, true_and, and_true, decide_true, decide_false, Bool.not_true, Bool.not_false, reduceIte, Nat.reduceEqDiff, Nat.reduceAdd, Nat.reduceMul, Nat.reduceSub, Nat.reduceLeDiff, Nat.reduceLT, p11, p12, p14, p15, p17, p19, p25, p26, Cells.len b9g, hi', vg.whole (n := 2) rfl, ew, tg.whole (n := 5) rfl, e8, e9, ex0, ex1, g_un, Cells.idx b98 hi, Cells.fld b98 hi, l0, l1, c1, c2, gt_iff_lt, ge_iff_le, hin, c3, Int.reduceEq, Cells.idx pl8 hi, lp, hwl, hwi]
      first | exact fin | exact ⟨fin, rfl⟩
    · simp only [rn0, rn1, rn2, rn3, rn4, rn5, rn6, rn7, rn8, if_true, if_false, Nat.le_refl, true_and, and_true, decide_true, decide_false, Bool.not_true, Bool.not_false, reduceIte, Nat.reduceEqDiff, Nat.reduceAdd, Nat.reduceMul, Nat.reduceSub, Nat.reduceLeDiff, Nat.reduceLT, p11, p12, p14, p15, p17, p19, p25, p26, Cells.len b9g, hi', vg.whole (n := 2) rfl, ew, tg.whole (n := 5) rfl, e8, e9, ex0, ex1, g_un, Cells.idx b98 hi, Cells.fld b98 hi, l0, l1, c1, c2, gt_iff_lt, ge_iff_le, hin, Int.reduceEq, Cells.idx pl8 hi, lp, hwl, hwi]
      first | exact fin | exact ⟨fin, rfl⟩
  · rintro f g ms ⟨⟨sg, ug, mg, fg⟩, rfl, p11, p12, p14, p15, p17, p19, p25, p26⟩
    have b9g := Cells.mono b9m sg
    have qg := qm.mono sg
    have hLa' : L0 ≤ lossTo S (whenS u) E S.nv := by rw [← xo]; exact hLa
    have hLb' : lossTo S (whenS u) E S.nv ≤ L1 := by rw [← xo]; exact hLb
    have haw := awake_c (n := n) (h := g) (by omega)
    simp only [rn0, rn1, rn2, rn3, rn4, rn5, rn6, rn7, rn8, if_true, if_false, Nat.le_refl, true_and, and_true, decide_true, decide_false, Bool.not_true, Bool.not_false, reduceIte, Nat.reduceEqDiff, Nat.reduceAdd, Nat.reduceMul, Nat.reduceSub, Nat.reduceLeDiff, Nat.reduceLT, p11, p12, p14, p15, p17, p19, p25, p26, Cells.len b9g, Int.lt_irrefl, qg.ld, Nat.zero_add, List.getElem?_cons_zero, List.getElem?_cons_succ, ge_iff_le, hLa', hLb', g_un, haw]
end Go.Vm.Bt
