/- Texts of the proofs of this seat, put together: VatV2, VatV3, VatV4, VatV5, VatV6, VatV7, VatIter, VatOpen, VatProve, VatPlays, VatLoad, VmATab, VmAMain, VmA0, VmA1, VmA2. -/
import Derived.Test.YtnibceeoejeimaaPk4
import Derived.Test.YtnibceeoejeimaaProg

namespace Go.Vm.Vat
open Go.Proofs
set_option linter.unusedSimpArgs false
set_option linter.unusedVariables false
set_option maxRecDepth 10000
variable {n : Nat} {h : AHeap}
def s81 : SCode := (.seq (.ops [⟨(some 4), none, .mov (.const (.bool false))⟩]) (.seq (.seq (.ops [⟨(some 7), none, .mov (T 0)⟩, ⟨(some 8), none, .len (T 7)⟩, ⟨(some 9), none, .mov (.const (.int .i64 (0)))⟩]) (.block 0 (.loop (.seq (.ops [⟨(some 10), none, .int2 .lss (T 9) (T 8)⟩]) (.seq (.cond (T 10) .skip (.exit 0)) (.seq (.block 1 (.seq (.ops [⟨(some 11), none, .idxSl 2 (T 7) (T 9)⟩, ⟨(some 12), none, .loadN 2 (T 11)⟩, ⟨(some 6), none, .alloc [(.int .i64 (0)), (.int .i64 (0))]⟩, ⟨none, none, .store 2 (T 6) (T 12)⟩]) (.seq (.ops [⟨(some 13), none, .mov (T 1)⟩, ⟨(some 14), none, .loadN 2 (T 6)⟩, ⟨(some 15), none, .call (T 13) [(T 14)]⟩, ⟨(some 16), none, .not (T 15)⟩]) (.cond (T 16) (.seq (.ops [⟨(some 4), none, .mov (.const (.bool false))⟩]) .ret) .skip)))) (.ops [⟨(some 17), none, .int2 .add (T 9) (.const (.int .i64 (1)))⟩, ⟨(some 9), none, .mov (T 17)⟩]))))))) (.seq (.ops [⟨(some 4), none, .mov (.const (.bool true))⟩]) .ret)))
theorem fok81 : FnOk Try.prog 81 18 s81 [.tmp 4] := ⟨Try.f81, _, Try.func81, rfl, Try.ntmps81, by kernel_rfl, by kernel_rfl⟩
open Classical in
theorem everyRange_c (hn : 10001 ≤ n) (hr : h.next + 60 < far) {v ok : Value} {m : Nat} {lo hi : Nat → Int} {p : Nat → Prop} (hv : Ranges h v m lo hi) (hm : m ≤ 30) (hok : Cond (n - 1) h.shutAll 40 ok m (fun i => .agg ⟨[.int .i64 (lo i), .int .i64 (hi i)]⟩) p) :
    call n (.func (.func 81) #[] #[]) [v, ok] h = some (.bool (decide (∀ i, i < m → p i)), h) := by
  obtain ⟨n, rfl⟩ : ∃ p, n = p + 1 := ⟨n - 1, by omega⟩
  refine call_plain0 fok81 rfl rfl (by simp) rfl ?_
  have hv := Cells.shut hv
  have hr : h.shutAll.next + 60 < far := hr
  have hfl : h.shutAll.floor ≤ h.shutAll.next := Nat.le_refl _
  rw [Nat.add_sub_cancel] at hok
  generalize h.shutAll = h at hv hok hr hfl
  simp only [rn0, rn1, rn2, rn3, rn4, rn5, rn6, rn7, rn8, if_true, if_false, Nat.le_refl, true_and, and_true, decide_true, decide_false, Bool.not_true, Bool.not_false, reduceIte, Nat.reduceEqDiff, Nat.reduceAdd, Nat.reduceMul, Nat.reduceSub, Nat.reduceLeDiff, Nat.reduceLT, s81, Cells.len hv]
  refine W_loop m (fun k f g m' => (Sub All h g ∧ g.next = h.next + k ∧ g.floor = h.floor) ∧ m' = [] ∧ f 1 = ok ∧ f 7 = v ∧ f 8 = .int .i64 (m : Int) ∧ f 9 = .int .i64 (k : Int) ∧ ∀ i, i < k → p i) (by simp; omega) ?_ ?_ ?_
  · simp only [rn0, rn1, rn2, rn3, rn4, rn5, rn6, rn7, rn8, if_true, if_false, Nat.le_refl, true_and, and_true, decide_true, decide_false, Bool.not_true, Bool.not_false, reduceIte, Nat.reduceEqDiff, Nat.reduceAdd, Nat.reduceMul, Nat.reduceSub, Nat.reduceLeDiff, Nat.reduceLT, Nat.not_lt_zero, false_implies, implies_true, Nat.add_zero]
    trivial
  · rintro k f g m' hk ⟨⟨g1, g2, g3⟩, rfl, f1, f7, f8, f9, hlt⟩
    have hk' : (k : Int) < (m : Int) := by omega
    have hw : wrapF .i64 ((k : Int) + 1) = ((k + 1 : Nat) : Int) := by rw [wrap_in (by omega) (by omega)]; rfl
    have hvg := Cells.mono hv g1
    simp only [rn0, rn1, rn2, rn3, rn4, rn5, rn6, rn7, rn8, if_true, if_false, Nat.le_refl, true_and, and_true, decide_true, decide_false, Bool.not_true, Bool.not_false, reduceIte, Nat.reduceEqDiff, Nat.reduceAdd, Nat.reduceMul, Nat.reduceSub, Nat.reduceLeDiff, Nat.reduceLT, f1, f7, f8, f9, hk', Cells.idx hvg hk, ranges_ld hvg hk]
    refine step_new (vs := [.int .i64 (lo k), .int .i64 (hi k)]) (by omega) (by omega) rfl (by simp only [rn0, rn1, rn2, rn3, rn4, rn5, rn6, rn7, rn8, if_true, if_false, Nat.le_refl, true_and, and_true, decide_true, decide_false, Bool.not_true, Bool.not_false, reduceIte, Nat.reduceEqDiff, Nat.reduceAdd, Nat.reduceMul, Nat.reduceSub, Nat.reduceLeDiff, Nat.reduceLT]; rfl) rfl rfl rfl fun g' hg' => ?_
    have hin : (Sub All h g' ∧ g'.next = h.next + (k + 1) ∧ g'.floor = h.floor) = True := eq_true ⟨g1.trans hg'.sub, by rw [hg'.next, g2]; omega, by rw [hg'.floor, g3]⟩
    obtain ⟨b, hb, e⟩ := hok g' (g1.trans hg'.sub) (by rw [hg'.next, g2]; omega) k hk
    cases b with
    | true =>
      have hp : p k := hb.1 rfl
      simp only [rn0, rn1, rn2, rn3, rn4, rn5, rn6, rn7, rn8, if_true, if_false, Nat.le_refl, true_and, and_true, decide_true, decide_false, Bool.not_true, Bool.not_false, reduceIte, Nat.reduceEqDiff, Nat.reduceAdd, Nat.reduceMul, Nat.reduceSub, Nat.reduceLeDiff, Nat.reduceLT, f1, f7, f8, f9, hg'.ldN 0 2 (by simp) (by simp), List.drop_zero, List.take_succ_cons, List.take_zero, e, hw, hin]
      intro j hj
      by_cases ej : j = k
      · subst ej; exact hp
      · exact hlt j (by omega)
    | false =>
      have hp : ¬ ∀ i, i < m → p i := fun h => by have := hb.2 (h k hk); cases this
      simp only [rn0, rn1, rn2, rn3, rn4, rn5, rn6, rn7, rn8, if_true, if_false, Nat.le_refl, true_and, and_true, decide_true, decide_false, Bool.not_true, Bool.not_false, reduceIte, Nat.reduceEqDiff, Nat.reduceAdd, Nat.reduceMul, Nat.reduceSub, Nat.reduceLeDiff, Nat.reduceLT, f1, f7, f8, f9, hg'.ldN 0 2 (by simp) (by simp), List.drop_zero, List.take_succ_cons, List.take_zero, e, hw, hp]
  · rintro f g m' ⟨⟨g1, g2, g3⟩, rfl, f1, f7, f8, f9, hlt⟩
    simp only [rn0, rn1, rn2, rn3, rn4, rn5, rn6, rn7, rn8, if_true, if_false, Nat.le_refl, true_and, and_true, decide_true, decide_false, Bool.not_true, Bool.not_false, reduceIte, Nat.reduceEqDiff, Nat.reduceAdd, Nat.reduceMul, Nat.reduceSub, Nat.reduceLeDiff, Nat.reduceLT, f1, f7, f8, f9, Int.lt_irrefl, eq_true hlt]
def s85 : SCode := (.seq (.ops [⟨(some 4), none, .mov (.const (.bool false))⟩]) (.seq (.seq (.ops [⟨(some 7), none, .mov (T 0)⟩, ⟨(some 8), none, .len (T 7)⟩, ⟨(some 9), none, .mov (.const (.int .i64 (0)))⟩]) (.block 0 (.loop (.seq (.ops [⟨(some 10), none, .int2 .lss (T 9) (T 8)⟩]) (.seq (.cond (T 10) .skip (.exit 0)) (.seq (.block 1 (.seq (.ops [⟨(some 11), none, .idxSl 3 (T 7) (T 9)⟩, ⟨(some 12), none, .loadN 3 (T 11)⟩, ⟨(some 6), none, .alloc [(.int .i64 (0)), (.int .i64 (0)), (.int .i64 (0))]⟩, ⟨none, none, .store 3 (T 6) (T 12)⟩]) (.seq (.ops [⟨(some 13), none, .mov (T 1)⟩, ⟨(some 14), none, .loadN 3 (T 6)⟩, ⟨(some 15), none, .call (T 13) [(T 14)]⟩, ⟨(some 16), none, .not (T 15)⟩]) (.cond (T 16) (.seq (.ops [⟨(some 4), none, .mov (.const (.bool false))⟩]) .ret) .skip)))) (.ops [⟨(some 17), none, .int2 .add (T 9) (.const (.int .i64 (1)))⟩, ⟨(some 9), none, .mov (T 17)⟩]))))))) (.seq (.ops [⟨(some 4), none, .mov (.const (.bool true))⟩]) .ret)))
theorem fok85 : FnOk Try.prog 85 18 s85 [.tmp 4] := ⟨Try.f85, _, Try.func85, rfl, Try.ntmps85, by kernel_rfl, by kernel_rfl⟩
open Classical in
theorem everySamp_c (hn : 10001 ≤ n) (hr : h.next + 60 < far) {v ok : Value} {m : Nat} {at_ lo hi : Nat → Int} {p : Nat → Prop} (hv : Samps h v m at_ lo hi) (hm : m ≤ 30) (hok : Cond (n - 1) h.shutAll 40 ok m (fun i => .agg ⟨[.int .i64 (at_ i), .int .i64 (lo i), .int .i64 (hi i)]⟩) p) :
    call n (.func (.func 85) #[] #[]) [v, ok] h = some (.bool (decide (∀ i, i < m → p i)), h) := by
  obtain ⟨n, rfl⟩ : ∃ p, n = p + 1 := ⟨n - 1, by omega⟩
  refine call_plain0 fok85 rfl rfl (by simp) rfl ?_
  have hv := Cells.shut hv
  have hr : h.shutAll.next + 60 < far := hr
  have hfl : h.shutAll.floor ≤ h.shutAll.next := Nat.le_refl _
  rw [Nat.add_sub_cancel] at hok
  generalize h.shutAll = h at hv hok hr hfl
  simp only [rn0, rn1, rn2, rn3, rn4, rn5, rn6, rn7, rn8, if_true, if_false, Nat.le_refl, true_and, and_true, decide_true, decide_false, Bool.not_true, Bool.not_false, reduceIte, Nat.reduceEqDiff, Nat.reduceAdd, Nat.reduceMul, Nat.reduceSub, Nat.reduceLeDiff, Nat.reduceLT, s85, Cells.len hv]
  refine W_loop m (fun k f g m' => (Sub All h g ∧ g.next = h.next + k ∧ g.floor = h.floor) ∧ m' = [] ∧ f 1 = ok ∧ f 7 = v ∧ f 8 = .int .i64 (m : Int) ∧ f 9 = .int .i64 (k : Int) ∧ ∀ i, i < k → p i) (by simp; omega) ?_ ?_ ?_
  · simp only [rn0, rn1, rn2, rn3, rn4, rn5, rn6, rn7, rn8, if_true, if_false, Nat.le_refl, true_and, and_true, decide_true, decide_false, Bool.not_true, Bool.not_false, reduceIte, Nat.reduceEqDiff, Nat.reduceAdd, Nat.reduceMul, Nat.reduceSub, Nat.reduceLeDiff, Nat.reduceLT, Nat.not_lt_zero, false_implies, implies_true, Nat.add_zero]
    trivial
  · rintro k f g m' hk ⟨⟨g1, g2, g3⟩, rfl, f1, f7, f8, f9, hlt⟩
    have hk' : (k : Int) < (m : Int) := by omega
    have hw : wrapF .i64 ((k : Int) + 1) = ((k + 1 : Nat) : Int) := by rw [wrap_in (by omega) (by omega)]; rfl
    have hvg := Cells.mono hv g1
    simp only [rn0, rn1, rn2, rn3, rn4, rn5, rn6, rn7, rn8, if_true, if_false, Nat.le_refl, true_and, and_true, decide_true, decide_false, Bool.not_true, Bool.not_false, reduceIte, Nat.reduceEqDiff, Nat.reduceAdd, Nat.reduceMul, Nat.reduceSub, Nat.reduceLeDiff, Nat.reduceLT, f1, f7, f8, f9, hk', Cells.idx hvg hk, samps_ld hvg hk]
    refine step_new (vs := [.int .i64 (at_ k), .int .i64 (lo k), .int .i64 (hi k)]) (by omega) (by omega) rfl (by simp only [rn0, rn1, rn2, rn3, rn4, rn5, rn6, rn7, rn8, if_true, if_false, Nat.le_refl, true_and, and_true, decide_true, decide_false, Bool.not_true, Bool.not_false, reduceIte, Nat.reduceEqDiff, Nat.reduceAdd, Nat.reduceMul, Nat.reduceSub, Nat.reduceLeDiff, Nat.reduceLT]; rfl) rfl rfl rfl fun g' hg' => ?_
    have hin : (Sub All h g' ∧ g'.next = h.next + (k + 1) ∧ g'.floor = h.floor) = True := eq_true ⟨g1.trans hg'.sub, by rw [hg'.next, g2]; omega, by rw [hg'.floor, g3]⟩
    obtain ⟨b, hb, e⟩ := hok g' (g1.trans hg'.sub) (by rw [hg'.next, g2]; omega) k hk
    cases b with
    | true =>
      have hp : p k := hb.1 rfl
      simp only [rn0, rn1, rn2, rn3, rn4, rn5, rn6, rn7, rn8, if_true, if_false, Nat.le_refl, true_and, and_true, decide_true, decide_false, Bool.not_true, Bool.not_false, reduceIte, Nat.reduceEqDiff, Nat.reduceAdd, Nat.reduceMul, Nat.reduceSub, Nat.reduceLeDiff, Nat.reduceLT, f1, f7, f8, f9, hg'.ldN 0 3 (by simp) (by simp), List.drop_zero, List.take_succ_cons, List.take_zero, e, hw, hin]
      intro j hj
      by_cases ej : j = k
      · subst ej; exact hp
      · exact hlt j (by omega)
    | false =>
      have hp : ¬ ∀ i, i < m → p i := fun h => by have := hb.2 (h k hk); cases this
      simp only [rn0, rn1, rn2, rn3, rn4, rn5, rn6, rn7, rn8, if_true, if_false, Nat.le_refl, true_and, and_true, decide_true, decide_false, Bool.not_true, Bool.not_false, reduceIte, Nat.reduceEqDiff, Nat.reduceAdd, Nat.reduceMul, Nat.reduceSub, Nat.reduceLeDiff, Nat.reduceLT, f1, f7, f8, f9, hg'.ldN 0 3 (by simp) (by simp), List.drop_zero, List.take_succ_cons, List.take_zero, e, hw, hp]
  · rintro f g m' ⟨⟨g1, g2, g3⟩, rfl, f1, f7, f8, f9, hlt⟩
    simp only [rn0, rn1, rn2, rn3, rn4, rn5, rn6, rn7, rn8, if_true, if_false, Nat.le_refl, true_and, and_true, decide_true, decide_false, Bool.not_true, Bool.not_false, reduceIte, Nat.reduceEqDiff, Nat.reduceAdd, Nat.reduceMul, Nat.reduceSub, Nat.reduceLeDiff, Nat.reduceLT, f1, f7, f8, f9, Int.lt_irrefl, eq_true hlt]
def s83 : SCode := (.seq (.ops [⟨(some 4), none, .mov (.const (.bool false))⟩]) (.seq (.seq (.ops [⟨(some 7), none, .mov (T 0)⟩, ⟨(some 8), none, .len (T 7)⟩, ⟨(some 9), none, .mov (.const (.int .i64 (0)))⟩]) (.block 0 (.loop (.seq (.ops [⟨(some 10), none, .int2 .lss (T 9) (T 8)⟩]) (.seq (.cond (T 10) .skip (.exit 0)) (.seq (.block 1 (.seq (.ops [⟨(some 11), none, .idxSl 1 (T 7) (T 9)⟩, ⟨(some 12), none, .load1 (T 11)⟩, ⟨(some 6), none, .mov (T 12)⟩]) (.seq (.ops [⟨(some 13), none, .mov (T 1)⟩, ⟨(some 14), none, .mov (T 6)⟩, ⟨(some 15), none, .call (T 13) [(T 14)]⟩, ⟨(some 16), none, .not (T 15)⟩]) (.cond (T 16) (.seq (.ops [⟨(some 4), none, .mov (.const (.bool false))⟩]) .ret) .skip)))) (.ops [⟨(some 17), none, .int2 .add (T 9) (.const (.int .i64 (1)))⟩, ⟨(some 9), none, .mov (T 17)⟩]))))))) (.seq (.ops [⟨(some 4), none, .mov (.const (.bool true))⟩]) .ret)))
theorem fok83 : FnOk Try.prog 83 18 s83 [.tmp 4] := ⟨Try.f83, _, Try.func83, rfl, Try.ntmps83, by kernel_rfl, by kernel_rfl⟩
open Classical in
theorem everyRows_c (hn : 10001 ≤ n) {v ok : Value} {m : Nat} {r : Nat → Value} {p : Nat → Prop} (hv : Cells h v 1 m fun k _ => r k) (hm : m ≤ 9000) (hok : Cond (n - 1) h.shutAll 0 ok m r p) :
    call n (.func (.func 83) #[] #[]) [v, ok] h = some (.bool (decide (∀ i, i < m → p i)), h) := by
  obtain ⟨n, rfl⟩ : ∃ p, n = p + 1 := ⟨n - 1, by omega⟩
  refine call_plain0 fok83 rfl rfl (by simp) rfl ?_
  have hv := Cells.shut hv
  rw [Nat.add_sub_cancel] at hok
  generalize h.shutAll = h at hv hok
  simp only [rn0, rn1, rn2, rn3, rn4, rn5, rn6, rn7, rn8, if_true, if_false, Nat.le_refl, true_and, and_true, decide_true, decide_false, Bool.not_true, Bool.not_false, reduceIte, Nat.reduceEqDiff, Nat.reduceAdd, Nat.reduceMul, Nat.reduceSub, Nat.reduceLeDiff, Nat.reduceLT, s83, hv.len]
  refine W_loop m (fun k f g m' => g = h ∧ m' = [] ∧ f 1 = ok ∧ f 7 = v ∧ f 8 = .int .i64 (m : Int) ∧ f 9 = .int .i64 (k : Int) ∧ ∀ i, i < k → p i) (by simp; omega) ?_ ?_ ?_
  · simp only [rn0, rn1, rn2, rn3, rn4, rn5, rn6, rn7, rn8, if_true, if_false, Nat.le_refl, true_and, and_true, decide_true, decide_false, Bool.not_true, Bool.not_false, reduceIte, Nat.reduceEqDiff, Nat.reduceAdd, Nat.reduceMul, Nat.reduceSub, Nat.reduceLeDiff, Nat.reduceLT, Nat.not_lt_zero, false_implies, implies_true]
    trivial
  · rintro k f g m' hk ⟨rfl, rfl, f1, f7, f8, f9, hlt⟩
    have hk' : (k : Int) < (m : Int) := by omega
    have hw : wrapF .i64 ((k : Int) + 1) = ((k + 1 : Nat) : Int) := by rw [wrap_in (by omega) (by omega)]; rfl
    obtain ⟨b, hb, e⟩ := hok g Sub.refl (by omega) k hk
    cases b with
    | true =>
      have hp : p k := hb.1 rfl
      simp only [rn0, rn1, rn2, rn3, rn4, rn5, rn6, rn7, rn8, if_true, if_false, Nat.le_refl, true_and, and_true, decide_true, decide_false, Bool.not_true, Bool.not_false, reduceIte, Nat.reduceEqDiff, Nat.reduceAdd, Nat.reduceMul, Nat.reduceSub, Nat.reduceLeDiff, Nat.reduceLT, f1, f7, f8, f9, hk', hv.idx hk, hv.ld hk Nat.zero_lt_one, e, hw]
      intro j hj
      by_cases ej : j = k
      · subst ej; exact hp
      · exact hlt j (by omega)
    | false =>
      have hp : ¬ ∀ i, i < m → p i := fun h => by have := hb.2 (h k hk); cases this
      simp only [rn0, rn1, rn2, rn3, rn4, rn5, rn6, rn7, rn8, if_true, if_false, Nat.le_refl, true_and, and_true, decide_true, decide_false, Bool.not_true, Bool.not_false, reduceIte, Nat.reduceEqDiff, Nat.reduceAdd, Nat.reduceMul, Nat.reduceSub, Nat.reduceLeDiff, Nat.reduceLT, f1, f7, f8, f9, hk', hv.idx hk, hv.ld hk Nat.zero_lt_one, e, hw, hp]
  · rintro f g m' ⟨rfl, rfl, f1, f7, f8, f9, hlt⟩
    simp only [rn0, rn1, rn2, rn3, rn4, rn5, rn6, rn7, rn8, if_true, if_false, Nat.le_refl, true_and, and_true, decide_true, decide_false, Bool.not_true, Bool.not_false, reduceIte, Nat.reduceEqDiff, Nat.reduceAdd, Nat.reduceMul, Nat.reduceSub, Nat.reduceLeDiff, Nat.reduceLT, f1, f7, f8, f9, Int.lt_irrefl, eq_true hlt]
def s92 : SCode := (.seq (.ops [⟨(some 2), none, .box (T 0)⟩, ⟨(some 4), none, .mov (.const (.bool false))⟩]) (.seq (.ops [⟨(some 5), none, .mov (T 1)⟩, ⟨(some 6), none, .int2 .leq (.const (.int .i64 (0))) (T 5)⟩, ⟨(some 7), none, .mov (T 6)⟩, ⟨(some 8), (some (7, true)), .mov (T 1)⟩, ⟨(some 9), (some (7, true)), .fieldAddr 0 (T 2)⟩, ⟨(some 10), (some (7, true)), .fieldAddr 1 (T 9)⟩, ⟨(some 11), (some (7, true)), .load1 (T 10)⟩, ⟨(some 12), (some (7, true)), .len (T 11)⟩, ⟨(some 13), (some (7, true)), .int2 .lss (T 8) (T 12)⟩, ⟨(some 14), none, .pick (T 7) (T 13) (.const (.bool false))⟩, ⟨(some 4), none, .mov (T 14)⟩]) .ret))
theorem fok92 : FnOk Try.prog 92 15 s92 [.tmp 4] := ⟨Try.f92, _, Try.func92, rfl, Try.ntmps92, by kernel_rfl, by kernel_rfl⟩
theorem hasVat_c (hn : 1 ≤ n) (hr : h.next < far) {F V S T : Value} {m : Nat} {c : Nat → Nat → Value} (hv : Cells h V 1 m c) (h1 : allB oneCell [F, V, S, T] = true) (at_ : Int) :
    call n (.func (.func 92) #[] #[]) [.agg ⟨[F, V, S, T]⟩, .int .i64 at_] h = some (.bool (decide (0 ≤ at_ ∧ at_ ≤ (m : Int) - 1)), h) := by
  obtain ⟨n, rfl⟩ : ∃ p, n = p + 1 := ⟨n - 1, by omega⟩
  refine call_plain0 fok92 rfl rfl (by simp) rfl ?_
  have hv := Cells.shut hv
  have hr : h.shutAll.next < far := hr
  generalize h.shutAll = h at hv hr
  simp only [s92, W_seq, W_ops]
  refine ops_box (cs := [F, V, S, T]) hr rfl h1 fun h1 hx => ?_
  have hv := Cells.mono hv hx.sub
  have e : (at_ < (m : Int)) = (at_ ≤ (m : Int) - 1) := by simp only [eq_iff_iff]; omega
  by_cases c1 : 0 ≤ at_ <;> by_cases c2 : at_ ≤ (m : Int) - 1 <;> simp only [rn0, rn1, rn2, rn3, rn4, rn5, rn6, rn7, rn8, if_true, if_false, Nat.le_refl, true_and, and_true, decide_true, decide_false, Bool.not_true, Bool.not_false, reduceIte, Nat.reduceEqDiff, Nat.reduceAdd, Nat.reduceMul, Nat.reduceSub, Nat.reduceLeDiff, Nat.reduceLT, hx.ld, Nat.zero_add, List.getElem?_cons_zero, List.getElem?_cons_succ, Cells.len hv, e, c1, c2, and_self, and_false, false_and]
def s84 : SCode := (.seq (.ops [⟨(some 2), none, .box (T 0)⟩, ⟨(some 4), none, .mov (.const (.bool false))⟩]) (.seq (.ops [⟨(some 5), none, .mov (T 1)⟩, ⟨(some 6), none, .len (T 5)⟩, ⟨(some 7), none, .fieldAddr 0 (T 2)⟩, ⟨(some 8), none, .fieldAddr 0 (T 7)⟩, ⟨(some 9), none, .load1 (T 8)⟩, ⟨(some 10), none, .len (T 9)⟩, ⟨(some 11), none, .int2 .eql (T 6) (T 10)⟩, ⟨(some 12), none, .mov (T 11)⟩, ⟨(some 13), (some (12, true)), .mov (T 1)⟩, ⟨(some 14), (some (12, true)), .call (.func 103) [(T 13), (.func 118)]⟩, ⟨(some 15), none, .pick (T 12) (T 14) (.const (.bool false))⟩, ⟨(some 4), none, .mov (T 15)⟩]) .ret))
theorem fok84 : FnOk Try.prog 84 16 s84 [.tmp 4] := ⟨Try.f84, _, Try.func84, rfl, Try.ntmps84, by kernel_rfl, by kernel_rfl⟩
theorem isVat_c (hn : 10002 ≤ n) (hr : h.next + 1 < far) {F V S T v : Value} {nf m : Nat} {c : Nat → Nat → Value} {a : Nat → Int} (hF : Cells h F 2 nf c) (h1 : allB oneCell [F, V, S, T] = true) (hv : Ints h v m a) (hm : m ≤ 9000) :
    ∃ b, (b = true ↔ m = nf ∧ ∀ i, i < m → 0 ≤ a i ∧ a i ≤ 9) ∧ call n (.func (.func 84) ⟨[.agg ⟨[F, V, S, T]⟩]⟩ #[]) [v] h = some (.bool b, h) := by
  classical
  refine ⟨decide (m = nf ∧ ∀ i, i < m → 0 ≤ a i ∧ a i ≤ 9), by simp, ?_⟩
  obtain ⟨n, rfl⟩ : ∃ p, n = p + 1 := ⟨n - 1, by omega⟩
  refine call_plain (xs := [.agg ⟨[F, V, S, T]⟩]) (ys := []) fok84 rfl rfl (by simp) rfl ?_
  have hv := Cells.shut hv
  have hF := Cells.shut hF
  have hr : h.shutAll.next + 1 < far := hr
  generalize h.shutAll = h at hv hr hF
  simp only [s84, List.cons_append, List.nil_append, List.append_nil, W_seq, W_ops]
  refine ops_box (cs := [F, V, S, T]) (by omega) rfl h1 fun h1 hx => ?_
  have hv := Cells.mono hv hx.sub
  have hF := Cells.mono hF hx.sub
  by_cases c1 : m = nf
  · have c1' : (m : Int) = nf := by omega
    have he := everyInt_c (n := n) (h := h1) (ok := .func (.func 118) #[] #[]) (p := fun i => 0 ≤ a i ∧ a i ≤ 9) (by omega) hv hm fun g _ _ i hi => ⟨decide (0 ≤ a i ∧ a i ≤ 9), by simp, isBundles_c (by omega) (a i)⟩
    simp only [rn0, rn1, rn2, rn3, rn4, rn5, rn6, rn7, rn8, if_true, if_false, Nat.le_refl, true_and, and_true, decide_true, decide_false, Bool.not_true, Bool.not_false, reduceIte, Nat.reduceEqDiff, Nat.reduceAdd, Nat.reduceMul, Nat.reduceSub, Nat.reduceLeDiff, Nat.reduceLT, hx.ld, Nat.zero_add, List.getElem?_cons_zero, List.getElem?_cons_succ, Cells.len hv, Cells.len hF, c1', he, c1]
  · have c1' : ¬ (m : Int) = nf := by omega
    simp only [rn0, rn1, rn2, rn3, rn4, rn5, rn6, rn7, rn8, if_true, if_false, Nat.le_refl, true_and, and_true, decide_true, decide_false, Bool.not_true, Bool.not_false, reduceIte, Nat.reduceEqDiff, Nat.reduceAdd, Nat.reduceMul, Nat.reduceSub, Nat.reduceLeDiff, Nat.reduceLT, hx.ld, Nat.zero_add, List.getElem?_cons_zero, List.getElem?_cons_succ, Cells.len hv, Cells.len hF, c1', c1, false_and]
def s86 : SCode := (.seq (.ops [⟨(some 2), none, .box (T 0)⟩, ⟨(some 3), none, .box (T 1)⟩, ⟨(some 4), none, .mov (.const (.bool false))⟩]) (.seq (.ops [⟨(some 5), none, .loadN 4 (T 2)⟩, ⟨(some 6), none, .fieldAddr 0 (T 3)⟩, ⟨(some 7), none, .load1 (T 6)⟩, ⟨(some 8), none, .call (.func 92) [(T 5), (T 7)]⟩, ⟨(some 9), none, .mov (T 8)⟩, ⟨(some 10), (some (9, true)), .fieldAddr 1 (T 3)⟩, ⟨(some 11), (some (9, true)), .loadN 2 (T 10)⟩, ⟨(some 12), (some (9, true)), .call (.func 117) [(T 11), (.const (.int .i64 (999)))]⟩, ⟨(some 13), none, .pick (T 9) (T 12) (.const (.bool false))⟩, ⟨(some 4), none, .mov (T 13)⟩]) .ret))
theorem fok86 : FnOk Try.prog 86 14 s86 [.tmp 4] := ⟨Try.f86, _, Try.func86, rfl, Try.ntmps86, by kernel_rfl, by kernel_rfl⟩
theorem isSample_c (hn : 2 ≤ n) (hr : h.next + 3 < far) {F V S T : Value} {m : Nat} {c : Nat → Nat → Value} (hv : Cells h V 1 m c) (h1 : allB oneCell [F, V, S, T] = true) (at_ lo hi : Int) :
    ∃ b, (b = true ↔ (0 ≤ at_ ∧ at_ ≤ (m : Int) - 1) ∧ 0 ≤ lo ∧ lo ≤ hi ∧ hi ≤ 999) ∧ call n (.func (.func 86) ⟨[.agg ⟨[F, V, S, T]⟩]⟩ #[]) [.agg ⟨[.int .i64 at_, .int .i64 lo, .int .i64 hi]⟩] h = some (.bool b, h) := by
  classical
  refine ⟨decide ((0 ≤ at_ ∧ at_ ≤ (m : Int) - 1) ∧ 0 ≤ lo ∧ lo ≤ hi ∧ hi ≤ 999), by simp, ?_⟩
  obtain ⟨n, rfl⟩ : ∃ p, n = p + 1 := ⟨n - 1, by omega⟩
  refine call_plain (xs := [.agg ⟨[F, V, S, T]⟩]) (ys := []) fok86 rfl rfl (by simp) rfl ?_
  have hv := Cells.shut hv
  have hr : h.shutAll.next + 3 < far := hr
  generalize h.shutAll = h at hv hr
  simp only [s86, List.cons_append, List.nil_append, List.append_nil, W_seq, W_ops]
  refine ops_box (cs := [F, V, S, T]) (by omega) rfl h1 fun g1 hx => ?_
  refine ops_box (cs := [.int .i64 at_, .int .i64 lo, .int .i64 hi]) (by rw [hx.next]; omega) rfl rfl fun g2 hx2 => ?_
  have hr2 : g2.next < far := by rw [hx2.next, hx.next]; omega
  have hv := Cells.mono (Cells.mono hv hx.sub) hx2.sub
  have hrow := hx.row.mono hx2.sub
  by_cases c1 : 0 ≤ at_ ∧ at_ ≤ (m : Int) - 1 <;> simp only [rn0, rn1, rn2, rn3, rn4, rn5, rn6, rn7, rn8, if_true, if_false, Nat.le_refl, true_and, and_true, decide_true, decide_false, Bool.not_true, Bool.not_false, reduceIte, Nat.reduceEqDiff, Nat.reduceAdd, Nat.reduceMul, Nat.reduceSub, Nat.reduceLeDiff, Nat.reduceLT, hrow.ldN 0 4 (by simp) (by simp), hx2.ld, hx2.ldN 1 2 (by simp) (by simp), List.drop_succ_cons, List.drop_zero, List.take_succ_cons, List.take_zero, Nat.zero_add, List.getElem?_cons_zero, List.getElem?_cons_succ, hasVat_c (n := n) (by omega) hr2 hv h1, isUpTo_c (n := n) (by omega) hr2, c1, false_and]
/-- how many blues there are -/
def sizeN (lo hi : Nat → Int) : Nat → Int
  | 0 => 1
  | i + 1 => sizeN lo hi i * (hi i - lo i + 1)
theorem sizeN_bound {lo hi : Nat → Int} {m : Nat} (hm : m ≤ 5) (hv : ∀ k, k < m → 0 ≤ lo k ∧ lo k ≤ hi k ∧ hi k ≤ 20) : ∀ i, i ≤ m → 1 ≤ sizeN lo hi i ∧ sizeN lo hi i ≤ 21 ^ i := by
  intro i
  induction i with
  | zero => intro _; simp [sizeN]
  | succ i ih =>
    intro hi'
    obtain ⟨h1, h2⟩ := ih (by omega)
    obtain ⟨h3, h4, h5⟩ := hv i (by omega)
    have h6 : 1 * 1 ≤ sizeN lo hi i * (hi i - lo i + 1) := Int.mul_le_mul h1 (by omega) (by omega) (by omega)
    have h7 : sizeN lo hi i * (hi i - lo i + 1) ≤ 21 ^ i * 21 := Int.mul_le_mul h2 (by omega) (by omega) (by omega)
    simp only [sizeN]
    exact ⟨by omega, by rw [Int.pow_succ]; exact h7⟩
theorem sizeN_many {lo hi : Nat → Int} {m : Nat} (hm : m ≤ 5) (hv : ∀ k, k < m → 0 ≤ lo k ∧ lo k ≤ hi k ∧ hi k ≤ 20) : ∀ i, i ≤ m → manyN lo hi i = min 3000 (sizeN lo hi i) := by
  intro i
  induction i with
  | zero => intro _; rfl
  | succ i ih =>
    intro hi'
    have := ih (by omega)
    obtain ⟨h1, _⟩ := sizeN_bound hm hv i (by omega)
    obtain ⟨h3, h4, h5⟩ := hv i (by omega)
    simp only [sizeN, manyN, this]
    by_cases hb : sizeN lo hi i ≤ 3000
    · rw [Int.min_eq_right hb]
    · rw [Int.min_eq_left (show (3000 : Int) ≤ sizeN lo hi i by omega)]
      have h6 : 3000 * 1 ≤ 3000 * (hi i - lo i + 1) := Int.mul_le_mul (by omega) (by omega) (by omega) (by omega)
      have h7 : 3000 * 1 ≤ sizeN lo hi i * (hi i - lo i + 1) := Int.mul_le_mul (by omega) (by omega) (by omega) (by omega)
      omega
end Go.Vm.Vat

namespace Go.Vm.Vat
open Go.Proofs
set_option linter.unusedSimpArgs false
set_option linter.unusedVariables false
set_option maxRecDepth 10000
variable {n : Nat} {h : AHeap}
def s87 : SCode := (.seq (.ops [⟨(some 1), none, .box (T 0)⟩, ⟨(some 2), none, .mov (.const (.int .i64 (0)))⟩]) (.seq (.ops [⟨(some 3), none, .mov (.const (.int .i64 (1)))⟩]) (.seq (.seq (.ops [⟨(some 6), none, .fieldAddr 0 (T 1)⟩, ⟨(some 7), none, .fieldAddr 0 (T 6)⟩, ⟨(some 8), none, .load1 (T 7)⟩, ⟨(some 9), none, .len (T 8)⟩, ⟨(some 10), none, .mov (.const (.int .i64 (0)))⟩]) (.block 0 (.loop (.seq (.ops [⟨(some 11), none, .int2 .lss (T 10) (T 9)⟩]) (.seq (.cond (T 11) .skip (.exit 0)) (.seq (.block 1 (.seq (.ops [⟨(some 12), none, .idxSl 2 (T 8) (T 10)⟩, ⟨(some 13), none, .loadN 2 (T 12)⟩, ⟨(some 5), none, .alloc [(.int .i64 (0)), (.int .i64 (0))]⟩, ⟨none, none, .store 2 (T 5) (T 13)⟩]) (.ops [⟨(some 14), none, .mov (T 3)⟩, ⟨(some 15), none, .fieldAddr 1 (T 5)⟩, ⟨(some 16), none, .load1 (T 15)⟩, ⟨(some 17), none, .fieldAddr 0 (T 5)⟩, ⟨(some 18), none, .load1 (T 17)⟩, ⟨(some 19), none, .int2 .sub (T 16) (T 18)⟩, ⟨(some 20), none, .int2 .add (T 19) (.const (.int .i64 (1)))⟩, ⟨(some 21), none, .int2 .mul (T 14) (T 20)⟩, ⟨(some 3), none, .mov (T 21)⟩]))) (.ops [⟨(some 22), none, .int2 .add (T 10) (.const (.int .i64 (1)))⟩, ⟨(some 10), none, .mov (T 22)⟩]))))))) (.seq (.ops [⟨(some 23), none, .mov (T 3)⟩, ⟨(some 2), none, .mov (T 23)⟩]) .ret))))
theorem fok87 : FnOk Try.prog 87 24 s87 [.tmp 2] := ⟨Try.f87, _, Try.func87, rfl, Try.ntmps87, by kernel_rfl, by kernel_rfl⟩
theorem size4_c (hn : 10001 ≤ n) (hr : h.next + 10 < far) {F V S T : Value} {m : Nat} {lo hi : Nat → Int} (hF : Ranges h F m lo hi) (h1 : allB oneCell [F, V, S, T] = true) (hm : m ≤ 5) (hv : ∀ k, k < m → 0 ≤ lo k ∧ lo k ≤ hi k ∧ hi k ≤ 20) :
    call n (.func (.func 87) #[] #[]) [.agg ⟨[F, V, S, T]⟩] h = some (.int .i64 (sizeN lo hi m), h) := by
  obtain ⟨n, rfl⟩ : ∃ p, n = p + 1 := ⟨n - 1, by omega⟩
  refine call_plain0 fok87 rfl rfl (by simp) rfl ?_
  have hF := Cells.shut hF
  have hr : h.shutAll.next + 10 < far := hr
  have hfl : h.shutAll.floor ≤ h.shutAll.next := Nat.le_refl _
  generalize h.shutAll = h at hF hr hfl
  simp only [s87, W_seq, W_ops]
  refine ops_box (cs := [F, V, S, T]) (by omega) rfl h1 fun h1 hx => ?_
  have hF := Cells.mono hF hx.sub
  have hn1 := hx.next
  have hf1 := hx.floor
  simp only [rn0, rn1, rn2, rn3, rn4, rn5, rn6, rn7, rn8, if_true, if_false, Nat.le_refl, true_and, and_true, decide_true, decide_false, Bool.not_true, Bool.not_false, reduceIte, Nat.reduceEqDiff, Nat.reduceAdd, Nat.reduceMul, Nat.reduceSub, Nat.reduceLeDiff, Nat.reduceLT, hx.ld, Nat.zero_add, List.getElem?_cons_zero, List.getElem?_cons_succ, Cells.len hF]
  refine W_loop m (fun k f g m' => (Sub All h1 g ∧ g.next = h1.next + k ∧ g.floor = h1.floor) ∧ m' = [] ∧ f 3 = .int .i64 (sizeN lo hi k) ∧ f 8 = F ∧ f 9 = .int .i64 (m : Int) ∧ f 10 = .int .i64 (k : Int)) (by simp; omega) ?_ ?_ ?_
  · simp only [rn0, rn1, rn2, rn3, rn4, rn5, rn6, rn7, rn8, if_true, if_false, Nat.le_refl, true_and, and_true, decide_true, decide_false, Bool.not_true, Bool.not_false, reduceIte, Nat.reduceEqDiff, Nat.reduceAdd, Nat.reduceMul, Nat.reduceSub, Nat.reduceLeDiff, Nat.reduceLT, Nat.add_zero]
    simp [sizeN]
  · rintro k f g m' hk ⟨⟨g1, g2, g3⟩, rfl, f3, f8, f9, f10⟩
    have hk' : (k : Int) < (m : Int) := by omega
    have hFg := Cells.mono hF g1
    obtain ⟨q3, q4, q5⟩ := hv k hk
    obtain ⟨q6, q7⟩ := sizeN_bound hm hv k (by omega)
    have q8 : (21 : Int) ^ k ≤ 21 ^ 4 := by
      have := Nat.pow_le_pow_right (show 0 < 21 by omega) (show k ≤ 4 by omega)
      exact_mod_cast this
    have q9 : 1 * 1 ≤ sizeN lo hi k * (hi k - lo k + 1) := Int.mul_le_mul q6 (by omega) (by omega) (by omega)
    have q10 : sizeN lo hi k * (hi k - lo k + 1) ≤ 21 ^ 4 * 21 := Int.mul_le_mul (by omega) (by omega) (by omega) (by omega)
    have hw : wrapF .i64 ((k : Int) + 1) = ((k + 1 : Nat) : Int) := by rw [wrap_in (by omega) (by omega)]; rfl
    have hw1 : wrapF .i64 (hi k - lo k) = hi k - lo k := wrap_in (by omega) (by omega)
    have hw2 : wrapF .i64 (hi k - lo k + 1) = hi k - lo k + 1 := wrap_in (by omega) (by omega)
    have hw3 : wrapF .i64 (sizeN lo hi k * (hi k - lo k + 1)) = sizeN lo hi (k + 1) := by rw [wrap_in (by omega) (by omega)]; rfl
    simp only [rn0, rn1, rn2, rn3, rn4, rn5, rn6, rn7, rn8, if_true, if_false, Nat.le_refl, true_and, and_true, decide_true, decide_false, Bool.not_true, Bool.not_false, reduceIte, Nat.reduceEqDiff, Nat.reduceAdd, Nat.reduceMul, Nat.reduceSub, Nat.reduceLeDiff, Nat.reduceLT, f3, f8, f9, f10, hk', Cells.idx hFg hk, ranges_ld hFg hk]
    refine step_new (vs := [.int .i64 (lo k), .int .i64 (hi k)]) (by omega) (by omega) rfl (by simp only [rn0, rn1, rn2, rn3, rn4, rn5, rn6, rn7, rn8, if_true, if_false, Nat.le_refl, true_and, and_true, decide_true, decide_false, Bool.not_true, Bool.not_false, reduceIte, Nat.reduceEqDiff, Nat.reduceAdd, Nat.reduceMul, Nat.reduceSub, Nat.reduceLeDiff, Nat.reduceLT]; rfl) rfl rfl rfl fun g' hg' => ?_
    have hin : (Sub All h1 g' ∧ g'.next = h1.next + (k + 1) ∧ g'.floor = h1.floor) = True := eq_true ⟨g1.trans hg'.sub, by rw [hg'.next, g2]; omega, by rw [hg'.floor, g3]⟩
    simp only [rn0, rn1, rn2, rn3, rn4, rn5, rn6, rn7, rn8, if_true, if_false, Nat.le_refl, true_and, and_true, decide_true, decide_false, Bool.not_true, Bool.not_false, reduceIte, Nat.reduceEqDiff, Nat.reduceAdd, Nat.reduceMul, Nat.reduceSub, Nat.reduceLeDiff, Nat.reduceLT, f3, f8, f9, f10, hg'.ld, Nat.zero_add, List.getElem?_cons_zero, List.getElem?_cons_succ, hw, hw1, hw2, hw3, hin]
  · rintro f g m' ⟨⟨g1, g2, g3⟩, rfl, f3, f8, f9, f10⟩
    simp only [rn0, rn1, rn2, rn3, rn4, rn5, rn6, rn7, rn8, if_true, if_false, Nat.le_refl, true_and, and_true, decide_true, decide_false, Bool.not_true, Bool.not_false, reduceIte, Nat.reduceEqDiff, Nat.reduceAdd, Nat.reduceMul, Nat.reduceSub, Nat.reduceLeDiff, Nat.reduceLT, f3, f8, f9, f10, Int.lt_irrefl]
theorem build_work {F V S : Value} : buildA (fun x => (#[(0, 3), (3, 1)] : Array (Nat × Nat))[x]?) ⟨[.slice none 0 0, .slice none 0 0, .slice none 0 0, .slice none 0 0]⟩ [0] h [.agg ⟨[F, V, S]⟩] = some (.agg ⟨[F, V, S, .slice none 0 0]⟩, h) := id rfl
def s30 : SCode := (.seq (.ops [⟨(some 1), none, .box (T 0)⟩, ⟨(some 2), none, .mov (.const (.int .i64 (0)))⟩]) (.seq (.ops [⟨(some 4), none, .loadN 3 (T 1)⟩, ⟨(some 5), none, .build #[(0, 3), (3, 1)] [(.slice none 0 0), (.slice none 0 0), (.slice none 0 0), (.slice none 0 0)] [0] [(T 4)]⟩, ⟨(some 3), none, .alloc [(.slice none 0 0), (.slice none 0 0), (.slice none 0 0), (.slice none 0 0)]⟩, ⟨none, none, .store 4 (T 3) (T 5)⟩]) (.seq (.block 0 (.seq (.ops [⟨(some 7), none, .fieldAddr 0 (T 1)⟩, ⟨(some 8), none, .load1 (T 7)⟩, ⟨(some 9), none, .len (T 8)⟩, ⟨(some 10), none, .int2 .gtr (T 9) (.const (.int .i64 (5)))⟩, ⟨(some 11), none, .mov (T 10)⟩, ⟨(some 12), (some (11, false)), .fieldAddr 1 (T 1)⟩, ⟨(some 13), (some (11, false)), .load1 (T 12)⟩, ⟨(some 14), (some (11, false)), .len (T 13)⟩, ⟨(some 15), (some (11, false)), .int2 .gtr (T 14) (.const (.int .i64 (4)))⟩, ⟨(some 16), none, .pick (T 11) (.const (.bool true)) (T 15)⟩, ⟨(some 17), none, .mov (T 16)⟩, ⟨(some 18), (some (17, false)), .fieldAddr 2 (T 1)⟩, ⟨(some 19), (some (17, false)), .load1 (T 18)⟩, ⟨(some 20), (some (17, false)), .len (T 19)⟩, ⟨(some 21), (some (17, false)), .int2 .gtr (T 20) (.const (.int .i64 (5)))⟩, ⟨(some 22), none, .pick (T 17) (.const (.bool true)) (T 21)⟩, ⟨(some 6), none, .mov (T 22)⟩]) (.cond (T 6) (.seq (.ops [⟨(some 2), none, .mov (.const (.int .i64 (3)))⟩]) .ret) (.seq (.ops [⟨(some 24), none, .fieldAddr 0 (T 1)⟩, ⟨(some 25), none, .load1 (T 24)⟩, ⟨(some 26), none, .call (.func 81) [(T 25), (.func 82)]⟩, ⟨(some 27), none, .not (T 26)⟩, ⟨(some 28), none, .mov (T 27)⟩, ⟨(some 29), (some (28, false)), .fieldAddr 1 (T 1)⟩, ⟨(some 30), (some (28, false)), .load1 (T 29)⟩, ⟨(some 31), (some (28, false)), .loadN 4 (T 3)⟩, ⟨(some 32), (some (28, false)), .mkfunc 84 [(T 31)] []⟩, ⟨(some 33), (some (28, false)), .call (.func 83) [(T 30), (T 32)]⟩, ⟨(some 34), (some (28, false)), .not (T 33)⟩, ⟨(some 35), none, .pick (T 28) (.const (.bool true)) (T 34)⟩, ⟨(some 36), none, .mov (T 35)⟩, ⟨(some 37), (some (36, false)), .fieldAddr 2 (T 1)⟩, ⟨(some 38), (some (36, false)), .load1 (T 37)⟩, ⟨(some 39), (some (36, false)), .loadN 4 (T 3)⟩, ⟨(some 40), (some (36, false)), .mkfunc 86 [(T 39)] []⟩, ⟨(some 41), (some (36, false)), .call (.func 85) [(T 38), (T 40)]⟩, ⟨(some 42), (some (36, false)), .not (T 41)⟩, ⟨(some 43), none, .pick (T 36) (.const (.bool true)) (T 42)⟩, ⟨(some 23), none, .mov (T 43)⟩]) (.cond (T 23) (.seq (.ops [⟨(some 2), none, .mov (.const (.int .i64 (1)))⟩]) .ret) (.seq (.ops [⟨(some 45), none, .loadN 4 (T 3)⟩, ⟨(some 46), none, .call (.func 87) [(T 45)]⟩, ⟨(some 47), none, .int2 .gtr (T 46) (.const (.int .i64 (2000)))⟩, ⟨(some 44), none, .mov (T 47)⟩]) (.cond (T 44) (.seq (.ops [⟨(some 2), none, .mov (.const (.int .i64 (3)))⟩]) .ret) .skip))))))) (.seq (.ops [⟨(some 2), none, .mov (.const (.int .i64 (0)))⟩]) .ret))))
theorem fok30 : FnOk Try.prog 30 48 s30 [.tmp 2] := ⟨Try.f30, _, Try.func30, rfl, Try.ntmps30, by kernel_rfl, by kernel_rfl⟩
theorem checkYard_c (hn : 10004 ≤ n) (hr : h.next + 110 < far) {F V S : Value} {Y : MY} (hy : YardR h F V S Y) (hY : Thin Y) :
    call n (.func (.func 30) #[] #[]) [.agg ⟨[F, V, S]⟩] h = some (.int .i64 (faultN Y), h) := by
  obtain ⟨n, rfl⟩ : ∃ p, n = p + 1 := ⟨n - 1, by omega⟩
  refine call_plain0 fok30 rfl rfl (by simp) rfl ?_
  have hy := hy.shut
  have hr : h.shutAll.next + 110 < far := hr
  have hfl : h.shutAll.floor ≤ h.shutAll.next := Nat.le_refl _
  generalize h.shutAll = h at hy hr hfl
  obtain ⟨t1, t2, t3, t4⟩ := hY
  simp only [s30, W_seq, W_ops]
  refine ops_box (cs := [F, V, S]) (by omega) rfl hy.one fun h1 hx => ?_
  have hn1 := hx.next
  have hf1 := hx.floor
  have ho4 : allB oneCell [F, V, S, .slice none 0 0] = true := by have := hy.one; simp [allB] at this ⊢; simp [this]; rfl
  simp only [rn0, rn1, rn2, rn3, rn4, rn5, rn6, rn7, rn8, if_true, if_false, Nat.le_refl, true_and, and_true, decide_true, decide_false, Bool.not_true, Bool.not_false, reduceIte, Nat.reduceEqDiff, Nat.reduceAdd, Nat.reduceMul, Nat.reduceSub, Nat.reduceLeDiff, Nat.reduceLT, hx.ldN 0 3 (by simp) (by simp), List.drop_zero, List.take_succ_cons, List.take_zero, build_work]
  refine step_new (vs := [F, V, S, .slice none 0 0]) (by omega) (by omega) rfl (by simp only [rn0, rn1, rn2, rn3, rn4, rn5, rn6, rn7, rn8, if_true, if_false, Nat.le_refl, true_and, and_true, decide_true, decide_false, Bool.not_true, Bool.not_false, reduceIte, Nat.reduceEqDiff, Nat.reduceAdd, Nat.reduceMul, Nat.reduceSub, Nat.reduceLeDiff, Nat.reduceLT]; rfl) ho4 rfl rfl fun h2 hx2 => ?_
  have hn2 := hx2.next
  have hbx := hx.row.mono hx2.sub
  have hy := (hy.mono hx.sub).mono hx2.sub
  obtain ⟨r, hrw, hq⟩ := hy.v
  by_cases c1 : 5 < Y.nf
  · have c1' : (5 : Int) < Y.nf := by omega
    have : faultN Y = 3 := by unfold faultN SizesOk; rw [if_pos (by omega)]
    simp only [rn0, rn1, rn2, rn3, rn4, rn5, rn6, rn7, rn8, if_true, if_false, Nat.le_refl, true_and, and_true, decide_true, decide_false, Bool.not_true, Bool.not_false, reduceIte, Nat.reduceEqDiff, Nat.reduceAdd, Nat.reduceMul, Nat.reduceSub, Nat.reduceLeDiff, Nat.reduceLT, hbx.ld, Nat.zero_add, List.getElem?_cons_zero, List.getElem?_cons_succ, Cells.len hy.f, Cells.len hrw, Cells.len hy.s, c1', this]
  have c1' : ¬ (5 : Int) < Y.nf := by omega
  by_cases c2 : 4 < Y.nv
  · have c2' : (4 : Int) < Y.nv := by omega
    have : faultN Y = 3 := by unfold faultN SizesOk; rw [if_pos (by omega)]
    simp only [rn0, rn1, rn2, rn3, rn4, rn5, rn6, rn7, rn8, if_true, if_false, Nat.le_refl, true_and, and_true, decide_true, decide_false, Bool.not_true, Bool.not_false, reduceIte, Nat.reduceEqDiff, Nat.reduceAdd, Nat.reduceMul, Nat.reduceSub, Nat.reduceLeDiff, Nat.reduceLT, hbx.ld, Nat.zero_add, List.getElem?_cons_zero, List.getElem?_cons_succ, Cells.len hy.f, Cells.len hrw, Cells.len hy.s, c1', c2', this]
  have c2' : ¬ (4 : Int) < Y.nv := by omega
  by_cases c3 : 5 < Y.ns
  · have c3' : (5 : Int) < Y.ns := by omega
    have : faultN Y = 3 := by unfold faultN SizesOk; rw [if_pos (by omega)]
    simp only [rn0, rn1, rn2, rn3, rn4, rn5, rn6, rn7, rn8, if_true, if_false, Nat.le_refl, true_and, and_true, decide_true, decide_false, Bool.not_true, Bool.not_false, reduceIte, Nat.reduceEqDiff, Nat.reduceAdd, Nat.reduceMul, Nat.reduceSub, Nat.reduceLeDiff, Nat.reduceLT, hbx.ld, Nat.zero_add, List.getElem?_cons_zero, List.getElem?_cons_succ, Cells.len hy.f, Cells.len hrw, Cells.len hy.s, c1', c2', c3', this]
  have c3' : ¬ (5 : Int) < Y.ns := by omega
  have hsz : ¬ ¬ SizesOk Y := by unfold SizesOk; omega
  have bad : ¬ (FieldsOk Y ∧ VatsOk Y ∧ SampsOk Y) → faultN Y = 1 := fun hb => by unfold faultN; rw [if_neg hsz, if_neg hb]
  have w4 := hx2.ldN 0 4 (by simp) (by simp)
  have eF := everyRange_c (n := n) (h := h2) (ok := .func (.func 82) #[] #[]) (p := fun i => 0 ≤ Y.lo i ∧ Y.lo i ≤ Y.hi i ∧ Y.hi i ≤ 20) (by omega) (by omega) hy.f t1 fun g _ (hg : g.next ≤ h2.next + 40) i hi => ⟨decide (0 ≤ Y.lo i ∧ Y.lo i ≤ Y.hi i ∧ Y.hi i ≤ 20), by simp, isField_c (by omega) (by omega) _ _⟩
  have eV := everyRows_c (n := n) (h := h2) (ok := .func (.func 84) ⟨[.agg ⟨[F, V, S, .slice none 0 0]⟩]⟩ ⟨[]⟩) (p := fun i => Y.cnt i = Y.nf ∧ ∀ j, j < Y.cnt i → 0 ≤ Y.q i j ∧ Y.q i j ≤ 9) (by omega) hrw (by omega) fun g hs (hg : g.next ≤ h2.next + 0) i hi => isVat_c (by omega) (by omega) (Cells.mono (Cells.shut hy.f) hs) ho4 (Cells.mono (Cells.shut (hq i hi)) hs) (by have := t4 i hi; omega)
  have eS := everySamp_c (n := n) (h := h2) (ok := .func (.func 86) ⟨[.agg ⟨[F, V, S, .slice none 0 0]⟩]⟩ ⟨[]⟩) (p := fun i => (0 ≤ Y.sv i ∧ Y.sv i ≤ (Y.nv : Int) - 1) ∧ 0 ≤ Y.slo i ∧ Y.slo i ≤ Y.shi i ∧ Y.shi i ≤ 999) (by omega) (by omega) hy.s t3 fun g hs (hg : g.next ≤ h2.next + 40) i hi => isSample_c (by omega) (by omega) (Cells.mono (Cells.shut hrw) hs) ho4 _ _ _
  by_cases hF : FieldsOk Y
  · have hF' : (∀ i, i < Y.nf → 0 ≤ Y.lo i ∧ Y.lo i ≤ Y.hi i ∧ Y.hi i ≤ 20) = True := eq_true hF
    by_cases hV : VatsOk Y
    · have hV' : (∀ i, i < Y.nv → Y.cnt i = Y.nf ∧ ∀ j, j < Y.cnt i → 0 ≤ Y.q i j ∧ Y.q i j ≤ 9) = True := eq_true hV
      by_cases hS : SampsOk Y
      · have hS' : (∀ i, i < Y.ns → (0 ≤ Y.sv i ∧ Y.sv i ≤ (Y.nv : Int) - 1) ∧ 0 ≤ Y.slo i ∧ Y.slo i ≤ Y.shi i ∧ Y.shi i ≤ 999) = True := eq_true hS
        have hfa : faultN Y = if 2000 < manyN Y.lo Y.hi Y.nf then 3 else 0 := by unfold faultN; rw [if_neg hsz, if_pos ⟨hF, hV, hS⟩]
        have hsm := sizeN_many (by omega) hF Y.nf (Nat.le_refl _)
        have eZ := size4_c (n := n) (h := h2) (by omega) (by omega) hy.f ho4 (by omega) hF
        by_cases hm : 2000 < sizeN Y.lo Y.hi Y.nf
        · rw [if_pos (by omega)] at hfa
          simp only [rn0, rn1, rn2, rn3, rn4, rn5, rn6, rn7, rn8, if_true, if_false, Nat.le_refl, true_and, and_true, decide_true, decide_false, Bool.not_true, Bool.not_false, reduceIte, Nat.reduceEqDiff, Nat.reduceAdd, Nat.reduceMul, Nat.reduceSub, Nat.reduceLeDiff, Nat.reduceLT, hbx.ld, Nat.zero_add, List.getElem?_cons_zero, List.getElem?_cons_succ, Cells.len hy.f, Cells.len hrw, Cells.len hy.s, c1', c2', c3', w4, List.drop_zero, List.take_succ_cons, List.take_zero, eF, eV, eS, hF', hV', hS', eZ, hm, hfa]
        · rw [if_neg (by omega)] at hfa
          simp only [rn0, rn1, rn2, rn3, rn4, rn5, rn6, rn7, rn8, if_true, if_false, Nat.le_refl, true_and, and_true, decide_true, decide_false, Bool.not_true, Bool.not_false, reduceIte, Nat.reduceEqDiff, Nat.reduceAdd, Nat.reduceMul, Nat.reduceSub, Nat.reduceLeDiff, Nat.reduceLT, hbx.ld, Nat.zero_add, List.getElem?_cons_zero, List.getElem?_cons_succ, Cells.len hy.f, Cells.len hrw, Cells.len hy.s, c1', c2', c3', w4, List.drop_zero, List.take_succ_cons, List.take_zero, eF, eV, eS, hF', hV', hS', eZ, hm, hfa]
      · have hS' : (∀ i, i < Y.ns → (0 ≤ Y.sv i ∧ Y.sv i ≤ (Y.nv : Int) - 1) ∧ 0 ≤ Y.slo i ∧ Y.slo i ≤ Y.shi i ∧ Y.shi i ≤ 999) = False := eq_false hS
        have hfa := bad fun hb => hS hb.2.2
        simp only [rn0, rn1, rn2, rn3, rn4, rn5, rn6, rn7, rn8, if_true, if_false, Nat.le_refl, true_and, and_true, decide_true, decide_false, Bool.not_true, Bool.not_false, reduceIte, Nat.reduceEqDiff, Nat.reduceAdd, Nat.reduceMul, Nat.reduceSub, Nat.reduceLeDiff, Nat.reduceLT, hbx.ld, Nat.zero_add, List.getElem?_cons_zero, List.getElem?_cons_succ, Cells.len hy.f, Cells.len hrw, Cells.len hy.s, c1', c2', c3', w4, List.drop_zero, List.take_succ_cons, List.take_zero, eF, eV, eS, hF', hV', hS', hfa]
    · have hV' : (∀ i, i < Y.nv → Y.cnt i = Y.nf ∧ ∀ j, j < Y.cnt i → 0 ≤ Y.q i j ∧ Y.q i j ≤ 9) = False := eq_false hV
      have hfa := bad fun hb => hV hb.2.1
      simp only [rn0, rn1, rn2, rn3, rn4, rn5, rn6, rn7, rn8, if_true, if_false, Nat.le_refl, true_and, and_true, decide_true, decide_false, Bool.not_true, Bool.not_false, reduceIte, Nat.reduceEqDiff, Nat.reduceAdd, Nat.reduceMul, Nat.reduceSub, Nat.reduceLeDiff, Nat.reduceLT, hbx.ld, Nat.zero_add, List.getElem?_cons_zero, List.getElem?_cons_succ, Cells.len hy.f, Cells.len hrw, Cells.len hy.s, c1', c2', c3', w4, List.drop_zero, List.take_succ_cons, List.take_zero, eF, eV, hF', hV', hfa]
  · have hF' : (∀ i, i < Y.nf → 0 ≤ Y.lo i ∧ Y.lo i ≤ Y.hi i ∧ Y.hi i ≤ 20) = False := eq_false hF
    have hfa := bad fun hb => hF hb.1
    simp only [rn0, rn1, rn2, rn3, rn4, rn5, rn6, rn7, rn8, if_true, if_false, Nat.le_refl, true_and, and_true, decide_true, decide_false, Bool.not_true, Bool.not_false, reduceIte, Nat.reduceEqDiff, Nat.reduceAdd, Nat.reduceMul, Nat.reduceSub, Nat.reduceLeDiff, Nat.reduceLT, hbx.ld, Nat.zero_add, List.getElem?_cons_zero, List.getElem?_cons_succ, Cells.len hy.f, Cells.len hrw, Cells.len hy.s, c1', c2', c3', w4, List.drop_zero, List.take_succ_cons, List.take_zero, eF, hF', hfa]
end Go.Vm.Vat

namespace Go.Vm.Vat
open Go.Proofs
set_option linter.unusedSimpArgs false
set_option linter.unusedVariables false
set_option maxRecDepth 10000
variable {n : Nat} {h : AHeap}
theorem idxArr_p {l k b o : Nat} (hk : k < l) : indexArr l 1 (.pointer (some ⟨b, o, none⟩)) (.int .i64 (k : Int)) = some (.pointer (some ⟨b, o + k, none⟩)) := by
  show placeAt ⟨b, o, none⟩ (Int.ofNat k) l 1 = _
  unfold placeAt
  simp only [blt_iff.2 hk, cond_true, Nat.mul_one]
/-- an array of blues -/
def arr (b : Nat → Int) : List Value := (List.range 5).map fun i => .int .i64 (b i)
theorem arr_get {b : Nat → Int} {k : Nat} (hk : k < 5) : (arr b)[k]? = some (.int .i64 (b k)) := by
  rw [arr, List.getElem?_map, List.getElem?_range hk]; rfl
def s77 : SCode := (.seq (.ops [⟨(some 3), none, .box (T 0)⟩, ⟨(some 4), none, .box (T 1)⟩, ⟨(some 6), none, .mov (.const (.int .i64 (0)))⟩]) (.seq (.ops [⟨(some 7), none, .mov (.const (.int .i64 (0)))⟩]) (.seq (.seq (.ops [⟨(some 10), none, .fieldAddr 0 (T 3)⟩, ⟨(some 11), none, .fieldAddr 1 (T 10)⟩, ⟨(some 12), none, .load1 (T 11)⟩, ⟨(some 13), none, .mov (T 2)⟩, ⟨(some 14), none, .idxSl 1 (T 12) (T 13)⟩, ⟨(some 15), none, .load1 (T 14)⟩, ⟨(some 16), none, .len (T 15)⟩, ⟨(some 17), none, .mov (.const (.int .i64 (0)))⟩]) (.block 0 (.loop (.seq (.ops [⟨(some 18), none, .int2 .lss (T 17) (T 16)⟩]) (.seq (.cond (T 18) .skip (.exit 0)) (.seq (.block 1 (.seq (.ops [⟨(some 19), none, .mov (T 17)⟩, ⟨(some 20), none, .idxSl 1 (T 15) (T 17)⟩, ⟨(some 21), none, .load1 (T 20)⟩, ⟨(some 8), none, .mov (T 19)⟩, ⟨(some 9), none, .mov (T 21)⟩]) (.ops [⟨(some 22), none, .mov (T 7)⟩, ⟨(some 23), none, .mov (T 9)⟩, ⟨(some 24), none, .mov (T 8)⟩, ⟨(some 25), none, .idxArr 5 1 (T 4) (T 24)⟩, ⟨(some 26), none, .load1 (T 25)⟩, ⟨(some 27), none, .int2 .mul (T 23) (T 26)⟩, ⟨(some 28), none, .int2 .add (T 22) (T 27)⟩, ⟨(some 7), none, .mov (T 28)⟩]))) (.ops [⟨(some 29), none, .int2 .add (T 17) (.const (.int .i64 (1)))⟩, ⟨(some 17), none, .mov (T 29)⟩]))))))) (.seq (.ops [⟨(some 30), none, .mov (T 7)⟩, ⟨(some 6), none, .mov (T 30)⟩]) .ret))))
theorem fok77 : FnOk Try.prog 77 31 s77 [.tmp 6] := ⟨Try.f77, _, Try.func77, rfl, Try.ntmps77, by kernel_rfl, by kernel_rfl⟩
theorem inVat_c (hn : 10001 ≤ n) (hr : h.next + 2 < far) {F V S T : Value} {nv nf at_ : Nat} {cnt : Nat → Nat} {q : Nat → Nat → Int} {b : Nat → Int} (hV : Rows h V nv cnt q) (h1 : allB oneCell [F, V, S, T] = true)
    (hat : at_ < nv) (hc : cnt at_ = nf) (hnf : nf ≤ 5) (hb1 : ∀ k, k < nf → 0 ≤ b k ∧ b k ≤ 20) (hq1 : ∀ k, k < nf → 0 ≤ q at_ k ∧ q at_ k ≤ 9) :
    call n (.func (.func 77) #[] #[]) [.agg ⟨[F, V, S, T]⟩, .agg ⟨arr b⟩, .int .i64 (at_ : Int)] h = some (.int .i64 (blueN b (q at_) nf), h) := by
  obtain ⟨n, rfl⟩ : ∃ p, n = p + 1 := ⟨n - 1, by omega⟩
  refine call_plain0 fok77 rfl rfl (by simp) rfl ?_
  have hV := hV.mono (g := h.shutAll) fun _ _ _ _ _ h => h
  have hr : h.shutAll.next + 2 < far := hr
  generalize h.shutAll = h at hV hr
  simp only [s77, W_seq, W_ops]
  refine ops_box (cs := [F, V, S, T]) (by omega) rfl h1 fun g1 hx => ?_
  refine ops_box (cs := arr b) (by rw [hx.next]; omega) rfl (by rw [allB_iff]; intro v hv; obtain ⟨i, _, rfl⟩ := List.mem_map.1 hv; rfl) fun g2 hx2 => ?_
  have hrow := hx.row.mono hx2.sub
  obtain ⟨r, hrw, hq⟩ := (hV.mono hx.sub).mono hx2.sub
  subst hc
  have hqa := hq at_ hat
  simp only [rn0, rn1, rn2, rn3, rn4, rn5, rn6, rn7, rn8, if_true, if_false, Nat.le_refl, true_and, and_true, decide_true, decide_false, Bool.not_true, Bool.not_false, reduceIte, Nat.reduceEqDiff, Nat.reduceAdd, Nat.reduceMul, Nat.reduceSub, Nat.reduceLeDiff, Nat.reduceLT, hrow.ld, Nat.zero_add, List.getElem?_cons_zero, List.getElem?_cons_succ, Cells.idx hrw hat, Cells.ld hrw hat Nat.zero_lt_one, Cells.len hqa]
  refine W_loop (cnt at_) (fun k f g m => g = g2 ∧ m = [] ∧ f 4 = .pointer (some ⟨g1.next, 0, none⟩) ∧ f 7 = .int .i64 (blueN b (q at_) k) ∧ f 15 = r at_ ∧ f 16 = .int .i64 (cnt at_ : Int) ∧ f 17 = .int .i64 (k : Int)) (by simp; omega) ?_ ?_ ?_
  · simp only [rn0, rn1, rn2, rn3, rn4, rn5, rn6, rn7, rn8, if_true, if_false, Nat.le_refl, true_and, and_true, decide_true, decide_false, Bool.not_true, Bool.not_false, reduceIte, Nat.reduceEqDiff, Nat.reduceAdd, Nat.reduceMul, Nat.reduceSub, Nat.reduceLeDiff, Nat.reduceLT]
    simp [blueN]
  · rintro k f g m hk ⟨rfl, rfl, f4, f7, f15, f16, f17⟩
    have hk' : (k : Int) < (cnt at_ : Int) := by omega
    obtain ⟨h3, h4⟩ := hb1 k hk
    obtain ⟨h5, h6⟩ := hq1 k hk
    have h7 : 0 ≤ b k * q at_ k := Int.mul_nonneg h3 h5
    have h8 : b k * q at_ k ≤ 20 * 9 := Int.mul_le_mul h4 h6 h5 (by omega)
    obtain ⟨h9, h10⟩ := blueN_bound (by omega) hb1 hq1 k (by omega)
    have hw : wrapF .i64 ((k : Int) + 1) = ((k + 1 : Nat) : Int) := by rw [wrap_in (by omega) (by omega)]; rfl
    have hw2 : wrapF .i64 (q at_ k * b k) = b k * q at_ k := by rw [Int.mul_comm]; exact wrap_in (by omega) (by omega)
    have hw3 : wrapF .i64 (blueN b (q at_) k + b k * q at_ k) = blueN b (q at_) (k + 1) := by rw [wrap_in (by omega) (by omega)]; rfl
    have hld : loadCell g (.pointer (some ⟨g1.next, k, none⟩)) = some (.int .i64 (b k)) := by rw [hx2.row.ld, arr_get (by omega)]
    simp only [rn0, rn1, rn2, rn3, rn4, rn5, rn6, rn7, rn8, if_true, if_false, Nat.le_refl, true_and, and_true, decide_true, decide_false, Bool.not_true, Bool.not_false, reduceIte, Nat.reduceEqDiff, Nat.reduceAdd, Nat.reduceMul, Nat.reduceSub, Nat.reduceLeDiff, Nat.reduceLT, f4, f7, f15, f16, f17, hk', Cells.idx hqa hk, Cells.ld hqa hk Nat.zero_lt_one, idxArr_p (l := 5) (k := k) (by omega), Nat.zero_add, hld, hw, hw2, hw3]
  · rintro f g m ⟨rfl, rfl, f4, f7, f15, f16, f17⟩
    simp only [rn0, rn1, rn2, rn3, rn4, rn5, rn6, rn7, rn8, if_true, if_false, Nat.le_refl, true_and, and_true, decide_true, decide_false, Bool.not_true, Bool.not_false, reduceIte, Nat.reduceEqDiff, Nat.reduceAdd, Nat.reduceMul, Nat.reduceSub, Nat.reduceLeDiff, Nat.reduceLT, f4, f7, f15, f16, f17, Int.lt_irrefl]
end Go.Vm.Vat

namespace Go.Vm.Vat
open Go.Proofs
set_option linter.unusedSimpArgs false
set_option linter.unusedVariables false
set_option maxRecDepth 10000
variable {n : Nat} {h : AHeap}
theorem arr_one {b : Nat → Int} : allB oneCell (arr b) = true := by rw [allB_iff]; intro v hv; obtain ⟨i, _, rfl⟩ := List.mem_map.1 hv; rfl
theorem arr_len {b : Nat → Int} : (arr b).length = 5 := by simp [arr]
theorem _root_.Go.Vm.Row.whole {b n : Nat} {cs : List Value} (hr : Row h b cs) (hl : cs.length = n) : loadAgg n h (.pointer (some ⟨b, 0, none⟩)) = some (.agg ⟨cs⟩) := by
  rw [hr.ldN 0 n (by omega) (by simp [hl]), List.drop_zero, ← hl, List.take_length]
/-- what is asked of a yard at work for the blue of one of its vats -/
structure AtVat (h : AHeap) (V : Value) (Y : MY) (b : Nat → Int) : Prop where
  v : Rows h V Y.nv Y.cnt Y.q
  sz : Y.nf ≤ 5
  ok : VatsOk Y
  b : ∀ k, k < Y.nf → 0 ≤ b k ∧ b k ≤ 20
theorem AtVat.mono {g : AHeap} {V : Value} {Y : MY} {b : Nat → Int} (ha : AtVat h V Y b) (hs : Sub All h g) : AtVat g V Y b := ⟨ha.v.mono hs, ha.sz, ha.ok, ha.b⟩
def s123 : SCode := (.seq (.ops [⟨(some 3), none, .box (T 0)⟩, ⟨(some 4), none, .box (T 1)⟩, ⟨(some 5), none, .box (T 2)⟩, ⟨(some 6), none, .mov (.const (.bool false))⟩]) (.seq (.draw [⟨.free, ⟨(some 7), none, .fieldAddr 1 (T 5)⟩⟩, ⟨.rd, ⟨(some 8), none, .loadN 2 (T 7)⟩⟩, ⟨.rd1, ⟨(some 9), none, .loadN 4 (T 3)⟩⟩, ⟨.rd1, ⟨(some 10), none, .loadN 5 (T 4)⟩⟩, ⟨.free, ⟨(some 11), none, .fieldAddr 0 (T 5)⟩⟩, ⟨.rd1, ⟨(some 12), none, .load1 (T 11)⟩⟩, ⟨.up, ⟨(some 13), none, .call (.func 77) [(T 9), (T 10), (T 12)]⟩⟩, ⟨.any, ⟨(some 14), none, .call (.func 113) [(T 8), (T 13)]⟩⟩, ⟨.free, ⟨(some 6), none, .mov (T 14)⟩⟩]) .ret))
theorem fok123 : FnOk Try.prog 123 15 s123 [.tmp 6] := ⟨Try.f123, _, Try.func123, rfl, Try.ntmps123, by kernel_rfl, by kernel_rfl⟩
theorem isRight_c (hn : 10002 ≤ n) (hr : h.next + 5 < far) {F V S T : Value} {Y : MY} {b : Nat → Int} (ha : AtVat h V Y b) (h1 : allB oneCell [F, V, S, T] = true) {at_ lo hi : Int} (hat : 0 ≤ at_ ∧ at_ ≤ (Y.nv : Int) - 1) :
    call n (.func (.func 123) #[] #[]) [.agg ⟨[F, V, S, T]⟩, .agg ⟨arr b⟩, .agg ⟨[.int .i64 at_, .int .i64 lo, .int .i64 hi]⟩] h = some (.bool (decide (lo ≤ blueN b (Y.q at_.toNat) Y.nf ∧ blueN b (Y.q at_.toNat) Y.nf ≤ hi)), h) := by
  obtain ⟨n, rfl⟩ : ∃ p, n = p + 1 := ⟨n - 1, by omega⟩
  refine call_plain0 fok123 rfl rfl (by simp) rfl ?_
  have ha := ha.mono (g := h.shutAll) fun _ _ _ _ _ h => h
  have hr : h.shutAll.next + 5 < far := hr
  generalize h.shutAll = h at ha hr
  simp only [s123, W_seq, W_ops]
  refine ops_box (cs := [F, V, S, T]) (by omega) rfl h1 fun g1 hx1 => ?_
  refine ops_box (cs := arr b) (by rw [hx1.next]; omega) rfl arr_one fun g2 hx2 => ?_
  refine ops_box (cs := [.int .i64 at_, .int .i64 lo, .int .i64 hi]) (by rw [hx2.next, hx1.next]; omega) rfl rfl fun g3 hx3 => ?_
  have w1 := ((hx1.row.mono hx2.sub).mono hx3.sub).whole (n := 4) rfl
  have w2 := (hx2.row.mono hx3.sub).whole arr_len
  have w3 := hx3.row
  have ha := ((ha.mono hx1.sub).mono hx2.sub).mono hx3.sub
  obtain ⟨k, rfl⟩ : ∃ k : Nat, at_ = k := ⟨at_.toNat, by omega⟩
  obtain ⟨v1, v2⟩ := ha.ok k (by omega)
  have hb := inVat_c (n := n) (h := g3) (b := b) (F := F) (S := S) (T := T) (at_ := k) (by omega) (by rw [hx3.next, hx2.next, hx1.next]; omega) ha.v h1 (by omega) v1 ha.sz ha.b (fun i hi => v2 i (by omega))
  have hh := has_c (n := n) (h := g3) (by omega) (by rw [hx3.next, hx2.next, hx1.next]; omega) lo hi (blueN b (Y.q k) Y.nf)
  have e2 : eqV (.agg ⟨[.int .i64 lo, .int .i64 hi]⟩) (.agg ⟨[.int .i64 lo, .int .i64 hi]⟩) = true := by simp [eqV, eqCells, eqCell, sameK, eqI_eq]
  simp only [rn0, rn1, rn2, rn3, rn4, rn5, rn6, rn7, rn8, if_true, if_false, Nat.le_refl, true_and, and_true, decide_true, decide_false, Bool.not_true, Bool.not_false, reduceIte, Nat.reduceEqDiff, Nat.reduceAdd, Nat.reduceMul, Nat.reduceSub, Nat.reduceLeDiff, Nat.reduceLT]
  refine W_draw All ?_
  simp only [rn0, rn1, rn2, rn3, rn4, rn5, rn6, rn7, rn8, if_true, if_false, Nat.le_refl, true_and, and_true, decide_true, decide_false, Bool.not_true, Bool.not_false, reduceIte, Nat.reduceEqDiff, Nat.reduceAdd, Nat.reduceMul, Nat.reduceSub, Nat.reduceLeDiff, Nat.reduceLT, w1, w2, w3.ld, w3.ldN 1 2 (by simp) (by simp), List.drop_succ_cons, List.drop_zero, List.take_succ_cons, List.take_zero, Nat.zero_add, List.getElem?_cons_zero, List.getElem?_cons_succ, hb, hh, e2, Int.toNat_natCast]
def s126 : SCode := (.seq (.ops [⟨(some 3), none, .box (T 0)⟩, ⟨(some 4), none, .mov (.const (.bool false))⟩]) (.seq (.ops [⟨(some 5), none, .loadN 4 (T 1)⟩, ⟨(some 6), none, .loadN 5 (T 2)⟩, ⟨(some 7), none, .loadN 3 (T 3)⟩, ⟨(some 8), none, .call (.func 123) [(T 5), (T 6), (T 7)]⟩, ⟨(some 4), none, .mov (T 8)⟩]) .ret))
theorem fok126 : FnOk Try.prog 126 9 s126 [.tmp 4] := ⟨Try.f126, _, Try.func126, rfl, Try.ntmps126, by kernel_rfl, by kernel_rfl⟩
theorem isTruth1_c (hn : 10003 ≤ n) (hr : h.next + 6 < far) {F V S T : Value} {Y : MY} {b : Nat → Int} (ha : AtVat h V Y b) (h1 : allB oneCell [F, V, S, T] = true) {at_ lo hi : Int} (hat : 0 ≤ at_ ∧ at_ ≤ (Y.nv : Int) - 1) {p q : Nat} (hp : Row h p [F, V, S, T]) (hq : Row h q (arr b)) :
    call n (.func (.func 126) ⟨[]⟩ ⟨[.pointer (some ⟨p, 0, none⟩), .pointer (some ⟨q, 0, none⟩)]⟩) [.agg ⟨[.int .i64 at_, .int .i64 lo, .int .i64 hi]⟩] h = some (.bool (decide (lo ≤ blueN b (Y.q at_.toNat) Y.nf ∧ blueN b (Y.q at_.toNat) Y.nf ≤ hi)), h) := by
  obtain ⟨n, rfl⟩ : ∃ p, n = p + 1 := ⟨n - 1, by omega⟩
  refine call_plain (xs := []) (ys := [.pointer (some ⟨p, 0, none⟩), .pointer (some ⟨q, 0, none⟩)]) fok126 rfl rfl (by simp) rfl ?_
  have ha := ha.mono (g := h.shutAll) fun _ _ _ _ _ h => h
  have hp := hp.mono (g := h.shutAll) fun _ _ _ _ _ h => h
  have hq := hq.mono (g := h.shutAll) fun _ _ _ _ _ h => h
  have hr : h.shutAll.next + 6 < far := hr
  generalize h.shutAll = h at ha hr hp hq
  simp only [s126, List.cons_append, List.nil_append, W_seq, W_ops]
  refine ops_box (cs := [.int .i64 at_, .int .i64 lo, .int .i64 hi]) (by omega) rfl rfl fun g1 hx1 => ?_
  have hi := isRight_c (n := n) (h := g1) (b := b) (F := F) (S := S) (T := T) (lo := lo) (hi := hi) (by omega) (by rw [hx1.next]; omega) (ha.mono hx1.sub) h1 hat
  simp only [rn0, rn1, rn2, rn3, rn4, rn5, rn6, rn7, rn8, if_true, if_false, Nat.le_refl, true_and, and_true, decide_true, decide_false, Bool.not_true, Bool.not_false, reduceIte, Nat.reduceEqDiff, Nat.reduceAdd, Nat.reduceMul, Nat.reduceSub, Nat.reduceLeDiff, Nat.reduceLT, (hp.mono hx1.sub).whole (n := 4) rfl, (hq.mono hx1.sub).whole arr_len, hx1.row.whole (n := 3) rfl, hi]
def s114 : SCode := (.seq (.ops [⟨(some 2), none, .box (T 0)⟩, ⟨(some 3), none, .box (T 1)⟩, ⟨(some 4), none, .mov (.const (.bool false))⟩]) (.seq (.ops [⟨(some 5), none, .fieldAddr 0 (T 2)⟩, ⟨(some 6), none, .fieldAddr 2 (T 5)⟩, ⟨(some 7), none, .load1 (T 6)⟩, ⟨(some 8), none, .mkfunc 126 [] [(T 2), (T 3)]⟩, ⟨(some 9), none, .call (.func 85) [(T 7), (T 8)]⟩, ⟨(some 4), none, .mov (T 9)⟩]) .ret))
theorem fok114 : FnOk Try.prog 114 10 s114 [.tmp 4] := ⟨Try.f114, _, Try.func114, rfl, Try.ntmps114, by kernel_rfl, by kernel_rfl⟩
open Classical in
theorem isTruthW_c (hn : 10005 ≤ n) (hr : h.next + 100 < far) {F V S T : Value} {Y : MY} {b : Nat → Int} (hS : Samps h S Y.ns Y.sv Y.slo Y.shi) (hsn : Y.ns ≤ 5) (hso : SampsOk Y) (ha : AtVat h V Y b) (h1 : allB oneCell [F, V, S, T] = true) :
    call n (.func (.func 114) #[] #[]) [.agg ⟨[F, V, S, T]⟩, .agg ⟨arr b⟩] h = some (.bool (decide (∀ k, k < Y.ns → RightB Y b k)), h) := by
  obtain ⟨n, rfl⟩ : ∃ p, n = p + 1 := ⟨n - 1, by omega⟩
  refine call_plain0 fok114 rfl rfl (by simp) rfl ?_
  have hS := Cells.shut hS
  have ha := ha.mono (g := h.shutAll) fun _ _ _ _ _ h => h
  have hr : h.shutAll.next + 100 < far := hr
  generalize h.shutAll = h at ha hr hS
  simp only [s114, W_seq, W_ops]
  refine ops_box (cs := [F, V, S, T]) (by omega) rfl h1 fun g1 hx1 => ?_
  refine ops_box (cs := arr b) (by rw [hx1.next]; omega) rfl arr_one fun g2 hx2 => ?_
  have n2 : g2.next = h.next + 2 := by rw [hx2.next, hx1.next]
  have hS := Cells.mono (Cells.mono hS hx1.sub) hx2.sub
  have ha := (ha.mono hx1.sub).mono hx2.sub
  have hp := hx1.row.mono hx2.sub
  have hq := hx2.row
  have he := everySamp_c (n := n) (h := g2) (ok := .func (.func 126) ⟨[]⟩ ⟨[.pointer (some ⟨h.next, 0, none⟩), .pointer (some ⟨g1.next, 0, none⟩)]⟩) (p := fun k => RightB Y b k) (by omega) (by omega) hS (by omega)
    fun g hs (hg : g.next ≤ g2.next + 40) i hi => by
      have hs' : Sub All g2 g := fun i cs w gr t hg => hs i cs w gr t hg
      exact ⟨_, (by rw [decide_eq_true_eq]; exact Iff.rfl), isTruth1_c (lo := Y.slo i) (hi := Y.shi i) (n := n - 1) (h := g) (by omega) (by omega) (ha.mono hs') h1 (hso i hi).1 (hp.mono hs') (hq.mono hs')⟩
  simp only [rn0, rn1, rn2, rn3, rn4, rn5, rn6, rn7, rn8, if_true, if_false, Nat.le_refl, true_and, and_true, decide_true, decide_false, Bool.not_true, Bool.not_false, reduceIte, Nat.reduceEqDiff, Nat.reduceAdd, Nat.reduceMul, Nat.reduceSub, Nat.reduceLeDiff, Nat.reduceLT, hp.ld, Nat.zero_add, List.getElem?_cons_zero, List.getElem?_cons_succ, he]
end Go.Vm.Vat

namespace Go.Vm.Vat
open Go.Proofs
set_option linter.unusedSimpArgs false
set_option linter.unusedVariables false
set_option maxRecDepth 10000
variable {n : Nat} {h : AHeap}
theorem res_two {a n t : Nat} {f : Fr} : resV f h [.cellN a n, .tmp t] = match loadAgg n h (f a) with
  | some v => some (.tuple ⟨[v, f t]⟩)
  | none => none := by
  simp only [resV, resL, res1]
  cases loadAgg n h (f a) <;> rfl
theorem splice_all {cs vs : List Value} (hl : cs.length = vs.length) : splice cs 0 vs = vs := by simp [splice, hl]
end Go.Vm.Vat

namespace Go.Vm.Vat
open Go.Proofs
set_option linter.unusedSimpArgs false
set_option linter.unusedVariables false
set_option maxRecDepth 10000
variable {n : Nat} {h : AHeap}
theorem make_ints {s : Nat} {z : List Value} {m : Nat} (hm : m ≤ 1000) : makeSl s 8 z h (.int .i64 (m : Int)) (.int .i64 (m : Int)) = newSlice h (repl z m) m m 0 := by
  show (bif Nat.ble m m && Nat.ble (m * 8) maxBytes && Nat.ble m maxBytes then newSlice h (repl z m) m m 0 else none) = _
  have e1 : Nat.ble m m = true := ble_iff.2 (Nat.le_refl _)
  have e2 : Nat.ble (m * 8) maxBytes = true := ble_iff.2 (by simp [maxBytes]; omega)
  have e3 : Nat.ble m maxBytes = true := ble_iff.2 (by simp [maxBytes]; omega)
  rw [e1, e2, e3]; rfl
theorem ex0 {x y : Value} : extractA 0 (.tuple ⟨[x, y]⟩) h = some (x, h) := id rfl
theorem ex1 {x y : Value} : extractA 1 (.tuple ⟨[x, y]⟩) h = some (y, h) := id rfl
theorem good_of {Y : MY} (hf : faultN Y = 0) : Good Y := by
  unfold faultN at hf
  by_cases h1 : SizesOk Y
  · rw [if_neg (by simpa using h1)] at hf
    by_cases h2 : FieldsOk Y ∧ VatsOk Y ∧ SampsOk Y
    · exact ⟨h1, h2.1, h2.2.1, h2.2.2⟩
    · rw [if_neg h2] at hf; cases hf
  · rw [if_pos h1] at hf; cases hf
end Go.Vm.Vat

namespace Go.Vm.Vat
open Go.Proofs
set_option linter.unusedSimpArgs false
set_option linter.unusedVariables false
set_option maxRecDepth 10000
variable {n : Nat} {h : AHeap}
/-! ### The iterator over all blues: each way to fill the fields that are left, in order, is handed to 'yield' -/
/-- all ways to fill d fields from i on, in order -/
def enumB (lo hi : Nat → Int) : Nat → Nat → (Nat → Int) → List (Nat → Int)
  | 0, _, c => [c]
  | d + 1, i, c => (List.range (hi i - lo i + 1).toNat).flatMap fun (k : Nat) => enumB lo hi d (i + 1) fun j => if j = i then lo i + (k : Int) else c j
theorem enumB_congr {lo hi : Nat → Int} : ∀ (d i : Nat) (c c' : Nat → Int), (∀ j, j < i ∨ i + d ≤ j → c j = c' j) → enumB lo hi d i c = enumB lo hi d i c'
  | 0, i, c, c', hc => by
    have : c = c' := funext fun j => hc j (by omega)
    rw [this]
  | d + 1, i, c, c', hc => by
    simp only [enumB]
    congr 1
    funext k
    refine enumB_congr d (i + 1) _ _ fun j hj => ?_
    by_cases e : j = i
    · simp [e]
    · simp only [e, if_false]
      exact hc j (by omega)
/-- the first i are in their ranges; there are no more than nf -/
def OkB (nf : Nat) (lo hi : Nat → Int) (i : Nat) (c : Nat → Int) : Prop := (∀ j, j < i → lo j ≤ c j ∧ c j ≤ hi j) ∧ ∀ j, nf ≤ j → c j = 0
/-- what comes of a list that is handed over one by one, until it is refused -/
def runL {σ α : Type} (step : σ → α → σ × Bool) : σ → List α → σ × Bool
  | s, [] => (s, true)
  | s, x :: l => if (step s x).2 then runL step (step s x).1 l else ((step s x).1, false)
theorem runL_append {σ α : Type} {step : σ → α → σ × Bool} : ∀ (l1 l2 : List α) (s : σ), runL step s (l1 ++ l2) = if (runL step s l1).2 then runL step (runL step s l1).1 l2 else runL step s l1
  | [], l2, s => by simp [runL]
  | x :: l1, l2, s => by
    simp only [List.cons_append, runL]
    by_cases e : (step s x).2 = true
    · simp only [e, if_true]; exact runL_append l1 l2 _
    · simp [e]
theorem arr_splice {k : Nat} {c : Nat → Int} {x : Int} (hk : k < 5) : splice (arr c) k [.int .i64 x] = arr fun j => if j = k then x else c j := by
  obtain rfl | rfl | rfl | rfl | rfl : k = 0 ∨ k = 1 ∨ k = 2 ∨ k = 3 ∨ k = 4 := by omega
  all_goals simp [splice, arr, List.range_succ]
section
variable {σ : Type}
/-- the iterator's own rows -/
structure It (pw py pc : Nat) (W : List Value) (yv cv F : Value) (nf : Nat) (lo hi : Nat → Int) (g : AHeap) : Prop where
  w : Row g pw W
  y : Row g py [yv]
  c : Row g pc [cv]
  f : Ranges g F nf lo hi
theorem It.set {pw py pc pb gr : Nat} {W cs : List Value} {yv cv F : Value} {nf : Nat} {lo hi : Nat → Int} {g g' : AHeap} (hi' : It pw py pc W yv cv F nf lo hi g) (hs : Set1 g g' pb cs gr) (h1 : pw ≠ pb) (h2 : py ≠ pb) (h3 : pc ≠ pb)
    (hF : ∀ a k cap, F = .slice (some a) k cap → a.block ≠ pb ∨ nf = 0) : It pw py pc W yv cv F nf lo hi g' := by
  refine ⟨hi'.w.keep hs.keep h1, hi'.y.keep hs.keep h2, hi'.c.keep hs.keep h3, ?_⟩
  obtain ⟨a, cap, e, hsp, h0 | ⟨b, o, cs, w, gr, rfl, e1, e2⟩⟩ := hi'.f
  · exact ⟨a, cap, e, hsp, .inl h0⟩
  · rcases hF _ _ _ e with h4 | h4
    · exact ⟨_, cap, e, hsp, .inr ⟨b, o, cs, w, gr, rfl, hs.keep.sub _ _ _ _ h4 e1, e2⟩⟩
    · exact ⟨_, cap, e, hsp, .inl h4⟩
def chooseV (pw py pb pc : Nat) : Value := .func (.func 122) ⟨[]⟩ ⟨[.pointer (some ⟨pw, 0, none⟩), .pointer (some ⟨py, 0, none⟩), .pointer (some ⟨pb, 0, none⟩), .pointer (some ⟨pc, 0, none⟩)]⟩
theorem part_flat {α : Type} (f : Nat → List α) {k m : Nat} (hk : k < m) : ∃ l, (List.range m).flatMap f = (List.range k).flatMap f ++ (f k ++ l) := by
  refine ⟨((List.range (m - (k + 1))).map (k + 1 + ·)).flatMap f, ?_⟩
  have : List.range m = List.range k ++ ([k] ++ (List.range (m - (k + 1))).map (k + 1 + ·)) := by
    have h1 := List.range_add (n := k + 1) (m := m - (k + 1))
    rw [show k + 1 + (m - (k + 1)) = m by omega] at h1
    rw [h1, List.range_succ, List.append_assoc]
  rw [this, List.flatMap_append, List.flatMap_append]
  simp
def s122 : SCode := (.seq (.ops [⟨(some 6), none, .mov (.const (.bool false))⟩]) (.seq (.seq (.ops [⟨(some 8), none, .mov (T 0)⟩, ⟨(some 9), none, .fieldAddr 0 (T 1)⟩, ⟨(some 10), none, .fieldAddr 0 (T 9)⟩, ⟨(some 11), none, .load1 (T 10)⟩, ⟨(some 12), none, .len (T 11)⟩, ⟨(some 13), none, .int2 .eql (T 8) (T 12)⟩]) (.cond (T 13) (.seq (.ops [⟨(some 14), none, .load1 (T 2)⟩, ⟨(some 15), none, .loadN 5 (T 3)⟩, ⟨(some 16), none, .call (T 14) [(T 15)]⟩, ⟨(some 6), none, .mov (T 16)⟩]) .ret) .skip)) (.seq (.seq (.ops [⟨(some 17), none, .fieldAddr 0 (T 1)⟩, ⟨(some 18), none, .fieldAddr 0 (T 17)⟩, ⟨(some 19), none, .load1 (T 18)⟩, ⟨(some 20), none, .mov (T 0)⟩, ⟨(some 21), none, .idxSl 2 (T 19) (T 20)⟩, ⟨(some 22), none, .fieldAddr 0 (T 21)⟩, ⟨(some 23), none, .load1 (T 22)⟩, ⟨(some 7), none, .mov (T 23)⟩]) (.block 0 (.loop (.seq (.seq (.ops [⟨(some 24), none, .mov (T 7)⟩, ⟨(some 25), none, .fieldAddr 0 (T 1)⟩, ⟨(some 26), none, .fieldAddr 0 (T 25)⟩, ⟨(some 27), none, .load1 (T 26)⟩, ⟨(some 28), none, .mov (T 0)⟩, ⟨(some 29), none, .idxSl 2 (T 27) (T 28)⟩, ⟨(some 30), none, .fieldAddr 1 (T 29)⟩, ⟨(some 31), none, .load1 (T 30)⟩, ⟨(some 32), none, .int2 .leq (T 24) (T 31)⟩]) (.cond (T 32) .skip (.exit 0))) (.seq (.block 1 (.seq (.ops [⟨(some 35), none, .mov (T 0)⟩, ⟨(some 36), none, .mov (T 7)⟩, ⟨(some 37), none, .idxArr 5 1 (T 3) (T 35)⟩, ⟨none, none, .store 1 (T 37) (T 36)⟩]) (.seq (.ops [⟨(some 38), none, .load1 (T 4)⟩, ⟨(some 39), none, .mov (T 0)⟩, ⟨(some 40), none, .int2 .add (T 39) (.const (.int .i64 (1)))⟩, ⟨(some 41), none, .call (T 38) [(T 40)]⟩, ⟨(some 42), none, .not (T 41)⟩]) (.cond (T 42) (.seq (.ops [⟨(some 6), none, .mov (.const (.bool false))⟩]) .ret) .skip)))) (.ops [⟨(some 33), none, .mov (T 7)⟩, ⟨(some 34), none, .int2 .add (T 33) (.const (.int .i64 (1)))⟩, ⟨(some 7), none, .mov (T 34)⟩])))))) (.seq (.ops [⟨(some 6), none, .mov (.const (.bool true))⟩]) .ret))))
theorem fok122 : FnOk Try.prog 122 43 s122 [.tmp 6] := ⟨Try.f122, _, Try.func122, rfl, Try.ntmps122, by kernel_rfl, by kernel_rfl⟩
theorem choose_c (step : σ → (Nat → Int) → σ × Bool) (J : σ → AHeap → Prop) {pw py pb pc K N0 fl : Nat} {F V S T yv : Value} {nf : Nat} {lo hi : Nat → Int} (hsz : nf ≤ 5) (hv : ∀ k, k < nf → 0 ≤ lo k ∧ lo k ≤ hi k ∧ hi k ≤ 20)
    (d1 : pw ≠ pb) (d2 : py ≠ pb) (d3 : pc ≠ pb) (hF : ∀ a k cap, F = .slice (some a) k cap → a.block ≠ pb ∨ nf = 0) (hfl : fl ≤ pb) (hN : 10002 ≤ N0)
    (hJ : ∀ s g g' cs, J s g → Set1 g g' pb cs 0 → J s g')
    (hY : ∀ n g s c, N0 ≤ n → It pw py pc [F, V, S, T] yv (chooseV pw py pb pc) F nf lo hi g → g.get pb = some (.row (arr c) true 0) → OkB nf lo hi nf c → J s g → g.floor = fl → g.next + K < far →
      ∃ g', call n yv [.agg ⟨arr c⟩] g = some (.bool (step s c).2, g') ∧ J (step s c).1 g' ∧ It pw py pc [F, V, S, T] yv (chooseV pw py pb pc) F nf lo hi g' ∧ g'.get pb = some (.row (arr c) true 0) ∧ g'.floor = fl ∧ g'.next ≤ g.next + K) :
    ∀ (d i n : Nat) (g : AHeap) (s : σ) (c : Nat → Int), i + d = nf → N0 + d + 1 ≤ n → It pw py pc [F, V, S, T] yv (chooseV pw py pb pc) F nf lo hi g → g.get pb = some (.row (arr c) true 0) → OkB nf lo hi i c → J s g → g.floor = fl → g.next + K * (enumB lo hi d i c).length < far →
      ∃ g', call n (chooseV pw py pb pc) [.int .i64 (i : Int)] g = some (.bool (runL step s (enumB lo hi d i c)).2, g') ∧ J (runL step s (enumB lo hi d i c)).1 g' ∧ It pw py pc [F, V, S, T] yv (chooseV pw py pb pc) F nf lo hi g' ∧
        (∃ c', g'.get pb = some (.row (arr c') true 0) ∧ ∀ j, j < i ∨ i + d ≤ j → c' j = c j) ∧ g'.floor = fl ∧ g'.next ≤ g.next + K * (enumB lo hi d i c).length := by
  intro d
  induction d with
  | zero =>
    intro i n g s c hi' hn hit hb hok hj hfg hr
    obtain ⟨n, rfl⟩ : ∃ p, n = p + 1 := ⟨n - 1, by omega⟩
    simp only [enumB, List.length_singleton, Nat.mul_one] at hr ⊢
    obtain ⟨g', e, q1, q2, q3, q4, q5⟩ := hY n g s c (by omega) hit hb (show OkB nf lo hi nf c from (show i = nf by omega) ▸ hok) hj hfg hr
    have hin : (i : Int) = (nf : Int) := by omega
    have hbr : Row g pb (arr c) := ⟨_, _, hb⟩
    suffices hs : ∃ v g1, call (n + 1) (chooseV pw py pb pc) [.int .i64 (i : Int)] g = some (v, g1) ∧ v = .bool (step s c).2 ∧ g1 = g' by
      obtain ⟨v, g1, e1, rfl, rfl⟩ := hs
      have hrun : runL step s [c] = step s c := by
        simp only [runL]
        by_cases e : (step s c).2 = true
        · simp only [e, if_true]; exact (Prod.ext rfl e.symm)
        · simp only [e, Bool.false_eq_true, if_false]; exact (Prod.ext rfl (by simpa using (Bool.eq_false_iff.2 e).symm))
      rw [hrun]
      exact ⟨_, e1, q1, q2, ⟨c, q3, fun _ _ => rfl⟩, q4, q5⟩
    refine call_any (xs := []) (ys := [.pointer (some ⟨pw, 0, none⟩), .pointer (some ⟨py, 0, none⟩), .pointer (some ⟨pb, 0, none⟩), .pointer (some ⟨pc, 0, none⟩)]) fok122 rfl rfl (by simp) ?_
    simp only [rn0, rn1, rn2, rn3, rn4, rn5, rn6, rn7, rn8, if_true, if_false, Nat.le_refl, true_and, and_true, decide_true, decide_false, Bool.not_true, Bool.not_false, reduceIte, Nat.reduceEqDiff, Nat.reduceAdd, Nat.reduceMul, Nat.reduceSub, Nat.reduceLeDiff, Nat.reduceLT, s122, List.cons_append, List.nil_append, hit.w.ld, hit.y.ld, hbr.whole arr_len, Nat.zero_add, List.getElem?_cons_zero, List.getElem?_cons_succ, Cells.len hit.f, hin, e]
  | succ d ih =>
    intro i n g s c hi' hn hit hb hok hj hfg hr
    obtain ⟨n, rfl⟩ : ∃ p, n = p + 1 := ⟨n - 1, by omega⟩
    have hin : ¬ (i : Int) = (nf : Int) := by omega
    have hk : i < nf := by omega
    obtain ⟨v1, v2, v3⟩ := hv i hk
    suffices hs : ∃ v g1, call (n + 1) (chooseV pw py pb pc) [.int .i64 (i : Int)] g = some (v, g1) ∧ v = .bool (runL step s (enumB lo hi (d + 1) i c)).2 ∧ J (runL step s (enumB lo hi (d + 1) i c)).1 g1 ∧ It pw py pc [F, V, S, T] yv (chooseV pw py pb pc) F nf lo hi g1 ∧
        (∃ c', g1.get pb = some (.row (arr c') true 0) ∧ ∀ j, j < i ∨ i + (d + 1) ≤ j → c' j = c j) ∧ g1.floor = fl ∧ g1.next ≤ g.next + K * (enumB lo hi (d + 1) i c).length by
      obtain ⟨v, g1, e1, rfl, h2⟩ := hs
      exact ⟨g1, e1, h2⟩
    refine call_any (xs := []) (ys := [.pointer (some ⟨pw, 0, none⟩), .pointer (some ⟨py, 0, none⟩), .pointer (some ⟨pb, 0, none⟩), .pointer (some ⟨pc, 0, none⟩)]) fok122 rfl rfl (by simp) ?_
    have hl1 : loadCell g (ptrO F 2 i 0) = some (.int .i64 (lo i)) := Cells.ld hit.f hk (by omega)
    simp only [rn0, rn1, rn2, rn3, rn4, rn5, rn6, rn7, rn8, if_true, if_false, Nat.le_refl, true_and, and_true, decide_true, decide_false, Bool.not_true, Bool.not_false, reduceIte, Nat.reduceEqDiff, Nat.reduceAdd, Nat.reduceMul, Nat.reduceSub, Nat.reduceLeDiff, Nat.reduceLT, s122, List.cons_append, List.nil_append, hit.w.ld, Nat.zero_add, List.getElem?_cons_zero, List.getElem?_cons_succ, Cells.len hit.f, hin, Cells.idx hit.f hk, Cells.fld hit.f hk, hl1]
    let part : Nat → List (Nat → Int) := fun k => enumB lo hi d (i + 1) fun j => if j = i then lo i + (k : Int) else c j
    have hen : enumB lo hi (d + 1) i c = (List.range (hi i - lo i + 1).toNat).flatMap part := rfl
    have hm : ((hi i - lo i + 1).toNat : Int) = hi i - lo i + 1 := Int.toNat_of_nonneg (by omega)
    rw [hen] at hr ⊢
    generalize hmm : (hi i - lo i + 1).toNat = m at hm hr
    refine W_loop m (fun k f g1 ms => (It pw py pc [F, V, S, T] yv (chooseV pw py pb pc) F nf lo hi g1 ∧ (∃ c', g1.get pb = some (.row (arr c') true 0) ∧ ∀ j, j < i ∨ i + (d + 1) ≤ j → c' j = c j) ∧ J (runL step s ((List.range k).flatMap part)).1 g1 ∧ (runL step s ((List.range k).flatMap part)).2 = true ∧
      g1.floor = fl ∧ g1.next ≤ g.next + K * ((List.range k).flatMap part).length) ∧ ms = [] ∧ f 0 = .int .i64 (i : Int) ∧ f 1 = .pointer (some ⟨pw, 0, none⟩) ∧ f 3 = .pointer (some ⟨pb, 0, none⟩) ∧ f 4 = .pointer (some ⟨pc, 0, none⟩) ∧ f 7 = .int .i64 (lo i + (k : Int))) (by simp; omega) ?_ ?_ ?_
    · simp only [rn0, rn1, rn2, rn3, rn4, rn5, rn6, rn7, rn8, if_true, if_false, Nat.le_refl, true_and, and_true, decide_true, decide_false, Bool.not_true, Bool.not_false, reduceIte, Nat.reduceEqDiff, Nat.reduceAdd, Nat.reduceMul, Nat.reduceSub, Nat.reduceLeDiff, Nat.reduceLT, Int.natCast_zero, Int.add_zero]
      simp only [List.range_zero, List.flatMap_nil, runL, List.length_nil, Nat.mul_zero, Nat.add_zero, Nat.le_refl, and_true]
      exact ⟨hit, ⟨c, hb, fun _ _ => rfl⟩, hj, trivial, hfg⟩
    · rintro k f g1 ms hkm ⟨⟨it1, ⟨c', hb1, hc'⟩, hj1, hr1, hf1, hn1⟩, rfl, f0, f1, f3, f4, f7⟩
      have hle : lo i + (k : Int) ≤ hi i := by omega
      have hl2 : loadCell g1 (ptrO F 2 i 1) = some (.int .i64 (hi i)) := Cells.ld it1.f hk (by omega)
      have hlt := AHeap.lt_of_get hb1
      obtain ⟨rest, hpart⟩ := part_flat part hkm
      have hlen : ((List.range m).flatMap part).length = ((List.range k).flatMap part).length + ((part k).length + rest.length) := by rw [hpart]; simp
      have hK : K * ((List.range m).flatMap part).length = K * ((List.range k).flatMap part).length + (K * (part k).length + K * rest.length) := by rw [hlen, Nat.mul_add, Nat.mul_add]
      simp only [rn0, rn1, rn2, rn3, rn4, rn5, rn6, rn7, rn8, if_true, if_false, Nat.le_refl, true_and, and_true, decide_true, decide_false, Bool.not_true, Bool.not_false, reduceIte, Nat.reduceEqDiff, Nat.reduceAdd, Nat.reduceMul, Nat.reduceSub, Nat.reduceLeDiff, Nat.reduceLT, f0, f1, f3, f4, f7, it1.w.ld, Nat.zero_add, List.getElem?_cons_zero, List.getElem?_cons_succ, Cells.idx it1.f hk, Cells.fld it1.f hk, hl2, hle, idxArr_p (l := 5) (k := i) (by omega)]
      refine step_store (vs := [.int .i64 (lo i + (k : Int))]) rfl hb1 (by omega) (by omega) rfl rfl rfl (by rw [arr_len]; simp; omega) fun g2 hs => ?_
      have hb2 := hs.get
      rw [arr_splice (by omega)] at hb2
      have it2 := it1.set hs d1 d2 d3 hF
      have hw : wrapF .i64 ((i : Int) + 1) = ((i + 1 : Nat) : Int) := by rw [wrap_in (by omega) (by omega)]; rfl
      have hcg : enumB lo hi d (i + 1) (fun j => if j = i then lo i + (k : Int) else c' j) = part k := enumB_congr d (i + 1) _ _ fun j hj => by
        by_cases e : j = i
        · simp [e]
        · simp only [e, if_false]; exact hc' j (by omega)
      have hnx := hs.next
      have hok2 : OkB nf lo hi (i + 1) (fun j => if j = i then lo i + (k : Int) else c' j) := by
        refine ⟨fun j hj => ?_, fun j hj => ?_⟩
        · by_cases e : j = i
          · subst e; simp only [if_true]; omega
          · simp only [e, if_false]; rw [hc' j (by omega)]; exact hok.1 j (by omega)
        · have e : ¬ j = i := by omega
          simp only [e, if_false]; rw [hc' j (by omega)]; exact hok.2 j hj
      obtain ⟨g3, e, j3, it3, ⟨c3, hb3, hc3⟩, fl3, n3⟩ := ih (i + 1) n g2 _ _ (by omega) (by omega) it2 hb2 hok2 (hJ _ _ _ _ hj1 hs) (by rw [hs.floor, hf1]) (by rw [hcg]; omega)
      rw [hcg] at e j3 n3
      have hw2 : wrapF .i64 (lo i + (k : Int) + 1) = lo i + ((k + 1 : Nat) : Int) := by rw [wrap_in (by omega) (by omega)]; omega
      have hc3' : ∀ j, j < i ∨ i + (d + 1) ≤ j → c3 j = c j := fun j hj => by
        rw [hc3 j (by omega), if_neg (by omega)]; exact hc' j hj
      by_cases hq : (runL step (runL step s ((List.range k).flatMap part)).1 (part k)).2 = true
      · have hrun : runL step s ((List.range (k + 1)).flatMap part) = runL step (runL step s ((List.range k).flatMap part)).1 (part k) := by
          rw [List.range_succ, List.flatMap_append, runL_append, hr1, if_pos rfl]; simp
        have hl3 : ((List.range (k + 1)).flatMap part).length = ((List.range k).flatMap part).length + (part k).length := by rw [List.range_succ, List.flatMap_append, List.length_append]; simp
        rw [hq] at e
        simp only [rn0, rn1, rn2, rn3, rn4, rn5, rn6, rn7, rn8, if_true, if_false, Nat.le_refl, true_and, and_true, decide_true, decide_false, Bool.not_true, Bool.not_false, reduceIte, Nat.reduceEqDiff, Nat.reduceAdd, Nat.reduceMul, Nat.reduceSub, Nat.reduceLeDiff, Nat.reduceLT, f0, f1, f3, f4, f7, it2.c.ld, Nat.zero_add, List.getElem?_cons_zero, List.getElem?_cons_succ, hw, e, hw2]
        rw [hrun, hl3, Nat.mul_add]
        exact ⟨it3, ⟨c3, hb3, hc3'⟩, j3, hq, fl3, by omega⟩
      · have hq' : (runL step (runL step s ((List.range k).flatMap part)).1 (part k)).2 = false := by simpa using hq
        have hrun : runL step s ((List.range m).flatMap part) = runL step (runL step s ((List.range k).flatMap part)).1 (part k) := by
          rw [hpart, runL_append, hr1, if_pos rfl, runL_append, hq', if_neg (by simp)]
        rw [hq'] at e
        simp only [rn0, rn1, rn2, rn3, rn4, rn5, rn6, rn7, rn8, if_true, if_false, Nat.le_refl, true_and, and_true, decide_true, decide_false, Bool.not_true, Bool.not_false, reduceIte, Nat.reduceEqDiff, Nat.reduceAdd, Nat.reduceMul, Nat.reduceSub, Nat.reduceLeDiff, Nat.reduceLT, f0, f1, f3, f4, f7, it2.c.ld, Nat.zero_add, List.getElem?_cons_zero, List.getElem?_cons_succ, hw, e]
        rw [hrun, hq']
        exact ⟨rfl, j3, it3, ⟨c3, hb3, hc3'⟩, fl3, by omega⟩
    · rintro f g1 ms ⟨⟨it1, ⟨c', hb1, hc'⟩, hj1, hr1, hf1, hn1⟩, rfl, f0, f1, f3, f4, f7⟩
      have hle : ¬ lo i + (m : Int) ≤ hi i := by omega
      have hl2 : loadCell g1 (ptrO F 2 i 1) = some (.int .i64 (hi i)) := Cells.ld it1.f hk (by omega)
      simp only [rn0, rn1, rn2, rn3, rn4, rn5, rn6, rn7, rn8, if_true, if_false, Nat.le_refl, true_and, and_true, decide_true, decide_false, Bool.not_true, Bool.not_false, reduceIte, Nat.reduceEqDiff, Nat.reduceAdd, Nat.reduceMul, Nat.reduceSub, Nat.reduceLeDiff, Nat.reduceLT, f0, f1, f3, f4, f7, it1.w.ld, Nat.zero_add, List.getElem?_cons_zero, List.getElem?_cons_succ, Cells.idx it1.f hk, Cells.fld it1.f hk, hl2, hle]
      exact ⟨by rw [hr1], hj1, it1, ⟨c', hb1, hc'⟩, hf1, hn1⟩
/-- what lay before lies as it did -/
structure Old (g g1 : AHeap) (k : Nat) : Prop where
  old : ∀ i, i < g.next → g1.get i = g.get i
  next : g1.next = g.next + k
  floor : g1.floor = g.floor
theorem Old.sub {g g1 : AHeap} {k : Nat} (ho : Old g g1 k) : Sub All g g1 := fun i cs w gr _ hg => by rw [ho.old i (AHeap.lt_of_get hg)]; exact hg
def s121 : SCode := (.seq (.ops [⟨(some 2), none, .box (T 0)⟩]) (.seq (.ops [⟨(some 3), none, .alloc [(.int .i64 (0)), (.int .i64 (0)), (.int .i64 (0)), (.int .i64 (0)), (.int .i64 (0))]⟩]) (.seq (.ops [⟨(some 4), none, .alloc [.nilFunc]⟩]) (.seq (.ops [⟨(some 5), none, .mkfunc 122 [] [(T 1), (T 2), (T 3), (T 4)]⟩, ⟨none, none, .store 1 (T 4) (T 5)⟩]) (.ops [⟨(some 6), none, .load1 (T 4)⟩, ⟨(some 7), none, .call (T 6) [(.const (.int .i64 (0)))]⟩])))))
theorem fok121 : FnOk Try.prog 121 8 s121 [] := ⟨Try.f121, _, Try.func121, rfl, Try.ntmps121, by kernel_rfl, by kernel_rfl⟩
theorem iter_c (step : σ → (Nat → Int) → σ × Bool) (J : σ → AHeap → Prop) {g : AHeap} {pw K N0 n : Nat} {F V S T yv : Value} {nf : Nat} {lo hi : Nat → Int} (s : σ) (hsz : nf ≤ 5) (hv : ∀ k, k < nf → 0 ≤ lo k ∧ lo k ≤ hi k ∧ hi k ≤ 20)
    (hw : Row g pw [F, V, S, T]) (hf : Ranges g F nf lo hi) (hyv : oneCell yv = true) (hfl : g.floor ≤ g.next) (hN : 10002 ≤ N0) (hn : N0 + 7 ≤ n)
    (hJ : ∀ s g1 g' cs, J s g1 → Set1 g1 g' (g.next + 1) cs 0 → J s g')
    (hJ0 : ∀ g3, Old g g3 3 → J s g3)
    (hY : ∀ n g1 s c, N0 ≤ n → It pw g.next (g.next + 2) [F, V, S, T] yv (chooseV pw g.next (g.next + 1) (g.next + 2)) F nf lo hi g1 → g1.get (g.next + 1) = some (.row (arr c) true 0) → OkB nf lo hi nf c → J s g1 → g1.floor = g.floor → g1.next + K < far →
      ∃ g', call n yv [.agg ⟨arr c⟩] g1 = some (.bool (step s c).2, g') ∧ J (step s c).1 g' ∧ It pw g.next (g.next + 2) [F, V, S, T] yv (chooseV pw g.next (g.next + 1) (g.next + 2)) F nf lo hi g' ∧ g'.get (g.next + 1) = some (.row (arr c) true 0) ∧ g'.floor = g.floor ∧ g'.next ≤ g1.next + K)
    (hr : g.next + 3 + K * (enumB lo hi nf 0 fun _ => 0).length < far) :
    ∃ v g', call n (.func (.func 121) ⟨[]⟩ ⟨[.pointer (some ⟨pw, 0, none⟩)]⟩) [yv] g = some (v, g') ∧ J (runL step s (enumB lo hi nf 0 fun _ => 0)).1 g' ∧ g'.floor = g.floor ∧ g'.next ≤ g.next + 3 + K * (enumB lo hi nf 0 fun _ => 0).length := by
  obtain ⟨n, rfl⟩ : ∃ p, n = p + 1 := ⟨n - 1, by omega⟩
  refine call_any (xs := []) (ys := [.pointer (some ⟨pw, 0, none⟩)]) fok121 rfl rfl (by simp) ?_
  simp only [s121, List.cons_append, List.nil_append, W_seq, W_ops]
  refine ops_box (cs := [yv]) (by omega) (by simp only [rn0, rn1, rn2, rn3, rn4, rn5, rn6, rn7, rn8, if_true, if_false, Nat.le_refl, true_and, and_true, decide_true, decide_false, Bool.not_true, Bool.not_false, reduceIte, Nat.reduceEqDiff, Nat.reduceAdd, Nat.reduceMul, Nat.reduceSub, Nat.reduceLeDiff, Nat.reduceLT]; cases yv <;> first | rfl | cases hyv) (by simp [allB, hyv]) fun g1 hx1 => ?_
  have n1 := hx1.next
  have f1 := hx1.floor
  simp only [rn0, rn1, rn2, rn3, rn4, rn5, rn6, rn7, rn8, if_true, if_false, Nat.le_refl, true_and, and_true, decide_true, decide_false, Bool.not_true, Bool.not_false, reduceIte, Nat.reduceEqDiff, Nat.reduceAdd, Nat.reduceMul, Nat.reduceSub, Nat.reduceLeDiff, Nat.reduceLT]
  refine step_row (cs := arr fun _ => 0) (by omega) rfl arr_one fun g2 hx2 => ?_
  have n2 := hx2.next
  have f2 := hx2.floor
  simp only [rn0, rn1, rn2, rn3, rn4, rn5, rn6, rn7, rn8, if_true, if_false, Nat.le_refl, true_and, and_true, decide_true, decide_false, Bool.not_true, Bool.not_false, reduceIte, Nat.reduceEqDiff, Nat.reduceAdd, Nat.reduceMul, Nat.reduceSub, Nat.reduceLeDiff, Nat.reduceLT]
  refine step_row (cs := [.nilFunc]) (by omega) rfl rfl fun g3 hx3 => ?_
  have n3 := hx3.next
  have f3 := hx3.floor
  have hpw : pw < g.next := by obtain ⟨w, gr, e⟩ := hw; exact AHeap.lt_of_get e
  simp only [rn0, rn1, rn2, rn3, rn4, rn5, rn6, rn7, rn8, if_true, if_false, Nat.le_refl, true_and, and_true, decide_true, decide_false, Bool.not_true, Bool.not_false, reduceIte, Nat.reduceEqDiff, Nat.reduceAdd, Nat.reduceMul, Nat.reduceSub, Nat.reduceLeDiff, Nat.reduceLT]
  have e1 : g1.next = g.next + 1 := n1
  have e2 : g2.next = g.next + 2 := by omega
  rw [e1, e2]
  refine step_store (b := g.next + 2) (gr := 0) (vs := [chooseV pw g.next (g.next + 1) (g.next + 2)]) rfl (by have := hx3.get; rw [e2] at this; exact this) (by omega) (by omega) rfl rfl rfl (by simp) fun g4 hs => ?_
  have hc4 := hs.row
  have hs4 : ∀ i, i < g.next + 2 → g4.get i = g2.get i := fun i hi => by rw [hs.old i (by omega), hx3.old i (by omega)]
  have hb4 : g4.get (g.next + 1) = some (.row (arr fun _ => 0) true 0) := by
    rw [hs4 _ (by omega)]; have := hx2.get; rw [e1] at this; exact this
  have hy4 : g4.get g.next = some (.row [yv] true 0) := by
    rw [hs4 _ (by omega), hx2.old _ (by omega)]; exact hx1.get
  have ho4 : Old g g4 3 := ⟨fun i hi => by rw [hs4 i (by omega), hx2.old i (by omega), hx1.old i hi], by have := hs.next; omega, by have := hs.floor; omega⟩
  have hF : ∀ a k cap, F = .slice (some a) k cap → a.block ≠ g.next + 1 ∨ nf = 0 := by
    intro a k cap e
    obtain ⟨a', cap', e', _, h0 | ⟨b, o, cs, w, gr, e2, e3, _⟩⟩ := hf
    · exact .inr h0
    · left
      rw [e] at e'
      cases e'
      cases e2
      have := AHeap.lt_of_get e3
      show b ≠ _
      omega
  have hit : It pw g.next (g.next + 2) [F, V, S, T] yv (chooseV pw g.next (g.next + 1) (g.next + 2)) F nf lo hi g4 := ⟨hw.mono ho4.sub, ⟨_, _, hy4⟩, by simpa [splice] using hc4, Cells.mono hf ho4.sub⟩
  have hch := choose_c step J (pw := pw) (py := g.next) (pb := g.next + 1) (pc := g.next + 2) (K := K) (N0 := N0) (fl := g.floor) (F := F) (V := V) (S := S) (T := T) (yv := yv) (nf := nf) (lo := lo) (hi := hi) hsz hv (by omega) (by omega) (by omega) hF (by omega) hN hJ hY nf 0 n g4 s (fun _ => 0) (by omega) (by omega) hit hb4 ⟨fun j hj => by omega, fun _ _ => rfl⟩ (hJ0 _ ho4) ho4.floor (by have := ho4.next; omega)
  obtain ⟨g5, q1, q2, q3, q4, q5, q6⟩ := hch
  have hl : loadCell g4 (.pointer (some ⟨g.next + 2, 0, none⟩)) = some (chooseV pw g.next (g.next + 1) (g.next + 2)) := by rw [hc4.ld]; simp [splice]
  have q1' : call n (chooseV pw g.next (g.next + 1) (g.next + 2)) [.int .i64 0] g4 = some (.bool (runL step s (enumB lo hi nf 0 fun _ => 0)).2, g5) := q1
  simp only [rn0, rn1, rn2, rn3, rn4, rn5, rn6, rn7, rn8, if_true, if_false, Nat.le_refl, true_and, and_true, decide_true, decide_false, Bool.not_true, Bool.not_false, reduceIte, Nat.reduceEqDiff, Nat.reduceAdd, Nat.reduceMul, Nat.reduceSub, Nat.reduceLeDiff, Nat.reduceLT, hl, q1']
  exact ⟨_, rfl, q2, by rw [q5], by have := ho4.next; omega⟩
end
end Go.Vm.Vat

namespace Go.Vm.Vat
open Go.Proofs
set_option linter.unusedSimpArgs false
set_option linter.unusedVariables false
set_option maxRecDepth 10000
variable {n : Nat} {h : AHeap}
/-! ### The truths of a yard -/
/-- how many ways there are to fill d fields from i on -/
def prodFrom (lo hi : Nat → Int) : Nat → Nat → Int
  | 0, _ => 1
  | d + 1, i => (hi i - lo i + 1) * prodFrom lo hi d (i + 1)
theorem sizeN_prod {lo hi : Nat → Int} : ∀ (d i : Nat), sizeN lo hi (i + d) = sizeN lo hi i * prodFrom lo hi d i
  | 0, i => by simp [prodFrom]
  | d + 1, i => by
    have := sizeN_prod (lo := lo) (hi := hi) d (i + 1)
    rw [show i + (d + 1) = i + 1 + d by omega, this]
    simp only [sizeN, prodFrom, Int.mul_assoc]
theorem enumB_len {lo hi : Nat → Int} : ∀ (d i : Nat) (c : Nat → Int), (∀ k, i ≤ k → k < i + d → lo k ≤ hi k) → ((enumB lo hi d i c).length : Int) = prodFrom lo hi d i
  | 0, i, c, _ => by simp [enumB, prodFrom]
  | d + 1, i, c, hv => by
    have h0 := hv i (by omega) (by omega)
    have hm : ((hi i - lo i + 1).toNat : Int) = hi i - lo i + 1 := Int.toNat_of_nonneg (by omega)
    have : ∀ m : Nat, ((((List.range m).flatMap fun (k : Nat) => enumB lo hi d (i + 1) fun j => if j = i then lo i + (k : Int) else c j).length : Nat) : Int) = m * prodFrom lo hi d (i + 1) := by
      intro m
      induction m with
      | zero => simp
      | succ m ih =>
        rw [List.range_succ, List.flatMap_append, List.length_append]
        have e := enumB_len d (i + 1) (fun j => if j = i then lo i + (m : Int) else c j) fun k h1 h2 => hv k (by omega) (by omega)
        simp only [List.flatMap_cons, List.flatMap_nil, List.append_nil]
        rw [Int.natCast_add, ih, e, Int.natCast_add, Int.add_mul]
        simp
    simp only [enumB, prodFrom]
    rw [this, hm]
theorem enumB_ok {lo hi : Nat → Int} : ∀ (d i : Nat) (c x : Nat → Int), x ∈ enumB lo hi d i c ↔ ((∀ j, i ≤ j → j < i + d → lo j ≤ x j ∧ x j ≤ hi j) ∧ ∀ j, j < i ∨ i + d ≤ j → x j = c j)
  | 0, i, c, x => by
    simp only [enumB, List.mem_singleton]
    constructor
    · rintro rfl; exact ⟨fun j h1 h2 => by omega, fun _ _ => rfl⟩
    · rintro ⟨_, h2⟩; exact funext fun j => h2 j (by omega)
  | d + 1, i, c, x => by
    simp only [enumB, List.mem_flatMap, List.mem_range, enumB_ok d (i + 1)]
    constructor
    · rintro ⟨k, hk, h1, h2⟩
      refine ⟨fun j h3 h4 => ?_, fun j hj => ?_⟩
      · by_cases e : j = i
        · subst e
          have := h2 j (by omega)
          simp only [if_true] at this
          omega
        · exact h1 j (by omega) (by omega)
      · have := h2 j (by omega)
        rw [if_neg (by omega)] at this
        exact this
    · rintro ⟨h1, h2⟩
      obtain ⟨h3, h4⟩ := h1 i (by omega) (by omega)
      refine ⟨(x i - lo i).toNat, by omega, fun j h5 h6 => h1 j (by omega) (by omega), fun j hj => ?_⟩
      by_cases e : j = i
      · subst e; simp only [if_true]; omega
      · simp only [e, if_false]; exact h2 j (by omega)
/-- the blues with which all samples are right, in order -/
noncomputable def truths (Y : MY) : List (Nat → Int) := open Classical in (enumB Y.lo Y.hi Y.nf 0 fun _ => 0).filter fun c => decide (∀ k, k < Y.ns → RightB Y c k)
noncomputable def truthStep (Y : MY) (s : List (Nat → Int)) (c : Nat → Int) : List (Nat → Int) × Bool := open Classical in (if (∀ k, k < Y.ns → RightB Y c k) then s ++ [c] else s, true)
theorem runL_truth {Y : MY} : ∀ (l s : List (Nat → Int)), runL (truthStep Y) s l = (s ++ (open Classical in l.filter fun c => decide (∀ k, k < Y.ns → RightB Y c k)), true)
  | [], s => by simp [runL]
  | x :: l, s => by
    simp only [runL, truthStep, if_true]
    have := runL_truth (Y := Y) l
    by_cases e : ∀ k, k < Y.ns → RightB Y x k
    · rw [if_pos e, this, List.filter_cons, if_pos (by simpa using e)]; simp
    · rw [if_neg e, this, List.filter_cons, if_neg (by simpa using e)]
/-- a list of truths lies in memory -/
def TruthsR (h : AHeap) (v : Value) (l : List (Nat → Int)) : Prop := Cells h v 5 l.length fun k j => .int .i64 ((l.getD k fun _ => 0) j)
theorem _root_.Go.Vm.Cells.old {g : AHeap} {v : Value} {s n : Nat} {c : Nat → Nat → Value} (hc : Cells h v s n c) (ho : ∀ i, i < h.next → g.get i = h.get i) : Cells g v s n c :=
  hc.mono fun i cs w gr _ hg => by rw [ho i (AHeap.lt_of_get hg)]; exact hg
theorem _root_.Go.Vm.AHeap.subOf {g : AHeap} (ho : ∀ i, i < h.next → g.get i = h.get i) : Sub All h g := fun i cs w gr _ hg => by rw [ho i (AHeap.lt_of_get hg)]; exact hg
theorem fault_size {Y : MY} (hf : faultN Y = 0) : Good Y ∧ sizeN Y.lo Y.hi Y.nf ≤ 2000 := by
  have hG := good_of hf
  refine ⟨hG, ?_⟩
  have hF : ∀ k, k < Y.nf → 0 ≤ Y.lo k ∧ Y.lo k ≤ Y.hi k ∧ Y.hi k ≤ 20 := hG.f
  have hsm := sizeN_many (by have := hG.sz.1; omega) hF Y.nf (Nat.le_refl _)
  unfold faultN at hf
  rw [if_neg (by simpa using hG.sz), if_pos ⟨hG.f, hG.v, hG.s⟩] at hf
  by_cases hm : 2000 < manyN Y.lo Y.hi Y.nf
  · rw [if_pos hm] at hf; cases hf
  · omega
theorem call_yield {l : Nat} {args : List Value} : call (n + 1) (.func (.yield l) #[] #[]) args h = roundA Try.prog (call n) n l args h := rfl
def s105 : SCode := (.seq (.ops [⟨(some 1), none, .box (T 0)⟩, ⟨(some 2), none, .mov (.const .nilFunc)⟩]) (.seq (.ops [⟨(some 3), none, .mkfunc 121 [] [(T 1)]⟩, ⟨(some 2), none, .mov (T 3)⟩]) .ret))
theorem fok105 : FnOk Try.prog 105 4 s105 [.tmp 2] := ⟨Try.f105, _, Try.func105, rfl, Try.ntmps105, by kernel_rfl, by kernel_rfl⟩
theorem allBlues_c (hn : 1 ≤ n) (hr : h.next < far) {F V S T : Value} (h1 : allB oneCell [F, V, S, T] = true) :
    ∃ h', call n (.func (.func 105) #[] #[]) [.agg ⟨[F, V, S, T]⟩] h = some (.func (.func 121) ⟨[]⟩ ⟨[.pointer (some ⟨h.next, 0, none⟩)]⟩, h') ∧ New h h' [F, V, S, T] 0 := by
  obtain ⟨n, rfl⟩ : ∃ p, n = p + 1 := ⟨n - 1, by omega⟩
  suffices hs : ∃ v h', call (n + 1) (.func (.func 105) #[] #[]) [.agg ⟨[F, V, S, T]⟩] h = some (v, h') ∧ v = .func (.func 121) ⟨[]⟩ ⟨[.pointer (some ⟨h.next, 0, none⟩)]⟩ ∧ New h h' [F, V, S, T] 0 by
    obtain ⟨v, h', e, rfl, hx⟩ := hs
    exact ⟨h', e, hx⟩
  refine call_any0 fok105 rfl rfl (by simp) ?_
  simp only [s105, W_seq, W_ops]
  refine ops_box (cs := [F, V, S, T]) (by omega) rfl h1 fun g1 hx1 => ?_
  simp only [rn0, rn1, rn2, rn3, rn4, rn5, rn6, rn7, rn8, if_true, if_false, Nat.le_refl, true_and, and_true, decide_true, decide_false, Bool.not_true, Bool.not_false, reduceIte, Nat.reduceEqDiff, Nat.reduceAdd, Nat.reduceMul, Nat.reduceSub, Nat.reduceLeDiff, Nat.reduceLT]
  exact hx1
/-- what 'open' keeps while it goes through the blues -/
structure JO (h2 : AHeap) (p : Nat) (F V S : Value) (s : List (Nat → Int)) (g : AHeap) : Prop where
  old : ∀ i, i < h2.next → i ≠ p → g.get i = h2.get i
  tv : ∃ tv, g.get p = some (.row [F, V, S, tv] true 0) ∧ GrowC (h2.next + 3) g tv 5 s.length fun k j => .int .i64 ((s.getD k fun _ => 0) j)
  up : h2.next + 3 ≤ g.next
  len : s.length ≤ g.next
theorem arr_eq {c : Nat → Int} : arr c = [.int .i64 (c 0), .int .i64 (c 1), .int .i64 (c 2), .int .i64 (c 3), .int .i64 (c 4)] := rfl
theorem sl_arr {c : Nat → Int} : buildSl 5 1 [.int .i64 0, .int .i64 0, .int .i64 0, .int .i64 0, .int .i64 0] [0] h [.agg ⟨arr c⟩] = newSlice h (arr c) 1 1 0 := by rw [arr_eq]; exact id rfl
/-- a slice that is no longer than its capacity, if that is 1 -/
def Long (v : Value) : Prop := ∀ a n c, v = .slice a n c → c = 1 → n ≤ 1
theorem _root_.Go.Vm.GrowC.long {B s n : Nat} {v : Value} {c : Nat → Nat → Value} (hg : GrowC B h v s n c) : Long v := by
  obtain ⟨cs, ⟨rfl, _, _⟩ | ⟨b, rfl, _⟩, _⟩ := hg
  · intro a n c e; cases e; intro _; omega
  · intro a n c e; cases e; intro h; simp [unk] at h
/-- what 'open' answers -/
def OpenR (h : AHeap) (Y : MY) (F V S v : Value) (h' : AHeap) : Prop := Made h h' 230000 ∧
  ((faultN Y ≠ 0 ∧ v = .tuple ⟨[.agg ⟨[nilS, nilS, nilS, nilS]⟩, .int .i64 (faultN Y)]⟩) ∨ (faultN Y = 0 ∧ ∃ tv, v = .tuple ⟨[.agg ⟨[F, V, S, tv]⟩, .int .i64 0]⟩ ∧ TruthsR h' tv (truths Y) ∧ Long tv))
theorem build_work0 : buildA (fun x => (#[(0, 3), (3, 1)] : Array (Nat × Nat))[x]?) ⟨[.slice none 0 0, .slice none 0 0, .slice none 0 0, .slice none 0 0]⟩ [] h [] = some (.agg ⟨[nilS, nilS, nilS, nilS]⟩, h) := id rfl
noncomputable def s78 : SCode := (.seq (.ops [⟨(some 1), none, .box (T 0)⟩, ⟨(some 2), none, .alloc [(.slice none 0 0), (.slice none 0 0), (.slice none 0 0), (.slice none 0 0)]⟩, ⟨(some 3), none, .mov (.const (.int .i64 (0)))⟩]) (.seq (.seq (.ops [⟨(some 7), none, .loadN 3 (T 1)⟩, ⟨(some 8), none, .call (.func 30) [(T 7)]⟩, ⟨(some 4), none, .mov (T 8)⟩]) (.seq (.ops [⟨(some 9), none, .mov (T 4)⟩, ⟨(some 10), none, .int2 .neq (T 9) (.const (.int .i64 (0)))⟩]) (.cond (T 10) (.seq (.ops [⟨(some 11), none, .build #[(0, 3), (3, 1)] [(.slice none 0 0), (.slice none 0 0), (.slice none 0 0), (.slice none 0 0)] [] []⟩, ⟨(some 12), none, .mov (T 4)⟩, ⟨none, none, .store 4 (T 2) (T 11)⟩, ⟨(some 3), none, .mov (T 12)⟩]) .ret) .skip))) (.seq (.ops [⟨(some 13), none, .loadN 3 (T 1)⟩, ⟨(some 14), none, .build #[(0, 3), (3, 1)] [(.slice none 0 0), (.slice none 0 0), (.slice none 0 0), (.slice none 0 0)] [0] [(T 13)]⟩, ⟨(some 5), none, .alloc [(.slice none 0 0), (.slice none 0 0), (.slice none 0 0), (.slice none 0 0)]⟩, ⟨none, none, .store 4 (T 5) (T 14)⟩]) (.seq (.seq (.ops [⟨(some 15), none, .loadN 4 (T 5)⟩, ⟨(some 16), none, .call (.func 105) [(T 15)]⟩]) (.block 0 (.range (T 16) #[17] (rangeOf Try.f78 0).1 (rangeOf Try.f78 0).2))) (.seq (.ops [⟨(some 27), none, .loadN 4 (T 5)⟩, ⟨none, none, .store 4 (T 2) (T 27)⟩, ⟨(some 3), none, .mov (.const (.int .i64 (0)))⟩]) .ret)))))
theorem fok78 : FnOk Try.prog 78 28 s78 [.cellN 2 4, .tmp 3] := ⟨Try.f78, _, Try.func78, rfl, Try.ntmps78, by kernel_rfl, by kernel_rfl⟩
def ra78_0 : SCode := (.ops [⟨(some 6), none, .alloc [(.int .i64 (0)), (.int .i64 (0)), (.int .i64 (0)), (.int .i64 (0)), (.int .i64 (0))]⟩, ⟨none, none, .store 5 (T 6) (T 17)⟩])
theorem raok78_0 : compCode Try.prog 28 (rangeOf Try.f78 0).1 = some ra78_0 := by kernel_rfl
def rb78_0 : SCode := (.block 1 (.seq (.ops [⟨(some 18), none, .loadN 4 (T 5)⟩, ⟨(some 19), none, .loadN 5 (T 6)⟩, ⟨(some 20), none, .call (.func 114) [(T 18), (T 19)]⟩]) (.cond (T 20) (.ops [⟨(some 21), none, .fieldAddr 3 (T 5)⟩, ⟨(some 22), none, .load1 (T 21)⟩, ⟨(some 23), none, .loadN 5 (T 6)⟩, ⟨(some 24), none, .bslice 5 1 [(.int .i64 (0)), (.int .i64 (0)), (.int .i64 (0)), (.int .i64 (0)), (.int .i64 (0))] [0] [(T 23)]⟩, ⟨(some 25), none, .append 5 40 (T 22) (T 24)⟩, ⟨(some 26), none, .fieldAddr 3 (T 5)⟩, ⟨none, none, .store 1 (T 26) (T 25)⟩]) .skip)))
theorem rbok78_0 : compCode Try.prog 28 (rangeOf Try.f78 0).2 = some rb78_0 := by kernel_rfl
theorem open_c (hn : 10040 ≤ n) (hr : h.next + 300000 < far) (hfl : h.floor ≤ h.next) {F V S : Value} {Y : MY} (hy : YardR h F V S Y) (hY : Thin Y) :
    ∃ v h', call n (.func (.func 78) #[] #[]) [.agg ⟨[F, V, S]⟩] h = some (v, h') ∧ OpenR h Y F V S v h' := by
  obtain ⟨n, rfl⟩ : ∃ p, n = p + 1 := ⟨n - 1, by omega⟩
  refine call_any0 fok78 rfl rfl (by simp) ?_
  simp only [s78, W_seq, W_ops]
  refine ops_box (cs := [F, V, S]) (by omega) rfl hy.one fun g1 hx1 => ?_
  have n1 := hx1.next
  have f1 := hx1.floor
  simp only [rn0, rn1, rn2, rn3, rn4, rn5, rn6, rn7, rn8, if_true, if_false, Nat.le_refl, true_and, and_true, decide_true, decide_false, Bool.not_true, Bool.not_false, reduceIte, Nat.reduceEqDiff, Nat.reduceAdd, Nat.reduceMul, Nat.reduceSub, Nat.reduceLeDiff, Nat.reduceLT]
  refine step_row (cs := [nilS, nilS, nilS, nilS]) (by omega) rfl rfl fun g2 hx2 => ?_
  have n2 := hx2.next
  have f2 := hx2.floor
  have e1 : g1.next = h.next + 1 := n1
  have e2 : g2.next = h.next + 2 := by omega
  have hy2 := (hy.mono hx1.sub).mono hx2.sub
  have w1 := (hx1.row.mono hx2.sub).whole (n := 3) rfl
  have ec := checkYard_c (n := n) (h := g2) (by omega) (by omega) hy2 hY
  have hr2 : g2.get (h.next + 1) = some (.row [nilS, nilS, nilS, nilS] true 0) := by have := hx2.get; rw [e1] at this; exact this
  have old2 : ∀ i, i < h.next → g2.get i = h.get i := fun i hi => by rw [hx2.old i (by omega), hx1.old i hi]
  by_cases hf : faultN Y = 0
  case neg =>
    simp only [rn0, rn1, rn2, rn3, rn4, rn5, rn6, rn7, rn8, if_true, if_false, Nat.le_refl, true_and, and_true, decide_true, decide_false, Bool.not_true, Bool.not_false, reduceIte, Nat.reduceEqDiff, Nat.reduceAdd, Nat.reduceMul, Nat.reduceSub, Nat.reduceLeDiff, Nat.reduceLT, w1, ec, hf, build_work0, e1]
    refine step_store (vs := [nilS, nilS, nilS, nilS]) rfl hr2 (by omega) (by omega) rfl rfl rfl (by simp) fun g3 hs => ?_
    have hrow := hs.row.whole (n := 4) rfl
    simp only [rn0, rn1, rn2, rn3, rn4, rn5, rn6, rn7, rn8, if_true, if_false, Nat.le_refl, true_and, and_true, decide_true, decide_false, Bool.not_true, Bool.not_false, reduceIte, Nat.reduceEqDiff, Nat.reduceAdd, Nat.reduceMul, Nat.reduceSub, Nat.reduceLeDiff, Nat.reduceLT, res_two, hrow]
    refine ⟨⟨AHeap.subOf fun i hi => by rw [hs.old i (by omega), old2 i hi], by have := hs.next; omega, by have := hs.next; omega, by rw [hs.floor, f2, f1]⟩, .inl ⟨hf, ?_⟩⟩
    simp [splice]
  obtain ⟨hG, hsz⟩ := fault_size hf
  obtain ⟨z1, z2, z3⟩ := hG.sz
  have hF : ∀ k, k < Y.nf → 0 ≤ Y.lo k ∧ Y.lo k ≤ Y.hi k ∧ Y.hi k ≤ 20 := hG.f
  have ho4 : ∀ T, oneCell T = true → allB oneCell [F, V, S, T] = true := fun T hT => by have := hy.one; simp [allB] at this ⊢; simp [this, hT]
  have hlenE : (enumB Y.lo Y.hi Y.nf 0 fun _ => 0).length ≤ 2000 := by
    have h1 := enumB_len (lo := Y.lo) (hi := Y.hi) Y.nf 0 (fun _ => 0) fun k _ hk => (hF k (by omega)).2.1
    have h2 := sizeN_prod (lo := Y.lo) (hi := Y.hi) Y.nf 0
    simp only [Nat.zero_add, sizeN, Int.one_mul] at h2
    omega
  simp only [rn0, rn1, rn2, rn3, rn4, rn5, rn6, rn7, rn8, if_true, if_false, Nat.le_refl, true_and, and_true, decide_true, decide_false, Bool.not_true, Bool.not_false, reduceIte, Nat.reduceEqDiff, Nat.reduceAdd, Nat.reduceMul, Nat.reduceSub, Nat.reduceLeDiff, Nat.reduceLT, w1, ec, hf, build_work]
  refine step_new (vs := [F, V, S, nilS]) (by omega) (by omega) rfl (by simp only [rn0, rn1, rn2, rn3, rn4, rn5, rn6, rn7, rn8, if_true, if_false, Nat.le_refl, true_and, and_true, decide_true, decide_false, Bool.not_true, Bool.not_false, reduceIte, Nat.reduceEqDiff, Nat.reduceAdd, Nat.reduceMul, Nat.reduceSub, Nat.reduceLeDiff, Nat.reduceLT]; rfl) (ho4 _ rfl) rfl rfl fun g3 hx3 => ?_
  have n3 := hx3.next
  have f3 := hx3.floor
  rw [e2] at n3
  have w3 := hx3.row.whole (n := 4) rfl
  rw [e2] at w3
  obtain ⟨g4, e4, hx4⟩ := allBlues_c (n := n) (h := g3) (F := F) (V := V) (S := S) (T := nilS) (by omega) (by omega) (ho4 _ rfl)
  have n4 := hx4.next
  have f4 := hx4.floor
  rw [e1, e2]
  simp only [rn0, rn1, rn2, rn3, rn4, rn5, rn6, rn7, rn8, if_true, if_false, Nat.le_refl, true_and, and_true, decide_true, decide_false, Bool.not_true, Bool.not_false, reduceIte, Nat.reduceEqDiff, Nat.reduceAdd, Nat.reduceMul, Nat.reduceSub, Nat.reduceLeDiff, Nat.reduceLT, w3, e4]
  refine W_range' rfl (by omega) (by simp only [rn0, rn1, rn2, rn3, rn4, rn5, rn6, rn7, rn8, if_true, if_false, Nat.le_refl, true_and, and_true, decide_true, decide_false, Bool.not_true, Bool.not_false, reduceIte, Nat.reduceEqDiff, Nat.reduceAdd, Nat.reduceMul, Nat.reduceSub, Nat.reduceLeDiff, Nat.reduceLT]; rfl) fun f0 hf0 ts hv h2 hl => ?_
  have f5 : f0 5 = .pointer (some ⟨h.next + 2, 0, none⟩) := by rw [hf0]; simp only [rn0, rn1, rn2, rn3, rn4, rn5, rn6, rn7, rn8, if_true, if_false, Nat.le_refl, true_and, and_true, decide_true, decide_false, Bool.not_true, Bool.not_false, reduceIte, Nat.reduceEqDiff, Nat.reduceAdd, Nat.reduceMul, Nat.reduceSub, Nat.reduceLeDiff, Nat.reduceLT]
  have f2' : f0 2 = .pointer (some ⟨h.next + 1, 0, none⟩) := by rw [hf0]; simp only [rn0, rn1, rn2, rn3, rn4, rn5, rn6, rn7, rn8, if_true, if_false, Nat.le_refl, true_and, and_true, decide_true, decide_false, Bool.not_true, Bool.not_false, reduceIte, Nat.reduceEqDiff, Nat.reduceAdd, Nat.reduceMul, Nat.reduceSub, Nat.reduceLeDiff, Nat.reduceLT]
  clear hf0
  have nl := hl.next
  have fl := hl.floor
  have en : g4.next = h.next + 4 := by omega
  have hbase : ∀ i, i < h.next → h2.get i = h.get i := fun i hi => by rw [hl.old i (by omega), hx4.old i (by omega), hx3.old i (by omega), old2 i hi]
  have hp2 : h2.get (h.next + 2) = some (.row [F, V, S, nilS] true 0) := by
    rw [hl.old _ (by omega), hx4.old _ (by omega)]; have := hx3.get; rw [e2] at this; exact this
  have hr2' : h2.get (h.next + 1) = some (.row [nilS, nilS, nilS, nilS] true 0) := by
    rw [hl.old _ (by omega), hx4.old _ (by omega), hx3.old _ (by omega)]; exact hr2
  have hpw : Row h2 (h.next + 3) [F, V, S, nilS] := by
    have := hx4.row.mono hl.sub
    rw [n3] at this
    exact this
  have hloop := hl.loop
  have hmark := hl.mark
  rw [en] at hloop hmark
  rw [en]
  rw [en] at hl
  generalize hr0 : loopO _ ts _ _ _ _ = r at hloop ⊢
  have r1 : r.state = .ready := by rw [← hr0]; rfl
  have r2 : View 28 r.tmps f0 := by rw [← hr0]; exact hv
  have r3 : r.params = #[17] := by rw [← hr0]; rfl
  have r4 : compCode Try.prog 28 r.assign = some ra78_0 := by rw [← hr0]; exact raok78_0
  have r5 : compCode Try.prog 28 r.body = some rb78_0 := by rw [← hr0]; exact rbok78_0
  have r6 : leftBy r .norm = r := by rw [← hr0]; rfl
  clear hr0 hl hv
  have hit := iter_c (truthStep Y) (JO h2 (h.next + 2) F V S) (g := h2) (pw := h.next + 3) (K := 110) (N0 := 10010) (n := n) (F := F) (V := V) (S := S) (T := nilS) (yv := .func (.yield (h.next + 5)) #[] #[]) (nf := Y.nf) (lo := Y.lo) (hi := Y.hi) [] z1 hF hpw (Cells.old hy.f hbase) rfl (by omega) (by omega) (by omega)
    (fun s g1 g' cs hj hs => by
      obtain ⟨tv, t1, t2⟩ := hj.tv
      exact ⟨fun i hi hne => by rw [hs.old i (by omega)]; exact hj.old i hi hne, ⟨tv, by rw [hs.old _ (by omega)]; exact t1, t2.keep hs.keep (by omega)⟩, by have := hj.up; have := hs.next; omega, by have := hj.len; have := hs.next; omega⟩)
    (fun g3 ho => ⟨fun i hi _ => ho.old i hi, ⟨nilS, by rw [ho.old _ (by omega)]; exact hp2, .nil⟩, by have := ho.next; omega, by simp⟩)
    (fun m g1 s c hm it hb hok hj hfg hr1 => by
      obtain ⟨m, rfl⟩ : ∃ p, m = p + 1 := ⟨m - 1, by omega⟩
      rw [call_yield]
      obtain ⟨tv, hp, gr⟩ := hj.tv
      have hup := hj.up
      have hloop1 : g1.get (h.next + 5) = some (.loop r) := by rw [hj.old _ (by omega) (by omega)]; exact hloop
      suffices key : ∃ e g', roundA Try.prog (call m) m (h.next + 5) [.agg ⟨arr c⟩] g1 = some (.bool (goesOn e), g') ∧ (e = .norm ∧ JO h2 (h.next + 2) F V S (truthStep Y s c).1 g' ∧ (∀ i, i < h2.next + 3 → i ≠ h.next + 2 → g'.get i = g1.get i) ∧ g'.floor = h2.floor ∧ g'.next ≤ g1.next + 110) by
        obtain ⟨e, g', k1, rfl, k2, k3, k4, k5⟩ := key
        have kb : ∀ i, i < h.next → g'.get i = h.get i := fun i hi => by rw [k3 i (by omega) (by omega), hj.old i (by omega) (by omega), hbase i hi]
        have krow : ∀ i cs, i < h2.next + 3 → i ≠ h.next + 2 → Row g1 i cs → Row g' i cs := fun i cs h1 h2 ⟨w, gr, e⟩ => ⟨w, gr, by rw [k3 i h1 h2]; exact e⟩
        refine ⟨g', k1, k2, ⟨krow _ _ (by omega) (by omega) it.w, krow _ _ (by omega) (by omega) it.y, krow _ _ (by omega) (by omega) it.c, Cells.old hy.f kb⟩, by rw [k3 _ (by omega) (by omega)]; exact hb, k4, k5⟩
      refine round_run (f := f0) hloop1 r1 r2 (by rw [r3]; rfl) (by omega) r4 r5 ?_
      have hset : setFr f0 r.params.toList [.agg ⟨arr c⟩] = upd f0 17 (.agg ⟨arr c⟩) := by rw [r3]; rfl
      rw [hset]
      simp only [rn0, rn1, rn2, rn3, rn4, rn5, rn6, rn7, rn8, if_true, if_false, Nat.le_refl, true_and, and_true, decide_true, decide_false, Bool.not_true, Bool.not_false, reduceIte, Nat.reduceEqDiff, Nat.reduceAdd, Nat.reduceMul, Nat.reduceSub, Nat.reduceLeDiff, Nat.reduceLT, ra78_0]
      refine step_new (vs := arr c) (by omega) (by omega) rfl (by simp only [rn0, rn1, rn2, rn3, rn4, rn5, rn6, rn7, rn8, if_true, if_false, Nat.le_refl, true_and, and_true, decide_true, decide_false, Bool.not_true, Bool.not_false, reduceIte, Nat.reduceEqDiff, Nat.reduceAdd, Nat.reduceMul, Nat.reduceSub, Nat.reduceLeDiff, Nat.reduceLT]; rfl) arr_one arr_len rfl fun g2 hx2 => ?_
      have n2 := hx2.next
      have f2 := hx2.floor
      simp only [rn0, rn1, rn2, rn3, rn4, rn5, rn6, rn7, rn8, if_true, if_false, Nat.le_refl, true_and, and_true, decide_true, decide_false, Bool.not_true, Bool.not_false, reduceIte, Nat.reduceEqDiff, Nat.reduceAdd, Nat.reduceMul, Nat.reduceSub, Nat.reduceLeDiff, Nat.reduceLT]
      refine ⟨by rw [hx2.old _ (by omega)]; exact hloop1, by omega, fun g3 hp3 => ?_⟩
      have n3 := hp3.next
      have f3 := hp3.floor
      have g3old : ∀ i, i < g1.next → i ≠ h.next + 5 → g3.get i = g1.get i := fun i hi hne => by rw [hp3.old i hne, hx2.old i hi]
      have g3b : ∀ i, i < h.next → g3.get i = h.get i := fun i hi => by rw [g3old i (by omega) (by omega), hj.old i (by omega) (by omega), hbase i hi]
      have hy3 := hy.mono (AHeap.subOf g3b)
      have hp3' : g3.get (h.next + 2) = some (.row [F, V, S, tv] true 0) := by rw [g3old _ (by omega) (by omega)]; exact hp
      have rp3 : Row g3 (h.next + 2) [F, V, S, tv] := ⟨_, _, hp3'⟩
      have rc3 : Row g3 g1.next (arr c) := by
        obtain ⟨w, gr, e⟩ := hx2.row
        exact ⟨w, gr, by rw [hp3.old _ (by omega)]; exact e⟩
      have q1 := rp3.whole (n := 4) rfl
      have q2 := rc3.whole arr_len
      have hrange : ∀ k, k < Y.nf → 0 ≤ c k ∧ c k ≤ 20 := fun k hk => by have := hok.1 k hk; have := hF k hk; omega
      have hist := isTruthW_c (n := m) (h := g3) (F := F) (V := V) (S := S) (T := tv) (Y := Y) (b := c) (by omega) (by omega) hy3.s z3 hG.s ⟨hy3.v, z1, hG.v, hrange⟩ (ho4 _ gr.one)
      by_cases ht : ∀ k, k < Y.ns → RightB Y c k
      · have hst : (truthStep Y s c).1 = s ++ [c] := by simp only [truthStep]; rw [if_pos ht]
        simp only [rn0, rn1, rn2, rn3, rn4, rn5, rn6, rn7, rn8, if_true, if_false, Nat.le_refl, true_and, and_true, decide_true, decide_false, Bool.not_true, Bool.not_false, reduceIte, Nat.reduceEqDiff, Nat.reduceAdd, Nat.reduceMul, Nat.reduceSub, Nat.reduceLeDiff, Nat.reduceLT, rb78_0, f5, q1, q2, hist, eq_true ht, rp3.ld, Nat.zero_add, List.getElem?_cons_zero, List.getElem?_cons_succ, sl_arr]
        refine step_slice (by omega) arr_one fun g4 hx4 => ?_
        have n4 := hx4.next
        have f4 := hx4.floor
        have k14 : Keep (h.next + 5) g1 g4 := ⟨fun i cs w gr hi hg => hx4.sub _ _ _ _ trivial (by rw [hp3.old i hi]; exact hx2.sub _ _ _ _ trivial hg), by omega, by omega⟩
        have gr4 : GrowC (h2.next + 3) g4 tv 5 s.length (fun k j => .int .i64 (((s ++ [c]).getD k fun _ => 0) j)) := (gr.keep k14 (by omega)).congr fun k j hk hj => by
          rw [List.getD_eq_getElem?_getD, List.getD_eq_getElem?_getD, List.getElem?_append_left hk]
        have hlen := hj.len
        obtain ⟨v', g5, e5, ev, gr5, hk5⟩ := gr4.append (bytes := 40) (cap := 1) (by omega) (by omega) (by omega) hx4.get arr_len arr_one (fun j hj => by
          rw [arr_get hj, List.getD_eq_getElem?_getD, List.getElem?_append_right (Nat.le_refl _)]; simp) (by simp [maxBytes, far] at *; omega) (by simp [maxBytes, far] at *; omega)
        have n5 := hk5.next
        have f5' := hk5.floor
        have hp5 : g5.get (h.next + 2) = some (.row [F, V, S, tv] true 0) := by
          rw [hk5.old _ (by omega) fun b k q e => by have := (gr4.block e).1; omega, hx4.old _ (by omega)]; exact hp3'
        simp only [rn0, rn1, rn2, rn3, rn4, rn5, rn6, rn7, rn8, if_true, if_false, Nat.le_refl, true_and, and_true, decide_true, decide_false, Bool.not_true, Bool.not_false, reduceIte, Nat.reduceEqDiff, Nat.reduceAdd, Nat.reduceMul, Nat.reduceSub, Nat.reduceLeDiff, Nat.reduceLT, f5, e5]
        refine step_store (b := h.next + 2) (off := 3) (vs := [v']) (by rfl) hp5 (by omega) (by omega) (by rw [ev]; rfl) (by rw [ev]; rfl) rfl (by simp) fun g6 hs6 => ?_
        have n6 := hs6.next
        have f6 := hs6.floor
        have g6old : ∀ i, i < h2.next + 3 → i ≠ h.next + 2 → i ≠ h.next + 5 → g6.get i = g1.get i := fun i hi h1 h3 => by
          rw [hs6.old i h1, hk5.old i (by omega) fun b k q e => by have := (gr4.block e).1; omega, hx4.old i (by omega), g3old i (by omega) h3]
        have hl6 : g6.get (h.next + 5) = some (.loop { r with state := .busy }) := by
          rw [hs6.old _ (by omega), hk5.old _ (by omega) fun b k q e => by have := (gr4.block e).1; omega, hx4.old _ (by omega), hp3.get]
        simp only [rn0, rn1, rn2, rn3, rn4, rn5, rn6, rn7, rn8, if_true, if_false, Nat.le_refl, true_and, and_true, decide_true, decide_false, Bool.not_true, Bool.not_false, reduceIte, Nat.reduceEqDiff, Nat.reduceAdd, Nat.reduceMul, Nat.reduceSub, Nat.reduceLeDiff, Nat.reduceLT]
        refine ⟨hl6, by omega, by omega, fun g7 hp7 => ⟨?_, ?_, by rw [hp7.floor]; omega, by rw [hp7.next]; omega⟩⟩
        · rw [hst]
          have hg6 := hs6.get
          refine ⟨fun i hi hne => ?_, ⟨v', ?_, ?_⟩, by rw [hp7.next]; omega, by rw [List.length_append, List.length_singleton, hp7.next]; omega⟩
          · by_cases e : i = h.next + 5
            · subst e; rw [hp7.get, r6, ← hj.old _ hi hne]; exact hloop1.symm
            · rw [hp7.old i e, g6old i (by omega) hne e]; exact hj.old i hi hne
          · rw [hp7.old _ (by omega), hg6]; simp [splice]
          · rw [List.length_append, List.length_singleton]
            exact (gr5.keep hs6.keep (by omega)).keep hp7.keep (by omega)
        · intro i hi hne
          by_cases e : i = h.next + 5
          · subst e; rw [hp7.get, r6]; exact hloop1.symm
          · rw [hp7.old i e, g6old i hi hne e]
      · have hst : (truthStep Y s c).1 = s := by simp only [truthStep]; rw [if_neg ht]
        simp only [rn0, rn1, rn2, rn3, rn4, rn5, rn6, rn7, rn8, if_true, if_false, Nat.le_refl, true_and, and_true, decide_true, decide_false, Bool.not_true, Bool.not_false, reduceIte, Nat.reduceEqDiff, Nat.reduceAdd, Nat.reduceMul, Nat.reduceSub, Nat.reduceLeDiff, Nat.reduceLT, rb78_0, f5, q1, q2, hist, eq_false ht]
        refine ⟨hp3.get, by omega, by omega, fun g7 hp7 => ⟨?_, ?_, by rw [hp7.floor]; omega, by rw [hp7.next]; omega⟩⟩
        · rw [hst]
          refine ⟨fun i hi hne => ?_, ⟨tv, ?_, ?_⟩, by rw [hp7.next]; omega, by have := hj.len; rw [hp7.next]; omega⟩
          · by_cases e : i = h.next + 5
            · subst e; rw [hp7.get, r6, ← hj.old _ hi hne]; exact hloop1.symm
            · rw [hp7.old i e, g3old i (by omega) e]; exact hj.old i hi hne
          · rw [hp7.old _ (by omega)]; exact hp3'
          · have k13 : Keep (h.next + 5) g1 g3 := ⟨fun i cs w gr hi hg => by rw [hp3.old i hi]; exact hx2.sub _ _ _ _ trivial hg, by omega, by omega⟩
            exact (gr.keep k13 (by omega)).keep hp7.keep (by omega)
        · intro i hi hne
          by_cases e : i = h.next + 5
          · subst e; rw [hp7.get, r6]; exact hloop1.symm
          · rw [hp7.old i e, hp3.old i e]
            by_cases hi1 : i < g1.next
            · rw [hx2.old i hi1]
            · omega)
    (by omega)
  obtain ⟨v5, g5, e5, j5, fl5, n5⟩ := hit
  rw [runL_truth] at j5
  simp only [List.nil_append] at j5
  change JO h2 (h.next + 2) F V S (truths Y) g5 at j5
  obtain ⟨tv, t1, t2⟩ := j5.tv
  have hup := j5.up
  refine ⟨v5, g5, .norm, by rw [n3]; exact e5, by omega, by omega, by rw [r6, j5.old _ (by omega) (by omega)]; exact hloop, fun g6 hp6 => ?_⟩
  have n6 := hp6.next
  have f6 := hp6.floor
  have t6 : g6.get (h.next + 2) = some (.row [F, V, S, tv] true 0) := by rw [hp6.old _ (by omega)]; exact t1
  have w6 := (show Row g6 (h.next + 2) [F, V, S, tv] from ⟨_, _, t6⟩).whole (n := 4) rfl
  have r6' : g6.get (h.next + 1) = some (.row [nilS, nilS, nilS, nilS] true 0) := by rw [hp6.old _ (by omega), j5.old _ (by omega) (by omega)]; exact hr2'
  have m6 : g6.get (h.next + 4) = some .deferred := by rw [hp6.old _ (by omega), j5.old _ (by omega) (by omega)]; exact hmark
  have ht2 := t2.one
  simp only [rn0, rn1, rn2, rn3, rn4, rn5, rn6, rn7, rn8, if_true, if_false, Nat.le_refl, true_and, and_true, decide_true, decide_false, Bool.not_true, Bool.not_false, reduceIte, Nat.reduceEqDiff, Nat.reduceAdd, Nat.reduceMul, Nat.reduceSub, Nat.reduceLeDiff, Nat.reduceLT, f5, f2', w6]
  refine step_store (vs := [F, V, S, tv]) rfl r6' (by omega) (by omega) rfl (ho4 _ ht2) rfl (by simp) fun g7 hs7 => ?_
  have n7 := hs7.next
  have f7 := hs7.floor
  simp only [rn0, rn1, rn2, rn3, rn4, rn5, rn6, rn7, rn8, if_true, if_false, Nat.le_refl, true_and, and_true, decide_true, decide_false, Bool.not_true, Bool.not_false, reduceIte, Nat.reduceEqDiff, Nat.reduceAdd, Nat.reduceMul, Nat.reduceSub, Nat.reduceLeDiff, Nat.reduceLT, f5, f2', w6]
  refine ret_mark (.inr rfl) (by rw [hs7.old _ (by omega)]; exact m6) (by omega) (by omega) fun g8 hp8 => ?_
  have n8 := hp8.next
  have f8 := hp8.floor
  have w8 : Row g8 (h.next + 1) [F, V, S, tv] := ⟨true, 0, by rw [hp8.old _ (by omega), hs7.get]; rfl⟩
  simp only [rn0, rn1, rn2, rn3, rn4, rn5, rn6, rn7, rn8, if_true, if_false, Nat.le_refl, true_and, and_true, decide_true, decide_false, Bool.not_true, Bool.not_false, reduceIte, Nat.reduceEqDiff, Nat.reduceAdd, Nat.reduceMul, Nat.reduceSub, Nat.reduceLeDiff, Nat.reduceLT, res_two, f2', w8.whole (n := 4) rfl]
  refine ⟨⟨AHeap.subOf fun i hi => ?_, by omega, by omega, by omega⟩, .inr ⟨hf, tv, rfl, ?_, t2.long⟩⟩
  · rw [hp8.old i (by omega), hs7.old i (by omega), hp6.old i (by omega), j5.old i (by omega) (by omega), hbase i hi]
  · exact (((t2.keep hp6.keep (by omega)).keep hs7.keep (by omega)).keep hp8.keep (by omega)).cells
end Go.Vm.Vat

namespace Go.Vm.Vat
open Go.Proofs
set_option linter.unusedSimpArgs false
set_option linter.unusedVariables false
set_option maxRecDepth 10000
variable {n : Nat} {h : AHeap}
/-- the first from k on that is so; -1 if there is none of d -/
noncomputable def findFrom (p : Nat → Prop) : Nat → Nat → Int
  | 0, _ => -1
  | d + 1, k => open Classical in if p k then (k : Int) else findFrom p d (k + 1)
theorem findFrom_skip {p : Nat → Prop} : ∀ (k m : Nat), k ≤ m → (∀ j, j < k → ¬ p j) → findFrom p m 0 = findFrom p (m - k) k := by
  intro k
  induction k with
  | zero => intro m _ _; rfl
  | succ k ih =>
    intro m hk hp
    rw [ih m (by omega) fun j hj => hp j (by omega)]
    obtain ⟨d, hd⟩ : ∃ d, m - k = d + 1 := ⟨m - k - 1, by omega⟩
    rw [hd, findFrom, if_neg (hp k (by omega)), show m - (k + 1) = d by omega]
theorem findFrom_at {p : Nat → Prop} {k m : Nat} (hk : k < m) (hp : ∀ j, j < k → ¬ p j) (h : p k) : findFrom p m 0 = k := by
  rw [findFrom_skip k m (by omega) hp]
  obtain ⟨d, hd⟩ : ∃ d, m - k = d + 1 := ⟨m - k - 1, by omega⟩
  rw [hd, findFrom, if_pos h]
theorem findFrom_none {p : Nat → Prop} {m : Nat} (hp : ∀ j, j < m → ¬ p j) : findFrom p m 0 = -1 := by
  rw [findFrom_skip m m (Nat.le_refl _) hp, Nat.sub_self]; rfl
/-- the same array -/
def SameB (a b : Nat → Int) : Prop := ∀ k, k ∈ List.range 5 → a k = b k
instance (a b : Nat → Int) : Decidable (SameB a b) := inferInstanceAs (Decidable (∀ k, k ∈ List.range 5 → a k = b k))
theorem truths_ld {v : Value} {l : List (Nat → Int)} (ht : TruthsR h v l) {k : Nat} (hk : k < l.length) : loadAgg 5 h (ptrO v 5 k 0) = some (.agg ⟨arr (l.getD k fun _ => 0)⟩) := by
  rw [Cells.ldN ht hk (by omega) (by omega)]
  simp [arr, List.range_succ]
/-- the array is among them -/
def HasB (l : List (Nat → Int)) (c : Nat → Int) : Prop := ∃ k, k < l.length ∧ SameB c (l.getD k fun _ => 0)
noncomputable instance (l : List (Nat → Int)) (c : Nat → Int) : Decidable (HasB l c) := Classical.propDecidable _
def s79 : SCode := (.seq (.ops [⟨(some 3), none, .box (T 1)⟩, ⟨(some 4), none, .mov (.const (.bool false))⟩]) (.seq (.ops [⟨(some 5), none, .mov (T 0)⟩, ⟨(some 6), none, .loadN 5 (T 3)⟩, ⟨(some 7), none, .call (.func 115) [(T 5), (T 6)]⟩, ⟨(some 8), none, .int2 .geq (T 7) (.const (.int .i64 (0)))⟩, ⟨(some 4), none, .mov (T 8)⟩]) .ret))
theorem truths_len {Y : MY} (hf : faultN Y = 0) : (truths Y).length ≤ 2000 := by
  obtain ⟨hG, hsz⟩ := fault_size hf
  have h1 := enumB_len (lo := Y.lo) (hi := Y.hi) Y.nf 0 (fun _ => 0) fun k _ hk => (hG.f k (by omega)).2.1
  have h2 := sizeN_prod (lo := Y.lo) (hi := Y.hi) Y.nf 0
  simp only [Nat.zero_add, sizeN, Int.one_mul] at h2
  have h3 := List.length_filter_le (fun c => open Classical in decide (∀ k, k < Y.ns → RightB Y c k)) (enumB Y.lo Y.hi Y.nf 0 fun _ => 0)
  unfold truths
  omega
theorem truths_mem {Y : MY} {x : Nat → Int} : x ∈ truths Y ↔ ((∀ j, j < Y.nf → Y.lo j ≤ x j ∧ x j ≤ Y.hi j) ∧ ∀ j, Y.nf ≤ j → x j = 0) ∧ ∀ k, k < Y.ns → RightB Y x k := by
  unfold truths
  rw [List.mem_filter, enumB_ok]
  simp only [Nat.zero_le, true_implies, Nat.zero_add, Nat.not_lt_zero, false_or, decide_eq_true_eq]
end Go.Vm.Vat

namespace Go.Vm.Vat
open Go.Proofs
set_option linter.unusedSimpArgs false
set_option linter.unusedVariables false
set_option maxRecDepth 10000
variable {n : Nat} {h : AHeap}
theorem awake_c (hn : 1 ≤ n) : call n (.func (.func 24) #[] #[]) [] h = some (.bool true, h) := by
  obtain ⟨n, rfl⟩ : ∃ p, n = p + 1 := ⟨n - 1, by omega⟩
  exact call_known (by simp [K])
theorem u4 : Try.prog.underlying 4 = some .bool := by rfl
theorem Made.trans {a b c : AHeap} {j k : Nat} (h1 : Made a b j) (h2 : Made b c k) : Made a c (j + k) := ⟨h1.sub.trans h2.sub, by have := h1.next; have := h2.next; omega, by have := h1.up; have := h2.up; omega, by rw [h2.floor, h1.floor]⟩
theorem Made.of {a b : AHeap} {cs : List Value} {gr : Nat} (hn : New a b cs gr) : Made a b 1 := ⟨hn.sub, by rw [hn.next]; omega, by rw [hn.next]; omega, hn.floor⟩
def s3 : SCode := (.seq (.ops [⟨(some 2), none, .box (T 0)⟩, ⟨(some 4), none, .mov (.const (.bool false))⟩]) (.seq (.seq (.ops [⟨(some 10), none, .loadN 3 (T 2)⟩, ⟨(some 11), none, .call (.func 23) [(T 10)]⟩, ⟨(some 12), none, .not (T 11)⟩, ⟨(some 13), none, .mov (T 12)⟩, ⟨(some 14), (some (13, false)), .mov (T 1)⟩, ⟨(some 15), (some (13, false)), .len (T 14)⟩, ⟨(some 16), (some (13, false)), .int2 .gtr (T 15) (.const (.int .i64 (30)))⟩, ⟨(some 17), none, .pick (T 13) (.const (.bool true)) (T 16)⟩]) (.cond (T 17) (.seq (.ops [⟨(some 18), none, .call (.func 24) []⟩, ⟨(some 4), none, .mov (T 18)⟩]) .ret) .skip)) (.seq (.ops [⟨(some 20), none, .loadN 3 (T 2)⟩, ⟨(some 21), none, .call (.func 26) [(T 20)]⟩, ⟨(some 22), none, .mov (T 1)⟩, ⟨(some 23), none, .call (.func 27) [(T 22)]⟩, ⟨(some 24), none, .call (.func 25) [(T 21), (T 23)]⟩, ⟨(some 19), none, .mov (T 24)⟩, ⟨(some 25), none, .extract 0 (T 19)⟩, ⟨(some 26), none, .extract 1 (T 19)⟩, ⟨(some 5), none, .mov (T 25)⟩, ⟨(some 6), none, .mov (T 26)⟩]) (.seq (.ops [⟨(some 27), none, .loadN 3 (T 2)⟩, ⟨(some 28), none, .call (.func 26) [(T 27)]⟩, ⟨(some 29), none, .mov (T 1)⟩, ⟨(some 30), none, .call (.func 27) [(T 29)]⟩, ⟨(some 31), none, .call (.func 28) [(T 28), (T 30)]⟩, ⟨(some 7), none, .mov (T 31)⟩]) (.seq (.ops [⟨(some 32), none, .loadN 3 (T 2)⟩, ⟨(some 33), none, .call (.func 29) [(T 32)]⟩, ⟨(some 8), none, .mov (T 33)⟩]) (.seq (.seq (.ops [⟨(some 34), none, .loadN 3 (T 2)⟩, ⟨(some 35), none, .call (.func 26) [(T 34)]⟩, ⟨(some 36), none, .call (.func 30) [(T 35)]⟩, ⟨(some 37), none, .mov (T 8)⟩, ⟨(some 38), none, .int2 .neq (T 36) (T 37)⟩, ⟨(some 39), none, .mov (T 38)⟩, ⟨(some 40), (some (39, false)), .mov (T 7)⟩, ⟨(some 41), (some (39, false)), .mov (T 8)⟩, ⟨(some 42), (some (39, false)), .int2 .eql (T 41) (.const (.int .i64 (0)))⟩, ⟨(some 43), (some (39, false)), .mov (T 42)⟩, ⟨(some 44), (some (43, true)), .loadN 3 (T 2)⟩, ⟨(some 45), (some (43, true)), .mov (T 1)⟩, ⟨(some 46), (some (43, true)), .call (.func 31) [(T 44), (T 45)]⟩, ⟨(some 47), (some (39, false)), .pick (T 43) (T 46) (.const (.bool false))⟩, ⟨(some 48), (some (39, false)), .bin .neq (.binOp .neq 4 (T 40) (T 47) 4) 4 (T 40) (T 47)⟩, ⟨(some 49), none, .pick (T 39) (.const (.bool true)) (T 48)⟩]) (.cond (T 49) (.seq (.ops [⟨(some 4), none, .mov (.const (.bool false))⟩]) .ret) .skip)) (.seq (.seq (.ops [⟨(some 50), none, .mov (T 8)⟩, ⟨(some 51), none, .int2 .eql (T 50) (.const (.int .i64 (0)))⟩, ⟨(some 52), none, .mov (T 51)⟩, ⟨(some 53), (some (52, true)), .loadN 3 (T 2)⟩, ⟨(some 54), (some (52, true)), .mov (T 1)⟩, ⟨(some 55), (some (52, true)), .call (.func 32) [(T 53), (T 54)]⟩, ⟨(some 56), (some (52, true)), .not (T 55)⟩, ⟨(some 57), none, .pick (T 52) (T 56) (.const (.bool false))⟩]) (.cond (T 57) (.ops [⟨(some 8), none, .mov (.const (.int .i64 (2)))⟩]) .skip)) (.seq (.seq (.ops [⟨(some 58), none, .mov (T 8)⟩, ⟨(some 59), none, .int2 .neq (T 58) (.const (.int .i64 (0)))⟩]) (.cond (T 59) (.seq (.ops [⟨(some 60), none, .mov (T 6)⟩, ⟨(some 61), none, .mov (T 8)⟩, ⟨(some 62), none, .int2 .eql (T 60) (T 61)⟩, ⟨(some 63), none, .mov (T 62)⟩, ⟨(some 64), (some (63, true)), .mov (T 5)⟩, ⟨(some 65), (some (63, true)), .len (T 64)⟩, ⟨(some 66), (some (63, true)), .int2 .eql (T 65) (.const (.int .i64 (0)))⟩, ⟨(some 67), none, .pick (T 63) (T 66) (.const (.bool false))⟩, ⟨(some 68), none, .mov (T 67)⟩, ⟨(some 69), (some (68, true)), .call (.func 24) []⟩, ⟨(some 70), none, .pick (T 68) (T 69) (.const (.bool false))⟩, ⟨(some 4), none, .mov (T 70)⟩]) .ret) .skip)) (.seq (.seq (.ops [⟨(some 71), none, .mov (T 6)⟩, ⟨(some 72), none, .int2 .neq (T 71) (.const (.int .i64 (0)))⟩, ⟨(some 73), none, .mov (T 72)⟩, ⟨(some 74), (some (73, false)), .mov (T 5)⟩, ⟨(some 75), (some (73, false)), .len (T 74)⟩, ⟨(some 76), (some (73, false)), .fieldAddr 1 (T 2)⟩, ⟨(some 77), (some (73, false)), .load1 (T 76)⟩, ⟨(some 78), (some (73, false)), .len (T 77)⟩, ⟨(some 79), (some (73, false)), .int2 .neq (T 75) (T 78)⟩, ⟨(some 80), none, .pick (T 73) (.const (.bool true)) (T 79)⟩]) (.cond (T 80) (.seq (.ops [⟨(some 4), none, .mov (.const (.bool false))⟩]) .ret) .skip)) (.seq (.seq (.ops [⟨(some 9), none, .mov (.const (.int .i64 (0)))⟩]) (.block 0 (.loop (.seq (.seq (.ops [⟨(some 81), none, .mov (T 9)⟩, ⟨(some 82), none, .mov (T 5)⟩, ⟨(some 83), none, .len (T 82)⟩, ⟨(some 84), none, .int2 .lss (T 81) (T 83)⟩]) (.cond (T 84) .skip (.exit 0))) (.seq (.block 1 (.seq (.draw [⟨.free, ⟨(some 87), none, .mov (T 5)⟩⟩, ⟨.free, ⟨(some 88), none, .mov (T 9)⟩⟩, ⟨.free, ⟨(some 89), none, .idxSl 1 (T 87) (T 88)⟩⟩, ⟨.rd, ⟨(some 90), none, .load1 (T 89)⟩⟩, ⟨.rd1, ⟨(some 91), none, .loadN 3 (T 2)⟩⟩, ⟨.free, ⟨(some 92), none, .mov (T 1)⟩⟩, ⟨.free, ⟨(some 93), none, .mov (T 9)⟩⟩, ⟨.up, ⟨(some 94), none, .call (.func 33) [(T 91), (T 92), (T 93)]⟩⟩, ⟨.free, ⟨(some 95), none, .int2 .neq (T 90) (T 94)⟩⟩]) (.cond (T 95) (.seq (.ops [⟨(some 4), none, .mov (.const (.bool false))⟩]) .ret) .skip))) (.ops [⟨(some 85), none, .mov (T 9)⟩, ⟨(some 86), none, .int2 .add (T 85) (.const (.int .i64 (1)))⟩, ⟨(some 9), none, .mov (T 86)⟩])))))) (.seq (.ops [⟨(some 96), none, .call (.func 24) []⟩, ⟨(some 4), none, .mov (T 96)⟩]) .ret)))))))))))
end Go.Vm.Vat

namespace Go.Vm.Vat
open Go.Proofs
set_option linter.unusedSimpArgs false
set_option linter.unusedVariables false
set_option maxRecDepth 10000
variable {n : Nat} {h : AHeap}
/-! ### A yard that is handed in -/
theorem c3 : Try.prog.cellsOf 3 = 1 := by kernel_rfl
theorem c51 : Try.prog.cellsOf 51 = 2 := by kernel_rfl
theorem c95 : Try.prog.cellsOf 95 = 3 := by kernel_rfl
theorem c27 : Try.prog.cellsOf 27 = 1 := by kernel_rfl
theorem c26 : Try.prog.cellsOf 26 = 3 := by kernel_rfl
theorem c22 : Try.prog.cellsOf 22 = 1 := by kernel_rfl
theorem c23 : Try.prog.cellsOf 23 = 1 := by kernel_rfl
theorem c24 : Try.prog.cellsOf 24 = 1 := by kernel_rfl
theorem flat3 : FlatT Try.prog .i64 3 1 := flat_int (by rfl)
theorem flat51 : FlatT Try.prog .i64 51 2 := flat_struct2 (s0 := 1) (s1 := 1) Try.underlying51 c51 rfl rfl c3 c3 flat3 flat3
theorem flat95 : FlatT Try.prog .i64 95 3 := flat_struct2 (s0 := 1) (s1 := 2) Try.underlying95 c95 rfl rfl c3 c51 flat3 flat51
section
variable {H : Type} {enc : TypeId × Value → H} {w : World} {base : Nat} {sp : Nat → Bool} {held : Bool} {fuel : Nat} {cs : List Value} {x : DataW H × List MemPlace}
theorem flatS_ints (h : DataW.trod enc Try.prog w base sp held fuel 27 cs = some x) : ∃ v, cs = [v] ∧ FlatS w .i64 1 v := flat_slice Try.underlying27 c3 (by omega) flat3 h
/-- what is known of a yard that is handed in -/
structure YardW (w : World) (fv vv sv : Value) : Prop where
  f : FlatS w .i64 2 fv
  s : FlatS w .i64 3 sv
  v : vv = .slice none 0 0 ∨ ∃ a len cap, vv = .slice (some a) len cap ∧ len ≤ cap ∧ ∀ i, i < len → ∃ v, w.cell? (a.add i) = some v ∧ FlatS w .i64 1 v
theorem yardW_of (h : DataW.trod enc Try.prog w base sp held fuel 26 cs = some x) : ∃ fv vv sv, cs = [fv, vv, sv] ∧ YardW w fv vv sv := by
  obtain ⟨xs, n, _, _, hl, hx, hf⟩ := DataW.trod_struct Try.underlying26 h
  rw [c26] at hl
  obtain ⟨fv, vv, sv, rfl⟩ : ∃ a b c, cs = [a, b, c] := by
    match cs, hl with
    | [a, b, c], _ => exact ⟨a, b, c, rfl⟩
  have hx3 : xs.length = 3 := hx
  have h0 := hf 0 _ rfl
  have h1 := hf 1 _ rfl
  have h2 := hf 2 _ rfl
  rw [List.getElem?_eq_getElem (by omega)] at h0 h1 h2
  change DataW.trod enc Try.prog w base sp held n 22 (([fv, vv, sv].drop 0).take (Try.prog.cellsOf 22)) = _ at h0
  change DataW.trod enc Try.prog w base sp held n 23 (([fv, vv, sv].drop 1).take (Try.prog.cellsOf 23)) = _ at h1
  change DataW.trod enc Try.prog w base sp held n 24 (([fv, vv, sv].drop 2).take (Try.prog.cellsOf 24)) = _ at h2
  rw [c22] at h0
  rw [c23] at h1
  rw [c24] at h2
  obtain ⟨_, e0, k0⟩ := flat_slice Try.underlying22 c51 (by omega) flat51 h0
  obtain ⟨_, e2, k2⟩ := flat_slice Try.underlying24 c95 (by omega) flat95 h2
  cases e0
  cases e2
  refine ⟨fv, vv, sv, rfl, k0, k2, ?_⟩
  rcases DataW.trod_slice Try.underlying23 h1 with ⟨e, _⟩ | ⟨a, len, cap, elems, rest, n', _, e, _, _, hlc, _, hlen, hel, _, _⟩
  · cases e; exact .inl rfl
  · cases e
    refine .inr ⟨a, len, cap, rfl, hlc, fun i hi => ?_⟩
    have he := hel i hi
    rw [List.getElem?_eq_getElem (by omega), c27, Nat.mul_one] at he
    simp only [Option.bind_eq_some_iff] at he
    obtain ⟨l, hl1, hl2⟩ := he
    obtain ⟨_, h3, h4⟩ := World.cells?_some hl1
    obtain ⟨v, rfl, hv⟩ := flatS_ints hl2
    have := h4 0 (by omega)
    rw [Addr.add_zero] at this
    exact ⟨v, this, hv⟩
end
theorem flatS_len {w : World} {k : IntKind} {s : Nat} {v : Value} (hf : FlatS w k s v) : v = .slice none 0 0 ∨ ∃ a len cap, v = .slice (some a) len cap ∧ len ≤ cap := by
  rcases hf with h | ⟨a, len, cap, h1, h2, _⟩
  · exact .inl h
  · exact .inr ⟨a, len, cap, h1, h2⟩
/-- the lists are too long: nothing but their lengths is looked at -/
def Big (u0 u1 u2 : Value) : Prop := ∃ a0 n0 k0 a1 n1 k1 a2 n2 k2, u0 = .slice a0 n0 k0 ∧ u1 = .slice a1 n1 k1 ∧ u2 = .slice a2 n2 k2 ∧ (30 < n0 ∨ 30 < n1 ∨ 30 < n2)
theorem yard_load {w : World} {φ : Emb} (L : Loaded w φ h) (hn : h.next + 40 < far) {fv vv sv : Value} (hy : YardW w fv vv sv) :
    ∃ φ' h' u0 u1 u2, Step w φ h φ' h' 40 ∧ Stands φ' h' u0 fv ∧ Stands φ' h' u1 vv ∧ Stands φ' h' u2 sv ∧ (Big u0 u1 u2 ∨ ∃ Y, YardR h' u0 u1 u2 Y) := by
  have hv' : vv = .slice none 0 0 ∨ ∃ a len cap, vv = .slice (some a) len cap ∧ len ≤ cap := by
    rcases hy.v with h | ⟨a, len, cap, h1, h2, _⟩
    · exact .inl h
    · exact .inr ⟨a, len, cap, h1, h2⟩
  by_cases hb : 30 < vlen fv ∨ 30 < vlen vv ∨ 30 < vlen sv
  · obtain ⟨φ1, h1, u0, s1, t1, a0, k0, e0⟩ := L.gap (by omega) (flatS_len hy.f)
    have n1 := s1.next
    obtain ⟨φ2, h2, u1, s2, t2, a1, k1, e1⟩ := s1.ld.gap (by omega) hv'
    have n2 := s2.next
    obtain ⟨φ3, h3, u2, s3, t3, a2, k2, e2⟩ := s2.ld.gap (by omega) (flatS_len hy.s)
    have n3 := s3.next
    have st := (s1.trans s2).trans s3
    exact ⟨φ3, h3, u0, u1, u2, ⟨st.ld, st.sub, st.up, by omega, st.floor, st.agree⟩, (t1.step s2).step s3, t2.step s3, t3, .inl ⟨a0, _, k0, a1, _, k1, a2, _, k2, e0, e1, e2, hb⟩⟩
  · obtain ⟨φ1, h1, u0, s1, t1, c0, r0⟩ := L.flat (by omega) (by omega) hy.f
    have n1 := s1.next
    obtain ⟨φ2, h2, u2, s2, t2, c2, r2⟩ := s1.ld.flat (by omega) (by omega) hy.s
    have n2 := s2.next
    have hF : ∀ {g : AHeap}, Sub All h1 g → Ranges g u0 (vlen fv) (fun k => c0 k 0) (fun k => c0 k 1) := fun hs => by
      obtain ⟨a, cap, e, e1, e2⟩ := r0.mono hs
      refine ⟨a, cap, e, e1, e2.imp id fun ⟨b, o, cs, wr, g, q1, q2, q3⟩ => ⟨b, o, cs, wr, g, q1, q2, fun k j hk hj => ?_⟩⟩
      rw [q3 k j hk hj]
      rcases j with _ | _ | j
      · rfl
      · rfl
      · omega
    have hS : ∀ {g : AHeap}, Sub All h2 g → Samps g u2 (vlen sv) (fun k => c2 k 0) (fun k => c2 k 1) (fun k => c2 k 2) := fun hs => by
      obtain ⟨a, cap, e, e1, e2⟩ := r2.mono hs
      refine ⟨a, cap, e, e1, e2.imp id fun ⟨b, o, cs, wr, g, q1, q2, q3⟩ => ⟨b, o, cs, wr, g, q1, q2, fun k j hk hj => ?_⟩⟩
      rw [q3 k j hk hj]
      rcases j with _ | _ | _ | j
      · rfl
      · rfl
      · rfl
      · omega
    rcases hy.v with rfl | ⟨a, len, cap, rfl, hlc, hcell⟩
    · have st := s1.trans s2
      refine ⟨φ2, h2, u0, .slice none 0 0, u2, ⟨st.ld, st.sub, st.up, by omega, st.floor, st.agree⟩, t1.step s2, ⟨by simp [mapV], by simp [okV], rfl⟩, t2, .inr ⟨⟨vlen fv, _, _, 0, fun _ => 0, fun _ _ => 0, vlen sv, _, _, _⟩, hF s2.sub, ⟨fun _ => nilS, ⟨none, 0, rfl, fun x e => (by cases e), .inl rfl⟩, fun k hk => by simp at hk⟩, hS Sub.refl⟩⟩
    · have hlen : len ≤ 30 := by simp only [vlen] at hb; omega
      let vs : List Value := (List.range len).map fun i => (w.cell? (a.add i)).getD undef
      have hvs : ∀ i, i < len → ∃ v, vs[i]? = some v ∧ w.cell? (a.add i) = some v ∧ FlatS w .i64 1 v := fun i hi => by
        obtain ⟨v, e1, e2⟩ := hcell i hi
        exact ⟨v, by show ((List.range len).map _)[i]? = _; rw [List.getElem?_map, List.getElem?_range hi]; simp [e1], e1, e2⟩
      have hvl : vs.length = len := by show ((List.range len).map _).length = _; simp
      obtain ⟨φ3, h3, us, s3, l3, r3⟩ := Loaded.many (w := w) (k := .i64) (s := 1) (by omega) vs s2.ld (by omega) fun v hv => by
        obtain ⟨i, hi, rfl⟩ := List.getElem_of_mem hv
        obtain ⟨v, e1, _, e2⟩ := hvs i (by omega)
        rw [List.getElem?_eq_getElem hi] at e1
        cases e1
        exact e2
      have n3 := s3.next
      have hu : ∀ i, i < len → ∃ u v, us[i]? = some u ∧ w.cell? (a.add i) = some v ∧ Stands φ3 h3 u v ∧ ∃ c : Nat → Nat → Int, Cells h3 u 1 (vlen v) fun i j => .int .i64 (c i j) := fun i hi => by
        obtain ⟨v, e1, e2, _⟩ := hvs i hi
        obtain ⟨e3, e4⟩ := r3 i us[i] v (List.getElem?_eq_getElem (by omega)) e1
        exact ⟨us[i], v, List.getElem?_eq_getElem (by omega), e2, e3, e4⟩
      obtain ⟨φ4, h4, u1, q1, q2, q3, q4, q5, q6, q7, q8, q9⟩ := s3.ld.slice (by omega) (a := a) (s := 1) hlc (by omega) us (by rw [l3, hvl, Nat.mul_one]) (fun i u hu' => by
        have hi : i < len := by have := (List.getElem?_eq_some_iff.1 hu').1; omega
        obtain ⟨u', v, e1, e2, e3, _⟩ := hu i hi
        rw [e1] at hu'
        cases hu'
        exact ⟨e3.ok, e3.one, by rw [e2, e3.map]⟩) (c := fun k _ => us.getD k undef) (fun k j hk hj => by
        obtain ⟨u', v, e1, _⟩ := hu k hk
        have : j = 0 := by omega
        subst this
        rw [Nat.mul_one, Nat.add_zero, e1, List.getD_eq_getElem?_getD, e1]; rfl)
      have s4 : Step w φ3 h3 φ4 h4 1 := ⟨q1, q2, by omega, by omega, q4, q5⟩
      have st := ((s1.trans s2).trans s3).trans s4
      have hcnt : ∃ (cnt : Nat → Nat) (q : Nat → Nat → Int), ∀ k, k < len → Ints h4 (us.getD k undef) (cnt k) (q k) := by
        have : ∀ k, ∃ (m : Nat) (q : Nat → Int), k < len → Ints h4 (us.getD k undef) m q := fun k => by
          by_cases hk : k < len
          · obtain ⟨u', v, e1, _, _, c, e4⟩ := hu k hk
            refine ⟨vlen v, fun i => c i 0, fun _ => ?_⟩
            have e : us.getD k undef = u' := by rw [List.getD_eq_getElem?_getD, e1]; rfl
            rw [e]
            obtain ⟨a, cap, f1, f2, f3⟩ := e4.mono q2
            refine ⟨a, cap, f1, f2, f3.imp id fun ⟨b, o, cs, wr, g, k1, k2, k3⟩ => ⟨b, o, cs, wr, g, k1, k2, fun i j hi hj => ?_⟩⟩
            have : j = 0 := by omega
            subst this
            exact k3 i 0 hi hj
          · exact ⟨0, fun _ => 0, fun h => absurd h hk⟩
        exact ⟨fun k => (this k).choose, fun k => (this k).choose_spec.choose, fun k hk => (this k).choose_spec.choose_spec hk⟩
      obtain ⟨cnt, q, hq⟩ := hcnt
      exact ⟨φ4, h4, u0, u1, u2, ⟨st.ld, st.sub, st.up, by have := s4.next; omega, st.floor, st.agree⟩, ((t1.step s2).step s3).step s4, ⟨q6, q7, q8⟩, (t2.step s3).step s4,
        .inr ⟨⟨vlen fv, _, _, len, cnt, q, vlen sv, _, _, _⟩, hF ((s2.sub.trans s3.sub).trans s4.sub), ⟨fun k => us.getD k undef, q9, hq⟩, hS (s3.sub.trans s4.sub)⟩⟩
end Go.Vm.Vat

namespace Go.Vm.Awake
/-! the calls that the examples make, as they were run -/
/-- functions that yield plain values and write nothing -/
def quiet : List Nat := []
def e0 : Entry :=
  { next := 10, f := 25, args := [(.agg ⟨[(.slice (some ⟨4, 0, none⟩) 3 3), (.slice (some ⟨8, 0, none⟩) 3 3), (.slice none 0 0)]⟩), (.slice (some ⟨9, 0, none⟩) 3 3)], objs := [(9, .row [(.int Go.IntKind.i64 (4)), (.int Go.IntKind.i64 (2)), (.int Go.IntKind.i64 (1))] true 0), (7, .row [(.int Go.IntKind.i64 (2)), (.int Go.IntKind.i64 (2)), (.int Go.IntKind.i64 (1))] true 0), (6, .row [(.int Go.IntKind.i64 (1)), (.int Go.IntKind.i64 (3)), (.int Go.IntKind.i64 (0))] true 0), (5, .row [(.int Go.IntKind.i64 (4)), (.int Go.IntKind.i64 (0)), (.int Go.IntKind.i64 (2))] true 0), (8, .row [(.slice (some ⟨5, 0, none⟩) 3 3), (.slice (some ⟨6, 0, none⟩) 3 3), (.slice (some ⟨7, 0, none⟩) 3 3)] true 0), (4, .row [(.int Go.IntKind.i64 (3)), (.int Go.IntKind.i64 (5)), (.int Go.IntKind.i64 (2)), (.int Go.IntKind.i64 (3)), (.int Go.IntKind.i64 (0)), (.int Go.IntKind.i64 (1))] true 0)], val := (.tuple ⟨[(.slice (some ⟨39, 0, none⟩) 3 3), (.int Go.IntKind.i64 (0))]⟩), next' := 46, objs' := [(39, .row [(.int Go.IntKind.i64 (18)), (.int Go.IntKind.i64 (10)), (.int Go.IntKind.i64 (13))] true 0)] }
def e1 : Entry :=
  { next := 58, f := 34, args := [(.agg ⟨[(.slice (some ⟨53, 0, none⟩) 3 3), (.slice (some ⟨57, 0, none⟩) 3 3), (.slice (some ⟨48, 0, none⟩) 1 1)]⟩)], objs := [(48, .row [(.int Go.IntKind.i64 (0)), (.int Go.IntKind.i64 (18)), (.int Go.IntKind.i64 (18))] true 0), (56, .row [(.int Go.IntKind.i64 (2)), (.int Go.IntKind.i64 (2)), (.int Go.IntKind.i64 (1))] true 0), (55, .row [(.int Go.IntKind.i64 (1)), (.int Go.IntKind.i64 (3)), (.int Go.IntKind.i64 (0))] true 0), (54, .row [(.int Go.IntKind.i64 (4)), (.int Go.IntKind.i64 (0)), (.int Go.IntKind.i64 (2))] true 0), (57, .row [(.slice (some ⟨54, 0, none⟩) 3 3), (.slice (some ⟨55, 0, none⟩) 3 3), (.slice (some ⟨56, 0, none⟩) 3 3)] true 0), (53, .row [(.int Go.IntKind.i64 (3)), (.int Go.IntKind.i64 (5)), (.int Go.IntKind.i64 (2)), (.int Go.IntKind.i64 (3)), (.int Go.IntKind.i64 (0)), (.int Go.IntKind.i64 (1))] true 0)], val := (.tuple ⟨[(.slice (some ⟨233, 0, none⟩) 3 3), (.int Go.IntKind.i64 (0))]⟩), next' := 255, objs' := [(233, .row [(.int Go.IntKind.i64 (18)), (.int Go.IntKind.i64 (18)), (.int Go.IntKind.i64 (10)), (.int Go.IntKind.i64 (13)), (.int Go.IntKind.i64 (13)), (.int Go.IntKind.i64 (15))] true 0)] }
def e2 : Entry :=
  { next := 267, f := 40, args := [(.agg ⟨[(.slice (some ⟨262, 0, none⟩) 3 3), (.slice (some ⟨266, 0, none⟩) 3 3), (.slice (some ⟨257, 0, none⟩) 1 1)]⟩), (.int Go.IntKind.i64 (2)), (.int Go.IntKind.i64 (1))], objs := [(257, .row [(.int Go.IntKind.i64 (0)), (.int Go.IntKind.i64 (18)), (.int Go.IntKind.i64 (18))] true 0), (265, .row [(.int Go.IntKind.i64 (2)), (.int Go.IntKind.i64 (2)), (.int Go.IntKind.i64 (1))] true 0), (264, .row [(.int Go.IntKind.i64 (1)), (.int Go.IntKind.i64 (3)), (.int Go.IntKind.i64 (0))] true 0), (263, .row [(.int Go.IntKind.i64 (4)), (.int Go.IntKind.i64 (0)), (.int Go.IntKind.i64 (2))] true 0), (266, .row [(.slice (some ⟨263, 0, none⟩) 3 3), (.slice (some ⟨264, 0, none⟩) 3 3), (.slice (some ⟨265, 0, none⟩) 3 3)] true 0), (262, .row [(.int Go.IntKind.i64 (3)), (.int Go.IntKind.i64 (5)), (.int Go.IntKind.i64 (2)), (.int Go.IntKind.i64 (3)), (.int Go.IntKind.i64 (0)), (.int Go.IntKind.i64 (1))] true 0)], val := (.tuple ⟨[(.int Go.IntKind.i64 (1)), (.int Go.IntKind.i64 (0))]⟩), next' := 449, objs' := [] }
def e3 : Entry :=
  { next := 458, f := 41, args := [(.agg ⟨[(.slice (some ⟨453, 0, none⟩) 3 3), (.slice (some ⟨457, 0, none⟩) 3 3), (.slice none 0 0)]⟩)], objs := [(456, .row [(.int Go.IntKind.i64 (2)), (.int Go.IntKind.i64 (2)), (.int Go.IntKind.i64 (1))] true 0), (455, .row [(.int Go.IntKind.i64 (1)), (.int Go.IntKind.i64 (3)), (.int Go.IntKind.i64 (0))] true 0), (454, .row [(.int Go.IntKind.i64 (4)), (.int Go.IntKind.i64 (0)), (.int Go.IntKind.i64 (2))] true 0), (457, .row [(.slice (some ⟨454, 0, none⟩) 3 3), (.slice (some ⟨455, 0, none⟩) 3 3), (.slice (some ⟨456, 0, none⟩) 3 3)] true 0), (453, .row [(.int Go.IntKind.i64 (3)), (.int Go.IntKind.i64 (5)), (.int Go.IntKind.i64 (2)), (.int Go.IntKind.i64 (3)), (.int Go.IntKind.i64 (0)), (.int Go.IntKind.i64 (1))] true 0)], val := (.tuple ⟨[(.int Go.IntKind.i64 (0)), (.int Go.IntKind.i64 (2)), (.int Go.IntKind.i64 (0))]⟩), next' := 673, objs' := [] }
def e4 : Entry :=
  { next := 682, f := 46, args := [(.agg ⟨[(.slice (some ⟨677, 0, none⟩) 3 3), (.slice (some ⟨681, 0, none⟩) 3 3), (.slice none 0 0)]⟩), (.int Go.IntKind.i64 (1)), (.int Go.IntKind.i64 (1)), (.int Go.IntKind.i64 (15))], objs := [(680, .row [(.int Go.IntKind.i64 (2)), (.int Go.IntKind.i64 (2)), (.int Go.IntKind.i64 (1))] true 0), (679, .row [(.int Go.IntKind.i64 (1)), (.int Go.IntKind.i64 (3)), (.int Go.IntKind.i64 (0))] true 0), (678, .row [(.int Go.IntKind.i64 (4)), (.int Go.IntKind.i64 (0)), (.int Go.IntKind.i64 (2))] true 0), (681, .row [(.slice (some ⟨678, 0, none⟩) 3 3), (.slice (some ⟨679, 0, none⟩) 3 3), (.slice (some ⟨680, 0, none⟩) 3 3)] true 0), (677, .row [(.int Go.IntKind.i64 (3)), (.int Go.IntKind.i64 (5)), (.int Go.IntKind.i64 (2)), (.int Go.IntKind.i64 (3)), (.int Go.IntKind.i64 (0)), (.int Go.IntKind.i64 (1))] true 0)], val := (.tuple ⟨[(.int Go.IntKind.i64 (3)), (.int Go.IntKind.i64 (0))]⟩), next' := 1021, objs' := [] }
def e5 : Entry :=
  { next := 1030, f := 48, args := [(.agg ⟨[(.slice (some ⟨1025, 0, none⟩) 3 3), (.slice (some ⟨1029, 0, none⟩) 3 3), (.slice none 0 0)]⟩), (.int Go.IntKind.i64 (0)), (.int Go.IntKind.i64 (4))], objs := [(1028, .row [(.int Go.IntKind.i64 (2)), (.int Go.IntKind.i64 (2)), (.int Go.IntKind.i64 (1))] true 0), (1027, .row [(.int Go.IntKind.i64 (1)), (.int Go.IntKind.i64 (3)), (.int Go.IntKind.i64 (0))] true 0), (1026, .row [(.int Go.IntKind.i64 (4)), (.int Go.IntKind.i64 (0)), (.int Go.IntKind.i64 (2))] true 0), (1029, .row [(.slice (some ⟨1026, 0, none⟩) 3 3), (.slice (some ⟨1027, 0, none⟩) 3 3), (.slice (some ⟨1028, 0, none⟩) 3 3)] true 0), (1025, .row [(.int Go.IntKind.i64 (3)), (.int Go.IntKind.i64 (5)), (.int Go.IntKind.i64 (2)), (.int Go.IntKind.i64 (3)), (.int Go.IntKind.i64 (0)), (.int Go.IntKind.i64 (1))] true 0)], val := (.tuple ⟨[(.slice (some ⟨2123, 0, none⟩) 3 4611686018427387904), (.int Go.IntKind.i64 (13)), (.int Go.IntKind.i64 (0))]⟩), next' := 2124, objs' := [(2123, .row [(.int Go.IntKind.i64 (1)), (.int Go.IntKind.i64 (2)), (.int Go.IntKind.i64 (1))] true 1)] }
def e6 : Entry :=
  { next := 2141, f := 53, args := [(.agg ⟨[(.slice (some ⟨2136, 0, none⟩) 3 3), (.slice (some ⟨2140, 0, none⟩) 3 3), (.slice (some ⟨2131, 0, none⟩) 3 3)]⟩)], objs := [(2131, .row [(.int Go.IntKind.i64 (0)), (.int Go.IntKind.i64 (18)), (.int Go.IntKind.i64 (18)), (.int Go.IntKind.i64 (2)), (.int Go.IntKind.i64 (13)), (.int Go.IntKind.i64 (13)), (.int Go.IntKind.i64 (1)), (.int Go.IntKind.i64 (13)), (.int Go.IntKind.i64 (13))] true 0), (2139, .row [(.int Go.IntKind.i64 (2)), (.int Go.IntKind.i64 (2)), (.int Go.IntKind.i64 (1))] true 0), (2138, .row [(.int Go.IntKind.i64 (1)), (.int Go.IntKind.i64 (3)), (.int Go.IntKind.i64 (0))] true 0), (2137, .row [(.int Go.IntKind.i64 (4)), (.int Go.IntKind.i64 (0)), (.int Go.IntKind.i64 (2))] true 0), (2140, .row [(.slice (some ⟨2137, 0, none⟩) 3 3), (.slice (some ⟨2138, 0, none⟩) 3 3), (.slice (some ⟨2139, 0, none⟩) 3 3)] true 0), (2136, .row [(.int Go.IntKind.i64 (3)), (.int Go.IntKind.i64 (5)), (.int Go.IntKind.i64 (2)), (.int Go.IntKind.i64 (3)), (.int Go.IntKind.i64 (0)), (.int Go.IntKind.i64 (1))] true 0)], val := (.tuple ⟨[(.int Go.IntKind.i64 (2)), (.int Go.IntKind.i64 (0))]⟩), next' := 2533, objs' := [] }
def e7 : Entry :=
  { next := 2550, f := 54, args := [(.agg ⟨[(.slice (some ⟨2545, 0, none⟩) 3 3), (.slice (some ⟨2549, 0, none⟩) 3 3), (.slice (some ⟨2540, 0, none⟩) 3 3)]⟩)], objs := [(2540, .row [(.int Go.IntKind.i64 (0)), (.int Go.IntKind.i64 (18)), (.int Go.IntKind.i64 (18)), (.int Go.IntKind.i64 (2)), (.int Go.IntKind.i64 (13)), (.int Go.IntKind.i64 (13)), (.int Go.IntKind.i64 (1)), (.int Go.IntKind.i64 (13)), (.int Go.IntKind.i64 (13))] true 0), (2548, .row [(.int Go.IntKind.i64 (2)), (.int Go.IntKind.i64 (2)), (.int Go.IntKind.i64 (1))] true 0), (2547, .row [(.int Go.IntKind.i64 (1)), (.int Go.IntKind.i64 (3)), (.int Go.IntKind.i64 (0))] true 0), (2546, .row [(.int Go.IntKind.i64 (4)), (.int Go.IntKind.i64 (0)), (.int Go.IntKind.i64 (2))] true 0), (2549, .row [(.slice (some ⟨2546, 0, none⟩) 3 3), (.slice (some ⟨2547, 0, none⟩) 3 3), (.slice (some ⟨2548, 0, none⟩) 3 3)] true 0), (2545, .row [(.int Go.IntKind.i64 (3)), (.int Go.IntKind.i64 (5)), (.int Go.IntKind.i64 (2)), (.int Go.IntKind.i64 (3)), (.int Go.IntKind.i64 (0)), (.int Go.IntKind.i64 (1))] true 0)], val := (.tuple ⟨[(.slice (some ⟨2813, 0, none⟩) 1 4611686018427387904), (.int Go.IntKind.i64 (0))]⟩), next' := 2941, objs' := [(2813, .row [(.int Go.IntKind.i64 (1))] true 1)] }
def tab : List Entry := [e0, e1, e2, e3, e4, e5, e6, e7]
end Go.Vm.Awake

namespace Go.Vm.Awake
open Go.Proofs
set_option maxRecDepth 100000
def isTrue (x : Option (Value × AHeap)) : Bool := match x with
  | some (.bool true, _) => true
  | _ => false
theorem main_ok : isTrue (acallO Try.prog quiet tab 1000 (.func (.func 24) #[] #[]) [] AHeap.empty) = true := by kernel_rfl
end Go.Vm.Awake

namespace Go.Vm.Awake
open Go.Proofs
set_option maxRecDepth 100000
theorem ok5 : entryOk (acall Try.prog quiet 1000) e5 = true := by kernel_rfl
end Go.Vm.Awake

namespace Go.Vm.Awake
open Go.Proofs
set_option maxRecDepth 100000
theorem ok3 : entryOk (acall Try.prog quiet 1000) e3 = true := by kernel_rfl
theorem ok4 : entryOk (acall Try.prog quiet 1000) e4 = true := by kernel_rfl
theorem ok7 : entryOk (acall Try.prog quiet 1000) e7 = true := by kernel_rfl
end Go.Vm.Awake

namespace Go.Vm.Awake
open Go.Proofs
set_option maxRecDepth 100000
theorem ok0 : entryOk (acall Try.prog quiet 1000) e0 = true := by kernel_rfl
theorem ok1 : entryOk (acall Try.prog quiet 1000) e1 = true := by kernel_rfl
theorem ok2 : entryOk (acall Try.prog quiet 1000) e2 = true := by kernel_rfl
theorem ok6 : entryOk (acall Try.prog quiet 1000) e6 = true := by kernel_rfl
end Go.Vm.Awake
