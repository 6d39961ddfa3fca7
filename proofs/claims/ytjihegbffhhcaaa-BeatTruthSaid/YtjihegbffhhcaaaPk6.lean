/- Texts of the proofs of this seat, put together: BtRef2, BtV2, BtV3, BtIter, BtOpen. -/
import Derived.Test.YtjihegbffhhcaaaPk5

namespace Go.Vm.Bt
open Go.Proofs Go.Vm.Vat Go.Vm.L2
set_option linter.unusedSimpArgs false
set_option linter.unusedVariables false
set_option maxRecDepth 10000
variable {n : Nat} {h : AHeap}
theorem listed_u {S : MB} {x : Int} {m : Nat} {a : Nat → Int} (hl : Listed S x m a) : InU S (asU x a m) ∧ (∀ j, numU S ≤ j → asU x a m j = 0) ∧ asU x a m 0 = x ∧ ∀ i, i < m → asU x a m (i + 1) = a i := by
  obtain ⟨h1, h2, h3⟩ := hl
  subst h2
  refine ⟨fun i hi => ?_, fun j hj => ?_, rfl, fun i hi => ?_⟩
  · unfold asU
    by_cases c : i = 0
    · rw [if_pos c, c, uLo_zero, uHi_zero]; exact h1
    · unfold numU at hi
      rw [if_neg c, if_pos hi]
      have := h3 (i - 1) (by omega)
      simp only [uLo, uHi, c, if_false]
      exact this
  · unfold numU at hj
    unfold asU
    rw [if_neg (by omega), if_neg (by omega)]
  · unfold asU
    rw [if_neg (by omega), if_pos (by omega), Nat.add_sub_cancel]
theorem cou_of {S : MB} {x : Int} {m : Nat} {a : Nat → Int} {cw : Value} (hl : Listed S x m a) (hc : Ints h cw m a) : CouR h cw S (asU x a m) := by
  have he := (listed_u hl).2.2.2
  obtain ⟨_, h2, _⟩ := hl
  subst h2
  exact cells_congr hc fun k j hk hj => by show _ = Value.int IntKind.i64 (asU x a S.nv (k + 1)); rw [he k hk]
def s70 : SCode := (.seq (.ops [⟨(some 1), none, .box (T 0)⟩, ⟨(some 2), none, .mov (.const (.int .i64 (0)))⟩]) (.seq (.ops [⟨(some 5), none, .fieldAddr 0 (T 1)⟩, ⟨(some 6), none, .loadN 2 (T 5)⟩, ⟨(some 7), none, .call (.func 108) [(T 6)]⟩, ⟨(some 3), none, .mov (T 7)⟩]) (.seq (.seq (.ops [⟨(some 4), none, .mov (.const (.int .i64 (0)))⟩]) (.block 0 (.loop (.seq (.seq (.ops [⟨(some 8), none, .mov (T 4)⟩, ⟨(some 9), none, .fieldAddr 2 (T 1)⟩, ⟨(some 10), none, .load1 (T 9)⟩, ⟨(some 11), none, .len (T 10)⟩, ⟨(some 12), none, .int2 .lss (T 8) (T 11)⟩]) (.cond (T 12) .skip (.exit 0))) (.seq (.block 1 (.ops [⟨(some 15), none, .mov (T 3)⟩, ⟨(some 16), none, .fieldAddr 2 (T 1)⟩, ⟨(some 17), none, .load1 (T 16)⟩, ⟨(some 18), none, .mov (T 4)⟩, ⟨(some 19), none, .idxSl 4 (T 17) (T 18)⟩, ⟨(some 20), none, .fieldAddr 0 (T 19)⟩, ⟨(some 21), none, .loadN 2 (T 20)⟩, ⟨(some 22), none, .call (.func 108) [(T 21)]⟩, ⟨(some 23), none, .int2 .mul (T 15) (T 22)⟩, ⟨(some 3), none, .mov (T 23)⟩])) (.ops [⟨(some 13), none, .mov (T 4)⟩, ⟨(some 14), none, .int2 .add (T 13) (.const (.int .i64 (1)))⟩, ⟨(some 4), none, .mov (T 14)⟩])))))) (.seq (.ops [⟨(some 24), none, .mov (T 3)⟩, ⟨(some 2), none, .mov (T 24)⟩]) .ret))))
theorem fok70 : FnOk Try.prog 70 25 s70 [.tmp 2] := ⟨Try.f70, _, Try.func70, rfl, Try.ntmps70, by kernel_rfl, by kernel_rfl⟩
theorem manyR_c (hn : 100 ≤ n) (hr : h.next + 60 < far) {vv sv : Value} {S : MB} (hy : BeatR h vv sv S) (hA : ArgsOk S) (hl : S.nv ≤ 3) :
    call n (.func (.func 70) #[] #[]) [.agg ⟨beL S vv sv⟩] h = some (.int .i64 (manyS S), h) := by
  obtain ⟨n, rfl⟩ : ∃ p, n = p + 1 := ⟨n - 1, by omega⟩
  refine call_plain0 fok70 rfl rfl (by simp) rfl ?_
  have hy := hy.shut
  have hr : h.shutAll.next + 60 < far := hr
  generalize h.shutAll = h at hy hr
  obtain ⟨b1, b2, b3, b4⟩ := hA.head
  simp only [s70, W_seq, W_ops]
  refine ops_box (cs := beL S vv sv) (by omega) rfl hy.one fun g1 hx => ?_
  have n1 := hx.next
  have hy1 := hy.mono hx.sub
  have r1 := hx.row
  have es := size_ok (n := n) (h := g1) (by omega) (by omega) b2 b3 (by omega)
  simp only [rn0, rn1, rn2, rn3, rn4, rn5, rn6, rn7, rn8, if_true, if_false, Nat.le_refl, true_and, and_true, decide_true, decide_false, Bool.not_true, Bool.not_false, reduceIte, Nat.reduceEqDiff, Nat.reduceAdd, Nat.reduceMul, Nat.reduceSub, Nat.reduceLeDiff, Nat.reduceLT, be_rng hx.row, es]
  refine W_loop S.nv (fun k f g m' => g = g1 ∧ m' = [] ∧ f 1 = .pointer (some ⟨h.next, 0, none⟩) ∧ f 3 = .int .i64 (sizeN (uLo S) (uHi S) (k + 1)) ∧ f 4 = .int .i64 (k : Int)) (by simp; omega) ?_ ?_ ?_
  · have e0 : sizeN (uLo S) (uHi S) 1 = S.shi - S.slo + 1 := by simp [sizeN, uLo, uHi]
    simp only [rn0, rn1, rn2, rn3, rn4, rn5, rn6, rn7, rn8, if_true, if_false, Nat.le_refl, true_and, and_true, decide_true, decide_false, Bool.not_true, Bool.not_false, reduceIte, Nat.reduceEqDiff, Nat.reduceAdd, Nat.reduceMul, Nat.reduceSub, Nat.reduceLeDiff, Nat.reduceLT, Nat.zero_add, e0]
    first | done | trivial
  · rintro k f g m' hk ⟨rfl, rfl, f1, f3, f4⟩
    have hk' : (k : Int) < (S.nv : Int) := by omega
    have hw : wrapF .i64 ((k : Int) + 1) = ((k + 1 : Nat) : Int) := by rw [wrap_in (by omega) (by omega)]; rfl
    obtain ⟨⟨v1, v2, v3⟩, _⟩ := hA.vat k hk
    have es := size_ok (n := n) (h := g) (by omega) (by omega) v1 v2 (by omega)
    have hb := size_bound hA hl (k + 1 + 1) (by unfold numU; omega)
    have hm : wrapF .i64 (sizeN (uLo S) (uHi S) (k + 1) * (S.nhi k - S.nlo k + 1)) = sizeN (uLo S) (uHi S) (k + 1 + 1) := by
      have : sizeN (uLo S) (uHi S) (k + 1 + 1) = sizeN (uLo S) (uHi S) (k + 1) * (S.nhi k - S.nlo k + 1) := by rw [sizeN, uLo_succ, uHi_succ]
      rw [← this]; exact wrap_in (by omega) (by omega)
    simp only [rn0, rn1, rn2, rn3, rn4, rn5, rn6, rn7, rn8, if_true, if_false, Nat.le_refl, true_and, and_true, decide_true, decide_false, Bool.not_true, Bool.not_false, reduceIte, Nat.reduceEqDiff, Nat.reduceAdd, Nat.reduceMul, Nat.reduceSub, Nat.reduceLeDiff, Nat.reduceLT, f1, f3, f4, r1.ld, beg, Nat.zero_add, Cells.len hy1.v, hk', Cells.idx hy1.v hk, Cells.fld hy1.v hk, need_ld hy1 hk, es, hm, hw]
  · rintro f g m' ⟨rfl, rfl, f1, f3, f4⟩
    have e : sizeN (uLo S) (uHi S) (S.nv + 1) = manyS S := rfl
    simp only [rn0, rn1, rn2, rn3, rn4, rn5, rn6, rn7, rn8, if_true, if_false, Nat.le_refl, true_and, and_true, decide_true, decide_false, Bool.not_true, Bool.not_false, reduceIte, Nat.reduceEqDiff, Nat.reduceAdd, Nat.reduceMul, Nat.reduceSub, Nat.reduceLeDiff, Nat.reduceLT, f1, f3, f4, r1.ld, beg, Nat.zero_add, Cells.len hy1.v, Int.lt_irrefl, e]
end Go.Vm.Bt

namespace Go.Vm.Bt
open Go.Proofs Go.Vm.Vat Go.Vm.L2
set_option linter.unusedSimpArgs false
set_option linter.unusedVariables false
set_option maxRecDepth 10000
variable {n : Nat} {h : AHeap}
def dn (d : Nat → Int) : List Value := (List.range 3).map fun j => .int .i64 (d j)
theorem dn_len {d : Nat → Int} : (dn d).length = 3 := by simp [dn]
theorem dn_get {d : Nat → Int} {j : Nat} (hj : j < 3) : (dn d)[j]? = some (.int .i64 (d j)) := by rw [dn, List.getElem?_map, List.getElem?_range hj]; rfl
theorem dn_one {d : Nat → Int} : allB oneCell (dn d) = true := by rw [allB_iff]; intro v hv; obtain ⟨i, _, rfl⟩ := List.mem_map.1 hv; rfl
theorem dn_self {d : Nat → Int} : eqV (.agg ⟨dn d⟩) (.agg ⟨dn d⟩) = true := by simp [dn, List.range_succ, eqV, eqCells, eqC_int]
theorem dn_mix {S : MB} {u : Nat → Int} : mix 3 S.nv (whenS u) = dn (doneS S u) := rfl
def s78 : SCode := (.seq (.ops [⟨(some 2), none, .box (T 0)⟩, ⟨(some 3), none, .box (T 1)⟩, ⟨(some 4), none, .mov (.const (.bool false))⟩]) (.seq (.seq (.ops [⟨(some 7), none, .fieldAddr 0 (T 2)⟩, ⟨(some 8), none, .fieldAddr 0 (T 7)⟩, ⟨(some 9), none, .loadN 2 (T 8)⟩, ⟨(some 10), none, .fieldAddr 0 (T 3)⟩, ⟨(some 11), none, .load1 (T 10)⟩, ⟨(some 12), none, .call (.func 109) [(T 9), (T 11)]⟩, ⟨(some 13), none, .not (T 12)⟩, ⟨(some 14), none, .mov (T 13)⟩, ⟨(some 15), (some (14, false)), .fieldAddr 1 (T 3)⟩, ⟨(some 16), (some (14, false)), .load1 (T 15)⟩, ⟨(some 17), (some (14, false)), .len (T 16)⟩, ⟨(some 18), (some (14, false)), .fieldAddr 0 (T 2)⟩, ⟨(some 19), (some (14, false)), .fieldAddr 2 (T 18)⟩, ⟨(some 20), (some (14, false)), .load1 (T 19)⟩, ⟨(some 21), (some (14, false)), .len (T 20)⟩, ⟨(some 22), (some (14, false)), .int2 .neq (T 17) (T 21)⟩, ⟨(some 23), none, .pick (T 14) (.const (.bool true)) (T 22)⟩]) (.cond (T 23) (.seq (.ops [⟨(some 4), none, .mov (.const (.bool false))⟩]) .ret) .skip)) (.seq (.seq (.ops [⟨(some 24), none, .fieldAddr 1 (T 3)⟩, ⟨(some 25), none, .load1 (T 24)⟩, ⟨(some 26), none, .len (T 25)⟩, ⟨(some 27), none, .mov (.const (.int .i64 (0)))⟩]) (.block 0 (.loop (.seq (.ops [⟨(some 28), none, .int2 .lss (T 27) (T 26)⟩]) (.seq (.cond (T 28) .skip (.exit 0)) (.seq (.block 1 (.seq (.ops [⟨(some 29), none, .mov (T 27)⟩, ⟨(some 30), none, .idxSl 1 (T 25) (T 27)⟩, ⟨(some 31), none, .load1 (T 30)⟩, ⟨(some 5), none, .mov (T 29)⟩, ⟨(some 6), none, .mov (T 31)⟩]) (.seq (.ops [⟨(some 32), none, .fieldAddr 0 (T 2)⟩, ⟨(some 33), none, .fieldAddr 2 (T 32)⟩, ⟨(some 34), none, .load1 (T 33)⟩, ⟨(some 35), none, .mov (T 5)⟩, ⟨(some 36), none, .idxSl 4 (T 34) (T 35)⟩, ⟨(some 37), none, .fieldAddr 0 (T 36)⟩, ⟨(some 38), none, .loadN 2 (T 37)⟩, ⟨(some 39), none, .mov (T 6)⟩, ⟨(some 40), none, .call (.func 109) [(T 38), (T 39)]⟩, ⟨(some 41), none, .not (T 40)⟩]) (.cond (T 41) (.seq (.ops [⟨(some 4), none, .mov (.const (.bool false))⟩]) .ret) .skip)))) (.ops [⟨(some 42), none, .int2 .add (T 27) (.const (.int .i64 (1)))⟩, ⟨(some 27), none, .mov (T 42)⟩]))))))) (.seq (.ops [⟨(some 4), none, .mov (.const (.bool true))⟩]) .ret))))
theorem fok78 : FnOk Try.prog 78 43 s78 [.tmp 4] := ⟨Try.f78, _, Try.func78, rfl, Try.ntmps78, by kernel_rfl, by kernel_rfl⟩
theorem isCourse_c (hn : 110 ≤ n) (hr : h.next + 50 < far) {vv sv tv cw : Value} {S : MB} {x : Int} {m : Nat} {a : Nat → Int} (hy : BeatR h vv sv S) (ht : oneCell tv = true) (hc : Ints h cw m a) (h30 : m ≤ 30) :
    call n (.func (.func 78) #[] #[]) [.agg ⟨wkL S vv sv tv⟩, .agg ⟨coL x cw⟩] h = some (.bool (decide (Listed S x m a)), h) := by
  obtain ⟨n, rfl⟩ : ∃ p, n = p + 1 := ⟨n - 1, by omega⟩
  refine call_plain0 fok78 rfl rfl (by simp) rfl ?_
  have hy := hy.shut
  have hc := Cells.shut hc
  have hr : h.shutAll.next + 50 < far := hr
  generalize h.shutAll = h at hy hc hr
  simp only [s78, W_seq, W_ops]
  refine ops_box (cs := wkL S vv sv tv) (by omega) rfl (wk_one hy ht) fun h1 hx1 => ?_
  refine ops_box (cs := coL x cw) (by rw [hx1.next]; omega) rfl (co_one hc) fun h2 hx2 => ?_
  have n1 := hx1.next
  have n2 := hx2.next
  have r1 := hx1.row.mono hx2.sub
  have r2 := hx2.row
  have hy := (hy.mono hx1.sub).mono hx2.sub
  have hc : Ints h2 cw m a := Cells.mono (Cells.mono hc hx1.sub) hx2.sub
  have ei := has_c (n := n) (h := h2) (by omega) (by omega) S.slo S.shi x
  by_cases c1 : S.slo ≤ x ∧ x ≤ S.shi
  case neg =>
    have : ¬ Listed S x m a := fun e => c1 e.1
    simp only [rn0, rn1, rn2, rn3, rn4, rn5, rn6, rn7, rn8, if_true, if_false, Nat.le_refl, true_and, and_true, decide_true, decide_false, Bool.not_true, Bool.not_false, reduceIte, Nat.reduceEqDiff, Nat.reduceAdd, Nat.reduceMul, Nat.reduceSub, Nat.reduceLeDiff, Nat.reduceLT, r1.ld, r2.ld, wk_rng r1, wkg, cog, Nat.zero_add, ei, c1, this]
  by_cases c2 : (m : Int) = (S.nv : Int)
  case neg =>
    have : ¬ Listed S x m a := fun e => c2 (by rw [e.2.1])
    simp only [rn0, rn1, rn2, rn3, rn4, rn5, rn6, rn7, rn8, if_true, if_false, Nat.le_refl, true_and, and_true, decide_true, decide_false, Bool.not_true, Bool.not_false, reduceIte, Nat.reduceEqDiff, Nat.reduceAdd, Nat.reduceMul, Nat.reduceSub, Nat.reduceLeDiff, Nat.reduceLT, r1.ld, r2.ld, wk_rng r1, wkg, cog, Nat.zero_add, ei, c1, and_self, Cells.len hc, Cells.len hy.v, c2, this]
  have d2 : decide ((m : Int) = (S.nv : Int)) = true := decide_eq_true c2
  have hmv : m = S.nv := by omega
  simp only [rn0, rn1, rn2, rn3, rn4, rn5, rn6, rn7, rn8, if_true, if_false, Nat.le_refl, true_and, and_true, decide_true, decide_false, Bool.not_true, Bool.not_false, reduceIte, Nat.reduceEqDiff, Nat.reduceAdd, Nat.reduceMul, Nat.reduceSub, Nat.reduceLeDiff, Nat.reduceLT, r1.ld, r2.ld, wk_rng r1, wkg, cog, Nat.zero_add, ei, c1, and_self, Cells.len hc, Cells.len hy.v, d2]
  refine W_loop m (fun k f g ms => g = h2 ∧ ms = [] ∧ f 2 = .pointer (some ⟨h.next, 0, none⟩) ∧ f 25 = cw ∧ f 26 = .int .i64 (m : Int) ∧ f 27 = .int .i64 (k : Int) ∧ ∀ i, i < k → S.nlo i ≤ a i ∧ a i ≤ S.nhi i) (by simp; omega) ?_ ?_ ?_
  · simp only [rn0, rn1, rn2, rn3, rn4, rn5, rn6, rn7, rn8, if_true, if_false, Nat.le_refl, true_and, and_true, decide_true, decide_false, Bool.not_true, Bool.not_false, reduceIte, Nat.reduceEqDiff, Nat.reduceAdd, Nat.reduceMul, Nat.reduceSub, Nat.reduceLeDiff, Nat.reduceLT, Nat.not_lt_zero, false_implies, implies_true, Nat.add_zero]
    trivial
  · rintro k f g ms hk ⟨rfl, rfl, f2, f25, f26, f27, hlt⟩
    have hk' : (k : Int) < (m : Int) := by omega
    have hk2 : k < S.nv := by omega
    have hw : wrapF .i64 ((k : Int) + 1) = ((k + 1 : Nat) : Int) := by rw [wrap_in (by omega) (by omega)]; rfl
    have ek := has_c (n := n) (h := g) (by omega) (by omega) (S.nlo k) (S.nhi k) (a k)
    by_cases hkk : S.nlo k ≤ a k ∧ a k ≤ S.nhi k
    · simp only [rn0, rn1, rn2, rn3, rn4, rn5, rn6, rn7, rn8, if_true, if_false, Nat.le_refl, true_and, and_true, decide_true, decide_false, Bool.not_true, Bool.not_false, reduceIte, Nat.reduceEqDiff, Nat.reduceAdd, Nat.reduceMul, Nat.reduceSub, Nat.reduceLeDiff, Nat.reduceLT, f2, f25, f26, f27, hk', r1.ld, wkg, Nat.zero_add, Cells.idx hc hk, Cells.ld hc hk Nat.zero_lt_one, Cells.idx hy.v hk2, Cells.fld hy.v hk2, need_ld hy hk2, ek, hkk, and_self, hw]
      intro j hj
      by_cases e : j = k
      · subst e; exact hkk
      · exact hlt j (by omega)
    · have : ¬ Listed S x m a := fun e => hkk (e.2.2 k hk)
      simp only [rn0, rn1, rn2, rn3, rn4, rn5, rn6, rn7, rn8, if_true, if_false, Nat.le_refl, true_and, and_true, decide_true, decide_false, Bool.not_true, Bool.not_false, reduceIte, Nat.reduceEqDiff, Nat.reduceAdd, Nat.reduceMul, Nat.reduceSub, Nat.reduceLeDiff, Nat.reduceLT, f2, f25, f26, f27, hk', r1.ld, wkg, Nat.zero_add, Cells.idx hc hk, Cells.ld hc hk Nat.zero_lt_one, Cells.idx hy.v hk2, Cells.fld hy.v hk2, need_ld hy hk2, ek, hkk, this]
  · rintro f g ms ⟨rfl, rfl, f2, f25, f26, f27, hW⟩
    have : Listed S x m a := ⟨c1, hmv, hW⟩
    simp only [rn0, rn1, rn2, rn3, rn4, rn5, rn6, rn7, rn8, if_true, if_false, Nat.le_refl, true_and, and_true, decide_true, decide_false, Bool.not_true, Bool.not_false, reduceIte, Nat.reduceEqDiff, Nat.reduceAdd, Nat.reduceMul, Nat.reduceSub, Nat.reduceLeDiff, Nat.reduceLT, f2, f25, f26, f27, Int.lt_irrefl, this]
def s80 : SCode := (.seq (.ops [⟨(some 1), none, .box (T 0)⟩, ⟨(some 2), none, .alloc [(.int .i64 (0)), (.int .i64 (0)), (.int .i64 (0))]⟩]) (.seq (.seq (.ops [⟨(some 5), none, .fieldAddr 1 (T 1)⟩, ⟨(some 6), none, .load1 (T 5)⟩, ⟨(some 7), none, .len (T 6)⟩, ⟨(some 8), none, .mov (.const (.int .i64 (0)))⟩]) (.block 0 (.loop (.seq (.ops [⟨(some 9), none, .int2 .lss (T 8) (T 7)⟩]) (.seq (.cond (T 9) .skip (.exit 0)) (.seq (.block 1 (.seq (.ops [⟨(some 10), none, .mov (T 8)⟩, ⟨(some 11), none, .idxSl 1 (T 6) (T 8)⟩, ⟨(some 12), none, .load1 (T 11)⟩, ⟨(some 3), none, .mov (T 10)⟩, ⟨(some 4), none, .mov (T 12)⟩]) (.ops [⟨(some 13), none, .mov (T 3)⟩, ⟨(some 14), none, .mov (T 4)⟩, ⟨(some 15), none, .fieldAddr 0 (T 1)⟩, ⟨(some 16), none, .load1 (T 15)⟩, ⟨(some 17), none, .int2 .add (T 14) (T 16)⟩, ⟨(some 18), none, .idxArr 3 1 (T 2) (T 13)⟩, ⟨none, none, .store 1 (T 18) (T 17)⟩]))) (.ops [⟨(some 19), none, .int2 .add (T 8) (.const (.int .i64 (1)))⟩, ⟨(some 8), none, .mov (T 19)⟩]))))))) (.seq (.ops [⟨(some 20), none, .loadN 3 (T 2)⟩, ⟨none, none, .store 3 (T 2) (T 20)⟩]) .ret)))
theorem fok80 : FnOk Try.prog 80 21 s80 [.cellN 2 3] := ⟨Try.f80, _, Try.func80, rfl, Try.ntmps80, by kernel_rfl, by kernel_rfl⟩
theorem done_c (hn : 60 ≤ n) (hr : h.next + 10 < far) {cw : Value} {S : MB} {u : Nat → Int} (hc : CouR h cw S u) (hG : Good S) (hu : InU S u) :
    call n (.func (.func 80) #[] #[]) [.agg ⟨coL (u 0) cw⟩] h = some (.agg ⟨dn (doneS S u)⟩, h) := by
  obtain ⟨n, rfl⟩ : ∃ p, n = p + 1 := ⟨n - 1, by omega⟩
  refine call_plain0 fok80 rfl rfl (by simp) rfl ?_
  have hc := Cells.shut hc
  have hr : h.shutAll.next + 10 < far := hr
  have hfl : h.shutAll.floor ≤ h.shutAll.next := Nat.le_refl _
  generalize h.shutAll = h at hc hr hfl
  obtain ⟨_, _, z3, _⟩ := hG.sizes
  have hcb : 0 < S.nv → ∀ a q cap, cw = .slice (some a) q cap → a.block < h.next := fun h0 a q cap e => cells_lt hc h0 e
  simp only [s80, W_seq, W_ops]
  refine ops_box (cs := coL (u 0) cw) (by omega) rfl (co_one hc) fun h1 hx1 => ?_
  have n1 := hx1.next
  have f1' := hx1.floor
  refine ops_alloc (cs := [.int .i64 0, .int .i64 0, .int .i64 0]) (by omega) rfl fun h2 hx2 => ?_
  have n2 := hx2.next
  have f2' := hx2.floor
  have r1 := hx1.row.mono hx2.sub
  have hc : CouR h2 cw S u := Cells.mono (Cells.mono hc hx1.sub) hx2.sub
  have hb : h2.get h1.next = some (.row (mix 3 0 (whenS u)) true 0) := hx2.get
  simp only [rn0, rn1, rn2, rn3, rn4, rn5, rn6, rn7, rn8, if_true, if_false, Nat.le_refl, true_and, and_true, decide_true, decide_false, Bool.not_true, Bool.not_false, reduceIte, Nat.reduceEqDiff, Nat.reduceAdd, Nat.reduceMul, Nat.reduceSub, Nat.reduceLeDiff, Nat.reduceLT, r1.ld, cog, Nat.zero_add, Cells.len hc]
  refine W_loop S.nv (fun k f g ms => (Keep h1.next h2 g ∧ g.next = h2.next ∧ g.get h1.next = some (.row (mix 3 k (whenS u)) true 0)) ∧ ms = [] ∧ f 1 = .pointer (some ⟨h.next, 0, none⟩) ∧ f 2 = .pointer (some ⟨h1.next, 0, none⟩) ∧ f 6 = cw ∧ f 7 = .int .i64 (S.nv : Int) ∧ f 8 = .int .i64 (k : Int)) (by simp; omega) ?_ ?_ ?_
  · simp only [rn0, rn1, rn2, rn3, rn4, rn5, rn6, rn7, rn8, if_true, if_false, Nat.le_refl, true_and, and_true, decide_true, decide_false, Bool.not_true, Bool.not_false, reduceIte, Nat.reduceEqDiff, Nat.reduceAdd, Nat.reduceMul, Nat.reduceSub, Nat.reduceLeDiff, Nat.reduceLT]
    exact ⟨⟨Keep.refl, hb⟩, rfl⟩
  · rintro k f g ms hk ⟨⟨kp, gn, hg⟩, rfl, f1, f2, f6, f7, f8⟩
    have hk' : (k : Int) < (S.nv : Int) := by omega
    have hw : wrapF .i64 ((k : Int) + 1) = ((k + 1 : Nat) : Int) := by rw [wrap_in (by omega) (by omega)]; rfl
    have hfg := kp.floor
    have hcg : CouR g cw S u := Cells.keep hc kp fun a q cap e => by have := hcb (by omega) a q cap e; omega
    have rg := r1.keep kp (by omega)
    have hwb := when_bound hG hu hk
    have hws : wrapF .i64 (u (k + 1) + u 0) = whenS u k := by rw [Int.add_comm]; exact wrap_in (by unfold whenS at hwb; omega) (by unfold whenS at hwb; omega)
    simp only [rn0, rn1, rn2, rn3, rn4, rn5, rn6, rn7, rn8, if_true, if_false, Nat.le_refl, true_and, and_true, decide_true, decide_false, Bool.not_true, Bool.not_false, reduceIte, Nat.reduceEqDiff, Nat.reduceAdd, Nat.reduceMul, Nat.reduceSub, Nat.reduceLeDiff, Nat.reduceLT, f1, f2, f6, f7, f8, hk', Cells.idx hcg hk, Cells.ld hcg hk Nat.zero_lt_one, rg.ld, cog, Nat.zero_add, hws, idxArr_p (show k < 3 by omega)]
    refine step_store (b := h1.next) (off := k) (vs := [.int .i64 (whenS u k)]) rfl hg (by omega) (by omega) rfl rfl rfl (by rw [mix_len]; omega) fun g1 hs1 => ?_
    have g1g := hs1.get
    rw [mix_splice (show k < 3 by omega)] at g1g
    simp only [rn0, rn1, rn2, rn3, rn4, rn5, rn6, rn7, rn8, if_true, if_false, Nat.le_refl, true_and, and_true, decide_true, decide_false, Bool.not_true, Bool.not_false, reduceIte, Nat.reduceEqDiff, Nat.reduceAdd, Nat.reduceMul, Nat.reduceSub, Nat.reduceLeDiff, Nat.reduceLT, f1, f2, f6, f7, f8, hw]
    have hfin := And.intro (kp.trans hs1.keep) (And.intro (by rw [hs1.next, gn] : g1.next = h2.next) g1g)
    first | exact hfin | exact ⟨hfin, rfl⟩
  · rintro f g ms ⟨⟨kp, gn, hg⟩, rfl, f1, f2, f6, f7, f8⟩
    have hfg := kp.floor
    have rg : Row g h1.next (mix 3 S.nv (whenS u)) := ⟨_, _, hg⟩
    simp only [rn0, rn1, rn2, rn3, rn4, rn5, rn6, rn7, rn8, if_true, if_false, Nat.le_refl, true_and, and_true, decide_true, decide_false, Bool.not_true, Bool.not_false, reduceIte, Nat.reduceEqDiff, Nat.reduceAdd, Nat.reduceMul, Nat.reduceSub, Nat.reduceLeDiff, Nat.reduceLT, f1, f2, f6, f7, f8, Int.lt_irrefl, rg.whole mix_len]
    refine step_store (b := h1.next) (off := 0) (vs := mix 3 S.nv (whenS u)) rfl hg (by omega) (by omega) rfl mix_one mix_len (by rw [mix_len]; omega) fun g1 hs1 => ?_
    rw [splice_all (by rw [mix_len])] at hs1
    simp only [rn0, rn1, rn2, rn3, rn4, rn5, rn6, rn7, rn8, if_true, if_false, Nat.le_refl, true_and, and_true, decide_true, decide_false, Bool.not_true, Bool.not_false, reduceIte, Nat.reduceEqDiff, Nat.reduceAdd, Nat.reduceMul, Nat.reduceSub, Nat.reduceLeDiff, Nat.reduceLT, f2, res_cellN, hs1.row.whole mix_len, dn_mix]
def s112 : SCode := (.seq (.ops [⟨(some 2), none, .box (T 0)⟩, ⟨(some 3), none, .box (T 1)⟩, ⟨(some 4), none, .mov (.const (.bool false))⟩]) (.seq (.draw [⟨.free, ⟨(some 5), none, .fieldAddr 0 (T 3)⟩⟩, ⟨.rd1, ⟨(some 6), none, .load1 (T 5)⟩⟩, ⟨.free, ⟨(some 7), none, .idxArr 3 1 (T 2) (T 6)⟩⟩, ⟨.rd1, ⟨(some 8), none, .load1 (T 7)⟩⟩, ⟨.free, ⟨(some 9), none, .fieldAddr 1 (T 3)⟩⟩, ⟨.rd1, ⟨(some 10), none, .load1 (T 9)⟩⟩, ⟨.free, ⟨(some 11), none, .int2 .leq (T 8) (T 10)⟩⟩, ⟨.free, ⟨(some 12), none, .fieldAddr 2 (T 3)⟩⟩, ⟨.rd1, ⟨(some 13), none, .load1 (T 12)⟩⟩, ⟨.free, ⟨(some 14), none, .bin .eql (.binOp .eql 4 (T 11) (T 13) 4) 4 (T 11) (T 13)⟩⟩, ⟨.free, ⟨(some 4), none, .mov (T 14)⟩⟩]) .ret))
theorem fok112 : FnOk Try.prog 112 15 s112 [.tmp 4] := ⟨Try.f112, _, Try.func112, rfl, Try.ntmps112, by kernel_rfl, by kernel_rfl⟩
theorem isRight_c (hn : 5 ≤ n) (hr : h.next + 5 < far) {S : MB} {u : Nat → Int} (hG : Good S) {k : Nat} (hk : k < S.ns) :
    ∃ r, (r = true ↔ RightS S u k) ∧ call n (.func (.func 112) ⟨[.agg ⟨dn (doneS S u)⟩]⟩ #[]) [.agg ⟨smL S k⟩] h = some (.bool r, h) := by
  obtain ⟨hvv, hsv, _⟩ := hG.samp hk
  refine ⟨decide (whenS u (S.sv k).toNat ≤ S.sh k) == S.sd k, beq_iff_eq, ?_⟩
  obtain ⟨n, rfl⟩ : ∃ p, n = p + 1 := ⟨n - 1, by omega⟩
  refine call_plain (xs := [.agg ⟨dn (doneS S u)⟩]) (ys := []) fok112 rfl rfl (by simp) rfl ?_
  have hr : h.shutAll.next + 5 < far := hr
  generalize h.shutAll = h at hr
  obtain ⟨_, _, z3, _⟩ := hG.sizes
  simp only [s112, List.cons_append, List.nil_append, List.append_nil, W_seq, W_ops]
  refine ops_box (cs := dn (doneS S u)) (by omega) rfl dn_one fun g1 hx => ?_
  refine ops_box (cs := smL S k) (by rw [hx.next]; omega) rfl sm_one fun g2 hx2 => ?_
  have r1 := hx.row.mono hx2.sub
  have hi := idxArr_p (b := h.next) (o := 0) (show (S.sv k).toNat < 3 by omega)
  rw [hsv] at hi
  have hd : (dn (doneS S u))[(S.sv k).toNat]? = some (.int .i64 (whenS u (S.sv k).toNat)) := by rw [dn_get (by omega)]; simp [doneS, hvv]
  simp only [rn0, rn1, rn2, rn3, rn4, rn5, rn6, rn7, rn8, if_true, if_false, Nat.le_refl, true_and, and_true, decide_true, decide_false, Bool.not_true, Bool.not_false, reduceIte, Nat.reduceEqDiff, Nat.reduceAdd, Nat.reduceMul, Nat.reduceSub, Nat.reduceLeDiff, Nat.reduceLT]
  refine W_draw All ?_
  simp only [rn0, rn1, rn2, rn3, rn4, rn5, rn6, rn7, rn8, if_true, if_false, Nat.le_refl, true_and, and_true, decide_true, decide_false, Bool.not_true, Bool.not_false, reduceIte, Nat.reduceEqDiff, Nat.reduceAdd, Nat.reduceMul, Nat.reduceSub, Nat.reduceLeDiff, Nat.reduceLT, hx2.ld, smg, Nat.zero_add, hi, r1.ld, hd, eqV_int, eqV_bool, x_binA, binA_eqlB, p_eqlB u4, valN_tmp, Nat.reduceLT, rBB]
def s82 : SCode := (.seq (.ops [⟨(some 2), none, .box (T 0)⟩, ⟨(some 3), none, .box (T 1)⟩, ⟨(some 4), none, .mov (.const (.bool false))⟩]) (.seq (.ops [⟨(some 5), none, .fieldAddr 0 (T 2)⟩, ⟨(some 6), none, .fieldAddr 4 (T 5)⟩, ⟨(some 7), none, .load1 (T 6)⟩, ⟨(some 8), none, .loadN 3 (T 3)⟩, ⟨(some 9), none, .mkfunc 112 [(T 8)] []⟩, ⟨(some 10), none, .call (.func 111) [(T 7), (T 9)]⟩, ⟨(some 4), none, .mov (T 10)⟩]) .ret))
theorem fok82 : FnOk Try.prog 82 11 s82 [.tmp 4] := ⟨Try.f82, _, Try.func82, rfl, Try.ntmps82, by kernel_rfl, by kernel_rfl⟩
open Classical in
theorem isTruth_c (hn : 120 ≤ n) (hr : h.next + 100 < far) {vv sv tv : Value} {S : MB} {u : Nat → Int} (hy : BeatR h vv sv S) (ht : oneCell tv = true) (hG : Good S) :
    call n (.func (.func 82) #[] #[]) [.agg ⟨wkL S vv sv tv⟩, .agg ⟨dn (doneS S u)⟩] h = some (.bool (decide (∀ k, k < S.ns → RightS S u k)), h) := by
  obtain ⟨n, rfl⟩ : ∃ p, n = p + 1 := ⟨n - 1, by omega⟩
  refine call_plain0 fok82 rfl rfl (by simp) rfl ?_
  have hy := hy.shut
  have hr : h.shutAll.next + 100 < far := hr
  generalize h.shutAll = h at hy hr
  obtain ⟨_, _, _, z5, _⟩ := hG.sizes
  simp only [s82, W_seq, W_ops]
  refine ops_box (cs := wkL S vv sv tv) (by omega) rfl (wk_one hy ht) fun g1 hx => ?_
  refine ops_box (cs := dn (doneS S u)) (by rw [hx.next]; omega) rfl dn_one fun g2 hx2 => ?_
  have n1 := hx.next
  have n2 := hx2.next
  have r1 := hx.row.mono hx2.sub
  have hy2 := (hy.mono hx.sub).mono hx2.sub
  have hsn : g2.shutAll.next = g2.next := rfl
  have he := everySamp_c (n := n) (h := g2) (p := fun k => RightS S u k) (ok := .func (.func 112) ⟨[.agg ⟨dn (doneS S u)⟩]⟩ #[]) (by omega) (by omega) hy2.s (by omega) fun g' hs hg i hi => isRight_c (by omega) (by omega) hG hi
  simp only [rn0, rn1, rn2, rn3, rn4, rn5, rn6, rn7, rn8, if_true, if_false, Nat.le_refl, true_and, and_true, decide_true, decide_false, Bool.not_true, Bool.not_false, reduceIte, Nat.reduceEqDiff, Nat.reduceAdd, Nat.reduceMul, Nat.reduceSub, Nat.reduceLeDiff, Nat.reduceLT, r1.ld, wkg, Nat.zero_add, hx2.row.whole dn_len, he]
def s81 : SCode := (.seq (.ops [⟨(some 3), none, .box (T 0)⟩, ⟨(some 6), none, .mov (.const (.int .i64 (0)))⟩]) (.seq (.seq (.ops [⟨(some 7), none, .mov (T 1)⟩, ⟨(some 8), none, .mov (T 2)⟩, ⟨(some 9), none, .int2 .lss (T 7) (T 8)⟩]) (.cond (T 9) (.seq (.ops [⟨(some 10), none, .fieldAddr 2 (T 3)⟩, ⟨(some 11), none, .load1 (T 10)⟩, ⟨(some 12), none, .mov (T 2)⟩, ⟨(some 13), none, .mov (T 1)⟩, ⟨(some 14), none, .int2 .sub (T 12) (T 13)⟩, ⟨(some 15), none, .int2 .mul (T 11) (T 14)⟩, ⟨(some 6), none, .mov (T 15)⟩]) .ret) .skip)) (.seq (.ops [⟨(some 16), none, .fieldAddr 3 (T 3)⟩, ⟨(some 17), none, .load1 (T 16)⟩, ⟨(some 18), none, .mov (T 1)⟩, ⟨(some 19), none, .mov (T 2)⟩, ⟨(some 20), none, .int2 .sub (T 18) (T 19)⟩, ⟨(some 21), none, .int2 .mul (T 17) (T 20)⟩, ⟨(some 6), none, .mov (T 21)⟩]) .ret)))
theorem fok81 : FnOk Try.prog 81 22 s81 [.tmp 6] := ⟨Try.f81, _, Try.func81, rfl, Try.ntmps81, by kernel_rfl, by kernel_rfl⟩
theorem loses_c (hn : 5 ≤ n) (hr : h.next + 5 < far) {S : MB} (hG : Good S) {v : Nat} (hv : v < S.nv) {d e : Int} (hd : 0 ≤ d ∧ d ≤ 13) (he : 0 ≤ e ∧ e ≤ 9) :
    call n (.func (.func 81) #[] #[]) [.agg ⟨vaL S v⟩, .int .i64 e, .int .i64 d] h = some (.int .i64 (lostS S v d e), h) := by
  obtain ⟨n, rfl⟩ : ∃ p, n = p + 1 := ⟨n - 1, by omega⟩
  refine call_plain0 fok81 rfl rfl (by simp) rfl ?_
  have hr : h.shutAll.next + 5 < far := hr
  generalize h.shutAll = h at hr
  obtain ⟨_, ⟨a1, a2⟩, a3, a4⟩ := hG.args.vat v hv
  simp only [s81, W_seq, W_ops]
  refine ops_box (cs := vaL S v) (by omega) rfl va_one fun g1 hx => ?_
  by_cases c : e < d
  · have m1 : 0 ≤ S.ve v * (d - e) := Int.mul_nonneg a1 (by omega)
    have m2 : S.ve v * (d - e) ≤ 20 * 13 := Int.mul_le_mul a2 (by omega) (by omega) (by omega)
    have w1 : wrapF .i64 (d - e) = d - e := wrap_in (by omega) (by omega)
    have w2 : wrapF .i64 (S.ve v * (d - e)) = lostS S v d e := by
      rw [wrap_in (by omega) (by omega)]
      unfold lostS
      rw [show max 0 (e - d) = 0 by omega, show max 0 (d - e) = d - e by omega, Int.zero_mul, Int.add_zero, Int.mul_comm]
    simp only [rn0, rn1, rn2, rn3, rn4, rn5, rn6, rn7, rn8, if_true, if_false, Nat.le_refl, true_and, and_true, decide_true, decide_false, Bool.not_true, Bool.not_false, reduceIte, Nat.reduceEqDiff, Nat.reduceAdd, Nat.reduceMul, Nat.reduceSub, Nat.reduceLeDiff, Nat.reduceLT, c, hx.ld, vag, Nat.zero_add, w1, w2]
  · have m1 : 0 ≤ S.vl v * (e - d) := Int.mul_nonneg a3 (by omega)
    have m2 : S.vl v * (e - d) ≤ 20 * 9 := Int.mul_le_mul a4 (by omega) (by omega) (by omega)
    have w1 : wrapF .i64 (e - d) = e - d := wrap_in (by omega) (by omega)
    have w2 : wrapF .i64 (S.vl v * (e - d)) = lostS S v d e := by
      rw [wrap_in (by omega) (by omega)]
      unfold lostS
      rw [show max 0 (d - e) = 0 by omega, show max 0 (e - d) = e - d by omega, Int.zero_mul, Int.zero_add, Int.mul_comm]
    simp only [rn0, rn1, rn2, rn3, rn4, rn5, rn6, rn7, rn8, if_true, if_false, Nat.le_refl, true_and, and_true, decide_true, decide_false, Bool.not_true, Bool.not_false, reduceIte, Nat.reduceEqDiff, Nat.reduceAdd, Nat.reduceMul, Nat.reduceSub, Nat.reduceLeDiff, Nat.reduceLT, c, hx.ld, vag, Nat.zero_add, w1, w2]
end Go.Vm.Bt

namespace Go.Vm.Bt
open Go.Proofs Go.Vm.Vat Go.Vm.L2
set_option linter.unusedSimpArgs false
set_option linter.unusedVariables false
set_option maxRecDepth 10000
variable {n : Nat} {h : AHeap}
def DonesR (h : AHeap) (v : Value) (l : List (Nat → Int)) : Prop := Cells h v 3 l.length fun k j => .int .i64 ((l.getD k fun _ => 0) j)
theorem dones_ld {v : Value} {l : List (Nat → Int)} (ht : DonesR h v l) {k : Nat} (hk : k < l.length) : loadAgg 3 h (ptrO v 3 k 0) = some (.agg ⟨dn (l.getD k fun _ => 0)⟩) := by
  rw [Cells.ldN ht hk (by omega) (by omega)]; simp [dn, List.range_succ]
def SameD (a b : Nat → Int) : Prop := ∀ k, k ∈ List.range 3 → a k = b k
instance (a b : Nat → Int) : Decidable (SameD a b) := inferInstanceAs (Decidable (∀ k, k ∈ List.range 3 → a k = b k))
theorem arrInfo : ∃ i, Try.prog.info? 3 = some i ∧ i.size = 1 := ⟨_, by rfl, by rfl⟩
theorem plain_dn {a : Nat → Int} : plainV (.agg ⟨dn a⟩) = true := by
  show allB plainCell (dn a) = true
  rw [allB_iff]; intro v hv; obtain ⟨i, _, rfl⟩ := List.mem_map.1 hv; rfl
theorem eqArr3 {N : Nat} {f : Go.Vm.Fr} {x y : Operand} {ty u : TypeId} {a b : Nat → Int} (hx : valN N f x = .agg ⟨dn a⟩) (hy : valN N f y = .agg ⟨dn b⟩) :
    plainF Try.prog N (.binOp .eql 125 x y u) ty f h = some (.bool (decide (SameD a b)), h) := by
  obtain ⟨i, h1, h2⟩ := arrInfo
  exact plainF_eqArr hx hy plain_dn plain_dn (by rfl) (by rfl) h1 h2 (by rfl) fun k hk => ⟨by rw [← Array.getElem?_toList]; exact dn_get (List.mem_range.1 hk), by rw [← Array.getElem?_toList]; exact dn_get (List.mem_range.1 hk)⟩
def s133 : SCode := (.seq (.ops [⟨(some 3), none, .box (T 1)⟩, ⟨(some 4), none, .mov (.const (.int .i64 (0)))⟩]) (.seq (.seq (.ops [⟨(some 6), none, .mov (T 0)⟩, ⟨(some 7), none, .len (T 6)⟩, ⟨(some 8), none, .mov (.const (.int .i64 (0)))⟩]) (.block 0 (.loop (.seq (.ops [⟨(some 9), none, .int2 .lss (T 8) (T 7)⟩]) (.seq (.cond (T 9) .skip (.exit 0)) (.seq (.block 1 (.seq (.ops [⟨(some 10), none, .mov (T 8)⟩, ⟨(some 5), none, .mov (T 10)⟩]) (.seq (.draw [⟨.rd1, ⟨(some 11), none, .loadN 3 (T 3)⟩⟩, ⟨.free, ⟨(some 12), none, .mov (T 0)⟩⟩, ⟨.free, ⟨(some 13), none, .mov (T 5)⟩⟩, ⟨.free, ⟨(some 14), none, .idxSl 3 (T 12) (T 13)⟩⟩, ⟨.rd1, ⟨(some 15), none, .loadN 3 (T 14)⟩⟩, ⟨.free, ⟨(some 16), none, .bin .eql (.binOp .eql 125 (T 11) (T 15) 125) 4 (T 11) (T 15)⟩⟩]) (.cond (T 16) (.seq (.ops [⟨(some 17), none, .mov (T 5)⟩, ⟨(some 4), none, .mov (T 17)⟩]) .ret) .skip)))) (.ops [⟨(some 18), none, .int2 .add (T 8) (.const (.int .i64 (1)))⟩, ⟨(some 8), none, .mov (T 18)⟩]))))))) (.seq (.ops [⟨(some 4), none, .mov (.const (.int .i64 (-1)))⟩]) .ret)))
theorem fok133 : FnOk Try.prog 133 19 s133 [.tmp 4] := ⟨Try.f133, _, Try.func133, rfl, Try.ntmps133, by kernel_rfl, by kernel_rfl⟩
theorem index_c (hn : 400 ≤ n) (hr : h.next + 2 < far) {v : Value} {l : List (Nat → Int)} {c : Nat → Int} (ht : DonesR h v l) (hl : l.length ≤ 300) :
    call n (.func (.func 133) #[] #[]) [v, .agg ⟨dn c⟩] h = some (.int .i64 (findFrom (fun k => SameD c (l.getD k fun _ => 0)) l.length 0), h) := by
  obtain ⟨n, rfl⟩ : ∃ p, n = p + 1 := ⟨n - 1, by omega⟩
  refine call_plain0 fok133 rfl rfl (by simp) rfl ?_
  have ht := Cells.shut ht
  have hr : h.shutAll.next + 2 < far := hr
  generalize h.shutAll = h at ht hr
  simp only [s133, W_seq, W_ops]
  refine ops_box (cs := dn c) (by omega) rfl dn_one fun h1 hx => ?_
  have ht : DonesR h1 v l := Cells.mono ht hx.sub
  have hw := hx.row.whole dn_len
  simp only [rn0, rn1, rn2, rn3, rn4, rn5, rn6, rn7, rn8, if_true, if_false, Nat.le_refl, true_and, and_true, decide_true, decide_false, Bool.not_true, Bool.not_false, reduceIte, Nat.reduceEqDiff, Nat.reduceAdd, Nat.reduceMul, Nat.reduceSub, Nat.reduceLeDiff, Nat.reduceLT, Cells.len ht]
  refine W_loop l.length (fun k f g m => g = h1 ∧ m = [] ∧ f 0 = v ∧ f 3 = .pointer (some ⟨h.next, 0, none⟩) ∧ f 7 = .int .i64 (l.length : Int) ∧ f 8 = .int .i64 (k : Int) ∧ ∀ j, j < k → ¬ SameD c (l.getD j fun _ => 0)) (by simp; omega) ?_ ?_ ?_
  · simp only [rn0, rn1, rn2, rn3, rn4, rn5, rn6, rn7, rn8, if_true, if_false, Nat.le_refl, true_and, and_true, decide_true, decide_false, Bool.not_true, Bool.not_false, reduceIte, Nat.reduceEqDiff, Nat.reduceAdd, Nat.reduceMul, Nat.reduceSub, Nat.reduceLeDiff, Nat.reduceLT, Nat.not_lt_zero, false_implies, implies_true]
    trivial
  · rintro k f g m hk ⟨rfl, rfl, f0, f3, f7, f8, hlt⟩
    have hk' : (k : Int) < (l.length : Int) := by omega
    have hw1 : wrapF .i64 ((k : Int) + 1) = ((k + 1 : Nat) : Int) := by rw [wrap_in (by omega) (by omega)]; rfl
    simp only [rn0, rn1, rn2, rn3, rn4, rn5, rn6, rn7, rn8, if_true, if_false, Nat.le_refl, true_and, and_true, decide_true, decide_false, Bool.not_true, Bool.not_false, reduceIte, Nat.reduceEqDiff, Nat.reduceAdd, Nat.reduceMul, Nat.reduceSub, Nat.reduceLeDiff, Nat.reduceLT, f0, f3, f7, f8, hk']
    refine W_draw All ?_
    have hq := dones_ld ht hk
    have he := fun (f : Go.Vm.Fr) (e1 : f 11 = .agg ⟨dn c⟩) (e2 : f 15 = .agg ⟨dn (l.getD k fun _ => 0)⟩) => eqArr3 (h := g) (N := 19) (f := f) (x := T 11) (y := T 15) (ty := 4) (u := 125) (a := c) (b := l.getD k fun _ => 0) (by rw [valN_tmp (by omega)]; exact e1) (by rw [valN_tmp (by omega)]; exact e2)
    by_cases hkk : SameD c (l.getD k fun _ => 0)
    · have hf := findFrom_at (p := fun k => SameD c (l.getD k fun _ => 0)) hk hlt hkk
      simp only [rn0, rn1, rn2, rn3, rn4, rn5, rn6, rn7, rn8, if_true, if_false, Nat.le_refl, true_and, and_true, decide_true, decide_false, Bool.not_true, Bool.not_false, reduceIte, Nat.reduceEqDiff, Nat.reduceAdd, Nat.reduceMul, Nat.reduceSub, Nat.reduceLeDiff, Nat.reduceLT, f0, f3, f7, f8, hw, hq, Cells.idx ht hk, x_binA, binA_agg]
      rw [he _ (by simp only [rn0, rn1, rn2, rn3, rn4, rn5, rn6, rn7, rn8, if_true, if_false, Nat.le_refl, true_and, and_true, decide_true, decide_false, Bool.not_true, Bool.not_false, reduceIte, Nat.reduceEqDiff, Nat.reduceAdd, Nat.reduceMul, Nat.reduceSub, Nat.reduceLeDiff, Nat.reduceLT, f0, f3, f7, f8]) (by simp only [rn0, rn1, rn2, rn3, rn4, rn5, rn6, rn7, rn8, if_true, if_false, Nat.le_refl, true_and, and_true, decide_true, decide_false, Bool.not_true, Bool.not_false, reduceIte, Nat.reduceEqDiff, Nat.reduceAdd, Nat.reduceMul, Nat.reduceSub, Nat.reduceLeDiff, Nat.reduceLT, f0, f3, f7, f8])]
      simp only [rn0, rn1, rn2, rn3, rn4, rn5, rn6, rn7, rn8, if_true, if_false, Nat.le_refl, true_and, and_true, decide_true, decide_false, Bool.not_true, Bool.not_false, reduceIte, Nat.reduceEqDiff, Nat.reduceAdd, Nat.reduceMul, Nat.reduceSub, Nat.reduceLeDiff, Nat.reduceLT, f0, f3, f7, f8, eq_true hkk, hf]
    · simp only [rn0, rn1, rn2, rn3, rn4, rn5, rn6, rn7, rn8, if_true, if_false, Nat.le_refl, true_and, and_true, decide_true, decide_false, Bool.not_true, Bool.not_false, reduceIte, Nat.reduceEqDiff, Nat.reduceAdd, Nat.reduceMul, Nat.reduceSub, Nat.reduceLeDiff, Nat.reduceLT, f0, f3, f7, f8, hw, hq, Cells.idx ht hk, x_binA, binA_agg]
      rw [he _ (by simp only [rn0, rn1, rn2, rn3, rn4, rn5, rn6, rn7, rn8, if_true, if_false, Nat.le_refl, true_and, and_true, decide_true, decide_false, Bool.not_true, Bool.not_false, reduceIte, Nat.reduceEqDiff, Nat.reduceAdd, Nat.reduceMul, Nat.reduceSub, Nat.reduceLeDiff, Nat.reduceLT, f0, f3, f7, f8]) (by simp only [rn0, rn1, rn2, rn3, rn4, rn5, rn6, rn7, rn8, if_true, if_false, Nat.le_refl, true_and, and_true, decide_true, decide_false, Bool.not_true, Bool.not_false, reduceIte, Nat.reduceEqDiff, Nat.reduceAdd, Nat.reduceMul, Nat.reduceSub, Nat.reduceLeDiff, Nat.reduceLT, f0, f3, f7, f8])]
      simp only [rn0, rn1, rn2, rn3, rn4, rn5, rn6, rn7, rn8, if_true, if_false, Nat.le_refl, true_and, and_true, decide_true, decide_false, Bool.not_true, Bool.not_false, reduceIte, Nat.reduceEqDiff, Nat.reduceAdd, Nat.reduceMul, Nat.reduceSub, Nat.reduceLeDiff, Nat.reduceLT, f0, f3, f7, f8, eq_false hkk, hw1]
      intro j hj
      by_cases e : j = k
      · subst e; exact hkk
      · exact hlt j (by omega)
  · rintro f g m ⟨rfl, rfl, f0, f3, f7, f8, hlt⟩
    have hf := findFrom_none (p := fun k => SameD c (l.getD k fun _ => 0)) hlt
    simp only [rn0, rn1, rn2, rn3, rn4, rn5, rn6, rn7, rn8, if_true, if_false, Nat.le_refl, true_and, and_true, decide_true, decide_false, Bool.not_true, Bool.not_false, reduceIte, Nat.reduceEqDiff, Nat.reduceAdd, Nat.reduceMul, Nat.reduceSub, Nat.reduceLeDiff, Nat.reduceLT, f0, f3, f7, f8, Int.lt_irrefl, hf]
def HasD (l : List (Nat → Int)) (c : Nat → Int) : Prop := ∃ k, k < l.length ∧ SameD c (l.getD k fun _ => 0)
noncomputable instance (l : List (Nat → Int)) (c : Nat → Int) : Decidable (HasD l c) := Classical.propDecidable _
def s121 : SCode := (.seq (.ops [⟨(some 3), none, .box (T 1)⟩, ⟨(some 4), none, .mov (.const (.bool false))⟩]) (.seq (.ops [⟨(some 5), none, .mov (T 0)⟩, ⟨(some 6), none, .loadN 3 (T 3)⟩, ⟨(some 7), none, .call (.func 133) [(T 5), (T 6)]⟩, ⟨(some 8), none, .int2 .geq (T 7) (.const (.int .i64 (0)))⟩, ⟨(some 4), none, .mov (T 8)⟩]) .ret))
theorem fok121 : FnOk Try.prog 121 9 s121 [.tmp 4] := ⟨Try.f121, _, Try.func121, rfl, Try.ntmps121, by kernel_rfl, by kernel_rfl⟩
theorem contains_c (hn : 401 ≤ n) (hr : h.next + 5 < far) {v : Value} {l : List (Nat → Int)} {c : Nat → Int} (ht : DonesR h v l) (hl : l.length ≤ 300) :
    call n (.func (.func 121) #[] #[]) [v, .agg ⟨dn c⟩] h = some (.bool (decide (HasD l c)), h) := by
  obtain ⟨n, rfl⟩ : ∃ p, n = p + 1 := ⟨n - 1, by omega⟩
  refine call_plain0 fok121 rfl rfl (by simp) rfl ?_
  have ht := Cells.shut ht
  have hr : h.shutAll.next + 5 < far := hr
  generalize h.shutAll = h at ht hr
  simp only [s121, W_seq, W_ops]
  refine ops_box (cs := dn c) (by omega) rfl dn_one fun h1 hx => ?_
  have ht : DonesR h1 v l := Cells.mono ht hx.sub
  have hw := hx.row.whole dn_len
  have hi := index_c (n := n) (h := h1) (c := c) (by omega) (by rw [hx.next]; omega) ht hl
  have hd : decide (0 ≤ findFrom (fun k => SameD c (l.getD k fun _ => 0)) l.length 0) = decide (HasD l c) := decide_eq_decide.2 findFrom_iff
  simp only [rn0, rn1, rn2, rn3, rn4, rn5, rn6, rn7, rn8, if_true, if_false, Nat.le_refl, true_and, and_true, decide_true, decide_false, Bool.not_true, Bool.not_false, reduceIte, Nat.reduceEqDiff, Nat.reduceAdd, Nat.reduceMul, Nat.reduceSub, Nat.reduceLeDiff, Nat.reduceLT, hw, hi, hd]
theorem hasD_iff {S : MB} (hG : Good S) {l : List (Nat → Int)} (hl : ∀ d, d ∈ l → ∃ u, d = doneS S u) {u : Nat → Int} : HasD l (doneS S u) ↔ doneS S u ∈ l := by
  obtain ⟨_, _, z3, _⟩ := hG.sizes
  constructor
  · rintro ⟨k, hk, hs⟩
    have hm := getD_mem hk
    obtain ⟨w, hw⟩ := hl _ hm
    have : doneS S u = l.getD k fun _ => 0 := by
      funext j
      by_cases c : j < 3
      · exact hs j (List.mem_range.2 c)
      · rw [hw]; simp [doneS, show ¬ j < S.nv by omega]
    rw [this]; exact hm
  · intro hm
    obtain ⟨k, hk, e⟩ := mem_getD hm
    exact ⟨k, hk, fun j _ => by rw [e]⟩
def s127 : SCode := (.seq (.ops [⟨(some 2), none, .mov (.const (.slice none 0 0))⟩]) (.seq (.seq (.ops [⟨(some 3), none, .mov (T 0)⟩, ⟨(some 4), none, .eqNil true (T 3) (.const (.slice none 0 0))⟩]) (.cond (T 4) (.seq (.ops [⟨(some 2), none, .mov (.const (.slice none 0 0))⟩]) .ret) .skip)) (.seq (.ops [⟨(some 5), none, .bslice 1 0 [(.int .i64 (0))] [] []⟩, ⟨(some 6), none, .mov (T 0)⟩, ⟨(some 7), none, .append 1 8 (T 5) (T 6)⟩, ⟨(some 2), none, .mov (T 7)⟩]) .ret)))
theorem fok127 : FnOk Try.prog 127 8 s127 [.tmp 2] := ⟨Try.f127, _, Try.func127, rfl, Try.ntmps127, by kernel_rfl, by kernel_rfl⟩
theorem clone_c (hn : 1 ≤ n) (hr : h.next + 3 < far) {v : Value} {m : Nat} {a : Nat → Int} (hv : Ints h v m a) (hm : m ≤ 1000) :
    ∃ v' h', call n (.func (.func 127) #[] #[]) [v] h = some (v', h') ∧ Ints h' v' m a ∧ oneCell v' = true ∧ (∀ i, i < h.next → h'.get i = h.get i) ∧ h.next ≤ h'.next ∧ h'.next ≤ h.next + 2 ∧ h'.floor = h.floor ∧ ∀ x k c, v' = .slice (some x) k c → h.next ≤ x.block ∧ x.block < h'.next := by
  obtain ⟨n, rfl⟩ : ∃ p, n = p + 1 := ⟨n - 1, by omega⟩
  refine call_any0 fok127 rfl rfl (by simp) ?_
  obtain ⟨xv, kv, ev, lv⟩ := Cells.list (by omega) hv
  subst ev
  cases xv with
  | none =>
    obtain ⟨a', cap, e, hsp, h0 | ⟨b, o, cs, w, gr, e2, _⟩⟩ := hv
    · subst h0
      simp only [rn0, rn1, rn2, rn3, rn4, rn5, rn6, rn7, rn8, if_true, if_false, Nat.le_refl, true_and, and_true, decide_true, decide_false, Bool.not_true, Bool.not_false, reduceIte, Nat.reduceEqDiff, Nat.reduceAdd, Nat.reduceMul, Nat.reduceSub, Nat.reduceLeDiff, Nat.reduceLT, s127, x_eqNil, eqNil_yes]
      exact ⟨⟨none, 0, rfl, fun x e => (by cases e), .inl rfl⟩, rfl, (fun _ _ => by first | trivial | rfl), by omega, fun x k c e => by cases e⟩
    · subst e2; cases e
  | some xa =>
    simp only [rn0, rn1, rn2, rn3, rn4, rn5, rn6, rn7, rn8, if_true, if_false, Nat.le_refl, true_and, and_true, decide_true, decide_false, Bool.not_true, Bool.not_false, reduceIte, Nat.reduceEqDiff, Nat.reduceAdd, Nat.reduceMul, Nat.reduceSub, Nat.reduceLeDiff, Nat.reduceLT, s127, x_eqNil, eqNil_no, build_none1]
    refine step_slice (by omega) rfl fun g1 hx1 => ?_
    have n1 := hx1.next
    have f1 := hx1.floor
    have hap := append_none (h := g1) (s := 1) (bytes := 8) (b := h.next) ⟨_, _, rfl⟩ (cells_sub hx1.sub hv (by omega) lv) flatL_len (by simp [maxBytes]; omega) (by simp [maxBytes]; omega)
    by_cases hm0 : m = 0
    · rw [if_pos hm0] at hap
      subst hm0
      simp only [rn0, rn1, rn2, rn3, rn4, rn5, rn6, rn7, rn8, if_true, if_false, Nat.le_refl, true_and, and_true, decide_true, decide_false, Bool.not_true, Bool.not_false, reduceIte, Nat.reduceEqDiff, Nat.reduceAdd, Nat.reduceMul, Nat.reduceSub, Nat.reduceLeDiff, Nat.reduceLT, hap]
      exact ⟨⟨some ⟨h.next, 0, none⟩, 0, rfl, fun x e => (by cases e; rfl), .inl rfl⟩, rfl, fun i hi => hx1.old i hi, by omega, by omega, by omega, fun x k c e => by cases e; exact ⟨Nat.le_refl _, by show h.next < g1.next; omega⟩⟩
    · rw [if_neg hm0] at hap
      simp only [rn0, rn1, rn2, rn3, rn4, rn5, rn6, rn7, rn8, if_true, if_false, Nat.le_refl, true_and, and_true, decide_true, decide_false, Bool.not_true, Bool.not_false, reduceIte, Nat.reduceEqDiff, Nat.reduceAdd, Nat.reduceMul, Nat.reduceSub, Nat.reduceLeDiff, Nat.reduceLT, hap]
      refine step_slice (by omega) flatL_one fun g2 hx2 => ?_
      have n2 := hx2.next
      have f2 := hx2.floor
      simp only [rn0, rn1, rn2, rn3, rn4, rn5, rn6, rn7, rn8, if_true, if_false, Nat.le_refl, true_and, and_true, decide_true, decide_false, Bool.not_true, Bool.not_false, reduceIte, Nat.reduceEqDiff, Nat.reduceAdd, Nat.reduceMul, Nat.reduceSub, Nat.reduceLeDiff, Nat.reduceLT]
      refine ⟨cells_row hx2.row fun k j hk hj => flatL_get (c := fun k _ => .int .i64 (a k)) hk hj, rfl, fun i hi => by rw [hx2.old i (by omega), hx1.old i hi], by omega, by omega, by omega, fun x k c e => by cases e; exact ⟨by show h.next ≤ g1.next; omega, by show g1.next < g2.next; omega⟩⟩
end Go.Vm.Bt

namespace Go.Vm.Bt
open Go.Proofs Go.Vm.Vat Go.Vm.L2
set_option linter.unusedSimpArgs false
set_option linter.unusedVariables false
set_option maxRecDepth 10000
variable {n : Nat} {h : AHeap}
def OkU (S : MB) (i : Nat) (c : Nat → Int) : Prop := (∀ j, j < i → uLo S j ≤ c j ∧ c j ≤ uHi S j) ∧ ∀ j, numU S ≤ j → c j = 0
def ndL (S : MB) (c : Nat → Int) : List Value := (List.range S.nv).map fun v => .int .i64 (c (v + 1))
theorem ndL_len {S : MB} {c : Nat → Int} : (ndL S c).length = S.nv := by simp [ndL]
theorem ndL_one {S : MB} {c : Nat → Int} : allB oneCell (ndL S c) = true := by rw [allB_iff]; intro v hv; obtain ⟨i, _, rfl⟩ := List.mem_map.1 hv; rfl
theorem ndL_congr {S : MB} {c c' : Nat → Int} (h : ∀ j, 1 ≤ j → j ≤ S.nv → c j = c' j) : ndL S c = ndL S c' := by
  unfold ndL
  apply List.map_congr_left
  intro v hv
  rw [h (v + 1) (by omega) (by have := List.mem_range.1 hv; omega)]
theorem ndL_set {S : MB} {c : Nat → Int} {i : Nat} (hi : i < S.nv) {x : Int} : splice (ndL S c) i [.int .i64 x] = ndL S (setU c (i + 1) x) := by
  refine map_splice (by simp; omega) (fun j hj hc => ?_) (fun j hj => ?_)
  · simp only [List.length_cons, List.length_nil] at hc
    simp only [setU]
    rw [if_neg (by omega)]
  · simp only [List.length_cons, List.length_nil] at hj
    obtain rfl : j = 0 := by omega
    simp [setU]
theorem ndL_ints {S : MB} {c : Nat → Int} {g : AHeap} {b k gr : Nat} {w : Bool} (hg : g.get b = some (.row (ndL S c) w gr)) : Ints g (.slice (some ⟨b, 0, none⟩) S.nv k) S.nv fun v => c (v + 1) :=
  ⟨_, _, rfl, fun x e => by cases e; rfl, .inr ⟨b, 0, _, _, _, rfl, hg, fun v j hv hj => by
    obtain rfl : j = 0 := by omega
    rw [Nat.zero_add, Nat.mul_one, Nat.add_zero, ndL, List.getElem?_map, List.getElem?_range hv]; rfl⟩⟩
theorem build_co {x : Int} {a : Option Addr} {m k : Nat} : buildA (fun x => (#[(0, 1), (1, 1)] : Array (Nat × Nat))[x]?) ⟨[.int .i64 0, .slice none 0 0]⟩ [0, 1] h [.int .i64 x, .slice a m k] = some (.agg ⟨coL x (.slice a m k)⟩, h) := id rfl
section
variable {σ : Type} {Own : AHeap → Nat → Prop}
def chooseV (pn py pw pc : Nat) : Value := .func (.func 132) ⟨[]⟩ ⟨[.pointer (some ⟨pn, 0, none⟩), .pointer (some ⟨py, 0, none⟩), .pointer (some ⟨pw, 0, none⟩), .pointer (some ⟨pc, 0, none⟩)]⟩
structure ItS (Own : AHeap → Nat → Prop) (S : MB) (vv sv tv : Value) (pn py pw pc nb : Nat) (yv : Value) (g : AHeap) : Prop where
  u : Row g pn [.slice (some ⟨nb, 0, none⟩) S.nv S.nv]
  y : Row g py [yv]
  w : Row g pw (wkL S vv sv tv)
  c : Row g pc [chooseV pn py pw pc]
  ou : Own g pn
  oy : Own g py
  ow : Own g pw
  oc : Own g pc
theorem ItS.fr {S : MB} {vv sv tv : Value} {pn py pw pc nb : Nat} {yv : Value} {g g' : AHeap} (hi : ItS Own S vv sv tv pn py pw pc nb yv g) (hf : FrO Own g g') : ItS Own S vv sv tv pn py pw pc nb yv g' := by
  obtain ⟨a1, b1⟩ := hf _ _ hi.u hi.ou
  obtain ⟨a2, b2⟩ := hf _ _ hi.y hi.oy
  obtain ⟨a3, b3⟩ := hf _ _ hi.c hi.oc
  obtain ⟨a4, b4⟩ := hf _ _ hi.w hi.ow
  exact ⟨a1, a2, a4, a3, b1, b2, b4, b3⟩
structure More (g g' : AHeap) : Prop where
  old : ∀ i, i < g.next → g'.get i = g.get i
  up : g.next ≤ g'.next
  floor : g'.floor = g.floor
theorem More.sub {g g' : AHeap} (hm : More g g') : Sub All g g' := AHeap.subOf hm.old
def s132 : SCode := (.seq (.ops [⟨(some 8), none, .mov (.const (.bool false))⟩]) (.seq (.seq (.ops [⟨(some 10), none, .mov (T 1)⟩, ⟨(some 11), none, .load1 (T 2)⟩, ⟨(some 12), none, .len (T 11)⟩, ⟨(some 13), none, .int2 .eql (T 10) (T 12)⟩]) (.cond (T 13) (.seq (.draw [⟨.rd, ⟨(some 14), none, .load1 (T 3)⟩⟩, ⟨.free, ⟨(some 15), none, .mov (T 0)⟩⟩, ⟨.rd1, ⟨(some 16), none, .load1 (T 2)⟩⟩, ⟨.up, ⟨(some 17), none, .call (.func 127) [(T 16)]⟩⟩, ⟨.free, ⟨(some 18), none, .build #[(0, 1), (1, 1)] [(.int .i64 (0)), (.slice none 0 0)] [0, 1] [(T 15), (T 17)]⟩⟩, ⟨.any, ⟨(some 19), none, .call (T 14) [(T 18)]⟩⟩, ⟨.free, ⟨(some 8), none, .mov (T 19)⟩⟩]) .ret) .skip)) (.seq (.seq (.ops [⟨(some 20), none, .fieldAddr 0 (T 4)⟩, ⟨(some 21), none, .fieldAddr 2 (T 20)⟩, ⟨(some 22), none, .load1 (T 21)⟩, ⟨(some 23), none, .mov (T 1)⟩, ⟨(some 24), none, .idxSl 4 (T 22) (T 23)⟩, ⟨(some 25), none, .fieldAddr 0 (T 24)⟩, ⟨(some 26), none, .loadN 2 (T 25)⟩, ⟨(some 27), none, .call (.func 117) [(T 26)]⟩, ⟨(some 28), none, .mov (.const (.int .i64 (0)))⟩]) (.block 0 (.loop (.seq (.ops [⟨(some 29), none, .int2 .lss (T 28) (T 27)⟩]) (.seq (.cond (T 29) .skip (.exit 0)) (.seq (.block 1 (.seq (.ops [⟨(some 30), none, .mov (T 28)⟩, ⟨(some 9), none, .mov (T 30)⟩]) (.seq (.draw [⟨.rd1, ⟨(some 31), none, .load1 (T 2)⟩⟩, ⟨.free, ⟨(some 32), none, .mov (T 1)⟩⟩, ⟨.free, ⟨(some 33), none, .fieldAddr 0 (T 4)⟩⟩, ⟨.free, ⟨(some 34), none, .fieldAddr 2 (T 33)⟩⟩, ⟨.rd1, ⟨(some 35), none, .load1 (T 34)⟩⟩, ⟨.free, ⟨(some 36), none, .mov (T 1)⟩⟩, ⟨.free, ⟨(some 37), none, .idxSl 4 (T 35) (T 36)⟩⟩, ⟨.free, ⟨(some 38), none, .fieldAddr 0 (T 37)⟩⟩, ⟨.free, ⟨(some 39), none, .fieldAddr 0 (T 38)⟩⟩, ⟨.rd1, ⟨(some 40), none, .load1 (T 39)⟩⟩, ⟨.free, ⟨(some 41), none, .mov (T 9)⟩⟩, ⟨.free, ⟨(some 42), none, .int2 .add (T 40) (T 41)⟩⟩, ⟨.free, ⟨(some 43), none, .idxSl 1 (T 31) (T 32)⟩⟩, ⟨.any, ⟨none, none, .store 1 (T 43) (T 42)⟩⟩]) (.seq (.ops [⟨(some 44), none, .load1 (T 5)⟩, ⟨(some 45), none, .mov (T 0)⟩, ⟨(some 46), none, .mov (T 1)⟩, ⟨(some 47), none, .int2 .add (T 46) (.const (.int .i64 (1)))⟩, ⟨(some 48), none, .call (T 44) [(T 45), (T 47)]⟩, ⟨(some 49), none, .not (T 48)⟩]) (.cond (T 49) (.seq (.ops [⟨(some 8), none, .mov (.const (.bool false))⟩]) .ret) .skip))))) (.ops [⟨(some 50), none, .int2 .add (T 28) (.const (.int .i64 (1)))⟩, ⟨(some 28), none, .mov (T 50)⟩]))))))) (.seq (.ops [⟨(some 8), none, .mov (.const (.bool true))⟩]) .ret))))
theorem fok132 : FnOk Try.prog 132 51 s132 [.tmp 8] := ⟨Try.f132, _, Try.func132, rfl, Try.ntmps132, by kernel_rfl, by kernel_rfl⟩
set_option maxHeartbeats 1000000 in
theorem choose_c (step : σ → (Nat → Int) → σ × Bool) (J : σ → AHeap → Prop) {S : MB} {vv sv tv : Value} {pn py pw pc nb K N0 fl : Nat} {yv : Value} (hG : Good S)
    (hyv : eqV yv yv = true) (hOb : ∀ g q, Own g q → q ≠ nb) (hfl : fl ≤ nb) (hN : 200 ≤ N0)
    (hJy : ∀ s g, J s g → BeatR g vv sv S)
    (hJs : ∀ s g g' cs, J s g → Set1 g g' nb cs 0 → J s g') (hJn : ∀ s g g', J s g → More g g' → J s g')
    (hOs : ∀ s g g' cs q, J s g → Set1 g g' nb cs 0 → Own g q → Own g' q) (hOn : ∀ s g g' q, J s g → More g g' → Own g q → Own g' q)
    (hY : ∀ n g s c cw, N0 ≤ n → ItS Own S vv sv tv pn py pw pc nb yv g → g.get nb = some (.row (ndL S c) true 0) → OkU S (numU S) c → J s g → CouR g cw S c → oneCell cw = true → g.floor = fl → g.next + K < far →
      ∃ g', call n yv [.agg ⟨coL (c 0) cw⟩] g = some (.bool (step s c).2, g') ∧ J (step s c).1 g' ∧ FrO Own g g' ∧ g'.get nb = some (.row (ndL S c) true 0) ∧ g'.floor = fl ∧ g.next ≤ g'.next ∧ g'.next ≤ g.next + K) :
    ∀ (d i n : Nat) (g : AHeap) (s : σ) (c : Nat → Int), i + d = S.nv → N0 + d + 1 ≤ n → ItS Own S vv sv tv pn py pw pc nb yv g → g.get nb = some (.row (ndL S c) true 0) → OkU S (i + 1) c → J s g → g.floor = fl → g.next + (K + 4) * (enumB (uLo S) (uHi S) d (i + 1) c).length < far →
      ∃ g', call n (chooseV pn py pw pc) [.int .i64 (c 0), .int .i64 (i : Int)] g = some (.bool (runL step s (enumB (uLo S) (uHi S) d (i + 1) c)).2, g') ∧ J (runL step s (enumB (uLo S) (uHi S) d (i + 1) c)).1 g' ∧ FrO Own g g' ∧
        (∃ c', g'.get nb = some (.row (ndL S c') true 0) ∧ ∀ j, j < i + 1 ∨ i + 1 + d ≤ j → c' j = c j) ∧ g'.floor = fl ∧ g.next ≤ g'.next ∧ g'.next ≤ g.next + (K + 4) * (enumB (uLo S) (uHi S) d (i + 1) c).length := by
  obtain ⟨_, _, z3, _⟩ := hG.sizes
  have hnu : numU S = S.nv + 1 := rfl
  intro d
  induction d with
  | zero =>
    intro i n g s c hi' hn hit hb hok hj hfg hr
    obtain ⟨n, rfl⟩ : ∃ p, n = p + 1 := ⟨n - 1, by omega⟩
    simp only [enumB, List.length_singleton, Nat.mul_one, Nat.add_zero] at hr ⊢
    have hin : (i : Int) = (S.nv : Int) := by omega
    have hrun : runL step s [c] = step s c := by
      simp only [runL]
      by_cases e : (step s c).2 = true
      · simp only [e, if_true]; exact (Prod.ext rfl e.symm)
      · simp only [e, Bool.false_eq_true, if_false]; exact (Prod.ext rfl (by simpa using (Bool.eq_false_iff.2 e).symm))
    rw [hrun]
    obtain ⟨cw, g1, e1, hc1, o1, old1, u1, m1, f1, _⟩ := clone_c (n := n) (h := g) (v := .slice (some ⟨nb, 0, none⟩) S.nv S.nv) (by omega) (by omega) (ndL_ints hb) (by omega)
    have hm1 : More g g1 := ⟨old1, u1, f1⟩
    have fr1 : FrO Own g g1 := fun q cs a b => ⟨a.mono hm1.sub, hOn s g g1 q hj hm1 b⟩
    obtain ⟨g', e, q1, q2, q3, q4, q5, q6⟩ := hY n g1 s c cw (by omega) (hit.fr fr1) (by rw [old1 _ (AHeap.lt_of_get hb)]; exact hb) (show OkU S (numU S) c from (show i + 1 = numU S by omega) ▸ hok) (hJn _ _ _ hj hm1) hc1 o1 (by rw [f1, hfg]) (by omega)
    obtain ⟨ax, ak, rfl⟩ := ints_slice hc1
    suffices hs : ∃ v g2, call (n + 1) (chooseV pn py pw pc) [.int .i64 (c 0), .int .i64 (i : Int)] g = some (v, g2) ∧ v = .bool (step s c).2 ∧ g2 = g' by
      obtain ⟨v, g2, e2, rfl, rfl⟩ := hs
      exact ⟨_, e2, q1, fr1.trans q2, ⟨c, q3, fun _ _ => rfl⟩, q4, by omega, by omega⟩
    refine call_any (xs := []) (ys := [.pointer (some ⟨pn, 0, none⟩), .pointer (some ⟨py, 0, none⟩), .pointer (some ⟨pw, 0, none⟩), .pointer (some ⟨pc, 0, none⟩)]) fok132 rfl rfl (by simp) ?_
    simp only [rn0, rn1, rn2, rn3, rn4, rn5, rn6, rn7, rn8, if_true, if_false, Nat.le_refl, true_and, and_true, decide_true, decide_false, Bool.not_true, Bool.not_false, reduceIte, Nat.reduceEqDiff, Nat.reduceAdd, Nat.reduceMul, Nat.reduceSub, Nat.reduceLeDiff, Nat.reduceLT, s132, List.cons_append, List.nil_append, hit.u.ld, Nat.zero_add, List.getElem?_cons_zero, List.getElem?_cons_succ, len_slice, hin]
    refine W_draw All ?_
    simp only [rn0, rn1, rn2, rn3, rn4, rn5, rn6, rn7, rn8, if_true, if_false, Nat.le_refl, true_and, and_true, decide_true, decide_false, Bool.not_true, Bool.not_false, reduceIte, Nat.reduceEqDiff, Nat.reduceAdd, Nat.reduceMul, Nat.reduceSub, Nat.reduceLeDiff, Nat.reduceLT, hit.u.ld, hit.y.ld, Nat.zero_add, List.getElem?_cons_zero, List.getElem?_cons_succ, e1, build_co, e]
    exact ⟨hyv, ⟨u1, hm1.sub⟩, q5⟩
  | succ d ih =>
    intro i n g s c hi' hn hit hb hok hj hfg hr
    obtain ⟨n, rfl⟩ : ∃ p, n = p + 1 := ⟨n - 1, by omega⟩
    have hin : ¬ (i : Int) = (S.nv : Int) := by omega
    have hk : i < S.nv := by omega
    obtain ⟨v1, v2, v3⟩ := hG.u (i + 1) (by omega)
    have el : uLo S (i + 1) = S.nlo i := uLo_succ
    have eh : uHi S (i + 1) = S.nhi i := uHi_succ
    suffices hs : ∃ v g1, call (n + 1) (chooseV pn py pw pc) [.int .i64 (c 0), .int .i64 (i : Int)] g = some (v, g1) ∧ v = .bool (runL step s (enumB (uLo S) (uHi S) (d + 1) (i + 1) c)).2 ∧ J (runL step s (enumB (uLo S) (uHi S) (d + 1) (i + 1) c)).1 g1 ∧ FrO Own g g1 ∧
        (∃ c', g1.get nb = some (.row (ndL S c') true 0) ∧ ∀ j, j < i + 1 ∨ i + 1 + (d + 1) ≤ j → c' j = c j) ∧ g1.floor = fl ∧ g.next ≤ g1.next ∧ g1.next ≤ g.next + (K + 4) * (enumB (uLo S) (uHi S) (d + 1) (i + 1) c).length by
      obtain ⟨v, g1, e1, rfl, h2⟩ := hs
      exact ⟨g1, e1, h2⟩
    refine call_any (xs := []) (ys := [.pointer (some ⟨pn, 0, none⟩), .pointer (some ⟨py, 0, none⟩), .pointer (some ⟨pw, 0, none⟩), .pointer (some ⟨pc, 0, none⟩)]) fok132 rfl rfl (by simp) ?_
    let part : Nat → List (Nat → Int) := fun k => enumB (uLo S) (uHi S) d (i + 1 + 1) fun j => if j = i + 1 then uLo S (i + 1) + (k : Int) else c j
    have hen : enumB (uLo S) (uHi S) (d + 1) (i + 1) c = (List.range (uHi S (i + 1) - uLo S (i + 1) + 1).toNat).flatMap part := rfl
    have hm : ((uHi S (i + 1) - uLo S (i + 1) + 1).toNat : Int) = uHi S (i + 1) - uLo S (i + 1) + 1 := Int.toNat_of_nonneg (by omega)
    have hpos := enumB_pos (lo := uLo S) (hi := uHi S) (d + 1) (i + 1) c fun k h1 h2 => (hG.u k (by omega)).2.1
    rw [hen] at hr hpos ⊢
    generalize hmm : (uHi S (i + 1) - uLo S (i + 1) + 1).toNat = m at hm hr hpos
    obtain ⟨X, hX⟩ : ∃ X, X = K + 4 := ⟨_, rfl⟩
    rw [← hX] at hr ⊢
    rw [← hX] at ih
    have hXp : 4 ≤ X * ((List.range m).flatMap part).length := Nat.le_trans (by omega) (Nat.mul_le_mul (show 4 ≤ X by omega) hpos)
    have hyg := hJy _ _ hj
    have es := rsize_ok (n := n) (h := g) (by omega) (by omega) (lo := S.nlo i) (hi := S.nhi i) (by omega) (by omega) (by omega)
    rw [el, eh] at hm
    rw [← hm] at es
    simp only [rn0, rn1, rn2, rn3, rn4, rn5, rn6, rn7, rn8, if_true, if_false, Nat.le_refl, true_and, and_true, decide_true, decide_false, Bool.not_true, Bool.not_false, reduceIte, Nat.reduceEqDiff, Nat.reduceAdd, Nat.reduceMul, Nat.reduceSub, Nat.reduceLeDiff, Nat.reduceLT, s132, List.cons_append, List.nil_append, hit.u.ld, hit.w.ld, wkg, Nat.zero_add, List.getElem?_cons_zero, List.getElem?_cons_succ, len_slice, hin, Cells.idx hyg.v hk, Cells.fld hyg.v hk, need_ld hyg hk, es]
    refine W_loop m (fun k f g1 ms => (FrO Own g g1 ∧ (∃ c', g1.get nb = some (.row (ndL S c') true 0) ∧ ∀ j, j < i + 1 ∨ i + 1 + (d + 1) ≤ j → c' j = c j) ∧ J (runL step s ((List.range k).flatMap part)).1 g1 ∧ (runL step s ((List.range k).flatMap part)).2 = true ∧
      g1.floor = fl ∧ g.next ≤ g1.next ∧ g1.next ≤ g.next + X * ((List.range k).flatMap part).length) ∧ ms = [] ∧ f 0 = .int .i64 (c 0) ∧ f 1 = .int .i64 (i : Int) ∧ f 2 = .pointer (some ⟨pn, 0, none⟩) ∧ f 4 = .pointer (some ⟨pw, 0, none⟩) ∧ f 5 = .pointer (some ⟨pc, 0, none⟩) ∧ f 27 = .int .i64 (m : Int) ∧ f 28 = .int .i64 (k : Int)) (by simp; omega) ?_ ?_ ?_
    · simp only [rn0, rn1, rn2, rn3, rn4, rn5, rn6, rn7, rn8, if_true, if_false, Nat.le_refl, true_and, and_true, decide_true, decide_false, Bool.not_true, Bool.not_false, reduceIte, Nat.reduceEqDiff, Nat.reduceAdd, Nat.reduceMul, Nat.reduceSub, Nat.reduceLeDiff, Nat.reduceLT, Int.natCast_zero]
      simp only [List.range_zero, List.flatMap_nil, runL, List.length_nil, Nat.mul_zero, Nat.add_zero, Nat.le_refl, and_true]
      exact ⟨.refl, ⟨c, hb, fun _ _ => rfl⟩, hj, trivial, hfg⟩
    · rintro k f g1 ms hkm ⟨⟨fr1, ⟨c', hb1, hc'⟩, hj1, hr1, hf1, hu1, hn1⟩, rfl, f0, f1, f2, f4, f5, f27, f28⟩
      have hkm' : (k : Int) < (m : Int) := by omega
      have hlt := AHeap.lt_of_get hb1
      have it1 := hit.fr fr1
      obtain ⟨rest, hpart⟩ := part_flat part hkm
      have hlen : ((List.range m).flatMap part).length = ((List.range k).flatMap part).length + ((part k).length + rest.length) := by rw [hpart]; simp
      have hKm : X * ((List.range m).flatMap part).length = X * ((List.range k).flatMap part).length + (X * (part k).length + X * rest.length) := by rw [hlen, Nat.mul_add, Nat.mul_add]
      have hy1 := hJy _ _ hj1
      have hwa : wrapF .i64 (S.nlo i + (k : Int)) = uLo S (i + 1) + (k : Int) := by rw [← el]; exact wrap_in (by omega) (by omega)
      have hit1 := ndL_ints (k := S.nv) hb1
      simp only [rn0, rn1, rn2, rn3, rn4, rn5, rn6, rn7, rn8, if_true, if_false, Nat.le_refl, true_and, and_true, decide_true, decide_false, Bool.not_true, Bool.not_false, reduceIte, Nat.reduceEqDiff, Nat.reduceAdd, Nat.reduceMul, Nat.reduceSub, Nat.reduceLeDiff, Nat.reduceLT, f0, f1, f2, f4, f5, f27, f28, hkm']
      refine W_draw All ?_
      simp only [rn0, rn1, rn2, rn3, rn4, rn5, rn6, rn7, rn8, if_true, if_false, Nat.le_refl, true_and, and_true, decide_true, decide_false, Bool.not_true, Bool.not_false, reduceIte, Nat.reduceEqDiff, Nat.reduceAdd, Nat.reduceMul, Nat.reduceSub, Nat.reduceLeDiff, Nat.reduceLT, f0, f1, f2, f4, f5, f27, f28, it1.u.ld, it1.w.ld, wkg, Nat.zero_add, List.getElem?_cons_zero, List.getElem?_cons_succ, Cells.idx hy1.v hk, Cells.fld hy1.v hk, lo_ld hy1 hk, eqV_int, Cells.self hy1.v, Cells.self hit1, hwa, idxSl_p hk]
      refine up_store (b := nb) (off := i) (vs := [.int .i64 (uLo S (i + 1) + (k : Int))]) rfl hb1 (by omega) (by omega) rfl rfl rfl (by rw [ndL_len]; omega) (fun _ _ => trivial) fun g3 hs => ?_
      have hb3 := hs.get
      rw [ndL_set hk] at hb3
      have fr3 : FrO Own g1 g3 := fun q cs a b => ⟨a.keep hs.keep (hOb _ _ b), hOs _ g1 g3 _ q hj1 hs b⟩
      have it3 := it1.fr fr3
      have hw : wrapF .i64 ((i : Int) + 1) = ((i + 1 : Nat) : Int) := by rw [wrap_in (by omega) (by omega)]; rfl
      have hcg : enumB (uLo S) (uHi S) d (i + 1 + 1) (setU c' (i + 1) (uLo S (i + 1) + (k : Int))) = part k := enumB_congr d (i + 1 + 1) _ _ fun j hj => by
        by_cases e : j = i + 1
        · simp [e, setU]
        · simp only [setU, e, if_false]; exact hc' j (by omega)
      have hnx := hs.next
      have hok2 : OkU S (i + 1 + 1) (setU c' (i + 1) (uLo S (i + 1) + (k : Int))) := by
        refine ⟨fun j hj => ?_, fun j hj => ?_⟩
        · by_cases e : j = i + 1
          · subst e; simp only [setU, if_true]; omega
          · simp only [setU, e, if_false]; rw [hc' j (by omega)]; exact hok.1 j (by omega)
        · have e : ¬ j = i + 1 := by omega
          simp only [setU, e, if_false]; rw [hc' j (by omega)]; exact hok.2 j hj
      obtain ⟨g4, e, j4, fr4, ⟨c4, hb4, hc4⟩, fl4, u4, n4⟩ := ih (i + 1) n g3 _ _ (by omega) (by omega) it3 hb3 hok2 (hJs _ _ _ _ hj1 hs) (by rw [hs.floor, hf1]) (by rw [hcg]; omega)
      rw [hcg] at e j4 n4
      have hc00 : setU c' (i + 1) (uLo S (i + 1) + (k : Int)) 0 = c 0 := by simp only [setU]; rw [if_neg (by omega)]; exact hc' 0 (by omega)
      rw [hc00] at e
      have hw2 : wrapF .i64 ((k : Int) + 1) = ((k + 1 : Nat) : Int) := by rw [wrap_in (by omega) (by omega)]; omega
      have hc4' : ∀ j, j < i + 1 ∨ i + 1 + (d + 1) ≤ j → c4 j = c j := fun j hj => by
        rw [hc4 j (by omega)]; simp only [setU]; rw [if_neg (by omega)]; exact hc' j hj
      have fr14 := fr1.trans (fr3.trans fr4)
      by_cases hq : (runL step (runL step s ((List.range k).flatMap part)).1 (part k)).2 = true
      · have hrun : runL step s ((List.range (k + 1)).flatMap part) = runL step (runL step s ((List.range k).flatMap part)).1 (part k) := by
          rw [List.range_succ, List.flatMap_append, runL_append, hr1, if_pos rfl]; simp
        have hl3 : ((List.range (k + 1)).flatMap part).length = ((List.range k).flatMap part).length + (part k).length := by rw [List.range_succ, List.flatMap_append, List.length_append]; simp
        rw [hq] at e
        simp only [rn0, rn1, rn2, rn3, rn4, rn5, rn6, rn7, rn8, if_true, if_false, Nat.le_refl, true_and, and_true, decide_true, decide_false, Bool.not_true, Bool.not_false, reduceIte, Nat.reduceEqDiff, Nat.reduceAdd, Nat.reduceMul, Nat.reduceSub, Nat.reduceLeDiff, Nat.reduceLT, f0, f1, f2, f4, f5, f27, f28, it3.c.ld, Nat.zero_add, List.getElem?_cons_zero, List.getElem?_cons_succ, hw, e, hw2]
        rw [hrun, hl3, Nat.mul_add]
        have hfin := And.intro fr14 (And.intro (⟨c4, hb4, hc4'⟩ : ∃ c', g4.get nb = some (.row (ndL S c') true 0) ∧ ∀ j, j < i + 1 ∨ i + 1 + (d + 1) ≤ j → c' j = c j) (And.intro j4 (And.intro hq (And.intro fl4 (And.intro (by omega : g.next ≤ g4.next) (by omega : g4.next ≤ g.next + (X * ((List.range k).flatMap part).length + X * (part k).length)))))))
        first | exact hfin | exact ⟨hfin, rfl⟩
      · have hq' : (runL step (runL step s ((List.range k).flatMap part)).1 (part k)).2 = false := by simpa using hq
        have hrun : runL step s ((List.range m).flatMap part) = runL step (runL step s ((List.range k).flatMap part)).1 (part k) := by
          rw [hpart, runL_append, hr1, if_pos rfl, runL_append, hq', if_neg (by simp)]
        rw [hq'] at e
        simp only [rn0, rn1, rn2, rn3, rn4, rn5, rn6, rn7, rn8, if_true, if_false, Nat.le_refl, true_and, and_true, decide_true, decide_false, Bool.not_true, Bool.not_false, reduceIte, Nat.reduceEqDiff, Nat.reduceAdd, Nat.reduceMul, Nat.reduceSub, Nat.reduceLeDiff, Nat.reduceLT, f0, f1, f2, f4, f5, f27, f28, it3.c.ld, Nat.zero_add, List.getElem?_cons_zero, List.getElem?_cons_succ, hw, e]
        rw [hrun, hq']
        exact ⟨rfl, j4, fr14, ⟨c4, hb4, hc4'⟩, fl4, by omega, by omega⟩
    · rintro f g1 ms ⟨⟨fr1, ⟨c', hb1, hc'⟩, hj1, hr1, hf1, hu1, hn1⟩, rfl, f0, f1, f2, f4, f5, f27, f28⟩
      simp only [rn0, rn1, rn2, rn3, rn4, rn5, rn6, rn7, rn8, if_true, if_false, Nat.le_refl, true_and, and_true, decide_true, decide_false, Bool.not_true, Bool.not_false, reduceIte, Nat.reduceEqDiff, Nat.reduceAdd, Nat.reduceMul, Nat.reduceSub, Nat.reduceLeDiff, Nat.reduceLT, f0, f1, f2, f4, f5, f27, f28, Int.lt_irrefl]
      exact ⟨by rw [hr1], hj1, fr1, ⟨c', hb1, hc'⟩, hf1, by omega, by omega⟩
def s131 : SCode := (.seq (.ops [⟨(some 2), none, .box (T 0)⟩]) (.seq (.ops [⟨(some 6), none, .fieldAddr 0 (T 1)⟩, ⟨(some 7), none, .fieldAddr 2 (T 6)⟩, ⟨(some 8), none, .load1 (T 7)⟩, ⟨(some 9), none, .len (T 8)⟩, ⟨(some 10), none, .mkslice 1 8 [(.int .i64 (0))] (T 9) (T 9)⟩, ⟨(some 3), none, .alloc [(.slice none 0 0)]⟩, ⟨none, none, .store 1 (T 3) (T 10)⟩]) (.seq (.ops [⟨(some 4), none, .alloc [.nilFunc]⟩]) (.seq (.ops [⟨(some 11), none, .mkfunc 132 [] [(T 3), (T 2), (T 1), (T 4)]⟩, ⟨none, none, .store 1 (T 4) (T 11)⟩]) (.seq (.ops [⟨(some 12), none, .fieldAddr 0 (T 1)⟩, ⟨(some 13), none, .fieldAddr 0 (T 12)⟩, ⟨(some 14), none, .loadN 2 (T 13)⟩, ⟨(some 15), none, .call (.func 117) [(T 14)]⟩, ⟨(some 16), none, .mov (.const (.int .i64 (0)))⟩]) (.block 0 (.loop (.seq (.ops [⟨(some 17), none, .int2 .lss (T 16) (T 15)⟩]) (.seq (.cond (T 17) .skip (.exit 0)) (.seq (.block 1 (.seq (.ops [⟨(some 18), none, .mov (T 16)⟩, ⟨(some 5), none, .mov (T 18)⟩]) (.seq (.ops [⟨(some 19), none, .load1 (T 4)⟩, ⟨(some 20), none, .fieldAddr 0 (T 1)⟩, ⟨(some 21), none, .fieldAddr 0 (T 20)⟩, ⟨(some 22), none, .fieldAddr 0 (T 21)⟩, ⟨(some 23), none, .load1 (T 22)⟩, ⟨(some 24), none, .mov (T 5)⟩, ⟨(some 25), none, .int2 .add (T 23) (T 24)⟩, ⟨(some 26), none, .call (T 19) [(T 25), (.const (.int .i64 (0)))]⟩, ⟨(some 27), none, .not (T 26)⟩]) (.cond (T 27) .ret .skip)))) (.ops [⟨(some 28), none, .int2 .add (T 16) (.const (.int .i64 (1)))⟩, ⟨(some 16), none, .mov (T 28)⟩])))))))))))
theorem fok131 : FnOk Try.prog 131 29 s131 [] := ⟨Try.f131, _, Try.func131, rfl, Try.ntmps131, by kernel_rfl, by kernel_rfl⟩
set_option maxHeartbeats 1000000 in
theorem iter_c (step : σ → (Nat → Int) → σ × Bool) (J : σ → AHeap → Prop) {S : MB} {g : AHeap} {pw K N0 n : Nat} {vv sv tv yv : Value} (s : σ) (hG : Good S)
    (hw : Row g pw (wkL S vv sv tv)) (hyv1 : oneCell yv = true) (hyv : eqV yv yv = true) (hfl : g.floor ≤ g.next) (hN : 200 ≤ N0) (hn : N0 + 20 ≤ n)
    (hOb : ∀ g' q, Own g' q → q ≠ g.next + 1) (hJy : ∀ s g', J s g' → BeatR g' vv sv S)
    (hJs : ∀ s g1 g' cs, J s g1 → Set1 g1 g' (g.next + 1) cs 0 → J s g') (hJn : ∀ s g1 g', J s g1 → More g1 g' → J s g')
    (hOs : ∀ s g1 g' cs q, J s g1 → Set1 g1 g' (g.next + 1) cs 0 → Own g1 q → Own g' q) (hOn : ∀ s g1 g' q, J s g1 → More g1 g' → Own g1 q → Own g' q)
    (hJ0 : ∀ g', (∀ i, i < g.next → g'.get i = g.get i) → g'.floor = g.floor → g.next + 4 ≤ g'.next → J s g' ∧ Own g' pw ∧ ∀ q, g.next ≤ q → q < g'.next → q ≠ g.next + 1 → Own g' q)
    (hY : ∀ n g1 s c cw pn py pc, N0 ≤ n → ItS Own S vv sv tv pn py pw pc (g.next + 1) yv g1 → g1.get (g.next + 1) = some (.row (ndL S c) true 0) → OkU S (numU S) c → J s g1 → CouR g1 cw S c → oneCell cw = true → g1.floor = g.floor → g1.next + K < far →
      ∃ g', call n yv [.agg ⟨coL (c 0) cw⟩] g1 = some (.bool (step s c).2, g') ∧ J (step s c).1 g' ∧ FrO Own g1 g' ∧ g'.get (g.next + 1) = some (.row (ndL S c) true 0) ∧ g'.floor = g.floor ∧ g1.next ≤ g'.next ∧ g'.next ≤ g1.next + K)
    (hr : g.next + 10 + (K + 4) * (enumB (uLo S) (uHi S) (numU S) 0 fun _ => 0).length < far) :
    ∃ v g', call n (.func (.func 131) ⟨[]⟩ ⟨[.pointer (some ⟨pw, 0, none⟩)]⟩) [yv] g = some (v, g') ∧ J (runL step s (enumB (uLo S) (uHi S) (numU S) 0 fun _ => 0)).1 g' ∧ g'.floor = g.floor ∧ g.next ≤ g'.next ∧ g'.next ≤ g.next + 10 + (K + 4) * (enumB (uLo S) (uHi S) (numU S) 0 fun _ => 0).length := by
  obtain ⟨n, rfl⟩ : ∃ p, n = p + 1 := ⟨n - 1, by omega⟩
  obtain ⟨_, _, z3, _, z5, z6, z7⟩ := hG.sizes
  have hnu : numU S = S.nv + 1 := rfl
  refine call_any (xs := []) (ys := [.pointer (some ⟨pw, 0, none⟩)]) fok131 rfl rfl (by simp) ?_
  simp only [s131, List.cons_append, List.nil_append, W_seq, W_ops]
  refine ops_box (cs := [yv]) (by omega) (by simp only [rn0, rn1, rn2, rn3, rn4, rn5, rn6, rn7, rn8, if_true, if_false, Nat.le_refl, true_and, and_true, decide_true, decide_false, Bool.not_true, Bool.not_false, reduceIte, Nat.reduceEqDiff, Nat.reduceAdd, Nat.reduceMul, Nat.reduceSub, Nat.reduceLeDiff, Nat.reduceLT]; cases yv <;> first | rfl | cases hyv1) (by simp [allB, hyv1]) fun g1 hx1 => ?_
  have n1 := hx1.next
  have f1 := hx1.floor
  have hpw : pw < g.next := by obtain ⟨w, gr, e⟩ := hw; exact AHeap.lt_of_get e
  have hw1 := hw.mono hx1.sub
  have hy0 : BeatR g vv sv S → True := fun _ => trivial
  have hlv : ∀ g', lenA vv g' = some (.int .i64 (S.nv : Int), g') := fun g' => by
    obtain ⟨j0, _, _⟩ := hJ0 (g.more (some (.row [] true 0)) |>.more (some (.row [] true 0)) |>.more (some (.row [] true 0)) |>.more (some (.row [] true 0))) (fun i hi => by
      have a1 : (g.more (some (.row [] true 0))).next = g.next + 1 := rfl
      have a2 : ((g.more (some (.row [] true 0))).more (some (.row [] true 0))).next = g.next + 2 := rfl
      have a3 : (((g.more (some (.row [] true 0))).more (some (.row [] true 0))).more (some (.row [] true 0))).next = g.next + 3 := rfl
      rw [AHeap.get_more (by omega), if_neg (by omega), AHeap.get_more (by omega), if_neg (by omega), AHeap.get_more (by omega), if_neg (by omega), AHeap.get_more (by omega), if_neg (by omega)]) rfl (Nat.le_refl _)
    exact Cells.len (hJy _ _ j0).v g'
  have hmk := make_intsL (h := g1) (z := [.int .i64 0]) (m := S.nv) (by omega)
  rw [repl_one] at hmk
  simp only [rn0, rn1, rn2, rn3, rn4, rn5, rn6, rn7, rn8, if_true, if_false, Nat.le_refl, true_and, and_true, decide_true, decide_false, Bool.not_true, Bool.not_false, reduceIte, Nat.reduceEqDiff, Nat.reduceAdd, Nat.reduceMul, Nat.reduceSub, Nat.reduceLeDiff, Nat.reduceLT, hw1.ld, wkg, Nat.zero_add, hlv, hmk]
  have hz : List.replicate S.nv (.int .i64 0 : Value) = ndL S fun _ => 0 := by
    unfold ndL
    apply List.ext_getElem?
    intro i
    by_cases hi : i < S.nv
    · rw [List.getElem?_replicate, if_pos hi, List.getElem?_map, List.getElem?_range hi]; rfl
    · rw [List.getElem?_eq_none (by simp; omega), List.getElem?_eq_none (by simp; omega)]
  rw [hz]
  refine step_slice (by omega) ndL_one fun g2 hx2 => ?_
  have n2 := hx2.next
  have f2 := hx2.floor
  have e1 : g1.next = g.next + 1 := n1
  simp only [rn0, rn1, rn2, rn3, rn4, rn5, rn6, rn7, rn8, if_true, if_false, Nat.le_refl, true_and, and_true, decide_true, decide_false, Bool.not_true, Bool.not_false, reduceIte, Nat.reduceEqDiff, Nat.reduceAdd, Nat.reduceMul, Nat.reduceSub, Nat.reduceLeDiff, Nat.reduceLT]
  refine step_new (vs := [.slice (some ⟨g1.next, 0, none⟩) S.nv S.nv]) (by omega) (by omega) rfl (by simp only [rn0, rn1, rn2, rn3, rn4, rn5, rn6, rn7, rn8, if_true, if_false, Nat.le_refl, true_and, and_true, decide_true, decide_false, Bool.not_true, Bool.not_false, reduceIte, Nat.reduceEqDiff, Nat.reduceAdd, Nat.reduceMul, Nat.reduceSub, Nat.reduceLeDiff, Nat.reduceLT]; rfl) rfl rfl rfl fun g3 hx3 => ?_
  have n3 := hx3.next
  have f3 := hx3.floor
  simp only [rn0, rn1, rn2, rn3, rn4, rn5, rn6, rn7, rn8, if_true, if_false, Nat.le_refl, true_and, and_true, decide_true, decide_false, Bool.not_true, Bool.not_false, reduceIte, Nat.reduceEqDiff, Nat.reduceAdd, Nat.reduceMul, Nat.reduceSub, Nat.reduceLeDiff, Nat.reduceLT]
  refine step_row (cs := [.nilFunc]) (by omega) rfl rfl fun g4 hx4 => ?_
  have n4 := hx4.next
  have f4 := hx4.floor
  simp only [rn0, rn1, rn2, rn3, rn4, rn5, rn6, rn7, rn8, if_true, if_false, Nat.le_refl, true_and, and_true, decide_true, decide_false, Bool.not_true, Bool.not_false, reduceIte, Nat.reduceEqDiff, Nat.reduceAdd, Nat.reduceMul, Nat.reduceSub, Nat.reduceLeDiff, Nat.reduceLT]
  refine step_store (b := g3.next) (gr := 0) (vs := [chooseV g2.next g.next pw g3.next]) rfl hx4.get (by omega) (by omega) rfl rfl rfl (by simp) fun g6 hs => ?_
  have n6 := hs.next
  have f6 := hs.floor
  have es : splice [Value.nilFunc] 0 [chooseV g2.next g.next pw g3.next] = [chooseV g2.next g.next pw g3.next] := rfl
  rw [es] at hs
  have hs63 : ∀ i, i < g3.next → g6.get i = g3.get i := fun i hi => by rw [hs.old i (by omega), hx4.old i hi]
  have hb6 : g6.get (g.next + 1) = some (.row (ndL S fun _ => 0) true 0) := by
    rw [hs63 _ (by omega), hx3.old _ (by omega)]; have := hx2.get; rw [e1] at this; exact this
  have hold : ∀ i, i < g.next → g6.get i = g.get i := fun i hi => by rw [hs63 i (by omega), hx3.old i (by omega), hx2.old i (by omega), hx1.old i hi]
  obtain ⟨j6, ow6, o6⟩ := hJ0 g6 hold (by omega) (by omega)
  have hit : ItS Own S vv sv tv g2.next g.next pw g3.next (g.next + 1) yv g6 := by
    refine ⟨⟨true, 0, by rw [hs63 _ (by omega)]; have := hx3.get; rw [e1] at this; exact this⟩, ⟨true, 0, by rw [hs63 _ (by omega), hx3.old _ (by omega), hx2.old _ (by omega)]; exact hx1.get⟩, ?_, ⟨true, 0, hs.get⟩, o6 _ (by omega) (by omega) (by omega), o6 _ (by omega) (by omega) (by omega), ow6, o6 _ (by omega) (by omega) (by omega)⟩
    obtain ⟨w, gr, e⟩ := hw
    exact ⟨w, gr, by rw [hold _ hpw]; exact e⟩
  have hy6 := hJy _ _ j6
  obtain ⟨m, hm⟩ : ∃ m : Nat, (m : Int) = S.shi - S.slo + 1 := ⟨(S.shi - S.slo + 1).toNat, by omega⟩
  let part : Nat → List (Nat → Int) := fun k => enumB (uLo S) (uHi S) S.nv 1 fun j => if j = 0 then uLo S 0 + (k : Int) else 0
  have hen : (enumB (uLo S) (uHi S) (numU S) 0 fun _ => 0) = (List.range m).flatMap part := by
    have : (uHi S 0 - uLo S 0 + 1).toNat = m := by rw [uLo_zero, uHi_zero]; omega
    rw [hnu]
    simp only [enumB]
    rw [this]
  have hpos := enumB_pos (lo := uLo S) (hi := uHi S) (numU S) 0 (fun _ => 0) fun k h1 h2 => (hG.u k (by omega)).2.1
  rw [hen] at hr hpos ⊢
  have esz := rsize_ok (n := n) (h := g6) (by omega) (by omega) (lo := S.slo) (hi := S.shi) (by omega) (by omega) (by omega)
  rw [← hm] at esz
  obtain ⟨X, hX⟩ : ∃ X, X = K + 4 := ⟨_, rfl⟩
  rw [← hX] at hr ⊢
  simp only [rn0, rn1, rn2, rn3, rn4, rn5, rn6, rn7, rn8, if_true, if_false, Nat.le_refl, true_and, and_true, decide_true, decide_false, Bool.not_true, Bool.not_false, reduceIte, Nat.reduceEqDiff, Nat.reduceAdd, Nat.reduceMul, Nat.reduceSub, Nat.reduceLeDiff, Nat.reduceLT, wk_rng hit.w, esz]
  refine W_loop m (fun k f ga ms => (FrO Own g6 ga ∧ (∃ c', ga.get (g.next + 1) = some (.row (ndL S c') true 0) ∧ ∀ j, numU S ≤ j → c' j = 0) ∧ J (runL step s ((List.range k).flatMap part)).1 ga ∧ (runL step s ((List.range k).flatMap part)).2 = true ∧
    ga.floor = g.floor ∧ g6.next ≤ ga.next ∧ ga.next ≤ g6.next + X * ((List.range k).flatMap part).length) ∧ ms = [] ∧ f 1 = .pointer (some ⟨pw, 0, none⟩) ∧ f 4 = .pointer (some ⟨g3.next, 0, none⟩) ∧ f 15 = .int .i64 (m : Int) ∧ f 16 = .int .i64 (k : Int)) (by simp; omega) ?_ ?_ ?_
  · simp only [rn0, rn1, rn2, rn3, rn4, rn5, rn6, rn7, rn8, if_true, if_false, Nat.le_refl, true_and, and_true, decide_true, decide_false, Bool.not_true, Bool.not_false, reduceIte, Nat.reduceEqDiff, Nat.reduceAdd, Nat.reduceMul, Nat.reduceSub, Nat.reduceLeDiff, Nat.reduceLT, Int.natCast_zero]
    simp only [List.range_zero, List.flatMap_nil, runL, List.length_nil, Nat.mul_zero, Nat.add_zero, Nat.le_refl, and_true]
    exact ⟨.refl, ⟨_, hb6, fun _ _ => rfl⟩, j6, trivial, by omega⟩
  · rintro k f ga ms hkm ⟨⟨fra, ⟨c', hba, hc'⟩, hja, hra, hfa, hua, hna⟩, rfl, p1, p4, p15, p16⟩
    have hkm' : (k : Int) < (m : Int) := by omega
    have hw1 : wrapF .i64 ((k : Int) + 1) = ((k + 1 : Nat) : Int) := by rw [wrap_in (by omega) (by omega)]; rfl
    have ita := hit.fr fra
    obtain ⟨rest, hpart⟩ := part_flat part hkm
    have hlen : ((List.range m).flatMap part).length = ((List.range k).flatMap part).length + ((part k).length + rest.length) := by rw [hpart]; simp
    have hKm : X * ((List.range m).flatMap part).length = X * ((List.range k).flatMap part).length + (X * (part k).length + X * rest.length) := by rw [hlen, Nat.mul_add, Nat.mul_add]
    have hws : wrapF .i64 (S.slo + (k : Int)) = S.slo + (k : Int) := wrap_in (by omega) (by omega)
    have hbs : ga.get (g.next + 1) = some (.row (ndL S (setU c' 0 (S.slo + (k : Int)))) true 0) := by
      rw [ndL_congr (c' := c') fun j h1 h2 => by simp only [setU]; rw [if_neg (by omega)]]; exact hba
    have hok : OkU S 1 (setU c' 0 (S.slo + (k : Int))) := by
      refine ⟨fun j hj => ?_, fun j hj => ?_⟩
      · obtain rfl : j = 0 := by omega
        simp only [setU, if_true]
        rw [uLo_zero, uHi_zero]; omega
      · simp only [setU]; rw [if_neg (by omega)]; exact hc' j hj
    have hcg : enumB (uLo S) (uHi S) S.nv 1 (setU c' 0 (S.slo + (k : Int))) = part k := enumB_congr S.nv 1 _ _ fun j hj => by
      by_cases e : j = 0
      · subst e; simp [setU, uLo_zero]
      · simp only [setU, e, if_false]; exact hc' j (by omega)
    have hch := choose_c step J (S := S) (vv := vv) (sv := sv) (tv := tv) (pn := g2.next) (py := g.next) (pw := pw) (pc := g3.next) (nb := g.next + 1) (K := K) (N0 := N0) (fl := g.floor) (yv := yv) hG hyv hOb (by omega) hN hJy hJs hJn hOs hOn (fun n g1 s c cw h1 h2 h3 h4 h5 h6 h7 h8 h9 => hY n g1 s c cw _ _ _ h1 h2 h3 h4 h5 h6 h7 h8 h9) S.nv 0 n ga (runL step s ((List.range k).flatMap part)).1 (setU c' 0 (S.slo + (k : Int))) (by omega) (by omega) ita hbs hok hja hfa (by rw [Nat.zero_add, hcg, ← hX]; omega)
    simp only [Nat.zero_add, Int.natCast_zero] at hch
    rw [hcg, ← hX] at hch
    obtain ⟨gb, q1, q2, q3, ⟨cb, q4, q4'⟩, q5, q6, q7⟩ := hch
    have hc00 : setU c' 0 (S.slo + (k : Int)) 0 = S.slo + (k : Int) := by simp [setU]
    rw [hc00] at q1
    have hcb : ∀ j, numU S ≤ j → cb j = 0 := fun j hj => by
      rw [q4' j (by omega)]; simp only [setU]; rw [if_neg (by omega)]; exact hc' j hj
    by_cases hq : (runL step (runL step s ((List.range k).flatMap part)).1 (part k)).2 = true
    · have hrun : runL step s ((List.range (k + 1)).flatMap part) = runL step (runL step s ((List.range k).flatMap part)).1 (part k) := by
        rw [List.range_succ, List.flatMap_append, runL_append, hra, if_pos rfl]; simp
      have hl3 : ((List.range (k + 1)).flatMap part).length = ((List.range k).flatMap part).length + (part k).length := by rw [List.range_succ, List.flatMap_append, List.length_append]; simp
      rw [hq] at q1
      simp only [rn0, rn1, rn2, rn3, rn4, rn5, rn6, rn7, rn8, if_true, if_false, Nat.le_refl, true_and, and_true, decide_true, decide_false, Bool.not_true, Bool.not_false, reduceIte, Nat.reduceEqDiff, Nat.reduceAdd, Nat.reduceMul, Nat.reduceSub, Nat.reduceLeDiff, Nat.reduceLT, p1, p4, p15, p16, hkm', ita.c.ld, ita.w.ld, wkg, Nat.zero_add, List.getElem?_cons_zero, hws, q1, hw1]
      rw [hrun, hl3, Nat.mul_add]
      have hfin := And.intro (fra.trans q3) (And.intro (⟨cb, q4, hcb⟩ : ∃ c', gb.get (g.next + 1) = some (.row (ndL S c') true 0) ∧ ∀ j, numU S ≤ j → c' j = 0) (And.intro q2 (And.intro hq (And.intro q5 (And.intro (by omega : g6.next ≤ gb.next) (by omega : gb.next ≤ g6.next + (X * ((List.range k).flatMap part).length + X * (part k).length)))))))
      first | exact hfin | exact ⟨hfin, rfl⟩
    · have hq' : (runL step (runL step s ((List.range k).flatMap part)).1 (part k)).2 = false := by simpa using hq
      have hrun : runL step s ((List.range m).flatMap part) = runL step (runL step s ((List.range k).flatMap part)).1 (part k) := by
        rw [hpart, runL_append, hra, if_pos rfl, runL_append, hq', if_neg (by simp)]
      rw [hq'] at q1
      simp only [rn0, rn1, rn2, rn3, rn4, rn5, rn6, rn7, rn8, if_true, if_false, Nat.le_refl, true_and, and_true, decide_true, decide_false, Bool.not_true, Bool.not_false, reduceIte, Nat.reduceEqDiff, Nat.reduceAdd, Nat.reduceMul, Nat.reduceSub, Nat.reduceLeDiff, Nat.reduceLT, p1, p4, p15, p16, hkm', ita.c.ld, ita.w.ld, wkg, Nat.zero_add, List.getElem?_cons_zero, hws, q1]
      rw [hrun]
      exact ⟨_, rfl, q2, q5, by omega, by omega⟩
  · rintro f ga ms ⟨⟨fra, ⟨c', hba, hc'⟩, hja, hra, hfa, hua, hna⟩, rfl, p1, p4, p15, p16⟩
    simp only [rn0, rn1, rn2, rn3, rn4, rn5, rn6, rn7, rn8, if_true, if_false, Nat.le_refl, true_and, and_true, decide_true, decide_false, Bool.not_true, Bool.not_false, reduceIte, Nat.reduceEqDiff, Nat.reduceAdd, Nat.reduceMul, Nat.reduceSub, Nat.reduceLeDiff, Nat.reduceLT, p1, p4, p15, p16, Int.lt_irrefl]
    exact ⟨_, rfl, hja, hfa, by omega, by omega⟩
def s120 : SCode := (.seq (.ops [⟨(some 1), none, .box (T 0)⟩, ⟨(some 2), none, .mov (.const .nilFunc)⟩]) (.seq (.ops [⟨(some 3), none, .mkfunc 131 [] [(T 1)]⟩, ⟨(some 2), none, .mov (T 3)⟩]) .ret))
theorem fok120 : FnOk Try.prog 120 4 s120 [.tmp 2] := ⟨Try.f120, _, Try.func120, rfl, Try.ntmps120, by kernel_rfl, by kernel_rfl⟩
theorem courses_c (hn : 1 ≤ n) (hr : h.next < far) {cs : List Value} (h1 : allB oneCell cs = true) (hl : cs.length = 6) :
    ∃ h', call n (.func (.func 120) #[] #[]) [.agg ⟨cs⟩] h = some (.func (.func 131) ⟨[]⟩ ⟨[.pointer (some ⟨h.next, 0, none⟩)]⟩, h') ∧ New h h' cs 0 := by
  obtain ⟨n, rfl⟩ : ∃ p, n = p + 1 := ⟨n - 1, by omega⟩
  suffices hs : ∃ v h', call (n + 1) (.func (.func 120) #[] #[]) [.agg ⟨cs⟩] h = some (v, h') ∧ v = .func (.func 131) ⟨[]⟩ ⟨[.pointer (some ⟨h.next, 0, none⟩)]⟩ ∧ New h h' cs 0 by
    obtain ⟨v, h', e, rfl, hx⟩ := hs
    exact ⟨h', e, hx⟩
  refine call_any0 fok120 rfl rfl (by simp) ?_
  simp only [s120, W_seq, W_ops]
  refine ops_box (cs := cs) (by omega) rfl h1 fun g1 hx1 => ?_
  simp only [rn0, rn1, rn2, rn3, rn4, rn5, rn6, rn7, rn8, if_true, if_false, Nat.le_refl, true_and, and_true, decide_true, decide_false, Bool.not_true, Bool.not_false, reduceIte, Nat.reduceEqDiff, Nat.reduceAdd, Nat.reduceMul, Nat.reduceSub, Nat.reduceLeDiff, Nat.reduceLT]
  exact hx1
theorem call_yield {l : Nat} {args : List Value} : call (n + 1) (.func (.yield l) #[] #[]) args h = roundA Try.prog (call n) n l args h := rfl
end
end Go.Vm.Bt

namespace Go.Vm.Bt
open Go.Proofs Go.Vm.Vat Go.Vm.L2
set_option linter.unusedSimpArgs false
set_option linter.unusedVariables false
set_option maxRecDepth 10000
variable {n : Nat} {h : AHeap}
structure JO (h2 : AHeap) (p : Nat) (S : MB) (vv sv : Value) (s : List (Nat → Int)) (g : AHeap) : Prop where
  old : ∀ i, i < h2.next → i ≠ p → g.get i = h2.get i
  tv : ∃ tv, g.get p = some (.row (wkL S vv sv tv) true 0) ∧ GrowC (h2.next + 4) g tv 3 s.length fun k j => .int .i64 ((s.getD k fun _ => 0) j)
  up : h2.next + 4 ≤ g.next
  len : s.length ≤ g.next
  all : ∀ d, d ∈ s → ∃ u, u ∈ (enumB (uLo S) (uHi S) (numU S) 0 fun _ => 0) ∧ d = doneS S u
  nodup : s.Nodup
theorem nodup_le {α : Type} {l m : List α} (hl : l.Nodup) (hs : ∀ x, x ∈ l → x ∈ m) : l.length ≤ m.length := by
  by_cases c : m.length ≤ l.length
  · exact Nat.le_of_eq (perm_of_sub l m hl hs c).length_eq
  · omega
theorem JO.few {h2 g : AHeap} {p : Nat} {S : MB} {vv sv : Value} {s : List (Nat → Int)} (hj : JO h2 p S vv sv s g) (hG : Good S) : s.length ≤ 200 := by
  have := nodup_le (m := (enumB (uLo S) (uHi S) (numU S) 0 fun _ => 0).map (doneS S)) hj.nodup fun d hd => by
    obtain ⟨u, hu, e⟩ := hj.all d hd
    exact List.mem_map.2 ⟨u, hu, e.symm⟩
  rw [List.length_map] at this
  have := enum_len hG
  omega
def OwnO (h2 : AHeap) (p pw : Nat) (S : MB) (vv sv : Value) (g : AHeap) (q : Nat) : Prop := (h2.next ≤ q ∨ q = pw) ∧ q ≠ p ∧ q ≠ h2.next + 1 ∧ ∀ tv, g.get p = some (.row (wkL S vv sv tv) true 0) → NeB tv q
theorem wkL_inj {S : MB} {vv sv a b : Value} (e : wkL S vv sv a = wkL S vv sv b) : a = b := by
  have := congrArg (·[5]?) e
  simpa [wkL] using this
abbrev wkZ : List Value := [.int .i64 0, .int .i64 0, nilS, .int .i64 0, nilS, nilS]
theorem build_wkZ : buildA (fun x => (#[(0, 5), (5, 1)] : Array (Nat × Nat))[x]?) ⟨[.int .i64 0, .int .i64 0, .slice none 0 0, .int .i64 0, .slice none 0 0, .slice none 0 0]⟩ [] h [] = some (.agg ⟨wkZ⟩, h) := id rfl
theorem sl_dn {d : Nat → Int} : buildSl 3 1 [.int .i64 0, .int .i64 0, .int .i64 0] [0] h [.agg ⟨dn d⟩] = newSlice h (dn d) 1 1 0 := id rfl
def OpenR (h : AHeap) (S : MB) (P : Prop) (vv sv v : Value) (h' : AHeap) : Prop := (∀ i, i < h.next → h'.get i = h.get i) ∧ h.next ≤ h'.next ∧ h'.next ≤ h.next + 26000 ∧ h'.floor = h.floor ∧
  ((faultS S ≠ 0 ∧ v = .tuple ⟨[.agg ⟨wkZ⟩, .int .i64 (faultS S)]⟩) ∨ (faultS S = 0 ∧ ¬ P ∧ v = .tuple ⟨[.agg ⟨wkZ⟩, .int .i64 2]⟩) ∨ (faultS S = 0 ∧ P ∧ truthsS S = [] ∧ v = .tuple ⟨[.agg ⟨wkZ⟩, .int .i64 11]⟩) ∨
    (faultS S = 0 ∧ P ∧ truthsS S ≠ [] ∧ ∃ tv, v = .tuple ⟨[.agg ⟨wkL S vv sv tv⟩, .int .i64 0]⟩ ∧ oneCell tv = true ∧ DonesR h' tv (donesL S) ∧ (∀ a k c, tv = .slice (some a) k c → h.next ≤ a.block) ∧ Long tv))
def s119 : SCode := (.seq (.ops [⟨(some 3), none, .mov (.const (.bool false))⟩]) (.seq (.ops [⟨(some 4), none, .mov (T 0)⟩, ⟨(some 5), none, .loadN 6 (T 1)⟩, ⟨(some 6), none, .call (T 4) [(T 5)]⟩, ⟨(some 3), none, .mov (T 6)⟩]) .ret))
theorem fok119 : FnOk Try.prog 119 7 s119 [.tmp 3] := ⟨Try.f119, _, Try.func119, rfl, Try.ntmps119, by kernel_rfl, by kernel_rfl⟩
theorem open1_c (hn : 301 ≤ n) {fv : Value} {b : Bool} {p : Nat} {cs : List Value} (hp : Row h p cs) (hl : cs.length = 6) (he : ∀ n', 300 ≤ n' → ∀ g, Sub All h g → g.next = h.next → call n' fv [.agg ⟨cs⟩] g = some (.bool b, g)) :
    call n (.func (.func 119) ⟨[]⟩ ⟨[.pointer (some ⟨p, 0, none⟩)]⟩) [fv] h = some (.bool b, h) := by
  obtain ⟨n, rfl⟩ : ∃ p, n = p + 1 := ⟨n - 1, by omega⟩
  refine call_plain (xs := []) (ys := [.pointer (some ⟨p, 0, none⟩)]) fok119 rfl rfl (by simp) rfl ?_
  have hp : Row h.shutAll p cs := hp.mono fun _ _ _ _ _ h => h
  have he := he n (by omega) h.shutAll (fun _ _ _ _ _ h => h) rfl
  generalize h.shutAll = h at hp he
  simp only [rn0, rn1, rn2, rn3, rn4, rn5, rn6, rn7, rn8, if_true, if_false, Nat.le_refl, true_and, and_true, decide_true, decide_false, Bool.not_true, Bool.not_false, reduceIte, Nat.reduceEqDiff, Nat.reduceAdd, Nat.reduceMul, Nat.reduceSub, Nat.reduceLeDiff, Nat.reduceLT, s119, List.cons_append, List.nil_append, hp.whole hl, he]
def Conds (h : AHeap) (S : MB) (vv sv cv : Value) (P : Prop) : Prop :=
  ∃ (m : Nat) (a : Nat → Value) (p : Nat → Prop), m ≤ 1 ∧ Cells h cv 1 m (fun k _ => a k) ∧ (P ↔ ∀ i, i < m → p i) ∧
    ∀ i, i < m → ∃ b, (b = true ↔ p i) ∧ ∀ n', 300 ≤ n' → ∀ g, Sub All h g → g.next ≤ h.next + 60 → call n' (a i) [.agg ⟨wkL S vv sv nilS⟩] g = some (.bool b, g)
theorem conds_nil {S : MB} {vv sv : Value} : Conds h S vv sv nilS True := ⟨0, fun _ => nilS, fun _ => True, by omega, ⟨none, 0, rfl, fun x e => (by cases e), .inl rfl⟩, by simp, fun i hi => by omega⟩
noncomputable def s86 : SCode := (.seq (.ops [⟨(some 2), none, .box (T 0)⟩, ⟨(some 4), none, .alloc [(.int .i64 (0)), (.int .i64 (0)), (.slice none 0 0), (.int .i64 (0)), (.slice none 0 0), (.slice none 0 0)]⟩, ⟨(some 5), none, .mov (.const (.int .i64 (0)))⟩]) (.seq (.seq (.ops [⟨(some 10), none, .loadN 5 (T 2)⟩, ⟨(some 11), none, .call (.func 31) [(T 10)]⟩, ⟨(some 6), none, .mov (T 11)⟩]) (.seq (.ops [⟨(some 12), none, .mov (T 6)⟩, ⟨(some 13), none, .int2 .neq (T 12) (.const (.int .i64 (0)))⟩]) (.cond (T 13) (.seq (.ops [⟨(some 14), none, .build #[(0, 5), (5, 1)] [(.int .i64 (0)), (.int .i64 (0)), (.slice none 0 0), (.int .i64 (0)), (.slice none 0 0), (.slice none 0 0)] [] []⟩, ⟨(some 15), none, .mov (T 6)⟩, ⟨none, none, .store 6 (T 4) (T 14)⟩, ⟨(some 5), none, .mov (T 15)⟩]) .ret) .skip))) (.seq (.ops [⟨(some 16), none, .loadN 5 (T 2)⟩, ⟨(some 17), none, .build #[(0, 5), (5, 1)] [(.int .i64 (0)), (.int .i64 (0)), (.slice none 0 0), (.int .i64 (0)), (.slice none 0 0), (.slice none 0 0)] [0] [(T 16)]⟩, ⟨(some 7), none, .alloc [(.int .i64 (0)), (.int .i64 (0)), (.slice none 0 0), (.int .i64 (0)), (.slice none 0 0), (.slice none 0 0)]⟩, ⟨none, none, .store 6 (T 7) (T 17)⟩]) (.seq (.seq (.ops [⟨(some 18), none, .mov (T 1)⟩, ⟨(some 19), none, .mkfunc 119 [] [(T 7)]⟩, ⟨(some 20), none, .call (.func 118) [(T 18), (T 19)]⟩, ⟨(some 21), none, .not (T 20)⟩]) (.cond (T 21) (.seq (.ops [⟨(some 22), none, .build #[(0, 5), (5, 1)] [(.int .i64 (0)), (.int .i64 (0)), (.slice none 0 0), (.int .i64 (0)), (.slice none 0 0), (.slice none 0 0)] [] []⟩, ⟨none, none, .store 6 (T 4) (T 22)⟩, ⟨(some 5), none, .mov (.const (.int .i64 (2)))⟩]) .ret) .skip)) (.seq (.seq (.ops [⟨(some 23), none, .loadN 6 (T 7)⟩, ⟨(some 24), none, .call (.func 120) [(T 23)]⟩]) (.block 0 (.range (T 24) #[25] (rangeOf Try.f86 0).1 (rangeOf Try.f86 0).2))) (.seq (.seq (.ops [⟨(some 44), none, .fieldAddr 5 (T 7)⟩, ⟨(some 45), none, .load1 (T 44)⟩, ⟨(some 46), none, .len (T 45)⟩, ⟨(some 47), none, .int2 .eql (T 46) (.const (.int .i64 (0)))⟩]) (.cond (T 47) (.seq (.ops [⟨(some 48), none, .build #[(0, 5), (5, 1)] [(.int .i64 (0)), (.int .i64 (0)), (.slice none 0 0), (.int .i64 (0)), (.slice none 0 0), (.slice none 0 0)] [] []⟩, ⟨none, none, .store 6 (T 4) (T 48)⟩, ⟨(some 5), none, .mov (.const (.int .i64 (11)))⟩]) .ret) .skip)) (.seq (.ops [⟨(some 49), none, .loadN 6 (T 7)⟩, ⟨none, none, .store 6 (T 4) (T 49)⟩, ⟨(some 5), none, .mov (.const (.int .i64 (0)))⟩]) .ret)))))))
theorem fok86 : FnOk Try.prog 86 50 s86 [.cellN 4 6, .tmp 5] := ⟨Try.f86, _, Try.func86, rfl, Try.ntmps86, by kernel_rfl, by kernel_rfl⟩
def ra86_0 : SCode := (.ops [⟨(some 8), none, .alloc [(.int .i64 (0)), (.slice none 0 0)]⟩, ⟨none, none, .store 2 (T 8) (T 25)⟩])
theorem raok86_0 : compCode Try.prog 50 (rangeOf Try.f86 0).1 = some ra86_0 := by kernel_rfl
def rb86_0 : SCode := (.block 1 (.seq (.ops [⟨(some 26), none, .loadN 2 (T 8)⟩, ⟨(some 27), none, .call (.func 80) [(T 26)]⟩, ⟨(some 9), none, .alloc [(.int .i64 (0)), (.int .i64 (0)), (.int .i64 (0))]⟩, ⟨none, none, .store 3 (T 9) (T 27)⟩]) (.seq (.ops [⟨(some 28), none, .loadN 6 (T 7)⟩, ⟨(some 29), none, .loadN 3 (T 9)⟩, ⟨(some 30), none, .call (.func 82) [(T 28), (T 29)]⟩, ⟨(some 31), none, .mov (T 30)⟩, ⟨(some 32), (some (31, true)), .fieldAddr 5 (T 7)⟩, ⟨(some 33), (some (31, true)), .load1 (T 32)⟩, ⟨(some 34), (some (31, true)), .loadN 3 (T 9)⟩, ⟨(some 35), (some (31, true)), .call (.func 121) [(T 33), (T 34)]⟩, ⟨(some 36), (some (31, true)), .not (T 35)⟩, ⟨(some 37), none, .pick (T 31) (T 36) (.const (.bool false))⟩]) (.cond (T 37) (.ops [⟨(some 38), none, .fieldAddr 5 (T 7)⟩, ⟨(some 39), none, .load1 (T 38)⟩, ⟨(some 40), none, .loadN 3 (T 9)⟩, ⟨(some 41), none, .bslice 3 1 [(.int .i64 (0)), (.int .i64 (0)), (.int .i64 (0))] [0] [(T 40)]⟩, ⟨(some 42), none, .append 3 24 (T 39) (T 41)⟩, ⟨(some 43), none, .fieldAddr 5 (T 7)⟩, ⟨none, none, .store 1 (T 43) (T 42)⟩]) .skip))))
theorem rbok86_0 : compCode Try.prog 50 (rangeOf Try.f86 0).2 = some rb86_0 := by kernel_rfl
set_option maxHeartbeats 4000000 in
theorem open_c (hn : 700 ≤ n) (hr : h.next + 31000 < far) (hfl : h.floor ≤ h.next) {vv sv cv : Value} {S : MB} {P : Prop} (hy : BeatR h vv sv S) (hT : ThinS S) (hC : Good S → Conds h S vv sv cv P) :
    ∃ v h', call n (.func (.func 86) #[] #[]) [.agg ⟨beL S vv sv⟩, cv] h = some (v, h') ∧ OpenR h S P vv sv v h' := by
  classical
  obtain ⟨n, rfl⟩ : ∃ p, n = p + 1 := ⟨n - 1, by omega⟩
  refine call_any0 fok86 rfl rfl (by simp) ?_
  simp only [s86, W_seq, W_ops]
  refine ops_box (cs := beL S vv sv) (by omega) rfl hy.one fun g1 hx1 => ?_
  have n1 := hx1.next
  have f1 := hx1.floor
  simp only [rn0, rn1, rn2, rn3, rn4, rn5, rn6, rn7, rn8, if_true, if_false, Nat.le_refl, true_and, and_true, decide_true, decide_false, Bool.not_true, Bool.not_false, reduceIte, Nat.reduceEqDiff, Nat.reduceAdd, Nat.reduceMul, Nat.reduceSub, Nat.reduceLeDiff, Nat.reduceLT]
  refine step_row (cs := wkZ) (by omega) rfl rfl fun g2 hx2 => ?_
  have n2 := hx2.next
  have f2 := hx2.floor
  have e1 : g1.next = h.next + 1 := n1
  have e2 : g2.next = h.next + 2 := by omega
  have hy2 := (hy.mono hx1.sub).mono hx2.sub
  have w1 := (hx1.row.mono hx2.sub).whole (n := 5) rfl
  have ec := check_c (n := n) (h := g2) (by omega) (by omega) hy2 hT
  have hr2 : g2.get (h.next + 1) = some (.row wkZ true 0) := by have := hx2.get; rw [e1] at this; exact this
  have old2 : ∀ i, i < h.next → g2.get i = h.get i := fun i hi => by rw [hx2.old i (by omega), hx1.old i hi]
  by_cases hf : faultS S = 0
  case neg =>
    simp only [rn0, rn1, rn2, rn3, rn4, rn5, rn6, rn7, rn8, if_true, if_false, Nat.le_refl, true_and, and_true, decide_true, decide_false, Bool.not_true, Bool.not_false, reduceIte, Nat.reduceEqDiff, Nat.reduceAdd, Nat.reduceMul, Nat.reduceSub, Nat.reduceLeDiff, Nat.reduceLT, w1, ec, hf, build_wkZ, e1]
    refine step_store (vs := wkZ) rfl hr2 (by omega) (by omega) rfl rfl rfl (by simp) fun g3 hs => ?_
    have hrow := hs.row.whole (n := 6) rfl
    simp only [rn0, rn1, rn2, rn3, rn4, rn5, rn6, rn7, rn8, if_true, if_false, Nat.le_refl, true_and, and_true, decide_true, decide_false, Bool.not_true, Bool.not_false, reduceIte, Nat.reduceEqDiff, Nat.reduceAdd, Nat.reduceMul, Nat.reduceSub, Nat.reduceLeDiff, Nat.reduceLT, res_two, hrow]
    refine ⟨fun i hi => by rw [hs.old i (by omega), old2 i hi], by have := hs.next; omega, by have := hs.next; omega, by rw [hs.floor, f2, f1], .inl ⟨hf, ?_⟩⟩
    simp [splice]
  have hG := good_of hf
  have hlenE := enum_len hG
  obtain ⟨mc, ac, pc, mc1, hcv, hPp, hcall⟩ := hC hG
  simp only [rn0, rn1, rn2, rn3, rn4, rn5, rn6, rn7, rn8, if_true, if_false, Nat.le_refl, true_and, and_true, decide_true, decide_false, Bool.not_true, Bool.not_false, reduceIte, Nat.reduceEqDiff, Nat.reduceAdd, Nat.reduceMul, Nat.reduceSub, Nat.reduceLeDiff, Nat.reduceLT, w1, ec, hf, build_wkB]
  refine step_new (vs := wkL S vv sv nilS) (by omega) (by omega) rfl (by simp only [rn0, rn1, rn2, rn3, rn4, rn5, rn6, rn7, rn8, if_true, if_false, Nat.le_refl, true_and, and_true, decide_true, decide_false, Bool.not_true, Bool.not_false, reduceIte, Nat.reduceEqDiff, Nat.reduceAdd, Nat.reduceMul, Nat.reduceSub, Nat.reduceLeDiff, Nat.reduceLT]; rfl) (wk_one hy rfl) rfl rfl fun g3 hx3 => ?_
  have n3 := hx3.next
  have f3 := hx3.floor
  rw [e2] at n3
  have rw3 : Row g3 (h.next + 2) (wkL S vv sv nilS) := by have := hx3.row; rw [e2] at this; exact this
  have w3 := rw3.whole (n := 6) rfl
  have sub3 : Sub All h g3 := hx1.sub.trans (hx2.sub.trans hx3.sub)
  have hsn : g3.shutAll.next = g3.next := rfl
  have hss : Sub All g3 g3.shutAll := fun _ _ _ _ _ h => h
  have eev := everyFn_c (n := n) (h := g3) (v := cv) (m := mc) (a := ac) (p := pc) (ok := .func (.func 119) ⟨[]⟩ ⟨[.pointer (some ⟨h.next + 2, 0, none⟩)]⟩) (by omega) (by omega) (Cells.mono hcv sub3) (by omega)
    fun g hs hg i hi => by
      obtain ⟨b, hb, e⟩ := hcall i hi
      refine ⟨b, hb, open1_c (by omega) (rw3.mono (hss.trans hs)) rfl fun n' hn' g' hs' hn2 => e n' hn' g' (sub3.trans (hss.trans (hs.trans hs'))) (by omega)⟩
  by_cases hP : P
  case neg =>
    have hd : ¬ ∀ i, i < mc → pc i := fun e => hP (hPp.2 e)
    simp only [rn0, rn1, rn2, rn3, rn4, rn5, rn6, rn7, rn8, if_true, if_false, Nat.le_refl, true_and, and_true, decide_true, decide_false, Bool.not_true, Bool.not_false, reduceIte, Nat.reduceEqDiff, Nat.reduceAdd, Nat.reduceMul, Nat.reduceSub, Nat.reduceLeDiff, Nat.reduceLT, e2, eev, eq_false hd, build_wkZ, e1]
    refine step_store (vs := wkZ) rfl (show g3.get (h.next + 1) = some (.row wkZ true 0) by rw [hx3.old _ (by omega)]; exact hr2) (by omega) (by omega) rfl rfl rfl (by simp) fun g4 hs => ?_
    have hrow := hs.row.whole (n := 6) rfl
    simp only [rn0, rn1, rn2, rn3, rn4, rn5, rn6, rn7, rn8, if_true, if_false, Nat.le_refl, true_and, and_true, decide_true, decide_false, Bool.not_true, Bool.not_false, reduceIte, Nat.reduceEqDiff, Nat.reduceAdd, Nat.reduceMul, Nat.reduceSub, Nat.reduceLeDiff, Nat.reduceLT, res_two, hrow]
    refine ⟨fun i hi => by rw [hs.old i (by omega), hx3.old i (by omega), old2 i hi], by have := hs.next; omega, by have := hs.next; omega, by rw [hs.floor, f3, f2, f1], .inr (.inl ⟨hf, hP, ?_⟩)⟩
    simp [splice]
  have hd : ∀ i, i < mc → pc i := hPp.1 hP
  obtain ⟨g4, e4, hx4⟩ := courses_c (n := n) (h := g3) (cs := wkL S vv sv nilS) (by omega) (by omega) (wk_one hy rfl) rfl
  have n4 := hx4.next
  have f4 := hx4.floor
  rw [e1, e2]
  simp only [rn0, rn1, rn2, rn3, rn4, rn5, rn6, rn7, rn8, if_true, if_false, Nat.le_refl, true_and, and_true, decide_true, decide_false, Bool.not_true, Bool.not_false, reduceIte, Nat.reduceEqDiff, Nat.reduceAdd, Nat.reduceMul, Nat.reduceSub, Nat.reduceLeDiff, Nat.reduceLT, eev, eq_true hd, w3, e4]
  refine W_range' rfl (by omega) (by simp only [rn0, rn1, rn2, rn3, rn4, rn5, rn6, rn7, rn8, if_true, if_false, Nat.le_refl, true_and, and_true, decide_true, decide_false, Bool.not_true, Bool.not_false, reduceIte, Nat.reduceEqDiff, Nat.reduceAdd, Nat.reduceMul, Nat.reduceSub, Nat.reduceLeDiff, Nat.reduceLT]; rfl) fun f0 hf0 ts hv h2 hl => ?_
  have f7 : f0 7 = .pointer (some ⟨h.next + 2, 0, none⟩) := by rw [hf0]; simp only [rn0, rn1, rn2, rn3, rn4, rn5, rn6, rn7, rn8, if_true, if_false, Nat.le_refl, true_and, and_true, decide_true, decide_false, Bool.not_true, Bool.not_false, reduceIte, Nat.reduceEqDiff, Nat.reduceAdd, Nat.reduceMul, Nat.reduceSub, Nat.reduceLeDiff, Nat.reduceLT]
  have f4' : f0 4 = .pointer (some ⟨h.next + 1, 0, none⟩) := by rw [hf0]; simp only [rn0, rn1, rn2, rn3, rn4, rn5, rn6, rn7, rn8, if_true, if_false, Nat.le_refl, true_and, and_true, decide_true, decide_false, Bool.not_true, Bool.not_false, reduceIte, Nat.reduceEqDiff, Nat.reduceAdd, Nat.reduceMul, Nat.reduceSub, Nat.reduceLeDiff, Nat.reduceLT]
  clear hf0
  have nl := hl.next
  have fl := hl.floor
  have en : g4.next = h.next + 4 := by omega
  have hbase : ∀ i, i < h.next → h2.get i = h.get i := fun i hi => by rw [hl.old i (by omega), hx4.old i (by omega), hx3.old i (by omega), old2 i hi]
  have hp2 : h2.get (h.next + 2) = some (.row (wkL S vv sv nilS) true 0) := by
    rw [hl.old _ (by omega), hx4.old _ (by omega)]; have := hx3.get; rw [e2] at this; exact this
  have hr2' : h2.get (h.next + 1) = some (.row wkZ true 0) := by
    rw [hl.old _ (by omega), hx4.old _ (by omega), hx3.old _ (by omega)]; exact hr2
  have hpw : Row h2 (h.next + 3) (wkL S vv sv nilS) := by
    have := hx4.row.mono hl.sub
    rw [n3] at this
    exact this
  have hloop := hl.loop
  have hmark := hl.mark
  rw [en] at hloop hmark
  rw [en]
  rw [en] at hl
  generalize hr0 : loopO _ ts _ _ _ _ = r at hloop ⊢
  have r1 : r.state = .ready := by rw [← hr0]; rfl
  have r2 : View 50 r.tmps f0 := by rw [← hr0]; exact hv
  have r3 : r.params = #[25] := by rw [← hr0]; rfl
  have r4 : compCode Try.prog 50 r.assign = some ra86_0 := by rw [← hr0]; exact raok86_0
  have r5 : compCode Try.prog 50 r.body = some rb86_0 := by rw [← hr0]; exact rbok86_0
  have r6 : leftBy r .norm = r := by rw [← hr0]; rfl
  clear hr0 hl hv
  have en2 : h2.next = h.next + 6 := by omega
  have hit := iter_c (Own := OwnO h2 (h.next + 2) (h.next + 3) S vv sv) (doneStep S) (JO h2 (h.next + 2) S vv sv) (g := h2) (pw := h.next + 3) (K := 120) (N0 := 500) (n := n) (tv := nilS) (yv := .func (.yield (h.next + 5)) #[] #[]) [] hG hpw rfl (by simp [eqV, eqCell]) (by omega) (by omega) (by omega)
    (fun g' q hq => hq.2.2.1)
    (fun s g' hj => hy.mono (AHeap.subOf fun i hi => by rw [hj.old i (by omega) (by omega), hbase i hi]))
    (fun s g1 g' cs hj hs => by
      obtain ⟨tv, t1, t2⟩ := hj.tv
      exact ⟨fun i hi hne => by rw [hs.old i (by omega)]; exact hj.old i hi hne, ⟨tv, by rw [hs.old _ (by omega)]; exact t1, t2.keep hs.keep (by omega)⟩, by have := hj.up; have := hs.next; omega, by have := hj.len; have := hs.next; omega, hj.all, hj.nodup⟩)
    (fun s g1 g' hj hx => by
      obtain ⟨tv, t1, t2⟩ := hj.tv
      have := hj.up
      have hu := hx.up
      exact ⟨fun i hi hne => by rw [hx.old i (by omega)]; exact hj.old i hi hne, ⟨tv, by rw [hx.old _ (by omega)]; exact t1, t2.sub hx.sub⟩, by omega, by have := hj.len; omega, hj.all, hj.nodup⟩)
    (fun s g1 g' cs q hj hs ho => ⟨ho.1, ho.2.1, ho.2.2.1, fun tv e => ho.2.2.2 tv (by rw [← hs.old _ (by omega)]; exact e)⟩)
    (fun s g1 g' q hj hx ho => ⟨ho.1, ho.2.1, ho.2.2.1, fun tv e => ho.2.2.2 tv (by rw [← hx.old _ (by have := hj.up; omega)]; exact e)⟩)
    (fun g' ho hfg hup => ⟨⟨fun i hi _ => ho i hi, ⟨nilS, by rw [ho _ (by omega)]; exact hp2, .nil⟩, hup, Nat.zero_le _, fun d hd => (by cases hd), List.nodup_nil⟩, ⟨.inr rfl, by omega, by omega, fun tv e => by
      rw [ho _ (by omega), hp2] at e
      simp only [Option.some.injEq, AObj.row.injEq, and_true] at e
      have := wkL_inj e
      subst this
      intro b m c e'
      cases e'⟩, fun q hq _ hne => ⟨.inl hq, by omega, hne, fun tv e => by
      rw [ho _ (by omega), hp2] at e
      simp only [Option.some.injEq, AObj.row.injEq, and_true] at e
      have := wkL_inj e
      subst this
      intro b m c e'
      cases e'⟩⟩)
    (fun m g1 s c cw pn py pc hm it hb hok hj hcw how hfg hr1 => by
      obtain ⟨m, rfl⟩ : ∃ p, m = p + 1 := ⟨m - 1, by omega⟩
      rw [call_yield]
      obtain ⟨tv, hp, gr⟩ := hj.tv
      have hup := hj.up
      have hloop1 : g1.get (h.next + 5) = some (.loop r) := by rw [hj.old _ (by omega) (by omega)]; exact hloop
      have hpb := AHeap.lt_of_get hb
      suffices key : ∃ e g', roundA Try.prog (call m) m (h.next + 5) [.agg ⟨coL (c 0) cw⟩] g1 = some (.bool (goesOn e), g') ∧ (e = .norm ∧ JO h2 (h.next + 2) S vv sv (doneStep S s c).1 g' ∧ (∀ q, q ≠ h.next + 2 → q ≠ h.next + 5 → q < g1.next → NeB tv q → g'.get q = g1.get q) ∧ (∃ tv', g'.get (h.next + 2) = some (.row (wkL S vv sv tv') true 0) ∧ ∀ q, q < g1.next → NeB tv q → NeB tv' q) ∧ g'.floor = h2.floor ∧ g1.next ≤ g'.next ∧ g'.next ≤ g1.next + 10) by
        obtain ⟨e, g', k1, rfl, k2, k3, ⟨tv', k4, k5⟩, k6, k7, k8⟩ := key
        refine ⟨g', k1, k2, fun q cs hq ho => ?_, by rw [k3 _ (by omega) (by omega) hpb (neB_of gr (by left; omega))]; exact hb, k6, k7, by omega⟩
        obtain ⟨o1, o2, o3, o4⟩ := ho
        have hlt : q < g1.next := by obtain ⟨w, gr, e⟩ := hq; exact AHeap.lt_of_get e
        have hne := o4 tv hp
        have hq5 : q ≠ h.next + 5 := by omega
        refine ⟨by obtain ⟨w, gr, e⟩ := hq; exact ⟨w, gr, by rw [k3 q o2 hq5 hlt hne]; exact e⟩, o1, o2, o3, fun tv2 e => ?_⟩
        rw [k4] at e
        simp only [Option.some.injEq, AObj.row.injEq, and_true] at e
        have := wkL_inj e
        subst this
        exact k5 q hlt hne
      refine round_run (f := f0) hloop1 r1 r2 (by rw [r3]; rfl) (by omega) r4 r5 ?_
      have hset : setFr f0 r.params.toList [.agg ⟨coL (c 0) cw⟩] = upd f0 25 (.agg ⟨coL (c 0) cw⟩) := by rw [r3]; rfl
      rw [hset]
      simp only [rn0, rn1, rn2, rn3, rn4, rn5, rn6, rn7, rn8, if_true, if_false, Nat.le_refl, true_and, and_true, decide_true, decide_false, Bool.not_true, Bool.not_false, reduceIte, Nat.reduceEqDiff, Nat.reduceAdd, Nat.reduceMul, Nat.reduceSub, Nat.reduceLeDiff, Nat.reduceLT, ra86_0]
      refine step_new (vs := coL (c 0) cw) (by omega) (by omega) rfl (by simp only [rn0, rn1, rn2, rn3, rn4, rn5, rn6, rn7, rn8, if_true, if_false, Nat.le_refl, true_and, and_true, decide_true, decide_false, Bool.not_true, Bool.not_false, reduceIte, Nat.reduceEqDiff, Nat.reduceAdd, Nat.reduceMul, Nat.reduceSub, Nat.reduceLeDiff, Nat.reduceLT]; rfl) (by simp [coL, allB, one_int, how]) rfl rfl fun g2 hx2 => ?_
      have n2 := hx2.next
      have f2 := hx2.floor
      simp only [rn0, rn1, rn2, rn3, rn4, rn5, rn6, rn7, rn8, if_true, if_false, Nat.le_refl, true_and, and_true, decide_true, decide_false, Bool.not_true, Bool.not_false, reduceIte, Nat.reduceEqDiff, Nat.reduceAdd, Nat.reduceMul, Nat.reduceSub, Nat.reduceLeDiff, Nat.reduceLT]
      refine ⟨by rw [hx2.old _ (by omega)]; exact hloop1, by omega, fun g3 hp3 => ?_⟩
      have n3 := hp3.next
      have f3 := hp3.floor
      have g3old : ∀ i, i < g1.next → i ≠ h.next + 5 → g3.get i = g1.get i := fun i hi hne => by rw [hp3.old i hne, hx2.old i hi]
      have g3b : ∀ i, i < h.next → g3.get i = h.get i := fun i hi => by rw [g3old i (by omega) (by omega), hj.old i (by omega) (by omega), hbase i hi]
      have hy3 := hy.mono (AHeap.subOf g3b)
      have hp3' : g3.get (h.next + 2) = some (.row (wkL S vv sv tv) true 0) := by rw [g3old _ (by omega) (by omega)]; exact hp
      have rp3 : Row g3 (h.next + 2) (wkL S vv sv tv) := ⟨_, _, hp3'⟩
      have rc3 : Row g3 g1.next (coL (c 0) cw) := by
        obtain ⟨w, gr, e⟩ := hx2.row
        exact ⟨w, gr, by rw [hp3.old _ (by omega)]; exact e⟩
      have hcw3 : CouR g3 cw S c := by
        obtain ⟨a', cap', e', sp, hz | ⟨b, o, cs, w, gr', e2', e3', e4'⟩⟩ := hcw
        · exact ⟨a', cap', e', sp, .inl hz⟩
        · refine ⟨a', cap', e', sp, .inr ⟨b, o, cs, w, gr', e2', ?_, e4'⟩⟩
          rw [g3old b (AHeap.lt_of_get e3') (by rintro rfl; rw [hloop1] at e3'; cases e3')]
          exact e3'
      have hcu : InU S c := fun i hi => hok.1 i hi
      have ed := done_c (n := m) (h := g3) (by omega) (by omega) hcw3 hG hcu
      simp only [rn0, rn1, rn2, rn3, rn4, rn5, rn6, rn7, rn8, if_true, if_false, Nat.le_refl, true_and, and_true, decide_true, decide_false, Bool.not_true, Bool.not_false, reduceIte, Nat.reduceEqDiff, Nat.reduceAdd, Nat.reduceMul, Nat.reduceSub, Nat.reduceLeDiff, Nat.reduceLT, rb86_0, f7, rc3.whole (n := 2) rfl, ed]
      refine step_new (vs := dn (doneS S c)) (by omega) (by omega) rfl (by simp only [rn0, rn1, rn2, rn3, rn4, rn5, rn6, rn7, rn8, if_true, if_false, Nat.le_refl, true_and, and_true, decide_true, decide_false, Bool.not_true, Bool.not_false, reduceIte, Nat.reduceEqDiff, Nat.reduceAdd, Nat.reduceMul, Nat.reduceSub, Nat.reduceLeDiff, Nat.reduceLT]; rfl) dn_one dn_len rfl fun g4 hx4 => ?_
      have n4 := hx4.next
      have f4 := hx4.floor
      have k14 : Keep (h.next + 5) g1 g4 := ⟨fun i cs w gr hi hg => hx4.sub _ _ _ _ trivial (by rw [hp3.old i hi]; exact hx2.sub _ _ _ _ trivial hg), by omega, by omega⟩
      have gr4 := gr.keep k14 (by omega)
      have g4old : ∀ i, i < g1.next → i ≠ h.next + 5 → g4.get i = g1.get i := fun i hi hne => by rw [hx4.old i (by omega), g3old i hi hne]
      have hp4 : g4.get (h.next + 2) = some (.row (wkL S vv sv tv) true 0) := by rw [g4old _ (by omega) (by omega)]; exact hp
      have rp4 : Row g4 (h.next + 2) (wkL S vv sv tv) := ⟨_, _, hp4⟩
      have hy4 := hy3.mono hx4.sub
      have wd4 := hx4.row.whole (n := 3) dn_len
      have hist := isTruth_c (n := m) (h := g4) (u := c) (by omega) (by omega) hy4 gr.one hG
      have hcon := contains_c (n := m) (h := g4) (c := doneS S c) (by omega) (by omega) (show DonesR g4 tv s from gr4.cells) (by have := hj.few hG; omega)
      have hmem := hasD_iff hG (fun d hd => by obtain ⟨u, _, e⟩ := hj.all d hd; exact ⟨u, e⟩) (u := c)
      have hcin : c ∈ (enumB (uLo S) (uHi S) (numU S) 0 fun _ => 0) := (enumB_ok _ _ _ _).2 ⟨fun j _ hj => hok.1 j (by omega), fun j hj => hok.2 j (by omega)⟩
      by_cases ht : (∀ k, k < S.ns → RightS S c k) ∧ doneS S c ∉ s
      · have hst : (doneStep S s c).1 = s ++ [doneS S c] := by simp only [doneStep]; rw [if_pos ht]
        have hnc : ¬ HasD s (doneS S c) := fun e => ht.2 (hmem.1 e)
        simp only [rn0, rn1, rn2, rn3, rn4, rn5, rn6, rn7, rn8, if_true, if_false, Nat.le_refl, true_and, and_true, decide_true, decide_false, Bool.not_true, Bool.not_false, reduceIte, Nat.reduceEqDiff, Nat.reduceAdd, Nat.reduceMul, Nat.reduceSub, Nat.reduceLeDiff, Nat.reduceLT, f7, rp4.whole (n := 6) rfl, wd4, hist, eq_true ht.1, rp4.ld, wkg, Nat.zero_add, hcon, eq_false hnc, sl_dn]
        refine step_slice (by omega) dn_one fun g5 hx5 => ?_
        have n5 := hx5.next
        have f5 := hx5.floor
        have gr5 : GrowC (h2.next + 4) g5 tv 3 s.length (fun k j => .int .i64 (((s ++ [doneS S c]).getD k fun _ => 0) j)) := growC_congr (gr4.sub hx5.sub) fun k j hk hj => by
          rw [List.getD_eq_getElem?_getD, List.getD_eq_getElem?_getD, List.getElem?_append_left hk]
        have hlen := hj.len
        obtain ⟨v', g6, e6, ev, gr6, hk6⟩ := gr5.append (bytes := 24) (cap := 1) (by omega) (by omega) (by omega) hx5.get dn_len dn_one (fun j hj => by
          rw [dn_get hj, List.getD_eq_getElem?_getD, List.getElem?_append_right (Nat.le_refl _)]; simp) (by simp [maxBytes, far] at *; omega) (by simp [maxBytes, far] at *; omega)
        have n6 := hk6.next
        have f6 := hk6.floor
        have hbl := fun (i : Nat) (hi : NeB tv i) (hlt : i < g1.next) => (show g6.get i = g5.get i from hk6.old i (by omega) fun b m q e => hi b m q e)
        have neP : NeB tv (h.next + 2) := neB_of gr (by left; omega)
        have neL : NeB tv (h.next + 5) := neB_of gr (by left; omega)
        have hp6 : g6.get (h.next + 2) = some (.row (wkL S vv sv tv) true 0) := by
          rw [hbl _ neP (by omega), hx5.old _ (by omega)]; exact hp4
        simp only [rn0, rn1, rn2, rn3, rn4, rn5, rn6, rn7, rn8, if_true, if_false, Nat.le_refl, true_and, and_true, decide_true, decide_false, Bool.not_true, Bool.not_false, reduceIte, Nat.reduceEqDiff, Nat.reduceAdd, Nat.reduceMul, Nat.reduceSub, Nat.reduceLeDiff, Nat.reduceLT, f7, e6]
        refine step_store (b := h.next + 2) (off := 5) (vs := [v']) (by rfl) hp6 (by omega) (by omega) (by rw [ev]; rfl) (by rw [ev]; rfl) rfl (by simp [wkL]) fun g7 hs7 => ?_
        have n7 := hs7.next
        have f7' := hs7.floor
        have es7 : splice (wkL S vv sv tv) 5 [v'] = wkL S vv sv v' := rfl
        rw [es7] at hs7
        have g7old : ∀ i, i < g1.next → i ≠ h.next + 2 → i ≠ h.next + 5 → NeB tv i → g7.get i = g1.get i := fun i hi h1 h3 hne => by
          rw [hs7.old i h1, hbl i hne hi, hx5.old i (by omega), g4old i hi h3]
        have hl7 : g7.get (h.next + 5) = some (.loop { r with state := .busy }) := by
          rw [hs7.old _ (by omega), hbl _ neL (by omega), hx5.old _ (by omega), hx4.old _ (by omega), hp3.get]
        simp only [rn0, rn1, rn2, rn3, rn4, rn5, rn6, rn7, rn8, if_true, if_false, Nat.le_refl, true_and, and_true, decide_true, decide_false, Bool.not_true, Bool.not_false, reduceIte, Nat.reduceEqDiff, Nat.reduceAdd, Nat.reduceMul, Nat.reduceSub, Nat.reduceLeDiff, Nat.reduceLT]
        refine ⟨hl7, by omega, by omega, fun g8 hp8 => ⟨?_, ?_, ?_, by rw [hp8.floor]; omega, by rw [hp8.next]; omega, by rw [hp8.next]; omega⟩⟩
        · rw [hst]
          have hg7 := hs7.get
          refine ⟨fun i hi hne => ?_, ⟨v', ?_, ?_⟩, by rw [hp8.next]; omega, by rw [List.length_append, List.length_singleton, hp8.next]; omega, fun d hd => ?_, ?_⟩
          · by_cases e : i = h.next + 5
            · subst e; rw [hp8.get, r6, ← hj.old _ hi hne]; exact hloop1.symm
            · rw [hp8.old i e, g7old i (by omega) hne e (neB_of gr (by left; omega))]; exact hj.old i hi hne
          · rw [hp8.old _ (by omega)]; exact hg7
          · rw [List.length_append, List.length_singleton]
            exact (gr6.keep hs7.keep (by omega)).keep hp8.keep (by omega)
          · rcases List.mem_append.1 hd with hd | hd
            · exact hj.all d hd
            · exact ⟨c, hcin, List.mem_singleton.1 hd⟩
          · rw [List.nodup_append]
            exact ⟨hj.nodup, (by simp), fun a ha b hb e => ht.2 (by rw [List.mem_singleton.1 hb] at e; rw [← e]; exact ha)⟩
        · intro i h1 h3 hlt hne
          rw [hp8.old i h3, g7old i hlt h1 h3 hne]
        · refine ⟨v', by rw [hp8.old _ (by omega)]; exact hs7.get, fun q hq _ b m c' e => ?_⟩
          rw [ev] at e
          cases e
          show q ≠ g5.next
          omega
      · have hst : (doneStep S s c).1 = s := by simp only [doneStep]; rw [if_neg ht]
        have hbranch : (∀ k, k < S.ns → RightS S c k) = False ∨ (∀ k, k < S.ns → RightS S c k) = True ∧ HasD s (doneS S c) = True := by
          by_cases c1 : ∀ k, k < S.ns → RightS S c k
          · exact .inr ⟨eq_true c1, eq_true (hmem.2 (Classical.byContradiction fun e => ht ⟨c1, e⟩))⟩
          · exact .inl (eq_false c1)
        have fin : ∀ g5, Put g4 g5 (h.next + 5) (some (.loop (leftBy r .norm))) → JO h2 (h.next + 2) S vv sv (doneStep S s c).1 g5 ∧ (∀ q, q ≠ h.next + 2 → q ≠ h.next + 5 → q < g1.next → NeB tv q → g5.get q = g1.get q) ∧ (∃ tv', g5.get (h.next + 2) = some (.row (wkL S vv sv tv') true 0) ∧ ∀ q, q < g1.next → NeB tv q → NeB tv' q) ∧ g5.floor = h2.floor ∧ g1.next ≤ g5.next ∧ g5.next ≤ g1.next + 10 := fun g5 hp5 => by
          refine ⟨?_, ?_, ?_, by rw [hp5.floor]; omega, by rw [hp5.next]; omega, by rw [hp5.next]; omega⟩
          · rw [hst]
            refine ⟨fun i hi hne => ?_, ⟨tv, ?_, ?_⟩, by rw [hp5.next]; omega, by have := hj.len; rw [hp5.next]; omega, hj.all, hj.nodup⟩
            · by_cases e : i = h.next + 5
              · subst e; rw [hp5.get, r6, ← hj.old _ hi hne]; exact hloop1.symm
              · rw [hp5.old i e, g4old i (by omega) e]; exact hj.old i hi hne
            · rw [hp5.old _ (by omega)]; exact hp4
            · exact gr4.keep hp5.keep (by omega)
          · intro i h1 h3 hlt _
            rw [hp5.old i h3, g4old i hlt h3]
          · exact ⟨tv, by rw [hp5.old _ (by omega)]; exact hp4, fun q _ hq => hq⟩
        have hl4 : g4.get (h.next + 5) = some (.loop { r with state := .busy }) := by rw [hx4.old _ (by omega), hp3.get]
        rcases hbranch with c1 | ⟨c1, c2⟩
        · simp only [rn0, rn1, rn2, rn3, rn4, rn5, rn6, rn7, rn8, if_true, if_false, Nat.le_refl, true_and, and_true, decide_true, decide_false, Bool.not_true, Bool.not_false, reduceIte, Nat.reduceEqDiff, Nat.reduceAdd, Nat.reduceMul, Nat.reduceSub, Nat.reduceLeDiff, Nat.reduceLT, f7, rp4.whole (n := 6) rfl, wd4, hist, c1]
          exact ⟨hl4, by omega, by omega, fun g5 hp5 => fin g5 hp5⟩
        · simp only [rn0, rn1, rn2, rn3, rn4, rn5, rn6, rn7, rn8, if_true, if_false, Nat.le_refl, true_and, and_true, decide_true, decide_false, Bool.not_true, Bool.not_false, reduceIte, Nat.reduceEqDiff, Nat.reduceAdd, Nat.reduceMul, Nat.reduceSub, Nat.reduceLeDiff, Nat.reduceLT, f7, rp4.whole (n := 6) rfl, wd4, hist, c1, rp4.ld, wkg, Nat.zero_add, hcon, c2]
          exact ⟨hl4, by omega, by omega, fun g5 hp5 => fin g5 hp5⟩)
    (by omega)
  obtain ⟨v5, g5, e5, j5, fl5, u5, n5⟩ := hit
  change JO h2 (h.next + 2) S vv sv (donesL S) g5 at j5
  obtain ⟨tv, t1, t2⟩ := j5.tv
  have hup := j5.up
  refine ⟨v5, g5, .norm, by rw [n3]; exact e5, by omega, by omega, by rw [r6, j5.old _ (by omega) (by omega)]; exact hloop, fun g6 hp6 => ?_⟩
  have n6 := hp6.next
  have f6 := hp6.floor
  have t6 : g6.get (h.next + 2) = some (.row (wkL S vv sv tv) true 0) := by rw [hp6.old _ (by omega)]; exact t1
  have rw6 : Row g6 (h.next + 2) (wkL S vv sv tv) := ⟨_, _, t6⟩
  have w6 := rw6.whole (n := 6) rfl
  have r6' : g6.get (h.next + 1) = some (.row wkZ true 0) := by rw [hp6.old _ (by omega), j5.old _ (by omega) (by omega)]; exact hr2'
  have m6 : g6.get (h.next + 4) = some .deferred := by rw [hp6.old _ (by omega), j5.old _ (by omega) (by omega)]; exact hmark
  have ht2 := t2.one
  have hlenI := Cells.len t2.cells g6
  by_cases hz : truthsS S = []
  · have hz' : ((donesL S).length : Int) = 0 := by rw [dones_nil.2 hz]; rfl
    simp only [rn0, rn1, rn2, rn3, rn4, rn5, rn6, rn7, rn8, if_true, if_false, Nat.le_refl, true_and, and_true, decide_true, decide_false, Bool.not_true, Bool.not_false, reduceIte, Nat.reduceEqDiff, Nat.reduceAdd, Nat.reduceMul, Nat.reduceSub, Nat.reduceLeDiff, Nat.reduceLT, f7, f4', rw6.ld, wkg, Nat.zero_add, hlenI, hz', build_wkZ]
    refine step_store (vs := wkZ) rfl r6' (by omega) (by omega) rfl rfl rfl (by simp) fun g7 hs7 => ?_
    have n7 := hs7.next
    have f7' := hs7.floor
    simp only [rn0, rn1, rn2, rn3, rn4, rn5, rn6, rn7, rn8, if_true, if_false, Nat.le_refl, true_and, and_true, decide_true, decide_false, Bool.not_true, Bool.not_false, reduceIte, Nat.reduceEqDiff, Nat.reduceAdd, Nat.reduceMul, Nat.reduceSub, Nat.reduceLeDiff, Nat.reduceLT, f7, f4']
    refine ret_mark (.inr rfl) (by rw [hs7.old _ (by omega)]; exact m6) (by omega) (by omega) fun g8 hp8 => ?_
    have n8 := hp8.next
    have f8 := hp8.floor
    have w8 : Row g8 (h.next + 1) wkZ := ⟨true, 0, by rw [hp8.old _ (by omega), hs7.get]; rfl⟩
    simp only [rn0, rn1, rn2, rn3, rn4, rn5, rn6, rn7, rn8, if_true, if_false, Nat.le_refl, true_and, and_true, decide_true, decide_false, Bool.not_true, Bool.not_false, reduceIte, Nat.reduceEqDiff, Nat.reduceAdd, Nat.reduceMul, Nat.reduceSub, Nat.reduceLeDiff, Nat.reduceLT, res_two, f4', w8.whole (n := 6) rfl]
    exact ⟨fun i hi => by rw [hp8.old i (by omega), hs7.old i (by omega), hp6.old i (by omega), j5.old i (by omega) (by omega), hbase i hi], by omega, by omega, by omega, .inr (.inr (.inl ⟨hf, hP, hz, rfl⟩))⟩
  · have hz' : ¬ ((donesL S).length : Int) = 0 := fun e => hz (dones_nil.1 (List.eq_nil_of_length_eq_zero (by omega)))
    simp only [rn0, rn1, rn2, rn3, rn4, rn5, rn6, rn7, rn8, if_true, if_false, Nat.le_refl, true_and, and_true, decide_true, decide_false, Bool.not_true, Bool.not_false, reduceIte, Nat.reduceEqDiff, Nat.reduceAdd, Nat.reduceMul, Nat.reduceSub, Nat.reduceLeDiff, Nat.reduceLT, f7, f4', rw6.ld, wkg, Nat.zero_add, hlenI, hz', w6]
    refine step_store (vs := wkL S vv sv tv) rfl r6' (by omega) (by omega) rfl (wk_one hy ht2) rfl (by simp) fun g7 hs7 => ?_
    have n7 := hs7.next
    have f7' := hs7.floor
    simp only [rn0, rn1, rn2, rn3, rn4, rn5, rn6, rn7, rn8, if_true, if_false, Nat.le_refl, true_and, and_true, decide_true, decide_false, Bool.not_true, Bool.not_false, reduceIte, Nat.reduceEqDiff, Nat.reduceAdd, Nat.reduceMul, Nat.reduceSub, Nat.reduceLeDiff, Nat.reduceLT, f7, f4', w6]
    refine ret_mark (.inr rfl) (by rw [hs7.old _ (by omega)]; exact m6) (by omega) (by omega) fun g8 hp8 => ?_
    have n8 := hp8.next
    have f8 := hp8.floor
    have w8 : Row g8 (h.next + 1) (wkL S vv sv tv) := ⟨true, 0, by rw [hp8.old _ (by omega), hs7.get]; rfl⟩
    simp only [rn0, rn1, rn2, rn3, rn4, rn5, rn6, rn7, rn8, if_true, if_false, Nat.le_refl, true_and, and_true, decide_true, decide_false, Bool.not_true, Bool.not_false, reduceIte, Nat.reduceEqDiff, Nat.reduceAdd, Nat.reduceMul, Nat.reduceSub, Nat.reduceLeDiff, Nat.reduceLT, res_two, f4', w8.whole (n := 6) rfl]
    refine ⟨fun i hi => ?_, by omega, by omega, by omega, .inr (.inr (.inr ⟨hf, hP, hz, tv, rfl, ht2, ?_, fun a k c e => by have := (t2.block e).1; omega, t2.long⟩))⟩
    · rw [hp8.old i (by omega), hs7.old i (by omega), hp6.old i (by omega), j5.old i (by omega) (by omega), hbase i hi]
    · exact (((t2.keep hp6.keep (by omega)).keep hs7.keep (by omega)).keep hp8.keep (by omega)).cells
end Go.Vm.Bt
