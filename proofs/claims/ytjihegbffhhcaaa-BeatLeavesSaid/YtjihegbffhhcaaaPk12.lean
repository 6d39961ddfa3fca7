/- Texts of the proofs of this seat, put together: BtLeavesL. -/
import Derived.Test.YtjihegbffhhcaaaPk11

namespace Go.Vm.Bt
open Go.Proofs Go.Vm.Vat Go.Vm.L2
set_option linter.unusedSimpArgs false
set_option linter.unusedVariables false
set_option maxRecDepth 10000
variable {n : Nat} {h : AHeap}
def s50 : SCode := (.seq (.ops [⟨(some 4), none, .mov (.const (.bool false))⟩]) (.seq (.seq (.ops [⟨(some 6), none, .mov (T 0)⟩, ⟨(some 7), none, .len (T 6)⟩, ⟨(some 8), none, .mov (T 1)⟩, ⟨(some 9), none, .len (T 8)⟩, ⟨(some 10), none, .int2 .neq (T 7) (T 9)⟩]) (.cond (T 10) (.seq (.ops [⟨(some 4), none, .mov (.const (.bool false))⟩]) .ret) .skip)) (.seq (.seq (.ops [⟨(some 5), none, .mov (.const (.int .i64 (0)))⟩]) (.block 0 (.loop (.seq (.seq (.ops [⟨(some 11), none, .mov (T 5)⟩, ⟨(some 12), none, .mov (T 0)⟩, ⟨(some 13), none, .len (T 12)⟩, ⟨(some 14), none, .int2 .lss (T 11) (T 13)⟩]) (.cond (T 14) .skip (.exit 0))) (.seq (.block 1 (.seq (.draw [⟨.free, ⟨(some 17), none, .mov (T 0)⟩⟩, ⟨.free, ⟨(some 18), none, .mov (T 5)⟩⟩, ⟨.free, ⟨(some 19), none, .idxSl 1 (T 17) (T 18)⟩⟩, ⟨.rd1, ⟨(some 20), none, .load1 (T 19)⟩⟩, ⟨.free, ⟨(some 21), none, .mov (T 1)⟩⟩, ⟨.free, ⟨(some 22), none, .mov (T 5)⟩⟩, ⟨.free, ⟨(some 23), none, .idxSl 1 (T 21) (T 22)⟩⟩, ⟨.rd1, ⟨(some 24), none, .load1 (T 23)⟩⟩, ⟨.free, ⟨(some 25), none, .int2 .neq (T 20) (T 24)⟩⟩]) (.cond (T 25) (.seq (.ops [⟨(some 4), none, .mov (.const (.bool false))⟩]) .ret) .skip))) (.ops [⟨(some 15), none, .mov (T 5)⟩, ⟨(some 16), none, .int2 .add (T 15) (.const (.int .i64 (1)))⟩, ⟨(some 5), none, .mov (T 16)⟩])))))) (.seq (.ops [⟨(some 4), none, .mov (.const (.bool true))⟩]) .ret))))
theorem fok50 : FnOk Try.prog 50 26 s50 [.tmp 4] := ⟨Try.f50, _, Try.func50, rfl, Try.ntmps50, by kernel_rfl, by kernel_rfl⟩
open Classical in
theorem same_c (hn : 1010 ≤ n) {m k : Nat} (hm : m ≤ 1000) {va vb : Value} {a b : Nat → Int} (ha : Ints h va m a) (hb : Ints h vb k b) : call n (.func (.func 50) #[] #[]) [va, vb] h = some (.bool (decide (m = k ∧ ∀ i, i < m → a i = b i)), h) := by
  obtain ⟨n, rfl⟩ : ∃ p, n = p + 1 := ⟨n - 1, by omega⟩
  refine call_plain0 fok50 rfl rfl (by simp) rfl ?_
  have ha : Ints h.shutAll va m a := Cells.shut ha
  have hb : Ints h.shutAll vb k b := Cells.shut hb
  generalize h.shutAll = h at ha hb
  obtain ⟨bb, hbb⟩ : ∃ bb, bb = decide (m = k ∧ ∀ i, i < m → a i = b i) := ⟨_, rfl⟩
  rw [← hbb]
  by_cases c : m = k
  case neg =>
    have c' : ¬ (m : Int) = (k : Int) := by omega
    have hd : bb = false := by rw [hbb]; exact decide_eq_false fun e => c e.1
    simp only [rn0, rn1, rn2, rn3, rn4, rn5, rn6, rn7, rn8, if_true, if_false, Nat.le_refl, true_and, and_true, decide_true, decide_false, Bool.not_true, Bool.not_false, reduceIte, Nat.reduceEqDiff, Nat.reduceAdd, Nat.reduceMul, Nat.reduceSub, Nat.reduceLeDiff, Nat.reduceLT, s50, Cells.len ha, Cells.len hb, c', hd]
  subst c
  simp only [rn0, rn1, rn2, rn3, rn4, rn5, rn6, rn7, rn8, if_true, if_false, Nat.le_refl, true_and, and_true, decide_true, decide_false, Bool.not_true, Bool.not_false, reduceIte, Nat.reduceEqDiff, Nat.reduceAdd, Nat.reduceMul, Nat.reduceSub, Nat.reduceLeDiff, Nat.reduceLT, s50, Cells.len ha, Cells.len hb]
  refine W_loop m (fun k f g ms => (∀ i, i < k → a i = b i) ∧ g = h ∧ ms = [] ∧ f 0 = va ∧ f 1 = vb ∧ f 5 = .int .i64 (k : Int)) (by simp; omega) ?_ ?_ ?_
  · simp only [rn0, rn1, rn2, rn3, rn4, rn5, rn6, rn7, rn8, if_true, if_false, Nat.le_refl, true_and, and_true, decide_true, decide_false, Bool.not_true, Bool.not_false, reduceIte, Nat.reduceEqDiff, Nat.reduceAdd, Nat.reduceMul, Nat.reduceSub, Nat.reduceLeDiff, Nat.reduceLT]
    exact ⟨fun i hi => by omega, rfl⟩
  · rintro k f g ms hk ⟨he, rfl, rfl, p0, p1, p5⟩
    have hk' : (k : Int) < (m : Int) := by omega
    have hw : wrapF .i64 ((k : Int) + 1) = ((k + 1 : Nat) : Int) := by rw [wrap_in (by omega) (by omega)]; rfl
    have la := Cells.ld ha hk Nat.zero_lt_one
    have lb := Cells.ld hb hk Nat.zero_lt_one
    simp only [rn0, rn1, rn2, rn3, rn4, rn5, rn6, rn7, rn8, if_true, if_false, Nat.le_refl, true_and, and_true, decide_true, decide_false, Bool.not_true, Bool.not_false, reduceIte, Nat.reduceEqDiff, Nat.reduceAdd, Nat.reduceMul, Nat.reduceSub, Nat.reduceLeDiff, Nat.reduceLT, p0, p1, p5, Cells.len ha, hk']
    refine W_draw All ?_
    by_cases c : a k = b k
    · simp only [rn0, rn1, rn2, rn3, rn4, rn5, rn6, rn7, rn8, if_true, if_false, Nat.le_refl, true_and, and_true, decide_true, decide_false, Bool.not_true, Bool.not_false, reduceIte, Nat.reduceEqDiff, Nat.reduceAdd, Nat.reduceMul, Nat.reduceSub, Nat.reduceLeDiff, Nat.reduceLT, p0, p1, p5, Cells.idx ha hk, Cells.idx hb hk, la, lb, c, hw]
      intro i hi
      by_cases e : i = k
      · subst e; exact c
      · exact he i (by omega)
    · have hd : bb = false := by rw [hbb]; exact decide_eq_false fun e => c (e.2 k hk)
      rw [hd]
      simp only [rn0, rn1, rn2, rn3, rn4, rn5, rn6, rn7, rn8, if_true, if_false, Nat.le_refl, true_and, and_true, decide_true, decide_false, Bool.not_true, Bool.not_false, reduceIte, Nat.reduceEqDiff, Nat.reduceAdd, Nat.reduceMul, Nat.reduceSub, Nat.reduceLeDiff, Nat.reduceLT, p0, p1, p5, Cells.idx ha hk, Cells.idx hb hk, la, lb, c]
  · rintro f g ms ⟨he, rfl, rfl, p0, p1, p5⟩
    have hd : bb = true := by rw [hbb]; exact decide_eq_true ⟨rfl, he⟩
    rw [hd]
    simp only [rn0, rn1, rn2, rn3, rn4, rn5, rn6, rn7, rn8, if_true, if_false, Nat.le_refl, true_and, and_true, decide_true, decide_false, Bool.not_true, Bool.not_false, reduceIte, Nat.reduceEqDiff, Nat.reduceAdd, Nat.reduceMul, Nat.reduceSub, Nat.reduceLeDiff, Nat.reduceLT, p0, p1, p5, Cells.len ha, Int.lt_irrefl]
noncomputable def allAt (S : MB) (m : Nat) : Int := ((bitsP (RightS S (nthU S m)) S.ns : Nat) : Int)
noncomputable instance (S : MB) (s : Nat) : Decidable (CanB S s) := Classical.propDecidable _
theorem all_mem {S : MB} (hG : Good S) {c : Nat → Int} : c ∈ allE S ↔ ∃ i, i < (manyS S).toNat ∧ nthU S i = c := by
  rw [allE_mem]
  constructor
  · rintro ⟨h1, h2⟩; exact nth_all hG h1 h2
  · rintro ⟨i, _, rfl⟩; exact ⟨nthU_in hG, fun j hj => nthU_out hj⟩
theorem can_iff {S : MB} (hG : Good S) {s : Nat} (hs : s < 2 ^ S.ns) : (∃ i, i < (manyS S).toNat ∧ bitsP (RightS S (nthU S i)) S.ns &&& s = s) ↔ CanB S s := by
  have key : ∀ b, (bitsP (RightS S b) S.ns &&& s = s ↔ ∀ x, x < S.ns → Bit s x → RightS S b x) := fun b => by
    constructor
    · intro e x hx hb
      have h1 : (bitsP (RightS S b) S.ns &&& s).testBit x = true := by rw [e]; exact bit_test.1 hb
      rw [Nat.testBit_and, Bool.and_eq_true] at h1
      exact (bitsP_test.1 h1.1).2
    · intro hh
      apply Nat.eq_of_testBit_eq
      intro x
      rw [Nat.testBit_and]
      by_cases hb : s.testBit x = true
      · have hx : x < S.ns := by
          apply Classical.byContradiction
          intro hn
          have : s < 2 ^ x := Nat.lt_of_lt_of_le hs (Nat.pow_le_pow_right (by omega) (by omega))
          rw [Nat.testBit_lt_two_pow this] at hb; cases hb
        rw [hb, bitsP_test.2 ⟨hx, hh x hx (bit_test.2 hb)⟩]; rfl
      · have hb' : s.testBit x = false := by simpa using hb
        rw [hb', Bool.and_false]
  constructor
  · rintro ⟨i, h1, h2⟩
    exact ⟨_, (all_mem hG).2 ⟨i, h1, rfl⟩, (key _).1 h2⟩
  · rintro ⟨c, h1, h2⟩
    obtain ⟨i, h3, h4⟩ := (all_mem hG).1 h1
    exact ⟨i, h3, (key _).2 (by rw [h4]; exact h2)⟩
def s55 : SCode := (.seq (.ops [⟨(some 1), none, .box (T 0)⟩, ⟨(some 2), none, .mov (.const (.slice none 0 0))⟩]) (.seq (.ops [⟨(some 3), none, .mov (.const (.slice none 0 0))⟩]) (.seq (.seq (.ops [⟨(some 4), none, .mov (.const (.int .i64 (0)))⟩]) (.block 0 (.loop (.seq (.seq (.ops [⟨(some 5), none, .mov (T 4)⟩, ⟨(some 6), none, .loadN 5 (T 1)⟩, ⟨(some 7), none, .call (.func 70) [(T 6)]⟩, ⟨(some 8), none, .int2 .lss (T 5) (T 7)⟩]) (.cond (T 8) .skip (.exit 0))) (.seq (.block 1 (.draw [⟨.free, ⟨(some 11), none, .mov (T 3)⟩⟩, ⟨.rd, ⟨(some 12), none, .loadN 5 (T 1)⟩⟩, ⟨.rd1, ⟨(some 13), none, .loadN 5 (T 1)⟩⟩, ⟨.free, ⟨(some 14), none, .mov (T 4)⟩⟩, ⟨.up, ⟨(some 15), none, .call (.func 69) [(T 13), (T 14)]⟩⟩, ⟨.any, ⟨(some 16), none, .call (.func 85) [(T 12), (T 15)]⟩⟩, ⟨.any, ⟨(some 17), none, .bslice 1 1 [(.int .i64 (0))] [0] [(T 16)]⟩⟩, ⟨.any, ⟨(some 18), none, .append 1 8 (T 11) (T 17)⟩⟩, ⟨.free, ⟨(some 3), none, .mov (T 18)⟩⟩])) (.ops [⟨(some 9), none, .mov (T 4)⟩, ⟨(some 10), none, .int2 .add (T 9) (.const (.int .i64 (1)))⟩, ⟨(some 4), none, .mov (T 10)⟩])))))) (.seq (.ops [⟨(some 19), none, .mov (T 3)⟩, ⟨(some 2), none, .mov (T 19)⟩]) .ret))))
theorem fok55 : FnOk Try.prog 55 20 s55 [.tmp 2] := ⟨Try.f55, _, Try.func55, rfl, Try.ntmps55, by kernel_rfl, by kernel_rfl⟩
theorem all_c (hn : 300 ≤ n) (hr : h.next + 20000 < far) (hfl : h.floor ≤ h.next) {vv sv : Value} {S : MB} (hy : BeatR h vv sv S) (hG : Good S) :
    ∃ v h', call n (.func (.func 55) #[] #[]) [.agg ⟨beL S vv sv⟩] h = some (v, h') ∧ Ints h' v (manyS S).toNat (allAt S) ∧ (∀ i, i < h.next → h'.get i = h.get i) ∧ h.next ≤ h'.next ∧ h'.next ≤ h.next + 10000 ∧ h'.floor = h.floor := by
  obtain ⟨n, rfl⟩ : ∃ p, n = p + 1 := ⟨n - 1, by omega⟩
  obtain ⟨mp1, mp2⟩ := many_pos hG
  obtain ⟨z0, z1, z4, z5, _⟩ := hG.sizes
  obtain ⟨M, hM⟩ : ∃ M : Nat, manyS S = (M : Int) := ⟨(manyS S).toNat, by omega⟩
  have hM2 : M ≤ 200 := by omega
  rw [hM, Int.toNat_natCast]
  refine call_any0 fok55 rfl rfl (by simp) ?_
  simp only [s55, W_seq, W_ops]
  refine ops_box (cs := beL S vv sv) (by omega) rfl hy.one fun g1 hx1 => ?_
  have n1 := hx1.next
  have f1' := hx1.floor
  simp only [rn0, rn1, rn2, rn3, rn4, rn5, rn6, rn7, rn8, if_true, if_false, Nat.le_refl, true_and, and_true, decide_true, decide_false, Bool.not_true, Bool.not_false, reduceIte, Nat.reduceEqDiff, Nat.reduceAdd, Nat.reduceMul, Nat.reduceSub, Nat.reduceLeDiff, Nat.reduceLT]
  refine W_loop M (fun k f g ms => (∃ v, (∀ i, i < g1.next → g.get i = g1.get i) ∧ g.floor = g1.floor ∧ g1.next ≤ g.next ∧ g.next ≤ g1.next + 45 * k ∧ GrowC g1.next g v 1 k (fun i _ => .int .i64 (allAt S i)) ∧ f 3 = v) ∧ ms = [] ∧ f 1 = .pointer (some ⟨h.next, 0, none⟩) ∧ f 4 = .int .i64 (k : Int)) (by simp; omega) ?_ ?_ ?_
  · simp only [rn0, rn1, rn2, rn3, rn4, rn5, rn6, rn7, rn8, if_true, if_false, Nat.le_refl, true_and, and_true, decide_true, decide_false, Bool.not_true, Bool.not_false, reduceIte, Nat.reduceEqDiff, Nat.reduceAdd, Nat.reduceMul, Nat.reduceSub, Nat.reduceLeDiff, Nat.reduceLT]
    first | exact ⟨⟨_, fun _ _ => trivial, by omega, .nil, rfl⟩, rfl⟩ | exact ⟨⟨_, fun _ _ => rfl, by omega, .nil, rfl⟩, rfl⟩ | exact ⟨_, fun _ _ => trivial, .nil, rfl⟩
  · rintro k f g ms hk ⟨⟨v, hs, hfg, hup, hnx, gv, f3⟩, rfl, f1, f4⟩
    have hk' : (k : Int) < (M : Int) := by omega
    have hw : wrapF .i64 ((k : Int) + 1) = ((k + 1 : Nat) : Int) := by rw [wrap_in (by omega) (by omega)]; rfl
    have sg : Sub All g1 g := AHeap.subOf hs
    have hyg := (hy.mono hx1.sub).mono sg
    have rg := hx1.row.mono sg
    have em := manyR_c (n := n) (h := g) (by omega) (by omega) hyg hG.args (by omega)
    rw [hM] at em
    obtain ⟨cw, ga, ea, hta, oa, ua, ma, fa, gwa⟩ := nthG_c (n := n) (h := g) (by omega) (by omega) (by omega) hyg hG (m := k) (by omega)
    have hu := nthU_in (S := S) (m := k) hG
    have suba : Sub All g ga := AHeap.subOf oa
    have er := right_c (n := n) (h := ga) (by omega) (by omega) (hyg.mono suba) hta hG hu
    have er' : call n (.func (.func 85) #[] #[]) [.agg ⟨beL S vv sv⟩, .agg ⟨coL (nthU S k 0) cw⟩] ga = some (.int .i64 (allAt S k), ga) := er
    simp only [rn0, rn1, rn2, rn3, rn4, rn5, rn6, rn7, rn8, if_true, if_false, Nat.le_refl, true_and, and_true, decide_true, decide_false, Bool.not_true, Bool.not_false, reduceIte, Nat.reduceEqDiff, Nat.reduceAdd, Nat.reduceMul, Nat.reduceSub, Nat.reduceLeDiff, Nat.reduceLT, f1, f3, f4, rg.whole (n := 5) rfl, em, hk']
    refine W_draw All ?_
    simp only [rn0, rn1, rn2, rn3, rn4, rn5, rn6, rn7, rn8, if_true, if_false, Nat.le_refl, true_and, and_true, decide_true, decide_false, Bool.not_true, Bool.not_false, reduceIte, Nat.reduceEqDiff, Nat.reduceAdd, Nat.reduceMul, Nat.reduceSub, Nat.reduceLeDiff, Nat.reduceLT, f1, f3, f4, rg.whole (n := 5) rfl, hyg.self, ea, er', sl_int]
    refine ⟨⟨ua, suba⟩, up_slice (by omega) rfl (fun _ _ => trivial) fun g3 hx3 => ?_⟩
    have n3 := hx3.next
    have f3' := hx3.floor
    have gv2 := (gv.sub suba).sub hx3.sub
    have hvb : ∀ b k' c, v = .slice (some b) k' c → g1.next ≤ b.block := fun b k' c e => (gv.block e).1
    obtain ⟨v', g4, e4, ev, gv4, hk4⟩ := gv2.append (bytes := 8) (cap := 1) (by omega) (by omega) (by omega) hx3.get rfl rfl (fun j hj => by
      obtain rfl : j = 0 := by omega
      rfl) (by simp [maxBytes]; omega) (by simp [maxBytes]; omega)
    have n4 := hk4.next
    have f4' := hk4.floor
    simp only [rn0, rn1, rn2, rn3, rn4, rn5, rn6, rn7, rn8, if_true, if_false, Nat.le_refl, true_and, and_true, decide_true, decide_false, Bool.not_true, Bool.not_false, reduceIte, Nat.reduceEqDiff, Nat.reduceAdd, Nat.reduceMul, Nat.reduceSub, Nat.reduceLeDiff, Nat.reduceLT, f1, f4, e4, hw]
    refine ⟨by omega, v', fun i hi => ?_, by omega, by omega, by omega, gv4, rfl⟩
    rw [hk4.old i (by omega) fun b q z e => by have := hvb b q z e; omega, hx3.old i (by omega), oa i (by omega), hs i hi]
  · rintro f g ms ⟨⟨v, hs, hfg, hup, hnx, gv, f3⟩, rfl, f1, f4⟩
    have sg : Sub All g1 g := AHeap.subOf hs
    have hyg := (hy.mono hx1.sub).mono sg
    have rg := hx1.row.mono sg
    have em := manyR_c (n := n) (h := g) (by omega) (by omega) hyg hG.args (by omega)
    rw [hM] at em
    simp only [rn0, rn1, rn2, rn3, rn4, rn5, rn6, rn7, rn8, if_true, if_false, Nat.le_refl, true_and, and_true, decide_true, decide_false, Bool.not_true, Bool.not_false, reduceIte, Nat.reduceEqDiff, Nat.reduceAdd, Nat.reduceMul, Nat.reduceSub, Nat.reduceLeDiff, Nat.reduceLT, f1, f3, f4, rg.whole (n := 5) rfl, em, Int.lt_irrefl]
    exact ⟨gv.cells, fun i hi => by rw [hs i (by omega), hx1.old i hi], by omega, by omega, by omega⟩
def s106 : SCode := (.seq (.ops [⟨(some 4), none, .mov (.const (.bool false))⟩]) (.seq (.seq (.ops [⟨(some 5), none, .mov (.const (.int .i64 (0)))⟩]) (.block 0 (.loop (.seq (.seq (.ops [⟨(some 6), none, .mov (T 5)⟩, ⟨(some 7), none, .mov (T 0)⟩, ⟨(some 8), none, .len (T 7)⟩, ⟨(some 9), none, .int2 .lss (T 6) (T 8)⟩]) (.cond (T 9) .skip (.exit 0))) (.seq (.block 1 (.seq (.ops [⟨(some 12), none, .mov (T 0)⟩, ⟨(some 13), none, .mov (T 5)⟩, ⟨(some 14), none, .idxSl 1 (T 12) (T 13)⟩, ⟨(some 15), none, .load1 (T 14)⟩, ⟨(some 16), none, .mov (T 1)⟩, ⟨(some 17), none, .plain (.binOp .and 3 (T 15) (T 16) 3) 3⟩, ⟨(some 18), none, .mov (T 1)⟩, ⟨(some 19), none, .int2 .eql (T 17) (T 18)⟩]) (.cond (T 19) (.seq (.ops [⟨(some 4), none, .mov (.const (.bool true))⟩]) .ret) .skip))) (.ops [⟨(some 10), none, .mov (T 5)⟩, ⟨(some 11), none, .int2 .add (T 10) (.const (.int .i64 (1)))⟩, ⟨(some 5), none, .mov (T 11)⟩])))))) (.seq (.ops [⟨(some 4), none, .mov (.const (.bool false))⟩]) .ret)))
theorem fok106 : FnOk Try.prog 106 20 s106 [.tmp 4] := ⟨Try.f106, _, Try.func106, rfl, Try.ntmps106, by kernel_rfl, by kernel_rfl⟩
theorem canRef_c (hn : 300 ≤ n) {va : Value} {S : MB} (hG : Good S) (ha : Ints h va (manyS S).toNat (allAt S)) {s : Nat} (hs : s < 2 ^ S.ns) :
    call n (.func (.func 106) #[] #[]) [va, .int .i64 (s : Int)] h = some (.bool (decide (CanB S s)), h) := by
  obtain ⟨n, rfl⟩ : ∃ p, n = p + 1 := ⟨n - 1, by omega⟩
  obtain ⟨mp1, mp2⟩ := many_pos hG
  obtain ⟨z0, z1, z4, z5, _⟩ := hG.sizes
  have hc := can_iff hG hs
  have hs5 : (2 ^ S.ns : Nat) ≤ 2 ^ 5 := Nat.pow_le_pow_right (by omega) z5
  obtain ⟨M, hM⟩ : ∃ M, M = (manyS S).toNat := ⟨_, rfl⟩
  have hM2 : M ≤ 200 := by omega
  rw [← hM] at ha hc
  refine call_plain0 fok106 rfl rfl (by simp) rfl ?_
  have ha : Ints h.shutAll va M (allAt S) := Cells.shut ha
  generalize h.shutAll = h at ha
  have hlt : ∀ i, bitsP (RightS S (nthU S i)) S.ns < 2 ^ 62 := fun i => by have := bitsP_lt (RightS S (nthU S i)) S.ns; omega
  simp only [rn0, rn1, rn2, rn3, rn4, rn5, rn6, rn7, rn8, if_true, if_false, Nat.le_refl, true_and, and_true, decide_true, decide_false, Bool.not_true, Bool.not_false, reduceIte, Nat.reduceEqDiff, Nat.reduceAdd, Nat.reduceMul, Nat.reduceSub, Nat.reduceLeDiff, Nat.reduceLT, s106]
  refine W_loop M (fun k f g ms => (∀ i, i < k → ¬ bitsP (RightS S (nthU S i)) S.ns &&& s = s) ∧ g = h ∧ ms = [] ∧ f 0 = va ∧ f 1 = .int .i64 (s : Int) ∧ f 5 = .int .i64 (k : Int)) (by simp; omega) ?_ ?_ ?_
  · simp only [rn0, rn1, rn2, rn3, rn4, rn5, rn6, rn7, rn8, if_true, if_false, Nat.le_refl, true_and, and_true, decide_true, decide_false, Bool.not_true, Bool.not_false, reduceIte, Nat.reduceEqDiff, Nat.reduceAdd, Nat.reduceMul, Nat.reduceSub, Nat.reduceLeDiff, Nat.reduceLT]
    exact ⟨fun i hi => by omega, rfl⟩
  · rintro k f g ms hk ⟨he, rfl, rfl, p0, p1, p5⟩
    have hk' : (k : Int) < (M : Int) := by omega
    have hw : wrapF .i64 ((k : Int) + 1) = ((k + 1 : Nat) : Int) := by rw [wrap_in (by omega) (by omega)]; rfl
    have la := Cells.ld ha hk Nat.zero_lt_one
    have hand : ∀ other, run2 andF other (.int .i64 (allAt S k)) (.int .i64 (s : Int)) g = some (.int .i64 ((bitsP (RightS S (nthU S k)) S.ns &&& s : Nat) : Int), g) := fun other => r_and (hlt k) (by omega)
    by_cases c : bitsP (RightS S (nthU S k)) S.ns &&& s = s
    · have c' : ((bitsP (RightS S (nthU S k)) S.ns &&& s : Nat) : Int) = (s : Int) := by rw [c]
      have hd : decide (CanB S s) = true := decide_eq_true (hc.1 ⟨k, hk, c⟩)
      simp only [rn0, rn1, rn2, rn3, rn4, rn5, rn6, rn7, rn8, if_true, if_false, Nat.le_refl, true_and, and_true, decide_true, decide_false, Bool.not_true, Bool.not_false, reduceIte, Nat.reduceEqDiff, Nat.reduceAdd, Nat.reduceMul, Nat.reduceSub, Nat.reduceLeDiff, Nat.reduceLT, p0, p1, p5, Cells.len ha, hk', Cells.idx ha hk, la, p_and, hand, valN_tmp, Nat.reduceLT, c', hd]
    · have c' : ¬ ((bitsP (RightS S (nthU S k)) S.ns &&& s : Nat) : Int) = (s : Int) := by omega
      simp only [rn0, rn1, rn2, rn3, rn4, rn5, rn6, rn7, rn8, if_true, if_false, Nat.le_refl, true_and, and_true, decide_true, decide_false, Bool.not_true, Bool.not_false, reduceIte, Nat.reduceEqDiff, Nat.reduceAdd, Nat.reduceMul, Nat.reduceSub, Nat.reduceLeDiff, Nat.reduceLT, p0, p1, p5, Cells.len ha, hk', Cells.idx ha hk, la, p_and, hand, valN_tmp, Nat.reduceLT, c', hw]
      intro i hi
      by_cases e : i = k
      · subst e; exact c
      · exact he i (by omega)
  · rintro f g ms ⟨he, rfl, rfl, p0, p1, p5⟩
    have hd : decide (CanB S s) = false := decide_eq_false fun e => by obtain ⟨i, h1, h2⟩ := hc.2 e; exact he i h1 h2
    simp only [rn0, rn1, rn2, rn3, rn4, rn5, rn6, rn7, rn8, if_true, if_false, Nat.le_refl, true_and, and_true, decide_true, decide_false, Bool.not_true, Bool.not_false, reduceIte, Nat.reduceEqDiff, Nat.reduceAdd, Nat.reduceMul, Nat.reduceSub, Nat.reduceLeDiff, Nat.reduceLT, p0, p1, p5, Cells.len ha, Int.lt_irrefl, hd]
def s57 : SCode := (.seq (.ops [⟨(some 2), none, .box (T 0)⟩, ⟨(some 4), none, .mov (.const (.int .i64 (0)))⟩]) (.seq (.seq (.ops [⟨(some 5), none, .mov (.const (.int .i64 (0)))⟩]) (.block 0 (.loop (.seq (.seq (.ops [⟨(some 6), none, .mov (T 5)⟩, ⟨(some 7), none, .fieldAddr 4 (T 2)⟩, ⟨(some 8), none, .load1 (T 7)⟩, ⟨(some 9), none, .len (T 8)⟩, ⟨(some 10), none, .int2 .lss (T 6) (T 9)⟩]) (.cond (T 10) .skip (.exit 0))) (.seq (.block 1 (.seq (.ops [⟨(some 13), none, .mov (T 1)⟩, ⟨(some 14), none, .mov (T 5)⟩, ⟨(some 15), none, .plain (.convert 3 117 (T 14)) 117⟩, ⟨(some 16), none, .plain (.binOp .shl 3 (.const (.int .i64 (2))) (T 15) 117) 3⟩, ⟨(some 17), none, .int2 .sub (T 16) (.const (.int .i64 (1)))⟩, ⟨(some 18), none, .call (.func 106) [(T 13), (T 17)]⟩, ⟨(some 19), none, .not (T 18)⟩]) (.cond (T 19) (.seq (.ops [⟨(some 20), none, .mov (T 5)⟩, ⟨(some 4), none, .mov (T 20)⟩]) .ret) .skip))) (.ops [⟨(some 11), none, .mov (T 5)⟩, ⟨(some 12), none, .int2 .add (T 11) (.const (.int .i64 (1)))⟩, ⟨(some 5), none, .mov (T 12)⟩])))))) (.seq (.ops [⟨(some 4), none, .mov (.const (.int .i64 (-1)))⟩]) .ret)))
theorem fok57 : FnOk Try.prog 57 21 s57 [.tmp 4] := ⟨Try.f57, _, Try.func57, rfl, Try.ntmps57, by kernel_rfl, by kernel_rfl⟩
theorem firstRef_c (hn : 310 ≤ n) (hr : h.next + 10 < far) {vv sv va : Value} {S : MB} (hy : BeatR h vv sv S) (hG : Good S) (ha : Ints h va (manyS S).toNat (allAt S)) :
    call n (.func (.func 57) #[] #[]) [.agg ⟨beL S vv sv⟩, va] h = some (.int .i64 (optI (firstF S) (-1)), h) := by
  obtain ⟨n, rfl⟩ : ∃ p, n = p + 1 := ⟨n - 1, by omega⟩
  obtain ⟨z0, z1, z4, z5, _⟩ := hG.sizes
  refine call_plain0 fok57 rfl rfl (by simp) rfl ?_
  have hy := hy.shut
  have ha : Ints h.shutAll va (manyS S).toNat (allAt S) := Cells.shut ha
  have hr : h.shutAll.next + 10 < far := hr
  generalize h.shutAll = h at hy ha hr
  simp only [s57, W_seq, W_ops]
  refine ops_box (cs := beL S vv sv) (by omega) rfl hy.one fun g1 hx1 => ?_
  have n1 := hx1.next
  have hy1 := hy.mono hx1.sub
  have ha1 := Cells.mono ha hx1.sub
  have r1 := hx1.row
  simp only [rn0, rn1, rn2, rn3, rn4, rn5, rn6, rn7, rn8, if_true, if_false, Nat.le_refl, true_and, and_true, decide_true, decide_false, Bool.not_true, Bool.not_false, reduceIte, Nat.reduceEqDiff, Nat.reduceAdd, Nat.reduceMul, Nat.reduceSub, Nat.reduceLeDiff, Nat.reduceLT]
  refine W_loop S.ns (fun k f g ms => (∀ i, i < k → ¬ blkS S i) ∧ g = g1 ∧ ms = [] ∧ f 1 = va ∧ f 2 = .pointer (some ⟨h.next, 0, none⟩) ∧ f 5 = .int .i64 (k : Int)) (by simp; omega) ?_ ?_ ?_
  · simp only [rn0, rn1, rn2, rn3, rn4, rn5, rn6, rn7, rn8, if_true, if_false, Nat.le_refl, true_and, and_true, decide_true, decide_false, Bool.not_true, Bool.not_false, reduceIte, Nat.reduceEqDiff, Nat.reduceAdd, Nat.reduceMul, Nat.reduceSub, Nat.reduceLeDiff, Nat.reduceLT]
    first | exact ⟨fun i hi => absurd hi (Nat.not_lt_zero _), rfl⟩ | exact fun i hi => absurd hi (Nat.not_lt_zero _)
  · rintro k f g ms hk ⟨he, rfl, rfl, p1, p2, p5⟩
    have hk' : (k : Int) < (S.ns : Int) := by omega
    have hw : wrapF .i64 ((k : Int) + 1) = ((k + 1 : Nat) : Int) := by rw [wrap_in (by omega) (by omega)]; rfl
    have hpw : (2 ^ (k + 1) : Nat) ≤ 2 ^ S.ns := Nat.pow_le_pow_right (by omega) (by omega)
    have hs5 : (2 ^ S.ns : Nat) ≤ 2 ^ 5 := Nat.pow_le_pow_right (by omega) z5
    have hp0 : 0 < (2 ^ (k + 1) : Nat) := Nat.pow_pos (by omega)
    obtain ⟨s, hsd⟩ : ∃ s, s = 2 ^ (k + 1) - 1 := ⟨_, rfl⟩
    have hw1 : wrapF .i64 (((2 ^ (k + 1) : Nat) : Int) - 1) = (s : Int) := by
      generalize (2 ^ (k + 1) : Nat) = z at hpw hp0 hsd
      rw [wrap_in (by omega) (by omega)]; omega
    have ec := canRef_c (n := n) (h := g) (s := s) (by omega) hG ha1 (by omega)
    have hcb := can_blk hk
    rw [← hsd] at hcb
    by_cases hb : blkS S k
    · have hc : ¬ CanB S s := fun q => hcb.1 q hb
      have hN : firstF S = some k := fstP_at hk he hb
      have q3 : optI (firstF S) (-1) = (k : Int) := by rw [hN]; rfl
      rw [decide_eq_false hc] at ec
      rw [q3]
      simp only [rn0, rn1, rn2, rn3, rn4, rn5, rn6, rn7, rn8, if_true, if_false, Nat.le_refl, true_and, and_true, decide_true, decide_false, Bool.not_true, Bool.not_false, reduceIte, Nat.reduceEqDiff, Nat.reduceAdd, Nat.reduceMul, Nat.reduceSub, Nat.reduceLeDiff, Nat.reduceLT, p1, p2, p5, r1.ld, beg, Nat.zero_add, Cells.len hy1.s, hk', p_uint, r_conv (k := k) (by omega), r_shl2 (k := k) (by omega), valN_tmp, valN_const, Nat.reduceLT, hw1, ec, hw]
    · rw [decide_eq_true (hcb.2 hb)] at ec
      simp only [rn0, rn1, rn2, rn3, rn4, rn5, rn6, rn7, rn8, if_true, if_false, Nat.le_refl, true_and, and_true, decide_true, decide_false, Bool.not_true, Bool.not_false, reduceIte, Nat.reduceEqDiff, Nat.reduceAdd, Nat.reduceMul, Nat.reduceSub, Nat.reduceLeDiff, Nat.reduceLT, p1, p2, p5, r1.ld, beg, Nat.zero_add, Cells.len hy1.s, hk', p_uint, r_conv (k := k) (by omega), r_shl2 (k := k) (by omega), valN_tmp, valN_const, Nat.reduceLT, hw1, ec, hw]
      intro i hi
      by_cases e : i = k
      · rw [e]; exact hb
      · exact he i (by omega)
  · rintro f g ms ⟨he, rfl, rfl, p1, p2, p5⟩
    have hN : firstF S = none := fstP_none.2 he
    have q3 : optI (firstF S) (-1) = -1 := by rw [hN]; rfl
    rw [q3]
    simp only [rn0, rn1, rn2, rn3, rn4, rn5, rn6, rn7, rn8, if_true, if_false, Nat.le_refl, true_and, and_true, decide_true, decide_false, Bool.not_true, Bool.not_false, reduceIte, Nat.reduceEqDiff, Nat.reduceAdd, Nat.reduceMul, Nat.reduceSub, Nat.reduceLeDiff, Nat.reduceLT, p1, p2, p5, r1.ld, beg, Nat.zero_add, Cells.len hy1.s, Int.lt_irrefl]
def s56 : SCode := (.seq (.ops [⟨(some 2), none, .box (T 0)⟩, ⟨(some 4), none, .mov (.const (.slice none 0 0))⟩]) (.seq (.ops [⟨(some 8), none, .loadN 5 (T 2)⟩, ⟨(some 9), none, .call (.func 75) [(T 8)]⟩, ⟨(some 10), none, .call (.func 77) [(T 9)]⟩, ⟨(some 5), none, .mov (T 10)⟩]) (.seq (.seq (.ops [⟨(some 6), none, .mov (.const (.int .i64 (0)))⟩]) (.block 0 (.loop (.seq (.seq (.ops [⟨(some 11), none, .mov (T 6)⟩, ⟨(some 12), none, .loadN 5 (T 2)⟩, ⟨(some 13), none, .call (.func 75) [(T 12)]⟩, ⟨(some 14), none, .int2 .leq (T 11) (T 13)⟩]) (.cond (T 14) .skip (.exit 0))) (.seq (.block 1 (.seq (.ops [⟨(some 17), none, .mov (T 6)⟩, ⟨(some 18), none, .call (.func 77) [(T 17)]⟩, ⟨(some 7), none, .mov (T 18)⟩]) (.seq (.ops [⟨(some 19), none, .mov (T 7)⟩, ⟨(some 20), none, .mov (T 5)⟩, ⟨(some 21), none, .call (.func 76) [(T 19), (T 20)]⟩, ⟨(some 22), none, .mov (T 21)⟩, ⟨(some 23), (some (22, true)), .mov (T 1)⟩, ⟨(some 24), (some (22, true)), .loadN 5 (T 2)⟩, ⟨(some 25), (some (22, true)), .call (.func 75) [(T 24)]⟩, ⟨(some 26), (some (22, true)), .mov (T 6)⟩, ⟨(some 27), (some (22, true)), .plain (.binOp .andNot 3 (T 25) (T 26) 3) 3⟩, ⟨(some 28), (some (22, true)), .call (.func 106) [(T 23), (T 27)]⟩, ⟨(some 29), none, .pick (T 22) (T 28) (.const (.bool false))⟩]) (.cond (T 29) (.ops [⟨(some 30), none, .mov (T 7)⟩, ⟨(some 5), none, .mov (T 30)⟩]) .skip)))) (.ops [⟨(some 15), none, .mov (T 6)⟩, ⟨(some 16), none, .int2 .add (T 15) (.const (.int .i64 (1)))⟩, ⟨(some 6), none, .mov (T 16)⟩])))))) (.seq (.ops [⟨(some 31), none, .mov (T 5)⟩, ⟨(some 4), none, .mov (T 31)⟩]) .ret))))
theorem fok56 : FnOk Try.prog 56 32 s56 [.tmp 4] := ⟨Try.f56, _, Try.func56, rfl, Try.ntmps56, by kernel_rfl, by kernel_rfl⟩
set_option maxHeartbeats 2000000 in
theorem leaveRef_c (hn : 1100 ≤ n) (hr : h.next + 4000 < far) (hfl : h.floor ≤ h.next) {vv sv va : Value} {S : MB} (hy : BeatR h vv sv S) (hG : Good S) (ha : Ints h va (manyS S).toNat (allAt S)) :
    ∃ v h', call n (.func (.func 56) #[] #[]) [.agg ⟨beL S vv sv⟩, va] h = some (v, h') ∧ Ints h' v (leaveS S).length (atL (leaveS S)) ∧ Sub All h h' ∧ h.next ≤ h'.next ∧ h'.next ≤ h.next + 2000 ∧ h'.floor = h.floor := by
  obtain ⟨n, rfl⟩ : ∃ p, n = p + 1 := ⟨n - 1, by omega⟩
  obtain ⟨z0, z1, z4, z3, _⟩ := hG.sizes
  have hs5 : (2 ^ S.ns : Nat) ≤ 2 ^ 5 := Nat.pow_le_pow_right (by omega) z3
  have hp0 : 0 < (2 ^ S.ns : Nat) := Nat.pow_pos (by omega)
  obtain ⟨Fu, hFu⟩ : ∃ F, F = 2 ^ S.ns - 1 := ⟨_, rfl⟩
  refine call_any0 fok56 rfl rfl (by simp) ?_
  simp only [s56, W_seq, W_ops]
  refine ops_box (cs := beL S vv sv) (by omega) rfl hy.one fun g1 hx1 => ?_
  have n1 := hx1.next
  have f1 := hx1.floor
  have hy1 := hy.mono hx1.sub
  have x1 := hx1.row.whole (n := 5) rfl
  have ef1 := full_c (n := n) (h := g1) (by omega) (by omega) hy1 (by omega)
  rw [← hFu] at ef1
  obtain ⟨v0, g2, eb0, hv0, ho0, n2, u2, f2⟩ := bits_c (n := n) (h := g1) (b := Fu) (B := S.ns) (by omega) (by omega) (by omega) (by omega) (by omega)
  have r2 : Sub All h g2 := hx1.sub.trans (AHeap.subOf ho0)
  simp only [rn0, rn1, rn2, rn3, rn4, rn5, rn6, rn7, rn8, if_true, if_false, Nat.le_refl, true_and, and_true, decide_true, decide_false, Bool.not_true, Bool.not_false, reduceIte, Nat.reduceEqDiff, Nat.reduceAdd, Nat.reduceMul, Nat.reduceSub, Nat.reduceLeDiff, Nat.reduceLT, x1, ef1, eb0]
  refine W_loop (2 ^ S.ns) (fun k f g ms => (∃ v l, BestK S k l ∧ Ints g v l.length (atL l) ∧ f 5 = v ∧ Sub All g1 g ∧ g.floor = h.floor ∧ h.next < g.next ∧ g.next ≤ h.next + 51 + 50 * k) ∧ ms = [] ∧ f 1 = va ∧ f 2 = .pointer (some ⟨h.next, 0, none⟩) ∧ f 6 = .int .i64 (k : Int)) (by simp; omega) ?_ ?_ ?_
  · have hb0 : BestK S 0 (pickL (Bit Fu) S.ns) := ⟨⟨Fu, by omega, by
      obtain ⟨t, ht⟩ := List.exists_mem_of_ne_nil _ (allE_ne hG)
      refine (can_off z3).2 ⟨t, ht, fun x hx _ => ?_⟩
      rw [bit_test, hFu, Nat.testBit_two_pow_sub_one]
      simp [hx], rfl⟩, fun b hb => by omega⟩
    simp only [rn0, rn1, rn2, rn3, rn4, rn5, rn6, rn7, rn8, if_true, if_false, Nat.le_refl, true_and, and_true, decide_true, decide_false, Bool.not_true, Bool.not_false, reduceIte, Nat.reduceEqDiff, Nat.reduceAdd, Nat.reduceMul, Nat.reduceSub, Nat.reduceLeDiff, Nat.reduceLT]
    first | exact ⟨⟨_, _, hb0, hv0, rfl, AHeap.subOf ho0, by omega, by omega, by omega⟩, rfl⟩ | exact ⟨_, _, hb0, hv0, rfl, AHeap.subOf ho0, by omega, by omega, by omega⟩
  · rintro k f g ms hk ⟨⟨v, l, hbest, hv, p5, sg, fg, ug, ng⟩, rfl, p1, p2, p6⟩
    have hk' : (k : Int) ≤ (Fu : Int) := by omega
    have hw : wrapF .i64 ((k : Int) + 1) = ((k + 1 : Nat) : Int) := by rw [wrap_in (by omega) (by omega)]; rfl
    have hyg := hy1.mono sg
    have xg := (hx1.row.mono sg).whole (n := 5) rfl
    have efg := full_c (n := n) (h := g) (by omega) (by omega) hyg (by omega)
    rw [← hFu] at efg
    obtain ⟨bs, g3, eb3, hb3, ho3, n3, u3, f3⟩ := bits_c (n := n) (h := g) (b := k) (B := S.ns) (by omega) (by omega) (by omega) hk (by omega)
    have s3 : Sub All g g3 := AHeap.subOf ho3
    have hv3 := Cells.mono hv s3
    have hy3 := hyg.mono s3
    have x3 := ((hx1.row.mono sg).mono s3).whole (n := 5) rfl
    have ef3 := full_c (n := n) (h := g3) (by omega) (by omega) hy3 (by omega)
    rw [← hFu] at ef3
    have hpl := pick_len (p := Bit k) S.ns
    have hll : l.length ≤ 5 := by
      obtain ⟨⟨b, _, _, e⟩, _⟩ := hbest
      rw [e]; have := pick_len (p := Bit b) S.ns; omega
    have esh := shorter_c (n := n) (h := g3) (by omega) (by omega) (by omega) hb3 hv3
    have hoff := offN_le (a := Fu) (b := k) (by omega)
    have ec := canRef_c (n := n) (h := g3) (s := offN Fu k) (by omega) hG (Cells.mono ha ((hx1.sub.trans sg).trans s3)) (by omega)
    by_cases c1 : Shortlex (atL (pickL (Bit k) S.ns)) (pickL (Bit k) S.ns).length (atL l) l.length
    · rw [decide_eq_true c1] at esh
      by_cases c2 : CanB S (offN Fu k)
      · rw [decide_eq_true c2] at ec
        simp only [rn0, rn1, rn2, rn3, rn4, rn5, rn6, rn7, rn8, if_true, if_false, Nat.le_refl, true_and, and_true, decide_true, decide_false, Bool.not_true, Bool.not_false, reduceIte, Nat.reduceEqDiff, Nat.reduceAdd, Nat.reduceMul, Nat.reduceSub, Nat.reduceLeDiff, Nat.reduceLT, p1, p2, p5, p6, xg, efg, hk', eb3, esh, x3, ef3, p_andNot, r_andNot (a := Fu) (b := k) (by omega), valN_tmp, Nat.reduceLT, ec, hw]
        refine ⟨_, _, ⟨⟨k, hk, by rw [← hFu]; exact c2, rfl⟩, fun b hb hc => ?_⟩, hb3, rfl, sg.trans s3, by omega, by omega, by omega⟩
        by_cases e : b = k
        · subst e; exact sl_irr
        · exact fun hs => hbest.2 b (by omega) hc (sl_trans hs c1)
      · rw [decide_eq_false c2] at ec
        simp only [rn0, rn1, rn2, rn3, rn4, rn5, rn6, rn7, rn8, if_true, if_false, Nat.le_refl, true_and, and_true, decide_true, decide_false, Bool.not_true, Bool.not_false, reduceIte, Nat.reduceEqDiff, Nat.reduceAdd, Nat.reduceMul, Nat.reduceSub, Nat.reduceLeDiff, Nat.reduceLT, p1, p2, p5, p6, xg, efg, hk', eb3, esh, x3, ef3, p_andNot, r_andNot (a := Fu) (b := k) (by omega), valN_tmp, Nat.reduceLT, ec, hw]
        refine ⟨_, _, ⟨hbest.1, fun b hb hc => ?_⟩, hv3, rfl, sg.trans s3, by omega, by omega, by omega⟩
        by_cases e : b = k
        · subst e; rw [← hFu] at hc; exact absurd hc c2
        · exact hbest.2 b (by omega) hc
    · rw [decide_eq_false c1] at esh
      simp only [rn0, rn1, rn2, rn3, rn4, rn5, rn6, rn7, rn8, if_true, if_false, Nat.le_refl, true_and, and_true, decide_true, decide_false, Bool.not_true, Bool.not_false, reduceIte, Nat.reduceEqDiff, Nat.reduceAdd, Nat.reduceMul, Nat.reduceSub, Nat.reduceLeDiff, Nat.reduceLT, p1, p2, p5, p6, xg, efg, hk', eb3, esh, x3, ef3, hw]
      refine ⟨_, _, ⟨hbest.1, fun b hb hc => ?_⟩, hv3, rfl, sg.trans s3, by omega, by omega, by omega⟩
      by_cases e : b = k
      · subst e; exact c1
      · exact hbest.2 b (by omega) hc
  · rintro f g ms ⟨⟨v, l, hbest, hv, p5, sg, fg, ug, ng⟩, rfl, p1, p2, p6⟩
    have hyg := hy1.mono sg
    have xg := (hx1.row.mono sg).whole (n := 5) rfl
    have efg := full_c (n := n) (h := g) (by omega) (by omega) hyg (by omega)
    rw [← hFu] at efg
    have hk' : ¬ ((2 ^ S.ns : Nat) : Int) ≤ (Fu : Int) := by omega
    have hl := best_all hG hbest
    subst hl
    simp only [rn0, rn1, rn2, rn3, rn4, rn5, rn6, rn7, rn8, if_true, if_false, Nat.le_refl, true_and, and_true, decide_true, decide_false, Bool.not_true, Bool.not_false, reduceIte, Nat.reduceEqDiff, Nat.reduceAdd, Nat.reduceMul, Nat.reduceSub, Nat.reduceLeDiff, Nat.reduceLT, p1, p2, p5, p6, xg, efg, hk']
    exact ⟨hv, hx1.sub.trans sg, by omega, by omega, by omega⟩
def s8 : SCode := (.seq (.ops [⟨(some 1), none, .box (T 0)⟩, ⟨(some 2), none, .mov (.const (.bool false))⟩]) (.seq (.seq (.ops [⟨(some 10), none, .loadN 5 (T 1)⟩, ⟨(some 11), none, .call (.func 23) [(T 10)]⟩, ⟨(some 12), none, .not (T 11)⟩]) (.cond (T 12) (.seq (.ops [⟨(some 13), none, .call (.func 24) []⟩, ⟨(some 2), none, .mov (T 13)⟩]) .ret) .skip)) (.seq (.ops [⟨(some 15), none, .loadN 5 (T 1)⟩, ⟨(some 16), none, .call (.func 26) [(T 15)]⟩, ⟨(some 17), none, .call (.func 53) [(T 16)]⟩, ⟨(some 14), none, .mov (T 17)⟩, ⟨(some 18), none, .extract 0 (T 14)⟩, ⟨(some 19), none, .extract 1 (T 14)⟩, ⟨(some 3), none, .mov (T 18)⟩, ⟨(some 4), none, .mov (T 19)⟩]) (.seq (.ops [⟨(some 21), none, .loadN 5 (T 1)⟩, ⟨(some 22), none, .call (.func 26) [(T 21)]⟩, ⟨(some 23), none, .call (.func 54) [(T 22)]⟩, ⟨(some 20), none, .mov (T 23)⟩, ⟨(some 24), none, .extract 0 (T 20)⟩, ⟨(some 25), none, .extract 1 (T 20)⟩, ⟨(some 5), none, .mov (T 24)⟩, ⟨(some 6), none, .mov (T 25)⟩]) (.seq (.seq (.ops [⟨(some 26), none, .loadN 5 (T 1)⟩, ⟨(some 27), none, .call (.func 30) [(T 26)]⟩, ⟨(some 7), none, .mov (T 27)⟩]) (.seq (.ops [⟨(some 28), none, .mov (T 7)⟩, ⟨(some 29), none, .int2 .neq (T 28) (.const (.int .i64 (0)))⟩]) (.cond (T 29) (.seq (.ops [⟨(some 30), none, .mov (T 4)⟩, ⟨(some 31), none, .mov (T 7)⟩, ⟨(some 32), none, .int2 .eql (T 30) (T 31)⟩, ⟨(some 33), none, .mov (T 32)⟩, ⟨(some 34), (some (33, true)), .mov (T 3)⟩, ⟨(some 35), (some (33, true)), .int2 .eql (T 34) (.const (.int .i64 (0)))⟩, ⟨(some 36), none, .pick (T 33) (T 35) (.const (.bool false))⟩, ⟨(some 37), none, .mov (T 36)⟩, ⟨(some 38), (some (37, true)), .mov (T 6)⟩, ⟨(some 39), (some (37, true)), .mov (T 7)⟩, ⟨(some 40), (some (37, true)), .int2 .eql (T 38) (T 39)⟩, ⟨(some 41), none, .pick (T 37) (T 40) (.const (.bool false))⟩, ⟨(some 42), none, .mov (T 41)⟩, ⟨(some 43), (some (42, true)), .mov (T 5)⟩, ⟨(some 44), (some (42, true)), .len (T 43)⟩, ⟨(some 45), (some (42, true)), .int2 .eql (T 44) (.const (.int .i64 (0)))⟩, ⟨(some 46), none, .pick (T 42) (T 45) (.const (.bool false))⟩, ⟨(some 47), none, .mov (T 46)⟩, ⟨(some 48), (some (47, true)), .call (.func 24) []⟩, ⟨(some 49), none, .pick (T 47) (T 48) (.const (.bool false))⟩, ⟨(some 2), none, .mov (T 49)⟩]) .ret) .skip))) (.seq (.ops [⟨(some 50), none, .loadN 5 (T 1)⟩, ⟨(some 51), none, .call (.func 55) [(T 50)]⟩, ⟨(some 8), none, .mov (T 51)⟩]) (.seq (.seq (.ops [⟨(some 52), none, .mov (T 6)⟩, ⟨(some 53), none, .int2 .neq (T 52) (.const (.int .i64 (0)))⟩, ⟨(some 54), none, .mov (T 53)⟩, ⟨(some 55), (some (54, false)), .mov (T 5)⟩, ⟨(some 56), (some (54, false)), .loadN 5 (T 1)⟩, ⟨(some 57), (some (54, false)), .mov (T 8)⟩, ⟨(some 58), (some (54, false)), .call (.func 56) [(T 56), (T 57)]⟩, ⟨(some 59), (some (54, false)), .call (.func 50) [(T 55), (T 58)]⟩, ⟨(some 60), (some (54, false)), .not (T 59)⟩, ⟨(some 61), none, .pick (T 54) (.const (.bool true)) (T 60)⟩]) (.cond (T 61) (.seq (.ops [⟨(some 2), none, .mov (.const (.bool false))⟩]) .ret) .skip)) (.seq (.ops [⟨(some 62), none, .loadN 5 (T 1)⟩, ⟨(some 63), none, .mov (T 8)⟩, ⟨(some 64), none, .call (.func 57) [(T 62), (T 63)]⟩, ⟨(some 9), none, .mov (T 64)⟩]) (.seq (.seq (.ops [⟨(some 65), none, .mov (T 9)⟩, ⟨(some 66), none, .int2 .lss (T 65) (.const (.int .i64 (0)))⟩]) (.cond (T 66) (.seq (.ops [⟨(some 67), none, .mov (T 4)⟩, ⟨(some 68), none, .int2 .eql (T 67) (.const (.int .i64 (7)))⟩, ⟨(some 69), none, .mov (T 68)⟩, ⟨(some 70), (some (69, true)), .mov (T 3)⟩, ⟨(some 71), (some (69, true)), .int2 .eql (T 70) (.const (.int .i64 (0)))⟩, ⟨(some 72), none, .pick (T 69) (T 71) (.const (.bool false))⟩, ⟨(some 73), none, .mov (T 72)⟩, ⟨(some 74), (some (73, true)), .call (.func 24) []⟩, ⟨(some 75), none, .pick (T 73) (T 74) (.const (.bool false))⟩, ⟨(some 2), none, .mov (T 75)⟩]) .ret) .skip)) (.seq (.ops [⟨(some 76), none, .mov (T 4)⟩, ⟨(some 77), none, .int2 .eql (T 76) (.const (.int .i64 (0)))⟩, ⟨(some 78), none, .mov (T 77)⟩, ⟨(some 79), (some (78, true)), .mov (T 3)⟩, ⟨(some 80), (some (78, true)), .mov (T 9)⟩, ⟨(some 81), (some (78, true)), .int2 .eql (T 79) (T 80)⟩, ⟨(some 82), none, .pick (T 78) (T 81) (.const (.bool false))⟩, ⟨(some 83), none, .mov (T 82)⟩, ⟨(some 84), (some (83, true)), .call (.func 24) []⟩, ⟨(some 85), none, .pick (T 83) (T 84) (.const (.bool false))⟩, ⟨(some 2), none, .mov (T 85)⟩]) .ret))))))))))
theorem fok8 : FnOk Try.prog 8 86 s8 [.tmp 2] := ⟨Try.f8, _, Try.func8, rfl, Try.ntmps8, by kernel_rfl, by kernel_rfl⟩
set_option maxHeartbeats 2000000 in
theorem leavesL_c (hn : 1500 ≤ n) (hr : h.next + 400000 < far) (hfl : h.floor ≤ h.next) {vv sv : Value} {S : MB} (hy : BeatR h vv sv S) :
    ∃ v h', call n (.func (.func 8) #[] #[]) [.agg ⟨beL S vv sv⟩] h = some (v, h') ∧ v = .bool true := by
  obtain ⟨n, rfl⟩ : ∃ p, n = p + 1 := ⟨n - 1, by omega⟩
  refine call_any0 fok8 rfl rfl (by simp) ?_
  simp only [s8, W_seq, W_ops]
  refine ops_box (cs := beL S vv sv) (by omega) rfl hy.one fun g1 hx1 => ?_
  have n1 := hx1.next
  have f1 := hx1.floor
  have hy1 := hy.mono hx1.sub
  have r1 := hx1.row
  have et := thin_c (n := n) (h := g1) (by omega) (by omega) hy1
  by_cases hth : ThinS S
  case neg =>
    simp only [rn0, rn1, rn2, rn3, rn4, rn5, rn6, rn7, rn8, if_true, if_false, Nat.le_refl, true_and, and_true, decide_true, decide_false, Bool.not_true, Bool.not_false, reduceIte, Nat.reduceEqDiff, Nat.reduceAdd, Nat.reduceMul, Nat.reduceSub, Nat.reduceLeDiff, Nat.reduceLT, r1.whole (n := 5) rfl, et, hth, awake_c (n := n) (h := g1) (by omega)]
  obtain ⟨vv2, sv2, g2, e2, hy2, o2, u2, m2, f2⟩ := beatL_c (n := n) (h := g1) (by omega) (by omega) (by omega) hy1 hth
  have sub2 : Sub All g1 g2 := AHeap.subOf o2
  have ef := firstP_c (n := n) (h := g2) (by omega) (by omega) hy2 hth
  have r2 := r1.mono sub2
  obtain ⟨vv3, sv3, g3, e3, hy3, o3, u3, m3, f3⟩ := beatL_c (n := n) (h := g2) (by omega) (by omega) (by omega) (hy1.mono sub2) hth
  have sub3 : Sub All g2 g3 := AHeap.subOf o3
  obtain ⟨lv, g4, el, o4, u4, m4, f4, hL⟩ := leaveP_c (n := n) (h := g3) (by omega) (by omega) (by omega) hy3 hth
  have sub4 : Sub All g3 g4 := AHeap.subOf o4
  have s14 : Sub All g1 g4 := sub2.trans (sub3.trans sub4)
  have hy4 := hy1.mono s14
  have r4 := r1.mono s14
  have efl := faultL_c (n := n) (h := g4) (by omega) (by omega) hy4 hth
  by_cases hf : faultS S = 0
  case neg =>
    have haw := awake_c (n := n) (h := g4) (by omega)
    have q1 : firstV S = 0 := if_neg hf
    have q2 : firstE S = faultS S := if_neg hf
    rw [q1, q2] at ef
    rcases hL with ⟨_, rfl⟩ | ⟨h0, _⟩
    · simp only [rn0, rn1, rn2, rn3, rn4, rn5, rn6, rn7, rn8, if_true, if_false, Nat.le_refl, true_and, and_true, decide_true, decide_false, Bool.not_true, Bool.not_false, reduceIte, Nat.reduceEqDiff, Nat.reduceAdd, Nat.reduceMul, Nat.reduceSub, Nat.reduceLeDiff, Nat.reduceLT, r1.whole (n := 5) rfl, et, hth, e2, ef, ex0, ex1, r2.whole (n := 5) rfl, e3, el, r4.whole (n := 5) rfl, efl, hf, len_slice, Int.natCast_zero, haw]
    · exact absurd h0 hf
  rcases hL with ⟨h0, _⟩ | ⟨_, l, rfl, hl, _⟩
  · exact absurd hf h0
  have hG := good_of hf
  have hll := leaveS_len hG
  obtain ⟨_, _, _, z5, _⟩ := hG.sizes
  obtain ⟨va, g5, ea, ha, o5, u5, m5, f5⟩ := all_c (n := n) (h := g4) (by omega) (by omega) (by omega) hy4 hG
  have sub5 : Sub All g4 g5 := AHeap.subOf o5
  have hy5 := hy4.mono sub5
  have r5 := r4.mono sub5
  obtain ⟨vb, g6, eb, hb, sub6, u6, m6, f6⟩ := leaveRef_c (n := n) (h := g5) (by omega) (by omega) (by omega) hy5 hG ha
  have hy6 := hy5.mono sub6
  have r6 := r5.mono sub6
  have es := same_c (n := n) (h := g6) (by omega) (by omega) (Cells.mono (Cells.mono hl sub5) sub6) hb
  have hs : ((leaveS S).length = (leaveS S).length ∧ ∀ k, k < (leaveS S).length → atL (leaveS S) k = atL (leaveS S) k) := ⟨rfl, fun _ _ => rfl⟩
  rw [decide_eq_true hs] at es
  have er := firstRef_c (n := n) (h := g6) (by omega) (by omega) hy6 hG (Cells.mono ha sub6)
  have haw := awake_c (n := n) (h := g6) (by omega)
  have q1 : firstV S = optI (firstF S) 0 := if_pos hf
  have q2 : firstE S = if firstF S = none then 7 else 0 := if_pos hf
  rw [q1, q2] at ef
  cases hN : firstF S with
  | none =>
    rw [hN] at ef er
    have hm : optI none (-1) < 0 := by decide
    have hm1 : optI none 0 = 0 := rfl
    simp only [rn0, rn1, rn2, rn3, rn4, rn5, rn6, rn7, rn8, if_true, if_false, Nat.le_refl, true_and, and_true, decide_true, decide_false, Bool.not_true, Bool.not_false, reduceIte, Nat.reduceEqDiff, Nat.reduceAdd, Nat.reduceMul, Nat.reduceSub, Nat.reduceLeDiff, Nat.reduceLT, r1.whole (n := 5) rfl, et, hth, e2, ef, ex0, ex1, r2.whole (n := 5) rfl, e3, el, r4.whole (n := 5) rfl, efl, hf, ea, r5.whole (n := 5) rfl, eb, es, r6.whole (n := 5) rfl, er, hm, hm1, haw]
  | some v =>
    rw [hN] at ef er
    have hm : ¬ (v : Int) < 0 := by omega
    have hm1 : ∀ d, optI (some v) d = (v : Int) := fun _ => rfl
    have hs : ¬ (some v = none) := by simp
    simp only [rn0, rn1, rn2, rn3, rn4, rn5, rn6, rn7, rn8, if_true, if_false, Nat.le_refl, true_and, and_true, decide_true, decide_false, Bool.not_true, Bool.not_false, reduceIte, Nat.reduceEqDiff, Nat.reduceAdd, Nat.reduceMul, Nat.reduceSub, Nat.reduceLeDiff, Nat.reduceLT, r1.whole (n := 5) rfl, et, hth, e2, ef, ex0, ex1, r2.whole (n := 5) rfl, e3, el, r4.whole (n := 5) rfl, efl, hf, ea, r5.whole (n := 5) rfl, eb, es, r6.whole (n := 5) rfl, er, hm1, hm, hs, haw]
end Go.Vm.Bt
