/- Texts of the proofs of this seat, put together: VatAsk2, VatBounds3, VatMoreL. -/
import Derived.Test.YtnibceeoejeimaaPk6

namespace Go.Vm.Vat
open Go.Proofs
set_option linter.unusedSimpArgs false
set_option linter.unusedVariables false
set_option maxRecDepth 10000
variable {n : Nat} {h : AHeap}
theorem tail_own {b m : Nat} (hm : 0 < m) (hm1 : m ≤ 1000) : ∃ v', sliceA 1 false h (.slice (some ⟨b, 0, none⟩) m m) (some (.int .i64 1)) none none = some (v', h) ∧
    ∀ g (a : Nat → Int), Ints g (.slice (some ⟨b, 0, none⟩) m m) m a → Ints g v' (m - 1) (fun k => a (k + 1)) := by
  have e1 : boundA 0 (some (.int .i64 1)) = some 1 := rfl
  have e2 : boundA m none = some m := rfl
  have e3 : Nat.ble 1 m = true := ble_iff.2 hm
  have e4 : Nat.ble m m = true := ble_iff.2 (Nat.le_refl _)
  have e5 : Nat.blt m unk = true := blt_iff.2 (by unfold unk; omega)
  unfold sliceA
  simp only [e1, e2, e3, e4, e5, Bool.and_self, cond_true]
  refine ⟨_, rfl, fun g a hg => ?_⟩
  by_cases h1 : m = 1
  · subst h1
    exact ⟨_, _, rfl, fun x e => by cases e; rfl, .inl rfl⟩
  · have e6 : Nat.beq m 1 = false := by
      cases hb : Nat.beq m 1 with
      | false => rfl
      | true => exact absurd (beq_iff.1 hb) h1
    obtain ⟨b', o', cap', cs, w, gr, e, h2, h3⟩ := Cells.ptr hg hm
    cases e
    rw [e6]
    refine ⟨_, _, rfl, fun x e => by cases e; rfl, .inr ⟨b, 0 + 1 * 1, cs, w, gr, rfl, h2, fun k j hk hj => ?_⟩⟩
    have := h3 (k + 1) j (by omega) hj
    rw [show 0 + 1 * 1 + k * 1 + j = 0 + (k + 1) * 1 + j by omega]
    exact this
theorem minN_ask {f : Nat → Nat} : ∀ m, minN ((f 0 : Nat) : Int) (fun i => ((f (i + 1) : Nat) : Int)) m = (((askN f m).2 : Nat) : Int)
  | 0 => rfl
  | m + 1 => by
    have ih := minN_ask (f := f) m
    simp only [minN, askN, ih]
    by_cases c : f (m + 1) < (askN f m).2
    · rw [if_pos c]; show _ = ((f (m + 1) : Nat) : Int); omega
    · rw [if_neg c]; omega
/-- what a sample of each vat leaves -/
noncomputable def leavesF (Y : MY) (v : Nat) : Nat := mostN (blY Y v) (truths Y)
/-- what Ask answers -/
noncomputable def askV (Y : MY) : Int × Int × Int := open Classical in
  if faultN Y ≠ 0 then (0, 0, faultN Y) else if truths Y = [] then (0, 0, 11) else if Y.nv = 0 then (0, 0, 7) else ((((askN (leavesF Y) (Y.nv - 1)).1 : Nat) : Int), (((askN (leavesF Y) (Y.nv - 1)).2 : Nat) : Int), 0)
def s95 : SCode := (.seq (.ops [⟨(some 4), none, .mov (.const (.int .i64 (0)))⟩]) (.seq (.seq (.ops [⟨(some 6), none, .mov (T 0)⟩, ⟨(some 7), none, .len (T 6)⟩, ⟨(some 8), none, .mov (.const (.int .i64 (0)))⟩]) (.block 0 (.loop (.seq (.ops [⟨(some 9), none, .int2 .lss (T 8) (T 7)⟩]) (.seq (.cond (T 9) .skip (.exit 0)) (.seq (.block 1 (.seq (.ops [⟨(some 10), none, .mov (T 8)⟩, ⟨(some 5), none, .mov (T 10)⟩]) (.seq (.ops [⟨(some 11), none, .mov (T 1)⟩, ⟨(some 12), none, .mov (T 0)⟩, ⟨(some 13), none, .mov (T 5)⟩, ⟨(some 14), none, .idxSl 1 (T 12) (T 13)⟩, ⟨(some 15), none, .load1 (T 14)⟩, ⟨(some 16), none, .int2 .eql (T 11) (T 15)⟩]) (.cond (T 16) (.seq (.ops [⟨(some 17), none, .mov (T 5)⟩, ⟨(some 4), none, .mov (T 17)⟩]) .ret) .skip)))) (.ops [⟨(some 18), none, .int2 .add (T 8) (.const (.int .i64 (1)))⟩, ⟨(some 8), none, .mov (T 18)⟩]))))))) (.seq (.ops [⟨(some 4), none, .mov (.const (.int .i64 (-1)))⟩]) .ret)))
theorem fok95 : FnOk Try.prog 95 19 s95 [.tmp 4] := ⟨Try.f95, _, Try.func95, rfl, Try.ntmps95, by kernel_rfl, by kernel_rfl⟩
theorem indexI_c (hn : 3000 ≤ n) {v : Value} {m : Nat} {a : Nat → Int} (hi : Ints h v m a) (hm : m ≤ 2000) (x : Int) :
    call n (.func (.func 95) #[] #[]) [v, .int .i64 x] h = some (.int .i64 (findFrom (fun k => x = a k) m 0), h) := by
  obtain ⟨n, rfl⟩ : ∃ p, n = p + 1 := ⟨n - 1, by omega⟩
  refine call_plain0 fok95 rfl rfl (by simp) rfl ?_
  have hi := Cells.shut hi
  generalize h.shutAll = h at hi
  simp only [rn0, rn1, rn2, rn3, rn4, rn5, rn6, rn7, rn8, if_true, if_false, Nat.le_refl, true_and, and_true, decide_true, decide_false, Bool.not_true, Bool.not_false, reduceIte, Nat.reduceEqDiff, Nat.reduceAdd, Nat.reduceMul, Nat.reduceSub, Nat.reduceLeDiff, Nat.reduceLT, s95, Cells.len hi]
  refine W_loop m (fun k f g ms => g = h ∧ ms = [] ∧ f 0 = v ∧ f 1 = .int .i64 x ∧ f 7 = .int .i64 (m : Int) ∧ f 8 = .int .i64 (k : Int) ∧ ∀ j, j < k → ¬ x = a j) (by simp; omega) ?_ ?_ ?_
  · simp only [rn0, rn1, rn2, rn3, rn4, rn5, rn6, rn7, rn8, if_true, if_false, Nat.le_refl, true_and, and_true, decide_true, decide_false, Bool.not_true, Bool.not_false, reduceIte, Nat.reduceEqDiff, Nat.reduceAdd, Nat.reduceMul, Nat.reduceSub, Nat.reduceLeDiff, Nat.reduceLT, Nat.not_lt_zero, false_implies, implies_true]
    trivial
  · rintro k f g ms hk ⟨rfl, rfl, f0, f1, f7, f8, hlt⟩
    have hk' : (k : Int) < (m : Int) := by omega
    have hw1 : wrapF .i64 ((k : Int) + 1) = ((k + 1 : Nat) : Int) := by rw [wrap_in (by omega) (by omega)]; rfl
    by_cases hkk : x = a k
    · have hf := findFrom_at (p := fun k => x = a k) hk hlt hkk
      simp only [rn0, rn1, rn2, rn3, rn4, rn5, rn6, rn7, rn8, if_true, if_false, Nat.le_refl, true_and, and_true, decide_true, decide_false, Bool.not_true, Bool.not_false, reduceIte, Nat.reduceEqDiff, Nat.reduceAdd, Nat.reduceMul, Nat.reduceSub, Nat.reduceLeDiff, Nat.reduceLT, f0, f1, f7, f8, hk', Cells.idx hi hk, Cells.ld hi hk Nat.zero_lt_one, ← hkk]
      rw [hf]
    · simp only [rn0, rn1, rn2, rn3, rn4, rn5, rn6, rn7, rn8, if_true, if_false, Nat.le_refl, true_and, and_true, decide_true, decide_false, Bool.not_true, Bool.not_false, reduceIte, Nat.reduceEqDiff, Nat.reduceAdd, Nat.reduceMul, Nat.reduceSub, Nat.reduceLeDiff, Nat.reduceLT, f0, f1, f7, f8, hk', Cells.idx hi hk, Cells.ld hi hk Nat.zero_lt_one, hkk, hw1]
      intro j hj
      by_cases e : j = k
      · subst e; exact hkk
      · exact hlt j (by omega)
  · rintro f g ms ⟨rfl, rfl, f0, f1, f7, f8, hlt⟩
    have hf := findFrom_none (p := fun k => x = a k) hlt
    simp only [rn0, rn1, rn2, rn3, rn4, rn5, rn6, rn7, rn8, if_true, if_false, Nat.le_refl, true_and, and_true, decide_true, decide_false, Bool.not_true, Bool.not_false, reduceIte, Nat.reduceEqDiff, Nat.reduceAdd, Nat.reduceMul, Nat.reduceSub, Nat.reduceLeDiff, Nat.reduceLT, f0, f1, f7, f8, Int.lt_irrefl, hf]
def s41 : SCode := (.seq (.ops [⟨(some 1), none, .box (T 0)⟩, ⟨(some 2), none, .mov (.const (.int .i64 (0)))⟩, ⟨(some 3), none, .mov (.const (.int .i64 (0)))⟩, ⟨(some 4), none, .mov (.const (.int .i64 (0)))⟩]) (.seq (.ops [⟨(some 8), none, .loadN 3 (T 1)⟩, ⟨(some 9), none, .call (.func 89) [(T 8)]⟩, ⟨(some 7), none, .mov (T 9)⟩, ⟨(some 10), none, .extract 0 (T 7)⟩, ⟨(some 11), none, .extract 1 (T 7)⟩, ⟨(some 5), none, .alloc [(.slice none 0 0), (.slice none 0 0), (.slice none 0 0), (.slice none 0 0)]⟩, ⟨none, none, .store 4 (T 5) (T 10)⟩, ⟨(some 4), none, .mov (T 11)⟩]) (.seq (.seq (.ops [⟨(some 12), none, .mov (T 4)⟩, ⟨(some 13), none, .int2 .neq (T 12) (.const (.int .i64 (0)))⟩]) (.cond (T 13) (.seq (.ops [⟨(some 14), none, .mov (T 4)⟩, ⟨(some 2), none, .mov (.const (.int .i64 (0)))⟩, ⟨(some 3), none, .mov (.const (.int .i64 (0)))⟩, ⟨(some 4), none, .mov (T 14)⟩]) .ret) .skip)) (.seq (.seq (.ops [⟨(some 15), none, .fieldAddr 0 (T 5)⟩, ⟨(some 16), none, .fieldAddr 1 (T 15)⟩, ⟨(some 17), none, .load1 (T 16)⟩, ⟨(some 18), none, .len (T 17)⟩, ⟨(some 19), none, .int2 .eql (T 18) (.const (.int .i64 (0)))⟩]) (.cond (T 19) (.seq (.ops [⟨(some 2), none, .mov (.const (.int .i64 (0)))⟩, ⟨(some 3), none, .mov (.const (.int .i64 (0)))⟩, ⟨(some 4), none, .mov (.const (.int .i64 (7)))⟩]) .ret) .skip)) (.seq (.ops [⟨(some 20), none, .loadN 4 (T 5)⟩, ⟨(some 21), none, .call (.func 93) [(T 20)]⟩, ⟨(some 6), none, .mov (T 21)⟩]) (.seq (.draw [⟨.free, ⟨(some 22), none, .mov (T 6)⟩⟩, ⟨.free, ⟨(some 23), none, .idxSl 1 (T 22) (.const (.int .i64 (0)))⟩⟩, ⟨.rd1, ⟨(some 24), none, .load1 (T 23)⟩⟩, ⟨.free, ⟨(some 25), none, .mov (T 6)⟩⟩, ⟨.rd1, ⟨(some 26), none, .slice 1 (T 25) (some (.const (.int .i64 (1)))) none none⟩⟩, ⟨.any, ⟨(some 27), none, .call (.func 94) [(T 24), (T 26)]⟩⟩, ⟨.free, ⟨(some 3), none, .mov (T 27)⟩⟩]) (.seq (.ops [⟨(some 28), none, .mov (T 6)⟩, ⟨(some 29), none, .mov (T 3)⟩, ⟨(some 30), none, .call (.func 95) [(T 28), (T 29)]⟩, ⟨(some 31), none, .mov (T 3)⟩, ⟨(some 2), none, .mov (T 30)⟩, ⟨(some 3), none, .mov (T 31)⟩, ⟨(some 4), none, .mov (.const (.int .i64 (0)))⟩]) .ret)))))))
theorem fok41 : FnOk Try.prog 41 32 s41 [.tmp 2, .tmp 3, .tmp 4] := ⟨Try.f41, _, Try.func41, rfl, Try.ntmps41, by kernel_rfl, by kernel_rfl⟩
theorem ask_c (hn : 10080 ≤ n) (hr : h.next + 900000 < far) {F V S : Value} {Y : MY} (hy : YardR h F V S Y) (hY : Thin Y) :
    call n (.func (.func 41) #[] #[]) [.agg ⟨[F, V, S]⟩] h = some (.tuple ⟨[.int .i64 (askV Y).1, .int .i64 (askV Y).2.1, .int .i64 (askV Y).2.2]⟩, h) := by
  obtain ⟨n, rfl⟩ : ∃ p, n = p + 1 := ⟨n - 1, by omega⟩
  refine call_plain0 fok41 rfl rfl (by simp) rfl ?_
  have hy := hy.shut
  have hr : h.shutAll.next + 900000 < far := hr
  have hfl : h.shutAll.floor ≤ h.shutAll.next := Nat.le_refl _
  generalize h.shutAll = h at hy hr hfl
  generalize hres : askV Y = res
  simp only [s41, W_seq, W_ops]
  refine ops_box (cs := [F, V, S]) (by omega) rfl hy.one fun g1 hx1 => ?_
  have n1 := hx1.next
  have f1 := hx1.floor
  have w1 := hx1.row.whole (n := 3) rfl
  obtain ⟨v, g2, eo, hm, ho⟩ := openTrue_c (n := n) (h := g1) (by omega) (by omega) (by omega) (hy.mono hx1.sub) hY
  have n2 := hm.next
  have u2 := hm.up
  have f2 := hm.floor
  rcases ho with ⟨hf, rfl⟩ | ⟨hf, he, rfl⟩ | ⟨hf, he, tv, rfl, htr, hlong⟩
  · have hrr : res = (0, 0, faultN Y) := by rw [← hres]; unfold askV; rw [if_pos hf]
    rw [hrr]
    simp only [rn0, rn1, rn2, rn3, rn4, rn5, rn6, rn7, rn8, if_true, if_false, Nat.le_refl, true_and, and_true, decide_true, decide_false, Bool.not_true, Bool.not_false, reduceIte, Nat.reduceEqDiff, Nat.reduceAdd, Nat.reduceMul, Nat.reduceSub, Nat.reduceLeDiff, Nat.reduceLT, w1, eo, ex0, ex1]
    refine step_new (vs := [nilS, nilS, nilS, nilS]) (by omega) (by omega) rfl (by simp only [rn0, rn1, rn2, rn3, rn4, rn5, rn6, rn7, rn8, if_true, if_false, Nat.le_refl, true_and, and_true, decide_true, decide_false, Bool.not_true, Bool.not_false, reduceIte, Nat.reduceEqDiff, Nat.reduceAdd, Nat.reduceMul, Nat.reduceSub, Nat.reduceLeDiff, Nat.reduceLT]; rfl) rfl rfl rfl fun g3 hx3 => ?_
    simp only [rn0, rn1, rn2, rn3, rn4, rn5, rn6, rn7, rn8, if_true, if_false, Nat.le_refl, true_and, and_true, decide_true, decide_false, Bool.not_true, Bool.not_false, reduceIte, Nat.reduceEqDiff, Nat.reduceAdd, Nat.reduceMul, Nat.reduceSub, Nat.reduceLeDiff, Nat.reduceLT, hf, ret_ttt]
  · have hrr : res = (0, 0, 11) := by rw [← hres]; unfold askV; rw [if_neg (by simpa using hf), if_pos he]
    rw [hrr]
    simp only [rn0, rn1, rn2, rn3, rn4, rn5, rn6, rn7, rn8, if_true, if_false, Nat.le_refl, true_and, and_true, decide_true, decide_false, Bool.not_true, Bool.not_false, reduceIte, Nat.reduceEqDiff, Nat.reduceAdd, Nat.reduceMul, Nat.reduceSub, Nat.reduceLeDiff, Nat.reduceLT, w1, eo, ex0, ex1]
    refine step_new (vs := [nilS, nilS, nilS, nilS]) (by omega) (by omega) rfl (by simp only [rn0, rn1, rn2, rn3, rn4, rn5, rn6, rn7, rn8, if_true, if_false, Nat.le_refl, true_and, and_true, decide_true, decide_false, Bool.not_true, Bool.not_false, reduceIte, Nat.reduceEqDiff, Nat.reduceAdd, Nat.reduceMul, Nat.reduceSub, Nat.reduceLeDiff, Nat.reduceLT]; rfl) rfl rfl rfl fun g3 hx3 => ?_
    simp only [rn0, rn1, rn2, rn3, rn4, rn5, rn6, rn7, rn8, if_true, if_false, Nat.le_refl, true_and, and_true, decide_true, decide_false, Bool.not_true, Bool.not_false, reduceIte, Nat.reduceEqDiff, Nat.reduceAdd, Nat.reduceMul, Nat.reduceSub, Nat.reduceLeDiff, Nat.reduceLT, ret_ttt, Int.reduceEq]
  have hG := good_of hf
  obtain ⟨z1, z2, z3⟩ := hG.sz
  have ho4 : allB oneCell [F, V, S, tv] = true := by have h1 := hy.one; have h2 := Cells.one htr; simp [allB] at h1 ⊢; simp [h1, h2]
  simp only [rn0, rn1, rn2, rn3, rn4, rn5, rn6, rn7, rn8, if_true, if_false, Nat.le_refl, true_and, and_true, decide_true, decide_false, Bool.not_true, Bool.not_false, reduceIte, Nat.reduceEqDiff, Nat.reduceAdd, Nat.reduceMul, Nat.reduceSub, Nat.reduceLeDiff, Nat.reduceLT, w1, eo, ex0, ex1]
  refine step_new (vs := [F, V, S, tv]) (by omega) (by omega) rfl (by simp only [rn0, rn1, rn2, rn3, rn4, rn5, rn6, rn7, rn8, if_true, if_false, Nat.le_refl, true_and, and_true, decide_true, decide_false, Bool.not_true, Bool.not_false, reduceIte, Nat.reduceEqDiff, Nat.reduceAdd, Nat.reduceMul, Nat.reduceSub, Nat.reduceLeDiff, Nat.reduceLT]; rfl) ho4 rfl rfl fun g3 hx3 => ?_
  have n3 := hx3.next
  have f3 := hx3.floor
  have hs3 : Sub All h g3 := hx1.sub.trans (hm.sub.trans hx3.sub)
  have hy3 := hy.mono hs3
  have w3 := hx3.row.whole (n := 4) rfl
  have htr3 : TruthsR g3 tv (truths Y) := Cells.mono htr hx3.sub
  obtain ⟨rr, hrw, hq⟩ := hy3.v
  by_cases hv : Y.nv = 0
  · have hrr : res = (0, 0, 7) := by rw [← hres]; unfold askV; rw [if_neg (by simpa using hf), if_neg he, if_pos hv]
    rw [hrr]
    have hl0 := Cells.len hrw
    rw [hv] at hl0
    simp only [rn0, rn1, rn2, rn3, rn4, rn5, rn6, rn7, rn8, if_true, if_false, Nat.le_refl, true_and, and_true, decide_true, decide_false, Bool.not_true, Bool.not_false, reduceIte, Nat.reduceEqDiff, Nat.reduceAdd, Nat.reduceMul, Nat.reduceSub, Nat.reduceLeDiff, Nat.reduceLT, hx3.row.ld, Nat.zero_add, List.getElem?_cons_zero, List.getElem?_cons_succ, hl0, Int.natCast_zero, ret_ttt]
  have hrr : res = ((((askN (leavesF Y) (Y.nv - 1)).1 : Nat) : Int), (((askN (leavesF Y) (Y.nv - 1)).2 : Nat) : Int), 0) := by rw [← hres]; unfold askV; rw [if_neg (by simpa using hf), if_neg he, if_neg hv]
  rw [hrr]
  clear hres hrr
  have hv' : ¬ ((Y.nv : Nat) : Int) = 0 := by omega
  obtain ⟨l, g4, e4, ⟨b, rfl, hl4⟩, m4⟩ := leaves_c (n := n) (h := g3) (by omega) (by omega) (by omega) hy3 hf htr3
  have n4 := m4.next
  have u4 := m4.up
  have f4 := m4.floor
  obtain ⟨tl, et, htl⟩ := tail_own (h := g4) (b := b) (m := Y.nv) (by omega) (by omega)
  have ht4 := htl g4 _ hl4
  have i0 : indexSl 1 (.slice (some ⟨b, 0, none⟩) Y.nv Y.nv) (.int .i64 0) = some (.pointer (some ⟨b, 0 * 1, none⟩)) := idxSl_s (s := 1) (k := 0) (by omega)
  have l0 : loadCell g4 (.pointer (some ⟨b, 0 * 1, none⟩)) = some (.int .i64 ((leavesF Y 0 : Nat) : Int)) := Cells.ld hl4 (k := 0) (by omega) Nat.zero_lt_one
  have em := minimum_c (n := n) (h := g4) (by omega) (by omega) ht4 ((leavesF Y 0 : Nat) : Int)
  have hmin := minN_ask (f := leavesF Y) (Y.nv - 1)
  have em2 : call n (.func (.func 94) #[] #[]) [.int .i64 ((leavesF Y 0 : Nat) : Int), tl] g4 = some (.int .i64 (((askN (leavesF Y) (Y.nv - 1)).2 : Nat) : Int), g4) := by rw [em, ← hmin]; rfl
  obtain ⟨a1, a2, a3, a4⟩ := askN_le (f := leavesF Y) (Y.nv - 1)
  have hself : ∀ c : Int, eqV (.int .i64 c) (.int .i64 c) = true := fun c => by simp [eqV, eqCell, sameK, eqI_eq]
  have ei := indexI_c (n := n) (h := g4) (by omega) hl4 (by omega) (((askN (leavesF Y) (Y.nv - 1)).2 : Nat) : Int)
  have hfi := findFrom_at (p := fun k => (((askN (leavesF Y) (Y.nv - 1)).2 : Nat) : Int) = ((mostN (blY Y k) (truths Y) : Nat) : Int)) (k := (askN (leavesF Y) (Y.nv - 1)).1) (m := Y.nv) (by omega) (fun j hj e => by
    have := a4 j hj
    unfold leavesF at this
    unfold leavesF at e
    omega) (by
    have := a2
    unfold leavesF at this ⊢
    omega)
  rw [hfi] at ei
  simp only [rn0, rn1, rn2, rn3, rn4, rn5, rn6, rn7, rn8, if_true, if_false, Nat.le_refl, true_and, and_true, decide_true, decide_false, Bool.not_true, Bool.not_false, reduceIte, Nat.reduceEqDiff, Nat.reduceAdd, Nat.reduceMul, Nat.reduceSub, Nat.reduceLeDiff, Nat.reduceLT, hx3.row.ld, Nat.zero_add, List.getElem?_cons_zero, List.getElem?_cons_succ, Cells.len hrw, hv', w3, e4]
  refine W_draw All ?_
  simp only [rn0, rn1, rn2, rn3, rn4, rn5, rn6, rn7, rn8, if_true, if_false, Nat.le_refl, true_and, and_true, decide_true, decide_false, Bool.not_true, Bool.not_false, reduceIte, Nat.reduceEqDiff, Nat.reduceAdd, Nat.reduceMul, Nat.reduceSub, Nat.reduceLeDiff, Nat.reduceLT, i0, l0, Option.isSome_none, Option.map_some, Option.map_none, et, em2, ei, ret_ttt]
/-! ### The reference -/
def s97 : SCode := (.seq (.ops [⟨(some 3), none, .box (T 0)⟩, ⟨(some 6), none, .mov (.const (.int .i64 (0)))⟩]) (.seq (.ops [⟨(some 7), none, .mov (.const (.int .i64 (0)))⟩]) (.seq (.seq (.ops [⟨(some 8), none, .mov (.const (.int .i64 (0)))⟩]) (.block 0 (.loop (.seq (.seq (.ops [⟨(some 11), none, .mov (T 8)⟩, ⟨(some 12), none, .mov (T 1)⟩, ⟨(some 13), none, .len (T 12)⟩, ⟨(some 14), none, .int2 .lss (T 11) (T 13)⟩]) (.cond (T 14) .skip (.exit 0))) (.seq (.block 1 (.seq (.ops [⟨(some 9), none, .mov (.const (.int .i64 (0)))⟩]) (.seq (.seq (.ops [⟨(some 10), none, .mov (.const (.int .i64 (0)))⟩]) (.block 2 (.loop (.seq (.seq (.ops [⟨(some 17), none, .mov (T 10)⟩, ⟨(some 18), none, .mov (T 1)⟩, ⟨(some 19), none, .len (T 18)⟩, ⟨(some 20), none, .int2 .lss (T 17) (T 19)⟩]) (.cond (T 20) .skip (.exit 2))) (.seq (.block 3 (.seq (.draw [⟨.rd1, ⟨(some 23), none, .loadN 3 (T 3)⟩⟩, ⟨.free, ⟨(some 24), none, .mov (T 1)⟩⟩, ⟨.free, ⟨(some 25), none, .mov (T 10)⟩⟩, ⟨.free, ⟨(some 26), none, .idxSl 1 (T 24) (T 25)⟩⟩, ⟨.rd1, ⟨(some 27), none, .load1 (T 26)⟩⟩, ⟨.free, ⟨(some 28), none, .mov (T 2)⟩⟩, ⟨.up, ⟨(some 29), none, .call (.func 33) [(T 23), (T 27), (T 28)]⟩⟩, ⟨.rd, ⟨(some 30), none, .loadN 3 (T 3)⟩⟩, ⟨.free, ⟨(some 31), none, .mov (T 1)⟩⟩, ⟨.free, ⟨(some 32), none, .mov (T 8)⟩⟩, ⟨.free, ⟨(some 33), none, .idxSl 1 (T 31) (T 32)⟩⟩, ⟨.rd, ⟨(some 34), none, .load1 (T 33)⟩⟩, ⟨.free, ⟨(some 35), none, .mov (T 2)⟩⟩, ⟨.any, ⟨(some 36), none, .call (.func 33) [(T 30), (T 34), (T 35)]⟩⟩, ⟨.free, ⟨(some 37), none, .int2 .eql (T 29) (T 36)⟩⟩]) (.cond (T 37) (.ops [⟨(some 38), none, .mov (T 9)⟩, ⟨(some 39), none, .int2 .add (T 38) (.const (.int .i64 (1)))⟩, ⟨(some 9), none, .mov (T 39)⟩]) .skip))) (.ops [⟨(some 21), none, .mov (T 10)⟩, ⟨(some 22), none, .int2 .add (T 21) (.const (.int .i64 (1)))⟩, ⟨(some 10), none, .mov (T 22)⟩])))))) (.ops [⟨(some 40), none, .mov (T 7)⟩, ⟨(some 41), none, .mov (T 9)⟩, ⟨(some 42), none, .plain (.call { callee := .builtin .max, args := #[(T 40), (T 41)], argTypes := #[3, 3] }) 3⟩, ⟨(some 7), none, .mov (T 42)⟩])))) (.ops [⟨(some 15), none, .mov (T 8)⟩, ⟨(some 16), none, .int2 .add (T 15) (.const (.int .i64 (1)))⟩, ⟨(some 8), none, .mov (T 16)⟩])))))) (.seq (.ops [⟨(some 43), none, .mov (T 7)⟩, ⟨(some 6), none, .mov (T 43)⟩]) .ret))))
theorem fok97 : FnOk Try.prog 97 44 s97 [.tmp 6] := ⟨Try.f97, _, Try.func97, rfl, Try.ntmps97, by kernel_rfl, by kernel_rfl⟩
theorem leavesRef_c (hn : 10010 ≤ n) (hr : h.next + 100 < far) {fv vv sv l : Value} {Y : MY} (hy : YardR h fv vv sv Y) (hf : faultN Y = 0) (hl : TruthsL h l Y.nf (refTruths Y)) {v : Nat} (hv : v < Y.nv) :
    call n (.func (.func 97) #[] #[]) [.agg ⟨[fv, vv, sv]⟩, l, .int .i64 (v : Int)] h = some (.int .i64 ((leavesF Y v : Nat) : Int), h) := by
  have hperm : leavesF Y v = mostN (blY Y v) (refTruths Y) := mostN_perm (truths_perm hf)
  rw [hperm]
  obtain ⟨n, rfl⟩ : ∃ p, n = p + 1 := ⟨n - 1, by omega⟩
  refine call_plain0 fok97 rfl rfl (by simp) rfl ?_
  have hy := hy.shut
  have hl := hl.mono (g := h.shutAll) fun _ _ _ _ _ h => h
  have hr : h.shutAll.next + 100 < far := hr
  generalize h.shutAll = h at hy hl hr
  have hG := good_of hf
  have hlen := refTruths_len hf
  obtain ⟨v1, v2⟩ := hG.v v hv
  have hsz := hG.sz.1
  simp only [s97, W_seq, W_ops]
  refine ops_box (cs := [fv, vv, sv]) (by omega) rfl hy.one fun g1 hx1 => ?_
  have n1 := hx1.next
  have hy1 := hy.mono hx1.sub
  have w1 := hx1.row.whole (n := 3) rfl
  obtain ⟨r, q1, q2⟩ := hl.mono hx1.sub
  have hself : eqV (.agg ⟨[fv, vv, sv]⟩) (.agg ⟨[fv, vv, sv]⟩) = true := hy1.self
  have hblue : ∀ i, i < (refTruths Y).length → call n (.func (.func 33) #[] #[]) [.agg ⟨[fv, vv, sv]⟩, r i, .int .i64 (v : Int)] g1 = some (.int .i64 (blY Y v ((refTruths Y).getD i fun _ => 0)), g1) := fun i hi =>
    blue_c (n := n) (h := g1) (at_ := v) (by omega) (by omega) hy1 (q2 i hi) (by omega) hv (by omega) (refTruths_range hf (refTruths_at hi)) (fun k hk => v2 k (by omega))
  generalize refTruths Y = L at hlen q1 q2 hblue
  simp only [rn0, rn1, rn2, rn3, rn4, rn5, rn6, rn7, rn8, if_true, if_false, Nat.le_refl, true_and, and_true, decide_true, decide_false, Bool.not_true, Bool.not_false, reduceIte, Nat.reduceEqDiff, Nat.reduceAdd, Nat.reduceMul, Nat.reduceSub, Nat.reduceLeDiff, Nat.reduceLT]
  refine W_loop L.length (fun k f g ms => g = g1 ∧ ms = [] ∧ f 1 = l ∧ f 2 = .int .i64 (v : Int) ∧ f 3 = .pointer (some ⟨h.next, 0, none⟩) ∧ f 7 = .int .i64 ((mostL ((L.take k).map fun t => cntB (blY Y v) L (blY Y v t)) : Nat) : Int) ∧ f 8 = .int .i64 (k : Int)) (by simp; omega) ?_ ?_ ?_
  · simp only [rn0, rn1, rn2, rn3, rn4, rn5, rn6, rn7, rn8, if_true, if_false, Nat.le_refl, true_and, and_true, decide_true, decide_false, Bool.not_true, Bool.not_false, reduceIte, Nat.reduceEqDiff, Nat.reduceAdd, Nat.reduceMul, Nat.reduceSub, Nat.reduceLeDiff, Nat.reduceLT]
    simp [mostL]
  · rintro k f g ms hk ⟨rfl, rfl, p1, p2, p3, p7, p8⟩
    have hk' : (k : Int) < (L.length : Int) := by omega
    have hw : wrapF .i64 ((k : Int) + 1) = ((k + 1 : Nat) : Int) := by rw [wrap_in (by omega) (by omega)]; rfl
    simp only [rn0, rn1, rn2, rn3, rn4, rn5, rn6, rn7, rn8, if_true, if_false, Nat.le_refl, true_and, and_true, decide_true, decide_false, Bool.not_true, Bool.not_false, reduceIte, Nat.reduceEqDiff, Nat.reduceAdd, Nat.reduceMul, Nat.reduceSub, Nat.reduceLeDiff, Nat.reduceLT, p1, p2, p3, p7, p8, Cells.len q1, hk']
    refine W_loop L.length (fun i f g' ms => g' = g ∧ ms = [] ∧ f 1 = l ∧ f 2 = .int .i64 (v : Int) ∧ f 3 = .pointer (some ⟨h.next, 0, none⟩) ∧ f 7 = .int .i64 ((mostL ((L.take k).map fun t => cntB (blY Y v) L (blY Y v t)) : Nat) : Int) ∧ f 8 = .int .i64 (k : Int) ∧
      f 9 = .int .i64 ((cntB (blY Y v) (L.take i) (blY Y v (L.getD k fun _ => 0)) : Nat) : Int) ∧ f 10 = .int .i64 (i : Int)) (by simp; omega) ?_ ?_ ?_
    · simp only [rn0, rn1, rn2, rn3, rn4, rn5, rn6, rn7, rn8, if_true, if_false, Nat.le_refl, true_and, and_true, decide_true, decide_false, Bool.not_true, Bool.not_false, reduceIte, Nat.reduceEqDiff, Nat.reduceAdd, Nat.reduceMul, Nat.reduceSub, Nat.reduceLeDiff, Nat.reduceLT, p1, p2, p3, p7, p8]
      simp [cntB]
    · rintro i f g' ms hi ⟨rfl, rfl, p1, p2, p3, p7, p8, p9, p10⟩
      have hi' : (i : Int) < (L.length : Int) := by omega
      have hwi : wrapF .i64 ((i : Int) + 1) = ((i + 1 : Nat) : Int) := by rw [wrap_in (by omega) (by omega)]; rfl
      have hc := cntB_take (b := blY Y v) (fun _ => (0 : Int)) hi (x := blY Y v (L.getD k fun _ => 0))
      have hcl := cntB_le (b := blY Y v) (L := L.take i) (x := blY Y v (L.getD k fun _ => 0))
      have htl : (L.take i).length ≤ L.length := by rw [List.length_take]; omega
      simp only [rn0, rn1, rn2, rn3, rn4, rn5, rn6, rn7, rn8, if_true, if_false, Nat.le_refl, true_and, and_true, decide_true, decide_false, Bool.not_true, Bool.not_false, reduceIte, Nat.reduceEqDiff, Nat.reduceAdd, Nat.reduceMul, Nat.reduceSub, Nat.reduceLeDiff, Nat.reduceLT, p1, p2, p3, p7, p8, p9, p10, Cells.len q1, hi']
      refine W_draw All ?_
      by_cases e : blY Y v (L.getD i fun _ => 0) = blY Y v (L.getD k fun _ => 0)
      · rw [if_pos e] at hc
        have hwc : wrapF .i64 (((cntB (blY Y v) (L.take i) (blY Y v (L.getD k fun _ => 0)) : Nat) : Int) + 1) = ((cntB (blY Y v) (L.take (i + 1)) (blY Y v (L.getD k fun _ => 0)) : Nat) : Int) := by rw [hc, wrap_in (by omega) (by omega)]; rfl
        simp only [rn0, rn1, rn2, rn3, rn4, rn5, rn6, rn7, rn8, if_true, if_false, Nat.le_refl, true_and, and_true, decide_true, decide_false, Bool.not_true, Bool.not_false, reduceIte, Nat.reduceEqDiff, Nat.reduceAdd, Nat.reduceMul, Nat.reduceSub, Nat.reduceLeDiff, Nat.reduceLT, p1, p2, p3, p7, p8, p9, p10, w1, Cells.idx q1 hi, Cells.ld q1 hi Nat.zero_lt_one, Cells.idx q1 hk, Cells.ld q1 hk Nat.zero_lt_one, hblue i hi, hblue k hk, hself, Cells.self (q2 k hk), Cells.self (q2 i hi), e, hwc, hwi]
      · rw [if_neg e] at hc
        have hc : cntB (blY Y v) (L.take (i + 1)) (blY Y v (L.getD k fun _ => 0)) = cntB (blY Y v) (L.take i) (blY Y v (L.getD k fun _ => 0)) := hc
        simp only [rn0, rn1, rn2, rn3, rn4, rn5, rn6, rn7, rn8, if_true, if_false, Nat.le_refl, true_and, and_true, decide_true, decide_false, Bool.not_true, Bool.not_false, reduceIte, Nat.reduceEqDiff, Nat.reduceAdd, Nat.reduceMul, Nat.reduceSub, Nat.reduceLeDiff, Nat.reduceLT, p1, p2, p3, p7, p8, p9, p10, w1, Cells.idx q1 hi, Cells.ld q1 hi Nat.zero_lt_one, Cells.idx q1 hk, Cells.ld q1 hk Nat.zero_lt_one, hblue i hi, hblue k hk, hself, Cells.self (q2 k hk), Cells.self (q2 i hi), e, hc, hwi]
    · rintro f g' ms ⟨rfl, rfl, p1, p2, p3, p7, p8, p9, p10⟩
      rw [List.take_length] at p9
      have hmx : max ((mostL ((L.take k).map fun t => cntB (blY Y v) L (blY Y v t)) : Nat) : Int) ((cntB (blY Y v) L (blY Y v (L.getD k fun _ => 0)) : Nat) : Int) = ((mostL ((L.take (k + 1)).map fun t => cntB (blY Y v) L (blY Y v t)) : Nat) : Int) := by
        have : mostL ((L.take (k + 1)).map fun t => cntB (blY Y v) L (blY Y v t)) = max (mostL ((L.take k).map fun t => cntB (blY Y v) L (blY Y v t))) (cntB (blY Y v) L (blY Y v (L.getD k fun _ => 0))) := by
          apply eq_of_le_iff
          intro m
          rw [mostL_le, Nat.max_le, mostL_le, take_snoc (fun _ => (0 : Int)) hk, List.map_append]
          simp only [List.mem_append, List.map_cons, List.map_nil, List.mem_singleton]
          exact ⟨fun h => ⟨fun x hx => h x (.inl hx), h _ (.inr rfl)⟩, fun ⟨h1, h2⟩ x hx => hx.elim (h1 x) (fun e => e ▸ h2)⟩
        omega
      simp only [rn0, rn1, rn2, rn3, rn4, rn5, rn6, rn7, rn8, if_true, if_false, Nat.le_refl, true_and, and_true, decide_true, decide_false, Bool.not_true, Bool.not_false, reduceIte, Nat.reduceEqDiff, Nat.reduceAdd, Nat.reduceMul, Nat.reduceSub, Nat.reduceLeDiff, Nat.reduceLT, p1, p2, p3, p7, p8, p9, p10, Cells.len q1, Int.lt_irrefl, valN_tmp, Nat.reduceLT, hmx, hw]
  · rintro f g ms ⟨rfl, rfl, p1, p2, p3, p7, p8⟩
    rw [List.take_length] at p7
    simp only [rn0, rn1, rn2, rn3, rn4, rn5, rn6, rn7, rn8, if_true, if_false, Nat.le_refl, true_and, and_true, decide_true, decide_false, Bool.not_true, Bool.not_false, reduceIte, Nat.reduceEqDiff, Nat.reduceAdd, Nat.reduceMul, Nat.reduceSub, Nat.reduceLeDiff, Nat.reduceLT, p1, p2, p3, p7, p8, Cells.len q1, Int.lt_irrefl]
    rfl
def s45 : SCode := (.seq (.ops [⟨(some 2), none, .box (T 0)⟩, ⟨(some 4), none, .mov (.const (.int .i64 (0)))⟩, ⟨(some 5), none, .mov (.const (.int .i64 (0)))⟩]) (.seq (.ops [⟨(some 10), none, .loadN 3 (T 2)⟩, ⟨(some 11), none, .mov (T 1)⟩, ⟨(some 12), none, .call (.func 97) [(T 10), (T 11), (.const (.int .i64 (0)))]⟩, ⟨(some 6), none, .mov (.const (.int .i64 (0)))⟩, ⟨(some 7), none, .mov (T 12)⟩]) (.seq (.seq (.ops [⟨(some 8), none, .mov (.const (.int .i64 (1)))⟩]) (.block 0 (.loop (.seq (.seq (.ops [⟨(some 13), none, .mov (T 8)⟩, ⟨(some 14), none, .fieldAddr 1 (T 2)⟩, ⟨(some 15), none, .load1 (T 14)⟩, ⟨(some 16), none, .len (T 15)⟩, ⟨(some 17), none, .int2 .lss (T 13) (T 16)⟩]) (.cond (T 17) .skip (.exit 0))) (.seq (.block 1 (.seq (.ops [⟨(some 20), none, .loadN 3 (T 2)⟩, ⟨(some 21), none, .mov (T 1)⟩, ⟨(some 22), none, .mov (T 8)⟩, ⟨(some 23), none, .call (.func 97) [(T 20), (T 21), (T 22)]⟩, ⟨(some 9), none, .mov (T 23)⟩]) (.seq (.ops [⟨(some 24), none, .mov (T 9)⟩, ⟨(some 25), none, .mov (T 7)⟩, ⟨(some 26), none, .int2 .lss (T 24) (T 25)⟩]) (.cond (T 26) (.ops [⟨(some 27), none, .mov (T 8)⟩, ⟨(some 28), none, .mov (T 9)⟩, ⟨(some 6), none, .mov (T 27)⟩, ⟨(some 7), none, .mov (T 28)⟩]) .skip)))) (.ops [⟨(some 18), none, .mov (T 8)⟩, ⟨(some 19), none, .int2 .add (T 18) (.const (.int .i64 (1)))⟩, ⟨(some 8), none, .mov (T 19)⟩])))))) (.seq (.ops [⟨(some 29), none, .mov (T 6)⟩, ⟨(some 30), none, .mov (T 7)⟩, ⟨(some 4), none, .mov (T 29)⟩, ⟨(some 5), none, .mov (T 30)⟩]) .ret))))
theorem fok45 : FnOk Try.prog 45 31 s45 [.tmp 4, .tmp 5] := ⟨Try.f45, _, Try.func45, rfl, Try.ntmps45, by kernel_rfl, by kernel_rfl⟩
theorem askRef_c (hn : 10020 ≤ n) (hr : h.next + 200 < far) {fv vv sv l : Value} {Y : MY} (hy : YardR h fv vv sv Y) (hf : faultN Y = 0) (hl : TruthsL h l Y.nf (refTruths Y)) (hv : 0 < Y.nv) :
    call n (.func (.func 45) #[] #[]) [.agg ⟨[fv, vv, sv]⟩, l] h = some (.tuple ⟨[.int .i64 (((askN (leavesF Y) (Y.nv - 1)).1 : Nat) : Int), .int .i64 (((askN (leavesF Y) (Y.nv - 1)).2 : Nat) : Int)]⟩, h) := by
  obtain ⟨n, rfl⟩ : ∃ p, n = p + 1 := ⟨n - 1, by omega⟩
  refine call_plain0 fok45 rfl rfl (by simp) rfl ?_
  have hy := hy.shut
  have hl := hl.mono (g := h.shutAll) fun _ _ _ _ _ h => h
  have hr : h.shutAll.next + 200 < far := hr
  generalize h.shutAll = h at hy hl hr
  have hG := good_of hf
  obtain ⟨z1, z2, z3⟩ := hG.sz
  simp only [s45, W_seq, W_ops]
  refine ops_box (cs := [fv, vv, sv]) (by omega) rfl hy.one fun g1 hx1 => ?_
  have n1 := hx1.next
  have hy1 := hy.mono hx1.sub
  have r1 := hx1.row
  have w1 := hx1.row.whole (n := 3) rfl
  obtain ⟨rr, hrw, hq⟩ := hy1.v
  have hlv : ∀ v : Nat, v < Y.nv → call n (.func (.func 97) #[] #[]) [.agg ⟨[fv, vv, sv]⟩, l, .int .i64 (v : Int)] g1 = some (.int .i64 ((leavesF Y v : Nat) : Int), g1) := fun v hv' => leavesRef_c (n := n) (h := g1) (by omega) (by omega) hy1 hf (hl.mono hx1.sub) hv'
  have hl0 : call n (.func (.func 97) #[] #[]) [.agg ⟨[fv, vv, sv]⟩, l, .int .i64 0] g1 = some (.int .i64 ((leavesF Y 0 : Nat) : Int), g1) := hlv 0 hv
  simp only [rn0, rn1, rn2, rn3, rn4, rn5, rn6, rn7, rn8, if_true, if_false, Nat.le_refl, true_and, and_true, decide_true, decide_false, Bool.not_true, Bool.not_false, reduceIte, Nat.reduceEqDiff, Nat.reduceAdd, Nat.reduceMul, Nat.reduceSub, Nat.reduceLeDiff, Nat.reduceLT, w1, hl0]
  refine W_loop (Y.nv - 1) (fun k f g ms => g = g1 ∧ ms = [] ∧ f 1 = l ∧ f 2 = .pointer (some ⟨h.next, 0, none⟩) ∧ f 6 = .int .i64 (((askN (leavesF Y) k).1 : Nat) : Int) ∧ f 7 = .int .i64 (((askN (leavesF Y) k).2 : Nat) : Int) ∧ f 8 = .int .i64 ((k + 1 : Nat) : Int)) (by simp; omega) ?_ ?_ ?_
  · simp only [rn0, rn1, rn2, rn3, rn4, rn5, rn6, rn7, rn8, if_true, if_false, Nat.le_refl, true_and, and_true, decide_true, decide_false, Bool.not_true, Bool.not_false, reduceIte, Nat.reduceEqDiff, Nat.reduceAdd, Nat.reduceMul, Nat.reduceSub, Nat.reduceLeDiff, Nat.reduceLT]
    simp [askN]
  · rintro k f g ms hk ⟨rfl, rfl, p1, p2, p6, p7, p8⟩
    have hk' : ((k + 1 : Nat) : Int) < (Y.nv : Int) := by omega
    have hw : wrapF .i64 (((k + 1 : Nat) : Int) + 1) = ((k + 1 + 1 : Nat) : Int) := by rw [wrap_in (by omega) (by omega)]; rfl
    have hlk := hlv (k + 1) (by omega)
    by_cases c : leavesF Y (k + 1) < (askN (leavesF Y) k).2
    · have c' : ((leavesF Y (k + 1) : Nat) : Int) < (((askN (leavesF Y) k).2 : Nat) : Int) := by omega
      have hs : askN (leavesF Y) (k + 1) = (k + 1, leavesF Y (k + 1)) := by simp only [askN]; rw [if_pos c]
      simp only [rn0, rn1, rn2, rn3, rn4, rn5, rn6, rn7, rn8, if_true, if_false, Nat.le_refl, true_and, and_true, decide_true, decide_false, Bool.not_true, Bool.not_false, reduceIte, Nat.reduceEqDiff, Nat.reduceAdd, Nat.reduceMul, Nat.reduceSub, Nat.reduceLeDiff, Nat.reduceLT, p1, p2, p6, p7, p8, r1.ld, Nat.zero_add, List.getElem?_cons_zero, List.getElem?_cons_succ, Cells.len hrw, hk', w1, hlk, c', hw, hs]
    · have c' : ¬ ((leavesF Y (k + 1) : Nat) : Int) < (((askN (leavesF Y) k).2 : Nat) : Int) := by omega
      have hs : askN (leavesF Y) (k + 1) = askN (leavesF Y) k := by simp only [askN]; rw [if_neg c]
      simp only [rn0, rn1, rn2, rn3, rn4, rn5, rn6, rn7, rn8, if_true, if_false, Nat.le_refl, true_and, and_true, decide_true, decide_false, Bool.not_true, Bool.not_false, reduceIte, Nat.reduceEqDiff, Nat.reduceAdd, Nat.reduceMul, Nat.reduceSub, Nat.reduceLeDiff, Nat.reduceLT, p1, p2, p6, p7, p8, r1.ld, Nat.zero_add, List.getElem?_cons_zero, List.getElem?_cons_succ, Cells.len hrw, hk', w1, hlk, c', hw, hs]
  · rintro f g ms ⟨rfl, rfl, p1, p2, p6, p7, p8⟩
    have hk' : ¬ ((Y.nv - 1 + 1 : Nat) : Int) < (Y.nv : Int) := by omega
    simp only [rn0, rn1, rn2, rn3, rn4, rn5, rn6, rn7, rn8, if_true, if_false, Nat.le_refl, true_and, and_true, decide_true, decide_false, Bool.not_true, Bool.not_false, reduceIte, Nat.reduceEqDiff, Nat.reduceAdd, Nat.reduceMul, Nat.reduceSub, Nat.reduceLeDiff, Nat.reduceLT, p1, p2, p6, p7, p8, r1.ld, Nat.zero_add, List.getElem?_cons_zero, List.getElem?_cons_succ, Cells.len hrw, hk', ret_tt]
def s96 : SCode := (.seq (.ops [⟨(some 4), none, .mov (.const (.int .i64 (0)))⟩]) (.seq (.seq (.ops [⟨(some 5), none, .mov (T 0)⟩, ⟨(some 6), none, .mov (T 1)⟩, ⟨(some 7), none, .int2 .eql (T 5) (T 6)⟩]) (.cond (T 7) (.seq (.ops [⟨(some 4), none, .mov (.const (.int .i64 (1)))⟩]) .ret) .skip)) (.seq (.seq (.ops [⟨(some 8), none, .mov (T 0)⟩, ⟨(some 9), none, .int2 .eql (T 8) (.const (.int .i64 (0)))⟩]) (.cond (T 9) (.seq (.ops [⟨(some 4), none, .mov (.const (.int .i64 (2)))⟩]) .ret) .skip)) (.seq (.ops [⟨(some 4), none, .mov (.const (.int .i64 (3)))⟩]) .ret))))
theorem fok96 : FnOk Try.prog 96 10 s96 [.tmp 4] := ⟨Try.f96, _, Try.func96, rfl, Try.ntmps96, by kernel_rfl, by kernel_rfl⟩
theorem verdictRef_c (hn : 1 ≤ n) (yes many : Int) : call n (.func (.func 96) #[] #[]) [.int .i64 yes, .int .i64 many] h = some (.int .i64 (if yes = many then 1 else if yes = 0 then 2 else 3), h) := by
  obtain ⟨n, rfl⟩ : ∃ p, n = p + 1 := ⟨n - 1, by omega⟩
  refine call_plain0 fok96 rfl rfl (by simp) rfl ?_
  by_cases h1 : yes = many
  · simp only [rn0, rn1, rn2, rn3, rn4, rn5, rn6, rn7, rn8, if_true, if_false, Nat.le_refl, true_and, and_true, decide_true, decide_false, Bool.not_true, Bool.not_false, reduceIte, Nat.reduceEqDiff, Nat.reduceAdd, Nat.reduceMul, Nat.reduceSub, Nat.reduceLeDiff, Nat.reduceLT, s96, h1]
  · by_cases h2 : yes = 0
    · rw [if_neg h1, if_pos h2]
      subst h2
      simp only [rn0, rn1, rn2, rn3, rn4, rn5, rn6, rn7, rn8, if_true, if_false, Nat.le_refl, true_and, and_true, decide_true, decide_false, Bool.not_true, Bool.not_false, reduceIte, Nat.reduceEqDiff, Nat.reduceAdd, Nat.reduceMul, Nat.reduceSub, Nat.reduceLeDiff, Nat.reduceLT, s96, h1]
    · simp only [rn0, rn1, rn2, rn3, rn4, rn5, rn6, rn7, rn8, if_true, if_false, Nat.le_refl, true_and, and_true, decide_true, decide_false, Bool.not_true, Bool.not_false, reduceIte, Nat.reduceEqDiff, Nat.reduceAdd, Nat.reduceMul, Nat.reduceSub, Nat.reduceLeDiff, Nat.reduceLT, s96, h1, h2]
end Go.Vm.Vat

namespace Go.Vm.Vat
open Go.Proofs
set_option linter.unusedSimpArgs false
set_option linter.unusedVariables false
set_option maxRecDepth 10000
variable {n : Nat} {h : AHeap}
theorem ref_nil_iff {Y : MY} (hf : faultN Y = 0) : refTruths Y ≠ [] ↔ truths Y ≠ [] := not_congr (refTruths_nil hf)
def s4 : SCode := (.seq (.ops [⟨(some 1), none, .box (T 0)⟩, ⟨(some 2), none, .mov (.const (.bool false))⟩]) (.seq (.seq (.ops [⟨(some 11), none, .loadN 3 (T 1)⟩, ⟨(some 12), none, .call (.func 23) [(T 11)]⟩, ⟨(some 13), none, .not (T 12)⟩]) (.cond (T 13) (.seq (.ops [⟨(some 14), none, .call (.func 24) []⟩, ⟨(some 2), none, .mov (T 14)⟩]) .ret) .skip)) (.seq (.ops [⟨(some 16), none, .loadN 3 (T 1)⟩, ⟨(some 17), none, .call (.func 26) [(T 16)]⟩, ⟨(some 18), none, .call (.func 34) [(T 17)]⟩, ⟨(some 15), none, .mov (T 18)⟩, ⟨(some 19), none, .extract 0 (T 15)⟩, ⟨(some 20), none, .extract 1 (T 15)⟩, ⟨(some 3), none, .mov (T 19)⟩, ⟨(some 4), none, .mov (T 20)⟩]) (.seq (.ops [⟨(some 22), none, .loadN 3 (T 1)⟩, ⟨(some 23), none, .call (.func 26) [(T 22)]⟩, ⟨(some 24), none, .call (.func 35) [(T 23)]⟩, ⟨(some 21), none, .mov (T 24)⟩, ⟨(some 25), none, .extract 0 (T 21)⟩, ⟨(some 26), none, .extract 1 (T 21)⟩, ⟨(some 5), none, .mov (T 25)⟩, ⟨(some 6), none, .mov (T 26)⟩]) (.seq (.ops [⟨(some 28), none, .loadN 3 (T 1)⟩, ⟨(some 29), none, .call (.func 36) [(T 28)]⟩, ⟨(some 27), none, .mov (T 29)⟩, ⟨(some 30), none, .extract 0 (T 27)⟩, ⟨(some 31), none, .extract 1 (T 27)⟩, ⟨(some 7), none, .mov (T 30)⟩, ⟨(some 8), none, .mov (T 31)⟩]) (.seq (.seq (.ops [⟨(some 32), none, .mov (T 8)⟩, ⟨(some 33), none, .int2 .neq (T 32) (.const (.int .i64 (0)))⟩]) (.cond (T 33) (.seq (.ops [⟨(some 34), none, .mov (T 4)⟩, ⟨(some 35), none, .mov (T 8)⟩, ⟨(some 36), none, .int2 .eql (T 34) (T 35)⟩, ⟨(some 37), none, .mov (T 36)⟩, ⟨(some 38), (some (37, true)), .mov (T 6)⟩, ⟨(some 39), (some (37, true)), .mov (T 8)⟩, ⟨(some 40), (some (37, true)), .int2 .eql (T 38) (T 39)⟩, ⟨(some 41), none, .pick (T 37) (T 40) (.const (.bool false))⟩, ⟨(some 42), none, .mov (T 41)⟩, ⟨(some 43), (some (42, true)), .mov (T 3)⟩, ⟨(some 44), (some (42, true)), .len (T 43)⟩, ⟨(some 45), (some (42, true)), .mov (T 5)⟩, ⟨(some 46), (some (42, true)), .len (T 45)⟩, ⟨(some 47), (some (42, true)), .int2 .add (T 44) (T 46)⟩, ⟨(some 48), (some (42, true)), .int2 .eql (T 47) (.const (.int .i64 (0)))⟩, ⟨(some 49), none, .pick (T 42) (T 48) (.const (.bool false))⟩, ⟨(some 50), none, .mov (T 49)⟩, ⟨(some 51), (some (50, true)), .call (.func 24) []⟩, ⟨(some 52), none, .pick (T 50) (T 51) (.const (.bool false))⟩, ⟨(some 2), none, .mov (T 52)⟩]) .ret) .skip)) (.seq (.seq (.ops [⟨(some 53), none, .mov (T 4)⟩, ⟨(some 54), none, .int2 .neq (T 53) (.const (.int .i64 (0)))⟩, ⟨(some 55), none, .mov (T 54)⟩, ⟨(some 56), (some (55, false)), .mov (T 6)⟩, ⟨(some 57), (some (55, false)), .int2 .neq (T 56) (.const (.int .i64 (0)))⟩, ⟨(some 58), none, .pick (T 55) (.const (.bool true)) (T 57)⟩, ⟨(some 59), none, .mov (T 58)⟩, ⟨(some 60), (some (59, false)), .mov (T 3)⟩, ⟨(some 61), (some (59, false)), .len (T 60)⟩, ⟨(some 62), (some (59, false)), .fieldAddr 1 (T 1)⟩, ⟨(some 63), (some (59, false)), .load1 (T 62)⟩, ⟨(some 64), (some (59, false)), .len (T 63)⟩, ⟨(some 65), (some (59, false)), .int2 .neq (T 61) (T 64)⟩, ⟨(some 66), none, .pick (T 59) (.const (.bool true)) (T 65)⟩, ⟨(some 67), none, .mov (T 66)⟩, ⟨(some 68), (some (67, false)), .mov (T 5)⟩, ⟨(some 69), (some (67, false)), .len (T 68)⟩, ⟨(some 70), (some (67, false)), .fieldAddr 0 (T 1)⟩, ⟨(some 71), (some (67, false)), .load1 (T 70)⟩, ⟨(some 72), (some (67, false)), .len (T 71)⟩, ⟨(some 73), (some (67, false)), .int2 .neq (T 69) (T 72)⟩, ⟨(some 74), none, .pick (T 67) (.const (.bool true)) (T 73)⟩]) (.cond (T 74) (.seq (.ops [⟨(some 2), none, .mov (.const (.bool false))⟩]) .ret) .skip)) (.seq (.seq (.ops [⟨(some 9), none, .mov (.const (.int .i64 (0)))⟩]) (.block 0 (.loop (.seq (.seq (.ops [⟨(some 75), none, .mov (T 9)⟩, ⟨(some 76), none, .mov (T 3)⟩, ⟨(some 77), none, .len (T 76)⟩, ⟨(some 78), none, .int2 .lss (T 75) (T 77)⟩]) (.cond (T 78) .skip (.exit 0))) (.seq (.block 1 (.seq (.draw [⟨.free, ⟨(some 81), none, .mov (T 3)⟩⟩, ⟨.free, ⟨(some 82), none, .mov (T 9)⟩⟩, ⟨.free, ⟨(some 83), none, .idxSl 2 (T 81) (T 82)⟩⟩, ⟨.rd, ⟨(some 84), none, .loadN 2 (T 83)⟩⟩, ⟨.rd1, ⟨(some 85), none, .loadN 3 (T 1)⟩⟩, ⟨.free, ⟨(some 86), none, .mov (T 7)⟩⟩, ⟨.free, ⟨(some 87), none, .mov (T 9)⟩⟩, ⟨.up, ⟨(some 88), none, .call (.func 38) [(T 85), (T 86), (T 87)]⟩⟩, ⟨.up, ⟨(some 89), none, .call (.func 37) [(T 88)]⟩⟩, ⟨.free, ⟨(some 90), none, .bin .neq (.binOp .neq 49 (T 84) (T 89) 49) 4 (T 84) (T 89)⟩⟩]) (.cond (T 90) (.seq (.ops [⟨(some 2), none, .mov (.const (.bool false))⟩]) .ret) .skip))) (.ops [⟨(some 79), none, .mov (T 9)⟩, ⟨(some 80), none, .int2 .add (T 79) (.const (.int .i64 (1)))⟩, ⟨(some 9), none, .mov (T 80)⟩])))))) (.seq (.seq (.ops [⟨(some 10), none, .mov (.const (.int .i64 (0)))⟩]) (.block 2 (.loop (.seq (.seq (.ops [⟨(some 91), none, .mov (T 10)⟩, ⟨(some 92), none, .mov (T 5)⟩, ⟨(some 93), none, .len (T 92)⟩, ⟨(some 94), none, .int2 .lss (T 91) (T 93)⟩]) (.cond (T 94) .skip (.exit 2))) (.seq (.block 3 (.seq (.draw [⟨.free, ⟨(some 97), none, .mov (T 5)⟩⟩, ⟨.free, ⟨(some 98), none, .mov (T 10)⟩⟩, ⟨.free, ⟨(some 99), none, .idxSl 2 (T 97) (T 98)⟩⟩, ⟨.rd, ⟨(some 100), none, .loadN 2 (T 99)⟩⟩, ⟨.free, ⟨(some 101), none, .mov (T 7)⟩⟩, ⟨.free, ⟨(some 102), none, .mov (T 10)⟩⟩, ⟨.up, ⟨(some 103), none, .call (.func 39) [(T 101), (T 102)]⟩⟩, ⟨.up, ⟨(some 104), none, .call (.func 37) [(T 103)]⟩⟩, ⟨.free, ⟨(some 105), none, .bin .neq (.binOp .neq 49 (T 100) (T 104) 49) 4 (T 100) (T 104)⟩⟩]) (.cond (T 105) (.seq (.ops [⟨(some 2), none, .mov (.const (.bool false))⟩]) .ret) .skip))) (.ops [⟨(some 95), none, .mov (T 10)⟩, ⟨(some 96), none, .int2 .add (T 95) (.const (.int .i64 (1)))⟩, ⟨(some 10), none, .mov (T 96)⟩])))))) (.seq (.ops [⟨(some 106), none, .call (.func 24) []⟩, ⟨(some 2), none, .mov (T 106)⟩]) .ret))))))))))
end Go.Vm.Vat

namespace Go.Vm.Vat
open Go.Proofs
set_option linter.unusedSimpArgs false
set_option linter.unusedVariables false
set_option maxRecDepth 10000
variable {n : Nat} {h : AHeap}
def s44 : SCode := (.seq (.ops [⟨(some 4), none, .box (T 0)⟩, ⟨(some 8), none, .mov (.const (.int .i64 (0)))⟩]) (.seq (.ops [⟨(some 9), none, .mov (.const (.int .i64 (0)))⟩]) (.seq (.seq (.ops [⟨(some 10), none, .mov (.const (.int .i64 (0)))⟩]) (.block 0 (.loop (.seq (.seq (.ops [⟨(some 11), none, .mov (T 10)⟩, ⟨(some 12), none, .mov (T 1)⟩, ⟨(some 13), none, .len (T 12)⟩, ⟨(some 14), none, .int2 .lss (T 11) (T 13)⟩]) (.cond (T 14) .skip (.exit 0))) (.seq (.block 1 (.seq (.draw [⟨.rd1, ⟨(some 17), none, .loadN 3 (T 4)⟩⟩, ⟨.free, ⟨(some 18), none, .mov (T 1)⟩⟩, ⟨.free, ⟨(some 19), none, .mov (T 10)⟩⟩, ⟨.free, ⟨(some 20), none, .idxSl 1 (T 18) (T 19)⟩⟩, ⟨.rd1, ⟨(some 21), none, .load1 (T 20)⟩⟩, ⟨.free, ⟨(some 22), none, .mov (T 2)⟩⟩, ⟨.up, ⟨(some 23), none, .call (.func 33) [(T 17), (T 21), (T 22)]⟩⟩, ⟨.rd, ⟨(some 24), none, .loadN 3 (T 4)⟩⟩, ⟨.free, ⟨(some 25), none, .mov (T 1)⟩⟩, ⟨.free, ⟨(some 26), none, .mov (T 10)⟩⟩, ⟨.free, ⟨(some 27), none, .idxSl 1 (T 25) (T 26)⟩⟩, ⟨.rd, ⟨(some 28), none, .load1 (T 27)⟩⟩, ⟨.free, ⟨(some 29), none, .mov (T 3)⟩⟩, ⟨.any, ⟨(some 30), none, .call (.func 33) [(T 24), (T 28), (T 29)]⟩⟩, ⟨.free, ⟨(some 31), none, .int2 .gtr (T 23) (T 30)⟩⟩]) (.cond (T 31) (.ops [⟨(some 32), none, .mov (T 9)⟩, ⟨(some 33), none, .int2 .add (T 32) (.const (.int .i64 (1)))⟩, ⟨(some 9), none, .mov (T 33)⟩]) .skip))) (.ops [⟨(some 15), none, .mov (T 10)⟩, ⟨(some 16), none, .int2 .add (T 15) (.const (.int .i64 (1)))⟩, ⟨(some 10), none, .mov (T 16)⟩])))))) (.seq (.ops [⟨(some 34), none, .mov (T 9)⟩, ⟨(some 35), none, .mov (T 1)⟩, ⟨(some 36), none, .len (T 35)⟩, ⟨(some 37), none, .call (.func 96) [(T 34), (T 36)]⟩, ⟨(some 8), none, .mov (T 37)⟩]) .ret))))
theorem fok44 : FnOk Try.prog 44 38 s44 [.tmp 8] := ⟨Try.f44, _, Try.func44, rfl, Try.ntmps44, by kernel_rfl, by kernel_rfl⟩
theorem moreRef_c (hn : 10010 ≤ n) (hr : h.next + 100 < far) {fv vv sv l : Value} {Y : MY} (hy : YardR h fv vv sv Y) (hf : faultN Y = 0) (he : truths Y ≠ []) (hl : TruthsL h l Y.nf (refTruths Y)) {a b : Nat} (ha : a < Y.nv) (hb : b < Y.nv) :
    call n (.func (.func 44) #[] #[]) [.agg ⟨[fv, vv, sv]⟩, l, .int .i64 (a : Int), .int .i64 (b : Int)] h = some (.int .i64 (verdictV Y a b), h) := by
  obtain ⟨n, rfl⟩ : ∃ p, n = p + 1 := ⟨n - 1, by omega⟩
  refine call_plain0 fok44 rfl rfl (by simp) rfl ?_
  have hy := hy.shut
  have hl := hl.mono (g := h.shutAll) fun _ _ _ _ _ h => h
  have hr : h.shutAll.next + 100 < far := hr
  generalize h.shutAll = h at hy hl hr
  have hG := good_of hf
  have hlen := refTruths_len hf
  obtain ⟨v1, v2⟩ := hG.v a ha
  obtain ⟨u1, u2⟩ := hG.v b hb
  have hsz := hG.sz.1
  simp only [s44, W_seq, W_ops]
  refine ops_box (cs := [fv, vv, sv]) (by omega) rfl hy.one fun g1 hx1 => ?_
  have n1 := hx1.next
  have hy1 := hy.mono hx1.sub
  have w1 := hx1.row.whole (n := 3) rfl
  obtain ⟨r, q1, q2⟩ := hl.mono hx1.sub
  have hself : eqV (.agg ⟨[fv, vv, sv]⟩) (.agg ⟨[fv, vv, sv]⟩) = true := hy1.self
  have hbl : ∀ i, i < (refTruths Y).length → call n (.func (.func 33) #[] #[]) [.agg ⟨[fv, vv, sv]⟩, r i, .int .i64 (a : Int)] g1 = some (.int .i64 (blueN ((refTruths Y).getD i fun _ => 0) (Y.q a) Y.nf), g1) := fun i hi =>
    blue_c (n := n) (h := g1) (at_ := a) (by omega) (by omega) hy1 (q2 i hi) (by omega) ha (by omega) (refTruths_range hf (refTruths_at hi)) (fun k hk => v2 k (by omega))
  have hbl2 : ∀ i, i < (refTruths Y).length → call n (.func (.func 33) #[] #[]) [.agg ⟨[fv, vv, sv]⟩, r i, .int .i64 (b : Int)] g1 = some (.int .i64 (blueN ((refTruths Y).getD i fun _ => 0) (Y.q b) Y.nf), g1) := fun i hi =>
    blue_c (n := n) (h := g1) (at_ := b) (by omega) (by omega) hy1 (q2 i hi) (by omega) hb (by omega) (refTruths_range hf (refTruths_at hi)) (fun k hk => u2 k (by omega))
  have hpos : 0 < (refTruths Y).length := List.length_pos_iff.2 ((ref_nil_iff hf).2 he)
  simp only [rn0, rn1, rn2, rn3, rn4, rn5, rn6, rn7, rn8, if_true, if_false, Nat.le_refl, true_and, and_true, decide_true, decide_false, Bool.not_true, Bool.not_false, reduceIte, Nat.reduceEqDiff, Nat.reduceAdd, Nat.reduceMul, Nat.reduceSub, Nat.reduceLeDiff, Nat.reduceLT]
  refine W_loop (refTruths Y).length (fun k f g ms => g = g1 ∧ ms = [] ∧ f 1 = l ∧ f 2 = .int .i64 (a : Int) ∧ f 3 = .int .i64 (b : Int) ∧ f 4 = .pointer (some ⟨h.next, 0, none⟩) ∧ f 9 = .int .i64 ((cntTo (fun i => Above Y a b ((refTruths Y).getD i fun _ => 0)) k : Nat) : Int) ∧ f 10 = .int .i64 (k : Int)) (by simp; omega) ?_ ?_ ?_
  · simp only [rn0, rn1, rn2, rn3, rn4, rn5, rn6, rn7, rn8, if_true, if_false, Nat.le_refl, true_and, and_true, decide_true, decide_false, Bool.not_true, Bool.not_false, reduceIte, Nat.reduceEqDiff, Nat.reduceAdd, Nat.reduceMul, Nat.reduceSub, Nat.reduceLeDiff, Nat.reduceLT]
    trivial
  · rintro k f g ms hk ⟨rfl, rfl, p1, p2, p3, p4, p9, p10⟩
    have hk' : (k : Int) < ((refTruths Y).length : Int) := by omega
    have hw : wrapF .i64 ((k : Int) + 1) = ((k + 1 : Nat) : Int) := by rw [wrap_in (by omega) (by omega)]; rfl
    have hcl := cntTo_le (p := fun i => Above Y a b ((refTruths Y).getD i fun _ => 0)) k
    simp only [rn0, rn1, rn2, rn3, rn4, rn5, rn6, rn7, rn8, if_true, if_false, Nat.le_refl, true_and, and_true, decide_true, decide_false, Bool.not_true, Bool.not_false, reduceIte, Nat.reduceEqDiff, Nat.reduceAdd, Nat.reduceMul, Nat.reduceSub, Nat.reduceLeDiff, Nat.reduceLT, p1, p2, p3, p4, p9, p10, Cells.len q1, hk']
    refine W_draw All ?_
    by_cases e : Above Y a b ((refTruths Y).getD k fun _ => 0)
    · have hc := cntTo_yes (p := fun i => Above Y a b ((refTruths Y).getD i fun _ => 0)) (k := k) e
      have hwc : wrapF .i64 (((cntTo (fun i => Above Y a b ((refTruths Y).getD i fun _ => 0)) k : Nat) : Int) + 1) = ((cntTo (fun i => Above Y a b ((refTruths Y).getD i fun _ => 0)) (k + 1) : Nat) : Int) := by rw [hc, wrap_in (by omega) (by omega)]; rfl
      have e' : blueN ((refTruths Y).getD k fun _ => 0) (Y.q b) Y.nf < blueN ((refTruths Y).getD k fun _ => 0) (Y.q a) Y.nf := e
      simp only [rn0, rn1, rn2, rn3, rn4, rn5, rn6, rn7, rn8, if_true, if_false, Nat.le_refl, true_and, and_true, decide_true, decide_false, Bool.not_true, Bool.not_false, reduceIte, Nat.reduceEqDiff, Nat.reduceAdd, Nat.reduceMul, Nat.reduceSub, Nat.reduceLeDiff, Nat.reduceLT, p1, p2, p3, p4, p9, p10, w1, Cells.idx q1 hk, Cells.ld q1 hk Nat.zero_lt_one, hbl k hk, hbl2 k hk, hself, Cells.self (q2 k hk), e', hwc, hw]
    · have hc := cntTo_no (p := fun i => Above Y a b ((refTruths Y).getD i fun _ => 0)) (k := k) e
      have e' : ¬ blueN ((refTruths Y).getD k fun _ => 0) (Y.q b) Y.nf < blueN ((refTruths Y).getD k fun _ => 0) (Y.q a) Y.nf := e
      simp only [rn0, rn1, rn2, rn3, rn4, rn5, rn6, rn7, rn8, if_true, if_false, Nat.le_refl, true_and, and_true, decide_true, decide_false, Bool.not_true, Bool.not_false, reduceIte, Nat.reduceEqDiff, Nat.reduceAdd, Nat.reduceMul, Nat.reduceSub, Nat.reduceLeDiff, Nat.reduceLT, p1, p2, p3, p4, p9, p10, w1, Cells.idx q1 hk, Cells.ld q1 hk Nat.zero_lt_one, hbl k hk, hbl2 k hk, hself, Cells.self (q2 k hk), e', hc, hw]
  · rintro f g ms ⟨rfl, rfl, p1, p2, p3, p4, p9, p10⟩
    have ev := verdictRef_c (n := n) (h := g) (by omega) ((cntTo (fun i => Above Y a b ((refTruths Y).getD i fun _ => 0)) (refTruths Y).length : Nat) : Int) ((refTruths Y).length : Int)
    have hall := cntTo_all (p := fun i => Above Y a b ((refTruths Y).getD i fun _ => 0)) (refTruths Y).length
    have hnone := cntTo_none (p := fun i => Above Y a b ((refTruths Y).getD i fun _ => 0)) (refTruths Y).length
    have ha1 : (∀ i, i < (refTruths Y).length → Above Y a b ((refTruths Y).getD i fun _ => 0)) ↔ ∀ t, t ∈ truths Y → Above Y a b t := by
      constructor
      · intro hh t ht
        obtain ⟨i, hi, e⟩ := mem_getD ((refTruths_mem hf).2 ht)
        rw [← e]; exact hh i hi
      · intro hh i hi; exact hh _ ((refTruths_mem hf).1 (refTruths_at hi))
    have ha2 : (∀ i, i < (refTruths Y).length → ¬ Above Y a b ((refTruths Y).getD i fun _ => 0)) ↔ ∀ t, t ∈ truths Y → ¬ Above Y a b t := by
      constructor
      · intro hh t ht
        obtain ⟨i, hi, e⟩ := mem_getD ((refTruths_mem hf).2 ht)
        rw [← e]; exact hh i hi
      · intro hh i hi; exact hh _ ((refTruths_mem hf).1 (refTruths_at hi))
    have hres : (if ((cntTo (fun i => Above Y a b ((refTruths Y).getD i fun _ => 0)) (refTruths Y).length : Nat) : Int) = ((refTruths Y).length : Int) then (1 : Int) else if ((cntTo (fun i => Above Y a b ((refTruths Y).getD i fun _ => 0)) (refTruths Y).length : Nat) : Int) = 0 then 2 else 3) = verdictV Y a b := by
      unfold verdictV
      by_cases c1 : ∀ t, t ∈ truths Y → ¬ Above Y a b t
      · have := hnone.2 (ha2.2 c1)
        rw [if_pos c1, this, if_neg (by omega), if_pos (by rfl)]
      · rw [if_neg c1]
        have h1 : ¬ cntTo (fun i => Above Y a b ((refTruths Y).getD i fun _ => 0)) (refTruths Y).length = 0 := fun e => c1 (ha2.1 (hnone.1 e))
        by_cases c2 : ∀ t, t ∈ truths Y → Above Y a b t
        · have := hall.2 (ha1.2 c2)
          rw [if_pos c2, this, if_pos rfl]
        · have h2 : ¬ cntTo (fun i => Above Y a b ((refTruths Y).getD i fun _ => 0)) (refTruths Y).length = (refTruths Y).length := fun e => c2 (ha1.1 (hall.1 e))
          rw [if_neg c2, if_neg (by omega), if_neg (by omega)]
    rw [hres] at ev
    simp only [rn0, rn1, rn2, rn3, rn4, rn5, rn6, rn7, rn8, if_true, if_false, Nat.le_refl, true_and, and_true, decide_true, decide_false, Bool.not_true, Bool.not_false, reduceIte, Nat.reduceEqDiff, Nat.reduceAdd, Nat.reduceMul, Nat.reduceSub, Nat.reduceLeDiff, Nat.reduceLT, p1, p2, p3, p4, p9, p10, Cells.len q1, Int.lt_irrefl, ev]
def s5 : SCode := (.seq (.ops [⟨(some 3), none, .box (T 0)⟩, ⟨(some 6), none, .mov (.const (.bool false))⟩]) (.seq (.seq (.ops [⟨(some 20), none, .loadN 3 (T 3)⟩, ⟨(some 21), none, .call (.func 23) [(T 20)]⟩, ⟨(some 22), none, .not (T 21)⟩]) (.cond (T 22) (.seq (.ops [⟨(some 23), none, .call (.func 24) []⟩, ⟨(some 6), none, .mov (T 23)⟩]) .ret) .skip)) (.seq (.ops [⟨(some 25), none, .loadN 3 (T 3)⟩, ⟨(some 26), none, .call (.func 26) [(T 25)]⟩, ⟨(some 27), none, .mov (T 1)⟩, ⟨(some 28), none, .mov (T 2)⟩, ⟨(some 29), none, .call (.func 40) [(T 26), (T 27), (T 28)]⟩, ⟨(some 24), none, .mov (T 29)⟩, ⟨(some 30), none, .extract 0 (T 24)⟩, ⟨(some 31), none, .extract 1 (T 24)⟩, ⟨(some 7), none, .mov (T 30)⟩, ⟨(some 8), none, .mov (T 31)⟩]) (.seq (.ops [⟨(some 33), none, .loadN 3 (T 3)⟩, ⟨(some 34), none, .call (.func 26) [(T 33)]⟩, ⟨(some 35), none, .call (.func 41) [(T 34)]⟩, ⟨(some 32), none, .mov (T 35)⟩, ⟨(some 36), none, .extract 0 (T 32)⟩, ⟨(some 37), none, .extract 1 (T 32)⟩, ⟨(some 38), none, .extract 2 (T 32)⟩, ⟨(some 9), none, .mov (T 36)⟩, ⟨(some 10), none, .mov (T 37)⟩, ⟨(some 11), none, .mov (T 38)⟩]) (.seq (.ops [⟨(some 12), none, .mov (.const (.int .i64 (0)))⟩]) (.seq (.seq (.ops [⟨(some 39), none, .fieldAddr 1 (T 3)⟩, ⟨(some 40), none, .load1 (T 39)⟩, ⟨(some 41), none, .len (T 40)⟩, ⟨(some 42), none, .int2 .sub (T 41) (.const (.int .i64 (1)))⟩, ⟨(some 13), none, .mov (T 42)⟩]) (.seq (.ops [⟨(some 43), none, .mov (T 1)⟩, ⟨(some 44), none, .mov (T 13)⟩, ⟨(some 45), none, .call (.func 42) [(T 43), (.const (.int .i64 (0))), (T 44)]⟩, ⟨(some 46), none, .not (T 45)⟩, ⟨(some 47), none, .mov (T 46)⟩, ⟨(some 48), (some (47, false)), .mov (T 2)⟩, ⟨(some 49), (some (47, false)), .mov (T 13)⟩, ⟨(some 50), (some (47, false)), .call (.func 42) [(T 48), (.const (.int .i64 (0))), (T 49)]⟩, ⟨(some 51), (some (47, false)), .not (T 50)⟩, ⟨(some 52), none, .pick (T 47) (.const (.bool true)) (T 51)⟩]) (.cond (T 52) (.ops [⟨(some 12), none, .mov (.const (.int .i64 (2)))⟩]) (.seq (.ops [⟨(some 53), none, .mov (T 1)⟩, ⟨(some 54), none, .mov (T 2)⟩, ⟨(some 55), none, .int2 .eql (T 53) (T 54)⟩]) (.cond (T 55) (.ops [⟨(some 12), none, .mov (.const (.int .i64 (6)))⟩]) .skip))))) (.seq (.seq (.ops [⟨(some 57), none, .loadN 3 (T 3)⟩, ⟨(some 58), none, .mov (T 12)⟩, ⟨(some 59), none, .call (.func 43) [(T 57), (T 58)]⟩, ⟨(some 56), none, .mov (T 59)⟩, ⟨(some 60), none, .extract 0 (T 56)⟩, ⟨(some 61), none, .extract 1 (T 56)⟩, ⟨(some 14), none, .mov (T 60)⟩, ⟨(some 15), none, .mov (T 61)⟩]) (.seq (.ops [⟨(some 62), none, .mov (T 15)⟩, ⟨(some 63), none, .int2 .neq (T 62) (.const (.int .i64 (0)))⟩]) (.cond (T 63) (.seq (.ops [⟨(some 64), none, .mov (T 8)⟩, ⟨(some 65), none, .mov (T 15)⟩, ⟨(some 66), none, .int2 .neq (T 64) (T 65)⟩, ⟨(some 67), none, .mov (T 66)⟩, ⟨(some 68), (some (67, false)), .mov (T 7)⟩, ⟨(some 69), (some (67, false)), .int2 .neq (T 68) (.const (.int .i64 (0)))⟩, ⟨(some 70), none, .pick (T 67) (.const (.bool true)) (T 69)⟩]) (.cond (T 70) (.seq (.ops [⟨(some 6), none, .mov (.const (.bool false))⟩]) .ret) .skip)) (.seq (.ops [⟨(some 71), none, .mov (T 8)⟩, ⟨(some 72), none, .int2 .neq (T 71) (.const (.int .i64 (0)))⟩, ⟨(some 73), none, .mov (T 72)⟩, ⟨(some 74), (some (73, false)), .mov (T 7)⟩, ⟨(some 75), (some (73, false)), .loadN 3 (T 3)⟩, ⟨(some 76), (some (73, false)), .mov (T 14)⟩, ⟨(some 77), (some (73, false)), .mov (T 1)⟩, ⟨(some 78), (some (73, false)), .mov (T 2)⟩, ⟨(some 79), (some (73, false)), .call (.func 44) [(T 75), (T 76), (T 77), (T 78)]⟩, ⟨(some 80), (some (73, false)), .int2 .neq (T 74) (T 79)⟩, ⟨(some 81), none, .pick (T 73) (.const (.bool true)) (T 80)⟩]) (.cond (T 81) (.seq (.ops [⟨(some 6), none, .mov (.const (.bool false))⟩]) .ret) .skip))))) (.seq (.ops [⟨(some 83), none, .loadN 3 (T 3)⟩, ⟨(some 84), none, .call (.func 36) [(T 83)]⟩, ⟨(some 82), none, .mov (T 84)⟩, ⟨(some 85), none, .extract 0 (T 82)⟩, ⟨(some 86), none, .extract 1 (T 82)⟩, ⟨(some 16), none, .mov (T 85)⟩, ⟨(some 17), none, .mov (T 86)⟩]) (.seq (.seq (.ops [⟨(some 87), none, .mov (T 17)⟩, ⟨(some 88), none, .int2 .eql (T 87) (.const (.int .i64 (0)))⟩, ⟨(some 89), none, .mov (T 88)⟩, ⟨(some 90), (some (89, true)), .fieldAddr 1 (T 3)⟩, ⟨(some 91), (some (89, true)), .load1 (T 90)⟩, ⟨(some 92), (some (89, true)), .len (T 91)⟩, ⟨(some 93), (some (89, true)), .int2 .eql (T 92) (.const (.int .i64 (0)))⟩, ⟨(some 94), none, .pick (T 89) (T 93) (.const (.bool false))⟩]) (.cond (T 94) (.ops [⟨(some 17), none, .mov (.const (.int .i64 (7)))⟩]) .skip)) (.seq (.seq (.ops [⟨(some 95), none, .mov (T 17)⟩, ⟨(some 96), none, .int2 .neq (T 95) (.const (.int .i64 (0)))⟩]) (.cond (T 96) (.seq (.ops [⟨(some 97), none, .mov (T 11)⟩, ⟨(some 98), none, .mov (T 17)⟩, ⟨(some 99), none, .int2 .eql (T 97) (T 98)⟩, ⟨(some 100), none, .mov (T 99)⟩, ⟨(some 101), (some (100, true)), .mov (T 9)⟩, ⟨(some 102), (some (100, true)), .int2 .eql (T 101) (.const (.int .i64 (0)))⟩, ⟨(some 103), none, .pick (T 100) (T 102) (.const (.bool false))⟩, ⟨(some 104), none, .mov (T 103)⟩, ⟨(some 105), (some (104, true)), .mov (T 10)⟩, ⟨(some 106), (some (104, true)), .int2 .eql (T 105) (.const (.int .i64 (0)))⟩, ⟨(some 107), none, .pick (T 104) (T 106) (.const (.bool false))⟩, ⟨(some 108), none, .mov (T 107)⟩, ⟨(some 109), (some (108, true)), .call (.func 24) []⟩, ⟨(some 110), none, .pick (T 108) (T 109) (.const (.bool false))⟩, ⟨(some 6), none, .mov (T 110)⟩]) .ret) .skip)) (.seq (.ops [⟨(some 112), none, .loadN 3 (T 3)⟩, ⟨(some 113), none, .mov (T 16)⟩, ⟨(some 114), none, .call (.func 45) [(T 112), (T 113)]⟩, ⟨(some 111), none, .mov (T 114)⟩, ⟨(some 115), none, .extract 0 (T 111)⟩, ⟨(some 116), none, .extract 1 (T 111)⟩, ⟨(some 18), none, .mov (T 115)⟩, ⟨(some 19), none, .mov (T 116)⟩]) (.seq (.ops [⟨(some 117), none, .mov (T 11)⟩, ⟨(some 118), none, .int2 .eql (T 117) (.const (.int .i64 (0)))⟩, ⟨(some 119), none, .mov (T 118)⟩, ⟨(some 120), (some (119, true)), .mov (T 9)⟩, ⟨(some 121), (some (119, true)), .mov (T 18)⟩, ⟨(some 122), (some (119, true)), .int2 .eql (T 120) (T 121)⟩, ⟨(some 123), none, .pick (T 119) (T 122) (.const (.bool false))⟩, ⟨(some 124), none, .mov (T 123)⟩, ⟨(some 125), (some (124, true)), .mov (T 10)⟩, ⟨(some 126), (some (124, true)), .mov (T 19)⟩, ⟨(some 127), (some (124, true)), .int2 .eql (T 125) (T 126)⟩, ⟨(some 128), none, .pick (T 124) (T 127) (.const (.bool false))⟩, ⟨(some 129), none, .mov (T 128)⟩, ⟨(some 130), (some (129, true)), .call (.func 24) []⟩, ⟨(some 131), none, .pick (T 129) (T 130) (.const (.bool false))⟩, ⟨(some 6), none, .mov (T 131)⟩]) .ret))))))))))))
theorem fok5 : FnOk Try.prog 5 132 s5 [.tmp 6] := ⟨Try.f5, _, Try.func5, rfl, Try.ntmps5, by kernel_rfl, by kernel_rfl⟩
theorem ex2 {x y z : Value} : extractA 2 (.tuple ⟨[x, y, z]⟩) h = some (z, h) := id rfl
theorem ex0' {x y z : Value} : extractA 0 (.tuple ⟨[x, y, z]⟩) h = some (x, h) := id rfl
theorem ex1' {x y z : Value} : extractA 1 (.tuple ⟨[x, y, z]⟩) h = some (y, h) := id rfl
set_option maxHeartbeats 2000000 in
open Classical in
theorem moreLaw_1 (hn : 10095 ≤ n) (hr : h.next + 3000000 < far) (hfl : h.floor ≤ h.next) {fv vv sv : Value} {Y : MY} (hy : YardR h fv vv sv Y) (one other : Int) (a1 : ¬ (0 ≤ one ∧ one ≤ (Y.nv : Int) - 1)) :
    ∃ v h', call n (.func (.func 5) #[] #[]) [.agg ⟨[fv, vv, sv]⟩, .int .i64 one, .int .i64 other] h = some (v, h') ∧ v = .bool true := by
  obtain ⟨n, rfl⟩ : ∃ p, n = p + 1 := ⟨n - 1, by omega⟩
  refine call_any0 fok5 rfl rfl (by simp) ?_
  simp only [s5, W_seq, W_ops]
  refine ops_box (cs := [fv, vv, sv]) (by omega) rfl hy.one fun g1 hx1 => ?_
  have n1 := hx1.next
  have f1 := hx1.floor
  have hy1 := hy.mono hx1.sub
  have w1 := hx1.row.whole (n := 3) rfl
  have ht := thin_c (n := n) (h := g1) (by omega) (by omega) hy1
  by_cases hT : Thin Y
  case neg => simp only [rn0, rn1, rn2, rn3, rn4, rn5, rn6, rn7, rn8, if_true, if_false, Nat.le_refl, true_and, and_true, decide_true, decide_false, Bool.not_true, Bool.not_false, reduceIte, Nat.reduceEqDiff, Nat.reduceAdd, Nat.reduceMul, Nat.reduceSub, Nat.reduceLeDiff, Nat.reduceLT, w1, ht, hT, awake_c (n := n) (h := g1) (by omega)]
  obtain ⟨F1, V1, S1, g2, ey2, hy2, m2⟩ := yard_c (n := n) (h := g1) (by omega) (by omega) (by omega) hy1 hT
  have n2 := m2.next
  have u2 := m2.up
  have f2 := m2.floor
  have en := more_c (n := n) (h := g2) (by omega) (by omega) hy2 hT one other
  have hy12 := hy1.mono m2.sub
  have rw2 := hx1.row.mono m2.sub
  have w2 := rw2.whole (n := 3) rfl
  obtain ⟨F2, V2, S2, g3, ey3, hy3, m3⟩ := yard_c (n := n) (h := g2) (by omega) (by omega) (by omega) hy12 hT
  have n3 := m3.next
  have u3 := m3.up
  have f3 := m3.floor
  have eask := ask_c (n := n) (h := g3) (by omega) (by omega) hy3 hT
  have hy13 := hy12.mono m3.sub
  have rw3 := rw2.mono m3.sub
  have w3 := rw3.whole (n := 3) rfl
  obtain ⟨rr, hrw, hq⟩ := hy13.v
  have hT' := hT
  obtain ⟨t1, t2, t3, t4⟩ := hT
  have wv : wrapF .i64 ((Y.nv : Int) - 1) = (Y.nv : Int) - 1 := wrap_in (by omega) (by omega)
  have i1 := in_c (n := n) (h := g3) (by omega) one 0 ((Y.nv : Int) - 1)
  have i2 := in_c (n := n) (h := g3) (by omega) other 0 ((Y.nv : Int) - 1)
  obtain ⟨v4, g4, ea4, m4, hv4⟩ := asked_c (n := n) (h := g3) (by omega) (by omega) (by omega) hy13 2
  have n4 := m4.next
  have u4 := m4.up
  have f4 := m4.floor
  have hy14 := hy13.mono m4.sub
  have rw4 := rw3.mono m4.sub
  have w4 := rw4.whole (n := 3) rfl
  obtain ⟨v5, g5, ea5, m5, hv5⟩ := sure_c (n := n) (h := g4) (by omega) (by omega) (by omega) hy14
  have n5 := m5.next
  have u5 := m5.up
  have f5 := m5.floor
  have hy15 := hy14.mono m5.sub
  have rw5 := rw4.mono m5.sub
  have w5 := rw5.whole (n := 3) rfl
  obtain ⟨rr5, hrw5, hq5⟩ := hy15.v
  have haw := awake_c (n := n) (h := g5) (by omega)
  have hna : ¬ MoreArgs Y one other := fun h => a1 h.1
  by_cases hf : faultN Y = 0
  case neg =>
    rcases hv4 with ⟨_, rfl⟩ | ⟨h0, _⟩ | ⟨h0, _⟩ | ⟨h0, _⟩
    · rcases hv5 with ⟨_, rfl⟩ | ⟨h0, _⟩ | ⟨h0, _⟩
      · have hmv : moreV Y one other = (0, faultN Y) := by unfold moreV; rw [if_pos hf]
        have hav : askV Y = (0, 0, faultN Y) := by unfold askV; rw [if_pos hf]
        rw [hmv] at en
        rw [hav] at eask
        simp only [rn0, rn1, rn2, rn3, rn4, rn5, rn6, rn7, rn8, if_true, if_false, Nat.le_refl, true_and, and_true, decide_true, decide_false, Bool.not_true, Bool.not_false, reduceIte, Nat.reduceEqDiff, Nat.reduceAdd, Nat.reduceMul, Nat.reduceSub, Nat.reduceLeDiff, Nat.reduceLT, w1, ht, hT', ey2, en, w2, ey3, eask, rw3.ld, w3, Nat.zero_add, List.getElem?_cons_zero, List.getElem?_cons_succ, Cells.len hrw, wv, i1, i2, ea4, w4, ea5, rw5.ld, w5, Cells.len hrw5, ex0, ex1, ex2, ex0', ex1', haw, Int.reduceEq, a1, hf]
      · exact absurd h0 hf
      · exact absurd h0 hf
    · exact absurd h0 hf
    · exact absurd h0 hf
    · exact absurd h0 hf
  have hmv : moreV Y one other = (0, 2) := by unfold moreV; rw [if_neg (by simpa using hf), if_pos hna]
  rw [hmv] at en
  rcases hv4 with ⟨h0, _⟩ | ⟨_, _, rfl⟩ | ⟨_, h0, _⟩ | ⟨_, h0, _⟩
  · exact absurd hf h0
  case inr.inr.inl => exact absurd h0 (by decide)
  case inr.inr.inr => exact absurd h0 (by decide)
  by_cases he : truths Y = []
  · have hre := (refTruths_nil hf).2 he
    have hav : askV Y = (0, 0, 11) := by unfold askV; rw [if_neg (by simpa using hf), if_pos he]
    rw [hav] at eask
    rcases hv5 with ⟨h0, _⟩ | ⟨_, _, rfl⟩ | ⟨_, h0, _⟩
    · exact absurd hf h0
    · simp only [rn0, rn1, rn2, rn3, rn4, rn5, rn6, rn7, rn8, if_true, if_false, Nat.le_refl, true_and, and_true, decide_true, decide_false, Bool.not_true, Bool.not_false, reduceIte, Nat.reduceEqDiff, Nat.reduceAdd, Nat.reduceMul, Nat.reduceSub, Nat.reduceLeDiff, Nat.reduceLT, w1, ht, hT', ey2, en, w2, ey3, eask, rw3.ld, w3, Nat.zero_add, List.getElem?_cons_zero, List.getElem?_cons_succ, Cells.len hrw, wv, i1, i2, ea4, w4, ea5, rw5.ld, w5, Cells.len hrw5, ex0, ex1, ex2, ex0', ex1', haw, Int.reduceEq, a1]
    · exact absurd hre h0
  have hre := (ref_nil_iff hf).2 he
  rcases hv5 with ⟨h0, _⟩ | ⟨_, h0, _⟩ | ⟨_, _, l, rfl, hl⟩
  · exact absurd hf h0
  · exact absurd h0 hre
  by_cases hv0 : Y.nv = 0
  · have hvi : decide ((Y.nv : Int) = 0) = true := decide_eq_true (by omega)
    have hav : askV Y = (0, 0, 7) := by unfold askV; rw [if_neg (by simpa using hf), if_neg he, if_pos hv0]
    rw [hav] at eask
    simp only [rn0, rn1, rn2, rn3, rn4, rn5, rn6, rn7, rn8, if_true, if_false, Nat.le_refl, true_and, and_true, decide_true, decide_false, Bool.not_true, Bool.not_false, reduceIte, Nat.reduceEqDiff, Nat.reduceAdd, Nat.reduceMul, Nat.reduceSub, Nat.reduceLeDiff, Nat.reduceLT, w1, ht, hT', ey2, en, w2, ey3, eask, rw3.ld, w3, Nat.zero_add, List.getElem?_cons_zero, List.getElem?_cons_succ, Cells.len hrw, wv, i1, i2, ea4, w4, ea5, rw5.ld, w5, Cells.len hrw5, ex0, ex1, ex2, ex0', ex1', haw, Int.reduceEq, a1, hvi]
  have hvi : ¬ (Y.nv : Int) = 0 := by omega
  have hav : askV Y = ((((askN (leavesF Y) (Y.nv - 1)).1 : Nat) : Int), (((askN (leavesF Y) (Y.nv - 1)).2 : Nat) : Int), 0) := by unfold askV; rw [if_neg (by simpa using hf), if_neg he, if_neg hv0]
  rw [hav] at eask
  have ek := askRef_c (n := n) (h := g5) (by omega) (by omega) hy15 hf hl (by omega)
  simp only [rn0, rn1, rn2, rn3, rn4, rn5, rn6, rn7, rn8, if_true, if_false, Nat.le_refl, true_and, and_true, decide_true, decide_false, Bool.not_true, Bool.not_false, reduceIte, Nat.reduceEqDiff, Nat.reduceAdd, Nat.reduceMul, Nat.reduceSub, Nat.reduceLeDiff, Nat.reduceLT, w1, ht, hT', ey2, en, w2, ey3, eask, rw3.ld, w3, Nat.zero_add, List.getElem?_cons_zero, List.getElem?_cons_succ, Cells.len hrw, wv, i1, i2, ea4, w4, ea5, rw5.ld, w5, Cells.len hrw5, ex0, ex1, ex2, ex0', ex1', haw, Int.reduceEq, a1, hvi, ek]
set_option maxHeartbeats 2000000 in
open Classical in
theorem moreLaw_2 (hn : 10095 ≤ n) (hr : h.next + 3000000 < far) (hfl : h.floor ≤ h.next) {fv vv sv : Value} {Y : MY} (hy : YardR h fv vv sv Y) (one other : Int) (a1 : 0 ≤ one ∧ one ≤ (Y.nv : Int) - 1) (a2 : ¬ (0 ≤ other ∧ other ≤ (Y.nv : Int) - 1)) :
    ∃ v h', call n (.func (.func 5) #[] #[]) [.agg ⟨[fv, vv, sv]⟩, .int .i64 one, .int .i64 other] h = some (v, h') ∧ v = .bool true := by
  obtain ⟨n, rfl⟩ : ∃ p, n = p + 1 := ⟨n - 1, by omega⟩
  refine call_any0 fok5 rfl rfl (by simp) ?_
  simp only [s5, W_seq, W_ops]
  refine ops_box (cs := [fv, vv, sv]) (by omega) rfl hy.one fun g1 hx1 => ?_
  have n1 := hx1.next
  have f1 := hx1.floor
  have hy1 := hy.mono hx1.sub
  have w1 := hx1.row.whole (n := 3) rfl
  have ht := thin_c (n := n) (h := g1) (by omega) (by omega) hy1
  by_cases hT : Thin Y
  case neg => simp only [rn0, rn1, rn2, rn3, rn4, rn5, rn6, rn7, rn8, if_true, if_false, Nat.le_refl, true_and, and_true, decide_true, decide_false, Bool.not_true, Bool.not_false, reduceIte, Nat.reduceEqDiff, Nat.reduceAdd, Nat.reduceMul, Nat.reduceSub, Nat.reduceLeDiff, Nat.reduceLT, w1, ht, hT, awake_c (n := n) (h := g1) (by omega)]
  obtain ⟨F1, V1, S1, g2, ey2, hy2, m2⟩ := yard_c (n := n) (h := g1) (by omega) (by omega) (by omega) hy1 hT
  have n2 := m2.next
  have u2 := m2.up
  have f2 := m2.floor
  have en := more_c (n := n) (h := g2) (by omega) (by omega) hy2 hT one other
  have hy12 := hy1.mono m2.sub
  have rw2 := hx1.row.mono m2.sub
  have w2 := rw2.whole (n := 3) rfl
  obtain ⟨F2, V2, S2, g3, ey3, hy3, m3⟩ := yard_c (n := n) (h := g2) (by omega) (by omega) (by omega) hy12 hT
  have n3 := m3.next
  have u3 := m3.up
  have f3 := m3.floor
  have eask := ask_c (n := n) (h := g3) (by omega) (by omega) hy3 hT
  have hy13 := hy12.mono m3.sub
  have rw3 := rw2.mono m3.sub
  have w3 := rw3.whole (n := 3) rfl
  obtain ⟨rr, hrw, hq⟩ := hy13.v
  have hT' := hT
  obtain ⟨t1, t2, t3, t4⟩ := hT
  have wv : wrapF .i64 ((Y.nv : Int) - 1) = (Y.nv : Int) - 1 := wrap_in (by omega) (by omega)
  have i1 := in_c (n := n) (h := g3) (by omega) one 0 ((Y.nv : Int) - 1)
  have i2 := in_c (n := n) (h := g3) (by omega) other 0 ((Y.nv : Int) - 1)
  obtain ⟨v4, g4, ea4, m4, hv4⟩ := asked_c (n := n) (h := g3) (by omega) (by omega) (by omega) hy13 2
  have n4 := m4.next
  have u4 := m4.up
  have f4 := m4.floor
  have hy14 := hy13.mono m4.sub
  have rw4 := rw3.mono m4.sub
  have w4 := rw4.whole (n := 3) rfl
  obtain ⟨v5, g5, ea5, m5, hv5⟩ := sure_c (n := n) (h := g4) (by omega) (by omega) (by omega) hy14
  have n5 := m5.next
  have u5 := m5.up
  have f5 := m5.floor
  have hy15 := hy14.mono m5.sub
  have rw5 := rw4.mono m5.sub
  have w5 := rw5.whole (n := 3) rfl
  obtain ⟨rr5, hrw5, hq5⟩ := hy15.v
  have haw := awake_c (n := n) (h := g5) (by omega)
  have hna : ¬ MoreArgs Y one other := fun h => a2 h.2
  by_cases hf : faultN Y = 0
  case neg =>
    rcases hv4 with ⟨_, rfl⟩ | ⟨h0, _⟩ | ⟨h0, _⟩ | ⟨h0, _⟩
    · rcases hv5 with ⟨_, rfl⟩ | ⟨h0, _⟩ | ⟨h0, _⟩
      · have hmv : moreV Y one other = (0, faultN Y) := by unfold moreV; rw [if_pos hf]
        have hav : askV Y = (0, 0, faultN Y) := by unfold askV; rw [if_pos hf]
        rw [hmv] at en
        rw [hav] at eask
        simp only [rn0, rn1, rn2, rn3, rn4, rn5, rn6, rn7, rn8, if_true, if_false, Nat.le_refl, true_and, and_true, decide_true, decide_false, Bool.not_true, Bool.not_false, reduceIte, Nat.reduceEqDiff, Nat.reduceAdd, Nat.reduceMul, Nat.reduceSub, Nat.reduceLeDiff, Nat.reduceLT, w1, ht, hT', ey2, en, w2, ey3, eask, rw3.ld, w3, Nat.zero_add, List.getElem?_cons_zero, List.getElem?_cons_succ, Cells.len hrw, wv, i1, i2, ea4, w4, ea5, rw5.ld, w5, Cells.len hrw5, ex0, ex1, ex2, ex0', ex1', haw, Int.reduceEq, a1, a2, and_self, hf]
      · exact absurd h0 hf
      · exact absurd h0 hf
    · exact absurd h0 hf
    · exact absurd h0 hf
    · exact absurd h0 hf
  have hmv : moreV Y one other = (0, 2) := by unfold moreV; rw [if_neg (by simpa using hf), if_pos hna]
  rw [hmv] at en
  rcases hv4 with ⟨h0, _⟩ | ⟨_, _, rfl⟩ | ⟨_, h0, _⟩ | ⟨_, h0, _⟩
  · exact absurd hf h0
  case inr.inr.inl => exact absurd h0 (by decide)
  case inr.inr.inr => exact absurd h0 (by decide)
  by_cases he : truths Y = []
  · have hre := (refTruths_nil hf).2 he
    have hav : askV Y = (0, 0, 11) := by unfold askV; rw [if_neg (by simpa using hf), if_pos he]
    rw [hav] at eask
    rcases hv5 with ⟨h0, _⟩ | ⟨_, _, rfl⟩ | ⟨_, h0, _⟩
    · exact absurd hf h0
    · simp only [rn0, rn1, rn2, rn3, rn4, rn5, rn6, rn7, rn8, if_true, if_false, Nat.le_refl, true_and, and_true, decide_true, decide_false, Bool.not_true, Bool.not_false, reduceIte, Nat.reduceEqDiff, Nat.reduceAdd, Nat.reduceMul, Nat.reduceSub, Nat.reduceLeDiff, Nat.reduceLT, w1, ht, hT', ey2, en, w2, ey3, eask, rw3.ld, w3, Nat.zero_add, List.getElem?_cons_zero, List.getElem?_cons_succ, Cells.len hrw, wv, i1, i2, ea4, w4, ea5, rw5.ld, w5, Cells.len hrw5, ex0, ex1, ex2, ex0', ex1', haw, Int.reduceEq, a1, a2, and_self]
    · exact absurd hre h0
  have hre := (ref_nil_iff hf).2 he
  rcases hv5 with ⟨h0, _⟩ | ⟨_, h0, _⟩ | ⟨_, _, l, rfl, hl⟩
  · exact absurd hf h0
  · exact absurd h0 hre
  by_cases hv0 : Y.nv = 0
  · have hvi : decide ((Y.nv : Int) = 0) = true := decide_eq_true (by omega)
    have hav : askV Y = (0, 0, 7) := by unfold askV; rw [if_neg (by simpa using hf), if_neg he, if_pos hv0]
    rw [hav] at eask
    simp only [rn0, rn1, rn2, rn3, rn4, rn5, rn6, rn7, rn8, if_true, if_false, Nat.le_refl, true_and, and_true, decide_true, decide_false, Bool.not_true, Bool.not_false, reduceIte, Nat.reduceEqDiff, Nat.reduceAdd, Nat.reduceMul, Nat.reduceSub, Nat.reduceLeDiff, Nat.reduceLT, w1, ht, hT', ey2, en, w2, ey3, eask, rw3.ld, w3, Nat.zero_add, List.getElem?_cons_zero, List.getElem?_cons_succ, Cells.len hrw, wv, i1, i2, ea4, w4, ea5, rw5.ld, w5, Cells.len hrw5, ex0, ex1, ex2, ex0', ex1', haw, Int.reduceEq, a1, a2, and_self, hvi]
  have hvi : ¬ (Y.nv : Int) = 0 := by omega
  have hav : askV Y = ((((askN (leavesF Y) (Y.nv - 1)).1 : Nat) : Int), (((askN (leavesF Y) (Y.nv - 1)).2 : Nat) : Int), 0) := by unfold askV; rw [if_neg (by simpa using hf), if_neg he, if_neg hv0]
  rw [hav] at eask
  have ek := askRef_c (n := n) (h := g5) (by omega) (by omega) hy15 hf hl (by omega)
  simp only [rn0, rn1, rn2, rn3, rn4, rn5, rn6, rn7, rn8, if_true, if_false, Nat.le_refl, true_and, and_true, decide_true, decide_false, Bool.not_true, Bool.not_false, reduceIte, Nat.reduceEqDiff, Nat.reduceAdd, Nat.reduceMul, Nat.reduceSub, Nat.reduceLeDiff, Nat.reduceLT, w1, ht, hT', ey2, en, w2, ey3, eask, rw3.ld, w3, Nat.zero_add, List.getElem?_cons_zero, List.getElem?_cons_succ, Cells.len hrw, wv, i1, i2, ea4, w4, ea5, rw5.ld, w5, Cells.len hrw5, ex0, ex1, ex2, ex0', ex1', haw, Int.reduceEq, a1, a2, and_self, hvi, ek]
set_option maxHeartbeats 2000000 in
open Classical in
theorem moreLaw_3 (hn : 10095 ≤ n) (hr : h.next + 3000000 < far) (hfl : h.floor ≤ h.next) {fv vv sv : Value} {Y : MY} (hy : YardR h fv vv sv Y) (one other : Int) (a1 : 0 ≤ one ∧ one ≤ (Y.nv : Int) - 1) (a2 : 0 ≤ other ∧ other ≤ (Y.nv : Int) - 1) (hso : one = other) :
    ∃ v h', call n (.func (.func 5) #[] #[]) [.agg ⟨[fv, vv, sv]⟩, .int .i64 one, .int .i64 other] h = some (v, h') ∧ v = .bool true := by
  obtain ⟨n, rfl⟩ : ∃ p, n = p + 1 := ⟨n - 1, by omega⟩
  refine call_any0 fok5 rfl rfl (by simp) ?_
  simp only [s5, W_seq, W_ops]
  refine ops_box (cs := [fv, vv, sv]) (by omega) rfl hy.one fun g1 hx1 => ?_
  have n1 := hx1.next
  have f1 := hx1.floor
  have hy1 := hy.mono hx1.sub
  have w1 := hx1.row.whole (n := 3) rfl
  have ht := thin_c (n := n) (h := g1) (by omega) (by omega) hy1
  by_cases hT : Thin Y
  case neg => simp only [rn0, rn1, rn2, rn3, rn4, rn5, rn6, rn7, rn8, if_true, if_false, Nat.le_refl, true_and, and_true, decide_true, decide_false, Bool.not_true, Bool.not_false, reduceIte, Nat.reduceEqDiff, Nat.reduceAdd, Nat.reduceMul, Nat.reduceSub, Nat.reduceLeDiff, Nat.reduceLT, w1, ht, hT, awake_c (n := n) (h := g1) (by omega)]
  obtain ⟨F1, V1, S1, g2, ey2, hy2, m2⟩ := yard_c (n := n) (h := g1) (by omega) (by omega) (by omega) hy1 hT
  have n2 := m2.next
  have u2 := m2.up
  have f2 := m2.floor
  have en := more_c (n := n) (h := g2) (by omega) (by omega) hy2 hT one other
  have hy12 := hy1.mono m2.sub
  have rw2 := hx1.row.mono m2.sub
  have w2 := rw2.whole (n := 3) rfl
  obtain ⟨F2, V2, S2, g3, ey3, hy3, m3⟩ := yard_c (n := n) (h := g2) (by omega) (by omega) (by omega) hy12 hT
  have n3 := m3.next
  have u3 := m3.up
  have f3 := m3.floor
  have eask := ask_c (n := n) (h := g3) (by omega) (by omega) hy3 hT
  have hy13 := hy12.mono m3.sub
  have rw3 := rw2.mono m3.sub
  have w3 := rw3.whole (n := 3) rfl
  obtain ⟨rr, hrw, hq⟩ := hy13.v
  have hT' := hT
  obtain ⟨t1, t2, t3, t4⟩ := hT
  have wv : wrapF .i64 ((Y.nv : Int) - 1) = (Y.nv : Int) - 1 := wrap_in (by omega) (by omega)
  have i1 := in_c (n := n) (h := g3) (by omega) one 0 ((Y.nv : Int) - 1)
  have i2 := in_c (n := n) (h := g3) (by omega) other 0 ((Y.nv : Int) - 1)
  obtain ⟨v4, g4, ea4, m4, hv4⟩ := asked_c (n := n) (h := g3) (by omega) (by omega) (by omega) hy13 6
  have n4 := m4.next
  have u4 := m4.up
  have f4 := m4.floor
  have hy14 := hy13.mono m4.sub
  have rw4 := rw3.mono m4.sub
  have w4 := rw4.whole (n := 3) rfl
  obtain ⟨v5, g5, ea5, m5, hv5⟩ := sure_c (n := n) (h := g4) (by omega) (by omega) (by omega) hy14
  have n5 := m5.next
  have u5 := m5.up
  have f5 := m5.floor
  have hy15 := hy14.mono m5.sub
  have rw5 := rw4.mono m5.sub
  have w5 := rw5.whole (n := 3) rfl
  obtain ⟨rr5, hrw5, hq5⟩ := hy15.v
  have haw := awake_c (n := n) (h := g5) (by omega)
  have hargs : MoreArgs Y one other := ⟨a1, a2⟩
  have hsd : decide (one = other) = true := decide_eq_true hso
  by_cases hf : faultN Y = 0
  case neg =>
    rcases hv4 with ⟨_, rfl⟩ | ⟨h0, _⟩ | ⟨h0, _⟩ | ⟨h0, _⟩
    · rcases hv5 with ⟨_, rfl⟩ | ⟨h0, _⟩ | ⟨h0, _⟩
      · have hmv : moreV Y one other = (0, faultN Y) := by unfold moreV; rw [if_pos hf]
        have hav : askV Y = (0, 0, faultN Y) := by unfold askV; rw [if_pos hf]
        rw [hmv] at en
        rw [hav] at eask
        simp only [rn0, rn1, rn2, rn3, rn4, rn5, rn6, rn7, rn8, if_true, if_false, Nat.le_refl, true_and, and_true, decide_true, decide_false, Bool.not_true, Bool.not_false, reduceIte, Nat.reduceEqDiff, Nat.reduceAdd, Nat.reduceMul, Nat.reduceSub, Nat.reduceLeDiff, Nat.reduceLT, w1, ht, hT', ey2, en, w2, ey3, eask, rw3.ld, w3, Nat.zero_add, List.getElem?_cons_zero, List.getElem?_cons_succ, Cells.len hrw, wv, i1, i2, ea4, w4, ea5, rw5.ld, w5, Cells.len hrw5, ex0, ex1, ex2, ex0', ex1', haw, Int.reduceEq, a1, a2, and_self, hsd, hf]
      · exact absurd h0 hf
      · exact absurd h0 hf
    · exact absurd h0 hf
    · exact absurd h0 hf
    · exact absurd h0 hf
  have hmv : moreV Y one other = (0, 6) := by unfold moreV; rw [if_neg (by simpa using hf), if_neg (by simpa using hargs), if_pos hso]
  rw [hmv] at en
  rcases hv4 with ⟨h0, _⟩ | ⟨_, _, rfl⟩ | ⟨_, h0, _⟩ | ⟨_, h0, _⟩
  · exact absurd hf h0
  case inr.inr.inl => exact absurd h0 (by decide)
  case inr.inr.inr => exact absurd h0 (by decide)
  by_cases he : truths Y = []
  · have hre := (refTruths_nil hf).2 he
    have hav : askV Y = (0, 0, 11) := by unfold askV; rw [if_neg (by simpa using hf), if_pos he]
    rw [hav] at eask
    rcases hv5 with ⟨h0, _⟩ | ⟨_, _, rfl⟩ | ⟨_, h0, _⟩
    · exact absurd hf h0
    · simp only [rn0, rn1, rn2, rn3, rn4, rn5, rn6, rn7, rn8, if_true, if_false, Nat.le_refl, true_and, and_true, decide_true, decide_false, Bool.not_true, Bool.not_false, reduceIte, Nat.reduceEqDiff, Nat.reduceAdd, Nat.reduceMul, Nat.reduceSub, Nat.reduceLeDiff, Nat.reduceLT, w1, ht, hT', ey2, en, w2, ey3, eask, rw3.ld, w3, Nat.zero_add, List.getElem?_cons_zero, List.getElem?_cons_succ, Cells.len hrw, wv, i1, i2, ea4, w4, ea5, rw5.ld, w5, Cells.len hrw5, ex0, ex1, ex2, ex0', ex1', haw, Int.reduceEq, a1, a2, and_self, hsd]
    · exact absurd hre h0
  have hre := (ref_nil_iff hf).2 he
  rcases hv5 with ⟨h0, _⟩ | ⟨_, h0, _⟩ | ⟨_, _, l, rfl, hl⟩
  · exact absurd hf h0
  · exact absurd h0 hre
  by_cases hv0 : Y.nv = 0
  · have hvi : decide ((Y.nv : Int) = 0) = true := decide_eq_true (by omega)
    have hav : askV Y = (0, 0, 7) := by unfold askV; rw [if_neg (by simpa using hf), if_neg he, if_pos hv0]
    rw [hav] at eask
    simp only [rn0, rn1, rn2, rn3, rn4, rn5, rn6, rn7, rn8, if_true, if_false, Nat.le_refl, true_and, and_true, decide_true, decide_false, Bool.not_true, Bool.not_false, reduceIte, Nat.reduceEqDiff, Nat.reduceAdd, Nat.reduceMul, Nat.reduceSub, Nat.reduceLeDiff, Nat.reduceLT, w1, ht, hT', ey2, en, w2, ey3, eask, rw3.ld, w3, Nat.zero_add, List.getElem?_cons_zero, List.getElem?_cons_succ, Cells.len hrw, wv, i1, i2, ea4, w4, ea5, rw5.ld, w5, Cells.len hrw5, ex0, ex1, ex2, ex0', ex1', haw, Int.reduceEq, a1, a2, and_self, hsd, hvi]
  have hvi : ¬ (Y.nv : Int) = 0 := by omega
  have hav : askV Y = ((((askN (leavesF Y) (Y.nv - 1)).1 : Nat) : Int), (((askN (leavesF Y) (Y.nv - 1)).2 : Nat) : Int), 0) := by unfold askV; rw [if_neg (by simpa using hf), if_neg he, if_neg hv0]
  rw [hav] at eask
  have ek := askRef_c (n := n) (h := g5) (by omega) (by omega) hy15 hf hl (by omega)
  simp only [rn0, rn1, rn2, rn3, rn4, rn5, rn6, rn7, rn8, if_true, if_false, Nat.le_refl, true_and, and_true, decide_true, decide_false, Bool.not_true, Bool.not_false, reduceIte, Nat.reduceEqDiff, Nat.reduceAdd, Nat.reduceMul, Nat.reduceSub, Nat.reduceLeDiff, Nat.reduceLT, w1, ht, hT', ey2, en, w2, ey3, eask, rw3.ld, w3, Nat.zero_add, List.getElem?_cons_zero, List.getElem?_cons_succ, Cells.len hrw, wv, i1, i2, ea4, w4, ea5, rw5.ld, w5, Cells.len hrw5, ex0, ex1, ex2, ex0', ex1', haw, Int.reduceEq, a1, a2, and_self, hsd, hvi, ek]
set_option maxHeartbeats 2000000 in
open Classical in
theorem moreLaw_4 (hn : 10095 ≤ n) (hr : h.next + 3000000 < far) (hfl : h.floor ≤ h.next) {fv vv sv : Value} {Y : MY} (hy : YardR h fv vv sv Y) (one other : Int) (a1 : 0 ≤ one ∧ one ≤ (Y.nv : Int) - 1) (a2 : 0 ≤ other ∧ other ≤ (Y.nv : Int) - 1) (hso : ¬ one = other) :
    ∃ v h', call n (.func (.func 5) #[] #[]) [.agg ⟨[fv, vv, sv]⟩, .int .i64 one, .int .i64 other] h = some (v, h') ∧ v = .bool true := by
  obtain ⟨n, rfl⟩ : ∃ p, n = p + 1 := ⟨n - 1, by omega⟩
  refine call_any0 fok5 rfl rfl (by simp) ?_
  simp only [s5, W_seq, W_ops]
  refine ops_box (cs := [fv, vv, sv]) (by omega) rfl hy.one fun g1 hx1 => ?_
  have n1 := hx1.next
  have f1 := hx1.floor
  have hy1 := hy.mono hx1.sub
  have w1 := hx1.row.whole (n := 3) rfl
  have ht := thin_c (n := n) (h := g1) (by omega) (by omega) hy1
  by_cases hT : Thin Y
  case neg => simp only [rn0, rn1, rn2, rn3, rn4, rn5, rn6, rn7, rn8, if_true, if_false, Nat.le_refl, true_and, and_true, decide_true, decide_false, Bool.not_true, Bool.not_false, reduceIte, Nat.reduceEqDiff, Nat.reduceAdd, Nat.reduceMul, Nat.reduceSub, Nat.reduceLeDiff, Nat.reduceLT, w1, ht, hT, awake_c (n := n) (h := g1) (by omega)]
  obtain ⟨F1, V1, S1, g2, ey2, hy2, m2⟩ := yard_c (n := n) (h := g1) (by omega) (by omega) (by omega) hy1 hT
  have n2 := m2.next
  have u2 := m2.up
  have f2 := m2.floor
  have en := more_c (n := n) (h := g2) (by omega) (by omega) hy2 hT one other
  have hy12 := hy1.mono m2.sub
  have rw2 := hx1.row.mono m2.sub
  have w2 := rw2.whole (n := 3) rfl
  obtain ⟨F2, V2, S2, g3, ey3, hy3, m3⟩ := yard_c (n := n) (h := g2) (by omega) (by omega) (by omega) hy12 hT
  have n3 := m3.next
  have u3 := m3.up
  have f3 := m3.floor
  have eask := ask_c (n := n) (h := g3) (by omega) (by omega) hy3 hT
  have hy13 := hy12.mono m3.sub
  have rw3 := rw2.mono m3.sub
  have w3 := rw3.whole (n := 3) rfl
  obtain ⟨rr, hrw, hq⟩ := hy13.v
  have hT' := hT
  obtain ⟨t1, t2, t3, t4⟩ := hT
  have wv : wrapF .i64 ((Y.nv : Int) - 1) = (Y.nv : Int) - 1 := wrap_in (by omega) (by omega)
  have i1 := in_c (n := n) (h := g3) (by omega) one 0 ((Y.nv : Int) - 1)
  have i2 := in_c (n := n) (h := g3) (by omega) other 0 ((Y.nv : Int) - 1)
  obtain ⟨v4, g4, ea4, m4, hv4⟩ := asked_c (n := n) (h := g3) (by omega) (by omega) (by omega) hy13 0
  have n4 := m4.next
  have u4 := m4.up
  have f4 := m4.floor
  have hy14 := hy13.mono m4.sub
  have rw4 := rw3.mono m4.sub
  have w4 := rw4.whole (n := 3) rfl
  obtain ⟨v5, g5, ea5, m5, hv5⟩ := sure_c (n := n) (h := g4) (by omega) (by omega) (by omega) hy14
  have n5 := m5.next
  have u5 := m5.up
  have f5 := m5.floor
  have hy15 := hy14.mono m5.sub
  have rw5 := rw4.mono m5.sub
  have w5 := rw5.whole (n := 3) rfl
  obtain ⟨rr5, hrw5, hq5⟩ := hy15.v
  have haw := awake_c (n := n) (h := g5) (by omega)
  have hargs : MoreArgs Y one other := ⟨a1, a2⟩
  by_cases hf : faultN Y = 0
  case neg =>
    rcases hv4 with ⟨_, rfl⟩ | ⟨h0, _⟩ | ⟨h0, _⟩ | ⟨h0, _⟩
    · rcases hv5 with ⟨_, rfl⟩ | ⟨h0, _⟩ | ⟨h0, _⟩
      · have hmv : moreV Y one other = (0, faultN Y) := by unfold moreV; rw [if_pos hf]
        have hav : askV Y = (0, 0, faultN Y) := by unfold askV; rw [if_pos hf]
        rw [hmv] at en
        rw [hav] at eask
        simp only [rn0, rn1, rn2, rn3, rn4, rn5, rn6, rn7, rn8, if_true, if_false, Nat.le_refl, true_and, and_true, decide_true, decide_false, Bool.not_true, Bool.not_false, reduceIte, Nat.reduceEqDiff, Nat.reduceAdd, Nat.reduceMul, Nat.reduceSub, Nat.reduceLeDiff, Nat.reduceLT, w1, ht, hT', ey2, en, w2, ey3, eask, rw3.ld, w3, Nat.zero_add, List.getElem?_cons_zero, List.getElem?_cons_succ, Cells.len hrw, wv, i1, i2, ea4, w4, ea5, rw5.ld, w5, Cells.len hrw5, ex0, ex1, ex2, ex0', ex1', haw, Int.reduceEq, a1, a2, and_self, hso, hf]
      · exact absurd h0 hf
      · exact absurd h0 hf
    · exact absurd h0 hf
    · exact absurd h0 hf
    · exact absurd h0 hf
  by_cases he : truths Y = []
  · have hre := (refTruths_nil hf).2 he
    have hav : askV Y = (0, 0, 11) := by unfold askV; rw [if_neg (by simpa using hf), if_pos he]
    rw [hav] at eask
    rcases hv5 with ⟨h0, _⟩ | ⟨_, _, rfl⟩ | ⟨_, h0, _⟩
    · exact absurd hf h0
    · have hmv : moreV Y one other = (0, 11) := by unfold moreV; rw [if_neg (by simpa using hf), if_neg (by simpa using hargs), if_neg hso, if_pos he]
      rw [hmv] at en
      rcases hv4 with ⟨h0, _⟩ | ⟨_, h0, _⟩ | ⟨_, _, _, rfl⟩ | ⟨_, _, h0, _⟩
      · exact absurd hf h0
      · exact absurd rfl h0
      · simp only [rn0, rn1, rn2, rn3, rn4, rn5, rn6, rn7, rn8, if_true, if_false, Nat.le_refl, true_and, and_true, decide_true, decide_false, Bool.not_true, Bool.not_false, reduceIte, Nat.reduceEqDiff, Nat.reduceAdd, Nat.reduceMul, Nat.reduceSub, Nat.reduceLeDiff, Nat.reduceLT, w1, ht, hT', ey2, en, w2, ey3, eask, rw3.ld, w3, Nat.zero_add, List.getElem?_cons_zero, List.getElem?_cons_succ, Cells.len hrw, wv, i1, i2, ea4, w4, ea5, rw5.ld, w5, Cells.len hrw5, ex0, ex1, ex2, ex0', ex1', haw, Int.reduceEq, a1, a2, and_self, hso]
      · exact absurd hre h0
    · exact absurd hre h0
  have hre := (ref_nil_iff hf).2 he
  rcases hv5 with ⟨h0, _⟩ | ⟨_, h0, _⟩ | ⟨_, _, l, rfl, hl⟩
  · exact absurd hf h0
  · exact absurd h0 hre
  have hv0 : 0 < Y.nv := by omega
  have hvi : ¬ (Y.nv : Int) = 0 := by omega
  have hmv : moreV Y one other = (verdictV Y one.toNat other.toNat, 0) := by unfold moreV; rw [if_neg (by simpa using hf), if_neg (by simpa using hargs), if_neg hso, if_neg he]
  rw [hmv] at en
  have hav : askV Y = ((((askN (leavesF Y) (Y.nv - 1)).1 : Nat) : Int), (((askN (leavesF Y) (Y.nv - 1)).2 : Nat) : Int), 0) := by unfold askV; rw [if_neg (by simpa using hf), if_neg he, if_neg (by omega)]
  rw [hav] at eask
  rcases hv4 with ⟨h0, _⟩ | ⟨_, h0, _⟩ | ⟨_, _, h0, _⟩ | ⟨_, _, _, l4, rfl, hl4⟩
  · exact absurd hf h0
  · exact absurd rfl h0
  · exact absurd h0 hre
  have em := moreRef_c (n := n) (h := g4) (a := one.toNat) (b := other.toNat) (by omega) (by omega) hy14 hf he hl4 (by omega) (by omega)
  rw [Int.toNat_of_nonneg a1.1, Int.toNat_of_nonneg a2.1] at em
  have ek := askRef_c (n := n) (h := g5) (by omega) (by omega) hy15 hf hl hv0
  simp only [rn0, rn1, rn2, rn3, rn4, rn5, rn6, rn7, rn8, if_true, if_false, Nat.le_refl, true_and, and_true, decide_true, decide_false, Bool.not_true, Bool.not_false, reduceIte, Nat.reduceEqDiff, Nat.reduceAdd, Nat.reduceMul, Nat.reduceSub, Nat.reduceLeDiff, Nat.reduceLT, w1, ht, hT', ey2, en, w2, ey3, eask, rw3.ld, w3, Nat.zero_add, List.getElem?_cons_zero, List.getElem?_cons_succ, Cells.len hrw, wv, i1, i2, ea4, w4, ea5, rw5.ld, w5, Cells.len hrw5, ex0, ex1, ex2, ex0', ex1', haw, Int.reduceEq, a1, a2, and_self, hso, em, hvi, ek]
theorem moreLaw_c (hn : 10095 ≤ n) (hr : h.next + 3000000 < far) (hfl : h.floor ≤ h.next) {fv vv sv : Value} {Y : MY} (hy : YardR h fv vv sv Y) (one other : Int) :
    ∃ v h', call n (.func (.func 5) #[] #[]) [.agg ⟨[fv, vv, sv]⟩, .int .i64 one, .int .i64 other] h = some (v, h') ∧ v = .bool true := by
  by_cases a1 : 0 ≤ one ∧ one ≤ (Y.nv : Int) - 1
  case neg => exact moreLaw_1 hn hr hfl hy one other a1
  by_cases a2 : 0 ≤ other ∧ other ≤ (Y.nv : Int) - 1
  case neg => exact moreLaw_2 hn hr hfl hy one other a1 a2
  by_cases a3 : one = other
  · exact moreLaw_3 hn hr hfl hy one other a1 a2 a3
  · exact moreLaw_4 hn hr hfl hy one other a1 a2 a3
end Go.Vm.Vat
