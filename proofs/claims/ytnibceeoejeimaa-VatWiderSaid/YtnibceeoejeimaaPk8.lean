/- Texts of the proofs of this seat, put together: VatCloser, VatLeftA, VatWiderP, VatWiderL. -/
import Derived.Test.YtnibceeoejeimaaPk7

namespace Go.Vm.Vat
open Go.Proofs
set_option linter.unusedSimpArgs false
set_option linter.unusedVariables false
set_option maxRecDepth 10000
variable {n : Nat} {h : AHeap}
def s112 : SCode := (.seq (.ops [⟨(some 4), none, .mov (.const (.bool false))⟩]) (.seq (.seq (.ops [⟨(some 6), none, .mov (T 0)⟩, ⟨(some 7), none, .len (T 6)⟩, ⟨(some 8), none, .mov (T 1)⟩, ⟨(some 9), none, .len (T 8)⟩, ⟨(some 10), none, .int2 .neq (T 7) (T 9)⟩]) (.cond (T 10) (.seq (.ops [⟨(some 4), none, .mov (.const (.bool false))⟩]) .ret) .skip)) (.seq (.seq (.ops [⟨(some 5), none, .mov (.const (.int .i64 (0)))⟩]) (.block 0 (.loop (.seq (.seq (.ops [⟨(some 11), none, .mov (T 5)⟩, ⟨(some 12), none, .mov (T 0)⟩, ⟨(some 13), none, .len (T 12)⟩, ⟨(some 14), none, .int2 .lss (T 11) (T 13)⟩]) (.cond (T 14) .skip (.exit 0))) (.seq (.block 1 (.seq (.draw [⟨.free, ⟨(some 17), none, .mov (T 0)⟩⟩, ⟨.free, ⟨(some 18), none, .mov (T 5)⟩⟩, ⟨.free, ⟨(some 19), none, .idxSl 2 (T 17) (T 18)⟩⟩, ⟨.free, ⟨(some 20), none, .fieldAddr 0 (T 19)⟩⟩, ⟨.rd1, ⟨(some 21), none, .load1 (T 20)⟩⟩, ⟨.free, ⟨(some 22), none, .mov (T 1)⟩⟩, ⟨.free, ⟨(some 23), none, .mov (T 5)⟩⟩, ⟨.free, ⟨(some 24), none, .idxSl 2 (T 22) (T 23)⟩⟩, ⟨.free, ⟨(some 25), none, .fieldAddr 0 (T 24)⟩⟩, ⟨.rd1, ⟨(some 26), none, .load1 (T 25)⟩⟩, ⟨.free, ⟨(some 27), none, .int2 .lss (T 21) (T 26)⟩⟩, ⟨.free, ⟨(some 28), none, .mov (T 27)⟩⟩, ⟨.free, ⟨(some 29), (some (28, false)), .mov (T 0)⟩⟩, ⟨.free, ⟨(some 30), (some (28, false)), .mov (T 5)⟩⟩, ⟨.free, ⟨(some 31), (some (28, false)), .idxSl 2 (T 29) (T 30)⟩⟩, ⟨.free, ⟨(some 32), (some (28, false)), .fieldAddr 1 (T 31)⟩⟩, ⟨.rd1, ⟨(some 33), (some (28, false)), .load1 (T 32)⟩⟩, ⟨.free, ⟨(some 34), (some (28, false)), .mov (T 1)⟩⟩, ⟨.free, ⟨(some 35), (some (28, false)), .mov (T 5)⟩⟩, ⟨.free, ⟨(some 36), (some (28, false)), .idxSl 2 (T 34) (T 35)⟩⟩, ⟨.free, ⟨(some 37), (some (28, false)), .fieldAddr 1 (T 36)⟩⟩, ⟨.rd1, ⟨(some 38), (some (28, false)), .load1 (T 37)⟩⟩, ⟨.free, ⟨(some 39), (some (28, false)), .int2 .gtr (T 33) (T 38)⟩⟩, ⟨.free, ⟨(some 40), none, .pick (T 28) (.const (.bool true)) (T 39)⟩⟩]) (.cond (T 40) (.seq (.ops [⟨(some 4), none, .mov (.const (.bool false))⟩]) .ret) .skip))) (.ops [⟨(some 15), none, .mov (T 5)⟩, ⟨(some 16), none, .int2 .add (T 15) (.const (.int .i64 (1)))⟩, ⟨(some 5), none, .mov (T 16)⟩])))))) (.seq (.ops [⟨(some 4), none, .mov (.const (.bool true))⟩]) .ret))))
theorem fok112 : FnOk Try.prog 112 41 s112 [.tmp 4] := ⟨Try.f112, _, Try.func112, rfl, Try.ntmps112, by kernel_rfl, by kernel_rfl⟩
theorem within_c (hn : 1010 ≤ n) {va vb : Value} {m : Nat} {lo hi lo' hi' : Nat → Int} (ha : Ranges h va m lo hi) (hb : Ranges h vb m lo' hi') (hm : m ≤ 1000) (hl : ∀ k, k < m → lo' k ≤ lo k ∧ hi k ≤ hi' k) :
    call n (.func (.func 112) #[] #[]) [va, vb] h = some (.bool true, h) := by
  obtain ⟨n, rfl⟩ : ∃ p, n = p + 1 := ⟨n - 1, by omega⟩
  refine call_plain0 fok112 rfl rfl (by simp) rfl ?_
  have ha : Ranges h.shutAll va m lo hi := Cells.shut ha
  have hb : Ranges h.shutAll vb m lo' hi' := Cells.shut hb
  generalize h.shutAll = h at ha hb
  simp only [rn0, rn1, rn2, rn3, rn4, rn5, rn6, rn7, rn8, if_true, if_false, Nat.le_refl, true_and, and_true, decide_true, decide_false, Bool.not_true, Bool.not_false, reduceIte, Nat.reduceEqDiff, Nat.reduceAdd, Nat.reduceMul, Nat.reduceSub, Nat.reduceLeDiff, Nat.reduceLT, s112, Cells.len ha, Cells.len hb]
  refine W_loop m (fun k f g ms => g = h ∧ ms = [] ∧ f 0 = va ∧ f 1 = vb ∧ f 5 = .int .i64 (k : Int)) (by simp; omega) ?_ ?_ ?_
  · simp only [rn0, rn1, rn2, rn3, rn4, rn5, rn6, rn7, rn8, if_true, if_false, Nat.le_refl, true_and, and_true, decide_true, decide_false, Bool.not_true, Bool.not_false, reduceIte, Nat.reduceEqDiff, Nat.reduceAdd, Nat.reduceMul, Nat.reduceSub, Nat.reduceLeDiff, Nat.reduceLT]
    trivial
  · rintro k f g ms hk ⟨rfl, rfl, p0, p1, p5⟩
    have hk' : (k : Int) < (m : Int) := by omega
    have hw : wrapF .i64 ((k : Int) + 1) = ((k + 1 : Nat) : Int) := by rw [wrap_in (by omega) (by omega)]; rfl
    obtain ⟨h1, h2⟩ := hl k hk
    have c1 : ¬ lo k < lo' k := by omega
    have c2 : ¬ hi' k < hi k := by omega
    have l1 : loadCell g (ptrO va 2 k 0) = some (.int .i64 (lo k)) := Cells.ld ha hk (by omega)
    have l2 : loadCell g (ptrO va 2 k 1) = some (.int .i64 (hi k)) := Cells.ld ha hk (by omega)
    have l3 : loadCell g (ptrO vb 2 k 0) = some (.int .i64 (lo' k)) := Cells.ld hb hk (by omega)
    have l4 : loadCell g (ptrO vb 2 k 1) = some (.int .i64 (hi' k)) := Cells.ld hb hk (by omega)
    simp only [rn0, rn1, rn2, rn3, rn4, rn5, rn6, rn7, rn8, if_true, if_false, Nat.le_refl, true_and, and_true, decide_true, decide_false, Bool.not_true, Bool.not_false, reduceIte, Nat.reduceEqDiff, Nat.reduceAdd, Nat.reduceMul, Nat.reduceSub, Nat.reduceLeDiff, Nat.reduceLT, p0, p1, p5, Cells.len ha, hk']
    refine W_draw All ?_
    simp only [rn0, rn1, rn2, rn3, rn4, rn5, rn6, rn7, rn8, if_true, if_false, Nat.le_refl, true_and, and_true, decide_true, decide_false, Bool.not_true, Bool.not_false, reduceIte, Nat.reduceEqDiff, Nat.reduceAdd, Nat.reduceMul, Nat.reduceSub, Nat.reduceLeDiff, Nat.reduceLT, p0, p1, p5, d_guard, dg_tt, dg_tf, dg_ft, dg_ff, Cells.idx ha hk, Cells.idx hb hk, Cells.fld ha hk, Cells.fld hb hk, l1, l2, l3, l4, c1, c2, hw]
  · rintro f g ms ⟨rfl, rfl, p0, p1, p5⟩
    simp only [rn0, rn1, rn2, rn3, rn4, rn5, rn6, rn7, rn8, if_true, if_false, Nat.le_refl, true_and, and_true, decide_true, decide_false, Bool.not_true, Bool.not_false, reduceIte, Nat.reduceEqDiff, Nat.reduceAdd, Nat.reduceMul, Nat.reduceSub, Nat.reduceLeDiff, Nat.reduceLT, p0, p1, p5, Cells.len ha, Int.lt_irrefl]
/-! ### Of two yards with the same vats, one with no other truths than the other one -/
structure Inner (X Y : MY) : Prop where
  nf : X.nf = Y.nf
  nv : X.nv = Y.nv
  q : X.q = Y.q
  fx : faultN X = 0
  fy : faultN Y = 0
  ne : truths X ≠ []
  sub : ∀ t, t ∈ truths X → t ∈ truths Y
theorem Inner.ney {X Y : MY} (hi : Inner X Y) : truths Y ≠ [] := by
  obtain ⟨t, ht⟩ := List.exists_mem_of_ne_nil _ hi.ne
  exact List.ne_nil_of_mem (hi.sub t ht)
theorem Inner.lo {X Y : MY} (hi : Inner X Y) (val : (Nat → Int) → Int) : loN val (truths Y) ≤ loN val (truths X) := (le_loN hi.ne).2 fun t ht => (le_loN hi.ney).1 (Int.le_refl _) t (hi.sub t ht)
theorem Inner.hi {X Y : MY} (hi : Inner X Y) (val : (Nat → Int) → Int) : hiN val (truths X) ≤ hiN val (truths Y) := (hiN_le hi.ne).2 fun t ht => (hiN_le hi.ney).1 (Int.le_refl _) t (hi.sub t ht)
theorem Inner.above {X Y : MY} (hi : Inner X Y) (a b : Nat) (t : Nat → Int) : Above X a b t ↔ Above Y a b t := by unfold Above; rw [hi.nf, hi.q]
theorem Inner.verdict {X Y : MY} (hi : Inner X Y) (a b : Nat) (h3 : verdictV Y a b ≠ 3) : verdictV X a b = verdictV Y a b := by
  unfold verdictV at h3 ⊢
  by_cases c1 : ∀ t, t ∈ truths Y → ¬ Above Y a b t
  · rw [if_pos c1, if_pos fun t ht => by rw [hi.above]; exact c1 t (hi.sub t ht)]
  · rw [if_neg c1] at h3 ⊢
    by_cases c2 : ∀ t, t ∈ truths Y → Above Y a b t
    · obtain ⟨t, ht⟩ := List.exists_mem_of_ne_nil _ hi.ne
      have hall : ∀ t, t ∈ truths X → Above X a b t := fun t ht => (hi.above a b t).2 (c2 t (hi.sub t ht))
      rw [if_pos c2, if_neg fun hc => hc t ht (hall t ht), if_pos hall]
    · rw [if_neg c2] at h3
      exact absurd rfl h3
open Classical in
theorem moreV_in {Y : MY} (hf : faultN Y = 0) (he : truths Y ≠ []) {a b : Nat} (ha : a < Y.nv) (hb : b < Y.nv) (hab : a ≠ b) : moreV Y (a : Int) (b : Int) = (verdictV Y a b, 0) := by
  unfold moreV
  have h1 : MoreArgs Y (a : Int) (b : Int) := ⟨⟨by omega, by omega⟩, by omega, by omega⟩
  rw [if_neg (by simpa using hf), if_neg (fun e => e h1), if_neg (by omega), if_neg he, Int.toNat_natCast, Int.toNat_natCast]
theorem Inner.with_ {X Y : MY} (hi : Inner X Y) (v f k : Nat) (t : Nat → Int) : blueWith X v f k t = blueWith Y v f k t := by unfold blueWith; rw [hi.nf, hi.q]
theorem Inner.enough {X Y : MY} (hi : Inner X Y) {v f : Nat} {b : Int} {k : Nat} (h : Enough Y v f b (truths Y) k) : Enough X v f b (truths X) k := fun t ht => by rw [hi.with_]; exact h t (hi.sub t ht)
theorem Inner.sure {X Y : MY} (hi : Inner X Y) (v f k : Nat) : sureN Y v f k (truths Y) ≤ sureN X v f k (truths X) := by
  rw [le_sureN hi.ne]
  intro t ht
  rw [hi.with_]
  exact (le_sureN hi.ney).1 (Int.le_refl _) t (hi.sub t ht)
theorem Inner.best {X Y : MY} (hi : Inner X Y) {f k : Nat} (hf : f < Y.nf) (hv : 0 < Y.nv) : (bestS Y f k).2 ≤ (bestS X f k).2 := by
  have hvx : 0 < X.nv := by rw [hi.nv]; exact hv
  obtain ⟨b1, b2, _, _⟩ := spRun_is (S := fun v k => sureN Y v f k (truths Y)) (nv := Y.nv) (many := k) hv fun v k h _ => sureN_pos hi.fy hi.ney h hf
  obtain ⟨_, _, c3, _⟩ := spRun_is (S := fun v k => sureN X v f k (truths X)) (nv := X.nv) (many := k) hvx fun v k h _ => sureN_pos hi.fx hi.ne h (by rw [hi.nf]; exact hf)
  have h1 := c3 (bestS Y f k).1 (by rw [hi.nv]; exact b1)
  refine Int.le_trans ?_ h1
  show (spRun _ Y.nv k).2 ≤ _
  rw [b2, hi.nv]
  exact (le_lowS hv).2 fun v hvv => Int.le_trans ((le_lowS hv).1 (Int.le_refl _) v hvv) (hi.sure v f _)
/-- if the outer one has enough with so many, the inner one does with no more -/
theorem Inner.needs {X Y : MY} (hi : Inner X Y) {v f : Nat} (hv : v < Y.nv) (hf : f < Y.nf) {b : Int} (hb : 0 ≤ b ∧ b ≤ 999) :
    (needsV Y (v : Int) (f : Int) b).2 = 0 → (needsV X (v : Int) (f : Int) b).2 = 0 ∧ (needsV X (v : Int) (f : Int) b).1 ≤ (needsV Y (v : Int) (f : Int) b).1 := by
  rw [needsV_in hi.fy hv hf hb, needsV_in hi.fx (by rw [hi.nv]; exact hv) (by rw [hi.nf]; exact hf) hb, if_neg hi.ne, if_neg hi.ney]
  by_cases hp : 0 ≤ findFrom (Enough Y v f b (truths Y)) 10 0
  · rw [if_pos hp]
    intro _
    obtain ⟨k, k1, k2, k3, k4⟩ := findFrom_get hp
    have hpx : 0 ≤ findFrom (Enough X v f b (truths X)) 10 0 := findFrom_iff.2 ⟨k, k1, hi.enough k2⟩
    rw [if_pos hpx]
    obtain ⟨m, m1, m2, m3, m4⟩ := findFrom_get hpx
    refine ⟨rfl, ?_⟩
    show findFrom _ 10 0 ≤ findFrom _ 10 0
    rw [k4, m4]
    have : m ≤ k := by
      apply Classical.byContradiction
      intro hc
      exact m3 k (by omega) (hi.enough k2)
    omega
  · rw [if_neg hp]
    intro h
    cases h
def s68 : SCode := (.seq (.ops [⟨(some 4), none, .box (T 0)⟩, ⟨(some 5), none, .box (T 1)⟩, ⟨(some 8), none, .mov (.const (.bool false))⟩]) (.seq (.ops [⟨(some 30), none, .loadN 3 (T 4)⟩, ⟨(some 31), none, .call (.func 26) [(T 30)]⟩, ⟨(some 32), none, .call (.func 34) [(T 31)]⟩, ⟨(some 29), none, .mov (T 32)⟩, ⟨(some 33), none, .extract 0 (T 29)⟩, ⟨(some 34), none, .extract 1 (T 29)⟩, ⟨(some 9), none, .mov (T 33)⟩, ⟨(some 10), none, .mov (T 34)⟩]) (.seq (.ops [⟨(some 36), none, .loadN 3 (T 5)⟩, ⟨(some 37), none, .call (.func 26) [(T 36)]⟩, ⟨(some 38), none, .call (.func 34) [(T 37)]⟩, ⟨(some 35), none, .mov (T 38)⟩, ⟨(some 39), none, .extract 0 (T 35)⟩, ⟨(some 40), none, .extract 1 (T 35)⟩, ⟨(some 11), none, .mov (T 39)⟩, ⟨(some 12), none, .mov (T 40)⟩]) (.seq (.seq (.ops [⟨(some 41), none, .mov (T 10)⟩, ⟨(some 42), none, .int2 .neq (T 41) (.const (.int .i64 (0)))⟩, ⟨(some 43), none, .mov (T 42)⟩, ⟨(some 44), (some (43, false)), .mov (T 12)⟩, ⟨(some 45), (some (43, false)), .int2 .neq (T 44) (.const (.int .i64 (0)))⟩, ⟨(some 46), none, .pick (T 43) (.const (.bool true)) (T 45)⟩, ⟨(some 47), none, .mov (T 46)⟩, ⟨(some 48), (some (47, false)), .mov (T 9)⟩, ⟨(some 49), (some (47, false)), .mov (T 11)⟩, ⟨(some 50), (some (47, false)), .call (.func 112) [(T 48), (T 49)]⟩, ⟨(some 51), (some (47, false)), .not (T 50)⟩, ⟨(some 52), none, .pick (T 47) (.const (.bool true)) (T 51)⟩]) (.cond (T 52) (.seq (.ops [⟨(some 8), none, .mov (.const (.bool false))⟩]) .ret) .skip)) (.seq (.seq (.ops [⟨(some 13), none, .mov (.const (.int .i64 (0)))⟩]) (.block 0 (.loop (.seq (.seq (.ops [⟨(some 53), none, .mov (T 13)⟩, ⟨(some 54), none, .fieldAddr 1 (T 5)⟩, ⟨(some 55), none, .load1 (T 54)⟩, ⟨(some 56), none, .len (T 55)⟩, ⟨(some 57), none, .int2 .lss (T 53) (T 56)⟩]) (.cond (T 57) .skip (.exit 0))) (.seq (.block 1 (.seq (.seq (.ops [⟨(some 14), none, .mov (.const (.int .i64 (0)))⟩]) (.block 2 (.loop (.seq (.seq (.ops [⟨(some 60), none, .mov (T 14)⟩, ⟨(some 61), none, .fieldAddr 1 (T 5)⟩, ⟨(some 62), none, .load1 (T 61)⟩, ⟨(some 63), none, .len (T 62)⟩, ⟨(some 64), none, .int2 .lss (T 60) (T 63)⟩]) (.cond (T 64) .skip (.exit 2))) (.seq (.block 3 (.seq (.seq (.ops [⟨(some 67), none, .mov (T 14)⟩, ⟨(some 68), none, .mov (T 13)⟩, ⟨(some 69), none, .int2 .eql (T 67) (T 68)⟩]) (.cond (T 69) (.exit 3) .skip)) (.seq (.ops [⟨(some 71), none, .loadN 3 (T 4)⟩, ⟨(some 72), none, .call (.func 26) [(T 71)]⟩, ⟨(some 73), none, .mov (T 13)⟩, ⟨(some 74), none, .mov (T 14)⟩, ⟨(some 75), none, .call (.func 40) [(T 72), (T 73), (T 74)]⟩, ⟨(some 70), none, .mov (T 75)⟩, ⟨(some 76), none, .extract 0 (T 70)⟩, ⟨(some 77), none, .extract 1 (T 70)⟩, ⟨(some 15), none, .mov (T 76)⟩, ⟨(some 16), none, .mov (T 77)⟩]) (.seq (.ops [⟨(some 79), none, .loadN 3 (T 5)⟩, ⟨(some 80), none, .call (.func 26) [(T 79)]⟩, ⟨(some 81), none, .mov (T 13)⟩, ⟨(some 82), none, .mov (T 14)⟩, ⟨(some 83), none, .call (.func 40) [(T 80), (T 81), (T 82)]⟩, ⟨(some 78), none, .mov (T 83)⟩, ⟨(some 84), none, .extract 0 (T 78)⟩, ⟨(some 85), none, .extract 1 (T 78)⟩, ⟨(some 17), none, .mov (T 84)⟩, ⟨(some 18), none, .mov (T 85)⟩]) (.seq (.ops [⟨(some 86), none, .mov (T 16)⟩, ⟨(some 87), none, .int2 .neq (T 86) (.const (.int .i64 (0)))⟩, ⟨(some 88), none, .mov (T 87)⟩, ⟨(some 89), (some (88, false)), .mov (T 18)⟩, ⟨(some 90), (some (88, false)), .int2 .neq (T 89) (.const (.int .i64 (0)))⟩, ⟨(some 91), none, .pick (T 88) (.const (.bool true)) (T 90)⟩, ⟨(some 92), none, .mov (T 91)⟩, ⟨(some 93), (some (92, false)), .mov (T 17)⟩, ⟨(some 94), (some (92, false)), .int2 .neq (T 93) (.const (.int .i64 (3)))⟩, ⟨(some 95), (some (92, false)), .mov (T 94)⟩, ⟨(some 96), (some (95, true)), .mov (T 15)⟩, ⟨(some 97), (some (95, true)), .mov (T 17)⟩, ⟨(some 98), (some (95, true)), .int2 .neq (T 96) (T 97)⟩, ⟨(some 99), (some (92, false)), .pick (T 95) (T 98) (.const (.bool false))⟩, ⟨(some 100), none, .pick (T 92) (.const (.bool true)) (T 99)⟩]) (.cond (T 100) (.seq (.ops [⟨(some 8), none, .mov (.const (.bool false))⟩]) .ret) .skip)))))) (.ops [⟨(some 65), none, .mov (T 14)⟩, ⟨(some 66), none, .int2 .add (T 65) (.const (.int .i64 (1)))⟩, ⟨(some 14), none, .mov (T 66)⟩])))))) (.seq (.ops [⟨(some 102), none, .loadN 3 (T 4)⟩, ⟨(some 103), none, .call (.func 26) [(T 102)]⟩, ⟨(some 104), none, .mov (T 13)⟩, ⟨(some 105), none, .mov (T 2)⟩, ⟨(some 106), none, .mov (T 3)⟩, ⟨(some 107), none, .call (.func 46) [(T 103), (T 104), (T 105), (T 106)]⟩, ⟨(some 101), none, .mov (T 107)⟩, ⟨(some 108), none, .extract 0 (T 101)⟩, ⟨(some 109), none, .extract 1 (T 101)⟩, ⟨(some 19), none, .mov (T 108)⟩, ⟨(some 20), none, .mov (T 109)⟩]) (.seq (.ops [⟨(some 111), none, .loadN 3 (T 5)⟩, ⟨(some 112), none, .call (.func 26) [(T 111)]⟩, ⟨(some 113), none, .mov (T 13)⟩, ⟨(some 114), none, .mov (T 2)⟩, ⟨(some 115), none, .mov (T 3)⟩, ⟨(some 116), none, .call (.func 46) [(T 112), (T 113), (T 114), (T 115)]⟩, ⟨(some 110), none, .mov (T 116)⟩, ⟨(some 117), none, .extract 0 (T 110)⟩, ⟨(some 118), none, .extract 1 (T 110)⟩, ⟨(some 21), none, .mov (T 117)⟩, ⟨(some 22), none, .mov (T 118)⟩]) (.seq (.ops [⟨(some 119), none, .mov (T 22)⟩, ⟨(some 120), none, .int2 .eql (T 119) (.const (.int .i64 (0)))⟩, ⟨(some 121), none, .mov (T 120)⟩, ⟨(some 122), (some (121, true)), .mov (T 20)⟩, ⟨(some 123), (some (121, true)), .int2 .neq (T 122) (.const (.int .i64 (0)))⟩, ⟨(some 124), (some (121, true)), .mov (T 123)⟩, ⟨(some 125), (some (124, false)), .mov (T 19)⟩, ⟨(some 126), (some (124, false)), .mov (T 21)⟩, ⟨(some 127), (some (124, false)), .int2 .gtr (T 125) (T 126)⟩, ⟨(some 128), (some (121, true)), .pick (T 124) (.const (.bool true)) (T 127)⟩, ⟨(some 129), none, .pick (T 121) (T 128) (.const (.bool false))⟩]) (.cond (T 129) (.seq (.ops [⟨(some 8), none, .mov (.const (.bool false))⟩]) .ret) .skip)))))) (.ops [⟨(some 58), none, .mov (T 13)⟩, ⟨(some 59), none, .int2 .add (T 58) (.const (.int .i64 (1)))⟩, ⟨(some 13), none, .mov (T 59)⟩])))))) (.seq (.ops [⟨(some 131), none, .loadN 3 (T 4)⟩, ⟨(some 132), none, .call (.func 26) [(T 131)]⟩, ⟨(some 133), none, .mov (T 2)⟩, ⟨(some 134), none, .mov (T 3)⟩, ⟨(some 135), none, .plain (.binOp .rem 3 (T 134) (.const (.int .i64 (10))) 3) 3⟩, ⟨(some 136), none, .call (.func 48) [(T 132), (T 133), (T 135)]⟩, ⟨(some 130), none, .mov (T 136)⟩, ⟨(some 137), none, .extract 0 (T 130)⟩, ⟨(some 138), none, .extract 1 (T 130)⟩, ⟨(some 139), none, .extract 2 (T 130)⟩, ⟨(some 23), none, .mov (T 137)⟩, ⟨(some 24), none, .mov (T 138)⟩, ⟨(some 25), none, .mov (T 139)⟩]) (.seq (.ops [⟨(some 141), none, .loadN 3 (T 5)⟩, ⟨(some 142), none, .call (.func 26) [(T 141)]⟩, ⟨(some 143), none, .mov (T 2)⟩, ⟨(some 144), none, .mov (T 3)⟩, ⟨(some 145), none, .plain (.binOp .rem 3 (T 144) (.const (.int .i64 (10))) 3) 3⟩, ⟨(some 146), none, .call (.func 48) [(T 142), (T 143), (T 145)]⟩, ⟨(some 140), none, .mov (T 146)⟩, ⟨(some 147), none, .extract 0 (T 140)⟩, ⟨(some 148), none, .extract 1 (T 140)⟩, ⟨(some 149), none, .extract 2 (T 140)⟩, ⟨(some 26), none, .mov (T 147)⟩, ⟨(some 27), none, .mov (T 148)⟩, ⟨(some 28), none, .mov (T 149)⟩]) (.seq (.ops [⟨(some 150), none, .mov (T 25)⟩, ⟨(some 151), none, .int2 .eql (T 150) (.const (.int .i64 (0)))⟩, ⟨(some 152), none, .mov (T 151)⟩, ⟨(some 153), (some (152, true)), .mov (T 28)⟩, ⟨(some 154), (some (152, true)), .int2 .eql (T 153) (.const (.int .i64 (0)))⟩, ⟨(some 155), none, .pick (T 152) (T 154) (.const (.bool false))⟩, ⟨(some 156), none, .mov (T 155)⟩, ⟨(some 157), (some (156, true)), .mov (T 24)⟩, ⟨(some 158), (some (156, true)), .mov (T 27)⟩, ⟨(some 159), (some (156, true)), .int2 .geq (T 157) (T 158)⟩, ⟨(some 160), none, .pick (T 156) (T 159) (.const (.bool false))⟩, ⟨(some 8), none, .mov (T 160)⟩]) .ret))))))))
theorem fok68 : FnOk Try.prog 68 161 s68 [.tmp 8] := ⟨Try.f68, _, Try.func68, rfl, Try.ntmps68, by kernel_rfl, by kernel_rfl⟩
theorem closer_c (hn : 10090 ≤ n) (hr : h.next + 8000000 < far) {F V S F' V' S' : Value} {X Y : MY} (hx : YardR h F V S X) (hy : YardR h F' V' S' Y) (hTx : Thin X) (hTy : Thin Y) (hi : Inner X Y) {fld blue : Nat} (hff : fld < Y.nf) (hb : blue < 256) (hv0 : 0 < Y.nv) :
    call n (.func (.func 68) #[] #[]) [.agg ⟨[F, V, S]⟩, .agg ⟨[F', V', S']⟩, .int .i64 (fld : Int), .int .i64 (blue : Int)] h = some (.bool true, h) := by
  obtain ⟨n, rfl⟩ : ∃ p, n = p + 1 := ⟨n - 1, by omega⟩
  refine call_plain0 fok68 rfl rfl (by simp) rfl ?_
  have hx := hx.shut
  have hy := hy.shut
  have hr : h.shutAll.next + 8000000 < far := hr
  have hfl : h.shutAll.floor ≤ h.shutAll.next := Nat.le_refl _
  generalize h.shutAll = h at hx hy hr hfl
  have hffx : fld < X.nf := by rw [hi.nf]; exact hff
  have hvx : 0 < X.nv := by rw [hi.nv]; exact hv0
  have hG := good_of hi.fy
  obtain ⟨z1, z2, z3⟩ := hG.sz
  simp only [s68, W_seq, W_ops]
  refine ops_box (cs := [F, V, S]) (by omega) rfl hx.one fun g1 hx1 => ?_
  have n1 := hx1.next
  have f1 := hx1.floor
  have e1 : g1.next = h.next + 1 := n1
  refine ops_box (cs := [F', V', S']) (by omega) rfl hy.one fun g2 hx2 => ?_
  have n2 := hx2.next
  have f2 := hx2.floor
  have s2 : Sub All h g2 := hx1.sub.trans hx2.sub
  have r4 : Row g2 h.next [F, V, S] := hx1.row.mono hx2.sub
  have r5 : Row g2 g1.next [F', V', S'] := hx2.row
  rw [e1] at r5
  have hx2 := hx.mono s2
  have hy2 := hy.mono s2
  have w4 : ∀ {g}, Sub All g2 g → loadAgg 3 g (.pointer (some ⟨h.next, 0, none⟩)) = some (.agg ⟨[F, V, S]⟩) := fun hs => (r4.mono hs).whole rfl
  have w5 : ∀ {g}, Sub All g2 g → loadAgg 3 g (.pointer (some ⟨h.next + 1, 0, none⟩)) = some (.agg ⟨[F', V', S']⟩) := fun hs => (r5.mono hs).whole rfl
  obtain ⟨F1, V1, S1, g3, ey1, hy1, m3⟩ := yard_c (n := n) (h := g2) (by omega) (by omega) (by omega) hx2 hTx
  have n3 := m3.next
  have u3 := m3.up
  have f3 := m3.floor
  obtain ⟨b1v, g4, eb1, m4, hb1⟩ := boundsV_c (n := n) (h := g3) (by omega) (by omega) (by omega) hy1 hTx
  have n4 := m4.next
  have u4 := m4.up
  have f4 := m4.floor
  have s24 : Sub All g2 g4 := m3.sub.trans m4.sub
  obtain ⟨F2, V2, S2, g5, ey2, hy2y, m5⟩ := yard_c (n := n) (h := g4) (by omega) (by omega) (by omega) (hy2.mono s24) hTy
  have n5 := m5.next
  have u5 := m5.up
  have f5 := m5.floor
  obtain ⟨b2v, g6, eb2, m6, hb2⟩ := boundsV_c (n := n) (h := g5) (by omega) (by omega) (by omega) hy2y hTy
  have n6 := m6.next
  have u6 := m6.up
  have f6 := m6.floor
  have s26 : Sub All g2 g6 := s24.trans (m5.sub.trans m6.sub)
  rcases hb1 with ⟨h0, _⟩ | ⟨_, h0, _⟩ | ⟨_, _, l1, rfl, hl1⟩
  · exact absurd hi.fx h0
  · exact absurd h0 hi.ne
  rcases hb2 with ⟨h0, _⟩ | ⟨_, h0, _⟩ | ⟨_, _, l2, rfl, hl2⟩
  · exact absurd hi.fy h0
  · exact absurd h0 hi.ney
  have ewi := within_c (n := n) (h := g6) (va := l1) (vb := l2) (m := Y.nv) (by omega) (by have := Cells.mono hl1 (m5.sub.trans m6.sub); rw [hi.nv] at this; exact this) hl2 (by omega) (fun k _ => by
    rw [hi.nf, hi.q]; exact ⟨hi.lo _, hi.hi _⟩)
  simp only [rn0, rn1, rn2, rn3, rn4, rn5, rn6, rn7, rn8, if_true, if_false, Nat.le_refl, true_and, and_true, decide_true, decide_false, Bool.not_true, Bool.not_false, reduceIte, Nat.reduceEqDiff, Nat.reduceAdd, Nat.reduceMul, Nat.reduceSub, Nat.reduceLeDiff, Nat.reduceLT, e1, w4 Sub.refl, ey1, eb1, ex0, ex1, w5 s24, ey2, eb2, ewi]
  have hyx : ∀ {g}, Sub All g6 g → YardR g F V S X := fun hs => hx2.mono (s26.trans hs)
  have hyy : ∀ {g}, Sub All g6 g → YardR g F' V' S' Y := fun hs => hy2.mono (s26.trans hs)
  have lv5 : ∀ {g}, Sub All g6 g → loadCell g (.pointer (some ⟨h.next + 1, 1, none⟩)) = some V' := fun hs => by rw [(r5.mono (s26.trans hs)).ld]; rfl
  have lenV : ∀ {g}, Sub All g6 g → lenA V' g = some (.int .i64 (Y.nv : Int), g) := fun {g} hs => by
    obtain ⟨rr, hrw, _⟩ := (hyy hs).v
    exact Cells.len hrw g
  refine W_loop Y.nv (fun i f g ms => (Sub All g6 g ∧ g.floor = g6.floor ∧ g6.next ≤ g.next ∧ g.next ≤ g6.next + 5000 * i) ∧ ms = [] ∧ f 2 = .int .i64 (fld : Int) ∧ f 3 = .int .i64 (blue : Int) ∧ f 4 = .pointer (some ⟨h.next, 0, none⟩) ∧ f 5 = .pointer (some ⟨h.next + 1, 0, none⟩) ∧ f 13 = .int .i64 (i : Int)) (by simp; omega) ?_ ?_ ?_
  · simp only [rn0, rn1, rn2, rn3, rn4, rn5, rn6, rn7, rn8, if_true, if_false, Nat.le_refl, true_and, and_true, decide_true, decide_false, Bool.not_true, Bool.not_false, reduceIte, Nat.reduceEqDiff, Nat.reduceAdd, Nat.reduceMul, Nat.reduceSub, Nat.reduceLeDiff, Nat.reduceLT]
    exact ⟨by omega, rfl⟩
  · rintro i f g ms hii ⟨⟨sg, fg, ug, bg⟩, rfl, p2, p3, p4, p5, p13⟩
    have hii' : (i : Int) < (Y.nv : Int) := by omega
    have hwi : wrapF .i64 ((i : Int) + 1) = ((i + 1 : Nat) : Int) := by rw [wrap_in (by omega) (by omega)]; rfl
    simp only [rn0, rn1, rn2, rn3, rn4, rn5, rn6, rn7, rn8, if_true, if_false, Nat.le_refl, true_and, and_true, decide_true, decide_false, Bool.not_true, Bool.not_false, reduceIte, Nat.reduceEqDiff, Nat.reduceAdd, Nat.reduceMul, Nat.reduceSub, Nat.reduceLeDiff, Nat.reduceLT, p2, p3, p4, p5, p13, lv5 sg, lenV sg, hii']
    refine W_loop Y.nv (fun k f g' ms => (Sub All g6 g' ∧ g'.floor = g6.floor ∧ g.next ≤ g'.next ∧ g'.next ≤ g.next + 1000 * k) ∧ ms = [] ∧ f 2 = .int .i64 (fld : Int) ∧ f 3 = .int .i64 (blue : Int) ∧ f 4 = .pointer (some ⟨h.next, 0, none⟩) ∧ f 5 = .pointer (some ⟨h.next + 1, 0, none⟩) ∧ f 13 = .int .i64 (i : Int) ∧ f 14 = .int .i64 (k : Int)) (by simp; omega) ?_ ?_ ?_
    · simp only [rn0, rn1, rn2, rn3, rn4, rn5, rn6, rn7, rn8, if_true, if_false, Nat.le_refl, true_and, and_true, decide_true, decide_false, Bool.not_true, Bool.not_false, reduceIte, Nat.reduceEqDiff, Nat.reduceAdd, Nat.reduceMul, Nat.reduceSub, Nat.reduceLeDiff, Nat.reduceLT, p2, p3, p4, p5, p13]
      exact ⟨⟨sg, fg, by omega⟩, rfl⟩
    · rintro k f g' ms hk ⟨⟨sg, fg, ug', bg'⟩, rfl, p2, p3, p4, p5, p13, p14⟩
      have hk' : (k : Int) < (Y.nv : Int) := by omega
      have hwk : wrapF .i64 ((k : Int) + 1) = ((k + 1 : Nat) : Int) := by rw [wrap_in (by omega) (by omega)]; rfl
      by_cases hki : k = i
      · subst hki
        simp only [rn0, rn1, rn2, rn3, rn4, rn5, rn6, rn7, rn8, if_true, if_false, Nat.le_refl, true_and, and_true, decide_true, decide_false, Bool.not_true, Bool.not_false, reduceIte, Nat.reduceEqDiff, Nat.reduceAdd, Nat.reduceMul, Nat.reduceSub, Nat.reduceLeDiff, Nat.reduceLT, p2, p3, p4, p5, p13, p14, lv5 sg, lenV sg, hk', hwk]
        exact ⟨sg, fg, ug', by omega⟩
      · have hki' : ¬ (k : Int) = (i : Int) := by omega
        obtain ⟨F3, V3, S3, g7, ey3, hy3, m7⟩ := yard_c (n := n) (h := g') (by omega) (by omega) (by omega) (hyx sg) hTx
        have n7 := m7.next
        have u7 := m7.up
        have f7 := m7.floor
        have em3 := more_c (n := n) (h := g7) (by omega) (by omega) hy3 hTx (i : Int) (k : Int)
        rw [moreV_in hi.fx hi.ne (by rw [hi.nv]; exact hii) (by rw [hi.nv]; exact hk) (fun e => hki e.symm)] at em3
        obtain ⟨F4, V4, S4, g8, ey4, hy4, m8⟩ := yard_c (n := n) (h := g7) (by omega) (by omega) (by omega) (hyy (sg.trans m7.sub)) hTy
        have n8 := m8.next
        have u8 := m8.up
        have f8 := m8.floor
        have em4 := more_c (n := n) (h := g8) (by omega) (by omega) hy4 hTy (i : Int) (k : Int)
        rw [moreV_in hi.fy hi.ney hii hk (fun e => hki e.symm)] at em4
        have hver := hi.verdict i k
        by_cases h3 : verdictV Y i k = 3
        · simp only [rn0, rn1, rn2, rn3, rn4, rn5, rn6, rn7, rn8, if_true, if_false, Nat.le_refl, true_and, and_true, decide_true, decide_false, Bool.not_true, Bool.not_false, reduceIte, Nat.reduceEqDiff, Nat.reduceAdd, Nat.reduceMul, Nat.reduceSub, Nat.reduceLeDiff, Nat.reduceLT, p2, p3, p4, p5, p13, p14, lv5 sg, lenV sg, hk', hki', w4 (s26.trans sg), ey3, em3, ex0, ex1, w5 (s26.trans (sg.trans m7.sub)), ey4, em4, Int.reduceEq, h3, hwk]
          exact ⟨sg.trans (m7.sub.trans m8.sub), by omega, by omega, by omega⟩
        · have hve := hver h3
          simp only [rn0, rn1, rn2, rn3, rn4, rn5, rn6, rn7, rn8, if_true, if_false, Nat.le_refl, true_and, and_true, decide_true, decide_false, Bool.not_true, Bool.not_false, reduceIte, Nat.reduceEqDiff, Nat.reduceAdd, Nat.reduceMul, Nat.reduceSub, Nat.reduceLeDiff, Nat.reduceLT, p2, p3, p4, p5, p13, p14, lv5 sg, lenV sg, hk', hki', w4 (s26.trans sg), ey3, em3, ex0, ex1, w5 (s26.trans (sg.trans m7.sub)), ey4, em4, Int.reduceEq, h3, hve, hwk]
          exact ⟨sg.trans (m7.sub.trans m8.sub), by omega, by omega, by omega⟩
    · rintro f g' ms ⟨⟨sg, fg, ug', bg'⟩, rfl, p2, p3, p4, p5, p13, p14⟩
      have b1000 : 1000 * Y.nv ≤ 4000 := by omega
      obtain ⟨F3, V3, S3, g7, ey3, hy3, m7⟩ := yard_c (n := n) (h := g') (by omega) (by omega) (by omega) (hyx sg) hTx
      have n7 := m7.next
      have u7 := m7.up
      have f7 := m7.floor
      have em3 := needs_c (n := n) (h := g7) (by omega) (by omega) hy3 hTx (i : Int) (fld : Int) (blue : Int)
      obtain ⟨F4, V4, S4, g8, ey4, hy4, m8⟩ := yard_c (n := n) (h := g7) (by omega) (by omega) (by omega) (hyy (sg.trans m7.sub)) hTy
      have n8 := m8.next
      have u8 := m8.up
      have f8 := m8.floor
      have em4 := needs_c (n := n) (h := g8) (by omega) (by omega) hy4 hTy (i : Int) (fld : Int) (blue : Int)
      have hnd := hi.needs hii hff (b := (blue : Int)) ⟨by omega, by omega⟩
      generalize needsV X (i : Int) (fld : Int) (blue : Int) = nx at em3 hnd
      generalize needsV Y (i : Int) (fld : Int) (blue : Int) = ny at em4 hnd
      obtain ⟨nx1, nx2⟩ := nx
      obtain ⟨ny1, ny2⟩ := ny
      simp only at em3 em4 hnd
      by_cases h0 : ny2 = 0
      · obtain ⟨h1, h2⟩ := hnd h0
        have h2' : ¬ ny1 < nx1 := by omega
        simp only [rn0, rn1, rn2, rn3, rn4, rn5, rn6, rn7, rn8, if_true, if_false, Nat.le_refl, true_and, and_true, decide_true, decide_false, Bool.not_true, Bool.not_false, reduceIte, Nat.reduceEqDiff, Nat.reduceAdd, Nat.reduceMul, Nat.reduceSub, Nat.reduceLeDiff, Nat.reduceLT, p2, p3, p4, p5, p13, p14, lv5 sg, lenV sg, Int.lt_irrefl, w4 (s26.trans sg), ey3, em3, ex0, ex1, w5 (s26.trans (sg.trans m7.sub)), ey4, em4, h0, h1, h2', hwi]
        exact ⟨sg.trans (m7.sub.trans m8.sub), by omega, by omega, by omega⟩
      · simp only [rn0, rn1, rn2, rn3, rn4, rn5, rn6, rn7, rn8, if_true, if_false, Nat.le_refl, true_and, and_true, decide_true, decide_false, Bool.not_true, Bool.not_false, reduceIte, Nat.reduceEqDiff, Nat.reduceAdd, Nat.reduceMul, Nat.reduceSub, Nat.reduceLeDiff, Nat.reduceLT, p2, p3, p4, p5, p13, p14, lv5 sg, lenV sg, Int.lt_irrefl, w4 (s26.trans sg), ey3, em3, ex0, ex1, w5 (s26.trans (sg.trans m7.sub)), ey4, em4, h0, hwi, g_un]
        exact ⟨sg.trans (m7.sub.trans m8.sub), by omega, by omega, by omega⟩
  · rintro f g ms ⟨⟨sg, fg, ug, bg⟩, rfl, p2, p3, p4, p5, p13⟩
    have b5000 : 5000 * Y.nv ≤ 20000 := by omega
    obtain ⟨bm, hbm⟩ : ∃ bm, bm = blue % 10 := ⟨_, rfl⟩
    have ez : ¬ (10 : Int) = 0 := by decide
    have mb : (blue : Int).tmod 10 = (bm : Int) := by rw [hbm]; rfl
    obtain ⟨F3, V3, S3, g7, ey3, hy3, m7⟩ := yard_c (n := n) (h := g) (by omega) (by omega) (by omega) (hyx sg) hTx
    have n7 := m7.next
    have u7 := m7.up
    have f7 := m7.floor
    obtain ⟨v3, g8, em3, m8, hs3⟩ := spread_c (n := n) (h := g7) (by omega) (by omega) (by omega) hy3 hTx (fld : Int) (bm : Int)
    have n8 := m8.next
    have u8 := m8.up
    have f8 := m8.floor
    obtain ⟨F4, V4, S4, g9, ey4, hy4, m9⟩ := yard_c (n := n) (h := g8) (by omega) (by omega) (by omega) (hyy (sg.trans (m7.sub.trans m8.sub))) hTy
    have n9 := m9.next
    have u9 := m9.up
    have f9 := m9.floor
    obtain ⟨v4, g10, em4, m10, hs4⟩ := spread_c (n := n) (h := g9) (by omega) (by omega) (by omega) hy4 hTy (fld : Int) (bm : Int)
    have hE3 := spreadE_in hi.fx hffx (k := bm) (by omega) hvx
    have hE4 := spreadE_in hi.fy hff (k := bm) (by omega) hv0
    rw [if_neg hi.ne] at hE3
    rw [if_neg hi.ney] at hE4
    rcases hs3 with ⟨h0, _⟩ | ⟨_, pl, rfl, _⟩
    · exact absurd hE3 h0
    rcases hs4 with ⟨h0, _⟩ | ⟨_, ql, rfl, _⟩
    · exact absurd hE4 h0
    have hbest := hi.best hff hv0 (k := bm)
    simp only [Int.toNat_natCast] at em3 em4
    generalize (bestS X fld bm).2 = bx at em3 hbest
    generalize (bestS Y fld bm).2 = bY at em4 hbest
    simp only [rn0, rn1, rn2, rn3, rn4, rn5, rn6, rn7, rn8, if_true, if_false, Nat.le_refl, true_and, and_true, decide_true, decide_false, Bool.not_true, Bool.not_false, reduceIte, Nat.reduceEqDiff, Nat.reduceAdd, Nat.reduceMul, Nat.reduceSub, Nat.reduceLeDiff, Nat.reduceLT, p2, p3, p4, p5, p13, lv5 sg, lenV sg, Int.lt_irrefl, w4 (s26.trans sg), ey3, valN_tmp, valN_const, Nat.reduceLT, r_rem ez, mb, em3, ex30, ex31, ex32, w5 (s26.trans (sg.trans (m7.sub.trans m8.sub))), ey4, em4, hbest]
end Go.Vm.Vat

namespace Go.Vm.Vat
open Go.Proofs
set_option linter.unusedSimpArgs false
set_option linter.unusedVariables false
set_option maxRecDepth 10000
variable {n : Nat} {h : AHeap}
end Go.Vm.Vat

namespace Go.Vm.Vat
open Go.Proofs
set_option linter.unusedSimpArgs false
set_option linter.unusedVariables false
set_option maxRecDepth 10000
variable {n : Nat} {h : AHeap}
/-! ### A yard of which another one is a wider one -/
structure Wid (Y X : MY) : Prop where
  nf : Y.nf = X.nf
  nv : Y.nv = X.nv
  q : Y.q = X.q
  ns : Y.ns = X.ns
  lo : ∀ k, k < Y.nf → X.lo k ≤ Y.lo k ∧ Y.hi k ≤ X.hi k
  right : ∀ c k, k < Y.ns → RightB Y c k → RightB X c k
theorem Wid.enum {Y X : MY} (hw : Wid Y X) {c : Nat → Int} (h : c ∈ enumB Y.lo Y.hi Y.nf 0 fun _ => 0) : c ∈ enumB X.lo X.hi X.nf 0 fun _ => 0 := by
  rw [enumB_ok] at h ⊢
  refine ⟨fun j h1 h2 => ?_, fun j hj => h.2 j (by have := hw.nf; omega)⟩
  have h3 := h.1 j h1 (by have := hw.nf; omega)
  have h4 := hw.lo j (by have := hw.nf; omega)
  omega
theorem Wid.truth {Y X : MY} (hw : Wid Y X) {t : Nat → Int} (h : t ∈ truths Y) : t ∈ truths X := by
  rw [truths_mem] at h ⊢
  obtain ⟨⟨h1, h2⟩, h3⟩ := h
  have e := hw.nf
  have e2 := hw.ns
  refine ⟨⟨fun j hj => ?_, fun j hj => h2 j (by omega)⟩, fun k hk => hw.right t k (by omega) (h3 k (by omega))⟩
  have h4 := h1 j (by omega)
  have h5 := hw.lo j (by omega)
  omega
theorem leave_len_le {Y : MY} : (leaveRun Y).length ≤ Y.ns := by
  rcases (leave_is (Y := Y)).1 with e | ⟨c, _, e⟩ <;> (rw [e]; exact pick_len _)
theorem sl_len {a b : List Int} (h : ¬ SL a b) : b.length ≤ a.length := by
  apply Classical.byContradiction
  intro hc
  exact h (.inl (by omega))
theorem leave_min {Y : MY} {c : Nat → Int} (hc : c ∈ enumB Y.lo Y.hi Y.nf 0 fun _ => 0) : (leaveRun Y).length ≤ (pickL (fun j => ¬ RightB Y c j) Y.ns).length := sl_len ((leave_is (Y := Y)).2 c hc)
theorem Wid.leave {Y X : MY} (hw : Wid Y X) : (leaveRun X).length ≤ (leaveRun Y).length := by
  rcases (leave_is (Y := Y)).1 with e | ⟨c, hc, e⟩
  · rw [e]
    have h1 := leave_len_le (Y := X)
    have h2 := (pick_sub (p := fun _ => True) (q := fun _ => True) Y.ns fun _ _ h => h).1
    have h3 : ∀ k, (pickL (fun _ => True) k).length = k := by
      intro k
      induction k with
      | zero => rfl
      | succ k ih => rw [pick_yes (p := fun _ => True) trivial, List.length_append, ih]; rfl
    rw [h3, hw.ns]
    exact h1
  · rw [e]
    refine Nat.le_trans (leave_min (hw.enum hc)) ?_
    rw [← hw.ns]
    exact (pick_sub Y.ns fun j hj h hr => h (hw.right c j hj hr)).1
theorem enumB_some {Y : MY} (hf : faultN Y = 0) : (fun j => if j < Y.nf then Y.lo j else 0) ∈ enumB Y.lo Y.hi Y.nf 0 fun _ => 0 := by
  rw [enumB_ok]
  refine ⟨fun j h1 h2 => ?_, fun j hj => ?_⟩
  · have := (good_of hf).f j (by omega)
    rw [if_pos (by omega)]; omega
  · rw [if_neg (by omega)]
/-- if nothing need be left out there is a truth -/
theorem leave_nil {Y : MY} (hf : faultN Y = 0) (h : leaveRun Y = []) : truths Y ≠ [] := by
  have key : ∃ c, c ∈ enumB Y.lo Y.hi Y.nf 0 (fun _ => 0) ∧ ∀ k, k < Y.ns → RightB Y c k := by
    rcases (leave_is (Y := Y)).1 with e | ⟨c, hc, e⟩
    · have h3 : Y.ns = 0 := by
        apply Classical.byContradiction
        intro hn
        obtain ⟨k, hk⟩ : ∃ k, Y.ns = k + 1 := ⟨Y.ns - 1, by omega⟩
        rw [e, hk, pick_yes (p := fun _ => True) trivial] at h
        exact absurd h (by simp)
      exact ⟨_, enumB_some hf, fun k hk => by omega⟩
    · refine ⟨c, hc, fun k hk => ?_⟩
      apply Classical.byContradiction
      intro hn
      obtain ⟨i, hi, _⟩ := pick_has (p := fun j => ¬ RightB Y c j) hk hn
      rw [← e, h] at hi
      simp at hi
  obtain ⟨c, hc, hr⟩ := key
  have : c ∈ truths Y := by
    rw [truths_mem]
    rw [enumB_ok] at hc
    exact ⟨⟨fun j hj => hc.1 j (by omega) (by omega), fun j hj => hc.2 j (by omega)⟩, hr⟩
  exact List.ne_nil_of_mem this
theorem Wid.inner {Y X : MY} (hw : Wid Y X) (hy : faultN Y = 0) (hx : faultN X = 0) (h : leaveRun Y = []) : Inner Y X :=
  ⟨hw.nf, hw.nv, hw.q, hy, hx, leave_nil hy h, fun t ht => hw.truth ht⟩
/-- two branches with the same end -/
theorem cond2_merge {X : Cx} {p : Bool} {A B : SCode} {K : Fr → AHeap → List Nat → Prop} {Q : WPost} {f : Fr} {m : List Nat} (R : Fr → AHeap → List Nat → Prop) (h1 : p = true → W X A (thenQ R Q) f h m) (h2 : p = false → W X B (thenQ R Q) f h m) (h3 : ∀ f h m, R f h m → K f h m) :
    condW X (.bool p) A B (thenQ K Q) f h m := by
  cases p with
  | true =>
    rw [cond_true']
    refine W_mono A _ _ (fun e f h m hq => ?_) f h m (h1 rfl)
    cases e with
    | norm => exact h3 _ _ _ hq
    | exit i => exact hq
    | ret => exact hq
  | false =>
    rw [cond_false']
    refine W_mono B _ _ (fun e f h m hq => ?_) f h m (h2 rfl)
    cases e with
    | norm => exact h3 _ _ _ hq
    | exit i => exact hq
    | ret => exact hq
/-- what a slice holds, as a list -/
def flatL (s m : Nat) (c : Nat → Nat → Value) : List Value := (List.range (m * s)).map fun i => c (i / s) (i % s)
theorem flatL_len {s m : Nat} {c : Nat → Nat → Value} : (flatL s m c).length = m * s := by simp [flatL]
theorem flatL_get {s m k j : Nat} {c : Nat → Nat → Value} (hk : k < m) (hj : j < s) : (flatL s m c)[k * s + j]? = some (c k j) := by
  have hlt : k * s + j < m * s := by
    have : (k + 1) * s ≤ m * s := Nat.mul_le_mul_right s hk
    rw [Nat.add_mul] at this
    omega
  unfold flatL
  rw [List.getElem?_map, List.getElem?_range hlt, Option.map_some, Nat.mul_comm k s, Nat.mul_add_div (by omega), Nat.div_eq_of_lt hj, Nat.mul_add_mod, Nat.mod_eq_of_lt hj, Nat.add_zero]
theorem Cells.list {v : Value} {s m : Nat} {c : Nat → Nat → Value} (hs : 0 < s) (hi : Cells h v s m c) : ∃ x k, v = .slice x m k ∧ cellsOfSlice h s v = some (flatL s m c) := by
  obtain ⟨x, cap, rfl, _, h0 | ⟨b, o, cs, w, gr, rfl, h1, h2⟩⟩ := hi
  · subst h0
    refine ⟨x, cap, rfl, ?_⟩
    cases x <;> simp [cellsOfSlice, flatL]
  · refine ⟨_, cap, rfl, ?_⟩
    by_cases hm : m = 0
    · subst hm; simp [cellsOfSlice, flatL]
    have hb : Nat.beq m 0 = false := by
      cases hb : Nat.beq m 0 with
      | false => rfl
      | true => exact absurd (beq_iff.1 hb) hm
    show (bif Nat.beq m 0 then some [] else match h.get b with
      | some (.row cs _ _) => dropK cs o fun r => takeK r (m * s) fun l => some l
      | _ => none) = _
    have hl := (List.getElem?_eq_some_iff.1 (h2 (m - 1) (s - 1) (by omega) (by omega))).1
    have hms : (m - 1) * s + s = m * s := by
      obtain ⟨p, rfl⟩ : ∃ p, m = p + 1 := ⟨m - 1, by omega⟩
      rw [Nat.add_sub_cancel, Nat.add_mul, Nat.one_mul]
    rw [hb, cond_false, h1]
    simp only [dropK_eq, takeK_eq]
    rw [if_pos (by omega), if_pos (by rw [List.length_drop]; omega)]
    congr 1
    apply List.ext_getElem?
    intro i
    simp only [List.getElem?_take, List.getElem?_drop]
    by_cases hi : i < m * s
    · rw [if_pos hi]
      have hd : i / s < m := (Nat.div_lt_iff_lt_mul hs).2 hi
      have hr : i % s < s := Nat.mod_lt _ hs
      have e : i / s * s + i % s = i := by have := Nat.div_add_mod i s; rw [Nat.mul_comm] at this; exact this
      have h3 := h2 (i / s) (i % s) hd hr
      have h4 := flatL_get (c := c) hd hr
      rw [e] at h4
      rw [h4, ← h3]
      congr 1
      omega
    · rw [if_neg hi, List.getElem?_eq_none (by rw [flatL_len]; omega)]
theorem cells_sub {g : AHeap} {v : Value} {s m : Nat} {c : Nat → Nat → Value} (hsub : Sub All h g) (hc : Cells h v s m c) (hs : 0 < s) {l : List Value} (hl : cellsOfSlice h s v = some l) : cellsOfSlice g s v = some l := by
  obtain ⟨x, k, e, h1⟩ := Cells.list hs hc
  obtain ⟨x', k', e', h2⟩ := Cells.list hs (hc.mono hsub)
  rw [h1] at hl
  rw [h2, hl]
theorem flatL_one {s m : Nat} {c : Nat → Nat → Int} : allB oneCell (flatL s m fun k j => .int .i64 (c k j)) = true := by rw [allB_iff]; intro v hv; obtain ⟨i, _, rfl⟩ := List.mem_map.1 hv; rfl
end Go.Vm.Vat

namespace Go.Vm.Vat
open Go.Proofs
set_option linter.unusedSimpArgs false
set_option linter.unusedVariables false
set_option maxRecDepth 10000
variable {n : Nat} {h : AHeap}
/-- a part with a state behind it -/
theorem seqQ {X : Cx} {A : SCode} {K : Fr → AHeap → List Nat → Prop} {Q : WPost} {f : Fr} {m : List Nat} (R : Fr → AHeap → List Nat → Prop) (h1 : W X A (thenQ R Q) f h m) (h3 : ∀ f h m, R f h m → K f h m) : W X A (thenQ K Q) f h m := by
  refine W_mono A _ _ (fun e f h m hq => ?_) f h m h1
  cases e with
  | norm => exact h3 _ _ _ hq
  | exit i => exact hq
  | ret => exact hq
theorem there_p {a : Addr} : thereA (.pointer (some a)) h = some (.pointer (some a), h) := id rfl
theorem build_none2 {a b : Value} : buildSl 2 0 [a, b] [] h [] = newSlice h [] 0 0 0 := id rfl
theorem build_none3 {a b c : Value} : buildSl 3 0 [a, b, c] [] h [] = newSlice h [] 0 0 0 := id rfl
theorem quoN {a d : Nat} (h : a < 256) : IntKind.wrap .i64 ((a : Int).tdiv (d : Int)) = ((a / d : Nat) : Int) := by
  have e : (a : Int).tdiv (d : Int) = ((a / d : Nat) : Int) := rfl
  have : a / d ≤ a := Nat.div_le_self _ _
  rw [e]
  generalize a / d = q at this
  exact IntWalk.i64_in _ (by omega)
/-- one cell of a list turned -/
theorem splice_at {s m k j : Nat} {cs : List Value} {c : Nat → Nat → Value} {x : Value} (hc : ∀ k j, k < m → j < s → cs[k * s + j]? = some (c k j)) (hk : k < m) (hj : j < s) :
    ∀ k' j', k' < m → j' < s → (splice cs (k * s + j) [x])[k' * s + j']? = some (if k' = k ∧ j' = j then x else c k' j') := by
  intro k' j' hk' hj'
  have h0 := hc k j hk hj
  have hlt := (List.getElem?_eq_some_iff.1 h0).1
  by_cases e : k' = k ∧ j' = j
  · rw [if_pos e]
    obtain ⟨rfl, rfl⟩ := e
    simp only [splice]
    rw [List.getElem?_append_right (by simp; omega)]
    rw [List.length_take, Nat.min_eq_left (by omega), Nat.sub_self]
    rfl
  · rw [if_neg e]
    have hne : k' * s + j' ≠ k * s + j := by
      intro hh
      apply e
      have hkk : k' = k := by
        rcases Nat.lt_trichotomy k' k with h1 | h1 | h1
        · have : (k' + 1) * s ≤ k * s := Nat.mul_le_mul_right s h1
          rw [Nat.add_mul] at this; omega
        · exact h1
        · have : (k + 1) * s ≤ k' * s := Nat.mul_le_mul_right s h1
          rw [Nat.add_mul] at this; omega
      subst hkk
      exact ⟨rfl, by omega⟩
    have h3 := hc k' j' hk' hj'
    rw [← h3]
    simp only [splice]
    rcases Nat.lt_or_ge (k' * s + j') (k * s + j) with h1 | h1
    · rw [List.getElem?_append_left (by simp; omega), List.getElem?_take, if_pos h1]
    · rw [List.getElem?_append_right (by simp; omega), List.length_take, Nat.min_eq_left (by omega), List.getElem?_append_right (by simp; omega), List.getElem?_drop]
      simp only [List.length_cons, List.length_nil]
      congr 1
      omega
theorem cells_row {b s m cap : Nat} {cs : List Value} {c : Nat → Nat → Value} (hr : Row h b cs) (hc : ∀ k j, k < m → j < s → cs[k * s + j]? = some (c k j)) : Cells h (.slice (some ⟨b, 0, none⟩) m cap) s m c := by
  obtain ⟨w, gr, e⟩ := hr
  exact ⟨_, _, rfl, fun x e => by cases e; rfl, .inr ⟨b, 0, _, _, _, rfl, e, fun k j hk hj => by rw [Nat.zero_add]; exact hc k j hk hj⟩⟩
def s19 : SCode := (.seq (.ops [⟨(some 4), none, .box (T 0)⟩, ⟨(some 8), none, .mov (.const (.bool false))⟩]) (.seq (.seq (.ops [⟨(some 17), none, .loadN 3 (T 4)⟩, ⟨(some 18), none, .call (.func 62) [(T 17)]⟩, ⟨(some 19), none, .not (T 18)⟩, ⟨(some 20), none, .mov (T 19)⟩, ⟨(some 21), (some (20, false)), .fieldAddr 0 (T 4)⟩, ⟨(some 22), (some (20, false)), .load1 (T 21)⟩, ⟨(some 23), (some (20, false)), .len (T 22)⟩, ⟨(some 24), (some (20, false)), .int2 .eql (T 23) (.const (.int .i64 (0)))⟩, ⟨(some 25), none, .pick (T 20) (.const (.bool true)) (T 24)⟩, ⟨(some 26), none, .mov (T 25)⟩, ⟨(some 27), (some (26, false)), .fieldAddr 1 (T 4)⟩, ⟨(some 28), (some (26, false)), .load1 (T 27)⟩, ⟨(some 29), (some (26, false)), .len (T 28)⟩, ⟨(some 30), (some (26, false)), .int2 .eql (T 29) (.const (.int .i64 (0)))⟩, ⟨(some 31), none, .pick (T 26) (.const (.bool true)) (T 30)⟩]) (.cond (T 31) (.seq (.ops [⟨(some 32), none, .call (.func 24) []⟩, ⟨(some 8), none, .mov (T 32)⟩]) .ret) .skip)) (.seq (.ops [⟨(some 33), none, .loadN 3 (T 4)⟩, ⟨(some 9), none, .alloc [(.slice none 0 0), (.slice none 0 0), (.slice none 0 0)]⟩, ⟨none, none, .store 3 (T 9) (T 33)⟩]) (.seq (.draw [⟨.up, ⟨(some 34), none, .bslice 2 0 [(.int .i64 (0)), (.int .i64 (0))] [] []⟩⟩, ⟨.free, ⟨(some 35), none, .fieldAddr 0 (T 4)⟩⟩, ⟨.rd, ⟨(some 36), none, .load1 (T 35)⟩⟩, ⟨.up, ⟨(some 37), none, .append 2 16 (T 34) (T 36)⟩⟩, ⟨.up, ⟨(some 38), none, .bslice 3 0 [(.int .i64 (0)), (.int .i64 (0)), (.int .i64 (0))] [] []⟩⟩, ⟨.free, ⟨(some 39), none, .fieldAddr 2 (T 4)⟩⟩, ⟨.rd, ⟨(some 40), none, .load1 (T 39)⟩⟩, ⟨.any, ⟨(some 41), none, .append 3 24 (T 38) (T 40)⟩⟩, ⟨.free, ⟨(some 42), none, .fieldAddr 0 (T 9)⟩⟩, ⟨.any, ⟨none, none, .store 1 (T 42) (T 37)⟩⟩, ⟨.free, ⟨(some 43), none, .fieldAddr 2 (T 9)⟩⟩, ⟨.any, ⟨none, none, .store 1 (T 43) (T 41)⟩⟩]) (.seq (.seq (.ops [⟨(some 44), none, .mov (T 1)⟩, ⟨(some 45), none, .plain (.convert 5 3 (T 44)) 3⟩, ⟨(some 46), none, .fieldAddr 0 (T 9)⟩, ⟨(some 47), none, .load1 (T 46)⟩, ⟨(some 48), none, .len (T 47)⟩, ⟨(some 49), none, .fieldAddr 2 (T 9)⟩, ⟨(some 50), none, .load1 (T 49)⟩, ⟨(some 51), none, .len (T 50)⟩, ⟨(some 52), none, .int2 .add (T 48) (T 51)⟩, ⟨(some 53), none, .plain (.binOp .rem 3 (T 45) (T 52) 3) 3⟩, ⟨(some 10), none, .mov (T 53)⟩]) (.seq (.ops [⟨(some 54), none, .mov (T 10)⟩, ⟨(some 55), none, .fieldAddr 0 (T 9)⟩, ⟨(some 56), none, .load1 (T 55)⟩, ⟨(some 57), none, .len (T 56)⟩, ⟨(some 58), none, .int2 .lss (T 54) (T 57)⟩]) (.cond (T 58) (.seq (.ops [⟨(some 59), none, .fieldAddr 0 (T 9)⟩, ⟨(some 60), none, .load1 (T 59)⟩, ⟨(some 61), none, .mov (T 10)⟩, ⟨(some 62), none, .idxSl 2 (T 60) (T 61)⟩, ⟨(some 11), none, .mov (T 62)⟩]) (.draw [⟨.free, ⟨(some 63), none, .mov (T 11)⟩⟩, ⟨.free, ⟨(some 64), none, .mov (T 11)⟩⟩, ⟨.free, ⟨(some 65), none, .mov (T 11)⟩⟩, ⟨.free, ⟨(some 66), none, .there (T 65)⟩⟩, ⟨.free, ⟨(some 67), none, .fieldAddr 0 (T 66)⟩⟩, ⟨.rd1, ⟨(some 68), none, .load1 (T 67)⟩⟩, ⟨.free, ⟨(some 69), none, .mov (T 2)⟩⟩, ⟨.free, ⟨(some 70), none, .plain (.convert 5 3 (T 69)) 3⟩⟩, ⟨.free, ⟨(some 71), none, .plain (.binOp .rem 3 (T 70) (.const (.int .i64 (2))) 3) 3⟩⟩, ⟨.free, ⟨(some 72), none, .int2 .sub (T 68) (T 71)⟩⟩, ⟨.free, ⟨(some 73), none, .plain (.call { callee := .builtin .max, args := #[(.const (.int .i64 (0))), (T 72)], argTypes := #[3, 3] }) 3⟩⟩, ⟨.free, ⟨(some 74), none, .mov (T 11)⟩⟩, ⟨.free, ⟨(some 75), none, .there (T 74)⟩⟩, ⟨.free, ⟨(some 76), none, .fieldAddr 1 (T 75)⟩⟩, ⟨.rd1, ⟨(some 77), none, .load1 (T 76)⟩⟩, ⟨.free, ⟨(some 78), none, .mov (T 2)⟩⟩, ⟨.free, ⟨(some 79), none, .plain (.convert 5 3 (T 78)) 3⟩⟩, ⟨.free, ⟨(some 80), none, .plain (.binOp .quo 3 (T 79) (.const (.int .i64 (2))) 3) 3⟩⟩, ⟨.free, ⟨(some 81), none, .plain (.binOp .rem 3 (T 80) (.const (.int .i64 (2))) 3) 3⟩⟩, ⟨.free, ⟨(some 82), none, .int2 .add (T 77) (T 81)⟩⟩, ⟨.free, ⟨(some 83), none, .plain (.call { callee := .builtin .min, args := #[(.const (.int .i64 (20))), (T 82)], argTypes := #[3, 3] }) 3⟩⟩, ⟨.free, ⟨(some 84), none, .there (T 63)⟩⟩, ⟨.free, ⟨(some 85), none, .fieldAddr 0 (T 84)⟩⟩, ⟨.any, ⟨none, none, .store 1 (T 85) (T 73)⟩⟩, ⟨.free, ⟨(some 86), none, .there (T 64)⟩⟩, ⟨.free, ⟨(some 87), none, .fieldAddr 1 (T 86)⟩⟩, ⟨.any, ⟨none, none, .store 1 (T 87) (T 83)⟩⟩])) (.seq (.ops [⟨(some 88), none, .fieldAddr 2 (T 9)⟩, ⟨(some 89), none, .load1 (T 88)⟩, ⟨(some 90), none, .mov (T 10)⟩, ⟨(some 91), none, .fieldAddr 0 (T 9)⟩, ⟨(some 92), none, .load1 (T 91)⟩, ⟨(some 93), none, .len (T 92)⟩, ⟨(some 94), none, .int2 .sub (T 90) (T 93)⟩, ⟨(some 95), none, .idxSl 3 (T 89) (T 94)⟩, ⟨(some 96), none, .fieldAddr 1 (T 95)⟩, ⟨(some 12), none, .mov (T 96)⟩]) (.draw [⟨.free, ⟨(some 97), none, .mov (T 12)⟩⟩, ⟨.free, ⟨(some 98), none, .mov (T 12)⟩⟩, ⟨.free, ⟨(some 99), none, .mov (T 12)⟩⟩, ⟨.free, ⟨(some 100), none, .there (T 99)⟩⟩, ⟨.free, ⟨(some 101), none, .fieldAddr 0 (T 100)⟩⟩, ⟨.rd1, ⟨(some 102), none, .load1 (T 101)⟩⟩, ⟨.free, ⟨(some 103), none, .mov (T 2)⟩⟩, ⟨.free, ⟨(some 104), none, .plain (.convert 5 3 (T 103)) 3⟩⟩, ⟨.free, ⟨(some 105), none, .plain (.binOp .rem 3 (T 104) (.const (.int .i64 (3))) 3) 3⟩⟩, ⟨.free, ⟨(some 106), none, .int2 .sub (T 102) (T 105)⟩⟩, ⟨.free, ⟨(some 107), none, .plain (.call { callee := .builtin .max, args := #[(.const (.int .i64 (0))), (T 106)], argTypes := #[3, 3] }) 3⟩⟩, ⟨.free, ⟨(some 108), none, .mov (T 12)⟩⟩, ⟨.free, ⟨(some 109), none, .there (T 108)⟩⟩, ⟨.free, ⟨(some 110), none, .fieldAddr 1 (T 109)⟩⟩, ⟨.rd1, ⟨(some 111), none, .load1 (T 110)⟩⟩, ⟨.free, ⟨(some 112), none, .mov (T 2)⟩⟩, ⟨.free, ⟨(some 113), none, .plain (.convert 5 3 (T 112)) 3⟩⟩, ⟨.free, ⟨(some 114), none, .plain (.binOp .quo 3 (T 113) (.const (.int .i64 (3))) 3) 3⟩⟩, ⟨.free, ⟨(some 115), none, .plain (.binOp .rem 3 (T 114) (.const (.int .i64 (3))) 3) 3⟩⟩, ⟨.free, ⟨(some 116), none, .int2 .add (T 111) (T 115)⟩⟩, ⟨.free, ⟨(some 117), none, .plain (.call { callee := .builtin .min, args := #[(.const (.int .i64 (999))), (T 116)], argTypes := #[3, 3] }) 3⟩⟩, ⟨.free, ⟨(some 118), none, .there (T 97)⟩⟩, ⟨.free, ⟨(some 119), none, .fieldAddr 0 (T 118)⟩⟩, ⟨.any, ⟨none, none, .store 1 (T 119) (T 107)⟩⟩, ⟨.free, ⟨(some 120), none, .there (T 98)⟩⟩, ⟨.free, ⟨(some 121), none, .fieldAddr 1 (T 120)⟩⟩, ⟨.any, ⟨none, none, .store 1 (T 121) (T 117)⟩⟩]))))) (.seq (.seq (.ops [⟨(some 122), none, .loadN 3 (T 9)⟩, ⟨(some 123), none, .call (.func 62) [(T 122)]⟩, ⟨(some 124), none, .not (T 123)⟩]) (.cond (T 124) (.seq (.ops [⟨(some 125), none, .call (.func 24) []⟩, ⟨(some 8), none, .mov (T 125)⟩]) .ret) .skip)) (.seq (.ops [⟨(some 127), none, .loadN 3 (T 4)⟩, ⟨(some 128), none, .call (.func 26) [(T 127)]⟩, ⟨(some 129), none, .call (.func 54) [(T 128)]⟩, ⟨(some 126), none, .mov (T 129)⟩, ⟨(some 130), none, .extract 0 (T 126)⟩, ⟨(some 131), none, .extract 1 (T 126)⟩, ⟨(some 13), none, .mov (T 130)⟩, ⟨(some 14), none, .mov (T 131)⟩]) (.seq (.ops [⟨(some 133), none, .loadN 3 (T 9)⟩, ⟨(some 134), none, .call (.func 26) [(T 133)]⟩, ⟨(some 135), none, .call (.func 54) [(T 134)]⟩, ⟨(some 132), none, .mov (T 135)⟩, ⟨(some 136), none, .extract 0 (T 132)⟩, ⟨(some 137), none, .extract 1 (T 132)⟩, ⟨(some 15), none, .mov (T 136)⟩, ⟨(some 16), none, .mov (T 137)⟩]) (.seq (.seq (.ops [⟨(some 138), none, .mov (T 14)⟩, ⟨(some 139), none, .int2 .neq (T 138) (.const (.int .i64 (0)))⟩, ⟨(some 140), none, .mov (T 139)⟩, ⟨(some 141), (some (140, false)), .mov (T 16)⟩, ⟨(some 142), (some (140, false)), .int2 .neq (T 141) (.const (.int .i64 (0)))⟩, ⟨(some 143), none, .pick (T 140) (.const (.bool true)) (T 142)⟩, ⟨(some 144), none, .mov (T 143)⟩, ⟨(some 145), (some (144, false)), .mov (T 15)⟩, ⟨(some 146), (some (144, false)), .len (T 145)⟩, ⟨(some 147), (some (144, false)), .mov (T 13)⟩, ⟨(some 148), (some (144, false)), .len (T 147)⟩, ⟨(some 149), (some (144, false)), .int2 .gtr (T 146) (T 148)⟩, ⟨(some 150), none, .pick (T 144) (.const (.bool true)) (T 149)⟩]) (.cond (T 150) (.seq (.ops [⟨(some 8), none, .mov (.const (.bool false))⟩]) .ret) .skip)) (.seq (.draw [⟨.free, ⟨(some 151), none, .mov (T 13)⟩⟩, ⟨.free, ⟨(some 152), none, .len (T 151)⟩⟩, ⟨.free, ⟨(some 153), none, .int2 .gtr (T 152) (.const (.int .i64 (0)))⟩⟩, ⟨.free, ⟨(some 154), none, .mov (T 153)⟩⟩, ⟨.rd1, ⟨(some 155), (some (154, false)), .loadN 3 (T 4)⟩⟩, ⟨.rd1, ⟨(some 156), (some (154, false)), .loadN 3 (T 9)⟩⟩, ⟨.free, ⟨(some 157), (some (154, false)), .mov (T 3)⟩⟩, ⟨.free, ⟨(some 158), (some (154, false)), .plain (.convert 5 3 (T 157)) 3⟩⟩, ⟨.free, ⟨(some 159), (some (154, false)), .plain (.binOp .quo 3 (T 158) (.const (.int .i64 (8))) 3) 3⟩⟩, ⟨.free, ⟨(some 160), (some (154, false)), .fieldAddr 0 (T 4)⟩⟩, ⟨.rd1, ⟨(some 161), (some (154, false)), .load1 (T 160)⟩⟩, ⟨.free, ⟨(some 162), (some (154, false)), .len (T 161)⟩⟩, ⟨.free, ⟨(some 163), (some (154, false)), .plain (.binOp .rem 3 (T 159) (T 162) 3) 3⟩⟩, ⟨.free, ⟨(some 164), (some (154, false)), .mov (T 3)⟩⟩, ⟨.free, ⟨(some 165), (some (154, false)), .plain (.convert 5 3 (T 164)) 3⟩⟩, ⟨.any, ⟨(some 166), (some (154, false)), .call (.func 68) [(T 155), (T 156), (T 163), (T 165)]⟩⟩, ⟨.free, ⟨(some 167), none, .pick (T 154) (.const (.bool true)) (T 166)⟩⟩, ⟨.free, ⟨(some 168), none, .mov (T 167)⟩⟩, ⟨.any, ⟨(some 169), (some (168, true)), .call (.func 24) []⟩⟩, ⟨.free, ⟨(some 170), none, .pick (T 168) (T 169) (.const (.bool false))⟩⟩, ⟨.free, ⟨(some 8), none, .mov (T 170)⟩⟩]) .ret))))))))))
theorem fok19 : FnOk Try.prog 19 171 s19 [.tmp 8] := ⟨Try.f19, _, Try.func19, rfl, Try.ntmps19, by kernel_rfl, by kernel_rfl⟩
theorem wider_m (hn : 11100 ≤ n) (hr : h.next + 9000000 < far) (hfl : h.floor ≤ h.next) {fv vv sv : Value} {Y : MY} (hy : YardR h fv vv sv Y) (hT : Thin Y) (hf : faultN Y = 0) (hnf : 0 < Y.nf) (hnv : 0 < Y.nv) {a1 a2 a3 : Nat} (w1 : a1 < 256) (w2 : a2 < 256) (w3 : a3 < 256) :
    ∃ v h', call n (.func (.func 19) #[] #[]) [.agg ⟨[fv, vv, sv]⟩, .int .u8 (a1 : Int), .int .u8 (a2 : Int), .int .u8 (a3 : Int)] h = some (v, h') ∧ v = .bool true := by
  obtain ⟨n, rfl⟩ : ∃ p, n = p + 1 := ⟨n - 1, by omega⟩
  refine call_any0 fok19 rfl rfl (by simp) ?_
  simp only [s19, W_seq, W_ops]
  refine ops_box (cs := [fv, vv, sv]) (by omega) rfl hy.one fun g1 hx1 => ?_
  have n1 := hx1.next
  have f1 := hx1.floor
  have e1 : g1.next = h.next + 1 := n1
  have hy1 := hy.mono hx1.sub
  have x1 := hx1.row.whole (n := 3) rfl
  have r1 := hx1.row
  have hrd := ready_c (n := n) (h := g1) (by omega) (by omega) hy1
  have hrd' : decide (Thin Y ∧ faultN Y = 0) = true := decide_eq_true ⟨hT, hf⟩
  rw [hrd'] at hrd
  obtain ⟨rr, hrw, hq⟩ := hy1.v
  have hG := good_of hf
  obtain ⟨s1, s2, s3⟩ := hG.sz
  have z1 : ¬ (Y.nf : Int) = 0 := by omega
  have z2 : ¬ (Y.nv : Int) = 0 := by omega
  simp only [rn0, rn1, rn2, rn3, rn4, rn5, rn6, rn7, rn8, if_true, if_false, Nat.le_refl, true_and, and_true, decide_true, decide_false, Bool.not_true, Bool.not_false, reduceIte, Nat.reduceEqDiff, Nat.reduceAdd, Nat.reduceMul, Nat.reduceSub, Nat.reduceLeDiff, Nat.reduceLT, x1, hrd, r1.ld, Nat.zero_add, List.getElem?_cons_zero, List.getElem?_cons_succ, Cells.len hy1.f, Cells.len hrw, z1, z2]
  refine step_new (vs := [fv, vv, sv]) (by omega) (by omega) rfl (by simp only [rn0, rn1, rn2, rn3, rn4, rn5, rn6, rn7, rn8, if_true, if_false, Nat.le_refl, true_and, and_true, decide_true, decide_false, Bool.not_true, Bool.not_false, reduceIte, Nat.reduceEqDiff, Nat.reduceAdd, Nat.reduceMul, Nat.reduceSub, Nat.reduceLeDiff, Nat.reduceLT]; rfl) hy.one rfl rfl fun g2 hx2 => ?_
  have n2 := hx2.next
  have f2 := hx2.floor
  have e2 : g2.next = h.next + 2 := by omega
  have sub2 : Sub All h g2 := hx1.sub.trans hx2.sub
  have hy2 := hy.mono sub2
  have ry2 : Row g2 h.next [fv, vv, sv] := hx1.row.mono hx2.sub
  have rx2 : g2.get (h.next + 1) = some (.row [fv, vv, sv] true 0) := by have := hx2.get; rw [e1] at this; exact this
  obtain ⟨xf, kf, ef, lf⟩ := Cells.list (by omega) hy2.f
  obtain ⟨xs, ks, es, ls⟩ := Cells.list (by omega) hy2.s
  rw [e1]
  simp only [rn0, rn1, rn2, rn3, rn4, rn5, rn6, rn7, rn8, if_true, if_false, Nat.le_refl, true_and, and_true, decide_true, decide_false, Bool.not_true, Bool.not_false, reduceIte, Nat.reduceEqDiff, Nat.reduceAdd, Nat.reduceMul, Nat.reduceSub, Nat.reduceLeDiff, Nat.reduceLT]
  refine seqQ (fun f g ms => ms = [] ∧ f 1 = .int .u8 (a1 : Int) ∧ f 2 = .int .u8 (a2 : Int) ∧ f 3 = .int .u8 (a3 : Int) ∧ f 4 = .pointer (some ⟨h.next, 0, none⟩) ∧ f 9 = .pointer (some ⟨h.next + 1, 0, none⟩) ∧ Sub All h g ∧ g.floor = h.floor ∧ h.next ≤ g.next ∧ g.next ≤ h.next + 10 ∧ h.next + 5 ≤ g.next ∧ Row g h.next [fv, vv, sv] ∧
    ∃ kF S' cF cS bS, g.get (h.next + 1) = some (.row [.slice (some ⟨h.next + 3, 0, none⟩) Y.nf kF, vv, S'] true 0) ∧ g.get (h.next + 3) = some (.row cF true 2) ∧ (∀ k j, k < Y.nf → j < 2 → cF[k * 2 + j]? = some (.int .i64 (if j = 0 then Y.lo k else Y.hi k))) ∧
      Samps g S' Y.ns Y.sv Y.slo Y.shi ∧ (0 < Y.ns → bS = h.next + 5 ∧ (∃ kS, S' = .slice (some ⟨bS, 0, none⟩) Y.ns kS) ∧ g.get bS = some (.row cS true 3) ∧ ∀ k j, k < Y.ns → j < 3 → cS[k * 3 + j]? = some (.int .i64 (if j = 0 then Y.sv k else if j = 1 then Y.slo k else Y.shi k)))) ?_ ?_
  · refine W_draw All ?_
    simp only [rn0, rn1, rn2, rn3, rn4, rn5, rn6, rn7, rn8, if_true, if_false, Nat.le_refl, true_and, and_true, decide_true, decide_false, Bool.not_true, Bool.not_false, reduceIte, Nat.reduceEqDiff, Nat.reduceAdd, Nat.reduceMul, Nat.reduceSub, Nat.reduceLeDiff, Nat.reduceLT, build_none2]
    refine up_slice (by omega) rfl (fun g3 hx => hx.sub) fun g3 hx3 => ?_
    have n3 := hx3.next
    have f3 := hx3.floor
    have hap := append_none (h := g3) (s := 2) (bytes := 16) (b := g2.next) ⟨xf, kf, ef⟩ (cells_sub hx3.sub hy2.f (by omega) lf) flatL_len (by simp [maxBytes]; omega) (by simp [maxBytes]; omega)
    rw [if_neg (by omega)] at hap
    simp only [rn0, rn1, rn2, rn3, rn4, rn5, rn6, rn7, rn8, if_true, if_false, Nat.le_refl, true_and, and_true, decide_true, decide_false, Bool.not_true, Bool.not_false, reduceIte, Nat.reduceEqDiff, Nat.reduceAdd, Nat.reduceMul, Nat.reduceSub, Nat.reduceLeDiff, Nat.reduceLT, ry2.ld, Nat.zero_add, List.getElem?_cons_zero, List.getElem?_cons_succ, Cells.self hy2.f, hap]
    refine up_slice (by omega) flatL_one (fun g4 hx => hx3.sub.trans hx.sub) fun g4 hx4 => ?_
    have n4 := hx4.next
    have f4 := hx4.floor
    simp only [rn0, rn1, rn2, rn3, rn4, rn5, rn6, rn7, rn8, if_true, if_false, Nat.le_refl, true_and, and_true, decide_true, decide_false, Bool.not_true, Bool.not_false, reduceIte, Nat.reduceEqDiff, Nat.reduceAdd, Nat.reduceMul, Nat.reduceSub, Nat.reduceLeDiff, Nat.reduceLT, build_none3]
    refine up_slice (by omega) rfl (fun g5 hx => hx3.sub.trans (hx4.sub.trans hx.sub)) fun g5 hx5 => ?_
    have n5 := hx5.next
    have f5 := hx5.floor
    have sub5 : Sub All g2 g5 := hx3.sub.trans (hx4.sub.trans hx5.sub)
    have hap2 := append_none (h := g5) (s := 3) (bytes := 24) (b := g4.next) ⟨xs, ks, es⟩ (cells_sub sub5 hy2.s (by omega) ls) flatL_len (by simp [maxBytes]; omega) (by simp [maxBytes]; omega)
    have gx5 : g5.get (h.next + 1) = some (.row [fv, vv, sv] true 0) := sub5 _ _ _ _ trivial rx2
    have gF5 : g5.get (h.next + 3) = some (.row (flatL 2 Y.nf fun k j => .int .i64 (if j = 0 then Y.lo k else Y.hi k)) true 2) := by
      rw [hx5.old _ (by omega)]
      have := hx4.get
      rw [show g3.next = h.next + 3 by omega] at this
      exact this
    have ry5 := ry2.mono sub5
    by_cases hns : Y.ns = 0
    · rw [if_pos hns] at hap2
      simp only [rn0, rn1, rn2, rn3, rn4, rn5, rn6, rn7, rn8, if_true, if_false, Nat.le_refl, true_and, and_true, decide_true, decide_false, Bool.not_true, Bool.not_false, reduceIte, Nat.reduceEqDiff, Nat.reduceAdd, Nat.reduceMul, Nat.reduceSub, Nat.reduceLeDiff, Nat.reduceLT, ry2.ld, Nat.zero_add, List.getElem?_cons_zero, List.getElem?_cons_succ, Cells.self hy2.s, hap2]
      refine up_store (b := h.next + 1) (off := 0) (vs := [.slice (some ⟨g3.next, 0, none⟩) Y.nf unk]) rfl gx5 (by omega) (by omega) rfl rfl rfl (by simp) (fun _ _ => trivial) fun g6 hs6 => ?_
      have n6 := hs6.next
      have f6 := hs6.floor
      simp only [rn0, rn1, rn2, rn3, rn4, rn5, rn6, rn7, rn8, if_true, if_false, Nat.le_refl, true_and, and_true, decide_true, decide_false, Bool.not_true, Bool.not_false, reduceIte, Nat.reduceEqDiff, Nat.reduceAdd, Nat.reduceMul, Nat.reduceSub, Nat.reduceLeDiff, Nat.reduceLT]
      refine up_store (b := h.next + 1) (off := 2) (vs := [.slice (some ⟨g4.next, 0, none⟩) 0 0]) rfl hs6.get (by omega) (by omega) rfl rfl rfl (by simp [splice]) (fun _ _ => trivial) fun g7 hs7 => ?_
      have n7 := hs7.next
      have f7 := hs7.floor
      have hcs : splice (splice [fv, vv, sv] 0 [.slice (some ⟨g3.next, 0, none⟩) Y.nf unk]) 2 [.slice (some ⟨g4.next, 0, none⟩) 0 0] = [.slice (some ⟨h.next + 3, 0, none⟩) Y.nf unk, vv, .slice (some ⟨g4.next, 0, none⟩) 0 0] := by rw [show g3.next = h.next + 3 by omega]; rfl
      rw [hcs] at hs7
      simp only [rn0, rn1, rn2, rn3, rn4, rn5, rn6, rn7, rn8, if_true, if_false, Nat.le_refl, true_and, and_true, decide_true, decide_false, Bool.not_true, Bool.not_false, reduceIte, Nat.reduceEqDiff, Nat.reduceAdd, Nat.reduceMul, Nat.reduceSub, Nat.reduceLeDiff, Nat.reduceLT]
      have old7 : ∀ i, i ≠ h.next + 1 → g7.get i = g5.get i := fun i hi => by rw [hs7.old i hi, hs6.old i hi]
      have sub7 : Sub All h g7 := fun i cs w gr t hg => by
        have := AHeap.lt_of_get hg
        rw [old7 i (by omega)]; exact sub5 _ _ _ _ t (sub2 _ _ _ _ t hg)
      refine ⟨sub7, by omega, by omega, by omega, by omega, ?_, unk, _, flatL 2 Y.nf fun k j => .int .i64 (if j = 0 then Y.lo k else Y.hi k), [], 0, hs7.get, by rw [old7 _ (by omega)]; exact gF5, fun k j hk hj => flatL_get (c := fun k j => .int .i64 (if j = 0 then Y.lo k else Y.hi k)) hk hj, ?_, fun hp => absurd hp (by omega)⟩
      · obtain ⟨w, gr, e⟩ := ry5
        exact ⟨w, gr, by rw [old7 _ (by omega)]; exact e⟩
      · rw [hns]; exact ⟨_, _, rfl, fun x e => by cases e; rfl, .inl rfl⟩
    · rw [if_neg hns] at hap2
      simp only [rn0, rn1, rn2, rn3, rn4, rn5, rn6, rn7, rn8, if_true, if_false, Nat.le_refl, true_and, and_true, decide_true, decide_false, Bool.not_true, Bool.not_false, reduceIte, Nat.reduceEqDiff, Nat.reduceAdd, Nat.reduceMul, Nat.reduceSub, Nat.reduceLeDiff, Nat.reduceLT, ry2.ld, Nat.zero_add, List.getElem?_cons_zero, List.getElem?_cons_succ, Cells.self hy2.s, hap2]
      refine up_slice (by omega) flatL_one (fun _ _ => trivial) fun g6 hx6 => ?_
      have n6 := hx6.next
      have f6 := hx6.floor
      simp only [rn0, rn1, rn2, rn3, rn4, rn5, rn6, rn7, rn8, if_true, if_false, Nat.le_refl, true_and, and_true, decide_true, decide_false, Bool.not_true, Bool.not_false, reduceIte, Nat.reduceEqDiff, Nat.reduceAdd, Nat.reduceMul, Nat.reduceSub, Nat.reduceLeDiff, Nat.reduceLT]
      refine up_store (b := h.next + 1) (off := 0) (vs := [.slice (some ⟨g3.next, 0, none⟩) Y.nf unk]) rfl (hx6.sub _ _ _ _ trivial gx5) (by omega) (by omega) rfl rfl rfl (by simp) (fun _ _ => trivial) fun g7 hs7 => ?_
      have n7 := hs7.next
      have f7 := hs7.floor
      simp only [rn0, rn1, rn2, rn3, rn4, rn5, rn6, rn7, rn8, if_true, if_false, Nat.le_refl, true_and, and_true, decide_true, decide_false, Bool.not_true, Bool.not_false, reduceIte, Nat.reduceEqDiff, Nat.reduceAdd, Nat.reduceMul, Nat.reduceSub, Nat.reduceLeDiff, Nat.reduceLT]
      refine up_store (b := h.next + 1) (off := 2) (vs := [.slice (some ⟨g5.next, 0, none⟩) Y.ns unk]) rfl hs7.get (by omega) (by omega) rfl rfl rfl (by simp [splice]) (fun _ _ => trivial) fun g8 hs8 => ?_
      have n8 := hs8.next
      have f8 := hs8.floor
      have hcs : splice (splice [fv, vv, sv] 0 [.slice (some ⟨g3.next, 0, none⟩) Y.nf unk]) 2 [.slice (some ⟨g5.next, 0, none⟩) Y.ns unk] = [.slice (some ⟨h.next + 3, 0, none⟩) Y.nf unk, vv, .slice (some ⟨h.next + 5, 0, none⟩) Y.ns unk] := by rw [show g3.next = h.next + 3 by omega, show g5.next = h.next + 5 by omega]; rfl
      rw [hcs] at hs8
      simp only [rn0, rn1, rn2, rn3, rn4, rn5, rn6, rn7, rn8, if_true, if_false, Nat.le_refl, true_and, and_true, decide_true, decide_false, Bool.not_true, Bool.not_false, reduceIte, Nat.reduceEqDiff, Nat.reduceAdd, Nat.reduceMul, Nat.reduceSub, Nat.reduceLeDiff, Nat.reduceLT]
      have old8 : ∀ i, i < h.next + 5 → i ≠ h.next + 1 → g8.get i = g5.get i := fun i hi hne => by rw [hs8.old i hne, hs7.old i hne, hx6.old i (by omega)]
      have sub8 : Sub All h g8 := fun i cs w gr t hg => by
        have := AHeap.lt_of_get hg
        rw [old8 i (by omega) (by omega)]; exact sub5 _ _ _ _ t (sub2 _ _ _ _ t hg)
      have gS8 : g8.get (h.next + 5) = some (.row (flatL 3 Y.ns fun k j => .int .i64 (if j = 0 then Y.sv k else if j = 1 then Y.slo k else Y.shi k)) true 3) := by
        rw [hs8.old _ (by omega), hs7.old _ (by omega)]
        have := hx6.get
        rw [show g5.next = h.next + 5 by omega] at this
        exact this
      have hget3 : ∀ k j, k < Y.ns → j < 3 → (flatL 3 Y.ns fun k j => .int .i64 (if j = 0 then Y.sv k else if j = 1 then Y.slo k else Y.shi k))[k * 3 + j]? = some (.int .i64 (if j = 0 then Y.sv k else if j = 1 then Y.slo k else Y.shi k)) := fun k j hk hj => flatL_get (c := fun k j => .int .i64 (if j = 0 then Y.sv k else if j = 1 then Y.slo k else Y.shi k)) hk hj
      refine ⟨sub8, by omega, by omega, by omega, by omega, ?_, unk, _, flatL 2 Y.nf fun k j => .int .i64 (if j = 0 then Y.lo k else Y.hi k), flatL 3 Y.ns fun k j => .int .i64 (if j = 0 then Y.sv k else if j = 1 then Y.slo k else Y.shi k), h.next + 5, hs8.get, by rw [old8 _ (by omega) (by omega)]; exact gF5, fun k j hk hj => flatL_get (c := fun k j => .int .i64 (if j = 0 then Y.lo k else Y.hi k)) hk hj, ?_, fun hp => ⟨rfl, ⟨unk, rfl⟩, gS8, hget3⟩⟩
      · obtain ⟨w, gr, e⟩ := ry5
        exact ⟨w, gr, by rw [old8 _ (by omega) (by omega)]; exact e⟩
      · exact ⟨_, _, rfl, fun x e => by cases e; rfl, .inr ⟨_, 0, _, _, _, rfl, gS8, fun k j hk hj => by rw [Nat.zero_add]; exact hget3 k j hk hj⟩⟩
  · rintro f g ms ⟨rfl, p1, p2, p3, p4, p9, sg, fg, ug, bg, lg, ry, kF, S', cF, cS, bS, gx, gF, hcF, hS, hSS⟩
    have rx : Row g (h.next + 1) [.slice (some ⟨h.next + 3, 0, none⟩) Y.nf kF, vv, S'] := ⟨_, _, gx⟩
    obtain ⟨w, hw⟩ : ∃ w, w = a1 % (Y.nf + Y.ns) := ⟨_, rfl⟩
    have hwl : w < Y.nf + Y.ns := by rw [hw]; exact Nat.mod_lt _ (by omega)
    have m1 : (a1 : Int).tmod ((Y.nf + Y.ns : Nat) : Int) = (w : Int) := by rw [hw]; rfl
    have zz : ¬ ((Y.nf + Y.ns : Nat) : Int) = 0 := by omega
    have hwa : wrapF .i64 ((Y.nf : Int) + (Y.ns : Int)) = ((Y.nf + Y.ns : Nat) : Int) := by rw [wrap_in (by omega) (by omega)]; rfl
    simp only [rn0, rn1, rn2, rn3, rn4, rn5, rn6, rn7, rn8, if_true, if_false, Nat.le_refl, true_and, and_true, decide_true, decide_false, Bool.not_true, Bool.not_false, reduceIte, Nat.reduceEqDiff, Nat.reduceAdd, Nat.reduceMul, Nat.reduceSub, Nat.reduceLeDiff, Nat.reduceLT, p1, p2, p3, p4, p9, p_conv8, r_8 w1, valN_tmp, valN_const, Nat.reduceLT, rx.ld, Nat.zero_add, List.getElem?_cons_zero, List.getElem?_cons_succ, len_slice, Cells.len hS, hwa, zz, r_rem zz, m1]
    refine cond2_merge (fun f g' ms => ms = [] ∧ f 3 = .int .u8 (a3 : Int) ∧ f 4 = .pointer (some ⟨h.next, 0, none⟩) ∧ f 9 = .pointer (some ⟨h.next + 1, 0, none⟩) ∧ Sub All h g' ∧ g'.floor = h.floor ∧ g'.next = g.next ∧ Row g' h.next [fv, vv, sv] ∧ Row g' (h.next + 1) [.slice (some ⟨h.next + 3, 0, none⟩) Y.nf kF, vv, S'] ∧ ∃ X, YardR g' (.slice (some ⟨h.next + 3, 0, none⟩) Y.nf kF) vv S' X ∧ Wid Y X ∧ Thin X) ?_ ?_ ?_
    · intro hc
      have hwf : w < Y.nf := by have := of_decide_eq_true hc; omega
      obtain ⟨d1, d2, d3⟩ := hG.f w hwf
      have l1 : loadCell g (.pointer (some ⟨h.next + 3, w * 2, none⟩)) = some (.int .i64 (Y.lo w)) := by rw [(show Row g (h.next + 3) cF from ⟨_, _, gF⟩).ld]; exact hcF w 0 hwf (by omega)
      have l2 : loadCell g (.pointer (some ⟨h.next + 3, w * 2 + 1, none⟩)) = some (.int .i64 (Y.hi w)) := by rw [(show Row g (h.next + 3) cF from ⟨_, _, gF⟩).ld]; exact hcF w 1 hwf (by omega)
      have y2 : ¬ (2 : Int) = 0 := by decide
      have t1 : (a2 : Int).tmod 2 = ((a2 % 2 : Nat) : Int) := rfl
      have t2 := quoN (d := 2) w2
      have t2' : IntKind.wrap .i64 ((a2 : Int).tdiv 2) = ((a2 / 2 : Nat) : Int) := t2
      have t3 : ((a2 / 2 : Nat) : Int).tmod 2 = ((a2 / 2 % 2 : Nat) : Int) := rfl
      have hw1 : wrapF .i64 (Y.lo w - ((a2 % 2 : Nat) : Int)) = Y.lo w - ((a2 % 2 : Nat) : Int) := wrap_in (by omega) (by omega)
      have hw2 : wrapF .i64 (Y.hi w + ((a2 / 2 % 2 : Nat) : Int)) = Y.hi w + ((a2 / 2 % 2 : Nat) : Int) := wrap_in (by omega) (by omega)
      obtain ⟨LO, hLO⟩ : ∃ x, x = max 0 (Y.lo w - ((a2 % 2 : Nat) : Int)) := ⟨_, rfl⟩
      obtain ⟨HI, hHI⟩ : ∃ x, x = min 20 (Y.hi w + ((a2 / 2 % 2 : Nat) : Int)) := ⟨_, rfl⟩
      have hlen := (List.getElem?_eq_some_iff.1 (hcF w 1 hwf (by omega))).1
      simp only [rn0, rn1, rn2, rn3, rn4, rn5, rn6, rn7, rn8, if_true, if_false, Nat.le_refl, true_and, and_true, decide_true, decide_false, Bool.not_true, Bool.not_false, reduceIte, Nat.reduceEqDiff, Nat.reduceAdd, Nat.reduceMul, Nat.reduceSub, Nat.reduceLeDiff, Nat.reduceLT, p1, p2, p3, p4, p9, rx.ld, Nat.zero_add, List.getElem?_cons_zero, List.getElem?_cons_succ, idxSl_s (s := 2) (o := h.next + 3) hwf]
      refine W_draw All ?_
      simp only [rn0, rn1, rn2, rn3, rn4, rn5, rn6, rn7, rn8, if_true, if_false, Nat.le_refl, true_and, and_true, decide_true, decide_false, Bool.not_true, Bool.not_false, reduceIte, Nat.reduceEqDiff, Nat.reduceAdd, Nat.reduceMul, Nat.reduceSub, Nat.reduceLeDiff, Nat.reduceLT, p1, p2, p3, p4, p9, there_p, l1, l2, p_conv8, r_8 w2, valN_tmp, valN_const, Nat.reduceLT, y2, r_rem y2, r_quo y2, t1, t2', t3, hw1, hw2, ← hLO, ← hHI, Nat.add_zero]
      refine up_store (b := h.next + 3) (off := w * 2 + 0) (vs := [.int .i64 LO]) rfl gF (by omega) (by omega) rfl rfl rfl (by show w * 2 + 0 + 1 ≤ cF.length; omega) (fun _ _ => trivial) fun g5 hs5 => ?_
      have n5 := hs5.next
      have f5 := hs5.floor
      have c5 := splice_at (x := .int .i64 LO) hcF hwf (show 0 < 2 by omega)
      simp only [rn0, rn1, rn2, rn3, rn4, rn5, rn6, rn7, rn8, if_true, if_false, Nat.le_refl, true_and, and_true, decide_true, decide_false, Bool.not_true, Bool.not_false, reduceIte, Nat.reduceEqDiff, Nat.reduceAdd, Nat.reduceMul, Nat.reduceSub, Nat.reduceLeDiff, Nat.reduceLT, there_p]
      refine up_store (b := h.next + 3) (off := w * 2 + 1) (vs := [.int .i64 HI]) rfl hs5.get (by omega) (by omega) rfl rfl rfl (by have := (List.getElem?_eq_some_iff.1 (c5 w 1 hwf (by omega))).1; show w * 2 + 1 + 1 ≤ _; omega) (fun _ _ => trivial) fun g6 hs6 => ?_
      have n6 := hs6.next
      have f6 := hs6.floor
      have c6 := splice_at (x := .int .i64 HI) c5 hwf (show 1 < 2 by omega)
      simp only [rn0, rn1, rn2, rn3, rn4, rn5, rn6, rn7, rn8, if_true, if_false, Nat.le_refl, true_and, and_true, decide_true, decide_false, Bool.not_true, Bool.not_false, reduceIte, Nat.reduceEqDiff, Nat.reduceAdd, Nat.reduceMul, Nat.reduceSub, Nat.reduceLeDiff, Nat.reduceLT, p1, p2, p3, p4, p9]
      have old6 : ∀ i, i ≠ h.next + 3 → g6.get i = g.get i := fun i hi => by rw [hs6.old i hi, hs5.old i hi]
      have sub6 : Sub All h g6 := fun i cs w gr t hg => by
        have := AHeap.lt_of_get hg
        rw [old6 i (by omega)]; exact sg _ _ _ _ t hg
      have row6 : ∀ i cs, i ≠ h.next + 3 → Row g i cs → Row g6 i cs := fun i cs hi ⟨w, gr, e⟩ => ⟨w, gr, by rw [old6 i hi]; exact e⟩
      refine ⟨sub6, by omega, by omega, row6 _ _ (by omega) ry, row6 _ _ (by omega) rx, { Y with lo := fun k => if k = w then LO else Y.lo k, hi := fun k => if k = w then HI else Y.hi k }, ⟨cells_row hs6.row fun k j hk hj => ?_, hy.v.mono sub6, ?_⟩, ⟨rfl, rfl, rfl, rfl, fun k hk => ?_, fun c k _ h => h⟩, hT⟩
      · rw [c6 k j hk hj]
        by_cases ek : k = w
        · subst ek
          obtain rfl | rfl : j = 0 ∨ j = 1 := by omega
          · simp
          · simp
        · simp [ek]
      · by_cases hns : Y.ns = 0
        · obtain ⟨a, cap, e1, e2, _⟩ := hS
          exact ⟨a, cap, e1, e2, .inl hns⟩
        · obtain ⟨b1, ⟨kS, rfl⟩, b3, b4⟩ := hSS (by omega)
          exact cells_row (by rw [b1]; exact row6 _ _ (by omega) (by rw [← b1]; exact ⟨_, _, b3⟩)) b4
      · show (if k = w then LO else Y.lo k) ≤ Y.lo k ∧ Y.hi k ≤ (if k = w then HI else Y.hi k)
        by_cases ek : k = w
        · subst ek; simp only [if_true]; omega
        · simp only [ek, if_false]; omega
    · intro hc
      have hwn : ¬ w < Y.nf := by have := of_decide_eq_false hc; omega
      obtain ⟨i, hi⟩ : ∃ i, i = w - Y.nf := ⟨_, rfl⟩
      have hin : i < Y.ns := by omega
      have hwi : wrapF .i64 ((w : Int) - (Y.nf : Int)) = (i : Int) := by rw [wrap_in (by omega) (by omega)]; omega
      obtain ⟨b1, ⟨kS, rfl⟩, b3, b4⟩ := hSS (by omega)
      subst b1
      obtain ⟨d0, d1, d2, d3⟩ := hG.s i hin
      have l1 : loadCell g (.pointer (some ⟨h.next + 5, i * 3 + 1, none⟩)) = some (.int .i64 (Y.slo i)) := by rw [(show Row g (h.next + 5) cS from ⟨_, _, b3⟩).ld]; exact b4 i 1 hin (by omega)
      have l2 : loadCell g (.pointer (some ⟨h.next + 5, i * 3 + 1 + 1, none⟩)) = some (.int .i64 (Y.shi i)) := by rw [(show Row g (h.next + 5) cS from ⟨_, _, b3⟩).ld]; exact b4 i 2 hin (by omega)
      have y2 : ¬ (3 : Int) = 0 := by decide
      have t1 : (a2 : Int).tmod 3 = ((a2 % 3 : Nat) : Int) := rfl
      have t2 := quoN (d := 3) w2
      have t2' : IntKind.wrap .i64 ((a2 : Int).tdiv 3) = ((a2 / 3 : Nat) : Int) := t2
      have t3 : ((a2 / 3 : Nat) : Int).tmod 3 = ((a2 / 3 % 3 : Nat) : Int) := rfl
      have hw1 : wrapF .i64 (Y.slo i - ((a2 % 3 : Nat) : Int)) = Y.slo i - ((a2 % 3 : Nat) : Int) := wrap_in (by omega) (by omega)
      have hw2 : wrapF .i64 (Y.shi i + ((a2 / 3 % 3 : Nat) : Int)) = Y.shi i + ((a2 / 3 % 3 : Nat) : Int) := wrap_in (by omega) (by omega)
      obtain ⟨LO, hLO⟩ : ∃ x, x = max 0 (Y.slo i - ((a2 % 3 : Nat) : Int)) := ⟨_, rfl⟩
      obtain ⟨HI, hHI⟩ : ∃ x, x = min 999 (Y.shi i + ((a2 / 3 % 3 : Nat) : Int)) := ⟨_, rfl⟩
      have hlen := (List.getElem?_eq_some_iff.1 (b4 i 2 hin (by omega))).1
      simp only [rn0, rn1, rn2, rn3, rn4, rn5, rn6, rn7, rn8, if_true, if_false, Nat.le_refl, true_and, and_true, decide_true, decide_false, Bool.not_true, Bool.not_false, reduceIte, Nat.reduceEqDiff, Nat.reduceAdd, Nat.reduceMul, Nat.reduceSub, Nat.reduceLeDiff, Nat.reduceLT, p1, p2, p3, p4, p9, rx.ld, Nat.zero_add, List.getElem?_cons_zero, List.getElem?_cons_succ, len_slice, hwi, idxSl_s (s := 3) (o := h.next + 5) hin]
      refine W_draw All ?_
      simp only [rn0, rn1, rn2, rn3, rn4, rn5, rn6, rn7, rn8, if_true, if_false, Nat.le_refl, true_and, and_true, decide_true, decide_false, Bool.not_true, Bool.not_false, reduceIte, Nat.reduceEqDiff, Nat.reduceAdd, Nat.reduceMul, Nat.reduceSub, Nat.reduceLeDiff, Nat.reduceLT, p1, p2, p3, p4, p9, there_p, l1, l2, p_conv8, r_8 w2, valN_tmp, valN_const, Nat.reduceLT, y2, r_rem y2, r_quo y2, t1, t2', t3, hw1, hw2, ← hLO, ← hHI, Nat.add_zero]
      refine up_store (b := h.next + 5) (off := i * 3 + 1) (vs := [.int .i64 LO]) rfl b3 (by omega) (by omega) rfl rfl rfl (by show i * 3 + 1 + 1 ≤ cS.length; omega) (fun _ _ => trivial) fun g5 hs5 => ?_
      have n5 := hs5.next
      have f5 := hs5.floor
      have c5 := splice_at (x := .int .i64 LO) b4 hin (show 1 < 3 by omega)
      simp only [rn0, rn1, rn2, rn3, rn4, rn5, rn6, rn7, rn8, if_true, if_false, Nat.le_refl, true_and, and_true, decide_true, decide_false, Bool.not_true, Bool.not_false, reduceIte, Nat.reduceEqDiff, Nat.reduceAdd, Nat.reduceMul, Nat.reduceSub, Nat.reduceLeDiff, Nat.reduceLT, there_p]
      refine up_store (b := h.next + 5) (off := i * 3 + 2) (vs := [.int .i64 HI]) rfl hs5.get (by omega) (by omega) rfl rfl rfl (by have := (List.getElem?_eq_some_iff.1 (c5 i 2 hin (by omega))).1; show i * 3 + 2 + 1 ≤ _; omega) (fun _ _ => trivial) fun g6 hs6 => ?_
      have n6 := hs6.next
      have f6 := hs6.floor
      have c6 := splice_at (x := .int .i64 HI) c5 hin (show 2 < 3 by omega)
      simp only [rn0, rn1, rn2, rn3, rn4, rn5, rn6, rn7, rn8, if_true, if_false, Nat.le_refl, true_and, and_true, decide_true, decide_false, Bool.not_true, Bool.not_false, reduceIte, Nat.reduceEqDiff, Nat.reduceAdd, Nat.reduceMul, Nat.reduceSub, Nat.reduceLeDiff, Nat.reduceLT, p1, p2, p3, p4, p9]
      have old6 : ∀ i, i ≠ h.next + 5 → g6.get i = g.get i := fun i hi => by rw [hs6.old i hi, hs5.old i hi]
      have sub6 : Sub All h g6 := fun i cs w gr t hg => by
        have := AHeap.lt_of_get hg
        rw [old6 i (by omega)]; exact sg _ _ _ _ t hg
      have row6 : ∀ i cs, i ≠ h.next + 5 → Row g i cs → Row g6 i cs := fun i cs hi ⟨w, gr, e⟩ => ⟨w, gr, by rw [old6 i hi]; exact e⟩
      refine ⟨sub6, by omega, by omega, row6 _ _ (by omega) ry, row6 _ _ (by omega) rx, { Y with slo := fun k => if k = i then LO else Y.slo k, shi := fun k => if k = i then HI else Y.shi k }, ⟨cells_row (row6 _ _ (by omega) ⟨_, _, gF⟩) hcF, hy.v.mono sub6, cells_row hs6.row fun k j hk hj => ?_⟩, ⟨rfl, rfl, rfl, rfl, fun k hk => ⟨Int.le_refl _, Int.le_refl _⟩, fun c k hk hr => ?_⟩, hT⟩
      · rw [c6 k j hk hj]
        by_cases ek : k = i
        · subst ek
          obtain rfl | rfl | rfl : j = 0 ∨ j = 1 ∨ j = 2 := by omega
          · simp
          · simp
          · simp
        · simp [ek]
      · obtain ⟨r1, r2⟩ := hr
        show (if k = i then LO else Y.slo k) ≤ _ ∧ _ ≤ (if k = i then HI else Y.shi k)
        by_cases ek : k = i
        · subst ek; simp only [if_true]; exact ⟨by omega, by omega⟩
        · simp only [ek, if_false]; exact ⟨r1, r2⟩
    · rintro f g' ms ⟨rfl, p3, p4, p9, sg', fg', ng', ry', rx', X, hX, hWid, hTX⟩
      have wy := ry'.whole (n := 3) rfl
      have wx := rx'.whole (n := 3) rfl
      have hrx := ready_c (n := n) (h := g') (by omega) (by omega) hX
      by_cases hfx : faultN X = 0
      case neg =>
        rw [decide_eq_false fun e => hfx e.2] at hrx
        simp only [rn0, rn1, rn2, rn3, rn4, rn5, rn6, rn7, rn8, if_true, if_false, Nat.le_refl, true_and, and_true, decide_true, decide_false, Bool.not_true, Bool.not_false, reduceIte, Nat.reduceEqDiff, Nat.reduceAdd, Nat.reduceMul, Nat.reduceSub, Nat.reduceLeDiff, Nat.reduceLT, p3, p4, p9, wx, hrx, awake_c (n := n) (h := g') (by omega)]
      rw [decide_eq_true ⟨hTX, hfx⟩] at hrx
      have hYg := hy.mono sg'
      obtain ⟨F1, V1, S1, g7, ey1, hy1', m7⟩ := yard_c (n := n) (h := g') (by omega) (by omega) (by omega) hYg hT
      have n7 := m7.next
      have u7 := m7.up
      have f7 := m7.floor
      obtain ⟨v1, g8, el1, m8, hL1⟩ := leave_c (n := n) (h := g7) (by omega) (by omega) (by omega) hy1' hT
      have n8 := m8.next
      have u8 := m8.up
      have f8 := m8.floor
      have s8 := m7.sub.trans m8.sub
      obtain ⟨F2, V2, S2, g9, ey2, hy2', m9⟩ := yard_c (n := n) (h := g8) (by omega) (by omega) (by omega) (hX.mono s8) hTX
      have n9 := m9.next
      have u9 := m9.up
      have f9 := m9.floor
      obtain ⟨v2, g10, el2, m10, hL2⟩ := leave_c (n := n) (h := g9) (by omega) (by omega) (by omega) hy2' hTX
      have n10 := m10.next
      have u10 := m10.up
      have f10 := m10.floor
      have s10 := s8.trans (m9.sub.trans m10.sub)
      rcases hL1 with ⟨h0, _⟩ | ⟨_, l1, rfl, hl1, _⟩
      · exact absurd hf h0
      rcases hL2 with ⟨h0, _⟩ | ⟨_, l2, rfl, hl2, _⟩
      · exact absurd hfx h0
      have wx8 := (rx'.mono s8).whole (n := 3) rfl
      have wy10 := (ry'.mono s10).whole (n := 3) rfl
      have wx10 := (rx'.mono s10).whole (n := 3) rfl
      have hle := hWid.leave
      have hle' : ¬ ((leaveRun Y).length : Int) < ((leaveRun X).length : Int) := by omega
      have haw := awake_c (n := n) (h := g10) (by omega)
      by_cases hz : leaveRun Y = []
      · have hz0 : (leaveRun Y).length = 0 := by rw [hz]; rfl
        have hpos : ¬ (0 : Int) < ((leaveRun Y).length : Int) := by omega
        have hin := hWid.inner hf hfx hz
        obtain ⟨fld, hfld⟩ : ∃ x, x = a3 / 8 % Y.nf := ⟨_, rfl⟩
        have hfl2 : fld < X.nf := by rw [← hWid.nf, hfld]; exact Nat.mod_lt _ hnf
        have q8 : ¬ (8 : Int) = 0 := by decide
        have q9 : IntKind.wrap .i64 ((a3 : Int).tdiv 8) = ((a3 / 8 : Nat) : Int) := quo8 w3
        have q10 : ((a3 / 8 : Nat) : Int).tmod (Y.nf : Int) = (fld : Int) := by rw [hfld]; rfl
        have ecl := closer_c (n := n) (h := g10) (by omega) (by omega) (hYg.mono s10) (hX.mono s10) hT hTX hin (fld := fld) (blue := a3) hfl2 w3 (by rw [← hWid.nv]; exact hnv)
        simp only [rn0, rn1, rn2, rn3, rn4, rn5, rn6, rn7, rn8, if_true, if_false, Nat.le_refl, true_and, and_true, decide_true, decide_false, Bool.not_true, Bool.not_false, reduceIte, Nat.reduceEqDiff, Nat.reduceAdd, Nat.reduceMul, Nat.reduceSub, Nat.reduceLeDiff, Nat.reduceLT, p3, p4, p9, wx, hrx, wy, ey1, el1, ex0, ex1, wx8, ey2, el2, Int.reduceEq, Cells.len hl1, Cells.len hl2, hle']
        refine W_draw All ?_
        simp only [rn0, rn1, rn2, rn3, rn4, rn5, rn6, rn7, rn8, if_true, if_false, Nat.le_refl, true_and, and_true, decide_true, decide_false, Bool.not_true, Bool.not_false, reduceIte, Nat.reduceEqDiff, Nat.reduceAdd, Nat.reduceMul, Nat.reduceSub, Nat.reduceLeDiff, Nat.reduceLT, p3, p4, p9, d_guard, dg_tt, dg_tf, dg_ft, dg_ff, Cells.len hl1, hpos, wy10, wx10, p_conv8, r_8 w3, valN_tmp, valN_const, Nat.reduceLT, r_quo q8, q9, (ry'.mono s10).ld, Nat.zero_add, List.getElem?_cons_zero, List.getElem?_cons_succ, Cells.len (hYg.mono s10).f, r_rem z1, q10, ecl, haw]
      · have hpos : (0 : Int) < ((leaveRun Y).length : Int) := by have := List.length_pos_iff.2 hz; omega
        simp only [rn0, rn1, rn2, rn3, rn4, rn5, rn6, rn7, rn8, if_true, if_false, Nat.le_refl, true_and, and_true, decide_true, decide_false, Bool.not_true, Bool.not_false, reduceIte, Nat.reduceEqDiff, Nat.reduceAdd, Nat.reduceMul, Nat.reduceSub, Nat.reduceLeDiff, Nat.reduceLT, p3, p4, p9, wx, hrx, wy, ey1, el1, ex0, ex1, wx8, ey2, el2, Int.reduceEq, Cells.len hl1, Cells.len hl2, hle']
        refine W_draw All ?_
        simp only [rn0, rn1, rn2, rn3, rn4, rn5, rn6, rn7, rn8, if_true, if_false, Nat.le_refl, true_and, and_true, decide_true, decide_false, Bool.not_true, Bool.not_false, reduceIte, Nat.reduceEqDiff, Nat.reduceAdd, Nat.reduceMul, Nat.reduceSub, Nat.reduceLeDiff, Nat.reduceLT, p3, p4, p9, d_guard, dg_tt, dg_tf, dg_ft, dg_ff, Cells.len hl1, hpos, haw]
theorem wider_c (hn : 11200 ≤ n) (hr : h.next + 9000000 < far) (hfl : h.floor ≤ h.next) {fv vv sv : Value} {Y : MY} (hy : YardR h fv vv sv Y) (a1 : Int) (wf1 : (Lit.int .u8 a1).wf = true) (a2 : Int) (wf2 : (Lit.int .u8 a2).wf = true) (a3 : Int) (wf3 : (Lit.int .u8 a3).wf = true) :
    ∃ v h', call n (.func (.func 19) #[] #[]) [.agg ⟨[fv, vv, sv]⟩, .int .u8 a1, .int .u8 a2, .int .u8 a3] h = some (v, h') ∧ v = .bool true := by
  obtain ⟨k1, rfl, h1⟩ := wf8 wf1
  obtain ⟨k2, rfl, h2⟩ := wf8 wf2
  obtain ⟨k3, rfl, h3⟩ := wf8 wf3
  by_cases hg : (Thin Y ∧ faultN Y = 0) ∧ 0 < Y.nf ∧ 0 < Y.nv
  · obtain ⟨⟨g1, g2⟩, g3, g4⟩ := hg
    exact wider_m (by omega) hr hfl hy g1 g2 g3 g4 h1 h2 h3
  obtain ⟨n, rfl⟩ : ∃ p, n = p + 1 := ⟨n - 1, by omega⟩
  refine call_any0 fok19 rfl rfl (by simp) ?_
  simp only [s19, W_seq, W_ops]
  refine ops_box (cs := [fv, vv, sv]) (by omega) rfl hy.one fun g1 hx1 => ?_
  have n1 := hx1.next
  have hy1 := hy.mono hx1.sub
  have x1 := hx1.row.whole (n := 3) rfl
  have r1 := hx1.row
  have hrd := ready_c (n := n) (h := g1) (by omega) (by omega) hy1
  have haw := awake_c (n := n) (h := g1) (by omega)
  by_cases c1 : Thin Y ∧ faultN Y = 0
  case neg =>
    rw [decide_eq_false c1] at hrd
    simp only [rn0, rn1, rn2, rn3, rn4, rn5, rn6, rn7, rn8, if_true, if_false, Nat.le_refl, true_and, and_true, decide_true, decide_false, Bool.not_true, Bool.not_false, reduceIte, Nat.reduceEqDiff, Nat.reduceAdd, Nat.reduceMul, Nat.reduceSub, Nat.reduceLeDiff, Nat.reduceLT, x1, hrd, haw]
  rw [decide_eq_true c1] at hrd
  obtain ⟨rr, hrw, hq⟩ := hy1.v
  by_cases c2 : (Y.nf : Int) = 0
  · simp only [rn0, rn1, rn2, rn3, rn4, rn5, rn6, rn7, rn8, if_true, if_false, Nat.le_refl, true_and, and_true, decide_true, decide_false, Bool.not_true, Bool.not_false, reduceIte, Nat.reduceEqDiff, Nat.reduceAdd, Nat.reduceMul, Nat.reduceSub, Nat.reduceLeDiff, Nat.reduceLT, x1, hrd, r1.ld, Nat.zero_add, List.getElem?_cons_zero, List.getElem?_cons_succ, Cells.len hy1.f, Cells.len hrw, c2, haw]
  have c3 : (Y.nv : Int) = 0 := by
    apply Classical.byContradiction
    intro hn
    exact hg ⟨c1, by omega, by omega⟩
  simp only [rn0, rn1, rn2, rn3, rn4, rn5, rn6, rn7, rn8, if_true, if_false, Nat.le_refl, true_and, and_true, decide_true, decide_false, Bool.not_true, Bool.not_false, reduceIte, Nat.reduceEqDiff, Nat.reduceAdd, Nat.reduceMul, Nat.reduceSub, Nat.reduceLeDiff, Nat.reduceLT, x1, hrd, r1.ld, Nat.zero_add, List.getElem?_cons_zero, List.getElem?_cons_succ, Cells.len hy1.f, Cells.len hrw, c2, c3, haw]
end Go.Vm.Vat
