/- Texts of the proofs of this seat, put together: VatCloser, VatLeftA, VatWiderP, VatWiderL, VatBounds3, VatBundleP, VatTurnedP, VatOneMoreL. -/
import Derived.Test.YtnibceeoejeimaaPk7

namespace Go.Vm.Vat
open Go.Proofs
set_option linter.unusedSimpArgs false
set_option linter.unusedVariables false
set_option maxRecDepth 10000
variable {n : Nat} {h : AHeap}
def s112 : SCode := (.seq (.ops [⟨(some 4), none, .mov (.const (.bool false))⟩]) (.seq (.seq (.ops [⟨(some 6), none, .mov (T 0)⟩, ⟨(some 7), none, .len (T 6)⟩, ⟨(some 8), none, .mov (T 1)⟩, ⟨(some 9), none, .len (T 8)⟩, ⟨(some 10), none, .int2 .neq (T 7) (T 9)⟩]) (.cond (T 10) (.seq (.ops [⟨(some 4), none, .mov (.const (.bool false))⟩]) .ret) .skip)) (.seq (.seq (.ops [⟨(some 5), none, .mov (.const (.int .i64 (0)))⟩]) (.block 0 (.loop (.seq (.seq (.ops [⟨(some 11), none, .mov (T 5)⟩, ⟨(some 12), none, .mov (T 0)⟩, ⟨(some 13), none, .len (T 12)⟩, ⟨(some 14), none, .int2 .lss (T 11) (T 13)⟩]) (.cond (T 14) .skip (.exit 0))) (.seq (.block 1 (.seq (.draw [⟨.free, ⟨(some 17), none, .mov (T 0)⟩⟩, ⟨.free, ⟨(some 18), none, .mov (T 5)⟩⟩, ⟨.free, ⟨(some 19), none, .idxSl 2 (T 17) (T 18)⟩⟩, ⟨.free, ⟨(some 20), none, .fieldAddr 0 (T 19)⟩⟩, ⟨.rd1, ⟨(some 21), none, .load1 (T 20)⟩⟩, ⟨.free, ⟨(some 22), none, .mov (T 1)⟩⟩, ⟨.free, ⟨(some 23), none, .mov (T 5)⟩⟩, ⟨.free, ⟨(some 24), none, .idxSl 2 (T 22) (T 23)⟩⟩, ⟨.free, ⟨(some 25), none, .fieldAddr 0 (T 24)⟩⟩, ⟨.rd1, ⟨(some 26), none, .load1 (T 25)⟩⟩, ⟨.free, ⟨(some 27), none, .int2 .lss (T 21) (T 26)⟩⟩, ⟨.free, ⟨(some 28), none, .mov (T 27)⟩⟩, ⟨.free, ⟨(some 29), (some (28, false)), .mov (T 0)⟩⟩, ⟨.free, ⟨(some 30), (some (28, false)), .mov (T 5)⟩⟩, ⟨.free, ⟨(some 31), (some (28, false)), .idxSl 2 (T 29) (T 30)⟩⟩, ⟨.free, ⟨(some 32), (some (28, false)), .fieldAddr 1 (T 31)⟩⟩, ⟨.rd1, ⟨(some 33), (some (28, false)), .load1 (T 32)⟩⟩, ⟨.free, ⟨(some 34), (some (28, false)), .mov (T 1)⟩⟩, ⟨.free, ⟨(some 35), (some (28, false)), .mov (T 5)⟩⟩, ⟨.free, ⟨(some 36), (some (28, false)), .idxSl 2 (T 34) (T 35)⟩⟩, ⟨.free, ⟨(some 37), (some (28, false)), .fieldAddr 1 (T 36)⟩⟩, ⟨.rd1, ⟨(some 38), (some (28, false)), .load1 (T 37)⟩⟩, ⟨.free, ⟨(some 39), (some (28, false)), .int2 .gtr (T 33) (T 38)⟩⟩, ⟨.free, ⟨(some 40), none, .pick (T 28) (.const (.bool true)) (T 39)⟩⟩]) (.cond (T 40) (.seq (.ops [⟨(some 4), none, .mov (.const (.bool false))⟩]) .ret) .skip))) (.ops [⟨(some 15), none, .mov (T 5)⟩, ⟨(some 16), none, .int2 .add (T 15) (.const (.int .i64 (1)))⟩, ⟨(some 5), none, .mov (T 16)⟩])))))) (.seq (.ops [⟨(some 4), none, .mov (.const (.bool true))⟩]) .ret))))
theorem fok112 : FnOk Try.prog 112 41 s112 [.tmp 4] := ⟨Try.f112, _, Try.func112, rfl, Try.ntmps112, by kernel_rfl, by kernel_rfl⟩
theorem within_c (hn : 1010 ≤ n) {va vb : Value} {m : Nat} {lo hi lo' hi' : Nat → Int} (ha : Ranges h va m lo hi) (hb : Ranges h vb m lo' hi') (hm : m ≤ 1000) (hl : ∀ k, k < m → lo' k ≤ lo k ∧ hi k ≤ hi' k) :
    call n (.func (.func 112) #[] #[]) [va, vb] h = some (.bool true, h) := by
  obtain ⟨n, rfl⟩ : ∃ p, n = p + 1 := ⟨n - 1, by omega⟩
  refine call_plain0 fok112 rfl rfl (by simp) rfl ?_
  have ha : Ranges h.shutAll va m lo hi := Cells.shut ha
  have hb : Ranges h.shutAll vb m lo' hi' := Cells.shut hb
  generalize h.shutAll = h at ha hb
  simp only [rn0, rn1, rn2, rn3, rn4, rn5, rn6, rn7, rn8, if_true, if_false, Nat.le_refl, true_and, and_true, decide_true, decide_false, Bool.not_true, Bool.not_false, reduceIte, Nat.reduceEqDiff, Nat.reduceAdd, Nat.reduceMul, Nat.reduceSub, Nat.reduceLeDiff, Nat.reduceLT, s112, Cells.len ha, Cells.len hb]
  refine W_loop m (fun k f g ms => g = h ∧ ms = [] ∧ f 0 = va ∧ f 1 = vb ∧ f 5 = .int .i64 (k : Int)) (by simp; omega) ?_ ?_ ?_
  · simp only [rn0, rn1, rn2, rn3, rn4, rn5, rn6, rn7, rn8, if_true, if_false, Nat.le_refl, true_and, and_true, decide_true, decide_false, Bool.not_true, Bool.not_false, reduceIte, Nat.reduceEqDiff, Nat.reduceAdd, Nat.reduceMul, Nat.reduceSub, Nat.reduceLeDiff, Nat.reduceLT]
    trivial
  · rintro k f g ms hk ⟨rfl, rfl, p0, p1, p5⟩
    have hk' : (k : Int) < (m : Int) := by omega
    have hw : wrapF .i64 ((k : Int) + 1) = ((k + 1 : Nat) : Int) := by rw [wrap_in (by omega) (by omega)]; rfl
    obtain ⟨h1, h2⟩ := hl k hk
    have c1 : ¬ lo k < lo' k := by omega
    have c2 : ¬ hi' k < hi k := by omega
    have l1 : loadCell g (ptrO va 2 k 0) = some (.int .i64 (lo k)) := Cells.ld ha hk (by omega)
    have l2 : loadCell g (ptrO va 2 k 1) = some (.int .i64 (hi k)) := Cells.ld ha hk (by omega)
    have l3 : loadCell g (ptrO vb 2 k 0) = some (.int .i64 (lo' k)) := Cells.ld hb hk (by omega)
    have l4 : loadCell g (ptrO vb 2 k 1) = some (.int .i64 (hi' k)) := Cells.ld hb hk (by omega)
    simp only [rn0, rn1, rn2, rn3, rn4, rn5, rn6, rn7, rn8, if_true, if_false, Nat.le_refl, true_and, and_true, decide_true, decide_false, Bool.not_true, Bool.not_false, reduceIte, Nat.reduceEqDiff, Nat.reduceAdd, Nat.reduceMul, Nat.reduceSub, Nat.reduceLeDiff, Nat.reduceLT, p0, p1, p5, Cells.len ha, hk']
    refine W_draw All ?_
    simp only [rn0, rn1, rn2, rn3, rn4, rn5, rn6, rn7, rn8, if_true, if_false, Nat.le_refl, true_and, and_true, decide_true, decide_false, Bool.not_true, Bool.not_false, reduceIte, Nat.reduceEqDiff, Nat.reduceAdd, Nat.reduceMul, Nat.reduceSub, Nat.reduceLeDiff, Nat.reduceLT, p0, p1, p5, d_guard, dg_tt, dg_tf, dg_ft, dg_ff, Cells.idx ha hk, Cells.idx hb hk, Cells.fld ha hk, Cells.fld hb hk, l1, l2, l3, l4, c1, c2, hw]
  · rintro f g ms ⟨rfl, rfl, p0, p1, p5⟩
    simp only [rn0, rn1, rn2, rn3, rn4, rn5, rn6, rn7, rn8, if_true, if_false, Nat.le_refl, true_and, and_true, decide_true, decide_false, Bool.not_true, Bool.not_false, reduceIte, Nat.reduceEqDiff, Nat.reduceAdd, Nat.reduceMul, Nat.reduceSub, Nat.reduceLeDiff, Nat.reduceLT, p0, p1, p5, Cells.len ha, Int.lt_irrefl]
/-! ### Of two yards with the same vats, one with no other truths than the other one -/
structure Inner (X Y : MY) : Prop where
  nf : X.nf = Y.nf
  nv : X.nv = Y.nv
  q : X.q = Y.q
  fx : faultN X = 0
  fy : faultN Y = 0
  ne : truths X ≠ []
  sub : ∀ t, t ∈ truths X → t ∈ truths Y
theorem Inner.ney {X Y : MY} (hi : Inner X Y) : truths Y ≠ [] := by
  obtain ⟨t, ht⟩ := List.exists_mem_of_ne_nil _ hi.ne
  exact List.ne_nil_of_mem (hi.sub t ht)
theorem Inner.lo {X Y : MY} (hi : Inner X Y) (val : (Nat → Int) → Int) : loN val (truths Y) ≤ loN val (truths X) := (le_loN hi.ne).2 fun t ht => (le_loN hi.ney).1 (Int.le_refl _) t (hi.sub t ht)
theorem Inner.hi {X Y : MY} (hi : Inner X Y) (val : (Nat → Int) → Int) : hiN val (truths X) ≤ hiN val (truths Y) := (hiN_le hi.ne).2 fun t ht => (hiN_le hi.ney).1 (Int.le_refl _) t (hi.sub t ht)
theorem Inner.above {X Y : MY} (hi : Inner X Y) (a b : Nat) (t : Nat → Int) : Above X a b t ↔ Above Y a b t := by unfold Above; rw [hi.nf, hi.q]
theorem Inner.verdict {X Y : MY} (hi : Inner X Y) (a b : Nat) (h3 : verdictV Y a b ≠ 3) : verdictV X a b = verdictV Y a b := by
  unfold verdictV at h3 ⊢
  by_cases c1 : ∀ t, t ∈ truths Y → ¬ Above Y a b t
  · rw [if_pos c1, if_pos fun t ht => by rw [hi.above]; exact c1 t (hi.sub t ht)]
  · rw [if_neg c1] at h3 ⊢
    by_cases c2 : ∀ t, t ∈ truths Y → Above Y a b t
    · obtain ⟨t, ht⟩ := List.exists_mem_of_ne_nil _ hi.ne
      have hall : ∀ t, t ∈ truths X → Above X a b t := fun t ht => (hi.above a b t).2 (c2 t (hi.sub t ht))
      rw [if_pos c2, if_neg fun hc => hc t ht (hall t ht), if_pos hall]
    · rw [if_neg c2] at h3
      exact absurd rfl h3
open Classical in
theorem moreV_in {Y : MY} (hf : faultN Y = 0) (he : truths Y ≠ []) {a b : Nat} (ha : a < Y.nv) (hb : b < Y.nv) (hab : a ≠ b) : moreV Y (a : Int) (b : Int) = (verdictV Y a b, 0) := by
  unfold moreV
  have h1 : MoreArgs Y (a : Int) (b : Int) := ⟨⟨by omega, by omega⟩, by omega, by omega⟩
  rw [if_neg (by simpa using hf), if_neg (fun e => e h1), if_neg (by omega), if_neg he, Int.toNat_natCast, Int.toNat_natCast]
theorem Inner.with_ {X Y : MY} (hi : Inner X Y) (v f k : Nat) (t : Nat → Int) : blueWith X v f k t = blueWith Y v f k t := by unfold blueWith; rw [hi.nf, hi.q]
theorem Inner.enough {X Y : MY} (hi : Inner X Y) {v f : Nat} {b : Int} {k : Nat} (h : Enough Y v f b (truths Y) k) : Enough X v f b (truths X) k := fun t ht => by rw [hi.with_]; exact h t (hi.sub t ht)
theorem Inner.sure {X Y : MY} (hi : Inner X Y) (v f k : Nat) : sureN Y v f k (truths Y) ≤ sureN X v f k (truths X) := by
  rw [le_sureN hi.ne]
  intro t ht
  rw [hi.with_]
  exact (le_sureN hi.ney).1 (Int.le_refl _) t (hi.sub t ht)
theorem Inner.best {X Y : MY} (hi : Inner X Y) {f k : Nat} (hf : f < Y.nf) (hv : 0 < Y.nv) : (bestS Y f k).2 ≤ (bestS X f k).2 := by
  have hvx : 0 < X.nv := by rw [hi.nv]; exact hv
  obtain ⟨b1, b2, _, _⟩ := spRun_is (S := fun v k => sureN Y v f k (truths Y)) (nv := Y.nv) (many := k) hv fun v k h _ => sureN_pos hi.fy hi.ney h hf
  obtain ⟨_, _, c3, _⟩ := spRun_is (S := fun v k => sureN X v f k (truths X)) (nv := X.nv) (many := k) hvx fun v k h _ => sureN_pos hi.fx hi.ne h (by rw [hi.nf]; exact hf)
  have h1 := c3 (bestS Y f k).1 (by rw [hi.nv]; exact b1)
  refine Int.le_trans ?_ h1
  show (spRun _ Y.nv k).2 ≤ _
  rw [b2, hi.nv]
  exact (le_lowS hv).2 fun v hvv => Int.le_trans ((le_lowS hv).1 (Int.le_refl _) v hvv) (hi.sure v f _)
/-- if the outer one has enough with so many, the inner one does with no more -/
theorem Inner.needs {X Y : MY} (hi : Inner X Y) {v f : Nat} (hv : v < Y.nv) (hf : f < Y.nf) {b : Int} (hb : 0 ≤ b ∧ b ≤ 999) :
    (needsV Y (v : Int) (f : Int) b).2 = 0 → (needsV X (v : Int) (f : Int) b).2 = 0 ∧ (needsV X (v : Int) (f : Int) b).1 ≤ (needsV Y (v : Int) (f : Int) b).1 := by
  rw [needsV_in hi.fy hv hf hb, needsV_in hi.fx (by rw [hi.nv]; exact hv) (by rw [hi.nf]; exact hf) hb, if_neg hi.ne, if_neg hi.ney]
  by_cases hp : 0 ≤ findFrom (Enough Y v f b (truths Y)) 10 0
  · rw [if_pos hp]
    intro _
    obtain ⟨k, k1, k2, k3, k4⟩ := findFrom_get hp
    have hpx : 0 ≤ findFrom (Enough X v f b (truths X)) 10 0 := findFrom_iff.2 ⟨k, k1, hi.enough k2⟩
    rw [if_pos hpx]
    obtain ⟨m, m1, m2, m3, m4⟩ := findFrom_get hpx
    refine ⟨rfl, ?_⟩
    show findFrom _ 10 0 ≤ findFrom _ 10 0
    rw [k4, m4]
    have : m ≤ k := by
      apply Classical.byContradiction
      intro hc
      exact m3 k (by omega) (hi.enough k2)
    omega
  · rw [if_neg hp]
    intro h
    cases h
def s68 : SCode := (.seq (.ops [⟨(some 4), none, .box (T 0)⟩, ⟨(some 5), none, .box (T 1)⟩, ⟨(some 8), none, .mov (.const (.bool false))⟩]) (.seq (.ops [⟨(some 30), none, .loadN 3 (T 4)⟩, ⟨(some 31), none, .call (.func 26) [(T 30)]⟩, ⟨(some 32), none, .call (.func 34) [(T 31)]⟩, ⟨(some 29), none, .mov (T 32)⟩, ⟨(some 33), none, .extract 0 (T 29)⟩, ⟨(some 34), none, .extract 1 (T 29)⟩, ⟨(some 9), none, .mov (T 33)⟩, ⟨(some 10), none, .mov (T 34)⟩]) (.seq (.ops [⟨(some 36), none, .loadN 3 (T 5)⟩, ⟨(some 37), none, .call (.func 26) [(T 36)]⟩, ⟨(some 38), none, .call (.func 34) [(T 37)]⟩, ⟨(some 35), none, .mov (T 38)⟩, ⟨(some 39), none, .extract 0 (T 35)⟩, ⟨(some 40), none, .extract 1 (T 35)⟩, ⟨(some 11), none, .mov (T 39)⟩, ⟨(some 12), none, .mov (T 40)⟩]) (.seq (.seq (.ops [⟨(some 41), none, .mov (T 10)⟩, ⟨(some 42), none, .int2 .neq (T 41) (.const (.int .i64 (0)))⟩, ⟨(some 43), none, .mov (T 42)⟩, ⟨(some 44), (some (43, false)), .mov (T 12)⟩, ⟨(some 45), (some (43, false)), .int2 .neq (T 44) (.const (.int .i64 (0)))⟩, ⟨(some 46), none, .pick (T 43) (.const (.bool true)) (T 45)⟩, ⟨(some 47), none, .mov (T 46)⟩, ⟨(some 48), (some (47, false)), .mov (T 9)⟩, ⟨(some 49), (some (47, false)), .mov (T 11)⟩, ⟨(some 50), (some (47, false)), .call (.func 112) [(T 48), (T 49)]⟩, ⟨(some 51), (some (47, false)), .not (T 50)⟩, ⟨(some 52), none, .pick (T 47) (.const (.bool true)) (T 51)⟩]) (.cond (T 52) (.seq (.ops [⟨(some 8), none, .mov (.const (.bool false))⟩]) .ret) .skip)) (.seq (.seq (.ops [⟨(some 13), none, .mov (.const (.int .i64 (0)))⟩]) (.block 0 (.loop (.seq (.seq (.ops [⟨(some 53), none, .mov (T 13)⟩, ⟨(some 54), none, .fieldAddr 1 (T 5)⟩, ⟨(some 55), none, .load1 (T 54)⟩, ⟨(some 56), none, .len (T 55)⟩, ⟨(some 57), none, .int2 .lss (T 53) (T 56)⟩]) (.cond (T 57) .skip (.exit 0))) (.seq (.block 1 (.seq (.seq (.ops [⟨(some 14), none, .mov (.const (.int .i64 (0)))⟩]) (.block 2 (.loop (.seq (.seq (.ops [⟨(some 60), none, .mov (T 14)⟩, ⟨(some 61), none, .fieldAddr 1 (T 5)⟩, ⟨(some 62), none, .load1 (T 61)⟩, ⟨(some 63), none, .len (T 62)⟩, ⟨(some 64), none, .int2 .lss (T 60) (T 63)⟩]) (.cond (T 64) .skip (.exit 2))) (.seq (.block 3 (.seq (.seq (.ops [⟨(some 67), none, .mov (T 14)⟩, ⟨(some 68), none, .mov (T 13)⟩, ⟨(some 69), none, .int2 .eql (T 67) (T 68)⟩]) (.cond (T 69) (.exit 3) .skip)) (.seq (.ops [⟨(some 71), none, .loadN 3 (T 4)⟩, ⟨(some 72), none, .call (.func 26) [(T 71)]⟩, ⟨(some 73), none, .mov (T 13)⟩, ⟨(some 74), none, .mov (T 14)⟩, ⟨(some 75), none, .call (.func 40) [(T 72), (T 73), (T 74)]⟩, ⟨(some 70), none, .mov (T 75)⟩, ⟨(some 76), none, .extract 0 (T 70)⟩, ⟨(some 77), none, .extract 1 (T 70)⟩, ⟨(some 15), none, .mov (T 76)⟩, ⟨(some 16), none, .mov (T 77)⟩]) (.seq (.ops [⟨(some 79), none, .loadN 3 (T 5)⟩, ⟨(some 80), none, .call (.func 26) [(T 79)]⟩, ⟨(some 81), none, .mov (T 13)⟩, ⟨(some 82), none, .mov (T 14)⟩, ⟨(some 83), none, .call (.func 40) [(T 80), (T 81), (T 82)]⟩, ⟨(some 78), none, .mov (T 83)⟩, ⟨(some 84), none, .extract 0 (T 78)⟩, ⟨(some 85), none, .extract 1 (T 78)⟩, ⟨(some 17), none, .mov (T 84)⟩, ⟨(some 18), none, .mov (T 85)⟩]) (.seq (.ops [⟨(some 86), none, .mov (T 16)⟩, ⟨(some 87), none, .int2 .neq (T 86) (.const (.int .i64 (0)))⟩, ⟨(some 88), none, .mov (T 87)⟩, ⟨(some 89), (some (88, false)), .mov (T 18)⟩, ⟨(some 90), (some (88, false)), .int2 .neq (T 89) (.const (.int .i64 (0)))⟩, ⟨(some 91), none, .pick (T 88) (.const (.bool true)) (T 90)⟩, ⟨(some 92), none, .mov (T 91)⟩, ⟨(some 93), (some (92, false)), .mov (T 17)⟩, ⟨(some 94), (some (92, false)), .int2 .neq (T 93) (.const (.int .i64 (3)))⟩, ⟨(some 95), (some (92, false)), .mov (T 94)⟩, ⟨(some 96), (some (95, true)), .mov (T 15)⟩, ⟨(some 97), (some (95, true)), .mov (T 17)⟩, ⟨(some 98), (some (95, true)), .int2 .neq (T 96) (T 97)⟩, ⟨(some 99), (some (92, false)), .pick (T 95) (T 98) (.const (.bool false))⟩, ⟨(some 100), none, .pick (T 92) (.const (.bool true)) (T 99)⟩]) (.cond (T 100) (.seq (.ops [⟨(some 8), none, .mov (.const (.bool false))⟩]) .ret) .skip)))))) (.ops [⟨(some 65), none, .mov (T 14)⟩, ⟨(some 66), none, .int2 .add (T 65) (.const (.int .i64 (1)))⟩, ⟨(some 14), none, .mov (T 66)⟩])))))) (.seq (.ops [⟨(some 102), none, .loadN 3 (T 4)⟩, ⟨(some 103), none, .call (.func 26) [(T 102)]⟩, ⟨(some 104), none, .mov (T 13)⟩, ⟨(some 105), none, .mov (T 2)⟩, ⟨(some 106), none, .mov (T 3)⟩, ⟨(some 107), none, .call (.func 46) [(T 103), (T 104), (T 105), (T 106)]⟩, ⟨(some 101), none, .mov (T 107)⟩, ⟨(some 108), none, .extract 0 (T 101)⟩, ⟨(some 109), none, .extract 1 (T 101)⟩, ⟨(some 19), none, .mov (T 108)⟩, ⟨(some 20), none, .mov (T 109)⟩]) (.seq (.ops [⟨(some 111), none, .loadN 3 (T 5)⟩, ⟨(some 112), none, .call (.func 26) [(T 111)]⟩, ⟨(some 113), none, .mov (T 13)⟩, ⟨(some 114), none, .mov (T 2)⟩, ⟨(some 115), none, .mov (T 3)⟩, ⟨(some 116), none, .call (.func 46) [(T 112), (T 113), (T 114), (T 115)]⟩, ⟨(some 110), none, .mov (T 116)⟩, ⟨(some 117), none, .extract 0 (T 110)⟩, ⟨(some 118), none, .extract 1 (T 110)⟩, ⟨(some 21), none, .mov (T 117)⟩, ⟨(some 22), none, .mov (T 118)⟩]) (.seq (.ops [⟨(some 119), none, .mov (T 22)⟩, ⟨(some 120), none, .int2 .eql (T 119) (.const (.int .i64 (0)))⟩, ⟨(some 121), none, .mov (T 120)⟩, ⟨(some 122), (some (121, true)), .mov (T 20)⟩, ⟨(some 123), (some (121, true)), .int2 .neq (T 122) (.const (.int .i64 (0)))⟩, ⟨(some 124), (some (121, true)), .mov (T 123)⟩, ⟨(some 125), (some (124, false)), .mov (T 19)⟩, ⟨(some 126), (some (124, false)), .mov (T 21)⟩, ⟨(some 127), (some (124, false)), .int2 .gtr (T 125) (T 126)⟩, ⟨(some 128), (some (121, true)), .pick (T 124) (.const (.bool true)) (T 127)⟩, ⟨(some 129), none, .pick (T 121) (T 128) (.const (.bool false))⟩]) (.cond (T 129) (.seq (.ops [⟨(some 8), none, .mov (.const (.bool false))⟩]) .ret) .skip)))))) (.ops [⟨(some 58), none, .mov (T 13)⟩, ⟨(some 59), none, .int2 .add (T 58) (.const (.int .i64 (1)))⟩, ⟨(some 13), none, .mov (T 59)⟩])))))) (.seq (.ops [⟨(some 131), none, .loadN 3 (T 4)⟩, ⟨(some 132), none, .call (.func 26) [(T 131)]⟩, ⟨(some 133), none, .mov (T 2)⟩, ⟨(some 134), none, .mov (T 3)⟩, ⟨(some 135), none, .plain (.binOp .rem 3 (T 134) (.const (.int .i64 (10))) 3) 3⟩, ⟨(some 136), none, .call (.func 48) [(T 132), (T 133), (T 135)]⟩, ⟨(some 130), none, .mov (T 136)⟩, ⟨(some 137), none, .extract 0 (T 130)⟩, ⟨(some 138), none, .extract 1 (T 130)⟩, ⟨(some 139), none, .extract 2 (T 130)⟩, ⟨(some 23), none, .mov (T 137)⟩, ⟨(some 24), none, .mov (T 138)⟩, ⟨(some 25), none, .mov (T 139)⟩]) (.seq (.ops [⟨(some 141), none, .loadN 3 (T 5)⟩, ⟨(some 142), none, .call (.func 26) [(T 141)]⟩, ⟨(some 143), none, .mov (T 2)⟩, ⟨(some 144), none, .mov (T 3)⟩, ⟨(some 145), none, .plain (.binOp .rem 3 (T 144) (.const (.int .i64 (10))) 3) 3⟩, ⟨(some 146), none, .call (.func 48) [(T 142), (T 143), (T 145)]⟩, ⟨(some 140), none, .mov (T 146)⟩, ⟨(some 147), none, .extract 0 (T 140)⟩, ⟨(some 148), none, .extract 1 (T 140)⟩, ⟨(some 149), none, .extract 2 (T 140)⟩, ⟨(some 26), none, .mov (T 147)⟩, ⟨(some 27), none, .mov (T 148)⟩, ⟨(some 28), none, .mov (T 149)⟩]) (.seq (.ops [⟨(some 150), none, .mov (T 25)⟩, ⟨(some 151), none, .int2 .eql (T 150) (.const (.int .i64 (0)))⟩, ⟨(some 152), none, .mov (T 151)⟩, ⟨(some 153), (some (152, true)), .mov (T 28)⟩, ⟨(some 154), (some (152, true)), .int2 .eql (T 153) (.const (.int .i64 (0)))⟩, ⟨(some 155), none, .pick (T 152) (T 154) (.const (.bool false))⟩, ⟨(some 156), none, .mov (T 155)⟩, ⟨(some 157), (some (156, true)), .mov (T 24)⟩, ⟨(some 158), (some (156, true)), .mov (T 27)⟩, ⟨(some 159), (some (156, true)), .int2 .geq (T 157) (T 158)⟩, ⟨(some 160), none, .pick (T 156) (T 159) (.const (.bool false))⟩, ⟨(some 8), none, .mov (T 160)⟩]) .ret))))))))
theorem fok68 : FnOk Try.prog 68 161 s68 [.tmp 8] := ⟨Try.f68, _, Try.func68, rfl, Try.ntmps68, by kernel_rfl, by kernel_rfl⟩
theorem closer_c (hn : 10090 ≤ n) (hr : h.next + 8000000 < far) {F V S F' V' S' : Value} {X Y : MY} (hx : YardR h F V S X) (hy : YardR h F' V' S' Y) (hTx : Thin X) (hTy : Thin Y) (hi : Inner X Y) {fld blue : Nat} (hff : fld < Y.nf) (hb : blue < 256) (hv0 : 0 < Y.nv) :
    call n (.func (.func 68) #[] #[]) [.agg ⟨[F, V, S]⟩, .agg ⟨[F', V', S']⟩, .int .i64 (fld : Int), .int .i64 (blue : Int)] h = some (.bool true, h) := by
  obtain ⟨n, rfl⟩ : ∃ p, n = p + 1 := ⟨n - 1, by omega⟩
  refine call_plain0 fok68 rfl rfl (by simp) rfl ?_
  have hx := hx.shut
  have hy := hy.shut
  have hr : h.shutAll.next + 8000000 < far := hr
  have hfl : h.shutAll.floor ≤ h.shutAll.next := Nat.le_refl _
  generalize h.shutAll = h at hx hy hr hfl
  have hffx : fld < X.nf := by rw [hi.nf]; exact hff
  have hvx : 0 < X.nv := by rw [hi.nv]; exact hv0
  have hG := good_of hi.fy
  obtain ⟨z1, z2, z3⟩ := hG.sz
  simp only [s68, W_seq, W_ops]
  refine ops_box (cs := [F, V, S]) (by omega) rfl hx.one fun g1 hx1 => ?_
  have n1 := hx1.next
  have f1 := hx1.floor
  have e1 : g1.next = h.next + 1 := n1
  refine ops_box (cs := [F', V', S']) (by omega) rfl hy.one fun g2 hx2 => ?_
  have n2 := hx2.next
  have f2 := hx2.floor
  have s2 : Sub All h g2 := hx1.sub.trans hx2.sub
  have r4 : Row g2 h.next [F, V, S] := hx1.row.mono hx2.sub
  have r5 : Row g2 g1.next [F', V', S'] := hx2.row
  rw [e1] at r5
  have hx2 := hx.mono s2
  have hy2 := hy.mono s2
  have w4 : ∀ {g}, Sub All g2 g → loadAgg 3 g (.pointer (some ⟨h.next, 0, none⟩)) = some (.agg ⟨[F, V, S]⟩) := fun hs => (r4.mono hs).whole rfl
  have w5 : ∀ {g}, Sub All g2 g → loadAgg 3 g (.pointer (some ⟨h.next + 1, 0, none⟩)) = some (.agg ⟨[F', V', S']⟩) := fun hs => (r5.mono hs).whole rfl
  obtain ⟨F1, V1, S1, g3, ey1, hy1, m3⟩ := yard_c (n := n) (h := g2) (by omega) (by omega) (by omega) hx2 hTx
  have n3 := m3.next
  have u3 := m3.up
  have f3 := m3.floor
  obtain ⟨b1v, g4, eb1, m4, hb1⟩ := boundsV_c (n := n) (h := g3) (by omega) (by omega) (by omega) hy1 hTx
  have n4 := m4.next
  have u4 := m4.up
  have f4 := m4.floor
  have s24 : Sub All g2 g4 := m3.sub.trans m4.sub
  obtain ⟨F2, V2, S2, g5, ey2, hy2y, m5⟩ := yard_c (n := n) (h := g4) (by omega) (by omega) (by omega) (hy2.mono s24) hTy
  have n5 := m5.next
  have u5 := m5.up
  have f5 := m5.floor
  obtain ⟨b2v, g6, eb2, m6, hb2⟩ := boundsV_c (n := n) (h := g5) (by omega) (by omega) (by omega) hy2y hTy
  have n6 := m6.next
  have u6 := m6.up
  have f6 := m6.floor
  have s26 : Sub All g2 g6 := s24.trans (m5.sub.trans m6.sub)
  rcases hb1 with ⟨h0, _⟩ | ⟨_, h0, _⟩ | ⟨_, _, l1, rfl, hl1⟩
  · exact absurd hi.fx h0
  · exact absurd h0 hi.ne
  rcases hb2 with ⟨h0, _⟩ | ⟨_, h0, _⟩ | ⟨_, _, l2, rfl, hl2⟩
  · exact absurd hi.fy h0
  · exact absurd h0 hi.ney
  have ewi := within_c (n := n) (h := g6) (va := l1) (vb := l2) (m := Y.nv) (by omega) (by have := Cells.mono hl1 (m5.sub.trans m6.sub); rw [hi.nv] at this; exact this) hl2 (by omega) (fun k _ => by
    rw [hi.nf, hi.q]; exact ⟨hi.lo _, hi.hi _⟩)
  simp only [rn0, rn1, rn2, rn3, rn4, rn5, rn6, rn7, rn8, if_true, if_false, Nat.le_refl, true_and, and_true, decide_true, decide_false, Bool.not_true, Bool.not_false, reduceIte, Nat.reduceEqDiff, Nat.reduceAdd, Nat.reduceMul, Nat.reduceSub, Nat.reduceLeDiff, Nat.reduceLT, e1, w4 Sub.refl, ey1, eb1, ex0, ex1, w5 s24, ey2, eb2, ewi]
  have hyx : ∀ {g}, Sub All g6 g → YardR g F V S X := fun hs => hx2.mono (s26.trans hs)
  have hyy : ∀ {g}, Sub All g6 g → YardR g F' V' S' Y := fun hs => hy2.mono (s26.trans hs)
  have lv5 : ∀ {g}, Sub All g6 g → loadCell g (.pointer (some ⟨h.next + 1, 1, none⟩)) = some V' := fun hs => by rw [(r5.mono (s26.trans hs)).ld]; rfl
  have lenV : ∀ {g}, Sub All g6 g → lenA V' g = some (.int .i64 (Y.nv : Int), g) := fun {g} hs => by
    obtain ⟨rr, hrw, _⟩ := (hyy hs).v
    exact Cells.len hrw g
  refine W_loop Y.nv (fun i f g ms => (Sub All g6 g ∧ g.floor = g6.floor ∧ g6.next ≤ g.next ∧ g.next ≤ g6.next + 5000 * i) ∧ ms = [] ∧ f 2 = .int .i64 (fld : Int) ∧ f 3 = .int .i64 (blue : Int) ∧ f 4 = .pointer (some ⟨h.next, 0, none⟩) ∧ f 5 = .pointer (some ⟨h.next + 1, 0, none⟩) ∧ f 13 = .int .i64 (i : Int)) (by simp; omega) ?_ ?_ ?_
  · simp only [rn0, rn1, rn2, rn3, rn4, rn5, rn6, rn7, rn8, if_true, if_false, Nat.le_refl, true_and, and_true, decide_true, decide_false, Bool.not_true, Bool.not_false, reduceIte, Nat.reduceEqDiff, Nat.reduceAdd, Nat.reduceMul, Nat.reduceSub, Nat.reduceLeDiff, Nat.reduceLT]
    exact ⟨by omega, rfl⟩
  · rintro i f g ms hii ⟨⟨sg, fg, ug, bg⟩, rfl, p2, p3, p4, p5, p13⟩
    have hii' : (i : Int) < (Y.nv : Int) := by omega
    have hwi : wrapF .i64 ((i : Int) + 1) = ((i + 1 : Nat) : Int) := by rw [wrap_in (by omega) (by omega)]; rfl
    simp only [rn0, rn1, rn2, rn3, rn4, rn5, rn6, rn7, rn8, if_true, if_false, Nat.le_refl, true_and, and_true, decide_true, decide_false, Bool.not_true, Bool.not_false, reduceIte, Nat.reduceEqDiff, Nat.reduceAdd, Nat.reduceMul, Nat.reduceSub, Nat.reduceLeDiff, Nat.reduceLT, p2, p3, p4, p5, p13, lv5 sg, lenV sg, hii']
    refine W_loop Y.nv (fun k f g' ms => (Sub All g6 g' ∧ g'.floor = g6.floor ∧ g.next ≤ g'.next ∧ g'.next ≤ g.next + 1000 * k) ∧ ms = [] ∧ f 2 = .int .i64 (fld : Int) ∧ f 3 = .int .i64 (blue : Int) ∧ f 4 = .pointer (some ⟨h.next, 0, none⟩) ∧ f 5 = .pointer (some ⟨h.next + 1, 0, none⟩) ∧ f 13 = .int .i64 (i : Int) ∧ f 14 = .int .i64 (k : Int)) (by simp; omega) ?_ ?_ ?_
    · simp only [rn0, rn1, rn2, rn3, rn4, rn5, rn6, rn7, rn8, if_true, if_false, Nat.le_refl, true_and, and_true, decide_true, decide_false, Bool.not_true, Bool.not_false, reduceIte, Nat.reduceEqDiff, Nat.reduceAdd, Nat.reduceMul, Nat.reduceSub, Nat.reduceLeDiff, Nat.reduceLT, p2, p3, p4, p5, p13]
      exact ⟨⟨sg, fg, by omega⟩, rfl⟩
    · rintro k f g' ms hk ⟨⟨sg, fg, ug', bg'⟩, rfl, p2, p3, p4, p5, p13, p14⟩
      have hk' : (k : Int) < (Y.nv : Int) := by omega
      have hwk : wrapF .i64 ((k : Int) + 1) = ((k + 1 : Nat) : Int) := by rw [wrap_in (by omega) (by omega)]; rfl
      by_cases hki : k = i
      · subst hki
        simp only [rn0, rn1, rn2, rn3, rn4, rn5, rn6, rn7, rn8, if_true, if_false, Nat.le_refl, true_and, and_true, decide_true, decide_false, Bool.not_true, Bool.not_false, reduceIte, Nat.reduceEqDiff, Nat.reduceAdd, Nat.reduceMul, Nat.reduceSub, Nat.reduceLeDiff, Nat.reduceLT, p2, p3, p4, p5, p13, p14, lv5 sg, lenV sg, hk', hwk]
        exact ⟨sg, fg, ug', by omega⟩
      · have hki' : ¬ (k : Int) = (i : Int) := by omega
        obtain ⟨F3, V3, S3, g7, ey3, hy3, m7⟩ := yard_c (n := n) (h := g') (by omega) (by omega) (by omega) (hyx sg) hTx
        have n7 := m7.next
        have u7 := m7.up
        have f7 := m7.floor
        have em3 := more_c (n := n) (h := g7) (by omega) (by omega) hy3 hTx (i : Int) (k : Int)
        rw [moreV_in hi.fx hi.ne (by rw [hi.nv]; exact hii) (by rw [hi.nv]; exact hk) (fun e => hki e.symm)] at em3
        obtain ⟨F4, V4, S4, g8, ey4, hy4, m8⟩ := yard_c (n := n) (h := g7) (by omega) (by omega) (by omega) (hyy (sg.trans m7.sub)) hTy
        have n8 := m8.next
        have u8 := m8.up
        have f8 := m8.floor
        have em4 := more_c (n := n) (h := g8) (by omega) (by omega) hy4 hTy (i : Int) (k : Int)
        rw [moreV_in hi.fy hi.ney hii hk (fun e => hki e.symm)] at em4
        have hver := hi.verdict i k
        by_cases h3 : verdictV Y i k = 3
        · simp only [rn0, rn1, rn2, rn3, rn4, rn5, rn6, rn7, rn8, if_true, if_false, Nat.le_refl, true_and, and_true, decide_true, decide_false, Bool.not_true, Bool.not_false, reduceIte, Nat.reduceEqDiff, Nat.reduceAdd, Nat.reduceMul, Nat.reduceSub, Nat.reduceLeDiff, Nat.reduceLT, p2, p3, p4, p5, p13, p14, lv5 sg, lenV sg, hk', hki', w4 (s26.trans sg), ey3, em3, ex0, ex1, w5 (s26.trans (sg.trans m7.sub)), ey4, em4, Int.reduceEq, h3, hwk]
          exact ⟨sg.trans (m7.sub.trans m8.sub), by omega, by omega, by omega⟩
        · have hve := hver h3
          simp only [rn0, rn1, rn2, rn3, rn4, rn5, rn6, rn7, rn8, if_true, if_false, Nat.le_refl, true_and, and_true, decide_true, decide_false, Bool.not_true, Bool.not_false, reduceIte, Nat.reduceEqDiff, Nat.reduceAdd, Nat.reduceMul, Nat.reduceSub, Nat.reduceLeDiff, Nat.reduceLT, p2, p3, p4, p5, p13, p14, lv5 sg, lenV sg, hk', hki', w4 (s26.trans sg), ey3, em3, ex0, ex1, w5 (s26.trans (sg.trans m7.sub)), ey4, em4, Int.reduceEq, h3, hve, hwk]
          exact ⟨sg.trans (m7.sub.trans m8.sub), by omega, by omega, by omega⟩
    · rintro f g' ms ⟨⟨sg, fg, ug', bg'⟩, rfl, p2, p3, p4, p5, p13, p14⟩
      have b1000 : 1000 * Y.nv ≤ 4000 := by omega
      obtain ⟨F3, V3, S3, g7, ey3, hy3, m7⟩ := yard_c (n := n) (h := g') (by omega) (by omega) (by omega) (hyx sg) hTx
      have n7 := m7.next
      have u7 := m7.up
      have f7 := m7.floor
      have em3 := needs_c (n := n) (h := g7) (by omega) (by omega) hy3 hTx (i : Int) (fld : Int) (blue : Int)
      obtain ⟨F4, V4, S4, g8, ey4, hy4, m8⟩ := yard_c (n := n) (h := g7) (by omega) (by omega) (by omega) (hyy (sg.trans m7.sub)) hTy
      have n8 := m8.next
      have u8 := m8.up
      have f8 := m8.floor
      have em4 := needs_c (n := n) (h := g8) (by omega) (by omega) hy4 hTy (i : Int) (fld : Int) (blue : Int)
      have hnd := hi.needs hii hff (b := (blue : Int)) ⟨by omega, by omega⟩
      generalize needsV X (i : Int) (fld : Int) (blue : Int) = nx at em3 hnd
      generalize needsV Y (i : Int) (fld : Int) (blue : Int) = ny at em4 hnd
      obtain ⟨nx1, nx2⟩ := nx
      obtain ⟨ny1, ny2⟩ := ny
      simp only at em3 em4 hnd
      by_cases h0 : ny2 = 0
      · obtain ⟨h1, h2⟩ := hnd h0
        have h2' : ¬ ny1 < nx1 := by omega
        simp only [rn0, rn1, rn2, rn3, rn4, rn5, rn6, rn7, rn8, if_true, if_false, Nat.le_refl, true_and, and_true, decide_true, decide_false, Bool.not_true, Bool.not_false, reduceIte, Nat.reduceEqDiff, Nat.reduceAdd, Nat.reduceMul, Nat.reduceSub, Nat.reduceLeDiff, Nat.reduceLT, p2, p3, p4, p5, p13, p14, lv5 sg, lenV sg, Int.lt_irrefl, w4 (s26.trans sg), ey3, em3, ex0, ex1, w5 (s26.trans (sg.trans m7.sub)), ey4, em4, h0, h1, h2', hwi]
        exact ⟨sg.trans (m7.sub.trans m8.sub), by omega, by omega, by omega⟩
      · simp only [rn0, rn1, rn2, rn3, rn4, rn5, rn6, rn7, rn8, if_true, if_false, Nat.le_refl, true_and, and_true, decide_true, decide_false, Bool.not_true, Bool.not_false, reduceIte, Nat.reduceEqDiff, Nat.reduceAdd, Nat.reduceMul, Nat.reduceSub, Nat.reduceLeDiff, Nat.reduceLT, p2, p3, p4, p5, p13, p14, lv5 sg, lenV sg, Int.lt_irrefl, w4 (s26.trans sg), ey3, em3, ex0, ex1, w5 (s26.trans (sg.trans m7.sub)), ey4, em4, h0, hwi, g_un]
        exact ⟨sg.trans (m7.sub.trans m8.sub), by omega, by omega, by omega⟩
  · rintro f g ms ⟨⟨sg, fg, ug, bg⟩, rfl, p2, p3, p4, p5, p13⟩
    have b5000 : 5000 * Y.nv ≤ 20000 := by omega
    obtain ⟨bm, hbm⟩ : ∃ bm, bm = blue % 10 := ⟨_, rfl⟩
    have ez : ¬ (10 : Int) = 0 := by decide
    have mb : (blue : Int).tmod 10 = (bm : Int) := by rw [hbm]; rfl
    obtain ⟨F3, V3, S3, g7, ey3, hy3, m7⟩ := yard_c (n := n) (h := g) (by omega) (by omega) (by omega) (hyx sg) hTx
    have n7 := m7.next
    have u7 := m7.up
    have f7 := m7.floor
    obtain ⟨v3, g8, em3, m8, hs3⟩ := spread_c (n := n) (h := g7) (by omega) (by omega) (by omega) hy3 hTx (fld : Int) (bm : Int)
    have n8 := m8.next
    have u8 := m8.up
    have f8 := m8.floor
    obtain ⟨F4, V4, S4, g9, ey4, hy4, m9⟩ := yard_c (n := n) (h := g8) (by omega) (by omega) (by omega) (hyy (sg.trans (m7.sub.trans m8.sub))) hTy
    have n9 := m9.next
    have u9 := m9.up
    have f9 := m9.floor
    obtain ⟨v4, g10, em4, m10, hs4⟩ := spread_c (n := n) (h := g9) (by omega) (by omega) (by omega) hy4 hTy (fld : Int) (bm : Int)
    have hE3 := spreadE_in hi.fx hffx (k := bm) (by omega) hvx
    have hE4 := spreadE_in hi.fy hff (k := bm) (by omega) hv0
    rw [if_neg hi.ne] at hE3
    rw [if_neg hi.ney] at hE4
    rcases hs3 with ⟨h0, _⟩ | ⟨_, pl, rfl, _⟩
    · exact absurd hE3 h0
    rcases hs4 with ⟨h0, _⟩ | ⟨_, ql, rfl, _⟩
    · exact absurd hE4 h0
    have hbest := hi.best hff hv0 (k := bm)
    simp only [Int.toNat_natCast] at em3 em4
    generalize (bestS X fld bm).2 = bx at em3 hbest
    generalize (bestS Y fld bm).2 = bY at em4 hbest
    simp only [rn0, rn1, rn2, rn3, rn4, rn5, rn6, rn7, rn8, if_true, if_false, Nat.le_refl, true_and, and_true, decide_true, decide_false, Bool.not_true, Bool.not_false, reduceIte, Nat.reduceEqDiff, Nat.reduceAdd, Nat.reduceMul, Nat.reduceSub, Nat.reduceLeDiff, Nat.reduceLT, p2, p3, p4, p5, p13, lv5 sg, lenV sg, Int.lt_irrefl, w4 (s26.trans sg), ey3, valN_tmp, valN_const, Nat.reduceLT, r_rem ez, mb, em3, ex30, ex31, ex32, w5 (s26.trans (sg.trans (m7.sub.trans m8.sub))), ey4, em4, hbest]
end Go.Vm.Vat

namespace Go.Vm.Vat
open Go.Proofs
set_option linter.unusedSimpArgs false
set_option linter.unusedVariables false
set_option maxRecDepth 10000
variable {n : Nat} {h : AHeap}
end Go.Vm.Vat

namespace Go.Vm.Vat
open Go.Proofs
set_option linter.unusedSimpArgs false
set_option linter.unusedVariables false
set_option maxRecDepth 10000
variable {n : Nat} {h : AHeap}
/-! ### A yard of which another one is a wider one -/
structure Wid (Y X : MY) : Prop where
  nf : Y.nf = X.nf
  nv : Y.nv = X.nv
  q : Y.q = X.q
  ns : Y.ns = X.ns
  lo : ∀ k, k < Y.nf → X.lo k ≤ Y.lo k ∧ Y.hi k ≤ X.hi k
  right : ∀ c k, k < Y.ns → RightB Y c k → RightB X c k
theorem Wid.truth {Y X : MY} (hw : Wid Y X) {t : Nat → Int} (h : t ∈ truths Y) : t ∈ truths X := by
  rw [truths_mem] at h ⊢
  obtain ⟨⟨h1, h2⟩, h3⟩ := h
  have e := hw.nf
  have e2 := hw.ns
  refine ⟨⟨fun j hj => ?_, fun j hj => h2 j (by omega)⟩, fun k hk => hw.right t k (by omega) (h3 k (by omega))⟩
  have h4 := h1 j (by omega)
  have h5 := hw.lo j (by omega)
  omega
theorem leave_len_le {Y : MY} : (leaveRun Y).length ≤ Y.ns := by
  rcases (leave_is (Y := Y)).1 with e | ⟨c, _, e⟩ <;> (rw [e]; exact pick_len _)
theorem sl_len {a b : List Int} (h : ¬ SL a b) : b.length ≤ a.length := by
  apply Classical.byContradiction
  intro hc
  exact h (.inl (by omega))
theorem leave_min {Y : MY} {c : Nat → Int} (hc : c ∈ enumB Y.lo Y.hi Y.nf 0 fun _ => 0) : (leaveRun Y).length ≤ (pickL (fun j => ¬ RightB Y c j) Y.ns).length := sl_len ((leave_is (Y := Y)).2 c hc)
theorem enumB_some {Y : MY} (hf : faultN Y = 0) : (fun j => if j < Y.nf then Y.lo j else 0) ∈ enumB Y.lo Y.hi Y.nf 0 fun _ => 0 := by
  rw [enumB_ok]
  refine ⟨fun j h1 h2 => ?_, fun j hj => ?_⟩
  · have := (good_of hf).f j (by omega)
    rw [if_pos (by omega)]; omega
  · rw [if_neg (by omega)]
/-- if nothing need be left out there is a truth -/
theorem leave_nil {Y : MY} (hf : faultN Y = 0) (h : leaveRun Y = []) : truths Y ≠ [] := by
  have key : ∃ c, c ∈ enumB Y.lo Y.hi Y.nf 0 (fun _ => 0) ∧ ∀ k, k < Y.ns → RightB Y c k := by
    rcases (leave_is (Y := Y)).1 with e | ⟨c, hc, e⟩
    · have h3 : Y.ns = 0 := by
        apply Classical.byContradiction
        intro hn
        obtain ⟨k, hk⟩ : ∃ k, Y.ns = k + 1 := ⟨Y.ns - 1, by omega⟩
        rw [e, hk, pick_yes (p := fun _ => True) trivial] at h
        exact absurd h (by simp)
      exact ⟨_, enumB_some hf, fun k hk => by omega⟩
    · refine ⟨c, hc, fun k hk => ?_⟩
      apply Classical.byContradiction
      intro hn
      obtain ⟨i, hi, _⟩ := pick_has (p := fun j => ¬ RightB Y c j) hk hn
      rw [← e, h] at hi
      simp at hi
  obtain ⟨c, hc, hr⟩ := key
  have : c ∈ truths Y := by
    rw [truths_mem]
    rw [enumB_ok] at hc
    exact ⟨⟨fun j hj => hc.1 j (by omega) (by omega), fun j hj => hc.2 j (by omega)⟩, hr⟩
  exact List.ne_nil_of_mem this
theorem Wid.inner {Y X : MY} (hw : Wid Y X) (hy : faultN Y = 0) (hx : faultN X = 0) (h : leaveRun Y = []) : Inner Y X :=
  ⟨hw.nf, hw.nv, hw.q, hy, hx, leave_nil hy h, fun t ht => hw.truth ht⟩
/-- what a slice holds, as a list -/
def flatL (s m : Nat) (c : Nat → Nat → Value) : List Value := (List.range (m * s)).map fun i => c (i / s) (i % s)
theorem flatL_len {s m : Nat} {c : Nat → Nat → Value} : (flatL s m c).length = m * s := by simp [flatL]
theorem flatL_get {s m k j : Nat} {c : Nat → Nat → Value} (hk : k < m) (hj : j < s) : (flatL s m c)[k * s + j]? = some (c k j) := by
  have hlt : k * s + j < m * s := by
    have : (k + 1) * s ≤ m * s := Nat.mul_le_mul_right s hk
    rw [Nat.add_mul] at this
    omega
  unfold flatL
  rw [List.getElem?_map, List.getElem?_range hlt, Option.map_some, Nat.mul_comm k s, Nat.mul_add_div (by omega), Nat.div_eq_of_lt hj, Nat.mul_add_mod, Nat.mod_eq_of_lt hj, Nat.add_zero]
theorem Cells.list {v : Value} {s m : Nat} {c : Nat → Nat → Value} (hs : 0 < s) (hi : Cells h v s m c) : ∃ x k, v = .slice x m k ∧ cellsOfSlice h s v = some (flatL s m c) := by
  obtain ⟨x, cap, rfl, _, h0 | ⟨b, o, cs, w, gr, rfl, h1, h2⟩⟩ := hi
  · subst h0
    refine ⟨x, cap, rfl, ?_⟩
    cases x <;> simp [cellsOfSlice, flatL]
  · refine ⟨_, cap, rfl, ?_⟩
    by_cases hm : m = 0
    · subst hm; simp [cellsOfSlice, flatL]
    have hb : Nat.beq m 0 = false := by
      cases hb : Nat.beq m 0 with
      | false => rfl
      | true => exact absurd (beq_iff.1 hb) hm
    show (bif Nat.beq m 0 then some [] else match h.get b with
      | some (.row cs _ _) => dropK cs o fun r => takeK r (m * s) fun l => some l
      | _ => none) = _
    have hl := (List.getElem?_eq_some_iff.1 (h2 (m - 1) (s - 1) (by omega) (by omega))).1
    have hms : (m - 1) * s + s = m * s := by
      obtain ⟨p, rfl⟩ : ∃ p, m = p + 1 := ⟨m - 1, by omega⟩
      rw [Nat.add_sub_cancel, Nat.add_mul, Nat.one_mul]
    rw [hb, cond_false, h1]
    simp only [dropK_eq, takeK_eq]
    rw [if_pos (by omega), if_pos (by rw [List.length_drop]; omega)]
    congr 1
    apply List.ext_getElem?
    intro i
    simp only [List.getElem?_take, List.getElem?_drop]
    by_cases hi : i < m * s
    · rw [if_pos hi]
      have hd : i / s < m := (Nat.div_lt_iff_lt_mul hs).2 hi
      have hr : i % s < s := Nat.mod_lt _ hs
      have e : i / s * s + i % s = i := by have := Nat.div_add_mod i s; rw [Nat.mul_comm] at this; exact this
      have h3 := h2 (i / s) (i % s) hd hr
      have h4 := flatL_get (c := c) hd hr
      rw [e] at h4
      rw [h4, ← h3]
      congr 1
      omega
    · rw [if_neg hi, List.getElem?_eq_none (by rw [flatL_len]; omega)]
theorem cells_sub {g : AHeap} {v : Value} {s m : Nat} {c : Nat → Nat → Value} (hsub : Sub All h g) (hc : Cells h v s m c) (hs : 0 < s) {l : List Value} (hl : cellsOfSlice h s v = some l) : cellsOfSlice g s v = some l := by
  obtain ⟨x, k, e, h1⟩ := Cells.list hs hc
  obtain ⟨x', k', e', h2⟩ := Cells.list hs (hc.mono hsub)
  rw [h1] at hl
  rw [h2, hl]
theorem flatL_one {s m : Nat} {c : Nat → Nat → Int} : allB oneCell (flatL s m fun k j => .int .i64 (c k j)) = true := by rw [allB_iff]; intro v hv; obtain ⟨i, _, rfl⟩ := List.mem_map.1 hv; rfl
end Go.Vm.Vat

namespace Go.Vm.Vat
open Go.Proofs
set_option linter.unusedSimpArgs false
set_option linter.unusedVariables false
set_option maxRecDepth 10000
variable {n : Nat} {h : AHeap}
/-- a part with a state behind it -/
theorem seqQ {X : Cx} {A : SCode} {K : Fr → AHeap → List Nat → Prop} {Q : WPost} {f : Fr} {m : List Nat} (R : Fr → AHeap → List Nat → Prop) (h1 : W X A (thenQ R Q) f h m) (h3 : ∀ f h m, R f h m → K f h m) : W X A (thenQ K Q) f h m := by
  refine W_mono A _ _ (fun e f h m hq => ?_) f h m h1
  cases e with
  | norm => exact h3 _ _ _ hq
  | exit i => exact hq
  | ret => exact hq
theorem build_none3 {a b c : Value} : buildSl 3 0 [a, b, c] [] h [] = newSlice h [] 0 0 0 := id rfl
theorem cells_row {b s m cap : Nat} {cs : List Value} {c : Nat → Nat → Value} (hr : Row h b cs) (hc : ∀ k j, k < m → j < s → cs[k * s + j]? = some (c k j)) : Cells h (.slice (some ⟨b, 0, none⟩) m cap) s m c := by
  obtain ⟨w, gr, e⟩ := hr
  exact ⟨_, _, rfl, fun x e => by cases e; rfl, .inr ⟨b, 0, _, _, _, rfl, e, fun k j hk hj => by rw [Nat.zero_add]; exact hc k j hk hj⟩⟩
end Go.Vm.Vat

namespace Go.Vm.Vat
open Go.Proofs
set_option linter.unusedSimpArgs false
set_option linter.unusedVariables false
set_option maxRecDepth 10000
variable {n : Nat} {h : AHeap}
def s4 : SCode := (.seq (.ops [⟨(some 1), none, .box (T 0)⟩, ⟨(some 2), none, .mov (.const (.bool false))⟩]) (.seq (.seq (.ops [⟨(some 11), none, .loadN 3 (T 1)⟩, ⟨(some 12), none, .call (.func 23) [(T 11)]⟩, ⟨(some 13), none, .not (T 12)⟩]) (.cond (T 13) (.seq (.ops [⟨(some 14), none, .call (.func 24) []⟩, ⟨(some 2), none, .mov (T 14)⟩]) .ret) .skip)) (.seq (.ops [⟨(some 16), none, .loadN 3 (T 1)⟩, ⟨(some 17), none, .call (.func 26) [(T 16)]⟩, ⟨(some 18), none, .call (.func 34) [(T 17)]⟩, ⟨(some 15), none, .mov (T 18)⟩, ⟨(some 19), none, .extract 0 (T 15)⟩, ⟨(some 20), none, .extract 1 (T 15)⟩, ⟨(some 3), none, .mov (T 19)⟩, ⟨(some 4), none, .mov (T 20)⟩]) (.seq (.ops [⟨(some 22), none, .loadN 3 (T 1)⟩, ⟨(some 23), none, .call (.func 26) [(T 22)]⟩, ⟨(some 24), none, .call (.func 35) [(T 23)]⟩, ⟨(some 21), none, .mov (T 24)⟩, ⟨(some 25), none, .extract 0 (T 21)⟩, ⟨(some 26), none, .extract 1 (T 21)⟩, ⟨(some 5), none, .mov (T 25)⟩, ⟨(some 6), none, .mov (T 26)⟩]) (.seq (.ops [⟨(some 28), none, .loadN 3 (T 1)⟩, ⟨(some 29), none, .call (.func 36) [(T 28)]⟩, ⟨(some 27), none, .mov (T 29)⟩, ⟨(some 30), none, .extract 0 (T 27)⟩, ⟨(some 31), none, .extract 1 (T 27)⟩, ⟨(some 7), none, .mov (T 30)⟩, ⟨(some 8), none, .mov (T 31)⟩]) (.seq (.seq (.ops [⟨(some 32), none, .mov (T 8)⟩, ⟨(some 33), none, .int2 .neq (T 32) (.const (.int .i64 (0)))⟩]) (.cond (T 33) (.seq (.ops [⟨(some 34), none, .mov (T 4)⟩, ⟨(some 35), none, .mov (T 8)⟩, ⟨(some 36), none, .int2 .eql (T 34) (T 35)⟩, ⟨(some 37), none, .mov (T 36)⟩, ⟨(some 38), (some (37, true)), .mov (T 6)⟩, ⟨(some 39), (some (37, true)), .mov (T 8)⟩, ⟨(some 40), (some (37, true)), .int2 .eql (T 38) (T 39)⟩, ⟨(some 41), none, .pick (T 37) (T 40) (.const (.bool false))⟩, ⟨(some 42), none, .mov (T 41)⟩, ⟨(some 43), (some (42, true)), .mov (T 3)⟩, ⟨(some 44), (some (42, true)), .len (T 43)⟩, ⟨(some 45), (some (42, true)), .mov (T 5)⟩, ⟨(some 46), (some (42, true)), .len (T 45)⟩, ⟨(some 47), (some (42, true)), .int2 .add (T 44) (T 46)⟩, ⟨(some 48), (some (42, true)), .int2 .eql (T 47) (.const (.int .i64 (0)))⟩, ⟨(some 49), none, .pick (T 42) (T 48) (.const (.bool false))⟩, ⟨(some 50), none, .mov (T 49)⟩, ⟨(some 51), (some (50, true)), .call (.func 24) []⟩, ⟨(some 52), none, .pick (T 50) (T 51) (.const (.bool false))⟩, ⟨(some 2), none, .mov (T 52)⟩]) .ret) .skip)) (.seq (.seq (.ops [⟨(some 53), none, .mov (T 4)⟩, ⟨(some 54), none, .int2 .neq (T 53) (.const (.int .i64 (0)))⟩, ⟨(some 55), none, .mov (T 54)⟩, ⟨(some 56), (some (55, false)), .mov (T 6)⟩, ⟨(some 57), (some (55, false)), .int2 .neq (T 56) (.const (.int .i64 (0)))⟩, ⟨(some 58), none, .pick (T 55) (.const (.bool true)) (T 57)⟩, ⟨(some 59), none, .mov (T 58)⟩, ⟨(some 60), (some (59, false)), .mov (T 3)⟩, ⟨(some 61), (some (59, false)), .len (T 60)⟩, ⟨(some 62), (some (59, false)), .fieldAddr 1 (T 1)⟩, ⟨(some 63), (some (59, false)), .load1 (T 62)⟩, ⟨(some 64), (some (59, false)), .len (T 63)⟩, ⟨(some 65), (some (59, false)), .int2 .neq (T 61) (T 64)⟩, ⟨(some 66), none, .pick (T 59) (.const (.bool true)) (T 65)⟩, ⟨(some 67), none, .mov (T 66)⟩, ⟨(some 68), (some (67, false)), .mov (T 5)⟩, ⟨(some 69), (some (67, false)), .len (T 68)⟩, ⟨(some 70), (some (67, false)), .fieldAddr 0 (T 1)⟩, ⟨(some 71), (some (67, false)), .load1 (T 70)⟩, ⟨(some 72), (some (67, false)), .len (T 71)⟩, ⟨(some 73), (some (67, false)), .int2 .neq (T 69) (T 72)⟩, ⟨(some 74), none, .pick (T 67) (.const (.bool true)) (T 73)⟩]) (.cond (T 74) (.seq (.ops [⟨(some 2), none, .mov (.const (.bool false))⟩]) .ret) .skip)) (.seq (.seq (.ops [⟨(some 9), none, .mov (.const (.int .i64 (0)))⟩]) (.block 0 (.loop (.seq (.seq (.ops [⟨(some 75), none, .mov (T 9)⟩, ⟨(some 76), none, .mov (T 3)⟩, ⟨(some 77), none, .len (T 76)⟩, ⟨(some 78), none, .int2 .lss (T 75) (T 77)⟩]) (.cond (T 78) .skip (.exit 0))) (.seq (.block 1 (.seq (.draw [⟨.free, ⟨(some 81), none, .mov (T 3)⟩⟩, ⟨.free, ⟨(some 82), none, .mov (T 9)⟩⟩, ⟨.free, ⟨(some 83), none, .idxSl 2 (T 81) (T 82)⟩⟩, ⟨.rd, ⟨(some 84), none, .loadN 2 (T 83)⟩⟩, ⟨.rd1, ⟨(some 85), none, .loadN 3 (T 1)⟩⟩, ⟨.free, ⟨(some 86), none, .mov (T 7)⟩⟩, ⟨.free, ⟨(some 87), none, .mov (T 9)⟩⟩, ⟨.up, ⟨(some 88), none, .call (.func 38) [(T 85), (T 86), (T 87)]⟩⟩, ⟨.up, ⟨(some 89), none, .call (.func 37) [(T 88)]⟩⟩, ⟨.free, ⟨(some 90), none, .bin .neq (.binOp .neq 49 (T 84) (T 89) 49) 4 (T 84) (T 89)⟩⟩]) (.cond (T 90) (.seq (.ops [⟨(some 2), none, .mov (.const (.bool false))⟩]) .ret) .skip))) (.ops [⟨(some 79), none, .mov (T 9)⟩, ⟨(some 80), none, .int2 .add (T 79) (.const (.int .i64 (1)))⟩, ⟨(some 9), none, .mov (T 80)⟩])))))) (.seq (.seq (.ops [⟨(some 10), none, .mov (.const (.int .i64 (0)))⟩]) (.block 2 (.loop (.seq (.seq (.ops [⟨(some 91), none, .mov (T 10)⟩, ⟨(some 92), none, .mov (T 5)⟩, ⟨(some 93), none, .len (T 92)⟩, ⟨(some 94), none, .int2 .lss (T 91) (T 93)⟩]) (.cond (T 94) .skip (.exit 2))) (.seq (.block 3 (.seq (.draw [⟨.free, ⟨(some 97), none, .mov (T 5)⟩⟩, ⟨.free, ⟨(some 98), none, .mov (T 10)⟩⟩, ⟨.free, ⟨(some 99), none, .idxSl 2 (T 97) (T 98)⟩⟩, ⟨.rd, ⟨(some 100), none, .loadN 2 (T 99)⟩⟩, ⟨.free, ⟨(some 101), none, .mov (T 7)⟩⟩, ⟨.free, ⟨(some 102), none, .mov (T 10)⟩⟩, ⟨.up, ⟨(some 103), none, .call (.func 39) [(T 101), (T 102)]⟩⟩, ⟨.up, ⟨(some 104), none, .call (.func 37) [(T 103)]⟩⟩, ⟨.free, ⟨(some 105), none, .bin .neq (.binOp .neq 49 (T 100) (T 104) 49) 4 (T 100) (T 104)⟩⟩]) (.cond (T 105) (.seq (.ops [⟨(some 2), none, .mov (.const (.bool false))⟩]) .ret) .skip))) (.ops [⟨(some 95), none, .mov (T 10)⟩, ⟨(some 96), none, .int2 .add (T 95) (.const (.int .i64 (1)))⟩, ⟨(some 10), none, .mov (T 96)⟩])))))) (.seq (.ops [⟨(some 106), none, .call (.func 24) []⟩, ⟨(some 2), none, .mov (T 106)⟩]) .ret))))))))))
end Go.Vm.Vat

namespace Go.Vm.Vat
open Go.Proofs
set_option linter.unusedSimpArgs false
set_option linter.unusedVariables false
set_option maxRecDepth 10000
variable {n : Nat} {h : AHeap}
/-- n own lists of m numbers each -/
def DRows (B : Nat) (h : AHeap) (v : Value) (n m : Nat) (q : Nat → Nat → Int) : Prop :=
  ∃ bk : Nat → Nat, GrowC B h v 1 n (fun k _ => .slice (some ⟨bk k, 0, none⟩) m unk) ∧ ∀ k, k < n → h.get (bk k) = some (.row (rowI m (q k)) true 1) ∧ B ≤ bk k ∧ bk k < h.next ∧ (∀ b c d, v = .slice (some b) c d → bk k ≠ b.block) ∧ ∀ j, j < n → j ≠ k → bk j ≠ bk k
theorem DRows.nil {B m : Nat} {q : Nat → Nat → Int} : DRows B h nilS 0 m q := ⟨fun _ => 0, .nil, fun k hk => by omega⟩
theorem DRows.rows {B n m : Nat} {v : Value} {q : Nat → Nat → Int} (hd : DRows B h v n m q) : Rows h v n (fun _ => m) q := by
  obtain ⟨bk, h1, h2⟩ := hd
  exact ⟨_, h1.cells, fun k hk => rowI_ints (w := 0) ⟨_, _, (h2 k hk).1⟩⟩
theorem DRows.keep {B o n m : Nat} {g : AHeap} {v : Value} {q : Nat → Nat → Int} (hd : DRows B h v n m q) (hk : Keep o h g) (ho : o < B) : DRows B g v n m q := by
  obtain ⟨bk, h1, h2⟩ := hd
  refine ⟨bk, h1.keep hk ho, fun k hkn => ?_⟩
  obtain ⟨a1, a2, a3, a4, a5⟩ := h2 k hkn
  exact ⟨hk.sub _ _ _ _ (by omega) a1, a2, Nat.lt_of_lt_of_le a3 hk.up, a4, a5⟩
theorem DRows.sub {B n m : Nat} {g : AHeap} {v : Value} {q : Nat → Nat → Int} (hd : DRows B h v n m q) (hs : Sub All h g) (hup : h.next ≤ g.next) : DRows B g v n m q := by
  obtain ⟨bk, h1, h2⟩ := hd
  refine ⟨bk, h1.sub hs, fun k hkn => ?_⟩
  obtain ⟨a1, a2, a3, a4, a5⟩ := h2 k hkn
  exact ⟨hs _ _ _ _ trivial a1, a2, Nat.lt_of_lt_of_le a3 hup, a4, a5⟩
theorem DRows.push {B n m b : Nat} {g h1 : AHeap} {v : Value} {q : Nat → Nat → Int} (hd : DRows B g v n m q) (hs : Sub All g h) (hup : g.next ≤ h.next) (hbg : g.next ≤ b) (hB : h.floor ≤ B) (hf : h.next + 2 < far) (hBn : B ≤ g.next) (hl : h.get b = some (.row (rowI m (q n)) true 1)) (hb : b < h.next) (hx : New h h1 [.slice (some ⟨b, 0, none⟩) m unk] 0) (hn : n + 1 ≤ 1000) :
    ∃ v' g', appendA 1 24 h1 v (.slice (some ⟨h.next, 0, none⟩) 1 1) = some (v', g') ∧ DRows B g' v' (n + 1) m q ∧ Kept h1 g' v ∧ oneCell v' = true ∧ (∀ a k c, v = .slice (some a) k c → B ≤ a.block) ∧ v' = .slice (some ⟨h1.next, 0, none⟩) (n + 1) unk := by
  obtain ⟨bk, g1, g2⟩ := hd
  have hnx := hx.next
  have hfl := hx.floor
  let bk' : Nat → Nat := fun i => if i = n then b else bk i
  have g1' : GrowC B h1 v 1 n (fun k _ => .slice (some ⟨bk' k, 0, none⟩) m unk) := ((g1.sub hs).sub hx.sub).congr fun k j hk hj => by show Value.slice (some ⟨bk k, 0, none⟩) m unk = .slice (some ⟨if k = n then b else bk k, 0, none⟩) m unk; rw [if_neg (by omega)]
  obtain ⟨v', g', e, ev, gv, hk⟩ := g1'.append (bytes := 24) (cap := 1) (by omega) (by omega) (by omega) hx.get rfl rfl (fun j hj => by rw [one_get j hj]; show some _ = some (Value.slice (some ⟨if n = n then b else bk n, 0, none⟩) m unk); rw [if_pos rfl]) (by simp [maxBytes]; omega) (by simp [maxBytes]; omega)
  have hkn := hk.next
  refine ⟨v', g', e, ⟨bk', gv, fun i hi => ?_⟩, hk, gv.one, fun a k c e => (g1.block e).1, ev⟩
  have hout : ∀ x c d, v' = .slice (some x) c d → x.block = h1.next := fun x c d e' => by rw [ev] at e'; cases e'; rfl
  by_cases hin : i = n
  · subst hin
    have hbi : bk' i = b := by show (if i = i then b else bk i) = b; rw [if_pos rfl]
    rw [hbi]
    refine ⟨?_, by omega, by omega, fun x c d e' => by have := hout x c d e'; omega, fun j hj hji => ?_⟩
    · rw [hk.old b (by omega) fun x c d e' => by have := (g1.block e').2; omega, hx.old b hb]; exact hl
    · show (if j = i then b else bk j) ≠ b
      rw [if_neg hji]; have := (g2 j (by omega)).2.2.1; omega
  · have hbi : bk' i = bk i := by show (if i = n then b else bk i) = bk i; rw [if_neg hin]
    rw [hbi]
    obtain ⟨a1, a2, a3, a4, a5⟩ := g2 i (by omega)
    refine ⟨?_, a2, by omega, fun x c d e' => by have := hout x c d e'; omega, fun j hj hji => ?_⟩
    · rw [hk.old (bk i) (by omega) fun x c d e' => a4 x c d e', hx.old (bk i) (by omega)]; exact hs _ _ _ _ trivial a1
    · show (if j = n then b else bk j) ≠ bk i
      by_cases e : j = n
      · rw [if_pos e]; omega
      · rw [if_neg e]; exact a5 j (by omega) hji
/-- the yard without its samples; with one bundle more -/
def bare (Y : MY) : MY := { Y with ns := 0 }
end Go.Vm.Vat

namespace Go.Vm.Vat
open Go.Proofs
set_option linter.unusedSimpArgs false
set_option linter.unusedVariables false
set_option maxRecDepth 10000
variable {n : Nat} {h : AHeap}
section
variable {a b k m : Nat} {f g : Nat → Int} {x : Int}
end
section
variable {Y : MY} {a b : Nat}
end
/-! ### What stays when another list grows -/
theorem GrowC.at' {B s n : Nat} {g : AHeap} {v : Value} {c : Nat → Nat → Value} (hg : GrowC B h v s n c) (he : ∀ a k cap, v = .slice (some a) k cap → g.get a.block = h.get a.block) : GrowC B g v s n c := by
  obtain ⟨cs, ⟨rfl, rfl, rfl⟩ | ⟨b, rfl, h2, h3, h4⟩, h5, h6⟩ := hg
  · exact .nil
  · exact ⟨cs, .inr ⟨b, rfl, by rw [he _ _ _ rfl]; exact h2, h3, h4⟩, h5, h6⟩
theorem DRows.kept {B m n n' : Nat} {g : AHeap} {v w : Value} {q : Nat → Nat → Int} {c : Nat → Nat → Value} (hd : DRows B h v n m q) (hm : 0 < m) (hw : GrowC B h w 1 n' c) (hc : ∀ k, k < n' → ∃ a j cap, c k 0 = .slice a j cap) (hk : Kept h g w)
    (hne : ∀ a k cap a' k' cap', v = .slice (some a) k cap → w = .slice (some a') k' cap' → a.block ≠ a'.block) : DRows B g v n m q := by
  obtain ⟨bk, h1, h2⟩ := hd
  have hnx := hk.next
  refine ⟨bk, GrowC.at' h1 fun a k cap e => hk.old _ (h1.block e).2 fun a' k' cap' e' => hne _ _ _ _ _ _ e e', fun k hkn => ?_⟩
  obtain ⟨a1, a2, a3, a4, a5⟩ := h2 k hkn
  refine ⟨?_, a2, by omega, a4, a5⟩
  rw [hk.old _ a3 fun a' k' cap' e' heq => ?_]
  · exact a1
  · obtain ⟨cs, ⟨rfl, _, _⟩ | ⟨b, rfl, w2, w3, _⟩, _, w5⟩ := hw
    · cases e'
    · cases e'
      simp only at heq
      rw [heq, w2] at a1
      simp only [Option.some.injEq, AObj.row.injEq] at a1
      have hcs := a1.1
      have hlen : cs.length = m := by rw [hcs, rowI_len]
      have hn' : 0 < n' := by omega
      have h3 := w5 0 0 hn' (by omega)
      obtain ⟨aa, j, cap, e3⟩ := hc 0 hn'
      rw [hcs, show 0 * 1 + 0 = 0 from rfl, rowI_get hm, e3] at h3
      cases h3
end Go.Vm.Vat

namespace Go.Vm.Vat
open Go.Proofs
set_option linter.unusedSimpArgs false
set_option linter.unusedVariables false
set_option maxRecDepth 10000
variable {n : Nat} {h : AHeap}
/-! ### One more sample -/
def plus (Y : MY) (v l r : Int) : MY := { Y with ns := Y.ns + 1, sv := fun k => if k = Y.ns then v else Y.sv k, slo := fun k => if k = Y.ns then l else Y.slo k, shi := fun k => if k = Y.ns then r else Y.shi k }
section
variable {Y : MY} {v l r : Int}
theorem plus_right {c : Nat → Int} {k : Nat} (hk : k < Y.ns) : RightB (plus Y v l r) c k ↔ RightB Y c k := by
  have e : ¬ k = Y.ns := by omega
  unfold RightB
  show (if k = Y.ns then l else Y.slo k) ≤ blueN c (Y.q (if k = Y.ns then v else Y.sv k).toNat) Y.nf ∧ blueN c (Y.q (if k = Y.ns then v else Y.sv k).toNat) Y.nf ≤ (if k = Y.ns then r else Y.shi k) ↔ _
  rw [if_neg e, if_neg e, if_neg e]
theorem plus_pick {c : Nat → Int} : pickL (fun j => ¬ RightB (plus Y v l r) c j) Y.ns = pickL (fun j => ¬ RightB Y c j) Y.ns := pick_congr fun j hj => not_congr (plus_right hj)
theorem pick_all : ∀ k, (pickL (fun _ => True) k).length = k
  | 0 => rfl
  | k + 1 => by rw [pick_yes (p := fun _ => True) trivial, List.length_append, pick_all k]; rfl
theorem pick_succ {p : Nat → Prop} {k : Nat} : (pickL p k).length ≤ (pickL p (k + 1)).length ∧ (pickL p (k + 1)).length ≤ (pickL p k).length + 1 := by
  by_cases c : p k
  · rw [pick_yes c, List.length_append, List.length_singleton]; omega
  · rw [pick_no c]; omega
theorem plus_leave : (leaveRun Y).length ≤ (leaveRun (plus Y v l r)).length ∧ (leaveRun (plus Y v l r)).length ≤ (leaveRun Y).length + 1 := by
  constructor
  · rcases (leave_is (Y := plus Y v l r)).1 with e | ⟨c, hc, e⟩
    · rw [e]
      have := leave_len_le (Y := Y)
      rw [pick_all]
      show _ ≤ Y.ns + 1
      omega
    · rw [e]
      have h1 := leave_min (Y := Y) (c := c) hc
      rw [← plus_pick (v := v) (l := l) (r := r)] at h1
      exact Nat.le_trans h1 (pick_succ (k := Y.ns)).1
  · rcases (leave_is (Y := Y)).1 with e | ⟨c, hc, e⟩
    · rw [e, pick_all]
      exact leave_len_le (Y := plus Y v l r)
    · rw [e]
      have h1 := leave_min (Y := plus Y v l r) (c := c) hc
      refine Nat.le_trans h1 (Nat.le_trans (pick_succ (k := Y.ns)).2 ?_)
      rw [plus_pick]
      exact Nat.le_refl _
theorem plus_inner (hx : faultN (plus Y v l r) = 0) (hy : faultN Y = 0) (h : leaveRun (plus Y v l r) = []) : Inner (plus Y v l r) Y :=
  ⟨rfl, rfl, rfl, hx, hy, leave_nil hx h, fun t ht => by
    rw [truths_mem] at ht ⊢
    exact ⟨ht.1, fun k hk => (plus_right hk).1 (ht.2 k (by show k < Y.ns + 1; omega))⟩⟩
theorem plus_vats (hx : faultN (plus Y v l r) = 0) : 0 < Y.nv := by
  obtain ⟨⟨h1, h2⟩, _⟩ := (good_of hx).s Y.ns (by show Y.ns < Y.ns + 1; omega)
  have h2 : (if Y.ns = Y.ns then v else Y.sv Y.ns) ≤ (Y.nv : Int) - 1 := h2
  have h1 : 0 ≤ (if Y.ns = Y.ns then v else Y.sv Y.ns) := h1
  rw [if_pos rfl] at h1 h2
  omega
end
theorem self_samp {x y z : Int} : eqV (.agg ⟨[.int .i64 x, .int .i64 y, .int .i64 z]⟩) (.agg ⟨[.int .i64 x, .int .i64 y, .int .i64 z]⟩) = true := by simp [eqV, eqCells, eqCell, sameK, eqI_eq]
theorem one_cells {s b gr cap : Nat} {new : List Value} {wr : Bool} (hyc : h.get b = some (.row new wr gr)) (hnl : new.length = s) : cellsOfSlice h s (.slice (some ⟨b, 0, none⟩) 1 cap) = some new := by
  show (bif Nat.beq 1 0 then some [] else match h.get b with
    | some (.row cs _ _) => dropK cs 0 fun r => takeK r (1 * s) fun l => some l
    | _ => none) = some new
  have h10 : Nat.beq 1 0 = false := rfl
  rw [hyc, h10, cond_false]
  simp only [dropK_eq, takeK_eq, Nat.zero_le, if_true, List.drop_zero]
  rw [if_pos (by omega), Nat.one_mul, ← hnl, List.take_length]
def s18 : SCode := (.seq (.ops [⟨(some 4), none, .box (T 0)⟩, ⟨(some 5), none, .box (T 1)⟩, ⟨(some 8), none, .mov (.const (.bool false))⟩]) (.seq (.ops [⟨(some 14), none, .loadN 3 (T 4)⟩, ⟨(some 9), none, .alloc [(.slice none 0 0), (.slice none 0 0), (.slice none 0 0)]⟩, ⟨none, none, .store 3 (T 9) (T 14)⟩]) (.seq (.draw [⟨.up, ⟨(some 15), none, .bslice 3 0 [(.int .i64 (0)), (.int .i64 (0)), (.int .i64 (0))] [] []⟩⟩, ⟨.free, ⟨(some 16), none, .fieldAddr 2 (T 4)⟩⟩, ⟨.rd, ⟨(some 17), none, .load1 (T 16)⟩⟩, ⟨.up, ⟨(some 18), none, .append 3 24 (T 15) (T 17)⟩⟩, ⟨.rd, ⟨(some 19), none, .loadN 3 (T 5)⟩⟩, ⟨.any, ⟨(some 20), none, .bslice 3 1 [(.int .i64 (0)), (.int .i64 (0)), (.int .i64 (0))] [0] [(T 19)]⟩⟩, ⟨.any, ⟨(some 21), none, .append 3 24 (T 18) (T 20)⟩⟩, ⟨.free, ⟨(some 22), none, .fieldAddr 2 (T 9)⟩⟩, ⟨.any, ⟨none, none, .store 1 (T 22) (T 21)⟩⟩]) (.seq (.seq (.ops [⟨(some 23), none, .loadN 3 (T 4)⟩, ⟨(some 24), none, .call (.func 62) [(T 23)]⟩, ⟨(some 25), none, .not (T 24)⟩, ⟨(some 26), none, .mov (T 25)⟩, ⟨(some 27), (some (26, false)), .loadN 3 (T 9)⟩, ⟨(some 28), (some (26, false)), .call (.func 62) [(T 27)]⟩, ⟨(some 29), (some (26, false)), .not (T 28)⟩, ⟨(some 30), none, .pick (T 26) (.const (.bool true)) (T 29)⟩, ⟨(some 31), none, .mov (T 30)⟩, ⟨(some 32), (some (31, false)), .fieldAddr 0 (T 4)⟩, ⟨(some 33), (some (31, false)), .load1 (T 32)⟩, ⟨(some 34), (some (31, false)), .len (T 33)⟩, ⟨(some 35), (some (31, false)), .int2 .eql (T 34) (.const (.int .i64 (0)))⟩, ⟨(some 36), none, .pick (T 31) (.const (.bool true)) (T 35)⟩]) (.cond (T 36) (.seq (.ops [⟨(some 37), none, .call (.func 24) []⟩, ⟨(some 8), none, .mov (T 37)⟩]) .ret) .skip)) (.seq (.ops [⟨(some 39), none, .loadN 3 (T 4)⟩, ⟨(some 40), none, .call (.func 26) [(T 39)]⟩, ⟨(some 41), none, .call (.func 54) [(T 40)]⟩, ⟨(some 38), none, .mov (T 41)⟩, ⟨(some 42), none, .extract 0 (T 38)⟩, ⟨(some 43), none, .extract 1 (T 38)⟩, ⟨(some 10), none, .mov (T 42)⟩, ⟨(some 11), none, .mov (T 43)⟩]) (.seq (.ops [⟨(some 45), none, .loadN 3 (T 9)⟩, ⟨(some 46), none, .call (.func 26) [(T 45)]⟩, ⟨(some 47), none, .call (.func 54) [(T 46)]⟩, ⟨(some 44), none, .mov (T 47)⟩, ⟨(some 48), none, .extract 0 (T 44)⟩, ⟨(some 49), none, .extract 1 (T 44)⟩, ⟨(some 12), none, .mov (T 48)⟩, ⟨(some 13), none, .mov (T 49)⟩]) (.seq (.seq (.ops [⟨(some 50), none, .mov (T 11)⟩, ⟨(some 51), none, .int2 .neq (T 50) (.const (.int .i64 (0)))⟩, ⟨(some 52), none, .mov (T 51)⟩, ⟨(some 53), (some (52, false)), .mov (T 13)⟩, ⟨(some 54), (some (52, false)), .int2 .neq (T 53) (.const (.int .i64 (0)))⟩, ⟨(some 55), none, .pick (T 52) (.const (.bool true)) (T 54)⟩, ⟨(some 56), none, .mov (T 55)⟩, ⟨(some 57), (some (56, false)), .mov (T 12)⟩, ⟨(some 58), (some (56, false)), .len (T 57)⟩, ⟨(some 59), (some (56, false)), .mov (T 10)⟩, ⟨(some 60), (some (56, false)), .len (T 59)⟩, ⟨(some 61), (some (56, false)), .int2 .lss (T 58) (T 60)⟩, ⟨(some 62), none, .pick (T 56) (.const (.bool true)) (T 61)⟩, ⟨(some 63), none, .mov (T 62)⟩, ⟨(some 64), (some (63, false)), .mov (T 12)⟩, ⟨(some 65), (some (63, false)), .len (T 64)⟩, ⟨(some 66), (some (63, false)), .mov (T 10)⟩, ⟨(some 67), (some (63, false)), .len (T 66)⟩, ⟨(some 68), (some (63, false)), .int2 .add (T 67) (.const (.int .i64 (1)))⟩, ⟨(some 69), (some (63, false)), .int2 .gtr (T 65) (T 68)⟩, ⟨(some 70), none, .pick (T 63) (.const (.bool true)) (T 69)⟩]) (.cond (T 70) (.seq (.ops [⟨(some 8), none, .mov (.const (.bool false))⟩]) .ret) .skip)) (.seq (.draw [⟨.free, ⟨(some 71), none, .mov (T 12)⟩⟩, ⟨.free, ⟨(some 72), none, .len (T 71)⟩⟩, ⟨.free, ⟨(some 73), none, .int2 .gtr (T 72) (.const (.int .i64 (0)))⟩⟩, ⟨.free, ⟨(some 74), none, .mov (T 73)⟩⟩, ⟨.rd1, ⟨(some 75), (some (74, false)), .loadN 3 (T 9)⟩⟩, ⟨.rd1, ⟨(some 76), (some (74, false)), .loadN 3 (T 4)⟩⟩, ⟨.free, ⟨(some 77), (some (74, false)), .mov (T 2)⟩⟩, ⟨.free, ⟨(some 78), (some (74, false)), .plain (.convert 5 3 (T 77)) 3⟩⟩, ⟨.free, ⟨(some 79), (some (74, false)), .fieldAddr 0 (T 4)⟩⟩, ⟨.rd1, ⟨(some 80), (some (74, false)), .load1 (T 79)⟩⟩, ⟨.free, ⟨(some 81), (some (74, false)), .len (T 80)⟩⟩, ⟨.free, ⟨(some 82), (some (74, false)), .plain (.binOp .rem 3 (T 78) (T 81) 3) 3⟩⟩, ⟨.free, ⟨(some 83), (some (74, false)), .mov (T 3)⟩⟩, ⟨.free, ⟨(some 84), (some (74, false)), .plain (.convert 5 3 (T 83)) 3⟩⟩, ⟨.any, ⟨(some 85), (some (74, false)), .call (.func 68) [(T 75), (T 76), (T 82), (T 84)]⟩⟩, ⟨.free, ⟨(some 86), none, .pick (T 74) (.const (.bool true)) (T 85)⟩⟩, ⟨.free, ⟨(some 87), none, .mov (T 86)⟩⟩, ⟨.any, ⟨(some 88), (some (87, true)), .call (.func 24) []⟩⟩, ⟨.free, ⟨(some 89), none, .pick (T 87) (T 88) (.const (.bool false))⟩⟩, ⟨.free, ⟨(some 8), none, .mov (T 89)⟩⟩]) .ret))))))))
theorem fok18 : FnOk Try.prog 18 90 s18 [.tmp 8] := ⟨Try.f18, _, Try.func18, rfl, Try.ntmps18, by kernel_rfl, by kernel_rfl⟩
set_option maxHeartbeats 4000000 in
theorem oneMore_m (hn : 11200 ≤ n) (hr : h.next + 9000000 < far) (hfl : h.floor ≤ h.next) {fv vv sv : Value} {m : Nat} {sA lA rA : Nat → Int} (ho : allB oneCell [fv, vv, sv] = true) (hS : Samps h sv m sA lA rA) (hm : m ≤ 1048576)
    (hc : Big fv vv sv ∨ ∃ Y, YardR h fv vv sv Y ∧ Y.ns = m ∧ Y.sv = sA ∧ Y.slo = lA ∧ Y.shi = rA) {v l r : Int} {a2 a3 : Nat} (w2 : a2 < 256) (w3 : a3 < 256) :
    ∃ v' h', call n (.func (.func 18) #[] #[]) [.agg ⟨[fv, vv, sv]⟩, .agg ⟨[.int .i64 v, .int .i64 l, .int .i64 r]⟩, .int .u8 (a2 : Int), .int .u8 (a3 : Int)] h = some (v', h') ∧ v' = .bool true := by
  obtain ⟨n, rfl⟩ : ∃ p, n = p + 1 := ⟨n - 1, by omega⟩
  refine call_any0 fok18 rfl rfl (by simp) ?_
  simp only [s18, W_seq, W_ops]
  refine ops_box (cs := [fv, vv, sv]) (by omega) rfl ho fun g1 hx1 => ?_
  have n1 := hx1.next
  have f1 := hx1.floor
  have e1 : g1.next = h.next + 1 := n1
  refine ops_box (cs := [.int .i64 v, .int .i64 l, .int .i64 r]) (by omega) rfl rfl fun g2 hx2 => ?_
  have n2 := hx2.next
  have f2 := hx2.floor
  have e2 : g2.next = h.next + 2 := by omega
  have r2 := hx1.row.mono hx2.sub
  have q2 := hx2.row
  rw [e1] at q2
  rw [e1]
  simp only [rn0, rn1, rn2, rn3, rn4, rn5, rn6, rn7, rn8, if_true, if_false, Nat.le_refl, true_and, and_true, decide_true, decide_false, Bool.not_true, Bool.not_false, reduceIte, Nat.reduceEqDiff, Nat.reduceAdd, Nat.reduceMul, Nat.reduceSub, Nat.reduceLeDiff, Nat.reduceLT, r2.whole (n := 3) rfl]
  refine step_new (vs := [fv, vv, sv]) (by omega) (by omega) rfl (by simp only [rn0, rn1, rn2, rn3, rn4, rn5, rn6, rn7, rn8, if_true, if_false, Nat.le_refl, true_and, and_true, decide_true, decide_false, Bool.not_true, Bool.not_false, reduceIte, Nat.reduceEqDiff, Nat.reduceAdd, Nat.reduceMul, Nat.reduceSub, Nat.reduceLeDiff, Nat.reduceLT]; rfl) ho rfl rfl fun g3 hx3 => ?_
  have n3 := hx3.next
  have f3 := hx3.floor
  have e3 : g3.next = h.next + 3 := by omega
  have sub3 : Sub All h g3 := hx1.sub.trans (hx2.sub.trans hx3.sub)
  have ry3 : Row g3 h.next [fv, vv, sv] := r2.mono hx3.sub
  have rm3 : Row g3 (h.next + 1) [.int .i64 v, .int .i64 l, .int .i64 r] := q2.mono hx3.sub
  have rx3 : g3.get (h.next + 2) = some (.row [fv, vv, sv] true 0) := by have := hx3.get; rw [e2] at this; exact this
  have hS3 := Cells.mono hS sub3
  obtain ⟨xs, ks, es, ls⟩ := Cells.list (by omega) hS3
  rw [e2]
  clear hx1 hx2 hx3 r2 q2
  simp only [rn0, rn1, rn2, rn3, rn4, rn5, rn6, rn7, rn8, if_true, if_false, Nat.le_refl, true_and, and_true, decide_true, decide_false, Bool.not_true, Bool.not_false, reduceIte, Nat.reduceEqDiff, Nat.reduceAdd, Nat.reduceMul, Nat.reduceSub, Nat.reduceLeDiff, Nat.reduceLT]
  refine seqQ (fun f g ms => ms = [] ∧ f 2 = .int .u8 (a2 : Int) ∧ f 3 = .int .u8 (a3 : Int) ∧ f 4 = .pointer (some ⟨h.next, 0, none⟩) ∧ f 9 = .pointer (some ⟨h.next + 2, 0, none⟩) ∧ Sub All h g ∧ g.floor = h.floor ∧ h.next ≤ g.next ∧ g.next ≤ h.next + 10 ∧ Row g h.next [fv, vv, sv] ∧
    ∃ S', Row g (h.next + 2) [fv, vv, S'] ∧ Samps g S' (m + 1) (fun k => if k = m then v else sA k) (fun k => if k = m then l else lA k) (fun k => if k = m then r else rA k)) ?_ ?_
  · refine W_draw All ?_
    simp only [rn0, rn1, rn2, rn3, rn4, rn5, rn6, rn7, rn8, if_true, if_false, Nat.le_refl, true_and, and_true, decide_true, decide_false, Bool.not_true, Bool.not_false, reduceIte, Nat.reduceEqDiff, Nat.reduceAdd, Nat.reduceMul, Nat.reduceSub, Nat.reduceLeDiff, Nat.reduceLT, build_none3]
    refine up_slice (by omega) rfl (fun g4 hx => hx.sub) fun g4 hx4 => ?_
    have n4 := hx4.next
    have f4 := hx4.floor
    have hap := append_none (h := g4) (s := 3) (bytes := 24) (b := g3.next) ⟨xs, ks, es⟩ (cells_sub hx4.sub hS3 (by omega) ls) flatL_len (by simp [maxBytes]; omega) (by simp [maxBytes]; omega)
    by_cases hm0 : m = 0
    · rw [if_pos hm0] at hap
      simp only [rn0, rn1, rn2, rn3, rn4, rn5, rn6, rn7, rn8, if_true, if_false, Nat.le_refl, true_and, and_true, decide_true, decide_false, Bool.not_true, Bool.not_false, reduceIte, Nat.reduceEqDiff, Nat.reduceAdd, Nat.reduceMul, Nat.reduceSub, Nat.reduceLeDiff, Nat.reduceLT, ry3.ld, rm3.whole (n := 3) rfl, Nat.zero_add, List.getElem?_cons_zero, List.getElem?_cons_succ, Cells.self hS3, hap, self_samp, sl_samp]
      refine ⟨hx4.sub, ?_⟩
      refine up_slice (by omega) rfl (fun _ _ => trivial) fun g5 hx5 => ?_
      have n5 := hx5.next
      have f5 := hx5.floor
      have hap2 := append_none (h := g5) (s := 3) (bytes := 24) (b := g3.next) (m := 1) ⟨_, _, rfl⟩ (one_cells (cap := 1) hx5.get rfl) rfl (by simp [maxBytes]) (by simp [maxBytes])
      rw [if_neg (by omega)] at hap2
      simp only [rn0, rn1, rn2, rn3, rn4, rn5, rn6, rn7, rn8, if_true, if_false, Nat.le_refl, true_and, and_true, decide_true, decide_false, Bool.not_true, Bool.not_false, reduceIte, Nat.reduceEqDiff, Nat.reduceAdd, Nat.reduceMul, Nat.reduceSub, Nat.reduceLeDiff, Nat.reduceLT, hap2]
      refine up_slice (by omega) rfl (fun _ _ => trivial) fun g6 hx6 => ?_
      have n6 := hx6.next
      have f6 := hx6.floor
      have s6 : Sub All g3 g6 := hx4.sub.trans (hx5.sub.trans hx6.sub)
      simp only [rn0, rn1, rn2, rn3, rn4, rn5, rn6, rn7, rn8, if_true, if_false, Nat.le_refl, true_and, and_true, decide_true, decide_false, Bool.not_true, Bool.not_false, reduceIte, Nat.reduceEqDiff, Nat.reduceAdd, Nat.reduceMul, Nat.reduceSub, Nat.reduceLeDiff, Nat.reduceLT]
      refine up_store (b := h.next + 2) (off := 2) (vs := [.slice (some ⟨g5.next, 0, none⟩) 1 unk]) rfl (s6 _ _ _ _ trivial rx3) (by omega) (by omega) rfl rfl rfl (by simp) (fun _ _ => trivial) fun g7 hs7 => ?_
      rw [spliceN2] at hs7
      have n7 := hs7.next
      have f7 := hs7.floor
      have old7 : ∀ i, i ≠ h.next + 2 → g7.get i = g6.get i := hs7.old
      have sub7 : Sub All h g7 := fun i cs w gr t hg => by
        have := AHeap.lt_of_get hg
        rw [old7 i (by omega)]; exact s6 _ _ _ _ t (sub3 _ _ _ _ t hg)
      have ry7 : Row g7 h.next [fv, vv, sv] := by
        obtain ⟨w, gr, e⟩ := ry3.mono s6
        exact ⟨w, gr, by rw [old7 _ (by omega)]; exact e⟩
      simp only [rn0, rn1, rn2, rn3, rn4, rn5, rn6, rn7, rn8, if_true, if_false, Nat.le_refl, true_and, and_true, decide_true, decide_false, Bool.not_true, Bool.not_false, reduceIte, Nat.reduceEqDiff, Nat.reduceAdd, Nat.reduceMul, Nat.reduceSub, Nat.reduceLeDiff, Nat.reduceLT]
      refine ⟨sub7, by omega, by omega, by omega, ry7, _, hs7.row, ?_⟩
      rw [hm0]
      refine cells_row (b := g5.next) ⟨true, 3, by rw [old7 _ (by omega)]; exact hx6.get⟩ fun k j hk hj => ?_
      obtain rfl : k = 0 := by omega
      obtain rfl | rfl | rfl : j = 0 ∨ j = 1 ∨ j = 2 := by omega
      all_goals rfl
    · rw [if_neg hm0] at hap
      simp only [rn0, rn1, rn2, rn3, rn4, rn5, rn6, rn7, rn8, if_true, if_false, Nat.le_refl, true_and, and_true, decide_true, decide_false, Bool.not_true, Bool.not_false, reduceIte, Nat.reduceEqDiff, Nat.reduceAdd, Nat.reduceMul, Nat.reduceSub, Nat.reduceLeDiff, Nat.reduceLT, ry3.ld, rm3.whole (n := 3) rfl, Nat.zero_add, List.getElem?_cons_zero, List.getElem?_cons_succ, Cells.self hS3, hap, self_samp, sl_samp]
      refine up_slice (by omega) flatL_one (fun g5 hx => hx4.sub.trans hx.sub) fun g5 hx5 => ?_
      have n5 := hx5.next
      have f5 := hx5.floor
      simp only [rn0, rn1, rn2, rn3, rn4, rn5, rn6, rn7, rn8, if_true, if_false, Nat.le_refl, true_and, and_true, decide_true, decide_false, Bool.not_true, Bool.not_false, reduceIte, Nat.reduceEqDiff, Nat.reduceAdd, Nat.reduceMul, Nat.reduceSub, Nat.reduceLeDiff, Nat.reduceLT, ry3.ld, rm3.whole (n := 3) rfl, Nat.zero_add, List.getElem?_cons_zero, List.getElem?_cons_succ, self_samp, sl_samp]
      refine up_slice (by omega) rfl (fun _ _ => trivial) fun g6 hx6 => ?_
      have n6 := hx6.next
      have f6 := hx6.floor
      have gS : GrowC g3.next g6 (.slice (some ⟨g4.next, 0, none⟩) m unk) 3 m (fun k j => .int .i64 (if j = 0 then (if k = m then v else sA k) else if j = 1 then (if k = m then l else lA k) else if k = m then r else rA k)) :=
        ⟨_, .inr ⟨_, rfl, by rw [hx6.old _ (by omega)]; exact hx5.get, flatL_len, by omega⟩, flatL_one, fun k j hk hj => by
          rw [flatL_get (c := fun k j => .int .i64 (if j = 0 then sA k else if j = 1 then lA k else rA k)) hk hj]
          have : ¬ k = m := by omega
          simp only [this, if_false]⟩
      obtain ⟨S', g7, e, e', gS', hk7⟩ := gS.append (bytes := 24) (cap := 1) (by omega) (by omega) (by omega) hx6.get rfl rfl (fun j hj => by
        simp only [if_true]
        obtain rfl | rfl | rfl : j = 0 ∨ j = 1 ∨ j = 2 := by omega
        all_goals rfl) (by simp [maxBytes]; omega) (by simp [maxBytes]; omega)
      have n7 := hk7.next
      have f7 := hk7.floor
      have old7 : ∀ i, i < h.next + 3 → g7.get i = g3.get i := fun i hi => by
        rw [hk7.old i (by omega) fun b k c e => by cases e; show i ≠ g4.next; omega, hx6.old i (by omega), hx5.old i (by omega), hx4.old i (by omega)]
      simp only [rn0, rn1, rn2, rn3, rn4, rn5, rn6, rn7, rn8, if_true, if_false, Nat.le_refl, true_and, and_true, decide_true, decide_false, Bool.not_true, Bool.not_false, reduceIte, Nat.reduceEqDiff, Nat.reduceAdd, Nat.reduceMul, Nat.reduceSub, Nat.reduceLeDiff, Nat.reduceLT, e]
      refine ⟨by omega, up_store (b := h.next + 2) (off := 2) (vs := [S']) rfl (by rw [old7 _ (by omega)]; exact rx3) (by omega) (by omega) (by rw [e']; rfl) (by simp [allB, gS'.one]) rfl (by simp) (fun _ _ => trivial) fun g8 hs8 => ?_⟩
      rw [spliceN2] at hs8
      have n8 := hs8.next
      have f8 := hs8.floor
      have sub8 : Sub All h g8 := fun i cs w gr t hg => by
        have := AHeap.lt_of_get hg
        rw [hs8.old i (by omega), old7 i (by omega)]; exact sub3 _ _ _ _ t hg
      have ry8 : Row g8 h.next [fv, vv, sv] := by
        obtain ⟨w, gr, e⟩ := ry3
        exact ⟨w, gr, by rw [hs8.old _ (by omega), old7 _ (by omega)]; exact e⟩
      simp only [rn0, rn1, rn2, rn3, rn4, rn5, rn6, rn7, rn8, if_true, if_false, Nat.le_refl, true_and, and_true, decide_true, decide_false, Bool.not_true, Bool.not_false, reduceIte, Nat.reduceEqDiff, Nat.reduceAdd, Nat.reduceMul, Nat.reduceSub, Nat.reduceLeDiff, Nat.reduceLT]
      exact ⟨sub8, by omega, by omega, by omega, ry8, _, hs8.row, (gS'.keep hs8.keep (by omega)).cells⟩
  · rintro f g ms ⟨rfl, p2, p3, p4, p9, sg, fg, ug, bg, ry, S', rx, hS'⟩
    have wy := ry.whole (n := 3) rfl
    have wx := rx.whole (n := 3) rfl
    have haw := awake_c (n := n) (h := g) (by omega)
    rcases hc with hbig | ⟨Y, hy, rfl, rfl, rfl, rfl⟩
    · have hrd := ready_big (n := n) (h := g) (by omega) (by omega) hbig
      simp only [rn0, rn1, rn2, rn3, rn4, rn5, rn6, rn7, rn8, if_true, if_false, Nat.le_refl, true_and, and_true, decide_true, decide_false, Bool.not_true, Bool.not_false, reduceIte, Nat.reduceEqDiff, Nat.reduceAdd, Nat.reduceMul, Nat.reduceSub, Nat.reduceLeDiff, Nat.reduceLT, p2, p3, p4, p9, wy, hrd, haw]
    have hYg := hy.mono sg
    have hrd := ready_c (n := n) (h := g) (by omega) (by omega) hYg
    by_cases c1 : Thin Y ∧ faultN Y = 0
    case neg =>
      rw [decide_eq_false c1] at hrd
      simp only [rn0, rn1, rn2, rn3, rn4, rn5, rn6, rn7, rn8, if_true, if_false, Nat.le_refl, true_and, and_true, decide_true, decide_false, Bool.not_true, Bool.not_false, reduceIte, Nat.reduceEqDiff, Nat.reduceAdd, Nat.reduceMul, Nat.reduceSub, Nat.reduceLeDiff, Nat.reduceLT, p2, p3, p4, p9, wy, hrd, haw]
    rw [decide_eq_true c1] at hrd
    obtain ⟨hT, hf⟩ := c1
    have hG := good_of hf
    obtain ⟨z1, z2, z3⟩ := hG.sz
    have hX : YardR g fv vv S' (plus Y v l r) := ⟨hYg.f, hYg.v, hS'⟩
    have hrx := ready_c (n := n) (h := g) (by omega) (by omega) hX
    by_cases c2 : Thin (plus Y v l r) ∧ faultN (plus Y v l r) = 0
    case neg =>
      rw [decide_eq_false c2] at hrx
      simp only [rn0, rn1, rn2, rn3, rn4, rn5, rn6, rn7, rn8, if_true, if_false, Nat.le_refl, true_and, and_true, decide_true, decide_false, Bool.not_true, Bool.not_false, reduceIte, Nat.reduceEqDiff, Nat.reduceAdd, Nat.reduceMul, Nat.reduceSub, Nat.reduceLeDiff, Nat.reduceLT, p2, p3, p4, p9, wy, hrd, wx, hrx, haw]
    rw [decide_eq_true c2] at hrx
    obtain ⟨hTX, hfx⟩ := c2
    by_cases c3 : (Y.nf : Int) = 0
    · simp only [rn0, rn1, rn2, rn3, rn4, rn5, rn6, rn7, rn8, if_true, if_false, Nat.le_refl, true_and, and_true, decide_true, decide_false, Bool.not_true, Bool.not_false, reduceIte, Nat.reduceEqDiff, Nat.reduceAdd, Nat.reduceMul, Nat.reduceSub, Nat.reduceLeDiff, Nat.reduceLT, p2, p3, p4, p9, wy, hrd, wx, hrx, ry.ld, Nat.zero_add, List.getElem?_cons_zero, List.getElem?_cons_succ, Cells.len hYg.f, c3, haw]
    have hnf : 0 < Y.nf := by omega
    obtain ⟨F1, V1, S1, g7, ey1, hy1', m7⟩ := yard_c (n := n) (h := g) (by omega) (by omega) (by omega) hYg hT
    have n7 := m7.next
    have u7 := m7.up
    have f7 := m7.floor
    obtain ⟨v1, g8, el1, m8, hL1⟩ := leave_c (n := n) (h := g7) (by omega) (by omega) (by omega) hy1' hT
    have n8 := m8.next
    have u8 := m8.up
    have f8 := m8.floor
    have s8 := m7.sub.trans m8.sub
    obtain ⟨F2, V2, S2, g9, ey2, hy2', m9⟩ := yard_c (n := n) (h := g8) (by omega) (by omega) (by omega) (hX.mono s8) hTX
    have n9 := m9.next
    have u9 := m9.up
    have f9 := m9.floor
    obtain ⟨v2, g10, el2, m10, hL2⟩ := leave_c (n := n) (h := g9) (by omega) (by omega) (by omega) hy2' hTX
    have n10 := m10.next
    have u10 := m10.up
    have f10 := m10.floor
    have s10 := s8.trans (m9.sub.trans m10.sub)
    rcases hL1 with ⟨h0, _⟩ | ⟨_, l1, rfl, hl1, _⟩
    · exact absurd hf h0
    rcases hL2 with ⟨h0, _⟩ | ⟨_, l2, rfl, hl2, _⟩
    · exact absurd hfx h0
    have wx8 := (rx.mono s8).whole (n := 3) rfl
    have wy10 := (ry.mono s10).whole (n := 3) rfl
    have wx10 := (rx.mono s10).whole (n := 3) rfl
    obtain ⟨hle, hle2⟩ := plus_leave (Y := Y) (v := v) (l := l) (r := r)
    have hll := leave_len_le (Y := Y)
    have hwl : wrapF .i64 (((leaveRun Y).length : Int) + 1) = (((leaveRun Y).length + 1 : Nat) : Int) := by rw [wrap_in (by omega) (by omega)]; rfl
    have hle1' : ¬ ((leaveRun (plus Y v l r)).length : Int) < ((leaveRun Y).length : Int) := by omega
    have hle2' : ¬ (((leaveRun Y).length + 1 : Nat) : Int) < ((leaveRun (plus Y v l r)).length : Int) := by omega
    have haw := awake_c (n := n) (h := g10) (by omega)
    by_cases hz : leaveRun (plus Y v l r) = []
    · have hz0 : (leaveRun (plus Y v l r)).length = 0 := by rw [hz]; rfl
      have hpos : ¬ (0 : Int) < ((leaveRun (plus Y v l r)).length : Int) := by omega
      have hin := plus_inner hfx hf hz
      obtain ⟨fld, hfld⟩ : ∃ x, x = a2 % Y.nf := ⟨_, rfl⟩
      have hfl2 : fld < Y.nf := by rw [hfld]; exact Nat.mod_lt _ hnf
      have q10 : (a2 : Int).tmod (Y.nf : Int) = (fld : Int) := by rw [hfld]; rfl
      have ecl := closer_c (n := n) (h := g10) (by omega) (by omega) (hX.mono s10) (hYg.mono s10) hTX hT hin (fld := fld) (blue := a3) hfl2 w3 (plus_vats hfx)
      simp only [rn0, rn1, rn2, rn3, rn4, rn5, rn6, rn7, rn8, if_true, if_false, Nat.le_refl, true_and, and_true, decide_true, decide_false, Bool.not_true, Bool.not_false, reduceIte, Nat.reduceEqDiff, Nat.reduceAdd, Nat.reduceMul, Nat.reduceSub, Nat.reduceLeDiff, Nat.reduceLT, p2, p3, p4, p9, wy, hrd, wx, hrx, ry.ld, Nat.zero_add, List.getElem?_cons_zero, List.getElem?_cons_succ, Cells.len hYg.f, c3, ey1, el1, ex0, ex1, wx8, ey2, el2, Int.reduceEq, Cells.len hl1, Cells.len hl2, hle1', hwl, hle2']
      refine W_draw All ?_
      simp only [rn0, rn1, rn2, rn3, rn4, rn5, rn6, rn7, rn8, if_true, if_false, Nat.le_refl, true_and, and_true, decide_true, decide_false, Bool.not_true, Bool.not_false, reduceIte, Nat.reduceEqDiff, Nat.reduceAdd, Nat.reduceMul, Nat.reduceSub, Nat.reduceLeDiff, Nat.reduceLT, p2, p3, p4, p9, d_guard, dg_tt, dg_tf, dg_ft, dg_ff, Cells.len hl2, hpos, wy10, wx10, p_conv8, r_8 w2, r_8 w3, valN_tmp, valN_const, Nat.reduceLT, (ry.mono s10).ld, Nat.zero_add, List.getElem?_cons_zero, List.getElem?_cons_succ, Cells.len (hYg.mono s10).f, r_rem c3, q10, ecl, haw]
    · have hpos : (0 : Int) < ((leaveRun (plus Y v l r)).length : Int) := by have := List.length_pos_iff.2 hz; omega
      simp only [rn0, rn1, rn2, rn3, rn4, rn5, rn6, rn7, rn8, if_true, if_false, Nat.le_refl, true_and, and_true, decide_true, decide_false, Bool.not_true, Bool.not_false, reduceIte, Nat.reduceEqDiff, Nat.reduceAdd, Nat.reduceMul, Nat.reduceSub, Nat.reduceLeDiff, Nat.reduceLT, p2, p3, p4, p9, wy, hrd, wx, hrx, ry.ld, Nat.zero_add, List.getElem?_cons_zero, List.getElem?_cons_succ, Cells.len hYg.f, c3, ey1, el1, ex0, ex1, wx8, ey2, el2, Int.reduceEq, Cells.len hl1, Cells.len hl2, hle1', hwl, hle2']
      refine W_draw All ?_
      simp only [rn0, rn1, rn2, rn3, rn4, rn5, rn6, rn7, rn8, if_true, if_false, Nat.le_refl, true_and, and_true, decide_true, decide_false, Bool.not_true, Bool.not_false, reduceIte, Nat.reduceEqDiff, Nat.reduceAdd, Nat.reduceMul, Nat.reduceSub, Nat.reduceLeDiff, Nat.reduceLT, p2, p3, p4, p9, d_guard, dg_tt, dg_tf, dg_ft, dg_ff, Cells.len hl2, hpos, haw]
end Go.Vm.Vat
