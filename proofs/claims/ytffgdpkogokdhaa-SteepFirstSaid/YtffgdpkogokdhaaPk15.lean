/- Texts of the proofs of this seat, put together: StGoodH, StOutL, StRightL, StRightM, StGoodP, StRightN, StGoodL, StStuckL, StAskP, StAskL, StStay, StLess, StWarmer, StAskedL, StSets, StSetsI, StWrong, StSmall, StSmall2, StRef4, StLeaveP, StSome, StFirstL. -/
import Derived.Test.YtffgdpkogokdhaaPk14

namespace Go.Vm.St
open Go.Proofs Go.Vm.Vat
set_option linter.unusedSimpArgs false
set_option linter.unusedVariables false
set_option maxRecDepth 10000
variable {n : Nat} {h : AHeap}
/-! ### A steep opened, if it has a truth -/
/-- what 'openTrue' answers -/
def OpenTR (h : AHeap) (S : MS) (wv vv sv v : Value) (h' : AHeap) : Prop := (∀ i, i < h.next → h'.get i = h.get i) ∧ h.next ≤ h'.next ∧ h'.next ≤ h.next + 500100 ∧ h'.floor = h.floor ∧
  ((faultS S ≠ 0 ∧ v = .tuple ⟨[.agg ⟨wk0⟩, .int .i64 (faultS S)]⟩) ∨ (faultS S = 0 ∧ truthsS S = [] ∧ v = .tuple ⟨[.agg ⟨wk0⟩, .int .i64 11]⟩) ∨
    (faultS S = 0 ∧ truthsS S ≠ [] ∧ ∃ tv, v = .tuple ⟨[.agg ⟨wkL S wv vv sv tv⟩, .int .i64 0]⟩ ∧ oneCell tv = true ∧ TruthsR h' S tv (truthsS S) ∧ Long tv))
def s94 : SCode := (.seq (.ops [⟨(some 1), none, .box (T 0)⟩, ⟨(some 2), none, .alloc [(.int .i64 (0)), (.int .i64 (0)), (.slice none 0 0), (.int .i64 (0)), (.int .i64 (0)), (.slice none 0 0), (.slice none 0 0), (.slice none 0 0)]⟩, ⟨(some 3), none, .mov (.const (.int .i64 (0)))⟩]) (.seq (.ops [⟨(some 7), none, .loadN 7 (T 1)⟩, ⟨(some 8), none, .call (.func 79) [(T 7)]⟩, ⟨(some 6), none, .mov (T 8)⟩, ⟨(some 9), none, .extract 0 (T 6)⟩, ⟨(some 10), none, .extract 1 (T 6)⟩, ⟨(some 4), none, .alloc [(.int .i64 (0)), (.int .i64 (0)), (.slice none 0 0), (.int .i64 (0)), (.int .i64 (0)), (.slice none 0 0), (.slice none 0 0), (.slice none 0 0)]⟩, ⟨none, none, .store 8 (T 4) (T 9)⟩, ⟨(some 5), none, .mov (T 10)⟩]) (.seq (.seq (.ops [⟨(some 11), none, .mov (T 5)⟩, ⟨(some 12), none, .int2 .eql (T 11) (.const (.int .i64 (0)))⟩, ⟨(some 13), none, .mov (T 12)⟩, ⟨(some 14), (some (13, true)), .fieldAddr 7 (T 4)⟩, ⟨(some 15), (some (13, true)), .load1 (T 14)⟩, ⟨(some 16), (some (13, true)), .len (T 15)⟩, ⟨(some 17), (some (13, true)), .int2 .eql (T 16) (.const (.int .i64 (0)))⟩, ⟨(some 18), none, .pick (T 13) (T 17) (.const (.bool false))⟩]) (.cond (T 18) (.seq (.ops [⟨(some 19), none, .build #[(0, 7), (7, 1)] [(.int .i64 (0)), (.int .i64 (0)), (.slice none 0 0), (.int .i64 (0)), (.int .i64 (0)), (.slice none 0 0), (.slice none 0 0), (.slice none 0 0)] [] []⟩, ⟨none, none, .store 8 (T 2) (T 19)⟩, ⟨(some 3), none, .mov (.const (.int .i64 (11)))⟩]) .ret) .skip)) (.seq (.ops [⟨(some 20), none, .loadN 8 (T 4)⟩, ⟨(some 21), none, .mov (T 5)⟩, ⟨none, none, .store 8 (T 2) (T 20)⟩, ⟨(some 3), none, .mov (T 21)⟩]) .ret))))
theorem fok94 : FnOk Try.prog 94 22 s94 [.cellN 2 8, .tmp 3] := ⟨Try.f94, _, Try.func94, rfl, Try.ntmps94, by kernel_rfl, by kernel_rfl⟩
set_option maxHeartbeats 1000000 in
theorem openTrue_c (hn : 600 ≤ n) (hr : h.next + 700000 < far) (hfl : h.floor ≤ h.next) {wv vv sv : Value} {S : MS} (hy : SteepR h wv vv sv S) (hT : ThinS S) :
    ∃ v h', call n (.func (.func 94) #[] #[]) [.agg ⟨stL S wv vv sv⟩] h = some (v, h') ∧ OpenTR h S wv vv sv v h' := by
  obtain ⟨n, rfl⟩ : ∃ p, n = p + 1 := ⟨n - 1, by omega⟩
  refine call_any0 fok94 rfl rfl (by simp) ?_
  simp only [s94, W_seq, W_ops]
  refine ops_box (cs := stL S wv vv sv) (by omega) rfl hy.one fun g1 hx1 => ?_
  have n1 := hx1.next
  have f1 := hx1.floor
  simp only [rn0, rn1, rn2, rn3, rn4, rn5, rn6, rn7, rn8, if_true, if_false, Nat.le_refl, true_and, and_true, decide_true, decide_false, Bool.not_true, Bool.not_false, reduceIte, Nat.reduceEqDiff, Nat.reduceAdd, Nat.reduceMul, Nat.reduceSub, Nat.reduceLeDiff, Nat.reduceLT]
  refine step_row (cs := wk0) (by omega) rfl rfl fun g3 hx3 => ?_
  have n3 := hx3.next
  have f3 := hx3.floor
  have sub3 : Sub All h g3 := hx1.sub.trans hx3.sub
  have w1 := (hx1.row.mono hx3.sub).whole (n := 7) rfl
  obtain ⟨pv, g4, eo, o4, u4, m4, f4, ho⟩ := open_c (n := n) (h := g3) (by omega) (by omega) (by omega) (hy.mono sub3) hT
  have old4 : ∀ i, i < h.next → g4.get i = h.get i := fun i hi => by rw [o4 i (by omega), hx3.old i (by omega), hx1.old i hi]
  have q6 : g4.get g1.next = some (.row wk0 true 0) := by rw [o4 _ (by omega)]; exact hx3.get
  rcases ho with ⟨hf, rfl⟩ | ⟨hf, tv, rfl, hone, htr, htb, hlong⟩
  · simp only [rn0, rn1, rn2, rn3, rn4, rn5, rn6, rn7, rn8, if_true, if_false, Nat.le_refl, true_and, and_true, decide_true, decide_false, Bool.not_true, Bool.not_false, reduceIte, Nat.reduceEqDiff, Nat.reduceAdd, Nat.reduceMul, Nat.reduceSub, Nat.reduceLeDiff, Nat.reduceLT, w1, eo, ex0, ex1]
    refine step_new (vs := wk0) (by omega) (by omega) rfl (by simp only [rn0, rn1, rn2, rn3, rn4, rn5, rn6, rn7, rn8, if_true, if_false, Nat.le_refl, true_and, and_true, decide_true, decide_false, Bool.not_true, Bool.not_false, reduceIte, Nat.reduceEqDiff, Nat.reduceAdd, Nat.reduceMul, Nat.reduceSub, Nat.reduceLeDiff, Nat.reduceLT]; rfl) rfl rfl rfl fun g5 hx5 => ?_
    have n5 := hx5.next
    have f5 := hx5.floor
    simp only [rn0, rn1, rn2, rn3, rn4, rn5, rn6, rn7, rn8, if_true, if_false, Nat.le_refl, true_and, and_true, decide_true, decide_false, Bool.not_true, Bool.not_false, reduceIte, Nat.reduceEqDiff, Nat.reduceAdd, Nat.reduceMul, Nat.reduceSub, Nat.reduceLeDiff, Nat.reduceLT, hf, hx5.row.whole (n := 8) rfl]
    refine step_store (b := g1.next) (off := 0) (vs := wk0) rfl (by rw [hx5.old _ (by omega)]; exact q6) (by omega) (by omega) rfl rfl rfl (by simp) fun g6 hs6 => ?_
    rw [splice_all (by rfl)] at hs6
    have n6 := hs6.next
    have f6 := hs6.floor
    simp only [rn0, rn1, rn2, rn3, rn4, rn5, rn6, rn7, rn8, if_true, if_false, Nat.le_refl, true_and, and_true, decide_true, decide_false, Bool.not_true, Bool.not_false, reduceIte, Nat.reduceEqDiff, Nat.reduceAdd, Nat.reduceMul, Nat.reduceSub, Nat.reduceLeDiff, Nat.reduceLT, res_two, hs6.row.whole (n := 8) rfl]
    exact ⟨fun i hi => by rw [hs6.old i (by omega), hx5.old i (by omega), old4 i hi], by omega, by omega, by omega, .inl ⟨hf, rfl⟩⟩
  · have hG := good_of hf
    have how := wk_one (hy.mono sub3) (tv := tv) hone
    simp only [rn0, rn1, rn2, rn3, rn4, rn5, rn6, rn7, rn8, if_true, if_false, Nat.le_refl, true_and, and_true, decide_true, decide_false, Bool.not_true, Bool.not_false, reduceIte, Nat.reduceEqDiff, Nat.reduceAdd, Nat.reduceMul, Nat.reduceSub, Nat.reduceLeDiff, Nat.reduceLT, w1, eo, ex0, ex1]
    refine step_new (vs := wkL S wv vv sv tv) (by omega) (by omega) rfl (by simp only [rn0, rn1, rn2, rn3, rn4, rn5, rn6, rn7, rn8, if_true, if_false, Nat.le_refl, true_and, and_true, decide_true, decide_false, Bool.not_true, Bool.not_false, reduceIte, Nat.reduceEqDiff, Nat.reduceAdd, Nat.reduceMul, Nat.reduceSub, Nat.reduceLeDiff, Nat.reduceLT]; rfl) how rfl rfl fun g5 hx5 => ?_
    have n5 := hx5.next
    have f5 := hx5.floor
    have old5 : ∀ i, i < h.next → g5.get i = h.get i := fun i hi => by rw [hx5.old i (by omega), old4 i hi]
    have w5 := hx5.row.whole (n := 8) rfl
    have q5 : g5.get g1.next = some (.row wk0 true 0) := by rw [hx5.old _ (by omega)]; exact q6
    have htr5 : TruthsR g5 S tv (truthsS S) := Cells.mono htr hx5.sub
    by_cases hz : truthsS S = []
    · have hl0 : ((truthsS S).length : Int) = 0 := by rw [hz]; rfl
      simp only [rn0, rn1, rn2, rn3, rn4, rn5, rn6, rn7, rn8, if_true, if_false, Nat.le_refl, true_and, and_true, decide_true, decide_false, Bool.not_true, Bool.not_false, reduceIte, Nat.reduceEqDiff, Nat.reduceAdd, Nat.reduceMul, Nat.reduceSub, Nat.reduceLeDiff, Nat.reduceLT, w5, hx5.row.ld, wkg, Nat.zero_add, Cells.len htr5, hl0, build_wk0]
      refine step_store (b := g1.next) (off := 0) (vs := wk0) rfl q5 (by omega) (by omega) rfl rfl rfl (by simp) fun g6 hs6 => ?_
      rw [splice_all (by rfl)] at hs6
      have n6 := hs6.next
      have f6 := hs6.floor
      simp only [rn0, rn1, rn2, rn3, rn4, rn5, rn6, rn7, rn8, if_true, if_false, Nat.le_refl, true_and, and_true, decide_true, decide_false, Bool.not_true, Bool.not_false, reduceIte, Nat.reduceEqDiff, Nat.reduceAdd, Nat.reduceMul, Nat.reduceSub, Nat.reduceLeDiff, Nat.reduceLT, res_two, hs6.row.whole (n := 8) rfl]
      exact ⟨fun i hi => by rw [hs6.old i (by omega), old5 i hi], by omega, by omega, by omega, .inr (.inl ⟨hf, hz, rfl⟩)⟩
    · have hl0 : ¬ ((truthsS S).length : Int) = 0 := fun e => hz (List.length_eq_zero_iff.1 (by omega))
      simp only [rn0, rn1, rn2, rn3, rn4, rn5, rn6, rn7, rn8, if_true, if_false, Nat.le_refl, true_and, and_true, decide_true, decide_false, Bool.not_true, Bool.not_false, reduceIte, Nat.reduceEqDiff, Nat.reduceAdd, Nat.reduceMul, Nat.reduceSub, Nat.reduceLeDiff, Nat.reduceLT, w5, hx5.row.ld, wkg, Nat.zero_add, Cells.len htr5, hl0]
      refine step_store (b := g1.next) (off := 0) (vs := wkL S wv vv sv tv) rfl q5 (by omega) (by omega) rfl how rfl (by simp) fun g6 hs6 => ?_
      rw [splice_all (by rfl)] at hs6
      have n6 := hs6.next
      have f6 := hs6.floor
      simp only [rn0, rn1, rn2, rn3, rn4, rn5, rn6, rn7, rn8, if_true, if_false, Nat.le_refl, true_and, and_true, decide_true, decide_false, Bool.not_true, Bool.not_false, reduceIte, Nat.reduceEqDiff, Nat.reduceAdd, Nat.reduceMul, Nat.reduceSub, Nat.reduceLeDiff, Nat.reduceLT, res_two, hs6.row.whole (n := 8) rfl]
      refine ⟨fun i hi => by rw [hs6.old i (by omega), old5 i hi], by omega, by omega, by omega, .inr (.inr ⟨hf, hz, tv, rfl, hone, ?_, hlong⟩)⟩
      exact cells_at' htr5 fun a k c e => by
        have := htb a k c e
        exact hs6.old _ (by omega)
/-! ### The good hours of a vat -/
/-- which hours, counted from Begin, are good -/
noncomputable def gI (S : MS) (v : Nat) (L : List (Nat → Int)) (k : Nat) : List Int := pickL (fun i => verdS S v (S.vb v + (i : Int)) 1 L = 1) k
def gLo (b : Int) (l : List Int) : Int := if l = [] then 0 else b + atL l 0
def gHi (b : Int) (l : List Int) : Int := if l = [] then 0 else b + atL l (l.length - 1)
theorem gLo_nil {b : Int} : gLo b [] = 0 := rfl
theorem gHi_nil {b : Int} : gHi b [] = 0 := rfl
theorem gLo_app {b x : Int} {l : List Int} (hl : l ≠ []) : gLo b (l ++ [x]) = gLo b l := by
  unfold gLo
  rw [if_neg hl, if_neg (by simp), at_append (List.length_pos_iff.2 hl)]
theorem gHi_app {b x : Int} {l : List Int} : gHi b (l ++ [x]) = b + x := by
  unfold gHi
  rw [if_neg (by simp), List.length_append, List.length_singleton, Nat.add_sub_cancel, at_last]
def s93 : SCode := (.seq (.ops [⟨(some 2), none, .box (T 0)⟩, ⟨(some 4), none, .alloc [(.int .i64 (0)), (.int .i64 (0))]⟩, ⟨(some 5), none, .mov (.const (.bool false))⟩]) (.seq (.ops [⟨(some 9), none, .loadN 8 (T 2)⟩, ⟨(some 10), none, .mov (T 1)⟩, ⟨(some 11), none, .call (.func 91) [(T 9), (T 10)]⟩, ⟨(some 6), none, .mov (T 11)⟩]) (.seq (.seq (.ops [⟨(some 12), none, .loadN 8 (T 2)⟩, ⟨(some 13), none, .mov (T 1)⟩, ⟨(some 14), none, .call (.func 107) [(T 12), (T 13)]⟩, ⟨(some 15), none, .mov (.const (.int .i64 (0)))⟩]) (.block 0 (.loop (.seq (.ops [⟨(some 16), none, .int2 .lss (T 15) (T 14)⟩]) (.seq (.cond (T 16) .skip (.exit 0)) (.seq (.block 1 (.seq (.ops [⟨(some 17), none, .mov (T 15)⟩, ⟨(some 7), none, .mov (T 17)⟩]) (.seq (.ops [⟨(some 18), none, .fieldAddr 0 (T 2)⟩, ⟨(some 19), none, .fieldAddr 5 (T 18)⟩, ⟨(some 20), none, .load1 (T 19)⟩, ⟨(some 21), none, .mov (T 1)⟩, ⟨(some 22), none, .idxSl 4 (T 20) (T 21)⟩, ⟨(some 23), none, .fieldAddr 0 (T 22)⟩, ⟨(some 24), none, .load1 (T 23)⟩, ⟨(some 25), none, .mov (T 7)⟩, ⟨(some 26), none, .int2 .add (T 24) (T 25)⟩, ⟨(some 8), none, .mov (T 26)⟩]) (.seq (.seq (.ops [⟨(some 27), none, .loadN 8 (T 2)⟩, ⟨(some 28), none, .mov (T 6)⟩, ⟨(some 29), none, .mov (T 1)⟩, ⟨(some 30), none, .mov (T 8)⟩, ⟨(some 31), none, .call (.func 90) [(T 27), (T 28), (T 29), (T 30)]⟩, ⟨(some 32), none, .int2 .neq (T 31) (.const (.int .i64 (1)))⟩]) (.cond (T 32) (.exit 1) .skip)) (.seq (.seq (.ops [⟨(some 33), none, .mov (T 5)⟩, ⟨(some 34), none, .not (T 33)⟩]) (.cond (T 34) (.ops [⟨(some 35), none, .mov (T 8)⟩, ⟨(some 36), none, .fieldAddr 0 (T 4)⟩, ⟨none, none, .store 1 (T 36) (T 35)⟩]) .skip)) (.ops [⟨(some 37), none, .mov (T 8)⟩, ⟨(some 38), none, .fieldAddr 1 (T 4)⟩, ⟨none, none, .store 1 (T 38) (T 37)⟩, ⟨(some 5), none, .mov (.const (.bool true))⟩])))))) (.ops [⟨(some 39), none, .int2 .add (T 15) (.const (.int .i64 (1)))⟩, ⟨(some 15), none, .mov (T 39)⟩]))))))) (.seq (.ops [⟨(some 40), none, .loadN 2 (T 4)⟩, ⟨(some 41), none, .mov (T 5)⟩, ⟨none, none, .store 2 (T 4) (T 40)⟩, ⟨(some 5), none, .mov (T 41)⟩]) .ret))))
theorem fok93 : FnOk Try.prog 93 42 s93 [.cellN 4 2, .tmp 5] := ⟨Try.f93, _, Try.func93, rfl, Try.ntmps93, by kernel_rfl, by kernel_rfl⟩
set_option maxHeartbeats 2000000 in
theorem goodHours_c (hn : 2320 ≤ n) (hr : h.next + 300000 < far) {wv vv sv tv : Value} {S : MS} (hy : SteepR h wv vv sv S) (ho1 : oneCell tv = true) (hG : Good S) {L : List (Nat → Int)} (hlen : L.length ≤ 2000) (hin : ∀ t, t ∈ L → InU S t) (htr : TruthsR h S tv L) {v : Nat} (hv : v < S.nv) :
    call n (.func (.func 93) #[] #[]) [.agg ⟨wkL S wv vv sv tv⟩, .int .i64 (v : Int)] h = some (.tuple ⟨[.agg ⟨[.int .i64 (gLo (S.vb v) (gI S v L (hoursN S v))), .int .i64 (gHi (S.vb v) (gI S v L (hoursN S v)))]⟩, .bool (decide (gI S v L (hoursN S v) ≠ []))]⟩, h) := by
  obtain ⟨n, rfl⟩ : ∃ p, n = p + 1 := ⟨n - 1, by omega⟩
  refine call_plain0 fok93 rfl rfl (by simp) rfl ?_
  have hy := hy.shut
  have htr : TruthsR h.shutAll S tv L := Cells.shut htr
  have hr : h.shutAll.next + 300000 < far := hr
  have hfl : h.shutAll.floor ≤ h.shutAll.next := Nat.le_refl _
  generalize h.shutAll = h at hy htr hr hfl
  obtain ⟨mh1, mh2, mh3⟩ := hoursN_ok hG hv
  obtain ⟨⟨vb1, vb2⟩, _⟩ := hG.args.vat v hv
  obtain ⟨zl0, zl5, _⟩ := hG.sizes
  simp only [s93, W_seq, W_ops]
  refine ops_box (cs := wkL S wv vv sv tv) (by omega) rfl (wk_one hy ho1) fun g1 hx1 => ?_
  have n1 := hx1.next
  have f1 := hx1.floor
  refine ops_alloc (cs := [.int .i64 0, .int .i64 0]) (by omega) rfl fun g2 hx2 => ?_
  have n2 := hx2.next
  have f2 := hx2.floor
  have s2 : Sub All h g2 := hx1.sub.trans hx2.sub
  have r2 := hx1.row.mono hx2.sub
  obtain ⟨r, g3, ek, hm3, hr3, sub3, u3, m3, f3⟩ := kindsOf_c (n := n) (h := g2) (by omega) (by omega) (by omega) (hy.mono s2) ho1 hG hlen hin (Cells.mono htr s2) hv
  have s3 := s2.trans sub3
  have eh := hoursOf_c (n := n) (h := g3) (by omega) (by omega) (hy.mono s3) ho1 hG hv
  rw [← mh1] at eh
  have r3 := r2.mono sub3
  have q3 : g3.get g1.next = some (.row [.int .i64 0, .int .i64 0] true 0) := sub3 _ _ _ _ trivial hx2.get
  simp only [rn0, rn1, rn2, rn3, rn4, rn5, rn6, rn7, rn8, if_true, if_false, Nat.le_refl, true_and, and_true, decide_true, decide_false, Bool.not_true, Bool.not_false, reduceIte, Nat.reduceEqDiff, Nat.reduceAdd, Nat.reduceMul, Nat.reduceSub, Nat.reduceLeDiff, Nat.reduceLT, r2.whole (n := 8) rfl, ek, r3.whole (n := 8) rfl, eh]
  refine W_loop (hoursN S v) (fun k f g ms => ((∀ i, i ≠ g1.next → g.get i = g3.get i) ∧ g.next = g3.next ∧ g.floor = g3.floor ∧ g.get g1.next = some (.row [.int .i64 (gLo (S.vb v) (gI S v L k)), .int .i64 (gHi (S.vb v) (gI S v L k))] true 0)) ∧ ms = [] ∧ f 1 = .int .i64 (v : Int) ∧ f 2 = .pointer (some ⟨h.next, 0, none⟩) ∧ f 4 = .pointer (some ⟨g1.next, 0, none⟩) ∧ f 5 = .bool (decide (gI S v L k ≠ [])) ∧ f 6 = .map (some r) ∧ f 14 = .int .i64 (hoursN S v : Int) ∧ f 15 = .int .i64 (k : Int)) (by simp; omega) ?_ ?_ ?_
  · have e0 : gI S v L 0 = [] := rfl
    have d0 : decide ((([] : List Int)) ≠ []) = false := rfl
    rw [e0]
    simp only [rn0, rn1, rn2, rn3, rn4, rn5, rn6, rn7, rn8, if_true, if_false, Nat.le_refl, true_and, and_true, decide_true, decide_false, Bool.not_true, Bool.not_false, reduceIte, Nat.reduceEqDiff, Nat.reduceAdd, Nat.reduceMul, Nat.reduceSub, Nat.reduceLeDiff, Nat.reduceLT, gLo_nil, gHi_nil, d0]
    first | exact ⟨⟨fun i _ => trivial, q3⟩, rfl⟩ | exact ⟨⟨fun i _ => rfl, rfl, rfl, q3⟩, rfl⟩ | exact ⟨⟨fun i _ => trivial, trivial, trivial, q3⟩, rfl⟩
  · rintro k f g ms hk ⟨⟨go, gn, gf, gr⟩, rfl, p1, p2, p4, p5, p6, p14, p15⟩
    have hk' : (k : Int) < (hoursN S v : Int) := by omega
    have hw : wrapF .i64 ((k : Int) + 1) = ((k + 1 : Nat) : Int) := by rw [wrap_in (by omega) (by omega)]; rfl
    have hwb : wrapF .i64 (S.vb v + (k : Int)) = S.vb v + (k : Int) := wrap_in (by omega) (by omega)
    have sg : Sub All h g := fun i cs w gr' t hg => by rw [go i (by have := AHeap.lt_of_get hg; omega)]; exact s3 _ _ _ _ t hg
    have hyg := hy.mono sg
    have htg : TruthsR g S tv L := Cells.mono htr sg
    have rg : Row g h.next (wkL S wv vv sv tv) := by
      obtain ⟨w, gr', e⟩ := r3
      exact ⟨w, gr', by rw [go _ (by omega)]; exact e⟩
    have mg : MapF g r key3 (cntK S v L L.length 0) := hm3.keep (go _ (by omega))
    have ev := verdict_c (n := n) (h := g) (by omega) (by omega) hyg ho1 hG htg mg (hour_at hG hv hk)
    by_cases c : verdS S v (S.vb v + (k : Int)) 1 L = 1
    · have eg : gI S v L (k + 1) = gI S v L k ++ [(k : Int)] := pick_yes c
      have hne : decide (gI S v L (k + 1) ≠ []) = true := decide_eq_true (by rw [eg]; simp)
      by_cases c0 : gI S v L k = []
      · have d0 : decide (gI S v L k ≠ []) = false := decide_eq_false (by simpa using c0)
        rw [d0] at p5
        have e1 : gLo (S.vb v) (gI S v L (k + 1)) = S.vb v + (k : Int) := by rw [eg, c0]; rfl
        have e2 : gHi (S.vb v) (gI S v L (k + 1)) = S.vb v + (k : Int) := by rw [eg, gHi_app]
        simp only [rn0, rn1, rn2, rn3, rn4, rn5, rn6, rn7, rn8, if_true, if_false, Nat.le_refl, true_and, and_true, decide_true, decide_false, Bool.not_true, Bool.not_false, reduceIte, Nat.reduceEqDiff, Nat.reduceAdd, Nat.reduceMul, Nat.reduceSub, Nat.reduceLeDiff, Nat.reduceLT, p1, p2, p4, p5, p6, p14, p15, hk', rg.whole (n := 8) rfl, rg.ld, wkg, Nat.zero_add, Nat.add_zero, Cells.idx hyg.v hv, Cells.fld hyg.v hv, begin_ld hyg hv, hwb, ev, c]
        refine step_store (b := g1.next) (off := 0) (vs := [.int .i64 (S.vb v + (k : Int))]) rfl gr (by omega) (by omega) rfl rfl rfl (by simp) fun g4 hs4 => ?_
        have n4 := hs4.next
        have f4 := hs4.floor
        simp only [rn0, rn1, rn2, rn3, rn4, rn5, rn6, rn7, rn8, if_true, if_false, Nat.le_refl, true_and, and_true, decide_true, decide_false, Bool.not_true, Bool.not_false, reduceIte, Nat.reduceEqDiff, Nat.reduceAdd, Nat.reduceMul, Nat.reduceSub, Nat.reduceLeDiff, Nat.reduceLT, p1, p2, p4, p5, p6, p14, p15]
        refine step_store (b := g1.next) (off := 1) (vs := [.int .i64 (S.vb v + (k : Int))]) rfl hs4.get (by omega) (by omega) rfl rfl rfl (by simp [splice]) fun g5 hs5 => ?_
        have n5 := hs5.next
        have f5 := hs5.floor
        simp only [rn0, rn1, rn2, rn3, rn4, rn5, rn6, rn7, rn8, if_true, if_false, Nat.le_refl, true_and, and_true, decide_true, decide_false, Bool.not_true, Bool.not_false, reduceIte, Nat.reduceEqDiff, Nat.reduceAdd, Nat.reduceMul, Nat.reduceSub, Nat.reduceLeDiff, Nat.reduceLT, p1, p2, p4, p5, p6, p14, p15, hw, hne]
        rw [e1, e2]
        exact ⟨fun i hi => by rw [hs5.old i hi, hs4.old i hi, go i hi], by omega, by omega, hs5.get⟩
      · have d0 : decide (gI S v L k ≠ []) = true := decide_eq_true c0
        rw [d0] at p5
        have e1 : gLo (S.vb v) (gI S v L (k + 1)) = gLo (S.vb v) (gI S v L k) := by rw [eg, gLo_app c0]
        have e2 : gHi (S.vb v) (gI S v L (k + 1)) = S.vb v + (k : Int) := by rw [eg, gHi_app]
        simp only [rn0, rn1, rn2, rn3, rn4, rn5, rn6, rn7, rn8, if_true, if_false, Nat.le_refl, true_and, and_true, decide_true, decide_false, Bool.not_true, Bool.not_false, reduceIte, Nat.reduceEqDiff, Nat.reduceAdd, Nat.reduceMul, Nat.reduceSub, Nat.reduceLeDiff, Nat.reduceLT, p1, p2, p4, p5, p6, p14, p15, hk', rg.whole (n := 8) rfl, rg.ld, wkg, Nat.zero_add, Nat.add_zero, Cells.idx hyg.v hv, Cells.fld hyg.v hv, begin_ld hyg hv, hwb, ev, c]
        refine step_store (b := g1.next) (off := 1) (vs := [.int .i64 (S.vb v + (k : Int))]) rfl gr (by omega) (by omega) rfl rfl rfl (by simp) fun g5 hs5 => ?_
        have n5 := hs5.next
        have f5 := hs5.floor
        simp only [rn0, rn1, rn2, rn3, rn4, rn5, rn6, rn7, rn8, if_true, if_false, Nat.le_refl, true_and, and_true, decide_true, decide_false, Bool.not_true, Bool.not_false, reduceIte, Nat.reduceEqDiff, Nat.reduceAdd, Nat.reduceMul, Nat.reduceSub, Nat.reduceLeDiff, Nat.reduceLT, p1, p2, p4, p5, p6, p14, p15, hw, hne]
        rw [e1, e2]
        exact ⟨fun i hi => by rw [hs5.old i hi, go i hi], by omega, by omega, hs5.get⟩
    · have eg : gI S v L (k + 1) = gI S v L k := pick_no c
      simp only [rn0, rn1, rn2, rn3, rn4, rn5, rn6, rn7, rn8, if_true, if_false, Nat.le_refl, true_and, and_true, decide_true, decide_false, Bool.not_true, Bool.not_false, reduceIte, Nat.reduceEqDiff, Nat.reduceAdd, Nat.reduceMul, Nat.reduceSub, Nat.reduceLeDiff, Nat.reduceLT, p1, p2, p4, p5, p6, p14, p15, hk', rg.whole (n := 8) rfl, rg.ld, wkg, Nat.zero_add, Nat.add_zero, Cells.idx hyg.v hv, Cells.fld hyg.v hv, begin_ld hyg hv, hwb, ev, c, hw]
      rw [eg]
      first | exact ⟨⟨go, gn, gf, gr⟩, rfl⟩ | exact ⟨go, gn, gf, gr⟩
  · rintro f g ms ⟨⟨go, gn, gf, gr⟩, rfl, p1, p2, p4, p5, p6, p14, p15⟩
    have rt : Row g g1.next _ := ⟨_, _, gr⟩
    simp only [rn0, rn1, rn2, rn3, rn4, rn5, rn6, rn7, rn8, if_true, if_false, Nat.le_refl, true_and, and_true, decide_true, decide_false, Bool.not_true, Bool.not_false, reduceIte, Nat.reduceEqDiff, Nat.reduceAdd, Nat.reduceMul, Nat.reduceSub, Nat.reduceLeDiff, Nat.reduceLT, p1, p2, p4, p5, p6, p14, p15, Int.lt_irrefl, rt.whole (n := 2) rfl]
    refine step_store (b := g1.next) (off := 0) (vs := [.int .i64 (gLo (S.vb v) (gI S v L (hoursN S v))), .int .i64 (gHi (S.vb v) (gI S v L (hoursN S v)))]) rfl gr (by omega) (by omega) rfl rfl rfl (by simp) fun g6 hs6 => ?_
    rw [splice_all (by rfl)] at hs6
    simp only [rn0, rn1, rn2, rn3, rn4, rn5, rn6, rn7, rn8, if_true, if_false, Nat.le_refl, true_and, and_true, decide_true, decide_false, Bool.not_true, Bool.not_false, reduceIte, Nat.reduceEqDiff, Nat.reduceAdd, Nat.reduceMul, Nat.reduceSub, Nat.reduceLeDiff, Nat.reduceLT, p4, p5, res_two, hs6.row.whole (n := 2) rfl]
end Go.Vm.St

namespace Go.Vm.St
open Go.Proofs Go.Vm.Vat
set_option linter.unusedSimpArgs false
set_option linter.unusedVariables false
set_option maxRecDepth 10000
variable {n : Nat} {h : AHeap}
def s4 : SCode := (.seq (.ops [⟨(some 2), none, .box (T 0)⟩, ⟨(some 4), none, .mov (.const (.bool false))⟩]) (.seq (.seq (.ops [⟨(some 11), none, .loadN 7 (T 2)⟩, ⟨(some 12), none, .call (.func 23) [(T 11)]⟩, ⟨(some 13), none, .not (T 12)⟩]) (.cond (T 13) (.seq (.ops [⟨(some 14), none, .call (.func 24) []⟩, ⟨(some 4), none, .mov (T 14)⟩]) .ret) .skip)) (.seq (.ops [⟨(some 16), none, .loadN 7 (T 2)⟩, ⟨(some 17), none, .call (.func 26) [(T 16)]⟩, ⟨(some 18), none, .mov (T 1)⟩, ⟨(some 19), none, .call (.func 35) [(T 17), (T 18)]⟩, ⟨(some 15), none, .mov (T 19)⟩, ⟨(some 20), none, .extract 0 (T 15)⟩, ⟨(some 21), none, .extract 1 (T 15)⟩, ⟨(some 5), none, .mov (T 20)⟩, ⟨(some 6), none, .mov (T 21)⟩]) (.seq (.draw [⟨.rd, ⟨(some 23), none, .loadN 7 (T 2)⟩⟩, ⟨.rd1, ⟨(some 24), none, .loadN 7 (T 2)⟩⟩, ⟨.free, ⟨(some 25), none, .mov (T 1)⟩⟩, ⟨.up, ⟨(some 26), none, .call (.func 37) [(T 24), (T 25)]⟩⟩, ⟨.any, ⟨(some 27), none, .call (.func 36) [(T 23), (T 26)]⟩⟩, ⟨.free, ⟨(some 22), none, .mov (T 27)⟩⟩, ⟨.free, ⟨(some 28), none, .extract 0 (T 22)⟩⟩, ⟨.free, ⟨(some 29), none, .extract 1 (T 22)⟩⟩, ⟨.free, ⟨(some 7), none, .mov (T 28)⟩⟩, ⟨.free, ⟨(some 8), none, .mov (T 29)⟩⟩]) (.seq (.seq (.ops [⟨(some 30), none, .mov (T 8)⟩, ⟨(some 31), none, .int2 .neq (T 30) (.const (.int .i64 (0)))⟩]) (.cond (T 31) (.seq (.ops [⟨(some 32), none, .mov (T 6)⟩, ⟨(some 33), none, .mov (T 8)⟩, ⟨(some 34), none, .int2 .eql (T 32) (T 33)⟩, ⟨(some 35), none, .mov (T 34)⟩, ⟨(some 36), (some (35, true)), .mov (T 5)⟩, ⟨(some 37), (some (35, true)), .len (T 36)⟩, ⟨(some 38), (some (35, true)), .int2 .eql (T 37) (.const (.int .i64 (0)))⟩, ⟨(some 39), none, .pick (T 35) (T 38) (.const (.bool false))⟩, ⟨(some 40), none, .mov (T 39)⟩, ⟨(some 41), (some (40, true)), .call (.func 24) []⟩, ⟨(some 42), none, .pick (T 40) (T 41) (.const (.bool false))⟩, ⟨(some 4), none, .mov (T 42)⟩]) .ret) .skip)) (.seq (.ops [⟨(some 43), none, .fieldAddr 5 (T 2)⟩, ⟨(some 44), none, .load1 (T 43)⟩, ⟨(some 45), none, .mov (T 1)⟩, ⟨(some 46), none, .idxSl 4 (T 44) (T 45)⟩, ⟨(some 47), none, .fieldAddr 0 (T 46)⟩, ⟨(some 48), none, .load1 (T 47)⟩, ⟨(some 9), none, .mov (T 48)⟩]) (.seq (.seq (.ops [⟨(some 49), none, .mov (T 6)⟩, ⟨(some 50), none, .int2 .neq (T 49) (.const (.int .i64 (0)))⟩, ⟨(some 51), none, .mov (T 50)⟩, ⟨(some 52), (some (51, false)), .mov (T 5)⟩, ⟨(some 53), (some (51, false)), .len (T 52)⟩, ⟨(some 54), (some (51, false)), .fieldAddr 0 (T 2)⟩, ⟨(some 55), (some (51, false)), .load1 (T 54)⟩, ⟨(some 56), (some (51, false)), .mov (T 9)⟩, ⟨(some 57), (some (51, false)), .int2 .sub (T 55) (T 56)⟩, ⟨(some 58), (some (51, false)), .int2 .add (T 57) (.const (.int .i64 (1)))⟩, ⟨(some 59), (some (51, false)), .int2 .neq (T 53) (T 58)⟩, ⟨(some 60), none, .pick (T 51) (.const (.bool true)) (T 59)⟩]) (.cond (T 60) (.seq (.ops [⟨(some 4), none, .mov (.const (.bool false))⟩]) .ret) .skip)) (.seq (.seq (.ops [⟨(some 10), none, .mov (.const (.int .i64 (0)))⟩]) (.block 0 (.loop (.seq (.seq (.ops [⟨(some 61), none, .mov (T 10)⟩, ⟨(some 62), none, .mov (T 5)⟩, ⟨(some 63), none, .len (T 62)⟩, ⟨(some 64), none, .int2 .lss (T 61) (T 63)⟩]) (.cond (T 64) .skip (.exit 0))) (.seq (.block 1 (.seq (.draw [⟨.free, ⟨(some 67), none, .mov (T 5)⟩⟩, ⟨.free, ⟨(some 68), none, .mov (T 10)⟩⟩, ⟨.free, ⟨(some 69), none, .idxSl 2 (T 67) (T 68)⟩⟩, ⟨.rd, ⟨(some 70), none, .loadN 2 (T 69)⟩⟩, ⟨.rd1, ⟨(some 71), none, .loadN 7 (T 2)⟩⟩, ⟨.free, ⟨(some 72), none, .mov (T 7)⟩⟩, ⟨.free, ⟨(some 73), none, .mov (T 1)⟩⟩, ⟨.free, ⟨(some 74), none, .mov (T 9)⟩⟩, ⟨.free, ⟨(some 75), none, .mov (T 10)⟩⟩, ⟨.free, ⟨(some 76), none, .int2 .add (T 74) (T 75)⟩⟩, ⟨.up, ⟨(some 77), none, .call (.func 39) [(T 71), (T 72), (T 73), (T 76)]⟩⟩, ⟨.up, ⟨(some 78), none, .call (.func 38) [(T 77)]⟩⟩, ⟨.free, ⟨(some 79), none, .bin .neq (.binOp .neq 39 (T 70) (T 78) 39) 4 (T 70) (T 78)⟩⟩]) (.cond (T 79) (.seq (.ops [⟨(some 4), none, .mov (.const (.bool false))⟩]) .ret) .skip))) (.ops [⟨(some 65), none, .mov (T 10)⟩, ⟨(some 66), none, .int2 .add (T 65) (.const (.int .i64 (1)))⟩, ⟨(some 10), none, .mov (T 66)⟩])))))) (.seq (.ops [⟨(some 80), none, .call (.func 24) []⟩, ⟨(some 4), none, .mov (T 80)⟩]) .ret)))))))))
end Go.Vm.St

namespace Go.Vm.St
open Go.Proofs Go.Vm.Vat
set_option linter.unusedSimpArgs false
set_option linter.unusedVariables false
set_option maxRecDepth 10000
variable {n : Nat} {h : AHeap}
end Go.Vm.St

namespace Go.Vm.St
open Go.Proofs Go.Vm.Vat
set_option linter.unusedSimpArgs false
set_option linter.unusedVariables false
set_option maxRecDepth 10000
variable {n : Nat} {h : AHeap}
end Go.Vm.St

namespace Go.Vm.St
open Go.Proofs Go.Vm.Vat
set_option linter.unusedSimpArgs false
set_option linter.unusedVariables false
set_option maxRecDepth 10000
variable {n : Nat} {h : AHeap}
noncomputable def gAll (S : MS) (v : Nat) : List Int := gI S v (truthsS S) (hoursN S v)
/-! ### The reference's good hours -/
def s45 : SCode := (.seq (.ops [⟨(some 3), none, .box (T 0)⟩, ⟨(some 6), none, .mov (.const (.slice none 0 0))⟩]) (.seq (.ops [⟨(some 7), none, .mov (.const (.slice none 0 0))⟩]) (.seq (.seq (.ops [⟨(some 9), none, .fieldAddr 5 (T 3)⟩, ⟨(some 10), none, .load1 (T 9)⟩, ⟨(some 11), none, .mov (T 2)⟩, ⟨(some 12), none, .idxSl 4 (T 10) (T 11)⟩, ⟨(some 13), none, .fieldAddr 0 (T 12)⟩, ⟨(some 14), none, .load1 (T 13)⟩, ⟨(some 8), none, .mov (T 14)⟩]) (.block 0 (.loop (.seq (.seq (.ops [⟨(some 15), none, .mov (T 8)⟩, ⟨(some 16), none, .fieldAddr 0 (T 3)⟩, ⟨(some 17), none, .load1 (T 16)⟩, ⟨(some 18), none, .int2 .leq (T 15) (T 17)⟩]) (.cond (T 18) .skip (.exit 0))) (.seq (.block 1 (.seq (.ops [⟨(some 21), none, .loadN 7 (T 3)⟩, ⟨(some 22), none, .mov (T 1)⟩, ⟨(some 23), none, .mov (T 2)⟩, ⟨(some 24), none, .mov (T 8)⟩, ⟨(some 25), none, .call (.func 43) [(T 21), (T 22), (T 23), (T 24)]⟩, ⟨(some 26), none, .int2 .eql (T 25) (.const (.int .i64 (1)))⟩]) (.cond (T 26) (.ops [⟨(some 27), none, .mov (T 7)⟩, ⟨(some 28), none, .mov (T 8)⟩, ⟨(some 29), none, .bslice 1 1 [(.int .i64 (0))] [0] [(T 28)]⟩, ⟨(some 30), none, .append 1 8 (T 27) (T 29)⟩, ⟨(some 7), none, .mov (T 30)⟩]) .skip))) (.ops [⟨(some 19), none, .mov (T 8)⟩, ⟨(some 20), none, .int2 .add (T 19) (.const (.int .i64 (1)))⟩, ⟨(some 8), none, .mov (T 20)⟩])))))) (.seq (.ops [⟨(some 31), none, .mov (T 7)⟩, ⟨(some 6), none, .mov (T 31)⟩]) .ret))))
end Go.Vm.St

namespace Go.Vm.St
open Go.Proofs Go.Vm.Vat
set_option linter.unusedSimpArgs false
set_option linter.unusedVariables false
set_option maxRecDepth 10000
variable {n : Nat} {h : AHeap}
def s5 : SCode := (.seq (.ops [⟨(some 3), none, .box (T 0)⟩, ⟨(some 6), none, .mov (.const (.bool false))⟩]) (.seq (.seq (.ops [⟨(some 13), none, .loadN 7 (T 3)⟩, ⟨(some 14), none, .call (.func 23) [(T 13)]⟩, ⟨(some 15), none, .not (T 14)⟩]) (.cond (T 15) (.seq (.ops [⟨(some 16), none, .call (.func 24) []⟩, ⟨(some 6), none, .mov (T 16)⟩]) .ret) .skip)) (.seq (.ops [⟨(some 18), none, .loadN 7 (T 3)⟩, ⟨(some 19), none, .call (.func 26) [(T 18)]⟩, ⟨(some 20), none, .mov (T 1)⟩, ⟨(some 21), none, .mov (T 2)⟩, ⟨(some 22), none, .call (.func 40) [(T 19), (T 20), (T 21)]⟩, ⟨(some 17), none, .mov (T 22)⟩, ⟨(some 23), none, .extract 0 (T 17)⟩, ⟨(some 24), none, .extract 1 (T 17)⟩, ⟨(some 7), none, .mov (T 23)⟩, ⟨(some 8), none, .mov (T 24)⟩]) (.seq (.ops [⟨(some 25), none, .loadN 7 (T 3)⟩, ⟨(some 26), none, .call (.func 26) [(T 25)]⟩, ⟨(some 27), none, .mov (T 1)⟩, ⟨(some 28), none, .mov (T 2)⟩, ⟨(some 29), none, .call (.func 41) [(T 26), (T 27), (T 28)]⟩, ⟨(some 9), none, .mov (T 29)⟩]) (.seq (.draw [⟨.rd, ⟨(some 31), none, .loadN 7 (T 3)⟩⟩, ⟨.rd1, ⟨(some 32), none, .loadN 7 (T 3)⟩⟩, ⟨.free, ⟨(some 33), none, .mov (T 1)⟩⟩, ⟨.up, ⟨(some 34), none, .call (.func 37) [(T 32), (T 33)]⟩⟩, ⟨.free, ⟨(some 35), none, .mov (T 34)⟩⟩, ⟨.rd1, ⟨(some 36), (some (35, true)), .loadN 7 (T 3)⟩⟩, ⟨.up, ⟨(some 37), (some (35, true)), .call (.func 29) [(T 36)]⟩⟩, ⟨.free, ⟨(some 38), (some (35, true)), .int2 .eql (T 37) (.const (.int .i64 (0)))⟩⟩, ⟨.free, ⟨(some 39), none, .pick (T 35) (T 38) (.const (.bool false))⟩⟩, ⟨.free, ⟨(some 40), none, .mov (T 39)⟩⟩, ⟨.free, ⟨(some 41), (some (40, true)), .mov (T 2)⟩⟩, ⟨.free, ⟨(some 42), (some (40, true)), .fieldAddr 5 (T 3)⟩⟩, ⟨.rd1, ⟨(some 43), (some (40, true)), .load1 (T 42)⟩⟩, ⟨.free, ⟨(some 44), (some (40, true)), .mov (T 1)⟩⟩, ⟨.free, ⟨(some 45), (some (40, true)), .idxSl 4 (T 43) (T 44)⟩⟩, ⟨.free, ⟨(some 46), (some (40, true)), .fieldAddr 0 (T 45)⟩⟩, ⟨.rd1, ⟨(some 47), (some (40, true)), .load1 (T 46)⟩⟩, ⟨.free, ⟨(some 48), (some (40, true)), .fieldAddr 0 (T 3)⟩⟩, ⟨.rd1, ⟨(some 49), (some (40, true)), .load1 (T 48)⟩⟩, ⟨.up, ⟨(some 50), (some (40, true)), .call (.func 42) [(T 41), (T 47), (T 49)]⟩⟩, ⟨.free, ⟨(some 51), none, .pick (T 40) (T 50) (.const (.bool false))⟩⟩, ⟨.any, ⟨(some 52), none, .call (.func 36) [(T 31), (T 51)]⟩⟩, ⟨.free, ⟨(some 30), none, .mov (T 52)⟩⟩, ⟨.free, ⟨(some 53), none, .extract 0 (T 30)⟩⟩, ⟨.free, ⟨(some 54), none, .extract 1 (T 30)⟩⟩, ⟨.free, ⟨(some 10), none, .mov (T 53)⟩⟩, ⟨.free, ⟨(some 11), none, .mov (T 54)⟩⟩]) (.seq (.seq (.ops [⟨(some 55), none, .mov (T 11)⟩, ⟨(some 56), none, .int2 .neq (T 55) (.const (.int .i64 (0)))⟩]) (.cond (T 56) (.seq (.ops [⟨(some 57), none, .mov (T 8)⟩, ⟨(some 58), none, .mov (T 11)⟩, ⟨(some 59), none, .int2 .eql (T 57) (T 58)⟩, ⟨(some 60), none, .mov (T 59)⟩, ⟨(some 61), (some (60, true)), .mov (T 7)⟩, ⟨(some 62), (some (60, true)), .int2 .eql (T 61) (.const (.int .i64 (0)))⟩, ⟨(some 63), none, .pick (T 60) (T 62) (.const (.bool false))⟩, ⟨(some 64), none, .mov (T 63)⟩, ⟨(some 65), (some (64, true)), .mov (T 9)⟩, ⟨(some 66), (some (64, true)), .not (T 65)⟩, ⟨(some 67), none, .pick (T 64) (T 66) (.const (.bool false))⟩, ⟨(some 68), none, .mov (T 67)⟩, ⟨(some 69), (some (68, true)), .call (.func 24) []⟩, ⟨(some 70), none, .pick (T 68) (T 69) (.const (.bool false))⟩, ⟨(some 6), none, .mov (T 70)⟩]) .ret) .skip)) (.seq (.ops [⟨(some 71), none, .loadN 7 (T 3)⟩, ⟨(some 72), none, .mov (T 10)⟩, ⟨(some 73), none, .mov (T 1)⟩, ⟨(some 74), none, .mov (T 2)⟩, ⟨(some 75), none, .call (.func 43) [(T 71), (T 72), (T 73), (T 74)]⟩, ⟨(some 12), none, .mov (T 75)⟩]) (.seq (.ops [⟨(some 76), none, .mov (T 8)⟩, ⟨(some 77), none, .int2 .eql (T 76) (.const (.int .i64 (0)))⟩, ⟨(some 78), none, .mov (T 77)⟩, ⟨(some 79), (some (78, true)), .mov (T 7)⟩, ⟨(some 80), (some (78, true)), .mov (T 12)⟩, ⟨(some 81), (some (78, true)), .int2 .eql (T 79) (T 80)⟩, ⟨(some 82), none, .pick (T 78) (T 81) (.const (.bool false))⟩, ⟨(some 83), none, .mov (T 82)⟩, ⟨(some 84), (some (83, true)), .mov (T 9)⟩, ⟨(some 85), (some (83, true)), .mov (T 12)⟩, ⟨(some 86), (some (83, true)), .int2 .eql (T 85) (.const (.int .i64 (1)))⟩, ⟨(some 87), (some (83, true)), .bin .eql (.binOp .eql 4 (T 84) (T 86) 4) 4 (T 84) (T 86)⟩, ⟨(some 88), none, .pick (T 83) (T 87) (.const (.bool false))⟩, ⟨(some 89), none, .mov (T 88)⟩, ⟨(some 90), (some (89, true)), .call (.func 24) []⟩, ⟨(some 91), none, .pick (T 89) (T 90) (.const (.bool false))⟩, ⟨(some 6), none, .mov (T 91)⟩]) .ret))))))))
end Go.Vm.St

namespace Go.Vm
variable {P : Program} {N : Nat} {f : Fr} {h : AHeap} {ty t u e : TypeId} {x y : Operand}
end Go.Vm
namespace Go.Vm.St
open Go.Proofs Go.Vm.Vat
set_option linter.unusedSimpArgs false
set_option linter.unusedVariables false
set_option maxRecDepth 10000
variable {n : Nat} {h : AHeap}
end Go.Vm.St

namespace Go.Vm.St
open Go.Proofs Go.Vm.Vat
set_option linter.unusedSimpArgs false
set_option linter.unusedVariables false
set_option maxRecDepth 10000
variable {n : Nat} {h : AHeap}
/-! ### The first vat that has no good hour -/
open Classical in
/-- the error of a question without a vat -/
noncomputable def errT (S : MS) : Int := if faultS S ≠ 0 then faultS S else if truthsS S = [] then 11 else 0
theorem errT_1 {S : MS} (hf : faultS S ≠ 0) : errT S = faultS S := if_pos hf
theorem errT_2 {S : MS} (hf : faultS S = 0) (hz : truthsS S = []) : errT S = 11 := by unfold errT; rw [if_neg (by simpa using hf), if_pos hz]
theorem errT_3 {S : MS} (hf : faultS S = 0) (hz : truthsS S ≠ []) : errT S = 0 := by unfold errT; rw [if_neg (by simpa using hf), if_neg hz]
theorem errT_vals (S : MS) : errT S = 0 ∨ errT S = 1 ∨ errT S = 3 ∨ errT S = 11 := by
  by_cases hf : faultS S = 0
  · by_cases hz : truthsS S = []
    · rw [errT_2 hf hz]; omega
    · rw [errT_3 hf hz]; omega
  · rw [errT_1 hf]
    have := fault_vals S
    omega
noncomputable def nilF (S : MS) : Nat → Option Nat
  | 0 => none
  | k + 1 => match nilF S k with
    | some v => some v
    | none => if gAll S k = [] then some k else none
theorem nilF_yes {S : MS} {k : Nat} (h0 : nilF S k = none) (h1 : gAll S k = []) : nilF S (k + 1) = some k := by simp only [nilF, h0]; rw [if_pos h1]
theorem nilF_no {S : MS} {k : Nat} (h0 : nilF S k = none) (h1 : gAll S k ≠ []) : nilF S (k + 1) = none := by simp only [nilF, h0]; rw [if_neg h1]
theorem nilF_up {S : MS} {k v : Nat} (h0 : nilF S k = some v) : ∀ d, nilF S (k + d) = some v
  | 0 => h0
  | d + 1 => by
    have := nilF_up h0 d
    show nilF S (k + d + 1) = some v
    simp only [nilF, this]
theorem nilF_at {S : MS} {k m : Nat} (hk : k < m) (h0 : nilF S k = none) (h1 : gAll S k = []) : nilF S m = some k := by
  have := nilF_up (nilF_yes h0 h1) (m - (k + 1))
  rw [show k + 1 + (m - (k + 1)) = m by omega] at this
  exact this
def optI : Option Nat → Int → Int
  | some v, _ => (v : Int)
  | none, d => d
/-- what 'Stuck' answers -/
noncomputable def stuckV (S : MS) : Int := if errT S = 0 then optI (nilF S S.nv) 0 else 0
noncomputable def stuckE (S : MS) : Int := if errT S = 0 then (if nilF S S.nv = none then 7 else 0) else errT S
def s47 : SCode := (.seq (.ops [⟨(some 1), none, .box (T 0)⟩, ⟨(some 2), none, .mov (.const (.int .i64 (0)))⟩, ⟨(some 3), none, .mov (.const (.int .i64 (0)))⟩]) (.seq (.ops [⟨(some 10), none, .loadN 7 (T 1)⟩, ⟨(some 11), none, .call (.func 94) [(T 10)]⟩, ⟨(some 9), none, .mov (T 11)⟩, ⟨(some 12), none, .extract 0 (T 9)⟩, ⟨(some 13), none, .extract 1 (T 9)⟩, ⟨(some 4), none, .alloc [(.int .i64 (0)), (.int .i64 (0)), (.slice none 0 0), (.int .i64 (0)), (.int .i64 (0)), (.slice none 0 0), (.slice none 0 0), (.slice none 0 0)]⟩, ⟨none, none, .store 8 (T 4) (T 12)⟩, ⟨(some 5), none, .mov (T 13)⟩]) (.seq (.seq (.ops [⟨(some 14), none, .mov (T 5)⟩, ⟨(some 15), none, .int2 .neq (T 14) (.const (.int .i64 (0)))⟩]) (.cond (T 15) (.seq (.ops [⟨(some 16), none, .mov (T 5)⟩, ⟨(some 2), none, .mov (.const (.int .i64 (0)))⟩, ⟨(some 3), none, .mov (T 16)⟩]) .ret) .skip)) (.seq (.seq (.ops [⟨(some 17), none, .fieldAddr 0 (T 4)⟩, ⟨(some 18), none, .fieldAddr 5 (T 17)⟩, ⟨(some 19), none, .load1 (T 18)⟩, ⟨(some 20), none, .len (T 19)⟩, ⟨(some 21), none, .mov (.const (.int .i64 (0)))⟩]) (.block 0 (.loop (.seq (.ops [⟨(some 22), none, .int2 .lss (T 21) (T 20)⟩]) (.seq (.cond (T 22) .skip (.exit 0)) (.seq (.block 1 (.seq (.ops [⟨(some 23), none, .mov (T 21)⟩, ⟨(some 6), none, .mov (T 23)⟩]) (.seq (.ops [⟨(some 25), none, .loadN 8 (T 4)⟩, ⟨(some 26), none, .mov (T 6)⟩, ⟨(some 27), none, .call (.func 93) [(T 25), (T 26)]⟩, ⟨(some 24), none, .mov (T 27)⟩, ⟨(some 28), none, .extract 0 (T 24)⟩, ⟨(some 29), none, .extract 1 (T 24)⟩, ⟨(some 7), none, .alloc [(.int .i64 (0)), (.int .i64 (0))]⟩, ⟨none, none, .store 2 (T 7) (T 28)⟩, ⟨(some 8), none, .mov (T 29)⟩]) (.seq (.ops [⟨(some 30), none, .mov (T 8)⟩, ⟨(some 31), none, .not (T 30)⟩]) (.cond (T 31) (.seq (.ops [⟨(some 32), none, .mov (T 6)⟩, ⟨(some 2), none, .mov (T 32)⟩, ⟨(some 3), none, .mov (.const (.int .i64 (0)))⟩]) .ret) .skip))))) (.ops [⟨(some 33), none, .int2 .add (T 21) (.const (.int .i64 (1)))⟩, ⟨(some 21), none, .mov (T 33)⟩]))))))) (.seq (.ops [⟨(some 2), none, .mov (.const (.int .i64 (0)))⟩, ⟨(some 3), none, .mov (.const (.int .i64 (7)))⟩]) .ret)))))
theorem fok47 : FnOk Try.prog 47 34 s47 [.tmp 2, .tmp 3] := ⟨Try.f47, _, Try.func47, rfl, Try.ntmps47, by kernel_rfl, by kernel_rfl⟩
set_option maxHeartbeats 2000000 in
theorem stuckP_c (hn : 2500 ≤ n) (hr : h.next + 1200000 < far) {wv vv sv : Value} {S : MS} (hy : SteepR h wv vv sv S) (hT : ThinS S) :
    call n (.func (.func 47) #[] #[]) [.agg ⟨stL S wv vv sv⟩] h = some (.tuple ⟨[.int .i64 (stuckV S), .int .i64 (stuckE S)]⟩, h) := by
  obtain ⟨n, rfl⟩ : ∃ p, n = p + 1 := ⟨n - 1, by omega⟩
  refine call_plain0 fok47 rfl rfl (by simp) rfl ?_
  have hy := hy.shut
  have hr : h.shutAll.next + 1200000 < far := hr
  have hfl : h.shutAll.floor ≤ h.shutAll.next := Nat.le_refl _
  generalize h.shutAll = h at hy hr hfl
  simp only [s47, W_seq, W_ops]
  refine ops_box (cs := stL S wv vv sv) (by omega) rfl hy.one fun g1 hx1 => ?_
  have n1 := hx1.next
  have f1 := hx1.floor
  have w1 := hx1.row.whole (n := 7) rfl
  obtain ⟨pv, g3, eo, o3, u3, m3, f3, hp⟩ := openTrue_c (n := n) (h := g1) (by omega) (by omega) (by omega) (hy.mono hx1.sub) hT
  have sub3 : Sub All h g3 := hx1.sub.trans (AHeap.subOf o3)
  have z110 : ¬ (11 : Int) = 0 := by decide
  rcases hp with ⟨hf, rfl⟩ | ⟨hf, hz, rfl⟩ | ⟨hf, hz, tv, rfl, hone, htr, hlong⟩
  · have e0 : errT S = faultS S := errT_1 hf
    have q1 : stuckV S = 0 := if_neg (by rw [e0]; exact hf)
    have q2 : stuckE S = faultS S := by unfold stuckE; rw [if_neg (by rw [e0]; exact hf), e0]
    rw [q1, q2]
    simp only [rn0, rn1, rn2, rn3, rn4, rn5, rn6, rn7, rn8, if_true, if_false, Nat.le_refl, true_and, and_true, decide_true, decide_false, Bool.not_true, Bool.not_false, reduceIte, Nat.reduceEqDiff, Nat.reduceAdd, Nat.reduceMul, Nat.reduceSub, Nat.reduceLeDiff, Nat.reduceLT, w1, eo, ex0, ex1]
    refine step_new (vs := wk0) (by omega) (by omega) rfl (by simp only [rn0, rn1, rn2, rn3, rn4, rn5, rn6, rn7, rn8, if_true, if_false, Nat.le_refl, true_and, and_true, decide_true, decide_false, Bool.not_true, Bool.not_false, reduceIte, Nat.reduceEqDiff, Nat.reduceAdd, Nat.reduceMul, Nat.reduceSub, Nat.reduceLeDiff, Nat.reduceLT]; rfl) rfl rfl rfl fun g4 hx4 => ?_
    simp only [rn0, rn1, rn2, rn3, rn4, rn5, rn6, rn7, rn8, if_true, if_false, Nat.le_refl, true_and, and_true, decide_true, decide_false, Bool.not_true, Bool.not_false, reduceIte, Nat.reduceEqDiff, Nat.reduceAdd, Nat.reduceMul, Nat.reduceSub, Nat.reduceLeDiff, Nat.reduceLT, hf, ret_tt]
  · have e0 : errT S = 11 := errT_2 hf hz
    have q1 : stuckV S = 0 := if_neg (by rw [e0]; exact z110)
    have q2 : stuckE S = 11 := by unfold stuckE; rw [if_neg (by rw [e0]; exact z110), e0]
    rw [q1, q2]
    simp only [rn0, rn1, rn2, rn3, rn4, rn5, rn6, rn7, rn8, if_true, if_false, Nat.le_refl, true_and, and_true, decide_true, decide_false, Bool.not_true, Bool.not_false, reduceIte, Nat.reduceEqDiff, Nat.reduceAdd, Nat.reduceMul, Nat.reduceSub, Nat.reduceLeDiff, Nat.reduceLT, w1, eo, ex0, ex1]
    refine step_new (vs := wk0) (by omega) (by omega) rfl (by simp only [rn0, rn1, rn2, rn3, rn4, rn5, rn6, rn7, rn8, if_true, if_false, Nat.le_refl, true_and, and_true, decide_true, decide_false, Bool.not_true, Bool.not_false, reduceIte, Nat.reduceEqDiff, Nat.reduceAdd, Nat.reduceMul, Nat.reduceSub, Nat.reduceLeDiff, Nat.reduceLT]; rfl) rfl rfl rfl fun g4 hx4 => ?_
    simp only [rn0, rn1, rn2, rn3, rn4, rn5, rn6, rn7, rn8, if_true, if_false, Nat.le_refl, true_and, and_true, decide_true, decide_false, Bool.not_true, Bool.not_false, reduceIte, Nat.reduceEqDiff, Nat.reduceAdd, Nat.reduceMul, Nat.reduceSub, Nat.reduceLeDiff, Nat.reduceLT, z110, ret_tt]
  · have hG := good_of hf
    have e0 : errT S = 0 := errT_3 hf hz
    have q1 : stuckV S = optI (nilF S S.nv) 0 := if_pos e0
    have q2 : stuckE S = if nilF S S.nv = none then 7 else 0 := if_pos e0
    have how := wk_one hy (tv := tv) hone
    obtain ⟨_, _, _, _, z4, _⟩ := hG.sizes
    simp only [rn0, rn1, rn2, rn3, rn4, rn5, rn6, rn7, rn8, if_true, if_false, Nat.le_refl, true_and, and_true, decide_true, decide_false, Bool.not_true, Bool.not_false, reduceIte, Nat.reduceEqDiff, Nat.reduceAdd, Nat.reduceMul, Nat.reduceSub, Nat.reduceLeDiff, Nat.reduceLT, w1, eo, ex0, ex1]
    refine step_new (vs := wkL S wv vv sv tv) (by omega) (by omega) rfl (by simp only [rn0, rn1, rn2, rn3, rn4, rn5, rn6, rn7, rn8, if_true, if_false, Nat.le_refl, true_and, and_true, decide_true, decide_false, Bool.not_true, Bool.not_false, reduceIte, Nat.reduceEqDiff, Nat.reduceAdd, Nat.reduceMul, Nat.reduceSub, Nat.reduceLeDiff, Nat.reduceLT]; rfl) how rfl rfl fun g4 hx4 => ?_
    have n4 := hx4.next
    have f4 := hx4.floor
    have sub4 := sub3.trans hx4.sub
    have htr4 : TruthsR g4 S tv (truthsS S) := Cells.mono htr hx4.sub
    have hy4 := hy.mono sub4
    simp only [rn0, rn1, rn2, rn3, rn4, rn5, rn6, rn7, rn8, if_true, if_false, Nat.le_refl, true_and, and_true, decide_true, decide_false, Bool.not_true, Bool.not_false, reduceIte, Nat.reduceEqDiff, Nat.reduceAdd, Nat.reduceMul, Nat.reduceSub, Nat.reduceLeDiff, Nat.reduceLT, hx4.row.ld, wkg, Nat.zero_add, Nat.add_zero, Cells.len hy4.v]
    refine W_loop S.nv (fun k f g ms => (Sub All g4 g ∧ g4.next ≤ g.next ∧ g.next ≤ g4.next + k ∧ g.floor = g4.floor ∧ nilF S k = none) ∧ ms = [] ∧ f 4 = .pointer (some ⟨g3.next, 0, none⟩) ∧ f 20 = .int .i64 (S.nv : Int) ∧ f 21 = .int .i64 (k : Int)) (by simp; omega) ?_ ?_ ?_
    · simp only [rn0, rn1, rn2, rn3, rn4, rn5, rn6, rn7, rn8, if_true, if_false, Nat.le_refl, true_and, and_true, decide_true, decide_false, Bool.not_true, Bool.not_false, reduceIte, Nat.reduceEqDiff, Nat.reduceAdd, Nat.reduceMul, Nat.reduceSub, Nat.reduceLeDiff, Nat.reduceLT]
      first | exact ⟨⟨by omega, rfl⟩, rfl⟩ | exact ⟨⟨Sub.refl, by omega, by omega, rfl, rfl⟩, rfl⟩ | exact ⟨⟨Nat.le_refl _, rfl⟩, rfl⟩ | exact ⟨rfl, rfl⟩ | exact rfl | trace_state
    · rintro k f g ms hk ⟨⟨sg, ug, mg, fg, hk0⟩, rfl, p4, p20, p21⟩
      have hk' : (k : Int) < (S.nv : Int) := by omega
      have hw : wrapF .i64 ((k : Int) + 1) = ((k + 1 : Nat) : Int) := by rw [wrap_in (by omega) (by omega)]; rfl
      have eg := goodHours_c (n := n) (h := g) (by omega) (by omega) (hy4.mono sg) hone hG (truths_len hG) (fun t ht => (truths_mem.1 ht).1.1) (Cells.mono htr4 sg) hk
      change call n _ _ g = some (.tuple ⟨[.agg ⟨[.int .i64 (gLo (S.vb k) (gAll S k)), .int .i64 (gHi (S.vb k) (gAll S k))]⟩, .bool (decide (gAll S k ≠ []))]⟩, g) at eg
      have r4 := hx4.row.mono sg
      simp only [rn0, rn1, rn2, rn3, rn4, rn5, rn6, rn7, rn8, if_true, if_false, Nat.le_refl, true_and, and_true, decide_true, decide_false, Bool.not_true, Bool.not_false, reduceIte, Nat.reduceEqDiff, Nat.reduceAdd, Nat.reduceMul, Nat.reduceSub, Nat.reduceLeDiff, Nat.reduceLT, p4, p20, p21, hk', r4.whole (n := 8) rfl, eg, ex0, ex1]
      refine step_new (vs := [.int .i64 (gLo (S.vb k) (gAll S k)), .int .i64 (gHi (S.vb k) (gAll S k))]) (by omega) (by omega) rfl (by simp only [rn0, rn1, rn2, rn3, rn4, rn5, rn6, rn7, rn8, if_true, if_false, Nat.le_refl, true_and, and_true, decide_true, decide_false, Bool.not_true, Bool.not_false, reduceIte, Nat.reduceEqDiff, Nat.reduceAdd, Nat.reduceMul, Nat.reduceSub, Nat.reduceLeDiff, Nat.reduceLT]; rfl) rfl rfl rfl fun g5 hx5 => ?_
      have n5 := hx5.next
      have f5 := hx5.floor
      by_cases c : gAll S k = []
      · have d0 : decide (gAll S k ≠ []) = false := decide_eq_false (by simpa using c)
        have hN := nilF_at hk hk0 c
        have q3 : optI (nilF S S.nv) 0 = (k : Int) := by rw [hN]; rfl
        have q4 : (if nilF S S.nv = none then (7 : Int) else 0) = 0 := by rw [hN]; rfl
        rw [q1, q2, q3, q4]
        simp only [rn0, rn1, rn2, rn3, rn4, rn5, rn6, rn7, rn8, if_true, if_false, Nat.le_refl, true_and, and_true, decide_true, decide_false, Bool.not_true, Bool.not_false, reduceIte, Nat.reduceEqDiff, Nat.reduceAdd, Nat.reduceMul, Nat.reduceSub, Nat.reduceLeDiff, Nat.reduceLT, d0, p4, p20, p21, ret_tt]
      · have d0 : decide (gAll S k ≠ []) = true := decide_eq_true c
        simp only [rn0, rn1, rn2, rn3, rn4, rn5, rn6, rn7, rn8, if_true, if_false, Nat.le_refl, true_and, and_true, decide_true, decide_false, Bool.not_true, Bool.not_false, reduceIte, Nat.reduceEqDiff, Nat.reduceAdd, Nat.reduceMul, Nat.reduceSub, Nat.reduceLeDiff, Nat.reduceLT, d0, p4, p20, p21, hw]
        first | exact ⟨⟨sg.trans hx5.sub, by omega, by omega, by omega, nilF_no hk0 c⟩, rfl⟩ | exact ⟨sg.trans hx5.sub, by omega, by omega, by omega, nilF_no hk0 c⟩
    · rintro f g ms ⟨⟨sg, ug, mg, fg, hk0⟩, rfl, p4, p20, p21⟩
      have q3 : optI (nilF S S.nv) 0 = 0 := by rw [hk0]; rfl
      have q4 : (if nilF S S.nv = none then (7 : Int) else 0) = 7 := if_pos hk0
      rw [q1, q2, q3, q4]
      simp only [rn0, rn1, rn2, rn3, rn4, rn5, rn6, rn7, rn8, if_true, if_false, Nat.le_refl, true_and, and_true, decide_true, decide_false, Bool.not_true, Bool.not_false, reduceIte, Nat.reduceEqDiff, Nat.reduceAdd, Nat.reduceMul, Nat.reduceSub, Nat.reduceLeDiff, Nat.reduceLT, p4, p20, p21, Int.lt_irrefl, ret_tt]
def s7 : SCode := (.seq (.ops [⟨(some 1), none, .box (T 0)⟩, ⟨(some 2), none, .mov (.const (.bool false))⟩]) (.seq (.seq (.ops [⟨(some 8), none, .loadN 7 (T 1)⟩, ⟨(some 9), none, .call (.func 23) [(T 8)]⟩, ⟨(some 10), none, .not (T 9)⟩]) (.cond (T 10) (.seq (.ops [⟨(some 11), none, .call (.func 24) []⟩, ⟨(some 2), none, .mov (T 11)⟩]) .ret) .skip)) (.seq (.ops [⟨(some 13), none, .loadN 7 (T 1)⟩, ⟨(some 14), none, .call (.func 26) [(T 13)]⟩, ⟨(some 15), none, .call (.func 47) [(T 14)]⟩, ⟨(some 12), none, .mov (T 15)⟩, ⟨(some 16), none, .extract 0 (T 12)⟩, ⟨(some 17), none, .extract 1 (T 12)⟩, ⟨(some 3), none, .mov (T 16)⟩, ⟨(some 4), none, .mov (T 17)⟩]) (.seq (.ops [⟨(some 19), none, .loadN 7 (T 1)⟩, ⟨(some 20), none, .call (.func 36) [(T 19), (.const (.bool true))]⟩, ⟨(some 18), none, .mov (T 20)⟩, ⟨(some 21), none, .extract 0 (T 18)⟩, ⟨(some 22), none, .extract 1 (T 18)⟩, ⟨(some 5), none, .mov (T 21)⟩, ⟨(some 6), none, .mov (T 22)⟩]) (.seq (.seq (.ops [⟨(some 23), none, .mov (T 6)⟩, ⟨(some 24), none, .int2 .neq (T 23) (.const (.int .i64 (0)))⟩]) (.cond (T 24) (.seq (.ops [⟨(some 25), none, .mov (T 4)⟩, ⟨(some 26), none, .mov (T 6)⟩, ⟨(some 27), none, .int2 .eql (T 25) (T 26)⟩, ⟨(some 28), none, .mov (T 27)⟩, ⟨(some 29), (some (28, true)), .mov (T 3)⟩, ⟨(some 30), (some (28, true)), .int2 .eql (T 29) (.const (.int .i64 (0)))⟩, ⟨(some 31), none, .pick (T 28) (T 30) (.const (.bool false))⟩, ⟨(some 32), none, .mov (T 31)⟩, ⟨(some 33), (some (32, true)), .call (.func 24) []⟩, ⟨(some 34), none, .pick (T 32) (T 33) (.const (.bool false))⟩, ⟨(some 2), none, .mov (T 34)⟩]) .ret) .skip)) (.seq (.seq (.ops [⟨(some 35), none, .loadN 7 (T 1)⟩, ⟨(some 36), none, .mov (T 5)⟩, ⟨(some 37), none, .call (.func 48) [(T 35), (T 36)]⟩, ⟨(some 7), none, .mov (T 37)⟩]) (.seq (.ops [⟨(some 38), none, .mov (T 7)⟩, ⟨(some 39), none, .int2 .geq (T 38) (.const (.int .i64 (0)))⟩]) (.cond (T 39) (.seq (.ops [⟨(some 40), none, .mov (T 4)⟩, ⟨(some 41), none, .int2 .eql (T 40) (.const (.int .i64 (0)))⟩, ⟨(some 42), none, .mov (T 41)⟩, ⟨(some 43), (some (42, true)), .mov (T 3)⟩, ⟨(some 44), (some (42, true)), .mov (T 7)⟩, ⟨(some 45), (some (42, true)), .int2 .eql (T 43) (T 44)⟩, ⟨(some 46), none, .pick (T 42) (T 45) (.const (.bool false))⟩, ⟨(some 47), none, .mov (T 46)⟩, ⟨(some 48), (some (47, true)), .call (.func 24) []⟩, ⟨(some 49), none, .pick (T 47) (T 48) (.const (.bool false))⟩, ⟨(some 2), none, .mov (T 49)⟩]) .ret) .skip))) (.seq (.ops [⟨(some 50), none, .mov (T 4)⟩, ⟨(some 51), none, .int2 .eql (T 50) (.const (.int .i64 (7)))⟩, ⟨(some 52), none, .mov (T 51)⟩, ⟨(some 53), (some (52, true)), .mov (T 3)⟩, ⟨(some 54), (some (52, true)), .int2 .eql (T 53) (.const (.int .i64 (0)))⟩, ⟨(some 55), none, .pick (T 52) (T 54) (.const (.bool false))⟩, ⟨(some 56), none, .mov (T 55)⟩, ⟨(some 57), (some (56, true)), .call (.func 24) []⟩, ⟨(some 58), none, .pick (T 56) (T 57) (.const (.bool false))⟩, ⟨(some 2), none, .mov (T 58)⟩]) .ret)))))))
end Go.Vm.St

namespace Go.Vm.St
open Go.Proofs Go.Vm.Vat
set_option linter.unusedSimpArgs false
set_option linter.unusedVariables false
set_option maxRecDepth 10000
variable {n : Nat} {h : AHeap}
/-- in how many truths a vat is of a kind after an hour -/
def cntS (S : MS) (v : Nat) (hh kk : Int) (L : List (Nat → Int)) : Nat := cntB (fun t => kindS S t v hh) L kk
/-- what a smell leaves -/
def lvS (S : MS) (v : Nat) (hh : Int) (L : List (Nat → Int)) : Int := max (max (cntS S v hh 0 L : Int) (cntS S v hh 1 L)) (cntS S v hh 2 L)
/-! ### The best smell -/
structure Sm where
  v : Int
  h : Int
  l : Int
end Go.Vm.St

namespace Go.Vm.St
open Go.Proofs Go.Vm.Vat
set_option linter.unusedSimpArgs false
set_option linter.unusedVariables false
set_option maxRecDepth 10000
variable {n : Nat} {h : AHeap}
end Go.Vm.St

namespace Go.Vm.St
open Go.Proofs Go.Vm.Vat
set_option linter.unusedSimpArgs false
set_option linter.unusedVariables false
set_option maxRecDepth 10000
variable {n : Nat} {h : AHeap}
theorem g_un {X : Cx} {d : Option Nat} {want : Bool} {op : SOp} {L : List SI} {Q : WPost} {f : Go.Vm.Fr} {m : List Nat} : gW X undef want d op L Q f h m = opsW X L Q (putF f d undef) h m := by
  have : isB want undef = false := rfl
  simp [gW, this]
end Go.Vm.St

namespace Go.Vm.St
open Go.Proofs Go.Vm.Vat
set_option linter.unusedSimpArgs false
set_option linter.unusedVariables false
set_option maxRecDepth 10000
variable {n : Nat} {h : AHeap}
/-! ### A vat that needs less, and leaves that spoil later -/
theorem noS_truth {S : MS} (hG : Good S) (h0 : S.ns = 0) : truthsS S ≠ [] := by
  intro e
  have hm : (fun j => if j < numU S then uLo S j else 0) ∈ truthsS S := truths_mem.2 ⟨⟨fun i hi => by
    have := hG.u i hi
    simp only [hi, if_true]
    omega, fun j hj => if_neg (by omega)⟩, fun k hk => absurd hk (by omega)⟩
  rw [e] at hm
  cases hm
end Go.Vm.St

namespace Go.Vm.St
open Go.Proofs Go.Vm.Vat
set_option linter.unusedSimpArgs false
set_option linter.unusedVariables false
set_option maxRecDepth 10000
variable {n : Nat} {h : AHeap}
theorem rowI_congr {m : Nat} {a b : Nat → Int} (he : ∀ i, i < m → a i = b i) : rowI m a = rowI m b := by
  unfold rowI
  refine List.map_congr_left fun i hi => ?_
  rw [he i (List.mem_range.1 hi)]
/-- the truth that is changed, as it lies in memory -/
structure WarmM (g : AHeap) (S : MS) (p b1 b2 c1 : Nat) (v2 : Value) (u : Nat → Int) : Prop where
  row : g.get p = some (.row (trL (.slice (some ⟨b1, 0, none⟩) S.nw c1) v2 (u S.nw)) true 0)
  w : g.get b1 = some (.row (rowI S.nw u) true 1)
  f : S.nv = 0 ∨ ∃ c2, v2 = .slice (some ⟨b2, 0, none⟩) S.nv c2 ∧ g.get b2 = some (.row (rowI S.nv fun v => u (S.nw + 1 + v)) true 1)
theorem WarmM.congr {g : AHeap} {S : MS} {p b1 b2 c1 : Nat} {v2 : Value} {u u' : Nat → Int} (hm : WarmM g S p b1 b2 c1 v2 u) (he : ∀ i, i < numU S → u i = u' i) : WarmM g S p b1 b2 c1 v2 u' := by
  refine ⟨?_, ?_, ?_⟩
  · rw [← he S.nw (by unfold numU; omega)]; exact hm.row
  · rw [← rowI_congr fun i hi => he i (by unfold numU; omega)]; exact hm.w
  · rcases hm.f with h0 | ⟨c2, e, q⟩
    · exact .inl h0
    · exact .inr ⟨c2, e, by rw [← rowI_congr (a := fun v => u (S.nw + 1 + v)) fun i hi => he (S.nw + 1 + i) (by unfold numU; omega)]; exact q⟩
theorem WarmM.tru {g : AHeap} {S : MS} {p b1 b2 c1 : Nat} {x2 : Option Addr} {c2 : Nat} {u : Nat → Int} (hm : WarmM g S p b1 b2 c1 (.slice x2 S.nv c2) u) (h0 : ∀ x, x2 = some x → x.spot = none) : TruR g (.slice (some ⟨b1, 0, none⟩) S.nw c1) (.slice x2 S.nv c2) S u := by
  refine ⟨ints_row hm.w, ?_⟩
  rcases hm.f with h | ⟨c', e, q⟩
  · refine ⟨x2, c2, rfl, h0, .inl h⟩
  · cases e
    exact ints_row q
end Go.Vm.St

namespace Go.Vm.St
open Go.Proofs Go.Vm.Vat
set_option linter.unusedSimpArgs false
set_option linter.unusedVariables false
set_option maxRecDepth 10000
variable {n : Nat} {h : AHeap}
/-- what is found is a smell of a vat, and no other one leaves fewer -/
structure SmOk (S : MS) (L : List (Nat → Int)) (st : Sm) : Prop where
  at_ : ∃ v0 : Nat, st.v = (v0 : Int) ∧ HourOk S v0 st.h ∧ st.l = lvS S v0 st.h L
end Go.Vm.St

namespace Go.Vm.St
open Go.Proofs Go.Vm.Vat
set_option linter.unusedSimpArgs false
set_option linter.unusedVariables false
set_option maxRecDepth 10000
variable {n : Nat} {h : AHeap}
def chooseSV (ps pm py pn pc : Nat) : Value := .func (.func 131) ⟨[]⟩ ⟨[.pointer (some ⟨ps, 0, none⟩), .pointer (some ⟨pm, 0, none⟩), .pointer (some ⟨py, 0, none⟩), .pointer (some ⟨pn, 0, none⟩), .pointer (some ⟨pc, 0, none⟩)]⟩
/-- the iterator's own rows -/
structure SetS (ps pm py pn pc N M : Nat) (yv : Value) (g : AHeap) : Prop where
  y : Row g py [yv]
  m : Row g pm [.int .i64 (M : Int)]
  n : Row g pn [.int .i64 (N : Int)]
  c : Row g pc [chooseSV ps pm py pn pc]
theorem rowAt {g g' : AHeap} {q : Nat} {cs : List Value} (hr : Row g q cs) (he : g'.get q = g.get q) : Row g' q cs := by
  obtain ⟨w, gr, e⟩ := hr
  exact ⟨w, gr, by rw [he]; exact e⟩
theorem SetS.same {ps pm py pn pc N M : Nat} {yv : Value} {g g' : AHeap} (hs : SetS ps pm py pn pc N M yv g) (hy : g'.get py = g.get py) (hm : g'.get pm = g.get pm) (hn : g'.get pn = g.get pn) (hc : g'.get pc = g.get pc) : SetS ps pm py pn pc N M yv g' :=
  ⟨rowAt hs.y hy, rowAt hs.m hm, rowAt hs.n hn, rowAt hs.c hc⟩
end Go.Vm.St

namespace Go.Vm.St
open Go.Proofs Go.Vm.Vat
set_option linter.unusedSimpArgs false
set_option linter.unusedVariables false
set_option maxRecDepth 10000
variable {n : Nat} {h : AHeap}
end Go.Vm.St

namespace Go.Vm.St
open Go.Proofs Go.Vm.Vat
set_option linter.unusedSimpArgs false
set_option linter.unusedVariables false
set_option maxRecDepth 10000
variable {n : Nat} {h : AHeap}
/-! ### The smells that are not right, truth by truth -/
def wrS (S : MS) (t : Nat → Int) (i : Nat) : Prop := ¬ RightS S t i
noncomputable def wrongL (S : MS) (t : Nat → Int) : List Int := pickL (wrS S t) S.ns
def allE (S : MS) : List (Nat → Int) := enumB (uLo S) (uHi S) (numU S) 0 fun _ => 0
noncomputable def allW (S : MS) : List (List Int) := (allE S).map (wrongL S)
noncomputable def wrongStep (S : MS) (s : List (List Int)) (c : Nat → Int) : List (List Int) × Bool := (s ++ [wrongL S c], true)
theorem runL_wrong {S : MS} : ∀ (l : List (Nat → Int)) (s : List (List Int)), runL (wrongStep S) s l = (s ++ l.map (wrongL S), true)
  | [], s => by simp [runL]
  | x :: l, s => by
    have e : runL (wrongStep S) s (x :: l) = runL (wrongStep S) (s ++ [wrongL S x]) l := rfl
    rw [e, runL_wrong l]; simp
/-- a list of lists of numbers that grows -/
structure WrG (B : Nat) (g : AHeap) (v : Value) (s : List (List Int)) (R : Nat → Value) : Prop where
  c : GrowC B g v 1 s.length (fun k _ => R k)
  r : ∀ k, k < s.length → Ints g (R k) (s.getD k []).length (atL (s.getD k [])) ∧ ∀ x m c, R k = .slice (some x) m c → B ≤ x.block ∧ x.block < g.next ∧ NeB v x.block
theorem WrG.old {B : Nat} {g g' : AHeap} {v : Value} {s : List (List Int)} {R : Nat → Value} (hw : WrG B g v s R) (ho : ∀ i, B ≤ i → i < g.next → g'.get i = g.get i) (hn : g.next ≤ g'.next) : WrG B g' v s R :=
  ⟨GrowC.at' hw.c fun a k c e => ho _ (hw.c.block e).1 (hw.c.block e).2, fun k hk => ⟨cells_at (hw.r k hk).1 fun a m c e hl => ho _ ((hw.r k hk).2 a m c e).1 hl, fun x m c e => by
    obtain ⟨q1, q2, q3⟩ := (hw.r k hk).2 x m c e
    exact ⟨q1, by omega, q3⟩⟩⟩
theorem WrG.push {B : Nat} {g g1 : AHeap} {v wv : Value} {s : List (List Int)} {R : Nat → Value} {w : List Int} (hw : WrG B g v s R) (hB : g.floor ≤ B) (hf : g.next + 2 < far) (hBn : B ≤ g.next) (hx : New g g1 [wv] 0) (hi : Ints g wv w.length (atL w)) (ho : oneCell wv = true)
    (hb : ∀ x m c, wv = .slice (some x) m c → B ≤ x.block ∧ x.block < g.next ∧ NeB v x.block) (hl : s.length ≤ g.next) :
    ∃ v' g2, appendA 1 24 g1 v (.slice (some ⟨g.next, 0, none⟩) 1 1) = some (v', g2) ∧ WrG B g2 v' (s ++ [w]) (fun k => if k = s.length then wv else R k) ∧ oneCell v' = true ∧ v' = .slice (some ⟨g.next + 1, 0, none⟩) (s.length + 1) unk ∧ g2.next = g.next + 2 ∧ g2.floor = g.floor ∧ (∀ i, i < g.next → NeB v i → g2.get i = g.get i) := by
  have hlen : (s ++ [w]).length = s.length + 1 := by simp
  have hg : GrowC B g v 1 s.length (fun k _ => if k = s.length then wv else R k) := growC_congr hw.c fun k j hk hj => by
    have : ¬ k = s.length := by omega
    simp only [this, if_false]
  obtain ⟨g2, e, gv, n2, f2, o2', u2⟩ := grow_push3 (bytes := 24) hg hB hf hBn hx rfl (by simp [allB, ho]) (fun j hj => by
    obtain rfl : j = 0 := by omega
    simp) (by simp [maxBytes, far] at *; omega) (by simp [maxBytes, far] at *; omega)
  refine ⟨_, g2, e, ⟨by rw [hlen]; exact gv, fun k hk => ?_⟩, rfl, rfl, n2, f2, o2'⟩
  have fresh : ∀ i, i < g.next → NeB (.slice (some ⟨g.next + 1, 0, none⟩) (s.length + 1) unk) i := fun i hi b m c e => by cases e; show i ≠ g.next + 1; omega
  by_cases c : k = s.length
  · subst c
    have hlast : (s ++ [w]).getD s.length [] = w := by rw [List.getD_eq_getElem?_getD, List.getElem?_append_right (Nat.le_refl _)]; simp
    simp only [if_true, hlast]
    exact ⟨cells_at hi fun a m c e hl => o2' _ hl (hb a m c e).2.2, fun x m c e => ⟨(hb x m c e).1, by have := (hb x m c e).2.1; omega, fresh _ (hb x m c e).2.1⟩⟩
  · have hk' : k < s.length := by omega
    simp only [c, if_false]
    rw [List.getD_eq_getElem?_getD, List.getElem?_append_left hk', ← List.getD_eq_getElem?_getD]
    obtain ⟨q1, q2⟩ := hw.r k hk'
    exact ⟨cells_at q1 fun a m c e hl => o2' _ hl (q2 a m c e).2.2, fun x m c e => ⟨(q2 x m c e).1, by have := (q2 x m c e).2.1; omega, fresh _ (q2 x m c e).2.1⟩⟩
theorem WrG.nil {B : Nat} {g : AHeap} : WrG B g nilS [] (fun _ => nilS) := ⟨.nil, fun k hk => absurd hk (Nat.not_lt_zero _)⟩
/-- the list, as it is read -/
def AllR (g : AHeap) (v : Value) (s : List (List Int)) : Prop := ∃ R : Nat → Value, Cells g v 1 s.length (fun k _ => R k) ∧ ∀ k, k < s.length → Ints g (R k) (s.getD k []).length (atL (s.getD k []))
theorem AllR.mono {g g' : AHeap} {v : Value} {s : List (List Int)} (ha : AllR g v s) (hs : Sub All g g') : AllR g' v s := by
  obtain ⟨R, h1, h2⟩ := ha
  exact ⟨R, h1.mono hs, fun k hk => Cells.mono (h2 k hk) hs⟩
structure JW (h2 : AHeap) (p : Nat) (s : List (List Int)) (g : AHeap) : Prop where
  old : ∀ i, i < h2.next → i ≠ p → g.get i = h2.get i
  tv : ∃ v R, g.get p = some (.row [v] true 0) ∧ WrG (h2.next + 2) g v s R
  up : h2.next + 2 ≤ g.next
  len : s.length ≤ g.next
def OwnW (h2 : AHeap) (p : Nat) (g : AHeap) (q : Nat) : Prop := h2.next ≤ q ∧ q ≠ p ∧ q ≠ h2.next + 1 ∧ ∀ v, g.get p = some (.row [v] true 0) → NeB v q
noncomputable def s96 : SCode := (.seq (.ops [⟨(some 1), none, .box (T 0)⟩, ⟨(some 2), none, .mov (.const (.slice none 0 0))⟩]) (.seq (.ops [⟨(some 3), none, .alloc [(.slice none 0 0)]⟩]) (.seq (.seq (.ops [⟨(some 8), none, .loadN 8 (T 1)⟩, ⟨(some 9), none, .call (.func 108) [(T 8)]⟩]) (.block 0 (.range (T 9) #[10] (rangeOf Try.f96 0).1 (rangeOf Try.f96 0).2))) (.seq (.ops [⟨(some 34), none, .load1 (T 3)⟩, ⟨(some 2), none, .mov (T 34)⟩]) .ret))))
theorem fok96 : FnOk Try.prog 96 35 s96 [.tmp 2] := ⟨Try.f96, _, Try.func96, rfl, Try.ntmps96, by kernel_rfl, by kernel_rfl⟩
def ra96_0 : SCode := (.ops [⟨(some 4), none, .alloc [(.int .i64 (0)), (.int .i64 (0)), (.int .i64 (0)), (.int .i64 (0)), (.int .i64 (0)), (.int .i64 (0)), (.int .i64 (0)), (.int .i64 (0)), (.int .i64 (0)), (.int .i64 (0)), (.int .i64 (0))]⟩, ⟨none, none, .store 11 (T 4) (T 10)⟩])
theorem raok96_0 : compCode Try.prog 35 (rangeOf Try.f96 0).1 = some ra96_0 := by kernel_rfl
def rb96_0 : SCode := (.block 1 (.seq (.ops [⟨(some 5), none, .mov (.const (.slice none 0 0))⟩]) (.seq (.seq (.ops [⟨(some 11), none, .fieldAddr 0 (T 1)⟩, ⟨(some 12), none, .fieldAddr 6 (T 11)⟩, ⟨(some 13), none, .load1 (T 12)⟩, ⟨(some 14), none, .len (T 13)⟩, ⟨(some 15), none, .mov (.const (.int .i64 (0)))⟩]) (.block 2 (.loop (.seq (.ops [⟨(some 16), none, .int2 .lss (T 15) (T 14)⟩]) (.seq (.cond (T 16) .skip (.exit 2)) (.seq (.block 3 (.seq (.ops [⟨(some 17), none, .mov (T 15)⟩, ⟨(some 18), none, .idxSl 3 (T 13) (T 15)⟩, ⟨(some 19), none, .loadN 3 (T 18)⟩, ⟨(some 7), none, .alloc [(.int .i64 (0)), (.int .i64 (0)), (.int .i64 (0))]⟩, ⟨(some 6), none, .mov (T 17)⟩, ⟨none, none, .store 3 (T 7) (T 19)⟩]) (.seq (.ops [⟨(some 20), none, .loadN 8 (T 1)⟩, ⟨(some 21), none, .loadN 11 (T 4)⟩, ⟨(some 22), none, .loadN 3 (T 7)⟩, ⟨(some 23), none, .call (.func 123) [(T 20), (T 21), (T 22)]⟩, ⟨(some 24), none, .not (T 23)⟩]) (.cond (T 24) (.ops [⟨(some 25), none, .mov (T 5)⟩, ⟨(some 26), none, .mov (T 6)⟩, ⟨(some 27), none, .bslice 1 1 [(.int .i64 (0))] [0] [(T 26)]⟩, ⟨(some 28), none, .append 1 8 (T 25) (T 27)⟩, ⟨(some 5), none, .mov (T 28)⟩]) .skip)))) (.ops [⟨(some 29), none, .int2 .add (T 15) (.const (.int .i64 (1)))⟩, ⟨(some 15), none, .mov (T 29)⟩]))))))) (.ops [⟨(some 30), none, .load1 (T 3)⟩, ⟨(some 31), none, .mov (T 5)⟩, ⟨(some 32), none, .bslice 1 1 [(.slice none 0 0)] [0] [(T 31)]⟩, ⟨(some 33), none, .append 1 24 (T 30) (T 32)⟩, ⟨none, none, .store 1 (T 3) (T 33)⟩]))))
theorem rbok96_0 : compCode Try.prog 35 (rangeOf Try.f96 0).2 = some rb96_0 := by kernel_rfl
set_option maxHeartbeats 4000000 in
theorem wrongAll_c (hn : 500 ≤ n) (hr : h.next + 600000 < far) (hfl : h.floor ≤ h.next) {wv vv sv : Value} {S : MS} (hy : SteepR h wv vv sv S) (hG : Good S) :
    ∃ v h', call n (.func (.func 96) #[] #[]) [.agg ⟨wkL S wv vv sv nilS⟩] h = some (v, h') ∧ AllR h' v (allW S) ∧ oneCell v = true ∧ (∀ i, i < h.next → h'.get i = h.get i) ∧ h.next ≤ h'.next ∧ h'.next ≤ h.next + 500000 ∧ h'.floor = h.floor := by
  obtain ⟨n, rfl⟩ : ∃ p, n = p + 1 := ⟨n - 1, by omega⟩
  refine call_any0 fok96 rfl rfl (by simp) ?_
  have hlenE := enum_len hG
  obtain ⟨_, _, _, _, _, z5, _⟩ := hG.sizes
  simp only [s96, W_seq, W_ops]
  refine ops_box (cs := wkL S wv vv sv nilS) (by omega) rfl (wk_one hy rfl) fun g1 hx1 => ?_
  have n1 := hx1.next
  have f1 := hx1.floor
  have e1 : g1.next = h.next + 1 := n1
  simp only [rn0, rn1, rn2, rn3, rn4, rn5, rn6, rn7, rn8, if_true, if_false, Nat.le_refl, true_and, and_true, decide_true, decide_false, Bool.not_true, Bool.not_false, reduceIte, Nat.reduceEqDiff, Nat.reduceAdd, Nat.reduceMul, Nat.reduceSub, Nat.reduceLeDiff, Nat.reduceLT]
  refine step_row (cs := [nilS]) (by omega) rfl rfl fun g2 hx2 => ?_
  have n2 := hx2.next
  have f2 := hx2.floor
  have e2 : g2.next = h.next + 2 := by omega
  have w2 := (hx1.row.mono hx2.sub).whole (n := 8) rfl
  have old2 : ∀ i, i < h.next → g2.get i = h.get i := fun i hi => by rw [hx2.old i (by omega), hx1.old i hi]
  obtain ⟨g4, e4, hx4⟩ := allTruths_c (n := n) (h := g2) (cs := wkL S wv vv sv nilS) (by omega) (by omega) (wk_one hy rfl) rfl
  have n4 := hx4.next
  have f4 := hx4.floor
  rw [e1]
  simp only [rn0, rn1, rn2, rn3, rn4, rn5, rn6, rn7, rn8, if_true, if_false, Nat.le_refl, true_and, and_true, decide_true, decide_false, Bool.not_true, Bool.not_false, reduceIte, Nat.reduceEqDiff, Nat.reduceAdd, Nat.reduceMul, Nat.reduceSub, Nat.reduceLeDiff, Nat.reduceLT, w2, e4]
  refine W_range' rfl (by omega) (by simp only [rn0, rn1, rn2, rn3, rn4, rn5, rn6, rn7, rn8, if_true, if_false, Nat.le_refl, true_and, and_true, decide_true, decide_false, Bool.not_true, Bool.not_false, reduceIte, Nat.reduceEqDiff, Nat.reduceAdd, Nat.reduceMul, Nat.reduceSub, Nat.reduceLeDiff, Nat.reduceLT]; rfl) fun f0 hf0 ts hv h2 hl => ?_
  have c1 : f0 1 = .pointer (some ⟨h.next, 0, none⟩) := by rw [hf0]; simp only [rn0, rn1, rn2, rn3, rn4, rn5, rn6, rn7, rn8, if_true, if_false, Nat.le_refl, true_and, and_true, decide_true, decide_false, Bool.not_true, Bool.not_false, reduceIte, Nat.reduceEqDiff, Nat.reduceAdd, Nat.reduceMul, Nat.reduceSub, Nat.reduceLeDiff, Nat.reduceLT]
  have c3 : f0 3 = .pointer (some ⟨h.next + 1, 0, none⟩) := by rw [hf0]; simp only [rn0, rn1, rn2, rn3, rn4, rn5, rn6, rn7, rn8, if_true, if_false, Nat.le_refl, true_and, and_true, decide_true, decide_false, Bool.not_true, Bool.not_false, reduceIte, Nat.reduceEqDiff, Nat.reduceAdd, Nat.reduceMul, Nat.reduceSub, Nat.reduceLeDiff, Nat.reduceLT]
  clear hf0
  have nl := hl.next
  have fl := hl.floor
  have en : g4.next = h.next + 3 := by omega
  have hbase : ∀ i, i < h.next → h2.get i = h.get i := fun i hi => by rw [hl.old i (by omega), hx4.old i (by omega), old2 i hi]
  have hp2 : h2.get (h.next + 1) = some (.row [nilS] true 0) := by
    rw [hl.old _ (by omega), hx4.old _ (by omega)]; have := hx2.get; rw [e1] at this; exact this
  have hw2 : h2.get h.next = some (.row (wkL S wv vv sv nilS) true 0) := by
    rw [hl.old _ (by omega), hx4.old _ (by omega), hx2.old _ (by omega)]; exact hx1.get
  have hpw : Row h2 (h.next + 2) (wkL S wv vv sv nilS) := by
    have := hx4.row.mono hl.sub
    rw [e2] at this
    exact this
  have hloop := hl.loop
  have hmark := hl.mark
  rw [en] at hloop hmark
  rw [en]
  rw [en] at hl
  generalize hr0 : loopO _ ts _ _ _ _ = r at hloop ⊢
  have r1 : r.state = .ready := by rw [← hr0]; rfl
  have r2 : View 35 r.tmps f0 := by rw [← hr0]; exact hv
  have r3 : r.params = #[10] := by rw [← hr0]; rfl
  have r4 : compCode Try.prog 35 r.assign = some ra96_0 := by rw [← hr0]; exact raok96_0
  have r5 : compCode Try.prog 35 r.body = some rb96_0 := by rw [← hr0]; exact rbok96_0
  have r6 : leftBy r .norm = r := by rw [← hr0]; rfl
  clear hr0 hl hv
  have en2 : h2.next = h.next + 5 := by omega
  have hit := iter_c (Own := OwnW h2 (h.next + 1)) (wrongStep S) (JW h2 (h.next + 1)) (g := h2) (pw := h.next + 2) (K := 210) (N0 := 300) (n := n) (tv := nilS) (yv := .func (.yield (h.next + 4)) #[] #[]) [] hG hpw (hy.mono (AHeap.subOf hbase)) rfl rfl (by omega) (by omega) (by omega)
    (fun g' q hq => hq.2.2.1)
    (fun s g1 g' cs hj hs => by
      obtain ⟨v, R, t1, t2⟩ := hj.tv
      have hnx := hs.next
      exact ⟨fun i hi hne => by rw [hs.old i (by omega)]; exact hj.old i hi hne, ⟨v, R, by rw [hs.old _ (by omega)]; exact t1, t2.old (fun i hi _ => hs.old i (by omega)) (by omega)⟩, by have := hj.up; omega, by have := hj.len; omega⟩)
    (fun s g1 g' cs hj hx => by
      obtain ⟨v, R, t1, t2⟩ := hj.tv
      have := hj.up
      have hnx := hx.next
      exact ⟨fun i hi hne => by rw [hx.old i (by omega)]; exact hj.old i hi hne, ⟨v, R, by rw [hx.old _ (by omega)]; exact t1, t2.old (fun i hi h => hx.old i h) (by omega)⟩, by omega, by have := hj.len; omega⟩)
    (fun s g1 g' cs q hj hs ho => ⟨ho.1, ho.2.1, ho.2.2.1, fun v e => ho.2.2.2 v (by rw [← hs.old _ (by omega)]; exact e)⟩)
    (fun s g1 g' cs q hj hx ho => ⟨ho.1, ho.2.1, ho.2.2.1, fun v e => ho.2.2.2 v (by rw [← hx.old _ (by have := hj.up; omega)]; exact e)⟩)
    (fun s g1 g' cs hj hx hlt => ⟨by omega, by omega, by omega, fun v e => by
      obtain ⟨v', R, t1, t2⟩ := hj.tv
      rw [hx.old _ (by omega), t1] at e
      simp only [Option.some.injEq, AObj.row.injEq, and_true, List.cons.injEq] at e
      subst e
      exact neB_of t2.c (by right; omega)⟩)
    (fun g' ho hfg hup => ⟨⟨fun i hi _ => ho i hi, ⟨nilS, _, by rw [ho _ (by omega)]; exact hp2, .nil⟩, hup, Nat.zero_le _⟩, fun q hq _ hne => ⟨hq, by omega, hne, fun v e => by
      rw [ho _ (by omega), hp2] at e
      simp only [Option.some.injEq, AObj.row.injEq, and_true, List.cons.injEq] at e
      subst e
      intro b m c e'
      cases e'⟩⟩)
    (fun m g1 s c pu py pc U hm it hb hok hj hfg hr1 => by
      obtain ⟨m, rfl⟩ : ∃ p, m = p + 1 := ⟨m - 1, by omega⟩
      rw [call_yield]
      obtain ⟨v, R, hp, gr⟩ := hj.tv
      have hup := hj.up
      have hlen := hj.len
      have hloop1 : g1.get (h.next + 4) = some (.loop r) := by rw [hj.old _ (by omega) (by omega)]; exact hloop
      have hpb := AHeap.lt_of_get hb
      suffices key : ∃ e g', roundA Try.prog (call m) m (h.next + 4) [.agg ⟨tarr S c⟩] g1 = some (.bool (goesOn e), g') ∧ (e = .norm ∧ JW h2 (h.next + 1) (wrongStep S s c).1 g' ∧ (∀ q, h2.next ≤ q → q < g1.next → NeB v q → g'.get q = g1.get q) ∧ (∃ v', g'.get (h.next + 1) = some (.row [v'] true 0) ∧ ∀ q, q < g1.next → NeB v q → NeB v' q) ∧ g'.floor = h2.floor ∧ g1.next ≤ g'.next ∧ g'.next ≤ g1.next + 200) by
        obtain ⟨e, g', k1, rfl, k2, k3, ⟨v', k4, k5⟩, k6, k7, k8⟩ := key
        refine ⟨g', k1, k2, fun q cs hq ho => ?_, by rw [k3 _ (by omega) hpb (neB_of gr.c (by left; omega))]; exact hb, k6, k7, by omega⟩
        obtain ⟨o1, o2, o3, o4⟩ := ho
        have hlt : q < g1.next := by obtain ⟨w, gr, e⟩ := hq; exact AHeap.lt_of_get e
        have hne := o4 v hp
        refine ⟨by obtain ⟨w, gr, e⟩ := hq; exact ⟨w, gr, by rw [k3 q o1 hlt hne]; exact e⟩, o1, o2, o3, fun v2 e => ?_⟩
        rw [k4] at e
        simp only [Option.some.injEq, AObj.row.injEq, and_true, List.cons.injEq] at e
        subst e
        exact k5 q hlt hne
      refine round_run (f := f0) hloop1 r1 r2 (by rw [r3]; rfl) (by omega) r4 r5 ?_
      have hset : setFr f0 r.params.toList [.agg ⟨tarr S c⟩] = upd f0 10 (.agg ⟨tarr S c⟩) := by rw [r3]; rfl
      rw [hset]
      simp only [rn0, rn1, rn2, rn3, rn4, rn5, rn6, rn7, rn8, if_true, if_false, Nat.le_refl, true_and, and_true, decide_true, decide_false, Bool.not_true, Bool.not_false, reduceIte, Nat.reduceEqDiff, Nat.reduceAdd, Nat.reduceMul, Nat.reduceSub, Nat.reduceLeDiff, Nat.reduceLT, ra96_0]
      refine step_new (vs := tarr S c) (by omega) (by omega) rfl (by simp only [rn0, rn1, rn2, rn3, rn4, rn5, rn6, rn7, rn8, if_true, if_false, Nat.le_refl, true_and, and_true, decide_true, decide_false, Bool.not_true, Bool.not_false, reduceIte, Nat.reduceEqDiff, Nat.reduceAdd, Nat.reduceMul, Nat.reduceSub, Nat.reduceLeDiff, Nat.reduceLT]; rfl) tarr_one tarr_len rfl fun g2 hx2 => ?_
      have n2 := hx2.next
      have f2 := hx2.floor
      simp only [rn0, rn1, rn2, rn3, rn4, rn5, rn6, rn7, rn8, if_true, if_false, Nat.le_refl, true_and, and_true, decide_true, decide_false, Bool.not_true, Bool.not_false, reduceIte, Nat.reduceEqDiff, Nat.reduceAdd, Nat.reduceMul, Nat.reduceSub, Nat.reduceLeDiff, Nat.reduceLT]
      refine ⟨by rw [hx2.old _ (by omega)]; exact hloop1, by omega, fun g3 hp3 => ?_⟩
      have n3 := hp3.next
      have f3 := hp3.floor
      have g3old : ∀ i, i < g1.next → i ≠ h.next + 4 → g3.get i = g1.get i := fun i hi hne => by rw [hp3.old i hne, hx2.old i hi]
      have g3b : ∀ i, i < h.next → g3.get i = h.get i := fun i hi => by rw [g3old i (by omega) (by omega), hj.old i (by omega) (by omega), hbase i hi]
      have hy3 := hy.mono (AHeap.subOf g3b)
      have hp3' : g3.get (h.next + 1) = some (.row [v] true 0) := by rw [g3old _ (by omega) (by omega)]; exact hp
      have rw3 : Row g3 h.next (wkL S wv vv sv nilS) := ⟨true, 0, by rw [g3old _ (by omega) (by omega), hj.old _ (by omega) (by omega)]; exact hw2⟩
      have rc3 : Row g3 g1.next (tarr S c) := by
        obtain ⟨w, gr, e⟩ := hx2.row
        exact ⟨w, gr, by rw [hp3.old _ (by omega)]; exact e⟩
      have hcu : InU S c := fun i hi => hok.1 i hi
      have l3 : g3.get (h.next + 4) = some (.loop { r with state := .busy }) := hp3.get
      simp only [rn0, rn1, rn2, rn3, rn4, rn5, rn6, rn7, rn8, if_true, if_false, Nat.le_refl, true_and, and_true, decide_true, decide_false, Bool.not_true, Bool.not_false, reduceIte, Nat.reduceEqDiff, Nat.reduceAdd, Nat.reduceMul, Nat.reduceSub, Nat.reduceLeDiff, Nat.reduceLT, rb96_0, c1, c3, rw3.ld, wkg, Nat.zero_add, Nat.add_zero, Cells.len hy3.s]
      refine W_loop S.ns (fun k f g ms => (∃ x, (∀ i, i < g3.next → g.get i = g3.get i) ∧ g.floor = g3.floor ∧ g3.next ≤ g.next ∧ g.next ≤ g3.next + 3 * k ∧ GrowC g3.next g x 1 (pickL (wrS S c) k).length (fun i _ => .int .i64 (atL (pickL (wrS S c) k) i)) ∧ f 5 = x) ∧ ms = [] ∧ f 1 = .pointer (some ⟨h.next, 0, none⟩) ∧ f 3 = .pointer (some ⟨h.next + 1, 0, none⟩) ∧ f 4 = .pointer (some ⟨g1.next, 0, none⟩) ∧ f 13 = sv ∧ f 14 = .int .i64 (S.ns : Int) ∧ f 15 = .int .i64 (k : Int)) (by simp; omega) ?_ ?_ ?_
      · simp only [rn0, rn1, rn2, rn3, rn4, rn5, rn6, rn7, rn8, if_true, if_false, Nat.le_refl, true_and, and_true, decide_true, decide_false, Bool.not_true, Bool.not_false, reduceIte, Nat.reduceEqDiff, Nat.reduceAdd, Nat.reduceMul, Nat.reduceSub, Nat.reduceLeDiff, Nat.reduceLT, c1, c3]
        first | exact ⟨⟨nilS, fun _ _ => trivial, by omega, .nil, rfl⟩, rfl⟩ | exact ⟨⟨nilS, fun _ _ => rfl, rfl, by omega, by omega, .nil, rfl⟩, rfl⟩ | exact ⟨nilS, fun _ _ => trivial, by omega, .nil, rfl⟩ | exact ⟨nilS, fun _ _ => trivial, .nil, rfl⟩ | trace_state
      · rintro k f g ms hk ⟨⟨x, ho, hfg', hup', hnx, gv, p5⟩, rfl, p1, p3, p4, p13, p14, p15⟩
        have hk' : (k : Int) < (S.ns : Int) := by omega
        have hw : wrapF .i64 ((k : Int) + 1) = ((k + 1 : Nat) : Int) := by rw [wrap_in (by omega) (by omega)]; rfl
        have sg : Sub All g3 g := AHeap.subOf ho
        have hyg := hy3.mono sg
        have hlk := pick_len (p := wrS S c) k
        simp only [rn0, rn1, rn2, rn3, rn4, rn5, rn6, rn7, rn8, if_true, if_false, Nat.le_refl, true_and, and_true, decide_true, decide_false, Bool.not_true, Bool.not_false, reduceIte, Nat.reduceEqDiff, Nat.reduceAdd, Nat.reduceMul, Nat.reduceSub, Nat.reduceLeDiff, Nat.reduceLT, p1, p3, p4, p5, p13, p14, p15, hk', Cells.idx hyg.s hk, samps_ld hyg.s hk]
        refine step_row (cs := [.int .i64 0, .int .i64 0, .int .i64 0]) (by omega) rfl rfl fun ga hxa => ?_
        have na := hxa.next
        have fa := hxa.floor
        simp only [rn0, rn1, rn2, rn3, rn4, rn5, rn6, rn7, rn8, if_true, if_false, Nat.le_refl, true_and, and_true, decide_true, decide_false, Bool.not_true, Bool.not_false, reduceIte, Nat.reduceEqDiff, Nat.reduceAdd, Nat.reduceMul, Nat.reduceSub, Nat.reduceLeDiff, Nat.reduceLT, p1, p3, p4, p5, p13, p14, p15]
        refine step_store (b := g.next) (off := 0) (vs := [.int .i64 (S.sv k), .int .i64 (S.sh k), .int .i64 (S.sk k)]) rfl hxa.get (by omega) (by omega) rfl rfl rfl (by simp) fun gb hsb => ?_
        rw [splice_all (by rfl)] at hsb
        have nb := hsb.next
        have fb := hsb.floor
        have oldb : ∀ i, i < g.next → gb.get i = g.get i := fun i hi => by rw [hsb.old i (by omega), hxa.old i hi]
        have subb : Sub All g gb := AHeap.subOf oldb
        have rwb := (rw3.mono sg).mono subb
        have rcb := (rc3.mono sg).mono subb
        have ei := isRightW_c (n := m) (h := gb) (u := c) (k := k) (by omega) (by omega) (hyg.mono subb) (tv := nilS) rfl hG hcu hk
        have gvb : GrowC g3.next gb x 1 (pickL (wrS S c) k).length (fun i _ => .int .i64 (atL (pickL (wrS S c) k) i)) := GrowC.at' gv fun a k c e => oldb _ (gv.block e).2
        by_cases hR : RightS S c k
        · have hp0 : pickL (wrS S c) (k + 1) = pickL (wrS S c) k := pick_no fun q => q hR
          simp only [rn0, rn1, rn2, rn3, rn4, rn5, rn6, rn7, rn8, if_true, if_false, Nat.le_refl, true_and, and_true, decide_true, decide_false, Bool.not_true, Bool.not_false, reduceIte, Nat.reduceEqDiff, Nat.reduceAdd, Nat.reduceMul, Nat.reduceSub, Nat.reduceLeDiff, Nat.reduceLT, p1, p3, p4, p5, p13, p14, p15, rwb.whole (n := 8) rfl, rcb.whole tarr_len, hsb.row.whole (n := 3) rfl, ei, eq_true hR, hw]
          rw [hp0]
          have hfin := And.intro (fun i (hi : i < g3.next) => (by rw [oldb i (by omega), ho i hi] : gb.get i = g3.get i)) (And.intro (by omega : gb.floor = g3.floor) (And.intro (by omega : g3.next ≤ gb.next) (And.intro (by omega : gb.next ≤ g3.next + 3 * (k + 1)) (And.intro gvb (rfl : x = x)))))
          first | exact ⟨x, hfin⟩ | exact ⟨⟨x, hfin⟩, rfl⟩
        · have hp1 : pickL (wrS S c) (k + 1) = pickL (wrS S c) k ++ [(k : Int)] := pick_yes hR
          simp only [rn0, rn1, rn2, rn3, rn4, rn5, rn6, rn7, rn8, if_true, if_false, Nat.le_refl, true_and, and_true, decide_true, decide_false, Bool.not_true, Bool.not_false, reduceIte, Nat.reduceEqDiff, Nat.reduceAdd, Nat.reduceMul, Nat.reduceSub, Nat.reduceLeDiff, Nat.reduceLT, p1, p3, p4, p5, p13, p14, p15, rwb.whole (n := 8) rfl, rcb.whole tarr_len, hsb.row.whole (n := 3) rfl, ei, eq_false hR, sl_int]
          refine step_slice (by omega) rfl fun gc hxc => ?_
          have nc := hxc.next
          have fc := hxc.floor
          have gvc : GrowC g3.next gc x 1 (pickL (wrS S c) k).length (fun i _ => .int .i64 (atL (pickL (wrS S c) (k + 1)) i)) := (gvb.sub hxc.sub).congr fun i j hi hj => by rw [hp1, at_append hi]
          obtain ⟨x', gd, ed, evd, gvd, hkd⟩ := gvc.append (bytes := 8) (cap := 1) (by omega) (by omega) (by omega) hxc.get rfl rfl (fun j hj => by
            obtain rfl : j = 0 := by omega
            rw [hp1, at_last]; rfl) (by simp [maxBytes]; omega) (by simp [maxBytes]; omega)
          have nd := hkd.next
          have fd := hkd.floor
          have hlen1 : (pickL (wrS S c) (k + 1)).length = (pickL (wrS S c) k).length + 1 := by rw [hp1, List.length_append, List.length_singleton]
          simp only [rn0, rn1, rn2, rn3, rn4, rn5, rn6, rn7, rn8, if_true, if_false, Nat.le_refl, true_and, and_true, decide_true, decide_false, Bool.not_true, Bool.not_false, reduceIte, Nat.reduceEqDiff, Nat.reduceAdd, Nat.reduceMul, Nat.reduceSub, Nat.reduceLeDiff, Nat.reduceLT, p1, p3, p4, p5, p13, p14, p15, ed, hw]
          rw [hlen1]
          have hfin := And.intro (fun i (hi : i < g3.next) => (by rw [hkd.old i (by omega) fun bb kk qq e => by have := (gvc.block e).1; omega, hxc.old i (by omega), oldb i (by omega), ho i hi] : gd.get i = g3.get i)) (And.intro (by omega : gd.floor = g3.floor) (And.intro (by omega : g3.next ≤ gd.next) (And.intro (by omega : gd.next ≤ g3.next + 3 * (k + 1)) (And.intro gvd (rfl : x' = x')))))
          first | exact ⟨x', hfin⟩ | exact ⟨⟨x', hfin⟩, rfl⟩
      · rintro f g ms ⟨⟨x, ho, hfg', hup', hnx, gv, p5⟩, rfl, p1, p3, p4, p13, p14, p15⟩
        have hq3 : g.get (h.next + 1) = some (.row [v] true 0) := by rw [ho _ (by omega)]; exact hp3'
        have rq3 : Row g (h.next + 1) [v] := ⟨_, _, hq3⟩
        have lg : g.get (h.next + 4) = some (.loop { r with state := .busy }) := by rw [ho _ (by omega)]; exact l3
        have xone := gv.one
        have wrg : WrG (h2.next + 2) g v s R := gr.old (fun i h1 h2 => by rw [ho i (by omega), g3old i h2 (by omega)]) (by omega)
        simp only [rn0, rn1, rn2, rn3, rn4, rn5, rn6, rn7, rn8, if_true, if_false, Nat.le_refl, true_and, and_true, decide_true, decide_false, Bool.not_true, Bool.not_false, reduceIte, Nat.reduceEqDiff, Nat.reduceAdd, Nat.reduceMul, Nat.reduceSub, Nat.reduceLeDiff, Nat.reduceLT, p1, p3, p4, p5, p13, p14, p15, Int.lt_irrefl, rq3.ld, Nat.zero_add, List.getElem?_cons_zero, sl_list xone]
        refine step_slice (by omega) (by simp [allB, xone]) fun ga hxa => ?_
        have na := hxa.next
        have fa := hxa.floor
        obtain ⟨v', gb, eb, wrb, ob, evb, nb, fb, oldb⟩ := wrg.push (w := wrongL S c) (by omega) (by omega) (by omega) hxa gv.cells xone (fun y k q e => by
          have := gv.block e
          exact ⟨by omega, by omega, neB_of gr.c (by right; omega)⟩) (by have := hj.len; omega)
        have neP : NeB v (h.next + 1) := neB_of gr.c (by left; omega)
        have neL : NeB v (h.next + 4) := neB_of gr.c (by left; omega)
        simp only [rn0, rn1, rn2, rn3, rn4, rn5, rn6, rn7, rn8, if_true, if_false, Nat.le_refl, true_and, and_true, decide_true, decide_false, Bool.not_true, Bool.not_false, reduceIte, Nat.reduceEqDiff, Nat.reduceAdd, Nat.reduceMul, Nat.reduceSub, Nat.reduceLeDiff, Nat.reduceLT, p1, p3, p4, p5, p13, p14, p15, eb]
        refine step_store (b := h.next + 1) (off := 0) (vs := [v']) (by rfl) (by rw [oldb _ (by omega) neP]; exact hq3) (by omega) (by omega) (by rw [evb]; rfl) (by rw [evb]; rfl) rfl (by simp) fun g6 hs6 => ?_
        rw [splice1] at hs6
        have n6 := hs6.next
        have f6 := hs6.floor
        simp only [rn0, rn1, rn2, rn3, rn4, rn5, rn6, rn7, rn8, if_true, if_false, Nat.le_refl, true_and, and_true, decide_true, decide_false, Bool.not_true, Bool.not_false, reduceIte, Nat.reduceEqDiff, Nat.reduceAdd, Nat.reduceMul, Nat.reduceSub, Nat.reduceLeDiff, Nat.reduceLT]
        refine ⟨by rw [hs6.old _ (by omega), oldb _ (by omega) neL]; exact lg, by omega, by omega, fun g7 hp7 => ⟨?_, ?_, ?_, by rw [hp7.floor]; omega, by rw [hp7.next]; omega, by rw [hp7.next]; omega⟩⟩
        · have n7 := hp7.next
          have hst : (wrongStep S s c).1 = s ++ [wrongL S c] := rfl
          rw [hst]
          have old6 : ∀ i, i < g1.next → i ≠ h.next + 1 → i ≠ h.next + 4 → NeB v i → g6.get i = g1.get i := fun i hi a1 a2 hne => by rw [hs6.old i a1, oldb i (by omega) hne, ho i (by omega), g3old i hi a2]
          refine ⟨fun i hi hne => ?_, ⟨v', _, ?_, wrb.old (fun i h1 h2 => by rw [hp7.old i (by omega), hs6.old i (by omega)]) (by omega)⟩, by omega, by rw [List.length_append, List.length_singleton]; omega⟩
          · by_cases e : i = h.next + 4
            · subst e; rw [hp7.get, r6, ← hj.old _ hi hne]; exact hloop1.symm
            · rw [hp7.old i e, old6 i (by omega) hne e (neB_of gr.c (by left; omega))]; exact hj.old i hi hne
          · rw [hp7.old _ (by omega)]; exact hs6.get
        · intro i hi hlt hne
          rw [hp7.old i (by omega), hs6.old i (by omega), oldb i (by omega) hne, ho i (by omega), g3old i hlt (by omega)]
        · refine ⟨v', by rw [hp7.old _ (by omega)]; exact hs6.get, fun q hq _ b m c' e => ?_⟩
          rw [evb] at e
          cases e
          show q ≠ g.next + 1
          omega)
    (by omega)
  obtain ⟨v5, g5, e5, j5, fl5, u5, n5⟩ := hit
  rw [runL_wrong] at j5
  simp only [List.nil_append] at j5
  change JW h2 (h.next + 1) (allW S) g5 at j5
  obtain ⟨v, R, t1, t2⟩ := j5.tv
  have hup := j5.up
  refine ⟨v5, g5, .norm, by rw [e2]; exact e5, by omega, by omega, by rw [r6, j5.old _ (by omega) (by omega)]; exact hloop, fun g6 hp6 => ?_⟩
  have n6 := hp6.next
  have f6 := hp6.floor
  have t6 : Row g6 (h.next + 1) [v] := ⟨true, 0, by rw [hp6.old _ (by omega)]; exact t1⟩
  have m6 : g6.get (h.next + 3) = some .deferred := by rw [hp6.old _ (by omega), j5.old _ (by omega) (by omega)]; exact hmark
  simp only [rn0, rn1, rn2, rn3, rn4, rn5, rn6, rn7, rn8, if_true, if_false, Nat.le_refl, true_and, and_true, decide_true, decide_false, Bool.not_true, Bool.not_false, reduceIte, Nat.reduceEqDiff, Nat.reduceAdd, Nat.reduceMul, Nat.reduceSub, Nat.reduceLeDiff, Nat.reduceLT, c3, t6.ld, Nat.zero_add, List.getElem?_cons_zero]
  refine ret_mark (.inr rfl) m6 (by omega) (by omega) fun g8 hp8 => ?_
  have n8 := hp8.next
  have f8 := hp8.floor
  have t8 : WrG (h2.next + 2) g8 v (allW S) R := t2.old (fun i h1 h2 => by rw [hp8.old i (by omega), hp6.old i (by omega)]) (by omega)
  simp only [rn0, rn1, rn2, rn3, rn4, rn5, rn6, rn7, rn8, if_true, if_false, Nat.le_refl, true_and, and_true, decide_true, decide_false, Bool.not_true, Bool.not_false, reduceIte, Nat.reduceEqDiff, Nat.reduceAdd, Nat.reduceMul, Nat.reduceSub, Nat.reduceLeDiff, Nat.reduceLT]
  refine ⟨⟨R, t8.c.cells, fun k hk => (t8.r k hk).1⟩, t8.c.one, fun i hi => ?_, by omega, by omega, by omega⟩
  rw [hp8.old i (by omega), hp6.old i (by omega), j5.old i (by omega) (by omega), hbase i hi]
end Go.Vm.St

namespace Go.Vm
open Go.Vm.Vat
end Go.Vm
namespace Go.Vm.St
open Go.Proofs Go.Vm.Vat
set_option linter.unusedSimpArgs false
set_option linter.unusedVariables false
set_option maxRecDepth 10000
variable {n : Nat} {h : AHeap}
end Go.Vm.St

namespace Go.Vm.St
open Go.Proofs Go.Vm.Vat
set_option linter.unusedSimpArgs false
set_option linter.unusedVariables false
set_option maxRecDepth 10000
variable {n : Nat} {h : AHeap}
theorem allE_ne {S : MS} (hG : Good S) : allE S ≠ [] := by
  have h1 := enumB_pos (lo := uLo S) (hi := uHi S) (numU S) 0 (fun _ => 0) fun k _ hk => (hG.u k (by omega)).2.1
  intro e
  have : (allE S).length = 0 := by rw [e]; rfl
  unfold allE at this
  omega
end Go.Vm.St

namespace Go.Vm.St
open Go.Proofs Go.Vm.Vat
set_option linter.unusedSimpArgs false
set_option linter.unusedVariables false
set_option maxRecDepth 10000
variable {n : Nat} {h : AHeap}
def CanB (S : MS) (s : Nat) : Prop := ∃ c, c ∈ allE S ∧ ∀ x, x < S.ns → Bit s x → RightS S c x
noncomputable instance (S : MS) (s : Nat) : Decidable (CanB S s) := Classical.propDecidable _
end Go.Vm.St

namespace Go.Vm
open Go.Vm.Vat
open Classical in
/-- the first number that is so -/
noncomputable def fstP (p : Nat → Prop) : Nat → Option Nat
  | 0 => none
  | k + 1 => match fstP p k with
    | some v => some v
    | none => if p k then some k else none
section
variable {p : Nat → Prop}
open Classical in
theorem fstP_none : ∀ {k : Nat}, fstP p k = none ↔ ∀ i, i < k → ¬ p i
  | 0 => ⟨fun _ i hi => absurd hi (Nat.not_lt_zero _), fun _ => rfl⟩
  | k + 1 => by
    have ih := fstP_none (k := k)
    constructor
    · intro h i hi
      rw [fstP] at h
      cases e : fstP p k with
      | some v => rw [e] at h; cases h
      | none =>
        rw [e] at h
        by_cases c : i = k
        · subst c
          intro q
          simp only [if_pos q] at h
          cases h
        · exact ih.1 e i (by omega)
    · intro h
      rw [fstP, ih.2 fun i hi => h i (by omega)]
      exact if_neg (h k (by omega))
open Classical in
theorem fstP_at {k m : Nat} (hk : k < m) (h0 : ∀ i, i < k → ¬ p i) (h1 : p k) : fstP p m = some k := by
  have e0 := fstP_none.2 h0
  have up : ∀ d, fstP p (k + 1 + d) = some k := by
    intro d
    induction d with
    | zero => show fstP p (k + 1) = some k; rw [fstP, e0]; exact if_pos h1
    | succ d ih => show fstP p (k + 1 + d + 1) = some k; rw [fstP, ih]
  have := up (m - (k + 1))
  rw [show k + 1 + (m - (k + 1)) = m by omega] at this
  exact this
open Classical in
theorem fstP_some : ∀ {m k : Nat}, fstP p m = some k → k < m ∧ p k ∧ ∀ i, i < k → ¬ p i
  | 0, k, h => by cases h
  | m + 1, k, h => by
    rw [fstP] at h
    cases e : fstP p m with
    | some v =>
      rw [e] at h
      cases h
      obtain ⟨h1, h2, h3⟩ := fstP_some e
      exact ⟨by omega, h2, h3⟩
    | none =>
      rw [e] at h
      by_cases c : p m
      · simp only [if_pos c] at h
        cases h
        exact ⟨by omega, c, fstP_none.1 e⟩
      · simp only [if_neg c] at h
        cases h
theorem pick_head : ∀ {N : Nat}, pickL p N ≠ [] → ∃ x : Nat, x < N ∧ atL (pickL p N) 0 = (x : Int) ∧ p x ∧ ∀ i, i < x → ¬ p i
  | 0, h => absurd rfl h
  | N + 1, h => by
    by_cases c : p N
    · rw [pick_yes c] at h ⊢
      by_cases c0 : pickL p N = []
      · refine ⟨N, by omega, by rw [c0]; rfl, c, fun i hi hp => ?_⟩
        obtain ⟨j, j1, _⟩ := pick_has (p := p) hi hp
        rw [c0] at j1
        exact absurd j1 (Nat.not_lt_zero _)
      · obtain ⟨x, x1, x2, x3⟩ := pick_head c0
        exact ⟨x, by omega, by rw [at_append (List.length_pos_iff.2 c0)]; exact x2, x3⟩
    · rw [pick_no c] at h ⊢
      obtain ⟨x, x1, x2, x3⟩ := pick_head h
      exact ⟨x, by omega, x2, x3⟩
end
end Go.Vm
namespace Go.Vm.St
open Go.Proofs Go.Vm.Vat
set_option linter.unusedSimpArgs false
set_option linter.unusedVariables false
set_option maxRecDepth 10000
variable {n : Nat} {h : AHeap}
/-! ### The first wrong smell -/
/-- the smells 0 to k are not all right in any truth -/
def blkS (S : MS) (k : Nat) : Prop := ∀ t, t ∈ allE S → ∃ i, i ≤ k ∧ i < S.ns ∧ wrS S t i
noncomputable def firstF (S : MS) : Option Nat := fstP (blkS S) S.ns
noncomputable def firstV (S : MS) : Int := if faultS S = 0 then optI (firstF S) 0 else 0
noncomputable def firstE (S : MS) : Int := if faultS S = 0 then (if firstF S = none then 7 else 0) else faultS S
def headM (L : List (List Int)) : Nat → Int
  | 0 => 0
  | j + 1 => max (headM L j) (atL (L.getD j []) 0)
theorem headM_le {L : List (List Int)} : ∀ {j i : Nat}, i < j → atL (L.getD i []) 0 ≤ headM L j
  | j + 1, i, hi => by
    simp only [headM]
    by_cases c : i = j
    · rw [c]; omega
    · have := headM_le (L := L) (show i < j by omega)
      omega
theorem headM_at {L : List (List Int)} : ∀ {j : Nat}, headM L j = 0 ∨ ∃ i, i < j ∧ headM L j = atL (L.getD i []) 0
  | 0 => .inl rfl
  | j + 1 => by
    simp only [headM]
    rcases Int.le_total (headM L j) (atL (L.getD j []) 0) with c | c
    · right
      exact ⟨j, by omega, by omega⟩
    · rw [show max (headM L j) (atL (L.getD j []) 0) = headM L j by omega]
      rcases headM_at (L := L) (j := j) with q | ⟨i, i1, i2⟩
      · exact .inl q
      · exact .inr ⟨i, by omega, i2⟩
theorem allW_at {S : MS} {j : Nat} (hj : j < (allW S).length) : ∃ t, t ∈ allE S ∧ (allW S).getD j [] = wrongL S t := by
  have hm : (allW S).getD j [] ∈ allW S := by
    rw [List.getD_eq_getElem?_getD, List.getElem?_eq_getElem hj]
    exact List.getElem_mem hj
  obtain ⟨t, ht, e⟩ := List.mem_map.1 hm
  exact ⟨t, ht, e.symm⟩
theorem allW_of {S : MS} {t : Nat → Int} (ht : t ∈ allE S) : ∃ j, j < (allW S).length ∧ (allW S).getD j [] = wrongL S t := by
  have hm : wrongL S t ∈ allW S := List.mem_map.2 ⟨t, ht, rfl⟩
  obtain ⟨j, hj, e⟩ := List.getElem_of_mem hm
  exact ⟨j, hj, by rw [List.getD_eq_getElem?_getD, List.getElem?_eq_getElem hj]; exact e⟩
theorem first_none {S : MS} {j : Nat} (hj : j < (allW S).length) (h0 : (allW S).getD j [] = []) : firstF S = none := by
  obtain ⟨t, ht, e⟩ := allW_at hj
  rw [h0] at e
  refine fstP_none.2 fun k hk hb => ?_
  obtain ⟨i, _, i2, i3⟩ := hb t ht
  obtain ⟨q, q1, _⟩ := pick_has (p := wrS S t) i2 i3
  have q1 : q < (wrongL S t).length := q1
  rw [← e] at q1
  exact absurd q1 (Nat.not_lt_zero _)
theorem first_some {S : MS} (hG : Good S) (hn : ∀ j, j < (allW S).length → (allW S).getD j [] ≠ []) : ∃ N : Nat, firstF S = some N ∧ headM (allW S) (allW S).length = (N : Int) := by
  have hpos : 0 < (allW S).length := by
    unfold allW
    rw [List.length_map]
    exact List.length_pos_iff.2 (allE_ne hG)
  have hhead : ∀ j, j < (allW S).length → ∃ t, t ∈ allE S ∧ ∃ x : Nat, x < S.ns ∧ atL ((allW S).getD j []) 0 = (x : Int) ∧ wrS S t x ∧ ∀ i, i < x → ¬ wrS S t i := fun j hj => by
    obtain ⟨t, ht, e⟩ := allW_at hj
    have hne := hn j hj
    rw [e] at hne
    obtain ⟨x, x1, x2, x3, x4⟩ := pick_head hne
    exact ⟨t, ht, x, x1, by rw [e]; exact x2, x3, x4⟩
  obtain ⟨N, hN, j0, hj0, hN0⟩ : ∃ N : Nat, headM (allW S) (allW S).length = (N : Int) ∧ ∃ j, j < (allW S).length ∧ atL ((allW S).getD j []) 0 = (N : Int) := by
    rcases headM_at (L := allW S) (j := (allW S).length) with q | ⟨j, j1, j2⟩
    · obtain ⟨t, _, x, x1, x2, _⟩ := hhead 0 hpos
      have := headM_le (L := allW S) hpos
      exact ⟨0, q, 0, hpos, by omega⟩
    · obtain ⟨t, _, x, x1, x2, _⟩ := hhead j j1
      exact ⟨x, by rw [j2, x2], j, j1, x2⟩
  refine ⟨N, ?_, hN⟩
  obtain ⟨t0, ht0, x0, x1, x2, x3, x4⟩ := hhead j0 hj0
  have hx0 : x0 = N := by omega
  subst hx0
  refine fstP_at x1 (fun i hi hb => ?_) (fun t ht => ?_)
  · obtain ⟨k, k1, k2, k3⟩ := hb t0 ht0
    exact x4 k (by omega) k3
  · obtain ⟨j, hj, e⟩ := allW_of ht
    have hne := hn j hj
    rw [e] at hne
    obtain ⟨x, y1, y2, y3, y4⟩ := pick_head hne
    have hle := headM_le (L := allW S) hj
    rw [e] at hle
    have y2 : atL (wrongL S t) 0 = (x : Int) := y2
    exact ⟨x, by omega, y1, y3⟩
def s51 : SCode := (.seq (.ops [⟨(some 1), none, .box (T 0)⟩, ⟨(some 2), none, .mov (.const (.int .i64 (0)))⟩, ⟨(some 3), none, .mov (.const (.int .i64 (0)))⟩]) (.seq (.seq (.ops [⟨(some 8), none, .loadN 7 (T 1)⟩, ⟨(some 9), none, .call (.func 30) [(T 8)]⟩, ⟨(some 4), none, .mov (T 9)⟩]) (.seq (.ops [⟨(some 10), none, .mov (T 4)⟩, ⟨(some 11), none, .int2 .neq (T 10) (.const (.int .i64 (0)))⟩]) (.cond (T 11) (.seq (.ops [⟨(some 12), none, .mov (T 4)⟩, ⟨(some 2), none, .mov (.const (.int .i64 (0)))⟩, ⟨(some 3), none, .mov (T 12)⟩]) .ret) .skip))) (.seq (.ops [⟨(some 5), none, .mov (.const (.int .i64 (0)))⟩]) (.seq (.seq (.ops [⟨(some 13), none, .loadN 7 (T 1)⟩, ⟨(some 14), none, .build #[(0, 7), (7, 1)] [(.int .i64 (0)), (.int .i64 (0)), (.slice none 0 0), (.int .i64 (0)), (.int .i64 (0)), (.slice none 0 0), (.slice none 0 0), (.slice none 0 0)] [0] [(T 13)]⟩, ⟨(some 15), none, .call (.func 96) [(T 14)]⟩, ⟨(some 16), none, .len (T 15)⟩, ⟨(some 17), none, .mov (.const (.int .i64 (0)))⟩]) (.block 0 (.loop (.seq (.ops [⟨(some 18), none, .int2 .lss (T 17) (T 16)⟩]) (.seq (.cond (T 18) .skip (.exit 0)) (.seq (.block 1 (.seq (.ops [⟨(some 19), none, .idxSl 1 (T 15) (T 17)⟩, ⟨(some 20), none, .load1 (T 19)⟩, ⟨(some 7), none, .mov (T 20)⟩]) (.seq (.seq (.ops [⟨(some 21), none, .mov (T 7)⟩, ⟨(some 22), none, .len (T 21)⟩, ⟨(some 23), none, .int2 .eql (T 22) (.const (.int .i64 (0)))⟩]) (.cond (T 23) (.seq (.ops [⟨(some 2), none, .mov (.const (.int .i64 (0)))⟩, ⟨(some 3), none, .mov (.const (.int .i64 (7)))⟩]) .ret) .skip)) (.ops [⟨(some 24), none, .mov (T 5)⟩, ⟨(some 25), none, .mov (T 7)⟩, ⟨(some 26), none, .idxSl 1 (T 25) (.const (.int .i64 (0)))⟩, ⟨(some 27), none, .load1 (T 26)⟩, ⟨(some 28), none, .plain (.call { callee := .builtin .max, args := #[(T 24), (T 27)], argTypes := #[3, 3] }) 3⟩, ⟨(some 5), none, .mov (T 28)⟩])))) (.ops [⟨(some 29), none, .int2 .add (T 17) (.const (.int .i64 (1)))⟩, ⟨(some 17), none, .mov (T 29)⟩]))))))) (.seq (.ops [⟨(some 30), none, .mov (T 5)⟩, ⟨(some 2), none, .mov (T 30)⟩, ⟨(some 3), none, .mov (.const (.int .i64 (0)))⟩]) .ret)))))
theorem fok51 : FnOk Try.prog 51 31 s51 [.tmp 2, .tmp 3] := ⟨Try.f51, _, Try.func51, rfl, Try.ntmps51, by kernel_rfl, by kernel_rfl⟩
set_option maxHeartbeats 2000000 in
theorem firstP_c (hn : 2600 ≤ n) (hr : h.next + 1200000 < far) {wv vv sv : Value} {S : MS} (hy : SteepR h wv vv sv S) (hT : ThinS S) :
    call n (.func (.func 51) #[] #[]) [.agg ⟨stL S wv vv sv⟩] h = some (.tuple ⟨[.int .i64 (firstV S), .int .i64 (firstE S)]⟩, h) := by
  obtain ⟨n, rfl⟩ : ∃ p, n = p + 1 := ⟨n - 1, by omega⟩
  refine call_plain0 fok51 rfl rfl (by simp) rfl ?_
  have hy := hy.shut
  have hr : h.shutAll.next + 1200000 < far := hr
  have hfl : h.shutAll.floor ≤ h.shutAll.next := Nat.le_refl _
  generalize h.shutAll = h at hy hr hfl
  simp only [s51, W_seq, W_ops]
  refine ops_box (cs := stL S wv vv sv) (by omega) rfl hy.one fun g1 hx1 => ?_
  have n1 := hx1.next
  have f1 := hx1.floor
  have hy1 := hy.mono hx1.sub
  have w1 := hx1.row.whole (n := 7) rfl
  have ec := check_c (n := n) (h := g1) (by omega) (by omega) hy1 hT
  by_cases hf : faultS S = 0
  case neg =>
    have q1 : firstV S = 0 := if_neg hf
    have q2 : firstE S = faultS S := if_neg hf
    rw [q1, q2]
    simp only [rn0, rn1, rn2, rn3, rn4, rn5, rn6, rn7, rn8, if_true, if_false, Nat.le_refl, true_and, and_true, decide_true, decide_false, Bool.not_true, Bool.not_false, reduceIte, Nat.reduceEqDiff, Nat.reduceAdd, Nat.reduceMul, Nat.reduceSub, Nat.reduceLeDiff, Nat.reduceLT, w1, ec, hf, ret_tt]
  have hG := good_of hf
  have q1 : firstV S = optI (firstF S) 0 := if_pos hf
  have q2 : firstE S = if firstF S = none then 7 else 0 := if_pos hf
  obtain ⟨_, _, _, _, _, z5, _⟩ := hG.sizes
  have hlenW : (allW S).length ≤ 2000 := by unfold allW; rw [List.length_map]; exact enum_len hG
  obtain ⟨av, g2, e2, ⟨R, hcR, hiR⟩, oav, o2, u2, m2, f2⟩ := wrongAll_c (n := n) (h := g1) (by omega) (by omega) (by omega) hy1 hG
  simp only [rn0, rn1, rn2, rn3, rn4, rn5, rn6, rn7, rn8, if_true, if_false, Nat.le_refl, true_and, and_true, decide_true, decide_false, Bool.not_true, Bool.not_false, reduceIte, Nat.reduceEqDiff, Nat.reduceAdd, Nat.reduceMul, Nat.reduceSub, Nat.reduceLeDiff, Nat.reduceLT, w1, ec, hf, build_wk, e2, Cells.len hcR]
  refine W_loop (allW S).length (fun j f g ms => (g = g2 ∧ ∀ i, i < j → (allW S).getD i [] ≠ []) ∧ ms = [] ∧ f 5 = .int .i64 (headM (allW S) j) ∧ f 15 = av ∧ f 16 = .int .i64 ((allW S).length : Int) ∧ f 17 = .int .i64 (j : Int)) (by simp; omega) ?_ ?_ ?_
  · simp only [rn0, rn1, rn2, rn3, rn4, rn5, rn6, rn7, rn8, if_true, if_false, Nat.le_refl, true_and, and_true, decide_true, decide_false, Bool.not_true, Bool.not_false, reduceIte, Nat.reduceEqDiff, Nat.reduceAdd, Nat.reduceMul, Nat.reduceSub, Nat.reduceLeDiff, Nat.reduceLT, headM]
    first | exact ⟨⟨rfl, fun i hi => absurd hi (Nat.not_lt_zero _)⟩, rfl⟩ | exact ⟨fun i hi => absurd hi (Nat.not_lt_zero _), rfl⟩ | exact fun i hi => absurd hi (Nat.not_lt_zero _)
  · rintro j f g ms hj ⟨⟨rfl, hno⟩, rfl, p5, p15, p16, p17⟩
    have hj' : (j : Int) < ((allW S).length : Int) := by omega
    have hwj : wrapF .i64 ((j : Int) + 1) = ((j + 1 : Nat) : Int) := by rw [wrap_in (by omega) (by omega)]; rfl
    have hij := hiR j hj
    by_cases c : (allW S).getD j [] = []
    · have hl0 : (((allW S).getD j []).length : Int) = 0 := by rw [c]; rfl
      have hN := first_none hj c
      have q3 : optI (firstF S) 0 = 0 := by rw [hN]; rfl
      rw [q1, q2, q3, if_pos hN]
      simp only [rn0, rn1, rn2, rn3, rn4, rn5, rn6, rn7, rn8, if_true, if_false, Nat.le_refl, true_and, and_true, decide_true, decide_false, Bool.not_true, Bool.not_false, reduceIte, Nat.reduceEqDiff, Nat.reduceAdd, Nat.reduceMul, Nat.reduceSub, Nat.reduceLeDiff, Nat.reduceLT, p5, p15, p16, p17, hj', Cells.idx hcR hj, Cells.ld hcR hj Nat.zero_lt_one, Cells.len hij, hl0, ret_tt]
    · have hlp : 0 < ((allW S).getD j []).length := List.length_pos_iff.2 c
      have hl0 : ¬ (((allW S).getD j []).length : Int) = 0 := by omega
      have i0 : indexSl 1 (R j) (.int .i64 0) = some (ptrO (R j) 1 0 0) := Cells.idx hij hlp
      have l0 := Cells.ld hij hlp Nat.zero_lt_one
      have hno2 : ∀ i, i < j + 1 → (allW S).getD i [] ≠ [] := fun i hi => by
        by_cases e : i = j
        · rw [e]; exact c
        · exact hno i (by omega)
      have hmx : max (headM (allW S) j) (atL ((allW S).getD j []) 0) = headM (allW S) (j + 1) := rfl
      simp only [rn0, rn1, rn2, rn3, rn4, rn5, rn6, rn7, rn8, if_true, if_false, Nat.le_refl, true_and, and_true, decide_true, decide_false, Bool.not_true, Bool.not_false, reduceIte, Nat.reduceEqDiff, Nat.reduceAdd, Nat.reduceMul, Nat.reduceSub, Nat.reduceLeDiff, Nat.reduceLT, p5, p15, p16, p17, hj', Cells.idx hcR hj, Cells.ld hcR hj Nat.zero_lt_one, Cells.len hij, hl0, i0, l0, valN_tmp, Nat.reduceLT, hmx, hwj]
      first | exact ⟨⟨rfl, hno2⟩, rfl⟩ | exact ⟨rfl, hno2⟩ | exact ⟨hno2, rfl⟩ | exact hno2
  · rintro f g ms ⟨⟨rfl, hno⟩, rfl, p5, p15, p16, p17⟩
    obtain ⟨N, hN, hM⟩ := first_some hG hno
    have q3 : optI (firstF S) 0 = (N : Int) := by rw [hN]; rfl
    have q4 : (if firstF S = none then (7 : Int) else 0) = 0 := by rw [hN]; rfl
    rw [q1, q2, q3, q4]
    rw [hM] at p5
    simp only [rn0, rn1, rn2, rn3, rn4, rn5, rn6, rn7, rn8, if_true, if_false, Nat.le_refl, true_and, and_true, decide_true, decide_false, Bool.not_true, Bool.not_false, reduceIte, Nat.reduceEqDiff, Nat.reduceAdd, Nat.reduceMul, Nat.reduceSub, Nat.reduceLeDiff, Nat.reduceLT, p5, p15, p16, p17, Int.lt_irrefl, ret_tt]
/-! ### .. by the reference -/
theorem can_blk {S : MS} {k : Nat} (hk : k < S.ns) : CanB S (2 ^ (k + 1) - 1) ↔ ¬ blkS S k := by
  constructor
  · rintro ⟨t, ht, hr⟩ hb
    obtain ⟨i, i1, i2, i3⟩ := hb t ht
    exact i3 (hr i i2 (low_bits.2 (by omega)))
  · intro hb
    apply Classical.byContradiction
    intro hn
    refine hb fun t ht => ?_
    apply Classical.byContradiction
    intro hno
    refine hn ⟨t, ht, fun x hx hbx => ?_⟩
    have hxk := low_bits.1 hbx
    apply Classical.byContradiction
    intro hw
    exact hno ⟨x, by omega, hx, hw⟩
end Go.Vm.St

namespace Go.Vm.St
open Go.Proofs Go.Vm.Vat
set_option linter.unusedSimpArgs false
set_option linter.unusedVariables false
set_option maxRecDepth 10000
variable {n : Nat} {h : AHeap}
/-! ### A steep with some of its smells -/
def pickedS (S : MS) (bits : Nat) : MS := { S with ns := (selTo bits S.ns).length, sv := fun k => S.sv ((selTo bits S.ns).getD k 0), sh := fun k => S.sh ((selTo bits S.ns).getD k 0), sk := fun k => S.sk ((selTo bits S.ns).getD k 0) }
def smC (S : MS) (l : List Nat) (k j : Nat) : Value := .int .i64 (if j = 0 then S.sv (l.getD k 0) else if j = 1 then S.sh (l.getD k 0) else S.sk (l.getD k 0))
def zr7 : List Value := [.int .i64 0, .int .i64 0, nilS, .int .i64 0, .int .i64 0, nilS, nilS]
def s71 : SCode := (.seq (.ops [⟨(some 2), none, .box (T 0)⟩, ⟨(some 4), none, .alloc [(.int .i64 (0)), (.int .i64 (0)), (.slice none 0 0), (.int .i64 (0)), (.int .i64 (0)), (.slice none 0 0), (.slice none 0 0)]⟩]) (.seq (.ops [⟨(some 7), none, .loadN 7 (T 2)⟩, ⟨(some 5), none, .alloc [(.int .i64 (0)), (.int .i64 (0)), (.slice none 0 0), (.int .i64 (0)), (.int .i64 (0)), (.slice none 0 0), (.slice none 0 0)]⟩, ⟨none, none, .store 7 (T 5) (T 7)⟩]) (.seq (.ops [⟨(some 8), none, .fieldAddr 6 (T 5)⟩, ⟨none, none, .store 1 (T 8) (.const (.slice none 0 0))⟩]) (.seq (.seq (.ops [⟨(some 6), none, .mov (.const (.int .i64 (0)))⟩]) (.block 0 (.loop (.seq (.seq (.ops [⟨(some 9), none, .mov (T 6)⟩, ⟨(some 10), none, .fieldAddr 6 (T 2)⟩, ⟨(some 11), none, .load1 (T 10)⟩, ⟨(some 12), none, .len (T 11)⟩, ⟨(some 13), none, .int2 .lss (T 9) (T 12)⟩]) (.cond (T 13) .skip (.exit 0))) (.seq (.block 1 (.seq (.ops [⟨(some 16), none, .mov (T 1)⟩, ⟨(some 17), none, .mov (T 6)⟩, ⟨(some 18), none, .plain (.convert 3 114 (T 17)) 114⟩, ⟨(some 19), none, .plain (.binOp .shr 3 (T 16) (T 18) 114) 3⟩, ⟨(some 20), none, .plain (.binOp .rem 3 (T 19) (.const (.int .i64 (2))) 3) 3⟩, ⟨(some 21), none, .int2 .eql (T 20) (.const (.int .i64 (1)))⟩]) (.cond (T 21) (.draw [⟨.free, ⟨(some 22), none, .fieldAddr 6 (T 5)⟩⟩, ⟨.rd, ⟨(some 23), none, .load1 (T 22)⟩⟩, ⟨.free, ⟨(some 24), none, .fieldAddr 6 (T 2)⟩⟩, ⟨.rd1, ⟨(some 25), none, .load1 (T 24)⟩⟩, ⟨.free, ⟨(some 26), none, .mov (T 6)⟩⟩, ⟨.free, ⟨(some 27), none, .idxSl 3 (T 25) (T 26)⟩⟩, ⟨.rd1, ⟨(some 28), none, .loadN 3 (T 27)⟩⟩, ⟨.up, ⟨(some 29), none, .bslice 3 1 [(.int .i64 (0)), (.int .i64 (0)), (.int .i64 (0))] [0] [(T 28)]⟩⟩, ⟨.any, ⟨(some 30), none, .append 3 24 (T 23) (T 29)⟩⟩, ⟨.free, ⟨(some 31), none, .fieldAddr 6 (T 5)⟩⟩, ⟨.any, ⟨none, none, .store 1 (T 31) (T 30)⟩⟩]) .skip))) (.ops [⟨(some 14), none, .mov (T 6)⟩, ⟨(some 15), none, .int2 .add (T 14) (.const (.int .i64 (1)))⟩, ⟨(some 6), none, .mov (T 15)⟩])))))) (.seq (.ops [⟨(some 32), none, .loadN 7 (T 5)⟩, ⟨none, none, .store 7 (T 4) (T 32)⟩]) .ret)))))
theorem fok71 : FnOk Try.prog 71 33 s71 [.cellN 4 7] := ⟨Try.f71, _, Try.func71, rfl, Try.ntmps71, by kernel_rfl, by kernel_rfl⟩
set_option maxHeartbeats 2000000 in
theorem some_c (hn : 10 ≤ n) (hr : h.next + 200 < far) (hfl : h.floor ≤ h.next) {wv vv sv : Value} {S : MS} (hy : SteepR h wv vv sv S) (hs5 : S.ns ≤ 5) {bits : Nat} :
    ∃ sv' h', call n (.func (.func 71) #[] #[]) [.agg ⟨stL S wv vv sv⟩, .int .i64 (bits : Int)] h = some (.agg ⟨stL (pickedS S bits) wv vv sv'⟩, h') ∧ SteepR h' wv vv sv' (pickedS S bits) ∧ (∀ i, i < h.next → h'.get i = h.get i) ∧ h.next ≤ h'.next ∧ h'.next ≤ h.next + 100 ∧ h'.floor = h.floor := by
  obtain ⟨n, rfl⟩ : ∃ p, n = p + 1 := ⟨n - 1, by omega⟩
  suffices hsuf : ∃ v h', call (n + 1) (.func (.func 71) #[] #[]) [.agg ⟨stL S wv vv sv⟩, .int .i64 (bits : Int)] h = some (v, h') ∧ ∃ sv', v = .agg ⟨stL (pickedS S bits) wv vv sv'⟩ ∧ SteepR h' wv vv sv' (pickedS S bits) ∧ (∀ i, i < h.next → h'.get i = h.get i) ∧ h.next ≤ h'.next ∧ h'.next ≤ h.next + 100 ∧ h'.floor = h.floor by
    obtain ⟨v, h', e, sv', rfl, h1⟩ := hsuf
    exact ⟨sv', h', e, h1⟩
  refine call_any0 fok71 rfl rfl (by simp) ?_
  simp only [s71, W_seq, W_ops]
  refine ops_box (cs := stL S wv vv sv) (by omega) rfl hy.one fun g1 hx1 => ?_
  have n1 := hx1.next
  have f1' := hx1.floor
  have e1 : g1.next = h.next + 1 := n1
  simp only [rn0, rn1, rn2, rn3, rn4, rn5, rn6, rn7, rn8, if_true, if_false, Nat.le_refl, true_and, and_true, decide_true, decide_false, Bool.not_true, Bool.not_false, reduceIte, Nat.reduceEqDiff, Nat.reduceAdd, Nat.reduceMul, Nat.reduceSub, Nat.reduceLeDiff, Nat.reduceLT]
  refine step_row (cs := zr7) (by omega) rfl rfl fun g2 hx2 => ?_
  have n2 := hx2.next
  have f2' := hx2.floor
  have e2 : g2.next = h.next + 2 := by omega
  have w2 := (hx1.row.mono hx2.sub).whole (n := 7) rfl
  simp only [rn0, rn1, rn2, rn3, rn4, rn5, rn6, rn7, rn8, if_true, if_false, Nat.le_refl, true_and, and_true, decide_true, decide_false, Bool.not_true, Bool.not_false, reduceIte, Nat.reduceEqDiff, Nat.reduceAdd, Nat.reduceMul, Nat.reduceSub, Nat.reduceLeDiff, Nat.reduceLT, w2]
  refine step_new (vs := stL S wv vv sv) (by omega) (by omega) rfl (by simp only [rn0, rn1, rn2, rn3, rn4, rn5, rn6, rn7, rn8, if_true, if_false, Nat.le_refl, true_and, and_true, decide_true, decide_false, Bool.not_true, Bool.not_false, reduceIte, Nat.reduceEqDiff, Nat.reduceAdd, Nat.reduceMul, Nat.reduceSub, Nat.reduceLeDiff, Nat.reduceLT]; rfl) hy.one rfl rfl fun g3 hx3 => ?_
  have n3 := hx3.next
  have f3' := hx3.floor
  have hg3 := hx3.get
  simp only [rn0, rn1, rn2, rn3, rn4, rn5, rn6, rn7, rn8, if_true, if_false, Nat.le_refl, true_and, and_true, decide_true, decide_false, Bool.not_true, Bool.not_false, reduceIte, Nat.reduceEqDiff, Nat.reduceAdd, Nat.reduceMul, Nat.reduceSub, Nat.reduceLeDiff, Nat.reduceLT, Nat.zero_add]
  refine step_store (b := g2.next) (off := 6) (vs := [nilS]) rfl hg3 (by omega) (by omega) rfl rfl rfl (by simp [stL]) fun g4 hs4 => ?_
  have hspl : splice (stL S wv vv sv) 6 [nilS] = stL S wv vv nilS := rfl
  rw [hspl] at hs4
  have n4 := hs4.next
  have f4' := hs4.floor
  have o4 : ∀ i, i < h.next + 2 → g4.get i = g2.get i := fun i hi => by rw [hs4.old i (by omega), hx3.old i (by omega)]
  have hsub : Sub All h g4 := AHeap.subOf fun i hi => by rw [o4 i (by omega), hx2.old i (by omega), hx1.old i hi]
  have hold4 : ∀ i, i < h.next → g4.get i = h.get i := fun i hi => by rw [o4 i (by omega), hx2.old i (by omega), hx1.old i hi]
  have hbox : Row g4 h.next (stL S wv vv sv) := by
    obtain ⟨w, gr, e⟩ := hx1.row
    exact ⟨w, gr, by rw [o4 _ (by omega), hx2.old _ (by omega)]; exact e⟩
  have hres : g4.get (h.next + 1) = some (.row zr7 true 0) := by rw [o4 _ (by omega)]; have := hx2.get; rw [e1] at this; exact this
  have hout : g4.get (h.next + 2) = some (.row (stL S wv vv nilS) true 0) := by have := hs4.get; rw [e2] at this; exact this
  have e4 : g4.next = h.next + 3 := by omega
  have ef4 : g4.floor = h.floor := by omega
  rw [e1, e2]
  clear hs4 hx3 hx2 hx1 hg3
  have hall : ∀ {g : AHeap}, Keep (h.next + 2) g4 g → Sub All h g := fun st i cs w gr _ hg => st.sub i cs w gr (by have := AHeap.lt_of_get hg; omega) (hsub _ _ _ _ trivial hg)
  simp only [rn0, rn1, rn2, rn3, rn4, rn5, rn6, rn7, rn8, if_true, if_false, Nat.le_refl, true_and, and_true, decide_true, decide_false, Bool.not_true, Bool.not_false, reduceIte, Nat.reduceEqDiff, Nat.reduceAdd, Nat.reduceMul, Nat.reduceSub, Nat.reduceLeDiff, Nat.reduceLT]
  refine W_loop S.ns (fun k f g m => (∃ X, Keep (h.next + 2) g4 g ∧ (∀ i, i < h.next → g.get i = h.get i) ∧ g.get (h.next + 2) = some (.row (stL S wv vv X) true 0) ∧ GrowC g4.next g X 3 (selTo bits k).length (smC S (selTo bits k)) ∧ g.next ≤ g4.next + 2 * k) ∧ m = [] ∧ f 1 = .int .i64 (bits : Int) ∧ f 2 = .pointer (some ⟨h.next, 0, none⟩) ∧ f 4 = .pointer (some ⟨h.next + 1, 0, none⟩) ∧ f 5 = .pointer (some ⟨h.next + 2, 0, none⟩) ∧ f 6 = .int .i64 (k : Int)) (by simp; omega) ?_ ?_ ?_
  · simp only [rn0, rn1, rn2, rn3, rn4, rn5, rn6, rn7, rn8, if_true, if_false, Nat.le_refl, true_and, and_true, decide_true, decide_false, Bool.not_true, Bool.not_false, reduceIte, Nat.reduceEqDiff, Nat.reduceAdd, Nat.reduceMul, Nat.reduceSub, Nat.reduceLeDiff, Nat.reduceLT]
    first | exact ⟨⟨_, Keep.refl, hold4, hout, .nil, by omega⟩, rfl⟩ | exact ⟨_, Keep.refl, hold4, hout, .nil, by omega⟩
  · rintro k f g m hk ⟨⟨X, st, hold, go, gS, hgn⟩, rfl, f1, f2, f4, f5, f6⟩
    have hk' : (k : Int) < (S.ns : Int) := by omega
    have hw : wrapF .i64 ((k : Int) + 1) = ((k + 1 : Nat) : Int) := by rw [wrap_in (by omega) (by omega)]; rfl
    have hrow : Row g (h.next + 2) (stL S wv vv X) := ⟨_, _, go⟩
    have hbx := hbox.keep st (by omega)
    have hSm := (hy.mono (hall st)).s
    have hup := st.up
    have hfg := st.floor
    have hlk := selTo_len (bits := bits) k
    have hm2 : ((bits / 2 ^ k : Nat) : Int).tmod 2 = ((bits / 2 ^ k % 2 : Nat) : Int) := rfl
    have z2 : ¬ (2 : Int) = 0 := by decide
    by_cases hb : bits / 2 ^ k % 2 = 1
    · have hb' : ((bits / 2 ^ k % 2 : Nat) : Int) = 1 := by omega
      simp only [rn0, rn1, rn2, rn3, rn4, rn5, rn6, rn7, rn8, if_true, if_false, Nat.le_refl, true_and, and_true, decide_true, decide_false, Bool.not_true, Bool.not_false, reduceIte, Nat.reduceEqDiff, Nat.reduceAdd, Nat.reduceMul, Nat.reduceSub, Nat.reduceLeDiff, Nat.reduceLT, f1, f2, f4, f5, f6, hbx.ld, stg, Nat.zero_add, Nat.add_zero, Cells.len hSm, hk', p_uint, r_conv (k := k) (by omega), p_shr, r_shr (a := bits) (k := k) (by omega), valN_tmp, valN_const, Nat.reduceLT, r_rem z2, hm2, hb']
      refine W_draw All ?_
      simp only [rn0, rn1, rn2, rn3, rn4, rn5, rn6, rn7, rn8, if_true, if_false, Nat.le_refl, true_and, and_true, decide_true, decide_false, Bool.not_true, Bool.not_false, reduceIte, Nat.reduceEqDiff, Nat.reduceAdd, Nat.reduceMul, Nat.reduceSub, Nat.reduceLeDiff, Nat.reduceLT, f1, f2, f4, f5, f6, hbx.ld, hrow.ld, stg, Nat.zero_add, Nat.add_zero, gS.cells.self, Cells.idx hSm hk, samps_ld hSm hk, sl_samp]
      refine up_slice (by omega) rfl (fun g1 hx => hx.sub) fun g1 hx => ?_
      have hgx := hx.next
      have hgf := hx.floor
      have hsucc := selTo_yes hb
      have gS1 : GrowC g4.next g1 X 3 (selTo bits k).length (smC S (selTo bits (k + 1))) := (gS.keep (hx.keep (o := h.next + 2)) (by omega)).congr fun i j hi hj => by
        unfold smC
        rw [hsucc, List.getD_eq_getElem?_getD, List.getD_eq_getElem?_getD, List.getElem?_append_left hi]
      have hlast : (selTo bits (k + 1)).getD (selTo bits k).length 0 = k := by rw [hsucc, List.getD_eq_getElem?_getD, List.getElem?_append_right (Nat.le_refl _)]; simp
      obtain ⟨S', g2, e, e', gS', hk2⟩ := gS1.append (bytes := 24) (cap := 1) (by omega) (by omega) (by omega) hx.get rfl rfl (fun j hj => by
        unfold smC
        rw [hlast]
        obtain rfl | rfl | rfl : j = 0 ∨ j = 1 ∨ j = 2 := by omega
        all_goals rfl) (by simp [maxBytes]; omega) (by simp [maxBytes]; omega)
      obtain ⟨st2, go2⟩ := grew (st.trans hx.keep) hk2 (fun a k c e => (gS1.block e).1) (by omega) (hx.sub _ _ _ _ trivial go)
      have hgx2 := hk2.next
      have hgf2 := hk2.floor
      have hl1 : (selTo bits (k + 1)).length = (selTo bits k).length + 1 := by rw [hsucc, List.length_append, List.length_singleton]
      have hold2 : ∀ i, i < h.next → g2.get i = h.get i := fun i hi => by
        rw [hk2.old i (by omega) (fun a k c e => by have := (gS1.block e).1; omega), hx.old i (by omega), hold i hi]
      simp only [rn0, rn1, rn2, rn3, rn4, rn5, rn6, rn7, rn8, if_true, if_false, Nat.le_refl, true_and, and_true, decide_true, decide_false, Bool.not_true, Bool.not_false, reduceIte, Nat.reduceEqDiff, Nat.reduceAdd, Nat.reduceMul, Nat.reduceSub, Nat.reduceLeDiff, Nat.reduceLT, f1, f2, f4, f5, f6, e, Nat.add_zero, Nat.zero_add]
      refine ⟨by omega, up_store (vs := [S']) rfl go2 (by omega) (by omega) (by rw [e']; rfl) (by simp [allB, gS'.one]) rfl (by simp [stL]) (fun _ _ => trivial) fun g3 hs => ?_⟩
      have hgx3 := hs.next
      have hspl : splice (stL S wv vv X) 6 [S'] = stL S wv vv S' := rfl
      have hg3 := hs.get
      rw [hspl] at hg3
      simp only [rn0, rn1, rn2, rn3, rn4, rn5, rn6, rn7, rn8, if_true, if_false, Nat.le_refl, true_and, and_true, decide_true, decide_false, Bool.not_true, Bool.not_false, reduceIte, Nat.reduceEqDiff, Nat.reduceAdd, Nat.reduceMul, Nat.reduceSub, Nat.reduceLeDiff, Nat.reduceLT, f1, f2, f4, f5, f6, hw, Nat.add_zero]
      rw [hl1]
      have hold3 : ∀ i, i < h.next → g3.get i = h.get i := fun i hi => by rw [hs.old i (by omega), hold2 i hi]
      first | exact ⟨⟨_, set_keep st2 hs, hold3, hg3, gS'.keep hs.keep (by omega), by omega⟩, rfl⟩ | exact ⟨_, set_keep st2 hs, hold3, hg3, gS'.keep hs.keep (by omega), by omega⟩
    · have hb' : ¬ ((bits / 2 ^ k % 2 : Nat) : Int) = 1 := by omega
      simp only [rn0, rn1, rn2, rn3, rn4, rn5, rn6, rn7, rn8, if_true, if_false, Nat.le_refl, true_and, and_true, decide_true, decide_false, Bool.not_true, Bool.not_false, reduceIte, Nat.reduceEqDiff, Nat.reduceAdd, Nat.reduceMul, Nat.reduceSub, Nat.reduceLeDiff, Nat.reduceLT, f1, f2, f4, f5, f6, hbx.ld, stg, Nat.zero_add, Nat.add_zero, Cells.len hSm, hk', p_uint, r_conv (k := k) (by omega), p_shr, r_shr (a := bits) (k := k) (by omega), valN_tmp, valN_const, Nat.reduceLT, r_rem z2, hm2, hb', hw]
      rw [selTo_no hb]
      first | exact ⟨⟨_, st, hold, go, gS, by omega⟩, rfl⟩ | exact ⟨_, st, hold, go, gS, by omega⟩
  · rintro f g m ⟨⟨X, st, hold, go, gS, hgn⟩, rfl, f1, f2, f4, f5, f6⟩
    have hbx := hbox.keep st (by omega)
    have hy' := hy.mono (hall st)
    have hup := st.up
    have hfg := st.floor
    have w5 := (show Row g (h.next + 2) (stL S wv vv X) from ⟨_, _, go⟩).whole (n := 7) rfl
    have hyX : SteepR g wv vv X (pickedS S bits) := ⟨hy'.w, hy'.v, gS.cells⟩
    have hone : allB oneCell (stL S wv vv X) = true := hyX.one
    simp only [rn0, rn1, rn2, rn3, rn4, rn5, rn6, rn7, rn8, if_true, if_false, Nat.le_refl, true_and, and_true, decide_true, decide_false, Bool.not_true, Bool.not_false, reduceIte, Nat.reduceEqDiff, Nat.reduceAdd, Nat.reduceMul, Nat.reduceSub, Nat.reduceLeDiff, Nat.reduceLT, f1, f2, f4, f5, f6, hbx.ld, stg, Nat.zero_add, Nat.add_zero, Cells.len hy'.s, Int.lt_irrefl, w5]
    refine step_store (b := h.next + 1) (off := 0) (vs := stL S wv vv X) rfl (st.sub _ _ _ _ (by omega) hres) (by omega) (by omega) rfl hone rfl (by simp [zr7]) fun g5 hs5 => ?_
    have hspl : splice zr7 0 (stL S wv vv X) = stL S wv vv X := rfl
    rw [hspl] at hs5
    have n5 := hs5.next
    have f5' := hs5.floor
    have w6 := hs5.row.whole (n := 7) rfl
    simp only [rn0, rn1, rn2, rn3, rn4, rn5, rn6, rn7, rn8, if_true, if_false, Nat.le_refl, true_and, and_true, decide_true, decide_false, Bool.not_true, Bool.not_false, reduceIte, Nat.reduceEqDiff, Nat.reduceAdd, Nat.reduceMul, Nat.reduceSub, Nat.reduceLeDiff, Nat.reduceLT, f4, w6]
    have k5 : Sub All h g5 := fun i cs w gr _ hg => by
      have hlt := AHeap.lt_of_get hg
      exact hs5.keep.sub _ _ _ _ (by omega) (hall st _ _ _ _ trivial hg)
    have hy5 := hy.mono k5
    exact ⟨_, rfl, ⟨hy5.w, hy5.v, (gS.keep hs5.keep (by omega)).cells⟩, fun i hi => by rw [hs5.old i (by omega), hold i hi], by omega, by omega, by omega⟩
end Go.Vm.St

namespace Go.Vm.St
open Go.Proofs Go.Vm.Vat
set_option linter.unusedSimpArgs false
set_option linter.unusedVariables false
set_option maxRecDepth 10000
variable {n : Nat} {h : AHeap}
theorem allE_mem {S : MS} {c : Nat → Int} : c ∈ allE S ↔ InU S c ∧ ∀ j, numU S ≤ j → c j = 0 := by
  unfold allE
  rw [enumB_ok, Nat.zero_add]
  constructor
  · rintro ⟨h1, h2⟩; exact ⟨fun i hi => h1 i (Nat.zero_le _) hi, fun j hj => h2 j (.inr hj)⟩
  · rintro ⟨h1, h2⟩; exact ⟨fun i _ hi => h1 i hi, fun j hj => h2 j (by omega)⟩
theorem picked_right {S : MS} {b : Nat} {c : Nat → Int} : (∀ k, k < (pickedS S b).ns → RightS (pickedS S b) c k) ↔ ∀ x, x < S.ns → Bit b x → RightS S c x := by
  have hget : ∀ k, k < (selTo b S.ns).length → (selTo b S.ns).getD k 0 ∈ selTo b S.ns := fun k hk => by rw [List.getD_eq_getElem?_getD, List.getElem?_eq_getElem hk]; exact List.getElem_mem hk
  constructor
  · intro hk x hx hb
    obtain ⟨i, hi, he⟩ := List.getElem_of_mem (selTo_mem.2 ⟨hx, hb⟩)
    have := hk i hi
    have e : (selTo b S.ns).getD i 0 = x := by rw [List.getD_eq_getElem?_getD, List.getElem?_eq_getElem hi]; exact he
    have h2 : RightS S c ((selTo b S.ns).getD i 0) := this
    rw [e] at h2; exact h2
  · intro hx k hk
    obtain ⟨h1, h2⟩ := selTo_mem.1 (hget k hk)
    exact hx _ h1 h2
theorem picked_mem {S : MS} {b : Nat} {c : Nat → Int} : c ∈ truthsS (pickedS S b) ↔ c ∈ allE S ∧ ∀ x, x < S.ns → Bit b x → RightS S c x := by
  rw [truths_mem, picked_right, allE_mem]
  exact Iff.rfl
theorem picked_can {S : MS} {b : Nat} : truthsS (pickedS S b) ≠ [] ↔ CanB S b := by
  constructor
  · intro h
    obtain ⟨c, hc⟩ := List.exists_mem_of_ne_nil _ h
    exact ⟨c, picked_mem.1 hc⟩
  · rintro ⟨c, hc⟩ e
    have := picked_mem.2 hc
    rw [e] at this
    cases this
theorem picked_thin {S : MS} {b : Nat} (hT : ThinS S) : ThinS (pickedS S b) := ⟨hT.1, hT.2.1, Nat.le_trans (selTo_len _) hT.2.2⟩
theorem picked_good {S : MS} {b : Nat} (hG : Good S) : Good (pickedS S b) := by
  refine ⟨⟨hG.lim.1, hG.lim.2.1, Nat.le_trans (selTo_len _) hG.lim.2.2⟩, ⟨hG.args.head, hG.args.warm, hG.args.vat, fun k hk => ?_⟩, hG.few⟩
  have hk' : k < (selTo b S.ns).length := hk
  exact hG.args.smell _ (selTo_mem.1 (by rw [List.getD_eq_getElem?_getD, List.getElem?_eq_getElem hk']; exact List.getElem_mem hk')).1
theorem errP_can {S : MS} {b : Nat} (hG : Good S) (hc : CanB S b) : errT (pickedS S b) = 0 := errT_3 (fault_of (picked_good hG)) (picked_can.2 hc)
theorem errP_no {S : MS} {b : Nat} (hG : Good S) (hc : ¬ CanB S b) : errT (pickedS S b) = 11 := errT_2 (fault_of (picked_good hG)) (Classical.byContradiction fun h => hc (picked_can.1 h))
theorem stuckE_11 {S : MS} (he : errT S = 11) : stuckE S = 11 := by unfold stuckE; rw [if_neg (by omega), he]
def s70 : SCode := (.seq (.ops [⟨(some 1), none, .box (T 0)⟩, ⟨(some 2), none, .mov (.const (.bool false))⟩]) (.seq (.ops [⟨(some 6), none, .loadN 7 (T 1)⟩, ⟨(some 7), none, .call (.func 26) [(T 6)]⟩, ⟨(some 8), none, .call (.func 47) [(T 7)]⟩, ⟨(some 5), none, .mov (T 8)⟩, ⟨(some 9), none, .extract 0 (T 5)⟩, ⟨(some 10), none, .extract 1 (T 5)⟩, ⟨(some 3), none, .mov (T 9)⟩, ⟨(some 4), none, .mov (T 10)⟩]) (.seq (.ops [⟨(some 11), none, .mov (T 4)⟩, ⟨(some 12), none, .int2 .eql (T 11) (.const (.int .i64 (0)))⟩, ⟨(some 13), none, .mov (T 12)⟩, ⟨(some 14), (some (13, false)), .mov (T 4)⟩, ⟨(some 15), (some (13, false)), .int2 .eql (T 14) (.const (.int .i64 (7)))⟩, ⟨(some 16), none, .pick (T 13) (.const (.bool true)) (T 15)⟩, ⟨(some 2), none, .mov (T 16)⟩]) .ret)))
theorem fok70 : FnOk Try.prog 70 17 s70 [.tmp 2] := ⟨Try.f70, _, Try.func70, rfl, Try.ntmps70, by kernel_rfl, by kernel_rfl⟩
theorem can_c (hn : 2600 ≤ n) (hr : h.next + 1300000 < far) {wv vv sv : Value} {S : MS} (hy : SteepR h wv vv sv S) (hT : ThinS S) :
    call n (.func (.func 70) #[] #[]) [.agg ⟨stL S wv vv sv⟩] h = some (.bool (decide (errT S = 0)), h) := by
  obtain ⟨n, rfl⟩ : ∃ p, n = p + 1 := ⟨n - 1, by omega⟩
  refine call_plain0 fok70 rfl rfl (by simp) rfl ?_
  have hy := hy.shut
  have hr : h.shutAll.next + 1300000 < far := hr
  have hfl : h.shutAll.floor ≤ h.shutAll.next := Nat.le_refl _
  generalize h.shutAll = h at hy hr hfl
  simp only [s70, W_seq, W_ops]
  refine ops_box (cs := stL S wv vv sv) (by omega) rfl hy.one fun g1 hx1 => ?_
  have n1 := hx1.next
  have f1 := hx1.floor
  obtain ⟨w2, v2, s2, g2, e2, hy2, o2, u2, m2, f2⟩ := steepL_c (n := n) (h := g1) (by omega) (by omega) (by omega) (hy.mono hx1.sub) hT
  have eg := stuckP_c (n := n) (h := g2) (by omega) (by omega) hy2 hT
  simp only [rn0, rn1, rn2, rn3, rn4, rn5, rn6, rn7, rn8, if_true, if_false, Nat.le_refl, true_and, and_true, decide_true, decide_false, Bool.not_true, Bool.not_false, reduceIte, Nat.reduceEqDiff, Nat.reduceAdd, Nat.reduceMul, Nat.reduceSub, Nat.reduceLeDiff, Nat.reduceLT, hx1.row.whole (n := 7) rfl, e2, eg, ex0, ex1]
  by_cases he : errT S = 0
  · rw [decide_eq_true he]
    by_cases c : nilF S S.nv = none
    · have q : stuckE S = 7 := by unfold stuckE; rw [if_pos he, if_pos c]
      simp only [rn0, rn1, rn2, rn3, rn4, rn5, rn6, rn7, rn8, if_true, if_false, Nat.le_refl, true_and, and_true, decide_true, decide_false, Bool.not_true, Bool.not_false, reduceIte, Nat.reduceEqDiff, Nat.reduceAdd, Nat.reduceMul, Nat.reduceSub, Nat.reduceLeDiff, Nat.reduceLT, q, Int.reduceEq]
    · have q : stuckE S = 0 := by unfold stuckE; rw [if_pos he, if_neg c]
      simp only [rn0, rn1, rn2, rn3, rn4, rn5, rn6, rn7, rn8, if_true, if_false, Nat.le_refl, true_and, and_true, decide_true, decide_false, Bool.not_true, Bool.not_false, reduceIte, Nat.reduceEqDiff, Nat.reduceAdd, Nat.reduceMul, Nat.reduceSub, Nat.reduceLeDiff, Nat.reduceLT, q, Int.reduceEq, g_un]
  · rw [decide_eq_false he]
    have q : stuckE S = errT S := if_neg he
    have q0 : ¬ stuckE S = 0 := by rw [q]; exact he
    have q7 : ¬ stuckE S = 7 := by rw [q]; have := errT_vals S; omega
    simp only [rn0, rn1, rn2, rn3, rn4, rn5, rn6, rn7, rn8, if_true, if_false, Nat.le_refl, true_and, and_true, decide_true, decide_false, Bool.not_true, Bool.not_false, reduceIte, Nat.reduceEqDiff, Nat.reduceAdd, Nat.reduceMul, Nat.reduceSub, Nat.reduceLeDiff, Nat.reduceLT, q0, q7]
/-! ### The law of the first wrong smell -/
theorem first_can {S : MS} (hG : Good S) (h0 : firstF S = none) : truthsS S ≠ [] := by
  by_cases c : S.ns = 0
  · exact noS_truth hG c
  have hb := fstP_none.1 h0 (S.ns - 1) (by omega)
  intro e
  refine hb fun t ht => ?_
  apply Classical.byContradiction
  intro hno
  have hm : t ∈ truthsS S := truths_mem.2 ⟨allE_mem.1 ht, fun k hk => by
      apply Classical.byContradiction
      intro hw
      exact hno ⟨k, by omega, hk, hw⟩⟩
  rw [e] at hm
  cases hm
theorem can_low {S : MS} (hG : Good S) {N : Nat} (hN : N < S.ns) (h0 : ∀ i, i < N → ¬ blkS S i) : CanB S (2 ^ N - 1) := by
  cases N with
  | zero =>
    obtain ⟨c, hc⟩ := List.exists_mem_of_ne_nil _ (allE_ne hG)
    refine ⟨c, hc, fun x _ hb => ?_⟩
    have := low_bits.1 hb
    omega
  | succ m => exact (can_blk (by omega)).2 (h0 m (by omega))
def s21 : SCode := (.seq (.ops [⟨(some 1), none, .box (T 0)⟩, ⟨(some 2), none, .mov (.const (.bool false))⟩]) (.seq (.seq (.ops [⟨(some 7), none, .loadN 7 (T 1)⟩, ⟨(some 8), none, .call (.func 59) [(T 7)]⟩, ⟨(some 9), none, .not (T 8)⟩]) (.cond (T 9) (.seq (.ops [⟨(some 10), none, .call (.func 24) []⟩, ⟨(some 2), none, .mov (T 10)⟩]) .ret) .skip)) (.seq (.ops [⟨(some 12), none, .loadN 7 (T 1)⟩, ⟨(some 13), none, .call (.func 26) [(T 12)]⟩, ⟨(some 14), none, .call (.func 51) [(T 13)]⟩, ⟨(some 11), none, .mov (T 14)⟩, ⟨(some 15), none, .extract 0 (T 11)⟩, ⟨(some 16), none, .extract 1 (T 11)⟩, ⟨(some 3), none, .mov (T 15)⟩, ⟨(some 4), none, .mov (T 16)⟩]) (.seq (.seq (.ops [⟨(some 17), none, .mov (T 4)⟩, ⟨(some 18), none, .int2 .neq (T 17) (.const (.int .i64 (0)))⟩]) (.cond (T 18) (.seq (.ops [⟨(some 19), none, .mov (T 4)⟩, ⟨(some 20), none, .int2 .eql (T 19) (.const (.int .i64 (7)))⟩, ⟨(some 21), none, .mov (T 20)⟩, ⟨(some 22), (some (21, true)), .loadN 7 (T 1)⟩, ⟨(some 23), (some (21, true)), .call (.func 70) [(T 22)]⟩, ⟨(some 24), none, .pick (T 21) (T 23) (.const (.bool false))⟩, ⟨(some 25), none, .mov (T 24)⟩, ⟨(some 26), (some (25, true)), .call (.func 24) []⟩, ⟨(some 27), none, .pick (T 25) (T 26) (.const (.bool false))⟩, ⟨(some 2), none, .mov (T 27)⟩]) .ret) .skip)) (.seq (.seq (.ops [⟨(some 28), none, .mov (T 3)⟩, ⟨(some 29), none, .fieldAddr 6 (T 1)⟩, ⟨(some 30), none, .load1 (T 29)⟩, ⟨(some 31), none, .len (T 30)⟩, ⟨(some 32), none, .int2 .sub (T 31) (.const (.int .i64 (1)))⟩, ⟨(some 33), none, .call (.func 42) [(T 28), (.const (.int .i64 (0))), (T 32)]⟩, ⟨(some 34), none, .not (T 33)⟩]) (.cond (T 34) (.seq (.ops [⟨(some 2), none, .mov (.const (.bool false))⟩]) .ret) .skip)) (.seq (.ops [⟨(some 36), none, .loadN 7 (T 1)⟩, ⟨(some 37), none, .mov (T 3)⟩, ⟨(some 38), none, .plain (.convert 3 114 (T 37)) 114⟩, ⟨(some 39), none, .plain (.binOp .shl 3 (.const (.int .i64 (2))) (T 38) 114) 3⟩, ⟨(some 40), none, .int2 .sub (T 39) (.const (.int .i64 (1)))⟩, ⟨(some 41), none, .call (.func 71) [(T 36), (T 40)]⟩, ⟨(some 42), none, .call (.func 26) [(T 41)]⟩, ⟨(some 43), none, .call (.func 47) [(T 42)]⟩, ⟨(some 35), none, .mov (T 43)⟩, ⟨(some 44), none, .extract 0 (T 35)⟩, ⟨(some 45), none, .extract 1 (T 35)⟩, ⟨(some 5), none, .mov (T 44)⟩, ⟨(some 6), none, .mov (T 45)⟩]) (.seq (.ops [⟨(some 46), none, .loadN 7 (T 1)⟩, ⟨(some 47), none, .mov (T 3)⟩, ⟨(some 48), none, .plain (.convert 3 114 (T 47)) 114⟩, ⟨(some 49), none, .plain (.binOp .shl 3 (.const (.int .i64 (1))) (T 48) 114) 3⟩, ⟨(some 50), none, .int2 .sub (T 49) (.const (.int .i64 (1)))⟩, ⟨(some 51), none, .call (.func 71) [(T 46), (T 50)]⟩, ⟨(some 52), none, .call (.func 70) [(T 51)]⟩, ⟨(some 53), none, .mov (T 52)⟩, ⟨(some 54), (some (53, true)), .mov (T 6)⟩, ⟨(some 55), (some (53, true)), .int2 .eql (T 54) (.const (.int .i64 (11)))⟩, ⟨(some 56), none, .pick (T 53) (T 55) (.const (.bool false))⟩, ⟨(some 57), none, .mov (T 56)⟩, ⟨(some 58), (some (57, true)), .call (.func 24) []⟩, ⟨(some 59), none, .pick (T 57) (T 58) (.const (.bool false))⟩, ⟨(some 2), none, .mov (T 59)⟩]) .ret)))))))
theorem fok21 : FnOk Try.prog 21 60 s21 [.tmp 2] := ⟨Try.f21, _, Try.func21, rfl, Try.ntmps21, by kernel_rfl, by kernel_rfl⟩
set_option maxHeartbeats 2000000 in
theorem firstL_c (hn : 3000 ≤ n) (hr : h.next + 4000000 < far) (hfl : h.floor ≤ h.next) {wv vv sv : Value} {S : MS} (hy : SteepR h wv vv sv S) :
    ∃ v h', call n (.func (.func 21) #[] #[]) [.agg ⟨stL S wv vv sv⟩] h = some (v, h') ∧ v = .bool true := by
  obtain ⟨n, rfl⟩ : ∃ p, n = p + 1 := ⟨n - 1, by omega⟩
  refine call_any0 fok21 rfl rfl (by simp) ?_
  simp only [s21, W_seq, W_ops]
  refine ops_box (cs := stL S wv vv sv) (by omega) rfl hy.one fun g1 hx1 => ?_
  have n1 := hx1.next
  have f1 := hx1.floor
  have hy1 := hy.mono hx1.sub
  have r1 := hx1.row
  have er := ready_c (n := n) (h := g1) (by omega) (by omega) hy1
  by_cases hc : ThinS S ∧ faultS S = 0
  case neg =>
    rw [decide_eq_false hc] at er
    simp only [rn0, rn1, rn2, rn3, rn4, rn5, rn6, rn7, rn8, if_true, if_false, Nat.le_refl, true_and, and_true, decide_true, decide_false, Bool.not_true, Bool.not_false, reduceIte, Nat.reduceEqDiff, Nat.reduceAdd, Nat.reduceMul, Nat.reduceSub, Nat.reduceLeDiff, Nat.reduceLT, r1.whole (n := 7) rfl, er, awake_c (n := n) (h := g1) (by omega)]
  rw [decide_eq_true hc] at er
  obtain ⟨hth, hf⟩ := hc
  have hG := good_of hf
  obtain ⟨_, _, _, _, _, z5, _⟩ := hG.sizes
  obtain ⟨w2, v2, s2, g2, e2, hy2, o2, u2, m2, f2⟩ := steepL_c (n := n) (h := g1) (by omega) (by omega) (by omega) hy1 hth
  have sub2 : Sub All g1 g2 := AHeap.subOf o2
  have ef := firstP_c (n := n) (h := g2) (by omega) (by omega) hy2 hth
  have r2 := r1.mono sub2
  have hyb := hy1.mono sub2
  have q1 : firstV S = optI (firstF S) 0 := if_pos hf
  have q2 : firstE S = if firstF S = none then 7 else 0 := if_pos hf
  rw [q1, q2] at ef
  cases hN : firstF S with
  | none =>
    have ec := can_c (n := n) (h := g2) (by omega) (by omega) hyb hth
    rw [decide_eq_true (errT_3 hf (first_can hG hN))] at ec
    rw [hN] at ef
    simp only [rn0, rn1, rn2, rn3, rn4, rn5, rn6, rn7, rn8, if_true, if_false, Nat.le_refl, true_and, and_true, decide_true, decide_false, Bool.not_true, Bool.not_false, reduceIte, Nat.reduceEqDiff, Nat.reduceAdd, Nat.reduceMul, Nat.reduceSub, Nat.reduceLeDiff, Nat.reduceLT, r1.whole (n := 7) rfl, er, e2, ef, ex0, ex1, Int.reduceEq, r2.whole (n := 7) rfl, ec, awake_c (n := n) (h := g2) (by omega)]
  | some N =>
    obtain ⟨hNn, hblk, hfst⟩ := fstP_some hN
    rw [hN] at ef
    change call n _ _ g2 = some (.tuple ⟨[.int .i64 (N : Int), .int .i64 0]⟩, g2) at ef
    have hin := in_c (n := n) (h := g2) (by omega) (N : Int) 0 ((S.ns : Int) - 1)
    have hin' : decide (0 ≤ (N : Int) ∧ (N : Int) ≤ (S.ns : Int) - 1) = true := decide_eq_true (by omega)
    rw [hin'] at hin
    have hwn : wrapF .i64 ((S.ns : Int) - 1) = (S.ns : Int) - 1 := wrap_in (by omega) (by omega)
    have p1 : (2 ^ N : Nat) < 2 ^ 61 := Nat.pow_lt_pow_right (by omega) (by omega)
    have p2 : (2 ^ (N + 1) : Nat) < 2 ^ 62 := Nat.pow_lt_pow_right (by omega) (by omega)
    have p3 : 0 < (2 ^ N : Nat) := Nat.pow_pos (by omega)
    have p4 : 0 < (2 ^ (N + 1) : Nat) := Nat.pow_pos (by omega)
    have hw1 : wrapF .i64 (((2 ^ N : Nat) : Int) - 1) = ((2 ^ N - 1 : Nat) : Int) := by rw [wrap_in (by omega) (by omega)]; omega
    have hw2 : wrapF .i64 (((2 ^ (N + 1) : Nat) : Int) - 1) = ((2 ^ (N + 1) - 1 : Nat) : Int) := by rw [wrap_in (by omega) (by omega)]; omega
    have c1 : CanB S (2 ^ N - 1) := can_low hG hNn hfst
    have c2 : ¬ CanB S (2 ^ (N + 1) - 1) := fun q => (can_blk hNn).1 q hblk
    generalize 2 ^ N - 1 = b1 at hw1 c1
    generalize 2 ^ (N + 1) - 1 = b2 at hw2 c2
    obtain ⟨s3, g3, e3, hy3, o3, u3, m3, f3⟩ := some_c (n := n) (h := g2) (bits := b2) (by omega) (by omega) (by omega) hyb z5
    obtain ⟨w4, v4, s4, g4, e4, hy4, o4, u4, m4, f4⟩ := steepL_c (n := n) (h := g3) (by omega) (by omega) (by omega) hy3 (picked_thin hth)
    have es := stuckP_c (n := n) (h := g4) (by omega) (by omega) hy4 (picked_thin hth)
    rw [stuckE_11 (errP_no hG c2)] at es
    have sub4 : Sub All g2 g4 := (AHeap.subOf o3).trans (AHeap.subOf o4)
    have r4 := r2.mono sub4
    obtain ⟨s5, g5, e5, hy5, o5, u5, m5, f5⟩ := some_c (n := n) (h := g4) (bits := b1) (by omega) (by omega) (by omega) (hyb.mono sub4) z5
    have ec := can_c (n := n) (h := g5) (by omega) (by omega) hy5 (picked_thin hth)
    rw [decide_eq_true (errP_can hG c1)] at ec
    simp only [rn0, rn1, rn2, rn3, rn4, rn5, rn6, rn7, rn8, if_true, if_false, Nat.le_refl, true_and, and_true, decide_true, decide_false, Bool.not_true, Bool.not_false, reduceIte, Nat.reduceEqDiff, Nat.reduceAdd, Nat.reduceMul, Nat.reduceSub, Nat.reduceLeDiff, Nat.reduceLT, r1.whole (n := 7) rfl, er, e2, ef, ex0, ex1, Int.reduceEq, r2.ld, stg, Nat.zero_add, Cells.len hyb.s, hwn, hin, r2.whole (n := 7) rfl, p_uint, r_conv (k := N) (by omega), r_shl (k := N) (by omega), r_shl2 (k := N) (by omega), valN_tmp, valN_const, Nat.reduceLT, hw1, hw2, e3, e4, es, r4.whole (n := 7) rfl, e5, ec, awake_c (n := n) (h := g5) (by omega)]
end Go.Vm.St
