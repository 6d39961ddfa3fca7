/- Texts of the proofs of this seat, put together: StGoodH, StOutL, StRightL, StRightM, StGoodP, StRightN, StGoodL, StStuckL, StAskP, StAskL, StStay, StLess, StWarmer, StAskedL, StSets, StSetsI, StWrong, StSmall. -/
import Derived.Test.YtffgdpkogokdhaaPk14

namespace Go.Vm.St
open Go.Proofs Go.Vm.Vat
set_option linter.unusedSimpArgs false
set_option linter.unusedVariables false
set_option maxRecDepth 10000
variable {n : Nat} {h : AHeap}
/-! ### A steep opened, if it has a truth -/
/-- what 'openTrue' answers -/
def OpenTR (h : AHeap) (S : MS) (wv vv sv v : Value) (h' : AHeap) : Prop := (∀ i, i < h.next → h'.get i = h.get i) ∧ h.next ≤ h'.next ∧ h'.next ≤ h.next + 500100 ∧ h'.floor = h.floor ∧
  ((faultS S ≠ 0 ∧ v = .tuple ⟨[.agg ⟨wk0⟩, .int .i64 (faultS S)]⟩) ∨ (faultS S = 0 ∧ truthsS S = [] ∧ v = .tuple ⟨[.agg ⟨wk0⟩, .int .i64 11]⟩) ∨
    (faultS S = 0 ∧ truthsS S ≠ [] ∧ ∃ tv, v = .tuple ⟨[.agg ⟨wkL S wv vv sv tv⟩, .int .i64 0]⟩ ∧ oneCell tv = true ∧ TruthsR h' S tv (truthsS S) ∧ Long tv))
def s94 : SCode := (.seq (.ops [⟨(some 1), none, .box (T 0)⟩, ⟨(some 2), none, .alloc [(.int .i64 (0)), (.int .i64 (0)), (.slice none 0 0), (.int .i64 (0)), (.int .i64 (0)), (.slice none 0 0), (.slice none 0 0), (.slice none 0 0)]⟩, ⟨(some 3), none, .mov (.const (.int .i64 (0)))⟩]) (.seq (.ops [⟨(some 7), none, .loadN 7 (T 1)⟩, ⟨(some 8), none, .call (.func 79) [(T 7)]⟩, ⟨(some 6), none, .mov (T 8)⟩, ⟨(some 9), none, .extract 0 (T 6)⟩, ⟨(some 10), none, .extract 1 (T 6)⟩, ⟨(some 4), none, .alloc [(.int .i64 (0)), (.int .i64 (0)), (.slice none 0 0), (.int .i64 (0)), (.int .i64 (0)), (.slice none 0 0), (.slice none 0 0), (.slice none 0 0)]⟩, ⟨none, none, .store 8 (T 4) (T 9)⟩, ⟨(some 5), none, .mov (T 10)⟩]) (.seq (.seq (.ops [⟨(some 11), none, .mov (T 5)⟩, ⟨(some 12), none, .int2 .eql (T 11) (.const (.int .i64 (0)))⟩, ⟨(some 13), none, .mov (T 12)⟩, ⟨(some 14), (some (13, true)), .fieldAddr 7 (T 4)⟩, ⟨(some 15), (some (13, true)), .load1 (T 14)⟩, ⟨(some 16), (some (13, true)), .len (T 15)⟩, ⟨(some 17), (some (13, true)), .int2 .eql (T 16) (.const (.int .i64 (0)))⟩, ⟨(some 18), none, .pick (T 13) (T 17) (.const (.bool false))⟩]) (.cond (T 18) (.seq (.ops [⟨(some 19), none, .build #[(0, 7), (7, 1)] [(.int .i64 (0)), (.int .i64 (0)), (.slice none 0 0), (.int .i64 (0)), (.int .i64 (0)), (.slice none 0 0), (.slice none 0 0), (.slice none 0 0)] [] []⟩, ⟨none, none, .store 8 (T 2) (T 19)⟩, ⟨(some 3), none, .mov (.const (.int .i64 (11)))⟩]) .ret) .skip)) (.seq (.ops [⟨(some 20), none, .loadN 8 (T 4)⟩, ⟨(some 21), none, .mov (T 5)⟩, ⟨none, none, .store 8 (T 2) (T 20)⟩, ⟨(some 3), none, .mov (T 21)⟩]) .ret))))
theorem fok94 : FnOk Try.prog 94 22 s94 [.cellN 2 8, .tmp 3] := ⟨Try.f94, _, Try.func94, rfl, Try.ntmps94, by kernel_rfl, by kernel_rfl⟩
set_option maxHeartbeats 1000000 in
theorem openTrue_c (hn : 600 ≤ n) (hr : h.next + 700000 < far) (hfl : h.floor ≤ h.next) {wv vv sv : Value} {S : MS} (hy : SteepR h wv vv sv S) (hT : ThinS S) :
    ∃ v h', call n (.func (.func 94) #[] #[]) [.agg ⟨stL S wv vv sv⟩] h = some (v, h') ∧ OpenTR h S wv vv sv v h' := by
  obtain ⟨n, rfl⟩ : ∃ p, n = p + 1 := ⟨n - 1, by omega⟩
  refine call_any0 fok94 rfl rfl (by simp) ?_
  simp only [s94, W_seq, W_ops]
  refine ops_box (cs := stL S wv vv sv) (by omega) rfl hy.one fun g1 hx1 => ?_
  have n1 := hx1.next
  have f1 := hx1.floor
  simp only [rn0, rn1, rn2, rn3, rn4, rn5, rn6, rn7, rn8, if_true, if_false, Nat.le_refl, true_and, and_true, decide_true, decide_false, Bool.not_true, Bool.not_false, reduceIte, Nat.reduceEqDiff, Nat.reduceAdd, Nat.reduceMul, Nat.reduceSub, Nat.reduceLeDiff, Nat.reduceLT]
  refine step_row (cs := wk0) (by omega) rfl rfl fun g3 hx3 => ?_
  have n3 := hx3.next
  have f3 := hx3.floor
  have sub3 : Sub All h g3 := hx1.sub.trans hx3.sub
  have w1 := (hx1.row.mono hx3.sub).whole (n := 7) rfl
  obtain ⟨pv, g4, eo, o4, u4, m4, f4, ho⟩ := open_c (n := n) (h := g3) (by omega) (by omega) (by omega) (hy.mono sub3) hT
  have old4 : ∀ i, i < h.next → g4.get i = h.get i := fun i hi => by rw [o4 i (by omega), hx3.old i (by omega), hx1.old i hi]
  have q6 : g4.get g1.next = some (.row wk0 true 0) := by rw [o4 _ (by omega)]; exact hx3.get
  rcases ho with ⟨hf, rfl⟩ | ⟨hf, tv, rfl, hone, htr, htb, hlong⟩
  · simp only [rn0, rn1, rn2, rn3, rn4, rn5, rn6, rn7, rn8, if_true, if_false, Nat.le_refl, true_and, and_true, decide_true, decide_false, Bool.not_true, Bool.not_false, reduceIte, Nat.reduceEqDiff, Nat.reduceAdd, Nat.reduceMul, Nat.reduceSub, Nat.reduceLeDiff, Nat.reduceLT, w1, eo, ex0, ex1]
    refine step_new (vs := wk0) (by omega) (by omega) rfl (by simp only [rn0, rn1, rn2, rn3, rn4, rn5, rn6, rn7, rn8, if_true, if_false, Nat.le_refl, true_and, and_true, decide_true, decide_false, Bool.not_true, Bool.not_false, reduceIte, Nat.reduceEqDiff, Nat.reduceAdd, Nat.reduceMul, Nat.reduceSub, Nat.reduceLeDiff, Nat.reduceLT]; rfl) rfl rfl rfl fun g5 hx5 => ?_
    have n5 := hx5.next
    have f5 := hx5.floor
    simp only [rn0, rn1, rn2, rn3, rn4, rn5, rn6, rn7, rn8, if_true, if_false, Nat.le_refl, true_and, and_true, decide_true, decide_false, Bool.not_true, Bool.not_false, reduceIte, Nat.reduceEqDiff, Nat.reduceAdd, Nat.reduceMul, Nat.reduceSub, Nat.reduceLeDiff, Nat.reduceLT, hf, hx5.row.whole (n := 8) rfl]
    refine step_store (b := g1.next) (off := 0) (vs := wk0) rfl (by rw [hx5.old _ (by omega)]; exact q6) (by omega) (by omega) rfl rfl rfl (by simp) fun g6 hs6 => ?_
    rw [splice_all (by rfl)] at hs6
    have n6 := hs6.next
    have f6 := hs6.floor
    simp only [rn0, rn1, rn2, rn3, rn4, rn5, rn6, rn7, rn8, if_true, if_false, Nat.le_refl, true_and, and_true, decide_true, decide_false, Bool.not_true, Bool.not_false, reduceIte, Nat.reduceEqDiff, Nat.reduceAdd, Nat.reduceMul, Nat.reduceSub, Nat.reduceLeDiff, Nat.reduceLT, res_two, hs6.row.whole (n := 8) rfl]
    exact ⟨fun i hi => by rw [hs6.old i (by omega), hx5.old i (by omega), old4 i hi], by omega, by omega, by omega, .inl ⟨hf, rfl⟩⟩
  · have hG := good_of hf
    have how := wk_one (hy.mono sub3) (tv := tv) hone
    simp only [rn0, rn1, rn2, rn3, rn4, rn5, rn6, rn7, rn8, if_true, if_false, Nat.le_refl, true_and, and_true, decide_true, decide_false, Bool.not_true, Bool.not_false, reduceIte, Nat.reduceEqDiff, Nat.reduceAdd, Nat.reduceMul, Nat.reduceSub, Nat.reduceLeDiff, Nat.reduceLT, w1, eo, ex0, ex1]
    refine step_new (vs := wkL S wv vv sv tv) (by omega) (by omega) rfl (by simp only [rn0, rn1, rn2, rn3, rn4, rn5, rn6, rn7, rn8, if_true, if_false, Nat.le_refl, true_and, and_true, decide_true, decide_false, Bool.not_true, Bool.not_false, reduceIte, Nat.reduceEqDiff, Nat.reduceAdd, Nat.reduceMul, Nat.reduceSub, Nat.reduceLeDiff, Nat.reduceLT]; rfl) how rfl rfl fun g5 hx5 => ?_
    have n5 := hx5.next
    have f5 := hx5.floor
    have old5 : ∀ i, i < h.next → g5.get i = h.get i := fun i hi => by rw [hx5.old i (by omega), old4 i hi]
    have w5 := hx5.row.whole (n := 8) rfl
    have q5 : g5.get g1.next = some (.row wk0 true 0) := by rw [hx5.old _ (by omega)]; exact q6
    have htr5 : TruthsR g5 S tv (truthsS S) := Cells.mono htr hx5.sub
    by_cases hz : truthsS S = []
    · have hl0 : ((truthsS S).length : Int) = 0 := by rw [hz]; rfl
      simp only [rn0, rn1, rn2, rn3, rn4, rn5, rn6, rn7, rn8, if_true, if_false, Nat.le_refl, true_and, and_true, decide_true, decide_false, Bool.not_true, Bool.not_false, reduceIte, Nat.reduceEqDiff, Nat.reduceAdd, Nat.reduceMul, Nat.reduceSub, Nat.reduceLeDiff, Nat.reduceLT, w5, hx5.row.ld, wkg, Nat.zero_add, Cells.len htr5, hl0, build_wk0]
      refine step_store (b := g1.next) (off := 0) (vs := wk0) rfl q5 (by omega) (by omega) rfl rfl rfl (by simp) fun g6 hs6 => ?_
      rw [splice_all (by rfl)] at hs6
      have n6 := hs6.next
      have f6 := hs6.floor
      simp only [rn0, rn1, rn2, rn3, rn4, rn5, rn6, rn7, rn8, if_true, if_false, Nat.le_refl, true_and, and_true, decide_true, decide_false, Bool.not_true, Bool.not_false, reduceIte, Nat.reduceEqDiff, Nat.reduceAdd, Nat.reduceMul, Nat.reduceSub, Nat.reduceLeDiff, Nat.reduceLT, res_two, hs6.row.whole (n := 8) rfl]
      exact ⟨fun i hi => by rw [hs6.old i (by omega), old5 i hi], by omega, by omega, by omega, .inr (.inl ⟨hf, hz, rfl⟩)⟩
    · have hl0 : ¬ ((truthsS S).length : Int) = 0 := fun e => hz (List.length_eq_zero_iff.1 (by omega))
      simp only [rn0, rn1, rn2, rn3, rn4, rn5, rn6, rn7, rn8, if_true, if_false, Nat.le_refl, true_and, and_true, decide_true, decide_false, Bool.not_true, Bool.not_false, reduceIte, Nat.reduceEqDiff, Nat.reduceAdd, Nat.reduceMul, Nat.reduceSub, Nat.reduceLeDiff, Nat.reduceLT, w5, hx5.row.ld, wkg, Nat.zero_add, Cells.len htr5, hl0]
      refine step_store (b := g1.next) (off := 0) (vs := wkL S wv vv sv tv) rfl q5 (by omega) (by omega) rfl how rfl (by simp) fun g6 hs6 => ?_
      rw [splice_all (by rfl)] at hs6
      have n6 := hs6.next
      have f6 := hs6.floor
      simp only [rn0, rn1, rn2, rn3, rn4, rn5, rn6, rn7, rn8, if_true, if_false, Nat.le_refl, true_and, and_true, decide_true, decide_false, Bool.not_true, Bool.not_false, reduceIte, Nat.reduceEqDiff, Nat.reduceAdd, Nat.reduceMul, Nat.reduceSub, Nat.reduceLeDiff, Nat.reduceLT, res_two, hs6.row.whole (n := 8) rfl]
      refine ⟨fun i hi => by rw [hs6.old i (by omega), old5 i hi], by omega, by omega, by omega, .inr (.inr ⟨hf, hz, tv, rfl, hone, ?_, hlong⟩)⟩
      exact cells_at' htr5 fun a k c e => by
        have := htb a k c e
        exact hs6.old _ (by omega)
/-! ### The good hours of a vat -/
/-- which hours, counted from Begin, are good -/
noncomputable def gI (S : MS) (v : Nat) (L : List (Nat → Int)) (k : Nat) : List Int := pickL (fun i => verdS S v (S.vb v + (i : Int)) 1 L = 1) k
def gLo (b : Int) (l : List Int) : Int := if l = [] then 0 else b + atL l 0
def gHi (b : Int) (l : List Int) : Int := if l = [] then 0 else b + atL l (l.length - 1)
theorem gLo_nil {b : Int} : gLo b [] = 0 := rfl
theorem gHi_nil {b : Int} : gHi b [] = 0 := rfl
theorem gLo_app {b x : Int} {l : List Int} (hl : l ≠ []) : gLo b (l ++ [x]) = gLo b l := by
  unfold gLo
  rw [if_neg hl, if_neg (by simp), at_append (List.length_pos_iff.2 hl)]
theorem gHi_app {b x : Int} {l : List Int} : gHi b (l ++ [x]) = b + x := by
  unfold gHi
  rw [if_neg (by simp), List.length_append, List.length_singleton, Nat.add_sub_cancel, at_last]
def s93 : SCode := (.seq (.ops [⟨(some 2), none, .box (T 0)⟩, ⟨(some 4), none, .alloc [(.int .i64 (0)), (.int .i64 (0))]⟩, ⟨(some 5), none, .mov (.const (.bool false))⟩]) (.seq (.ops [⟨(some 9), none, .loadN 8 (T 2)⟩, ⟨(some 10), none, .mov (T 1)⟩, ⟨(some 11), none, .call (.func 91) [(T 9), (T 10)]⟩, ⟨(some 6), none, .mov (T 11)⟩]) (.seq (.seq (.ops [⟨(some 12), none, .loadN 8 (T 2)⟩, ⟨(some 13), none, .mov (T 1)⟩, ⟨(some 14), none, .call (.func 107) [(T 12), (T 13)]⟩, ⟨(some 15), none, .mov (.const (.int .i64 (0)))⟩]) (.block 0 (.loop (.seq (.ops [⟨(some 16), none, .int2 .lss (T 15) (T 14)⟩]) (.seq (.cond (T 16) .skip (.exit 0)) (.seq (.block 1 (.seq (.ops [⟨(some 17), none, .mov (T 15)⟩, ⟨(some 7), none, .mov (T 17)⟩]) (.seq (.ops [⟨(some 18), none, .fieldAddr 0 (T 2)⟩, ⟨(some 19), none, .fieldAddr 5 (T 18)⟩, ⟨(some 20), none, .load1 (T 19)⟩, ⟨(some 21), none, .mov (T 1)⟩, ⟨(some 22), none, .idxSl 4 (T 20) (T 21)⟩, ⟨(some 23), none, .fieldAddr 0 (T 22)⟩, ⟨(some 24), none, .load1 (T 23)⟩, ⟨(some 25), none, .mov (T 7)⟩, ⟨(some 26), none, .int2 .add (T 24) (T 25)⟩, ⟨(some 8), none, .mov (T 26)⟩]) (.seq (.seq (.ops [⟨(some 27), none, .loadN 8 (T 2)⟩, ⟨(some 28), none, .mov (T 6)⟩, ⟨(some 29), none, .mov (T 1)⟩, ⟨(some 30), none, .mov (T 8)⟩, ⟨(some 31), none, .call (.func 90) [(T 27), (T 28), (T 29), (T 30)]⟩, ⟨(some 32), none, .int2 .neq (T 31) (.const (.int .i64 (1)))⟩]) (.cond (T 32) (.exit 1) .skip)) (.seq (.seq (.ops [⟨(some 33), none, .mov (T 5)⟩, ⟨(some 34), none, .not (T 33)⟩]) (.cond (T 34) (.ops [⟨(some 35), none, .mov (T 8)⟩, ⟨(some 36), none, .fieldAddr 0 (T 4)⟩, ⟨none, none, .store 1 (T 36) (T 35)⟩]) .skip)) (.ops [⟨(some 37), none, .mov (T 8)⟩, ⟨(some 38), none, .fieldAddr 1 (T 4)⟩, ⟨none, none, .store 1 (T 38) (T 37)⟩, ⟨(some 5), none, .mov (.const (.bool true))⟩])))))) (.ops [⟨(some 39), none, .int2 .add (T 15) (.const (.int .i64 (1)))⟩, ⟨(some 15), none, .mov (T 39)⟩]))))))) (.seq (.ops [⟨(some 40), none, .loadN 2 (T 4)⟩, ⟨(some 41), none, .mov (T 5)⟩, ⟨none, none, .store 2 (T 4) (T 40)⟩, ⟨(some 5), none, .mov (T 41)⟩]) .ret))))
theorem fok93 : FnOk Try.prog 93 42 s93 [.cellN 4 2, .tmp 5] := ⟨Try.f93, _, Try.func93, rfl, Try.ntmps93, by kernel_rfl, by kernel_rfl⟩
set_option maxHeartbeats 2000000 in
theorem goodHours_c (hn : 2320 ≤ n) (hr : h.next + 300000 < far) {wv vv sv tv : Value} {S : MS} (hy : SteepR h wv vv sv S) (ho1 : oneCell tv = true) (hG : Good S) {L : List (Nat → Int)} (hlen : L.length ≤ 2000) (hin : ∀ t, t ∈ L → InU S t) (htr : TruthsR h S tv L) {v : Nat} (hv : v < S.nv) :
    call n (.func (.func 93) #[] #[]) [.agg ⟨wkL S wv vv sv tv⟩, .int .i64 (v : Int)] h = some (.tuple ⟨[.agg ⟨[.int .i64 (gLo (S.vb v) (gI S v L (hoursN S v))), .int .i64 (gHi (S.vb v) (gI S v L (hoursN S v)))]⟩, .bool (decide (gI S v L (hoursN S v) ≠ []))]⟩, h) := by
  obtain ⟨n, rfl⟩ : ∃ p, n = p + 1 := ⟨n - 1, by omega⟩
  refine call_plain0 fok93 rfl rfl (by simp) rfl ?_
  have hy := hy.shut
  have htr : TruthsR h.shutAll S tv L := Cells.shut htr
  have hr : h.shutAll.next + 300000 < far := hr
  have hfl : h.shutAll.floor ≤ h.shutAll.next := Nat.le_refl _
  generalize h.shutAll = h at hy htr hr hfl
  obtain ⟨mh1, mh2, mh3⟩ := hoursN_ok hG hv
  obtain ⟨⟨vb1, vb2⟩, _⟩ := hG.args.vat v hv
  obtain ⟨zl0, zl5, _⟩ := hG.sizes
  simp only [s93, W_seq, W_ops]
  refine ops_box (cs := wkL S wv vv sv tv) (by omega) rfl (wk_one hy ho1) fun g1 hx1 => ?_
  have n1 := hx1.next
  have f1 := hx1.floor
  refine ops_alloc (cs := [.int .i64 0, .int .i64 0]) (by omega) rfl fun g2 hx2 => ?_
  have n2 := hx2.next
  have f2 := hx2.floor
  have s2 : Sub All h g2 := hx1.sub.trans hx2.sub
  have r2 := hx1.row.mono hx2.sub
  obtain ⟨r, g3, ek, hm3, hr3, sub3, u3, m3, f3⟩ := kindsOf_c (n := n) (h := g2) (by omega) (by omega) (by omega) (hy.mono s2) ho1 hG hlen hin (Cells.mono htr s2) hv
  have s3 := s2.trans sub3
  have eh := hoursOf_c (n := n) (h := g3) (by omega) (by omega) (hy.mono s3) ho1 hG hv
  rw [← mh1] at eh
  have r3 := r2.mono sub3
  have q3 : g3.get g1.next = some (.row [.int .i64 0, .int .i64 0] true 0) := sub3 _ _ _ _ trivial hx2.get
  simp only [rn0, rn1, rn2, rn3, rn4, rn5, rn6, rn7, rn8, if_true, if_false, Nat.le_refl, true_and, and_true, decide_true, decide_false, Bool.not_true, Bool.not_false, reduceIte, Nat.reduceEqDiff, Nat.reduceAdd, Nat.reduceMul, Nat.reduceSub, Nat.reduceLeDiff, Nat.reduceLT, r2.whole (n := 8) rfl, ek, r3.whole (n := 8) rfl, eh]
  refine W_loop (hoursN S v) (fun k f g ms => ((∀ i, i ≠ g1.next → g.get i = g3.get i) ∧ g.next = g3.next ∧ g.floor = g3.floor ∧ g.get g1.next = some (.row [.int .i64 (gLo (S.vb v) (gI S v L k)), .int .i64 (gHi (S.vb v) (gI S v L k))] true 0)) ∧ ms = [] ∧ f 1 = .int .i64 (v : Int) ∧ f 2 = .pointer (some ⟨h.next, 0, none⟩) ∧ f 4 = .pointer (some ⟨g1.next, 0, none⟩) ∧ f 5 = .bool (decide (gI S v L k ≠ [])) ∧ f 6 = .map (some r) ∧ f 14 = .int .i64 (hoursN S v : Int) ∧ f 15 = .int .i64 (k : Int)) (by simp; omega) ?_ ?_ ?_
  · have e0 : gI S v L 0 = [] := rfl
    have d0 : decide ((([] : List Int)) ≠ []) = false := rfl
    rw [e0]
    simp only [rn0, rn1, rn2, rn3, rn4, rn5, rn6, rn7, rn8, if_true, if_false, Nat.le_refl, true_and, and_true, decide_true, decide_false, Bool.not_true, Bool.not_false, reduceIte, Nat.reduceEqDiff, Nat.reduceAdd, Nat.reduceMul, Nat.reduceSub, Nat.reduceLeDiff, Nat.reduceLT, gLo_nil, gHi_nil, d0]
    first | exact ⟨⟨fun i _ => trivial, q3⟩, rfl⟩ | exact ⟨⟨fun i _ => rfl, rfl, rfl, q3⟩, rfl⟩ | exact ⟨⟨fun i _ => trivial, trivial, trivial, q3⟩, rfl⟩
  · rintro k f g ms hk ⟨⟨go, gn, gf, gr⟩, rfl, p1, p2, p4, p5, p6, p14, p15⟩
    have hk' : (k : Int) < (hoursN S v : Int) := by omega
    have hw : wrapF .i64 ((k : Int) + 1) = ((k + 1 : Nat) : Int) := by rw [wrap_in (by omega) (by omega)]; rfl
    have hwb : wrapF .i64 (S.vb v + (k : Int)) = S.vb v + (k : Int) := wrap_in (by omega) (by omega)
    have sg : Sub All h g := fun i cs w gr' t hg => by rw [go i (by have := AHeap.lt_of_get hg; omega)]; exact s3 _ _ _ _ t hg
    have hyg := hy.mono sg
    have htg : TruthsR g S tv L := Cells.mono htr sg
    have rg : Row g h.next (wkL S wv vv sv tv) := by
      obtain ⟨w, gr', e⟩ := r3
      exact ⟨w, gr', by rw [go _ (by omega)]; exact e⟩
    have mg : MapF g r key3 (cntK S v L L.length 0) := hm3.keep (go _ (by omega))
    have ev := verdict_c (n := n) (h := g) (by omega) (by omega) hyg ho1 hG htg mg (hour_at hG hv hk)
    by_cases c : verdS S v (S.vb v + (k : Int)) 1 L = 1
    · have eg : gI S v L (k + 1) = gI S v L k ++ [(k : Int)] := pick_yes c
      have hne : decide (gI S v L (k + 1) ≠ []) = true := decide_eq_true (by rw [eg]; simp)
      by_cases c0 : gI S v L k = []
      · have d0 : decide (gI S v L k ≠ []) = false := decide_eq_false (by simpa using c0)
        rw [d0] at p5
        have e1 : gLo (S.vb v) (gI S v L (k + 1)) = S.vb v + (k : Int) := by rw [eg, c0]; rfl
        have e2 : gHi (S.vb v) (gI S v L (k + 1)) = S.vb v + (k : Int) := by rw [eg, gHi_app]
        simp only [rn0, rn1, rn2, rn3, rn4, rn5, rn6, rn7, rn8, if_true, if_false, Nat.le_refl, true_and, and_true, decide_true, decide_false, Bool.not_true, Bool.not_false, reduceIte, Nat.reduceEqDiff, Nat.reduceAdd, Nat.reduceMul, Nat.reduceSub, Nat.reduceLeDiff, Nat.reduceLT, p1, p2, p4, p5, p6, p14, p15, hk', rg.whole (n := 8) rfl, rg.ld, wkg, Nat.zero_add, Nat.add_zero, Cells.idx hyg.v hv, Cells.fld hyg.v hv, begin_ld hyg hv, hwb, ev, c]
        refine step_store (b := g1.next) (off := 0) (vs := [.int .i64 (S.vb v + (k : Int))]) rfl gr (by omega) (by omega) rfl rfl rfl (by simp) fun g4 hs4 => ?_
        have n4 := hs4.next
        have f4 := hs4.floor
        simp only [rn0, rn1, rn2, rn3, rn4, rn5, rn6, rn7, rn8, if_true, if_false, Nat.le_refl, true_and, and_true, decide_true, decide_false, Bool.not_true, Bool.not_false, reduceIte, Nat.reduceEqDiff, Nat.reduceAdd, Nat.reduceMul, Nat.reduceSub, Nat.reduceLeDiff, Nat.reduceLT, p1, p2, p4, p5, p6, p14, p15]
        refine step_store (b := g1.next) (off := 1) (vs := [.int .i64 (S.vb v + (k : Int))]) rfl hs4.get (by omega) (by omega) rfl rfl rfl (by simp [splice]) fun g5 hs5 => ?_
        have n5 := hs5.next
        have f5 := hs5.floor
        simp only [rn0, rn1, rn2, rn3, rn4, rn5, rn6, rn7, rn8, if_true, if_false, Nat.le_refl, true_and, and_true, decide_true, decide_false, Bool.not_true, Bool.not_false, reduceIte, Nat.reduceEqDiff, Nat.reduceAdd, Nat.reduceMul, Nat.reduceSub, Nat.reduceLeDiff, Nat.reduceLT, p1, p2, p4, p5, p6, p14, p15, hw, hne]
        rw [e1, e2]
        exact ⟨fun i hi => by rw [hs5.old i hi, hs4.old i hi, go i hi], by omega, by omega, hs5.get⟩
      · have d0 : decide (gI S v L k ≠ []) = true := decide_eq_true c0
        rw [d0] at p5
        have e1 : gLo (S.vb v) (gI S v L (k + 1)) = gLo (S.vb v) (gI S v L k) := by rw [eg, gLo_app c0]
        have e2 : gHi (S.vb v) (gI S v L (k + 1)) = S.vb v + (k : Int) := by rw [eg, gHi_app]
        simp only [rn0, rn1, rn2, rn3, rn4, rn5, rn6, rn7, rn8, if_true, if_false, Nat.le_refl, true_and, and_true, decide_true, decide_false, Bool.not_true, Bool.not_false, reduceIte, Nat.reduceEqDiff, Nat.reduceAdd, Nat.reduceMul, Nat.reduceSub, Nat.reduceLeDiff, Nat.reduceLT, p1, p2, p4, p5, p6, p14, p15, hk', rg.whole (n := 8) rfl, rg.ld, wkg, Nat.zero_add, Nat.add_zero, Cells.idx hyg.v hv, Cells.fld hyg.v hv, begin_ld hyg hv, hwb, ev, c]
        refine step_store (b := g1.next) (off := 1) (vs := [.int .i64 (S.vb v + (k : Int))]) rfl gr (by omega) (by omega) rfl rfl rfl (by simp) fun g5 hs5 => ?_
        have n5 := hs5.next
        have f5 := hs5.floor
        simp only [rn0, rn1, rn2, rn3, rn4, rn5, rn6, rn7, rn8, if_true, if_false, Nat.le_refl, true_and, and_true, decide_true, decide_false, Bool.not_true, Bool.not_false, reduceIte, Nat.reduceEqDiff, Nat.reduceAdd, Nat.reduceMul, Nat.reduceSub, Nat.reduceLeDiff, Nat.reduceLT, p1, p2, p4, p5, p6, p14, p15, hw, hne]
        rw [e1, e2]
        exact ⟨fun i hi => by rw [hs5.old i hi, go i hi], by omega, by omega, hs5.get⟩
    · have eg : gI S v L (k + 1) = gI S v L k := pick_no c
      simp only [rn0, rn1, rn2, rn3, rn4, rn5, rn6, rn7, rn8, if_true, if_false, Nat.le_refl, true_and, and_true, decide_true, decide_false, Bool.not_true, Bool.not_false, reduceIte, Nat.reduceEqDiff, Nat.reduceAdd, Nat.reduceMul, Nat.reduceSub, Nat.reduceLeDiff, Nat.reduceLT, p1, p2, p4, p5, p6, p14, p15, hk', rg.whole (n := 8) rfl, rg.ld, wkg, Nat.zero_add, Nat.add_zero, Cells.idx hyg.v hv, Cells.fld hyg.v hv, begin_ld hyg hv, hwb, ev, c, hw]
      rw [eg]
      first | exact ⟨⟨go, gn, gf, gr⟩, rfl⟩ | exact ⟨go, gn, gf, gr⟩
  · rintro f g ms ⟨⟨go, gn, gf, gr⟩, rfl, p1, p2, p4, p5, p6, p14, p15⟩
    have rt : Row g g1.next _ := ⟨_, _, gr⟩
    simp only [rn0, rn1, rn2, rn3, rn4, rn5, rn6, rn7, rn8, if_true, if_false, Nat.le_refl, true_and, and_true, decide_true, decide_false, Bool.not_true, Bool.not_false, reduceIte, Nat.reduceEqDiff, Nat.reduceAdd, Nat.reduceMul, Nat.reduceSub, Nat.reduceLeDiff, Nat.reduceLT, p1, p2, p4, p5, p6, p14, p15, Int.lt_irrefl, rt.whole (n := 2) rfl]
    refine step_store (b := g1.next) (off := 0) (vs := [.int .i64 (gLo (S.vb v) (gI S v L (hoursN S v))), .int .i64 (gHi (S.vb v) (gI S v L (hoursN S v)))]) rfl gr (by omega) (by omega) rfl rfl rfl (by simp) fun g6 hs6 => ?_
    rw [splice_all (by rfl)] at hs6
    simp only [rn0, rn1, rn2, rn3, rn4, rn5, rn6, rn7, rn8, if_true, if_false, Nat.le_refl, true_and, and_true, decide_true, decide_false, Bool.not_true, Bool.not_false, reduceIte, Nat.reduceEqDiff, Nat.reduceAdd, Nat.reduceMul, Nat.reduceSub, Nat.reduceLeDiff, Nat.reduceLT, p4, p5, res_two, hs6.row.whole (n := 2) rfl]
end Go.Vm.St

namespace Go.Vm.St
open Go.Proofs Go.Vm.Vat
set_option linter.unusedSimpArgs false
set_option linter.unusedVariables false
set_option maxRecDepth 10000
variable {n : Nat} {h : AHeap}
def s4 : SCode := (.seq (.ops [⟨(some 2), none, .box (T 0)⟩, ⟨(some 4), none, .mov (.const (.bool false))⟩]) (.seq (.seq (.ops [⟨(some 11), none, .loadN 7 (T 2)⟩, ⟨(some 12), none, .call (.func 23) [(T 11)]⟩, ⟨(some 13), none, .not (T 12)⟩]) (.cond (T 13) (.seq (.ops [⟨(some 14), none, .call (.func 24) []⟩, ⟨(some 4), none, .mov (T 14)⟩]) .ret) .skip)) (.seq (.ops [⟨(some 16), none, .loadN 7 (T 2)⟩, ⟨(some 17), none, .call (.func 26) [(T 16)]⟩, ⟨(some 18), none, .mov (T 1)⟩, ⟨(some 19), none, .call (.func 35) [(T 17), (T 18)]⟩, ⟨(some 15), none, .mov (T 19)⟩, ⟨(some 20), none, .extract 0 (T 15)⟩, ⟨(some 21), none, .extract 1 (T 15)⟩, ⟨(some 5), none, .mov (T 20)⟩, ⟨(some 6), none, .mov (T 21)⟩]) (.seq (.draw [⟨.rd, ⟨(some 23), none, .loadN 7 (T 2)⟩⟩, ⟨.rd1, ⟨(some 24), none, .loadN 7 (T 2)⟩⟩, ⟨.free, ⟨(some 25), none, .mov (T 1)⟩⟩, ⟨.up, ⟨(some 26), none, .call (.func 37) [(T 24), (T 25)]⟩⟩, ⟨.any, ⟨(some 27), none, .call (.func 36) [(T 23), (T 26)]⟩⟩, ⟨.free, ⟨(some 22), none, .mov (T 27)⟩⟩, ⟨.free, ⟨(some 28), none, .extract 0 (T 22)⟩⟩, ⟨.free, ⟨(some 29), none, .extract 1 (T 22)⟩⟩, ⟨.free, ⟨(some 7), none, .mov (T 28)⟩⟩, ⟨.free, ⟨(some 8), none, .mov (T 29)⟩⟩]) (.seq (.seq (.ops [⟨(some 30), none, .mov (T 8)⟩, ⟨(some 31), none, .int2 .neq (T 30) (.const (.int .i64 (0)))⟩]) (.cond (T 31) (.seq (.ops [⟨(some 32), none, .mov (T 6)⟩, ⟨(some 33), none, .mov (T 8)⟩, ⟨(some 34), none, .int2 .eql (T 32) (T 33)⟩, ⟨(some 35), none, .mov (T 34)⟩, ⟨(some 36), (some (35, true)), .mov (T 5)⟩, ⟨(some 37), (some (35, true)), .len (T 36)⟩, ⟨(some 38), (some (35, true)), .int2 .eql (T 37) (.const (.int .i64 (0)))⟩, ⟨(some 39), none, .pick (T 35) (T 38) (.const (.bool false))⟩, ⟨(some 40), none, .mov (T 39)⟩, ⟨(some 41), (some (40, true)), .call (.func 24) []⟩, ⟨(some 42), none, .pick (T 40) (T 41) (.const (.bool false))⟩, ⟨(some 4), none, .mov (T 42)⟩]) .ret) .skip)) (.seq (.ops [⟨(some 43), none, .fieldAddr 5 (T 2)⟩, ⟨(some 44), none, .load1 (T 43)⟩, ⟨(some 45), none, .mov (T 1)⟩, ⟨(some 46), none, .idxSl 4 (T 44) (T 45)⟩, ⟨(some 47), none, .fieldAddr 0 (T 46)⟩, ⟨(some 48), none, .load1 (T 47)⟩, ⟨(some 9), none, .mov (T 48)⟩]) (.seq (.seq (.ops [⟨(some 49), none, .mov (T 6)⟩, ⟨(some 50), none, .int2 .neq (T 49) (.const (.int .i64 (0)))⟩, ⟨(some 51), none, .mov (T 50)⟩, ⟨(some 52), (some (51, false)), .mov (T 5)⟩, ⟨(some 53), (some (51, false)), .len (T 52)⟩, ⟨(some 54), (some (51, false)), .fieldAddr 0 (T 2)⟩, ⟨(some 55), (some (51, false)), .load1 (T 54)⟩, ⟨(some 56), (some (51, false)), .mov (T 9)⟩, ⟨(some 57), (some (51, false)), .int2 .sub (T 55) (T 56)⟩, ⟨(some 58), (some (51, false)), .int2 .add (T 57) (.const (.int .i64 (1)))⟩, ⟨(some 59), (some (51, false)), .int2 .neq (T 53) (T 58)⟩, ⟨(some 60), none, .pick (T 51) (.const (.bool true)) (T 59)⟩]) (.cond (T 60) (.seq (.ops [⟨(some 4), none, .mov (.const (.bool false))⟩]) .ret) .skip)) (.seq (.seq (.ops [⟨(some 10), none, .mov (.const (.int .i64 (0)))⟩]) (.block 0 (.loop (.seq (.seq (.ops [⟨(some 61), none, .mov (T 10)⟩, ⟨(some 62), none, .mov (T 5)⟩, ⟨(some 63), none, .len (T 62)⟩, ⟨(some 64), none, .int2 .lss (T 61) (T 63)⟩]) (.cond (T 64) .skip (.exit 0))) (.seq (.block 1 (.seq (.draw [⟨.free, ⟨(some 67), none, .mov (T 5)⟩⟩, ⟨.free, ⟨(some 68), none, .mov (T 10)⟩⟩, ⟨.free, ⟨(some 69), none, .idxSl 2 (T 67) (T 68)⟩⟩, ⟨.rd, ⟨(some 70), none, .loadN 2 (T 69)⟩⟩, ⟨.rd1, ⟨(some 71), none, .loadN 7 (T 2)⟩⟩, ⟨.free, ⟨(some 72), none, .mov (T 7)⟩⟩, ⟨.free, ⟨(some 73), none, .mov (T 1)⟩⟩, ⟨.free, ⟨(some 74), none, .mov (T 9)⟩⟩, ⟨.free, ⟨(some 75), none, .mov (T 10)⟩⟩, ⟨.free, ⟨(some 76), none, .int2 .add (T 74) (T 75)⟩⟩, ⟨.up, ⟨(some 77), none, .call (.func 39) [(T 71), (T 72), (T 73), (T 76)]⟩⟩, ⟨.up, ⟨(some 78), none, .call (.func 38) [(T 77)]⟩⟩, ⟨.free, ⟨(some 79), none, .bin .neq (.binOp .neq 39 (T 70) (T 78) 39) 4 (T 70) (T 78)⟩⟩]) (.cond (T 79) (.seq (.ops [⟨(some 4), none, .mov (.const (.bool false))⟩]) .ret) .skip))) (.ops [⟨(some 65), none, .mov (T 10)⟩, ⟨(some 66), none, .int2 .add (T 65) (.const (.int .i64 (1)))⟩, ⟨(some 10), none, .mov (T 66)⟩])))))) (.seq (.ops [⟨(some 80), none, .call (.func 24) []⟩, ⟨(some 4), none, .mov (T 80)⟩]) .ret)))))))))
end Go.Vm.St

namespace Go.Vm.St
open Go.Proofs Go.Vm.Vat
set_option linter.unusedSimpArgs false
set_option linter.unusedVariables false
set_option maxRecDepth 10000
variable {n : Nat} {h : AHeap}
end Go.Vm.St

namespace Go.Vm.St
open Go.Proofs Go.Vm.Vat
set_option linter.unusedSimpArgs false
set_option linter.unusedVariables false
set_option maxRecDepth 10000
variable {n : Nat} {h : AHeap}
end Go.Vm.St

namespace Go.Vm.St
open Go.Proofs Go.Vm.Vat
set_option linter.unusedSimpArgs false
set_option linter.unusedVariables false
set_option maxRecDepth 10000
variable {n : Nat} {h : AHeap}
noncomputable def gAll (S : MS) (v : Nat) : List Int := gI S v (truthsS S) (hoursN S v)
/-! ### The reference's good hours -/
def s45 : SCode := (.seq (.ops [⟨(some 3), none, .box (T 0)⟩, ⟨(some 6), none, .mov (.const (.slice none 0 0))⟩]) (.seq (.ops [⟨(some 7), none, .mov (.const (.slice none 0 0))⟩]) (.seq (.seq (.ops [⟨(some 9), none, .fieldAddr 5 (T 3)⟩, ⟨(some 10), none, .load1 (T 9)⟩, ⟨(some 11), none, .mov (T 2)⟩, ⟨(some 12), none, .idxSl 4 (T 10) (T 11)⟩, ⟨(some 13), none, .fieldAddr 0 (T 12)⟩, ⟨(some 14), none, .load1 (T 13)⟩, ⟨(some 8), none, .mov (T 14)⟩]) (.block 0 (.loop (.seq (.seq (.ops [⟨(some 15), none, .mov (T 8)⟩, ⟨(some 16), none, .fieldAddr 0 (T 3)⟩, ⟨(some 17), none, .load1 (T 16)⟩, ⟨(some 18), none, .int2 .leq (T 15) (T 17)⟩]) (.cond (T 18) .skip (.exit 0))) (.seq (.block 1 (.seq (.ops [⟨(some 21), none, .loadN 7 (T 3)⟩, ⟨(some 22), none, .mov (T 1)⟩, ⟨(some 23), none, .mov (T 2)⟩, ⟨(some 24), none, .mov (T 8)⟩, ⟨(some 25), none, .call (.func 43) [(T 21), (T 22), (T 23), (T 24)]⟩, ⟨(some 26), none, .int2 .eql (T 25) (.const (.int .i64 (1)))⟩]) (.cond (T 26) (.ops [⟨(some 27), none, .mov (T 7)⟩, ⟨(some 28), none, .mov (T 8)⟩, ⟨(some 29), none, .bslice 1 1 [(.int .i64 (0))] [0] [(T 28)]⟩, ⟨(some 30), none, .append 1 8 (T 27) (T 29)⟩, ⟨(some 7), none, .mov (T 30)⟩]) .skip))) (.ops [⟨(some 19), none, .mov (T 8)⟩, ⟨(some 20), none, .int2 .add (T 19) (.const (.int .i64 (1)))⟩, ⟨(some 8), none, .mov (T 20)⟩])))))) (.seq (.ops [⟨(some 31), none, .mov (T 7)⟩, ⟨(some 6), none, .mov (T 31)⟩]) .ret))))
end Go.Vm.St

namespace Go.Vm.St
open Go.Proofs Go.Vm.Vat
set_option linter.unusedSimpArgs false
set_option linter.unusedVariables false
set_option maxRecDepth 10000
variable {n : Nat} {h : AHeap}
def s5 : SCode := (.seq (.ops [⟨(some 3), none, .box (T 0)⟩, ⟨(some 6), none, .mov (.const (.bool false))⟩]) (.seq (.seq (.ops [⟨(some 13), none, .loadN 7 (T 3)⟩, ⟨(some 14), none, .call (.func 23) [(T 13)]⟩, ⟨(some 15), none, .not (T 14)⟩]) (.cond (T 15) (.seq (.ops [⟨(some 16), none, .call (.func 24) []⟩, ⟨(some 6), none, .mov (T 16)⟩]) .ret) .skip)) (.seq (.ops [⟨(some 18), none, .loadN 7 (T 3)⟩, ⟨(some 19), none, .call (.func 26) [(T 18)]⟩, ⟨(some 20), none, .mov (T 1)⟩, ⟨(some 21), none, .mov (T 2)⟩, ⟨(some 22), none, .call (.func 40) [(T 19), (T 20), (T 21)]⟩, ⟨(some 17), none, .mov (T 22)⟩, ⟨(some 23), none, .extract 0 (T 17)⟩, ⟨(some 24), none, .extract 1 (T 17)⟩, ⟨(some 7), none, .mov (T 23)⟩, ⟨(some 8), none, .mov (T 24)⟩]) (.seq (.ops [⟨(some 25), none, .loadN 7 (T 3)⟩, ⟨(some 26), none, .call (.func 26) [(T 25)]⟩, ⟨(some 27), none, .mov (T 1)⟩, ⟨(some 28), none, .mov (T 2)⟩, ⟨(some 29), none, .call (.func 41) [(T 26), (T 27), (T 28)]⟩, ⟨(some 9), none, .mov (T 29)⟩]) (.seq (.draw [⟨.rd, ⟨(some 31), none, .loadN 7 (T 3)⟩⟩, ⟨.rd1, ⟨(some 32), none, .loadN 7 (T 3)⟩⟩, ⟨.free, ⟨(some 33), none, .mov (T 1)⟩⟩, ⟨.up, ⟨(some 34), none, .call (.func 37) [(T 32), (T 33)]⟩⟩, ⟨.free, ⟨(some 35), none, .mov (T 34)⟩⟩, ⟨.rd1, ⟨(some 36), (some (35, true)), .loadN 7 (T 3)⟩⟩, ⟨.up, ⟨(some 37), (some (35, true)), .call (.func 29) [(T 36)]⟩⟩, ⟨.free, ⟨(some 38), (some (35, true)), .int2 .eql (T 37) (.const (.int .i64 (0)))⟩⟩, ⟨.free, ⟨(some 39), none, .pick (T 35) (T 38) (.const (.bool false))⟩⟩, ⟨.free, ⟨(some 40), none, .mov (T 39)⟩⟩, ⟨.free, ⟨(some 41), (some (40, true)), .mov (T 2)⟩⟩, ⟨.free, ⟨(some 42), (some (40, true)), .fieldAddr 5 (T 3)⟩⟩, ⟨.rd1, ⟨(some 43), (some (40, true)), .load1 (T 42)⟩⟩, ⟨.free, ⟨(some 44), (some (40, true)), .mov (T 1)⟩⟩, ⟨.free, ⟨(some 45), (some (40, true)), .idxSl 4 (T 43) (T 44)⟩⟩, ⟨.free, ⟨(some 46), (some (40, true)), .fieldAddr 0 (T 45)⟩⟩, ⟨.rd1, ⟨(some 47), (some (40, true)), .load1 (T 46)⟩⟩, ⟨.free, ⟨(some 48), (some (40, true)), .fieldAddr 0 (T 3)⟩⟩, ⟨.rd1, ⟨(some 49), (some (40, true)), .load1 (T 48)⟩⟩, ⟨.up, ⟨(some 50), (some (40, true)), .call (.func 42) [(T 41), (T 47), (T 49)]⟩⟩, ⟨.free, ⟨(some 51), none, .pick (T 40) (T 50) (.const (.bool false))⟩⟩, ⟨.any, ⟨(some 52), none, .call (.func 36) [(T 31), (T 51)]⟩⟩, ⟨.free, ⟨(some 30), none, .mov (T 52)⟩⟩, ⟨.free, ⟨(some 53), none, .extract 0 (T 30)⟩⟩, ⟨.free, ⟨(some 54), none, .extract 1 (T 30)⟩⟩, ⟨.free, ⟨(some 10), none, .mov (T 53)⟩⟩, ⟨.free, ⟨(some 11), none, .mov (T 54)⟩⟩]) (.seq (.seq (.ops [⟨(some 55), none, .mov (T 11)⟩, ⟨(some 56), none, .int2 .neq (T 55) (.const (.int .i64 (0)))⟩]) (.cond (T 56) (.seq (.ops [⟨(some 57), none, .mov (T 8)⟩, ⟨(some 58), none, .mov (T 11)⟩, ⟨(some 59), none, .int2 .eql (T 57) (T 58)⟩, ⟨(some 60), none, .mov (T 59)⟩, ⟨(some 61), (some (60, true)), .mov (T 7)⟩, ⟨(some 62), (some (60, true)), .int2 .eql (T 61) (.const (.int .i64 (0)))⟩, ⟨(some 63), none, .pick (T 60) (T 62) (.const (.bool false))⟩, ⟨(some 64), none, .mov (T 63)⟩, ⟨(some 65), (some (64, true)), .mov (T 9)⟩, ⟨(some 66), (some (64, true)), .not (T 65)⟩, ⟨(some 67), none, .pick (T 64) (T 66) (.const (.bool false))⟩, ⟨(some 68), none, .mov (T 67)⟩, ⟨(some 69), (some (68, true)), .call (.func 24) []⟩, ⟨(some 70), none, .pick (T 68) (T 69) (.const (.bool false))⟩, ⟨(some 6), none, .mov (T 70)⟩]) .ret) .skip)) (.seq (.ops [⟨(some 71), none, .loadN 7 (T 3)⟩, ⟨(some 72), none, .mov (T 10)⟩, ⟨(some 73), none, .mov (T 1)⟩, ⟨(some 74), none, .mov (T 2)⟩, ⟨(some 75), none, .call (.func 43) [(T 71), (T 72), (T 73), (T 74)]⟩, ⟨(some 12), none, .mov (T 75)⟩]) (.seq (.ops [⟨(some 76), none, .mov (T 8)⟩, ⟨(some 77), none, .int2 .eql (T 76) (.const (.int .i64 (0)))⟩, ⟨(some 78), none, .mov (T 77)⟩, ⟨(some 79), (some (78, true)), .mov (T 7)⟩, ⟨(some 80), (some (78, true)), .mov (T 12)⟩, ⟨(some 81), (some (78, true)), .int2 .eql (T 79) (T 80)⟩, ⟨(some 82), none, .pick (T 78) (T 81) (.const (.bool false))⟩, ⟨(some 83), none, .mov (T 82)⟩, ⟨(some 84), (some (83, true)), .mov (T 9)⟩, ⟨(some 85), (some (83, true)), .mov (T 12)⟩, ⟨(some 86), (some (83, true)), .int2 .eql (T 85) (.const (.int .i64 (1)))⟩, ⟨(some 87), (some (83, true)), .bin .eql (.binOp .eql 4 (T 84) (T 86) 4) 4 (T 84) (T 86)⟩, ⟨(some 88), none, .pick (T 83) (T 87) (.const (.bool false))⟩, ⟨(some 89), none, .mov (T 88)⟩, ⟨(some 90), (some (89, true)), .call (.func 24) []⟩, ⟨(some 91), none, .pick (T 89) (T 90) (.const (.bool false))⟩, ⟨(some 6), none, .mov (T 91)⟩]) .ret))))))))
end Go.Vm.St

namespace Go.Vm
variable {P : Program} {N : Nat} {f : Fr} {h : AHeap} {ty t u e : TypeId} {x y : Operand}
end Go.Vm
namespace Go.Vm.St
open Go.Proofs Go.Vm.Vat
set_option linter.unusedSimpArgs false
set_option linter.unusedVariables false
set_option maxRecDepth 10000
variable {n : Nat} {h : AHeap}
def s46 : SCode := (.seq (.ops [⟨(some 4), none, .alloc [(.int .i64 (0)), (.int .i64 (0))]⟩]) (.seq (.ops [⟨(some 5), none, .mov (T 0)⟩, ⟨(some 6), none, .mov (T 1)⟩, ⟨(some 7), none, .build #[(0, 1), (1, 1)] [(.int .i64 (0)), (.int .i64 (0))] [0, 1] [(T 5), (T 6)]⟩, ⟨none, none, .store 2 (T 4) (T 7)⟩]) .ret))
def s6 : SCode := (.seq (.ops [⟨(some 2), none, .box (T 0)⟩, ⟨(some 4), none, .mov (.const (.bool false))⟩]) (.seq (.seq (.ops [⟨(some 10), none, .loadN 7 (T 2)⟩, ⟨(some 11), none, .call (.func 23) [(T 10)]⟩, ⟨(some 12), none, .not (T 11)⟩]) (.cond (T 12) (.seq (.ops [⟨(some 13), none, .call (.func 24) []⟩, ⟨(some 4), none, .mov (T 13)⟩]) .ret) .skip)) (.seq (.ops [⟨(some 15), none, .loadN 7 (T 2)⟩, ⟨(some 16), none, .call (.func 26) [(T 15)]⟩, ⟨(some 17), none, .mov (T 1)⟩, ⟨(some 18), none, .call (.func 44) [(T 16), (T 17)]⟩, ⟨(some 14), none, .mov (T 18)⟩, ⟨(some 19), none, .extract 0 (T 14)⟩, ⟨(some 20), none, .extract 1 (T 14)⟩, ⟨(some 5), none, .alloc [(.int .i64 (0)), (.int .i64 (0))]⟩, ⟨none, none, .store 2 (T 5) (T 19)⟩, ⟨(some 6), none, .mov (T 20)⟩]) (.seq (.draw [⟨.rd, ⟨(some 22), none, .loadN 7 (T 2)⟩⟩, ⟨.rd1, ⟨(some 23), none, .loadN 7 (T 2)⟩⟩, ⟨.free, ⟨(some 24), none, .mov (T 1)⟩⟩, ⟨.up, ⟨(some 25), none, .call (.func 37) [(T 23), (T 24)]⟩⟩, ⟨.any, ⟨(some 26), none, .call (.func 36) [(T 22), (T 25)]⟩⟩, ⟨.free, ⟨(some 21), none, .mov (T 26)⟩⟩, ⟨.free, ⟨(some 27), none, .extract 0 (T 21)⟩⟩, ⟨.free, ⟨(some 28), none, .extract 1 (T 21)⟩⟩, ⟨.free, ⟨(some 7), none, .mov (T 27)⟩⟩, ⟨.free, ⟨(some 8), none, .mov (T 28)⟩⟩]) (.seq (.seq (.ops [⟨(some 29), none, .mov (T 8)⟩, ⟨(some 30), none, .int2 .neq (T 29) (.const (.int .i64 (0)))⟩]) (.cond (T 30) (.seq (.ops [⟨(some 31), none, .mov (T 6)⟩, ⟨(some 32), none, .mov (T 8)⟩, ⟨(some 33), none, .int2 .eql (T 31) (T 32)⟩, ⟨(some 34), none, .mov (T 33)⟩, ⟨(some 35), (some (34, true)), .loadN 2 (T 5)⟩, ⟨(some 36), (some (34, true)), .build #[(0, 1), (1, 1)] [(.int .i64 (0)), (.int .i64 (0))] [] []⟩, ⟨(some 37), (some (34, true)), .bin .eql (.binOp .eql 39 (T 35) (T 36) 39) 4 (T 35) (T 36)⟩, ⟨(some 38), none, .pick (T 34) (T 37) (.const (.bool false))⟩, ⟨(some 39), none, .mov (T 38)⟩, ⟨(some 40), (some (39, true)), .call (.func 24) []⟩, ⟨(some 41), none, .pick (T 39) (T 40) (.const (.bool false))⟩, ⟨(some 4), none, .mov (T 41)⟩]) .ret) .skip)) (.seq (.ops [⟨(some 42), none, .loadN 7 (T 2)⟩, ⟨(some 43), none, .mov (T 7)⟩, ⟨(some 44), none, .mov (T 1)⟩, ⟨(some 45), none, .call (.func 45) [(T 42), (T 43), (T 44)]⟩, ⟨(some 9), none, .mov (T 45)⟩]) (.seq (.seq (.ops [⟨(some 46), none, .mov (T 9)⟩, ⟨(some 47), none, .len (T 46)⟩, ⟨(some 48), none, .int2 .eql (T 47) (.const (.int .i64 (0)))⟩]) (.cond (T 48) (.seq (.ops [⟨(some 49), none, .mov (T 6)⟩, ⟨(some 50), none, .int2 .eql (T 49) (.const (.int .i64 (10)))⟩, ⟨(some 51), none, .mov (T 50)⟩, ⟨(some 52), (some (51, true)), .loadN 2 (T 5)⟩, ⟨(some 53), (some (51, true)), .build #[(0, 1), (1, 1)] [(.int .i64 (0)), (.int .i64 (0))] [] []⟩, ⟨(some 54), (some (51, true)), .bin .eql (.binOp .eql 39 (T 52) (T 53) 39) 4 (T 52) (T 53)⟩, ⟨(some 55), none, .pick (T 51) (T 54) (.const (.bool false))⟩, ⟨(some 56), none, .mov (T 55)⟩, ⟨(some 57), (some (56, true)), .call (.func 24) []⟩, ⟨(some 58), none, .pick (T 56) (T 57) (.const (.bool false))⟩, ⟨(some 4), none, .mov (T 58)⟩]) .ret) .skip)) (.seq (.draw [⟨.free, ⟨(some 59), none, .mov (T 6)⟩⟩, ⟨.free, ⟨(some 60), none, .int2 .eql (T 59) (.const (.int .i64 (0)))⟩⟩, ⟨.free, ⟨(some 61), none, .mov (T 60)⟩⟩, ⟨.rd, ⟨(some 62), (some (61, true)), .loadN 2 (T 5)⟩⟩, ⟨.free, ⟨(some 63), (some (61, true)), .mov (T 9)⟩⟩, ⟨.free, ⟨(some 64), (some (61, true)), .idxSl 1 (T 63) (.const (.int .i64 (0)))⟩⟩, ⟨.rd1, ⟨(some 65), (some (61, true)), .load1 (T 64)⟩⟩, ⟨.free, ⟨(some 66), (some (61, true)), .mov (T 9)⟩⟩, ⟨.free, ⟨(some 67), (some (61, true)), .mov (T 9)⟩⟩, ⟨.free, ⟨(some 68), (some (61, true)), .len (T 67)⟩⟩, ⟨.free, ⟨(some 69), (some (61, true)), .int2 .sub (T 68) (.const (.int .i64 (1)))⟩⟩, ⟨.free, ⟨(some 70), (some (61, true)), .idxSl 1 (T 66) (T 69)⟩⟩, ⟨.rd1, ⟨(some 71), (some (61, true)), .load1 (T 70)⟩⟩, ⟨.up, ⟨(some 72), (some (61, true)), .call (.func 46) [(T 65), (T 71)]⟩⟩, ⟨.free, ⟨(some 73), (some (61, true)), .bin .eql (.binOp .eql 39 (T 62) (T 72) 39) 4 (T 62) (T 72)⟩⟩, ⟨.free, ⟨(some 74), none, .pick (T 61) (T 73) (.const (.bool false))⟩⟩, ⟨.free, ⟨(some 75), none, .mov (T 74)⟩⟩, ⟨.free, ⟨(some 76), (some (75, true)), .mov (T 9)⟩⟩, ⟨.free, ⟨(some 77), (some (75, true)), .len (T 76)⟩⟩, ⟨.free, ⟨(some 78), (some (75, true)), .fieldAddr 1 (T 5)⟩⟩, ⟨.rd1, ⟨(some 79), (some (75, true)), .load1 (T 78)⟩⟩, ⟨.free, ⟨(some 80), (some (75, true)), .fieldAddr 0 (T 5)⟩⟩, ⟨.rd1, ⟨(some 81), (some (75, true)), .load1 (T 80)⟩⟩, ⟨.free, ⟨(some 82), (some (75, true)), .int2 .sub (T 79) (T 81)⟩⟩, ⟨.free, ⟨(some 83), (some (75, true)), .int2 .add (T 82) (.const (.int .i64 (1)))⟩⟩, ⟨.free, ⟨(some 84), (some (75, true)), .int2 .eql (T 77) (T 83)⟩⟩, ⟨.free, ⟨(some 85), none, .pick (T 75) (T 84) (.const (.bool false))⟩⟩, ⟨.free, ⟨(some 86), none, .mov (T 85)⟩⟩, ⟨.any, ⟨(some 87), (some (86, true)), .call (.func 24) []⟩⟩, ⟨.free, ⟨(some 88), none, .pick (T 86) (T 87) (.const (.bool false))⟩⟩, ⟨.free, ⟨(some 4), none, .mov (T 88)⟩⟩]) .ret))))))))
end Go.Vm.St

namespace Go.Vm.St
open Go.Proofs Go.Vm.Vat
set_option linter.unusedSimpArgs false
set_option linter.unusedVariables false
set_option maxRecDepth 10000
variable {n : Nat} {h : AHeap}
/-! ### The first vat that has no good hour -/
open Classical in
/-- the error of a question without a vat -/
noncomputable def errT (S : MS) : Int := if faultS S ≠ 0 then faultS S else if truthsS S = [] then 11 else 0
theorem errT_1 {S : MS} (hf : faultS S ≠ 0) : errT S = faultS S := if_pos hf
theorem errT_2 {S : MS} (hf : faultS S = 0) (hz : truthsS S = []) : errT S = 11 := by unfold errT; rw [if_neg (by simpa using hf), if_pos hz]
theorem errT_3 {S : MS} (hf : faultS S = 0) (hz : truthsS S ≠ []) : errT S = 0 := by unfold errT; rw [if_neg (by simpa using hf), if_neg hz]
theorem errT_vals (S : MS) : errT S = 0 ∨ errT S = 1 ∨ errT S = 3 ∨ errT S = 11 := by
  by_cases hf : faultS S = 0
  · by_cases hz : truthsS S = []
    · rw [errT_2 hf hz]; omega
    · rw [errT_3 hf hz]; omega
  · rw [errT_1 hf]
    have := fault_vals S
    omega
noncomputable def nilF (S : MS) : Nat → Option Nat
  | 0 => none
  | k + 1 => match nilF S k with
    | some v => some v
    | none => if gAll S k = [] then some k else none
theorem nilF_yes {S : MS} {k : Nat} (h0 : nilF S k = none) (h1 : gAll S k = []) : nilF S (k + 1) = some k := by simp only [nilF, h0]; rw [if_pos h1]
theorem nilF_no {S : MS} {k : Nat} (h0 : nilF S k = none) (h1 : gAll S k ≠ []) : nilF S (k + 1) = none := by simp only [nilF, h0]; rw [if_neg h1]
theorem nilF_up {S : MS} {k v : Nat} (h0 : nilF S k = some v) : ∀ d, nilF S (k + d) = some v
  | 0 => h0
  | d + 1 => by
    have := nilF_up h0 d
    show nilF S (k + d + 1) = some v
    simp only [nilF, this]
theorem nilF_at {S : MS} {k m : Nat} (hk : k < m) (h0 : nilF S k = none) (h1 : gAll S k = []) : nilF S m = some k := by
  have := nilF_up (nilF_yes h0 h1) (m - (k + 1))
  rw [show k + 1 + (m - (k + 1)) = m by omega] at this
  exact this
def optI : Option Nat → Int → Int
  | some v, _ => (v : Int)
  | none, d => d
/-- what 'Stuck' answers -/
noncomputable def stuckV (S : MS) : Int := if errT S = 0 then optI (nilF S S.nv) 0 else 0
noncomputable def stuckE (S : MS) : Int := if errT S = 0 then (if nilF S S.nv = none then 7 else 0) else errT S
def s47 : SCode := (.seq (.ops [⟨(some 1), none, .box (T 0)⟩, ⟨(some 2), none, .mov (.const (.int .i64 (0)))⟩, ⟨(some 3), none, .mov (.const (.int .i64 (0)))⟩]) (.seq (.ops [⟨(some 10), none, .loadN 7 (T 1)⟩, ⟨(some 11), none, .call (.func 94) [(T 10)]⟩, ⟨(some 9), none, .mov (T 11)⟩, ⟨(some 12), none, .extract 0 (T 9)⟩, ⟨(some 13), none, .extract 1 (T 9)⟩, ⟨(some 4), none, .alloc [(.int .i64 (0)), (.int .i64 (0)), (.slice none 0 0), (.int .i64 (0)), (.int .i64 (0)), (.slice none 0 0), (.slice none 0 0), (.slice none 0 0)]⟩, ⟨none, none, .store 8 (T 4) (T 12)⟩, ⟨(some 5), none, .mov (T 13)⟩]) (.seq (.seq (.ops [⟨(some 14), none, .mov (T 5)⟩, ⟨(some 15), none, .int2 .neq (T 14) (.const (.int .i64 (0)))⟩]) (.cond (T 15) (.seq (.ops [⟨(some 16), none, .mov (T 5)⟩, ⟨(some 2), none, .mov (.const (.int .i64 (0)))⟩, ⟨(some 3), none, .mov (T 16)⟩]) .ret) .skip)) (.seq (.seq (.ops [⟨(some 17), none, .fieldAddr 0 (T 4)⟩, ⟨(some 18), none, .fieldAddr 5 (T 17)⟩, ⟨(some 19), none, .load1 (T 18)⟩, ⟨(some 20), none, .len (T 19)⟩, ⟨(some 21), none, .mov (.const (.int .i64 (0)))⟩]) (.block 0 (.loop (.seq (.ops [⟨(some 22), none, .int2 .lss (T 21) (T 20)⟩]) (.seq (.cond (T 22) .skip (.exit 0)) (.seq (.block 1 (.seq (.ops [⟨(some 23), none, .mov (T 21)⟩, ⟨(some 6), none, .mov (T 23)⟩]) (.seq (.ops [⟨(some 25), none, .loadN 8 (T 4)⟩, ⟨(some 26), none, .mov (T 6)⟩, ⟨(some 27), none, .call (.func 93) [(T 25), (T 26)]⟩, ⟨(some 24), none, .mov (T 27)⟩, ⟨(some 28), none, .extract 0 (T 24)⟩, ⟨(some 29), none, .extract 1 (T 24)⟩, ⟨(some 7), none, .alloc [(.int .i64 (0)), (.int .i64 (0))]⟩, ⟨none, none, .store 2 (T 7) (T 28)⟩, ⟨(some 8), none, .mov (T 29)⟩]) (.seq (.ops [⟨(some 30), none, .mov (T 8)⟩, ⟨(some 31), none, .not (T 30)⟩]) (.cond (T 31) (.seq (.ops [⟨(some 32), none, .mov (T 6)⟩, ⟨(some 2), none, .mov (T 32)⟩, ⟨(some 3), none, .mov (.const (.int .i64 (0)))⟩]) .ret) .skip))))) (.ops [⟨(some 33), none, .int2 .add (T 21) (.const (.int .i64 (1)))⟩, ⟨(some 21), none, .mov (T 33)⟩]))))))) (.seq (.ops [⟨(some 2), none, .mov (.const (.int .i64 (0)))⟩, ⟨(some 3), none, .mov (.const (.int .i64 (7)))⟩]) .ret)))))
theorem fok47 : FnOk Try.prog 47 34 s47 [.tmp 2, .tmp 3] := ⟨Try.f47, _, Try.func47, rfl, Try.ntmps47, by kernel_rfl, by kernel_rfl⟩
set_option maxHeartbeats 2000000 in
theorem stuckP_c (hn : 2500 ≤ n) (hr : h.next + 1200000 < far) {wv vv sv : Value} {S : MS} (hy : SteepR h wv vv sv S) (hT : ThinS S) :
    call n (.func (.func 47) #[] #[]) [.agg ⟨stL S wv vv sv⟩] h = some (.tuple ⟨[.int .i64 (stuckV S), .int .i64 (stuckE S)]⟩, h) := by
  obtain ⟨n, rfl⟩ : ∃ p, n = p + 1 := ⟨n - 1, by omega⟩
  refine call_plain0 fok47 rfl rfl (by simp) rfl ?_
  have hy := hy.shut
  have hr : h.shutAll.next + 1200000 < far := hr
  have hfl : h.shutAll.floor ≤ h.shutAll.next := Nat.le_refl _
  generalize h.shutAll = h at hy hr hfl
  simp only [s47, W_seq, W_ops]
  refine ops_box (cs := stL S wv vv sv) (by omega) rfl hy.one fun g1 hx1 => ?_
  have n1 := hx1.next
  have f1 := hx1.floor
  have w1 := hx1.row.whole (n := 7) rfl
  obtain ⟨pv, g3, eo, o3, u3, m3, f3, hp⟩ := openTrue_c (n := n) (h := g1) (by omega) (by omega) (by omega) (hy.mono hx1.sub) hT
  have sub3 : Sub All h g3 := hx1.sub.trans (AHeap.subOf o3)
  have z110 : ¬ (11 : Int) = 0 := by decide
  rcases hp with ⟨hf, rfl⟩ | ⟨hf, hz, rfl⟩ | ⟨hf, hz, tv, rfl, hone, htr, hlong⟩
  · have e0 : errT S = faultS S := errT_1 hf
    have q1 : stuckV S = 0 := if_neg (by rw [e0]; exact hf)
    have q2 : stuckE S = faultS S := by unfold stuckE; rw [if_neg (by rw [e0]; exact hf), e0]
    rw [q1, q2]
    simp only [rn0, rn1, rn2, rn3, rn4, rn5, rn6, rn7, rn8, if_true, if_false, Nat.le_refl, true_and, and_true, decide_true, decide_false, Bool.not_true, Bool.not_false, reduceIte, Nat.reduceEqDiff, Nat.reduceAdd, Nat.reduceMul, Nat.reduceSub, Nat.reduceLeDiff, Nat.reduceLT, w1, eo, ex0, ex1]
    refine step_new (vs := wk0) (by omega) (by omega) rfl (by simp only [rn0, rn1, rn2, rn3, rn4, rn5, rn6, rn7, rn8, if_true, if_false, Nat.le_refl, true_and, and_true, decide_true, decide_false, Bool.not_true, Bool.not_false, reduceIte, Nat.reduceEqDiff, Nat.reduceAdd, Nat.reduceMul, Nat.reduceSub, Nat.reduceLeDiff, Nat.reduceLT]; rfl) rfl rfl rfl fun g4 hx4 => ?_
    simp only [rn0, rn1, rn2, rn3, rn4, rn5, rn6, rn7, rn8, if_true, if_false, Nat.le_refl, true_and, and_true, decide_true, decide_false, Bool.not_true, Bool.not_false, reduceIte, Nat.reduceEqDiff, Nat.reduceAdd, Nat.reduceMul, Nat.reduceSub, Nat.reduceLeDiff, Nat.reduceLT, hf, ret_tt]
  · have e0 : errT S = 11 := errT_2 hf hz
    have q1 : stuckV S = 0 := if_neg (by rw [e0]; exact z110)
    have q2 : stuckE S = 11 := by unfold stuckE; rw [if_neg (by rw [e0]; exact z110), e0]
    rw [q1, q2]
    simp only [rn0, rn1, rn2, rn3, rn4, rn5, rn6, rn7, rn8, if_true, if_false, Nat.le_refl, true_and, and_true, decide_true, decide_false, Bool.not_true, Bool.not_false, reduceIte, Nat.reduceEqDiff, Nat.reduceAdd, Nat.reduceMul, Nat.reduceSub, Nat.reduceLeDiff, Nat.reduceLT, w1, eo, ex0, ex1]
    refine step_new (vs := wk0) (by omega) (by omega) rfl (by simp only [rn0, rn1, rn2, rn3, rn4, rn5, rn6, rn7, rn8, if_true, if_false, Nat.le_refl, true_and, and_true, decide_true, decide_false, Bool.not_true, Bool.not_false, reduceIte, Nat.reduceEqDiff, Nat.reduceAdd, Nat.reduceMul, Nat.reduceSub, Nat.reduceLeDiff, Nat.reduceLT]; rfl) rfl rfl rfl fun g4 hx4 => ?_
    simp only [rn0, rn1, rn2, rn3, rn4, rn5, rn6, rn7, rn8, if_true, if_false, Nat.le_refl, true_and, and_true, decide_true, decide_false, Bool.not_true, Bool.not_false, reduceIte, Nat.reduceEqDiff, Nat.reduceAdd, Nat.reduceMul, Nat.reduceSub, Nat.reduceLeDiff, Nat.reduceLT, z110, ret_tt]
  · have hG := good_of hf
    have e0 : errT S = 0 := errT_3 hf hz
    have q1 : stuckV S = optI (nilF S S.nv) 0 := if_pos e0
    have q2 : stuckE S = if nilF S S.nv = none then 7 else 0 := if_pos e0
    have how := wk_one hy (tv := tv) hone
    obtain ⟨_, _, _, _, z4, _⟩ := hG.sizes
    simp only [rn0, rn1, rn2, rn3, rn4, rn5, rn6, rn7, rn8, if_true, if_false, Nat.le_refl, true_and, and_true, decide_true, decide_false, Bool.not_true, Bool.not_false, reduceIte, Nat.reduceEqDiff, Nat.reduceAdd, Nat.reduceMul, Nat.reduceSub, Nat.reduceLeDiff, Nat.reduceLT, w1, eo, ex0, ex1]
    refine step_new (vs := wkL S wv vv sv tv) (by omega) (by omega) rfl (by simp only [rn0, rn1, rn2, rn3, rn4, rn5, rn6, rn7, rn8, if_true, if_false, Nat.le_refl, true_and, and_true, decide_true, decide_false, Bool.not_true, Bool.not_false, reduceIte, Nat.reduceEqDiff, Nat.reduceAdd, Nat.reduceMul, Nat.reduceSub, Nat.reduceLeDiff, Nat.reduceLT]; rfl) how rfl rfl fun g4 hx4 => ?_
    have n4 := hx4.next
    have f4 := hx4.floor
    have sub4 := sub3.trans hx4.sub
    have htr4 : TruthsR g4 S tv (truthsS S) := Cells.mono htr hx4.sub
    have hy4 := hy.mono sub4
    simp only [rn0, rn1, rn2, rn3, rn4, rn5, rn6, rn7, rn8, if_true, if_false, Nat.le_refl, true_and, and_true, decide_true, decide_false, Bool.not_true, Bool.not_false, reduceIte, Nat.reduceEqDiff, Nat.reduceAdd, Nat.reduceMul, Nat.reduceSub, Nat.reduceLeDiff, Nat.reduceLT, hx4.row.ld, wkg, Nat.zero_add, Nat.add_zero, Cells.len hy4.v]
    refine W_loop S.nv (fun k f g ms => (Sub All g4 g ∧ g4.next ≤ g.next ∧ g.next ≤ g4.next + k ∧ g.floor = g4.floor ∧ nilF S k = none) ∧ ms = [] ∧ f 4 = .pointer (some ⟨g3.next, 0, none⟩) ∧ f 20 = .int .i64 (S.nv : Int) ∧ f 21 = .int .i64 (k : Int)) (by simp; omega) ?_ ?_ ?_
    · simp only [rn0, rn1, rn2, rn3, rn4, rn5, rn6, rn7, rn8, if_true, if_false, Nat.le_refl, true_and, and_true, decide_true, decide_false, Bool.not_true, Bool.not_false, reduceIte, Nat.reduceEqDiff, Nat.reduceAdd, Nat.reduceMul, Nat.reduceSub, Nat.reduceLeDiff, Nat.reduceLT]
      first | exact ⟨⟨by omega, rfl⟩, rfl⟩ | exact ⟨⟨Sub.refl, by omega, by omega, rfl, rfl⟩, rfl⟩ | exact ⟨⟨Nat.le_refl _, rfl⟩, rfl⟩ | exact ⟨rfl, rfl⟩ | exact rfl | trace_state
    · rintro k f g ms hk ⟨⟨sg, ug, mg, fg, hk0⟩, rfl, p4, p20, p21⟩
      have hk' : (k : Int) < (S.nv : Int) := by omega
      have hw : wrapF .i64 ((k : Int) + 1) = ((k + 1 : Nat) : Int) := by rw [wrap_in (by omega) (by omega)]; rfl
      have eg := goodHours_c (n := n) (h := g) (by omega) (by omega) (hy4.mono sg) hone hG (truths_len hG) (fun t ht => (truths_mem.1 ht).1.1) (Cells.mono htr4 sg) hk
      change call n _ _ g = some (.tuple ⟨[.agg ⟨[.int .i64 (gLo (S.vb k) (gAll S k)), .int .i64 (gHi (S.vb k) (gAll S k))]⟩, .bool (decide (gAll S k ≠ []))]⟩, g) at eg
      have r4 := hx4.row.mono sg
      simp only [rn0, rn1, rn2, rn3, rn4, rn5, rn6, rn7, rn8, if_true, if_false, Nat.le_refl, true_and, and_true, decide_true, decide_false, Bool.not_true, Bool.not_false, reduceIte, Nat.reduceEqDiff, Nat.reduceAdd, Nat.reduceMul, Nat.reduceSub, Nat.reduceLeDiff, Nat.reduceLT, p4, p20, p21, hk', r4.whole (n := 8) rfl, eg, ex0, ex1]
      refine step_new (vs := [.int .i64 (gLo (S.vb k) (gAll S k)), .int .i64 (gHi (S.vb k) (gAll S k))]) (by omega) (by omega) rfl (by simp only [rn0, rn1, rn2, rn3, rn4, rn5, rn6, rn7, rn8, if_true, if_false, Nat.le_refl, true_and, and_true, decide_true, decide_false, Bool.not_true, Bool.not_false, reduceIte, Nat.reduceEqDiff, Nat.reduceAdd, Nat.reduceMul, Nat.reduceSub, Nat.reduceLeDiff, Nat.reduceLT]; rfl) rfl rfl rfl fun g5 hx5 => ?_
      have n5 := hx5.next
      have f5 := hx5.floor
      by_cases c : gAll S k = []
      · have d0 : decide (gAll S k ≠ []) = false := decide_eq_false (by simpa using c)
        have hN := nilF_at hk hk0 c
        have q3 : optI (nilF S S.nv) 0 = (k : Int) := by rw [hN]; rfl
        have q4 : (if nilF S S.nv = none then (7 : Int) else 0) = 0 := by rw [hN]; rfl
        rw [q1, q2, q3, q4]
        simp only [rn0, rn1, rn2, rn3, rn4, rn5, rn6, rn7, rn8, if_true, if_false, Nat.le_refl, true_and, and_true, decide_true, decide_false, Bool.not_true, Bool.not_false, reduceIte, Nat.reduceEqDiff, Nat.reduceAdd, Nat.reduceMul, Nat.reduceSub, Nat.reduceLeDiff, Nat.reduceLT, d0, p4, p20, p21, ret_tt]
      · have d0 : decide (gAll S k ≠ []) = true := decide_eq_true c
        simp only [rn0, rn1, rn2, rn3, rn4, rn5, rn6, rn7, rn8, if_true, if_false, Nat.le_refl, true_and, and_true, decide_true, decide_false, Bool.not_true, Bool.not_false, reduceIte, Nat.reduceEqDiff, Nat.reduceAdd, Nat.reduceMul, Nat.reduceSub, Nat.reduceLeDiff, Nat.reduceLT, d0, p4, p20, p21, hw]
        first | exact ⟨⟨sg.trans hx5.sub, by omega, by omega, by omega, nilF_no hk0 c⟩, rfl⟩ | exact ⟨sg.trans hx5.sub, by omega, by omega, by omega, nilF_no hk0 c⟩
    · rintro f g ms ⟨⟨sg, ug, mg, fg, hk0⟩, rfl, p4, p20, p21⟩
      have q3 : optI (nilF S S.nv) 0 = 0 := by rw [hk0]; rfl
      have q4 : (if nilF S S.nv = none then (7 : Int) else 0) = 7 := if_pos hk0
      rw [q1, q2, q3, q4]
      simp only [rn0, rn1, rn2, rn3, rn4, rn5, rn6, rn7, rn8, if_true, if_false, Nat.le_refl, true_and, and_true, decide_true, decide_false, Bool.not_true, Bool.not_false, reduceIte, Nat.reduceEqDiff, Nat.reduceAdd, Nat.reduceMul, Nat.reduceSub, Nat.reduceLeDiff, Nat.reduceLT, p4, p20, p21, Int.lt_irrefl, ret_tt]
def s7 : SCode := (.seq (.ops [⟨(some 1), none, .box (T 0)⟩, ⟨(some 2), none, .mov (.const (.bool false))⟩]) (.seq (.seq (.ops [⟨(some 8), none, .loadN 7 (T 1)⟩, ⟨(some 9), none, .call (.func 23) [(T 8)]⟩, ⟨(some 10), none, .not (T 9)⟩]) (.cond (T 10) (.seq (.ops [⟨(some 11), none, .call (.func 24) []⟩, ⟨(some 2), none, .mov (T 11)⟩]) .ret) .skip)) (.seq (.ops [⟨(some 13), none, .loadN 7 (T 1)⟩, ⟨(some 14), none, .call (.func 26) [(T 13)]⟩, ⟨(some 15), none, .call (.func 47) [(T 14)]⟩, ⟨(some 12), none, .mov (T 15)⟩, ⟨(some 16), none, .extract 0 (T 12)⟩, ⟨(some 17), none, .extract 1 (T 12)⟩, ⟨(some 3), none, .mov (T 16)⟩, ⟨(some 4), none, .mov (T 17)⟩]) (.seq (.ops [⟨(some 19), none, .loadN 7 (T 1)⟩, ⟨(some 20), none, .call (.func 36) [(T 19), (.const (.bool true))]⟩, ⟨(some 18), none, .mov (T 20)⟩, ⟨(some 21), none, .extract 0 (T 18)⟩, ⟨(some 22), none, .extract 1 (T 18)⟩, ⟨(some 5), none, .mov (T 21)⟩, ⟨(some 6), none, .mov (T 22)⟩]) (.seq (.seq (.ops [⟨(some 23), none, .mov (T 6)⟩, ⟨(some 24), none, .int2 .neq (T 23) (.const (.int .i64 (0)))⟩]) (.cond (T 24) (.seq (.ops [⟨(some 25), none, .mov (T 4)⟩, ⟨(some 26), none, .mov (T 6)⟩, ⟨(some 27), none, .int2 .eql (T 25) (T 26)⟩, ⟨(some 28), none, .mov (T 27)⟩, ⟨(some 29), (some (28, true)), .mov (T 3)⟩, ⟨(some 30), (some (28, true)), .int2 .eql (T 29) (.const (.int .i64 (0)))⟩, ⟨(some 31), none, .pick (T 28) (T 30) (.const (.bool false))⟩, ⟨(some 32), none, .mov (T 31)⟩, ⟨(some 33), (some (32, true)), .call (.func 24) []⟩, ⟨(some 34), none, .pick (T 32) (T 33) (.const (.bool false))⟩, ⟨(some 2), none, .mov (T 34)⟩]) .ret) .skip)) (.seq (.seq (.ops [⟨(some 35), none, .loadN 7 (T 1)⟩, ⟨(some 36), none, .mov (T 5)⟩, ⟨(some 37), none, .call (.func 48) [(T 35), (T 36)]⟩, ⟨(some 7), none, .mov (T 37)⟩]) (.seq (.ops [⟨(some 38), none, .mov (T 7)⟩, ⟨(some 39), none, .int2 .geq (T 38) (.const (.int .i64 (0)))⟩]) (.cond (T 39) (.seq (.ops [⟨(some 40), none, .mov (T 4)⟩, ⟨(some 41), none, .int2 .eql (T 40) (.const (.int .i64 (0)))⟩, ⟨(some 42), none, .mov (T 41)⟩, ⟨(some 43), (some (42, true)), .mov (T 3)⟩, ⟨(some 44), (some (42, true)), .mov (T 7)⟩, ⟨(some 45), (some (42, true)), .int2 .eql (T 43) (T 44)⟩, ⟨(some 46), none, .pick (T 42) (T 45) (.const (.bool false))⟩, ⟨(some 47), none, .mov (T 46)⟩, ⟨(some 48), (some (47, true)), .call (.func 24) []⟩, ⟨(some 49), none, .pick (T 47) (T 48) (.const (.bool false))⟩, ⟨(some 2), none, .mov (T 49)⟩]) .ret) .skip))) (.seq (.ops [⟨(some 50), none, .mov (T 4)⟩, ⟨(some 51), none, .int2 .eql (T 50) (.const (.int .i64 (7)))⟩, ⟨(some 52), none, .mov (T 51)⟩, ⟨(some 53), (some (52, true)), .mov (T 3)⟩, ⟨(some 54), (some (52, true)), .int2 .eql (T 53) (.const (.int .i64 (0)))⟩, ⟨(some 55), none, .pick (T 52) (T 54) (.const (.bool false))⟩, ⟨(some 56), none, .mov (T 55)⟩, ⟨(some 57), (some (56, true)), .call (.func 24) []⟩, ⟨(some 58), none, .pick (T 56) (T 57) (.const (.bool false))⟩, ⟨(some 2), none, .mov (T 58)⟩]) .ret)))))))
end Go.Vm.St

namespace Go.Vm.St
open Go.Proofs Go.Vm.Vat
set_option linter.unusedSimpArgs false
set_option linter.unusedVariables false
set_option maxRecDepth 10000
variable {n : Nat} {h : AHeap}
/-- in how many truths a vat is of a kind after an hour -/
def cntS (S : MS) (v : Nat) (hh kk : Int) (L : List (Nat → Int)) : Nat := cntB (fun t => kindS S t v hh) L kk
/-- what a smell leaves -/
def lvS (S : MS) (v : Nat) (hh : Int) (L : List (Nat → Int)) : Int := max (max (cntS S v hh 0 L : Int) (cntS S v hh 1 L)) (cntS S v hh 2 L)
/-! ### The best smell -/
structure Sm where
  v : Int
  h : Int
  l : Int
end Go.Vm.St

namespace Go.Vm.St
open Go.Proofs Go.Vm.Vat
set_option linter.unusedSimpArgs false
set_option linter.unusedVariables false
set_option maxRecDepth 10000
variable {n : Nat} {h : AHeap}
def s8 : SCode := (.seq (.ops [⟨(some 1), none, .box (T 0)⟩, ⟨(some 2), none, .mov (.const (.bool false))⟩]) (.seq (.seq (.ops [⟨(some 12), none, .loadN 7 (T 1)⟩, ⟨(some 13), none, .call (.func 23) [(T 12)]⟩, ⟨(some 14), none, .not (T 13)⟩]) (.cond (T 14) (.seq (.ops [⟨(some 15), none, .call (.func 24) []⟩, ⟨(some 2), none, .mov (T 15)⟩]) .ret) .skip)) (.seq (.ops [⟨(some 17), none, .loadN 7 (T 1)⟩, ⟨(some 18), none, .call (.func 26) [(T 17)]⟩, ⟨(some 19), none, .call (.func 49) [(T 18)]⟩, ⟨(some 16), none, .mov (T 19)⟩, ⟨(some 20), none, .extract 0 (T 16)⟩, ⟨(some 21), none, .extract 1 (T 16)⟩, ⟨(some 22), none, .extract 2 (T 16)⟩, ⟨(some 23), none, .extract 3 (T 16)⟩, ⟨(some 3), none, .mov (T 20)⟩, ⟨(some 4), none, .mov (T 21)⟩, ⟨(some 5), none, .mov (T 22)⟩, ⟨(some 6), none, .mov (T 23)⟩]) (.seq (.ops [⟨(some 25), none, .loadN 7 (T 1)⟩, ⟨(some 26), none, .call (.func 36) [(T 25), (.const (.bool true))]⟩, ⟨(some 24), none, .mov (T 26)⟩, ⟨(some 27), none, .extract 0 (T 24)⟩, ⟨(some 28), none, .extract 1 (T 24)⟩, ⟨(some 7), none, .mov (T 27)⟩, ⟨(some 8), none, .mov (T 28)⟩]) (.seq (.seq (.ops [⟨(some 29), none, .mov (T 8)⟩, ⟨(some 30), none, .int2 .eql (T 29) (.const (.int .i64 (0)))⟩, ⟨(some 31), none, .mov (T 30)⟩, ⟨(some 32), (some (31, true)), .fieldAddr 5 (T 1)⟩, ⟨(some 33), (some (31, true)), .load1 (T 32)⟩, ⟨(some 34), (some (31, true)), .len (T 33)⟩, ⟨(some 35), (some (31, true)), .int2 .eql (T 34) (.const (.int .i64 (0)))⟩, ⟨(some 36), none, .pick (T 31) (T 35) (.const (.bool false))⟩]) (.cond (T 36) (.ops [⟨(some 8), none, .mov (.const (.int .i64 (7)))⟩]) .skip)) (.seq (.seq (.ops [⟨(some 37), none, .mov (T 8)⟩, ⟨(some 38), none, .int2 .neq (T 37) (.const (.int .i64 (0)))⟩]) (.cond (T 38) (.seq (.ops [⟨(some 39), none, .mov (T 6)⟩, ⟨(some 40), none, .mov (T 8)⟩, ⟨(some 41), none, .int2 .eql (T 39) (T 40)⟩, ⟨(some 42), none, .mov (T 41)⟩, ⟨(some 43), (some (42, true)), .mov (T 3)⟩, ⟨(some 44), (some (42, true)), .int2 .eql (T 43) (.const (.int .i64 (0)))⟩, ⟨(some 45), none, .pick (T 42) (T 44) (.const (.bool false))⟩, ⟨(some 46), none, .mov (T 45)⟩, ⟨(some 47), (some (46, true)), .mov (T 4)⟩, ⟨(some 48), (some (46, true)), .int2 .eql (T 47) (.const (.int .i64 (0)))⟩, ⟨(some 49), none, .pick (T 46) (T 48) (.const (.bool false))⟩, ⟨(some 50), none, .mov (T 49)⟩, ⟨(some 51), (some (50, true)), .mov (T 5)⟩, ⟨(some 52), (some (50, true)), .int2 .eql (T 51) (.const (.int .i64 (0)))⟩, ⟨(some 53), none, .pick (T 50) (T 52) (.const (.bool false))⟩, ⟨(some 54), none, .mov (T 53)⟩, ⟨(some 55), (some (54, true)), .call (.func 24) []⟩, ⟨(some 56), none, .pick (T 54) (T 55) (.const (.bool false))⟩, ⟨(some 2), none, .mov (T 56)⟩]) .ret) .skip)) (.seq (.ops [⟨(some 58), none, .loadN 7 (T 1)⟩, ⟨(some 59), none, .mov (T 7)⟩, ⟨(some 60), none, .call (.func 50) [(T 58), (T 59)]⟩, ⟨(some 57), none, .mov (T 60)⟩, ⟨(some 61), none, .extract 0 (T 57)⟩, ⟨(some 62), none, .extract 1 (T 57)⟩, ⟨(some 63), none, .extract 2 (T 57)⟩, ⟨(some 9), none, .mov (T 61)⟩, ⟨(some 10), none, .mov (T 62)⟩, ⟨(some 11), none, .mov (T 63)⟩]) (.seq (.ops [⟨(some 64), none, .mov (T 6)⟩, ⟨(some 65), none, .int2 .eql (T 64) (.const (.int .i64 (0)))⟩, ⟨(some 66), none, .mov (T 65)⟩, ⟨(some 67), (some (66, true)), .mov (T 3)⟩, ⟨(some 68), (some (66, true)), .mov (T 9)⟩, ⟨(some 69), (some (66, true)), .int2 .eql (T 67) (T 68)⟩, ⟨(some 70), none, .pick (T 66) (T 69) (.const (.bool false))⟩, ⟨(some 71), none, .mov (T 70)⟩, ⟨(some 72), (some (71, true)), .mov (T 4)⟩, ⟨(some 73), (some (71, true)), .mov (T 10)⟩, ⟨(some 74), (some (71, true)), .int2 .eql (T 72) (T 73)⟩, ⟨(some 75), none, .pick (T 71) (T 74) (.const (.bool false))⟩, ⟨(some 76), none, .mov (T 75)⟩, ⟨(some 77), (some (76, true)), .mov (T 5)⟩, ⟨(some 78), (some (76, true)), .mov (T 11)⟩, ⟨(some 79), (some (76, true)), .int2 .eql (T 77) (T 78)⟩, ⟨(some 80), none, .pick (T 76) (T 79) (.const (.bool false))⟩, ⟨(some 81), none, .mov (T 80)⟩, ⟨(some 82), (some (81, true)), .call (.func 24) []⟩, ⟨(some 83), none, .pick (T 81) (T 82) (.const (.bool false))⟩, ⟨(some 2), none, .mov (T 83)⟩]) .ret))))))))
end Go.Vm.St

namespace Go.Vm.St
open Go.Proofs Go.Vm.Vat
set_option linter.unusedSimpArgs false
set_option linter.unusedVariables false
set_option maxRecDepth 10000
variable {n : Nat} {h : AHeap}
theorem g_un {X : Cx} {d : Option Nat} {want : Bool} {op : SOp} {L : List SI} {Q : WPost} {f : Go.Vm.Fr} {m : List Nat} : gW X undef want d op L Q f h m = opsW X L Q (putF f d undef) h m := by
  have : isB want undef = false := rfl
  simp [gW, this]
end Go.Vm.St

namespace Go.Vm.St
open Go.Proofs Go.Vm.Vat
set_option linter.unusedSimpArgs false
set_option linter.unusedVariables false
set_option maxRecDepth 10000
variable {n : Nat} {h : AHeap}
end Go.Vm.St

namespace Go.Vm.St
open Go.Proofs Go.Vm.Vat
set_option linter.unusedSimpArgs false
set_option linter.unusedVariables false
set_option maxRecDepth 10000
variable {n : Nat} {h : AHeap}
/-- a guard that was not set -/
theorem dg_un {X : Cx} {S : Nat → Prop} {h0 h : AHeap} {k : Kd} {d : Option Nat} {want : Bool} {op : SOp} {L : List DI} {Q : WPost} {f : Go.Vm.Fr} {m : List Nat} : dgW X S h0 undef want k d op L Q f h m = dW X S h0 L Q (putF f d undef) h m := by
  have : isB want undef = false := rfl
  simp [dgW, this]
theorem rowI_congr {m : Nat} {a b : Nat → Int} (he : ∀ i, i < m → a i = b i) : rowI m a = rowI m b := by
  unfold rowI
  refine List.map_congr_left fun i hi => ?_
  rw [he i (List.mem_range.1 hi)]
/-- the truth that is changed, as it lies in memory -/
structure WarmM (g : AHeap) (S : MS) (p b1 b2 c1 : Nat) (v2 : Value) (u : Nat → Int) : Prop where
  row : g.get p = some (.row (trL (.slice (some ⟨b1, 0, none⟩) S.nw c1) v2 (u S.nw)) true 0)
  w : g.get b1 = some (.row (rowI S.nw u) true 1)
  f : S.nv = 0 ∨ ∃ c2, v2 = .slice (some ⟨b2, 0, none⟩) S.nv c2 ∧ g.get b2 = some (.row (rowI S.nv fun v => u (S.nw + 1 + v)) true 1)
theorem WarmM.congr {g : AHeap} {S : MS} {p b1 b2 c1 : Nat} {v2 : Value} {u u' : Nat → Int} (hm : WarmM g S p b1 b2 c1 v2 u) (he : ∀ i, i < numU S → u i = u' i) : WarmM g S p b1 b2 c1 v2 u' := by
  refine ⟨?_, ?_, ?_⟩
  · rw [← he S.nw (by unfold numU; omega)]; exact hm.row
  · rw [← rowI_congr fun i hi => he i (by unfold numU; omega)]; exact hm.w
  · rcases hm.f with h0 | ⟨c2, e, q⟩
    · exact .inl h0
    · exact .inr ⟨c2, e, by rw [← rowI_congr (a := fun v => u (S.nw + 1 + v)) fun i hi => he (S.nw + 1 + i) (by unfold numU; omega)]; exact q⟩
theorem WarmM.tru {g : AHeap} {S : MS} {p b1 b2 c1 : Nat} {x2 : Option Addr} {c2 : Nat} {u : Nat → Int} (hm : WarmM g S p b1 b2 c1 (.slice x2 S.nv c2) u) (h0 : ∀ x, x2 = some x → x.spot = none) : TruR g (.slice (some ⟨b1, 0, none⟩) S.nw c1) (.slice x2 S.nv c2) S u := by
  refine ⟨ints_row hm.w, ?_⟩
  rcases hm.f with h | ⟨c', e, q⟩
  · refine ⟨x2, c2, rfl, h0, .inl h⟩
  · cases e
    exact ints_row q
end Go.Vm.St

namespace Go.Vm.St
open Go.Proofs Go.Vm.Vat
set_option linter.unusedSimpArgs false
set_option linter.unusedVariables false
set_option maxRecDepth 10000
variable {n : Nat} {h : AHeap}
/-- what is found is a smell of a vat, and no other one leaves fewer -/
structure SmOk (S : MS) (L : List (Nat → Int)) (st : Sm) : Prop where
  at_ : ∃ v0 : Nat, st.v = (v0 : Int) ∧ HourOk S v0 st.h ∧ st.l = lvS S v0 st.h L
end Go.Vm.St

namespace Go.Vm.St
open Go.Proofs Go.Vm.Vat
set_option linter.unusedSimpArgs false
set_option linter.unusedVariables false
set_option maxRecDepth 10000
variable {n : Nat} {h : AHeap}
/-! ### The iterator over all increasing lists of so many numbers -/
theorem build_none1 {a : Value} : buildSl 1 0 [a] [] h [] = newSlice h [] 0 0 0 := id rfl
def s132 : SCode := (.seq (.ops [⟨(some 2), none, .mov (.const (.slice none 0 0))⟩]) (.seq (.seq (.ops [⟨(some 3), none, .mov (T 0)⟩, ⟨(some 4), none, .eqNil true (T 3) (.const (.slice none 0 0))⟩]) (.cond (T 4) (.seq (.ops [⟨(some 2), none, .mov (.const (.slice none 0 0))⟩]) .ret) .skip)) (.seq (.ops [⟨(some 5), none, .bslice 1 0 [(.int .i64 (0))] [] []⟩, ⟨(some 6), none, .mov (T 0)⟩, ⟨(some 7), none, .append 1 8 (T 5) (T 6)⟩, ⟨(some 2), none, .mov (T 7)⟩]) .ret)))
theorem fok132 : FnOk Try.prog 132 8 s132 [.tmp 2] := ⟨Try.f132, _, Try.func132, rfl, Try.ntmps132, by kernel_rfl, by kernel_rfl⟩
theorem clone_c (hn : 1 ≤ n) (hr : h.next + 3 < far) {v : Value} {m : Nat} {a : Nat → Int} (hv : Ints h v m a) (hm : m ≤ 1000) :
    ∃ v' h', call n (.func (.func 132) #[] #[]) [v] h = some (v', h') ∧ Ints h' v' m a ∧ oneCell v' = true ∧ (∀ i, i < h.next → h'.get i = h.get i) ∧ h.next ≤ h'.next ∧ h'.next ≤ h.next + 2 ∧ h'.floor = h.floor ∧ ∀ x k c, v' = .slice (some x) k c → h.next ≤ x.block ∧ x.block < h'.next := by
  obtain ⟨n, rfl⟩ : ∃ p, n = p + 1 := ⟨n - 1, by omega⟩
  refine call_any0 fok132 rfl rfl (by simp) ?_
  obtain ⟨xv, kv, ev, lv⟩ := Cells.list (by omega) hv
  subst ev
  cases xv with
  | none =>
    obtain ⟨a', cap, e, hsp, h0 | ⟨b, o, cs, w, gr, e2, _⟩⟩ := hv
    · subst h0
      simp only [rn0, rn1, rn2, rn3, rn4, rn5, rn6, rn7, rn8, if_true, if_false, Nat.le_refl, true_and, and_true, decide_true, decide_false, Bool.not_true, Bool.not_false, reduceIte, Nat.reduceEqDiff, Nat.reduceAdd, Nat.reduceMul, Nat.reduceSub, Nat.reduceLeDiff, Nat.reduceLT, s132, x_eqNil, eqNil_yes]
      exact ⟨⟨none, 0, rfl, fun x e => (by cases e), .inl rfl⟩, rfl, (fun _ _ => by first | trivial | rfl), by omega, fun x k c e => by cases e⟩
    · subst e2; cases e
  | some xa =>
    simp only [rn0, rn1, rn2, rn3, rn4, rn5, rn6, rn7, rn8, if_true, if_false, Nat.le_refl, true_and, and_true, decide_true, decide_false, Bool.not_true, Bool.not_false, reduceIte, Nat.reduceEqDiff, Nat.reduceAdd, Nat.reduceMul, Nat.reduceSub, Nat.reduceLeDiff, Nat.reduceLT, s132, x_eqNil, eqNil_no, build_none1]
    refine step_slice (by omega) rfl fun g1 hx1 => ?_
    have n1 := hx1.next
    have f1 := hx1.floor
    have hap := append_none (h := g1) (s := 1) (bytes := 8) (b := h.next) ⟨_, _, rfl⟩ (cells_sub hx1.sub hv (by omega) lv) flatL_len (by simp [maxBytes]; omega) (by simp [maxBytes]; omega)
    by_cases hm0 : m = 0
    · rw [if_pos hm0] at hap
      subst hm0
      simp only [rn0, rn1, rn2, rn3, rn4, rn5, rn6, rn7, rn8, if_true, if_false, Nat.le_refl, true_and, and_true, decide_true, decide_false, Bool.not_true, Bool.not_false, reduceIte, Nat.reduceEqDiff, Nat.reduceAdd, Nat.reduceMul, Nat.reduceSub, Nat.reduceLeDiff, Nat.reduceLT, hap]
      exact ⟨⟨some ⟨h.next, 0, none⟩, 0, rfl, fun x e => (by cases e; rfl), .inl rfl⟩, rfl, fun i hi => hx1.old i hi, by omega, by omega, by omega, fun x k c e => by cases e; exact ⟨Nat.le_refl _, by show h.next < g1.next; omega⟩⟩
    · rw [if_neg hm0] at hap
      simp only [rn0, rn1, rn2, rn3, rn4, rn5, rn6, rn7, rn8, if_true, if_false, Nat.le_refl, true_and, and_true, decide_true, decide_false, Bool.not_true, Bool.not_false, reduceIte, Nat.reduceEqDiff, Nat.reduceAdd, Nat.reduceMul, Nat.reduceSub, Nat.reduceLeDiff, Nat.reduceLT, hap]
      refine step_slice (by omega) flatL_one fun g2 hx2 => ?_
      have n2 := hx2.next
      have f2 := hx2.floor
      simp only [rn0, rn1, rn2, rn3, rn4, rn5, rn6, rn7, rn8, if_true, if_false, Nat.le_refl, true_and, and_true, decide_true, decide_false, Bool.not_true, Bool.not_false, reduceIte, Nat.reduceEqDiff, Nat.reduceAdd, Nat.reduceMul, Nat.reduceSub, Nat.reduceLeDiff, Nat.reduceLT]
      refine ⟨cells_row hx2.row fun k j hk hj => flatL_get (c := fun k _ => .int .i64 (a k)) hk hj, rfl, fun i hi => by rw [hx2.old i (by omega), hx1.old i hi], by omega, by omega, by omega, fun x k c e => by cases e; exact ⟨by show h.next ≤ g1.next; omega, by show g1.next < g2.next; omega⟩⟩
def chooseSV (ps pm py pn pc : Nat) : Value := .func (.func 131) ⟨[]⟩ ⟨[.pointer (some ⟨ps, 0, none⟩), .pointer (some ⟨pm, 0, none⟩), .pointer (some ⟨py, 0, none⟩), .pointer (some ⟨pn, 0, none⟩), .pointer (some ⟨pc, 0, none⟩)]⟩
/-- the iterator's own rows -/
structure SetS (ps pm py pn pc N M : Nat) (yv : Value) (g : AHeap) : Prop where
  y : Row g py [yv]
  m : Row g pm [.int .i64 (M : Int)]
  n : Row g pn [.int .i64 (N : Int)]
  c : Row g pc [chooseSV ps pm py pn pc]
theorem rowAt {g g' : AHeap} {q : Nat} {cs : List Value} (hr : Row g q cs) (he : g'.get q = g.get q) : Row g' q cs := by
  obtain ⟨w, gr, e⟩ := hr
  exact ⟨w, gr, by rw [he]; exact e⟩
theorem row_lt {g : AHeap} {q : Nat} {cs : List Value} (hr : Row g q cs) : q < g.next := by
  obtain ⟨w, gr, e⟩ := hr
  exact AHeap.lt_of_get e
theorem SetS.same {ps pm py pn pc N M : Nat} {yv : Value} {g g' : AHeap} (hs : SetS ps pm py pn pc N M yv g) (hy : g'.get py = g.get py) (hm : g'.get pm = g.get pm) (hn : g'.get pn = g.get pn) (hc : g'.get pc = g.get pc) : SetS ps pm py pn pc N M yv g' :=
  ⟨rowAt hs.y hy, rowAt hs.m hm, rowAt hs.n hn, rowAt hs.c hc⟩
def bndS (K : Nat) : Nat → Nat
  | 0 => K + 4
  | d + 1 => 5 * (bndS K d + 3)
open Classical in
theorem find_map {N d : Nat} {P : List Int → Prop} {cur : List Int} {x : Int} {l : List (List Int)} : (l.map fun q => x :: q).find? (fun q => decide (P (cur ++ q))) = (l.find? fun q => decide (P ((cur ++ [x]) ++ q))).map fun q => x :: q := by
  rw [List.find?_map]
  congr 2
  funext q
  simp
def s131 : SCode := (.seq (.ops [⟨(some 7), none, .mov (.const (.bool false))⟩]) (.seq (.seq (.ops [⟨(some 9), none, .load1 (T 1)⟩, ⟨(some 10), none, .len (T 9)⟩, ⟨(some 11), none, .load1 (T 2)⟩, ⟨(some 12), none, .int2 .eql (T 10) (T 11)⟩]) (.cond (T 12) (.seq (.draw [⟨.rd, ⟨(some 13), none, .load1 (T 3)⟩⟩, ⟨.rd1, ⟨(some 14), none, .load1 (T 1)⟩⟩, ⟨.up, ⟨(some 15), none, .call (.func 132) [(T 14)]⟩⟩, ⟨.any, ⟨(some 16), none, .call (T 13) [(T 15)]⟩⟩, ⟨.free, ⟨(some 7), none, .mov (T 16)⟩⟩]) .ret) .skip)) (.seq (.seq (.ops [⟨(some 17), none, .mov (T 0)⟩, ⟨(some 8), none, .mov (T 17)⟩]) (.block 0 (.loop (.seq (.seq (.ops [⟨(some 18), none, .mov (T 8)⟩, ⟨(some 19), none, .load1 (T 4)⟩, ⟨(some 20), none, .int2 .lss (T 18) (T 19)⟩]) (.cond (T 20) .skip (.exit 0))) (.seq (.block 1 (.seq (.ops [⟨(some 23), none, .load1 (T 1)⟩, ⟨(some 24), none, .mov (T 8)⟩, ⟨(some 25), none, .bslice 1 1 [(.int .i64 (0))] [0] [(T 24)]⟩, ⟨(some 26), none, .append 1 8 (T 23) (T 25)⟩, ⟨none, none, .store 1 (T 1) (T 26)⟩]) (.seq (.seq (.ops [⟨(some 27), none, .load1 (T 5)⟩, ⟨(some 28), none, .mov (T 8)⟩, ⟨(some 29), none, .int2 .add (T 28) (.const (.int .i64 (1)))⟩, ⟨(some 30), none, .call (T 27) [(T 29)]⟩, ⟨(some 31), none, .not (T 30)⟩]) (.cond (T 31) (.seq (.ops [⟨(some 7), none, .mov (.const (.bool false))⟩]) .ret) .skip)) (.ops [⟨(some 32), none, .load1 (T 1)⟩, ⟨(some 33), none, .load1 (T 1)⟩, ⟨(some 34), none, .len (T 33)⟩, ⟨(some 35), none, .int2 .sub (T 34) (.const (.int .i64 (1)))⟩, ⟨(some 36), none, .slice 1 (T 32) none (some (T 35)) none⟩, ⟨none, none, .store 1 (T 1) (T 36)⟩])))) (.ops [⟨(some 21), none, .mov (T 8)⟩, ⟨(some 22), none, .int2 .add (T 21) (.const (.int .i64 (1)))⟩, ⟨(some 8), none, .mov (T 22)⟩])))))) (.seq (.ops [⟨(some 7), none, .mov (.const (.bool true))⟩]) .ret))))
theorem fok131 : FnOk Try.prog 131 37 s131 [.tmp 7] := ⟨Try.f131, _, Try.func131, rfl, Try.ntmps131, by kernel_rfl, by kernel_rfl⟩
open Classical in
set_option maxHeartbeats 2000000 in
theorem chooseS_c {P : List Int → Prop} {N M K N0 fl B B3 ps pm py pn pc : Nat} {yv : Value} {g0 : AHeap} (Kf : List Int → AHeap → Prop)
    (hN : N ≤ 5) (hM : M ≤ 5) (hfl : fl ≤ B) (hps : B ≤ ps ∧ ps < B3) (hpy : B ≤ py ∧ py < B3 ∧ py ≠ ps) (hpc : B ≤ pc ∧ pc < B3 ∧ pc ≠ ps) (hpm : pm < B) (hpn : pn < B) (hyv : eqV yv yv = true) (hN0 : 10 ≤ N0)
    (hY : ∀ n g l v, N0 ≤ n → Ints g v l.length (atL l) → oneCell v = true → (∀ x k c, v = .slice (some x) k c → B3 ≤ x.block ∧ x.block < g.next) → l.length = M → (∀ i, i < B → g.get i = g0.get i) → B3 ≤ g.next → g.floor = fl → g.next + K < far →
      (P l → ∃ g', call n yv [v] g = some (.bool false, g') ∧ Kf l g' ∧ g'.floor = fl ∧ g.next ≤ g'.next ∧ g'.next ≤ g.next + K) ∧
      (¬ P l → ∃ g', call n yv [v] g = some (.bool true, g') ∧ (∀ i, i < g.next → g'.get i = g.get i) ∧ g'.floor = fl ∧ g.next ≤ g'.next ∧ g'.next ≤ g.next + K)) :
    ∀ (d a n : Nat) (g : AHeap) (v : Value) (cur : List Int) (r : Option (List Int)), r = (combs N d a).find? (fun l => decide (P (cur ++ l))) → cur.length + d = M → N0 + d + 1 ≤ n → SetS ps pm py pn pc N M yv g → g.get ps = some (.row [v] true 0) → SetR B3 g v cur → (∀ i, i < B → g.get i = g0.get i) → B3 ≤ g.next → g.floor = fl → g.next + bndS K d < far →
      ∃ g', call n (chooseSV ps pm py pn pc) [.int .i64 (a : Int)] g = some (.bool r.isNone, g') ∧ g'.floor = fl ∧ g.next ≤ g'.next ∧ g'.next ≤ g.next + bndS K d ∧
        (∀ l, r = some l → Kf (cur ++ l) g') ∧ (r = none → (∀ i, i < B → g'.get i = g0.get i) ∧ SetS ps pm py pn pc N M yv g' ∧ ∃ v', g'.get ps = some (.row [v'] true 0) ∧ SetR B3 g' v' cur) := by
  intro d
  induction d with
  | zero =>
    intro a n g v cur r hr0 hlen hn hit hsg hset hbase hB3 hfg hr
    obtain ⟨n, rfl⟩ : ∃ p, n = p + 1 := ⟨n - 1, by omega⟩
    have hbn : bndS K 0 = K + 4 := rfl
    rw [hbn] at hr ⊢
    have hcM : (cur.length : Int) = (M : Int) := by omega
    have hi := hset.ints
    have rps : Row g ps [v] := ⟨_, _, hsg⟩
    obtain ⟨v1, g1, e1, i1, o1, old1, u1, m1, f1, b1⟩ := clone_c (n := n) (h := g) (by omega) (by omega) hi (by omega)
    have sub1 : Sub All g g1 := AHeap.subOf old1
    have hr1 : r = if P cur then some [] else none := by
      rw [hr0]
      simp only [combs, List.find?_cons, List.find?_nil, List.append_nil]
      by_cases c : P cur
      · rw [decide_eq_true c, if_pos c]
      · rw [decide_eq_false c, if_neg c]
    obtain ⟨y1, y2⟩ := hY n g1 cur v1 (by omega) i1 o1 (fun x k c e => ⟨by have := (b1 x k c e).1; omega, (b1 x k c e).2⟩) (by omega) (fun i hi => by rw [old1 i (by omega)]; exact hbase i hi) (by omega) (by omega) (by omega)
    by_cases c : P cur
    · obtain ⟨g2, e2, k2, f2, u2, m2⟩ := y1 c
      rw [if_pos c] at hr1
      suffices hs : ∃ v' g', call (n + 1) (chooseSV ps pm py pn pc) [.int .i64 (a : Int)] g = some (v', g') ∧ v' = .bool false ∧ g' = g2 by
        obtain ⟨_, _, e, rfl, rfl⟩ := hs
        rw [hr1]
        exact ⟨_, e, f2, by omega, by omega, fun l hl => by cases hl; rw [List.append_nil]; exact k2, fun hl => by cases hl⟩
      refine call_any (xs := []) (ys := [.pointer (some ⟨ps, 0, none⟩), .pointer (some ⟨pm, 0, none⟩), .pointer (some ⟨py, 0, none⟩), .pointer (some ⟨pn, 0, none⟩), .pointer (some ⟨pc, 0, none⟩)]) fok131 rfl rfl (by simp) ?_
      simp only [rn0, rn1, rn2, rn3, rn4, rn5, rn6, rn7, rn8, if_true, if_false, Nat.le_refl, true_and, and_true, decide_true, decide_false, Bool.not_true, Bool.not_false, reduceIte, Nat.reduceEqDiff, Nat.reduceAdd, Nat.reduceMul, Nat.reduceSub, Nat.reduceLeDiff, Nat.reduceLT, s131, List.cons_append, List.nil_append, rps.ld, hit.m.ld, Nat.zero_add, List.getElem?_cons_zero, Cells.len hi, hcM]
      refine W_draw All ?_
      simp only [rn0, rn1, rn2, rn3, rn4, rn5, rn6, rn7, rn8, if_true, if_false, Nat.le_refl, true_and, and_true, decide_true, decide_false, Bool.not_true, Bool.not_false, reduceIte, Nat.reduceEqDiff, Nat.reduceAdd, Nat.reduceMul, Nat.reduceSub, Nat.reduceLeDiff, Nat.reduceLT, rps.ld, hit.y.ld, Nat.zero_add, List.getElem?_cons_zero, hyv, e1, e2]
      exact ⟨⟨u1, sub1⟩, u2⟩
    · obtain ⟨g2, e2, k2, f2, u2, m2⟩ := y2 c
      rw [if_neg c] at hr1
      suffices hs : ∃ v' g', call (n + 1) (chooseSV ps pm py pn pc) [.int .i64 (a : Int)] g = some (v', g') ∧ v' = .bool true ∧ g' = g2 by
        obtain ⟨_, _, e, rfl, rfl⟩ := hs
        rw [hr1]
        have hold : ∀ i, i < g.next → _ := fun i hi => (k2 i (by omega)).trans (old1 i hi)
        refine ⟨_, e, f2, by omega, by omega, fun l hl => (by cases hl), fun _ => ⟨fun i hi => by rw [hold i (by omega)]; exact hbase i hi, hit.same (hold _ (by omega)) (hold _ (by omega)) (hold _ (by omega)) (hold _ (by omega)), v, by rw [hold _ (by omega)]; exact hsg, hset.old fun x k c e hlt => hold _ hlt⟩⟩
      refine call_any (xs := []) (ys := [.pointer (some ⟨ps, 0, none⟩), .pointer (some ⟨pm, 0, none⟩), .pointer (some ⟨py, 0, none⟩), .pointer (some ⟨pn, 0, none⟩), .pointer (some ⟨pc, 0, none⟩)]) fok131 rfl rfl (by simp) ?_
      simp only [rn0, rn1, rn2, rn3, rn4, rn5, rn6, rn7, rn8, if_true, if_false, Nat.le_refl, true_and, and_true, decide_true, decide_false, Bool.not_true, Bool.not_false, reduceIte, Nat.reduceEqDiff, Nat.reduceAdd, Nat.reduceMul, Nat.reduceSub, Nat.reduceLeDiff, Nat.reduceLT, s131, List.cons_append, List.nil_append, rps.ld, hit.m.ld, Nat.zero_add, List.getElem?_cons_zero, Cells.len hi, hcM]
      refine W_draw All ?_
      simp only [rn0, rn1, rn2, rn3, rn4, rn5, rn6, rn7, rn8, if_true, if_false, Nat.le_refl, true_and, and_true, decide_true, decide_false, Bool.not_true, Bool.not_false, reduceIte, Nat.reduceEqDiff, Nat.reduceAdd, Nat.reduceMul, Nat.reduceSub, Nat.reduceLeDiff, Nat.reduceLT, rps.ld, hit.y.ld, Nat.zero_add, List.getElem?_cons_zero, hyv, e1, e2]
      exact ⟨⟨u1, sub1⟩, u2⟩
  | succ d ih =>
    intro a n g v cur r hr0 hlen hn hit hsg hset hbase hB3 hfg hr
    obtain ⟨n, rfl⟩ : ∃ p, n = p + 1 := ⟨n - 1, by omega⟩
    have hbn : bndS K (d + 1) = 5 * (bndS K d + 3) := rfl
    rw [hbn] at hr ⊢
    obtain ⟨X, hX⟩ : ∃ X, X = bndS K d := ⟨_, rfl⟩
    rw [← hX] at hr ih ⊢
    have hcM : ¬ (cur.length : Int) = (M : Int) := by omega
    let part : Nat → List (List Int) := fun k => (combs N d (a + k + 1)).map fun l => ((a + k : Nat) : Int) :: l
    have hpart : combs N (d + 1) a = (List.range (N - a)).flatMap part := rfl
    obtain ⟨m, hm⟩ : ∃ m, m = N - a := ⟨_, rfl⟩
    rw [hpart, ← hm] at hr0
    suffices hs : ∃ v' g', call (n + 1) (chooseSV ps pm py pn pc) [.int .i64 (a : Int)] g = some (v', g') ∧ v' = .bool r.isNone ∧ g'.floor = fl ∧ g.next ≤ g'.next ∧ g'.next ≤ g.next + 5 * (X + 3) ∧
        (∀ l, r = some l → Kf (cur ++ l) g') ∧ (r = none → (∀ i, i < B → g'.get i = g0.get i) ∧ SetS ps pm py pn pc N M yv g' ∧ ∃ v', g'.get ps = some (.row [v'] true 0) ∧ SetR B3 g' v' cur) by
      obtain ⟨_, g', e, rfl, q⟩ := hs
      exact ⟨g', e, q⟩
    have hi := hset.ints
    have rps : Row g ps [v] := ⟨_, _, hsg⟩
    refine call_any (xs := []) (ys := [.pointer (some ⟨ps, 0, none⟩), .pointer (some ⟨pm, 0, none⟩), .pointer (some ⟨py, 0, none⟩), .pointer (some ⟨pn, 0, none⟩), .pointer (some ⟨pc, 0, none⟩)]) fok131 rfl rfl (by simp) ?_
    simp only [rn0, rn1, rn2, rn3, rn4, rn5, rn6, rn7, rn8, if_true, if_false, Nat.le_refl, true_and, and_true, decide_true, decide_false, Bool.not_true, Bool.not_false, reduceIte, Nat.reduceEqDiff, Nat.reduceAdd, Nat.reduceMul, Nat.reduceSub, Nat.reduceLeDiff, Nat.reduceLT, s131, List.cons_append, List.nil_append, rps.ld, hit.m.ld, Nat.zero_add, List.getElem?_cons_zero, Cells.len hi, hcM]
    refine W_loop m (fun k f g1 ms => ((∃ v1, g1.get ps = some (.row [v1] true 0) ∧ SetR B3 g1 v1 cur) ∧ SetS ps pm py pn pc N M yv g1 ∧ (∀ i, i < B → g1.get i = g0.get i) ∧ g1.floor = fl ∧ g.next ≤ g1.next ∧ g1.next ≤ g.next + k * (X + 3) ∧ ((List.range k).flatMap part).find? (fun l => decide (P (cur ++ l))) = none) ∧ ms = [] ∧ f 1 = .pointer (some ⟨ps, 0, none⟩) ∧ f 4 = .pointer (some ⟨pn, 0, none⟩) ∧ f 5 = .pointer (some ⟨pc, 0, none⟩) ∧ f 8 = .int .i64 ((a + k : Nat) : Int)) (by simp; omega) ?_ ?_ ?_
    · simp only [rn0, rn1, rn2, rn3, rn4, rn5, rn6, rn7, rn8, if_true, if_false, Nat.le_refl, true_and, and_true, decide_true, decide_false, Bool.not_true, Bool.not_false, reduceIte, Nat.reduceEqDiff, Nat.reduceAdd, Nat.reduceMul, Nat.reduceSub, Nat.reduceLeDiff, Nat.reduceLT, Nat.add_zero]
      exact ⟨⟨v, hsg, hset⟩, hit, hbase, hfg, by rw [Nat.zero_mul]; exact Nat.le_refl _, by simp⟩
    · rintro k f g1 ms hk ⟨⟨⟨v1, hs1, hset1⟩, it1, hb1, fl1, up1, nx1, hno⟩, rfl, p1, p4, p5, p8⟩
      have hlt : ((a + k : Nat) : Int) < (N : Int) := by omega
      have hw : wrapF .i64 (((a + k : Nat) : Int) + 1) = ((a + k + 1 : Nat) : Int) := by rw [wrap_in (by omega) (by omega)]; rfl
      have hk5 : k * (X + 3) + (X + 3) ≤ 5 * (X + 3) := by
        rw [← Nat.succ_mul]
        exact Nat.mul_le_mul_right _ (by omega)
      generalize hkx : k * (X + 3) = kx at nx1 hk5
      have rp1 : Row g1 ps [v1] := ⟨_, _, hs1⟩
      simp only [rn0, rn1, rn2, rn3, rn4, rn5, rn6, rn7, rn8, if_true, if_false, Nat.le_refl, true_and, and_true, decide_true, decide_false, Bool.not_true, Bool.not_false, reduceIte, Nat.reduceEqDiff, Nat.reduceAdd, Nat.reduceMul, Nat.reduceSub, Nat.reduceLeDiff, Nat.reduceLT, p1, p4, p5, p8, rp1.ld, it1.n.ld, Nat.zero_add, List.getElem?_cons_zero, hlt, sl_int]
      refine step_slice (by omega) rfl fun g2 hx2 => ?_
      have n2 := hx2.next
      have f2 := hx2.floor
      obtain ⟨v3, g3, e3, hset3, o3, u3, m3, f3, old3, nb3⟩ := hset1.push (g1 := g2) (x := ((a + k : Nat) : Int)) (by omega) (by omega) (by omega) hx2 (by omega)
      have nob : ∀ i, i < B3 → NoB v1 i := fun i hi b k c e => by have := (hset1.block e).1; omega
      have nob3 : ∀ i, i < B3 → NoB v3 i := fun i hi b k c e => by have := (hset3.block e).1; omega
      have s3 : g3.get ps = some (.row [v1] true 0) := by rw [old3 _ (by omega) (nob _ hps.2)]; exact hs1
      simp only [rn0, rn1, rn2, rn3, rn4, rn5, rn6, rn7, rn8, if_true, if_false, Nat.le_refl, true_and, and_true, decide_true, decide_false, Bool.not_true, Bool.not_false, reduceIte, Nat.reduceEqDiff, Nat.reduceAdd, Nat.reduceMul, Nat.reduceSub, Nat.reduceLeDiff, Nat.reduceLT, p1, p4, p5, p8, e3]
      refine step_store (b := ps) (off := 0) (vs := [v3]) rfl s3 (by omega) (by omega) (by cases v3 <;> first | rfl | cases o3) (by simp [allB, o3]) rfl (by simp) fun g4 hs4 => ?_
      rw [splice1] at hs4
      have n4 := hs4.next
      have f4 := hs4.floor
      have low4 : ∀ i, i < B3 → i ≠ ps → g4.get i = g1.get i := fun i hi hne => by rw [hs4.old i hne, old3 i (by omega) (nob i hi)]
      have it4 : SetS ps pm py pn pc N M yv g4 := it1.same (low4 _ hpy.2.1 hpy.2.2) (low4 _ (by omega) (by omega)) (low4 _ (by omega) (by omega)) (low4 _ hpc.2.1 hpc.2.2)
      have hset4 : SetR B3 g4 v3 (cur ++ [((a + k : Nat) : Int)]) := hset3.old fun x k c e hl => hs4.old _ (by have := (hset3.block e).1; omega)
      have hb4 : ∀ i, i < B → g4.get i = g0.get i := fun i hi => by rw [low4 i (by omega) (by omega)]; exact hb1 i hi
      obtain ⟨r', hr'⟩ : ∃ r', r' = (combs N d (a + k + 1)).find? (fun l => decide (P ((cur ++ [((a + k : Nat) : Int)]) ++ l))) := ⟨_, rfl⟩
      obtain ⟨g5, e5, f5, u5, m5, kf5, hn5⟩ := ih (a + k + 1) n g4 v3 _ r' hr' (by simp; omega) (by omega) it4 hs4.get hset4 hb4 (by omega) (by omega) (by omega)
      have hfp : (part k).find? (fun l => decide (P (cur ++ l))) = r'.map fun q => ((a + k : Nat) : Int) :: q := by rw [hr']; exact find_map (N := N) (d := d)
      have hrow4 : Row g4 pc [chooseSV ps pm py pn pc] := it4.c
      cases hrr : r' with
      | some l =>
        rw [hrr] at e5 hfp
        obtain ⟨rest, hrest⟩ := part_flat part hk
        have hfind : r = some (((a + k : Nat) : Int) :: l) := by
          rw [hr0, hrest, List.find?_append, hno, List.find?_append, hfp]
          rfl
        have hz : Option.isNone (some l) = false := rfl
        rw [hz] at e5
        have hz' : r.isNone = false := by rw [hfind]; rfl
        simp only [rn0, rn1, rn2, rn3, rn4, rn5, rn6, rn7, rn8, if_true, if_false, Nat.le_refl, true_and, and_true, decide_true, decide_false, Bool.not_true, Bool.not_false, reduceIte, Nat.reduceEqDiff, Nat.reduceAdd, Nat.reduceMul, Nat.reduceSub, Nat.reduceLeDiff, Nat.reduceLT, p1, p4, p5, p8, hrow4.ld, Nat.zero_add, List.getElem?_cons_zero, hw, e5]
        rw [hz']
        refine ⟨rfl, by omega, by omega, by omega, fun q hq => ?_, fun q => by rw [hfind] at q; cases q⟩
        rw [hfind] at hq
        cases hq
        have := kf5 l hrr
        rw [List.append_assoc] at this
        exact this
      | none =>
        rw [hrr] at e5 hfp
        obtain ⟨b5, it5, v5, s5, set5⟩ := hn5 hrr
        have hz : Option.isNone (none : Option (List Int)) = true := rfl
        rw [hz] at e5
        obtain ⟨v6, e6, set6, o6⟩ := set5.cut
        have rp5 : Row g5 ps [v5] := ⟨_, _, s5⟩
        have hl5 : (cur ++ [((a + k : Nat) : Int)]).length = cur.length + 1 := by simp
        have i5 := set5.ints
        rw [hl5] at i5
        have hw5 : wrapF .i64 (((cur.length + 1 : Nat) : Int) - 1) = (cur.length : Int) := by rw [wrap_in (by omega) (by omega)]; omega
        have e6' : sliceA 1 (Option.isSome (some (T 35))) g5 v5 none (some (.int .i64 (cur.length : Int))) none = some (v6, g5) := e6
        simp only [rn0, rn1, rn2, rn3, rn4, rn5, rn6, rn7, rn8, if_true, if_false, Nat.le_refl, true_and, and_true, decide_true, decide_false, Bool.not_true, Bool.not_false, reduceIte, Nat.reduceEqDiff, Nat.reduceAdd, Nat.reduceMul, Nat.reduceSub, Nat.reduceLeDiff, Nat.reduceLT, p1, p4, p5, p8, hrow4.ld, Nat.zero_add, List.getElem?_cons_zero, hw, e5, rp5.ld, Cells.len i5, hw5, Option.map_none, Option.map_some, e6']
        refine step_store (b := ps) (off := 0) (vs := [v6]) rfl s5 (by omega) (by omega) (by cases v6 <;> first | rfl | cases o6) (by simp [allB, o6]) rfl (by simp) fun g7 hs7 => ?_
        rw [splice1] at hs7
        have n7 := hs7.next
        have f7 := hs7.floor
        simp only [rn0, rn1, rn2, rn3, rn4, rn5, rn6, rn7, rn8, if_true, if_false, Nat.le_refl, true_and, and_true, decide_true, decide_false, Bool.not_true, Bool.not_false, reduceIte, Nat.reduceEqDiff, Nat.reduceAdd, Nat.reduceMul, Nat.reduceSub, Nat.reduceLeDiff, Nat.reduceLT, p1, p4, p5, p8, hw]
        have hk1 : (k + 1) * (X + 3) = kx + (X + 3) := by rw [Nat.succ_mul, hkx]
        rw [hk1]
        refine ⟨⟨⟨v6, hs7.get, set6.old fun x k c e hl => hs7.old _ (by have := (set6.block e).1; omega)⟩, it5.same (hs7.old _ hpy.2.2) (hs7.old _ (by omega)) (hs7.old _ (by omega)) (hs7.old _ hpc.2.2), fun i hi => by rw [hs7.old i (by omega)]; exact b5 i hi, by omega, by omega, by omega, ?_⟩, rfl⟩
        rw [List.range_succ, List.flatMap_append, List.find?_append, hno]
        show Option.or none ((([k] : List Nat).flatMap part).find? _) = none
        rw [show ([k] : List Nat).flatMap part = part k by simp, hfp]
        rfl
    · rintro f g1 ms ⟨⟨⟨v1, hs1, hset1⟩, it1, hb1, fl1, up1, nx1, hno⟩, rfl, p1, p4, p5, p8⟩
      have hlt : ¬ ((a + m : Nat) : Int) < (N : Int) := by omega
      have hk5 : m * (X + 3) ≤ 5 * (X + 3) := Nat.mul_le_mul_right _ (by omega)
      have hrn : r = none := by rw [hr0]; exact hno
      have hz : r.isNone = true := by rw [hrn]; rfl
      simp only [rn0, rn1, rn2, rn3, rn4, rn5, rn6, rn7, rn8, if_true, if_false, Nat.le_refl, true_and, and_true, decide_true, decide_false, Bool.not_true, Bool.not_false, reduceIte, Nat.reduceEqDiff, Nat.reduceAdd, Nat.reduceMul, Nat.reduceSub, Nat.reduceLeDiff, Nat.reduceLT, p1, p4, p5, p8, it1.n.ld, Nat.zero_add, List.getElem?_cons_zero, hlt]
      rw [hz]
      have hA := And.intro fl1 (And.intro up1 (And.intro (show g1.next ≤ g.next + 5 * (X + 3) by omega) (And.intro (show ∀ l, r = some l → Kf (cur ++ l) g1 from fun l hl => by rw [hrn] at hl; cases hl) (show r = none → _ from fun _ => And.intro hb1 (And.intro it1 (show ∃ v', g1.get ps = some (.row [v'] true 0) ∧ SetR B3 g1 v' cur from ⟨v1, hs1, hset1⟩))))))
      first | exact hA | exact ⟨rfl, hA⟩
end Go.Vm.St

namespace Go.Vm.St
open Go.Proofs Go.Vm.Vat
set_option linter.unusedSimpArgs false
set_option linter.unusedVariables false
set_option maxRecDepth 10000
variable {n : Nat} {h : AHeap}
def s130 : SCode := (.seq (.ops [⟨(some 3), none, .box (T 0)⟩]) (.seq (.ops [⟨(some 4), none, .alloc [(.slice none 0 0)]⟩]) (.seq (.ops [⟨(some 5), none, .alloc [.nilFunc]⟩]) (.seq (.ops [⟨(some 6), none, .mkfunc 131 [] [(T 4), (T 1), (T 3), (T 2), (T 5)]⟩, ⟨none, none, .store 1 (T 5) (T 6)⟩]) (.ops [⟨(some 7), none, .load1 (T 5)⟩, ⟨(some 8), none, .call (T 7) [(.const (.int .i64 (0)))]⟩])))))
theorem fok130 : FnOk Try.prog 130 9 s130 [] := ⟨Try.f130, _, Try.func130, rfl, Try.ntmps130, by kernel_rfl, by kernel_rfl⟩
open Classical in
set_option maxHeartbeats 1000000 in
theorem setsIter_c {P : List Int → Prop} {N M K N0 pm pn : Nat} {yv : Value} {g : AHeap} {r : Option (List Int)} (Kf : List Int → AHeap → Prop) (hr0 : r = (combs N M 0).find? (fun l => decide (P l)))
    (hN : N ≤ 5) (hM : M ≤ 5) (hm : Row g pm [.int .i64 (M : Int)]) (hnr : Row g pn [.int .i64 (N : Int)]) (hyo : oneCell yv = true) (hyv : eqV yv yv = true) (hfl : g.floor ≤ g.next) (hN0 : 10 ≤ N0) (hn : N0 + 10 ≤ n)
    (hY : ∀ n g1 l v, N0 ≤ n → Ints g1 v l.length (atL l) → oneCell v = true → (∀ x k c, v = .slice (some x) k c → g.next + 3 ≤ x.block ∧ x.block < g1.next) → l.length = M → (∀ i, i < g.next → g1.get i = g.get i) → g.next + 3 ≤ g1.next → g1.floor = g.floor → g1.next + K < far →
      (P l → ∃ g', call n yv [v] g1 = some (.bool false, g') ∧ Kf l g' ∧ g'.floor = g.floor ∧ g1.next ≤ g'.next ∧ g'.next ≤ g1.next + K) ∧
      (¬ P l → ∃ g', call n yv [v] g1 = some (.bool true, g') ∧ (∀ i, i < g1.next → g'.get i = g1.get i) ∧ g'.floor = g.floor ∧ g1.next ≤ g'.next ∧ g'.next ≤ g1.next + K))
    (hr : g.next + 10 + bndS K M < far) :
    ∃ v g', call n (.func (.func 130) ⟨[]⟩ ⟨[.pointer (some ⟨pm, 0, none⟩), .pointer (some ⟨pn, 0, none⟩)]⟩) [yv] g = some (v, g') ∧ g'.floor = g.floor ∧ g.next ≤ g'.next ∧ g'.next ≤ g.next + 3 + bndS K M ∧
      (∀ l, r = some l → Kf l g') ∧ (r = none → ∀ i, i < g.next → g'.get i = g.get i) := by
  obtain ⟨n, rfl⟩ : ∃ p, n = p + 1 := ⟨n - 1, by omega⟩
  have lpm := row_lt hm
  have lpn := row_lt hnr
  refine call_any (xs := []) (ys := [.pointer (some ⟨pm, 0, none⟩), .pointer (some ⟨pn, 0, none⟩)]) fok130 rfl rfl (by simp) ?_
  simp only [s130, List.cons_append, List.nil_append, W_seq, W_ops]
  refine ops_box (cs := [yv]) (by omega) (by simp only [rn0, rn1, rn2, rn3, rn4, rn5, rn6, rn7, rn8, if_true, if_false, Nat.le_refl, true_and, and_true, decide_true, decide_false, Bool.not_true, Bool.not_false, reduceIte, Nat.reduceEqDiff, Nat.reduceAdd, Nat.reduceMul, Nat.reduceSub, Nat.reduceLeDiff, Nat.reduceLT]; cases yv <;> first | rfl | cases hyo) (by simp [allB, hyo]) fun g1 hx1 => ?_
  have n1 := hx1.next
  have f1 := hx1.floor
  simp only [rn0, rn1, rn2, rn3, rn4, rn5, rn6, rn7, rn8, if_true, if_false, Nat.le_refl, true_and, and_true, decide_true, decide_false, Bool.not_true, Bool.not_false, reduceIte, Nat.reduceEqDiff, Nat.reduceAdd, Nat.reduceMul, Nat.reduceSub, Nat.reduceLeDiff, Nat.reduceLT]
  refine step_row (cs := [nilS]) (by omega) rfl rfl fun g2 hx2 => ?_
  have n2 := hx2.next
  have f2 := hx2.floor
  simp only [rn0, rn1, rn2, rn3, rn4, rn5, rn6, rn7, rn8, if_true, if_false, Nat.le_refl, true_and, and_true, decide_true, decide_false, Bool.not_true, Bool.not_false, reduceIte, Nat.reduceEqDiff, Nat.reduceAdd, Nat.reduceMul, Nat.reduceSub, Nat.reduceLeDiff, Nat.reduceLT]
  refine step_row (cs := [.nilFunc]) (by omega) rfl rfl fun g3 hx3 => ?_
  have n3 := hx3.next
  have f3 := hx3.floor
  have e1 : g1.next = g.next + 1 := n1
  have e2 : g2.next = g.next + 2 := by omega
  simp only [rn0, rn1, rn2, rn3, rn4, rn5, rn6, rn7, rn8, if_true, if_false, Nat.le_refl, true_and, and_true, decide_true, decide_false, Bool.not_true, Bool.not_false, reduceIte, Nat.reduceEqDiff, Nat.reduceAdd, Nat.reduceMul, Nat.reduceSub, Nat.reduceLeDiff, Nat.reduceLT]
  refine step_store (b := g2.next) (gr := 0) (vs := [chooseSV g1.next pm g.next pn g2.next]) rfl hx3.get (by omega) (by omega) rfl rfl rfl (by simp) fun g4 hs => ?_
  have n4 := hs.next
  have f4 := hs.floor
  have es : splice [Value.nilFunc] 0 [chooseSV g1.next pm g.next pn g2.next] = [chooseSV g1.next pm g.next pn g2.next] := rfl
  rw [es] at hs
  have old4 : ∀ i, i < g.next → g4.get i = g.get i := fun i hi => by rw [hs.old i (by omega), hx3.old i (by omega), hx2.old i (by omega), hx1.old i hi]
  have hit : SetS g1.next pm g.next pn g2.next N M yv g4 := ⟨⟨true, 0, by rw [hs.old _ (by omega), hx3.old _ (by omega), hx2.old _ (by omega)]; exact hx1.get⟩, rowAt hm (old4 _ lpm), rowAt hnr (old4 _ lpn), ⟨true, 0, hs.get⟩⟩
  have hsg : g4.get g1.next = some (.row [nilS] true 0) := by rw [hs.old _ (by omega), hx3.old _ (by omega)]; exact hx2.get
  have hr0' : r = (combs N M 0).find? (fun l => decide (P ([] ++ l))) := hr0
  obtain ⟨g5, e5, f5, u5, m5, k5, q5⟩ := chooseS_c (P := P) (N := N) (M := M) (K := K) (N0 := N0) (fl := g.floor) (B := g.next) (B3 := g.next + 3) (ps := g1.next) (pm := pm) (py := g.next) (pn := pn) (pc := g2.next) (yv := yv) (g0 := g) Kf hN hM hfl (by omega) (by omega) (by omega) lpm lpn hyv hN0
    hY M 0 n g4 nilS [] r hr0' (by simp) (by omega) hit hsg (.inl ⟨rfl, rfl⟩) old4 (by omega) (by omega) (by omega)
  have hl : loadCell g4 (.pointer (some ⟨g2.next, 0, none⟩)) = some (chooseSV g1.next pm g.next pn g2.next) := by rw [hs.row.ld]; rfl
  have e5' : call n (chooseSV g1.next pm g.next pn g2.next) [.int .i64 0] g4 = some (.bool r.isNone, g5) := e5
  simp only [rn0, rn1, rn2, rn3, rn4, rn5, rn6, rn7, rn8, if_true, if_false, Nat.le_refl, true_and, and_true, decide_true, decide_false, Bool.not_true, Bool.not_false, reduceIte, Nat.reduceEqDiff, Nat.reduceAdd, Nat.reduceMul, Nat.reduceSub, Nat.reduceLeDiff, Nat.reduceLT, hl, e5']
  exact ⟨_, rfl, f5, by omega, by omega, fun l h => k5 l h, fun h => (q5 h).1⟩
def s124 : SCode := (.seq (.ops [⟨(some 2), none, .box (T 0)⟩, ⟨(some 3), none, .box (T 1)⟩, ⟨(some 4), none, .mov (.const .nilFunc)⟩]) (.seq (.ops [⟨(some 5), none, .mkfunc 130 [] [(T 3), (T 2)]⟩, ⟨(some 4), none, .mov (T 5)⟩]) .ret))
theorem fok124 : FnOk Try.prog 124 6 s124 [.tmp 4] := ⟨Try.f124, _, Try.func124, rfl, Try.ntmps124, by kernel_rfl, by kernel_rfl⟩
theorem allSets_c (hn : 1 ≤ n) (hr : h.next + 3 < far) (a b : Int) :
    ∃ h', call n (.func (.func 124) #[] #[]) [.int .i64 a, .int .i64 b] h = some (.func (.func 130) ⟨[]⟩ ⟨[.pointer (some ⟨h.next + 1, 0, none⟩), .pointer (some ⟨h.next, 0, none⟩)]⟩, h') ∧ Row h' h.next [.int .i64 a] ∧ Row h' (h.next + 1) [.int .i64 b] ∧ (∀ i, i < h.next → h'.get i = h.get i) ∧ h'.next = h.next + 2 ∧ h'.floor = h.floor := by
  obtain ⟨n, rfl⟩ : ∃ p, n = p + 1 := ⟨n - 1, by omega⟩
  suffices hs : ∃ v h', call (n + 1) (.func (.func 124) #[] #[]) [.int .i64 a, .int .i64 b] h = some (v, h') ∧ v = .func (.func 130) ⟨[]⟩ ⟨[.pointer (some ⟨h.next + 1, 0, none⟩), .pointer (some ⟨h.next, 0, none⟩)]⟩ ∧ Row h' h.next [.int .i64 a] ∧ Row h' (h.next + 1) [.int .i64 b] ∧ (∀ i, i < h.next → h'.get i = h.get i) ∧ h'.next = h.next + 2 ∧ h'.floor = h.floor by
    obtain ⟨v, h', e, rfl, hx⟩ := hs
    exact ⟨h', e, hx⟩
  refine call_any0 fok124 rfl rfl (by simp) ?_
  simp only [s124, W_seq, W_ops]
  refine ops_box (cs := [.int .i64 a]) (by omega) rfl rfl fun g1 hx1 => ?_
  have n1 := hx1.next
  have f1 := hx1.floor
  refine ops_box (cs := [.int .i64 b]) (by omega) rfl rfl fun g2 hx2 => ?_
  have n2 := hx2.next
  have f2 := hx2.floor
  have r2 := hx2.row
  rw [n1] at r2
  simp only [rn0, rn1, rn2, rn3, rn4, rn5, rn6, rn7, rn8, if_true, if_false, Nat.le_refl, true_and, and_true, decide_true, decide_false, Bool.not_true, Bool.not_false, reduceIte, Nat.reduceEqDiff, Nat.reduceAdd, Nat.reduceMul, Nat.reduceSub, Nat.reduceLeDiff, Nat.reduceLT, n1]
  exact ⟨hx1.row.mono hx2.sub, r2, fun i hi => by rw [hx2.old i (by omega), hx1.old i hi], by omega, by omega⟩
end Go.Vm.St

namespace Go.Vm.St
open Go.Proofs Go.Vm.Vat
set_option linter.unusedSimpArgs false
set_option linter.unusedVariables false
set_option maxRecDepth 10000
variable {n : Nat} {h : AHeap}
/-! ### The smells that are not right, truth by truth -/
def wrS (S : MS) (t : Nat → Int) (i : Nat) : Prop := ¬ RightS S t i
noncomputable def wrongL (S : MS) (t : Nat → Int) : List Int := pickL (wrS S t) S.ns
def allE (S : MS) : List (Nat → Int) := enumB (uLo S) (uHi S) (numU S) 0 fun _ => 0
noncomputable def allW (S : MS) : List (List Int) := (allE S).map (wrongL S)
noncomputable def wrongStep (S : MS) (s : List (List Int)) (c : Nat → Int) : List (List Int) × Bool := (s ++ [wrongL S c], true)
theorem runL_wrong {S : MS} : ∀ (l : List (Nat → Int)) (s : List (List Int)), runL (wrongStep S) s l = (s ++ l.map (wrongL S), true)
  | [], s => by simp [runL]
  | x :: l, s => by
    have e : runL (wrongStep S) s (x :: l) = runL (wrongStep S) (s ++ [wrongL S x]) l := rfl
    rw [e, runL_wrong l]; simp
theorem wrong_len {S : MS} {t : Nat → Int} : (wrongL S t).length ≤ S.ns := pick_len _
/-- a list of lists of numbers that grows -/
structure WrG (B : Nat) (g : AHeap) (v : Value) (s : List (List Int)) (R : Nat → Value) : Prop where
  c : GrowC B g v 1 s.length (fun k _ => R k)
  r : ∀ k, k < s.length → Ints g (R k) (s.getD k []).length (atL (s.getD k [])) ∧ ∀ x m c, R k = .slice (some x) m c → B ≤ x.block ∧ x.block < g.next ∧ NeB v x.block
theorem WrG.old {B : Nat} {g g' : AHeap} {v : Value} {s : List (List Int)} {R : Nat → Value} (hw : WrG B g v s R) (ho : ∀ i, B ≤ i → i < g.next → g'.get i = g.get i) (hn : g.next ≤ g'.next) : WrG B g' v s R :=
  ⟨GrowC.at' hw.c fun a k c e => ho _ (hw.c.block e).1 (hw.c.block e).2, fun k hk => ⟨cells_at (hw.r k hk).1 fun a m c e hl => ho _ ((hw.r k hk).2 a m c e).1 hl, fun x m c e => by
    obtain ⟨q1, q2, q3⟩ := (hw.r k hk).2 x m c e
    exact ⟨q1, by omega, q3⟩⟩⟩
theorem WrG.push {B : Nat} {g g1 : AHeap} {v wv : Value} {s : List (List Int)} {R : Nat → Value} {w : List Int} (hw : WrG B g v s R) (hB : g.floor ≤ B) (hf : g.next + 2 < far) (hBn : B ≤ g.next) (hx : New g g1 [wv] 0) (hi : Ints g wv w.length (atL w)) (ho : oneCell wv = true)
    (hb : ∀ x m c, wv = .slice (some x) m c → B ≤ x.block ∧ x.block < g.next ∧ NeB v x.block) (hl : s.length ≤ g.next) :
    ∃ v' g2, appendA 1 24 g1 v (.slice (some ⟨g.next, 0, none⟩) 1 1) = some (v', g2) ∧ WrG B g2 v' (s ++ [w]) (fun k => if k = s.length then wv else R k) ∧ oneCell v' = true ∧ v' = .slice (some ⟨g.next + 1, 0, none⟩) (s.length + 1) unk ∧ g2.next = g.next + 2 ∧ g2.floor = g.floor ∧ (∀ i, i < g.next → NeB v i → g2.get i = g.get i) := by
  have hlen : (s ++ [w]).length = s.length + 1 := by simp
  have hg : GrowC B g v 1 s.length (fun k _ => if k = s.length then wv else R k) := growC_congr hw.c fun k j hk hj => by
    have : ¬ k = s.length := by omega
    simp only [this, if_false]
  obtain ⟨g2, e, gv, n2, f2, o2', u2⟩ := grow_push3 (bytes := 24) hg hB hf hBn hx rfl (by simp [allB, ho]) (fun j hj => by
    obtain rfl : j = 0 := by omega
    simp) (by simp [maxBytes, far] at *; omega) (by simp [maxBytes, far] at *; omega)
  refine ⟨_, g2, e, ⟨by rw [hlen]; exact gv, fun k hk => ?_⟩, rfl, rfl, n2, f2, o2'⟩
  have fresh : ∀ i, i < g.next → NeB (.slice (some ⟨g.next + 1, 0, none⟩) (s.length + 1) unk) i := fun i hi b m c e => by cases e; show i ≠ g.next + 1; omega
  by_cases c : k = s.length
  · subst c
    have hlast : (s ++ [w]).getD s.length [] = w := by rw [List.getD_eq_getElem?_getD, List.getElem?_append_right (Nat.le_refl _)]; simp
    simp only [if_true, hlast]
    exact ⟨cells_at hi fun a m c e hl => o2' _ hl (hb a m c e).2.2, fun x m c e => ⟨(hb x m c e).1, by have := (hb x m c e).2.1; omega, fresh _ (hb x m c e).2.1⟩⟩
  · have hk' : k < s.length := by omega
    simp only [c, if_false]
    rw [List.getD_eq_getElem?_getD, List.getElem?_append_left hk', ← List.getD_eq_getElem?_getD]
    obtain ⟨q1, q2⟩ := hw.r k hk'
    exact ⟨cells_at q1 fun a m c e hl => o2' _ hl (q2 a m c e).2.2, fun x m c e => ⟨(q2 x m c e).1, by have := (q2 x m c e).2.1; omega, fresh _ (q2 x m c e).2.1⟩⟩
theorem WrG.nil {B : Nat} {g : AHeap} : WrG B g nilS [] (fun _ => nilS) := ⟨.nil, fun k hk => absurd hk (Nat.not_lt_zero _)⟩
/-- the list, as it is read -/
def AllR (g : AHeap) (v : Value) (s : List (List Int)) : Prop := ∃ R : Nat → Value, Cells g v 1 s.length (fun k _ => R k) ∧ ∀ k, k < s.length → Ints g (R k) (s.getD k []).length (atL (s.getD k []))
theorem AllR.mono {g g' : AHeap} {v : Value} {s : List (List Int)} (ha : AllR g v s) (hs : Sub All g g') : AllR g' v s := by
  obtain ⟨R, h1, h2⟩ := ha
  exact ⟨R, h1.mono hs, fun k hk => Cells.mono (h2 k hk) hs⟩
structure JW (h2 : AHeap) (p : Nat) (s : List (List Int)) (g : AHeap) : Prop where
  old : ∀ i, i < h2.next → i ≠ p → g.get i = h2.get i
  tv : ∃ v R, g.get p = some (.row [v] true 0) ∧ WrG (h2.next + 2) g v s R
  up : h2.next + 2 ≤ g.next
  len : s.length ≤ g.next
def OwnW (h2 : AHeap) (p : Nat) (g : AHeap) (q : Nat) : Prop := h2.next ≤ q ∧ q ≠ p ∧ q ≠ h2.next + 1 ∧ ∀ v, g.get p = some (.row [v] true 0) → NeB v q
noncomputable def s96 : SCode := (.seq (.ops [⟨(some 1), none, .box (T 0)⟩, ⟨(some 2), none, .mov (.const (.slice none 0 0))⟩]) (.seq (.ops [⟨(some 3), none, .alloc [(.slice none 0 0)]⟩]) (.seq (.seq (.ops [⟨(some 8), none, .loadN 8 (T 1)⟩, ⟨(some 9), none, .call (.func 108) [(T 8)]⟩]) (.block 0 (.range (T 9) #[10] (rangeOf Try.f96 0).1 (rangeOf Try.f96 0).2))) (.seq (.ops [⟨(some 34), none, .load1 (T 3)⟩, ⟨(some 2), none, .mov (T 34)⟩]) .ret))))
theorem fok96 : FnOk Try.prog 96 35 s96 [.tmp 2] := ⟨Try.f96, _, Try.func96, rfl, Try.ntmps96, by kernel_rfl, by kernel_rfl⟩
def ra96_0 : SCode := (.ops [⟨(some 4), none, .alloc [(.int .i64 (0)), (.int .i64 (0)), (.int .i64 (0)), (.int .i64 (0)), (.int .i64 (0)), (.int .i64 (0)), (.int .i64 (0)), (.int .i64 (0)), (.int .i64 (0)), (.int .i64 (0)), (.int .i64 (0))]⟩, ⟨none, none, .store 11 (T 4) (T 10)⟩])
theorem raok96_0 : compCode Try.prog 35 (rangeOf Try.f96 0).1 = some ra96_0 := by kernel_rfl
def rb96_0 : SCode := (.block 1 (.seq (.ops [⟨(some 5), none, .mov (.const (.slice none 0 0))⟩]) (.seq (.seq (.ops [⟨(some 11), none, .fieldAddr 0 (T 1)⟩, ⟨(some 12), none, .fieldAddr 6 (T 11)⟩, ⟨(some 13), none, .load1 (T 12)⟩, ⟨(some 14), none, .len (T 13)⟩, ⟨(some 15), none, .mov (.const (.int .i64 (0)))⟩]) (.block 2 (.loop (.seq (.ops [⟨(some 16), none, .int2 .lss (T 15) (T 14)⟩]) (.seq (.cond (T 16) .skip (.exit 2)) (.seq (.block 3 (.seq (.ops [⟨(some 17), none, .mov (T 15)⟩, ⟨(some 18), none, .idxSl 3 (T 13) (T 15)⟩, ⟨(some 19), none, .loadN 3 (T 18)⟩, ⟨(some 7), none, .alloc [(.int .i64 (0)), (.int .i64 (0)), (.int .i64 (0))]⟩, ⟨(some 6), none, .mov (T 17)⟩, ⟨none, none, .store 3 (T 7) (T 19)⟩]) (.seq (.ops [⟨(some 20), none, .loadN 8 (T 1)⟩, ⟨(some 21), none, .loadN 11 (T 4)⟩, ⟨(some 22), none, .loadN 3 (T 7)⟩, ⟨(some 23), none, .call (.func 123) [(T 20), (T 21), (T 22)]⟩, ⟨(some 24), none, .not (T 23)⟩]) (.cond (T 24) (.ops [⟨(some 25), none, .mov (T 5)⟩, ⟨(some 26), none, .mov (T 6)⟩, ⟨(some 27), none, .bslice 1 1 [(.int .i64 (0))] [0] [(T 26)]⟩, ⟨(some 28), none, .append 1 8 (T 25) (T 27)⟩, ⟨(some 5), none, .mov (T 28)⟩]) .skip)))) (.ops [⟨(some 29), none, .int2 .add (T 15) (.const (.int .i64 (1)))⟩, ⟨(some 15), none, .mov (T 29)⟩]))))))) (.ops [⟨(some 30), none, .load1 (T 3)⟩, ⟨(some 31), none, .mov (T 5)⟩, ⟨(some 32), none, .bslice 1 1 [(.slice none 0 0)] [0] [(T 31)]⟩, ⟨(some 33), none, .append 1 24 (T 30) (T 32)⟩, ⟨none, none, .store 1 (T 3) (T 33)⟩]))))
theorem rbok96_0 : compCode Try.prog 35 (rangeOf Try.f96 0).2 = some rb96_0 := by kernel_rfl
set_option maxHeartbeats 4000000 in
theorem wrongAll_c (hn : 500 ≤ n) (hr : h.next + 600000 < far) (hfl : h.floor ≤ h.next) {wv vv sv : Value} {S : MS} (hy : SteepR h wv vv sv S) (hG : Good S) :
    ∃ v h', call n (.func (.func 96) #[] #[]) [.agg ⟨wkL S wv vv sv nilS⟩] h = some (v, h') ∧ AllR h' v (allW S) ∧ oneCell v = true ∧ (∀ i, i < h.next → h'.get i = h.get i) ∧ h.next ≤ h'.next ∧ h'.next ≤ h.next + 500000 ∧ h'.floor = h.floor := by
  obtain ⟨n, rfl⟩ : ∃ p, n = p + 1 := ⟨n - 1, by omega⟩
  refine call_any0 fok96 rfl rfl (by simp) ?_
  have hlenE := enum_len hG
  obtain ⟨_, _, _, _, _, z5, _⟩ := hG.sizes
  simp only [s96, W_seq, W_ops]
  refine ops_box (cs := wkL S wv vv sv nilS) (by omega) rfl (wk_one hy rfl) fun g1 hx1 => ?_
  have n1 := hx1.next
  have f1 := hx1.floor
  have e1 : g1.next = h.next + 1 := n1
  simp only [rn0, rn1, rn2, rn3, rn4, rn5, rn6, rn7, rn8, if_true, if_false, Nat.le_refl, true_and, and_true, decide_true, decide_false, Bool.not_true, Bool.not_false, reduceIte, Nat.reduceEqDiff, Nat.reduceAdd, Nat.reduceMul, Nat.reduceSub, Nat.reduceLeDiff, Nat.reduceLT]
  refine step_row (cs := [nilS]) (by omega) rfl rfl fun g2 hx2 => ?_
  have n2 := hx2.next
  have f2 := hx2.floor
  have e2 : g2.next = h.next + 2 := by omega
  have w2 := (hx1.row.mono hx2.sub).whole (n := 8) rfl
  have old2 : ∀ i, i < h.next → g2.get i = h.get i := fun i hi => by rw [hx2.old i (by omega), hx1.old i hi]
  obtain ⟨g4, e4, hx4⟩ := allTruths_c (n := n) (h := g2) (cs := wkL S wv vv sv nilS) (by omega) (by omega) (wk_one hy rfl) rfl
  have n4 := hx4.next
  have f4 := hx4.floor
  rw [e1]
  simp only [rn0, rn1, rn2, rn3, rn4, rn5, rn6, rn7, rn8, if_true, if_false, Nat.le_refl, true_and, and_true, decide_true, decide_false, Bool.not_true, Bool.not_false, reduceIte, Nat.reduceEqDiff, Nat.reduceAdd, Nat.reduceMul, Nat.reduceSub, Nat.reduceLeDiff, Nat.reduceLT, w2, e4]
  refine W_range' rfl (by omega) (by simp only [rn0, rn1, rn2, rn3, rn4, rn5, rn6, rn7, rn8, if_true, if_false, Nat.le_refl, true_and, and_true, decide_true, decide_false, Bool.not_true, Bool.not_false, reduceIte, Nat.reduceEqDiff, Nat.reduceAdd, Nat.reduceMul, Nat.reduceSub, Nat.reduceLeDiff, Nat.reduceLT]; rfl) fun f0 hf0 ts hv h2 hl => ?_
  have c1 : f0 1 = .pointer (some ⟨h.next, 0, none⟩) := by rw [hf0]; simp only [rn0, rn1, rn2, rn3, rn4, rn5, rn6, rn7, rn8, if_true, if_false, Nat.le_refl, true_and, and_true, decide_true, decide_false, Bool.not_true, Bool.not_false, reduceIte, Nat.reduceEqDiff, Nat.reduceAdd, Nat.reduceMul, Nat.reduceSub, Nat.reduceLeDiff, Nat.reduceLT]
  have c3 : f0 3 = .pointer (some ⟨h.next + 1, 0, none⟩) := by rw [hf0]; simp only [rn0, rn1, rn2, rn3, rn4, rn5, rn6, rn7, rn8, if_true, if_false, Nat.le_refl, true_and, and_true, decide_true, decide_false, Bool.not_true, Bool.not_false, reduceIte, Nat.reduceEqDiff, Nat.reduceAdd, Nat.reduceMul, Nat.reduceSub, Nat.reduceLeDiff, Nat.reduceLT]
  clear hf0
  have nl := hl.next
  have fl := hl.floor
  have en : g4.next = h.next + 3 := by omega
  have hbase : ∀ i, i < h.next → h2.get i = h.get i := fun i hi => by rw [hl.old i (by omega), hx4.old i (by omega), old2 i hi]
  have hp2 : h2.get (h.next + 1) = some (.row [nilS] true 0) := by
    rw [hl.old _ (by omega), hx4.old _ (by omega)]; have := hx2.get; rw [e1] at this; exact this
  have hw2 : h2.get h.next = some (.row (wkL S wv vv sv nilS) true 0) := by
    rw [hl.old _ (by omega), hx4.old _ (by omega), hx2.old _ (by omega)]; exact hx1.get
  have hpw : Row h2 (h.next + 2) (wkL S wv vv sv nilS) := by
    have := hx4.row.mono hl.sub
    rw [e2] at this
    exact this
  have hloop := hl.loop
  have hmark := hl.mark
  rw [en] at hloop hmark
  rw [en]
  rw [en] at hl
  generalize hr0 : loopO _ ts _ _ _ _ = r at hloop ⊢
  have r1 : r.state = .ready := by rw [← hr0]; rfl
  have r2 : View 35 r.tmps f0 := by rw [← hr0]; exact hv
  have r3 : r.params = #[10] := by rw [← hr0]; rfl
  have r4 : compCode Try.prog 35 r.assign = some ra96_0 := by rw [← hr0]; exact raok96_0
  have r5 : compCode Try.prog 35 r.body = some rb96_0 := by rw [← hr0]; exact rbok96_0
  have r6 : leftBy r .norm = r := by rw [← hr0]; rfl
  clear hr0 hl hv
  have en2 : h2.next = h.next + 5 := by omega
  have hit := iter_c (Own := OwnW h2 (h.next + 1)) (wrongStep S) (JW h2 (h.next + 1)) (g := h2) (pw := h.next + 2) (K := 210) (N0 := 300) (n := n) (tv := nilS) (yv := .func (.yield (h.next + 4)) #[] #[]) [] hG hpw (hy.mono (AHeap.subOf hbase)) rfl rfl (by omega) (by omega) (by omega)
    (fun g' q hq => hq.2.2.1)
    (fun s g1 g' cs hj hs => by
      obtain ⟨v, R, t1, t2⟩ := hj.tv
      have hnx := hs.next
      exact ⟨fun i hi hne => by rw [hs.old i (by omega)]; exact hj.old i hi hne, ⟨v, R, by rw [hs.old _ (by omega)]; exact t1, t2.old (fun i hi _ => hs.old i (by omega)) (by omega)⟩, by have := hj.up; omega, by have := hj.len; omega⟩)
    (fun s g1 g' cs hj hx => by
      obtain ⟨v, R, t1, t2⟩ := hj.tv
      have := hj.up
      have hnx := hx.next
      exact ⟨fun i hi hne => by rw [hx.old i (by omega)]; exact hj.old i hi hne, ⟨v, R, by rw [hx.old _ (by omega)]; exact t1, t2.old (fun i hi h => hx.old i h) (by omega)⟩, by omega, by have := hj.len; omega⟩)
    (fun s g1 g' cs q hj hs ho => ⟨ho.1, ho.2.1, ho.2.2.1, fun v e => ho.2.2.2 v (by rw [← hs.old _ (by omega)]; exact e)⟩)
    (fun s g1 g' cs q hj hx ho => ⟨ho.1, ho.2.1, ho.2.2.1, fun v e => ho.2.2.2 v (by rw [← hx.old _ (by have := hj.up; omega)]; exact e)⟩)
    (fun s g1 g' cs hj hx hlt => ⟨by omega, by omega, by omega, fun v e => by
      obtain ⟨v', R, t1, t2⟩ := hj.tv
      rw [hx.old _ (by omega), t1] at e
      simp only [Option.some.injEq, AObj.row.injEq, and_true, List.cons.injEq] at e
      subst e
      exact neB_of t2.c (by right; omega)⟩)
    (fun g' ho hfg hup => ⟨⟨fun i hi _ => ho i hi, ⟨nilS, _, by rw [ho _ (by omega)]; exact hp2, .nil⟩, hup, Nat.zero_le _⟩, fun q hq _ hne => ⟨hq, by omega, hne, fun v e => by
      rw [ho _ (by omega), hp2] at e
      simp only [Option.some.injEq, AObj.row.injEq, and_true, List.cons.injEq] at e
      subst e
      intro b m c e'
      cases e'⟩⟩)
    (fun m g1 s c pu py pc U hm it hb hok hj hfg hr1 => by
      obtain ⟨m, rfl⟩ : ∃ p, m = p + 1 := ⟨m - 1, by omega⟩
      rw [call_yield]
      obtain ⟨v, R, hp, gr⟩ := hj.tv
      have hup := hj.up
      have hlen := hj.len
      have hloop1 : g1.get (h.next + 4) = some (.loop r) := by rw [hj.old _ (by omega) (by omega)]; exact hloop
      have hpb := AHeap.lt_of_get hb
      suffices key : ∃ e g', roundA Try.prog (call m) m (h.next + 4) [.agg ⟨tarr S c⟩] g1 = some (.bool (goesOn e), g') ∧ (e = .norm ∧ JW h2 (h.next + 1) (wrongStep S s c).1 g' ∧ (∀ q, h2.next ≤ q → q < g1.next → NeB v q → g'.get q = g1.get q) ∧ (∃ v', g'.get (h.next + 1) = some (.row [v'] true 0) ∧ ∀ q, q < g1.next → NeB v q → NeB v' q) ∧ g'.floor = h2.floor ∧ g1.next ≤ g'.next ∧ g'.next ≤ g1.next + 200) by
        obtain ⟨e, g', k1, rfl, k2, k3, ⟨v', k4, k5⟩, k6, k7, k8⟩ := key
        refine ⟨g', k1, k2, fun q cs hq ho => ?_, by rw [k3 _ (by omega) hpb (neB_of gr.c (by left; omega))]; exact hb, k6, k7, by omega⟩
        obtain ⟨o1, o2, o3, o4⟩ := ho
        have hlt : q < g1.next := by obtain ⟨w, gr, e⟩ := hq; exact AHeap.lt_of_get e
        have hne := o4 v hp
        refine ⟨by obtain ⟨w, gr, e⟩ := hq; exact ⟨w, gr, by rw [k3 q o1 hlt hne]; exact e⟩, o1, o2, o3, fun v2 e => ?_⟩
        rw [k4] at e
        simp only [Option.some.injEq, AObj.row.injEq, and_true, List.cons.injEq] at e
        subst e
        exact k5 q hlt hne
      refine round_run (f := f0) hloop1 r1 r2 (by rw [r3]; rfl) (by omega) r4 r5 ?_
      have hset : setFr f0 r.params.toList [.agg ⟨tarr S c⟩] = upd f0 10 (.agg ⟨tarr S c⟩) := by rw [r3]; rfl
      rw [hset]
      simp only [rn0, rn1, rn2, rn3, rn4, rn5, rn6, rn7, rn8, if_true, if_false, Nat.le_refl, true_and, and_true, decide_true, decide_false, Bool.not_true, Bool.not_false, reduceIte, Nat.reduceEqDiff, Nat.reduceAdd, Nat.reduceMul, Nat.reduceSub, Nat.reduceLeDiff, Nat.reduceLT, ra96_0]
      refine step_new (vs := tarr S c) (by omega) (by omega) rfl (by simp only [rn0, rn1, rn2, rn3, rn4, rn5, rn6, rn7, rn8, if_true, if_false, Nat.le_refl, true_and, and_true, decide_true, decide_false, Bool.not_true, Bool.not_false, reduceIte, Nat.reduceEqDiff, Nat.reduceAdd, Nat.reduceMul, Nat.reduceSub, Nat.reduceLeDiff, Nat.reduceLT]; rfl) tarr_one tarr_len rfl fun g2 hx2 => ?_
      have n2 := hx2.next
      have f2 := hx2.floor
      simp only [rn0, rn1, rn2, rn3, rn4, rn5, rn6, rn7, rn8, if_true, if_false, Nat.le_refl, true_and, and_true, decide_true, decide_false, Bool.not_true, Bool.not_false, reduceIte, Nat.reduceEqDiff, Nat.reduceAdd, Nat.reduceMul, Nat.reduceSub, Nat.reduceLeDiff, Nat.reduceLT]
      refine ⟨by rw [hx2.old _ (by omega)]; exact hloop1, by omega, fun g3 hp3 => ?_⟩
      have n3 := hp3.next
      have f3 := hp3.floor
      have g3old : ∀ i, i < g1.next → i ≠ h.next + 4 → g3.get i = g1.get i := fun i hi hne => by rw [hp3.old i hne, hx2.old i hi]
      have g3b : ∀ i, i < h.next → g3.get i = h.get i := fun i hi => by rw [g3old i (by omega) (by omega), hj.old i (by omega) (by omega), hbase i hi]
      have hy3 := hy.mono (AHeap.subOf g3b)
      have hp3' : g3.get (h.next + 1) = some (.row [v] true 0) := by rw [g3old _ (by omega) (by omega)]; exact hp
      have rw3 : Row g3 h.next (wkL S wv vv sv nilS) := ⟨true, 0, by rw [g3old _ (by omega) (by omega), hj.old _ (by omega) (by omega)]; exact hw2⟩
      have rc3 : Row g3 g1.next (tarr S c) := by
        obtain ⟨w, gr, e⟩ := hx2.row
        exact ⟨w, gr, by rw [hp3.old _ (by omega)]; exact e⟩
      have hcu : InU S c := fun i hi => hok.1 i hi
      have l3 : g3.get (h.next + 4) = some (.loop { r with state := .busy }) := hp3.get
      simp only [rn0, rn1, rn2, rn3, rn4, rn5, rn6, rn7, rn8, if_true, if_false, Nat.le_refl, true_and, and_true, decide_true, decide_false, Bool.not_true, Bool.not_false, reduceIte, Nat.reduceEqDiff, Nat.reduceAdd, Nat.reduceMul, Nat.reduceSub, Nat.reduceLeDiff, Nat.reduceLT, rb96_0, c1, c3, rw3.ld, wkg, Nat.zero_add, Nat.add_zero, Cells.len hy3.s]
      refine W_loop S.ns (fun k f g ms => (∃ x, (∀ i, i < g3.next → g.get i = g3.get i) ∧ g.floor = g3.floor ∧ g3.next ≤ g.next ∧ g.next ≤ g3.next + 3 * k ∧ GrowC g3.next g x 1 (pickL (wrS S c) k).length (fun i _ => .int .i64 (atL (pickL (wrS S c) k) i)) ∧ f 5 = x) ∧ ms = [] ∧ f 1 = .pointer (some ⟨h.next, 0, none⟩) ∧ f 3 = .pointer (some ⟨h.next + 1, 0, none⟩) ∧ f 4 = .pointer (some ⟨g1.next, 0, none⟩) ∧ f 13 = sv ∧ f 14 = .int .i64 (S.ns : Int) ∧ f 15 = .int .i64 (k : Int)) (by simp; omega) ?_ ?_ ?_
      · simp only [rn0, rn1, rn2, rn3, rn4, rn5, rn6, rn7, rn8, if_true, if_false, Nat.le_refl, true_and, and_true, decide_true, decide_false, Bool.not_true, Bool.not_false, reduceIte, Nat.reduceEqDiff, Nat.reduceAdd, Nat.reduceMul, Nat.reduceSub, Nat.reduceLeDiff, Nat.reduceLT, c1, c3]
        first | exact ⟨⟨nilS, fun _ _ => trivial, by omega, .nil, rfl⟩, rfl⟩ | exact ⟨⟨nilS, fun _ _ => rfl, rfl, by omega, by omega, .nil, rfl⟩, rfl⟩ | exact ⟨nilS, fun _ _ => trivial, by omega, .nil, rfl⟩ | exact ⟨nilS, fun _ _ => trivial, .nil, rfl⟩ | trace_state
      · rintro k f g ms hk ⟨⟨x, ho, hfg', hup', hnx, gv, p5⟩, rfl, p1, p3, p4, p13, p14, p15⟩
        have hk' : (k : Int) < (S.ns : Int) := by omega
        have hw : wrapF .i64 ((k : Int) + 1) = ((k + 1 : Nat) : Int) := by rw [wrap_in (by omega) (by omega)]; rfl
        have sg : Sub All g3 g := AHeap.subOf ho
        have hyg := hy3.mono sg
        have hlk := pick_len (p := wrS S c) k
        simp only [rn0, rn1, rn2, rn3, rn4, rn5, rn6, rn7, rn8, if_true, if_false, Nat.le_refl, true_and, and_true, decide_true, decide_false, Bool.not_true, Bool.not_false, reduceIte, Nat.reduceEqDiff, Nat.reduceAdd, Nat.reduceMul, Nat.reduceSub, Nat.reduceLeDiff, Nat.reduceLT, p1, p3, p4, p5, p13, p14, p15, hk', Cells.idx hyg.s hk, samps_ld hyg.s hk]
        refine step_row (cs := [.int .i64 0, .int .i64 0, .int .i64 0]) (by omega) rfl rfl fun ga hxa => ?_
        have na := hxa.next
        have fa := hxa.floor
        simp only [rn0, rn1, rn2, rn3, rn4, rn5, rn6, rn7, rn8, if_true, if_false, Nat.le_refl, true_and, and_true, decide_true, decide_false, Bool.not_true, Bool.not_false, reduceIte, Nat.reduceEqDiff, Nat.reduceAdd, Nat.reduceMul, Nat.reduceSub, Nat.reduceLeDiff, Nat.reduceLT, p1, p3, p4, p5, p13, p14, p15]
        refine step_store (b := g.next) (off := 0) (vs := [.int .i64 (S.sv k), .int .i64 (S.sh k), .int .i64 (S.sk k)]) rfl hxa.get (by omega) (by omega) rfl rfl rfl (by simp) fun gb hsb => ?_
        rw [splice_all (by rfl)] at hsb
        have nb := hsb.next
        have fb := hsb.floor
        have oldb : ∀ i, i < g.next → gb.get i = g.get i := fun i hi => by rw [hsb.old i (by omega), hxa.old i hi]
        have subb : Sub All g gb := AHeap.subOf oldb
        have rwb := (rw3.mono sg).mono subb
        have rcb := (rc3.mono sg).mono subb
        have ei := isRightW_c (n := m) (h := gb) (u := c) (k := k) (by omega) (by omega) (hyg.mono subb) (tv := nilS) rfl hG hcu hk
        have gvb : GrowC g3.next gb x 1 (pickL (wrS S c) k).length (fun i _ => .int .i64 (atL (pickL (wrS S c) k) i)) := GrowC.at' gv fun a k c e => oldb _ (gv.block e).2
        by_cases hR : RightS S c k
        · have hp0 : pickL (wrS S c) (k + 1) = pickL (wrS S c) k := pick_no fun q => q hR
          simp only [rn0, rn1, rn2, rn3, rn4, rn5, rn6, rn7, rn8, if_true, if_false, Nat.le_refl, true_and, and_true, decide_true, decide_false, Bool.not_true, Bool.not_false, reduceIte, Nat.reduceEqDiff, Nat.reduceAdd, Nat.reduceMul, Nat.reduceSub, Nat.reduceLeDiff, Nat.reduceLT, p1, p3, p4, p5, p13, p14, p15, rwb.whole (n := 8) rfl, rcb.whole tarr_len, hsb.row.whole (n := 3) rfl, ei, eq_true hR, hw]
          rw [hp0]
          have hfin := And.intro (fun i (hi : i < g3.next) => (by rw [oldb i (by omega), ho i hi] : gb.get i = g3.get i)) (And.intro (by omega : gb.floor = g3.floor) (And.intro (by omega : g3.next ≤ gb.next) (And.intro (by omega : gb.next ≤ g3.next + 3 * (k + 1)) (And.intro gvb (rfl : x = x)))))
          first | exact ⟨x, hfin⟩ | exact ⟨⟨x, hfin⟩, rfl⟩
        · have hp1 : pickL (wrS S c) (k + 1) = pickL (wrS S c) k ++ [(k : Int)] := pick_yes hR
          simp only [rn0, rn1, rn2, rn3, rn4, rn5, rn6, rn7, rn8, if_true, if_false, Nat.le_refl, true_and, and_true, decide_true, decide_false, Bool.not_true, Bool.not_false, reduceIte, Nat.reduceEqDiff, Nat.reduceAdd, Nat.reduceMul, Nat.reduceSub, Nat.reduceLeDiff, Nat.reduceLT, p1, p3, p4, p5, p13, p14, p15, rwb.whole (n := 8) rfl, rcb.whole tarr_len, hsb.row.whole (n := 3) rfl, ei, eq_false hR, sl_int]
          refine step_slice (by omega) rfl fun gc hxc => ?_
          have nc := hxc.next
          have fc := hxc.floor
          have gvc : GrowC g3.next gc x 1 (pickL (wrS S c) k).length (fun i _ => .int .i64 (atL (pickL (wrS S c) (k + 1)) i)) := (gvb.sub hxc.sub).congr fun i j hi hj => by rw [hp1, at_append hi]
          obtain ⟨x', gd, ed, evd, gvd, hkd⟩ := gvc.append (bytes := 8) (cap := 1) (by omega) (by omega) (by omega) hxc.get rfl rfl (fun j hj => by
            obtain rfl : j = 0 := by omega
            rw [hp1, at_last]; rfl) (by simp [maxBytes]; omega) (by simp [maxBytes]; omega)
          have nd := hkd.next
          have fd := hkd.floor
          have hlen1 : (pickL (wrS S c) (k + 1)).length = (pickL (wrS S c) k).length + 1 := by rw [hp1, List.length_append, List.length_singleton]
          simp only [rn0, rn1, rn2, rn3, rn4, rn5, rn6, rn7, rn8, if_true, if_false, Nat.le_refl, true_and, and_true, decide_true, decide_false, Bool.not_true, Bool.not_false, reduceIte, Nat.reduceEqDiff, Nat.reduceAdd, Nat.reduceMul, Nat.reduceSub, Nat.reduceLeDiff, Nat.reduceLT, p1, p3, p4, p5, p13, p14, p15, ed, hw]
          rw [hlen1]
          have hfin := And.intro (fun i (hi : i < g3.next) => (by rw [hkd.old i (by omega) fun bb kk qq e => by have := (gvc.block e).1; omega, hxc.old i (by omega), oldb i (by omega), ho i hi] : gd.get i = g3.get i)) (And.intro (by omega : gd.floor = g3.floor) (And.intro (by omega : g3.next ≤ gd.next) (And.intro (by omega : gd.next ≤ g3.next + 3 * (k + 1)) (And.intro gvd (rfl : x' = x')))))
          first | exact ⟨x', hfin⟩ | exact ⟨⟨x', hfin⟩, rfl⟩
      · rintro f g ms ⟨⟨x, ho, hfg', hup', hnx, gv, p5⟩, rfl, p1, p3, p4, p13, p14, p15⟩
        have hq3 : g.get (h.next + 1) = some (.row [v] true 0) := by rw [ho _ (by omega)]; exact hp3'
        have rq3 : Row g (h.next + 1) [v] := ⟨_, _, hq3⟩
        have lg : g.get (h.next + 4) = some (.loop { r with state := .busy }) := by rw [ho _ (by omega)]; exact l3
        have xone := gv.one
        have wrg : WrG (h2.next + 2) g v s R := gr.old (fun i h1 h2 => by rw [ho i (by omega), g3old i h2 (by omega)]) (by omega)
        simp only [rn0, rn1, rn2, rn3, rn4, rn5, rn6, rn7, rn8, if_true, if_false, Nat.le_refl, true_and, and_true, decide_true, decide_false, Bool.not_true, Bool.not_false, reduceIte, Nat.reduceEqDiff, Nat.reduceAdd, Nat.reduceMul, Nat.reduceSub, Nat.reduceLeDiff, Nat.reduceLT, p1, p3, p4, p5, p13, p14, p15, Int.lt_irrefl, rq3.ld, Nat.zero_add, List.getElem?_cons_zero, sl_list xone]
        refine step_slice (by omega) (by simp [allB, xone]) fun ga hxa => ?_
        have na := hxa.next
        have fa := hxa.floor
        obtain ⟨v', gb, eb, wrb, ob, evb, nb, fb, oldb⟩ := wrg.push (w := wrongL S c) (by omega) (by omega) (by omega) hxa gv.cells xone (fun y k q e => by
          have := gv.block e
          exact ⟨by omega, by omega, neB_of gr.c (by right; omega)⟩) (by have := hj.len; omega)
        have neP : NeB v (h.next + 1) := neB_of gr.c (by left; omega)
        have neL : NeB v (h.next + 4) := neB_of gr.c (by left; omega)
        simp only [rn0, rn1, rn2, rn3, rn4, rn5, rn6, rn7, rn8, if_true, if_false, Nat.le_refl, true_and, and_true, decide_true, decide_false, Bool.not_true, Bool.not_false, reduceIte, Nat.reduceEqDiff, Nat.reduceAdd, Nat.reduceMul, Nat.reduceSub, Nat.reduceLeDiff, Nat.reduceLT, p1, p3, p4, p5, p13, p14, p15, eb]
        refine step_store (b := h.next + 1) (off := 0) (vs := [v']) (by rfl) (by rw [oldb _ (by omega) neP]; exact hq3) (by omega) (by omega) (by rw [evb]; rfl) (by rw [evb]; rfl) rfl (by simp) fun g6 hs6 => ?_
        rw [splice1] at hs6
        have n6 := hs6.next
        have f6 := hs6.floor
        simp only [rn0, rn1, rn2, rn3, rn4, rn5, rn6, rn7, rn8, if_true, if_false, Nat.le_refl, true_and, and_true, decide_true, decide_false, Bool.not_true, Bool.not_false, reduceIte, Nat.reduceEqDiff, Nat.reduceAdd, Nat.reduceMul, Nat.reduceSub, Nat.reduceLeDiff, Nat.reduceLT]
        refine ⟨by rw [hs6.old _ (by omega), oldb _ (by omega) neL]; exact lg, by omega, by omega, fun g7 hp7 => ⟨?_, ?_, ?_, by rw [hp7.floor]; omega, by rw [hp7.next]; omega, by rw [hp7.next]; omega⟩⟩
        · have n7 := hp7.next
          have hst : (wrongStep S s c).1 = s ++ [wrongL S c] := rfl
          rw [hst]
          have old6 : ∀ i, i < g1.next → i ≠ h.next + 1 → i ≠ h.next + 4 → NeB v i → g6.get i = g1.get i := fun i hi a1 a2 hne => by rw [hs6.old i a1, oldb i (by omega) hne, ho i (by omega), g3old i hi a2]
          refine ⟨fun i hi hne => ?_, ⟨v', _, ?_, wrb.old (fun i h1 h2 => by rw [hp7.old i (by omega), hs6.old i (by omega)]) (by omega)⟩, by omega, by rw [List.length_append, List.length_singleton]; omega⟩
          · by_cases e : i = h.next + 4
            · subst e; rw [hp7.get, r6, ← hj.old _ hi hne]; exact hloop1.symm
            · rw [hp7.old i e, old6 i (by omega) hne e (neB_of gr.c (by left; omega))]; exact hj.old i hi hne
          · rw [hp7.old _ (by omega)]; exact hs6.get
        · intro i hi hlt hne
          rw [hp7.old i (by omega), hs6.old i (by omega), oldb i (by omega) hne, ho i (by omega), g3old i hlt (by omega)]
        · refine ⟨v', by rw [hp7.old _ (by omega)]; exact hs6.get, fun q hq _ b m c' e => ?_⟩
          rw [evb] at e
          cases e
          show q ≠ g.next + 1
          omega)
    (by omega)
  obtain ⟨v5, g5, e5, j5, fl5, u5, n5⟩ := hit
  rw [runL_wrong] at j5
  simp only [List.nil_append] at j5
  change JW h2 (h.next + 1) (allW S) g5 at j5
  obtain ⟨v, R, t1, t2⟩ := j5.tv
  have hup := j5.up
  refine ⟨v5, g5, .norm, by rw [e2]; exact e5, by omega, by omega, by rw [r6, j5.old _ (by omega) (by omega)]; exact hloop, fun g6 hp6 => ?_⟩
  have n6 := hp6.next
  have f6 := hp6.floor
  have t6 : Row g6 (h.next + 1) [v] := ⟨true, 0, by rw [hp6.old _ (by omega)]; exact t1⟩
  have m6 : g6.get (h.next + 3) = some .deferred := by rw [hp6.old _ (by omega), j5.old _ (by omega) (by omega)]; exact hmark
  simp only [rn0, rn1, rn2, rn3, rn4, rn5, rn6, rn7, rn8, if_true, if_false, Nat.le_refl, true_and, and_true, decide_true, decide_false, Bool.not_true, Bool.not_false, reduceIte, Nat.reduceEqDiff, Nat.reduceAdd, Nat.reduceMul, Nat.reduceSub, Nat.reduceLeDiff, Nat.reduceLT, c3, t6.ld, Nat.zero_add, List.getElem?_cons_zero]
  refine ret_mark (.inr rfl) m6 (by omega) (by omega) fun g8 hp8 => ?_
  have n8 := hp8.next
  have f8 := hp8.floor
  have t8 : WrG (h2.next + 2) g8 v (allW S) R := t2.old (fun i h1 h2 => by rw [hp8.old i (by omega), hp6.old i (by omega)]) (by omega)
  simp only [rn0, rn1, rn2, rn3, rn4, rn5, rn6, rn7, rn8, if_true, if_false, Nat.le_refl, true_and, and_true, decide_true, decide_false, Bool.not_true, Bool.not_false, reduceIte, Nat.reduceEqDiff, Nat.reduceAdd, Nat.reduceMul, Nat.reduceSub, Nat.reduceLeDiff, Nat.reduceLT]
  refine ⟨⟨R, t8.c.cells, fun k hk => (t8.r k hk).1⟩, t8.c.one, fun i hi => ?_, by omega, by omega, by omega⟩
  rw [hp8.old i (by omega), hp6.old i (by omega), j5.old i (by omega) (by omega), hbase i hi]
end Go.Vm.St

namespace Go.Vm
open Go.Vm.Vat
theorem leaveN_up {N : Nat} {P : List Int → Prop} {m : Nat} {l : List Int} (h : leaveN N P m = some l) : ∀ d, leaveN N P (m + d) = some l
  | 0 => h
  | d + 1 => by
    have := leaveN_up h d
    show leaveN N P (m + d + 1) = some l
    simp only [leaveN, this]
/-- marks that a function's ranges have left -/
def MarksR (B : Nat) (ms : List Nat) (g : AHeap) : Prop := ms.Nodup ∧ ∀ d, d ∈ ms → B ≤ d ∧ d < g.next ∧ g.get d = some .deferred
theorem unmark_all : ∀ (ms : List Nat) (h : AHeap), ms.Nodup → (∀ d, d ∈ ms → h.floor ≤ d ∧ h.get d = some .deferred) → h.next ≤ far → ∃ h1, unmark ms h = some h1 ∧ (∀ i, i ∉ ms → h1.get i = h.get i) ∧ h1.next = h.next ∧ h1.floor = h.floor
  | [], h, _, _, _ => ⟨h, rfl, fun _ _ => rfl, rfl, rfl⟩
  | d :: ms, h, hn, hd, hf => by
    rw [List.nodup_cons] at hn
    obtain ⟨d1, d2⟩ := hd d (by simp)
    have hp := put_with (AHeap.lt_of_get d2) hf none
    obtain ⟨h1, e1, o1, n1, f1⟩ := unmark_all ms (h.with d none) hn.2 (fun x hx => by
      have hne : x ≠ d := fun e => hn.1 (e ▸ hx)
      obtain ⟨q1, q2⟩ := hd x (by simp [hx])
      exact ⟨q1, by rw [hp.old x hne]; exact q2⟩) hf
    refine ⟨h1, ?_, fun i hi => ?_, n1, f1⟩
    · simp only [unmark, d2, d1, if_true]
      exact e1
    · rw [List.mem_cons, not_or] at hi
      rw [o1 i hi.2, hp.old i hi.1]
theorem ret_marks {rs : List RS} {R : Value → AHeap → Prop} {f : Fr} {h : AHeap} {ms : List Nat} (hn : ms.Nodup) (hd : ∀ d, d ∈ ms → h.floor ≤ d ∧ h.get d = some .deferred) (hf : h.next ≤ far)
    (hr : ∀ h1, (∀ i, i ∉ ms → h1.get i = h.get i) → h1.next = h.next → h1.floor = h.floor → ∃ v, resV f h1 rs = some v ∧ R v h1) : retQ rs R .ret f h ms := by
  obtain ⟨h1, e1, o1, n1, f1⟩ := unmark_all ms h hn hd hf
  obtain ⟨v, q1, q2⟩ := hr h1 o1 n1 f1
  exact ⟨trivial, h1, v, e1, q1, q2⟩
end Go.Vm
namespace Go.Vm.St
open Go.Proofs Go.Vm.Vat
set_option linter.unusedSimpArgs false
set_option linter.unusedVariables false
set_option maxRecDepth 10000
variable {n : Nat} {h : AHeap}
/-! ### Numbers in a list -/
def idxF (a : Nat → Int) (x : Int) : Nat → Option Nat
  | 0 => none
  | k + 1 => match idxF a x k with
    | some v => some v
    | none => if x = a k then some k else none
theorem idxF_none {a : Nat → Int} {x : Int} : ∀ {k : Nat}, idxF a x k = none ↔ ∀ i, i < k → ¬ x = a i
  | 0 => ⟨fun _ i hi => absurd hi (Nat.not_lt_zero _), fun _ => rfl⟩
  | k + 1 => by
    have ih := idxF_none (a := a) (x := x) (k := k)
    constructor
    · intro h i hi
      rw [idxF] at h
      cases e : idxF a x k with
      | some v => rw [e] at h; cases h
      | none =>
        rw [e] at h
        by_cases c : i = k
        · subst c
          intro q
          simp only [if_pos q] at h
          cases h
        · exact ih.1 e i (by omega)
    · intro h
      rw [idxF, ih.2 fun i hi => h i (by omega)]
      exact if_neg (h k (by omega))
theorem idxF_at {a : Nat → Int} {x : Int} {k m : Nat} (hk : k < m) (h0 : idxF a x k = none) (h1 : x = a k) : idxF a x m = some k := by
  have up : ∀ d, idxF a x (k + 1 + d) = some k := by
    intro d
    induction d with
    | zero => show idxF a x (k + 1) = some k; rw [idxF, h0]; exact if_pos h1
    | succ d ih => show idxF a x (k + 1 + d + 1) = some k; rw [idxF, ih]
  have := up (m - (k + 1))
  rw [show k + 1 + (m - (k + 1)) = m by omega] at this
  exact this
def s133 : SCode := (.seq (.ops [⟨(some 4), none, .mov (.const (.int .i64 (0)))⟩]) (.seq (.seq (.ops [⟨(some 6), none, .mov (T 0)⟩, ⟨(some 7), none, .len (T 6)⟩, ⟨(some 8), none, .mov (.const (.int .i64 (0)))⟩]) (.block 0 (.loop (.seq (.ops [⟨(some 9), none, .int2 .lss (T 8) (T 7)⟩]) (.seq (.cond (T 9) .skip (.exit 0)) (.seq (.block 1 (.seq (.ops [⟨(some 10), none, .mov (T 8)⟩, ⟨(some 5), none, .mov (T 10)⟩]) (.seq (.ops [⟨(some 11), none, .mov (T 1)⟩, ⟨(some 12), none, .mov (T 0)⟩, ⟨(some 13), none, .mov (T 5)⟩, ⟨(some 14), none, .idxSl 1 (T 12) (T 13)⟩, ⟨(some 15), none, .load1 (T 14)⟩, ⟨(some 16), none, .int2 .eql (T 11) (T 15)⟩]) (.cond (T 16) (.seq (.ops [⟨(some 17), none, .mov (T 5)⟩, ⟨(some 4), none, .mov (T 17)⟩]) .ret) .skip)))) (.ops [⟨(some 18), none, .int2 .add (T 8) (.const (.int .i64 (1)))⟩, ⟨(some 8), none, .mov (T 18)⟩]))))))) (.seq (.ops [⟨(some 4), none, .mov (.const (.int .i64 (-1)))⟩]) .ret)))
theorem fok133 : FnOk Try.prog 133 19 s133 [.tmp 4] := ⟨Try.f133, _, Try.func133, rfl, Try.ntmps133, by kernel_rfl, by kernel_rfl⟩
theorem index_c (hn : 50 ≤ n) (hr : h.next < far) {v : Value} {m : Nat} {a : Nat → Int} (hv : Ints h v m a) (hm : m ≤ 40) (x : Int) :
    call n (.func (.func 133) #[] #[]) [v, .int .i64 x] h = some (.int .i64 (optI (idxF a x m) (-1)), h) := by
  obtain ⟨n, rfl⟩ : ∃ p, n = p + 1 := ⟨n - 1, by omega⟩
  refine call_plain0 fok133 rfl rfl (by simp) rfl ?_
  have hv : Ints h.shutAll v m a := Cells.shut hv
  have hr : h.shutAll.next < far := hr
  generalize h.shutAll = h at hv hr
  simp only [rn0, rn1, rn2, rn3, rn4, rn5, rn6, rn7, rn8, if_true, if_false, Nat.le_refl, true_and, and_true, decide_true, decide_false, Bool.not_true, Bool.not_false, reduceIte, Nat.reduceEqDiff, Nat.reduceAdd, Nat.reduceMul, Nat.reduceSub, Nat.reduceLeDiff, Nat.reduceLT, s133, Cells.len hv]
  refine W_loop m (fun k f g ms => (g = h ∧ idxF a x k = none) ∧ ms = [] ∧ f 0 = v ∧ f 1 = .int .i64 x ∧ f 7 = .int .i64 (m : Int) ∧ f 8 = .int .i64 (k : Int)) (by simp; omega) ?_ ?_ ?_
  · simp only [rn0, rn1, rn2, rn3, rn4, rn5, rn6, rn7, rn8, if_true, if_false, Nat.le_refl, true_and, and_true, decide_true, decide_false, Bool.not_true, Bool.not_false, reduceIte, Nat.reduceEqDiff, Nat.reduceAdd, Nat.reduceMul, Nat.reduceSub, Nat.reduceLeDiff, Nat.reduceLT]
    first | done | trivial | exact ⟨rfl, rfl⟩
  · rintro k f g ms hk ⟨⟨rfl, h0⟩, rfl, p0, p1, p7, p8⟩
    have hk' : (k : Int) < (m : Int) := by omega
    have hw : wrapF .i64 ((k : Int) + 1) = ((k + 1 : Nat) : Int) := by rw [wrap_in (by omega) (by omega)]; rfl
    by_cases c : x = a k
    · have hI := idxF_at hk h0 c
      have q : optI (idxF a x m) (-1) = (k : Int) := by rw [hI]; rfl
      rw [q]
      simp only [rn0, rn1, rn2, rn3, rn4, rn5, rn6, rn7, rn8, if_true, if_false, Nat.le_refl, true_and, and_true, decide_true, decide_false, Bool.not_true, Bool.not_false, reduceIte, Nat.reduceEqDiff, Nat.reduceAdd, Nat.reduceMul, Nat.reduceSub, Nat.reduceLeDiff, Nat.reduceLT, p0, p1, p7, p8, hk', Cells.idx hv hk, Cells.ld hv hk Nat.zero_lt_one, eq_true c]
    · have h1 : idxF a x (k + 1) = none := by rw [idxF, h0]; exact if_neg c
      simp only [rn0, rn1, rn2, rn3, rn4, rn5, rn6, rn7, rn8, if_true, if_false, Nat.le_refl, true_and, and_true, decide_true, decide_false, Bool.not_true, Bool.not_false, reduceIte, Nat.reduceEqDiff, Nat.reduceAdd, Nat.reduceMul, Nat.reduceSub, Nat.reduceLeDiff, Nat.reduceLT, p0, p1, p7, p8, hk', Cells.idx hv hk, Cells.ld hv hk Nat.zero_lt_one, eq_false c, hw]
      first | exact ⟨⟨rfl, h1⟩, rfl⟩ | exact ⟨rfl, h1⟩ | exact h1
  · rintro f g ms ⟨⟨rfl, h0⟩, rfl, p0, p1, p7, p8⟩
    have q : optI (idxF a x m) (-1) = -1 := by rw [h0]; rfl
    rw [q]
    simp only [rn0, rn1, rn2, rn3, rn4, rn5, rn6, rn7, rn8, if_true, if_false, Nat.le_refl, true_and, and_true, decide_true, decide_false, Bool.not_true, Bool.not_false, reduceIte, Nat.reduceEqDiff, Nat.reduceAdd, Nat.reduceMul, Nat.reduceSub, Nat.reduceLeDiff, Nat.reduceLT, p0, p1, p7, p8, Int.lt_irrefl]
def s126 : SCode := (.seq (.ops [⟨(some 4), none, .mov (.const (.bool false))⟩]) (.seq (.ops [⟨(some 5), none, .mov (T 0)⟩, ⟨(some 6), none, .mov (T 1)⟩, ⟨(some 7), none, .call (.func 133) [(T 5), (T 6)]⟩, ⟨(some 8), none, .int2 .geq (T 7) (.const (.int .i64 (0)))⟩, ⟨(some 4), none, .mov (T 8)⟩]) .ret))
theorem fok126 : FnOk Try.prog 126 9 s126 [.tmp 4] := ⟨Try.f126, _, Try.func126, rfl, Try.ntmps126, by kernel_rfl, by kernel_rfl⟩
open Classical in
theorem contains_c (hn : 60 ≤ n) (hr : h.next < far) {v : Value} {m : Nat} {a : Nat → Int} (hv : Ints h v m a) (hm : m ≤ 40) (x : Int) :
    call n (.func (.func 126) #[] #[]) [v, .int .i64 x] h = some (.bool (decide (∃ i, i < m ∧ x = a i)), h) := by
  obtain ⟨n, rfl⟩ : ∃ p, n = p + 1 := ⟨n - 1, by omega⟩
  refine call_plain0 fok126 rfl rfl (by simp) rfl ?_
  have hv : Ints h.shutAll v m a := Cells.shut hv
  have hr : h.shutAll.next < far := hr
  generalize h.shutAll = h at hv hr
  have ei := index_c (n := n) (h := h) (by omega) hr hv hm x
  cases hI : idxF a x m with
  | none =>
    have hq : ¬ ∃ i, i < m ∧ x = a i := fun ⟨i, i1, i2⟩ => idxF_none.1 hI i i1 i2
    have hz : ¬ (0 : Int) ≤ optI none (-1) := by decide
    rw [hI] at ei
    rw [decide_eq_false hq]
    simp only [rn0, rn1, rn2, rn3, rn4, rn5, rn6, rn7, rn8, if_true, if_false, Nat.le_refl, true_and, and_true, decide_true, decide_false, Bool.not_true, Bool.not_false, reduceIte, Nat.reduceEqDiff, Nat.reduceAdd, Nat.reduceMul, Nat.reduceSub, Nat.reduceLeDiff, Nat.reduceLT, s126, ei, hz]
  | some k =>
    have hq : ∃ i, i < m ∧ x = a i := by
      apply Classical.byContradiction
      intro hn
      have := idxF_none.2 (fun i hi q => hn ⟨i, hi, q⟩ : ∀ i, i < m → ¬ x = a i)
      rw [hI] at this
      cases this
    have hz : (0 : Int) ≤ optI (some k) (-1) := by show (0 : Int) ≤ (k : Int); omega
    rw [hI] at ei
    rw [decide_eq_true hq]
    simp only [rn0, rn1, rn2, rn3, rn4, rn5, rn6, rn7, rn8, if_true, if_false, Nat.le_refl, true_and, and_true, decide_true, decide_false, Bool.not_true, Bool.not_false, reduceIte, Nat.reduceEqDiff, Nat.reduceAdd, Nat.reduceMul, Nat.reduceSub, Nat.reduceLeDiff, Nat.reduceLT, s126, ei, hz]
def s125 : SCode := (.seq (.ops [⟨(some 3), none, .mov (.const (.bool false))⟩]) (.seq (.ops [⟨(some 4), none, .load1 (T 1)⟩, ⟨(some 5), none, .mov (T 0)⟩, ⟨(some 6), none, .call (.func 126) [(T 4), (T 5)]⟩, ⟨(some 3), none, .mov (T 6)⟩]) .ret))
theorem fok125 : FnOk Try.prog 125 7 s125 [.tmp 3] := ⟨Try.f125, _, Try.func125, rfl, Try.ntmps125, by kernel_rfl, by kernel_rfl⟩
open Classical in
theorem isLeft_c (hn : 70 ≤ n) (hr : h.next + 2 < far) {v : Value} {m pc : Nat} {a : Nat → Int} (hp : Row h pc [v]) (hv : Ints h v m a) (hm : m ≤ 40) (x : Int) :
    call n (.func (.func 125) ⟨[]⟩ ⟨[.pointer (some ⟨pc, 0, none⟩)]⟩) [.int .i64 x] h = some (.bool (decide (∃ i, i < m ∧ x = a i)), h) := by
  obtain ⟨n, rfl⟩ : ∃ p, n = p + 1 := ⟨n - 1, by omega⟩
  refine call_plain (xs := []) (ys := [.pointer (some ⟨pc, 0, none⟩)]) fok125 rfl rfl (by simp) rfl ?_
  have hp := hp.mono (g := h.shutAll) fun _ _ _ _ _ h => h
  have hv : Ints h.shutAll v m a := Cells.shut hv
  have hr : h.shutAll.next + 2 < far := hr
  generalize h.shutAll = h at hp hv hr
  have ec := contains_c (n := n) (h := h) (by omega) (by omega) hv hm x
  simp only [rn0, rn1, rn2, rn3, rn4, rn5, rn6, rn7, rn8, if_true, if_false, Nat.le_refl, true_and, and_true, decide_true, decide_false, Bool.not_true, Bool.not_false, reduceIte, Nat.reduceEqDiff, Nat.reduceAdd, Nat.reduceMul, Nat.reduceSub, Nat.reduceLeDiff, Nat.reduceLT, s125, List.cons_append, List.nil_append, hp.ld, Nat.zero_add, List.getElem?_cons_zero, ec]
open Classical in
theorem everyI_c (hn : 50 ≤ n) (hr : h.next + 5 < far) {ok v : Value} {m : Nat} {a : Nat → Int} {p : Nat → Prop} (hm : m ≤ 40) (hv : Ints h v m a) (hok : ∀ g, Sub All h g → g.next ≤ h.next + 5 → ∀ i, i < m → call (n - 1) ok [.int .i64 (a i)] g = some (.bool (decide (p i)), g)) :
    call n (.func (.func 120) #[] #[]) [v, ok] h = some (.bool (decide (∀ i, i < m → p i)), h) := by
  obtain ⟨n, rfl⟩ : ∃ p, n = p + 1 := ⟨n - 1, by omega⟩
  rw [Nat.add_sub_cancel] at hok
  refine call_plain0 fok120 rfl rfl (by simp) rfl ?_
  have e0 := hok h.shutAll (fun _ _ _ _ _ h => h) (Nat.le_add_right _ _)
  have hv : Ints h.shutAll v m a := Cells.shut hv
  have hr : h.shutAll.next + 5 < far := hr
  generalize h.shutAll = h at hr e0 hv
  simp only [rn0, rn1, rn2, rn3, rn4, rn5, rn6, rn7, rn8, if_true, if_false, Nat.le_refl, true_and, and_true, decide_true, decide_false, Bool.not_true, Bool.not_false, reduceIte, Nat.reduceEqDiff, Nat.reduceAdd, Nat.reduceMul, Nat.reduceSub, Nat.reduceLeDiff, Nat.reduceLT, s120, Cells.len hv]
  refine W_loop m (fun k f g ms => (g = h ∧ ∀ i, i < k → p i) ∧ ms = [] ∧ f 1 = ok ∧ f 7 = v ∧ f 8 = .int .i64 (m : Int) ∧ f 9 = .int .i64 (k : Int)) (by simp; omega) ?_ ?_ ?_
  · simp only [rn0, rn1, rn2, rn3, rn4, rn5, rn6, rn7, rn8, if_true, if_false, Nat.le_refl, true_and, and_true, decide_true, decide_false, Bool.not_true, Bool.not_false, reduceIte, Nat.reduceEqDiff, Nat.reduceAdd, Nat.reduceMul, Nat.reduceSub, Nat.reduceLeDiff, Nat.reduceLT]
    first | exact ⟨⟨rfl, fun i hi => absurd hi (Nat.not_lt_zero _)⟩, rfl⟩ | exact ⟨fun i hi => absurd hi (Nat.not_lt_zero _), rfl⟩ | exact fun i hi => absurd hi (Nat.not_lt_zero _)
  · rintro k f g ms hk ⟨⟨rfl, h0⟩, rfl, p1, p7, p8, p9⟩
    have hk' : (k : Int) < (m : Int) := by omega
    have hw : wrapF .i64 ((k : Int) + 1) = ((k + 1 : Nat) : Int) := by rw [wrap_in (by omega) (by omega)]; rfl
    have ek := e0 k hk
    by_cases c : p k
    · have h1 : ∀ i, i < k + 1 → p i := fun i hi => by
        by_cases e : i = k
        · subst e; exact c
        · exact h0 i (by omega)
      rw [decide_eq_true c] at ek
      simp only [rn0, rn1, rn2, rn3, rn4, rn5, rn6, rn7, rn8, if_true, if_false, Nat.le_refl, true_and, and_true, decide_true, decide_false, Bool.not_true, Bool.not_false, reduceIte, Nat.reduceEqDiff, Nat.reduceAdd, Nat.reduceMul, Nat.reduceSub, Nat.reduceLeDiff, Nat.reduceLT, p1, p7, p8, p9, hk', Cells.idx hv hk, Cells.ld hv hk Nat.zero_lt_one, ek, hw]
      first | exact ⟨⟨rfl, h1⟩, rfl⟩ | exact ⟨rfl, h1⟩ | exact h1 | exact ⟨h1, rfl⟩
    · have hq : ¬ ∀ i, i < m → p i := fun q => c (q k hk)
      rw [decide_eq_false c] at ek
      rw [decide_eq_false hq]
      simp only [rn0, rn1, rn2, rn3, rn4, rn5, rn6, rn7, rn8, if_true, if_false, Nat.le_refl, true_and, and_true, decide_true, decide_false, Bool.not_true, Bool.not_false, reduceIte, Nat.reduceEqDiff, Nat.reduceAdd, Nat.reduceMul, Nat.reduceSub, Nat.reduceLeDiff, Nat.reduceLT, p1, p7, p8, p9, hk', Cells.idx hv hk, Cells.ld hv hk Nat.zero_lt_one, ek]
  · rintro f g ms ⟨⟨rfl, h0⟩, rfl, p1, p7, p8, p9⟩
    rw [decide_eq_true h0]
    simp only [rn0, rn1, rn2, rn3, rn4, rn5, rn6, rn7, rn8, if_true, if_false, Nat.le_refl, true_and, and_true, decide_true, decide_false, Bool.not_true, Bool.not_false, reduceIte, Nat.reduceEqDiff, Nat.reduceAdd, Nat.reduceMul, Nat.reduceSub, Nat.reduceLeDiff, Nat.reduceLT, p1, p7, p8, p9, Int.lt_irrefl]
end Go.Vm.St
