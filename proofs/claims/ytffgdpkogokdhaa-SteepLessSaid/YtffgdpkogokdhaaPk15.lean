/- Texts of the proofs of this seat, put together: StGoodH, StOutL, StRightL, StRightM, StGoodP, StRightN, StGoodL, StStuckL, StAskP, StAskL, StStay, StLess. -/
import Derived.Test.YtffgdpkogokdhaaPk14

namespace Go.Vm.St
open Go.Proofs Go.Vm.Vat
set_option linter.unusedSimpArgs false
set_option linter.unusedVariables false
set_option maxRecDepth 10000
variable {n : Nat} {h : AHeap}
/-! ### The good hours of a vat -/
/-- which hours, counted from Begin, are good -/
noncomputable def gI (S : MS) (v : Nat) (L : List (Nat → Int)) (k : Nat) : List Int := pickL (fun i => verdS S v (S.vb v + (i : Int)) 1 L = 1) k
def gLo (b : Int) (l : List Int) : Int := if l = [] then 0 else b + atL l 0
def gHi (b : Int) (l : List Int) : Int := if l = [] then 0 else b + atL l (l.length - 1)
theorem gLo_nil {b : Int} : gLo b [] = 0 := rfl
theorem gHi_nil {b : Int} : gHi b [] = 0 := rfl
theorem gLo_app {b x : Int} {l : List Int} (hl : l ≠ []) : gLo b (l ++ [x]) = gLo b l := by
  unfold gLo
  rw [if_neg hl, if_neg (by simp), at_append (List.length_pos_iff.2 hl)]
theorem gHi_app {b x : Int} {l : List Int} : gHi b (l ++ [x]) = b + x := by
  unfold gHi
  rw [if_neg (by simp), List.length_append, List.length_singleton, Nat.add_sub_cancel, at_last]
def s93 : SCode := (.seq (.ops [⟨(some 2), none, .box (T 0)⟩, ⟨(some 4), none, .alloc [(.int .i64 (0)), (.int .i64 (0))]⟩, ⟨(some 5), none, .mov (.const (.bool false))⟩]) (.seq (.ops [⟨(some 9), none, .loadN 8 (T 2)⟩, ⟨(some 10), none, .mov (T 1)⟩, ⟨(some 11), none, .call (.func 91) [(T 9), (T 10)]⟩, ⟨(some 6), none, .mov (T 11)⟩]) (.seq (.seq (.ops [⟨(some 12), none, .loadN 8 (T 2)⟩, ⟨(some 13), none, .mov (T 1)⟩, ⟨(some 14), none, .call (.func 107) [(T 12), (T 13)]⟩, ⟨(some 15), none, .mov (.const (.int .i64 (0)))⟩]) (.block 0 (.loop (.seq (.ops [⟨(some 16), none, .int2 .lss (T 15) (T 14)⟩]) (.seq (.cond (T 16) .skip (.exit 0)) (.seq (.block 1 (.seq (.ops [⟨(some 17), none, .mov (T 15)⟩, ⟨(some 7), none, .mov (T 17)⟩]) (.seq (.ops [⟨(some 18), none, .fieldAddr 0 (T 2)⟩, ⟨(some 19), none, .fieldAddr 5 (T 18)⟩, ⟨(some 20), none, .load1 (T 19)⟩, ⟨(some 21), none, .mov (T 1)⟩, ⟨(some 22), none, .idxSl 4 (T 20) (T 21)⟩, ⟨(some 23), none, .fieldAddr 0 (T 22)⟩, ⟨(some 24), none, .load1 (T 23)⟩, ⟨(some 25), none, .mov (T 7)⟩, ⟨(some 26), none, .int2 .add (T 24) (T 25)⟩, ⟨(some 8), none, .mov (T 26)⟩]) (.seq (.seq (.ops [⟨(some 27), none, .loadN 8 (T 2)⟩, ⟨(some 28), none, .mov (T 6)⟩, ⟨(some 29), none, .mov (T 1)⟩, ⟨(some 30), none, .mov (T 8)⟩, ⟨(some 31), none, .call (.func 90) [(T 27), (T 28), (T 29), (T 30)]⟩, ⟨(some 32), none, .int2 .neq (T 31) (.const (.int .i64 (1)))⟩]) (.cond (T 32) (.exit 1) .skip)) (.seq (.seq (.ops [⟨(some 33), none, .mov (T 5)⟩, ⟨(some 34), none, .not (T 33)⟩]) (.cond (T 34) (.ops [⟨(some 35), none, .mov (T 8)⟩, ⟨(some 36), none, .fieldAddr 0 (T 4)⟩, ⟨none, none, .store 1 (T 36) (T 35)⟩]) .skip)) (.ops [⟨(some 37), none, .mov (T 8)⟩, ⟨(some 38), none, .fieldAddr 1 (T 4)⟩, ⟨none, none, .store 1 (T 38) (T 37)⟩, ⟨(some 5), none, .mov (.const (.bool true))⟩])))))) (.ops [⟨(some 39), none, .int2 .add (T 15) (.const (.int .i64 (1)))⟩, ⟨(some 15), none, .mov (T 39)⟩]))))))) (.seq (.ops [⟨(some 40), none, .loadN 2 (T 4)⟩, ⟨(some 41), none, .mov (T 5)⟩, ⟨none, none, .store 2 (T 4) (T 40)⟩, ⟨(some 5), none, .mov (T 41)⟩]) .ret))))
theorem fok93 : FnOk Try.prog 93 42 s93 [.cellN 4 2, .tmp 5] := ⟨Try.f93, _, Try.func93, rfl, Try.ntmps93, by kernel_rfl, by kernel_rfl⟩
set_option maxHeartbeats 2000000 in
theorem goodHours_c (hn : 2320 ≤ n) (hr : h.next + 300000 < far) {wv vv sv tv : Value} {S : MS} (hy : SteepR h wv vv sv S) (ho1 : oneCell tv = true) (hG : Good S) {L : List (Nat → Int)} (hlen : L.length ≤ 2000) (hin : ∀ t, t ∈ L → InU S t) (htr : TruthsR h S tv L) {v : Nat} (hv : v < S.nv) :
    call n (.func (.func 93) #[] #[]) [.agg ⟨wkL S wv vv sv tv⟩, .int .i64 (v : Int)] h = some (.tuple ⟨[.agg ⟨[.int .i64 (gLo (S.vb v) (gI S v L (hoursN S v))), .int .i64 (gHi (S.vb v) (gI S v L (hoursN S v)))]⟩, .bool (decide (gI S v L (hoursN S v) ≠ []))]⟩, h) := by
  obtain ⟨n, rfl⟩ : ∃ p, n = p + 1 := ⟨n - 1, by omega⟩
  refine call_plain0 fok93 rfl rfl (by simp) rfl ?_
  have hy := hy.shut
  have htr : TruthsR h.shutAll S tv L := Cells.shut htr
  have hr : h.shutAll.next + 300000 < far := hr
  have hfl : h.shutAll.floor ≤ h.shutAll.next := Nat.le_refl _
  generalize h.shutAll = h at hy htr hr hfl
  obtain ⟨mh1, mh2, mh3⟩ := hoursN_ok hG hv
  obtain ⟨⟨vb1, vb2⟩, _⟩ := hG.args.vat v hv
  obtain ⟨zl0, zl5, _⟩ := hG.sizes
  simp only [s93, W_seq, W_ops]
  refine ops_box (cs := wkL S wv vv sv tv) (by omega) rfl (wk_one hy ho1) fun g1 hx1 => ?_
  have n1 := hx1.next
  have f1 := hx1.floor
  refine ops_alloc (cs := [.int .i64 0, .int .i64 0]) (by omega) rfl fun g2 hx2 => ?_
  have n2 := hx2.next
  have f2 := hx2.floor
  have s2 : Sub All h g2 := hx1.sub.trans hx2.sub
  have r2 := hx1.row.mono hx2.sub
  obtain ⟨r, g3, ek, hm3, hr3, sub3, u3, m3, f3⟩ := kindsOf_c (n := n) (h := g2) (by omega) (by omega) (by omega) (hy.mono s2) ho1 hG hlen hin (Cells.mono htr s2) hv
  have s3 := s2.trans sub3
  have eh := hoursOf_c (n := n) (h := g3) (by omega) (by omega) (hy.mono s3) ho1 hG hv
  rw [← mh1] at eh
  have r3 := r2.mono sub3
  have q3 : g3.get g1.next = some (.row [.int .i64 0, .int .i64 0] true 0) := sub3 _ _ _ _ trivial hx2.get
  simp only [rn0, rn1, rn2, rn3, rn4, rn5, rn6, rn7, rn8, if_true, if_false, Nat.le_refl, true_and, and_true, decide_true, decide_false, Bool.not_true, Bool.not_false, reduceIte, Nat.reduceEqDiff, Nat.reduceAdd, Nat.reduceMul, Nat.reduceSub, Nat.reduceLeDiff, Nat.reduceLT, r2.whole (n := 8) rfl, ek, r3.whole (n := 8) rfl, eh]
  refine W_loop (hoursN S v) (fun k f g ms => ((∀ i, i ≠ g1.next → g.get i = g3.get i) ∧ g.next = g3.next ∧ g.floor = g3.floor ∧ g.get g1.next = some (.row [.int .i64 (gLo (S.vb v) (gI S v L k)), .int .i64 (gHi (S.vb v) (gI S v L k))] true 0)) ∧ ms = [] ∧ f 1 = .int .i64 (v : Int) ∧ f 2 = .pointer (some ⟨h.next, 0, none⟩) ∧ f 4 = .pointer (some ⟨g1.next, 0, none⟩) ∧ f 5 = .bool (decide (gI S v L k ≠ [])) ∧ f 6 = .map (some r) ∧ f 14 = .int .i64 (hoursN S v : Int) ∧ f 15 = .int .i64 (k : Int)) (by simp; omega) ?_ ?_ ?_
  · have e0 : gI S v L 0 = [] := rfl
    have d0 : decide ((([] : List Int)) ≠ []) = false := rfl
    rw [e0]
    simp only [rn0, rn1, rn2, rn3, rn4, rn5, rn6, rn7, rn8, if_true, if_false, Nat.le_refl, true_and, and_true, decide_true, decide_false, Bool.not_true, Bool.not_false, reduceIte, Nat.reduceEqDiff, Nat.reduceAdd, Nat.reduceMul, Nat.reduceSub, Nat.reduceLeDiff, Nat.reduceLT, gLo_nil, gHi_nil, d0]
    first | exact ⟨⟨fun i _ => trivial, q3⟩, rfl⟩ | exact ⟨⟨fun i _ => rfl, rfl, rfl, q3⟩, rfl⟩ | exact ⟨⟨fun i _ => trivial, trivial, trivial, q3⟩, rfl⟩
  · rintro k f g ms hk ⟨⟨go, gn, gf, gr⟩, rfl, p1, p2, p4, p5, p6, p14, p15⟩
    have hk' : (k : Int) < (hoursN S v : Int) := by omega
    have hw : wrapF .i64 ((k : Int) + 1) = ((k + 1 : Nat) : Int) := by rw [wrap_in (by omega) (by omega)]; rfl
    have hwb : wrapF .i64 (S.vb v + (k : Int)) = S.vb v + (k : Int) := wrap_in (by omega) (by omega)
    have sg : Sub All h g := fun i cs w gr' t hg => by rw [go i (by have := AHeap.lt_of_get hg; omega)]; exact s3 _ _ _ _ t hg
    have hyg := hy.mono sg
    have htg : TruthsR g S tv L := Cells.mono htr sg
    have rg : Row g h.next (wkL S wv vv sv tv) := by
      obtain ⟨w, gr', e⟩ := r3
      exact ⟨w, gr', by rw [go _ (by omega)]; exact e⟩
    have mg : MapF g r key3 (cntK S v L L.length 0) := hm3.keep (go _ (by omega))
    have ev := verdict_c (n := n) (h := g) (by omega) (by omega) hyg ho1 hG htg mg (hour_at hG hv hk)
    by_cases c : verdS S v (S.vb v + (k : Int)) 1 L = 1
    · have eg : gI S v L (k + 1) = gI S v L k ++ [(k : Int)] := pick_yes c
      have hne : decide (gI S v L (k + 1) ≠ []) = true := decide_eq_true (by rw [eg]; simp)
      by_cases c0 : gI S v L k = []
      · have d0 : decide (gI S v L k ≠ []) = false := decide_eq_false (by simpa using c0)
        rw [d0] at p5
        have e1 : gLo (S.vb v) (gI S v L (k + 1)) = S.vb v + (k : Int) := by rw [eg, c0]; rfl
        have e2 : gHi (S.vb v) (gI S v L (k + 1)) = S.vb v + (k : Int) := by rw [eg, gHi_app]
        simp only [rn0, rn1, rn2, rn3, rn4, rn5, rn6, rn7, rn8, if_true, if_false, Nat.le_refl, true_and, and_true, decide_true, decide_false, Bool.not_true, Bool.not_false, reduceIte, Nat.reduceEqDiff, Nat.reduceAdd, Nat.reduceMul, Nat.reduceSub, Nat.reduceLeDiff, Nat.reduceLT, p1, p2, p4, p5, p6, p14, p15, hk', rg.whole (n := 8) rfl, rg.ld, wkg, Nat.zero_add, Nat.add_zero, Cells.idx hyg.v hv, Cells.fld hyg.v hv, begin_ld hyg hv, hwb, ev, c]
        refine step_store (b := g1.next) (off := 0) (vs := [.int .i64 (S.vb v + (k : Int))]) rfl gr (by omega) (by omega) rfl rfl rfl (by simp) fun g4 hs4 => ?_
        have n4 := hs4.next
        have f4 := hs4.floor
        simp only [rn0, rn1, rn2, rn3, rn4, rn5, rn6, rn7, rn8, if_true, if_false, Nat.le_refl, true_and, and_true, decide_true, decide_false, Bool.not_true, Bool.not_false, reduceIte, Nat.reduceEqDiff, Nat.reduceAdd, Nat.reduceMul, Nat.reduceSub, Nat.reduceLeDiff, Nat.reduceLT, p1, p2, p4, p5, p6, p14, p15]
        refine step_store (b := g1.next) (off := 1) (vs := [.int .i64 (S.vb v + (k : Int))]) rfl hs4.get (by omega) (by omega) rfl rfl rfl (by simp [splice]) fun g5 hs5 => ?_
        have n5 := hs5.next
        have f5 := hs5.floor
        simp only [rn0, rn1, rn2, rn3, rn4, rn5, rn6, rn7, rn8, if_true, if_false, Nat.le_refl, true_and, and_true, decide_true, decide_false, Bool.not_true, Bool.not_false, reduceIte, Nat.reduceEqDiff, Nat.reduceAdd, Nat.reduceMul, Nat.reduceSub, Nat.reduceLeDiff, Nat.reduceLT, p1, p2, p4, p5, p6, p14, p15, hw, hne]
        rw [e1, e2]
        exact ⟨fun i hi => by rw [hs5.old i hi, hs4.old i hi, go i hi], by omega, by omega, hs5.get⟩
      · have d0 : decide (gI S v L k ≠ []) = true := decide_eq_true c0
        rw [d0] at p5
        have e1 : gLo (S.vb v) (gI S v L (k + 1)) = gLo (S.vb v) (gI S v L k) := by rw [eg, gLo_app c0]
        have e2 : gHi (S.vb v) (gI S v L (k + 1)) = S.vb v + (k : Int) := by rw [eg, gHi_app]
        simp only [rn0, rn1, rn2, rn3, rn4, rn5, rn6, rn7, rn8, if_true, if_false, Nat.le_refl, true_and, and_true, decide_true, decide_false, Bool.not_true, Bool.not_false, reduceIte, Nat.reduceEqDiff, Nat.reduceAdd, Nat.reduceMul, Nat.reduceSub, Nat.reduceLeDiff, Nat.reduceLT, p1, p2, p4, p5, p6, p14, p15, hk', rg.whole (n := 8) rfl, rg.ld, wkg, Nat.zero_add, Nat.add_zero, Cells.idx hyg.v hv, Cells.fld hyg.v hv, begin_ld hyg hv, hwb, ev, c]
        refine step_store (b := g1.next) (off := 1) (vs := [.int .i64 (S.vb v + (k : Int))]) rfl gr (by omega) (by omega) rfl rfl rfl (by simp) fun g5 hs5 => ?_
        have n5 := hs5.next
        have f5 := hs5.floor
        simp only [rn0, rn1, rn2, rn3, rn4, rn5, rn6, rn7, rn8, if_true, if_false, Nat.le_refl, true_and, and_true, decide_true, decide_false, Bool.not_true, Bool.not_false, reduceIte, Nat.reduceEqDiff, Nat.reduceAdd, Nat.reduceMul, Nat.reduceSub, Nat.reduceLeDiff, Nat.reduceLT, p1, p2, p4, p5, p6, p14, p15, hw, hne]
        rw [e1, e2]
        exact ⟨fun i hi => by rw [hs5.old i hi, go i hi], by omega, by omega, hs5.get⟩
    · have eg : gI S v L (k + 1) = gI S v L k := pick_no c
      simp only [rn0, rn1, rn2, rn3, rn4, rn5, rn6, rn7, rn8, if_true, if_false, Nat.le_refl, true_and, and_true, decide_true, decide_false, Bool.not_true, Bool.not_false, reduceIte, Nat.reduceEqDiff, Nat.reduceAdd, Nat.reduceMul, Nat.reduceSub, Nat.reduceLeDiff, Nat.reduceLT, p1, p2, p4, p5, p6, p14, p15, hk', rg.whole (n := 8) rfl, rg.ld, wkg, Nat.zero_add, Nat.add_zero, Cells.idx hyg.v hv, Cells.fld hyg.v hv, begin_ld hyg hv, hwb, ev, c, hw]
      rw [eg]
      first | exact ⟨⟨go, gn, gf, gr⟩, rfl⟩ | exact ⟨go, gn, gf, gr⟩
  · rintro f g ms ⟨⟨go, gn, gf, gr⟩, rfl, p1, p2, p4, p5, p6, p14, p15⟩
    have rt : Row g g1.next _ := ⟨_, _, gr⟩
    simp only [rn0, rn1, rn2, rn3, rn4, rn5, rn6, rn7, rn8, if_true, if_false, Nat.le_refl, true_and, and_true, decide_true, decide_false, Bool.not_true, Bool.not_false, reduceIte, Nat.reduceEqDiff, Nat.reduceAdd, Nat.reduceMul, Nat.reduceSub, Nat.reduceLeDiff, Nat.reduceLT, p1, p2, p4, p5, p6, p14, p15, Int.lt_irrefl, rt.whole (n := 2) rfl]
    refine step_store (b := g1.next) (off := 0) (vs := [.int .i64 (gLo (S.vb v) (gI S v L (hoursN S v))), .int .i64 (gHi (S.vb v) (gI S v L (hoursN S v)))]) rfl gr (by omega) (by omega) rfl rfl rfl (by simp) fun g6 hs6 => ?_
    rw [splice_all (by rfl)] at hs6
    simp only [rn0, rn1, rn2, rn3, rn4, rn5, rn6, rn7, rn8, if_true, if_false, Nat.le_refl, true_and, and_true, decide_true, decide_false, Bool.not_true, Bool.not_false, reduceIte, Nat.reduceEqDiff, Nat.reduceAdd, Nat.reduceMul, Nat.reduceSub, Nat.reduceLeDiff, Nat.reduceLT, p4, p5, res_two, hs6.row.whole (n := 2) rfl]
end Go.Vm.St

namespace Go.Vm.St
open Go.Proofs Go.Vm.Vat
set_option linter.unusedSimpArgs false
set_option linter.unusedVariables false
set_option maxRecDepth 10000
variable {n : Nat} {h : AHeap}
end Go.Vm.St

namespace Go.Vm.St
open Go.Proofs Go.Vm.Vat
set_option linter.unusedSimpArgs false
set_option linter.unusedVariables false
set_option maxRecDepth 10000
variable {n : Nat} {h : AHeap}
end Go.Vm.St

namespace Go.Vm.St
open Go.Proofs Go.Vm.Vat
set_option linter.unusedSimpArgs false
set_option linter.unusedVariables false
set_option maxRecDepth 10000
variable {n : Nat} {h : AHeap}
end Go.Vm.St

namespace Go.Vm.St
open Go.Proofs Go.Vm.Vat
set_option linter.unusedSimpArgs false
set_option linter.unusedVariables false
set_option maxRecDepth 10000
variable {n : Nat} {h : AHeap}
theorem build_rng0 : buildA (fun x => (#[(0, 1), (1, 1)] : Array (Nat × Nat))[x]?) ⟨[.int .i64 0, .int .i64 0]⟩ [] h [] = some (.agg ⟨[.int .i64 0, .int .i64 0]⟩, h) := id rfl
open Classical in
/-- the error of a question on a vat -/
noncomputable def errV (S : MS) (at_ : Int) : Int := if faultS S ≠ 0 then faultS S else if ¬ InV S at_ then 2 else if truthsS S = [] then 11 else 0
noncomputable def gAll (S : MS) (v : Nat) : List Int := gI S v (truthsS S) (hoursN S v)
/-- what 'Good' answers -/
noncomputable def goodE (S : MS) (at_ : Int) : Int := if errV S at_ = 0 then (if gAll S at_.toNat = [] then 10 else 0) else errV S at_
noncomputable def goodLo (S : MS) (at_ : Int) : Int := if errV S at_ = 0 then gLo (S.vb at_.toNat) (gAll S at_.toNat) else 0
noncomputable def goodHi (S : MS) (at_ : Int) : Int := if errV S at_ = 0 then gHi (S.vb at_.toNat) (gAll S at_.toNat) else 0
theorem errV_1 {S : MS} {at_ : Int} (hf : faultS S ≠ 0) : errV S at_ = faultS S := if_pos hf
theorem errV_2 {S : MS} {at_ : Int} (hf : faultS S = 0) (hv : ¬ InV S at_) : errV S at_ = 2 := by unfold errV; rw [if_neg (by simpa using hf), if_pos hv]
theorem errV_3 {S : MS} {at_ : Int} (hf : faultS S = 0) (hv : InV S at_) (hz : truthsS S = []) : errV S at_ = 11 := by unfold errV; rw [if_neg (by simpa using hf), if_neg (by intro q; exact q hv), if_pos hz]
theorem errV_4 {S : MS} {at_ : Int} (hf : faultS S = 0) (hv : InV S at_) (hz : truthsS S ≠ []) : errV S at_ = 0 := by unfold errV; rw [if_neg (by simpa using hf), if_neg (by intro q; exact q hv), if_neg hz]
theorem good_err {S : MS} {at_ : Int} (he : errV S at_ ≠ 0) : goodE S at_ = errV S at_ ∧ goodLo S at_ = 0 ∧ goodHi S at_ = 0 := ⟨if_neg he, if_neg he, if_neg he⟩
theorem good_ok {S : MS} {at_ : Int} (he : errV S at_ = 0) : goodE S at_ = (if gAll S at_.toNat = [] then 10 else 0) ∧ goodLo S at_ = gLo (S.vb at_.toNat) (gAll S at_.toNat) ∧ goodHi S at_ = gHi (S.vb at_.toNat) (gAll S at_.toNat) := ⟨if_pos he, if_pos he, if_pos he⟩
def s44 : SCode := (.seq (.ops [⟨(some 2), none, .box (T 0)⟩, ⟨(some 4), none, .alloc [(.int .i64 (0)), (.int .i64 (0))]⟩, ⟨(some 5), none, .mov (.const (.int .i64 (0)))⟩]) (.seq (.ops [⟨(some 11), none, .loadN 7 (T 2)⟩, ⟨(some 12), none, .mov (T 1)⟩, ⟨(some 13), none, .call (.func 88) [(T 11), (T 12), (.const (.slice none 0 0))]⟩, ⟨(some 10), none, .mov (T 13)⟩, ⟨(some 14), none, .extract 0 (T 10)⟩, ⟨(some 15), none, .extract 1 (T 10)⟩, ⟨(some 6), none, .alloc [(.int .i64 (0)), (.int .i64 (0)), (.slice none 0 0), (.int .i64 (0)), (.int .i64 (0)), (.slice none 0 0), (.slice none 0 0), (.slice none 0 0)]⟩, ⟨none, none, .store 8 (T 6) (T 14)⟩, ⟨(some 7), none, .mov (T 15)⟩]) (.seq (.seq (.ops [⟨(some 16), none, .mov (T 7)⟩, ⟨(some 17), none, .int2 .neq (T 16) (.const (.int .i64 (0)))⟩]) (.cond (T 17) (.seq (.ops [⟨(some 18), none, .build #[(0, 1), (1, 1)] [(.int .i64 (0)), (.int .i64 (0))] [] []⟩, ⟨(some 19), none, .mov (T 7)⟩, ⟨none, none, .store 2 (T 4) (T 18)⟩, ⟨(some 5), none, .mov (T 19)⟩]) .ret) .skip)) (.seq (.ops [⟨(some 21), none, .loadN 8 (T 6)⟩, ⟨(some 22), none, .mov (T 1)⟩, ⟨(some 23), none, .call (.func 93) [(T 21), (T 22)]⟩, ⟨(some 20), none, .mov (T 23)⟩, ⟨(some 24), none, .extract 0 (T 20)⟩, ⟨(some 25), none, .extract 1 (T 20)⟩, ⟨(some 8), none, .alloc [(.int .i64 (0)), (.int .i64 (0))]⟩, ⟨none, none, .store 2 (T 8) (T 24)⟩, ⟨(some 9), none, .mov (T 25)⟩]) (.seq (.seq (.ops [⟨(some 26), none, .mov (T 9)⟩, ⟨(some 27), none, .not (T 26)⟩]) (.cond (T 27) (.seq (.ops [⟨(some 28), none, .build #[(0, 1), (1, 1)] [(.int .i64 (0)), (.int .i64 (0))] [] []⟩, ⟨none, none, .store 2 (T 4) (T 28)⟩, ⟨(some 5), none, .mov (.const (.int .i64 (10)))⟩]) .ret) .skip)) (.seq (.ops [⟨(some 29), none, .loadN 2 (T 8)⟩, ⟨none, none, .store 2 (T 4) (T 29)⟩, ⟨(some 5), none, .mov (.const (.int .i64 (0)))⟩]) .ret))))))
theorem fok44 : FnOk Try.prog 44 30 s44 [.cellN 4 2, .tmp 5] := ⟨Try.f44, _, Try.func44, rfl, Try.ntmps44, by kernel_rfl, by kernel_rfl⟩
set_option maxHeartbeats 2000000 in
theorem goodP_c (hn : 2500 ≤ n) (hr : h.next + 1200000 < far) {wv vv sv : Value} {S : MS} (hy : SteepR h wv vv sv S) (hT : ThinS S) (at_ : Int) :
    call n (.func (.func 44) #[] #[]) [.agg ⟨stL S wv vv sv⟩, .int .i64 at_] h = some (.tuple ⟨[.agg ⟨[.int .i64 (goodLo S at_), .int .i64 (goodHi S at_)]⟩, .int .i64 (goodE S at_)]⟩, h) := by
  obtain ⟨n, rfl⟩ : ∃ p, n = p + 1 := ⟨n - 1, by omega⟩
  refine call_plain0 fok44 rfl rfl (by simp) rfl ?_
  have hy := hy.shut
  have hr : h.shutAll.next + 1200000 < far := hr
  have hfl : h.shutAll.floor ≤ h.shutAll.next := Nat.le_refl _
  generalize h.shutAll = h at hy hr hfl
  simp only [s44, W_seq, W_ops]
  refine ops_box (cs := stL S wv vv sv) (by omega) rfl hy.one fun g1 hx1 => ?_
  have n1 := hx1.next
  have f1 := hx1.floor
  refine ops_alloc (cs := [.int .i64 0, .int .i64 0]) (by omega) rfl fun g2 hx2 => ?_
  have n2 := hx2.next
  have f2 := hx2.floor
  have sub2 : Sub All h g2 := hx1.sub.trans hx2.sub
  have w2 := (hx1.row.mono hx2.sub).whole (n := 7) rfl
  obtain ⟨pv, g3, eo, o3, u3, m3, f3, hp⟩ := openVat_c (n := n) (h := g2) (by omega) (by omega) (by omega) (hy.mono sub2) hT at_
  have sub3 : Sub All h g3 := sub2.trans (AHeap.subOf o3)
  have q3 : g3.get g1.next = some (.row [.int .i64 0, .int .i64 0] true 0) := by rw [o3 _ (by omega)]; exact hx2.get
  have z20 : ¬ (2 : Int) = 0 := by decide
  have z110 : ¬ (11 : Int) = 0 := by decide
  rcases hp with ⟨hf, rfl⟩ | ⟨hf, hv, rfl⟩ | ⟨hf, hv, hz, rfl⟩ | ⟨hf, hv, hz, tv, rfl, hone, htr, hlong⟩
  · have e0 : errV S at_ = faultS S := errV_1 hf
    obtain ⟨q1, q2, q3'⟩ := good_err (S := S) (at_ := at_) (by rw [e0]; exact hf)
    rw [q1, q2, q3', e0]
    simp only [rn0, rn1, rn2, rn3, rn4, rn5, rn6, rn7, rn8, if_true, if_false, Nat.le_refl, true_and, and_true, decide_true, decide_false, Bool.not_true, Bool.not_false, reduceIte, Nat.reduceEqDiff, Nat.reduceAdd, Nat.reduceMul, Nat.reduceSub, Nat.reduceLeDiff, Nat.reduceLT, w2, eo, ex0, ex1]
    refine step_new (vs := wk0) (by omega) (by omega) rfl (by simp only [rn0, rn1, rn2, rn3, rn4, rn5, rn6, rn7, rn8, if_true, if_false, Nat.le_refl, true_and, and_true, decide_true, decide_false, Bool.not_true, Bool.not_false, reduceIte, Nat.reduceEqDiff, Nat.reduceAdd, Nat.reduceMul, Nat.reduceSub, Nat.reduceLeDiff, Nat.reduceLT]; rfl) rfl rfl rfl fun g4 hx4 => ?_
    have n4 := hx4.next
    have f4 := hx4.floor
    simp only [rn0, rn1, rn2, rn3, rn4, rn5, rn6, rn7, rn8, if_true, if_false, Nat.le_refl, true_and, and_true, decide_true, decide_false, Bool.not_true, Bool.not_false, reduceIte, Nat.reduceEqDiff, Nat.reduceAdd, Nat.reduceMul, Nat.reduceSub, Nat.reduceLeDiff, Nat.reduceLT, hf, build_rng0]
    refine step_store (b := g1.next) (off := 0) (vs := [.int .i64 0, .int .i64 0]) rfl (by rw [hx4.old _ (by omega)]; exact q3) (by omega) (by omega) rfl rfl rfl (by simp) fun g6 hs6 => ?_
    rw [splice_all (by rfl)] at hs6
    simp only [rn0, rn1, rn2, rn3, rn4, rn5, rn6, rn7, rn8, if_true, if_false, Nat.le_refl, true_and, and_true, decide_true, decide_false, Bool.not_true, Bool.not_false, reduceIte, Nat.reduceEqDiff, Nat.reduceAdd, Nat.reduceMul, Nat.reduceSub, Nat.reduceLeDiff, Nat.reduceLT, res_two, hs6.row.whole (n := 2) rfl]
  · have e0 : errV S at_ = 2 := errV_2 hf hv
    obtain ⟨q1, q2, q3'⟩ := good_err (S := S) (at_ := at_) (by rw [e0]; exact z20)
    rw [q1, q2, q3', e0]
    simp only [rn0, rn1, rn2, rn3, rn4, rn5, rn6, rn7, rn8, if_true, if_false, Nat.le_refl, true_and, and_true, decide_true, decide_false, Bool.not_true, Bool.not_false, reduceIte, Nat.reduceEqDiff, Nat.reduceAdd, Nat.reduceMul, Nat.reduceSub, Nat.reduceLeDiff, Nat.reduceLT, w2, eo, ex0, ex1]
    refine step_new (vs := wk0) (by omega) (by omega) rfl (by simp only [rn0, rn1, rn2, rn3, rn4, rn5, rn6, rn7, rn8, if_true, if_false, Nat.le_refl, true_and, and_true, decide_true, decide_false, Bool.not_true, Bool.not_false, reduceIte, Nat.reduceEqDiff, Nat.reduceAdd, Nat.reduceMul, Nat.reduceSub, Nat.reduceLeDiff, Nat.reduceLT]; rfl) rfl rfl rfl fun g4 hx4 => ?_
    have n4 := hx4.next
    have f4 := hx4.floor
    simp only [rn0, rn1, rn2, rn3, rn4, rn5, rn6, rn7, rn8, if_true, if_false, Nat.le_refl, true_and, and_true, decide_true, decide_false, Bool.not_true, Bool.not_false, reduceIte, Nat.reduceEqDiff, Nat.reduceAdd, Nat.reduceMul, Nat.reduceSub, Nat.reduceLeDiff, Nat.reduceLT, z20, build_rng0]
    refine step_store (b := g1.next) (off := 0) (vs := [.int .i64 0, .int .i64 0]) rfl (by rw [hx4.old _ (by omega)]; exact q3) (by omega) (by omega) rfl rfl rfl (by simp) fun g6 hs6 => ?_
    rw [splice_all (by rfl)] at hs6
    simp only [rn0, rn1, rn2, rn3, rn4, rn5, rn6, rn7, rn8, if_true, if_false, Nat.le_refl, true_and, and_true, decide_true, decide_false, Bool.not_true, Bool.not_false, reduceIte, Nat.reduceEqDiff, Nat.reduceAdd, Nat.reduceMul, Nat.reduceSub, Nat.reduceLeDiff, Nat.reduceLT, res_two, hs6.row.whole (n := 2) rfl]
  · have e0 : errV S at_ = 11 := errV_3 hf hv hz
    obtain ⟨q1, q2, q3'⟩ := good_err (S := S) (at_ := at_) (by rw [e0]; exact z110)
    rw [q1, q2, q3', e0]
    simp only [rn0, rn1, rn2, rn3, rn4, rn5, rn6, rn7, rn8, if_true, if_false, Nat.le_refl, true_and, and_true, decide_true, decide_false, Bool.not_true, Bool.not_false, reduceIte, Nat.reduceEqDiff, Nat.reduceAdd, Nat.reduceMul, Nat.reduceSub, Nat.reduceLeDiff, Nat.reduceLT, w2, eo, ex0, ex1]
    refine step_new (vs := wk0) (by omega) (by omega) rfl (by simp only [rn0, rn1, rn2, rn3, rn4, rn5, rn6, rn7, rn8, if_true, if_false, Nat.le_refl, true_and, and_true, decide_true, decide_false, Bool.not_true, Bool.not_false, reduceIte, Nat.reduceEqDiff, Nat.reduceAdd, Nat.reduceMul, Nat.reduceSub, Nat.reduceLeDiff, Nat.reduceLT]; rfl) rfl rfl rfl fun g4 hx4 => ?_
    have n4 := hx4.next
    have f4 := hx4.floor
    simp only [rn0, rn1, rn2, rn3, rn4, rn5, rn6, rn7, rn8, if_true, if_false, Nat.le_refl, true_and, and_true, decide_true, decide_false, Bool.not_true, Bool.not_false, reduceIte, Nat.reduceEqDiff, Nat.reduceAdd, Nat.reduceMul, Nat.reduceSub, Nat.reduceLeDiff, Nat.reduceLT, z110, build_rng0]
    refine step_store (b := g1.next) (off := 0) (vs := [.int .i64 0, .int .i64 0]) rfl (by rw [hx4.old _ (by omega)]; exact q3) (by omega) (by omega) rfl rfl rfl (by simp) fun g6 hs6 => ?_
    rw [splice_all (by rfl)] at hs6
    simp only [rn0, rn1, rn2, rn3, rn4, rn5, rn6, rn7, rn8, if_true, if_false, Nat.le_refl, true_and, and_true, decide_true, decide_false, Bool.not_true, Bool.not_false, reduceIte, Nat.reduceEqDiff, Nat.reduceAdd, Nat.reduceMul, Nat.reduceSub, Nat.reduceLeDiff, Nat.reduceLT, res_two, hs6.row.whole (n := 2) rfl]
  · have hG := good_of hf
    have e0 : errV S at_ = 0 := errV_4 hf hv hz
    obtain ⟨q1, q2, q3'⟩ := good_ok e0
    rw [q1, q2, q3']
    have how := wk_one hy (tv := tv) hone
    obtain ⟨va, hva⟩ : ∃ va : Nat, at_ = (va : Int) := ⟨at_.toNat, by unfold InV at hv; omega⟩
    subst hva
    have hvn : va < S.nv := by unfold InV at hv; omega
    simp only [Int.toNat_natCast]
    simp only [rn0, rn1, rn2, rn3, rn4, rn5, rn6, rn7, rn8, if_true, if_false, Nat.le_refl, true_and, and_true, decide_true, decide_false, Bool.not_true, Bool.not_false, reduceIte, Nat.reduceEqDiff, Nat.reduceAdd, Nat.reduceMul, Nat.reduceSub, Nat.reduceLeDiff, Nat.reduceLT, w2, eo, ex0, ex1]
    refine step_new (vs := wkL S wv vv sv tv) (by omega) (by omega) rfl (by simp only [rn0, rn1, rn2, rn3, rn4, rn5, rn6, rn7, rn8, if_true, if_false, Nat.le_refl, true_and, and_true, decide_true, decide_false, Bool.not_true, Bool.not_false, reduceIte, Nat.reduceEqDiff, Nat.reduceAdd, Nat.reduceMul, Nat.reduceSub, Nat.reduceLeDiff, Nat.reduceLT]; rfl) how rfl rfl fun g4 hx4 => ?_
    have n4 := hx4.next
    have f4 := hx4.floor
    have sub4 := sub3.trans hx4.sub
    have htr4 : TruthsR g4 S tv (truthsS S) := Cells.mono htr hx4.sub
    have q4 : g4.get g1.next = some (.row [.int .i64 0, .int .i64 0] true 0) := by rw [hx4.old _ (by omega)]; exact q3
    have eg := goodHours_c (n := n) (h := g4) (by omega) (by omega) (hy.mono sub4) hone hG (truths_len hG) (fun t ht => (truths_mem.1 ht).1.1) htr4 hvn
    change call n _ _ g4 = some (.tuple ⟨[.agg ⟨[.int .i64 (gLo (S.vb va) (gAll S va)), .int .i64 (gHi (S.vb va) (gAll S va))]⟩, .bool (decide (gAll S va ≠ []))]⟩, g4) at eg
    by_cases c : gAll S va = []
    · have d0 : decide (gAll S va ≠ []) = false := decide_eq_false (by simpa using c)
      rw [if_pos c, c, gLo_nil, gHi_nil]
      rw [d0, c, gLo_nil, gHi_nil] at eg
      simp only [rn0, rn1, rn2, rn3, rn4, rn5, rn6, rn7, rn8, if_true, if_false, Nat.le_refl, true_and, and_true, decide_true, decide_false, Bool.not_true, Bool.not_false, reduceIte, Nat.reduceEqDiff, Nat.reduceAdd, Nat.reduceMul, Nat.reduceSub, Nat.reduceLeDiff, Nat.reduceLT, hx4.row.whole (n := 8) rfl, eg, ex0, ex1]
      refine step_new (vs := [.int .i64 0, .int .i64 0]) (by omega) (by omega) rfl (by simp only [rn0, rn1, rn2, rn3, rn4, rn5, rn6, rn7, rn8, if_true, if_false, Nat.le_refl, true_and, and_true, decide_true, decide_false, Bool.not_true, Bool.not_false, reduceIte, Nat.reduceEqDiff, Nat.reduceAdd, Nat.reduceMul, Nat.reduceSub, Nat.reduceLeDiff, Nat.reduceLT]; rfl) rfl rfl rfl fun g5 hx5 => ?_
      have n5 := hx5.next
      have f5 := hx5.floor
      simp only [rn0, rn1, rn2, rn3, rn4, rn5, rn6, rn7, rn8, if_true, if_false, Nat.le_refl, true_and, and_true, decide_true, decide_false, Bool.not_true, Bool.not_false, reduceIte, Nat.reduceEqDiff, Nat.reduceAdd, Nat.reduceMul, Nat.reduceSub, Nat.reduceLeDiff, Nat.reduceLT, build_rng0]
      refine step_store (b := g1.next) (off := 0) (vs := [.int .i64 0, .int .i64 0]) rfl (by rw [hx5.old _ (by omega)]; exact q4) (by omega) (by omega) rfl rfl rfl (by simp) fun g6 hs6 => ?_
      rw [splice_all (by rfl)] at hs6
      simp only [rn0, rn1, rn2, rn3, rn4, rn5, rn6, rn7, rn8, if_true, if_false, Nat.le_refl, true_and, and_true, decide_true, decide_false, Bool.not_true, Bool.not_false, reduceIte, Nat.reduceEqDiff, Nat.reduceAdd, Nat.reduceMul, Nat.reduceSub, Nat.reduceLeDiff, Nat.reduceLT, res_two, hs6.row.whole (n := 2) rfl]
    · have d0 : decide (gAll S va ≠ []) = true := decide_eq_true c
      rw [if_neg c]
      rw [d0] at eg
      simp only [rn0, rn1, rn2, rn3, rn4, rn5, rn6, rn7, rn8, if_true, if_false, Nat.le_refl, true_and, and_true, decide_true, decide_false, Bool.not_true, Bool.not_false, reduceIte, Nat.reduceEqDiff, Nat.reduceAdd, Nat.reduceMul, Nat.reduceSub, Nat.reduceLeDiff, Nat.reduceLT, hx4.row.whole (n := 8) rfl, eg, ex0, ex1]
      refine step_new (vs := [.int .i64 (gLo (S.vb va) (gAll S va)), .int .i64 (gHi (S.vb va) (gAll S va))]) (by omega) (by omega) rfl (by simp only [rn0, rn1, rn2, rn3, rn4, rn5, rn6, rn7, rn8, if_true, if_false, Nat.le_refl, true_and, and_true, decide_true, decide_false, Bool.not_true, Bool.not_false, reduceIte, Nat.reduceEqDiff, Nat.reduceAdd, Nat.reduceMul, Nat.reduceSub, Nat.reduceLeDiff, Nat.reduceLT]; rfl) rfl rfl rfl fun g5 hx5 => ?_
      have n5 := hx5.next
      have f5 := hx5.floor
      simp only [rn0, rn1, rn2, rn3, rn4, rn5, rn6, rn7, rn8, if_true, if_false, Nat.le_refl, true_and, and_true, decide_true, decide_false, Bool.not_true, Bool.not_false, reduceIte, Nat.reduceEqDiff, Nat.reduceAdd, Nat.reduceMul, Nat.reduceSub, Nat.reduceLeDiff, Nat.reduceLT, hx5.row.whole (n := 2) rfl]
      refine step_store (b := g1.next) (off := 0) (vs := [.int .i64 (gLo (S.vb va) (gAll S va)), .int .i64 (gHi (S.vb va) (gAll S va))]) rfl (by rw [hx5.old _ (by omega)]; exact q4) (by omega) (by omega) rfl rfl rfl (by simp) fun g6 hs6 => ?_
      rw [splice_all (by rfl)] at hs6
      simp only [rn0, rn1, rn2, rn3, rn4, rn5, rn6, rn7, rn8, if_true, if_false, Nat.le_refl, true_and, and_true, decide_true, decide_false, Bool.not_true, Bool.not_false, reduceIte, Nat.reduceEqDiff, Nat.reduceAdd, Nat.reduceMul, Nat.reduceSub, Nat.reduceLeDiff, Nat.reduceLT, res_two, hs6.row.whole (n := 2) rfl]
/-! ### The reference's good hours -/
def s45 : SCode := (.seq (.ops [⟨(some 3), none, .box (T 0)⟩, ⟨(some 6), none, .mov (.const (.slice none 0 0))⟩]) (.seq (.ops [⟨(some 7), none, .mov (.const (.slice none 0 0))⟩]) (.seq (.seq (.ops [⟨(some 9), none, .fieldAddr 5 (T 3)⟩, ⟨(some 10), none, .load1 (T 9)⟩, ⟨(some 11), none, .mov (T 2)⟩, ⟨(some 12), none, .idxSl 4 (T 10) (T 11)⟩, ⟨(some 13), none, .fieldAddr 0 (T 12)⟩, ⟨(some 14), none, .load1 (T 13)⟩, ⟨(some 8), none, .mov (T 14)⟩]) (.block 0 (.loop (.seq (.seq (.ops [⟨(some 15), none, .mov (T 8)⟩, ⟨(some 16), none, .fieldAddr 0 (T 3)⟩, ⟨(some 17), none, .load1 (T 16)⟩, ⟨(some 18), none, .int2 .leq (T 15) (T 17)⟩]) (.cond (T 18) .skip (.exit 0))) (.seq (.block 1 (.seq (.ops [⟨(some 21), none, .loadN 7 (T 3)⟩, ⟨(some 22), none, .mov (T 1)⟩, ⟨(some 23), none, .mov (T 2)⟩, ⟨(some 24), none, .mov (T 8)⟩, ⟨(some 25), none, .call (.func 43) [(T 21), (T 22), (T 23), (T 24)]⟩, ⟨(some 26), none, .int2 .eql (T 25) (.const (.int .i64 (1)))⟩]) (.cond (T 26) (.ops [⟨(some 27), none, .mov (T 7)⟩, ⟨(some 28), none, .mov (T 8)⟩, ⟨(some 29), none, .bslice 1 1 [(.int .i64 (0))] [0] [(T 28)]⟩, ⟨(some 30), none, .append 1 8 (T 27) (T 29)⟩, ⟨(some 7), none, .mov (T 30)⟩]) .skip))) (.ops [⟨(some 19), none, .mov (T 8)⟩, ⟨(some 20), none, .int2 .add (T 19) (.const (.int .i64 (1)))⟩, ⟨(some 8), none, .mov (T 20)⟩])))))) (.seq (.ops [⟨(some 31), none, .mov (T 7)⟩, ⟨(some 6), none, .mov (T 31)⟩]) .ret))))
/-! ### Good hours follow one another -/
theorem verd_one {S : MS} {v : Nat} {hh kk : Int} {L : List (Nat → Int)} (hL : L ≠ []) : verdS S v hh kk L = 1 ↔ ∀ t, t ∈ L → kindS S t v hh = kk := by
  obtain ⟨t, ht⟩ := List.exists_mem_of_ne_nil _ hL
  unfold verdS
  by_cases c1 : ∀ t, t ∈ L → kindS S t v hh ≠ kk
  · rw [if_pos c1]
    exact ⟨fun e => absurd e (by decide), fun q => absurd (q t ht) (c1 t ht)⟩
  · rw [if_neg c1]
    by_cases c2 : ∀ t, t ∈ L → kindS S t v hh = kk
    · rw [if_pos c2]; exact ⟨fun _ => c2, fun _ => rfl⟩
    · rw [if_neg c2]; exact ⟨fun e => absurd e (by decide), fun q => absurd q c2⟩
theorem kind_up {S : MS} {u : Nat → Int} (hG : Good S) (hu : InU S u) {v : Nat} (hv : v < S.nv) {i : Nat} : ∀ d, i + d < hoursN S v → kindS S u v (S.vb v + (i : Int)) ≤ kindS S u v (S.vb v + ((i + d : Nat) : Int))
  | 0, _ => Int.le_refl _
  | d + 1, hd => by
    have h1 := kind_up hG hu hv (i := i) d (by omega)
    have o1 := hour_at hG hv (i := i + d) (by omega)
    have o2 := hour_at hG hv (i := i + d + 1) (by omega)
    have ee : S.vb v + ((i + d + 1 : Nat) : Int) = S.vb v + ((i + d : Nat) : Int) + 1 := by omega
    have h2 := kind_next hG hu o1 (by rw [← ee]; exact o2)
    rw [← ee] at h2
    exact Int.le_trans h1 h2
/-- hours between two good ones are good -/
theorem good_mid {S : MS} (hG : Good S) {v : Nat} (hv : v < S.nv) {L : List (Nat → Int)} (hL : L ≠ []) (hin : ∀ t, t ∈ L → InU S t) {a b c : Nat} (h1 : a ≤ b) (h2 : b ≤ c) (h3 : c < hoursN S v) (ha : verdS S v (S.vb v + (a : Int)) 1 L = 1) (hc : verdS S v (S.vb v + (c : Int)) 1 L = 1) : verdS S v (S.vb v + (b : Int)) 1 L = 1 := by
  rw [verd_one hL] at ha hc ⊢
  intro t ht
  have k1 := kind_up hG (hin t ht) hv (i := a) (b - a) (by omega)
  have k2 := kind_up hG (hin t ht) hv (i := b) (c - b) (by omega)
  rw [show a + (b - a) = b by omega, ha t ht] at k1
  rw [show b + (c - b) = c by omega, hc t ht] at k2
  omega
/-- numbers that are picked without a gap -/
theorem pick_run {p : Nat → Prop} : ∀ (k : Nat), (∀ a b c, a ≤ b → b ≤ c → c < k → p a → p c → p b) → pickL p k ≠ [] → ∃ a, (∀ i, i < (pickL p k).length → atL (pickL p k) i = ((a + i : Nat) : Int)) ∧ a + (pickL p k).length ≤ k ∧ ∀ x, x < k → (p x ↔ a ≤ x ∧ x < a + (pickL p k).length)
  | 0, _, h => absurd rfl h
  | k + 1, hg, h => by
    by_cases c : p k
    · rw [pick_yes c] at h ⊢
      by_cases c0 : pickL p k = []
      · refine ⟨k, ?_, by rw [c0]; simp, ?_⟩
        · rw [c0]
          intro i hi
          simp only [List.nil_append, List.length_singleton] at hi
          obtain rfl : i = 0 := by omega
          rfl
        · rw [c0]
          intro x hx
          simp only [List.nil_append, List.length_singleton]
          constructor
          · intro hp
            by_cases e : x = k
            · omega
            · obtain ⟨i, i1, i2⟩ := pick_has (p := p) (k := k) (show x < k by omega) hp
              rw [c0] at i1
              exact absurd i1 (Nat.not_lt_zero _)
          · intro q
            obtain rfl : x = k := by omega
            exact c
      · obtain ⟨a, h1, h2, h3⟩ := pick_run k (fun a b c h1 h2 h3 => hg a b c h1 h2 (by omega)) c0
        have hpos : 0 < (pickL p k).length := List.length_pos_iff.2 c0
        have hpa : p a := (h3 a (by omega)).2 ⟨Nat.le_refl _, by omega⟩
        have hend : a + (pickL p k).length = k := by
          apply Classical.byContradiction
          intro hne
          have := (h3 (a + (pickL p k).length) (by omega)).1 (hg a _ k (by omega) (by omega) (by omega) hpa c)
          omega
        refine ⟨a, fun i hi => ?_, by rw [List.length_append, List.length_singleton]; omega, fun x hx => ?_⟩
        · rw [List.length_append, List.length_singleton] at hi
          by_cases e : i < (pickL p k).length
          · rw [at_append e, h1 i e]
          · obtain rfl : i = (pickL p k).length := by omega
            rw [at_last, hend]
        · rw [List.length_append, List.length_singleton]
          by_cases e : x = k
          · subst e
            exact ⟨fun _ => ⟨by omega, by omega⟩, fun _ => c⟩
          · rw [h3 x (by omega)]
            omega
    · rw [pick_no c] at h ⊢
      obtain ⟨a, h1, h2, h3⟩ := pick_run k (fun a b c h1 h2 h3 => hg a b c h1 h2 (by omega)) h
      refine ⟨a, h1, by omega, fun x hx => ?_⟩
      by_cases e : x = k
      · subst e
        exact ⟨fun q => absurd q c, fun q => by omega⟩
      · exact h3 x (by omega)
/-- the good hours of a vat are a range -/
theorem gAll_run {S : MS} (hG : Good S) {v : Nat} (hv : v < S.nv) (hz : truthsS S ≠ []) (hne : gAll S v ≠ []) : ∃ a : Nat, a + (gAll S v).length ≤ hoursN S v ∧ 0 < (gAll S v).length ∧ gLo (S.vb v) (gAll S v) = S.vb v + (a : Int) ∧ gHi (S.vb v) (gAll S v) = S.vb v + ((a + (gAll S v).length - 1 : Nat) : Int) ∧ ∀ x, x < hoursN S v → (verdS S v (S.vb v + (x : Int)) 1 (truthsS S) = 1 ↔ a ≤ x ∧ x < a + (gAll S v).length) := by
  obtain ⟨a, h1, h2, h3⟩ := pick_run (p := fun i => verdS S v (S.vb v + (i : Int)) 1 (truthsS S) = 1) (hoursN S v) (fun a b c k1 k2 k3 ha hc => good_mid hG hv hz (fun t ht => (truths_mem.1 ht).1.1) k1 k2 k3 ha hc) hne
  have e : pickL (fun i => verdS S v (S.vb v + (i : Int)) 1 (truthsS S) = 1) (hoursN S v) = gAll S v := rfl
  simp only [e] at h1 h2 h3
  have hpos : 0 < (gAll S v).length := List.length_pos_iff.2 hne
  refine ⟨a, h2, hpos, ?_, ?_, h3⟩
  · unfold gLo
    rw [if_neg hne, h1 0 hpos, Nat.add_zero]
  · unfold gHi
    rw [if_neg hne, h1 _ (by omega)]
    congr 2
    omega
end Go.Vm.St

namespace Go.Vm.St
open Go.Proofs Go.Vm.Vat
set_option linter.unusedSimpArgs false
set_option linter.unusedVariables false
set_option maxRecDepth 10000
variable {n : Nat} {h : AHeap}
end Go.Vm.St

namespace Go.Vm
variable {P : Program} {N : Nat} {f : Fr} {h : AHeap} {ty t u e : TypeId} {x y : Operand}
end Go.Vm
namespace Go.Vm.St
open Go.Proofs Go.Vm.Vat
set_option linter.unusedSimpArgs false
set_option linter.unusedVariables false
set_option maxRecDepth 10000
variable {n : Nat} {h : AHeap}
def s46 : SCode := (.seq (.ops [⟨(some 4), none, .alloc [(.int .i64 (0)), (.int .i64 (0))]⟩]) (.seq (.ops [⟨(some 5), none, .mov (T 0)⟩, ⟨(some 6), none, .mov (T 1)⟩, ⟨(some 7), none, .build #[(0, 1), (1, 1)] [(.int .i64 (0)), (.int .i64 (0))] [0, 1] [(T 5), (T 6)]⟩, ⟨none, none, .store 2 (T 4) (T 7)⟩]) .ret))
theorem fok46 : FnOk Try.prog 46 8 s46 [.cellN 4 2] := ⟨Try.f46, _, Try.func46, rfl, Try.ntmps46, by kernel_rfl, by kernel_rfl⟩
theorem between_c (hn : 1 ≤ n) (hr : h.next + 2 < far) (lo hi : Int) : call n (.func (.func 46) #[] #[]) [.int .i64 lo, .int .i64 hi] h = some (.agg ⟨[.int .i64 lo, .int .i64 hi]⟩, h) := by
  obtain ⟨n, rfl⟩ : ∃ p, n = p + 1 := ⟨n - 1, by omega⟩
  refine call_plain0 fok46 rfl rfl (by simp) rfl ?_
  have hr : h.shutAll.next + 2 < far := hr
  have hfl : h.shutAll.floor ≤ h.shutAll.next := Nat.le_refl _
  generalize h.shutAll = h at hr hfl
  simp only [s46, W_seq, W_ops]
  refine ops_alloc (by omega) rfl fun h2 hx2 => ?_
  have n2 := hx2.next
  have f2 := hx2.floor
  simp only [rn0, rn1, rn2, rn3, rn4, rn5, rn6, rn7, rn8, if_true, if_false, Nat.le_refl, true_and, and_true, decide_true, decide_false, Bool.not_true, Bool.not_false, reduceIte, Nat.reduceEqDiff, Nat.reduceAdd, Nat.reduceMul, Nat.reduceSub, Nat.reduceLeDiff, Nat.reduceLT, build_range]
  refine step_store (vs := [.int .i64 lo, .int .i64 hi]) rfl hx2.get (by omega) (by omega) rfl rfl rfl (by simp) fun h3 hs => ?_
  rw [splice2] at hs
  simp only [rn0, rn1, rn2, rn3, rn4, rn5, rn6, rn7, rn8, if_true, if_false, Nat.le_refl, true_and, and_true, decide_true, decide_false, Bool.not_true, Bool.not_false, reduceIte, Nat.reduceEqDiff, Nat.reduceAdd, Nat.reduceMul, Nat.reduceSub, Nat.reduceLeDiff, Nat.reduceLT, hs.row.whole (n := 2) rfl]
end Go.Vm.St

namespace Go.Vm.St
open Go.Proofs Go.Vm.Vat
set_option linter.unusedSimpArgs false
set_option linter.unusedVariables false
set_option maxRecDepth 10000
variable {n : Nat} {h : AHeap}
def s7 : SCode := (.seq (.ops [⟨(some 1), none, .box (T 0)⟩, ⟨(some 2), none, .mov (.const (.bool false))⟩]) (.seq (.seq (.ops [⟨(some 8), none, .loadN 7 (T 1)⟩, ⟨(some 9), none, .call (.func 23) [(T 8)]⟩, ⟨(some 10), none, .not (T 9)⟩]) (.cond (T 10) (.seq (.ops [⟨(some 11), none, .call (.func 24) []⟩, ⟨(some 2), none, .mov (T 11)⟩]) .ret) .skip)) (.seq (.ops [⟨(some 13), none, .loadN 7 (T 1)⟩, ⟨(some 14), none, .call (.func 26) [(T 13)]⟩, ⟨(some 15), none, .call (.func 47) [(T 14)]⟩, ⟨(some 12), none, .mov (T 15)⟩, ⟨(some 16), none, .extract 0 (T 12)⟩, ⟨(some 17), none, .extract 1 (T 12)⟩, ⟨(some 3), none, .mov (T 16)⟩, ⟨(some 4), none, .mov (T 17)⟩]) (.seq (.ops [⟨(some 19), none, .loadN 7 (T 1)⟩, ⟨(some 20), none, .call (.func 36) [(T 19), (.const (.bool true))]⟩, ⟨(some 18), none, .mov (T 20)⟩, ⟨(some 21), none, .extract 0 (T 18)⟩, ⟨(some 22), none, .extract 1 (T 18)⟩, ⟨(some 5), none, .mov (T 21)⟩, ⟨(some 6), none, .mov (T 22)⟩]) (.seq (.seq (.ops [⟨(some 23), none, .mov (T 6)⟩, ⟨(some 24), none, .int2 .neq (T 23) (.const (.int .i64 (0)))⟩]) (.cond (T 24) (.seq (.ops [⟨(some 25), none, .mov (T 4)⟩, ⟨(some 26), none, .mov (T 6)⟩, ⟨(some 27), none, .int2 .eql (T 25) (T 26)⟩, ⟨(some 28), none, .mov (T 27)⟩, ⟨(some 29), (some (28, true)), .mov (T 3)⟩, ⟨(some 30), (some (28, true)), .int2 .eql (T 29) (.const (.int .i64 (0)))⟩, ⟨(some 31), none, .pick (T 28) (T 30) (.const (.bool false))⟩, ⟨(some 32), none, .mov (T 31)⟩, ⟨(some 33), (some (32, true)), .call (.func 24) []⟩, ⟨(some 34), none, .pick (T 32) (T 33) (.const (.bool false))⟩, ⟨(some 2), none, .mov (T 34)⟩]) .ret) .skip)) (.seq (.seq (.ops [⟨(some 35), none, .loadN 7 (T 1)⟩, ⟨(some 36), none, .mov (T 5)⟩, ⟨(some 37), none, .call (.func 48) [(T 35), (T 36)]⟩, ⟨(some 7), none, .mov (T 37)⟩]) (.seq (.ops [⟨(some 38), none, .mov (T 7)⟩, ⟨(some 39), none, .int2 .geq (T 38) (.const (.int .i64 (0)))⟩]) (.cond (T 39) (.seq (.ops [⟨(some 40), none, .mov (T 4)⟩, ⟨(some 41), none, .int2 .eql (T 40) (.const (.int .i64 (0)))⟩, ⟨(some 42), none, .mov (T 41)⟩, ⟨(some 43), (some (42, true)), .mov (T 3)⟩, ⟨(some 44), (some (42, true)), .mov (T 7)⟩, ⟨(some 45), (some (42, true)), .int2 .eql (T 43) (T 44)⟩, ⟨(some 46), none, .pick (T 42) (T 45) (.const (.bool false))⟩, ⟨(some 47), none, .mov (T 46)⟩, ⟨(some 48), (some (47, true)), .call (.func 24) []⟩, ⟨(some 49), none, .pick (T 47) (T 48) (.const (.bool false))⟩, ⟨(some 2), none, .mov (T 49)⟩]) .ret) .skip))) (.seq (.ops [⟨(some 50), none, .mov (T 4)⟩, ⟨(some 51), none, .int2 .eql (T 50) (.const (.int .i64 (7)))⟩, ⟨(some 52), none, .mov (T 51)⟩, ⟨(some 53), (some (52, true)), .mov (T 3)⟩, ⟨(some 54), (some (52, true)), .int2 .eql (T 53) (.const (.int .i64 (0)))⟩, ⟨(some 55), none, .pick (T 52) (T 54) (.const (.bool false))⟩, ⟨(some 56), none, .mov (T 55)⟩, ⟨(some 57), (some (56, true)), .call (.func 24) []⟩, ⟨(some 58), none, .pick (T 56) (T 57) (.const (.bool false))⟩, ⟨(some 2), none, .mov (T 58)⟩]) .ret)))))))
end Go.Vm.St

namespace Go.Vm.St
open Go.Proofs Go.Vm.Vat
set_option linter.unusedSimpArgs false
set_option linter.unusedVariables false
set_option maxRecDepth 10000
variable {n : Nat} {h : AHeap}
/-! ### The truths of the reference are those of the program, in another order: as many of each kind -/
def noSm (S : MS) : MS := { S with ns := 0 }
theorem noSm_good {S : MS} (hG : Good S) : Good (noSm S) := ⟨⟨hG.lim.1, hG.lim.2.1, Nat.zero_le _⟩, ⟨hG.args.head, hG.args.warm, hG.args.vat, fun i hi => absurd hi (Nat.not_lt_zero _)⟩, hG.few⟩
/-! ### The best smell -/
structure Sm where
  v : Int
  h : Int
  l : Int
end Go.Vm.St

namespace Go.Vm.St
open Go.Proofs Go.Vm.Vat
set_option linter.unusedSimpArgs false
set_option linter.unusedVariables false
set_option maxRecDepth 10000
variable {n : Nat} {h : AHeap}
end Go.Vm.St

namespace Go.Vm.St
open Go.Proofs Go.Vm.Vat
set_option linter.unusedSimpArgs false
set_option linter.unusedVariables false
set_option maxRecDepth 10000
variable {n : Nat} {h : AHeap}
/-! ### The laws' good hours, and whether they stay -/
noncomputable def gL (S : MS) (w : Int) : Int := if goodE S w = 10 then 9 else goodLo S w
noncomputable def gH (S : MS) (w : Int) : Int := if goodE S w = 10 then 0 else goodHi S w
noncomputable def gB (S : MS) (w : Int) : Bool := decide (goodE S w = 10 ∨ goodE S w = 0 ∧ goodLo S w ≤ goodHi S w)
theorem rd_1' {S : Nat → Prop} {f : Go.Vm.Fr} {x : Operand} : readsIn S f (.load1 x) = ∀ ad, val f x = .pointer (some ad) → S ad.block := id rfl
def s61 : SCode := (.seq (.ops [⟨(some 2), none, .box (T 0)⟩, ⟨(some 4), none, .alloc [(.int .i64 (0)), (.int .i64 (0))]⟩, ⟨(some 5), none, .mov (.const (.bool false))⟩]) (.seq (.ops [⟨(some 9), none, .loadN 7 (T 2)⟩, ⟨(some 10), none, .call (.func 26) [(T 9)]⟩, ⟨(some 11), none, .mov (T 1)⟩, ⟨(some 12), none, .call (.func 44) [(T 10), (T 11)]⟩, ⟨(some 8), none, .mov (T 12)⟩, ⟨(some 13), none, .extract 0 (T 8)⟩, ⟨(some 14), none, .extract 1 (T 8)⟩, ⟨(some 6), none, .alloc [(.int .i64 (0)), (.int .i64 (0))]⟩, ⟨none, none, .store 2 (T 6) (T 13)⟩, ⟨(some 7), none, .mov (T 14)⟩]) (.seq (.seq (.ops [⟨(some 15), none, .mov (T 7)⟩, ⟨(some 16), none, .int2 .eql (T 15) (.const (.int .i64 (10)))⟩]) (.cond (T 16) (.seq (.ops [⟨(some 17), none, .call (.func 46) [(.const (.int .i64 (9))), (.const (.int .i64 (0)))]⟩, ⟨none, none, .store 2 (T 4) (T 17)⟩, ⟨(some 5), none, .mov (.const (.bool true))⟩]) .ret) .skip)) (.seq (.draw [⟨.rd1, ⟨(some 18), none, .loadN 2 (T 6)⟩⟩, ⟨.free, ⟨(some 19), none, .mov (T 7)⟩⟩, ⟨.free, ⟨(some 20), none, .int2 .eql (T 19) (.const (.int .i64 (0)))⟩⟩, ⟨.free, ⟨(some 21), none, .mov (T 20)⟩⟩, ⟨.free, ⟨(some 22), (some (21, true)), .fieldAddr 0 (T 6)⟩⟩, ⟨.rd, ⟨(some 23), (some (21, true)), .load1 (T 22)⟩⟩, ⟨.free, ⟨(some 24), (some (21, true)), .fieldAddr 1 (T 6)⟩⟩, ⟨.rd, ⟨(some 25), (some (21, true)), .load1 (T 24)⟩⟩, ⟨.free, ⟨(some 26), (some (21, true)), .int2 .leq (T 23) (T 25)⟩⟩, ⟨.free, ⟨(some 27), none, .pick (T 21) (T 26) (.const (.bool false))⟩⟩, ⟨.up, ⟨none, none, .store 2 (T 4) (T 18)⟩⟩, ⟨.free, ⟨(some 5), none, .mov (T 27)⟩⟩]) .ret))))
theorem fok61 : FnOk Try.prog 61 28 s61 [.cellN 4 2, .tmp 5] := ⟨Try.f61, _, Try.func61, rfl, Try.ntmps61, by kernel_rfl, by kernel_rfl⟩
set_option maxHeartbeats 2000000 in
theorem goodW_c (hn : 2600 ≤ n) (hr : h.next + 2000000 < far) {wv vv sv : Value} {S : MS} (hy : SteepR h wv vv sv S) (hT : ThinS S) (w : Int) :
    call n (.func (.func 61) #[] #[]) [.agg ⟨stL S wv vv sv⟩, .int .i64 w] h = some (.tuple ⟨[.agg ⟨[.int .i64 (gL S w), .int .i64 (gH S w)]⟩, .bool (gB S w)]⟩, h) := by
  obtain ⟨n, rfl⟩ : ∃ p, n = p + 1 := ⟨n - 1, by omega⟩
  refine call_plain0 fok61 rfl rfl (by simp) rfl ?_
  have hy := hy.shut
  have hr : h.shutAll.next + 2000000 < far := hr
  have hfl : h.shutAll.floor ≤ h.shutAll.next := Nat.le_refl _
  generalize h.shutAll = h at hy hr hfl
  simp only [s61, W_seq, W_ops]
  refine ops_box (cs := stL S wv vv sv) (by omega) rfl hy.one fun g1 hx1 => ?_
  have n1 := hx1.next
  have f1 := hx1.floor
  refine ops_alloc (cs := [.int .i64 0, .int .i64 0]) (by omega) rfl fun g2 hx2 => ?_
  have n2 := hx2.next
  have f2 := hx2.floor
  have sub2 : Sub All h g2 := hx1.sub.trans hx2.sub
  have hy2 := hy.mono sub2
  have w2 := (hx1.row.mono hx2.sub).whole (n := 7) rfl
  obtain ⟨w3, v3, s3, g3, e3, hy3, o3, u3, m3, f3⟩ := steepL_c (n := n) (h := g2) (by omega) (by omega) (by omega) hy2 hT
  have eg := goodP_c (n := n) (h := g3) (by omega) (by omega) hy3 hT w
  have q3 : g3.get g1.next = some (.row [.int .i64 0, .int .i64 0] true 0) := by rw [o3 _ (by omega)]; exact hx2.get
  simp only [rn0, rn1, rn2, rn3, rn4, rn5, rn6, rn7, rn8, if_true, if_false, Nat.le_refl, true_and, and_true, decide_true, decide_false, Bool.not_true, Bool.not_false, reduceIte, Nat.reduceEqDiff, Nat.reduceAdd, Nat.reduceMul, Nat.reduceSub, Nat.reduceLeDiff, Nat.reduceLT, w2, e3, eg, ex0, ex1]
  refine step_new (vs := [.int .i64 (goodLo S w), .int .i64 (goodHi S w)]) (by omega) (by omega) rfl (by simp only [rn0, rn1, rn2, rn3, rn4, rn5, rn6, rn7, rn8, if_true, if_false, Nat.le_refl, true_and, and_true, decide_true, decide_false, Bool.not_true, Bool.not_false, reduceIte, Nat.reduceEqDiff, Nat.reduceAdd, Nat.reduceMul, Nat.reduceSub, Nat.reduceLeDiff, Nat.reduceLT]; rfl) rfl rfl rfl fun g4 hx4 => ?_
  have n4 := hx4.next
  have f4 := hx4.floor
  have q4 : g4.get g1.next = some (.row [.int .i64 0, .int .i64 0] true 0) := by rw [hx4.old _ (by omega)]; exact q3
  by_cases c : goodE S w = 10
  · have e1 : gL S w = 9 := if_pos c
    have e2 : gH S w = 0 := if_pos c
    have e3 : gB S w = true := decide_eq_true (.inl c)
    rw [e1, e2, e3]
    have eb := between_c (n := n) (h := g4) (by omega) (by omega) 9 0
    simp only [rn0, rn1, rn2, rn3, rn4, rn5, rn6, rn7, rn8, if_true, if_false, Nat.le_refl, true_and, and_true, decide_true, decide_false, Bool.not_true, Bool.not_false, reduceIte, Nat.reduceEqDiff, Nat.reduceAdd, Nat.reduceMul, Nat.reduceSub, Nat.reduceLeDiff, Nat.reduceLT, c, eb]
    refine step_store (b := g1.next) (off := 0) (vs := [.int .i64 9, .int .i64 0]) rfl q4 (by omega) (by omega) rfl rfl rfl (by simp) fun g5 hs5 => ?_
    rw [splice_all (by rfl)] at hs5
    simp only [rn0, rn1, rn2, rn3, rn4, rn5, rn6, rn7, rn8, if_true, if_false, Nat.le_refl, true_and, and_true, decide_true, decide_false, Bool.not_true, Bool.not_false, reduceIte, Nat.reduceEqDiff, Nat.reduceAdd, Nat.reduceMul, Nat.reduceSub, Nat.reduceLeDiff, Nat.reduceLT, res_two, hs5.row.whole (n := 2) rfl]
  · have e1 : gL S w = goodLo S w := if_neg c
    have e2 : gH S w = goodHi S w := if_neg c
    have nb : (g3.next = g1.next) = False := eq_false (by omega)
    have t4 := hx4.row
    rw [e1, e2]
    by_cases c0 : goodE S w = 0
    · have e3 : gB S w = decide (goodLo S w ≤ goodHi S w) := by
        unfold gB
        exact decide_eq_decide.2 ⟨fun q => q.elim (fun q => absurd q c) fun q => q.2, fun q => .inr ⟨c0, q⟩⟩
      rw [e3]
      have z10 : ¬ (0 : Int) = 10 := by decide
      simp only [rn0, rn1, rn2, rn3, rn4, rn5, rn6, rn7, rn8, if_true, if_false, Nat.le_refl, true_and, and_true, decide_true, decide_false, Bool.not_true, Bool.not_false, reduceIte, Nat.reduceEqDiff, Nat.reduceAdd, Nat.reduceMul, Nat.reduceSub, Nat.reduceLeDiff, Nat.reduceLT, c0, z10]
      refine W_draw (fun i => i ≠ g1.next) ?_
      simp only [rn0, rn1, rn2, rn3, rn4, rn5, rn6, rn7, rn8, if_true, if_false, Nat.le_refl, true_and, and_true, decide_true, decide_false, Bool.not_true, Bool.not_false, reduceIte, Nat.reduceEqDiff, Nat.reduceAdd, Nat.reduceMul, Nat.reduceSub, Nat.reduceLeDiff, Nat.reduceLT, rd_1', rd_N, rd_ne, t4.whole (n := 2) rfl, t4.ld, Nat.zero_add, List.getElem?_cons_zero, List.getElem?_cons_succ, d_guard, dg_tt, dg_tf, dg_ft, dg_ff, ne_eq, nb, not_false_eq_true]
      refine up_store (b := g1.next) (off := 0) (vs := [.int .i64 (goodLo S w), .int .i64 (goodHi S w)]) rfl q4 (by omega) (by omega) rfl rfl rfl (by simp) (fun g hs => fun i cs w gr hi hg => by rw [hs.old i hi]; exact hg) fun g5 hs5 => ?_
      rw [splice_all (by rfl)] at hs5
      simp only [rn0, rn1, rn2, rn3, rn4, rn5, rn6, rn7, rn8, if_true, if_false, Nat.le_refl, true_and, and_true, decide_true, decide_false, Bool.not_true, Bool.not_false, reduceIte, Nat.reduceEqDiff, Nat.reduceAdd, Nat.reduceMul, Nat.reduceSub, Nat.reduceLeDiff, Nat.reduceLT, res_two, hs5.row.whole (n := 2) rfl]
    · have e3 : gB S w = false := decide_eq_false fun q => q.elim (fun q => c q) fun q => c0 q.1
      rw [e3]
      simp only [rn0, rn1, rn2, rn3, rn4, rn5, rn6, rn7, rn8, if_true, if_false, Nat.le_refl, true_and, and_true, decide_true, decide_false, Bool.not_true, Bool.not_false, reduceIte, Nat.reduceEqDiff, Nat.reduceAdd, Nat.reduceMul, Nat.reduceSub, Nat.reduceLeDiff, Nat.reduceLT, c]
      refine W_draw (fun i => i ≠ g1.next) ?_
      simp only [rn0, rn1, rn2, rn3, rn4, rn5, rn6, rn7, rn8, if_true, if_false, Nat.le_refl, true_and, and_true, decide_true, decide_false, Bool.not_true, Bool.not_false, reduceIte, Nat.reduceEqDiff, Nat.reduceAdd, Nat.reduceMul, Nat.reduceSub, Nat.reduceLeDiff, Nat.reduceLT, rd_1', rd_N, rd_ne, t4.whole (n := 2) rfl, t4.ld, Nat.zero_add, List.getElem?_cons_zero, List.getElem?_cons_succ, d_guard, dg_tt, dg_tf, dg_ft, dg_ff, ne_eq, nb, not_false_eq_true, c0]
      refine up_store (b := g1.next) (off := 0) (vs := [.int .i64 (goodLo S w), .int .i64 (goodHi S w)]) rfl q4 (by omega) (by omega) rfl rfl rfl (by simp) (fun g hs => fun i cs w gr hi hg => by rw [hs.old i hi]; exact hg) fun g5 hs5 => ?_
      rw [splice_all (by rfl)] at hs5
      simp only [rn0, rn1, rn2, rn3, rn4, rn5, rn6, rn7, rn8, if_true, if_false, Nat.le_refl, true_and, and_true, decide_true, decide_false, Bool.not_true, Bool.not_false, reduceIte, Nat.reduceEqDiff, Nat.reduceAdd, Nat.reduceMul, Nat.reduceSub, Nat.reduceLeDiff, Nat.reduceLT, res_two, hs5.row.whole (n := 2) rfl]
theorem g_un {X : Cx} {d : Option Nat} {want : Bool} {op : SOp} {L : List SI} {Q : WPost} {f : Go.Vm.Fr} {m : List Nat} : gW X undef want d op L Q f h m = opsW X L Q (putF f d undef) h m := by
  have : isB want undef = false := rfl
  simp [gW, this]
noncomputable def stayB (S X : MS) (w : Int) : Bool := gB S w && (gB X w && (decide (gH S w < gL S w) || (decide (gL X w ≤ gL S w) && decide (gH S w ≤ gH X w))))
def s67 : SCode := (.seq (.ops [⟨(some 3), none, .box (T 0)⟩, ⟨(some 4), none, .box (T 1)⟩, ⟨(some 6), none, .mov (.const (.bool false))⟩]) (.seq (.ops [⟨(some 12), none, .loadN 7 (T 3)⟩, ⟨(some 13), none, .mov (T 2)⟩, ⟨(some 14), none, .call (.func 61) [(T 12), (T 13)]⟩, ⟨(some 11), none, .mov (T 14)⟩, ⟨(some 15), none, .extract 0 (T 11)⟩, ⟨(some 16), none, .extract 1 (T 11)⟩, ⟨(some 7), none, .alloc [(.int .i64 (0)), (.int .i64 (0))]⟩, ⟨none, none, .store 2 (T 7) (T 15)⟩, ⟨(some 8), none, .mov (T 16)⟩]) (.seq (.ops [⟨(some 18), none, .loadN 7 (T 4)⟩, ⟨(some 19), none, .mov (T 2)⟩, ⟨(some 20), none, .call (.func 61) [(T 18), (T 19)]⟩, ⟨(some 17), none, .mov (T 20)⟩, ⟨(some 21), none, .extract 0 (T 17)⟩, ⟨(some 22), none, .extract 1 (T 17)⟩, ⟨(some 9), none, .alloc [(.int .i64 (0)), (.int .i64 (0))]⟩, ⟨none, none, .store 2 (T 9) (T 21)⟩, ⟨(some 10), none, .mov (T 22)⟩]) (.seq (.ops [⟨(some 23), none, .mov (T 8)⟩, ⟨(some 24), none, .mov (T 23)⟩, ⟨(some 25), (some (24, true)), .mov (T 10)⟩, ⟨(some 26), none, .pick (T 24) (T 25) (.const (.bool false))⟩, ⟨(some 27), none, .mov (T 26)⟩, ⟨(some 28), (some (27, true)), .fieldAddr 0 (T 7)⟩, ⟨(some 29), (some (27, true)), .load1 (T 28)⟩, ⟨(some 30), (some (27, true)), .fieldAddr 1 (T 7)⟩, ⟨(some 31), (some (27, true)), .load1 (T 30)⟩, ⟨(some 32), (some (27, true)), .int2 .gtr (T 29) (T 31)⟩, ⟨(some 33), (some (27, true)), .mov (T 32)⟩, ⟨(some 34), (some (33, false)), .fieldAddr 0 (T 7)⟩, ⟨(some 35), (some (33, false)), .load1 (T 34)⟩, ⟨(some 36), (some (33, false)), .fieldAddr 0 (T 9)⟩, ⟨(some 37), (some (33, false)), .load1 (T 36)⟩, ⟨(some 38), (some (33, false)), .int2 .geq (T 35) (T 37)⟩, ⟨(some 39), (some (33, false)), .mov (T 38)⟩, ⟨(some 40), (some (39, true)), .fieldAddr 1 (T 7)⟩, ⟨(some 41), (some (39, true)), .load1 (T 40)⟩, ⟨(some 42), (some (39, true)), .fieldAddr 1 (T 9)⟩, ⟨(some 43), (some (39, true)), .load1 (T 42)⟩, ⟨(some 44), (some (39, true)), .int2 .leq (T 41) (T 43)⟩, ⟨(some 45), (some (33, false)), .pick (T 39) (T 44) (.const (.bool false))⟩, ⟨(some 46), (some (27, true)), .pick (T 33) (.const (.bool true)) (T 45)⟩, ⟨(some 47), none, .pick (T 27) (T 46) (.const (.bool false))⟩, ⟨(some 6), none, .mov (T 47)⟩]) .ret))))
theorem fok67 : FnOk Try.prog 67 48 s67 [.tmp 6] := ⟨Try.f67, _, Try.func67, rfl, Try.ntmps67, by kernel_rfl, by kernel_rfl⟩
set_option maxHeartbeats 2000000 in
theorem stay_c (hn : 2700 ≤ n) (hr : h.next + 2100000 < far) {wv vv sv wv' vv' sv' : Value} {S X : MS} (hy : SteepR h wv vv sv S) (hT : ThinS S) (hx : SteepR h wv' vv' sv' X) (hT' : ThinS X) (w : Int) :
    call n (.func (.func 67) #[] #[]) [.agg ⟨stL S wv vv sv⟩, .agg ⟨stL X wv' vv' sv'⟩, .int .i64 w] h = some (.bool (stayB S X w), h) := by
  obtain ⟨n, rfl⟩ : ∃ p, n = p + 1 := ⟨n - 1, by omega⟩
  refine call_plain0 fok67 rfl rfl (by simp) rfl ?_
  have hy := hy.shut
  have hx := hx.shut
  have hr : h.shutAll.next + 2100000 < far := hr
  have hfl : h.shutAll.floor ≤ h.shutAll.next := Nat.le_refl _
  generalize h.shutAll = h at hy hx hr hfl
  simp only [s67, W_seq, W_ops]
  refine ops_box (cs := stL S wv vv sv) (by omega) rfl hy.one fun g1 hx1 => ?_
  have n1 := hx1.next
  have f1 := hx1.floor
  refine ops_box (cs := stL X wv' vv' sv') (by omega) rfl hx.one fun g2 hx2 => ?_
  have n2 := hx2.next
  have f2 := hx2.floor
  have sub2 : Sub All h g2 := hx1.sub.trans hx2.sub
  have eg := goodW_c (n := n) (h := g2) (by omega) (by omega) (hy.mono sub2) hT w
  simp only [rn0, rn1, rn2, rn3, rn4, rn5, rn6, rn7, rn8, if_true, if_false, Nat.le_refl, true_and, and_true, decide_true, decide_false, Bool.not_true, Bool.not_false, reduceIte, Nat.reduceEqDiff, Nat.reduceAdd, Nat.reduceMul, Nat.reduceSub, Nat.reduceLeDiff, Nat.reduceLT, (hx1.row.mono hx2.sub).whole (n := 7) rfl, eg, ex0, ex1]
  refine step_new (vs := [.int .i64 (gL S w), .int .i64 (gH S w)]) (by omega) (by omega) rfl (by simp only [rn0, rn1, rn2, rn3, rn4, rn5, rn6, rn7, rn8, if_true, if_false, Nat.le_refl, true_and, and_true, decide_true, decide_false, Bool.not_true, Bool.not_false, reduceIte, Nat.reduceEqDiff, Nat.reduceAdd, Nat.reduceMul, Nat.reduceSub, Nat.reduceLeDiff, Nat.reduceLT]; rfl) rfl rfl rfl fun g3 hx3 => ?_
  have n3 := hx3.next
  have f3 := hx3.floor
  have sub3 := sub2.trans hx3.sub
  have eg3 := goodW_c (n := n) (h := g3) (by omega) (by omega) (hx.mono sub3) hT' w
  simp only [rn0, rn1, rn2, rn3, rn4, rn5, rn6, rn7, rn8, if_true, if_false, Nat.le_refl, true_and, and_true, decide_true, decide_false, Bool.not_true, Bool.not_false, reduceIte, Nat.reduceEqDiff, Nat.reduceAdd, Nat.reduceMul, Nat.reduceSub, Nat.reduceLeDiff, Nat.reduceLT, (hx2.row.mono hx3.sub).whole (n := 7) rfl, eg3, ex0, ex1]
  refine step_new (vs := [.int .i64 (gL X w), .int .i64 (gH X w)]) (by omega) (by omega) rfl (by simp only [rn0, rn1, rn2, rn3, rn4, rn5, rn6, rn7, rn8, if_true, if_false, Nat.le_refl, true_and, and_true, decide_true, decide_false, Bool.not_true, Bool.not_false, reduceIte, Nat.reduceEqDiff, Nat.reduceAdd, Nat.reduceMul, Nat.reduceSub, Nat.reduceLeDiff, Nat.reduceLT]; rfl) rfl rfl rfl fun g4 hx4 => ?_
  have ta := hx3.row.mono hx4.sub
  have tb := hx4.row
  unfold stayB
  generalize gL S w = aL at *
  generalize gH S w = aH at *
  generalize gL X w = bL at *
  generalize gH X w = bH at *
  cases gB S w with
  | false => simp only [rn0, rn1, rn2, rn3, rn4, rn5, rn6, rn7, rn8, if_true, if_false, Nat.le_refl, true_and, and_true, decide_true, decide_false, Bool.not_true, Bool.not_false, reduceIte, Nat.reduceEqDiff, Nat.reduceAdd, Nat.reduceMul, Nat.reduceSub, Nat.reduceLeDiff, Nat.reduceLT, Bool.false_and, g_un]
  | true =>
    cases gB X w with
    | false => simp only [rn0, rn1, rn2, rn3, rn4, rn5, rn6, rn7, rn8, if_true, if_false, Nat.le_refl, true_and, and_true, decide_true, decide_false, Bool.not_true, Bool.not_false, reduceIte, Nat.reduceEqDiff, Nat.reduceAdd, Nat.reduceMul, Nat.reduceSub, Nat.reduceLeDiff, Nat.reduceLT, Bool.false_and, Bool.and_false, g_un]
    | true =>
      by_cases c1 : aH < aL
      · simp only [rn0, rn1, rn2, rn3, rn4, rn5, rn6, rn7, rn8, if_true, if_false, Nat.le_refl, true_and, and_true, decide_true, decide_false, Bool.not_true, Bool.not_false, reduceIte, Nat.reduceEqDiff, Nat.reduceAdd, Nat.reduceMul, Nat.reduceSub, Nat.reduceLeDiff, Nat.reduceLT, ta.ld, tb.ld, Nat.zero_add, List.getElem?_cons_zero, List.getElem?_cons_succ, g_un, c1, Bool.true_and, Bool.true_or]
      · by_cases c2 : bL ≤ aL
        · simp only [rn0, rn1, rn2, rn3, rn4, rn5, rn6, rn7, rn8, if_true, if_false, Nat.le_refl, true_and, and_true, decide_true, decide_false, Bool.not_true, Bool.not_false, reduceIte, Nat.reduceEqDiff, Nat.reduceAdd, Nat.reduceMul, Nat.reduceSub, Nat.reduceLeDiff, Nat.reduceLT, ta.ld, tb.ld, Nat.zero_add, List.getElem?_cons_zero, List.getElem?_cons_succ, g_un, c1, c2, Bool.true_and, Bool.false_or]
        · simp only [rn0, rn1, rn2, rn3, rn4, rn5, rn6, rn7, rn8, if_true, if_false, Nat.le_refl, true_and, and_true, decide_true, decide_false, Bool.not_true, Bool.not_false, reduceIte, Nat.reduceEqDiff, Nat.reduceAdd, Nat.reduceMul, Nat.reduceSub, Nat.reduceLeDiff, Nat.reduceLT, ta.ld, tb.ld, Nat.zero_add, List.getElem?_cons_zero, List.getElem?_cons_succ, g_un, c1, c2, Bool.true_and, Bool.false_or, Bool.false_and]
theorem gAll_nil {S : MS} {v : Nat} : gAll S v = [] ↔ ∀ x, x < hoursN S v → ¬ verdS S v (S.vb v + (x : Int)) 1 (truthsS S) = 1 := by
  constructor
  · intro e x hx hp
    obtain ⟨i, i1, _⟩ := pick_has (p := fun i => verdS S v (S.vb v + (i : Int)) 1 (truthsS S) = 1) hx hp
    have i1 : i < (gAll S v).length := i1
    rw [e] at i1
    exact absurd i1 (Nat.not_lt_zero _)
  · intro hn
    apply Classical.byContradiction
    intro he
    have hpos : 0 < (gAll S v).length := List.length_pos_iff.2 he
    obtain ⟨j, j1, _, j3⟩ := pick_at (p := fun i => verdS S v (S.vb v + (i : Int)) 1 (truthsS S) = 1) (k := hoursN S v) (i := 0) hpos
    exact hn j j1 j3
/-- good hours stay good -/
theorem stay_of {S X : MS} (hG : Good S) (hX : Good X) {w : Nat} (hw : w < S.nv) (hw' : w < X.nv) (hz : truthsS S ≠ []) (hz' : truthsS X ≠ []) (hb : X.vb w = S.vb w) (hl : hoursN X w = hoursN S w)
    (hs : ∀ x : Nat, x < hoursN S w → verdS S w (S.vb w + (x : Int)) 1 (truthsS S) = 1 → verdS X w (S.vb w + (x : Int)) 1 (truthsS X) = 1) : stayB S X (w : Int) = true := by
  have hv : InV S (w : Int) := by unfold InV; omega
  have hv' : InV X (w : Int) := by unfold InV; omega
  obtain ⟨a1, a2, a3⟩ := good_ok (errV_4 (fault_of hG) hv hz)
  obtain ⟨b1, b2, b3⟩ := good_ok (errV_4 (fault_of hX) hv' hz')
  simp only [Int.toNat_natCast] at a1 a2 a3 b1 b2 b3
  have z10 : ¬ (0 : Int) = 10 := by decide
  have hB : ∀ {Y : MS}, Good Y → w < Y.nv → truthsS Y ≠ [] → gB Y (w : Int) = true := fun {Y} hY hwY hzY => by
    obtain ⟨a1, a2, a3⟩ := good_ok (S := Y) (at_ := (w : Int)) (errV_4 (fault_of hY) (by unfold InV; omega) hzY)
    simp only [Int.toNat_natCast] at a1 a2 a3
    refine decide_eq_true ?_
    by_cases c : gAll Y w = []
    · left; rw [a1, if_pos c]
    · right
      obtain ⟨a, l1, l2, l3, l4, _⟩ := gAll_run hY hwY hzY c
      rw [a1, if_neg c, a2, a3, l3, l4]
      exact ⟨rfl, by omega⟩
  unfold stayB
  rw [hB hG hw hz, hB hX hw' hz', Bool.true_and, Bool.true_and]
  by_cases c : gAll S w = []
  · have e : goodE S (w : Int) = 10 := by rw [a1, if_pos c]
    have e1 : gL S (w : Int) = 9 := if_pos e
    have e2 : gH S (w : Int) = 0 := if_pos e
    rw [e1, e2]
    rfl
  · obtain ⟨a, l1, l2, l3, l4, l5⟩ := gAll_run hG hw hz c
    have e : ¬ goodE S (w : Int) = 10 := by rw [a1, if_neg c]; exact z10
    have e1 : gL S (w : Int) = S.vb w + (a : Int) := by unfold gL; rw [if_neg e, a2, l3]
    have e2 : gH S (w : Int) = S.vb w + ((a + (gAll S w).length - 1 : Nat) : Int) := by unfold gH; rw [if_neg e, a3, l4]
    have x1 := hs a (by omega) ((l5 a (by omega)).2 ⟨Nat.le_refl _, by omega⟩)
    have x2 := hs (a + (gAll S w).length - 1) (by omega) ((l5 _ (by omega)).2 ⟨by omega, by omega⟩)
    have c' : gAll X w ≠ [] := fun q => gAll_nil.1 q a (by omega) (by rw [hb]; exact x1)
    obtain ⟨a', m1, m2, m3, m4, m5⟩ := gAll_run hX hw' hz' c'
    have y1 := (m5 a (by omega)).1 (by rw [hb]; exact x1)
    have y2 := (m5 (a + (gAll S w).length - 1) (by omega)).1 (by rw [hb]; exact x2)
    have e' : ¬ goodE X (w : Int) = 10 := by rw [b1, if_neg c']; exact z10
    have f1 : gL X (w : Int) = S.vb w + (a' : Int) := by unfold gL; rw [if_neg e', b2, m3, hb]
    have f2 : gH X (w : Int) = S.vb w + ((a' + (gAll X w).length - 1 : Nat) : Int) := by unfold gH; rw [if_neg e', b3, m4, hb]
    rw [e1, e2, f1, f2]
    have d2 : decide (S.vb w + (a' : Int) ≤ S.vb w + (a : Int)) = true := decide_eq_true (by omega)
    have d3 : decide (S.vb w + ((a + (gAll S w).length - 1 : Nat) : Int) ≤ S.vb w + ((a' + (gAll X w).length - 1 : Nat) : Int)) = true := decide_eq_true (by omega)
    rw [d2, d3, Bool.true_and, Bool.or_true]
end Go.Vm.St

namespace Go.Vm.St
open Go.Proofs Go.Vm.Vat
set_option linter.unusedSimpArgs false
set_option linter.unusedVariables false
set_option maxRecDepth 10000
variable {n : Nat} {h : AHeap}
/-! ### A vat that needs less, and leaves that spoil later -/
theorem noS_truth {S : MS} (hG : Good S) (h0 : S.ns = 0) : truthsS S ≠ [] := by
  intro e
  have hm : (fun j => if j < numU S then uLo S j else 0) ∈ truthsS S := truths_mem.2 ⟨⟨fun i hi => by
    have := hG.u i hi
    simp only [hi, if_true]
    omega, fun j hj => if_neg (by omega)⟩, fun k hk => absurd hk (by omega)⟩
  rw [e] at hm
  cases hm
theorem sizeN_mono {lo hi lo' hi' : Nat → Int} : ∀ m, (∀ k, k < m → lo k ≤ lo' k ∧ hi' k ≤ hi k ∧ lo' k ≤ hi' k) → sizeN lo' hi' m ≤ sizeN lo hi m
  | 0, _ => Int.le_refl _
  | m + 1, h => by
    have ih := sizeN_mono m fun k hk => h k (by omega)
    obtain ⟨h1, h2, h3⟩ := h m (by omega)
    have hp := sizeN_pos (lo := lo) (hi := hi) m fun k hk => by have := h k (by omega); omega
    simp only [sizeN]
    exact Int.mul_le_mul ih (by omega) (by omega) (by omega)
def lessY (S : MS) (k : Nat) (x : Int) : MS := { noSm S with vn := fun i => if i = k then x else S.vn i }
def lessZ (S : MS) (x : Int) : MS := { noSm S with splo := x }
theorem lessY_good {S : MS} (hG : Good S) {k : Nat} {x : Int} (hx : 0 ≤ x ∧ x ≤ 99) : Good (lessY S k x) := by
  refine ⟨⟨hG.lim.1, hG.lim.2.1, Nat.zero_le _⟩, ⟨hG.args.head, hG.args.warm, fun i hi => ?_, fun i hi => absurd hi (Nat.not_lt_zero _)⟩, hG.few⟩
  have hv := hG.args.vat i hi
  refine ⟨hv.1, hv.2.1, ?_⟩
  show 0 ≤ (if i = k then x else S.vn i) ∧ (if i = k then x else S.vn i) ≤ 99
  by_cases c : i = k
  · rw [if_pos c]; exact hx
  · rw [if_neg c]; exact hv.2.2
theorem lessZ_u {S : MS} {x : Int} {i : Nat} : uLo (lessZ S x) i = (if i = S.nw then x else uLo S i) ∧ uHi (lessZ S x) i = uHi S i := by
  constructor
  · simp only [uLo, lessZ, noSm]
    by_cases c1 : i < S.nw
    · have : ¬ i = S.nw := by omega
      simp only [c1, this, if_true, if_false]
    · by_cases c2 : i = S.nw
      · simp only [c2, Nat.lt_irrefl, if_true, if_false]
      · simp only [c1, c2, if_false]
  · rfl
theorem lessZ_good {S : MS} (hG : Good S) {x : Int} (h1 : S.splo ≤ x) (h2 : x ≤ S.sphi) : Good (lessZ S x) := by
  obtain ⟨a1, a2, a3, a4, a5, a6⟩ := hG.args.head
  have hA : ArgsOk (lessZ S x) := ⟨⟨a1, a2, a3, Int.le_trans a4 h1, h2, a6⟩, hG.args.warm, hG.args.vat, fun i hi => absurd hi (Nat.not_lt_zero _)⟩
  refine ⟨⟨hG.lim.1, hG.lim.2.1, Nat.zero_le _⟩, hA, ?_⟩
  have e1 := many_size hA
  have e2 := many_size hG.args
  have h3 := hG.few
  have hm := sizeN_mono (lo := uLo S) (hi := uHi S) (lo' := uLo (lessZ S x)) (hi' := uHi (lessZ S x)) (numU S) fun k hk => by
    have := hG.u k hk
    rw [lessZ_u.1, lessZ_u.2]
    by_cases c : k = S.nw
    · have q1 : uLo S k = S.splo := by rw [c]; simp [uLo]
      have q2 : uHi S k = S.sphi := by rw [c]; simp [uHi]
      rw [if_pos c, q1, q2]
      omega
    · rw [if_neg c]; omega
  have e3 : numU (lessZ S x) = numU S := rfl
  rw [e3] at e1
  omega
theorem lessY_stay {S : MS} (hG : Good S) {k : Nat} {x : Int} (hk : k < S.nv) (h0 : 0 ≤ x) (h1 : x ≤ S.vn k) : stayB (noSm S) (lessY S k x) (k : Int) = true := by
  have hv := (hG.args.vat k hk).2.2
  have hX := noSm_good hG
  have hY := lessY_good (k := k) hG (x := x) ⟨h0, by omega⟩
  have hzX := noS_truth hX rfl
  have hzY := noS_truth hY rfl
  refine stay_of hX hY hk hk hzX hzY rfl rfl fun y hy hv => ?_
  rw [verd_one hzX] at hv
  rw [verd_one hzY]
  intro t ht
  have ht' : t ∈ truthsS (noSm S) := truths_mem.2 ⟨(truths_mem.1 ht).1, fun i hi => absurd hi (Nat.not_lt_zero _)⟩
  have hk1 := hv t ht'
  show kindS (lessY S k x) t k _ = 1
  unfold kindS at hk1 ⊢
  have e1 : (lessY S k x).vn k = x := if_pos rfl
  have e2 : (noSm S).vn k = S.vn k := rfl
  have e3 : ∀ z, warmS (lessY S k x) t k z = warmS (noSm S) t k z := fun z => rfl
  have e4 : ∀ z, blueS (lessY S k x) t k z = blueS (noSm S) t k z := fun z => rfl
  have e5 : (lessY S k x).nw = (noSm S).nw := rfl
  rw [e1, e3, e4, e5]
  rw [e2] at hk1
  by_cases c1 : t (noSm S).nw < warmS (noSm S) t k ((noSm S).vb k + (y : Int))
  · rw [if_pos c1] at hk1; omega
  · rw [if_neg c1] at hk1 ⊢
    by_cases c2 : blueS (noSm S) t k ((noSm S).vb k + (y : Int)) < S.vn k
    · rw [if_pos c2] at hk1; omega
    · rw [if_neg (by omega)]
theorem lessZ_stay {S : MS} (hG : Good S) {k : Nat} {x : Int} (hk : k < S.nv) (h1 : S.splo ≤ x) (h2 : x ≤ S.sphi) : stayB (noSm S) (lessZ S x) (k : Int) = true := by
  have hX := noSm_good hG
  have hZ := lessZ_good hG h1 h2
  have hzX := noS_truth hX rfl
  have hzZ := noS_truth hZ rfl
  refine stay_of hX hZ hk hk hzX hzZ rfl rfl fun y hy hv => ?_
  rw [verd_one hzX] at hv
  rw [verd_one hzZ]
  intro t ht
  obtain ⟨⟨t1, t2⟩, _⟩ := truths_mem.1 ht
  have ht' : t ∈ truthsS (noSm S) := truths_mem.2 ⟨⟨fun i hi => by
    have := t1 i hi
    rw [lessZ_u.1, lessZ_u.2] at this
    show uLo S i ≤ t i ∧ t i ≤ uHi S i
    by_cases c : i = S.nw
    · have q1 : uLo S i = S.splo := by rw [c]; simp [uLo]
      rw [if_pos c] at this
      omega
    · rw [if_neg c] at this; exact this, t2⟩, fun i hi => absurd hi (Nat.not_lt_zero _)⟩
  exact hv t ht'
theorem vatC_need {S : MS} {k : Nat} {x : Int} (hk : k < S.nv) : splice (flatL 4 S.nv (vatC S)) (k * 4 + 3) [.int .i64 x] = flatL 4 S.nv (vatC (lessY S k x)) := by
  unfold flatL
  refine map_splice (by simp; omega) (fun i hi hc => ?_) (fun j hj => ?_)
  · simp only [List.length_cons, List.length_nil] at hc
    simp only [vatC, lessY, noSm]
    have hlt : i % 4 < 4 := Nat.mod_lt _ (by omega)
    by_cases c : i / 4 = k
    · have h3 : i % 4 = 0 ∨ i % 4 = 1 ∨ i % 4 = 2 := by omega
      rcases h3 with h3 | h3 | h3 <;> simp [h3]
    · simp [c]
  · simp only [List.length_cons, List.length_nil] at hj
    obtain rfl : j = 0 := by omega
    have e1 : (k * 4 + 3 + 0) / 4 = k := by omega
    have e2 : (k * 4 + 3 + 0) % 4 = 3 := by omega
    simp [vatC, lessY, noSm, e1, e2]
theorem vats_row {S : MS} {b gr cap : Nat} {w : Bool} (hg : h.get b = some (.row (flatL 4 S.nv (vatC S)) w gr)) : Cells h (.slice (some ⟨b, 0, none⟩) S.nv cap) 4 S.nv (vatC S) := cells_row ⟨w, gr, hg⟩ fun k j hk hj => flatL_get (c := vatC S) hk hj
theorem samps_nil {a b c : Nat → Int} : Samps h nilS 0 a b c := ⟨none, 0, rfl, fun x e => (by cases e), .inl rfl⟩
def s18 : SCode := (.seq (.ops [⟨(some 3), none, .box (T 0)⟩, ⟨(some 6), none, .mov (.const (.bool false))⟩]) (.seq (.seq (.ops [⟨(some 11), none, .loadN 7 (T 3)⟩, ⟨(some 12), none, .call (.func 59) [(T 11)]⟩, ⟨(some 13), none, .not (T 12)⟩, ⟨(some 14), none, .mov (T 13)⟩, ⟨(some 15), (some (14, false)), .fieldAddr 5 (T 3)⟩, ⟨(some 16), (some (14, false)), .load1 (T 15)⟩, ⟨(some 17), (some (14, false)), .len (T 16)⟩, ⟨(some 18), (some (14, false)), .int2 .eql (T 17) (.const (.int .i64 (0)))⟩, ⟨(some 19), none, .pick (T 14) (.const (.bool true)) (T 18)⟩]) (.cond (T 19) (.seq (.ops [⟨(some 20), none, .call (.func 24) []⟩, ⟨(some 6), none, .mov (T 20)⟩]) .ret) .skip)) (.seq (.ops [⟨(some 21), none, .mov (T 1)⟩, ⟨(some 22), none, .plain (.convert 5 3 (T 21)) 3⟩, ⟨(some 23), none, .fieldAddr 5 (T 3)⟩, ⟨(some 24), none, .load1 (T 23)⟩, ⟨(some 25), none, .len (T 24)⟩, ⟨(some 26), none, .plain (.binOp .rem 3 (T 22) (T 25) 3) 3⟩, ⟨(some 7), none, .mov (T 26)⟩]) (.seq (.ops [⟨(some 27), none, .loadN 7 (T 3)⟩, ⟨(some 8), none, .alloc [(.int .i64 (0)), (.int .i64 (0)), (.slice none 0 0), (.int .i64 (0)), (.int .i64 (0)), (.slice none 0 0), (.slice none 0 0)]⟩, ⟨none, none, .store 7 (T 8) (T 27)⟩]) (.seq (.ops [⟨(some 28), none, .bslice 4 0 [(.int .i64 (0)), (.int .i64 (0)), (.int .i64 (0)), (.int .i64 (0))] [] []⟩, ⟨(some 29), none, .fieldAddr 5 (T 3)⟩, ⟨(some 30), none, .load1 (T 29)⟩, ⟨(some 31), none, .append 4 32 (T 28) (T 30)⟩, ⟨(some 32), none, .fieldAddr 6 (T 8)⟩, ⟨none, none, .store 1 (T 32) (.const (.slice none 0 0))⟩, ⟨(some 33), none, .fieldAddr 5 (T 8)⟩, ⟨none, none, .store 1 (T 33) (T 31)⟩]) (.seq (.draw [⟨.rd, ⟨(some 34), none, .loadN 7 (T 8)⟩⟩, ⟨.rd, ⟨(some 35), none, .loadN 7 (T 8)⟩⟩, ⟨.up, ⟨(some 9), none, .alloc [(.int .i64 (0)), (.int .i64 (0)), (.slice none 0 0), (.int .i64 (0)), (.int .i64 (0)), (.slice none 0 0), (.slice none 0 0)]⟩⟩, ⟨.up, ⟨(some 10), none, .alloc [(.int .i64 (0)), (.int .i64 (0)), (.slice none 0 0), (.int .i64 (0)), (.int .i64 (0)), (.slice none 0 0), (.slice none 0 0)]⟩⟩, ⟨.up, ⟨none, none, .store 7 (T 9) (T 34)⟩⟩, ⟨.any, ⟨none, none, .store 7 (T 10) (T 35)⟩⟩]) (.seq (.ops [⟨(some 36), none, .bslice 4 0 [(.int .i64 (0)), (.int .i64 (0)), (.int .i64 (0)), (.int .i64 (0))] [] []⟩, ⟨(some 37), none, .fieldAddr 5 (T 8)⟩, ⟨(some 38), none, .load1 (T 37)⟩, ⟨(some 39), none, .append 4 32 (T 36) (T 38)⟩, ⟨(some 40), none, .fieldAddr 5 (T 9)⟩, ⟨none, none, .store 1 (T 40) (T 39)⟩]) (.seq (.draw [⟨.free, ⟨(some 41), none, .fieldAddr 5 (T 9)⟩⟩, ⟨.rd1, ⟨(some 42), none, .load1 (T 41)⟩⟩, ⟨.free, ⟨(some 43), none, .mov (T 7)⟩⟩, ⟨.free, ⟨(some 44), none, .fieldAddr 5 (T 8)⟩⟩, ⟨.rd1, ⟨(some 45), none, .load1 (T 44)⟩⟩, ⟨.free, ⟨(some 46), none, .mov (T 7)⟩⟩, ⟨.free, ⟨(some 47), none, .idxSl 4 (T 45) (T 46)⟩⟩, ⟨.free, ⟨(some 48), none, .fieldAddr 3 (T 47)⟩⟩, ⟨.rd1, ⟨(some 49), none, .load1 (T 48)⟩⟩, ⟨.free, ⟨(some 50), none, .mov (T 2)⟩⟩, ⟨.free, ⟨(some 51), none, .plain (.convert 5 3 (T 50)) 3⟩⟩, ⟨.free, ⟨(some 52), none, .plain (.binOp .rem 3 (T 51) (.const (.int .i64 (20))) 3) 3⟩⟩, ⟨.free, ⟨(some 53), none, .int2 .sub (T 49) (T 52)⟩⟩, ⟨.free, ⟨(some 54), none, .plain (.call { callee := .builtin .max, args := #[(.const (.int .i64 (0))), (T 53)], argTypes := #[3, 3] }) 3⟩⟩, ⟨.free, ⟨(some 55), none, .idxSl 4 (T 42) (T 43)⟩⟩, ⟨.free, ⟨(some 56), none, .fieldAddr 3 (T 55)⟩⟩, ⟨.any, ⟨none, none, .store 1 (T 56) (T 54)⟩⟩]) (.seq (.ops [⟨(some 57), none, .fieldAddr 3 (T 8)⟩, ⟨(some 58), none, .fieldAddr 1 (T 57)⟩, ⟨(some 59), none, .load1 (T 58)⟩, ⟨(some 60), none, .fieldAddr 3 (T 8)⟩, ⟨(some 61), none, .fieldAddr 0 (T 60)⟩, ⟨(some 62), none, .load1 (T 61)⟩, ⟨(some 63), none, .mov (T 2)⟩, ⟨(some 64), none, .plain (.convert 5 3 (T 63)) 3⟩, ⟨(some 65), none, .plain (.binOp .rem 3 (T 64) (.const (.int .i64 (3))) 3) 3⟩, ⟨(some 66), none, .int2 .add (T 62) (T 65)⟩, ⟨(some 67), none, .plain (.call { callee := .builtin .min, args := #[(T 59), (T 66)], argTypes := #[3, 3] }) 3⟩, ⟨(some 68), none, .fieldAddr 3 (T 10)⟩, ⟨(some 69), none, .fieldAddr 0 (T 68)⟩, ⟨none, none, .store 1 (T 69) (T 67)⟩]) (.seq (.ops [⟨(some 70), none, .loadN 7 (T 8)⟩, ⟨(some 71), none, .loadN 7 (T 9)⟩, ⟨(some 72), none, .mov (T 7)⟩, ⟨(some 73), none, .call (.func 67) [(T 70), (T 71), (T 72)]⟩, ⟨(some 74), none, .mov (T 73)⟩, ⟨(some 75), (some (74, true)), .loadN 7 (T 8)⟩, ⟨(some 76), (some (74, true)), .loadN 7 (T 10)⟩, ⟨(some 77), (some (74, true)), .mov (T 7)⟩, ⟨(some 78), (some (74, true)), .call (.func 67) [(T 75), (T 76), (T 77)]⟩, ⟨(some 79), none, .pick (T 74) (T 78) (.const (.bool false))⟩, ⟨(some 80), none, .mov (T 79)⟩, ⟨(some 81), (some (80, true)), .call (.func 24) []⟩, ⟨(some 82), none, .pick (T 80) (T 81) (.const (.bool false))⟩, ⟨(some 6), none, .mov (T 82)⟩]) .ret))))))))))
theorem fok18 : FnOk Try.prog 18 83 s18 [.tmp 6] := ⟨Try.f18, _, Try.func18, rfl, Try.ntmps18, by kernel_rfl, by kernel_rfl⟩
set_option maxHeartbeats 4000000 in
theorem less_c (hn : 3000 ≤ n) (hr : h.next + 4000000 < far) (hfl : h.floor ≤ h.next) {wv vv sv : Value} {S : MS} (hy : SteepR h wv vv sv S) (a1 : Int) (wf1 : (Lit.int .u8 a1).wf = true) (a2 : Int) (wf2 : (Lit.int .u8 a2).wf = true) :
    ∃ v h', call n (.func (.func 18) #[] #[]) [.agg ⟨stL S wv vv sv⟩, .int .u8 a1, .int .u8 a2] h = some (v, h') ∧ v = .bool true := by
  obtain ⟨n, rfl⟩ : ∃ p, n = p + 1 := ⟨n - 1, by omega⟩
  obtain ⟨w1, rfl, hw1⟩ := wf8 wf1
  obtain ⟨w2, rfl, hw2⟩ := wf8 wf2
  refine call_any0 fok18 rfl rfl (by simp) ?_
  simp only [s18, W_seq, W_ops]
  refine ops_box (cs := stL S wv vv sv) (by omega) rfl hy.one fun g1 hx1 => ?_
  have n1 := hx1.next
  have f1 := hx1.floor
  have hy1 := hy.mono hx1.sub
  have r1 := hx1.row
  have er := ready_c (n := n) (h := g1) (by omega) (by omega) hy1
  by_cases hTf : ThinS S ∧ faultS S = 0
  case neg =>
    simp only [rn0, rn1, rn2, rn3, rn4, rn5, rn6, rn7, rn8, if_true, if_false, Nat.le_refl, true_and, and_true, decide_true, decide_false, Bool.not_true, Bool.not_false, reduceIte, Nat.reduceEqDiff, Nat.reduceAdd, Nat.reduceMul, Nat.reduceSub, Nat.reduceLeDiff, Nat.reduceLT, r1.whole (n := 7) rfl, er, hTf, awake_c (n := n) (h := g1) (by omega)]
  have hdt : decide (ThinS S ∧ faultS S = 0) = true := decide_eq_true hTf
  obtain ⟨hT, hf⟩ := hTf
  rw [hdt] at er
  have hG := good_of hf
  by_cases hz : S.nv = 0
  · have hz' : (S.nv : Int) = 0 := by omega
    simp only [rn0, rn1, rn2, rn3, rn4, rn5, rn6, rn7, rn8, if_true, if_false, Nat.le_refl, true_and, and_true, decide_true, decide_false, Bool.not_true, Bool.not_false, reduceIte, Nat.reduceEqDiff, Nat.reduceAdd, Nat.reduceMul, Nat.reduceSub, Nat.reduceLeDiff, Nat.reduceLT, r1.whole (n := 7) rfl, er, r1.ld, stg, Nat.zero_add, Cells.len hy1.v, hz', awake_c (n := n) (h := g1) (by omega)]
  have hz' : ¬ (S.nv : Int) = 0 := by omega
  obtain ⟨zl0, zl5, zw, zw6, zv4, _, _, _, zs0, zs1, zs2⟩ := hG.sizes
  obtain ⟨o, ho⟩ : ∃ o : Nat, o = w1 % S.nv := ⟨_, rfl⟩
  have hov : o < S.nv := by rw [ho]; exact Nat.mod_lt _ (by omega)
  have ho' : (w1 : Int).tmod (S.nv : Int) = (o : Int) := by rw [ho]; rfl
  simp only [rn0, rn1, rn2, rn3, rn4, rn5, rn6, rn7, rn8, if_true, if_false, Nat.le_refl, true_and, and_true, decide_true, decide_false, Bool.not_true, Bool.not_false, reduceIte, Nat.reduceEqDiff, Nat.reduceAdd, Nat.reduceMul, Nat.reduceSub, Nat.reduceLeDiff, Nat.reduceLT, r1.whole (n := 7) rfl, er, r1.ld, stg, Nat.zero_add, Cells.len hy1.v, hz', p_conv8, r_8 hw1, valN_tmp, valN_const, Nat.reduceLT, p_rem, r_rem hz', ho']
  refine step_new (vs := stL S wv vv sv) (by omega) (by omega) rfl (by simp only [rn0, rn1, rn2, rn3, rn4, rn5, rn6, rn7, rn8, if_true, if_false, Nat.le_refl, true_and, and_true, decide_true, decide_false, Bool.not_true, Bool.not_false, reduceIte, Nat.reduceEqDiff, Nat.reduceAdd, Nat.reduceMul, Nat.reduceSub, Nat.reduceLeDiff, Nat.reduceLT]; rfl) hy.one rfl rfl fun g2 hx2 => ?_
  have n2 := hx2.next
  have f2 := hx2.floor
  have hy2 := hy1.mono hx2.sub
  have r12 := r1.mono hx2.sub
  simp only [rn0, rn1, rn2, rn3, rn4, rn5, rn6, rn7, rn8, if_true, if_false, Nat.le_refl, true_and, and_true, decide_true, decide_false, Bool.not_true, Bool.not_false, reduceIte, Nat.reduceEqDiff, Nat.reduceAdd, Nat.reduceMul, Nat.reduceSub, Nat.reduceLeDiff, Nat.reduceLT, build_none4]
  refine step_slice (by omega) rfl fun g3 hx3 => ?_
  have n3 := hx3.next
  have f3 := hx3.floor
  have hy3 := hy2.mono hx3.sub
  have r13 := r12.mono hx3.sub
  obtain ⟨xv, kv, ev, lv⟩ := Cells.list (by omega) hy3.v
  have hap := append_none (h := g3) (s := 4) (bytes := 32) (b := g2.next) ⟨xv, kv, ev⟩ lv flatL_len (by simp [maxBytes]; omega) (by simp [maxBytes]; omega)
  rw [if_neg hz] at hap
  simp only [rn0, rn1, rn2, rn3, rn4, rn5, rn6, rn7, rn8, if_true, if_false, Nat.le_refl, true_and, and_true, decide_true, decide_false, Bool.not_true, Bool.not_false, reduceIte, Nat.reduceEqDiff, Nat.reduceAdd, Nat.reduceMul, Nat.reduceSub, Nat.reduceLeDiff, Nat.reduceLT, r13.ld, stg, Nat.zero_add, hap]
  refine step_slice (by omega) flatL_one fun g4 hx4 => ?_
  have n4 := hx4.next
  have f4 := hx4.floor
  have q4 : g4.get g1.next = some (.row (stL S wv vv sv) true 0) := by rw [hx4.old _ (by omega), hx3.old _ (by omega)]; exact hx2.get
  simp only [rn0, rn1, rn2, rn3, rn4, rn5, rn6, rn7, rn8, if_true, if_false, Nat.le_refl, true_and, and_true, decide_true, decide_false, Bool.not_true, Bool.not_false, reduceIte, Nat.reduceEqDiff, Nat.reduceAdd, Nat.reduceMul, Nat.reduceSub, Nat.reduceLeDiff, Nat.reduceLT]
  refine step_store (b := g1.next) (off := 6) (vs := [nilS]) rfl q4 (by omega) (by omega) rfl rfl rfl (by simp [stL]) fun g5 hs5 => ?_
  have n5 := hs5.next
  have f5 := hs5.floor
  have e5 : splice (stL S wv vv sv) 6 [nilS] = stL S wv vv nilS := rfl
  rw [e5] at hs5
  simp only [rn0, rn1, rn2, rn3, rn4, rn5, rn6, rn7, rn8, if_true, if_false, Nat.le_refl, true_and, and_true, decide_true, decide_false, Bool.not_true, Bool.not_false, reduceIte, Nat.reduceEqDiff, Nat.reduceAdd, Nat.reduceMul, Nat.reduceSub, Nat.reduceLeDiff, Nat.reduceLT]
  refine step_store (b := g1.next) (off := 5) (vs := [.slice (some ⟨g3.next, 0, none⟩) S.nv unk]) rfl hs5.get (by omega) (by omega) rfl rfl rfl (by simp [stL]) fun g6 hs6 => ?_
  have n6 := hs6.next
  have f6 := hs6.floor
  have e6 : splice (stL S wv vv nilS) 5 [.slice (some ⟨g3.next, 0, none⟩) S.nv unk] = stL S wv (.slice (some ⟨g3.next, 0, none⟩) S.nv unk) nilS := rfl
  rw [e6] at hs6
  have old16 : ∀ i, i < g1.next → g6.get i = g1.get i := fun i hi => by rw [hs6.old i (by omega), hs5.old i (by omega), hx4.old i (by omega), hx3.old i (by omega), hx2.old i hi]
  have sub16 : Sub All g1 g6 := AHeap.subOf old16
  have hy6 := hy1.mono sub16
  have l6 : g6.get g3.next = some (.row (flatL 4 S.nv (vatC S)) true 4) := by rw [hs6.old _ (by omega), hs5.old _ (by omega)]; exact hx4.get
  have hX6 : SteepR g6 wv (.slice (some ⟨g3.next, 0, none⟩) S.nv unk) nilS (noSm S) := ⟨hy6.w, vats_row l6, samps_nil⟩
  have x6 : Row g6 g1.next (stL S wv (.slice (some ⟨g3.next, 0, none⟩) S.nv unk) nilS) := hs6.row
  have hself : eqV (.agg ⟨stL S wv (.slice (some ⟨g3.next, 0, none⟩) S.nv unk) nilS⟩) (.agg ⟨stL S wv (.slice (some ⟨g3.next, 0, none⟩) S.nv unk) nilS⟩) = true := hX6.self
  have hone : allB oneCell (stL S wv (.slice (some ⟨g3.next, 0, none⟩) S.nv unk) nilS) = true := hX6.one
  generalize hV1 : (.slice (some ⟨g3.next, 0, none⟩) S.nv unk : Value) = V1 at *
  simp only [rn0, rn1, rn2, rn3, rn4, rn5, rn6, rn7, rn8, if_true, if_false, Nat.le_refl, true_and, and_true, decide_true, decide_false, Bool.not_true, Bool.not_false, reduceIte, Nat.reduceEqDiff, Nat.reduceAdd, Nat.reduceMul, Nat.reduceSub, Nat.reduceLeDiff, Nat.reduceLT]
  refine W_draw All ?_
  simp only [rn0, rn1, rn2, rn3, rn4, rn5, rn6, rn7, rn8, if_true, if_false, Nat.le_refl, true_and, and_true, decide_true, decide_false, Bool.not_true, Bool.not_false, reduceIte, Nat.reduceEqDiff, Nat.reduceAdd, Nat.reduceMul, Nat.reduceSub, Nat.reduceLeDiff, Nat.reduceLT, x6.whole (n := 7) rfl, hself]
  refine up_row (cs := [.int .i64 0, .int .i64 0, nilS, .int .i64 0, .int .i64 0, nilS, nilS]) (by omega) rfl rfl (fun g hx => hx.sub) fun g7 hx7 => ?_
  have n7 := hx7.next
  have f7 := hx7.floor
  simp only [rn0, rn1, rn2, rn3, rn4, rn5, rn6, rn7, rn8, if_true, if_false, Nat.le_refl, true_and, and_true, decide_true, decide_false, Bool.not_true, Bool.not_false, reduceIte, Nat.reduceEqDiff, Nat.reduceAdd, Nat.reduceMul, Nat.reduceSub, Nat.reduceLeDiff, Nat.reduceLT]
  refine up_row (cs := [.int .i64 0, .int .i64 0, nilS, .int .i64 0, .int .i64 0, nilS, nilS]) (by omega) rfl rfl (fun g hx => hx7.sub.trans hx.sub) fun g8 hx8 => ?_
  have n8 := hx8.next
  have f8 := hx8.floor
  have q8 : g8.get g6.next = some (.row [.int .i64 0, .int .i64 0, nilS, .int .i64 0, .int .i64 0, nilS, nilS] true 0) := by rw [hx8.old _ (by omega)]; exact hx7.get
  have old8 : ∀ i, i < g6.next → g8.get i = g6.get i := fun i hi => by rw [hx8.old i (by omega), hx7.old i hi]
  simp only [rn0, rn1, rn2, rn3, rn4, rn5, rn6, rn7, rn8, if_true, if_false, Nat.le_refl, true_and, and_true, decide_true, decide_false, Bool.not_true, Bool.not_false, reduceIte, Nat.reduceEqDiff, Nat.reduceAdd, Nat.reduceMul, Nat.reduceSub, Nat.reduceLeDiff, Nat.reduceLT]
  refine up_store (b := g6.next) (off := 0) (vs := stL S wv V1 nilS) rfl q8 (by omega) (by omega) rfl hone rfl (by simp) (fun g hs => fun i cs w gr _ hg => by have := AHeap.lt_of_get hg; rw [hs.old i (by omega), old8 i this]; exact hg) fun g9 hs9 => ?_
  rw [splice_all (by rfl)] at hs9
  have n9 := hs9.next
  have f9 := hs9.floor
  simp only [rn0, rn1, rn2, rn3, rn4, rn5, rn6, rn7, rn8, if_true, if_false, Nat.le_refl, true_and, and_true, decide_true, decide_false, Bool.not_true, Bool.not_false, reduceIte, Nat.reduceEqDiff, Nat.reduceAdd, Nat.reduceMul, Nat.reduceSub, Nat.reduceLeDiff, Nat.reduceLT]
  refine up_store (b := g7.next) (off := 0) (vs := stL S wv V1 nilS) rfl (by rw [hs9.old _ (by omega)]; exact hx8.get) (by omega) (by omega) rfl hone rfl (by simp) (fun _ _ => trivial) fun g10 hs10 => ?_
  rw [splice_all (by rfl)] at hs10
  have n10 := hs10.next
  have f10 := hs10.floor
  have old10 : ∀ i, i < g6.next → g10.get i = g6.get i := fun i hi => by rw [hs10.old i (by omega), hs9.old i (by omega), old8 i hi]
  have sub10 : Sub All g6 g10 := AHeap.subOf old10
  have y10 : g10.get g6.next = some (.row (stL S wv V1 nilS) true 0) := by rw [hs10.old _ (by omega)]; exact hs9.get
  have z10 : g10.get g7.next = some (.row (stL S wv V1 nilS) true 0) := hs10.get
  have hX10 := hX6.mono sub10
  have x10 := x6.mono sub10
  simp only [rn0, rn1, rn2, rn3, rn4, rn5, rn6, rn7, rn8, if_true, if_false, Nat.le_refl, true_and, and_true, decide_true, decide_false, Bool.not_true, Bool.not_false, reduceIte, Nat.reduceEqDiff, Nat.reduceAdd, Nat.reduceMul, Nat.reduceSub, Nat.reduceLeDiff, Nat.reduceLT, build_none4]
  refine step_slice (by omega) rfl fun g11 hx11 => ?_
  have n11 := hx11.next
  have f11 := hx11.floor
  have hX11 := hX10.mono hx11.sub
  have x11 := x10.mono hx11.sub
  obtain ⟨xv', kv', ev', lv'⟩ := Cells.list (by omega) hX11.v
  have hap' := append_none (h := g11) (s := 4) (bytes := 32) (b := g10.next) ⟨xv', kv', ev'⟩ lv' flatL_len (by have : (noSm S).nv = S.nv := rfl; rw [this]; simp [maxBytes]; omega) (by have : (noSm S).nv = S.nv := rfl; rw [this]; simp [maxBytes]; omega)
  rw [if_neg (show ¬ (noSm S).nv = 0 from hz)] at hap'
  have hap' : appendA 4 32 g11 (.slice (some ⟨g10.next, 0, none⟩) 0 0) V1 = newSlice g11 (flatL 4 S.nv (vatC S)) S.nv unk 4 := hap'
  simp only [rn0, rn1, rn2, rn3, rn4, rn5, rn6, rn7, rn8, if_true, if_false, Nat.le_refl, true_and, and_true, decide_true, decide_false, Bool.not_true, Bool.not_false, reduceIte, Nat.reduceEqDiff, Nat.reduceAdd, Nat.reduceMul, Nat.reduceSub, Nat.reduceLeDiff, Nat.reduceLT, x11.ld, stg, Nat.zero_add, hap']
  refine step_slice (by omega) flatL_one fun g12 hx12 => ?_
  have n12 := hx12.next
  have f12 := hx12.floor
  simp only [rn0, rn1, rn2, rn3, rn4, rn5, rn6, rn7, rn8, if_true, if_false, Nat.le_refl, true_and, and_true, decide_true, decide_false, Bool.not_true, Bool.not_false, reduceIte, Nat.reduceEqDiff, Nat.reduceAdd, Nat.reduceMul, Nat.reduceSub, Nat.reduceLeDiff, Nat.reduceLT]
  refine step_store (b := g6.next) (off := 5) (vs := [.slice (some ⟨g11.next, 0, none⟩) S.nv unk]) rfl (by rw [hx12.old _ (by omega), hx11.old _ (by omega)]; exact y10) (by omega) (by omega) rfl rfl rfl (by simp [stL]) fun g13 hs13 => ?_
  have n13 := hs13.next
  have f13 := hs13.floor
  have e13 : splice (stL S wv V1 nilS) 5 [.slice (some ⟨g11.next, 0, none⟩) S.nv unk] = stL S wv (.slice (some ⟨g11.next, 0, none⟩) S.nv unk) nilS := rfl
  rw [e13] at hs13
  have old13 : ∀ i, i < g10.next → i ≠ g6.next → g13.get i = g10.get i := fun i hi hne => by rw [hs13.old i hne, hx12.old i (by omega), hx11.old i hi]
  have sub13 : Sub All g6 g13 := AHeap.subOf fun i hi => by rw [old13 i (by omega) (by omega), old10 i hi]
  have hX13 := hX6.mono sub13
  have x13 := x6.mono sub13
  have y13 : Row g13 g6.next (stL S wv (.slice (some ⟨g11.next, 0, none⟩) S.nv unk) nilS) := hs13.row
  have z13 : g13.get g7.next = some (.row (stL S wv V1 nilS) true 0) := by rw [old13 _ (by omega) (by omega)]; exact z10
  have l13 : g13.get g11.next = some (.row (flatL 4 S.nv (vatC S)) true 4) := by rw [hs13.old _ (by omega)]; exact hx12.get
  have cV2 : Cells g13 (.slice (some ⟨g11.next, 0, none⟩) S.nv unk) 4 S.nv (vatC S) := vats_row l13
  have iV1 : indexSl 4 V1 (.int .i64 (o : Int)) = some (ptrO V1 4 o 0) := Cells.idx hX13.v hov
  have fV1 : fieldAt 3 (ptrO V1 4 o 0) = some (ptrO V1 4 o (0 + 3)) := Cells.fld hX13.v hov 0 3
  have lV1 : loadCell g13 (ptrO V1 4 o 3) = some (.int .i64 (S.vn o)) := need_ld (S := noSm S) hX13 hov
  have pV2 : ptrO (.slice (some ⟨g11.next, 0, none⟩) S.nv unk) 4 o (0 + 3) = .pointer (some ⟨g11.next, o * 4 + 3, none⟩) := by simp [ptrO]
  have iV2 := Cells.idx cV2 hov
  have fV2 := Cells.fld cV2 hov 0 3
  rw [pV2] at fV2
  obtain ⟨⟨vb1, vb2⟩, ⟨vf1, vf2, vf3⟩, vn1, vn2⟩ := hG.args.vat o hov
  have hr20 : (w2 : Int).tmod 20 = ((w2 % 20 : Nat) : Int) := rfl
  have hr3 : (w2 : Int).tmod 3 = ((w2 % 3 : Nat) : Int) := rfl
  have hl20 := Nat.mod_lt w2 (show 20 > 0 by omega)
  have hl3 := Nat.mod_lt w2 (show 3 > 0 by omega)
  have z20 : ¬ (20 : Int) = 0 := by decide
  have z3 : ¬ (3 : Int) = 0 := by decide
  have wsub : wrapF .i64 (S.vn o - ((w2 % 20 : Nat) : Int)) = S.vn o - ((w2 % 20 : Nat) : Int) := wrap_in (by omega) (by omega)
  have wadd : wrapF .i64 (S.splo + ((w2 % 3 : Nat) : Int)) = S.splo + ((w2 % 3 : Nat) : Int) := wrap_in (by omega) (by omega)
  obtain ⟨x, hx⟩ : ∃ x : Int, x = max 0 (S.vn o - ((w2 % 20 : Nat) : Int)) := ⟨_, rfl⟩
  obtain ⟨y, hy'⟩ : ∃ y : Int, y = min S.sphi (S.splo + ((w2 % 3 : Nat) : Int)) := ⟨_, rfl⟩
  have hxb : 0 ≤ x ∧ x ≤ S.vn o := by omega
  have hyb : S.splo ≤ y ∧ y ≤ S.sphi := by omega
  simp only [rn0, rn1, rn2, rn3, rn4, rn5, rn6, rn7, rn8, if_true, if_false, Nat.le_refl, true_and, and_true, decide_true, decide_false, Bool.not_true, Bool.not_false, reduceIte, Nat.reduceEqDiff, Nat.reduceAdd, Nat.reduceMul, Nat.reduceSub, Nat.reduceLeDiff, Nat.reduceLT]
  refine W_draw All ?_
  simp only [rn0, rn1, rn2, rn3, rn4, rn5, rn6, rn7, rn8, if_true, if_false, Nat.le_refl, true_and, and_true, decide_true, decide_false, Bool.not_true, Bool.not_false, reduceIte, Nat.reduceEqDiff, Nat.reduceAdd, Nat.reduceMul, Nat.reduceSub, Nat.reduceLeDiff, Nat.reduceLT, y13.ld, x13.ld, stg, Nat.zero_add, Nat.add_zero, iV1, fV1, lV1, p_conv8, r_8 hw2, valN_tmp, valN_const, Nat.reduceLT, p_rem, r_rem z20, hr20, wsub, p_max, r_max, ← hx, iV2, fV2]
  refine up_store (b := g11.next) (off := o * 4 + 3) (vs := [.int .i64 x]) rfl l13 (by omega) (by omega) rfl rfl rfl (by rw [flatL_len]; show o * 4 + 3 + 1 ≤ S.nv * 4; omega) (fun _ _ => trivial) fun g14 hs14 => ?_
  rw [vatC_need hov] at hs14
  have n14 := hs14.next
  have f14 := hs14.floor
  have sub14 : Sub All g6 g14 := AHeap.subOf fun i hi => by rw [hs14.old i (by omega)]; rw [old13 i (by omega) (by omega), old10 i hi]
  have x14 := x6.mono sub14
  simp only [rn0, rn1, rn2, rn3, rn4, rn5, rn6, rn7, rn8, if_true, if_false, Nat.le_refl, true_and, and_true, decide_true, decide_false, Bool.not_true, Bool.not_false, reduceIte, Nat.reduceEqDiff, Nat.reduceAdd, Nat.reduceMul, Nat.reduceSub, Nat.reduceLeDiff, Nat.reduceLT, x14.ld, stg, Nat.zero_add, Nat.add_zero, p_conv8, r_8 hw2, valN_tmp, valN_const, Nat.reduceLT, p_rem, r_rem z3, hr3, wadd, p_min, r_min, ← hy']
  refine step_store (b := g7.next) (off := 3) (vs := [.int .i64 y]) rfl (by rw [hs14.old _ (by omega)]; exact z13) (by omega) (by omega) rfl rfl rfl (by simp [stL]) fun g15 hs15 => ?_
  have n15 := hs15.next
  have f15 := hs15.floor
  have e15 : splice (stL S wv V1 nilS) 3 [.int .i64 y] = stL (lessZ S y) wv V1 nilS := rfl
  rw [e15] at hs15
  have sub15 : Sub All g6 g15 := AHeap.subOf fun i hi => by rw [hs15.old i (by omega), hs14.old i (by omega), old13 i (by omega) (by omega), old10 i hi]
  have hX15 := hX6.mono sub15
  have x15 : Row g15 g1.next (stL (noSm S) wv V1 nilS) := x6.mono sub15
  have y15 : Row g15 g6.next (stL (lessY S o x) wv (.slice (some ⟨g11.next, 0, none⟩) S.nv unk) nilS) := by
    obtain ⟨w, gr, e⟩ := y13
    exact ⟨w, gr, by rw [hs15.old _ (by omega), hs14.old _ (by omega)]; exact e⟩
  have z15 : Row g15 g7.next (stL (lessZ S y) wv V1 nilS) := hs15.row
  have l15 : g15.get g11.next = some (.row (flatL 4 S.nv (vatC (lessY S o x))) true 4) := by rw [hs15.old _ (by omega)]; exact hs14.get
  have hY15 : SteepR g15 wv (.slice (some ⟨g11.next, 0, none⟩) S.nv unk) nilS (lessY S o x) := ⟨hX15.w, vats_row (S := lessY S o x) l15, samps_nil⟩
  have hZ15 : SteepR g15 wv V1 nilS (lessZ S y) := ⟨hX15.w, hX15.v, samps_nil⟩
  have thX : ThinS (noSm S) := ⟨hT.1, hT.2.1, by show 0 ≤ 30; omega⟩
  have thY : ThinS (lessY S o x) := ⟨hT.1, hT.2.1, by show 0 ≤ 30; omega⟩
  have thZ : ThinS (lessZ S y) := ⟨hT.1, hT.2.1, by show 0 ≤ 30; omega⟩
  have s1 := stay_c (n := n) (h := g15) (by omega) (by omega) hX15 thX hY15 thY (o : Int)
  have s2 := stay_c (n := n) (h := g15) (by omega) (by omega) hX15 thX hZ15 thZ (o : Int)
  rw [lessY_stay hG hov hxb.1 hxb.2] at s1
  rw [lessZ_stay hG hov hyb.1 hyb.2] at s2
  simp only [rn0, rn1, rn2, rn3, rn4, rn5, rn6, rn7, rn8, if_true, if_false, Nat.le_refl, true_and, and_true, decide_true, decide_false, Bool.not_true, Bool.not_false, reduceIte, Nat.reduceEqDiff, Nat.reduceAdd, Nat.reduceMul, Nat.reduceSub, Nat.reduceLeDiff, Nat.reduceLT, x15.whole (n := 7) rfl, y15.whole (n := 7) rfl, z15.whole (n := 7) rfl, s1, s2, awake_c (n := n) (h := g15) (by omega)]
end Go.Vm.St
