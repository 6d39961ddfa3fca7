/- Texts of the proofs of this seat, put together: S4GoodH, S4OutL, S4RightL, S4RightM, S4GoodP, S4RightN, S4GoodL, S4StuckL, VmSets, VmSetR, VmMax3, S4AskP, S4AskL, S4Stay, S4Less, S4Warmer, S4AskedL, S4Sets, S4SetsI, S4Wrong, S4Small, S4Small2, S4Ref4, VmMapB, VmMapU, GgBase, GgLoad, VmReloc. -/
import Derived.Test.YtlkambpieajplaaGreatPt6

namespace Go.Vm.St
open Go.Proofs Go.Vm.Vat
set_option linter.unusedSimpArgs false
set_option linter.unusedVariables false
set_option maxRecDepth 10000
variable {n : Nat} {h : AHeap}
def OpenTR (h : AHeap) (S : MS) (wv vv sv v : Value) (h' : AHeap) : Prop := (∀ i, i < h.next → h'.get i = h.get i) ∧ h.next ≤ h'.next ∧ h'.next ≤ h.next + 500100 ∧ h'.floor = h.floor ∧
  ((faultS S ≠ 0 ∧ v = .tuple ⟨[.agg ⟨wk0⟩, .int .i64 (faultS S)]⟩) ∨ (faultS S = 0 ∧ truthsS S = [] ∧ v = .tuple ⟨[.agg ⟨wk0⟩, .int .i64 11]⟩) ∨
    (faultS S = 0 ∧ truthsS S ≠ [] ∧ ∃ tv, v = .tuple ⟨[.agg ⟨wkL S wv vv sv tv⟩, .int .i64 0]⟩ ∧ oneCell tv = true ∧ TruthsR h' S tv (truthsS S) ∧ Long tv))
def s116 : SCode := (.seq (.ops [jO 1 (.box (T 0)), jO 2 (.alloc [(.int .i64 0), (.int .i64 0), (.slice none 0 0), (.int .i64 0), (.int .i64 0), (.slice none 0 0), (.slice none 0 0), (.slice none 0 0)]), jO 3 (.mov (jK 0))]) (.seq (.ops [jO 7 (.loadN 7 (T 1)), jO 8 (.call (.func 131) [(T 7)]), jO 6 (.mov (T 8)), jO 9 (.extract 0 (T 6)), jO 10 (.extract 1 (T 6)), jO 4 (.alloc [(.int .i64 0), (.int .i64 0), (.slice none 0 0), (.int .i64 0), (.int .i64 0), (.slice none 0 0), (.slice none 0 0), (.slice none 0 0)]), ⟨none, none, .store 8 (T 4) (T 9)⟩, jO 5 (.mov (T 10))]) (.seq (.seq (.ops [jO 11 (.mov (T 5)), jO 12 (.int2 .eql (T 11) (jK 0)), jO 13 (.mov (T 12)), ⟨some 14, (some (13, true)), .fieldAddr 7 (T 4)⟩, ⟨some 15, (some (13, true)), .load1 (T 14)⟩, ⟨some 16, (some (13, true)), .len (T 15)⟩, ⟨some 17, (some (13, true)), .int2 .eql (T 16) (jK 0)⟩, jO 18 (.pick (T 13) (T 17) (.const (.bool false)))]) (.cond (T 18) (.seq (.ops [jO 19 (.build #[(0, 7), (7, 1)] [(.int .i64 0), (.int .i64 0), (.slice none 0 0), (.int .i64 0), (.int .i64 0), (.slice none 0 0), (.slice none 0 0), (.slice none 0 0)] [] []), ⟨none, none, .store 8 (T 2) (T 19)⟩, jO 3 (.mov (jK 11))]) .ret) .skip)) (.seq (.ops [jO 20 (.loadN 8 (T 4)), jO 21 (.mov (T 5)), ⟨none, none, .store 8 (T 2) (T 20)⟩, jO 3 (.mov (T 21))]) .ret))))
theorem fok116 : FnOk Tryz.prog 116 22 s116 [.cellN 2 8, .tmp 3] := ⟨Tryz.f116, _, Tryz.func116, rfl, Tryz.ntmps116, by kernel_rfl, by kernel_rfl⟩
set_option maxHeartbeats 1000000 in
theorem openTrue_c (hn : 600 ≤ n) (hr : h.next + 700000 < far) (hfl : h.floor ≤ h.next) {wv vv sv : Value} {S : MS} (hy : SteepR h wv vv sv S) (hT : ThinS S) :
    ∃ v h', call n (.func (.func 116) #[] #[]) [.agg ⟨stL S wv vv sv⟩] h = some (v, h') ∧ OpenTR h S wv vv sv v h' := by
  obtain ⟨n, rfl⟩ : ∃ p, n = p + 1 := ⟨n - 1, by omega⟩
  refine call_any0 fok116 rfl rfl (by simp) ?_
  simp only [s116, jO, jF, jR, jS, jU, jA, jK, W_seq, W_ops]
  refine ops_box (cs := stL S wv vv sv) (by omega) rfl hy.one fun g1 hx1 => ?_
  have n1 := hx1.next
  have f1 := hx1.floor
  simp only [rn0, reduceIte, Nat.reduceEqDiff, Nat.reduceAdd, Nat.reduceMul, Nat.reduceSub, Nat.reduceLeDiff, Nat.reduceLT]
  refine step_row (cs := wk0) (by omega) rfl rfl fun g3 hx3 => ?_
  have n3 := hx3.next
  have f3 := hx3.floor
  have sub3 : Sub All h g3 := hx1.sub.trans hx3.sub
  have w1 := (hx1.row.mono hx3.sub).whole (n := 7) rfl
  obtain ⟨pv, g4, eo, o4, u4, m4, f4, ho⟩ := open_c (n := n) (h := g3) (by omega) (by omega) (by omega) (hy.mono sub3) hT
  have old4 : ∀ i, i < h.next → g4.get i = h.get i := fun i hi => by rw [o4 i (by omega), hx3.old i (by omega), hx1.old i hi]
  have q6 : g4.get g1.next = some (.row wk0 true 0) := by rw [o4 _ (by omega)]; exact hx3.get
  rcases ho with ⟨hf, rfl⟩ | ⟨hf, tv, rfl, hone, htr, htb, hlong⟩
  · simp only [rn0, reduceIte, Nat.reduceEqDiff, Nat.reduceAdd, Nat.reduceMul, Nat.reduceSub, Nat.reduceLeDiff, Nat.reduceLT, w1, eo, ex0, ex1]
    refine step_new (vs := wk0) (by omega) (by omega) rfl (by simp only [rn0, reduceIte, Nat.reduceEqDiff, Nat.reduceAdd, Nat.reduceMul, Nat.reduceSub, Nat.reduceLeDiff, Nat.reduceLT]; rfl) rfl rfl rfl fun g5 hx5 => ?_
    have n5 := hx5.next
    have f5 := hx5.floor
    simp only [rn0, reduceIte, Nat.reduceEqDiff, Nat.reduceAdd, Nat.reduceMul, Nat.reduceSub, Nat.reduceLeDiff, Nat.reduceLT, hf, hx5.row.whole (n := 8) rfl]
    refine step_store (b := g1.next) (off := 0) (vs := wk0) rfl (by rw [hx5.old _ (by omega)]; exact q6) (by omega) (by omega) rfl rfl rfl (by simp) fun g6 hs6 => ?_
    rw [splice_all (by rfl)] at hs6
    have n6 := hs6.next
    have f6 := hs6.floor
    simp only [rn0, reduceIte, Nat.reduceEqDiff, Nat.reduceAdd, Nat.reduceMul, Nat.reduceSub, Nat.reduceLeDiff, Nat.reduceLT, res_two, hs6.row.whole (n := 8) rfl]
    exact ⟨fun i hi => by rw [hs6.old i (by omega), hx5.old i (by omega), old4 i hi], by omega, by omega, by omega, .inl ⟨hf, rfl⟩⟩
  · have hG := good_of hf
    have how := wk_one (hy.mono sub3) (tv := tv) hone
    simp only [rn0, reduceIte, Nat.reduceEqDiff, Nat.reduceAdd, Nat.reduceMul, Nat.reduceSub, Nat.reduceLeDiff, Nat.reduceLT, w1, eo, ex0, ex1]
    refine step_new (vs := wkL S wv vv sv tv) (by omega) (by omega) rfl (by simp only [rn0, reduceIte, Nat.reduceEqDiff, Nat.reduceAdd, Nat.reduceMul, Nat.reduceSub, Nat.reduceLeDiff, Nat.reduceLT]; rfl) how rfl rfl fun g5 hx5 => ?_
    have n5 := hx5.next
    have f5 := hx5.floor
    have old5 : ∀ i, i < h.next → g5.get i = h.get i := fun i hi => by rw [hx5.old i (by omega), old4 i hi]
    have w5 := hx5.row.whole (n := 8) rfl
    have q5 : g5.get g1.next = some (.row wk0 true 0) := by rw [hx5.old _ (by omega)]; exact q6
    have htr5 : TruthsR g5 S tv (truthsS S) := Cells.mono htr hx5.sub
    by_cases hz : truthsS S = []
    · have hl0 : ((truthsS S).length : Int) = 0 := by rw [hz]; rfl
      simp only [rn0, reduceIte, Nat.reduceEqDiff, Nat.reduceAdd, Nat.reduceMul, Nat.reduceSub, Nat.reduceLeDiff, Nat.reduceLT, w5, hx5.row.ld, wkg, Nat.zero_add, Cells.len htr5, hl0, build_wk0]
      refine step_store (b := g1.next) (off := 0) (vs := wk0) rfl q5 (by omega) (by omega) rfl rfl rfl (by simp) fun g6 hs6 => ?_
      rw [splice_all (by rfl)] at hs6
      have n6 := hs6.next
      have f6 := hs6.floor
      simp only [rn0, reduceIte, Nat.reduceEqDiff, Nat.reduceAdd, Nat.reduceMul, Nat.reduceSub, Nat.reduceLeDiff, Nat.reduceLT, res_two, hs6.row.whole (n := 8) rfl]
      exact ⟨fun i hi => by rw [hs6.old i (by omega), old5 i hi], by omega, by omega, by omega, .inr (.inl ⟨hf, hz, rfl⟩)⟩
    · have hl0 : ¬ ((truthsS S).length : Int) = 0 := fun e => hz (List.length_eq_zero_iff.1 (by omega))
      simp only [rn0, reduceIte, Nat.reduceEqDiff, Nat.reduceAdd, Nat.reduceMul, Nat.reduceSub, Nat.reduceLeDiff, Nat.reduceLT, w5, hx5.row.ld, wkg, Nat.zero_add, Cells.len htr5, hl0]
      refine step_store (b := g1.next) (off := 0) (vs := wkL S wv vv sv tv) rfl q5 (by omega) (by omega) rfl how rfl (by simp) fun g6 hs6 => ?_
      rw [splice_all (by rfl)] at hs6
      have n6 := hs6.next
      have f6 := hs6.floor
      simp only [rn0, reduceIte, Nat.reduceEqDiff, Nat.reduceAdd, Nat.reduceMul, Nat.reduceSub, Nat.reduceLeDiff, Nat.reduceLT, res_two, hs6.row.whole (n := 8) rfl]
      refine ⟨fun i hi => by rw [hs6.old i (by omega), old5 i hi], by omega, by omega, by omega, .inr (.inr ⟨hf, hz, tv, rfl, hone, ?_, hlong⟩)⟩
      exact cells_at' htr5 fun a k c e => by
        have := htb a k c e
        exact hs6.old _ (by omega)
noncomputable def gI (S : MS) (v : Nat) (L : List (Nat → Int)) (k : Nat) : List Int := pickL (fun i => verdS S v (S.vb v + (i : Int)) 1 L = 1) k
def gLo (b : Int) (l : List Int) : Int := if l = [] then 0 else b + atL l 0
def gHi (b : Int) (l : List Int) : Int := if l = [] then 0 else b + atL l (l.length - 1)
theorem gLo_nil {b : Int} : gLo b [] = 0 := rfl
theorem gHi_nil {b : Int} : gHi b [] = 0 := rfl
theorem gLo_app {b x : Int} {l : List Int} (hl : l ≠ []) : gLo b (l ++ [x]) = gLo b l := by
  unfold gLo
  rw [if_neg hl, if_neg (by simp), at_append (List.length_pos_iff.2 hl)]
theorem gHi_app {b x : Int} {l : List Int} : gHi b (l ++ [x]) = b + x := by
  unfold gHi
  rw [if_neg (by simp), List.length_append, List.length_singleton, Nat.add_sub_cancel, at_last]
def s110 : SCode := (.seq (.ops [jO 2 (.box (T 0)), jO 4 (.alloc [(.int .i64 0), (.int .i64 0)]), jO 5 (.mov (.const (.bool false)))]) (.seq (.ops [jO 9 (.loadN 8 (T 2)), jO 10 (.mov (T 1)), jO 11 (.call (.func 136) [(T 9), (T 10)]), jO 6 (.mov (T 11))]) (.seq (.seq (.ops [jO 12 (.loadN 8 (T 2)), jO 13 (.mov (T 1)), jO 14 (.call (.func 137) [(T 12), (T 13)]), jO 15 (.mov (jK 0))]) (.block 0 (.loop (.seq (.ops [jO 16 (.int2 .lss (T 15) (T 14))]) (.seq (.cond (T 16) .skip (.exit 0)) (.seq (.block 1 (.seq (.ops [jO 17 (.mov (T 15)), jO 7 (.mov (T 17))]) (.seq (.ops [jO 18 (.fieldAddr 0 (T 2)), jO 19 (.fieldAddr 5 (T 18)), jO 20 (.load1 (T 19)), jO 21 (.mov (T 1)), jO 22 (.idxSl 4 (T 20) (T 21)), jO 23 (.fieldAddr 0 (T 22)), jO 24 (.load1 (T 23)), jO 25 (.mov (T 7)), jO 26 (.int2 .add (T 24) (T 25)), jO 8 (.mov (T 26))]) (.seq (.seq (.ops [jO 27 (.loadN 8 (T 2)), jO 28 (.mov (T 6)), jO 29 (.mov (T 1)), jO 30 (.mov (T 8)), jO 31 (.call (.func 138) [(T 27), (T 28), (T 29), (T 30)]), jO 32 (.int2 .neq (T 31) (jK 1))]) (.cond (T 32) (.exit 1) .skip)) (.seq (.seq (.ops [jO 33 (.mov (T 5)), jO 34 (.not (T 33))]) (.cond (T 34) (.ops [jO 35 (.mov (T 8)), jO 36 (.fieldAddr 0 (T 4)), ⟨none, none, .store 1 (T 36) (T 35)⟩]) .skip)) (.ops [jO 37 (.mov (T 8)), jO 38 (.fieldAddr 1 (T 4)), ⟨none, none, .store 1 (T 38) (T 37)⟩, jO 5 (.mov (.const (.bool true)))])))))) (.ops [jO 39 (.int2 .add (T 15) (jK 1)), jO 15 (.mov (T 39))]))))))) (.seq (.ops [jO 40 (.loadN 2 (T 4)), jO 41 (.mov (T 5)), ⟨none, none, .store 2 (T 4) (T 40)⟩, jO 5 (.mov (T 41))]) .ret))))
theorem fok110 : FnOk Tryz.prog 110 42 s110 [.cellN 4 2, .tmp 5] := ⟨Tryz.f110, _, Tryz.func110, rfl, Tryz.ntmps110, by kernel_rfl, by kernel_rfl⟩
set_option maxHeartbeats 2000000 in
theorem goodHours_c (hn : 2320 ≤ n) (hr : h.next + 300000 < far) {wv vv sv tv : Value} {S : MS} (hy : SteepR h wv vv sv S) (ho1 : oneCell tv = true) (hG : Good S) {L : List (Nat → Int)} (hlen : L.length ≤ 2000) (hin : ∀ t, t ∈ L → InU S t) (htr : TruthsR h S tv L) {v : Nat} (hv : v < S.nv) :
    call n (.func (.func 110) #[] #[]) [.agg ⟨wkL S wv vv sv tv⟩, .int .i64 (v : Int)] h = some (.tuple ⟨[.agg ⟨[.int .i64 (gLo (S.vb v) (gI S v L (hoursN S v))), .int .i64 (gHi (S.vb v) (gI S v L (hoursN S v)))]⟩, .bool (decide (gI S v L (hoursN S v) ≠ []))]⟩, h) := by
  obtain ⟨n, rfl⟩ : ∃ p, n = p + 1 := ⟨n - 1, by omega⟩
  refine call_plain0 fok110 rfl rfl (by simp) rfl ?_
  have hy := hy.shut
  have htr : TruthsR h.shutAll S tv L := Cells.shut htr
  have hr : h.shutAll.next + 300000 < far := hr
  have hfl : h.shutAll.floor ≤ h.shutAll.next := Nat.le_refl _
  generalize h.shutAll = h at hy htr hr hfl
  obtain ⟨mh1, mh2, mh3⟩ := hoursN_ok hG hv
  obtain ⟨⟨vb1, vb2⟩, _⟩ := hG.args.vat v hv
  obtain ⟨zl0, zl5, _⟩ := hG.sizes
  simp only [s110, jO, jF, jR, jS, jU, jA, jK, W_seq, W_ops]
  refine ops_box (cs := wkL S wv vv sv tv) (by omega) rfl (wk_one hy ho1) fun g1 hx1 => ?_
  have n1 := hx1.next
  have f1 := hx1.floor
  refine ops_alloc (cs := [.int .i64 0, .int .i64 0]) (by omega) rfl fun g2 hx2 => ?_
  have n2 := hx2.next
  have f2 := hx2.floor
  have s2 : Sub All h g2 := hx1.sub.trans hx2.sub
  have r2 := hx1.row.mono hx2.sub
  obtain ⟨r, g3, ek, hm3, hr3, sub3, u3, m3, f3⟩ := kindsOf_c (n := n) (h := g2) (by omega) (by omega) (by omega) (hy.mono s2) ho1 hG hlen hin (Cells.mono htr s2) hv
  have s3 := s2.trans sub3
  have eh := hoursOf_c (n := n) (h := g3) (by omega) (by omega) (hy.mono s3) ho1 hG hv
  rw [← mh1] at eh
  have r3 := r2.mono sub3
  have q3 : g3.get g1.next = some (.row [.int .i64 0, .int .i64 0] true 0) := sub3 _ _ _ _ trivial hx2.get
  simp only [rn0, reduceIte, Nat.reduceEqDiff, Nat.reduceAdd, Nat.reduceMul, Nat.reduceSub, Nat.reduceLeDiff, Nat.reduceLT, r2.whole (n := 8) rfl, ek, r3.whole (n := 8) rfl, eh]
  refine W_loop (hoursN S v) (fun k f g ms => ((∀ i, i ≠ g1.next → g.get i = g3.get i) ∧ g.next = g3.next ∧ g.floor = g3.floor ∧ g.get g1.next = some (.row [.int .i64 (gLo (S.vb v) (gI S v L k)), .int .i64 (gHi (S.vb v) (gI S v L k))] true 0)) ∧ ms = [] ∧ f 1 = .int .i64 (v : Int) ∧ f 2 = .pointer (some ⟨h.next, 0, none⟩) ∧ f 4 = .pointer (some ⟨g1.next, 0, none⟩) ∧ f 5 = .bool (decide (gI S v L k ≠ [])) ∧ f 6 = .map (some r) ∧ f 14 = .int .i64 (hoursN S v : Int) ∧ f 15 = .int .i64 (k : Int)) (by simp; omega) ?_ ?_ ?_
  · have e0 : gI S v L 0 = [] := rfl
    have d0 : decide ((([] : List Int)) ≠ []) = false := rfl
    rw [e0]
    simp only [rn0, reduceIte, Nat.reduceEqDiff, Nat.reduceAdd, Nat.reduceMul, Nat.reduceSub, Nat.reduceLeDiff, Nat.reduceLT, gLo_nil, gHi_nil, d0]
    first | exact ⟨⟨fun i _ => trivial, q3⟩, rfl⟩ | exact ⟨⟨fun i _ => rfl, rfl, rfl, q3⟩, rfl⟩ | exact ⟨⟨fun i _ => trivial, trivial, trivial, q3⟩, rfl⟩
  · rintro k f g ms hk ⟨⟨go, gn, gf, gr⟩, rfl, p1, p2, p4, p5, p6, p14, p15⟩
    have hk' : (k : Int) < (hoursN S v : Int) := by omega
    have hw : wrapF .i64 ((k : Int) + 1) = ((k + 1 : Nat) : Int) := by rw [wrap_in (by omega) (by omega)]; rfl
    have hwb : wrapF .i64 (S.vb v + (k : Int)) = S.vb v + (k : Int) := wrap_in (by omega) (by omega)
    have sg : Sub All h g := fun i cs w gr' t hg => by rw [go i (by have := AHeap.lt_of_get hg; omega)]; exact s3 _ _ _ _ t hg
    have hyg := hy.mono sg
    have htg : TruthsR g S tv L := Cells.mono htr sg
    have rg : Row g h.next (wkL S wv vv sv tv) := by
      obtain ⟨w, gr', e⟩ := r3
      exact ⟨w, gr', by rw [go _ (by omega)]; exact e⟩
    have mg : MapF g r key3 (cntK S v L L.length 0) := hm3.keep (go _ (by omega))
    have ev := verdict_c (n := n) (h := g) (by omega) (by omega) hyg ho1 hG htg mg (hour_at hG hv hk)
    by_cases c : verdS S v (S.vb v + (k : Int)) 1 L = 1
    · have eg : gI S v L (k + 1) = gI S v L k ++ [(k : Int)] := pick_yes c
      have hne : decide (gI S v L (k + 1) ≠ []) = true := decide_eq_true (by rw [eg]; simp)
      by_cases c0 : gI S v L k = []
      · have d0 : decide (gI S v L k ≠ []) = false := decide_eq_false (by simpa using c0)
        rw [d0] at p5
        have e1 : gLo (S.vb v) (gI S v L (k + 1)) = S.vb v + (k : Int) := by rw [eg, c0]; rfl
        have e2 : gHi (S.vb v) (gI S v L (k + 1)) = S.vb v + (k : Int) := by rw [eg, gHi_app]
        simp only [rn0, reduceIte, Nat.reduceEqDiff, Nat.reduceAdd, Nat.reduceMul, Nat.reduceSub, Nat.reduceLeDiff, Nat.reduceLT, p1, p2, p4, p5, p6, p14, p15, hk', rg.whole (n := 8) rfl, rg.ld, wkg, Nat.zero_add, Nat.add_zero, Cells.idx hyg.v hv, Cells.fld hyg.v hv, begin_ld hyg hv, hwb, ev, c]
        refine step_store (b := g1.next) (off := 0) (vs := [.int .i64 (S.vb v + (k : Int))]) rfl gr (by omega) (by omega) rfl rfl rfl (by simp) fun g4 hs4 => ?_
        have n4 := hs4.next
        have f4 := hs4.floor
        simp only [rn0, reduceIte, Nat.reduceEqDiff, Nat.reduceAdd, Nat.reduceMul, Nat.reduceSub, Nat.reduceLeDiff, Nat.reduceLT, p1, p2, p4, p5, p6, p14, p15]
        refine step_store (b := g1.next) (off := 1) (vs := [.int .i64 (S.vb v + (k : Int))]) rfl hs4.get (by omega) (by omega) rfl rfl rfl (by simp [splice]) fun g5 hs5 => ?_
        have n5 := hs5.next
        have f5 := hs5.floor
        simp only [rn0, reduceIte, Nat.reduceEqDiff, Nat.reduceAdd, Nat.reduceMul, Nat.reduceSub, Nat.reduceLeDiff, Nat.reduceLT, p1, p2, p4, p5, p6, p14, p15, hw, hne]
        rw [e1, e2]
        exact ⟨fun i hi => by rw [hs5.old i hi, hs4.old i hi, go i hi], by omega, by omega, hs5.get⟩
      · have d0 : decide (gI S v L k ≠ []) = true := decide_eq_true c0
        rw [d0] at p5
        have e1 : gLo (S.vb v) (gI S v L (k + 1)) = gLo (S.vb v) (gI S v L k) := by rw [eg, gLo_app c0]
        have e2 : gHi (S.vb v) (gI S v L (k + 1)) = S.vb v + (k : Int) := by rw [eg, gHi_app]
        simp only [rn0, reduceIte, Nat.reduceEqDiff, Nat.reduceAdd, Nat.reduceMul, Nat.reduceSub, Nat.reduceLeDiff, Nat.reduceLT, p1, p2, p4, p5, p6, p14, p15, hk', rg.whole (n := 8) rfl, rg.ld, wkg, Nat.zero_add, Nat.add_zero, Cells.idx hyg.v hv, Cells.fld hyg.v hv, begin_ld hyg hv, hwb, ev, c]
        refine step_store (b := g1.next) (off := 1) (vs := [.int .i64 (S.vb v + (k : Int))]) rfl gr (by omega) (by omega) rfl rfl rfl (by simp) fun g5 hs5 => ?_
        have n5 := hs5.next
        have f5 := hs5.floor
        simp only [rn0, reduceIte, Nat.reduceEqDiff, Nat.reduceAdd, Nat.reduceMul, Nat.reduceSub, Nat.reduceLeDiff, Nat.reduceLT, p1, p2, p4, p5, p6, p14, p15, hw, hne]
        rw [e1, e2]
        exact ⟨fun i hi => by rw [hs5.old i hi, go i hi], by omega, by omega, hs5.get⟩
    · have eg : gI S v L (k + 1) = gI S v L k := pick_no c
      simp only [rn0, reduceIte, Nat.reduceEqDiff, Nat.reduceAdd, Nat.reduceMul, Nat.reduceSub, Nat.reduceLeDiff, Nat.reduceLT, p1, p2, p4, p5, p6, p14, p15, hk', rg.whole (n := 8) rfl, rg.ld, wkg, Nat.zero_add, Nat.add_zero, Cells.idx hyg.v hv, Cells.fld hyg.v hv, begin_ld hyg hv, hwb, ev, c, hw]
      rw [eg]
      first | exact ⟨⟨go, gn, gf, gr⟩, rfl⟩ | exact ⟨go, gn, gf, gr⟩
  · rintro f g ms ⟨⟨go, gn, gf, gr⟩, rfl, p1, p2, p4, p5, p6, p14, p15⟩
    have rt : Row g g1.next _ := ⟨_, _, gr⟩
    simp only [rn0, reduceIte, Nat.reduceEqDiff, Nat.reduceAdd, Nat.reduceMul, Nat.reduceSub, Nat.reduceLeDiff, Nat.reduceLT, p1, p2, p4, p5, p6, p14, p15, Int.lt_irrefl, rt.whole (n := 2) rfl]
    refine step_store (b := g1.next) (off := 0) (vs := [.int .i64 (gLo (S.vb v) (gI S v L (hoursN S v))), .int .i64 (gHi (S.vb v) (gI S v L (hoursN S v)))]) rfl gr (by omega) (by omega) rfl rfl rfl (by simp) fun g6 hs6 => ?_
    rw [splice_all (by rfl)] at hs6
    simp only [rn0, reduceIte, Nat.reduceEqDiff, Nat.reduceAdd, Nat.reduceMul, Nat.reduceSub, Nat.reduceLeDiff, Nat.reduceLT, p4, p5, res_two, hs6.row.whole (n := 2) rfl]




theorem build_rng0 : buildA (fun x => (#[(0, 1), (1, 1)] : Array (Nat × Nat))[x]?) ⟨[.int .i64 0, .int .i64 0]⟩ [] h [] = some (.agg ⟨[.int .i64 0, .int .i64 0]⟩, h) := id rfl
open Classical in
noncomputable def errV (S : MS) (at_ : Int) : Int := if faultS S ≠ 0 then faultS S else if ¬ InV S at_ then 2 else if truthsS S = [] then 11 else 0
noncomputable def gAll (S : MS) (v : Nat) : List Int := gI S v (truthsS S) (hoursN S v)
noncomputable def goodE (S : MS) (at_ : Int) : Int := if errV S at_ = 0 then (if gAll S at_.toNat = [] then 10 else 0) else errV S at_
noncomputable def goodLo (S : MS) (at_ : Int) : Int := if errV S at_ = 0 then gLo (S.vb at_.toNat) (gAll S at_.toNat) else 0
noncomputable def goodHi (S : MS) (at_ : Int) : Int := if errV S at_ = 0 then gHi (S.vb at_.toNat) (gAll S at_.toNat) else 0
theorem errV_1 {S : MS} {at_ : Int} (hf : faultS S ≠ 0) : errV S at_ = faultS S := if_pos hf
theorem errV_2 {S : MS} {at_ : Int} (hf : faultS S = 0) (hv : ¬ InV S at_) : errV S at_ = 2 := by unfold errV; rw [if_neg (by simpa using hf), if_pos hv]
theorem errV_3 {S : MS} {at_ : Int} (hf : faultS S = 0) (hv : InV S at_) (hz : truthsS S = []) : errV S at_ = 11 := by unfold errV; rw [if_neg (by simpa using hf), if_neg (by intro q; exact q hv), if_pos hz]
theorem errV_4 {S : MS} {at_ : Int} (hf : faultS S = 0) (hv : InV S at_) (hz : truthsS S ≠ []) : errV S at_ = 0 := by unfold errV; rw [if_neg (by simpa using hf), if_neg (by intro q; exact q hv), if_neg hz]
theorem good_err {S : MS} {at_ : Int} (he : errV S at_ ≠ 0) : goodE S at_ = errV S at_ ∧ goodLo S at_ = 0 ∧ goodHi S at_ = 0 := ⟨if_neg he, if_neg he, if_neg he⟩
theorem good_ok {S : MS} {at_ : Int} (he : errV S at_ = 0) : goodE S at_ = (if gAll S at_.toNat = [] then 10 else 0) ∧ goodLo S at_ = gLo (S.vb at_.toNat) (gAll S at_.toNat) ∧ goodHi S at_ = gHi (S.vb at_.toNat) (gAll S at_.toNat) := ⟨if_pos he, if_pos he, if_pos he⟩
def s64 : SCode := (.seq (.ops [jO 2 (.box (T 0)), jO 4 (.alloc [(.int .i64 0), (.int .i64 0)]), jO 5 (.mov (jK 0))]) (.seq (.ops [jO 11 (.loadN 7 (T 2)), jO 12 (.mov (T 1)), jO 13 (.call (.func 109) [(T 11), (T 12), (.const (.slice none 0 0))]), jO 10 (.mov (T 13)), jO 14 (.extract 0 (T 10)), jO 15 (.extract 1 (T 10)), jO 6 (.alloc [(.int .i64 0), (.int .i64 0), (.slice none 0 0), (.int .i64 0), (.int .i64 0), (.slice none 0 0), (.slice none 0 0), (.slice none 0 0)]), ⟨none, none, .store 8 (T 6) (T 14)⟩, jO 7 (.mov (T 15))]) (.seq (.seq (.ops [jO 16 (.mov (T 7)), jO 17 (.int2 .neq (T 16) (jK 0))]) (.cond (T 17) (.seq (.ops [jO 18 (.build #[(0, 1), (1, 1)] [(.int .i64 0), (.int .i64 0)] [] []), jO 19 (.mov (T 7)), ⟨none, none, .store 2 (T 4) (T 18)⟩, jO 5 (.mov (T 19))]) .ret) .skip)) (.seq (.ops [jO 21 (.loadN 8 (T 6)), jO 22 (.mov (T 1)), jO 23 (.call (.func 110) [(T 21), (T 22)]), jO 20 (.mov (T 23)), jO 24 (.extract 0 (T 20)), jO 25 (.extract 1 (T 20)), jO 8 (.alloc [(.int .i64 0), (.int .i64 0)]), ⟨none, none, .store 2 (T 8) (T 24)⟩, jO 9 (.mov (T 25))]) (.seq (.seq (.ops [jO 26 (.mov (T 9)), jO 27 (.not (T 26))]) (.cond (T 27) (.seq (.ops [jO 28 (.build #[(0, 1), (1, 1)] [(.int .i64 0), (.int .i64 0)] [] []), ⟨none, none, .store 2 (T 4) (T 28)⟩, jO 5 (.mov (jK 10))]) .ret) .skip)) (.seq (.ops [jO 29 (.loadN 2 (T 8)), ⟨none, none, .store 2 (T 4) (T 29)⟩, jO 5 (.mov (jK 0))]) .ret))))))
theorem fok64 : FnOk Tryz.prog 64 30 s64 [.cellN 4 2, .tmp 5] := ⟨Tryz.f64, _, Tryz.func64, rfl, Tryz.ntmps64, by kernel_rfl, by kernel_rfl⟩
set_option maxHeartbeats 2000000 in
theorem goodP_c (hn : 2500 ≤ n) (hr : h.next + 1200000 < far) {wv vv sv : Value} {S : MS} (hy : SteepR h wv vv sv S) (hT : ThinS S) (at_ : Int) :
    call n (.func (.func 64) #[] #[]) [.agg ⟨stL S wv vv sv⟩, .int .i64 at_] h = some (.tuple ⟨[.agg ⟨[.int .i64 (goodLo S at_), .int .i64 (goodHi S at_)]⟩, .int .i64 (goodE S at_)]⟩, h) := by
  obtain ⟨n, rfl⟩ : ∃ p, n = p + 1 := ⟨n - 1, by omega⟩
  refine call_plain0 fok64 rfl rfl (by simp) rfl ?_
  have hy := hy.shut
  have hr : h.shutAll.next + 1200000 < far := hr
  have hfl : h.shutAll.floor ≤ h.shutAll.next := Nat.le_refl _
  generalize h.shutAll = h at hy hr hfl
  simp only [s64, jO, jF, jR, jS, jU, jA, jK, W_seq, W_ops]
  refine ops_box (cs := stL S wv vv sv) (by omega) rfl hy.one fun g1 hx1 => ?_
  have n1 := hx1.next
  have f1 := hx1.floor
  refine ops_alloc (cs := [.int .i64 0, .int .i64 0]) (by omega) rfl fun g2 hx2 => ?_
  have n2 := hx2.next
  have f2 := hx2.floor
  have sub2 : Sub All h g2 := hx1.sub.trans hx2.sub
  have w2 := (hx1.row.mono hx2.sub).whole (n := 7) rfl
  obtain ⟨pv, g3, eo, o3, u3, m3, f3, hp⟩ := openVat_c (n := n) (h := g2) (by omega) (by omega) (by omega) (hy.mono sub2) hT at_
  have sub3 : Sub All h g3 := sub2.trans (AHeap.subOf o3)
  have q3 : g3.get g1.next = some (.row [.int .i64 0, .int .i64 0] true 0) := by rw [o3 _ (by omega)]; exact hx2.get
  have z20 : ¬ (2 : Int) = 0 := by decide
  have z110 : ¬ (11 : Int) = 0 := by decide
  rcases hp with ⟨hf, rfl⟩ | ⟨hf, hv, rfl⟩ | ⟨hf, hv, hz, rfl⟩ | ⟨hf, hv, hz, tv, rfl, hone, htr, hlong⟩
  · have e0 : errV S at_ = faultS S := errV_1 hf
    obtain ⟨q1, q2, q3'⟩ := good_err (S := S) (at_ := at_) (by rw [e0]; exact hf)
    rw [q1, q2, q3', e0]
    simp only [rn0, reduceIte, Nat.reduceEqDiff, Nat.reduceAdd, Nat.reduceMul, Nat.reduceSub, Nat.reduceLeDiff, Nat.reduceLT, w2, eo, ex0, ex1]
    refine step_new (vs := wk0) (by omega) (by omega) rfl (by simp only [rn0, reduceIte, Nat.reduceEqDiff, Nat.reduceAdd, Nat.reduceMul, Nat.reduceSub, Nat.reduceLeDiff, Nat.reduceLT]; rfl) rfl rfl rfl fun g4 hx4 => ?_
    have n4 := hx4.next
    have f4 := hx4.floor
    simp only [rn0, reduceIte, Nat.reduceEqDiff, Nat.reduceAdd, Nat.reduceMul, Nat.reduceSub, Nat.reduceLeDiff, Nat.reduceLT, hf, build_rng0]
    refine step_store (b := g1.next) (off := 0) (vs := [.int .i64 0, .int .i64 0]) rfl (by rw [hx4.old _ (by omega)]; exact q3) (by omega) (by omega) rfl rfl rfl (by simp) fun g6 hs6 => ?_
    rw [splice_all (by rfl)] at hs6
    simp only [rn0, reduceIte, Nat.reduceEqDiff, Nat.reduceAdd, Nat.reduceMul, Nat.reduceSub, Nat.reduceLeDiff, Nat.reduceLT, res_two, hs6.row.whole (n := 2) rfl]
  · have e0 : errV S at_ = 2 := errV_2 hf hv
    obtain ⟨q1, q2, q3'⟩ := good_err (S := S) (at_ := at_) (by rw [e0]; exact z20)
    rw [q1, q2, q3', e0]
    simp only [rn0, reduceIte, Nat.reduceEqDiff, Nat.reduceAdd, Nat.reduceMul, Nat.reduceSub, Nat.reduceLeDiff, Nat.reduceLT, w2, eo, ex0, ex1]
    refine step_new (vs := wk0) (by omega) (by omega) rfl (by simp only [rn0, reduceIte, Nat.reduceEqDiff, Nat.reduceAdd, Nat.reduceMul, Nat.reduceSub, Nat.reduceLeDiff, Nat.reduceLT]; rfl) rfl rfl rfl fun g4 hx4 => ?_
    have n4 := hx4.next
    have f4 := hx4.floor
    simp only [rn0, reduceIte, Nat.reduceEqDiff, Nat.reduceAdd, Nat.reduceMul, Nat.reduceSub, Nat.reduceLeDiff, Nat.reduceLT, z20, build_rng0]
    refine step_store (b := g1.next) (off := 0) (vs := [.int .i64 0, .int .i64 0]) rfl (by rw [hx4.old _ (by omega)]; exact q3) (by omega) (by omega) rfl rfl rfl (by simp) fun g6 hs6 => ?_
    rw [splice_all (by rfl)] at hs6
    simp only [rn0, reduceIte, Nat.reduceEqDiff, Nat.reduceAdd, Nat.reduceMul, Nat.reduceSub, Nat.reduceLeDiff, Nat.reduceLT, res_two, hs6.row.whole (n := 2) rfl]
  · have e0 : errV S at_ = 11 := errV_3 hf hv hz
    obtain ⟨q1, q2, q3'⟩ := good_err (S := S) (at_ := at_) (by rw [e0]; exact z110)
    rw [q1, q2, q3', e0]
    simp only [rn0, reduceIte, Nat.reduceEqDiff, Nat.reduceAdd, Nat.reduceMul, Nat.reduceSub, Nat.reduceLeDiff, Nat.reduceLT, w2, eo, ex0, ex1]
    refine step_new (vs := wk0) (by omega) (by omega) rfl (by simp only [rn0, reduceIte, Nat.reduceEqDiff, Nat.reduceAdd, Nat.reduceMul, Nat.reduceSub, Nat.reduceLeDiff, Nat.reduceLT]; rfl) rfl rfl rfl fun g4 hx4 => ?_
    have n4 := hx4.next
    have f4 := hx4.floor
    simp only [rn0, reduceIte, Nat.reduceEqDiff, Nat.reduceAdd, Nat.reduceMul, Nat.reduceSub, Nat.reduceLeDiff, Nat.reduceLT, z110, build_rng0]
    refine step_store (b := g1.next) (off := 0) (vs := [.int .i64 0, .int .i64 0]) rfl (by rw [hx4.old _ (by omega)]; exact q3) (by omega) (by omega) rfl rfl rfl (by simp) fun g6 hs6 => ?_
    rw [splice_all (by rfl)] at hs6
    simp only [rn0, reduceIte, Nat.reduceEqDiff, Nat.reduceAdd, Nat.reduceMul, Nat.reduceSub, Nat.reduceLeDiff, Nat.reduceLT, res_two, hs6.row.whole (n := 2) rfl]
  · have hG := good_of hf
    have e0 : errV S at_ = 0 := errV_4 hf hv hz
    obtain ⟨q1, q2, q3'⟩ := good_ok e0
    rw [q1, q2, q3']
    have how := wk_one hy (tv := tv) hone
    obtain ⟨va, hva⟩ : ∃ va : Nat, at_ = (va : Int) := ⟨at_.toNat, by unfold InV at hv; omega⟩
    subst hva
    have hvn : va < S.nv := by unfold InV at hv; omega
    simp only [Int.toNat_natCast]
    simp only [rn0, reduceIte, Nat.reduceEqDiff, Nat.reduceAdd, Nat.reduceMul, Nat.reduceSub, Nat.reduceLeDiff, Nat.reduceLT, w2, eo, ex0, ex1]
    refine step_new (vs := wkL S wv vv sv tv) (by omega) (by omega) rfl (by simp only [rn0, reduceIte, Nat.reduceEqDiff, Nat.reduceAdd, Nat.reduceMul, Nat.reduceSub, Nat.reduceLeDiff, Nat.reduceLT]; rfl) how rfl rfl fun g4 hx4 => ?_
    have n4 := hx4.next
    have f4 := hx4.floor
    have sub4 := sub3.trans hx4.sub
    have htr4 : TruthsR g4 S tv (truthsS S) := Cells.mono htr hx4.sub
    have q4 : g4.get g1.next = some (.row [.int .i64 0, .int .i64 0] true 0) := by rw [hx4.old _ (by omega)]; exact q3
    have eg := goodHours_c (n := n) (h := g4) (by omega) (by omega) (hy.mono sub4) hone hG (truths_len hG) (fun t ht => (truths_mem.1 ht).1.1) htr4 hvn
    change call n _ _ g4 = some (.tuple ⟨[.agg ⟨[.int .i64 (gLo (S.vb va) (gAll S va)), .int .i64 (gHi (S.vb va) (gAll S va))]⟩, .bool (decide (gAll S va ≠ []))]⟩, g4) at eg
    by_cases c : gAll S va = []
    · have d0 : decide (gAll S va ≠ []) = false := decide_eq_false (by simpa using c)
      rw [if_pos c, c, gLo_nil, gHi_nil]
      rw [d0, c, gLo_nil, gHi_nil] at eg
      simp only [rn0, reduceIte, Nat.reduceEqDiff, Nat.reduceAdd, Nat.reduceMul, Nat.reduceSub, Nat.reduceLeDiff, Nat.reduceLT, hx4.row.whole (n := 8) rfl, eg, ex0, ex1]
      refine step_new (vs := [.int .i64 0, .int .i64 0]) (by omega) (by omega) rfl (by simp only [rn0, reduceIte, Nat.reduceEqDiff, Nat.reduceAdd, Nat.reduceMul, Nat.reduceSub, Nat.reduceLeDiff, Nat.reduceLT]; rfl) rfl rfl rfl fun g5 hx5 => ?_
      have n5 := hx5.next
      have f5 := hx5.floor
      simp only [rn0, reduceIte, Nat.reduceEqDiff, Nat.reduceAdd, Nat.reduceMul, Nat.reduceSub, Nat.reduceLeDiff, Nat.reduceLT, build_rng0]
      refine step_store (b := g1.next) (off := 0) (vs := [.int .i64 0, .int .i64 0]) rfl (by rw [hx5.old _ (by omega)]; exact q4) (by omega) (by omega) rfl rfl rfl (by simp) fun g6 hs6 => ?_
      rw [splice_all (by rfl)] at hs6
      simp only [rn0, reduceIte, Nat.reduceEqDiff, Nat.reduceAdd, Nat.reduceMul, Nat.reduceSub, Nat.reduceLeDiff, Nat.reduceLT, res_two, hs6.row.whole (n := 2) rfl]
    · have d0 : decide (gAll S va ≠ []) = true := decide_eq_true c
      rw [if_neg c]
      rw [d0] at eg
      simp only [rn0, reduceIte, Nat.reduceEqDiff, Nat.reduceAdd, Nat.reduceMul, Nat.reduceSub, Nat.reduceLeDiff, Nat.reduceLT, hx4.row.whole (n := 8) rfl, eg, ex0, ex1]
      refine step_new (vs := [.int .i64 (gLo (S.vb va) (gAll S va)), .int .i64 (gHi (S.vb va) (gAll S va))]) (by omega) (by omega) rfl (by simp only [rn0, reduceIte, Nat.reduceEqDiff, Nat.reduceAdd, Nat.reduceMul, Nat.reduceSub, Nat.reduceLeDiff, Nat.reduceLT]; rfl) rfl rfl rfl fun g5 hx5 => ?_
      have n5 := hx5.next
      have f5 := hx5.floor
      simp only [rn0, reduceIte, Nat.reduceEqDiff, Nat.reduceAdd, Nat.reduceMul, Nat.reduceSub, Nat.reduceLeDiff, Nat.reduceLT, hx5.row.whole (n := 2) rfl]
      refine step_store (b := g1.next) (off := 0) (vs := [.int .i64 (gLo (S.vb va) (gAll S va)), .int .i64 (gHi (S.vb va) (gAll S va))]) rfl (by rw [hx5.old _ (by omega)]; exact q4) (by omega) (by omega) rfl rfl rfl (by simp) fun g6 hs6 => ?_
      rw [splice_all (by rfl)] at hs6
      simp only [rn0, reduceIte, Nat.reduceEqDiff, Nat.reduceAdd, Nat.reduceMul, Nat.reduceSub, Nat.reduceLeDiff, Nat.reduceLT, res_two, hs6.row.whole (n := 2) rfl]
theorem verd_one {S : MS} {v : Nat} {hh kk : Int} {L : List (Nat → Int)} (hL : L ≠ []) : verdS S v hh kk L = 1 ↔ ∀ t, t ∈ L → kindS S t v hh = kk := by
  obtain ⟨t, ht⟩ := List.exists_mem_of_ne_nil _ hL
  unfold verdS
  by_cases c1 : ∀ t, t ∈ L → kindS S t v hh ≠ kk
  · rw [if_pos c1]
    exact ⟨fun e => absurd e (by decide), fun q => absurd (q t ht) (c1 t ht)⟩
  · rw [if_neg c1]
    by_cases c2 : ∀ t, t ∈ L → kindS S t v hh = kk
    · rw [if_pos c2]; exact ⟨fun _ => c2, fun _ => rfl⟩
    · rw [if_neg c2]; exact ⟨fun e => absurd e (by decide), fun q => absurd q c2⟩
theorem kind_up {S : MS} {u : Nat → Int} (hG : Good S) (hu : InU S u) {v : Nat} (hv : v < S.nv) {i : Nat} : ∀ d, i + d < hoursN S v → kindS S u v (S.vb v + (i : Int)) ≤ kindS S u v (S.vb v + ((i + d : Nat) : Int))
  | 0, _ => Int.le_refl _
  | d + 1, hd => by
    have h1 := kind_up hG hu hv (i := i) d (by omega)
    have o1 := hour_at hG hv (i := i + d) (by omega)
    have o2 := hour_at hG hv (i := i + d + 1) (by omega)
    have ee : S.vb v + ((i + d + 1 : Nat) : Int) = S.vb v + ((i + d : Nat) : Int) + 1 := by omega
    have h2 := kind_next hG hu o1 (by rw [← ee]; exact o2)
    rw [← ee] at h2
    exact Int.le_trans h1 h2
theorem good_mid {S : MS} (hG : Good S) {v : Nat} (hv : v < S.nv) {L : List (Nat → Int)} (hL : L ≠ []) (hin : ∀ t, t ∈ L → InU S t) {a b c : Nat} (h1 : a ≤ b) (h2 : b ≤ c) (h3 : c < hoursN S v) (ha : verdS S v (S.vb v + (a : Int)) 1 L = 1) (hc : verdS S v (S.vb v + (c : Int)) 1 L = 1) : verdS S v (S.vb v + (b : Int)) 1 L = 1 := by
  rw [verd_one hL] at ha hc ⊢
  intro t ht
  have k1 := kind_up hG (hin t ht) hv (i := a) (b - a) (by omega)
  have k2 := kind_up hG (hin t ht) hv (i := b) (c - b) (by omega)
  rw [show a + (b - a) = b by omega, ha t ht] at k1
  rw [show b + (c - b) = c by omega, hc t ht] at k2
  omega
theorem pick_run {p : Nat → Prop} : ∀ (k : Nat), (∀ a b c, a ≤ b → b ≤ c → c < k → p a → p c → p b) → pickL p k ≠ [] → ∃ a, (∀ i, i < (pickL p k).length → atL (pickL p k) i = ((a + i : Nat) : Int)) ∧ a + (pickL p k).length ≤ k ∧ ∀ x, x < k → (p x ↔ a ≤ x ∧ x < a + (pickL p k).length)
  | 0, _, h => absurd rfl h
  | k + 1, hg, h => by
    by_cases c : p k
    · rw [pick_yes c] at h ⊢
      by_cases c0 : pickL p k = []
      · refine ⟨k, ?_, by rw [c0]; simp, ?_⟩
        · rw [c0]
          intro i hi
          simp only [List.nil_append, List.length_singleton] at hi
          obtain rfl : i = 0 := by omega
          rfl
        · rw [c0]
          intro x hx
          simp only [List.nil_append, List.length_singleton]
          constructor
          · intro hp
            by_cases e : x = k
            · omega
            · obtain ⟨i, i1, i2⟩ := pick_has (p := p) (k := k) (show x < k by omega) hp
              rw [c0] at i1
              exact absurd i1 (Nat.not_lt_zero _)
          · intro q
            obtain rfl : x = k := by omega
            exact c
      · obtain ⟨a, h1, h2, h3⟩ := pick_run k (fun a b c h1 h2 h3 => hg a b c h1 h2 (by omega)) c0
        have hpos : 0 < (pickL p k).length := List.length_pos_iff.2 c0
        have hpa : p a := (h3 a (by omega)).2 ⟨Nat.le_refl _, by omega⟩
        have hend : a + (pickL p k).length = k := by
          apply Classical.byContradiction
          intro hne
          have := (h3 (a + (pickL p k).length) (by omega)).1 (hg a _ k (by omega) (by omega) (by omega) hpa c)
          omega
        refine ⟨a, fun i hi => ?_, by rw [List.length_append, List.length_singleton]; omega, fun x hx => ?_⟩
        · rw [List.length_append, List.length_singleton] at hi
          by_cases e : i < (pickL p k).length
          · rw [at_append e, h1 i e]
          · obtain rfl : i = (pickL p k).length := by omega
            rw [at_last, hend]
        · rw [List.length_append, List.length_singleton]
          by_cases e : x = k
          · subst e
            exact ⟨fun _ => ⟨by omega, by omega⟩, fun _ => c⟩
          · rw [h3 x (by omega)]
            omega
    · rw [pick_no c] at h ⊢
      obtain ⟨a, h1, h2, h3⟩ := pick_run k (fun a b c h1 h2 h3 => hg a b c h1 h2 (by omega)) h
      refine ⟨a, h1, by omega, fun x hx => ?_⟩
      by_cases e : x = k
      · subst e
        exact ⟨fun q => absurd q c, fun q => by omega⟩
      · exact h3 x (by omega)
theorem gAll_run {S : MS} (hG : Good S) {v : Nat} (hv : v < S.nv) (hz : truthsS S ≠ []) (hne : gAll S v ≠ []) : ∃ a : Nat, a + (gAll S v).length ≤ hoursN S v ∧ 0 < (gAll S v).length ∧ gLo (S.vb v) (gAll S v) = S.vb v + (a : Int) ∧ gHi (S.vb v) (gAll S v) = S.vb v + ((a + (gAll S v).length - 1 : Nat) : Int) ∧ ∀ x, x < hoursN S v → (verdS S v (S.vb v + (x : Int)) 1 (truthsS S) = 1 ↔ a ≤ x ∧ x < a + (gAll S v).length) := by
  obtain ⟨a, h1, h2, h3⟩ := pick_run (p := fun i => verdS S v (S.vb v + (i : Int)) 1 (truthsS S) = 1) (hoursN S v) (fun a b c k1 k2 k3 ha hc => good_mid hG hv hz (fun t ht => (truths_mem.1 ht).1.1) k1 k2 k3 ha hc) hne
  have e : pickL (fun i => verdS S v (S.vb v + (i : Int)) 1 (truthsS S) = 1) (hoursN S v) = gAll S v := rfl
  simp only [e] at h1 h2 h3
  have hpos : 0 < (gAll S v).length := List.length_pos_iff.2 hne
  refine ⟨a, h2, hpos, ?_, ?_, h3⟩
  · unfold gLo
    rw [if_neg hne, h1 0 hpos, Nat.add_zero]
  · unfold gHi
    rw [if_neg hne, h1 _ (by omega)]
    congr 2
    omega

end Go.Vm.St

namespace Go.Vm
variable {P : Program} {N : Nat} {f : Fr} {h : AHeap} {ty t u e : TypeId} {x y : Operand}
end Go.Vm
namespace Go.Vm.St
open Go.Proofs Go.Vm.Vat
set_option linter.unusedSimpArgs false
set_option linter.unusedVariables false
set_option maxRecDepth 10000
variable {n : Nat} {h : AHeap}

open Classical in
noncomputable def errT (S : MS) : Int := if faultS S ≠ 0 then faultS S else if truthsS S = [] then 11 else 0
theorem errT_1 {S : MS} (hf : faultS S ≠ 0) : errT S = faultS S := if_pos hf
theorem errT_2 {S : MS} (hf : faultS S = 0) (hz : truthsS S = []) : errT S = 11 := by unfold errT; rw [if_neg (by simpa using hf), if_pos hz]
theorem errT_3 {S : MS} (hf : faultS S = 0) (hz : truthsS S ≠ []) : errT S = 0 := by unfold errT; rw [if_neg (by simpa using hf), if_neg hz]
noncomputable def nilF (S : MS) : Nat → Option Nat
  | 0 => none
  | k + 1 => match nilF S k with
    | some v => some v
    | none => if gAll S k = [] then some k else none
theorem nilF_yes {S : MS} {k : Nat} (h0 : nilF S k = none) (h1 : gAll S k = []) : nilF S (k + 1) = some k := by simp only [nilF, h0]; rw [if_pos h1]
theorem nilF_no {S : MS} {k : Nat} (h0 : nilF S k = none) (h1 : gAll S k ≠ []) : nilF S (k + 1) = none := by simp only [nilF, h0]; rw [if_neg h1]
theorem nilF_up {S : MS} {k v : Nat} (h0 : nilF S k = some v) : ∀ d, nilF S (k + d) = some v
  | 0 => h0
  | d + 1 => by
    have := nilF_up h0 d
    show nilF S (k + d + 1) = some v
    simp only [nilF, this]
theorem nilF_at {S : MS} {k m : Nat} (hk : k < m) (h0 : nilF S k = none) (h1 : gAll S k = []) : nilF S m = some k := by
  have := nilF_up (nilF_yes h0 h1) (m - (k + 1))
  rw [show k + 1 + (m - (k + 1)) = m by omega] at this
  exact this
def optI : Option Nat → Int → Int
  | some v, _ => (v : Int)
  | none, d => d
noncomputable def stuckV (S : MS) : Int := if errT S = 0 then optI (nilF S S.nv) 0 else 0
noncomputable def stuckE (S : MS) : Int := if errT S = 0 then (if nilF S S.nv = none then 7 else 0) else errT S
def s80 : SCode := (.seq (.ops [jO 1 (.box (T 0)), jO 2 (.mov (jK 0)), jO 3 (.mov (jK 0))]) (.seq (.ops [jO 10 (.loadN 7 (T 1)), jO 11 (.call (.func 116) [(T 10)]), jO 9 (.mov (T 11)), jO 12 (.extract 0 (T 9)), jO 13 (.extract 1 (T 9)), jO 4 (.alloc [(.int .i64 0), (.int .i64 0), (.slice none 0 0), (.int .i64 0), (.int .i64 0), (.slice none 0 0), (.slice none 0 0), (.slice none 0 0)]), ⟨none, none, .store 8 (T 4) (T 12)⟩, jO 5 (.mov (T 13))]) (.seq (.seq (.ops [jO 14 (.mov (T 5)), jO 15 (.int2 .neq (T 14) (jK 0))]) (.cond (T 15) (.seq (.ops [jO 16 (.mov (T 5)), jO 2 (.mov (jK 0)), jO 3 (.mov (T 16))]) .ret) .skip)) (.seq (.seq (.ops [jO 17 (.fieldAddr 0 (T 4)), jO 18 (.fieldAddr 5 (T 17)), jO 19 (.load1 (T 18)), jO 20 (.len (T 19)), jO 21 (.mov (jK 0))]) (.block 0 (.loop (.seq (.ops [jO 22 (.int2 .lss (T 21) (T 20))]) (.seq (.cond (T 22) .skip (.exit 0)) (.seq (.block 1 (.seq (.ops [jO 23 (.mov (T 21)), jO 6 (.mov (T 23))]) (.seq (.ops [jO 25 (.loadN 8 (T 4)), jO 26 (.mov (T 6)), jO 27 (.call (.func 110) [(T 25), (T 26)]), jO 24 (.mov (T 27)), jO 28 (.extract 0 (T 24)), jO 29 (.extract 1 (T 24)), jO 7 (.alloc [(.int .i64 0), (.int .i64 0)]), ⟨none, none, .store 2 (T 7) (T 28)⟩, jO 8 (.mov (T 29))]) (.seq (.ops [jO 30 (.mov (T 8)), jO 31 (.not (T 30))]) (.cond (T 31) (.seq (.ops [jO 32 (.mov (T 6)), jO 2 (.mov (T 32)), jO 3 (.mov (jK 0))]) .ret) .skip))))) (.ops [jO 33 (.int2 .add (T 21) (jK 1)), jO 21 (.mov (T 33))]))))))) (.seq (.ops [jO 2 (.mov (jK 0)), jO 3 (.mov (jK 7))]) .ret)))))
theorem fok80 : FnOk Tryz.prog 80 34 s80 [.tmp 2, .tmp 3] := ⟨Tryz.f80, _, Tryz.func80, rfl, Tryz.ntmps80, by kernel_rfl, by kernel_rfl⟩
set_option maxHeartbeats 2000000 in
theorem stuckP_c (hn : 2500 ≤ n) (hr : h.next + 1200000 < far) {wv vv sv : Value} {S : MS} (hy : SteepR h wv vv sv S) (hT : ThinS S) :
    call n (.func (.func 80) #[] #[]) [.agg ⟨stL S wv vv sv⟩] h = some (.tuple ⟨[.int .i64 (stuckV S), .int .i64 (stuckE S)]⟩, h) := by
  obtain ⟨n, rfl⟩ : ∃ p, n = p + 1 := ⟨n - 1, by omega⟩
  refine call_plain0 fok80 rfl rfl (by simp) rfl ?_
  have hy := hy.shut
  have hr : h.shutAll.next + 1200000 < far := hr
  have hfl : h.shutAll.floor ≤ h.shutAll.next := Nat.le_refl _
  generalize h.shutAll = h at hy hr hfl
  simp only [s80, jO, jF, jR, jS, jU, jA, jK, W_seq, W_ops]
  refine ops_box (cs := stL S wv vv sv) (by omega) rfl hy.one fun g1 hx1 => ?_
  have n1 := hx1.next
  have f1 := hx1.floor
  have w1 := hx1.row.whole (n := 7) rfl
  obtain ⟨pv, g3, eo, o3, u3, m3, f3, hp⟩ := openTrue_c (n := n) (h := g1) (by omega) (by omega) (by omega) (hy.mono hx1.sub) hT
  have sub3 : Sub All h g3 := hx1.sub.trans (AHeap.subOf o3)
  have z110 : ¬ (11 : Int) = 0 := by decide
  rcases hp with ⟨hf, rfl⟩ | ⟨hf, hz, rfl⟩ | ⟨hf, hz, tv, rfl, hone, htr, hlong⟩
  · have e0 : errT S = faultS S := errT_1 hf
    have q1 : stuckV S = 0 := if_neg (by rw [e0]; exact hf)
    have q2 : stuckE S = faultS S := by unfold stuckE; rw [if_neg (by rw [e0]; exact hf), e0]
    rw [q1, q2]
    simp only [rn0, reduceIte, Nat.reduceEqDiff, Nat.reduceAdd, Nat.reduceMul, Nat.reduceSub, Nat.reduceLeDiff, Nat.reduceLT, w1, eo, ex0, ex1]
    refine step_new (vs := wk0) (by omega) (by omega) rfl (by simp only [rn0, reduceIte, Nat.reduceEqDiff, Nat.reduceAdd, Nat.reduceMul, Nat.reduceSub, Nat.reduceLeDiff, Nat.reduceLT]; rfl) rfl rfl rfl fun g4 hx4 => ?_
    simp only [rn0, reduceIte, Nat.reduceEqDiff, Nat.reduceAdd, Nat.reduceMul, Nat.reduceSub, Nat.reduceLeDiff, Nat.reduceLT, hf, ret_tt]
  · have e0 : errT S = 11 := errT_2 hf hz
    have q1 : stuckV S = 0 := if_neg (by rw [e0]; exact z110)
    have q2 : stuckE S = 11 := by unfold stuckE; rw [if_neg (by rw [e0]; exact z110), e0]
    rw [q1, q2]
    simp only [rn0, reduceIte, Nat.reduceEqDiff, Nat.reduceAdd, Nat.reduceMul, Nat.reduceSub, Nat.reduceLeDiff, Nat.reduceLT, w1, eo, ex0, ex1]
    refine step_new (vs := wk0) (by omega) (by omega) rfl (by simp only [rn0, reduceIte, Nat.reduceEqDiff, Nat.reduceAdd, Nat.reduceMul, Nat.reduceSub, Nat.reduceLeDiff, Nat.reduceLT]; rfl) rfl rfl rfl fun g4 hx4 => ?_
    simp only [rn0, reduceIte, Nat.reduceEqDiff, Nat.reduceAdd, Nat.reduceMul, Nat.reduceSub, Nat.reduceLeDiff, Nat.reduceLT, z110, ret_tt]
  · have hG := good_of hf
    have e0 : errT S = 0 := errT_3 hf hz
    have q1 : stuckV S = optI (nilF S S.nv) 0 := if_pos e0
    have q2 : stuckE S = if nilF S S.nv = none then 7 else 0 := if_pos e0
    have how := wk_one hy (tv := tv) hone
    obtain ⟨_, _, _, _, z4, _⟩ := hG.sizes
    simp only [rn0, reduceIte, Nat.reduceEqDiff, Nat.reduceAdd, Nat.reduceMul, Nat.reduceSub, Nat.reduceLeDiff, Nat.reduceLT, w1, eo, ex0, ex1]
    refine step_new (vs := wkL S wv vv sv tv) (by omega) (by omega) rfl (by simp only [rn0, reduceIte, Nat.reduceEqDiff, Nat.reduceAdd, Nat.reduceMul, Nat.reduceSub, Nat.reduceLeDiff, Nat.reduceLT]; rfl) how rfl rfl fun g4 hx4 => ?_
    have n4 := hx4.next
    have f4 := hx4.floor
    have sub4 := sub3.trans hx4.sub
    have htr4 : TruthsR g4 S tv (truthsS S) := Cells.mono htr hx4.sub
    have hy4 := hy.mono sub4
    simp only [rn0, reduceIte, Nat.reduceEqDiff, Nat.reduceAdd, Nat.reduceMul, Nat.reduceSub, Nat.reduceLeDiff, Nat.reduceLT, hx4.row.ld, wkg, Nat.zero_add, Nat.add_zero, Cells.len hy4.v]
    refine W_loop S.nv (fun k f g ms => (Sub All g4 g ∧ g4.next ≤ g.next ∧ g.next ≤ g4.next + k ∧ g.floor = g4.floor ∧ nilF S k = none) ∧ ms = [] ∧ f 4 = .pointer (some ⟨g3.next, 0, none⟩) ∧ f 20 = .int .i64 (S.nv : Int) ∧ f 21 = .int .i64 (k : Int)) (by simp; omega) ?_ ?_ ?_
    · simp only [rn0, reduceIte, Nat.reduceEqDiff, Nat.reduceAdd, Nat.reduceMul, Nat.reduceSub, Nat.reduceLeDiff, Nat.reduceLT]
      first | exact ⟨⟨by omega, rfl⟩, rfl⟩ | exact ⟨⟨Sub.refl, by omega, by omega, rfl, rfl⟩, rfl⟩ | exact ⟨⟨Nat.le_refl _, rfl⟩, rfl⟩ | exact ⟨rfl, rfl⟩ | exact rfl | trace_state
    · rintro k f g ms hk ⟨⟨sg, ug, mg, fg, hk0⟩, rfl, p4, p20, p21⟩
      have hk' : (k : Int) < (S.nv : Int) := by omega
      have hw : wrapF .i64 ((k : Int) + 1) = ((k + 1 : Nat) : Int) := by rw [wrap_in (by omega) (by omega)]; rfl
      have eg := goodHours_c (n := n) (h := g) (by omega) (by omega) (hy4.mono sg) hone hG (truths_len hG) (fun t ht => (truths_mem.1 ht).1.1) (Cells.mono htr4 sg) hk
      change call n _ _ g = some (.tuple ⟨[.agg ⟨[.int .i64 (gLo (S.vb k) (gAll S k)), .int .i64 (gHi (S.vb k) (gAll S k))]⟩, .bool (decide (gAll S k ≠ []))]⟩, g) at eg
      have r4 := hx4.row.mono sg
      simp only [rn0, reduceIte, Nat.reduceEqDiff, Nat.reduceAdd, Nat.reduceMul, Nat.reduceSub, Nat.reduceLeDiff, Nat.reduceLT, p4, p20, p21, hk', r4.whole (n := 8) rfl, eg, ex0, ex1]
      refine step_new (vs := [.int .i64 (gLo (S.vb k) (gAll S k)), .int .i64 (gHi (S.vb k) (gAll S k))]) (by omega) (by omega) rfl (by simp only [rn0, reduceIte, Nat.reduceEqDiff, Nat.reduceAdd, Nat.reduceMul, Nat.reduceSub, Nat.reduceLeDiff, Nat.reduceLT]; rfl) rfl rfl rfl fun g5 hx5 => ?_
      have n5 := hx5.next
      have f5 := hx5.floor
      by_cases c : gAll S k = []
      · have d0 : decide (gAll S k ≠ []) = false := decide_eq_false (by simpa using c)
        have hN := nilF_at hk hk0 c
        have q3 : optI (nilF S S.nv) 0 = (k : Int) := by rw [hN]; rfl
        have q4 : (if nilF S S.nv = none then (7 : Int) else 0) = 0 := by rw [hN]; rfl
        rw [q1, q2, q3, q4]
        simp only [rn0, reduceIte, Nat.reduceEqDiff, Nat.reduceAdd, Nat.reduceMul, Nat.reduceSub, Nat.reduceLeDiff, Nat.reduceLT, d0, p4, p20, p21, ret_tt]
      · have d0 : decide (gAll S k ≠ []) = true := decide_eq_true c
        simp only [rn0, reduceIte, Nat.reduceEqDiff, Nat.reduceAdd, Nat.reduceMul, Nat.reduceSub, Nat.reduceLeDiff, Nat.reduceLT, d0, p4, p20, p21, hw]
        first | exact ⟨⟨sg.trans hx5.sub, by omega, by omega, by omega, nilF_no hk0 c⟩, rfl⟩ | exact ⟨sg.trans hx5.sub, by omega, by omega, by omega, nilF_no hk0 c⟩
    · rintro f g ms ⟨⟨sg, ug, mg, fg, hk0⟩, rfl, p4, p20, p21⟩
      have q3 : optI (nilF S S.nv) 0 = 0 := by rw [hk0]; rfl
      have q4 : (if nilF S S.nv = none then (7 : Int) else 0) = 7 := if_pos hk0
      rw [q1, q2, q3, q4]
      simp only [rn0, reduceIte, Nat.reduceEqDiff, Nat.reduceAdd, Nat.reduceMul, Nat.reduceSub, Nat.reduceLeDiff, Nat.reduceLT, p4, p20, p21, Int.lt_irrefl, ret_tt]
end Go.Vm.St

namespace Go.Vm
open Go.Vm.Vat
set_option linter.unusedSimpArgs false
set_option linter.unusedVariables false
section
variable {N : Nat} {P : List Int → Prop}
end
end Go.Vm

namespace Go.Vm
open Go.Vm.Vat
set_option linter.unusedSimpArgs false
set_option linter.unusedVariables false
variable {h g : AHeap}
def NoB (v : Value) (i : Nat) : Prop := ∀ b m c, v = .slice (some b) m c → i ≠ b.block
def SetR (B : Nat) (g : AHeap) (v : Value) (cur : List Int) : Prop :=
  (v = .slice none 0 0 ∧ cur = []) ∨ ∃ b cs, v = .slice (some ⟨b, 0, none⟩) cur.length unk ∧ g.get b = some (.row cs true 1) ∧ cur.length ≤ cs.length ∧ (∀ i, i < cur.length → cs[i]? = some (.int .i64 (atL cur i))) ∧ allB oneCell cs = true ∧ B ≤ b
theorem SetR.old {B : Nat} {v : Value} {cur : List Int} (hs : SetR B h v cur) (ho : ∀ a k c, v = .slice (some a) k c → a.block < h.next → g.get a.block = h.get a.block) : SetR B g v cur := by
  rcases hs with q | ⟨b, cs, rfl, h1, h2, h3, h4, h5⟩
  · exact .inl q
  · exact .inr ⟨b, cs, rfl, by rw [ho _ _ _ rfl (AHeap.lt_of_get h1)]; exact h1, h2, h3, h4, h5⟩
theorem SetR.ints {B : Nat} {v : Value} {cur : List Int} (hs : SetR B h v cur) : Ints h v cur.length (atL cur) := by
  rcases hs with ⟨rfl, rfl⟩ | ⟨b, cs, rfl, h1, h2, h3, h4, h5⟩
  · exact ⟨none, 0, rfl, fun x e => (by cases e), .inl rfl⟩
  · exact ⟨_, _, rfl, fun x e => (by cases e; rfl), .inr ⟨b, 0, cs, true, 1, rfl, h1, fun k j hk hj => by
      obtain rfl : j = 0 := by omega
      rw [Nat.zero_add, Nat.mul_one, Nat.add_zero]
      exact h3 k hk⟩⟩
theorem SetR.one {B : Nat} {v : Value} {cur : List Int} (hs : SetR B h v cur) : oneCell v = true := by
  rcases hs with ⟨rfl, rfl⟩ | ⟨b, cs, rfl, _⟩ <;> rfl
theorem SetR.block {B : Nat} {v : Value} {cur : List Int} (hs : SetR B h v cur) {a : Addr} {k c : Nat} (e : v = .slice (some a) k c) : B ≤ a.block ∧ a.block < h.next := by
  rcases hs with ⟨rfl, rfl⟩ | ⟨b, cs, rfl, h1, h2, h3, h4, h5⟩
  · cases e
  · cases e; exact ⟨h5, AHeap.lt_of_get h1⟩
theorem SetR.push {B : Nat} {v : Value} {cur : List Int} {x : Int} {g1 : AHeap} (hs : SetR B h v cur) (hB : h.floor ≤ B) (hf : h.next + 2 < far) (hBn : B ≤ h.next) (hx : New h g1 [.int .i64 x] 0) (hl : cur.length ≤ 1000) :
    ∃ v' g2, appendA 1 8 g1 v (.slice (some ⟨h.next, 0, none⟩) 1 1) = some (v', g2) ∧ SetR B g2 v' (cur ++ [x]) ∧ oneCell v' = true ∧ h.next ≤ g2.next ∧ g2.next ≤ h.next + 2 ∧ g2.floor = h.floor ∧ (∀ i, i < h.next → NoB v i → g2.get i = h.get i) ∧
      ∀ i, i < h.next → NoB v i → NoB v' i := by
  have n1 := hx.next
  have f1 := hx.floor
  have hlen : (cur ++ [x]).length = cur.length + 1 := by simp
  have hnewc : cellsOfSlice g1 1 (.slice (some ⟨h.next, 0, none⟩) 1 1) = some [.int .i64 x] := one_cells hx.get rfl
  have full : ∀ cs, Grow B h v 1 cur.length cs → allB oneCell cs = true → (∀ i, i < cur.length → cs[i]? = some (.int .i64 (atL cur i))) →
      ∃ v' g2, appendA 1 8 g1 v (.slice (some ⟨h.next, 0, none⟩) 1 1) = some (v', g2) ∧ SetR B g2 v' (cur ++ [x]) ∧ oneCell v' = true ∧ h.next ≤ g2.next ∧ g2.next ≤ h.next + 2 ∧ g2.floor = h.floor ∧ (∀ i, i < h.next → NoB v i → g2.get i = h.get i) ∧ ∀ i, i < h.next → NoB v i → NoB v' i := fun cs hg hc hv => by
    have hg1 : Grow B g1 v 1 cur.length cs := hg.keep fun b e hb => hx.old b hb
    obtain ⟨g2, e2, hg2, hk2⟩ := append_run (bytes := 8) hg1 (by omega) (by omega) ⟨_, _, rfl⟩ hnewc rfl rfl hc (by omega) (by omega) (by simp [maxBytes]; omega) (by simp [maxBytes]; omega)
    have n2 := hk2.next
    have f2 := hk2.floor
    have hcl := hg.len
    refine ⟨_, g2, e2, ?_, rfl, by omega, by omega, by omega, fun i hi hne => by rw [hk2.old i (by omega) fun b k c e => hne b k c e, hx.old i hi], fun i hi _ b k c e => by cases e; show i ≠ g1.next; omega⟩
    rcases hg2 with ⟨e, _⟩ | ⟨b, e, k1, k2, k3⟩
    · cases e
    · cases e
      refine .inr ⟨_, _, by rw [hlen], k1, by rw [k2, hlen]; omega, fun i hi => ?_, ?_, k3⟩
      · rw [hlen] at hi
        by_cases c : i < cur.length
        · rw [List.getElem?_append_left (by omega), hv i c, at_append c]
        · obtain rfl : i = cur.length := by omega
          rw [List.getElem?_append_right (by omega), hcl, Nat.mul_one, Nat.sub_self, at_last]
          rfl
      · rw [allB_iff] at *
        intro u hu
        rcases List.mem_append.1 hu with hu | hu
        · exact hc u hu
        · simp only [List.mem_singleton] at hu; subst hu; rfl
  rcases hs with ⟨rfl, rfl⟩ | ⟨b, cs, rfl, h1, h2, h3, h4, h5⟩
  · exact full [] .nil rfl fun i hi => absurd hi (Nat.not_lt_zero _)
  · by_cases hc : cs.length = cur.length
    · exact full cs (.inr ⟨b, rfl, h1, by rw [hc, Nat.mul_one], h5⟩) h4 h3
    · have hlt := AHeap.lt_of_get h1
      have h1' : g1.get b = some (.row cs true 1) := by rw [hx.old b hlt]; exact h1
      obtain ⟨g2, e2, hs2⟩ := storeRow_run (off := cur.length * 1) (vs := [.int .i64 x]) h1' (by omega) (by omega) rfl (by simp; omega)
      have hs2' := hs2
      rw [Nat.mul_one] at hs2'
      have n2 := hs2.next
      have f2 := hs2.floor
      have hold : cellsOfSlice g1 1 (.slice (some ⟨b, 0, none⟩) cur.length unk) = some (cs.take cur.length) := by
        show (bif Nat.beq cur.length 0 then some [] else match g1.get b with
          | some (.row cs _ _) => dropK cs 0 fun r => takeK r (cur.length * 1) fun l => some l
          | _ => none) = some (cs.take cur.length)
        by_cases hn0 : cur.length = 0
        · rw [hn0]; rfl
        · have hb : Nat.beq cur.length 0 = false := by
            cases hb : Nat.beq cur.length 0 with
            | false => rfl
            | true => exact absurd (beq_iff.1 hb) hn0
          rw [hb, cond_false, h1']
          simp only [dropK_eq, takeK_eq, Nat.zero_le, if_true, List.drop_zero, Nat.mul_one]
          rw [if_pos h2]
      have b1 : ∀ n, Nat.beq n n = true := fun n => beq_iff.2 rfl
      have b2 : Nat.beq (cur.length * 1) (len cs) = false := by
        cases hb : Nat.beq (cur.length * 1) (len cs) with
        | false => rfl
        | true => have := beq_iff.1 hb; rw [len_eq] at this; omega
      have b3 : Nat.ble ((cur.length + 1) * 1) (len cs) = true := ble_iff.2 (by rw [len_eq]; omega)
      have b4 : Nat.ble ((cur.length + 1) * 8) maxBytes = true := ble_iff.2 (by simp [maxBytes]; omega)
      have b5 : Nat.ble (cur.length + 1) maxBytes = true := ble_iff.2 (by simp [maxBytes]; omega)
      have b6 : Nat.beq (len [Value.int .i64 x]) (1 * 1) = true := rfl
      have b7 : Nat.blt unk unk = false := rfl
      refine ⟨.slice (some ⟨b, 0, none⟩) (cur.length + 1) unk, g2, ?_, .inr ⟨b, _, by rw [hlen], hs2'.get, ?_, fun i hi => ?_, ?_, h5⟩, rfl, by omega, by omega, by omega, fun i hi hne => by rw [hs2.old i (hne _ _ _ rfl), hx.old i hi], fun i hi hne b' k c e => by cases e; exact hne _ _ _ rfl⟩
      · unfold appendA
        simp only [hnewc, b4, b5, b6, Bool.and_self, cond_true, b7, Bool.and_false, cond_false]
        unfold appendGrow
        simp only [hold, b7, cond_false, h1', b1, b2, b3, Bool.and_self, Bool.and_true, Bool.and_false, Bool.true_and, Bool.false_and, cond_true, cond_false, e2]
      · rw [hlen]
        simp only [splice, List.length_append, List.length_take, List.length_cons, List.length_nil, List.length_drop]
        omega
      · rw [hlen] at hi
        simp only [splice]
        by_cases c : i < cur.length
        · rw [List.getElem?_append_left (by rw [List.length_take]; omega), List.getElem?_take, if_pos c, h3 i c, at_append c]
        · obtain rfl : i = cur.length := by omega
          have e0 : cur.length - (List.take cur.length cs).length = 0 := by rw [List.length_take]; omega
          rw [List.getElem?_append_right (by rw [List.length_take]; omega), e0, at_last]
          rfl
      · refine allB_iff.2 fun u hu => ?_
        simp only [splice] at hu
        rcases List.mem_append.1 hu with hu | hu
        · exact allB_iff.1 h4 u (List.mem_of_mem_take hu)
        · rcases List.mem_append.1 hu with hu | hu
          · simp only [List.mem_singleton] at hu; subst hu; rfl
          · exact allB_iff.1 h4 u (List.mem_of_mem_drop hu)
end Go.Vm

namespace Go.Vm
variable {P : Program} {N : Nat} {f : Fr} {h : AHeap} {ty t u : TypeId} {x y z : Operand}
end Go.Vm

namespace Go.Vm.St
open Go.Proofs Go.Vm.Vat
set_option linter.unusedSimpArgs false
set_option linter.unusedVariables false
set_option maxRecDepth 10000
variable {n : Nat} {h : AHeap}
def cntS (S : MS) (v : Nat) (hh kk : Int) (L : List (Nat → Int)) : Nat := cntB (fun t => kindS S t v hh) L kk
def lvS (S : MS) (v : Nat) (hh : Int) (L : List (Nat → Int)) : Int := max (max (cntS S v hh 0 L : Int) (cntS S v hh 1 L)) (cntS S v hh 2 L)
structure Sm where
  v : Int
  h : Int
  l : Int


noncomputable def gB (S : MS) (w : Int) : Bool := decide (goodE S w = 10 ∨ goodE S w = 0 ∧ goodLo S w ≤ goodHi S w)
theorem g_un {X : Cx} {d : Option Nat} {want : Bool} {op : SOp} {L : List SI} {Q : WPost} {f : Go.Vm.Fr} {m : List Nat} : gW X undef want d op L Q f h m = opsW X L Q (putF f d undef) h m := by
  have : isB want undef = false := rfl
  simp [gW, this]
theorem gAll_nil {S : MS} {v : Nat} : gAll S v = [] ↔ ∀ x, x < hoursN S v → ¬ verdS S v (S.vb v + (x : Int)) 1 (truthsS S) = 1 := by
  constructor
  · intro e x hx hp
    obtain ⟨i, i1, _⟩ := pick_has (p := fun i => verdS S v (S.vb v + (i : Int)) 1 (truthsS S) = 1) hx hp
    have i1 : i < (gAll S v).length := i1
    rw [e] at i1
    exact absurd i1 (Nat.not_lt_zero _)
  · intro hn
    apply Classical.byContradiction
    intro he
    have hpos : 0 < (gAll S v).length := List.length_pos_iff.2 he
    obtain ⟨j, j1, _, j3⟩ := pick_at (p := fun i => verdS S v (S.vb v + (i : Int)) 1 (truthsS S) = 1) (k := hoursN S v) (i := 0) hpos
    exact hn j j1 j3


theorem dg_un {X : Cx} {S : Nat → Prop} {h0 h : AHeap} {k : Kd} {d : Option Nat} {want : Bool} {op : SOp} {L : List DI} {Q : WPost} {f : Go.Vm.Fr} {m : List Nat} : dgW X S h0 undef want k d op L Q f h m = dW X S h0 L Q (putF f d undef) h m := by
  have : isB want undef = false := rfl
  simp [dgW, this]
theorem rowI_congr {m : Nat} {a b : Nat → Int} (he : ∀ i, i < m → a i = b i) : rowI m a = rowI m b := by
  unfold rowI
  refine List.map_congr_left fun i hi => ?_
  rw [he i (List.mem_range.1 hi)]
structure WarmM (g : AHeap) (S : MS) (p b1 b2 c1 : Nat) (v2 : Value) (u : Nat → Int) : Prop where
  row : g.get p = some (.row (trL (.slice (some ⟨b1, 0, none⟩) S.nw c1) v2 (u S.nw)) true 0)
  w : g.get b1 = some (.row (rowI S.nw u) true 1)
  f : S.nv = 0 ∨ ∃ c2, v2 = .slice (some ⟨b2, 0, none⟩) S.nv c2 ∧ g.get b2 = some (.row (rowI S.nv fun v => u (S.nw + 1 + v)) true 1)
theorem WarmM.congr {g : AHeap} {S : MS} {p b1 b2 c1 : Nat} {v2 : Value} {u u' : Nat → Int} (hm : WarmM g S p b1 b2 c1 v2 u) (he : ∀ i, i < numU S → u i = u' i) : WarmM g S p b1 b2 c1 v2 u' := by
  refine ⟨?_, ?_, ?_⟩
  · rw [← he S.nw (by unfold numU; omega)]; exact hm.row
  · rw [← rowI_congr fun i hi => he i (by unfold numU; omega)]; exact hm.w
  · rcases hm.f with h0 | ⟨c2, e, q⟩
    · exact .inl h0
    · exact .inr ⟨c2, e, by rw [← rowI_congr (a := fun v => u (S.nw + 1 + v)) fun i hi => he (S.nw + 1 + i) (by unfold numU; omega)]; exact q⟩
theorem WarmM.tru {g : AHeap} {S : MS} {p b1 b2 c1 : Nat} {x2 : Option Addr} {c2 : Nat} {u : Nat → Int} (hm : WarmM g S p b1 b2 c1 (.slice x2 S.nv c2) u) (h0 : ∀ x, x2 = some x → x.spot = none) : TruR g (.slice (some ⟨b1, 0, none⟩) S.nw c1) (.slice x2 S.nv c2) S u := by
  refine ⟨ints_row hm.w, ?_⟩
  rcases hm.f with h | ⟨c', e, q⟩
  · refine ⟨x2, c2, rfl, h0, .inl h⟩
  · cases e
    exact ints_row q

structure SmOk (S : MS) (L : List (Nat → Int)) (st : Sm) : Prop where
  at_ : ∃ v0 : Nat, st.v = (v0 : Int) ∧ HourOk S v0 st.h ∧ st.l = lvS S v0 st.h L

theorem build_none1 {a : Value} : buildSl 1 0 [a] [] h [] = newSlice h [] 0 0 0 := id rfl
def s79 : SCode := (.seq (.ops [jO 2 (.mov (.const (.slice none 0 0)))]) (.seq (.seq (.ops [jO 3 (.mov (T 0)), jO 4 (.eqNil true (T 3) (.const (.slice none 0 0)))]) (.cond (T 4) (.seq (.ops [jO 2 (.mov (.const (.slice none 0 0)))]) .ret) .skip)) (.seq (.ops [jO 5 (.bslice 1 0 [(.int .i64 0)] [] []), jO 6 (.mov (T 0)), jO 7 (.append 1 8 (T 5) (T 6)), jO 2 (.mov (T 7))]) .ret)))
theorem fok79 : FnOk Tryz.prog 79 8 s79 [.tmp 2] := ⟨Tryz.f79, _, Tryz.func79, rfl, Tryz.ntmps79, by kernel_rfl, by kernel_rfl⟩
theorem clone_c (hn : 1 ≤ n) (hr : h.next + 3 < far) {v : Value} {m : Nat} {a : Nat → Int} (hv : Ints h v m a) (hm : m ≤ 1000) :
    ∃ v' h', call n (.func (.func 79) #[] #[]) [v] h = some (v', h') ∧ Ints h' v' m a ∧ oneCell v' = true ∧ (∀ i, i < h.next → h'.get i = h.get i) ∧ h.next ≤ h'.next ∧ h'.next ≤ h.next + 2 ∧ h'.floor = h.floor ∧ ∀ x k c, v' = .slice (some x) k c → h.next ≤ x.block ∧ x.block < h'.next := by
  obtain ⟨n, rfl⟩ : ∃ p, n = p + 1 := ⟨n - 1, by omega⟩
  refine call_any0 fok79 rfl rfl (by simp) ?_
  obtain ⟨xv, kv, ev, lv⟩ := Cells.list (by omega) hv
  subst ev
  cases xv with
  | none =>
    obtain ⟨a', cap, e, hsp, h0 | ⟨b, o, cs, w, gr, e2, _⟩⟩ := hv
    · subst h0
      simp only [rn0, reduceIte, Nat.reduceEqDiff, Nat.reduceAdd, Nat.reduceMul, Nat.reduceSub, Nat.reduceLeDiff, Nat.reduceLT, s79, jO, jF, jR, jS, jU, jA, jK, x_eqNil, eqNil_yes]
      exact ⟨⟨none, 0, rfl, fun x e => (by cases e), .inl rfl⟩, rfl, (fun _ _ => by first | trivial | rfl), by omega, fun x k c e => by cases e⟩
    · subst e2; cases e
  | some xa =>
    simp only [rn0, reduceIte, Nat.reduceEqDiff, Nat.reduceAdd, Nat.reduceMul, Nat.reduceSub, Nat.reduceLeDiff, Nat.reduceLT, s79, jO, jF, jR, jS, jU, jA, jK, x_eqNil, eqNil_no, build_none1]
    refine step_slice (by omega) rfl fun g1 hx1 => ?_
    have n1 := hx1.next
    have f1 := hx1.floor
    have hap := append_none (h := g1) (s := 1) (bytes := 8) (b := h.next) ⟨_, _, rfl⟩ (cells_sub hx1.sub hv (by omega) lv) flatL_len (by simp [maxBytes]; omega) (by simp [maxBytes]; omega)
    by_cases hm0 : m = 0
    · rw [if_pos hm0] at hap
      subst hm0
      simp only [rn0, reduceIte, Nat.reduceEqDiff, Nat.reduceAdd, Nat.reduceMul, Nat.reduceSub, Nat.reduceLeDiff, Nat.reduceLT, hap]
      exact ⟨⟨some ⟨h.next, 0, none⟩, 0, rfl, fun x e => (by cases e; rfl), .inl rfl⟩, rfl, fun i hi => hx1.old i hi, by omega, by omega, by omega, fun x k c e => by cases e; exact ⟨Nat.le_refl _, by show h.next < g1.next; omega⟩⟩
    · rw [if_neg hm0] at hap
      simp only [rn0, reduceIte, Nat.reduceEqDiff, Nat.reduceAdd, Nat.reduceMul, Nat.reduceSub, Nat.reduceLeDiff, Nat.reduceLT, hap]
      refine step_slice (by omega) flatL_one fun g2 hx2 => ?_
      have n2 := hx2.next
      have f2 := hx2.floor
      simp only [rn0, reduceIte, Nat.reduceEqDiff, Nat.reduceAdd, Nat.reduceMul, Nat.reduceSub, Nat.reduceLeDiff, Nat.reduceLT]
      refine ⟨cells_row hx2.row fun k j hk hj => flatL_get (c := fun k _ => .int .i64 (a k)) hk hj, rfl, fun i hi => by rw [hx2.old i (by omega), hx1.old i hi], by omega, by omega, by omega, fun x k c e => by cases e; exact ⟨by show h.next ≤ g1.next; omega, by show g1.next < g2.next; omega⟩⟩


def allE (S : MS) : List (Nat → Int) := enumB (uLo S) (uHi S) (numU S) 0 fun _ => 0
structure WrG (B : Nat) (g : AHeap) (v : Value) (s : List (List Int)) (R : Nat → Value) : Prop where
  c : GrowC B g v 1 s.length (fun k _ => R k)
  r : ∀ k, k < s.length → Ints g (R k) (s.getD k []).length (atL (s.getD k [])) ∧ ∀ x m c, R k = .slice (some x) m c → B ≤ x.block ∧ x.block < g.next ∧ NeB v x.block
theorem WrG.old {B : Nat} {g g' : AHeap} {v : Value} {s : List (List Int)} {R : Nat → Value} (hw : WrG B g v s R) (ho : ∀ i, B ≤ i → i < g.next → g'.get i = g.get i) (hn : g.next ≤ g'.next) : WrG B g' v s R :=
  ⟨GrowC.at' hw.c fun a k c e => ho _ (hw.c.block e).1 (hw.c.block e).2, fun k hk => ⟨cells_at (hw.r k hk).1 fun a m c e hl => ho _ ((hw.r k hk).2 a m c e).1 hl, fun x m c e => by
    obtain ⟨q1, q2, q3⟩ := (hw.r k hk).2 x m c e
    exact ⟨q1, by omega, q3⟩⟩⟩
theorem WrG.push {B : Nat} {g g1 : AHeap} {v wv : Value} {s : List (List Int)} {R : Nat → Value} {w : List Int} (hw : WrG B g v s R) (hB : g.floor ≤ B) (hf : g.next + 2 < far) (hBn : B ≤ g.next) (hx : New g g1 [wv] 0) (hi : Ints g wv w.length (atL w)) (ho : oneCell wv = true)
    (hb : ∀ x m c, wv = .slice (some x) m c → B ≤ x.block ∧ x.block < g.next ∧ NeB v x.block) (hl : s.length ≤ g.next) :
    ∃ v' g2, appendA 1 24 g1 v (.slice (some ⟨g.next, 0, none⟩) 1 1) = some (v', g2) ∧ WrG B g2 v' (s ++ [w]) (fun k => if k = s.length then wv else R k) ∧ oneCell v' = true ∧ v' = .slice (some ⟨g.next + 1, 0, none⟩) (s.length + 1) unk ∧ g2.next = g.next + 2 ∧ g2.floor = g.floor ∧ (∀ i, i < g.next → NeB v i → g2.get i = g.get i) := by
  have hlen : (s ++ [w]).length = s.length + 1 := by simp
  have hg : GrowC B g v 1 s.length (fun k _ => if k = s.length then wv else R k) := growC_congr hw.c fun k j hk hj => by
    have : ¬ k = s.length := by omega
    simp only [this, if_false]
  obtain ⟨g2, e, gv, n2, f2, o2', u2⟩ := grow_push3 (bytes := 24) hg hB hf hBn hx rfl (by simp [allB, ho]) (fun j hj => by
    obtain rfl : j = 0 := by omega
    simp) (by simp [maxBytes, far] at *; omega) (by simp [maxBytes, far] at *; omega)
  refine ⟨_, g2, e, ⟨by rw [hlen]; exact gv, fun k hk => ?_⟩, rfl, rfl, n2, f2, o2'⟩
  have fresh : ∀ i, i < g.next → NeB (.slice (some ⟨g.next + 1, 0, none⟩) (s.length + 1) unk) i := fun i hi b m c e => by cases e; show i ≠ g.next + 1; omega
  by_cases c : k = s.length
  · subst c
    have hlast : (s ++ [w]).getD s.length [] = w := by rw [List.getD_eq_getElem?_getD, List.getElem?_append_right (Nat.le_refl _)]; simp
    simp only [if_true, hlast]
    exact ⟨cells_at hi fun a m c e hl => o2' _ hl (hb a m c e).2.2, fun x m c e => ⟨(hb x m c e).1, by have := (hb x m c e).2.1; omega, fresh _ (hb x m c e).2.1⟩⟩
  · have hk' : k < s.length := by omega
    simp only [c, if_false]
    rw [List.getD_eq_getElem?_getD, List.getElem?_append_left hk', ← List.getD_eq_getElem?_getD]
    obtain ⟨q1, q2⟩ := hw.r k hk'
    exact ⟨cells_at q1 fun a m c e hl => o2' _ hl (q2 a m c e).2.2, fun x m c e => ⟨(q2 x m c e).1, by have := (q2 x m c e).2.1; omega, fresh _ (q2 x m c e).2.1⟩⟩
theorem WrG.nil {B : Nat} {g : AHeap} : WrG B g nilS [] (fun _ => nilS) := ⟨.nil, fun k hk => absurd hk (Nat.not_lt_zero _)⟩
def AllR (g : AHeap) (v : Value) (s : List (List Int)) : Prop := ∃ R : Nat → Value, Cells g v 1 s.length (fun k _ => R k) ∧ ∀ k, k < s.length → Ints g (R k) (s.getD k []).length (atL (s.getD k []))
theorem AllR.mono {g g' : AHeap} {v : Value} {s : List (List Int)} (ha : AllR g v s) (hs : Sub All g g') : AllR g' v s := by
  obtain ⟨R, h1, h2⟩ := ha
  exact ⟨R, h1.mono hs, fun k hk => Cells.mono (h2 k hk) hs⟩
structure JW (h2 : AHeap) (p : Nat) (s : List (List Int)) (g : AHeap) : Prop where
  old : ∀ i, i < h2.next → i ≠ p → g.get i = h2.get i
  tv : ∃ v R, g.get p = some (.row [v] true 0) ∧ WrG (h2.next + 2) g v s R
  up : h2.next + 2 ≤ g.next
  len : s.length ≤ g.next
end Go.Vm.St

namespace Go.Vm
open Go.Vm.Vat
end Go.Vm
namespace Go.Vm.St
open Go.Proofs Go.Vm.Vat
set_option linter.unusedSimpArgs false
set_option linter.unusedVariables false
set_option maxRecDepth 10000
variable {n : Nat} {h : AHeap}


def CanB (S : MS) (s : Nat) : Prop := ∃ c, c ∈ allE S ∧ ∀ x, x < S.ns → Bit s x → RightS S c x
noncomputable instance (S : MS) (s : Nat) : Decidable (CanB S s) := Classical.propDecidable _
end Go.Vm.St

namespace Go.Vm
set_option linter.unusedSimpArgs false
set_option linter.unusedVariables false
variable {P : Program} {N : Nat} {f : Fr} {h : AHeap} {ty t u e : TypeId} {x y : Operand}
section
variable {α : Type} [DecidableEq α]
def entB (kv : α → Value) (x : α × Bool × Nat) : MapEntry := ⟨kv x.1, .bool x.2.1, x.2.2⟩
def findB (p : α) : List (α × Bool × Nat) → Nat → Option (Nat × Value)
  | [], _ => none
  | x :: l, i => if p = x.1 then some (i, .bool x.2.1) else findB p l (i + 1)
def valB (p : α) : List (α × Bool × Nat) → Bool
  | [] => false
  | x :: l => if p = x.1 then x.2.1 else valB p l
structure KeyOkB (P : Program) (t : TypeId) (kv : α → Value) : Prop where
  find : ∀ (p : α) (b : Bool) (l : List (α × Bool × Nat)), findA P b t (kv p) ⟨l.map (entB kv)⟩ = some (findB p l 0)
  plain : ∀ p, plainV (kv p) = true
  same : ∀ p, Instr.sameBits 10000 (kv p) (kv p) = true
theorem find_ofB {kv : α → Value} (hc : ∀ (b : Bool) (p : α), pureRun P (Instr.checkKey b 10000 t (kv p)) = some ()) (he : ∀ p q, pureRun P (Op.equal t (kv p) (kv q)) = some (decide (p = q)))
    {fs : Array Field} (hu : P.underlying t = some (.struct fs)) (p : α) (b : Bool) (l : List (α × Bool × Nat)) : findA P b t (kv p) ⟨l.map (entB kv)⟩ = some (findB p l 0) := by
  unfold findA
  rw [pureRun_bind, hc]
  show pureRun P (Instr.findKey t (kv p) (l.map (entB kv))) = _
  have ha : ∀ (l : List (α × Bool × Nat)) (i : Nat), pureRun P (Instr.findAsking t (kv p) (l.map (entB kv)) i) = some (findB p l i) := by
    intro l
    induction l with
    | nil => intro i; simp [Instr.findAsking, findB, pr_pure]
    | cons x l ih =>
      intro i
      rw [List.map_cons, Instr.findAsking, pureRun_bind]
      show Option.bind (pureRun P (Op.equal t (kv p) (kv x.1))) _ = _
      rw [he, Option.bind_some]
      by_cases c : p = x.1
      · rw [decide_eq_true c]
        simp only [if_true, pr_pure, findB, c, entB]
      · rw [decide_eq_false c]
        simp only [Bool.false_eq_true, if_false, findB, c]
        exact ih (i + 1)
  have ha := ha l 0
  unfold Instr.findKey
  rw [pureRun_bind, pr_under hu, Option.bind_some]
  cases l with
  | nil => simp [Instr.findNow, findB, pr_pure]
  | cons x l =>
    have : Instr.findNow (.struct fs) (kv p) ((x :: l).map (entB kv)) 0 = none := by simp [Instr.findNow, Instr.sameNow]
    rw [this]
    exact ha
theorem findB_none {p : α} : ∀ (l : List (α × Bool × Nat)) (i : Nat), findB p l i = none → p ∉ l.map (·.1)
  | [], _, _ => by simp
  | x :: l, i, h => by
    simp only [findB] at h
    by_cases c : p = x.1
    · rw [if_pos c] at h; cases h
    · rw [if_neg c] at h
      have := findB_none l (i + 1) h
      simp only [List.map_cons, List.mem_cons, not_or]
      exact ⟨c, this⟩
theorem findB_some {p : α} : ∀ (l : List (α × Bool × Nat)) (i j : Nat) (v : Value), findB p l i = some (j, v) → ∃ c, i ≤ j ∧ l[j - i]? = some (p, valB p l, c) ∧ v = .bool (valB p l)
  | [], _, _, _, h => by cases h
  | x :: l, i, j, v, h => by
    simp only [findB] at h
    by_cases c : p = x.1
    · rw [if_pos c] at h
      cases h
      refine ⟨x.2.2, Nat.le_refl _, ?_, ?_⟩
      · rw [Nat.sub_self, List.getElem?_cons_zero]
        simp [valB, c]
      · simp [valB, c]
    · rw [if_neg c] at h
      obtain ⟨b, h1, h2, h3⟩ := findB_some l (i + 1) j v h
      refine ⟨b, by omega, ?_, ?_⟩
      · have : j - i = (j - (i + 1)) + 1 := by omega
        rw [this, List.getElem?_cons_succ, h2]
        simp [valB, c]
      · rw [h3]; simp [valB, c]
theorem valB_none {p : α} : ∀ (l : List (α × Bool × Nat)), p ∉ l.map (·.1) → valB p l = false
  | [], _ => rfl
  | x :: l, h => by
    simp only [List.map_cons, List.mem_cons, not_or] at h
    simp only [valB, if_neg h.1]
    exact valB_none l h.2
theorem valB_app {p q : α} {v : Bool} {c : Nat} : ∀ (l : List (α × Bool × Nat)), q ∉ l.map (·.1) → valB p (l ++ [(q, v, c)]) = if p = q then v else valB p l
  | [], _ => by simp [valB]
  | x :: l, h => by
    simp only [List.map_cons, List.mem_cons, not_or] at h
    rw [List.cons_append]
    simp only [valB]
    by_cases e : p = x.1
    · have : p ≠ q := fun e' => h.1 (e' ▸ e)
      rw [if_pos e, if_pos e, if_neg this]
    · rw [if_neg e, if_neg e, valB_app l h.2]
theorem valB_set {p q : α} {v : Bool} : ∀ (l : List (α × Bool × Nat)) (i : Nat) (w : Bool) (c : Nat), (l.map (·.1)).Nodup → l[i]? = some (q, w, c) → valB p (l.set i (q, v, c)) = if p = q then v else valB p l
  | [], _, _, _, _, h => by simp at h
  | x :: l, 0, w, c, hn, h => by
    rw [List.getElem?_cons_zero] at h
    cases h
    simp only [List.set_cons_zero, valB]
    by_cases e : p = q
    · rw [if_pos e, if_pos e]
    · rw [if_neg e, if_neg e, if_neg e]
  | x :: l, i + 1, w, c, hn, h => by
    rw [List.getElem?_cons_succ] at h
    rw [List.map_cons, List.nodup_cons] at hn
    simp only [List.set_cons_succ, valB]
    have hq : q ∈ l.map (·.1) := List.mem_map.2 ⟨_, List.mem_of_getElem? h, rfl⟩
    by_cases e : p = x.1
    · have : p ≠ q := fun e' => hn.1 (by rw [← e, e']; exact hq)
      rw [if_pos e, if_pos e, if_neg this]
    · rw [if_neg e, if_neg e, valB_set l i w c hn.2 h]
structure EntsB (l : List (α × Bool × Nat)) (c : Nat) (m : α → Bool) : Prop where
  val : ∀ p, valB p l = m p
  keys : (l.map (·.1)).Nodup
  borns : (l.map (·.2.2)).Nodup
  below : ∀ x, x ∈ l → x.2.2 < c
def MapB (h : AHeap) (r : Nat) (kv : α → Value) (m : α → Bool) : Prop := ∃ (l : List (α × Bool × Nat)) (c : Nat), h.get r = some (.map ⟨l.map (entB kv)⟩ c) ∧ EntsB l c m
variable {kv : α → Value} {m : α → Bool} {r b : Nat} {p : α}
theorem MapB.keep {h g : AHeap} (hm : MapB h r kv m) (hg : g.get r = h.get r) : MapB g r kv m := by
  obtain ⟨l, c, h2, h3⟩ := hm
  exact ⟨l, c, by rw [hg]; exact h2, h3⟩
theorem MapB.shut (hm : MapB h r kv m) : MapB h.shutAll r kv m := hm.keep rfl
theorem MapB.lt (hm : MapB h r kv m) : r < h.next := by
  obtain ⟨l, c, h2, h3⟩ := hm
  exact AHeap.lt_of_get h2
theorem lookupB (hk : KeyOkB P t kv) (hm : MapB h r kv m) (p : α) : lookupA P t (.bool false) false h (.map (some r)) (kv p) = some (.bool (m p), h) := by
  obtain ⟨l, c, hg, he⟩ := hm
  have hz : plainV (.bool false) = true := rfl
  unfold lookupA amap
  simp only [hg, hk.plain, hz, Bool.and_self, cond_true, hk.find, ← he.val p]
  cases hf : findB p l 0 with
  | none =>
    have := valB_none l (findB_none l 0 hf)
    simp only [cond_false, this]
  | some q =>
    obtain ⟨i, v⟩ := q
    obtain ⟨_, _, _, rfl⟩ := findB_some l 0 i v hf
    have : plainV (.bool (valB p l)) = true := rfl
    simp only [this, cond_true, cond_false]
theorem mkmapB (hf : h.next < far) (kv : α → Value) : ∃ g, (h.push (some (.map #[] 0)) fun i h => some (Value.map (some i), h)) = some (.map (some h.next), g) ∧ MapB g h.next kv (fun _ => false) ∧ (∀ i, i < h.next → g.get i = h.get i) ∧ g.next = h.next + 1 ∧ g.floor = h.floor := by
  refine ⟨h.more (some (.map #[] 0)), by rw [push_run hf], ⟨[], 0, ?_, ?_⟩, ?_, rfl, rfl⟩
  · rw [AHeap.get_more hf]; simp
  · exact ⟨fun _ => rfl, by simp, by simp, fun x hx => by simp at hx⟩
  · intro i hi
    rw [AHeap.get_more hf, if_neg (by omega)]
theorem updateB (hk : KeyOkB P t kv) (hm : MapB h r kv m) (hfl : h.floor ≤ r) (hf : h.next ≤ far) (p : α) (v : Bool) :
    ∃ g, mapUpdateA P t h (.map (some r)) (kv p) (.bool v) = some (undef, g) ∧ MapB g r kv (fun q => if q = p then v else m q) ∧ Turned h g r := by
  have hlt := hm.lt
  obtain ⟨l, c, hg, he⟩ := hm
  have hpv : plainV (.bool v) = true := rfl
  unfold mapUpdateA amap
  simp only [hg, hk.plain, hpv, Bool.and_self, cond_true, hk.find, ble_iff.2 hfl]
  cases hfd : findB p l 0 with
  | none =>
    have hp := findB_none l 0 hfd
    have hv := valB_none l hp
    obtain ⟨g, e, hg', ht⟩ := setMap_run (h := h) (es := (⟨l.map (entB kv)⟩ : Array MapEntry).push { key := kv p, val := .bool v, born := c }) (c := c + 1) (v := undef) hlt hf
    refine ⟨g, e, ⟨l ++ [(p, v, c)], c + 1, ?_, ⟨?_, ?_, ?_, ?_⟩⟩, ht⟩
    · rw [hg', List.push_toArray, List.map_append]; rfl
    · intro q
      rw [valB_app l hp, he.val]
    · rw [List.map_append, List.nodup_append]
      refine ⟨he.keys, by simp, ?_⟩
      intro a ha b hb e
      simp only [List.map_cons, List.map_nil, List.mem_singleton] at hb
      exact hp (by rw [← hb, ← e]; exact ha)
    · rw [List.map_append, List.nodup_append]
      refine ⟨he.borns, by simp, ?_⟩
      intro a ha b hb e
      simp only [List.map_cons, List.map_nil, List.mem_singleton] at hb
      obtain ⟨x, hx, rfl⟩ := List.mem_map.1 ha
      have := he.below x hx
      omega
    · intro x hx
      rcases List.mem_append.1 hx with hx | hx
      · have := he.below x hx; omega
      · simp only [List.mem_singleton] at hx
        subst hx; exact Nat.lt_succ_self _
  | some q =>
    obtain ⟨i, w⟩ := q
    obtain ⟨b, _, hi, rfl⟩ := findB_some l 0 i w hfd
    rw [Nat.sub_zero] at hi
    have hi2 : (⟨l.map (entB kv)⟩ : Array MapEntry)[i]? = some (entB kv (p, valB p l, b)) := by
      rw [List.getElem?_toArray, List.getElem?_map, hi]; rfl
    have hil : i < l.length := by
      rcases Nat.lt_or_ge i l.length with h1 | h1
      · exact h1
      · rw [List.getElem?_eq_none h1] at hi; cases hi
    obtain ⟨g, e, hg', ht⟩ := setMap_run (h := h) (es := (⟨l.map (entB kv)⟩ : Array MapEntry).modify i fun e => { e with key := kv p, val := .bool v }) (c := c) (v := undef) hlt hf
    refine ⟨g, ?_, ⟨l.set i (p, v, b), c, ?_, ?_, ?_, ?_, ?_⟩, ht⟩
    · simp only [hi2, Option.map_some, Option.getD_some, entB, hk.same, cond_true]
      exact e
    · rw [hg']
      congr 2
      apply Array.ext'
      rw [Array.toList_modify]
      apply List.ext_getElem?
      intro k
      show _ = (List.map (entB kv) (l.set i (p, v, b)))[k]?
      rw [List.getElem?_modify, List.getElem?_map, List.getElem?_map, List.getElem?_set]
      by_cases e : i = k
      · subst e
        rw [if_pos rfl, if_pos hil, hi]
        simp [entB]
      · simp [e]
    · intro q
      rw [valB_set l i _ b he.keys hi, he.val]
    · rw [List.map_set]
      have : (l.map (·.1)).set i p = l.map (·.1) := by
        apply List.ext_getElem?
        intro k
        rw [List.getElem?_set]
        by_cases e : i = k
        · subst e; rw [if_pos rfl, List.length_map, if_pos hil, List.getElem?_map, hi]; rfl
        · simp [e]
      rw [this]; exact he.keys
    · rw [List.map_set]
      have : (l.map (·.2.2)).set i b = l.map (·.2.2) := by
        apply List.ext_getElem?
        intro k
        rw [List.getElem?_set]
        by_cases e : i = k
        · subst e; rw [if_pos rfl, List.length_map, if_pos hil, List.getElem?_map, hi]; rfl
        · simp [e]
      rw [this]; exact he.borns
    · intro x hx
      rcases List.mem_or_eq_of_mem_set hx with hx | rfl
      · exact he.below x hx
      · exact he.below (p, valB p l, b) (List.mem_of_getElem? hi)
end
theorem keyOkB2 (ht : Two P t) : KeyOkB P t key2 := by
  have hc : ∀ (b : Bool) (p : Int × Int), pureRun P (Instr.checkKey b 10000 t (key2 p)) = some () := fun b p => pr_checkTwo ht
  obtain ⟨⟨f0, f1, h0, n0, n1, o0, o1, e0, e1⟩, hp⟩ := ht
  refine ⟨find_ofB hc (fun p q => ?_) h0, fun _ => rfl, fun p => ?_⟩
  · have : pureRun P (Op.equal t (key2 p) (key2 q)) = some (decide (p.1 = q.1 ∧ p.2 = q.2)) := by
      unfold key2
      simp only [Op.equal, Op.maxDepth]
      exact pr_eqTwo h0 hp n0 n1 o0 o1 e0 e1
    rw [this]
    congr 1
    apply decide_eq_decide.2
    exact ⟨fun ⟨a, b⟩ => Prod.ext a b, fun h => by rw [h]; exact ⟨rfl, rfl⟩⟩
  · simp [key2, Instr.sameBits]
end Go.Vm

namespace Go.Vm
set_option linter.unusedSimpArgs false
set_option linter.unusedVariables false
section
variable {α : Type} [DecidableEq α] {P : Program} {t : TypeId} {kv : α → Value} {m : α → Int} {h : AHeap} {r : Nat}
end
end Go.Vm

namespace Go.Vm.St
open Go.Vm.Vat
set_option linter.unusedSimpArgs false
set_option linter.unusedVariables false
set_option maxRecDepth 10000
structure MG where
  s : MS
  men : Int
  close : Int
  nk : Nat
  km : Nat → Int
  klo : Nat → Int
  khi : Nat → Int
def workC (G : MG) (k j : Nat) : Value := .int .i64 (if j = 0 then G.km k else if j = 1 then G.klo k else G.khi k)
structure GangR (h : AHeap) (wv vv sv kv : Value) (G : MG) : Prop where
  s : SteepR h wv vv sv G.s
  k : Cells h kv 3 G.nk (workC G)
def gaL (G : MG) (wv vv sv kv : Value) : List Value := [.int .i64 G.s.last, .int .i64 G.s.per, wv, .int .i64 G.s.splo, .int .i64 G.s.sphi, vv, sv, .int .i64 G.men, .int .i64 G.close, kv]
def crL (G : MG) (wv vv sv kv mv : Value) : List Value := [.int .i64 G.s.last, .int .i64 G.s.per, wv, .int .i64 G.s.splo, .int .i64 G.s.sphi, vv, sv, .int .i64 G.men, .int .i64 G.close, kv, mv]
def woL (G : MG) (k : Nat) : List Value := [.int .i64 (G.km k), .int .i64 (G.klo k), .int .i64 (G.khi k)]
section
variable {h g : AHeap} {wv vv sv kv mv : Value} {G : MG}
theorem GangR.mono (hy : GangR h wv vv sv kv G) (hs : Sub All h g) : GangR g wv vv sv kv G := ⟨hy.s.mono hs, Cells.mono hy.k hs⟩
theorem GangR.shut (hy : GangR h wv vv sv kv G) : GangR h.shutAll wv vv sv kv G := hy.mono fun _ _ _ _ _ h => h
theorem GangR.one (hy : GangR h wv vv sv kv G) : allB oneCell (gaL G wv vv sv kv) = true := by
  simp [gaL, allB, one_int, Cells.one hy.s.w, Cells.one hy.s.v, Cells.one hy.s.s, Cells.one hy.k]
theorem GangR.self (hy : GangR h wv vv sv kv G) : eqV (.agg ⟨gaL G wv vv sv kv⟩) (.agg ⟨gaL G wv vv sv kv⟩) = true := by
  simp [gaL, eqV, eqCells, eqC_int, Cells.selfC hy.s.w, Cells.selfC hy.s.v, Cells.selfC hy.s.s, Cells.selfC hy.k]
theorem cr_one (hy : GangR h wv vv sv kv G) (hm : oneCell mv = true) : allB oneCell (crL G wv vv sv kv mv) = true := by
  simp [crL, allB, one_int, Cells.one hy.s.w, Cells.one hy.s.v, Cells.one hy.s.s, Cells.one hy.k, hm]
theorem ga_st {g : AHeap} {p : Nat} (hr : Row g p (gaL G wv vv sv kv)) : loadAgg 7 g (.pointer (some ⟨p, 0, none⟩)) = some (.agg ⟨stL G.s wv vv sv⟩) := hr.ldN 0 7 (by simp [gaL]) (by simp [gaL])
theorem cr_st {g : AHeap} {p : Nat} (hr : Row g p (crL G wv vv sv kv mv)) : loadAgg 7 g (.pointer (some ⟨p, 0, none⟩)) = some (.agg ⟨stL G.s wv vv sv⟩) := hr.ldN 0 7 (by simp [crL]) (by simp [crL])
theorem work_ld {k : Nat} (hy : GangR h wv vv sv kv G) (hk : k < G.nk) : loadAgg 3 h (ptrO kv 3 k 0) = some (.agg ⟨woL G k⟩) := by
  rw [Cells.ldN hy.k hk (by omega) (by omega)]; simp [List.range_succ, workC, woL]
theorem hours_ld {k : Nat} (hy : GangR h wv vv sv kv G) (hk : k < G.nk) : loadAgg 2 h (ptrO kv 3 k 1) = some (.agg ⟨[.int .i64 (G.klo k), .int .i64 (G.khi k)]⟩) := by
  rw [Cells.ldN hy.k hk (by omega) (by omega)]; simp [List.range_succ, workC]
theorem men_ld {k : Nat} (hy : GangR h wv vv sv kv G) (hk : k < G.nk) : loadCell h (ptrO kv 3 k 0) = some (.int .i64 (G.km k)) := Cells.ld hy.k hk (by omega)
theorem hi_ld {k : Nat} (hy : GangR h wv vv sv kv G) (hk : k < G.nk) : loadCell h (ptrO kv 3 k 2) = some (.int .i64 (G.khi k)) := Cells.ld hy.k hk (by omega)
end
theorem gag {G : MG} {a b c d : Value} : (gaL G a b c d)[0]? = some (.int .i64 G.s.last) ∧ (gaL G a b c d)[1]? = some (.int .i64 G.s.per) ∧ (gaL G a b c d)[2]? = some a ∧ (gaL G a b c d)[5]? = some b ∧ (gaL G a b c d)[6]? = some c ∧ (gaL G a b c d)[7]? = some (.int .i64 G.men) ∧ (gaL G a b c d)[8]? = some (.int .i64 G.close) ∧ (gaL G a b c d)[9]? = some d := ⟨rfl, rfl, rfl, rfl, rfl, rfl, rfl, rfl⟩
theorem crg {G : MG} {a b c d e : Value} : (crL G a b c d e)[0]? = some (.int .i64 G.s.last) ∧ (crL G a b c d e)[1]? = some (.int .i64 G.s.per) ∧ (crL G a b c d e)[2]? = some a ∧ (crL G a b c d e)[5]? = some b ∧ (crL G a b c d e)[6]? = some c ∧ (crL G a b c d e)[7]? = some (.int .i64 G.men) ∧ (crL G a b c d e)[8]? = some (.int .i64 G.close) ∧ (crL G a b c d e)[9]? = some d ∧ (crL G a b c d e)[10]? = some e := ⟨rfl, rfl, rfl, rfl, rfl, rfl, rfl, rfl, rfl⟩
theorem wog {G : MG} {k : Nat} : (woL G k)[0]? = some (.int .i64 (G.km k)) ∧ (woL G k)[1]? = some (.int .i64 (G.klo k)) ∧ (woL G k)[2]? = some (.int .i64 (G.khi k)) := ⟨rfl, rfl, rfl⟩
def WorkOk (G : MG) (i : Nat) : Prop := (0 ≤ G.km i ∧ G.km i ≤ 9) ∧ 0 ≤ G.klo i ∧ G.klo i ≤ G.khi i ∧ G.khi i ≤ 4
def WorksOk (G : MG) : Prop := ∀ i, i < G.nk → WorkOk G i
open Classical in
noncomputable def faultG (G : MG) : Int := if faultS G.s ≠ 0 then faultS G.s else if truthsS G.s = [] then 11 else if 9 < G.men ∨ 9 < G.close then 3 else if G.men < 0 ∨ G.close < 0 ∨ G.nk ≠ G.s.nv ∨ ¬ WorksOk G then 1 else 0
structure GoodG (G : MG) : Prop where
  s : St.Good G.s
  t : truthsS G.s ≠ []
  men : 0 ≤ G.men ∧ G.men ≤ 9
  close : 0 ≤ G.close ∧ G.close ≤ 9
  nk : G.nk = G.s.nv
  works : WorksOk G
theorem goodG {G : MG} : faultG G = 0 ↔ GoodG G := by
  unfold faultG
  by_cases c1 : faultS G.s = 0
  · rw [if_neg (by simpa using c1)]
    by_cases c2 : truthsS G.s = []
    · rw [if_pos c2]; exact ⟨fun h => (by cases h), fun h => absurd c2 h.t⟩
    rw [if_neg c2]
    by_cases c3 : 9 < G.men ∨ 9 < G.close
    · rw [if_pos c3]; exact ⟨fun h => (by cases h), fun h => by have := h.men; have := h.close; omega⟩
    rw [if_neg c3]
    by_cases c4 : G.men < 0 ∨ G.close < 0 ∨ G.nk ≠ G.s.nv ∨ ¬ WorksOk G
    · rw [if_pos c4]
      refine ⟨fun h => (by cases h), fun h => ?_⟩
      rcases c4 with c | c | c | c
      · have := h.men; omega
      · have := h.close; omega
      · exact absurd h.nk c
      · exact absurd h.works c
    · rw [if_neg c4]
      refine ⟨fun _ => ⟨good_of c1, c2, ⟨?_, ?_⟩, ⟨?_, ?_⟩, ?_, ?_⟩, fun _ => rfl⟩
      · apply Classical.byContradiction; intro c; exact c4 (.inl (by omega))
      · apply Classical.byContradiction; intro c; exact c3 (.inl (by omega))
      · apply Classical.byContradiction; intro c; exact c4 (.inr (.inl (by omega)))
      · apply Classical.byContradiction; intro c; exact c3 (.inr (by omega))
      · apply Classical.byContradiction; intro c; exact c4 (.inr (.inr (.inl c)))
      · apply Classical.byContradiction; intro c; exact c4 (.inr (.inr (.inr c)))
  · rw [if_pos c1]
    exact ⟨fun h => absurd h c1, fun h => absurd (fault_of h.s) c1⟩
theorem GoodG.sizes {G : MG} (hG : GoodG G) : 0 ≤ G.s.last ∧ G.s.last ≤ 5 ∧ G.nk ≤ 4 ∧ G.nk = G.s.nv ∧ 0 ≤ G.men ∧ G.men ≤ 9 ∧ 0 ≤ G.close ∧ G.close ≤ 9 := by
  have h := hG.s.sizes
  have h2 := hG.nk
  have h3 := hG.men
  have h4 := hG.close
  omega
theorem GoodG.begin {G : MG} (hG : GoodG G) {v : Nat} (hv : v < G.nk) : v < G.s.nv ∧ 0 ≤ G.s.vb v ∧ G.s.vb v ≤ G.s.last := by
  have h2 := hG.nk
  have h1 := (hG.s.args.vat v (by omega)).1
  exact ⟨by omega, h1.1, h1.2⟩
end Go.Vm.St

namespace Go.Vm.St
open Go.Proofs Go.Vm.Vat
set_option linter.unusedSimpArgs false
set_option linter.unusedVariables false
set_option maxRecDepth 10000
variable {n : Nat} {h : AHeap}
theorem flat_struct3 {P : Program} {k : IntKind} {t : TypeId} {f0 f1 f2 : Field} {s0 s1 s2 : Nat} (ht : P.underlying t = some (.struct #[f0, f1, f2])) (hc : P.cellsOf t = s0 + s1 + s2) (o0 : f0.offset = 0) (o1 : f1.offset = s0) (o2 : f2.offset = s0 + s1)
    (c0 : P.cellsOf f0.type = s0) (c1 : P.cellsOf f1.type = s1) (c2 : P.cellsOf f2.type = s2) (h0 : FlatT P k f0.type s0) (h1 : FlatT P k f1.type s1) (h2 : FlatT P k f2.type s2) : FlatT P k t (s0 + s1 + s2) := by
  intro H enc w base sp held fuel cs x h
  obtain ⟨xs, n, _, _, hl, hx, hf⟩ := DataW.trod_struct ht h
  rw [hc] at hl
  have hx3 : xs.length = 3 := hx
  have e0 := hf 0 _ rfl
  have e1 := hf 1 _ rfl
  have e2 := hf 2 _ rfl
  rw [List.getElem?_eq_getElem (by omega)] at e0 e1 e2
  change DataW.trod enc P w base sp held n f0.type ((cs.drop f0.offset).take (P.cellsOf f0.type)) = _ at e0
  obtain ⟨_, k0⟩ := h0 _ _ _ _ _ _ _ _ e0
  change DataW.trod enc P w base sp held n f1.type ((cs.drop f1.offset).take (P.cellsOf f1.type)) = _ at e1
  obtain ⟨_, k1⟩ := h1 _ _ _ _ _ _ _ _ e1
  change DataW.trod enc P w base sp held n f2.type ((cs.drop f2.offset).take (P.cellsOf f2.type)) = _ at e2
  obtain ⟨_, k2⟩ := h2 _ _ _ _ _ _ _ _ e2
  rw [o0, c0, List.drop_zero] at k0
  rw [o1, c1] at k1
  rw [o2, c2, List.take_of_length_le (by rw [List.length_drop]; omega)] at k2
  refine ⟨hl, fun v hv => ?_⟩
  rw [← List.take_append_drop s0 cs] at hv
  rcases List.mem_append.1 hv with hv | hv
  · exact k0 v hv
  · rw [← List.take_append_drop s1 (cs.drop s0), List.drop_drop] at hv
    rcases List.mem_append.1 hv with hv | hv
    · exact k1 v hv
    · exact k2 v hv
theorem c3 : Tryz.prog.cellsOf 3 = 1 := by kernel_rfl
theorem c24 : Tryz.prog.cellsOf 24 = 2 := by kernel_rfl
theorem c106 : Tryz.prog.cellsOf 106 = 4 := by kernel_rfl
theorem c103 : Tryz.prog.cellsOf 103 = 3 := by kernel_rfl
theorem c22 : Tryz.prog.cellsOf 22 = 1 := by kernel_rfl
theorem c25 : Tryz.prog.cellsOf 25 = 1 := by kernel_rfl
theorem c26 : Tryz.prog.cellsOf 26 = 1 := by kernel_rfl
theorem c28 : Tryz.prog.cellsOf 28 = 7 := by kernel_rfl
theorem c29 : Tryz.prog.cellsOf 29 = 1 := by kernel_rfl
theorem c91 : Tryz.prog.cellsOf 91 = 3 := by kernel_rfl
theorem c31 : Tryz.prog.cellsOf 31 = 10 := by kernel_rfl
theorem c82 : Tryz.prog.cellsOf 82 = 1 := by kernel_rfl
theorem flat3 : FlatT Tryz.prog .i64 3 1 := flat_int (by rfl)
theorem flat24 : FlatT Tryz.prog .i64 24 2 := flat_struct2 (s0 := 1) (s1 := 1) Tryz.underlying24 c24 rfl rfl c3 c3 flat3 flat3
theorem flat106 : FlatT Tryz.prog .i64 106 4 := flat_struct3 (s0 := 1) (s1 := 2) (s2 := 1) Tryz.underlying106 c106 rfl rfl rfl c3 c24 c3 flat3 flat24 flat3
theorem flat103 : FlatT Tryz.prog .i64 103 3 := flat_struct3 (s0 := 1) (s1 := 1) (s2 := 1) Tryz.underlying103 c103 rfl rfl rfl c3 c3 c3 flat3 flat3 flat3
section
variable {H : Type} {enc : TypeId × Value → H} {w : World} {base : Nat} {sp : Nat → Bool} {held : Bool} {fuel : Nat} {cs : List Value} {x : DataW H × List MemPlace}
structure SteepW (wd : World) (wv vv sv : Value) : Prop where
  w : FlatS wd .i64 2 wv
  v : FlatS wd .i64 4 vv
  s : FlatS wd .i64 3 sv
theorem steepW_of (h : DataW.trod enc Tryz.prog w base sp held fuel 28 cs = some x) : ∃ a b c d wv vv sv, cs = [.int .i64 a, .int .i64 b, wv, .int .i64 c, .int .i64 d, vv, sv] ∧ SteepW w wv vv sv := by
  obtain ⟨xs, n, _, _, hl, hx, hf⟩ := DataW.trod_struct Tryz.underlying28 h
  rw [c28] at hl
  obtain ⟨a, b, wv, c, d, vv, sv, rfl⟩ : ∃ a b c d e f g, cs = [a, b, c, d, e, f, g] := by
    match cs, hl with
    | [a, b, c, d, e, f, g], _ => exact ⟨a, b, c, d, e, f, g, rfl⟩
  have hx3 : xs.length = 6 := hx
  have h0 := hf 0 _ rfl
  have h1 := hf 1 _ rfl
  have h2 := hf 2 _ rfl
  have h3 := hf 3 _ rfl
  have h4 := hf 4 _ rfl
  have h5 := hf 5 _ rfl
  rw [List.getElem?_eq_getElem (by omega)] at h0 h1 h2 h3 h4 h5
  change DataW.trod enc Tryz.prog w base sp held n 3 (([a, b, wv, c, d, vv, sv].drop 0).take (Tryz.prog.cellsOf 3)) = _ at h0
  change DataW.trod enc Tryz.prog w base sp held n 3 (([a, b, wv, c, d, vv, sv].drop 1).take (Tryz.prog.cellsOf 3)) = _ at h1
  change DataW.trod enc Tryz.prog w base sp held n 22 (([a, b, wv, c, d, vv, sv].drop 2).take (Tryz.prog.cellsOf 22)) = _ at h2
  change DataW.trod enc Tryz.prog w base sp held n 24 (([a, b, wv, c, d, vv, sv].drop 3).take (Tryz.prog.cellsOf 24)) = _ at h3
  change DataW.trod enc Tryz.prog w base sp held n 25 (([a, b, wv, c, d, vv, sv].drop 5).take (Tryz.prog.cellsOf 25)) = _ at h4
  change DataW.trod enc Tryz.prog w base sp held n 26 (([a, b, wv, c, d, vv, sv].drop 6).take (Tryz.prog.cellsOf 26)) = _ at h5
  rw [c3] at h0 h1
  rw [c22] at h2
  rw [c24] at h3
  rw [c25] at h4
  rw [c26] at h5
  obtain ⟨_, k0⟩ := flat3 _ _ _ _ _ _ _ _ h0
  obtain ⟨_, k1⟩ := flat3 _ _ _ _ _ _ _ _ h1
  obtain ⟨_, k3⟩ := flat24 _ _ _ _ _ _ _ _ h3
  obtain ⟨_, e2, k2⟩ := flat_slice Tryz.underlying22 c24 (by omega) flat24 h2
  obtain ⟨_, e4, k4⟩ := flat_slice Tryz.underlying25 c106 (by omega) flat106 h4
  obtain ⟨_, e5, k5⟩ := flat_slice Tryz.underlying26 c103 (by omega) flat103 h5
  cases e2
  cases e4
  cases e5
  obtain ⟨a', rfl, _⟩ := k0 a (by simp)
  obtain ⟨b', rfl, _⟩ := k1 b (by simp)
  obtain ⟨c', rfl, _⟩ := k3 c (by simp)
  obtain ⟨d', rfl, _⟩ := k3 d (by simp)
  exact ⟨a', b', c', d', wv, vv, sv, rfl, k2, k4, k5⟩
theorem flat91 : FlatT Tryz.prog .i64 91 3 := flat_struct2 (s0 := 1) (s1 := 2) Tryz.underlying91 c91 rfl rfl c3 c24 flat3 flat24
theorem flat82 : FlatT Tryz.prog .u16 82 1 := flat_int (by rfl)
theorem flatS_words (h : DataW.trod enc Tryz.prog w base sp held fuel 81 cs = some x) : ∃ v, cs = [v] ∧ FlatS w .u16 1 v := flat_slice Tryz.underlying81 c82 (by omega) flat82 h
structure GangW (wd : World) (wv vv sv kv : Value) : Prop where
  s : SteepW wd wv vv sv
  k : FlatS wd .i64 3 kv
theorem gangW_of (h : DataW.trod enc Tryz.prog w base sp held fuel 31 cs = some x) : ∃ a b c d e f wv vv sv kv, cs = [.int .i64 a, .int .i64 b, wv, .int .i64 c, .int .i64 d, vv, sv, .int .i64 e, .int .i64 f, kv] ∧ GangW w wv vv sv kv := by
  obtain ⟨xs, n, _, _, hl, hx, hf⟩ := DataW.trod_struct Tryz.underlying31 h
  rw [c31] at hl
  obtain ⟨a, b, wv, c, d, vv, sv, e, f, kv, rfl⟩ : ∃ a b c d e f g i j k, cs = [a, b, c, d, e, f, g, i, j, k] := by
    match cs, hl with
    | [a, b, c, d, e, f, g, i, j, k], _ => exact ⟨a, b, c, d, e, f, g, i, j, k, rfl⟩
  have hx3 : xs.length = 4 := hx
  have h0 := hf 0 _ rfl
  have h1 := hf 1 _ rfl
  have h2 := hf 2 _ rfl
  have h3 := hf 3 _ rfl
  rw [List.getElem?_eq_getElem (by omega)] at h0 h1 h2 h3
  change DataW.trod enc Tryz.prog w base sp held n 28 (([a, b, wv, c, d, vv, sv, e, f, kv].drop 0).take (Tryz.prog.cellsOf 28)) = _ at h0
  change DataW.trod enc Tryz.prog w base sp held n 3 (([a, b, wv, c, d, vv, sv, e, f, kv].drop 7).take (Tryz.prog.cellsOf 3)) = _ at h1
  change DataW.trod enc Tryz.prog w base sp held n 3 (([a, b, wv, c, d, vv, sv, e, f, kv].drop 8).take (Tryz.prog.cellsOf 3)) = _ at h2
  change DataW.trod enc Tryz.prog w base sp held n 29 (([a, b, wv, c, d, vv, sv, e, f, kv].drop 9).take (Tryz.prog.cellsOf 29)) = _ at h3
  rw [c28] at h0
  rw [c3] at h1 h2
  rw [c29] at h3
  obtain ⟨a', b', c', d', wv', vv', sv', e0, k0⟩ := steepW_of h0
  cases e0
  obtain ⟨_, k1⟩ := flat3 _ _ _ _ _ _ _ _ h1
  obtain ⟨_, k2⟩ := flat3 _ _ _ _ _ _ _ _ h2
  obtain ⟨_, e3, k3⟩ := flat_slice Tryz.underlying29 c91 (by omega) flat91 h3
  cases e3
  obtain ⟨e', rfl, _⟩ := k1 e (by simp)
  obtain ⟨f', rfl, _⟩ := k2 f (by simp)
  exact ⟨a', b', c', d', e', f', wv, vv, sv, kv, rfl, k0, k3⟩
end
theorem steep_load {w : World} {φ : Emb} (L : Loaded w φ h) (hn : h.next + 40 < far) {wv vv sv : Value} (hy : SteepW w wv vv sv) (a b c d : Int) :
    ∃ φ' h' u0 u1 u2 S, Step w φ h φ' h' 3 ∧ Stands φ' h' u0 wv ∧ Stands φ' h' u1 vv ∧ Stands φ' h' u2 sv ∧ SteepR h' u0 u1 u2 S ∧ S.last = a ∧ S.per = b ∧ S.splo = c ∧ S.sphi = d := by
  obtain ⟨φ1, h1, u0, s1, t1, c0, r0⟩ := L.flat (by omega) (by omega) hy.w
  have n1 := s1.next
  obtain ⟨φ2, h2, u1, s2, t2, c1, r1⟩ := s1.ld.flat (by omega) (by omega) hy.v
  have n2 := s2.next
  obtain ⟨φ3, h3, u2, s3, t3, c2, r2⟩ := s2.ld.flat (by omega) (by omega) hy.s
  have n3 := s3.next
  have st := (s1.trans s2).trans s3
  refine ⟨φ3, h3, u0, u1, u2, ⟨a, b, vlen wv, fun k => c0 k 0, fun k => c0 k 1, c, d, vlen vv, fun k => c1 k 0, fun k => c1 k 1, fun k => c1 k 2, fun k => c1 k 3, vlen sv, fun k => c2 k 0, fun k => c2 k 1, fun k => c2 k 2⟩, st, (t1.step s2).step s3, t2.step s3, t3, ⟨?_, ?_, ?_⟩, rfl, rfl, rfl, rfl⟩
  · refine cells_congr (r0.mono (s2.sub.trans s3.sub)) fun k j hk hj => ?_
    rcases j with _ | _ | j
    · rfl
    · rfl
    · omega
  · refine cells_congr (r1.mono s3.sub) fun k j hk hj => ?_
    rcases j with _ | _ | _ | _ | j
    · rfl
    · rfl
    · rfl
    · rfl
    · omega
  · refine cells_congr r2 fun k j hk hj => ?_
    rcases j with _ | _ | _ | j
    · rfl
    · rfl
    · rfl
    · omega
theorem gang_load {w : World} {φ : Emb} (L : Loaded w φ h) (hn : h.next + 60 < far) {wv vv sv kv : Value} (hy : GangW w wv vv sv kv) (a b c d e f : Int) :
    ∃ φ' h' u0 u1 u2 u3 G, Step w φ h φ' h' 4 ∧ Stands φ' h' u0 wv ∧ Stands φ' h' u1 vv ∧ Stands φ' h' u2 sv ∧ Stands φ' h' u3 kv ∧ GangR h' u0 u1 u2 u3 G ∧ G.s.last = a ∧ G.s.per = b ∧ G.s.splo = c ∧ G.s.sphi = d ∧ G.men = e ∧ G.close = f := by
  obtain ⟨φ1, h1, u0, u1, u2, S, s1, t1, t2, t3, r1, e1, e2, e3, e4⟩ := steep_load L (by omega) hy.s a b c d
  have n1 := s1.next
  obtain ⟨φ2, h2, u3, s2, t4, c0, r2⟩ := s1.ld.flat (by omega) (by omega) hy.k
  have n2 := s2.next
  refine ⟨φ2, h2, u0, u1, u2, u3, ⟨S, e, f, vlen kv, fun k => c0 k 0, fun k => c0 k 1, fun k => c0 k 2⟩, s1.trans s2, t1.step s2, t2.step s2, t3.step s2, t4, ⟨r1.mono s2.sub, ?_⟩, e1, e2, e3, e4, rfl, rfl⟩
  refine cells_congr r2 fun k j hk hj => ?_
  rcases j with _ | _ | _ | j
  · rfl
  · rfl
  · rfl
  · omega
theorem flatW {w : World} {φ : Emb} {h : AHeap} (L : Loaded w φ h) (hn : h.next < far) {k : IntKind} {s : Nat} {v : Value} (hs : 0 < s) (hf : FlatS w k s v) :
    ∃ φ' h' u, Step w φ h φ' h' 1 ∧ Stands φ' h' u v ∧ ∃ c : Nat → Nat → Int, (Cells h' u s (vlen v) fun i j => .int k (c i j)) ∧ ∀ i j, i < vlen v → j < s → (Lit.int k (c i j)).wf = true := by
  rcases hf with rfl | ⟨a, len, cap, rfl, hl, hc⟩
  · exact ⟨φ, h, .slice none 0 0, ⟨L, Sub.refl, Nat.le_refl _, by omega, rfl, Agree.refl _ _⟩, ⟨by simp [mapV], by simp [okV], rfl⟩, fun _ _ => 0, ⟨none, 0, rfl, fun x e => (by cases e), .inl rfl⟩, fun i j hi => absurd hi (Nat.not_lt_zero _)⟩
  · have hlt : ∀ i j, i < len → j < s → i * s + j < len * s := fun i j hi hj => by
      have : (i + 1) * s ≤ len * s := Nat.mul_le_mul_right s hi
      rw [Nat.add_mul] at this
      omega
    obtain ⟨φ', h', u, q1, q2, q3, q4, q5, q6, q7, q8, q9⟩ := L.slice hn (a := a) hl hs ((List.range (len * s)).map fun i => .int k (numAt w a i)) (by simp) (fun i v hv => by
      rw [List.getElem?_map] at hv
      by_cases hi : i < len * s
      · rw [List.getElem?_range hi] at hv
        cases hv
        exact ⟨by simp [okV], rfl, by simpa [mapV] using (hc i hi).1⟩
      · rw [List.getElem?_eq_none (by simp; omega)] at hv
        cases hv) (c := fun i j => .int k (numAt w a (i * s + j))) (fun i j hi hj => by rw [List.getElem?_map, List.getElem?_range (hlt i j hi hj)]; rfl)
    exact ⟨φ', h', u, ⟨q1, q2, by omega, by omega, q4, q5⟩, ⟨q6, q7, q8⟩, _, q9, fun i j hi hj => (hc _ (hlt i j hi hj)).2⟩
theorem wordsOf {v : Value} {c : Nat → Nat → Int} {m : Nat} (hc : Cells h v 1 m fun i j => .int .u16 (c i j)) (hw : ∀ i j, i < m → j < 1 → (Lit.int .u16 (c i j)).wf = true) : Words h v m fun i => (c i 0).toNat := by
  refine ⟨?_, fun k hk => ?_⟩
  · obtain ⟨a, cap, f1, f2, f3⟩ := hc
    refine ⟨a, cap, f1, f2, f3.imp id fun ⟨b, o, cs, wr, g, g1, g2, g3⟩ => ⟨b, o, cs, wr, g, g1, g2, fun i j hi hj => ?_⟩⟩
    have : j = 0 := by omega
    subst this
    obtain ⟨k, e, _⟩ := wf16 (hw i 0 hi (by omega))
    rw [g3 i 0 hi hj]
    show some (Value.int IntKind.u16 (c i 0)) = some (Value.int IntKind.u16 (((c i 0).toNat : Nat) : Int))
    rw [e]; rfl
  · obtain ⟨x, e, h2⟩ := wf16 (hw k 0 hk (by omega))
    show (c k 0).toNat < 65536
    omega
end Go.Vm.St

namespace Go.Vm
variable {P : Program}
def Emb.pre (φ : Emb) (s : Nat → Nat) : Emb := ⟨fun i => φ.at_ (s i), fun i => φ.cap (s i)⟩
noncomputable section
def shB (a b i : Nat) : Nat := Nat.sub (Nat.add i a) b
def shN (e nx a b i : Nat) : Nat := bif Nat.blt i e then shB a b i else Nat.add (Nat.sub i e) nx
def renC (s : Nat → Nat) (v : Value) : Value :=
  match v with
  | .pointer (some a) => .pointer (some ⟨s a.block, a.off, none⟩)
  | .slice (some a) n c => .slice (some ⟨s a.block, a.off, none⟩) n c
  | v => v
def renCs (s : Nat → Nat) (l : List Value) : List Value := List.rec (motive := fun _ => List Value) [] (fun v _ ih => renC s v :: ih) l
def renV (s : Nat → Nat) (v : Value) : Value :=
  match v with
  | .agg ⟨l⟩ => .agg ⟨renCs s l⟩
  | v => renC s v
def renVs (s : Nat → Nat) (l : List Value) : List Value := List.rec (motive := fun _ => List Value) [] (fun v _ ih => renV s v :: ih) l
def renT (s : Nat → Nat) (v : Value) : Value :=
  match v with
  | .tuple ⟨l⟩ => .tuple ⟨renVs s l⟩
  | v => renV s v
def noSpot (a : Addr) : Bool := match a.spot with
  | none => true
  | _ => false
def fineC (n : Nat) (v : Value) : Bool :=
  match v with
  | .pointer (some a) => Nat.blt a.block n && noSpot a
  | .slice (some a) _ _ => Nat.blt a.block n && noSpot a
  | .bool _ => true
  | .int _ _ => true
  | .pointer none => true
  | .slice none _ _ => true
  | .map none => true
  | .nilFunc => true
  | _ => false
def fineV (n : Nat) (v : Value) : Bool :=
  match v with
  | .agg ⟨l⟩ => allB (fineC n) l
  | v => fineC n v
def fineT (n : Nat) (v : Value) : Bool :=
  match v with
  | .tuple ⟨l⟩ => allB (fineV n) l
  | v => fineV n v
def fineO (n : Nat) (p : Nat × AObj) : Bool := match p.2 with
  | .row c _ _ => allB (fineC n) c
  | _ => false
def entryLow (E : Entry) : Bool := allB (fineV E.next) E.args && allB (fineO E.next) E.objs && fineT E.next' E.val && allB (fineO E.next') E.objs'
def renO (s : Nat → Nat) (o : AObj) : AObj := match o with
  | .row c x g => .row (renCs s c) x g
  | o => o
def pairC (v u : Value) (other : Nat × Nat) : Nat × Nat :=
  match v, u with
  | .pointer (some a), .pointer (some b) => (a.block, b.block)
  | .slice (some a) _ _, .slice (some b) _ _ => (a.block, b.block)
  | _, _ => other
def pairCs (l : List Value) : List Value → Nat × Nat → Nat × Nat :=
  List.rec (motive := fun _ => List Value → Nat × Nat → Nat × Nat) (fun _ o => o)
    (fun v _ ih r o => List.casesOn (motive := fun _ => Nat × Nat) r o (fun u r => pairC v u (ih r o))) l
def pairV (v u : Value) (other : Nat × Nat) : Nat × Nat :=
  match v, u with
  | .agg ⟨l⟩, .agg ⟨r⟩ => pairCs l r other
  | v, u => pairC v u other
def pairVs (l : List Value) : List Value → Nat × Nat :=
  List.rec (motive := fun _ => List Value → Nat × Nat) (fun _ => (0, 0))
    (fun v _ ih r => List.casesOn (motive := fun _ => Nat × Nat) r (0, 0) (fun u r => pairV v u (ih r))) l
def layR (s : Nat → Nat) (l : List (Nat × AObj)) (t : Trie) : Trie :=
  List.rec (motive := fun _ => Trie → Trie) (fun t => t) (fun p _ ih t => match p.2 with
    | .row c x g => seqCells (renCs s c) fun c => seqNat (s p.1) fun i => Trie.setK 40 t i (some (.row c x g)) ih
    | _ => ih t) l t
def hasR (s : Nat → Nat) (a b : Nat) (h : AHeap) (p : Nat × AObj) : Bool := Nat.ble b (Nat.add p.1 a) && hasObj h (s p.1, renO s p.2)
def useRAt (E : Entry) (args : List Value) (h : AHeap) (a b : Nat) (other : Option (Value × AHeap)) : Option (Value × AHeap) :=
  bif eqVs args (renVs (shB a b) E.args) && allB (hasR (shB a b) a b h) E.objs && Nat.ble (Nat.add E.next a) (Nat.add h.next b) && Nat.ble (Nat.add h.next (Nat.sub E.next' E.next)) far && Nat.blt 0 h.next then
    match h with
    | ⟨t, nx, lw, fl⟩ => seqV (renT (shN E.next nx a b) E.val) fun v => seqNat (Nat.add nx (Nat.sub E.next' E.next)) fun m => some (v, ⟨layR (shN E.next nx a b) E.objs' t, m, lw, fl⟩)
  else other
def useR (E : Entry) (args : List Value) (h : AHeap) (other : Option (Value × AHeap)) : Option (Value × AHeap) :=
  match pairVs args E.args with
  | (a, b) => useRAt E args h a b other
def orcR (T : List Entry) (cf : CallF) : CallF := fun fv args h =>
  match fv with
  | .func (.func f) ⟨[]⟩ ⟨[]⟩ => List.rec (motive := fun _ => Option (Value × AHeap)) (cf (.func (.func f) #[] #[]) args h) (fun E _ ih => bif Nat.beq E.f f then useR E args h ih else ih) T
  | fv => cf fv args h
end
theorem renCs_eq (s : Nat → Nat) (l : List Value) : renCs s l = l.map (renC s) := by
  induction l with
  | nil => rfl
  | cons v l ih => show renC s v :: renCs s l = _; rw [ih]; rfl
theorem renVs_eq (s : Nat → Nat) (l : List Value) : renVs s l = l.map (renV s) := by
  induction l with
  | nil => rfl
  | cons v l ih => show renV s v :: renVs s l = _; rw [ih]; rfl
theorem noSpot_eq {a : Addr} (h : noSpot a = true) : a.spot = none := by
  unfold noSpot at h
  split at h
  · assumption
  · cases h
section
variable {φ : Emb} {s : Nat → Nat} {n m : Nat}
theorem renC_map {v : Value} (hv : fineC n v = true) : mapV φ (renC s v) = mapV (φ.pre s) v := by
  unfold fineC at hv
  split at hv <;> first | cases hv; done | skip
  all_goals simp only [renC, mapV] <;> rfl
theorem renC_ok {v : Value} (hv : fineC n v = true) (ho : okV φ m (renC s v)) : okV (φ.pre s) n v := by
  unfold fineC at hv
  split at hv <;> first | cases hv; done | skip
  · rw [Bool.and_eq_true] at hv
    rw [okV]; exact ⟨blt_iff.1 hv.1, noSpot_eq hv.2⟩
  · rw [Bool.and_eq_true] at hv
    simp only [renC, okV] at ho
    rw [okV]; exact ⟨blt_iff.1 hv.1, noSpot_eq hv.2, ho.2.2⟩
  all_goals first | (rw [okV] <;> simp) | (simp only [renC] at ho; rw [okV] at ho ⊢; exact ho)
theorem renC_ok' {v : Value} (hv : fineC n v = true) (hs : ∀ i, i < n → s i < m) (ho : okV (φ.pre s) n v) : okV φ m (renC s v) := by
  unfold fineC at hv
  split at hv <;> first | cases hv; done | skip
  · rw [Bool.and_eq_true] at hv
    simp only [renC, okV]; exact ⟨hs _ (blt_iff.1 hv.1), trivial⟩
  · rw [Bool.and_eq_true] at hv
    rw [okV] at ho
    simp only [renC, okV]; exact ⟨hs _ (blt_iff.1 hv.1), trivial, ho.2.2⟩
  all_goals first | (simp only [renC]; rw [okV] <;> simp) | (simp only [renC]; rw [okV] at ho ⊢; exact ho)
theorem renC_one {v : Value} (hv : fineC n v = true) (h1 : oneCell v = true) : oneCell (renC s v) = true := by
  unfold fineC at hv
  split at hv <;> first | cases hv; done | skip
  all_goals first | exact h1 | rfl
theorem renV_map {v : Value} (hv : fineV n v = true) : mapV φ (renV s v) = mapV (φ.pre s) v := by
  unfold fineV at hv
  split at hv
  · rename_i l
    have hv := allB_iff.1 hv
    simp only [renV, mapV, mapArr, mapL_eq, renCs_eq, List.map_map]
    congr 2
    exact List.map_congr_left fun x hx => renC_map (hv x hx)
  · rename_i h1
    have : renV s v = renC s v := by
      unfold renV
      split
      · exact absurd rfl (h1 _)
      · rfl
    rw [this, renC_map hv]
theorem renV_ok {v : Value} (hv : fineV n v = true) (ho : okV φ m (renV s v)) : okV (φ.pre s) n v := by
  unfold fineV at hv
  split at hv
  · rename_i l
    have hv := allB_iff.1 hv
    simp only [renV, okV, okA, okL_iff, renCs_eq] at ho ⊢
    exact fun x hx => renC_ok (hv x hx) (ho _ (List.mem_map_of_mem hx))
  · rename_i h1
    have : renV s v = renC s v := by
      unfold renV
      split
      · exact absurd rfl (h1 _)
      · rfl
    rw [this] at ho
    exact renC_ok hv ho
theorem renV_ok' {v : Value} (hv : fineV n v = true) (hs : ∀ i, i < n → s i < m) (ho : okV (φ.pre s) n v) : okV φ m (renV s v) := by
  unfold fineV at hv
  split at hv
  · rename_i l
    have hv := allB_iff.1 hv
    simp only [renV, okV, okA, okL_iff, renCs_eq] at ho ⊢
    intro y hy
    obtain ⟨x, hx, rfl⟩ := List.mem_map.1 hy
    exact renC_ok' (hv x hx) hs (ho x hx)
  · rename_i h1
    have : renV s v = renC s v := by
      unfold renV
      split
      · exact absurd rfl (h1 _)
      · rfl
    rw [this]
    exact renC_ok' hv hs ho
theorem renT_map {v : Value} (hv : fineT n v = true) : mapV φ (renT s v) = mapV (φ.pre s) v := by
  unfold fineT at hv
  split at hv
  · rename_i l
    have hv := allB_iff.1 hv
    simp only [renT, mapV, mapArr, mapL_eq, renVs_eq, List.map_map]
    congr 2
    exact List.map_congr_left fun x hx => renV_map (hv x hx)
  · rename_i h1
    have : renT s v = renV s v := by
      unfold renT
      split
      · exact absurd rfl (h1 _)
      · rfl
    rw [this, renV_map hv]
theorem renT_ok' {v : Value} (hv : fineT n v = true) (hs : ∀ i, i < n → s i < m) (ho : okV (φ.pre s) n v) : okV φ m (renT s v) := by
  unfold fineT at hv
  split at hv
  · rename_i l
    have hv := allB_iff.1 hv
    simp only [renT, okV, okA, okL_iff, renVs_eq] at ho ⊢
    intro y hy
    obtain ⟨x, hx, rfl⟩ := List.mem_map.1 hy
    exact renV_ok' (hv x hx) hs (ho x hx)
  · rename_i h1
    have : renT s v = renV s v := by
      unfold renT
      split
      · exact absurd rfl (h1 _)
      · rfl
    rw [this]
    exact renV_ok' hv hs ho
theorem renO_row {i : Nat} {o : AObj} (ho : fineO n (i, o) = true) : ∃ c x g, o = .row c x g ∧ renO s o = .row (c.map (renC s)) x g ∧ ∀ v, v ∈ c → fineC n v = true := by
  unfold fineO at ho
  split at ho
  · rename_i c x g e
    have e : o = .row c x g := e
    subst e
    exact ⟨c, x, g, rfl, by simp only [renO, renCs_eq], allB_iff.1 ho⟩
  · cases ho
theorem orel_back {w : World} {i : Nat} {o : AObj} (hf : fineO n (i, o) = true) (ho : ORel φ m w (s i) (renO s o)) : ORel (φ.pre s) n w i o := by
  obtain ⟨c, x, g, rfl, e, hfc⟩ := renO_row (s := s) hf
  rw [e] at ho
  obtain ⟨c', e', fz, h1, h2, h3⟩ := ho
  refine ⟨c', e', fz, h1, fun k v hk => ?_, fun hw => ?_⟩
  · have hv := hfc v (List.mem_of_getElem? hk)
    have hk' : (c.map (renC s))[k]? = some (renC s v) := by rw [List.getElem?_map, hk]; rfl
    obtain ⟨a1, a2, a3⟩ := h2 k _ hk'
    refine ⟨renC_ok hv a1, ?_, ?_⟩
    · unfold fineC at hv
      split at hv <;> first | cases hv; done | skip
      all_goals first | exact a2 | rfl
    · rw [renC_map hv] at a3; exact a3
  · have := h3 hw
    rw [List.length_map] at this
    exact this
theorem orel_on {w : World} {i : Nat} {o : AObj} (hf : fineO n (i, o) = true) (hs : ∀ i, i < n → s i < m) (ho : ORel (φ.pre s) n w i o) : ORel φ m w (s i) (renO s o) := by
  obtain ⟨c, x, g, rfl, e, hfc⟩ := renO_row (s := s) hf
  rw [e]
  obtain ⟨c', e', fz, h1, h2, h3⟩ := ho
  refine ⟨c', e', fz, h1, fun k v hk => ?_, fun hw => ?_⟩
  · rw [List.getElem?_map, Option.map_eq_some_iff] at hk
    obtain ⟨u, hk, rfl⟩ := hk
    have hv := hfc u (List.mem_of_getElem? hk)
    obtain ⟨a1, a2, a3⟩ := h2 k u hk
    exact ⟨renC_ok' hv hs a1, renC_one hv a2, by rw [renC_map hv]; exact a3⟩
  · have := h3 hw
    rw [List.length_map]
    exact this
end
theorem layR_eq {n : Nat} (s : Nat → Nat) : ∀ (l : List (Nat × AObj)) (t : Trie), (∀ p ∈ l, fineO n p = true) → layR s l t = lay (l.map fun p => (s p.1, renO s p.2)) t := by
  intro l
  induction l with
  | nil => intro t _; rfl
  | cons p l ih =>
    intro t hf
    obtain ⟨i, o⟩ := p
    obtain ⟨c, x, g, rfl, e, _⟩ := renO_row (s := s) (hf _ (List.mem_cons_self ..))
    have h1 : layR s ((i, .row c x g) :: l) t = seqCells (renCs s c) fun c => seqNat (s i) fun i => Trie.setK 40 t i (some (.row c x g)) (layR s l) := rfl
    rw [h1, seqCells_eq, seqNat_eq, Trie.setK_eq, ih _ fun p hp => hf p (List.mem_cons_of_mem _ hp), List.map_cons, lay_cons]
    rfl
theorem useR_sound {E : Entry} (hT : ∃ cf, SoundCF P cf ∧ entryOk cf E = true) (hlow : entryLow E = true) {args : List Value} {h : AHeap} {a b : Nat} {r : Value} {h' : AHeap} {other : Option (Value × AHeap)} {φ : Emb} {w : World}
    (H : HRel φ h w) (hargs : ∀ x ∈ args, okV φ h.next x) (hr : useRAt E args h a b other = some (r, h'))
    (ho : other = some (r, h') → CallOk P (.func (.func E.f) #[] #[]) args φ h w r h') : CallOk P (.func (.func E.f) #[] #[]) args φ h w r h' := by
  unfold useRAt at hr
  generalize hc : (eqVs args (renVs (shB a b) E.args) && allB (hasR (shB a b) a b h) E.objs && Nat.ble (Nat.add E.next a) (Nat.add h.next b) && Nat.ble (Nat.add h.next (Nat.sub E.next' E.next)) far && Nat.blt 0 h.next) = c at hr
  cases c with
  | false => exact ho hr
  | true =>
    simp only [Bool.and_eq_true] at hc
    obtain ⟨⟨⟨⟨c1, c2⟩, c3⟩, c4⟩, c5⟩ := hc
    have c5 := blt_iff.1 c5
    have ha := eqVs_eq c1
    have c2 := allB_iff.1 c2
    have c3 := ble_iff.1 c3
    have c4 := ble_iff.1 c4
    have c3 : E.next + a ≤ h.next + b := c3
    have c4 : h.next + (E.next' - E.next) ≤ far := c4
    unfold entryLow at hlow
    simp only [Bool.and_eq_true] at hlow
    obtain ⟨⟨⟨l1, l2⟩, l3⟩, l4⟩ := hlow
    have l1 := allB_iff.1 l1
    have l2 := allB_iff.1 l2
    have l4 := allB_iff.1 l4
    obtain ⟨cf', hs', hok⟩ := hT
    unfold entryOk entryEnd at hok
    split at hok
    · rename_i v h1 hrun
      simp only [Bool.and_eq_true] at hok
      obtain ⟨⟨⟨⟨⟨e1, e2⟩, e3⟩, e4⟩, e5⟩, e6⟩ := hok
      have e1 := eqT_eq e1
      have e2 := beq_iff.1 e2
      have e3 := ble_iff.1 e3
      have e4 := ble_iff.1 e4
      have e5 := allB_iff.1 e5
      have e6 := fun p hp => blt_iff.1 (allB_iff.1 e6 p hp)
      subst e1
      obtain ⟨ht, hn, hlw, hfl⟩ := h
      simp only [cond_true, seqV_eq, seqNat_eq, Option.some.injEq, Prod.mk.injEq] at hr
      obtain ⟨rfl, rfl⟩ := hr
      generalize hh : (⟨ht, hn, hlw, hfl⟩ : AHeap) = h at *
      have hhn : h.next = hn := by rw [← hh]
      have hht : h.t = ht := by rw [← hh]
      have hhl : h.low = hlw := by rw [← hh]
      have hhf : h.floor = hfl := by rw [← hh]
      subst hhn hht hhl hhf
      clear hh
      have s1 : ∀ i, shB a b i = i + a - b := fun _ => rfl
      have s2 : ∀ i, shN E.next h.next a b i = if i < E.next then i + a - b else i - E.next + h.next := fun i => by
        unfold shN
        by_cases c : i < E.next
        · rw [blt_iff.2 c, if_pos c]; rfl
        · have : Nat.blt i E.next = false := by
            cases hb : Nat.blt i E.next with
            | false => rfl
            | true => exact absurd (blt_iff.1 hb) c
          rw [this, if_neg c]; rfl
      generalize hsO : shB a b = sO at *
      generalize hsN : shN E.next h.next a b = sN at *
      have sOlt : ∀ i, i < E.next → sO i < h.next := fun i hi => by
        rw [s1]
        omega
      have hob : ∀ p ∈ E.objs, b ≤ p.1 + a ∧ h.get (sO p.1) = some (renO sO p.2) := fun p hp => by
        have := c2 p hp
        unfold hasR at this
        simp only [Bool.and_eq_true] at this
        exact ⟨ble_iff.1 this.1, hasObj_eq this.2⟩
      have hwr : ∀ (s : Nat → Nat) (o : AObj), (renO s o).writable = o.writable := fun s o => by cases o <;> rfl
      have hnew : ∀ p ∈ E.objs', E.next ≤ p.1 ∧ p.1 < E.next' ∧ h1.get p.1 = some p.2 ∧ p.2.writable = true := by
        intro p hp
        have := e5 p hp
        unfold newObj at this
        simp only [Bool.and_eq_true] at this
        refine ⟨ble_iff.1 this.1.1.1, blt_iff.1 this.1.1.2, hasObj_eq this.1.2, ?_⟩
        have h4 := this.2
        split at h4
        · rename_i hx; rw [hx]; exact h4
        · cases h4
      have hlt : ∀ p ∈ E.objs, p.1 < far := fun p hp => Nat.lt_of_lt_of_le (Nat.lt_of_lt_of_le (e6 p hp) e4) e3
      have hin : ∀ i o, E.heap.get i = some o → (i, o) ∈ E.objs := by
        intro i o hio
        rw [AHeap.get_def] at hio
        split at hio
        · rcases lay_get E.objs .leaf hlt i o hio with h2 | h2
          · exact h2
          · simp [Trie.get_leaf] at h2
        · cases hio
      have hk : HRel (φ.pre sO) E.heap w := by
        refine ⟨fun i o hio => ?_, fun i j o o' hi hj hij hw => ?_, ?_, ?_⟩
        · have hm := hin i o hio
          exact orel_back (l2 _ hm) (H.live _ _ (hob _ hm).2)
        · have hm := hin i o hi
          have hm' := hin j o' hj
          have b1 := (hob _ hm).1
          have b2 := (hob _ hm').1
          exact H.apart (sO i) (sO j) _ _ (hob _ hm).2 (hob _ hm').2 (by rw [s1, s1]; have : b ≤ i + a := b1; have : b ≤ j + a := b2; omega) (by rw [hwr]; exact hw)
        · show E.next ≤ far
          omega
        · intro i hi
          show (lay E.objs .leaf).get i = none
          have hi' : E.next ≤ i := hi
          rw [lay_none _ _ hlt i (fun p hp => by have := e6 p hp; omega)]
          rfl
      have ha' : args = E.args.map (renV sO) := by rw [ha, renVs_eq]
      have hargs' : ∀ x ∈ E.args, okV (φ.pre sO) E.heap.next x := fun x hx => renV_ok (l1 x hx) (hargs _ (by rw [ha']; exact List.mem_map_of_mem hx))
      have hcall := hs' _ _ _ _ _ hrun (φ.pre sO) w hk (by simp [okV, okFn, okA, okL]) hargs'
      obtain ⟨q1, q2⟩ := hcall
      have hmm : E.args.map (mapV (φ.pre sO)) = args.map (mapV φ) := by
        rw [ha', List.map_map]
        exact List.map_congr_left fun x hx => (renV_map (l1 x hx)).symm
      refine ⟨q1, ?_⟩
      simp only [List.nil_append, List.append_nil] at q2 ⊢
      rw [hmm] at q2
      refine CallsIn.mono q2 fun e w' he => ?_
      obtain ⟨φ', he, H1, X, hv⟩ := he
      obtain ⟨M, hM⟩ : ∃ M, M = h.next + (E.next' - E.next) := ⟨_, rfl⟩
      let φ2 : Emb := ⟨fun i => if i < h.next then φ.at_ i else φ'.at_ (i - h.next + E.next), fun i => if i < h.next then φ.cap i else φ'.cap (i - h.next + E.next)⟩
      have hag : Agree h.next φ φ2 := fun i hi => by simp only [φ2, if_pos hi, and_self]
      have hag2 : Agree E.next' φ' (φ2.pre sN) := fun i hi => by
        show φ2.at_ (sN i) = _ ∧ φ2.cap (sN i) = _
        rw [s2]
        by_cases c : i < E.next
        · rw [if_pos c]
          have h3 := sOlt i c
          rw [s1] at h3
          obtain ⟨k1, k2⟩ := X.agree i c
          simp only [φ2, if_pos h3]
          rw [k1, k2]
          show φ.at_ _ = φ.at_ (sO i) ∧ φ.cap _ = φ.cap (sO i)
          rw [s1]; exact ⟨rfl, rfl⟩
        · rw [if_neg c]
          simp only [φ2]
          rw [if_neg (by omega), if_neg (by omega), show i - E.next + h.next - h.next + E.next = i by omega]
          exact ⟨rfl, rfl⟩
      have sNlt : ∀ i, i < E.next' → sN i < M := fun i hi => by
        rw [s2]
        by_cases c : i < E.next
        · rw [if_pos c]; have := sOlt i c; rw [s1] at this; omega
        · rw [if_neg c]; omega
      have sNge : ∀ p ∈ E.objs', h.next ≤ sN p.1 ∧ sN p.1 = p.1 - E.next + h.next := fun p hp => by
        have := (hnew p hp).1
        rw [s2, if_neg (by omega)]; omega
      have hlay : layR sN E.objs' h.t = lay (E.objs'.map fun p => (sN p.1, renO sN p.2)) h.t := layR_eq sN E.objs' h.t l4
      have hfar' : ∀ p ∈ (E.objs'.map fun p => (sN p.1, renO sN p.2)), p.1 < far := by
        intro p hp
        obtain ⟨q, hq, rfl⟩ := List.mem_map.1 hp
        have := sNlt q.1 (hnew q hq).2.1
        show sN q.1 < far
        omega
      have hget : ∀ i o, (⟨layR sN E.objs' h.t, M, h.low, h.floor⟩ : AHeap).get i = some o → (∃ p ∈ E.objs', i = sN p.1 ∧ o = renO sN p.2) ∨ h.get i = some o := by
        intro i o hio
        rw [AHeap.get_def] at hio
        split at hio
        · rw [hlay] at hio
          rcases lay_get _ h.t hfar' i o hio with h2 | h2
          · obtain ⟨q, hq, e⟩ := List.mem_map.1 h2
            cases e
            exact .inl ⟨q, hq, rfl, rfl⟩
          · right
            rw [AHeap.get_def]
            rcases Nat.lt_or_ge i h.next with h3 | h3
            · rw [if_pos h3]; exact h2
            · rw [H.fresh i h3] at h2; cases h2
        · cases hio
      have hno : ∀ b, ¬ Wr (φ.pre sO) E.heap b := by
        rintro b ⟨i, o, hi, hfl, _⟩
        have h2 := AHeap.lt_of_get hi
        have h3 : E.next ≤ i := hfl
        have h4 : i < E.next := h2
        omega
      have hfr : ∀ b, b < w.heap.size → w'.heap[b]? = w.heap[b]? := fun b hb => X.frame b hb (hno b)
      have hat : ∀ p ∈ E.objs', φ2.at_ (sN p.1) = φ'.at_ p.1 := fun p hp => (hag2 p.1 (hnew p hp).2.1).1
      have hbnew : ∀ p ∈ E.objs', w.heap.size ≤ (φ2.at_ (sN p.1)).block := by
        intro p hp
        rw [hat p hp]
        obtain ⟨k1, k2, k3, k4⟩ := hnew p hp
        have : Wr φ' h1 (φ'.at_ p.1).block := ⟨p.1, p.2, k3, by rw [X.floor]; exact k1, k4, rfl⟩
        exact (X.wr _ this).resolve_right (hno _)
      have hbold : ∀ i o, h.get i = some o → (φ2.at_ i).block < w.heap.size := by
        intro i o hio
        rw [(hag i (AHeap.lt_of_get hio)).1]
        exact (H.live i o hio).lt
      have hMe : Nat.add h.next (Nat.sub E.next' E.next) = M := hM.symm
      rw [hMe]
      refine ⟨φ2, ?_, ⟨fun i o hio => ?_, fun i j o o' hi hj hij hw => ?_, ?_, fun i hi => ?_⟩, ⟨hag, ?_, X.size, fun b hb _ => hfr b hb, ?_, rfl, X.same, ?_⟩, ?_⟩
      · rw [he, renT_map (n := E.next') l3, (mapV_agree hag2 (Nat.le_refl _) _ (by rw [← e2]; exact hv)).1]
      · rcases hget i o hio with ⟨p, hp, rfl, rfl⟩ | h2
        · have h3 := H1.live _ _ (hnew _ hp).2.2.1
          rw [e2] at h3
          exact orel_on (l4 _ hp) sNlt (h3.agree hag2 (Nat.le_refl _) (hnew _ hp).2.1)
        · exact ((H.live i o h2).same (hfr _ (H.live i o h2).lt)).agree hag (show h.next ≤ M by omega) (AHeap.lt_of_get h2)
      · rcases hget i o hi with ⟨p, hp, rfl, rfl⟩ | h2 <;> rcases hget j o' hj with ⟨q, hq, rfl, rfl⟩ | h3
        · rw [hat p hp, hat q hq]
          exact H1.apart p.1 q.1 _ _ (hnew _ hp).2.2.1 (hnew _ hq).2.2.1 (fun e => hij (by rw [e])) (hnew _ hp).2.2.2
        · have k1 := hbnew _ hp
          have k2 := hbold _ _ h3
          omega
        · have k1 := hbnew _ hq
          have k2 := hbold _ _ h2
          omega
        · rw [(hag i (AHeap.lt_of_get h2)).1, (hag j (AHeap.lt_of_get h3)).1]
          exact H.apart i j o o' h2 h3 hij hw
      · show M ≤ far
        omega
      · have hi' : M ≤ i := hi
        show (layR sN E.objs' h.t).get i = none
        rw [hlay, lay_none _ _ hfar' i (fun p hp => by
          obtain ⟨q, hq, rfl⟩ := List.mem_map.1 hp
          have := sNlt q.1 (hnew q hq).2.1
          show sN q.1 ≠ i
          omega)]
        exact H.fresh i (by omega)
      · show h.next ≤ M
        omega
      · rintro b ⟨i, o, hi, hfl, hw, rfl⟩
        rcases hget i o hi with ⟨p, hp, rfl, rfl⟩ | h2
        · exact .inl (hbnew _ hp)
        · right
          exact ⟨i, o, h2, hfl, hw, by rw [(hag i (AHeap.lt_of_get h2)).1]⟩
      · intro i o hi
        rcases hget i o hi with ⟨p, hp, rfl, rfl⟩ | h2
        · exact .inl (hbnew _ hp)
        · exact .inr ⟨i, o, h2, by rw [(hag i (AHeap.lt_of_get h2)).1]⟩
      · exact renT_ok' l3 sNlt (mapV_agree hag2 (Nat.le_refl _) _ (by rw [← e2]; exact hv)).2
    · cases hok
def TabOk (P : Program) (T : List Entry) : Prop := ∀ E ∈ T, (∃ cf, SoundCF P cf ∧ entryOk cf E = true) ∧ entryLow E = true
theorem orcR_sound {cf : CallF} (hcf : SoundCF P cf) : ∀ {T : List Entry}, TabOk P T → SoundCF P (orcR T cf) := by
  intro T hT fv args h r h' hr φ w H hfv hargs
  unfold orcR at hr
  split at hr
  · rename_i f
    revert hT
    induction T with
    | nil => intro _; exact hcf _ _ _ _ _ hr φ w H hfv hargs
    | cons E T ih =>
      intro hT
      have hr : (bif Nat.beq E.f f then useR E args h (List.rec (motive := fun _ => Option (Value × AHeap)) (cf (.func (.func f) #[] #[]) args h) (fun E _ ih => bif Nat.beq E.f f then useR E args h ih else ih) T) else (List.rec (motive := fun _ => Option (Value × AHeap)) (cf (.func (.func f) #[] #[]) args h) (fun E _ ih => bif Nat.beq E.f f then useR E args h ih else ih) T)) = some (r, h') := hr
      cases hb : Nat.beq E.f f with
      | false =>
        rw [hb, cond_false] at hr
        exact ih hr fun E' hE' => hT E' (List.mem_cons_of_mem _ hE')
      | true =>
        rw [hb, cond_true] at hr
        have hf := beq_iff.1 hb
        subst hf
        unfold useR at hr
        split at hr
        exact useR_sound (hT E (List.mem_cons_self ..)).1 (hT E (List.mem_cons_self ..)).2 H hargs hr fun ho => ih ho fun E' hE' => hT E' (List.mem_cons_of_mem _ hE')
  · exact hcf _ _ _ _ _ hr φ w H hfv hargs
noncomputable def acallR (P : Program) (A : List Nat) (T : List Entry) : Nat → CallF
  | 0, _, _, _ => none
  | n + 1, f, args, h =>
    match f with
    | .func (.func f) a b => callQ A f (fun h => (cfunc P f).run (orcR T (acallR P A T n)) n (app a.toList (app args b.toList)) h) h
    | .func (.yield l) ⟨[]⟩ ⟨[]⟩ => roundA P (orcR T (acallR P A T n)) n l args h
    | _ => none
theorem acallR_sound (hP : NamesFine P) (hm : P.follows .mixedOrders = true) (A : List Nat) {T : List Entry} (hT : TabOk P T) : ∀ n, SoundCF P (acallR P A T n) := by
  intro n
  induction n with
  | zero => intro fv args h r h' hr; simp [acallR] at hr
  | succ n ih =>
    intro fv args h r h' hr φ w H hfv hargs
    have ih' := orcR_sound ih hT
    simp only [acallR] at hr
    split at hr
    · rename_i f xs ys
      simp only [app_eq] at hr
      refine callQ_sound (fun g r h' hr H hn => func_sound hP hm ih' (draw_sound hP ih') hr H ?_) hr H
      rw [hn]
      simp only [okV] at hfv
      intro x hx
      simp only [List.mem_append] at hx
      rcases hx with hx | hx | hx
      · exact okA_iff.1 hfv.2.1 x hx
      · exact hargs x hx
      · exact okA_iff.1 hfv.2.2 x hx
    · exact round_sound hP hm ih' (draw_sound hP ih') hr H hargs
    · simp at hr
theorem tab_nil : TabOk P [] := fun _ h => by simp at h
theorem tab_cons {E : Entry} {T : List Entry} (h1 : (∃ cf, SoundCF P cf ∧ entryOk cf E = true) ∧ entryLow E = true) (h2 : TabOk P T) : TabOk P (E :: T) := fun E' h => by
  rcases List.mem_cons.1 h with rfl | h
  · exact h1
  · exact h2 E' h
end Go.Vm
