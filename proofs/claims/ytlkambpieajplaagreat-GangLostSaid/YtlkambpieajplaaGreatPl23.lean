/- Texts of the proofs of this seat, put together: GgV8, GgV9, GgLateL, GgV10, GgPlaysL, GgV11, GgBusyL, GgV12, GgEndsL, GgLostL. -/
import Derived.Test.YtlkambpieajplaaGreatPl22

namespace Go.Vm.St
open Go.Proofs Go.Vm.Vat
set_option linter.unusedSimpArgs false
set_option linter.unusedVariables false
set_option maxRecDepth 10000
variable {n : Nat} {h : AHeap}
def ThinG (G : MG) : Prop := (ThinS G.s ∧ G.nk ≤ 30) ∧ (faultG G = 0 → manyS G.s ≤ 200)
noncomputable instance (G : MG) : Decidable (ThinG G) := Classical.propDecidable _
def s22 : SCode := (.seq (.ops [jO 1 (.box (T 0)), jO 2 (.mov (.const (.bool false)))]) (.seq (.seq (.ops [jO 3 (.fieldAddr 0 (T 1)), jO 4 (.loadN 7 (T 3)), jO 5 (.call (.func 71) [(T 4)]), jO 6 (.not (T 5)), jO 7 (.mov (T 6)), ⟨some 8, (some (7, false)), .fieldAddr 9 (T 1)⟩, ⟨some 9, (some (7, false)), .load1 (T 8)⟩, ⟨some 10, (some (7, false)), .len (T 9)⟩, ⟨some 11, (some (7, false)), .int2 .gtr (T 10) (.const (.int .i64 30))⟩, jO 12 (.pick (T 7) (.const (.bool true)) (T 11))]) (.cond (T 12) (.seq (.ops [jO 2 (.mov (.const (.bool false)))]) .ret) .skip)) (.seq (.ops [jO 13 (.loadN 10 (T 1)), jO 14 (.call (.func 66) [(T 13)]), jO 15 (.int2 .neq (T 14) (.const (.int .i64 0))), jO 16 (.mov (T 15)), ⟨some 17, (some (16, false)), .fieldAddr 0 (T 1)⟩, ⟨some 18, (some (16, false)), .loadN 7 (T 17)⟩, ⟨some 19, (some (16, false)), .call (.func 72) [(T 18)]⟩, ⟨some 20, (some (16, false)), .int2 .leq (T 19) (.const (.int .i64 200))⟩, jO 21 (.pick (T 16) (.const (.bool true)) (T 20)), jO 2 (.mov (T 21))]) .ret)))
theorem fok22 : FnOk Tryz.prog 22 22 s22 [.tmp 2] := ⟨Tryz.f22, _, Tryz.func22, rfl, Tryz.ntmps22, by kernel_rfl, by kernel_rfl⟩
theorem thinG_c (hn : 2400 ≤ n) (hr : h.next + 1000200 < far) {wv vv sv kv : Value} {G : MG} (hy : GangR h wv vv sv kv G) :
    call n (.func (.func 22) #[] #[]) [.agg ⟨gaL G wv vv sv kv⟩] h = some (.bool (decide (ThinG G)), h) := by
  obtain ⟨n, rfl⟩ : ∃ p, n = p + 1 := ⟨n - 1, by omega⟩
  refine call_plain0 fok22 rfl rfl (by simp) rfl ?_
  have hy := hy.shut
  have hr : h.shutAll.next + 1000200 < far := hr
  generalize h.shutAll = h at hy hr
  simp only [s22, jO, jF, jR, jS, jU, jA, W_seq, W_ops]
  refine ops_box (cs := gaL G wv vv sv kv) (by omega) rfl hy.one fun h1 hx => ?_
  have n1 := hx.next
  have hy := hy.mono hx.sub
  have r1 := hx.row
  have et := thin_c (n := n) (h := h1) (by omega) (by omega) hy.s
  by_cases hT : ThinS G.s
  case neg =>
    have : ¬ ThinG G := fun e => hT e.1.1
    simp only [rn0, rn1, rn2, reduceIte, Nat.reduceEqDiff, Nat.reduceAdd, Nat.reduceMul, Nat.reduceSub, Nat.reduceLeDiff, Nat.reduceLT, ga_st r1, et, hT, this]
  by_cases c1 : (30 : Int) < (G.nk : Int)
  · have : ¬ ThinG G := fun e => by have := e.1.2; omega
    simp only [rn0, rn1, rn2, reduceIte, Nat.reduceEqDiff, Nat.reduceAdd, Nat.reduceMul, Nat.reduceSub, Nat.reduceLeDiff, Nat.reduceLT, ga_st r1, et, hT, r1.ld, gag, Nat.zero_add, Cells.len hy.k, c1, this]
  have hl : G.nk ≤ 30 := by omega
  have ef := faultR_c (n := n) (h := h1) (by omega) (by omega) hy hT hl
  by_cases hf : faultG G = 0
  case neg =>
    have : ThinG G := ⟨⟨hT, hl⟩, fun e => absurd e hf⟩
    simp only [rn0, rn1, rn2, reduceIte, Nat.reduceEqDiff, Nat.reduceAdd, Nat.reduceMul, Nat.reduceSub, Nat.reduceLeDiff, Nat.reduceLT, ga_st r1, et, hT, r1.ld, gag, Nat.zero_add, Cells.len hy.k, c1, r1.whole (n := 10) rfl, ef, hf, this]
  have em := many_c (n := n) (h := h1) (by omega) (by omega) hy.s (goodG.1 hf).s.args ⟨hT.1, hT.2.1⟩
  by_cases c2 : manyS G.s ≤ 200
  · have : ThinG G := ⟨⟨hT, hl⟩, fun _ => c2⟩
    simp only [rn0, rn1, rn2, reduceIte, Nat.reduceEqDiff, Nat.reduceAdd, Nat.reduceMul, Nat.reduceSub, Nat.reduceLeDiff, Nat.reduceLT, ga_st r1, et, hT, r1.ld, gag, Nat.zero_add, Cells.len hy.k, c1, r1.whole (n := 10) rfl, ef, hf, em, c2, this]
  · have : ¬ ThinG G := fun e => c2 (e.2 hf)
    simp only [rn0, rn1, rn2, reduceIte, Nat.reduceEqDiff, Nat.reduceAdd, Nat.reduceMul, Nat.reduceSub, Nat.reduceLeDiff, Nat.reduceLT, ga_st r1, et, hT, r1.ld, gag, Nat.zero_add, Cells.len hy.k, c1, r1.whole (n := 10) rfl, ef, hf, em, c2, this]
def s53 : SCode := (.seq (.ops [jO 1 (.box (T 0)), jO 2 (.mov (.const (.bool false)))]) (.seq (.ops [jO 3 (.loadN 10 (T 1)), jO 4 (.call (.func 22) [(T 3)]), jO 5 (.mov (T 4)), ⟨some 6, (some (5, true)), .loadN 10 (T 1)⟩, ⟨some 7, (some (5, true)), .call (.func 66) [(T 6)]⟩, ⟨some 8, (some (5, true)), .int2 .eql (T 7) (.const (.int .i64 0))⟩, jO 9 (.pick (T 5) (T 8) (.const (.bool false))), jO 2 (.mov (T 9))]) .ret))
theorem fok53 : FnOk Tryz.prog 53 10 s53 [.tmp 2] := ⟨Tryz.f53, _, Tryz.func53, rfl, Tryz.ntmps53, by kernel_rfl, by kernel_rfl⟩
theorem readyG_c (hn : 2410 ≤ n) (hr : h.next + 1000300 < far) {wv vv sv kv : Value} {G : MG} (hy : GangR h wv vv sv kv G) :
    call n (.func (.func 53) #[] #[]) [.agg ⟨gaL G wv vv sv kv⟩] h = some (.bool (decide (ThinG G ∧ faultG G = 0)), h) := by
  obtain ⟨n, rfl⟩ : ∃ p, n = p + 1 := ⟨n - 1, by omega⟩
  refine call_plain0 fok53 rfl rfl (by simp) rfl ?_
  have hy := hy.shut
  have hr : h.shutAll.next + 1000300 < far := hr
  generalize h.shutAll = h at hy hr
  simp only [s53, jO, jF, jR, jS, jU, jA, W_seq, W_ops]
  refine ops_box (cs := gaL G wv vv sv kv) (by omega) rfl hy.one fun h1 hx => ?_
  have n1 := hx.next
  have hy := hy.mono hx.sub
  have et := thinG_c (n := n) (h := h1) (by omega) (by omega) hy
  by_cases hT : ThinG G
  · have ef := faultR_c (n := n) (h := h1) (by omega) (by omega) hy hT.1.1 hT.1.2
    by_cases hf : faultG G = 0
    · simp only [rn0, rn1, rn2, reduceIte, Nat.reduceEqDiff, Nat.reduceAdd, Nat.reduceMul, Nat.reduceSub, Nat.reduceLeDiff, Nat.reduceLT, hx.row.whole (n := 10) rfl, et, hT, ef, hf, and_self]
    · simp only [rn0, rn1, rn2, reduceIte, Nat.reduceEqDiff, Nat.reduceAdd, Nat.reduceMul, Nat.reduceSub, Nat.reduceLeDiff, Nat.reduceLT, hx.row.whole (n := 10) rfl, et, hT, ef, hf, and_false]
  · simp only [rn0, rn1, rn2, reduceIte, Nat.reduceEqDiff, Nat.reduceAdd, Nat.reduceMul, Nat.reduceSub, Nat.reduceLeDiff, Nat.reduceLT, hx.row.whole (n := 10) rfl, et, hT, false_and]

theorem sliceArr10 {b m : Nat} (hm : m ≤ 10) : sliceArr 10 1 h (.pointer (some ⟨b, 0, none⟩)) none (some (.int .i64 (m : Int))) = some (.slice (some ⟨b, 0, none⟩) m 10, h) := by
  have e1 : boundA 0 none = some 0 := rfl
  have e2 : boundA 10 (some (.int .i64 (m : Int))) = some m := rfl
  have e3 : Nat.ble 0 m = true := ble_iff.2 (Nat.zero_le _)
  have e4 : Nat.ble m 10 = true := ble_iff.2 hm
  have e5 : Nat.beq 10 0 = false := rfl
  unfold sliceArr
  simp only [e1, e2, e3, e4, e5, Bool.and_self, cond_true, cond_false, addrPlus, Nat.zero_mul, Nat.add_zero, Nat.sub_zero]
theorem arr_part {g : AHeap} {b k m cap : Nat} {a : Nat → Int} (hr : Row g b (arrN m a)) (hk : k ≤ m) (hm : 0 < m) : Ints g (.slice (some ⟨b, 0, none⟩) k cap) k a := by
  obtain ⟨w, gr, hg⟩ := hr
  exact ⟨some ⟨b, 0, none⟩, cap, rfl, fun x e => by cases e; rfl, .inr ⟨b, 0, arrN m a, w, gr, rfl, hg, fun i j hi hj => by
    have : j = 0 := by omega
    subst this
    simp only [Nat.mul_one, Nat.zero_add, Nat.add_zero]
    exact arrN_get (by omega)⟩⟩
theorem momOk {G : MG} {m : Nat} {p : Nat → Int} (hG : GoodG G) (hP : PlanOk G m p) : MomOk G G.nk (fun k => k) p := by
  obtain ⟨z0, z1, z4, z5, _⟩ := hG.sizes
  refine ⟨z4, fun k hk => ?_⟩
  have h1 := hP.2 k (by have := hP.1; omega)
  have h2 := (hG.begin hk).2
  exact ⟨hk, by omega, by omega⟩
theorem errPG_ok {G : MG} {m : Nat} {p : Nat → Int} (h : errPG G m p = 0) : GoodG G ∧ PlanOk G m p := by
  unfold errPG at h
  by_cases c : faultG G = 0
  · rw [if_neg (by simpa using c)] at h
    by_cases c2 : PlanOk G m p
    · exact ⟨goodG.1 c, c2⟩
    · rw [if_neg c2] at h; exact absurd h (by decide)
  · rw [if_pos c] at h; exact absurd h c
theorem hrs_ok {G : MG} {q : Nat} {x : Nat → Int} (hG : GoodG G) (hH : HrsOk G q x) : ∀ v, v < G.nk → 0 ≤ x v ∧ x v ≤ 4 := fun v hv => by
  have h1 := hH.2 v (by have := hH.1; omega)
  have h2 := (hG.works v hv).2
  omega
theorem ret_tt {a b : Nat} {f : Go.Vm.Fr} : resV f h [.tmp a, .tmp b] = some (.tuple ⟨[f a, f b]⟩) := id rfl
def ProveS (G : MG) (m : Nat) (p : Nat → Int) (d : Int) : Prop := errPG G m p = 0 ∧ SureW G G.nk (fun k => k) p ∧ doneS G p G.nk ≤ d
noncomputable instance (G : MG) (m : Nat) (p : Nat → Int) (d : Int) : Decidable (ProveS G m p d) := Classical.propDecidable _

theorem awakeG {g : AHeap} (hn : 1 ≤ n) : call n (.func (.func 23) #[] #[]) [] g = some (.bool true, g) := awake_c hn

noncomputable def playE (G : MG) (m : Nat) (p : Nat → Int) (q : Nat) (x : Nat → Int) : Int := if errPG G m p ≠ 0 then errPG G m p else if HrsOk G q x then (if InT G (fun k => k) p x G.nk then 0 else 9) else 2
def PlayG (h : AHeap) (G : MG) (m : Nat) (p : Nat → Int) (q : Nat) (x : Nat → Int) (v : Value) (h' : AHeap) : Prop :=
  (∀ i, i < h.next → h'.get i = h.get i) ∧ h.next ≤ h'.next ∧ h'.next ≤ h.next + 300 ∧ h'.floor = h.floor ∧
    ((playE G m p q x ≠ 0 ∧ v = .tuple ⟨[nilS, .int .i64 (playE G m p q x)]⟩) ∨ (playE G m p q x = 0 ∧ ∃ lv, v = .tuple ⟨[lv, .int .i64 0]⟩ ∧ Ints h' lv (G.close.toNat + 1) (shN G (fun k => k) p x G.nk) ∧ oneCell lv = true))
def s24 : SCode := (.seq (.ops [jO 3 (.box (T 0)), jO 6 (.mov (.const (.slice none 0 0))), jO 7 (.mov (.const (.int .i64 0)))]) (.seq (.ops [jO 14 (.loadN 10 (T 3)), jO 15 (.mov (T 1)), jO 16 (.call (.func 76) [(T 14), (T 15)]), jO 13 (.mov (T 16)), jO 17 (.extract 0 (T 13)), jO 18 (.extract 1 (T 13)), jO 19 (.extract 2 (T 13)), jO 8 (.alloc [(.int .i64 0), (.int .i64 0), (.slice none 0 0), (.int .i64 0), (.int .i64 0), (.slice none 0 0), (.slice none 0 0), (.int .i64 0), (.int .i64 0), (.slice none 0 0), (.map none)]), ⟨none, none, .store 11 (T 8) (T 17)⟩, jO 9 (.mov (T 18)), jO 10 (.mov (T 19))]) (.seq (.seq (.ops [jO 20 (.mov (T 10)), jO 21 (.int2 .neq (T 20) (.const (.int .i64 0)))]) (.cond (T 21) (.seq (.ops [jO 22 (.mov (T 10)), jO 6 (.mov (.const (.slice none 0 0))), jO 7 (.mov (T 22))]) .ret) .skip)) (.seq (.seq (.ops [jO 23 (.loadN 11 (T 8)), jO 24 (.mov (T 2)), jO 25 (.call (.func 77) [(T 23), (T 24)]), jO 26 (.not (T 25))]) (.cond (T 26) (.seq (.ops [jO 6 (.mov (.const (.slice none 0 0))), jO 7 (.mov (.const (.int .i64 2)))]) .ret) .skip)) (.seq (.ops [jO 28 (.loadN 11 (T 8)), jO 29 (.mov (T 9)), jO 30 (.mov (T 2)), jO 31 (.call (.func 78) [(T 28), (T 29), (T 30)]), jO 27 (.mov (T 31)), jO 32 (.extract 0 (T 27)), jO 33 (.extract 1 (T 27)), jO 11 (.alloc [(.int .i64 0), (.int .i64 0), (.int .i64 0), (.int .i64 0), (.int .i64 0), (.int .i64 0), (.int .i64 0), (.int .i64 0), (.int .i64 0), (.int .i64 0)]), ⟨none, none, .store 10 (T 11) (T 32)⟩, jO 12 (.mov (T 33))]) (.seq (.seq (.ops [jO 34 (.mov (T 12)), jO 35 (.not (T 34))]) (.cond (T 35) (.seq (.ops [jO 6 (.mov (.const (.slice none 0 0))), jO 7 (.mov (.const (.int .i64 9)))]) .ret) .skip)) (.seq (.ops [jO 36 (.fieldAddr 0 (T 8)), jO 37 (.fieldAddr 8 (T 36)), jO 38 (.load1 (T 37)), jO 39 (.int2 .add (T 38) (.const (.int .i64 1))), jO 40 (.sliceArr 10 1 (T 11) none (some (T 39))), jO 41 (.call (.func 79) [(T 40)]), jO 6 (.mov (T 41)), jO 7 (.mov (.const (.int .i64 0)))]) .ret)))))))
theorem fok24 : FnOk Tryz.prog 24 42 s24 [.tmp 6, .tmp 7] := ⟨Tryz.f24, _, Tryz.func24, rfl, Tryz.ntmps24, by kernel_rfl, by kernel_rfl⟩
set_option maxHeartbeats 1000000 in
theorem playG_c (hn : 2540 ≤ n) (hr : h.next + 1500000 < far) (hfl : h.floor ≤ h.next) {wv vv sv kv lv xv : Value} {G : MG} {m q : Nat} {p x : Nat → Int} (hy : GangR h wv vv sv kv G) (hT : ThinS G.s) (hl : G.nk ≤ 30) (hp : Ints h lv m p) (hm30 : m ≤ 30) (hx : Ints h xv q x) (hq30 : q ≤ 30) :
    ∃ v h', call n (.func (.func 24) #[] #[]) [.agg ⟨gaL G wv vv sv kv⟩, lv, xv] h = some (v, h') ∧ PlayG h G m p q x v h' := by
  classical
  obtain ⟨n, rfl⟩ : ∃ p, n = p + 1 := ⟨n - 1, by omega⟩
  refine call_any0 fok24 rfl rfl (by simp) ?_
  simp only [s24, jO, jF, jR, jS, jU, jA, W_seq, W_ops]
  refine ops_box (cs := gaL G wv vv sv kv) (by omega) rfl hy.one fun g1 hx1 => ?_
  have n1 := hx1.next
  have f1 := hx1.floor
  have r1 := hx1.row
  have hy1 := hy.mono hx1.sub
  have hp1 : Ints g1 lv m p := Cells.mono hp hx1.sub
  obtain ⟨ov, g2, e2, o2, u2, m2, f2, hO⟩ := openPG_c (n := n) (h := g1) (by omega) (by omega) (by omega) hy1 hT hl hp1 hm30
  rcases hO with ⟨he, rfl⟩ | ⟨he, r, pv, rfl, hm2, hr2, hr2', hpv, hpo⟩
  · have e3 : playE G m p q x = errPG G m p := if_pos he
    simp only [rn0, rn1, rn2, reduceIte, Nat.reduceEqDiff, Nat.reduceAdd, Nat.reduceMul, Nat.reduceSub, Nat.reduceLeDiff, Nat.reduceLT, r1.whole (n := 10) rfl, e2, ex30, ex31, ex32]
    refine step_new (vs := zcL) (by omega) (by omega) rfl (by simp only [rn0, rn1, rn2, reduceIte, Nat.reduceEqDiff, Nat.reduceAdd, Nat.reduceMul, Nat.reduceSub, Nat.reduceLeDiff, Nat.reduceLT]; rfl) rfl rfl rfl fun g4 hx4 => ?_
    have n4 := hx4.next
    have f4 := hx4.floor
    simp only [rn0, rn1, rn2, reduceIte, Nat.reduceEqDiff, Nat.reduceAdd, Nat.reduceMul, Nat.reduceSub, Nat.reduceLeDiff, Nat.reduceLT, he, ret_tt]
    exact ⟨fun i hi => by rw [hx4.old i (by omega), o2 i (by omega), hx1.old i hi], by omega, by omega, by omega, .inl ⟨by rw [e3]; exact he, by rw [e3]⟩⟩
  obtain ⟨hG, hP⟩ := errPG_ok he
  obtain ⟨z0, z1, z4, z5, _, _, zc0, zc9⟩ := hG.sizes
  have hy2 := hy1.mono (AHeap.subOf o2)
  simp only [rn0, rn1, rn2, reduceIte, Nat.reduceEqDiff, Nat.reduceAdd, Nat.reduceMul, Nat.reduceSub, Nat.reduceLeDiff, Nat.reduceLT, r1.whole (n := 10) rfl, e2, ex30, ex31, ex32]
  refine step_new (vs := crL G wv vv sv kv (.map (some r))) (by omega) (by omega) rfl (by simp only [rn0, rn1, rn2, reduceIte, Nat.reduceEqDiff, Nat.reduceAdd, Nat.reduceMul, Nat.reduceSub, Nat.reduceLeDiff, Nat.reduceLT]; rfl) (cr_one hy2 rfl) rfl rfl fun g4 hx4 => ?_
  have n4 := hx4.next
  have f4 := hx4.floor
  have r4 := hx4.row
  have o4 : ∀ i, i < h.next → g4.get i = h.get i := fun i hi => by rw [hx4.old i (by omega), o2 i (by omega), hx1.old i hi]
  have hm4 : MapB g4 r key2 (rip G G.nk) := hm2.keep (hx4.old _ hm2.lt)
  have hy4 := hy2.mono hx4.sub
  have hp4 : Ranges g4 pv G.nk (fun k => (k : Int)) p := Cells.mono hpv hx4.sub
  have hx4' : Ints g4 xv q x := Cells.mono hx (AHeap.subOf o4)
  have hM := momOk hG hP
  obtain ⟨A7, hA7⟩ : ∃ q, q = g2.next := ⟨_, rfl⟩
  rw [← hA7] at r4
  rw [← hA7]
  have eh := isHours_c (n := n) (h := g4) (mv := .map (some r)) (by omega) (by omega) hy4 rfl hx4' hq30
  by_cases hH : HrsOk G q x
  case neg =>
    have e3 : playE G m p q x = 2 := by rw [playE, if_neg (by simpa using he), if_neg hH]
    simp only [rn0, rn1, rn2, reduceIte, Nat.reduceEqDiff, Nat.reduceAdd, Nat.reduceMul, Nat.reduceSub, Nat.reduceLeDiff, Nat.reduceLT, r4.whole (n := 11) rfl, eh, hH, ret_tt]
    exact ⟨o4, by omega, by omega, by omega, .inl ⟨by rw [e3]; decide, by rw [e3]⟩⟩
  have ep := playW_c (n := n) (h := g4) (mv := .map (some r)) (by omega) (by omega) hy4 hG rfl hp4 hM hx4' (Nat.le_of_eq hH.1.symm) (hrs_ok hG hH)
  obtain ⟨a, ha⟩ : ∃ a : Nat → Int, a = fun t => if InT G (fun k => k) p x G.nk then shN G (fun k => k) p x G.nk t else 0 := ⟨_, rfl⟩
  rw [← ha] at ep
  simp only [rn0, rn1, rn2, reduceIte, Nat.reduceEqDiff, Nat.reduceAdd, Nat.reduceMul, Nat.reduceSub, Nat.reduceLeDiff, Nat.reduceLT, r4.whole (n := 11) rfl, eh, hH, ep, ex0, ex1]
  refine step_new (vs := arrN 10 a) (by omega) (by omega) rfl (by simp only [rn0, rn1, rn2, reduceIte, Nat.reduceEqDiff, Nat.reduceAdd, Nat.reduceMul, Nat.reduceSub, Nat.reduceLeDiff, Nat.reduceLT]; rfl) arrN_one rfl (by simp [arrN_len]) fun g5 hx5 => ?_
  have n5 := hx5.next
  have f5 := hx5.floor
  have r5 := hx5.row
  have o5 : ∀ i, i < h.next → g5.get i = h.get i := fun i hi => by rw [hx5.old i (by omega), o4 i hi]
  by_cases hI : InT G (fun k => k) p x G.nk
  case neg =>
    have e3 : playE G m p q x = 9 := by rw [playE, if_neg (by simpa using he), if_pos hH, if_neg hI]
    simp only [rn0, rn1, rn2, reduceIte, Nat.reduceEqDiff, Nat.reduceAdd, Nat.reduceMul, Nat.reduceSub, Nat.reduceLeDiff, Nat.reduceLT, hI, ret_tt]
    exact ⟨o5, by omega, by omega, by omega, .inl ⟨by rw [e3]; decide, by rw [e3]⟩⟩
  have e3 : playE G m p q x = 0 := by rw [playE, if_neg (by simpa using he), if_pos hH, if_pos hI]
  have hcl : ((G.close.toNat : Nat) : Int) = G.close := Int.toNat_of_nonneg zc0
  have hw : wrapF .i64 (G.close + 1) = ((G.close.toNat + 1 : Nat) : Int) := by rw [wrap_in (by omega) (by omega)]; omega
  have hsl := sliceArr10 (h := g5) (b := g4.next) (m := G.close.toNat + 1) (by omega)
  have hpart := arr_part (k := G.close.toNat + 1) (cap := 10) r5 (by omega) (by omega)
  obtain ⟨cv, g6, e6, i6, one6, o6, u6, m6, f6, _⟩ := clone_c (n := n) (h := g5) (by omega) (by omega) hpart (by omega)
  have r45 := r4.mono hx5.sub
  simp only [rn0, rn1, rn2, reduceIte, Nat.reduceEqDiff, Nat.reduceAdd, Nat.reduceMul, Nat.reduceSub, Nat.reduceLeDiff, Nat.reduceLT, hI, r45.ld, crg, Nat.zero_add, hw, x_sliceArr, Option.map_none, Option.map_some, hsl, e6, ret_tt]
  refine ⟨fun i hi => by rw [o6 i (by omega), o5 i hi], by omega, by omega, by omega, .inr ⟨e3, cv, rfl, ?_, one6⟩⟩
  have : a = shN G (fun k => k) p x G.nk := by rw [ha]; funext t; rw [if_pos hI]
  rw [← this]; exact i6




def s106 : SCode := (.seq (.ops [jO 4 (.mov (.const (.int .i64 0)))]) (.seq (.seq (.ops [jO 5 (.mov (T 0)), jO 6 (.len (T 5)), jO 7 (.int2 .eql (T 6) (.const (.int .i64 0)))]) (.cond (T 7) (.seq (.ops [jO 4 (.mov (.const (.int .i64 0)))]) .ret) .skip)) (.seq (.ops [jO 8 (.mov (T 0)), jO 9 (.mov (T 1)), jO 10 (.mov (T 0)), jO 11 (.len (T 10)), jO 12 (.plain (.binOp .rem 3 (T 9) (T 11) 3) 3), jO 13 (.idxSl 1 (T 8) (T 12)), jO 14 (.load1 (T 13)), jO 15 (.plain (.convert 82 3 (T 14)) 3), jO 4 (.mov (T 15))]) .ret)))
theorem fok106 : FnOk Tryz.prog 106 16 s106 [.tmp 4] := ⟨Tryz.f106, _, Tryz.func106, rfl, Tryz.ntmps106, by kernel_rfl, by kernel_rfl⟩
theorem word_c (hn : 1 ≤ n) {ws : Value} {m : Nat} {a : Nat → Nat} (hw : Words h ws m a) (i : Nat) :
    call n (.func (.func 106) #[] #[]) [ws, .int .i64 (i : Int)] h = some (.int .i64 ((wordN m a i : Nat) : Int), h) := by
  obtain ⟨n, rfl⟩ : ∃ p, n = p + 1 := ⟨n - 1, by omega⟩
  refine call_plain0 fok106 rfl rfl (by simp) rfl ?_
  have hw : Words h.shutAll ws m a := ⟨Cells.shut hw.1, hw.2⟩
  generalize h.shutAll = h at hw
  by_cases hm : m = 0
  · have hm' : (m : Int) = 0 := by omega
    have hz : wordN m a i = 0 := by unfold wordN; rw [if_pos hm]
    rw [hz]
    simp only [rn0, rn1, rn2, reduceIte, Nat.reduceEqDiff, Nat.reduceAdd, Nat.reduceMul, Nat.reduceSub, Nat.reduceLeDiff, Nat.reduceLT, s106, jO, jF, jR, jS, jU, jA, Cells.len hw.1, hm', Int.natCast_zero]
  · have hm' : ¬ (m : Int) = 0 := by omega
    have hlt : i % m < m := Nat.mod_lt _ (by omega)
    have hz : wordN m a i = a (i % m) := by unfold wordN; rw [if_neg hm]
    have m1 : (i : Int).tmod (m : Int) = ((i % m : Nat) : Int) := rfl
    rw [hz]
    simp only [rn0, rn1, rn2, reduceIte, Nat.reduceEqDiff, Nat.reduceAdd, Nat.reduceMul, Nat.reduceSub, Nat.reduceLeDiff, Nat.reduceLT, s106, jO, jF, jR, jS, jU, jA, Cells.len hw.1, hm', valN_tmp, valN_const, r_rem hm', m1, Cells.idx hw.1 hlt, Cells.ld hw.1 hlt Nat.zero_lt_one, p_conv16, r_16 (hw.2 _ hlt)]
def hoursOfV (G : MG) (v : Nat) : Nat := (G.s.last - G.s.vb v + 1).toNat
def chosenP (G : MG) (m : Nat) (a : Nat → Nat) (k : Nat) : Int := G.s.vb k + ((wordN m a k % hoursOfV G k : Nat) : Int)
theorem chosen_ok {G : MG} (hG : GoodG G) (m : Nat) (a : Nat → Nat) : PlanOk G G.nk (chosenP G m a) := ⟨rfl, fun i hi => by
  have h1 := (hG.begin hi).2
  have h2 : wordN m a i % hoursOfV G i < hoursOfV G i := Nat.mod_lt _ (by unfold hoursOfV; omega)
  unfold chosenP
  generalize wordN m a i % hoursOfV G i = q at h2
  unfold hoursOfV at h2
  omega⟩
def s54 : SCode := (.seq (.ops [jO 2 (.box (T 0)), jO 4 (.mov (.const (.slice none 0 0)))]) (.seq (.ops [jO 5 (.mov (.const (.slice none 0 0)))]) (.seq (.seq (.ops [jO 6 (.mov (.const (.int .i64 0)))]) (.block 0 (.loop (.seq (.seq (.ops [jO 8 (.mov (T 6)), jO 9 (.fieldAddr 9 (T 2)), jO 10 (.load1 (T 9)), jO 11 (.len (T 10)), jO 12 (.int2 .lss (T 8) (T 11))]) (.cond (T 12) .skip (.exit 0))) (.seq (.block 1 (.seq (.ops [jO 15 (.fieldAddr 0 (T 2)), jO 16 (.fieldAddr 5 (T 15)), jO 17 (.load1 (T 16)), jO 18 (.mov (T 6)), jO 19 (.idxSl 4 (T 17) (T 18)), jO 20 (.fieldAddr 0 (T 19)), jO 21 (.load1 (T 20)), jO 7 (.mov (T 21))]) (.draw [jF 22 (.mov (T 5)), jF 23 (.mov (T 7)), jF 24 (.mov (T 1)), jF 25 (.mov (T 6)), jU 26 (.call (.func 106) [(T 24), (T 25)]), jF 27 (.fieldAddr 0 (T 2)), jF 28 (.fieldAddr 0 (T 27)), jR 29 (.load1 (T 28)), jF 30 (.mov (T 7)), jF 31 (.int2 .sub (T 29) (T 30)), jF 32 (.int2 .add (T 31) (.const (.int .i64 1))), jF 33 (.plain (.binOp .rem 3 (T 26) (T 32) 3) 3), jF 34 (.int2 .add (T 23) (T 33)), jA 35 (.bslice 1 1 [(.int .i64 0)] [0] [(T 34)]), jA 36 (.append 1 8 (T 22) (T 35)), jF 5 (.mov (T 36))]))) (.ops [jO 13 (.mov (T 6)), jO 14 (.int2 .add (T 13) (.const (.int .i64 1))), jO 6 (.mov (T 14))])))))) (.seq (.ops [jO 37 (.mov (T 5)), jO 4 (.mov (T 37))]) .ret))))
theorem fok54 : FnOk Tryz.prog 54 38 s54 [.tmp 4] := ⟨Tryz.f54, _, Tryz.func54, rfl, Tryz.ntmps54, by kernel_rfl, by kernel_rfl⟩
set_option maxHeartbeats 1000000 in
theorem chosen_c (hn : 60 ≤ n) (hr : h.next + 80 < far) (hfl : h.floor ≤ h.next) {wv vv sv kv ws : Value} {G : MG} {m : Nat} {a : Nat → Nat} (hy : GangR h wv vv sv kv G) (hG : GoodG G) (hw : Words h ws m a) :
    ∃ w h', call n (.func (.func 54) #[] #[]) [.agg ⟨gaL G wv vv sv kv⟩, ws] h = some (w, h') ∧ Ints h' w G.nk (chosenP G m a) ∧ oneCell w = true ∧ (∀ i, i < h.next → h'.get i = h.get i) ∧ h.next ≤ h'.next ∧ h'.next ≤ h.next + 70 ∧ h'.floor = h.floor := by
  obtain ⟨n, rfl⟩ : ∃ p, n = p + 1 := ⟨n - 1, by omega⟩
  refine call_any0 fok54 rfl rfl (by simp) ?_
  obtain ⟨z0, z1, z4, z5, _⟩ := hG.sizes
  simp only [s54, jO, jF, jR, jS, jU, jA, W_seq, W_ops]
  refine ops_box (cs := gaL G wv vv sv kv) (by omega) rfl hy.one fun g1 hx1 => ?_
  have n1 := hx1.next
  have f1 := hx1.floor
  have hy1 := hy.mono hx1.sub
  have hw1 := hw.mono hx1.sub
  have r1 := hx1.row
  simp only [rn0, rn1, rn2, reduceIte, Nat.reduceEqDiff, Nat.reduceAdd, Nat.reduceMul, Nat.reduceSub, Nat.reduceLeDiff, Nat.reduceLT]
  refine W_loop G.nk (fun k f g ms => (∃ v, (∀ i, i < g1.next → g.get i = g1.get i) ∧ g.floor = h.floor ∧ g1.next ≤ g.next ∧ g.next ≤ g1.next + 2 * k ∧ GrowC g1.next g v 1 k (fun i _ => .int .i64 (chosenP G m a i)) ∧ f 5 = v) ∧ ms = [] ∧ f 1 = ws ∧ f 2 = .pointer (some ⟨h.next, 0, none⟩) ∧ f 6 = .int .i64 (k : Int)) (by simp; omega) ?_ ?_ ?_
  · simp only [rn0, rn1, rn2, reduceIte, Nat.reduceEqDiff, Nat.reduceAdd, Nat.reduceMul, Nat.reduceSub, Nat.reduceLeDiff, Nat.reduceLT, Int.natCast_zero]
    first | exact ⟨⟨nilS, fun i _ => trivial, by omega, by omega, by omega, .nil, rfl⟩, rfl⟩ | exact ⟨nilS, fun i _ => trivial, by omega, by omega, by omega, .nil, rfl⟩ | exact ⟨nilS, by omega, by omega, by omega, .nil, rfl⟩ | exact ⟨nilS, fun i _ => trivial, f1, by omega, .nil, rfl⟩
  · rintro k f g ms hk' ⟨⟨v, ho, hfg, hup, hnx, gv, p5⟩, rfl, p1, p2, p6⟩
    have hi' : (k : Int) < (G.nk : Int) := by omega
    have hwk : wrapF .i64 ((k : Int) + 1) = ((k + 1 : Nat) : Int) := by rw [wrap_in (by omega) (by omega)]; rfl
    have sg : Sub All g1 g := AHeap.subOf ho
    have rg := r1.mono sg
    have hyg := hy1.mono sg
    have hwg := hw1.mono sg
    have hv : k < G.s.nv := by omega
    have hb := (hG.begin hk').2
    have ew := word_c (n := n) (h := g) (by omega) hwg k
    have w1 : wrapF .i64 (G.s.last - G.s.vb k) = G.s.last - G.s.vb k := wrap_in (by omega) (by omega)
    have w2 : wrapF .i64 (G.s.last - G.s.vb k + 1) = ((hoursOfV G k : Nat) : Int) := by rw [wrap_in (by omega) (by omega)]; unfold hoursOfV; omega
    have hne : ¬ ((hoursOfV G k : Nat) : Int) = 0 := by unfold hoursOfV; omega
    have m1 : ((wordN m a k : Nat) : Int).tmod ((hoursOfV G k : Nat) : Int) = ((wordN m a k % hoursOfV G k : Nat) : Int) := rfl
    have hlt : wordN m a k % hoursOfV G k < hoursOfV G k := Nat.mod_lt _ (by omega)
    have w3 : wrapF .i64 (G.s.vb k + ((wordN m a k % hoursOfV G k : Nat) : Int)) = chosenP G m a k := by
      rw [wrap_in (by omega) (by have : hoursOfV G k ≤ 6 := (by unfold hoursOfV; omega); omega)]; rfl
    simp only [rn0, rn1, rn2, reduceIte, Nat.reduceEqDiff, Nat.reduceAdd, Nat.reduceMul, Nat.reduceSub, Nat.reduceLeDiff, Nat.reduceLT, p1, p2, p5, p6, rg.ld, gag, Nat.zero_add, Cells.len hyg.k, hi', Cells.idx hyg.s.v hv, Cells.fld hyg.s.v hv, begin_ld hyg.s hv]
    refine W_draw All ?_
    simp only [rn0, rn1, rn2, reduceIte, Nat.reduceEqDiff, Nat.reduceAdd, Nat.reduceMul, Nat.reduceSub, Nat.reduceLeDiff, Nat.reduceLT, p1, p2, p5, p6, rg.ld, gag, Nat.zero_add, gv.cells.self, ew, w1, w2, valN_tmp, valN_const, r_rem hne, m1, w3, sl_int, eqV_int]
    refine up_slice (by omega) rfl (fun _ _ => trivial) fun g5 hx5 => ?_
    have n5 := hx5.next
    obtain ⟨v', g6, e6, gv6, o6, n6, f6, old6, u6⟩ := grow_push (h := g) (bytes := 8) gv (by omega) (by omega) (by omega) hx5 rfl rfl (fun j hj => by
      obtain rfl : j = 0 := by omega
      rfl) (by simp [maxBytes]; omega) (by simp [maxBytes]; omega)
    simp only [rn0, rn1, rn2, reduceIte, Nat.reduceEqDiff, Nat.reduceAdd, Nat.reduceMul, Nat.reduceSub, Nat.reduceLeDiff, Nat.reduceLT, p1, p2, p5, p6, e6]
    refine ⟨u6, ?_⟩
    simp only [rn0, rn1, rn2, reduceIte, Nat.reduceEqDiff, Nat.reduceAdd, Nat.reduceMul, Nat.reduceSub, Nat.reduceLeDiff, Nat.reduceLT, p1, p2, p5, p6, hwk]
    first | exact ⟨⟨v', fun i hi => by rw [old6 i (by omega), ho i hi], by omega, by omega, by omega, gv6, rfl⟩, rfl⟩ | exact ⟨v', fun i hi => by rw [old6 i (by omega), ho i hi], by omega, by omega, by omega, gv6, rfl⟩
  · rintro f g ms ⟨⟨v, ho, hfg, hup, hnx, gv, p5⟩, rfl, p1, p2, p6⟩
    have sg : Sub All g1 g := AHeap.subOf ho
    have rg := r1.mono sg
    have hyg := hy1.mono sg
    simp only [rn0, rn1, rn2, reduceIte, Nat.reduceEqDiff, Nat.reduceAdd, Nat.reduceMul, Nat.reduceSub, Nat.reduceLeDiff, Nat.reduceLT, p1, p2, p5, p6, rg.ld, gag, Nat.zero_add, Cells.len hyg.k, Int.lt_irrefl]
    exact ⟨gv.cells, gv.one, fun i hi => by rw [ho i (by omega), hx1.old i hi], by omega, by omega, by omega⟩
def hrsSz (G : MG) (v : Nat) : Nat := (G.khi v - G.klo v + 1).toNat
def restN (G : MG) (N : Nat) : Nat → Nat
  | 0 => N
  | k + 1 => restN G N k / hrsSz G k
theorem restN_le {G : MG} {N : Nat} : ∀ k, restN G N k ≤ N
  | 0 => Nat.le_refl _
  | k + 1 => Nat.le_trans (Nat.div_le_self _ _) (restN_le k)
def hrsX (G : MG) (N k : Nat) : Int := G.klo k + ((restN G N k % hrsSz G k : Nat) : Int)
theorem hrs_of {G : MG} (hG : GoodG G) (N : Nat) : HrsOk G G.nk (hrsX G N) := ⟨rfl, fun i hi => by
  have h1 := (hG.works i hi).2
  have h2 : restN G N i % hrsSz G i < hrsSz G i := Nat.mod_lt _ (by unfold hrsSz; omega)
  unfold hrsX
  generalize restN G N i % hrsSz G i = q at h2
  unfold hrsSz at h2
  omega⟩
theorem quo65 {a b : Nat} (h : a < 65536) : IntKind.wrap .i64 ((a : Int).tdiv (b : Int)) = ((a / b : Nat) : Int) := by
  have e : (a : Int).tdiv (b : Int) = ((a / b : Nat) : Int) := rfl
  have hd := Nat.div_le_self a b
  rw [e, IntKind.wrap_i64]
  generalize a / b = dq at hd
  omega
def s55 : SCode := (.seq (.ops [jO 2 (.box (T 0)), jO 4 (.mov (.const (.slice none 0 0)))]) (.seq (.ops [jO 5 (.mov (.const (.slice none 0 0)))]) (.seq (.seq (.ops [jO 6 (.mov (.const (.int .i64 0)))]) (.block 0 (.loop (.seq (.seq (.ops [jO 9 (.mov (T 6)), jO 10 (.fieldAddr 9 (T 2)), jO 11 (.load1 (T 10)), jO 12 (.len (T 11)), jO 13 (.int2 .lss (T 9) (T 12))]) (.cond (T 13) .skip (.exit 0))) (.seq (.block 1 (.seq (.ops [jO 16 (.fieldAddr 9 (T 2)), jO 17 (.load1 (T 16)), jO 18 (.mov (T 6)), jO 19 (.idxSl 3 (T 17) (T 18)), jO 20 (.fieldAddr 1 (T 19)), jO 21 (.loadN 2 (T 20)), jO 7 (.alloc [(.int .i64 0), (.int .i64 0)]), ⟨none, none, .store 2 (T 7) (T 21)⟩]) (.seq (.ops [jO 22 (.fieldAddr 1 (T 7)), jO 23 (.load1 (T 22)), jO 24 (.fieldAddr 0 (T 7)), jO 25 (.load1 (T 24)), jO 26 (.int2 .sub (T 23) (T 25)), jO 27 (.int2 .add (T 26) (.const (.int .i64 1))), jO 8 (.mov (T 27))]) (.draw [jF 28 (.mov (T 5)), jF 29 (.fieldAddr 0 (T 7)), jS 30 (.load1 (T 29)), jF 31 (.mov (T 1)), jF 32 (.mov (T 8)), jF 33 (.plain (.binOp .rem 3 (T 31) (T 32) 3) 3), jF 34 (.int2 .add (T 30) (T 33)), jA 35 (.bslice 1 1 [(.int .i64 0)] [0] [(T 34)]), jA 36 (.append 1 8 (T 28) (T 35)), jF 37 (.mov (T 1)), jF 38 (.mov (T 8)), jF 39 (.plain (.binOp .quo 3 (T 37) (T 38) 3) 3), jF 5 (.mov (T 36)), jF 1 (.mov (T 39))])))) (.ops [jO 14 (.mov (T 6)), jO 15 (.int2 .add (T 14) (.const (.int .i64 1))), jO 6 (.mov (T 15))])))))) (.seq (.ops [jO 40 (.mov (T 5)), jO 4 (.mov (T 40))]) .ret))))
theorem fok55 : FnOk Tryz.prog 55 41 s55 [.tmp 4] := ⟨Tryz.f55, _, Tryz.func55, rfl, Tryz.ntmps55, by kernel_rfl, by kernel_rfl⟩
set_option maxHeartbeats 1000000 in
theorem hoursG_c (hn : 60 ≤ n) (hr : h.next + 80 < far) (hfl : h.floor ≤ h.next) {wv vv sv kv : Value} {G : MG} {N : Nat} (hN : N < 65536) (hy : GangR h wv vv sv kv G) (hG : GoodG G) :
    ∃ w h', call n (.func (.func 55) #[] #[]) [.agg ⟨gaL G wv vv sv kv⟩, .int .i64 (N : Int)] h = some (w, h') ∧ Ints h' w G.nk (hrsX G N) ∧ oneCell w = true ∧ (∀ i, i < h.next → h'.get i = h.get i) ∧ h.next ≤ h'.next ∧ h'.next ≤ h.next + 70 ∧ h'.floor = h.floor := by
  obtain ⟨n, rfl⟩ : ∃ p, n = p + 1 := ⟨n - 1, by omega⟩
  refine call_any0 fok55 rfl rfl (by simp) ?_
  obtain ⟨z0, z1, z4, z5, _⟩ := hG.sizes
  simp only [s55, jO, jF, jR, jS, jU, jA, W_seq, W_ops]
  refine ops_box (cs := gaL G wv vv sv kv) (by omega) rfl hy.one fun g1 hx1 => ?_
  have n1 := hx1.next
  have f1 := hx1.floor
  have hy1 := hy.mono hx1.sub
  have r1 := hx1.row
  simp only [rn0, rn1, rn2, reduceIte, Nat.reduceEqDiff, Nat.reduceAdd, Nat.reduceMul, Nat.reduceSub, Nat.reduceLeDiff, Nat.reduceLT]
  refine W_loop G.nk (fun k f g ms => (∃ v, (∀ i, i < g1.next → g.get i = g1.get i) ∧ g.floor = h.floor ∧ g1.next ≤ g.next ∧ g.next ≤ g1.next + 3 * k ∧ GrowC g1.next g v 1 k (fun i _ => .int .i64 (hrsX G N i)) ∧ f 5 = v) ∧ ms = [] ∧ f 1 = .int .i64 ((restN G N k : Nat) : Int) ∧ f 2 = .pointer (some ⟨h.next, 0, none⟩) ∧ f 6 = .int .i64 (k : Int)) (by simp; omega) ?_ ?_ ?_
  · simp only [rn0, rn1, rn2, reduceIte, Nat.reduceEqDiff, Nat.reduceAdd, Nat.reduceMul, Nat.reduceSub, Nat.reduceLeDiff, Nat.reduceLT, Int.natCast_zero, restN]
    first | exact ⟨⟨nilS, fun i _ => trivial, by omega, by omega, by omega, .nil, rfl⟩, rfl⟩ | exact ⟨nilS, fun i _ => trivial, by omega, by omega, by omega, .nil, rfl⟩ | exact ⟨nilS, by omega, by omega, by omega, .nil, rfl⟩ | exact ⟨nilS, fun i _ => trivial, f1, by omega, .nil, rfl⟩
  · rintro k f g ms hk' ⟨⟨v, ho, hfg, hup, hnx, gv, p5⟩, rfl, p1, p2, p6⟩
    have hi' : (k : Int) < (G.nk : Int) := by omega
    have hwk : wrapF .i64 ((k : Int) + 1) = ((k + 1 : Nat) : Int) := by rw [wrap_in (by omega) (by omega)]; rfl
    have sg : Sub All g1 g := AHeap.subOf ho
    have rg := r1.mono sg
    have hyg := hy1.mono sg
    have hb := (hG.works k hk').2
    have w1 : wrapF .i64 (G.khi k - G.klo k) = G.khi k - G.klo k := wrap_in (by omega) (by omega)
    have w2 : wrapF .i64 (G.khi k - G.klo k + 1) = ((hrsSz G k : Nat) : Int) := by rw [wrap_in (by omega) (by omega)]; unfold hrsSz; omega
    have hne : ¬ ((hrsSz G k : Nat) : Int) = 0 := by unfold hrsSz; omega
    have m1 : ((restN G N k : Nat) : Int).tmod ((hrsSz G k : Nat) : Int) = ((restN G N k % hrsSz G k : Nat) : Int) := rfl
    have hlt : restN G N k % hrsSz G k < hrsSz G k := Nat.mod_lt _ (by omega)
    have w3 : wrapF .i64 (G.klo k + ((restN G N k % hrsSz G k : Nat) : Int)) = hrsX G N k := by
      rw [wrap_in (by omega) (by have : hrsSz G k ≤ 5 := (by unfold hrsSz; omega); omega)]; rfl
    have m2 : IntKind.wrap .i64 (((restN G N k : Nat) : Int).tdiv ((hrsSz G k : Nat) : Int)) = ((restN G N (k + 1) : Nat) : Int) := quo65 (Nat.lt_of_le_of_lt (restN_le k) hN)
    simp only [rn0, rn1, rn2, reduceIte, Nat.reduceEqDiff, Nat.reduceAdd, Nat.reduceMul, Nat.reduceSub, Nat.reduceLeDiff, Nat.reduceLT, p1, p2, p5, p6, rg.ld, gag, Nat.zero_add, Cells.len hyg.k, hi', Cells.idx hyg.k hk', Cells.fld hyg.k hk', hours_ld hyg hk']
    refine step_new (vs := [.int .i64 (G.klo k), .int .i64 (G.khi k)]) (by omega) (by omega) rfl (by simp only [rn0, rn1, rn2, reduceIte, Nat.reduceEqDiff, Nat.reduceAdd, Nat.reduceMul, Nat.reduceSub, Nat.reduceLeDiff, Nat.reduceLT]; rfl) rfl rfl rfl fun g4 hx4 => ?_
    have n4 := hx4.next
    have f4 := hx4.floor
    have r4 := hx4.row
    have gv4 := gv.sub hx4.sub
    simp only [rn0, rn1, rn2, reduceIte, Nat.reduceEqDiff, Nat.reduceAdd, Nat.reduceMul, Nat.reduceSub, Nat.reduceLeDiff, Nat.reduceLT, p1, p2, p5, p6, r4.ld, Nat.zero_add, List.getElem?_cons_zero, List.getElem?_cons_succ, w1, w2]
    refine W_draw All ?_
    simp only [rn0, rn1, rn2, reduceIte, Nat.reduceEqDiff, Nat.reduceAdd, Nat.reduceMul, Nat.reduceSub, Nat.reduceLeDiff, Nat.reduceLT, p1, p2, p5, p6, r4.ld, Nat.zero_add, List.getElem?_cons_zero, List.getElem?_cons_succ, gv4.cells.self, valN_tmp, valN_const, r_rem hne, r_quo hne, m1, m2, w3, sl_int, eqV_int]
    refine up_slice (by omega) rfl (fun _ _ => trivial) fun g5 hx5 => ?_
    have n5 := hx5.next
    obtain ⟨v', g6, e6, gv6, o6, n6, f6, old6, u6⟩ := grow_push (h := g4) (bytes := 8) gv4 (by omega) (by omega) (by omega) hx5 rfl rfl (fun j hj => by
      obtain rfl : j = 0 := by omega
      rfl) (by simp [maxBytes]; omega) (by simp [maxBytes]; omega)
    simp only [rn0, rn1, rn2, reduceIte, Nat.reduceEqDiff, Nat.reduceAdd, Nat.reduceMul, Nat.reduceSub, Nat.reduceLeDiff, Nat.reduceLT, p1, p2, p5, p6, e6]
    refine ⟨u6, ?_⟩
    simp only [rn0, rn1, rn2, reduceIte, Nat.reduceEqDiff, Nat.reduceAdd, Nat.reduceMul, Nat.reduceSub, Nat.reduceLeDiff, Nat.reduceLT, p1, p2, p5, p6, valN_tmp, valN_const, r_quo hne, m2, hwk]
    first | exact ⟨⟨v', fun i hi => by rw [old6 i (by omega), hx4.old i (by omega), ho i hi], by omega, by omega, by omega, gv6, rfl⟩, rfl⟩ | exact ⟨v', fun i hi => by rw [old6 i (by omega), hx4.old i (by omega), ho i hi], by omega, by omega, by omega, gv6, rfl⟩
  · rintro f g ms ⟨⟨v, ho, hfg, hup, hnx, gv, p5⟩, rfl, p1, p2, p6⟩
    have sg : Sub All g1 g := AHeap.subOf ho
    have rg := r1.mono sg
    have hyg := hy1.mono sg
    simp only [rn0, rn1, rn2, reduceIte, Nat.reduceEqDiff, Nat.reduceAdd, Nat.reduceMul, Nat.reduceSub, Nat.reduceLeDiff, Nat.reduceLT, p1, p2, p5, p6, rg.ld, gag, Nat.zero_add, Cells.len hyg.k, Int.lt_irrefl]
    exact ⟨gv.cells, gv.one, fun i hi => by rw [ho i (by omega), hx1.old i hi], by omega, by omega, by omega⟩

theorem errPG_z {G : MG} {m : Nat} {p : Nat → Int} (hf : faultG G = 0) (hP : PlanOk G m p) : errPG G m p = 0 := by rw [errPG, if_neg (by simpa using hf), if_pos hP]
theorem playE_z {G : MG} {m q : Nat} {p x : Nat → Int} (he : errPG G m p = 0) (hH : HrsOk G q x) : playE G m p q x = if InT G (fun k => k) p x G.nk then 0 else 9 := by rw [playE, if_neg (by simpa using he), if_pos hH]

def sumT (f : Nat → Int) : Nat → Int
  | 0 => 0
  | k + 1 => sumT f k + f k
theorem sumT_add {f g : Nat → Int} : ∀ k, sumT (fun t => f t + g t) k = sumT f k + sumT g k
  | 0 => rfl
  | k + 1 => by rw [sumT, sumT, sumT, sumT_add k]; omega
theorem sumT_congr {f g : Nat → Int} : ∀ k, (∀ t, t < k → f t = g t) → sumT f k = sumT g k
  | 0, _ => rfl
  | k + 1, h => by rw [sumT, sumT, sumT_congr k (fun t ht => h t (by omega)), h k (by omega)]
theorem sumT_bound {f : Nat → Int} {b : Nat} : ∀ k, (∀ t, t < k → 0 ≤ f t ∧ f t ≤ b) → 0 ≤ sumT f k ∧ sumT f k ≤ ((b * k : Nat) : Int)
  | 0, _ => by simp [sumT]
  | k + 1, h => by
    have h1 := sumT_bound k fun t ht => h t (by omega)
    have h2 := h k (by omega)
    rw [sumT, Nat.mul_succ]
    omega
def cntT (p x : Int) (N : Nat) : Int := max p (min ((N : Int) - 1) (p + x)) - p
theorem sumT_ind {p x m : Int} (hp : 0 ≤ p) (hx : 0 ≤ x) : ∀ N, sumT (fun t => if p < (t : Int) ∧ (t : Int) ≤ p + x then m else 0) N = m * cntT p x N
  | 0 => by
    have : cntT p x 0 = 0 := by unfold cntT; omega
    rw [this, Int.mul_zero]; rfl
  | N + 1 => by
    rw [sumT, sumT_ind hp hx N]
    by_cases c : p < (N : Int) ∧ (N : Int) ≤ p + x
    · have : cntT p x (N + 1) = cntT p x N + 1 := by unfold cntT; omega
      rw [if_pos c, this, Int.mul_add, Int.mul_one]
    · have : cntT p x (N + 1) = cntT p x N := by unfold cntT; omega
      rw [if_neg c, this, Int.add_zero]
def workT (G : MG) (x : Nat → Int) : Nat → Int := sumT fun k => G.km k * x k
theorem lost_sum {G : MG} {p x : Nat → Int} (hp : ∀ k, k < G.nk → 0 ≤ p k) (hx : ∀ k, k < G.nk → 0 ≤ x k) (h0 : 0 ≤ G.close) (hI : InT G (fun k => k) p x G.nk) : ∀ k, k ≤ G.nk → sumT (shN G (fun k => k) p x k) (G.close.toNat + 1) = workT G x k
  | 0, _ => by
    have : ∀ N, sumT (shN G (fun k => k) p x 0) N = 0 := by
      intro N
      induction N with
      | zero => rfl
      | succ N ih => rw [sumT, ih]; rfl
    rw [this]; rfl
  | k + 1, hk => by
    have e : sumT (shN G (fun k => k) p x (k + 1)) (G.close.toNat + 1) = sumT (fun t => shN G (fun k => k) p x k t + (if p k < (t : Int) ∧ (t : Int) ≤ p k + x k then G.km k else 0)) (G.close.toNat + 1) := sumT_congr _ fun t _ => rfl
    rw [e, sumT_add, lost_sum hp hx h0 hI k (by omega), sumT_ind (hp k (by omega)) (hx k (by omega))]
    have hc : cntT (p k) (x k) (G.close.toNat + 1) = x k := by
      have h1 := hp k (by omega)
      have h2 := hx k (by omega)
      have h3 : x k ≤ 0 ∨ p k + x k ≤ G.close := hI k (by omega)
      unfold cntT
      omega
    rw [hc]; rfl
def s12 : SCode := (.seq (.ops [jO 3 (.box (T 0)), jO 6 (.mov (.const (.bool false)))]) (.seq (.seq (.ops [jO 14 (.loadN 10 (T 3)), jO 15 (.call (.func 53) [(T 14)]), jO 16 (.not (T 15))]) (.cond (T 16) (.seq (.ops [jO 17 (.call (.func 23) []), jO 6 (.mov (T 17))]) .ret) .skip)) (.seq (.draw [jS 18 (.loadN 10 (T 3)), jF 19 (.mov (T 1)), jU 20 (.call (.func 54) [(T 18), (T 19)]), jR 21 (.loadN 10 (T 3)), jF 22 (.mov (T 2)), jF 23 (.plain (.convert 82 3 (T 22)) 3), jA 24 (.call (.func 55) [(T 21), (T 23)]), jF 7 (.mov (T 20)), jF 8 (.mov (T 24))]) (.seq (.ops [jO 26 (.loadN 10 (T 3)), jO 27 (.call (.func 25) [(T 26)]), jO 28 (.mov (T 7)), jO 29 (.call (.func 26) [(T 28)]), jO 30 (.mov (T 8)), jO 31 (.call (.func 26) [(T 30)]), jO 32 (.call (.func 24) [(T 27), (T 29), (T 31)]), jO 25 (.mov (T 32)), jO 33 (.extract 0 (T 25)), jO 34 (.extract 1 (T 25)), jO 9 (.mov (T 33)), jO 10 (.mov (T 34))]) (.seq (.seq (.ops [jO 35 (.mov (T 10)), jO 36 (.int2 .neq (T 35) (.const (.int .i64 0)))]) (.cond (T 36) (.seq (.ops [jO 37 (.mov (T 10)), jO 38 (.int2 .eql (T 37) (.const (.int .i64 9))), jO 39 (.mov (T 38)), ⟨some 40, (some (39, true)), .call (.func 23) []⟩, jO 41 (.pick (T 39) (T 40) (.const (.bool false))), jO 6 (.mov (T 41))]) .ret) .skip)) (.seq (.ops [jO 11 (.mov (.const (.int .i64 0)))]) (.seq (.seq (.ops [jO 12 (.mov (.const (.int .i64 0)))]) (.block 0 (.loop (.seq (.seq (.ops [jO 42 (.mov (T 12)), jO 43 (.mov (T 9)), jO 44 (.len (T 43)), jO 45 (.int2 .lss (T 42) (T 44))]) (.cond (T 45) .skip (.exit 0))) (.seq (.block 1 (.ops [jO 48 (.mov (T 11)), jO 49 (.mov (T 9)), jO 50 (.mov (T 12)), jO 51 (.idxSl 1 (T 49) (T 50)), jO 52 (.load1 (T 51)), jO 53 (.int2 .add (T 48) (T 52)), jO 11 (.mov (T 53))])) (.ops [jO 46 (.mov (T 12)), jO 47 (.int2 .add (T 46) (.const (.int .i64 1))), jO 12 (.mov (T 47))])))))) (.seq (.seq (.ops [jO 13 (.mov (.const (.int .i64 0)))]) (.block 2 (.loop (.seq (.seq (.ops [jO 54 (.mov (T 13)), jO 55 (.mov (T 8)), jO 56 (.len (T 55)), jO 57 (.int2 .lss (T 54) (T 56))]) (.cond (T 57) .skip (.exit 2))) (.seq (.block 3 (.draw [jF 60 (.mov (T 11)), jF 61 (.fieldAddr 9 (T 3)), jS 62 (.load1 (T 61)), jF 63 (.mov (T 13)), jF 64 (.idxSl 3 (T 62) (T 63)), jF 65 (.fieldAddr 0 (T 64)), jS 66 (.load1 (T 65)), jF 67 (.mov (T 8)), jF 68 (.mov (T 13)), jF 69 (.idxSl 1 (T 67) (T 68)), jS 70 (.load1 (T 69)), jF 71 (.int2 .mul (T 66) (T 70)), jF 72 (.int2 .sub (T 60) (T 71)), jF 11 (.mov (T 72))])) (.ops [jO 58 (.mov (T 13)), jO 59 (.int2 .add (T 58) (.const (.int .i64 1))), jO 13 (.mov (T 59))])))))) (.seq (.ops [jO 73 (.mov (T 11)), jO 74 (.int2 .eql (T 73) (.const (.int .i64 0))), jO 75 (.mov (T 74)), ⟨some 76, (some (75, true)), .call (.func 23) []⟩, jO 77 (.pick (T 75) (T 76) (.const (.bool false))), jO 6 (.mov (T 77))]) .ret)))))))))
theorem fok12 : FnOk Tryz.prog 12 78 s12 [.tmp 6] := ⟨Tryz.f12, _, Tryz.func12, rfl, Tryz.ntmps12, by kernel_rfl, by kernel_rfl⟩
set_option maxHeartbeats 4000000 in
theorem lawLost_c (hn : 3000 ≤ n) (hr : h.next + 6000000 < far) (hfl : h.floor ≤ h.next) {wv vv sv kv ws : Value} {G : MG} {mw : Nat} {wa : Nat → Nat} (hy : GangR h wv vv sv kv G) (hws : Words h ws mw wa) (a2 : Int) (wf2 : (Lit.int .u16 a2).wf = true) :
    ∃ v h', call n (.func (.func 12) #[] #[]) [.agg ⟨gaL G wv vv sv kv⟩, ws, .int .u16 a2] h = some (v, h') ∧ v = .bool true := by
  classical
  obtain ⟨N, rfl, hN⟩ := wf16 wf2
  obtain ⟨n, rfl⟩ : ∃ p, n = p + 1 := ⟨n - 1, by omega⟩
  refine call_any0 fok12 rfl rfl (by simp) ?_
  simp only [s12, jO, jF, jR, jS, jU, jA, W_seq, W_ops]
  refine ops_box (cs := gaL G wv vv sv kv) (by omega) rfl hy.one fun g1 hx1 => ?_
  have n1 := hx1.next
  have f1 := hx1.floor
  have r1 := hx1.row
  have hy1 := hy.mono hx1.sub
  have hw1 := hws.mono hx1.sub
  have haw : ∀ g : AHeap, call n (.func (.func 23) #[] #[]) [] g = some (.bool true, g) := fun g => awakeG (by omega)
  have et := readyG_c (n := n) (h := g1) (by omega) (by omega) hy1
  by_cases hT : ThinG G ∧ faultG G = 0
  case neg =>
    simp only [rn0, rn1, rn2, reduceIte, Nat.reduceEqDiff, Nat.reduceAdd, Nat.reduceMul, Nat.reduceSub, Nat.reduceLeDiff, Nat.reduceLT, r1.whole (n := 10) rfl, et, decide_eq_false hT, haw]
  rw [decide_eq_true hT] at et
  obtain ⟨⟨⟨hTs, hl⟩, hmany⟩, hf⟩ := id hT
  have hG := goodG.1 hf
  obtain ⟨z0, z1, z4, z5, _, _, zc0, zc9⟩ := hG.sizes
  have hl30 : G.nk ≤ 30 := hl
  obtain ⟨pv, g2, e2, hp2, op, o2, u2, m2, f2⟩ := chosen_c (n := n) (h := g1) (by omega) (by omega) (by omega) hy1 hG hw1
  have hP := chosen_ok hG mw wa
  obtain ⟨p, hpp⟩ : ∃ p, p = chosenP G mw wa := ⟨_, rfl⟩
  rw [← hpp] at hp2 hP
  have he := errPG_z hf hP
  have s12 : Sub All g1 g2 := AHeap.subOf o2
  have hy2 := hy1.mono s12
  have r2 := r1.mono s12
  obtain ⟨xv, g3, e3, hx3, ox, o3, u3, m3, f3⟩ := hoursG_c (n := n) (h := g2) (by omega) (by omega) (by omega) hN hy2 hG
  have hH := hrs_of hG N
  obtain ⟨x, hxx⟩ : ∃ x, x = hrsX G N := ⟨_, rfl⟩
  rw [← hxx] at hx3 hH
  have s23 : Sub All g2 g3 := AHeap.subOf o3
  have s13 := s12.trans s23
  have hy3 := hy1.mono s13
  have r3 := r1.mono s13
  have hp3 : Ints g3 pv G.nk p := Cells.mono hp2 s23
  obtain ⟨wb, vb, sb, kb, g4, e4, hy4, o4, u4, m4, f4⟩ := gangL_c (n := n) (h := g3) (by omega) (by omega) (by omega) hy3 hTs hl
  have s34 : Sub All g3 g4 := AHeap.subOf o4
  obtain ⟨lb, g5, e5, hp5, ob, o5, u5, m5, f5⟩ := listG_c (n := n) (h := g4) (by omega) (by omega) (Cells.mono hp3 s34) hl30
  have s45 : Sub All g4 g5 := AHeap.subOf o5
  have s35 := s34.trans s45
  obtain ⟨xb, g6, e6, hx6, oxb, o6, u6, m6, f6⟩ := listG_c (n := n) (h := g5) (by omega) (by omega) (Cells.mono hx3 s35) hl30
  have s56 : Sub All g5 g6 := AHeap.subOf o6
  obtain ⟨av, g7, e7, o7, u7, m7, f7, hA⟩ := playG_c (n := n) (h := g6) (by omega) (by omega) (by omega) (hy4.mono (s45.trans s56)) hTs hl (Cells.mono hp5 s56) hl30 hx6 hl30
  have s67 : Sub All g6 g7 := AHeap.subOf o7
  have s37 : Sub All g3 g7 := s35.trans (s56.trans s67)
  have hy7 := hy3.mono s37
  have r7 := r3.mono s37
  have hx7 : Ints g7 xv G.nk x := Cells.mono hx3 s37
  have pa := playE_z he hH
  by_cases hI : InT G (fun k => k) p x G.nk
  case neg =>
    rw [if_neg hI] at pa
    rcases hA with ⟨h0, rfl⟩ | ⟨h0, _⟩
    case inr => rw [pa] at h0; exact absurd h0 (by decide)
    rw [pa] at e7
    simp only [rn0, rn1, rn2, reduceIte, Nat.reduceEqDiff, Nat.reduceAdd, Nat.reduceMul, Nat.reduceSub, Nat.reduceLeDiff, Nat.reduceLT, r1.whole (n := 10) rfl, et]
    refine W_draw All ?_
    simp only [rn0, rn1, rn2, reduceIte, Nat.reduceEqDiff, Nat.reduceAdd, Nat.reduceMul, Nat.reduceSub, Nat.reduceLeDiff, Nat.reduceLT, r1.whole (n := 10) rfl, hy1.self, e2, r2.whole (n := 10) rfl, valN_tmp, valN_const, p_conv16, r_16 hN, e3]
    refine ⟨⟨u2, s12⟩, u3, ?_⟩
    simp only [rn0, rn1, rn2, reduceIte, Nat.reduceEqDiff, Nat.reduceAdd, Nat.reduceMul, Nat.reduceSub, Nat.reduceLeDiff, Nat.reduceLT, r3.whole (n := 10) rfl, e4, e5, e6, e7, x_extract, ex0, ex1, haw, (show ¬ (9 : Int) = 0 by decide)]
  rw [if_pos hI] at pa
  rcases hA with ⟨h0, rfl⟩ | ⟨_, li, rfl, hli, hlo⟩
  · exact absurd pa h0
  have hx0 : ∀ k, k < G.nk → 0 ≤ x k ∧ x k ≤ 4 := fun k hk => by
    have h1 := hH.2 k hk
    have h2 := (hG.works k hk).2
    omega
  have hp0 : ∀ k, k < G.nk → 0 ≤ p k := fun k hk => by
    have h1 := hP.2 k hk
    have h2 := (hG.begin hk).2
    omega
  have hsum := lost_sum hp0 (fun k hk => (hx0 k hk).1) zc0 hI G.nk (Nat.le_refl _)
  have hshb : ∀ t, 0 ≤ shN G (fun k => k) p x G.nk t ∧ shN G (fun k => k) p x G.nk t ≤ ((36 : Nat) : Int) := fun t => by
    have := shN_bound (x := x) hG (momOk hG hP) G.nk (Nat.le_refl _) t
    omega
  have hwb : ∀ k, k < G.nk → 0 ≤ G.km k * x k ∧ G.km k * x k ≤ ((36 : Nat) : Int) := fun k hk => by
    have h1 := (hG.works k hk).1
    have h2 := hx0 k hk
    refine ⟨Int.mul_nonneg h1.1 h2.1, ?_⟩
    have := Int.mul_le_mul h1.2 h2.2 h2.1 (by omega)
    omega
  simp only [rn0, rn1, rn2, reduceIte, Nat.reduceEqDiff, Nat.reduceAdd, Nat.reduceMul, Nat.reduceSub, Nat.reduceLeDiff, Nat.reduceLT, r1.whole (n := 10) rfl, et]
  refine W_draw All ?_
  simp only [rn0, rn1, rn2, reduceIte, Nat.reduceEqDiff, Nat.reduceAdd, Nat.reduceMul, Nat.reduceSub, Nat.reduceLeDiff, Nat.reduceLT, r1.whole (n := 10) rfl, hy1.self, e2, r2.whole (n := 10) rfl, valN_tmp, valN_const, p_conv16, r_16 hN, e3]
  refine ⟨⟨u2, s12⟩, u3, ?_⟩
  simp only [rn0, rn1, rn2, reduceIte, Nat.reduceEqDiff, Nat.reduceAdd, Nat.reduceMul, Nat.reduceSub, Nat.reduceLeDiff, Nat.reduceLT, r3.whole (n := 10) rfl, e4, e5, e6, e7, x_extract, ex0, ex1]
  refine W_loop (G.close.toNat + 1) (fun k f g ms => g = g7 ∧ ms = [] ∧ f 3 = .pointer (some ⟨h.next, 0, none⟩) ∧ f 8 = xv ∧ f 9 = li ∧ f 11 = .int .i64 (sumT (shN G (fun k => k) p x G.nk) k) ∧ f 12 = .int .i64 (k : Int)) (by simp; omega) ?_ ?_ ?_
  · simp only [rn0, rn1, rn2, reduceIte, Nat.reduceEqDiff, Nat.reduceAdd, Nat.reduceMul, Nat.reduceSub, Nat.reduceLeDiff, Nat.reduceLT, Int.natCast_zero, sumT]
  · rintro k f g ms hk ⟨rfl, rfl, p3, p8, p9, p11, p12⟩
    have hk' : (k : Int) < ((G.close.toNat + 1 : Nat) : Int) := by omega
    have hwk : wrapF .i64 ((k : Int) + 1) = ((k + 1 : Nat) : Int) := by rw [wrap_in (by omega) (by omega)]; rfl
    have hb := sumT_bound (f := shN G (fun k => k) p x G.nk) (b := 36) k fun t _ => hshb t
    have hb2 := hshb k
    have hw1 : wrapF .i64 (sumT (shN G (fun k => k) p x G.nk) k + shN G (fun k => k) p x G.nk k) = sumT (shN G (fun k => k) p x G.nk) (k + 1) := by rw [wrap_in (by omega) (by omega)]; rfl
    simp only [rn0, rn1, rn2, reduceIte, Nat.reduceEqDiff, Nat.reduceAdd, Nat.reduceMul, Nat.reduceSub, Nat.reduceLeDiff, Nat.reduceLT, p3, p8, p9, p11, p12, Cells.len hli, hk', Cells.idx hli hk, Cells.ld hli hk Nat.zero_lt_one, hw1, hwk]
  · rintro f g ms ⟨rfl, rfl, p3, p8, p9, p11, p12⟩
    simp only [rn0, rn1, rn2, reduceIte, Nat.reduceEqDiff, Nat.reduceAdd, Nat.reduceMul, Nat.reduceSub, Nat.reduceLeDiff, Nat.reduceLT, p3, p8, p9, p11, p12, Cells.len hli, Int.lt_irrefl]
    refine W_loop G.nk (fun k f g' ms => g' = g ∧ ms = [] ∧ f 3 = .pointer (some ⟨h.next, 0, none⟩) ∧ f 8 = xv ∧ f 11 = .int .i64 (workT G x G.nk - workT G x k) ∧ f 13 = .int .i64 (k : Int)) (by simp; omega) ?_ ?_ ?_
    · simp only [rn0, rn1, rn2, reduceIte, Nat.reduceEqDiff, Nat.reduceAdd, Nat.reduceMul, Nat.reduceSub, Nat.reduceLeDiff, Nat.reduceLT, Int.natCast_zero, p3, p8, p11, hsum, (show workT G x 0 = 0 from rfl), Int.sub_zero]
    · rintro k f g' ms hk ⟨rfl, rfl, p3, p8, p11, p13⟩
      have hk' : (k : Int) < (G.nk : Int) := by omega
      have hwk : wrapF .i64 ((k : Int) + 1) = ((k + 1 : Nat) : Int) := by rw [wrap_in (by omega) (by omega)]; rfl
      have hb0 := sumT_bound (f := fun k => G.km k * x k) (b := 36) G.nk fun t ht => hwb t ht
      have hb := sumT_bound (f := fun k => G.km k * x k) (b := 36) k fun t ht => hwb t (by omega)
      have hb2 := hwb k hk
      have hw0 : wrapF .i64 (G.km k * x k) = G.km k * x k := wrap_in (by omega) (by omega)
      have hw1 : wrapF .i64 (workT G x G.nk - workT G x k - G.km k * x k) = workT G x G.nk - workT G x (k + 1) := by
        have e : workT G x (k + 1) = workT G x k + G.km k * x k := rfl
        have e1 : workT G x G.nk = sumT (fun k => G.km k * x k) G.nk := rfl
        have e2 : workT G x k = sumT (fun k => G.km k * x k) k := rfl
        rw [e, wrap_in (by rw [e1, e2]; omega) (by rw [e1, e2]; omega)]; omega
      simp only [rn0, rn1, rn2, reduceIte, Nat.reduceEqDiff, Nat.reduceAdd, Nat.reduceMul, Nat.reduceSub, Nat.reduceLeDiff, Nat.reduceLT, p3, p8, p11, p13, Cells.len hx7, hk']
      refine W_draw All ?_
      simp only [rn0, rn1, rn2, reduceIte, Nat.reduceEqDiff, Nat.reduceAdd, Nat.reduceMul, Nat.reduceSub, Nat.reduceLeDiff, Nat.reduceLT, p3, p8, p11, p13, r7.ld, gag, Nat.zero_add, Cells.idx hy7.k hk, Cells.fld hy7.k hk, men_ld hy7 hk, Cells.idx hx7 hk, Cells.ld hx7 hk Nat.zero_lt_one, eqV_int, hw0, hw1, hwk]
    · rintro f g' ms ⟨rfl, rfl, p3, p8, p11, p13⟩
      simp only [rn0, rn1, rn2, reduceIte, Nat.reduceEqDiff, Nat.reduceAdd, Nat.reduceMul, Nat.reduceSub, Nat.reduceLeDiff, Nat.reduceLT, p3, p8, p11, p13, Cells.len hx7, Int.lt_irrefl, Int.sub_self, haw]
end Go.Vm.St
