/- Texts of the proofs of this seat, put together: GgV12, GgEndsL, GgBeforeL. -/
import Derived.Test.YtlkambpieajplaaGreatPb22

namespace Go.Vm.St
open Go.Proofs Go.Vm.Vat
set_option linter.unusedSimpArgs false
set_option linter.unusedVariables false
set_option maxRecDepth 10000
variable {n : Nat} {h : AHeap}
def s106 : SCode := (.seq (.ops [jO 4 (.mov (.const (.int .i64 0)))]) (.seq (.seq (.ops [jO 5 (.mov (T 0)), jO 6 (.len (T 5)), jO 7 (.int2 .eql (T 6) (.const (.int .i64 0)))]) (.cond (T 7) (.seq (.ops [jO 4 (.mov (.const (.int .i64 0)))]) .ret) .skip)) (.seq (.ops [jO 8 (.mov (T 0)), jO 9 (.mov (T 1)), jO 10 (.mov (T 0)), jO 11 (.len (T 10)), jO 12 (.plain (.binOp .rem 3 (T 9) (T 11) 3) 3), jO 13 (.idxSl 1 (T 8) (T 12)), jO 14 (.load1 (T 13)), jO 15 (.plain (.convert 82 3 (T 14)) 3), jO 4 (.mov (T 15))]) .ret)))
theorem fok106 : FnOk Tryz.prog 106 16 s106 [.tmp 4] := ⟨Tryz.f106, _, Tryz.func106, rfl, Tryz.ntmps106, by kernel_rfl, by kernel_rfl⟩
theorem word_c (hn : 1 ≤ n) {ws : Value} {m : Nat} {a : Nat → Nat} (hw : Words h ws m a) (i : Nat) :
    call n (.func (.func 106) #[] #[]) [ws, .int .i64 (i : Int)] h = some (.int .i64 ((wordN m a i : Nat) : Int), h) := by
  obtain ⟨n, rfl⟩ : ∃ p, n = p + 1 := ⟨n - 1, by omega⟩
  refine call_plain0 fok106 rfl rfl (by simp) rfl ?_
  have hw : Words h.shutAll ws m a := ⟨Cells.shut hw.1, hw.2⟩
  generalize h.shutAll = h at hw
  by_cases hm : m = 0
  · have hm' : (m : Int) = 0 := by omega
    have hz : wordN m a i = 0 := by unfold wordN; rw [if_pos hm]
    rw [hz]
    simp only [rn0, rn1, rn2, reduceIte, Nat.reduceEqDiff, Nat.reduceAdd, Nat.reduceMul, Nat.reduceSub, Nat.reduceLeDiff, Nat.reduceLT, s106, jO, jF, jR, jS, jU, jA, Cells.len hw.1, hm', Int.natCast_zero]
  · have hm' : ¬ (m : Int) = 0 := by omega
    have hlt : i % m < m := Nat.mod_lt _ (by omega)
    have hz : wordN m a i = a (i % m) := by unfold wordN; rw [if_neg hm]
    have m1 : (i : Int).tmod (m : Int) = ((i % m : Nat) : Int) := rfl
    rw [hz]
    simp only [rn0, rn1, rn2, reduceIte, Nat.reduceEqDiff, Nat.reduceAdd, Nat.reduceMul, Nat.reduceSub, Nat.reduceLeDiff, Nat.reduceLT, s106, jO, jF, jR, jS, jU, jA, Cells.len hw.1, hm', valN_tmp, valN_const, r_rem hm', m1, Cells.idx hw.1 hlt, Cells.ld hw.1 hlt Nat.zero_lt_one, p_conv16, r_16 (hw.2 _ hlt)]
def hoursOfV (G : MG) (v : Nat) : Nat := (G.s.last - G.s.vb v + 1).toNat
def chosenP (G : MG) (m : Nat) (a : Nat → Nat) (k : Nat) : Int := G.s.vb k + ((wordN m a k % hoursOfV G k : Nat) : Int)
theorem chosen_ok {G : MG} (hG : GoodG G) (m : Nat) (a : Nat → Nat) : PlanOk G G.nk (chosenP G m a) := ⟨rfl, fun i hi => by
  have h1 := (hG.begin hi).2
  have h2 : wordN m a i % hoursOfV G i < hoursOfV G i := Nat.mod_lt _ (by unfold hoursOfV; omega)
  unfold chosenP
  generalize wordN m a i % hoursOfV G i = q at h2
  unfold hoursOfV at h2
  omega⟩
def s54 : SCode := (.seq (.ops [jO 2 (.box (T 0)), jO 4 (.mov (.const (.slice none 0 0)))]) (.seq (.ops [jO 5 (.mov (.const (.slice none 0 0)))]) (.seq (.seq (.ops [jO 6 (.mov (.const (.int .i64 0)))]) (.block 0 (.loop (.seq (.seq (.ops [jO 8 (.mov (T 6)), jO 9 (.fieldAddr 9 (T 2)), jO 10 (.load1 (T 9)), jO 11 (.len (T 10)), jO 12 (.int2 .lss (T 8) (T 11))]) (.cond (T 12) .skip (.exit 0))) (.seq (.block 1 (.seq (.ops [jO 15 (.fieldAddr 0 (T 2)), jO 16 (.fieldAddr 5 (T 15)), jO 17 (.load1 (T 16)), jO 18 (.mov (T 6)), jO 19 (.idxSl 4 (T 17) (T 18)), jO 20 (.fieldAddr 0 (T 19)), jO 21 (.load1 (T 20)), jO 7 (.mov (T 21))]) (.draw [jF 22 (.mov (T 5)), jF 23 (.mov (T 7)), jF 24 (.mov (T 1)), jF 25 (.mov (T 6)), jU 26 (.call (.func 106) [(T 24), (T 25)]), jF 27 (.fieldAddr 0 (T 2)), jF 28 (.fieldAddr 0 (T 27)), jR 29 (.load1 (T 28)), jF 30 (.mov (T 7)), jF 31 (.int2 .sub (T 29) (T 30)), jF 32 (.int2 .add (T 31) (.const (.int .i64 1))), jF 33 (.plain (.binOp .rem 3 (T 26) (T 32) 3) 3), jF 34 (.int2 .add (T 23) (T 33)), jA 35 (.bslice 1 1 [(.int .i64 0)] [0] [(T 34)]), jA 36 (.append 1 8 (T 22) (T 35)), jF 5 (.mov (T 36))]))) (.ops [jO 13 (.mov (T 6)), jO 14 (.int2 .add (T 13) (.const (.int .i64 1))), jO 6 (.mov (T 14))])))))) (.seq (.ops [jO 37 (.mov (T 5)), jO 4 (.mov (T 37))]) .ret))))
theorem fok54 : FnOk Tryz.prog 54 38 s54 [.tmp 4] := ⟨Tryz.f54, _, Tryz.func54, rfl, Tryz.ntmps54, by kernel_rfl, by kernel_rfl⟩
set_option maxHeartbeats 1000000 in
theorem chosen_c (hn : 60 ≤ n) (hr : h.next + 80 < far) (hfl : h.floor ≤ h.next) {wv vv sv kv ws : Value} {G : MG} {m : Nat} {a : Nat → Nat} (hy : GangR h wv vv sv kv G) (hG : GoodG G) (hw : Words h ws m a) :
    ∃ w h', call n (.func (.func 54) #[] #[]) [.agg ⟨gaL G wv vv sv kv⟩, ws] h = some (w, h') ∧ Ints h' w G.nk (chosenP G m a) ∧ oneCell w = true ∧ (∀ i, i < h.next → h'.get i = h.get i) ∧ h.next ≤ h'.next ∧ h'.next ≤ h.next + 70 ∧ h'.floor = h.floor := by
  obtain ⟨n, rfl⟩ : ∃ p, n = p + 1 := ⟨n - 1, by omega⟩
  refine call_any0 fok54 rfl rfl (by simp) ?_
  obtain ⟨z0, z1, z4, z5, _⟩ := hG.sizes
  simp only [s54, jO, jF, jR, jS, jU, jA, W_seq, W_ops]
  refine ops_box (cs := gaL G wv vv sv kv) (by omega) rfl hy.one fun g1 hx1 => ?_
  have n1 := hx1.next
  have f1 := hx1.floor
  have hy1 := hy.mono hx1.sub
  have hw1 := hw.mono hx1.sub
  have r1 := hx1.row
  simp only [rn0, rn1, rn2, reduceIte, Nat.reduceEqDiff, Nat.reduceAdd, Nat.reduceMul, Nat.reduceSub, Nat.reduceLeDiff, Nat.reduceLT]
  refine W_loop G.nk (fun k f g ms => (∃ v, (∀ i, i < g1.next → g.get i = g1.get i) ∧ g.floor = h.floor ∧ g1.next ≤ g.next ∧ g.next ≤ g1.next + 2 * k ∧ GrowC g1.next g v 1 k (fun i _ => .int .i64 (chosenP G m a i)) ∧ f 5 = v) ∧ ms = [] ∧ f 1 = ws ∧ f 2 = .pointer (some ⟨h.next, 0, none⟩) ∧ f 6 = .int .i64 (k : Int)) (by simp; omega) ?_ ?_ ?_
  · simp only [rn0, rn1, rn2, reduceIte, Nat.reduceEqDiff, Nat.reduceAdd, Nat.reduceMul, Nat.reduceSub, Nat.reduceLeDiff, Nat.reduceLT, Int.natCast_zero]
    first | exact ⟨⟨nilS, fun i _ => trivial, by omega, by omega, by omega, .nil, rfl⟩, rfl⟩ | exact ⟨nilS, fun i _ => trivial, by omega, by omega, by omega, .nil, rfl⟩ | exact ⟨nilS, by omega, by omega, by omega, .nil, rfl⟩ | exact ⟨nilS, fun i _ => trivial, f1, by omega, .nil, rfl⟩
  · rintro k f g ms hk' ⟨⟨v, ho, hfg, hup, hnx, gv, p5⟩, rfl, p1, p2, p6⟩
    have hi' : (k : Int) < (G.nk : Int) := by omega
    have hwk : wrapF .i64 ((k : Int) + 1) = ((k + 1 : Nat) : Int) := by rw [wrap_in (by omega) (by omega)]; rfl
    have sg : Sub All g1 g := AHeap.subOf ho
    have rg := r1.mono sg
    have hyg := hy1.mono sg
    have hwg := hw1.mono sg
    have hv : k < G.s.nv := by omega
    have hb := (hG.begin hk').2
    have ew := word_c (n := n) (h := g) (by omega) hwg k
    have w1 : wrapF .i64 (G.s.last - G.s.vb k) = G.s.last - G.s.vb k := wrap_in (by omega) (by omega)
    have w2 : wrapF .i64 (G.s.last - G.s.vb k + 1) = ((hoursOfV G k : Nat) : Int) := by rw [wrap_in (by omega) (by omega)]; unfold hoursOfV; omega
    have hne : ¬ ((hoursOfV G k : Nat) : Int) = 0 := by unfold hoursOfV; omega
    have m1 : ((wordN m a k : Nat) : Int).tmod ((hoursOfV G k : Nat) : Int) = ((wordN m a k % hoursOfV G k : Nat) : Int) := rfl
    have hlt : wordN m a k % hoursOfV G k < hoursOfV G k := Nat.mod_lt _ (by omega)
    have w3 : wrapF .i64 (G.s.vb k + ((wordN m a k % hoursOfV G k : Nat) : Int)) = chosenP G m a k := by
      rw [wrap_in (by omega) (by have : hoursOfV G k ≤ 6 := (by unfold hoursOfV; omega); omega)]; rfl
    simp only [rn0, rn1, rn2, reduceIte, Nat.reduceEqDiff, Nat.reduceAdd, Nat.reduceMul, Nat.reduceSub, Nat.reduceLeDiff, Nat.reduceLT, p1, p2, p5, p6, rg.ld, gag, Nat.zero_add, Cells.len hyg.k, hi', Cells.idx hyg.s.v hv, Cells.fld hyg.s.v hv, begin_ld hyg.s hv]
    refine W_draw All ?_
    simp only [rn0, rn1, rn2, reduceIte, Nat.reduceEqDiff, Nat.reduceAdd, Nat.reduceMul, Nat.reduceSub, Nat.reduceLeDiff, Nat.reduceLT, p1, p2, p5, p6, rg.ld, gag, Nat.zero_add, gv.cells.self, ew, w1, w2, valN_tmp, valN_const, r_rem hne, m1, w3, sl_int, eqV_int]
    refine up_slice (by omega) rfl (fun _ _ => trivial) fun g5 hx5 => ?_
    have n5 := hx5.next
    obtain ⟨v', g6, e6, gv6, o6, n6, f6, old6, u6⟩ := grow_push (h := g) (bytes := 8) gv (by omega) (by omega) (by omega) hx5 rfl rfl (fun j hj => by
      obtain rfl : j = 0 := by omega
      rfl) (by simp [maxBytes]; omega) (by simp [maxBytes]; omega)
    simp only [rn0, rn1, rn2, reduceIte, Nat.reduceEqDiff, Nat.reduceAdd, Nat.reduceMul, Nat.reduceSub, Nat.reduceLeDiff, Nat.reduceLT, p1, p2, p5, p6, e6]
    refine ⟨u6, ?_⟩
    simp only [rn0, rn1, rn2, reduceIte, Nat.reduceEqDiff, Nat.reduceAdd, Nat.reduceMul, Nat.reduceSub, Nat.reduceLeDiff, Nat.reduceLT, p1, p2, p5, p6, hwk]
    first | exact ⟨⟨v', fun i hi => by rw [old6 i (by omega), ho i hi], by omega, by omega, by omega, gv6, rfl⟩, rfl⟩ | exact ⟨v', fun i hi => by rw [old6 i (by omega), ho i hi], by omega, by omega, by omega, gv6, rfl⟩
  · rintro f g ms ⟨⟨v, ho, hfg, hup, hnx, gv, p5⟩, rfl, p1, p2, p6⟩
    have sg : Sub All g1 g := AHeap.subOf ho
    have rg := r1.mono sg
    have hyg := hy1.mono sg
    simp only [rn0, rn1, rn2, reduceIte, Nat.reduceEqDiff, Nat.reduceAdd, Nat.reduceMul, Nat.reduceSub, Nat.reduceLeDiff, Nat.reduceLT, p1, p2, p5, p6, rg.ld, gag, Nat.zero_add, Cells.len hyg.k, Int.lt_irrefl]
    exact ⟨gv.cells, gv.one, fun i hi => by rw [ho i (by omega), hx1.old i hi], by omega, by omega, by omega⟩

theorem errPG_z {G : MG} {m : Nat} {p : Nat → Int} (hf : faultG G = 0) (hP : PlanOk G m p) : errPG G m p = 0 := by rw [errPG, if_neg (by simpa using hf), if_pos hP]

theorem fieldN_ga {G : MG} {a b c d : Value} : partAgg 0 7 (.agg ⟨gaL G a b c d⟩) h = some (.agg ⟨stL G.s a b c⟩, h) := id rfl
def s20 : SCode := (.seq (.ops [jO 2 (.box (T 0)), jO 4 (.mov (.const (.bool false)))]) (.seq (.seq (.ops [jO 9 (.loadN 10 (T 2)), jO 10 (.call (.func 53) [(T 9)]), jO 11 (.not (T 10))]) (.cond (T 11) (.seq (.ops [jO 12 (.call (.func 23) []), jO 4 (.mov (T 12))]) .ret) .skip)) (.seq (.ops [jO 13 (.loadN 10 (T 2)), jO 14 (.mov (T 1)), jO 15 (.call (.func 54) [(T 13), (T 14)]), jO 5 (.mov (T 15))]) (.seq (.ops [jO 17 (.loadN 10 (T 2)), jO 18 (.call (.func 25) [(T 17)]), jO 19 (.mov (T 5)), jO 20 (.call (.func 26) [(T 19)]), jO 21 (.call (.func 38) [(T 18), (T 20)]), jO 16 (.mov (T 21)), jO 22 (.extract 0 (T 16)), jO 23 (.extract 1 (T 16)), jO 6 (.mov (T 22)), jO 7 (.mov (T 23))]) (.seq (.seq (.ops [jO 24 (.mov (T 7)), jO 25 (.int2 .neq (T 24) (.const (.int .i64 0)))]) (.cond (T 25) (.ops [jO 26 (.mov (T 5)), jO 27 (.len (T 26)), jO 6 (.mov (T 27))]) .skip)) (.seq (.seq (.ops [jO 28 (.mov (T 7)), jO 29 (.int2 .neq (T 28) (.const (.int .i64 0))), jO 30 (.mov (T 29)), ⟨some 31, (some (30, true)), .mov (T 7)⟩, ⟨some 32, (some (30, true)), .int2 .neq (T 31) (.const (.int .i64 7))⟩, jO 33 (.pick (T 30) (T 32) (.const (.bool false))), jO 34 (.mov (T 33)), ⟨some 35, (some (34, false)), .mov (T 6)⟩, ⟨some 36, (some (34, false)), .int2 .lss (T 35) (.const (.int .i64 0))⟩, jO 37 (.pick (T 34) (.const (.bool true)) (T 36)), jO 38 (.mov (T 37)), ⟨some 39, (some (38, false)), .mov (T 6)⟩, ⟨some 40, (some (38, false)), .mov (T 5)⟩, ⟨some 41, (some (38, false)), .len (T 40)⟩, ⟨some 42, (some (38, false)), .int2 .gtr (T 39) (T 41)⟩, jO 43 (.pick (T 38) (.const (.bool true)) (T 42))]) (.cond (T 43) (.seq (.ops [jO 4 (.mov (.const (.bool false)))]) .ret) .skip)) (.seq (.seq (.ops [jO 8 (.mov (.const (.int .i64 0)))]) (.block 0 (.loop (.seq (.seq (.ops [jO 44 (.mov (T 8)), jO 45 (.mov (T 5)), jO 46 (.len (T 45)), jO 47 (.int2 .lss (T 44) (T 46)), jO 48 (.mov (T 47)), ⟨some 49, (some (48, true)), .mov (T 8)⟩, ⟨some 50, (some (48, true)), .mov (T 6)⟩, ⟨some 51, (some (48, true)), .int2 .leq (T 49) (T 50)⟩, jO 52 (.pick (T 48) (T 51) (.const (.bool false)))]) (.cond (T 52) .skip (.exit 0))) (.seq (.block 1 (.seq (.draw [jS 55 (.loadN 10 (T 2)), jU 56 (.call (.func 25) [(T 55)]), jF 57 (.fieldN 0 7 (T 56)), jF 58 (.mov (T 8)), jF 59 (.mov (T 5)), jF 60 (.mov (T 8)), jF 61 (.idxSl 1 (T 59) (T 60)), jR 62 (.load1 (T 61)), jA 63 (.call (.func 65) [(T 57), (T 58), (T 62)]), jF 64 (.mov (T 8)), jF 65 (.mov (T 6)), jF 66 (.int2 .lss (T 64) (T 65)), jF 67 (.bin .neq (.binOp .neq 4 (T 63) (T 66) 4) 4 (T 63) (T 66))]) (.cond (T 67) (.seq (.ops [jO 4 (.mov (.const (.bool false)))]) .ret) .skip))) (.ops [jO 53 (.mov (T 8)), jO 54 (.int2 .add (T 53) (.const (.int .i64 1))), jO 8 (.mov (T 54))])))))) (.seq (.ops [jO 68 (.call (.func 23) []), jO 4 (.mov (T 68))]) .ret))))))))
theorem fok20 : FnOk Tryz.prog 20 69 s20 [.tmp 4] := ⟨Tryz.f20, _, Tryz.func20, rfl, Tryz.ntmps20, by kernel_rfl, by kernel_rfl⟩
set_option maxHeartbeats 4000000 in
theorem lawBefore_c (hn : 3000 ≤ n) (hr : h.next + 6000000 < far) (hfl : h.floor ≤ h.next) {wv vv sv kv ws : Value} {G : MG} {mw : Nat} {wa : Nat → Nat} (hy : GangR h wv vv sv kv G) (hws : Words h ws mw wa) :
    ∃ v h', call n (.func (.func 20) #[] #[]) [.agg ⟨gaL G wv vv sv kv⟩, ws] h = some (v, h') ∧ v = .bool true := by
  classical
  obtain ⟨n, rfl⟩ : ∃ p, n = p + 1 := ⟨n - 1, by omega⟩
  refine call_any0 fok20 rfl rfl (by simp) ?_
  simp only [s20, jO, jF, jR, jS, jU, jA, W_seq, W_ops]
  refine ops_box (cs := gaL G wv vv sv kv) (by omega) rfl hy.one fun g1 hx1 => ?_
  have n1 := hx1.next
  have f1 := hx1.floor
  have r1 := hx1.row
  have hy1 := hy.mono hx1.sub
  have hw1 := hws.mono hx1.sub
  have haw : ∀ g : AHeap, call n (.func (.func 23) #[] #[]) [] g = some (.bool true, g) := fun g => awakeG (by omega)
  have et := readyG_c (n := n) (h := g1) (by omega) (by omega) hy1
  by_cases hT : ThinG G ∧ faultG G = 0
  case neg =>
    simp only [rn0, rn1, rn2, reduceIte, Nat.reduceEqDiff, Nat.reduceAdd, Nat.reduceMul, Nat.reduceSub, Nat.reduceLeDiff, Nat.reduceLT, r1.whole (n := 10) rfl, et, decide_eq_false hT, haw]
  rw [decide_eq_true hT] at et
  obtain ⟨⟨⟨hTs, hl⟩, hmany⟩, hf⟩ := id hT
  have hG := goodG.1 hf
  obtain ⟨z0, z1, z4, z5, _, _, zc0, zc9⟩ := hG.sizes
  have hl30 : G.nk ≤ 30 := hl
  obtain ⟨pv, g2, e2, hp2, op, o2, u2, m2, f2⟩ := chosen_c (n := n) (h := g1) (by omega) (by omega) (by omega) hy1 hG hw1
  have hP := chosen_ok hG mw wa
  obtain ⟨p, hpp⟩ : ∃ p, p = chosenP G mw wa := ⟨_, rfl⟩
  rw [← hpp] at hp2 hP
  have he := errPG_z hf hP
  have s12 : Sub All g1 g2 := AHeap.subOf o2
  have hy2 := hy1.mono s12
  have r2 := r1.mono s12
  obtain ⟨wa', va, sa, ka, g3, e3, hy3, o3, u3, m3, f3⟩ := gangL_c (n := n) (h := g2) (by omega) (by omega) (by omega) hy2 hTs hl
  have s23 : Sub All g2 g3 := AHeap.subOf o3
  obtain ⟨la, g4, e4, hp4, oa, o4, u4, m4, f4⟩ := listG_c (n := n) (h := g3) (by omega) (by omega) (Cells.mono hp2 s23) hl30
  have s34 : Sub All g3 g4 := AHeap.subOf o4
  have e5 := lateG_c (n := n) (h := g4) (by omega) (by omega) (hy3.mono s34) hTs hl hp4 hl30
  have s24 : Sub All g2 g4 := s23.trans s34
  have hy4 := hy2.mono s24
  have r4 := r2.mono s24
  have hp4' : Ints g4 pv G.nk p := Cells.mono hp2 s24
  obtain ⟨K, hK0, hK1, hK2, hK3⟩ : ∃ K : Nat, K ≤ G.nk ∧ (∀ i, i < K → RipeS G i (p i)) ∧ (K < G.nk → ¬ RipeS G K (p K)) ∧ ((lateE G G.nk p = 0 ∧ lateN G G.nk p = (K : Int)) ∨ (lateE G G.nk p = 7 ∧ K = G.nk)) := by
    cases hs : latePG G p with
    | none =>
      refine ⟨G.nk, Nat.le_refl _, fun i hi => Classical.byContradiction fun c => fstP_none.1 hs i hi c, fun c => absurd c (Nat.lt_irrefl _), .inr ⟨?_, rfl⟩⟩
      rw [lateE, if_neg (by simpa using he), hs, if_pos rfl]
    | some k =>
      obtain ⟨h1, h2, h3⟩ := fstP_some hs
      refine ⟨k, Nat.le_of_lt h1, fun i hi => Classical.byContradiction fun c => h3 i hi c, fun _ => h2, .inl ⟨?_, ?_⟩⟩
      · rw [lateE, if_neg (by simpa using he), hs, if_neg (fun e => nomatch e)]
      · rw [lateN, if_neg (by simpa using he), hs]; rfl
  have ripe : ∀ i, i < G.nk → ((errH G.s (i : Int) (p i) = 0 ∧ rightV G.s (i : Int) (p i) = 1) ↔ RipeS G i (p i)) := fun i hi => by
    have hin : InH G.s (i : Int) (p i) := by
      have h1 := hP.2 i hi
      refine ⟨⟨by omega, by omega⟩, ?_, h1.2⟩
      rw [Int.toNat_natCast]; exact h1.1
    have e0 : errH G.s (i : Int) (p i) = 0 := by
      rw [errH, if_neg (by simpa using fault_of hG.s), if_neg (by simpa using hin), if_neg hG.t]
    have e1 : rightV G.s (i : Int) (p i) = verdS G.s i (p i) 1 (truthsS G.s) := by rw [rightV, if_pos e0, Int.toNat_natCast]
    rw [e1]
    exact ⟨fun e => ⟨hP.2 i hi, e.2⟩, fun e => ⟨e0, e.2⟩⟩
  have u4 : Tryz.prog.underlying 4 = some .bool := Tryz.underlying4
  rcases hK3 with ⟨q1, q2⟩ | ⟨q1, rfl⟩
  · rw [q1, q2] at e5
    have c1 : ¬ ((K : Int) < 0) := by omega
    have c2 : ¬ ((K : Int) > (G.nk : Int)) := by omega
    simp only [rn0, rn1, rn2, reduceIte, Nat.reduceEqDiff, Nat.reduceAdd, Nat.reduceMul, Nat.reduceSub, Nat.reduceLeDiff, Nat.reduceLT, r1.whole (n := 10) rfl, et, e2, r2.whole (n := 10) rfl, e3, e4, e5, x_extract, ex0, ex1, Cells.len hp4', c1, c2, (show ¬ (0 : Int) ≠ 0 by decide)]
    refine W_loop (min G.nk (K + 1)) (fun k f g ms => ((∀ i, i < g4.next → g.get i = g4.get i) ∧ g4.next ≤ g.next ∧ g.next ≤ g4.next + 600 * k ∧ g.floor = g4.floor) ∧ ms = [] ∧ f 2 = .pointer (some ⟨h.next, 0, none⟩) ∧ f 5 = pv ∧ f 6 = .int .i64 (K : Int) ∧ f 8 = .int .i64 (k : Int)) (by simp; omega) ?_ ?_ ?_
    · simp only [rn0, rn1, rn2, reduceIte, Nat.reduceEqDiff, Nat.reduceAdd, Nat.reduceMul, Nat.reduceSub, Nat.reduceLeDiff, Nat.reduceLT, Int.natCast_zero]
      first | exact fun _ _ => trivial | exact ⟨fun _ _ => trivial, Nat.le_refl _⟩ | exact ⟨⟨fun _ _ => trivial, Nat.le_refl _, Nat.le_refl _, rfl⟩, rfl⟩ | done
    · rintro k f g ms hk ⟨⟨og, ug, mg, fg⟩, rfl, p2, p5, p6, p8⟩
      have hkn : k < G.nk := by omega
      have hk' : (k : Int) < (G.nk : Int) := by omega
      have hk2 : (k : Int) ≤ (K : Int) := by omega
      have hwk : wrapF .i64 ((k : Int) + 1) = ((k + 1 : Nat) : Int) := by rw [wrap_in (by omega) (by omega)]; rfl
      have sg : Sub All g4 g := AHeap.subOf og
      have hyg := hy4.mono sg
      have rg := r4.mono sg
      have hpg : Ints g pv G.nk p := Cells.mono hp4' sg
      obtain ⟨wb, vb, sb, kb, g5, e6, hy5, o5, u5, m5, f5⟩ := gangL_c (n := n) (h := g) (by omega) (by omega) (by omega) hyg hTs hl
      have s5 : Sub All g g5 := AHeap.subOf o5
      have eg := proveGood_c (n := n) (h := g5) (by omega) (by omega) hy5.s hTs (k : Int) (p k)
      have hd : decide (errH G.s (k : Int) (p k) = 0 ∧ rightV G.s (k : Int) (p k) = 1) = decide ((k : Int) < (K : Int)) := decide_eq_decide.2 ((ripe k hkn).trans ⟨fun e => by
        by_cases c : k < K
        · omega
        · have : k = K := by omega
          subst this
          exact absurd e (hK2 hkn), fun e => hK1 k (by omega)⟩)
      rw [hd] at eg
      simp only [rn0, rn1, rn2, reduceIte, Nat.reduceEqDiff, Nat.reduceAdd, Nat.reduceMul, Nat.reduceSub, Nat.reduceLeDiff, Nat.reduceLT, p2, p5, p6, p8, Cells.len hpg, hk', hk2]
      refine W_draw All ?_
      simp only [rn0, rn1, rn2, reduceIte, Nat.reduceEqDiff, Nat.reduceAdd, Nat.reduceMul, Nat.reduceSub, Nat.reduceLeDiff, Nat.reduceLT, p2, p5, p6, p8, rg.whole (n := 10) rfl, e6, Cells.idx hpg hkn, Cells.ld hpg hkn Nat.zero_lt_one, eqV_int, eg, fieldN_ga, x_binA, binA_neqB, p_neqB u4, valN_tmp, rBB, neq_self, hwk]
      exact ⟨⟨u5, s5⟩, fun i hi => by rw [o5 i (by omega), og i hi], by omega, by omega, by omega⟩
    · rintro f g ms ⟨⟨og, ug, mg, fg⟩, rfl, p2, p5, p6, p8⟩
      have hpg : Ints g pv G.nk p := Cells.mono hp4' (AHeap.subOf og)
      by_cases c : K + 1 < G.nk
      · have c3 : ((min G.nk (K + 1) : Nat) : Int) < (G.nk : Int) := by omega
        have c4 : ¬ ((min G.nk (K + 1) : Nat) : Int) ≤ (K : Int) := by omega
        simp only [rn0, rn1, rn2, reduceIte, Nat.reduceEqDiff, Nat.reduceAdd, Nat.reduceMul, Nat.reduceSub, Nat.reduceLeDiff, Nat.reduceLT, p2, p5, p6, p8, Cells.len hpg, c3, c4, haw]
      · have c3 : ¬ ((min G.nk (K + 1) : Nat) : Int) < (G.nk : Int) := by omega
        simp only [rn0, rn1, rn2, reduceIte, Nat.reduceEqDiff, Nat.reduceAdd, Nat.reduceMul, Nat.reduceSub, Nat.reduceLeDiff, Nat.reduceLT, p2, p5, p6, p8, Cells.len hpg, c3, haw]
  · rw [q1] at e5
    have c1 : ¬ ((G.nk : Int) < 0) := by omega
    have c2 : ¬ ((G.nk : Int) > (G.nk : Int)) := by omega
    simp only [rn0, rn1, rn2, reduceIte, Nat.reduceEqDiff, Nat.reduceAdd, Nat.reduceMul, Nat.reduceSub, Nat.reduceLeDiff, Nat.reduceLT, r1.whole (n := 10) rfl, et, e2, r2.whole (n := 10) rfl, e3, e4, e5, x_extract, ex0, ex1, Cells.len hp4', c1, c2, (show ¬ (7 : Int) = 0 by decide)]
    refine W_loop (min G.nk (G.nk + 1)) (fun k f g ms => ((∀ i, i < g4.next → g.get i = g4.get i) ∧ g4.next ≤ g.next ∧ g.next ≤ g4.next + 600 * k ∧ g.floor = g4.floor) ∧ ms = [] ∧ f 2 = .pointer (some ⟨h.next, 0, none⟩) ∧ f 5 = pv ∧ f 6 = .int .i64 (G.nk : Int) ∧ f 8 = .int .i64 (k : Int)) (by simp; omega) ?_ ?_ ?_
    · simp only [rn0, rn1, rn2, reduceIte, Nat.reduceEqDiff, Nat.reduceAdd, Nat.reduceMul, Nat.reduceSub, Nat.reduceLeDiff, Nat.reduceLT, Int.natCast_zero]
      first | exact fun _ _ => trivial | exact ⟨fun _ _ => trivial, Nat.le_refl _⟩ | exact ⟨⟨fun _ _ => trivial, Nat.le_refl _, Nat.le_refl _, rfl⟩, rfl⟩ | done
    · rintro k f g ms hk ⟨⟨og, ug, mg, fg⟩, rfl, p2, p5, p6, p8⟩
      have hkn : k < G.nk := by omega
      have hk' : (k : Int) < (G.nk : Int) := by omega
      have hk2 : (k : Int) ≤ (G.nk : Int) := by omega
      have hwk : wrapF .i64 ((k : Int) + 1) = ((k + 1 : Nat) : Int) := by rw [wrap_in (by omega) (by omega)]; rfl
      have sg : Sub All g4 g := AHeap.subOf og
      have hyg := hy4.mono sg
      have rg := r4.mono sg
      have hpg : Ints g pv G.nk p := Cells.mono hp4' sg
      obtain ⟨wb, vb, sb, kb, g5, e6, hy5, o5, u5, m5, f5⟩ := gangL_c (n := n) (h := g) (by omega) (by omega) (by omega) hyg hTs hl
      have s5 : Sub All g g5 := AHeap.subOf o5
      have eg := proveGood_c (n := n) (h := g5) (by omega) (by omega) hy5.s hTs (k : Int) (p k)
      have hd : decide (errH G.s (k : Int) (p k) = 0 ∧ rightV G.s (k : Int) (p k) = 1) = decide ((k : Int) < (G.nk : Int)) := decide_eq_decide.2 ((ripe k hkn).trans ⟨fun e => by
        by_cases c : k < G.nk
        · omega
        · have : k = G.nk := by omega
          subst this
          exact absurd e (hK2 hkn), fun e => hK1 k (by omega)⟩)
      rw [hd] at eg
      simp only [rn0, rn1, rn2, reduceIte, Nat.reduceEqDiff, Nat.reduceAdd, Nat.reduceMul, Nat.reduceSub, Nat.reduceLeDiff, Nat.reduceLT, p2, p5, p6, p8, Cells.len hpg, hk', hk2]
      refine W_draw All ?_
      simp only [rn0, rn1, rn2, reduceIte, Nat.reduceEqDiff, Nat.reduceAdd, Nat.reduceMul, Nat.reduceSub, Nat.reduceLeDiff, Nat.reduceLT, p2, p5, p6, p8, rg.whole (n := 10) rfl, e6, Cells.idx hpg hkn, Cells.ld hpg hkn Nat.zero_lt_one, eqV_int, eg, fieldN_ga, x_binA, binA_neqB, p_neqB u4, valN_tmp, rBB, neq_self, hwk]
      exact ⟨⟨u5, s5⟩, fun i hi => by rw [o5 i (by omega), og i hi], by omega, by omega, by omega⟩
    · rintro f g ms ⟨⟨og, ug, mg, fg⟩, rfl, p2, p5, p6, p8⟩
      have hpg : Ints g pv G.nk p := Cells.mono hp4' (AHeap.subOf og)
      by_cases c : G.nk + 1 < G.nk
      · have c3 : ((min G.nk (G.nk + 1) : Nat) : Int) < (G.nk : Int) := by omega
        have c4 : ¬ ((min G.nk (G.nk + 1) : Nat) : Int) ≤ (G.nk : Int) := by omega
        simp only [rn0, rn1, rn2, reduceIte, Nat.reduceEqDiff, Nat.reduceAdd, Nat.reduceMul, Nat.reduceSub, Nat.reduceLeDiff, Nat.reduceLT, p2, p5, p6, p8, Cells.len hpg, c3, c4, haw]
      · have c3 : ¬ ((min G.nk (G.nk + 1) : Nat) : Int) < (G.nk : Int) := by omega
        simp only [rn0, rn1, rn2, reduceIte, Nat.reduceEqDiff, Nat.reduceAdd, Nat.reduceMul, Nat.reduceSub, Nat.reduceLeDiff, Nat.reduceLT, p2, p5, p6, p8, Cells.len hpg, c3, haw]
end Go.Vm.St
