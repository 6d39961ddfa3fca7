/- Texts of the proofs of this seat, put together: GgV7, GgV8, GgV9, GgLateL. -/
import Derived.Test.YtlkambpieajplaaGreatPk22

namespace Go.Vm.St
open Go.Proofs Go.Vm.Vat
set_option linter.unusedSimpArgs false
set_option linter.unusedVariables false
set_option maxRecDepth 10000
variable {n : Nat} {h : AHeap}
def s26 : SCode := (.seq (.ops [⟨(some 2), none, .mov (.const (.slice none 0 0))⟩]) (.seq (.ops [⟨(some 3), none, .mov (T 0)⟩, ⟨(some 4), none, .append 1 8 (.const (.slice none 0 0)) (T 3)⟩, ⟨(some 2), none, .mov (T 4)⟩]) .ret))
theorem fok26 : FnOk Tryz.prog 26 5 s26 [.tmp 2] := ⟨Tryz.f26, _, Tryz.func26, rfl, Tryz.ntmps26, by kernel_rfl, by kernel_rfl⟩
theorem listG_c (hn : 1 ≤ n) (hr : h.next + 2 < far) {v : Value} {m : Nat} {a : Nat → Int} (hi : Ints h v m a) (hm : m ≤ 30) :
    ∃ v' h', call n (.func (.func 26) #[] #[]) [v] h = some (v', h') ∧ Ints h' v' m a ∧ oneCell v' = true ∧ (∀ i, i < h.next → h'.get i = h.get i) ∧ h.next ≤ h'.next ∧ h'.next ≤ h.next + 1 ∧ h'.floor = h.floor := by
  obtain ⟨n, rfl⟩ : ∃ p, n = p + 1 := ⟨n - 1, by omega⟩
  refine call_any0 fok26 rfl rfl (by simp) ?_
  obtain ⟨x, k, e1, e2⟩ := Ints.cells hi
  have hap := append_nil (h := h) (s := 1) (bytes := 8) ⟨x, k, e1⟩ e2 (by simp) (by simp [maxBytes]; omega) (by simp [maxBytes]; omega)
  by_cases hz : m = 0
  · rw [if_pos hz] at hap
    simp only [rn0, rn1, rn2, reduceIte, Nat.reduceEqDiff, Nat.reduceAdd, Nat.reduceMul, Nat.reduceSub, Nat.reduceLeDiff, Nat.reduceLT, s26, hap]
    exact ⟨⟨none, 0, by rw [hz], (fun x e => nomatch e), .inl hz⟩, rfl, fun i _ => trivial, by omega⟩
  · rw [if_neg hz] at hap
    simp only [rn0, rn1, rn2, reduceIte, Nat.reduceEqDiff, Nat.reduceAdd, Nat.reduceMul, Nat.reduceSub, Nat.reduceLeDiff, Nat.reduceLT, s26, hap]
    refine step_slice (by omega) (by rw [allB_iff]; intro v hv; obtain ⟨i, _, rfl⟩ := List.mem_map.1 hv; rfl) fun h2 hx2 => ?_
    have n2 := hx2.next
    simp only [rn0, rn1, rn2, reduceIte, Nat.reduceEqDiff, Nat.reduceAdd, Nat.reduceMul, Nat.reduceSub, Nat.reduceLeDiff, Nat.reduceLT]
    exact ⟨ints_row hx2.get, rfl, hx2.old, by omega, by omega, hx2.floor⟩
def zgL : List Value := [.int .i64 0, .int .i64 0, .slice none 0 0, .int .i64 0, .int .i64 0, .slice none 0 0, .slice none 0 0, .int .i64 0, .int .i64 0, .slice none 0 0]
theorem build_ga {G : MG} {wv vv sv : Value} : buildA (fun x => (#[(0, 7), (7, 1), (8, 1), (9, 1)] : Array (Nat × Nat))[x]?) ⟨[.int .i64 0, .int .i64 0, .slice none 0 0, .int .i64 0, .int .i64 0, .slice none 0 0, .slice none 0 0, .int .i64 0, .int .i64 0, .slice none 0 0]⟩ [0, 1, 2] h [.agg ⟨stL G.s wv vv sv⟩, .int .i64 G.men, .int .i64 G.close] = some (.agg ⟨gaL G wv vv sv nilS⟩, h) := by
  unfold buildA
  have e : Instr.fill (fun x => (#[(0, 7), (7, 1), (8, 1), (9, 1)] : Array (Nat × Nat))[x]?) #[.int .i64 0, .int .i64 0, .slice none 0 0, .int .i64 0, .int .i64 0, .slice none 0 0, .slice none 0 0, .int .i64 0, .int .i64 0, .slice none 0 0] ([0, 1, 2].zip [.agg ⟨stL G.s wv vv sv⟩, .int .i64 G.men, .int .i64 G.close]) = some ⟨gaL G wv vv sv nilS⟩ := by
    simp [Instr.fill, Value.cells, gaL, stL]
  rw [e]
theorem gaX {G : MG} {a b c d : Value} : (gaL G a b c d)[9]? = some d := rfl
def s25 : SCode := (.seq (.ops [⟨(some 1), none, .box (T 0)⟩, ⟨(some 2), none, .alloc [(.int .i64 (0)), (.int .i64 (0)), (.slice none 0 0), (.int .i64 (0)), (.int .i64 (0)), (.slice none 0 0), (.slice none 0 0), (.int .i64 (0)), (.int .i64 (0)), (.slice none 0 0)]⟩]) (.seq (.draw [⟨.free, ⟨(some 6), none, .fieldAddr 0 (T 1)⟩⟩, ⟨.rd1, ⟨(some 7), none, .loadN 7 (T 6)⟩⟩, ⟨.up, ⟨(some 8), none, .call (.func 69) [(T 7)]⟩⟩, ⟨.free, ⟨(some 9), none, .fieldAddr 7 (T 1)⟩⟩, ⟨.rd, ⟨(some 10), none, .load1 (T 9)⟩⟩, ⟨.free, ⟨(some 11), none, .fieldAddr 8 (T 1)⟩⟩, ⟨.rd, ⟨(some 12), none, .load1 (T 11)⟩⟩, ⟨.free, ⟨(some 13), none, .build #[(0, 7), (7, 1), (8, 1), (9, 1)] [(.int .i64 (0)), (.int .i64 (0)), (.slice none 0 0), (.int .i64 (0)), (.int .i64 (0)), (.slice none 0 0), (.slice none 0 0), (.int .i64 (0)), (.int .i64 (0)), (.slice none 0 0)] [0, 1, 2] [(T 8), (T 10), (T 12)]⟩⟩, ⟨.up, ⟨(some 3), none, .alloc [(.int .i64 (0)), (.int .i64 (0)), (.slice none 0 0), (.int .i64 (0)), (.int .i64 (0)), (.slice none 0 0), (.slice none 0 0), (.int .i64 (0)), (.int .i64 (0)), (.slice none 0 0)]⟩⟩, ⟨.any, ⟨none, none, .store 10 (T 3) (T 13)⟩⟩]) (.seq (.seq (.ops [⟨(some 4), none, .mov (.const (.int .i64 (0)))⟩]) (.block 0 (.loop (.seq (.seq (.ops [⟨(some 14), none, .mov (T 4)⟩, ⟨(some 15), none, .fieldAddr 9 (T 1)⟩, ⟨(some 16), none, .load1 (T 15)⟩, ⟨(some 17), none, .len (T 16)⟩, ⟨(some 18), none, .int2 .lss (T 14) (T 17)⟩]) (.cond (T 18) .skip (.exit 0))) (.seq (.block 1 (.seq (.ops [⟨(some 21), none, .fieldAddr 9 (T 1)⟩, ⟨(some 22), none, .load1 (T 21)⟩, ⟨(some 23), none, .mov (T 4)⟩, ⟨(some 24), none, .idxSl 3 (T 22) (T 23)⟩, ⟨(some 25), none, .loadN 3 (T 24)⟩, ⟨(some 5), none, .alloc [(.int .i64 (0)), (.int .i64 (0)), (.int .i64 (0))]⟩, ⟨none, none, .store 3 (T 5) (T 25)⟩]) (.ops [⟨(some 26), none, .fieldAddr 9 (T 3)⟩, ⟨(some 27), none, .load1 (T 26)⟩, ⟨(some 28), none, .fieldAddr 0 (T 5)⟩, ⟨(some 29), none, .load1 (T 28)⟩, ⟨(some 30), none, .fieldAddr 1 (T 5)⟩, ⟨(some 31), none, .fieldAddr 0 (T 30)⟩, ⟨(some 32), none, .load1 (T 31)⟩, ⟨(some 33), none, .fieldAddr 1 (T 5)⟩, ⟨(some 34), none, .fieldAddr 1 (T 33)⟩, ⟨(some 35), none, .load1 (T 34)⟩, ⟨(some 36), none, .build #[(0, 1), (1, 1)] [(.int .i64 (0)), (.int .i64 (0))] [0, 1] [(T 32), (T 35)]⟩, ⟨(some 37), none, .build #[(0, 1), (1, 2)] [(.int .i64 (0)), (.int .i64 (0)), (.int .i64 (0))] [0, 1] [(T 29), (T 36)]⟩, ⟨(some 38), none, .bslice 3 1 [(.int .i64 (0)), (.int .i64 (0)), (.int .i64 (0))] [0] [(T 37)]⟩, ⟨(some 39), none, .append 3 24 (T 27) (T 38)⟩, ⟨(some 40), none, .fieldAddr 9 (T 3)⟩, ⟨none, none, .store 1 (T 40) (T 39)⟩]))) (.ops [⟨(some 19), none, .mov (T 4)⟩, ⟨(some 20), none, .int2 .add (T 19) (.const (.int .i64 (1)))⟩, ⟨(some 4), none, .mov (T 20)⟩])))))) (.seq (.ops [⟨(some 41), none, .loadN 10 (T 3)⟩, ⟨none, none, .store 10 (T 2) (T 41)⟩]) .ret))))
theorem fok25 : FnOk Tryz.prog 25 42 s25 [.cellN 2 10] := ⟨Tryz.f25, _, Tryz.func25, rfl, Tryz.ntmps25, by kernel_rfl, by kernel_rfl⟩
set_option maxHeartbeats 2000000 in
theorem gangL_c (hn : 110 ≤ n) (hr : h.next + 600 < far) (hfl : h.floor ≤ h.next) {wv vv sv kv : Value} {G : MG} (hy : GangR h wv vv sv kv G) (hT : ThinS G.s) (hl : G.nk ≤ 30) :
    ∃ wv' vv' sv' kv' h', call n (.func (.func 25) #[] #[]) [.agg ⟨gaL G wv vv sv kv⟩] h = some (.agg ⟨gaL G wv' vv' sv' kv'⟩, h') ∧ GangR h' wv' vv' sv' kv' G ∧ (∀ i, i < h.next → h'.get i = h.get i) ∧ h.next ≤ h'.next ∧ h'.next ≤ h.next + 550 ∧ h'.floor = h.floor := by
  obtain ⟨n, rfl⟩ : ∃ p, n = p + 1 := ⟨n - 1, by omega⟩
  suffices hs : ∃ v h', call (n + 1) (.func (.func 25) #[] #[]) [.agg ⟨gaL G wv vv sv kv⟩] h = some (v, h') ∧ ∃ wv' vv' sv' kv', v = .agg ⟨gaL G wv' vv' sv' kv'⟩ ∧ GangR h' wv' vv' sv' kv' G ∧ (∀ i, i < h.next → h'.get i = h.get i) ∧ h.next ≤ h'.next ∧ h'.next ≤ h.next + 550 ∧ h'.floor = h.floor by
    obtain ⟨v, h', e, a, b, c, d, rfl, q⟩ := hs
    exact ⟨a, b, c, d, h', e, q⟩
  refine call_any0 fok25 rfl rfl (by simp) ?_
  simp only [s25, W_seq, W_ops]
  refine ops_box (cs := gaL G wv vv sv kv) (by omega) rfl hy.one fun g1 hx1 => ?_
  have n1 := hx1.next
  have f1 := hx1.floor
  simp only [rn0, rn1, rn2, reduceIte, Nat.reduceEqDiff, Nat.reduceAdd, Nat.reduceMul, Nat.reduceSub, Nat.reduceLeDiff, Nat.reduceLT]
  refine step_row (cs := zgL) (by omega) rfl rfl fun g2 hx2 => ?_
  have n2 := hx2.next
  have f2 := hx2.floor
  have hy2 := hy.mono (hx1.sub.trans hx2.sub)
  have r2 := hx1.row.mono hx2.sub
  have old2 : ∀ i, i < h.next → g2.get i = h.get i := fun i hi => by rw [hx2.old i (by omega), hx1.old i hi]
  obtain ⟨wa, va, sa, g3, e3, hy3, o3, u3, m3, f3, bw3, bv3, bs3⟩ := steepLO_c (n := n) (h := g2) (by omega) (by omega) (by omega) hy2.s hT
  have s23 : Sub All g2 g3 := AHeap.subOf o3
  simp only [rn0, rn1, rn2, reduceIte, Nat.reduceEqDiff, Nat.reduceAdd, Nat.reduceMul, Nat.reduceSub, Nat.reduceLeDiff, Nat.reduceLT]
  refine W_draw All ?_
  simp only [rn0, rn1, rn2, reduceIte, Nat.reduceEqDiff, Nat.reduceAdd, Nat.reduceMul, Nat.reduceSub, Nat.reduceLeDiff, Nat.reduceLT, ga_st r2, r2.ld, gag, Nat.zero_add, eqV_int, hy2.s.self, e3, build_ga]
  first | refine ⟨u3, ?_⟩ | refine ⟨⟨u3, s23⟩, ?_⟩ | skip
  have hone0 : allB oneCell (gaL G wa va sa nilS) = true := by simp [gaL, allB, one_int, Cells.one hy3.w, Cells.one hy3.v, Cells.one hy3.s, (show oneCell nilS = true from rfl)]
  refine up_row (cs := zgL) (by omega) rfl rfl (fun g4 hx => s23.trans hx.sub) fun g4 hx4 => ?_
  have n4 := hx4.next
  have f4 := hx4.floor
  simp only [rn0, rn1, rn2, reduceIte, Nat.reduceEqDiff, Nat.reduceAdd, Nat.reduceMul, Nat.reduceSub, Nat.reduceLeDiff, Nat.reduceLT]
  refine up_store (b := g3.next) (off := 0) (vs := gaL G wa va sa nilS) rfl hx4.get (by omega) (by omega) rfl hone0 rfl (by simp [gaL, zgL]) (fun _ _ => trivial) fun g5 hs5 => ?_
  rw [splice_all (by rfl)] at hs5
  have n5 := hs5.next
  have f5 := hs5.floor
  have old5 : ∀ i, i < g3.next → g5.get i = g3.get i := fun i hi => by rw [hs5.old i (by omega), hx4.old i hi]
  have q5 := hs5.get
  have hy5 := hy3.mono (AHeap.subOf old5)
  have z5 : g5.get g1.next = some (.row zgL true 0) := by rw [old5 _ (by omega), o3 _ (by omega)]; exact hx2.get
  have old5h : ∀ i, i < h.next → g5.get i = h.get i := fun i hi => by rw [old5 i (by omega), o3 i (by omega), old2 i hi]
  have r5 : Row g5 h.next (gaL G wv vv sv kv) := by
    obtain ⟨w, gr, e⟩ := r2
    exact ⟨w, gr, by rw [old5 _ (by omega), o3 _ (by omega)]; exact e⟩
  obtain ⟨B, hB⟩ : ∃ q, q = g3.next := ⟨_, rfl⟩
  rw [← hB] at q5
  rw [← hB]
  have b5 : g5.next = B + 1 := by omega
  simp only [rn0, rn1, rn2, reduceIte, Nat.reduceEqDiff, Nat.reduceAdd, Nat.reduceMul, Nat.reduceSub, Nat.reduceLeDiff, Nat.reduceLT]
  refine W_loop G.nk (fun k f g ms => (∃ X, (∀ i, i < g5.next → i ≠ B → g.get i = g5.get i) ∧ g.floor = h.floor ∧ g5.next ≤ g.next ∧ g.next ≤ g5.next + 3 * k ∧ GrowC g5.next g X 3 k (workC G) ∧ g.get B = some (.row (gaL G wa va sa X) true 0)) ∧ ms = [] ∧ f 1 = .pointer (some ⟨h.next, 0, none⟩) ∧ f 2 = .pointer (some ⟨g1.next, 0, none⟩) ∧ f 3 = .pointer (some ⟨B, 0, none⟩) ∧ f 4 = .int .i64 (k : Int)) (by simp; omega) ?_ ?_ ?_
  · simp only [rn0, rn1, rn2, reduceIte, Nat.reduceEqDiff, Nat.reduceAdd, Nat.reduceMul, Nat.reduceSub, Nat.reduceLeDiff, Nat.reduceLT, Int.natCast_zero]
    first | exact ⟨⟨nilS, fun i _ _ => trivial, by omega, Nat.le_refl _, Nat.le_refl _, .nil, q5⟩, rfl⟩ | exact ⟨nilS, fun i _ _ => trivial, by omega, Nat.le_refl _, Nat.le_refl _, .nil, q5⟩ | exact ⟨nilS, fun i _ _ => trivial, by omega, Nat.le_refl _, .nil, q5⟩
  · rintro k f g ms hk ⟨⟨X, og, fg, ug, ng, gv, qg⟩, rfl, p1, p2, p3, p4⟩
    have hk' : (k : Int) < (G.nk : Int) := by omega
    have hwk : wrapF .i64 ((k : Int) + 1) = ((k + 1 : Nat) : Int) := by rw [wrap_in (by omega) (by omega)]; rfl
    have oldg : ∀ i, i < h.next → g.get i = h.get i := fun i hi => by rw [og i (by omega) (by omega), old5h i hi]
    have hyg := hy.mono (AHeap.subOf oldg)
    have rg : Row g h.next (gaL G wv vv sv kv) := by
      obtain ⟨w, gr, e⟩ := r5
      exact ⟨w, gr, by rw [og _ (by omega) (by omega)]; exact e⟩
    simp only [rn0, rn1, rn2, reduceIte, Nat.reduceEqDiff, Nat.reduceAdd, Nat.reduceMul, Nat.reduceSub, Nat.reduceLeDiff, Nat.reduceLT, p1, p2, p3, p4, rg.ld, gag, Nat.zero_add, Cells.len hyg.k, hk', Cells.idx hyg.k hk, work_ld hyg hk]
    refine step_new (vs := woL G k) (by omega) (by omega) rfl (by simp only [rn0, rn1, rn2, reduceIte, Nat.reduceEqDiff, Nat.reduceAdd, Nat.reduceMul, Nat.reduceSub, Nat.reduceLeDiff, Nat.reduceLT]; rfl) rfl rfl rfl fun g6 hx6 => ?_
    have n6 := hx6.next
    have f6 := hx6.floor
    have q6 : g6.get B = some (.row (gaL G wa va sa X) true 0) := by rw [hx6.old _ (by omega)]; exact qg
    have rB : Row g6 B (gaL G wa va sa X) := ⟨_, _, q6⟩
    have r6 := hx6.row
    have gv6 := gv.sub hx6.sub
    simp only [rn0, rn1, rn2, reduceIte, Nat.reduceEqDiff, Nat.reduceAdd, Nat.reduceMul, Nat.reduceSub, Nat.reduceLeDiff, Nat.reduceLT, p1, p2, p3, p4, rB.ld, gaX, r6.ld, wog, Nat.zero_add, build_range, build_samp, sl_samp]
    refine step_slice (by omega) rfl fun g7 hx7 => ?_
    have n7 := hx7.next
    have f7 := hx7.floor
    obtain ⟨v', g8, e8, gv8, o8, n8, f8, old8, u8⟩ := grow_push (h := g6) (bytes := 24) gv6 (by omega) (by omega) (by omega) hx7 rfl rfl (fun j hj => by
      obtain rfl | rfl | rfl : j = 0 ∨ j = 1 ∨ j = 2 := by omega
      all_goals rfl) (by simp [maxBytes]; omega) (by simp [maxBytes]; omega)
    simp only [rn0, rn1, rn2, reduceIte, Nat.reduceEqDiff, Nat.reduceAdd, Nat.reduceMul, Nat.reduceSub, Nat.reduceLeDiff, Nat.reduceLT, p1, p2, p3, e8]
    refine step_store (b := B) (off := 9) (vs := [v']) rfl (by rw [old8 _ (by omega)]; exact q6) (by omega) (by omega) (cells1 o8) (by simp [allB, o8]) rfl (by simp [gaL]) fun g9 hs9 => ?_
    have es9 : splice (gaL G wa va sa X) 9 [v'] = gaL G wa va sa v' := rfl
    rw [es9] at hs9
    have n9 := hs9.next
    have f9 := hs9.floor
    simp only [rn0, rn1, rn2, reduceIte, Nat.reduceEqDiff, Nat.reduceAdd, Nat.reduceMul, Nat.reduceSub, Nat.reduceLeDiff, Nat.reduceLT, p1, p2, p3, p4, hwk]
    have fin : ∃ X, (∀ i, i < g5.next → i ≠ B → g9.get i = g5.get i) ∧ g9.floor = h.floor ∧ g5.next ≤ g9.next ∧ g9.next ≤ g5.next + 3 * (k + 1) ∧ GrowC g5.next g9 X 3 (k + 1) (workC G) ∧ g9.get B = some (.row (gaL G wa va sa X) true 0) := ⟨v', fun i hi hne => by rw [hs9.old i hne, old8 i (by omega), hx6.old i (by omega), og i hi hne], by omega, by omega, by omega, gv8.keep hs9.keep (by omega), hs9.get⟩
    first | exact fin | exact ⟨fin, rfl⟩
  · rintro f g ms ⟨⟨X, og, fg, ug, ng, gv, qg⟩, rfl, p1, p2, p3, p4⟩
    have oldg : ∀ i, i < h.next → g.get i = h.get i := fun i hi => by rw [og i (by omega) (by omega), old5h i hi]
    have hyg := hy.mono (AHeap.subOf oldg)
    have rg : Row g h.next (gaL G wv vv sv kv) := by
      obtain ⟨w, gr, e⟩ := r5
      exact ⟨w, gr, by rw [og _ (by omega) (by omega)]; exact e⟩
    have rB : Row g B (gaL G wa va sa X) := ⟨_, _, qg⟩
    have hone : allB oneCell (gaL G wa va sa X) = true := by simp [gaL, allB, one_int, Cells.one hy3.w, Cells.one hy3.v, Cells.one hy3.s, gv.one]
    simp only [rn0, rn1, rn2, reduceIte, Nat.reduceEqDiff, Nat.reduceAdd, Nat.reduceMul, Nat.reduceSub, Nat.reduceLeDiff, Nat.reduceLT, p1, p2, p3, p4, rg.ld, gag, Nat.zero_add, Cells.len hyg.k, Int.lt_irrefl, rB.whole (n := 10) rfl]
    refine step_store (b := g1.next) (off := 0) (vs := gaL G wa va sa X) rfl (by rw [og _ (by omega) (by omega)]; exact z5) (by omega) (by omega) rfl hone rfl (by simp [gaL, zgL]) fun g8 hs8 => ?_
    rw [splice_all (by rfl)] at hs8
    have n8 := hs8.next
    have f8 := hs8.floor
    have o8 : ∀ i, i < g3.next → i ≠ g1.next → g8.get i = g3.get i := fun i hi hne => by rw [hs8.old i hne, og i (by omega) (by omega), old5 i hi]
    simp only [rn0, rn1, rn2, reduceIte, Nat.reduceEqDiff, Nat.reduceAdd, Nat.reduceMul, Nat.reduceSub, Nat.reduceLeDiff, Nat.reduceLT, p2, res_cellN, hs8.row.whole (n := 10) rfl]
    have sep : ∀ {v : Value} {s m : Nat} {c : Nat → Nat → Value}, Cells g3 v s m c → (∀ x k q, v = .slice (some x) k q → g2.next ≤ x.block) → Cells g8 v s m c := fun {v s m c} hc hb => by
      obtain ⟨a, cap, rfl, hsp, h0 | ⟨b, o, cs, w, gr, rfl, h1, h2⟩⟩ := hc
      · exact ⟨a, cap, rfl, hsp, .inl h0⟩
      · have hb' : g2.next ≤ b := hb _ _ _ rfl
        have hlt : b < g3.next := AHeap.lt_of_get h1
        exact ⟨_, cap, rfl, hsp, .inr ⟨b, o, cs, w, gr, rfl, by rw [o8 b hlt (by omega)]; exact h1, h2⟩⟩
    refine ⟨wa, va, sa, X, rfl, ⟨⟨sep hy3.w bw3, sep hy3.v bv3, sep hy3.s bs3⟩, (gv.keep hs8.keep (by omega)).cells⟩, fun i hi => by rw [hs8.old i (by omega), oldg i hi], by omega, by omega, by omega⟩

def ThinG (G : MG) : Prop := (ThinS G.s ∧ G.nk ≤ 30) ∧ (faultG G = 0 → manyS G.s ≤ 200)
noncomputable instance (G : MG) : Decidable (ThinG G) := Classical.propDecidable _
def s22 : SCode := (.seq (.ops [⟨(some 1), none, .box (T 0)⟩, ⟨(some 2), none, .mov (.const (.bool false))⟩]) (.seq (.seq (.ops [⟨(some 3), none, .fieldAddr 0 (T 1)⟩, ⟨(some 4), none, .loadN 7 (T 3)⟩, ⟨(some 5), none, .call (.func 71) [(T 4)]⟩, ⟨(some 6), none, .not (T 5)⟩, ⟨(some 7), none, .mov (T 6)⟩, ⟨(some 8), (some (7, false)), .fieldAddr 9 (T 1)⟩, ⟨(some 9), (some (7, false)), .load1 (T 8)⟩, ⟨(some 10), (some (7, false)), .len (T 9)⟩, ⟨(some 11), (some (7, false)), .int2 .gtr (T 10) (.const (.int .i64 (30)))⟩, ⟨(some 12), none, .pick (T 7) (.const (.bool true)) (T 11)⟩]) (.cond (T 12) (.seq (.ops [⟨(some 2), none, .mov (.const (.bool false))⟩]) .ret) .skip)) (.seq (.ops [⟨(some 13), none, .loadN 10 (T 1)⟩, ⟨(some 14), none, .call (.func 66) [(T 13)]⟩, ⟨(some 15), none, .int2 .neq (T 14) (.const (.int .i64 (0)))⟩, ⟨(some 16), none, .mov (T 15)⟩, ⟨(some 17), (some (16, false)), .fieldAddr 0 (T 1)⟩, ⟨(some 18), (some (16, false)), .loadN 7 (T 17)⟩, ⟨(some 19), (some (16, false)), .call (.func 72) [(T 18)]⟩, ⟨(some 20), (some (16, false)), .int2 .leq (T 19) (.const (.int .i64 (200)))⟩, ⟨(some 21), none, .pick (T 16) (.const (.bool true)) (T 20)⟩, ⟨(some 2), none, .mov (T 21)⟩]) .ret)))
theorem fok22 : FnOk Tryz.prog 22 22 s22 [.tmp 2] := ⟨Tryz.f22, _, Tryz.func22, rfl, Tryz.ntmps22, by kernel_rfl, by kernel_rfl⟩
theorem thinG_c (hn : 2400 ≤ n) (hr : h.next + 1000200 < far) {wv vv sv kv : Value} {G : MG} (hy : GangR h wv vv sv kv G) :
    call n (.func (.func 22) #[] #[]) [.agg ⟨gaL G wv vv sv kv⟩] h = some (.bool (decide (ThinG G)), h) := by
  obtain ⟨n, rfl⟩ : ∃ p, n = p + 1 := ⟨n - 1, by omega⟩
  refine call_plain0 fok22 rfl rfl (by simp) rfl ?_
  have hy := hy.shut
  have hr : h.shutAll.next + 1000200 < far := hr
  generalize h.shutAll = h at hy hr
  simp only [s22, W_seq, W_ops]
  refine ops_box (cs := gaL G wv vv sv kv) (by omega) rfl hy.one fun h1 hx => ?_
  have n1 := hx.next
  have hy := hy.mono hx.sub
  have r1 := hx.row
  have et := thin_c (n := n) (h := h1) (by omega) (by omega) hy.s
  by_cases hT : ThinS G.s
  case neg =>
    have : ¬ ThinG G := fun e => hT e.1.1
    simp only [rn0, rn1, rn2, reduceIte, Nat.reduceEqDiff, Nat.reduceAdd, Nat.reduceMul, Nat.reduceSub, Nat.reduceLeDiff, Nat.reduceLT, ga_st r1, et, hT, this]
  by_cases c1 : (30 : Int) < (G.nk : Int)
  · have : ¬ ThinG G := fun e => by have := e.1.2; omega
    simp only [rn0, rn1, rn2, reduceIte, Nat.reduceEqDiff, Nat.reduceAdd, Nat.reduceMul, Nat.reduceSub, Nat.reduceLeDiff, Nat.reduceLT, ga_st r1, et, hT, r1.ld, gag, Nat.zero_add, Cells.len hy.k, c1, this]
  have hl : G.nk ≤ 30 := by omega
  have ef := faultR_c (n := n) (h := h1) (by omega) (by omega) hy hT hl
  by_cases hf : faultG G = 0
  case neg =>
    have : ThinG G := ⟨⟨hT, hl⟩, fun e => absurd e hf⟩
    simp only [rn0, rn1, rn2, reduceIte, Nat.reduceEqDiff, Nat.reduceAdd, Nat.reduceMul, Nat.reduceSub, Nat.reduceLeDiff, Nat.reduceLT, ga_st r1, et, hT, r1.ld, gag, Nat.zero_add, Cells.len hy.k, c1, r1.whole (n := 10) rfl, ef, hf, this]
  have em := many_c (n := n) (h := h1) (by omega) (by omega) hy.s (goodG.1 hf).s.args ⟨hT.1, hT.2.1⟩
  by_cases c2 : manyS G.s ≤ 200
  · have : ThinG G := ⟨⟨hT, hl⟩, fun _ => c2⟩
    simp only [rn0, rn1, rn2, reduceIte, Nat.reduceEqDiff, Nat.reduceAdd, Nat.reduceMul, Nat.reduceSub, Nat.reduceLeDiff, Nat.reduceLT, ga_st r1, et, hT, r1.ld, gag, Nat.zero_add, Cells.len hy.k, c1, r1.whole (n := 10) rfl, ef, hf, em, c2, this]
  · have : ¬ ThinG G := fun e => c2 (e.2 hf)
    simp only [rn0, rn1, rn2, reduceIte, Nat.reduceEqDiff, Nat.reduceAdd, Nat.reduceMul, Nat.reduceSub, Nat.reduceLeDiff, Nat.reduceLT, ga_st r1, et, hT, r1.ld, gag, Nat.zero_add, Cells.len hy.k, c1, r1.whole (n := 10) rfl, ef, hf, em, c2, this]
def s28 : SCode := (.seq (.ops [⟨(some 1), none, .box (T 0)⟩, ⟨(some 2), none, .mov (.const (.int .i64 (0)))⟩]) (.seq (.ops [⟨(some 3), none, .loadN 10 (T 1)⟩, ⟨(some 4), none, .call (.func 66) [(T 3)]⟩, ⟨(some 2), none, .mov (T 4)⟩]) .ret))
theorem fok28 : FnOk Tryz.prog 28 5 s28 [.tmp 2] := ⟨Tryz.f28, _, Tryz.func28, rfl, Tryz.ntmps28, by kernel_rfl, by kernel_rfl⟩
theorem faultLG_c (hn : 2400 ≤ n) (hr : h.next + 1000200 < far) {wv vv sv kv : Value} {G : MG} (hy : GangR h wv vv sv kv G) (hT : ThinS G.s) (hl : G.nk ≤ 30) :
    call n (.func (.func 28) #[] #[]) [.agg ⟨gaL G wv vv sv kv⟩] h = some (.int .i64 (faultG G), h) := by
  obtain ⟨n, rfl⟩ : ∃ p, n = p + 1 := ⟨n - 1, by omega⟩
  refine call_plain0 fok28 rfl rfl (by simp) rfl ?_
  have hy := hy.shut
  have hr : h.shutAll.next + 1000200 < far := hr
  generalize h.shutAll = h at hy hr
  simp only [s28, W_seq, W_ops]
  refine ops_box (cs := gaL G wv vv sv kv) (by omega) rfl hy.one fun h1 hx => ?_
  have n1 := hx.next
  have ef := faultR_c (n := n) (h := h1) (by omega) (by omega) (hy.mono hx.sub) hT hl
  simp only [rn0, rn1, rn2, reduceIte, Nat.reduceEqDiff, Nat.reduceAdd, Nat.reduceMul, Nat.reduceSub, Nat.reduceLeDiff, Nat.reduceLT, hx.row.whole (n := 10) rfl, ef]
noncomputable def planE (G : MG) (m : Nat) (p : Nat → Int) (b : Bool) : Int := if faultG G ≠ 0 then faultG G else if PlanOk G m p ∧ b = true then 0 else 2
def s29 : SCode := (.seq (.ops [⟨(some 3), none, .box (T 0)⟩, ⟨(some 6), none, .mov (.const (.int .i64 (0)))⟩]) (.seq (.seq (.ops [⟨(some 8), none, .loadN 10 (T 3)⟩, ⟨(some 9), none, .call (.func 28) [(T 8)]⟩, ⟨(some 7), none, .mov (T 9)⟩]) (.seq (.ops [⟨(some 10), none, .mov (T 7)⟩, ⟨(some 11), none, .int2 .neq (T 10) (.const (.int .i64 (0)))⟩]) (.cond (T 11) (.seq (.ops [⟨(some 12), none, .mov (T 7)⟩, ⟨(some 6), none, .mov (T 12)⟩]) .ret) .skip))) (.seq (.seq (.ops [⟨(some 13), none, .loadN 10 (T 3)⟩, ⟨(some 14), none, .mov (T 1)⟩, ⟨(some 15), none, .call (.func 43) [(T 13), (T 14)]⟩, ⟨(some 16), none, .not (T 15)⟩, ⟨(some 17), none, .mov (T 16)⟩, ⟨(some 18), (some (17, false)), .mov (T 2)⟩, ⟨(some 19), (some (17, false)), .not (T 18)⟩, ⟨(some 20), none, .pick (T 17) (.const (.bool true)) (T 19)⟩]) (.cond (T 20) (.seq (.ops [⟨(some 6), none, .mov (.const (.int .i64 (2)))⟩]) .ret) .skip)) (.seq (.ops [⟨(some 6), none, .mov (.const (.int .i64 (0)))⟩]) .ret))))
theorem fok29 : FnOk Tryz.prog 29 21 s29 [.tmp 6] := ⟨Tryz.f29, _, Tryz.func29, rfl, Tryz.ntmps29, by kernel_rfl, by kernel_rfl⟩
theorem planned_c (hn : 2410 ≤ n) (hr : h.next + 1000300 < far) {wv vv sv kv lv : Value} {G : MG} {m : Nat} {p : Nat → Int} (hy : GangR h wv vv sv kv G) (hT : ThinS G.s) (hl : G.nk ≤ 30) (hp : Ints h lv m p) (hm : m ≤ 30) (b : Bool) :
    call n (.func (.func 29) #[] #[]) [.agg ⟨gaL G wv vv sv kv⟩, lv, .bool b] h = some (.int .i64 (planE G m p b), h) := by
  obtain ⟨n, rfl⟩ : ∃ p, n = p + 1 := ⟨n - 1, by omega⟩
  refine call_plain0 fok29 rfl rfl (by simp) rfl ?_
  have hy := hy.shut
  have hp := Cells.shut hp
  have hr : h.shutAll.next + 1000300 < far := hr
  generalize h.shutAll = h at hy hp hr
  simp only [s29, W_seq, W_ops]
  refine ops_box (cs := gaL G wv vv sv kv) (by omega) rfl hy.one fun h1 hx => ?_
  have n1 := hx.next
  have hy1 := hy.mono hx.sub
  have hp1 : Ints h1 lv m p := Cells.mono hp hx.sub
  have r1 := hx.row
  have ef := faultLG_c (n := n) (h := h1) (by omega) (by omega) hy1 hT hl
  by_cases hf : faultG G = 0
  case neg =>
    have e : planE G m p b = faultG G := if_pos hf
    simp only [rn0, rn1, rn2, reduceIte, Nat.reduceEqDiff, Nat.reduceAdd, Nat.reduceMul, Nat.reduceSub, Nat.reduceLeDiff, Nat.reduceLT, r1.whole (n := 10) rfl, ef, hf, e]
  have ei := isPlan_c (n := n) (h := h1) (by omega) (by omega) hy1 hp1 hm (by have := (goodG.1 hf).nk; omega)
  by_cases hP : PlanOk G m p
  case neg =>
    have e : planE G m p b = 2 := by rw [planE, if_neg (by simpa using hf), if_neg (fun e => hP e.1)]
    simp only [rn0, rn1, rn2, reduceIte, Nat.reduceEqDiff, Nat.reduceAdd, Nat.reduceMul, Nat.reduceSub, Nat.reduceLeDiff, Nat.reduceLT, r1.whole (n := 10) rfl, ef, hf, e, ei, hP]
  cases b
  · have e : planE G m p false = 2 := by rw [planE, if_neg (by simpa using hf), if_neg (fun e => nomatch e.2)]
    simp only [rn0, rn1, rn2, reduceIte, Nat.reduceEqDiff, Nat.reduceAdd, Nat.reduceMul, Nat.reduceSub, Nat.reduceLeDiff, Nat.reduceLT, r1.whole (n := 10) rfl, ef, hf, e, ei, hP]
  · have e : planE G m p true = 0 := by rw [planE, if_neg (by simpa using hf), if_pos ⟨hP, rfl⟩]
    simp only [rn0, rn1, rn2, reduceIte, Nat.reduceEqDiff, Nat.reduceAdd, Nat.reduceMul, Nat.reduceSub, Nat.reduceLeDiff, Nat.reduceLT, r1.whole (n := 10) rfl, ef, hf, e, ei, hP]

theorem errPG_ok {G : MG} {m : Nat} {p : Nat → Int} (h : errPG G m p = 0) : GoodG G ∧ PlanOk G m p := by
  unfold errPG at h
  by_cases c : faultG G = 0
  · rw [if_neg (by simpa using c)] at h
    by_cases c2 : PlanOk G m p
    · exact ⟨goodG.1 c, c2⟩
    · rw [if_neg c2] at h; exact absurd h (by decide)
  · rw [if_pos c] at h; exact absurd h c
theorem ret_tt {a b : Nat} {f : Go.Vm.Fr} : resV f h [.tmp a, .tmp b] = some (.tuple ⟨[f a, f b]⟩) := id rfl
noncomputable def latePG (G : MG) (p : Nat → Int) : Option Nat := fstP (fun k => ¬ RipeS G k (p k)) G.nk
noncomputable def lateE (G : MG) (m : Nat) (p : Nat → Int) : Int := if errPG G m p ≠ 0 then errPG G m p else if latePG G p = none then 7 else 0
noncomputable def lateN (G : MG) (m : Nat) (p : Nat → Int) : Int := if errPG G m p ≠ 0 then 0 else optI (latePG G p) 0
open Classical in
theorem rip_dec {G : MG} {v : Nat} {t : Int} (hv : v < G.nk) : rip G G.nk ((v : Int), t) = decide (RipeS G v t) := by
  by_cases c : RipeS G v t
  · rw [decide_eq_true c]; exact (rip_iff hv).2 c
  · rw [decide_eq_false c]
    cases hb : rip G G.nk ((v : Int), t) with
    | false => rfl
    | true => exact absurd ((rip_iff hv).1 hb) c
def s38 : SCode := (.seq (.ops [⟨(some 2), none, .box (T 0)⟩, ⟨(some 4), none, .mov (.const (.int .i64 (0)))⟩, ⟨(some 5), none, .mov (.const (.int .i64 (0)))⟩]) (.seq (.ops [⟨(some 12), none, .loadN 10 (T 2)⟩, ⟨(some 13), none, .mov (T 1)⟩, ⟨(some 14), none, .call (.func 76) [(T 12), (T 13)]⟩, ⟨(some 11), none, .mov (T 14)⟩, ⟨(some 15), none, .extract 0 (T 11)⟩, ⟨(some 16), none, .extract 1 (T 11)⟩, ⟨(some 17), none, .extract 2 (T 11)⟩, ⟨(some 6), none, .alloc [(.int .i64 (0)), (.int .i64 (0)), (.slice none 0 0), (.int .i64 (0)), (.int .i64 (0)), (.slice none 0 0), (.slice none 0 0), (.int .i64 (0)), (.int .i64 (0)), (.slice none 0 0), (.map none)]⟩, ⟨none, none, .store 11 (T 6) (T 15)⟩, ⟨(some 7), none, .mov (T 16)⟩, ⟨(some 8), none, .mov (T 17)⟩]) (.seq (.seq (.ops [⟨(some 18), none, .mov (T 8)⟩, ⟨(some 19), none, .int2 .neq (T 18) (.const (.int .i64 (0)))⟩]) (.cond (T 19) (.seq (.ops [⟨(some 20), none, .mov (T 8)⟩, ⟨(some 4), none, .mov (.const (.int .i64 (0)))⟩, ⟨(some 5), none, .mov (T 20)⟩]) .ret) .skip)) (.seq (.seq (.ops [⟨(some 21), none, .mov (T 7)⟩, ⟨(some 22), none, .len (T 21)⟩, ⟨(some 23), none, .mov (.const (.int .i64 (0)))⟩]) (.block 0 (.loop (.seq (.ops [⟨(some 24), none, .int2 .lss (T 23) (T 22)⟩]) (.seq (.cond (T 24) .skip (.exit 0)) (.seq (.block 1 (.seq (.ops [⟨(some 25), none, .idxSl 2 (T 21) (T 23)⟩, ⟨(some 26), none, .loadN 2 (T 25)⟩, ⟨(some 10), none, .alloc [(.int .i64 (0)), (.int .i64 (0))]⟩, ⟨none, none, .store 2 (T 10) (T 26)⟩]) (.seq (.ops [⟨(some 27), none, .loadN 11 (T 6)⟩, ⟨(some 28), none, .loadN 2 (T 10)⟩, ⟨(some 29), none, .call (.func 87) [(T 27), (T 28)]⟩, ⟨(some 30), none, .not (T 29)⟩]) (.cond (T 30) (.seq (.ops [⟨(some 31), none, .fieldAddr 0 (T 10)⟩, ⟨(some 32), none, .load1 (T 31)⟩, ⟨(some 4), none, .mov (T 32)⟩, ⟨(some 5), none, .mov (.const (.int .i64 (0)))⟩]) .ret) .skip)))) (.ops [⟨(some 33), none, .int2 .add (T 23) (.const (.int .i64 (1)))⟩, ⟨(some 23), none, .mov (T 33)⟩]))))))) (.seq (.ops [⟨(some 4), none, .mov (.const (.int .i64 (0)))⟩, ⟨(some 5), none, .mov (.const (.int .i64 (7)))⟩]) .ret)))))
theorem fok38 : FnOk Tryz.prog 38 34 s38 [.tmp 4, .tmp 5] := ⟨Tryz.f38, _, Tryz.func38, rfl, Tryz.ntmps38, by kernel_rfl, by kernel_rfl⟩
set_option maxHeartbeats 1000000 in
theorem lateG_c (hn : 2540 ≤ n) (hr : h.next + 1500000 < far) {wv vv sv kv lv : Value} {G : MG} {m : Nat} {p : Nat → Int} (hy : GangR h wv vv sv kv G) (hT : ThinS G.s) (hl : G.nk ≤ 30) (hp : Ints h lv m p) (hm30 : m ≤ 30) :
    call n (.func (.func 38) #[] #[]) [.agg ⟨gaL G wv vv sv kv⟩, lv] h = some (.tuple ⟨[.int .i64 (lateN G m p), .int .i64 (lateE G m p)]⟩, h) := by
  classical
  obtain ⟨n, rfl⟩ : ∃ p, n = p + 1 := ⟨n - 1, by omega⟩
  refine call_plain0 fok38 rfl rfl (by simp) rfl ?_
  have hy := hy.shut
  have hp := Cells.shut hp
  have hr : h.shutAll.next + 1500000 < far := hr
  have hfl : h.shutAll.floor ≤ h.shutAll.next := Nat.le_refl _
  generalize h.shutAll = h at hy hp hr hfl
  simp only [s38, W_seq, W_ops]
  refine ops_box (cs := gaL G wv vv sv kv) (by omega) rfl hy.one fun g1 hx1 => ?_
  have n1 := hx1.next
  have f1 := hx1.floor
  have r1 := hx1.row
  have hy1 := hy.mono hx1.sub
  have hp1 : Ints g1 lv m p := Cells.mono hp hx1.sub
  obtain ⟨ov, g2, e2, o2, u2, m2, f2, hO⟩ := openPG_c (n := n) (h := g1) (by omega) (by omega) (by omega) hy1 hT hl hp1 hm30
  rcases hO with ⟨he, rfl⟩ | ⟨he, r, pv, rfl, hm2, hr2, hr2', hpv, hpo⟩
  · have e1 : lateN G m p = 0 := if_pos he
    have e3 : lateE G m p = errPG G m p := if_pos he
    simp only [rn0, rn1, rn2, reduceIte, Nat.reduceEqDiff, Nat.reduceAdd, Nat.reduceMul, Nat.reduceSub, Nat.reduceLeDiff, Nat.reduceLT, r1.whole (n := 10) rfl, e2, ex30, ex31, ex32]
    refine step_new (vs := zcL) (by omega) (by omega) rfl (by simp only [rn0, rn1, rn2, reduceIte, Nat.reduceEqDiff, Nat.reduceAdd, Nat.reduceMul, Nat.reduceSub, Nat.reduceLeDiff, Nat.reduceLT]; rfl) rfl rfl rfl fun g4 hx4 => ?_
    simp only [rn0, rn1, rn2, reduceIte, Nat.reduceEqDiff, Nat.reduceAdd, Nat.reduceMul, Nat.reduceSub, Nat.reduceLeDiff, Nat.reduceLT, he, ret_tt, e1, e3]
  obtain ⟨hG, hP⟩ := errPG_ok he
  obtain ⟨z0, z1, z4, z5, _⟩ := hG.sizes
  have hy2 := hy1.mono (AHeap.subOf o2)
  simp only [rn0, rn1, rn2, reduceIte, Nat.reduceEqDiff, Nat.reduceAdd, Nat.reduceMul, Nat.reduceSub, Nat.reduceLeDiff, Nat.reduceLT, r1.whole (n := 10) rfl, e2, ex30, ex31, ex32]
  refine step_new (vs := crL G wv vv sv kv (.map (some r))) (by omega) (by omega) rfl (by simp only [rn0, rn1, rn2, reduceIte, Nat.reduceEqDiff, Nat.reduceAdd, Nat.reduceMul, Nat.reduceSub, Nat.reduceLeDiff, Nat.reduceLT]; rfl) (cr_one hy2 rfl) rfl rfl fun g4 hx4 => ?_
  have n4 := hx4.next
  have f4 := hx4.floor
  have r4 := hx4.row
  have hm4 : MapB g4 r key2 (rip G G.nk) := hm2.keep (hx4.old _ hm2.lt)
  have hy4 := hy2.mono hx4.sub
  have hp4 : Ranges g4 pv G.nk (fun k => (k : Int)) p := Cells.mono hpv hx4.sub
  obtain ⟨A7, hA7⟩ : ∃ q, q = g2.next := ⟨_, rfl⟩
  rw [← hA7] at r4
  rw [← hA7]
  have hz : (0 : Int) = 0 := rfl
  simp only [rn0, rn1, rn2, reduceIte, Nat.reduceEqDiff, Nat.reduceAdd, Nat.reduceMul, Nat.reduceSub, Nat.reduceLeDiff, Nat.reduceLT, Cells.len hp4]
  refine W_loop G.nk (fun k f g ms => (∀ i, i < k → RipeS G i (p i)) ∧ (∀ i, i < g4.next → g.get i = g4.get i) ∧ g.floor = g4.floor ∧ g4.next ≤ g.next ∧ g.next ≤ g4.next + k ∧ ms = [] ∧ f 6 = .pointer (some ⟨A7, 0, none⟩) ∧ f 21 = pv ∧ f 22 = .int .i64 (G.nk : Int) ∧ f 23 = .int .i64 (k : Int)) (by simp; omega) ?_ ?_ ?_
  · simp only [rn0, rn1, rn2, reduceIte, Nat.reduceEqDiff, Nat.reduceAdd, Nat.reduceMul, Nat.reduceSub, Nat.reduceLeDiff, Nat.reduceLT, Int.natCast_zero]
    first | exact ⟨fun i hi => absurd hi (Nat.not_lt_zero _), fun i _ => trivial, Nat.le_refl _⟩ | exact ⟨fun i hi => absurd hi (Nat.not_lt_zero _), fun i _ => trivial, Nat.le_refl _, Nat.le_refl _⟩ | exact ⟨fun i hi => absurd hi (Nat.not_lt_zero _), fun i _ => trivial⟩ | exact fun i hi => absurd hi (Nat.not_lt_zero _)
  · rintro k f g ms hk ⟨hall, og, fg, ug, ng, rfl, p6, p21, p22, p23⟩
    have hk' : (k : Int) < (G.nk : Int) := by omega
    have hwk : wrapF .i64 ((k : Int) + 1) = ((k + 1 : Nat) : Int) := by rw [wrap_in (by omega) (by omega)]; rfl
    have hpg : Ranges g pv G.nk (fun k => (k : Int)) p := Cells.mono hp4 (AHeap.subOf og)
    simp only [rn0, rn1, rn2, reduceIte, Nat.reduceEqDiff, Nat.reduceAdd, Nat.reduceMul, Nat.reduceSub, Nat.reduceLeDiff, Nat.reduceLT, p6, p21, p22, p23, hk', Cells.idx hpg hk, ranges_ld hpg hk]
    refine step_new (vs := [.int .i64 (k : Int), .int .i64 (p k)]) (by omega) (by omega) rfl (by simp only [rn0, rn1, rn2, reduceIte, Nat.reduceEqDiff, Nat.reduceAdd, Nat.reduceMul, Nat.reduceSub, Nat.reduceLeDiff, Nat.reduceLT]; rfl) rfl rfl rfl fun g5 hx5 => ?_
    have n5 := hx5.next
    have f5 := hx5.floor
    have r5 := hx5.row
    have o5 : ∀ i, i < g4.next → g5.get i = g4.get i := fun i hi => by rw [hx5.old i (by omega), og i hi]
    have hm5 : MapB g5 r key2 (rip G G.nk) := hm4.keep (o5 _ hm4.lt)
    have hy5 := hy4.mono (AHeap.subOf o5)
    have r45 := r4.mono (AHeap.subOf o5)
    have ei := isRipe_c (n := n) (h := g5) (by omega) (by omega) hy5 hm5 k (p k)
    rw [rip_dec hk] at ei
    by_cases c : RipeS G k (p k)
    · rw [decide_eq_true c] at ei
      simp only [rn0, rn1, rn2, reduceIte, Nat.reduceEqDiff, Nat.reduceAdd, Nat.reduceMul, Nat.reduceSub, Nat.reduceLeDiff, Nat.reduceLT, p6, p21, p22, p23, r45.whole (n := 11) rfl, r5.whole (n := 2) rfl, ei, hwk]
      have fin : (∀ i, i < k + 1 → RipeS G i (p i)) ∧ (∀ i, i < g4.next → g5.get i = g4.get i) ∧ g5.floor = g4.floor ∧ g4.next ≤ g5.next ∧ g5.next ≤ g4.next + (k + 1) := ⟨fun i hi => by
        by_cases e : i = k
        · subst e; exact c
        · exact hall i (by omega), o5, by omega, by omega, by omega⟩
      exact fin
    · rw [decide_eq_false c] at ei
      have hs : latePG G p = some k := fst_is hk c fun i hi => fun hc => hc (hall i hi)
      have e1 : lateN G m p = (k : Int) := by rw [lateN, if_neg (by simpa using he), hs]; rfl
      have e3 : lateE G m p = 0 := by rw [lateE, if_neg (by simpa using he), hs, if_neg (fun e => nomatch e)]
      simp only [rn0, rn1, rn2, reduceIte, Nat.reduceEqDiff, Nat.reduceAdd, Nat.reduceMul, Nat.reduceSub, Nat.reduceLeDiff, Nat.reduceLT, p6, p21, p22, p23, r45.whole (n := 11) rfl, r5.whole (n := 2) rfl, ei, r5.ld, Nat.zero_add, List.getElem?_cons_zero, ret_tt, e1, e3]
  · rintro f g ms ⟨hall, og, fg, ug, ng, rfl, p6, p21, p22, p23⟩
    have hs : latePG G p = none := fstP_none.2 fun i hi hc => hc (hall i hi)
    have e1 : lateN G m p = 0 := by rw [lateN, if_neg (by simpa using he), hs]; rfl
    have e3 : lateE G m p = 7 := by rw [lateE, if_neg (by simpa using he), hs, if_pos rfl]
    simp only [rn0, rn1, rn2, reduceIte, Nat.reduceEqDiff, Nat.reduceAdd, Nat.reduceMul, Nat.reduceSub, Nat.reduceLeDiff, Nat.reduceLT, p6, p21, p22, p23, Int.lt_irrefl, ret_tt, e1, e3]
def ProveS (G : MG) (m : Nat) (p : Nat → Int) (d : Int) : Prop := errPG G m p = 0 ∧ SureW G G.nk (fun k => k) p ∧ doneS G p G.nk ≤ d
noncomputable instance (G : MG) (m : Nat) (p : Nat → Int) (d : Int) : Decidable (ProveS G m p d) := Classical.propDecidable _

theorem planE_true {G : MG} {m : Nat} {p : Nat → Int} : planE G m p true = errPG G m p := by
  unfold planE errPG
  by_cases c : faultG G = 0
  · rw [if_neg (by simpa using c)]
    by_cases c2 : PlanOk G m p
    · rw [if_pos ⟨c2, rfl⟩, if_neg (by simpa using c), if_pos c2]
    · rw [if_neg (fun e => c2 e.1), if_neg (by simpa using c), if_neg c2]
  · rw [if_pos c, if_pos c]
theorem bit_all {k i : Nat} (hi : i < k) : Bit (2 ^ k - 1) i := by
  unfold Bit
  have h1 : (2 ^ k - 1).testBit i = true := by rw [Nat.testBit_two_pow_sub_one]; exact decide_eq_true hi
  rw [Nat.testBit_eq_decide_div_mod_eq] at h1
  exact of_decide_eq_true h1
theorem late_same {G : MG} {m : Nat} {p : Nat → Int} (hP : PlanOk G m p) : lateF G p (2 ^ G.nk - 1) m = latePG G p := by
  obtain ⟨rfl, hP⟩ := hP
  have hiff : ∀ i, i < G.nk → (lateS G p (2 ^ G.nk - 1) i ↔ ¬ RipeS G i (p i)) := fun i hi => by
    unfold lateS RipeS
    exact ⟨fun e c => e.2 c.2, fun c => ⟨bit_all hi, fun e => c ⟨hP i hi, e⟩⟩⟩
  unfold lateF latePG
  cases hf : fstP (fun k => ¬ RipeS G k (p k)) G.nk with
  | none => exact fstP_none.2 fun k hk hb => fstP_none.1 hf k hk ((hiff k hk).1 hb)
  | some k =>
    obtain ⟨h1, h2, h3⟩ := fstP_some hf
    exact fst_is h1 ((hiff k h1).2 h2) fun i hi hc => h3 i hi ((hiff i (by omega)).1 hc)
theorem awakeG {g : AHeap} (hn : 1 ≤ n) : call n (.func (.func 23) #[] #[]) [] g = some (.bool true, g) := awake_c hn
def s5 : SCode := (.seq (.ops [⟨(some 2), none, .box (T 0)⟩, ⟨(some 4), none, .mov (.const (.bool false))⟩]) (.seq (.seq (.ops [⟨(some 9), none, .loadN 10 (T 2)⟩, ⟨(some 10), none, .call (.func 22) [(T 9)]⟩, ⟨(some 11), none, .not (T 10)⟩, ⟨(some 12), none, .mov (T 11)⟩, ⟨(some 13), (some (12, false)), .mov (T 1)⟩, ⟨(some 14), (some (12, false)), .len (T 13)⟩, ⟨(some 15), (some (12, false)), .int2 .gtr (T 14) (.const (.int .i64 (30)))⟩, ⟨(some 16), none, .pick (T 12) (.const (.bool true)) (T 15)⟩]) (.cond (T 16) (.seq (.ops [⟨(some 17), none, .call (.func 23) []⟩, ⟨(some 4), none, .mov (T 17)⟩]) .ret) .skip)) (.seq (.ops [⟨(some 19), none, .loadN 10 (T 2)⟩, ⟨(some 20), none, .call (.func 25) [(T 19)]⟩, ⟨(some 21), none, .mov (T 1)⟩, ⟨(some 22), none, .call (.func 26) [(T 21)]⟩, ⟨(some 23), none, .call (.func 38) [(T 20), (T 22)]⟩, ⟨(some 18), none, .mov (T 23)⟩, ⟨(some 24), none, .extract 0 (T 18)⟩, ⟨(some 25), none, .extract 1 (T 18)⟩, ⟨(some 5), none, .mov (T 24)⟩, ⟨(some 6), none, .mov (T 25)⟩]) (.seq (.seq (.ops [⟨(some 26), none, .loadN 10 (T 2)⟩, ⟨(some 27), none, .mov (T 1)⟩, ⟨(some 28), none, .call (.func 29) [(T 26), (T 27), (.const (.bool true))]⟩, ⟨(some 7), none, .mov (T 28)⟩]) (.seq (.ops [⟨(some 29), none, .mov (T 7)⟩, ⟨(some 30), none, .int2 .neq (T 29) (.const (.int .i64 (0)))⟩]) (.cond (T 30) (.seq (.ops [⟨(some 31), none, .mov (T 6)⟩, ⟨(some 32), none, .mov (T 7)⟩, ⟨(some 33), none, .int2 .eql (T 31) (T 32)⟩, ⟨(some 34), none, .mov (T 33)⟩, ⟨(some 35), (some (34, true)), .mov (T 5)⟩, ⟨(some 36), (some (34, true)), .int2 .eql (T 35) (.const (.int .i64 (0)))⟩, ⟨(some 37), none, .pick (T 34) (T 36) (.const (.bool false))⟩, ⟨(some 38), none, .mov (T 37)⟩, ⟨(some 39), (some (38, true)), .call (.func 23) []⟩, ⟨(some 40), none, .pick (T 38) (T 39) (.const (.bool false))⟩, ⟨(some 4), none, .mov (T 40)⟩]) .ret) .skip))) (.seq (.seq (.draw [⟨.rd, ⟨(some 41), none, .loadN 10 (T 2)⟩⟩, ⟨.free, ⟨(some 42), none, .fieldAddr 0 (T 2)⟩⟩, ⟨.rd1, ⟨(some 43), none, .loadN 7 (T 42)⟩⟩, ⟨.up, ⟨(some 44), none, .call (.func 40) [(T 43)]⟩⟩, ⟨.free, ⟨(some 45), none, .mov (T 1)⟩⟩, ⟨.rd, ⟨(some 46), none, .loadN 10 (T 2)⟩⟩, ⟨.up, ⟨(some 47), none, .call (.func 32) [(T 46)]⟩⟩, ⟨.any, ⟨(some 48), none, .call (.func 39) [(T 41), (T 44), (T 45), (T 47)]⟩⟩, ⟨.free, ⟨(some 8), none, .mov (T 48)⟩⟩]) (.seq (.ops [⟨(some 49), none, .mov (T 8)⟩, ⟨(some 50), none, .int2 .geq (T 49) (.const (.int .i64 (0)))⟩]) (.cond (T 50) (.seq (.ops [⟨(some 51), none, .mov (T 6)⟩, ⟨(some 52), none, .int2 .eql (T 51) (.const (.int .i64 (0)))⟩, ⟨(some 53), none, .mov (T 52)⟩, ⟨(some 54), (some (53, true)), .mov (T 5)⟩, ⟨(some 55), (some (53, true)), .mov (T 8)⟩, ⟨(some 56), (some (53, true)), .int2 .eql (T 54) (T 55)⟩, ⟨(some 57), none, .pick (T 53) (T 56) (.const (.bool false))⟩, ⟨(some 58), none, .mov (T 57)⟩, ⟨(some 59), (some (58, true)), .call (.func 23) []⟩, ⟨(some 60), none, .pick (T 58) (T 59) (.const (.bool false))⟩, ⟨(some 4), none, .mov (T 60)⟩]) .ret) .skip))) (.seq (.ops [⟨(some 61), none, .mov (T 6)⟩, ⟨(some 62), none, .int2 .eql (T 61) (.const (.int .i64 (7)))⟩, ⟨(some 63), none, .mov (T 62)⟩, ⟨(some 64), (some (63, true)), .mov (T 5)⟩, ⟨(some 65), (some (63, true)), .int2 .eql (T 64) (.const (.int .i64 (0)))⟩, ⟨(some 66), none, .pick (T 63) (T 65) (.const (.bool false))⟩, ⟨(some 67), none, .mov (T 66)⟩, ⟨(some 68), (some (67, true)), .call (.func 23) []⟩, ⟨(some 69), none, .pick (T 67) (T 68) (.const (.bool false))⟩, ⟨(some 4), none, .mov (T 69)⟩]) .ret))))))
theorem fok5 : FnOk Tryz.prog 5 70 s5 [.tmp 4] := ⟨Tryz.f5, _, Tryz.func5, rfl, Tryz.ntmps5, by kernel_rfl, by kernel_rfl⟩
set_option maxHeartbeats 2000000 in
theorem lawLate_c (hn : 3000 ≤ n) (hr : h.next + 3000000 < far) (hfl : h.floor ≤ h.next) {wv vv sv kv lv : Value} {G : MG} {m : Nat} {p : Nat → Int} (hy : GangR h wv vv sv kv G) (hp : Ints h lv m p) :
    ∃ v h', call n (.func (.func 5) #[] #[]) [.agg ⟨gaL G wv vv sv kv⟩, lv] h = some (v, h') ∧ v = .bool true := by
  classical
  obtain ⟨n, rfl⟩ : ∃ p, n = p + 1 := ⟨n - 1, by omega⟩
  refine call_any0 fok5 rfl rfl (by simp) ?_
  simp only [s5, W_seq, W_ops]
  refine ops_box (cs := gaL G wv vv sv kv) (by omega) rfl hy.one fun g1 hx1 => ?_
  have n1 := hx1.next
  have f1 := hx1.floor
  have r1 := hx1.row
  have hy1 := hy.mono hx1.sub
  have hp1 : Ints g1 lv m p := Cells.mono hp hx1.sub
  have haw : ∀ g : AHeap, call n (.func (.func 23) #[] #[]) [] g = some (.bool true, g) := fun g => awakeG (by omega)
  have et := thinG_c (n := n) (h := g1) (by omega) (by omega) hy1
  by_cases hT : ThinG G
  case neg =>
    simp only [rn0, rn1, rn2, reduceIte, Nat.reduceEqDiff, Nat.reduceAdd, Nat.reduceMul, Nat.reduceSub, Nat.reduceLeDiff, Nat.reduceLT, r1.whole (n := 10) rfl, et, decide_eq_false hT, haw]
  by_cases c1 : (30 : Int) < (m : Int)
  · simp only [rn0, rn1, rn2, reduceIte, Nat.reduceEqDiff, Nat.reduceAdd, Nat.reduceMul, Nat.reduceSub, Nat.reduceLeDiff, Nat.reduceLT, r1.whole (n := 10) rfl, et, decide_eq_true hT, Cells.len hp1, gt_iff_lt, c1, haw]
  have hm30 : m ≤ 30 := by omega
  obtain ⟨⟨hTs, hl⟩, hmany⟩ := id hT
  obtain ⟨wa, va, sa, ka, g2, e2, hy2, o2, u2, m2, f2⟩ := gangL_c (n := n) (h := g1) (by omega) (by omega) (by omega) hy1 hTs hl
  have s12 : Sub All g1 g2 := AHeap.subOf o2
  have hp2 : Ints g2 lv m p := Cells.mono hp1 s12
  obtain ⟨la, g3, e3, hp3, oa, o3, u3, m3, f3⟩ := listG_c (n := n) (h := g2) (by omega) (by omega) hp2 hm30
  have s23 : Sub All g2 g3 := AHeap.subOf o3
  have e4 := lateG_c (n := n) (h := g3) (by omega) (by omega) (hy2.mono s23) hTs hl hp3 hm30
  have s13 : Sub All g1 g3 := s12.trans s23
  have hy3 := hy1.mono s13
  have r3 := r1.mono s13
  have hp3' : Ints g3 lv m p := Cells.mono hp1 s13
  have e5 := planned_c (n := n) (h := g3) (by omega) (by omega) hy3 hTs hl hp3' hm30 true
  rw [planE_true] at e5
  by_cases he : errPG G m p = 0
  case neg =>
    have q1 : lateN G m p = 0 := if_pos he
    have q2 : lateE G m p = errPG G m p := if_pos he
    simp only [rn0, rn1, rn2, reduceIte, Nat.reduceEqDiff, Nat.reduceAdd, Nat.reduceMul, Nat.reduceSub, Nat.reduceLeDiff, Nat.reduceLT, r1.whole (n := 10) rfl, et, decide_eq_true hT, Cells.len hp1, gt_iff_lt, c1, e2, e3, e4, x_extract, ex0, ex1, r3.whole (n := 10) rfl, e5, he, q1, q2, haw]
  obtain ⟨hG, hP⟩ := errPG_ok he
  obtain ⟨tv, g4, e6, ht, ot, o4, u4, m4, f4⟩ := truthsRef_c (n := n) (h := g3) (by omega) (by omega) (by omega) hy3.s hG.s
  have s34 : Sub All g3 g4 := AHeap.subOf o4
  have hy4 := hy3.mono s34
  have r4 := r3.mono s34
  have hp4 : Ints g4 lv m p := Cells.mono hp3' s34
  have e7 := every_c (n := n) (h := g4) (by omega) (by omega) hy4 hl
  have hpow : 2 ^ G.nk - 1 ≤ 1000 := by
    have hk : G.nk ≤ 4 := hG.sizes.2.2.1
    have : 2 ^ G.nk ≤ 2 ^ 4 := Nat.pow_le_pow_right (by omega) hk
    omega
  have e8 := lateR_c (n := n) (h := g4) (by omega) (by omega) hy4 hG ht ot hp4 hP hpow
  rw [late_same hP] at e8
  simp only [rn0, rn1, rn2, reduceIte, Nat.reduceEqDiff, Nat.reduceAdd, Nat.reduceMul, Nat.reduceSub, Nat.reduceLeDiff, Nat.reduceLT, r1.whole (n := 10) rfl, et, decide_eq_true hT, Cells.len hp1, gt_iff_lt, c1, e2, e3, e4, x_extract, ex0, ex1, r3.whole (n := 10) rfl, e5, he]
  refine W_draw All ?_
  cases hs : latePG G p with
  | none =>
    have q1 : lateN G m p = 0 := by rw [lateN, if_neg (by simpa using he), hs]; rfl
    have q2 : lateE G m p = 7 := by rw [lateE, if_neg (by simpa using he), hs, if_pos rfl]
    rw [hs] at e8
    have q3 : (optI none (-1) : Int) = -1 := rfl
    rw [q3] at e8
    have q4 : ¬ (-1 : Int) ≥ 0 := by decide
    simp only [rn0, rn1, rn2, reduceIte, Nat.reduceEqDiff, Nat.reduceAdd, Nat.reduceMul, Nat.reduceSub, Nat.reduceLeDiff, Nat.reduceLT, r3.whole (n := 10) rfl, ga_st r3, hy3.self, hy3.s.self, e6, r4.whole (n := 10) rfl, e7, e8, q1, q2]
    first | refine ⟨⟨u4, s34⟩, ?_⟩ | refine ⟨u4, ?_⟩ | skip
    simp only [rn0, rn1, rn2, reduceIte, Nat.reduceEqDiff, Nat.reduceAdd, Nat.reduceMul, Nat.reduceSub, Nat.reduceLeDiff, Nat.reduceLT, q1, q2, q4, haw]
    first | exact s34 | done
  | some k =>
    have q1 : lateN G m p = (k : Int) := by rw [lateN, if_neg (by simpa using he), hs]; rfl
    have q2 : lateE G m p = 0 := by rw [lateE, if_neg (by simpa using he), hs, if_neg (fun e => nomatch e)]
    rw [hs] at e8
    have q3 : (optI (some k) (-1) : Int) = (k : Int) := rfl
    rw [q3] at e8
    have q4 : (k : Int) ≥ 0 := by omega
    simp only [rn0, rn1, rn2, reduceIte, Nat.reduceEqDiff, Nat.reduceAdd, Nat.reduceMul, Nat.reduceSub, Nat.reduceLeDiff, Nat.reduceLT, r3.whole (n := 10) rfl, ga_st r3, hy3.self, hy3.s.self, e6, r4.whole (n := 10) rfl, e7, e8, q1, q2]
    first | refine ⟨⟨u4, s34⟩, ?_⟩ | refine ⟨u4, ?_⟩ | skip
    simp only [rn0, rn1, rn2, reduceIte, Nat.reduceEqDiff, Nat.reduceAdd, Nat.reduceMul, Nat.reduceSub, Nat.reduceLeDiff, Nat.reduceLT, q1, q2, q4, haw]
    first | exact s34 | done
end Go.Vm.St
