/- Texts of the proofs of this seat, put together: GgLO, GgV7, GgV8, GgV9, GgLateL, GgV10, GgPlaysL, GgV11, GgBusyL, GgV12, GgEndsL, GgLostL, GgTruthP, GgTruthL. -/
import Derived.Test.YtlkambpieajplaaGreatPt22

namespace Go.Vm.St
open Go.Proofs Go.Vm.Vat
set_option linter.unusedSimpArgs false
set_option linter.unusedVariables false
set_option maxRecDepth 10000
variable {n : Nat} {h : AHeap}
set_option maxHeartbeats 1000000 in
theorem steepLO_c (hn : 100 ≤ n) (hr : h.next + 500 < far) (hfl : h.floor ≤ h.next) {wv vv sv : Value} {S : MS} (hy : SteepR h wv vv sv S) (hT : ThinS S) :
    ∃ wv' vv' sv' h', call n (.func (.func 69) #[] #[]) [.agg ⟨stL S wv vv sv⟩] h = some (.agg ⟨stL S wv' vv' sv'⟩, h') ∧ SteepR h' wv' vv' sv' S ∧ (∀ i, i < h.next → h'.get i = h.get i) ∧ h.next ≤ h'.next ∧ h'.next ≤ h.next + 400 ∧ h'.floor = h.floor ∧ (∀ x k q, wv' = .slice (some x) k q → h.next ≤ x.block) ∧ (∀ x k q, vv' = .slice (some x) k q → h.next ≤ x.block) ∧ (∀ x k q, sv' = .slice (some x) k q → h.next ≤ x.block) := by
  obtain ⟨n, rfl⟩ : ∃ p, n = p + 1 := ⟨n - 1, by omega⟩
  obtain ⟨t1, t2, t3⟩ := hT
  suffices hs : ∃ v h', call (n + 1) (.func (.func 69) #[] #[]) [.agg ⟨stL S wv vv sv⟩] h = some (v, h') ∧ ∃ wv' vv' sv', v = .agg ⟨stL S wv' vv' sv'⟩ ∧ SteepR h' wv' vv' sv' S ∧ (∀ i, i < h.next → h'.get i = h.get i) ∧ h.next ≤ h'.next ∧ h'.next ≤ h.next + 400 ∧ h'.floor = h.floor ∧ (∀ x k q, wv' = .slice (some x) k q → h.next ≤ x.block) ∧ (∀ x k q, vv' = .slice (some x) k q → h.next ≤ x.block) ∧ (∀ x k q, sv' = .slice (some x) k q → h.next ≤ x.block) by
    obtain ⟨v, h', e, a, b, c, rfl, q⟩ := hs
    exact ⟨a, b, c, h', e, q⟩
  refine call_any0 fok69 rfl rfl (by simp) ?_
  simp only [s69, jO, jF, jR, jS, jU, jA, jK, W_seq, W_ops]
  refine ops_box (cs := stL S wv vv sv) (by omega) rfl hy.one fun g1 hx1 => ?_
  have n1 := hx1.next
  have f1' := hx1.floor
  refine ops_alloc (cs := stV (.int .i64 0) (.int .i64 0) nilS (.int .i64 0) (.int .i64 0) nilS nilS) (by omega) rfl fun g2 hx2 => ?_
  have n2 := hx2.next
  have f2' := hx2.floor
  have r1 := hx1.row.mono hx2.sub
  have old2 : ∀ i, i < h.next → g2.get i = h.get i := fun i hi => by rw [hx2.old i (by omega), hx1.old i hi]
  have et := to_c (n := n) (h := g2) (by omega) (by omega) S.splo S.sphi
  simp only [rn0, reduceIte, Nat.reduceEqDiff, Nat.reduceAdd, Nat.reduceMul, Nat.reduceSub, Nat.reduceLeDiff, Nat.reduceLT]
  refine W_draw All ?_
  simp only [rn0, reduceIte, Nat.reduceEqDiff, Nat.reduceAdd, Nat.reduceMul, Nat.reduceSub, Nat.reduceLeDiff, Nat.reduceLT, r1.ld, stg, st_rng r1, Nat.zero_add, eqV_int, et, build_stI]
  refine up_row (cs := stV (.int .i64 0) (.int .i64 0) nilS (.int .i64 0) (.int .i64 0) nilS nilS) (by omega) rfl rfl (fun g3 hx => hx.sub) fun g3 hx3 => ?_
  have n3 := hx3.next
  have f3' := hx3.floor
  simp only [rn0, reduceIte, Nat.reduceEqDiff, Nat.reduceAdd, Nat.reduceMul, Nat.reduceSub, Nat.reduceLeDiff, Nat.reduceLT]
  refine up_store (b := g2.next) (off := 0) (vs := stV (.int .i64 S.last) (.int .i64 S.per) nilS (.int .i64 S.splo) (.int .i64 S.sphi) nilS nilS) rfl hx3.get (by omega) (by omega) rfl rfl rfl (by simp) (fun _ _ => trivial) fun g4 hs4 => ?_
  rw [splice_all (by rfl)] at hs4
  have n4 := hs4.next
  have f4' := hs4.floor
  have old4 : ∀ i, i < g2.next → g4.get i = g2.get i := fun i hi => by rw [hs4.old i (by omega), hx3.old i hi]
  have hm1 : g4.get g1.next = g2.get g1.next := old4 _ (by omega)
  simp only [rn0, reduceIte, Nat.reduceEqDiff, Nat.reduceAdd, Nat.reduceMul, Nat.reduceSub, Nat.reduceLeDiff, Nat.reduceLT]
  -- the warmth of the hours
  refine W_loop S.nw (fun k f g ms => (∃ v, (∀ i, i < g2.next → g.get i = g4.get i) ∧ g.floor = h.floor ∧ g4.next ≤ g.next ∧ g.next ≤ g4.next + 3 * k ∧ GrowC g4.next g v 2 k (fun k j => .int .i64 (if j = 0 then S.wlo k else S.whi k)) ∧ g.get g2.next = some (.row (stV (.int .i64 S.last) (.int .i64 S.per) v (.int .i64 S.splo) (.int .i64 S.sphi) nilS nilS) true 0)) ∧ ms = [] ∧ f 1 = .pointer (some ⟨h.next, 0, none⟩) ∧ f 2 = .pointer (some ⟨g1.next, 0, none⟩) ∧ f 3 = .pointer (some ⟨g2.next, 0, none⟩) ∧ f 4 = .int .i64 (k : Int)) (by simp; omega) ?_ ?_ ?_
  · simp only [rn0, reduceIte, Nat.reduceEqDiff, Nat.reduceAdd, Nat.reduceMul, Nat.reduceSub, Nat.reduceLeDiff, Nat.reduceLT]
    exact ⟨⟨nilS, fun i _ => trivial, by omega, by omega, .nil, hs4.get⟩, rfl⟩
  · rintro k f g ms hk ⟨⟨v, hs, hfg, hup, hnx, gv, grow⟩, rfl, p1, p2, p3, p4⟩
    have hk' : (k : Int) < (S.nw : Int) := by omega
    have hw : wrapF .i64 ((k : Int) + 1) = ((k + 1 : Nat) : Int) := by rw [wrap_in (by omega) (by omega)]; rfl
    have oldg : ∀ i, i < h.next → g.get i = h.get i := fun i hi => by rw [hs i (by omega), old4 i (by omega), old2 i hi]
    have hyg := hy.mono (AHeap.subOf oldg)
    have rg : Row g h.next (stL S wv vv sv) := r1.mono fun i cs w gr _ e => by rw [hs i (by have := AHeap.lt_of_get e; omega), old4 i (AHeap.lt_of_get e)]; exact e
    have r3g : Row g g2.next _ := ⟨_, _, grow⟩
    have et := to_c (n := n) (h := g) (by omega) (by omega) (S.wlo k) (S.whi k)
    simp only [rn0, reduceIte, Nat.reduceEqDiff, Nat.reduceAdd, Nat.reduceMul, Nat.reduceSub, Nat.reduceLeDiff, Nat.reduceLT, p1, p2, p3, p4, rg.ld, stg, Nat.zero_add, Cells.len hyg.w, hk']
    refine W_draw All ?_
    simp only [rn0, reduceIte, Nat.reduceEqDiff, Nat.reduceAdd, Nat.reduceMul, Nat.reduceSub, Nat.reduceLeDiff, Nat.reduceLT, p1, p2, p3, p4, rg.ld, r3g.ld, stg, Nat.zero_add, List.getElem?_cons_zero, List.getElem?_cons_succ, gv.cells.self, Cells.idx hyg.w hk, ranges_ld hyg.w hk, et, sl_range]
    refine up_slice (by omega) rfl (fun g5 hx => hx.sub) fun g5 hx5 => ?_
    have n5 := hx5.next
    obtain ⟨v', g6, e6, gv6, o6, n6, f6, old6, u6⟩ := grow_push (h := g) (bytes := 16) gv (by omega) (by omega) (by omega) hx5 rfl rfl (fun j hj => by
      obtain rfl | rfl : j = 0 ∨ j = 1 := by omega
      all_goals rfl) (by simp [maxBytes]; omega) (by simp [maxBytes]; omega)
    simp only [rn0, reduceIte, Nat.reduceEqDiff, Nat.reduceAdd, Nat.reduceMul, Nat.reduceSub, Nat.reduceLeDiff, Nat.reduceLT, p1, p2, p3, p4, e6]
    refine ⟨by omega, ?_⟩
    refine up_store (b := g2.next) (off := 2) (vs := [v']) rfl (by rw [old6 _ (by omega)]; exact grow) (by omega) (by omega) (cells1 o6) (by simp [allB, o6]) rfl (by simp) (fun _ _ => trivial) fun g7 hs7 => ?_
    rw [sp2] at hs7
    have n7 := hs7.next
    have f7 := hs7.floor
    simp only [rn0, reduceIte, Nat.reduceEqDiff, Nat.reduceAdd, Nat.reduceMul, Nat.reduceSub, Nat.reduceLeDiff, Nat.reduceLT, p1, p2, p3, p4, hw]
    exact ⟨v', fun i hi => by rw [hs7.old i (by omega), old6 i (by omega), hs i hi], by omega, by omega, by omega, gv6.keep hs7.keep (by omega), hs7.get⟩
  rintro f g ms ⟨⟨w', hs, hfg, hup, hnx, gvw, grow⟩, rfl, p1, p2, p3, p4⟩
  have oldg : ∀ i, i < h.next → g.get i = h.get i := fun i hi => by rw [hs i (by omega), old4 i (by omega), old2 i hi]
  have hyg := hy.mono (AHeap.subOf oldg)
  have rg : Row g h.next (stL S wv vv sv) := r1.mono fun i cs w gr _ e => by rw [hs i (by have := AHeap.lt_of_get e; omega), old4 i (AHeap.lt_of_get e)]; exact e
  have hm2 : g.get g1.next = g2.get g1.next := by rw [hs _ (by omega), hm1]
  have bw : ∀ x k q, w' = .slice (some x) k q → x.block < g.next := fun x k q e => (gvw.block e).2
  have bw2 : ∀ x k q, w' = .slice (some x) k q → g2.next ≠ x.block := fun x k q e => by have := (gvw.block e).1; omega
  have bwl : ∀ x k q, w' = .slice (some x) k q → g4.next ≤ x.block := fun x k q e => (gvw.block e).1
  have cw := gvw.cells
  have ow := gvw.one
  clear gvw hs
  have e4 : g2.next < g.next := by omega
  simp only [rn0, reduceIte, Nat.reduceEqDiff, Nat.reduceAdd, Nat.reduceMul, Nat.reduceSub, Nat.reduceLeDiff, Nat.reduceLT, p1, p2, p3, p4, rg.ld, stg, Nat.zero_add, Cells.len hyg.w, Int.lt_irrefl]
  -- the vats
  refine W_loop S.nv (fun k f g' ms => (∃ v, (∀ i, i < g.next → i ≠ g2.next → g'.get i = g.get i) ∧ g'.floor = h.floor ∧ g.next ≤ g'.next ∧ g'.next ≤ g.next + 3 * k ∧ GrowC g.next g' v 4 k (vatC S) ∧ g'.get g2.next = some (.row (stV (.int .i64 S.last) (.int .i64 S.per) w' (.int .i64 S.splo) (.int .i64 S.sphi) v nilS) true 0)) ∧ ms = [] ∧ f 1 = .pointer (some ⟨h.next, 0, none⟩) ∧ f 2 = .pointer (some ⟨g1.next, 0, none⟩) ∧ f 3 = .pointer (some ⟨g2.next, 0, none⟩) ∧ f 5 = .int .i64 (k : Int)) (by simp; omega) ?_ ?_ ?_
  · simp only [rn0, reduceIte, Nat.reduceEqDiff, Nat.reduceAdd, Nat.reduceMul, Nat.reduceSub, Nat.reduceLeDiff, Nat.reduceLT, p1, p2, p3]
    exact ⟨⟨nilS, fun i _ _ => trivial, hfg, by omega, .nil, grow⟩, rfl⟩
  · rintro k f g' ms hk ⟨⟨v, hs, hfg', hup', hnx', gv, grow'⟩, rfl, p1, p2, p3, p5⟩
    have hk' : (k : Int) < (S.nv : Int) := by omega
    have hw : wrapF .i64 ((k : Int) + 1) = ((k + 1 : Nat) : Int) := by rw [wrap_in (by omega) (by omega)]; rfl
    have oldg' : ∀ i, i < h.next → g'.get i = h.get i := fun i hi => by rw [hs i (by omega) (by omega), oldg i hi]
    have hyg' := hy.mono (AHeap.subOf oldg')
    have rg' : Row g' h.next (stL S wv vv sv) := by obtain ⟨w, gr, e⟩ := rg; exact ⟨w, gr, by rw [hs _ (by omega) (by omega)]; exact e⟩
    have r3g : Row g' g2.next _ := ⟨_, _, grow'⟩
    simp only [rn0, reduceIte, Nat.reduceEqDiff, Nat.reduceAdd, Nat.reduceMul, Nat.reduceSub, Nat.reduceLeDiff, Nat.reduceLT, p1, p2, p3, p5, rg'.ld, stg, Nat.zero_add, Cells.len hyg'.v, hk', Cells.idx hyg'.v hk, vat_ld hyg' hk]
    refine step_new (vs := [.int .i64 (S.vb k), .int .i64 (S.vlo k), .int .i64 (S.vhi k), .int .i64 (S.vn k)]) (by omega) (by omega) rfl (by simp only [rn0, reduceIte, Nat.reduceEqDiff, Nat.reduceAdd, Nat.reduceMul, Nat.reduceSub, Nat.reduceLeDiff, Nat.reduceLT]; rfl) rfl rfl rfl fun g5 hx5 => ?_
    have n5 := hx5.next
    have f5 := hx5.floor
    have r35 := r3g.mono hx5.sub
    have gv5 := gv.sub hx5.sub
    have et := to_c (n := n) (h := g5) (by omega) (by omega) (S.vlo k) (S.vhi k)
    simp only [rn0, reduceIte, Nat.reduceEqDiff, Nat.reduceAdd, Nat.reduceMul, Nat.reduceSub, Nat.reduceLeDiff, Nat.reduceLT]
    refine W_draw All ?_
    simp only [rn0, reduceIte, Nat.reduceEqDiff, Nat.reduceAdd, Nat.reduceMul, Nat.reduceSub, Nat.reduceLeDiff, Nat.reduceLT, p1, p2, p3, p5, r35.ld, hx5.ld, hx5.ldN 1 2 (by simp) (by simp), List.drop_succ_cons, List.drop_zero, List.take_succ_cons, List.take_zero, Nat.zero_add, List.getElem?_cons_zero, List.getElem?_cons_succ, eqV_int, gv5.cells.self, et, build_va, sl_va]
    refine up_slice (by omega) rfl (fun g6 hx => hx.sub) fun g6 hx6 => ?_
    have n6 := hx6.next
    obtain ⟨v', g7, e7, gv7, o7, n7, f7, old7, u7⟩ := grow_push (h := g5) (bytes := 32) gv5 (by omega) (by omega) (by omega) hx6 rfl rfl (fun j hj => by
      obtain rfl | rfl | rfl | rfl : j = 0 ∨ j = 1 ∨ j = 2 ∨ j = 3 := by omega
      all_goals rfl) (by simp [maxBytes]; omega) (by simp [maxBytes]; omega)
    simp only [rn0, reduceIte, Nat.reduceEqDiff, Nat.reduceAdd, Nat.reduceMul, Nat.reduceSub, Nat.reduceLeDiff, Nat.reduceLT, p1, p2, p3, e7]
    refine ⟨by omega, ?_⟩
    refine up_store (b := g2.next) (off := 5) (vs := [v']) rfl (by rw [old7 _ (by omega), hx5.old _ (by omega)]; exact grow') (by omega) (by omega) (cells1 o7) (by simp [allB, o7]) rfl (by simp) (fun _ _ => trivial) fun g8 hs8 => ?_
    rw [sp5] at hs8
    have n8 := hs8.next
    have f8 := hs8.floor
    simp only [rn0, reduceIte, Nat.reduceEqDiff, Nat.reduceAdd, Nat.reduceMul, Nat.reduceSub, Nat.reduceLeDiff, Nat.reduceLT, p1, p2, p3, p5, hw]
    exact ⟨v', fun i hi hne => by rw [hs8.old i hne, old7 i hi, hx5.old i (by omega), hs i hi hne], by omega, by omega, by omega, gv7.keep hs8.keep (by omega), hs8.get⟩
  rintro f ga ms ⟨⟨v', hsa, hfa, hupa, hnxa, gva, growa⟩, rfl, p1, p2, p3, p5⟩
  have olda : ∀ i, i < h.next → ga.get i = h.get i := fun i hi => by rw [hsa i (by omega) (by omega), oldg i hi]
  have hya := hy.mono (AHeap.subOf olda)
  have rga : Row ga h.next (stL S wv vv sv) := by obtain ⟨w, gr, e⟩ := rg; exact ⟨w, gr, by rw [hsa _ (by omega) (by omega)]; exact e⟩
  have hm3 : ga.get g1.next = g2.get g1.next := by rw [hsa _ (by omega) (by omega), hm2]
  have cwa : Ranges ga w' S.nw S.wlo S.whi := by
    obtain ⟨a, cap, rfl, hsp, h0 | ⟨b, o, cs, w, gr, rfl, h1, h2⟩⟩ := cw
    · exact ⟨a, cap, rfl, hsp, .inl h0⟩
    · exact ⟨_, cap, rfl, hsp, .inr ⟨b, o, cs, w, gr, rfl, by rw [hsa b (bw _ _ _ rfl) (fun e => bw2 _ _ _ rfl e.symm)]; exact h1, h2⟩⟩
  have bv : ∀ x k q, v' = .slice (some x) k q → x.block < ga.next := fun x k q e => (gva.block e).2
  have bv2 : ∀ x k q, v' = .slice (some x) k q → g2.next ≠ x.block := fun x k q e => by have := (gva.block e).1; omega
  have bvl : ∀ x k q, v' = .slice (some x) k q → g.next ≤ x.block := fun x k q e => (gva.block e).1
  have cv := gva.cells
  have ov := gva.one
  clear gva hsa cw
  have e5 : g2.next < ga.next := by omega
  simp only [rn0, reduceIte, Nat.reduceEqDiff, Nat.reduceAdd, Nat.reduceMul, Nat.reduceSub, Nat.reduceLeDiff, Nat.reduceLT, p1, p2, p3, p5, rga.ld, stg, Nat.zero_add, Cells.len hya.v, Int.lt_irrefl]
  -- the smells
  refine W_loop S.ns (fun k f g' ms => (∃ v, (∀ i, i < ga.next → i ≠ g2.next → g'.get i = ga.get i) ∧ g'.floor = h.floor ∧ ga.next ≤ g'.next ∧ g'.next ≤ ga.next + 3 * k ∧ GrowC ga.next g' v 3 k (fun k j => .int .i64 (if j = 0 then S.sv k else if j = 1 then S.sh k else S.sk k)) ∧ g'.get g2.next = some (.row (stV (.int .i64 S.last) (.int .i64 S.per) w' (.int .i64 S.splo) (.int .i64 S.sphi) v' v) true 0)) ∧ ms = [] ∧ f 1 = .pointer (some ⟨h.next, 0, none⟩) ∧ f 2 = .pointer (some ⟨g1.next, 0, none⟩) ∧ f 3 = .pointer (some ⟨g2.next, 0, none⟩) ∧ f 7 = .int .i64 (k : Int)) (by simp; omega) ?_ ?_ ?_
  · simp only [rn0, reduceIte, Nat.reduceEqDiff, Nat.reduceAdd, Nat.reduceMul, Nat.reduceSub, Nat.reduceLeDiff, Nat.reduceLT, p1, p2, p3]
    exact ⟨⟨nilS, fun i _ _ => trivial, hfa, by omega, .nil, growa⟩, rfl⟩
  · rintro k f g' ms hk ⟨⟨v, hs, hfg', hup', hnx', gv, grow'⟩, rfl, p1, p2, p3, p7⟩
    have hk' : (k : Int) < (S.ns : Int) := by omega
    have hw : wrapF .i64 ((k : Int) + 1) = ((k + 1 : Nat) : Int) := by rw [wrap_in (by omega) (by omega)]; rfl
    have oldg' : ∀ i, i < h.next → g'.get i = h.get i := fun i hi => by rw [hs i (by omega) (by omega), olda i hi]
    have hyg' := hy.mono (AHeap.subOf oldg')
    have rg' : Row g' h.next (stL S wv vv sv) := by obtain ⟨w, gr, e⟩ := rga; exact ⟨w, gr, by rw [hs _ (by omega) (by omega)]; exact e⟩
    have r3g : Row g' g2.next _ := ⟨_, _, grow'⟩
    simp only [rn0, reduceIte, Nat.reduceEqDiff, Nat.reduceAdd, Nat.reduceMul, Nat.reduceSub, Nat.reduceLeDiff, Nat.reduceLT, p1, p2, p3, p7, rg'.ld, stg, Nat.zero_add, Cells.len hyg'.s, hk', Cells.idx hyg'.s hk, samps_ld hyg'.s hk]
    refine step_new (vs := [.int .i64 (S.sv k), .int .i64 (S.sh k), .int .i64 (S.sk k)]) (by omega) (by omega) rfl (by simp only [rn0, reduceIte, Nat.reduceEqDiff, Nat.reduceAdd, Nat.reduceMul, Nat.reduceSub, Nat.reduceLeDiff, Nat.reduceLT]; rfl) rfl rfl rfl fun g5 hx5 => ?_
    have n5 := hx5.next
    have f5 := hx5.floor
    have r35 := r3g.mono hx5.sub
    have gv5 := gv.sub hx5.sub
    simp only [rn0, reduceIte, Nat.reduceEqDiff, Nat.reduceAdd, Nat.reduceMul, Nat.reduceSub, Nat.reduceLeDiff, Nat.reduceLT, p1, p2, p3, p7, r35.ld, hx5.ld, Nat.zero_add, List.getElem?_cons_zero, List.getElem?_cons_succ, build_sm, sl_samp]
    refine step_slice (by omega) rfl fun g6 hx6 => ?_
    have n6 := hx6.next
    obtain ⟨v'', g7, e7, gv7, o7, n7, f7, old7, u7⟩ := grow_push (h := g5) (bytes := 24) gv5 (by omega) (by omega) (by omega) hx6 rfl rfl (fun j hj => by
      obtain rfl | rfl | rfl : j = 0 ∨ j = 1 ∨ j = 2 := by omega
      all_goals rfl) (by simp [maxBytes]; omega) (by simp [maxBytes]; omega)
    simp only [rn0, reduceIte, Nat.reduceEqDiff, Nat.reduceAdd, Nat.reduceMul, Nat.reduceSub, Nat.reduceLeDiff, Nat.reduceLT, p1, p2, p3, e7]
    refine step_store (b := g2.next) (off := 6) (vs := [v'']) rfl (by rw [old7 _ (by omega), hx5.old _ (by omega)]; exact grow') (by omega) (by omega) (cells1 o7) (by simp [allB, o7]) rfl (by simp) fun g8 hs8 => ?_
    rw [sp6] at hs8
    have n8 := hs8.next
    have f8 := hs8.floor
    simp only [rn0, reduceIte, Nat.reduceEqDiff, Nat.reduceAdd, Nat.reduceMul, Nat.reduceSub, Nat.reduceLeDiff, Nat.reduceLT, p1, p2, p3, p7, hw]
    exact ⟨v'', fun i hi hne => by rw [hs8.old i hne, old7 i hi, hx5.old i (by omega), hs i hi hne], by omega, by omega, by omega, gv7.keep hs8.keep (by omega), hs8.get⟩
  rintro f gb ms ⟨⟨s', hsb, hfb, hupb, hnxb, gvb, growb⟩, rfl, p1, p2, p3, p7⟩
  have oldb : ∀ i, i < h.next → gb.get i = h.get i := fun i hi => by rw [hsb i (by omega) (by omega), olda i hi]
  have hyb := hy.mono (AHeap.subOf oldb)
  have rgb : Row gb h.next (stL S wv vv sv) := by obtain ⟨w, gr, e⟩ := rga; exact ⟨w, gr, by rw [hsb _ (by omega) (by omega)]; exact e⟩
  have hm4 : gb.get g1.next = some (.row (stV (.int .i64 0) (.int .i64 0) nilS (.int .i64 0) (.int .i64 0) nilS nilS) true 0) := by rw [hsb _ (by omega) (by omega), hm3]; exact hx2.get
  have rr : Row gb g2.next _ := ⟨_, _, growb⟩
  have hone : allB oneCell (stL S w' v' s') = true := by simp [stL, allB, one_int, ow, ov, gvb.one]
  simp only [rn0, reduceIte, Nat.reduceEqDiff, Nat.reduceAdd, Nat.reduceMul, Nat.reduceSub, Nat.reduceLeDiff, Nat.reduceLT, p1, p2, p3, p7, rgb.ld, stg, Nat.zero_add, Cells.len hyb.s, Int.lt_irrefl, rr.whole (n := 7) rfl]
  refine step_store (b := g1.next) (off := 0) (vs := stL S w' v' s') rfl hm4 (by omega) (by omega) rfl hone rfl (by simp) fun gc hsc => ?_
  rw [splice_all (by rfl)] at hsc
  have nc := hsc.next
  have fc := hsc.floor
  simp only [rn0, reduceIte, Nat.reduceEqDiff, Nat.reduceAdd, Nat.reduceMul, Nat.reduceSub, Nat.reduceLeDiff, Nat.reduceLT, p2, res_cellN, hsc.row.whole (n := 7) rfl]
  have sep : ∀ {v : Value} {s m : Nat} {c : Nat → Nat → Value}, Cells gb v s m c → (∀ x k q, v = .slice (some x) k q → g1.next < x.block) → Cells gc v s m c := fun {v s m c} hc hb => by
    obtain ⟨a, cap, rfl, hsp, h0 | ⟨b, o, cs, w, gr, rfl, h1, h2⟩⟩ := hc
    · exact ⟨a, cap, rfl, hsp, .inl h0⟩
    · have := hb _ _ _ rfl
      have : b ≠ g1.next := by have : g1.next < b := this; omega
      exact ⟨_, cap, rfl, hsp, .inr ⟨b, o, cs, w, gr, rfl, by rw [hsc.old b this]; exact h1, h2⟩⟩
  refine ⟨w', v', s', rfl, ⟨?_, ?_, ?_⟩, fun i hi => by rw [hsc.old i (by omega), oldb i hi], by omega, by omega, by omega, fun x k q e => by have := bwl x k q e; omega, fun x k q e => by have := bvl x k q e; omega, fun x k q e => by have := (gvb.block e).1; omega⟩
  · have q : Ranges gb w' S.nw S.wlo S.whi := by
      obtain ⟨a, cap, rfl, hsp, h0 | ⟨b, o, cs, w, gr, rfl, h1, h2⟩⟩ := cwa
      · exact ⟨a, cap, rfl, hsp, .inl h0⟩
      · have hb := bw _ _ _ rfl
        have hb2 := bw2 _ _ _ rfl
        exact ⟨_, cap, rfl, hsp, .inr ⟨b, o, cs, w, gr, rfl, by rw [hsb b (Nat.lt_of_lt_of_le hb hupa) fun e => hb2 e.symm]; exact h1, h2⟩⟩
    exact sep q fun x k q e => by have := bwl x k q e; omega
  · have q : Cells gb v' 4 S.nv (vatC S) := by
      obtain ⟨a, cap, rfl, hsp, h0 | ⟨b, o, cs, w, gr, rfl, h1, h2⟩⟩ := cv
      · exact ⟨a, cap, rfl, hsp, .inl h0⟩
      · have hb := bv _ _ _ rfl
        have hb2 := bv2 _ _ _ rfl
        exact ⟨_, cap, rfl, hsp, .inr ⟨b, o, cs, w, gr, rfl, by rw [hsb b hb fun e => hb2 e.symm]; exact h1, h2⟩⟩
    exact sep q fun x k q e => by have := bvl x k q e; omega
  · exact sep gvb.cells fun x k q e => by have := (gvb.block e).1; omega

def doneM (G : MG) (vt : Nat → Nat) (hh : Nat → Int) : Nat → Int
  | 0 => 0
  | k + 1 => max (doneM G vt hh k) (hh k + G.khi (vt k))
theorem doneM_bound {G : MG} (hG : GoodG G) {m : Nat} {vt : Nat → Nat} {hh : Nat → Int} (hm : MomOk G m vt hh) : ∀ k, k ≤ m → 0 ≤ doneM G vt hh k ∧ doneM G vt hh k ≤ 9
  | 0, _ => by simp [doneM]
  | k + 1, hk => by
    have h1 := doneM_bound hG hm k (by omega)
    have h2 := hm.2 k (by omega)
    have h3 := (hG.works (vt k) h2.1).2
    rw [doneM]; omega
theorem doneM_id {G : MG} {p : Nat → Int} : ∀ k, doneM G (fun k => k) p k = doneS G p k
  | 0 => rfl
  | k + 1 => by rw [doneM, doneS, doneM_id k]
def s94 : SCode := (.seq (.ops [jO 2 (.box (T 0)), jO 4 (.mov (jK 0))]) (.seq (.ops [jO 5 (.mov (jK 0))]) (.seq (.seq (.ops [jO 8 (.mov (T 1)), jO 9 (.len (T 8)), jO 10 (.mov (jK 0))]) (.block 0 (.loop (.seq (.ops [jO 11 (.int2 .lss (T 10) (T 9))]) (.seq (.cond (T 11) .skip (.exit 0)) (.seq (.block 1 (.seq (.ops [jO 12 (.idxSl 2 (T 8) (T 10)), jO 13 (.loadN 2 (T 12)), jO 7 (.alloc [(.int .i64 0), (.int .i64 0)]), ⟨none, none, .store 2 (T 7) (T 13)⟩]) (.draw [jF 14 (.mov (T 5)), jF 15 (.fieldAddr 1 (T 7)), jS 16 (.load1 (T 15)), jF 17 (.fieldAddr 0 (T 2)), jF 18 (.fieldAddr 9 (T 17)), jS 19 (.load1 (T 18)), jF 20 (.fieldAddr 0 (T 7)), jS 21 (.load1 (T 20)), jF 22 (.idxSl 3 (T 19) (T 21)), jF 23 (.fieldAddr 1 (T 22)), jF 24 (.fieldAddr 1 (T 23)), jS 25 (.load1 (T 24)), jF 26 (.int2 .add (T 16) (T 25)), jF 27 (.plain (.call { callee := .builtin .max, args := #[(T 14), (T 26)], argTypes := #[3, 3] }) 3), jF 5 (.mov (T 27))]))) (.ops [jO 28 (.int2 .add (T 10) (jK 1)), jO 10 (.mov (T 28))]))))))) (.seq (.ops [jO 29 (.mov (T 5)), jO 4 (.mov (T 29))]) .ret))))
theorem fok94 : FnOk Tryz.prog 94 30 s94 [.tmp 4] := ⟨Tryz.f94, _, Tryz.func94, rfl, Tryz.ntmps94, by kernel_rfl, by kernel_rfl⟩
set_option maxHeartbeats 1000000 in
theorem doneW_c (hn : 60 ≤ n) (hr : h.next + 60 < far) {wv vv sv kv mv pv : Value} {G : MG} {m : Nat} {vt : Nat → Nat} {hh : Nat → Int} (hy : GangR h wv vv sv kv G) (hG : GoodG G) (hmv : oneCell mv = true) (hp : Ranges h pv m (fun k => (vt k : Int)) hh) (hm : MomOk G m vt hh) :
    call n (.func (.func 94) #[] #[]) [.agg ⟨crL G wv vv sv kv mv⟩, pv] h = some (.int .i64 (doneM G vt hh m), h) := by
  obtain ⟨n, rfl⟩ : ∃ p, n = p + 1 := ⟨n - 1, by omega⟩
  refine call_plain0 fok94 rfl rfl (by simp) rfl ?_
  have hy := hy.shut
  have hp := Cells.shut hp
  have hr : h.shutAll.next + 60 < far := hr
  have hfl : h.shutAll.floor ≤ h.shutAll.next := Nat.le_refl _
  generalize h.shutAll = h at hy hp hr hfl
  obtain ⟨z0, z1, z4, z5, _⟩ := hG.sizes
  have hm' := hm
  obtain ⟨hm4, hmo⟩ := hm
  simp only [s94, jO, jF, jR, jS, jU, jA, jK, W_seq, W_ops]
  refine ops_box (cs := crL G wv vv sv kv mv) (by omega) rfl (cr_one hy hmv) fun g1 hx1 => ?_
  have n1 := hx1.next
  have f1 := hx1.floor
  have r1 := hx1.row
  have hy1 := hy.mono hx1.sub
  have hp1 : Ranges g1 pv m (fun k => (vt k : Int)) hh := Cells.mono hp hx1.sub
  simp only [rn0, reduceIte, Nat.reduceEqDiff, Nat.reduceAdd, Nat.reduceMul, Nat.reduceSub, Nat.reduceLeDiff, Nat.reduceLT, Cells.len hp1]
  refine W_loop m (fun k f g ms => (Sub All g1 g ∧ g1.next ≤ g.next ∧ g.next ≤ g1.next + k ∧ g.floor = g1.floor) ∧ ms = [] ∧ f 2 = .pointer (some ⟨h.next, 0, none⟩) ∧ f 5 = .int .i64 (doneM G vt hh k) ∧ f 8 = pv ∧ f 9 = .int .i64 (m : Int) ∧ f 10 = .int .i64 (k : Int)) (by simp; omega) ?_ ?_ ?_
  · simp only [rn0, reduceIte, Nat.reduceEqDiff, Nat.reduceAdd, Nat.reduceMul, Nat.reduceSub, Nat.reduceLeDiff, Nat.reduceLT, Int.natCast_zero, doneM]
    first | exact ⟨⟨Sub.refl, Nat.le_refl _, Nat.le_refl _, rfl⟩, rfl⟩ | exact ⟨Sub.refl, Nat.le_refl _, Nat.le_refl _⟩ | exact Nat.le_refl _ | trivial
  · rintro k f g ms hk ⟨⟨sg, ug, ng, fg⟩, rfl, p2, p5, p8, p9, p10⟩
    have hk' : (k : Int) < (m : Int) := by omega
    have hwk : wrapF .i64 ((k : Int) + 1) = ((k + 1 : Nat) : Int) := by rw [wrap_in (by omega) (by omega)]; rfl
    have hpg : Ranges g pv m (fun k => (vt k : Int)) hh := Cells.mono hp1 sg
    obtain ⟨v1, v2, v3⟩ := hmo k hk
    have hkh := (hG.works _ v1).2
    have hb := doneM_bound hG hm' k (by omega)
    simp only [rn0, reduceIte, Nat.reduceEqDiff, Nat.reduceAdd, Nat.reduceMul, Nat.reduceSub, Nat.reduceLeDiff, Nat.reduceLT, p2, p5, p8, p9, p10, hk', Cells.idx hpg hk, ranges_ld hpg hk]
    refine step_new (vs := [.int .i64 (vt k : Int), .int .i64 (hh k)]) (by omega) (by omega) rfl (by simp only [rn0, reduceIte, Nat.reduceEqDiff, Nat.reduceAdd, Nat.reduceMul, Nat.reduceSub, Nat.reduceLeDiff, Nat.reduceLT]; rfl) rfl rfl rfl fun g4 hx4 => ?_
    have n4 := hx4.next
    have f4 := hx4.floor
    have r4 := hx4.row
    have hy4 := hy1.mono (sg.trans hx4.sub)
    have rg4 := r1.mono (sg.trans hx4.sub)
    have hw : wrapF .i64 (hh k + G.khi (vt k)) = hh k + G.khi (vt k) := wrap_in (by omega) (by omega)
    simp only [rn0, reduceIte, Nat.reduceEqDiff, Nat.reduceAdd, Nat.reduceMul, Nat.reduceSub, Nat.reduceLeDiff, Nat.reduceLT, p2, p5, p8, p9, p10]
    refine W_draw All ?_
    simp only [rn0, reduceIte, Nat.reduceEqDiff, Nat.reduceAdd, Nat.reduceMul, Nat.reduceSub, Nat.reduceLeDiff, Nat.reduceLT, p2, p5, p8, p9, p10, r4.ld, rg4.ld, crg, Nat.zero_add, List.getElem?_cons_zero, List.getElem?_cons_succ, Cells.self hy4.k, Cells.idx hy4.k v1, Cells.fld hy4.k v1, hi_ld hy4 v1, eqV_int, hw, valN_tmp, valN_const, hwk, doneM]
    have fin := And.intro (sg.trans hx4.sub) (And.intro (by omega : g1.next ≤ g4.next) (And.intro (by omega : g4.next ≤ g1.next + (k + 1)) (by omega : g4.floor = g1.floor)))
    first | exact fin | exact ⟨fin, rfl⟩
  · rintro f g ms ⟨⟨sg, ug, ng, fg⟩, rfl, p2, p5, p8, p9, p10⟩
    simp only [rn0, reduceIte, Nat.reduceEqDiff, Nat.reduceAdd, Nat.reduceMul, Nat.reduceSub, Nat.reduceLeDiff, Nat.reduceLT, p5, p8, p9, p10, Int.lt_irrefl]
def s26 : SCode := (.seq (.ops [jO 2 (.mov (.const (.slice none 0 0)))]) (.seq (.ops [jO 3 (.mov (T 0)), jO 4 (.append 1 8 (.const (.slice none 0 0)) (T 3)), jO 2 (.mov (T 4))]) .ret))
theorem fok26 : FnOk Tryz.prog 26 5 s26 [.tmp 2] := ⟨Tryz.f26, _, Tryz.func26, rfl, Tryz.ntmps26, by kernel_rfl, by kernel_rfl⟩
theorem listG_c (hn : 1 ≤ n) (hr : h.next + 2 < far) {v : Value} {m : Nat} {a : Nat → Int} (hi : Ints h v m a) (hm : m ≤ 30) :
    ∃ v' h', call n (.func (.func 26) #[] #[]) [v] h = some (v', h') ∧ Ints h' v' m a ∧ oneCell v' = true ∧ (∀ i, i < h.next → h'.get i = h.get i) ∧ h.next ≤ h'.next ∧ h'.next ≤ h.next + 1 ∧ h'.floor = h.floor := by
  obtain ⟨n, rfl⟩ : ∃ p, n = p + 1 := ⟨n - 1, by omega⟩
  refine call_any0 fok26 rfl rfl (by simp) ?_
  obtain ⟨x, k, e1, e2⟩ := Ints.cells hi
  have hap := append_nil (h := h) (s := 1) (bytes := 8) ⟨x, k, e1⟩ e2 (by simp) (by simp [maxBytes]; omega) (by simp [maxBytes]; omega)
  by_cases hz : m = 0
  · rw [if_pos hz] at hap
    simp only [rn0, reduceIte, Nat.reduceEqDiff, Nat.reduceAdd, Nat.reduceMul, Nat.reduceSub, Nat.reduceLeDiff, Nat.reduceLT, s26, jO, jF, jR, jS, jU, jA, jK, hap]
    exact ⟨⟨none, 0, by rw [hz], (fun x e => nomatch e), .inl hz⟩, rfl, fun i _ => trivial, by omega⟩
  · rw [if_neg hz] at hap
    simp only [rn0, reduceIte, Nat.reduceEqDiff, Nat.reduceAdd, Nat.reduceMul, Nat.reduceSub, Nat.reduceLeDiff, Nat.reduceLT, s26, jO, jF, jR, jS, jU, jA, jK, hap]
    refine step_slice (by omega) (by rw [allB_iff]; intro v hv; obtain ⟨i, _, rfl⟩ := List.mem_map.1 hv; rfl) fun h2 hx2 => ?_
    have n2 := hx2.next
    simp only [rn0, reduceIte, Nat.reduceEqDiff, Nat.reduceAdd, Nat.reduceMul, Nat.reduceSub, Nat.reduceLeDiff, Nat.reduceLT]
    exact ⟨ints_row hx2.get, rfl, hx2.old, by omega, by omega, hx2.floor⟩
def zgL : List Value := [.int .i64 0, .int .i64 0, .slice none 0 0, .int .i64 0, .int .i64 0, .slice none 0 0, .slice none 0 0, .int .i64 0, .int .i64 0, .slice none 0 0]
theorem build_ga {G : MG} {wv vv sv : Value} : buildA (fun x => (#[(0, 7), (7, 1), (8, 1), (9, 1)] : Array (Nat × Nat))[x]?) ⟨[.int .i64 0, .int .i64 0, .slice none 0 0, .int .i64 0, .int .i64 0, .slice none 0 0, .slice none 0 0, .int .i64 0, .int .i64 0, .slice none 0 0]⟩ [0, 1, 2] h [.agg ⟨stL G.s wv vv sv⟩, .int .i64 G.men, .int .i64 G.close] = some (.agg ⟨gaL G wv vv sv nilS⟩, h) := by
  unfold buildA
  have e : Instr.fill (fun x => (#[(0, 7), (7, 1), (8, 1), (9, 1)] : Array (Nat × Nat))[x]?) #[.int .i64 0, .int .i64 0, .slice none 0 0, .int .i64 0, .int .i64 0, .slice none 0 0, .slice none 0 0, .int .i64 0, .int .i64 0, .slice none 0 0] ([0, 1, 2].zip [.agg ⟨stL G.s wv vv sv⟩, .int .i64 G.men, .int .i64 G.close]) = some ⟨gaL G wv vv sv nilS⟩ := by
    simp [Instr.fill, Value.cells, gaL, stL]
  rw [e]
theorem gaX {G : MG} {a b c d : Value} : (gaL G a b c d)[9]? = some d := rfl
def s25 : SCode := (.seq (.ops [jO 1 (.box (T 0)), jO 2 (.alloc [(.int .i64 0), (.int .i64 0), (.slice none 0 0), (.int .i64 0), (.int .i64 0), (.slice none 0 0), (.slice none 0 0), (.int .i64 0), (.int .i64 0), (.slice none 0 0)])]) (.seq (.draw [jF 6 (.fieldAddr 0 (T 1)), jS 7 (.loadN 7 (T 6)), jU 8 (.call (.func 69) [(T 7)]), jF 9 (.fieldAddr 7 (T 1)), jR 10 (.load1 (T 9)), jF 11 (.fieldAddr 8 (T 1)), jR 12 (.load1 (T 11)), jF 13 (.build #[(0, 7), (7, 1), (8, 1), (9, 1)] [(.int .i64 0), (.int .i64 0), (.slice none 0 0), (.int .i64 0), (.int .i64 0), (.slice none 0 0), (.slice none 0 0), (.int .i64 0), (.int .i64 0), (.slice none 0 0)] [0, 1, 2] [(T 8), (T 10), (T 12)]), jU 3 (.alloc [(.int .i64 0), (.int .i64 0), (.slice none 0 0), (.int .i64 0), (.int .i64 0), (.slice none 0 0), (.slice none 0 0), (.int .i64 0), (.int .i64 0), (.slice none 0 0)]), ⟨.any, ⟨none, none, .store 10 (T 3) (T 13)⟩⟩]) (.seq (.seq (.ops [jO 4 (.mov (jK 0))]) (.block 0 (.loop (.seq (.seq (.ops [jO 14 (.mov (T 4)), jO 15 (.fieldAddr 9 (T 1)), jO 16 (.load1 (T 15)), jO 17 (.len (T 16)), jO 18 (.int2 .lss (T 14) (T 17))]) (.cond (T 18) .skip (.exit 0))) (.seq (.block 1 (.seq (.ops [jO 21 (.fieldAddr 9 (T 1)), jO 22 (.load1 (T 21)), jO 23 (.mov (T 4)), jO 24 (.idxSl 3 (T 22) (T 23)), jO 25 (.loadN 3 (T 24)), jO 5 (.alloc [(.int .i64 0), (.int .i64 0), (.int .i64 0)]), ⟨none, none, .store 3 (T 5) (T 25)⟩]) (.ops [jO 26 (.fieldAddr 9 (T 3)), jO 27 (.load1 (T 26)), jO 28 (.fieldAddr 0 (T 5)), jO 29 (.load1 (T 28)), jO 30 (.fieldAddr 1 (T 5)), jO 31 (.fieldAddr 0 (T 30)), jO 32 (.load1 (T 31)), jO 33 (.fieldAddr 1 (T 5)), jO 34 (.fieldAddr 1 (T 33)), jO 35 (.load1 (T 34)), jO 36 (.build #[(0, 1), (1, 1)] [(.int .i64 0), (.int .i64 0)] [0, 1] [(T 32), (T 35)]), jO 37 (.build #[(0, 1), (1, 2)] [(.int .i64 0), (.int .i64 0), (.int .i64 0)] [0, 1] [(T 29), (T 36)]), jO 38 (.bslice 3 1 [(.int .i64 0), (.int .i64 0), (.int .i64 0)] [0] [(T 37)]), jO 39 (.append 3 24 (T 27) (T 38)), jO 40 (.fieldAddr 9 (T 3)), ⟨none, none, .store 1 (T 40) (T 39)⟩]))) (.ops [jO 19 (.mov (T 4)), jO 20 (.int2 .add (T 19) (jK 1)), jO 4 (.mov (T 20))])))))) (.seq (.ops [jO 41 (.loadN 10 (T 3)), ⟨none, none, .store 10 (T 2) (T 41)⟩]) .ret))))
theorem fok25 : FnOk Tryz.prog 25 42 s25 [.cellN 2 10] := ⟨Tryz.f25, _, Tryz.func25, rfl, Tryz.ntmps25, by kernel_rfl, by kernel_rfl⟩
set_option maxHeartbeats 2000000 in
theorem gangL_c (hn : 110 ≤ n) (hr : h.next + 600 < far) (hfl : h.floor ≤ h.next) {wv vv sv kv : Value} {G : MG} (hy : GangR h wv vv sv kv G) (hT : ThinS G.s) (hl : G.nk ≤ 30) :
    ∃ wv' vv' sv' kv' h', call n (.func (.func 25) #[] #[]) [.agg ⟨gaL G wv vv sv kv⟩] h = some (.agg ⟨gaL G wv' vv' sv' kv'⟩, h') ∧ GangR h' wv' vv' sv' kv' G ∧ (∀ i, i < h.next → h'.get i = h.get i) ∧ h.next ≤ h'.next ∧ h'.next ≤ h.next + 550 ∧ h'.floor = h.floor := by
  obtain ⟨n, rfl⟩ : ∃ p, n = p + 1 := ⟨n - 1, by omega⟩
  suffices hs : ∃ v h', call (n + 1) (.func (.func 25) #[] #[]) [.agg ⟨gaL G wv vv sv kv⟩] h = some (v, h') ∧ ∃ wv' vv' sv' kv', v = .agg ⟨gaL G wv' vv' sv' kv'⟩ ∧ GangR h' wv' vv' sv' kv' G ∧ (∀ i, i < h.next → h'.get i = h.get i) ∧ h.next ≤ h'.next ∧ h'.next ≤ h.next + 550 ∧ h'.floor = h.floor by
    obtain ⟨v, h', e, a, b, c, d, rfl, q⟩ := hs
    exact ⟨a, b, c, d, h', e, q⟩
  refine call_any0 fok25 rfl rfl (by simp) ?_
  simp only [s25, jO, jF, jR, jS, jU, jA, jK, W_seq, W_ops]
  refine ops_box (cs := gaL G wv vv sv kv) (by omega) rfl hy.one fun g1 hx1 => ?_
  have n1 := hx1.next
  have f1 := hx1.floor
  simp only [rn0, reduceIte, Nat.reduceEqDiff, Nat.reduceAdd, Nat.reduceMul, Nat.reduceSub, Nat.reduceLeDiff, Nat.reduceLT]
  refine step_row (cs := zgL) (by omega) rfl rfl fun g2 hx2 => ?_
  have n2 := hx2.next
  have f2 := hx2.floor
  have hy2 := hy.mono (hx1.sub.trans hx2.sub)
  have r2 := hx1.row.mono hx2.sub
  have old2 : ∀ i, i < h.next → g2.get i = h.get i := fun i hi => by rw [hx2.old i (by omega), hx1.old i hi]
  obtain ⟨wa, va, sa, g3, e3, hy3, o3, u3, m3, f3, bw3, bv3, bs3⟩ := steepLO_c (n := n) (h := g2) (by omega) (by omega) (by omega) hy2.s hT
  have s23 : Sub All g2 g3 := AHeap.subOf o3
  simp only [rn0, reduceIte, Nat.reduceEqDiff, Nat.reduceAdd, Nat.reduceMul, Nat.reduceSub, Nat.reduceLeDiff, Nat.reduceLT]
  refine W_draw All ?_
  simp only [rn0, reduceIte, Nat.reduceEqDiff, Nat.reduceAdd, Nat.reduceMul, Nat.reduceSub, Nat.reduceLeDiff, Nat.reduceLT, ga_st r2, r2.ld, gag, Nat.zero_add, eqV_int, hy2.s.self, e3, build_ga]
  first | refine ⟨u3, ?_⟩ | refine ⟨⟨u3, s23⟩, ?_⟩ | skip
  have hone0 : allB oneCell (gaL G wa va sa nilS) = true := by simp [gaL, allB, one_int, Cells.one hy3.w, Cells.one hy3.v, Cells.one hy3.s, (show oneCell nilS = true from rfl)]
  refine up_row (cs := zgL) (by omega) rfl rfl (fun g4 hx => s23.trans hx.sub) fun g4 hx4 => ?_
  have n4 := hx4.next
  have f4 := hx4.floor
  simp only [rn0, reduceIte, Nat.reduceEqDiff, Nat.reduceAdd, Nat.reduceMul, Nat.reduceSub, Nat.reduceLeDiff, Nat.reduceLT]
  refine up_store (b := g3.next) (off := 0) (vs := gaL G wa va sa nilS) rfl hx4.get (by omega) (by omega) rfl hone0 rfl (by simp [gaL, zgL]) (fun _ _ => trivial) fun g5 hs5 => ?_
  rw [splice_all (by rfl)] at hs5
  have n5 := hs5.next
  have f5 := hs5.floor
  have old5 : ∀ i, i < g3.next → g5.get i = g3.get i := fun i hi => by rw [hs5.old i (by omega), hx4.old i hi]
  have q5 := hs5.get
  have hy5 := hy3.mono (AHeap.subOf old5)
  have z5 : g5.get g1.next = some (.row zgL true 0) := by rw [old5 _ (by omega), o3 _ (by omega)]; exact hx2.get
  have old5h : ∀ i, i < h.next → g5.get i = h.get i := fun i hi => by rw [old5 i (by omega), o3 i (by omega), old2 i hi]
  have r5 : Row g5 h.next (gaL G wv vv sv kv) := by
    obtain ⟨w, gr, e⟩ := r2
    exact ⟨w, gr, by rw [old5 _ (by omega), o3 _ (by omega)]; exact e⟩
  obtain ⟨B, hB⟩ : ∃ q, q = g3.next := ⟨_, rfl⟩
  rw [← hB] at q5
  rw [← hB]
  have b5 : g5.next = B + 1 := by omega
  simp only [rn0, reduceIte, Nat.reduceEqDiff, Nat.reduceAdd, Nat.reduceMul, Nat.reduceSub, Nat.reduceLeDiff, Nat.reduceLT]
  refine W_loop G.nk (fun k f g ms => (∃ X, (∀ i, i < g5.next → i ≠ B → g.get i = g5.get i) ∧ g.floor = h.floor ∧ g5.next ≤ g.next ∧ g.next ≤ g5.next + 3 * k ∧ GrowC g5.next g X 3 k (workC G) ∧ g.get B = some (.row (gaL G wa va sa X) true 0)) ∧ ms = [] ∧ f 1 = .pointer (some ⟨h.next, 0, none⟩) ∧ f 2 = .pointer (some ⟨g1.next, 0, none⟩) ∧ f 3 = .pointer (some ⟨B, 0, none⟩) ∧ f 4 = .int .i64 (k : Int)) (by simp; omega) ?_ ?_ ?_
  · simp only [rn0, reduceIte, Nat.reduceEqDiff, Nat.reduceAdd, Nat.reduceMul, Nat.reduceSub, Nat.reduceLeDiff, Nat.reduceLT, Int.natCast_zero]
    first | exact ⟨⟨nilS, fun i _ _ => trivial, by omega, Nat.le_refl _, Nat.le_refl _, .nil, q5⟩, rfl⟩ | exact ⟨nilS, fun i _ _ => trivial, by omega, Nat.le_refl _, Nat.le_refl _, .nil, q5⟩ | exact ⟨nilS, fun i _ _ => trivial, by omega, Nat.le_refl _, .nil, q5⟩
  · rintro k f g ms hk ⟨⟨X, og, fg, ug, ng, gv, qg⟩, rfl, p1, p2, p3, p4⟩
    have hk' : (k : Int) < (G.nk : Int) := by omega
    have hwk : wrapF .i64 ((k : Int) + 1) = ((k + 1 : Nat) : Int) := by rw [wrap_in (by omega) (by omega)]; rfl
    have oldg : ∀ i, i < h.next → g.get i = h.get i := fun i hi => by rw [og i (by omega) (by omega), old5h i hi]
    have hyg := hy.mono (AHeap.subOf oldg)
    have rg : Row g h.next (gaL G wv vv sv kv) := by
      obtain ⟨w, gr, e⟩ := r5
      exact ⟨w, gr, by rw [og _ (by omega) (by omega)]; exact e⟩
    simp only [rn0, reduceIte, Nat.reduceEqDiff, Nat.reduceAdd, Nat.reduceMul, Nat.reduceSub, Nat.reduceLeDiff, Nat.reduceLT, p1, p2, p3, p4, rg.ld, gag, Nat.zero_add, Cells.len hyg.k, hk', Cells.idx hyg.k hk, work_ld hyg hk]
    refine step_new (vs := woL G k) (by omega) (by omega) rfl (by simp only [rn0, reduceIte, Nat.reduceEqDiff, Nat.reduceAdd, Nat.reduceMul, Nat.reduceSub, Nat.reduceLeDiff, Nat.reduceLT]; rfl) rfl rfl rfl fun g6 hx6 => ?_
    have n6 := hx6.next
    have f6 := hx6.floor
    have q6 : g6.get B = some (.row (gaL G wa va sa X) true 0) := by rw [hx6.old _ (by omega)]; exact qg
    have rB : Row g6 B (gaL G wa va sa X) := ⟨_, _, q6⟩
    have r6 := hx6.row
    have gv6 := gv.sub hx6.sub
    simp only [rn0, reduceIte, Nat.reduceEqDiff, Nat.reduceAdd, Nat.reduceMul, Nat.reduceSub, Nat.reduceLeDiff, Nat.reduceLT, p1, p2, p3, p4, rB.ld, gaX, r6.ld, wog, Nat.zero_add, build_range, build_samp, sl_samp]
    refine step_slice (by omega) rfl fun g7 hx7 => ?_
    have n7 := hx7.next
    have f7 := hx7.floor
    obtain ⟨v', g8, e8, gv8, o8, n8, f8, old8, u8⟩ := grow_push (h := g6) (bytes := 24) gv6 (by omega) (by omega) (by omega) hx7 rfl rfl (fun j hj => by
      obtain rfl | rfl | rfl : j = 0 ∨ j = 1 ∨ j = 2 := by omega
      all_goals rfl) (by simp [maxBytes]; omega) (by simp [maxBytes]; omega)
    simp only [rn0, reduceIte, Nat.reduceEqDiff, Nat.reduceAdd, Nat.reduceMul, Nat.reduceSub, Nat.reduceLeDiff, Nat.reduceLT, p1, p2, p3, e8]
    refine step_store (b := B) (off := 9) (vs := [v']) rfl (by rw [old8 _ (by omega)]; exact q6) (by omega) (by omega) (cells1 o8) (by simp [allB, o8]) rfl (by simp [gaL]) fun g9 hs9 => ?_
    have es9 : splice (gaL G wa va sa X) 9 [v'] = gaL G wa va sa v' := rfl
    rw [es9] at hs9
    have n9 := hs9.next
    have f9 := hs9.floor
    simp only [rn0, reduceIte, Nat.reduceEqDiff, Nat.reduceAdd, Nat.reduceMul, Nat.reduceSub, Nat.reduceLeDiff, Nat.reduceLT, p1, p2, p3, p4, hwk]
    have fin : ∃ X, (∀ i, i < g5.next → i ≠ B → g9.get i = g5.get i) ∧ g9.floor = h.floor ∧ g5.next ≤ g9.next ∧ g9.next ≤ g5.next + 3 * (k + 1) ∧ GrowC g5.next g9 X 3 (k + 1) (workC G) ∧ g9.get B = some (.row (gaL G wa va sa X) true 0) := ⟨v', fun i hi hne => by rw [hs9.old i hne, old8 i (by omega), hx6.old i (by omega), og i hi hne], by omega, by omega, by omega, gv8.keep hs9.keep (by omega), hs9.get⟩
    first | exact fin | exact ⟨fin, rfl⟩
  · rintro f g ms ⟨⟨X, og, fg, ug, ng, gv, qg⟩, rfl, p1, p2, p3, p4⟩
    have oldg : ∀ i, i < h.next → g.get i = h.get i := fun i hi => by rw [og i (by omega) (by omega), old5h i hi]
    have hyg := hy.mono (AHeap.subOf oldg)
    have rg : Row g h.next (gaL G wv vv sv kv) := by
      obtain ⟨w, gr, e⟩ := r5
      exact ⟨w, gr, by rw [og _ (by omega) (by omega)]; exact e⟩
    have rB : Row g B (gaL G wa va sa X) := ⟨_, _, qg⟩
    have hone : allB oneCell (gaL G wa va sa X) = true := by simp [gaL, allB, one_int, Cells.one hy3.w, Cells.one hy3.v, Cells.one hy3.s, gv.one]
    simp only [rn0, reduceIte, Nat.reduceEqDiff, Nat.reduceAdd, Nat.reduceMul, Nat.reduceSub, Nat.reduceLeDiff, Nat.reduceLT, p1, p2, p3, p4, rg.ld, gag, Nat.zero_add, Cells.len hyg.k, Int.lt_irrefl, rB.whole (n := 10) rfl]
    refine step_store (b := g1.next) (off := 0) (vs := gaL G wa va sa X) rfl (by rw [og _ (by omega) (by omega)]; exact z5) (by omega) (by omega) rfl hone rfl (by simp [gaL, zgL]) fun g8 hs8 => ?_
    rw [splice_all (by rfl)] at hs8
    have n8 := hs8.next
    have f8 := hs8.floor
    have o8 : ∀ i, i < g3.next → i ≠ g1.next → g8.get i = g3.get i := fun i hi hne => by rw [hs8.old i hne, og i (by omega) (by omega), old5 i hi]
    simp only [rn0, reduceIte, Nat.reduceEqDiff, Nat.reduceAdd, Nat.reduceMul, Nat.reduceSub, Nat.reduceLeDiff, Nat.reduceLT, p2, res_cellN, hs8.row.whole (n := 10) rfl]
    have sep : ∀ {v : Value} {s m : Nat} {c : Nat → Nat → Value}, Cells g3 v s m c → (∀ x k q, v = .slice (some x) k q → g2.next ≤ x.block) → Cells g8 v s m c := fun {v s m c} hc hb => by
      obtain ⟨a, cap, rfl, hsp, h0 | ⟨b, o, cs, w, gr, rfl, h1, h2⟩⟩ := hc
      · exact ⟨a, cap, rfl, hsp, .inl h0⟩
      · have hb' : g2.next ≤ b := hb _ _ _ rfl
        have hlt : b < g3.next := AHeap.lt_of_get h1
        exact ⟨_, cap, rfl, hsp, .inr ⟨b, o, cs, w, gr, rfl, by rw [o8 b hlt (by omega)]; exact h1, h2⟩⟩
    refine ⟨wa, va, sa, X, rfl, ⟨⟨sep hy3.w bw3, sep hy3.v bv3, sep hy3.s bs3⟩, (gv.keep hs8.keep (by omega)).cells⟩, fun i hi => by rw [hs8.old i (by omega), oldg i hi], by omega, by omega, by omega⟩

def ThinG (G : MG) : Prop := (ThinS G.s ∧ G.nk ≤ 30) ∧ (faultG G = 0 → manyS G.s ≤ 200)
noncomputable instance (G : MG) : Decidable (ThinG G) := Classical.propDecidable _
def s22 : SCode := (.seq (.ops [jO 1 (.box (T 0)), jO 2 (.mov (.const (.bool false)))]) (.seq (.seq (.ops [jO 3 (.fieldAddr 0 (T 1)), jO 4 (.loadN 7 (T 3)), jO 5 (.call (.func 71) [(T 4)]), jO 6 (.not (T 5)), jO 7 (.mov (T 6)), ⟨some 8, (some (7, false)), .fieldAddr 9 (T 1)⟩, ⟨some 9, (some (7, false)), .load1 (T 8)⟩, ⟨some 10, (some (7, false)), .len (T 9)⟩, ⟨some 11, (some (7, false)), .int2 .gtr (T 10) (jK 30)⟩, jO 12 (.pick (T 7) (.const (.bool true)) (T 11))]) (.cond (T 12) (.seq (.ops [jO 2 (.mov (.const (.bool false)))]) .ret) .skip)) (.seq (.ops [jO 13 (.loadN 10 (T 1)), jO 14 (.call (.func 66) [(T 13)]), jO 15 (.int2 .neq (T 14) (jK 0)), jO 16 (.mov (T 15)), ⟨some 17, (some (16, false)), .fieldAddr 0 (T 1)⟩, ⟨some 18, (some (16, false)), .loadN 7 (T 17)⟩, ⟨some 19, (some (16, false)), .call (.func 72) [(T 18)]⟩, ⟨some 20, (some (16, false)), .int2 .leq (T 19) (jK 200)⟩, jO 21 (.pick (T 16) (.const (.bool true)) (T 20)), jO 2 (.mov (T 21))]) .ret)))
theorem fok22 : FnOk Tryz.prog 22 22 s22 [.tmp 2] := ⟨Tryz.f22, _, Tryz.func22, rfl, Tryz.ntmps22, by kernel_rfl, by kernel_rfl⟩
theorem thinG_c (hn : 2400 ≤ n) (hr : h.next + 1000200 < far) {wv vv sv kv : Value} {G : MG} (hy : GangR h wv vv sv kv G) :
    call n (.func (.func 22) #[] #[]) [.agg ⟨gaL G wv vv sv kv⟩] h = some (.bool (decide (ThinG G)), h) := by
  obtain ⟨n, rfl⟩ : ∃ p, n = p + 1 := ⟨n - 1, by omega⟩
  refine call_plain0 fok22 rfl rfl (by simp) rfl ?_
  have hy := hy.shut
  have hr : h.shutAll.next + 1000200 < far := hr
  generalize h.shutAll = h at hy hr
  simp only [s22, jO, jF, jR, jS, jU, jA, jK, W_seq, W_ops]
  refine ops_box (cs := gaL G wv vv sv kv) (by omega) rfl hy.one fun h1 hx => ?_
  have n1 := hx.next
  have hy := hy.mono hx.sub
  have r1 := hx.row
  have et := thin_c (n := n) (h := h1) (by omega) (by omega) hy.s
  by_cases hT : ThinS G.s
  case neg =>
    have : ¬ ThinG G := fun e => hT e.1.1
    simp only [rn0, reduceIte, Nat.reduceEqDiff, Nat.reduceAdd, Nat.reduceMul, Nat.reduceSub, Nat.reduceLeDiff, Nat.reduceLT, ga_st r1, et, hT, this]
  by_cases c1 : (30 : Int) < (G.nk : Int)
  · have : ¬ ThinG G := fun e => by have := e.1.2; omega
    simp only [rn0, reduceIte, Nat.reduceEqDiff, Nat.reduceAdd, Nat.reduceMul, Nat.reduceSub, Nat.reduceLeDiff, Nat.reduceLT, ga_st r1, et, hT, r1.ld, gag, Nat.zero_add, Cells.len hy.k, c1, this]
  have hl : G.nk ≤ 30 := by omega
  have ef := faultR_c (n := n) (h := h1) (by omega) (by omega) hy hT hl
  by_cases hf : faultG G = 0
  case neg =>
    have : ThinG G := ⟨⟨hT, hl⟩, fun e => absurd e hf⟩
    simp only [rn0, reduceIte, Nat.reduceEqDiff, Nat.reduceAdd, Nat.reduceMul, Nat.reduceSub, Nat.reduceLeDiff, Nat.reduceLT, ga_st r1, et, hT, r1.ld, gag, Nat.zero_add, Cells.len hy.k, c1, r1.whole (n := 10) rfl, ef, hf, this]
  have em := many_c (n := n) (h := h1) (by omega) (by omega) hy.s (goodG.1 hf).s.args ⟨hT.1, hT.2.1⟩
  by_cases c2 : manyS G.s ≤ 200
  · have : ThinG G := ⟨⟨hT, hl⟩, fun _ => c2⟩
    simp only [rn0, reduceIte, Nat.reduceEqDiff, Nat.reduceAdd, Nat.reduceMul, Nat.reduceSub, Nat.reduceLeDiff, Nat.reduceLT, ga_st r1, et, hT, r1.ld, gag, Nat.zero_add, Cells.len hy.k, c1, r1.whole (n := 10) rfl, ef, hf, em, c2, this]
  · have : ¬ ThinG G := fun e => c2 (e.2 hf)
    simp only [rn0, reduceIte, Nat.reduceEqDiff, Nat.reduceAdd, Nat.reduceMul, Nat.reduceSub, Nat.reduceLeDiff, Nat.reduceLT, ga_st r1, et, hT, r1.ld, gag, Nat.zero_add, Cells.len hy.k, c1, r1.whole (n := 10) rfl, ef, hf, em, c2, this]
def s53 : SCode := (.seq (.ops [jO 1 (.box (T 0)), jO 2 (.mov (.const (.bool false)))]) (.seq (.ops [jO 3 (.loadN 10 (T 1)), jO 4 (.call (.func 22) [(T 3)]), jO 5 (.mov (T 4)), ⟨some 6, (some (5, true)), .loadN 10 (T 1)⟩, ⟨some 7, (some (5, true)), .call (.func 66) [(T 6)]⟩, ⟨some 8, (some (5, true)), .int2 .eql (T 7) (jK 0)⟩, jO 9 (.pick (T 5) (T 8) (.const (.bool false))), jO 2 (.mov (T 9))]) .ret))
theorem fok53 : FnOk Tryz.prog 53 10 s53 [.tmp 2] := ⟨Tryz.f53, _, Tryz.func53, rfl, Tryz.ntmps53, by kernel_rfl, by kernel_rfl⟩
theorem readyG_c (hn : 2410 ≤ n) (hr : h.next + 1000300 < far) {wv vv sv kv : Value} {G : MG} (hy : GangR h wv vv sv kv G) :
    call n (.func (.func 53) #[] #[]) [.agg ⟨gaL G wv vv sv kv⟩] h = some (.bool (decide (ThinG G ∧ faultG G = 0)), h) := by
  obtain ⟨n, rfl⟩ : ∃ p, n = p + 1 := ⟨n - 1, by omega⟩
  refine call_plain0 fok53 rfl rfl (by simp) rfl ?_
  have hy := hy.shut
  have hr : h.shutAll.next + 1000300 < far := hr
  generalize h.shutAll = h at hy hr
  simp only [s53, jO, jF, jR, jS, jU, jA, jK, W_seq, W_ops]
  refine ops_box (cs := gaL G wv vv sv kv) (by omega) rfl hy.one fun h1 hx => ?_
  have n1 := hx.next
  have hy := hy.mono hx.sub
  have et := thinG_c (n := n) (h := h1) (by omega) (by omega) hy
  by_cases hT : ThinG G
  · have ef := faultR_c (n := n) (h := h1) (by omega) (by omega) hy hT.1.1 hT.1.2
    by_cases hf : faultG G = 0
    · simp only [rn0, reduceIte, Nat.reduceEqDiff, Nat.reduceAdd, Nat.reduceMul, Nat.reduceSub, Nat.reduceLeDiff, Nat.reduceLT, hx.row.whole (n := 10) rfl, et, hT, ef, hf, and_self]
    · simp only [rn0, reduceIte, Nat.reduceEqDiff, Nat.reduceAdd, Nat.reduceMul, Nat.reduceSub, Nat.reduceLeDiff, Nat.reduceLT, hx.row.whole (n := 10) rfl, et, hT, ef, hf, and_false]
  · simp only [rn0, reduceIte, Nat.reduceEqDiff, Nat.reduceAdd, Nat.reduceMul, Nat.reduceSub, Nat.reduceLeDiff, Nat.reduceLT, hx.row.whole (n := 10) rfl, et, hT, false_and]

theorem sliceArr10 {b m : Nat} (hm : m ≤ 10) : sliceArr 10 1 h (.pointer (some ⟨b, 0, none⟩)) none (some (.int .i64 (m : Int))) = some (.slice (some ⟨b, 0, none⟩) m 10, h) := by
  have e1 : boundA 0 none = some 0 := rfl
  have e2 : boundA 10 (some (.int .i64 (m : Int))) = some m := rfl
  have e3 : Nat.ble 0 m = true := ble_iff.2 (Nat.zero_le _)
  have e4 : Nat.ble m 10 = true := ble_iff.2 hm
  have e5 : Nat.beq 10 0 = false := rfl
  unfold sliceArr
  simp only [e1, e2, e3, e4, e5, Bool.and_self, cond_true, cond_false, addrPlus, Nat.zero_mul, Nat.add_zero, Nat.sub_zero]
theorem arr_part {g : AHeap} {b k m cap : Nat} {a : Nat → Int} (hr : Row g b (arrN m a)) (hk : k ≤ m) (hm : 0 < m) : Ints g (.slice (some ⟨b, 0, none⟩) k cap) k a := by
  obtain ⟨w, gr, hg⟩ := hr
  exact ⟨some ⟨b, 0, none⟩, cap, rfl, fun x e => by cases e; rfl, .inr ⟨b, 0, arrN m a, w, gr, rfl, hg, fun i j hi hj => by
    have : j = 0 := by omega
    subst this
    simp only [Nat.mul_one, Nat.zero_add, Nat.add_zero]
    exact arrN_get (by omega)⟩⟩
theorem momOk {G : MG} {m : Nat} {p : Nat → Int} (hG : GoodG G) (hP : PlanOk G m p) : MomOk G G.nk (fun k => k) p := by
  obtain ⟨z0, z1, z4, z5, _⟩ := hG.sizes
  refine ⟨z4, fun k hk => ?_⟩
  have h1 := hP.2 k (by have := hP.1; omega)
  have h2 := (hG.begin hk).2
  exact ⟨hk, by omega, by omega⟩
theorem errPG_ok {G : MG} {m : Nat} {p : Nat → Int} (h : errPG G m p = 0) : GoodG G ∧ PlanOk G m p := by
  unfold errPG at h
  by_cases c : faultG G = 0
  · rw [if_neg (by simpa using c)] at h
    by_cases c2 : PlanOk G m p
    · exact ⟨goodG.1 c, c2⟩
    · rw [if_neg c2] at h; exact absurd h (by decide)
  · rw [if_pos c] at h; exact absurd h c
theorem hrs_ok {G : MG} {q : Nat} {x : Nat → Int} (hG : GoodG G) (hH : HrsOk G q x) : ∀ v, v < G.nk → 0 ≤ x v ∧ x v ≤ 4 := fun v hv => by
  have h1 := hH.2 v (by have := hH.1; omega)
  have h2 := (hG.works v hv).2
  omega
theorem ret_tt {a b : Nat} {f : Go.Vm.Fr} : resV f h [.tmp a, .tmp b] = some (.tuple ⟨[f a, f b]⟩) := id rfl
def ProveS (G : MG) (m : Nat) (p : Nat → Int) (d : Int) : Prop := errPG G m p = 0 ∧ SureW G G.nk (fun k => k) p ∧ doneS G p G.nk ≤ d
noncomputable instance (G : MG) (m : Nat) (p : Nat → Int) (d : Int) : Decidable (ProveS G m p d) := Classical.propDecidable _
def s42 : SCode := (.seq (.ops [jO 3 (.box (T 0)), jO 6 (.mov (.const (.bool false)))]) (.seq (.ops [jO 11 (.loadN 10 (T 3)), jO 12 (.mov (T 1)), jO 13 (.call (.func 76) [(T 11), (T 12)]), jO 10 (.mov (T 13)), jO 14 (.extract 0 (T 10)), jO 15 (.extract 1 (T 10)), jO 16 (.extract 2 (T 10)), jO 7 (.alloc [(.int .i64 0), (.int .i64 0), (.slice none 0 0), (.int .i64 0), (.int .i64 0), (.slice none 0 0), (.slice none 0 0), (.int .i64 0), (.int .i64 0), (.slice none 0 0), (.map none)]), ⟨none, none, .store 11 (T 7) (T 14)⟩, jO 8 (.mov (T 15)), jO 9 (.mov (T 16))]) (.seq (.ops [jO 17 (.mov (T 9)), jO 18 (.int2 .eql (T 17) (jK 0)), jO 19 (.mov (T 18)), ⟨some 20, (some (19, true)), .loadN 11 (T 7)⟩, ⟨some 21, (some (19, true)), .mov (T 8)⟩, ⟨some 22, (some (19, true)), .call (.func 95) [(T 20), (T 21)]⟩, jO 23 (.pick (T 19) (T 22) (.const (.bool false))), jO 24 (.mov (T 23)), ⟨some 25, (some (24, true)), .loadN 11 (T 7)⟩, ⟨some 26, (some (24, true)), .mov (T 8)⟩, ⟨some 27, (some (24, true)), .call (.func 94) [(T 25), (T 26)]⟩, ⟨some 28, (some (24, true)), .mov (T 2)⟩, ⟨some 29, (some (24, true)), .int2 .leq (T 27) (T 28)⟩, jO 30 (.pick (T 24) (T 29) (.const (.bool false))), jO 6 (.mov (T 30))]) .ret)))
theorem fok42 : FnOk Tryz.prog 42 31 s42 [.tmp 6] := ⟨Tryz.f42, _, Tryz.func42, rfl, Tryz.ntmps42, by kernel_rfl, by kernel_rfl⟩
set_option maxHeartbeats 1000000 in
theorem proveG_c (hn : 2540 ≤ n) (hr : h.next + 1500000 < far) {wv vv sv kv lv : Value} {G : MG} {m : Nat} {p : Nat → Int} (hy : GangR h wv vv sv kv G) (hT : ThinS G.s) (hl : G.nk ≤ 30) (hp : Ints h lv m p) (hm30 : m ≤ 30) (d : Int) :
    call n (.func (.func 42) #[] #[]) [.agg ⟨gaL G wv vv sv kv⟩, lv, .int .i64 d] h = some (.bool (decide (ProveS G m p d)), h) := by
  classical
  obtain ⟨n, rfl⟩ : ∃ p, n = p + 1 := ⟨n - 1, by omega⟩
  refine call_plain0 fok42 rfl rfl (by simp) rfl ?_
  have hy := hy.shut
  have hp := Cells.shut hp
  have hr : h.shutAll.next + 1500000 < far := hr
  have hfl : h.shutAll.floor ≤ h.shutAll.next := Nat.le_refl _
  generalize h.shutAll = h at hy hp hr hfl
  simp only [s42, jO, jF, jR, jS, jU, jA, jK, W_seq, W_ops]
  refine ops_box (cs := gaL G wv vv sv kv) (by omega) rfl hy.one fun g1 hx1 => ?_
  have n1 := hx1.next
  have f1 := hx1.floor
  have r1 := hx1.row
  have hy1 := hy.mono hx1.sub
  have hp1 : Ints g1 lv m p := Cells.mono hp hx1.sub
  obtain ⟨ov, g2, e2, o2, u2, m2, f2, hO⟩ := openPG_c (n := n) (h := g1) (by omega) (by omega) (by omega) hy1 hT hl hp1 hm30
  rcases hO with ⟨he, rfl⟩ | ⟨he, r, pv, rfl, hm2, hr2, hr2', hpv, hpo⟩
  · have e1 : decide (ProveS G m p d) = false := decide_eq_false fun e => he e.1
    simp only [rn0, reduceIte, Nat.reduceEqDiff, Nat.reduceAdd, Nat.reduceMul, Nat.reduceSub, Nat.reduceLeDiff, Nat.reduceLT, r1.whole (n := 10) rfl, e2, ex30, ex31, ex32]
    refine step_new (vs := zcL) (by omega) (by omega) rfl (by simp only [rn0, reduceIte, Nat.reduceEqDiff, Nat.reduceAdd, Nat.reduceMul, Nat.reduceSub, Nat.reduceLeDiff, Nat.reduceLT]; rfl) rfl rfl rfl fun g4 hx4 => ?_
    simp only [rn0, reduceIte, Nat.reduceEqDiff, Nat.reduceAdd, Nat.reduceMul, Nat.reduceSub, Nat.reduceLeDiff, Nat.reduceLT, he, e1]
  obtain ⟨hG, hP⟩ := errPG_ok he
  obtain ⟨z0, z1, z4, z5, _⟩ := hG.sizes
  have hy2 := hy1.mono (AHeap.subOf o2)
  simp only [rn0, reduceIte, Nat.reduceEqDiff, Nat.reduceAdd, Nat.reduceMul, Nat.reduceSub, Nat.reduceLeDiff, Nat.reduceLT, r1.whole (n := 10) rfl, e2, ex30, ex31, ex32]
  refine step_new (vs := crL G wv vv sv kv (.map (some r))) (by omega) (by omega) rfl (by simp only [rn0, reduceIte, Nat.reduceEqDiff, Nat.reduceAdd, Nat.reduceMul, Nat.reduceSub, Nat.reduceLeDiff, Nat.reduceLT]; rfl) (cr_one hy2 rfl) rfl rfl fun g4 hx4 => ?_
  have n4 := hx4.next
  have f4 := hx4.floor
  have r4 := hx4.row
  have hm4 : MapB g4 r key2 (rip G G.nk) := hm2.keep (hx4.old _ hm2.lt)
  have hy4 := hy2.mono hx4.sub
  have hp4 : Ranges g4 pv G.nk (fun k => (k : Int)) p := Cells.mono hpv hx4.sub
  have hM := momOk hG hP
  have es := isSure_c (n := n) (h := g4) (by omega) (by omega) ⟨hy4, hm4, hG⟩ hp4 hM
  have ed := doneW_c (n := n) (h := g4) (by omega) (by omega) hy4 hG (mv := .map (some r)) rfl hp4 hM
  rw [doneM_id] at ed
  by_cases c1 : SureW G G.nk (fun k => k) p
  case neg =>
    have e1 : decide (ProveS G m p d) = false := decide_eq_false fun e => c1 e.2.1
    simp only [rn0, reduceIte, Nat.reduceEqDiff, Nat.reduceAdd, Nat.reduceMul, Nat.reduceSub, Nat.reduceLeDiff, Nat.reduceLT, r4.whole (n := 11) rfl, es, decide_eq_false c1, e1]
  by_cases c2 : doneS G p G.nk ≤ d
  · have e1 : decide (ProveS G m p d) = true := decide_eq_true ⟨he, c1, c2⟩
    simp only [rn0, reduceIte, Nat.reduceEqDiff, Nat.reduceAdd, Nat.reduceMul, Nat.reduceSub, Nat.reduceLeDiff, Nat.reduceLT, r4.whole (n := 11) rfl, es, decide_eq_true c1, ed, c2, e1]
  · have e1 : decide (ProveS G m p d) = false := decide_eq_false fun e => c2 e.2.2
    simp only [rn0, reduceIte, Nat.reduceEqDiff, Nat.reduceAdd, Nat.reduceMul, Nat.reduceSub, Nat.reduceLeDiff, Nat.reduceLT, r4.whole (n := 11) rfl, es, decide_eq_true c1, ed, c2, e1]

theorem awakeG {g : AHeap} (hn : 1 ≤ n) : call n (.func (.func 23) #[] #[]) [] g = some (.bool true, g) := awake_c hn

noncomputable def playE (G : MG) (m : Nat) (p : Nat → Int) (q : Nat) (x : Nat → Int) : Int := if errPG G m p ≠ 0 then errPG G m p else if HrsOk G q x then (if InT G (fun k => k) p x G.nk then 0 else 9) else 2
def PlayG (h : AHeap) (G : MG) (m : Nat) (p : Nat → Int) (q : Nat) (x : Nat → Int) (v : Value) (h' : AHeap) : Prop :=
  (∀ i, i < h.next → h'.get i = h.get i) ∧ h.next ≤ h'.next ∧ h'.next ≤ h.next + 300 ∧ h'.floor = h.floor ∧
    ((playE G m p q x ≠ 0 ∧ v = .tuple ⟨[nilS, .int .i64 (playE G m p q x)]⟩) ∨ (playE G m p q x = 0 ∧ ∃ lv, v = .tuple ⟨[lv, .int .i64 0]⟩ ∧ Ints h' lv (G.close.toNat + 1) (shN G (fun k => k) p x G.nk) ∧ oneCell lv = true))
def s24 : SCode := (.seq (.ops [jO 3 (.box (T 0)), jO 6 (.mov (.const (.slice none 0 0))), jO 7 (.mov (jK 0))]) (.seq (.ops [jO 14 (.loadN 10 (T 3)), jO 15 (.mov (T 1)), jO 16 (.call (.func 76) [(T 14), (T 15)]), jO 13 (.mov (T 16)), jO 17 (.extract 0 (T 13)), jO 18 (.extract 1 (T 13)), jO 19 (.extract 2 (T 13)), jO 8 (.alloc [(.int .i64 0), (.int .i64 0), (.slice none 0 0), (.int .i64 0), (.int .i64 0), (.slice none 0 0), (.slice none 0 0), (.int .i64 0), (.int .i64 0), (.slice none 0 0), (.map none)]), ⟨none, none, .store 11 (T 8) (T 17)⟩, jO 9 (.mov (T 18)), jO 10 (.mov (T 19))]) (.seq (.seq (.ops [jO 20 (.mov (T 10)), jO 21 (.int2 .neq (T 20) (jK 0))]) (.cond (T 21) (.seq (.ops [jO 22 (.mov (T 10)), jO 6 (.mov (.const (.slice none 0 0))), jO 7 (.mov (T 22))]) .ret) .skip)) (.seq (.seq (.ops [jO 23 (.loadN 11 (T 8)), jO 24 (.mov (T 2)), jO 25 (.call (.func 77) [(T 23), (T 24)]), jO 26 (.not (T 25))]) (.cond (T 26) (.seq (.ops [jO 6 (.mov (.const (.slice none 0 0))), jO 7 (.mov (jK 2))]) .ret) .skip)) (.seq (.ops [jO 28 (.loadN 11 (T 8)), jO 29 (.mov (T 9)), jO 30 (.mov (T 2)), jO 31 (.call (.func 78) [(T 28), (T 29), (T 30)]), jO 27 (.mov (T 31)), jO 32 (.extract 0 (T 27)), jO 33 (.extract 1 (T 27)), jO 11 (.alloc [(.int .i64 0), (.int .i64 0), (.int .i64 0), (.int .i64 0), (.int .i64 0), (.int .i64 0), (.int .i64 0), (.int .i64 0), (.int .i64 0), (.int .i64 0)]), ⟨none, none, .store 10 (T 11) (T 32)⟩, jO 12 (.mov (T 33))]) (.seq (.seq (.ops [jO 34 (.mov (T 12)), jO 35 (.not (T 34))]) (.cond (T 35) (.seq (.ops [jO 6 (.mov (.const (.slice none 0 0))), jO 7 (.mov (jK 9))]) .ret) .skip)) (.seq (.ops [jO 36 (.fieldAddr 0 (T 8)), jO 37 (.fieldAddr 8 (T 36)), jO 38 (.load1 (T 37)), jO 39 (.int2 .add (T 38) (jK 1)), jO 40 (.sliceArr 10 1 (T 11) none (some (T 39))), jO 41 (.call (.func 79) [(T 40)]), jO 6 (.mov (T 41)), jO 7 (.mov (jK 0))]) .ret)))))))
theorem fok24 : FnOk Tryz.prog 24 42 s24 [.tmp 6, .tmp 7] := ⟨Tryz.f24, _, Tryz.func24, rfl, Tryz.ntmps24, by kernel_rfl, by kernel_rfl⟩
set_option maxHeartbeats 1000000 in
theorem playG_c (hn : 2540 ≤ n) (hr : h.next + 1500000 < far) (hfl : h.floor ≤ h.next) {wv vv sv kv lv xv : Value} {G : MG} {m q : Nat} {p x : Nat → Int} (hy : GangR h wv vv sv kv G) (hT : ThinS G.s) (hl : G.nk ≤ 30) (hp : Ints h lv m p) (hm30 : m ≤ 30) (hx : Ints h xv q x) (hq30 : q ≤ 30) :
    ∃ v h', call n (.func (.func 24) #[] #[]) [.agg ⟨gaL G wv vv sv kv⟩, lv, xv] h = some (v, h') ∧ PlayG h G m p q x v h' := by
  classical
  obtain ⟨n, rfl⟩ : ∃ p, n = p + 1 := ⟨n - 1, by omega⟩
  refine call_any0 fok24 rfl rfl (by simp) ?_
  simp only [s24, jO, jF, jR, jS, jU, jA, jK, W_seq, W_ops]
  refine ops_box (cs := gaL G wv vv sv kv) (by omega) rfl hy.one fun g1 hx1 => ?_
  have n1 := hx1.next
  have f1 := hx1.floor
  have r1 := hx1.row
  have hy1 := hy.mono hx1.sub
  have hp1 : Ints g1 lv m p := Cells.mono hp hx1.sub
  obtain ⟨ov, g2, e2, o2, u2, m2, f2, hO⟩ := openPG_c (n := n) (h := g1) (by omega) (by omega) (by omega) hy1 hT hl hp1 hm30
  rcases hO with ⟨he, rfl⟩ | ⟨he, r, pv, rfl, hm2, hr2, hr2', hpv, hpo⟩
  · have e3 : playE G m p q x = errPG G m p := if_pos he
    simp only [rn0, reduceIte, Nat.reduceEqDiff, Nat.reduceAdd, Nat.reduceMul, Nat.reduceSub, Nat.reduceLeDiff, Nat.reduceLT, r1.whole (n := 10) rfl, e2, ex30, ex31, ex32]
    refine step_new (vs := zcL) (by omega) (by omega) rfl (by simp only [rn0, reduceIte, Nat.reduceEqDiff, Nat.reduceAdd, Nat.reduceMul, Nat.reduceSub, Nat.reduceLeDiff, Nat.reduceLT]; rfl) rfl rfl rfl fun g4 hx4 => ?_
    have n4 := hx4.next
    have f4 := hx4.floor
    simp only [rn0, reduceIte, Nat.reduceEqDiff, Nat.reduceAdd, Nat.reduceMul, Nat.reduceSub, Nat.reduceLeDiff, Nat.reduceLT, he, ret_tt]
    exact ⟨fun i hi => by rw [hx4.old i (by omega), o2 i (by omega), hx1.old i hi], by omega, by omega, by omega, .inl ⟨by rw [e3]; exact he, by rw [e3]⟩⟩
  obtain ⟨hG, hP⟩ := errPG_ok he
  obtain ⟨z0, z1, z4, z5, _, _, zc0, zc9⟩ := hG.sizes
  have hy2 := hy1.mono (AHeap.subOf o2)
  simp only [rn0, reduceIte, Nat.reduceEqDiff, Nat.reduceAdd, Nat.reduceMul, Nat.reduceSub, Nat.reduceLeDiff, Nat.reduceLT, r1.whole (n := 10) rfl, e2, ex30, ex31, ex32]
  refine step_new (vs := crL G wv vv sv kv (.map (some r))) (by omega) (by omega) rfl (by simp only [rn0, reduceIte, Nat.reduceEqDiff, Nat.reduceAdd, Nat.reduceMul, Nat.reduceSub, Nat.reduceLeDiff, Nat.reduceLT]; rfl) (cr_one hy2 rfl) rfl rfl fun g4 hx4 => ?_
  have n4 := hx4.next
  have f4 := hx4.floor
  have r4 := hx4.row
  have o4 : ∀ i, i < h.next → g4.get i = h.get i := fun i hi => by rw [hx4.old i (by omega), o2 i (by omega), hx1.old i hi]
  have hm4 : MapB g4 r key2 (rip G G.nk) := hm2.keep (hx4.old _ hm2.lt)
  have hy4 := hy2.mono hx4.sub
  have hp4 : Ranges g4 pv G.nk (fun k => (k : Int)) p := Cells.mono hpv hx4.sub
  have hx4' : Ints g4 xv q x := Cells.mono hx (AHeap.subOf o4)
  have hM := momOk hG hP
  obtain ⟨A7, hA7⟩ : ∃ q, q = g2.next := ⟨_, rfl⟩
  rw [← hA7] at r4
  rw [← hA7]
  have eh := isHours_c (n := n) (h := g4) (mv := .map (some r)) (by omega) (by omega) hy4 rfl hx4' hq30
  by_cases hH : HrsOk G q x
  case neg =>
    have e3 : playE G m p q x = 2 := by rw [playE, if_neg (by simpa using he), if_neg hH]
    simp only [rn0, reduceIte, Nat.reduceEqDiff, Nat.reduceAdd, Nat.reduceMul, Nat.reduceSub, Nat.reduceLeDiff, Nat.reduceLT, r4.whole (n := 11) rfl, eh, hH, ret_tt]
    exact ⟨o4, by omega, by omega, by omega, .inl ⟨by rw [e3]; decide, by rw [e3]⟩⟩
  have ep := playW_c (n := n) (h := g4) (mv := .map (some r)) (by omega) (by omega) hy4 hG rfl hp4 hM hx4' (Nat.le_of_eq hH.1.symm) (hrs_ok hG hH)
  obtain ⟨a, ha⟩ : ∃ a : Nat → Int, a = fun t => if InT G (fun k => k) p x G.nk then shN G (fun k => k) p x G.nk t else 0 := ⟨_, rfl⟩
  rw [← ha] at ep
  simp only [rn0, reduceIte, Nat.reduceEqDiff, Nat.reduceAdd, Nat.reduceMul, Nat.reduceSub, Nat.reduceLeDiff, Nat.reduceLT, r4.whole (n := 11) rfl, eh, hH, ep, ex0, ex1]
  refine step_new (vs := arrN 10 a) (by omega) (by omega) rfl (by simp only [rn0, reduceIte, Nat.reduceEqDiff, Nat.reduceAdd, Nat.reduceMul, Nat.reduceSub, Nat.reduceLeDiff, Nat.reduceLT]; rfl) arrN_one rfl (by simp [arrN_len]) fun g5 hx5 => ?_
  have n5 := hx5.next
  have f5 := hx5.floor
  have r5 := hx5.row
  have o5 : ∀ i, i < h.next → g5.get i = h.get i := fun i hi => by rw [hx5.old i (by omega), o4 i hi]
  by_cases hI : InT G (fun k => k) p x G.nk
  case neg =>
    have e3 : playE G m p q x = 9 := by rw [playE, if_neg (by simpa using he), if_pos hH, if_neg hI]
    simp only [rn0, reduceIte, Nat.reduceEqDiff, Nat.reduceAdd, Nat.reduceMul, Nat.reduceSub, Nat.reduceLeDiff, Nat.reduceLT, hI, ret_tt]
    exact ⟨o5, by omega, by omega, by omega, .inl ⟨by rw [e3]; decide, by rw [e3]⟩⟩
  have e3 : playE G m p q x = 0 := by rw [playE, if_neg (by simpa using he), if_pos hH, if_pos hI]
  have hcl : ((G.close.toNat : Nat) : Int) = G.close := Int.toNat_of_nonneg zc0
  have hw : wrapF .i64 (G.close + 1) = ((G.close.toNat + 1 : Nat) : Int) := by rw [wrap_in (by omega) (by omega)]; omega
  have hsl := sliceArr10 (h := g5) (b := g4.next) (m := G.close.toNat + 1) (by omega)
  have hpart := arr_part (k := G.close.toNat + 1) (cap := 10) r5 (by omega) (by omega)
  obtain ⟨cv, g6, e6, i6, one6, o6, u6, m6, f6, _⟩ := clone_c (n := n) (h := g5) (by omega) (by omega) hpart (by omega)
  have r45 := r4.mono hx5.sub
  simp only [rn0, reduceIte, Nat.reduceEqDiff, Nat.reduceAdd, Nat.reduceMul, Nat.reduceSub, Nat.reduceLeDiff, Nat.reduceLT, hI, r45.ld, crg, Nat.zero_add, hw, x_sliceArr, Option.map_none, Option.map_some, hsl, e6, ret_tt]
  refine ⟨fun i hi => by rw [o6 i (by omega), o5 i hi], by omega, by omega, by omega, .inr ⟨e3, cv, rfl, ?_, one6⟩⟩
  have : a = shN G (fun k => k) p x G.nk := by rw [ha]; funext t; rw [if_pos hI]
  rw [← this]; exact i6

theorem plan_sm {G : MG} {m : Nat} {p : Nat → Int} (hG : GoodG G) (hP : PlanOk G m p) : SmI m p := fun i hi => by
  obtain ⟨e, hP⟩ := hP
  have h1 := hP i hi
  have h2 := (hG.begin (v := i) (by omega)).2
  have h3 := hG.sizes
  omega

noncomputable def busyE (G : MG) (m : Nat) (p : Nat → Int) : Int := if errPG G m p ≠ 0 then errPG G m p else if InT G (fun k => k) p G.khi G.nk then 0 else 9
def BusyG (h : AHeap) (G : MG) (m : Nat) (p : Nat → Int) (v : Value) (h' : AHeap) : Prop :=
  (∀ i, i < h.next → h'.get i = h.get i) ∧ h.next ≤ h'.next ∧ h'.next ≤ h.next + 500 ∧ h'.floor = h.floor ∧
    ((busyE G m p ≠ 0 ∧ v = .tuple ⟨[nilS, .int .i64 (busyE G m p)]⟩) ∨ (busyE G m p = 0 ∧ ∃ lv, v = .tuple ⟨[lv, .int .i64 0]⟩ ∧ Ranges h' lv (G.close.toNat + 1) (shN G (fun k => k) p G.klo G.nk) (shN G (fun k => k) p G.khi G.nk) ∧ oneCell lv = true))
theorem inT_klo {G : MG} {p : Nat → Int} {k : Nat} (hG : GoodG G) (hk : k ≤ G.nk) (hi : InT G (fun k => k) p G.khi k) : InT G (fun k => k) p G.klo k := fun j hj => by
  have h1 := (hG.works j (by omega)).2
  rcases hi j hj with e | e
  · left; have e' : G.khi j ≤ 0 := e; show G.klo j ≤ 0; omega
  · by_cases c : G.klo j ≤ 0
    · exact .inl c
    · right; have e' : p j + G.khi j ≤ G.close := e; show p j + G.klo j ≤ G.close; omega
theorem crew_self {wv vv sv kv : Value} {r : Nat} {G : MG} (hy : GangR h wv vv sv kv G) : eqV (.agg ⟨crL G wv vv sv kv (.map (some r))⟩) (.agg ⟨crL G wv vv sv kv (.map (some r))⟩) = true := by
  have hmm : eqCell (.map (some r)) (.map (some r)) = true := by simp [eqCell]
  simp [crL, eqV, eqCells, eqC_int, Cells.selfC hy.s.w, Cells.selfC hy.s.v, Cells.selfC hy.s.s, Cells.selfC hy.k, hmm]
def s34 : SCode := (.seq (.ops [jO 2 (.box (T 0)), jO 4 (.mov (.const (.slice none 0 0))), jO 5 (.mov (jK 0))]) (.seq (.ops [jO 16 (.loadN 10 (T 2)), jO 17 (.mov (T 1)), jO 18 (.call (.func 76) [(T 16), (T 17)]), jO 15 (.mov (T 18)), jO 19 (.extract 0 (T 15)), jO 20 (.extract 1 (T 15)), jO 21 (.extract 2 (T 15)), jO 6 (.alloc [(.int .i64 0), (.int .i64 0), (.slice none 0 0), (.int .i64 0), (.int .i64 0), (.slice none 0 0), (.slice none 0 0), (.int .i64 0), (.int .i64 0), (.slice none 0 0), (.map none)]), ⟨none, none, .store 11 (T 6) (T 19)⟩, jO 7 (.mov (T 20)), jO 8 (.mov (T 21))]) (.seq (.seq (.ops [jO 22 (.mov (T 8)), jO 23 (.int2 .neq (T 22) (jK 0))]) (.cond (T 23) (.seq (.ops [jO 24 (.mov (T 8)), jO 4 (.mov (.const (.slice none 0 0))), jO 5 (.mov (T 24))]) .ret) .skip)) (.seq (.draw [jR 26 (.loadN 11 (T 6)), jF 27 (.mov (T 7)), jF 28 (.build #[(0, 1)] [.nilFunc] [0] [(.func 84)]), jF 29 (.fieldAddr 0 (T 6)), jF 30 (.fieldAddr 9 (T 29)), jS 31 (.load1 (T 30)), jU 32 (.call (.func 85) [(T 28), (T 31)]), jA 33 (.call (.func 78) [(T 26), (T 27), (T 32)]), jF 25 (.mov (T 33)), jF 34 (.extract 0 (T 25)), jF 35 (.extract 1 (T 25)), jA 9 (.alloc [(.int .i64 0), (.int .i64 0), (.int .i64 0), (.int .i64 0), (.int .i64 0), (.int .i64 0), (.int .i64 0), (.int .i64 0), (.int .i64 0), (.int .i64 0)]), ⟨.any, ⟨none, none, .store 10 (T 9) (T 34)⟩⟩, jF 10 (.mov (T 35))]) (.seq (.seq (.ops [jO 36 (.mov (T 10)), jO 37 (.not (T 36))]) (.cond (T 37) (.seq (.ops [jO 4 (.mov (.const (.slice none 0 0))), jO 5 (.mov (jK 9))]) .ret) .skip)) (.seq (.draw [jR 39 (.loadN 11 (T 6)), jF 40 (.mov (T 7)), jF 41 (.build #[(0, 1)] [.nilFunc] [0] [(.func 86)]), jF 42 (.fieldAddr 0 (T 6)), jF 43 (.fieldAddr 9 (T 42)), jS 44 (.load1 (T 43)), jU 45 (.call (.func 85) [(T 41), (T 44)]), jA 46 (.call (.func 78) [(T 39), (T 40), (T 45)]), jF 38 (.mov (T 46)), jF 47 (.extract 0 (T 38)), jF 48 (.extract 1 (T 38)), jA 11 (.alloc [(.int .i64 0), (.int .i64 0), (.int .i64 0), (.int .i64 0), (.int .i64 0), (.int .i64 0), (.int .i64 0), (.int .i64 0), (.int .i64 0), (.int .i64 0)]), ⟨.any, ⟨none, none, .store 10 (T 11) (T 47)⟩⟩, jF 12 (.mov (T 48))]) (.seq (.ops [jO 13 (.mov (.const (.slice none 0 0)))]) (.seq (.seq (.ops [jO 49 (.fieldAddr 0 (T 6)), jO 50 (.fieldAddr 8 (T 49)), jO 51 (.load1 (T 50)), jO 52 (.int2 .add (T 51) (jK 1)), jO 53 (.mov (jK 0))]) (.block 0 (.loop (.seq (.ops [jO 54 (.int2 .lss (T 53) (T 52))]) (.seq (.cond (T 54) .skip (.exit 0)) (.seq (.block 1 (.seq (.ops [jO 55 (.mov (T 53)), jO 14 (.mov (T 55))]) (.draw [jF 56 (.mov (T 13)), jF 57 (.mov (T 14)), jF 58 (.idxArr 10 1 (T 11) (T 57)), jS 59 (.load1 (T 58)), jF 60 (.mov (T 14)), jF 61 (.idxArr 10 1 (T 9) (T 60)), jS 62 (.load1 (T 61)), jF 63 (.build #[(0, 1), (1, 1)] [(.int .i64 0), (.int .i64 0)] [0, 1] [(T 59), (T 62)]), jA 64 (.bslice 2 1 [(.int .i64 0), (.int .i64 0)] [0] [(T 63)]), jA 65 (.append 2 16 (T 56) (T 64)), jF 13 (.mov (T 65))]))) (.ops [jO 66 (.int2 .add (T 53) (jK 1)), jO 53 (.mov (T 66))]))))))) (.seq (.ops [jO 67 (.mov (T 13)), jO 4 (.mov (T 67)), jO 5 (.mov (jK 0))]) .ret)))))))))
theorem fok34 : FnOk Tryz.prog 34 68 s34 [.tmp 4, .tmp 5] := ⟨Tryz.f34, _, Tryz.func34, rfl, Tryz.ntmps34, by kernel_rfl, by kernel_rfl⟩
set_option maxHeartbeats 2000000 in
theorem busyG_c (hn : 2540 ≤ n) (hr : h.next + 1500000 < far) (hfl : h.floor ≤ h.next) {wv vv sv kv lv : Value} {G : MG} {m : Nat} {p : Nat → Int} (hy : GangR h wv vv sv kv G) (hT : ThinS G.s) (hl : G.nk ≤ 30) (hp : Ints h lv m p) (hm30 : m ≤ 30) :
    ∃ v h', call n (.func (.func 34) #[] #[]) [.agg ⟨gaL G wv vv sv kv⟩, lv] h = some (v, h') ∧ BusyG h G m p v h' := by
  classical
  obtain ⟨n, rfl⟩ : ∃ p, n = p + 1 := ⟨n - 1, by omega⟩
  refine call_any0 fok34 rfl rfl (by simp) ?_
  simp only [s34, jO, jF, jR, jS, jU, jA, jK, W_seq, W_ops]
  refine ops_box (cs := gaL G wv vv sv kv) (by omega) rfl hy.one fun g1 hx1 => ?_
  have n1 := hx1.next
  have f1 := hx1.floor
  have r1 := hx1.row
  have hy1 := hy.mono hx1.sub
  have hp1 : Ints g1 lv m p := Cells.mono hp hx1.sub
  obtain ⟨ov, g2, e2, o2, u2, m2, f2, hO⟩ := openPG_c (n := n) (h := g1) (by omega) (by omega) (by omega) hy1 hT hl hp1 hm30
  rcases hO with ⟨he, rfl⟩ | ⟨he, r, pv, rfl, hm2, hr2, hr2', hpv, hpo⟩
  · have e3 : busyE G m p = errPG G m p := if_pos he
    simp only [rn0, reduceIte, Nat.reduceEqDiff, Nat.reduceAdd, Nat.reduceMul, Nat.reduceSub, Nat.reduceLeDiff, Nat.reduceLT, r1.whole (n := 10) rfl, e2, ex30, ex31, ex32]
    refine step_new (vs := zcL) (by omega) (by omega) rfl (by simp only [rn0, reduceIte, Nat.reduceEqDiff, Nat.reduceAdd, Nat.reduceMul, Nat.reduceSub, Nat.reduceLeDiff, Nat.reduceLT]; rfl) rfl rfl rfl fun g4 hx4 => ?_
    have n4 := hx4.next
    have f4 := hx4.floor
    simp only [rn0, reduceIte, Nat.reduceEqDiff, Nat.reduceAdd, Nat.reduceMul, Nat.reduceSub, Nat.reduceLeDiff, Nat.reduceLT, he, ret_tt]
    exact ⟨fun i hi => by rw [hx4.old i (by omega), o2 i (by omega), hx1.old i hi], by omega, by omega, by omega, .inl ⟨by rw [e3]; exact he, by rw [e3]⟩⟩
  obtain ⟨hG, hP⟩ := errPG_ok he
  obtain ⟨z0, z1, z4, z5, _, _, zc0, zc9⟩ := hG.sizes
  have hy2 := hy1.mono (AHeap.subOf o2)
  simp only [rn0, reduceIte, Nat.reduceEqDiff, Nat.reduceAdd, Nat.reduceMul, Nat.reduceSub, Nat.reduceLeDiff, Nat.reduceLT, r1.whole (n := 10) rfl, e2, ex30, ex31, ex32]
  refine step_new (vs := crL G wv vv sv kv (.map (some r))) (by omega) (by omega) rfl (by simp only [rn0, reduceIte, Nat.reduceEqDiff, Nat.reduceAdd, Nat.reduceMul, Nat.reduceSub, Nat.reduceLeDiff, Nat.reduceLT]; rfl) (cr_one hy2 rfl) rfl rfl fun g4 hx4 => ?_
  have n4 := hx4.next
  have f4 := hx4.floor
  have r4 := hx4.row
  have o4 : ∀ i, i < h.next → g4.get i = h.get i := fun i hi => by rw [hx4.old i (by omega), o2 i (by omega), hx1.old i hi]
  have hy4 := hy2.mono hx4.sub
  have hp4 : Ranges g4 pv G.nk (fun k => (k : Int)) p := Cells.mono hpv hx4.sub
  have hM := momOk hG hP
  obtain ⟨A7, hA7⟩ : ∃ q, q = g2.next := ⟨_, rfl⟩
  rw [← hA7] at r4
  rw [← hA7]
  -- the most
  obtain ⟨hv, g5, e5, ih, oh, o5, u5, m5, f5⟩ := endHours_c (n := n) (h := g4) (by omega) (by omega) (by omega) hy4 (by omega) (high_h (by omega))
  have s45 : Sub All g4 g5 := AHeap.subOf o5
  have hy5 := hy4.mono s45
  have hp5 : Ranges g5 pv G.nk (fun k => (k : Int)) p := Cells.mono hp4 s45
  have ep := playW_c (n := n) (h := g5) (mv := .map (some r)) (by omega) (by omega) hy5 hG rfl hp5 hM ih (Nat.le_refl _) (khi_s hG)
  obtain ⟨a, ha⟩ : ∃ a : Nat → Int, a = fun t => if InT G (fun k => k) p G.khi G.nk then shN G (fun k => k) p G.khi G.nk t else 0 := ⟨_, rfl⟩
  rw [← ha] at ep
  have hkv : eqV kv kv = true := Cells.self hy4.k
  have hcs := crew_self (r := r) hy4
  simp only [rn0, reduceIte, Nat.reduceEqDiff, Nat.reduceAdd, Nat.reduceMul, Nat.reduceSub, Nat.reduceLeDiff, Nat.reduceLT]
  refine W_draw All ?_
  simp only [rn0, reduceIte, Nat.reduceEqDiff, Nat.reduceAdd, Nat.reduceMul, Nat.reduceSub, Nat.reduceLeDiff, Nat.reduceLT, r4.whole (n := 11) rfl, r4.ld, crg, Nat.zero_add, hcs, hkv, build_f1, e5, ep, ex0, ex1]
  first | refine ⟨u5, ?_⟩ | refine ⟨⟨u5, s45⟩, ?_⟩ | skip
  refine up_row (cs := arrN 10 fun _ => 0) (by omega) rfl rfl (fun _ _ => trivial) fun g6 hx6 => ?_
  have n6 := hx6.next
  have f6 := hx6.floor
  simp only [rn0, reduceIte, Nat.reduceEqDiff, Nat.reduceAdd, Nat.reduceMul, Nat.reduceSub, Nat.reduceLeDiff, Nat.reduceLT]
  refine up_store (b := g5.next) (off := 0) (vs := arrN 10 a) rfl hx6.get (by omega) (by omega) rfl arrN_one rfl (by simp [arrN_len]) (fun _ _ => trivial) fun g7 hs7 => ?_
  rw [splice_all (by simp [arrN_len])] at hs7
  have n7 := hs7.next
  have f7 := hs7.floor
  have r7 := hs7.row
  have o7 : ∀ i, i < g5.next → g7.get i = g5.get i := fun i hi => by rw [hs7.old i (by omega), hx6.old i hi]
  have o47 : ∀ i, i < g4.next → g7.get i = g4.get i := fun i hi => by rw [o7 i (by omega), o5 i hi]
  by_cases hI : InT G (fun k => k) p G.khi G.nk
  case neg =>
    have e3 : busyE G m p = 9 := by rw [busyE, if_neg (by simpa using he), if_neg hI]
    simp only [rn0, reduceIte, Nat.reduceEqDiff, Nat.reduceAdd, Nat.reduceMul, Nat.reduceSub, Nat.reduceLeDiff, Nat.reduceLT, hI, ret_tt]
    exact ⟨fun i hi => by rw [o47 i (by omega), o4 i hi], by omega, by omega, by omega, .inl ⟨by rw [e3]; decide, by rw [e3]⟩⟩
  have e3 : busyE G m p = 0 := by rw [busyE, if_neg (by simpa using he), if_pos hI]
  -- the least
  have s47 : Sub All g4 g7 := AHeap.subOf o47
  have hy7 := hy4.mono s47
  have hp7 : Ranges g7 pv G.nk (fun k => (k : Int)) p := Cells.mono hp4 s47
  have r47 := r4.mono s47
  obtain ⟨lov, g8, e8, il, ol, o8, u8, m8, f8⟩ := endHours_c (n := n) (h := g7) (by omega) (by omega) (by omega) hy7 (by omega) (low_h (by omega))
  have s78 : Sub All g7 g8 := AHeap.subOf o8
  have hy8 := hy7.mono s78
  have hp8 : Ranges g8 pv G.nk (fun k => (k : Int)) p := Cells.mono hp7 s78
  have ep8 := playW_c (n := n) (h := g8) (mv := .map (some r)) (by omega) (by omega) hy8 hG rfl hp8 hM il (Nat.le_refl _) (klo_s hG)
  obtain ⟨b, hb⟩ : ∃ b : Nat → Int, b = fun t => if InT G (fun k => k) p G.klo G.nk then shN G (fun k => k) p G.klo G.nk t else 0 := ⟨_, rfl⟩
  rw [← hb] at ep8
  obtain ⟨B9, hB9⟩ : ∃ q, q = g5.next := ⟨_, rfl⟩
  rw [← hB9] at r7
  rw [← hB9]
  simp only [rn0, reduceIte, Nat.reduceEqDiff, Nat.reduceAdd, Nat.reduceMul, Nat.reduceSub, Nat.reduceLeDiff, Nat.reduceLT, hI]
  refine W_draw All ?_
  simp only [rn0, reduceIte, Nat.reduceEqDiff, Nat.reduceAdd, Nat.reduceMul, Nat.reduceSub, Nat.reduceLeDiff, Nat.reduceLT, r47.whole (n := 11) rfl, r47.ld, crg, Nat.zero_add, hcs, hkv, build_f1, e8, ep8, ex0, ex1]
  first | refine ⟨u8, ?_⟩ | refine ⟨⟨u8, s78⟩, ?_⟩ | skip
  refine up_row (cs := arrN 10 fun _ => 0) (by omega) rfl rfl (fun _ _ => trivial) fun g9 hx9 => ?_
  have n9 := hx9.next
  have f9 := hx9.floor
  simp only [rn0, reduceIte, Nat.reduceEqDiff, Nat.reduceAdd, Nat.reduceMul, Nat.reduceSub, Nat.reduceLeDiff, Nat.reduceLT]
  refine up_store (b := g8.next) (off := 0) (vs := arrN 10 b) rfl hx9.get (by omega) (by omega) rfl arrN_one rfl (by simp [arrN_len]) (fun _ _ => trivial) fun g10 hs10 => ?_
  rw [splice_all (by simp [arrN_len])] at hs10
  have n10 := hs10.next
  have f10 := hs10.floor
  have r10 := hs10.row
  have o10 : ∀ i, i < g7.next → g10.get i = g7.get i := fun i hi => by rw [hs10.old i (by omega), hx9.old i (by omega), o8 i hi]
  have s710 : Sub All g7 g10 := AHeap.subOf o10
  have r4' := r47.mono s710
  have r9 := r7.mono s710
  have old10 : ∀ i, i < h.next → g10.get i = h.get i := fun i hi => by rw [o10 i (by omega), o47 i (by omega), o4 i hi]
  obtain ⟨B11, hB11⟩ : ∃ q, q = g8.next := ⟨_, rfl⟩
  rw [← hB11] at r10
  rw [← hB11]
  have hcl : ((G.close.toNat : Nat) : Int) = G.close := Int.toNat_of_nonneg zc0
  have hw : wrapF .i64 (G.close + 1) = ((G.close.toNat + 1 : Nat) : Int) := by rw [wrap_in (by omega) (by omega)]; omega
  simp only [rn0, reduceIte, Nat.reduceEqDiff, Nat.reduceAdd, Nat.reduceMul, Nat.reduceSub, Nat.reduceLeDiff, Nat.reduceLT, r4'.ld, crg, Nat.zero_add, hw]
  refine W_loop (G.close.toNat + 1) (fun k f g ms => (∃ v, (∀ i, i < g10.next → g.get i = g10.get i) ∧ g.floor = h.floor ∧ g10.next ≤ g.next ∧ g.next ≤ g10.next + 2 * k ∧ GrowC g10.next g v 2 k (fun k j => .int .i64 (if j = 0 then b k else a k)) ∧ f 13 = v) ∧ ms = [] ∧ f 9 = .pointer (some ⟨B9, 0, none⟩) ∧ f 11 = .pointer (some ⟨B11, 0, none⟩) ∧ f 52 = .int .i64 ((G.close.toNat + 1 : Nat) : Int) ∧ f 53 = .int .i64 (k : Int)) (by simp; omega) ?_ ?_ ?_
  · simp only [rn0, reduceIte, Nat.reduceEqDiff, Nat.reduceAdd, Nat.reduceMul, Nat.reduceSub, Nat.reduceLeDiff, Nat.reduceLT, Int.natCast_zero]
    first | exact ⟨⟨nilS, fun i _ => trivial, by omega, by omega, by omega, .nil, rfl⟩, rfl⟩ | exact ⟨nilS, fun i _ => trivial, by omega, by omega, by omega, .nil, rfl⟩ | exact ⟨nilS, fun i _ => trivial, by omega, by omega, .nil, rfl⟩
  · rintro k f g ms hk' ⟨⟨v, ho, hfg, hup, hnx, gv, p13⟩, rfl, p9, p11, p52, p53⟩
    have hi' : (k : Int) < ((G.close.toNat + 1 : Nat) : Int) := by omega
    have hwk : wrapF .i64 ((k : Int) + 1) = ((k + 1 : Nat) : Int) := by rw [wrap_in (by omega) (by omega)]; rfl
    have r9g := r9.mono (AHeap.subOf ho)
    have r10g := r10.mono (AHeap.subOf ho)
    have k10 : k < 10 := by omega
    simp only [rn0, reduceIte, Nat.reduceEqDiff, Nat.reduceAdd, Nat.reduceMul, Nat.reduceSub, Nat.reduceLeDiff, Nat.reduceLT, p9, p11, p13, p52, p53, hi']
    refine W_draw All ?_
    simp only [rn0, reduceIte, Nat.reduceEqDiff, Nat.reduceAdd, Nat.reduceMul, Nat.reduceSub, Nat.reduceLeDiff, Nat.reduceLT, p9, p11, p13, p52, p53, gv.cells.self, idxArr_p k10, Nat.zero_add, r9g.ld, r10g.ld, arrN_get k10, build_range, sl_range]
    refine up_slice (by omega) rfl (fun _ _ => trivial) fun g11 hx11 => ?_
    have n11 := hx11.next
    obtain ⟨v', g12, e12, gv12, o12, n12, f12, old12, u12⟩ := grow_push (h := g) (bytes := 16) gv (by omega) (by omega) (by omega) hx11 rfl rfl (fun j hj => by
      obtain rfl | rfl : j = 0 ∨ j = 1 := by omega
      all_goals rfl) (by simp [maxBytes]; omega) (by simp [maxBytes]; omega)
    simp only [rn0, reduceIte, Nat.reduceEqDiff, Nat.reduceAdd, Nat.reduceMul, Nat.reduceSub, Nat.reduceLeDiff, Nat.reduceLT, p9, p11, p13, p52, p53, e12]
    refine ⟨u12, ?_⟩
    simp only [rn0, reduceIte, Nat.reduceEqDiff, Nat.reduceAdd, Nat.reduceMul, Nat.reduceSub, Nat.reduceLeDiff, Nat.reduceLT, p9, p11, p13, p52, p53, hwk]
    first | exact ⟨⟨v', fun i hi => by rw [old12 i (by omega), ho i hi], by omega, by omega, by omega, gv12, rfl⟩, rfl⟩ | exact ⟨v', fun i hi => by rw [old12 i (by omega), ho i hi], by omega, by omega, by omega, gv12, rfl⟩
  rintro f g ms ⟨⟨v, ho, hfg, hup, hnx, gv, p13⟩, rfl, p9, p11, p52, p53⟩
  simp only [rn0, reduceIte, Nat.reduceEqDiff, Nat.reduceAdd, Nat.reduceMul, Nat.reduceSub, Nat.reduceLeDiff, Nat.reduceLT, p9, p11, p13, p52, p53, Int.lt_irrefl, ret_tt]
  refine ⟨fun i hi => by rw [ho i (by omega), old10 i hi], by omega, by omega, by omega, .inr ⟨e3, v, rfl, ?_, gv.one⟩⟩
  have ea : a = shN G (fun k => k) p G.khi G.nk := by rw [ha]; funext t; rw [if_pos hI]
  have eb : b = shN G (fun k => k) p G.klo G.nk := by rw [hb]; funext t; rw [if_pos (inT_klo hG (Nat.le_refl _) hI)]
  rw [← ea, ← eb]; exact gv.cells


def s106 : SCode := (.seq (.ops [jO 4 (.mov (jK 0))]) (.seq (.seq (.ops [jO 5 (.mov (T 0)), jO 6 (.len (T 5)), jO 7 (.int2 .eql (T 6) (jK 0))]) (.cond (T 7) (.seq (.ops [jO 4 (.mov (jK 0))]) .ret) .skip)) (.seq (.ops [jO 8 (.mov (T 0)), jO 9 (.mov (T 1)), jO 10 (.mov (T 0)), jO 11 (.len (T 10)), jO 12 (.plain (.binOp .rem 3 (T 9) (T 11) 3) 3), jO 13 (.idxSl 1 (T 8) (T 12)), jO 14 (.load1 (T 13)), jO 15 (.plain (.convert 82 3 (T 14)) 3), jO 4 (.mov (T 15))]) .ret)))
theorem fok106 : FnOk Tryz.prog 106 16 s106 [.tmp 4] := ⟨Tryz.f106, _, Tryz.func106, rfl, Tryz.ntmps106, by kernel_rfl, by kernel_rfl⟩
theorem word_c (hn : 1 ≤ n) {ws : Value} {m : Nat} {a : Nat → Nat} (hw : Words h ws m a) (i : Nat) :
    call n (.func (.func 106) #[] #[]) [ws, .int .i64 (i : Int)] h = some (.int .i64 ((wordN m a i : Nat) : Int), h) := by
  obtain ⟨n, rfl⟩ : ∃ p, n = p + 1 := ⟨n - 1, by omega⟩
  refine call_plain0 fok106 rfl rfl (by simp) rfl ?_
  have hw : Words h.shutAll ws m a := ⟨Cells.shut hw.1, hw.2⟩
  generalize h.shutAll = h at hw
  by_cases hm : m = 0
  · have hm' : (m : Int) = 0 := by omega
    have hz : wordN m a i = 0 := by unfold wordN; rw [if_pos hm]
    rw [hz]
    simp only [rn0, reduceIte, Nat.reduceEqDiff, Nat.reduceAdd, Nat.reduceMul, Nat.reduceSub, Nat.reduceLeDiff, Nat.reduceLT, s106, jO, jF, jR, jS, jU, jA, jK, Cells.len hw.1, hm', Int.natCast_zero]
  · have hm' : ¬ (m : Int) = 0 := by omega
    have hlt : i % m < m := Nat.mod_lt _ (by omega)
    have hz : wordN m a i = a (i % m) := by unfold wordN; rw [if_neg hm]
    have m1 : (i : Int).tmod (m : Int) = ((i % m : Nat) : Int) := rfl
    rw [hz]
    simp only [rn0, reduceIte, Nat.reduceEqDiff, Nat.reduceAdd, Nat.reduceMul, Nat.reduceSub, Nat.reduceLeDiff, Nat.reduceLT, s106, jO, jF, jR, jS, jU, jA, jK, Cells.len hw.1, hm', valN_tmp, valN_const, r_rem hm', m1, Cells.idx hw.1 hlt, Cells.ld hw.1 hlt Nat.zero_lt_one, p_conv16, r_16 (hw.2 _ hlt)]
def hoursOfV (G : MG) (v : Nat) : Nat := (G.s.last - G.s.vb v + 1).toNat
def chosenP (G : MG) (m : Nat) (a : Nat → Nat) (k : Nat) : Int := G.s.vb k + ((wordN m a k % hoursOfV G k : Nat) : Int)
theorem chosen_ok {G : MG} (hG : GoodG G) (m : Nat) (a : Nat → Nat) : PlanOk G G.nk (chosenP G m a) := ⟨rfl, fun i hi => by
  have h1 := (hG.begin hi).2
  have h2 : wordN m a i % hoursOfV G i < hoursOfV G i := Nat.mod_lt _ (by unfold hoursOfV; omega)
  unfold chosenP
  generalize wordN m a i % hoursOfV G i = q at h2
  unfold hoursOfV at h2
  omega⟩
def s54 : SCode := (.seq (.ops [jO 2 (.box (T 0)), jO 4 (.mov (.const (.slice none 0 0)))]) (.seq (.ops [jO 5 (.mov (.const (.slice none 0 0)))]) (.seq (.seq (.ops [jO 6 (.mov (jK 0))]) (.block 0 (.loop (.seq (.seq (.ops [jO 8 (.mov (T 6)), jO 9 (.fieldAddr 9 (T 2)), jO 10 (.load1 (T 9)), jO 11 (.len (T 10)), jO 12 (.int2 .lss (T 8) (T 11))]) (.cond (T 12) .skip (.exit 0))) (.seq (.block 1 (.seq (.ops [jO 15 (.fieldAddr 0 (T 2)), jO 16 (.fieldAddr 5 (T 15)), jO 17 (.load1 (T 16)), jO 18 (.mov (T 6)), jO 19 (.idxSl 4 (T 17) (T 18)), jO 20 (.fieldAddr 0 (T 19)), jO 21 (.load1 (T 20)), jO 7 (.mov (T 21))]) (.draw [jF 22 (.mov (T 5)), jF 23 (.mov (T 7)), jF 24 (.mov (T 1)), jF 25 (.mov (T 6)), jU 26 (.call (.func 106) [(T 24), (T 25)]), jF 27 (.fieldAddr 0 (T 2)), jF 28 (.fieldAddr 0 (T 27)), jR 29 (.load1 (T 28)), jF 30 (.mov (T 7)), jF 31 (.int2 .sub (T 29) (T 30)), jF 32 (.int2 .add (T 31) (jK 1)), jF 33 (.plain (.binOp .rem 3 (T 26) (T 32) 3) 3), jF 34 (.int2 .add (T 23) (T 33)), jA 35 (.bslice 1 1 [(.int .i64 0)] [0] [(T 34)]), jA 36 (.append 1 8 (T 22) (T 35)), jF 5 (.mov (T 36))]))) (.ops [jO 13 (.mov (T 6)), jO 14 (.int2 .add (T 13) (jK 1)), jO 6 (.mov (T 14))])))))) (.seq (.ops [jO 37 (.mov (T 5)), jO 4 (.mov (T 37))]) .ret))))
theorem fok54 : FnOk Tryz.prog 54 38 s54 [.tmp 4] := ⟨Tryz.f54, _, Tryz.func54, rfl, Tryz.ntmps54, by kernel_rfl, by kernel_rfl⟩
set_option maxHeartbeats 1000000 in
theorem chosen_c (hn : 60 ≤ n) (hr : h.next + 80 < far) (hfl : h.floor ≤ h.next) {wv vv sv kv ws : Value} {G : MG} {m : Nat} {a : Nat → Nat} (hy : GangR h wv vv sv kv G) (hG : GoodG G) (hw : Words h ws m a) :
    ∃ w h', call n (.func (.func 54) #[] #[]) [.agg ⟨gaL G wv vv sv kv⟩, ws] h = some (w, h') ∧ Ints h' w G.nk (chosenP G m a) ∧ oneCell w = true ∧ (∀ i, i < h.next → h'.get i = h.get i) ∧ h.next ≤ h'.next ∧ h'.next ≤ h.next + 70 ∧ h'.floor = h.floor := by
  obtain ⟨n, rfl⟩ : ∃ p, n = p + 1 := ⟨n - 1, by omega⟩
  refine call_any0 fok54 rfl rfl (by simp) ?_
  obtain ⟨z0, z1, z4, z5, _⟩ := hG.sizes
  simp only [s54, jO, jF, jR, jS, jU, jA, jK, W_seq, W_ops]
  refine ops_box (cs := gaL G wv vv sv kv) (by omega) rfl hy.one fun g1 hx1 => ?_
  have n1 := hx1.next
  have f1 := hx1.floor
  have hy1 := hy.mono hx1.sub
  have hw1 := hw.mono hx1.sub
  have r1 := hx1.row
  simp only [rn0, reduceIte, Nat.reduceEqDiff, Nat.reduceAdd, Nat.reduceMul, Nat.reduceSub, Nat.reduceLeDiff, Nat.reduceLT]
  refine W_loop G.nk (fun k f g ms => (∃ v, (∀ i, i < g1.next → g.get i = g1.get i) ∧ g.floor = h.floor ∧ g1.next ≤ g.next ∧ g.next ≤ g1.next + 2 * k ∧ GrowC g1.next g v 1 k (fun i _ => .int .i64 (chosenP G m a i)) ∧ f 5 = v) ∧ ms = [] ∧ f 1 = ws ∧ f 2 = .pointer (some ⟨h.next, 0, none⟩) ∧ f 6 = .int .i64 (k : Int)) (by simp; omega) ?_ ?_ ?_
  · simp only [rn0, reduceIte, Nat.reduceEqDiff, Nat.reduceAdd, Nat.reduceMul, Nat.reduceSub, Nat.reduceLeDiff, Nat.reduceLT, Int.natCast_zero]
    first | exact ⟨⟨nilS, fun i _ => trivial, by omega, by omega, by omega, .nil, rfl⟩, rfl⟩ | exact ⟨nilS, fun i _ => trivial, by omega, by omega, by omega, .nil, rfl⟩ | exact ⟨nilS, by omega, by omega, by omega, .nil, rfl⟩ | exact ⟨nilS, fun i _ => trivial, f1, by omega, .nil, rfl⟩
  · rintro k f g ms hk' ⟨⟨v, ho, hfg, hup, hnx, gv, p5⟩, rfl, p1, p2, p6⟩
    have hi' : (k : Int) < (G.nk : Int) := by omega
    have hwk : wrapF .i64 ((k : Int) + 1) = ((k + 1 : Nat) : Int) := by rw [wrap_in (by omega) (by omega)]; rfl
    have sg : Sub All g1 g := AHeap.subOf ho
    have rg := r1.mono sg
    have hyg := hy1.mono sg
    have hwg := hw1.mono sg
    have hv : k < G.s.nv := by omega
    have hb := (hG.begin hk').2
    have ew := word_c (n := n) (h := g) (by omega) hwg k
    have w1 : wrapF .i64 (G.s.last - G.s.vb k) = G.s.last - G.s.vb k := wrap_in (by omega) (by omega)
    have w2 : wrapF .i64 (G.s.last - G.s.vb k + 1) = ((hoursOfV G k : Nat) : Int) := by rw [wrap_in (by omega) (by omega)]; unfold hoursOfV; omega
    have hne : ¬ ((hoursOfV G k : Nat) : Int) = 0 := by unfold hoursOfV; omega
    have m1 : ((wordN m a k : Nat) : Int).tmod ((hoursOfV G k : Nat) : Int) = ((wordN m a k % hoursOfV G k : Nat) : Int) := rfl
    have hlt : wordN m a k % hoursOfV G k < hoursOfV G k := Nat.mod_lt _ (by omega)
    have w3 : wrapF .i64 (G.s.vb k + ((wordN m a k % hoursOfV G k : Nat) : Int)) = chosenP G m a k := by
      rw [wrap_in (by omega) (by have : hoursOfV G k ≤ 6 := (by unfold hoursOfV; omega); omega)]; rfl
    simp only [rn0, reduceIte, Nat.reduceEqDiff, Nat.reduceAdd, Nat.reduceMul, Nat.reduceSub, Nat.reduceLeDiff, Nat.reduceLT, p1, p2, p5, p6, rg.ld, gag, Nat.zero_add, Cells.len hyg.k, hi', Cells.idx hyg.s.v hv, Cells.fld hyg.s.v hv, begin_ld hyg.s hv]
    refine W_draw All ?_
    simp only [rn0, reduceIte, Nat.reduceEqDiff, Nat.reduceAdd, Nat.reduceMul, Nat.reduceSub, Nat.reduceLeDiff, Nat.reduceLT, p1, p2, p5, p6, rg.ld, gag, Nat.zero_add, gv.cells.self, ew, w1, w2, valN_tmp, valN_const, r_rem hne, m1, w3, sl_int, eqV_int]
    refine up_slice (by omega) rfl (fun _ _ => trivial) fun g5 hx5 => ?_
    have n5 := hx5.next
    obtain ⟨v', g6, e6, gv6, o6, n6, f6, old6, u6⟩ := grow_push (h := g) (bytes := 8) gv (by omega) (by omega) (by omega) hx5 rfl rfl (fun j hj => by
      obtain rfl : j = 0 := by omega
      rfl) (by simp [maxBytes]; omega) (by simp [maxBytes]; omega)
    simp only [rn0, reduceIte, Nat.reduceEqDiff, Nat.reduceAdd, Nat.reduceMul, Nat.reduceSub, Nat.reduceLeDiff, Nat.reduceLT, p1, p2, p5, p6, e6]
    refine ⟨u6, ?_⟩
    simp only [rn0, reduceIte, Nat.reduceEqDiff, Nat.reduceAdd, Nat.reduceMul, Nat.reduceSub, Nat.reduceLeDiff, Nat.reduceLT, p1, p2, p5, p6, hwk]
    first | exact ⟨⟨v', fun i hi => by rw [old6 i (by omega), ho i hi], by omega, by omega, by omega, gv6, rfl⟩, rfl⟩ | exact ⟨v', fun i hi => by rw [old6 i (by omega), ho i hi], by omega, by omega, by omega, gv6, rfl⟩
  · rintro f g ms ⟨⟨v, ho, hfg, hup, hnx, gv, p5⟩, rfl, p1, p2, p6⟩
    have sg : Sub All g1 g := AHeap.subOf ho
    have rg := r1.mono sg
    have hyg := hy1.mono sg
    simp only [rn0, reduceIte, Nat.reduceEqDiff, Nat.reduceAdd, Nat.reduceMul, Nat.reduceSub, Nat.reduceLeDiff, Nat.reduceLT, p1, p2, p5, p6, rg.ld, gag, Nat.zero_add, Cells.len hyg.k, Int.lt_irrefl]
    exact ⟨gv.cells, gv.one, fun i hi => by rw [ho i (by omega), hx1.old i hi], by omega, by omega, by omega⟩
def hrsSz (G : MG) (v : Nat) : Nat := (G.khi v - G.klo v + 1).toNat
def restN (G : MG) (N : Nat) : Nat → Nat
  | 0 => N
  | k + 1 => restN G N k / hrsSz G k
theorem restN_le {G : MG} {N : Nat} : ∀ k, restN G N k ≤ N
  | 0 => Nat.le_refl _
  | k + 1 => Nat.le_trans (Nat.div_le_self _ _) (restN_le k)
def hrsX (G : MG) (N k : Nat) : Int := G.klo k + ((restN G N k % hrsSz G k : Nat) : Int)
theorem hrs_of {G : MG} (hG : GoodG G) (N : Nat) : HrsOk G G.nk (hrsX G N) := ⟨rfl, fun i hi => by
  have h1 := (hG.works i hi).2
  have h2 : restN G N i % hrsSz G i < hrsSz G i := Nat.mod_lt _ (by unfold hrsSz; omega)
  unfold hrsX
  generalize restN G N i % hrsSz G i = q at h2
  unfold hrsSz at h2
  omega⟩
theorem quo65 {a b : Nat} (h : a < 65536) : IntKind.wrap .i64 ((a : Int).tdiv (b : Int)) = ((a / b : Nat) : Int) := by
  have e : (a : Int).tdiv (b : Int) = ((a / b : Nat) : Int) := rfl
  have hd := Nat.div_le_self a b
  rw [e, IntKind.wrap_i64]
  generalize a / b = dq at hd
  omega
def s55 : SCode := (.seq (.ops [jO 2 (.box (T 0)), jO 4 (.mov (.const (.slice none 0 0)))]) (.seq (.ops [jO 5 (.mov (.const (.slice none 0 0)))]) (.seq (.seq (.ops [jO 6 (.mov (jK 0))]) (.block 0 (.loop (.seq (.seq (.ops [jO 9 (.mov (T 6)), jO 10 (.fieldAddr 9 (T 2)), jO 11 (.load1 (T 10)), jO 12 (.len (T 11)), jO 13 (.int2 .lss (T 9) (T 12))]) (.cond (T 13) .skip (.exit 0))) (.seq (.block 1 (.seq (.ops [jO 16 (.fieldAddr 9 (T 2)), jO 17 (.load1 (T 16)), jO 18 (.mov (T 6)), jO 19 (.idxSl 3 (T 17) (T 18)), jO 20 (.fieldAddr 1 (T 19)), jO 21 (.loadN 2 (T 20)), jO 7 (.alloc [(.int .i64 0), (.int .i64 0)]), ⟨none, none, .store 2 (T 7) (T 21)⟩]) (.seq (.ops [jO 22 (.fieldAddr 1 (T 7)), jO 23 (.load1 (T 22)), jO 24 (.fieldAddr 0 (T 7)), jO 25 (.load1 (T 24)), jO 26 (.int2 .sub (T 23) (T 25)), jO 27 (.int2 .add (T 26) (jK 1)), jO 8 (.mov (T 27))]) (.draw [jF 28 (.mov (T 5)), jF 29 (.fieldAddr 0 (T 7)), jS 30 (.load1 (T 29)), jF 31 (.mov (T 1)), jF 32 (.mov (T 8)), jF 33 (.plain (.binOp .rem 3 (T 31) (T 32) 3) 3), jF 34 (.int2 .add (T 30) (T 33)), jA 35 (.bslice 1 1 [(.int .i64 0)] [0] [(T 34)]), jA 36 (.append 1 8 (T 28) (T 35)), jF 37 (.mov (T 1)), jF 38 (.mov (T 8)), jF 39 (.plain (.binOp .quo 3 (T 37) (T 38) 3) 3), jF 5 (.mov (T 36)), jF 1 (.mov (T 39))])))) (.ops [jO 14 (.mov (T 6)), jO 15 (.int2 .add (T 14) (jK 1)), jO 6 (.mov (T 15))])))))) (.seq (.ops [jO 40 (.mov (T 5)), jO 4 (.mov (T 40))]) .ret))))
theorem fok55 : FnOk Tryz.prog 55 41 s55 [.tmp 4] := ⟨Tryz.f55, _, Tryz.func55, rfl, Tryz.ntmps55, by kernel_rfl, by kernel_rfl⟩
set_option maxHeartbeats 1000000 in
theorem hoursG_c (hn : 60 ≤ n) (hr : h.next + 80 < far) (hfl : h.floor ≤ h.next) {wv vv sv kv : Value} {G : MG} {N : Nat} (hN : N < 65536) (hy : GangR h wv vv sv kv G) (hG : GoodG G) :
    ∃ w h', call n (.func (.func 55) #[] #[]) [.agg ⟨gaL G wv vv sv kv⟩, .int .i64 (N : Int)] h = some (w, h') ∧ Ints h' w G.nk (hrsX G N) ∧ oneCell w = true ∧ (∀ i, i < h.next → h'.get i = h.get i) ∧ h.next ≤ h'.next ∧ h'.next ≤ h.next + 70 ∧ h'.floor = h.floor := by
  obtain ⟨n, rfl⟩ : ∃ p, n = p + 1 := ⟨n - 1, by omega⟩
  refine call_any0 fok55 rfl rfl (by simp) ?_
  obtain ⟨z0, z1, z4, z5, _⟩ := hG.sizes
  simp only [s55, jO, jF, jR, jS, jU, jA, jK, W_seq, W_ops]
  refine ops_box (cs := gaL G wv vv sv kv) (by omega) rfl hy.one fun g1 hx1 => ?_
  have n1 := hx1.next
  have f1 := hx1.floor
  have hy1 := hy.mono hx1.sub
  have r1 := hx1.row
  simp only [rn0, reduceIte, Nat.reduceEqDiff, Nat.reduceAdd, Nat.reduceMul, Nat.reduceSub, Nat.reduceLeDiff, Nat.reduceLT]
  refine W_loop G.nk (fun k f g ms => (∃ v, (∀ i, i < g1.next → g.get i = g1.get i) ∧ g.floor = h.floor ∧ g1.next ≤ g.next ∧ g.next ≤ g1.next + 3 * k ∧ GrowC g1.next g v 1 k (fun i _ => .int .i64 (hrsX G N i)) ∧ f 5 = v) ∧ ms = [] ∧ f 1 = .int .i64 ((restN G N k : Nat) : Int) ∧ f 2 = .pointer (some ⟨h.next, 0, none⟩) ∧ f 6 = .int .i64 (k : Int)) (by simp; omega) ?_ ?_ ?_
  · simp only [rn0, reduceIte, Nat.reduceEqDiff, Nat.reduceAdd, Nat.reduceMul, Nat.reduceSub, Nat.reduceLeDiff, Nat.reduceLT, Int.natCast_zero, restN]
    first | exact ⟨⟨nilS, fun i _ => trivial, by omega, by omega, by omega, .nil, rfl⟩, rfl⟩ | exact ⟨nilS, fun i _ => trivial, by omega, by omega, by omega, .nil, rfl⟩ | exact ⟨nilS, by omega, by omega, by omega, .nil, rfl⟩ | exact ⟨nilS, fun i _ => trivial, f1, by omega, .nil, rfl⟩
  · rintro k f g ms hk' ⟨⟨v, ho, hfg, hup, hnx, gv, p5⟩, rfl, p1, p2, p6⟩
    have hi' : (k : Int) < (G.nk : Int) := by omega
    have hwk : wrapF .i64 ((k : Int) + 1) = ((k + 1 : Nat) : Int) := by rw [wrap_in (by omega) (by omega)]; rfl
    have sg : Sub All g1 g := AHeap.subOf ho
    have rg := r1.mono sg
    have hyg := hy1.mono sg
    have hb := (hG.works k hk').2
    have w1 : wrapF .i64 (G.khi k - G.klo k) = G.khi k - G.klo k := wrap_in (by omega) (by omega)
    have w2 : wrapF .i64 (G.khi k - G.klo k + 1) = ((hrsSz G k : Nat) : Int) := by rw [wrap_in (by omega) (by omega)]; unfold hrsSz; omega
    have hne : ¬ ((hrsSz G k : Nat) : Int) = 0 := by unfold hrsSz; omega
    have m1 : ((restN G N k : Nat) : Int).tmod ((hrsSz G k : Nat) : Int) = ((restN G N k % hrsSz G k : Nat) : Int) := rfl
    have hlt : restN G N k % hrsSz G k < hrsSz G k := Nat.mod_lt _ (by omega)
    have w3 : wrapF .i64 (G.klo k + ((restN G N k % hrsSz G k : Nat) : Int)) = hrsX G N k := by
      rw [wrap_in (by omega) (by have : hrsSz G k ≤ 5 := (by unfold hrsSz; omega); omega)]; rfl
    have m2 : IntKind.wrap .i64 (((restN G N k : Nat) : Int).tdiv ((hrsSz G k : Nat) : Int)) = ((restN G N (k + 1) : Nat) : Int) := quo65 (Nat.lt_of_le_of_lt (restN_le k) hN)
    simp only [rn0, reduceIte, Nat.reduceEqDiff, Nat.reduceAdd, Nat.reduceMul, Nat.reduceSub, Nat.reduceLeDiff, Nat.reduceLT, p1, p2, p5, p6, rg.ld, gag, Nat.zero_add, Cells.len hyg.k, hi', Cells.idx hyg.k hk', Cells.fld hyg.k hk', hours_ld hyg hk']
    refine step_new (vs := [.int .i64 (G.klo k), .int .i64 (G.khi k)]) (by omega) (by omega) rfl (by simp only [rn0, reduceIte, Nat.reduceEqDiff, Nat.reduceAdd, Nat.reduceMul, Nat.reduceSub, Nat.reduceLeDiff, Nat.reduceLT]; rfl) rfl rfl rfl fun g4 hx4 => ?_
    have n4 := hx4.next
    have f4 := hx4.floor
    have r4 := hx4.row
    have gv4 := gv.sub hx4.sub
    simp only [rn0, reduceIte, Nat.reduceEqDiff, Nat.reduceAdd, Nat.reduceMul, Nat.reduceSub, Nat.reduceLeDiff, Nat.reduceLT, p1, p2, p5, p6, r4.ld, Nat.zero_add, List.getElem?_cons_zero, List.getElem?_cons_succ, w1, w2]
    refine W_draw All ?_
    simp only [rn0, reduceIte, Nat.reduceEqDiff, Nat.reduceAdd, Nat.reduceMul, Nat.reduceSub, Nat.reduceLeDiff, Nat.reduceLT, p1, p2, p5, p6, r4.ld, Nat.zero_add, List.getElem?_cons_zero, List.getElem?_cons_succ, gv4.cells.self, valN_tmp, valN_const, r_rem hne, r_quo hne, m1, m2, w3, sl_int, eqV_int]
    refine up_slice (by omega) rfl (fun _ _ => trivial) fun g5 hx5 => ?_
    have n5 := hx5.next
    obtain ⟨v', g6, e6, gv6, o6, n6, f6, old6, u6⟩ := grow_push (h := g4) (bytes := 8) gv4 (by omega) (by omega) (by omega) hx5 rfl rfl (fun j hj => by
      obtain rfl : j = 0 := by omega
      rfl) (by simp [maxBytes]; omega) (by simp [maxBytes]; omega)
    simp only [rn0, reduceIte, Nat.reduceEqDiff, Nat.reduceAdd, Nat.reduceMul, Nat.reduceSub, Nat.reduceLeDiff, Nat.reduceLT, p1, p2, p5, p6, e6]
    refine ⟨u6, ?_⟩
    simp only [rn0, reduceIte, Nat.reduceEqDiff, Nat.reduceAdd, Nat.reduceMul, Nat.reduceSub, Nat.reduceLeDiff, Nat.reduceLT, p1, p2, p5, p6, valN_tmp, valN_const, r_quo hne, m2, hwk]
    first | exact ⟨⟨v', fun i hi => by rw [old6 i (by omega), hx4.old i (by omega), ho i hi], by omega, by omega, by omega, gv6, rfl⟩, rfl⟩ | exact ⟨v', fun i hi => by rw [old6 i (by omega), hx4.old i (by omega), ho i hi], by omega, by omega, by omega, gv6, rfl⟩
  · rintro f g ms ⟨⟨v, ho, hfg, hup, hnx, gv, p5⟩, rfl, p1, p2, p6⟩
    have sg : Sub All g1 g := AHeap.subOf ho
    have rg := r1.mono sg
    have hyg := hy1.mono sg
    simp only [rn0, reduceIte, Nat.reduceEqDiff, Nat.reduceAdd, Nat.reduceMul, Nat.reduceSub, Nat.reduceLeDiff, Nat.reduceLT, p1, p2, p5, p6, rg.ld, gag, Nat.zero_add, Cells.len hyg.k, Int.lt_irrefl]
    exact ⟨gv.cells, gv.one, fun i hi => by rw [ho i (by omega), hx1.old i hi], by omega, by omega, by omega⟩

theorem errPG_z {G : MG} {m : Nat} {p : Nat → Int} (hf : faultG G = 0) (hP : PlanOk G m p) : errPG G m p = 0 := by rw [errPG, if_neg (by simpa using hf), if_pos hP]
theorem playE_z {G : MG} {m q : Nat} {p x : Nat → Int} (he : errPG G m p = 0) (hH : HrsOk G q x) : playE G m p q x = if InT G (fun k => k) p x G.nk then 0 else 9 := by rw [playE, if_neg (by simpa using he), if_pos hH]


def s56 : SCode := (.seq (.ops [jO 2 (.box (T 0)), jO 4 (.mov (.const (.bool false)))]) (.seq (.ops [jO 5 (.loadN 10 (T 2)), jO 6 (.call (.func 25) [(T 5)]), jO 7 (.mov (T 1)), jO 8 (.call (.func 26) [(T 7)]), jO 9 (.call (.func 42) [(T 6), (T 8), (jK 99)]), jO 4 (.mov (T 9))]) .ret))
theorem fok56 : FnOk Tryz.prog 56 10 s56 [.tmp 4] := ⟨Tryz.f56, _, Tryz.func56, rfl, Tryz.ntmps56, by kernel_rfl, by kernel_rfl⟩
theorem proveL_c (hn : 2560 ≤ n) (hr : h.next + 1600000 < far) {wv vv sv kv lv : Value} {G : MG} {p : Nat → Int} (hy : GangR h wv vv sv kv G) (hT : ThinS G.s) (hl : G.nk ≤ 30) (hp : Ints h lv G.nk p) (hG : GoodG G) (hP : PlanOk G G.nk p) :
    call n (.func (.func 56) #[] #[]) [.agg ⟨gaL G wv vv sv kv⟩, lv] h = some (.bool (decide (SureW G G.nk (fun k => k) p)), h) := by
  obtain ⟨n, rfl⟩ : ∃ p, n = p + 1 := ⟨n - 1, by omega⟩
  refine call_plain0 fok56 rfl rfl (by simp) rfl ?_
  have hy := hy.shut
  have hp : Ints h.shutAll lv G.nk p := Cells.shut hp
  have hr : h.shutAll.next + 1600000 < far := hr
  have hfl : h.shutAll.floor ≤ h.shutAll.next := Nat.le_refl _
  generalize h.shutAll = h at hy hp hr hfl
  simp only [s56, jO, jF, jR, jS, jU, jA, jK, W_seq, W_ops]
  refine ops_box (cs := gaL G wv vv sv kv) (by omega) rfl hy.one fun g1 hx1 => ?_
  have n1 := hx1.next
  have f1 := hx1.floor
  have r1 := hx1.row
  have hy1 := hy.mono hx1.sub
  have hp1 : Ints g1 lv G.nk p := Cells.mono hp hx1.sub
  obtain ⟨wa, va, sa, ka, g2, e2, hy2, o2, u2, m2, f2⟩ := gangL_c (n := n) (h := g1) (by omega) (by omega) (by omega) hy1 hT hl
  have s12 : Sub All g1 g2 := AHeap.subOf o2
  obtain ⟨la, g3, e3, hp3, oa, o3, u3, m3, f3⟩ := listG_c (n := n) (h := g2) (by omega) (by omega) (Cells.mono hp1 s12) hl
  have s23 : Sub All g2 g3 := AHeap.subOf o3
  have e4 := proveG_c (n := n) (h := g3) (by omega) (by omega) (hy2.mono s23) hT hl hp3 hl 99
  have hd : decide (ProveS G G.nk p 99) = decide (SureW G G.nk (fun k => k) p) := by
    refine decide_eq_decide.2 ⟨fun e => e.2.1, fun e => ⟨errPG_z (goodG.2 hG) hP, e, ?_⟩⟩
    have h1 := doneS_bound hG G.nk (Nat.le_refl _) fun i hi => plan_sm hG hP i hi
    omega
  rw [hd] at e4
  simp only [rn0, reduceIte, Nat.reduceEqDiff, Nat.reduceAdd, Nat.reduceMul, Nat.reduceSub, Nat.reduceLeDiff, Nat.reduceLT, r1.whole (n := 10) rfl, e2, e3, e4]
theorem sh_mono {G : MG} (hG : GoodG G) {p x y : Nat → Int} {t : Nat} : ∀ k, k ≤ G.nk → (∀ i, i < k → x i ≤ y i) → shN G (fun k => k) p x k t ≤ shN G (fun k => k) p y k t
  | 0, _, _ => Int.le_refl _
  | k + 1, hk, h => by
    have h1 := sh_mono hG (p := p) (t := t) k (by omega) fun i hi => h i (by omega)
    have h2 := h k (by omega)
    have h3 := (hG.works k (by omega)).1
    rw [shN, shN]
    by_cases c : p k < (t : Int) ∧ (t : Int) ≤ p k + x k
    · rw [if_pos c, if_pos ⟨c.1, by omega⟩]; omega
    · rw [if_neg c]
      by_cases c2 : p k < (t : Int) ∧ (t : Int) ≤ p k + y k
      · rw [if_pos c2]; omega
      · rw [if_neg c2]; omega
theorem inT_le {G : MG} {p x : Nat → Int} (hx : ∀ k, k < G.nk → x k ≤ G.khi k) (hI : InT G (fun k => k) p G.khi G.nk) : InT G (fun k => k) p x G.nk := fun j hj => by
  have h1 := hx j hj
  rcases hI j hj with e | e
  · left; have e' : G.khi j ≤ 0 := e; show x j ≤ 0; omega
  · right; have e' : p j + G.khi j ≤ G.close := e; show p j + x j ≤ G.close; omega

def s10 : SCode := (.seq (.ops [jO 4 (.box (T 0)), jO 8 (.mov (.const (.bool false)))]) (.seq (.seq (.ops [jO 20 (.loadN 10 (T 4)), jO 21 (.call (.func 53) [(T 20)]), jO 22 (.not (T 21))]) (.cond (T 22) (.seq (.ops [jO 23 (.call (.func 23) []), jO 8 (.mov (T 23))]) .ret) .skip)) (.seq (.draw [jS 24 (.loadN 10 (T 4)), jF 25 (.mov (T 1)), jU 26 (.call (.func 54) [(T 24), (T 25)]), jR 27 (.loadN 10 (T 4)), jF 28 (.mov (T 3)), jF 29 (.plain (.convert 82 3 (T 28)) 3), jA 30 (.call (.func 55) [(T 27), (T 29)]), jF 9 (.mov (T 26)), jF 10 (.mov (T 30))]) (.seq (.ops [jO 31 (.loadN 10 (T 4)), jO 32 (.mov (T 9)), jO 33 (.call (.func 56) [(T 31), (T 32)]), jO 11 (.mov (T 33))]) (.seq (.ops [jO 35 (.loadN 10 (T 4)), jO 36 (.call (.func 25) [(T 35)]), jO 37 (.mov (T 9)), jO 38 (.call (.func 26) [(T 37)]), jO 39 (.mov (T 10)), jO 40 (.call (.func 26) [(T 39)]), jO 41 (.call (.func 24) [(T 36), (T 38), (T 40)]), jO 34 (.mov (T 41)), jO 42 (.extract 0 (T 34)), jO 43 (.extract 1 (T 34)), jO 12 (.mov (T 42)), jO 13 (.mov (T 43))]) (.seq (.ops [jO 45 (.loadN 10 (T 4)), jO 46 (.call (.func 25) [(T 45)]), jO 47 (.mov (T 9)), jO 48 (.call (.func 26) [(T 47)]), jO 49 (.call (.func 34) [(T 46), (T 48)]), jO 44 (.mov (T 49)), jO 50 (.extract 0 (T 44)), jO 51 (.extract 1 (T 44)), jO 14 (.mov (T 50)), jO 15 (.mov (T 51))]) (.seq (.seq (.ops [jO 52 (.mov (T 13)), jO 53 (.int2 .neq (T 52) (jK 0))]) (.cond (T 53) (.seq (.ops [jO 54 (.mov (T 13)), jO 55 (.int2 .eql (T 54) (jK 9)), jO 56 (.mov (T 55)), ⟨some 57, (some (56, true)), .mov (T 15)⟩, ⟨some 58, (some (56, true)), .mov (T 13)⟩, ⟨some 59, (some (56, true)), .int2 .eql (T 57) (T 58)⟩, jO 60 (.pick (T 56) (T 59) (.const (.bool false))), jO 61 (.mov (T 60)), ⟨some 62, (some (61, true)), .mov (T 11)⟩, ⟨some 63, (some (61, true)), .not (T 62)⟩, jO 64 (.pick (T 61) (T 63) (.const (.bool false))), jO 65 (.mov (T 64)), ⟨some 66, (some (65, true)), .call (.func 23) []⟩, jO 67 (.pick (T 65) (T 66) (.const (.bool false))), jO 8 (.mov (T 67))]) .ret) .skip)) (.seq (.seq (.ops [jO 68 (.mov (T 12)), jO 69 (.len (T 68)), jO 70 (.fieldAddr 8 (T 4)), jO 71 (.load1 (T 70)), jO 72 (.int2 .add (T 71) (jK 1)), jO 73 (.int2 .neq (T 69) (T 72)), jO 74 (.mov (T 73)), ⟨some 75, (some (74, false)), .mov (T 15)⟩, ⟨some 76, (some (74, false)), .int2 .neq (T 75) (jK 0)⟩, ⟨some 77, (some (74, false)), .mov (T 76)⟩, ⟨some 78, (some (77, true)), .mov (T 15)⟩, ⟨some 79, (some (77, true)), .int2 .neq (T 78) (jK 9)⟩, ⟨some 80, (some (74, false)), .pick (T 77) (T 79) (.const (.bool false))⟩, jO 81 (.pick (T 74) (.const (.bool true)) (T 80)), jO 82 (.mov (T 81)), ⟨some 83, (some (82, false)), .mov (T 15)⟩, ⟨some 84, (some (82, false)), .int2 .neq (T 83) (jK 0)⟩, ⟨some 85, (some (82, false)), .mov (T 84)⟩, ⟨some 86, (some (85, true)), .mov (T 11)⟩, ⟨some 87, (some (82, false)), .pick (T 85) (T 86) (.const (.bool false))⟩, jO 88 (.pick (T 82) (.const (.bool true)) (T 87)), jO 89 (.mov (T 88)), ⟨some 90, (some (89, false)), .mov (T 15)⟩, ⟨some 91, (some (89, false)), .int2 .eql (T 90) (jK 0)⟩, ⟨some 92, (some (89, false)), .mov (T 91)⟩, ⟨some 93, (some (92, true)), .mov (T 14)⟩, ⟨some 94, (some (92, true)), .len (T 93)⟩, ⟨some 95, (some (92, true)), .mov (T 12)⟩, ⟨some 96, (some (92, true)), .len (T 95)⟩, ⟨some 97, (some (92, true)), .int2 .neq (T 94) (T 96)⟩, ⟨some 98, (some (89, false)), .pick (T 92) (T 97) (.const (.bool false))⟩, jO 99 (.pick (T 89) (.const (.bool true)) (T 98))]) (.cond (T 99) (.seq (.ops [jO 8 (.mov (.const (.bool false)))]) .ret) .skip)) (.seq (.seq (.ops [jO 16 (.mov (jK 0))]) (.block 0 (.loop (.seq (.seq (.ops [jO 100 (.mov (T 16)), jO 101 (.mov (T 12)), jO 102 (.len (T 101)), jO 103 (.int2 .lss (T 100) (T 102))]) (.cond (T 103) .skip (.exit 0))) (.seq (.block 1 (.seq (.draw [jF 106 (.mov (T 11)), jF 107 (.mov (T 106)), ⟨.free, ⟨some 108, (some (107, true)), .mov (T 12)⟩⟩, ⟨.free, ⟨some 109, (some (107, true)), .mov (T 16)⟩⟩, ⟨.free, ⟨some 110, (some (107, true)), .idxSl 1 (T 108) (T 109)⟩⟩, ⟨.rd1, ⟨some 111, (some (107, true)), .load1 (T 110)⟩⟩, ⟨.free, ⟨some 112, (some (107, true)), .fieldAddr 7 (T 4)⟩⟩, ⟨.rd1, ⟨some 113, (some (107, true)), .load1 (T 112)⟩⟩, ⟨.free, ⟨some 114, (some (107, true)), .int2 .gtr (T 111) (T 113)⟩⟩, jF 115 (.pick (T 107) (T 114) (.const (.bool false))), jF 116 (.mov (T 115)), ⟨.free, ⟨some 117, (some (116, false)), .mov (T 15)⟩⟩, ⟨.free, ⟨some 118, (some (116, false)), .int2 .eql (T 117) (jK 0)⟩⟩, ⟨.free, ⟨some 119, (some (116, false)), .mov (T 118)⟩⟩, ⟨.free, ⟨some 120, (some (119, true)), .mov (T 12)⟩⟩, ⟨.free, ⟨some 121, (some (119, true)), .mov (T 16)⟩⟩, ⟨.free, ⟨some 122, (some (119, true)), .idxSl 1 (T 120) (T 121)⟩⟩, ⟨.rd1, ⟨some 123, (some (119, true)), .load1 (T 122)⟩⟩, ⟨.free, ⟨some 124, (some (119, true)), .mov (T 14)⟩⟩, ⟨.free, ⟨some 125, (some (119, true)), .mov (T 16)⟩⟩, ⟨.free, ⟨some 126, (some (119, true)), .idxSl 2 (T 124) (T 125)⟩⟩, ⟨.free, ⟨some 127, (some (119, true)), .fieldAddr 0 (T 126)⟩⟩, ⟨.rd1, ⟨some 128, (some (119, true)), .load1 (T 127)⟩⟩, ⟨.free, ⟨some 129, (some (119, true)), .int2 .lss (T 123) (T 128)⟩⟩, ⟨.free, ⟨some 130, (some (119, true)), .mov (T 129)⟩⟩, ⟨.free, ⟨some 131, (some (130, false)), .mov (T 12)⟩⟩, ⟨.free, ⟨some 132, (some (130, false)), .mov (T 16)⟩⟩, ⟨.free, ⟨some 133, (some (130, false)), .idxSl 1 (T 131) (T 132)⟩⟩, ⟨.rd1, ⟨some 134, (some (130, false)), .load1 (T 133)⟩⟩, ⟨.free, ⟨some 135, (some (130, false)), .mov (T 14)⟩⟩, ⟨.free, ⟨some 136, (some (130, false)), .mov (T 16)⟩⟩, ⟨.free, ⟨some 137, (some (130, false)), .idxSl 2 (T 135) (T 136)⟩⟩, ⟨.free, ⟨some 138, (some (130, false)), .fieldAddr 1 (T 137)⟩⟩, ⟨.rd1, ⟨some 139, (some (130, false)), .load1 (T 138)⟩⟩, ⟨.free, ⟨some 140, (some (130, false)), .int2 .gtr (T 134) (T 139)⟩⟩, ⟨.free, ⟨some 141, (some (119, true)), .pick (T 130) (.const (.bool true)) (T 140)⟩⟩, ⟨.free, ⟨some 142, (some (116, false)), .pick (T 119) (T 141) (.const (.bool false))⟩⟩, jF 143 (.pick (T 116) (.const (.bool true)) (T 142))]) (.cond (T 143) (.seq (.ops [jO 8 (.mov (.const (.bool false)))]) .ret) .skip))) (.ops [jO 104 (.mov (T 16)), jO 105 (.int2 .add (T 104) (jK 1)), jO 16 (.mov (T 105))])))))) (.seq (.ops [jO 144 (.fieldAddr 0 (T 4)), jO 145 (.loadN 7 (T 144)), jO 146 (.call (.func 40) [(T 145)]), jO 17 (.mov (T 146))]) (.seq (.ops [jO 147 (.mov (T 17)), jO 148 (.mov (T 2)), jO 149 (.plain (.convert 82 3 (T 148)) 3), jO 150 (.mov (T 17)), jO 151 (.len (T 150)), jO 152 (.plain (.binOp .rem 3 (T 149) (T 151) 3) 3), jO 153 (.idxSl 3 (T 147) (T 152)), jO 154 (.loadN 3 (T 153)), jO 18 (.alloc [(.slice none 0 0), (.int .i64 0), (.slice none 0 0)]), ⟨none, none, .store 3 (T 18) (T 154)⟩]) (.seq (.seq (.ops [jO 19 (.mov (jK 0))]) (.block 2 (.loop (.seq (.seq (.ops [jO 155 (.mov (T 19)), jO 156 (.mov (T 9)), jO 157 (.len (T 156)), jO 158 (.int2 .lss (T 155) (T 157))]) (.cond (T 158) .skip (.exit 2))) (.seq (.block 3 (.seq (.draw [jF 161 (.mov (T 11)), jF 162 (.mov (T 161)), ⟨.free, ⟨some 163, (some (162, true)), .fieldAddr 0 (T 4)⟩⟩, ⟨.rd1, ⟨some 164, (some (162, true)), .loadN 7 (T 163)⟩⟩, ⟨.rd1, ⟨some 165, (some (162, true)), .loadN 3 (T 18)⟩⟩, ⟨.free, ⟨some 166, (some (162, true)), .mov (T 19)⟩⟩, ⟨.free, ⟨some 167, (some (162, true)), .mov (T 9)⟩⟩, ⟨.free, ⟨some 168, (some (162, true)), .mov (T 19)⟩⟩, ⟨.free, ⟨some 169, (some (162, true)), .idxSl 1 (T 167) (T 168)⟩⟩, ⟨.rd1, ⟨some 170, (some (162, true)), .load1 (T 169)⟩⟩, ⟨.any, ⟨some 171, (some (162, true)), .call (.func 57) [(T 164), (T 165), (T 166), (T 170)]⟩⟩, ⟨.free, ⟨some 172, (some (162, true)), .int2 .neq (T 171) (jK 1)⟩⟩, jF 173 (.pick (T 162) (T 172) (.const (.bool false)))]) (.cond (T 173) (.seq (.ops [jO 8 (.mov (.const (.bool false)))]) .ret) .skip))) (.ops [jO 159 (.mov (T 19)), jO 160 (.int2 .add (T 159) (jK 1)), jO 19 (.mov (T 160))])))))) (.seq (.ops [jO 174 (.call (.func 23) []), jO 8 (.mov (T 174))]) .ret)))))))))))))
theorem fok10 : FnOk Tryz.prog 10 175 s10 [.tmp 8] := ⟨Tryz.f10, _, Tryz.func10, rfl, Tryz.ntmps10, by kernel_rfl, by kernel_rfl⟩
set_option maxHeartbeats 8000000 in
theorem lawTruth_c (hn : 3000 ≤ n) (hr : h.next + 9000000 < far) (hfl : h.floor ≤ h.next) {wv vv sv kv ws : Value} {G : MG} {mw : Nat} {wa : Nat → Nat} (hy : GangR h wv vv sv kv G) (hws : Words h ws mw wa) (a2 : Int) (wf2 : (Lit.int .u16 a2).wf = true) (a3 : Int) (wf3 : (Lit.int .u16 a3).wf = true) :
    ∃ v h', call n (.func (.func 10) #[] #[]) [.agg ⟨gaL G wv vv sv kv⟩, ws, .int .u16 a2, .int .u16 a3] h = some (v, h') ∧ v = .bool true := by
  classical
  obtain ⟨Wh, rfl, hWh⟩ := wf16 wf2
  obtain ⟨N, rfl, hN⟩ := wf16 wf3
  obtain ⟨n, rfl⟩ : ∃ p, n = p + 1 := ⟨n - 1, by omega⟩
  refine call_any0 fok10 rfl rfl (by simp) ?_
  simp only [s10, jO, jF, jR, jS, jU, jA, jK, W_seq, W_ops]
  refine ops_box (cs := gaL G wv vv sv kv) (by omega) rfl hy.one fun g1 hx1 => ?_
  have n1 := hx1.next
  have f1 := hx1.floor
  have r1 := hx1.row
  have hy1 := hy.mono hx1.sub
  have hw1 := hws.mono hx1.sub
  have haw : ∀ g : AHeap, call n (.func (.func 23) #[] #[]) [] g = some (.bool true, g) := fun g => awakeG (by omega)
  have et := readyG_c (n := n) (h := g1) (by omega) (by omega) hy1
  by_cases hT : ThinG G ∧ faultG G = 0
  case neg =>
    simp only [rn0, reduceIte, Nat.reduceEqDiff, Nat.reduceAdd, Nat.reduceMul, Nat.reduceSub, Nat.reduceLeDiff, Nat.reduceLT, r1.whole (n := 10) rfl, et, decide_eq_false hT, haw]
  rw [decide_eq_true hT] at et
  obtain ⟨⟨⟨hTs, hl⟩, hmany⟩, hf⟩ := id hT
  have hG := goodG.1 hf
  obtain ⟨z0, z1, z4, z5, _, _, zc0, zc9⟩ := hG.sizes
  have hl30 : G.nk ≤ 30 := hl
  obtain ⟨pv, g2, e2, hp2, op, o2, u2, m2, f2⟩ := chosen_c (n := n) (h := g1) (by omega) (by omega) (by omega) hy1 hG hw1
  have hP := chosen_ok hG mw wa
  obtain ⟨p, hpp⟩ : ∃ p, p = chosenP G mw wa := ⟨_, rfl⟩
  rw [← hpp] at hp2 hP
  have he := errPG_z hf hP
  have s12 : Sub All g1 g2 := AHeap.subOf o2
  have hy2 := hy1.mono s12
  have r2 := r1.mono s12
  obtain ⟨xv, g3, e3, hx3, ox, o3, u3, m3, f3⟩ := hoursG_c (n := n) (h := g2) (by omega) (by omega) (by omega) hN hy2 hG
  have hH := hrs_of hG N
  obtain ⟨x, hxx⟩ : ∃ x, x = hrsX G N := ⟨_, rfl⟩
  rw [← hxx] at hx3 hH
  have s23 : Sub All g2 g3 := AHeap.subOf o3
  have s13 := s12.trans s23
  have hy3 := hy1.mono s13
  have r3 := r1.mono s13
  have hp3 : Ints g3 pv G.nk p := Cells.mono hp2 s23
  have epr := proveL_c (n := n) (h := g3) (by omega) (by omega) hy3 hTs hl hp3 hG hP
  obtain ⟨wb, vb, sb, kb, g4, e4, hy4, o4, u4, m4, f4⟩ := gangL_c (n := n) (h := g3) (by omega) (by omega) (by omega) hy3 hTs hl
  have s34 : Sub All g3 g4 := AHeap.subOf o4
  obtain ⟨lb, g5, e5, hp5, ob, o5, u5, m5, f5⟩ := listG_c (n := n) (h := g4) (by omega) (by omega) (Cells.mono hp3 s34) hl30
  have s45 : Sub All g4 g5 := AHeap.subOf o5
  have s35 := s34.trans s45
  obtain ⟨xb, g6, e6, hx6, oxb, o6, u6, m6, f6⟩ := listG_c (n := n) (h := g5) (by omega) (by omega) (Cells.mono hx3 s35) hl30
  have s56 : Sub All g5 g6 := AHeap.subOf o6
  obtain ⟨av, g7, e7, o7, u7, m7, f7, hA⟩ := playG_c (n := n) (h := g6) (by omega) (by omega) (by omega) (hy4.mono (s45.trans s56)) hTs hl (Cells.mono hp5 s56) hl30 hx6 hl30
  have s67 : Sub All g6 g7 := AHeap.subOf o7
  have s37 : Sub All g3 g7 := s35.trans (s56.trans s67)
  have hy7 := hy3.mono s37
  have r7 := r3.mono s37
  have hp7 : Ints g7 pv G.nk p := Cells.mono hp3 s37
  obtain ⟨wc, vc, sc, kc, g8, e8, hy8, o8, u8, m8, f8⟩ := gangL_c (n := n) (h := g7) (by omega) (by omega) (by omega) hy7 hTs hl
  have s78 : Sub All g7 g8 := AHeap.subOf o8
  obtain ⟨lc, g9, e9, hp9, oc, o9, u9, m9, f9⟩ := listG_c (n := n) (h := g8) (by omega) (by omega) (Cells.mono hp7 s78) hl30
  have s89 : Sub All g8 g9 := AHeap.subOf o9
  obtain ⟨bv, gA, eA, oA, uA, mA, fA, hB⟩ := busyG_c (n := n) (h := g9) (by omega) (by omega) (by omega) (hy8.mono s89) hTs hl hp9 hl30
  have s9A : Sub All g9 gA := AHeap.subOf oA
  have s7A : Sub All g7 gA := (s78.trans s89).trans s9A
  have hyA := hy7.mono s7A
  have rA := r7.mono s7A
  have hpA : Ints gA pv G.nk p := Cells.mono hp7 s7A
  have pa := playE_z he hH
  have hxk : ∀ k, k < G.nk → x k ≤ G.khi k := fun k hk => (hH.2 k hk).2
  have hxl : ∀ k, k < G.nk → G.klo k ≤ x k := fun k hk => (hH.2 k hk).1
  by_cases hI : InT G (fun k => k) p x G.nk
  case neg =>
    have hI2 : ¬ InT G (fun k => k) p G.khi G.nk := fun e => hI (inT_le hxk e)
    have hS : ¬ SureW G G.nk (fun k => k) p := fun e => hI2 e.2.1
    have hpe : busyE G G.nk p = 9 := by rw [busyE, if_neg (by simpa using he), if_neg hI2]
    rw [if_neg hI] at pa
    rcases hA with ⟨h0, rfl⟩ | ⟨h0, _⟩
    case inr => rw [pa] at h0; exact absurd h0 (by decide)
    rcases hB with ⟨h0, rfl⟩ | ⟨h0, _⟩
    case inr => rw [hpe] at h0; exact absurd h0 (by decide)
    rw [pa] at e7
    rw [hpe] at eA
    rw [decide_eq_false hS] at epr
    simp only [rn0, reduceIte, Nat.reduceEqDiff, Nat.reduceAdd, Nat.reduceMul, Nat.reduceSub, Nat.reduceLeDiff, Nat.reduceLT, r1.whole (n := 10) rfl, et]
    refine W_draw All ?_
    simp only [rn0, reduceIte, Nat.reduceEqDiff, Nat.reduceAdd, Nat.reduceMul, Nat.reduceSub, Nat.reduceLeDiff, Nat.reduceLT, r1.whole (n := 10) rfl, hy1.self, e2, r2.whole (n := 10) rfl, valN_tmp, valN_const, p_conv16, r_16 hN, e3]
    refine ⟨⟨u2, s12⟩, u3, ?_⟩
    simp only [rn0, reduceIte, Nat.reduceEqDiff, Nat.reduceAdd, Nat.reduceMul, Nat.reduceSub, Nat.reduceLeDiff, Nat.reduceLT, r3.whole (n := 10) rfl, epr, e4, e5, e6, e7, r7.whole (n := 10) rfl, e8, e9, eA, x_extract, ex0, ex1, haw, (show ¬ (9 : Int) = 0 by decide)]
  rw [if_pos hI] at pa
  rcases hA with ⟨h0, rfl⟩ | ⟨_, li, rfl, hli, hlo⟩
  · exact absurd pa h0
  have hlA : Ints gA li (G.close.toNat + 1) (shN G (fun k => k) p x G.nk) := Cells.mono hli s7A
  have hcl : ((G.close.toNat : Nat) : Int) = G.close := Int.toNat_of_nonneg zc0
  have hwc : wrapF .i64 (G.close + 1) = ((G.close.toNat + 1 : Nat) : Int) := by rw [wrap_in (by omega) (by omega)]; omega
  -- the truths
  obtain ⟨tv, gB, eB, htB, ot, oB, uB, mB, fB⟩ := truthsRef_c (n := n) (h := gA) (by omega) (by omega) (by omega) hyA.s hG.s
  have sAB : Sub All gA gB := AHeap.subOf oB
  have hyB := hyA.mono sAB
  have rB := rA.mono sAB
  have hpB : Ints gB pv G.nk p := Cells.mono hpA sAB
  obtain ⟨R1, R2, hcB, hqB⟩ := htB
  have hLne : refTruths G.s ≠ [] := by
    intro e
    obtain ⟨t, ht⟩ := List.exists_mem_of_ne_nil _ hG.t
    have := (refTruths_mem hG.s).2 ht
    rw [e] at this; cases this
  have hLpos : 0 < (refTruths G.s).length := List.length_pos_iff.2 hLne
  obtain ⟨L, hL⟩ : ∃ L, L = refTruths G.s := ⟨_, rfl⟩
  rw [← hL] at hcB hqB hLpos
  have hLm : ¬ ((L.length : Nat) : Int) = 0 := by omega
  have hK : Wh % L.length < L.length := Nat.mod_lt _ hLpos
  have mK : (Wh : Int).tmod ((L.length : Nat) : Int) = ((Wh % L.length : Nat) : Int) := rfl
  obtain ⟨u, hu⟩ : ∃ u, u = L.getD (Wh % L.length) fun _ => 0 := ⟨_, rfl⟩
  have htr := hqB _ hK
  have hld := trs_ld hcB hK
  have hidx := Cells.idx hcB hK
  rw [← hu] at htr hld
  have hmem : u ∈ truthsS G.s := by
    rw [hu]
    exact (refTruths_mem hG.s).1 (hL ▸ getD_mem hK)
  have hin : InU G.s u := (truths_mem.1 hmem).1.1
  have sure_kind : SureW G G.nk (fun k => k) p → ∀ i, i < G.nk → kindS G.s u i (p i) = 1 := fun e i hi => (verd_one hG.t).1 (e.1 i hi).2 u hmem
  have htone : allB oneCell (trL (R1 (Wh % L.length)) (R2 (Wh % L.length)) (u G.s.nw)) = true := by
    simp [trL, allB, one_int, Cells.one htr.w, Cells.one htr.f]
  by_cases hI2 : InT G (fun k => k) p G.khi G.nk
  case neg =>
    have hS : ¬ SureW G G.nk (fun k => k) p := fun e => hI2 e.2.1
    have hpe : busyE G G.nk p = 9 := by rw [busyE, if_neg (by simpa using he), if_neg hI2]
    rcases hB with ⟨h0, rfl⟩ | ⟨h0, _⟩
    case inr => rw [hpe] at h0; exact absurd h0 (by decide)
    rw [hpe] at eA
    rw [decide_eq_false hS] at epr
    simp only [rn0, reduceIte, Nat.reduceEqDiff, Nat.reduceAdd, Nat.reduceMul, Nat.reduceSub, Nat.reduceLeDiff, Nat.reduceLT, r1.whole (n := 10) rfl, et]
    refine W_draw All ?_
    simp only [rn0, reduceIte, Nat.reduceEqDiff, Nat.reduceAdd, Nat.reduceMul, Nat.reduceSub, Nat.reduceLeDiff, Nat.reduceLT, r1.whole (n := 10) rfl, hy1.self, e2, r2.whole (n := 10) rfl, valN_tmp, valN_const, p_conv16, r_16 hN, e3]
    refine ⟨⟨u2, s12⟩, u3, ?_⟩
    simp only [rn0, reduceIte, Nat.reduceEqDiff, Nat.reduceAdd, Nat.reduceMul, Nat.reduceSub, Nat.reduceLeDiff, Nat.reduceLT, r3.whole (n := 10) rfl, epr, e4, e5, e6, e7, r7.whole (n := 10) rfl, e8, e9, eA, x_extract, ex0, ex1, Cells.len hlA, rA.ld, gag, Nat.zero_add, hwc, (show ¬ (9 : Int) = 0 by decide)]
    refine W_loop (G.close.toNat + 1) (fun k f g ms => g = gA ∧ ms = [] ∧ f 2 = .int .u16 (Wh : Int) ∧ f 4 = .pointer (some ⟨h.next, 0, none⟩) ∧ f 9 = pv ∧ f 11 = .bool false ∧ f 12 = li ∧ f 15 = .int .i64 9 ∧ f 16 = .int .i64 (k : Int)) (by simp; omega) ?_ ?_ ?_
    · simp only [rn0, reduceIte, Nat.reduceEqDiff, Nat.reduceAdd, Nat.reduceMul, Nat.reduceSub, Nat.reduceLeDiff, Nat.reduceLT, Int.natCast_zero]
    · rintro k f g ms hk ⟨rfl, rfl, p2, p4, p9, p11, p12, p15, p16⟩
      have hk' : (k : Int) < ((G.close.toNat + 1 : Nat) : Int) := by omega
      have hwk : wrapF .i64 ((k : Int) + 1) = ((k + 1 : Nat) : Int) := by rw [wrap_in (by omega) (by omega)]; rfl
      simp only [rn0, reduceIte, Nat.reduceEqDiff, Nat.reduceAdd, Nat.reduceMul, Nat.reduceSub, Nat.reduceLeDiff, Nat.reduceLT, p2, p4, p9, p11, p12, p15, p16, Cells.len hlA, hk']
      refine W_draw All ?_
      simp only [rn0, reduceIte, Nat.reduceEqDiff, Nat.reduceAdd, Nat.reduceMul, Nat.reduceSub, Nat.reduceLeDiff, Nat.reduceLT, p2, p4, p9, p11, p12, p15, p16, d_guard, dg_tt, dg_tf, dg_ft, dg_ff, dg_un, (show ¬ (9 : Int) = 0 by decide), hwk]
    · rintro f g ms ⟨rfl, rfl, q2, q4, q9, q11, q12, q15, q16⟩
      simp only [rn0, reduceIte, Nat.reduceEqDiff, Nat.reduceAdd, Nat.reduceMul, Nat.reduceSub, Nat.reduceLeDiff, Nat.reduceLT, q2, q4, q9, q11, q12, q15, q16, Cells.len hlA, Int.lt_irrefl]
      simp only [rn0, reduceIte, Nat.reduceEqDiff, Nat.reduceAdd, Nat.reduceMul, Nat.reduceSub, Nat.reduceLeDiff, Nat.reduceLT, q2, q4, q9, q11, q12, q15, q16, ga_st rA, eB, valN_tmp, valN_const, p_conv16, r_16 hWh, Cells.len hcB, r_rem hLm, mK, hidx, hld]
      refine step_new (vs := trL (R1 (Wh % L.length)) (R2 (Wh % L.length)) (u G.s.nw)) (by omega) (by omega) rfl (by simp only [rn0, reduceIte, Nat.reduceEqDiff, Nat.reduceAdd, Nat.reduceMul, Nat.reduceSub, Nat.reduceLeDiff, Nat.reduceLT]; rfl) htone rfl rfl fun gC hxC => ?_
      have nC := hxC.next
      have fC := hxC.floor
      have rt := hxC.row
      have rC := rB.mono hxC.sub
      have hyC := hyB.mono hxC.sub
      have hpC : Ints gC pv G.nk p := Cells.mono hpB hxC.sub
      have htC := htr.mono hxC.sub
      simp only [rn0, reduceIte, Nat.reduceEqDiff, Nat.reduceAdd, Nat.reduceMul, Nat.reduceSub, Nat.reduceLeDiff, Nat.reduceLT]
      refine W_loop G.nk (fun k f g' ms => g' = gC ∧ ms = [] ∧ f 4 = .pointer (some ⟨h.next, 0, none⟩) ∧ f 9 = pv ∧ f 11 = .bool false ∧ f 18 = .pointer (some ⟨gB.next, 0, none⟩) ∧ f 19 = .int .i64 (k : Int)) (by simp; omega) ?_ ?_ ?_
      · simp only [rn0, reduceIte, Nat.reduceEqDiff, Nat.reduceAdd, Nat.reduceMul, Nat.reduceSub, Nat.reduceLeDiff, Nat.reduceLT, Int.natCast_zero, q4, q9, q11]
      · rintro k f g' ms hk ⟨rfl, rfl, p4, p9, p11, p18, p19⟩
        have hk' : (k : Int) < (G.nk : Int) := by omega
        have hwk : wrapF .i64 ((k : Int) + 1) = ((k + 1 : Nat) : Int) := by rw [wrap_in (by omega) (by omega)]; rfl
        have hpk := hP.2 k hk
        have ek := kind_c (n := n) (h := g') (by omega) (by omega) hyC.s htC hG.s hin (v := k) (hh := p k) ⟨by omega, hpk.1, hpk.2⟩
        simp only [rn0, reduceIte, Nat.reduceEqDiff, Nat.reduceAdd, Nat.reduceMul, Nat.reduceSub, Nat.reduceLeDiff, Nat.reduceLT, p4, p9, p11, p18, p19, Cells.len hpC, hk']
        refine W_draw All ?_
        simp only [rn0, reduceIte, Nat.reduceEqDiff, Nat.reduceAdd, Nat.reduceMul, Nat.reduceSub, Nat.reduceLeDiff, Nat.reduceLT, p4, p9, p11, p18, p19, d_guard, dg_tt, dg_tf, dg_ft, dg_ff, dg_un, hwk]
      · rintro f g' ms ⟨rfl, rfl, p4, p9, p11, p18, p19⟩
        simp only [rn0, reduceIte, Nat.reduceEqDiff, Nat.reduceAdd, Nat.reduceMul, Nat.reduceSub, Nat.reduceLeDiff, Nat.reduceLT, p4, p9, p11, p18, p19, Cells.len hpC, Int.lt_irrefl, haw]
  have hpe : busyE G G.nk p = 0 := by rw [busyE, if_neg (by simpa using he), if_pos hI2]
  rcases hB with ⟨h0, rfl⟩ | ⟨_, ri, rfl, hri, hro⟩
  · exact absurd hpe h0
  have hriA := hri
  simp only [rn0, reduceIte, Nat.reduceEqDiff, Nat.reduceAdd, Nat.reduceMul, Nat.reduceSub, Nat.reduceLeDiff, Nat.reduceLT, r1.whole (n := 10) rfl, et]
  refine W_draw All ?_
  simp only [rn0, reduceIte, Nat.reduceEqDiff, Nat.reduceAdd, Nat.reduceMul, Nat.reduceSub, Nat.reduceLeDiff, Nat.reduceLT, r1.whole (n := 10) rfl, hy1.self, e2, r2.whole (n := 10) rfl, valN_tmp, valN_const, p_conv16, r_16 hN, e3]
  refine ⟨⟨u2, s12⟩, u3, ?_⟩
  simp only [rn0, reduceIte, Nat.reduceEqDiff, Nat.reduceAdd, Nat.reduceMul, Nat.reduceSub, Nat.reduceLeDiff, Nat.reduceLT, r3.whole (n := 10) rfl, epr, e4, e5, e6, e7, r7.whole (n := 10) rfl, e8, e9, eA, x_extract, ex0, ex1, Cells.len hlA, rA.ld, gag, Nat.zero_add, hwc, (show ¬ (9 : Int) = 0 by decide), Cells.len hri]
  refine W_loop (G.close.toNat + 1) (fun k f g ms => g = gA ∧ ms = [] ∧ f 2 = .int .u16 (Wh : Int) ∧ f 4 = .pointer (some ⟨h.next, 0, none⟩) ∧ f 9 = pv ∧ f 11 = .bool (decide (SureW G G.nk (fun k => k) p)) ∧ f 12 = li ∧ f 14 = ri ∧ f 15 = .int .i64 0 ∧ f 16 = .int .i64 (k : Int)) (by simp; omega) ?_ ?_ ?_
  · simp only [rn0, reduceIte, Nat.reduceEqDiff, Nat.reduceAdd, Nat.reduceMul, Nat.reduceSub, Nat.reduceLeDiff, Nat.reduceLT, Int.natCast_zero]
  · rintro k f g ms hk ⟨rfl, rfl, p2, p4, p9, p11, p12, p14, p15, p16⟩
    have hk' : (k : Int) < ((G.close.toNat + 1 : Nat) : Int) := by omega
    have hwk : wrapF .i64 ((k : Int) + 1) = ((k + 1 : Nat) : Int) := by rw [wrap_in (by omega) (by omega)]; rfl
    simp only [rn0, reduceIte, Nat.reduceEqDiff, Nat.reduceAdd, Nat.reduceMul, Nat.reduceSub, Nat.reduceLeDiff, Nat.reduceLT, p2, p4, p9, p11, p12, p15, p16, Cells.len hlA, hk']
    refine W_draw All ?_
    have hge := sh_mono hG (p := p) (t := k) G.nk (Nat.le_refl _) hxk
    have hle := sh_mono hG (p := p) (t := k) G.nk (Nat.le_refl _) hxl
    have c1 : ¬ shN G (fun k => k) p x G.nk k < shN G (fun k => k) p G.klo G.nk k := by omega
    have c2 : ¬ shN G (fun k => k) p x G.nk k > shN G (fun k => k) p G.khi G.nk k := by omega
    have hlob := Cells.ld hriA hk (show 0 < 2 by omega)
    have hhib := Cells.ld hriA hk (show 1 < 2 by omega)
    by_cases hS : SureW G G.nk (fun k => k) p
    · have hm := hS.2.2 k (by rw [List.mem_range]; omega)
      have c3 : ¬ shN G (fun k => k) p x G.nk k > G.men := by omega
      simp only [rn0, reduceIte, Nat.reduceEqDiff, Nat.reduceAdd, Nat.reduceMul, Nat.reduceSub, Nat.reduceLeDiff, Nat.reduceLT, p2, p4, p9, p11, decide_eq_true hS, p12, p14, p15, p16, d_guard, dg_tt, dg_tf, dg_ft, dg_ff, dg_un, Cells.idx hlA hk, Cells.ld hlA hk Nat.zero_lt_one, rA.ld, gag, Nat.zero_add, c3, Cells.idx hriA hk, Cells.fld hriA hk, hlob, hhib, eqV_int, c1, c2, hwk]
    · simp only [rn0, reduceIte, Nat.reduceEqDiff, Nat.reduceAdd, Nat.reduceMul, Nat.reduceSub, Nat.reduceLeDiff, Nat.reduceLT, p2, p4, p9, p11, decide_eq_false hS, p12, p14, p15, p16, d_guard, dg_tt, dg_tf, dg_ft, dg_ff, dg_un, Cells.idx hlA hk, Cells.ld hlA hk Nat.zero_lt_one, rA.ld, gag, Nat.zero_add, Cells.idx hriA hk, Cells.fld hriA hk, hlob, hhib, eqV_int, c1, c2, hwk]
  · rintro f g ms ⟨rfl, rfl, q2, q4, q9, q11, q12, q14, q15, q16⟩
    simp only [rn0, reduceIte, Nat.reduceEqDiff, Nat.reduceAdd, Nat.reduceMul, Nat.reduceSub, Nat.reduceLeDiff, Nat.reduceLT, q2, q4, q9, q11, q12, q15, q16, Cells.len hlA, Int.lt_irrefl]
    simp only [rn0, reduceIte, Nat.reduceEqDiff, Nat.reduceAdd, Nat.reduceMul, Nat.reduceSub, Nat.reduceLeDiff, Nat.reduceLT, q2, q4, q9, q11, q12, q15, q16, ga_st rA, eB, valN_tmp, valN_const, p_conv16, r_16 hWh, Cells.len hcB, r_rem hLm, mK, hidx, hld]
    refine step_new (vs := trL (R1 (Wh % L.length)) (R2 (Wh % L.length)) (u G.s.nw)) (by omega) (by omega) rfl (by simp only [rn0, reduceIte, Nat.reduceEqDiff, Nat.reduceAdd, Nat.reduceMul, Nat.reduceSub, Nat.reduceLeDiff, Nat.reduceLT]; rfl) htone rfl rfl fun gC hxC => ?_
    have nC := hxC.next
    have fC := hxC.floor
    have rt := hxC.row
    have rC := rB.mono hxC.sub
    have hyC := hyB.mono hxC.sub
    have hpC : Ints gC pv G.nk p := Cells.mono hpB hxC.sub
    have htC := htr.mono hxC.sub
    simp only [rn0, reduceIte, Nat.reduceEqDiff, Nat.reduceAdd, Nat.reduceMul, Nat.reduceSub, Nat.reduceLeDiff, Nat.reduceLT]
    refine W_loop G.nk (fun k f g' ms => g' = gC ∧ ms = [] ∧ f 4 = .pointer (some ⟨h.next, 0, none⟩) ∧ f 9 = pv ∧ f 11 = .bool (decide (SureW G G.nk (fun k => k) p)) ∧ f 18 = .pointer (some ⟨gB.next, 0, none⟩) ∧ f 19 = .int .i64 (k : Int)) (by simp; omega) ?_ ?_ ?_
    · simp only [rn0, reduceIte, Nat.reduceEqDiff, Nat.reduceAdd, Nat.reduceMul, Nat.reduceSub, Nat.reduceLeDiff, Nat.reduceLT, Int.natCast_zero, q4, q9, q11]
    · rintro k f g' ms hk ⟨rfl, rfl, p4, p9, p11, p18, p19⟩
      have hk' : (k : Int) < (G.nk : Int) := by omega
      have hwk : wrapF .i64 ((k : Int) + 1) = ((k + 1 : Nat) : Int) := by rw [wrap_in (by omega) (by omega)]; rfl
      have hpk := hP.2 k hk
      have ek := kind_c (n := n) (h := g') (by omega) (by omega) hyC.s htC hG.s hin (v := k) (hh := p k) ⟨by omega, hpk.1, hpk.2⟩
      simp only [rn0, reduceIte, Nat.reduceEqDiff, Nat.reduceAdd, Nat.reduceMul, Nat.reduceSub, Nat.reduceLeDiff, Nat.reduceLT, p4, p9, p11, p18, p19, Cells.len hpC, hk']
      refine W_draw All ?_
      by_cases hS : SureW G G.nk (fun k => k) p
      · rw [sure_kind hS k hk] at ek
        simp only [rn0, reduceIte, Nat.reduceEqDiff, Nat.reduceAdd, Nat.reduceMul, Nat.reduceSub, Nat.reduceLeDiff, Nat.reduceLT, p4, p9, p11, decide_eq_true hS, p18, p19, d_guard, dg_tt, dg_tf, dg_ft, dg_ff, dg_un, ga_st rC, rt.whole (n := 3) rfl, Cells.idx hpC hk, Cells.ld hpC hk Nat.zero_lt_one, ek, eqV_int, hwk]
      · simp only [rn0, reduceIte, Nat.reduceEqDiff, Nat.reduceAdd, Nat.reduceMul, Nat.reduceSub, Nat.reduceLeDiff, Nat.reduceLT, p4, p9, p11, decide_eq_false hS, p18, p19, d_guard, dg_tt, dg_tf, dg_ft, dg_ff, dg_un, hwk]
    · rintro f g' ms ⟨rfl, rfl, p4, p9, p11, p18, p19⟩
      simp only [rn0, reduceIte, Nat.reduceEqDiff, Nat.reduceAdd, Nat.reduceMul, Nat.reduceSub, Nat.reduceLeDiff, Nat.reduceLT, p4, p9, p11, p18, p19, Cells.len hpC, Int.lt_irrefl, haw]
end Go.Vm.St
