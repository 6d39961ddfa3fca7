/- Texts of the proofs of this seat, put together: GgLO, GgV7, GgV8, GgV9, GgLateL, GgV10, GgPlaysL. -/
import Derived.Test.YtlkambpieajplaaGreatPk22

namespace Go.Vm.St
open Go.Proofs Go.Vm.Vat
set_option linter.unusedSimpArgs false
set_option linter.unusedVariables false
set_option maxRecDepth 10000
variable {n : Nat} {h : AHeap}
set_option maxHeartbeats 1000000 in
theorem steepLO_c (hn : 100 ≤ n) (hr : h.next + 500 < far) (hfl : h.floor ≤ h.next) {wv vv sv : Value} {S : MS} (hy : SteepR h wv vv sv S) (hT : ThinS S) :
    ∃ wv' vv' sv' h', call n (.func (.func 69) #[] #[]) [.agg ⟨stL S wv vv sv⟩] h = some (.agg ⟨stL S wv' vv' sv'⟩, h') ∧ SteepR h' wv' vv' sv' S ∧ (∀ i, i < h.next → h'.get i = h.get i) ∧ h.next ≤ h'.next ∧ h'.next ≤ h.next + 400 ∧ h'.floor = h.floor ∧ (∀ x k q, wv' = .slice (some x) k q → h.next ≤ x.block) ∧ (∀ x k q, vv' = .slice (some x) k q → h.next ≤ x.block) ∧ (∀ x k q, sv' = .slice (some x) k q → h.next ≤ x.block) := by
  obtain ⟨n, rfl⟩ : ∃ p, n = p + 1 := ⟨n - 1, by omega⟩
  obtain ⟨t1, t2, t3⟩ := hT
  suffices hs : ∃ v h', call (n + 1) (.func (.func 69) #[] #[]) [.agg ⟨stL S wv vv sv⟩] h = some (v, h') ∧ ∃ wv' vv' sv', v = .agg ⟨stL S wv' vv' sv'⟩ ∧ SteepR h' wv' vv' sv' S ∧ (∀ i, i < h.next → h'.get i = h.get i) ∧ h.next ≤ h'.next ∧ h'.next ≤ h.next + 400 ∧ h'.floor = h.floor ∧ (∀ x k q, wv' = .slice (some x) k q → h.next ≤ x.block) ∧ (∀ x k q, vv' = .slice (some x) k q → h.next ≤ x.block) ∧ (∀ x k q, sv' = .slice (some x) k q → h.next ≤ x.block) by
    obtain ⟨v, h', e, a, b, c, rfl, q⟩ := hs
    exact ⟨a, b, c, h', e, q⟩
  refine call_any0 fok69 rfl rfl (by simp) ?_
  simp only [s69, W_seq, W_ops]
  refine ops_box (cs := stL S wv vv sv) (by omega) rfl hy.one fun g1 hx1 => ?_
  have n1 := hx1.next
  have f1' := hx1.floor
  refine ops_alloc (cs := stV (.int .i64 0) (.int .i64 0) nilS (.int .i64 0) (.int .i64 0) nilS nilS) (by omega) rfl fun g2 hx2 => ?_
  have n2 := hx2.next
  have f2' := hx2.floor
  have r1 := hx1.row.mono hx2.sub
  have old2 : ∀ i, i < h.next → g2.get i = h.get i := fun i hi => by rw [hx2.old i (by omega), hx1.old i hi]
  have et := to_c (n := n) (h := g2) (by omega) (by omega) S.splo S.sphi
  simp only [rn0, rn1, rn2, reduceIte, Nat.reduceEqDiff, Nat.reduceAdd, Nat.reduceMul, Nat.reduceSub, Nat.reduceLeDiff, Nat.reduceLT]
  refine W_draw All ?_
  simp only [rn0, rn1, rn2, reduceIte, Nat.reduceEqDiff, Nat.reduceAdd, Nat.reduceMul, Nat.reduceSub, Nat.reduceLeDiff, Nat.reduceLT, r1.ld, stg, st_rng r1, Nat.zero_add, eqV_int, et, build_stI]
  refine up_row (cs := stV (.int .i64 0) (.int .i64 0) nilS (.int .i64 0) (.int .i64 0) nilS nilS) (by omega) rfl rfl (fun g3 hx => hx.sub) fun g3 hx3 => ?_
  have n3 := hx3.next
  have f3' := hx3.floor
  simp only [rn0, rn1, rn2, reduceIte, Nat.reduceEqDiff, Nat.reduceAdd, Nat.reduceMul, Nat.reduceSub, Nat.reduceLeDiff, Nat.reduceLT]
  refine up_store (b := g2.next) (off := 0) (vs := stV (.int .i64 S.last) (.int .i64 S.per) nilS (.int .i64 S.splo) (.int .i64 S.sphi) nilS nilS) rfl hx3.get (by omega) (by omega) rfl rfl rfl (by simp) (fun _ _ => trivial) fun g4 hs4 => ?_
  rw [splice_all (by rfl)] at hs4
  have n4 := hs4.next
  have f4' := hs4.floor
  have old4 : ∀ i, i < g2.next → g4.get i = g2.get i := fun i hi => by rw [hs4.old i (by omega), hx3.old i hi]
  have hm1 : g4.get g1.next = g2.get g1.next := old4 _ (by omega)
  simp only [rn0, rn1, rn2, reduceIte, Nat.reduceEqDiff, Nat.reduceAdd, Nat.reduceMul, Nat.reduceSub, Nat.reduceLeDiff, Nat.reduceLT]
  -- the warmth of the hours
  refine W_loop S.nw (fun k f g ms => (∃ v, (∀ i, i < g2.next → g.get i = g4.get i) ∧ g.floor = h.floor ∧ g4.next ≤ g.next ∧ g.next ≤ g4.next + 3 * k ∧ GrowC g4.next g v 2 k (fun k j => .int .i64 (if j = 0 then S.wlo k else S.whi k)) ∧ g.get g2.next = some (.row (stV (.int .i64 S.last) (.int .i64 S.per) v (.int .i64 S.splo) (.int .i64 S.sphi) nilS nilS) true 0)) ∧ ms = [] ∧ f 1 = .pointer (some ⟨h.next, 0, none⟩) ∧ f 2 = .pointer (some ⟨g1.next, 0, none⟩) ∧ f 3 = .pointer (some ⟨g2.next, 0, none⟩) ∧ f 4 = .int .i64 (k : Int)) (by simp; omega) ?_ ?_ ?_
  · simp only [rn0, rn1, rn2, reduceIte, Nat.reduceEqDiff, Nat.reduceAdd, Nat.reduceMul, Nat.reduceSub, Nat.reduceLeDiff, Nat.reduceLT]
    exact ⟨⟨nilS, fun i _ => trivial, by omega, by omega, .nil, hs4.get⟩, rfl⟩
  · rintro k f g ms hk ⟨⟨v, hs, hfg, hup, hnx, gv, grow⟩, rfl, p1, p2, p3, p4⟩
    have hk' : (k : Int) < (S.nw : Int) := by omega
    have hw : wrapF .i64 ((k : Int) + 1) = ((k + 1 : Nat) : Int) := by rw [wrap_in (by omega) (by omega)]; rfl
    have oldg : ∀ i, i < h.next → g.get i = h.get i := fun i hi => by rw [hs i (by omega), old4 i (by omega), old2 i hi]
    have hyg := hy.mono (AHeap.subOf oldg)
    have rg : Row g h.next (stL S wv vv sv) := r1.mono fun i cs w gr _ e => by rw [hs i (by have := AHeap.lt_of_get e; omega), old4 i (AHeap.lt_of_get e)]; exact e
    have r3g : Row g g2.next _ := ⟨_, _, grow⟩
    have et := to_c (n := n) (h := g) (by omega) (by omega) (S.wlo k) (S.whi k)
    simp only [rn0, rn1, rn2, reduceIte, Nat.reduceEqDiff, Nat.reduceAdd, Nat.reduceMul, Nat.reduceSub, Nat.reduceLeDiff, Nat.reduceLT, p1, p2, p3, p4, rg.ld, stg, Nat.zero_add, Cells.len hyg.w, hk']
    refine W_draw All ?_
    simp only [rn0, rn1, rn2, reduceIte, Nat.reduceEqDiff, Nat.reduceAdd, Nat.reduceMul, Nat.reduceSub, Nat.reduceLeDiff, Nat.reduceLT, p1, p2, p3, p4, rg.ld, r3g.ld, stg, Nat.zero_add, List.getElem?_cons_zero, List.getElem?_cons_succ, gv.cells.self, Cells.idx hyg.w hk, ranges_ld hyg.w hk, et, sl_range]
    refine up_slice (by omega) rfl (fun g5 hx => hx.sub) fun g5 hx5 => ?_
    have n5 := hx5.next
    obtain ⟨v', g6, e6, gv6, o6, n6, f6, old6, u6⟩ := grow_push (h := g) (bytes := 16) gv (by omega) (by omega) (by omega) hx5 rfl rfl (fun j hj => by
      obtain rfl | rfl : j = 0 ∨ j = 1 := by omega
      all_goals rfl) (by simp [maxBytes]; omega) (by simp [maxBytes]; omega)
    simp only [rn0, rn1, rn2, reduceIte, Nat.reduceEqDiff, Nat.reduceAdd, Nat.reduceMul, Nat.reduceSub, Nat.reduceLeDiff, Nat.reduceLT, p1, p2, p3, p4, e6]
    refine ⟨by omega, ?_⟩
    refine up_store (b := g2.next) (off := 2) (vs := [v']) rfl (by rw [old6 _ (by omega)]; exact grow) (by omega) (by omega) (cells1 o6) (by simp [allB, o6]) rfl (by simp) (fun _ _ => trivial) fun g7 hs7 => ?_
    rw [sp2] at hs7
    have n7 := hs7.next
    have f7 := hs7.floor
    simp only [rn0, rn1, rn2, reduceIte, Nat.reduceEqDiff, Nat.reduceAdd, Nat.reduceMul, Nat.reduceSub, Nat.reduceLeDiff, Nat.reduceLT, p1, p2, p3, p4, hw]
    exact ⟨v', fun i hi => by rw [hs7.old i (by omega), old6 i (by omega), hs i hi], by omega, by omega, by omega, gv6.keep hs7.keep (by omega), hs7.get⟩
  rintro f g ms ⟨⟨w', hs, hfg, hup, hnx, gvw, grow⟩, rfl, p1, p2, p3, p4⟩
  have oldg : ∀ i, i < h.next → g.get i = h.get i := fun i hi => by rw [hs i (by omega), old4 i (by omega), old2 i hi]
  have hyg := hy.mono (AHeap.subOf oldg)
  have rg : Row g h.next (stL S wv vv sv) := r1.mono fun i cs w gr _ e => by rw [hs i (by have := AHeap.lt_of_get e; omega), old4 i (AHeap.lt_of_get e)]; exact e
  have hm2 : g.get g1.next = g2.get g1.next := by rw [hs _ (by omega), hm1]
  have bw : ∀ x k q, w' = .slice (some x) k q → x.block < g.next := fun x k q e => (gvw.block e).2
  have bw2 : ∀ x k q, w' = .slice (some x) k q → g2.next ≠ x.block := fun x k q e => by have := (gvw.block e).1; omega
  have bwl : ∀ x k q, w' = .slice (some x) k q → g4.next ≤ x.block := fun x k q e => (gvw.block e).1
  have cw := gvw.cells
  have ow := gvw.one
  clear gvw hs
  have e4 : g2.next < g.next := by omega
  simp only [rn0, rn1, rn2, reduceIte, Nat.reduceEqDiff, Nat.reduceAdd, Nat.reduceMul, Nat.reduceSub, Nat.reduceLeDiff, Nat.reduceLT, p1, p2, p3, p4, rg.ld, stg, Nat.zero_add, Cells.len hyg.w, Int.lt_irrefl]
  -- the vats
  refine W_loop S.nv (fun k f g' ms => (∃ v, (∀ i, i < g.next → i ≠ g2.next → g'.get i = g.get i) ∧ g'.floor = h.floor ∧ g.next ≤ g'.next ∧ g'.next ≤ g.next + 3 * k ∧ GrowC g.next g' v 4 k (vatC S) ∧ g'.get g2.next = some (.row (stV (.int .i64 S.last) (.int .i64 S.per) w' (.int .i64 S.splo) (.int .i64 S.sphi) v nilS) true 0)) ∧ ms = [] ∧ f 1 = .pointer (some ⟨h.next, 0, none⟩) ∧ f 2 = .pointer (some ⟨g1.next, 0, none⟩) ∧ f 3 = .pointer (some ⟨g2.next, 0, none⟩) ∧ f 5 = .int .i64 (k : Int)) (by simp; omega) ?_ ?_ ?_
  · simp only [rn0, rn1, rn2, reduceIte, Nat.reduceEqDiff, Nat.reduceAdd, Nat.reduceMul, Nat.reduceSub, Nat.reduceLeDiff, Nat.reduceLT, p1, p2, p3]
    exact ⟨⟨nilS, fun i _ _ => trivial, hfg, by omega, .nil, grow⟩, rfl⟩
  · rintro k f g' ms hk ⟨⟨v, hs, hfg', hup', hnx', gv, grow'⟩, rfl, p1, p2, p3, p5⟩
    have hk' : (k : Int) < (S.nv : Int) := by omega
    have hw : wrapF .i64 ((k : Int) + 1) = ((k + 1 : Nat) : Int) := by rw [wrap_in (by omega) (by omega)]; rfl
    have oldg' : ∀ i, i < h.next → g'.get i = h.get i := fun i hi => by rw [hs i (by omega) (by omega), oldg i hi]
    have hyg' := hy.mono (AHeap.subOf oldg')
    have rg' : Row g' h.next (stL S wv vv sv) := by obtain ⟨w, gr, e⟩ := rg; exact ⟨w, gr, by rw [hs _ (by omega) (by omega)]; exact e⟩
    have r3g : Row g' g2.next _ := ⟨_, _, grow'⟩
    simp only [rn0, rn1, rn2, reduceIte, Nat.reduceEqDiff, Nat.reduceAdd, Nat.reduceMul, Nat.reduceSub, Nat.reduceLeDiff, Nat.reduceLT, p1, p2, p3, p5, rg'.ld, stg, Nat.zero_add, Cells.len hyg'.v, hk', Cells.idx hyg'.v hk, vat_ld hyg' hk]
    refine step_new (vs := [.int .i64 (S.vb k), .int .i64 (S.vlo k), .int .i64 (S.vhi k), .int .i64 (S.vn k)]) (by omega) (by omega) rfl (by simp only [rn0, rn1, rn2, reduceIte, Nat.reduceEqDiff, Nat.reduceAdd, Nat.reduceMul, Nat.reduceSub, Nat.reduceLeDiff, Nat.reduceLT]; rfl) rfl rfl rfl fun g5 hx5 => ?_
    have n5 := hx5.next
    have f5 := hx5.floor
    have r35 := r3g.mono hx5.sub
    have gv5 := gv.sub hx5.sub
    have et := to_c (n := n) (h := g5) (by omega) (by omega) (S.vlo k) (S.vhi k)
    simp only [rn0, rn1, rn2, reduceIte, Nat.reduceEqDiff, Nat.reduceAdd, Nat.reduceMul, Nat.reduceSub, Nat.reduceLeDiff, Nat.reduceLT]
    refine W_draw All ?_
    simp only [rn0, rn1, rn2, reduceIte, Nat.reduceEqDiff, Nat.reduceAdd, Nat.reduceMul, Nat.reduceSub, Nat.reduceLeDiff, Nat.reduceLT, p1, p2, p3, p5, r35.ld, hx5.ld, hx5.ldN 1 2 (by simp) (by simp), List.drop_succ_cons, List.drop_zero, List.take_succ_cons, List.take_zero, Nat.zero_add, List.getElem?_cons_zero, List.getElem?_cons_succ, eqV_int, gv5.cells.self, et, build_va, sl_va]
    refine up_slice (by omega) rfl (fun g6 hx => hx.sub) fun g6 hx6 => ?_
    have n6 := hx6.next
    obtain ⟨v', g7, e7, gv7, o7, n7, f7, old7, u7⟩ := grow_push (h := g5) (bytes := 32) gv5 (by omega) (by omega) (by omega) hx6 rfl rfl (fun j hj => by
      obtain rfl | rfl | rfl | rfl : j = 0 ∨ j = 1 ∨ j = 2 ∨ j = 3 := by omega
      all_goals rfl) (by simp [maxBytes]; omega) (by simp [maxBytes]; omega)
    simp only [rn0, rn1, rn2, reduceIte, Nat.reduceEqDiff, Nat.reduceAdd, Nat.reduceMul, Nat.reduceSub, Nat.reduceLeDiff, Nat.reduceLT, p1, p2, p3, e7]
    refine ⟨by omega, ?_⟩
    refine up_store (b := g2.next) (off := 5) (vs := [v']) rfl (by rw [old7 _ (by omega), hx5.old _ (by omega)]; exact grow') (by omega) (by omega) (cells1 o7) (by simp [allB, o7]) rfl (by simp) (fun _ _ => trivial) fun g8 hs8 => ?_
    rw [sp5] at hs8
    have n8 := hs8.next
    have f8 := hs8.floor
    simp only [rn0, rn1, rn2, reduceIte, Nat.reduceEqDiff, Nat.reduceAdd, Nat.reduceMul, Nat.reduceSub, Nat.reduceLeDiff, Nat.reduceLT, p1, p2, p3, p5, hw]
    exact ⟨v', fun i hi hne => by rw [hs8.old i hne, old7 i hi, hx5.old i (by omega), hs i hi hne], by omega, by omega, by omega, gv7.keep hs8.keep (by omega), hs8.get⟩
  rintro f ga ms ⟨⟨v', hsa, hfa, hupa, hnxa, gva, growa⟩, rfl, p1, p2, p3, p5⟩
  have olda : ∀ i, i < h.next → ga.get i = h.get i := fun i hi => by rw [hsa i (by omega) (by omega), oldg i hi]
  have hya := hy.mono (AHeap.subOf olda)
  have rga : Row ga h.next (stL S wv vv sv) := by obtain ⟨w, gr, e⟩ := rg; exact ⟨w, gr, by rw [hsa _ (by omega) (by omega)]; exact e⟩
  have hm3 : ga.get g1.next = g2.get g1.next := by rw [hsa _ (by omega) (by omega), hm2]
  have cwa : Ranges ga w' S.nw S.wlo S.whi := by
    obtain ⟨a, cap, rfl, hsp, h0 | ⟨b, o, cs, w, gr, rfl, h1, h2⟩⟩ := cw
    · exact ⟨a, cap, rfl, hsp, .inl h0⟩
    · exact ⟨_, cap, rfl, hsp, .inr ⟨b, o, cs, w, gr, rfl, by rw [hsa b (bw _ _ _ rfl) (fun e => bw2 _ _ _ rfl e.symm)]; exact h1, h2⟩⟩
  have bv : ∀ x k q, v' = .slice (some x) k q → x.block < ga.next := fun x k q e => (gva.block e).2
  have bv2 : ∀ x k q, v' = .slice (some x) k q → g2.next ≠ x.block := fun x k q e => by have := (gva.block e).1; omega
  have bvl : ∀ x k q, v' = .slice (some x) k q → g.next ≤ x.block := fun x k q e => (gva.block e).1
  have cv := gva.cells
  have ov := gva.one
  clear gva hsa cw
  have e5 : g2.next < ga.next := by omega
  simp only [rn0, rn1, rn2, reduceIte, Nat.reduceEqDiff, Nat.reduceAdd, Nat.reduceMul, Nat.reduceSub, Nat.reduceLeDiff, Nat.reduceLT, p1, p2, p3, p5, rga.ld, stg, Nat.zero_add, Cells.len hya.v, Int.lt_irrefl]
  -- the smells
  refine W_loop S.ns (fun k f g' ms => (∃ v, (∀ i, i < ga.next → i ≠ g2.next → g'.get i = ga.get i) ∧ g'.floor = h.floor ∧ ga.next ≤ g'.next ∧ g'.next ≤ ga.next + 3 * k ∧ GrowC ga.next g' v 3 k (fun k j => .int .i64 (if j = 0 then S.sv k else if j = 1 then S.sh k else S.sk k)) ∧ g'.get g2.next = some (.row (stV (.int .i64 S.last) (.int .i64 S.per) w' (.int .i64 S.splo) (.int .i64 S.sphi) v' v) true 0)) ∧ ms = [] ∧ f 1 = .pointer (some ⟨h.next, 0, none⟩) ∧ f 2 = .pointer (some ⟨g1.next, 0, none⟩) ∧ f 3 = .pointer (some ⟨g2.next, 0, none⟩) ∧ f 7 = .int .i64 (k : Int)) (by simp; omega) ?_ ?_ ?_
  · simp only [rn0, rn1, rn2, reduceIte, Nat.reduceEqDiff, Nat.reduceAdd, Nat.reduceMul, Nat.reduceSub, Nat.reduceLeDiff, Nat.reduceLT, p1, p2, p3]
    exact ⟨⟨nilS, fun i _ _ => trivial, hfa, by omega, .nil, growa⟩, rfl⟩
  · rintro k f g' ms hk ⟨⟨v, hs, hfg', hup', hnx', gv, grow'⟩, rfl, p1, p2, p3, p7⟩
    have hk' : (k : Int) < (S.ns : Int) := by omega
    have hw : wrapF .i64 ((k : Int) + 1) = ((k + 1 : Nat) : Int) := by rw [wrap_in (by omega) (by omega)]; rfl
    have oldg' : ∀ i, i < h.next → g'.get i = h.get i := fun i hi => by rw [hs i (by omega) (by omega), olda i hi]
    have hyg' := hy.mono (AHeap.subOf oldg')
    have rg' : Row g' h.next (stL S wv vv sv) := by obtain ⟨w, gr, e⟩ := rga; exact ⟨w, gr, by rw [hs _ (by omega) (by omega)]; exact e⟩
    have r3g : Row g' g2.next _ := ⟨_, _, grow'⟩
    simp only [rn0, rn1, rn2, reduceIte, Nat.reduceEqDiff, Nat.reduceAdd, Nat.reduceMul, Nat.reduceSub, Nat.reduceLeDiff, Nat.reduceLT, p1, p2, p3, p7, rg'.ld, stg, Nat.zero_add, Cells.len hyg'.s, hk', Cells.idx hyg'.s hk, samps_ld hyg'.s hk]
    refine step_new (vs := [.int .i64 (S.sv k), .int .i64 (S.sh k), .int .i64 (S.sk k)]) (by omega) (by omega) rfl (by simp only [rn0, rn1, rn2, reduceIte, Nat.reduceEqDiff, Nat.reduceAdd, Nat.reduceMul, Nat.reduceSub, Nat.reduceLeDiff, Nat.reduceLT]; rfl) rfl rfl rfl fun g5 hx5 => ?_
    have n5 := hx5.next
    have f5 := hx5.floor
    have r35 := r3g.mono hx5.sub
    have gv5 := gv.sub hx5.sub
    simp only [rn0, rn1, rn2, reduceIte, Nat.reduceEqDiff, Nat.reduceAdd, Nat.reduceMul, Nat.reduceSub, Nat.reduceLeDiff, Nat.reduceLT, p1, p2, p3, p7, r35.ld, hx5.ld, Nat.zero_add, List.getElem?_cons_zero, List.getElem?_cons_succ, build_sm, sl_samp]
    refine step_slice (by omega) rfl fun g6 hx6 => ?_
    have n6 := hx6.next
    obtain ⟨v'', g7, e7, gv7, o7, n7, f7, old7, u7⟩ := grow_push (h := g5) (bytes := 24) gv5 (by omega) (by omega) (by omega) hx6 rfl rfl (fun j hj => by
      obtain rfl | rfl | rfl : j = 0 ∨ j = 1 ∨ j = 2 := by omega
      all_goals rfl) (by simp [maxBytes]; omega) (by simp [maxBytes]; omega)
    simp only [rn0, rn1, rn2, reduceIte, Nat.reduceEqDiff, Nat.reduceAdd, Nat.reduceMul, Nat.reduceSub, Nat.reduceLeDiff, Nat.reduceLT, p1, p2, p3, e7]
    refine step_store (b := g2.next) (off := 6) (vs := [v'']) rfl (by rw [old7 _ (by omega), hx5.old _ (by omega)]; exact grow') (by omega) (by omega) (cells1 o7) (by simp [allB, o7]) rfl (by simp) fun g8 hs8 => ?_
    rw [sp6] at hs8
    have n8 := hs8.next
    have f8 := hs8.floor
    simp only [rn0, rn1, rn2, reduceIte, Nat.reduceEqDiff, Nat.reduceAdd, Nat.reduceMul, Nat.reduceSub, Nat.reduceLeDiff, Nat.reduceLT, p1, p2, p3, p7, hw]
    exact ⟨v'', fun i hi hne => by rw [hs8.old i hne, old7 i hi, hx5.old i (by omega), hs i hi hne], by omega, by omega, by omega, gv7.keep hs8.keep (by omega), hs8.get⟩
  rintro f gb ms ⟨⟨s', hsb, hfb, hupb, hnxb, gvb, growb⟩, rfl, p1, p2, p3, p7⟩
  have oldb : ∀ i, i < h.next → gb.get i = h.get i := fun i hi => by rw [hsb i (by omega) (by omega), olda i hi]
  have hyb := hy.mono (AHeap.subOf oldb)
  have rgb : Row gb h.next (stL S wv vv sv) := by obtain ⟨w, gr, e⟩ := rga; exact ⟨w, gr, by rw [hsb _ (by omega) (by omega)]; exact e⟩
  have hm4 : gb.get g1.next = some (.row (stV (.int .i64 0) (.int .i64 0) nilS (.int .i64 0) (.int .i64 0) nilS nilS) true 0) := by rw [hsb _ (by omega) (by omega), hm3]; exact hx2.get
  have rr : Row gb g2.next _ := ⟨_, _, growb⟩
  have hone : allB oneCell (stL S w' v' s') = true := by simp [stL, allB, one_int, ow, ov, gvb.one]
  simp only [rn0, rn1, rn2, reduceIte, Nat.reduceEqDiff, Nat.reduceAdd, Nat.reduceMul, Nat.reduceSub, Nat.reduceLeDiff, Nat.reduceLT, p1, p2, p3, p7, rgb.ld, stg, Nat.zero_add, Cells.len hyb.s, Int.lt_irrefl, rr.whole (n := 7) rfl]
  refine step_store (b := g1.next) (off := 0) (vs := stL S w' v' s') rfl hm4 (by omega) (by omega) rfl hone rfl (by simp) fun gc hsc => ?_
  rw [splice_all (by rfl)] at hsc
  have nc := hsc.next
  have fc := hsc.floor
  simp only [rn0, rn1, rn2, reduceIte, Nat.reduceEqDiff, Nat.reduceAdd, Nat.reduceMul, Nat.reduceSub, Nat.reduceLeDiff, Nat.reduceLT, p2, res_cellN, hsc.row.whole (n := 7) rfl]
  have sep : ∀ {v : Value} {s m : Nat} {c : Nat → Nat → Value}, Cells gb v s m c → (∀ x k q, v = .slice (some x) k q → g1.next < x.block) → Cells gc v s m c := fun {v s m c} hc hb => by
    obtain ⟨a, cap, rfl, hsp, h0 | ⟨b, o, cs, w, gr, rfl, h1, h2⟩⟩ := hc
    · exact ⟨a, cap, rfl, hsp, .inl h0⟩
    · have := hb _ _ _ rfl
      have : b ≠ g1.next := by have : g1.next < b := this; omega
      exact ⟨_, cap, rfl, hsp, .inr ⟨b, o, cs, w, gr, rfl, by rw [hsc.old b this]; exact h1, h2⟩⟩
  refine ⟨w', v', s', rfl, ⟨?_, ?_, ?_⟩, fun i hi => by rw [hsc.old i (by omega), oldb i hi], by omega, by omega, by omega, fun x k q e => by have := bwl x k q e; omega, fun x k q e => by have := bvl x k q e; omega, fun x k q e => by have := (gvb.block e).1; omega⟩
  · have q : Ranges gb w' S.nw S.wlo S.whi := by
      obtain ⟨a, cap, rfl, hsp, h0 | ⟨b, o, cs, w, gr, rfl, h1, h2⟩⟩ := cwa
      · exact ⟨a, cap, rfl, hsp, .inl h0⟩
      · have hb := bw _ _ _ rfl
        have hb2 := bw2 _ _ _ rfl
        exact ⟨_, cap, rfl, hsp, .inr ⟨b, o, cs, w, gr, rfl, by rw [hsb b (Nat.lt_of_lt_of_le hb hupa) fun e => hb2 e.symm]; exact h1, h2⟩⟩
    exact sep q fun x k q e => by have := bwl x k q e; omega
  · have q : Cells gb v' 4 S.nv (vatC S) := by
      obtain ⟨a, cap, rfl, hsp, h0 | ⟨b, o, cs, w, gr, rfl, h1, h2⟩⟩ := cv
      · exact ⟨a, cap, rfl, hsp, .inl h0⟩
      · have hb := bv _ _ _ rfl
        have hb2 := bv2 _ _ _ rfl
        exact ⟨_, cap, rfl, hsp, .inr ⟨b, o, cs, w, gr, rfl, by rw [hsb b hb fun e => hb2 e.symm]; exact h1, h2⟩⟩
    exact sep q fun x k q e => by have := bvl x k q e; omega
  · exact sep gvb.cells fun x k q e => by have := (gvb.block e).1; omega

def s26 : SCode := (.seq (.ops [⟨some 2, none, .mov (.const (.slice none 0 0))⟩]) (.seq (.ops [⟨some 3, none, .mov (T 0)⟩, ⟨some 4, none, .append 1 8 (.const (.slice none 0 0)) (T 3)⟩, ⟨some 2, none, .mov (T 4)⟩]) .ret))
theorem fok26 : FnOk Tryz.prog 26 5 s26 [.tmp 2] := ⟨Tryz.f26, _, Tryz.func26, rfl, Tryz.ntmps26, by kernel_rfl, by kernel_rfl⟩
theorem listG_c (hn : 1 ≤ n) (hr : h.next + 2 < far) {v : Value} {m : Nat} {a : Nat → Int} (hi : Ints h v m a) (hm : m ≤ 30) :
    ∃ v' h', call n (.func (.func 26) #[] #[]) [v] h = some (v', h') ∧ Ints h' v' m a ∧ oneCell v' = true ∧ (∀ i, i < h.next → h'.get i = h.get i) ∧ h.next ≤ h'.next ∧ h'.next ≤ h.next + 1 ∧ h'.floor = h.floor := by
  obtain ⟨n, rfl⟩ : ∃ p, n = p + 1 := ⟨n - 1, by omega⟩
  refine call_any0 fok26 rfl rfl (by simp) ?_
  obtain ⟨x, k, e1, e2⟩ := Ints.cells hi
  have hap := append_nil (h := h) (s := 1) (bytes := 8) ⟨x, k, e1⟩ e2 (by simp) (by simp [maxBytes]; omega) (by simp [maxBytes]; omega)
  by_cases hz : m = 0
  · rw [if_pos hz] at hap
    simp only [rn0, rn1, rn2, reduceIte, Nat.reduceEqDiff, Nat.reduceAdd, Nat.reduceMul, Nat.reduceSub, Nat.reduceLeDiff, Nat.reduceLT, s26, hap]
    exact ⟨⟨none, 0, by rw [hz], (fun x e => nomatch e), .inl hz⟩, rfl, fun i _ => trivial, by omega⟩
  · rw [if_neg hz] at hap
    simp only [rn0, rn1, rn2, reduceIte, Nat.reduceEqDiff, Nat.reduceAdd, Nat.reduceMul, Nat.reduceSub, Nat.reduceLeDiff, Nat.reduceLT, s26, hap]
    refine step_slice (by omega) (by rw [allB_iff]; intro v hv; obtain ⟨i, _, rfl⟩ := List.mem_map.1 hv; rfl) fun h2 hx2 => ?_
    have n2 := hx2.next
    simp only [rn0, rn1, rn2, reduceIte, Nat.reduceEqDiff, Nat.reduceAdd, Nat.reduceMul, Nat.reduceSub, Nat.reduceLeDiff, Nat.reduceLT]
    exact ⟨ints_row hx2.get, rfl, hx2.old, by omega, by omega, hx2.floor⟩
def zgL : List Value := [.int .i64 0, .int .i64 0, .slice none 0 0, .int .i64 0, .int .i64 0, .slice none 0 0, .slice none 0 0, .int .i64 0, .int .i64 0, .slice none 0 0]
theorem build_ga {G : MG} {wv vv sv : Value} : buildA (fun x => (#[(0, 7), (7, 1), (8, 1), (9, 1)] : Array (Nat × Nat))[x]?) ⟨[.int .i64 0, .int .i64 0, .slice none 0 0, .int .i64 0, .int .i64 0, .slice none 0 0, .slice none 0 0, .int .i64 0, .int .i64 0, .slice none 0 0]⟩ [0, 1, 2] h [.agg ⟨stL G.s wv vv sv⟩, .int .i64 G.men, .int .i64 G.close] = some (.agg ⟨gaL G wv vv sv nilS⟩, h) := by
  unfold buildA
  have e : Instr.fill (fun x => (#[(0, 7), (7, 1), (8, 1), (9, 1)] : Array (Nat × Nat))[x]?) #[.int .i64 0, .int .i64 0, .slice none 0 0, .int .i64 0, .int .i64 0, .slice none 0 0, .slice none 0 0, .int .i64 0, .int .i64 0, .slice none 0 0] ([0, 1, 2].zip [.agg ⟨stL G.s wv vv sv⟩, .int .i64 G.men, .int .i64 G.close]) = some ⟨gaL G wv vv sv nilS⟩ := by
    simp [Instr.fill, Value.cells, gaL, stL]
  rw [e]
theorem gaX {G : MG} {a b c d : Value} : (gaL G a b c d)[9]? = some d := rfl
def s25 : SCode := (.seq (.ops [⟨some 1, none, .box (T 0)⟩, ⟨some 2, none, .alloc [(.int .i64 0), (.int .i64 0), (.slice none 0 0), (.int .i64 0), (.int .i64 0), (.slice none 0 0), (.slice none 0 0), (.int .i64 0), (.int .i64 0), (.slice none 0 0)]⟩]) (.seq (.draw [⟨.free, ⟨some 6, none, .fieldAddr 0 (T 1)⟩⟩, ⟨.rd1, ⟨some 7, none, .loadN 7 (T 6)⟩⟩, ⟨.up, ⟨some 8, none, .call (.func 69) [(T 7)]⟩⟩, ⟨.free, ⟨some 9, none, .fieldAddr 7 (T 1)⟩⟩, ⟨.rd, ⟨some 10, none, .load1 (T 9)⟩⟩, ⟨.free, ⟨some 11, none, .fieldAddr 8 (T 1)⟩⟩, ⟨.rd, ⟨some 12, none, .load1 (T 11)⟩⟩, ⟨.free, ⟨some 13, none, .build #[(0, 7), (7, 1), (8, 1), (9, 1)] [(.int .i64 0), (.int .i64 0), (.slice none 0 0), (.int .i64 0), (.int .i64 0), (.slice none 0 0), (.slice none 0 0), (.int .i64 0), (.int .i64 0), (.slice none 0 0)] [0, 1, 2] [(T 8), (T 10), (T 12)]⟩⟩, ⟨.up, ⟨some 3, none, .alloc [(.int .i64 0), (.int .i64 0), (.slice none 0 0), (.int .i64 0), (.int .i64 0), (.slice none 0 0), (.slice none 0 0), (.int .i64 0), (.int .i64 0), (.slice none 0 0)]⟩⟩, ⟨.any, ⟨none, none, .store 10 (T 3) (T 13)⟩⟩]) (.seq (.seq (.ops [⟨some 4, none, .mov (.const (.int .i64 0))⟩]) (.block 0 (.loop (.seq (.seq (.ops [⟨some 14, none, .mov (T 4)⟩, ⟨some 15, none, .fieldAddr 9 (T 1)⟩, ⟨some 16, none, .load1 (T 15)⟩, ⟨some 17, none, .len (T 16)⟩, ⟨some 18, none, .int2 .lss (T 14) (T 17)⟩]) (.cond (T 18) .skip (.exit 0))) (.seq (.block 1 (.seq (.ops [⟨some 21, none, .fieldAddr 9 (T 1)⟩, ⟨some 22, none, .load1 (T 21)⟩, ⟨some 23, none, .mov (T 4)⟩, ⟨some 24, none, .idxSl 3 (T 22) (T 23)⟩, ⟨some 25, none, .loadN 3 (T 24)⟩, ⟨some 5, none, .alloc [(.int .i64 0), (.int .i64 0), (.int .i64 0)]⟩, ⟨none, none, .store 3 (T 5) (T 25)⟩]) (.ops [⟨some 26, none, .fieldAddr 9 (T 3)⟩, ⟨some 27, none, .load1 (T 26)⟩, ⟨some 28, none, .fieldAddr 0 (T 5)⟩, ⟨some 29, none, .load1 (T 28)⟩, ⟨some 30, none, .fieldAddr 1 (T 5)⟩, ⟨some 31, none, .fieldAddr 0 (T 30)⟩, ⟨some 32, none, .load1 (T 31)⟩, ⟨some 33, none, .fieldAddr 1 (T 5)⟩, ⟨some 34, none, .fieldAddr 1 (T 33)⟩, ⟨some 35, none, .load1 (T 34)⟩, ⟨some 36, none, .build #[(0, 1), (1, 1)] [(.int .i64 0), (.int .i64 0)] [0, 1] [(T 32), (T 35)]⟩, ⟨some 37, none, .build #[(0, 1), (1, 2)] [(.int .i64 0), (.int .i64 0), (.int .i64 0)] [0, 1] [(T 29), (T 36)]⟩, ⟨some 38, none, .bslice 3 1 [(.int .i64 0), (.int .i64 0), (.int .i64 0)] [0] [(T 37)]⟩, ⟨some 39, none, .append 3 24 (T 27) (T 38)⟩, ⟨some 40, none, .fieldAddr 9 (T 3)⟩, ⟨none, none, .store 1 (T 40) (T 39)⟩]))) (.ops [⟨some 19, none, .mov (T 4)⟩, ⟨some 20, none, .int2 .add (T 19) (.const (.int .i64 1))⟩, ⟨some 4, none, .mov (T 20)⟩])))))) (.seq (.ops [⟨some 41, none, .loadN 10 (T 3)⟩, ⟨none, none, .store 10 (T 2) (T 41)⟩]) .ret))))
theorem fok25 : FnOk Tryz.prog 25 42 s25 [.cellN 2 10] := ⟨Tryz.f25, _, Tryz.func25, rfl, Tryz.ntmps25, by kernel_rfl, by kernel_rfl⟩
set_option maxHeartbeats 2000000 in
theorem gangL_c (hn : 110 ≤ n) (hr : h.next + 600 < far) (hfl : h.floor ≤ h.next) {wv vv sv kv : Value} {G : MG} (hy : GangR h wv vv sv kv G) (hT : ThinS G.s) (hl : G.nk ≤ 30) :
    ∃ wv' vv' sv' kv' h', call n (.func (.func 25) #[] #[]) [.agg ⟨gaL G wv vv sv kv⟩] h = some (.agg ⟨gaL G wv' vv' sv' kv'⟩, h') ∧ GangR h' wv' vv' sv' kv' G ∧ (∀ i, i < h.next → h'.get i = h.get i) ∧ h.next ≤ h'.next ∧ h'.next ≤ h.next + 550 ∧ h'.floor = h.floor := by
  obtain ⟨n, rfl⟩ : ∃ p, n = p + 1 := ⟨n - 1, by omega⟩
  suffices hs : ∃ v h', call (n + 1) (.func (.func 25) #[] #[]) [.agg ⟨gaL G wv vv sv kv⟩] h = some (v, h') ∧ ∃ wv' vv' sv' kv', v = .agg ⟨gaL G wv' vv' sv' kv'⟩ ∧ GangR h' wv' vv' sv' kv' G ∧ (∀ i, i < h.next → h'.get i = h.get i) ∧ h.next ≤ h'.next ∧ h'.next ≤ h.next + 550 ∧ h'.floor = h.floor by
    obtain ⟨v, h', e, a, b, c, d, rfl, q⟩ := hs
    exact ⟨a, b, c, d, h', e, q⟩
  refine call_any0 fok25 rfl rfl (by simp) ?_
  simp only [s25, W_seq, W_ops]
  refine ops_box (cs := gaL G wv vv sv kv) (by omega) rfl hy.one fun g1 hx1 => ?_
  have n1 := hx1.next
  have f1 := hx1.floor
  simp only [rn0, rn1, rn2, reduceIte, Nat.reduceEqDiff, Nat.reduceAdd, Nat.reduceMul, Nat.reduceSub, Nat.reduceLeDiff, Nat.reduceLT]
  refine step_row (cs := zgL) (by omega) rfl rfl fun g2 hx2 => ?_
  have n2 := hx2.next
  have f2 := hx2.floor
  have hy2 := hy.mono (hx1.sub.trans hx2.sub)
  have r2 := hx1.row.mono hx2.sub
  have old2 : ∀ i, i < h.next → g2.get i = h.get i := fun i hi => by rw [hx2.old i (by omega), hx1.old i hi]
  obtain ⟨wa, va, sa, g3, e3, hy3, o3, u3, m3, f3, bw3, bv3, bs3⟩ := steepLO_c (n := n) (h := g2) (by omega) (by omega) (by omega) hy2.s hT
  have s23 : Sub All g2 g3 := AHeap.subOf o3
  simp only [rn0, rn1, rn2, reduceIte, Nat.reduceEqDiff, Nat.reduceAdd, Nat.reduceMul, Nat.reduceSub, Nat.reduceLeDiff, Nat.reduceLT]
  refine W_draw All ?_
  simp only [rn0, rn1, rn2, reduceIte, Nat.reduceEqDiff, Nat.reduceAdd, Nat.reduceMul, Nat.reduceSub, Nat.reduceLeDiff, Nat.reduceLT, ga_st r2, r2.ld, gag, Nat.zero_add, eqV_int, hy2.s.self, e3, build_ga]
  first | refine ⟨u3, ?_⟩ | refine ⟨⟨u3, s23⟩, ?_⟩ | skip
  have hone0 : allB oneCell (gaL G wa va sa nilS) = true := by simp [gaL, allB, one_int, Cells.one hy3.w, Cells.one hy3.v, Cells.one hy3.s, (show oneCell nilS = true from rfl)]
  refine up_row (cs := zgL) (by omega) rfl rfl (fun g4 hx => s23.trans hx.sub) fun g4 hx4 => ?_
  have n4 := hx4.next
  have f4 := hx4.floor
  simp only [rn0, rn1, rn2, reduceIte, Nat.reduceEqDiff, Nat.reduceAdd, Nat.reduceMul, Nat.reduceSub, Nat.reduceLeDiff, Nat.reduceLT]
  refine up_store (b := g3.next) (off := 0) (vs := gaL G wa va sa nilS) rfl hx4.get (by omega) (by omega) rfl hone0 rfl (by simp [gaL, zgL]) (fun _ _ => trivial) fun g5 hs5 => ?_
  rw [splice_all (by rfl)] at hs5
  have n5 := hs5.next
  have f5 := hs5.floor
  have old5 : ∀ i, i < g3.next → g5.get i = g3.get i := fun i hi => by rw [hs5.old i (by omega), hx4.old i hi]
  have q5 := hs5.get
  have hy5 := hy3.mono (AHeap.subOf old5)
  have z5 : g5.get g1.next = some (.row zgL true 0) := by rw [old5 _ (by omega), o3 _ (by omega)]; exact hx2.get
  have old5h : ∀ i, i < h.next → g5.get i = h.get i := fun i hi => by rw [old5 i (by omega), o3 i (by omega), old2 i hi]
  have r5 : Row g5 h.next (gaL G wv vv sv kv) := by
    obtain ⟨w, gr, e⟩ := r2
    exact ⟨w, gr, by rw [old5 _ (by omega), o3 _ (by omega)]; exact e⟩
  obtain ⟨B, hB⟩ : ∃ q, q = g3.next := ⟨_, rfl⟩
  rw [← hB] at q5
  rw [← hB]
  have b5 : g5.next = B + 1 := by omega
  simp only [rn0, rn1, rn2, reduceIte, Nat.reduceEqDiff, Nat.reduceAdd, Nat.reduceMul, Nat.reduceSub, Nat.reduceLeDiff, Nat.reduceLT]
  refine W_loop G.nk (fun k f g ms => (∃ X, (∀ i, i < g5.next → i ≠ B → g.get i = g5.get i) ∧ g.floor = h.floor ∧ g5.next ≤ g.next ∧ g.next ≤ g5.next + 3 * k ∧ GrowC g5.next g X 3 k (workC G) ∧ g.get B = some (.row (gaL G wa va sa X) true 0)) ∧ ms = [] ∧ f 1 = .pointer (some ⟨h.next, 0, none⟩) ∧ f 2 = .pointer (some ⟨g1.next, 0, none⟩) ∧ f 3 = .pointer (some ⟨B, 0, none⟩) ∧ f 4 = .int .i64 (k : Int)) (by simp; omega) ?_ ?_ ?_
  · simp only [rn0, rn1, rn2, reduceIte, Nat.reduceEqDiff, Nat.reduceAdd, Nat.reduceMul, Nat.reduceSub, Nat.reduceLeDiff, Nat.reduceLT, Int.natCast_zero]
    first | exact ⟨⟨nilS, fun i _ _ => trivial, by omega, Nat.le_refl _, Nat.le_refl _, .nil, q5⟩, rfl⟩ | exact ⟨nilS, fun i _ _ => trivial, by omega, Nat.le_refl _, Nat.le_refl _, .nil, q5⟩ | exact ⟨nilS, fun i _ _ => trivial, by omega, Nat.le_refl _, .nil, q5⟩
  · rintro k f g ms hk ⟨⟨X, og, fg, ug, ng, gv, qg⟩, rfl, p1, p2, p3, p4⟩
    have hk' : (k : Int) < (G.nk : Int) := by omega
    have hwk : wrapF .i64 ((k : Int) + 1) = ((k + 1 : Nat) : Int) := by rw [wrap_in (by omega) (by omega)]; rfl
    have oldg : ∀ i, i < h.next → g.get i = h.get i := fun i hi => by rw [og i (by omega) (by omega), old5h i hi]
    have hyg := hy.mono (AHeap.subOf oldg)
    have rg : Row g h.next (gaL G wv vv sv kv) := by
      obtain ⟨w, gr, e⟩ := r5
      exact ⟨w, gr, by rw [og _ (by omega) (by omega)]; exact e⟩
    simp only [rn0, rn1, rn2, reduceIte, Nat.reduceEqDiff, Nat.reduceAdd, Nat.reduceMul, Nat.reduceSub, Nat.reduceLeDiff, Nat.reduceLT, p1, p2, p3, p4, rg.ld, gag, Nat.zero_add, Cells.len hyg.k, hk', Cells.idx hyg.k hk, work_ld hyg hk]
    refine step_new (vs := woL G k) (by omega) (by omega) rfl (by simp only [rn0, rn1, rn2, reduceIte, Nat.reduceEqDiff, Nat.reduceAdd, Nat.reduceMul, Nat.reduceSub, Nat.reduceLeDiff, Nat.reduceLT]; rfl) rfl rfl rfl fun g6 hx6 => ?_
    have n6 := hx6.next
    have f6 := hx6.floor
    have q6 : g6.get B = some (.row (gaL G wa va sa X) true 0) := by rw [hx6.old _ (by omega)]; exact qg
    have rB : Row g6 B (gaL G wa va sa X) := ⟨_, _, q6⟩
    have r6 := hx6.row
    have gv6 := gv.sub hx6.sub
    simp only [rn0, rn1, rn2, reduceIte, Nat.reduceEqDiff, Nat.reduceAdd, Nat.reduceMul, Nat.reduceSub, Nat.reduceLeDiff, Nat.reduceLT, p1, p2, p3, p4, rB.ld, gaX, r6.ld, wog, Nat.zero_add, build_range, build_samp, sl_samp]
    refine step_slice (by omega) rfl fun g7 hx7 => ?_
    have n7 := hx7.next
    have f7 := hx7.floor
    obtain ⟨v', g8, e8, gv8, o8, n8, f8, old8, u8⟩ := grow_push (h := g6) (bytes := 24) gv6 (by omega) (by omega) (by omega) hx7 rfl rfl (fun j hj => by
      obtain rfl | rfl | rfl : j = 0 ∨ j = 1 ∨ j = 2 := by omega
      all_goals rfl) (by simp [maxBytes]; omega) (by simp [maxBytes]; omega)
    simp only [rn0, rn1, rn2, reduceIte, Nat.reduceEqDiff, Nat.reduceAdd, Nat.reduceMul, Nat.reduceSub, Nat.reduceLeDiff, Nat.reduceLT, p1, p2, p3, e8]
    refine step_store (b := B) (off := 9) (vs := [v']) rfl (by rw [old8 _ (by omega)]; exact q6) (by omega) (by omega) (cells1 o8) (by simp [allB, o8]) rfl (by simp [gaL]) fun g9 hs9 => ?_
    have es9 : splice (gaL G wa va sa X) 9 [v'] = gaL G wa va sa v' := rfl
    rw [es9] at hs9
    have n9 := hs9.next
    have f9 := hs9.floor
    simp only [rn0, rn1, rn2, reduceIte, Nat.reduceEqDiff, Nat.reduceAdd, Nat.reduceMul, Nat.reduceSub, Nat.reduceLeDiff, Nat.reduceLT, p1, p2, p3, p4, hwk]
    have fin : ∃ X, (∀ i, i < g5.next → i ≠ B → g9.get i = g5.get i) ∧ g9.floor = h.floor ∧ g5.next ≤ g9.next ∧ g9.next ≤ g5.next + 3 * (k + 1) ∧ GrowC g5.next g9 X 3 (k + 1) (workC G) ∧ g9.get B = some (.row (gaL G wa va sa X) true 0) := ⟨v', fun i hi hne => by rw [hs9.old i hne, old8 i (by omega), hx6.old i (by omega), og i hi hne], by omega, by omega, by omega, gv8.keep hs9.keep (by omega), hs9.get⟩
    first | exact fin | exact ⟨fin, rfl⟩
  · rintro f g ms ⟨⟨X, og, fg, ug, ng, gv, qg⟩, rfl, p1, p2, p3, p4⟩
    have oldg : ∀ i, i < h.next → g.get i = h.get i := fun i hi => by rw [og i (by omega) (by omega), old5h i hi]
    have hyg := hy.mono (AHeap.subOf oldg)
    have rg : Row g h.next (gaL G wv vv sv kv) := by
      obtain ⟨w, gr, e⟩ := r5
      exact ⟨w, gr, by rw [og _ (by omega) (by omega)]; exact e⟩
    have rB : Row g B (gaL G wa va sa X) := ⟨_, _, qg⟩
    have hone : allB oneCell (gaL G wa va sa X) = true := by simp [gaL, allB, one_int, Cells.one hy3.w, Cells.one hy3.v, Cells.one hy3.s, gv.one]
    simp only [rn0, rn1, rn2, reduceIte, Nat.reduceEqDiff, Nat.reduceAdd, Nat.reduceMul, Nat.reduceSub, Nat.reduceLeDiff, Nat.reduceLT, p1, p2, p3, p4, rg.ld, gag, Nat.zero_add, Cells.len hyg.k, Int.lt_irrefl, rB.whole (n := 10) rfl]
    refine step_store (b := g1.next) (off := 0) (vs := gaL G wa va sa X) rfl (by rw [og _ (by omega) (by omega)]; exact z5) (by omega) (by omega) rfl hone rfl (by simp [gaL, zgL]) fun g8 hs8 => ?_
    rw [splice_all (by rfl)] at hs8
    have n8 := hs8.next
    have f8 := hs8.floor
    have o8 : ∀ i, i < g3.next → i ≠ g1.next → g8.get i = g3.get i := fun i hi hne => by rw [hs8.old i hne, og i (by omega) (by omega), old5 i hi]
    simp only [rn0, rn1, rn2, reduceIte, Nat.reduceEqDiff, Nat.reduceAdd, Nat.reduceMul, Nat.reduceSub, Nat.reduceLeDiff, Nat.reduceLT, p2, res_cellN, hs8.row.whole (n := 10) rfl]
    have sep : ∀ {v : Value} {s m : Nat} {c : Nat → Nat → Value}, Cells g3 v s m c → (∀ x k q, v = .slice (some x) k q → g2.next ≤ x.block) → Cells g8 v s m c := fun {v s m c} hc hb => by
      obtain ⟨a, cap, rfl, hsp, h0 | ⟨b, o, cs, w, gr, rfl, h1, h2⟩⟩ := hc
      · exact ⟨a, cap, rfl, hsp, .inl h0⟩
      · have hb' : g2.next ≤ b := hb _ _ _ rfl
        have hlt : b < g3.next := AHeap.lt_of_get h1
        exact ⟨_, cap, rfl, hsp, .inr ⟨b, o, cs, w, gr, rfl, by rw [o8 b hlt (by omega)]; exact h1, h2⟩⟩
    refine ⟨wa, va, sa, X, rfl, ⟨⟨sep hy3.w bw3, sep hy3.v bv3, sep hy3.s bs3⟩, (gv.keep hs8.keep (by omega)).cells⟩, fun i hi => by rw [hs8.old i (by omega), oldg i hi], by omega, by omega, by omega⟩

def ThinG (G : MG) : Prop := (ThinS G.s ∧ G.nk ≤ 30) ∧ (faultG G = 0 → manyS G.s ≤ 200)
noncomputable instance (G : MG) : Decidable (ThinG G) := Classical.propDecidable _
def s22 : SCode := (.seq (.ops [⟨some 1, none, .box (T 0)⟩, ⟨some 2, none, .mov (.const (.bool false))⟩]) (.seq (.seq (.ops [⟨some 3, none, .fieldAddr 0 (T 1)⟩, ⟨some 4, none, .loadN 7 (T 3)⟩, ⟨some 5, none, .call (.func 71) [(T 4)]⟩, ⟨some 6, none, .not (T 5)⟩, ⟨some 7, none, .mov (T 6)⟩, ⟨some 8, (some (7, false)), .fieldAddr 9 (T 1)⟩, ⟨some 9, (some (7, false)), .load1 (T 8)⟩, ⟨some 10, (some (7, false)), .len (T 9)⟩, ⟨some 11, (some (7, false)), .int2 .gtr (T 10) (.const (.int .i64 30))⟩, ⟨some 12, none, .pick (T 7) (.const (.bool true)) (T 11)⟩]) (.cond (T 12) (.seq (.ops [⟨some 2, none, .mov (.const (.bool false))⟩]) .ret) .skip)) (.seq (.ops [⟨some 13, none, .loadN 10 (T 1)⟩, ⟨some 14, none, .call (.func 66) [(T 13)]⟩, ⟨some 15, none, .int2 .neq (T 14) (.const (.int .i64 0))⟩, ⟨some 16, none, .mov (T 15)⟩, ⟨some 17, (some (16, false)), .fieldAddr 0 (T 1)⟩, ⟨some 18, (some (16, false)), .loadN 7 (T 17)⟩, ⟨some 19, (some (16, false)), .call (.func 72) [(T 18)]⟩, ⟨some 20, (some (16, false)), .int2 .leq (T 19) (.const (.int .i64 200))⟩, ⟨some 21, none, .pick (T 16) (.const (.bool true)) (T 20)⟩, ⟨some 2, none, .mov (T 21)⟩]) .ret)))
theorem fok22 : FnOk Tryz.prog 22 22 s22 [.tmp 2] := ⟨Tryz.f22, _, Tryz.func22, rfl, Tryz.ntmps22, by kernel_rfl, by kernel_rfl⟩
theorem thinG_c (hn : 2400 ≤ n) (hr : h.next + 1000200 < far) {wv vv sv kv : Value} {G : MG} (hy : GangR h wv vv sv kv G) :
    call n (.func (.func 22) #[] #[]) [.agg ⟨gaL G wv vv sv kv⟩] h = some (.bool (decide (ThinG G)), h) := by
  obtain ⟨n, rfl⟩ : ∃ p, n = p + 1 := ⟨n - 1, by omega⟩
  refine call_plain0 fok22 rfl rfl (by simp) rfl ?_
  have hy := hy.shut
  have hr : h.shutAll.next + 1000200 < far := hr
  generalize h.shutAll = h at hy hr
  simp only [s22, W_seq, W_ops]
  refine ops_box (cs := gaL G wv vv sv kv) (by omega) rfl hy.one fun h1 hx => ?_
  have n1 := hx.next
  have hy := hy.mono hx.sub
  have r1 := hx.row
  have et := thin_c (n := n) (h := h1) (by omega) (by omega) hy.s
  by_cases hT : ThinS G.s
  case neg =>
    have : ¬ ThinG G := fun e => hT e.1.1
    simp only [rn0, rn1, rn2, reduceIte, Nat.reduceEqDiff, Nat.reduceAdd, Nat.reduceMul, Nat.reduceSub, Nat.reduceLeDiff, Nat.reduceLT, ga_st r1, et, hT, this]
  by_cases c1 : (30 : Int) < (G.nk : Int)
  · have : ¬ ThinG G := fun e => by have := e.1.2; omega
    simp only [rn0, rn1, rn2, reduceIte, Nat.reduceEqDiff, Nat.reduceAdd, Nat.reduceMul, Nat.reduceSub, Nat.reduceLeDiff, Nat.reduceLT, ga_st r1, et, hT, r1.ld, gag, Nat.zero_add, Cells.len hy.k, c1, this]
  have hl : G.nk ≤ 30 := by omega
  have ef := faultR_c (n := n) (h := h1) (by omega) (by omega) hy hT hl
  by_cases hf : faultG G = 0
  case neg =>
    have : ThinG G := ⟨⟨hT, hl⟩, fun e => absurd e hf⟩
    simp only [rn0, rn1, rn2, reduceIte, Nat.reduceEqDiff, Nat.reduceAdd, Nat.reduceMul, Nat.reduceSub, Nat.reduceLeDiff, Nat.reduceLT, ga_st r1, et, hT, r1.ld, gag, Nat.zero_add, Cells.len hy.k, c1, r1.whole (n := 10) rfl, ef, hf, this]
  have em := many_c (n := n) (h := h1) (by omega) (by omega) hy.s (goodG.1 hf).s.args ⟨hT.1, hT.2.1⟩
  by_cases c2 : manyS G.s ≤ 200
  · have : ThinG G := ⟨⟨hT, hl⟩, fun _ => c2⟩
    simp only [rn0, rn1, rn2, reduceIte, Nat.reduceEqDiff, Nat.reduceAdd, Nat.reduceMul, Nat.reduceSub, Nat.reduceLeDiff, Nat.reduceLT, ga_st r1, et, hT, r1.ld, gag, Nat.zero_add, Cells.len hy.k, c1, r1.whole (n := 10) rfl, ef, hf, em, c2, this]
  · have : ¬ ThinG G := fun e => c2 (e.2 hf)
    simp only [rn0, rn1, rn2, reduceIte, Nat.reduceEqDiff, Nat.reduceAdd, Nat.reduceMul, Nat.reduceSub, Nat.reduceLeDiff, Nat.reduceLT, ga_st r1, et, hT, r1.ld, gag, Nat.zero_add, Cells.len hy.k, c1, r1.whole (n := 10) rfl, ef, hf, em, c2, this]
def s28 : SCode := (.seq (.ops [⟨some 1, none, .box (T 0)⟩, ⟨some 2, none, .mov (.const (.int .i64 0))⟩]) (.seq (.ops [⟨some 3, none, .loadN 10 (T 1)⟩, ⟨some 4, none, .call (.func 66) [(T 3)]⟩, ⟨some 2, none, .mov (T 4)⟩]) .ret))
theorem fok28 : FnOk Tryz.prog 28 5 s28 [.tmp 2] := ⟨Tryz.f28, _, Tryz.func28, rfl, Tryz.ntmps28, by kernel_rfl, by kernel_rfl⟩
theorem faultLG_c (hn : 2400 ≤ n) (hr : h.next + 1000200 < far) {wv vv sv kv : Value} {G : MG} (hy : GangR h wv vv sv kv G) (hT : ThinS G.s) (hl : G.nk ≤ 30) :
    call n (.func (.func 28) #[] #[]) [.agg ⟨gaL G wv vv sv kv⟩] h = some (.int .i64 (faultG G), h) := by
  obtain ⟨n, rfl⟩ : ∃ p, n = p + 1 := ⟨n - 1, by omega⟩
  refine call_plain0 fok28 rfl rfl (by simp) rfl ?_
  have hy := hy.shut
  have hr : h.shutAll.next + 1000200 < far := hr
  generalize h.shutAll = h at hy hr
  simp only [s28, W_seq, W_ops]
  refine ops_box (cs := gaL G wv vv sv kv) (by omega) rfl hy.one fun h1 hx => ?_
  have n1 := hx.next
  have ef := faultR_c (n := n) (h := h1) (by omega) (by omega) (hy.mono hx.sub) hT hl
  simp only [rn0, rn1, rn2, reduceIte, Nat.reduceEqDiff, Nat.reduceAdd, Nat.reduceMul, Nat.reduceSub, Nat.reduceLeDiff, Nat.reduceLT, hx.row.whole (n := 10) rfl, ef]
noncomputable def planE (G : MG) (m : Nat) (p : Nat → Int) (b : Bool) : Int := if faultG G ≠ 0 then faultG G else if PlanOk G m p ∧ b = true then 0 else 2
def s29 : SCode := (.seq (.ops [⟨some 3, none, .box (T 0)⟩, ⟨some 6, none, .mov (.const (.int .i64 0))⟩]) (.seq (.seq (.ops [⟨some 8, none, .loadN 10 (T 3)⟩, ⟨some 9, none, .call (.func 28) [(T 8)]⟩, ⟨some 7, none, .mov (T 9)⟩]) (.seq (.ops [⟨some 10, none, .mov (T 7)⟩, ⟨some 11, none, .int2 .neq (T 10) (.const (.int .i64 0))⟩]) (.cond (T 11) (.seq (.ops [⟨some 12, none, .mov (T 7)⟩, ⟨some 6, none, .mov (T 12)⟩]) .ret) .skip))) (.seq (.seq (.ops [⟨some 13, none, .loadN 10 (T 3)⟩, ⟨some 14, none, .mov (T 1)⟩, ⟨some 15, none, .call (.func 43) [(T 13), (T 14)]⟩, ⟨some 16, none, .not (T 15)⟩, ⟨some 17, none, .mov (T 16)⟩, ⟨some 18, (some (17, false)), .mov (T 2)⟩, ⟨some 19, (some (17, false)), .not (T 18)⟩, ⟨some 20, none, .pick (T 17) (.const (.bool true)) (T 19)⟩]) (.cond (T 20) (.seq (.ops [⟨some 6, none, .mov (.const (.int .i64 2))⟩]) .ret) .skip)) (.seq (.ops [⟨some 6, none, .mov (.const (.int .i64 0))⟩]) .ret))))
theorem fok29 : FnOk Tryz.prog 29 21 s29 [.tmp 6] := ⟨Tryz.f29, _, Tryz.func29, rfl, Tryz.ntmps29, by kernel_rfl, by kernel_rfl⟩
theorem planned_c (hn : 2410 ≤ n) (hr : h.next + 1000300 < far) {wv vv sv kv lv : Value} {G : MG} {m : Nat} {p : Nat → Int} (hy : GangR h wv vv sv kv G) (hT : ThinS G.s) (hl : G.nk ≤ 30) (hp : Ints h lv m p) (hm : m ≤ 30) (b : Bool) :
    call n (.func (.func 29) #[] #[]) [.agg ⟨gaL G wv vv sv kv⟩, lv, .bool b] h = some (.int .i64 (planE G m p b), h) := by
  obtain ⟨n, rfl⟩ : ∃ p, n = p + 1 := ⟨n - 1, by omega⟩
  refine call_plain0 fok29 rfl rfl (by simp) rfl ?_
  have hy := hy.shut
  have hp := Cells.shut hp
  have hr : h.shutAll.next + 1000300 < far := hr
  generalize h.shutAll = h at hy hp hr
  simp only [s29, W_seq, W_ops]
  refine ops_box (cs := gaL G wv vv sv kv) (by omega) rfl hy.one fun h1 hx => ?_
  have n1 := hx.next
  have hy1 := hy.mono hx.sub
  have hp1 : Ints h1 lv m p := Cells.mono hp hx.sub
  have r1 := hx.row
  have ef := faultLG_c (n := n) (h := h1) (by omega) (by omega) hy1 hT hl
  by_cases hf : faultG G = 0
  case neg =>
    have e : planE G m p b = faultG G := if_pos hf
    simp only [rn0, rn1, rn2, reduceIte, Nat.reduceEqDiff, Nat.reduceAdd, Nat.reduceMul, Nat.reduceSub, Nat.reduceLeDiff, Nat.reduceLT, r1.whole (n := 10) rfl, ef, hf, e]
  have ei := isPlan_c (n := n) (h := h1) (by omega) (by omega) hy1 hp1 hm (by have := (goodG.1 hf).nk; omega)
  by_cases hP : PlanOk G m p
  case neg =>
    have e : planE G m p b = 2 := by rw [planE, if_neg (by simpa using hf), if_neg (fun e => hP e.1)]
    simp only [rn0, rn1, rn2, reduceIte, Nat.reduceEqDiff, Nat.reduceAdd, Nat.reduceMul, Nat.reduceSub, Nat.reduceLeDiff, Nat.reduceLT, r1.whole (n := 10) rfl, ef, hf, e, ei, hP]
  cases b
  · have e : planE G m p false = 2 := by rw [planE, if_neg (by simpa using hf), if_neg (fun e => nomatch e.2)]
    simp only [rn0, rn1, rn2, reduceIte, Nat.reduceEqDiff, Nat.reduceAdd, Nat.reduceMul, Nat.reduceSub, Nat.reduceLeDiff, Nat.reduceLT, r1.whole (n := 10) rfl, ef, hf, e, ei, hP]
  · have e : planE G m p true = 0 := by rw [planE, if_neg (by simpa using hf), if_pos ⟨hP, rfl⟩]
    simp only [rn0, rn1, rn2, reduceIte, Nat.reduceEqDiff, Nat.reduceAdd, Nat.reduceMul, Nat.reduceSub, Nat.reduceLeDiff, Nat.reduceLT, r1.whole (n := 10) rfl, ef, hf, e, ei, hP]

theorem sliceArr10 {b m : Nat} (hm : m ≤ 10) : sliceArr 10 1 h (.pointer (some ⟨b, 0, none⟩)) none (some (.int .i64 (m : Int))) = some (.slice (some ⟨b, 0, none⟩) m 10, h) := by
  have e1 : boundA 0 none = some 0 := rfl
  have e2 : boundA 10 (some (.int .i64 (m : Int))) = some m := rfl
  have e3 : Nat.ble 0 m = true := ble_iff.2 (Nat.zero_le _)
  have e4 : Nat.ble m 10 = true := ble_iff.2 hm
  have e5 : Nat.beq 10 0 = false := rfl
  unfold sliceArr
  simp only [e1, e2, e3, e4, e5, Bool.and_self, cond_true, cond_false, addrPlus, Nat.zero_mul, Nat.add_zero, Nat.sub_zero]
theorem arr_part {g : AHeap} {b k m cap : Nat} {a : Nat → Int} (hr : Row g b (arrN m a)) (hk : k ≤ m) (hm : 0 < m) : Ints g (.slice (some ⟨b, 0, none⟩) k cap) k a := by
  obtain ⟨w, gr, hg⟩ := hr
  exact ⟨some ⟨b, 0, none⟩, cap, rfl, fun x e => by cases e; rfl, .inr ⟨b, 0, arrN m a, w, gr, rfl, hg, fun i j hi hj => by
    have : j = 0 := by omega
    subst this
    simp only [Nat.mul_one, Nat.zero_add, Nat.add_zero]
    exact arrN_get (by omega)⟩⟩
theorem momOk {G : MG} {m : Nat} {p : Nat → Int} (hG : GoodG G) (hP : PlanOk G m p) : MomOk G G.nk (fun k => k) p := by
  obtain ⟨z0, z1, z4, z5, _⟩ := hG.sizes
  refine ⟨z4, fun k hk => ?_⟩
  have h1 := hP.2 k (by have := hP.1; omega)
  have h2 := (hG.begin hk).2
  exact ⟨hk, by omega, by omega⟩
theorem errPG_ok {G : MG} {m : Nat} {p : Nat → Int} (h : errPG G m p = 0) : GoodG G ∧ PlanOk G m p := by
  unfold errPG at h
  by_cases c : faultG G = 0
  · rw [if_neg (by simpa using c)] at h
    by_cases c2 : PlanOk G m p
    · exact ⟨goodG.1 c, c2⟩
    · rw [if_neg c2] at h; exact absurd h (by decide)
  · rw [if_pos c] at h; exact absurd h c
theorem hrs_ok {G : MG} {q : Nat} {x : Nat → Int} (hG : GoodG G) (hH : HrsOk G q x) : ∀ v, v < G.nk → 0 ≤ x v ∧ x v ≤ 4 := fun v hv => by
  have h1 := hH.2 v (by have := hH.1; omega)
  have h2 := (hG.works v hv).2
  omega
theorem ret_tt {a b : Nat} {f : Go.Vm.Fr} : resV f h [.tmp a, .tmp b] = some (.tuple ⟨[f a, f b]⟩) := id rfl
def ProveS (G : MG) (m : Nat) (p : Nat → Int) (d : Int) : Prop := errPG G m p = 0 ∧ SureW G G.nk (fun k => k) p ∧ doneS G p G.nk ≤ d
noncomputable instance (G : MG) (m : Nat) (p : Nat → Int) (d : Int) : Decidable (ProveS G m p d) := Classical.propDecidable _

theorem bit_all {k i : Nat} (hi : i < k) : Bit (2 ^ k - 1) i := by
  unfold Bit
  have h1 : (2 ^ k - 1).testBit i = true := by rw [Nat.testBit_two_pow_sub_one]; exact decide_eq_true hi
  rw [Nat.testBit_eq_decide_div_mod_eq] at h1
  exact of_decide_eq_true h1
theorem awakeG {g : AHeap} (hn : 1 ≤ n) : call n (.func (.func 23) #[] #[]) [] g = some (.bool true, g) := awake_c hn

noncomputable def playE (G : MG) (m : Nat) (p : Nat → Int) (q : Nat) (x : Nat → Int) : Int := if errPG G m p ≠ 0 then errPG G m p else if HrsOk G q x then (if InT G (fun k => k) p x G.nk then 0 else 9) else 2
def PlayG (h : AHeap) (G : MG) (m : Nat) (p : Nat → Int) (q : Nat) (x : Nat → Int) (v : Value) (h' : AHeap) : Prop :=
  (∀ i, i < h.next → h'.get i = h.get i) ∧ h.next ≤ h'.next ∧ h'.next ≤ h.next + 300 ∧ h'.floor = h.floor ∧
    ((playE G m p q x ≠ 0 ∧ v = .tuple ⟨[nilS, .int .i64 (playE G m p q x)]⟩) ∨ (playE G m p q x = 0 ∧ ∃ lv, v = .tuple ⟨[lv, .int .i64 0]⟩ ∧ Ints h' lv (G.close.toNat + 1) (shN G (fun k => k) p x G.nk) ∧ oneCell lv = true))
def s24 : SCode := (.seq (.ops [⟨some 3, none, .box (T 0)⟩, ⟨some 6, none, .mov (.const (.slice none 0 0))⟩, ⟨some 7, none, .mov (.const (.int .i64 0))⟩]) (.seq (.ops [⟨some 14, none, .loadN 10 (T 3)⟩, ⟨some 15, none, .mov (T 1)⟩, ⟨some 16, none, .call (.func 76) [(T 14), (T 15)]⟩, ⟨some 13, none, .mov (T 16)⟩, ⟨some 17, none, .extract 0 (T 13)⟩, ⟨some 18, none, .extract 1 (T 13)⟩, ⟨some 19, none, .extract 2 (T 13)⟩, ⟨some 8, none, .alloc [(.int .i64 0), (.int .i64 0), (.slice none 0 0), (.int .i64 0), (.int .i64 0), (.slice none 0 0), (.slice none 0 0), (.int .i64 0), (.int .i64 0), (.slice none 0 0), (.map none)]⟩, ⟨none, none, .store 11 (T 8) (T 17)⟩, ⟨some 9, none, .mov (T 18)⟩, ⟨some 10, none, .mov (T 19)⟩]) (.seq (.seq (.ops [⟨some 20, none, .mov (T 10)⟩, ⟨some 21, none, .int2 .neq (T 20) (.const (.int .i64 0))⟩]) (.cond (T 21) (.seq (.ops [⟨some 22, none, .mov (T 10)⟩, ⟨some 6, none, .mov (.const (.slice none 0 0))⟩, ⟨some 7, none, .mov (T 22)⟩]) .ret) .skip)) (.seq (.seq (.ops [⟨some 23, none, .loadN 11 (T 8)⟩, ⟨some 24, none, .mov (T 2)⟩, ⟨some 25, none, .call (.func 77) [(T 23), (T 24)]⟩, ⟨some 26, none, .not (T 25)⟩]) (.cond (T 26) (.seq (.ops [⟨some 6, none, .mov (.const (.slice none 0 0))⟩, ⟨some 7, none, .mov (.const (.int .i64 2))⟩]) .ret) .skip)) (.seq (.ops [⟨some 28, none, .loadN 11 (T 8)⟩, ⟨some 29, none, .mov (T 9)⟩, ⟨some 30, none, .mov (T 2)⟩, ⟨some 31, none, .call (.func 78) [(T 28), (T 29), (T 30)]⟩, ⟨some 27, none, .mov (T 31)⟩, ⟨some 32, none, .extract 0 (T 27)⟩, ⟨some 33, none, .extract 1 (T 27)⟩, ⟨some 11, none, .alloc [(.int .i64 0), (.int .i64 0), (.int .i64 0), (.int .i64 0), (.int .i64 0), (.int .i64 0), (.int .i64 0), (.int .i64 0), (.int .i64 0), (.int .i64 0)]⟩, ⟨none, none, .store 10 (T 11) (T 32)⟩, ⟨some 12, none, .mov (T 33)⟩]) (.seq (.seq (.ops [⟨some 34, none, .mov (T 12)⟩, ⟨some 35, none, .not (T 34)⟩]) (.cond (T 35) (.seq (.ops [⟨some 6, none, .mov (.const (.slice none 0 0))⟩, ⟨some 7, none, .mov (.const (.int .i64 9))⟩]) .ret) .skip)) (.seq (.ops [⟨some 36, none, .fieldAddr 0 (T 8)⟩, ⟨some 37, none, .fieldAddr 8 (T 36)⟩, ⟨some 38, none, .load1 (T 37)⟩, ⟨some 39, none, .int2 .add (T 38) (.const (.int .i64 1))⟩, ⟨some 40, none, .sliceArr 10 1 (T 11) none (some (T 39))⟩, ⟨some 41, none, .call (.func 79) [(T 40)]⟩, ⟨some 6, none, .mov (T 41)⟩, ⟨some 7, none, .mov (.const (.int .i64 0))⟩]) .ret)))))))
theorem fok24 : FnOk Tryz.prog 24 42 s24 [.tmp 6, .tmp 7] := ⟨Tryz.f24, _, Tryz.func24, rfl, Tryz.ntmps24, by kernel_rfl, by kernel_rfl⟩
set_option maxHeartbeats 1000000 in
theorem playG_c (hn : 2540 ≤ n) (hr : h.next + 1500000 < far) (hfl : h.floor ≤ h.next) {wv vv sv kv lv xv : Value} {G : MG} {m q : Nat} {p x : Nat → Int} (hy : GangR h wv vv sv kv G) (hT : ThinS G.s) (hl : G.nk ≤ 30) (hp : Ints h lv m p) (hm30 : m ≤ 30) (hx : Ints h xv q x) (hq30 : q ≤ 30) :
    ∃ v h', call n (.func (.func 24) #[] #[]) [.agg ⟨gaL G wv vv sv kv⟩, lv, xv] h = some (v, h') ∧ PlayG h G m p q x v h' := by
  classical
  obtain ⟨n, rfl⟩ : ∃ p, n = p + 1 := ⟨n - 1, by omega⟩
  refine call_any0 fok24 rfl rfl (by simp) ?_
  simp only [s24, W_seq, W_ops]
  refine ops_box (cs := gaL G wv vv sv kv) (by omega) rfl hy.one fun g1 hx1 => ?_
  have n1 := hx1.next
  have f1 := hx1.floor
  have r1 := hx1.row
  have hy1 := hy.mono hx1.sub
  have hp1 : Ints g1 lv m p := Cells.mono hp hx1.sub
  obtain ⟨ov, g2, e2, o2, u2, m2, f2, hO⟩ := openPG_c (n := n) (h := g1) (by omega) (by omega) (by omega) hy1 hT hl hp1 hm30
  rcases hO with ⟨he, rfl⟩ | ⟨he, r, pv, rfl, hm2, hr2, hr2', hpv, hpo⟩
  · have e3 : playE G m p q x = errPG G m p := if_pos he
    simp only [rn0, rn1, rn2, reduceIte, Nat.reduceEqDiff, Nat.reduceAdd, Nat.reduceMul, Nat.reduceSub, Nat.reduceLeDiff, Nat.reduceLT, r1.whole (n := 10) rfl, e2, ex30, ex31, ex32]
    refine step_new (vs := zcL) (by omega) (by omega) rfl (by simp only [rn0, rn1, rn2, reduceIte, Nat.reduceEqDiff, Nat.reduceAdd, Nat.reduceMul, Nat.reduceSub, Nat.reduceLeDiff, Nat.reduceLT]; rfl) rfl rfl rfl fun g4 hx4 => ?_
    have n4 := hx4.next
    have f4 := hx4.floor
    simp only [rn0, rn1, rn2, reduceIte, Nat.reduceEqDiff, Nat.reduceAdd, Nat.reduceMul, Nat.reduceSub, Nat.reduceLeDiff, Nat.reduceLT, he, ret_tt]
    exact ⟨fun i hi => by rw [hx4.old i (by omega), o2 i (by omega), hx1.old i hi], by omega, by omega, by omega, .inl ⟨by rw [e3]; exact he, by rw [e3]⟩⟩
  obtain ⟨hG, hP⟩ := errPG_ok he
  obtain ⟨z0, z1, z4, z5, _, _, zc0, zc9⟩ := hG.sizes
  have hy2 := hy1.mono (AHeap.subOf o2)
  simp only [rn0, rn1, rn2, reduceIte, Nat.reduceEqDiff, Nat.reduceAdd, Nat.reduceMul, Nat.reduceSub, Nat.reduceLeDiff, Nat.reduceLT, r1.whole (n := 10) rfl, e2, ex30, ex31, ex32]
  refine step_new (vs := crL G wv vv sv kv (.map (some r))) (by omega) (by omega) rfl (by simp only [rn0, rn1, rn2, reduceIte, Nat.reduceEqDiff, Nat.reduceAdd, Nat.reduceMul, Nat.reduceSub, Nat.reduceLeDiff, Nat.reduceLT]; rfl) (cr_one hy2 rfl) rfl rfl fun g4 hx4 => ?_
  have n4 := hx4.next
  have f4 := hx4.floor
  have r4 := hx4.row
  have o4 : ∀ i, i < h.next → g4.get i = h.get i := fun i hi => by rw [hx4.old i (by omega), o2 i (by omega), hx1.old i hi]
  have hm4 : MapB g4 r key2 (rip G G.nk) := hm2.keep (hx4.old _ hm2.lt)
  have hy4 := hy2.mono hx4.sub
  have hp4 : Ranges g4 pv G.nk (fun k => (k : Int)) p := Cells.mono hpv hx4.sub
  have hx4' : Ints g4 xv q x := Cells.mono hx (AHeap.subOf o4)
  have hM := momOk hG hP
  obtain ⟨A7, hA7⟩ : ∃ q, q = g2.next := ⟨_, rfl⟩
  rw [← hA7] at r4
  rw [← hA7]
  have eh := isHours_c (n := n) (h := g4) (mv := .map (some r)) (by omega) (by omega) hy4 rfl hx4' hq30
  by_cases hH : HrsOk G q x
  case neg =>
    have e3 : playE G m p q x = 2 := by rw [playE, if_neg (by simpa using he), if_neg hH]
    simp only [rn0, rn1, rn2, reduceIte, Nat.reduceEqDiff, Nat.reduceAdd, Nat.reduceMul, Nat.reduceSub, Nat.reduceLeDiff, Nat.reduceLT, r4.whole (n := 11) rfl, eh, hH, ret_tt]
    exact ⟨o4, by omega, by omega, by omega, .inl ⟨by rw [e3]; decide, by rw [e3]⟩⟩
  have ep := playW_c (n := n) (h := g4) (mv := .map (some r)) (by omega) (by omega) hy4 hG rfl hp4 hM hx4' (Nat.le_of_eq hH.1.symm) (hrs_ok hG hH)
  obtain ⟨a, ha⟩ : ∃ a : Nat → Int, a = fun t => if InT G (fun k => k) p x G.nk then shN G (fun k => k) p x G.nk t else 0 := ⟨_, rfl⟩
  rw [← ha] at ep
  simp only [rn0, rn1, rn2, reduceIte, Nat.reduceEqDiff, Nat.reduceAdd, Nat.reduceMul, Nat.reduceSub, Nat.reduceLeDiff, Nat.reduceLT, r4.whole (n := 11) rfl, eh, hH, ep, ex0, ex1]
  refine step_new (vs := arrN 10 a) (by omega) (by omega) rfl (by simp only [rn0, rn1, rn2, reduceIte, Nat.reduceEqDiff, Nat.reduceAdd, Nat.reduceMul, Nat.reduceSub, Nat.reduceLeDiff, Nat.reduceLT]; rfl) arrN_one rfl (by simp [arrN_len]) fun g5 hx5 => ?_
  have n5 := hx5.next
  have f5 := hx5.floor
  have r5 := hx5.row
  have o5 : ∀ i, i < h.next → g5.get i = h.get i := fun i hi => by rw [hx5.old i (by omega), o4 i hi]
  by_cases hI : InT G (fun k => k) p x G.nk
  case neg =>
    have e3 : playE G m p q x = 9 := by rw [playE, if_neg (by simpa using he), if_pos hH, if_neg hI]
    simp only [rn0, rn1, rn2, reduceIte, Nat.reduceEqDiff, Nat.reduceAdd, Nat.reduceMul, Nat.reduceSub, Nat.reduceLeDiff, Nat.reduceLT, hI, ret_tt]
    exact ⟨o5, by omega, by omega, by omega, .inl ⟨by rw [e3]; decide, by rw [e3]⟩⟩
  have e3 : playE G m p q x = 0 := by rw [playE, if_neg (by simpa using he), if_pos hH, if_pos hI]
  have hcl : ((G.close.toNat : Nat) : Int) = G.close := Int.toNat_of_nonneg zc0
  have hw : wrapF .i64 (G.close + 1) = ((G.close.toNat + 1 : Nat) : Int) := by rw [wrap_in (by omega) (by omega)]; omega
  have hsl := sliceArr10 (h := g5) (b := g4.next) (m := G.close.toNat + 1) (by omega)
  have hpart := arr_part (k := G.close.toNat + 1) (cap := 10) r5 (by omega) (by omega)
  obtain ⟨cv, g6, e6, i6, one6, o6, u6, m6, f6, _⟩ := clone_c (n := n) (h := g5) (by omega) (by omega) hpart (by omega)
  have r45 := r4.mono hx5.sub
  simp only [rn0, rn1, rn2, reduceIte, Nat.reduceEqDiff, Nat.reduceAdd, Nat.reduceMul, Nat.reduceSub, Nat.reduceLeDiff, Nat.reduceLT, hI, r45.ld, crg, Nat.zero_add, hw, x_sliceArr, Option.map_none, Option.map_some, hsl, e6, ret_tt]
  refine ⟨fun i hi => by rw [o6 i (by omega), o5 i hi], by omega, by omega, by omega, .inr ⟨e3, cv, rfl, ?_, one6⟩⟩
  have : a = shN G (fun k => k) p x G.nk := by rw [ha]; funext t; rw [if_pos hI]
  rw [← this]; exact i6

theorem men_same {G : MG} {p x : Nat → Int} {t : Nat} : ∀ k, k ≤ G.nk → menTo G p x (2 ^ G.nk - 1) (t : Int) k = shN G (fun k => k) p x k t
  | 0, _ => rfl
  | k + 1, hk => by
    rw [menTo, shN, men_same k (by omega)]
    have hb : Bit (2 ^ G.nk - 1) k := bit_all (by omega)
    by_cases c : p k < (t : Int) ∧ (t : Int) ≤ p k + x k
    · rw [if_pos ⟨hb, c⟩, if_pos c]
    · rw [if_neg (fun e => c e.2), if_neg c]
theorem over_same {G : MG} {p x : Nat → Int} : OverS G p x (2 ^ G.nk - 1) G.nk ↔ ¬ InT G (fun k => k) p x G.nk := by
  constructor
  · rintro ⟨i, hi, _, h1, h2⟩ hI
    rcases hI i hi with e | e
    · have e' : x i ≤ 0 := e
      omega
    · have e' : p i + x i ≤ G.close := e
      omega
  · intro hI
    apply Classical.byContradiction
    intro hno
    refine hI fun j hj => ?_
    by_cases c : x j ≤ 0
    · exact .inl c
    · by_cases c2 : p j + x j ≤ G.close
      · exact .inr c2
      · exact absurd ⟨j, hj, bit_all hj, by omega, by omega⟩ hno
theorem pow_small {G : MG} (hG : GoodG G) : 2 ^ G.nk - 1 ≤ 1000 := by
  have hk : G.nk ≤ 4 := hG.sizes.2.2.1
  have : 2 ^ G.nk ≤ 2 ^ 4 := Nat.pow_le_pow_right (by omega) hk
  omega
theorem plan_sm {G : MG} {m : Nat} {p : Nat → Int} (hG : GoodG G) (hP : PlanOk G m p) : SmI m p := fun i hi => by
  obtain ⟨e, hP⟩ := hP
  have h1 := hP i hi
  have h2 := (hG.begin (v := i) (by omega)).2
  have h3 := hG.sizes
  omega
theorem hrs_sm {G : MG} {q : Nat} {x : Nat → Int} (hG : GoodG G) (hH : HrsOk G q x) : SmI q x := fun i hi => by
  obtain ⟨e, hH⟩ := hH
  have h1 := hH i hi
  have h2 := (hG.works i (by omega)).2
  omega
theorem planE_ok {G : MG} {m : Nat} {p : Nat → Int} {b : Bool} (h : planE G m p b = 0) : GoodG G ∧ PlanOk G m p ∧ b = true ∧ errPG G m p = 0 := by
  unfold planE at h
  by_cases c : faultG G = 0
  · rw [if_neg (by simpa using c)] at h
    by_cases c2 : PlanOk G m p ∧ b = true
    · exact ⟨goodG.1 c, c2.1, c2.2, by rw [errPG, if_neg (by simpa using c), if_pos c2.1]⟩
    · rw [if_neg c2] at h; exact absurd h (by decide)
  · rw [if_pos c] at h; exact absurd h c
theorem play_err {G : MG} {m q : Nat} {p x : Nat → Int} (h : planE G m p (decide (HrsOk G q x)) ≠ 0) : playE G m p q x = planE G m p (decide (HrsOk G q x)) := by
  unfold playE errPG planE at *
  by_cases c : faultG G = 0
  · simp only [c, ne_eq, not_true_eq_false, if_false] at h ⊢
    by_cases c2 : PlanOk G m p
    · by_cases c3 : HrsOk G q x
      · simp [c2, c3] at h
      · simp [c2, c3]
    · simp [c2]
  · simp [c]
def s3 : SCode := (.seq (.ops [⟨some 3, none, .box (T 0)⟩, ⟨some 6, none, .mov (.const (.bool false))⟩]) (.seq (.seq (.ops [⟨some 11, none, .loadN 10 (T 3)⟩, ⟨some 12, none, .call (.func 22) [(T 11)]⟩, ⟨some 13, none, .not (T 12)⟩, ⟨some 14, none, .mov (T 13)⟩, ⟨some 15, (some (14, false)), .mov (T 1)⟩, ⟨some 16, (some (14, false)), .len (T 15)⟩, ⟨some 17, (some (14, false)), .int2 .gtr (T 16) (.const (.int .i64 30))⟩, ⟨some 18, none, .pick (T 14) (.const (.bool true)) (T 17)⟩, ⟨some 19, none, .mov (T 18)⟩, ⟨some 20, (some (19, false)), .mov (T 2)⟩, ⟨some 21, (some (19, false)), .len (T 20)⟩, ⟨some 22, (some (19, false)), .int2 .gtr (T 21) (.const (.int .i64 30))⟩, ⟨some 23, none, .pick (T 19) (.const (.bool true)) (T 22)⟩]) (.cond (T 23) (.seq (.ops [⟨some 24, none, .call (.func 23) []⟩, ⟨some 6, none, .mov (T 24)⟩]) .ret) .skip)) (.seq (.ops [⟨some 26, none, .loadN 10 (T 3)⟩, ⟨some 27, none, .call (.func 25) [(T 26)]⟩, ⟨some 28, none, .mov (T 1)⟩, ⟨some 29, none, .call (.func 26) [(T 28)]⟩, ⟨some 30, none, .mov (T 2)⟩, ⟨some 31, none, .call (.func 26) [(T 30)]⟩, ⟨some 32, none, .call (.func 24) [(T 27), (T 29), (T 31)]⟩, ⟨some 25, none, .mov (T 32)⟩, ⟨some 33, none, .extract 0 (T 25)⟩, ⟨some 34, none, .extract 1 (T 25)⟩, ⟨some 7, none, .mov (T 33)⟩, ⟨some 8, none, .mov (T 34)⟩]) (.seq (.seq (.draw [⟨.rd1, ⟨some 35, none, .loadN 10 (T 3)⟩⟩, ⟨.up, ⟨some 36, none, .call (.func 25) [(T 35)]⟩⟩, ⟨.up, ⟨some 37, none, .call (.func 27) [(T 36)]⟩⟩, ⟨.rd, ⟨some 38, none, .loadN 10 (T 3)⟩⟩, ⟨.any, ⟨some 39, none, .call (.func 28) [(T 38)]⟩⟩, ⟨.free, ⟨some 40, none, .int2 .neq (T 37) (T 39)⟩⟩]) (.cond (T 40) (.seq (.ops [⟨some 6, none, .mov (.const (.bool false))⟩]) .ret) .skip)) (.seq (.draw [⟨.rd, ⟨some 41, none, .loadN 10 (T 3)⟩⟩, ⟨.free, ⟨some 42, none, .mov (T 1)⟩⟩, ⟨.rd1, ⟨some 43, none, .loadN 10 (T 3)⟩⟩, ⟨.free, ⟨some 44, none, .mov (T 2)⟩⟩, ⟨.up, ⟨some 45, none, .call (.func 30) [(T 43), (T 44)]⟩⟩, ⟨.any, ⟨some 46, none, .call (.func 29) [(T 41), (T 42), (T 45)]⟩⟩, ⟨.free, ⟨some 9, none, .mov (T 46)⟩⟩]) (.seq (.seq (.draw [⟨.free, ⟨some 47, none, .mov (T 9)⟩⟩, ⟨.free, ⟨some 48, none, .int2 .eql (T 47) (.const (.int .i64 0))⟩⟩, ⟨.free, ⟨some 49, none, .mov (T 48)⟩⟩, ⟨.rd, ⟨some 50, (some (49, true)), .loadN 10 (T 3)⟩⟩, ⟨.free, ⟨some 51, (some (49, true)), .mov (T 1)⟩⟩, ⟨.free, ⟨some 52, (some (49, true)), .mov (T 2)⟩⟩, ⟨.rd1, ⟨some 53, (some (49, true)), .loadN 10 (T 3)⟩⟩, ⟨.up, ⟨some 54, (some (49, true)), .call (.func 32) [(T 53)]⟩⟩, ⟨.any, ⟨some 55, (some (49, true)), .call (.func 31) [(T 50), (T 51), (T 52), (T 54)]⟩⟩, ⟨.free, ⟨some 56, none, .pick (T 49) (T 55) (.const (.bool false))⟩⟩]) (.cond (T 56) (.ops [⟨some 9, none, .mov (.const (.int .i64 9))⟩]) .skip)) (.seq (.seq (.ops [⟨some 57, none, .mov (T 9)⟩, ⟨some 58, none, .int2 .neq (T 57) (.const (.int .i64 0))⟩]) (.cond (T 58) (.seq (.ops [⟨some 59, none, .mov (T 8)⟩, ⟨some 60, none, .mov (T 9)⟩, ⟨some 61, none, .int2 .eql (T 59) (T 60)⟩, ⟨some 62, none, .mov (T 61)⟩, ⟨some 63, (some (62, true)), .mov (T 7)⟩, ⟨some 64, (some (62, true)), .len (T 63)⟩, ⟨some 65, (some (62, true)), .int2 .eql (T 64) (.const (.int .i64 0))⟩, ⟨some 66, none, .pick (T 62) (T 65) (.const (.bool false))⟩, ⟨some 67, none, .mov (T 66)⟩, ⟨some 68, (some (67, true)), .call (.func 23) []⟩, ⟨some 69, none, .pick (T 67) (T 68) (.const (.bool false))⟩, ⟨some 6, none, .mov (T 69)⟩]) .ret) .skip)) (.seq (.seq (.ops [⟨some 70, none, .mov (T 8)⟩, ⟨some 71, none, .int2 .neq (T 70) (.const (.int .i64 0))⟩, ⟨some 72, none, .mov (T 71)⟩, ⟨some 73, (some (72, false)), .mov (T 7)⟩, ⟨some 74, (some (72, false)), .len (T 73)⟩, ⟨some 75, (some (72, false)), .fieldAddr 8 (T 3)⟩, ⟨some 76, (some (72, false)), .load1 (T 75)⟩, ⟨some 77, (some (72, false)), .int2 .add (T 76) (.const (.int .i64 1))⟩, ⟨some 78, (some (72, false)), .int2 .neq (T 74) (T 77)⟩, ⟨some 79, none, .pick (T 72) (.const (.bool true)) (T 78)⟩]) (.cond (T 79) (.seq (.ops [⟨some 6, none, .mov (.const (.bool false))⟩]) .ret) .skip)) (.seq (.seq (.ops [⟨some 10, none, .mov (.const (.int .i64 0))⟩]) (.block 0 (.loop (.seq (.seq (.ops [⟨some 80, none, .mov (T 10)⟩, ⟨some 81, none, .fieldAddr 8 (T 3)⟩, ⟨some 82, none, .load1 (T 81)⟩, ⟨some 83, none, .int2 .leq (T 80) (T 82)⟩]) (.cond (T 83) .skip (.exit 0))) (.seq (.block 1 (.seq (.draw [⟨.free, ⟨some 86, none, .mov (T 7)⟩⟩, ⟨.free, ⟨some 87, none, .mov (T 10)⟩⟩, ⟨.free, ⟨some 88, none, .idxSl 1 (T 86) (T 87)⟩⟩, ⟨.rd, ⟨some 89, none, .load1 (T 88)⟩⟩, ⟨.rd, ⟨some 90, none, .loadN 10 (T 3)⟩⟩, ⟨.free, ⟨some 91, none, .mov (T 1)⟩⟩, ⟨.free, ⟨some 92, none, .mov (T 2)⟩⟩, ⟨.rd1, ⟨some 93, none, .loadN 10 (T 3)⟩⟩, ⟨.up, ⟨some 94, none, .call (.func 32) [(T 93)]⟩⟩, ⟨.free, ⟨some 95, none, .mov (T 10)⟩⟩, ⟨.up, ⟨some 96, none, .call (.func 33) [(T 90), (T 91), (T 92), (T 94), (T 95)]⟩⟩, ⟨.free, ⟨some 97, none, .int2 .neq (T 89) (T 96)⟩⟩]) (.cond (T 97) (.seq (.ops [⟨some 6, none, .mov (.const (.bool false))⟩]) .ret) .skip))) (.ops [⟨some 84, none, .mov (T 10)⟩, ⟨some 85, none, .int2 .add (T 84) (.const (.int .i64 1))⟩, ⟨some 10, none, .mov (T 85)⟩])))))) (.seq (.ops [⟨some 98, none, .call (.func 23) []⟩, ⟨some 6, none, .mov (T 98)⟩]) .ret))))))))))
theorem fok3 : FnOk Tryz.prog 3 99 s3 [.tmp 6] := ⟨Tryz.f3, _, Tryz.func3, rfl, Tryz.ntmps3, by kernel_rfl, by kernel_rfl⟩
set_option maxHeartbeats 4000000 in
theorem lawPlays_c (hn : 3000 ≤ n) (hr : h.next + 3000000 < far) (hfl : h.floor ≤ h.next) {wv vv sv kv lv xv : Value} {G : MG} {m q : Nat} {p x : Nat → Int} (hy : GangR h wv vv sv kv G) (hp : Ints h lv m p) (hx : Ints h xv q x) :
    ∃ v h', call n (.func (.func 3) #[] #[]) [.agg ⟨gaL G wv vv sv kv⟩, lv, xv] h = some (v, h') ∧ v = .bool true := by
  classical
  obtain ⟨n, rfl⟩ : ∃ p, n = p + 1 := ⟨n - 1, by omega⟩
  refine call_any0 fok3 rfl rfl (by simp) ?_
  simp only [s3, W_seq, W_ops]
  refine ops_box (cs := gaL G wv vv sv kv) (by omega) rfl hy.one fun g1 hx1 => ?_
  have n1 := hx1.next
  have f1 := hx1.floor
  have r1 := hx1.row
  have hy1 := hy.mono hx1.sub
  have hp1 : Ints g1 lv m p := Cells.mono hp hx1.sub
  have hx1' : Ints g1 xv q x := Cells.mono hx hx1.sub
  have haw : ∀ g : AHeap, call n (.func (.func 23) #[] #[]) [] g = some (.bool true, g) := fun g => awakeG (by omega)
  have et := thinG_c (n := n) (h := g1) (by omega) (by omega) hy1
  by_cases hT : ThinG G
  case neg =>
    simp only [rn0, rn1, rn2, reduceIte, Nat.reduceEqDiff, Nat.reduceAdd, Nat.reduceMul, Nat.reduceSub, Nat.reduceLeDiff, Nat.reduceLT, r1.whole (n := 10) rfl, et, decide_eq_false hT, haw]
  by_cases c1 : (30 : Int) < (m : Int)
  · simp only [rn0, rn1, rn2, reduceIte, Nat.reduceEqDiff, Nat.reduceAdd, Nat.reduceMul, Nat.reduceSub, Nat.reduceLeDiff, Nat.reduceLT, r1.whole (n := 10) rfl, et, decide_eq_true hT, Cells.len hp1, gt_iff_lt, c1, haw]
  by_cases c2 : (30 : Int) < (q : Int)
  · simp only [rn0, rn1, rn2, reduceIte, Nat.reduceEqDiff, Nat.reduceAdd, Nat.reduceMul, Nat.reduceSub, Nat.reduceLeDiff, Nat.reduceLT, r1.whole (n := 10) rfl, et, decide_eq_true hT, Cells.len hp1, Cells.len hx1', gt_iff_lt, c1, c2, haw]
  have hm30 : m ≤ 30 := by omega
  have hq30 : q ≤ 30 := by omega
  obtain ⟨⟨hTs, hl⟩, hmany⟩ := id hT
  obtain ⟨wa, va, sa, ka, g2, e2, hy2, o2, u2, m2, f2⟩ := gangL_c (n := n) (h := g1) (by omega) (by omega) (by omega) hy1 hTs hl
  have s12 : Sub All g1 g2 := AHeap.subOf o2
  obtain ⟨la, g3, e3, hp3, oa, o3, u3, m3, f3⟩ := listG_c (n := n) (h := g2) (by omega) (by omega) (Cells.mono hp1 s12) hm30
  have s23 : Sub All g2 g3 := AHeap.subOf o3
  obtain ⟨xa, g4, e4, hx4, ob, o4, u4, m4, f4⟩ := listG_c (n := n) (h := g3) (by omega) (by omega) (Cells.mono hx1' (s12.trans s23)) hq30
  have s34 : Sub All g3 g4 := AHeap.subOf o4
  obtain ⟨ov, g5, e5, o5, u5, m5, f5, hO⟩ := playG_c (n := n) (h := g4) (by omega) (by omega) (by omega) (hy2.mono (s23.trans s34)) hTs hl (Cells.mono hp3 s34) hm30 hx4 hq30
  have s45 : Sub All g4 g5 := AHeap.subOf o5
  have s15 : Sub All g1 g5 := (s12.trans s23).trans (s34.trans s45)
  have hy5 := hy1.mono s15
  have r5 := r1.mono s15
  obtain ⟨wb, vb, sb, kb, g6, e6, hy6, o6, u6, m6, f6⟩ := gangL_c (n := n) (h := g5) (by omega) (by omega) (by omega) hy5 hTs hl
  have s56 : Sub All g5 g6 := AHeap.subOf o6
  have e7 := checkG_c (n := n) (h := g6) (by omega) (by omega) hy6 hTs hl
  have s16 := s15.trans s56
  have hyc := hy1.mono s16
  have rc := r1.mono s16
  have hpc : Ints g6 lv m p := Cells.mono hp1 s16
  have hxc : Ints g6 xv q x := Cells.mono hx1' s16
  have e8 := faultLG_c (n := n) (h := g6) (by omega) (by omega) hyc hTs hl
  have e9 := areHours_c (n := n) (h := g6) (by omega) (by omega) hyc hxc hq30
  have e10 := planned_c (n := n) (h := g6) (by omega) (by omega) hyc hTs hl hpc hm30 (decide (HrsOk G q x))
  by_cases hw : planE G m p (decide (HrsOk G q x)) = 0
  case neg =>
    have hpe := play_err hw
    rcases hO with ⟨h0, rfl⟩ | ⟨h0, _⟩
    case inr => exact absurd (hpe ▸ h0) hw
    rw [hpe] at e5
    simp only [rn0, rn1, rn2, reduceIte, Nat.reduceEqDiff, Nat.reduceAdd, Nat.reduceMul, Nat.reduceSub, Nat.reduceLeDiff, Nat.reduceLT, r1.whole (n := 10) rfl, et, decide_eq_true hT, Cells.len hp1, Cells.len hx1', gt_iff_lt, c1, c2, e2, e3, e4, e5, x_extract, ex0, ex1]
    refine W_draw All ?_
    simp only [rn0, rn1, rn2, reduceIte, Nat.reduceEqDiff, Nat.reduceAdd, Nat.reduceMul, Nat.reduceSub, Nat.reduceLeDiff, Nat.reduceLT, r5.whole (n := 10) rfl, hy5.self, e6, e7, rc.whole (n := 10) rfl, e8]
    first | refine ⟨⟨u6, s56⟩, ?_⟩ | refine ⟨u6, ?_⟩ | skip
    refine ⟨s56, ?_⟩
    refine W_draw All ?_
    simp only [rn0, rn1, rn2, reduceIte, Nat.reduceEqDiff, Nat.reduceAdd, Nat.reduceMul, Nat.reduceSub, Nat.reduceLeDiff, Nat.reduceLT, rc.whole (n := 10) rfl, hyc.self, e9, e10]
    refine W_draw All ?_
    simp only [rn0, rn1, rn2, reduceIte, Nat.reduceEqDiff, Nat.reduceAdd, Nat.reduceMul, Nat.reduceSub, Nat.reduceLeDiff, Nat.reduceLT, hw, d_guard, dg_tt, dg_tf, dg_ft, dg_ff, dg_un, haw, len_slice, Int.natCast_zero]
  obtain ⟨hG, hP, hHb, he⟩ := planE_ok hw
  have hH : HrsOk G q x := of_decide_eq_true hHb
  obtain ⟨z0, z1, z4, z5, _, _, zc0, zc9⟩ := hG.sizes
  have e11 := every_c (n := n) (h := g6) (by omega) (by omega) hyc hl
  have e12 := over_c (n := n) (h := g6) (by omega) (by omega) hyc hG hpc hxc (by have := hP.1; omega) (by have := hH.1; omega) (plan_sm hG hP) (hrs_sm hG hH) (pow_small hG)
  by_cases hI : InT G (fun k => k) p x G.nk
  case neg =>
    have hov := over_same.2 hI
    have hpe : playE G m p q x = 9 := by rw [playE, if_neg (by simpa using he), if_pos hH, if_neg hI]
    rcases hO with ⟨h0, rfl⟩ | ⟨h0, _⟩
    case inr => rw [hpe] at h0; exact absurd h0 (by decide)
    rw [hpe] at e5
    simp only [rn0, rn1, rn2, reduceIte, Nat.reduceEqDiff, Nat.reduceAdd, Nat.reduceMul, Nat.reduceSub, Nat.reduceLeDiff, Nat.reduceLT, r1.whole (n := 10) rfl, et, decide_eq_true hT, Cells.len hp1, Cells.len hx1', gt_iff_lt, c1, c2, e2, e3, e4, e5, x_extract, ex0, ex1]
    refine W_draw All ?_
    simp only [rn0, rn1, rn2, reduceIte, Nat.reduceEqDiff, Nat.reduceAdd, Nat.reduceMul, Nat.reduceSub, Nat.reduceLeDiff, Nat.reduceLT, r5.whole (n := 10) rfl, hy5.self, e6, e7, rc.whole (n := 10) rfl, e8]
    first | refine ⟨⟨u6, s56⟩, ?_⟩ | refine ⟨u6, ?_⟩ | skip
    refine ⟨s56, ?_⟩
    refine W_draw All ?_
    simp only [rn0, rn1, rn2, reduceIte, Nat.reduceEqDiff, Nat.reduceAdd, Nat.reduceMul, Nat.reduceSub, Nat.reduceLeDiff, Nat.reduceLT, rc.whole (n := 10) rfl, hyc.self, e9, e10]
    refine W_draw All ?_
    simp only [rn0, rn1, rn2, reduceIte, Nat.reduceEqDiff, Nat.reduceAdd, Nat.reduceMul, Nat.reduceSub, Nat.reduceLeDiff, Nat.reduceLT, hw, d_guard, dg_tt, dg_tf, dg_ft, dg_ff, dg_un, rc.whole (n := 10) rfl, hyc.self, e11, e12, hov, haw, len_slice, Int.natCast_zero, (show ¬ (9 : Int) = 0 by decide)]
  have hov : ¬ OverS G p x (2 ^ G.nk - 1) G.nk := fun e => over_same.1 e hI
  have hpe : playE G m p q x = 0 := by rw [playE, if_neg (by simpa using he), if_pos hH, if_pos hI]
  rcases hO with ⟨h0, rfl⟩ | ⟨_, li, rfl, hli, hlo⟩
  · exact absurd hpe h0
  have s46 : Sub All g5 g6 := s56
  have hlc : Ints g6 li (G.close.toNat + 1) (shN G (fun k => k) p x G.nk) := Cells.mono hli s56
  have hcl : ((G.close.toNat : Nat) : Int) = G.close := Int.toNat_of_nonneg zc0
  have hwc : wrapF .i64 (G.close + 1) = ((G.close.toNat + 1 : Nat) : Int) := by rw [wrap_in (by omega) (by omega)]; omega
  simp only [rn0, rn1, rn2, reduceIte, Nat.reduceEqDiff, Nat.reduceAdd, Nat.reduceMul, Nat.reduceSub, Nat.reduceLeDiff, Nat.reduceLT, r1.whole (n := 10) rfl, et, decide_eq_true hT, Cells.len hp1, Cells.len hx1', gt_iff_lt, c1, c2, e2, e3, e4, e5, x_extract, ex0, ex1]
  refine W_draw All ?_
  simp only [rn0, rn1, rn2, reduceIte, Nat.reduceEqDiff, Nat.reduceAdd, Nat.reduceMul, Nat.reduceSub, Nat.reduceLeDiff, Nat.reduceLT, r5.whole (n := 10) rfl, hy5.self, e6, e7, rc.whole (n := 10) rfl, e8]
  first | refine ⟨⟨u6, s56⟩, ?_⟩ | refine ⟨u6, ?_⟩ | skip
  refine ⟨s56, ?_⟩
  refine W_draw All ?_
  simp only [rn0, rn1, rn2, reduceIte, Nat.reduceEqDiff, Nat.reduceAdd, Nat.reduceMul, Nat.reduceSub, Nat.reduceLeDiff, Nat.reduceLT, rc.whole (n := 10) rfl, hyc.self, e9, e10]
  refine W_draw All ?_
  simp only [rn0, rn1, rn2, reduceIte, Nat.reduceEqDiff, Nat.reduceAdd, Nat.reduceMul, Nat.reduceSub, Nat.reduceLeDiff, Nat.reduceLT, hw, d_guard, dg_tt, dg_tf, dg_ft, dg_ff, dg_un, rc.whole (n := 10) rfl, hyc.self, e11, e12, hov]
  simp only [rn0, rn1, rn2, reduceIte, Nat.reduceEqDiff, Nat.reduceAdd, Nat.reduceMul, Nat.reduceSub, Nat.reduceLeDiff, Nat.reduceLT, Cells.len hlc, rc.ld, gag, Nat.zero_add, hwc]
  refine W_loop (G.close.toNat + 1) (fun k f g ms => g = g6 ∧ ms = [] ∧ f 1 = lv ∧ f 2 = xv ∧ f 3 = .pointer (some ⟨h.next, 0, none⟩) ∧ f 7 = li ∧ f 10 = .int .i64 (k : Int)) (by simp; omega) ?_ ?_ ?_
  · simp only [rn0, rn1, rn2, reduceIte, Nat.reduceEqDiff, Nat.reduceAdd, Nat.reduceMul, Nat.reduceSub, Nat.reduceLeDiff, Nat.reduceLT, Int.natCast_zero]
  · rintro k f g ms hk ⟨rfl, rfl, p1, p2, p3, p7, p10⟩
    have hk' : (k : Int) ≤ G.close := by omega
    have hwk : wrapF .i64 ((k : Int) + 1) = ((k + 1 : Nat) : Int) := by rw [wrap_in (by omega) (by omega)]; rfl
    have em := men_c (n := n) (h := g) (by omega) (by omega) hyc hG hpc hxc (by have := hP.1; omega) (by have := hH.1; omega) (plan_sm hG hP) (hrs_sm hG hH) (pow_small hG) (k : Int)
    rw [men_same G.nk (Nat.le_refl _)] at em
    simp only [rn0, rn1, rn2, reduceIte, Nat.reduceEqDiff, Nat.reduceAdd, Nat.reduceMul, Nat.reduceSub, Nat.reduceLeDiff, Nat.reduceLT, p1, p2, p3, p7, p10, rc.ld, gag, Nat.zero_add, hk']
    refine W_draw All ?_
    simp only [rn0, rn1, rn2, reduceIte, Nat.reduceEqDiff, Nat.reduceAdd, Nat.reduceMul, Nat.reduceSub, Nat.reduceLeDiff, Nat.reduceLT, p1, p2, p3, p7, p10, rc.whole (n := 10) rfl, hyc.self, e11, Cells.idx hlc hk, Cells.ld hlc hk Nat.zero_lt_one, em, hwk]
  · rintro f g ms ⟨rfl, rfl, p1, p2, p3, p7, p10⟩
    have hk' : ¬ ((G.close.toNat + 1 : Nat) : Int) ≤ G.close := by omega
    simp only [rn0, rn1, rn2, reduceIte, Nat.reduceEqDiff, Nat.reduceAdd, Nat.reduceMul, Nat.reduceSub, Nat.reduceLeDiff, Nat.reduceLT, p1, p2, p3, p7, p10, rc.ld, gag, Nat.zero_add, hk', haw]
end Go.Vm.St
