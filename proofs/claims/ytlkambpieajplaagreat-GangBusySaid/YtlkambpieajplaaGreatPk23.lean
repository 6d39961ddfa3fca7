/- Texts of the proofs of this seat, put together: GgV5, GgV6, GgLO, GgV7, GgV8, GgV9, GgLateL, GgV10, GgPlaysL, GgV11, GgBusyL. -/
import Derived.Test.YtlkambpieajplaaGreatPk22

namespace Go.Vm.St
open Go.Proofs Go.Vm.Vat
set_option linter.unusedSimpArgs false
set_option linter.unusedVariables false
set_option maxRecDepth 10000
variable {n : Nat} {h : AHeap}
def MomOk (G : MG) (m : Nat) (vt : Nat → Nat) (hr : Nat → Int) : Prop := m ≤ 4 ∧ ∀ k, k < m → vt k < G.nk ∧ 0 ≤ hr k ∧ hr k ≤ 5
noncomputable def shN (G : MG) (vt : Nat → Nat) (hr x : Nat → Int) : Nat → Nat → Int
  | 0, _ => 0
  | k + 1, t => shN G vt hr x k t + (if hr k < (t : Int) ∧ (t : Int) ≤ hr k + x (vt k) then G.km (vt k) else 0)
def InT (G : MG) (vt : Nat → Nat) (hr x : Nat → Int) (k : Nat) : Prop := ∀ j, j < k → x (vt j) ≤ 0 ∨ hr j + x (vt j) ≤ G.close
noncomputable instance (G : MG) (vt : Nat → Nat) (hr x : Nat → Int) (k : Nat) : Decidable (InT G vt hr x k) := Classical.propDecidable _
theorem shN_bound {G : MG} (hG : GoodG G) {m : Nat} {vt : Nat → Nat} {hr x : Nat → Int} (hm : MomOk G m vt hr) : ∀ k, k ≤ m → ∀ t, 0 ≤ shN G vt hr x k t ∧ shN G vt hr x k t ≤ 9 * k
  | 0, _, _ => by simp [shN]
  | k + 1, hk, t => by
    have h1 := shN_bound hG hm k (by omega) t (x := x)
    have h2 := (hG.works (vt k) (hm.2 k (by omega)).1).1
    rw [shN]
    by_cases c : hr k < (t : Int) ∧ (t : Int) ≤ hr k + x (vt k)
    · rw [if_pos c]; omega
    · rw [if_neg c]; omega
theorem build_z10 : buildA (fun i => some (i * 1, 1)) ⟨[.int .i64 0, .int .i64 0, .int .i64 0, .int .i64 0, .int .i64 0, .int .i64 0, .int .i64 0, .int .i64 0, .int .i64 0, .int .i64 0]⟩ [] h [] = some (.agg ⟨arrN 10 fun _ => 0⟩, h) := id rfl
def s78 : SCode := (.seq (.ops [⟨some 3, none, .box (T 0)⟩, ⟨some 6, none, .alloc [(.int .i64 0), (.int .i64 0), (.int .i64 0), (.int .i64 0), (.int .i64 0), (.int .i64 0), (.int .i64 0), (.int .i64 0), (.int .i64 0), (.int .i64 0)]⟩, ⟨some 7, none, .mov (.const (.bool false))⟩]) (.seq (.seq (.ops [⟨some 12, none, .mov (T 1)⟩, ⟨some 13, none, .len (T 12)⟩, ⟨some 14, none, .mov (.const (.int .i64 0))⟩]) (.block 0 (.loop (.seq (.ops [⟨some 15, none, .int2 .lss (T 14) (T 13)⟩]) (.seq (.cond (T 15) .skip (.exit 0)) (.seq (.block 1 (.seq (.ops [⟨some 16, none, .idxSl 2 (T 12) (T 14)⟩, ⟨some 17, none, .loadN 2 (T 16)⟩, ⟨some 9, none, .alloc [(.int .i64 0), (.int .i64 0)]⟩, ⟨none, none, .store 2 (T 9) (T 17)⟩]) (.seq (.ops [⟨some 18, none, .mov (T 2)⟩, ⟨some 19, none, .fieldAddr 0 (T 9)⟩, ⟨some 20, none, .load1 (T 19)⟩, ⟨some 21, none, .idxSl 1 (T 18) (T 20)⟩, ⟨some 22, none, .load1 (T 21)⟩, ⟨some 23, none, .mov (.const (.int .i64 0))⟩]) (.block 2 (.loop (.seq (.ops [⟨some 24, none, .int2 .lss (T 23) (T 22)⟩]) (.seq (.cond (T 24) .skip (.exit 2)) (.seq (.block 3 (.seq (.ops [⟨some 25, none, .mov (T 23)⟩, ⟨some 10, none, .mov (T 25)⟩]) (.seq (.ops [⟨some 26, none, .fieldAddr 1 (T 9)⟩, ⟨some 27, none, .load1 (T 26)⟩, ⟨some 28, none, .int2 .add (T 27) (.const (.int .i64 1))⟩, ⟨some 29, none, .mov (T 10)⟩, ⟨some 30, none, .int2 .add (T 28) (T 29)⟩, ⟨some 11, none, .mov (T 30)⟩]) (.seq (.seq (.ops [⟨some 31, none, .mov (T 11)⟩, ⟨some 32, none, .fieldAddr 0 (T 3)⟩, ⟨some 33, none, .fieldAddr 8 (T 32)⟩, ⟨some 34, none, .load1 (T 33)⟩, ⟨some 35, none, .int2 .gtr (T 31) (T 34)⟩]) (.cond (T 35) (.seq (.ops [⟨some 36, none, .buildArr 1 [(.int .i64 0), (.int .i64 0), (.int .i64 0), (.int .i64 0), (.int .i64 0), (.int .i64 0), (.int .i64 0), (.int .i64 0), (.int .i64 0), (.int .i64 0)] [] []⟩, ⟨none, none, .store 10 (T 6) (T 36)⟩, ⟨some 7, none, .mov (.const (.bool false))⟩]) .ret) .skip)) (.draw [⟨.free, ⟨some 37, none, .mov (T 11)⟩⟩, ⟨.free, ⟨some 38, none, .idxArr 10 1 (T 6) (T 37)⟩⟩, ⟨.rd1, ⟨some 39, none, .load1 (T 38)⟩⟩, ⟨.free, ⟨some 40, none, .fieldAddr 0 (T 3)⟩⟩, ⟨.free, ⟨some 41, none, .fieldAddr 9 (T 40)⟩⟩, ⟨.rd1, ⟨some 42, none, .load1 (T 41)⟩⟩, ⟨.free, ⟨some 43, none, .fieldAddr 0 (T 9)⟩⟩, ⟨.rd1, ⟨some 44, none, .load1 (T 43)⟩⟩, ⟨.free, ⟨some 45, none, .idxSl 3 (T 42) (T 44)⟩⟩, ⟨.free, ⟨some 46, none, .fieldAddr 0 (T 45)⟩⟩, ⟨.rd1, ⟨some 47, none, .load1 (T 46)⟩⟩, ⟨.free, ⟨some 48, none, .int2 .add (T 39) (T 47)⟩⟩, ⟨.free, ⟨some 49, none, .idxArr 10 1 (T 6) (T 37)⟩⟩, ⟨.any, ⟨none, none, .store 1 (T 49) (T 48)⟩⟩]))))) (.ops [⟨some 50, none, .int2 .add (T 23) (.const (.int .i64 1))⟩, ⟨some 23, none, .mov (T 50)⟩]))))))))) (.ops [⟨some 51, none, .int2 .add (T 14) (.const (.int .i64 1))⟩, ⟨some 14, none, .mov (T 51)⟩]))))))) (.seq (.ops [⟨some 52, none, .loadN 10 (T 6)⟩, ⟨none, none, .store 10 (T 6) (T 52)⟩, ⟨some 7, none, .mov (.const (.bool true))⟩]) .ret)))
theorem fok78 : FnOk Tryz.prog 78 53 s78 [.cellN 6 10, .tmp 7] := ⟨Tryz.f78, _, Tryz.func78, rfl, Tryz.ntmps78, by kernel_rfl, by kernel_rfl⟩
set_option maxHeartbeats 2000000 in
theorem playW_c (hn : 60 ≤ n) (hr : h.next + 100 < far) {wv vv sv kv mv pv xv : Value} {G : MG} {m q : Nat} {vt : Nat → Nat} {hh x : Nat → Int} (hy : GangR h wv vv sv kv G) (hG : GoodG G) (hmv : oneCell mv = true) (hp : Ranges h pv m (fun k => (vt k : Int)) hh) (hm : MomOk G m vt hh) (hx : Ints h xv q x) (hq : G.nk ≤ q) (hs : ∀ v, v < G.nk → 0 ≤ x v ∧ x v ≤ 4) :
    call n (.func (.func 78) #[] #[]) [.agg ⟨crL G wv vv sv kv mv⟩, pv, xv] h = some (.tuple ⟨[.agg ⟨arrN 10 fun t => if InT G vt hh x m then shN G vt hh x m t else 0⟩, .bool (decide (InT G vt hh x m))]⟩, h) := by
  obtain ⟨n, rfl⟩ : ∃ p, n = p + 1 := ⟨n - 1, by omega⟩
  refine call_plain0 fok78 rfl rfl (by simp) (by simp [plainV, arrN, List.range_succ]; rfl) ?_
  have hy := hy.shut
  have hp := Cells.shut hp
  have hx := Cells.shut hx
  have hr : h.shutAll.next + 100 < far := hr
  have hfl : h.shutAll.floor ≤ h.shutAll.next := Nat.le_refl _
  generalize h.shutAll = h at hy hp hx hr hfl
  obtain ⟨z0, z1, z4, z5, _, _, zc0, zc9⟩ := hG.sizes
  obtain ⟨hm4, hmo⟩ := hm
  have hmo' : MomOk G m vt hh := ⟨hm4, hmo⟩
  simp only [s78, W_seq, W_ops]
  refine ops_box (cs := crL G wv vv sv kv mv) (by omega) rfl (cr_one hy hmv) fun g1 hx1 => ?_
  have n1 := hx1.next
  have f1 := hx1.floor
  simp only [rn0, rn1, rn2, reduceIte, Nat.reduceEqDiff, Nat.reduceAdd, Nat.reduceMul, Nat.reduceSub, Nat.reduceLeDiff, Nat.reduceLT]
  refine step_row (cs := arrN 10 fun _ => 0) (by omega) rfl rfl fun g2 hx2 => ?_
  have n2 := hx2.next
  have f2 := hx2.floor
  have s12 := hx1.sub.trans hx2.sub
  have hy2 := hy.mono s12
  have r2 := hx1.row.mono hx2.sub
  have hp2 : Ranges g2 pv m (fun k => (vt k : Int)) hh := Cells.mono hp s12
  have hx2' : Ints g2 xv q x := Cells.mono hx s12
  obtain ⟨B, hB⟩ : ∃ q, q = g1.next := ⟨_, rfl⟩
  have q2 := hx2.get
  rw [← hB] at q2
  rw [← hB]
  have e0 : (fun _ => 0 : Nat → Int) = shN G vt hh x 0 := by funext t; rfl
  rw [e0] at q2
  have old2 : ∀ i, i < h.next → g2.get i = h.get i := fun i hi => by rw [hx2.old i (by omega), hx1.old i hi]
  simp only [rn0, rn1, rn2, reduceIte, Nat.reduceEqDiff, Nat.reduceAdd, Nat.reduceMul, Nat.reduceSub, Nat.reduceLeDiff, Nat.reduceLT, Cells.len hp2]
  refine W_loop m (fun k f g ms => ((∀ i, i < B → g.get i = g2.get i) ∧ g.get B = some (.row (arrN 10 (shN G vt hh x k)) true 0) ∧ g2.next ≤ g.next ∧ g.next ≤ g2.next + k ∧ g.floor = g2.floor ∧ InT G vt hh x k) ∧ ms = [] ∧ f 2 = xv ∧ f 3 = .pointer (some ⟨h.next, 0, none⟩) ∧ f 6 = .pointer (some ⟨B, 0, none⟩) ∧ f 12 = pv ∧ f 13 = .int .i64 (m : Int) ∧ f 14 = .int .i64 (k : Int)) (by simp; omega) ?_ ?_ ?_
  · simp only [rn0, rn1, rn2, reduceIte, Nat.reduceEqDiff, Nat.reduceAdd, Nat.reduceMul, Nat.reduceSub, Nat.reduceLeDiff, Nat.reduceLT, Int.natCast_zero]
    have hi0 : InT G vt hh x 0 := fun j hj => by omega
    first | exact ⟨fun _ _ => trivial, q2, hi0⟩ | exact ⟨⟨fun _ _ => trivial, q2, Nat.le_refl _, Nat.le_refl _, rfl, hi0⟩, rfl⟩ | exact ⟨fun _ _ => trivial, q2, Nat.le_refl _, hi0⟩ | exact ⟨fun _ _ => trivial, q2, Nat.le_refl _, Nat.le_refl _, hi0⟩
  · rintro k f g ms hk ⟨⟨og, qg, ug, ng, fg, hin⟩, rfl, p2, p3, p6, p12, p13, p14⟩
    have hk' : (k : Int) < (m : Int) := by omega
    have hwk : wrapF .i64 ((k : Int) + 1) = ((k + 1 : Nat) : Int) := by rw [wrap_in (by omega) (by omega)]; rfl
    have sub : ∀ i, i < h.next → g.get i = h.get i := fun i hi => by rw [og i (by omega), old2 i hi]
    have sg : Sub All h g := AHeap.subOf sub
    have hyg := hy.mono sg
    have hpg : Ranges g pv m (fun k => (vt k : Int)) hh := Cells.mono hp sg
    have hxg : Ints g xv q x := Cells.mono hx sg
    have rg : Row g h.next (crL G wv vv sv kv mv) := by
      obtain ⟨w, gr, e⟩ := r2
      exact ⟨w, gr, by rw [og _ (by omega)]; exact e⟩
    obtain ⟨v1, v2, v3⟩ := hmo k hk
    obtain ⟨H, hH⟩ : ∃ H : Nat, (H : Int) = hh k := ⟨(hh k).toNat, by omega⟩
    obtain ⟨X, hX⟩ : ∃ X : Nat, (X : Int) = x (vt k) := ⟨(x (vt k)).toNat, by have := hs _ v1; omega⟩
    have hXs := hs _ v1
    have hkm := (hG.works _ v1).1
    simp only [rn0, rn1, rn2, reduceIte, Nat.reduceEqDiff, Nat.reduceAdd, Nat.reduceMul, Nat.reduceSub, Nat.reduceLeDiff, Nat.reduceLT, p2, p3, p6, p12, p13, p14, hk', Cells.idx hpg hk, ranges_ld hpg hk]
    refine step_new (vs := [.int .i64 (vt k : Int), .int .i64 (hh k)]) (by omega) (by omega) rfl (by simp only [rn0, rn1, rn2, reduceIte, Nat.reduceEqDiff, Nat.reduceAdd, Nat.reduceMul, Nat.reduceSub, Nat.reduceLeDiff, Nat.reduceLT]; rfl) rfl rfl rfl fun g4 hx4 => ?_
    have n4 := hx4.next
    have f4 := hx4.floor
    have r4 := hx4.row
    have hx4' : Ints g4 xv q x := Cells.mono hxg hx4.sub
    have hy4 := hyg.mono hx4.sub
    have rg4 := rg.mono hx4.sub
    have q4 : g4.get B = some (.row (arrN 10 (shN G vt hh x k)) true 0) := by rw [hx4.old _ (by omega)]; exact qg
    obtain ⟨D, hD⟩ : ∃ q, q = g.next := ⟨_, rfl⟩
    rw [← hD] at r4
    rw [← hD]
    simp only [rn0, rn1, rn2, reduceIte, Nat.reduceEqDiff, Nat.reduceAdd, Nat.reduceMul, Nat.reduceSub, Nat.reduceLeDiff, Nat.reduceLT, p2, p3, p6, p12, p13, p14, r4.ld, Nat.zero_add, List.getElem?_cons_zero, List.getElem?_cons_succ, Cells.idx hx4' (show vt k < q by omega), Cells.ld hx4' (show vt k < q by omega) Nat.zero_lt_one]
    rw [← hX]
    refine W_loop X (fun i f g' ms => ((∀ j, j ≠ B → g'.get j = g4.get j) ∧ g'.get B = some (.row (arrN 10 fun t => shN G vt hh x k t + (if hh k < (t : Int) ∧ (t : Int) ≤ hh k + (i : Int) then G.km (vt k) else 0)) true 0) ∧ g'.next = g4.next ∧ g'.floor = g4.floor ∧ (i = 0 ∨ hh k + (i : Int) ≤ G.close)) ∧ ms = [] ∧ f 2 = xv ∧ f 3 = .pointer (some ⟨h.next, 0, none⟩) ∧ f 6 = .pointer (some ⟨B, 0, none⟩) ∧ f 9 = .pointer (some ⟨D, 0, none⟩) ∧ f 12 = pv ∧ f 13 = .int .i64 (m : Int) ∧ f 14 = .int .i64 (k : Int) ∧ f 22 = .int .i64 (X : Int) ∧ f 23 = .int .i64 (i : Int)) (by simp; omega) ?_ ?_ ?_
    · simp only [rn0, rn1, rn2, reduceIte, Nat.reduceEqDiff, Nat.reduceAdd, Nat.reduceMul, Nat.reduceSub, Nat.reduceLeDiff, Nat.reduceLT, p2, p3, p6, p12, p13, p14, Int.natCast_zero, Int.add_zero, true_or]
      have q4' : g4.get B = some (.row (arrN 10 fun t => shN G vt hh x k t + (if hh k < (t : Int) ∧ (t : Int) ≤ hh k then G.km (vt k) else 0)) true 0) := by
        rw [q4, arrN_congr fun j hj => ?_]
        rw [if_neg (by omega), Int.add_zero]
      first | exact ⟨fun _ _ => trivial, q4'⟩ | exact ⟨⟨fun _ _ => trivial, q4', rfl, rfl⟩, rfl⟩ | exact q4'
    · rintro i f g' ms hi ⟨⟨og', qg', ng', fg', hci⟩, rfl, p2, p3, p6, p9, p12, p13, p14, p22, p23⟩
      have hi' : (i : Int) < (X : Int) := by omega
      have hwi : wrapF .i64 ((i : Int) + 1) = ((i + 1 : Nat) : Int) := by rw [wrap_in (by omega) (by omega)]; rfl
      have w1 : wrapF .i64 (hh k + 1) = hh k + 1 := wrap_in (by omega) (by omega)
      have w2 : wrapF .i64 (hh k + 1 + (i : Int)) = ((H + 1 + i : Nat) : Int) := by rw [wrap_in (by omega) (by omega)]; omega
      have sub' : ∀ j, j < h.next → g'.get j = h.get j := fun j hj => by rw [og' j (by omega), hx4.old j (by omega), sub j hj]
      have hy' := hy.mono (AHeap.subOf sub')
      have r9 : Row g' D [.int .i64 (vt k : Int), .int .i64 (hh k)] := by
        obtain ⟨w, gr, e⟩ := r4
        exact ⟨w, gr, by rw [og' _ (by omega)]; exact e⟩
      have rr : Row g' h.next (crL G wv vv sv kv mv) := by
        obtain ⟨w, gr, e⟩ := rg4
        exact ⟨w, gr, by rw [og' _ (by omega)]; exact e⟩
      by_cases c : G.close < ((H + 1 + i : Nat) : Int)
      · have hno : ¬ InT G vt hh x m := fun e => by rcases e k hk with e | e <;> omega
        simp only [rn0, rn1, rn2, reduceIte, Nat.reduceEqDiff, Nat.reduceAdd, Nat.reduceMul, Nat.reduceSub, Nat.reduceLeDiff, Nat.reduceLT, p2, p3, p6, p9, p12, p13, p14, p22, p23, hi', r9.ld, Nat.zero_add, List.getElem?_cons_zero, List.getElem?_cons_succ, w1, w2, rr.ld, crg, gt_iff_lt, c, x_buildArr, build_z10]
        refine step_store (b := B) (off := 0) (vs := arrN 10 fun _ => 0) rfl qg' (by omega) (by omega) rfl arrN_one rfl (by simp [arrN_len]) fun g5 hs5 => ?_
        rw [splice_all (by simp [arrN_len])] at hs5
        simp only [rn0, rn1, rn2, reduceIte, Nat.reduceEqDiff, Nat.reduceAdd, Nat.reduceMul, Nat.reduceSub, Nat.reduceLeDiff, Nat.reduceLT, p6, res_two, arr_ld hs5.row, hno]
      · have ht : H + 1 + i < 10 := by omega
        have rB : Row g' B _ := ⟨_, _, qg'⟩
        have lB := arrN_get (a := fun t => shN G vt hh x k t + (if hh k < (t : Int) ∧ (t : Int) ≤ hh k + (i : Int) then G.km (vt k) else 0)) ht
        have hb := shN_bound hG hmo' k (by omega) (H + 1 + i) (x := x)
        have hold : (if hh k < ((H + 1 + i : Nat) : Int) ∧ ((H + 1 + i : Nat) : Int) ≤ hh k + (i : Int) then G.km (vt k) else 0) = 0 := if_neg (by omega)
        rw [hold, Int.add_zero] at lB
        have w3 : wrapF .i64 (shN G vt hh x k (H + 1 + i) + G.km (vt k)) = shN G vt hh x k (H + 1 + i) + G.km (vt k) := wrap_in (by omega) (by omega)
        simp only [rn0, rn1, rn2, reduceIte, Nat.reduceEqDiff, Nat.reduceAdd, Nat.reduceMul, Nat.reduceSub, Nat.reduceLeDiff, Nat.reduceLT, p2, p3, p6, p9, p12, p13, p14, p22, p23, hi', r9.ld, Nat.zero_add, List.getElem?_cons_zero, List.getElem?_cons_succ, w1, w2, rr.ld, crg, gt_iff_lt, c]
        refine W_draw All ?_
        simp only [rn0, rn1, rn2, reduceIte, Nat.reduceEqDiff, Nat.reduceAdd, Nat.reduceMul, Nat.reduceSub, Nat.reduceLeDiff, Nat.reduceLT, p2, p3, p6, p9, idxArr_p ht, rB.ld, lB, Nat.zero_add, r9.ld, List.getElem?_cons_zero, List.getElem?_cons_succ, rr.ld, crg, Cells.self hy'.k, Cells.idx hy'.k v1, Cells.fld hy'.k v1, men_ld hy' v1, eqV_int, w3]
        refine up_store (b := B) (off := H + 1 + i) (vs := [.int .i64 (shN G vt hh x k (H + 1 + i) + G.km (vt k))]) rfl qg' (by omega) (by omega) rfl rfl rfl (by rw [arrN_len]; exact ht) (fun _ _ => trivial) fun g5 hs5 => ?_
        have n5 := hs5.next
        have f5 := hs5.floor
        have q5 := hs5.get
        rw [arrN_set ht, arrN_congr (b := fun t => shN G vt hh x k t + (if hh k < (t : Int) ∧ (t : Int) ≤ hh k + ((i + 1 : Nat) : Int) then G.km (vt k) else 0)) (fun j hj => by
          by_cases e : j = H + 1 + i
          · rw [if_pos e, if_pos (by omega), e]
          · rw [if_neg e]
            by_cases e2 : hh k < (j : Int) ∧ (j : Int) ≤ hh k + (i : Int)
            · rw [if_pos e2, if_pos (by omega)]
            · rw [if_neg e2, if_neg (by omega)])] at q5
        simp only [rn0, rn1, rn2, reduceIte, Nat.reduceEqDiff, Nat.reduceAdd, Nat.reduceMul, Nat.reduceSub, Nat.reduceLeDiff, Nat.reduceLT, p2, p3, p6, p9, p12, p13, p14, p22, p23, hwi]
        have fin := And.intro (fun j (hj : j ≠ B) => (by rw [hs5.old j hj, og' j hj] : g5.get j = g4.get j)) (And.intro q5 (And.intro (by omega : g5.next = g4.next) (And.intro (by omega : g5.floor = g4.floor) (show i + 1 = 0 ∨ hh k + ((i + 1 : Nat) : Int) ≤ G.close from .inr (by omega)))))
        first | exact fin | exact ⟨fin, rfl⟩ | exact ⟨fin.1, fin.2.1, fin.2.2.1, fin.2.2.2.1, by simpa using fin.2.2.2.2⟩ | (simp only [Nat.add_eq_zero_iff, Nat.one_ne_zero, and_false, false_or] at fin ⊢; exact fin) | (simp only [Nat.add_eq_zero_iff, Nat.one_ne_zero, and_false, false_or] at fin ⊢; exact ⟨fin, rfl⟩)
    · rintro f g' ms ⟨⟨og', qg', ng', fg', hci⟩, rfl, p2, p3, p6, p9, p12, p13, p14, p22, p23⟩
      have hin' : InT G vt hh x (k + 1) := fun j hj => by
        by_cases e : j = k
        · subst e
          rcases hci with e | e
          · left; omega
          · right; omega
        · exact hin j (by omega)
      simp only [rn0, rn1, rn2, reduceIte, Nat.reduceEqDiff, Nat.reduceAdd, Nat.reduceMul, Nat.reduceSub, Nat.reduceLeDiff, Nat.reduceLT, p2, p3, p6, p9, p12, p13, p14, p22, p23, Int.lt_irrefl, hwk]
      rw [hX] at qg'
      have qg' : g'.get B = some (.row (arrN 10 (shN G vt hh x (k + 1))) true 0) := qg'
      have fin := And.intro (fun j (hj : j < B) => (by rw [og' j (by omega), hx4.old j (by omega), og j hj] : g'.get j = g2.get j)) (And.intro qg' (And.intro (by omega : g2.next ≤ g'.next) (And.intro (by omega : g'.next ≤ g2.next + (k + 1)) (And.intro (by omega : g'.floor = g2.floor) hin'))))
      first | exact fin | exact ⟨fin, rfl⟩
  · rintro f g ms ⟨⟨og, qg, ug, ng, fg, hin⟩, rfl, p2, p3, p6, p12, p13, p14⟩
    have rB : Row g B _ := ⟨_, _, qg⟩
    simp only [rn0, rn1, rn2, reduceIte, Nat.reduceEqDiff, Nat.reduceAdd, Nat.reduceMul, Nat.reduceSub, Nat.reduceLeDiff, Nat.reduceLT, p2, p3, p6, p12, p13, p14, Int.lt_irrefl, arr_ld rB]
    refine step_store (b := B) (off := 0) (vs := arrN 10 (shN G vt hh x m)) rfl qg (by omega) (by omega) rfl arrN_one rfl (by simp [arrN_len]) fun g5 hs5 => ?_
    rw [splice_all (by simp [arrN_len])] at hs5
    simp only [rn0, rn1, rn2, reduceIte, Nat.reduceEqDiff, Nat.reduceAdd, Nat.reduceMul, Nat.reduceSub, Nat.reduceLeDiff, Nat.reduceLT, p6, res_two, arr_ld hs5.row, hin]

def SureW (G : MG) (m : Nat) (vt : Nat → Nat) (hh : Nat → Int) : Prop := (∀ k, k < m → RipeS G (vt k) (hh k)) ∧ InT G vt hh G.khi m ∧ ∀ t, t ∈ List.range 10 → shN G vt hh G.khi m t ≤ G.men
noncomputable instance (G : MG) (m : Nat) (vt : Nat → Nat) (hh : Nat → Int) : Decidable (SureW G m vt hh) := Classical.propDecidable _
theorem build_f1 {F : Nat} : buildA (fun x => (#[(0, 1)] : Array (Nat × Nat))[x]?) ⟨[.nilFunc]⟩ [0] h [.func (.func F) #[] #[]] = some (.agg ⟨[.func (.func F) #[] #[]]⟩, h) := id rfl
theorem khi_s {G : MG} (hG : GoodG G) : ∀ v, v < G.nk → 0 ≤ G.khi v ∧ G.khi v ≤ 4 := fun v hv => by have := (hG.works v hv).2; omega
theorem klo_s {G : MG} (hG : GoodG G) : ∀ v, v < G.nk → 0 ≤ G.klo v ∧ G.klo v ≤ 4 := fun v hv => by have := (hG.works v hv).2; omega
theorem high_h {G : MG} (hn : 1 ≤ n) : ∀ g : AHeap, g.next < far → ∀ k, k < G.nk → call n (.func (.func 84) #[] #[]) [.agg ⟨[.int .i64 (G.klo k), .int .i64 (G.khi k)]⟩] g = some (.int .i64 (G.khi k), g) := fun g hg k hk => high_c hn hg _ _
theorem low_h {G : MG} (hn : 1 ≤ n) : ∀ g : AHeap, g.next < far → ∀ k, k < G.nk → call n (.func (.func 86) #[] #[]) [.agg ⟨[.int .i64 (G.klo k), .int .i64 (G.khi k)]⟩] g = some (.int .i64 (G.klo k), g) := fun g hg k hk => low_c hn hg _ _
structure Crew (h : AHeap) (wv vv sv kv : Value) (r : Nat) (G : MG) : Prop where
  y : GangR h wv vv sv kv G
  m : MapB h r key2 (rip G G.nk)
  good : GoodG G
theorem Crew.old {g : AHeap} {wv vv sv kv : Value} {r : Nat} {G : MG} (hc : Crew h wv vv sv kv r G) (ho : ∀ i, i < h.next → g.get i = h.get i) : Crew g wv vv sv kv r G := ⟨hc.y.mono (AHeap.subOf ho), hc.m.keep (ho _ hc.m.lt), hc.good⟩
theorem Crew.shut {wv vv sv kv : Value} {r : Nat} {G : MG} (hc : Crew h wv vv sv kv r G) : Crew h.shutAll wv vv sv kv r G := hc.old fun _ _ => rfl

set_option maxHeartbeats 1000000 in
theorem steepLO_c (hn : 100 ≤ n) (hr : h.next + 500 < far) (hfl : h.floor ≤ h.next) {wv vv sv : Value} {S : MS} (hy : SteepR h wv vv sv S) (hT : ThinS S) :
    ∃ wv' vv' sv' h', call n (.func (.func 69) #[] #[]) [.agg ⟨stL S wv vv sv⟩] h = some (.agg ⟨stL S wv' vv' sv'⟩, h') ∧ SteepR h' wv' vv' sv' S ∧ (∀ i, i < h.next → h'.get i = h.get i) ∧ h.next ≤ h'.next ∧ h'.next ≤ h.next + 400 ∧ h'.floor = h.floor ∧ (∀ x k q, wv' = .slice (some x) k q → h.next ≤ x.block) ∧ (∀ x k q, vv' = .slice (some x) k q → h.next ≤ x.block) ∧ (∀ x k q, sv' = .slice (some x) k q → h.next ≤ x.block) := by
  obtain ⟨n, rfl⟩ : ∃ p, n = p + 1 := ⟨n - 1, by omega⟩
  obtain ⟨t1, t2, t3⟩ := hT
  suffices hs : ∃ v h', call (n + 1) (.func (.func 69) #[] #[]) [.agg ⟨stL S wv vv sv⟩] h = some (v, h') ∧ ∃ wv' vv' sv', v = .agg ⟨stL S wv' vv' sv'⟩ ∧ SteepR h' wv' vv' sv' S ∧ (∀ i, i < h.next → h'.get i = h.get i) ∧ h.next ≤ h'.next ∧ h'.next ≤ h.next + 400 ∧ h'.floor = h.floor ∧ (∀ x k q, wv' = .slice (some x) k q → h.next ≤ x.block) ∧ (∀ x k q, vv' = .slice (some x) k q → h.next ≤ x.block) ∧ (∀ x k q, sv' = .slice (some x) k q → h.next ≤ x.block) by
    obtain ⟨v, h', e, a, b, c, rfl, q⟩ := hs
    exact ⟨a, b, c, h', e, q⟩
  refine call_any0 fok69 rfl rfl (by simp) ?_
  simp only [s69, W_seq, W_ops]
  refine ops_box (cs := stL S wv vv sv) (by omega) rfl hy.one fun g1 hx1 => ?_
  have n1 := hx1.next
  have f1' := hx1.floor
  refine ops_alloc (cs := stV (.int .i64 0) (.int .i64 0) nilS (.int .i64 0) (.int .i64 0) nilS nilS) (by omega) rfl fun g2 hx2 => ?_
  have n2 := hx2.next
  have f2' := hx2.floor
  have r1 := hx1.row.mono hx2.sub
  have old2 : ∀ i, i < h.next → g2.get i = h.get i := fun i hi => by rw [hx2.old i (by omega), hx1.old i hi]
  have et := to_c (n := n) (h := g2) (by omega) (by omega) S.splo S.sphi
  simp only [rn0, rn1, rn2, reduceIte, Nat.reduceEqDiff, Nat.reduceAdd, Nat.reduceMul, Nat.reduceSub, Nat.reduceLeDiff, Nat.reduceLT]
  refine W_draw All ?_
  simp only [rn0, rn1, rn2, reduceIte, Nat.reduceEqDiff, Nat.reduceAdd, Nat.reduceMul, Nat.reduceSub, Nat.reduceLeDiff, Nat.reduceLT, r1.ld, stg, st_rng r1, Nat.zero_add, eqV_int, et, build_stI]
  refine up_row (cs := stV (.int .i64 0) (.int .i64 0) nilS (.int .i64 0) (.int .i64 0) nilS nilS) (by omega) rfl rfl (fun g3 hx => hx.sub) fun g3 hx3 => ?_
  have n3 := hx3.next
  have f3' := hx3.floor
  simp only [rn0, rn1, rn2, reduceIte, Nat.reduceEqDiff, Nat.reduceAdd, Nat.reduceMul, Nat.reduceSub, Nat.reduceLeDiff, Nat.reduceLT]
  refine up_store (b := g2.next) (off := 0) (vs := stV (.int .i64 S.last) (.int .i64 S.per) nilS (.int .i64 S.splo) (.int .i64 S.sphi) nilS nilS) rfl hx3.get (by omega) (by omega) rfl rfl rfl (by simp) (fun _ _ => trivial) fun g4 hs4 => ?_
  rw [splice_all (by rfl)] at hs4
  have n4 := hs4.next
  have f4' := hs4.floor
  have old4 : ∀ i, i < g2.next → g4.get i = g2.get i := fun i hi => by rw [hs4.old i (by omega), hx3.old i hi]
  have hm1 : g4.get g1.next = g2.get g1.next := old4 _ (by omega)
  simp only [rn0, rn1, rn2, reduceIte, Nat.reduceEqDiff, Nat.reduceAdd, Nat.reduceMul, Nat.reduceSub, Nat.reduceLeDiff, Nat.reduceLT]
  -- the warmth of the hours
  refine W_loop S.nw (fun k f g ms => (∃ v, (∀ i, i < g2.next → g.get i = g4.get i) ∧ g.floor = h.floor ∧ g4.next ≤ g.next ∧ g.next ≤ g4.next + 3 * k ∧ GrowC g4.next g v 2 k (fun k j => .int .i64 (if j = 0 then S.wlo k else S.whi k)) ∧ g.get g2.next = some (.row (stV (.int .i64 S.last) (.int .i64 S.per) v (.int .i64 S.splo) (.int .i64 S.sphi) nilS nilS) true 0)) ∧ ms = [] ∧ f 1 = .pointer (some ⟨h.next, 0, none⟩) ∧ f 2 = .pointer (some ⟨g1.next, 0, none⟩) ∧ f 3 = .pointer (some ⟨g2.next, 0, none⟩) ∧ f 4 = .int .i64 (k : Int)) (by simp; omega) ?_ ?_ ?_
  · simp only [rn0, rn1, rn2, reduceIte, Nat.reduceEqDiff, Nat.reduceAdd, Nat.reduceMul, Nat.reduceSub, Nat.reduceLeDiff, Nat.reduceLT]
    exact ⟨⟨nilS, fun i _ => trivial, by omega, by omega, .nil, hs4.get⟩, rfl⟩
  · rintro k f g ms hk ⟨⟨v, hs, hfg, hup, hnx, gv, grow⟩, rfl, p1, p2, p3, p4⟩
    have hk' : (k : Int) < (S.nw : Int) := by omega
    have hw : wrapF .i64 ((k : Int) + 1) = ((k + 1 : Nat) : Int) := by rw [wrap_in (by omega) (by omega)]; rfl
    have oldg : ∀ i, i < h.next → g.get i = h.get i := fun i hi => by rw [hs i (by omega), old4 i (by omega), old2 i hi]
    have hyg := hy.mono (AHeap.subOf oldg)
    have rg : Row g h.next (stL S wv vv sv) := r1.mono fun i cs w gr _ e => by rw [hs i (by have := AHeap.lt_of_get e; omega), old4 i (AHeap.lt_of_get e)]; exact e
    have r3g : Row g g2.next _ := ⟨_, _, grow⟩
    have et := to_c (n := n) (h := g) (by omega) (by omega) (S.wlo k) (S.whi k)
    simp only [rn0, rn1, rn2, reduceIte, Nat.reduceEqDiff, Nat.reduceAdd, Nat.reduceMul, Nat.reduceSub, Nat.reduceLeDiff, Nat.reduceLT, p1, p2, p3, p4, rg.ld, stg, Nat.zero_add, Cells.len hyg.w, hk']
    refine W_draw All ?_
    simp only [rn0, rn1, rn2, reduceIte, Nat.reduceEqDiff, Nat.reduceAdd, Nat.reduceMul, Nat.reduceSub, Nat.reduceLeDiff, Nat.reduceLT, p1, p2, p3, p4, rg.ld, r3g.ld, stg, Nat.zero_add, List.getElem?_cons_zero, List.getElem?_cons_succ, gv.cells.self, Cells.idx hyg.w hk, ranges_ld hyg.w hk, et, sl_range]
    refine up_slice (by omega) rfl (fun g5 hx => hx.sub) fun g5 hx5 => ?_
    have n5 := hx5.next
    obtain ⟨v', g6, e6, gv6, o6, n6, f6, old6, u6⟩ := grow_push (h := g) (bytes := 16) gv (by omega) (by omega) (by omega) hx5 rfl rfl (fun j hj => by
      obtain rfl | rfl : j = 0 ∨ j = 1 := by omega
      all_goals rfl) (by simp [maxBytes]; omega) (by simp [maxBytes]; omega)
    simp only [rn0, rn1, rn2, reduceIte, Nat.reduceEqDiff, Nat.reduceAdd, Nat.reduceMul, Nat.reduceSub, Nat.reduceLeDiff, Nat.reduceLT, p1, p2, p3, p4, e6]
    refine ⟨by omega, ?_⟩
    refine up_store (b := g2.next) (off := 2) (vs := [v']) rfl (by rw [old6 _ (by omega)]; exact grow) (by omega) (by omega) (cells1 o6) (by simp [allB, o6]) rfl (by simp) (fun _ _ => trivial) fun g7 hs7 => ?_
    rw [sp2] at hs7
    have n7 := hs7.next
    have f7 := hs7.floor
    simp only [rn0, rn1, rn2, reduceIte, Nat.reduceEqDiff, Nat.reduceAdd, Nat.reduceMul, Nat.reduceSub, Nat.reduceLeDiff, Nat.reduceLT, p1, p2, p3, p4, hw]
    exact ⟨v', fun i hi => by rw [hs7.old i (by omega), old6 i (by omega), hs i hi], by omega, by omega, by omega, gv6.keep hs7.keep (by omega), hs7.get⟩
  rintro f g ms ⟨⟨w', hs, hfg, hup, hnx, gvw, grow⟩, rfl, p1, p2, p3, p4⟩
  have oldg : ∀ i, i < h.next → g.get i = h.get i := fun i hi => by rw [hs i (by omega), old4 i (by omega), old2 i hi]
  have hyg := hy.mono (AHeap.subOf oldg)
  have rg : Row g h.next (stL S wv vv sv) := r1.mono fun i cs w gr _ e => by rw [hs i (by have := AHeap.lt_of_get e; omega), old4 i (AHeap.lt_of_get e)]; exact e
  have hm2 : g.get g1.next = g2.get g1.next := by rw [hs _ (by omega), hm1]
  have bw : ∀ x k q, w' = .slice (some x) k q → x.block < g.next := fun x k q e => (gvw.block e).2
  have bw2 : ∀ x k q, w' = .slice (some x) k q → g2.next ≠ x.block := fun x k q e => by have := (gvw.block e).1; omega
  have bwl : ∀ x k q, w' = .slice (some x) k q → g4.next ≤ x.block := fun x k q e => (gvw.block e).1
  have cw := gvw.cells
  have ow := gvw.one
  clear gvw hs
  have e4 : g2.next < g.next := by omega
  simp only [rn0, rn1, rn2, reduceIte, Nat.reduceEqDiff, Nat.reduceAdd, Nat.reduceMul, Nat.reduceSub, Nat.reduceLeDiff, Nat.reduceLT, p1, p2, p3, p4, rg.ld, stg, Nat.zero_add, Cells.len hyg.w, Int.lt_irrefl]
  -- the vats
  refine W_loop S.nv (fun k f g' ms => (∃ v, (∀ i, i < g.next → i ≠ g2.next → g'.get i = g.get i) ∧ g'.floor = h.floor ∧ g.next ≤ g'.next ∧ g'.next ≤ g.next + 3 * k ∧ GrowC g.next g' v 4 k (vatC S) ∧ g'.get g2.next = some (.row (stV (.int .i64 S.last) (.int .i64 S.per) w' (.int .i64 S.splo) (.int .i64 S.sphi) v nilS) true 0)) ∧ ms = [] ∧ f 1 = .pointer (some ⟨h.next, 0, none⟩) ∧ f 2 = .pointer (some ⟨g1.next, 0, none⟩) ∧ f 3 = .pointer (some ⟨g2.next, 0, none⟩) ∧ f 5 = .int .i64 (k : Int)) (by simp; omega) ?_ ?_ ?_
  · simp only [rn0, rn1, rn2, reduceIte, Nat.reduceEqDiff, Nat.reduceAdd, Nat.reduceMul, Nat.reduceSub, Nat.reduceLeDiff, Nat.reduceLT, p1, p2, p3]
    exact ⟨⟨nilS, fun i _ _ => trivial, hfg, by omega, .nil, grow⟩, rfl⟩
  · rintro k f g' ms hk ⟨⟨v, hs, hfg', hup', hnx', gv, grow'⟩, rfl, p1, p2, p3, p5⟩
    have hk' : (k : Int) < (S.nv : Int) := by omega
    have hw : wrapF .i64 ((k : Int) + 1) = ((k + 1 : Nat) : Int) := by rw [wrap_in (by omega) (by omega)]; rfl
    have oldg' : ∀ i, i < h.next → g'.get i = h.get i := fun i hi => by rw [hs i (by omega) (by omega), oldg i hi]
    have hyg' := hy.mono (AHeap.subOf oldg')
    have rg' : Row g' h.next (stL S wv vv sv) := by obtain ⟨w, gr, e⟩ := rg; exact ⟨w, gr, by rw [hs _ (by omega) (by omega)]; exact e⟩
    have r3g : Row g' g2.next _ := ⟨_, _, grow'⟩
    simp only [rn0, rn1, rn2, reduceIte, Nat.reduceEqDiff, Nat.reduceAdd, Nat.reduceMul, Nat.reduceSub, Nat.reduceLeDiff, Nat.reduceLT, p1, p2, p3, p5, rg'.ld, stg, Nat.zero_add, Cells.len hyg'.v, hk', Cells.idx hyg'.v hk, vat_ld hyg' hk]
    refine step_new (vs := [.int .i64 (S.vb k), .int .i64 (S.vlo k), .int .i64 (S.vhi k), .int .i64 (S.vn k)]) (by omega) (by omega) rfl (by simp only [rn0, rn1, rn2, reduceIte, Nat.reduceEqDiff, Nat.reduceAdd, Nat.reduceMul, Nat.reduceSub, Nat.reduceLeDiff, Nat.reduceLT]; rfl) rfl rfl rfl fun g5 hx5 => ?_
    have n5 := hx5.next
    have f5 := hx5.floor
    have r35 := r3g.mono hx5.sub
    have gv5 := gv.sub hx5.sub
    have et := to_c (n := n) (h := g5) (by omega) (by omega) (S.vlo k) (S.vhi k)
    simp only [rn0, rn1, rn2, reduceIte, Nat.reduceEqDiff, Nat.reduceAdd, Nat.reduceMul, Nat.reduceSub, Nat.reduceLeDiff, Nat.reduceLT]
    refine W_draw All ?_
    simp only [rn0, rn1, rn2, reduceIte, Nat.reduceEqDiff, Nat.reduceAdd, Nat.reduceMul, Nat.reduceSub, Nat.reduceLeDiff, Nat.reduceLT, p1, p2, p3, p5, r35.ld, hx5.ld, hx5.ldN 1 2 (by simp) (by simp), List.drop_succ_cons, List.drop_zero, List.take_succ_cons, List.take_zero, Nat.zero_add, List.getElem?_cons_zero, List.getElem?_cons_succ, eqV_int, gv5.cells.self, et, build_va, sl_va]
    refine up_slice (by omega) rfl (fun g6 hx => hx.sub) fun g6 hx6 => ?_
    have n6 := hx6.next
    obtain ⟨v', g7, e7, gv7, o7, n7, f7, old7, u7⟩ := grow_push (h := g5) (bytes := 32) gv5 (by omega) (by omega) (by omega) hx6 rfl rfl (fun j hj => by
      obtain rfl | rfl | rfl | rfl : j = 0 ∨ j = 1 ∨ j = 2 ∨ j = 3 := by omega
      all_goals rfl) (by simp [maxBytes]; omega) (by simp [maxBytes]; omega)
    simp only [rn0, rn1, rn2, reduceIte, Nat.reduceEqDiff, Nat.reduceAdd, Nat.reduceMul, Nat.reduceSub, Nat.reduceLeDiff, Nat.reduceLT, p1, p2, p3, e7]
    refine ⟨by omega, ?_⟩
    refine up_store (b := g2.next) (off := 5) (vs := [v']) rfl (by rw [old7 _ (by omega), hx5.old _ (by omega)]; exact grow') (by omega) (by omega) (cells1 o7) (by simp [allB, o7]) rfl (by simp) (fun _ _ => trivial) fun g8 hs8 => ?_
    rw [sp5] at hs8
    have n8 := hs8.next
    have f8 := hs8.floor
    simp only [rn0, rn1, rn2, reduceIte, Nat.reduceEqDiff, Nat.reduceAdd, Nat.reduceMul, Nat.reduceSub, Nat.reduceLeDiff, Nat.reduceLT, p1, p2, p3, p5, hw]
    exact ⟨v', fun i hi hne => by rw [hs8.old i hne, old7 i hi, hx5.old i (by omega), hs i hi hne], by omega, by omega, by omega, gv7.keep hs8.keep (by omega), hs8.get⟩
  rintro f ga ms ⟨⟨v', hsa, hfa, hupa, hnxa, gva, growa⟩, rfl, p1, p2, p3, p5⟩
  have olda : ∀ i, i < h.next → ga.get i = h.get i := fun i hi => by rw [hsa i (by omega) (by omega), oldg i hi]
  have hya := hy.mono (AHeap.subOf olda)
  have rga : Row ga h.next (stL S wv vv sv) := by obtain ⟨w, gr, e⟩ := rg; exact ⟨w, gr, by rw [hsa _ (by omega) (by omega)]; exact e⟩
  have hm3 : ga.get g1.next = g2.get g1.next := by rw [hsa _ (by omega) (by omega), hm2]
  have cwa : Ranges ga w' S.nw S.wlo S.whi := by
    obtain ⟨a, cap, rfl, hsp, h0 | ⟨b, o, cs, w, gr, rfl, h1, h2⟩⟩ := cw
    · exact ⟨a, cap, rfl, hsp, .inl h0⟩
    · exact ⟨_, cap, rfl, hsp, .inr ⟨b, o, cs, w, gr, rfl, by rw [hsa b (bw _ _ _ rfl) (fun e => bw2 _ _ _ rfl e.symm)]; exact h1, h2⟩⟩
  have bv : ∀ x k q, v' = .slice (some x) k q → x.block < ga.next := fun x k q e => (gva.block e).2
  have bv2 : ∀ x k q, v' = .slice (some x) k q → g2.next ≠ x.block := fun x k q e => by have := (gva.block e).1; omega
  have bvl : ∀ x k q, v' = .slice (some x) k q → g.next ≤ x.block := fun x k q e => (gva.block e).1
  have cv := gva.cells
  have ov := gva.one
  clear gva hsa cw
  have e5 : g2.next < ga.next := by omega
  simp only [rn0, rn1, rn2, reduceIte, Nat.reduceEqDiff, Nat.reduceAdd, Nat.reduceMul, Nat.reduceSub, Nat.reduceLeDiff, Nat.reduceLT, p1, p2, p3, p5, rga.ld, stg, Nat.zero_add, Cells.len hya.v, Int.lt_irrefl]
  -- the smells
  refine W_loop S.ns (fun k f g' ms => (∃ v, (∀ i, i < ga.next → i ≠ g2.next → g'.get i = ga.get i) ∧ g'.floor = h.floor ∧ ga.next ≤ g'.next ∧ g'.next ≤ ga.next + 3 * k ∧ GrowC ga.next g' v 3 k (fun k j => .int .i64 (if j = 0 then S.sv k else if j = 1 then S.sh k else S.sk k)) ∧ g'.get g2.next = some (.row (stV (.int .i64 S.last) (.int .i64 S.per) w' (.int .i64 S.splo) (.int .i64 S.sphi) v' v) true 0)) ∧ ms = [] ∧ f 1 = .pointer (some ⟨h.next, 0, none⟩) ∧ f 2 = .pointer (some ⟨g1.next, 0, none⟩) ∧ f 3 = .pointer (some ⟨g2.next, 0, none⟩) ∧ f 7 = .int .i64 (k : Int)) (by simp; omega) ?_ ?_ ?_
  · simp only [rn0, rn1, rn2, reduceIte, Nat.reduceEqDiff, Nat.reduceAdd, Nat.reduceMul, Nat.reduceSub, Nat.reduceLeDiff, Nat.reduceLT, p1, p2, p3]
    exact ⟨⟨nilS, fun i _ _ => trivial, hfa, by omega, .nil, growa⟩, rfl⟩
  · rintro k f g' ms hk ⟨⟨v, hs, hfg', hup', hnx', gv, grow'⟩, rfl, p1, p2, p3, p7⟩
    have hk' : (k : Int) < (S.ns : Int) := by omega
    have hw : wrapF .i64 ((k : Int) + 1) = ((k + 1 : Nat) : Int) := by rw [wrap_in (by omega) (by omega)]; rfl
    have oldg' : ∀ i, i < h.next → g'.get i = h.get i := fun i hi => by rw [hs i (by omega) (by omega), olda i hi]
    have hyg' := hy.mono (AHeap.subOf oldg')
    have rg' : Row g' h.next (stL S wv vv sv) := by obtain ⟨w, gr, e⟩ := rga; exact ⟨w, gr, by rw [hs _ (by omega) (by omega)]; exact e⟩
    have r3g : Row g' g2.next _ := ⟨_, _, grow'⟩
    simp only [rn0, rn1, rn2, reduceIte, Nat.reduceEqDiff, Nat.reduceAdd, Nat.reduceMul, Nat.reduceSub, Nat.reduceLeDiff, Nat.reduceLT, p1, p2, p3, p7, rg'.ld, stg, Nat.zero_add, Cells.len hyg'.s, hk', Cells.idx hyg'.s hk, samps_ld hyg'.s hk]
    refine step_new (vs := [.int .i64 (S.sv k), .int .i64 (S.sh k), .int .i64 (S.sk k)]) (by omega) (by omega) rfl (by simp only [rn0, rn1, rn2, reduceIte, Nat.reduceEqDiff, Nat.reduceAdd, Nat.reduceMul, Nat.reduceSub, Nat.reduceLeDiff, Nat.reduceLT]; rfl) rfl rfl rfl fun g5 hx5 => ?_
    have n5 := hx5.next
    have f5 := hx5.floor
    have r35 := r3g.mono hx5.sub
    have gv5 := gv.sub hx5.sub
    simp only [rn0, rn1, rn2, reduceIte, Nat.reduceEqDiff, Nat.reduceAdd, Nat.reduceMul, Nat.reduceSub, Nat.reduceLeDiff, Nat.reduceLT, p1, p2, p3, p7, r35.ld, hx5.ld, Nat.zero_add, List.getElem?_cons_zero, List.getElem?_cons_succ, build_sm, sl_samp]
    refine step_slice (by omega) rfl fun g6 hx6 => ?_
    have n6 := hx6.next
    obtain ⟨v'', g7, e7, gv7, o7, n7, f7, old7, u7⟩ := grow_push (h := g5) (bytes := 24) gv5 (by omega) (by omega) (by omega) hx6 rfl rfl (fun j hj => by
      obtain rfl | rfl | rfl : j = 0 ∨ j = 1 ∨ j = 2 := by omega
      all_goals rfl) (by simp [maxBytes]; omega) (by simp [maxBytes]; omega)
    simp only [rn0, rn1, rn2, reduceIte, Nat.reduceEqDiff, Nat.reduceAdd, Nat.reduceMul, Nat.reduceSub, Nat.reduceLeDiff, Nat.reduceLT, p1, p2, p3, e7]
    refine step_store (b := g2.next) (off := 6) (vs := [v'']) rfl (by rw [old7 _ (by omega), hx5.old _ (by omega)]; exact grow') (by omega) (by omega) (cells1 o7) (by simp [allB, o7]) rfl (by simp) fun g8 hs8 => ?_
    rw [sp6] at hs8
    have n8 := hs8.next
    have f8 := hs8.floor
    simp only [rn0, rn1, rn2, reduceIte, Nat.reduceEqDiff, Nat.reduceAdd, Nat.reduceMul, Nat.reduceSub, Nat.reduceLeDiff, Nat.reduceLT, p1, p2, p3, p7, hw]
    exact ⟨v'', fun i hi hne => by rw [hs8.old i hne, old7 i hi, hx5.old i (by omega), hs i hi hne], by omega, by omega, by omega, gv7.keep hs8.keep (by omega), hs8.get⟩
  rintro f gb ms ⟨⟨s', hsb, hfb, hupb, hnxb, gvb, growb⟩, rfl, p1, p2, p3, p7⟩
  have oldb : ∀ i, i < h.next → gb.get i = h.get i := fun i hi => by rw [hsb i (by omega) (by omega), olda i hi]
  have hyb := hy.mono (AHeap.subOf oldb)
  have rgb : Row gb h.next (stL S wv vv sv) := by obtain ⟨w, gr, e⟩ := rga; exact ⟨w, gr, by rw [hsb _ (by omega) (by omega)]; exact e⟩
  have hm4 : gb.get g1.next = some (.row (stV (.int .i64 0) (.int .i64 0) nilS (.int .i64 0) (.int .i64 0) nilS nilS) true 0) := by rw [hsb _ (by omega) (by omega), hm3]; exact hx2.get
  have rr : Row gb g2.next _ := ⟨_, _, growb⟩
  have hone : allB oneCell (stL S w' v' s') = true := by simp [stL, allB, one_int, ow, ov, gvb.one]
  simp only [rn0, rn1, rn2, reduceIte, Nat.reduceEqDiff, Nat.reduceAdd, Nat.reduceMul, Nat.reduceSub, Nat.reduceLeDiff, Nat.reduceLT, p1, p2, p3, p7, rgb.ld, stg, Nat.zero_add, Cells.len hyb.s, Int.lt_irrefl, rr.whole (n := 7) rfl]
  refine step_store (b := g1.next) (off := 0) (vs := stL S w' v' s') rfl hm4 (by omega) (by omega) rfl hone rfl (by simp) fun gc hsc => ?_
  rw [splice_all (by rfl)] at hsc
  have nc := hsc.next
  have fc := hsc.floor
  simp only [rn0, rn1, rn2, reduceIte, Nat.reduceEqDiff, Nat.reduceAdd, Nat.reduceMul, Nat.reduceSub, Nat.reduceLeDiff, Nat.reduceLT, p2, res_cellN, hsc.row.whole (n := 7) rfl]
  have sep : ∀ {v : Value} {s m : Nat} {c : Nat → Nat → Value}, Cells gb v s m c → (∀ x k q, v = .slice (some x) k q → g1.next < x.block) → Cells gc v s m c := fun {v s m c} hc hb => by
    obtain ⟨a, cap, rfl, hsp, h0 | ⟨b, o, cs, w, gr, rfl, h1, h2⟩⟩ := hc
    · exact ⟨a, cap, rfl, hsp, .inl h0⟩
    · have := hb _ _ _ rfl
      have : b ≠ g1.next := by have : g1.next < b := this; omega
      exact ⟨_, cap, rfl, hsp, .inr ⟨b, o, cs, w, gr, rfl, by rw [hsc.old b this]; exact h1, h2⟩⟩
  refine ⟨w', v', s', rfl, ⟨?_, ?_, ?_⟩, fun i hi => by rw [hsc.old i (by omega), oldb i hi], by omega, by omega, by omega, fun x k q e => by have := bwl x k q e; omega, fun x k q e => by have := bvl x k q e; omega, fun x k q e => by have := (gvb.block e).1; omega⟩
  · have q : Ranges gb w' S.nw S.wlo S.whi := by
      obtain ⟨a, cap, rfl, hsp, h0 | ⟨b, o, cs, w, gr, rfl, h1, h2⟩⟩ := cwa
      · exact ⟨a, cap, rfl, hsp, .inl h0⟩
      · have hb := bw _ _ _ rfl
        have hb2 := bw2 _ _ _ rfl
        exact ⟨_, cap, rfl, hsp, .inr ⟨b, o, cs, w, gr, rfl, by rw [hsb b (Nat.lt_of_lt_of_le hb hupa) fun e => hb2 e.symm]; exact h1, h2⟩⟩
    exact sep q fun x k q e => by have := bwl x k q e; omega
  · have q : Cells gb v' 4 S.nv (vatC S) := by
      obtain ⟨a, cap, rfl, hsp, h0 | ⟨b, o, cs, w, gr, rfl, h1, h2⟩⟩ := cv
      · exact ⟨a, cap, rfl, hsp, .inl h0⟩
      · have hb := bv _ _ _ rfl
        have hb2 := bv2 _ _ _ rfl
        exact ⟨_, cap, rfl, hsp, .inr ⟨b, o, cs, w, gr, rfl, by rw [hsb b hb fun e => hb2 e.symm]; exact h1, h2⟩⟩
    exact sep q fun x k q e => by have := bvl x k q e; omega
  · exact sep gvb.cells fun x k q e => by have := (gvb.block e).1; omega

def s26 : SCode := (.seq (.ops [⟨some 2, none, .mov (.const (.slice none 0 0))⟩]) (.seq (.ops [⟨some 3, none, .mov (T 0)⟩, ⟨some 4, none, .append 1 8 (.const (.slice none 0 0)) (T 3)⟩, ⟨some 2, none, .mov (T 4)⟩]) .ret))
theorem fok26 : FnOk Tryz.prog 26 5 s26 [.tmp 2] := ⟨Tryz.f26, _, Tryz.func26, rfl, Tryz.ntmps26, by kernel_rfl, by kernel_rfl⟩
theorem listG_c (hn : 1 ≤ n) (hr : h.next + 2 < far) {v : Value} {m : Nat} {a : Nat → Int} (hi : Ints h v m a) (hm : m ≤ 30) :
    ∃ v' h', call n (.func (.func 26) #[] #[]) [v] h = some (v', h') ∧ Ints h' v' m a ∧ oneCell v' = true ∧ (∀ i, i < h.next → h'.get i = h.get i) ∧ h.next ≤ h'.next ∧ h'.next ≤ h.next + 1 ∧ h'.floor = h.floor := by
  obtain ⟨n, rfl⟩ : ∃ p, n = p + 1 := ⟨n - 1, by omega⟩
  refine call_any0 fok26 rfl rfl (by simp) ?_
  obtain ⟨x, k, e1, e2⟩ := Ints.cells hi
  have hap := append_nil (h := h) (s := 1) (bytes := 8) ⟨x, k, e1⟩ e2 (by simp) (by simp [maxBytes]; omega) (by simp [maxBytes]; omega)
  by_cases hz : m = 0
  · rw [if_pos hz] at hap
    simp only [rn0, rn1, rn2, reduceIte, Nat.reduceEqDiff, Nat.reduceAdd, Nat.reduceMul, Nat.reduceSub, Nat.reduceLeDiff, Nat.reduceLT, s26, hap]
    exact ⟨⟨none, 0, by rw [hz], (fun x e => nomatch e), .inl hz⟩, rfl, fun i _ => trivial, by omega⟩
  · rw [if_neg hz] at hap
    simp only [rn0, rn1, rn2, reduceIte, Nat.reduceEqDiff, Nat.reduceAdd, Nat.reduceMul, Nat.reduceSub, Nat.reduceLeDiff, Nat.reduceLT, s26, hap]
    refine step_slice (by omega) (by rw [allB_iff]; intro v hv; obtain ⟨i, _, rfl⟩ := List.mem_map.1 hv; rfl) fun h2 hx2 => ?_
    have n2 := hx2.next
    simp only [rn0, rn1, rn2, reduceIte, Nat.reduceEqDiff, Nat.reduceAdd, Nat.reduceMul, Nat.reduceSub, Nat.reduceLeDiff, Nat.reduceLT]
    exact ⟨ints_row hx2.get, rfl, hx2.old, by omega, by omega, hx2.floor⟩
def zgL : List Value := [.int .i64 0, .int .i64 0, .slice none 0 0, .int .i64 0, .int .i64 0, .slice none 0 0, .slice none 0 0, .int .i64 0, .int .i64 0, .slice none 0 0]
theorem build_ga {G : MG} {wv vv sv : Value} : buildA (fun x => (#[(0, 7), (7, 1), (8, 1), (9, 1)] : Array (Nat × Nat))[x]?) ⟨[.int .i64 0, .int .i64 0, .slice none 0 0, .int .i64 0, .int .i64 0, .slice none 0 0, .slice none 0 0, .int .i64 0, .int .i64 0, .slice none 0 0]⟩ [0, 1, 2] h [.agg ⟨stL G.s wv vv sv⟩, .int .i64 G.men, .int .i64 G.close] = some (.agg ⟨gaL G wv vv sv nilS⟩, h) := by
  unfold buildA
  have e : Instr.fill (fun x => (#[(0, 7), (7, 1), (8, 1), (9, 1)] : Array (Nat × Nat))[x]?) #[.int .i64 0, .int .i64 0, .slice none 0 0, .int .i64 0, .int .i64 0, .slice none 0 0, .slice none 0 0, .int .i64 0, .int .i64 0, .slice none 0 0] ([0, 1, 2].zip [.agg ⟨stL G.s wv vv sv⟩, .int .i64 G.men, .int .i64 G.close]) = some ⟨gaL G wv vv sv nilS⟩ := by
    simp [Instr.fill, Value.cells, gaL, stL]
  rw [e]
theorem gaX {G : MG} {a b c d : Value} : (gaL G a b c d)[9]? = some d := rfl
def s25 : SCode := (.seq (.ops [⟨some 1, none, .box (T 0)⟩, ⟨some 2, none, .alloc [(.int .i64 0), (.int .i64 0), (.slice none 0 0), (.int .i64 0), (.int .i64 0), (.slice none 0 0), (.slice none 0 0), (.int .i64 0), (.int .i64 0), (.slice none 0 0)]⟩]) (.seq (.draw [⟨.free, ⟨some 6, none, .fieldAddr 0 (T 1)⟩⟩, ⟨.rd1, ⟨some 7, none, .loadN 7 (T 6)⟩⟩, ⟨.up, ⟨some 8, none, .call (.func 69) [(T 7)]⟩⟩, ⟨.free, ⟨some 9, none, .fieldAddr 7 (T 1)⟩⟩, ⟨.rd, ⟨some 10, none, .load1 (T 9)⟩⟩, ⟨.free, ⟨some 11, none, .fieldAddr 8 (T 1)⟩⟩, ⟨.rd, ⟨some 12, none, .load1 (T 11)⟩⟩, ⟨.free, ⟨some 13, none, .build #[(0, 7), (7, 1), (8, 1), (9, 1)] [(.int .i64 0), (.int .i64 0), (.slice none 0 0), (.int .i64 0), (.int .i64 0), (.slice none 0 0), (.slice none 0 0), (.int .i64 0), (.int .i64 0), (.slice none 0 0)] [0, 1, 2] [(T 8), (T 10), (T 12)]⟩⟩, ⟨.up, ⟨some 3, none, .alloc [(.int .i64 0), (.int .i64 0), (.slice none 0 0), (.int .i64 0), (.int .i64 0), (.slice none 0 0), (.slice none 0 0), (.int .i64 0), (.int .i64 0), (.slice none 0 0)]⟩⟩, ⟨.any, ⟨none, none, .store 10 (T 3) (T 13)⟩⟩]) (.seq (.seq (.ops [⟨some 4, none, .mov (.const (.int .i64 0))⟩]) (.block 0 (.loop (.seq (.seq (.ops [⟨some 14, none, .mov (T 4)⟩, ⟨some 15, none, .fieldAddr 9 (T 1)⟩, ⟨some 16, none, .load1 (T 15)⟩, ⟨some 17, none, .len (T 16)⟩, ⟨some 18, none, .int2 .lss (T 14) (T 17)⟩]) (.cond (T 18) .skip (.exit 0))) (.seq (.block 1 (.seq (.ops [⟨some 21, none, .fieldAddr 9 (T 1)⟩, ⟨some 22, none, .load1 (T 21)⟩, ⟨some 23, none, .mov (T 4)⟩, ⟨some 24, none, .idxSl 3 (T 22) (T 23)⟩, ⟨some 25, none, .loadN 3 (T 24)⟩, ⟨some 5, none, .alloc [(.int .i64 0), (.int .i64 0), (.int .i64 0)]⟩, ⟨none, none, .store 3 (T 5) (T 25)⟩]) (.ops [⟨some 26, none, .fieldAddr 9 (T 3)⟩, ⟨some 27, none, .load1 (T 26)⟩, ⟨some 28, none, .fieldAddr 0 (T 5)⟩, ⟨some 29, none, .load1 (T 28)⟩, ⟨some 30, none, .fieldAddr 1 (T 5)⟩, ⟨some 31, none, .fieldAddr 0 (T 30)⟩, ⟨some 32, none, .load1 (T 31)⟩, ⟨some 33, none, .fieldAddr 1 (T 5)⟩, ⟨some 34, none, .fieldAddr 1 (T 33)⟩, ⟨some 35, none, .load1 (T 34)⟩, ⟨some 36, none, .build #[(0, 1), (1, 1)] [(.int .i64 0), (.int .i64 0)] [0, 1] [(T 32), (T 35)]⟩, ⟨some 37, none, .build #[(0, 1), (1, 2)] [(.int .i64 0), (.int .i64 0), (.int .i64 0)] [0, 1] [(T 29), (T 36)]⟩, ⟨some 38, none, .bslice 3 1 [(.int .i64 0), (.int .i64 0), (.int .i64 0)] [0] [(T 37)]⟩, ⟨some 39, none, .append 3 24 (T 27) (T 38)⟩, ⟨some 40, none, .fieldAddr 9 (T 3)⟩, ⟨none, none, .store 1 (T 40) (T 39)⟩]))) (.ops [⟨some 19, none, .mov (T 4)⟩, ⟨some 20, none, .int2 .add (T 19) (.const (.int .i64 1))⟩, ⟨some 4, none, .mov (T 20)⟩])))))) (.seq (.ops [⟨some 41, none, .loadN 10 (T 3)⟩, ⟨none, none, .store 10 (T 2) (T 41)⟩]) .ret))))
theorem fok25 : FnOk Tryz.prog 25 42 s25 [.cellN 2 10] := ⟨Tryz.f25, _, Tryz.func25, rfl, Tryz.ntmps25, by kernel_rfl, by kernel_rfl⟩
set_option maxHeartbeats 2000000 in
theorem gangL_c (hn : 110 ≤ n) (hr : h.next + 600 < far) (hfl : h.floor ≤ h.next) {wv vv sv kv : Value} {G : MG} (hy : GangR h wv vv sv kv G) (hT : ThinS G.s) (hl : G.nk ≤ 30) :
    ∃ wv' vv' sv' kv' h', call n (.func (.func 25) #[] #[]) [.agg ⟨gaL G wv vv sv kv⟩] h = some (.agg ⟨gaL G wv' vv' sv' kv'⟩, h') ∧ GangR h' wv' vv' sv' kv' G ∧ (∀ i, i < h.next → h'.get i = h.get i) ∧ h.next ≤ h'.next ∧ h'.next ≤ h.next + 550 ∧ h'.floor = h.floor := by
  obtain ⟨n, rfl⟩ : ∃ p, n = p + 1 := ⟨n - 1, by omega⟩
  suffices hs : ∃ v h', call (n + 1) (.func (.func 25) #[] #[]) [.agg ⟨gaL G wv vv sv kv⟩] h = some (v, h') ∧ ∃ wv' vv' sv' kv', v = .agg ⟨gaL G wv' vv' sv' kv'⟩ ∧ GangR h' wv' vv' sv' kv' G ∧ (∀ i, i < h.next → h'.get i = h.get i) ∧ h.next ≤ h'.next ∧ h'.next ≤ h.next + 550 ∧ h'.floor = h.floor by
    obtain ⟨v, h', e, a, b, c, d, rfl, q⟩ := hs
    exact ⟨a, b, c, d, h', e, q⟩
  refine call_any0 fok25 rfl rfl (by simp) ?_
  simp only [s25, W_seq, W_ops]
  refine ops_box (cs := gaL G wv vv sv kv) (by omega) rfl hy.one fun g1 hx1 => ?_
  have n1 := hx1.next
  have f1 := hx1.floor
  simp only [rn0, rn1, rn2, reduceIte, Nat.reduceEqDiff, Nat.reduceAdd, Nat.reduceMul, Nat.reduceSub, Nat.reduceLeDiff, Nat.reduceLT]
  refine step_row (cs := zgL) (by omega) rfl rfl fun g2 hx2 => ?_
  have n2 := hx2.next
  have f2 := hx2.floor
  have hy2 := hy.mono (hx1.sub.trans hx2.sub)
  have r2 := hx1.row.mono hx2.sub
  have old2 : ∀ i, i < h.next → g2.get i = h.get i := fun i hi => by rw [hx2.old i (by omega), hx1.old i hi]
  obtain ⟨wa, va, sa, g3, e3, hy3, o3, u3, m3, f3, bw3, bv3, bs3⟩ := steepLO_c (n := n) (h := g2) (by omega) (by omega) (by omega) hy2.s hT
  have s23 : Sub All g2 g3 := AHeap.subOf o3
  simp only [rn0, rn1, rn2, reduceIte, Nat.reduceEqDiff, Nat.reduceAdd, Nat.reduceMul, Nat.reduceSub, Nat.reduceLeDiff, Nat.reduceLT]
  refine W_draw All ?_
  simp only [rn0, rn1, rn2, reduceIte, Nat.reduceEqDiff, Nat.reduceAdd, Nat.reduceMul, Nat.reduceSub, Nat.reduceLeDiff, Nat.reduceLT, ga_st r2, r2.ld, gag, Nat.zero_add, eqV_int, hy2.s.self, e3, build_ga]
  first | refine ⟨u3, ?_⟩ | refine ⟨⟨u3, s23⟩, ?_⟩ | skip
  have hone0 : allB oneCell (gaL G wa va sa nilS) = true := by simp [gaL, allB, one_int, Cells.one hy3.w, Cells.one hy3.v, Cells.one hy3.s, (show oneCell nilS = true from rfl)]
  refine up_row (cs := zgL) (by omega) rfl rfl (fun g4 hx => s23.trans hx.sub) fun g4 hx4 => ?_
  have n4 := hx4.next
  have f4 := hx4.floor
  simp only [rn0, rn1, rn2, reduceIte, Nat.reduceEqDiff, Nat.reduceAdd, Nat.reduceMul, Nat.reduceSub, Nat.reduceLeDiff, Nat.reduceLT]
  refine up_store (b := g3.next) (off := 0) (vs := gaL G wa va sa nilS) rfl hx4.get (by omega) (by omega) rfl hone0 rfl (by simp [gaL, zgL]) (fun _ _ => trivial) fun g5 hs5 => ?_
  rw [splice_all (by rfl)] at hs5
  have n5 := hs5.next
  have f5 := hs5.floor
  have old5 : ∀ i, i < g3.next → g5.get i = g3.get i := fun i hi => by rw [hs5.old i (by omega), hx4.old i hi]
  have q5 := hs5.get
  have hy5 := hy3.mono (AHeap.subOf old5)
  have z5 : g5.get g1.next = some (.row zgL true 0) := by rw [old5 _ (by omega), o3 _ (by omega)]; exact hx2.get
  have old5h : ∀ i, i < h.next → g5.get i = h.get i := fun i hi => by rw [old5 i (by omega), o3 i (by omega), old2 i hi]
  have r5 : Row g5 h.next (gaL G wv vv sv kv) := by
    obtain ⟨w, gr, e⟩ := r2
    exact ⟨w, gr, by rw [old5 _ (by omega), o3 _ (by omega)]; exact e⟩
  obtain ⟨B, hB⟩ : ∃ q, q = g3.next := ⟨_, rfl⟩
  rw [← hB] at q5
  rw [← hB]
  have b5 : g5.next = B + 1 := by omega
  simp only [rn0, rn1, rn2, reduceIte, Nat.reduceEqDiff, Nat.reduceAdd, Nat.reduceMul, Nat.reduceSub, Nat.reduceLeDiff, Nat.reduceLT]
  refine W_loop G.nk (fun k f g ms => (∃ X, (∀ i, i < g5.next → i ≠ B → g.get i = g5.get i) ∧ g.floor = h.floor ∧ g5.next ≤ g.next ∧ g.next ≤ g5.next + 3 * k ∧ GrowC g5.next g X 3 k (workC G) ∧ g.get B = some (.row (gaL G wa va sa X) true 0)) ∧ ms = [] ∧ f 1 = .pointer (some ⟨h.next, 0, none⟩) ∧ f 2 = .pointer (some ⟨g1.next, 0, none⟩) ∧ f 3 = .pointer (some ⟨B, 0, none⟩) ∧ f 4 = .int .i64 (k : Int)) (by simp; omega) ?_ ?_ ?_
  · simp only [rn0, rn1, rn2, reduceIte, Nat.reduceEqDiff, Nat.reduceAdd, Nat.reduceMul, Nat.reduceSub, Nat.reduceLeDiff, Nat.reduceLT, Int.natCast_zero]
    first | exact ⟨⟨nilS, fun i _ _ => trivial, by omega, Nat.le_refl _, Nat.le_refl _, .nil, q5⟩, rfl⟩ | exact ⟨nilS, fun i _ _ => trivial, by omega, Nat.le_refl _, Nat.le_refl _, .nil, q5⟩ | exact ⟨nilS, fun i _ _ => trivial, by omega, Nat.le_refl _, .nil, q5⟩
  · rintro k f g ms hk ⟨⟨X, og, fg, ug, ng, gv, qg⟩, rfl, p1, p2, p3, p4⟩
    have hk' : (k : Int) < (G.nk : Int) := by omega
    have hwk : wrapF .i64 ((k : Int) + 1) = ((k + 1 : Nat) : Int) := by rw [wrap_in (by omega) (by omega)]; rfl
    have oldg : ∀ i, i < h.next → g.get i = h.get i := fun i hi => by rw [og i (by omega) (by omega), old5h i hi]
    have hyg := hy.mono (AHeap.subOf oldg)
    have rg : Row g h.next (gaL G wv vv sv kv) := by
      obtain ⟨w, gr, e⟩ := r5
      exact ⟨w, gr, by rw [og _ (by omega) (by omega)]; exact e⟩
    simp only [rn0, rn1, rn2, reduceIte, Nat.reduceEqDiff, Nat.reduceAdd, Nat.reduceMul, Nat.reduceSub, Nat.reduceLeDiff, Nat.reduceLT, p1, p2, p3, p4, rg.ld, gag, Nat.zero_add, Cells.len hyg.k, hk', Cells.idx hyg.k hk, work_ld hyg hk]
    refine step_new (vs := woL G k) (by omega) (by omega) rfl (by simp only [rn0, rn1, rn2, reduceIte, Nat.reduceEqDiff, Nat.reduceAdd, Nat.reduceMul, Nat.reduceSub, Nat.reduceLeDiff, Nat.reduceLT]; rfl) rfl rfl rfl fun g6 hx6 => ?_
    have n6 := hx6.next
    have f6 := hx6.floor
    have q6 : g6.get B = some (.row (gaL G wa va sa X) true 0) := by rw [hx6.old _ (by omega)]; exact qg
    have rB : Row g6 B (gaL G wa va sa X) := ⟨_, _, q6⟩
    have r6 := hx6.row
    have gv6 := gv.sub hx6.sub
    simp only [rn0, rn1, rn2, reduceIte, Nat.reduceEqDiff, Nat.reduceAdd, Nat.reduceMul, Nat.reduceSub, Nat.reduceLeDiff, Nat.reduceLT, p1, p2, p3, p4, rB.ld, gaX, r6.ld, wog, Nat.zero_add, build_range, build_samp, sl_samp]
    refine step_slice (by omega) rfl fun g7 hx7 => ?_
    have n7 := hx7.next
    have f7 := hx7.floor
    obtain ⟨v', g8, e8, gv8, o8, n8, f8, old8, u8⟩ := grow_push (h := g6) (bytes := 24) gv6 (by omega) (by omega) (by omega) hx7 rfl rfl (fun j hj => by
      obtain rfl | rfl | rfl : j = 0 ∨ j = 1 ∨ j = 2 := by omega
      all_goals rfl) (by simp [maxBytes]; omega) (by simp [maxBytes]; omega)
    simp only [rn0, rn1, rn2, reduceIte, Nat.reduceEqDiff, Nat.reduceAdd, Nat.reduceMul, Nat.reduceSub, Nat.reduceLeDiff, Nat.reduceLT, p1, p2, p3, e8]
    refine step_store (b := B) (off := 9) (vs := [v']) rfl (by rw [old8 _ (by omega)]; exact q6) (by omega) (by omega) (cells1 o8) (by simp [allB, o8]) rfl (by simp [gaL]) fun g9 hs9 => ?_
    have es9 : splice (gaL G wa va sa X) 9 [v'] = gaL G wa va sa v' := rfl
    rw [es9] at hs9
    have n9 := hs9.next
    have f9 := hs9.floor
    simp only [rn0, rn1, rn2, reduceIte, Nat.reduceEqDiff, Nat.reduceAdd, Nat.reduceMul, Nat.reduceSub, Nat.reduceLeDiff, Nat.reduceLT, p1, p2, p3, p4, hwk]
    have fin : ∃ X, (∀ i, i < g5.next → i ≠ B → g9.get i = g5.get i) ∧ g9.floor = h.floor ∧ g5.next ≤ g9.next ∧ g9.next ≤ g5.next + 3 * (k + 1) ∧ GrowC g5.next g9 X 3 (k + 1) (workC G) ∧ g9.get B = some (.row (gaL G wa va sa X) true 0) := ⟨v', fun i hi hne => by rw [hs9.old i hne, old8 i (by omega), hx6.old i (by omega), og i hi hne], by omega, by omega, by omega, gv8.keep hs9.keep (by omega), hs9.get⟩
    first | exact fin | exact ⟨fin, rfl⟩
  · rintro f g ms ⟨⟨X, og, fg, ug, ng, gv, qg⟩, rfl, p1, p2, p3, p4⟩
    have oldg : ∀ i, i < h.next → g.get i = h.get i := fun i hi => by rw [og i (by omega) (by omega), old5h i hi]
    have hyg := hy.mono (AHeap.subOf oldg)
    have rg : Row g h.next (gaL G wv vv sv kv) := by
      obtain ⟨w, gr, e⟩ := r5
      exact ⟨w, gr, by rw [og _ (by omega) (by omega)]; exact e⟩
    have rB : Row g B (gaL G wa va sa X) := ⟨_, _, qg⟩
    have hone : allB oneCell (gaL G wa va sa X) = true := by simp [gaL, allB, one_int, Cells.one hy3.w, Cells.one hy3.v, Cells.one hy3.s, gv.one]
    simp only [rn0, rn1, rn2, reduceIte, Nat.reduceEqDiff, Nat.reduceAdd, Nat.reduceMul, Nat.reduceSub, Nat.reduceLeDiff, Nat.reduceLT, p1, p2, p3, p4, rg.ld, gag, Nat.zero_add, Cells.len hyg.k, Int.lt_irrefl, rB.whole (n := 10) rfl]
    refine step_store (b := g1.next) (off := 0) (vs := gaL G wa va sa X) rfl (by rw [og _ (by omega) (by omega)]; exact z5) (by omega) (by omega) rfl hone rfl (by simp [gaL, zgL]) fun g8 hs8 => ?_
    rw [splice_all (by rfl)] at hs8
    have n8 := hs8.next
    have f8 := hs8.floor
    have o8 : ∀ i, i < g3.next → i ≠ g1.next → g8.get i = g3.get i := fun i hi hne => by rw [hs8.old i hne, og i (by omega) (by omega), old5 i hi]
    simp only [rn0, rn1, rn2, reduceIte, Nat.reduceEqDiff, Nat.reduceAdd, Nat.reduceMul, Nat.reduceSub, Nat.reduceLeDiff, Nat.reduceLT, p2, res_cellN, hs8.row.whole (n := 10) rfl]
    have sep : ∀ {v : Value} {s m : Nat} {c : Nat → Nat → Value}, Cells g3 v s m c → (∀ x k q, v = .slice (some x) k q → g2.next ≤ x.block) → Cells g8 v s m c := fun {v s m c} hc hb => by
      obtain ⟨a, cap, rfl, hsp, h0 | ⟨b, o, cs, w, gr, rfl, h1, h2⟩⟩ := hc
      · exact ⟨a, cap, rfl, hsp, .inl h0⟩
      · have hb' : g2.next ≤ b := hb _ _ _ rfl
        have hlt : b < g3.next := AHeap.lt_of_get h1
        exact ⟨_, cap, rfl, hsp, .inr ⟨b, o, cs, w, gr, rfl, by rw [o8 b hlt (by omega)]; exact h1, h2⟩⟩
    refine ⟨wa, va, sa, X, rfl, ⟨⟨sep hy3.w bw3, sep hy3.v bv3, sep hy3.s bs3⟩, (gv.keep hs8.keep (by omega)).cells⟩, fun i hi => by rw [hs8.old i (by omega), oldg i hi], by omega, by omega, by omega⟩

def ThinG (G : MG) : Prop := (ThinS G.s ∧ G.nk ≤ 30) ∧ (faultG G = 0 → manyS G.s ≤ 200)
noncomputable instance (G : MG) : Decidable (ThinG G) := Classical.propDecidable _
def s22 : SCode := (.seq (.ops [⟨some 1, none, .box (T 0)⟩, ⟨some 2, none, .mov (.const (.bool false))⟩]) (.seq (.seq (.ops [⟨some 3, none, .fieldAddr 0 (T 1)⟩, ⟨some 4, none, .loadN 7 (T 3)⟩, ⟨some 5, none, .call (.func 71) [(T 4)]⟩, ⟨some 6, none, .not (T 5)⟩, ⟨some 7, none, .mov (T 6)⟩, ⟨some 8, (some (7, false)), .fieldAddr 9 (T 1)⟩, ⟨some 9, (some (7, false)), .load1 (T 8)⟩, ⟨some 10, (some (7, false)), .len (T 9)⟩, ⟨some 11, (some (7, false)), .int2 .gtr (T 10) (.const (.int .i64 30))⟩, ⟨some 12, none, .pick (T 7) (.const (.bool true)) (T 11)⟩]) (.cond (T 12) (.seq (.ops [⟨some 2, none, .mov (.const (.bool false))⟩]) .ret) .skip)) (.seq (.ops [⟨some 13, none, .loadN 10 (T 1)⟩, ⟨some 14, none, .call (.func 66) [(T 13)]⟩, ⟨some 15, none, .int2 .neq (T 14) (.const (.int .i64 0))⟩, ⟨some 16, none, .mov (T 15)⟩, ⟨some 17, (some (16, false)), .fieldAddr 0 (T 1)⟩, ⟨some 18, (some (16, false)), .loadN 7 (T 17)⟩, ⟨some 19, (some (16, false)), .call (.func 72) [(T 18)]⟩, ⟨some 20, (some (16, false)), .int2 .leq (T 19) (.const (.int .i64 200))⟩, ⟨some 21, none, .pick (T 16) (.const (.bool true)) (T 20)⟩, ⟨some 2, none, .mov (T 21)⟩]) .ret)))
theorem fok22 : FnOk Tryz.prog 22 22 s22 [.tmp 2] := ⟨Tryz.f22, _, Tryz.func22, rfl, Tryz.ntmps22, by kernel_rfl, by kernel_rfl⟩
theorem thinG_c (hn : 2400 ≤ n) (hr : h.next + 1000200 < far) {wv vv sv kv : Value} {G : MG} (hy : GangR h wv vv sv kv G) :
    call n (.func (.func 22) #[] #[]) [.agg ⟨gaL G wv vv sv kv⟩] h = some (.bool (decide (ThinG G)), h) := by
  obtain ⟨n, rfl⟩ : ∃ p, n = p + 1 := ⟨n - 1, by omega⟩
  refine call_plain0 fok22 rfl rfl (by simp) rfl ?_
  have hy := hy.shut
  have hr : h.shutAll.next + 1000200 < far := hr
  generalize h.shutAll = h at hy hr
  simp only [s22, W_seq, W_ops]
  refine ops_box (cs := gaL G wv vv sv kv) (by omega) rfl hy.one fun h1 hx => ?_
  have n1 := hx.next
  have hy := hy.mono hx.sub
  have r1 := hx.row
  have et := thin_c (n := n) (h := h1) (by omega) (by omega) hy.s
  by_cases hT : ThinS G.s
  case neg =>
    have : ¬ ThinG G := fun e => hT e.1.1
    simp only [rn0, rn1, rn2, reduceIte, Nat.reduceEqDiff, Nat.reduceAdd, Nat.reduceMul, Nat.reduceSub, Nat.reduceLeDiff, Nat.reduceLT, ga_st r1, et, hT, this]
  by_cases c1 : (30 : Int) < (G.nk : Int)
  · have : ¬ ThinG G := fun e => by have := e.1.2; omega
    simp only [rn0, rn1, rn2, reduceIte, Nat.reduceEqDiff, Nat.reduceAdd, Nat.reduceMul, Nat.reduceSub, Nat.reduceLeDiff, Nat.reduceLT, ga_st r1, et, hT, r1.ld, gag, Nat.zero_add, Cells.len hy.k, c1, this]
  have hl : G.nk ≤ 30 := by omega
  have ef := faultR_c (n := n) (h := h1) (by omega) (by omega) hy hT hl
  by_cases hf : faultG G = 0
  case neg =>
    have : ThinG G := ⟨⟨hT, hl⟩, fun e => absurd e hf⟩
    simp only [rn0, rn1, rn2, reduceIte, Nat.reduceEqDiff, Nat.reduceAdd, Nat.reduceMul, Nat.reduceSub, Nat.reduceLeDiff, Nat.reduceLT, ga_st r1, et, hT, r1.ld, gag, Nat.zero_add, Cells.len hy.k, c1, r1.whole (n := 10) rfl, ef, hf, this]
  have em := many_c (n := n) (h := h1) (by omega) (by omega) hy.s (goodG.1 hf).s.args ⟨hT.1, hT.2.1⟩
  by_cases c2 : manyS G.s ≤ 200
  · have : ThinG G := ⟨⟨hT, hl⟩, fun _ => c2⟩
    simp only [rn0, rn1, rn2, reduceIte, Nat.reduceEqDiff, Nat.reduceAdd, Nat.reduceMul, Nat.reduceSub, Nat.reduceLeDiff, Nat.reduceLT, ga_st r1, et, hT, r1.ld, gag, Nat.zero_add, Cells.len hy.k, c1, r1.whole (n := 10) rfl, ef, hf, em, c2, this]
  · have : ¬ ThinG G := fun e => c2 (e.2 hf)
    simp only [rn0, rn1, rn2, reduceIte, Nat.reduceEqDiff, Nat.reduceAdd, Nat.reduceMul, Nat.reduceSub, Nat.reduceLeDiff, Nat.reduceLT, ga_st r1, et, hT, r1.ld, gag, Nat.zero_add, Cells.len hy.k, c1, r1.whole (n := 10) rfl, ef, hf, em, c2, this]
def s28 : SCode := (.seq (.ops [⟨some 1, none, .box (T 0)⟩, ⟨some 2, none, .mov (.const (.int .i64 0))⟩]) (.seq (.ops [⟨some 3, none, .loadN 10 (T 1)⟩, ⟨some 4, none, .call (.func 66) [(T 3)]⟩, ⟨some 2, none, .mov (T 4)⟩]) .ret))
theorem fok28 : FnOk Tryz.prog 28 5 s28 [.tmp 2] := ⟨Tryz.f28, _, Tryz.func28, rfl, Tryz.ntmps28, by kernel_rfl, by kernel_rfl⟩
theorem faultLG_c (hn : 2400 ≤ n) (hr : h.next + 1000200 < far) {wv vv sv kv : Value} {G : MG} (hy : GangR h wv vv sv kv G) (hT : ThinS G.s) (hl : G.nk ≤ 30) :
    call n (.func (.func 28) #[] #[]) [.agg ⟨gaL G wv vv sv kv⟩] h = some (.int .i64 (faultG G), h) := by
  obtain ⟨n, rfl⟩ : ∃ p, n = p + 1 := ⟨n - 1, by omega⟩
  refine call_plain0 fok28 rfl rfl (by simp) rfl ?_
  have hy := hy.shut
  have hr : h.shutAll.next + 1000200 < far := hr
  generalize h.shutAll = h at hy hr
  simp only [s28, W_seq, W_ops]
  refine ops_box (cs := gaL G wv vv sv kv) (by omega) rfl hy.one fun h1 hx => ?_
  have n1 := hx.next
  have ef := faultR_c (n := n) (h := h1) (by omega) (by omega) (hy.mono hx.sub) hT hl
  simp only [rn0, rn1, rn2, reduceIte, Nat.reduceEqDiff, Nat.reduceAdd, Nat.reduceMul, Nat.reduceSub, Nat.reduceLeDiff, Nat.reduceLT, hx.row.whole (n := 10) rfl, ef]
noncomputable def planE (G : MG) (m : Nat) (p : Nat → Int) (b : Bool) : Int := if faultG G ≠ 0 then faultG G else if PlanOk G m p ∧ b = true then 0 else 2
def s29 : SCode := (.seq (.ops [⟨some 3, none, .box (T 0)⟩, ⟨some 6, none, .mov (.const (.int .i64 0))⟩]) (.seq (.seq (.ops [⟨some 8, none, .loadN 10 (T 3)⟩, ⟨some 9, none, .call (.func 28) [(T 8)]⟩, ⟨some 7, none, .mov (T 9)⟩]) (.seq (.ops [⟨some 10, none, .mov (T 7)⟩, ⟨some 11, none, .int2 .neq (T 10) (.const (.int .i64 0))⟩]) (.cond (T 11) (.seq (.ops [⟨some 12, none, .mov (T 7)⟩, ⟨some 6, none, .mov (T 12)⟩]) .ret) .skip))) (.seq (.seq (.ops [⟨some 13, none, .loadN 10 (T 3)⟩, ⟨some 14, none, .mov (T 1)⟩, ⟨some 15, none, .call (.func 43) [(T 13), (T 14)]⟩, ⟨some 16, none, .not (T 15)⟩, ⟨some 17, none, .mov (T 16)⟩, ⟨some 18, (some (17, false)), .mov (T 2)⟩, ⟨some 19, (some (17, false)), .not (T 18)⟩, ⟨some 20, none, .pick (T 17) (.const (.bool true)) (T 19)⟩]) (.cond (T 20) (.seq (.ops [⟨some 6, none, .mov (.const (.int .i64 2))⟩]) .ret) .skip)) (.seq (.ops [⟨some 6, none, .mov (.const (.int .i64 0))⟩]) .ret))))
theorem fok29 : FnOk Tryz.prog 29 21 s29 [.tmp 6] := ⟨Tryz.f29, _, Tryz.func29, rfl, Tryz.ntmps29, by kernel_rfl, by kernel_rfl⟩
theorem planned_c (hn : 2410 ≤ n) (hr : h.next + 1000300 < far) {wv vv sv kv lv : Value} {G : MG} {m : Nat} {p : Nat → Int} (hy : GangR h wv vv sv kv G) (hT : ThinS G.s) (hl : G.nk ≤ 30) (hp : Ints h lv m p) (hm : m ≤ 30) (b : Bool) :
    call n (.func (.func 29) #[] #[]) [.agg ⟨gaL G wv vv sv kv⟩, lv, .bool b] h = some (.int .i64 (planE G m p b), h) := by
  obtain ⟨n, rfl⟩ : ∃ p, n = p + 1 := ⟨n - 1, by omega⟩
  refine call_plain0 fok29 rfl rfl (by simp) rfl ?_
  have hy := hy.shut
  have hp := Cells.shut hp
  have hr : h.shutAll.next + 1000300 < far := hr
  generalize h.shutAll = h at hy hp hr
  simp only [s29, W_seq, W_ops]
  refine ops_box (cs := gaL G wv vv sv kv) (by omega) rfl hy.one fun h1 hx => ?_
  have n1 := hx.next
  have hy1 := hy.mono hx.sub
  have hp1 : Ints h1 lv m p := Cells.mono hp hx.sub
  have r1 := hx.row
  have ef := faultLG_c (n := n) (h := h1) (by omega) (by omega) hy1 hT hl
  by_cases hf : faultG G = 0
  case neg =>
    have e : planE G m p b = faultG G := if_pos hf
    simp only [rn0, rn1, rn2, reduceIte, Nat.reduceEqDiff, Nat.reduceAdd, Nat.reduceMul, Nat.reduceSub, Nat.reduceLeDiff, Nat.reduceLT, r1.whole (n := 10) rfl, ef, hf, e]
  have ei := isPlan_c (n := n) (h := h1) (by omega) (by omega) hy1 hp1 hm (by have := (goodG.1 hf).nk; omega)
  by_cases hP : PlanOk G m p
  case neg =>
    have e : planE G m p b = 2 := by rw [planE, if_neg (by simpa using hf), if_neg (fun e => hP e.1)]
    simp only [rn0, rn1, rn2, reduceIte, Nat.reduceEqDiff, Nat.reduceAdd, Nat.reduceMul, Nat.reduceSub, Nat.reduceLeDiff, Nat.reduceLT, r1.whole (n := 10) rfl, ef, hf, e, ei, hP]
  cases b
  · have e : planE G m p false = 2 := by rw [planE, if_neg (by simpa using hf), if_neg (fun e => nomatch e.2)]
    simp only [rn0, rn1, rn2, reduceIte, Nat.reduceEqDiff, Nat.reduceAdd, Nat.reduceMul, Nat.reduceSub, Nat.reduceLeDiff, Nat.reduceLT, r1.whole (n := 10) rfl, ef, hf, e, ei, hP]
  · have e : planE G m p true = 0 := by rw [planE, if_neg (by simpa using hf), if_pos ⟨hP, rfl⟩]
    simp only [rn0, rn1, rn2, reduceIte, Nat.reduceEqDiff, Nat.reduceAdd, Nat.reduceMul, Nat.reduceSub, Nat.reduceLeDiff, Nat.reduceLT, r1.whole (n := 10) rfl, ef, hf, e, ei, hP]
def s36 : SCode := (.seq (.ops [⟨some 4, none, .alloc [(.int .i64 0), (.int .i64 0)]⟩]) (.seq (.ops [⟨some 5, none, .mov (T 0)⟩, ⟨some 6, none, .mov (T 1)⟩, ⟨some 7, none, .build #[(0, 1), (1, 1)] [(.int .i64 0), (.int .i64 0)] [0, 1] [(T 5), (T 6)]⟩, ⟨none, none, .store 2 (T 4) (T 7)⟩]) .ret))
theorem fok36 : FnOk Tryz.prog 36 8 s36 [.cellN 4 2] := ⟨Tryz.f36, _, Tryz.func36, rfl, Tryz.ntmps36, by kernel_rfl, by kernel_rfl⟩
theorem betweenG_c (hn : 1 ≤ n) (hr : h.next + 2 < far) (lo hi : Int) : call n (.func (.func 36) #[] #[]) [.int .i64 lo, .int .i64 hi] h = some (.agg ⟨[.int .i64 lo, .int .i64 hi]⟩, h) := by
  obtain ⟨n, rfl⟩ : ∃ p, n = p + 1 := ⟨n - 1, by omega⟩
  refine call_plain0 fok36 rfl rfl (by simp) rfl ?_
  have hr : h.shutAll.next + 2 < far := hr
  have hfl : h.shutAll.floor ≤ h.shutAll.next := Nat.le_refl _
  generalize h.shutAll = h at hr hfl
  simp only [s36, W_seq, W_ops]
  refine ops_alloc (by omega) rfl fun h2 hx2 => ?_
  have n2 := hx2.next
  have f2 := hx2.floor
  simp only [rn0, rn1, rn2, reduceIte, Nat.reduceEqDiff, Nat.reduceAdd, Nat.reduceMul, Nat.reduceSub, Nat.reduceLeDiff, Nat.reduceLT, build_range]
  refine step_store (vs := [.int .i64 lo, .int .i64 hi]) rfl hx2.get (by omega) (by omega) rfl rfl rfl (by simp) fun h3 hs => ?_
  rw [splice2] at hs
  simp only [rn0, rn1, rn2, reduceIte, Nat.reduceEqDiff, Nat.reduceAdd, Nat.reduceMul, Nat.reduceSub, Nat.reduceLeDiff, Nat.reduceLT, hs.row.whole (n := 2) rfl]

theorem momOk {G : MG} {m : Nat} {p : Nat → Int} (hG : GoodG G) (hP : PlanOk G m p) : MomOk G G.nk (fun k => k) p := by
  obtain ⟨z0, z1, z4, z5, _⟩ := hG.sizes
  refine ⟨z4, fun k hk => ?_⟩
  have h1 := hP.2 k (by have := hP.1; omega)
  have h2 := (hG.begin hk).2
  exact ⟨hk, by omega, by omega⟩
theorem errPG_ok {G : MG} {m : Nat} {p : Nat → Int} (h : errPG G m p = 0) : GoodG G ∧ PlanOk G m p := by
  unfold errPG at h
  by_cases c : faultG G = 0
  · rw [if_neg (by simpa using c)] at h
    by_cases c2 : PlanOk G m p
    · exact ⟨goodG.1 c, c2⟩
    · rw [if_neg c2] at h; exact absurd h (by decide)
  · rw [if_pos c] at h; exact absurd h c
theorem ret_tt {a b : Nat} {f : Go.Vm.Fr} : resV f h [.tmp a, .tmp b] = some (.tuple ⟨[f a, f b]⟩) := id rfl
def ProveS (G : MG) (m : Nat) (p : Nat → Int) (d : Int) : Prop := errPG G m p = 0 ∧ SureW G G.nk (fun k => k) p ∧ doneS G p G.nk ≤ d
noncomputable instance (G : MG) (m : Nat) (p : Nat → Int) (d : Int) : Decidable (ProveS G m p d) := Classical.propDecidable _

theorem planE_true {G : MG} {m : Nat} {p : Nat → Int} : planE G m p true = errPG G m p := by
  unfold planE errPG
  by_cases c : faultG G = 0
  · rw [if_neg (by simpa using c)]
    by_cases c2 : PlanOk G m p
    · rw [if_pos ⟨c2, rfl⟩, if_neg (by simpa using c), if_pos c2]
    · rw [if_neg (fun e => c2 e.1), if_neg (by simpa using c), if_neg c2]
  · rw [if_pos c, if_pos c]
theorem bit_all {k i : Nat} (hi : i < k) : Bit (2 ^ k - 1) i := by
  unfold Bit
  have h1 : (2 ^ k - 1).testBit i = true := by rw [Nat.testBit_two_pow_sub_one]; exact decide_eq_true hi
  rw [Nat.testBit_eq_decide_div_mod_eq] at h1
  exact of_decide_eq_true h1
theorem awakeG {g : AHeap} (hn : 1 ≤ n) : call n (.func (.func 23) #[] #[]) [] g = some (.bool true, g) := awake_c hn


theorem men_same {G : MG} {p x : Nat → Int} {t : Nat} : ∀ k, k ≤ G.nk → menTo G p x (2 ^ G.nk - 1) (t : Int) k = shN G (fun k => k) p x k t
  | 0, _ => rfl
  | k + 1, hk => by
    rw [menTo, shN, men_same k (by omega)]
    have hb : Bit (2 ^ G.nk - 1) k := bit_all (by omega)
    by_cases c : p k < (t : Int) ∧ (t : Int) ≤ p k + x k
    · rw [if_pos ⟨hb, c⟩, if_pos c]
    · rw [if_neg (fun e => c e.2), if_neg c]
theorem over_same {G : MG} {p x : Nat → Int} : OverS G p x (2 ^ G.nk - 1) G.nk ↔ ¬ InT G (fun k => k) p x G.nk := by
  constructor
  · rintro ⟨i, hi, _, h1, h2⟩ hI
    rcases hI i hi with e | e
    · have e' : x i ≤ 0 := e
      omega
    · have e' : p i + x i ≤ G.close := e
      omega
  · intro hI
    apply Classical.byContradiction
    intro hno
    refine hI fun j hj => ?_
    by_cases c : x j ≤ 0
    · exact .inl c
    · by_cases c2 : p j + x j ≤ G.close
      · exact .inr c2
      · exact absurd ⟨j, hj, bit_all hj, by omega, by omega⟩ hno
theorem pow_small {G : MG} (hG : GoodG G) : 2 ^ G.nk - 1 ≤ 1000 := by
  have hk : G.nk ≤ 4 := hG.sizes.2.2.1
  have : 2 ^ G.nk ≤ 2 ^ 4 := Nat.pow_le_pow_right (by omega) hk
  omega
theorem plan_sm {G : MG} {m : Nat} {p : Nat → Int} (hG : GoodG G) (hP : PlanOk G m p) : SmI m p := fun i hi => by
  obtain ⟨e, hP⟩ := hP
  have h1 := hP i hi
  have h2 := (hG.begin (v := i) (by omega)).2
  have h3 := hG.sizes
  omega

noncomputable def busyE (G : MG) (m : Nat) (p : Nat → Int) : Int := if errPG G m p ≠ 0 then errPG G m p else if InT G (fun k => k) p G.khi G.nk then 0 else 9
def BusyG (h : AHeap) (G : MG) (m : Nat) (p : Nat → Int) (v : Value) (h' : AHeap) : Prop :=
  (∀ i, i < h.next → h'.get i = h.get i) ∧ h.next ≤ h'.next ∧ h'.next ≤ h.next + 500 ∧ h'.floor = h.floor ∧
    ((busyE G m p ≠ 0 ∧ v = .tuple ⟨[nilS, .int .i64 (busyE G m p)]⟩) ∨ (busyE G m p = 0 ∧ ∃ lv, v = .tuple ⟨[lv, .int .i64 0]⟩ ∧ Ranges h' lv (G.close.toNat + 1) (shN G (fun k => k) p G.klo G.nk) (shN G (fun k => k) p G.khi G.nk) ∧ oneCell lv = true))
theorem inT_klo {G : MG} {p : Nat → Int} {k : Nat} (hG : GoodG G) (hk : k ≤ G.nk) (hi : InT G (fun k => k) p G.khi k) : InT G (fun k => k) p G.klo k := fun j hj => by
  have h1 := (hG.works j (by omega)).2
  rcases hi j hj with e | e
  · left; have e' : G.khi j ≤ 0 := e; show G.klo j ≤ 0; omega
  · by_cases c : G.klo j ≤ 0
    · exact .inl c
    · right; have e' : p j + G.khi j ≤ G.close := e; show p j + G.klo j ≤ G.close; omega
theorem crew_self {wv vv sv kv : Value} {r : Nat} {G : MG} (hy : GangR h wv vv sv kv G) : eqV (.agg ⟨crL G wv vv sv kv (.map (some r))⟩) (.agg ⟨crL G wv vv sv kv (.map (some r))⟩) = true := by
  have hmm : eqCell (.map (some r)) (.map (some r)) = true := by simp [eqCell]
  simp [crL, eqV, eqCells, eqC_int, Cells.selfC hy.s.w, Cells.selfC hy.s.v, Cells.selfC hy.s.s, Cells.selfC hy.k, hmm]
def s34 : SCode := (.seq (.ops [⟨some 2, none, .box (T 0)⟩, ⟨some 4, none, .mov (.const (.slice none 0 0))⟩, ⟨some 5, none, .mov (.const (.int .i64 0))⟩]) (.seq (.ops [⟨some 16, none, .loadN 10 (T 2)⟩, ⟨some 17, none, .mov (T 1)⟩, ⟨some 18, none, .call (.func 76) [(T 16), (T 17)]⟩, ⟨some 15, none, .mov (T 18)⟩, ⟨some 19, none, .extract 0 (T 15)⟩, ⟨some 20, none, .extract 1 (T 15)⟩, ⟨some 21, none, .extract 2 (T 15)⟩, ⟨some 6, none, .alloc [(.int .i64 0), (.int .i64 0), (.slice none 0 0), (.int .i64 0), (.int .i64 0), (.slice none 0 0), (.slice none 0 0), (.int .i64 0), (.int .i64 0), (.slice none 0 0), (.map none)]⟩, ⟨none, none, .store 11 (T 6) (T 19)⟩, ⟨some 7, none, .mov (T 20)⟩, ⟨some 8, none, .mov (T 21)⟩]) (.seq (.seq (.ops [⟨some 22, none, .mov (T 8)⟩, ⟨some 23, none, .int2 .neq (T 22) (.const (.int .i64 0))⟩]) (.cond (T 23) (.seq (.ops [⟨some 24, none, .mov (T 8)⟩, ⟨some 4, none, .mov (.const (.slice none 0 0))⟩, ⟨some 5, none, .mov (T 24)⟩]) .ret) .skip)) (.seq (.draw [⟨.rd, ⟨some 26, none, .loadN 11 (T 6)⟩⟩, ⟨.free, ⟨some 27, none, .mov (T 7)⟩⟩, ⟨.free, ⟨some 28, none, .build #[(0, 1)] [.nilFunc] [0] [(.func 84)]⟩⟩, ⟨.free, ⟨some 29, none, .fieldAddr 0 (T 6)⟩⟩, ⟨.free, ⟨some 30, none, .fieldAddr 9 (T 29)⟩⟩, ⟨.rd1, ⟨some 31, none, .load1 (T 30)⟩⟩, ⟨.up, ⟨some 32, none, .call (.func 85) [(T 28), (T 31)]⟩⟩, ⟨.any, ⟨some 33, none, .call (.func 78) [(T 26), (T 27), (T 32)]⟩⟩, ⟨.free, ⟨some 25, none, .mov (T 33)⟩⟩, ⟨.free, ⟨some 34, none, .extract 0 (T 25)⟩⟩, ⟨.free, ⟨some 35, none, .extract 1 (T 25)⟩⟩, ⟨.any, ⟨some 9, none, .alloc [(.int .i64 0), (.int .i64 0), (.int .i64 0), (.int .i64 0), (.int .i64 0), (.int .i64 0), (.int .i64 0), (.int .i64 0), (.int .i64 0), (.int .i64 0)]⟩⟩, ⟨.any, ⟨none, none, .store 10 (T 9) (T 34)⟩⟩, ⟨.free, ⟨some 10, none, .mov (T 35)⟩⟩]) (.seq (.seq (.ops [⟨some 36, none, .mov (T 10)⟩, ⟨some 37, none, .not (T 36)⟩]) (.cond (T 37) (.seq (.ops [⟨some 4, none, .mov (.const (.slice none 0 0))⟩, ⟨some 5, none, .mov (.const (.int .i64 9))⟩]) .ret) .skip)) (.seq (.draw [⟨.rd, ⟨some 39, none, .loadN 11 (T 6)⟩⟩, ⟨.free, ⟨some 40, none, .mov (T 7)⟩⟩, ⟨.free, ⟨some 41, none, .build #[(0, 1)] [.nilFunc] [0] [(.func 86)]⟩⟩, ⟨.free, ⟨some 42, none, .fieldAddr 0 (T 6)⟩⟩, ⟨.free, ⟨some 43, none, .fieldAddr 9 (T 42)⟩⟩, ⟨.rd1, ⟨some 44, none, .load1 (T 43)⟩⟩, ⟨.up, ⟨some 45, none, .call (.func 85) [(T 41), (T 44)]⟩⟩, ⟨.any, ⟨some 46, none, .call (.func 78) [(T 39), (T 40), (T 45)]⟩⟩, ⟨.free, ⟨some 38, none, .mov (T 46)⟩⟩, ⟨.free, ⟨some 47, none, .extract 0 (T 38)⟩⟩, ⟨.free, ⟨some 48, none, .extract 1 (T 38)⟩⟩, ⟨.any, ⟨some 11, none, .alloc [(.int .i64 0), (.int .i64 0), (.int .i64 0), (.int .i64 0), (.int .i64 0), (.int .i64 0), (.int .i64 0), (.int .i64 0), (.int .i64 0), (.int .i64 0)]⟩⟩, ⟨.any, ⟨none, none, .store 10 (T 11) (T 47)⟩⟩, ⟨.free, ⟨some 12, none, .mov (T 48)⟩⟩]) (.seq (.ops [⟨some 13, none, .mov (.const (.slice none 0 0))⟩]) (.seq (.seq (.ops [⟨some 49, none, .fieldAddr 0 (T 6)⟩, ⟨some 50, none, .fieldAddr 8 (T 49)⟩, ⟨some 51, none, .load1 (T 50)⟩, ⟨some 52, none, .int2 .add (T 51) (.const (.int .i64 1))⟩, ⟨some 53, none, .mov (.const (.int .i64 0))⟩]) (.block 0 (.loop (.seq (.ops [⟨some 54, none, .int2 .lss (T 53) (T 52)⟩]) (.seq (.cond (T 54) .skip (.exit 0)) (.seq (.block 1 (.seq (.ops [⟨some 55, none, .mov (T 53)⟩, ⟨some 14, none, .mov (T 55)⟩]) (.draw [⟨.free, ⟨some 56, none, .mov (T 13)⟩⟩, ⟨.free, ⟨some 57, none, .mov (T 14)⟩⟩, ⟨.free, ⟨some 58, none, .idxArr 10 1 (T 11) (T 57)⟩⟩, ⟨.rd1, ⟨some 59, none, .load1 (T 58)⟩⟩, ⟨.free, ⟨some 60, none, .mov (T 14)⟩⟩, ⟨.free, ⟨some 61, none, .idxArr 10 1 (T 9) (T 60)⟩⟩, ⟨.rd1, ⟨some 62, none, .load1 (T 61)⟩⟩, ⟨.free, ⟨some 63, none, .build #[(0, 1), (1, 1)] [(.int .i64 0), (.int .i64 0)] [0, 1] [(T 59), (T 62)]⟩⟩, ⟨.any, ⟨some 64, none, .bslice 2 1 [(.int .i64 0), (.int .i64 0)] [0] [(T 63)]⟩⟩, ⟨.any, ⟨some 65, none, .append 2 16 (T 56) (T 64)⟩⟩, ⟨.free, ⟨some 13, none, .mov (T 65)⟩⟩]))) (.ops [⟨some 66, none, .int2 .add (T 53) (.const (.int .i64 1))⟩, ⟨some 53, none, .mov (T 66)⟩]))))))) (.seq (.ops [⟨some 67, none, .mov (T 13)⟩, ⟨some 4, none, .mov (T 67)⟩, ⟨some 5, none, .mov (.const (.int .i64 0))⟩]) .ret)))))))))
theorem fok34 : FnOk Tryz.prog 34 68 s34 [.tmp 4, .tmp 5] := ⟨Tryz.f34, _, Tryz.func34, rfl, Tryz.ntmps34, by kernel_rfl, by kernel_rfl⟩
set_option maxHeartbeats 2000000 in
theorem busyG_c (hn : 2540 ≤ n) (hr : h.next + 1500000 < far) (hfl : h.floor ≤ h.next) {wv vv sv kv lv : Value} {G : MG} {m : Nat} {p : Nat → Int} (hy : GangR h wv vv sv kv G) (hT : ThinS G.s) (hl : G.nk ≤ 30) (hp : Ints h lv m p) (hm30 : m ≤ 30) :
    ∃ v h', call n (.func (.func 34) #[] #[]) [.agg ⟨gaL G wv vv sv kv⟩, lv] h = some (v, h') ∧ BusyG h G m p v h' := by
  classical
  obtain ⟨n, rfl⟩ : ∃ p, n = p + 1 := ⟨n - 1, by omega⟩
  refine call_any0 fok34 rfl rfl (by simp) ?_
  simp only [s34, W_seq, W_ops]
  refine ops_box (cs := gaL G wv vv sv kv) (by omega) rfl hy.one fun g1 hx1 => ?_
  have n1 := hx1.next
  have f1 := hx1.floor
  have r1 := hx1.row
  have hy1 := hy.mono hx1.sub
  have hp1 : Ints g1 lv m p := Cells.mono hp hx1.sub
  obtain ⟨ov, g2, e2, o2, u2, m2, f2, hO⟩ := openPG_c (n := n) (h := g1) (by omega) (by omega) (by omega) hy1 hT hl hp1 hm30
  rcases hO with ⟨he, rfl⟩ | ⟨he, r, pv, rfl, hm2, hr2, hr2', hpv, hpo⟩
  · have e3 : busyE G m p = errPG G m p := if_pos he
    simp only [rn0, rn1, rn2, reduceIte, Nat.reduceEqDiff, Nat.reduceAdd, Nat.reduceMul, Nat.reduceSub, Nat.reduceLeDiff, Nat.reduceLT, r1.whole (n := 10) rfl, e2, ex30, ex31, ex32]
    refine step_new (vs := zcL) (by omega) (by omega) rfl (by simp only [rn0, rn1, rn2, reduceIte, Nat.reduceEqDiff, Nat.reduceAdd, Nat.reduceMul, Nat.reduceSub, Nat.reduceLeDiff, Nat.reduceLT]; rfl) rfl rfl rfl fun g4 hx4 => ?_
    have n4 := hx4.next
    have f4 := hx4.floor
    simp only [rn0, rn1, rn2, reduceIte, Nat.reduceEqDiff, Nat.reduceAdd, Nat.reduceMul, Nat.reduceSub, Nat.reduceLeDiff, Nat.reduceLT, he, ret_tt]
    exact ⟨fun i hi => by rw [hx4.old i (by omega), o2 i (by omega), hx1.old i hi], by omega, by omega, by omega, .inl ⟨by rw [e3]; exact he, by rw [e3]⟩⟩
  obtain ⟨hG, hP⟩ := errPG_ok he
  obtain ⟨z0, z1, z4, z5, _, _, zc0, zc9⟩ := hG.sizes
  have hy2 := hy1.mono (AHeap.subOf o2)
  simp only [rn0, rn1, rn2, reduceIte, Nat.reduceEqDiff, Nat.reduceAdd, Nat.reduceMul, Nat.reduceSub, Nat.reduceLeDiff, Nat.reduceLT, r1.whole (n := 10) rfl, e2, ex30, ex31, ex32]
  refine step_new (vs := crL G wv vv sv kv (.map (some r))) (by omega) (by omega) rfl (by simp only [rn0, rn1, rn2, reduceIte, Nat.reduceEqDiff, Nat.reduceAdd, Nat.reduceMul, Nat.reduceSub, Nat.reduceLeDiff, Nat.reduceLT]; rfl) (cr_one hy2 rfl) rfl rfl fun g4 hx4 => ?_
  have n4 := hx4.next
  have f4 := hx4.floor
  have r4 := hx4.row
  have o4 : ∀ i, i < h.next → g4.get i = h.get i := fun i hi => by rw [hx4.old i (by omega), o2 i (by omega), hx1.old i hi]
  have hy4 := hy2.mono hx4.sub
  have hp4 : Ranges g4 pv G.nk (fun k => (k : Int)) p := Cells.mono hpv hx4.sub
  have hM := momOk hG hP
  obtain ⟨A7, hA7⟩ : ∃ q, q = g2.next := ⟨_, rfl⟩
  rw [← hA7] at r4
  rw [← hA7]
  -- the most
  obtain ⟨hv, g5, e5, ih, oh, o5, u5, m5, f5⟩ := endHours_c (n := n) (h := g4) (by omega) (by omega) (by omega) hy4 (by omega) (high_h (by omega))
  have s45 : Sub All g4 g5 := AHeap.subOf o5
  have hy5 := hy4.mono s45
  have hp5 : Ranges g5 pv G.nk (fun k => (k : Int)) p := Cells.mono hp4 s45
  have ep := playW_c (n := n) (h := g5) (mv := .map (some r)) (by omega) (by omega) hy5 hG rfl hp5 hM ih (Nat.le_refl _) (khi_s hG)
  obtain ⟨a, ha⟩ : ∃ a : Nat → Int, a = fun t => if InT G (fun k => k) p G.khi G.nk then shN G (fun k => k) p G.khi G.nk t else 0 := ⟨_, rfl⟩
  rw [← ha] at ep
  have hkv : eqV kv kv = true := Cells.self hy4.k
  have hcs := crew_self (r := r) hy4
  simp only [rn0, rn1, rn2, reduceIte, Nat.reduceEqDiff, Nat.reduceAdd, Nat.reduceMul, Nat.reduceSub, Nat.reduceLeDiff, Nat.reduceLT]
  refine W_draw All ?_
  simp only [rn0, rn1, rn2, reduceIte, Nat.reduceEqDiff, Nat.reduceAdd, Nat.reduceMul, Nat.reduceSub, Nat.reduceLeDiff, Nat.reduceLT, r4.whole (n := 11) rfl, r4.ld, crg, Nat.zero_add, hcs, hkv, build_f1, e5, ep, ex0, ex1]
  first | refine ⟨u5, ?_⟩ | refine ⟨⟨u5, s45⟩, ?_⟩ | skip
  refine up_row (cs := arrN 10 fun _ => 0) (by omega) rfl rfl (fun _ _ => trivial) fun g6 hx6 => ?_
  have n6 := hx6.next
  have f6 := hx6.floor
  simp only [rn0, rn1, rn2, reduceIte, Nat.reduceEqDiff, Nat.reduceAdd, Nat.reduceMul, Nat.reduceSub, Nat.reduceLeDiff, Nat.reduceLT]
  refine up_store (b := g5.next) (off := 0) (vs := arrN 10 a) rfl hx6.get (by omega) (by omega) rfl arrN_one rfl (by simp [arrN_len]) (fun _ _ => trivial) fun g7 hs7 => ?_
  rw [splice_all (by simp [arrN_len])] at hs7
  have n7 := hs7.next
  have f7 := hs7.floor
  have r7 := hs7.row
  have o7 : ∀ i, i < g5.next → g7.get i = g5.get i := fun i hi => by rw [hs7.old i (by omega), hx6.old i hi]
  have o47 : ∀ i, i < g4.next → g7.get i = g4.get i := fun i hi => by rw [o7 i (by omega), o5 i hi]
  by_cases hI : InT G (fun k => k) p G.khi G.nk
  case neg =>
    have e3 : busyE G m p = 9 := by rw [busyE, if_neg (by simpa using he), if_neg hI]
    simp only [rn0, rn1, rn2, reduceIte, Nat.reduceEqDiff, Nat.reduceAdd, Nat.reduceMul, Nat.reduceSub, Nat.reduceLeDiff, Nat.reduceLT, hI, ret_tt]
    exact ⟨fun i hi => by rw [o47 i (by omega), o4 i hi], by omega, by omega, by omega, .inl ⟨by rw [e3]; decide, by rw [e3]⟩⟩
  have e3 : busyE G m p = 0 := by rw [busyE, if_neg (by simpa using he), if_pos hI]
  -- the least
  have s47 : Sub All g4 g7 := AHeap.subOf o47
  have hy7 := hy4.mono s47
  have hp7 : Ranges g7 pv G.nk (fun k => (k : Int)) p := Cells.mono hp4 s47
  have r47 := r4.mono s47
  obtain ⟨lov, g8, e8, il, ol, o8, u8, m8, f8⟩ := endHours_c (n := n) (h := g7) (by omega) (by omega) (by omega) hy7 (by omega) (low_h (by omega))
  have s78 : Sub All g7 g8 := AHeap.subOf o8
  have hy8 := hy7.mono s78
  have hp8 : Ranges g8 pv G.nk (fun k => (k : Int)) p := Cells.mono hp7 s78
  have ep8 := playW_c (n := n) (h := g8) (mv := .map (some r)) (by omega) (by omega) hy8 hG rfl hp8 hM il (Nat.le_refl _) (klo_s hG)
  obtain ⟨b, hb⟩ : ∃ b : Nat → Int, b = fun t => if InT G (fun k => k) p G.klo G.nk then shN G (fun k => k) p G.klo G.nk t else 0 := ⟨_, rfl⟩
  rw [← hb] at ep8
  obtain ⟨B9, hB9⟩ : ∃ q, q = g5.next := ⟨_, rfl⟩
  rw [← hB9] at r7
  rw [← hB9]
  simp only [rn0, rn1, rn2, reduceIte, Nat.reduceEqDiff, Nat.reduceAdd, Nat.reduceMul, Nat.reduceSub, Nat.reduceLeDiff, Nat.reduceLT, hI]
  refine W_draw All ?_
  simp only [rn0, rn1, rn2, reduceIte, Nat.reduceEqDiff, Nat.reduceAdd, Nat.reduceMul, Nat.reduceSub, Nat.reduceLeDiff, Nat.reduceLT, r47.whole (n := 11) rfl, r47.ld, crg, Nat.zero_add, hcs, hkv, build_f1, e8, ep8, ex0, ex1]
  first | refine ⟨u8, ?_⟩ | refine ⟨⟨u8, s78⟩, ?_⟩ | skip
  refine up_row (cs := arrN 10 fun _ => 0) (by omega) rfl rfl (fun _ _ => trivial) fun g9 hx9 => ?_
  have n9 := hx9.next
  have f9 := hx9.floor
  simp only [rn0, rn1, rn2, reduceIte, Nat.reduceEqDiff, Nat.reduceAdd, Nat.reduceMul, Nat.reduceSub, Nat.reduceLeDiff, Nat.reduceLT]
  refine up_store (b := g8.next) (off := 0) (vs := arrN 10 b) rfl hx9.get (by omega) (by omega) rfl arrN_one rfl (by simp [arrN_len]) (fun _ _ => trivial) fun g10 hs10 => ?_
  rw [splice_all (by simp [arrN_len])] at hs10
  have n10 := hs10.next
  have f10 := hs10.floor
  have r10 := hs10.row
  have o10 : ∀ i, i < g7.next → g10.get i = g7.get i := fun i hi => by rw [hs10.old i (by omega), hx9.old i (by omega), o8 i hi]
  have s710 : Sub All g7 g10 := AHeap.subOf o10
  have r4' := r47.mono s710
  have r9 := r7.mono s710
  have old10 : ∀ i, i < h.next → g10.get i = h.get i := fun i hi => by rw [o10 i (by omega), o47 i (by omega), o4 i hi]
  obtain ⟨B11, hB11⟩ : ∃ q, q = g8.next := ⟨_, rfl⟩
  rw [← hB11] at r10
  rw [← hB11]
  have hcl : ((G.close.toNat : Nat) : Int) = G.close := Int.toNat_of_nonneg zc0
  have hw : wrapF .i64 (G.close + 1) = ((G.close.toNat + 1 : Nat) : Int) := by rw [wrap_in (by omega) (by omega)]; omega
  simp only [rn0, rn1, rn2, reduceIte, Nat.reduceEqDiff, Nat.reduceAdd, Nat.reduceMul, Nat.reduceSub, Nat.reduceLeDiff, Nat.reduceLT, r4'.ld, crg, Nat.zero_add, hw]
  refine W_loop (G.close.toNat + 1) (fun k f g ms => (∃ v, (∀ i, i < g10.next → g.get i = g10.get i) ∧ g.floor = h.floor ∧ g10.next ≤ g.next ∧ g.next ≤ g10.next + 2 * k ∧ GrowC g10.next g v 2 k (fun k j => .int .i64 (if j = 0 then b k else a k)) ∧ f 13 = v) ∧ ms = [] ∧ f 9 = .pointer (some ⟨B9, 0, none⟩) ∧ f 11 = .pointer (some ⟨B11, 0, none⟩) ∧ f 52 = .int .i64 ((G.close.toNat + 1 : Nat) : Int) ∧ f 53 = .int .i64 (k : Int)) (by simp; omega) ?_ ?_ ?_
  · simp only [rn0, rn1, rn2, reduceIte, Nat.reduceEqDiff, Nat.reduceAdd, Nat.reduceMul, Nat.reduceSub, Nat.reduceLeDiff, Nat.reduceLT, Int.natCast_zero]
    first | exact ⟨⟨nilS, fun i _ => trivial, by omega, by omega, by omega, .nil, rfl⟩, rfl⟩ | exact ⟨nilS, fun i _ => trivial, by omega, by omega, by omega, .nil, rfl⟩ | exact ⟨nilS, fun i _ => trivial, by omega, by omega, .nil, rfl⟩
  · rintro k f g ms hk' ⟨⟨v, ho, hfg, hup, hnx, gv, p13⟩, rfl, p9, p11, p52, p53⟩
    have hi' : (k : Int) < ((G.close.toNat + 1 : Nat) : Int) := by omega
    have hwk : wrapF .i64 ((k : Int) + 1) = ((k + 1 : Nat) : Int) := by rw [wrap_in (by omega) (by omega)]; rfl
    have r9g := r9.mono (AHeap.subOf ho)
    have r10g := r10.mono (AHeap.subOf ho)
    have k10 : k < 10 := by omega
    simp only [rn0, rn1, rn2, reduceIte, Nat.reduceEqDiff, Nat.reduceAdd, Nat.reduceMul, Nat.reduceSub, Nat.reduceLeDiff, Nat.reduceLT, p9, p11, p13, p52, p53, hi']
    refine W_draw All ?_
    simp only [rn0, rn1, rn2, reduceIte, Nat.reduceEqDiff, Nat.reduceAdd, Nat.reduceMul, Nat.reduceSub, Nat.reduceLeDiff, Nat.reduceLT, p9, p11, p13, p52, p53, gv.cells.self, idxArr_p k10, Nat.zero_add, r9g.ld, r10g.ld, arrN_get k10, build_range, sl_range]
    refine up_slice (by omega) rfl (fun _ _ => trivial) fun g11 hx11 => ?_
    have n11 := hx11.next
    obtain ⟨v', g12, e12, gv12, o12, n12, f12, old12, u12⟩ := grow_push (h := g) (bytes := 16) gv (by omega) (by omega) (by omega) hx11 rfl rfl (fun j hj => by
      obtain rfl | rfl : j = 0 ∨ j = 1 := by omega
      all_goals rfl) (by simp [maxBytes]; omega) (by simp [maxBytes]; omega)
    simp only [rn0, rn1, rn2, reduceIte, Nat.reduceEqDiff, Nat.reduceAdd, Nat.reduceMul, Nat.reduceSub, Nat.reduceLeDiff, Nat.reduceLT, p9, p11, p13, p52, p53, e12]
    refine ⟨u12, ?_⟩
    simp only [rn0, rn1, rn2, reduceIte, Nat.reduceEqDiff, Nat.reduceAdd, Nat.reduceMul, Nat.reduceSub, Nat.reduceLeDiff, Nat.reduceLT, p9, p11, p13, p52, p53, hwk]
    first | exact ⟨⟨v', fun i hi => by rw [old12 i (by omega), ho i hi], by omega, by omega, by omega, gv12, rfl⟩, rfl⟩ | exact ⟨v', fun i hi => by rw [old12 i (by omega), ho i hi], by omega, by omega, by omega, gv12, rfl⟩
  rintro f g ms ⟨⟨v, ho, hfg, hup, hnx, gv, p13⟩, rfl, p9, p11, p52, p53⟩
  simp only [rn0, rn1, rn2, reduceIte, Nat.reduceEqDiff, Nat.reduceAdd, Nat.reduceMul, Nat.reduceSub, Nat.reduceLeDiff, Nat.reduceLT, p9, p11, p13, p52, p53, Int.lt_irrefl, ret_tt]
  refine ⟨fun i hi => by rw [ho i (by omega), old10 i hi], by omega, by omega, by omega, .inr ⟨e3, v, rfl, ?_, gv.one⟩⟩
  have ea : a = shN G (fun k => k) p G.khi G.nk := by rw [ha]; funext t; rw [if_pos hI]
  have eb : b = shN G (fun k => k) p G.klo G.nk := by rw [hb]; funext t; rw [if_pos (inT_klo hG (Nat.le_refl _) hI)]
  rw [← ea, ← eb]; exact gv.cells

theorem neq61 {N : Nat} {f : Go.Vm.Fr} {x y : Operand} {ty u : TypeId} {a0 a1 b0 b1 : Int} (hx : valN N f x = .agg ⟨[.int .i64 a0, .int .i64 a1]⟩) (hy : valN N f y = .agg ⟨[.int .i64 b0, .int .i64 b1]⟩) :
    plainF Tryz.prog N (.binOp .neq 61 x y u) ty f h = some (.bool (!(decide (a0 = b0 ∧ a1 = b1))), h) :=
  plainF_neqTwo hx hy (by kernel_rfl) (by rfl) (by kernel_rfl) (by decide) (by decide) rfl rfl (by rfl) (by rfl)
theorem klo_sm {G : MG} (hG : GoodG G) : SmI G.nk G.klo := fun i hi => by have := (hG.works i hi).2; omega
def s4 : SCode := (.seq (.ops [⟨some 2, none, .box (T 0)⟩, ⟨some 4, none, .mov (.const (.bool false))⟩]) (.seq (.seq (.ops [⟨some 9, none, .loadN 10 (T 2)⟩, ⟨some 10, none, .call (.func 22) [(T 9)]⟩, ⟨some 11, none, .not (T 10)⟩, ⟨some 12, none, .mov (T 11)⟩, ⟨some 13, (some (12, false)), .mov (T 1)⟩, ⟨some 14, (some (12, false)), .len (T 13)⟩, ⟨some 15, (some (12, false)), .int2 .gtr (T 14) (.const (.int .i64 30))⟩, ⟨some 16, none, .pick (T 12) (.const (.bool true)) (T 15)⟩]) (.cond (T 16) (.seq (.ops [⟨some 17, none, .call (.func 23) []⟩, ⟨some 4, none, .mov (T 17)⟩]) .ret) .skip)) (.seq (.ops [⟨some 19, none, .loadN 10 (T 2)⟩, ⟨some 20, none, .call (.func 25) [(T 19)]⟩, ⟨some 21, none, .mov (T 1)⟩, ⟨some 22, none, .call (.func 26) [(T 21)]⟩, ⟨some 23, none, .call (.func 34) [(T 20), (T 22)]⟩, ⟨some 18, none, .mov (T 23)⟩, ⟨some 24, none, .extract 0 (T 18)⟩, ⟨some 25, none, .extract 1 (T 18)⟩, ⟨some 5, none, .mov (T 24)⟩, ⟨some 6, none, .mov (T 25)⟩]) (.seq (.ops [⟨some 26, none, .loadN 10 (T 2)⟩, ⟨some 27, none, .mov (T 1)⟩, ⟨some 28, none, .call (.func 29) [(T 26), (T 27), (.const (.bool true))]⟩, ⟨some 7, none, .mov (T 28)⟩]) (.seq (.seq (.draw [⟨.free, ⟨some 29, none, .mov (T 7)⟩⟩, ⟨.free, ⟨some 30, none, .int2 .eql (T 29) (.const (.int .i64 0))⟩⟩, ⟨.free, ⟨some 31, none, .mov (T 30)⟩⟩, ⟨.rd, ⟨some 32, (some (31, true)), .loadN 10 (T 2)⟩⟩, ⟨.free, ⟨some 33, (some (31, true)), .mov (T 1)⟩⟩, ⟨.rd1, ⟨some 34, (some (31, true)), .loadN 10 (T 2)⟩⟩, ⟨.up, ⟨some 35, (some (31, true)), .call (.func 35) [(T 34)]⟩⟩, ⟨.rd, ⟨some 36, (some (31, true)), .loadN 10 (T 2)⟩⟩, ⟨.up, ⟨some 37, (some (31, true)), .call (.func 32) [(T 36)]⟩⟩, ⟨.any, ⟨some 38, (some (31, true)), .call (.func 31) [(T 32), (T 33), (T 35), (T 37)]⟩⟩, ⟨.free, ⟨some 39, none, .pick (T 31) (T 38) (.const (.bool false))⟩⟩]) (.cond (T 39) (.ops [⟨some 7, none, .mov (.const (.int .i64 9))⟩]) .skip)) (.seq (.seq (.ops [⟨some 40, none, .mov (T 7)⟩, ⟨some 41, none, .int2 .neq (T 40) (.const (.int .i64 0))⟩]) (.cond (T 41) (.seq (.ops [⟨some 42, none, .mov (T 6)⟩, ⟨some 43, none, .mov (T 7)⟩, ⟨some 44, none, .int2 .eql (T 42) (T 43)⟩, ⟨some 45, none, .mov (T 44)⟩, ⟨some 46, (some (45, true)), .mov (T 5)⟩, ⟨some 47, (some (45, true)), .len (T 46)⟩, ⟨some 48, (some (45, true)), .int2 .eql (T 47) (.const (.int .i64 0))⟩, ⟨some 49, none, .pick (T 45) (T 48) (.const (.bool false))⟩, ⟨some 50, none, .mov (T 49)⟩, ⟨some 51, (some (50, true)), .call (.func 23) []⟩, ⟨some 52, none, .pick (T 50) (T 51) (.const (.bool false))⟩, ⟨some 4, none, .mov (T 52)⟩]) .ret) .skip)) (.seq (.seq (.ops [⟨some 53, none, .mov (T 6)⟩, ⟨some 54, none, .int2 .neq (T 53) (.const (.int .i64 0))⟩, ⟨some 55, none, .mov (T 54)⟩, ⟨some 56, (some (55, false)), .mov (T 5)⟩, ⟨some 57, (some (55, false)), .len (T 56)⟩, ⟨some 58, (some (55, false)), .fieldAddr 8 (T 2)⟩, ⟨some 59, (some (55, false)), .load1 (T 58)⟩, ⟨some 60, (some (55, false)), .int2 .add (T 59) (.const (.int .i64 1))⟩, ⟨some 61, (some (55, false)), .int2 .neq (T 57) (T 60)⟩, ⟨some 62, none, .pick (T 55) (.const (.bool true)) (T 61)⟩]) (.cond (T 62) (.seq (.ops [⟨some 4, none, .mov (.const (.bool false))⟩]) .ret) .skip)) (.seq (.seq (.ops [⟨some 8, none, .mov (.const (.int .i64 0))⟩]) (.block 0 (.loop (.seq (.seq (.ops [⟨some 63, none, .mov (T 8)⟩, ⟨some 64, none, .fieldAddr 8 (T 2)⟩, ⟨some 65, none, .load1 (T 64)⟩, ⟨some 66, none, .int2 .leq (T 63) (T 65)⟩]) (.cond (T 66) .skip (.exit 0))) (.seq (.block 1 (.seq (.draw [⟨.free, ⟨some 69, none, .mov (T 5)⟩⟩, ⟨.free, ⟨some 70, none, .mov (T 8)⟩⟩, ⟨.free, ⟨some 71, none, .idxSl 2 (T 69) (T 70)⟩⟩, ⟨.rd, ⟨some 72, none, .loadN 2 (T 71)⟩⟩, ⟨.rd, ⟨some 73, none, .loadN 10 (T 2)⟩⟩, ⟨.free, ⟨some 74, none, .mov (T 1)⟩⟩, ⟨.rd1, ⟨some 75, none, .loadN 10 (T 2)⟩⟩, ⟨.up, ⟨some 76, none, .call (.func 37) [(T 75)]⟩⟩, ⟨.rd, ⟨some 77, none, .loadN 10 (T 2)⟩⟩, ⟨.up, ⟨some 78, none, .call (.func 32) [(T 77)]⟩⟩, ⟨.free, ⟨some 79, none, .mov (T 8)⟩⟩, ⟨.up, ⟨some 80, none, .call (.func 33) [(T 73), (T 74), (T 76), (T 78), (T 79)]⟩⟩, ⟨.rd, ⟨some 81, none, .loadN 10 (T 2)⟩⟩, ⟨.free, ⟨some 82, none, .mov (T 1)⟩⟩, ⟨.rd, ⟨some 83, none, .loadN 10 (T 2)⟩⟩, ⟨.up, ⟨some 84, none, .call (.func 35) [(T 83)]⟩⟩, ⟨.rd, ⟨some 85, none, .loadN 10 (T 2)⟩⟩, ⟨.up, ⟨some 86, none, .call (.func 32) [(T 85)]⟩⟩, ⟨.free, ⟨some 87, none, .mov (T 8)⟩⟩, ⟨.up, ⟨some 88, none, .call (.func 33) [(T 81), (T 82), (T 84), (T 86), (T 87)]⟩⟩, ⟨.up, ⟨some 89, none, .call (.func 36) [(T 80), (T 88)]⟩⟩, ⟨.free, ⟨some 90, none, .bin .neq (.binOp .neq 61 (T 72) (T 89) 61) 4 (T 72) (T 89)⟩⟩]) (.cond (T 90) (.seq (.ops [⟨some 4, none, .mov (.const (.bool false))⟩]) .ret) .skip))) (.ops [⟨some 67, none, .mov (T 8)⟩, ⟨some 68, none, .int2 .add (T 67) (.const (.int .i64 1))⟩, ⟨some 8, none, .mov (T 68)⟩])))))) (.seq (.ops [⟨some 91, none, .call (.func 23) []⟩, ⟨some 4, none, .mov (T 91)⟩]) .ret)))))))))
theorem fok4 : FnOk Tryz.prog 4 92 s4 [.tmp 4] := ⟨Tryz.f4, _, Tryz.func4, rfl, Tryz.ntmps4, by kernel_rfl, by kernel_rfl⟩
set_option maxHeartbeats 4000000 in
theorem lawBusy_c (hn : 3000 ≤ n) (hr : h.next + 3000000 < far) (hfl : h.floor ≤ h.next) {wv vv sv kv lv : Value} {G : MG} {m : Nat} {p : Nat → Int} (hy : GangR h wv vv sv kv G) (hp : Ints h lv m p) :
    ∃ v h', call n (.func (.func 4) #[] #[]) [.agg ⟨gaL G wv vv sv kv⟩, lv] h = some (v, h') ∧ v = .bool true := by
  classical
  obtain ⟨n, rfl⟩ : ∃ p, n = p + 1 := ⟨n - 1, by omega⟩
  refine call_any0 fok4 rfl rfl (by simp) ?_
  simp only [s4, W_seq, W_ops]
  refine ops_box (cs := gaL G wv vv sv kv) (by omega) rfl hy.one fun g1 hx1 => ?_
  have n1 := hx1.next
  have f1 := hx1.floor
  have r1 := hx1.row
  have hy1 := hy.mono hx1.sub
  have hp1 : Ints g1 lv m p := Cells.mono hp hx1.sub
  have haw : ∀ g : AHeap, call n (.func (.func 23) #[] #[]) [] g = some (.bool true, g) := fun g => awakeG (by omega)
  have et := thinG_c (n := n) (h := g1) (by omega) (by omega) hy1
  by_cases hT : ThinG G
  case neg =>
    simp only [rn0, rn1, rn2, reduceIte, Nat.reduceEqDiff, Nat.reduceAdd, Nat.reduceMul, Nat.reduceSub, Nat.reduceLeDiff, Nat.reduceLT, r1.whole (n := 10) rfl, et, decide_eq_false hT, haw]
  by_cases c1 : (30 : Int) < (m : Int)
  · simp only [rn0, rn1, rn2, reduceIte, Nat.reduceEqDiff, Nat.reduceAdd, Nat.reduceMul, Nat.reduceSub, Nat.reduceLeDiff, Nat.reduceLT, r1.whole (n := 10) rfl, et, decide_eq_true hT, Cells.len hp1, gt_iff_lt, c1, haw]
  have hm30 : m ≤ 30 := by omega
  obtain ⟨⟨hTs, hl⟩, hmany⟩ := id hT
  obtain ⟨wa, va, sa, ka, g2, e2, hy2, o2, u2, m2, f2⟩ := gangL_c (n := n) (h := g1) (by omega) (by omega) (by omega) hy1 hTs hl
  have s12 : Sub All g1 g2 := AHeap.subOf o2
  obtain ⟨la, g3, e3, hp3, oa, o3, u3, m3, f3⟩ := listG_c (n := n) (h := g2) (by omega) (by omega) (Cells.mono hp1 s12) hm30
  have s23 : Sub All g2 g3 := AHeap.subOf o3
  obtain ⟨ov, g5, e5, o5, u5, m5, f5, hO⟩ := busyG_c (n := n) (h := g3) (by omega) (by omega) (by omega) (hy2.mono s23) hTs hl hp3 hm30
  have s35 : Sub All g3 g5 := AHeap.subOf o5
  have s15 : Sub All g1 g5 := (s12.trans s23).trans s35
  have hy5 := hy1.mono s15
  have r5 := r1.mono s15
  have hp5 : Ints g5 lv m p := Cells.mono hp1 s15
  have e10 := planned_c (n := n) (h := g5) (by omega) (by omega) hy5 hTs hl hp5 hm30 true
  rw [planE_true] at e10
  by_cases he : errPG G m p = 0
  case neg =>
    have hpe : busyE G m p = errPG G m p := if_pos he
    rcases hO with ⟨h0, rfl⟩ | ⟨h0, _⟩
    case inr => exact absurd (hpe ▸ h0) he
    rw [hpe] at e5
    simp only [rn0, rn1, rn2, reduceIte, Nat.reduceEqDiff, Nat.reduceAdd, Nat.reduceMul, Nat.reduceSub, Nat.reduceLeDiff, Nat.reduceLT, r1.whole (n := 10) rfl, et, decide_eq_true hT, Cells.len hp1, gt_iff_lt, c1, e2, e3, e5, x_extract, ex0, ex1, r5.whole (n := 10) rfl, e10]
    refine W_draw All ?_
    simp only [rn0, rn1, rn2, reduceIte, Nat.reduceEqDiff, Nat.reduceAdd, Nat.reduceMul, Nat.reduceSub, Nat.reduceLeDiff, Nat.reduceLT, he, d_guard, dg_tt, dg_tf, dg_ft, dg_ff, dg_un, haw, len_slice, Int.natCast_zero]
  obtain ⟨hG, hP⟩ := errPG_ok he
  obtain ⟨z0, z1, z4, z5, _, _, zc0, zc9⟩ := hG.sizes
  obtain ⟨lo, g6, e6, il, ol, o6, u6, m6, f6⟩ := longest_c (n := n) (h := g5) (by omega) (by omega) (by omega) hy5 hl
  have s56 : Sub All g5 g6 := AHeap.subOf o6
  have hyc := hy5.mono s56
  have rc := r5.mono s56
  have hpc : Ints g6 lv m p := Cells.mono hp5 s56
  have e11 := every_c (n := n) (h := g6) (by omega) (by omega) hyc hl
  have e12 := over_c (n := n) (h := g6) (by omega) (by omega) hyc hG hpc il (by have := hP.1; omega) (Nat.le_refl _) (plan_sm hG hP) (khi_sm hG) (pow_small hG)
  by_cases hI : InT G (fun k => k) p G.khi G.nk
  case neg =>
    have hov := over_same.2 hI
    have hpe : busyE G m p = 9 := by rw [busyE, if_neg (by simpa using he), if_neg hI]
    rcases hO with ⟨h0, rfl⟩ | ⟨h0, _⟩
    case inr => rw [hpe] at h0; exact absurd h0 (by decide)
    rw [hpe] at e5
    simp only [rn0, rn1, rn2, reduceIte, Nat.reduceEqDiff, Nat.reduceAdd, Nat.reduceMul, Nat.reduceSub, Nat.reduceLeDiff, Nat.reduceLT, r1.whole (n := 10) rfl, et, decide_eq_true hT, Cells.len hp1, gt_iff_lt, c1, e2, e3, e5, x_extract, ex0, ex1, r5.whole (n := 10) rfl, e10]
    refine W_draw All ?_
    simp only [rn0, rn1, rn2, reduceIte, Nat.reduceEqDiff, Nat.reduceAdd, Nat.reduceMul, Nat.reduceSub, Nat.reduceLeDiff, Nat.reduceLT, he, d_guard, dg_tt, dg_tf, dg_ft, dg_ff, dg_un, r5.whole (n := 10) rfl, hy5.self, e6, rc.whole (n := 10) rfl, e11, e12, hov, haw, len_slice, Int.natCast_zero, (show ¬ (9 : Int) = 0 by decide)]
    exact ⟨⟨u6, s56⟩, s56⟩
  have hov : ¬ OverS G p G.khi (2 ^ G.nk - 1) G.nk := fun e => over_same.1 e hI
  have hpe : busyE G m p = 0 := by rw [busyE, if_neg (by simpa using he), if_pos hI]
  rcases hO with ⟨h0, rfl⟩ | ⟨_, li, rfl, hli, hlo⟩
  · exact absurd hpe h0
  have hlc : Ranges g6 li (G.close.toNat + 1) (shN G (fun k => k) p G.klo G.nk) (shN G (fun k => k) p G.khi G.nk) := Cells.mono hli s56
  have hcl : ((G.close.toNat : Nat) : Int) = G.close := Int.toNat_of_nonneg zc0
  have hwc : wrapF .i64 (G.close + 1) = ((G.close.toNat + 1 : Nat) : Int) := by rw [wrap_in (by omega) (by omega)]; omega
  simp only [rn0, rn1, rn2, reduceIte, Nat.reduceEqDiff, Nat.reduceAdd, Nat.reduceMul, Nat.reduceSub, Nat.reduceLeDiff, Nat.reduceLT, r1.whole (n := 10) rfl, et, decide_eq_true hT, Cells.len hp1, gt_iff_lt, c1, e2, e3, e5, x_extract, ex0, ex1, r5.whole (n := 10) rfl, e10]
  refine W_draw All ?_
  simp only [rn0, rn1, rn2, reduceIte, Nat.reduceEqDiff, Nat.reduceAdd, Nat.reduceMul, Nat.reduceSub, Nat.reduceLeDiff, Nat.reduceLT, he, d_guard, dg_tt, dg_tf, dg_ft, dg_ff, dg_un, r5.whole (n := 10) rfl, hy5.self, e6, rc.whole (n := 10) rfl, e11, e12, hov]
  refine ⟨⟨u6, s56⟩, s56, ?_⟩
  simp only [rn0, rn1, rn2, reduceIte, Nat.reduceEqDiff, Nat.reduceAdd, Nat.reduceMul, Nat.reduceSub, Nat.reduceLeDiff, Nat.reduceLT, Cells.len hlc, rc.ld, gag, Nat.zero_add, hwc]
  refine W_loop (G.close.toNat + 1) (fun k f g ms => ((∀ i, i < g6.next → g.get i = g6.get i) ∧ g6.next ≤ g.next ∧ g.next ≤ g6.next + 140 * k ∧ g.floor = g6.floor) ∧ ms = [] ∧ f 1 = lv ∧ f 2 = .pointer (some ⟨h.next, 0, none⟩) ∧ f 5 = li ∧ f 8 = .int .i64 (k : Int)) (by simp; omega) ?_ ?_ ?_
  · simp only [rn0, rn1, rn2, reduceIte, Nat.reduceEqDiff, Nat.reduceAdd, Nat.reduceMul, Nat.reduceSub, Nat.reduceLeDiff, Nat.reduceLT, Int.natCast_zero]
    first | exact fun _ _ => trivial | exact ⟨fun _ _ => trivial, Nat.le_refl _⟩ | exact ⟨⟨fun _ _ => trivial, Nat.le_refl _, Nat.le_refl _, rfl⟩, rfl⟩ | done
  · rintro k f g ms hk ⟨⟨og, ug, mg, fg⟩, rfl, p1, p2, p5, p8⟩
    have hk' : (k : Int) ≤ G.close := by omega
    have hwk : wrapF .i64 ((k : Int) + 1) = ((k + 1 : Nat) : Int) := by rw [wrap_in (by omega) (by omega)]; rfl
    have s6g : Sub All g6 g := AHeap.subOf og
    have hyg := hyc.mono s6g
    have rg := rc.mono s6g
    have hpg : Ints g lv m p := Cells.mono hpc s6g
    have hlg : Ranges g li (G.close.toNat + 1) (shN G (fun k => k) p G.klo G.nk) (shN G (fun k => k) p G.khi G.nk) := Cells.mono hlc s6g
    obtain ⟨sv', ga, ea, ia, oa', oga, uga, mga, fga⟩ := shortest_c (n := n) (h := g) (by omega) (by omega) (by omega) hyg hl
    have sga : Sub All g ga := AHeap.subOf oga
    have hya := hyg.mono sga
    have ra := rg.mono sga
    have hpa : Ints ga lv m p := Cells.mono hpg sga
    have eva := every_c (n := n) (h := ga) (by omega) (by omega) hya hl
    have ema := men_c (n := n) (h := ga) (by omega) (by omega) hya hG hpa ia (by have := hP.1; omega) (Nat.le_refl _) (plan_sm hG hP) (klo_sm hG) (pow_small hG) (k : Int)
    rw [men_same G.nk (Nat.le_refl _)] at ema
    obtain ⟨lv', gb, eb, ib, ob', ogb, ugb, mgb, fgb⟩ := longest_c (n := n) (h := ga) (by omega) (by omega) (by omega) hya hl
    have sgb : Sub All ga gb := AHeap.subOf ogb
    have hyb := hya.mono sgb
    have rb := ra.mono sgb
    have hpb : Ints gb lv m p := Cells.mono hpa sgb
    have evb := every_c (n := n) (h := gb) (by omega) (by omega) hyb hl
    have emb := men_c (n := n) (h := gb) (by omega) (by omega) hyb hG hpb ib (by have := hP.1; omega) (Nat.le_refl _) (plan_sm hG hP) (khi_sm hG) (pow_small hG) (k : Int)
    rw [men_same G.nk (Nat.le_refl _)] at emb
    have ebt := betweenG_c (n := n) (h := gb) (by omega) (by omega) (shN G (fun k => k) p G.klo G.nk k) (shN G (fun k => k) p G.khi G.nk k)
    have he := fun (f : Go.Vm.Fr) (e1 : f 72 = .agg ⟨[.int .i64 (shN G (fun k => k) p G.klo G.nk k), .int .i64 (shN G (fun k => k) p G.khi G.nk k)]⟩) (e2 : f 89 = .agg ⟨[.int .i64 (shN G (fun k => k) p G.klo G.nk k), .int .i64 (shN G (fun k => k) p G.khi G.nk k)]⟩) => neq61 (h := gb) (N := 92) (f := f) (x := T 72) (y := T 89) (ty := 4) (u := 61) (by rw [valN_tmp (by omega)]; exact e1) (by rw [valN_tmp (by omega)]; exact e2)
    simp only [rn0, rn1, rn2, reduceIte, Nat.reduceEqDiff, Nat.reduceAdd, Nat.reduceMul, Nat.reduceSub, Nat.reduceLeDiff, Nat.reduceLT, p1, p2, p5, p8, rg.ld, gag, Nat.zero_add, hk']
    refine W_draw All ?_
    simp only [rn0, rn1, rn2, reduceIte, Nat.reduceEqDiff, Nat.reduceAdd, Nat.reduceMul, Nat.reduceSub, Nat.reduceLeDiff, Nat.reduceLT, p1, p2, p5, p8, Cells.idx hlg hk, ranges_ld hlg hk, self_two, rg.whole (n := 10) rfl, hyg.self, ea, ra.whole (n := 10) rfl, eva, ema, eb, rb.whole (n := 10) rfl, evb, emb, ebt, x_binA, binA_neqAgg]
    have sg := sga.trans sgb
    refine ⟨⟨uga, sga⟩, sga, sga, ⟨by omega, sg⟩, sg, sg, sg, ?_⟩
    rw [he _ (by simp only [rn0, rn1, rn2, reduceIte, Nat.reduceEqDiff, Nat.reduceAdd, Nat.reduceMul, Nat.reduceSub, Nat.reduceLeDiff, Nat.reduceLT, p1, p2, p5, p8]) (by simp only [rn0, rn1, rn2, reduceIte, Nat.reduceEqDiff, Nat.reduceAdd, Nat.reduceMul, Nat.reduceSub, Nat.reduceLeDiff, p1, p2, p5, p8])]
    simp only [rn0, rn1, rn2, reduceIte, Nat.reduceEqDiff, Nat.reduceAdd, Nat.reduceMul, Nat.reduceSub, Nat.reduceLeDiff, Nat.reduceLT, p1, p2, p5, p8, hwk, and_self, decide_true]
    exact ⟨fun i hi => by rw [ogb i (by omega), oga i (by omega), og i hi], by omega, by omega, by omega⟩
  · rintro f g ms ⟨⟨og, ug, mg, fg⟩, rfl, p1, p2, p5, p8⟩
    have hk' : ¬ ((G.close.toNat + 1 : Nat) : Int) ≤ G.close := by omega
    have rg := rc.mono (AHeap.subOf og)
    simp only [rn0, rn1, rn2, reduceIte, Nat.reduceEqDiff, Nat.reduceAdd, Nat.reduceMul, Nat.reduceSub, Nat.reduceLeDiff, Nat.reduceLT, p1, p2, p5, p8, rg.ld, gag, Nat.zero_add, hk', haw]
end Go.Vm.St
