/- Texts of the proofs of this seat, put together: S4Grow, VmMapK3, S4V2b, S4Iter, S4Open, S4Prove, S4Prove2, S4OpenV, S4Kinds, S4Later, S4Bnds, S4Truths, S4Mem, S4Out, S4Verd, S4OpenH, S4RightP. -/
import Derived.Test.YtlkambpieajplaaGreatPt5

namespace Go.Vm.St
open Go.Proofs Go.Vm.Vat
set_option linter.unusedSimpArgs false
set_option linter.unusedVariables false
set_option maxRecDepth 10000
variable {n : Nat} {h : AHeap}
theorem p_conv16 {N : Nat} {f : Fr} {x : Operand} {ty : TypeId} : plainF Tryz.prog N (.convert 82 3 x) ty f h = run16 (plainF Tryz.prog N (.convert 82 3 x) ty f) (valN N f x) h := by
  unfold run16
  split
  · rename_i a e1
    unfold plainF
    have : allB (fun x => plainV (valN N f x)) (Op.convert 82 3 x).operands.toList = true := by simp [Op.operands, allB, e1, plainV, plainE, plainCell]
    rw [this]
    have e : pureRun Tryz.prog (execOp (valN N f) (bare (.convert 82 3 x) ty)) = some (.value (.int .i64 (IntKind.wrap .i64 a))) := by
      show pureRun Tryz.prog (convert 82 3 (valN N f x) >>= fun a => pure (Next.value a)) = _
      rw [pureRun_bind, e1]
      have hc : pureRun Tryz.prog (convert 82 3 (.int .u16 a)) = some (.int .i64 (IntKind.wrap .i64 a)) := by
        unfold convert
        rw [pureRun_bind, pr_under Tryz.underlying82, Option.bind_some, pureRun_bind, pr_under Tryz.underlying3]
        rfl
      rw [hc]; rfl
    rw [e]
    rfl
  · rfl
theorem wf16 {a : Int} (h : (Lit.int .u16 a).wf = true) : ∃ k : Nat, a = k ∧ k < 65536 := by
  simp only [Lit.wf, Bool.and_eq_true, decide_eq_true_eq] at h
  have h1 : (IntKind.u16).min = 0 := rfl
  have h2 : (IntKind.u16).max = 65535 := rfl
  rw [h1, h2] at h
  exact ⟨a.toNat, by omega, by omega⟩
theorem warm_next {S : MS} {u : Nat → Int} (hG : Good S) (hu : InU S u) {v : Nat} {h : Int} (hh : HourOk S v h) (hh' : HourOk S v (h + 1)) : warmS S u v h ≤ warmS S u v (h + 1) := by
  obtain ⟨h1, h2, h3, h4, h5, h6⟩ := hh.nat hG
  obtain ⟨g1, g2, g3, g4, g5, g6⟩ := hh'.nat hG
  unfold warmS
  rw [show (h + 1 - S.vb v + 1).toNat = (h - S.vb v + 1).toNat + 1 by omega]
  simp only [sumR]
  have := (hu.warm hG (i := (S.vb v).toNat + (h - S.vb v + 1).toNat) (by omega)).1
  omega
theorem blue_next {S : MS} {u : Nat → Int} (hG : Good S) (hu : InU S u) {v : Nat} {h : Int} (hh : HourOk S v h) (hh' : HourOk S v (h + 1)) : blueS S u v h ≤ blueS S u v (h + 1) := by
  obtain ⟨_, _, _, _, _, _, h7, h8, _⟩ := hG.sizes
  have := Int.mul_le_mul_of_nonneg_left (c := S.per) (warm_next hG hu hh hh') (by omega)
  unfold blueS
  omega
theorem kind_next {S : MS} {u : Nat → Int} (hG : Good S) (hu : InU S u) {v : Nat} {h : Int} (hh : HourOk S v h) (hh' : HourOk S v (h + 1)) : kindS S u v h ≤ kindS S u v (h + 1) := by
  have h1 := blue_next hG hu hh hh'
  have h2 := warm_next hG hu hh hh'
  unfold kindS
  repeat' split
  all_goals omega
theorem many_pos {S : MS} (hG : Good S) : 1 ≤ manyS S ∧ manyS S ≤ 2000 := by
  refine ⟨?_, hG.few⟩
  obtain ⟨b1, ⟨b2, b3⟩, b4, b5, b6, b7⟩ := hG.args.head
  have h2 := capN_bound (lo := S.wlo) (hi := S.whi) (n0 := S.sphi - S.splo + 1) (by omega) (by omega) S.nw fun k hk => (hG.args.warm k hk).2.1
  exact (capN_bound (lo := S.vlo) (hi := S.vhi) (n0 := capN (S.sphi - S.splo + 1) S.wlo S.whi S.nw) h2.1 h2.2 S.nv fun k hk => (hG.args.vat k hk).2.1.2.1).1
end Go.Vm.St

namespace Go.Vm
set_option linter.unusedSimpArgs false
set_option linter.unusedVariables false
variable {P : Program} {t : TypeId}
structure Three (P : Program) (t : TypeId) : Prop where
  ex : ∃ f0 f1 f2 : Field, P.underlying t = some (.struct #[f0, f1, f2]) ∧ f0.name ≠ "_" ∧ f1.name ≠ "_" ∧ f2.name ≠ "_" ∧ f0.offset = 0 ∧ f1.offset = 1 ∧ f2.offset = 2 ∧ P.underlying f0.type = some (.int .i64) ∧ P.underlying f1.type = some (.int .i64) ∧ P.underlying f2.type = some (.int .i64)
  held : P.stoodInHeld t = false
def key3 (p : Int × Int × Int) : Value := .agg ⟨[.int .i64 p.1, .int .i64 p.2.1, .int .i64 p.2.2]⟩
theorem pr_eqThree {d : Nat} {f0 f1 f2 : Field} {a0 a1 a2 b0 b1 b2 : Int} (ht : P.underlying t = some (.struct #[f0, f1, f2])) (hp : P.stoodInHeld t = false) (n0 : f0.name ≠ "_") (n1 : f1.name ≠ "_") (n2 : f2.name ≠ "_") (o0 : f0.offset = 0) (o1 : f1.offset = 1) (o2 : f2.offset = 2)
    (e0 : P.underlying f0.type = some (.int .i64)) (e1 : P.underlying f1.type = some (.int .i64)) (e2 : P.underlying f2.type = some (.int .i64)) :
    pureRun P (Op.equalIn (d + 2) t (.agg ⟨[.int .i64 a0, .int .i64 a1, .int .i64 a2]⟩) (.agg ⟨[.int .i64 b0, .int .i64 b1, .int .i64 b2]⟩)) = some (decide (a0 = b0 ∧ a1 = b1 ∧ a2 = b2)) := by
  have x0 : ∀ (p q r : Int), pureRun P (part f0.type ⟨[.int .i64 p, .int .i64 q, .int .i64 r]⟩ f0.offset) = some (.int .i64 p) := fun p q r => pr_part e0 (by rw [o0]; rfl)
  have x1 : ∀ (p q r : Int), pureRun P (part f1.type ⟨[.int .i64 p, .int .i64 q, .int .i64 r]⟩ f1.offset) = some (.int .i64 q) := fun p q r => pr_part e1 (by rw [o1]; rfl)
  have x2 : ∀ (p q r : Int), pureRun P (part f2.type ⟨[.int .i64 p, .int .i64 q, .int .i64 r]⟩ f2.offset) = some (.int .i64 r) := fun p q r => pr_part e2 (by rw [o2]; rfl)
  rw [Op.equalIn]
  simp only [pureRun_bind, pr_under ht, Option.bind_some, pr_program, hp, Bool.false_eq_true, if_false]
  rw [← Array.forIn_toList]
  simp only [List.forIn_cons, List.forIn_nil, pureRun_bind, n0, n1, n2, ne_eq, not_false_eq_true, if_true, x0, pr_eqInt e0, Option.bind_some]
  by_cases c0 : a0 = b0 <;> by_cases c1 : a1 = b1 <;> by_cases c2 : a2 = b2 <;> simp [c0, c1, c2, pr_pure, pureRun_bind, x1, x2, pr_eqInt e1, pr_eqInt e2]
theorem pr_checkThree {d : Nat} {b : Bool} {p : Int × Int × Int} (ht : Three P t) : pureRun P (Instr.checkKey b (d + 2) t (key3 p)) = some () := by
  obtain ⟨⟨f0, f1, f2, h0, n0, n1, n2, o0, o1, o2, e0, e1, e2⟩, _⟩ := ht
  have x0 : pureRun P (part f0.type ⟨[.int .i64 p.1, .int .i64 p.2.1, .int .i64 p.2.2]⟩ f0.offset) = some (.int .i64 p.1) := pr_part e0 (by rw [o0]; rfl)
  have x1 : pureRun P (part f1.type ⟨[.int .i64 p.1, .int .i64 p.2.1, .int .i64 p.2.2]⟩ f1.offset) = some (.int .i64 p.2.1) := pr_part e1 (by rw [o1]; rfl)
  have x2 : pureRun P (part f2.type ⟨[.int .i64 p.1, .int .i64 p.2.1, .int .i64 p.2.2]⟩ f2.offset) = some (.int .i64 p.2.2) := pr_part e2 (by rw [o2]; rfl)
  unfold key3
  rw [Instr.checkKey]
  simp only [pureRun_bind, pr_under h0, Option.bind_some]
  rw [← Array.forIn_toList]
  simp only [List.forIn_cons, List.forIn_nil, pureRun_bind, n0, n1, n2, ne_eq, not_false_eq_true, if_true, x0, x1, x2, pr_checkInt e0, pr_checkInt e1, pr_checkInt e2, Option.bind_some, pr_pure]
theorem keyOk3 (ht : Three P t) : KeyOk P t key3 := by
  have hc : ∀ (b : Bool) (p : Int × Int × Int), pureRun P (Instr.checkKey b 10000 t (key3 p)) = some () := fun b p => pr_checkThree ht
  obtain ⟨⟨f0, f1, f2, h0, n0, n1, n2, o0, o1, o2, e0, e1, e2⟩, hp⟩ := ht
  refine ⟨find_of hc (fun p q => ?_) h0, fun _ => rfl, fun p => ?_⟩
  · have : pureRun P (Op.equal t (key3 p) (key3 q)) = some (decide (p.1 = q.1 ∧ p.2.1 = q.2.1 ∧ p.2.2 = q.2.2)) := by
      unfold key3
      simp only [Op.equal, Op.maxDepth]
      exact pr_eqThree h0 hp n0 n1 n2 o0 o1 o2 e0 e1 e2
    rw [this]
    congr 1
    apply decide_eq_decide.2
    exact ⟨fun ⟨a, b, c⟩ => Prod.ext a (Prod.ext b c), fun h => by rw [h]; exact ⟨rfl, rfl, rfl⟩⟩
  · simp [key3, Instr.sameBits]
end Go.Vm

namespace Go.Vm.St
open Go.Proofs Go.Vm.Vat
set_option linter.unusedSimpArgs false
set_option linter.unusedVariables false
set_option maxRecDepth 10000
variable {n : Nat} {h : AHeap}
theorem unknownsB_c (hn : 110 ≤ n) (hr : h.next + 200 < far) (hfl : h.floor ≤ h.next) {wv vv sv tv : Value} {S : MS} (hy : SteepR h wv vv sv S) (ht : oneCell tv = true) (h6 : S.nw ≤ 6) (h4 : S.nv ≤ 4) {pb : Nat} :
    ∃ v h', call n (.func (.func 154) #[] #[]) [.agg ⟨wkL S wv vv sv tv⟩, .pointer (some ⟨pb, 0, none⟩)] h = some (v, h') ∧ Cells h' v 3 (numU S) (unkC S pb) ∧ oneCell v = true ∧ (∀ i, i < h.next → h'.get i = h.get i) ∧ h.next ≤ h'.next ∧ h'.next ≤ h.next + 40 ∧ h'.floor = h.floor ∧ (∀ a k c, v = .slice (some a) k c → h.next ≤ a.block) := by
  obtain ⟨n, rfl⟩ : ∃ p, n = p + 1 := ⟨n - 1, by omega⟩
  refine call_any0 fok154 rfl rfl (by simp) ?_
  simp only [s154, jO, jF, jR, jS, jU, jA, jK, W_seq, W_ops]
  refine ops_box (cs := wkL S wv vv sv tv) (by omega) rfl (wk_one hy ht) fun g1 hx1 => ?_
  have n1 := hx1.next
  have f1' := hx1.floor
  have r1 := hx1.row
  have hy1 := hy.mono hx1.sub
  have old1 := hx1.old
  simp only [rn0, reduceIte, Nat.reduceEqDiff, Nat.reduceAdd, Nat.reduceMul, Nat.reduceSub, Nat.reduceLeDiff, Nat.reduceLT, r1.ld, wkg, Nat.zero_add, Cells.len hy1.w]
  refine W_loop S.nw (fun k f g ms => (∃ v, (∀ i, i < g1.next → g.get i = g1.get i) ∧ g.floor = g1.floor ∧ g1.next ≤ g.next ∧ g.next ≤ g1.next + 3 * k ∧ GrowU S pb g1.next g v k ∧ f 5 = v) ∧ ms = [] ∧ f 1 = .pointer (some ⟨pb, 0, none⟩) ∧ f 2 = .pointer (some ⟨h.next, 0, none⟩) ∧ f 12 = wv ∧ f 13 = .int .i64 (S.nw : Int) ∧ f 14 = .int .i64 (k : Int)) (by simp; omega) ?_ ?_ ?_
  · simp only [rn0, reduceIte, Nat.reduceEqDiff, Nat.reduceAdd, Nat.reduceMul, Nat.reduceSub, Nat.reduceLeDiff, Nat.reduceLT]
    exact ⟨⟨_, fun i _ => trivial, by omega, .nil, rfl⟩, rfl⟩
  · rintro k f g ms hk ⟨⟨v, hs, hfg, hup, hnx, gv, f5⟩, rfl, f1, f2, f12, f13, f14⟩
    have hk' : (k : Int) < (S.nw : Int) := by omega
    have hw : wrapF .i64 ((k : Int) + 1) = ((k + 1 : Nat) : Int) := by rw [wrap_in (by omega) (by omega)]; rfl
    have hyg := hy1.mono (AHeap.subOf hs)
    have ha : adr S k = k := by unfold adr; rw [if_pos hk]
    have hlo : uLo S k = S.wlo k := by unfold uLo; rw [if_pos hk]
    have hhi : uHi S k = S.whi k := by unfold uHi; rw [if_pos hk]
    simp only [rn0, reduceIte, Nat.reduceEqDiff, Nat.reduceAdd, Nat.reduceMul, Nat.reduceSub, Nat.reduceLeDiff, Nat.reduceLT, f1, f2, f5, f12, f13, f14, hk', Cells.idx hyg.w hk, ranges_ld hyg.w hk]
    refine step_row (cs := [.int .i64 0, .int .i64 0]) (by omega) rfl rfl fun g2a hx2a => ?_
    have n2a := hx2a.next
    have f2a := hx2a.floor
    simp only [rn0, reduceIte, Nat.reduceEqDiff, Nat.reduceAdd, Nat.reduceMul, Nat.reduceSub, Nat.reduceLeDiff, Nat.reduceLT]
    refine step_store (b := g.next) (off := 0) (vs := [.int .i64 (S.wlo k), .int .i64 (S.whi k)]) rfl hx2a.get (by omega) (by omega) rfl rfl rfl (by simp) fun g2 hs2 => ?_
    have hx2 := new_set hx2a hs2 rfl
    have n2 := hx2.next
    have f2' := hx2.floor
    have w2 := hx2.row.whole (n := 2) rfl
    simp only [rn0, reduceIte, Nat.reduceEqDiff, Nat.reduceAdd, Nat.reduceMul, Nat.reduceSub, Nat.reduceLeDiff, Nat.reduceLT]
    refine W_draw All ?_
    simp only [rn0, reduceIte, Nat.reduceEqDiff, Nat.reduceAdd, Nat.reduceMul, Nat.reduceSub, Nat.reduceLeDiff, Nat.reduceLT, f1, f2, f5, f12, f13, f14, there_p, fieldAt_p, idxArr_p (l := 6) (k := k) (by omega), Nat.zero_add, w2, build_unk, sl_unk]
    refine up_slice (by omega) unk_one (fun _ _ => trivial) fun g3 hx3 => ?_
    have n3 := hx3.next
    have hx3' : New g2 g3 [.pointer (some ⟨pb, adr S k, none⟩), .int .i64 (uLo S k), .int .i64 (uHi S k)] 0 := by rw [ha, hlo, hhi]; exact hx3
    obtain ⟨v', g4, e4, gv4, n4, f4', old4⟩ := GrowU.push (h := g2) (gv.sub hx2.sub) (by omega) (by omega) (by omega) (by omega) hx3'
    simp only [rn0, reduceIte, Nat.reduceEqDiff, Nat.reduceAdd, Nat.reduceMul, Nat.reduceSub, Nat.reduceLeDiff, Nat.reduceLT, f1, f2, f12, f13, f14, e4, hw]
    exact ⟨by omega, v', fun i hi => by rw [old4 i hi, hx2.old i (by omega), hs i hi], by omega, by omega, by omega, gv4, rfl⟩
  rintro f g ms ⟨⟨v, hs, hfg, hup, hnx, gv, f5⟩, rfl, f1, f2, f12, f13, f14⟩
  have rg := r1.mono (AHeap.subOf hs)
  have ha : adr S S.nw = 6 := by unfold adr; rw [if_neg (Nat.lt_irrefl _), if_pos rfl]
  have hlo : uLo S S.nw = S.splo := by unfold uLo; rw [if_neg (Nat.lt_irrefl _), if_pos rfl]
  have hhi : uHi S S.nw = S.sphi := by unfold uHi; rw [if_neg (Nat.lt_irrefl _), if_pos rfl]
  simp only [rn0, reduceIte, Nat.reduceEqDiff, Nat.reduceAdd, Nat.reduceMul, Nat.reduceSub, Nat.reduceLeDiff, Nat.reduceLT, f1, f2, f5, f12, f13, f14, Int.lt_irrefl]
  refine W_draw All ?_
  simp only [rn0, reduceIte, Nat.reduceEqDiff, Nat.reduceAdd, Nat.reduceMul, Nat.reduceSub, Nat.reduceLeDiff, Nat.reduceLT, f1, f2, f5, there_p, fieldAt_p, Nat.zero_add, wk_rng rg, build_unk, sl_unk]
  refine up_slice (by omega) unk_one (fun _ _ => trivial) fun g3 hx3 => ?_
  have n3 := hx3.next
  have hx3' : New g g3 [.pointer (some ⟨pb, adr S S.nw, none⟩), .int .i64 (uLo S S.nw), .int .i64 (uHi S S.nw)] 0 := by rw [ha, hlo, hhi]; exact hx3
  obtain ⟨v', g4, e4, gv4, n4, f4', old4⟩ := GrowU.push (h := g) gv (by omega) (by omega) (by omega) (by omega) hx3'
  have hs4 : ∀ i, i < g1.next → g4.get i = g1.get i := fun i hi => by rw [old4 i hi, hs i hi]
  have rg4 := r1.mono (AHeap.subOf hs4)
  have hy4 := hy1.mono (AHeap.subOf hs4)
  simp only [rn0, reduceIte, Nat.reduceEqDiff, Nat.reduceAdd, Nat.reduceMul, Nat.reduceSub, Nat.reduceLeDiff, Nat.reduceLT, f1, f2, e4, rg4.ld, wkg, Nat.zero_add, Cells.len hy4.v]
  refine ⟨by omega, ?_⟩
  refine W_loop S.nv (fun k f g ms => (∃ v, (∀ i, i < g1.next → g.get i = g1.get i) ∧ g.floor = g1.floor ∧ g1.next ≤ g.next ∧ g.next ≤ g1.next + 20 + 3 * k ∧ GrowU S pb g1.next g v (S.nw + 1 + k) ∧ f 5 = v) ∧ ms = [] ∧ f 1 = .pointer (some ⟨pb, 0, none⟩) ∧ f 2 = .pointer (some ⟨h.next, 0, none⟩) ∧ f 42 = vv ∧ f 43 = .int .i64 (S.nv : Int) ∧ f 44 = .int .i64 (k : Int)) (by simp; omega) ?_ ?_ ?_
  · simp only [rn0, reduceIte, Nat.reduceEqDiff, Nat.reduceAdd, Nat.reduceMul, Nat.reduceSub, Nat.reduceLeDiff, Nat.reduceLT, f1, f2]
    exact ⟨⟨v', hs4, by omega, by omega, by omega, gv4, rfl⟩, rfl⟩
  · rintro k f g ms hk ⟨⟨v, hs, hfg, hup, hnx, gv, f5⟩, rfl, f1, f2, f42, f43, f44⟩
    have hk' : (k : Int) < (S.nv : Int) := by omega
    have hw : wrapF .i64 ((k : Int) + 1) = ((k + 1 : Nat) : Int) := by rw [wrap_in (by omega) (by omega)]; rfl
    have hyg := hy1.mono (AHeap.subOf hs)
    have q1 : ¬ S.nw + 1 + k < S.nw := by omega
    have q2 : ¬ S.nw + 1 + k = S.nw := by omega
    have q3 : S.nw + 1 + k - S.nw - 1 = k := by omega
    have ha : adr S (S.nw + 1 + k) = 7 + k := by unfold adr; rw [if_neg q1, if_neg q2, q3]
    have hlo : uLo S (S.nw + 1 + k) = S.vlo k := by unfold uLo; rw [if_neg q1, if_neg q2, q3]
    have hhi : uHi S (S.nw + 1 + k) = S.vhi k := by unfold uHi; rw [if_neg q1, if_neg q2, q3]
    simp only [rn0, reduceIte, Nat.reduceEqDiff, Nat.reduceAdd, Nat.reduceMul, Nat.reduceSub, Nat.reduceLeDiff, Nat.reduceLT, f1, f2, f5, f42, f43, f44, hk', Cells.idx hyg.v hk, vat_ld hyg hk]
    refine step_row (cs := [.int .i64 0, .int .i64 0, .int .i64 0, .int .i64 0]) (by omega) rfl rfl fun g2a hx2a => ?_
    have n2a := hx2a.next
    have f2a := hx2a.floor
    simp only [rn0, reduceIte, Nat.reduceEqDiff, Nat.reduceAdd, Nat.reduceMul, Nat.reduceSub, Nat.reduceLeDiff, Nat.reduceLT]
    refine step_store (b := g.next) (off := 0) (vs := [.int .i64 (S.vb k), .int .i64 (S.vlo k), .int .i64 (S.vhi k), .int .i64 (S.vn k)]) rfl hx2a.get (by omega) (by omega) rfl rfl rfl (by simp) fun g2 hs2 => ?_
    have hx2 := new_set hx2a hs2 rfl
    have n2 := hx2.next
    have f2' := hx2.floor
    simp only [rn0, reduceIte, Nat.reduceEqDiff, Nat.reduceAdd, Nat.reduceMul, Nat.reduceSub, Nat.reduceLeDiff, Nat.reduceLT]
    refine W_draw All ?_
    simp only [rn0, reduceIte, Nat.reduceEqDiff, Nat.reduceAdd, Nat.reduceMul, Nat.reduceSub, Nat.reduceLeDiff, Nat.reduceLT, f1, f2, f5, f42, f43, f44, there_p, fieldAt_p, idxArr_p (l := 4) (k := k) (by omega), Nat.zero_add, hx2.ldN 1 2 (by simp) (by simp), List.drop_succ_cons, List.drop_zero, List.take_succ_cons, List.take_zero, build_unk, sl_unk]
    refine up_slice (by omega) unk_one (fun _ _ => trivial) fun g3 hx3 => ?_
    have n3 := hx3.next
    have hx3' : New g2 g3 [.pointer (some ⟨pb, adr S (S.nw + 1 + k), none⟩), .int .i64 (uLo S (S.nw + 1 + k)), .int .i64 (uHi S (S.nw + 1 + k))] 0 := by rw [ha, hlo, hhi]; exact hx3
    obtain ⟨v', g4, e4, gv4, n4, f4', old4⟩ := GrowU.push (h := g2) (gv.sub hx2.sub) (by omega) (by omega) (by omega) (by omega) hx3'
    simp only [rn0, reduceIte, Nat.reduceEqDiff, Nat.reduceAdd, Nat.reduceMul, Nat.reduceSub, Nat.reduceLeDiff, Nat.reduceLT, f1, f2, f42, f43, f44, e4, hw]
    exact ⟨by omega, v', fun i hi => by rw [old4 i hi, hx2.old i (by omega), hs i hi], by omega, by omega, by omega, gv4, rfl⟩
  · rintro f g ms ⟨⟨v, hs, hfg, hup, hnx, gv, f5⟩, rfl, f1, f2, f42, f43, f44⟩
    simp only [rn0, reduceIte, Nat.reduceEqDiff, Nat.reduceAdd, Nat.reduceMul, Nat.reduceSub, Nat.reduceLeDiff, Nat.reduceLT, f1, f2, f5, f42, f43, f44, Int.lt_irrefl]
    exact ⟨gv.cells, gv.one, fun i hi => by rw [hs i (by omega), old1 i hi], by omega, by omega, by omega, fun a k c e => by have := (gv.block e).1; omega⟩

def OkU (S : MS) (i : Nat) (c : Nat → Int) : Prop := (∀ j, j < i → uLo S j ≤ c j ∧ c j ≤ uHi S j) ∧ ∀ j, numU S ≤ j → c j = 0
theorem enumB_pos {lo hi : Nat → Int} : ∀ (d i : Nat) (c : Nat → Int), (∀ k, i ≤ k → k < i + d → lo k ≤ hi k) → 1 ≤ (enumB lo hi d i c).length
  | 0, i, c, _ => by simp [enumB]
  | d + 1, i, c, hv => by
    have h0 := hv i (by omega) (by omega)
    simp only [enumB]
    obtain ⟨l, e⟩ := part_flat (fun (k : Nat) => enumB lo hi d (i + 1) fun j => if j = i then lo i + (k : Int) else c j) (k := 0) (m := (hi i - lo i + 1).toNat) (by omega)
    rw [e]
    have := enumB_pos (lo := lo) (hi := hi) d (i + 1) (fun j => if j = i then lo i + ((0 : Nat) : Int) else c j) fun k h1 h2 => hv k (by omega) (by omega)
    simp only [List.length_append]
    omega
section
variable {σ : Type} (Own : AHeap → Nat → Prop)
def Fr (g g' : AHeap) : Prop := ∀ q cs, Row g q cs → Own g q → Row g' q cs ∧ Own g' q
variable {Own}
theorem Fr.refl {g : AHeap} : Fr Own g g := fun _ _ h1 h2 => ⟨h1, h2⟩
theorem Fr.trans {g g1 g2 : AHeap} (h1 : Fr Own g g1) (h2 : Fr Own g1 g2) : Fr Own g g2 := fun q cs a b => by
  obtain ⟨a1, b1⟩ := h1 q cs a b
  exact h2 q cs a1 b1
def chooseV (pu py pb pc : Nat) : Value := .func (.func 155) ⟨[]⟩ ⟨[.pointer (some ⟨pu, 0, none⟩), .pointer (some ⟨py, 0, none⟩), .pointer (some ⟨pb, 0, none⟩), .pointer (some ⟨pc, 0, none⟩)]⟩
structure ItS (Own : AHeap → Nat → Prop) (S : MS) (pu py pb pc : Nat) (U yv : Value) (g : AHeap) : Prop where
  u : Row g pu [U]
  y : Row g py [yv]
  c : Row g pc [chooseV pu py pb pc]
  f : Cells g U 3 (numU S) (unkC S pb)
  ou : Own g pu
  oy : Own g py
  oc : Own g pc
  of : ∀ a k cap, U = .slice (some a) k cap → Own g a.block
theorem ItS.fr {S : MS} {pu py pb pc : Nat} {U yv : Value} {g g' : AHeap} (hi : ItS Own S pu py pb pc U yv g) (hf : Fr Own g g') : ItS Own S pu py pb pc U yv g' := by
  obtain ⟨a1, b1⟩ := hf _ _ hi.u hi.ou
  obtain ⟨a2, b2⟩ := hf _ _ hi.y hi.oy
  obtain ⟨a3, b3⟩ := hf _ _ hi.c hi.oc
  have h0 : 0 < numU S := by unfold numU; omega
  obtain ⟨a, cap, e, hsp, hz | ⟨b, o, cs, w, gr, e1, e2, e3⟩⟩ := hi.f
  · omega
  · subst e1
    obtain ⟨⟨w', gr', a4⟩, b4⟩ := hf b cs ⟨w, gr, e2⟩ (hi.of _ _ _ e)
    exact ⟨a1, a2, a3, ⟨_, cap, e, hsp, .inr ⟨b, o, cs, w', gr', rfl, a4, e3⟩⟩, b1, b2, b3, fun a' k c' e' => by rw [e] at e'; cases e'; exact b4⟩
def s155 : SCode := (.seq (.ops [jO 6 (.mov (.const (.bool false)))]) (.seq (.seq (.ops [jO 9 (.mov (T 0)), jO 10 (.load1 (T 1)), jO 11 (.len (T 10)), jO 12 (.int2 .eql (T 9) (T 11))]) (.cond (T 12) (.seq (.ops [jO 13 (.load1 (T 2)), jO 14 (.loadN 11 (T 3)), jO 15 (.call (T 13) [(T 14)]), jO 6 (.mov (T 15))]) .ret) .skip)) (.seq (.ops [jO 16 (.load1 (T 1)), jO 17 (.mov (T 0)), jO 18 (.idxSl 3 (T 16) (T 17)), jO 19 (.loadN 3 (T 18)), jO 7 (.alloc [(.pointer none), (.int .i64 0), (.int .i64 0)]), ⟨none, none, .store 3 (T 7) (T 19)⟩]) (.seq (.seq (.ops [jO 20 (.fieldAddr 1 (T 7)), jO 21 (.fieldAddr 0 (T 20)), jO 22 (.load1 (T 21)), jO 8 (.mov (T 22))]) (.block 0 (.loop (.seq (.seq (.ops [jO 23 (.mov (T 8)), jO 24 (.fieldAddr 1 (T 7)), jO 25 (.fieldAddr 1 (T 24)), jO 26 (.load1 (T 25)), jO 27 (.int2 .leq (T 23) (T 26))]) (.cond (T 27) .skip (.exit 0))) (.seq (.block 1 (.seq (.ops [jO 30 (.fieldAddr 0 (T 7)), jO 31 (.load1 (T 30)), jO 32 (.mov (T 8)), jO 33 (.there (T 31)), ⟨none, none, .store 1 (T 33) (T 32)⟩]) (.seq (.ops [jO 34 (.load1 (T 4)), jO 35 (.mov (T 0)), jO 36 (.int2 .add (T 35) (jK 1)), jO 37 (.call (T 34) [(T 36)]), jO 38 (.not (T 37))]) (.cond (T 38) (.seq (.ops [jO 6 (.mov (.const (.bool false)))]) .ret) .skip)))) (.ops [jO 28 (.mov (T 8)), jO 29 (.int2 .add (T 28) (jK 1)), jO 8 (.mov (T 29))])))))) (.seq (.ops [jO 6 (.mov (.const (.bool true)))]) .ret)))))
theorem fok155 : FnOk Tryz.prog 155 39 s155 [.tmp 6] := ⟨Tryz.f155, _, Tryz.func155, rfl, Tryz.ntmps155, by kernel_rfl, by kernel_rfl⟩
set_option maxHeartbeats 1000000 in
theorem choose_c (step : σ → (Nat → Int) → σ × Bool) (J : σ → AHeap → Prop) {S : MS} {pu py pb pc K N0 fl : Nat} {U yv : Value} (hG : Good S)
    (hOb : ∀ g q, Own g q → q ≠ pb) (hfl : fl ≤ pb) (hN : 200 ≤ N0)
    (hJs : ∀ s g g' cs, J s g → Set1 g g' pb cs 0 → J s g') (hJn : ∀ s g g' cs, J s g → New g g' cs 0 → J s g')
    (hOs : ∀ s g g' cs q, J s g → Set1 g g' pb cs 0 → Own g q → Own g' q) (hOn : ∀ s g g' cs q, J s g → New g g' cs 0 → Own g q → Own g' q)
    (hOf : ∀ s g g' cs, J s g → New g g' cs 0 → pb < g.next → Own g' g.next)
    (hY : ∀ n g s c, N0 ≤ n → ItS Own S pu py pb pc U yv g → g.get pb = some (.row (tarr S c) true 0) → OkU S (numU S) c → J s g → g.floor = fl → g.next + K < far →
      ∃ g', call n yv [.agg ⟨tarr S c⟩] g = some (.bool (step s c).2, g') ∧ J (step s c).1 g' ∧ Fr Own g g' ∧ g'.get pb = some (.row (tarr S c) true 0) ∧ g'.floor = fl ∧ g.next ≤ g'.next ∧ g'.next ≤ g.next + K) :
    ∀ (d i n : Nat) (g : AHeap) (s : σ) (c : Nat → Int), i + d = numU S → N0 + d + 1 ≤ n → ItS Own S pu py pb pc U yv g → g.get pb = some (.row (tarr S c) true 0) → OkU S i c → J s g → g.floor = fl → g.next + (K + d) * (enumB (uLo S) (uHi S) d i c).length < far →
      ∃ g', call n (chooseV pu py pb pc) [.int .i64 (i : Int)] g = some (.bool (runL step s (enumB (uLo S) (uHi S) d i c)).2, g') ∧ J (runL step s (enumB (uLo S) (uHi S) d i c)).1 g' ∧ Fr Own g g' ∧
        (∃ c', g'.get pb = some (.row (tarr S c') true 0) ∧ ∀ j, j < i ∨ i + d ≤ j → c' j = c j) ∧ g'.floor = fl ∧ g.next ≤ g'.next ∧ g'.next ≤ g.next + (K + d) * (enumB (uLo S) (uHi S) d i c).length := by
  obtain ⟨_, _, _, z6, z4, _⟩ := hG.sizes
  intro d
  induction d with
  | zero =>
    intro i n g s c hi' hn hit hb hok hj hfg hr
    obtain ⟨n, rfl⟩ : ∃ p, n = p + 1 := ⟨n - 1, by omega⟩
    simp only [enumB, List.length_singleton, Nat.mul_one, Nat.add_zero] at hr ⊢
    obtain ⟨g', e, q1, q2, q3, q4, q5, q6⟩ := hY n g s c (by omega) hit hb (show OkU S (numU S) c from (show i = numU S by omega) ▸ hok) hj hfg hr
    have hin : (i : Int) = (numU S : Int) := by omega
    have hbr : Row g pb (tarr S c) := ⟨_, _, hb⟩
    suffices hs : ∃ v g1, call (n + 1) (chooseV pu py pb pc) [.int .i64 (i : Int)] g = some (v, g1) ∧ v = .bool (step s c).2 ∧ g1 = g' by
      obtain ⟨v, g1, e1, rfl, rfl⟩ := hs
      have hrun : runL step s [c] = step s c := by
        simp only [runL]
        by_cases e : (step s c).2 = true
        · simp only [e, if_true]; exact (Prod.ext rfl e.symm)
        · simp only [e, Bool.false_eq_true, if_false]; exact (Prod.ext rfl (by simpa using (Bool.eq_false_iff.2 e).symm))
      rw [hrun]
      exact ⟨_, e1, q1, q2, ⟨c, q3, fun _ _ => rfl⟩, q4, q5, q6⟩
    refine call_any (xs := []) (ys := [.pointer (some ⟨pu, 0, none⟩), .pointer (some ⟨py, 0, none⟩), .pointer (some ⟨pb, 0, none⟩), .pointer (some ⟨pc, 0, none⟩)]) fok155 rfl rfl (by simp) ?_
    simp only [rn0, reduceIte, Nat.reduceEqDiff, Nat.reduceAdd, Nat.reduceMul, Nat.reduceSub, Nat.reduceLeDiff, Nat.reduceLT, s155, jO, jF, jR, jS, jU, jA, jK, List.cons_append, List.nil_append, hit.u.ld, hit.y.ld, hbr.whole tarr_len, Nat.zero_add, List.getElem?_cons_zero, List.getElem?_cons_succ, Cells.len hit.f, hin, e]
  | succ d ih =>
    intro i n g s c hi' hn hit hb hok hj hfg hr
    obtain ⟨n, rfl⟩ : ∃ p, n = p + 1 := ⟨n - 1, by omega⟩
    have hin : ¬ (i : Int) = (numU S : Int) := by omega
    have hk : i < numU S := by omega
    obtain ⟨v1, v2, v3⟩ := hG.u i hk
    have hpb := AHeap.lt_of_get hb
    suffices hs : ∃ v g1, call (n + 1) (chooseV pu py pb pc) [.int .i64 (i : Int)] g = some (v, g1) ∧ v = .bool (runL step s (enumB (uLo S) (uHi S) (d + 1) i c)).2 ∧ J (runL step s (enumB (uLo S) (uHi S) (d + 1) i c)).1 g1 ∧ Fr Own g g1 ∧
        (∃ c', g1.get pb = some (.row (tarr S c') true 0) ∧ ∀ j, j < i ∨ i + (d + 1) ≤ j → c' j = c j) ∧ g1.floor = fl ∧ g.next ≤ g1.next ∧ g1.next ≤ g.next + (K + (d + 1)) * (enumB (uLo S) (uHi S) (d + 1) i c).length by
      obtain ⟨v, g1, e1, rfl, h2⟩ := hs
      exact ⟨g1, e1, h2⟩
    have hpos := enumB_pos (lo := uLo S) (hi := uHi S) (d + 1) i c fun k h1 h2 => (hG.u k (by omega)).2.1
    refine call_any (xs := []) (ys := [.pointer (some ⟨pu, 0, none⟩), .pointer (some ⟨py, 0, none⟩), .pointer (some ⟨pb, 0, none⟩), .pointer (some ⟨pc, 0, none⟩)]) fok155 rfl rfl (by simp) ?_
    let part : Nat → List (Nat → Int) := fun k => enumB (uLo S) (uHi S) d (i + 1) fun j => if j = i then uLo S i + (k : Int) else c j
    have hen : enumB (uLo S) (uHi S) (d + 1) i c = (List.range (uHi S i - uLo S i + 1).toNat).flatMap part := rfl
    have hm : ((uHi S i - uLo S i + 1).toNat : Int) = uHi S i - uLo S i + 1 := Int.toNat_of_nonneg (by omega)
    rw [hen] at hr hpos ⊢
    generalize hmm : (uHi S i - uLo S i + 1).toNat = m at hm hr hpos
    obtain ⟨X, hX⟩ : ∃ X, X = K + d := ⟨_, rfl⟩
    have hmul : ∀ L, (K + (d + 1)) * L = X * L + L := fun L => by rw [hX, ← Nat.add_assoc, Nat.add_mul, Nat.one_mul]
    rw [hmul] at hr ⊢
    rw [← hX] at ih
    simp only [rn0, reduceIte, Nat.reduceEqDiff, Nat.reduceAdd, Nat.reduceMul, Nat.reduceSub, Nat.reduceLeDiff, Nat.reduceLT, s155, jO, jF, jR, jS, jU, jA, jK, List.cons_append, List.nil_append, hit.u.ld, Nat.zero_add, List.getElem?_cons_zero, List.getElem?_cons_succ, Cells.len hit.f, hin, Cells.idx hit.f hk, unk_ld hit.f hk]
    refine step_new (vs := [.pointer (some ⟨pb, adr S i, none⟩), .int .i64 (uLo S i), .int .i64 (uHi S i)]) (by omega) (by omega) rfl (by simp only [rn0, reduceIte, Nat.reduceEqDiff, Nat.reduceAdd, Nat.reduceMul, Nat.reduceSub, Nat.reduceLeDiff, Nat.reduceLT]; rfl) rfl rfl rfl fun g2 hx2 => ?_
    have n2 := hx2.next
    have f2 := hx2.floor
    have j2 := hJn s g g2 _ hj hx2
    have fr2 : Fr Own g g2 := fun q cs a b => ⟨a.mono hx2.sub, hOn s g g2 _ q hj hx2 b⟩
    have o2 : Own g2 g.next := hOf s g g2 _ hj hx2 hpb
    have it2 := hit.fr fr2
    have hb2 : g2.get pb = some (.row (tarr S c) true 0) := by rw [hx2.old _ hpb]; exact hb
    have rl2 : Row g2 g.next [.pointer (some ⟨pb, adr S i, none⟩), .int .i64 (uLo S i), .int .i64 (uHi S i)] := hx2.row
    have ha := adr_lt z6 z4 hk
    simp only [rn0, reduceIte, Nat.reduceEqDiff, Nat.reduceAdd, Nat.reduceMul, Nat.reduceSub, Nat.reduceLeDiff, Nat.reduceLT, rl2.ld, Nat.zero_add, List.getElem?_cons_zero, List.getElem?_cons_succ]
    refine W_loop m (fun k f g1 ms => (Fr Own g2 g1 ∧ (∃ c', g1.get pb = some (.row (tarr S c') true 0) ∧ ∀ j, j < i ∨ i + (d + 1) ≤ j → c' j = c j) ∧ J (runL step s ((List.range k).flatMap part)).1 g1 ∧ (runL step s ((List.range k).flatMap part)).2 = true ∧
      g1.floor = fl ∧ g2.next ≤ g1.next ∧ g1.next ≤ g2.next + X * ((List.range k).flatMap part).length) ∧ ms = [] ∧ f 0 = .int .i64 (i : Int) ∧ f 4 = .pointer (some ⟨pc, 0, none⟩) ∧ f 7 = .pointer (some ⟨g.next, 0, none⟩) ∧ f 8 = .int .i64 (uLo S i + (k : Int))) (by simp; omega) ?_ ?_ ?_
    · simp only [rn0, reduceIte, Nat.reduceEqDiff, Nat.reduceAdd, Nat.reduceMul, Nat.reduceSub, Nat.reduceLeDiff, Nat.reduceLT, Int.natCast_zero, Int.add_zero]
      simp only [List.range_zero, List.flatMap_nil, runL, List.length_nil, Nat.mul_zero, Nat.add_zero, Nat.le_refl, and_true]
      exact ⟨.refl, ⟨c, hb2, fun _ _ => rfl⟩, j2, trivial, by omega⟩
    · rintro k f g1 ms hkm ⟨⟨fr1, ⟨c', hb1, hc'⟩, hj1, hr1, hf1, hu1, hn1⟩, rfl, f0, f4, f7, f8⟩
      have hle : uLo S i + (k : Int) ≤ uHi S i := by omega
      have hlt := AHeap.lt_of_get hb1
      have it1 := it2.fr fr1
      obtain ⟨rl1, o1⟩ := fr1 _ _ rl2 o2
      obtain ⟨rest, hpart⟩ := part_flat part hkm
      have hlen : ((List.range m).flatMap part).length = ((List.range k).flatMap part).length + ((part k).length + rest.length) := by rw [hpart]; simp
      have hK : X * ((List.range m).flatMap part).length = X * ((List.range k).flatMap part).length + (X * (part k).length + X * rest.length) := by rw [hlen, Nat.mul_add, Nat.mul_add]
      simp only [rn0, reduceIte, Nat.reduceEqDiff, Nat.reduceAdd, Nat.reduceMul, Nat.reduceSub, Nat.reduceLeDiff, Nat.reduceLT, f0, f4, f7, f8, rl1.ld, Nat.zero_add, Nat.reduceAdd, List.getElem?_cons_zero, List.getElem?_cons_succ, hle, there_p]
      refine step_store (b := pb) (off := adr S i) (vs := [.int .i64 (uLo S i + (k : Int))]) rfl hb1 (by omega) (by omega) rfl rfl rfl (by rw [tarr_len]; simp; omega) fun g3 hs => ?_
      have hb3 := hs.get
      rw [tarr_set z6 z4 hk] at hb3
      have fr3 : Fr Own g1 g3 := fun q cs a b => ⟨a.keep hs.keep (hOb _ _ b), hOs _ g1 g3 _ q hj1 hs b⟩
      have it3 := it1.fr fr3
      have hw : wrapF .i64 ((i : Int) + 1) = ((i + 1 : Nat) : Int) := by rw [wrap_in (by unfold numU at hk; omega) (by unfold numU at hk; omega)]; rfl
      have hcg : enumB (uLo S) (uHi S) d (i + 1) (setU c' i (uLo S i + (k : Int))) = part k := enumB_congr d (i + 1) _ _ fun j hj => by
        by_cases e : j = i
        · simp [e, setU]
        · simp only [setU, e, if_false]; exact hc' j (by omega)
      have hnx := hs.next
      have hok2 : OkU S (i + 1) (setU c' i (uLo S i + (k : Int))) := by
        refine ⟨fun j hj => ?_, fun j hj => ?_⟩
        · by_cases e : j = i
          · subst e; simp only [setU, if_true]; omega
          · simp only [setU, e, if_false]; rw [hc' j (by omega)]; exact hok.1 j (by omega)
        · have e : ¬ j = i := by omega
          simp only [setU, e, if_false]; rw [hc' j (by omega)]; exact hok.2 j hj
      obtain ⟨g4, e, j4, fr4, ⟨c4, hb4, hc4⟩, fl4, u4, n4⟩ := ih (i + 1) n g3 _ _ (by omega) (by omega) it3 hb3 hok2 (hJs _ _ _ _ hj1 hs) (by rw [hs.floor, hf1]) (by rw [hcg]; omega)
      rw [hcg] at e j4 n4
      have hw2 : wrapF .i64 (uLo S i + (k : Int) + 1) = uLo S i + ((k + 1 : Nat) : Int) := by rw [wrap_in (by omega) (by omega)]; omega
      have hc4' : ∀ j, j < i ∨ i + (d + 1) ≤ j → c4 j = c j := fun j hj => by
        rw [hc4 j (by omega)]; simp only [setU]; rw [if_neg (by omega)]; exact hc' j hj
      have fr14 := fr1.trans (fr3.trans fr4)
      by_cases hq : (runL step (runL step s ((List.range k).flatMap part)).1 (part k)).2 = true
      · have hrun : runL step s ((List.range (k + 1)).flatMap part) = runL step (runL step s ((List.range k).flatMap part)).1 (part k) := by
          rw [List.range_succ, List.flatMap_append, runL_append, hr1, if_pos rfl]; simp
        have hl3 : ((List.range (k + 1)).flatMap part).length = ((List.range k).flatMap part).length + (part k).length := by rw [List.range_succ, List.flatMap_append, List.length_append]; simp
        rw [hq] at e
        simp only [rn0, reduceIte, Nat.reduceEqDiff, Nat.reduceAdd, Nat.reduceMul, Nat.reduceSub, Nat.reduceLeDiff, Nat.reduceLT, f0, f4, f7, f8, it3.c.ld, Nat.zero_add, List.getElem?_cons_zero, List.getElem?_cons_succ, hw, e, hw2]
        rw [hrun, hl3, Nat.mul_add]
        exact ⟨fr14, ⟨c4, hb4, hc4'⟩, j4, hq, fl4, by omega, by omega⟩
      · have hq' : (runL step (runL step s ((List.range k).flatMap part)).1 (part k)).2 = false := by simpa using hq
        have hrun : runL step s ((List.range m).flatMap part) = runL step (runL step s ((List.range k).flatMap part)).1 (part k) := by
          rw [hpart, runL_append, hr1, if_pos rfl, runL_append, hq', if_neg (by simp)]
        rw [hq'] at e
        simp only [rn0, reduceIte, Nat.reduceEqDiff, Nat.reduceAdd, Nat.reduceMul, Nat.reduceSub, Nat.reduceLeDiff, Nat.reduceLT, f0, f4, f7, f8, it3.c.ld, Nat.zero_add, List.getElem?_cons_zero, List.getElem?_cons_succ, hw, e]
        rw [hrun, hq']
        exact ⟨rfl, j4, fr2.trans fr14, ⟨c4, hb4, hc4'⟩, fl4, by omega, by omega⟩
    · rintro f g1 ms ⟨⟨fr1, ⟨c', hb1, hc'⟩, hj1, hr1, hf1, hu1, hn1⟩, rfl, f0, f4, f7, f8⟩
      have hle : ¬ uLo S i + (m : Int) ≤ uHi S i := by omega
      obtain ⟨rl1, o1⟩ := fr1 _ _ rl2 o2
      simp only [rn0, reduceIte, Nat.reduceEqDiff, Nat.reduceAdd, Nat.reduceMul, Nat.reduceSub, Nat.reduceLeDiff, Nat.reduceLT, f0, f4, f7, f8, rl1.ld, Nat.zero_add, Nat.reduceAdd, List.getElem?_cons_zero, List.getElem?_cons_succ, hle]
      exact ⟨by rw [hr1], hj1, fr2.trans fr1, ⟨c', hb1, hc'⟩, hf1, by omega, by omega⟩
def s153 : SCode := (.seq (.ops [jO 2 (.box (T 0))]) (.seq (.ops [jO 3 (.alloc [(.int .i64 0), (.int .i64 0), (.int .i64 0), (.int .i64 0), (.int .i64 0), (.int .i64 0), (.int .i64 0), (.int .i64 0), (.int .i64 0), (.int .i64 0), (.int .i64 0)])]) (.seq (.ops [jO 6 (.loadN 8 (T 1)), jO 7 (.call (.func 154) [(T 6), (T 3)]), jO 4 (.alloc [(.slice none 0 0)]), ⟨none, none, .store 1 (T 4) (T 7)⟩]) (.seq (.ops [jO 5 (.alloc [.nilFunc])]) (.seq (.ops [jO 8 (.mkfunc 155 [] [(T 4), (T 2), (T 3), (T 5)]), ⟨none, none, .store 1 (T 5) (T 8)⟩]) (.ops [jO 9 (.load1 (T 5)), jO 10 (.call (T 9) [(jK 0)])]))))))
theorem fok153 : FnOk Tryz.prog 153 11 s153 [] := ⟨Tryz.f153, _, Tryz.func153, rfl, Tryz.ntmps153, by kernel_rfl, by kernel_rfl⟩
set_option maxHeartbeats 1000000 in
theorem iter_c (step : σ → (Nat → Int) → σ × Bool) (J : σ → AHeap → Prop) {S : MS} {g : AHeap} {pw K N0 n : Nat} {wv vv sv tv yv : Value} (s : σ) (hG : Good S)
    (hw : Row g pw (wkL S wv vv sv tv)) (hy : SteepR g wv vv sv S) (ht : oneCell tv = true) (hyv : oneCell yv = true) (hfl : g.floor ≤ g.next) (hN : 200 ≤ N0) (hn : N0 + 20 ≤ n)
    (hOb : ∀ g' q, Own g' q → q ≠ g.next + 1)
    (hJs : ∀ s g1 g' cs, J s g1 → Set1 g1 g' (g.next + 1) cs 0 → J s g') (hJn : ∀ s g1 g' cs, J s g1 → New g1 g' cs 0 → J s g')
    (hOs : ∀ s g1 g' cs q, J s g1 → Set1 g1 g' (g.next + 1) cs 0 → Own g1 q → Own g' q) (hOn : ∀ s g1 g' cs q, J s g1 → New g1 g' cs 0 → Own g1 q → Own g' q)
    (hOf : ∀ s g1 g' cs, J s g1 → New g1 g' cs 0 → g.next + 1 < g1.next → Own g' g1.next)
    (hJ0 : ∀ g', (∀ i, i < g.next → g'.get i = g.get i) → g'.floor = g.floor → g.next + 2 ≤ g'.next → J s g' ∧ ∀ q, g.next ≤ q → q < g'.next → q ≠ g.next + 1 → Own g' q)
    (hY : ∀ n g1 s c pu py pc U, N0 ≤ n → ItS Own S pu py (g.next + 1) pc U yv g1 → g1.get (g.next + 1) = some (.row (tarr S c) true 0) → OkU S (numU S) c → J s g1 → g1.floor = g.floor → g1.next + K < far →
      ∃ g', call n yv [.agg ⟨tarr S c⟩] g1 = some (.bool (step s c).2, g') ∧ J (step s c).1 g' ∧ Fr Own g1 g' ∧ g'.get (g.next + 1) = some (.row (tarr S c) true 0) ∧ g'.floor = g.floor ∧ g1.next ≤ g'.next ∧ g'.next ≤ g1.next + K)
    (hr : g.next + 300 + (K + 11) * (enumB (uLo S) (uHi S) (numU S) 0 fun _ => 0).length < far) :
    ∃ v g', call n (.func (.func 153) ⟨[]⟩ ⟨[.pointer (some ⟨pw, 0, none⟩)]⟩) [yv] g = some (v, g') ∧ J (runL step s (enumB (uLo S) (uHi S) (numU S) 0 fun _ => 0)).1 g' ∧ g'.floor = g.floor ∧ g.next ≤ g'.next ∧ g'.next ≤ g.next + 300 + (K + 11) * (enumB (uLo S) (uHi S) (numU S) 0 fun _ => 0).length := by
  obtain ⟨n, rfl⟩ : ∃ p, n = p + 1 := ⟨n - 1, by omega⟩
  obtain ⟨_, _, _, z6, z4, _⟩ := hG.sizes
  have hnu : numU S ≤ 11 := by unfold numU; omega
  refine call_any (xs := []) (ys := [.pointer (some ⟨pw, 0, none⟩)]) fok153 rfl rfl (by simp) ?_
  simp only [s153, jO, jF, jR, jS, jU, jA, jK, List.cons_append, List.nil_append, W_seq, W_ops]
  refine ops_box (cs := [yv]) (by omega) (by simp only [rn0, reduceIte, Nat.reduceEqDiff, Nat.reduceAdd, Nat.reduceMul, Nat.reduceSub, Nat.reduceLeDiff, Nat.reduceLT]; cases yv <;> first | rfl | cases hyv) (by simp [allB, hyv]) fun g1 hx1 => ?_
  have n1 := hx1.next
  have f1 := hx1.floor
  simp only [rn0, reduceIte, Nat.reduceEqDiff, Nat.reduceAdd, Nat.reduceMul, Nat.reduceSub, Nat.reduceLeDiff, Nat.reduceLT]
  refine step_row (cs := tarr S fun _ => 0) (by omega) (by simp [tarr, List.range_succ, cellU]) tarr_one fun g2 hx2 => ?_
  have n2 := hx2.next
  have f2 := hx2.floor
  have hpw : pw < g.next := by obtain ⟨w, gr, e⟩ := hw; exact AHeap.lt_of_get e
  have e1 : g1.next = g.next + 1 := n1
  have e2 : g2.next = g.next + 2 := by omega
  have sub2 : Sub All g g2 := hx1.sub.trans hx2.sub
  obtain ⟨U, g3, eU, cU, oU, oldU, uU, mU, fU, bU⟩ := unknownsB_c (n := n) (h := g2) (by omega) (by omega) (by omega) (hy.mono sub2) ht z6 z4 (pb := g.next + 1)
  simp only [rn0, reduceIte, Nat.reduceEqDiff, Nat.reduceAdd, Nat.reduceMul, Nat.reduceSub, Nat.reduceLeDiff, Nat.reduceLT, (hw.mono sub2).whole (n := 8) rfl, e1, eU]
  refine step_new (vs := [U]) (by omega) (by omega) rfl (by simp only [rn0, reduceIte, Nat.reduceEqDiff, Nat.reduceAdd, Nat.reduceMul, Nat.reduceSub, Nat.reduceLeDiff, Nat.reduceLT]; exact cells1 oU) (by simp [allB, oU]) rfl rfl fun g4 hx4 => ?_
  have n4 := hx4.next
  have f4 := hx4.floor
  simp only [rn0, reduceIte, Nat.reduceEqDiff, Nat.reduceAdd, Nat.reduceMul, Nat.reduceSub, Nat.reduceLeDiff, Nat.reduceLT]
  refine step_row (cs := [.nilFunc]) (by omega) rfl rfl fun g5 hx5 => ?_
  have n5 := hx5.next
  have f5 := hx5.floor
  simp only [rn0, reduceIte, Nat.reduceEqDiff, Nat.reduceAdd, Nat.reduceMul, Nat.reduceSub, Nat.reduceLeDiff, Nat.reduceLT]
  refine step_store (b := g4.next) (gr := 0) (vs := [chooseV g3.next g.next (g.next + 1) g4.next]) rfl hx5.get (by omega) (by omega) rfl rfl rfl (by simp) fun g6 hs => ?_
  have n6 := hs.next
  have f6 := hs.floor
  have es : splice [Value.nilFunc] 0 [chooseV g3.next g.next (g.next + 1) g4.next] = [chooseV g3.next g.next (g.next + 1) g4.next] := rfl
  rw [es] at hs
  have hs6 : ∀ i, i < g4.next → g6.get i = g4.get i := fun i hi => by rw [hs.old i (by omega), hx5.old i hi]
  have hs63 : ∀ i, i < g3.next → g6.get i = g3.get i := fun i hi => by rw [hs6 i (by omega), hx4.old i hi]
  have hs62 : ∀ i, i < g2.next → g6.get i = g2.get i := fun i hi => by rw [hs63 i (by omega), oldU i hi]
  have hb6 : g6.get (g.next + 1) = some (.row (tarr S fun _ => 0) true 0) := by
    rw [hs62 _ (by omega)]; have := hx2.get; rw [e1] at this; exact this
  have hy6 : Row g6 g.next [yv] := ⟨true, 0, by rw [hs62 _ (by omega), hx2.old _ (by omega)]; exact hx1.get⟩
  have hold : ∀ i, i < g.next → g6.get i = g.get i := fun i hi => by rw [hs62 i (by omega), hx2.old i (by omega), hx1.old i hi]
  obtain ⟨j6, o6⟩ := hJ0 g6 hold (by omega) (by omega)
  have hU6 : Cells g6 U 3 (numU S) (unkC S (g.next + 1)) := Cells.mono cU (AHeap.subOf hs63)
  have h0 : 0 < numU S := by unfold numU; omega
  have hUb : ∀ a k cap, U = .slice (some a) k cap → g2.next ≤ a.block ∧ a.block < g3.next := fun a k cap e => by
    refine ⟨bU a k cap e, ?_⟩
    obtain ⟨a', c', e', _, hz | ⟨b, o, cs, w, gr, e2, e3, _⟩⟩ := cU
    · omega
    · rw [e] at e'
      cases e'
      cases e2
      exact AHeap.lt_of_get e3
  have hit : ItS Own S g3.next g.next (g.next + 1) g4.next U yv g6 := by
    refine ⟨⟨true, 0, by rw [hs6 _ (by omega)]; exact hx4.get⟩, hy6, ⟨true, 0, hs.get⟩, hU6, o6 _ (by omega) (by omega) (by omega), o6 _ (by omega) (by omega) (by omega), o6 _ (by omega) (by omega) (by omega), fun a k cap e => ?_⟩
    obtain ⟨q1, q2⟩ := hUb a k cap e
    exact o6 _ (by omega) (by omega) (by omega)
  have hle : (K + numU S) * (enumB (uLo S) (uHi S) (numU S) 0 fun _ => 0).length ≤ (K + 11) * (enumB (uLo S) (uHi S) (numU S) 0 fun _ => 0).length := Nat.mul_le_mul_right _ (by omega)
  have hch := choose_c step J (S := S) (pu := g3.next) (py := g.next) (pb := g.next + 1) (pc := g4.next) (K := K) (N0 := N0) (fl := g.floor) (U := U) (yv := yv) hG hOb (by omega) hN hJs hJn hOs hOn hOf (fun n g1 s c h1 h2 h3 h4 h5 h6 h7 => hY n g1 s c _ _ _ _ h1 h2 h3 h4 h5 h6 h7) (numU S) 0 n g6 s (fun _ => 0) (by omega) (by omega) hit hb6 ⟨fun j hj => by omega, fun _ _ => rfl⟩ j6 (by omega) (by omega)
  obtain ⟨g7, q1, q2, q3, q4, q5, q6, q7⟩ := hch
  have hl : loadCell g6 (.pointer (some ⟨g4.next, 0, none⟩)) = some (chooseV g3.next g.next (g.next + 1) g4.next) := by rw [hs.row.ld]; rfl
  have q1' : call n (chooseV g3.next g.next (g.next + 1) g4.next) [.int .i64 0] g6 = some (.bool (runL step s (enumB (uLo S) (uHi S) (numU S) 0 fun _ => 0)).2, g7) := q1
  simp only [rn0, reduceIte, Nat.reduceEqDiff, Nat.reduceAdd, Nat.reduceMul, Nat.reduceSub, Nat.reduceLeDiff, Nat.reduceLT, hl, q1']
  exact ⟨_, rfl, q2, by rw [q5], by omega, by omega⟩
end
end Go.Vm.St

namespace Go.Vm.St
open Go.Proofs Go.Vm.Vat
set_option linter.unusedSimpArgs false
set_option linter.unusedVariables false
set_option maxRecDepth 10000
variable {n : Nat} {h : AHeap}
def s158 : SCode := (.seq (.ops [jO 3 (.box (T 0)), jO 4 (.box (T 1)), jO 5 (.box (T 2)), jO 6 (.mov (.const (.bool false)))]) (.seq (.draw [jS 7 (.loadN 8 (T 3)), jS 8 (.loadN 11 (T 4)), jF 9 (.fieldAddr 0 (T 5)), jS 10 (.load1 (T 9)), jF 11 (.fieldAddr 1 (T 5)), jS 12 (.load1 (T 11)), jU 13 (.call (.func 148) [(T 7), (T 8), (T 10), (T 12)]), jF 14 (.fieldAddr 2 (T 5)), jR 15 (.load1 (T 14)), jF 16 (.int2 .eql (T 13) (T 15)), jF 6 (.mov (T 16))]) .ret))
theorem fok158 : FnOk Tryz.prog 158 17 s158 [.tmp 6] := ⟨Tryz.f158, _, Tryz.func158, rfl, Tryz.ntmps158, by kernel_rfl, by kernel_rfl⟩
theorem isRightW_c (hn : 125 ≤ n) (hr : h.next + 60 < far) {wv vv sv tv : Value} {S : MS} {u : Nat → Int} (hy : SteepR h wv vv sv S) (ht : oneCell tv = true) (hG : Good S) (hu : InU S u) {k : Nat} (hk : k < S.ns) :
    call n (.func (.func 158) #[] #[]) [.agg ⟨wkL S wv vv sv tv⟩, .agg ⟨tarr S u⟩, .agg ⟨[.int .i64 (S.sv k), .int .i64 (S.sh k), .int .i64 (S.sk k)]⟩] h = some (.bool (decide (RightS S u k)), h) := by
  obtain ⟨n, rfl⟩ : ∃ p, n = p + 1 := ⟨n - 1, by omega⟩
  refine call_plain0 fok158 rfl rfl (by simp) rfl ?_
  have hy := hy.shut
  have hr : h.shutAll.next + 60 < far := hr
  generalize h.shutAll = h at hy hr
  obtain ⟨⟨a1, a2⟩, ⟨b1, b2⟩, c1, c2⟩ := hG.args.smell k hk
  have ho : HourOk S (S.sv k).toNat (S.sh k) := ⟨by omega, b1, b2⟩
  have ev : S.sv k = ((S.sv k).toNat : Int) := by omega
  simp only [s158, jO, jF, jR, jS, jU, jA, jK, W_seq, W_ops]
  refine ops_box (cs := wkL S wv vv sv tv) (by omega) rfl (wk_one hy ht) fun g1 hx1 => ?_
  have n1 := hx1.next
  refine ops_box (cs := tarr S u) (by omega) rfl tarr_one fun g2 hx2 => ?_
  have n2 := hx2.next
  refine ops_box (cs := [.int .i64 (S.sv k), .int .i64 (S.sh k), .int .i64 (S.sk k)]) (by omega) rfl rfl fun g3 hx3 => ?_
  have n3 := hx3.next
  have hy3 := ((hy.mono hx1.sub).mono hx2.sub).mono hx3.sub
  have r1 := (hx1.row.mono hx2.sub).mono hx3.sub
  have r2 := hx2.row.mono hx3.sub
  have ek := kindW_c (n := n) (h := g3) (by omega) (by omega) hy3 ht hG hu ho
  rw [← ev] at ek
  simp only [rn0, reduceIte, Nat.reduceEqDiff, Nat.reduceAdd, Nat.reduceMul, Nat.reduceSub, Nat.reduceLeDiff, Nat.reduceLT]
  refine W_draw All ?_
  have hR : (kindS S u (S.sv k).toNat (S.sh k) = S.sk k) = RightS S u k := rfl
  simp only [rn0, reduceIte, Nat.reduceEqDiff, Nat.reduceAdd, Nat.reduceMul, Nat.reduceSub, Nat.reduceLeDiff, Nat.reduceLT, r1.whole (n := 8) rfl, r2.whole tarr_len, hx3.row.ld, Nat.zero_add, List.getElem?_cons_zero, List.getElem?_cons_succ, ek, eqV_int, hR]
def s157 : SCode := (.seq (.ops [jO 3 (.box (T 0)), jO 4 (.mov (.const (.bool false)))]) (.seq (.ops [jO 5 (.loadN 8 (T 1)), jO 6 (.loadN 11 (T 2)), jO 7 (.loadN 3 (T 3)), jO 8 (.call (.func 158) [(T 5), (T 6), (T 7)]), jO 4 (.mov (T 8))]) .ret))
theorem fok157 : FnOk Tryz.prog 157 9 s157 [.tmp 4] := ⟨Tryz.f157, _, Tryz.func157, rfl, Tryz.ntmps157, by kernel_rfl, by kernel_rfl⟩
theorem isTruth1_c (hn : 130 ≤ n) (hr : h.next + 70 < far) {wv vv sv tv : Value} {S : MS} {u : Nat → Int} (hy : SteepR h wv vv sv S) (ht : oneCell tv = true) (hG : Good S) (hu : InU S u) {k : Nat} (hk : k < S.ns) {p q : Nat} (hp : Row h p (wkL S wv vv sv tv)) (hq : Row h q (tarr S u)) :
    call n (.func (.func 157) ⟨[]⟩ ⟨[.pointer (some ⟨p, 0, none⟩), .pointer (some ⟨q, 0, none⟩)]⟩) [.agg ⟨[.int .i64 (S.sv k), .int .i64 (S.sh k), .int .i64 (S.sk k)]⟩] h = some (.bool (decide (RightS S u k)), h) := by
  obtain ⟨n, rfl⟩ : ∃ p, n = p + 1 := ⟨n - 1, by omega⟩
  refine call_plain (xs := []) (ys := [.pointer (some ⟨p, 0, none⟩), .pointer (some ⟨q, 0, none⟩)]) fok157 rfl rfl (by simp) rfl ?_
  have hy := hy.shut
  have hp := hp.mono (g := h.shutAll) fun _ _ _ _ _ h => h
  have hq := hq.mono (g := h.shutAll) fun _ _ _ _ _ h => h
  have hr : h.shutAll.next + 70 < far := hr
  generalize h.shutAll = h at hy hr hp hq
  simp only [s157, jO, jF, jR, jS, jU, jA, jK, List.cons_append, List.nil_append, W_seq, W_ops]
  refine ops_box (cs := [.int .i64 (S.sv k), .int .i64 (S.sh k), .int .i64 (S.sk k)]) (by omega) rfl rfl fun g1 hx1 => ?_
  have n1 := hx1.next
  have hi := isRightW_c (n := n) (h := g1) (u := u) (by omega) (by omega) (hy.mono hx1.sub) ht hG hu hk
  simp only [rn0, reduceIte, Nat.reduceEqDiff, Nat.reduceAdd, Nat.reduceMul, Nat.reduceSub, Nat.reduceLeDiff, Nat.reduceLT, (hp.mono hx1.sub).whole (n := 8) rfl, (hq.mono hx1.sub).whole tarr_len, hx1.row.whole (n := 3) rfl, hi]
def s147 : SCode := (.seq (.ops [jO 2 (.box (T 0)), jO 3 (.box (T 1)), jO 4 (.mov (.const (.bool false)))]) (.seq (.ops [jO 5 (.fieldAddr 0 (T 2)), jO 6 (.fieldAddr 6 (T 5)), jO 7 (.load1 (T 6)), jO 8 (.mkfunc 157 [] [(T 2), (T 3)]), jO 9 (.call (.func 156) [(T 7), (T 8)]), jO 4 (.mov (T 9))]) .ret))
theorem fok147 : FnOk Tryz.prog 147 10 s147 [.tmp 4] := ⟨Tryz.f147, _, Tryz.func147, rfl, Tryz.ntmps147, by kernel_rfl, by kernel_rfl⟩
open Classical in
theorem isTruthW_c (hn : 140 ≤ n) (hr : h.next + 200 < far) {wv vv sv tv : Value} {S : MS} {u : Nat → Int} (hy : SteepR h wv vv sv S) (ht : oneCell tv = true) (hG : Good S) (hu : InU S u) :
    call n (.func (.func 147) #[] #[]) [.agg ⟨wkL S wv vv sv tv⟩, .agg ⟨tarr S u⟩] h = some (.bool (decide (∀ k, k < S.ns → RightS S u k)), h) := by
  obtain ⟨n, rfl⟩ : ∃ p, n = p + 1 := ⟨n - 1, by omega⟩
  refine call_plain0 fok147 rfl rfl (by simp) rfl ?_
  have hy := hy.shut
  have hr : h.shutAll.next + 200 < far := hr
  generalize h.shutAll = h at hy hr
  obtain ⟨_, _, _, _, _, z5, _⟩ := hG.sizes
  simp only [s147, jO, jF, jR, jS, jU, jA, jK, W_seq, W_ops]
  refine ops_box (cs := wkL S wv vv sv tv) (by omega) rfl (wk_one hy ht) fun g1 hx1 => ?_
  have n1 := hx1.next
  refine ops_box (cs := tarr S u) (by omega) rfl tarr_one fun g2 hx2 => ?_
  have n2 := hx2.next
  have hy2 := (hy.mono hx1.sub).mono hx2.sub
  have hp := hx1.row.mono hx2.sub
  have hq := hx2.row
  have he := everySmell_c (n := n) (h := g2) (ok := .func (.func 157) ⟨[]⟩ ⟨[.pointer (some ⟨h.next, 0, none⟩), .pointer (some ⟨g1.next, 0, none⟩)]⟩) (p := fun k => RightS S u k) (by omega) (by omega) hy2.s (by omega)
    fun g hs (hg : g.next ≤ g2.next + 40) i hi => by
      have hs' : Sub All g2 g := fun i cs w gr t hg => hs i cs w gr t hg
      exact ⟨_, (by rw [decide_eq_true_eq]), isTruth1_c (n := n - 1) (h := g) (k := i) (by omega) (by omega) (hy2.mono hs') ht hG hu hi (hp.mono hs') (hq.mono hs')⟩
  simp only [rn0, reduceIte, Nat.reduceEqDiff, Nat.reduceAdd, Nat.reduceMul, Nat.reduceSub, Nat.reduceLeDiff, Nat.reduceLT, hp.ld, wkg, Nat.zero_add, he]
noncomputable def truthStep (S : MS) (s : List (Nat → Int)) (c : Nat → Int) : List (Nat → Int) × Bool := open Classical in (if (∀ k, k < S.ns → RightS S c k) then s ++ [c] else s, true)
theorem runL_truth {S : MS} : ∀ (l s : List (Nat → Int)), runL (truthStep S) s l = (s ++ (open Classical in l.filter fun c => decide (∀ k, k < S.ns → RightS S c k)), true)
  | [], s => by simp [runL]
  | x :: l, s => by
    simp only [runL, truthStep, if_true]
    have := runL_truth (S := S) l
    by_cases e : ∀ k, k < S.ns → RightS S x k
    · rw [if_pos e, this, List.filter_cons, if_pos (by simpa using e)]; simp
    · rw [if_neg e, this, List.filter_cons, if_neg (by simpa using e)]
def TruthsR (h : AHeap) (S : MS) (v : Value) (l : List (Nat → Int)) : Prop := Cells h v 11 l.length fun k j => .int .i64 (cellU S (l.getD k fun _ => 0) j)
theorem enum_len {S : MS} (hG : Good S) : (enumB (uLo S) (uHi S) (numU S) 0 fun _ => 0).length ≤ 2000 := by
  have h1 := enumB_len (lo := uLo S) (hi := uHi S) (numU S) 0 (fun _ => 0) fun k _ hk => (hG.u k (by omega)).2.1
  have h2 := sizeN_prod (lo := uLo S) (hi := uHi S) (numU S) 0
  simp only [Nat.zero_add, sizeN, Int.one_mul] at h2
  have h3 := many_size hG.args
  have h4 := hG.few
  omega
def s146 : SCode := (.seq (.ops [jO 1 (.box (T 0)), jO 2 (.mov (.const .nilFunc))]) (.seq (.ops [jO 3 (.mkfunc 153 [] [(T 1)]), jO 2 (.mov (T 3))]) .ret))
theorem fok146 : FnOk Tryz.prog 146 4 s146 [.tmp 2] := ⟨Tryz.f146, _, Tryz.func146, rfl, Tryz.ntmps146, by kernel_rfl, by kernel_rfl⟩
theorem allTruths_c (hn : 1 ≤ n) (hr : h.next < far) {cs : List Value} (h1 : allB oneCell cs = true) (hl : cs.length = 8) :
    ∃ h', call n (.func (.func 146) #[] #[]) [.agg ⟨cs⟩] h = some (.func (.func 153) ⟨[]⟩ ⟨[.pointer (some ⟨h.next, 0, none⟩)]⟩, h') ∧ New h h' cs 0 := by
  obtain ⟨n, rfl⟩ : ∃ p, n = p + 1 := ⟨n - 1, by omega⟩
  suffices hs : ∃ v h', call (n + 1) (.func (.func 146) #[] #[]) [.agg ⟨cs⟩] h = some (v, h') ∧ v = .func (.func 153) ⟨[]⟩ ⟨[.pointer (some ⟨h.next, 0, none⟩)]⟩ ∧ New h h' cs 0 by
    obtain ⟨v, h', e, rfl, hx⟩ := hs
    exact ⟨h', e, hx⟩
  refine call_any0 fok146 rfl rfl (by simp) ?_
  simp only [s146, jO, jF, jR, jS, jU, jA, jK, W_seq, W_ops]
  refine ops_box (cs := cs) (by omega) rfl h1 fun g1 hx1 => ?_
  simp only [rn0, reduceIte, Nat.reduceEqDiff, Nat.reduceAdd, Nat.reduceMul, Nat.reduceSub, Nat.reduceLeDiff, Nat.reduceLT]
  exact hx1
theorem call_yield {l : Nat} {args : List Value} : call (n + 1) (.func (.yield l) #[] #[]) args h = roundA Tryz.prog (call n) n l args h := rfl
structure JO (h2 : AHeap) (p : Nat) (S : MS) (wv vv sv : Value) (s : List (Nat → Int)) (g : AHeap) : Prop where
  old : ∀ i, i < h2.next → i ≠ p → g.get i = h2.get i
  tv : ∃ tv, g.get p = some (.row (wkL S wv vv sv tv) true 0) ∧ GrowC (h2.next + 2) g tv 11 s.length fun k j => .int .i64 (cellU S (s.getD k fun _ => 0) j)
  up : h2.next + 2 ≤ g.next
  len : s.length ≤ g.next
def OwnO (h2 : AHeap) (p : Nat) (S : MS) (wv vv sv : Value) (g : AHeap) (q : Nat) : Prop := h2.next ≤ q ∧ q ≠ p ∧ q ≠ h2.next + 1 ∧ ∀ tv, g.get p = some (.row (wkL S wv vv sv tv) true 0) → NeB tv q
theorem wkL_inj {S : MS} {wv vv sv a b : Value} (e : wkL S wv vv sv a = wkL S wv vv sv b) : a = b := by
  have := congrArg (·[7]?) e
  simpa [wkL] using this
theorem build_wk0 : buildA (fun x => (#[(0, 7), (7, 1)] : Array (Nat × Nat))[x]?) ⟨[.int .i64 0, .int .i64 0, .slice none 0 0, .int .i64 0, .int .i64 0, .slice none 0 0, .slice none 0 0, .slice none 0 0]⟩ [] h [] = some (.agg ⟨[.int .i64 0, .int .i64 0, nilS, .int .i64 0, .int .i64 0, nilS, nilS, nilS]⟩, h) := id rfl
abbrev wk0 : List Value := [.int .i64 0, .int .i64 0, nilS, .int .i64 0, .int .i64 0, nilS, nilS, nilS]
def OpenR (h : AHeap) (S : MS) (wv vv sv v : Value) (h' : AHeap) : Prop := (∀ i, i < h.next → h'.get i = h.get i) ∧ h.next ≤ h'.next ∧ h'.next ≤ h.next + 500000 ∧ h'.floor = h.floor ∧
  ((faultS S ≠ 0 ∧ v = .tuple ⟨[.agg ⟨wk0⟩, .int .i64 (faultS S)]⟩) ∨ (faultS S = 0 ∧ ∃ tv, v = .tuple ⟨[.agg ⟨wkL S wv vv sv tv⟩, .int .i64 0]⟩ ∧ oneCell tv = true ∧ TruthsR h' S tv (truthsS S) ∧ (∀ a k c, tv = .slice (some a) k c → h.next ≤ a.block) ∧ Long tv))
theorem sl_tarr {S : MS} {u : Nat → Int} : buildSl 11 1 [.int .i64 0, .int .i64 0, .int .i64 0, .int .i64 0, .int .i64 0, .int .i64 0, .int .i64 0, .int .i64 0, .int .i64 0, .int .i64 0, .int .i64 0] [0] h [.agg ⟨tarr S u⟩] = newSlice h (tarr S u) 1 1 0 := by
  have e : tarr S u = [.int .i64 (cellU S u 0), .int .i64 (cellU S u 1), .int .i64 (cellU S u 2), .int .i64 (cellU S u 3), .int .i64 (cellU S u 4), .int .i64 (cellU S u 5), .int .i64 (cellU S u 6), .int .i64 (cellU S u 7), .int .i64 (cellU S u 8), .int .i64 (cellU S u 9), .int .i64 (cellU S u 10)] := by simp [tarr, List.range_succ]
  rw [e]
  unfold buildSl
  have e2 : Instr.fill (fun i => some (i * 11, 11)) ⟨repl [Value.int .i64 0, Value.int .i64 0, Value.int .i64 0, Value.int .i64 0, Value.int .i64 0, Value.int .i64 0, Value.int .i64 0, Value.int .i64 0, Value.int .i64 0, Value.int .i64 0, Value.int .i64 0] 1⟩ ([0].zip [Value.agg ⟨[.int .i64 (cellU S u 0), .int .i64 (cellU S u 1), .int .i64 (cellU S u 2), .int .i64 (cellU S u 3), .int .i64 (cellU S u 4), .int .i64 (cellU S u 5), .int .i64 (cellU S u 6), .int .i64 (cellU S u 7), .int .i64 (cellU S u 8), .int .i64 (cellU S u 9), .int .i64 (cellU S u 10)]⟩]) = some #[.int .i64 (cellU S u 0), .int .i64 (cellU S u 1), .int .i64 (cellU S u 2), .int .i64 (cellU S u 3), .int .i64 (cellU S u 4), .int .i64 (cellU S u 5), .int .i64 (cellU S u 6), .int .i64 (cellU S u 7), .int .i64 (cellU S u 8), .int .i64 (cellU S u 9), .int .i64 (cellU S u 10)] := by
    simp [Instr.fill, Value.cells, repl, app_eq]
  rw [e2]
noncomputable def s131 : SCode := (.seq (.ops [⟨some 1, none, .box (T 0)⟩, ⟨some 2, none, .alloc [(.int .i64 0), (.int .i64 0), (.slice none 0 0), (.int .i64 0), (.int .i64 0), (.slice none 0 0), (.slice none 0 0), (.slice none 0 0)]⟩, ⟨some 3, none, .mov (.const (.int .i64 0))⟩]) (.seq (.seq (.ops [⟨some 7, none, .loadN 7 (T 1)⟩, ⟨some 8, none, .call (.func 145) [(T 7)]⟩, ⟨some 4, none, .mov (T 8)⟩]) (.seq (.ops [⟨some 9, none, .mov (T 4)⟩, ⟨some 10, none, .int2 .neq (T 9) (.const (.int .i64 0))⟩]) (.cond (T 10) (.seq (.ops [⟨some 11, none, .build #[(0, 7), (7, 1)] [(.int .i64 0), (.int .i64 0), (.slice none 0 0), (.int .i64 0), (.int .i64 0), (.slice none 0 0), (.slice none 0 0), (.slice none 0 0)] [] []⟩, ⟨some 12, none, .mov (T 4)⟩, ⟨none, none, .store 8 (T 2) (T 11)⟩, ⟨some 3, none, .mov (T 12)⟩]) .ret) .skip))) (.seq (.ops [⟨some 13, none, .loadN 7 (T 1)⟩, ⟨some 14, none, .build #[(0, 7), (7, 1)] [(.int .i64 0), (.int .i64 0), (.slice none 0 0), (.int .i64 0), (.int .i64 0), (.slice none 0 0), (.slice none 0 0), (.slice none 0 0)] [0] [(T 13)]⟩, ⟨some 5, none, .alloc [(.int .i64 0), (.int .i64 0), (.slice none 0 0), (.int .i64 0), (.int .i64 0), (.slice none 0 0), (.slice none 0 0), (.slice none 0 0)]⟩, ⟨none, none, .store 8 (T 5) (T 14)⟩]) (.seq (.seq (.ops [⟨some 15, none, .loadN 8 (T 5)⟩, ⟨some 16, none, .call (.func 146) [(T 15)]⟩]) (.block 0 (.range (T 16) #[17] (rangeOf Tryz.f131 0).1 (rangeOf Tryz.f131 0).2))) (.seq (.ops [⟨some 27, none, .loadN 8 (T 5)⟩, ⟨none, none, .store 8 (T 2) (T 27)⟩, ⟨some 3, none, .mov (.const (.int .i64 0))⟩]) .ret)))))
theorem fok131 : FnOk Tryz.prog 131 28 s131 [.cellN 2 8, .tmp 3] := ⟨Tryz.f131, _, Tryz.func131, rfl, Tryz.ntmps131, by kernel_rfl, by kernel_rfl⟩
def ra131_0 : SCode := (.ops [⟨some 6, none, .alloc [(.int .i64 0), (.int .i64 0), (.int .i64 0), (.int .i64 0), (.int .i64 0), (.int .i64 0), (.int .i64 0), (.int .i64 0), (.int .i64 0), (.int .i64 0), (.int .i64 0)]⟩, ⟨none, none, .store 11 (T 6) (T 17)⟩])
theorem raok131_0 : compCode Tryz.prog 28 (rangeOf Tryz.f131 0).1 = some ra131_0 := by kernel_rfl
def rb131_0 : SCode := (.block 1 (.seq (.ops [⟨some 18, none, .loadN 8 (T 5)⟩, ⟨some 19, none, .loadN 11 (T 6)⟩, ⟨some 20, none, .call (.func 147) [(T 18), (T 19)]⟩]) (.cond (T 20) (.ops [⟨some 21, none, .fieldAddr 7 (T 5)⟩, ⟨some 22, none, .load1 (T 21)⟩, ⟨some 23, none, .loadN 11 (T 6)⟩, ⟨some 24, none, .bslice 11 1 [(.int .i64 0), (.int .i64 0), (.int .i64 0), (.int .i64 0), (.int .i64 0), (.int .i64 0), (.int .i64 0), (.int .i64 0), (.int .i64 0), (.int .i64 0), (.int .i64 0)] [0] [(T 23)]⟩, ⟨some 25, none, .append 11 88 (T 22) (T 24)⟩, ⟨some 26, none, .fieldAddr 7 (T 5)⟩, ⟨none, none, .store 1 (T 26) (T 25)⟩]) .skip)))
theorem rbok131_0 : compCode Tryz.prog 28 (rangeOf Tryz.f131 0).2 = some rb131_0 := by kernel_rfl
set_option maxHeartbeats 2000000 in
theorem open_c (hn : 500 ≤ n) (hr : h.next + 600000 < far) (hfl : h.floor ≤ h.next) {wv vv sv : Value} {S : MS} (hy : SteepR h wv vv sv S) (hT : ThinS S) :
    ∃ v h', call n (.func (.func 131) #[] #[]) [.agg ⟨stL S wv vv sv⟩] h = some (v, h') ∧ OpenR h S wv vv sv v h' := by
  obtain ⟨n, rfl⟩ : ∃ p, n = p + 1 := ⟨n - 1, by omega⟩
  refine call_any0 fok131 rfl rfl (by simp) ?_
  simp only [s131, jO, jF, jR, jS, jU, jA, jK, W_seq, W_ops]
  refine ops_box (cs := stL S wv vv sv) (by omega) rfl hy.one fun g1 hx1 => ?_
  have n1 := hx1.next
  have f1 := hx1.floor
  simp only [rn0, reduceIte, Nat.reduceEqDiff, Nat.reduceAdd, Nat.reduceMul, Nat.reduceSub, Nat.reduceLeDiff, Nat.reduceLT]
  refine step_row (cs := wk0) (by omega) rfl rfl fun g2 hx2 => ?_
  have n2 := hx2.next
  have f2 := hx2.floor
  have e1 : g1.next = h.next + 1 := n1
  have e2 : g2.next = h.next + 2 := by omega
  have hy2 := (hy.mono hx1.sub).mono hx2.sub
  have w1 := (hx1.row.mono hx2.sub).whole (n := 7) rfl
  have ec := check_c (n := n) (h := g2) (by omega) (by omega) hy2 hT
  have hr2 : g2.get (h.next + 1) = some (.row wk0 true 0) := by have := hx2.get; rw [e1] at this; exact this
  have old2 : ∀ i, i < h.next → g2.get i = h.get i := fun i hi => by rw [hx2.old i (by omega), hx1.old i hi]
  by_cases hf : faultS S = 0
  case neg =>
    simp only [rn0, reduceIte, Nat.reduceEqDiff, Nat.reduceAdd, Nat.reduceMul, Nat.reduceSub, Nat.reduceLeDiff, Nat.reduceLT, w1, ec, hf, build_wk0, e1]
    refine step_store (vs := wk0) rfl hr2 (by omega) (by omega) rfl rfl rfl (by simp) fun g3 hs => ?_
    have hrow := hs.row.whole (n := 8) rfl
    simp only [rn0, reduceIte, Nat.reduceEqDiff, Nat.reduceAdd, Nat.reduceMul, Nat.reduceSub, Nat.reduceLeDiff, Nat.reduceLT, res_two, hrow]
    refine ⟨fun i hi => by rw [hs.old i (by omega), old2 i hi], by have := hs.next; omega, by have := hs.next; omega, by rw [hs.floor, f2, f1], .inl ⟨hf, ?_⟩⟩
    simp [splice]
  have hG := good_of hf
  have hlenE := enum_len hG
  simp only [rn0, reduceIte, Nat.reduceEqDiff, Nat.reduceAdd, Nat.reduceMul, Nat.reduceSub, Nat.reduceLeDiff, Nat.reduceLT, w1, ec, hf, build_wk]
  refine step_new (vs := wkL S wv vv sv nilS) (by omega) (by omega) rfl (by simp only [rn0, reduceIte, Nat.reduceEqDiff, Nat.reduceAdd, Nat.reduceMul, Nat.reduceSub, Nat.reduceLeDiff, Nat.reduceLT]; rfl) (wk_one hy rfl) rfl rfl fun g3 hx3 => ?_
  have n3 := hx3.next
  have f3 := hx3.floor
  rw [e2] at n3
  have w3 := hx3.row.whole (n := 8) rfl
  rw [e2] at w3
  obtain ⟨g4, e4, hx4⟩ := allTruths_c (n := n) (h := g3) (cs := wkL S wv vv sv nilS) (by omega) (by omega) (wk_one hy rfl) rfl
  have n4 := hx4.next
  have f4 := hx4.floor
  rw [e1, e2]
  simp only [rn0, reduceIte, Nat.reduceEqDiff, Nat.reduceAdd, Nat.reduceMul, Nat.reduceSub, Nat.reduceLeDiff, Nat.reduceLT, w3, e4]
  refine W_range' rfl (by omega) (by simp only [rn0, reduceIte, Nat.reduceEqDiff, Nat.reduceAdd, Nat.reduceMul, Nat.reduceSub, Nat.reduceLeDiff, Nat.reduceLT]; rfl) fun f0 hf0 ts hv h2 hl => ?_
  have f5 : f0 5 = .pointer (some ⟨h.next + 2, 0, none⟩) := by rw [hf0]; simp only [rn0, reduceIte, Nat.reduceEqDiff, Nat.reduceAdd, Nat.reduceMul, Nat.reduceSub, Nat.reduceLeDiff, Nat.reduceLT]
  have f2' : f0 2 = .pointer (some ⟨h.next + 1, 0, none⟩) := by rw [hf0]; simp only [rn0, reduceIte, Nat.reduceEqDiff, Nat.reduceAdd, Nat.reduceMul, Nat.reduceSub, Nat.reduceLeDiff, Nat.reduceLT]
  clear hf0
  have nl := hl.next
  have fl := hl.floor
  have en : g4.next = h.next + 4 := by omega
  have hbase : ∀ i, i < h.next → h2.get i = h.get i := fun i hi => by rw [hl.old i (by omega), hx4.old i (by omega), hx3.old i (by omega), old2 i hi]
  have hp2 : h2.get (h.next + 2) = some (.row (wkL S wv vv sv nilS) true 0) := by
    rw [hl.old _ (by omega), hx4.old _ (by omega)]; have := hx3.get; rw [e2] at this; exact this
  have hr2' : h2.get (h.next + 1) = some (.row wk0 true 0) := by
    rw [hl.old _ (by omega), hx4.old _ (by omega), hx3.old _ (by omega)]; exact hr2
  have hpw : Row h2 (h.next + 3) (wkL S wv vv sv nilS) := by
    have := hx4.row.mono hl.sub
    rw [n3] at this
    exact this
  have hloop := hl.loop
  have hmark := hl.mark
  rw [en] at hloop hmark
  rw [en]
  rw [en] at hl
  generalize hr0 : loopO _ ts _ _ _ _ = r at hloop ⊢
  have r1 : r.state = .ready := by rw [← hr0]; rfl
  have r2 : View 28 r.tmps f0 := by rw [← hr0]; exact hv
  have r3 : r.params = #[17] := by rw [← hr0]; rfl
  have r4 : compCode Tryz.prog 28 r.assign = some ra131_0 := by rw [← hr0]; exact raok131_0
  have r5 : compCode Tryz.prog 28 r.body = some rb131_0 := by rw [← hr0]; exact rbok131_0
  have r6 : leftBy r .norm = r := by rw [← hr0]; rfl
  clear hr0 hl hv
  have en2 : h2.next = h.next + 6 := by omega
  have hit := iter_c (Own := OwnO h2 (h.next + 2) S wv vv sv) (truthStep S) (JO h2 (h.next + 2) S wv vv sv) (g := h2) (pw := h.next + 3) (K := 210) (N0 := 300) (n := n) (tv := nilS) (yv := .func (.yield (h.next + 5)) #[] #[]) [] hG hpw (hy.mono (AHeap.subOf hbase)) rfl rfl (by omega) (by omega) (by omega)
    (fun g' q hq => hq.2.2.1)
    (fun s g1 g' cs hj hs => by
      obtain ⟨tv, t1, t2⟩ := hj.tv
      exact ⟨fun i hi hne => by rw [hs.old i (by omega)]; exact hj.old i hi hne, ⟨tv, by rw [hs.old _ (by omega)]; exact t1, t2.keep hs.keep (by omega)⟩, by have := hj.up; have := hs.next; omega, by have := hj.len; have := hs.next; omega⟩)
    (fun s g1 g' cs hj hx => by
      obtain ⟨tv, t1, t2⟩ := hj.tv
      have := hj.up
      exact ⟨fun i hi hne => by rw [hx.old i (by omega)]; exact hj.old i hi hne, ⟨tv, by rw [hx.old _ (by omega)]; exact t1, t2.sub hx.sub⟩, by have := hx.next; omega, by have := hj.len; have := hx.next; omega⟩)
    (fun s g1 g' cs q hj hs ho => ⟨ho.1, ho.2.1, ho.2.2.1, fun tv e => ho.2.2.2 tv (by rw [← hs.old _ (by omega)]; exact e)⟩)
    (fun s g1 g' cs q hj hx ho => ⟨ho.1, ho.2.1, ho.2.2.1, fun tv e => ho.2.2.2 tv (by rw [← hx.old _ (by have := hj.up; omega)]; exact e)⟩)
    (fun s g1 g' cs hj hx hlt => ⟨by omega, by omega, by omega, fun tv e => by
      obtain ⟨tv', t1, t2⟩ := hj.tv
      rw [hx.old _ (by omega), t1] at e
      simp only [Option.some.injEq, AObj.row.injEq, and_true] at e
      have := wkL_inj e
      subst this
      exact neB_of t2 (by right; omega)⟩)
    (fun g' ho hfg hup => ⟨⟨fun i hi _ => ho i hi, ⟨nilS, by rw [ho _ (by omega)]; exact hp2, .nil⟩, hup, Nat.zero_le _⟩, fun q hq _ hne => ⟨hq, by omega, hne, fun tv e => by
      rw [ho _ (by omega), hp2] at e
      simp only [Option.some.injEq, AObj.row.injEq, and_true] at e
      have := wkL_inj e
      subst this
      intro b m c e'
      cases e'⟩⟩)
    (fun m g1 s c pu py pc U hm it hb hok hj hfg hr1 => by
      obtain ⟨m, rfl⟩ : ∃ p, m = p + 1 := ⟨m - 1, by omega⟩
      rw [call_yield]
      obtain ⟨tv, hp, gr⟩ := hj.tv
      have hup := hj.up
      have hloop1 : g1.get (h.next + 5) = some (.loop r) := by rw [hj.old _ (by omega) (by omega)]; exact hloop
      have hpb := AHeap.lt_of_get hb
      suffices key : ∃ e g', roundA Tryz.prog (call m) m (h.next + 5) [.agg ⟨tarr S c⟩] g1 = some (.bool (goesOn e), g') ∧ (e = .norm ∧ JO h2 (h.next + 2) S wv vv sv (truthStep S s c).1 g' ∧ (∀ q, h2.next ≤ q → q < g1.next → NeB tv q → g'.get q = g1.get q) ∧ (∃ tv', g'.get (h.next + 2) = some (.row (wkL S wv vv sv tv') true 0) ∧ ∀ q, q < g1.next → NeB tv q → NeB tv' q) ∧ g'.floor = h2.floor ∧ g1.next ≤ g'.next ∧ g'.next ≤ g1.next + 10) by
        obtain ⟨e, g', k1, rfl, k2, k3, ⟨tv', k4, k5⟩, k6, k7, k8⟩ := key
        refine ⟨g', k1, k2, fun q cs hq ho => ?_, by rw [k3 _ (by omega) hpb (neB_of gr (by left; omega))]; exact hb, k6, k7, by omega⟩
        obtain ⟨o1, o2, o3, o4⟩ := ho
        have hlt : q < g1.next := by obtain ⟨w, gr, e⟩ := hq; exact AHeap.lt_of_get e
        have hne := o4 tv hp
        refine ⟨by obtain ⟨w, gr, e⟩ := hq; exact ⟨w, gr, by rw [k3 q o1 hlt hne]; exact e⟩, o1, o2, o3, fun tv2 e => ?_⟩
        rw [k4] at e
        simp only [Option.some.injEq, AObj.row.injEq, and_true] at e
        have := wkL_inj e
        subst this
        exact k5 q hlt hne
      refine round_run (f := f0) hloop1 r1 r2 (by rw [r3]; rfl) (by omega) r4 r5 ?_
      have hset : setFr f0 r.params.toList [.agg ⟨tarr S c⟩] = upd f0 17 (.agg ⟨tarr S c⟩) := by rw [r3]; rfl
      rw [hset]
      simp only [rn0, reduceIte, Nat.reduceEqDiff, Nat.reduceAdd, Nat.reduceMul, Nat.reduceSub, Nat.reduceLeDiff, Nat.reduceLT, ra131_0]
      refine step_new (vs := tarr S c) (by omega) (by omega) rfl (by simp only [rn0, reduceIte, Nat.reduceEqDiff, Nat.reduceAdd, Nat.reduceMul, Nat.reduceSub, Nat.reduceLeDiff, Nat.reduceLT]; rfl) tarr_one tarr_len rfl fun g2 hx2 => ?_
      have n2 := hx2.next
      have f2 := hx2.floor
      simp only [rn0, reduceIte, Nat.reduceEqDiff, Nat.reduceAdd, Nat.reduceMul, Nat.reduceSub, Nat.reduceLeDiff, Nat.reduceLT]
      refine ⟨by rw [hx2.old _ (by omega)]; exact hloop1, by omega, fun g3 hp3 => ?_⟩
      have n3 := hp3.next
      have f3 := hp3.floor
      have g3old : ∀ i, i < g1.next → i ≠ h.next + 5 → g3.get i = g1.get i := fun i hi hne => by rw [hp3.old i hne, hx2.old i hi]
      have g3b : ∀ i, i < h.next → g3.get i = h.get i := fun i hi => by rw [g3old i (by omega) (by omega), hj.old i (by omega) (by omega), hbase i hi]
      have hy3 := hy.mono (AHeap.subOf g3b)
      have hp3' : g3.get (h.next + 2) = some (.row (wkL S wv vv sv tv) true 0) := by rw [g3old _ (by omega) (by omega)]; exact hp
      have rp3 : Row g3 (h.next + 2) (wkL S wv vv sv tv) := ⟨_, _, hp3'⟩
      have rc3 : Row g3 g1.next (tarr S c) := by
        obtain ⟨w, gr, e⟩ := hx2.row
        exact ⟨w, gr, by rw [hp3.old _ (by omega)]; exact e⟩
      have q1 := rp3.whole (n := 8) rfl
      have q2 := rc3.whole tarr_len
      have hcu : InU S c := fun i hi => hok.1 i hi
      have hist := isTruthW_c (n := m) (h := g3) (u := c) (by omega) (by omega) hy3 gr.one hG hcu
      by_cases ht : ∀ k, k < S.ns → RightS S c k
      · have hst : (truthStep S s c).1 = s ++ [c] := by simp only [truthStep]; rw [if_pos ht]
        simp only [rn0, reduceIte, Nat.reduceEqDiff, Nat.reduceAdd, Nat.reduceMul, Nat.reduceSub, Nat.reduceLeDiff, Nat.reduceLT, rb131_0, f5, q1, q2, hist, eq_true ht, rp3.ld, wkg, Nat.zero_add, sl_tarr]
        refine step_slice (by omega) tarr_one fun g4 hx4 => ?_
        have n4 := hx4.next
        have f4 := hx4.floor
        have k14 : Keep (h.next + 5) g1 g4 := ⟨fun i cs w gr hi hg => hx4.sub _ _ _ _ trivial (by rw [hp3.old i hi]; exact hx2.sub _ _ _ _ trivial hg), by omega, by omega⟩
        have gr4 : GrowC (h2.next + 2) g4 tv 11 s.length (fun k j => .int .i64 (cellU S ((s ++ [c]).getD k fun _ => 0) j)) := (gr.keep k14 (by omega)).congr fun k j hk hj => by
          rw [List.getD_eq_getElem?_getD, List.getD_eq_getElem?_getD, List.getElem?_append_left hk]
        have hlen := hj.len
        obtain ⟨v', g5, e5, ev, gr5, hk5⟩ := gr4.append (bytes := 88) (cap := 1) (by omega) (by omega) (by omega) hx4.get tarr_len tarr_one (fun j hj => by
          rw [tarr_get hj, List.getD_eq_getElem?_getD, List.getElem?_append_right (Nat.le_refl _)]; simp) (by simp [maxBytes, far] at *; omega) (by simp [maxBytes, far] at *; omega)
        have n5 := hk5.next
        have f5' := hk5.floor
        have hbl := fun (i : Nat) (hi : NeB tv i) (hlt : i < g1.next) => (show g5.get i = g4.get i from hk5.old i (by omega) fun b m q e => hi b m q e)
        have neP : NeB tv (h.next + 2) := neB_of gr (by left; omega)
        have neL : NeB tv (h.next + 5) := neB_of gr (by left; omega)
        have hp5 : g5.get (h.next + 2) = some (.row (wkL S wv vv sv tv) true 0) := by
          rw [hbl _ neP (by omega), hx4.old _ (by omega)]; exact hp3'
        simp only [rn0, reduceIte, Nat.reduceEqDiff, Nat.reduceAdd, Nat.reduceMul, Nat.reduceSub, Nat.reduceLeDiff, Nat.reduceLT, f5, e5]
        refine step_store (b := h.next + 2) (off := 7) (vs := [v']) (by rfl) hp5 (by omega) (by omega) (by rw [ev]; rfl) (by rw [ev]; rfl) rfl (by simp [wkL]) fun g6 hs6 => ?_
        have n6 := hs6.next
        have f6 := hs6.floor
        have es6 : splice (wkL S wv vv sv tv) 7 [v'] = wkL S wv vv sv v' := rfl
        rw [es6] at hs6
        have g6old : ∀ i, i < g1.next → i ≠ h.next + 2 → i ≠ h.next + 5 → NeB tv i → g6.get i = g1.get i := fun i hi h1 h3 hne => by
          rw [hs6.old i h1, hbl i hne hi, hx4.old i (by omega), g3old i hi h3]
        have hl6 : g6.get (h.next + 5) = some (.loop { r with state := .busy }) := by
          rw [hs6.old _ (by omega), hbl _ neL (by omega), hx4.old _ (by omega), hp3.get]
        simp only [rn0, reduceIte, Nat.reduceEqDiff, Nat.reduceAdd, Nat.reduceMul, Nat.reduceSub, Nat.reduceLeDiff, Nat.reduceLT]
        refine ⟨hl6, by omega, by omega, fun g7 hp7 => ⟨?_, ?_, ?_, by rw [hp7.floor]; omega, by rw [hp7.next]; omega, by rw [hp7.next]; omega⟩⟩
        · rw [hst]
          have hg6 := hs6.get
          refine ⟨fun i hi hne => ?_, ⟨v', ?_, ?_⟩, by rw [hp7.next]; omega, by rw [List.length_append, List.length_singleton, hp7.next]; omega⟩
          · by_cases e : i = h.next + 5
            · subst e; rw [hp7.get, r6, ← hj.old _ hi hne]; exact hloop1.symm
            · rw [hp7.old i e, g6old i (by omega) hne e (neB_of gr (by left; omega))]; exact hj.old i hi hne
          · rw [hp7.old _ (by omega)]; exact hg6
          · rw [List.length_append, List.length_singleton]
            exact (gr5.keep hs6.keep (by omega)).keep hp7.keep (by omega)
        · intro i hi hlt hne
          rw [hp7.old i (by omega), g6old i hlt (by omega) (by omega) hne]
        · refine ⟨v', by rw [hp7.old _ (by omega)]; exact hs6.get, fun q hq _ b m c' e => ?_⟩
          rw [ev] at e
          cases e
          show q ≠ g4.next
          omega
      · have hst : (truthStep S s c).1 = s := by simp only [truthStep]; rw [if_neg ht]
        simp only [rn0, reduceIte, Nat.reduceEqDiff, Nat.reduceAdd, Nat.reduceMul, Nat.reduceSub, Nat.reduceLeDiff, Nat.reduceLT, rb131_0, f5, q1, q2, hist, eq_false ht]
        refine ⟨hp3.get, by omega, by omega, fun g7 hp7 => ⟨?_, ?_, ?_, by rw [hp7.floor]; omega, by rw [hp7.next]; omega, by rw [hp7.next]; omega⟩⟩
        · rw [hst]
          refine ⟨fun i hi hne => ?_, ⟨tv, ?_, ?_⟩, by rw [hp7.next]; omega, by have := hj.len; rw [hp7.next]; omega⟩
          · by_cases e : i = h.next + 5
            · subst e; rw [hp7.get, r6, ← hj.old _ hi hne]; exact hloop1.symm
            · rw [hp7.old i e, g3old i (by omega) e]; exact hj.old i hi hne
          · rw [hp7.old _ (by omega)]; exact hp3'
          · have k13 : Keep (h.next + 5) g1 g3 := ⟨fun i cs w gr hi hg => by rw [hp3.old i hi]; exact hx2.sub _ _ _ _ trivial hg, by omega, by omega⟩
            exact (gr.keep k13 (by omega)).keep hp7.keep (by omega)
        · intro i hi hlt _
          rw [hp7.old i (by omega), g3old i hlt (by omega)]
        · exact ⟨tv, by rw [hp7.old _ (by omega)]; exact hp3', fun q _ hq => hq⟩)
    (by omega)
  obtain ⟨v5, g5, e5, j5, fl5, u5, n5⟩ := hit
  rw [runL_truth] at j5
  simp only [List.nil_append] at j5
  change JO h2 (h.next + 2) S wv vv sv (truthsS S) g5 at j5
  obtain ⟨tv, t1, t2⟩ := j5.tv
  have hup := j5.up
  refine ⟨v5, g5, .norm, by rw [n3]; exact e5, by omega, by omega, by rw [r6, j5.old _ (by omega) (by omega)]; exact hloop, fun g6 hp6 => ?_⟩
  have n6 := hp6.next
  have f6 := hp6.floor
  have t6 : g6.get (h.next + 2) = some (.row (wkL S wv vv sv tv) true 0) := by rw [hp6.old _ (by omega)]; exact t1
  have w6 := (show Row g6 (h.next + 2) (wkL S wv vv sv tv) from ⟨_, _, t6⟩).whole (n := 8) rfl
  have r6' : g6.get (h.next + 1) = some (.row wk0 true 0) := by rw [hp6.old _ (by omega), j5.old _ (by omega) (by omega)]; exact hr2'
  have m6 : g6.get (h.next + 4) = some .deferred := by rw [hp6.old _ (by omega), j5.old _ (by omega) (by omega)]; exact hmark
  have ht2 := t2.one
  simp only [rn0, reduceIte, Nat.reduceEqDiff, Nat.reduceAdd, Nat.reduceMul, Nat.reduceSub, Nat.reduceLeDiff, Nat.reduceLT, f5, f2', w6]
  refine step_store (vs := wkL S wv vv sv tv) rfl r6' (by omega) (by omega) rfl (wk_one hy ht2) rfl (by simp) fun g7 hs7 => ?_
  have n7 := hs7.next
  have f7 := hs7.floor
  simp only [rn0, reduceIte, Nat.reduceEqDiff, Nat.reduceAdd, Nat.reduceMul, Nat.reduceSub, Nat.reduceLeDiff, Nat.reduceLT, f5, f2', w6]
  refine ret_mark (.inr rfl) (by rw [hs7.old _ (by omega)]; exact m6) (by omega) (by omega) fun g8 hp8 => ?_
  have n8 := hp8.next
  have f8 := hp8.floor
  have w8 : Row g8 (h.next + 1) (wkL S wv vv sv tv) := ⟨true, 0, by rw [hp8.old _ (by omega), hs7.get]; rfl⟩
  simp only [rn0, reduceIte, Nat.reduceEqDiff, Nat.reduceAdd, Nat.reduceMul, Nat.reduceSub, Nat.reduceLeDiff, Nat.reduceLT, res_two, f2', w8.whole (n := 8) rfl]
  refine ⟨fun i hi => ?_, by omega, by omega, by omega, .inr ⟨hf, tv, rfl, ht2, ?_, fun a k c e => by have := (t2.block e).1; omega, t2.long⟩⟩
  · rw [hp8.old i (by omega), hs7.old i (by omega), hp6.old i (by omega), j5.old i (by omega) (by omega), hbase i hi]
  · exact (((t2.keep hp6.keep (by omega)).keep hs7.keep (by omega)).keep hp8.keep (by omega)).cells

def arrN (m : Nat) (a : Nat → Int) : List Value := (List.range m).map fun j => .int .i64 (a j)
theorem arrN_get {m k : Nat} {a : Nat → Int} (hk : k < m) : (arrN m a)[k]? = some (.int .i64 (a k)) := by rw [arrN, List.getElem?_map, List.getElem?_range hk]; rfl
theorem plain_arrN {m : Nat} {a : Nat → Int} : plainV (.agg ⟨arrN m a⟩) = true := by
  show allB plainCell (arrN m a) = true
  rw [allB_iff]; intro v hv; obtain ⟨i, _, rfl⟩ := List.mem_map.1 hv; rfl
theorem binA_agg {P : Program} {N : Nat} {f : Go.Vm.Fr} {op : Op} {ty : TypeId} {l r : Array Value} : binA P N .eql op ty (.agg l) (.agg r) f h = plainF P N op ty f h := id rfl
def SameT (S : MS) (a b : Nat → Int) : Prop := ∀ j, j < 11 → cellU S a j = cellU S b j
noncomputable instance (S : MS) (a b : Nat → Int) : Decidable (SameT S a b) := Classical.propDecidable _
theorem truths_ld {S : MS} {v : Value} {l : List (Nat → Int)} (ht : TruthsR h S v l) {k : Nat} (hk : k < l.length) : loadAgg 11 h (ptrO v 11 k 0) = some (.agg ⟨tarr S (l.getD k fun _ => 0)⟩) := by
  rw [Cells.ldN ht hk (by omega) (by omega)]
  simp [tarr, List.range_succ]
def HasT (S : MS) (l : List (Nat → Int)) (c : Nat → Int) : Prop := ∃ k, k < l.length ∧ SameT S c (l.getD k fun _ => 0)
noncomputable instance (S : MS) (l : List (Nat → Int)) (c : Nat → Int) : Decidable (HasT S l c) := Classical.propDecidable _

theorem getD_mem {l : List (Nat → Int)} {k : Nat} (hk : k < l.length) : (l.getD k fun _ => 0) ∈ l := by
  rw [List.getD_eq_getElem?_getD, List.getElem?_eq_getElem hk]
  exact List.getElem_mem hk
theorem truths_mem {S : MS} {t : Nat → Int} : t ∈ truthsS S ↔ (InU S t ∧ ∀ j, numU S ≤ j → t j = 0) ∧ ∀ k, k < S.ns → RightS S t k := by
  unfold truthsS
  rw [List.mem_filter, enumB_ok, decide_eq_true_eq]
  constructor
  · rintro ⟨⟨h1, h2⟩, h3⟩
    exact ⟨⟨fun i hi => h1 i (by omega) (by omega), fun j hj => h2 j (by omega)⟩, h3⟩
  · rintro ⟨⟨h1, h2⟩, h3⟩
    exact ⟨⟨fun i _ hi => h1 i (by omega), fun j hj => h2 j (by omega)⟩, h3⟩
theorem truths_len {S : MS} (hG : Good S) : (truthsS S).length ≤ 2000 := Nat.le_trans (List.length_filter_le _ _) (enum_len hG)
noncomputable instance (S : MS) (m1 : Nat) (a1 : Nat → Int) (sp : Int) (m2 : Nat) (a2 : Nat → Int) : Decidable (TruthL S m1 a1 sp m2 a2) := Classical.propDecidable _

theorem cells_at' {g : AHeap} {v : Value} {s m : Nat} {c : Nat → Nat → Value} (hc : Cells h v s m c) (he : ∀ a k cap, v = .slice (some a) k cap → g.get a.block = h.get a.block) : Cells g v s m c := by
  obtain ⟨a, cap, rfl, hsp, h0 | ⟨b, o, cs, w, gr, rfl, h1, h2⟩⟩ := hc
  · exact ⟨a, cap, rfl, hsp, .inl h0⟩
  · exact ⟨_, cap, rfl, hsp, .inr ⟨b, o, cs, w, gr, rfl, by rw [he _ _ _ rfl]; exact h1, h2⟩⟩
def s133 : SCode := (.seq (.ops [jO 4 (.mov (.const (.bool false)))]) (.seq (.seq (.ops [jO 7 (.mov (T 0)), jO 8 (.len (T 7)), jO 9 (.mov (jK 0))]) (.block 0 (.loop (.seq (.ops [jO 10 (.int2 .lss (T 9) (T 8))]) (.seq (.cond (T 10) .skip (.exit 0)) (.seq (.block 1 (.seq (.ops [jO 11 (.idxSl 1 (T 7) (T 9)), jO 12 (.load1 (T 11)), jO 6 (.mov (T 12))]) (.seq (.ops [jO 13 (.mov (T 1)), jO 14 (.mov (T 6)), jO 15 (.call (T 13) [(T 14)]), jO 16 (.not (T 15))]) (.cond (T 16) (.seq (.ops [jO 4 (.mov (.const (.bool false)))]) .ret) .skip)))) (.ops [jO 17 (.int2 .add (T 9) (jK 1)), jO 9 (.mov (T 17))]))))))) (.seq (.ops [jO 4 (.mov (.const (.bool true)))]) .ret)))
theorem fok133 : FnOk Tryz.prog 133 18 s133 [.tmp 4] := ⟨Tryz.f133, _, Tryz.func133, rfl, Tryz.ntmps133, by kernel_rfl, by kernel_rfl⟩
theorem everyInt_nil (hn : 2 ≤ n) (hr : h.next < far) {ok : Value} : call n (.func (.func 133) #[] #[]) [nilS, ok] h = some (.bool true, h) := by
  obtain ⟨n, rfl⟩ : ∃ p, n = p + 1 := ⟨n - 1, by omega⟩
  refine call_plain0 fok133 rfl rfl (by simp) rfl ?_
  have hr : h.shutAll.next < far := hr
  generalize h.shutAll = h at hr
  simp only [rn0, reduceIte, Nat.reduceEqDiff, Nat.reduceAdd, Nat.reduceMul, Nat.reduceSub, Nat.reduceLeDiff, Nat.reduceLT, s133, jO, jF, jR, jS, jU, jA, jK, len_slice]
  refine W_loop 0 (fun k f g m => g = h ∧ m = [] ∧ f 7 = nilS ∧ f 8 = .int .i64 0 ∧ f 9 = .int .i64 0) (by simp; omega) ?_ ?_ ?_
  · simp only [rn0, reduceIte, Nat.reduceEqDiff, Nat.reduceAdd, Nat.reduceMul, Nat.reduceSub, Nat.reduceLeDiff, Nat.reduceLT, Int.natCast_zero]
    first | done | trivial
  · rintro k f g m hk _
    omega
  · rintro f g m ⟨rfl, rfl, p7, p8, p9⟩
    simp only [rn0, reduceIte, Nat.reduceEqDiff, Nat.reduceAdd, Nat.reduceMul, Nat.reduceSub, Nat.reduceLeDiff, Nat.reduceLT, p7, p8, p9, Int.lt_irrefl]
def InV (S : MS) (at_ : Int) : Prop := 0 ≤ at_ ∧ at_ ≤ (S.nv : Int) - 1
def OpenVR (h : AHeap) (S : MS) (wv vv sv : Value) (at_ : Int) (v : Value) (h' : AHeap) : Prop := (∀ i, i < h.next → h'.get i = h.get i) ∧ h.next ≤ h'.next ∧ h'.next ≤ h.next + 500100 ∧ h'.floor = h.floor ∧
  ((faultS S ≠ 0 ∧ v = .tuple ⟨[.agg ⟨wk0⟩, .int .i64 (faultS S)]⟩) ∨ (faultS S = 0 ∧ ¬ InV S at_ ∧ v = .tuple ⟨[.agg ⟨wk0⟩, .int .i64 2]⟩) ∨ (faultS S = 0 ∧ InV S at_ ∧ truthsS S = [] ∧ v = .tuple ⟨[.agg ⟨wk0⟩, .int .i64 11]⟩) ∨
    (faultS S = 0 ∧ InV S at_ ∧ truthsS S ≠ [] ∧ ∃ tv, v = .tuple ⟨[.agg ⟨wkL S wv vv sv tv⟩, .int .i64 0]⟩ ∧ oneCell tv = true ∧ TruthsR h' S tv (truthsS S) ∧ Long tv))
def s109 : SCode := (.seq (.ops [jO 3 (.box (T 0)), jO 4 (.box (T 1)), jO 6 (.alloc [(.int .i64 0), (.int .i64 0), (.slice none 0 0), (.int .i64 0), (.int .i64 0), (.slice none 0 0), (.slice none 0 0), (.slice none 0 0)]), jO 7 (.mov (jK 0))]) (.seq (.ops [jO 11 (.loadN 7 (T 3)), jO 12 (.call (.func 131) [(T 11)]), jO 10 (.mov (T 12)), jO 13 (.extract 0 (T 10)), jO 14 (.extract 1 (T 10)), jO 8 (.alloc [(.int .i64 0), (.int .i64 0), (.slice none 0 0), (.int .i64 0), (.int .i64 0), (.slice none 0 0), (.slice none 0 0), (.slice none 0 0)]), ⟨none, none, .store 8 (T 8) (T 13)⟩, jO 9 (.mov (T 14))]) (.seq (.block 0 (.seq (.ops [jO 16 (.mov (T 9)), jO 17 (.int2 .neq (T 16) (jK 0)), jO 15 (.mov (T 17))]) (.cond (T 15) (.seq (.ops [jO 18 (.build #[(0, 7), (7, 1)] [(.int .i64 0), (.int .i64 0), (.slice none 0 0), (.int .i64 0), (.int .i64 0), (.slice none 0 0), (.slice none 0 0), (.slice none 0 0)] [] []), jO 19 (.mov (T 9)), ⟨none, none, .store 8 (T 6) (T 18)⟩, jO 7 (.mov (T 19))]) .ret) (.seq (.ops [jO 21 (.loadN 8 (T 8)), jO 22 (.load1 (T 4)), jO 23 (.call (.func 132) [(T 21), (T 22)]), jO 24 (.not (T 23)), jO 25 (.mov (T 24)), ⟨some 26, (some (25, false)), .mov (T 2)⟩, ⟨some 27, (some (25, false)), .mkfunc 134 [] [(T 8), (T 4)]⟩, ⟨some 28, (some (25, false)), .call (.func 133) [(T 26), (T 27)]⟩, ⟨some 29, (some (25, false)), .not (T 28)⟩, jO 30 (.pick (T 25) (.const (.bool true)) (T 29)), jO 20 (.mov (T 30))]) (.cond (T 20) (.seq (.ops [jO 31 (.build #[(0, 7), (7, 1)] [(.int .i64 0), (.int .i64 0), (.slice none 0 0), (.int .i64 0), (.int .i64 0), (.slice none 0 0), (.slice none 0 0), (.slice none 0 0)] [] []), ⟨none, none, .store 8 (T 6) (T 31)⟩, jO 7 (.mov (jK 2))]) .ret) (.seq (.ops [jO 33 (.fieldAddr 7 (T 8)), jO 34 (.load1 (T 33)), jO 35 (.len (T 34)), jO 36 (.int2 .eql (T 35) (jK 0)), jO 32 (.mov (T 36))]) (.cond (T 32) (.seq (.ops [jO 37 (.build #[(0, 7), (7, 1)] [(.int .i64 0), (.int .i64 0), (.slice none 0 0), (.int .i64 0), (.int .i64 0), (.slice none 0 0), (.slice none 0 0), (.slice none 0 0)] [] []), ⟨none, none, .store 8 (T 6) (T 37)⟩, jO 7 (.mov (jK 11))]) .ret) .skip))))))) (.seq (.ops [jO 38 (.loadN 8 (T 8)), ⟨none, none, .store 8 (T 6) (T 38)⟩, jO 7 (.mov (jK 0))]) .ret))))
theorem fok109 : FnOk Tryz.prog 109 39 s109 [.cellN 6 8, .tmp 7] := ⟨Tryz.f109, _, Tryz.func109, rfl, Tryz.ntmps109, by kernel_rfl, by kernel_rfl⟩
set_option maxHeartbeats 1000000 in
theorem openVat_c (hn : 600 ≤ n) (hr : h.next + 700000 < far) (hfl : h.floor ≤ h.next) {wv vv sv : Value} {S : MS} (hy : SteepR h wv vv sv S) (hT : ThinS S) (at_ : Int) :
    ∃ v h', call n (.func (.func 109) #[] #[]) [.agg ⟨stL S wv vv sv⟩, .int .i64 at_, nilS] h = some (v, h') ∧ OpenVR h S wv vv sv at_ v h' := by
  obtain ⟨n, rfl⟩ : ∃ p, n = p + 1 := ⟨n - 1, by omega⟩
  refine call_any0 fok109 rfl rfl (by simp) ?_
  simp only [s109, jO, jF, jR, jS, jU, jA, jK, W_seq, W_ops]
  refine ops_box (cs := stL S wv vv sv) (by omega) rfl hy.one fun g1 hx1 => ?_
  have n1 := hx1.next
  have f1 := hx1.floor
  refine ops_box (cs := [.int .i64 at_]) (by omega) rfl rfl fun g2 hx2 => ?_
  have n2 := hx2.next
  have f2 := hx2.floor
  simp only [rn0, reduceIte, Nat.reduceEqDiff, Nat.reduceAdd, Nat.reduceMul, Nat.reduceSub, Nat.reduceLeDiff, Nat.reduceLT]
  refine step_row (cs := wk0) (by omega) rfl rfl fun g3 hx3 => ?_
  have n3 := hx3.next
  have f3 := hx3.floor
  have sub3 : Sub All h g3 := hx1.sub.trans (hx2.sub.trans hx3.sub)
  have w1 := ((hx1.row.mono hx2.sub).mono hx3.sub).whole (n := 7) rfl
  obtain ⟨pv, g4, eo, o4, u4, m4, f4, ho⟩ := open_c (n := n) (h := g3) (by omega) (by omega) (by omega) (hy.mono sub3) hT
  have old4 : ∀ i, i < h.next → g4.get i = h.get i := fun i hi => by rw [o4 i (by omega), hx3.old i (by omega), hx2.old i (by omega), hx1.old i hi]
  have q6 : g4.get g2.next = some (.row wk0 true 0) := by rw [o4 _ (by omega)]; exact hx3.get
  rcases ho with ⟨hf, rfl⟩ | ⟨hf, tv, rfl, hone, htr, htb, hlong⟩
  · simp only [rn0, reduceIte, Nat.reduceEqDiff, Nat.reduceAdd, Nat.reduceMul, Nat.reduceSub, Nat.reduceLeDiff, Nat.reduceLT, w1, eo, ex0, ex1]
    refine step_new (vs := wk0) (by omega) (by omega) rfl (by simp only [rn0, reduceIte, Nat.reduceEqDiff, Nat.reduceAdd, Nat.reduceMul, Nat.reduceSub, Nat.reduceLeDiff, Nat.reduceLT]; rfl) rfl rfl rfl fun g5 hx5 => ?_
    have n5 := hx5.next
    have f5 := hx5.floor
    simp only [rn0, reduceIte, Nat.reduceEqDiff, Nat.reduceAdd, Nat.reduceMul, Nat.reduceSub, Nat.reduceLeDiff, Nat.reduceLT, hf, build_wk0]
    refine step_store (b := g2.next) (off := 0) (vs := wk0) rfl (by rw [hx5.old _ (by omega)]; exact q6) (by omega) (by omega) rfl rfl rfl (by simp) fun g6 hs6 => ?_
    rw [splice_all (by rfl)] at hs6
    have n6 := hs6.next
    have f6 := hs6.floor
    simp only [rn0, reduceIte, Nat.reduceEqDiff, Nat.reduceAdd, Nat.reduceMul, Nat.reduceSub, Nat.reduceLeDiff, Nat.reduceLT, res_two, hs6.row.whole (n := 8) rfl]
    exact ⟨fun i hi => by rw [hs6.old i (by omega), hx5.old i (by omega), old4 i hi], by omega, by omega, by omega, .inl ⟨hf, rfl⟩⟩
  · have hG := good_of hf
    have how := wk_one (hy.mono sub3) (tv := tv) hone
    simp only [rn0, reduceIte, Nat.reduceEqDiff, Nat.reduceAdd, Nat.reduceMul, Nat.reduceSub, Nat.reduceLeDiff, Nat.reduceLT, w1, eo, ex0, ex1]
    refine step_new (vs := wkL S wv vv sv tv) (by omega) (by omega) rfl (by simp only [rn0, reduceIte, Nat.reduceEqDiff, Nat.reduceAdd, Nat.reduceMul, Nat.reduceSub, Nat.reduceLeDiff, Nat.reduceLT]; rfl) how rfl rfl fun g5 hx5 => ?_
    have n5 := hx5.next
    have f5 := hx5.floor
    have old5 : ∀ i, i < h.next → g5.get i = h.get i := fun i hi => by rw [hx5.old i (by omega), old4 i hi]
    have hy5 := hy.mono (AHeap.subOf old5)
    have w5 := hx5.row.whole (n := 8) rfl
    have r2 : Row g5 g1.next [.int .i64 at_] := ⟨true, 0, by rw [hx5.old _ (by omega), o4 _ (by omega), hx3.old _ (by omega)]; exact hx2.get⟩
    have ehv := hasVat_c (n := n) (h := g5) (tv := tv) (by omega) (by omega) hy5 hone at_
    have q5 : g5.get g2.next = some (.row wk0 true 0) := by rw [hx5.old _ (by omega)]; exact q6
    have een := everyInt_nil (n := n) (h := g5) (ok := .func (.func 134) ⟨[]⟩ ⟨[.pointer (some ⟨g4.next, 0, none⟩), .pointer (some ⟨g1.next, 0, none⟩)]⟩) (by omega) (by omega)
    have htr5 : TruthsR g5 S tv (truthsS S) := Cells.mono htr hx5.sub
    by_cases hv : InV S at_
    · have ed : decide (0 ≤ at_ ∧ at_ ≤ (S.nv : Int) - 1) = true := decide_eq_true hv
      rw [ed] at ehv
      by_cases hz : truthsS S = []
      · have hl0 : ((truthsS S).length : Int) = 0 := by rw [hz]; rfl
        simp only [rn0, reduceIte, Nat.reduceEqDiff, Nat.reduceAdd, Nat.reduceMul, Nat.reduceSub, Nat.reduceLeDiff, Nat.reduceLT, hf, w5, r2.ld, Nat.zero_add, List.getElem?_cons_zero, ehv, een, hx5.row.ld, wkg, Cells.len htr5, hl0, build_wk0]
        refine step_store (b := g2.next) (off := 0) (vs := wk0) rfl q5 (by omega) (by omega) rfl rfl rfl (by simp) fun g6 hs6 => ?_
        rw [splice_all (by rfl)] at hs6
        have n6 := hs6.next
        have f6 := hs6.floor
        simp only [rn0, reduceIte, Nat.reduceEqDiff, Nat.reduceAdd, Nat.reduceMul, Nat.reduceSub, Nat.reduceLeDiff, Nat.reduceLT, res_two, hs6.row.whole (n := 8) rfl]
        exact ⟨fun i hi => by rw [hs6.old i (by omega), old5 i hi], by omega, by omega, by omega, .inr (.inr (.inl ⟨hf, hv, hz, rfl⟩))⟩
      · have hl0 : ¬ ((truthsS S).length : Int) = 0 := fun e => hz (List.length_eq_zero_iff.1 (by omega))
        simp only [rn0, reduceIte, Nat.reduceEqDiff, Nat.reduceAdd, Nat.reduceMul, Nat.reduceSub, Nat.reduceLeDiff, Nat.reduceLT, hf, w5, r2.ld, Nat.zero_add, List.getElem?_cons_zero, ehv, een, hx5.row.ld, wkg, Cells.len htr5, hl0]
        refine step_store (b := g2.next) (off := 0) (vs := wkL S wv vv sv tv) rfl q5 (by omega) (by omega) rfl how rfl (by simp) fun g6 hs6 => ?_
        rw [splice_all (by rfl)] at hs6
        have n6 := hs6.next
        have f6 := hs6.floor
        simp only [rn0, reduceIte, Nat.reduceEqDiff, Nat.reduceAdd, Nat.reduceMul, Nat.reduceSub, Nat.reduceLeDiff, Nat.reduceLT, res_two, hs6.row.whole (n := 8) rfl]
        refine ⟨fun i hi => by rw [hs6.old i (by omega), old5 i hi], by omega, by omega, by omega, .inr (.inr (.inr ⟨hf, hv, hz, tv, rfl, hone, ?_, hlong⟩))⟩
        exact cells_at' htr5 fun a k c e => by
          have := htb a k c e
          exact hs6.old _ (by omega)
    · have ed : decide (0 ≤ at_ ∧ at_ ≤ (S.nv : Int) - 1) = false := decide_eq_false hv
      rw [ed] at ehv
      simp only [rn0, reduceIte, Nat.reduceEqDiff, Nat.reduceAdd, Nat.reduceMul, Nat.reduceSub, Nat.reduceLeDiff, Nat.reduceLT, hf, w5, r2.ld, Nat.zero_add, List.getElem?_cons_zero, ehv, build_wk0]
      refine step_store (b := g2.next) (off := 0) (vs := wk0) rfl q5 (by omega) (by omega) rfl rfl rfl (by simp) fun g6 hs6 => ?_
      rw [splice_all (by rfl)] at hs6
      have n6 := hs6.next
      have f6 := hs6.floor
      simp only [rn0, reduceIte, Nat.reduceEqDiff, Nat.reduceAdd, Nat.reduceMul, Nat.reduceSub, Nat.reduceLeDiff, Nat.reduceLT, res_two, hs6.row.whole (n := 8) rfl]
      exact ⟨fun i hi => by rw [hs6.old i (by omega), old5 i hi], by omega, by omega, by omega, .inr (.inl ⟨hf, hv, rfl⟩)⟩

theorem key89 : KeyOk Tryz.prog 177 key3 := keyOk3 ⟨⟨_, _, _, by rfl, by decide, by decide, by decide, rfl, rfl, rfl, by rfl, by rfl, by rfl⟩, by kernel_rfl⟩
def oneK (S : MS) (v : Nat) (t : Nat → Int) (j : Nat) (p : Int × Int × Int) : Int := if p.1 = (v : Int) ∧ S.vb v ≤ p.2.1 ∧ p.2.1 < S.vb v + (j : Int) ∧ p.2.2 = kindS S t v p.2.1 then 1 else 0
def sumK (S : MS) (v : Nat) (L : List (Nat → Int)) (p : Int × Int × Int) : Nat → Int
  | 0 => 0
  | k + 1 => sumK S v L p k + oneK S v (L.getD k fun _ => 0) (hoursN S v) p
def cntK (S : MS) (v : Nat) (L : List (Nat → Int)) (k j : Nat) (p : Int × Int × Int) : Int := sumK S v L p k + oneK S v (L.getD k fun _ => 0) j p
theorem cntK_zero {S : MS} {v : Nat} {L : List (Nat → Int)} : cntK S v L 0 0 = fun _ => 0 := by
  funext p
  simp only [cntK, sumK, oneK]
  rw [if_neg (by omega)]
  rfl
theorem cntK_end {S : MS} {v : Nat} {L : List (Nat → Int)} {k : Nat} : cntK S v L k (hoursN S v) = cntK S v L (k + 1) 0 := by
  funext p
  simp only [cntK, sumK]
  have : oneK S v (L.getD (k + 1) fun _ => 0) 0 p = 0 := by
    simp only [oneK]
    rw [if_neg (by omega)]
  rw [this]
  omega
theorem cntK_step {S : MS} {v : Nat} {L : List (Nat → Int)} {k j : Nat} : (fun q => if q = ((v : Int), S.vb v + (j : Int), kindS S (L.getD k fun _ => 0) v (S.vb v + (j : Int))) then cntK S v L k j ((v : Int), S.vb v + (j : Int), kindS S (L.getD k fun _ => 0) v (S.vb v + (j : Int))) + 1 else cntK S v L k j q) = cntK S v L k (j + 1) := by
  funext q
  by_cases e : q = ((v : Int), S.vb v + (j : Int), kindS S (L.getD k fun _ => 0) v (S.vb v + (j : Int)))
  · rw [if_pos e, e]
    simp only [cntK, oneK]
    rw [if_neg (by omega), if_pos ⟨trivial, by omega, by omega, trivial⟩]
    omega
  · rw [if_neg e]
    simp only [cntK, oneK]
    congr 1
    have : (q.1 = (v : Int) ∧ S.vb v ≤ q.2.1 ∧ q.2.1 < S.vb v + (j : Int) ∧ q.2.2 = kindS S (L.getD k fun _ => 0) v q.2.1) ↔ (q.1 = (v : Int) ∧ S.vb v ≤ q.2.1 ∧ q.2.1 < S.vb v + ((j + 1 : Nat) : Int) ∧ q.2.2 = kindS S (L.getD k fun _ => 0) v q.2.1) := by
      constructor
      · rintro ⟨a, b, c, d⟩; exact ⟨a, b, by omega, d⟩
      · rintro ⟨a, b, c, d⟩
        refine ⟨a, b, ?_, d⟩
        apply Classical.byContradiction
        intro hn
        have e1 : q.2.1 = S.vb v + (j : Int) := by omega
        rw [e1] at d
        exact e (Prod.ext a (Prod.ext e1 d))
    simp only [this]
theorem sumK_bound {S : MS} {v : Nat} {L : List (Nat → Int)} {p : Int × Int × Int} : ∀ k, 0 ≤ sumK S v L p k ∧ sumK S v L p k ≤ k
  | 0 => by simp [sumK]
  | k + 1 => by
    obtain ⟨h1, h2⟩ := sumK_bound (S := S) (v := v) (L := L) (p := p) k
    simp only [sumK, oneK]
    split <;> omega
theorem cntK_bound {S : MS} {v : Nat} {L : List (Nat → Int)} {k j : Nat} {p : Int × Int × Int} : 0 ≤ cntK S v L k j p ∧ cntK S v L k j p ≤ k + 1 := by
  obtain ⟨h1, h2⟩ := sumK_bound (S := S) (v := v) (L := L) (p := p) k
  simp only [cntK, oneK]
  split <;> omega
def s136 : SCode := (.seq (.ops [jO 2 (.box (T 0)), jO 4 (.mov (.const (.map none)))]) (.seq (.ops [jO 10 .mkmap, jO 5 (.mov (T 10))]) (.seq (.seq (.ops [jO 11 (.fieldAddr 7 (T 2)), jO 12 (.load1 (T 11)), jO 13 (.len (T 12)), jO 14 (.mov (jK 0))]) (.block 0 (.loop (.seq (.ops [jO 15 (.int2 .lss (T 14) (T 13))]) (.seq (.cond (T 15) .skip (.exit 0)) (.seq (.block 1 (.seq (.ops [jO 16 (.idxSl 11 (T 12) (T 14)), jO 17 (.loadN 11 (T 16)), jO 7 (.alloc [(.int .i64 0), (.int .i64 0), (.int .i64 0), (.int .i64 0), (.int .i64 0), (.int .i64 0), (.int .i64 0), (.int .i64 0), (.int .i64 0), (.int .i64 0), (.int .i64 0)]), ⟨none, none, .store 11 (T 7) (T 17)⟩]) (.seq (.ops [jO 18 (.build #[(0, 1)] [.nilFunc] [0] [(.func 148)]), jO 19 (.loadN 8 (T 2)), jO 20 (.loadN 11 (T 7)), jO 21 (.mov (T 1)), jO 22 (.call (.func 149) [(T 18), (T 19), (T 20), (T 21)]), jO 23 (.len (T 22)), jO 24 (.mov (jK 0))]) (.block 2 (.loop (.seq (.ops [jO 25 (.int2 .lss (T 24) (T 23))]) (.seq (.cond (T 25) .skip (.exit 2)) (.seq (.block 3 (.seq (.ops [jO 26 (.mov (T 24)), jO 27 (.idxSl 1 (T 22) (T 24)), jO 28 (.load1 (T 27)), jO 8 (.mov (T 26)), jO 9 (.mov (T 28))]) (.draw [jF 29 (.mov (T 5)), jF 30 (.mov (T 1)), jF 31 (.fieldAddr 0 (T 2)), jF 32 (.fieldAddr 5 (T 31)), jS 33 (.load1 (T 32)), jF 34 (.mov (T 1)), jF 35 (.idxSl 4 (T 33) (T 34)), jF 36 (.fieldAddr 0 (T 35)), jS 37 (.load1 (T 36)), jF 38 (.mov (T 8)), jF 39 (.int2 .add (T 37) (T 38)), jF 40 (.mov (T 9)), jF 41 (.build #[(0, 1), (1, 1), (2, 1)] [(.int .i64 0), (.int .i64 0), (.int .i64 0)] [0, 1, 2] [(T 30), (T 39), (T 40)]), ⟨.qc, jO 42 (.lookup 177 (.int .i64 0) false (T 29) (T 41))⟩, jF 43 (.int2 .add (T 42) (jK 1)), jU 44 (.mapEntry 177 (.int .i64 0) (T 29) (T 41)), jF 45 (.extract 1 (T 44)), ⟨.any, ⟨none, none, .entryStore (T 29) (T 45) (T 43)⟩⟩]))) (.ops [jO 46 (.int2 .add (T 24) (jK 1)), jO 24 (.mov (T 46))]))))))))) (.ops [jO 47 (.int2 .add (T 14) (jK 1)), jO 14 (.mov (T 47))]))))))) (.seq (.ops [jO 48 (.mov (T 5)), jO 4 (.mov (T 48))]) .ret))))
theorem fok136 : FnOk Tryz.prog 136 49 s136 [.tmp 4] := ⟨Tryz.f136, _, Tryz.func136, rfl, Tryz.ntmps136, by kernel_rfl, by kernel_rfl⟩
set_option maxHeartbeats 4000000 in
theorem kindsOf_c (hn : 2300 ≤ n) (hr : h.next + 200000 < far) (hfl : h.floor ≤ h.next) {wv vv sv tv : Value} {S : MS} (hy : SteepR h wv vv sv S) (ho : oneCell tv = true) (hG : Good S) {L : List (Nat → Int)} (hlen : L.length ≤ 2000) (hin : ∀ t, t ∈ L → InU S t) (htr : TruthsR h S tv L) {v : Nat} (hv : v < S.nv) :
    ∃ r h', call n (.func (.func 136) #[] #[]) [.agg ⟨wkL S wv vv sv tv⟩, .int .i64 (v : Int)] h = some (.map (some r), h') ∧ MapF h' r key3 (cntK S v L L.length 0) ∧ h.next ≤ r ∧
      Sub All h h' ∧ h.next ≤ h'.next ∧ h'.next ≤ h.next + 100000 ∧ h'.floor = h.floor := by
  obtain ⟨n, rfl⟩ : ∃ p, n = p + 1 := ⟨n - 1, by omega⟩
  suffices hsf : ∃ vv' h', call (n + 1) (.func (.func 136) #[] #[]) [.agg ⟨wkL S wv vv sv tv⟩, .int .i64 (v : Int)] h = some (vv', h') ∧ ∃ r, vv' = .map (some r) ∧ MapF h' r key3 (cntK S v L L.length 0) ∧ h.next ≤ r ∧ Sub All h h' ∧ h.next ≤ h'.next ∧ h'.next ≤ h.next + 100000 ∧ h'.floor = h.floor by
    obtain ⟨_, h', e, r, rfl, q⟩ := hsf
    exact ⟨r, h', e, q⟩
  obtain ⟨mh1, mh2, mh3⟩ := hoursN_ok hG hv
  refine call_any0 fok136 rfl rfl (by simp) ?_
  simp only [s136, jO, jF, jR, jS, jU, jA, jK, W_seq, W_ops]
  refine ops_box (cs := wkL S wv vv sv tv) (by omega) rfl (wk_one hy ho) fun g1 hx1 => ?_
  have n1 := hx1.next
  have f1 := hx1.floor
  obtain ⟨g2, em, hm2, ho2, n2, f2⟩ := mkmapF (h := g1) (by omega) key3
  have s12 : Sub All g1 g2 := AHeap.subOf ho2
  have s2 : Sub All h g2 := hx1.sub.trans s12
  have r2 := hx1.row.mono s12
  have hy2 := hy.mono s2
  have ht2 : TruthsR g2 S tv L := Cells.mono htr s2
  have hm2' : MapF g2 g1.next key3 (cntK S v L 0 0) := by rw [cntK_zero]; exact hm2
  have hH := fun (u : Nat → Int) (hu : InU S u) (g : AHeap) (hg : g.next + 200 < far) (hfg : g.floor ≤ g.next) (hyg : SteepR g wv vv sv S) => hourly_c (n := n) (h := g) (by omega) hg hfg hyg (tv := tv) ho hG (u := u) hv (G := 148) (val := fun hh => kindS S u v hh) fun gg hsub hgg hh hho => kindW_c (by omega) (by omega) (hyg.mono hsub) ho hG hu hho
  have hat : ∀ i, i < L.length → InU S (L.getD i fun _ => 0) := fun i hi => hin _ (getD_mem hi)
  simp only [rn0, reduceIte, Nat.reduceEqDiff, Nat.reduceAdd, Nat.reduceMul, Nat.reduceSub, Nat.reduceLeDiff, Nat.reduceLT, x_mkmap, em, r2.ld, wkg, Nat.zero_add, Cells.len ht2]
  refine W_loop L.length (fun k f g ms => (Sub All g2 g ∧ MapF g g1.next key3 (cntK S v L k 0) ∧ g2.next ≤ g.next ∧ g.next ≤ g2.next + 40 * k ∧ g.floor = h.floor) ∧ ms = [] ∧ f 1 = .int .i64 (v : Int) ∧ f 2 = .pointer (some ⟨h.next, 0, none⟩) ∧ f 5 = .map (some g1.next) ∧ f 12 = tv ∧ f 13 = .int .i64 (L.length : Int) ∧ f 14 = .int .i64 (k : Int)) (by simp; omega) ?_ ?_ ?_
  · simp only [rn0, reduceIte, Nat.reduceEqDiff, Nat.reduceAdd, Nat.reduceMul, Nat.reduceSub, Nat.reduceLeDiff, Nat.reduceLT]
    first | exact ⟨⟨hm2', by omega, by omega⟩, rfl⟩ | exact ⟨⟨Sub.refl, hm2', by omega, by omega, by omega⟩, rfl⟩
  · rintro k f g ms hk ⟨⟨sg, mg, ug, ng, fg⟩, rfl, p1, p2, p5, p12, p13, p14⟩
    have hk' : (k : Int) < (L.length : Int) := by omega
    have hw : wrapF .i64 ((k : Int) + 1) = ((k + 1 : Nat) : Int) := by rw [wrap_in (by omega) (by omega)]; rfl
    have htg : TruthsR g S tv L := Cells.mono ht2 sg
    have hyg := hy2.mono sg
    have rg := r2.mono sg
    simp only [rn0, reduceIte, Nat.reduceEqDiff, Nat.reduceAdd, Nat.reduceMul, Nat.reduceSub, Nat.reduceLeDiff, Nat.reduceLT, p1, p2, p5, p12, p13, p14, hk', Cells.idx htg hk, truths_ld htg hk]
    refine step_new (vs := tarr S (L.getD k fun _ => 0)) (by omega) (by omega) rfl (by simp only [rn0, reduceIte, Nat.reduceEqDiff, Nat.reduceAdd, Nat.reduceMul, Nat.reduceSub, Nat.reduceLeDiff, Nat.reduceLT]; rfl) tarr_one tarr_len rfl fun g4 hx4 => ?_
    have n4 := hx4.next
    have f4 := hx4.floor
    have rg4 := rg.mono hx4.sub
    obtain ⟨g5, b5, e5, i5, lb5, ub5, o5, u5, m5, f5⟩ := hH _ (hat k hk) g4 (by omega) (by omega) (hyg.mono hx4.sub)
    have s45 : Sub All g4 g5 := AHeap.subOf o5
    have mg5 : MapF g5 g1.next key3 (cntK S v L k 0) := (mg.keep (hx4.old _ mg.lt)).keep (o5 _ (by have := mg.lt; omega))
    simp only [rn0, reduceIte, Nat.reduceEqDiff, Nat.reduceAdd, Nat.reduceMul, Nat.reduceSub, Nat.reduceLeDiff, Nat.reduceLT, p1, p2, p5, p12, p13, p14, build_meas, rg4.whole (n := 8) rfl, hx4.row.whole tarr_len, e5, len_slice]
    refine W_loop (hoursN S v) (fun j f g' ms => (Sub All g5 g' ∧ MapF g' g1.next key3 (cntK S v L k j) ∧ g5.next ≤ g'.next ∧ g'.next ≤ g5.next + 0 * j ∧ g'.floor = h.floor) ∧ ms = [] ∧ f 1 = .int .i64 (v : Int) ∧ f 2 = .pointer (some ⟨h.next, 0, none⟩) ∧ f 5 = .map (some g1.next) ∧ f 12 = tv ∧ f 13 = .int .i64 (L.length : Int) ∧ f 14 = .int .i64 (k : Int) ∧ f 22 = .slice (some ⟨b5, 0, none⟩) (hoursN S v) (hoursN S v) ∧ f 23 = .int .i64 (hoursN S v : Int) ∧ f 24 = .int .i64 (j : Int)) (by simp; omega) ?_ ?_ ?_
    · simp only [rn0, reduceIte, Nat.reduceEqDiff, Nat.reduceAdd, Nat.reduceMul, Nat.reduceSub, Nat.reduceLeDiff, Nat.reduceLT, p1, p2, p5, p12, p13, p14]
      first | exact ⟨⟨mg5, by omega, by omega⟩, rfl⟩ | exact ⟨⟨Sub.refl, mg5, by omega, by omega, by omega⟩, rfl⟩
    · rintro j f g' ms hj ⟨⟨sg', mg', ug', ng', fg'⟩, rfl, p1, p2, p5, p12, p13, p14, p22, p23, p24⟩
      have hj' : (j : Int) < (hoursN S v : Int) := by omega
      have hwj : wrapF .i64 ((j : Int) + 1) = ((j + 1 : Nat) : Int) := by rw [wrap_in (by omega) (by omega)]; rfl
      have i5' := Cells.mono i5 sg'
      have s4' : Sub All g4 g' := s45.trans sg'
      have hy' := (hyg.mono hx4.sub).mono s4'
      have r' := rg4.mono s4'
      obtain ⟨⟨vb1, vb2⟩, _⟩ := hG.args.vat v hv
      obtain ⟨zl0, zl5, _⟩ := hG.sizes
      have hwb : wrapF .i64 (S.vb v + (j : Int)) = S.vb v + (j : Int) := wrap_in (by omega) (by omega)
      simp only [rn0, reduceIte, Nat.reduceEqDiff, Nat.reduceAdd, Nat.reduceMul, Nat.reduceSub, Nat.reduceLeDiff, Nat.reduceLT, p1, p2, p5, p12, p13, p14, p22, p23, p24, hj', Cells.idx i5' hj, Cells.ld i5' hj Nat.zero_lt_one]
      have hcs := cntK_step (S := S) (v := v) (L := L) (k := k) (j := j)
      generalize hx : kindS S (L.getD k fun _ => 0) v (S.vb v + (j : Int)) = x at hcs
      obtain ⟨c1, c2⟩ := cntK_bound (S := S) (v := v) (L := L) (k := k) (j := j) (p := ((v : Int), S.vb v + (j : Int), x))
      have hwc : wrapF .i64 (cntK S v L k j ((v : Int), S.vb v + (j : Int), x) + 1) = cntK S v L k j ((v : Int), S.vb v + (j : Int), x) + 1 := wrap_in (by omega) (by omega)
      refine W_drawT All (fun q => MapF q g1.next key3 (cntK S v L k j)) mg' ?_
      simp only [rn0, reduceIte, Nat.reduceEqDiff, Nat.reduceAdd, Nat.reduceMul, Nat.reduceSub, Nat.reduceLeDiff, Nat.reduceLT, dT_free, dT_rd1, sameT_some, p1, p2, p5, p12, p13, p14, p22, p23, p24, r'.ld, wkg, Nat.zero_add, Nat.add_zero, Cells.idx hy'.v hv, Cells.fld hy'.v hv, begin_ld hy' hv, hwb, build_sm, hx]
      refine dT_qc (v := .int .i64 (cntK S v L k j ((v : Int), S.vb v + (j : Int), x))) (fun q hs hT => ?_) eqV_int ?_
      · rw [x_lookup]
        simp only [rn0, reduceIte, Nat.reduceEqDiff, Nat.reduceAdd, Nat.reduceMul, Nat.reduceSub, Nat.reduceLeDiff, Nat.reduceLT, p1, p2, p5, p12, p13, p14, p22, p23, p24]
        exact lookupF key89 hT.shut ((v : Int), S.vb v + (j : Int), x)
      have mlt := mg'.lt
      obtain ⟨b, g6, e6, hs6, ht6⟩ := entryF (h := g') key89 mg' (by omega) (by omega) ((v : Int), S.vb v + (j : Int), x)
      have e6 : mapEntryA Tryz.prog 177 (.int .i64 0) g' (.map (some g1.next)) (.agg ⟨[.int .i64 (v : Int), .int .i64 (S.vb v + (j : Int)), .int .i64 x]⟩) = some (.tuple ⟨[.int .i64 (cntK S v L k j ((v : Int), S.vb v + (j : Int), x)), .int .i64 (b : Int)]⟩, g6) := e6
      have n6 := ht6.next
      have f6 := ht6.floor
      obtain ⟨g7, e7, hm7, ht7⟩ := entryStoreF (h := g6) hs6 (by omega) (by omega) (cntK S v L k j ((v : Int), S.vb v + (j : Int), x) + 1)
      rw [hcs] at hm7
      have n7 := ht7.next
      have f7 := ht7.floor
      have e7 : entryStoreA g6 (.map (some g1.next)) (.int .i64 (b : Int)) (.int .i64 (cntK S v L k j ((v : Int), S.vb v + (j : Int), x) + 1)) = some (undef, g7) := e7
      simp only [rn0, reduceIte, Nat.reduceEqDiff, Nat.reduceAdd, Nat.reduceMul, Nat.reduceSub, Nat.reduceLeDiff, Nat.reduceLT, dT_free, dT_up, dT_any, dT_nil, sameT_some, upT_some, x_mapEntry, x_entryStore, p1, p2, p5, p12, p13, p14, p22, p23, p24, hwc, e6, e7, extract_tup, List.getElem?_cons_zero, List.getElem?_cons_succ, hwj]
      have s7 : Sub All g' g7 := (ht6.sub mg').trans (ht7.sub hs6.map)
      exact ⟨⟨by omega, ht6.sub mg', hs6.map⟩, by omega, sg'.trans s7, hm7, by omega, by omega, by omega⟩
    · rintro f g' ms ⟨⟨sg', mg', ug', ng', fg'⟩, rfl, p1, p2, p5, p12, p13, p14, p22, p23, p24⟩
      rw [cntK_end] at mg'
      simp only [rn0, reduceIte, Nat.reduceEqDiff, Nat.reduceAdd, Nat.reduceMul, Nat.reduceSub, Nat.reduceLeDiff, Nat.reduceLT, p1, p2, p5, p12, p13, p14, p22, p23, p24, Int.lt_irrefl, hw]
      exact ⟨sg.trans (hx4.sub.trans (s45.trans sg')), mg', by omega, by omega, by omega⟩
  · rintro f g ms ⟨⟨sg, mg, ug, ng, fg⟩, rfl, p1, p2, p5, p12, p13, p14⟩
    simp only [rn0, reduceIte, Nat.reduceEqDiff, Nat.reduceAdd, Nat.reduceMul, Nat.reduceSub, Nat.reduceLeDiff, Nat.reduceLT, p1, p2, p5, p12, p13, p14, Int.lt_irrefl]
    exact ⟨_, rfl, mg, by omega, s2.trans sg, by omega, by omega, by omega⟩

section
variable {S : MS} {o : Nat} {b f : Int} {u : Nat → Int}
end
theorem cells_at {g : AHeap} {v : Value} {s m : Nat} {c : Nat → Nat → Value} (hc : Cells h v s m c) (he : ∀ a k cap, v = .slice (some a) k cap → a.block < h.next → g.get a.block = h.get a.block) : Cells g v s m c := by
  obtain ⟨a, cap, rfl, hsp, h0 | ⟨b, o, cs, w, gr, rfl, h1, h2⟩⟩ := hc
  · exact ⟨a, cap, rfl, hsp, .inl h0⟩
  · exact ⟨_, cap, rfl, hsp, .inr ⟨b, o, cs, w, gr, rfl, by rw [he _ _ _ rfl (AHeap.lt_of_get h1)]; exact h1, h2⟩⟩
theorem growC_congr {B s m : Nat} {v : Value} {c c' : Nat → Nat → Value} (hg : GrowC B h v s m c) (he : ∀ k j, k < m → j < s → c k j = c' k j) : GrowC B h v s m c' := by
  obtain ⟨cs, h1, h2, h3⟩ := hg
  exact ⟨cs, h1, h2, fun k j hk hj => by rw [h3 k j hk hj, he k j hk hj]⟩
theorem grow_push3 {B k s bytes : Nat} {v : Value} {c : Nat → Nat → Value} {g1 : AHeap} {row : List Value} (hg : GrowC B h v s k c) (hB : h.floor ≤ B) (hf : h.next + 2 < far) (hBn : B ≤ h.next) (hx : New h g1 row 0) (hlen : row.length = s) (hone : allB oneCell row = true) (hn : ∀ j, j < s → row[j]? = some (c k j)) (hb1 : (k + 1) * bytes ≤ maxBytes) (hb2 : k + 1 ≤ maxBytes) :
    ∃ g2, appendA s bytes g1 v (.slice (some ⟨h.next, 0, none⟩) 1 1) = some (.slice (some ⟨h.next + 1, 0, none⟩) (k + 1) unk, g2) ∧ GrowC B g2 (.slice (some ⟨h.next + 1, 0, none⟩) (k + 1) unk) s (k + 1) c ∧ g2.next = h.next + 2 ∧ g2.floor = h.floor ∧ (∀ i, i < h.next → NeB v i → g2.get i = h.get i) ∧ g1.next ≤ g2.next := by
  have hnx := hx.next
  have hfl := hx.floor
  have g1' : GrowC B g1 v s k c := hg.sub hx.sub
  obtain ⟨v', g2, e, ev, gv, hk2⟩ := g1'.append (bytes := bytes) (cap := 1) (by omega) (by omega) (by omega) hx.get hlen hone hn hb1 hb2
  rw [hnx] at ev
  subst ev
  have n2 := hk2.next
  have f2 := hk2.floor
  refine ⟨g2, e, gv, by omega, by omega, fun i hi hne => ?_, by omega⟩
  rw [hk2.old i (by omega) fun b m c e => hne b m c e, hx.old i (by omega)]
end Go.Vm.St

namespace Go.Vm.St
open Go.Proofs Go.Vm.Vat
set_option linter.unusedSimpArgs false
set_option linter.unusedVariables false
set_option maxRecDepth 10000
variable {n : Nat} {h : AHeap}

structure TruIn (h : AHeap) (v r1 r2 : Value) (S : MS) (u : Nat → Int) : Prop where
  tru : TruR h r1 r2 S u
  b1 : ∀ x m c, r1 = .slice (some x) m c → x.block < h.next ∧ NeB v x.block
  b2 : ∀ x m c, r2 = .slice (some x) m c → x.block < h.next ∧ NeB v x.block
def trsC (S : MS) (l : List (Nat → Int)) (R1 R2 : Nat → Value) (k j : Nat) : Value := if j = 0 then R1 k else if j = 1 then .int .i64 ((l.getD k fun _ => 0) S.nw) else R2 k
structure TrsG (B : Nat) (h : AHeap) (v : Value) (S : MS) (l : List (Nat → Int)) (R1 R2 : Nat → Value) : Prop where
  g : GrowC B h v 3 l.length (trsC S l R1 R2)
  t : ∀ k, k < l.length → TruIn h v (R1 k) (R2 k) S (l.getD k fun _ => 0)
def TruthsL (h : AHeap) (v : Value) (S : MS) (l : List (Nat → Int)) : Prop := ∃ R1 R2 : Nat → Value, Cells h v 3 l.length (trsC S l R1 R2) ∧ ∀ k, k < l.length → TruR h (R1 k) (R2 k) S (l.getD k fun _ => 0)
theorem TrsG.nil {B : Nat} {S : MS} : TrsG B h nilS S [] (fun _ => nilS) (fun _ => nilS) := ⟨.nil, fun k hk => absurd hk (Nat.not_lt_zero _)⟩
theorem TrsG.out {B : Nat} {v : Value} {S : MS} {l : List (Nat → Int)} {R1 R2 : Nat → Value} (ht : TrsG B h v S l R1 R2) : TruthsL h v S l := ⟨R1, R2, ht.g.cells, fun k hk => (ht.t k hk).tru⟩
theorem TruIn.old {g : AHeap} {v r1 r2 : Value} {S : MS} {u : Nat → Int} (ht : TruIn h v r1 r2 S u) (ho : ∀ i, i < h.next → NeB v i → g.get i = h.get i) (hn : h.next ≤ g.next) : TruIn g v r1 r2 S u :=
  ⟨⟨cells_at ht.tru.w fun a k c e hlt => ho _ hlt (ht.b1 a k c e).2, cells_at ht.tru.f fun a k c e hlt => ho _ hlt (ht.b2 a k c e).2⟩, fun x m c e => ⟨by have := (ht.b1 x m c e).1; omega, (ht.b1 x m c e).2⟩, fun x m c e => ⟨by have := (ht.b2 x m c e).1; omega, (ht.b2 x m c e).2⟩⟩
theorem TrsG.old {B : Nat} {g : AHeap} {v : Value} {S : MS} {l : List (Nat → Int)} {R1 R2 : Nat → Value} (ht : TrsG B h v S l R1 R2) (ho : ∀ i, i < h.next → g.get i = h.get i) (hn : h.next ≤ g.next) : TrsG B g v S l R1 R2 :=
  ⟨GrowC.at' ht.g fun a k c e => ho _ (ht.g.block e).2, fun k hk => (ht.t k hk).old (fun i hi _ => ho i hi) hn⟩
theorem TrsG.push {B : Nat} {g1 : AHeap} {v r1 r2 : Value} {S : MS} {l : List (Nat → Int)} {R1 R2 : Nat → Value} {u : Nat → Int} (ht : TrsG B h v S l R1 R2) (hB : h.floor ≤ B) (hf : h.next + 2 < far) (hBn : B ≤ h.next) (hx : New h g1 (trL r1 r2 (u S.nw)) 0) (hu : TruIn h v r1 r2 S u) (o1 : oneCell r1 = true) (o2 : oneCell r2 = true) (hl : l.length ≤ 5000) :
    ∃ v' g2, appendA 3 56 g1 v (.slice (some ⟨h.next, 0, none⟩) 1 1) = some (v', g2) ∧ TrsG B g2 v' S (l ++ [u]) (fun k => if k = l.length then r1 else R1 k) (fun k => if k = l.length then r2 else R2 k) ∧ oneCell v' = true ∧ g2.next = h.next + 2 ∧ g2.floor = h.floor ∧ (∀ i, i < h.next → NeB v i → g2.get i = h.get i) := by
  have hlen : (l ++ [u]).length = l.length + 1 := by simp
  have hg : GrowC B h v 3 l.length (trsC S (l ++ [u]) (fun k => if k = l.length then r1 else R1 k) (fun k => if k = l.length then r2 else R2 k)) := growC_congr ht.g fun k j hk hj => by
    have : ¬ k = l.length := by omega
    simp only [trsC, this, if_false]
    rw [List.getD_eq_getElem?_getD, List.getD_eq_getElem?_getD, List.getElem?_append_left hk]
  obtain ⟨g2, e, gv, n2, f2, o2', u2⟩ := grow_push3 (bytes := 56) hg hB hf hBn hx rfl (by simp [trL, allB, o1, o2, one_int]) (fun j hj => by
    have hlast : ((l ++ [u]).getD l.length fun _ => 0) = u := by rw [List.getD_eq_getElem?_getD, List.getElem?_append_right (Nat.le_refl _)]; simp
    simp only [trsC, if_true, hlast]
    rcases j with _ | _ | _ | j
    · rfl
    · rfl
    · rfl
    · omega) (by simp [maxBytes]; omega) (by simp [maxBytes]; omega)
  refine ⟨_, g2, e, ⟨by rw [hlen]; exact gv, fun k hk => ?_⟩, rfl, n2, f2, o2'⟩
  have fresh : ∀ i, i < h.next → NeB (.slice (some ⟨h.next + 1, 0, none⟩) (l.length + 1) unk) i := fun i hi b m c e => by cases e; show i ≠ h.next + 1; omega
  have re : ∀ {a b : Value} {w : Nat → Int}, TruIn h v a b S w → TruIn g2 (.slice (some ⟨h.next + 1, 0, none⟩) (l.length + 1) unk) a b S w := fun {a b w} hi => by
    have h1 := hi.old (g := g2) o2' (by omega)
    exact ⟨h1.tru, fun x m c e => ⟨(h1.b1 x m c e).1, fresh _ (hi.b1 x m c e).1⟩, fun x m c e => ⟨(h1.b2 x m c e).1, fresh _ (hi.b2 x m c e).1⟩⟩
  by_cases c : k = l.length
  · subst c
    have hlast : ((l ++ [u]).getD l.length fun _ => 0) = u := by rw [List.getD_eq_getElem?_getD, List.getElem?_append_right (Nat.le_refl _)]; simp
    simp only [if_true, hlast]
    exact re hu
  · have hk' : k < l.length := by omega
    simp only [c, if_false]
    rw [List.getD_eq_getElem?_getD, List.getElem?_append_left hk', ← List.getD_eq_getElem?_getD]
    exact re (ht.t k hk')
theorem cells_lt {v : Value} {s m : Nat} {c : Nat → Nat → Value} (hc : Cells h v s m c) (hm : 0 < m) {a : Addr} {k cap : Nat} (e : v = .slice (some a) k cap) : a.block < h.next := by
  obtain ⟨a', c', e', _, hz | ⟨b, o, cs, w, gr, e2, e3, _⟩⟩ := hc
  · omega
  · rw [e] at e'
    cases e'
    cases e2
    exact AHeap.lt_of_get e3
theorem sl_tr {x1 x2 : Option Addr} {m1 m2 k1 k2 : Nat} {sp : Int} : buildSl 3 1 [.slice none 0 0, .int .i64 0, .slice none 0 0] [0] h [.agg ⟨trL (.slice x1 m1 k1) (.slice x2 m2 k2) sp⟩] = newSlice h (trL (.slice x1 m1 k1) (.slice x2 m2 k2) sp) 1 1 0 := by
  unfold buildSl
  have e : Instr.fill (fun i => some (i * 3, 3)) ⟨repl [Value.slice none 0 0, .int .i64 0, .slice none 0 0] 1⟩ ([0].zip [.agg ⟨trL (.slice x1 m1 k1) (.slice x2 m2 k2) sp⟩]) = some #[.slice x1 m1 k1, .int .i64 sp, .slice x2 m2 k2] := by
    simp [Instr.fill, Value.cells, repl, app_eq, trL]
  rw [e]
  rfl
open Classical in
noncomputable def refTo (S : MS) (k : Nat) : List (Nat → Int) := ((List.range k).map (nthU S)).filter fun u => decide (∀ k, k < S.ns → RightS S u k)
noncomputable def refTruths (S : MS) : List (Nat → Int) := refTo S (manyS S).toNat
open Classical in
theorem refTo_succ {S : MS} {k : Nat} : refTo S (k + 1) = if ∀ j, j < S.ns → RightS S (nthU S k) j then refTo S k ++ [nthU S k] else refTo S k := by
  unfold refTo
  rw [List.range_succ, List.map_append, List.filter_append]
  by_cases c : ∀ j, j < S.ns → RightS S (nthU S k) j
  · rw [if_pos c, List.map_cons, List.map_nil, List.filter_cons, List.filter_nil, if_pos (decide_eq_true c)]
  · rw [if_neg c, List.map_cons, List.map_nil, List.filter_cons, List.filter_nil, if_neg (by simpa using c), List.append_nil]
theorem refTo_len {S : MS} {k : Nat} : (refTo S k).length ≤ k := by
  unfold refTo
  exact Nat.le_trans (List.length_filter_le _ _) (by simp)
def s40 : SCode := (.seq (.ops [jO 1 (.box (T 0)), jO 2 (.mov (.const (.slice none 0 0)))]) (.seq (.ops [jO 3 (.mov (.const (.slice none 0 0)))]) (.seq (.seq (.ops [jO 4 (.mov (jK 0))]) (.block 0 (.loop (.seq (.seq (.ops [jO 6 (.mov (T 4)), jO 7 (.loadN 7 (T 1)), jO 8 (.call (.func 72) [(T 7)]), jO 9 (.int2 .lss (T 6) (T 8))]) (.cond (T 9) .skip (.exit 0))) (.seq (.block 1 (.seq (.ops [jO 12 (.loadN 7 (T 1)), jO 13 (.mov (T 4)), jO 14 (.call (.func 89) [(T 12), (T 13)]), jO 5 (.alloc [(.slice none 0 0), (.int .i64 0), (.slice none 0 0)]), ⟨none, none, .store 3 (T 5) (T 14)⟩]) (.seq (.draw [jS 15 (.loadN 7 (T 1)), jS 16 (.loadN 3 (T 5)), jU 17 (.call (.func 90) [(T 15), (T 16)]), jR 18 (.loadN 7 (T 1)), jA 19 (.call (.func 91) [(T 18)]), jF 20 (.int2 .eql (T 17) (T 19))]) (.cond (T 20) (.ops [jO 21 (.mov (T 3)), jO 22 (.loadN 3 (T 5)), jO 23 (.bslice 3 1 [(.slice none 0 0), (.int .i64 0), (.slice none 0 0)] [0] [(T 22)]), jO 24 (.append 3 56 (T 21) (T 23)), jO 3 (.mov (T 24))]) .skip)))) (.ops [jO 10 (.mov (T 4)), jO 11 (.int2 .add (T 10) (jK 1)), jO 4 (.mov (T 11))])))))) (.seq (.ops [jO 25 (.mov (T 3)), jO 2 (.mov (T 25))]) .ret))))
theorem fok40 : FnOk Tryz.prog 40 26 s40 [.tmp 2] := ⟨Tryz.f40, _, Tryz.func40, rfl, Tryz.ntmps40, by kernel_rfl, by kernel_rfl⟩
set_option maxHeartbeats 1000000 in
theorem truthsRef_c (hn : 2200 ≤ n) (hr : h.next + 1000000 < far) (hfl : h.floor ≤ h.next) {wv vv sv : Value} {S : MS} (hy : SteepR h wv vv sv S) (hG : Good S) :
    ∃ v h', call n (.func (.func 40) #[] #[]) [.agg ⟨stL S wv vv sv⟩] h = some (v, h') ∧ TruthsL h' v S (refTruths S) ∧ oneCell v = true ∧ (∀ i, i < h.next → h'.get i = h.get i) ∧ h.next ≤ h'.next ∧ h'.next ≤ h.next + 500000 ∧ h'.floor = h.floor := by
  obtain ⟨n, rfl⟩ : ∃ p, n = p + 1 := ⟨n - 1, by omega⟩
  refine call_any0 fok40 rfl rfl (by simp) ?_
  simp only [s40, jO, jF, jR, jS, jU, jA, jK, W_seq, W_ops]
  refine ops_box (cs := stL S wv vv sv) (by omega) rfl hy.one fun g1 hx1 => ?_
  have n1 := hx1.next
  have f1' := hx1.floor
  have r1 := hx1.row
  have hy1 := hy.mono hx1.sub
  obtain ⟨mp1, mp2⟩ := many_pos hG
  obtain ⟨_, _, zw, z6, z4, z5, _⟩ := hG.sizes
  obtain ⟨M, hM⟩ : ∃ M : Nat, (M : Int) = manyS S := ⟨(manyS S).toNat, by omega⟩
  have hM' : refTruths S = refTo S M := by unfold refTruths; rw [← hM]; rfl
  simp only [rn0, reduceIte, Nat.reduceEqDiff, Nat.reduceAdd, Nat.reduceMul, Nat.reduceSub, Nat.reduceLeDiff, Nat.reduceLT]
  refine W_loop M (fun k f g ms => (∃ v R1 R2, (∀ i, i < g1.next → g.get i = g1.get i) ∧ g.floor = h.floor ∧ g1.next ≤ g.next ∧ g.next ≤ g1.next + 210 * k ∧ TrsG g1.next g v S (refTo S k) R1 R2 ∧ f 3 = v) ∧ ms = [] ∧ f 1 = .pointer (some ⟨h.next, 0, none⟩) ∧ f 4 = .int .i64 (k : Int)) (by simp; omega) ?_ ?_ ?_
  · simp only [rn0, reduceIte, Nat.reduceEqDiff, Nat.reduceAdd, Nat.reduceMul, Nat.reduceSub, Nat.reduceLeDiff, Nat.reduceLT]
    exact ⟨⟨_, _, _, fun i _ => trivial, by omega, by omega, (by rw [show refTo S 0 = [] from rfl]; exact TrsG.nil), rfl⟩, rfl⟩
  · rintro k f g ms hk ⟨⟨v, R1, R2, hs, hfg, hup, hnx, ht, p3⟩, rfl, p1, p4⟩
    have hk' : (k : Int) < manyS S := by omega
    have hw : wrapF .i64 ((k : Int) + 1) = ((k + 1 : Nat) : Int) := by rw [wrap_in (by omega) (by omega)]; rfl
    have hyg := hy1.mono (AHeap.subOf hs)
    have rg := r1.mono (AHeap.subOf hs)
    have em := many_c (n := n) (h := g) (by omega) (by omega) hyg hG.args (by omega)
    obtain ⟨tw, tf, ga, ea, hta, oa, ua, ma, fa, bwa, bfa, gwa, sepa⟩ := nthG_c (n := n) (h := g) (by omega) (by omega) (by omega) hyg hG (m := k) (by omega)
    have hu := nthU_in (S := S) (m := k) hG
    have tia : TruIn ga v tw tf S (nthU S k) := ⟨hta, fun x m c e => ⟨cells_lt hta.w (by omega) e, neB_of ht.g (by right; exact bwa x m c e)⟩, fun x m c e => ⟨(gwa.block e).2, neB_of ht.g (by right; exact bfa x m c e)⟩⟩
    obtain ⟨x1, c1, rfl⟩ := ints_slice hta.w
    obtain ⟨x2, c2, rfl⟩ := ints_slice hta.f
    simp only [rn0, reduceIte, Nat.reduceEqDiff, Nat.reduceAdd, Nat.reduceMul, Nat.reduceSub, Nat.reduceLeDiff, Nat.reduceLT, p1, p3, p4, rg.whole (n := 7) rfl, em, hk', ea]
    refine step_new (vs := trL (.slice x1 S.nw c1) (.slice x2 S.nv c2) (nthU S k S.nw)) (by omega) (by omega) rfl (by simp only [rn0, reduceIte, Nat.reduceEqDiff, Nat.reduceAdd, Nat.reduceMul, Nat.reduceSub, Nat.reduceLeDiff, Nat.reduceLT]; rfl) rfl rfl rfl fun gb hxb => ?_
    have nb := hxb.next
    have fb := hxb.floor
    have ob : ∀ i, i < g.next → gb.get i = g.get i := fun i hi => by rw [hxb.old i (by omega), oa i hi]
    have tib : TruIn gb v (.slice x1 S.nw c1) (.slice x2 S.nv c2) S (nthU S k) := tia.old (fun i hi _ => hxb.old i hi) (by omega)
    have htb := ht.old ob (by omega)
    have hyb := hyg.mono (AHeap.subOf ob)
    have rgb := rg.mono (AHeap.subOf ob)
    have wb := hxb.row.whole (n := 3) rfl
    have er := right_c (n := n) (h := gb) (by omega) (by omega) hyb tib.tru hG hu
    have ef := full_c (n := n) (h := gb) (by omega) (by omega) hyb (by omega)
    have hsf := bitsP_full (RightS S (nthU S k)) S.ns
    simp only [rn0, reduceIte, Nat.reduceEqDiff, Nat.reduceAdd, Nat.reduceMul, Nat.reduceSub, Nat.reduceLeDiff, Nat.reduceLT]
    refine W_draw All ?_
    by_cases hR : ∀ j, j < S.ns → RightS S (nthU S k) j
    · have e : ((bitsP (RightS S (nthU S k)) S.ns : Nat) : Int) = ((2 ^ S.ns - 1 : Nat) : Int) := by rw [hsf.2 hR]
      simp only [rn0, reduceIte, Nat.reduceEqDiff, Nat.reduceAdd, Nat.reduceMul, Nat.reduceSub, Nat.reduceLeDiff, Nat.reduceLT, p1, p3, p4, rgb.whole (n := 7) rfl, wb, hyb.self, er, ef, e, sl_tr]
      refine step_slice (by omega) rfl fun gc hxc => ?_
      have nc := hxc.next
      have fc := hxc.floor
      obtain ⟨v', gd, ed, htd, od, nd, fd, oldd⟩ := htb.push (by omega) (by omega) (by omega) hxc tib rfl rfl (Nat.le_trans refTo_len (by omega))
      simp only [rn0, reduceIte, Nat.reduceEqDiff, Nat.reduceAdd, Nat.reduceMul, Nat.reduceSub, Nat.reduceLeDiff, Nat.reduceLT, p1, p3, p4, ed, hw]
      have hfin := And.intro (fun i (hi : i < g1.next) => (by rw [oldd i (by omega) (neB_of ht.g (by left; exact hi)), ob i (by omega), hs i hi] : gd.get i = g1.get i)) (And.intro (by omega : gd.floor = h.floor) (And.intro (by omega : g1.next ≤ gd.next) (And.intro (by omega : gd.next ≤ g1.next + 210 * (k + 1)) (And.intro (show TrsG g1.next gd v' S (refTo S (k + 1)) _ _ by rw [refTo_succ, if_pos hR]; exact htd) (rfl : v' = v')))))
      first | exact ⟨⟨v', _, _, hfin⟩, rfl⟩ | exact ⟨v', _, _, hfin⟩
    · have e : ¬ ((bitsP (RightS S (nthU S k)) S.ns : Nat) : Int) = ((2 ^ S.ns - 1 : Nat) : Int) := fun e => hR (hsf.1 (by omega))
      simp only [rn0, reduceIte, Nat.reduceEqDiff, Nat.reduceAdd, Nat.reduceMul, Nat.reduceSub, Nat.reduceLeDiff, Nat.reduceLT, p1, p3, p4, rgb.whole (n := 7) rfl, wb, hyb.self, er, ef, e, hw]
      have hfin := And.intro (fun i (hi : i < g1.next) => (by rw [ob i (by omega), hs i hi] : gb.get i = g1.get i)) (And.intro (by omega : gb.floor = h.floor) (And.intro (by omega : g1.next ≤ gb.next) (And.intro (by omega : gb.next ≤ g1.next + 210 * (k + 1)) (And.intro (show TrsG g1.next gb v S (refTo S (k + 1)) _ _ by rw [refTo_succ, if_neg hR]; exact htb) (rfl : v = v)))))
      first | exact ⟨⟨v, _, _, hfin⟩, rfl⟩ | exact ⟨v, _, _, hfin⟩
  · rintro f g ms ⟨⟨v, R1, R2, hs, hfg, hup, hnx, ht, p3⟩, rfl, p1, p4⟩
    have hyg := hy1.mono (AHeap.subOf hs)
    have rg := r1.mono (AHeap.subOf hs)
    have em := many_c (n := n) (h := g) (by omega) (by omega) hyg hG.args (by omega)
    rw [hM] at p4
    simp only [rn0, reduceIte, Nat.reduceEqDiff, Nat.reduceAdd, Nat.reduceMul, Nat.reduceSub, Nat.reduceLeDiff, Nat.reduceLT, p1, p3, p4, rg.whole (n := 7) rfl, em, Int.lt_irrefl]
    rw [hM']
    exact ⟨ht.out, ht.g.one, fun i hi => by rw [hs i (by omega), hx1.old i hi], by omega, by omega, by omega⟩

theorem unpos_pos {S : MS} {i : Nat} : unpos S (posU S i) = i := by
  unfold unpos posU
  by_cases c1 : i < S.nw
  · rw [if_pos c1, if_neg (by omega), if_pos (by omega)]; omega
  · rw [if_neg c1]
    by_cases c2 : i = S.nw
    · rw [if_pos c2, if_pos rfl, c2]
    · rw [if_neg c2, if_neg (by omega), if_neg (by omega)]
theorem sizeR {S : MS} : sizeN (rLo S) (rHi S) (numU S) = sizeN (uLo S) (uHi S) (numU S) := by
  rw [sizeU]
  have e : numU S = (1 + S.nw) + S.nv := by unfold numU; omega
  rw [e, sizeN_split, sizeN_split]
  have e1 : sizeN (rLo S) (rHi S) 1 = S.sphi - S.splo + 1 := by simp [sizeN, rLo, rHi]
  have e2 : sizeN (fun k => rLo S (1 + k)) (fun k => rHi S (1 + k)) S.nw = sizeN S.wlo S.whi S.nw := sizeN_congr _ fun k hk => by
    simp only [rLo, rHi]
    rw [if_neg (by omega), if_pos (by omega), if_neg (by omega), if_pos (by omega), show 1 + k - 1 = k by omega]
    exact ⟨rfl, rfl⟩
  have e3 : sizeN (fun k => rLo S (1 + S.nw + k)) (fun k => rHi S (1 + S.nw + k)) S.nv = sizeN S.vlo S.vhi S.nv := by
    by_cases c : S.nv = 0
    · rw [c]; rfl
    refine sizeN_congr _ fun k hk => ?_
    simp only [rLo, rHi]
    rw [if_neg (by omega), if_neg (by omega), if_neg (by omega), if_neg (by omega), show 1 + S.nw + k - S.nw - 1 = k by omega]
    exact ⟨rfl, rfl⟩
  rw [e1, e2, e3, ← Int.mul_assoc, Int.mul_comm (sizeN S.wlo S.whi S.nw)]
theorem refTruths_mem {S : MS} (hG : Good S) {x : Nat → Int} : x ∈ refTruths S ↔ x ∈ truthsS S := by
  have hr : ∀ j, j < numU S → rLo S j ≤ rHi S j := fun j hj => (hG.r hj).2.1
  have h1 := many_size hG.args
  have h2 := hG.few
  have hprod := sizeN_prod (lo := rLo S) (hi := rHi S) (numU S) 0
  simp only [Nat.zero_add, sizeN, Int.one_mul] at hprod
  have hpN := prodN_from (lo := rLo S) (hi := rHi S) (numU S) 0 fun j _ hj => hr j (by omega)
  have hsR := sizeR (S := S)
  obtain ⟨mp1, _⟩ := many_pos hG
  have hM : (manyS S).toNat = prodN (sz (rLo S) (rHi S)) (numU S) 0 := by omega
  rw [truths_mem]
  unfold refTruths refTo
  rw [List.mem_filter, List.mem_map]
  simp only [List.mem_range, decide_eq_true_eq]
  constructor
  · rintro ⟨⟨m, _, rfl⟩, h2⟩
    exact ⟨⟨nthU_in hG, fun j hj => by rw [nthU, if_neg (by omega)]⟩, h2⟩
  · rintro ⟨⟨h1, h2⟩, h3⟩
    have hin : ∀ j, j < numU S → rLo S j ≤ x (unpos S j) ∧ x (unpos S j) ≤ rHi S j := fun j hj => by
      have := h1 (unpos S j) (unpos_lt hj)
      have e := r_pos (S := S) (i := unpos S j)
      rw [pos_unpos] at e
      rw [e.1, e.2]
      exact this
    have hd : ∀ j, j < numU S → (x (unpos S j) - rLo S j).toNat < sz (rLo S) (rHi S) j := fun j hj => by
      have := hin j hj
      show (x (unpos S j) - rLo S j).toNat < (rHi S j - rLo S j + 1).toNat
      omega
    refine ⟨⟨encF (sz (rLo S) (rHi S)) (fun j => (x (unpos S j) - rLo S j).toNat) (numU S) 0, ?_, ?_⟩, h3⟩
    · rw [hM]
      exact encF_lt (numU S) 0 fun j _ hj => hd j (by omega)
    · funext i
      by_cases hi : i < numU S
      · have hp := pos_lt hi
        have hq := hin _ hp
        rw [nthU, if_pos hi]
        unfold digU
        rw [show rSz S = sz (rLo S) (rHi S) from rfl, encF_mod hd hp]
        rw [unpos_pos] at hq ⊢
        omega
      · rw [nthU, if_neg hi, h2 i (by omega)]

theorem trs_ld {S : MS} {l : Value} {L : List (Nat → Int)} {R1 R2 : Nat → Value} (hc : Cells h l 3 L.length (trsC S L R1 R2)) {k : Nat} (hk : k < L.length) : loadAgg 3 h (ptrO l 3 k 0) = some (.agg ⟨trL (R1 k) (R2 k) ((L.getD k fun _ => 0) S.nw)⟩) := by
  rw [Cells.ldN hc hk (by omega) (by omega)]; simp [List.range_succ, trsC, trL]

noncomputable def verdS (S : MS) (v : Nat) (hh kk : Int) (L : List (Nat → Int)) : Int := open Classical in if ∀ t, t ∈ L → kindS S t v hh ≠ kk then 2 else if ∀ t, t ∈ L → kindS S t v hh = kk then 1 else 3
theorem sumK_at {S : MS} {v : Nat} {L : List (Nat → Int)} {hh kk : Int} (hG : Good S) (ho : HourOk S v hh) : ∀ k, (sumK S v L ((v : Int), hh, kk) k = 0 ↔ ∀ i, i < k → kindS S (L.getD i fun _ => 0) v hh ≠ kk) ∧ (sumK S v L ((v : Int), hh, kk) k = k ↔ ∀ i, i < k → kindS S (L.getD i fun _ => 0) v hh = kk)
  | 0 => by simp [sumK]
  | k + 1 => by
    obtain ⟨h1, h2⟩ := sumK_at hG ho (L := L) (kk := kk) k
    obtain ⟨b1, b2⟩ := sumK_bound (S := S) (v := v) (L := L) (p := ((v : Int), hh, kk)) k
    obtain ⟨m1, _⟩ := hoursN_ok hG ho.isV
    have hlo := ho.isLo
    have hhi := ho.isHi
    have e : oneK S v (L.getD k fun _ => 0) (hoursN S v) ((v : Int), hh, kk) = if kk = kindS S (L.getD k fun _ => 0) v hh then 1 else 0 := by
      unfold oneK
      by_cases c : kk = kindS S (L.getD k fun _ => 0) v hh
      · rw [if_pos ⟨rfl, hlo, by show hh < _; omega, c⟩, if_pos c]
      · rw [if_neg fun q => c q.2.2.2, if_neg c]
    simp only [sumK]
    rw [e]
    by_cases c : kk = kindS S (L.getD k fun _ => 0) v hh
    · rw [if_pos c]
      constructor
      · constructor
        · intro q; omega
        · intro q; exact absurd c.symm (q k (by omega))
      · constructor
        · intro q i hi
          have q' : sumK S v L ((v : Int), hh, kk) k = k := by omega
          by_cases e : i = k
          · rw [e]; exact c.symm
          · exact h2.1 q' i (by omega)
        · intro q
          have := h2.2 fun i hi => q i (by omega)
          omega
    · rw [if_neg c]
      constructor
      · constructor
        · intro q i hi
          have q' : sumK S v L ((v : Int), hh, kk) k = 0 := by omega
          by_cases e : i = k
          · rw [e]; exact fun q => c q.symm
          · exact h1.1 q' i (by omega)
        · intro q
          have := h1.2 fun i hi => q i (by omega)
          omega
      · constructor
        · intro q; omega
        · intro q; exact absurd (q k (by omega)).symm c
theorem all_at {L : List (Nat → Int)} {p : (Nat → Int) → Prop} : (∀ i, i < L.length → p (L.getD i fun _ => 0)) ↔ ∀ t, t ∈ L → p t := by
  constructor
  · intro hp t ht
    obtain ⟨i, hi, e⟩ := mem_getD ht
    rw [← e]
    exact hp i hi
  · intro hp i hi
    exact hp _ (getD_mem hi)
theorem cntK_all {S : MS} {v : Nat} {L : List (Nat → Int)} {p : Int × Int × Int} : cntK S v L L.length 0 p = sumK S v L p L.length := by
  simp only [cntK, oneK]
  rw [if_neg (by omega)]
  omega
open Classical in
theorem verd_cnt {S : MS} {v : Nat} {L : List (Nat → Int)} {hh kk : Int} (hG : Good S) (ho : HourOk S v hh) : (if cntK S v L L.length 0 ((v : Int), hh, kk) = 0 then (2 : Int) else if cntK S v L L.length 0 ((v : Int), hh, kk) = L.length then 1 else 3) = verdS S v hh kk L := by
  obtain ⟨h1, h2⟩ := sumK_at hG ho (L := L) (kk := kk) L.length
  rw [cntK_all]
  unfold verdS
  rw [all_at (p := fun t => kindS S t v hh ≠ kk)] at h1
  rw [all_at (p := fun t => kindS S t v hh = kk)] at h2
  simp only [h1, h2]
def s138 : SCode := (.seq (.ops [jO 4 (.box (T 0)), jO 8 (.mov (jK 0))]) (.seq (.seq (.ops [jO 9 (.mov (T 1)), jO 10 (.mov (T 2)), jO 11 (.mov (T 3)), jO 12 (.build #[(0, 1), (1, 1), (2, 1)] [(.int .i64 0), (.int .i64 0), (.int .i64 0)] [0, 1, 2] [(T 10), (T 11), (jK 1)]), jO 13 (.lookup 177 (.int .i64 0) false (T 9) (T 12))]) (.block 0 (.seq (.ops [jO 15 (.int2 .eql (T 13) (jK 0)), jO 14 (.mov (T 15))]) (.cond (T 14) (.seq (.ops [jO 8 (.mov (jK 2))]) .ret) (.seq (.ops [jO 17 (.fieldAddr 7 (T 4)), jO 18 (.load1 (T 17)), jO 19 (.len (T 18)), jO 20 (.int2 .eql (T 13) (T 19)), jO 16 (.mov (T 20))]) (.cond (T 16) (.seq (.ops [jO 8 (.mov (jK 1))]) .ret) .skip)))))) (.seq (.ops [jO 8 (.mov (jK 3))]) .ret)))
theorem fok138 : FnOk Tryz.prog 138 21 s138 [.tmp 8] := ⟨Tryz.f138, _, Tryz.func138, rfl, Tryz.ntmps138, by kernel_rfl, by kernel_rfl⟩
theorem verdict_c (hn : 5 ≤ n) (hr : h.next + 5 < far) {wv vv sv tv : Value} {S : MS} (hy : SteepR h wv vv sv S) (ho1 : oneCell tv = true) (hG : Good S) {L : List (Nat → Int)} (htr : TruthsR h S tv L) {r v : Nat} {hh : Int} (hm : MapF h r key3 (cntK S v L L.length 0)) (ho : HourOk S v hh) :
    call n (.func (.func 138) #[] #[]) [.agg ⟨wkL S wv vv sv tv⟩, .map (some r), .int .i64 (v : Int), .int .i64 hh] h = some (.int .i64 (verdS S v hh 1 L), h) := by
  obtain ⟨n, rfl⟩ : ∃ p, n = p + 1 := ⟨n - 1, by omega⟩
  refine call_plain0 fok138 rfl rfl (by simp) rfl ?_
  have hy := hy.shut
  have htr : TruthsR h.shutAll S tv L := Cells.shut htr
  have hm := hm.shut
  have hr : h.shutAll.next + 5 < far := hr
  generalize h.shutAll = h at hy htr hm hr
  simp only [s138, jO, jF, jR, jS, jU, jA, jK, W_seq, W_ops]
  refine ops_box (cs := wkL S wv vv sv tv) (by omega) rfl (wk_one hy ho1) fun g1 hx1 => ?_
  have n1 := hx1.next
  have htr1 : TruthsR g1 S tv L := Cells.mono htr hx1.sub
  have hm1 : MapF g1 r key3 (cntK S v L L.length 0) := hm.keep (hx1.old _ hm.lt)
  have el := lookupF key89 hm1 ((v : Int), hh, 1)
  have el : lookupA Tryz.prog 177 (.int .i64 0) false g1 (.map (some r)) (.agg ⟨[.int .i64 (v : Int), .int .i64 hh, .int .i64 1]⟩) = some (.int .i64 (cntK S v L L.length 0 ((v : Int), hh, 1)), g1) := el
  have hv := verd_cnt (L := L) (kk := 1) hG ho
  by_cases c1 : cntK S v L L.length 0 ((v : Int), hh, 1) = 0
  · rw [if_pos c1] at hv
    simp only [rn0, reduceIte, Nat.reduceEqDiff, Nat.reduceAdd, Nat.reduceMul, Nat.reduceSub, Nat.reduceLeDiff, Nat.reduceLT, build_sm, x_lookup, el, c1, ← hv]
  · rw [if_neg c1] at hv
    by_cases c2 : cntK S v L L.length 0 ((v : Int), hh, 1) = L.length
    · rw [if_pos c2] at hv
      have c1' : ¬ (L.length : Int) = 0 := by rw [← c2]; exact c1
      simp only [rn0, reduceIte, Nat.reduceEqDiff, Nat.reduceAdd, Nat.reduceMul, Nat.reduceSub, Nat.reduceLeDiff, Nat.reduceLT, build_sm, x_lookup, el, c2, c1', hx1.row.ld, wkg, Nat.zero_add, Cells.len htr1, ← hv]
    · rw [if_neg c2] at hv
      simp only [rn0, reduceIte, Nat.reduceEqDiff, Nat.reduceAdd, Nat.reduceMul, Nat.reduceSub, Nat.reduceLeDiff, Nat.reduceLT, build_sm, x_lookup, el, c1, hx1.row.ld, wkg, Nat.zero_add, Cells.len htr1, c2, ← hv]


end Go.Vm.St
