/- Texts of the proofs of this seat, put together: BtWrong, BtFirstP, BtSome, BtMin, BtLeaveP, BtLeaveQ, BtLongL, BtWiderP, BtMoreP, BtMoreL. -/
import Derived.Test.YtjihegbffhhcaaaPk12

namespace Go.Vm.Bt
open Go.Proofs Go.Vm.Vat Go.Vm.L2
set_option linter.unusedSimpArgs false
set_option linter.unusedVariables false
set_option maxRecDepth 10000
variable {n : Nat} {h : AHeap}
def wrS (S : MB) (t : Nat → Int) (i : Nat) : Prop := ¬ RightS S t i
noncomputable def wrongL (S : MB) (t : Nat → Int) : List Int := pickL (wrS S t) S.ns
def allE (S : MB) : List (Nat → Int) := enumB (uLo S) (uHi S) (numU S) 0 fun _ => 0
noncomputable def allW (S : MB) : List (List Int) := (allE S).map (wrongL S)
noncomputable def wrongStep (S : MB) (s : List (List Int)) (c : Nat → Int) : List (List Int) × Bool := (s ++ [wrongL S c], true)
theorem runL_wrong {S : MB} : ∀ (l : List (Nat → Int)) (s : List (List Int)), runL (wrongStep S) s l = (s ++ l.map (wrongL S), true)
  | [], s => by simp [runL]
  | x :: l, s => by
    have e : runL (wrongStep S) s (x :: l) = runL (wrongStep S) (s ++ [wrongL S x]) l := rfl
    rw [e, runL_wrong l]; simp
theorem wrong_len {S : MB} {t : Nat → Int} : (wrongL S t).length ≤ S.ns := pick_len _
def OwnB (h2 : AHeap) (p pw : Nat) (g : AHeap) (q : Nat) : Prop := (h2.next ≤ q ∨ q = pw) ∧ q ≠ p ∧ q ≠ h2.next + 1 ∧ ∀ v, g.get p = some (.row [v] true 0) → NeB v q
section
variable (u4 : Try.prog.underlying 4 = some .bool)
include u4
theorem isRight2_c (hn : 5 ≤ n) (hr : h.next + 5 < far) {S : MB} {u : Nat → Int} (hG : Good S) {k : Nat} (hk : k < S.ns) :
    ∃ r, (r = true ↔ RightS S u k) ∧ call n (.func (.func 112) #[] #[]) [.agg ⟨dn (doneS S u)⟩, .agg ⟨smL S k⟩] h = some (.bool r, h) := by
  obtain ⟨hvv, hsv, _⟩ := hG.samp hk
  refine ⟨decide (whenS u (S.sv k).toNat ≤ S.sh k) == S.sd k, beq_iff_eq, ?_⟩
  obtain ⟨n, rfl⟩ : ∃ p, n = p + 1 := ⟨n - 1, by omega⟩
  refine call_plain0 fok112 rfl rfl (by simp) rfl ?_
  have hr : h.shutAll.next + 5 < far := hr
  generalize h.shutAll = h at hr
  obtain ⟨_, _, z3, _⟩ := hG.sizes
  simp only [s112, W_seq, W_ops]
  refine ops_box (cs := dn (doneS S u)) (by omega) rfl dn_one fun g1 hx => ?_
  refine ops_box (cs := smL S k) (by rw [hx.next]; omega) rfl sm_one fun g2 hx2 => ?_
  have r1 := hx.row.mono hx2.sub
  have hi := idxArr_p (b := h.next) (o := 0) (show (S.sv k).toNat < 3 by omega)
  rw [hsv] at hi
  have hd : (dn (doneS S u))[(S.sv k).toNat]? = some (.int .i64 (whenS u (S.sv k).toNat)) := by rw [dn_get (by omega)]; simp [doneS, hvv]
  simp only [rn0, rn1, rn2, rn3, rn4, rn5, rn6, rn7, rn8, if_true, if_false, Nat.le_refl, true_and, and_true, decide_true, decide_false, Bool.not_true, Bool.not_false, reduceIte, Nat.reduceEqDiff, Nat.reduceAdd, Nat.reduceMul, Nat.reduceSub, Nat.reduceLeDiff, Nat.reduceLT]
  refine W_draw All ?_
  simp only [rn0, rn1, rn2, rn3, rn4, rn5, rn6, rn7, rn8, if_true, if_false, Nat.le_refl, true_and, and_true, decide_true, decide_false, Bool.not_true, Bool.not_false, reduceIte, Nat.reduceEqDiff, Nat.reduceAdd, Nat.reduceMul, Nat.reduceSub, Nat.reduceLeDiff, Nat.reduceLT, hx2.row.ld, smg, Nat.zero_add, hi, r1.ld, hd, eqV_int, eqV_bool, x_binA, binA_eqlB, p_eqlB u4, valN_tmp, Nat.reduceLT, rBB]
end
noncomputable def s100 : SCode := (.seq (.ops [⟨(some 1), none, .box (T 0)⟩, ⟨(some 2), none, .mov (.const (.slice none 0 0))⟩]) (.seq (.ops [⟨(some 3), none, .alloc [(.slice none 0 0)]⟩]) (.seq (.seq (.ops [⟨(some 9), none, .loadN 6 (T 1)⟩, ⟨(some 10), none, .call (.func 120) [(T 9)]⟩]) (.block 0 (.range (T 10) #[11] (rangeOf Try.f100 0).1 (rangeOf Try.f100 0).2))) (.seq (.ops [⟨(some 36), none, .load1 (T 3)⟩, ⟨(some 2), none, .mov (T 36)⟩]) .ret))))
theorem fok100 : FnOk Try.prog 100 37 s100 [.tmp 2] := ⟨Try.f100, _, Try.func100, rfl, Try.ntmps100, by kernel_rfl, by kernel_rfl⟩
def ra100_0 : SCode := (.ops [⟨(some 4), none, .alloc [(.int .i64 (0)), (.slice none 0 0)]⟩, ⟨none, none, .store 2 (T 4) (T 11)⟩])
theorem raok100_0 : compCode Try.prog 37 (rangeOf Try.f100 0).1 = some ra100_0 := by kernel_rfl
def rb100_0 : SCode := (.block 1 (.seq (.ops [⟨(some 5), none, .mov (.const (.slice none 0 0))⟩]) (.seq (.ops [⟨(some 12), none, .loadN 2 (T 4)⟩, ⟨(some 13), none, .call (.func 80) [(T 12)]⟩, ⟨(some 6), none, .alloc [(.int .i64 (0)), (.int .i64 (0)), (.int .i64 (0))]⟩, ⟨none, none, .store 3 (T 6) (T 13)⟩]) (.seq (.seq (.ops [⟨(some 14), none, .fieldAddr 0 (T 1)⟩, ⟨(some 15), none, .fieldAddr 4 (T 14)⟩, ⟨(some 16), none, .load1 (T 15)⟩, ⟨(some 17), none, .len (T 16)⟩, ⟨(some 18), none, .mov (.const (.int .i64 (0)))⟩]) (.block 2 (.loop (.seq (.ops [⟨(some 19), none, .int2 .lss (T 18) (T 17)⟩]) (.seq (.cond (T 19) .skip (.exit 2)) (.seq (.block 3 (.seq (.ops [⟨(some 20), none, .mov (T 18)⟩, ⟨(some 21), none, .idxSl 3 (T 16) (T 18)⟩, ⟨(some 22), none, .loadN 3 (T 21)⟩, ⟨(some 8), none, .alloc [(.int .i64 (0)), (.int .i64 (0)), (.bool false)]⟩, ⟨(some 7), none, .mov (T 20)⟩, ⟨none, none, .store 3 (T 8) (T 22)⟩]) (.seq (.ops [⟨(some 23), none, .loadN 3 (T 6)⟩, ⟨(some 24), none, .loadN 3 (T 8)⟩, ⟨(some 25), none, .call (.func 112) [(T 23), (T 24)]⟩, ⟨(some 26), none, .not (T 25)⟩]) (.cond (T 26) (.ops [⟨(some 27), none, .mov (T 5)⟩, ⟨(some 28), none, .mov (T 7)⟩, ⟨(some 29), none, .bslice 1 1 [(.int .i64 (0))] [0] [(T 28)]⟩, ⟨(some 30), none, .append 1 8 (T 27) (T 29)⟩, ⟨(some 5), none, .mov (T 30)⟩]) .skip)))) (.ops [⟨(some 31), none, .int2 .add (T 18) (.const (.int .i64 (1)))⟩, ⟨(some 18), none, .mov (T 31)⟩]))))))) (.ops [⟨(some 32), none, .load1 (T 3)⟩, ⟨(some 33), none, .mov (T 5)⟩, ⟨(some 34), none, .bslice 1 1 [(.slice none 0 0)] [0] [(T 33)]⟩, ⟨(some 35), none, .append 1 24 (T 32) (T 34)⟩, ⟨none, none, .store 1 (T 3) (T 35)⟩])))))
theorem rbok100_0 : compCode Try.prog 37 (rangeOf Try.f100 0).2 = some rb100_0 := by kernel_rfl
set_option maxHeartbeats 4000000 in
theorem wrongAll_c (hn : 500 ≤ n) (hr : h.next + 60000 < far) (hfl : h.floor ≤ h.next) {vv sv : Value} {S : MB} (hy : BeatR h vv sv S) (hG : Good S) :
    ∃ v h', call n (.func (.func 100) #[] #[]) [.agg ⟨wkL S vv sv nilS⟩] h = some (v, h') ∧ AllR h' v (allW S) ∧ oneCell v = true ∧ (∀ i, i < h.next → h'.get i = h.get i) ∧ h.next ≤ h'.next ∧ h'.next ≤ h.next + 50000 ∧ h'.floor = h.floor := by
  obtain ⟨n, rfl⟩ : ∃ p, n = p + 1 := ⟨n - 1, by omega⟩
  refine call_any0 fok100 rfl rfl (by simp) ?_
  have hlenE := enum_len hG
  have u4 : Try.prog.underlying 4 = some .bool := Try.underlying4
  obtain ⟨_, _, z3, z5, _⟩ := hG.sizes
  simp only [s100, W_seq, W_ops]
  refine ops_box (cs := wkL S vv sv nilS) (by omega) rfl (wk_one hy rfl) fun g1 hx1 => ?_
  have n1 := hx1.next
  have f1 := hx1.floor
  have e1 : g1.next = h.next + 1 := n1
  simp only [rn0, rn1, rn2, rn3, rn4, rn5, rn6, rn7, rn8, if_true, if_false, Nat.le_refl, true_and, and_true, decide_true, decide_false, Bool.not_true, Bool.not_false, reduceIte, Nat.reduceEqDiff, Nat.reduceAdd, Nat.reduceMul, Nat.reduceSub, Nat.reduceLeDiff, Nat.reduceLT]
  refine step_row (cs := [nilS]) (by omega) rfl rfl fun g2 hx2 => ?_
  have n2 := hx2.next
  have f2 := hx2.floor
  have e2 : g2.next = h.next + 2 := by omega
  have w2 := (hx1.row.mono hx2.sub).whole (n := 6) rfl
  have old2 : ∀ i, i < h.next → g2.get i = h.get i := fun i hi => by rw [hx2.old i (by omega), hx1.old i hi]
  obtain ⟨g4, e4, hx4⟩ := courses_c (n := n) (h := g2) (cs := wkL S vv sv nilS) (by omega) (by omega) (wk_one hy rfl) rfl
  have n4 := hx4.next
  have f4 := hx4.floor
  rw [e1]
  simp only [rn0, rn1, rn2, rn3, rn4, rn5, rn6, rn7, rn8, if_true, if_false, Nat.le_refl, true_and, and_true, decide_true, decide_false, Bool.not_true, Bool.not_false, reduceIte, Nat.reduceEqDiff, Nat.reduceAdd, Nat.reduceMul, Nat.reduceSub, Nat.reduceLeDiff, Nat.reduceLT, w2, e4]
  refine W_range' rfl (by omega) (by simp only [rn0, rn1, rn2, rn3, rn4, rn5, rn6, rn7, rn8, if_true, if_false, Nat.le_refl, true_and, and_true, decide_true, decide_false, Bool.not_true, Bool.not_false, reduceIte, Nat.reduceEqDiff, Nat.reduceAdd, Nat.reduceMul, Nat.reduceSub, Nat.reduceLeDiff, Nat.reduceLT]; rfl) fun f0 hf0 ts hv h2 hl => ?_
  have c1 : f0 1 = .pointer (some ⟨h.next, 0, none⟩) := by rw [hf0]; simp only [rn0, rn1, rn2, rn3, rn4, rn5, rn6, rn7, rn8, if_true, if_false, Nat.le_refl, true_and, and_true, decide_true, decide_false, Bool.not_true, Bool.not_false, reduceIte, Nat.reduceEqDiff, Nat.reduceAdd, Nat.reduceMul, Nat.reduceSub, Nat.reduceLeDiff, Nat.reduceLT]
  have c3 : f0 3 = .pointer (some ⟨h.next + 1, 0, none⟩) := by rw [hf0]; simp only [rn0, rn1, rn2, rn3, rn4, rn5, rn6, rn7, rn8, if_true, if_false, Nat.le_refl, true_and, and_true, decide_true, decide_false, Bool.not_true, Bool.not_false, reduceIte, Nat.reduceEqDiff, Nat.reduceAdd, Nat.reduceMul, Nat.reduceSub, Nat.reduceLeDiff, Nat.reduceLT]
  clear hf0
  have nl := hl.next
  have fl := hl.floor
  have en : g4.next = h.next + 3 := by omega
  have hbase : ∀ i, i < h.next → h2.get i = h.get i := fun i hi => by rw [hl.old i (by omega), hx4.old i (by omega), old2 i hi]
  have hp2 : h2.get (h.next + 1) = some (.row [nilS] true 0) := by
    rw [hl.old _ (by omega), hx4.old _ (by omega)]; have := hx2.get; rw [e1] at this; exact this
  have hw2 : h2.get h.next = some (.row (wkL S vv sv nilS) true 0) := by
    rw [hl.old _ (by omega), hx4.old _ (by omega), hx2.old _ (by omega)]; exact hx1.get
  have hpw : Row h2 (h.next + 2) (wkL S vv sv nilS) := by
    have := hx4.row.mono hl.sub
    rw [e2] at this
    exact this
  have hloop := hl.loop
  have hmark := hl.mark
  rw [en] at hloop hmark
  rw [en]
  rw [en] at hl
  generalize hr0 : loopO _ ts _ _ _ _ = r at hloop ⊢
  have r1 : r.state = .ready := by rw [← hr0]; rfl
  have r2 : View 37 r.tmps f0 := by rw [← hr0]; exact hv
  have r3 : r.params = #[11] := by rw [← hr0]; rfl
  have r4 : compCode Try.prog 37 r.assign = some ra100_0 := by rw [← hr0]; exact raok100_0
  have r5 : compCode Try.prog 37 r.body = some rb100_0 := by rw [← hr0]; exact rbok100_0
  have r6 : leftBy r .norm = r := by rw [← hr0]; rfl
  clear hr0 hl hv
  have en2 : h2.next = h.next + 5 := by omega
  have hit := iter_c (Own := OwnB h2 (h.next + 1) (h.next + 2)) (wrongStep S) (JW h2 (h.next + 1)) (g := h2) (pw := h.next + 2) (K := 210) (N0 := 300) (n := n) (tv := nilS) (yv := .func (.yield (h.next + 4)) #[] #[]) [] hG hpw rfl (by simp [eqV, eqCell]) (by omega) (by omega) (by omega)
    (fun g' q hq => hq.2.2.1)
    (fun s g' hj => hy.mono (AHeap.subOf fun i hi => by rw [hj.old i (by omega) (by omega), hbase i hi]))
    (fun s g1 g' cs hj hs => by
      obtain ⟨v, R, t1, t2⟩ := hj.tv
      have hnx := hs.next
      exact ⟨fun i hi hne => by rw [hs.old i (by omega)]; exact hj.old i hi hne, ⟨v, R, by rw [hs.old _ (by omega)]; exact t1, t2.old (fun i hi _ => hs.old i (by omega)) (by omega)⟩, by have := hj.up; omega, by have := hj.len; omega⟩)
    (fun s g1 g' hj hx => by
      obtain ⟨v, R, t1, t2⟩ := hj.tv
      have := hj.up
      have hnx := hx.up
      exact ⟨fun i hi hne => by rw [hx.old i (by omega)]; exact hj.old i hi hne, ⟨v, R, by rw [hx.old _ (by omega)]; exact t1, t2.old (fun i hi h => hx.old i h) (by omega)⟩, by omega, by have := hj.len; omega⟩)
    (fun s g1 g' cs q hj hs ho => ⟨ho.1, ho.2.1, ho.2.2.1, fun v e => ho.2.2.2 v (by rw [← hs.old _ (by omega)]; exact e)⟩)
    (fun s g1 g' q hj hx ho => ⟨ho.1, ho.2.1, ho.2.2.1, fun v e => ho.2.2.2 v (by rw [← hx.old _ (by have := hj.up; omega)]; exact e)⟩)
    (fun g' ho hfg hup => ⟨⟨fun i hi _ => ho i hi, ⟨nilS, _, by rw [ho _ (by omega)]; exact hp2, .nil⟩, by omega, Nat.zero_le _⟩, ⟨.inr rfl, by omega, by omega, fun v e => by
      rw [ho _ (by omega), hp2] at e
      simp only [Option.some.injEq, AObj.row.injEq, and_true, List.cons.injEq] at e
      subst e
      intro b m c e'
      cases e'⟩, fun q hq _ hne => ⟨.inl hq, by omega, hne, fun v e => by
      rw [ho _ (by omega), hp2] at e
      simp only [Option.some.injEq, AObj.row.injEq, and_true, List.cons.injEq] at e
      subst e
      intro b m c e'
      cases e'⟩⟩)
    (fun m g1 s c cw pn py pc hm it hb hok hj hcw how hfg hr1 => by
      obtain ⟨m, rfl⟩ : ∃ p, m = p + 1 := ⟨m - 1, by omega⟩
      rw [call_yield]
      obtain ⟨v, R, hp, gr⟩ := hj.tv
      have hup := hj.up
      have hlen := hj.len
      have hloop1 : g1.get (h.next + 4) = some (.loop r) := by rw [hj.old _ (by omega) (by omega)]; exact hloop
      have hpb := AHeap.lt_of_get hb
      suffices key : ∃ e g', roundA Try.prog (call m) m (h.next + 4) [.agg ⟨coL (c 0) cw⟩] g1 = some (.bool (goesOn e), g') ∧ (e = .norm ∧ JW h2 (h.next + 1) (wrongStep S s c).1 g' ∧ (∀ q, q ≠ h.next + 1 → q ≠ h.next + 4 → q < g1.next → NeB v q → g'.get q = g1.get q) ∧ (∃ v', g'.get (h.next + 1) = some (.row [v'] true 0) ∧ ∀ q, q < g1.next → NeB v q → NeB v' q) ∧ g'.floor = h2.floor ∧ g1.next ≤ g'.next ∧ g'.next ≤ g1.next + 200) by
        obtain ⟨e, g', k1, rfl, k2, k3, ⟨v', k4, k5⟩, k6, k7, k8⟩ := key
        refine ⟨g', k1, k2, fun q cs hq ho => ?_, by rw [k3 _ (by omega) (by omega) hpb (neB_of gr.c (by left; omega))]; exact hb, k6, k7, by omega⟩
        obtain ⟨o1, o2, o3, o4⟩ := ho
        have hlt : q < g1.next := by obtain ⟨w, gr, e⟩ := hq; exact AHeap.lt_of_get e
        have hne := o4 v hp
        refine ⟨by obtain ⟨w, gr, e⟩ := hq; exact ⟨w, gr, by rw [k3 q o2 (by omega) hlt hne]; exact e⟩, o1, o2, o3, fun v2 e => ?_⟩
        rw [k4] at e
        simp only [Option.some.injEq, AObj.row.injEq, and_true, List.cons.injEq] at e
        subst e
        exact k5 q hlt hne
      refine round_run (f := f0) hloop1 r1 r2 (by rw [r3]; rfl) (by omega) r4 r5 ?_
      have hset : setFr f0 r.params.toList [.agg ⟨coL (c 0) cw⟩] = upd f0 11 (.agg ⟨coL (c 0) cw⟩) := by rw [r3]; rfl
      rw [hset]
      simp only [rn0, rn1, rn2, rn3, rn4, rn5, rn6, rn7, rn8, if_true, if_false, Nat.le_refl, true_and, and_true, decide_true, decide_false, Bool.not_true, Bool.not_false, reduceIte, Nat.reduceEqDiff, Nat.reduceAdd, Nat.reduceMul, Nat.reduceSub, Nat.reduceLeDiff, Nat.reduceLT, ra100_0]
      refine step_new (vs := coL (c 0) cw) (by omega) (by omega) rfl (by simp only [rn0, rn1, rn2, rn3, rn4, rn5, rn6, rn7, rn8, if_true, if_false, Nat.le_refl, true_and, and_true, decide_true, decide_false, Bool.not_true, Bool.not_false, reduceIte, Nat.reduceEqDiff, Nat.reduceAdd, Nat.reduceMul, Nat.reduceSub, Nat.reduceLeDiff, Nat.reduceLT]; rfl) (by simp [coL, allB, one_int, how]) rfl rfl fun g2 hx2 => ?_
      have n2 := hx2.next
      have f2 := hx2.floor
      simp only [rn0, rn1, rn2, rn3, rn4, rn5, rn6, rn7, rn8, if_true, if_false, Nat.le_refl, true_and, and_true, decide_true, decide_false, Bool.not_true, Bool.not_false, reduceIte, Nat.reduceEqDiff, Nat.reduceAdd, Nat.reduceMul, Nat.reduceSub, Nat.reduceLeDiff, Nat.reduceLT]
      refine ⟨by rw [hx2.old _ (by omega)]; exact hloop1, by omega, fun g3 hp3 => ?_⟩
      have n3 := hp3.next
      have f3 := hp3.floor
      have g3old : ∀ i, i < g1.next → i ≠ h.next + 4 → g3.get i = g1.get i := fun i hi hne => by rw [hp3.old i hne, hx2.old i hi]
      have g3b : ∀ i, i < h.next → g3.get i = h.get i := fun i hi => by rw [g3old i (by omega) (by omega), hj.old i (by omega) (by omega), hbase i hi]
      have hy3 := hy.mono (AHeap.subOf g3b)
      have hp3' : g3.get (h.next + 1) = some (.row [v] true 0) := by rw [g3old _ (by omega) (by omega)]; exact hp
      have rw3 : Row g3 h.next (wkL S vv sv nilS) := ⟨true, 0, by rw [g3old _ (by omega) (by omega), hj.old _ (by omega) (by omega)]; exact hw2⟩
      have rc3 : Row g3 g1.next (coL (c 0) cw) := by
        obtain ⟨w, gr, e⟩ := hx2.row
        exact ⟨w, gr, by rw [hp3.old _ (by omega)]; exact e⟩
      have hcu : InU S c := fun i hi => hok.1 i hi
      have l3 : g3.get (h.next + 4) = some (.loop { r with state := .busy }) := hp3.get
      have hcw3 : CouR g3 cw S c := by
        obtain ⟨a', cap', e', sp, hz | ⟨b, o, cs, w, gr', e2', e3', e4'⟩⟩ := hcw
        · exact ⟨a', cap', e', sp, .inl hz⟩
        · refine ⟨a', cap', e', sp, .inr ⟨b, o, cs, w, gr', e2', ?_, e4'⟩⟩
          rw [g3old b (AHeap.lt_of_get e3') (by rintro rfl; rw [hloop1] at e3'; cases e3')]
          exact e3'
      have edn := done_c (n := m) (h := g3) (by omega) (by omega) hcw3 hG hcu
      simp only [rn0, rn1, rn2, rn3, rn4, rn5, rn6, rn7, rn8, if_true, if_false, Nat.le_refl, true_and, and_true, decide_true, decide_false, Bool.not_true, Bool.not_false, reduceIte, Nat.reduceEqDiff, Nat.reduceAdd, Nat.reduceMul, Nat.reduceSub, Nat.reduceLeDiff, Nat.reduceLT, rb100_0, c1, c3, rc3.whole (n := 2) rfl, edn]
      refine step_new (vs := dn (doneS S c)) (by omega) (by omega) rfl (by simp only [rn0, rn1, rn2, rn3, rn4, rn5, rn6, rn7, rn8, if_true, if_false, Nat.le_refl, true_and, and_true, decide_true, decide_false, Bool.not_true, Bool.not_false, reduceIte, Nat.reduceEqDiff, Nat.reduceAdd, Nat.reduceMul, Nat.reduceSub, Nat.reduceLeDiff, Nat.reduceLT]; rfl) dn_one dn_len rfl fun g4 hx4 => ?_
      have n4 := hx4.next
      have f4 := hx4.floor
      have rw4 := rw3.mono hx4.sub
      have hy4 := hy3.mono hx4.sub
      have rd4 := hx4.row
      simp only [rn0, rn1, rn2, rn3, rn4, rn5, rn6, rn7, rn8, if_true, if_false, Nat.le_refl, true_and, and_true, decide_true, decide_false, Bool.not_true, Bool.not_false, reduceIte, Nat.reduceEqDiff, Nat.reduceAdd, Nat.reduceMul, Nat.reduceSub, Nat.reduceLeDiff, Nat.reduceLT, c1, c3, rw4.ld, wkg, Nat.zero_add, Nat.add_zero, Cells.len hy4.s]
      refine W_loop S.ns (fun k f g ms => (∃ x, (∀ i, i < g4.next → g.get i = g4.get i) ∧ g.floor = g4.floor ∧ g4.next ≤ g.next ∧ g.next ≤ g4.next + 3 * k ∧ GrowC g4.next g x 1 (pickL (wrS S c) k).length (fun i _ => .int .i64 (atL (pickL (wrS S c) k) i)) ∧ f 5 = x) ∧ ms = [] ∧ f 1 = .pointer (some ⟨h.next, 0, none⟩) ∧ f 3 = .pointer (some ⟨h.next + 1, 0, none⟩) ∧ f 4 = .pointer (some ⟨g1.next, 0, none⟩) ∧ f 6 = .pointer (some ⟨g3.next, 0, none⟩) ∧ f 16 = sv ∧ f 17 = .int .i64 (S.ns : Int) ∧ f 18 = .int .i64 (k : Int)) (by simp; omega) ?_ ?_ ?_
      · simp only [rn0, rn1, rn2, rn3, rn4, rn5, rn6, rn7, rn8, if_true, if_false, Nat.le_refl, true_and, and_true, decide_true, decide_false, Bool.not_true, Bool.not_false, reduceIte, Nat.reduceEqDiff, Nat.reduceAdd, Nat.reduceMul, Nat.reduceSub, Nat.reduceLeDiff, Nat.reduceLT, c1, c3, Int.natCast_zero]
        first | exact ⟨⟨nilS, fun _ _ => trivial, by omega, .nil, rfl⟩, rfl⟩ | exact ⟨⟨nilS, fun _ _ => rfl, rfl, by omega, by omega, .nil, rfl⟩, rfl⟩ | exact ⟨nilS, fun _ _ => trivial, by omega, .nil, rfl⟩ | exact ⟨nilS, fun _ _ => trivial, .nil, rfl⟩
      · rintro k f g ms hk ⟨⟨x, ho, hfg', hup', hnx, gv, p5⟩, rfl, p1, p3, p4, p6, p16, p17, p18⟩
        have hk' : (k : Int) < (S.ns : Int) := by omega
        have hw : wrapF .i64 ((k : Int) + 1) = ((k + 1 : Nat) : Int) := by rw [wrap_in (by omega) (by omega)]; rfl
        have sg : Sub All g4 g := AHeap.subOf ho
        have hyg := hy4.mono sg
        have hlk := pick_len (p := wrS S c) k
        simp only [rn0, rn1, rn2, rn3, rn4, rn5, rn6, rn7, rn8, if_true, if_false, Nat.le_refl, true_and, and_true, decide_true, decide_false, Bool.not_true, Bool.not_false, reduceIte, Nat.reduceEqDiff, Nat.reduceAdd, Nat.reduceMul, Nat.reduceSub, Nat.reduceLeDiff, Nat.reduceLT, p1, p3, p4, p5, p6, p16, p17, p18, hk', Cells.idx hyg.s hk, samp_ld hyg hk]
        refine step_row (cs := [.int .i64 0, .int .i64 0, .bool false]) (by omega) rfl rfl fun ga hxa => ?_
        have na := hxa.next
        have fa := hxa.floor
        simp only [rn0, rn1, rn2, rn3, rn4, rn5, rn6, rn7, rn8, if_true, if_false, Nat.le_refl, true_and, and_true, decide_true, decide_false, Bool.not_true, Bool.not_false, reduceIte, Nat.reduceEqDiff, Nat.reduceAdd, Nat.reduceMul, Nat.reduceSub, Nat.reduceLeDiff, Nat.reduceLT, p1, p3, p4, p5, p6, p16, p17, p18]
        refine step_store (b := g.next) (off := 0) (vs := smL S k) rfl hxa.get (by omega) (by omega) rfl rfl rfl (by simp) fun gb hsb => ?_
        rw [splice_all (by rfl)] at hsb
        have nb := hsb.next
        have fb := hsb.floor
        have oldb : ∀ i, i < g.next → gb.get i = g.get i := fun i hi => by rw [hsb.old i (by omega), hxa.old i hi]
        have subb : Sub All g gb := AHeap.subOf oldb
        have rdb := (rd4.mono sg).mono subb
        obtain ⟨ri, hri, ei⟩ := isRight2_c u4 (n := m) (h := gb) (u := c) (k := k) (by omega) (by omega) hG hk
        have gvb : GrowC g4.next gb x 1 (pickL (wrS S c) k).length (fun i _ => .int .i64 (atL (pickL (wrS S c) k) i)) := GrowC.at' gv fun a k c e => oldb _ (gv.block e).2
        by_cases hR : RightS S c k
        · have hp0 : pickL (wrS S c) (k + 1) = pickL (wrS S c) k := pick_no fun q => q hR
          simp only [rn0, rn1, rn2, rn3, rn4, rn5, rn6, rn7, rn8, if_true, if_false, Nat.le_refl, true_and, and_true, decide_true, decide_false, Bool.not_true, Bool.not_false, reduceIte, Nat.reduceEqDiff, Nat.reduceAdd, Nat.reduceMul, Nat.reduceSub, Nat.reduceLeDiff, Nat.reduceLT, p1, p3, p4, p5, p6, p16, p17, p18, rdb.whole (n := 3) dn_len, hsb.row.whole (n := 3) rfl, ei, hri.2 hR, hw]
          rw [hp0]
          have hfin := And.intro (fun i (hi : i < g4.next) => (by rw [oldb i (by omega), ho i hi] : gb.get i = g4.get i)) (And.intro (by omega : gb.floor = g4.floor) (And.intro (by omega : g4.next ≤ gb.next) (And.intro (by omega : gb.next ≤ g4.next + 3 * (k + 1)) (And.intro gvb (rfl : x = x)))))
          first | exact ⟨x, hfin⟩ | exact ⟨⟨x, hfin⟩, rfl⟩
        · have hp1 : pickL (wrS S c) (k + 1) = pickL (wrS S c) k ++ [(k : Int)] := pick_yes hR
          have hrf : ri = false := Bool.eq_false_iff.2 fun q => hR (hri.1 q)
          simp only [rn0, rn1, rn2, rn3, rn4, rn5, rn6, rn7, rn8, if_true, if_false, Nat.le_refl, true_and, and_true, decide_true, decide_false, Bool.not_true, Bool.not_false, reduceIte, Nat.reduceEqDiff, Nat.reduceAdd, Nat.reduceMul, Nat.reduceSub, Nat.reduceLeDiff, Nat.reduceLT, p1, p3, p4, p5, p6, p16, p17, p18, rdb.whole (n := 3) dn_len, hsb.row.whole (n := 3) rfl, ei, hrf, sl_int]
          refine step_slice (by omega) rfl fun gc hxc => ?_
          have nc := hxc.next
          have fc := hxc.floor
          have gvc : GrowC g4.next gc x 1 (pickL (wrS S c) k).length (fun i _ => .int .i64 (atL (pickL (wrS S c) (k + 1)) i)) := (gvb.sub hxc.sub).congr fun i j hi hj => by rw [hp1, at_append hi]
          obtain ⟨x', gd, ed, evd, gvd, hkd⟩ := gvc.append (bytes := 8) (cap := 1) (by omega) (by omega) (by omega) hxc.get rfl rfl (fun j hj => by
            obtain rfl : j = 0 := by omega
            rw [hp1, at_last]; rfl) (by simp [maxBytes]; omega) (by simp [maxBytes]; omega)
          have nd := hkd.next
          have fd := hkd.floor
          have hlen1 : (pickL (wrS S c) (k + 1)).length = (pickL (wrS S c) k).length + 1 := by rw [hp1, List.length_append, List.length_singleton]
          simp only [rn0, rn1, rn2, rn3, rn4, rn5, rn6, rn7, rn8, if_true, if_false, Nat.le_refl, true_and, and_true, decide_true, decide_false, Bool.not_true, Bool.not_false, reduceIte, Nat.reduceEqDiff, Nat.reduceAdd, Nat.reduceMul, Nat.reduceSub, Nat.reduceLeDiff, Nat.reduceLT, p1, p3, p4, p5, p6, p16, p17, p18, ed, hw]
          rw [hlen1]
          have hfin := And.intro (fun i (hi : i < g4.next) => (by rw [hkd.old i (by omega) fun bb kk qq e => by have := (gvc.block e).1; omega, hxc.old i (by omega), oldb i (by omega), ho i hi] : gd.get i = g4.get i)) (And.intro (by omega : gd.floor = g4.floor) (And.intro (by omega : g4.next ≤ gd.next) (And.intro (by omega : gd.next ≤ g4.next + 3 * (k + 1)) (And.intro gvd (rfl : x' = x')))))
          first | exact ⟨x', hfin⟩ | exact ⟨⟨x', hfin⟩, rfl⟩
      · rintro f g ms ⟨⟨x, ho, hfg', hup', hnx, gv, p5⟩, rfl, p1, p3, p4, p6, p16, p17, p18⟩
        have hq3 : g.get (h.next + 1) = some (.row [v] true 0) := by rw [ho _ (by omega), hx4.old _ (by omega)]; exact hp3'
        have rq3 : Row g (h.next + 1) [v] := ⟨_, _, hq3⟩
        have lg : g.get (h.next + 4) = some (.loop { r with state := .busy }) := by rw [ho _ (by omega), hx4.old _ (by omega)]; exact l3
        have xone := gv.one
        have wrg : WrG (h2.next + 2) g v s R := gr.old (fun i h1 h2 => by rw [ho i (by omega), hx4.old i (by omega), g3old i h2 (by omega)]) (by omega)
        simp only [rn0, rn1, rn2, rn3, rn4, rn5, rn6, rn7, rn8, if_true, if_false, Nat.le_refl, true_and, and_true, decide_true, decide_false, Bool.not_true, Bool.not_false, reduceIte, Nat.reduceEqDiff, Nat.reduceAdd, Nat.reduceMul, Nat.reduceSub, Nat.reduceLeDiff, Nat.reduceLT, p1, p3, p4, p5, p6, p16, p17, p18, Int.lt_irrefl, rq3.ld, Nat.zero_add, List.getElem?_cons_zero, sl_list xone]
        refine step_slice (by omega) (by simp [allB, xone]) fun ga hxa => ?_
        have na := hxa.next
        have fa := hxa.floor
        obtain ⟨v', gb, eb, wrb, ob, evb, nb, fb, oldb⟩ := wrg.push (w := wrongL S c) (by omega) (by omega) (by omega) hxa gv.cells xone (fun y k q e => by
          have := gv.block e
          exact ⟨by omega, by omega, neB_of gr.c (by right; omega)⟩) (by have := hj.len; omega)
        have neP : NeB v (h.next + 1) := neB_of gr.c (by left; omega)
        have neL : NeB v (h.next + 4) := neB_of gr.c (by left; omega)
        simp only [rn0, rn1, rn2, rn3, rn4, rn5, rn6, rn7, rn8, if_true, if_false, Nat.le_refl, true_and, and_true, decide_true, decide_false, Bool.not_true, Bool.not_false, reduceIte, Nat.reduceEqDiff, Nat.reduceAdd, Nat.reduceMul, Nat.reduceSub, Nat.reduceLeDiff, Nat.reduceLT, p1, p3, p4, p5, p6, p16, p17, p18, eb]
        refine step_store (b := h.next + 1) (off := 0) (vs := [v']) (by rfl) (by rw [oldb _ (by omega) neP]; exact hq3) (by omega) (by omega) (by rw [evb]; rfl) (by rw [evb]; rfl) rfl (by simp) fun g6 hs6 => ?_
        rw [splice1] at hs6
        have n6 := hs6.next
        have f6 := hs6.floor
        simp only [rn0, rn1, rn2, rn3, rn4, rn5, rn6, rn7, rn8, if_true, if_false, Nat.le_refl, true_and, and_true, decide_true, decide_false, Bool.not_true, Bool.not_false, reduceIte, Nat.reduceEqDiff, Nat.reduceAdd, Nat.reduceMul, Nat.reduceSub, Nat.reduceLeDiff, Nat.reduceLT]
        refine ⟨by rw [hs6.old _ (by omega), oldb _ (by omega) neL]; exact lg, by omega, by omega, fun g7 hp7 => ⟨?_, ?_, ?_, by rw [hp7.floor]; omega, by rw [hp7.next]; omega, by rw [hp7.next]; omega⟩⟩
        · have n7 := hp7.next
          have hst : (wrongStep S s c).1 = s ++ [wrongL S c] := rfl
          rw [hst]
          have old6 : ∀ i, i < g1.next → i ≠ h.next + 1 → i ≠ h.next + 4 → NeB v i → g6.get i = g1.get i := fun i hi a1 a2 hne => by rw [hs6.old i a1, oldb i (by omega) hne, ho i (by omega), hx4.old i (by omega), g3old i hi a2]
          refine ⟨fun i hi hne => ?_, ⟨v', _, ?_, wrb.old (fun i h1 h2 => by rw [hp7.old i (by omega), hs6.old i (by omega)]) (by omega)⟩, by omega, by rw [List.length_append, List.length_singleton]; omega⟩
          · by_cases e : i = h.next + 4
            · subst e; rw [hp7.get, r6, ← hj.old _ hi hne]; exact hloop1.symm
            · rw [hp7.old i e, old6 i (by omega) hne e (neB_of gr.c (by left; omega))]; exact hj.old i hi hne
          · rw [hp7.old _ (by omega)]; exact hs6.get
        · intro i hi1 hi4 hlt hne
          rw [hp7.old i hi4, hs6.old i hi1, oldb i (by omega) hne, ho i (by omega), hx4.old i (by omega), g3old i hlt hi4]
        · refine ⟨v', by rw [hp7.old _ (by omega)]; exact hs6.get, fun q hq _ b m c' e => ?_⟩
          rw [evb] at e
          cases e
          show q ≠ g.next + 1
          omega)
    (by omega)
  obtain ⟨v5, g5, e5, j5, fl5, u5, n5⟩ := hit
  rw [runL_wrong] at j5
  simp only [List.nil_append] at j5
  change JW h2 (h.next + 1) (allW S) g5 at j5
  obtain ⟨v, R, t1, t2⟩ := j5.tv
  have hup := j5.up
  refine ⟨v5, g5, .norm, by rw [e2]; exact e5, by omega, by omega, by rw [r6, j5.old _ (by omega) (by omega)]; exact hloop, fun g6 hp6 => ?_⟩
  have n6 := hp6.next
  have f6 := hp6.floor
  have t6 : Row g6 (h.next + 1) [v] := ⟨true, 0, by rw [hp6.old _ (by omega)]; exact t1⟩
  have m6 : g6.get (h.next + 3) = some .deferred := by rw [hp6.old _ (by omega), j5.old _ (by omega) (by omega)]; exact hmark
  simp only [rn0, rn1, rn2, rn3, rn4, rn5, rn6, rn7, rn8, if_true, if_false, Nat.le_refl, true_and, and_true, decide_true, decide_false, Bool.not_true, Bool.not_false, reduceIte, Nat.reduceEqDiff, Nat.reduceAdd, Nat.reduceMul, Nat.reduceSub, Nat.reduceLeDiff, Nat.reduceLT, c3, t6.ld, Nat.zero_add, List.getElem?_cons_zero]
  refine ret_mark (.inr rfl) m6 (by omega) (by omega) fun g8 hp8 => ?_
  have n8 := hp8.next
  have f8 := hp8.floor
  have t8 : WrG (h2.next + 2) g8 v (allW S) R := t2.old (fun i h1 h2 => by rw [hp8.old i (by omega), hp6.old i (by omega)]) (by omega)
  simp only [rn0, rn1, rn2, rn3, rn4, rn5, rn6, rn7, rn8, if_true, if_false, Nat.le_refl, true_and, and_true, decide_true, decide_false, Bool.not_true, Bool.not_false, reduceIte, Nat.reduceEqDiff, Nat.reduceAdd, Nat.reduceMul, Nat.reduceSub, Nat.reduceLeDiff, Nat.reduceLT]
  refine ⟨⟨R, t8.c.cells, fun k hk => (t8.r k hk).1⟩, t8.c.one, fun i hi => ?_, by omega, by omega, by omega⟩
  rw [hp8.old i (by omega), hp6.old i (by omega), j5.old i (by omega) (by omega), hbase i hi]
end Go.Vm.Bt

namespace Go.Vm.Bt
open Go.Proofs Go.Vm.Vat Go.Vm.L2
set_option linter.unusedSimpArgs false
set_option linter.unusedVariables false
set_option maxRecDepth 10000
variable {n : Nat} {h : AHeap}
theorem allE_mem {S : MB} {c : Nat → Int} : c ∈ allE S ↔ InU S c ∧ ∀ j, numU S ≤ j → c j = 0 := by
  unfold allE
  rw [enumB_ok, Nat.zero_add]
  constructor
  · rintro ⟨h1, h2⟩; exact ⟨fun i hi => h1 i (Nat.zero_le _) hi, fun j hj => h2 j (.inr hj)⟩
  · rintro ⟨h1, h2⟩; exact ⟨fun i _ hi => h1 i hi, fun j hj => h2 j (by omega)⟩
theorem allE_ne {S : MB} (hG : Good S) : allE S ≠ [] := fun e => by
  have : nthU S 0 ∈ allE S := allE_mem.2 ⟨nthU_in hG, fun j hj => nthU_out hj⟩
  rw [e] at this; cases this
end Go.Vm.Bt

namespace Go.Vm.Bt
open Go.Proofs Go.Vm.Vat Go.Vm.L2
set_option linter.unusedSimpArgs false
set_option linter.unusedVariables false
set_option maxRecDepth 10000
variable {n : Nat} {h : AHeap}
theorem sl_smp {x y : Int} {z : Bool} : buildSl 3 1 [.int .i64 0, .int .i64 0, .bool false] [0] h [.agg ⟨[.int .i64 x, .int .i64 y, .bool z]⟩] = newSlice h [.int .i64 x, .int .i64 y, .bool z] 1 1 0 := id rfl
end Go.Vm.Bt

namespace Go.Vm.Bt
open Go.Proofs Go.Vm.Vat Go.Vm.L2
set_option linter.unusedSimpArgs false
set_option linter.unusedVariables false
set_option maxRecDepth 10000
variable {n : Nat} {h : AHeap}
def cmpZ (x y : Int) : Int := if x < y then -1 else if y < x then 1 else 0
def s130 : SCode := (.seq (.ops [⟨(some 2), none, .mov (.const (.bool false))⟩]) (.seq (.ops [⟨(some 3), none, .mov (T 0)⟩, ⟨(some 4), none, .mov (T 0)⟩, ⟨(some 5), none, .int2 .neq (T 3) (T 4)⟩, ⟨(some 2), none, .mov (T 5)⟩]) .ret))
theorem fok130 : FnOk Try.prog 130 6 s130 [.tmp 2] := ⟨Try.f130, _, Try.func130, rfl, Try.ntmps130, by kernel_rfl, by kernel_rfl⟩
theorem isNaN_c (hn : 1 ≤ n) (x : Int) : call n (.func (.func 130) #[] #[]) [.int .i64 x] h = some (.bool false, h) := by
  obtain ⟨n, rfl⟩ : ∃ p, n = p + 1 := ⟨n - 1, by omega⟩
  refine call_plain0 fok130 rfl rfl (by simp) rfl ?_
  simp only [rn0, rn1, rn2, rn3, rn4, rn5, rn6, rn7, rn8, if_true, if_false, Nat.le_refl, true_and, and_true, decide_true, decide_false, Bool.not_true, Bool.not_false, reduceIte, Nat.reduceEqDiff, Nat.reduceAdd, Nat.reduceMul, Nat.reduceSub, Nat.reduceLeDiff, Nat.reduceLT, s130]
def s104 : SCode := (.seq (.ops [⟨(some 4), none, .mov (.const (.int .i64 (0)))⟩]) (.seq (.ops [⟨(some 7), none, .mov (T 0)⟩, ⟨(some 8), none, .call (.func 130) [(T 7)]⟩, ⟨(some 5), none, .mov (T 8)⟩]) (.seq (.ops [⟨(some 9), none, .mov (T 1)⟩, ⟨(some 10), none, .call (.func 130) [(T 9)]⟩, ⟨(some 6), none, .mov (T 10)⟩]) (.seq (.seq (.ops [⟨(some 11), none, .mov (T 5)⟩]) (.cond (T 11) (.seq (.seq (.ops [⟨(some 12), none, .mov (T 6)⟩]) (.cond (T 12) (.seq (.ops [⟨(some 4), none, .mov (.const (.int .i64 (0)))⟩]) .ret) .skip)) (.seq (.ops [⟨(some 4), none, .mov (.const (.int .i64 (-1)))⟩]) .ret)) .skip)) (.seq (.seq (.ops [⟨(some 13), none, .mov (T 6)⟩]) (.cond (T 13) (.seq (.ops [⟨(some 4), none, .mov (.const (.int .i64 (1)))⟩]) .ret) .skip)) (.seq (.seq (.ops [⟨(some 14), none, .mov (T 0)⟩, ⟨(some 15), none, .mov (T 1)⟩, ⟨(some 16), none, .int2 .lss (T 14) (T 15)⟩]) (.cond (T 16) (.seq (.ops [⟨(some 4), none, .mov (.const (.int .i64 (-1)))⟩]) .ret) .skip)) (.seq (.seq (.ops [⟨(some 17), none, .mov (T 0)⟩, ⟨(some 18), none, .mov (T 1)⟩, ⟨(some 19), none, .int2 .gtr (T 17) (T 18)⟩]) (.cond (T 19) (.seq (.ops [⟨(some 4), none, .mov (.const (.int .i64 (1)))⟩]) .ret) .skip)) (.seq (.ops [⟨(some 4), none, .mov (.const (.int .i64 (0)))⟩]) .ret))))))))
theorem fok104 : FnOk Try.prog 104 20 s104 [.tmp 4] := ⟨Try.f104, _, Try.func104, rfl, Try.ntmps104, by kernel_rfl, by kernel_rfl⟩
theorem cmpI_c (hn : 2 ≤ n) (x y : Int) : call n (.func (.func 104) #[] #[]) [.int .i64 x, .int .i64 y] h = some (.int .i64 (cmpZ x y), h) := by
  obtain ⟨n, rfl⟩ : ∃ p, n = p + 1 := ⟨n - 1, by omega⟩
  refine call_plain0 fok104 rfl rfl (by simp) rfl ?_
  have e1 := isNaN_c (n := n) (h := h.shutAll) (by omega) x
  have e2 := isNaN_c (n := n) (h := h.shutAll) (by omega) y
  generalize h.shutAll = h at e1 e2
  unfold cmpZ
  by_cases c1 : x < y
  · rw [if_pos c1]
    simp only [rn0, rn1, rn2, rn3, rn4, rn5, rn6, rn7, rn8, if_true, if_false, Nat.le_refl, true_and, and_true, decide_true, decide_false, Bool.not_true, Bool.not_false, reduceIte, Nat.reduceEqDiff, Nat.reduceAdd, Nat.reduceMul, Nat.reduceSub, Nat.reduceLeDiff, Nat.reduceLT, s104, e1, e2, c1]
  · rw [if_neg c1]
    by_cases c2 : y < x
    · rw [if_pos c2]
      simp only [rn0, rn1, rn2, rn3, rn4, rn5, rn6, rn7, rn8, if_true, if_false, Nat.le_refl, true_and, and_true, decide_true, decide_false, Bool.not_true, Bool.not_false, reduceIte, Nat.reduceEqDiff, Nat.reduceAdd, Nat.reduceMul, Nat.reduceSub, Nat.reduceLeDiff, Nat.reduceLT, s104, e1, e2, c1, c2, gt_iff_lt]
    · rw [if_neg c2]
      simp only [rn0, rn1, rn2, rn3, rn4, rn5, rn6, rn7, rn8, if_true, if_false, Nat.le_refl, true_and, and_true, decide_true, decide_false, Bool.not_true, Bool.not_false, reduceIte, Nat.reduceEqDiff, Nat.reduceAdd, Nat.reduceMul, Nat.reduceSub, Nat.reduceLeDiff, Nat.reduceLT, s104, e1, e2, c1, c2, gt_iff_lt]
noncomputable def lexD (a : Nat → Int) (m : Nat) (b : Nat → Int) (k : Nat) : Int := if LexLt a b (min m k) then -1 else if LexLt b a (min m k) then 1 else if k < m then 1 else if m < k then -1 else 0
theorem lexD_at {a b : Nat → Int} {m k i : Nat} (h1 : i < m) (h2 : i < k) (he : ∀ j, j < i → a j = b j) (hl : a i < b i) : lexD a m b k = -1 := by unfold lexD; rw [if_pos ⟨i, by omega, he, hl⟩]
theorem lexD_at' {a b : Nat → Int} {m k i : Nat} (h1 : i < m) (h2 : i < k) (he : ∀ j, j < i → a j = b j) (hl : b i < a i) : lexD a m b k = 1 := by
  unfold lexD
  rw [if_neg, if_pos ⟨i, by omega, fun j hj => (he j hj).symm, hl⟩]
  rintro ⟨j, j1, j2, j3⟩
  by_cases e : j = i
  · subst e; omega
  · by_cases e2 : j < i
    · have := he j e2; omega
    · have := j2 i (by omega); omega
theorem lexD_eq {a b : Nat → Int} {m k : Nat} (he : ∀ j, j < min m k → a j = b j) : lexD a m b k = if k < m then 1 else if m < k then -1 else 0 := by
  unfold lexD
  rw [if_neg, if_neg]
  · rintro ⟨j, j1, j2, j3⟩; have := he j j1; omega
  · rintro ⟨j, j1, j2, j3⟩; have := he j j1; omega
def s105 : SCode := (.seq (.ops [⟨(some 4), none, .mov (.const (.int .i64 (0)))⟩]) (.seq (.seq (.ops [⟨(some 9), none, .mov (T 0)⟩, ⟨(some 10), none, .len (T 9)⟩, ⟨(some 11), none, .mov (.const (.int .i64 (0)))⟩]) (.block 0 (.loop (.seq (.ops [⟨(some 12), none, .int2 .lss (T 11) (T 10)⟩]) (.seq (.cond (T 12) .skip (.exit 0)) (.seq (.block 1 (.seq (.ops [⟨(some 13), none, .mov (T 11)⟩, ⟨(some 14), none, .idxSl 1 (T 9) (T 11)⟩, ⟨(some 15), none, .load1 (T 14)⟩, ⟨(some 5), none, .mov (T 13)⟩, ⟨(some 6), none, .mov (T 15)⟩]) (.seq (.seq (.ops [⟨(some 16), none, .mov (T 5)⟩, ⟨(some 17), none, .mov (T 1)⟩, ⟨(some 18), none, .len (T 17)⟩, ⟨(some 19), none, .int2 .geq (T 16) (T 18)⟩]) (.cond (T 19) (.seq (.ops [⟨(some 4), none, .mov (.const (.int .i64 (1)))⟩]) .ret) .skip)) (.seq (.ops [⟨(some 20), none, .mov (T 1)⟩, ⟨(some 21), none, .mov (T 5)⟩, ⟨(some 22), none, .idxSl 1 (T 20) (T 21)⟩, ⟨(some 23), none, .load1 (T 22)⟩, ⟨(some 7), none, .mov (T 23)⟩]) (.seq (.ops [⟨(some 24), none, .mov (T 6)⟩, ⟨(some 25), none, .mov (T 7)⟩, ⟨(some 26), none, .call (.func 104) [(T 24), (T 25)]⟩, ⟨(some 8), none, .mov (T 26)⟩]) (.seq (.ops [⟨(some 27), none, .mov (T 8)⟩, ⟨(some 28), none, .int2 .neq (T 27) (.const (.int .i64 (0)))⟩]) (.cond (T 28) (.seq (.ops [⟨(some 29), none, .mov (T 8)⟩, ⟨(some 4), none, .mov (T 29)⟩]) .ret) .skip))))))) (.ops [⟨(some 30), none, .int2 .add (T 11) (.const (.int .i64 (1)))⟩, ⟨(some 11), none, .mov (T 30)⟩]))))))) (.seq (.seq (.ops [⟨(some 31), none, .mov (T 0)⟩, ⟨(some 32), none, .len (T 31)⟩, ⟨(some 33), none, .mov (T 1)⟩, ⟨(some 34), none, .len (T 33)⟩, ⟨(some 35), none, .int2 .lss (T 32) (T 34)⟩]) (.cond (T 35) (.seq (.ops [⟨(some 4), none, .mov (.const (.int .i64 (-1)))⟩]) .ret) .skip)) (.seq (.ops [⟨(some 4), none, .mov (.const (.int .i64 (0)))⟩]) .ret))))
theorem fok105 : FnOk Try.prog 105 36 s105 [.tmp 4] := ⟨Try.f105, _, Try.func105, rfl, Try.ntmps105, by kernel_rfl, by kernel_rfl⟩
theorem cmpL_c {m k : Nat} (hn : 40 ≤ n) (hm : m ≤ 30) (hk : k ≤ 30) {va vb : Value} {a b : Nat → Int} (ha : Ints h va m a) (hb : Ints h vb k b) : call n (.func (.func 105) #[] #[]) [va, vb] h = some (.int .i64 (lexD a m b k), h) := by
  obtain ⟨n, rfl⟩ : ∃ p, n = p + 1 := ⟨n - 1, by omega⟩
  refine call_plain0 fok105 rfl rfl (by simp) rfl ?_
  have ha : Ints h.shutAll va m a := Cells.shut ha
  have hb : Ints h.shutAll vb k b := Cells.shut hb
  generalize h.shutAll = h at ha hb
  simp only [rn0, rn1, rn2, rn3, rn4, rn5, rn6, rn7, rn8, if_true, if_false, Nat.le_refl, true_and, and_true, decide_true, decide_false, Bool.not_true, Bool.not_false, reduceIte, Nat.reduceEqDiff, Nat.reduceAdd, Nat.reduceMul, Nat.reduceSub, Nat.reduceLeDiff, Nat.reduceLT, s105, Cells.len ha]
  refine W_loop m (fun i f g ms => ((∀ j, j < i → a j = b j) ∧ i ≤ k ∧ g = h) ∧ ms = [] ∧ f 0 = va ∧ f 1 = vb ∧ f 9 = va ∧ f 10 = .int .i64 (m : Int) ∧ f 11 = .int .i64 (i : Int)) (by simp; omega) ?_ ?_ ?_
  · simp only [rn0, rn1, rn2, rn3, rn4, rn5, rn6, rn7, rn8, if_true, if_false, Nat.le_refl, true_and, and_true, decide_true, decide_false, Bool.not_true, Bool.not_false, reduceIte, Nat.reduceEqDiff, Nat.reduceAdd, Nat.reduceMul, Nat.reduceSub, Nat.reduceLeDiff, Nat.reduceLT, Int.natCast_zero]
    first | exact ⟨fun i hi => by omega, Nat.zero_le _⟩ | exact ⟨⟨fun i hi => by omega, Nat.zero_le _⟩, rfl⟩
  · rintro i f g ms hi ⟨⟨he, hik, rfl⟩, rfl, p0, p1, p9, p10, p11⟩
    have hi' : (i : Int) < (m : Int) := by omega
    have hw : wrapF .i64 ((i : Int) + 1) = ((i + 1 : Nat) : Int) := by rw [wrap_in (by omega) (by omega)]; rfl
    by_cases c : i < k
    · have c' : ¬ (k : Int) ≤ (i : Int) := by omega
      have ec := cmpI_c (n := n) (h := g) (by omega) (a i) (b i)
      by_cases c1 : a i < b i
      · have hz : cmpZ (a i) (b i) = -1 := if_pos c1
        rw [hz] at ec
        rw [lexD_at hi c he c1]
        simp only [rn0, rn1, rn2, rn3, rn4, rn5, rn6, rn7, rn8, if_true, if_false, Nat.le_refl, true_and, and_true, decide_true, decide_false, Bool.not_true, Bool.not_false, reduceIte, Nat.reduceEqDiff, Nat.reduceAdd, Nat.reduceMul, Nat.reduceSub, Nat.reduceLeDiff, Nat.reduceLT, p0, p1, p9, p10, p11, hi', Cells.idx ha hi, Cells.ld ha hi Nat.zero_lt_one, Cells.len hb, ge_iff_le, c', Cells.idx hb c, Cells.ld hb c Nat.zero_lt_one, ec, Int.reduceEq, Int.reduceNeg]
      · by_cases c2 : b i < a i
        · have hz : cmpZ (a i) (b i) = 1 := by unfold cmpZ; rw [if_neg c1, if_pos c2]
          rw [hz] at ec
          rw [lexD_at' hi c he c2]
          simp only [rn0, rn1, rn2, rn3, rn4, rn5, rn6, rn7, rn8, if_true, if_false, Nat.le_refl, true_and, and_true, decide_true, decide_false, Bool.not_true, Bool.not_false, reduceIte, Nat.reduceEqDiff, Nat.reduceAdd, Nat.reduceMul, Nat.reduceSub, Nat.reduceLeDiff, Nat.reduceLT, p0, p1, p9, p10, p11, hi', Cells.idx ha hi, Cells.ld ha hi Nat.zero_lt_one, Cells.len hb, ge_iff_le, c', Cells.idx hb c, Cells.ld hb c Nat.zero_lt_one, ec, Int.reduceEq]
        · have hz : cmpZ (a i) (b i) = 0 := by unfold cmpZ; rw [if_neg c1, if_neg c2]
          rw [hz] at ec
          simp only [rn0, rn1, rn2, rn3, rn4, rn5, rn6, rn7, rn8, if_true, if_false, Nat.le_refl, true_and, and_true, decide_true, decide_false, Bool.not_true, Bool.not_false, reduceIte, Nat.reduceEqDiff, Nat.reduceAdd, Nat.reduceMul, Nat.reduceSub, Nat.reduceLeDiff, Nat.reduceLT, p0, p1, p9, p10, p11, hi', Cells.idx ha hi, Cells.ld ha hi Nat.zero_lt_one, Cells.len hb, ge_iff_le, c', Cells.idx hb c, Cells.ld hb c Nat.zero_lt_one, ec, hw]
          have fin : (∀ j, j < i + 1 → a j = b j) ∧ i + 1 ≤ k := ⟨fun j hj => by
            by_cases e : j = i
            · subst e; omega
            · exact he j (by omega), c⟩
          first | exact fin | exact ⟨fin, rfl⟩
    · have c' : (k : Int) ≤ (i : Int) := by omega
      have hr : lexD a m b k = 1 := by rw [lexD_eq fun j hj => he j (by omega), if_pos (by omega)]
      rw [hr]
      simp only [rn0, rn1, rn2, rn3, rn4, rn5, rn6, rn7, rn8, if_true, if_false, Nat.le_refl, true_and, and_true, decide_true, decide_false, Bool.not_true, Bool.not_false, reduceIte, Nat.reduceEqDiff, Nat.reduceAdd, Nat.reduceMul, Nat.reduceSub, Nat.reduceLeDiff, Nat.reduceLT, p0, p1, p9, p10, p11, hi', Cells.idx ha hi, Cells.ld ha hi Nat.zero_lt_one, Cells.len hb, ge_iff_le, c']
  · rintro f g ms ⟨⟨he, hik, rfl⟩, rfl, p0, p1, p9, p10, p11⟩
    by_cases c : m < k
    · have c' : (m : Int) < (k : Int) := by omega
      have hr : lexD a m b k = -1 := by rw [lexD_eq fun j hj => he j (by omega), if_neg (by omega), if_pos c]
      rw [hr]
      simp only [rn0, rn1, rn2, rn3, rn4, rn5, rn6, rn7, rn8, if_true, if_false, Nat.le_refl, true_and, and_true, decide_true, decide_false, Bool.not_true, Bool.not_false, reduceIte, Nat.reduceEqDiff, Nat.reduceAdd, Nat.reduceMul, Nat.reduceSub, Nat.reduceLeDiff, Nat.reduceLT, p0, p1, p9, p10, p11, Int.lt_irrefl, Cells.len ha, Cells.len hb, c']
    · have c' : ¬ (m : Int) < (k : Int) := by omega
      have hr : lexD a m b k = 0 := by rw [lexD_eq fun j hj => he j (by omega), if_neg (by omega), if_neg c]
      rw [hr]
      simp only [rn0, rn1, rn2, rn3, rn4, rn5, rn6, rn7, rn8, if_true, if_false, Nat.le_refl, true_and, and_true, decide_true, decide_false, Bool.not_true, Bool.not_false, reduceIte, Nat.reduceEqDiff, Nat.reduceAdd, Nat.reduceMul, Nat.reduceSub, Nat.reduceLeDiff, Nat.reduceLT, p0, p1, p9, p10, p11, Int.lt_irrefl, Cells.len ha, Cells.len hb, c']
def s103 : SCode := (.seq (.ops [⟨(some 2), none, .mov (.const (.int .i64 (0)))⟩]) (.seq (.ops [⟨(some 3), none, .mov (.const (.int .i64 (0)))⟩]) (.seq (.seq (.ops [⟨(some 6), none, .mov (T 0)⟩, ⟨(some 7), none, .len (T 6)⟩, ⟨(some 8), none, .mov (.const (.int .i64 (0)))⟩]) (.block 0 (.loop (.seq (.ops [⟨(some 9), none, .int2 .lss (T 8) (T 7)⟩]) (.seq (.cond (T 9) .skip (.exit 0)) (.seq (.block 1 (.seq (.ops [⟨(some 10), none, .idxSl 1 (T 6) (T 8)⟩, ⟨(some 11), none, .load1 (T 10)⟩, ⟨(some 5), none, .mov (T 11)⟩]) (.seq (.ops [⟨(some 12), none, .mov (T 5)⟩, ⟨(some 13), none, .mov (T 3)⟩, ⟨(some 14), none, .int2 .neq (T 12) (T 13)⟩]) (.cond (T 14) (.seq (.ops [⟨(some 15), none, .mov (T 5)⟩, ⟨(some 2), none, .mov (T 15)⟩]) .ret) .skip)))) (.ops [⟨(some 16), none, .int2 .add (T 8) (.const (.int .i64 (1)))⟩, ⟨(some 8), none, .mov (T 16)⟩]))))))) (.seq (.ops [⟨(some 17), none, .mov (T 3)⟩, ⟨(some 2), none, .mov (T 17)⟩]) .ret))))
theorem fok103 : FnOk Try.prog 103 18 s103 [.tmp 2] := ⟨Try.f103, _, Try.func103, rfl, Try.ntmps103, by kernel_rfl, by kernel_rfl⟩
theorem or_c (hn : 10 ≤ n) {v : Value} {a : Nat → Int} (ha : Ints h v 2 a) : call n (.func (.func 103) #[] #[]) [v] h = some (.int .i64 (if a 0 = 0 then a 1 else a 0), h) := by
  obtain ⟨n, rfl⟩ : ∃ p, n = p + 1 := ⟨n - 1, by omega⟩
  refine call_plain0 fok103 rfl rfl (by simp) rfl ?_
  have ha : Ints h.shutAll v 2 a := Cells.shut ha
  generalize h.shutAll = h at ha
  simp only [rn0, rn1, rn2, rn3, rn4, rn5, rn6, rn7, rn8, if_true, if_false, Nat.le_refl, true_and, and_true, decide_true, decide_false, Bool.not_true, Bool.not_false, reduceIte, Nat.reduceEqDiff, Nat.reduceAdd, Nat.reduceMul, Nat.reduceSub, Nat.reduceLeDiff, Nat.reduceLT, s103, Cells.len ha]
  refine W_loop 2 (fun i f g ms => ((∀ j, j < i → a j = 0) ∧ g = h) ∧ ms = [] ∧ f 3 = .int .i64 0 ∧ f 6 = v ∧ f 7 = .int .i64 ((2 : Nat) : Int) ∧ f 8 = .int .i64 (i : Int)) (by simp; omega) ?_ ?_ ?_
  · simp only [rn0, rn1, rn2, rn3, rn4, rn5, rn6, rn7, rn8, if_true, if_false, Nat.le_refl, true_and, and_true, decide_true, decide_false, Bool.not_true, Bool.not_false, reduceIte, Nat.reduceEqDiff, Nat.reduceAdd, Nat.reduceMul, Nat.reduceSub, Nat.reduceLeDiff, Nat.reduceLT, Int.natCast_zero]
    first | exact fun i hi => by omega | exact ⟨fun i hi => by omega, rfl⟩
  · rintro i f g ms hi ⟨⟨he, rfl⟩, rfl, p3, p6, p7, p8⟩
    have hi' : (i : Int) < ((2 : Nat) : Int) := by omega
    have hw : wrapF .i64 ((i : Int) + 1) = ((i + 1 : Nat) : Int) := by rw [wrap_in (by omega) (by omega)]; rfl
    by_cases c : a i = 0
    · simp only [rn0, rn1, rn2, rn3, rn4, rn5, rn6, rn7, rn8, if_true, if_false, Nat.le_refl, true_and, and_true, decide_true, decide_false, Bool.not_true, Bool.not_false, reduceIte, Nat.reduceEqDiff, Nat.reduceAdd, Nat.reduceMul, Nat.reduceSub, Nat.reduceLeDiff, Nat.reduceLT, p3, p6, p7, p8, hi', Cells.idx ha hi, Cells.ld ha hi Nat.zero_lt_one, c, hw]
      have fin : ∀ j, j < i + 1 → a j = 0 := fun j hj => by
        by_cases e : j = i
        · subst e; exact c
        · exact he j (by omega)
      first | exact fin | exact ⟨fin, rfl⟩
    · have hr : (if a 0 = 0 then a 1 else a 0) = a i := by
        obtain rfl | rfl : i = 0 ∨ i = 1 := by omega
        · rw [if_neg c]
        · rw [if_pos (he 0 (by omega))]
      rw [hr]
      simp only [rn0, rn1, rn2, rn3, rn4, rn5, rn6, rn7, rn8, if_true, if_false, Nat.le_refl, true_and, and_true, decide_true, decide_false, Bool.not_true, Bool.not_false, reduceIte, Nat.reduceEqDiff, Nat.reduceAdd, Nat.reduceMul, Nat.reduceSub, Nat.reduceLeDiff, Nat.reduceLT, p3, p6, p7, p8, hi', Cells.idx ha hi, Cells.ld ha hi Nat.zero_lt_one, c]
  · rintro f g ms ⟨⟨he, rfl⟩, rfl, p3, p6, p7, p8⟩
    have hr : (if a 0 = 0 then a 1 else a 0) = 0 := by rw [if_pos (he 0 (by omega)), he 1 (by omega)]
    rw [hr]
    simp only [rn0, rn1, rn2, rn3, rn4, rn5, rn6, rn7, rn8, if_true, if_false, Nat.le_refl, true_and, and_true, decide_true, decide_false, Bool.not_true, Bool.not_false, reduceIte, Nat.reduceEqDiff, Nat.reduceAdd, Nat.reduceMul, Nat.reduceSub, Nat.reduceLeDiff, Nat.reduceLT, p3, p6, p7, p8, Int.lt_irrefl]
end Go.Vm.Bt

namespace Go.Vm.Bt
open Go.Proofs Go.Vm.Vat Go.Vm.L2
set_option linter.unusedSimpArgs false
set_option linter.unusedVariables false
set_option maxRecDepth 10000
variable {n : Nat} {h : AHeap}
theorem sl_pair {a b : Int} : buildSl 1 2 [.int .i64 0] [0, 1] h [.int .i64 a, .int .i64 b] = newSlice h [.int .i64 a, .int .i64 b] 2 2 0 := id rfl
noncomputable def slZ (a : Nat → Int) (m : Nat) (b : Nat → Int) (k : Nat) : Int := if cmpZ m k = 0 then lexD a m b k else cmpZ m k
theorem slZ_lt {a b : Nat → Int} {m k : Nat} : slZ a m b k < 0 ↔ Shortlex a m b k := by
  unfold slZ cmpZ Shortlex
  by_cases c1 : m < k
  · rw [if_neg (by rw [if_pos (by omega)]; decide), if_pos (by omega)]
    exact ⟨fun _ => .inl c1, fun _ => by decide⟩
  · by_cases c2 : k < m
    · rw [if_neg (by rw [if_neg (by omega), if_pos (by omega)]; decide), if_neg (by omega), if_pos (by omega)]
      exact ⟨fun h => by omega, fun h => by rcases h with h | h <;> omega⟩
    · have e : m = k := by omega
      subst e
      rw [if_pos (by rw [if_neg (by omega), if_neg (by omega)])]
      unfold lexD
      rw [Nat.min_self]
      by_cases c : LexLt a b m
      · rw [if_pos c]; exact ⟨fun _ => .inr ⟨rfl, c⟩, fun _ => by decide⟩
      · rw [if_neg c]
        refine ⟨fun h => ?_, fun h => ?_⟩
        · rw [if_neg (Nat.lt_irrefl _), if_neg (Nat.lt_irrefl _)] at h
          split at h <;> omega
        · rcases h with h | h
          · omega
          · exact absurd h.2 c
def s102 : SCode := (.seq (.ops [⟨(some 4), none, .mov (.const (.int .i64 (0)))⟩]) (.seq (.ops [⟨(some 5), none, .mov (T 0)⟩, ⟨(some 6), none, .len (T 5)⟩, ⟨(some 7), none, .mov (T 1)⟩, ⟨(some 8), none, .len (T 7)⟩, ⟨(some 9), none, .call (.func 104) [(T 6), (T 8)]⟩, ⟨(some 10), none, .mov (T 0)⟩, ⟨(some 11), none, .mov (T 1)⟩, ⟨(some 12), none, .call (.func 105) [(T 10), (T 11)]⟩, ⟨(some 13), none, .bslice 1 2 [(.int .i64 (0))] [0, 1] [(T 9), (T 12)]⟩, ⟨(some 14), none, .call (.func 103) [(T 13)]⟩, ⟨(some 4), none, .mov (T 14)⟩]) .ret))
theorem fok102 : FnOk Try.prog 102 15 s102 [.tmp 4] := ⟨Try.f102, _, Try.func102, rfl, Try.ntmps102, by kernel_rfl, by kernel_rfl⟩
theorem leave1_c {m k : Nat} (hn : 60 ≤ n) (hr : h.next + 10 < far) (hm : m ≤ 30) (hk : k ≤ 30) {va vb : Value} {a b : Nat → Int} (ha : Ints h va m a) (hb : Ints h vb k b) : call n (.func (.func 102) #[] #[]) [va, vb] h = some (.int .i64 (slZ a m b k), h) := by
  obtain ⟨n, rfl⟩ : ∃ p, n = p + 1 := ⟨n - 1, by omega⟩
  refine call_plain0 fok102 rfl rfl (by simp) rfl ?_
  have ha : Ints h.shutAll va m a := Cells.shut ha
  have hb : Ints h.shutAll vb k b := Cells.shut hb
  have hr : h.shutAll.next + 10 < far := hr
  have hfl : h.shutAll.floor ≤ h.shutAll.next := Nat.le_refl _
  generalize h.shutAll = h at ha hb hr hfl
  have e1 := cmpI_c (n := n) (h := h) (by omega) (m : Int) (k : Int)
  have e2 := cmpL_c (n := n) (h := h) (by omega) hm hk ha hb
  simp only [rn0, rn1, rn2, rn3, rn4, rn5, rn6, rn7, rn8, if_true, if_false, Nat.le_refl, true_and, and_true, decide_true, decide_false, Bool.not_true, Bool.not_false, reduceIte, Nat.reduceEqDiff, Nat.reduceAdd, Nat.reduceMul, Nat.reduceSub, Nat.reduceLeDiff, Nat.reduceLT, s102, Cells.len ha, Cells.len hb, e1, e2, sl_pair]
  refine step_slice (by omega) rfl fun g hx => ?_
  have hp : Ints g (.slice (some ⟨h.next, 0, none⟩) 2 2) 2 (fun i => if i = 0 then cmpZ m k else lexD a m b k) := ⟨_, _, rfl, fun x e => by cases e; rfl, .inr ⟨_, 0, _, _, _, rfl, hx.get, fun i j hi hj => by
    obtain rfl : j = 0 := by omega
    obtain rfl | rfl : i = 0 ∨ i = 1 := by omega
    · rfl
    · rfl⟩⟩
  have e3 := or_c (n := n) (h := g) (by omega) hp
  have e4 : (if (if (0 : Nat) = 0 then cmpZ m k else lexD a m b k) = 0 then (if (1 : Nat) = 0 then cmpZ m k else lexD a m b k) else (if (0 : Nat) = 0 then cmpZ m k else lexD a m b k)) = slZ a m b k := rfl
  rw [e4] at e3
  simp only [rn0, rn1, rn2, rn3, rn4, rn5, rn6, rn7, rn8, if_true, if_false, Nat.le_refl, true_and, and_true, decide_true, decide_false, Bool.not_true, Bool.not_false, reduceIte, Nat.reduceEqDiff, Nat.reduceAdd, Nat.reduceMul, Nat.reduceSub, Nat.reduceLeDiff, Nat.reduceLT, e3]
def IsLeast (L : List (List Int)) (l : List Int) : Prop := l ∈ L ∧ ∀ w, w ∈ L → ¬ SL w l
def s101 : SCode := (.seq (.ops [⟨(some 4), none, .mov (.const (.slice none 0 0))⟩]) (.seq (.seq (.ops [⟨(some 7), none, .mov (T 0)⟩, ⟨(some 8), none, .len (T 7)⟩, ⟨(some 9), none, .int2 .lss (T 8) (.const (.int .i64 (1)))⟩]) (.cond (T 9) .stuck .skip)) (.seq (.ops [⟨(some 11), none, .mov (T 0)⟩, ⟨(some 12), none, .idxSl 1 (T 11) (.const (.int .i64 (0)))⟩, ⟨(some 13), none, .load1 (T 12)⟩, ⟨(some 5), none, .mov (T 13)⟩]) (.seq (.seq (.ops [⟨(some 6), none, .mov (.const (.int .i64 (1)))⟩]) (.block 0 (.loop (.seq (.seq (.ops [⟨(some 14), none, .mov (T 6)⟩, ⟨(some 15), none, .mov (T 0)⟩, ⟨(some 16), none, .len (T 15)⟩, ⟨(some 17), none, .int2 .lss (T 14) (T 16)⟩]) (.cond (T 17) .skip (.exit 0))) (.seq (.block 1 (.seq (.ops [⟨(some 20), none, .mov (T 1)⟩, ⟨(some 21), none, .mov (T 0)⟩, ⟨(some 22), none, .mov (T 6)⟩, ⟨(some 23), none, .idxSl 1 (T 21) (T 22)⟩, ⟨(some 24), none, .load1 (T 23)⟩, ⟨(some 25), none, .mov (T 5)⟩, ⟨(some 26), none, .call (T 20) [(T 24), (T 25)]⟩, ⟨(some 27), none, .int2 .lss (T 26) (.const (.int .i64 (0)))⟩]) (.cond (T 27) (.ops [⟨(some 28), none, .mov (T 0)⟩, ⟨(some 29), none, .mov (T 6)⟩, ⟨(some 30), none, .idxSl 1 (T 28) (T 29)⟩, ⟨(some 31), none, .load1 (T 30)⟩, ⟨(some 5), none, .mov (T 31)⟩]) .skip))) (.ops [⟨(some 18), none, .mov (T 6)⟩, ⟨(some 19), none, .int2 .add (T 18) (.const (.int .i64 (1)))⟩, ⟨(some 6), none, .mov (T 19)⟩])))))) (.seq (.ops [⟨(some 32), none, .mov (T 5)⟩, ⟨(some 4), none, .mov (T 32)⟩]) .ret)))))
theorem fok101 : FnOk Try.prog 101 33 s101 [.tmp 4] := ⟨Try.f101, _, Try.func101, rfl, Try.ntmps101, by kernel_rfl, by kernel_rfl⟩
set_option maxHeartbeats 1000000 in
theorem min_c (hn : 400 ≤ n) (hr : h.next + 20 < far) {v : Value} {L : List (List Int)} (hL : L ≠ []) (ha : AllR h v L) (h5 : ∀ l, l ∈ L → l.length ≤ 30) (hlen : L.length ≤ 300) :
    ∃ r h', call n (.func (.func 101) #[] #[]) [v, .func (.func 102) #[] #[]] h = some (r, h') ∧ h' = h ∧ ∃ l, IsLeast L l ∧ Ints h r l.length (atL l) := by
  obtain ⟨n, rfl⟩ : ∃ p, n = p + 1 := ⟨n - 1, by omega⟩
  refine call_any0 fok101 rfl rfl (by simp) ?_
  obtain ⟨R, hc, hi⟩ := ha
  obtain ⟨M, hM⟩ : ∃ M, L.length = M + 1 := ⟨L.length - 1, by have := List.length_pos_iff.2 hL; omega⟩
  have hpos : 0 < L.length := by omega
  have hl1 : ¬ (L.length : Int) < 1 := by omega
  have i0 : indexSl 1 v (.int .i64 0) = some (ptrO v 1 0 0) := Cells.idx hc hpos
  have hmem : ∀ i, i < L.length → L.getD i [] ∈ L := fun i hi => by rw [List.getD_eq_getElem?_getD, List.getElem?_eq_getElem hi]; exact List.getElem_mem hi
  simp only [rn0, rn1, rn2, rn3, rn4, rn5, rn6, rn7, rn8, if_true, if_false, Nat.le_refl, true_and, and_true, decide_true, decide_false, Bool.not_true, Bool.not_false, reduceIte, Nat.reduceEqDiff, Nat.reduceAdd, Nat.reduceMul, Nat.reduceSub, Nat.reduceLeDiff, Nat.reduceLT, s101, Cells.len hc, hl1, i0, Cells.ld hc hpos Nat.zero_lt_one]
  refine W_loop M (fun k f g ms => (g = h ∧ ∃ c, c < k + 1 ∧ f 5 = R c ∧ ∀ j, j < k + 1 → ¬ SL (L.getD j []) (L.getD c [])) ∧ ms = [] ∧ f 0 = v ∧ f 1 = .func (.func 102) #[] #[] ∧ f 6 = .int .i64 ((k + 1 : Nat) : Int)) (by simp; omega) ?_ ?_ ?_
  · have hs0 : ¬ SL (L.getD 0 []) (L.getD 0 []) := fun h => by
      rcases h with h | h
      · omega
      · exact lex_irr h.2
    have z1 : ((0 + 1 : Nat) : Int) = 1 := rfl
    simp only [rn0, rn1, rn2, rn3, rn4, rn5, rn6, rn7, rn8, if_true, if_false, Nat.le_refl, true_and, and_true, decide_true, decide_false, Bool.not_true, Bool.not_false, reduceIte, Nat.reduceEqDiff, Nat.reduceAdd, Nat.reduceMul, Nat.reduceSub, Nat.reduceLeDiff, Nat.reduceLT, z1]
    have fin : ∃ c, c < 0 + 1 ∧ R 0 = R c ∧ ∀ j, j < 0 + 1 → ¬ SL (L.getD j []) (L.getD c []) := ⟨0, by omega, rfl, fun j hj => by
      obtain rfl : j = 0 := by omega
      exact hs0⟩
    first | exact fin | exact ⟨fin, rfl⟩ | exact ⟨⟨rfl, fin⟩, rfl⟩
  · rintro k f g ms hk ⟨⟨rfl, c, hc1, p5, hno⟩, rfl, p0, p1, p6⟩
    have hk2 : k + 1 < L.length := by omega
    have hk' : ((k + 1 : Nat) : Int) < (L.length : Int) := by omega
    have hw : wrapF .i64 (((k + 1 : Nat) : Int) + 1) = ((k + 1 + 1 : Nat) : Int) := by rw [wrap_in (by omega) (by omega)]; rfl
    have e1 := leave1_c (n := n) (h := g) (by omega) (by omega) (h5 _ (hmem _ hk2)) (h5 _ (hmem c (by omega))) (hi _ hk2) (hi c (by omega))
    have hz := slZ_lt (a := atL (L.getD (k + 1) [])) (b := atL (L.getD c [])) (m := (L.getD (k + 1) []).length) (k := (L.getD c []).length)
    have hsl : SL (L.getD (k + 1) []) (L.getD c []) ↔ Shortlex (atL (L.getD (k + 1) [])) (L.getD (k + 1) []).length (atL (L.getD c [])) (L.getD c []).length := Iff.rfl
    rw [← hsl] at hz
    by_cases cc : SL (L.getD (k + 1) []) (L.getD c [])
    · have hz' := hz.2 cc
      simp only [rn0, rn1, rn2, rn3, rn4, rn5, rn6, rn7, rn8, if_true, if_false, Nat.le_refl, true_and, and_true, decide_true, decide_false, Bool.not_true, Bool.not_false, reduceIte, Nat.reduceEqDiff, Nat.reduceAdd, Nat.reduceMul, Nat.reduceSub, Nat.reduceLeDiff, Nat.reduceLT, p0, p1, p5, p6, Cells.len hc, hk', Cells.idx hc hk2, Cells.ld hc hk2 Nat.zero_lt_one, e1, hz', hw]
      have fin : ∃ c', c' < k + 1 + 1 ∧ R (k + 1) = R c' ∧ ∀ j, j < k + 1 + 1 → ¬ SL (L.getD j []) (L.getD c' []) := ⟨k + 1, by omega, rfl, fun j hj hs => by
        by_cases e : j = k + 1
        · subst e
          rcases hs with h | h
          · omega
          · exact lex_irr h.2
        · exact hno j (by omega) (sl_trans hs cc)⟩
      first | exact fin | exact ⟨fin, rfl⟩ | exact ⟨⟨rfl, fin⟩, rfl⟩
    · have hz' : ¬ slZ (atL (L.getD (k + 1) [])) (L.getD (k + 1) []).length (atL (L.getD c [])) (L.getD c []).length < 0 := fun q => cc (hz.1 q)
      simp only [rn0, rn1, rn2, rn3, rn4, rn5, rn6, rn7, rn8, if_true, if_false, Nat.le_refl, true_and, and_true, decide_true, decide_false, Bool.not_true, Bool.not_false, reduceIte, Nat.reduceEqDiff, Nat.reduceAdd, Nat.reduceMul, Nat.reduceSub, Nat.reduceLeDiff, Nat.reduceLT, p0, p1, p5, p6, Cells.len hc, hk', Cells.idx hc hk2, Cells.ld hc hk2 Nat.zero_lt_one, e1, hz', hw]
      have fin : ∃ c', c' < k + 1 + 1 ∧ R c = R c' ∧ ∀ j, j < k + 1 + 1 → ¬ SL (L.getD j []) (L.getD c' []) := ⟨c, by omega, rfl, fun j hj hs => by
        by_cases e : j = k + 1
        · subst e; exact cc hs
        · exact hno j (by omega) hs⟩
      first | exact fin | exact ⟨fin, rfl⟩ | exact ⟨⟨rfl, fin⟩, rfl⟩
  · rintro f g ms ⟨⟨rfl, c, hc1, p5, hno⟩, rfl, p0, p1, p6⟩
    have hk' : ¬ ((M + 1 : Nat) : Int) < (L.length : Int) := by omega
    simp only [rn0, rn1, rn2, rn3, rn4, rn5, rn6, rn7, rn8, if_true, if_false, Nat.le_refl, true_and, and_true, decide_true, decide_false, Bool.not_true, Bool.not_false, reduceIte, Nat.reduceEqDiff, Nat.reduceAdd, Nat.reduceMul, Nat.reduceSub, Nat.reduceLeDiff, Nat.reduceLT, p0, p1, p5, p6, Cells.len hc, hk']
    refine ⟨L.getD c [], ⟨hmem c (by omega), fun w hw => ?_⟩, hi c (by omega)⟩
    obtain ⟨j, hj, e⟩ := List.getElem_of_mem hw
    have e2 : L.getD j [] = w := by rw [List.getD_eq_getElem?_getD, List.getElem?_eq_getElem hj]; exact e
    rw [← e2]
    exact hno j (by omega)
theorem least_uniq {L : List (List Int)} {l l' : List Int} (h1 : IsLeast L l) (h2 : IsLeast L l') : l = l' := by
  have a := h1.2 l' h2.1
  have b := h2.2 l h1.1
  apply sl_eq <;> assumption
open Classical in
noncomputable def leaveS (S : MB) : List Int := if h : ∃ l, IsLeast (allW S) l then h.choose else []
theorem leave_is {S : MB} {l : List Int} (hl : IsLeast (allW S) l) : leaveS S = l := by
  unfold leaveS
  rw [dif_pos ⟨l, hl⟩]
  exact least_uniq (Exists.choose_spec (p := fun l => IsLeast (allW S) l) ⟨l, hl⟩) hl
def LeaveR (h : AHeap) (S : MB) (v : Value) (h' : AHeap) : Prop := (∀ i, i < h.next → h'.get i = h.get i) ∧ h.next ≤ h'.next ∧ h'.next ≤ h.next + 50010 ∧ h'.floor = h.floor ∧
  ((faultS S ≠ 0 ∧ v = .tuple ⟨[nilS, .int .i64 (faultS S)]⟩) ∨ (faultS S = 0 ∧ ∃ l, v = .tuple ⟨[l, .int .i64 0]⟩ ∧ Ints h' l (leaveS S).length (atL (leaveS S)) ∧ IsLeast (allW S) (leaveS S)))
def s54 : SCode := (.seq (.ops [⟨(some 1), none, .box (T 0)⟩, ⟨(some 2), none, .mov (.const (.slice none 0 0))⟩, ⟨(some 3), none, .mov (.const (.int .i64 (0)))⟩]) (.seq (.seq (.ops [⟨(some 5), none, .loadN 5 (T 1)⟩, ⟨(some 6), none, .call (.func 31) [(T 5)]⟩, ⟨(some 4), none, .mov (T 6)⟩]) (.seq (.ops [⟨(some 7), none, .mov (T 4)⟩, ⟨(some 8), none, .int2 .neq (T 7) (.const (.int .i64 (0)))⟩]) (.cond (T 8) (.seq (.ops [⟨(some 9), none, .mov (T 4)⟩, ⟨(some 2), none, .mov (.const (.slice none 0 0))⟩, ⟨(some 3), none, .mov (T 9)⟩]) .ret) .skip))) (.seq (.ops [⟨(some 10), none, .loadN 5 (T 1)⟩, ⟨(some 11), none, .build #[(0, 5), (5, 1)] [(.int .i64 (0)), (.int .i64 (0)), (.slice none 0 0), (.int .i64 (0)), (.slice none 0 0), (.slice none 0 0)] [0] [(T 10)]⟩, ⟨(some 12), none, .call (.func 100) [(T 11)]⟩, ⟨(some 13), none, .call (.func 101) [(T 12), (.func 102)]⟩, ⟨(some 2), none, .mov (T 13)⟩, ⟨(some 3), none, .mov (.const (.int .i64 (0)))⟩]) .ret)))
theorem fok54 : FnOk Try.prog 54 14 s54 [.tmp 2, .tmp 3] := ⟨Try.f54, _, Try.func54, rfl, Try.ntmps54, by kernel_rfl, by kernel_rfl⟩
theorem leaveP_c (hn : 1000 ≤ n) (hr : h.next + 130000 < far) (hfl : h.floor ≤ h.next) {vv sv : Value} {S : MB} (hy : BeatR h vv sv S) (hT : ThinS S) :
    ∃ v h', call n (.func (.func 54) #[] #[]) [.agg ⟨beL S vv sv⟩] h = some (v, h') ∧ LeaveR h S v h' := by
  obtain ⟨n, rfl⟩ : ∃ p, n = p + 1 := ⟨n - 1, by omega⟩
  refine call_any0 fok54 rfl rfl (by simp) ?_
  simp only [s54, W_seq, W_ops]
  refine ops_box (cs := beL S vv sv) (by omega) rfl hy.one fun g1 hx1 => ?_
  have n1 := hx1.next
  have f1 := hx1.floor
  have hy1 := hy.mono hx1.sub
  have w1 := hx1.row.whole (n := 5) rfl
  have ec := check_c (n := n) (h := g1) (by omega) (by omega) hy1 hT
  by_cases hf : faultS S = 0
  case neg =>
    simp only [rn0, rn1, rn2, rn3, rn4, rn5, rn6, rn7, rn8, if_true, if_false, Nat.le_refl, true_and, and_true, decide_true, decide_false, Bool.not_true, Bool.not_false, reduceIte, Nat.reduceEqDiff, Nat.reduceAdd, Nat.reduceMul, Nat.reduceSub, Nat.reduceLeDiff, Nat.reduceLT, w1, ec, hf, ret_tt]
    exact ⟨fun i hi => hx1.old i hi, by omega, by omega, by omega, .inl ⟨hf, rfl⟩⟩
  have hG := good_of hf
  obtain ⟨_, _, z3, z5, _⟩ := hG.sizes
  obtain ⟨v, g2, e2, i2, ov, o2, u2, m2, f2⟩ := wrongAll_c (n := n) (h := g1) (by omega) (by omega) (by omega) hy1 hG
  have hne : allW S ≠ [] := by unfold allW; rw [Ne, List.map_eq_nil_iff]; exact allE_ne hG
  obtain ⟨r, g3, e3, rfl, l, hl, il⟩ := min_c (n := n) (h := g2) (by omega) (by omega) hne i2 (fun l hl => by
    obtain ⟨t, _, rfl⟩ := List.mem_map.1 hl
    have := wrong_len (S := S) (t := t)
    omega) (by unfold allW; rw [List.length_map]; have := enum_len hG; unfold allE; omega)
  have e := leave_is hl
  simp only [rn0, rn1, rn2, rn3, rn4, rn5, rn6, rn7, rn8, if_true, if_false, Nat.le_refl, true_and, and_true, decide_true, decide_false, Bool.not_true, Bool.not_false, reduceIte, Nat.reduceEqDiff, Nat.reduceAdd, Nat.reduceMul, Nat.reduceSub, Nat.reduceLeDiff, Nat.reduceLT, w1, ec, hf, build_wkB, e2, e3, ret_tt]
  exact ⟨fun i hi => by rw [o2 i (by omega), hx1.old i hi], by omega, by omega, by omega, .inr ⟨hf, r, rfl, by rw [e]; exact il, by rw [e]; exact hl⟩⟩
end Go.Vm.Bt

namespace Go.Vm.Bt
open Go.Proofs Go.Vm.Vat Go.Vm.L2
set_option linter.unusedSimpArgs false
set_option linter.unusedVariables false
set_option maxRecDepth 10000
variable {n : Nat} {h : AHeap}
theorem least_ex : ∀ (L : List (List Int)), L ≠ [] → ∃ l, IsLeast L l
  | [], h => absurd rfl h
  | x :: L, _ => by
    by_cases hL : L = []
    · subst hL
      exact ⟨x, List.mem_cons_self, fun w hw => by rw [List.mem_singleton] at hw; subst hw; exact sl_irr⟩
    · obtain ⟨l, h1, h2⟩ := least_ex L hL
      by_cases c : SL x l
      · refine ⟨x, List.mem_cons_self, fun w hw => ?_⟩
        rcases List.mem_cons.1 hw with rfl | hw
        · exact sl_irr
        · exact fun q => h2 w hw (sl_trans q c)
      · refine ⟨l, List.mem_cons_of_mem _ h1, fun w hw => ?_⟩
        rcases List.mem_cons.1 hw with rfl | hw
        · exact c
        · exact h2 w hw
theorem leaveS_min {S : MB} (hG : Good S) : (∃ t, t ∈ allE S ∧ leaveS S = wrongL S t) ∧ ∀ t, t ∈ allE S → ¬ SL (wrongL S t) (leaveS S) := by
  have hne : allW S ≠ [] := by unfold allW; rw [Ne, List.map_eq_nil_iff]; exact allE_ne hG
  obtain ⟨l, hl⟩ := least_ex _ hne
  rw [leave_is hl]
  refine ⟨?_, fun t ht => hl.2 _ (List.mem_map.2 ⟨t, ht, rfl⟩)⟩
  obtain ⟨t, ht, e⟩ := List.mem_map.1 hl.1
  exact ⟨t, ht, e.symm⟩
theorem leaveS_len {S : MB} (hG : Good S) : (leaveS S).length ≤ S.ns := by
  obtain ⟨⟨t, _, e⟩, _⟩ := leaveS_min hG
  rw [e]; exact wrong_len
end Go.Vm.Bt

namespace Go.Vm.Bt
open Go.Proofs Go.Vm.Vat Go.Vm.L2
set_option linter.unusedSimpArgs false
set_option linter.unusedVariables false
set_option maxRecDepth 10000
variable {n : Nat} {h : AHeap}
theorem wHi_sub {S X : MB} (hT : truthsS S ≠ []) (hTX : truthsS X ≠ []) {e e' : Nat → Int} {m m' : Nat} (h : ∀ u, u ∈ truthsS X → ∃ w, w ∈ truthsS S ∧ lossTo X (whenS u) e' m' ≤ lossTo S (whenS w) e m) : wHi X e' m' ≤ wHi S e m :=
  (wHi_le hTX).2 fun u hu => by
    obtain ⟨w, hw, hl⟩ := h u hu
    exact Int.le_trans hl ((wHi_le hT).1 (Int.le_refl _) w hw)
theorem best_least {S X : MB} (hG : Good S) (hX : Good X) (hT : truthsS S ≠ []) (hTX : truthsS X ≠ []) (h : ∀ e, EndsOk S S.nv e → ∃ e', EndsOk X X.nv e' ∧ wHi X e' X.nv ≤ wHi S e S.nv) : (bestS X).2 ≤ (bestS S).2 := by
  obtain ⟨b1, b2, _⟩ := best_is hG hT
  obtain ⟨e', h1, h2⟩ := h _ b1
  have := best_le hX hTX h1
  omega
end Go.Vm.Bt

namespace Go.Vm.Bt
open Go.Proofs Go.Vm.Vat Go.Vm.L2
set_option linter.unusedSimpArgs false
set_option linter.unusedVariables false
set_option maxRecDepth 10000
structure Wide (S X : MB) : Prop where
  nv : X.nv = S.nv
  last : X.last = S.last
  ns : X.ns = S.ns
  r : ∀ u k, k < S.ns → (RightS X u k ↔ RightS S u k)
  l : ∀ v a b, lostS X v a b = lostS S v a b
  u : ∀ i, i < numU S → uLo X i ≤ uLo S i ∧ uHi S i ≤ uHi X i
section
variable {S X : MB}
theorem leave_nil (hG : Good S) (hl : (leaveS S).length = 0) : truthsS S ≠ [] := by
  obtain ⟨⟨t, ht, e⟩, _⟩ := leaveS_min hG
  have e0 : leaveS S = [] := List.length_eq_zero_iff.1 hl
  rw [e0] at e
  have hm : t ∈ truthsS S := truths_mem.2 ⟨allE_mem.1 ht, fun k hk => by
    apply Classical.byContradiction
    intro hno
    obtain ⟨i, i1, _⟩ := pick_has (p := wrS S t) hk hno
    have i1 : i < (wrongL S t).length := i1
    rw [← e] at i1
    exact absurd i1 (Nat.not_lt_zero _)⟩
  intro q; rw [q] at hm; cases hm
end
end Go.Vm.Bt

namespace Go.Vm.Bt
open Go.Proofs Go.Vm.Vat Go.Vm.L2
set_option linter.unusedSimpArgs false
set_option linter.unusedVariables false
set_option maxRecDepth 10000
variable {n : Nat} {h : AHeap}
def moreS (S : MB) (v hh : Int) (dd : Bool) : MB := { S with ns := S.ns + 1, sv := fun k => if k = S.ns then v else S.sv k, sh := fun k => if k = S.ns then hh else S.sh k, sd := fun k => if k = S.ns then dd else S.sd k }
theorem near_sub {S X : MB} (hG : Good S) (hX : Good X) (hTX : truthsS X ≠ []) (hv : X.nv = S.nv) (hl : X.last = S.last) (hlo : ∀ v a b, lostS X v a b = lostS S v a b) (hs : ∀ t, t ∈ truthsS X → t ∈ truthsS S) : Near X S := by
  obtain ⟨t0, ht0⟩ := List.exists_mem_of_ne_nil _ hTX
  have hT : truthsS S ≠ [] := fun e => by have := hs t0 ht0; rw [e] at this; cases this
  have hloss : ∀ {d e : Nat → Int} m, lossTo X d e m = lossTo S d e m := by
    intro d e m
    induction m with
    | zero => rfl
    | succ m ih => simp only [lossTo, hlo, ih]
  refine ⟨errS_zero.2 ⟨hX, hTX⟩, errS_zero.2 ⟨hG, hT⟩, hv, hl, ?_, fun v hv' => ?_, fun v hv' => ?_⟩
  · exact best_least hG hX hT hTX fun e he => ⟨e, by
      rw [hv]
      exact ⟨fun v hv => by have := he.1 v hv; rw [hl]; exact this, he.2⟩, by
      rw [hv]
      exact wHi_sub hT hTX fun u hu => ⟨u, hs u hu, by rw [hloss]; exact Int.le_refl _⟩⟩
  · exact (le_loN hTX).2 fun t ht => (le_loN hT).1 (Int.le_refl _) t (hs t ht)
  · exact (hiN_le hTX).2 fun t ht => (hiN_le hT).1 (Int.le_refl _) t (hs t ht)
section
variable {S : MB} {v hh : Int} {dd : Bool}
theorem plus_right {t : Nat → Int} {k : Nat} (hk : k < S.ns) : RightS (moreS S v hh dd) t k ↔ RightS S t k := by
  show decide (whenS t (if k = S.ns then v else S.sv k).toNat ≤ (if k = S.ns then hh else S.sh k)) = (if k = S.ns then dd else S.sd k) ↔ _
  have : ¬ k = S.ns := by omega
  simp only [this, if_false]
  rfl
theorem plus_wrong {t : Nat → Int} : (wrongL S t).length ≤ (wrongL (moreS S v hh dd) t).length ∧ (wrongL (moreS S v hh dd) t).length ≤ (wrongL S t).length + 1 := by
  have e : pickL (wrS (moreS S v hh dd) t) S.ns = pickL (wrS S t) S.ns := pick_congr fun j hj => by unfold wrS; rw [plus_right hj]
  have h1 := pick_succ' (p := wrS (moreS S v hh dd) t) (k := S.ns)
  rw [e] at h1
  exact h1
theorem plus_leave (hG : Good S) (hX : Good (moreS S v hh dd)) : (leaveS S).length ≤ (leaveS (moreS S v hh dd)).length ∧ (leaveS (moreS S v hh dd)).length ≤ (leaveS S).length + 1 := by
  have ea : ∀ t, t ∈ allE (moreS S v hh dd) ↔ t ∈ allE S := fun t => Iff.rfl
  constructor
  · obtain ⟨⟨t, ht, e⟩, _⟩ := leaveS_min hX
    have h2 := (leaveS_min hG).2 t ((ea t).1 ht)
    have h3 := (plus_wrong (S := S) (v := v) (hh := hh) (dd := dd) (t := t)).1
    rw [e]
    apply Classical.byContradiction
    intro hc
    exact h2 (.inl (by omega))
  · obtain ⟨⟨t, ht, e⟩, _⟩ := leaveS_min hG
    have h2 := (leaveS_min hX).2 t ((ea t).2 ht)
    have h3 := (plus_wrong (S := S) (v := v) (hh := hh) (dd := dd) (t := t)).2
    rw [← e] at h3
    apply Classical.byContradiction
    intro hc
    exact h2 (.inl (by omega))
theorem plus_truth {t : Nat → Int} (ht : t ∈ truthsS (moreS S v hh dd)) : t ∈ truthsS S := by
  rw [truths_mem] at ht ⊢
  exact ⟨ht.1, fun k hk => (plus_right hk).1 (ht.2 k (by show k < S.ns + 1; omega))⟩
theorem plus_near (hG : Good S) (hX : Good (moreS S v hh dd)) (hz : truthsS (moreS S v hh dd) ≠ []) : Near (moreS S v hh dd) S :=
  near_sub hG hX hz rfl rfl (fun _ _ _ => rfl) fun _ ht => plus_truth ht
end
def spC (v hh : Int) (dd : Bool) (j : Nat) : Value := if j = 0 then .int .i64 v else if j = 1 then .int .i64 hh else .bool dd
theorem sampC_one {S : MB} {k j : Nat} : oneCell (sampC S k j) = true := by unfold sampC; by_cases h0 : j = 0 <;> by_cases h1 : j = 1 <;> simp [h0, h1, oneCell]
theorem flatB_one {S : MB} {m : Nat} : allB oneCell (flatL 3 m (sampC S)) = true := by rw [allB_iff]; intro v hv; obtain ⟨i, _, rfl⟩ := List.mem_map.1 hv; exact sampC_one
theorem build_noneB {a b c : Value} : buildSl 3 0 [a, b, c] [] h [] = newSlice h [] 0 0 0 := id rfl
theorem more_app {sv : Value} {S : MB} (hS : Cells h sv 3 S.ns (sampC S)) (hm : S.ns ≤ 1048576) (hr : h.next + 10 < far) (hfl : h.floor ≤ h.next) :
    ∃ e0 g1 a1 g2, buildSl 3 0 [.int .i64 0, .int .i64 0, .bool false] [] h [] = some (e0, g1) ∧ appendA 3 24 g1 e0 sv = some (a1, g2) ∧ (∀ i, i < h.next → g1.get i = h.get i) ∧ (∀ i, i < h.next → g2.get i = h.get i) ∧ h.next ≤ g1.next ∧ g1.next ≤ g2.next ∧ g2.next ≤ h.next + 2 ∧
      ∀ (v l : Int) (r : Bool), ∃ b1 g3 S' g4, buildSl 3 1 [.int .i64 0, .int .i64 0, .bool false] [0] g2 [.agg ⟨[.int .i64 v, .int .i64 l, .bool r]⟩] = some (b1, g3) ∧ appendA 3 24 g3 a1 b1 = some (S', g4) ∧ oneCell S' = true ∧
        Cells g4 S' 3 (S.ns + 1) (sampC (moreS S v l r)) ∧ (∀ i, i < h.next → g4.get i = h.get i) ∧ g2.next ≤ g3.next ∧ g3.next ≤ g4.next ∧ g4.next ≤ h.next + 4 ∧ g4.floor = h.floor ∧
        (∀ a k c, S' = .slice (some a) k c → h.next ≤ a.block) := by
  obtain ⟨m, hmE⟩ : ∃ m, m = S.ns := ⟨_, rfl⟩
  have hC : ∀ {v l : Int} {r : Bool} {k j : Nat}, k < m → sampC (moreS S v l r) k j = sampC S k j := fun {v l r k j} hk => by
    have : ¬ k = S.ns := by omega
    simp only [sampC, moreS, this, if_false]
  have hN : ∀ {v l : Int} {r : Bool} {j : Nat}, sampC (moreS S v l r) m j = spC v l r j := fun {v l r j} => by
    simp only [sampC, moreS, hmE, if_true, spC]
  rw [← hmE] at hS hm ⊢
  obtain ⟨xs, ks, es, ls⟩ := Cells.list (by omega) hS
  obtain ⟨g1, q1, hx1⟩ := newSlice_ex (h := h) (cs := []) (n := 0) (cap := 0) (gr := 0) (by omega) rfl
  have n1 := hx1.next
  have f1 := hx1.floor
  have hap := append_none (h := g1) (s := 3) (bytes := 24) (b := h.next) ⟨xs, ks, es⟩ (cells_sub hx1.sub hS (by omega) ls) flatL_len (by simp [maxBytes]; omega) (by simp [maxBytes]; omega)
  by_cases hm0 : m = 0
  · rw [if_pos hm0] at hap
    refine ⟨_, g1, _, g1, by rw [build_noneB]; exact q1, hap, hx1.old, hx1.old, by omega, by omega, by omega, fun v l r => ?_⟩
    obtain ⟨g3, q3, hx3⟩ := newSlice_ex (h := g1) (cs := [.int .i64 v, .int .i64 l, .bool r]) (n := 1) (cap := 1) (gr := 0) (by omega) rfl
    have n3 := hx3.next
    have f3 := hx3.floor
    have hap2 := append_none (h := g3) (s := 3) (bytes := 24) (b := h.next) (m := 1) ⟨_, _, rfl⟩ (one_cells (cap := 1) hx3.get rfl) rfl (by simp [maxBytes]) (by simp [maxBytes])
    rw [if_neg (by omega)] at hap2
    obtain ⟨g4, q4, hx4⟩ := newSlice_ex (h := g3) (cs := [.int .i64 v, .int .i64 l, .bool r]) (n := 1) (cap := unk) (gr := 3) (by omega) rfl
    have n4 := hx4.next
    have f4 := hx4.floor
    refine ⟨_, g3, _, g4, by rw [sl_smp]; exact q3, by rw [hap2]; exact q4, rfl, ?_, fun i hi => by rw [hx4.old i (by omega), hx3.old i (by omega), hx1.old i hi], by omega, by omega, by omega, by omega, fun a k c e => by cases e; show h.next ≤ g3.next; omega⟩
    rw [show m + 1 = 1 by omega]
    refine cells_row (b := g3.next) ⟨true, 3, hx4.get⟩ fun k j hk hj => ?_
    obtain rfl : k = m := by omega
    rw [hN, hm0]
    obtain rfl | rfl | rfl : j = 0 ∨ j = 1 ∨ j = 2 := by omega
    all_goals rfl
  · rw [if_neg hm0] at hap
    obtain ⟨g2, q2, hx2⟩ := newSlice_ex (h := g1) (cs := flatL 3 m (sampC S)) (n := m) (cap := unk) (gr := 3) (by omega) flatB_one
    have n2 := hx2.next
    have f2 := hx2.floor
    refine ⟨_, g1, _, g2, by rw [build_noneB]; exact q1, by rw [hap]; exact q2, hx1.old, fun i hi => by rw [hx2.old i (by omega), hx1.old i hi], by omega, by omega, by omega, fun v l r => ?_⟩
    obtain ⟨g3, q3, hx3⟩ := newSlice_ex (h := g2) (cs := [.int .i64 v, .int .i64 l, .bool r]) (n := 1) (cap := 1) (gr := 0) (by omega) rfl
    have n3 := hx3.next
    have f3 := hx3.floor
    have gS : GrowC h.next g3 (.slice (some ⟨g1.next, 0, none⟩) m unk) 3 m (sampC (moreS S v l r)) :=
      ⟨_, .inr ⟨_, rfl, by rw [hx3.old _ (by omega)]; exact hx2.get, flatL_len, by omega⟩, flatB_one, fun k j hk hj => by
        rw [flatL_get (c := sampC S) hk hj, hC hk]⟩
    obtain ⟨S', g4, e, e', gS', hk4⟩ := gS.append (bytes := 24) (cap := 1) (by omega) (by omega) (by omega) hx3.get rfl rfl (fun j hj => by
      rw [hN]
      obtain rfl | rfl | rfl : j = 0 ∨ j = 1 ∨ j = 2 := by omega
      all_goals rfl) (by simp [maxBytes]; omega) (by simp [maxBytes]; omega)
    have n4 := hk4.next
    have f4 := hk4.floor
    refine ⟨_, g3, S', g4, by rw [sl_smp]; exact q3, e, gS'.one, gS'.cells, fun i hi => ?_, by omega, by omega, by omega, by omega, fun a k c e2 => by rw [e'] at e2; cases e2; show h.next ≤ g3.next; omega⟩
    rw [hk4.old i (by omega) fun b k c e => by cases e; show i ≠ g1.next; omega, hx3.old i (by omega), hx2.old i (by omega), hx1.old i hi]
end Go.Vm.Bt

namespace Go.Vm.Bt
open Go.Proofs Go.Vm.Vat Go.Vm.L2
set_option linter.unusedSimpArgs false
set_option linter.unusedVariables false
set_option maxRecDepth 10000
variable {n : Nat} {h : AHeap}
theorem self_3b {x y : Int} {z : Bool} : eqV (.agg ⟨[.int .i64 x, .int .i64 y, .bool z]⟩) (.agg ⟨[.int .i64 x, .int .i64 y, .bool z]⟩) = true := by cases z <;> simp [eqV, eqCells, eqC_int] <;> rfl
def s18 : SCode := (.seq (.ops [⟨(some 2), none, .box (T 0)⟩, ⟨(some 3), none, .box (T 1)⟩, ⟨(some 4), none, .mov (.const (.bool false))⟩]) (.seq (.ops [⟨(some 10), none, .loadN 5 (T 2)⟩, ⟨(some 5), none, .alloc [(.int .i64 (0)), (.int .i64 (0)), (.slice none 0 0), (.int .i64 (0)), (.slice none 0 0)]⟩, ⟨none, none, .store 5 (T 5) (T 10)⟩]) (.seq (.draw [⟨.up, ⟨(some 11), none, .bslice 3 0 [(.int .i64 (0)), (.int .i64 (0)), (.bool false)] [] []⟩⟩, ⟨.free, ⟨(some 12), none, .fieldAddr 4 (T 2)⟩⟩, ⟨.rd, ⟨(some 13), none, .load1 (T 12)⟩⟩, ⟨.up, ⟨(some 14), none, .append 3 24 (T 11) (T 13)⟩⟩, ⟨.rd, ⟨(some 15), none, .loadN 3 (T 3)⟩⟩, ⟨.any, ⟨(some 16), none, .bslice 3 1 [(.int .i64 (0)), (.int .i64 (0)), (.bool false)] [0] [(T 15)]⟩⟩, ⟨.any, ⟨(some 17), none, .append 3 24 (T 14) (T 16)⟩⟩, ⟨.free, ⟨(some 18), none, .fieldAddr 4 (T 5)⟩⟩, ⟨.any, ⟨none, none, .store 1 (T 18) (T 17)⟩⟩]) (.seq (.seq (.ops [⟨(some 19), none, .loadN 5 (T 2)⟩, ⟨(some 20), none, .call (.func 63) [(T 19)]⟩, ⟨(some 21), none, .not (T 20)⟩, ⟨(some 22), none, .mov (T 21)⟩, ⟨(some 23), (some (22, false)), .loadN 5 (T 5)⟩, ⟨(some 24), (some (22, false)), .call (.func 63) [(T 23)]⟩, ⟨(some 25), (some (22, false)), .not (T 24)⟩, ⟨(some 26), none, .pick (T 22) (.const (.bool true)) (T 25)⟩]) (.cond (T 26) (.seq (.ops [⟨(some 27), none, .call (.func 24) []⟩, ⟨(some 4), none, .mov (T 27)⟩]) .ret) .skip)) (.seq (.ops [⟨(some 29), none, .loadN 5 (T 2)⟩, ⟨(some 30), none, .call (.func 26) [(T 29)]⟩, ⟨(some 31), none, .call (.func 54) [(T 30)]⟩, ⟨(some 28), none, .mov (T 31)⟩, ⟨(some 32), none, .extract 0 (T 28)⟩, ⟨(some 33), none, .extract 1 (T 28)⟩, ⟨(some 6), none, .mov (T 32)⟩, ⟨(some 7), none, .mov (T 33)⟩]) (.seq (.ops [⟨(some 35), none, .loadN 5 (T 5)⟩, ⟨(some 36), none, .call (.func 26) [(T 35)]⟩, ⟨(some 37), none, .call (.func 54) [(T 36)]⟩, ⟨(some 34), none, .mov (T 37)⟩, ⟨(some 38), none, .extract 0 (T 34)⟩, ⟨(some 39), none, .extract 1 (T 34)⟩, ⟨(some 8), none, .mov (T 38)⟩, ⟨(some 9), none, .mov (T 39)⟩]) (.seq (.seq (.ops [⟨(some 40), none, .mov (T 7)⟩, ⟨(some 41), none, .int2 .neq (T 40) (.const (.int .i64 (0)))⟩, ⟨(some 42), none, .mov (T 41)⟩, ⟨(some 43), (some (42, false)), .mov (T 9)⟩, ⟨(some 44), (some (42, false)), .int2 .neq (T 43) (.const (.int .i64 (0)))⟩, ⟨(some 45), none, .pick (T 42) (.const (.bool true)) (T 44)⟩, ⟨(some 46), none, .mov (T 45)⟩, ⟨(some 47), (some (46, false)), .mov (T 8)⟩, ⟨(some 48), (some (46, false)), .len (T 47)⟩, ⟨(some 49), (some (46, false)), .mov (T 6)⟩, ⟨(some 50), (some (46, false)), .len (T 49)⟩, ⟨(some 51), (some (46, false)), .int2 .lss (T 48) (T 50)⟩, ⟨(some 52), none, .pick (T 46) (.const (.bool true)) (T 51)⟩, ⟨(some 53), none, .mov (T 52)⟩, ⟨(some 54), (some (53, false)), .mov (T 8)⟩, ⟨(some 55), (some (53, false)), .len (T 54)⟩, ⟨(some 56), (some (53, false)), .mov (T 6)⟩, ⟨(some 57), (some (53, false)), .len (T 56)⟩, ⟨(some 58), (some (53, false)), .int2 .add (T 57) (.const (.int .i64 (1)))⟩, ⟨(some 59), (some (53, false)), .int2 .gtr (T 55) (T 58)⟩, ⟨(some 60), none, .pick (T 53) (.const (.bool true)) (T 59)⟩]) (.cond (T 60) (.seq (.ops [⟨(some 4), none, .mov (.const (.bool false))⟩]) .ret) .skip)) (.seq (.ops [⟨(some 61), none, .mov (T 8)⟩, ⟨(some 62), none, .len (T 61)⟩, ⟨(some 63), none, .int2 .gtr (T 62) (.const (.int .i64 (0)))⟩, ⟨(some 64), none, .mov (T 63)⟩, ⟨(some 65), (some (64, false)), .loadN 5 (T 5)⟩, ⟨(some 66), (some (64, false)), .loadN 5 (T 2)⟩, ⟨(some 67), (some (64, false)), .call (.func 73) [(T 65), (T 66)]⟩, ⟨(some 68), none, .pick (T 64) (.const (.bool true)) (T 67)⟩, ⟨(some 69), none, .mov (T 68)⟩, ⟨(some 70), (some (69, true)), .call (.func 24) []⟩, ⟨(some 71), none, .pick (T 69) (T 70) (.const (.bool false))⟩, ⟨(some 4), none, .mov (T 71)⟩]) .ret))))))))
theorem fok18 : FnOk Try.prog 18 72 s18 [.tmp 4] := ⟨Try.f18, _, Try.func18, rfl, Try.ntmps18, by kernel_rfl, by kernel_rfl⟩
set_option maxHeartbeats 4000000 in
theorem moreL_c (hn : 1500 ≤ n) (hr : h.next + 700000 < far) (hfl : h.floor ≤ h.next) {vv sv : Value} {S : MB} (hy : BeatR h vv sv S) (hm : S.ns ≤ 1048576) {v hh : Int} {dd : Bool} :
    ∃ v' h', call n (.func (.func 18) #[] #[]) [.agg ⟨beL S vv sv⟩, .agg ⟨[.int .i64 v, .int .i64 hh, .bool dd]⟩] h = some (v', h') ∧ v' = .bool true := by
  obtain ⟨n, rfl⟩ : ∃ p, n = p + 1 := ⟨n - 1, by omega⟩
  refine call_any0 fok18 rfl rfl (by simp) ?_
  simp only [s18, W_seq, W_ops]
  refine ops_box (cs := beL S vv sv) (by omega) rfl hy.one fun g1 hx1 => ?_
  have n1 := hx1.next
  have f1 := hx1.floor
  refine ops_box (cs := [.int .i64 v, .int .i64 hh, .bool dd]) (by omega) rfl rfl fun g2 hx2 => ?_
  have n2 := hx2.next
  have f2 := hx2.floor
  have r2 := hx1.row.mono hx2.sub
  have q2 := hx2.row
  simp only [rn0, rn1, rn2, rn3, rn4, rn5, rn6, rn7, rn8, if_true, if_false, Nat.le_refl, true_and, and_true, decide_true, decide_false, Bool.not_true, Bool.not_false, reduceIte, Nat.reduceEqDiff, Nat.reduceAdd, Nat.reduceMul, Nat.reduceSub, Nat.reduceLeDiff, Nat.reduceLT, r2.whole (n := 5) rfl]
  refine step_new (vs := beL S vv sv) (by omega) (by omega) rfl (by simp only [rn0, rn1, rn2, rn3, rn4, rn5, rn6, rn7, rn8, if_true, if_false, Nat.le_refl, true_and, and_true, decide_true, decide_false, Bool.not_true, Bool.not_false, reduceIte, Nat.reduceEqDiff, Nat.reduceAdd, Nat.reduceMul, Nat.reduceSub, Nat.reduceLeDiff, Nat.reduceLT]; rfl) hy.one rfl rfl fun g3 hx3 => ?_
  have n3 := hx3.next
  have f3 := hx3.floor
  have sub3 : Sub All h g3 := hx1.sub.trans (hx2.sub.trans hx3.sub)
  have r3 : Row g3 h.next (beL S vv sv) := r2.mono hx3.sub
  have t3 : Row g3 g1.next [.int .i64 v, .int .i64 hh, .bool dd] := q2.mono hx3.sub
  have x3 : g3.get g2.next = some (.row (beL S vv sv) true 0) := hx3.get
  have hy3 := hy.mono sub3
  obtain ⟨e0, ga, av1, gb, t1, t2, oa, ob, na1, na2, na3, happ⟩ := more_app (h := g3) hy3.s hm (by omega) (by omega)
  have suba : Sub All g3 ga := AHeap.subOf oa
  have subb : Sub All g3 gb := AHeap.subOf ob
  obtain ⟨b1v, gc, SX, gd, t5, t4, o8, hSX, old8, nc1, nc2, nc3, f8, blk8⟩ := happ v hh dd
  have subd : Sub All g3 gd := AHeap.subOf old8
  have selfS : eqV sv sv = true := Cells.self hy3.s
  simp only [rn0, rn1, rn2, rn3, rn4, rn5, rn6, rn7, rn8, if_true, if_false, Nat.le_refl, true_and, and_true, decide_true, decide_false, Bool.not_true, Bool.not_false, reduceIte, Nat.reduceEqDiff, Nat.reduceAdd, Nat.reduceMul, Nat.reduceSub, Nat.reduceLeDiff, Nat.reduceLT]
  refine W_draw All ?_
  simp only [rn0, rn1, rn2, rn3, rn4, rn5, rn6, rn7, rn8, if_true, if_false, Nat.le_refl, true_and, and_true, decide_true, decide_false, Bool.not_true, Bool.not_false, reduceIte, Nat.reduceEqDiff, Nat.reduceAdd, Nat.reduceMul, Nat.reduceSub, Nat.reduceLeDiff, Nat.reduceLT, r3.ld, beg, Nat.zero_add, selfS, self_3b, t3.whole (n := 3) rfl, t1, t2, t5, t4]
  refine ⟨⟨na1, suba⟩, ⟨na2, subb⟩, by omega, by omega, ?_⟩
  refine up_store (b := g2.next) (off := 4) (vs := [SX]) rfl (by rw [old8 _ (by omega)]; exact x3) (by omega) (by omega) (by cases SX <;> first | rfl | cases o8) (by simp [allB, o8]) rfl (by simp [beL]) (fun _ _ => trivial) fun g6 hs6 => ?_
  have es6 : splice (beL S vv sv) 4 [SX] = beL (moreS S v hh dd) vv SX := rfl
  rw [es6] at hs6
  have n6 := hs6.next
  have f6 := hs6.floor
  have old6 : ∀ i, i < g2.next → g6.get i = g3.get i := fun i hi => by rw [hs6.old i (by omega), old8 i (by omega)]
  have sub6 : Sub All g2 g6 := AHeap.subOf fun i hi => by rw [old6 i hi, hx3.old i hi]
  have hy6 := hy.mono (hx1.sub.trans (hx2.sub.trans sub6))
  have ry := r2.mono sub6
  have rx : Row g6 g2.next (beL (moreS S v hh dd) vv SX) := hs6.row
  have hX : BeatR g6 vv SX (moreS S v hh dd) := ⟨hy6.v, Cells.keep hSX hs6.keep fun x k c e => by have := blk8 x k c e; omega⟩
  have b6 : g6.next ≤ h.next + 20 := by omega
  have fg6 : g6.floor ≤ g6.next := by omega
  clear hx1 hx2 hx3 x3 t3 r3 t1 t2 t4 t5 happ oa ob suba subb subd hs6 old6
  have er := ready_c (n := n) (h := g6) (by omega) (by omega) hy6
  have erx := ready_c (n := n) (h := g6) (by omega) (by omega) hX
  have haw6 := awake_c (n := n) (h := g6) (by omega)
  by_cases c1 : Rdy S
  case neg =>
    rw [decide_eq_false c1] at er
    simp only [rn0, rn1, rn2, rn3, rn4, rn5, rn6, rn7, rn8, if_true, if_false, Nat.le_refl, true_and, and_true, decide_true, decide_false, Bool.not_true, Bool.not_false, reduceIte, Nat.reduceEqDiff, Nat.reduceAdd, Nat.reduceMul, Nat.reduceSub, Nat.reduceLeDiff, Nat.reduceLT, ry.whole (n := 5) rfl, er, g_un, haw6]
  rw [decide_eq_true c1] at er
  by_cases c2 : Rdy (moreS S v hh dd)
  case neg =>
    rw [decide_eq_false c2] at erx
    simp only [rn0, rn1, rn2, rn3, rn4, rn5, rn6, rn7, rn8, if_true, if_false, Nat.le_refl, true_and, and_true, decide_true, decide_false, Bool.not_true, Bool.not_false, reduceIte, Nat.reduceEqDiff, Nat.reduceAdd, Nat.reduceMul, Nat.reduceSub, Nat.reduceLeDiff, Nat.reduceLT, ry.whole (n := 5) rfl, er, rx.whole (n := 5) rfl, erx, haw6]
  rw [decide_eq_true c2] at erx
  obtain ⟨hth, hf⟩ := c1
  obtain ⟨hTX, hfx⟩ := c2
  have hG := good_of hf
  have hGX := good_of hfx
  obtain ⟨va, sa, g8, e8, hy8, old8', u8, m8, f8'⟩ := beatL_c (n := n) (h := g6) (by omega) (by omega) (by omega) hy6 hth
  obtain ⟨l9, g9, e9, o9, u9, m9, f9, hL9⟩ := leaveP_c (n := n) (h := g8) (by omega) (by omega) (by omega) hy8 hth
  have s79 : Sub All g6 g9 := (AHeap.subOf old8').trans (AHeap.subOf o9)
  obtain ⟨vb, sb, gx, ex, hyx, oldx, ux, mx, fx⟩ := beatL_c (n := n) (h := g9) (by omega) (by omega) (by omega) (hX.mono s79) hTX
  obtain ⟨lb, gz, ez, oz, uz, mz, fz, hLz⟩ := leaveP_c (n := n) (h := gx) (by omega) (by omega) (by omega) hyx hTX
  have s9z : Sub All g9 gz := (AHeap.subOf oldx).trans (AHeap.subOf oz)
  have s7z := s79.trans s9z
  rcases hL9 with ⟨h0, _⟩ | ⟨_, l1, rfl, il1, _⟩
  · exact absurd hf h0
  rcases hLz with ⟨h0, _⟩ | ⟨_, l2, rfl, il2, _⟩
  · exact absurd hfx h0
  have il1z := Cells.mono il1 s9z
  obtain ⟨hp1, hp2⟩ := plus_leave hG hGX
  have hln := leaveS_len hG
  obtain ⟨_, _, _, z5, _⟩ := hG.sizes
  have hp1' : ¬ ((leaveS (moreS S v hh dd)).length : Int) < ((leaveS S).length : Int) := by omega
  have hwp : wrapF .i64 (((leaveS S).length : Int) + 1) = ((leaveS S).length : Int) + 1 := wrap_in (by omega) (by omega)
  have hp2' : ¬ ((leaveS S).length : Int) + 1 < ((leaveS (moreS S v hh dd)).length : Int) := by omega
  have hawz := awake_c (n := n) (h := gz) (by omega)
  simp only [rn0, rn1, rn2, rn3, rn4, rn5, rn6, rn7, rn8, if_true, if_false, Nat.le_refl, true_and, and_true, decide_true, decide_false, Bool.not_true, Bool.not_false, reduceIte, Nat.reduceEqDiff, Nat.reduceAdd, Nat.reduceMul, Nat.reduceSub, Nat.reduceLeDiff, Nat.reduceLT, ry.whole (n := 5) rfl, er, rx.whole (n := 5) rfl, erx, e8, e9, ex0, ex1, (rx.mono s79).whole (n := 5) rfl, ex, ez, g_un, Cells.len il2, Cells.len il1z, gt_iff_lt, hp1', hwp, hp2']
  by_cases hl0 : 0 < (leaveS (moreS S v hh dd)).length
  · have hl0' : (0 : Int) < ((leaveS (moreS S v hh dd)).length : Int) := by omega
    simp only [rn0, rn1, rn2, rn3, rn4, rn5, rn6, rn7, rn8, if_true, if_false, Nat.le_refl, true_and, and_true, decide_true, decide_false, Bool.not_true, Bool.not_false, reduceIte, Nat.reduceEqDiff, Nat.reduceAdd, Nat.reduceMul, Nat.reduceSub, Nat.reduceLeDiff, Nat.reduceLT, hl0', g_un, hawz]
  · have hl0' : ¬ (0 : Int) < ((leaveS (moreS S v hh dd)).length : Int) := by omega
    have ec := closer_c (n := n) (h := gz) (by omega) (by omega) (hX.mono s7z) (hy6.mono s7z) hTX hth (plus_near hG hGX (leave_nil hGX (by omega)))
    simp only [rn0, rn1, rn2, rn3, rn4, rn5, rn6, rn7, rn8, if_true, if_false, Nat.le_refl, true_and, and_true, decide_true, decide_false, Bool.not_true, Bool.not_false, reduceIte, Nat.reduceEqDiff, Nat.reduceAdd, Nat.reduceMul, Nat.reduceSub, Nat.reduceLeDiff, Nat.reduceLT, hl0', (ry.mono s7z).whole (n := 5) rfl, (rx.mono s7z).whole (n := 5) rfl, ec, hawz]
end Go.Vm.Bt
