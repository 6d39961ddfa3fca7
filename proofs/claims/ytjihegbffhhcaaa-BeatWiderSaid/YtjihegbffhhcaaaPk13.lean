/- Texts of the proofs of this seat, put together: BtWrong, BtFirstP, BtSome, BtMin, BtLeaveP, BtLeaveQ, BtLongL, BtWiderP, BtWiderL. -/
import Derived.Test.YtjihegbffhhcaaaPk12

namespace Go.Vm.Bt
open Go.Proofs Go.Vm.Vat Go.Vm.L2
set_option linter.unusedSimpArgs false
set_option linter.unusedVariables false
set_option maxRecDepth 10000
variable {n : Nat} {h : AHeap}
def wrS (S : MB) (t : Nat → Int) (i : Nat) : Prop := ¬ RightS S t i
noncomputable def wrongL (S : MB) (t : Nat → Int) : List Int := pickL (wrS S t) S.ns
def allE (S : MB) : List (Nat → Int) := enumB (uLo S) (uHi S) (numU S) 0 fun _ => 0
noncomputable def allW (S : MB) : List (List Int) := (allE S).map (wrongL S)
noncomputable def wrongStep (S : MB) (s : List (List Int)) (c : Nat → Int) : List (List Int) × Bool := (s ++ [wrongL S c], true)
theorem runL_wrong {S : MB} : ∀ (l : List (Nat → Int)) (s : List (List Int)), runL (wrongStep S) s l = (s ++ l.map (wrongL S), true)
  | [], s => by simp [runL]
  | x :: l, s => by
    have e : runL (wrongStep S) s (x :: l) = runL (wrongStep S) (s ++ [wrongL S x]) l := rfl
    rw [e, runL_wrong l]; simp
theorem wrong_len {S : MB} {t : Nat → Int} : (wrongL S t).length ≤ S.ns := pick_len _
def OwnB (h2 : AHeap) (p pw : Nat) (g : AHeap) (q : Nat) : Prop := (h2.next ≤ q ∨ q = pw) ∧ q ≠ p ∧ q ≠ h2.next + 1 ∧ ∀ v, g.get p = some (.row [v] true 0) → NeB v q
section
variable (u4 : Try.prog.underlying 4 = some .bool)
include u4
theorem isRight2_c (hn : 5 ≤ n) (hr : h.next + 5 < far) {S : MB} {u : Nat → Int} (hG : Good S) {k : Nat} (hk : k < S.ns) :
    ∃ r, (r = true ↔ RightS S u k) ∧ call n (.func (.func 112) #[] #[]) [.agg ⟨dn (doneS S u)⟩, .agg ⟨smL S k⟩] h = some (.bool r, h) := by
  obtain ⟨hvv, hsv, _⟩ := hG.samp hk
  refine ⟨decide (whenS u (S.sv k).toNat ≤ S.sh k) == S.sd k, beq_iff_eq, ?_⟩
  obtain ⟨n, rfl⟩ : ∃ p, n = p + 1 := ⟨n - 1, by omega⟩
  refine call_plain0 fok112 rfl rfl (by simp) rfl ?_
  have hr : h.shutAll.next + 5 < far := hr
  generalize h.shutAll = h at hr
  obtain ⟨_, _, z3, _⟩ := hG.sizes
  simp only [s112, W_seq, W_ops]
  refine ops_box (cs := dn (doneS S u)) (by omega) rfl dn_one fun g1 hx => ?_
  refine ops_box (cs := smL S k) (by rw [hx.next]; omega) rfl sm_one fun g2 hx2 => ?_
  have r1 := hx.row.mono hx2.sub
  have hi := idxArr_p (b := h.next) (o := 0) (show (S.sv k).toNat < 3 by omega)
  rw [hsv] at hi
  have hd : (dn (doneS S u))[(S.sv k).toNat]? = some (.int .i64 (whenS u (S.sv k).toNat)) := by rw [dn_get (by omega)]; simp [doneS, hvv]
  simp only [rn0, rn1, rn2, rn3, rn4, rn5, rn6, rn7, rn8, if_true, if_false, Nat.le_refl, true_and, and_true, decide_true, decide_false, Bool.not_true, Bool.not_false, reduceIte, Nat.reduceEqDiff, Nat.reduceAdd, Nat.reduceMul, Nat.reduceSub, Nat.reduceLeDiff, Nat.reduceLT]
  refine W_draw All ?_
  simp only [rn0, rn1, rn2, rn3, rn4, rn5, rn6, rn7, rn8, if_true, if_false, Nat.le_refl, true_and, and_true, decide_true, decide_false, Bool.not_true, Bool.not_false, reduceIte, Nat.reduceEqDiff, Nat.reduceAdd, Nat.reduceMul, Nat.reduceSub, Nat.reduceLeDiff, Nat.reduceLT, hx2.row.ld, smg, Nat.zero_add, hi, r1.ld, hd, eqV_int, eqV_bool, x_binA, binA_eqlB, p_eqlB u4, valN_tmp, Nat.reduceLT, rBB]
end
noncomputable def s100 : SCode := (.seq (.ops [⟨(some 1), none, .box (T 0)⟩, ⟨(some 2), none, .mov (.const (.slice none 0 0))⟩]) (.seq (.ops [⟨(some 3), none, .alloc [(.slice none 0 0)]⟩]) (.seq (.seq (.ops [⟨(some 9), none, .loadN 6 (T 1)⟩, ⟨(some 10), none, .call (.func 120) [(T 9)]⟩]) (.block 0 (.range (T 10) #[11] (rangeOf Try.f100 0).1 (rangeOf Try.f100 0).2))) (.seq (.ops [⟨(some 36), none, .load1 (T 3)⟩, ⟨(some 2), none, .mov (T 36)⟩]) .ret))))
theorem fok100 : FnOk Try.prog 100 37 s100 [.tmp 2] := ⟨Try.f100, _, Try.func100, rfl, Try.ntmps100, by kernel_rfl, by kernel_rfl⟩
def ra100_0 : SCode := (.ops [⟨(some 4), none, .alloc [(.int .i64 (0)), (.slice none 0 0)]⟩, ⟨none, none, .store 2 (T 4) (T 11)⟩])
theorem raok100_0 : compCode Try.prog 37 (rangeOf Try.f100 0).1 = some ra100_0 := by kernel_rfl
def rb100_0 : SCode := (.block 1 (.seq (.ops [⟨(some 5), none, .mov (.const (.slice none 0 0))⟩]) (.seq (.ops [⟨(some 12), none, .loadN 2 (T 4)⟩, ⟨(some 13), none, .call (.func 80) [(T 12)]⟩, ⟨(some 6), none, .alloc [(.int .i64 (0)), (.int .i64 (0)), (.int .i64 (0))]⟩, ⟨none, none, .store 3 (T 6) (T 13)⟩]) (.seq (.seq (.ops [⟨(some 14), none, .fieldAddr 0 (T 1)⟩, ⟨(some 15), none, .fieldAddr 4 (T 14)⟩, ⟨(some 16), none, .load1 (T 15)⟩, ⟨(some 17), none, .len (T 16)⟩, ⟨(some 18), none, .mov (.const (.int .i64 (0)))⟩]) (.block 2 (.loop (.seq (.ops [⟨(some 19), none, .int2 .lss (T 18) (T 17)⟩]) (.seq (.cond (T 19) .skip (.exit 2)) (.seq (.block 3 (.seq (.ops [⟨(some 20), none, .mov (T 18)⟩, ⟨(some 21), none, .idxSl 3 (T 16) (T 18)⟩, ⟨(some 22), none, .loadN 3 (T 21)⟩, ⟨(some 8), none, .alloc [(.int .i64 (0)), (.int .i64 (0)), (.bool false)]⟩, ⟨(some 7), none, .mov (T 20)⟩, ⟨none, none, .store 3 (T 8) (T 22)⟩]) (.seq (.ops [⟨(some 23), none, .loadN 3 (T 6)⟩, ⟨(some 24), none, .loadN 3 (T 8)⟩, ⟨(some 25), none, .call (.func 112) [(T 23), (T 24)]⟩, ⟨(some 26), none, .not (T 25)⟩]) (.cond (T 26) (.ops [⟨(some 27), none, .mov (T 5)⟩, ⟨(some 28), none, .mov (T 7)⟩, ⟨(some 29), none, .bslice 1 1 [(.int .i64 (0))] [0] [(T 28)]⟩, ⟨(some 30), none, .append 1 8 (T 27) (T 29)⟩, ⟨(some 5), none, .mov (T 30)⟩]) .skip)))) (.ops [⟨(some 31), none, .int2 .add (T 18) (.const (.int .i64 (1)))⟩, ⟨(some 18), none, .mov (T 31)⟩]))))))) (.ops [⟨(some 32), none, .load1 (T 3)⟩, ⟨(some 33), none, .mov (T 5)⟩, ⟨(some 34), none, .bslice 1 1 [(.slice none 0 0)] [0] [(T 33)]⟩, ⟨(some 35), none, .append 1 24 (T 32) (T 34)⟩, ⟨none, none, .store 1 (T 3) (T 35)⟩])))))
theorem rbok100_0 : compCode Try.prog 37 (rangeOf Try.f100 0).2 = some rb100_0 := by kernel_rfl
set_option maxHeartbeats 4000000 in
theorem wrongAll_c (hn : 500 ≤ n) (hr : h.next + 60000 < far) (hfl : h.floor ≤ h.next) {vv sv : Value} {S : MB} (hy : BeatR h vv sv S) (hG : Good S) :
    ∃ v h', call n (.func (.func 100) #[] #[]) [.agg ⟨wkL S vv sv nilS⟩] h = some (v, h') ∧ AllR h' v (allW S) ∧ oneCell v = true ∧ (∀ i, i < h.next → h'.get i = h.get i) ∧ h.next ≤ h'.next ∧ h'.next ≤ h.next + 50000 ∧ h'.floor = h.floor := by
  obtain ⟨n, rfl⟩ : ∃ p, n = p + 1 := ⟨n - 1, by omega⟩
  refine call_any0 fok100 rfl rfl (by simp) ?_
  have hlenE := enum_len hG
  have u4 : Try.prog.underlying 4 = some .bool := Try.underlying4
  obtain ⟨_, _, z3, z5, _⟩ := hG.sizes
  simp only [s100, W_seq, W_ops]
  refine ops_box (cs := wkL S vv sv nilS) (by omega) rfl (wk_one hy rfl) fun g1 hx1 => ?_
  have n1 := hx1.next
  have f1 := hx1.floor
  have e1 : g1.next = h.next + 1 := n1
  simp only [rn0, rn1, rn2, rn3, rn4, rn5, rn6, rn7, rn8, if_true, if_false, Nat.le_refl, true_and, and_true, decide_true, decide_false, Bool.not_true, Bool.not_false, reduceIte, Nat.reduceEqDiff, Nat.reduceAdd, Nat.reduceMul, Nat.reduceSub, Nat.reduceLeDiff, Nat.reduceLT]
  refine step_row (cs := [nilS]) (by omega) rfl rfl fun g2 hx2 => ?_
  have n2 := hx2.next
  have f2 := hx2.floor
  have e2 : g2.next = h.next + 2 := by omega
  have w2 := (hx1.row.mono hx2.sub).whole (n := 6) rfl
  have old2 : ∀ i, i < h.next → g2.get i = h.get i := fun i hi => by rw [hx2.old i (by omega), hx1.old i hi]
  obtain ⟨g4, e4, hx4⟩ := courses_c (n := n) (h := g2) (cs := wkL S vv sv nilS) (by omega) (by omega) (wk_one hy rfl) rfl
  have n4 := hx4.next
  have f4 := hx4.floor
  rw [e1]
  simp only [rn0, rn1, rn2, rn3, rn4, rn5, rn6, rn7, rn8, if_true, if_false, Nat.le_refl, true_and, and_true, decide_true, decide_false, Bool.not_true, Bool.not_false, reduceIte, Nat.reduceEqDiff, Nat.reduceAdd, Nat.reduceMul, Nat.reduceSub, Nat.reduceLeDiff, Nat.reduceLT, w2, e4]
  refine W_range' rfl (by omega) (by simp only [rn0, rn1, rn2, rn3, rn4, rn5, rn6, rn7, rn8, if_true, if_false, Nat.le_refl, true_and, and_true, decide_true, decide_false, Bool.not_true, Bool.not_false, reduceIte, Nat.reduceEqDiff, Nat.reduceAdd, Nat.reduceMul, Nat.reduceSub, Nat.reduceLeDiff, Nat.reduceLT]; rfl) fun f0 hf0 ts hv h2 hl => ?_
  have c1 : f0 1 = .pointer (some ⟨h.next, 0, none⟩) := by rw [hf0]; simp only [rn0, rn1, rn2, rn3, rn4, rn5, rn6, rn7, rn8, if_true, if_false, Nat.le_refl, true_and, and_true, decide_true, decide_false, Bool.not_true, Bool.not_false, reduceIte, Nat.reduceEqDiff, Nat.reduceAdd, Nat.reduceMul, Nat.reduceSub, Nat.reduceLeDiff, Nat.reduceLT]
  have c3 : f0 3 = .pointer (some ⟨h.next + 1, 0, none⟩) := by rw [hf0]; simp only [rn0, rn1, rn2, rn3, rn4, rn5, rn6, rn7, rn8, if_true, if_false, Nat.le_refl, true_and, and_true, decide_true, decide_false, Bool.not_true, Bool.not_false, reduceIte, Nat.reduceEqDiff, Nat.reduceAdd, Nat.reduceMul, Nat.reduceSub, Nat.reduceLeDiff, Nat.reduceLT]
  clear hf0
  have nl := hl.next
  have fl := hl.floor
  have en : g4.next = h.next + 3 := by omega
  have hbase : ∀ i, i < h.next → h2.get i = h.get i := fun i hi => by rw [hl.old i (by omega), hx4.old i (by omega), old2 i hi]
  have hp2 : h2.get (h.next + 1) = some (.row [nilS] true 0) := by
    rw [hl.old _ (by omega), hx4.old _ (by omega)]; have := hx2.get; rw [e1] at this; exact this
  have hw2 : h2.get h.next = some (.row (wkL S vv sv nilS) true 0) := by
    rw [hl.old _ (by omega), hx4.old _ (by omega), hx2.old _ (by omega)]; exact hx1.get
  have hpw : Row h2 (h.next + 2) (wkL S vv sv nilS) := by
    have := hx4.row.mono hl.sub
    rw [e2] at this
    exact this
  have hloop := hl.loop
  have hmark := hl.mark
  rw [en] at hloop hmark
  rw [en]
  rw [en] at hl
  generalize hr0 : loopO _ ts _ _ _ _ = r at hloop ⊢
  have r1 : r.state = .ready := by rw [← hr0]; rfl
  have r2 : View 37 r.tmps f0 := by rw [← hr0]; exact hv
  have r3 : r.params = #[11] := by rw [← hr0]; rfl
  have r4 : compCode Try.prog 37 r.assign = some ra100_0 := by rw [← hr0]; exact raok100_0
  have r5 : compCode Try.prog 37 r.body = some rb100_0 := by rw [← hr0]; exact rbok100_0
  have r6 : leftBy r .norm = r := by rw [← hr0]; rfl
  clear hr0 hl hv
  have en2 : h2.next = h.next + 5 := by omega
  have hit := iter_c (Own := OwnB h2 (h.next + 1) (h.next + 2)) (wrongStep S) (JW h2 (h.next + 1)) (g := h2) (pw := h.next + 2) (K := 210) (N0 := 300) (n := n) (tv := nilS) (yv := .func (.yield (h.next + 4)) #[] #[]) [] hG hpw rfl (by simp [eqV, eqCell]) (by omega) (by omega) (by omega)
    (fun g' q hq => hq.2.2.1)
    (fun s g' hj => hy.mono (AHeap.subOf fun i hi => by rw [hj.old i (by omega) (by omega), hbase i hi]))
    (fun s g1 g' cs hj hs => by
      obtain ⟨v, R, t1, t2⟩ := hj.tv
      have hnx := hs.next
      exact ⟨fun i hi hne => by rw [hs.old i (by omega)]; exact hj.old i hi hne, ⟨v, R, by rw [hs.old _ (by omega)]; exact t1, t2.old (fun i hi _ => hs.old i (by omega)) (by omega)⟩, by have := hj.up; omega, by have := hj.len; omega⟩)
    (fun s g1 g' hj hx => by
      obtain ⟨v, R, t1, t2⟩ := hj.tv
      have := hj.up
      have hnx := hx.up
      exact ⟨fun i hi hne => by rw [hx.old i (by omega)]; exact hj.old i hi hne, ⟨v, R, by rw [hx.old _ (by omega)]; exact t1, t2.old (fun i hi h => hx.old i h) (by omega)⟩, by omega, by have := hj.len; omega⟩)
    (fun s g1 g' cs q hj hs ho => ⟨ho.1, ho.2.1, ho.2.2.1, fun v e => ho.2.2.2 v (by rw [← hs.old _ (by omega)]; exact e)⟩)
    (fun s g1 g' q hj hx ho => ⟨ho.1, ho.2.1, ho.2.2.1, fun v e => ho.2.2.2 v (by rw [← hx.old _ (by have := hj.up; omega)]; exact e)⟩)
    (fun g' ho hfg hup => ⟨⟨fun i hi _ => ho i hi, ⟨nilS, _, by rw [ho _ (by omega)]; exact hp2, .nil⟩, by omega, Nat.zero_le _⟩, ⟨.inr rfl, by omega, by omega, fun v e => by
      rw [ho _ (by omega), hp2] at e
      simp only [Option.some.injEq, AObj.row.injEq, and_true, List.cons.injEq] at e
      subst e
      intro b m c e'
      cases e'⟩, fun q hq _ hne => ⟨.inl hq, by omega, hne, fun v e => by
      rw [ho _ (by omega), hp2] at e
      simp only [Option.some.injEq, AObj.row.injEq, and_true, List.cons.injEq] at e
      subst e
      intro b m c e'
      cases e'⟩⟩)
    (fun m g1 s c cw pn py pc hm it hb hok hj hcw how hfg hr1 => by
      obtain ⟨m, rfl⟩ : ∃ p, m = p + 1 := ⟨m - 1, by omega⟩
      rw [call_yield]
      obtain ⟨v, R, hp, gr⟩ := hj.tv
      have hup := hj.up
      have hlen := hj.len
      have hloop1 : g1.get (h.next + 4) = some (.loop r) := by rw [hj.old _ (by omega) (by omega)]; exact hloop
      have hpb := AHeap.lt_of_get hb
      suffices key : ∃ e g', roundA Try.prog (call m) m (h.next + 4) [.agg ⟨coL (c 0) cw⟩] g1 = some (.bool (goesOn e), g') ∧ (e = .norm ∧ JW h2 (h.next + 1) (wrongStep S s c).1 g' ∧ (∀ q, q ≠ h.next + 1 → q ≠ h.next + 4 → q < g1.next → NeB v q → g'.get q = g1.get q) ∧ (∃ v', g'.get (h.next + 1) = some (.row [v'] true 0) ∧ ∀ q, q < g1.next → NeB v q → NeB v' q) ∧ g'.floor = h2.floor ∧ g1.next ≤ g'.next ∧ g'.next ≤ g1.next + 200) by
        obtain ⟨e, g', k1, rfl, k2, k3, ⟨v', k4, k5⟩, k6, k7, k8⟩ := key
        refine ⟨g', k1, k2, fun q cs hq ho => ?_, by rw [k3 _ (by omega) (by omega) hpb (neB_of gr.c (by left; omega))]; exact hb, k6, k7, by omega⟩
        obtain ⟨o1, o2, o3, o4⟩ := ho
        have hlt : q < g1.next := by obtain ⟨w, gr, e⟩ := hq; exact AHeap.lt_of_get e
        have hne := o4 v hp
        refine ⟨by obtain ⟨w, gr, e⟩ := hq; exact ⟨w, gr, by rw [k3 q o2 (by omega) hlt hne]; exact e⟩, o1, o2, o3, fun v2 e => ?_⟩
        rw [k4] at e
        simp only [Option.some.injEq, AObj.row.injEq, and_true, List.cons.injEq] at e
        subst e
        exact k5 q hlt hne
      refine round_run (f := f0) hloop1 r1 r2 (by rw [r3]; rfl) (by omega) r4 r5 ?_
      have hset : setFr f0 r.params.toList [.agg ⟨coL (c 0) cw⟩] = upd f0 11 (.agg ⟨coL (c 0) cw⟩) := by rw [r3]; rfl
      rw [hset]
      simp only [rn0, rn1, rn2, rn3, rn4, rn5, rn6, rn7, rn8, if_true, if_false, Nat.le_refl, true_and, and_true, decide_true, decide_false, Bool.not_true, Bool.not_false, reduceIte, Nat.reduceEqDiff, Nat.reduceAdd, Nat.reduceMul, Nat.reduceSub, Nat.reduceLeDiff, Nat.reduceLT, ra100_0]
      refine step_new (vs := coL (c 0) cw) (by omega) (by omega) rfl (by simp only [rn0, rn1, rn2, rn3, rn4, rn5, rn6, rn7, rn8, if_true, if_false, Nat.le_refl, true_and, and_true, decide_true, decide_false, Bool.not_true, Bool.not_false, reduceIte, Nat.reduceEqDiff, Nat.reduceAdd, Nat.reduceMul, Nat.reduceSub, Nat.reduceLeDiff, Nat.reduceLT]; rfl) (by simp [coL, allB, one_int, how]) rfl rfl fun g2 hx2 => ?_
      have n2 := hx2.next
      have f2 := hx2.floor
      simp only [rn0, rn1, rn2, rn3, rn4, rn5, rn6, rn7, rn8, if_true, if_false, Nat.le_refl, true_and, and_true, decide_true, decide_false, Bool.not_true, Bool.not_false, reduceIte, Nat.reduceEqDiff, Nat.reduceAdd, Nat.reduceMul, Nat.reduceSub, Nat.reduceLeDiff, Nat.reduceLT]
      refine ⟨by rw [hx2.old _ (by omega)]; exact hloop1, by omega, fun g3 hp3 => ?_⟩
      have n3 := hp3.next
      have f3 := hp3.floor
      have g3old : ∀ i, i < g1.next → i ≠ h.next + 4 → g3.get i = g1.get i := fun i hi hne => by rw [hp3.old i hne, hx2.old i hi]
      have g3b : ∀ i, i < h.next → g3.get i = h.get i := fun i hi => by rw [g3old i (by omega) (by omega), hj.old i (by omega) (by omega), hbase i hi]
      have hy3 := hy.mono (AHeap.subOf g3b)
      have hp3' : g3.get (h.next + 1) = some (.row [v] true 0) := by rw [g3old _ (by omega) (by omega)]; exact hp
      have rw3 : Row g3 h.next (wkL S vv sv nilS) := ⟨true, 0, by rw [g3old _ (by omega) (by omega), hj.old _ (by omega) (by omega)]; exact hw2⟩
      have rc3 : Row g3 g1.next (coL (c 0) cw) := by
        obtain ⟨w, gr, e⟩ := hx2.row
        exact ⟨w, gr, by rw [hp3.old _ (by omega)]; exact e⟩
      have hcu : InU S c := fun i hi => hok.1 i hi
      have l3 : g3.get (h.next + 4) = some (.loop { r with state := .busy }) := hp3.get
      have hcw3 : CouR g3 cw S c := by
        obtain ⟨a', cap', e', sp, hz | ⟨b, o, cs, w, gr', e2', e3', e4'⟩⟩ := hcw
        · exact ⟨a', cap', e', sp, .inl hz⟩
        · refine ⟨a', cap', e', sp, .inr ⟨b, o, cs, w, gr', e2', ?_, e4'⟩⟩
          rw [g3old b (AHeap.lt_of_get e3') (by rintro rfl; rw [hloop1] at e3'; cases e3')]
          exact e3'
      have edn := done_c (n := m) (h := g3) (by omega) (by omega) hcw3 hG hcu
      simp only [rn0, rn1, rn2, rn3, rn4, rn5, rn6, rn7, rn8, if_true, if_false, Nat.le_refl, true_and, and_true, decide_true, decide_false, Bool.not_true, Bool.not_false, reduceIte, Nat.reduceEqDiff, Nat.reduceAdd, Nat.reduceMul, Nat.reduceSub, Nat.reduceLeDiff, Nat.reduceLT, rb100_0, c1, c3, rc3.whole (n := 2) rfl, edn]
      refine step_new (vs := dn (doneS S c)) (by omega) (by omega) rfl (by simp only [rn0, rn1, rn2, rn3, rn4, rn5, rn6, rn7, rn8, if_true, if_false, Nat.le_refl, true_and, and_true, decide_true, decide_false, Bool.not_true, Bool.not_false, reduceIte, Nat.reduceEqDiff, Nat.reduceAdd, Nat.reduceMul, Nat.reduceSub, Nat.reduceLeDiff, Nat.reduceLT]; rfl) dn_one dn_len rfl fun g4 hx4 => ?_
      have n4 := hx4.next
      have f4 := hx4.floor
      have rw4 := rw3.mono hx4.sub
      have hy4 := hy3.mono hx4.sub
      have rd4 := hx4.row
      simp only [rn0, rn1, rn2, rn3, rn4, rn5, rn6, rn7, rn8, if_true, if_false, Nat.le_refl, true_and, and_true, decide_true, decide_false, Bool.not_true, Bool.not_false, reduceIte, Nat.reduceEqDiff, Nat.reduceAdd, Nat.reduceMul, Nat.reduceSub, Nat.reduceLeDiff, Nat.reduceLT, c1, c3, rw4.ld, wkg, Nat.zero_add, Nat.add_zero, Cells.len hy4.s]
      refine W_loop S.ns (fun k f g ms => (∃ x, (∀ i, i < g4.next → g.get i = g4.get i) ∧ g.floor = g4.floor ∧ g4.next ≤ g.next ∧ g.next ≤ g4.next + 3 * k ∧ GrowC g4.next g x 1 (pickL (wrS S c) k).length (fun i _ => .int .i64 (atL (pickL (wrS S c) k) i)) ∧ f 5 = x) ∧ ms = [] ∧ f 1 = .pointer (some ⟨h.next, 0, none⟩) ∧ f 3 = .pointer (some ⟨h.next + 1, 0, none⟩) ∧ f 4 = .pointer (some ⟨g1.next, 0, none⟩) ∧ f 6 = .pointer (some ⟨g3.next, 0, none⟩) ∧ f 16 = sv ∧ f 17 = .int .i64 (S.ns : Int) ∧ f 18 = .int .i64 (k : Int)) (by simp; omega) ?_ ?_ ?_
      · simp only [rn0, rn1, rn2, rn3, rn4, rn5, rn6, rn7, rn8, if_true, if_false, Nat.le_refl, true_and, and_true, decide_true, decide_false, Bool.not_true, Bool.not_false, reduceIte, Nat.reduceEqDiff, Nat.reduceAdd, Nat.reduceMul, Nat.reduceSub, Nat.reduceLeDiff, Nat.reduceLT, c1, c3, Int.natCast_zero]
        first | exact ⟨⟨nilS, fun _ _ => trivial, by omega, .nil, rfl⟩, rfl⟩ | exact ⟨⟨nilS, fun _ _ => rfl, rfl, by omega, by omega, .nil, rfl⟩, rfl⟩ | exact ⟨nilS, fun _ _ => trivial, by omega, .nil, rfl⟩ | exact ⟨nilS, fun _ _ => trivial, .nil, rfl⟩
      · rintro k f g ms hk ⟨⟨x, ho, hfg', hup', hnx, gv, p5⟩, rfl, p1, p3, p4, p6, p16, p17, p18⟩
        have hk' : (k : Int) < (S.ns : Int) := by omega
        have hw : wrapF .i64 ((k : Int) + 1) = ((k + 1 : Nat) : Int) := by rw [wrap_in (by omega) (by omega)]; rfl
        have sg : Sub All g4 g := AHeap.subOf ho
        have hyg := hy4.mono sg
        have hlk := pick_len (p := wrS S c) k
        simp only [rn0, rn1, rn2, rn3, rn4, rn5, rn6, rn7, rn8, if_true, if_false, Nat.le_refl, true_and, and_true, decide_true, decide_false, Bool.not_true, Bool.not_false, reduceIte, Nat.reduceEqDiff, Nat.reduceAdd, Nat.reduceMul, Nat.reduceSub, Nat.reduceLeDiff, Nat.reduceLT, p1, p3, p4, p5, p6, p16, p17, p18, hk', Cells.idx hyg.s hk, samp_ld hyg hk]
        refine step_row (cs := [.int .i64 0, .int .i64 0, .bool false]) (by omega) rfl rfl fun ga hxa => ?_
        have na := hxa.next
        have fa := hxa.floor
        simp only [rn0, rn1, rn2, rn3, rn4, rn5, rn6, rn7, rn8, if_true, if_false, Nat.le_refl, true_and, and_true, decide_true, decide_false, Bool.not_true, Bool.not_false, reduceIte, Nat.reduceEqDiff, Nat.reduceAdd, Nat.reduceMul, Nat.reduceSub, Nat.reduceLeDiff, Nat.reduceLT, p1, p3, p4, p5, p6, p16, p17, p18]
        refine step_store (b := g.next) (off := 0) (vs := smL S k) rfl hxa.get (by omega) (by omega) rfl rfl rfl (by simp) fun gb hsb => ?_
        rw [splice_all (by rfl)] at hsb
        have nb := hsb.next
        have fb := hsb.floor
        have oldb : ∀ i, i < g.next → gb.get i = g.get i := fun i hi => by rw [hsb.old i (by omega), hxa.old i hi]
        have subb : Sub All g gb := AHeap.subOf oldb
        have rdb := (rd4.mono sg).mono subb
        obtain ⟨ri, hri, ei⟩ := isRight2_c u4 (n := m) (h := gb) (u := c) (k := k) (by omega) (by omega) hG hk
        have gvb : GrowC g4.next gb x 1 (pickL (wrS S c) k).length (fun i _ => .int .i64 (atL (pickL (wrS S c) k) i)) := GrowC.at' gv fun a k c e => oldb _ (gv.block e).2
        by_cases hR : RightS S c k
        · have hp0 : pickL (wrS S c) (k + 1) = pickL (wrS S c) k := pick_no fun q => q hR
          simp only [rn0, rn1, rn2, rn3, rn4, rn5, rn6, rn7, rn8, if_true, if_false, Nat.le_refl, true_and, and_true, decide_true, decide_false, Bool.not_true, Bool.not_false, reduceIte, Nat.reduceEqDiff, Nat.reduceAdd, Nat.reduceMul, Nat.reduceSub, Nat.reduceLeDiff, Nat.reduceLT, p1, p3, p4, p5, p6, p16, p17, p18, rdb.whole (n := 3) dn_len, hsb.row.whole (n := 3) rfl, ei, hri.2 hR, hw]
          rw [hp0]
          have hfin := And.intro (fun i (hi : i < g4.next) => (by rw [oldb i (by omega), ho i hi] : gb.get i = g4.get i)) (And.intro (by omega : gb.floor = g4.floor) (And.intro (by omega : g4.next ≤ gb.next) (And.intro (by omega : gb.next ≤ g4.next + 3 * (k + 1)) (And.intro gvb (rfl : x = x)))))
          first | exact ⟨x, hfin⟩ | exact ⟨⟨x, hfin⟩, rfl⟩
        · have hp1 : pickL (wrS S c) (k + 1) = pickL (wrS S c) k ++ [(k : Int)] := pick_yes hR
          have hrf : ri = false := Bool.eq_false_iff.2 fun q => hR (hri.1 q)
          simp only [rn0, rn1, rn2, rn3, rn4, rn5, rn6, rn7, rn8, if_true, if_false, Nat.le_refl, true_and, and_true, decide_true, decide_false, Bool.not_true, Bool.not_false, reduceIte, Nat.reduceEqDiff, Nat.reduceAdd, Nat.reduceMul, Nat.reduceSub, Nat.reduceLeDiff, Nat.reduceLT, p1, p3, p4, p5, p6, p16, p17, p18, rdb.whole (n := 3) dn_len, hsb.row.whole (n := 3) rfl, ei, hrf, sl_int]
          refine step_slice (by omega) rfl fun gc hxc => ?_
          have nc := hxc.next
          have fc := hxc.floor
          have gvc : GrowC g4.next gc x 1 (pickL (wrS S c) k).length (fun i _ => .int .i64 (atL (pickL (wrS S c) (k + 1)) i)) := (gvb.sub hxc.sub).congr fun i j hi hj => by rw [hp1, at_append hi]
          obtain ⟨x', gd, ed, evd, gvd, hkd⟩ := gvc.append (bytes := 8) (cap := 1) (by omega) (by omega) (by omega) hxc.get rfl rfl (fun j hj => by
            obtain rfl : j = 0 := by omega
            rw [hp1, at_last]; rfl) (by simp [maxBytes]; omega) (by simp [maxBytes]; omega)
          have nd := hkd.next
          have fd := hkd.floor
          have hlen1 : (pickL (wrS S c) (k + 1)).length = (pickL (wrS S c) k).length + 1 := by rw [hp1, List.length_append, List.length_singleton]
          simp only [rn0, rn1, rn2, rn3, rn4, rn5, rn6, rn7, rn8, if_true, if_false, Nat.le_refl, true_and, and_true, decide_true, decide_false, Bool.not_true, Bool.not_false, reduceIte, Nat.reduceEqDiff, Nat.reduceAdd, Nat.reduceMul, Nat.reduceSub, Nat.reduceLeDiff, Nat.reduceLT, p1, p3, p4, p5, p6, p16, p17, p18, ed, hw]
          rw [hlen1]
          have hfin := And.intro (fun i (hi : i < g4.next) => (by rw [hkd.old i (by omega) fun bb kk qq e => by have := (gvc.block e).1; omega, hxc.old i (by omega), oldb i (by omega), ho i hi] : gd.get i = g4.get i)) (And.intro (by omega : gd.floor = g4.floor) (And.intro (by omega : g4.next ≤ gd.next) (And.intro (by omega : gd.next ≤ g4.next + 3 * (k + 1)) (And.intro gvd (rfl : x' = x')))))
          first | exact ⟨x', hfin⟩ | exact ⟨⟨x', hfin⟩, rfl⟩
      · rintro f g ms ⟨⟨x, ho, hfg', hup', hnx, gv, p5⟩, rfl, p1, p3, p4, p6, p16, p17, p18⟩
        have hq3 : g.get (h.next + 1) = some (.row [v] true 0) := by rw [ho _ (by omega), hx4.old _ (by omega)]; exact hp3'
        have rq3 : Row g (h.next + 1) [v] := ⟨_, _, hq3⟩
        have lg : g.get (h.next + 4) = some (.loop { r with state := .busy }) := by rw [ho _ (by omega), hx4.old _ (by omega)]; exact l3
        have xone := gv.one
        have wrg : WrG (h2.next + 2) g v s R := gr.old (fun i h1 h2 => by rw [ho i (by omega), hx4.old i (by omega), g3old i h2 (by omega)]) (by omega)
        simp only [rn0, rn1, rn2, rn3, rn4, rn5, rn6, rn7, rn8, if_true, if_false, Nat.le_refl, true_and, and_true, decide_true, decide_false, Bool.not_true, Bool.not_false, reduceIte, Nat.reduceEqDiff, Nat.reduceAdd, Nat.reduceMul, Nat.reduceSub, Nat.reduceLeDiff, Nat.reduceLT, p1, p3, p4, p5, p6, p16, p17, p18, Int.lt_irrefl, rq3.ld, Nat.zero_add, List.getElem?_cons_zero, sl_list xone]
        refine step_slice (by omega) (by simp [allB, xone]) fun ga hxa => ?_
        have na := hxa.next
        have fa := hxa.floor
        obtain ⟨v', gb, eb, wrb, ob, evb, nb, fb, oldb⟩ := wrg.push (w := wrongL S c) (by omega) (by omega) (by omega) hxa gv.cells xone (fun y k q e => by
          have := gv.block e
          exact ⟨by omega, by omega, neB_of gr.c (by right; omega)⟩) (by have := hj.len; omega)
        have neP : NeB v (h.next + 1) := neB_of gr.c (by left; omega)
        have neL : NeB v (h.next + 4) := neB_of gr.c (by left; omega)
        simp only [rn0, rn1, rn2, rn3, rn4, rn5, rn6, rn7, rn8, if_true, if_false, Nat.le_refl, true_and, and_true, decide_true, decide_false, Bool.not_true, Bool.not_false, reduceIte, Nat.reduceEqDiff, Nat.reduceAdd, Nat.reduceMul, Nat.reduceSub, Nat.reduceLeDiff, Nat.reduceLT, p1, p3, p4, p5, p6, p16, p17, p18, eb]
        refine step_store (b := h.next + 1) (off := 0) (vs := [v']) (by rfl) (by rw [oldb _ (by omega) neP]; exact hq3) (by omega) (by omega) (by rw [evb]; rfl) (by rw [evb]; rfl) rfl (by simp) fun g6 hs6 => ?_
        rw [splice1] at hs6
        have n6 := hs6.next
        have f6 := hs6.floor
        simp only [rn0, rn1, rn2, rn3, rn4, rn5, rn6, rn7, rn8, if_true, if_false, Nat.le_refl, true_and, and_true, decide_true, decide_false, Bool.not_true, Bool.not_false, reduceIte, Nat.reduceEqDiff, Nat.reduceAdd, Nat.reduceMul, Nat.reduceSub, Nat.reduceLeDiff, Nat.reduceLT]
        refine ⟨by rw [hs6.old _ (by omega), oldb _ (by omega) neL]; exact lg, by omega, by omega, fun g7 hp7 => ⟨?_, ?_, ?_, by rw [hp7.floor]; omega, by rw [hp7.next]; omega, by rw [hp7.next]; omega⟩⟩
        · have n7 := hp7.next
          have hst : (wrongStep S s c).1 = s ++ [wrongL S c] := rfl
          rw [hst]
          have old6 : ∀ i, i < g1.next → i ≠ h.next + 1 → i ≠ h.next + 4 → NeB v i → g6.get i = g1.get i := fun i hi a1 a2 hne => by rw [hs6.old i a1, oldb i (by omega) hne, ho i (by omega), hx4.old i (by omega), g3old i hi a2]
          refine ⟨fun i hi hne => ?_, ⟨v', _, ?_, wrb.old (fun i h1 h2 => by rw [hp7.old i (by omega), hs6.old i (by omega)]) (by omega)⟩, by omega, by rw [List.length_append, List.length_singleton]; omega⟩
          · by_cases e : i = h.next + 4
            · subst e; rw [hp7.get, r6, ← hj.old _ hi hne]; exact hloop1.symm
            · rw [hp7.old i e, old6 i (by omega) hne e (neB_of gr.c (by left; omega))]; exact hj.old i hi hne
          · rw [hp7.old _ (by omega)]; exact hs6.get
        · intro i hi1 hi4 hlt hne
          rw [hp7.old i hi4, hs6.old i hi1, oldb i (by omega) hne, ho i (by omega), hx4.old i (by omega), g3old i hlt hi4]
        · refine ⟨v', by rw [hp7.old _ (by omega)]; exact hs6.get, fun q hq _ b m c' e => ?_⟩
          rw [evb] at e
          cases e
          show q ≠ g.next + 1
          omega)
    (by omega)
  obtain ⟨v5, g5, e5, j5, fl5, u5, n5⟩ := hit
  rw [runL_wrong] at j5
  simp only [List.nil_append] at j5
  change JW h2 (h.next + 1) (allW S) g5 at j5
  obtain ⟨v, R, t1, t2⟩ := j5.tv
  have hup := j5.up
  refine ⟨v5, g5, .norm, by rw [e2]; exact e5, by omega, by omega, by rw [r6, j5.old _ (by omega) (by omega)]; exact hloop, fun g6 hp6 => ?_⟩
  have n6 := hp6.next
  have f6 := hp6.floor
  have t6 : Row g6 (h.next + 1) [v] := ⟨true, 0, by rw [hp6.old _ (by omega)]; exact t1⟩
  have m6 : g6.get (h.next + 3) = some .deferred := by rw [hp6.old _ (by omega), j5.old _ (by omega) (by omega)]; exact hmark
  simp only [rn0, rn1, rn2, rn3, rn4, rn5, rn6, rn7, rn8, if_true, if_false, Nat.le_refl, true_and, and_true, decide_true, decide_false, Bool.not_true, Bool.not_false, reduceIte, Nat.reduceEqDiff, Nat.reduceAdd, Nat.reduceMul, Nat.reduceSub, Nat.reduceLeDiff, Nat.reduceLT, c3, t6.ld, Nat.zero_add, List.getElem?_cons_zero]
  refine ret_mark (.inr rfl) m6 (by omega) (by omega) fun g8 hp8 => ?_
  have n8 := hp8.next
  have f8 := hp8.floor
  have t8 : WrG (h2.next + 2) g8 v (allW S) R := t2.old (fun i h1 h2 => by rw [hp8.old i (by omega), hp6.old i (by omega)]) (by omega)
  simp only [rn0, rn1, rn2, rn3, rn4, rn5, rn6, rn7, rn8, if_true, if_false, Nat.le_refl, true_and, and_true, decide_true, decide_false, Bool.not_true, Bool.not_false, reduceIte, Nat.reduceEqDiff, Nat.reduceAdd, Nat.reduceMul, Nat.reduceSub, Nat.reduceLeDiff, Nat.reduceLT]
  refine ⟨⟨R, t8.c.cells, fun k hk => (t8.r k hk).1⟩, t8.c.one, fun i hi => ?_, by omega, by omega, by omega⟩
  rw [hp8.old i (by omega), hp6.old i (by omega), j5.old i (by omega) (by omega), hbase i hi]
end Go.Vm.Bt

namespace Go.Vm.Bt
open Go.Proofs Go.Vm.Vat Go.Vm.L2
set_option linter.unusedSimpArgs false
set_option linter.unusedVariables false
set_option maxRecDepth 10000
variable {n : Nat} {h : AHeap}
theorem allE_mem {S : MB} {c : Nat → Int} : c ∈ allE S ↔ InU S c ∧ ∀ j, numU S ≤ j → c j = 0 := by
  unfold allE
  rw [enumB_ok, Nat.zero_add]
  constructor
  · rintro ⟨h1, h2⟩; exact ⟨fun i hi => h1 i (Nat.zero_le _) hi, fun j hj => h2 j (.inr hj)⟩
  · rintro ⟨h1, h2⟩; exact ⟨fun i _ hi => h1 i hi, fun j hj => h2 j (by omega)⟩
theorem allE_ne {S : MB} (hG : Good S) : allE S ≠ [] := fun e => by
  have : nthU S 0 ∈ allE S := allE_mem.2 ⟨nthU_in hG, fun j hj => nthU_out hj⟩
  rw [e] at this; cases this
end Go.Vm.Bt

namespace Go.Vm.Bt
open Go.Proofs Go.Vm.Vat Go.Vm.L2
set_option linter.unusedSimpArgs false
set_option linter.unusedVariables false
set_option maxRecDepth 10000
variable {n : Nat} {h : AHeap}
end Go.Vm.Bt

namespace Go.Vm.Bt
open Go.Proofs Go.Vm.Vat Go.Vm.L2
set_option linter.unusedSimpArgs false
set_option linter.unusedVariables false
set_option maxRecDepth 10000
variable {n : Nat} {h : AHeap}
def cmpZ (x y : Int) : Int := if x < y then -1 else if y < x then 1 else 0
def s130 : SCode := (.seq (.ops [⟨(some 2), none, .mov (.const (.bool false))⟩]) (.seq (.ops [⟨(some 3), none, .mov (T 0)⟩, ⟨(some 4), none, .mov (T 0)⟩, ⟨(some 5), none, .int2 .neq (T 3) (T 4)⟩, ⟨(some 2), none, .mov (T 5)⟩]) .ret))
theorem fok130 : FnOk Try.prog 130 6 s130 [.tmp 2] := ⟨Try.f130, _, Try.func130, rfl, Try.ntmps130, by kernel_rfl, by kernel_rfl⟩
theorem isNaN_c (hn : 1 ≤ n) (x : Int) : call n (.func (.func 130) #[] #[]) [.int .i64 x] h = some (.bool false, h) := by
  obtain ⟨n, rfl⟩ : ∃ p, n = p + 1 := ⟨n - 1, by omega⟩
  refine call_plain0 fok130 rfl rfl (by simp) rfl ?_
  simp only [rn0, rn1, rn2, rn3, rn4, rn5, rn6, rn7, rn8, if_true, if_false, Nat.le_refl, true_and, and_true, decide_true, decide_false, Bool.not_true, Bool.not_false, reduceIte, Nat.reduceEqDiff, Nat.reduceAdd, Nat.reduceMul, Nat.reduceSub, Nat.reduceLeDiff, Nat.reduceLT, s130]
def s104 : SCode := (.seq (.ops [⟨(some 4), none, .mov (.const (.int .i64 (0)))⟩]) (.seq (.ops [⟨(some 7), none, .mov (T 0)⟩, ⟨(some 8), none, .call (.func 130) [(T 7)]⟩, ⟨(some 5), none, .mov (T 8)⟩]) (.seq (.ops [⟨(some 9), none, .mov (T 1)⟩, ⟨(some 10), none, .call (.func 130) [(T 9)]⟩, ⟨(some 6), none, .mov (T 10)⟩]) (.seq (.seq (.ops [⟨(some 11), none, .mov (T 5)⟩]) (.cond (T 11) (.seq (.seq (.ops [⟨(some 12), none, .mov (T 6)⟩]) (.cond (T 12) (.seq (.ops [⟨(some 4), none, .mov (.const (.int .i64 (0)))⟩]) .ret) .skip)) (.seq (.ops [⟨(some 4), none, .mov (.const (.int .i64 (-1)))⟩]) .ret)) .skip)) (.seq (.seq (.ops [⟨(some 13), none, .mov (T 6)⟩]) (.cond (T 13) (.seq (.ops [⟨(some 4), none, .mov (.const (.int .i64 (1)))⟩]) .ret) .skip)) (.seq (.seq (.ops [⟨(some 14), none, .mov (T 0)⟩, ⟨(some 15), none, .mov (T 1)⟩, ⟨(some 16), none, .int2 .lss (T 14) (T 15)⟩]) (.cond (T 16) (.seq (.ops [⟨(some 4), none, .mov (.const (.int .i64 (-1)))⟩]) .ret) .skip)) (.seq (.seq (.ops [⟨(some 17), none, .mov (T 0)⟩, ⟨(some 18), none, .mov (T 1)⟩, ⟨(some 19), none, .int2 .gtr (T 17) (T 18)⟩]) (.cond (T 19) (.seq (.ops [⟨(some 4), none, .mov (.const (.int .i64 (1)))⟩]) .ret) .skip)) (.seq (.ops [⟨(some 4), none, .mov (.const (.int .i64 (0)))⟩]) .ret))))))))
theorem fok104 : FnOk Try.prog 104 20 s104 [.tmp 4] := ⟨Try.f104, _, Try.func104, rfl, Try.ntmps104, by kernel_rfl, by kernel_rfl⟩
theorem cmpI_c (hn : 2 ≤ n) (x y : Int) : call n (.func (.func 104) #[] #[]) [.int .i64 x, .int .i64 y] h = some (.int .i64 (cmpZ x y), h) := by
  obtain ⟨n, rfl⟩ : ∃ p, n = p + 1 := ⟨n - 1, by omega⟩
  refine call_plain0 fok104 rfl rfl (by simp) rfl ?_
  have e1 := isNaN_c (n := n) (h := h.shutAll) (by omega) x
  have e2 := isNaN_c (n := n) (h := h.shutAll) (by omega) y
  generalize h.shutAll = h at e1 e2
  unfold cmpZ
  by_cases c1 : x < y
  · rw [if_pos c1]
    simp only [rn0, rn1, rn2, rn3, rn4, rn5, rn6, rn7, rn8, if_true, if_false, Nat.le_refl, true_and, and_true, decide_true, decide_false, Bool.not_true, Bool.not_false, reduceIte, Nat.reduceEqDiff, Nat.reduceAdd, Nat.reduceMul, Nat.reduceSub, Nat.reduceLeDiff, Nat.reduceLT, s104, e1, e2, c1]
  · rw [if_neg c1]
    by_cases c2 : y < x
    · rw [if_pos c2]
      simp only [rn0, rn1, rn2, rn3, rn4, rn5, rn6, rn7, rn8, if_true, if_false, Nat.le_refl, true_and, and_true, decide_true, decide_false, Bool.not_true, Bool.not_false, reduceIte, Nat.reduceEqDiff, Nat.reduceAdd, Nat.reduceMul, Nat.reduceSub, Nat.reduceLeDiff, Nat.reduceLT, s104, e1, e2, c1, c2, gt_iff_lt]
    · rw [if_neg c2]
      simp only [rn0, rn1, rn2, rn3, rn4, rn5, rn6, rn7, rn8, if_true, if_false, Nat.le_refl, true_and, and_true, decide_true, decide_false, Bool.not_true, Bool.not_false, reduceIte, Nat.reduceEqDiff, Nat.reduceAdd, Nat.reduceMul, Nat.reduceSub, Nat.reduceLeDiff, Nat.reduceLT, s104, e1, e2, c1, c2, gt_iff_lt]
noncomputable def lexD (a : Nat → Int) (m : Nat) (b : Nat → Int) (k : Nat) : Int := if LexLt a b (min m k) then -1 else if LexLt b a (min m k) then 1 else if k < m then 1 else if m < k then -1 else 0
theorem lexD_at {a b : Nat → Int} {m k i : Nat} (h1 : i < m) (h2 : i < k) (he : ∀ j, j < i → a j = b j) (hl : a i < b i) : lexD a m b k = -1 := by unfold lexD; rw [if_pos ⟨i, by omega, he, hl⟩]
theorem lexD_at' {a b : Nat → Int} {m k i : Nat} (h1 : i < m) (h2 : i < k) (he : ∀ j, j < i → a j = b j) (hl : b i < a i) : lexD a m b k = 1 := by
  unfold lexD
  rw [if_neg, if_pos ⟨i, by omega, fun j hj => (he j hj).symm, hl⟩]
  rintro ⟨j, j1, j2, j3⟩
  by_cases e : j = i
  · subst e; omega
  · by_cases e2 : j < i
    · have := he j e2; omega
    · have := j2 i (by omega); omega
theorem lexD_eq {a b : Nat → Int} {m k : Nat} (he : ∀ j, j < min m k → a j = b j) : lexD a m b k = if k < m then 1 else if m < k then -1 else 0 := by
  unfold lexD
  rw [if_neg, if_neg]
  · rintro ⟨j, j1, j2, j3⟩; have := he j j1; omega
  · rintro ⟨j, j1, j2, j3⟩; have := he j j1; omega
def s105 : SCode := (.seq (.ops [⟨(some 4), none, .mov (.const (.int .i64 (0)))⟩]) (.seq (.seq (.ops [⟨(some 9), none, .mov (T 0)⟩, ⟨(some 10), none, .len (T 9)⟩, ⟨(some 11), none, .mov (.const (.int .i64 (0)))⟩]) (.block 0 (.loop (.seq (.ops [⟨(some 12), none, .int2 .lss (T 11) (T 10)⟩]) (.seq (.cond (T 12) .skip (.exit 0)) (.seq (.block 1 (.seq (.ops [⟨(some 13), none, .mov (T 11)⟩, ⟨(some 14), none, .idxSl 1 (T 9) (T 11)⟩, ⟨(some 15), none, .load1 (T 14)⟩, ⟨(some 5), none, .mov (T 13)⟩, ⟨(some 6), none, .mov (T 15)⟩]) (.seq (.seq (.ops [⟨(some 16), none, .mov (T 5)⟩, ⟨(some 17), none, .mov (T 1)⟩, ⟨(some 18), none, .len (T 17)⟩, ⟨(some 19), none, .int2 .geq (T 16) (T 18)⟩]) (.cond (T 19) (.seq (.ops [⟨(some 4), none, .mov (.const (.int .i64 (1)))⟩]) .ret) .skip)) (.seq (.ops [⟨(some 20), none, .mov (T 1)⟩, ⟨(some 21), none, .mov (T 5)⟩, ⟨(some 22), none, .idxSl 1 (T 20) (T 21)⟩, ⟨(some 23), none, .load1 (T 22)⟩, ⟨(some 7), none, .mov (T 23)⟩]) (.seq (.ops [⟨(some 24), none, .mov (T 6)⟩, ⟨(some 25), none, .mov (T 7)⟩, ⟨(some 26), none, .call (.func 104) [(T 24), (T 25)]⟩, ⟨(some 8), none, .mov (T 26)⟩]) (.seq (.ops [⟨(some 27), none, .mov (T 8)⟩, ⟨(some 28), none, .int2 .neq (T 27) (.const (.int .i64 (0)))⟩]) (.cond (T 28) (.seq (.ops [⟨(some 29), none, .mov (T 8)⟩, ⟨(some 4), none, .mov (T 29)⟩]) .ret) .skip))))))) (.ops [⟨(some 30), none, .int2 .add (T 11) (.const (.int .i64 (1)))⟩, ⟨(some 11), none, .mov (T 30)⟩]))))))) (.seq (.seq (.ops [⟨(some 31), none, .mov (T 0)⟩, ⟨(some 32), none, .len (T 31)⟩, ⟨(some 33), none, .mov (T 1)⟩, ⟨(some 34), none, .len (T 33)⟩, ⟨(some 35), none, .int2 .lss (T 32) (T 34)⟩]) (.cond (T 35) (.seq (.ops [⟨(some 4), none, .mov (.const (.int .i64 (-1)))⟩]) .ret) .skip)) (.seq (.ops [⟨(some 4), none, .mov (.const (.int .i64 (0)))⟩]) .ret))))
theorem fok105 : FnOk Try.prog 105 36 s105 [.tmp 4] := ⟨Try.f105, _, Try.func105, rfl, Try.ntmps105, by kernel_rfl, by kernel_rfl⟩
theorem cmpL_c {m k : Nat} (hn : 40 ≤ n) (hm : m ≤ 30) (hk : k ≤ 30) {va vb : Value} {a b : Nat → Int} (ha : Ints h va m a) (hb : Ints h vb k b) : call n (.func (.func 105) #[] #[]) [va, vb] h = some (.int .i64 (lexD a m b k), h) := by
  obtain ⟨n, rfl⟩ : ∃ p, n = p + 1 := ⟨n - 1, by omega⟩
  refine call_plain0 fok105 rfl rfl (by simp) rfl ?_
  have ha : Ints h.shutAll va m a := Cells.shut ha
  have hb : Ints h.shutAll vb k b := Cells.shut hb
  generalize h.shutAll = h at ha hb
  simp only [rn0, rn1, rn2, rn3, rn4, rn5, rn6, rn7, rn8, if_true, if_false, Nat.le_refl, true_and, and_true, decide_true, decide_false, Bool.not_true, Bool.not_false, reduceIte, Nat.reduceEqDiff, Nat.reduceAdd, Nat.reduceMul, Nat.reduceSub, Nat.reduceLeDiff, Nat.reduceLT, s105, Cells.len ha]
  refine W_loop m (fun i f g ms => ((∀ j, j < i → a j = b j) ∧ i ≤ k ∧ g = h) ∧ ms = [] ∧ f 0 = va ∧ f 1 = vb ∧ f 9 = va ∧ f 10 = .int .i64 (m : Int) ∧ f 11 = .int .i64 (i : Int)) (by simp; omega) ?_ ?_ ?_
  · simp only [rn0, rn1, rn2, rn3, rn4, rn5, rn6, rn7, rn8, if_true, if_false, Nat.le_refl, true_and, and_true, decide_true, decide_false, Bool.not_true, Bool.not_false, reduceIte, Nat.reduceEqDiff, Nat.reduceAdd, Nat.reduceMul, Nat.reduceSub, Nat.reduceLeDiff, Nat.reduceLT, Int.natCast_zero]
    first | exact ⟨fun i hi => by omega, Nat.zero_le _⟩ | exact ⟨⟨fun i hi => by omega, Nat.zero_le _⟩, rfl⟩
  · rintro i f g ms hi ⟨⟨he, hik, rfl⟩, rfl, p0, p1, p9, p10, p11⟩
    have hi' : (i : Int) < (m : Int) := by omega
    have hw : wrapF .i64 ((i : Int) + 1) = ((i + 1 : Nat) : Int) := by rw [wrap_in (by omega) (by omega)]; rfl
    by_cases c : i < k
    · have c' : ¬ (k : Int) ≤ (i : Int) := by omega
      have ec := cmpI_c (n := n) (h := g) (by omega) (a i) (b i)
      by_cases c1 : a i < b i
      · have hz : cmpZ (a i) (b i) = -1 := if_pos c1
        rw [hz] at ec
        rw [lexD_at hi c he c1]
        simp only [rn0, rn1, rn2, rn3, rn4, rn5, rn6, rn7, rn8, if_true, if_false, Nat.le_refl, true_and, and_true, decide_true, decide_false, Bool.not_true, Bool.not_false, reduceIte, Nat.reduceEqDiff, Nat.reduceAdd, Nat.reduceMul, Nat.reduceSub, Nat.reduceLeDiff, Nat.reduceLT, p0, p1, p9, p10, p11, hi', Cells.idx ha hi, Cells.ld ha hi Nat.zero_lt_one, Cells.len hb, ge_iff_le, c', Cells.idx hb c, Cells.ld hb c Nat.zero_lt_one, ec, Int.reduceEq, Int.reduceNeg]
      · by_cases c2 : b i < a i
        · have hz : cmpZ (a i) (b i) = 1 := by unfold cmpZ; rw [if_neg c1, if_pos c2]
          rw [hz] at ec
          rw [lexD_at' hi c he c2]
          simp only [rn0, rn1, rn2, rn3, rn4, rn5, rn6, rn7, rn8, if_true, if_false, Nat.le_refl, true_and, and_true, decide_true, decide_false, Bool.not_true, Bool.not_false, reduceIte, Nat.reduceEqDiff, Nat.reduceAdd, Nat.reduceMul, Nat.reduceSub, Nat.reduceLeDiff, Nat.reduceLT, p0, p1, p9, p10, p11, hi', Cells.idx ha hi, Cells.ld ha hi Nat.zero_lt_one, Cells.len hb, ge_iff_le, c', Cells.idx hb c, Cells.ld hb c Nat.zero_lt_one, ec, Int.reduceEq]
        · have hz : cmpZ (a i) (b i) = 0 := by unfold cmpZ; rw [if_neg c1, if_neg c2]
          rw [hz] at ec
          simp only [rn0, rn1, rn2, rn3, rn4, rn5, rn6, rn7, rn8, if_true, if_false, Nat.le_refl, true_and, and_true, decide_true, decide_false, Bool.not_true, Bool.not_false, reduceIte, Nat.reduceEqDiff, Nat.reduceAdd, Nat.reduceMul, Nat.reduceSub, Nat.reduceLeDiff, Nat.reduceLT, p0, p1, p9, p10, p11, hi', Cells.idx ha hi, Cells.ld ha hi Nat.zero_lt_one, Cells.len hb, ge_iff_le, c', Cells.idx hb c, Cells.ld hb c Nat.zero_lt_one, ec, hw]
          have fin : (∀ j, j < i + 1 → a j = b j) ∧ i + 1 ≤ k := ⟨fun j hj => by
            by_cases e : j = i
            · subst e; omega
            · exact he j (by omega), c⟩
          first | exact fin | exact ⟨fin, rfl⟩
    · have c' : (k : Int) ≤ (i : Int) := by omega
      have hr : lexD a m b k = 1 := by rw [lexD_eq fun j hj => he j (by omega), if_pos (by omega)]
      rw [hr]
      simp only [rn0, rn1, rn2, rn3, rn4, rn5, rn6, rn7, rn8, if_true, if_false, Nat.le_refl, true_and, and_true, decide_true, decide_false, Bool.not_true, Bool.not_false, reduceIte, Nat.reduceEqDiff, Nat.reduceAdd, Nat.reduceMul, Nat.reduceSub, Nat.reduceLeDiff, Nat.reduceLT, p0, p1, p9, p10, p11, hi', Cells.idx ha hi, Cells.ld ha hi Nat.zero_lt_one, Cells.len hb, ge_iff_le, c']
  · rintro f g ms ⟨⟨he, hik, rfl⟩, rfl, p0, p1, p9, p10, p11⟩
    by_cases c : m < k
    · have c' : (m : Int) < (k : Int) := by omega
      have hr : lexD a m b k = -1 := by rw [lexD_eq fun j hj => he j (by omega), if_neg (by omega), if_pos c]
      rw [hr]
      simp only [rn0, rn1, rn2, rn3, rn4, rn5, rn6, rn7, rn8, if_true, if_false, Nat.le_refl, true_and, and_true, decide_true, decide_false, Bool.not_true, Bool.not_false, reduceIte, Nat.reduceEqDiff, Nat.reduceAdd, Nat.reduceMul, Nat.reduceSub, Nat.reduceLeDiff, Nat.reduceLT, p0, p1, p9, p10, p11, Int.lt_irrefl, Cells.len ha, Cells.len hb, c']
    · have c' : ¬ (m : Int) < (k : Int) := by omega
      have hr : lexD a m b k = 0 := by rw [lexD_eq fun j hj => he j (by omega), if_neg (by omega), if_neg c]
      rw [hr]
      simp only [rn0, rn1, rn2, rn3, rn4, rn5, rn6, rn7, rn8, if_true, if_false, Nat.le_refl, true_and, and_true, decide_true, decide_false, Bool.not_true, Bool.not_false, reduceIte, Nat.reduceEqDiff, Nat.reduceAdd, Nat.reduceMul, Nat.reduceSub, Nat.reduceLeDiff, Nat.reduceLT, p0, p1, p9, p10, p11, Int.lt_irrefl, Cells.len ha, Cells.len hb, c']
def s103 : SCode := (.seq (.ops [⟨(some 2), none, .mov (.const (.int .i64 (0)))⟩]) (.seq (.ops [⟨(some 3), none, .mov (.const (.int .i64 (0)))⟩]) (.seq (.seq (.ops [⟨(some 6), none, .mov (T 0)⟩, ⟨(some 7), none, .len (T 6)⟩, ⟨(some 8), none, .mov (.const (.int .i64 (0)))⟩]) (.block 0 (.loop (.seq (.ops [⟨(some 9), none, .int2 .lss (T 8) (T 7)⟩]) (.seq (.cond (T 9) .skip (.exit 0)) (.seq (.block 1 (.seq (.ops [⟨(some 10), none, .idxSl 1 (T 6) (T 8)⟩, ⟨(some 11), none, .load1 (T 10)⟩, ⟨(some 5), none, .mov (T 11)⟩]) (.seq (.ops [⟨(some 12), none, .mov (T 5)⟩, ⟨(some 13), none, .mov (T 3)⟩, ⟨(some 14), none, .int2 .neq (T 12) (T 13)⟩]) (.cond (T 14) (.seq (.ops [⟨(some 15), none, .mov (T 5)⟩, ⟨(some 2), none, .mov (T 15)⟩]) .ret) .skip)))) (.ops [⟨(some 16), none, .int2 .add (T 8) (.const (.int .i64 (1)))⟩, ⟨(some 8), none, .mov (T 16)⟩]))))))) (.seq (.ops [⟨(some 17), none, .mov (T 3)⟩, ⟨(some 2), none, .mov (T 17)⟩]) .ret))))
theorem fok103 : FnOk Try.prog 103 18 s103 [.tmp 2] := ⟨Try.f103, _, Try.func103, rfl, Try.ntmps103, by kernel_rfl, by kernel_rfl⟩
theorem or_c (hn : 10 ≤ n) {v : Value} {a : Nat → Int} (ha : Ints h v 2 a) : call n (.func (.func 103) #[] #[]) [v] h = some (.int .i64 (if a 0 = 0 then a 1 else a 0), h) := by
  obtain ⟨n, rfl⟩ : ∃ p, n = p + 1 := ⟨n - 1, by omega⟩
  refine call_plain0 fok103 rfl rfl (by simp) rfl ?_
  have ha : Ints h.shutAll v 2 a := Cells.shut ha
  generalize h.shutAll = h at ha
  simp only [rn0, rn1, rn2, rn3, rn4, rn5, rn6, rn7, rn8, if_true, if_false, Nat.le_refl, true_and, and_true, decide_true, decide_false, Bool.not_true, Bool.not_false, reduceIte, Nat.reduceEqDiff, Nat.reduceAdd, Nat.reduceMul, Nat.reduceSub, Nat.reduceLeDiff, Nat.reduceLT, s103, Cells.len ha]
  refine W_loop 2 (fun i f g ms => ((∀ j, j < i → a j = 0) ∧ g = h) ∧ ms = [] ∧ f 3 = .int .i64 0 ∧ f 6 = v ∧ f 7 = .int .i64 ((2 : Nat) : Int) ∧ f 8 = .int .i64 (i : Int)) (by simp; omega) ?_ ?_ ?_
  · simp only [rn0, rn1, rn2, rn3, rn4, rn5, rn6, rn7, rn8, if_true, if_false, Nat.le_refl, true_and, and_true, decide_true, decide_false, Bool.not_true, Bool.not_false, reduceIte, Nat.reduceEqDiff, Nat.reduceAdd, Nat.reduceMul, Nat.reduceSub, Nat.reduceLeDiff, Nat.reduceLT, Int.natCast_zero]
    first | exact fun i hi => by omega | exact ⟨fun i hi => by omega, rfl⟩
  · rintro i f g ms hi ⟨⟨he, rfl⟩, rfl, p3, p6, p7, p8⟩
    have hi' : (i : Int) < ((2 : Nat) : Int) := by omega
    have hw : wrapF .i64 ((i : Int) + 1) = ((i + 1 : Nat) : Int) := by rw [wrap_in (by omega) (by omega)]; rfl
    by_cases c : a i = 0
    · simp only [rn0, rn1, rn2, rn3, rn4, rn5, rn6, rn7, rn8, if_true, if_false, Nat.le_refl, true_and, and_true, decide_true, decide_false, Bool.not_true, Bool.not_false, reduceIte, Nat.reduceEqDiff, Nat.reduceAdd, Nat.reduceMul, Nat.reduceSub, Nat.reduceLeDiff, Nat.reduceLT, p3, p6, p7, p8, hi', Cells.idx ha hi, Cells.ld ha hi Nat.zero_lt_one, c, hw]
      have fin : ∀ j, j < i + 1 → a j = 0 := fun j hj => by
        by_cases e : j = i
        · subst e; exact c
        · exact he j (by omega)
      first | exact fin | exact ⟨fin, rfl⟩
    · have hr : (if a 0 = 0 then a 1 else a 0) = a i := by
        obtain rfl | rfl : i = 0 ∨ i = 1 := by omega
        · rw [if_neg c]
        · rw [if_pos (he 0 (by omega))]
      rw [hr]
      simp only [rn0, rn1, rn2, rn3, rn4, rn5, rn6, rn7, rn8, if_true, if_false, Nat.le_refl, true_and, and_true, decide_true, decide_false, Bool.not_true, Bool.not_false, reduceIte, Nat.reduceEqDiff, Nat.reduceAdd, Nat.reduceMul, Nat.reduceSub, Nat.reduceLeDiff, Nat.reduceLT, p3, p6, p7, p8, hi', Cells.idx ha hi, Cells.ld ha hi Nat.zero_lt_one, c]
  · rintro f g ms ⟨⟨he, rfl⟩, rfl, p3, p6, p7, p8⟩
    have hr : (if a 0 = 0 then a 1 else a 0) = 0 := by rw [if_pos (he 0 (by omega)), he 1 (by omega)]
    rw [hr]
    simp only [rn0, rn1, rn2, rn3, rn4, rn5, rn6, rn7, rn8, if_true, if_false, Nat.le_refl, true_and, and_true, decide_true, decide_false, Bool.not_true, Bool.not_false, reduceIte, Nat.reduceEqDiff, Nat.reduceAdd, Nat.reduceMul, Nat.reduceSub, Nat.reduceLeDiff, Nat.reduceLT, p3, p6, p7, p8, Int.lt_irrefl]
end Go.Vm.Bt

namespace Go.Vm.Bt
open Go.Proofs Go.Vm.Vat Go.Vm.L2
set_option linter.unusedSimpArgs false
set_option linter.unusedVariables false
set_option maxRecDepth 10000
variable {n : Nat} {h : AHeap}
theorem sl_pair {a b : Int} : buildSl 1 2 [.int .i64 0] [0, 1] h [.int .i64 a, .int .i64 b] = newSlice h [.int .i64 a, .int .i64 b] 2 2 0 := id rfl
noncomputable def slZ (a : Nat → Int) (m : Nat) (b : Nat → Int) (k : Nat) : Int := if cmpZ m k = 0 then lexD a m b k else cmpZ m k
theorem slZ_lt {a b : Nat → Int} {m k : Nat} : slZ a m b k < 0 ↔ Shortlex a m b k := by
  unfold slZ cmpZ Shortlex
  by_cases c1 : m < k
  · rw [if_neg (by rw [if_pos (by omega)]; decide), if_pos (by omega)]
    exact ⟨fun _ => .inl c1, fun _ => by decide⟩
  · by_cases c2 : k < m
    · rw [if_neg (by rw [if_neg (by omega), if_pos (by omega)]; decide), if_neg (by omega), if_pos (by omega)]
      exact ⟨fun h => by omega, fun h => by rcases h with h | h <;> omega⟩
    · have e : m = k := by omega
      subst e
      rw [if_pos (by rw [if_neg (by omega), if_neg (by omega)])]
      unfold lexD
      rw [Nat.min_self]
      by_cases c : LexLt a b m
      · rw [if_pos c]; exact ⟨fun _ => .inr ⟨rfl, c⟩, fun _ => by decide⟩
      · rw [if_neg c]
        refine ⟨fun h => ?_, fun h => ?_⟩
        · rw [if_neg (Nat.lt_irrefl _), if_neg (Nat.lt_irrefl _)] at h
          split at h <;> omega
        · rcases h with h | h
          · omega
          · exact absurd h.2 c
def s102 : SCode := (.seq (.ops [⟨(some 4), none, .mov (.const (.int .i64 (0)))⟩]) (.seq (.ops [⟨(some 5), none, .mov (T 0)⟩, ⟨(some 6), none, .len (T 5)⟩, ⟨(some 7), none, .mov (T 1)⟩, ⟨(some 8), none, .len (T 7)⟩, ⟨(some 9), none, .call (.func 104) [(T 6), (T 8)]⟩, ⟨(some 10), none, .mov (T 0)⟩, ⟨(some 11), none, .mov (T 1)⟩, ⟨(some 12), none, .call (.func 105) [(T 10), (T 11)]⟩, ⟨(some 13), none, .bslice 1 2 [(.int .i64 (0))] [0, 1] [(T 9), (T 12)]⟩, ⟨(some 14), none, .call (.func 103) [(T 13)]⟩, ⟨(some 4), none, .mov (T 14)⟩]) .ret))
theorem fok102 : FnOk Try.prog 102 15 s102 [.tmp 4] := ⟨Try.f102, _, Try.func102, rfl, Try.ntmps102, by kernel_rfl, by kernel_rfl⟩
theorem leave1_c {m k : Nat} (hn : 60 ≤ n) (hr : h.next + 10 < far) (hm : m ≤ 30) (hk : k ≤ 30) {va vb : Value} {a b : Nat → Int} (ha : Ints h va m a) (hb : Ints h vb k b) : call n (.func (.func 102) #[] #[]) [va, vb] h = some (.int .i64 (slZ a m b k), h) := by
  obtain ⟨n, rfl⟩ : ∃ p, n = p + 1 := ⟨n - 1, by omega⟩
  refine call_plain0 fok102 rfl rfl (by simp) rfl ?_
  have ha : Ints h.shutAll va m a := Cells.shut ha
  have hb : Ints h.shutAll vb k b := Cells.shut hb
  have hr : h.shutAll.next + 10 < far := hr
  have hfl : h.shutAll.floor ≤ h.shutAll.next := Nat.le_refl _
  generalize h.shutAll = h at ha hb hr hfl
  have e1 := cmpI_c (n := n) (h := h) (by omega) (m : Int) (k : Int)
  have e2 := cmpL_c (n := n) (h := h) (by omega) hm hk ha hb
  simp only [rn0, rn1, rn2, rn3, rn4, rn5, rn6, rn7, rn8, if_true, if_false, Nat.le_refl, true_and, and_true, decide_true, decide_false, Bool.not_true, Bool.not_false, reduceIte, Nat.reduceEqDiff, Nat.reduceAdd, Nat.reduceMul, Nat.reduceSub, Nat.reduceLeDiff, Nat.reduceLT, s102, Cells.len ha, Cells.len hb, e1, e2, sl_pair]
  refine step_slice (by omega) rfl fun g hx => ?_
  have hp : Ints g (.slice (some ⟨h.next, 0, none⟩) 2 2) 2 (fun i => if i = 0 then cmpZ m k else lexD a m b k) := ⟨_, _, rfl, fun x e => by cases e; rfl, .inr ⟨_, 0, _, _, _, rfl, hx.get, fun i j hi hj => by
    obtain rfl : j = 0 := by omega
    obtain rfl | rfl : i = 0 ∨ i = 1 := by omega
    · rfl
    · rfl⟩⟩
  have e3 := or_c (n := n) (h := g) (by omega) hp
  have e4 : (if (if (0 : Nat) = 0 then cmpZ m k else lexD a m b k) = 0 then (if (1 : Nat) = 0 then cmpZ m k else lexD a m b k) else (if (0 : Nat) = 0 then cmpZ m k else lexD a m b k)) = slZ a m b k := rfl
  rw [e4] at e3
  simp only [rn0, rn1, rn2, rn3, rn4, rn5, rn6, rn7, rn8, if_true, if_false, Nat.le_refl, true_and, and_true, decide_true, decide_false, Bool.not_true, Bool.not_false, reduceIte, Nat.reduceEqDiff, Nat.reduceAdd, Nat.reduceMul, Nat.reduceSub, Nat.reduceLeDiff, Nat.reduceLT, e3]
def IsLeast (L : List (List Int)) (l : List Int) : Prop := l ∈ L ∧ ∀ w, w ∈ L → ¬ SL w l
def s101 : SCode := (.seq (.ops [⟨(some 4), none, .mov (.const (.slice none 0 0))⟩]) (.seq (.seq (.ops [⟨(some 7), none, .mov (T 0)⟩, ⟨(some 8), none, .len (T 7)⟩, ⟨(some 9), none, .int2 .lss (T 8) (.const (.int .i64 (1)))⟩]) (.cond (T 9) .stuck .skip)) (.seq (.ops [⟨(some 11), none, .mov (T 0)⟩, ⟨(some 12), none, .idxSl 1 (T 11) (.const (.int .i64 (0)))⟩, ⟨(some 13), none, .load1 (T 12)⟩, ⟨(some 5), none, .mov (T 13)⟩]) (.seq (.seq (.ops [⟨(some 6), none, .mov (.const (.int .i64 (1)))⟩]) (.block 0 (.loop (.seq (.seq (.ops [⟨(some 14), none, .mov (T 6)⟩, ⟨(some 15), none, .mov (T 0)⟩, ⟨(some 16), none, .len (T 15)⟩, ⟨(some 17), none, .int2 .lss (T 14) (T 16)⟩]) (.cond (T 17) .skip (.exit 0))) (.seq (.block 1 (.seq (.ops [⟨(some 20), none, .mov (T 1)⟩, ⟨(some 21), none, .mov (T 0)⟩, ⟨(some 22), none, .mov (T 6)⟩, ⟨(some 23), none, .idxSl 1 (T 21) (T 22)⟩, ⟨(some 24), none, .load1 (T 23)⟩, ⟨(some 25), none, .mov (T 5)⟩, ⟨(some 26), none, .call (T 20) [(T 24), (T 25)]⟩, ⟨(some 27), none, .int2 .lss (T 26) (.const (.int .i64 (0)))⟩]) (.cond (T 27) (.ops [⟨(some 28), none, .mov (T 0)⟩, ⟨(some 29), none, .mov (T 6)⟩, ⟨(some 30), none, .idxSl 1 (T 28) (T 29)⟩, ⟨(some 31), none, .load1 (T 30)⟩, ⟨(some 5), none, .mov (T 31)⟩]) .skip))) (.ops [⟨(some 18), none, .mov (T 6)⟩, ⟨(some 19), none, .int2 .add (T 18) (.const (.int .i64 (1)))⟩, ⟨(some 6), none, .mov (T 19)⟩])))))) (.seq (.ops [⟨(some 32), none, .mov (T 5)⟩, ⟨(some 4), none, .mov (T 32)⟩]) .ret)))))
theorem fok101 : FnOk Try.prog 101 33 s101 [.tmp 4] := ⟨Try.f101, _, Try.func101, rfl, Try.ntmps101, by kernel_rfl, by kernel_rfl⟩
set_option maxHeartbeats 1000000 in
theorem min_c (hn : 400 ≤ n) (hr : h.next + 20 < far) {v : Value} {L : List (List Int)} (hL : L ≠ []) (ha : AllR h v L) (h5 : ∀ l, l ∈ L → l.length ≤ 30) (hlen : L.length ≤ 300) :
    ∃ r h', call n (.func (.func 101) #[] #[]) [v, .func (.func 102) #[] #[]] h = some (r, h') ∧ h' = h ∧ ∃ l, IsLeast L l ∧ Ints h r l.length (atL l) := by
  obtain ⟨n, rfl⟩ : ∃ p, n = p + 1 := ⟨n - 1, by omega⟩
  refine call_any0 fok101 rfl rfl (by simp) ?_
  obtain ⟨R, hc, hi⟩ := ha
  obtain ⟨M, hM⟩ : ∃ M, L.length = M + 1 := ⟨L.length - 1, by have := List.length_pos_iff.2 hL; omega⟩
  have hpos : 0 < L.length := by omega
  have hl1 : ¬ (L.length : Int) < 1 := by omega
  have i0 : indexSl 1 v (.int .i64 0) = some (ptrO v 1 0 0) := Cells.idx hc hpos
  have hmem : ∀ i, i < L.length → L.getD i [] ∈ L := fun i hi => by rw [List.getD_eq_getElem?_getD, List.getElem?_eq_getElem hi]; exact List.getElem_mem hi
  simp only [rn0, rn1, rn2, rn3, rn4, rn5, rn6, rn7, rn8, if_true, if_false, Nat.le_refl, true_and, and_true, decide_true, decide_false, Bool.not_true, Bool.not_false, reduceIte, Nat.reduceEqDiff, Nat.reduceAdd, Nat.reduceMul, Nat.reduceSub, Nat.reduceLeDiff, Nat.reduceLT, s101, Cells.len hc, hl1, i0, Cells.ld hc hpos Nat.zero_lt_one]
  refine W_loop M (fun k f g ms => (g = h ∧ ∃ c, c < k + 1 ∧ f 5 = R c ∧ ∀ j, j < k + 1 → ¬ SL (L.getD j []) (L.getD c [])) ∧ ms = [] ∧ f 0 = v ∧ f 1 = .func (.func 102) #[] #[] ∧ f 6 = .int .i64 ((k + 1 : Nat) : Int)) (by simp; omega) ?_ ?_ ?_
  · have hs0 : ¬ SL (L.getD 0 []) (L.getD 0 []) := fun h => by
      rcases h with h | h
      · omega
      · exact lex_irr h.2
    have z1 : ((0 + 1 : Nat) : Int) = 1 := rfl
    simp only [rn0, rn1, rn2, rn3, rn4, rn5, rn6, rn7, rn8, if_true, if_false, Nat.le_refl, true_and, and_true, decide_true, decide_false, Bool.not_true, Bool.not_false, reduceIte, Nat.reduceEqDiff, Nat.reduceAdd, Nat.reduceMul, Nat.reduceSub, Nat.reduceLeDiff, Nat.reduceLT, z1]
    have fin : ∃ c, c < 0 + 1 ∧ R 0 = R c ∧ ∀ j, j < 0 + 1 → ¬ SL (L.getD j []) (L.getD c []) := ⟨0, by omega, rfl, fun j hj => by
      obtain rfl : j = 0 := by omega
      exact hs0⟩
    first | exact fin | exact ⟨fin, rfl⟩ | exact ⟨⟨rfl, fin⟩, rfl⟩
  · rintro k f g ms hk ⟨⟨rfl, c, hc1, p5, hno⟩, rfl, p0, p1, p6⟩
    have hk2 : k + 1 < L.length := by omega
    have hk' : ((k + 1 : Nat) : Int) < (L.length : Int) := by omega
    have hw : wrapF .i64 (((k + 1 : Nat) : Int) + 1) = ((k + 1 + 1 : Nat) : Int) := by rw [wrap_in (by omega) (by omega)]; rfl
    have e1 := leave1_c (n := n) (h := g) (by omega) (by omega) (h5 _ (hmem _ hk2)) (h5 _ (hmem c (by omega))) (hi _ hk2) (hi c (by omega))
    have hz := slZ_lt (a := atL (L.getD (k + 1) [])) (b := atL (L.getD c [])) (m := (L.getD (k + 1) []).length) (k := (L.getD c []).length)
    have hsl : SL (L.getD (k + 1) []) (L.getD c []) ↔ Shortlex (atL (L.getD (k + 1) [])) (L.getD (k + 1) []).length (atL (L.getD c [])) (L.getD c []).length := Iff.rfl
    rw [← hsl] at hz
    by_cases cc : SL (L.getD (k + 1) []) (L.getD c [])
    · have hz' := hz.2 cc
      simp only [rn0, rn1, rn2, rn3, rn4, rn5, rn6, rn7, rn8, if_true, if_false, Nat.le_refl, true_and, and_true, decide_true, decide_false, Bool.not_true, Bool.not_false, reduceIte, Nat.reduceEqDiff, Nat.reduceAdd, Nat.reduceMul, Nat.reduceSub, Nat.reduceLeDiff, Nat.reduceLT, p0, p1, p5, p6, Cells.len hc, hk', Cells.idx hc hk2, Cells.ld hc hk2 Nat.zero_lt_one, e1, hz', hw]
      have fin : ∃ c', c' < k + 1 + 1 ∧ R (k + 1) = R c' ∧ ∀ j, j < k + 1 + 1 → ¬ SL (L.getD j []) (L.getD c' []) := ⟨k + 1, by omega, rfl, fun j hj hs => by
        by_cases e : j = k + 1
        · subst e
          rcases hs with h | h
          · omega
          · exact lex_irr h.2
        · exact hno j (by omega) (sl_trans hs cc)⟩
      first | exact fin | exact ⟨fin, rfl⟩ | exact ⟨⟨rfl, fin⟩, rfl⟩
    · have hz' : ¬ slZ (atL (L.getD (k + 1) [])) (L.getD (k + 1) []).length (atL (L.getD c [])) (L.getD c []).length < 0 := fun q => cc (hz.1 q)
      simp only [rn0, rn1, rn2, rn3, rn4, rn5, rn6, rn7, rn8, if_true, if_false, Nat.le_refl, true_and, and_true, decide_true, decide_false, Bool.not_true, Bool.not_false, reduceIte, Nat.reduceEqDiff, Nat.reduceAdd, Nat.reduceMul, Nat.reduceSub, Nat.reduceLeDiff, Nat.reduceLT, p0, p1, p5, p6, Cells.len hc, hk', Cells.idx hc hk2, Cells.ld hc hk2 Nat.zero_lt_one, e1, hz', hw]
      have fin : ∃ c', c' < k + 1 + 1 ∧ R c = R c' ∧ ∀ j, j < k + 1 + 1 → ¬ SL (L.getD j []) (L.getD c' []) := ⟨c, by omega, rfl, fun j hj hs => by
        by_cases e : j = k + 1
        · subst e; exact cc hs
        · exact hno j (by omega) hs⟩
      first | exact fin | exact ⟨fin, rfl⟩ | exact ⟨⟨rfl, fin⟩, rfl⟩
  · rintro f g ms ⟨⟨rfl, c, hc1, p5, hno⟩, rfl, p0, p1, p6⟩
    have hk' : ¬ ((M + 1 : Nat) : Int) < (L.length : Int) := by omega
    simp only [rn0, rn1, rn2, rn3, rn4, rn5, rn6, rn7, rn8, if_true, if_false, Nat.le_refl, true_and, and_true, decide_true, decide_false, Bool.not_true, Bool.not_false, reduceIte, Nat.reduceEqDiff, Nat.reduceAdd, Nat.reduceMul, Nat.reduceSub, Nat.reduceLeDiff, Nat.reduceLT, p0, p1, p5, p6, Cells.len hc, hk']
    refine ⟨L.getD c [], ⟨hmem c (by omega), fun w hw => ?_⟩, hi c (by omega)⟩
    obtain ⟨j, hj, e⟩ := List.getElem_of_mem hw
    have e2 : L.getD j [] = w := by rw [List.getD_eq_getElem?_getD, List.getElem?_eq_getElem hj]; exact e
    rw [← e2]
    exact hno j (by omega)
theorem least_uniq {L : List (List Int)} {l l' : List Int} (h1 : IsLeast L l) (h2 : IsLeast L l') : l = l' := by
  have a := h1.2 l' h2.1
  have b := h2.2 l h1.1
  apply sl_eq <;> assumption
open Classical in
noncomputable def leaveS (S : MB) : List Int := if h : ∃ l, IsLeast (allW S) l then h.choose else []
theorem leave_is {S : MB} {l : List Int} (hl : IsLeast (allW S) l) : leaveS S = l := by
  unfold leaveS
  rw [dif_pos ⟨l, hl⟩]
  exact least_uniq (Exists.choose_spec (p := fun l => IsLeast (allW S) l) ⟨l, hl⟩) hl
def LeaveR (h : AHeap) (S : MB) (v : Value) (h' : AHeap) : Prop := (∀ i, i < h.next → h'.get i = h.get i) ∧ h.next ≤ h'.next ∧ h'.next ≤ h.next + 50010 ∧ h'.floor = h.floor ∧
  ((faultS S ≠ 0 ∧ v = .tuple ⟨[nilS, .int .i64 (faultS S)]⟩) ∨ (faultS S = 0 ∧ ∃ l, v = .tuple ⟨[l, .int .i64 0]⟩ ∧ Ints h' l (leaveS S).length (atL (leaveS S)) ∧ IsLeast (allW S) (leaveS S)))
def s54 : SCode := (.seq (.ops [⟨(some 1), none, .box (T 0)⟩, ⟨(some 2), none, .mov (.const (.slice none 0 0))⟩, ⟨(some 3), none, .mov (.const (.int .i64 (0)))⟩]) (.seq (.seq (.ops [⟨(some 5), none, .loadN 5 (T 1)⟩, ⟨(some 6), none, .call (.func 31) [(T 5)]⟩, ⟨(some 4), none, .mov (T 6)⟩]) (.seq (.ops [⟨(some 7), none, .mov (T 4)⟩, ⟨(some 8), none, .int2 .neq (T 7) (.const (.int .i64 (0)))⟩]) (.cond (T 8) (.seq (.ops [⟨(some 9), none, .mov (T 4)⟩, ⟨(some 2), none, .mov (.const (.slice none 0 0))⟩, ⟨(some 3), none, .mov (T 9)⟩]) .ret) .skip))) (.seq (.ops [⟨(some 10), none, .loadN 5 (T 1)⟩, ⟨(some 11), none, .build #[(0, 5), (5, 1)] [(.int .i64 (0)), (.int .i64 (0)), (.slice none 0 0), (.int .i64 (0)), (.slice none 0 0), (.slice none 0 0)] [0] [(T 10)]⟩, ⟨(some 12), none, .call (.func 100) [(T 11)]⟩, ⟨(some 13), none, .call (.func 101) [(T 12), (.func 102)]⟩, ⟨(some 2), none, .mov (T 13)⟩, ⟨(some 3), none, .mov (.const (.int .i64 (0)))⟩]) .ret)))
theorem fok54 : FnOk Try.prog 54 14 s54 [.tmp 2, .tmp 3] := ⟨Try.f54, _, Try.func54, rfl, Try.ntmps54, by kernel_rfl, by kernel_rfl⟩
theorem leaveP_c (hn : 1000 ≤ n) (hr : h.next + 130000 < far) (hfl : h.floor ≤ h.next) {vv sv : Value} {S : MB} (hy : BeatR h vv sv S) (hT : ThinS S) :
    ∃ v h', call n (.func (.func 54) #[] #[]) [.agg ⟨beL S vv sv⟩] h = some (v, h') ∧ LeaveR h S v h' := by
  obtain ⟨n, rfl⟩ : ∃ p, n = p + 1 := ⟨n - 1, by omega⟩
  refine call_any0 fok54 rfl rfl (by simp) ?_
  simp only [s54, W_seq, W_ops]
  refine ops_box (cs := beL S vv sv) (by omega) rfl hy.one fun g1 hx1 => ?_
  have n1 := hx1.next
  have f1 := hx1.floor
  have hy1 := hy.mono hx1.sub
  have w1 := hx1.row.whole (n := 5) rfl
  have ec := check_c (n := n) (h := g1) (by omega) (by omega) hy1 hT
  by_cases hf : faultS S = 0
  case neg =>
    simp only [rn0, rn1, rn2, rn3, rn4, rn5, rn6, rn7, rn8, if_true, if_false, Nat.le_refl, true_and, and_true, decide_true, decide_false, Bool.not_true, Bool.not_false, reduceIte, Nat.reduceEqDiff, Nat.reduceAdd, Nat.reduceMul, Nat.reduceSub, Nat.reduceLeDiff, Nat.reduceLT, w1, ec, hf, ret_tt]
    exact ⟨fun i hi => hx1.old i hi, by omega, by omega, by omega, .inl ⟨hf, rfl⟩⟩
  have hG := good_of hf
  obtain ⟨_, _, z3, z5, _⟩ := hG.sizes
  obtain ⟨v, g2, e2, i2, ov, o2, u2, m2, f2⟩ := wrongAll_c (n := n) (h := g1) (by omega) (by omega) (by omega) hy1 hG
  have hne : allW S ≠ [] := by unfold allW; rw [Ne, List.map_eq_nil_iff]; exact allE_ne hG
  obtain ⟨r, g3, e3, rfl, l, hl, il⟩ := min_c (n := n) (h := g2) (by omega) (by omega) hne i2 (fun l hl => by
    obtain ⟨t, _, rfl⟩ := List.mem_map.1 hl
    have := wrong_len (S := S) (t := t)
    omega) (by unfold allW; rw [List.length_map]; have := enum_len hG; unfold allE; omega)
  have e := leave_is hl
  simp only [rn0, rn1, rn2, rn3, rn4, rn5, rn6, rn7, rn8, if_true, if_false, Nat.le_refl, true_and, and_true, decide_true, decide_false, Bool.not_true, Bool.not_false, reduceIte, Nat.reduceEqDiff, Nat.reduceAdd, Nat.reduceMul, Nat.reduceSub, Nat.reduceLeDiff, Nat.reduceLT, w1, ec, hf, build_wkB, e2, e3, ret_tt]
  exact ⟨fun i hi => by rw [o2 i (by omega), hx1.old i hi], by omega, by omega, by omega, .inr ⟨hf, r, rfl, by rw [e]; exact il, by rw [e]; exact hl⟩⟩
end Go.Vm.Bt

namespace Go.Vm.Bt
open Go.Proofs Go.Vm.Vat Go.Vm.L2
set_option linter.unusedSimpArgs false
set_option linter.unusedVariables false
set_option maxRecDepth 10000
variable {n : Nat} {h : AHeap}
theorem least_ex : ∀ (L : List (List Int)), L ≠ [] → ∃ l, IsLeast L l
  | [], h => absurd rfl h
  | x :: L, _ => by
    by_cases hL : L = []
    · subst hL
      exact ⟨x, List.mem_cons_self, fun w hw => by rw [List.mem_singleton] at hw; subst hw; exact sl_irr⟩
    · obtain ⟨l, h1, h2⟩ := least_ex L hL
      by_cases c : SL x l
      · refine ⟨x, List.mem_cons_self, fun w hw => ?_⟩
        rcases List.mem_cons.1 hw with rfl | hw
        · exact sl_irr
        · exact fun q => h2 w hw (sl_trans q c)
      · refine ⟨l, List.mem_cons_of_mem _ h1, fun w hw => ?_⟩
        rcases List.mem_cons.1 hw with rfl | hw
        · exact c
        · exact h2 w hw
theorem leaveS_min {S : MB} (hG : Good S) : (∃ t, t ∈ allE S ∧ leaveS S = wrongL S t) ∧ ∀ t, t ∈ allE S → ¬ SL (wrongL S t) (leaveS S) := by
  have hne : allW S ≠ [] := by unfold allW; rw [Ne, List.map_eq_nil_iff]; exact allE_ne hG
  obtain ⟨l, hl⟩ := least_ex _ hne
  rw [leave_is hl]
  refine ⟨?_, fun t ht => hl.2 _ (List.mem_map.2 ⟨t, ht, rfl⟩)⟩
  obtain ⟨t, ht, e⟩ := List.mem_map.1 hl.1
  exact ⟨t, ht, e.symm⟩
end Go.Vm.Bt

namespace Go.Vm.Bt
open Go.Proofs Go.Vm.Vat Go.Vm.L2
set_option linter.unusedSimpArgs false
set_option linter.unusedVariables false
set_option maxRecDepth 10000
variable {n : Nat} {h : AHeap}
theorem wHi_sub {S X : MB} (hT : truthsS S ≠ []) (hTX : truthsS X ≠ []) {e e' : Nat → Int} {m m' : Nat} (h : ∀ u, u ∈ truthsS X → ∃ w, w ∈ truthsS S ∧ lossTo X (whenS u) e' m' ≤ lossTo S (whenS w) e m) : wHi X e' m' ≤ wHi S e m :=
  (wHi_le hTX).2 fun u hu => by
    obtain ⟨w, hw, hl⟩ := h u hu
    exact Int.le_trans hl ((wHi_le hT).1 (Int.le_refl _) w hw)
theorem best_least {S X : MB} (hG : Good S) (hX : Good X) (hT : truthsS S ≠ []) (hTX : truthsS X ≠ []) (h : ∀ e, EndsOk S S.nv e → ∃ e', EndsOk X X.nv e' ∧ wHi X e' X.nv ≤ wHi S e S.nv) : (bestS X).2 ≤ (bestS S).2 := by
  obtain ⟨b1, b2, _⟩ := best_is hG hT
  obtain ⟨e', h1, h2⟩ := h _ b1
  have := best_le hX hTX h1
  omega
end Go.Vm.Bt

namespace Go.Vm.Bt
open Go.Proofs Go.Vm.Vat Go.Vm.L2
set_option linter.unusedSimpArgs false
set_option linter.unusedVariables false
set_option maxRecDepth 10000
structure Wide (S X : MB) : Prop where
  nv : X.nv = S.nv
  last : X.last = S.last
  ns : X.ns = S.ns
  r : ∀ u k, k < S.ns → (RightS X u k ↔ RightS S u k)
  l : ∀ v a b, lostS X v a b = lostS S v a b
  u : ∀ i, i < numU S → uLo X i ≤ uLo S i ∧ uHi S i ≤ uHi X i
section
variable {S X : MB}
theorem Wide.loss (hw : Wide S X) {d e : Nat → Int} : ∀ m, lossTo X d e m = lossTo S d e m
  | 0 => rfl
  | m + 1 => by simp only [lossTo, hw.l, hw.loss m]
theorem Wide.mem (hw : Wide S X) {c : Nat → Int} (hc : c ∈ allE S) : c ∈ allE X := by
  have hn : numU X = numU S := by unfold numU; rw [hw.nv]
  rw [allE_mem] at hc ⊢
  refine ⟨fun i hi => ?_, fun j hj => hc.2 j (by omega)⟩
  have h1 := hc.1 i (by omega)
  have h2 := hw.u i (by omega)
  omega
theorem Wide.truth (hw : Wide S X) {t : Nat → Int} (ht : t ∈ truthsS S) : t ∈ truthsS X := by
  obtain ⟨h1, h2⟩ := truths_mem.1 ht
  refine truths_mem.2 ⟨allE_mem.1 (hw.mem (allE_mem.2 h1)), fun k hk => ?_⟩
  have hk' : k < S.ns := by rw [← hw.ns]; exact hk
  exact (hw.r t k hk').2 (h2 k hk')
theorem Wide.wrong (hw : Wide S X) {t : Nat → Int} : wrongL X t = wrongL S t := by
  unfold wrongL
  rw [hw.ns]
  exact pick_congr fun j hj => by
    unfold wrS
    rw [hw.r t j hj]
theorem Wide.leave (hw : Wide S X) (hG : Good S) (hX : Good X) : (leaveS X).length ≤ (leaveS S).length := by
  obtain ⟨⟨t, ht, e⟩, _⟩ := leaveS_min hG
  have h2 := (leaveS_min hX).2 t (hw.mem ht)
  rw [hw.wrong, ← e] at h2
  exact sl_len h2
theorem leave_nil (hG : Good S) (hl : (leaveS S).length = 0) : truthsS S ≠ [] := by
  obtain ⟨⟨t, ht, e⟩, _⟩ := leaveS_min hG
  have e0 : leaveS S = [] := List.length_eq_zero_iff.1 hl
  rw [e0] at e
  have hm : t ∈ truthsS S := truths_mem.2 ⟨allE_mem.1 ht, fun k hk => by
    apply Classical.byContradiction
    intro hno
    obtain ⟨i, i1, _⟩ := pick_has (p := wrS S t) hk hno
    have i1 : i < (wrongL S t).length := i1
    rw [← e] at i1
    exact absurd i1 (Nat.not_lt_zero _)⟩
  intro q; rw [q] at hm; cases hm
theorem Wide.near (hw : Wide S X) (hG : Good S) (hX : Good X) (hT : truthsS S ≠ []) : Near S X := by
  obtain ⟨t0, ht0⟩ := List.exists_mem_of_ne_nil _ hT
  have hTX : truthsS X ≠ [] := fun e => by have := hw.truth ht0; rw [e] at this; cases this
  refine ⟨errS_zero.2 ⟨hG, hT⟩, errS_zero.2 ⟨hX, hTX⟩, hw.nv.symm, hw.last.symm, ?_, fun v hv => ?_, fun v hv => ?_⟩
  · exact best_least hX hG hTX hT fun e he => ⟨e, by
      have h1 := hw.nv
      have h2 := hw.last
      rw [← h1]
      exact ⟨fun v hv => by have := he.1 v hv; rw [h2] at this; exact this, he.2⟩, by
      rw [← hw.nv]
      exact wHi_sub hTX hT fun u hu => ⟨u, hw.truth hu, by rw [hw.loss]; exact Int.le_refl _⟩⟩
  · exact (le_loN hT).2 fun t ht => (le_loN hTX).1 (Int.le_refl _) t (hw.truth ht)
  · exact (hiN_le hT).2 fun t ht => (hiN_le hTX).1 (Int.le_refl _) t (hw.truth ht)
end
end Go.Vm.Bt

namespace Go.Vm.Bt
open Go.Proofs Go.Vm.Vat Go.Vm.L2
set_option linter.unusedSimpArgs false
set_option linter.unusedVariables false
set_option maxRecDepth 10000
variable {n : Nat} {h : AHeap}
theorem wide_sun {S : MB} (hG : Good S) {p q : Nat} (hp : p ≤ 1) (hq : q ≤ 1) : Wide S { S with slo := max 0 (S.slo - (p : Int)), shi := min 4 (S.shi + (q : Int)) } := by
  obtain ⟨_, _, _, _, h1, h2, h3⟩ := hG.sizes
  refine ⟨rfl, rfl, rfl, fun u k hk => Iff.rfl, fun v a b => rfl, fun i hi => ?_⟩
  cases i with
  | zero => show max 0 (S.slo - (p : Int)) ≤ S.slo ∧ S.shi ≤ min 4 (S.shi + (q : Int)); omega
  | succ i => rw [uLo_succ, uLo_succ, uHi_succ, uHi_succ]; exact ⟨Int.le_refl _, Int.le_refl _⟩
def wideV (S : MB) (o : Nat) (p q : Nat) : MB := { S with nlo := fun i => if i = o then max 0 (S.nlo o - (p : Int)) else S.nlo i, nhi := fun i => if i = o then min 9 (S.nhi o + (q : Int)) else S.nhi i }
theorem wide_vat {S : MB} (hG : Good S) {o p q : Nat} (ho : o < S.nv) : Wide S (wideV S o p q) := by
  obtain ⟨⟨h1, h2, h3⟩, _⟩ := hG.args.vat o ho
  refine ⟨rfl, rfl, rfl, fun u k hk => Iff.rfl, fun v a b => rfl, fun i hi => ?_⟩
  cases i with
  | zero => exact ⟨Int.le_refl _, Int.le_refl _⟩
  | succ i =>
    rw [uLo_succ, uLo_succ, uHi_succ, uHi_succ]
    show (if i = o then max 0 (S.nlo o - (p : Int)) else S.nlo i) ≤ S.nlo i ∧ S.nhi i ≤ (if i = o then min 9 (S.nhi o + (q : Int)) else S.nhi i)
    by_cases e : i = o
    · subst e; rw [if_pos rfl, if_pos rfl]; omega
    · rw [if_neg e, if_neg e]; exact ⟨Int.le_refl _, Int.le_refl _⟩
def s19 : SCode := (.seq (.ops [⟨(some 3), none, .box (T 0)⟩, ⟨(some 6), none, .mov (.const (.bool false))⟩]) (.seq (.seq (.ops [⟨(some 16), none, .loadN 5 (T 3)⟩, ⟨(some 17), none, .call (.func 63) [(T 16)]⟩, ⟨(some 18), none, .not (T 17)⟩]) (.cond (T 18) (.seq (.ops [⟨(some 19), none, .call (.func 24) []⟩, ⟨(some 6), none, .mov (T 19)⟩]) .ret) .skip)) (.seq (.ops [⟨(some 20), none, .loadN 5 (T 3)⟩, ⟨(some 7), none, .alloc [(.int .i64 (0)), (.int .i64 (0)), (.slice none 0 0), (.int .i64 (0)), (.slice none 0 0)]⟩, ⟨none, none, .store 5 (T 7) (T 20)⟩]) (.seq (.ops [⟨(some 21), none, .bslice 4 0 [(.int .i64 (0)), (.int .i64 (0)), (.int .i64 (0)), (.int .i64 (0))] [] []⟩, ⟨(some 22), none, .fieldAddr 2 (T 3)⟩, ⟨(some 23), none, .load1 (T 22)⟩, ⟨(some 24), none, .append 4 32 (T 21) (T 23)⟩, ⟨(some 25), none, .fieldAddr 2 (T 7)⟩, ⟨none, none, .store 1 (T 25) (T 24)⟩]) (.seq (.ops [⟨(some 26), none, .mov (T 2)⟩, ⟨(some 27), none, .plain (.convert 5 3 (T 26)) 3⟩, ⟨(some 28), none, .plain (.binOp .rem 3 (T 27) (.const (.int .i64 (2))) 3) 3⟩, ⟨(some 29), none, .mov (T 2)⟩, ⟨(some 30), none, .plain (.convert 5 3 (T 29)) 3⟩, ⟨(some 31), none, .plain (.binOp .quo 3 (T 30) (.const (.int .i64 (2))) 3) 3⟩, ⟨(some 32), none, .plain (.binOp .rem 3 (T 31) (.const (.int .i64 (2))) 3) 3⟩, ⟨(some 8), none, .mov (T 28)⟩, ⟨(some 9), none, .mov (T 32)⟩]) (.seq (.seq (.ops [⟨(some 33), none, .mov (T 1)⟩, ⟨(some 34), none, .plain (.convert 5 3 (T 33)) 3⟩, ⟨(some 35), none, .fieldAddr 2 (T 7)⟩, ⟨(some 36), none, .load1 (T 35)⟩, ⟨(some 37), none, .len (T 36)⟩, ⟨(some 38), none, .int2 .add (T 37) (.const (.int .i64 (1)))⟩, ⟨(some 39), none, .plain (.binOp .rem 3 (T 34) (T 38) 3) 3⟩, ⟨(some 10), none, .mov (T 39)⟩]) (.seq (.ops [⟨(some 40), none, .mov (T 10)⟩, ⟨(some 41), none, .fieldAddr 2 (T 7)⟩, ⟨(some 42), none, .load1 (T 41)⟩, ⟨(some 43), none, .len (T 42)⟩, ⟨(some 44), none, .int2 .eql (T 40) (T 43)⟩]) (.cond (T 44) (.ops [⟨(some 45), none, .fieldAddr 0 (T 3)⟩, ⟨(some 46), none, .fieldAddr 0 (T 45)⟩, ⟨(some 47), none, .load1 (T 46)⟩, ⟨(some 48), none, .mov (T 8)⟩, ⟨(some 49), none, .int2 .sub (T 47) (T 48)⟩, ⟨(some 50), none, .plain (.call { callee := .builtin .max, args := #[(.const (.int .i64 (0))), (T 49)], argTypes := #[3, 3] }) 3⟩, ⟨(some 51), none, .fieldAddr 0 (T 3)⟩, ⟨(some 52), none, .fieldAddr 1 (T 51)⟩, ⟨(some 53), none, .load1 (T 52)⟩, ⟨(some 54), none, .mov (T 9)⟩, ⟨(some 55), none, .int2 .add (T 53) (T 54)⟩, ⟨(some 56), none, .plain (.call { callee := .builtin .min, args := #[(.const (.int .i64 (4))), (T 55)], argTypes := #[3, 3] }) 3⟩, ⟨(some 57), none, .build #[(0, 1), (1, 1)] [(.int .i64 (0)), (.int .i64 (0))] [0, 1] [(T 50), (T 56)]⟩, ⟨(some 58), none, .fieldAddr 0 (T 7)⟩, ⟨none, none, .store 2 (T 58) (T 57)⟩]) (.seq (.ops [⟨(some 59), none, .fieldAddr 2 (T 7)⟩, ⟨(some 60), none, .load1 (T 59)⟩, ⟨(some 61), none, .mov (T 10)⟩, ⟨(some 62), none, .idxSl 4 (T 60) (T 61)⟩, ⟨(some 63), none, .fieldAddr 0 (T 62)⟩, ⟨(some 11), none, .mov (T 63)⟩]) (.draw [⟨.free, ⟨(some 64), none, .mov (T 11)⟩⟩, ⟨.free, ⟨(some 65), none, .mov (T 11)⟩⟩, ⟨.free, ⟨(some 66), none, .mov (T 11)⟩⟩, ⟨.free, ⟨(some 67), none, .there (T 66)⟩⟩, ⟨.free, ⟨(some 68), none, .fieldAddr 0 (T 67)⟩⟩, ⟨.rd1, ⟨(some 69), none, .load1 (T 68)⟩⟩, ⟨.free, ⟨(some 70), none, .mov (T 8)⟩⟩, ⟨.free, ⟨(some 71), none, .int2 .sub (T 69) (T 70)⟩⟩, ⟨.free, ⟨(some 72), none, .plain (.call { callee := .builtin .max, args := #[(.const (.int .i64 (0))), (T 71)], argTypes := #[3, 3] }) 3⟩⟩, ⟨.free, ⟨(some 73), none, .mov (T 11)⟩⟩, ⟨.free, ⟨(some 74), none, .there (T 73)⟩⟩, ⟨.free, ⟨(some 75), none, .fieldAddr 1 (T 74)⟩⟩, ⟨.rd1, ⟨(some 76), none, .load1 (T 75)⟩⟩, ⟨.free, ⟨(some 77), none, .mov (T 9)⟩⟩, ⟨.free, ⟨(some 78), none, .int2 .add (T 76) (T 77)⟩⟩, ⟨.free, ⟨(some 79), none, .plain (.call { callee := .builtin .min, args := #[(.const (.int .i64 (9))), (T 78)], argTypes := #[3, 3] }) 3⟩⟩, ⟨.free, ⟨(some 80), none, .there (T 64)⟩⟩, ⟨.free, ⟨(some 81), none, .fieldAddr 0 (T 80)⟩⟩, ⟨.any, ⟨none, none, .store 1 (T 81) (T 72)⟩⟩, ⟨.free, ⟨(some 82), none, .there (T 65)⟩⟩, ⟨.free, ⟨(some 83), none, .fieldAddr 1 (T 82)⟩⟩, ⟨.any, ⟨none, none, .store 1 (T 83) (T 79)⟩⟩]))))) (.seq (.seq (.ops [⟨(some 84), none, .loadN 5 (T 7)⟩, ⟨(some 85), none, .call (.func 63) [(T 84)]⟩, ⟨(some 86), none, .not (T 85)⟩]) (.cond (T 86) (.seq (.ops [⟨(some 87), none, .call (.func 24) []⟩, ⟨(some 6), none, .mov (T 87)⟩]) .ret) .skip)) (.seq (.ops [⟨(some 89), none, .loadN 5 (T 3)⟩, ⟨(some 90), none, .call (.func 26) [(T 89)]⟩, ⟨(some 91), none, .call (.func 54) [(T 90)]⟩, ⟨(some 88), none, .mov (T 91)⟩, ⟨(some 92), none, .extract 0 (T 88)⟩, ⟨(some 93), none, .extract 1 (T 88)⟩, ⟨(some 12), none, .mov (T 92)⟩, ⟨(some 13), none, .mov (T 93)⟩]) (.seq (.ops [⟨(some 95), none, .loadN 5 (T 7)⟩, ⟨(some 96), none, .call (.func 26) [(T 95)]⟩, ⟨(some 97), none, .call (.func 54) [(T 96)]⟩, ⟨(some 94), none, .mov (T 97)⟩, ⟨(some 98), none, .extract 0 (T 94)⟩, ⟨(some 99), none, .extract 1 (T 94)⟩, ⟨(some 14), none, .mov (T 98)⟩, ⟨(some 15), none, .mov (T 99)⟩]) (.seq (.seq (.ops [⟨(some 100), none, .mov (T 13)⟩, ⟨(some 101), none, .int2 .neq (T 100) (.const (.int .i64 (0)))⟩, ⟨(some 102), none, .mov (T 101)⟩, ⟨(some 103), (some (102, false)), .mov (T 15)⟩, ⟨(some 104), (some (102, false)), .int2 .neq (T 103) (.const (.int .i64 (0)))⟩, ⟨(some 105), none, .pick (T 102) (.const (.bool true)) (T 104)⟩, ⟨(some 106), none, .mov (T 105)⟩, ⟨(some 107), (some (106, false)), .mov (T 14)⟩, ⟨(some 108), (some (106, false)), .len (T 107)⟩, ⟨(some 109), (some (106, false)), .mov (T 12)⟩, ⟨(some 110), (some (106, false)), .len (T 109)⟩, ⟨(some 111), (some (106, false)), .int2 .gtr (T 108) (T 110)⟩, ⟨(some 112), none, .pick (T 106) (.const (.bool true)) (T 111)⟩]) (.cond (T 112) (.seq (.ops [⟨(some 6), none, .mov (.const (.bool false))⟩]) .ret) .skip)) (.seq (.ops [⟨(some 113), none, .mov (T 12)⟩, ⟨(some 114), none, .len (T 113)⟩, ⟨(some 115), none, .int2 .gtr (T 114) (.const (.int .i64 (0)))⟩, ⟨(some 116), none, .mov (T 115)⟩, ⟨(some 117), (some (116, false)), .loadN 5 (T 3)⟩, ⟨(some 118), (some (116, false)), .loadN 5 (T 7)⟩, ⟨(some 119), (some (116, false)), .call (.func 73) [(T 117), (T 118)]⟩, ⟨(some 120), none, .pick (T 116) (.const (.bool true)) (T 119)⟩, ⟨(some 121), none, .mov (T 120)⟩, ⟨(some 122), (some (121, true)), .call (.func 24) []⟩, ⟨(some 123), none, .pick (T 121) (T 122) (.const (.bool false))⟩, ⟨(some 6), none, .mov (T 123)⟩]) .ret)))))))))))
theorem fok19 : FnOk Try.prog 19 124 s19 [.tmp 6] := ⟨Try.f19, _, Try.func19, rfl, Try.ntmps19, by kernel_rfl, by kernel_rfl⟩
set_option maxHeartbeats 4000000 in
theorem widerL_c (hn : 1500 ≤ n) (hr : h.next + 700000 < far) (hfl : h.floor ≤ h.next) {vv sv : Value} {S : MB} (hy : BeatR h vv sv S) (a1 : Int) (wf1 : (Lit.int .u8 a1).wf = true) (a2 : Int) (wf2 : (Lit.int .u8 a2).wf = true) :
    ∃ v h', call n (.func (.func 19) #[] #[]) [.agg ⟨beL S vv sv⟩, .int .u8 a1, .int .u8 a2] h = some (v, h') ∧ v = .bool true := by
  obtain ⟨n, rfl⟩ : ∃ p, n = p + 1 := ⟨n - 1, by omega⟩
  obtain ⟨w1, rfl, hw1⟩ := wf8 wf1
  obtain ⟨w2, rfl, hw2⟩ := wf8 wf2
  refine call_any0 fok19 rfl rfl (by simp) ?_
  simp only [s19, W_seq, W_ops]
  refine ops_box (cs := beL S vv sv) (by omega) rfl hy.one fun g1 hx1 => ?_
  have n1 := hx1.next
  have f1 := hx1.floor
  have hy1 := hy.mono hx1.sub
  have r1 := hx1.row
  have er := ready_c (n := n) (h := g1) (by omega) (by omega) hy1
  have haw := awake_c (n := n) (h := g1) (by omega)
  by_cases hTf : Rdy S
  case neg => simp only [rn0, rn1, rn2, rn3, rn4, rn5, rn6, rn7, rn8, if_true, if_false, Nat.le_refl, true_and, and_true, decide_true, decide_false, Bool.not_true, Bool.not_false, reduceIte, Nat.reduceEqDiff, Nat.reduceAdd, Nat.reduceMul, Nat.reduceSub, Nat.reduceLeDiff, Nat.reduceLT, r1.whole (n := 5) rfl, er, hTf, g_un, haw]
  have hdt : decide (Rdy S) = true := decide_eq_true hTf
  obtain ⟨hT, hf⟩ := hTf
  have hG := good_of hf
  obtain ⟨z0, z1, z3, z5, zs1, zs2, zs3⟩ := hG.sizes
  simp only [rn0, rn1, rn2, rn3, rn4, rn5, rn6, rn7, rn8, if_true, if_false, Nat.le_refl, true_and, and_true, decide_true, decide_false, Bool.not_true, Bool.not_false, reduceIte, Nat.reduceEqDiff, Nat.reduceAdd, Nat.reduceMul, Nat.reduceSub, Nat.reduceLeDiff, Nat.reduceLT, r1.whole (n := 5) rfl, er, hdt]
  refine step_new (vs := beL S vv sv) (by omega) (by omega) rfl (by simp only [rn0, rn1, rn2, rn3, rn4, rn5, rn6, rn7, rn8, if_true, if_false, Nat.le_refl, true_and, and_true, decide_true, decide_false, Bool.not_true, Bool.not_false, reduceIte, Nat.reduceEqDiff, Nat.reduceAdd, Nat.reduceMul, Nat.reduceSub, Nat.reduceLeDiff, Nat.reduceLT]; rfl) hy.one rfl rfl fun g2 hx2 => ?_
  have n2 := hx2.next
  have f2 := hx2.floor
  simp only [rn0, rn1, rn2, rn3, rn4, rn5, rn6, rn7, rn8, if_true, if_false, Nat.le_refl, true_and, and_true, decide_true, decide_false, Bool.not_true, Bool.not_false, reduceIte, Nat.reduceEqDiff, Nat.reduceAdd, Nat.reduceMul, Nat.reduceSub, Nat.reduceLeDiff, Nat.reduceLT, build_none4]
  refine step_slice (by omega) rfl fun g3 hx3 => ?_
  have n3 := hx3.next
  have f3 := hx3.floor
  have s13 : Sub All g1 g3 := hx2.sub.trans hx3.sub
  obtain ⟨pb, cap, gr, g4, e4, q4, hpb, old4, u4, m4, f4⟩ := copy_vats (g := g3) (b := g2.next) (S := S) (hy1.mono s13).v hx3.get (by omega) (by omega) (by omega)
  simp only [rn0, rn1, rn2, rn3, rn4, rn5, rn6, rn7, rn8, if_true, if_false, Nat.le_refl, true_and, and_true, decide_true, decide_false, Bool.not_true, Bool.not_false, reduceIte, Nat.reduceEqDiff, Nat.reduceAdd, Nat.reduceMul, Nat.reduceSub, Nat.reduceLeDiff, Nat.reduceLT, (r1.mono s13).ld, beg, Nat.zero_add, e4]
  refine step_store (b := g1.next) (off := 2) (vs := [.slice (some ⟨pb, 0, none⟩) S.nv cap]) rfl (by rw [old4 _ (by omega), hx3.old _ (by omega)]; exact hx2.get) (by omega) (by omega) rfl rfl rfl (by simp [beL]) fun g5 hs5 => ?_
  have e5 : splice (beL S vv sv) 2 [.slice (some ⟨pb, 0, none⟩) S.nv cap] = beL S (.slice (some ⟨pb, 0, none⟩) S.nv cap) sv := rfl
  rw [e5] at hs5
  have n5 := hs5.next
  have f5 := hs5.floor
  have p5 : g5.get pb = some (.row (vtL S) true gr) := by rw [hs5.old _ (by omega)]; exact q4
  have hvc : Cells g5 (.slice (some ⟨pb, 0, none⟩) S.nv cap) 4 S.nv (vatC S) := vtL_cells ⟨_, _, p5⟩
  have r25 : Row g5 g1.next _ := hs5.row
  have old5 : ∀ i, i < g1.next → g5.get i = g1.get i := fun i hi => by rw [hs5.old i (by omega), old4 i (by omega), hx3.old i (by omega), hx2.old i hi]
  have r15 : Row g5 h.next (beL S vv sv) := r1.mono (AHeap.subOf old5)
  obtain ⟨q1, hq1⟩ : ∃ q : Nat, q = w2 % 2 := ⟨_, rfl⟩
  have hq1' : (w2 : Int).tmod 2 = (q1 : Int) := by rw [hq1]; rfl
  obtain ⟨q2, hq2⟩ : ∃ q : Nat, q = w2 / 2 % 2 := ⟨_, rfl⟩
  have hq2' : ((w2 / 2 : Nat) : Int).tmod 2 = (q2 : Int) := by rw [hq2]; rfl
  have hqd : IntKind.wrap .i64 ((w2 : Int).tdiv 2) = ((w2 / 2 : Nat) : Int) := quo8 (b := 2) (by omega) (by omega)
  have h20 : ¬ (2 : Int) = 0 := by decide
  have hnz : ¬ ((S.nv : Int) + 1 = 0) := by omega
  have hwn : wrapF .i64 ((S.nv : Int) + 1) = (S.nv : Int) + 1 := wrap_in (by omega) (by omega)
  obtain ⟨o, ho⟩ : ∃ o : Nat, o = w1 % (S.nv + 1) := ⟨_, rfl⟩
  have ho' : (w1 : Int).tmod ((S.nv : Int) + 1) = (o : Int) := by rw [ho]; rfl
  have hol : o ≤ S.nv := by rw [ho]; have := Nat.mod_lt w1 (show 0 < S.nv + 1 by omega); omega
  simp only [rn0, rn1, rn2, rn3, rn4, rn5, rn6, rn7, rn8, if_true, if_false, Nat.le_refl, true_and, and_true, decide_true, decide_false, Bool.not_true, Bool.not_false, reduceIte, Nat.reduceEqDiff, Nat.reduceAdd, Nat.reduceMul, Nat.reduceSub, Nat.reduceLeDiff, Nat.reduceLT, p_conv8, r_8 hw1, r_8 hw2, valN_tmp, valN_const, Nat.reduceLT, p_rem, p_quo, r_rem h20, r_quo h20, hq1', hqd, hq2', r25.ld, beg, Nat.zero_add, len_slice, hwn, r_rem hnz, ho']
  -- what the turn leaves
  have hturn : ∃ (g : AHeap) (X : MB), True := ⟨g5, S, trivial⟩
  by_cases ek : o = S.nv
  · have ek' : (o : Int) = (S.nv : Int) := by omega
    have hwl : wrapF .i64 (S.slo - (q1 : Int)) = S.slo - (q1 : Int) := wrap_in (by omega) (by omega)
    have hwh : wrapF .i64 (S.shi + (q2 : Int)) = S.shi + (q2 : Int) := wrap_in (by omega) (by omega)
    obtain ⟨X, hX⟩ : ∃ X : MB, X = { S with slo := max 0 (S.slo - (q1 : Int)), shi := min 4 (S.shi + (q2 : Int)) } := ⟨_, rfl⟩
    have hWd : Wide S X := by rw [hX]; exact wide_sun hG (by omega) (by omega)
    simp only [rn0, rn1, rn2, rn3, rn4, rn5, rn6, rn7, rn8, if_true, if_false, Nat.le_refl, true_and, and_true, decide_true, decide_false, Bool.not_true, Bool.not_false, reduceIte, Nat.reduceEqDiff, Nat.reduceAdd, Nat.reduceMul, Nat.reduceSub, Nat.reduceLeDiff, Nat.reduceLT, ek', r15.ld, r25.ld, beg, Nat.zero_add, hwl, hwh, valN_tmp, valN_const, Nat.reduceLT, build_range]
    refine step_store (b := g1.next) (off := 0) (vs := [.int .i64 (max 0 (S.slo - (q1 : Int))), .int .i64 (min 4 (S.shi + (q2 : Int)))]) rfl hs5.get (by omega) (by omega) rfl rfl rfl (by simp [beL]) fun g7 hs7 => ?_
    have n7 := hs7.next
    have f7 := hs7.floor
    have old7 : ∀ i, i < g1.next → g7.get i = g1.get i := fun i hi => by rw [hs7.old i (by omega), old5 i hi]
    have rX7 : Row g7 g1.next (beL X (.slice (some ⟨pb, 0, none⟩) S.nv cap) sv) := by rw [hX]; exact hs7.row
    have hyX7 : BeatR g7 (.slice (some ⟨pb, 0, none⟩) S.nv cap) sv X := by
      have hc := vtL_cells (S := S) (g := g7) (b := pb) (cap := cap) ⟨true, gr, by rw [hs7.old _ (by omega)]; exact p5⟩
      rw [hX]
      exact ⟨hc, (hy1.mono (AHeap.subOf old7)).s⟩
    have hTX : ThinS X := by rw [hX]; exact hT
    have hne : ¬ (g1.next = h.next) := by omega
    clear hX
    have hy7 : BeatR g7 vv sv S := hy1.mono (AHeap.subOf old7)
    have r17 : Row g7 h.next (beL S vv sv) := r1.mono (AHeap.subOf old7)
    have erX := ready_c (n := n) (h := g7) (by omega) (by omega) hyX7
    have haw7 := awake_c (n := n) (h := g7) (by omega)
    by_cases hRX : Rdy X
    case neg => simp only [rn0, rn1, rn2, rn3, rn4, rn5, rn6, rn7, rn8, if_true, if_false, Nat.le_refl, true_and, and_true, decide_true, decide_false, Bool.not_true, Bool.not_false, reduceIte, Nat.reduceEqDiff, Nat.reduceAdd, Nat.reduceMul, Nat.reduceSub, Nat.reduceLeDiff, Nat.reduceLT, rX7.whole (n := 5) rfl, erX, hRX, haw7]
    have hdX : decide (Rdy X) = true := decide_eq_true hRX
    have hGX := good_of hRX.2
    obtain ⟨va, sa, g8, e8, hy8, old8, u8, m8, f8⟩ := beatL_c (n := n) (h := g7) (by omega) (by omega) (by omega) hy7 hT
    obtain ⟨l9, g9, e9, o9, u9, m9, f9, hL9⟩ := leaveP_c (n := n) (h := g8) (by omega) (by omega) (by omega) hy8 hT
    have s79 : Sub All g7 g9 := (AHeap.subOf old8).trans (AHeap.subOf o9)
    obtain ⟨vb, sb, ga, ea, hya, olda, ua, ma, fa⟩ := beatL_c (n := n) (h := g9) (by omega) (by omega) (by omega) (hyX7.mono s79) hTX
    obtain ⟨lb, gb, eb, ob, ub, mb, fb, hLb⟩ := leaveP_c (n := n) (h := ga) (by omega) (by omega) (by omega) hya hTX
    have s9b : Sub All g9 gb := (AHeap.subOf olda).trans (AHeap.subOf ob)
    have s7b := s79.trans s9b
    rcases hL9 with ⟨h0, _⟩ | ⟨_, l1, rfl, il1, _⟩
    · exact absurd hf h0
    rcases hLb with ⟨h0, _⟩ | ⟨_, l2, rfl, il2, _⟩
    · exact absurd hRX.2 h0
    have il1b := Cells.mono il1 s9b
    have hle := hWd.leave hG hGX
    have hle' : ¬ ((leaveS S).length : Int) < ((leaveS X).length : Int) := by omega
    have hawb := awake_c (n := n) (h := gb) (by omega)
    simp only [rn0, rn1, rn2, rn3, rn4, rn5, rn6, rn7, rn8, if_true, if_false, Nat.le_refl, true_and, and_true, decide_true, decide_false, Bool.not_true, Bool.not_false, reduceIte, Nat.reduceEqDiff, Nat.reduceAdd, Nat.reduceMul, Nat.reduceSub, Nat.reduceLeDiff, Nat.reduceLT, rX7.whole (n := 5) rfl, erX, hdX, r17.whole (n := 5) rfl, e8, e9, ex0, ex1, (rX7.mono s79).whole (n := 5) rfl, ea, eb, g_un, Cells.len il2, Cells.len il1b, gt_iff_lt, hle']
    by_cases hl0 : 0 < (leaveS S).length
    · have hl0' : (0 : Int) < ((leaveS S).length : Int) := by omega
      simp only [rn0, rn1, rn2, rn3, rn4, rn5, rn6, rn7, rn8, if_true, if_false, Nat.le_refl, true_and, and_true, decide_true, decide_false, Bool.not_true, Bool.not_false, reduceIte, Nat.reduceEqDiff, Nat.reduceAdd, Nat.reduceMul, Nat.reduceSub, Nat.reduceLeDiff, Nat.reduceLT, hl0', g_un, hawb]
    · have hl0' : ¬ (0 : Int) < ((leaveS S).length : Int) := by omega
      have ec := closer_c (n := n) (h := gb) (by omega) (by omega) (hy7.mono s7b) (hyX7.mono s7b) hT hTX (hWd.near hG hGX (leave_nil hG (by omega)))
      simp only [rn0, rn1, rn2, rn3, rn4, rn5, rn6, rn7, rn8, if_true, if_false, Nat.le_refl, true_and, and_true, decide_true, decide_false, Bool.not_true, Bool.not_false, reduceIte, Nat.reduceEqDiff, Nat.reduceAdd, Nat.reduceMul, Nat.reduceSub, Nat.reduceLeDiff, Nat.reduceLT, hl0', (r17.mono s7b).whole (n := 5) rfl, (rX7.mono s7b).whole (n := 5) rfl, ec, hawb]
  · have ek' : ¬ (o : Int) = (S.nv : Int) := by omega
    have hov : o < S.nv := by omega
    obtain ⟨⟨v1, v2, v3⟩, _⟩ := hG.args.vat o hov
    have hwl : wrapF .i64 (S.nlo o - (q1 : Int)) = S.nlo o - (q1 : Int) := wrap_in (by omega) (by omega)
    have hwh : wrapF .i64 (S.nhi o + (q2 : Int)) = S.nhi o + (q2 : Int) := wrap_in (by omega) (by omega)
    obtain ⟨X, hX⟩ : ∃ X : MB, X = wideV S o q1 q2 := ⟨_, rfl⟩
    have hWd : Wide S X := by rw [hX]; exact wide_vat hG hov
    have hptr : ptrO (.slice (some ⟨pb, 0, none⟩) S.nv cap) 4 o 0 = .pointer (some ⟨pb, o * 4, none⟩) := by simp [ptrO]
    have hix := Cells.idx hvc hov
    rw [hptr] at hix
    have rp5 : Row g5 pb (vtL S) := ⟨_, _, p5⟩
    have lE : (vtL S)[o * 4]? = some (.int .i64 (S.nlo o)) := by have := flatL_get (s := 4) (m := S.nv) (c := vatC S) (k := o) (j := 0) hov (by omega); simpa [vtL, vatC] using this
    have lL : (vtL S)[o * 4 + 1]? = some (.int .i64 (S.nhi o)) := by have := flatL_get (s := 4) (m := S.nv) (c := vatC S) (k := o) (j := 1) hov (by omega); simpa [vtL, vatC] using this
    simp only [rn0, rn1, rn2, rn3, rn4, rn5, rn6, rn7, rn8, if_true, if_false, Nat.le_refl, true_and, and_true, decide_true, decide_false, Bool.not_true, Bool.not_false, reduceIte, Nat.reduceEqDiff, Nat.reduceAdd, Nat.reduceMul, Nat.reduceSub, Nat.reduceLeDiff, Nat.reduceLT, ek', r25.ld, beg, Nat.zero_add, hix]
    refine W_draw All ?_
    simp only [rn0, rn1, rn2, rn3, rn4, rn5, rn6, rn7, rn8, if_true, if_false, Nat.le_refl, true_and, and_true, decide_true, decide_false, Bool.not_true, Bool.not_false, reduceIte, Nat.reduceEqDiff, Nat.reduceAdd, Nat.reduceMul, Nat.reduceSub, Nat.reduceLeDiff, Nat.reduceLT, there_p, Nat.add_zero, rp5.ld, lE, lL, hwl, hwh, valN_tmp, valN_const, Nat.reduceLT]
    refine up_store (b := pb) (off := o * 4) (vs := [.int .i64 (max 0 (S.nlo o - (q1 : Int)))]) rfl p5 (by omega) (by omega) rfl rfl rfl (by show o * 4 + 1 ≤ (flatL 4 S.nv (vatC S)).length; rw [flatL_len]; omega) (fun _ _ => trivial) fun g6 hs6 => ?_
    have n6 := hs6.next
    have f6 := hs6.floor
    have e0 : ∀ c x, splice (flatL 4 S.nv c) (o * 4) [x] = flatL 4 S.nv fun k' j' => if k' = o ∧ j' = 0 then x else c k' j' := fun c x => flatL_set (k := o) (j := 0) hov (by omega)
    simp only [rn0, rn1, rn2, rn3, rn4, rn5, rn6, rn7, rn8, if_true, if_false, Nat.le_refl, true_and, and_true, decide_true, decide_false, Bool.not_true, Bool.not_false, reduceIte, Nat.reduceEqDiff, Nat.reduceAdd, Nat.reduceMul, Nat.reduceSub, Nat.reduceLeDiff, Nat.reduceLT, there_p]
    refine up_store (b := pb) (off := o * 4 + 1) (vs := [.int .i64 (min 9 (S.nhi o + (q2 : Int)))]) rfl hs6.get (by omega) (by omega) rfl rfl rfl (by show o * 4 + 1 + 1 ≤ (splice (flatL 4 S.nv (vatC S)) _ _).length; rw [e0, flatL_len]; omega) (fun _ _ => trivial) fun g7 hs7 => ?_
    have n7 := hs7.next
    have f7 := hs7.floor
    have p7 : g7.get pb = some (.row (vtL X) true gr) := by
      rw [hs7.get]
      unfold vtL
      rw [e0, flatL_set hov (by omega), hX]
      congr 2
      refine flat_congr (by omega) fun k j hk hj => ?_
      unfold vatC wideV
      by_cases ek : k = o
      · subst ek
        rcases j with _ | _ | _ | _ | j
        · simp
        · simp
        · simp
        · simp
        · omega
      · simp [ek]
    have old7 : ∀ i, i < g1.next → g7.get i = g1.get i := fun i hi => by rw [hs7.old i (by omega), hs6.old i (by omega), old5 i hi]
    have rX7 : Row g7 g1.next (beL X (.slice (some ⟨pb, 0, none⟩) S.nv cap) sv) := by
      rw [hX]
      exact ⟨true, 0, by rw [hs7.old _ (by omega), hs6.old _ (by omega)]; exact hs5.get⟩
    have hyX7 : BeatR g7 (.slice (some ⟨pb, 0, none⟩) S.nv cap) sv X := by
      have hc := vtL_cells (S := X) (g := g7) (b := pb) (cap := cap) ⟨_, _, p7⟩
      rw [hX] at hc ⊢
      exact ⟨hc, (hy1.mono (AHeap.subOf old7)).s⟩
    have hTX : ThinS X := by rw [hX]; exact hT
    clear hX p7
    have hy7 : BeatR g7 vv sv S := hy1.mono (AHeap.subOf old7)
    have r17 : Row g7 h.next (beL S vv sv) := r1.mono (AHeap.subOf old7)
    have erX := ready_c (n := n) (h := g7) (by omega) (by omega) hyX7
    have haw7 := awake_c (n := n) (h := g7) (by omega)
    by_cases hRX : Rdy X
    case neg => simp only [rn0, rn1, rn2, rn3, rn4, rn5, rn6, rn7, rn8, if_true, if_false, Nat.le_refl, true_and, and_true, decide_true, decide_false, Bool.not_true, Bool.not_false, reduceIte, Nat.reduceEqDiff, Nat.reduceAdd, Nat.reduceMul, Nat.reduceSub, Nat.reduceLeDiff, Nat.reduceLT, rX7.whole (n := 5) rfl, erX, hRX, haw7]
    have hdX : decide (Rdy X) = true := decide_eq_true hRX
    have hGX := good_of hRX.2
    obtain ⟨va, sa, g8, e8, hy8, old8, u8, m8, f8⟩ := beatL_c (n := n) (h := g7) (by omega) (by omega) (by omega) hy7 hT
    obtain ⟨l9, g9, e9, o9, u9, m9, f9, hL9⟩ := leaveP_c (n := n) (h := g8) (by omega) (by omega) (by omega) hy8 hT
    have s79 : Sub All g7 g9 := (AHeap.subOf old8).trans (AHeap.subOf o9)
    obtain ⟨vb, sb, ga, ea, hya, olda, ua, ma, fa⟩ := beatL_c (n := n) (h := g9) (by omega) (by omega) (by omega) (hyX7.mono s79) hTX
    obtain ⟨lb, gb, eb, ob, ub, mb, fb, hLb⟩ := leaveP_c (n := n) (h := ga) (by omega) (by omega) (by omega) hya hTX
    have s9b : Sub All g9 gb := (AHeap.subOf olda).trans (AHeap.subOf ob)
    have s7b := s79.trans s9b
    rcases hL9 with ⟨h0, _⟩ | ⟨_, l1, rfl, il1, _⟩
    · exact absurd hf h0
    rcases hLb with ⟨h0, _⟩ | ⟨_, l2, rfl, il2, _⟩
    · exact absurd hRX.2 h0
    have il1b := Cells.mono il1 s9b
    have hle := hWd.leave hG hGX
    have hle' : ¬ ((leaveS S).length : Int) < ((leaveS X).length : Int) := by omega
    have hawb := awake_c (n := n) (h := gb) (by omega)
    simp only [rn0, rn1, rn2, rn3, rn4, rn5, rn6, rn7, rn8, if_true, if_false, Nat.le_refl, true_and, and_true, decide_true, decide_false, Bool.not_true, Bool.not_false, reduceIte, Nat.reduceEqDiff, Nat.reduceAdd, Nat.reduceMul, Nat.reduceSub, Nat.reduceLeDiff, Nat.reduceLT, rX7.whole (n := 5) rfl, erX, hdX, r17.whole (n := 5) rfl, e8, e9, ex0, ex1, (rX7.mono s79).whole (n := 5) rfl, ea, eb, g_un, Cells.len il2, Cells.len il1b, gt_iff_lt, hle']
    by_cases hl0 : 0 < (leaveS S).length
    · have hl0' : (0 : Int) < ((leaveS S).length : Int) := by omega
      simp only [rn0, rn1, rn2, rn3, rn4, rn5, rn6, rn7, rn8, if_true, if_false, Nat.le_refl, true_and, and_true, decide_true, decide_false, Bool.not_true, Bool.not_false, reduceIte, Nat.reduceEqDiff, Nat.reduceAdd, Nat.reduceMul, Nat.reduceSub, Nat.reduceLeDiff, Nat.reduceLT, hl0', g_un, hawb]
    · have hl0' : ¬ (0 : Int) < ((leaveS S).length : Int) := by omega
      have ec := closer_c (n := n) (h := gb) (by omega) (by omega) (hy7.mono s7b) (hyX7.mono s7b) hT hTX (hWd.near hG hGX (leave_nil hG (by omega)))
      simp only [rn0, rn1, rn2, rn3, rn4, rn5, rn6, rn7, rn8, if_true, if_false, Nat.le_refl, true_and, and_true, decide_true, decide_false, Bool.not_true, Bool.not_false, reduceIte, Nat.reduceEqDiff, Nat.reduceAdd, Nat.reduceMul, Nat.reduceSub, Nat.reduceLeDiff, Nat.reduceLT, hl0', (r17.mono s7b).whole (n := 5) rfl, (rX7.mono s7b).whole (n := 5) rfl, ec, hawb]
end Go.Vm.Bt
