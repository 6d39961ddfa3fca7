/- Texts of the proofs of this seat, put together: BtC, BtBest, BtV4, BtMod, BtWrong, BtFirstP, BtSome, BtMin, BtLeaveP, BtLeaveQ, BtEnded, BtRefB, BtNth. -/
import Derived.Test.YtjihegbffhhcaaaPk10
import Derived.Test.YtjihegbffhhcaaaRows
import Derived.WalkKit
import Derived.ProofKit
import Derived.OpenShut

namespace Go.Vm.Bt
open Go.Vm.Vat Go.Vm.L2 Go.Proofs Go.ChangeShapes Go.WideShapes Go.ChangeAt Go.RowKit
set_option linter.unusedSimpArgs false
set_option linter.unusedVariables false
set_option maxRecDepth 10000
variable {n : Nat} {h : AHeap}
theorem own : ownKnob Try.prog.godebug = none := by kernel_rfl
theorem mixedOn : Try.prog.follows .mixedOrders = true := by kernel_rfl
theorem namesAll : (Try.prog.funcs.toList.all fun fn => !(fn.name == "runtime.NumGoroutine")) = true := by kernel_rfl
theorem namesFine : NamesFine Try.prog := by
  intro f fn hf
  have h := List.all_eq_true.1 namesAll fn (Array.mem_toList_iff.2 (Array.mem_of_getElem? hf))
  simpa using h
theorem tabOk : ∀ E ∈ BtAwake.tab, ∃ cf, SoundCF Try.prog cf ∧ entryOk cf E = true := by
  have hs := vm_sound namesFine mixedOn BtAwake.quiet 1000
  intro E hE
  refine ⟨_, hs, ?_⟩
  revert E
  simp only [BtAwake.tab, List.forall_mem_cons, List.not_mem_nil, false_implies, implies_true, and_true]
  exact ⟨BtAwake.ok0, BtAwake.ok1, BtAwake.ok2, BtAwake.ok3, BtAwake.ok4, BtAwake.ok5, BtAwake.ok6, BtAwake.ok7, BtAwake.ok8, BtAwake.ok9, BtAwake.ok10, BtAwake.ok11⟩
theorem kOk : KOk Try.prog K := by
  intro f v hK
  unfold K at hK
  split at hK
  · rename_i e
    subst e
    cases hK
    refine ⟨rfl, acallO Try.prog BtAwake.quiet BtAwake.tab 1000, ?_⟩
    have hm := BtAwake.main_ok
    cases hr : acallO Try.prog BtAwake.quiet BtAwake.tab 1000 (.func (.func 24) #[] #[]) [] AHeap.empty with
    | none => rw [hr] at hm; cases hm
    | some vh =>
      obtain ⟨v, h'⟩ := vh
      rw [hr] at hm
      unfold BtAwake.isTrue at hm
      split at hm
      · rename_i e
        cases e
        exact ⟨h', acallO_sound namesFine mixedOn BtAwake.quiet tabOk 1000, rfl⟩
      · cases hm
  · cases hK
theorem sound (n : Nat) : SoundCF Try.prog (call n) := pcall_sound namesFine mixedOn kOk n
theorem laidOk : laidOutB Try.prog = true := by kernel_rfl
theorem mapsOk : mapsRowed Try.prog = true := by kernel_rfl
theorem slicesOk : ((List.range Try.prog.types.size).all fun t => match Try.prog.underlying t with | some (.slice e) => decide (0 < Try.prog.cellsOf e) | _ => true) = true := by kernel_rfl
theorem kids : Kids Try.prog (· < Try.prog.types.size) := kids_rows laidOk mapsOk
theorem tsize : 120 < Try.prog.types.size := of_decide_eq_true (by kernel_rfl)
theorem agg_struct {P : Program} {w : World} {r : Reach} {b : Nat} {t : TypeId} {fs : Array Field} {v : Value} {cs : List Value} (ht : P.underlying t = some (.struct fs)) (ho : Value.okWide P w r b t v) (hc : v.cells.toList = cs) : v = .agg ⟨cs⟩ := by
  unfold Value.okWide at ho
  rw [ht] at ho
  obtain ⟨cs', rfl, _⟩ := ho
  subst hc
  rfl
theorem map_int {φ : Emb} {k : IntKind} {a : Int} : mapV φ (.int k a) = .int k a := by simp [mapV]
theorem stands_beat {w : World} {φ : Emb} {a b c : Int} {u1 u2 vv sv : Value} (h1 : Stands φ h u1 vv) (h2 : Stands φ h u2 sv) : mapV φ (.agg ⟨[.int .i64 a, .int .i64 b, u1, .int .i64 c, u2]⟩) = .agg ⟨[.int .i64 a, .int .i64 b, vv, .int .i64 c, sv]⟩ ∧ okV φ h.next (.agg ⟨[.int .i64 a, .int .i64 b, u1, .int .i64 c, u2]⟩) := by
  refine ⟨?_, ?_⟩
  · simp only [mapV, mapArr, mapL, h1.map, h2.map]
  · simp only [okV, okA, okL, and_true, true_and]
    exact ⟨h1.ok, h2.ok⟩
end Go.Vm.Bt

namespace Go.Vm.Bt
open Go.Proofs Go.Vm.Vat Go.Vm.L2
set_option linter.unusedSimpArgs false
set_option linter.unusedVariables false
set_option maxRecDepth 10000
variable {n : Nat} {h : AHeap}
def enL (S : MB) (c : Nat → Int) : List Value := (List.range S.nv).map fun v => .int .i64 (c v)
def chooseE (pw po pb pc : Nat) : Value := .func (.func 126) ⟨[]⟩ ⟨[.pointer (some ⟨pw, 0, none⟩), .pointer (some ⟨po, 0, none⟩), .pointer (some ⟨pb, 0, none⟩), .pointer (some ⟨pc, 0, none⟩)]⟩
structure BeS (S : MB) (vv sv tv : Value) (pw po pb pc pe B : Nat) (s : (Nat → Int) × Int) (c : Nat → Int) (g : AHeap) : Prop where
  o : OpS g vv sv tv S
  w : Row g pw (wkL S vv sv tv)
  cl : Row g pc [chooseE pw po pb pc]
  wo : g.get po = some (.row [.int .i64 s.2] true 0)
  be : ∃ bv, g.get pb = some (.row [bv] true 0) ∧ Ints g bv S.nv s.1 ∧ oneCell bv = true ∧ ∀ a k q, bv = .slice (some a) k q → a.block ≠ pe ∧ a.block ≠ po ∧ a.block ≠ pb
  e : g.get pe = some (.row (enL S c) true 0)
  fl : g.floor = B
  ne : pe ≠ po ∧ pe ≠ pb ∧ po ≠ pb ∧ B ≤ pe ∧ B ≤ po ∧ B ≤ pb ∧ pw ≠ pe ∧ pw ≠ po ∧ pw ≠ pb ∧ pc ≠ pe ∧ pc ≠ po ∧ pc ≠ pb
def ApartS (S : MB) (vv sv tv : Value) (x : Nat) : Prop := (0 < S.nv → NeB vv x) ∧ (0 < S.ns → NeB sv x) ∧ NeB tv x
theorem cells_keep {g g' : AHeap} {v : Value} {s m o : Nat} {c : Nat → Nat → Value} (hc : Cells g v s m c) (k : Keep o g g') (hb : 0 < m → NeB v o) : Cells g' v s m c := by
  by_cases h0 : m = 0
  · obtain ⟨a, cap, e, sp, _⟩ := hc
    exact ⟨a, cap, e, sp, .inl h0⟩
  · exact Cells.keep hc k fun a m c e => (hb (by omega) a m c e).symm
theorem OpS.set {g g' : AHeap} {vv sv tv : Value} {S : MB} {b gr : Nat} {cs : List Value} (ho : OpS g vv sv tv S) (hs : Set1 g g' b cs gr) (ha : ApartS S vv sv tv b) : OpS g' vv sv tv S := by
  have k := hs.keep
  exact ⟨ho.good, ho.some, ⟨cells_keep ho.y.v k ha.1, cells_keep ho.y.s k ha.2.1⟩, ho.one, Cells.keep ho.d k fun a m c e => (ha.2.2 a m c e).symm, ho.long⟩
end Go.Vm.Bt

namespace Go.Vm.Bt
open Go.Proofs Go.Vm.Vat Go.Vm.L2
set_option linter.unusedSimpArgs false
set_option linter.unusedVariables false
set_option maxRecDepth 10000
variable {n : Nat} {h : AHeap}
end Go.Vm.Bt

namespace Go.Vm.Bt
open Go.Proofs Go.Vm.Vat Go.Vm.L2
set_option linter.unusedSimpArgs false
set_option linter.unusedVariables false
set_option maxRecDepth 10000
variable {n : Nat} {h : AHeap}
end Go.Vm.Bt

namespace Go.Vm.Bt
open Go.Proofs Go.Vm.Vat Go.Vm.L2
set_option linter.unusedSimpArgs false
set_option linter.unusedVariables false
set_option maxRecDepth 10000
variable {n : Nat} {h : AHeap}
def wrS (S : MB) (t : Nat → Int) (i : Nat) : Prop := ¬ RightS S t i
noncomputable def wrongL (S : MB) (t : Nat → Int) : List Int := pickL (wrS S t) S.ns
def allE (S : MB) : List (Nat → Int) := enumB (uLo S) (uHi S) (numU S) 0 fun _ => 0
noncomputable def allW (S : MB) : List (List Int) := (allE S).map (wrongL S)
noncomputable def wrongStep (S : MB) (s : List (List Int)) (c : Nat → Int) : List (List Int) × Bool := (s ++ [wrongL S c], true)
theorem runL_wrong {S : MB} : ∀ (l : List (Nat → Int)) (s : List (List Int)), runL (wrongStep S) s l = (s ++ l.map (wrongL S), true)
  | [], s => by simp [runL]
  | x :: l, s => by
    have e : runL (wrongStep S) s (x :: l) = runL (wrongStep S) (s ++ [wrongL S x]) l := rfl
    rw [e, runL_wrong l]; simp
theorem wrong_len {S : MB} {t : Nat → Int} : (wrongL S t).length ≤ S.ns := pick_len _
def OwnB (h2 : AHeap) (p pw : Nat) (g : AHeap) (q : Nat) : Prop := (h2.next ≤ q ∨ q = pw) ∧ q ≠ p ∧ q ≠ h2.next + 1 ∧ ∀ v, g.get p = some (.row [v] true 0) → NeB v q
section
variable (u4 : Try.prog.underlying 4 = some .bool)
include u4
theorem isRight2_c (hn : 5 ≤ n) (hr : h.next + 5 < far) {S : MB} {u : Nat → Int} (hG : Good S) {k : Nat} (hk : k < S.ns) :
    ∃ r, (r = true ↔ RightS S u k) ∧ call n (.func (.func 112) #[] #[]) [.agg ⟨dn (doneS S u)⟩, .agg ⟨smL S k⟩] h = some (.bool r, h) := by
  obtain ⟨hvv, hsv, _⟩ := hG.samp hk
  refine ⟨decide (whenS u (S.sv k).toNat ≤ S.sh k) == S.sd k, beq_iff_eq, ?_⟩
  obtain ⟨n, rfl⟩ : ∃ p, n = p + 1 := ⟨n - 1, by omega⟩
  refine call_plain0 fok112 rfl rfl (by simp) rfl ?_
  have hr : h.shutAll.next + 5 < far := hr
  generalize h.shutAll = h at hr
  obtain ⟨_, _, z3, _⟩ := hG.sizes
  simp only [s112, W_seq, W_ops]
  refine ops_box (cs := dn (doneS S u)) (by omega) rfl dn_one fun g1 hx => ?_
  refine ops_box (cs := smL S k) (by rw [hx.next]; omega) rfl sm_one fun g2 hx2 => ?_
  have r1 := hx.row.mono hx2.sub
  have hi := idxArr_p (b := h.next) (o := 0) (show (S.sv k).toNat < 3 by omega)
  rw [hsv] at hi
  have hd : (dn (doneS S u))[(S.sv k).toNat]? = some (.int .i64 (whenS u (S.sv k).toNat)) := by rw [dn_get (by omega)]; simp [doneS, hvv]
  simp only [rn0, rn1, rn2, rn3, rn4, rn5, rn6, rn7, rn8, if_true, if_false, Nat.le_refl, true_and, and_true, decide_true, decide_false, Bool.not_true, Bool.not_false, reduceIte, Nat.reduceEqDiff, Nat.reduceAdd, Nat.reduceMul, Nat.reduceSub, Nat.reduceLeDiff, Nat.reduceLT]
  refine W_draw All ?_
  simp only [rn0, rn1, rn2, rn3, rn4, rn5, rn6, rn7, rn8, if_true, if_false, Nat.le_refl, true_and, and_true, decide_true, decide_false, Bool.not_true, Bool.not_false, reduceIte, Nat.reduceEqDiff, Nat.reduceAdd, Nat.reduceMul, Nat.reduceSub, Nat.reduceLeDiff, Nat.reduceLT, hx2.row.ld, smg, Nat.zero_add, hi, r1.ld, hd, eqV_int, eqV_bool, x_binA, binA_eqlB, p_eqlB u4, valN_tmp, Nat.reduceLT, rBB]
end
noncomputable def s100 : SCode := (.seq (.ops [⟨(some 1), none, .box (T 0)⟩, ⟨(some 2), none, .mov (.const (.slice none 0 0))⟩]) (.seq (.ops [⟨(some 3), none, .alloc [(.slice none 0 0)]⟩]) (.seq (.seq (.ops [⟨(some 9), none, .loadN 6 (T 1)⟩, ⟨(some 10), none, .call (.func 120) [(T 9)]⟩]) (.block 0 (.range (T 10) #[11] (rangeOf Try.f100 0).1 (rangeOf Try.f100 0).2))) (.seq (.ops [⟨(some 36), none, .load1 (T 3)⟩, ⟨(some 2), none, .mov (T 36)⟩]) .ret))))
theorem fok100 : FnOk Try.prog 100 37 s100 [.tmp 2] := ⟨Try.f100, _, Try.func100, rfl, Try.ntmps100, by kernel_rfl, by kernel_rfl⟩
def ra100_0 : SCode := (.ops [⟨(some 4), none, .alloc [(.int .i64 (0)), (.slice none 0 0)]⟩, ⟨none, none, .store 2 (T 4) (T 11)⟩])
theorem raok100_0 : compCode Try.prog 37 (rangeOf Try.f100 0).1 = some ra100_0 := by kernel_rfl
def rb100_0 : SCode := (.block 1 (.seq (.ops [⟨(some 5), none, .mov (.const (.slice none 0 0))⟩]) (.seq (.ops [⟨(some 12), none, .loadN 2 (T 4)⟩, ⟨(some 13), none, .call (.func 80) [(T 12)]⟩, ⟨(some 6), none, .alloc [(.int .i64 (0)), (.int .i64 (0)), (.int .i64 (0))]⟩, ⟨none, none, .store 3 (T 6) (T 13)⟩]) (.seq (.seq (.ops [⟨(some 14), none, .fieldAddr 0 (T 1)⟩, ⟨(some 15), none, .fieldAddr 4 (T 14)⟩, ⟨(some 16), none, .load1 (T 15)⟩, ⟨(some 17), none, .len (T 16)⟩, ⟨(some 18), none, .mov (.const (.int .i64 (0)))⟩]) (.block 2 (.loop (.seq (.ops [⟨(some 19), none, .int2 .lss (T 18) (T 17)⟩]) (.seq (.cond (T 19) .skip (.exit 2)) (.seq (.block 3 (.seq (.ops [⟨(some 20), none, .mov (T 18)⟩, ⟨(some 21), none, .idxSl 3 (T 16) (T 18)⟩, ⟨(some 22), none, .loadN 3 (T 21)⟩, ⟨(some 8), none, .alloc [(.int .i64 (0)), (.int .i64 (0)), (.bool false)]⟩, ⟨(some 7), none, .mov (T 20)⟩, ⟨none, none, .store 3 (T 8) (T 22)⟩]) (.seq (.ops [⟨(some 23), none, .loadN 3 (T 6)⟩, ⟨(some 24), none, .loadN 3 (T 8)⟩, ⟨(some 25), none, .call (.func 112) [(T 23), (T 24)]⟩, ⟨(some 26), none, .not (T 25)⟩]) (.cond (T 26) (.ops [⟨(some 27), none, .mov (T 5)⟩, ⟨(some 28), none, .mov (T 7)⟩, ⟨(some 29), none, .bslice 1 1 [(.int .i64 (0))] [0] [(T 28)]⟩, ⟨(some 30), none, .append 1 8 (T 27) (T 29)⟩, ⟨(some 5), none, .mov (T 30)⟩]) .skip)))) (.ops [⟨(some 31), none, .int2 .add (T 18) (.const (.int .i64 (1)))⟩, ⟨(some 18), none, .mov (T 31)⟩]))))))) (.ops [⟨(some 32), none, .load1 (T 3)⟩, ⟨(some 33), none, .mov (T 5)⟩, ⟨(some 34), none, .bslice 1 1 [(.slice none 0 0)] [0] [(T 33)]⟩, ⟨(some 35), none, .append 1 24 (T 32) (T 34)⟩, ⟨none, none, .store 1 (T 3) (T 35)⟩])))))
theorem rbok100_0 : compCode Try.prog 37 (rangeOf Try.f100 0).2 = some rb100_0 := by kernel_rfl
set_option maxHeartbeats 4000000 in
theorem wrongAll_c (hn : 500 ≤ n) (hr : h.next + 60000 < far) (hfl : h.floor ≤ h.next) {vv sv : Value} {S : MB} (hy : BeatR h vv sv S) (hG : Good S) :
    ∃ v h', call n (.func (.func 100) #[] #[]) [.agg ⟨wkL S vv sv nilS⟩] h = some (v, h') ∧ AllR h' v (allW S) ∧ oneCell v = true ∧ (∀ i, i < h.next → h'.get i = h.get i) ∧ h.next ≤ h'.next ∧ h'.next ≤ h.next + 50000 ∧ h'.floor = h.floor := by
  obtain ⟨n, rfl⟩ : ∃ p, n = p + 1 := ⟨n - 1, by omega⟩
  refine call_any0 fok100 rfl rfl (by simp) ?_
  have hlenE := enum_len hG
  have u4 : Try.prog.underlying 4 = some .bool := Try.underlying4
  obtain ⟨_, _, z3, z5, _⟩ := hG.sizes
  simp only [s100, W_seq, W_ops]
  refine ops_box (cs := wkL S vv sv nilS) (by omega) rfl (wk_one hy rfl) fun g1 hx1 => ?_
  have n1 := hx1.next
  have f1 := hx1.floor
  have e1 : g1.next = h.next + 1 := n1
  simp only [rn0, rn1, rn2, rn3, rn4, rn5, rn6, rn7, rn8, if_true, if_false, Nat.le_refl, true_and, and_true, decide_true, decide_false, Bool.not_true, Bool.not_false, reduceIte, Nat.reduceEqDiff, Nat.reduceAdd, Nat.reduceMul, Nat.reduceSub, Nat.reduceLeDiff, Nat.reduceLT]
  refine step_row (cs := [nilS]) (by omega) rfl rfl fun g2 hx2 => ?_
  have n2 := hx2.next
  have f2 := hx2.floor
  have e2 : g2.next = h.next + 2 := by omega
  have w2 := (hx1.row.mono hx2.sub).whole (n := 6) rfl
  have old2 : ∀ i, i < h.next → g2.get i = h.get i := fun i hi => by rw [hx2.old i (by omega), hx1.old i hi]
  obtain ⟨g4, e4, hx4⟩ := courses_c (n := n) (h := g2) (cs := wkL S vv sv nilS) (by omega) (by omega) (wk_one hy rfl) rfl
  have n4 := hx4.next
  have f4 := hx4.floor
  rw [e1]
  simp only [rn0, rn1, rn2, rn3, rn4, rn5, rn6, rn7, rn8, if_true, if_false, Nat.le_refl, true_and, and_true, decide_true, decide_false, Bool.not_true, Bool.not_false, reduceIte, Nat.reduceEqDiff, Nat.reduceAdd, Nat.reduceMul, Nat.reduceSub, Nat.reduceLeDiff, Nat.reduceLT, w2, e4]
  refine W_range' rfl (by omega) (by simp only [rn0, rn1, rn2, rn3, rn4, rn5, rn6, rn7, rn8, if_true, if_false, Nat.le_refl, true_and, and_true, decide_true, decide_false, Bool.not_true, Bool.not_false, reduceIte, Nat.reduceEqDiff, Nat.reduceAdd, Nat.reduceMul, Nat.reduceSub, Nat.reduceLeDiff, Nat.reduceLT]; rfl) fun f0 hf0 ts hv h2 hl => ?_
  have c1 : f0 1 = .pointer (some ⟨h.next, 0, none⟩) := by rw [hf0]; simp only [rn0, rn1, rn2, rn3, rn4, rn5, rn6, rn7, rn8, if_true, if_false, Nat.le_refl, true_and, and_true, decide_true, decide_false, Bool.not_true, Bool.not_false, reduceIte, Nat.reduceEqDiff, Nat.reduceAdd, Nat.reduceMul, Nat.reduceSub, Nat.reduceLeDiff, Nat.reduceLT]
  have c3 : f0 3 = .pointer (some ⟨h.next + 1, 0, none⟩) := by rw [hf0]; simp only [rn0, rn1, rn2, rn3, rn4, rn5, rn6, rn7, rn8, if_true, if_false, Nat.le_refl, true_and, and_true, decide_true, decide_false, Bool.not_true, Bool.not_false, reduceIte, Nat.reduceEqDiff, Nat.reduceAdd, Nat.reduceMul, Nat.reduceSub, Nat.reduceLeDiff, Nat.reduceLT]
  clear hf0
  have nl := hl.next
  have fl := hl.floor
  have en : g4.next = h.next + 3 := by omega
  have hbase : ∀ i, i < h.next → h2.get i = h.get i := fun i hi => by rw [hl.old i (by omega), hx4.old i (by omega), old2 i hi]
  have hp2 : h2.get (h.next + 1) = some (.row [nilS] true 0) := by
    rw [hl.old _ (by omega), hx4.old _ (by omega)]; have := hx2.get; rw [e1] at this; exact this
  have hw2 : h2.get h.next = some (.row (wkL S vv sv nilS) true 0) := by
    rw [hl.old _ (by omega), hx4.old _ (by omega), hx2.old _ (by omega)]; exact hx1.get
  have hpw : Row h2 (h.next + 2) (wkL S vv sv nilS) := by
    have := hx4.row.mono hl.sub
    rw [e2] at this
    exact this
  have hloop := hl.loop
  have hmark := hl.mark
  rw [en] at hloop hmark
  rw [en]
  rw [en] at hl
  generalize hr0 : loopO _ ts _ _ _ _ = r at hloop ⊢
  have r1 : r.state = .ready := by rw [← hr0]; rfl
  have r2 : View 37 r.tmps f0 := by rw [← hr0]; exact hv
  have r3 : r.params = #[11] := by rw [← hr0]; rfl
  have r4 : compCode Try.prog 37 r.assign = some ra100_0 := by rw [← hr0]; exact raok100_0
  have r5 : compCode Try.prog 37 r.body = some rb100_0 := by rw [← hr0]; exact rbok100_0
  have r6 : leftBy r .norm = r := by rw [← hr0]; rfl
  clear hr0 hl hv
  have en2 : h2.next = h.next + 5 := by omega
  have hit := iter_c (Own := OwnB h2 (h.next + 1) (h.next + 2)) (wrongStep S) (JW h2 (h.next + 1)) (g := h2) (pw := h.next + 2) (K := 210) (N0 := 300) (n := n) (tv := nilS) (yv := .func (.yield (h.next + 4)) #[] #[]) [] hG hpw rfl (by simp [eqV, eqCell]) (by omega) (by omega) (by omega)
    (fun g' q hq => hq.2.2.1)
    (fun s g' hj => hy.mono (AHeap.subOf fun i hi => by rw [hj.old i (by omega) (by omega), hbase i hi]))
    (fun s g1 g' cs hj hs => by
      obtain ⟨v, R, t1, t2⟩ := hj.tv
      have hnx := hs.next
      exact ⟨fun i hi hne => by rw [hs.old i (by omega)]; exact hj.old i hi hne, ⟨v, R, by rw [hs.old _ (by omega)]; exact t1, t2.old (fun i hi _ => hs.old i (by omega)) (by omega)⟩, by have := hj.up; omega, by have := hj.len; omega⟩)
    (fun s g1 g' hj hx => by
      obtain ⟨v, R, t1, t2⟩ := hj.tv
      have := hj.up
      have hnx := hx.up
      exact ⟨fun i hi hne => by rw [hx.old i (by omega)]; exact hj.old i hi hne, ⟨v, R, by rw [hx.old _ (by omega)]; exact t1, t2.old (fun i hi h => hx.old i h) (by omega)⟩, by omega, by have := hj.len; omega⟩)
    (fun s g1 g' cs q hj hs ho => ⟨ho.1, ho.2.1, ho.2.2.1, fun v e => ho.2.2.2 v (by rw [← hs.old _ (by omega)]; exact e)⟩)
    (fun s g1 g' q hj hx ho => ⟨ho.1, ho.2.1, ho.2.2.1, fun v e => ho.2.2.2 v (by rw [← hx.old _ (by have := hj.up; omega)]; exact e)⟩)
    (fun g' ho hfg hup => ⟨⟨fun i hi _ => ho i hi, ⟨nilS, _, by rw [ho _ (by omega)]; exact hp2, .nil⟩, by omega, Nat.zero_le _⟩, ⟨.inr rfl, by omega, by omega, fun v e => by
      rw [ho _ (by omega), hp2] at e
      simp only [Option.some.injEq, AObj.row.injEq, and_true, List.cons.injEq] at e
      subst e
      intro b m c e'
      cases e'⟩, fun q hq _ hne => ⟨.inl hq, by omega, hne, fun v e => by
      rw [ho _ (by omega), hp2] at e
      simp only [Option.some.injEq, AObj.row.injEq, and_true, List.cons.injEq] at e
      subst e
      intro b m c e'
      cases e'⟩⟩)
    (fun m g1 s c cw pn py pc hm it hb hok hj hcw how hfg hr1 => by
      obtain ⟨m, rfl⟩ : ∃ p, m = p + 1 := ⟨m - 1, by omega⟩
      rw [call_yield]
      obtain ⟨v, R, hp, gr⟩ := hj.tv
      have hup := hj.up
      have hlen := hj.len
      have hloop1 : g1.get (h.next + 4) = some (.loop r) := by rw [hj.old _ (by omega) (by omega)]; exact hloop
      have hpb := AHeap.lt_of_get hb
      suffices key : ∃ e g', roundA Try.prog (call m) m (h.next + 4) [.agg ⟨coL (c 0) cw⟩] g1 = some (.bool (goesOn e), g') ∧ (e = .norm ∧ JW h2 (h.next + 1) (wrongStep S s c).1 g' ∧ (∀ q, q ≠ h.next + 1 → q ≠ h.next + 4 → q < g1.next → NeB v q → g'.get q = g1.get q) ∧ (∃ v', g'.get (h.next + 1) = some (.row [v'] true 0) ∧ ∀ q, q < g1.next → NeB v q → NeB v' q) ∧ g'.floor = h2.floor ∧ g1.next ≤ g'.next ∧ g'.next ≤ g1.next + 200) by
        obtain ⟨e, g', k1, rfl, k2, k3, ⟨v', k4, k5⟩, k6, k7, k8⟩ := key
        refine ⟨g', k1, k2, fun q cs hq ho => ?_, by rw [k3 _ (by omega) (by omega) hpb (neB_of gr.c (by left; omega))]; exact hb, k6, k7, by omega⟩
        obtain ⟨o1, o2, o3, o4⟩ := ho
        have hlt : q < g1.next := by obtain ⟨w, gr, e⟩ := hq; exact AHeap.lt_of_get e
        have hne := o4 v hp
        refine ⟨by obtain ⟨w, gr, e⟩ := hq; exact ⟨w, gr, by rw [k3 q o2 (by omega) hlt hne]; exact e⟩, o1, o2, o3, fun v2 e => ?_⟩
        rw [k4] at e
        simp only [Option.some.injEq, AObj.row.injEq, and_true, List.cons.injEq] at e
        subst e
        exact k5 q hlt hne
      refine round_run (f := f0) hloop1 r1 r2 (by rw [r3]; rfl) (by omega) r4 r5 ?_
      have hset : setFr f0 r.params.toList [.agg ⟨coL (c 0) cw⟩] = upd f0 11 (.agg ⟨coL (c 0) cw⟩) := by rw [r3]; rfl
      rw [hset]
      simp only [rn0, rn1, rn2, rn3, rn4, rn5, rn6, rn7, rn8, if_true, if_false, Nat.le_refl, true_and, and_true, decide_true, decide_false, Bool.not_true, Bool.not_false, reduceIte, Nat.reduceEqDiff, Nat.reduceAdd, Nat.reduceMul, Nat.reduceSub, Nat.reduceLeDiff, Nat.reduceLT, ra100_0]
      refine step_new (vs := coL (c 0) cw) (by omega) (by omega) rfl (by simp only [rn0, rn1, rn2, rn3, rn4, rn5, rn6, rn7, rn8, if_true, if_false, Nat.le_refl, true_and, and_true, decide_true, decide_false, Bool.not_true, Bool.not_false, reduceIte, Nat.reduceEqDiff, Nat.reduceAdd, Nat.reduceMul, Nat.reduceSub, Nat.reduceLeDiff, Nat.reduceLT]; rfl) (by simp [coL, allB, one_int, how]) rfl rfl fun g2 hx2 => ?_
      have n2 := hx2.next
      have f2 := hx2.floor
      simp only [rn0, rn1, rn2, rn3, rn4, rn5, rn6, rn7, rn8, if_true, if_false, Nat.le_refl, true_and, and_true, decide_true, decide_false, Bool.not_true, Bool.not_false, reduceIte, Nat.reduceEqDiff, Nat.reduceAdd, Nat.reduceMul, Nat.reduceSub, Nat.reduceLeDiff, Nat.reduceLT]
      refine ⟨by rw [hx2.old _ (by omega)]; exact hloop1, by omega, fun g3 hp3 => ?_⟩
      have n3 := hp3.next
      have f3 := hp3.floor
      have g3old : ∀ i, i < g1.next → i ≠ h.next + 4 → g3.get i = g1.get i := fun i hi hne => by rw [hp3.old i hne, hx2.old i hi]
      have g3b : ∀ i, i < h.next → g3.get i = h.get i := fun i hi => by rw [g3old i (by omega) (by omega), hj.old i (by omega) (by omega), hbase i hi]
      have hy3 := hy.mono (AHeap.subOf g3b)
      have hp3' : g3.get (h.next + 1) = some (.row [v] true 0) := by rw [g3old _ (by omega) (by omega)]; exact hp
      have rw3 : Row g3 h.next (wkL S vv sv nilS) := ⟨true, 0, by rw [g3old _ (by omega) (by omega), hj.old _ (by omega) (by omega)]; exact hw2⟩
      have rc3 : Row g3 g1.next (coL (c 0) cw) := by
        obtain ⟨w, gr, e⟩ := hx2.row
        exact ⟨w, gr, by rw [hp3.old _ (by omega)]; exact e⟩
      have hcu : InU S c := fun i hi => hok.1 i hi
      have l3 : g3.get (h.next + 4) = some (.loop { r with state := .busy }) := hp3.get
      have hcw3 : CouR g3 cw S c := by
        obtain ⟨a', cap', e', sp, hz | ⟨b, o, cs, w, gr', e2', e3', e4'⟩⟩ := hcw
        · exact ⟨a', cap', e', sp, .inl hz⟩
        · refine ⟨a', cap', e', sp, .inr ⟨b, o, cs, w, gr', e2', ?_, e4'⟩⟩
          rw [g3old b (AHeap.lt_of_get e3') (by rintro rfl; rw [hloop1] at e3'; cases e3')]
          exact e3'
      have edn := done_c (n := m) (h := g3) (by omega) (by omega) hcw3 hG hcu
      simp only [rn0, rn1, rn2, rn3, rn4, rn5, rn6, rn7, rn8, if_true, if_false, Nat.le_refl, true_and, and_true, decide_true, decide_false, Bool.not_true, Bool.not_false, reduceIte, Nat.reduceEqDiff, Nat.reduceAdd, Nat.reduceMul, Nat.reduceSub, Nat.reduceLeDiff, Nat.reduceLT, rb100_0, c1, c3, rc3.whole (n := 2) rfl, edn]
      refine step_new (vs := dn (doneS S c)) (by omega) (by omega) rfl (by simp only [rn0, rn1, rn2, rn3, rn4, rn5, rn6, rn7, rn8, if_true, if_false, Nat.le_refl, true_and, and_true, decide_true, decide_false, Bool.not_true, Bool.not_false, reduceIte, Nat.reduceEqDiff, Nat.reduceAdd, Nat.reduceMul, Nat.reduceSub, Nat.reduceLeDiff, Nat.reduceLT]; rfl) dn_one dn_len rfl fun g4 hx4 => ?_
      have n4 := hx4.next
      have f4 := hx4.floor
      have rw4 := rw3.mono hx4.sub
      have hy4 := hy3.mono hx4.sub
      have rd4 := hx4.row
      simp only [rn0, rn1, rn2, rn3, rn4, rn5, rn6, rn7, rn8, if_true, if_false, Nat.le_refl, true_and, and_true, decide_true, decide_false, Bool.not_true, Bool.not_false, reduceIte, Nat.reduceEqDiff, Nat.reduceAdd, Nat.reduceMul, Nat.reduceSub, Nat.reduceLeDiff, Nat.reduceLT, c1, c3, rw4.ld, wkg, Nat.zero_add, Nat.add_zero, Cells.len hy4.s]
      refine W_loop S.ns (fun k f g ms => (∃ x, (∀ i, i < g4.next → g.get i = g4.get i) ∧ g.floor = g4.floor ∧ g4.next ≤ g.next ∧ g.next ≤ g4.next + 3 * k ∧ GrowC g4.next g x 1 (pickL (wrS S c) k).length (fun i _ => .int .i64 (atL (pickL (wrS S c) k) i)) ∧ f 5 = x) ∧ ms = [] ∧ f 1 = .pointer (some ⟨h.next, 0, none⟩) ∧ f 3 = .pointer (some ⟨h.next + 1, 0, none⟩) ∧ f 4 = .pointer (some ⟨g1.next, 0, none⟩) ∧ f 6 = .pointer (some ⟨g3.next, 0, none⟩) ∧ f 16 = sv ∧ f 17 = .int .i64 (S.ns : Int) ∧ f 18 = .int .i64 (k : Int)) (by simp; omega) ?_ ?_ ?_
      · simp only [rn0, rn1, rn2, rn3, rn4, rn5, rn6, rn7, rn8, if_true, if_false, Nat.le_refl, true_and, and_true, decide_true, decide_false, Bool.not_true, Bool.not_false, reduceIte, Nat.reduceEqDiff, Nat.reduceAdd, Nat.reduceMul, Nat.reduceSub, Nat.reduceLeDiff, Nat.reduceLT, c1, c3, Int.natCast_zero]
        first | exact ⟨⟨nilS, fun _ _ => trivial, by omega, .nil, rfl⟩, rfl⟩ | exact ⟨⟨nilS, fun _ _ => rfl, rfl, by omega, by omega, .nil, rfl⟩, rfl⟩ | exact ⟨nilS, fun _ _ => trivial, by omega, .nil, rfl⟩ | exact ⟨nilS, fun _ _ => trivial, .nil, rfl⟩
      · rintro k f g ms hk ⟨⟨x, ho, hfg', hup', hnx, gv, p5⟩, rfl, p1, p3, p4, p6, p16, p17, p18⟩
        have hk' : (k : Int) < (S.ns : Int) := by omega
        have hw : wrapF .i64 ((k : Int) + 1) = ((k + 1 : Nat) : Int) := by rw [wrap_in (by omega) (by omega)]; rfl
        have sg : Sub All g4 g := AHeap.subOf ho
        have hyg := hy4.mono sg
        have hlk := pick_len (p := wrS S c) k
        simp only [rn0, rn1, rn2, rn3, rn4, rn5, rn6, rn7, rn8, if_true, if_false, Nat.le_refl, true_and, and_true, decide_true, decide_false, Bool.not_true, Bool.not_false, reduceIte, Nat.reduceEqDiff, Nat.reduceAdd, Nat.reduceMul, Nat.reduceSub, Nat.reduceLeDiff, Nat.reduceLT, p1, p3, p4, p5, p6, p16, p17, p18, hk', Cells.idx hyg.s hk, samp_ld hyg hk]
        refine step_row (cs := [.int .i64 0, .int .i64 0, .bool false]) (by omega) rfl rfl fun ga hxa => ?_
        have na := hxa.next
        have fa := hxa.floor
        simp only [rn0, rn1, rn2, rn3, rn4, rn5, rn6, rn7, rn8, if_true, if_false, Nat.le_refl, true_and, and_true, decide_true, decide_false, Bool.not_true, Bool.not_false, reduceIte, Nat.reduceEqDiff, Nat.reduceAdd, Nat.reduceMul, Nat.reduceSub, Nat.reduceLeDiff, Nat.reduceLT, p1, p3, p4, p5, p6, p16, p17, p18]
        refine step_store (b := g.next) (off := 0) (vs := smL S k) rfl hxa.get (by omega) (by omega) rfl rfl rfl (by simp) fun gb hsb => ?_
        rw [splice_all (by rfl)] at hsb
        have nb := hsb.next
        have fb := hsb.floor
        have oldb : ∀ i, i < g.next → gb.get i = g.get i := fun i hi => by rw [hsb.old i (by omega), hxa.old i hi]
        have subb : Sub All g gb := AHeap.subOf oldb
        have rdb := (rd4.mono sg).mono subb
        obtain ⟨ri, hri, ei⟩ := isRight2_c u4 (n := m) (h := gb) (u := c) (k := k) (by omega) (by omega) hG hk
        have gvb : GrowC g4.next gb x 1 (pickL (wrS S c) k).length (fun i _ => .int .i64 (atL (pickL (wrS S c) k) i)) := GrowC.at' gv fun a k c e => oldb _ (gv.block e).2
        by_cases hR : RightS S c k
        · have hp0 : pickL (wrS S c) (k + 1) = pickL (wrS S c) k := pick_no fun q => q hR
          simp only [rn0, rn1, rn2, rn3, rn4, rn5, rn6, rn7, rn8, if_true, if_false, Nat.le_refl, true_and, and_true, decide_true, decide_false, Bool.not_true, Bool.not_false, reduceIte, Nat.reduceEqDiff, Nat.reduceAdd, Nat.reduceMul, Nat.reduceSub, Nat.reduceLeDiff, Nat.reduceLT, p1, p3, p4, p5, p6, p16, p17, p18, rdb.whole (n := 3) dn_len, hsb.row.whole (n := 3) rfl, ei, hri.2 hR, hw]
          rw [hp0]
          have hfin := And.intro (fun i (hi : i < g4.next) => (by rw [oldb i (by omega), ho i hi] : gb.get i = g4.get i)) (And.intro (by omega : gb.floor = g4.floor) (And.intro (by omega : g4.next ≤ gb.next) (And.intro (by omega : gb.next ≤ g4.next + 3 * (k + 1)) (And.intro gvb (rfl : x = x)))))
          first | exact ⟨x, hfin⟩ | exact ⟨⟨x, hfin⟩, rfl⟩
        · have hp1 : pickL (wrS S c) (k + 1) = pickL (wrS S c) k ++ [(k : Int)] := pick_yes hR
          have hrf : ri = false := Bool.eq_false_iff.2 fun q => hR (hri.1 q)
          simp only [rn0, rn1, rn2, rn3, rn4, rn5, rn6, rn7, rn8, if_true, if_false, Nat.le_refl, true_and, and_true, decide_true, decide_false, Bool.not_true, Bool.not_false, reduceIte, Nat.reduceEqDiff, Nat.reduceAdd, Nat.reduceMul, Nat.reduceSub, Nat.reduceLeDiff, Nat.reduceLT, p1, p3, p4, p5, p6, p16, p17, p18, rdb.whole (n := 3) dn_len, hsb.row.whole (n := 3) rfl, ei, hrf, sl_int]
          refine step_slice (by omega) rfl fun gc hxc => ?_
          have nc := hxc.next
          have fc := hxc.floor
          have gvc : GrowC g4.next gc x 1 (pickL (wrS S c) k).length (fun i _ => .int .i64 (atL (pickL (wrS S c) (k + 1)) i)) := (gvb.sub hxc.sub).congr fun i j hi hj => by rw [hp1, at_append hi]
          obtain ⟨x', gd, ed, evd, gvd, hkd⟩ := gvc.append (bytes := 8) (cap := 1) (by omega) (by omega) (by omega) hxc.get rfl rfl (fun j hj => by
            obtain rfl : j = 0 := by omega
            rw [hp1, at_last]; rfl) (by simp [maxBytes]; omega) (by simp [maxBytes]; omega)
          have nd := hkd.next
          have fd := hkd.floor
          have hlen1 : (pickL (wrS S c) (k + 1)).length = (pickL (wrS S c) k).length + 1 := by rw [hp1, List.length_append, List.length_singleton]
          simp only [rn0, rn1, rn2, rn3, rn4, rn5, rn6, rn7, rn8, if_true, if_false, Nat.le_refl, true_and, and_true, decide_true, decide_false, Bool.not_true, Bool.not_false, reduceIte, Nat.reduceEqDiff, Nat.reduceAdd, Nat.reduceMul, Nat.reduceSub, Nat.reduceLeDiff, Nat.reduceLT, p1, p3, p4, p5, p6, p16, p17, p18, ed, hw]
          rw [hlen1]
          have hfin := And.intro (fun i (hi : i < g4.next) => (by rw [hkd.old i (by omega) fun bb kk qq e => by have := (gvc.block e).1; omega, hxc.old i (by omega), oldb i (by omega), ho i hi] : gd.get i = g4.get i)) (And.intro (by omega : gd.floor = g4.floor) (And.intro (by omega : g4.next ≤ gd.next) (And.intro (by omega : gd.next ≤ g4.next + 3 * (k + 1)) (And.intro gvd (rfl : x' = x')))))
          first | exact ⟨x', hfin⟩ | exact ⟨⟨x', hfin⟩, rfl⟩
      · rintro f g ms ⟨⟨x, ho, hfg', hup', hnx, gv, p5⟩, rfl, p1, p3, p4, p6, p16, p17, p18⟩
        have hq3 : g.get (h.next + 1) = some (.row [v] true 0) := by rw [ho _ (by omega), hx4.old _ (by omega)]; exact hp3'
        have rq3 : Row g (h.next + 1) [v] := ⟨_, _, hq3⟩
        have lg : g.get (h.next + 4) = some (.loop { r with state := .busy }) := by rw [ho _ (by omega), hx4.old _ (by omega)]; exact l3
        have xone := gv.one
        have wrg : WrG (h2.next + 2) g v s R := gr.old (fun i h1 h2 => by rw [ho i (by omega), hx4.old i (by omega), g3old i h2 (by omega)]) (by omega)
        simp only [rn0, rn1, rn2, rn3, rn4, rn5, rn6, rn7, rn8, if_true, if_false, Nat.le_refl, true_and, and_true, decide_true, decide_false, Bool.not_true, Bool.not_false, reduceIte, Nat.reduceEqDiff, Nat.reduceAdd, Nat.reduceMul, Nat.reduceSub, Nat.reduceLeDiff, Nat.reduceLT, p1, p3, p4, p5, p6, p16, p17, p18, Int.lt_irrefl, rq3.ld, Nat.zero_add, List.getElem?_cons_zero, sl_list xone]
        refine step_slice (by omega) (by simp [allB, xone]) fun ga hxa => ?_
        have na := hxa.next
        have fa := hxa.floor
        obtain ⟨v', gb, eb, wrb, ob, evb, nb, fb, oldb⟩ := wrg.push (w := wrongL S c) (by omega) (by omega) (by omega) hxa gv.cells xone (fun y k q e => by
          have := gv.block e
          exact ⟨by omega, by omega, neB_of gr.c (by right; omega)⟩) (by have := hj.len; omega)
        have neP : NeB v (h.next + 1) := neB_of gr.c (by left; omega)
        have neL : NeB v (h.next + 4) := neB_of gr.c (by left; omega)
        simp only [rn0, rn1, rn2, rn3, rn4, rn5, rn6, rn7, rn8, if_true, if_false, Nat.le_refl, true_and, and_true, decide_true, decide_false, Bool.not_true, Bool.not_false, reduceIte, Nat.reduceEqDiff, Nat.reduceAdd, Nat.reduceMul, Nat.reduceSub, Nat.reduceLeDiff, Nat.reduceLT, p1, p3, p4, p5, p6, p16, p17, p18, eb]
        refine step_store (b := h.next + 1) (off := 0) (vs := [v']) (by rfl) (by rw [oldb _ (by omega) neP]; exact hq3) (by omega) (by omega) (by rw [evb]; rfl) (by rw [evb]; rfl) rfl (by simp) fun g6 hs6 => ?_
        rw [splice1] at hs6
        have n6 := hs6.next
        have f6 := hs6.floor
        simp only [rn0, rn1, rn2, rn3, rn4, rn5, rn6, rn7, rn8, if_true, if_false, Nat.le_refl, true_and, and_true, decide_true, decide_false, Bool.not_true, Bool.not_false, reduceIte, Nat.reduceEqDiff, Nat.reduceAdd, Nat.reduceMul, Nat.reduceSub, Nat.reduceLeDiff, Nat.reduceLT]
        refine ⟨by rw [hs6.old _ (by omega), oldb _ (by omega) neL]; exact lg, by omega, by omega, fun g7 hp7 => ⟨?_, ?_, ?_, by rw [hp7.floor]; omega, by rw [hp7.next]; omega, by rw [hp7.next]; omega⟩⟩
        · have n7 := hp7.next
          have hst : (wrongStep S s c).1 = s ++ [wrongL S c] := rfl
          rw [hst]
          have old6 : ∀ i, i < g1.next → i ≠ h.next + 1 → i ≠ h.next + 4 → NeB v i → g6.get i = g1.get i := fun i hi a1 a2 hne => by rw [hs6.old i a1, oldb i (by omega) hne, ho i (by omega), hx4.old i (by omega), g3old i hi a2]
          refine ⟨fun i hi hne => ?_, ⟨v', _, ?_, wrb.old (fun i h1 h2 => by rw [hp7.old i (by omega), hs6.old i (by omega)]) (by omega)⟩, by omega, by rw [List.length_append, List.length_singleton]; omega⟩
          · by_cases e : i = h.next + 4
            · subst e; rw [hp7.get, r6, ← hj.old _ hi hne]; exact hloop1.symm
            · rw [hp7.old i e, old6 i (by omega) hne e (neB_of gr.c (by left; omega))]; exact hj.old i hi hne
          · rw [hp7.old _ (by omega)]; exact hs6.get
        · intro i hi1 hi4 hlt hne
          rw [hp7.old i hi4, hs6.old i hi1, oldb i (by omega) hne, ho i (by omega), hx4.old i (by omega), g3old i hlt hi4]
        · refine ⟨v', by rw [hp7.old _ (by omega)]; exact hs6.get, fun q hq _ b m c' e => ?_⟩
          rw [evb] at e
          cases e
          show q ≠ g.next + 1
          omega)
    (by omega)
  obtain ⟨v5, g5, e5, j5, fl5, u5, n5⟩ := hit
  rw [runL_wrong] at j5
  simp only [List.nil_append] at j5
  change JW h2 (h.next + 1) (allW S) g5 at j5
  obtain ⟨v, R, t1, t2⟩ := j5.tv
  have hup := j5.up
  refine ⟨v5, g5, .norm, by rw [e2]; exact e5, by omega, by omega, by rw [r6, j5.old _ (by omega) (by omega)]; exact hloop, fun g6 hp6 => ?_⟩
  have n6 := hp6.next
  have f6 := hp6.floor
  have t6 : Row g6 (h.next + 1) [v] := ⟨true, 0, by rw [hp6.old _ (by omega)]; exact t1⟩
  have m6 : g6.get (h.next + 3) = some .deferred := by rw [hp6.old _ (by omega), j5.old _ (by omega) (by omega)]; exact hmark
  simp only [rn0, rn1, rn2, rn3, rn4, rn5, rn6, rn7, rn8, if_true, if_false, Nat.le_refl, true_and, and_true, decide_true, decide_false, Bool.not_true, Bool.not_false, reduceIte, Nat.reduceEqDiff, Nat.reduceAdd, Nat.reduceMul, Nat.reduceSub, Nat.reduceLeDiff, Nat.reduceLT, c3, t6.ld, Nat.zero_add, List.getElem?_cons_zero]
  refine ret_mark (.inr rfl) m6 (by omega) (by omega) fun g8 hp8 => ?_
  have n8 := hp8.next
  have f8 := hp8.floor
  have t8 : WrG (h2.next + 2) g8 v (allW S) R := t2.old (fun i h1 h2 => by rw [hp8.old i (by omega), hp6.old i (by omega)]) (by omega)
  simp only [rn0, rn1, rn2, rn3, rn4, rn5, rn6, rn7, rn8, if_true, if_false, Nat.le_refl, true_and, and_true, decide_true, decide_false, Bool.not_true, Bool.not_false, reduceIte, Nat.reduceEqDiff, Nat.reduceAdd, Nat.reduceMul, Nat.reduceSub, Nat.reduceLeDiff, Nat.reduceLT]
  refine ⟨⟨R, t8.c.cells, fun k hk => (t8.r k hk).1⟩, t8.c.one, fun i hi => ?_, by omega, by omega, by omega⟩
  rw [hp8.old i (by omega), hp6.old i (by omega), j5.old i (by omega) (by omega), hbase i hi]
end Go.Vm.Bt

namespace Go.Vm.Bt
open Go.Proofs Go.Vm.Vat Go.Vm.L2
set_option linter.unusedSimpArgs false
set_option linter.unusedVariables false
set_option maxRecDepth 10000
variable {n : Nat} {h : AHeap}
theorem allE_mem {S : MB} {c : Nat → Int} : c ∈ allE S ↔ InU S c ∧ ∀ j, numU S ≤ j → c j = 0 := by
  unfold allE
  rw [enumB_ok, Nat.zero_add]
  constructor
  · rintro ⟨h1, h2⟩; exact ⟨fun i hi => h1 i (Nat.zero_le _) hi, fun j hj => h2 j (.inr hj)⟩
  · rintro ⟨h1, h2⟩; exact ⟨fun i _ hi => h1 i hi, fun j hj => h2 j (by omega)⟩
theorem allE_ne {S : MB} (hG : Good S) : allE S ≠ [] := fun e => by
  have : nthU S 0 ∈ allE S := allE_mem.2 ⟨nthU_in hG, fun j hj => nthU_out hj⟩
  rw [e] at this; cases this
def blkS (S : MB) (k : Nat) : Prop := ∀ t, t ∈ allE S → ∃ i, i ≤ k ∧ i < S.ns ∧ wrS S t i
noncomputable def firstF (S : MB) : Option Nat := fstP (blkS S) S.ns
noncomputable def firstV (S : MB) : Int := if faultS S = 0 then optI (firstF S) 0 else 0
noncomputable def firstE (S : MB) : Int := if faultS S = 0 then (if firstF S = none then 7 else 0) else faultS S
theorem allW_at {S : MB} {j : Nat} (hj : j < (allW S).length) : ∃ t, t ∈ allE S ∧ (allW S).getD j [] = wrongL S t := by
  have hm : (allW S).getD j [] ∈ allW S := by
    rw [List.getD_eq_getElem?_getD, List.getElem?_eq_getElem hj]
    exact List.getElem_mem hj
  obtain ⟨t, ht, e⟩ := List.mem_map.1 hm
  exact ⟨t, ht, e.symm⟩
theorem allW_of {S : MB} {t : Nat → Int} (ht : t ∈ allE S) : ∃ j, j < (allW S).length ∧ (allW S).getD j [] = wrongL S t := by
  have hm : wrongL S t ∈ allW S := List.mem_map.2 ⟨t, ht, rfl⟩
  obtain ⟨j, hj, e⟩ := List.getElem_of_mem hm
  exact ⟨j, hj, by rw [List.getD_eq_getElem?_getD, List.getElem?_eq_getElem hj]; exact e⟩
theorem first_none {S : MB} {j : Nat} (hj : j < (allW S).length) (h0 : (allW S).getD j [] = []) : firstF S = none := by
  obtain ⟨t, ht, e⟩ := allW_at hj
  rw [h0] at e
  refine fstP_none.2 fun k hk hb => ?_
  obtain ⟨i, _, i2, i3⟩ := hb t ht
  obtain ⟨q, q1, _⟩ := pick_has (p := wrS S t) i2 i3
  have q1 : q < (wrongL S t).length := q1
  rw [← e] at q1
  exact absurd q1 (Nat.not_lt_zero _)
theorem first_some {S : MB} (hG : Good S) (hn : ∀ j, j < (allW S).length → (allW S).getD j [] ≠ []) : ∃ N : Nat, firstF S = some N ∧ headM (allW S) (allW S).length = (N : Int) := by
  have hpos : 0 < (allW S).length := by
    unfold allW
    rw [List.length_map]
    exact List.length_pos_iff.2 (allE_ne hG)
  have hhead : ∀ j, j < (allW S).length → ∃ t, t ∈ allE S ∧ ∃ x : Nat, x < S.ns ∧ atL ((allW S).getD j []) 0 = (x : Int) ∧ wrS S t x ∧ ∀ i, i < x → ¬ wrS S t i := fun j hj => by
    obtain ⟨t, ht, e⟩ := allW_at hj
    have hne := hn j hj
    rw [e] at hne
    obtain ⟨x, x1, x2, x3, x4⟩ := pick_head hne
    exact ⟨t, ht, x, x1, by rw [e]; exact x2, x3, x4⟩
  obtain ⟨N, hN, j0, hj0, hN0⟩ : ∃ N : Nat, headM (allW S) (allW S).length = (N : Int) ∧ ∃ j, j < (allW S).length ∧ atL ((allW S).getD j []) 0 = (N : Int) := by
    rcases headM_at (L := allW S) (j := (allW S).length) with q | ⟨j, j1, j2⟩
    · obtain ⟨t, _, x, x1, x2, _⟩ := hhead 0 hpos
      have := headM_le (L := allW S) hpos
      exact ⟨0, q, 0, hpos, by omega⟩
    · obtain ⟨t, _, x, x1, x2, _⟩ := hhead j j1
      exact ⟨x, by rw [j2, x2], j, j1, x2⟩
  refine ⟨N, ?_, hN⟩
  obtain ⟨t0, ht0, x0, x1, x2, x3, x4⟩ := hhead j0 hj0
  have hx0 : x0 = N := by omega
  subst hx0
  refine fstP_at x1 (fun i hi hb => ?_) (fun t ht => ?_)
  · obtain ⟨k, k1, k2, k3⟩ := hb t0 ht0
    exact x4 k (by omega) k3
  · obtain ⟨j, hj, e⟩ := allW_of ht
    have hne := hn j hj
    rw [e] at hne
    obtain ⟨x, y1, y2, y3, y4⟩ := pick_head hne
    have hle := headM_le (L := allW S) hj
    rw [e] at hle
    have y2 : atL (wrongL S t) 0 = (x : Int) := y2
    exact ⟨x, by omega, y1, y3⟩
def s53 : SCode := (.seq (.ops [⟨(some 1), none, .box (T 0)⟩, ⟨(some 2), none, .mov (.const (.int .i64 (0)))⟩, ⟨(some 3), none, .mov (.const (.int .i64 (0)))⟩]) (.seq (.seq (.ops [⟨(some 8), none, .loadN 5 (T 1)⟩, ⟨(some 9), none, .call (.func 31) [(T 8)]⟩, ⟨(some 4), none, .mov (T 9)⟩]) (.seq (.ops [⟨(some 10), none, .mov (T 4)⟩, ⟨(some 11), none, .int2 .neq (T 10) (.const (.int .i64 (0)))⟩]) (.cond (T 11) (.seq (.ops [⟨(some 12), none, .mov (T 4)⟩, ⟨(some 2), none, .mov (.const (.int .i64 (0)))⟩, ⟨(some 3), none, .mov (T 12)⟩]) .ret) .skip))) (.seq (.ops [⟨(some 5), none, .mov (.const (.int .i64 (0)))⟩]) (.seq (.seq (.ops [⟨(some 13), none, .loadN 5 (T 1)⟩, ⟨(some 14), none, .build #[(0, 5), (5, 1)] [(.int .i64 (0)), (.int .i64 (0)), (.slice none 0 0), (.int .i64 (0)), (.slice none 0 0), (.slice none 0 0)] [0] [(T 13)]⟩, ⟨(some 15), none, .call (.func 100) [(T 14)]⟩, ⟨(some 16), none, .len (T 15)⟩, ⟨(some 17), none, .mov (.const (.int .i64 (0)))⟩]) (.block 0 (.loop (.seq (.ops [⟨(some 18), none, .int2 .lss (T 17) (T 16)⟩]) (.seq (.cond (T 18) .skip (.exit 0)) (.seq (.block 1 (.seq (.ops [⟨(some 19), none, .idxSl 1 (T 15) (T 17)⟩, ⟨(some 20), none, .load1 (T 19)⟩, ⟨(some 7), none, .mov (T 20)⟩]) (.seq (.seq (.ops [⟨(some 21), none, .mov (T 7)⟩, ⟨(some 22), none, .len (T 21)⟩, ⟨(some 23), none, .int2 .eql (T 22) (.const (.int .i64 (0)))⟩]) (.cond (T 23) (.seq (.ops [⟨(some 2), none, .mov (.const (.int .i64 (0)))⟩, ⟨(some 3), none, .mov (.const (.int .i64 (7)))⟩]) .ret) .skip)) (.ops [⟨(some 24), none, .mov (T 5)⟩, ⟨(some 25), none, .mov (T 7)⟩, ⟨(some 26), none, .idxSl 1 (T 25) (.const (.int .i64 (0)))⟩, ⟨(some 27), none, .load1 (T 26)⟩, ⟨(some 28), none, .plain (.call { callee := .builtin .max, args := #[(T 24), (T 27)], argTypes := #[3, 3] }) 3⟩, ⟨(some 5), none, .mov (T 28)⟩])))) (.ops [⟨(some 29), none, .int2 .add (T 17) (.const (.int .i64 (1)))⟩, ⟨(some 17), none, .mov (T 29)⟩]))))))) (.seq (.ops [⟨(some 30), none, .mov (T 5)⟩, ⟨(some 2), none, .mov (T 30)⟩, ⟨(some 3), none, .mov (.const (.int .i64 (0)))⟩]) .ret)))))
theorem fok53 : FnOk Try.prog 53 31 s53 [.tmp 2, .tmp 3] := ⟨Try.f53, _, Try.func53, rfl, Try.ntmps53, by kernel_rfl, by kernel_rfl⟩
set_option maxHeartbeats 2000000 in
theorem firstP_c (hn : 1000 ≤ n) (hr : h.next + 120000 < far) {vv sv : Value} {S : MB} (hy : BeatR h vv sv S) (hT : ThinS S) :
    call n (.func (.func 53) #[] #[]) [.agg ⟨beL S vv sv⟩] h = some (.tuple ⟨[.int .i64 (firstV S), .int .i64 (firstE S)]⟩, h) := by
  obtain ⟨n, rfl⟩ : ∃ p, n = p + 1 := ⟨n - 1, by omega⟩
  refine call_plain0 fok53 rfl rfl (by simp) rfl ?_
  have hy := hy.shut
  have hr : h.shutAll.next + 120000 < far := hr
  have hfl : h.shutAll.floor ≤ h.shutAll.next := Nat.le_refl _
  generalize h.shutAll = h at hy hr hfl
  simp only [s53, W_seq, W_ops]
  refine ops_box (cs := beL S vv sv) (by omega) rfl hy.one fun g1 hx1 => ?_
  have n1 := hx1.next
  have f1 := hx1.floor
  have hy1 := hy.mono hx1.sub
  have w1 := hx1.row.whole (n := 5) rfl
  have ec := check_c (n := n) (h := g1) (by omega) (by omega) hy1 hT
  by_cases hf : faultS S = 0
  case neg =>
    have q1 : firstV S = 0 := if_neg hf
    have q2 : firstE S = faultS S := if_neg hf
    rw [q1, q2]
    simp only [rn0, rn1, rn2, rn3, rn4, rn5, rn6, rn7, rn8, if_true, if_false, Nat.le_refl, true_and, and_true, decide_true, decide_false, Bool.not_true, Bool.not_false, reduceIte, Nat.reduceEqDiff, Nat.reduceAdd, Nat.reduceMul, Nat.reduceSub, Nat.reduceLeDiff, Nat.reduceLT, w1, ec, hf, ret_tt]
  have hG := good_of hf
  have q1 : firstV S = optI (firstF S) 0 := if_pos hf
  have q2 : firstE S = if firstF S = none then 7 else 0 := if_pos hf
  obtain ⟨_, _, z3, z5, _⟩ := hG.sizes
  have hlenW : (allW S).length ≤ 200 := by unfold allW; rw [List.length_map]; exact enum_len hG
  obtain ⟨av, g2, e2, ⟨R, hcR, hiR⟩, oav, o2, u2, m2, f2⟩ := wrongAll_c (n := n) (h := g1) (by omega) (by omega) (by omega) hy1 hG
  simp only [rn0, rn1, rn2, rn3, rn4, rn5, rn6, rn7, rn8, if_true, if_false, Nat.le_refl, true_and, and_true, decide_true, decide_false, Bool.not_true, Bool.not_false, reduceIte, Nat.reduceEqDiff, Nat.reduceAdd, Nat.reduceMul, Nat.reduceSub, Nat.reduceLeDiff, Nat.reduceLT, w1, ec, hf, build_wkB, e2, Cells.len hcR]
  refine W_loop (allW S).length (fun j f g ms => (g = g2 ∧ ∀ i, i < j → (allW S).getD i [] ≠ []) ∧ ms = [] ∧ f 5 = .int .i64 (headM (allW S) j) ∧ f 15 = av ∧ f 16 = .int .i64 ((allW S).length : Int) ∧ f 17 = .int .i64 (j : Int)) (by simp; omega) ?_ ?_ ?_
  · simp only [rn0, rn1, rn2, rn3, rn4, rn5, rn6, rn7, rn8, if_true, if_false, Nat.le_refl, true_and, and_true, decide_true, decide_false, Bool.not_true, Bool.not_false, reduceIte, Nat.reduceEqDiff, Nat.reduceAdd, Nat.reduceMul, Nat.reduceSub, Nat.reduceLeDiff, Nat.reduceLT, headM]
    first | exact ⟨⟨rfl, fun i hi => absurd hi (Nat.not_lt_zero _)⟩, rfl⟩ | exact ⟨fun i hi => absurd hi (Nat.not_lt_zero _), rfl⟩ | exact fun i hi => absurd hi (Nat.not_lt_zero _)
  · rintro j f g ms hj ⟨⟨rfl, hno⟩, rfl, p5, p15, p16, p17⟩
    have hj' : (j : Int) < ((allW S).length : Int) := by omega
    have hwj : wrapF .i64 ((j : Int) + 1) = ((j + 1 : Nat) : Int) := by rw [wrap_in (by omega) (by omega)]; rfl
    have hij := hiR j hj
    by_cases c : (allW S).getD j [] = []
    · have hl0 : (((allW S).getD j []).length : Int) = 0 := by rw [c]; rfl
      have hN := first_none hj c
      have q3 : optI (firstF S) 0 = 0 := by rw [hN]; rfl
      rw [q1, q2, q3, if_pos hN]
      simp only [rn0, rn1, rn2, rn3, rn4, rn5, rn6, rn7, rn8, if_true, if_false, Nat.le_refl, true_and, and_true, decide_true, decide_false, Bool.not_true, Bool.not_false, reduceIte, Nat.reduceEqDiff, Nat.reduceAdd, Nat.reduceMul, Nat.reduceSub, Nat.reduceLeDiff, Nat.reduceLT, p5, p15, p16, p17, hj', Cells.idx hcR hj, Cells.ld hcR hj Nat.zero_lt_one, Cells.len hij, hl0, ret_tt]
    · have hlp : 0 < ((allW S).getD j []).length := List.length_pos_iff.2 c
      have hl0 : ¬ (((allW S).getD j []).length : Int) = 0 := by omega
      have i0 : indexSl 1 (R j) (.int .i64 0) = some (ptrO (R j) 1 0 0) := Cells.idx hij hlp
      have l0 := Cells.ld hij hlp Nat.zero_lt_one
      have hno2 : ∀ i, i < j + 1 → (allW S).getD i [] ≠ [] := fun i hi => by
        by_cases e : i = j
        · rw [e]; exact c
        · exact hno i (by omega)
      have hmx : max (headM (allW S) j) (atL ((allW S).getD j []) 0) = headM (allW S) (j + 1) := rfl
      simp only [rn0, rn1, rn2, rn3, rn4, rn5, rn6, rn7, rn8, if_true, if_false, Nat.le_refl, true_and, and_true, decide_true, decide_false, Bool.not_true, Bool.not_false, reduceIte, Nat.reduceEqDiff, Nat.reduceAdd, Nat.reduceMul, Nat.reduceSub, Nat.reduceLeDiff, Nat.reduceLT, p5, p15, p16, p17, hj', Cells.idx hcR hj, Cells.ld hcR hj Nat.zero_lt_one, Cells.len hij, hl0, i0, l0, valN_tmp, Nat.reduceLT, hmx, hwj]
      first | exact ⟨⟨rfl, hno2⟩, rfl⟩ | exact ⟨rfl, hno2⟩ | exact ⟨hno2, rfl⟩ | exact hno2
  · rintro f g ms ⟨⟨rfl, hno⟩, rfl, p5, p15, p16, p17⟩
    obtain ⟨N, hN, hM⟩ := first_some hG hno
    have q3 : optI (firstF S) 0 = (N : Int) := by rw [hN]; rfl
    have q4 : (if firstF S = none then (7 : Int) else 0) = 0 := by rw [hN]; rfl
    rw [q1, q2, q3, q4]
    rw [hM] at p5
    simp only [rn0, rn1, rn2, rn3, rn4, rn5, rn6, rn7, rn8, if_true, if_false, Nat.le_refl, true_and, and_true, decide_true, decide_false, Bool.not_true, Bool.not_false, reduceIte, Nat.reduceEqDiff, Nat.reduceAdd, Nat.reduceMul, Nat.reduceSub, Nat.reduceLeDiff, Nat.reduceLT, p5, p15, p16, p17, Int.lt_irrefl, ret_tt]
end Go.Vm.Bt

namespace Go.Vm.Bt
open Go.Proofs Go.Vm.Vat Go.Vm.L2
set_option linter.unusedSimpArgs false
set_option linter.unusedVariables false
set_option maxRecDepth 10000
variable {n : Nat} {h : AHeap}
def CanB (S : MB) (s : Nat) : Prop := ∃ c, c ∈ allE S ∧ ∀ x, x < S.ns → Bit s x → RightS S c x
theorem can_blk {S : MB} {k : Nat} (hk : k < S.ns) : CanB S (2 ^ (k + 1) - 1) ↔ ¬ blkS S k := by
  constructor
  · rintro ⟨t, ht, hr⟩ hb
    obtain ⟨i, i1, i2, i3⟩ := hb t ht
    exact i3 (hr i i2 (low_bits.2 (by omega)))
  · intro hb
    apply Classical.byContradiction
    intro hn
    refine hb fun t ht => ?_
    apply Classical.byContradiction
    intro hno
    refine hn ⟨t, ht, fun x hx hbx => ?_⟩
    have hxk := low_bits.1 hbx
    apply Classical.byContradiction
    intro hw
    exact hno ⟨x, by omega, hx, hw⟩
end Go.Vm.Bt

namespace Go.Vm.Bt
open Go.Proofs Go.Vm.Vat Go.Vm.L2
set_option linter.unusedSimpArgs false
set_option linter.unusedVariables false
set_option maxRecDepth 10000
variable {n : Nat} {h : AHeap}
def cmpZ (x y : Int) : Int := if x < y then -1 else if y < x then 1 else 0
def s130 : SCode := (.seq (.ops [⟨(some 2), none, .mov (.const (.bool false))⟩]) (.seq (.ops [⟨(some 3), none, .mov (T 0)⟩, ⟨(some 4), none, .mov (T 0)⟩, ⟨(some 5), none, .int2 .neq (T 3) (T 4)⟩, ⟨(some 2), none, .mov (T 5)⟩]) .ret))
theorem fok130 : FnOk Try.prog 130 6 s130 [.tmp 2] := ⟨Try.f130, _, Try.func130, rfl, Try.ntmps130, by kernel_rfl, by kernel_rfl⟩
theorem isNaN_c (hn : 1 ≤ n) (x : Int) : call n (.func (.func 130) #[] #[]) [.int .i64 x] h = some (.bool false, h) := by
  obtain ⟨n, rfl⟩ : ∃ p, n = p + 1 := ⟨n - 1, by omega⟩
  refine call_plain0 fok130 rfl rfl (by simp) rfl ?_
  simp only [rn0, rn1, rn2, rn3, rn4, rn5, rn6, rn7, rn8, if_true, if_false, Nat.le_refl, true_and, and_true, decide_true, decide_false, Bool.not_true, Bool.not_false, reduceIte, Nat.reduceEqDiff, Nat.reduceAdd, Nat.reduceMul, Nat.reduceSub, Nat.reduceLeDiff, Nat.reduceLT, s130]
def s104 : SCode := (.seq (.ops [⟨(some 4), none, .mov (.const (.int .i64 (0)))⟩]) (.seq (.ops [⟨(some 7), none, .mov (T 0)⟩, ⟨(some 8), none, .call (.func 130) [(T 7)]⟩, ⟨(some 5), none, .mov (T 8)⟩]) (.seq (.ops [⟨(some 9), none, .mov (T 1)⟩, ⟨(some 10), none, .call (.func 130) [(T 9)]⟩, ⟨(some 6), none, .mov (T 10)⟩]) (.seq (.seq (.ops [⟨(some 11), none, .mov (T 5)⟩]) (.cond (T 11) (.seq (.seq (.ops [⟨(some 12), none, .mov (T 6)⟩]) (.cond (T 12) (.seq (.ops [⟨(some 4), none, .mov (.const (.int .i64 (0)))⟩]) .ret) .skip)) (.seq (.ops [⟨(some 4), none, .mov (.const (.int .i64 (-1)))⟩]) .ret)) .skip)) (.seq (.seq (.ops [⟨(some 13), none, .mov (T 6)⟩]) (.cond (T 13) (.seq (.ops [⟨(some 4), none, .mov (.const (.int .i64 (1)))⟩]) .ret) .skip)) (.seq (.seq (.ops [⟨(some 14), none, .mov (T 0)⟩, ⟨(some 15), none, .mov (T 1)⟩, ⟨(some 16), none, .int2 .lss (T 14) (T 15)⟩]) (.cond (T 16) (.seq (.ops [⟨(some 4), none, .mov (.const (.int .i64 (-1)))⟩]) .ret) .skip)) (.seq (.seq (.ops [⟨(some 17), none, .mov (T 0)⟩, ⟨(some 18), none, .mov (T 1)⟩, ⟨(some 19), none, .int2 .gtr (T 17) (T 18)⟩]) (.cond (T 19) (.seq (.ops [⟨(some 4), none, .mov (.const (.int .i64 (1)))⟩]) .ret) .skip)) (.seq (.ops [⟨(some 4), none, .mov (.const (.int .i64 (0)))⟩]) .ret))))))))
theorem fok104 : FnOk Try.prog 104 20 s104 [.tmp 4] := ⟨Try.f104, _, Try.func104, rfl, Try.ntmps104, by kernel_rfl, by kernel_rfl⟩
theorem cmpI_c (hn : 2 ≤ n) (x y : Int) : call n (.func (.func 104) #[] #[]) [.int .i64 x, .int .i64 y] h = some (.int .i64 (cmpZ x y), h) := by
  obtain ⟨n, rfl⟩ : ∃ p, n = p + 1 := ⟨n - 1, by omega⟩
  refine call_plain0 fok104 rfl rfl (by simp) rfl ?_
  have e1 := isNaN_c (n := n) (h := h.shutAll) (by omega) x
  have e2 := isNaN_c (n := n) (h := h.shutAll) (by omega) y
  generalize h.shutAll = h at e1 e2
  unfold cmpZ
  by_cases c1 : x < y
  · rw [if_pos c1]
    simp only [rn0, rn1, rn2, rn3, rn4, rn5, rn6, rn7, rn8, if_true, if_false, Nat.le_refl, true_and, and_true, decide_true, decide_false, Bool.not_true, Bool.not_false, reduceIte, Nat.reduceEqDiff, Nat.reduceAdd, Nat.reduceMul, Nat.reduceSub, Nat.reduceLeDiff, Nat.reduceLT, s104, e1, e2, c1]
  · rw [if_neg c1]
    by_cases c2 : y < x
    · rw [if_pos c2]
      simp only [rn0, rn1, rn2, rn3, rn4, rn5, rn6, rn7, rn8, if_true, if_false, Nat.le_refl, true_and, and_true, decide_true, decide_false, Bool.not_true, Bool.not_false, reduceIte, Nat.reduceEqDiff, Nat.reduceAdd, Nat.reduceMul, Nat.reduceSub, Nat.reduceLeDiff, Nat.reduceLT, s104, e1, e2, c1, c2, gt_iff_lt]
    · rw [if_neg c2]
      simp only [rn0, rn1, rn2, rn3, rn4, rn5, rn6, rn7, rn8, if_true, if_false, Nat.le_refl, true_and, and_true, decide_true, decide_false, Bool.not_true, Bool.not_false, reduceIte, Nat.reduceEqDiff, Nat.reduceAdd, Nat.reduceMul, Nat.reduceSub, Nat.reduceLeDiff, Nat.reduceLT, s104, e1, e2, c1, c2, gt_iff_lt]
noncomputable def lexD (a : Nat → Int) (m : Nat) (b : Nat → Int) (k : Nat) : Int := if LexLt a b (min m k) then -1 else if LexLt b a (min m k) then 1 else if k < m then 1 else if m < k then -1 else 0
theorem lexD_at {a b : Nat → Int} {m k i : Nat} (h1 : i < m) (h2 : i < k) (he : ∀ j, j < i → a j = b j) (hl : a i < b i) : lexD a m b k = -1 := by unfold lexD; rw [if_pos ⟨i, by omega, he, hl⟩]
theorem lexD_at' {a b : Nat → Int} {m k i : Nat} (h1 : i < m) (h2 : i < k) (he : ∀ j, j < i → a j = b j) (hl : b i < a i) : lexD a m b k = 1 := by
  unfold lexD
  rw [if_neg, if_pos ⟨i, by omega, fun j hj => (he j hj).symm, hl⟩]
  rintro ⟨j, j1, j2, j3⟩
  by_cases e : j = i
  · subst e; omega
  · by_cases e2 : j < i
    · have := he j e2; omega
    · have := j2 i (by omega); omega
theorem lexD_eq {a b : Nat → Int} {m k : Nat} (he : ∀ j, j < min m k → a j = b j) : lexD a m b k = if k < m then 1 else if m < k then -1 else 0 := by
  unfold lexD
  rw [if_neg, if_neg]
  · rintro ⟨j, j1, j2, j3⟩; have := he j j1; omega
  · rintro ⟨j, j1, j2, j3⟩; have := he j j1; omega
def s105 : SCode := (.seq (.ops [⟨(some 4), none, .mov (.const (.int .i64 (0)))⟩]) (.seq (.seq (.ops [⟨(some 9), none, .mov (T 0)⟩, ⟨(some 10), none, .len (T 9)⟩, ⟨(some 11), none, .mov (.const (.int .i64 (0)))⟩]) (.block 0 (.loop (.seq (.ops [⟨(some 12), none, .int2 .lss (T 11) (T 10)⟩]) (.seq (.cond (T 12) .skip (.exit 0)) (.seq (.block 1 (.seq (.ops [⟨(some 13), none, .mov (T 11)⟩, ⟨(some 14), none, .idxSl 1 (T 9) (T 11)⟩, ⟨(some 15), none, .load1 (T 14)⟩, ⟨(some 5), none, .mov (T 13)⟩, ⟨(some 6), none, .mov (T 15)⟩]) (.seq (.seq (.ops [⟨(some 16), none, .mov (T 5)⟩, ⟨(some 17), none, .mov (T 1)⟩, ⟨(some 18), none, .len (T 17)⟩, ⟨(some 19), none, .int2 .geq (T 16) (T 18)⟩]) (.cond (T 19) (.seq (.ops [⟨(some 4), none, .mov (.const (.int .i64 (1)))⟩]) .ret) .skip)) (.seq (.ops [⟨(some 20), none, .mov (T 1)⟩, ⟨(some 21), none, .mov (T 5)⟩, ⟨(some 22), none, .idxSl 1 (T 20) (T 21)⟩, ⟨(some 23), none, .load1 (T 22)⟩, ⟨(some 7), none, .mov (T 23)⟩]) (.seq (.ops [⟨(some 24), none, .mov (T 6)⟩, ⟨(some 25), none, .mov (T 7)⟩, ⟨(some 26), none, .call (.func 104) [(T 24), (T 25)]⟩, ⟨(some 8), none, .mov (T 26)⟩]) (.seq (.ops [⟨(some 27), none, .mov (T 8)⟩, ⟨(some 28), none, .int2 .neq (T 27) (.const (.int .i64 (0)))⟩]) (.cond (T 28) (.seq (.ops [⟨(some 29), none, .mov (T 8)⟩, ⟨(some 4), none, .mov (T 29)⟩]) .ret) .skip))))))) (.ops [⟨(some 30), none, .int2 .add (T 11) (.const (.int .i64 (1)))⟩, ⟨(some 11), none, .mov (T 30)⟩]))))))) (.seq (.seq (.ops [⟨(some 31), none, .mov (T 0)⟩, ⟨(some 32), none, .len (T 31)⟩, ⟨(some 33), none, .mov (T 1)⟩, ⟨(some 34), none, .len (T 33)⟩, ⟨(some 35), none, .int2 .lss (T 32) (T 34)⟩]) (.cond (T 35) (.seq (.ops [⟨(some 4), none, .mov (.const (.int .i64 (-1)))⟩]) .ret) .skip)) (.seq (.ops [⟨(some 4), none, .mov (.const (.int .i64 (0)))⟩]) .ret))))
theorem fok105 : FnOk Try.prog 105 36 s105 [.tmp 4] := ⟨Try.f105, _, Try.func105, rfl, Try.ntmps105, by kernel_rfl, by kernel_rfl⟩
theorem cmpL_c {m k : Nat} (hn : 40 ≤ n) (hm : m ≤ 30) (hk : k ≤ 30) {va vb : Value} {a b : Nat → Int} (ha : Ints h va m a) (hb : Ints h vb k b) : call n (.func (.func 105) #[] #[]) [va, vb] h = some (.int .i64 (lexD a m b k), h) := by
  obtain ⟨n, rfl⟩ : ∃ p, n = p + 1 := ⟨n - 1, by omega⟩
  refine call_plain0 fok105 rfl rfl (by simp) rfl ?_
  have ha : Ints h.shutAll va m a := Cells.shut ha
  have hb : Ints h.shutAll vb k b := Cells.shut hb
  generalize h.shutAll = h at ha hb
  simp only [rn0, rn1, rn2, rn3, rn4, rn5, rn6, rn7, rn8, if_true, if_false, Nat.le_refl, true_and, and_true, decide_true, decide_false, Bool.not_true, Bool.not_false, reduceIte, Nat.reduceEqDiff, Nat.reduceAdd, Nat.reduceMul, Nat.reduceSub, Nat.reduceLeDiff, Nat.reduceLT, s105, Cells.len ha]
  refine W_loop m (fun i f g ms => ((∀ j, j < i → a j = b j) ∧ i ≤ k ∧ g = h) ∧ ms = [] ∧ f 0 = va ∧ f 1 = vb ∧ f 9 = va ∧ f 10 = .int .i64 (m : Int) ∧ f 11 = .int .i64 (i : Int)) (by simp; omega) ?_ ?_ ?_
  · simp only [rn0, rn1, rn2, rn3, rn4, rn5, rn6, rn7, rn8, if_true, if_false, Nat.le_refl, true_and, and_true, decide_true, decide_false, Bool.not_true, Bool.not_false, reduceIte, Nat.reduceEqDiff, Nat.reduceAdd, Nat.reduceMul, Nat.reduceSub, Nat.reduceLeDiff, Nat.reduceLT, Int.natCast_zero]
    first | exact ⟨fun i hi => by omega, Nat.zero_le _⟩ | exact ⟨⟨fun i hi => by omega, Nat.zero_le _⟩, rfl⟩
  · rintro i f g ms hi ⟨⟨he, hik, rfl⟩, rfl, p0, p1, p9, p10, p11⟩
    have hi' : (i : Int) < (m : Int) := by omega
    have hw : wrapF .i64 ((i : Int) + 1) = ((i + 1 : Nat) : Int) := by rw [wrap_in (by omega) (by omega)]; rfl
    by_cases c : i < k
    · have c' : ¬ (k : Int) ≤ (i : Int) := by omega
      have ec := cmpI_c (n := n) (h := g) (by omega) (a i) (b i)
      by_cases c1 : a i < b i
      · have hz : cmpZ (a i) (b i) = -1 := if_pos c1
        rw [hz] at ec
        rw [lexD_at hi c he c1]
        simp only [rn0, rn1, rn2, rn3, rn4, rn5, rn6, rn7, rn8, if_true, if_false, Nat.le_refl, true_and, and_true, decide_true, decide_false, Bool.not_true, Bool.not_false, reduceIte, Nat.reduceEqDiff, Nat.reduceAdd, Nat.reduceMul, Nat.reduceSub, Nat.reduceLeDiff, Nat.reduceLT, p0, p1, p9, p10, p11, hi', Cells.idx ha hi, Cells.ld ha hi Nat.zero_lt_one, Cells.len hb, ge_iff_le, c', Cells.idx hb c, Cells.ld hb c Nat.zero_lt_one, ec, Int.reduceEq, Int.reduceNeg]
      · by_cases c2 : b i < a i
        · have hz : cmpZ (a i) (b i) = 1 := by unfold cmpZ; rw [if_neg c1, if_pos c2]
          rw [hz] at ec
          rw [lexD_at' hi c he c2]
          simp only [rn0, rn1, rn2, rn3, rn4, rn5, rn6, rn7, rn8, if_true, if_false, Nat.le_refl, true_and, and_true, decide_true, decide_false, Bool.not_true, Bool.not_false, reduceIte, Nat.reduceEqDiff, Nat.reduceAdd, Nat.reduceMul, Nat.reduceSub, Nat.reduceLeDiff, Nat.reduceLT, p0, p1, p9, p10, p11, hi', Cells.idx ha hi, Cells.ld ha hi Nat.zero_lt_one, Cells.len hb, ge_iff_le, c', Cells.idx hb c, Cells.ld hb c Nat.zero_lt_one, ec, Int.reduceEq]
        · have hz : cmpZ (a i) (b i) = 0 := by unfold cmpZ; rw [if_neg c1, if_neg c2]
          rw [hz] at ec
          simp only [rn0, rn1, rn2, rn3, rn4, rn5, rn6, rn7, rn8, if_true, if_false, Nat.le_refl, true_and, and_true, decide_true, decide_false, Bool.not_true, Bool.not_false, reduceIte, Nat.reduceEqDiff, Nat.reduceAdd, Nat.reduceMul, Nat.reduceSub, Nat.reduceLeDiff, Nat.reduceLT, p0, p1, p9, p10, p11, hi', Cells.idx ha hi, Cells.ld ha hi Nat.zero_lt_one, Cells.len hb, ge_iff_le, c', Cells.idx hb c, Cells.ld hb c Nat.zero_lt_one, ec, hw]
          have fin : (∀ j, j < i + 1 → a j = b j) ∧ i + 1 ≤ k := ⟨fun j hj => by
            by_cases e : j = i
            · subst e; omega
            · exact he j (by omega), c⟩
          first | exact fin | exact ⟨fin, rfl⟩
    · have c' : (k : Int) ≤ (i : Int) := by omega
      have hr : lexD a m b k = 1 := by rw [lexD_eq fun j hj => he j (by omega), if_pos (by omega)]
      rw [hr]
      simp only [rn0, rn1, rn2, rn3, rn4, rn5, rn6, rn7, rn8, if_true, if_false, Nat.le_refl, true_and, and_true, decide_true, decide_false, Bool.not_true, Bool.not_false, reduceIte, Nat.reduceEqDiff, Nat.reduceAdd, Nat.reduceMul, Nat.reduceSub, Nat.reduceLeDiff, Nat.reduceLT, p0, p1, p9, p10, p11, hi', Cells.idx ha hi, Cells.ld ha hi Nat.zero_lt_one, Cells.len hb, ge_iff_le, c']
  · rintro f g ms ⟨⟨he, hik, rfl⟩, rfl, p0, p1, p9, p10, p11⟩
    by_cases c : m < k
    · have c' : (m : Int) < (k : Int) := by omega
      have hr : lexD a m b k = -1 := by rw [lexD_eq fun j hj => he j (by omega), if_neg (by omega), if_pos c]
      rw [hr]
      simp only [rn0, rn1, rn2, rn3, rn4, rn5, rn6, rn7, rn8, if_true, if_false, Nat.le_refl, true_and, and_true, decide_true, decide_false, Bool.not_true, Bool.not_false, reduceIte, Nat.reduceEqDiff, Nat.reduceAdd, Nat.reduceMul, Nat.reduceSub, Nat.reduceLeDiff, Nat.reduceLT, p0, p1, p9, p10, p11, Int.lt_irrefl, Cells.len ha, Cells.len hb, c']
    · have c' : ¬ (m : Int) < (k : Int) := by omega
      have hr : lexD a m b k = 0 := by rw [lexD_eq fun j hj => he j (by omega), if_neg (by omega), if_neg c]
      rw [hr]
      simp only [rn0, rn1, rn2, rn3, rn4, rn5, rn6, rn7, rn8, if_true, if_false, Nat.le_refl, true_and, and_true, decide_true, decide_false, Bool.not_true, Bool.not_false, reduceIte, Nat.reduceEqDiff, Nat.reduceAdd, Nat.reduceMul, Nat.reduceSub, Nat.reduceLeDiff, Nat.reduceLT, p0, p1, p9, p10, p11, Int.lt_irrefl, Cells.len ha, Cells.len hb, c']
def s103 : SCode := (.seq (.ops [⟨(some 2), none, .mov (.const (.int .i64 (0)))⟩]) (.seq (.ops [⟨(some 3), none, .mov (.const (.int .i64 (0)))⟩]) (.seq (.seq (.ops [⟨(some 6), none, .mov (T 0)⟩, ⟨(some 7), none, .len (T 6)⟩, ⟨(some 8), none, .mov (.const (.int .i64 (0)))⟩]) (.block 0 (.loop (.seq (.ops [⟨(some 9), none, .int2 .lss (T 8) (T 7)⟩]) (.seq (.cond (T 9) .skip (.exit 0)) (.seq (.block 1 (.seq (.ops [⟨(some 10), none, .idxSl 1 (T 6) (T 8)⟩, ⟨(some 11), none, .load1 (T 10)⟩, ⟨(some 5), none, .mov (T 11)⟩]) (.seq (.ops [⟨(some 12), none, .mov (T 5)⟩, ⟨(some 13), none, .mov (T 3)⟩, ⟨(some 14), none, .int2 .neq (T 12) (T 13)⟩]) (.cond (T 14) (.seq (.ops [⟨(some 15), none, .mov (T 5)⟩, ⟨(some 2), none, .mov (T 15)⟩]) .ret) .skip)))) (.ops [⟨(some 16), none, .int2 .add (T 8) (.const (.int .i64 (1)))⟩, ⟨(some 8), none, .mov (T 16)⟩]))))))) (.seq (.ops [⟨(some 17), none, .mov (T 3)⟩, ⟨(some 2), none, .mov (T 17)⟩]) .ret))))
theorem fok103 : FnOk Try.prog 103 18 s103 [.tmp 2] := ⟨Try.f103, _, Try.func103, rfl, Try.ntmps103, by kernel_rfl, by kernel_rfl⟩
theorem or_c (hn : 10 ≤ n) {v : Value} {a : Nat → Int} (ha : Ints h v 2 a) : call n (.func (.func 103) #[] #[]) [v] h = some (.int .i64 (if a 0 = 0 then a 1 else a 0), h) := by
  obtain ⟨n, rfl⟩ : ∃ p, n = p + 1 := ⟨n - 1, by omega⟩
  refine call_plain0 fok103 rfl rfl (by simp) rfl ?_
  have ha : Ints h.shutAll v 2 a := Cells.shut ha
  generalize h.shutAll = h at ha
  simp only [rn0, rn1, rn2, rn3, rn4, rn5, rn6, rn7, rn8, if_true, if_false, Nat.le_refl, true_and, and_true, decide_true, decide_false, Bool.not_true, Bool.not_false, reduceIte, Nat.reduceEqDiff, Nat.reduceAdd, Nat.reduceMul, Nat.reduceSub, Nat.reduceLeDiff, Nat.reduceLT, s103, Cells.len ha]
  refine W_loop 2 (fun i f g ms => ((∀ j, j < i → a j = 0) ∧ g = h) ∧ ms = [] ∧ f 3 = .int .i64 0 ∧ f 6 = v ∧ f 7 = .int .i64 ((2 : Nat) : Int) ∧ f 8 = .int .i64 (i : Int)) (by simp; omega) ?_ ?_ ?_
  · simp only [rn0, rn1, rn2, rn3, rn4, rn5, rn6, rn7, rn8, if_true, if_false, Nat.le_refl, true_and, and_true, decide_true, decide_false, Bool.not_true, Bool.not_false, reduceIte, Nat.reduceEqDiff, Nat.reduceAdd, Nat.reduceMul, Nat.reduceSub, Nat.reduceLeDiff, Nat.reduceLT, Int.natCast_zero]
    first | exact fun i hi => by omega | exact ⟨fun i hi => by omega, rfl⟩
  · rintro i f g ms hi ⟨⟨he, rfl⟩, rfl, p3, p6, p7, p8⟩
    have hi' : (i : Int) < ((2 : Nat) : Int) := by omega
    have hw : wrapF .i64 ((i : Int) + 1) = ((i + 1 : Nat) : Int) := by rw [wrap_in (by omega) (by omega)]; rfl
    by_cases c : a i = 0
    · simp only [rn0, rn1, rn2, rn3, rn4, rn5, rn6, rn7, rn8, if_true, if_false, Nat.le_refl, true_and, and_true, decide_true, decide_false, Bool.not_true, Bool.not_false, reduceIte, Nat.reduceEqDiff, Nat.reduceAdd, Nat.reduceMul, Nat.reduceSub, Nat.reduceLeDiff, Nat.reduceLT, p3, p6, p7, p8, hi', Cells.idx ha hi, Cells.ld ha hi Nat.zero_lt_one, c, hw]
      have fin : ∀ j, j < i + 1 → a j = 0 := fun j hj => by
        by_cases e : j = i
        · subst e; exact c
        · exact he j (by omega)
      first | exact fin | exact ⟨fin, rfl⟩
    · have hr : (if a 0 = 0 then a 1 else a 0) = a i := by
        obtain rfl | rfl : i = 0 ∨ i = 1 := by omega
        · rw [if_neg c]
        · rw [if_pos (he 0 (by omega))]
      rw [hr]
      simp only [rn0, rn1, rn2, rn3, rn4, rn5, rn6, rn7, rn8, if_true, if_false, Nat.le_refl, true_and, and_true, decide_true, decide_false, Bool.not_true, Bool.not_false, reduceIte, Nat.reduceEqDiff, Nat.reduceAdd, Nat.reduceMul, Nat.reduceSub, Nat.reduceLeDiff, Nat.reduceLT, p3, p6, p7, p8, hi', Cells.idx ha hi, Cells.ld ha hi Nat.zero_lt_one, c]
  · rintro f g ms ⟨⟨he, rfl⟩, rfl, p3, p6, p7, p8⟩
    have hr : (if a 0 = 0 then a 1 else a 0) = 0 := by rw [if_pos (he 0 (by omega)), he 1 (by omega)]
    rw [hr]
    simp only [rn0, rn1, rn2, rn3, rn4, rn5, rn6, rn7, rn8, if_true, if_false, Nat.le_refl, true_and, and_true, decide_true, decide_false, Bool.not_true, Bool.not_false, reduceIte, Nat.reduceEqDiff, Nat.reduceAdd, Nat.reduceMul, Nat.reduceSub, Nat.reduceLeDiff, Nat.reduceLT, p3, p6, p7, p8, Int.lt_irrefl]
end Go.Vm.Bt

namespace Go.Vm.Bt
open Go.Proofs Go.Vm.Vat Go.Vm.L2
set_option linter.unusedSimpArgs false
set_option linter.unusedVariables false
set_option maxRecDepth 10000
variable {n : Nat} {h : AHeap}
theorem sl_pair {a b : Int} : buildSl 1 2 [.int .i64 0] [0, 1] h [.int .i64 a, .int .i64 b] = newSlice h [.int .i64 a, .int .i64 b] 2 2 0 := id rfl
noncomputable def slZ (a : Nat → Int) (m : Nat) (b : Nat → Int) (k : Nat) : Int := if cmpZ m k = 0 then lexD a m b k else cmpZ m k
theorem slZ_lt {a b : Nat → Int} {m k : Nat} : slZ a m b k < 0 ↔ Shortlex a m b k := by
  unfold slZ cmpZ Shortlex
  by_cases c1 : m < k
  · rw [if_neg (by rw [if_pos (by omega)]; decide), if_pos (by omega)]
    exact ⟨fun _ => .inl c1, fun _ => by decide⟩
  · by_cases c2 : k < m
    · rw [if_neg (by rw [if_neg (by omega), if_pos (by omega)]; decide), if_neg (by omega), if_pos (by omega)]
      exact ⟨fun h => by omega, fun h => by rcases h with h | h <;> omega⟩
    · have e : m = k := by omega
      subst e
      rw [if_pos (by rw [if_neg (by omega), if_neg (by omega)])]
      unfold lexD
      rw [Nat.min_self]
      by_cases c : LexLt a b m
      · rw [if_pos c]; exact ⟨fun _ => .inr ⟨rfl, c⟩, fun _ => by decide⟩
      · rw [if_neg c]
        refine ⟨fun h => ?_, fun h => ?_⟩
        · rw [if_neg (Nat.lt_irrefl _), if_neg (Nat.lt_irrefl _)] at h
          split at h <;> omega
        · rcases h with h | h
          · omega
          · exact absurd h.2 c
def s102 : SCode := (.seq (.ops [⟨(some 4), none, .mov (.const (.int .i64 (0)))⟩]) (.seq (.ops [⟨(some 5), none, .mov (T 0)⟩, ⟨(some 6), none, .len (T 5)⟩, ⟨(some 7), none, .mov (T 1)⟩, ⟨(some 8), none, .len (T 7)⟩, ⟨(some 9), none, .call (.func 104) [(T 6), (T 8)]⟩, ⟨(some 10), none, .mov (T 0)⟩, ⟨(some 11), none, .mov (T 1)⟩, ⟨(some 12), none, .call (.func 105) [(T 10), (T 11)]⟩, ⟨(some 13), none, .bslice 1 2 [(.int .i64 (0))] [0, 1] [(T 9), (T 12)]⟩, ⟨(some 14), none, .call (.func 103) [(T 13)]⟩, ⟨(some 4), none, .mov (T 14)⟩]) .ret))
theorem fok102 : FnOk Try.prog 102 15 s102 [.tmp 4] := ⟨Try.f102, _, Try.func102, rfl, Try.ntmps102, by kernel_rfl, by kernel_rfl⟩
theorem leave1_c {m k : Nat} (hn : 60 ≤ n) (hr : h.next + 10 < far) (hm : m ≤ 30) (hk : k ≤ 30) {va vb : Value} {a b : Nat → Int} (ha : Ints h va m a) (hb : Ints h vb k b) : call n (.func (.func 102) #[] #[]) [va, vb] h = some (.int .i64 (slZ a m b k), h) := by
  obtain ⟨n, rfl⟩ : ∃ p, n = p + 1 := ⟨n - 1, by omega⟩
  refine call_plain0 fok102 rfl rfl (by simp) rfl ?_
  have ha : Ints h.shutAll va m a := Cells.shut ha
  have hb : Ints h.shutAll vb k b := Cells.shut hb
  have hr : h.shutAll.next + 10 < far := hr
  have hfl : h.shutAll.floor ≤ h.shutAll.next := Nat.le_refl _
  generalize h.shutAll = h at ha hb hr hfl
  have e1 := cmpI_c (n := n) (h := h) (by omega) (m : Int) (k : Int)
  have e2 := cmpL_c (n := n) (h := h) (by omega) hm hk ha hb
  simp only [rn0, rn1, rn2, rn3, rn4, rn5, rn6, rn7, rn8, if_true, if_false, Nat.le_refl, true_and, and_true, decide_true, decide_false, Bool.not_true, Bool.not_false, reduceIte, Nat.reduceEqDiff, Nat.reduceAdd, Nat.reduceMul, Nat.reduceSub, Nat.reduceLeDiff, Nat.reduceLT, s102, Cells.len ha, Cells.len hb, e1, e2, sl_pair]
  refine step_slice (by omega) rfl fun g hx => ?_
  have hp : Ints g (.slice (some ⟨h.next, 0, none⟩) 2 2) 2 (fun i => if i = 0 then cmpZ m k else lexD a m b k) := ⟨_, _, rfl, fun x e => by cases e; rfl, .inr ⟨_, 0, _, _, _, rfl, hx.get, fun i j hi hj => by
    obtain rfl : j = 0 := by omega
    obtain rfl | rfl : i = 0 ∨ i = 1 := by omega
    · rfl
    · rfl⟩⟩
  have e3 := or_c (n := n) (h := g) (by omega) hp
  have e4 : (if (if (0 : Nat) = 0 then cmpZ m k else lexD a m b k) = 0 then (if (1 : Nat) = 0 then cmpZ m k else lexD a m b k) else (if (0 : Nat) = 0 then cmpZ m k else lexD a m b k)) = slZ a m b k := rfl
  rw [e4] at e3
  simp only [rn0, rn1, rn2, rn3, rn4, rn5, rn6, rn7, rn8, if_true, if_false, Nat.le_refl, true_and, and_true, decide_true, decide_false, Bool.not_true, Bool.not_false, reduceIte, Nat.reduceEqDiff, Nat.reduceAdd, Nat.reduceMul, Nat.reduceSub, Nat.reduceLeDiff, Nat.reduceLT, e3]
def IsLeast (L : List (List Int)) (l : List Int) : Prop := l ∈ L ∧ ∀ w, w ∈ L → ¬ SL w l
def s101 : SCode := (.seq (.ops [⟨(some 4), none, .mov (.const (.slice none 0 0))⟩]) (.seq (.seq (.ops [⟨(some 7), none, .mov (T 0)⟩, ⟨(some 8), none, .len (T 7)⟩, ⟨(some 9), none, .int2 .lss (T 8) (.const (.int .i64 (1)))⟩]) (.cond (T 9) .stuck .skip)) (.seq (.ops [⟨(some 11), none, .mov (T 0)⟩, ⟨(some 12), none, .idxSl 1 (T 11) (.const (.int .i64 (0)))⟩, ⟨(some 13), none, .load1 (T 12)⟩, ⟨(some 5), none, .mov (T 13)⟩]) (.seq (.seq (.ops [⟨(some 6), none, .mov (.const (.int .i64 (1)))⟩]) (.block 0 (.loop (.seq (.seq (.ops [⟨(some 14), none, .mov (T 6)⟩, ⟨(some 15), none, .mov (T 0)⟩, ⟨(some 16), none, .len (T 15)⟩, ⟨(some 17), none, .int2 .lss (T 14) (T 16)⟩]) (.cond (T 17) .skip (.exit 0))) (.seq (.block 1 (.seq (.ops [⟨(some 20), none, .mov (T 1)⟩, ⟨(some 21), none, .mov (T 0)⟩, ⟨(some 22), none, .mov (T 6)⟩, ⟨(some 23), none, .idxSl 1 (T 21) (T 22)⟩, ⟨(some 24), none, .load1 (T 23)⟩, ⟨(some 25), none, .mov (T 5)⟩, ⟨(some 26), none, .call (T 20) [(T 24), (T 25)]⟩, ⟨(some 27), none, .int2 .lss (T 26) (.const (.int .i64 (0)))⟩]) (.cond (T 27) (.ops [⟨(some 28), none, .mov (T 0)⟩, ⟨(some 29), none, .mov (T 6)⟩, ⟨(some 30), none, .idxSl 1 (T 28) (T 29)⟩, ⟨(some 31), none, .load1 (T 30)⟩, ⟨(some 5), none, .mov (T 31)⟩]) .skip))) (.ops [⟨(some 18), none, .mov (T 6)⟩, ⟨(some 19), none, .int2 .add (T 18) (.const (.int .i64 (1)))⟩, ⟨(some 6), none, .mov (T 19)⟩])))))) (.seq (.ops [⟨(some 32), none, .mov (T 5)⟩, ⟨(some 4), none, .mov (T 32)⟩]) .ret)))))
theorem fok101 : FnOk Try.prog 101 33 s101 [.tmp 4] := ⟨Try.f101, _, Try.func101, rfl, Try.ntmps101, by kernel_rfl, by kernel_rfl⟩
set_option maxHeartbeats 1000000 in
theorem min_c (hn : 400 ≤ n) (hr : h.next + 20 < far) {v : Value} {L : List (List Int)} (hL : L ≠ []) (ha : AllR h v L) (h5 : ∀ l, l ∈ L → l.length ≤ 30) (hlen : L.length ≤ 300) :
    ∃ r h', call n (.func (.func 101) #[] #[]) [v, .func (.func 102) #[] #[]] h = some (r, h') ∧ h' = h ∧ ∃ l, IsLeast L l ∧ Ints h r l.length (atL l) := by
  obtain ⟨n, rfl⟩ : ∃ p, n = p + 1 := ⟨n - 1, by omega⟩
  refine call_any0 fok101 rfl rfl (by simp) ?_
  obtain ⟨R, hc, hi⟩ := ha
  obtain ⟨M, hM⟩ : ∃ M, L.length = M + 1 := ⟨L.length - 1, by have := List.length_pos_iff.2 hL; omega⟩
  have hpos : 0 < L.length := by omega
  have hl1 : ¬ (L.length : Int) < 1 := by omega
  have i0 : indexSl 1 v (.int .i64 0) = some (ptrO v 1 0 0) := Cells.idx hc hpos
  have hmem : ∀ i, i < L.length → L.getD i [] ∈ L := fun i hi => by rw [List.getD_eq_getElem?_getD, List.getElem?_eq_getElem hi]; exact List.getElem_mem hi
  simp only [rn0, rn1, rn2, rn3, rn4, rn5, rn6, rn7, rn8, if_true, if_false, Nat.le_refl, true_and, and_true, decide_true, decide_false, Bool.not_true, Bool.not_false, reduceIte, Nat.reduceEqDiff, Nat.reduceAdd, Nat.reduceMul, Nat.reduceSub, Nat.reduceLeDiff, Nat.reduceLT, s101, Cells.len hc, hl1, i0, Cells.ld hc hpos Nat.zero_lt_one]
  refine W_loop M (fun k f g ms => (g = h ∧ ∃ c, c < k + 1 ∧ f 5 = R c ∧ ∀ j, j < k + 1 → ¬ SL (L.getD j []) (L.getD c [])) ∧ ms = [] ∧ f 0 = v ∧ f 1 = .func (.func 102) #[] #[] ∧ f 6 = .int .i64 ((k + 1 : Nat) : Int)) (by simp; omega) ?_ ?_ ?_
  · have hs0 : ¬ SL (L.getD 0 []) (L.getD 0 []) := fun h => by
      rcases h with h | h
      · omega
      · exact lex_irr h.2
    have z1 : ((0 + 1 : Nat) : Int) = 1 := rfl
    simp only [rn0, rn1, rn2, rn3, rn4, rn5, rn6, rn7, rn8, if_true, if_false, Nat.le_refl, true_and, and_true, decide_true, decide_false, Bool.not_true, Bool.not_false, reduceIte, Nat.reduceEqDiff, Nat.reduceAdd, Nat.reduceMul, Nat.reduceSub, Nat.reduceLeDiff, Nat.reduceLT, z1]
    have fin : ∃ c, c < 0 + 1 ∧ R 0 = R c ∧ ∀ j, j < 0 + 1 → ¬ SL (L.getD j []) (L.getD c []) := ⟨0, by omega, rfl, fun j hj => by
      obtain rfl : j = 0 := by omega
      exact hs0⟩
    first | exact fin | exact ⟨fin, rfl⟩ | exact ⟨⟨rfl, fin⟩, rfl⟩
  · rintro k f g ms hk ⟨⟨rfl, c, hc1, p5, hno⟩, rfl, p0, p1, p6⟩
    have hk2 : k + 1 < L.length := by omega
    have hk' : ((k + 1 : Nat) : Int) < (L.length : Int) := by omega
    have hw : wrapF .i64 (((k + 1 : Nat) : Int) + 1) = ((k + 1 + 1 : Nat) : Int) := by rw [wrap_in (by omega) (by omega)]; rfl
    have e1 := leave1_c (n := n) (h := g) (by omega) (by omega) (h5 _ (hmem _ hk2)) (h5 _ (hmem c (by omega))) (hi _ hk2) (hi c (by omega))
    have hz := slZ_lt (a := atL (L.getD (k + 1) [])) (b := atL (L.getD c [])) (m := (L.getD (k + 1) []).length) (k := (L.getD c []).length)
    have hsl : SL (L.getD (k + 1) []) (L.getD c []) ↔ Shortlex (atL (L.getD (k + 1) [])) (L.getD (k + 1) []).length (atL (L.getD c [])) (L.getD c []).length := Iff.rfl
    rw [← hsl] at hz
    by_cases cc : SL (L.getD (k + 1) []) (L.getD c [])
    · have hz' := hz.2 cc
      simp only [rn0, rn1, rn2, rn3, rn4, rn5, rn6, rn7, rn8, if_true, if_false, Nat.le_refl, true_and, and_true, decide_true, decide_false, Bool.not_true, Bool.not_false, reduceIte, Nat.reduceEqDiff, Nat.reduceAdd, Nat.reduceMul, Nat.reduceSub, Nat.reduceLeDiff, Nat.reduceLT, p0, p1, p5, p6, Cells.len hc, hk', Cells.idx hc hk2, Cells.ld hc hk2 Nat.zero_lt_one, e1, hz', hw]
      have fin : ∃ c', c' < k + 1 + 1 ∧ R (k + 1) = R c' ∧ ∀ j, j < k + 1 + 1 → ¬ SL (L.getD j []) (L.getD c' []) := ⟨k + 1, by omega, rfl, fun j hj hs => by
        by_cases e : j = k + 1
        · subst e
          rcases hs with h | h
          · omega
          · exact lex_irr h.2
        · exact hno j (by omega) (sl_trans hs cc)⟩
      first | exact fin | exact ⟨fin, rfl⟩ | exact ⟨⟨rfl, fin⟩, rfl⟩
    · have hz' : ¬ slZ (atL (L.getD (k + 1) [])) (L.getD (k + 1) []).length (atL (L.getD c [])) (L.getD c []).length < 0 := fun q => cc (hz.1 q)
      simp only [rn0, rn1, rn2, rn3, rn4, rn5, rn6, rn7, rn8, if_true, if_false, Nat.le_refl, true_and, and_true, decide_true, decide_false, Bool.not_true, Bool.not_false, reduceIte, Nat.reduceEqDiff, Nat.reduceAdd, Nat.reduceMul, Nat.reduceSub, Nat.reduceLeDiff, Nat.reduceLT, p0, p1, p5, p6, Cells.len hc, hk', Cells.idx hc hk2, Cells.ld hc hk2 Nat.zero_lt_one, e1, hz', hw]
      have fin : ∃ c', c' < k + 1 + 1 ∧ R c = R c' ∧ ∀ j, j < k + 1 + 1 → ¬ SL (L.getD j []) (L.getD c' []) := ⟨c, by omega, rfl, fun j hj hs => by
        by_cases e : j = k + 1
        · subst e; exact cc hs
        · exact hno j (by omega) hs⟩
      first | exact fin | exact ⟨fin, rfl⟩ | exact ⟨⟨rfl, fin⟩, rfl⟩
  · rintro f g ms ⟨⟨rfl, c, hc1, p5, hno⟩, rfl, p0, p1, p6⟩
    have hk' : ¬ ((M + 1 : Nat) : Int) < (L.length : Int) := by omega
    simp only [rn0, rn1, rn2, rn3, rn4, rn5, rn6, rn7, rn8, if_true, if_false, Nat.le_refl, true_and, and_true, decide_true, decide_false, Bool.not_true, Bool.not_false, reduceIte, Nat.reduceEqDiff, Nat.reduceAdd, Nat.reduceMul, Nat.reduceSub, Nat.reduceLeDiff, Nat.reduceLT, p0, p1, p5, p6, Cells.len hc, hk']
    refine ⟨L.getD c [], ⟨hmem c (by omega), fun w hw => ?_⟩, hi c (by omega)⟩
    obtain ⟨j, hj, e⟩ := List.getElem_of_mem hw
    have e2 : L.getD j [] = w := by rw [List.getD_eq_getElem?_getD, List.getElem?_eq_getElem hj]; exact e
    rw [← e2]
    exact hno j (by omega)
theorem least_uniq {L : List (List Int)} {l l' : List Int} (h1 : IsLeast L l) (h2 : IsLeast L l') : l = l' := by
  have a := h1.2 l' h2.1
  have b := h2.2 l h1.1
  apply sl_eq <;> assumption
open Classical in
noncomputable def leaveS (S : MB) : List Int := if h : ∃ l, IsLeast (allW S) l then h.choose else []
theorem leave_is {S : MB} {l : List Int} (hl : IsLeast (allW S) l) : leaveS S = l := by
  unfold leaveS
  rw [dif_pos ⟨l, hl⟩]
  exact least_uniq (Exists.choose_spec (p := fun l => IsLeast (allW S) l) ⟨l, hl⟩) hl
def LeaveR (h : AHeap) (S : MB) (v : Value) (h' : AHeap) : Prop := (∀ i, i < h.next → h'.get i = h.get i) ∧ h.next ≤ h'.next ∧ h'.next ≤ h.next + 50010 ∧ h'.floor = h.floor ∧
  ((faultS S ≠ 0 ∧ v = .tuple ⟨[nilS, .int .i64 (faultS S)]⟩) ∨ (faultS S = 0 ∧ ∃ l, v = .tuple ⟨[l, .int .i64 0]⟩ ∧ Ints h' l (leaveS S).length (atL (leaveS S)) ∧ IsLeast (allW S) (leaveS S)))
def s54 : SCode := (.seq (.ops [⟨(some 1), none, .box (T 0)⟩, ⟨(some 2), none, .mov (.const (.slice none 0 0))⟩, ⟨(some 3), none, .mov (.const (.int .i64 (0)))⟩]) (.seq (.seq (.ops [⟨(some 5), none, .loadN 5 (T 1)⟩, ⟨(some 6), none, .call (.func 31) [(T 5)]⟩, ⟨(some 4), none, .mov (T 6)⟩]) (.seq (.ops [⟨(some 7), none, .mov (T 4)⟩, ⟨(some 8), none, .int2 .neq (T 7) (.const (.int .i64 (0)))⟩]) (.cond (T 8) (.seq (.ops [⟨(some 9), none, .mov (T 4)⟩, ⟨(some 2), none, .mov (.const (.slice none 0 0))⟩, ⟨(some 3), none, .mov (T 9)⟩]) .ret) .skip))) (.seq (.ops [⟨(some 10), none, .loadN 5 (T 1)⟩, ⟨(some 11), none, .build #[(0, 5), (5, 1)] [(.int .i64 (0)), (.int .i64 (0)), (.slice none 0 0), (.int .i64 (0)), (.slice none 0 0), (.slice none 0 0)] [0] [(T 10)]⟩, ⟨(some 12), none, .call (.func 100) [(T 11)]⟩, ⟨(some 13), none, .call (.func 101) [(T 12), (.func 102)]⟩, ⟨(some 2), none, .mov (T 13)⟩, ⟨(some 3), none, .mov (.const (.int .i64 (0)))⟩]) .ret)))
theorem fok54 : FnOk Try.prog 54 14 s54 [.tmp 2, .tmp 3] := ⟨Try.f54, _, Try.func54, rfl, Try.ntmps54, by kernel_rfl, by kernel_rfl⟩
theorem leaveP_c (hn : 1000 ≤ n) (hr : h.next + 130000 < far) (hfl : h.floor ≤ h.next) {vv sv : Value} {S : MB} (hy : BeatR h vv sv S) (hT : ThinS S) :
    ∃ v h', call n (.func (.func 54) #[] #[]) [.agg ⟨beL S vv sv⟩] h = some (v, h') ∧ LeaveR h S v h' := by
  obtain ⟨n, rfl⟩ : ∃ p, n = p + 1 := ⟨n - 1, by omega⟩
  refine call_any0 fok54 rfl rfl (by simp) ?_
  simp only [s54, W_seq, W_ops]
  refine ops_box (cs := beL S vv sv) (by omega) rfl hy.one fun g1 hx1 => ?_
  have n1 := hx1.next
  have f1 := hx1.floor
  have hy1 := hy.mono hx1.sub
  have w1 := hx1.row.whole (n := 5) rfl
  have ec := check_c (n := n) (h := g1) (by omega) (by omega) hy1 hT
  by_cases hf : faultS S = 0
  case neg =>
    simp only [rn0, rn1, rn2, rn3, rn4, rn5, rn6, rn7, rn8, if_true, if_false, Nat.le_refl, true_and, and_true, decide_true, decide_false, Bool.not_true, Bool.not_false, reduceIte, Nat.reduceEqDiff, Nat.reduceAdd, Nat.reduceMul, Nat.reduceSub, Nat.reduceLeDiff, Nat.reduceLT, w1, ec, hf, ret_tt]
    exact ⟨fun i hi => hx1.old i hi, by omega, by omega, by omega, .inl ⟨hf, rfl⟩⟩
  have hG := good_of hf
  obtain ⟨_, _, z3, z5, _⟩ := hG.sizes
  obtain ⟨v, g2, e2, i2, ov, o2, u2, m2, f2⟩ := wrongAll_c (n := n) (h := g1) (by omega) (by omega) (by omega) hy1 hG
  have hne : allW S ≠ [] := by unfold allW; rw [Ne, List.map_eq_nil_iff]; exact allE_ne hG
  obtain ⟨r, g3, e3, rfl, l, hl, il⟩ := min_c (n := n) (h := g2) (by omega) (by omega) hne i2 (fun l hl => by
    obtain ⟨t, _, rfl⟩ := List.mem_map.1 hl
    have := wrong_len (S := S) (t := t)
    omega) (by unfold allW; rw [List.length_map]; have := enum_len hG; unfold allE; omega)
  have e := leave_is hl
  simp only [rn0, rn1, rn2, rn3, rn4, rn5, rn6, rn7, rn8, if_true, if_false, Nat.le_refl, true_and, and_true, decide_true, decide_false, Bool.not_true, Bool.not_false, reduceIte, Nat.reduceEqDiff, Nat.reduceAdd, Nat.reduceMul, Nat.reduceSub, Nat.reduceLeDiff, Nat.reduceLT, w1, ec, hf, build_wkB, e2, e3, ret_tt]
  exact ⟨fun i hi => by rw [o2 i (by omega), hx1.old i hi], by omega, by omega, by omega, .inr ⟨hf, r, rfl, by rw [e]; exact il, by rw [e]; exact hl⟩⟩
end Go.Vm.Bt

namespace Go.Vm.Bt
open Go.Proofs Go.Vm.Vat Go.Vm.L2
set_option linter.unusedSimpArgs false
set_option linter.unusedVariables false
set_option maxRecDepth 10000
variable {n : Nat} {h : AHeap}
theorem least_ex : ∀ (L : List (List Int)), L ≠ [] → ∃ l, IsLeast L l
  | [], h => absurd rfl h
  | x :: L, _ => by
    by_cases hL : L = []
    · subst hL
      exact ⟨x, List.mem_cons_self, fun w hw => by rw [List.mem_singleton] at hw; subst hw; exact sl_irr⟩
    · obtain ⟨l, h1, h2⟩ := least_ex L hL
      by_cases c : SL x l
      · refine ⟨x, List.mem_cons_self, fun w hw => ?_⟩
        rcases List.mem_cons.1 hw with rfl | hw
        · exact sl_irr
        · exact fun q => h2 w hw (sl_trans q c)
      · refine ⟨l, List.mem_cons_of_mem _ h1, fun w hw => ?_⟩
        rcases List.mem_cons.1 hw with rfl | hw
        · exact c
        · exact h2 w hw
theorem leaveS_min {S : MB} (hG : Good S) : (∃ t, t ∈ allE S ∧ leaveS S = wrongL S t) ∧ ∀ t, t ∈ allE S → ¬ SL (wrongL S t) (leaveS S) := by
  have hne : allW S ≠ [] := by unfold allW; rw [Ne, List.map_eq_nil_iff]; exact allE_ne hG
  obtain ⟨l, hl⟩ := least_ex _ hne
  rw [leave_is hl]
  refine ⟨?_, fun t ht => hl.2 _ (List.mem_map.2 ⟨t, ht, rfl⟩)⟩
  obtain ⟨t, ht, e⟩ := List.mem_map.1 hl.1
  exact ⟨t, ht, e.symm⟩
theorem leaveS_len {S : MB} (hG : Good S) : (leaveS S).length ≤ S.ns := by
  obtain ⟨⟨t, _, e⟩, _⟩ := leaveS_min hG
  rw [e]; exact wrong_len
def SetB (S : MB) (l : List Int) (b : Nat) : Prop := b < 2 ^ S.ns ∧ CanB S (offN (2 ^ S.ns - 1) b) ∧ l = pickL (Bit b) S.ns
theorem off_bit {S : MB} (hns : S.ns ≤ 5) {b x : Nat} (hx : x < S.ns) : Bit (offN (2 ^ S.ns - 1) b) x ↔ ¬ Bit b x := by
  have hp : (2 ^ S.ns : Nat) < 2 ^ 62 := Nat.pow_lt_pow_right (by omega) (by omega)
  rw [bit_test, bit_test, offN_bit (by omega) (by omega), Nat.testBit_two_pow_sub_one]
  simp [hx]
theorem can_off {S : MB} (hns : S.ns ≤ 5) {b : Nat} : CanB S (offN (2 ^ S.ns - 1) b) ↔ ∃ t, t ∈ allE S ∧ ∀ x, x < S.ns → wrS S t x → Bit b x := by
  constructor
  · rintro ⟨t, ht, hr⟩
    refine ⟨t, ht, fun x hx hw => ?_⟩
    apply Classical.byContradiction
    intro hb
    exact hw (hr x hx ((off_bit hns hx).2 hb))
  · rintro ⟨t, ht, hw⟩
    refine ⟨t, ht, fun x hx hb => ?_⟩
    apply Classical.byContradiction
    intro hr
    exact (off_bit hns hx).1 hb (hw x hx hr)
theorem left_g {S : MB} (hG : Good S) {b : Nat} (hc : CanB S (offN (2 ^ S.ns - 1) b)) : ¬ SL (pickL (Bit b) S.ns) (leaveS S) := by
  intro hs
  obtain ⟨_, _, z3, z5, _⟩ := hG.sizes
  obtain ⟨t, ht, hw⟩ := (can_off z5).1 hc
  have hno := (leaveS_min hG).2 t ht
  obtain ⟨h1, h2⟩ := pick_sub (p := wrS S t) (q := Bit b) S.ns hw
  by_cases e : (pickL (wrS S t) S.ns).length = (pickL (Bit b) S.ns).length
  · have := h2 e
    unfold wrongL at hno
    rw [this] at hno
    exact hno hs
  · apply hno
    unfold wrongL
    rcases hs with hs | hs
    · exact .inl (by omega)
    · exact .inl (by omega)
theorem leave_bits {S : MB} (hG : Good S) : pickL (Bit (bitsOf (leaveS S) (leaveS S).length)) S.ns = leaveS S := by
  obtain ⟨⟨t, _, hl⟩, _⟩ := leaveS_min hG
  have hp : leaveS S = pickL (wrS S t) S.ns := hl
  refine Eq.trans (pick_congr fun j hj => ?_) hp.symm
  rw [bit_test, bitsOf_test, hp]
  constructor
  · rintro ⟨i, h1, h2⟩
    obtain ⟨x, x1, x2, x3⟩ := pick_at h1
    rw [x2] at h2
    have : x = j := by simpa using h2
    rw [← this]; exact x3
  · intro h
    obtain ⟨i, h1, h2⟩ := pick_has hj h
    exact ⟨i, h1, by rw [h2]; simp⟩
theorem leave_at {S : MB} (hG : Good S) {i : Nat} (hi : i < (leaveS S).length) : ∃ j : Nat, j < S.ns ∧ atL (leaveS S) i = (j : Int) := by
  obtain ⟨⟨t, _, hl⟩, _⟩ := leaveS_min hG
  have hp : leaveS S = pickL (wrS S t) S.ns := hl
  rw [hp] at hi ⊢
  obtain ⟨j, j1, j2, _⟩ := pick_at hi
  exact ⟨j, j1, j2⟩
theorem leave_bits_lt {S : MB} (hG : Good S) : bitsOf (leaveS S) (leaveS S).length < 2 ^ S.ns := by
  have : ∀ k, k ≤ (leaveS S).length → bitsOf (leaveS S) k < 2 ^ S.ns := by
    intro k
    induction k with
    | zero => intro _; exact Nat.pow_pos (by omega)
    | succ k ih =>
      intro hk
      rw [bitsOf]
      obtain ⟨j, j1, j2⟩ := leave_at hG (i := k) (by omega)
      exact Nat.or_lt_two_pow (ih (by omega)) (Nat.pow_lt_pow_right (by omega) (by rw [j2]; simpa using j1))
  exact this _ (Nat.le_refl _)
theorem left_f {S : MB} (hG : Good S) : CanB S (offN (2 ^ S.ns - 1) (bitsOf (leaveS S) (leaveS S).length)) := by
  obtain ⟨_, _, z3, z5, _⟩ := hG.sizes
  obtain ⟨⟨t, ht, hl⟩, _⟩ := leaveS_min hG
  have hp : leaveS S = pickL (wrS S t) S.ns := hl
  refine (can_off z5).2 ⟨t, ht, fun x hx hw => ?_⟩
  rw [bit_test, bitsOf_test]
  obtain ⟨i, i1, i2⟩ := pick_has hx hw
  exact ⟨i, by rw [hp]; exact i1, by rw [hp, i2]; simp⟩
def BestK (S : MB) (k : Nat) (l : List Int) : Prop := (∃ b, SetB S l b) ∧ ∀ b, b < k → CanB S (offN (2 ^ S.ns - 1) b) → ¬ SL (pickL (Bit b) S.ns) l
theorem best_all {S : MB} (hG : Good S) {l : List Int} (hb : BestK S (2 ^ S.ns) l) : l = leaveS S := by
  obtain ⟨⟨b, b1, b2, b3⟩, h2⟩ := hb
  refine sl_eq ?_ ?_
  · rw [b3]; exact left_g hG b2
  · have := h2 _ (leave_bits_lt hG) (left_f hG)
    rw [leave_bits hG] at this; exact this
end Go.Vm.Bt

namespace Go.Vm.Bt
open Go.Proofs Go.Vm.Vat Go.Vm.L2
set_option linter.unusedSimpArgs false
set_option linter.unusedVariables false
set_option maxRecDepth 10000
variable {n : Nat} {h : AHeap}
def s68 : SCode := (.seq (.ops [⟨(some 4), none, .mov (.const (.bool false))⟩]) (.seq (.seq (.ops [⟨(some 5), none, .mov (.const (.int .i64 (0)))⟩]) (.block 0 (.loop (.seq (.seq (.ops [⟨(some 6), none, .mov (T 5)⟩, ⟨(some 7), none, .mov (T 0)⟩, ⟨(some 8), none, .len (T 7)⟩, ⟨(some 9), none, .int2 .lss (T 6) (T 8)⟩, ⟨(some 10), none, .mov (T 9)⟩, ⟨(some 11), (some (10, true)), .mov (T 5)⟩, ⟨(some 12), (some (10, true)), .mov (T 1)⟩, ⟨(some 13), (some (10, true)), .len (T 12)⟩, ⟨(some 14), (some (10, true)), .int2 .lss (T 11) (T 13)⟩, ⟨(some 15), none, .pick (T 10) (T 14) (.const (.bool false))⟩]) (.cond (T 15) .skip (.exit 0))) (.seq (.block 1 (.seq (.draw [⟨.free, ⟨(some 18), none, .mov (T 0)⟩⟩, ⟨.free, ⟨(some 19), none, .mov (T 5)⟩⟩, ⟨.free, ⟨(some 20), none, .idxSl 1 (T 18) (T 19)⟩⟩, ⟨.rd1, ⟨(some 21), none, .load1 (T 20)⟩⟩, ⟨.free, ⟨(some 22), none, .mov (T 1)⟩⟩, ⟨.free, ⟨(some 23), none, .mov (T 5)⟩⟩, ⟨.free, ⟨(some 24), none, .idxSl 1 (T 22) (T 23)⟩⟩, ⟨.rd1, ⟨(some 25), none, .load1 (T 24)⟩⟩, ⟨.free, ⟨(some 26), none, .int2 .neq (T 21) (T 25)⟩⟩]) (.cond (T 26) (.seq (.draw [⟨.free, ⟨(some 27), none, .mov (T 0)⟩⟩, ⟨.free, ⟨(some 28), none, .mov (T 5)⟩⟩, ⟨.free, ⟨(some 29), none, .idxSl 1 (T 27) (T 28)⟩⟩, ⟨.rd1, ⟨(some 30), none, .load1 (T 29)⟩⟩, ⟨.free, ⟨(some 31), none, .mov (T 1)⟩⟩, ⟨.free, ⟨(some 32), none, .mov (T 5)⟩⟩, ⟨.free, ⟨(some 33), none, .idxSl 1 (T 31) (T 32)⟩⟩, ⟨.rd1, ⟨(some 34), none, .load1 (T 33)⟩⟩, ⟨.free, ⟨(some 35), none, .int2 .lss (T 30) (T 34)⟩⟩, ⟨.free, ⟨(some 4), none, .mov (T 35)⟩⟩]) .ret) .skip))) (.ops [⟨(some 16), none, .mov (T 5)⟩, ⟨(some 17), none, .int2 .add (T 16) (.const (.int .i64 (1)))⟩, ⟨(some 5), none, .mov (T 17)⟩])))))) (.seq (.ops [⟨(some 36), none, .mov (T 0)⟩, ⟨(some 37), none, .len (T 36)⟩, ⟨(some 38), none, .mov (T 1)⟩, ⟨(some 39), none, .len (T 38)⟩, ⟨(some 40), none, .int2 .lss (T 37) (T 39)⟩, ⟨(some 4), none, .mov (T 40)⟩]) .ret)))
theorem fok68 : FnOk Try.prog 68 41 s68 [.tmp 4] := ⟨Try.f68, _, Try.func68, rfl, Try.ntmps68, by kernel_rfl, by kernel_rfl⟩
theorem before_c {m : Nat} (hn : m + 3 ≤ n) (hm : m ≤ 1000) {va vb : Value} {a b : Nat → Int} (ha : Ints h va m a) (hb : Ints h vb m b) : call n (.func (.func 68) #[] #[]) [va, vb] h = some (.bool (decide (LexLt a b m)), h) := by
  obtain ⟨n, rfl⟩ : ∃ p, n = p + 1 := ⟨n - 1, by omega⟩
  refine call_plain0 fok68 rfl rfl (by simp) rfl ?_
  have ha : Ints h.shutAll va m a := Cells.shut ha
  have hb : Ints h.shutAll vb m b := Cells.shut hb
  generalize h.shutAll = h at ha hb
  simp only [rn0, rn1, rn2, rn3, rn4, rn5, rn6, rn7, rn8, if_true, if_false, Nat.le_refl, true_and, and_true, decide_true, decide_false, Bool.not_true, Bool.not_false, reduceIte, Nat.reduceEqDiff, Nat.reduceAdd, Nat.reduceMul, Nat.reduceSub, Nat.reduceLeDiff, Nat.reduceLT, s68]
  refine W_loop m (fun k f g ms => (∀ i, i < k → a i = b i) ∧ g = h ∧ ms = [] ∧ f 0 = va ∧ f 1 = vb ∧ f 5 = .int .i64 (k : Int)) (by simp; omega) ?_ ?_ ?_
  · simp only [rn0, rn1, rn2, rn3, rn4, rn5, rn6, rn7, rn8, if_true, if_false, Nat.le_refl, true_and, and_true, decide_true, decide_false, Bool.not_true, Bool.not_false, reduceIte, Nat.reduceEqDiff, Nat.reduceAdd, Nat.reduceMul, Nat.reduceSub, Nat.reduceLeDiff, Nat.reduceLT]
    exact ⟨fun i hi => by omega, rfl⟩
  · rintro k f g ms hk ⟨he, rfl, rfl, p0, p1, p5⟩
    have hk' : (k : Int) < (m : Int) := by omega
    have hw : wrapF .i64 ((k : Int) + 1) = ((k + 1 : Nat) : Int) := by rw [wrap_in (by omega) (by omega)]; rfl
    have la := Cells.ld ha hk Nat.zero_lt_one
    have lb := Cells.ld hb hk Nat.zero_lt_one
    simp only [rn0, rn1, rn2, rn3, rn4, rn5, rn6, rn7, rn8, if_true, if_false, Nat.le_refl, true_and, and_true, decide_true, decide_false, Bool.not_true, Bool.not_false, reduceIte, Nat.reduceEqDiff, Nat.reduceAdd, Nat.reduceMul, Nat.reduceSub, Nat.reduceLeDiff, Nat.reduceLT, p0, p1, p5, Cells.len ha, Cells.len hb, hk']
    refine W_draw All ?_
    by_cases c : a k = b k
    · simp only [rn0, rn1, rn2, rn3, rn4, rn5, rn6, rn7, rn8, if_true, if_false, Nat.le_refl, true_and, and_true, decide_true, decide_false, Bool.not_true, Bool.not_false, reduceIte, Nat.reduceEqDiff, Nat.reduceAdd, Nat.reduceMul, Nat.reduceSub, Nat.reduceLeDiff, Nat.reduceLT, p0, p1, p5, Cells.idx ha hk, Cells.idx hb hk, la, lb, c, hw]
      intro i hi
      by_cases e : i = k
      · subst e; exact c
      · exact he i (by omega)
    · have hd : decide (a k < b k) = decide (LexLt a b m) := decide_eq_decide.2 ⟨fun h => ⟨k, hk, he, h⟩, fun ⟨j, j1, j2, j3⟩ => by
        by_cases e : j = k
        · subst e; exact j3
        · by_cases e2 : j < k
          · have := he j e2; omega
          · exact absurd (j2 k (by omega)) c⟩
      simp only [rn0, rn1, rn2, rn3, rn4, rn5, rn6, rn7, rn8, if_true, if_false, Nat.le_refl, true_and, and_true, decide_true, decide_false, Bool.not_true, Bool.not_false, reduceIte, Nat.reduceEqDiff, Nat.reduceAdd, Nat.reduceMul, Nat.reduceSub, Nat.reduceLeDiff, Nat.reduceLT, p0, p1, p5, Cells.idx ha hk, Cells.idx hb hk, la, lb, c]
      refine W_draw All ?_
      simp only [rn0, rn1, rn2, rn3, rn4, rn5, rn6, rn7, rn8, if_true, if_false, Nat.le_refl, true_and, and_true, decide_true, decide_false, Bool.not_true, Bool.not_false, reduceIte, Nat.reduceEqDiff, Nat.reduceAdd, Nat.reduceMul, Nat.reduceSub, Nat.reduceLeDiff, Nat.reduceLT, p0, p1, p5, Cells.idx ha hk, Cells.idx hb hk, la, lb, hd]
  · rintro f g ms ⟨he, rfl, rfl, p0, p1, p5⟩
    have hd : decide (LexLt a b m) = false := decide_eq_false fun ⟨j, j1, j2, j3⟩ => by have := he j j1; omega
    simp only [rn0, rn1, rn2, rn3, rn4, rn5, rn6, rn7, rn8, if_true, if_false, Nat.le_refl, true_and, and_true, decide_true, decide_false, Bool.not_true, Bool.not_false, reduceIte, Nat.reduceEqDiff, Nat.reduceAdd, Nat.reduceMul, Nat.reduceSub, Nat.reduceLeDiff, Nat.reduceLT, p0, p1, p5, Cells.len ha, Cells.len hb, Int.lt_irrefl, hd]
end Go.Vm.Bt

namespace Go.Vm.Bt
open Go.Proofs Go.Vm.Vat Go.Vm.L2
set_option linter.unusedSimpArgs false
set_option linter.unusedVariables false
set_option maxRecDepth 10000
variable {n : Nat} {h : AHeap}
def s77 : SCode := (.seq (.ops [⟨(some 2), none, .mov (.const (.slice none 0 0))⟩]) (.seq (.ops [⟨(some 3), none, .mov (.const (.slice none 0 0))⟩]) (.seq (.seq (.ops [⟨(some 4), none, .mov (.const (.int .i64 (0)))⟩]) (.block 0 (.loop (.seq (.seq (.ops [⟨(some 5), none, .mov (T 0)⟩, ⟨(some 6), none, .mov (T 4)⟩, ⟨(some 7), none, .plain (.convert 3 117 (T 6)) 117⟩, ⟨(some 8), none, .plain (.binOp .shr 3 (T 5) (T 7) 117) 3⟩, ⟨(some 9), none, .int2 .gtr (T 8) (.const (.int .i64 (0)))⟩]) (.cond (T 9) .skip (.exit 0))) (.seq (.block 1 (.seq (.ops [⟨(some 12), none, .mov (T 0)⟩, ⟨(some 13), none, .mov (T 4)⟩, ⟨(some 14), none, .plain (.convert 3 117 (T 13)) 117⟩, ⟨(some 15), none, .plain (.binOp .shr 3 (T 12) (T 14) 117) 3⟩, ⟨(some 16), none, .plain (.binOp .rem 3 (T 15) (.const (.int .i64 (2))) 3) 3⟩, ⟨(some 17), none, .int2 .eql (T 16) (.const (.int .i64 (1)))⟩]) (.cond (T 17) (.ops [⟨(some 18), none, .mov (T 3)⟩, ⟨(some 19), none, .mov (T 4)⟩, ⟨(some 20), none, .bslice 1 1 [(.int .i64 (0))] [0] [(T 19)]⟩, ⟨(some 21), none, .append 1 8 (T 18) (T 20)⟩, ⟨(some 3), none, .mov (T 21)⟩]) .skip))) (.ops [⟨(some 10), none, .mov (T 4)⟩, ⟨(some 11), none, .int2 .add (T 10) (.const (.int .i64 (1)))⟩, ⟨(some 4), none, .mov (T 11)⟩])))))) (.seq (.ops [⟨(some 22), none, .mov (T 3)⟩, ⟨(some 2), none, .mov (T 22)⟩]) .ret))))
theorem fok77 : FnOk Try.prog 77 23 s77 [.tmp 2] := ⟨Try.f77, _, Try.func77, rfl, Try.ntmps77, by kernel_rfl, by kernel_rfl⟩
theorem bits_c (hn : 110 ≤ n) (hr : h.next + 100 < far) (hfl : h.floor ≤ h.next) {b B : Nat} (hb : b < 2 ^ B) (hB : B ≤ 10) :
    ∃ v h', call n (.func (.func 77) #[] #[]) [.int .i64 (b : Int)] h = some (v, h') ∧ Ints h' v (pickL (Bit b) B).length (atL (pickL (Bit b) B)) ∧ (∀ i, i < h.next → h'.get i = h.get i) ∧ h'.next ≤ h.next + 50 ∧ h.next ≤ h'.next ∧ h'.floor = h.floor := by
  obtain ⟨n, rfl⟩ : ∃ p, n = p + 1 := ⟨n - 1, by omega⟩
  obtain ⟨M, hM, hpos, hz⟩ := bits_top B hb
  have hBM : pickL (Bit b) B = pickL (Bit b) M := by
    have := pick_more (p := Bit b) (M := M) (B - M) (top_none hz)
    rw [show M + (B - M) = B by omega] at this; exact this
  rw [hBM]
  refine call_any0 fok77 rfl rfl (by simp) ?_
  simp only [rn0, rn1, rn2, rn3, rn4, rn5, rn6, rn7, rn8, if_true, if_false, Nat.le_refl, true_and, and_true, decide_true, decide_false, Bool.not_true, Bool.not_false, reduceIte, Nat.reduceEqDiff, Nat.reduceAdd, Nat.reduceMul, Nat.reduceSub, Nat.reduceLeDiff, Nat.reduceLT, s77]
  refine W_loop M (fun k f g ms => (∃ v, (∀ i, i < h.next → g.get i = h.get i) ∧ g.floor = h.floor ∧ h.next ≤ g.next ∧ g.next ≤ h.next + 4 * k ∧ GrowC h.next g v 1 (pickL (Bit b) k).length (fun i _ => .int .i64 (atL (pickL (Bit b) k) i)) ∧ f 3 = v) ∧ ms = [] ∧ f 0 = .int .i64 (b : Int) ∧ f 4 = .int .i64 (k : Int)) (by simp; omega) ?_ ?_ ?_
  · simp only [rn0, rn1, rn2, rn3, rn4, rn5, rn6, rn7, rn8, if_true, if_false, Nat.le_refl, true_and, and_true, decide_true, decide_false, Bool.not_true, Bool.not_false, reduceIte, Nat.reduceEqDiff, Nat.reduceAdd, Nat.reduceMul, Nat.reduceSub, Nat.reduceLeDiff, Nat.reduceLT]
    first | exact ⟨_, fun _ _ => trivial, by omega, .nil, rfl⟩ | exact ⟨⟨_, fun _ _ => trivial, by omega, .nil, rfl⟩, rfl⟩ | exact ⟨⟨_, fun _ _ => rfl, rfl, by omega, by omega, .nil, rfl⟩, rfl⟩
  · rintro k f g ms hk ⟨⟨v, ho, hfg, hup, hnx, gv, p3⟩, rfl, p0, p4⟩
    have hw : wrapF .i64 ((k : Int) + 1) = ((k + 1 : Nat) : Int) := by rw [wrap_in (by omega) (by omega)]; rfl
    have hp := hpos k hk
    have hp' : (0 : Int) < ((b / 2 ^ k : Nat) : Int) := by omega
    have hm2 : ((b / 2 ^ k : Nat) : Int).tmod 2 = ((b / 2 ^ k % 2 : Nat) : Int) := rfl
    have z2 : ¬ (2 : Int) = 0 := by decide
    have hlk := pick_len (p := Bit b) k
    by_cases hb1 : Bit b k
    · have hb' : ((b / 2 ^ k % 2 : Nat) : Int) = 1 := by unfold Bit at hb1; omega
      simp only [rn0, rn1, rn2, rn3, rn4, rn5, rn6, rn7, rn8, if_true, if_false, Nat.le_refl, true_and, and_true, decide_true, decide_false, Bool.not_true, Bool.not_false, reduceIte, Nat.reduceEqDiff, Nat.reduceAdd, Nat.reduceMul, Nat.reduceSub, Nat.reduceLeDiff, Nat.reduceLT, p0, p3, p4, p_uint, r_conv (k := k) (by omega), p_shr, r_shr (a := b) (k := k) (by omega), valN_tmp, valN_const, Nat.reduceLT, r_rem z2, hm2, hb', hp', sl_int]
      refine step_slice (by omega) rfl fun g4 hx4 => ?_
      have n4 := hx4.next
      have f4 := hx4.floor
      have gv4 : GrowC h.next g4 v 1 (pickL (Bit b) k).length (fun i _ => .int .i64 (atL (pickL (Bit b) (k + 1)) i)) := (gv.sub hx4.sub).congr fun i j hi hj => by rw [pick_yes hb1, at_append hi]
      obtain ⟨v', g5, e5, ev, gv5, hk5⟩ := gv4.append (bytes := 8) (cap := 1) (by omega) (by omega) (by omega) hx4.get rfl rfl (fun j hj => by
        obtain rfl : j = 0 := by omega
        rw [pick_yes hb1, at_last]; rfl) (by simp [maxBytes]; omega) (by simp [maxBytes]; omega)
      have n5 := hk5.next
      have f5 := hk5.floor
      have hlen : (pickL (Bit b) (k + 1)).length = (pickL (Bit b) k).length + 1 := by rw [pick_yes hb1, List.length_append, List.length_singleton]
      simp only [rn0, rn1, rn2, rn3, rn4, rn5, rn6, rn7, rn8, if_true, if_false, Nat.le_refl, true_and, and_true, decide_true, decide_false, Bool.not_true, Bool.not_false, reduceIte, Nat.reduceEqDiff, Nat.reduceAdd, Nat.reduceMul, Nat.reduceSub, Nat.reduceLeDiff, Nat.reduceLT, p0, p3, p4, e5, hw]
      rw [hlen]
      exact ⟨_, fun i hi => by rw [hk5.old i (by omega) fun bb kk qq e => by have := (gv4.block e).1; omega, hx4.old i (by omega), ho i hi], by omega, by omega, by omega, gv5, rfl⟩
    · have hb' : ¬ ((b / 2 ^ k % 2 : Nat) : Int) = 1 := by unfold Bit at hb1; omega
      simp only [rn0, rn1, rn2, rn3, rn4, rn5, rn6, rn7, rn8, if_true, if_false, Nat.le_refl, true_and, and_true, decide_true, decide_false, Bool.not_true, Bool.not_false, reduceIte, Nat.reduceEqDiff, Nat.reduceAdd, Nat.reduceMul, Nat.reduceSub, Nat.reduceLeDiff, Nat.reduceLT, p0, p3, p4, p_uint, r_conv (k := k) (by omega), p_shr, r_shr (a := b) (k := k) (by omega), valN_tmp, valN_const, Nat.reduceLT, r_rem z2, hm2, hb', hp', hw]
      rw [pick_no hb1]
      exact ⟨_, ho, by omega, by omega, by omega, gv, rfl⟩
  · rintro f g ms ⟨⟨v, ho, hfg, hup, hnx, gv, p3⟩, rfl, p0, p4⟩
    have hz' : ¬ (0 : Int) < ((b / 2 ^ M : Nat) : Int) := by rw [hz]; omega
    simp only [rn0, rn1, rn2, rn3, rn4, rn5, rn6, rn7, rn8, if_true, if_false, Nat.le_refl, true_and, and_true, decide_true, decide_false, Bool.not_true, Bool.not_false, reduceIte, Nat.reduceEqDiff, Nat.reduceAdd, Nat.reduceMul, Nat.reduceSub, Nat.reduceLeDiff, Nat.reduceLT, p0, p3, p4, p_uint, r_conv (k := M) (by omega), p_shr, r_shr (a := b) (k := M) (by omega), valN_tmp, valN_const, Nat.reduceLT, hz']
    exact ⟨gv.cells, ho, by omega, by omega, hfg⟩
def s76 : SCode := (.seq (.ops [⟨(some 4), none, .mov (.const (.bool false))⟩]) (.seq (.ops [⟨(some 5), none, .mov (T 0)⟩, ⟨(some 6), none, .len (T 5)⟩, ⟨(some 7), none, .mov (T 1)⟩, ⟨(some 8), none, .len (T 7)⟩, ⟨(some 9), none, .int2 .lss (T 6) (T 8)⟩, ⟨(some 10), none, .mov (T 9)⟩, ⟨(some 11), (some (10, false)), .mov (T 0)⟩, ⟨(some 12), (some (10, false)), .len (T 11)⟩, ⟨(some 13), (some (10, false)), .mov (T 1)⟩, ⟨(some 14), (some (10, false)), .len (T 13)⟩, ⟨(some 15), (some (10, false)), .int2 .eql (T 12) (T 14)⟩, ⟨(some 16), (some (10, false)), .mov (T 15)⟩, ⟨(some 17), (some (16, true)), .mov (T 0)⟩, ⟨(some 18), (some (16, true)), .mov (T 1)⟩, ⟨(some 19), (some (16, true)), .call (.func 68) [(T 17), (T 18)]⟩, ⟨(some 20), (some (10, false)), .pick (T 16) (T 19) (.const (.bool false))⟩, ⟨(some 21), none, .pick (T 10) (.const (.bool true)) (T 20)⟩, ⟨(some 4), none, .mov (T 21)⟩]) .ret))
theorem fok76 : FnOk Try.prog 76 22 s76 [.tmp 4] := ⟨Try.f76, _, Try.func76, rfl, Try.ntmps76, by kernel_rfl, by kernel_rfl⟩
theorem shorter_c {m k : Nat} (hn : 1010 ≤ n) (hm : m ≤ 1000) (hk : k ≤ 1000) {va vb : Value} {a b : Nat → Int} (ha : Ints h va m a) (hb : Ints h vb k b) : call n (.func (.func 76) #[] #[]) [va, vb] h = some (.bool (decide (Shortlex a m b k)), h) := by
  obtain ⟨n, rfl⟩ : ∃ p, n = p + 1 := ⟨n - 1, by omega⟩
  refine call_plain0 fok76 rfl rfl (by simp) rfl ?_
  have ha : Ints h.shutAll va m a := Cells.shut ha
  have hb : Ints h.shutAll vb k b := Cells.shut hb
  generalize h.shutAll = h at ha hb
  by_cases c1 : m < k
  · have c1' : (m : Int) < (k : Int) := by omega
    have hd : decide (Shortlex a m b k) = true := decide_eq_true (.inl c1)
    simp only [rn0, rn1, rn2, rn3, rn4, rn5, rn6, rn7, rn8, if_true, if_false, Nat.le_refl, true_and, and_true, decide_true, decide_false, Bool.not_true, Bool.not_false, reduceIte, Nat.reduceEqDiff, Nat.reduceAdd, Nat.reduceMul, Nat.reduceSub, Nat.reduceLeDiff, Nat.reduceLT, s76, Cells.len ha, Cells.len hb, c1', hd, g_un]
  have c1' : ¬ (m : Int) < (k : Int) := by omega
  by_cases c : m = k
  · subst c
    have ec := before_c (n := n) (h := h) (by omega) hm ha hb
    have hd : decide (LexLt a b m) = decide (Shortlex a m b m) := decide_eq_decide.2 ⟨fun e => .inr ⟨rfl, e⟩, fun e => by
      rcases e with e | e
      · omega
      · exact e.2⟩
    rw [hd] at ec
    simp only [rn0, rn1, rn2, rn3, rn4, rn5, rn6, rn7, rn8, if_true, if_false, Nat.le_refl, true_and, and_true, decide_true, decide_false, Bool.not_true, Bool.not_false, reduceIte, Nat.reduceEqDiff, Nat.reduceAdd, Nat.reduceMul, Nat.reduceSub, Nat.reduceLeDiff, Nat.reduceLT, s76, Cells.len ha, Cells.len hb, c1', ec, Int.lt_irrefl]
  · have c' : ¬ (m : Int) = (k : Int) := by omega
    have hd : decide (Shortlex a m b k) = false := decide_eq_false fun e => by rcases e with e | e <;> omega
    simp only [rn0, rn1, rn2, rn3, rn4, rn5, rn6, rn7, rn8, if_true, if_false, Nat.le_refl, true_and, and_true, decide_true, decide_false, Bool.not_true, Bool.not_false, reduceIte, Nat.reduceEqDiff, Nat.reduceAdd, Nat.reduceMul, Nat.reduceSub, Nat.reduceLeDiff, Nat.reduceLT, s76, Cells.len ha, Cells.len hb, c1', c', hd]
end Go.Vm.Bt

namespace Go.Vm.Bt
open Go.Proofs Go.Vm.Vat Go.Vm.L2
set_option linter.unusedSimpArgs false
set_option linter.unusedVariables false
set_option maxRecDepth 10000
variable {n : Nat} {h : AHeap}
abbrev uSz (S : MB) : Nat → Nat := sz (uLo S) (uHi S)
theorem Good.sz {S : MB} (hG : Good S) {j : Nat} (hj : j < numU S) : ((uSz S j : Nat) : Int) = uHi S j - uLo S j + 1 ∧ 1 ≤ uSz S j ∧ uSz S j ≤ 10 := by
  obtain ⟨h1, h2, h3⟩ := hG.u j hj
  have : ((uSz S j : Nat) : Int) = uHi S j - uLo S j + 1 := Int.toNat_of_nonneg (by omega)
  omega
theorem nthU_is {S : MB} {m j : Nat} (hj : j < numU S) : nthU S m j = uLo S j + ((divN (uSz S) m j % uSz S j : Nat) : Int) := by unfold nthU nthB; rw [if_pos hj]
theorem build_c1 {x : Int} : buildA (fun x => (#[(0, 1), (1, 1)] : Array (Nat × Nat))[x]?) ⟨[.int .i64 0, .slice none 0 0]⟩ [0] h [.int .i64 x] = some (.agg ⟨[.int .i64 x, .slice none 0 0]⟩, h) := by
  unfold buildA
  have e : Instr.fill (fun x => (#[(0, 1), (1, 1)] : Array (Nat × Nat))[x]?) #[.int .i64 0, .slice none 0 0] ([0].zip [.int .i64 x]) = some #[.int .i64 x, .slice none 0 0] := by
    simp [Instr.fill, Value.cells]
  rw [e]
def s69 : SCode := (.seq (.ops [⟨(some 2), none, .box (T 0)⟩, ⟨(some 4), none, .alloc [(.int .i64 (0)), (.slice none 0 0)]⟩]) (.seq (.draw [⟨.free, ⟨(some 8), none, .fieldAddr 0 (T 2)⟩⟩, ⟨.free, ⟨(some 9), none, .fieldAddr 0 (T 8)⟩⟩, ⟨.rd, ⟨(some 10), none, .load1 (T 9)⟩⟩, ⟨.free, ⟨(some 11), none, .mov (T 1)⟩⟩, ⟨.free, ⟨(some 12), none, .fieldAddr 0 (T 2)⟩⟩, ⟨.rd1, ⟨(some 13), none, .loadN 2 (T 12)⟩⟩, ⟨.up, ⟨(some 14), none, .call (.func 108) [(T 13)]⟩⟩, ⟨.free, ⟨(some 15), none, .plain (.binOp .rem 3 (T 11) (T 14) 3) 3⟩⟩, ⟨.free, ⟨(some 16), none, .int2 .add (T 10) (T 15)⟩⟩, ⟨.free, ⟨(some 17), none, .build #[(0, 1), (1, 1)] [(.int .i64 (0)), (.slice none 0 0)] [0] [(T 16)]⟩⟩, ⟨.up, ⟨(some 5), none, .alloc [(.int .i64 (0)), (.slice none 0 0)]⟩⟩, ⟨.any, ⟨none, none, .store 2 (T 5) (T 17)⟩⟩]) (.seq (.ops [⟨(some 18), none, .mov (T 1)⟩, ⟨(some 19), none, .fieldAddr 0 (T 2)⟩, ⟨(some 20), none, .loadN 2 (T 19)⟩, ⟨(some 21), none, .call (.func 108) [(T 20)]⟩, ⟨(some 22), none, .plain (.binOp .quo 3 (T 18) (T 21) 3) 3⟩, ⟨(some 1), none, .mov (T 22)⟩]) (.seq (.seq (.ops [⟨(some 6), none, .mov (.const (.int .i64 (0)))⟩]) (.block 0 (.loop (.seq (.seq (.ops [⟨(some 23), none, .mov (T 6)⟩, ⟨(some 24), none, .fieldAddr 2 (T 2)⟩, ⟨(some 25), none, .load1 (T 24)⟩, ⟨(some 26), none, .len (T 25)⟩, ⟨(some 27), none, .int2 .lss (T 23) (T 26)⟩]) (.cond (T 27) .skip (.exit 0))) (.seq (.block 1 (.seq (.ops [⟨(some 30), none, .fieldAddr 2 (T 2)⟩, ⟨(some 31), none, .load1 (T 30)⟩, ⟨(some 32), none, .mov (T 6)⟩, ⟨(some 33), none, .idxSl 4 (T 31) (T 32)⟩, ⟨(some 34), none, .fieldAddr 0 (T 33)⟩, ⟨(some 35), none, .loadN 2 (T 34)⟩, ⟨(some 7), none, .alloc [(.int .i64 (0)), (.int .i64 (0))]⟩, ⟨none, none, .store 2 (T 7) (T 35)⟩]) (.seq (.draw [⟨.free, ⟨(some 36), none, .fieldAddr 1 (T 5)⟩⟩, ⟨.rd, ⟨(some 37), none, .load1 (T 36)⟩⟩, ⟨.free, ⟨(some 38), none, .fieldAddr 0 (T 7)⟩⟩, ⟨.rd, ⟨(some 39), none, .load1 (T 38)⟩⟩, ⟨.free, ⟨(some 40), none, .mov (T 1)⟩⟩, ⟨.rd1, ⟨(some 41), none, .loadN 2 (T 7)⟩⟩, ⟨.up, ⟨(some 42), none, .call (.func 108) [(T 41)]⟩⟩, ⟨.free, ⟨(some 43), none, .plain (.binOp .rem 3 (T 40) (T 42) 3) 3⟩⟩, ⟨.free, ⟨(some 44), none, .int2 .add (T 39) (T 43)⟩⟩, ⟨.up, ⟨(some 45), none, .bslice 1 1 [(.int .i64 (0))] [0] [(T 44)]⟩⟩, ⟨.any, ⟨(some 46), none, .append 1 8 (T 37) (T 45)⟩⟩, ⟨.free, ⟨(some 47), none, .fieldAddr 1 (T 5)⟩⟩, ⟨.any, ⟨none, none, .store 1 (T 47) (T 46)⟩⟩]) (.ops [⟨(some 48), none, .mov (T 1)⟩, ⟨(some 49), none, .loadN 2 (T 7)⟩, ⟨(some 50), none, .call (.func 108) [(T 49)]⟩, ⟨(some 51), none, .plain (.binOp .quo 3 (T 48) (T 50) 3) 3⟩, ⟨(some 1), none, .mov (T 51)⟩])))) (.ops [⟨(some 28), none, .mov (T 6)⟩, ⟨(some 29), none, .int2 .add (T 28) (.const (.int .i64 (1)))⟩, ⟨(some 6), none, .mov (T 29)⟩])))))) (.seq (.ops [⟨(some 52), none, .loadN 2 (T 5)⟩, ⟨none, none, .store 2 (T 4) (T 52)⟩]) .ret)))))
theorem fok69 : FnOk Try.prog 69 53 s69 [.cellN 4 2] := ⟨Try.f69, _, Try.func69, rfl, Try.ntmps69, by kernel_rfl, by kernel_rfl⟩
set_option maxHeartbeats 1000000 in
theorem nthG_c (hn : 100 ≤ n) (hr : h.next + 100 < far) (hfl : h.floor ≤ h.next) {vv sv : Value} {S : MB} (hy : BeatR h vv sv S) (hG : Good S) {m : Nat} (hm : m ≤ 100000) :
    ∃ cw h', call n (.func (.func 69) #[] #[]) [.agg ⟨beL S vv sv⟩, .int .i64 (m : Int)] h = some (.agg ⟨coL (nthU S m 0) cw⟩, h') ∧ CouR h' cw S (nthU S m) ∧ (∀ i, i < h.next → h'.get i = h.get i) ∧ h.next ≤ h'.next ∧ h'.next ≤ h.next + 40 ∧ h'.floor = h.floor ∧ GrowC h.next h' cw 1 S.nv (fun i _ => .int .i64 (nthU S m (i + 1))) := by
  obtain ⟨n, rfl⟩ : ∃ p, n = p + 1 := ⟨n - 1, by omega⟩
  have h0 : numU S = S.nv + 1 := by unfold numU; omega
  obtain ⟨z0, z1, z3, _⟩ := hG.sizes
  suffices hs : ∃ v h', call (n + 1) (.func (.func 69) #[] #[]) [.agg ⟨beL S vv sv⟩, .int .i64 (m : Int)] h = some (v, h') ∧ ∃ cw, v = .agg ⟨coL (nthU S m 0) cw⟩ ∧ CouR h' cw S (nthU S m) ∧ (∀ i, i < h.next → h'.get i = h.get i) ∧ h.next ≤ h'.next ∧ h'.next ≤ h.next + 40 ∧ h'.floor = h.floor ∧ GrowC h.next h' cw 1 S.nv (fun i _ => .int .i64 (nthU S m (i + 1))) by
    obtain ⟨v, h', e, cw, rfl, q⟩ := hs
    exact ⟨cw, h', e, q⟩
  have hgen : ∀ j, j < numU S → ∀ lo hi : Int, lo = uLo S j → hi = uHi S j → (∀ g' : AHeap, g'.next < far → call n (.func (.func 108) #[] #[]) [.agg ⟨[.int .i64 lo, .int .i64 hi]⟩] g' = some (.int .i64 ((uSz S j : Nat) : Int), g')) ∧ ¬ ((uSz S j : Nat) : Int) = 0 ∧ ((divN (uSz S) m j : Nat) : Int).tmod ((uSz S j : Nat) : Int) = ((divN (uSz S) m j % uSz S j : Nat) : Int) ∧ wrapF .i64 (lo + ((divN (uSz S) m j % uSz S j : Nat) : Int)) = nthU S m j ∧ IntKind.wrap .i64 (((divN (uSz S) m j : Nat) : Int).tdiv ((uSz S j : Nat) : Int)) = ((divN (uSz S) m (j + 1) : Nat) : Int) := by
    intro j hj lo hi el eh
    obtain ⟨a1, a2, a3⟩ := hG.u j hj
    obtain ⟨a4, a5, a6⟩ := hG.sz hj
    have hmd := Nat.mod_lt (divN (uSz S) m j) (show 0 < uSz S j by omega)
    have hle := divN_le' (s := uSz S) (m := m) j
    subst el eh
    refine ⟨fun g' hg' => ?_, by omega, rfl, by rw [nthU_is hj]; exact wrap_in (by omega) (by omega), ?_⟩
    · rw [size_c (n := n) (h := g') (by omega) hg', wrap_in (z := uHi S j - uLo S j) (by omega) (by omega), wrap_in (by omega) (by omega), a4]
    · have e : ((divN (uSz S) m j : Nat) : Int).tdiv ((uSz S j : Nat) : Int) = ((divN (uSz S) m j / uSz S j : Nat) : Int) := rfl
      have hd := Nat.div_le_self (divN (uSz S) m j) (uSz S j)
      rw [e, IntKind.wrap_i64]
      simp only [divN]
      generalize divN (uSz S) m j / uSz S j = dq at hd
      omega
  refine call_any0 fok69 rfl rfl (by simp) ?_
  simp only [s69, W_seq, W_ops]
  refine ops_box (cs := beL S vv sv) (by omega) rfl hy.one fun g1 hx1 => ?_
  have n1 := hx1.next
  have f1' := hx1.floor
  refine ops_alloc (cs := coL 0 nilS) (by omega) rfl fun g2 hx2 => ?_
  have n2 := hx2.next
  have f2' := hx2.floor
  have r1 := hx1.row.mono hx2.sub
  have old2 : ∀ i, i < h.next → g2.get i = h.get i := fun i hi => by rw [hx2.old i (by omega), hx1.old i hi]
  obtain ⟨es, y2, y3, y4, y5⟩ := hgen 0 (by omega) S.slo S.shi rfl rfl
  rw [show divN (uSz S) m 0 = m from rfl] at y3 y4 y5
  simp only [rn0, rn1, rn2, rn3, rn4, rn5, rn6, rn7, rn8, if_true, if_false, Nat.le_refl, true_and, and_true, decide_true, decide_false, Bool.not_true, Bool.not_false, reduceIte, Nat.reduceEqDiff, Nat.reduceAdd, Nat.reduceMul, Nat.reduceSub, Nat.reduceLeDiff, Nat.reduceLT]
  refine W_draw All ?_
  simp only [rn0, rn1, rn2, rn3, rn4, rn5, rn6, rn7, rn8, if_true, if_false, Nat.le_refl, true_and, and_true, decide_true, decide_false, Bool.not_true, Bool.not_false, reduceIte, Nat.reduceEqDiff, Nat.reduceAdd, Nat.reduceMul, Nat.reduceSub, Nat.reduceLeDiff, Nat.reduceLT, r1.ld, beg, be_rng r1, Nat.zero_add, Nat.add_zero, eqV_int, es g2 (by omega), valN_tmp, Nat.reduceLT, p_rem, r_rem y2, y3, y4, build_c1]
  refine up_row (cs := coL 0 nilS) (by omega) rfl rfl (fun g3 hx => hx.sub) fun g3 hx3 => ?_
  have n3 := hx3.next
  have f3' := hx3.floor
  simp only [rn0, rn1, rn2, rn3, rn4, rn5, rn6, rn7, rn8, if_true, if_false, Nat.le_refl, true_and, and_true, decide_true, decide_false, Bool.not_true, Bool.not_false, reduceIte, Nat.reduceEqDiff, Nat.reduceAdd, Nat.reduceMul, Nat.reduceSub, Nat.reduceLeDiff, Nat.reduceLT]
  refine up_store (b := g2.next) (off := 0) (vs := coL (nthU S m 0) nilS) rfl hx3.get (by omega) (by omega) rfl rfl rfl (by simp [coL]) (fun _ _ => trivial) fun g4 hs4 => ?_
  rw [splice_all (by rfl)] at hs4
  have n4 := hs4.next
  have f4' := hs4.floor
  have old4 : ∀ i, i < g2.next → g4.get i = g2.get i := fun i hi => by rw [hs4.old i (by omega), hx3.old i hi]
  have r14 : Row g4 h.next (beL S vv sv) := r1.mono (AHeap.subOf old4)
  simp only [rn0, rn1, rn2, rn3, rn4, rn5, rn6, rn7, rn8, if_true, if_false, Nat.le_refl, true_and, and_true, decide_true, decide_false, Bool.not_true, Bool.not_false, reduceIte, Nat.reduceEqDiff, Nat.reduceAdd, Nat.reduceMul, Nat.reduceSub, Nat.reduceLeDiff, Nat.reduceLT, be_rng r14, es g4 (by omega), valN_tmp, Nat.reduceLT, p_quo, r_quo y2, y5]
  refine W_loop S.nv (fun k f g ms => (∃ w, (∀ i, i < g2.next → g.get i = g2.get i) ∧ g.floor = h.floor ∧ g4.next ≤ g.next ∧ g.next ≤ g4.next + 4 * k ∧ GrowC g4.next g w 1 k (fun i _ => .int .i64 (nthU S m (i + 1))) ∧ g.get g2.next = some (.row (coL (nthU S m 0) w) true 0)) ∧ ms = [] ∧ f 1 = .int .i64 ((divN (uSz S) m (k + 1) : Nat) : Int) ∧ f 2 = .pointer (some ⟨h.next, 0, none⟩) ∧ f 4 = .pointer (some ⟨g1.next, 0, none⟩) ∧ f 5 = .pointer (some ⟨g2.next, 0, none⟩) ∧ f 6 = .int .i64 (k : Int)) (by simp; omega) ?_ ?_ ?_
  · simp only [rn0, rn1, rn2, rn3, rn4, rn5, rn6, rn7, rn8, if_true, if_false, Nat.le_refl, true_and, and_true, decide_true, decide_false, Bool.not_true, Bool.not_false, reduceIte, Nat.reduceEqDiff, Nat.reduceAdd, Nat.reduceMul, Nat.reduceSub, Nat.reduceLeDiff, Nat.reduceLT, Nat.zero_add, Int.natCast_zero]
    exact ⟨nilS, old4, by omega, by omega, .nil, hs4.get⟩
  · rintro k f g ms hk ⟨⟨w, hs, hfg, hup, hnx, gv, grow⟩, rfl, p1, p2, p4, p5, p6⟩
    have hk' : (k : Int) < (S.nv : Int) := by omega
    have hw : wrapF .i64 ((k : Int) + 1) = ((k + 1 : Nat) : Int) := by rw [wrap_in (by omega) (by omega)]; rfl
    have oldg : ∀ i, i < h.next → g.get i = h.get i := fun i hi => by rw [hs i (by omega), old2 i hi]
    have hyg := hy.mono (AHeap.subOf oldg)
    have rg : Row g h.next (beL S vv sv) := r1.mono (AHeap.subOf hs)
    simp only [rn0, rn1, rn2, rn3, rn4, rn5, rn6, rn7, rn8, if_true, if_false, Nat.le_refl, true_and, and_true, decide_true, decide_false, Bool.not_true, Bool.not_false, reduceIte, Nat.reduceEqDiff, Nat.reduceAdd, Nat.reduceMul, Nat.reduceSub, Nat.reduceLeDiff, Nat.reduceLT, p1, p2, p4, p5, p6, rg.ld, beg, Nat.zero_add, Cells.len hyg.v, hk', Cells.idx hyg.v hk, Cells.fld hyg.v hk, need_ld hyg hk]
    refine step_new (vs := [.int .i64 (S.nlo k), .int .i64 (S.nhi k)]) (by omega) (by omega) rfl (by simp only [rn0, rn1, rn2, rn3, rn4, rn5, rn6, rn7, rn8, if_true, if_false, Nat.le_refl, true_and, and_true, decide_true, decide_false, Bool.not_true, Bool.not_false, reduceIte, Nat.reduceEqDiff, Nat.reduceAdd, Nat.reduceMul, Nat.reduceSub, Nat.reduceLeDiff, Nat.reduceLT]; rfl) rfl rfl rfl fun g5 hx5 => ?_
    have n5 := hx5.next
    have f5 := hx5.floor
    have gv5 := gv.sub hx5.sub
    have grow5 : g5.get g2.next = _ := hx5.sub _ _ _ _ trivial grow
    have rt : Row g5 g2.next _ := ⟨_, _, grow5⟩
    have w5 := hx5.row.whole (n := 2) rfl
    obtain ⟨esz, x2, x3, x4, x5⟩ := hgen (k + 1) (by omega) (S.nlo k) (S.nhi k) uLo_succ.symm uHi_succ.symm
    have ne1 : NeB w g2.next := neB_of gv5 (by left; omega)
    have ne2 : NeB w g.next := neB_of gv (by right; omega)
    simp only [rn0, rn1, rn2, rn3, rn4, rn5, rn6, rn7, rn8, if_true, if_false, Nat.le_refl, true_and, and_true, decide_true, decide_false, Bool.not_true, Bool.not_false, reduceIte, Nat.reduceEqDiff, Nat.reduceAdd, Nat.reduceMul, Nat.reduceSub, Nat.reduceLeDiff, Nat.reduceLT]
    refine W_draw (NeB w) ?_
    simp only [rn0, rn1, rn2, rn3, rn4, rn5, rn6, rn7, rn8, if_true, if_false, Nat.le_refl, true_and, and_true, decide_true, decide_false, Bool.not_true, Bool.not_false, reduceIte, Nat.reduceEqDiff, Nat.reduceAdd, Nat.reduceMul, Nat.reduceSub, Nat.reduceLeDiff, Nat.reduceLT, rd_1, rd_N, rd_neb, ne1, ne2, p1, p2, p4, p5, p6, rt.ld, hx5.row.ld, w5, cog, Nat.zero_add, List.getElem?_cons_zero, gv5.cells.self, eqV_int, self_two, esz g5 (by omega), valN_tmp, Nat.reduceLT, p_rem, r_rem x2, x3, x4, sl_int]
    refine up_slice (by omega) rfl (fun g6 hx i cs w gr _ e => hx.sub i cs w gr trivial e) fun g6 hx6 => ?_
    have n6 := hx6.next
    obtain ⟨w', g7, e7, gv7, o7, n7, f7, old7, u7⟩ := grow_push2 (h := g5) (bytes := 8) gv5 (by omega) (by omega) (by omega) hx6 rfl rfl (fun j hj => by rw [one_get j hj]) (by simp [maxBytes]; omega) (by simp [maxBytes]; omega)
    simp only [rn0, rn1, rn2, rn3, rn4, rn5, rn6, rn7, rn8, if_true, if_false, Nat.le_refl, true_and, and_true, decide_true, decide_false, Bool.not_true, Bool.not_false, reduceIte, Nat.reduceEqDiff, Nat.reduceAdd, Nat.reduceMul, Nat.reduceSub, Nat.reduceLeDiff, Nat.reduceLT, rd_1, rd_N, rd_neb, ne1, ne2, p1, p2, p4, p5, p6, e7, Nat.zero_add]
    refine ⟨by omega, ?_⟩
    refine up_store (b := g2.next) (off := 1) (vs := [w']) rfl (by rw [old7 _ (by omega) ne1]; exact grow5) (by omega) (by omega) (cells1 o7) (by simp [allB, o7]) rfl (by simp [coL]) (fun _ _ => trivial) fun g8 hs8 => ?_
    have n8 := hs8.next
    have f8 := hs8.floor
    have w8 : loadAgg 2 g8 (.pointer (some ⟨g.next, 0, none⟩)) = some (.agg ⟨[.int .i64 (S.nlo k), .int .i64 (S.nhi k)]⟩) := by
      refine Row.whole (n := 2) ⟨true, 0, ?_⟩ rfl
      rw [hs8.old _ (by omega), old7 _ (by omega) ne2]
      exact hx5.get
    simp only [rn0, rn1, rn2, rn3, rn4, rn5, rn6, rn7, rn8, if_true, if_false, Nat.le_refl, true_and, and_true, decide_true, decide_false, Bool.not_true, Bool.not_false, reduceIte, Nat.reduceEqDiff, Nat.reduceAdd, Nat.reduceMul, Nat.reduceSub, Nat.reduceLeDiff, Nat.reduceLT, p1, p2, p4, p5, p6, w8, esz g8 (by omega), valN_tmp, Nat.reduceLT, p_quo, r_quo x2, x5, hw]
    exact ⟨w', fun i hi => by rw [hs8.old i (by omega), old7 i (by omega) (neB_of gv5 (by left; omega)), hx5.old i (by omega), hs i hi], by omega, by omega, by omega, gv7.keep hs8.keep (by omega), hs8.get⟩
  rintro f ga ms ⟨⟨w', hsa, hfa, hupa, hnxa, gva, growa⟩, rfl, p1, p2, p4, p5, p6⟩
  have olda : ∀ i, i < h.next → ga.get i = h.get i := fun i hi => by rw [hsa i (by omega), old2 i hi]
  have hya := hy.mono (AHeap.subOf olda)
  have rga : Row ga h.next (beL S vv sv) := r1.mono (AHeap.subOf hsa)
  have hm3 : ga.get g1.next = some (.row (coL 0 nilS) true 0) := by rw [hsa _ (by omega)]; exact hx2.get
  have rca : Row ga g2.next (coL (nthU S m 0) w') := ⟨_, _, growa⟩
  simp only [rn0, rn1, rn2, rn3, rn4, rn5, rn6, rn7, rn8, if_true, if_false, Nat.le_refl, true_and, and_true, decide_true, decide_false, Bool.not_true, Bool.not_false, reduceIte, Nat.reduceEqDiff, Nat.reduceAdd, Nat.reduceMul, Nat.reduceSub, Nat.reduceLeDiff, Nat.reduceLT, p1, p2, p4, p5, p6, rga.ld, beg, Nat.zero_add, Cells.len hya.v, Int.lt_irrefl, rca.whole (n := 2) rfl]
  refine step_store (b := g1.next) (off := 0) (vs := coL (nthU S m 0) w') rfl hm3 (by omega) (by omega) rfl (by simp [coL, allB, gva.one, one_int]) rfl (by simp [coL]) fun gb hsb => ?_
  rw [splice_all (by rfl)] at hsb
  have nb := hsb.next
  have fb := hsb.floor
  simp only [rn0, rn1, rn2, rn3, rn4, rn5, rn6, rn7, rn8, if_true, if_false, Nat.le_refl, true_and, and_true, decide_true, decide_false, Bool.not_true, Bool.not_false, reduceIte, Nat.reduceEqDiff, Nat.reduceAdd, Nat.reduceMul, Nat.reduceSub, Nat.reduceLeDiff, Nat.reduceLT, p4, res_cellN, hsb.row.whole (n := 2) rfl]
  have gvb := gva.keep hsb.keep (by omega)
  exact ⟨_, rfl, gvb.cells, fun i hi => by rw [hsb.old i (by omega), olda i hi], by omega, by omega, by omega, gvb.le (by omega)⟩
end Go.Vm.Bt
