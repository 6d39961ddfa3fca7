/- Texts of the proofs of this seat, put together: BtC, BtBest, BtV4, VmMapU, BtVerd, BtMod, BtNth, BtTruths, BtRefT, BtDoneR, BtDoneV, BtBoundsL. -/
import Derived.Test.YtjihegbffhhcaaaPk11
import Derived.Test.YtjihegbffhhcaaaRows
import Derived.WalkKit
import Derived.ProofKit
import Derived.OpenShut

namespace Go.Vm.Bt
open Go.Vm.Vat Go.Vm.L2 Go.Proofs Go.ChangeShapes Go.WideShapes Go.ChangeAt Go.RowKit
set_option linter.unusedSimpArgs false
set_option linter.unusedVariables false
set_option maxRecDepth 10000
variable {n : Nat} {h : AHeap}
theorem own : ownKnob Try.prog.godebug = none := by kernel_rfl
theorem mixedOn : Try.prog.follows .mixedOrders = true := by kernel_rfl
theorem namesAll : (Try.prog.funcs.toList.all fun fn => !(fn.name == "runtime.NumGoroutine")) = true := by kernel_rfl
theorem namesFine : NamesFine Try.prog := by
  intro f fn hf
  have h := List.all_eq_true.1 namesAll fn (Array.mem_toList_iff.2 (Array.mem_of_getElem? hf))
  simpa using h
theorem tabOk : ∀ E ∈ BtAwake.tab, ∃ cf, SoundCF Try.prog cf ∧ entryOk cf E = true := by
  have hs := vm_sound namesFine mixedOn BtAwake.quiet 1000
  intro E hE
  refine ⟨_, hs, ?_⟩
  revert E
  simp only [BtAwake.tab, List.forall_mem_cons, List.not_mem_nil, false_implies, implies_true, and_true]
  exact ⟨BtAwake.ok0, BtAwake.ok1, BtAwake.ok2, BtAwake.ok3, BtAwake.ok4, BtAwake.ok5, BtAwake.ok6, BtAwake.ok7, BtAwake.ok8, BtAwake.ok9, BtAwake.ok10, BtAwake.ok11⟩
theorem kOk : KOk Try.prog K := by
  intro f v hK
  unfold K at hK
  split at hK
  · rename_i e
    subst e
    cases hK
    refine ⟨rfl, acallO Try.prog BtAwake.quiet BtAwake.tab 1000, ?_⟩
    have hm := BtAwake.main_ok
    cases hr : acallO Try.prog BtAwake.quiet BtAwake.tab 1000 (.func (.func 24) #[] #[]) [] AHeap.empty with
    | none => rw [hr] at hm; cases hm
    | some vh =>
      obtain ⟨v, h'⟩ := vh
      rw [hr] at hm
      unfold BtAwake.isTrue at hm
      split at hm
      · rename_i e
        cases e
        exact ⟨h', acallO_sound namesFine mixedOn BtAwake.quiet tabOk 1000, rfl⟩
      · cases hm
  · cases hK
theorem sound (n : Nat) : SoundCF Try.prog (call n) := pcall_sound namesFine mixedOn kOk n
theorem laidOk : laidOutB Try.prog = true := by kernel_rfl
theorem mapsOk : mapsRowed Try.prog = true := by kernel_rfl
theorem slicesOk : ((List.range Try.prog.types.size).all fun t => match Try.prog.underlying t with | some (.slice e) => decide (0 < Try.prog.cellsOf e) | _ => true) = true := by kernel_rfl
theorem kids : Kids Try.prog (· < Try.prog.types.size) := kids_rows laidOk mapsOk
theorem tsize : 120 < Try.prog.types.size := of_decide_eq_true (by kernel_rfl)
theorem cell_int {P : Program} {w : World} {r : Reach} {b : Nat} {t : TypeId} {k : IntKind} {v x : Value} (ht : P.underlying t = some (.int k)) (ho : Value.okWide P w r b t v) (hc : v.cells.toList = [x]) : v = x := by
  unfold Value.okWide at ho
  rw [ht] at ho
  cases v <;> simp_all [Value.cells, Cell.okWide, Cell.ok]
theorem agg_struct {P : Program} {w : World} {r : Reach} {b : Nat} {t : TypeId} {fs : Array Field} {v : Value} {cs : List Value} (ht : P.underlying t = some (.struct fs)) (ho : Value.okWide P w r b t v) (hc : v.cells.toList = cs) : v = .agg ⟨cs⟩ := by
  unfold Value.okWide at ho
  rw [ht] at ho
  obtain ⟨cs', rfl, _⟩ := ho
  subst hc
  rfl
theorem map_int {φ : Emb} {k : IntKind} {a : Int} : mapV φ (.int k a) = .int k a := by simp [mapV]
theorem stands_beat {w : World} {φ : Emb} {a b c : Int} {u1 u2 vv sv : Value} (h1 : Stands φ h u1 vv) (h2 : Stands φ h u2 sv) : mapV φ (.agg ⟨[.int .i64 a, .int .i64 b, u1, .int .i64 c, u2]⟩) = .agg ⟨[.int .i64 a, .int .i64 b, vv, .int .i64 c, sv]⟩ ∧ okV φ h.next (.agg ⟨[.int .i64 a, .int .i64 b, u1, .int .i64 c, u2]⟩) := by
  refine ⟨?_, ?_⟩
  · simp only [mapV, mapArr, mapL, h1.map, h2.map]
  · simp only [okV, okA, okL, and_true, true_and]
    exact ⟨h1.ok, h2.ok⟩
end Go.Vm.Bt

namespace Go.Vm.Bt
open Go.Proofs Go.Vm.Vat Go.Vm.L2
set_option linter.unusedSimpArgs false
set_option linter.unusedVariables false
set_option maxRecDepth 10000
variable {n : Nat} {h : AHeap}
def enL (S : MB) (c : Nat → Int) : List Value := (List.range S.nv).map fun v => .int .i64 (c v)
def chooseE (pw po pb pc : Nat) : Value := .func (.func 126) ⟨[]⟩ ⟨[.pointer (some ⟨pw, 0, none⟩), .pointer (some ⟨po, 0, none⟩), .pointer (some ⟨pb, 0, none⟩), .pointer (some ⟨pc, 0, none⟩)]⟩
structure BeS (S : MB) (vv sv tv : Value) (pw po pb pc pe B : Nat) (s : (Nat → Int) × Int) (c : Nat → Int) (g : AHeap) : Prop where
  o : OpS g vv sv tv S
  w : Row g pw (wkL S vv sv tv)
  cl : Row g pc [chooseE pw po pb pc]
  wo : g.get po = some (.row [.int .i64 s.2] true 0)
  be : ∃ bv, g.get pb = some (.row [bv] true 0) ∧ Ints g bv S.nv s.1 ∧ oneCell bv = true ∧ ∀ a k q, bv = .slice (some a) k q → a.block ≠ pe ∧ a.block ≠ po ∧ a.block ≠ pb
  e : g.get pe = some (.row (enL S c) true 0)
  fl : g.floor = B
  ne : pe ≠ po ∧ pe ≠ pb ∧ po ≠ pb ∧ B ≤ pe ∧ B ≤ po ∧ B ≤ pb ∧ pw ≠ pe ∧ pw ≠ po ∧ pw ≠ pb ∧ pc ≠ pe ∧ pc ≠ po ∧ pc ≠ pb
def ApartS (S : MB) (vv sv tv : Value) (x : Nat) : Prop := (0 < S.nv → NeB vv x) ∧ (0 < S.ns → NeB sv x) ∧ NeB tv x
theorem cells_keep {g g' : AHeap} {v : Value} {s m o : Nat} {c : Nat → Nat → Value} (hc : Cells g v s m c) (k : Keep o g g') (hb : 0 < m → NeB v o) : Cells g' v s m c := by
  by_cases h0 : m = 0
  · obtain ⟨a, cap, e, sp, _⟩ := hc
    exact ⟨a, cap, e, sp, .inl h0⟩
  · exact Cells.keep hc k fun a m c e => (hb (by omega) a m c e).symm
theorem OpS.set {g g' : AHeap} {vv sv tv : Value} {S : MB} {b gr : Nat} {cs : List Value} (ho : OpS g vv sv tv S) (hs : Set1 g g' b cs gr) (ha : ApartS S vv sv tv b) : OpS g' vv sv tv S := by
  have k := hs.keep
  exact ⟨ho.good, ho.some, ⟨cells_keep ho.y.v k ha.1, cells_keep ho.y.s k ha.2.1⟩, ho.one, Cells.keep ho.d k fun a m c e => (ha.2.2 a m c e).symm, ho.long⟩
end Go.Vm.Bt

namespace Go.Vm.Bt
open Go.Proofs Go.Vm.Vat Go.Vm.L2
set_option linter.unusedSimpArgs false
set_option linter.unusedVariables false
set_option maxRecDepth 10000
variable {n : Nat} {h : AHeap}
open Classical in
noncomputable def errS (S : MB) : Int := if faultS S ≠ 0 then faultS S else if truthsS S = [] then 11 else 0
noncomputable def cntS (S : MB) : Nat := if errS S = 0 then S.nv else 0
theorem errS_zero {S : MB} : errS S = 0 ↔ Good S ∧ truthsS S ≠ [] := by
  unfold errS
  by_cases c1 : faultS S = 0
  · rw [if_neg (by simpa using c1)]
    by_cases c2 : truthsS S = []
    · rw [if_pos c2]; simp [c2]
    · rw [if_neg c2]; simp [c2, good_of c1]
  · rw [if_pos c1]
    exact ⟨fun e => absurd e c1, fun e => fault_of e.1⟩
def s36 : SCode := (.seq (.ops [⟨(some 1), none, .box (T 0)⟩, ⟨(some 2), none, .mov (.const (.slice none 0 0))⟩, ⟨(some 3), none, .mov (.const (.int .i64 (0)))⟩]) (.seq (.ops [⟨(some 9), none, .loadN 5 (T 1)⟩, ⟨(some 10), none, .call (.func 86) [(T 9), (.const (.slice none 0 0))]⟩, ⟨(some 8), none, .mov (T 10)⟩, ⟨(some 11), none, .extract 0 (T 8)⟩, ⟨(some 12), none, .extract 1 (T 8)⟩, ⟨(some 4), none, .alloc [(.int .i64 (0)), (.int .i64 (0)), (.slice none 0 0), (.int .i64 (0)), (.slice none 0 0), (.slice none 0 0)]⟩, ⟨none, none, .store 6 (T 4) (T 11)⟩, ⟨(some 5), none, .mov (T 12)⟩]) (.seq (.seq (.ops [⟨(some 13), none, .mov (T 5)⟩, ⟨(some 14), none, .int2 .neq (T 13) (.const (.int .i64 (0)))⟩]) (.cond (T 14) (.seq (.ops [⟨(some 15), none, .mov (T 5)⟩, ⟨(some 2), none, .mov (.const (.slice none 0 0))⟩, ⟨(some 3), none, .mov (T 15)⟩]) .ret) .skip)) (.seq (.ops [⟨(some 6), none, .mov (.const (.slice none 0 0))⟩]) (.seq (.seq (.ops [⟨(some 16), none, .fieldAddr 0 (T 4)⟩, ⟨(some 17), none, .fieldAddr 2 (T 16)⟩, ⟨(some 18), none, .load1 (T 17)⟩, ⟨(some 19), none, .len (T 18)⟩, ⟨(some 20), none, .mov (.const (.int .i64 (0)))⟩]) (.block 0 (.loop (.seq (.ops [⟨(some 21), none, .int2 .lss (T 20) (T 19)⟩]) (.seq (.cond (T 21) .skip (.exit 0)) (.seq (.block 1 (.seq (.ops [⟨(some 22), none, .mov (T 20)⟩, ⟨(some 7), none, .mov (T 22)⟩]) (.ops [⟨(some 23), none, .mov (T 6)⟩, ⟨(some 24), none, .loadN 6 (T 4)⟩, ⟨(some 25), none, .mov (T 7)⟩, ⟨(some 26), none, .call (.func 87) [(T 24), (T 25)]⟩, ⟨(some 27), none, .bslice 2 1 [(.int .i64 (0)), (.int .i64 (0))] [0] [(T 26)]⟩, ⟨(some 28), none, .append 2 16 (T 23) (T 27)⟩, ⟨(some 6), none, .mov (T 28)⟩]))) (.ops [⟨(some 29), none, .int2 .add (T 20) (.const (.int .i64 (1)))⟩, ⟨(some 20), none, .mov (T 29)⟩]))))))) (.seq (.ops [⟨(some 30), none, .mov (T 6)⟩, ⟨(some 2), none, .mov (T 30)⟩, ⟨(some 3), none, .mov (.const (.int .i64 (0)))⟩]) .ret))))))
theorem fok36 : FnOk Try.prog 36 31 s36 [.tmp 2, .tmp 3] := ⟨Try.f36, _, Try.func36, rfl, Try.ntmps36, by kernel_rfl, by kernel_rfl⟩
set_option maxHeartbeats 1000000 in
theorem boundsV_c (hn : 900 ≤ n) (hr : h.next + 60000 < far) (hfl : h.floor ≤ h.next) {vv sv : Value} {S : MB} (hy : BeatR h vv sv S) (hTh : ThinS S) :
    ∃ r h', call n (.func (.func 36) #[] #[]) [.agg ⟨beL S vv sv⟩] h = some (.tuple ⟨[r, .int .i64 (errS S)]⟩, h') ∧ Ranges h' r (cntS S) (bLo S) (bHi S) ∧ oneCell r = true ∧ (∀ i, i < h.next → h'.get i = h.get i) ∧ h.next ≤ h'.next ∧ h'.next ≤ h.next + 27000 ∧ h'.floor = h.floor := by
  obtain ⟨n, rfl⟩ : ∃ p, n = p + 1 := ⟨n - 1, by omega⟩
  suffices hs : ∃ v h', call (n + 1) (.func (.func 36) #[] #[]) [.agg ⟨beL S vv sv⟩] h = some (v, h') ∧ ∃ r, v = .tuple ⟨[r, .int .i64 (errS S)]⟩ ∧ Ranges h' r (cntS S) (bLo S) (bHi S) ∧ oneCell r = true ∧ (∀ i, i < h.next → h'.get i = h.get i) ∧ h.next ≤ h'.next ∧ h'.next ≤ h.next + 27000 ∧ h'.floor = h.floor by
    obtain ⟨v, h', e, r, rfl, q⟩ := hs
    exact ⟨r, h', e, q⟩
  refine call_any0 fok36 rfl rfl (by simp) ?_
  have rnil : ∀ g : AHeap, Ranges g nilS 0 (bLo S) (bHi S) := fun g => ⟨none, 0, rfl, fun x e => (by cases e), .inl rfl⟩
  simp only [s36, W_seq, W_ops]
  refine ops_box (cs := beL S vv sv) (by omega) rfl hy.one fun g1 hx1 => ?_
  have n1 := hx1.next
  have f1 := hx1.floor
  obtain ⟨v, g2, eo, old2, u2, m2, f2, ho⟩ := open_c (n := n) (h := g1) (by omega) (by omega) (by omega) (hy.mono hx1.sub) hTh (P := True) (cv := nilS) fun _ => conds_nil
  have hold2 : ∀ i, i < h.next → g2.get i = h.get i := fun i hi => by rw [old2 i (by omega), hx1.old i hi]
  rcases ho with ⟨hf, rfl⟩ | ⟨hf, hp, rfl⟩ | ⟨hf, _, ht, rfl⟩ | ⟨hf, _, ht, tv, rfl, hone, hd, hfr, hlong⟩
  · have he : errS S = faultS S := by unfold errS; rw [if_pos hf]
    have hc : cntS S = 0 := by unfold cntS; rw [if_neg (by rw [he]; exact hf)]
    rw [he, hc]
    simp only [rn0, rn1, rn2, rn3, rn4, rn5, rn6, rn7, rn8, if_true, if_false, Nat.le_refl, true_and, and_true, decide_true, decide_false, Bool.not_true, Bool.not_false, reduceIte, Nat.reduceEqDiff, Nat.reduceAdd, Nat.reduceMul, Nat.reduceSub, Nat.reduceLeDiff, Nat.reduceLT, hx1.row.whole (n := 5) rfl, eo, ex0, ex1]
    refine step_new (vs := wkZ) (by omega) (by omega) rfl (by simp only [rn0, rn1, rn2, rn3, rn4, rn5, rn6, rn7, rn8, if_true, if_false, Nat.le_refl, true_and, and_true, decide_true, decide_false, Bool.not_true, Bool.not_false, reduceIte, Nat.reduceEqDiff, Nat.reduceAdd, Nat.reduceMul, Nat.reduceSub, Nat.reduceLeDiff, Nat.reduceLT]; rfl) rfl rfl rfl fun g3 hx3 => ?_
    have n3 := hx3.next
    have f3 := hx3.floor
    simp only [rn0, rn1, rn2, rn3, rn4, rn5, rn6, rn7, rn8, if_true, if_false, Nat.le_refl, true_and, and_true, decide_true, decide_false, Bool.not_true, Bool.not_false, reduceIte, Nat.reduceEqDiff, Nat.reduceAdd, Nat.reduceMul, Nat.reduceSub, Nat.reduceLeDiff, Nat.reduceLT, hf, ret_tt]
    exact ⟨_, rfl, rnil _, rfl, fun i hi => by rw [hx3.old i (by omega), hold2 i hi], by omega, by omega, by omega⟩
  · exact absurd trivial hp
  · have he : errS S = 11 := by unfold errS; rw [if_neg (by simpa using hf), if_pos ht]
    have hc : cntS S = 0 := by unfold cntS; rw [if_neg (by rw [he]; decide)]
    rw [he, hc]
    simp only [rn0, rn1, rn2, rn3, rn4, rn5, rn6, rn7, rn8, if_true, if_false, Nat.le_refl, true_and, and_true, decide_true, decide_false, Bool.not_true, Bool.not_false, reduceIte, Nat.reduceEqDiff, Nat.reduceAdd, Nat.reduceMul, Nat.reduceSub, Nat.reduceLeDiff, Nat.reduceLT, hx1.row.whole (n := 5) rfl, eo, ex0, ex1]
    refine step_new (vs := wkZ) (by omega) (by omega) rfl (by simp only [rn0, rn1, rn2, rn3, rn4, rn5, rn6, rn7, rn8, if_true, if_false, Nat.le_refl, true_and, and_true, decide_true, decide_false, Bool.not_true, Bool.not_false, reduceIte, Nat.reduceEqDiff, Nat.reduceAdd, Nat.reduceMul, Nat.reduceSub, Nat.reduceLeDiff, Nat.reduceLT]; rfl) rfl rfl rfl fun g3 hx3 => ?_
    have n3 := hx3.next
    have f3 := hx3.floor
    simp only [rn0, rn1, rn2, rn3, rn4, rn5, rn6, rn7, rn8, if_true, if_false, Nat.le_refl, true_and, and_true, decide_true, decide_false, Bool.not_true, Bool.not_false, reduceIte, Nat.reduceEqDiff, Nat.reduceAdd, Nat.reduceMul, Nat.reduceSub, Nat.reduceLeDiff, Nat.reduceLT, Int.reduceEq, ret_tt]
    exact ⟨_, rfl, rnil _, rfl, fun i hi => by rw [hx3.old i (by omega), hold2 i hi], by omega, by omega, by omega⟩
  have he : errS S = 0 := errS_zero.2 ⟨good_of hf, ht⟩
  have hc : cntS S = S.nv := by unfold cntS; rw [if_pos he]
  rw [he, hc]
  have hG := good_of hf
  obtain ⟨z0, z1, z3, _⟩ := hG.sizes
  have hy2 := hy.mono (AHeap.subOf hold2)
  simp only [rn0, rn1, rn2, rn3, rn4, rn5, rn6, rn7, rn8, if_true, if_false, Nat.le_refl, true_and, and_true, decide_true, decide_false, Bool.not_true, Bool.not_false, reduceIte, Nat.reduceEqDiff, Nat.reduceAdd, Nat.reduceMul, Nat.reduceSub, Nat.reduceLeDiff, Nat.reduceLT, hx1.row.whole (n := 5) rfl, eo, ex0, ex1]
  refine step_new (vs := wkL S vv sv tv) (by omega) (by omega) rfl (by simp only [rn0, rn1, rn2, rn3, rn4, rn5, rn6, rn7, rn8, if_true, if_false, Nat.le_refl, true_and, and_true, decide_true, decide_false, Bool.not_true, Bool.not_false, reduceIte, Nat.reduceEqDiff, Nat.reduceAdd, Nat.reduceMul, Nat.reduceSub, Nat.reduceLeDiff, Nat.reduceLT]; rfl) (wk_one hy2 hone) rfl rfl fun g3 hx3 => ?_
  have n3 := hx3.next
  have f3 := hx3.floor
  have ho3 : OpS g3 vv sv tv S := ⟨hG, ht, hy2.mono hx3.sub, hone, Cells.mono hd hx3.sub, hlong⟩
  simp only [rn0, rn1, rn2, rn3, rn4, rn5, rn6, rn7, rn8, if_true, if_false, Nat.le_refl, true_and, and_true, decide_true, decide_false, Bool.not_true, Bool.not_false, reduceIte, Nat.reduceEqDiff, Nat.reduceAdd, Nat.reduceMul, Nat.reduceSub, Nat.reduceLeDiff, Nat.reduceLT, hx3.row.ld, wkg, Nat.zero_add, Cells.len ho3.y.v]
  refine W_loop S.nv (fun k f g ms => (∃ v, (∀ i, i < g3.next → g.get i = g3.get i) ∧ g.floor = h.floor ∧ g3.next ≤ g.next ∧ g.next ≤ g3.next + 3 * k ∧ GrowC g3.next g v 2 k (fun k j => .int .i64 (if j = 0 then bLo S k else bHi S k)) ∧ f 6 = v) ∧ ms = [] ∧ f 4 = .pointer (some ⟨g2.next, 0, none⟩) ∧ f 19 = .int .i64 (S.nv : Int) ∧ f 20 = .int .i64 (k : Int)) (by simp; omega) ?_ ?_ ?_
  · simp only [rn0, rn1, rn2, rn3, rn4, rn5, rn6, rn7, rn8, if_true, if_false, Nat.le_refl, true_and, and_true, decide_true, decide_false, Bool.not_true, Bool.not_false, reduceIte, Nat.reduceEqDiff, Nat.reduceAdd, Nat.reduceMul, Nat.reduceSub, Nat.reduceLeDiff, Nat.reduceLT]
    exact ⟨⟨nilS, fun i _ => trivial, by omega, by omega, .nil, rfl⟩, rfl⟩
  · rintro k f g ms hk ⟨⟨v, hs, hfg, hup, hnx, gv, p6⟩, rfl, p4, p19, p20⟩
    have hk' : (k : Int) < (S.nv : Int) := by omega
    have hw : wrapF .i64 ((k : Int) + 1) = ((k + 1 : Nat) : Int) := by rw [wrap_in (by omega) (by omega)]; rfl
    have rg := hx3.row.mono (AHeap.subOf hs)
    have hog := ho3.mono (AHeap.subOf hs)
    have ed := whenDone_c (n := n) (h := g) (by omega) (by omega) hog hk
    simp only [rn0, rn1, rn2, rn3, rn4, rn5, rn6, rn7, rn8, if_true, if_false, Nat.le_refl, true_and, and_true, decide_true, decide_false, Bool.not_true, Bool.not_false, reduceIte, Nat.reduceEqDiff, Nat.reduceAdd, Nat.reduceMul, Nat.reduceSub, Nat.reduceLeDiff, Nat.reduceLT, p4, p6, p19, p20, hk', rg.whole (n := 6) rfl, ed, sl_range]
    refine step_slice (by omega) rfl fun g5 hx5 => ?_
    have n5 := hx5.next
    obtain ⟨v', g6, e6, gv6, o6, n6, f6, old6, u6⟩ := grow_push (h := g) (bytes := 16) gv (by omega) (by omega) (by omega) hx5 rfl rfl (fun j hj => by
      obtain rfl | rfl : j = 0 ∨ j = 1 := by omega
      all_goals rfl) (by simp [maxBytes]; omega) (by simp [maxBytes]; omega)
    simp only [rn0, rn1, rn2, rn3, rn4, rn5, rn6, rn7, rn8, if_true, if_false, Nat.le_refl, true_and, and_true, decide_true, decide_false, Bool.not_true, Bool.not_false, reduceIte, Nat.reduceEqDiff, Nat.reduceAdd, Nat.reduceMul, Nat.reduceSub, Nat.reduceLeDiff, Nat.reduceLT, p4, p6, p19, p20, e6, hw]
    have hfin := And.intro (fun i (hi : i < g3.next) => (by rw [old6 i hi, hs i hi] : g6.get i = g3.get i)) (And.intro (by omega : g6.floor = h.floor) (And.intro (by omega : g3.next ≤ g6.next) (And.intro (by omega : g6.next ≤ g3.next + 3 * (k + 1)) (And.intro gv6 (rfl : v' = v')))))
    first | exact ⟨⟨v', hfin⟩, rfl⟩ | exact ⟨v', hfin⟩
  · rintro f g ms ⟨⟨v, hs, hfg, hup, hnx, gv, p6⟩, rfl, p4, p19, p20⟩
    simp only [rn0, rn1, rn2, rn3, rn4, rn5, rn6, rn7, rn8, if_true, if_false, Nat.le_refl, true_and, and_true, decide_true, decide_false, Bool.not_true, Bool.not_false, reduceIte, Nat.reduceEqDiff, Nat.reduceAdd, Nat.reduceMul, Nat.reduceSub, Nat.reduceLeDiff, Nat.reduceLT, p4, p6, p19, p20, Int.lt_irrefl, ret_tt]
    exact ⟨_, rfl, gv.cells, gv.one, fun i hi => by rw [hs i (by omega), hx3.old i (by omega), hold2 i hi], by omega, by omega, by omega⟩
theorem sl_fn {f : Value} (hf : oneCell f = true) : buildSl 1 1 [.nilFunc] [0] h [f] = newSlice h [f] 1 1 0 := by
  cases f <;> first | (cases hf; done) | rfl
end Go.Vm.Bt

namespace Go.Vm
set_option linter.unusedSimpArgs false
set_option linter.unusedVariables false
section
variable {α : Type} [DecidableEq α] {P : Program} {t : TypeId} {kv : α → Value} {m : α → Int} {h : AHeap} {r : Nat}
theorem updateF (hk : KeyOk P t kv) (hm : MapF h r kv m) (hfl : h.floor ≤ r) (hf : h.next ≤ far) (p : α) (v : Int) :
    ∃ g, mapUpdateA P t h (.map (some r)) (kv p) (.int .i64 v) = some (undef, g) ∧ MapF g r kv (fun q => if q = p then v else m q) ∧ Turned h g r := by
  have hlt := hm.lt
  obtain ⟨l, c, hg, he⟩ := hm
  have hpv : plainV (.int .i64 v) = true := rfl
  unfold mapUpdateA amap
  simp only [hg, hk.plain, hpv, Bool.and_self, cond_true, hk.find, ble_iff.2 hfl]
  cases hfd : findK p l 0 with
  | none =>
    have hp := findK_none l 0 hfd
    have hv := valK_none l hp
    obtain ⟨g, e, hg', ht⟩ := setMap_run (h := h) (es := (⟨l.map (entK kv)⟩ : Array MapEntry).push { key := kv p, val := .int .i64 v, born := c }) (c := c + 1) (v := undef) hlt hf
    refine ⟨g, e, ⟨l ++ [(p, v, c)], c + 1, ?_, ⟨?_, ?_, ?_, ?_⟩⟩, ht⟩
    · rw [hg', List.push_toArray, List.map_append]; rfl
    · intro q
      rw [valK_app l hp, he.val]
    · rw [List.map_append, List.nodup_append]
      refine ⟨he.keys, by simp, ?_⟩
      intro a ha b hb e
      simp only [List.map_cons, List.map_nil, List.mem_singleton] at hb
      exact hp (by rw [← hb, ← e]; exact ha)
    · rw [List.map_append, List.nodup_append]
      refine ⟨he.borns, by simp, ?_⟩
      intro a ha b hb e
      simp only [List.map_cons, List.map_nil, List.mem_singleton] at hb
      obtain ⟨x, hx, rfl⟩ := List.mem_map.1 ha
      have := he.below x hx
      omega
    · intro x hx
      rcases List.mem_append.1 hx with hx | hx
      · have := he.below x hx; omega
      · simp only [List.mem_singleton] at hx
        subst hx; exact Nat.lt_succ_self _
  | some q =>
    obtain ⟨i, w⟩ := q
    obtain ⟨b, _, hi, rfl⟩ := findK_some l 0 i w hfd
    rw [Nat.sub_zero] at hi
    have hi2 : (⟨l.map (entK kv)⟩ : Array MapEntry)[i]? = some (entK kv (p, valK p l, b)) := by
      rw [List.getElem?_toArray, List.getElem?_map, hi]; rfl
    have hil : i < l.length := by
      rcases Nat.lt_or_ge i l.length with h1 | h1
      · exact h1
      · rw [List.getElem?_eq_none h1] at hi; cases hi
    obtain ⟨g, e, hg', ht⟩ := setMap_run (h := h) (es := (⟨l.map (entK kv)⟩ : Array MapEntry).modify i fun e => { e with key := kv p, val := .int .i64 v }) (c := c) (v := undef) hlt hf
    refine ⟨g, ?_, ⟨l.set i (p, v, b), c, ?_, ?_, ?_, ?_, ?_⟩, ht⟩
    · simp only [hi2, Option.map_some, Option.getD_some, entK, hk.same, cond_true]
      exact e
    · rw [hg']
      congr 2
      apply Array.ext'
      rw [Array.toList_modify]
      apply List.ext_getElem?
      intro k
      show _ = (List.map (entK kv) (l.set i (p, v, b)))[k]?
      rw [List.getElem?_modify, List.getElem?_map, List.getElem?_map, List.getElem?_set]
      by_cases e : i = k
      · subst e
        rw [if_pos rfl, if_pos hil, hi]
        simp [entK]
      · simp [e]
    · intro q
      rw [valK_set l i _ b he.keys hi, he.val]
    · rw [List.map_set]
      have : (l.map (·.1)).set i p = l.map (·.1) := by
        apply List.ext_getElem?
        intro k
        rw [List.getElem?_set]
        by_cases e : i = k
        · subst e; rw [if_pos rfl, List.length_map, if_pos hil, List.getElem?_map, hi]; rfl
        · simp [e]
      rw [this]; exact he.keys
    · rw [List.map_set]
      have : (l.map (·.2.2)).set i b = l.map (·.2.2) := by
        apply List.ext_getElem?
        intro k
        rw [List.getElem?_set]
        by_cases e : i = k
        · subst e; rw [if_pos rfl, List.length_map, if_pos hil, List.getElem?_map, hi]; rfl
        · simp [e]
      rw [this]; exact he.borns
    · intro x hx
      rcases List.mem_or_eq_of_mem_set hx with hx | rfl
      · exact he.below x hx
      · exact he.below (p, valK p l, b) (List.mem_of_getElem? hi)
end
end Go.Vm

namespace Go.Vm.Bt
open Go.Proofs Go.Vm.Vat Go.Vm.L2
set_option linter.unusedSimpArgs false
set_option linter.unusedVariables false
set_option maxRecDepth 10000
variable {n : Nat} {h : AHeap}
theorem two139 : Two Try.prog 139 := ⟨⟨_, _, Try.underlying139, by decide, by decide, rfl, rfl, by rfl, by rfl⟩, by kernel_rfl⟩
theorem key139 : KeyOk Try.prog 139 key2 := keyOk2 two139
theorem x_mapUpdate {P : Program} {cf : CallF} {N : Nat} {f : Go.Vm.Fr} {kt : TypeId} {m k x : Operand} : sem P cf N f h (.mapUpdate kt m k x) = mapUpdateA P kt h (val f m) (val f k) (val f x) := id rfl
noncomputable def verdV (S : MB) (v : Nat) (hh : Int) : Int := if bHi S v ≤ hh then 1 else if hh < bLo S v then 2 else 3
noncomputable def vmK (S : MB) (k j : Nat) (p : Int × Int) : Int := if 0 ≤ p.1 ∧ 0 ≤ p.2 ∧ (p.1 < (k : Int) ∧ p.2 ≤ S.last ∨ p.1 = (k : Int) ∧ p.2 < (j : Int)) then verdV S p.1.toNat p.2 else 0
theorem vmK_zero {S : MB} : vmK S 0 0 = fun _ => 0 := by
  funext p
  unfold vmK
  rw [if_neg]
  rintro ⟨h1, h2, h3 | h3⟩ <;> omega
theorem vmK_step {S : MB} {k j : Nat} : (fun q : Int × Int => if q = ((k : Int), (j : Int)) then verdV S k j else vmK S k j q) = vmK S k (j + 1) := by
  funext q
  obtain ⟨a, b⟩ := q
  by_cases e : (a, b) = ((k : Int), (j : Int))
  · rw [if_pos e]
    simp only [Prod.mk.injEq] at e
    obtain ⟨rfl, rfl⟩ := e
    unfold vmK
    rw [if_pos ⟨by simp, by simp, .inr ⟨rfl, by simp only; omega⟩⟩]
    simp
  · rw [if_neg e]
    simp only [Prod.mk.injEq] at e
    unfold vmK
    have : (0 ≤ a ∧ 0 ≤ b ∧ (a < (k : Int) ∧ b ≤ S.last ∨ a = (k : Int) ∧ b < (j : Int))) ↔ (0 ≤ a ∧ 0 ≤ b ∧ (a < (k : Int) ∧ b ≤ S.last ∨ a = (k : Int) ∧ b < ((j + 1 : Nat) : Int))) := by omega
    simp only [this]
theorem vmK_end {S : MB} {k j : Nat} (hj : (j : Int) = S.last + 1) : vmK S k j = vmK S (k + 1) 0 := by
  funext q
  obtain ⟨a, b⟩ := q
  unfold vmK
  have : (0 ≤ a ∧ 0 ≤ b ∧ (a < (k : Int) ∧ b ≤ S.last ∨ a = (k : Int) ∧ b < (j : Int))) ↔ (0 ≤ a ∧ 0 ≤ b ∧ (a < ((k + 1 : Nat) : Int) ∧ b ≤ S.last ∨ a = ((k + 1 : Nat) : Int) ∧ b < ((0 : Nat) : Int))) := by omega
  simp only [this]
def s91 : SCode := (.seq (.ops [⟨(some 1), none, .box (T 0)⟩, ⟨(some 2), none, .mov (.const (.map none))⟩]) (.seq (.ops [⟨(some 7), none, .mkmap⟩, ⟨(some 3), none, .mov (T 7)⟩]) (.seq (.seq (.ops [⟨(some 8), none, .fieldAddr 0 (T 1)⟩, ⟨(some 9), none, .fieldAddr 2 (T 8)⟩, ⟨(some 10), none, .load1 (T 9)⟩, ⟨(some 11), none, .len (T 10)⟩, ⟨(some 12), none, .mov (.const (.int .i64 (0)))⟩]) (.block 0 (.loop (.seq (.ops [⟨(some 13), none, .int2 .lss (T 12) (T 11)⟩]) (.seq (.cond (T 13) .skip (.exit 0)) (.seq (.block 1 (.seq (.ops [⟨(some 14), none, .mov (T 12)⟩, ⟨(some 4), none, .mov (T 14)⟩]) (.seq (.ops [⟨(some 15), none, .loadN 6 (T 1)⟩, ⟨(some 16), none, .mov (T 4)⟩, ⟨(some 17), none, .call (.func 87) [(T 15), (T 16)]⟩, ⟨(some 5), none, .alloc [(.int .i64 (0)), (.int .i64 (0))]⟩, ⟨none, none, .store 2 (T 5) (T 17)⟩]) (.seq (.ops [⟨(some 18), none, .fieldAddr 0 (T 1)⟩, ⟨(some 19), none, .fieldAddr 3 (T 18)⟩, ⟨(some 20), none, .load1 (T 19)⟩, ⟨(some 21), none, .int2 .add (T 20) (.const (.int .i64 (1)))⟩, ⟨(some 22), none, .mov (.const (.int .i64 (0)))⟩]) (.block 2 (.loop (.seq (.ops [⟨(some 23), none, .int2 .lss (T 22) (T 21)⟩]) (.seq (.cond (T 23) .skip (.exit 2)) (.seq (.block 3 (.seq (.ops [⟨(some 24), none, .mov (T 22)⟩, ⟨(some 6), none, .mov (T 24)⟩]) (.block 4 (.seq (.ops [⟨(some 30), none, .fieldAddr 1 (T 5)⟩, ⟨(some 31), none, .load1 (T 30)⟩, ⟨(some 32), none, .mov (T 6)⟩, ⟨(some 33), none, .int2 .leq (T 31) (T 32)⟩, ⟨(some 29), none, .mov (T 33)⟩]) (.cond (T 29) (.ops [⟨(some 34), none, .mov (T 3)⟩, ⟨(some 35), none, .mov (T 4)⟩, ⟨(some 36), none, .mov (T 6)⟩, ⟨(some 37), none, .build #[(0, 1), (1, 1)] [(.int .i64 (0)), (.int .i64 (0))] [0, 1] [(T 35), (T 36)]⟩, ⟨none, none, .mapUpdate 139 (T 34) (T 37) (.const (.int .i64 (1)))⟩]) (.seq (.ops [⟨(some 39), none, .mov (T 6)⟩, ⟨(some 40), none, .fieldAddr 0 (T 5)⟩, ⟨(some 41), none, .load1 (T 40)⟩, ⟨(some 42), none, .int2 .lss (T 39) (T 41)⟩, ⟨(some 38), none, .mov (T 42)⟩]) (.cond (T 38) (.ops [⟨(some 43), none, .mov (T 3)⟩, ⟨(some 44), none, .mov (T 4)⟩, ⟨(some 45), none, .mov (T 6)⟩, ⟨(some 46), none, .build #[(0, 1), (1, 1)] [(.int .i64 (0)), (.int .i64 (0))] [0, 1] [(T 44), (T 45)]⟩, ⟨none, none, .mapUpdate 139 (T 43) (T 46) (.const (.int .i64 (2)))⟩]) (.ops [⟨(some 25), none, .mov (T 3)⟩, ⟨(some 26), none, .mov (T 4)⟩, ⟨(some 27), none, .mov (T 6)⟩, ⟨(some 28), none, .build #[(0, 1), (1, 1)] [(.int .i64 (0)), (.int .i64 (0))] [0, 1] [(T 26), (T 27)]⟩, ⟨none, none, .mapUpdate 139 (T 25) (T 28) (.const (.int .i64 (3)))⟩])))))))) (.ops [⟨(some 47), none, .int2 .add (T 22) (.const (.int .i64 (1)))⟩, ⟨(some 22), none, .mov (T 47)⟩])))))))))) (.ops [⟨(some 48), none, .int2 .add (T 12) (.const (.int .i64 (1)))⟩, ⟨(some 12), none, .mov (T 48)⟩]))))))) (.seq (.ops [⟨(some 49), none, .mov (T 3)⟩, ⟨(some 2), none, .mov (T 49)⟩]) .ret))))
theorem fok91 : FnOk Try.prog 91 50 s91 [.tmp 2] := ⟨Try.f91, _, Try.func91, rfl, Try.ntmps91, by kernel_rfl, by kernel_rfl⟩
set_option maxHeartbeats 2000000 in
theorem verdicts_c (hn : 800 ≤ n) (hr : h.next + 7000 < far) (hfl : h.floor ≤ h.next) {vv sv tv : Value} {S : MB} (ho : OpS h vv sv tv S) :
    ∃ r h', call n (.func (.func 91) #[] #[]) [.agg ⟨wkL S vv sv tv⟩] h = some (.map (some r), h') ∧ MapF h' r key2 (vmK S S.nv 0) ∧ h.next ≤ r ∧ (∀ i, i < h.next → h'.get i = h.get i) ∧ h.next ≤ h'.next ∧ h'.next ≤ h.next + 20 ∧ h'.floor = h.floor := by
  obtain ⟨n, rfl⟩ : ∃ p, n = p + 1 := ⟨n - 1, by omega⟩
  obtain ⟨z0, z1, z3, _⟩ := ho.good.sizes
  suffices hsf : ∃ vv' h', call (n + 1) (.func (.func 91) #[] #[]) [.agg ⟨wkL S vv sv tv⟩] h = some (vv', h') ∧ ∃ r, vv' = .map (some r) ∧ MapF h' r key2 (vmK S S.nv 0) ∧ h.next ≤ r ∧ (∀ i, i < h.next → h'.get i = h.get i) ∧ h.next ≤ h'.next ∧ h'.next ≤ h.next + 20 ∧ h'.floor = h.floor by
    obtain ⟨_, h', e, r, rfl, q⟩ := hsf
    exact ⟨r, h', e, q⟩
  refine call_any0 fok91 rfl rfl (by simp) ?_
  simp only [s91, W_seq, W_ops]
  refine ops_box (cs := wkL S vv sv tv) (by omega) rfl (wk_one ho.y ho.one) fun g1 hx1 => ?_
  have n1 := hx1.next
  have f1 := hx1.floor
  obtain ⟨g2, em, hm2, ho2, n2, f2⟩ := mkmapF (h := g1) (by omega) key2
  have s12 : Sub All g1 g2 := AHeap.subOf ho2
  have r2 := hx1.row.mono s12
  have hop2 := ho.mono (hx1.sub.trans s12)
  have hlast : wrapF .i64 (S.last + 1) = S.last + 1 := wrap_in (by omega) (by omega)
  obtain ⟨W, hW⟩ : ∃ W : Nat, (W : Int) = S.last + 1 := ⟨(S.last + 1).toNat, by omega⟩
  rw [← vmK_zero (S := S)] at hm2
  simp only [rn0, rn1, rn2, rn3, rn4, rn5, rn6, rn7, rn8, if_true, if_false, Nat.le_refl, true_and, and_true, decide_true, decide_false, Bool.not_true, Bool.not_false, reduceIte, Nat.reduceEqDiff, Nat.reduceAdd, Nat.reduceMul, Nat.reduceSub, Nat.reduceLeDiff, Nat.reduceLT, x_mkmap, em, r2.ld, wkg, Nat.zero_add, Cells.len hop2.y.v]
  refine W_loop S.nv (fun k f g ms => ((∀ i, i ≠ g1.next → i < g2.next → g.get i = g2.get i) ∧ MapF g g1.next key2 (vmK S k 0) ∧ g2.next ≤ g.next ∧ g.next ≤ g2.next + 2 * k ∧ g.floor = h.floor) ∧ ms = [] ∧ f 1 = .pointer (some ⟨h.next, 0, none⟩) ∧ f 3 = .map (some g1.next) ∧ f 11 = .int .i64 (S.nv : Int) ∧ f 12 = .int .i64 (k : Int)) (by simp; omega) ?_ ?_ ?_
  · simp only [rn0, rn1, rn2, rn3, rn4, rn5, rn6, rn7, rn8, if_true, if_false, Nat.le_refl, true_and, and_true, decide_true, decide_false, Bool.not_true, Bool.not_false, reduceIte, Nat.reduceEqDiff, Nat.reduceAdd, Nat.reduceMul, Nat.reduceSub, Nat.reduceLeDiff, Nat.reduceLT, Int.natCast_zero]
    first | exact ⟨fun _ _ _ => trivial, hm2, by omega, by omega⟩ | exact ⟨⟨fun _ _ _ => trivial, hm2, by omega, by omega⟩, rfl⟩
  · rintro k f g ms hk ⟨⟨og, mg, ug, ng, fg⟩, rfl, p1, p3, p11, p12⟩
    have hk' : (k : Int) < (S.nv : Int) := by omega
    have hw : wrapF .i64 ((k : Int) + 1) = ((k + 1 : Nat) : Int) := by rw [wrap_in (by omega) (by omega)]; rfl
    have oldg : ∀ i, i < g1.next → g.get i = g1.get i := fun i hi => by rw [og i (by omega) (by omega), ho2 i hi]
    have rg : Row g h.next (wkL S vv sv tv) := hx1.row.mono (AHeap.subOf oldg)
    have hog : OpS g vv sv tv S := (ho.mono hx1.sub).mono (AHeap.subOf oldg)
    have ed := whenDone_c (n := n) (h := g) (by omega) (by omega) hog hk
    simp only [rn0, rn1, rn2, rn3, rn4, rn5, rn6, rn7, rn8, if_true, if_false, Nat.le_refl, true_and, and_true, decide_true, decide_false, Bool.not_true, Bool.not_false, reduceIte, Nat.reduceEqDiff, Nat.reduceAdd, Nat.reduceMul, Nat.reduceSub, Nat.reduceLeDiff, Nat.reduceLT, p1, p3, p11, p12, hk', rg.whole (n := 6) rfl, ed]
    refine step_new (vs := [.int .i64 (bLo S k), .int .i64 (bHi S k)]) (by omega) (by omega) rfl (by simp only [rn0, rn1, rn2, rn3, rn4, rn5, rn6, rn7, rn8, if_true, if_false, Nat.le_refl, true_and, and_true, decide_true, decide_false, Bool.not_true, Bool.not_false, reduceIte, Nat.reduceEqDiff, Nat.reduceAdd, Nat.reduceMul, Nat.reduceSub, Nat.reduceLeDiff, Nat.reduceLT]; rfl) rfl rfl rfl fun g4 hx4 => ?_
    have n4 := hx4.next
    have f4 := hx4.floor
    have rg4 := rg.mono hx4.sub
    have mg4 : MapF g4 g1.next key2 (vmK S k 0) := mg.keep (hx4.old _ mg.lt)
    simp only [rn0, rn1, rn2, rn3, rn4, rn5, rn6, rn7, rn8, if_true, if_false, Nat.le_refl, true_and, and_true, decide_true, decide_false, Bool.not_true, Bool.not_false, reduceIte, Nat.reduceEqDiff, Nat.reduceAdd, Nat.reduceMul, Nat.reduceSub, Nat.reduceLeDiff, Nat.reduceLT, p1, p3, p11, p12, rg4.ld, wkg, Nat.zero_add, hlast]
    rw [← hW]
    refine W_loop W (fun j f g' ms => ((∀ i, i ≠ g1.next → g'.get i = g4.get i) ∧ MapF g' g1.next key2 (vmK S k j) ∧ g'.next = g4.next ∧ g'.floor = g4.floor) ∧ ms = [] ∧ f 1 = .pointer (some ⟨h.next, 0, none⟩) ∧ f 3 = .map (some g1.next) ∧ f 4 = .int .i64 (k : Int) ∧ f 5 = .pointer (some ⟨g.next, 0, none⟩) ∧ f 11 = .int .i64 (S.nv : Int) ∧ f 12 = .int .i64 (k : Int) ∧ f 21 = .int .i64 (W : Int) ∧ f 22 = .int .i64 (j : Int)) (by simp; omega) ?_ ?_ ?_
    · simp only [rn0, rn1, rn2, rn3, rn4, rn5, rn6, rn7, rn8, if_true, if_false, Nat.le_refl, true_and, and_true, decide_true, decide_false, Bool.not_true, Bool.not_false, reduceIte, Nat.reduceEqDiff, Nat.reduceAdd, Nat.reduceMul, Nat.reduceSub, Nat.reduceLeDiff, Nat.reduceLT, p1, p3, p11, p12, Int.natCast_zero]
      first | exact ⟨fun _ _ => trivial, mg4⟩ | exact ⟨⟨fun _ _ => trivial, mg4⟩, rfl⟩ | exact mg4
    · rintro j f g' ms hj ⟨⟨og', mg', ng', fg'⟩, rfl, p1, p3, p4, p5, p11, p12, p21, p22⟩
      have hj' : (j : Int) < (W : Int) := by omega
      have hwj : wrapF .i64 ((j : Int) + 1) = ((j + 1 : Nat) : Int) := by rw [wrap_in (by omega) (by omega)]; rfl
      have hne : g.next ≠ g1.next := by omega
      have rd' : Row g' g.next [.int .i64 (bLo S k), .int .i64 (bHi S k)] := ⟨_, _, by rw [og' _ hne]; exact hx4.get⟩
      have l0 : ([Value.int .i64 (bLo S k), .int .i64 (bHi S k)] : List Value)[0]? = some (.int .i64 (bLo S k)) := rfl
      have l1 : ([Value.int .i64 (bLo S k), .int .i64 (bHi S k)] : List Value)[1]? = some (.int .i64 (bHi S k)) := rfl
      have upd : ∀ c, verdV S k j = c → ∃ g5, mapUpdateA Try.prog 139 g' (.map (some g1.next)) (.agg ⟨[.int .i64 (k : Int), .int .i64 (j : Int)]⟩) (.int .i64 c) = some (undef, g5) ∧ MapF g5 g1.next key2 (vmK S k (j + 1)) ∧ (∀ i, i ≠ g1.next → g5.get i = g4.get i) ∧ g5.next = g4.next ∧ g5.floor = g4.floor := fun c hc => by
        obtain ⟨g5, e5, hm5, ht5⟩ := updateF (h := g') key139 mg' (by omega) (by omega) ((k : Int), (j : Int)) c
        rw [← hc, vmK_step] at hm5
        exact ⟨g5, e5, hm5, fun i hi => by rw [ht5.old i hi, og' i hi], by rw [ht5.next, ng'], by rw [ht5.floor, fg']⟩
      by_cases c1 : bHi S k ≤ (j : Int)
      · obtain ⟨g5, e5, hm5, o5, n5, f5⟩ := upd 1 (by unfold verdV; rw [if_pos c1])
        simp only [rn0, rn1, rn2, rn3, rn4, rn5, rn6, rn7, rn8, if_true, if_false, Nat.le_refl, true_and, and_true, decide_true, decide_false, Bool.not_true, Bool.not_false, reduceIte, Nat.reduceEqDiff, Nat.reduceAdd, Nat.reduceMul, Nat.reduceSub, Nat.reduceLeDiff, Nat.reduceLT, p1, p3, p4, p5, p11, p12, p21, p22, hj', rd'.ld, Nat.zero_add, l1, c1, build_range, x_mapUpdate, e5, hwj]
        first | exact ⟨o5, hm5, n5, f5⟩ | exact ⟨⟨o5, hm5, n5, f5⟩, rfl⟩
      · by_cases c2 : (j : Int) < bLo S k
        · obtain ⟨g5, e5, hm5, o5, n5, f5⟩ := upd 2 (by unfold verdV; rw [if_neg c1, if_pos c2])
          simp only [rn0, rn1, rn2, rn3, rn4, rn5, rn6, rn7, rn8, if_true, if_false, Nat.le_refl, true_and, and_true, decide_true, decide_false, Bool.not_true, Bool.not_false, reduceIte, Nat.reduceEqDiff, Nat.reduceAdd, Nat.reduceMul, Nat.reduceSub, Nat.reduceLeDiff, Nat.reduceLT, p1, p3, p4, p5, p11, p12, p21, p22, hj', rd'.ld, Nat.zero_add, l0, l1, c1, c2, build_range, x_mapUpdate, e5, hwj]
          first | exact ⟨o5, hm5, n5, f5⟩ | exact ⟨⟨o5, hm5, n5, f5⟩, rfl⟩
        · obtain ⟨g5, e5, hm5, o5, n5, f5⟩ := upd 3 (by unfold verdV; rw [if_neg c1, if_neg c2])
          simp only [rn0, rn1, rn2, rn3, rn4, rn5, rn6, rn7, rn8, if_true, if_false, Nat.le_refl, true_and, and_true, decide_true, decide_false, Bool.not_true, Bool.not_false, reduceIte, Nat.reduceEqDiff, Nat.reduceAdd, Nat.reduceMul, Nat.reduceSub, Nat.reduceLeDiff, Nat.reduceLT, p1, p3, p4, p5, p11, p12, p21, p22, hj', rd'.ld, Nat.zero_add, l0, l1, c1, c2, build_range, x_mapUpdate, e5, hwj]
          first | exact ⟨o5, hm5, n5, f5⟩ | exact ⟨⟨o5, hm5, n5, f5⟩, rfl⟩
    · rintro f g' ms ⟨⟨og', mg', ng', fg'⟩, rfl, p1, p3, p4, p5, p11, p12, p21, p22⟩
      rw [vmK_end hW] at mg'
      simp only [rn0, rn1, rn2, rn3, rn4, rn5, rn6, rn7, rn8, if_true, if_false, Nat.le_refl, true_and, and_true, decide_true, decide_false, Bool.not_true, Bool.not_false, reduceIte, Nat.reduceEqDiff, Nat.reduceAdd, Nat.reduceMul, Nat.reduceSub, Nat.reduceLeDiff, Nat.reduceLT, p1, p3, p4, p5, p11, p12, p21, p22, Int.lt_irrefl, hw]
      have fin := And.intro (fun i (h1 : i ≠ g1.next) (h2 : i < g2.next) => (by rw [og' i h1, hx4.old i (by omega), og i h1 h2] : g'.get i = g2.get i)) (And.intro mg' (And.intro (by omega : g2.next ≤ g'.next) (And.intro (by omega : g'.next ≤ g2.next + 2 * (k + 1)) (by omega : g'.floor = h.floor))))
      first | exact fin | exact ⟨fin, rfl⟩
  · rintro f g ms ⟨⟨og, mg, ug, ng, fg⟩, rfl, p1, p3, p11, p12⟩
    simp only [rn0, rn1, rn2, rn3, rn4, rn5, rn6, rn7, rn8, if_true, if_false, Nat.le_refl, true_and, and_true, decide_true, decide_false, Bool.not_true, Bool.not_false, reduceIte, Nat.reduceEqDiff, Nat.reduceAdd, Nat.reduceMul, Nat.reduceSub, Nat.reduceLeDiff, Nat.reduceLT, p1, p3, p11, p12, Int.lt_irrefl]
    exact ⟨_, rfl, mg, by omega, fun i hi => by rw [og i (by omega) (by omega), ho2 i (by omega), hx1.old i hi], by omega, by omega, by omega⟩
end Go.Vm.Bt

namespace Go.Vm.Bt
open Go.Proofs Go.Vm.Vat Go.Vm.L2
set_option linter.unusedSimpArgs false
set_option linter.unusedVariables false
set_option maxRecDepth 10000
variable {n : Nat} {h : AHeap}
end Go.Vm.Bt

namespace Go.Vm.Bt
open Go.Proofs Go.Vm.Vat Go.Vm.L2
set_option linter.unusedSimpArgs false
set_option linter.unusedVariables false
set_option maxRecDepth 10000
variable {n : Nat} {h : AHeap}
abbrev uSz (S : MB) : Nat → Nat := sz (uLo S) (uHi S)
theorem Good.sz {S : MB} (hG : Good S) {j : Nat} (hj : j < numU S) : ((uSz S j : Nat) : Int) = uHi S j - uLo S j + 1 ∧ 1 ≤ uSz S j ∧ uSz S j ≤ 10 := by
  obtain ⟨h1, h2, h3⟩ := hG.u j hj
  have : ((uSz S j : Nat) : Int) = uHi S j - uLo S j + 1 := Int.toNat_of_nonneg (by omega)
  omega
theorem nthU_is {S : MB} {m j : Nat} (hj : j < numU S) : nthU S m j = uLo S j + ((divN (uSz S) m j % uSz S j : Nat) : Int) := by unfold nthU nthB; rw [if_pos hj]
theorem build_c1 {x : Int} : buildA (fun x => (#[(0, 1), (1, 1)] : Array (Nat × Nat))[x]?) ⟨[.int .i64 0, .slice none 0 0]⟩ [0] h [.int .i64 x] = some (.agg ⟨[.int .i64 x, .slice none 0 0]⟩, h) := by
  unfold buildA
  have e : Instr.fill (fun x => (#[(0, 1), (1, 1)] : Array (Nat × Nat))[x]?) #[.int .i64 0, .slice none 0 0] ([0].zip [.int .i64 x]) = some #[.int .i64 x, .slice none 0 0] := by
    simp [Instr.fill, Value.cells]
  rw [e]
def s69 : SCode := (.seq (.ops [⟨(some 2), none, .box (T 0)⟩, ⟨(some 4), none, .alloc [(.int .i64 (0)), (.slice none 0 0)]⟩]) (.seq (.draw [⟨.free, ⟨(some 8), none, .fieldAddr 0 (T 2)⟩⟩, ⟨.free, ⟨(some 9), none, .fieldAddr 0 (T 8)⟩⟩, ⟨.rd, ⟨(some 10), none, .load1 (T 9)⟩⟩, ⟨.free, ⟨(some 11), none, .mov (T 1)⟩⟩, ⟨.free, ⟨(some 12), none, .fieldAddr 0 (T 2)⟩⟩, ⟨.rd1, ⟨(some 13), none, .loadN 2 (T 12)⟩⟩, ⟨.up, ⟨(some 14), none, .call (.func 108) [(T 13)]⟩⟩, ⟨.free, ⟨(some 15), none, .plain (.binOp .rem 3 (T 11) (T 14) 3) 3⟩⟩, ⟨.free, ⟨(some 16), none, .int2 .add (T 10) (T 15)⟩⟩, ⟨.free, ⟨(some 17), none, .build #[(0, 1), (1, 1)] [(.int .i64 (0)), (.slice none 0 0)] [0] [(T 16)]⟩⟩, ⟨.up, ⟨(some 5), none, .alloc [(.int .i64 (0)), (.slice none 0 0)]⟩⟩, ⟨.any, ⟨none, none, .store 2 (T 5) (T 17)⟩⟩]) (.seq (.ops [⟨(some 18), none, .mov (T 1)⟩, ⟨(some 19), none, .fieldAddr 0 (T 2)⟩, ⟨(some 20), none, .loadN 2 (T 19)⟩, ⟨(some 21), none, .call (.func 108) [(T 20)]⟩, ⟨(some 22), none, .plain (.binOp .quo 3 (T 18) (T 21) 3) 3⟩, ⟨(some 1), none, .mov (T 22)⟩]) (.seq (.seq (.ops [⟨(some 6), none, .mov (.const (.int .i64 (0)))⟩]) (.block 0 (.loop (.seq (.seq (.ops [⟨(some 23), none, .mov (T 6)⟩, ⟨(some 24), none, .fieldAddr 2 (T 2)⟩, ⟨(some 25), none, .load1 (T 24)⟩, ⟨(some 26), none, .len (T 25)⟩, ⟨(some 27), none, .int2 .lss (T 23) (T 26)⟩]) (.cond (T 27) .skip (.exit 0))) (.seq (.block 1 (.seq (.ops [⟨(some 30), none, .fieldAddr 2 (T 2)⟩, ⟨(some 31), none, .load1 (T 30)⟩, ⟨(some 32), none, .mov (T 6)⟩, ⟨(some 33), none, .idxSl 4 (T 31) (T 32)⟩, ⟨(some 34), none, .fieldAddr 0 (T 33)⟩, ⟨(some 35), none, .loadN 2 (T 34)⟩, ⟨(some 7), none, .alloc [(.int .i64 (0)), (.int .i64 (0))]⟩, ⟨none, none, .store 2 (T 7) (T 35)⟩]) (.seq (.draw [⟨.free, ⟨(some 36), none, .fieldAddr 1 (T 5)⟩⟩, ⟨.rd, ⟨(some 37), none, .load1 (T 36)⟩⟩, ⟨.free, ⟨(some 38), none, .fieldAddr 0 (T 7)⟩⟩, ⟨.rd, ⟨(some 39), none, .load1 (T 38)⟩⟩, ⟨.free, ⟨(some 40), none, .mov (T 1)⟩⟩, ⟨.rd1, ⟨(some 41), none, .loadN 2 (T 7)⟩⟩, ⟨.up, ⟨(some 42), none, .call (.func 108) [(T 41)]⟩⟩, ⟨.free, ⟨(some 43), none, .plain (.binOp .rem 3 (T 40) (T 42) 3) 3⟩⟩, ⟨.free, ⟨(some 44), none, .int2 .add (T 39) (T 43)⟩⟩, ⟨.up, ⟨(some 45), none, .bslice 1 1 [(.int .i64 (0))] [0] [(T 44)]⟩⟩, ⟨.any, ⟨(some 46), none, .append 1 8 (T 37) (T 45)⟩⟩, ⟨.free, ⟨(some 47), none, .fieldAddr 1 (T 5)⟩⟩, ⟨.any, ⟨none, none, .store 1 (T 47) (T 46)⟩⟩]) (.ops [⟨(some 48), none, .mov (T 1)⟩, ⟨(some 49), none, .loadN 2 (T 7)⟩, ⟨(some 50), none, .call (.func 108) [(T 49)]⟩, ⟨(some 51), none, .plain (.binOp .quo 3 (T 48) (T 50) 3) 3⟩, ⟨(some 1), none, .mov (T 51)⟩])))) (.ops [⟨(some 28), none, .mov (T 6)⟩, ⟨(some 29), none, .int2 .add (T 28) (.const (.int .i64 (1)))⟩, ⟨(some 6), none, .mov (T 29)⟩])))))) (.seq (.ops [⟨(some 52), none, .loadN 2 (T 5)⟩, ⟨none, none, .store 2 (T 4) (T 52)⟩]) .ret)))))
theorem fok69 : FnOk Try.prog 69 53 s69 [.cellN 4 2] := ⟨Try.f69, _, Try.func69, rfl, Try.ntmps69, by kernel_rfl, by kernel_rfl⟩
set_option maxHeartbeats 1000000 in
theorem nthG_c (hn : 100 ≤ n) (hr : h.next + 100 < far) (hfl : h.floor ≤ h.next) {vv sv : Value} {S : MB} (hy : BeatR h vv sv S) (hG : Good S) {m : Nat} (hm : m ≤ 100000) :
    ∃ cw h', call n (.func (.func 69) #[] #[]) [.agg ⟨beL S vv sv⟩, .int .i64 (m : Int)] h = some (.agg ⟨coL (nthU S m 0) cw⟩, h') ∧ CouR h' cw S (nthU S m) ∧ (∀ i, i < h.next → h'.get i = h.get i) ∧ h.next ≤ h'.next ∧ h'.next ≤ h.next + 40 ∧ h'.floor = h.floor ∧ GrowC h.next h' cw 1 S.nv (fun i _ => .int .i64 (nthU S m (i + 1))) := by
  obtain ⟨n, rfl⟩ : ∃ p, n = p + 1 := ⟨n - 1, by omega⟩
  have h0 : numU S = S.nv + 1 := by unfold numU; omega
  obtain ⟨z0, z1, z3, _⟩ := hG.sizes
  suffices hs : ∃ v h', call (n + 1) (.func (.func 69) #[] #[]) [.agg ⟨beL S vv sv⟩, .int .i64 (m : Int)] h = some (v, h') ∧ ∃ cw, v = .agg ⟨coL (nthU S m 0) cw⟩ ∧ CouR h' cw S (nthU S m) ∧ (∀ i, i < h.next → h'.get i = h.get i) ∧ h.next ≤ h'.next ∧ h'.next ≤ h.next + 40 ∧ h'.floor = h.floor ∧ GrowC h.next h' cw 1 S.nv (fun i _ => .int .i64 (nthU S m (i + 1))) by
    obtain ⟨v, h', e, cw, rfl, q⟩ := hs
    exact ⟨cw, h', e, q⟩
  have hgen : ∀ j, j < numU S → ∀ lo hi : Int, lo = uLo S j → hi = uHi S j → (∀ g' : AHeap, g'.next < far → call n (.func (.func 108) #[] #[]) [.agg ⟨[.int .i64 lo, .int .i64 hi]⟩] g' = some (.int .i64 ((uSz S j : Nat) : Int), g')) ∧ ¬ ((uSz S j : Nat) : Int) = 0 ∧ ((divN (uSz S) m j : Nat) : Int).tmod ((uSz S j : Nat) : Int) = ((divN (uSz S) m j % uSz S j : Nat) : Int) ∧ wrapF .i64 (lo + ((divN (uSz S) m j % uSz S j : Nat) : Int)) = nthU S m j ∧ IntKind.wrap .i64 (((divN (uSz S) m j : Nat) : Int).tdiv ((uSz S j : Nat) : Int)) = ((divN (uSz S) m (j + 1) : Nat) : Int) := by
    intro j hj lo hi el eh
    obtain ⟨a1, a2, a3⟩ := hG.u j hj
    obtain ⟨a4, a5, a6⟩ := hG.sz hj
    have hmd := Nat.mod_lt (divN (uSz S) m j) (show 0 < uSz S j by omega)
    have hle := divN_le' (s := uSz S) (m := m) j
    subst el eh
    refine ⟨fun g' hg' => ?_, by omega, rfl, by rw [nthU_is hj]; exact wrap_in (by omega) (by omega), ?_⟩
    · rw [size_c (n := n) (h := g') (by omega) hg', wrap_in (z := uHi S j - uLo S j) (by omega) (by omega), wrap_in (by omega) (by omega), a4]
    · have e : ((divN (uSz S) m j : Nat) : Int).tdiv ((uSz S j : Nat) : Int) = ((divN (uSz S) m j / uSz S j : Nat) : Int) := rfl
      have hd := Nat.div_le_self (divN (uSz S) m j) (uSz S j)
      rw [e, IntKind.wrap_i64]
      simp only [divN]
      generalize divN (uSz S) m j / uSz S j = dq at hd
      omega
  refine call_any0 fok69 rfl rfl (by simp) ?_
  simp only [s69, W_seq, W_ops]
  refine ops_box (cs := beL S vv sv) (by omega) rfl hy.one fun g1 hx1 => ?_
  have n1 := hx1.next
  have f1' := hx1.floor
  refine ops_alloc (cs := coL 0 nilS) (by omega) rfl fun g2 hx2 => ?_
  have n2 := hx2.next
  have f2' := hx2.floor
  have r1 := hx1.row.mono hx2.sub
  have old2 : ∀ i, i < h.next → g2.get i = h.get i := fun i hi => by rw [hx2.old i (by omega), hx1.old i hi]
  obtain ⟨es, y2, y3, y4, y5⟩ := hgen 0 (by omega) S.slo S.shi rfl rfl
  rw [show divN (uSz S) m 0 = m from rfl] at y3 y4 y5
  simp only [rn0, rn1, rn2, rn3, rn4, rn5, rn6, rn7, rn8, if_true, if_false, Nat.le_refl, true_and, and_true, decide_true, decide_false, Bool.not_true, Bool.not_false, reduceIte, Nat.reduceEqDiff, Nat.reduceAdd, Nat.reduceMul, Nat.reduceSub, Nat.reduceLeDiff, Nat.reduceLT]
  refine W_draw All ?_
  simp only [rn0, rn1, rn2, rn3, rn4, rn5, rn6, rn7, rn8, if_true, if_false, Nat.le_refl, true_and, and_true, decide_true, decide_false, Bool.not_true, Bool.not_false, reduceIte, Nat.reduceEqDiff, Nat.reduceAdd, Nat.reduceMul, Nat.reduceSub, Nat.reduceLeDiff, Nat.reduceLT, r1.ld, beg, be_rng r1, Nat.zero_add, Nat.add_zero, eqV_int, es g2 (by omega), valN_tmp, Nat.reduceLT, p_rem, r_rem y2, y3, y4, build_c1]
  refine up_row (cs := coL 0 nilS) (by omega) rfl rfl (fun g3 hx => hx.sub) fun g3 hx3 => ?_
  have n3 := hx3.next
  have f3' := hx3.floor
  simp only [rn0, rn1, rn2, rn3, rn4, rn5, rn6, rn7, rn8, if_true, if_false, Nat.le_refl, true_and, and_true, decide_true, decide_false, Bool.not_true, Bool.not_false, reduceIte, Nat.reduceEqDiff, Nat.reduceAdd, Nat.reduceMul, Nat.reduceSub, Nat.reduceLeDiff, Nat.reduceLT]
  refine up_store (b := g2.next) (off := 0) (vs := coL (nthU S m 0) nilS) rfl hx3.get (by omega) (by omega) rfl rfl rfl (by simp [coL]) (fun _ _ => trivial) fun g4 hs4 => ?_
  rw [splice_all (by rfl)] at hs4
  have n4 := hs4.next
  have f4' := hs4.floor
  have old4 : ∀ i, i < g2.next → g4.get i = g2.get i := fun i hi => by rw [hs4.old i (by omega), hx3.old i hi]
  have r14 : Row g4 h.next (beL S vv sv) := r1.mono (AHeap.subOf old4)
  simp only [rn0, rn1, rn2, rn3, rn4, rn5, rn6, rn7, rn8, if_true, if_false, Nat.le_refl, true_and, and_true, decide_true, decide_false, Bool.not_true, Bool.not_false, reduceIte, Nat.reduceEqDiff, Nat.reduceAdd, Nat.reduceMul, Nat.reduceSub, Nat.reduceLeDiff, Nat.reduceLT, be_rng r14, es g4 (by omega), valN_tmp, Nat.reduceLT, p_quo, r_quo y2, y5]
  refine W_loop S.nv (fun k f g ms => (∃ w, (∀ i, i < g2.next → g.get i = g2.get i) ∧ g.floor = h.floor ∧ g4.next ≤ g.next ∧ g.next ≤ g4.next + 4 * k ∧ GrowC g4.next g w 1 k (fun i _ => .int .i64 (nthU S m (i + 1))) ∧ g.get g2.next = some (.row (coL (nthU S m 0) w) true 0)) ∧ ms = [] ∧ f 1 = .int .i64 ((divN (uSz S) m (k + 1) : Nat) : Int) ∧ f 2 = .pointer (some ⟨h.next, 0, none⟩) ∧ f 4 = .pointer (some ⟨g1.next, 0, none⟩) ∧ f 5 = .pointer (some ⟨g2.next, 0, none⟩) ∧ f 6 = .int .i64 (k : Int)) (by simp; omega) ?_ ?_ ?_
  · simp only [rn0, rn1, rn2, rn3, rn4, rn5, rn6, rn7, rn8, if_true, if_false, Nat.le_refl, true_and, and_true, decide_true, decide_false, Bool.not_true, Bool.not_false, reduceIte, Nat.reduceEqDiff, Nat.reduceAdd, Nat.reduceMul, Nat.reduceSub, Nat.reduceLeDiff, Nat.reduceLT, Nat.zero_add, Int.natCast_zero]
    exact ⟨nilS, old4, by omega, by omega, .nil, hs4.get⟩
  · rintro k f g ms hk ⟨⟨w, hs, hfg, hup, hnx, gv, grow⟩, rfl, p1, p2, p4, p5, p6⟩
    have hk' : (k : Int) < (S.nv : Int) := by omega
    have hw : wrapF .i64 ((k : Int) + 1) = ((k + 1 : Nat) : Int) := by rw [wrap_in (by omega) (by omega)]; rfl
    have oldg : ∀ i, i < h.next → g.get i = h.get i := fun i hi => by rw [hs i (by omega), old2 i hi]
    have hyg := hy.mono (AHeap.subOf oldg)
    have rg : Row g h.next (beL S vv sv) := r1.mono (AHeap.subOf hs)
    simp only [rn0, rn1, rn2, rn3, rn4, rn5, rn6, rn7, rn8, if_true, if_false, Nat.le_refl, true_and, and_true, decide_true, decide_false, Bool.not_true, Bool.not_false, reduceIte, Nat.reduceEqDiff, Nat.reduceAdd, Nat.reduceMul, Nat.reduceSub, Nat.reduceLeDiff, Nat.reduceLT, p1, p2, p4, p5, p6, rg.ld, beg, Nat.zero_add, Cells.len hyg.v, hk', Cells.idx hyg.v hk, Cells.fld hyg.v hk, need_ld hyg hk]
    refine step_new (vs := [.int .i64 (S.nlo k), .int .i64 (S.nhi k)]) (by omega) (by omega) rfl (by simp only [rn0, rn1, rn2, rn3, rn4, rn5, rn6, rn7, rn8, if_true, if_false, Nat.le_refl, true_and, and_true, decide_true, decide_false, Bool.not_true, Bool.not_false, reduceIte, Nat.reduceEqDiff, Nat.reduceAdd, Nat.reduceMul, Nat.reduceSub, Nat.reduceLeDiff, Nat.reduceLT]; rfl) rfl rfl rfl fun g5 hx5 => ?_
    have n5 := hx5.next
    have f5 := hx5.floor
    have gv5 := gv.sub hx5.sub
    have grow5 : g5.get g2.next = _ := hx5.sub _ _ _ _ trivial grow
    have rt : Row g5 g2.next _ := ⟨_, _, grow5⟩
    have w5 := hx5.row.whole (n := 2) rfl
    obtain ⟨esz, x2, x3, x4, x5⟩ := hgen (k + 1) (by omega) (S.nlo k) (S.nhi k) uLo_succ.symm uHi_succ.symm
    have ne1 : NeB w g2.next := neB_of gv5 (by left; omega)
    have ne2 : NeB w g.next := neB_of gv (by right; omega)
    simp only [rn0, rn1, rn2, rn3, rn4, rn5, rn6, rn7, rn8, if_true, if_false, Nat.le_refl, true_and, and_true, decide_true, decide_false, Bool.not_true, Bool.not_false, reduceIte, Nat.reduceEqDiff, Nat.reduceAdd, Nat.reduceMul, Nat.reduceSub, Nat.reduceLeDiff, Nat.reduceLT]
    refine W_draw (NeB w) ?_
    simp only [rn0, rn1, rn2, rn3, rn4, rn5, rn6, rn7, rn8, if_true, if_false, Nat.le_refl, true_and, and_true, decide_true, decide_false, Bool.not_true, Bool.not_false, reduceIte, Nat.reduceEqDiff, Nat.reduceAdd, Nat.reduceMul, Nat.reduceSub, Nat.reduceLeDiff, Nat.reduceLT, rd_1, rd_N, rd_neb, ne1, ne2, p1, p2, p4, p5, p6, rt.ld, hx5.row.ld, w5, cog, Nat.zero_add, List.getElem?_cons_zero, gv5.cells.self, eqV_int, self_two, esz g5 (by omega), valN_tmp, Nat.reduceLT, p_rem, r_rem x2, x3, x4, sl_int]
    refine up_slice (by omega) rfl (fun g6 hx i cs w gr _ e => hx.sub i cs w gr trivial e) fun g6 hx6 => ?_
    have n6 := hx6.next
    obtain ⟨w', g7, e7, gv7, o7, n7, f7, old7, u7⟩ := grow_push2 (h := g5) (bytes := 8) gv5 (by omega) (by omega) (by omega) hx6 rfl rfl (fun j hj => by rw [one_get j hj]) (by simp [maxBytes]; omega) (by simp [maxBytes]; omega)
    simp only [rn0, rn1, rn2, rn3, rn4, rn5, rn6, rn7, rn8, if_true, if_false, Nat.le_refl, true_and, and_true, decide_true, decide_false, Bool.not_true, Bool.not_false, reduceIte, Nat.reduceEqDiff, Nat.reduceAdd, Nat.reduceMul, Nat.reduceSub, Nat.reduceLeDiff, Nat.reduceLT, rd_1, rd_N, rd_neb, ne1, ne2, p1, p2, p4, p5, p6, e7, Nat.zero_add]
    refine ⟨by omega, ?_⟩
    refine up_store (b := g2.next) (off := 1) (vs := [w']) rfl (by rw [old7 _ (by omega) ne1]; exact grow5) (by omega) (by omega) (cells1 o7) (by simp [allB, o7]) rfl (by simp [coL]) (fun _ _ => trivial) fun g8 hs8 => ?_
    have n8 := hs8.next
    have f8 := hs8.floor
    have w8 : loadAgg 2 g8 (.pointer (some ⟨g.next, 0, none⟩)) = some (.agg ⟨[.int .i64 (S.nlo k), .int .i64 (S.nhi k)]⟩) := by
      refine Row.whole (n := 2) ⟨true, 0, ?_⟩ rfl
      rw [hs8.old _ (by omega), old7 _ (by omega) ne2]
      exact hx5.get
    simp only [rn0, rn1, rn2, rn3, rn4, rn5, rn6, rn7, rn8, if_true, if_false, Nat.le_refl, true_and, and_true, decide_true, decide_false, Bool.not_true, Bool.not_false, reduceIte, Nat.reduceEqDiff, Nat.reduceAdd, Nat.reduceMul, Nat.reduceSub, Nat.reduceLeDiff, Nat.reduceLT, p1, p2, p4, p5, p6, w8, esz g8 (by omega), valN_tmp, Nat.reduceLT, p_quo, r_quo x2, x5, hw]
    exact ⟨w', fun i hi => by rw [hs8.old i (by omega), old7 i (by omega) (neB_of gv5 (by left; omega)), hx5.old i (by omega), hs i hi], by omega, by omega, by omega, gv7.keep hs8.keep (by omega), hs8.get⟩
  rintro f ga ms ⟨⟨w', hsa, hfa, hupa, hnxa, gva, growa⟩, rfl, p1, p2, p4, p5, p6⟩
  have olda : ∀ i, i < h.next → ga.get i = h.get i := fun i hi => by rw [hsa i (by omega), old2 i hi]
  have hya := hy.mono (AHeap.subOf olda)
  have rga : Row ga h.next (beL S vv sv) := r1.mono (AHeap.subOf hsa)
  have hm3 : ga.get g1.next = some (.row (coL 0 nilS) true 0) := by rw [hsa _ (by omega)]; exact hx2.get
  have rca : Row ga g2.next (coL (nthU S m 0) w') := ⟨_, _, growa⟩
  simp only [rn0, rn1, rn2, rn3, rn4, rn5, rn6, rn7, rn8, if_true, if_false, Nat.le_refl, true_and, and_true, decide_true, decide_false, Bool.not_true, Bool.not_false, reduceIte, Nat.reduceEqDiff, Nat.reduceAdd, Nat.reduceMul, Nat.reduceSub, Nat.reduceLeDiff, Nat.reduceLT, p1, p2, p4, p5, p6, rga.ld, beg, Nat.zero_add, Cells.len hya.v, Int.lt_irrefl, rca.whole (n := 2) rfl]
  refine step_store (b := g1.next) (off := 0) (vs := coL (nthU S m 0) w') rfl hm3 (by omega) (by omega) rfl (by simp [coL, allB, gva.one, one_int]) rfl (by simp [coL]) fun gb hsb => ?_
  rw [splice_all (by rfl)] at hsb
  have nb := hsb.next
  have fb := hsb.floor
  simp only [rn0, rn1, rn2, rn3, rn4, rn5, rn6, rn7, rn8, if_true, if_false, Nat.le_refl, true_and, and_true, decide_true, decide_false, Bool.not_true, Bool.not_false, reduceIte, Nat.reduceEqDiff, Nat.reduceAdd, Nat.reduceMul, Nat.reduceSub, Nat.reduceLeDiff, Nat.reduceLT, p4, res_cellN, hsb.row.whole (n := 2) rfl]
  have gvb := gva.keep hsb.keep (by omega)
  exact ⟨_, rfl, gvb.cells, fun i hi => by rw [hsb.old i (by omega), olda i hi], by omega, by omega, by omega, gvb.le (by omega)⟩
end Go.Vm.Bt

namespace Go.Vm.Bt
open Go.Proofs Go.Vm.Vat Go.Vm.L2
set_option linter.unusedSimpArgs false
set_option linter.unusedVariables false
set_option maxRecDepth 10000
variable {n : Nat} {h : AHeap}
structure CouIn (h : AHeap) (v r1 : Value) (S : MB) (u : Nat → Int) : Prop where
  cou : CouR h r1 S u
  b1 : ∀ x m c, r1 = .slice (some x) m c → x.block < h.next ∧ NeB v x.block
def cosC (l : List (Nat → Int)) (R1 : Nat → Value) (k j : Nat) : Value := if j = 0 then .int .i64 ((l.getD k fun _ => 0) 0) else R1 k
structure CosG (B : Nat) (h : AHeap) (v : Value) (S : MB) (l : List (Nat → Int)) (R1 : Nat → Value) : Prop where
  g : GrowC B h v 2 l.length (cosC l R1)
  t : ∀ k, k < l.length → CouIn h v (R1 k) S (l.getD k fun _ => 0)
def CoursesL (h : AHeap) (v : Value) (S : MB) (l : List (Nat → Int)) : Prop := ∃ R1 : Nat → Value, Cells h v 2 l.length (cosC l R1) ∧ ∀ k, k < l.length → CouR h (R1 k) S (l.getD k fun _ => 0)
theorem CoursesL.mono {g : AHeap} {v : Value} {S : MB} {l : List (Nat → Int)} (hc : CoursesL h v S l) (hs : Sub All h g) : CoursesL g v S l := by
  obtain ⟨R, h1, h2⟩ := hc
  exact ⟨R, h1.mono hs, fun k hk => Cells.mono (h2 k hk) hs⟩
theorem CosG.nil {B : Nat} {S : MB} : CosG B h nilS S [] (fun _ => nilS) := ⟨.nil, fun k hk => absurd hk (Nat.not_lt_zero _)⟩
theorem CosG.out {B : Nat} {v : Value} {S : MB} {l : List (Nat → Int)} {R1 : Nat → Value} (ht : CosG B h v S l R1) : CoursesL h v S l := ⟨R1, ht.g.cells, fun k hk => (ht.t k hk).cou⟩
theorem CouIn.old {g : AHeap} {v r1 : Value} {S : MB} {u : Nat → Int} (ht : CouIn h v r1 S u) (ho : ∀ i, i < h.next → NeB v i → g.get i = h.get i) (hn : h.next ≤ g.next) : CouIn g v r1 S u :=
  ⟨cells_at ht.cou fun a k c e hlt => ho _ hlt (ht.b1 a k c e).2, fun x m c e => ⟨by have := (ht.b1 x m c e).1; omega, (ht.b1 x m c e).2⟩⟩
theorem CosG.old {B : Nat} {g : AHeap} {v : Value} {S : MB} {l : List (Nat → Int)} {R1 : Nat → Value} (ht : CosG B h v S l R1) (ho : ∀ i, i < h.next → g.get i = h.get i) (hn : h.next ≤ g.next) : CosG B g v S l R1 :=
  ⟨GrowC.at' ht.g fun a k c e => ho _ (ht.g.block e).2, fun k hk => (ht.t k hk).old (fun i hi _ => ho i hi) hn⟩
theorem CosG.push {B : Nat} {g1 : AHeap} {v r1 : Value} {S : MB} {l : List (Nat → Int)} {R1 : Nat → Value} {u : Nat → Int} (ht : CosG B h v S l R1) (hB : h.floor ≤ B) (hf : h.next + 2 < far) (hBn : B ≤ h.next) (hx : New h g1 (coL (u 0) r1) 0) (hu : CouIn h v r1 S u) (o1 : oneCell r1 = true) (hl : l.length ≤ 5000) :
    ∃ v' g2, appendA 2 32 g1 v (.slice (some ⟨h.next, 0, none⟩) 1 1) = some (v', g2) ∧ CosG B g2 v' S (l ++ [u]) (fun k => if k = l.length then r1 else R1 k) ∧ oneCell v' = true ∧ g2.next = h.next + 2 ∧ g2.floor = h.floor ∧ (∀ i, i < h.next → NeB v i → g2.get i = h.get i) := by
  have hlen : (l ++ [u]).length = l.length + 1 := by simp
  have hg : GrowC B h v 2 l.length (cosC (l ++ [u]) (fun k => if k = l.length then r1 else R1 k)) := growC_congr ht.g fun k j hk hj => by
    have : ¬ k = l.length := by omega
    simp only [cosC, this, if_false]
    rw [List.getD_eq_getElem?_getD, List.getD_eq_getElem?_getD, List.getElem?_append_left hk]
  obtain ⟨g2, e, gv, n2, f2, o2', u2⟩ := grow_push3 (bytes := 32) hg hB hf hBn hx rfl (by simp [coL, allB, o1, one_int]) (fun j hj => by
    have hlast : ((l ++ [u]).getD l.length fun _ => 0) = u := by rw [List.getD_eq_getElem?_getD, List.getElem?_append_right (Nat.le_refl _)]; simp
    simp only [cosC, if_true, hlast]
    rcases j with _ | _ | j
    · rfl
    · rfl
    · omega) (by simp [maxBytes]; omega) (by simp [maxBytes]; omega)
  refine ⟨_, g2, e, ⟨by rw [hlen]; exact gv, fun k hk => ?_⟩, rfl, n2, f2, o2'⟩
  have fresh : ∀ i, i < h.next → NeB (.slice (some ⟨h.next + 1, 0, none⟩) (l.length + 1) unk) i := fun i hi b m c e => by cases e; show i ≠ h.next + 1; omega
  have re : ∀ {a : Value} {w : Nat → Int}, CouIn h v a S w → CouIn g2 (.slice (some ⟨h.next + 1, 0, none⟩) (l.length + 1) unk) a S w := fun {a w} hi => by
    have h1 := hi.old (g := g2) o2' (by omega)
    exact ⟨h1.cou, fun x m c e => ⟨(h1.b1 x m c e).1, fresh _ (hi.b1 x m c e).1⟩⟩
  by_cases c : k = l.length
  · subst c
    have hlast : ((l ++ [u]).getD l.length fun _ => 0) = u := by rw [List.getD_eq_getElem?_getD, List.getElem?_append_right (Nat.le_refl _)]; simp
    simp only [if_true, hlast]
    exact re hu
  · have hk' : k < l.length := by omega
    simp only [c, if_false]
    rw [List.getD_eq_getElem?_getD, List.getElem?_append_left hk', ← List.getD_eq_getElem?_getD]
    exact re (ht.t k hk')
theorem sl_co {x1 : Option Addr} {m1 k1 : Nat} {sp : Int} : buildSl 2 1 [.int .i64 0, .slice none 0 0] [0] h [.agg ⟨coL sp (.slice x1 m1 k1)⟩] = newSlice h (coL sp (.slice x1 m1 k1)) 1 1 0 := by
  unfold buildSl
  have e : Instr.fill (fun i => some (i * 2, 2)) ⟨repl [Value.int .i64 0, .slice none 0 0] 1⟩ ([0].zip [.agg ⟨coL sp (.slice x1 m1 k1)⟩]) = some #[.int .i64 sp, .slice x1 m1 k1] := by
    simp [Instr.fill, Value.cells, repl, app_eq, coL]
  rw [e]
  rfl
def s67 : SCode := (.seq (.ops [⟨(some 1), none, .box (T 0)⟩, ⟨(some 2), none, .mov (.const (.slice none 0 0))⟩]) (.seq (.ops [⟨(some 3), none, .mov (.const (.slice none 0 0))⟩]) (.seq (.seq (.ops [⟨(some 4), none, .mov (.const (.int .i64 (0)))⟩]) (.block 0 (.loop (.seq (.seq (.ops [⟨(some 6), none, .mov (T 4)⟩, ⟨(some 7), none, .loadN 5 (T 1)⟩, ⟨(some 8), none, .call (.func 70) [(T 7)]⟩, ⟨(some 9), none, .int2 .lss (T 6) (T 8)⟩]) (.cond (T 9) .skip (.exit 0))) (.seq (.block 1 (.seq (.ops [⟨(some 12), none, .loadN 5 (T 1)⟩, ⟨(some 13), none, .mov (T 4)⟩, ⟨(some 14), none, .call (.func 69) [(T 12), (T 13)]⟩, ⟨(some 5), none, .alloc [(.int .i64 (0)), (.slice none 0 0)]⟩, ⟨none, none, .store 2 (T 5) (T 14)⟩]) (.seq (.draw [⟨.rd1, ⟨(some 15), none, .loadN 5 (T 1)⟩⟩, ⟨.rd1, ⟨(some 16), none, .loadN 2 (T 5)⟩⟩, ⟨.up, ⟨(some 17), none, .call (.func 85) [(T 15), (T 16)]⟩⟩, ⟨.rd, ⟨(some 18), none, .loadN 5 (T 1)⟩⟩, ⟨.any, ⟨(some 19), none, .call (.func 75) [(T 18)]⟩⟩, ⟨.free, ⟨(some 20), none, .int2 .eql (T 17) (T 19)⟩⟩]) (.cond (T 20) (.ops [⟨(some 21), none, .mov (T 3)⟩, ⟨(some 22), none, .loadN 2 (T 5)⟩, ⟨(some 23), none, .bslice 2 1 [(.int .i64 (0)), (.slice none 0 0)] [0] [(T 22)]⟩, ⟨(some 24), none, .append 2 32 (T 21) (T 23)⟩, ⟨(some 3), none, .mov (T 24)⟩]) .skip)))) (.ops [⟨(some 10), none, .mov (T 4)⟩, ⟨(some 11), none, .int2 .add (T 10) (.const (.int .i64 (1)))⟩, ⟨(some 4), none, .mov (T 11)⟩])))))) (.seq (.ops [⟨(some 25), none, .mov (T 3)⟩, ⟨(some 2), none, .mov (T 25)⟩]) .ret))))
theorem fok67 : FnOk Try.prog 67 26 s67 [.tmp 2] := ⟨Try.f67, _, Try.func67, rfl, Try.ntmps67, by kernel_rfl, by kernel_rfl⟩
set_option maxHeartbeats 1000000 in
theorem truthsRef_c (hn : 300 ≤ n) (hr : h.next + 20000 < far) (hfl : h.floor ≤ h.next) {vv sv : Value} {S : MB} (hy : BeatR h vv sv S) (hG : Good S) :
    ∃ v h', call n (.func (.func 67) #[] #[]) [.agg ⟨beL S vv sv⟩] h = some (v, h') ∧ CoursesL h' v S (refTruths S) ∧ oneCell v = true ∧ (∀ i, i < h.next → h'.get i = h.get i) ∧ h.next ≤ h'.next ∧ h'.next ≤ h.next + 15000 ∧ h'.floor = h.floor := by
  obtain ⟨n, rfl⟩ : ∃ p, n = p + 1 := ⟨n - 1, by omega⟩
  refine call_any0 fok67 rfl rfl (by simp) ?_
  simp only [s67, W_seq, W_ops]
  refine ops_box (cs := beL S vv sv) (by omega) rfl hy.one fun g1 hx1 => ?_
  have n1 := hx1.next
  have f1' := hx1.floor
  have r1 := hx1.row
  have hy1 := hy.mono hx1.sub
  obtain ⟨mp1, mp2⟩ := many_pos hG
  obtain ⟨z0, z1, z3, z5, _⟩ := hG.sizes
  obtain ⟨M, hM⟩ : ∃ M : Nat, (M : Int) = manyS S := ⟨(manyS S).toNat, by omega⟩
  have hM' : refTruths S = refTo S M := by unfold refTruths; rw [← hM]; rfl
  simp only [rn0, rn1, rn2, rn3, rn4, rn5, rn6, rn7, rn8, if_true, if_false, Nat.le_refl, true_and, and_true, decide_true, decide_false, Bool.not_true, Bool.not_false, reduceIte, Nat.reduceEqDiff, Nat.reduceAdd, Nat.reduceMul, Nat.reduceSub, Nat.reduceLeDiff, Nat.reduceLT]
  refine W_loop M (fun k f g ms => (∃ v R1, (∀ i, i < g1.next → g.get i = g1.get i) ∧ g.floor = h.floor ∧ g1.next ≤ g.next ∧ g.next ≤ g1.next + 50 * k ∧ CosG g1.next g v S (refTo S k) R1 ∧ f 3 = v) ∧ ms = [] ∧ f 1 = .pointer (some ⟨h.next, 0, none⟩) ∧ f 4 = .int .i64 (k : Int)) (by simp; omega) ?_ ?_ ?_
  · simp only [rn0, rn1, rn2, rn3, rn4, rn5, rn6, rn7, rn8, if_true, if_false, Nat.le_refl, true_and, and_true, decide_true, decide_false, Bool.not_true, Bool.not_false, reduceIte, Nat.reduceEqDiff, Nat.reduceAdd, Nat.reduceMul, Nat.reduceSub, Nat.reduceLeDiff, Nat.reduceLT, Int.natCast_zero]
    exact ⟨_, _, fun i _ => trivial, by omega, by omega, (by rw [show refTo S 0 = [] from rfl]; exact CosG.nil), rfl⟩
  · rintro k f g ms hk ⟨⟨v, R1, hs, hfg, hup, hnx, ht, p3⟩, rfl, p1, p4⟩
    have hk' : (k : Int) < manyS S := by omega
    have hw : wrapF .i64 ((k : Int) + 1) = ((k + 1 : Nat) : Int) := by rw [wrap_in (by omega) (by omega)]; rfl
    have hyg := hy1.mono (AHeap.subOf hs)
    have rg := r1.mono (AHeap.subOf hs)
    have em := manyR_c (n := n) (h := g) (by omega) (by omega) hyg hG.args (by omega)
    obtain ⟨cw, ga, ea, hca, oa, ua, ma, fa, gwa⟩ := nthG_c (n := n) (h := g) (by omega) (by omega) (by omega) hyg hG (m := k) (by omega)
    have hu := nthU_in (S := S) (m := k) hG
    have tia : CouIn ga v cw S (nthU S k) := ⟨hca, fun x m c e => ⟨(gwa.block e).2, neB_of ht.g (by right; exact (gwa.block e).1)⟩⟩
    obtain ⟨x1, c1, rfl⟩ := ints_slice hca
    simp only [rn0, rn1, rn2, rn3, rn4, rn5, rn6, rn7, rn8, if_true, if_false, Nat.le_refl, true_and, and_true, decide_true, decide_false, Bool.not_true, Bool.not_false, reduceIte, Nat.reduceEqDiff, Nat.reduceAdd, Nat.reduceMul, Nat.reduceSub, Nat.reduceLeDiff, Nat.reduceLT, p1, p3, p4, rg.whole (n := 5) rfl, em, hk', ea]
    refine step_new (vs := coL (nthU S k 0) (.slice x1 S.nv c1)) (by omega) (by omega) rfl (by simp only [rn0, rn1, rn2, rn3, rn4, rn5, rn6, rn7, rn8, if_true, if_false, Nat.le_refl, true_and, and_true, decide_true, decide_false, Bool.not_true, Bool.not_false, reduceIte, Nat.reduceEqDiff, Nat.reduceAdd, Nat.reduceMul, Nat.reduceSub, Nat.reduceLeDiff, Nat.reduceLT]; rfl) rfl rfl rfl fun gb hxb => ?_
    have nb := hxb.next
    have fb := hxb.floor
    have ob : ∀ i, i < g.next → gb.get i = g.get i := fun i hi => by rw [hxb.old i (by omega), oa i hi]
    have tib : CouIn gb v (.slice x1 S.nv c1) S (nthU S k) := tia.old (fun i hi _ => hxb.old i hi) (by omega)
    have htb := ht.old ob (by omega)
    have hyb := hyg.mono (AHeap.subOf ob)
    have rgb := rg.mono (AHeap.subOf ob)
    have wb := hxb.row.whole (n := 2) rfl
    have er := right_c (n := n) (h := gb) (by omega) (by omega) hyb tib.cou hG hu
    have ef := full_c (n := n) (h := gb) (by omega) (by omega) hyb (by omega)
    have hsf := bitsP_full (RightS S (nthU S k)) S.ns
    simp only [rn0, rn1, rn2, rn3, rn4, rn5, rn6, rn7, rn8, if_true, if_false, Nat.le_refl, true_and, and_true, decide_true, decide_false, Bool.not_true, Bool.not_false, reduceIte, Nat.reduceEqDiff, Nat.reduceAdd, Nat.reduceMul, Nat.reduceSub, Nat.reduceLeDiff, Nat.reduceLT]
    refine W_draw All ?_
    by_cases hR : ∀ j, j < S.ns → RightS S (nthU S k) j
    · have e : ((bitsP (RightS S (nthU S k)) S.ns : Nat) : Int) = ((2 ^ S.ns - 1 : Nat) : Int) := by rw [hsf.2 hR]
      simp only [rn0, rn1, rn2, rn3, rn4, rn5, rn6, rn7, rn8, if_true, if_false, Nat.le_refl, true_and, and_true, decide_true, decide_false, Bool.not_true, Bool.not_false, reduceIte, Nat.reduceEqDiff, Nat.reduceAdd, Nat.reduceMul, Nat.reduceSub, Nat.reduceLeDiff, Nat.reduceLT, p1, p3, p4, rgb.whole (n := 5) rfl, wb, hyb.self, er, ef, e, sl_co]
      refine step_slice (by omega) rfl fun gc hxc => ?_
      have nc := hxc.next
      have fc := hxc.floor
      obtain ⟨v', gd, ed, htd, od, nd, fd, oldd⟩ := htb.push (by omega) (by omega) (by omega) hxc tib rfl (Nat.le_trans refTo_len (by omega))
      simp only [rn0, rn1, rn2, rn3, rn4, rn5, rn6, rn7, rn8, if_true, if_false, Nat.le_refl, true_and, and_true, decide_true, decide_false, Bool.not_true, Bool.not_false, reduceIte, Nat.reduceEqDiff, Nat.reduceAdd, Nat.reduceMul, Nat.reduceSub, Nat.reduceLeDiff, Nat.reduceLT, p1, p3, p4, ed, hw]
      have hfin := And.intro (fun i (hi : i < g1.next) => (by rw [oldd i (by omega) (neB_of ht.g (by left; exact hi)), ob i (by omega), hs i hi] : gd.get i = g1.get i)) (And.intro (by omega : gd.floor = h.floor) (And.intro (by omega : g1.next ≤ gd.next) (And.intro (by omega : gd.next ≤ g1.next + 50 * (k + 1)) (And.intro (show CosG g1.next gd v' S (refTo S (k + 1)) _ by rw [refTo_succ, if_pos hR]; exact htd) (rfl : v' = v')))))
      first | exact ⟨⟨v', _, hfin⟩, rfl⟩ | exact ⟨v', _, hfin⟩
    · have e : ¬ ((bitsP (RightS S (nthU S k)) S.ns : Nat) : Int) = ((2 ^ S.ns - 1 : Nat) : Int) := fun e => hR (hsf.1 (by omega))
      simp only [rn0, rn1, rn2, rn3, rn4, rn5, rn6, rn7, rn8, if_true, if_false, Nat.le_refl, true_and, and_true, decide_true, decide_false, Bool.not_true, Bool.not_false, reduceIte, Nat.reduceEqDiff, Nat.reduceAdd, Nat.reduceMul, Nat.reduceSub, Nat.reduceLeDiff, Nat.reduceLT, p1, p3, p4, rgb.whole (n := 5) rfl, wb, hyb.self, er, ef, e, hw]
      have hfin := And.intro (fun i (hi : i < g1.next) => (by rw [ob i (by omega), hs i hi] : gb.get i = g1.get i)) (And.intro (by omega : gb.floor = h.floor) (And.intro (by omega : g1.next ≤ gb.next) (And.intro (by omega : gb.next ≤ g1.next + 50 * (k + 1)) (And.intro (show CosG g1.next gb v S (refTo S (k + 1)) _ by rw [refTo_succ, if_neg hR]; exact htb) (rfl : v = v)))))
      first | exact ⟨⟨v, _, hfin⟩, rfl⟩ | exact ⟨v, _, hfin⟩
  · rintro f g ms ⟨⟨v, R1, hs, hfg, hup, hnx, ht, p3⟩, rfl, p1, p4⟩
    have hyg := hy1.mono (AHeap.subOf hs)
    have rg := r1.mono (AHeap.subOf hs)
    have em := manyR_c (n := n) (h := g) (by omega) (by omega) hyg hG.args (by omega)
    rw [hM] at p4
    simp only [rn0, rn1, rn2, rn3, rn4, rn5, rn6, rn7, rn8, if_true, if_false, Nat.le_refl, true_and, and_true, decide_true, decide_false, Bool.not_true, Bool.not_false, reduceIte, Nat.reduceEqDiff, Nat.reduceAdd, Nat.reduceMul, Nat.reduceSub, Nat.reduceLeDiff, Nat.reduceLT, p1, p3, p4, rg.whole (n := 5) rfl, em, Int.lt_irrefl]
    rw [hM']
    exact ⟨ht.out, ht.g.one, fun i hi => by rw [hs i (by omega), hx1.old i hi], by omega, by omega, by omega⟩
end Go.Vm.Bt

namespace Go.Vm.Bt
open Go.Proofs Go.Vm.Vat Go.Vm.L2
set_option linter.unusedSimpArgs false
set_option linter.unusedVariables false
set_option maxRecDepth 10000
variable {n : Nat} {h : AHeap}
noncomputable def errF (S : MB) (fine : Bool) : Int := open Classical in if faultS S ≠ 0 then faultS S else if fine = false then 2 else if truthsS S = [] then 11 else 0
theorem errF_s {S : MB} : errF S true = errS S := by unfold errF errS; simp
noncomputable def someS (S : MB) (e : Int) : List (Nat → Int) := if e = 0 then refTruths S else []
def s38 : SCode := (.seq (.ops [⟨(some 2), none, .box (T 0)⟩, ⟨(some 4), none, .mov (.const (.slice none 0 0))⟩, ⟨(some 5), none, .mov (.const (.int .i64 (0)))⟩]) (.seq (.seq (.ops [⟨(some 8), none, .loadN 5 (T 2)⟩, ⟨(some 9), none, .call (.func 30) [(T 8)]⟩, ⟨(some 6), none, .mov (T 9)⟩]) (.seq (.ops [⟨(some 10), none, .mov (T 6)⟩, ⟨(some 11), none, .int2 .neq (T 10) (.const (.int .i64 (0)))⟩]) (.cond (T 11) (.seq (.ops [⟨(some 12), none, .mov (T 6)⟩, ⟨(some 4), none, .mov (.const (.slice none 0 0))⟩, ⟨(some 5), none, .mov (T 12)⟩]) .ret) .skip))) (.seq (.seq (.ops [⟨(some 13), none, .mov (T 1)⟩, ⟨(some 14), none, .not (T 13)⟩]) (.cond (T 14) (.seq (.ops [⟨(some 4), none, .mov (.const (.slice none 0 0))⟩, ⟨(some 5), none, .mov (.const (.int .i64 (2)))⟩]) .ret) .skip)) (.seq (.ops [⟨(some 15), none, .loadN 5 (T 2)⟩, ⟨(some 16), none, .call (.func 67) [(T 15)]⟩, ⟨(some 7), none, .mov (T 16)⟩]) (.seq (.seq (.ops [⟨(some 17), none, .mov (T 7)⟩, ⟨(some 18), none, .len (T 17)⟩, ⟨(some 19), none, .int2 .eql (T 18) (.const (.int .i64 (0)))⟩]) (.cond (T 19) (.seq (.ops [⟨(some 4), none, .mov (.const (.slice none 0 0))⟩, ⟨(some 5), none, .mov (.const (.int .i64 (11)))⟩]) .ret) .skip)) (.seq (.ops [⟨(some 20), none, .mov (T 7)⟩, ⟨(some 4), none, .mov (T 20)⟩, ⟨(some 5), none, .mov (.const (.int .i64 (0)))⟩]) .ret))))))
theorem fok38 : FnOk Try.prog 38 21 s38 [.tmp 4, .tmp 5] := ⟨Try.f38, _, Try.func38, rfl, Try.ntmps38, by kernel_rfl, by kernel_rfl⟩
set_option maxHeartbeats 1000000 in
theorem asked_c (hn : 400 ≤ n) (hr : h.next + 30000 < far) (hfl : h.floor ≤ h.next) {vv sv : Value} {S : MB} (hy : BeatR h vv sv S) (hT : ThinS S) (fine : Bool) :
    ∃ l h', call n (.func (.func 38) #[] #[]) [.agg ⟨beL S vv sv⟩, .bool fine] h = some (.tuple ⟨[l, .int .i64 (errF S fine)]⟩, h') ∧ CoursesL h' l S (someS S (errF S fine)) ∧ (∀ i, i < h.next → h'.get i = h.get i) ∧ h.next ≤ h'.next ∧ h'.next ≤ h.next + 15010 ∧ h'.floor = h.floor := by
  obtain ⟨n, rfl⟩ : ∃ p, n = p + 1 := ⟨n - 1, by omega⟩
  suffices hs : ∃ w h', call (n + 1) (.func (.func 38) #[] #[]) [.agg ⟨beL S vv sv⟩, .bool fine] h = some (w, h') ∧ ∃ l, w = .tuple ⟨[l, .int .i64 (errF S fine)]⟩ ∧ CoursesL h' l S (someS S (errF S fine)) ∧ (∀ i, i < h.next → h'.get i = h.get i) ∧ h.next ≤ h'.next ∧ h'.next ≤ h.next + 15010 ∧ h'.floor = h.floor by
    obtain ⟨w, h', e, l, rfl, q⟩ := hs
    exact ⟨l, h', e, q⟩
  have hnil : ∀ (g : AHeap) (e : Int), e ≠ 0 → CoursesL g nilS S (someS S e) := fun g e he => by
    unfold someS
    rw [if_neg he]
    exact CosG.out (B := 0) CosG.nil
  refine call_any0 fok38 rfl rfl (by simp) ?_
  simp only [s38, W_seq, W_ops]
  refine ops_box (cs := beL S vv sv) (by omega) rfl hy.one fun g1 hx1 => ?_
  have n1 := hx1.next
  have f1 := hx1.floor
  have hy1 := hy.mono hx1.sub
  have r1 := hx1.row
  have old1 : ∀ i, i < h.next → g1.get i = h.get i := fun i hi => hx1.old i hi
  have ef := faultL_c (n := n) (h := g1) (by omega) (by omega) hy1 hT
  by_cases hf : faultS S = 0
  case neg =>
    have he : errF S fine = faultS S := by unfold errF; rw [if_pos hf]
    rw [he]
    simp only [rn0, rn1, rn2, rn3, rn4, rn5, rn6, rn7, rn8, if_true, if_false, Nat.le_refl, true_and, and_true, decide_true, decide_false, Bool.not_true, Bool.not_false, reduceIte, Nat.reduceEqDiff, Nat.reduceAdd, Nat.reduceMul, Nat.reduceSub, Nat.reduceLeDiff, Nat.reduceLT, r1.whole (n := 5) rfl, ef, hf]
    exact ⟨_, rfl, _, rfl, hnil _ _ hf, old1, by omega, by omega, by omega⟩
  cases fine with
  | false =>
    have he : errF S false = 2 := by unfold errF; rw [if_neg (by simpa using hf), if_pos rfl]
    rw [he]
    simp only [rn0, rn1, rn2, rn3, rn4, rn5, rn6, rn7, rn8, if_true, if_false, Nat.le_refl, true_and, and_true, decide_true, decide_false, Bool.not_true, Bool.not_false, reduceIte, Nat.reduceEqDiff, Nat.reduceAdd, Nat.reduceMul, Nat.reduceSub, Nat.reduceLeDiff, Nat.reduceLT, r1.whole (n := 5) rfl, ef, hf]
    exact ⟨_, rfl, _, rfl, hnil _ _ (by decide), old1, by omega, by omega, by omega⟩
  | true =>
    have hG := good_of hf
    obtain ⟨v, g2, e2, hc2, o2, old2, u2, m2, f2⟩ := truthsRef_c (n := n) (h := g1) (by omega) (by omega) (by omega) hy1 hG
    have old2' : ∀ i, i < h.next → g2.get i = h.get i := fun i hi => by rw [old2 i (by omega), old1 i hi]
    obtain ⟨R, hR, hR2⟩ := hc2
    by_cases ht : truthsS S = []
    · have he : errF S true = 11 := by unfold errF; rw [if_neg (by simpa using hf), if_neg (by decide), if_pos ht]
      have hz : (refTruths S).length = 0 := by rw [(ref_nil hG).2 ht]; rfl
      have hz' : ((refTruths S).length : Int) = 0 := by omega
      rw [he]
      simp only [rn0, rn1, rn2, rn3, rn4, rn5, rn6, rn7, rn8, if_true, if_false, Nat.le_refl, true_and, and_true, decide_true, decide_false, Bool.not_true, Bool.not_false, reduceIte, Nat.reduceEqDiff, Nat.reduceAdd, Nat.reduceMul, Nat.reduceSub, Nat.reduceLeDiff, Nat.reduceLT, r1.whole (n := 5) rfl, ef, hf, e2, Cells.len hR, hz']
      exact ⟨_, rfl, _, rfl, hnil _ _ (by decide), old2', by omega, by omega, by omega⟩
    · have he : errF S true = 0 := by unfold errF; rw [if_neg (by simpa using hf), if_neg (by decide), if_neg ht]
      have hz : (refTruths S).length ≠ 0 := fun e => ht ((ref_nil hG).1 (List.length_eq_zero_iff.1 e))
      have hz' : ¬ ((refTruths S).length : Int) = 0 := by omega
      rw [he]
      simp only [rn0, rn1, rn2, rn3, rn4, rn5, rn6, rn7, rn8, if_true, if_false, Nat.le_refl, true_and, and_true, decide_true, decide_false, Bool.not_true, Bool.not_false, reduceIte, Nat.reduceEqDiff, Nat.reduceAdd, Nat.reduceMul, Nat.reduceSub, Nat.reduceLeDiff, Nat.reduceLT, r1.whole (n := 5) rfl, ef, hf, e2, Cells.len hR, hz']
      exact ⟨_, rfl, _, rfl, ⟨R, by unfold someS; rw [if_pos rfl]; exact hR, by unfold someS; rw [if_pos rfl]; exact hR2⟩, old2', by omega, by omega, by omega⟩
def s41 : SCode := (.seq (.ops [⟨(some 1), none, .box (T 0)⟩, ⟨(some 2), none, .mov (.const (.slice none 0 0))⟩, ⟨(some 3), none, .mov (.const (.int .i64 (0)))⟩]) (.seq (.ops [⟨(some 4), none, .loadN 5 (T 1)⟩, ⟨(some 5), none, .call (.func 38) [(T 4), (.const (.bool true))]⟩, ⟨(some 6), none, .extract 0 (T 5)⟩, ⟨(some 7), none, .extract 1 (T 5)⟩, ⟨(some 2), none, .mov (T 6)⟩, ⟨(some 3), none, .mov (T 7)⟩]) .ret))
theorem fok41 : FnOk Try.prog 41 8 s41 [.tmp 2, .tmp 3] := ⟨Try.f41, _, Try.func41, rfl, Try.ntmps41, by kernel_rfl, by kernel_rfl⟩
theorem sure_c (hn : 410 ≤ n) (hr : h.next + 30010 < far) (hfl : h.floor ≤ h.next) {vv sv : Value} {S : MB} (hy : BeatR h vv sv S) (hT : ThinS S) :
    ∃ l h', call n (.func (.func 41) #[] #[]) [.agg ⟨beL S vv sv⟩] h = some (.tuple ⟨[l, .int .i64 (errS S)]⟩, h') ∧ CoursesL h' l S (someS S (errS S)) ∧ (∀ i, i < h.next → h'.get i = h.get i) ∧ h.next ≤ h'.next ∧ h'.next ≤ h.next + 15020 ∧ h'.floor = h.floor := by
  obtain ⟨n, rfl⟩ : ∃ p, n = p + 1 := ⟨n - 1, by omega⟩
  suffices hs : ∃ w h', call (n + 1) (.func (.func 41) #[] #[]) [.agg ⟨beL S vv sv⟩] h = some (w, h') ∧ ∃ l, w = .tuple ⟨[l, .int .i64 (errS S)]⟩ ∧ CoursesL h' l S (someS S (errS S)) ∧ (∀ i, i < h.next → h'.get i = h.get i) ∧ h.next ≤ h'.next ∧ h'.next ≤ h.next + 15020 ∧ h'.floor = h.floor by
    obtain ⟨w, h', e, l, rfl, q⟩ := hs
    exact ⟨l, h', e, q⟩
  refine call_any0 fok41 rfl rfl (by simp) ?_
  simp only [s41, W_seq, W_ops]
  refine ops_box (cs := beL S vv sv) (by omega) rfl hy.one fun g1 hx1 => ?_
  have n1 := hx1.next
  have f1 := hx1.floor
  obtain ⟨l, g2, e2, hc2, old2, u2, m2, f2⟩ := asked_c (n := n) (h := g1) (by omega) (by omega) (by omega) (hy.mono hx1.sub) hT true
  rw [errF_s] at e2 hc2
  simp only [rn0, rn1, rn2, rn3, rn4, rn5, rn6, rn7, rn8, if_true, if_false, Nat.le_refl, true_and, and_true, decide_true, decide_false, Bool.not_true, Bool.not_false, reduceIte, Nat.reduceEqDiff, Nat.reduceAdd, Nat.reduceMul, Nat.reduceSub, Nat.reduceLeDiff, Nat.reduceLT, hx1.row.whole (n := 5) rfl, e2, ex0, ex1]
  exact ⟨_, rfl, _, rfl, hc2, fun i hi => by rw [old2 i (by omega), hx1.old i hi], by omega, by omega, by omega⟩
def loK (c : Int) (val : (Nat → Int) → Int) (L : List (Nat → Int)) : Nat → Int
  | 0 => c
  | k + 1 => min (loK c val L k) (val (L.getD k fun _ => 0))
def hiK (c : Int) (val : (Nat → Int) → Int) (L : List (Nat → Int)) : Nat → Int
  | 0 => c
  | k + 1 => max (hiK c val L k) (val (L.getD k fun _ => 0))
theorem le_loK {c b : Int} {val : (Nat → Int) → Int} {L : List (Nat → Int)} : ∀ k, b ≤ loK c val L k ↔ b ≤ c ∧ ∀ i, i < k → b ≤ val (L.getD i fun _ => 0)
  | 0 => ⟨fun h => ⟨h, fun i hi => absurd hi (Nat.not_lt_zero _)⟩, fun h => h.1⟩
  | k + 1 => by
    have ih := le_loK (c := c) (b := b) (val := val) (L := L) k
    constructor
    · intro h
      have h1 : b ≤ loK c val L k := by simp only [loK] at h; omega
      have h2 : b ≤ val (L.getD k fun _ => 0) := by simp only [loK] at h; omega
      refine ⟨(ih.1 h1).1, fun i hi => ?_⟩
      by_cases e : i = k
      · subst e; exact h2
      · exact (ih.1 h1).2 i (by omega)
    · rintro ⟨h1, h2⟩
      have h3 := ih.2 ⟨h1, fun i hi => h2 i (by omega)⟩
      have h4 := h2 k (by omega)
      simp only [loK]
      omega
theorem hiK_le {c b : Int} {val : (Nat → Int) → Int} {L : List (Nat → Int)} : ∀ k, hiK c val L k ≤ b ↔ c ≤ b ∧ ∀ i, i < k → val (L.getD i fun _ => 0) ≤ b
  | 0 => ⟨fun h => ⟨h, fun i hi => absurd hi (Nat.not_lt_zero _)⟩, fun h => h.1⟩
  | k + 1 => by
    have ih := hiK_le (c := c) (b := b) (val := val) (L := L) k
    constructor
    · intro h
      have h1 : hiK c val L k ≤ b := by simp only [hiK] at h; omega
      have h2 : val (L.getD k fun _ => 0) ≤ b := by simp only [hiK] at h; omega
      refine ⟨(ih.1 h1).1, fun i hi => ?_⟩
      by_cases e : i = k
      · subst e; exact h2
      · exact (ih.1 h1).2 i (by omega)
    · rintro ⟨h1, h2⟩
      have h3 := ih.2 ⟨h1, fun i hi => h2 i (by omega)⟩
      have h4 := h2 k (by omega)
      simp only [hiK]
      omega
theorem loK_all {c : Int} {val : (Nat → Int) → Int} {L : List (Nat → Int)} (hL : L ≠ []) (hc : ∀ t, t ∈ L → val t ≤ c) : loK c val L L.length = loN val L := int_ext fun b => by
  rw [le_loK, le_loN hL, all_getD' (p := fun t => b ≤ val t)]
  refine ⟨fun h => h.2, fun h => ⟨?_, h⟩⟩
  obtain ⟨t, ht⟩ := List.exists_mem_of_ne_nil _ hL
  exact Int.le_trans (h t ht) (hc t ht)
theorem hiK_all {c : Int} {val : (Nat → Int) → Int} {L : List (Nat → Int)} (hL : L ≠ []) (hc : ∀ t, t ∈ L → c ≤ val t) : hiK c val L L.length = hiN val L := int_ext' fun b => by
  rw [hiK_le, hiN_le hL, all_getD' (p := fun t => val t ≤ b)]
  refine ⟨fun h => h.2, fun h => ⟨?_, h⟩⟩
  obtain ⟨t, ht⟩ := List.exists_mem_of_ne_nil _ hL
  exact Int.le_trans (hc t ht) (h t ht)
theorem cou_ld {v : Value} {l : List (Nat → Int)} {R : Nat → Value} (hR : Cells h v 2 l.length (cosC l R)) {k : Nat} (hk : k < l.length) : loadAgg 2 h (ptrO v 2 k 0) = some (.agg ⟨coL ((l.getD k fun _ => 0) 0) (R k)⟩) := by
  rw [Cells.ldN hR hk (by omega) (by omega)]; simp [List.range_succ, cosC, coL]
def s43 : SCode := (.seq (.ops [⟨(some 4), none, .alloc [(.int .i64 (0)), (.int .i64 (0))]⟩]) (.seq (.ops [⟨(some 8), none, .build #[(0, 1), (1, 1)] [(.int .i64 (0)), (.int .i64 (0))] [0, 1] [(.const (.int .i64 (99))), (.const (.int .i64 (-1)))]⟩, ⟨(some 5), none, .alloc [(.int .i64 (0)), (.int .i64 (0))]⟩, ⟨none, none, .store 2 (T 5) (T 8)⟩]) (.seq (.seq (.ops [⟨(some 6), none, .mov (.const (.int .i64 (0)))⟩]) (.block 0 (.loop (.seq (.seq (.ops [⟨(some 9), none, .mov (T 6)⟩, ⟨(some 10), none, .mov (T 0)⟩, ⟨(some 11), none, .len (T 10)⟩, ⟨(some 12), none, .int2 .lss (T 9) (T 11)⟩]) (.cond (T 12) .skip (.exit 0))) (.seq (.block 1 (.seq (.ops [⟨(some 15), none, .mov (T 0)⟩, ⟨(some 16), none, .mov (T 6)⟩, ⟨(some 17), none, .idxSl 2 (T 15) (T 16)⟩, ⟨(some 18), none, .loadN 2 (T 17)⟩, ⟨(some 19), none, .mov (T 1)⟩, ⟨(some 20), none, .call (.func 66) [(T 18), (T 19)]⟩, ⟨(some 7), none, .mov (T 20)⟩]) (.ops [⟨(some 21), none, .fieldAddr 0 (T 5)⟩, ⟨(some 22), none, .load1 (T 21)⟩, ⟨(some 23), none, .mov (T 7)⟩, ⟨(some 24), none, .plain (.call { callee := .builtin .min, args := #[(T 22), (T 23)], argTypes := #[3, 3] }) 3⟩, ⟨(some 25), none, .fieldAddr 1 (T 5)⟩, ⟨(some 26), none, .load1 (T 25)⟩, ⟨(some 27), none, .mov (T 7)⟩, ⟨(some 28), none, .plain (.call { callee := .builtin .max, args := #[(T 26), (T 27)], argTypes := #[3, 3] }) 3⟩, ⟨(some 29), none, .build #[(0, 1), (1, 1)] [(.int .i64 (0)), (.int .i64 (0))] [0, 1] [(T 24), (T 28)]⟩, ⟨none, none, .store 2 (T 5) (T 29)⟩]))) (.ops [⟨(some 13), none, .mov (T 6)⟩, ⟨(some 14), none, .int2 .add (T 13) (.const (.int .i64 (1)))⟩, ⟨(some 6), none, .mov (T 14)⟩])))))) (.seq (.ops [⟨(some 30), none, .loadN 2 (T 5)⟩, ⟨none, none, .store 2 (T 4) (T 30)⟩]) .ret))))
theorem fok43 : FnOk Try.prog 43 31 s43 [.cellN 4 2] := ⟨Try.f43, _, Try.func43, rfl, Try.ntmps43, by kernel_rfl, by kernel_rfl⟩
set_option maxHeartbeats 1000000 in
theorem boundsR_c (hn : 320 ≤ n) (hr : h.next + 50 < far) {v : Value} {S : MB} {L : List (Nat → Int)} (hG : Good S) (hc : CoursesL h v S L) (hL : ∀ t, t ∈ L → InU S t) (hlen : L.length ≤ 300) {w : Nat} (hw : w < S.nv) :
    call n (.func (.func 43) #[] #[]) [v, .int .i64 (w : Int)] h = some (.agg ⟨[.int .i64 (loK 99 (fun u => whenS u w) L L.length), .int .i64 (hiK (-1) (fun u => whenS u w) L L.length)]⟩, h) := by
  obtain ⟨n, rfl⟩ : ∃ p, n = p + 1 := ⟨n - 1, by omega⟩
  refine call_plain0 fok43 rfl rfl (by simp) rfl ?_
  have hc := hc.mono (g := h.shutAll) fun _ _ _ _ _ h => h
  have hr : h.shutAll.next + 50 < far := hr
  have hfl : h.shutAll.floor ≤ h.shutAll.next := Nat.le_refl _
  generalize h.shutAll = h at hc hr hfl
  obtain ⟨R, hR, hR2⟩ := hc
  simp only [s43, W_seq, W_ops]
  refine ops_alloc (cs := [.int .i64 0, .int .i64 0]) (by omega) rfl fun g1 hx1 => ?_
  have n1 := hx1.next
  have f1 := hx1.floor
  simp only [rn0, rn1, rn2, rn3, rn4, rn5, rn6, rn7, rn8, if_true, if_false, Nat.le_refl, true_and, and_true, decide_true, decide_false, Bool.not_true, Bool.not_false, reduceIte, Nat.reduceEqDiff, Nat.reduceAdd, Nat.reduceMul, Nat.reduceSub, Nat.reduceLeDiff, Nat.reduceLT, build_range]
  refine step_row (cs := [.int .i64 0, .int .i64 0]) (by omega) rfl rfl fun g2 hx2 => ?_
  have n2 := hx2.next
  have f2 := hx2.floor
  simp only [rn0, rn1, rn2, rn3, rn4, rn5, rn6, rn7, rn8, if_true, if_false, Nat.le_refl, true_and, and_true, decide_true, decide_false, Bool.not_true, Bool.not_false, reduceIte, Nat.reduceEqDiff, Nat.reduceAdd, Nat.reduceMul, Nat.reduceSub, Nat.reduceLeDiff, Nat.reduceLT]
  refine step_store (b := g1.next) (off := 0) (vs := [.int .i64 99, .int .i64 (-1)]) rfl hx2.get (by omega) (by omega) rfl rfl rfl (by simp) fun g3 hs3 => ?_
  rw [splice_all (by rfl)] at hs3
  have n3 := hs3.next
  have f3 := hs3.floor
  have old3 : ∀ i, i < h.next → g3.get i = h.get i := fun i hi => by rw [hs3.old i (by omega), hx2.old i (by omega), hx1.old i hi]
  have q1 : g3.get h.next = some (.row [.int .i64 0, .int .i64 0] true 0) := by rw [hs3.old _ (by omega), hx2.old _ (by omega)]; exact hx1.get
  simp only [rn0, rn1, rn2, rn3, rn4, rn5, rn6, rn7, rn8, if_true, if_false, Nat.le_refl, true_and, and_true, decide_true, decide_false, Bool.not_true, Bool.not_false, reduceIte, Nat.reduceEqDiff, Nat.reduceAdd, Nat.reduceMul, Nat.reduceSub, Nat.reduceLeDiff, Nat.reduceLT]
  refine W_loop L.length (fun k f g ms => ((∀ i, i ≠ g1.next → g.get i = g3.get i) ∧ g.next = g3.next ∧ g.floor = g3.floor ∧ g.get g1.next = some (.row [.int .i64 (loK 99 (fun u => whenS u w) L k), .int .i64 (hiK (-1) (fun u => whenS u w) L k)] true 0)) ∧ ms = [] ∧ f 0 = v ∧ f 1 = .int .i64 (w : Int) ∧ f 4 = .pointer (some ⟨h.next, 0, none⟩) ∧ f 5 = .pointer (some ⟨g1.next, 0, none⟩) ∧ f 6 = .int .i64 (k : Int)) (by simp; omega) ?_ ?_ ?_
  · simp only [rn0, rn1, rn2, rn3, rn4, rn5, rn6, rn7, rn8, if_true, if_false, Nat.le_refl, true_and, and_true, decide_true, decide_false, Bool.not_true, Bool.not_false, reduceIte, Nat.reduceEqDiff, Nat.reduceAdd, Nat.reduceMul, Nat.reduceSub, Nat.reduceLeDiff, Nat.reduceLT, Int.natCast_zero, loK, hiK]
    exact ⟨fun i _ => trivial, hs3.get⟩
  · rintro k f g ms hk ⟨⟨ho, hnx, hfg, hg⟩, rfl, p0, p1, p4, p5, p6⟩
    have hk' : (k : Int) < (L.length : Int) := by omega
    have hwk : wrapF .i64 ((k : Int) + 1) = ((k + 1 : Nat) : Int) := by rw [wrap_in (by omega) (by omega)]; rfl
    have oldg : ∀ i, i < h.next → g.get i = h.get i := fun i hi => by rw [ho i (by omega), old3 i hi]
    have sg : Sub All h g := AHeap.subOf oldg
    have hRg := hR.mono sg
    have hcg : CouR g (R k) S (L.getD k fun _ => 0) := Cells.mono (hR2 k hk) sg
    have hmem : (L.getD k fun _ => 0) ∈ L := by rw [List.getD_eq_getElem?_getD, List.getElem?_eq_getElem hk]; exact List.getElem_mem hk
    have ew := when_u (n := n) (h := g) (by omega) (by omega) hG (hL _ hmem) hcg hw
    have rg : Row g g1.next _ := ⟨_, _, hg⟩
    have l0 : ([Value.int .i64 (loK 99 (fun u => whenS u w) L k), .int .i64 (hiK (-1) (fun u => whenS u w) L k)] : List Value)[0]? = some (.int .i64 (loK 99 (fun u => whenS u w) L k)) := rfl
    have l1 : ([Value.int .i64 (loK 99 (fun u => whenS u w) L k), .int .i64 (hiK (-1) (fun u => whenS u w) L k)] : List Value)[1]? = some (.int .i64 (hiK (-1) (fun u => whenS u w) L k)) := rfl
    simp only [rn0, rn1, rn2, rn3, rn4, rn5, rn6, rn7, rn8, if_true, if_false, Nat.le_refl, true_and, and_true, decide_true, decide_false, Bool.not_true, Bool.not_false, reduceIte, Nat.reduceEqDiff, Nat.reduceAdd, Nat.reduceMul, Nat.reduceSub, Nat.reduceLeDiff, Nat.reduceLT, p0, p1, p4, p5, p6, Cells.len hR, hk', Cells.idx hRg hk, cou_ld hRg hk, ew, rg.ld, Nat.zero_add, l0, l1, valN_tmp, Nat.reduceLT, build_range]
    refine step_store (b := g1.next) (off := 0) (vs := [.int .i64 (min (loK 99 (fun u => whenS u w) L k) (whenS (L.getD k fun _ => 0) w)), .int .i64 (max (hiK (-1) (fun u => whenS u w) L k) (whenS (L.getD k fun _ => 0) w))]) rfl hg (by omega) (by omega) rfl rfl rfl (by simp) fun g4 hs4 => ?_
    rw [splice_all (by rfl)] at hs4
    have n4 := hs4.next
    have f4 := hs4.floor
    simp only [rn0, rn1, rn2, rn3, rn4, rn5, rn6, rn7, rn8, if_true, if_false, Nat.le_refl, true_and, and_true, decide_true, decide_false, Bool.not_true, Bool.not_false, reduceIte, Nat.reduceEqDiff, Nat.reduceAdd, Nat.reduceMul, Nat.reduceSub, Nat.reduceLeDiff, Nat.reduceLT, p0, p1, p4, p5, p6, hwk]
    exact ⟨fun i hi => by rw [hs4.old i hi, ho i hi], by omega, by omega, hs4.get⟩
  · rintro f g ms ⟨⟨ho, hnx, hfg, hg⟩, rfl, p0, p1, p4, p5, p6⟩
    have rg : Row g g1.next _ := ⟨_, _, hg⟩
    simp only [rn0, rn1, rn2, rn3, rn4, rn5, rn6, rn7, rn8, if_true, if_false, Nat.le_refl, true_and, and_true, decide_true, decide_false, Bool.not_true, Bool.not_false, reduceIte, Nat.reduceEqDiff, Nat.reduceAdd, Nat.reduceMul, Nat.reduceSub, Nat.reduceLeDiff, Nat.reduceLT, p0, p1, p4, p5, p6, Cells.len hR, Int.lt_irrefl, rg.whole (n := 2) rfl]
    refine step_store (b := h.next) (off := 0) (vs := [.int .i64 (loK 99 (fun u => whenS u w) L L.length), .int .i64 (hiK (-1) (fun u => whenS u w) L L.length)]) rfl (by rw [ho _ (by omega)]; exact q1) (by omega) (by omega) rfl rfl rfl (by simp) fun g4 hs4 => ?_
    rw [splice_all (by rfl)] at hs4
    simp only [rn0, rn1, rn2, rn3, rn4, rn5, rn6, rn7, rn8, if_true, if_false, Nat.le_refl, true_and, and_true, decide_true, decide_false, Bool.not_true, Bool.not_false, reduceIte, Nat.reduceEqDiff, Nat.reduceAdd, Nat.reduceMul, Nat.reduceSub, Nat.reduceLeDiff, Nat.reduceLT, p4, res_cellN, hs4.row.whole (n := 2) rfl]
def s46 : SCode := (.seq (.ops [⟨(some 3), none, .box (T 0)⟩, ⟨(some 6), none, .alloc [(.int .i64 (0)), (.int .i64 (0))]⟩]) (.seq (.ops [⟨(some 10), none, .build #[(0, 1), (1, 1)] [(.int .i64 (0)), (.int .i64 (0))] [0, 1] [(.const (.int .i64 (1099511627776))), (.const (.int .i64 (-1)))]⟩, ⟨(some 7), none, .alloc [(.int .i64 (0)), (.int .i64 (0))]⟩, ⟨none, none, .store 2 (T 7) (T 10)⟩]) (.seq (.seq (.ops [⟨(some 8), none, .mov (.const (.int .i64 (0)))⟩]) (.block 0 (.loop (.seq (.seq (.ops [⟨(some 11), none, .mov (T 8)⟩, ⟨(some 12), none, .mov (T 1)⟩, ⟨(some 13), none, .len (T 12)⟩, ⟨(some 14), none, .int2 .lss (T 11) (T 13)⟩]) (.cond (T 14) .skip (.exit 0))) (.seq (.block 1 (.seq (.draw [⟨.rd1, ⟨(some 17), none, .loadN 5 (T 3)⟩⟩, ⟨.free, ⟨(some 18), none, .mov (T 1)⟩⟩, ⟨.free, ⟨(some 19), none, .mov (T 8)⟩⟩, ⟨.free, ⟨(some 20), none, .idxSl 2 (T 18) (T 19)⟩⟩, ⟨.rd1, ⟨(some 21), none, .loadN 2 (T 20)⟩⟩, ⟨.free, ⟨(some 22), none, .mov (T 2)⟩⟩, ⟨.any, ⟨(some 23), none, .call (.func 95) [(T 17), (T 21), (T 22)]⟩⟩, ⟨.free, ⟨(some 9), none, .mov (T 23)⟩⟩]) (.ops [⟨(some 24), none, .fieldAddr 0 (T 7)⟩, ⟨(some 25), none, .load1 (T 24)⟩, ⟨(some 26), none, .mov (T 9)⟩, ⟨(some 27), none, .plain (.call { callee := .builtin .min, args := #[(T 25), (T 26)], argTypes := #[3, 3] }) 3⟩, ⟨(some 28), none, .fieldAddr 1 (T 7)⟩, ⟨(some 29), none, .load1 (T 28)⟩, ⟨(some 30), none, .mov (T 9)⟩, ⟨(some 31), none, .plain (.call { callee := .builtin .max, args := #[(T 29), (T 30)], argTypes := #[3, 3] }) 3⟩, ⟨(some 32), none, .build #[(0, 1), (1, 1)] [(.int .i64 (0)), (.int .i64 (0))] [0, 1] [(T 27), (T 31)]⟩, ⟨none, none, .store 2 (T 7) (T 32)⟩]))) (.ops [⟨(some 15), none, .mov (T 8)⟩, ⟨(some 16), none, .int2 .add (T 15) (.const (.int .i64 (1)))⟩, ⟨(some 8), none, .mov (T 16)⟩])))))) (.seq (.ops [⟨(some 33), none, .loadN 2 (T 7)⟩, ⟨none, none, .store 2 (T 6) (T 33)⟩]) .ret))))
theorem neq36 {N : Nat} {f : Go.Vm.Fr} {x y : Operand} {ty u : TypeId} {a0 a1 b0 b1 : Int} (hx : valN N f x = .agg ⟨[.int .i64 a0, .int .i64 a1]⟩) (hy : valN N f y = .agg ⟨[.int .i64 b0, .int .i64 b1]⟩) :
    plainF Try.prog N (.binOp .neq 36 x y u) ty f h = some (.bool (!decide (a0 = b0 ∧ a1 = b1)), h) :=
  plainF_neqTwo hx hy (by kernel_rfl) (by rfl) (by kernel_rfl) (by decide) (by decide) rfl rfl (by rfl) (by rfl)
end Go.Vm.Bt

namespace Go.Vm.Bt
open Go.Proofs Go.Vm.Vat Go.Vm.L2
set_option linter.unusedSimpArgs false
set_option linter.unusedVariables false
set_option maxRecDepth 10000
variable {n : Nat} {h : AHeap}
def s88 : SCode := (.seq (.ops [⟨(some 3), none, .box (T 0)⟩, ⟨(some 4), none, .mov (.const (.bool false))⟩]) (.seq (.ops [⟨(some 5), none, .loadN 6 (T 3)⟩, ⟨(some 6), none, .load1 (T 1)⟩, ⟨(some 7), none, .call (.func 89) [(T 5), (T 6)]⟩, ⟨(some 8), none, .mov (T 7)⟩, ⟨(some 9), (some (8, true)), .loadN 6 (T 3)⟩, ⟨(some 10), (some (8, true)), .load1 (T 2)⟩, ⟨(some 11), (some (8, true)), .call (.func 90) [(T 9), (T 10)]⟩, ⟨(some 12), none, .pick (T 8) (T 11) (.const (.bool false))⟩, ⟨(some 4), none, .mov (T 12)⟩]) .ret))
theorem fok88 : FnOk Try.prog 88 13 s88 [.tmp 4] := ⟨Try.f88, _, Try.func88, rfl, Try.ntmps88, by kernel_rfl, by kernel_rfl⟩
theorem done1_c (hn : 120 ≤ n) (hr : h.next + 110 < far) {vv sv : Value} {S : MB} {a b : Int} {p q : Nat} (hy : BeatR h vv sv S) (hp : Row h p [.int .i64 a]) (hq : Row h q [.int .i64 b]) :
    call n (.func (.func 88) ⟨[]⟩ ⟨[.pointer (some ⟨p, 0, none⟩), .pointer (some ⟨q, 0, none⟩)]⟩) [.agg ⟨wkL S vv sv nilS⟩] h = some (.bool (decide ((0 ≤ a ∧ a ≤ (S.nv : Int) - 1) ∧ 0 ≤ b ∧ b ≤ S.last)), h) := by
  obtain ⟨n, rfl⟩ : ∃ p, n = p + 1 := ⟨n - 1, by omega⟩
  refine call_plain (xs := []) (ys := [.pointer (some ⟨p, 0, none⟩), .pointer (some ⟨q, 0, none⟩)]) fok88 rfl rfl (by simp) rfl ?_
  have hy := hy.shut
  have hp : Row h.shutAll p [.int .i64 a] := hp.mono fun _ _ _ _ _ h => h
  have hq : Row h.shutAll q [.int .i64 b] := hq.mono fun _ _ _ _ _ h => h
  have hr : h.shutAll.next + 110 < far := hr
  generalize h.shutAll = h at hy hp hq hr
  simp only [s88, List.cons_append, List.nil_append, W_seq, W_ops]
  refine ops_box (cs := wkL S vv sv nilS) (by omega) rfl (wk_one hy rfl) fun g1 hx1 => ?_
  have n1 := hx1.next
  have hy1 := hy.mono hx1.sub
  have e1 := hasVat_c (n := n) (h := g1) (tv := nilS) (by omega) (by omega) hy1 rfl a
  have e2 := hasHour_c (n := n) (h := g1) (by omega) (by omega) (wk_one (tv := nilS) hy1 rfl) b
  by_cases c1 : 0 ≤ a ∧ a ≤ (S.nv : Int) - 1
  · have hd : decide ((0 ≤ a ∧ a ≤ (S.nv : Int) - 1) ∧ 0 ≤ b ∧ b ≤ S.last) = decide (0 ≤ b ∧ b ≤ S.last) := decide_eq_decide.2 ⟨fun h => h.2, fun h => ⟨c1, h⟩⟩
    rw [hd]
    rw [decide_eq_true c1] at e1
    simp only [rn0, rn1, rn2, rn3, rn4, rn5, rn6, rn7, rn8, if_true, if_false, Nat.le_refl, true_and, and_true, decide_true, decide_false, Bool.not_true, Bool.not_false, reduceIte, Nat.reduceEqDiff, Nat.reduceAdd, Nat.reduceMul, Nat.reduceSub, Nat.reduceLeDiff, Nat.reduceLT, hx1.row.whole (n := 6) rfl, (hp.mono hx1.sub).ld, (hq.mono hx1.sub).ld, Nat.zero_add, List.getElem?_cons_zero, e1, e2]
  · have hd : decide ((0 ≤ a ∧ a ≤ (S.nv : Int) - 1) ∧ 0 ≤ b ∧ b ≤ S.last) = false := decide_eq_false fun h => c1 h.1
    rw [hd]
    rw [decide_eq_false c1] at e1
    simp only [rn0, rn1, rn2, rn3, rn4, rn5, rn6, rn7, rn8, if_true, if_false, Nat.le_refl, true_and, and_true, decide_true, decide_false, Bool.not_true, Bool.not_false, reduceIte, Nat.reduceEqDiff, Nat.reduceAdd, Nat.reduceMul, Nat.reduceSub, Nat.reduceLeDiff, Nat.reduceLT, hx1.row.whole (n := 6) rfl, (hp.mono hx1.sub).ld, (hq.mono hx1.sub).ld, Nat.zero_add, List.getElem?_cons_zero, e1, e2, g_un]
def cntD (val : (Nat → Int) → Int) (c : Int) (L : List (Nat → Int)) : Nat → Nat
  | 0 => 0
  | k + 1 => cntD val c L k + if val (L.getD k fun _ => 0) ≤ c then 1 else 0
theorem cntD_le {val : (Nat → Int) → Int} {c : Int} {L : List (Nat → Int)} : ∀ k, cntD val c L k ≤ k
  | 0 => Nat.le_refl _
  | k + 1 => by have := cntD_le (val := val) (c := c) (L := L) k; simp only [cntD]; split <;> omega
theorem cntD_all {val : (Nat → Int) → Int} {c : Int} {L : List (Nat → Int)} : ∀ k, cntD val c L k = k ↔ ∀ i, i < k → val (L.getD i fun _ => 0) ≤ c
  | 0 => ⟨fun _ i hi => absurd hi (Nat.not_lt_zero _), fun _ => rfl⟩
  | k + 1 => by
    have ih := cntD_all (val := val) (c := c) (L := L) k
    have hb := cntD_le (val := val) (c := c) (L := L) k
    simp only [cntD]
    by_cases q : val (L.getD k fun _ => 0) ≤ c
    · rw [if_pos q]
      constructor
      · intro h i hi
        by_cases e : i = k
        · subst e; exact q
        · exact ih.1 (by omega) i (by omega)
      · intro h; have := ih.2 fun i hi => h i (by omega); omega
    · rw [if_neg q]
      exact ⟨fun h => by omega, fun h => absurd (h k (by omega)) q⟩
theorem cntD_none {val : (Nat → Int) → Int} {c : Int} {L : List (Nat → Int)} : ∀ k, cntD val c L k = 0 ↔ ∀ i, i < k → c + 1 ≤ val (L.getD i fun _ => 0)
  | 0 => ⟨fun _ i hi => absurd hi (Nat.not_lt_zero _), fun _ => rfl⟩
  | k + 1 => by
    have ih := cntD_none (val := val) (c := c) (L := L) k
    simp only [cntD]
    by_cases q : val (L.getD k fun _ => 0) ≤ c
    · rw [if_pos q]
      exact ⟨fun h => by omega, fun h => by have := h k (by omega); omega⟩
    · rw [if_neg q]
      constructor
      · intro h i hi
        by_cases e : i = k
        · subst e; omega
        · exact ih.1 (by omega) i (by omega)
      · intro h; have := ih.2 fun i hi => h i (by omega); omega
def s40 : SCode := (.seq (.ops [⟨(some 6), none, .mov (.const (.int .i64 (0)))⟩]) (.seq (.ops [⟨(some 7), none, .mov (.const (.int .i64 (0)))⟩]) (.seq (.seq (.ops [⟨(some 8), none, .mov (.const (.int .i64 (0)))⟩]) (.block 0 (.loop (.seq (.seq (.ops [⟨(some 9), none, .mov (T 8)⟩, ⟨(some 10), none, .mov (T 0)⟩, ⟨(some 11), none, .len (T 10)⟩, ⟨(some 12), none, .int2 .lss (T 9) (T 11)⟩]) (.cond (T 12) .skip (.exit 0))) (.seq (.block 1 (.seq (.ops [⟨(some 15), none, .mov (T 2)⟩, ⟨(some 16), none, .mov (T 0)⟩, ⟨(some 17), none, .mov (T 8)⟩, ⟨(some 18), none, .idxSl 2 (T 16) (T 17)⟩, ⟨(some 19), none, .loadN 2 (T 18)⟩, ⟨(some 20), none, .mov (T 1)⟩, ⟨(some 21), none, .call (.func 66) [(T 19), (T 20)]⟩, ⟨(some 22), none, .int2 .geq (T 15) (T 21)⟩]) (.cond (T 22) (.ops [⟨(some 23), none, .mov (T 7)⟩, ⟨(some 24), none, .int2 .add (T 23) (.const (.int .i64 (1)))⟩, ⟨(some 7), none, .mov (T 24)⟩]) .skip))) (.ops [⟨(some 13), none, .mov (T 8)⟩, ⟨(some 14), none, .int2 .add (T 13) (.const (.int .i64 (1)))⟩, ⟨(some 8), none, .mov (T 14)⟩])))))) (.seq (.seq (.ops [⟨(some 25), none, .mov (T 7)⟩, ⟨(some 26), none, .mov (T 0)⟩, ⟨(some 27), none, .len (T 26)⟩, ⟨(some 28), none, .int2 .eql (T 25) (T 27)⟩]) (.cond (T 28) (.seq (.ops [⟨(some 6), none, .mov (.const (.int .i64 (1)))⟩]) .ret) .skip)) (.seq (.seq (.ops [⟨(some 29), none, .mov (T 7)⟩, ⟨(some 30), none, .int2 .eql (T 29) (.const (.int .i64 (0)))⟩]) (.cond (T 30) (.seq (.ops [⟨(some 6), none, .mov (.const (.int .i64 (2)))⟩]) .ret) .skip)) (.seq (.ops [⟨(some 6), none, .mov (.const (.int .i64 (3)))⟩]) .ret))))))
theorem fok40 : FnOk Try.prog 40 31 s40 [.tmp 6] := ⟨Try.f40, _, Try.func40, rfl, Try.ntmps40, by kernel_rfl, by kernel_rfl⟩
set_option maxHeartbeats 1000000 in
theorem doneRef_c (hn : 320 ≤ n) (hr : h.next + 50 < far) {v : Value} {S : MB} (hG : Good S) (hT : truthsS S ≠ []) (hc : CoursesL h v S (refTruths S)) {w : Nat} (hw : w < S.nv) (hh : Int) :
    call n (.func (.func 40) #[] #[]) [v, .int .i64 (w : Int), .int .i64 hh] h = some (.int .i64 (verdV S w hh), h) := by
  obtain ⟨n, rfl⟩ : ∃ p, n = p + 1 := ⟨n - 1, by omega⟩
  refine call_plain0 fok40 rfl rfl (by simp) rfl ?_
  have hc := hc.mono (g := h.shutAll) fun _ _ _ _ _ h => h
  have hr : h.shutAll.next + 50 < far := hr
  generalize h.shutAll = h at hc hr
  obtain ⟨R, hR, hR2⟩ := hc
  have hL0 : refTruths S ≠ [] := fun q => hT ((ref_nil hG).1 q)
  have hlen := ref_len hG
  have hU : ∀ t, t ∈ refTruths S → InU S t := fun t ht => (truths_mem.1 ((refTruths_mem hG).1 ht)).1.1
  have v1 : bHi S w ≤ hh ↔ cntD (fun u => whenS u w) hh (refTruths S) (refTruths S).length = (refTruths S).length := by
    rw [cntD_all, ← bHi_ref hG hT, hiN_le hL0, all_getD' (p := fun t => whenS t w ≤ hh)]
  have v2 : hh < bLo S w ↔ cntD (fun u => whenS u w) hh (refTruths S) (refTruths S).length = 0 := by
    rw [cntD_none, ← bLo_ref hG hT]
    have : hh < loN (fun u => whenS u w) (refTruths S) ↔ hh + 1 ≤ loN (fun u => whenS u w) (refTruths S) := by omega
    rw [this, le_loN hL0, all_getD' (p := fun t => hh + 1 ≤ whenS t w)]
  generalize hLe : refTruths S = L at hR hR2 hL0 hlen hU v1 v2
  simp only [rn0, rn1, rn2, rn3, rn4, rn5, rn6, rn7, rn8, if_true, if_false, Nat.le_refl, true_and, and_true, decide_true, decide_false, Bool.not_true, Bool.not_false, reduceIte, Nat.reduceEqDiff, Nat.reduceAdd, Nat.reduceMul, Nat.reduceSub, Nat.reduceLeDiff, Nat.reduceLT, s40]
  refine W_loop L.length (fun k f g ms => g = h ∧ ms = [] ∧ f 0 = v ∧ f 1 = .int .i64 (w : Int) ∧ f 2 = .int .i64 hh ∧ f 7 = .int .i64 ((cntD (fun u => whenS u w) hh L k : Nat) : Int) ∧ f 8 = .int .i64 (k : Int)) (by simp; omega) ?_ ?_ ?_
  · simp only [rn0, rn1, rn2, rn3, rn4, rn5, rn6, rn7, rn8, if_true, if_false, Nat.le_refl, true_and, and_true, decide_true, decide_false, Bool.not_true, Bool.not_false, reduceIte, Nat.reduceEqDiff, Nat.reduceAdd, Nat.reduceMul, Nat.reduceSub, Nat.reduceLeDiff, Nat.reduceLT, Int.natCast_zero, cntD]
  · rintro k f g ms hk ⟨rfl, rfl, p0, p1, p2, p7, p8⟩
    have hk' : (k : Int) < (L.length : Int) := by omega
    have hwk : wrapF .i64 ((k : Int) + 1) = ((k + 1 : Nat) : Int) := by rw [wrap_in (by omega) (by omega)]; rfl
    have hmem : (L.getD k fun _ => 0) ∈ L := by rw [List.getD_eq_getElem?_getD, List.getElem?_eq_getElem hk]; exact List.getElem_mem hk
    have ew := when_u (n := n) (h := g) (by omega) (by omega) hG (hU _ hmem) (hR2 k hk) hw
    have hcb := cntD_le (val := fun u => whenS u w) (c := hh) (L := L) k
    have hwc : wrapF .i64 (((cntD (fun u => whenS u w) hh L k : Nat) : Int) + 1) = ((cntD (fun u => whenS u w) hh L k + 1 : Nat) : Int) := by rw [wrap_in (by omega) (by omega)]; rfl
    by_cases c : whenS (L.getD k fun _ => 0) w ≤ hh
    · have hs : cntD (fun u => whenS u w) hh L (k + 1) = cntD (fun u => whenS u w) hh L k + 1 := by simp only [cntD]; rw [if_pos c]
      rw [hs]
      simp only [rn0, rn1, rn2, rn3, rn4, rn5, rn6, rn7, rn8, if_true, if_false, Nat.le_refl, true_and, and_true, decide_true, decide_false, Bool.not_true, Bool.not_false, reduceIte, Nat.reduceEqDiff, Nat.reduceAdd, Nat.reduceMul, Nat.reduceSub, Nat.reduceLeDiff, Nat.reduceLT, p0, p1, p2, p7, p8, Cells.len hR, hk', Cells.idx hR hk, cou_ld hR hk, ew, ge_iff_le, c, hwc, hwk]
    · have hs : cntD (fun u => whenS u w) hh L (k + 1) = cntD (fun u => whenS u w) hh L k := by simp only [cntD]; rw [if_neg c]; rfl
      rw [hs]
      simp only [rn0, rn1, rn2, rn3, rn4, rn5, rn6, rn7, rn8, if_true, if_false, Nat.le_refl, true_and, and_true, decide_true, decide_false, Bool.not_true, Bool.not_false, reduceIte, Nat.reduceEqDiff, Nat.reduceAdd, Nat.reduceMul, Nat.reduceSub, Nat.reduceLeDiff, Nat.reduceLT, p0, p1, p2, p7, p8, Cells.len hR, hk', Cells.idx hR hk, cou_ld hR hk, ew, ge_iff_le, c, hwk]
  · rintro f g ms ⟨rfl, rfl, p0, p1, p2, p7, p8⟩
    have hpos : 0 < L.length := List.length_pos_iff.2 hL0
    generalize cntD (fun u => whenS u w) hh L L.length = N at p7 v1 v2
    unfold verdV
    by_cases c1 : N = L.length
    · have c1' : (N : Int) = (L.length : Int) := by omega
      rw [if_pos (v1.2 c1)]
      simp only [rn0, rn1, rn2, rn3, rn4, rn5, rn6, rn7, rn8, if_true, if_false, Nat.le_refl, true_and, and_true, decide_true, decide_false, Bool.not_true, Bool.not_false, reduceIte, Nat.reduceEqDiff, Nat.reduceAdd, Nat.reduceMul, Nat.reduceSub, Nat.reduceLeDiff, Nat.reduceLT, p0, p1, p2, p7, p8, Cells.len hR, Int.lt_irrefl, c1']
    · have c1' : ¬ (N : Int) = (L.length : Int) := by omega
      rw [if_neg (fun q => c1 (v1.1 q))]
      by_cases c2 : N = 0
      · have c2' : (N : Int) = 0 := by omega
        have c3' : ¬ (0 : Int) = (L.length : Int) := by omega
        rw [if_pos (v2.2 c2)]
        simp only [rn0, rn1, rn2, rn3, rn4, rn5, rn6, rn7, rn8, if_true, if_false, Nat.le_refl, true_and, and_true, decide_true, decide_false, Bool.not_true, Bool.not_false, reduceIte, Nat.reduceEqDiff, Nat.reduceAdd, Nat.reduceMul, Nat.reduceSub, Nat.reduceLeDiff, Nat.reduceLT, p0, p1, p2, p7, p8, Cells.len hR, Int.lt_irrefl, c2', c3']
      · have c2' : ¬ (N : Int) = 0 := by omega
        rw [if_neg (fun q => c2 (v2.1 q))]
        simp only [rn0, rn1, rn2, rn3, rn4, rn5, rn6, rn7, rn8, if_true, if_false, Nat.le_refl, true_and, and_true, decide_true, decide_false, Bool.not_true, Bool.not_false, reduceIte, Nat.reduceEqDiff, Nat.reduceAdd, Nat.reduceMul, Nat.reduceSub, Nat.reduceLeDiff, Nat.reduceLT, p0, p1, p2, p7, p8, Cells.len hR, Int.lt_irrefl, c1', c2']
end Go.Vm.Bt

namespace Go.Vm.Bt
open Go.Proofs Go.Vm.Vat Go.Vm.L2
set_option linter.unusedSimpArgs false
set_option linter.unusedVariables false
set_option maxRecDepth 10000
variable {n : Nat} {h : AHeap}
def MomOk (S : MB) (a b : Int) : Prop := (0 ≤ a ∧ a ≤ (S.nv : Int) - 1) ∧ 0 ≤ b ∧ b ≤ S.last
instance (S : MB) (a b : Int) : Decidable (MomOk S a b) := inferInstanceAs (Decidable (_ ∧ _))
theorem vmK_all {S : MB} {a b : Int} (ho : MomOk S a b) : vmK S S.nv 0 (a, b) = verdV S a.toNat b := by
  unfold vmK
  obtain ⟨⟨h1, h2⟩, h3, h4⟩ := ho
  rw [if_pos ⟨h1, h3, .inl ⟨by simp only; omega, h4⟩⟩]
def s37 : SCode := (.seq (.ops [⟨(some 3), none, .box (T 0)⟩, ⟨(some 4), none, .box (T 1)⟩, ⟨(some 5), none, .box (T 2)⟩, ⟨(some 6), none, .mov (.const (.int .i64 (0)))⟩, ⟨(some 7), none, .mov (.const (.int .i64 (0)))⟩]) (.seq (.ops [⟨(some 11), none, .loadN 5 (T 3)⟩, ⟨(some 12), none, .mkfunc 88 [] [(T 4), (T 5)]⟩, ⟨(some 13), none, .bslice 1 1 [.nilFunc] [0] [(T 12)]⟩, ⟨(some 14), none, .call (.func 86) [(T 11), (T 13)]⟩, ⟨(some 10), none, .mov (T 14)⟩, ⟨(some 15), none, .extract 0 (T 10)⟩, ⟨(some 16), none, .extract 1 (T 10)⟩, ⟨(some 8), none, .alloc [(.int .i64 (0)), (.int .i64 (0)), (.slice none 0 0), (.int .i64 (0)), (.slice none 0 0), (.slice none 0 0)]⟩, ⟨none, none, .store 6 (T 8) (T 15)⟩, ⟨(some 9), none, .mov (T 16)⟩]) (.seq (.seq (.ops [⟨(some 17), none, .mov (T 9)⟩, ⟨(some 18), none, .int2 .neq (T 17) (.const (.int .i64 (0)))⟩]) (.cond (T 18) (.seq (.ops [⟨(some 19), none, .mov (T 9)⟩, ⟨(some 6), none, .mov (.const (.int .i64 (0)))⟩, ⟨(some 7), none, .mov (T 19)⟩]) .ret) .skip)) (.seq (.draw [⟨.rd1, ⟨(some 20), none, .loadN 6 (T 8)⟩⟩, ⟨.up, ⟨(some 21), none, .call (.func 91) [(T 20)]⟩⟩, ⟨.rd, ⟨(some 22), none, .load1 (T 4)⟩⟩, ⟨.rd, ⟨(some 23), none, .load1 (T 5)⟩⟩, ⟨.free, ⟨(some 24), none, .build #[(0, 1), (1, 1)] [(.int .i64 (0)), (.int .i64 (0))] [0, 1] [(T 22), (T 23)]⟩⟩, ⟨.qe, ⟨(some 25), none, .lookup 139 (.int .i64 (0)) false (T 21) (T 24)⟩⟩, ⟨.free, ⟨(some 6), none, .mov (T 25)⟩⟩, ⟨.free, ⟨(some 7), none, .mov (.const (.int .i64 (0)))⟩⟩]) .ret))))
theorem fok37 : FnOk Try.prog 37 26 s37 [.tmp 6, .tmp 7] := ⟨Try.f37, _, Try.func37, rfl, Try.ntmps37, by kernel_rfl, by kernel_rfl⟩
set_option maxHeartbeats 1000000 in
theorem doneV_c (hn : 1000 ≤ n) (hr : h.next + 60000 < far) {vv sv : Value} {S : MB} (hy : BeatR h vv sv S) (hTh : ThinS S) (a b : Int) :
    call n (.func (.func 37) #[] #[]) [.agg ⟨beL S vv sv⟩, .int .i64 a, .int .i64 b] h = some (.tuple ⟨[.int .i64 (if errF S (decide (MomOk S a b)) = 0 then verdV S a.toNat b else 0), .int .i64 (errF S (decide (MomOk S a b)))]⟩, h) := by
  obtain ⟨n, rfl⟩ : ∃ p, n = p + 1 := ⟨n - 1, by omega⟩
  refine call_plain0 fok37 rfl rfl (by simp) rfl ?_
  have hy := hy.shut
  have hr : h.shutAll.next + 60000 < far := hr
  have hfl : h.shutAll.floor ≤ h.shutAll.next := Nat.le_refl _
  generalize h.shutAll = h at hy hr hfl
  simp only [s37, W_seq, W_ops]
  refine ops_box (cs := beL S vv sv) (by omega) rfl hy.one fun g1 hx1 => ?_
  have n1 := hx1.next
  have f1 := hx1.floor
  refine ops_box (cs := [.int .i64 a]) (by omega) rfl rfl fun g2 hx2 => ?_
  have n2 := hx2.next
  have f2 := hx2.floor
  refine ops_box (cs := [.int .i64 b]) (by omega) rfl rfl fun g3 hx3 => ?_
  have n3 := hx3.next
  have f3 := hx3.floor
  have sub3 : Sub All h g3 := hx1.sub.trans (hx2.sub.trans hx3.sub)
  have w3 := ((hx1.row.mono hx2.sub).mono hx3.sub).whole (n := 5) rfl
  simp only [rn0, rn1, rn2, rn3, rn4, rn5, rn6, rn7, rn8, if_true, if_false, Nat.le_refl, true_and, and_true, decide_true, decide_false, Bool.not_true, Bool.not_false, reduceIte, Nat.reduceEqDiff, Nat.reduceAdd, Nat.reduceMul, Nat.reduceSub, Nat.reduceLeDiff, Nat.reduceLT, w3, sl_fn (show oneCell (.func (.func 88) ⟨[]⟩ ⟨[.pointer (some ⟨g1.next, 0, none⟩), .pointer (some ⟨g2.next, 0, none⟩)]⟩) = true from rfl)]
  refine step_slice (by omega) rfl fun g4 hx4 => ?_
  have n4 := hx4.next
  have f4 := hx4.floor
  have sub4 := sub3.trans hx4.sub
  have hcs : Cells g4 (.slice (some ⟨g3.next, 0, none⟩) 1 1) 1 1 (fun _ _ => .func (.func 88) ⟨[]⟩ ⟨[.pointer (some ⟨g1.next, 0, none⟩), .pointer (some ⟨g2.next, 0, none⟩)]⟩) := ⟨_, _, rfl, fun x e => by cases e; rfl, .inr ⟨_, 0, _, _, _, rfl, hx4.get, fun i j hi hj => by
    obtain rfl : i = 0 := by omega
    obtain rfl : j = 0 := by omega
    rfl⟩⟩
  have hra : Row g4 g1.next [.int .i64 a] := (hx2.row.mono hx3.sub).mono hx4.sub
  have hrb : Row g4 g2.next [.int .i64 b] := hx3.row.mono hx4.sub
  have hy4 := hy.mono sub4
  obtain ⟨v, g5, eo, old5, u5, m5, f5, ho⟩ := open_c (n := n) (h := g4) (by omega) (by omega) (by omega) hy4 hTh (P := MomOk S a b) (cv := .slice (some ⟨g3.next, 0, none⟩) 1 1) fun hG =>
    ⟨1, _, fun _ => MomOk S a b, by omega, hcs, ⟨fun e _ _ => e, fun e => e 0 (by omega)⟩, fun i hi => ⟨decide (MomOk S a b), decide_eq_true_iff, fun n' hn' g hs hg => done1_c (by omega) (by omega) (hy4.mono hs) (hra.mono hs) (hrb.mono hs)⟩⟩
  rcases ho with ⟨hf, rfl⟩ | ⟨hf, hp, rfl⟩ | ⟨hf, hp, ht, rfl⟩ | ⟨hf, hp, ht, tv, rfl, hone, hd, hfr, hlong⟩
  · have he : errF S (decide (MomOk S a b)) = faultS S := by unfold errF; rw [if_pos hf]
    rw [he, if_neg hf]
    simp only [rn0, rn1, rn2, rn3, rn4, rn5, rn6, rn7, rn8, if_true, if_false, Nat.le_refl, true_and, and_true, decide_true, decide_false, Bool.not_true, Bool.not_false, reduceIte, Nat.reduceEqDiff, Nat.reduceAdd, Nat.reduceMul, Nat.reduceSub, Nat.reduceLeDiff, Nat.reduceLT, eo, ex0, ex1]
    refine step_new (vs := wkZ) (by omega) (by omega) rfl (by simp only [rn0, rn1, rn2, rn3, rn4, rn5, rn6, rn7, rn8, if_true, if_false, Nat.le_refl, true_and, and_true, decide_true, decide_false, Bool.not_true, Bool.not_false, reduceIte, Nat.reduceEqDiff, Nat.reduceAdd, Nat.reduceMul, Nat.reduceSub, Nat.reduceLeDiff, Nat.reduceLT]; rfl) rfl rfl rfl fun g6 hx6 => ?_
    simp only [rn0, rn1, rn2, rn3, rn4, rn5, rn6, rn7, rn8, if_true, if_false, Nat.le_refl, true_and, and_true, decide_true, decide_false, Bool.not_true, Bool.not_false, reduceIte, Nat.reduceEqDiff, Nat.reduceAdd, Nat.reduceMul, Nat.reduceSub, Nat.reduceLeDiff, Nat.reduceLT, hf, ret_tt]
  · have he : errF S (decide (MomOk S a b)) = 2 := by unfold errF; rw [if_neg (by simpa using hf), if_pos (decide_eq_false hp)]
    rw [he, if_neg (by decide)]
    simp only [rn0, rn1, rn2, rn3, rn4, rn5, rn6, rn7, rn8, if_true, if_false, Nat.le_refl, true_and, and_true, decide_true, decide_false, Bool.not_true, Bool.not_false, reduceIte, Nat.reduceEqDiff, Nat.reduceAdd, Nat.reduceMul, Nat.reduceSub, Nat.reduceLeDiff, Nat.reduceLT, eo, ex0, ex1]
    refine step_new (vs := wkZ) (by omega) (by omega) rfl (by simp only [rn0, rn1, rn2, rn3, rn4, rn5, rn6, rn7, rn8, if_true, if_false, Nat.le_refl, true_and, and_true, decide_true, decide_false, Bool.not_true, Bool.not_false, reduceIte, Nat.reduceEqDiff, Nat.reduceAdd, Nat.reduceMul, Nat.reduceSub, Nat.reduceLeDiff, Nat.reduceLT]; rfl) rfl rfl rfl fun g6 hx6 => ?_
    simp only [rn0, rn1, rn2, rn3, rn4, rn5, rn6, rn7, rn8, if_true, if_false, Nat.le_refl, true_and, and_true, decide_true, decide_false, Bool.not_true, Bool.not_false, reduceIte, Nat.reduceEqDiff, Nat.reduceAdd, Nat.reduceMul, Nat.reduceSub, Nat.reduceLeDiff, Nat.reduceLT, Int.reduceEq, ret_tt]
  · have he : errF S (decide (MomOk S a b)) = 11 := by unfold errF; rw [if_neg (by simpa using hf), if_neg (by rw [decide_eq_true hp]; decide), if_pos ht]
    rw [he, if_neg (by decide)]
    simp only [rn0, rn1, rn2, rn3, rn4, rn5, rn6, rn7, rn8, if_true, if_false, Nat.le_refl, true_and, and_true, decide_true, decide_false, Bool.not_true, Bool.not_false, reduceIte, Nat.reduceEqDiff, Nat.reduceAdd, Nat.reduceMul, Nat.reduceSub, Nat.reduceLeDiff, Nat.reduceLT, eo, ex0, ex1]
    refine step_new (vs := wkZ) (by omega) (by omega) rfl (by simp only [rn0, rn1, rn2, rn3, rn4, rn5, rn6, rn7, rn8, if_true, if_false, Nat.le_refl, true_and, and_true, decide_true, decide_false, Bool.not_true, Bool.not_false, reduceIte, Nat.reduceEqDiff, Nat.reduceAdd, Nat.reduceMul, Nat.reduceSub, Nat.reduceLeDiff, Nat.reduceLT]; rfl) rfl rfl rfl fun g6 hx6 => ?_
    simp only [rn0, rn1, rn2, rn3, rn4, rn5, rn6, rn7, rn8, if_true, if_false, Nat.le_refl, true_and, and_true, decide_true, decide_false, Bool.not_true, Bool.not_false, reduceIte, Nat.reduceEqDiff, Nat.reduceAdd, Nat.reduceMul, Nat.reduceSub, Nat.reduceLeDiff, Nat.reduceLT, Int.reduceEq, ret_tt]
  have hG := good_of hf
  have he : errF S (decide (MomOk S a b)) = 0 := by unfold errF; rw [if_neg (by simpa using hf), if_neg (by rw [decide_eq_true hp]; decide), if_neg ht]
  rw [he, if_pos rfl]
  have sub5 : Sub All g4 g5 := AHeap.subOf old5
  have hy5 := hy4.mono sub5
  simp only [rn0, rn1, rn2, rn3, rn4, rn5, rn6, rn7, rn8, if_true, if_false, Nat.le_refl, true_and, and_true, decide_true, decide_false, Bool.not_true, Bool.not_false, reduceIte, Nat.reduceEqDiff, Nat.reduceAdd, Nat.reduceMul, Nat.reduceSub, Nat.reduceLeDiff, Nat.reduceLT, eo, ex0, ex1]
  refine step_new (vs := wkL S vv sv tv) (by omega) (by omega) rfl (by simp only [rn0, rn1, rn2, rn3, rn4, rn5, rn6, rn7, rn8, if_true, if_false, Nat.le_refl, true_and, and_true, decide_true, decide_false, Bool.not_true, Bool.not_false, reduceIte, Nat.reduceEqDiff, Nat.reduceAdd, Nat.reduceMul, Nat.reduceSub, Nat.reduceLeDiff, Nat.reduceLT]; rfl) (wk_one hy5 hone) rfl rfl fun g6 hx6 => ?_
  have n6 := hx6.next
  have f6 := hx6.floor
  have hop : OpS g6 vv sv tv S := ⟨hG, ht, hy5.mono hx6.sub, hone, Cells.mono hd hx6.sub, hlong⟩
  obtain ⟨r, g7, e7, hm7, hr7, old7, u7, m7, f7⟩ := verdicts_c (n := n) (h := g6) (by omega) (by omega) (by omega) hop
  have s67 : Sub All g6 g7 := AHeap.subOf old7
  have ra6 := (hra.mono sub5).mono hx6.sub
  have rb6 := (hrb.mono sub5).mono hx6.sub
  have el := lookupF key139 hm7.shut (a, b)
  have el : lookupA Try.prog 139 (.int .i64 0) false g7.shutAll (.map (some r)) (.agg ⟨[.int .i64 a, .int .i64 b]⟩) = some (.int .i64 (vmK S S.nv 0 (a, b)), g7.shutAll) := el
  rw [vmK_all hp] at el
  simp only [rn0, rn1, rn2, rn3, rn4, rn5, rn6, rn7, rn8, if_true, if_false, Nat.le_refl, true_and, and_true, decide_true, decide_false, Bool.not_true, Bool.not_false, reduceIte, Nat.reduceEqDiff, Nat.reduceAdd, Nat.reduceMul, Nat.reduceSub, Nat.reduceLeDiff, Nat.reduceLT]
  refine W_draw All ?_
  simp only [rn0, rn1, rn2, rn3, rn4, rn5, rn6, rn7, rn8, if_true, if_false, Nat.le_refl, true_and, and_true, decide_true, decide_false, Bool.not_true, Bool.not_false, reduceIte, Nat.reduceEqDiff, Nat.reduceAdd, Nat.reduceMul, Nat.reduceSub, Nat.reduceLeDiff, Nat.reduceLT, hx6.row.whole (n := 6) rfl, e7, u7, s67, ra6.ld, rb6.ld, Nat.zero_add, List.getElem?_cons_zero, eqV_int, build_range, d_qe, x_lookup, el, ret_tt]
end Go.Vm.Bt

namespace Go.Vm.Bt
open Go.Proofs Go.Vm.Vat Go.Vm.L2
set_option linter.unusedSimpArgs false
set_option linter.unusedVariables false
set_option maxRecDepth 10000
variable {n : Nat} {h : AHeap}
theorem boundsW_c (hn : 320 ≤ n) (hr : h.next + 50 < far) {v : Value} {S : MB} (hG : Good S) (hT : truthsS S ≠ []) (hc : CoursesL h v S (refTruths S)) {w : Nat} (hw : w < S.nv) :
    call n (.func (.func 43) #[] #[]) [v, .int .i64 (w : Int)] h = some (.agg ⟨[.int .i64 (bLo S w), .int .i64 (bHi S w)]⟩, h) := by
  have hL0 : refTruths S ≠ [] := fun q => hT ((ref_nil hG).1 q)
  have hU : ∀ t, t ∈ refTruths S → InU S t := fun t ht => (truths_mem.1 ((refTruths_mem hG).1 ht)).1.1
  have e := boundsR_c hn hr hG hc hU (Nat.le_trans (ref_len hG) (by omega)) hw
  rw [loK_all hL0 fun t ht => by have := when_bound hG (hU t ht) hw; omega, hiK_all hL0 fun t ht => by have := when_bound hG (hU t ht) hw; omega, bLo_ref hG hT, bHi_ref hG hT] at e
  exact e
theorem errF_ok {S : MB} {b : Bool} : errF S b = 0 ↔ b = true ∧ errS S = 0 := by
  unfold errF errS
  by_cases c1 : faultS S = 0
  · cases b <;> simp [c1]
  · simp [c1]
def s4 : SCode := (.seq (.ops [⟨(some 3), none, .box (T 0)⟩, ⟨(some 6), none, .mov (.const (.bool false))⟩]) (.seq (.seq (.ops [⟨(some 16), none, .loadN 5 (T 3)⟩, ⟨(some 17), none, .call (.func 23) [(T 16)]⟩, ⟨(some 18), none, .not (T 17)⟩]) (.cond (T 18) (.seq (.ops [⟨(some 19), none, .call (.func 24) []⟩, ⟨(some 6), none, .mov (T 19)⟩]) .ret) .skip)) (.seq (.ops [⟨(some 21), none, .loadN 5 (T 3)⟩, ⟨(some 22), none, .call (.func 26) [(T 21)]⟩, ⟨(some 23), none, .call (.func 36) [(T 22)]⟩, ⟨(some 20), none, .mov (T 23)⟩, ⟨(some 24), none, .extract 0 (T 20)⟩, ⟨(some 25), none, .extract 1 (T 20)⟩, ⟨(some 7), none, .mov (T 24)⟩, ⟨(some 8), none, .mov (T 25)⟩]) (.seq (.ops [⟨(some 27), none, .loadN 5 (T 3)⟩, ⟨(some 28), none, .call (.func 26) [(T 27)]⟩, ⟨(some 29), none, .mov (T 1)⟩, ⟨(some 30), none, .mov (T 2)⟩, ⟨(some 31), none, .call (.func 37) [(T 28), (T 29), (T 30)]⟩, ⟨(some 26), none, .mov (T 31)⟩, ⟨(some 32), none, .extract 0 (T 26)⟩, ⟨(some 33), none, .extract 1 (T 26)⟩, ⟨(some 9), none, .mov (T 32)⟩, ⟨(some 10), none, .mov (T 33)⟩]) (.seq (.seq (.draw [⟨.rd, ⟨(some 35), none, .loadN 5 (T 3)⟩⟩, ⟨.free, ⟨(some 36), none, .mov (T 1)⟩⟩, ⟨.free, ⟨(some 37), none, .fieldAddr 2 (T 3)⟩⟩, ⟨.rd1, ⟨(some 38), none, .load1 (T 37)⟩⟩, ⟨.free, ⟨(some 39), none, .len (T 38)⟩⟩, ⟨.free, ⟨(some 40), none, .int2 .sub (T 39) (.const (.int .i64 (1)))⟩⟩, ⟨.up, ⟨(some 41), none, .call (.func 39) [(T 36), (.const (.int .i64 (0))), (T 40)]⟩⟩, ⟨.free, ⟨(some 42), none, .mov (T 41)⟩⟩, ⟨.free, ⟨(some 43), (some (42, true)), .mov (T 2)⟩⟩, ⟨.free, ⟨(some 44), (some (42, true)), .fieldAddr 3 (T 3)⟩⟩, ⟨.rd1, ⟨(some 45), (some (42, true)), .load1 (T 44)⟩⟩, ⟨.up, ⟨(some 46), (some (42, true)), .call (.func 39) [(T 43), (.const (.int .i64 (0))), (T 45)]⟩⟩, ⟨.free, ⟨(some 47), none, .pick (T 42) (T 46) (.const (.bool false))⟩⟩, ⟨.any, ⟨(some 48), none, .call (.func 38) [(T 35), (T 47)]⟩⟩, ⟨.free, ⟨(some 34), none, .mov (T 48)⟩⟩, ⟨.free, ⟨(some 49), none, .extract 0 (T 34)⟩⟩, ⟨.free, ⟨(some 50), none, .extract 1 (T 34)⟩⟩, ⟨.free, ⟨(some 11), none, .mov (T 49)⟩⟩, ⟨.free, ⟨(some 12), none, .mov (T 50)⟩⟩]) (.seq (.ops [⟨(some 51), none, .mov (T 12)⟩, ⟨(some 52), none, .int2 .neq (T 51) (.const (.int .i64 (0)))⟩]) (.cond (T 52) (.seq (.ops [⟨(some 53), none, .mov (T 10)⟩, ⟨(some 54), none, .mov (T 12)⟩, ⟨(some 55), none, .int2 .neq (T 53) (T 54)⟩, ⟨(some 56), none, .mov (T 55)⟩, ⟨(some 57), (some (56, false)), .mov (T 9)⟩, ⟨(some 58), (some (56, false)), .int2 .neq (T 57) (.const (.int .i64 (0)))⟩, ⟨(some 59), none, .pick (T 56) (.const (.bool true)) (T 58)⟩]) (.cond (T 59) (.seq (.ops [⟨(some 6), none, .mov (.const (.bool false))⟩]) .ret) .skip)) (.seq (.ops [⟨(some 60), none, .mov (T 10)⟩, ⟨(some 61), none, .int2 .neq (T 60) (.const (.int .i64 (0)))⟩, ⟨(some 62), none, .mov (T 61)⟩, ⟨(some 63), (some (62, false)), .mov (T 9)⟩, ⟨(some 64), (some (62, false)), .mov (T 11)⟩, ⟨(some 65), (some (62, false)), .mov (T 1)⟩, ⟨(some 66), (some (62, false)), .mov (T 2)⟩, ⟨(some 67), (some (62, false)), .call (.func 40) [(T 64), (T 65), (T 66)]⟩, ⟨(some 68), (some (62, false)), .int2 .neq (T 63) (T 67)⟩, ⟨(some 69), none, .pick (T 62) (.const (.bool true)) (T 68)⟩]) (.cond (T 69) (.seq (.ops [⟨(some 6), none, .mov (.const (.bool false))⟩]) .ret) .skip))))) (.seq (.ops [⟨(some 71), none, .loadN 5 (T 3)⟩, ⟨(some 72), none, .call (.func 41) [(T 71)]⟩, ⟨(some 70), none, .mov (T 72)⟩, ⟨(some 73), none, .extract 0 (T 70)⟩, ⟨(some 74), none, .extract 1 (T 70)⟩, ⟨(some 13), none, .mov (T 73)⟩, ⟨(some 14), none, .mov (T 74)⟩]) (.seq (.seq (.ops [⟨(some 75), none, .mov (T 14)⟩, ⟨(some 76), none, .int2 .neq (T 75) (.const (.int .i64 (0)))⟩]) (.cond (T 76) (.seq (.ops [⟨(some 77), none, .mov (T 8)⟩, ⟨(some 78), none, .mov (T 14)⟩, ⟨(some 79), none, .int2 .eql (T 77) (T 78)⟩, ⟨(some 80), none, .mov (T 79)⟩, ⟨(some 81), (some (80, true)), .mov (T 7)⟩, ⟨(some 82), (some (80, true)), .len (T 81)⟩, ⟨(some 83), (some (80, true)), .int2 .eql (T 82) (.const (.int .i64 (0)))⟩, ⟨(some 84), none, .pick (T 80) (T 83) (.const (.bool false))⟩, ⟨(some 85), none, .mov (T 84)⟩, ⟨(some 86), (some (85, true)), .call (.func 24) []⟩, ⟨(some 87), none, .pick (T 85) (T 86) (.const (.bool false))⟩, ⟨(some 6), none, .mov (T 87)⟩]) .ret) .skip)) (.seq (.seq (.ops [⟨(some 88), none, .mov (T 8)⟩, ⟨(some 89), none, .int2 .neq (T 88) (.const (.int .i64 (0)))⟩, ⟨(some 90), none, .mov (T 89)⟩, ⟨(some 91), (some (90, false)), .mov (T 7)⟩, ⟨(some 92), (some (90, false)), .len (T 91)⟩, ⟨(some 93), (some (90, false)), .fieldAddr 2 (T 3)⟩, ⟨(some 94), (some (90, false)), .load1 (T 93)⟩, ⟨(some 95), (some (90, false)), .len (T 94)⟩, ⟨(some 96), (some (90, false)), .int2 .neq (T 92) (T 95)⟩, ⟨(some 97), none, .pick (T 90) (.const (.bool true)) (T 96)⟩]) (.cond (T 97) (.seq (.ops [⟨(some 6), none, .mov (.const (.bool false))⟩]) .ret) .skip)) (.seq (.seq (.ops [⟨(some 15), none, .mov (.const (.int .i64 (0)))⟩]) (.block 0 (.loop (.seq (.seq (.ops [⟨(some 98), none, .mov (T 15)⟩, ⟨(some 99), none, .mov (T 7)⟩, ⟨(some 100), none, .len (T 99)⟩, ⟨(some 101), none, .int2 .lss (T 98) (T 100)⟩]) (.cond (T 101) .skip (.exit 0))) (.seq (.block 1 (.seq (.draw [⟨.free, ⟨(some 104), none, .mov (T 7)⟩⟩, ⟨.free, ⟨(some 105), none, .mov (T 15)⟩⟩, ⟨.free, ⟨(some 106), none, .idxSl 2 (T 104) (T 105)⟩⟩, ⟨.rd, ⟨(some 107), none, .loadN 2 (T 106)⟩⟩, ⟨.free, ⟨(some 108), none, .mov (T 13)⟩⟩, ⟨.free, ⟨(some 109), none, .mov (T 15)⟩⟩, ⟨.up, ⟨(some 110), none, .call (.func 43) [(T 108), (T 109)]⟩⟩, ⟨.up, ⟨(some 111), none, .call (.func 42) [(T 110)]⟩⟩, ⟨.free, ⟨(some 112), none, .bin .neq (.binOp .neq 36 (T 107) (T 111) 36) 4 (T 107) (T 111)⟩⟩]) (.cond (T 112) (.seq (.ops [⟨(some 6), none, .mov (.const (.bool false))⟩]) .ret) .skip))) (.ops [⟨(some 102), none, .mov (T 15)⟩, ⟨(some 103), none, .int2 .add (T 102) (.const (.int .i64 (1)))⟩, ⟨(some 15), none, .mov (T 103)⟩])))))) (.seq (.ops [⟨(some 113), none, .call (.func 24) []⟩, ⟨(some 6), none, .mov (T 113)⟩]) .ret))))))))))
theorem fok4 : FnOk Try.prog 4 114 s4 [.tmp 6] := ⟨Try.f4, _, Try.func4, rfl, Try.ntmps4, by kernel_rfl, by kernel_rfl⟩
set_option maxHeartbeats 2000000 in
theorem boundsL_c (hn : 1500 ≤ n) (hr : h.next + 400000 < far) (hfl : h.floor ≤ h.next) {vv sv : Value} {S : MB} (hy : BeatR h vv sv S) (a b : Int) :
    ∃ v h', call n (.func (.func 4) #[] #[]) [.agg ⟨beL S vv sv⟩, .int .i64 a, .int .i64 b] h = some (v, h') ∧ v = .bool true := by
  obtain ⟨n, rfl⟩ : ∃ p, n = p + 1 := ⟨n - 1, by omega⟩
  refine call_any0 fok4 rfl rfl (by simp) ?_
  simp only [s4, W_seq, W_ops]
  refine ops_box (cs := beL S vv sv) (by omega) rfl hy.one fun g1 hx1 => ?_
  have n1 := hx1.next
  have f1 := hx1.floor
  have hy1 := hy.mono hx1.sub
  have r1 := hx1.row
  have et := thin_c (n := n) (h := g1) (by omega) (by omega) hy1
  have haw := awake_c (n := n) (h := g1) (by omega)
  by_cases hT : ThinS S
  case neg => simp only [rn0, rn1, rn2, rn3, rn4, rn5, rn6, rn7, rn8, if_true, if_false, Nat.le_refl, true_and, and_true, decide_true, decide_false, Bool.not_true, Bool.not_false, reduceIte, Nat.reduceEqDiff, Nat.reduceAdd, Nat.reduceMul, Nat.reduceSub, Nat.reduceLeDiff, Nat.reduceLT, r1.whole (n := 5) rfl, et, hT, g_un, haw]
  have h30 : S.nv ≤ 30 := hT.1
  obtain ⟨va, sa, g2, e2, hy2, old2, u2, m2, f2⟩ := beatL_c (n := n) (h := g1) (by omega) (by omega) (by omega) hy1 hT
  obtain ⟨r3, g3, e3, b3, o3, old3, u3, m3, f3⟩ := boundsV_c (n := n) (h := g2) (by omega) (by omega) (by omega) hy2 hT
  have s13 : Sub All g1 g3 := (AHeap.subOf old2).trans (AHeap.subOf old3)
  obtain ⟨vb, sb, g4, e4, hy4, old4, u4, m4, f4⟩ := beatL_c (n := n) (h := g3) (by omega) (by omega) (by omega) (hy1.mono s13) hT
  have s14 : Sub All g1 g4 := s13.trans (AHeap.subOf old4)
  have e5 := doneV_c (n := n) (h := g4) (by omega) (by omega) hy4 hT a b
  have hy4' := hy1.mono s14
  have r4 := r1.mono s14
  have hwn : wrapF .i64 ((S.nv : Int) - 1) = (S.nv : Int) - 1 := wrap_in (by omega) (by omega)
  have hi1 := in_c (n := n) (h := g4) (by omega) a 0 ((S.nv : Int) - 1)
  have hi2 := in_c (n := n) (h := g4) (by omega) b 0 S.last
  obtain ⟨l6, g6, e6, hc6, old6, u6, m6, f6⟩ := asked_c (n := n) (h := g4) (by omega) (by omega) (by omega) hy4' hT (decide (MomOk S a b))
  have s46 : Sub All g4 g6 := AHeap.subOf old6
  have s16 := s14.trans s46
  have hy6 := hy1.mono s16
  have r6 := r1.mono s16
  obtain ⟨l7, g7, e7, hc7, old7, u7, m7, f7⟩ := sure_c (n := n) (h := g6) (by omega) (by omega) (by omega) hy6 hT
  have s17 := s16.trans (AHeap.subOf old7)
  have s37 : Sub All g3 g7 := (AHeap.subOf old4).trans (s46.trans (AHeap.subOf old7))
  have hy7 := hy1.mono s17
  have r7 := r1.mono s17
  have b7 : Ranges g7 r3 (cntS S) (bLo S) (bHi S) := Cells.mono b3 s37
  have haw7 := awake_c (n := n) (h := g7) (by omega)
  have hmom : decide (MomOk S a b) = (decide (0 ≤ a ∧ a ≤ (S.nv : Int) - 1) && decide (0 ≤ b ∧ b ≤ S.last)) := by
    rw [Bool.eq_iff_iff, Bool.and_eq_true, decide_eq_true_iff, decide_eq_true_iff, decide_eq_true_iff]
    exact Iff.rfl
  simp only [rn0, rn1, rn2, rn3, rn4, rn5, rn6, rn7, rn8, if_true, if_false, Nat.le_refl, true_and, and_true, decide_true, decide_false, Bool.not_true, Bool.not_false, reduceIte, Nat.reduceEqDiff, Nat.reduceAdd, Nat.reduceMul, Nat.reduceSub, Nat.reduceLeDiff, Nat.reduceLT, r1.whole (n := 5) rfl, et, hT, g_un, e2, e3, ex0, ex1, (r1.mono s13).whole (n := 5) rfl, e4, e5]
  refine W_draw All ?_
  -- the region gives what is asked
  have hreg : ∀ x : Bool, x = decide (MomOk S a b) → call n (.func (.func 38) #[] #[]) [.agg ⟨beL S vv sv⟩, .bool x] g4 = some (.tuple ⟨[l6, .int .i64 (errF S (decide (MomOk S a b)))]⟩, g6) := fun x hx => by rw [hx]; exact e6
  have key : ∀ Q : Prop, Q → Q := fun _ q => q
  obtain ⟨E, hE⟩ : ∃ E, E = errF S (decide (MomOk S a b)) := ⟨_, rfl⟩
  have hEz : E = 0 ↔ MomOk S a b ∧ errS S = 0 := by rw [hE, errF_ok, decide_eq_true_iff]
  simp only [← hE] at e6 hc6 hreg ⊢
  by_cases c1 : 0 ≤ a ∧ a ≤ (S.nv : Int) - 1
  all_goals by_cases c2 : 0 ≤ b ∧ b ≤ S.last
  all_goals
    first
    | rw [decide_eq_true c1] at hi1 hmom
    | rw [decide_eq_false c1] at hi1 hmom
  all_goals
    first
    | rw [decide_eq_true c2] at hi2 hmom
    | rw [decide_eq_false c2] at hi2 hmom
  all_goals
    simp only [Bool.and_true, Bool.and_false, Bool.true_and, Bool.false_and] at hmom
    rw [hmom] at e6
    simp only [rn0, rn1, rn2, rn3, rn4, rn5, rn6, rn7, rn8, if_true, if_false, Nat.le_refl, true_and, and_true, decide_true, decide_false, Bool.not_true, Bool.not_false, reduceIte, Nat.reduceEqDiff, Nat.reduceAdd, Nat.reduceMul, Nat.reduceSub, Nat.reduceLeDiff, Nat.reduceLT, r4.whole (n := 5) rfl, hy4'.self, r4.ld, beg, Nat.zero_add, Cells.len hy4'.v, hwn, hi1, d_guard, dg_tt, dg_tf, dg_ft, dg_ff, dg_un, hi2, e6, ex0, ex1]
    refine ⟨u6, ?_⟩
  all_goals
    by_cases he : errS S = 0
    · obtain ⟨hG, hTT⟩ := errS_zero.1 he
      have hcn : cntS S = S.nv := by unfold cntS; rw [if_pos he]
      rw [hcn] at b7
      rw [he] at hc7 e7
      have hc7' : CoursesL g7 l7 S (refTruths S) := by unfold someS at hc7; rw [if_pos rfl] at hc7; exact hc7
      obtain ⟨z0, z1, z3, _⟩ := hG.sizes
      have loop : ∀ {Q : WPost} {f : Go.Vm.Fr}, True → True := fun _ => trivial
      by_cases hE0 : E = 0
      · have hmo := (hEz.1 hE0).1
        rw [hE0] at hc6
        have hc6' : CoursesL g6 l6 S (refTruths S) := by unfold someS at hc6; rw [if_pos rfl] at hc6; exact hc6
        have hdr := doneRef_c (n := n) (h := g6) (by omega) (by omega) hG hTT hc6' (w := a.toNat) (by obtain ⟨⟨q1, q2⟩, _⟩ := hmo; omega) b
        have hat : ((a.toNat : Nat) : Int) = a := by obtain ⟨⟨q1, q2⟩, _⟩ := hmo; omega
        rw [hat] at hdr
        simp only [rn0, rn1, rn2, rn3, rn4, rn5, rn6, rn7, rn8, if_true, if_false, Nat.le_refl, true_and, and_true, decide_true, decide_false, Bool.not_true, Bool.not_false, reduceIte, Nat.reduceEqDiff, Nat.reduceAdd, Nat.reduceMul, Nat.reduceSub, Nat.reduceLeDiff, Nat.reduceLT, he, hE0, hdr, r6.whole (n := 5) rfl, e7, ex0, ex1, g_un, Cells.len b7, r7.ld, beg, Nat.zero_add, Cells.len hy7.v]
        refine W_loop S.nv (fun i f g ms => g = g7 ∧ ms = [] ∧ f 7 = r3 ∧ f 13 = l7 ∧ f 15 = .int .i64 (i : Int)) (by simp; omega) ?_ ?_ ?_
        · simp only [rn0, rn1, rn2, rn3, rn4, rn5, rn6, rn7, rn8, if_true, if_false, Nat.le_refl, true_and, and_true, decide_true, decide_false, Bool.not_true, Bool.not_false, reduceIte, Nat.reduceEqDiff, Nat.reduceAdd, Nat.reduceMul, Nat.reduceSub, Nat.reduceLeDiff, Nat.reduceLT, Int.natCast_zero]
        · rintro i f g ms hi ⟨rfl, rfl, p7, p13, p15⟩
          have hi' : (i : Int) < (S.nv : Int) := by omega
          have hwi : wrapF .i64 ((i : Int) + 1) = ((i + 1 : Nat) : Int) := by rw [wrap_in (by omega) (by omega)]; rfl
          have eb := boundsW_c (n := n) (h := g) (by omega) (by omega) hG hTT hc7' hi
          have eT := to_c (n := n) (h := g) (by omega) (by omega) (bLo S i) (bHi S i)
          have hq := fun (f : Go.Vm.Fr) (e1 : f 107 = .agg ⟨[.int .i64 (bLo S i), .int .i64 (bHi S i)]⟩) (e2 : f 111 = .agg ⟨[.int .i64 (bLo S i), .int .i64 (bHi S i)]⟩) => neq36 (h := g) (N := 114) (f := f) (x := T 107) (y := T 111) (ty := 4) (u := 36) (by rw [valN_tmp (by omega)]; exact e1) (by rw [valN_tmp (by omega)]; exact e2)
          have hd : (!decide (bLo S i = bLo S i ∧ bHi S i = bHi S i)) = false := by simp
          simp only [rn0, rn1, rn2, rn3, rn4, rn5, rn6, rn7, rn8, if_true, if_false, Nat.le_refl, true_and, and_true, decide_true, decide_false, Bool.not_true, Bool.not_false, reduceIte, Nat.reduceEqDiff, Nat.reduceAdd, Nat.reduceMul, Nat.reduceSub, Nat.reduceLeDiff, Nat.reduceLT, p7, p13, p15, Cells.len b7, hi']
          refine W_draw All ?_
          simp only [rn0, rn1, rn2, rn3, rn4, rn5, rn6, rn7, rn8, if_true, if_false, Nat.le_refl, true_and, and_true, decide_true, decide_false, Bool.not_true, Bool.not_false, reduceIte, Nat.reduceEqDiff, Nat.reduceAdd, Nat.reduceMul, Nat.reduceSub, Nat.reduceLeDiff, Nat.reduceLT, p7, p13, p15, Cells.idx b7 hi, ranges_ld b7 hi, self_two, eb, eT, x_binA, binA_neqAgg]
          rw [hq _ (by simp only [rn0, rn1, rn2, rn3, rn4, rn5, rn6, rn7, rn8, if_true, if_false, Nat.le_refl, true_and, and_true, decide_true, decide_false, Bool.not_true, Bool.not_false, reduceIte, Nat.reduceEqDiff, Nat.reduceAdd, Nat.reduceMul, Nat.reduceSub, Nat.reduceLeDiff, Nat.reduceLT]) (by simp only [rn0, rn1, rn2, rn3, rn4, rn5, rn6, rn7, rn8, if_true, if_false, Nat.le_refl, true_and, and_true, decide_true, decide_false, Bool.not_true, Bool.not_false, reduceIte, Nat.reduceEqDiff, Nat.reduceAdd, Nat.reduceMul, Nat.reduceSub, Nat.reduceLeDiff, Nat.reduceLT]), hd]
          simp only [rn0, rn1, rn2, rn3, rn4, rn5, rn6, rn7, rn8, if_true, if_false, Nat.le_refl, true_and, and_true, decide_true, decide_false, Bool.not_true, Bool.not_false, reduceIte, Nat.reduceEqDiff, Nat.reduceAdd, Nat.reduceMul, Nat.reduceSub, Nat.reduceLeDiff, Nat.reduceLT, p7, p13, p15, hwi]
        · rintro f g ms ⟨rfl, rfl, p7, p13, p15⟩
          simp only [rn0, rn1, rn2, rn3, rn4, rn5, rn6, rn7, rn8, if_true, if_false, Nat.le_refl, true_and, and_true, decide_true, decide_false, Bool.not_true, Bool.not_false, reduceIte, Nat.reduceEqDiff, Nat.reduceAdd, Nat.reduceMul, Nat.reduceSub, Nat.reduceLeDiff, Nat.reduceLT, p7, p13, p15, Cells.len b7, Int.lt_irrefl, haw7]
      · simp only [rn0, rn1, rn2, rn3, rn4, rn5, rn6, rn7, rn8, if_true, if_false, Nat.le_refl, true_and, and_true, decide_true, decide_false, Bool.not_true, Bool.not_false, reduceIte, Nat.reduceEqDiff, Nat.reduceAdd, Nat.reduceMul, Nat.reduceSub, Nat.reduceLeDiff, Nat.reduceLT, he, hE0, r6.whole (n := 5) rfl, e7, ex0, ex1, g_un, Cells.len b7, r7.ld, beg, Nat.zero_add, Cells.len hy7.v]
        refine W_loop S.nv (fun i f g ms => g = g7 ∧ ms = [] ∧ f 7 = r3 ∧ f 13 = l7 ∧ f 15 = .int .i64 (i : Int)) (by simp; omega) ?_ ?_ ?_
        · simp only [rn0, rn1, rn2, rn3, rn4, rn5, rn6, rn7, rn8, if_true, if_false, Nat.le_refl, true_and, and_true, decide_true, decide_false, Bool.not_true, Bool.not_false, reduceIte, Nat.reduceEqDiff, Nat.reduceAdd, Nat.reduceMul, Nat.reduceSub, Nat.reduceLeDiff, Nat.reduceLT, Int.natCast_zero]
        · rintro i f g ms hi ⟨rfl, rfl, p7, p13, p15⟩
          have hi' : (i : Int) < (S.nv : Int) := by omega
          have hwi : wrapF .i64 ((i : Int) + 1) = ((i + 1 : Nat) : Int) := by rw [wrap_in (by omega) (by omega)]; rfl
          have eb := boundsW_c (n := n) (h := g) (by omega) (by omega) hG hTT hc7' hi
          have eT := to_c (n := n) (h := g) (by omega) (by omega) (bLo S i) (bHi S i)
          have hq := fun (f : Go.Vm.Fr) (e1 : f 107 = .agg ⟨[.int .i64 (bLo S i), .int .i64 (bHi S i)]⟩) (e2 : f 111 = .agg ⟨[.int .i64 (bLo S i), .int .i64 (bHi S i)]⟩) => neq36 (h := g) (N := 114) (f := f) (x := T 107) (y := T 111) (ty := 4) (u := 36) (by rw [valN_tmp (by omega)]; exact e1) (by rw [valN_tmp (by omega)]; exact e2)
          have hd : (!decide (bLo S i = bLo S i ∧ bHi S i = bHi S i)) = false := by simp
          simp only [rn0, rn1, rn2, rn3, rn4, rn5, rn6, rn7, rn8, if_true, if_false, Nat.le_refl, true_and, and_true, decide_true, decide_false, Bool.not_true, Bool.not_false, reduceIte, Nat.reduceEqDiff, Nat.reduceAdd, Nat.reduceMul, Nat.reduceSub, Nat.reduceLeDiff, Nat.reduceLT, p7, p13, p15, Cells.len b7, hi']
          refine W_draw All ?_
          simp only [rn0, rn1, rn2, rn3, rn4, rn5, rn6, rn7, rn8, if_true, if_false, Nat.le_refl, true_and, and_true, decide_true, decide_false, Bool.not_true, Bool.not_false, reduceIte, Nat.reduceEqDiff, Nat.reduceAdd, Nat.reduceMul, Nat.reduceSub, Nat.reduceLeDiff, Nat.reduceLT, p7, p13, p15, Cells.idx b7 hi, ranges_ld b7 hi, self_two, eb, eT, x_binA, binA_neqAgg]
          rw [hq _ (by simp only [rn0, rn1, rn2, rn3, rn4, rn5, rn6, rn7, rn8, if_true, if_false, Nat.le_refl, true_and, and_true, decide_true, decide_false, Bool.not_true, Bool.not_false, reduceIte, Nat.reduceEqDiff, Nat.reduceAdd, Nat.reduceMul, Nat.reduceSub, Nat.reduceLeDiff, Nat.reduceLT]) (by simp only [rn0, rn1, rn2, rn3, rn4, rn5, rn6, rn7, rn8, if_true, if_false, Nat.le_refl, true_and, and_true, decide_true, decide_false, Bool.not_true, Bool.not_false, reduceIte, Nat.reduceEqDiff, Nat.reduceAdd, Nat.reduceMul, Nat.reduceSub, Nat.reduceLeDiff, Nat.reduceLT]), hd]
          simp only [rn0, rn1, rn2, rn3, rn4, rn5, rn6, rn7, rn8, if_true, if_false, Nat.le_refl, true_and, and_true, decide_true, decide_false, Bool.not_true, Bool.not_false, reduceIte, Nat.reduceEqDiff, Nat.reduceAdd, Nat.reduceMul, Nat.reduceSub, Nat.reduceLeDiff, Nat.reduceLT, p7, p13, p15, hwi]
        · rintro f g ms ⟨rfl, rfl, p7, p13, p15⟩
          simp only [rn0, rn1, rn2, rn3, rn4, rn5, rn6, rn7, rn8, if_true, if_false, Nat.le_refl, true_and, and_true, decide_true, decide_false, Bool.not_true, Bool.not_false, reduceIte, Nat.reduceEqDiff, Nat.reduceAdd, Nat.reduceMul, Nat.reduceSub, Nat.reduceLeDiff, Nat.reduceLT, p7, p13, p15, Cells.len b7, Int.lt_irrefl, haw7]
    · have hcn : cntS S = 0 := by unfold cntS; rw [if_neg he]
      rw [hcn] at b7
      have hE0 : ¬ E = 0 := fun q => he (hEz.1 q).2
      simp only [rn0, rn1, rn2, rn3, rn4, rn5, rn6, rn7, rn8, if_true, if_false, Nat.le_refl, true_and, and_true, decide_true, decide_false, Bool.not_true, Bool.not_false, reduceIte, Nat.reduceEqDiff, Nat.reduceAdd, Nat.reduceMul, Nat.reduceSub, Nat.reduceLeDiff, Nat.reduceLT, hE0, r6.whole (n := 5) rfl, e7, ex0, ex1, g_un, he, Cells.len b7, Int.natCast_zero, haw7]
end Go.Vm.Bt
