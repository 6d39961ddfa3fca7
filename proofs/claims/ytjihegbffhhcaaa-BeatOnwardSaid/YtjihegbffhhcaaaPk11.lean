/- Texts of the proofs of this seat, put together: BtC, BtBest, BtV4, VmMapU, BtVerd, BtMod, BtNth, BtTruths, BtRefT, BtDoneR, BtDoneV, BtOnwardL. -/
import Derived.Test.YtjihegbffhhcaaaPk10
import Derived.Test.YtjihegbffhhcaaaRows
import Derived.WalkKit
import Derived.ProofKit
import Derived.OpenShut

namespace Go.Vm.Bt
open Go.Vm.Vat Go.Vm.L2 Go.Proofs Go.ChangeShapes Go.WideShapes Go.ChangeAt Go.RowKit
set_option linter.unusedSimpArgs false
set_option linter.unusedVariables false
set_option maxRecDepth 10000
variable {n : Nat} {h : AHeap}
theorem own : ownKnob Try.prog.godebug = none := by kernel_rfl
theorem mixedOn : Try.prog.follows .mixedOrders = true := by kernel_rfl
theorem namesAll : (Try.prog.funcs.toList.all fun fn => !(fn.name == "runtime.NumGoroutine")) = true := by kernel_rfl
theorem namesFine : NamesFine Try.prog := by
  intro f fn hf
  have h := List.all_eq_true.1 namesAll fn (Array.mem_toList_iff.2 (Array.mem_of_getElem? hf))
  simpa using h
theorem tabOk : ∀ E ∈ BtAwake.tab, ∃ cf, SoundCF Try.prog cf ∧ entryOk cf E = true := by
  have hs := vm_sound namesFine mixedOn BtAwake.quiet 1000
  intro E hE
  refine ⟨_, hs, ?_⟩
  revert E
  simp only [BtAwake.tab, List.forall_mem_cons, List.not_mem_nil, false_implies, implies_true, and_true]
  exact ⟨BtAwake.ok0, BtAwake.ok1, BtAwake.ok2, BtAwake.ok3, BtAwake.ok4, BtAwake.ok5, BtAwake.ok6, BtAwake.ok7, BtAwake.ok8, BtAwake.ok9, BtAwake.ok10, BtAwake.ok11⟩
theorem kOk : KOk Try.prog K := by
  intro f v hK
  unfold K at hK
  split at hK
  · rename_i e
    subst e
    cases hK
    refine ⟨rfl, acallO Try.prog BtAwake.quiet BtAwake.tab 1000, ?_⟩
    have hm := BtAwake.main_ok
    cases hr : acallO Try.prog BtAwake.quiet BtAwake.tab 1000 (.func (.func 24) #[] #[]) [] AHeap.empty with
    | none => rw [hr] at hm; cases hm
    | some vh =>
      obtain ⟨v, h'⟩ := vh
      rw [hr] at hm
      unfold BtAwake.isTrue at hm
      split at hm
      · rename_i e
        cases e
        exact ⟨h', acallO_sound namesFine mixedOn BtAwake.quiet tabOk 1000, rfl⟩
      · cases hm
  · cases hK
theorem sound (n : Nat) : SoundCF Try.prog (call n) := pcall_sound namesFine mixedOn kOk n
theorem laidOk : laidOutB Try.prog = true := by kernel_rfl
theorem mapsOk : mapsRowed Try.prog = true := by kernel_rfl
theorem slicesOk : ((List.range Try.prog.types.size).all fun t => match Try.prog.underlying t with | some (.slice e) => decide (0 < Try.prog.cellsOf e) | _ => true) = true := by kernel_rfl
theorem kids : Kids Try.prog (· < Try.prog.types.size) := kids_rows laidOk mapsOk
theorem tsize : 120 < Try.prog.types.size := of_decide_eq_true (by kernel_rfl)
theorem cell_int {P : Program} {w : World} {r : Reach} {b : Nat} {t : TypeId} {k : IntKind} {v x : Value} (ht : P.underlying t = some (.int k)) (ho : Value.okWide P w r b t v) (hc : v.cells.toList = [x]) : v = x := by
  unfold Value.okWide at ho
  rw [ht] at ho
  cases v <;> simp_all [Value.cells, Cell.okWide, Cell.ok]
theorem agg_struct {P : Program} {w : World} {r : Reach} {b : Nat} {t : TypeId} {fs : Array Field} {v : Value} {cs : List Value} (ht : P.underlying t = some (.struct fs)) (ho : Value.okWide P w r b t v) (hc : v.cells.toList = cs) : v = .agg ⟨cs⟩ := by
  unfold Value.okWide at ho
  rw [ht] at ho
  obtain ⟨cs', rfl, _⟩ := ho
  subst hc
  rfl
theorem map_int {φ : Emb} {k : IntKind} {a : Int} : mapV φ (.int k a) = .int k a := by simp [mapV]
theorem stands_beat {w : World} {φ : Emb} {a b c : Int} {u1 u2 vv sv : Value} (h1 : Stands φ h u1 vv) (h2 : Stands φ h u2 sv) : mapV φ (.agg ⟨[.int .i64 a, .int .i64 b, u1, .int .i64 c, u2]⟩) = .agg ⟨[.int .i64 a, .int .i64 b, vv, .int .i64 c, sv]⟩ ∧ okV φ h.next (.agg ⟨[.int .i64 a, .int .i64 b, u1, .int .i64 c, u2]⟩) := by
  refine ⟨?_, ?_⟩
  · simp only [mapV, mapArr, mapL, h1.map, h2.map]
  · simp only [okV, okA, okL, and_true, true_and]
    exact ⟨h1.ok, h2.ok⟩
end Go.Vm.Bt

namespace Go.Vm.Bt
open Go.Proofs Go.Vm.Vat Go.Vm.L2
set_option linter.unusedSimpArgs false
set_option linter.unusedVariables false
set_option maxRecDepth 10000
variable {n : Nat} {h : AHeap}
def enL (S : MB) (c : Nat → Int) : List Value := (List.range S.nv).map fun v => .int .i64 (c v)
def chooseE (pw po pb pc : Nat) : Value := .func (.func 126) ⟨[]⟩ ⟨[.pointer (some ⟨pw, 0, none⟩), .pointer (some ⟨po, 0, none⟩), .pointer (some ⟨pb, 0, none⟩), .pointer (some ⟨pc, 0, none⟩)]⟩
structure BeS (S : MB) (vv sv tv : Value) (pw po pb pc pe B : Nat) (s : (Nat → Int) × Int) (c : Nat → Int) (g : AHeap) : Prop where
  o : OpS g vv sv tv S
  w : Row g pw (wkL S vv sv tv)
  cl : Row g pc [chooseE pw po pb pc]
  wo : g.get po = some (.row [.int .i64 s.2] true 0)
  be : ∃ bv, g.get pb = some (.row [bv] true 0) ∧ Ints g bv S.nv s.1 ∧ oneCell bv = true ∧ ∀ a k q, bv = .slice (some a) k q → a.block ≠ pe ∧ a.block ≠ po ∧ a.block ≠ pb
  e : g.get pe = some (.row (enL S c) true 0)
  fl : g.floor = B
  ne : pe ≠ po ∧ pe ≠ pb ∧ po ≠ pb ∧ B ≤ pe ∧ B ≤ po ∧ B ≤ pb ∧ pw ≠ pe ∧ pw ≠ po ∧ pw ≠ pb ∧ pc ≠ pe ∧ pc ≠ po ∧ pc ≠ pb
def ApartS (S : MB) (vv sv tv : Value) (x : Nat) : Prop := (0 < S.nv → NeB vv x) ∧ (0 < S.ns → NeB sv x) ∧ NeB tv x
theorem cells_keep {g g' : AHeap} {v : Value} {s m o : Nat} {c : Nat → Nat → Value} (hc : Cells g v s m c) (k : Keep o g g') (hb : 0 < m → NeB v o) : Cells g' v s m c := by
  by_cases h0 : m = 0
  · obtain ⟨a, cap, e, sp, _⟩ := hc
    exact ⟨a, cap, e, sp, .inl h0⟩
  · exact Cells.keep hc k fun a m c e => (hb (by omega) a m c e).symm
theorem OpS.set {g g' : AHeap} {vv sv tv : Value} {S : MB} {b gr : Nat} {cs : List Value} (ho : OpS g vv sv tv S) (hs : Set1 g g' b cs gr) (ha : ApartS S vv sv tv b) : OpS g' vv sv tv S := by
  have k := hs.keep
  exact ⟨ho.good, ho.some, ⟨cells_keep ho.y.v k ha.1, cells_keep ho.y.s k ha.2.1⟩, ho.one, Cells.keep ho.d k fun a m c e => (ha.2.2 a m c e).symm, ho.long⟩
end Go.Vm.Bt

namespace Go.Vm.Bt
open Go.Proofs Go.Vm.Vat Go.Vm.L2
set_option linter.unusedSimpArgs false
set_option linter.unusedVariables false
set_option maxRecDepth 10000
variable {n : Nat} {h : AHeap}
open Classical in
noncomputable def errS (S : MB) : Int := if faultS S ≠ 0 then faultS S else if truthsS S = [] then 11 else 0
noncomputable def cntS (S : MB) : Nat := if errS S = 0 then S.nv else 0
theorem errS_zero {S : MB} : errS S = 0 ↔ Good S ∧ truthsS S ≠ [] := by
  unfold errS
  by_cases c1 : faultS S = 0
  · rw [if_neg (by simpa using c1)]
    by_cases c2 : truthsS S = []
    · rw [if_pos c2]; simp [c2]
    · rw [if_neg c2]; simp [c2, good_of c1]
  · rw [if_pos c1]
    exact ⟨fun e => absurd e c1, fun e => fault_of e.1⟩
def s36 : SCode := (.seq (.ops [⟨(some 1), none, .box (T 0)⟩, ⟨(some 2), none, .mov (.const (.slice none 0 0))⟩, ⟨(some 3), none, .mov (.const (.int .i64 (0)))⟩]) (.seq (.ops [⟨(some 9), none, .loadN 5 (T 1)⟩, ⟨(some 10), none, .call (.func 86) [(T 9), (.const (.slice none 0 0))]⟩, ⟨(some 8), none, .mov (T 10)⟩, ⟨(some 11), none, .extract 0 (T 8)⟩, ⟨(some 12), none, .extract 1 (T 8)⟩, ⟨(some 4), none, .alloc [(.int .i64 (0)), (.int .i64 (0)), (.slice none 0 0), (.int .i64 (0)), (.slice none 0 0), (.slice none 0 0)]⟩, ⟨none, none, .store 6 (T 4) (T 11)⟩, ⟨(some 5), none, .mov (T 12)⟩]) (.seq (.seq (.ops [⟨(some 13), none, .mov (T 5)⟩, ⟨(some 14), none, .int2 .neq (T 13) (.const (.int .i64 (0)))⟩]) (.cond (T 14) (.seq (.ops [⟨(some 15), none, .mov (T 5)⟩, ⟨(some 2), none, .mov (.const (.slice none 0 0))⟩, ⟨(some 3), none, .mov (T 15)⟩]) .ret) .skip)) (.seq (.ops [⟨(some 6), none, .mov (.const (.slice none 0 0))⟩]) (.seq (.seq (.ops [⟨(some 16), none, .fieldAddr 0 (T 4)⟩, ⟨(some 17), none, .fieldAddr 2 (T 16)⟩, ⟨(some 18), none, .load1 (T 17)⟩, ⟨(some 19), none, .len (T 18)⟩, ⟨(some 20), none, .mov (.const (.int .i64 (0)))⟩]) (.block 0 (.loop (.seq (.ops [⟨(some 21), none, .int2 .lss (T 20) (T 19)⟩]) (.seq (.cond (T 21) .skip (.exit 0)) (.seq (.block 1 (.seq (.ops [⟨(some 22), none, .mov (T 20)⟩, ⟨(some 7), none, .mov (T 22)⟩]) (.ops [⟨(some 23), none, .mov (T 6)⟩, ⟨(some 24), none, .loadN 6 (T 4)⟩, ⟨(some 25), none, .mov (T 7)⟩, ⟨(some 26), none, .call (.func 87) [(T 24), (T 25)]⟩, ⟨(some 27), none, .bslice 2 1 [(.int .i64 (0)), (.int .i64 (0))] [0] [(T 26)]⟩, ⟨(some 28), none, .append 2 16 (T 23) (T 27)⟩, ⟨(some 6), none, .mov (T 28)⟩]))) (.ops [⟨(some 29), none, .int2 .add (T 20) (.const (.int .i64 (1)))⟩, ⟨(some 20), none, .mov (T 29)⟩]))))))) (.seq (.ops [⟨(some 30), none, .mov (T 6)⟩, ⟨(some 2), none, .mov (T 30)⟩, ⟨(some 3), none, .mov (.const (.int .i64 (0)))⟩]) .ret))))))
theorem fok36 : FnOk Try.prog 36 31 s36 [.tmp 2, .tmp 3] := ⟨Try.f36, _, Try.func36, rfl, Try.ntmps36, by kernel_rfl, by kernel_rfl⟩
set_option maxHeartbeats 1000000 in
theorem boundsV_c (hn : 900 ≤ n) (hr : h.next + 60000 < far) (hfl : h.floor ≤ h.next) {vv sv : Value} {S : MB} (hy : BeatR h vv sv S) (hTh : ThinS S) :
    ∃ r h', call n (.func (.func 36) #[] #[]) [.agg ⟨beL S vv sv⟩] h = some (.tuple ⟨[r, .int .i64 (errS S)]⟩, h') ∧ Ranges h' r (cntS S) (bLo S) (bHi S) ∧ oneCell r = true ∧ (∀ i, i < h.next → h'.get i = h.get i) ∧ h.next ≤ h'.next ∧ h'.next ≤ h.next + 27000 ∧ h'.floor = h.floor := by
  obtain ⟨n, rfl⟩ : ∃ p, n = p + 1 := ⟨n - 1, by omega⟩
  suffices hs : ∃ v h', call (n + 1) (.func (.func 36) #[] #[]) [.agg ⟨beL S vv sv⟩] h = some (v, h') ∧ ∃ r, v = .tuple ⟨[r, .int .i64 (errS S)]⟩ ∧ Ranges h' r (cntS S) (bLo S) (bHi S) ∧ oneCell r = true ∧ (∀ i, i < h.next → h'.get i = h.get i) ∧ h.next ≤ h'.next ∧ h'.next ≤ h.next + 27000 ∧ h'.floor = h.floor by
    obtain ⟨v, h', e, r, rfl, q⟩ := hs
    exact ⟨r, h', e, q⟩
  refine call_any0 fok36 rfl rfl (by simp) ?_
  have rnil : ∀ g : AHeap, Ranges g nilS 0 (bLo S) (bHi S) := fun g => ⟨none, 0, rfl, fun x e => (by cases e), .inl rfl⟩
  simp only [s36, W_seq, W_ops]
  refine ops_box (cs := beL S vv sv) (by omega) rfl hy.one fun g1 hx1 => ?_
  have n1 := hx1.next
  have f1 := hx1.floor
  obtain ⟨v, g2, eo, old2, u2, m2, f2, ho⟩ := open_c (n := n) (h := g1) (by omega) (by omega) (by omega) (hy.mono hx1.sub) hTh (P := True) (cv := nilS) fun _ => conds_nil
  have hold2 : ∀ i, i < h.next → g2.get i = h.get i := fun i hi => by rw [old2 i (by omega), hx1.old i hi]
  rcases ho with ⟨hf, rfl⟩ | ⟨hf, hp, rfl⟩ | ⟨hf, _, ht, rfl⟩ | ⟨hf, _, ht, tv, rfl, hone, hd, hfr, hlong⟩
  · have he : errS S = faultS S := by unfold errS; rw [if_pos hf]
    have hc : cntS S = 0 := by unfold cntS; rw [if_neg (by rw [he]; exact hf)]
    rw [he, hc]
    simp only [rn0, rn1, rn2, rn3, rn4, rn5, rn6, rn7, rn8, if_true, if_false, Nat.le_refl, true_and, and_true, decide_true, decide_false, Bool.not_true, Bool.not_false, reduceIte, Nat.reduceEqDiff, Nat.reduceAdd, Nat.reduceMul, Nat.reduceSub, Nat.reduceLeDiff, Nat.reduceLT, hx1.row.whole (n := 5) rfl, eo, ex0, ex1]
    refine step_new (vs := wkZ) (by omega) (by omega) rfl (by simp only [rn0, rn1, rn2, rn3, rn4, rn5, rn6, rn7, rn8, if_true, if_false, Nat.le_refl, true_and, and_true, decide_true, decide_false, Bool.not_true, Bool.not_false, reduceIte, Nat.reduceEqDiff, Nat.reduceAdd, Nat.reduceMul, Nat.reduceSub, Nat.reduceLeDiff, Nat.reduceLT]; rfl) rfl rfl rfl fun g3 hx3 => ?_
    have n3 := hx3.next
    have f3 := hx3.floor
    simp only [rn0, rn1, rn2, rn3, rn4, rn5, rn6, rn7, rn8, if_true, if_false, Nat.le_refl, true_and, and_true, decide_true, decide_false, Bool.not_true, Bool.not_false, reduceIte, Nat.reduceEqDiff, Nat.reduceAdd, Nat.reduceMul, Nat.reduceSub, Nat.reduceLeDiff, Nat.reduceLT, hf, ret_tt]
    exact ⟨_, rfl, rnil _, rfl, fun i hi => by rw [hx3.old i (by omega), hold2 i hi], by omega, by omega, by omega⟩
  · exact absurd trivial hp
  · have he : errS S = 11 := by unfold errS; rw [if_neg (by simpa using hf), if_pos ht]
    have hc : cntS S = 0 := by unfold cntS; rw [if_neg (by rw [he]; decide)]
    rw [he, hc]
    simp only [rn0, rn1, rn2, rn3, rn4, rn5, rn6, rn7, rn8, if_true, if_false, Nat.le_refl, true_and, and_true, decide_true, decide_false, Bool.not_true, Bool.not_false, reduceIte, Nat.reduceEqDiff, Nat.reduceAdd, Nat.reduceMul, Nat.reduceSub, Nat.reduceLeDiff, Nat.reduceLT, hx1.row.whole (n := 5) rfl, eo, ex0, ex1]
    refine step_new (vs := wkZ) (by omega) (by omega) rfl (by simp only [rn0, rn1, rn2, rn3, rn4, rn5, rn6, rn7, rn8, if_true, if_false, Nat.le_refl, true_and, and_true, decide_true, decide_false, Bool.not_true, Bool.not_false, reduceIte, Nat.reduceEqDiff, Nat.reduceAdd, Nat.reduceMul, Nat.reduceSub, Nat.reduceLeDiff, Nat.reduceLT]; rfl) rfl rfl rfl fun g3 hx3 => ?_
    have n3 := hx3.next
    have f3 := hx3.floor
    simp only [rn0, rn1, rn2, rn3, rn4, rn5, rn6, rn7, rn8, if_true, if_false, Nat.le_refl, true_and, and_true, decide_true, decide_false, Bool.not_true, Bool.not_false, reduceIte, Nat.reduceEqDiff, Nat.reduceAdd, Nat.reduceMul, Nat.reduceSub, Nat.reduceLeDiff, Nat.reduceLT, Int.reduceEq, ret_tt]
    exact ⟨_, rfl, rnil _, rfl, fun i hi => by rw [hx3.old i (by omega), hold2 i hi], by omega, by omega, by omega⟩
  have he : errS S = 0 := errS_zero.2 ⟨good_of hf, ht⟩
  have hc : cntS S = S.nv := by unfold cntS; rw [if_pos he]
  rw [he, hc]
  have hG := good_of hf
  obtain ⟨z0, z1, z3, _⟩ := hG.sizes
  have hy2 := hy.mono (AHeap.subOf hold2)
  simp only [rn0, rn1, rn2, rn3, rn4, rn5, rn6, rn7, rn8, if_true, if_false, Nat.le_refl, true_and, and_true, decide_true, decide_false, Bool.not_true, Bool.not_false, reduceIte, Nat.reduceEqDiff, Nat.reduceAdd, Nat.reduceMul, Nat.reduceSub, Nat.reduceLeDiff, Nat.reduceLT, hx1.row.whole (n := 5) rfl, eo, ex0, ex1]
  refine step_new (vs := wkL S vv sv tv) (by omega) (by omega) rfl (by simp only [rn0, rn1, rn2, rn3, rn4, rn5, rn6, rn7, rn8, if_true, if_false, Nat.le_refl, true_and, and_true, decide_true, decide_false, Bool.not_true, Bool.not_false, reduceIte, Nat.reduceEqDiff, Nat.reduceAdd, Nat.reduceMul, Nat.reduceSub, Nat.reduceLeDiff, Nat.reduceLT]; rfl) (wk_one hy2 hone) rfl rfl fun g3 hx3 => ?_
  have n3 := hx3.next
  have f3 := hx3.floor
  have ho3 : OpS g3 vv sv tv S := ⟨hG, ht, hy2.mono hx3.sub, hone, Cells.mono hd hx3.sub, hlong⟩
  simp only [rn0, rn1, rn2, rn3, rn4, rn5, rn6, rn7, rn8, if_true, if_false, Nat.le_refl, true_and, and_true, decide_true, decide_false, Bool.not_true, Bool.not_false, reduceIte, Nat.reduceEqDiff, Nat.reduceAdd, Nat.reduceMul, Nat.reduceSub, Nat.reduceLeDiff, Nat.reduceLT, hx3.row.ld, wkg, Nat.zero_add, Cells.len ho3.y.v]
  refine W_loop S.nv (fun k f g ms => (∃ v, (∀ i, i < g3.next → g.get i = g3.get i) ∧ g.floor = h.floor ∧ g3.next ≤ g.next ∧ g.next ≤ g3.next + 3 * k ∧ GrowC g3.next g v 2 k (fun k j => .int .i64 (if j = 0 then bLo S k else bHi S k)) ∧ f 6 = v) ∧ ms = [] ∧ f 4 = .pointer (some ⟨g2.next, 0, none⟩) ∧ f 19 = .int .i64 (S.nv : Int) ∧ f 20 = .int .i64 (k : Int)) (by simp; omega) ?_ ?_ ?_
  · simp only [rn0, rn1, rn2, rn3, rn4, rn5, rn6, rn7, rn8, if_true, if_false, Nat.le_refl, true_and, and_true, decide_true, decide_false, Bool.not_true, Bool.not_false, reduceIte, Nat.reduceEqDiff, Nat.reduceAdd, Nat.reduceMul, Nat.reduceSub, Nat.reduceLeDiff, Nat.reduceLT]
    exact ⟨⟨nilS, fun i _ => trivial, by omega, by omega, .nil, rfl⟩, rfl⟩
  · rintro k f g ms hk ⟨⟨v, hs, hfg, hup, hnx, gv, p6⟩, rfl, p4, p19, p20⟩
    have hk' : (k : Int) < (S.nv : Int) := by omega
    have hw : wrapF .i64 ((k : Int) + 1) = ((k + 1 : Nat) : Int) := by rw [wrap_in (by omega) (by omega)]; rfl
    have rg := hx3.row.mono (AHeap.subOf hs)
    have hog := ho3.mono (AHeap.subOf hs)
    have ed := whenDone_c (n := n) (h := g) (by omega) (by omega) hog hk
    simp only [rn0, rn1, rn2, rn3, rn4, rn5, rn6, rn7, rn8, if_true, if_false, Nat.le_refl, true_and, and_true, decide_true, decide_false, Bool.not_true, Bool.not_false, reduceIte, Nat.reduceEqDiff, Nat.reduceAdd, Nat.reduceMul, Nat.reduceSub, Nat.reduceLeDiff, Nat.reduceLT, p4, p6, p19, p20, hk', rg.whole (n := 6) rfl, ed, sl_range]
    refine step_slice (by omega) rfl fun g5 hx5 => ?_
    have n5 := hx5.next
    obtain ⟨v', g6, e6, gv6, o6, n6, f6, old6, u6⟩ := grow_push (h := g) (bytes := 16) gv (by omega) (by omega) (by omega) hx5 rfl rfl (fun j hj => by
      obtain rfl | rfl : j = 0 ∨ j = 1 := by omega
      all_goals rfl) (by simp [maxBytes]; omega) (by simp [maxBytes]; omega)
    simp only [rn0, rn1, rn2, rn3, rn4, rn5, rn6, rn7, rn8, if_true, if_false, Nat.le_refl, true_and, and_true, decide_true, decide_false, Bool.not_true, Bool.not_false, reduceIte, Nat.reduceEqDiff, Nat.reduceAdd, Nat.reduceMul, Nat.reduceSub, Nat.reduceLeDiff, Nat.reduceLT, p4, p6, p19, p20, e6, hw]
    have hfin := And.intro (fun i (hi : i < g3.next) => (by rw [old6 i hi, hs i hi] : g6.get i = g3.get i)) (And.intro (by omega : g6.floor = h.floor) (And.intro (by omega : g3.next ≤ g6.next) (And.intro (by omega : g6.next ≤ g3.next + 3 * (k + 1)) (And.intro gv6 (rfl : v' = v')))))
    first | exact ⟨⟨v', hfin⟩, rfl⟩ | exact ⟨v', hfin⟩
  · rintro f g ms ⟨⟨v, hs, hfg, hup, hnx, gv, p6⟩, rfl, p4, p19, p20⟩
    simp only [rn0, rn1, rn2, rn3, rn4, rn5, rn6, rn7, rn8, if_true, if_false, Nat.le_refl, true_and, and_true, decide_true, decide_false, Bool.not_true, Bool.not_false, reduceIte, Nat.reduceEqDiff, Nat.reduceAdd, Nat.reduceMul, Nat.reduceSub, Nat.reduceLeDiff, Nat.reduceLT, p4, p6, p19, p20, Int.lt_irrefl, ret_tt]
    exact ⟨_, rfl, gv.cells, gv.one, fun i hi => by rw [hs i (by omega), hx3.old i (by omega), hold2 i hi], by omega, by omega, by omega⟩
theorem sl_fn {f : Value} (hf : oneCell f = true) : buildSl 1 1 [.nilFunc] [0] h [f] = newSlice h [f] 1 1 0 := by
  cases f <;> first | (cases hf; done) | rfl
end Go.Vm.Bt

namespace Go.Vm
set_option linter.unusedSimpArgs false
set_option linter.unusedVariables false
section
variable {α : Type} [DecidableEq α] {P : Program} {t : TypeId} {kv : α → Value} {m : α → Int} {h : AHeap} {r : Nat}
theorem updateF (hk : KeyOk P t kv) (hm : MapF h r kv m) (hfl : h.floor ≤ r) (hf : h.next ≤ far) (p : α) (v : Int) :
    ∃ g, mapUpdateA P t h (.map (some r)) (kv p) (.int .i64 v) = some (undef, g) ∧ MapF g r kv (fun q => if q = p then v else m q) ∧ Turned h g r := by
  have hlt := hm.lt
  obtain ⟨l, c, hg, he⟩ := hm
  have hpv : plainV (.int .i64 v) = true := rfl
  unfold mapUpdateA amap
  simp only [hg, hk.plain, hpv, Bool.and_self, cond_true, hk.find, ble_iff.2 hfl]
  cases hfd : findK p l 0 with
  | none =>
    have hp := findK_none l 0 hfd
    have hv := valK_none l hp
    obtain ⟨g, e, hg', ht⟩ := setMap_run (h := h) (es := (⟨l.map (entK kv)⟩ : Array MapEntry).push { key := kv p, val := .int .i64 v, born := c }) (c := c + 1) (v := undef) hlt hf
    refine ⟨g, e, ⟨l ++ [(p, v, c)], c + 1, ?_, ⟨?_, ?_, ?_, ?_⟩⟩, ht⟩
    · rw [hg', List.push_toArray, List.map_append]; rfl
    · intro q
      rw [valK_app l hp, he.val]
    · rw [List.map_append, List.nodup_append]
      refine ⟨he.keys, by simp, ?_⟩
      intro a ha b hb e
      simp only [List.map_cons, List.map_nil, List.mem_singleton] at hb
      exact hp (by rw [← hb, ← e]; exact ha)
    · rw [List.map_append, List.nodup_append]
      refine ⟨he.borns, by simp, ?_⟩
      intro a ha b hb e
      simp only [List.map_cons, List.map_nil, List.mem_singleton] at hb
      obtain ⟨x, hx, rfl⟩ := List.mem_map.1 ha
      have := he.below x hx
      omega
    · intro x hx
      rcases List.mem_append.1 hx with hx | hx
      · have := he.below x hx; omega
      · simp only [List.mem_singleton] at hx
        subst hx; exact Nat.lt_succ_self _
  | some q =>
    obtain ⟨i, w⟩ := q
    obtain ⟨b, _, hi, rfl⟩ := findK_some l 0 i w hfd
    rw [Nat.sub_zero] at hi
    have hi2 : (⟨l.map (entK kv)⟩ : Array MapEntry)[i]? = some (entK kv (p, valK p l, b)) := by
      rw [List.getElem?_toArray, List.getElem?_map, hi]; rfl
    have hil : i < l.length := by
      rcases Nat.lt_or_ge i l.length with h1 | h1
      · exact h1
      · rw [List.getElem?_eq_none h1] at hi; cases hi
    obtain ⟨g, e, hg', ht⟩ := setMap_run (h := h) (es := (⟨l.map (entK kv)⟩ : Array MapEntry).modify i fun e => { e with key := kv p, val := .int .i64 v }) (c := c) (v := undef) hlt hf
    refine ⟨g, ?_, ⟨l.set i (p, v, b), c, ?_, ?_, ?_, ?_, ?_⟩, ht⟩
    · simp only [hi2, Option.map_some, Option.getD_some, entK, hk.same, cond_true]
      exact e
    · rw [hg']
      congr 2
      apply Array.ext'
      rw [Array.toList_modify]
      apply List.ext_getElem?
      intro k
      show _ = (List.map (entK kv) (l.set i (p, v, b)))[k]?
      rw [List.getElem?_modify, List.getElem?_map, List.getElem?_map, List.getElem?_set]
      by_cases e : i = k
      · subst e
        rw [if_pos rfl, if_pos hil, hi]
        simp [entK]
      · simp [e]
    · intro q
      rw [valK_set l i _ b he.keys hi, he.val]
    · rw [List.map_set]
      have : (l.map (·.1)).set i p = l.map (·.1) := by
        apply List.ext_getElem?
        intro k
        rw [List.getElem?_set]
        by_cases e : i = k
        · subst e; rw [if_pos rfl, List.length_map, if_pos hil, List.getElem?_map, hi]; rfl
        · simp [e]
      rw [this]; exact he.keys
    · rw [List.map_set]
      have : (l.map (·.2.2)).set i b = l.map (·.2.2) := by
        apply List.ext_getElem?
        intro k
        rw [List.getElem?_set]
        by_cases e : i = k
        · subst e; rw [if_pos rfl, List.length_map, if_pos hil, List.getElem?_map, hi]; rfl
        · simp [e]
      rw [this]; exact he.borns
    · intro x hx
      rcases List.mem_or_eq_of_mem_set hx with hx | rfl
      · exact he.below x hx
      · exact he.below (p, valK p l, b) (List.mem_of_getElem? hi)
end
end Go.Vm

namespace Go.Vm.Bt
open Go.Proofs Go.Vm.Vat Go.Vm.L2
set_option linter.unusedSimpArgs false
set_option linter.unusedVariables false
set_option maxRecDepth 10000
variable {n : Nat} {h : AHeap}
theorem two139 : Two Try.prog 139 := ⟨⟨_, _, Try.underlying139, by decide, by decide, rfl, rfl, by rfl, by rfl⟩, by kernel_rfl⟩
theorem key139 : KeyOk Try.prog 139 key2 := keyOk2 two139
theorem x_mapUpdate {P : Program} {cf : CallF} {N : Nat} {f : Go.Vm.Fr} {kt : TypeId} {m k x : Operand} : sem P cf N f h (.mapUpdate kt m k x) = mapUpdateA P kt h (val f m) (val f k) (val f x) := id rfl
noncomputable def verdV (S : MB) (v : Nat) (hh : Int) : Int := if bHi S v ≤ hh then 1 else if hh < bLo S v then 2 else 3
noncomputable def vmK (S : MB) (k j : Nat) (p : Int × Int) : Int := if 0 ≤ p.1 ∧ 0 ≤ p.2 ∧ (p.1 < (k : Int) ∧ p.2 ≤ S.last ∨ p.1 = (k : Int) ∧ p.2 < (j : Int)) then verdV S p.1.toNat p.2 else 0
theorem vmK_zero {S : MB} : vmK S 0 0 = fun _ => 0 := by
  funext p
  unfold vmK
  rw [if_neg]
  rintro ⟨h1, h2, h3 | h3⟩ <;> omega
theorem vmK_step {S : MB} {k j : Nat} : (fun q : Int × Int => if q = ((k : Int), (j : Int)) then verdV S k j else vmK S k j q) = vmK S k (j + 1) := by
  funext q
  obtain ⟨a, b⟩ := q
  by_cases e : (a, b) = ((k : Int), (j : Int))
  · rw [if_pos e]
    simp only [Prod.mk.injEq] at e
    obtain ⟨rfl, rfl⟩ := e
    unfold vmK
    rw [if_pos ⟨by simp, by simp, .inr ⟨rfl, by simp only; omega⟩⟩]
    simp
  · rw [if_neg e]
    simp only [Prod.mk.injEq] at e
    unfold vmK
    have : (0 ≤ a ∧ 0 ≤ b ∧ (a < (k : Int) ∧ b ≤ S.last ∨ a = (k : Int) ∧ b < (j : Int))) ↔ (0 ≤ a ∧ 0 ≤ b ∧ (a < (k : Int) ∧ b ≤ S.last ∨ a = (k : Int) ∧ b < ((j + 1 : Nat) : Int))) := by omega
    simp only [this]
theorem vmK_end {S : MB} {k j : Nat} (hj : (j : Int) = S.last + 1) : vmK S k j = vmK S (k + 1) 0 := by
  funext q
  obtain ⟨a, b⟩ := q
  unfold vmK
  have : (0 ≤ a ∧ 0 ≤ b ∧ (a < (k : Int) ∧ b ≤ S.last ∨ a = (k : Int) ∧ b < (j : Int))) ↔ (0 ≤ a ∧ 0 ≤ b ∧ (a < ((k + 1 : Nat) : Int) ∧ b ≤ S.last ∨ a = ((k + 1 : Nat) : Int) ∧ b < ((0 : Nat) : Int))) := by omega
  simp only [this]
def s91 : SCode := (.seq (.ops [⟨(some 1), none, .box (T 0)⟩, ⟨(some 2), none, .mov (.const (.map none))⟩]) (.seq (.ops [⟨(some 7), none, .mkmap⟩, ⟨(some 3), none, .mov (T 7)⟩]) (.seq (.seq (.ops [⟨(some 8), none, .fieldAddr 0 (T 1)⟩, ⟨(some 9), none, .fieldAddr 2 (T 8)⟩, ⟨(some 10), none, .load1 (T 9)⟩, ⟨(some 11), none, .len (T 10)⟩, ⟨(some 12), none, .mov (.const (.int .i64 (0)))⟩]) (.block 0 (.loop (.seq (.ops [⟨(some 13), none, .int2 .lss (T 12) (T 11)⟩]) (.seq (.cond (T 13) .skip (.exit 0)) (.seq (.block 1 (.seq (.ops [⟨(some 14), none, .mov (T 12)⟩, ⟨(some 4), none, .mov (T 14)⟩]) (.seq (.ops [⟨(some 15), none, .loadN 6 (T 1)⟩, ⟨(some 16), none, .mov (T 4)⟩, ⟨(some 17), none, .call (.func 87) [(T 15), (T 16)]⟩, ⟨(some 5), none, .alloc [(.int .i64 (0)), (.int .i64 (0))]⟩, ⟨none, none, .store 2 (T 5) (T 17)⟩]) (.seq (.ops [⟨(some 18), none, .fieldAddr 0 (T 1)⟩, ⟨(some 19), none, .fieldAddr 3 (T 18)⟩, ⟨(some 20), none, .load1 (T 19)⟩, ⟨(some 21), none, .int2 .add (T 20) (.const (.int .i64 (1)))⟩, ⟨(some 22), none, .mov (.const (.int .i64 (0)))⟩]) (.block 2 (.loop (.seq (.ops [⟨(some 23), none, .int2 .lss (T 22) (T 21)⟩]) (.seq (.cond (T 23) .skip (.exit 2)) (.seq (.block 3 (.seq (.ops [⟨(some 24), none, .mov (T 22)⟩, ⟨(some 6), none, .mov (T 24)⟩]) (.block 4 (.seq (.ops [⟨(some 30), none, .fieldAddr 1 (T 5)⟩, ⟨(some 31), none, .load1 (T 30)⟩, ⟨(some 32), none, .mov (T 6)⟩, ⟨(some 33), none, .int2 .leq (T 31) (T 32)⟩, ⟨(some 29), none, .mov (T 33)⟩]) (.cond (T 29) (.ops [⟨(some 34), none, .mov (T 3)⟩, ⟨(some 35), none, .mov (T 4)⟩, ⟨(some 36), none, .mov (T 6)⟩, ⟨(some 37), none, .build #[(0, 1), (1, 1)] [(.int .i64 (0)), (.int .i64 (0))] [0, 1] [(T 35), (T 36)]⟩, ⟨none, none, .mapUpdate 139 (T 34) (T 37) (.const (.int .i64 (1)))⟩]) (.seq (.ops [⟨(some 39), none, .mov (T 6)⟩, ⟨(some 40), none, .fieldAddr 0 (T 5)⟩, ⟨(some 41), none, .load1 (T 40)⟩, ⟨(some 42), none, .int2 .lss (T 39) (T 41)⟩, ⟨(some 38), none, .mov (T 42)⟩]) (.cond (T 38) (.ops [⟨(some 43), none, .mov (T 3)⟩, ⟨(some 44), none, .mov (T 4)⟩, ⟨(some 45), none, .mov (T 6)⟩, ⟨(some 46), none, .build #[(0, 1), (1, 1)] [(.int .i64 (0)), (.int .i64 (0))] [0, 1] [(T 44), (T 45)]⟩, ⟨none, none, .mapUpdate 139 (T 43) (T 46) (.const (.int .i64 (2)))⟩]) (.ops [⟨(some 25), none, .mov (T 3)⟩, ⟨(some 26), none, .mov (T 4)⟩, ⟨(some 27), none, .mov (T 6)⟩, ⟨(some 28), none, .build #[(0, 1), (1, 1)] [(.int .i64 (0)), (.int .i64 (0))] [0, 1] [(T 26), (T 27)]⟩, ⟨none, none, .mapUpdate 139 (T 25) (T 28) (.const (.int .i64 (3)))⟩])))))))) (.ops [⟨(some 47), none, .int2 .add (T 22) (.const (.int .i64 (1)))⟩, ⟨(some 22), none, .mov (T 47)⟩])))))))))) (.ops [⟨(some 48), none, .int2 .add (T 12) (.const (.int .i64 (1)))⟩, ⟨(some 12), none, .mov (T 48)⟩]))))))) (.seq (.ops [⟨(some 49), none, .mov (T 3)⟩, ⟨(some 2), none, .mov (T 49)⟩]) .ret))))
theorem fok91 : FnOk Try.prog 91 50 s91 [.tmp 2] := ⟨Try.f91, _, Try.func91, rfl, Try.ntmps91, by kernel_rfl, by kernel_rfl⟩
set_option maxHeartbeats 2000000 in
theorem verdicts_c (hn : 800 ≤ n) (hr : h.next + 7000 < far) (hfl : h.floor ≤ h.next) {vv sv tv : Value} {S : MB} (ho : OpS h vv sv tv S) :
    ∃ r h', call n (.func (.func 91) #[] #[]) [.agg ⟨wkL S vv sv tv⟩] h = some (.map (some r), h') ∧ MapF h' r key2 (vmK S S.nv 0) ∧ h.next ≤ r ∧ (∀ i, i < h.next → h'.get i = h.get i) ∧ h.next ≤ h'.next ∧ h'.next ≤ h.next + 20 ∧ h'.floor = h.floor := by
  obtain ⟨n, rfl⟩ : ∃ p, n = p + 1 := ⟨n - 1, by omega⟩
  obtain ⟨z0, z1, z3, _⟩ := ho.good.sizes
  suffices hsf : ∃ vv' h', call (n + 1) (.func (.func 91) #[] #[]) [.agg ⟨wkL S vv sv tv⟩] h = some (vv', h') ∧ ∃ r, vv' = .map (some r) ∧ MapF h' r key2 (vmK S S.nv 0) ∧ h.next ≤ r ∧ (∀ i, i < h.next → h'.get i = h.get i) ∧ h.next ≤ h'.next ∧ h'.next ≤ h.next + 20 ∧ h'.floor = h.floor by
    obtain ⟨_, h', e, r, rfl, q⟩ := hsf
    exact ⟨r, h', e, q⟩
  refine call_any0 fok91 rfl rfl (by simp) ?_
  simp only [s91, W_seq, W_ops]
  refine ops_box (cs := wkL S vv sv tv) (by omega) rfl (wk_one ho.y ho.one) fun g1 hx1 => ?_
  have n1 := hx1.next
  have f1 := hx1.floor
  obtain ⟨g2, em, hm2, ho2, n2, f2⟩ := mkmapF (h := g1) (by omega) key2
  have s12 : Sub All g1 g2 := AHeap.subOf ho2
  have r2 := hx1.row.mono s12
  have hop2 := ho.mono (hx1.sub.trans s12)
  have hlast : wrapF .i64 (S.last + 1) = S.last + 1 := wrap_in (by omega) (by omega)
  obtain ⟨W, hW⟩ : ∃ W : Nat, (W : Int) = S.last + 1 := ⟨(S.last + 1).toNat, by omega⟩
  rw [← vmK_zero (S := S)] at hm2
  simp only [rn0, rn1, rn2, rn3, rn4, rn5, rn6, rn7, rn8, if_true, if_false, Nat.le_refl, true_and, and_true, decide_true, decide_false, Bool.not_true, Bool.not_false, reduceIte, Nat.reduceEqDiff, Nat.reduceAdd, Nat.reduceMul, Nat.reduceSub, Nat.reduceLeDiff, Nat.reduceLT, x_mkmap, em, r2.ld, wkg, Nat.zero_add, Cells.len hop2.y.v]
  refine W_loop S.nv (fun k f g ms => ((∀ i, i ≠ g1.next → i < g2.next → g.get i = g2.get i) ∧ MapF g g1.next key2 (vmK S k 0) ∧ g2.next ≤ g.next ∧ g.next ≤ g2.next + 2 * k ∧ g.floor = h.floor) ∧ ms = [] ∧ f 1 = .pointer (some ⟨h.next, 0, none⟩) ∧ f 3 = .map (some g1.next) ∧ f 11 = .int .i64 (S.nv : Int) ∧ f 12 = .int .i64 (k : Int)) (by simp; omega) ?_ ?_ ?_
  · simp only [rn0, rn1, rn2, rn3, rn4, rn5, rn6, rn7, rn8, if_true, if_false, Nat.le_refl, true_and, and_true, decide_true, decide_false, Bool.not_true, Bool.not_false, reduceIte, Nat.reduceEqDiff, Nat.reduceAdd, Nat.reduceMul, Nat.reduceSub, Nat.reduceLeDiff, Nat.reduceLT, Int.natCast_zero]
    first | exact ⟨fun _ _ _ => trivial, hm2, by omega, by omega⟩ | exact ⟨⟨fun _ _ _ => trivial, hm2, by omega, by omega⟩, rfl⟩
  · rintro k f g ms hk ⟨⟨og, mg, ug, ng, fg⟩, rfl, p1, p3, p11, p12⟩
    have hk' : (k : Int) < (S.nv : Int) := by omega
    have hw : wrapF .i64 ((k : Int) + 1) = ((k + 1 : Nat) : Int) := by rw [wrap_in (by omega) (by omega)]; rfl
    have oldg : ∀ i, i < g1.next → g.get i = g1.get i := fun i hi => by rw [og i (by omega) (by omega), ho2 i hi]
    have rg : Row g h.next (wkL S vv sv tv) := hx1.row.mono (AHeap.subOf oldg)
    have hog : OpS g vv sv tv S := (ho.mono hx1.sub).mono (AHeap.subOf oldg)
    have ed := whenDone_c (n := n) (h := g) (by omega) (by omega) hog hk
    simp only [rn0, rn1, rn2, rn3, rn4, rn5, rn6, rn7, rn8, if_true, if_false, Nat.le_refl, true_and, and_true, decide_true, decide_false, Bool.not_true, Bool.not_false, reduceIte, Nat.reduceEqDiff, Nat.reduceAdd, Nat.reduceMul, Nat.reduceSub, Nat.reduceLeDiff, Nat.reduceLT, p1, p3, p11, p12, hk', rg.whole (n := 6) rfl, ed]
    refine step_new (vs := [.int .i64 (bLo S k), .int .i64 (bHi S k)]) (by omega) (by omega) rfl (by simp only [rn0, rn1, rn2, rn3, rn4, rn5, rn6, rn7, rn8, if_true, if_false, Nat.le_refl, true_and, and_true, decide_true, decide_false, Bool.not_true, Bool.not_false, reduceIte, Nat.reduceEqDiff, Nat.reduceAdd, Nat.reduceMul, Nat.reduceSub, Nat.reduceLeDiff, Nat.reduceLT]; rfl) rfl rfl rfl fun g4 hx4 => ?_
    have n4 := hx4.next
    have f4 := hx4.floor
    have rg4 := rg.mono hx4.sub
    have mg4 : MapF g4 g1.next key2 (vmK S k 0) := mg.keep (hx4.old _ mg.lt)
    simp only [rn0, rn1, rn2, rn3, rn4, rn5, rn6, rn7, rn8, if_true, if_false, Nat.le_refl, true_and, and_true, decide_true, decide_false, Bool.not_true, Bool.not_false, reduceIte, Nat.reduceEqDiff, Nat.reduceAdd, Nat.reduceMul, Nat.reduceSub, Nat.reduceLeDiff, Nat.reduceLT, p1, p3, p11, p12, rg4.ld, wkg, Nat.zero_add, hlast]
    rw [← hW]
    refine W_loop W (fun j f g' ms => ((∀ i, i ≠ g1.next → g'.get i = g4.get i) ∧ MapF g' g1.next key2 (vmK S k j) ∧ g'.next = g4.next ∧ g'.floor = g4.floor) ∧ ms = [] ∧ f 1 = .pointer (some ⟨h.next, 0, none⟩) ∧ f 3 = .map (some g1.next) ∧ f 4 = .int .i64 (k : Int) ∧ f 5 = .pointer (some ⟨g.next, 0, none⟩) ∧ f 11 = .int .i64 (S.nv : Int) ∧ f 12 = .int .i64 (k : Int) ∧ f 21 = .int .i64 (W : Int) ∧ f 22 = .int .i64 (j : Int)) (by simp; omega) ?_ ?_ ?_
    · simp only [rn0, rn1, rn2, rn3, rn4, rn5, rn6, rn7, rn8, if_true, if_false, Nat.le_refl, true_and, and_true, decide_true, decide_false, Bool.not_true, Bool.not_false, reduceIte, Nat.reduceEqDiff, Nat.reduceAdd, Nat.reduceMul, Nat.reduceSub, Nat.reduceLeDiff, Nat.reduceLT, p1, p3, p11, p12, Int.natCast_zero]
      first | exact ⟨fun _ _ => trivial, mg4⟩ | exact ⟨⟨fun _ _ => trivial, mg4⟩, rfl⟩ | exact mg4
    · rintro j f g' ms hj ⟨⟨og', mg', ng', fg'⟩, rfl, p1, p3, p4, p5, p11, p12, p21, p22⟩
      have hj' : (j : Int) < (W : Int) := by omega
      have hwj : wrapF .i64 ((j : Int) + 1) = ((j + 1 : Nat) : Int) := by rw [wrap_in (by omega) (by omega)]; rfl
      have hne : g.next ≠ g1.next := by omega
      have rd' : Row g' g.next [.int .i64 (bLo S k), .int .i64 (bHi S k)] := ⟨_, _, by rw [og' _ hne]; exact hx4.get⟩
      have l0 : ([Value.int .i64 (bLo S k), .int .i64 (bHi S k)] : List Value)[0]? = some (.int .i64 (bLo S k)) := rfl
      have l1 : ([Value.int .i64 (bLo S k), .int .i64 (bHi S k)] : List Value)[1]? = some (.int .i64 (bHi S k)) := rfl
      have upd : ∀ c, verdV S k j = c → ∃ g5, mapUpdateA Try.prog 139 g' (.map (some g1.next)) (.agg ⟨[.int .i64 (k : Int), .int .i64 (j : Int)]⟩) (.int .i64 c) = some (undef, g5) ∧ MapF g5 g1.next key2 (vmK S k (j + 1)) ∧ (∀ i, i ≠ g1.next → g5.get i = g4.get i) ∧ g5.next = g4.next ∧ g5.floor = g4.floor := fun c hc => by
        obtain ⟨g5, e5, hm5, ht5⟩ := updateF (h := g') key139 mg' (by omega) (by omega) ((k : Int), (j : Int)) c
        rw [← hc, vmK_step] at hm5
        exact ⟨g5, e5, hm5, fun i hi => by rw [ht5.old i hi, og' i hi], by rw [ht5.next, ng'], by rw [ht5.floor, fg']⟩
      by_cases c1 : bHi S k ≤ (j : Int)
      · obtain ⟨g5, e5, hm5, o5, n5, f5⟩ := upd 1 (by unfold verdV; rw [if_pos c1])
        simp only [rn0, rn1, rn2, rn3, rn4, rn5, rn6, rn7, rn8, if_true, if_false, Nat.le_refl, true_and, and_true, decide_true, decide_false, Bool.not_true, Bool.not_false, reduceIte, Nat.reduceEqDiff, Nat.reduceAdd, Nat.reduceMul, Nat.reduceSub, Nat.reduceLeDiff, Nat.reduceLT, p1, p3, p4, p5, p11, p12, p21, p22, hj', rd'.ld, Nat.zero_add, l1, c1, build_range, x_mapUpdate, e5, hwj]
        first | exact ⟨o5, hm5, n5, f5⟩ | exact ⟨⟨o5, hm5, n5, f5⟩, rfl⟩
      · by_cases c2 : (j : Int) < bLo S k
        · obtain ⟨g5, e5, hm5, o5, n5, f5⟩ := upd 2 (by unfold verdV; rw [if_neg c1, if_pos c2])
          simp only [rn0, rn1, rn2, rn3, rn4, rn5, rn6, rn7, rn8, if_true, if_false, Nat.le_refl, true_and, and_true, decide_true, decide_false, Bool.not_true, Bool.not_false, reduceIte, Nat.reduceEqDiff, Nat.reduceAdd, Nat.reduceMul, Nat.reduceSub, Nat.reduceLeDiff, Nat.reduceLT, p1, p3, p4, p5, p11, p12, p21, p22, hj', rd'.ld, Nat.zero_add, l0, l1, c1, c2, build_range, x_mapUpdate, e5, hwj]
          first | exact ⟨o5, hm5, n5, f5⟩ | exact ⟨⟨o5, hm5, n5, f5⟩, rfl⟩
        · obtain ⟨g5, e5, hm5, o5, n5, f5⟩ := upd 3 (by unfold verdV; rw [if_neg c1, if_neg c2])
          simp only [rn0, rn1, rn2, rn3, rn4, rn5, rn6, rn7, rn8, if_true, if_false, Nat.le_refl, true_and, and_true, decide_true, decide_false, Bool.not_true, Bool.not_false, reduceIte, Nat.reduceEqDiff, Nat.reduceAdd, Nat.reduceMul, Nat.reduceSub, Nat.reduceLeDiff, Nat.reduceLT, p1, p3, p4, p5, p11, p12, p21, p22, hj', rd'.ld, Nat.zero_add, l0, l1, c1, c2, build_range, x_mapUpdate, e5, hwj]
          first | exact ⟨o5, hm5, n5, f5⟩ | exact ⟨⟨o5, hm5, n5, f5⟩, rfl⟩
    · rintro f g' ms ⟨⟨og', mg', ng', fg'⟩, rfl, p1, p3, p4, p5, p11, p12, p21, p22⟩
      rw [vmK_end hW] at mg'
      simp only [rn0, rn1, rn2, rn3, rn4, rn5, rn6, rn7, rn8, if_true, if_false, Nat.le_refl, true_and, and_true, decide_true, decide_false, Bool.not_true, Bool.not_false, reduceIte, Nat.reduceEqDiff, Nat.reduceAdd, Nat.reduceMul, Nat.reduceSub, Nat.reduceLeDiff, Nat.reduceLT, p1, p3, p4, p5, p11, p12, p21, p22, Int.lt_irrefl, hw]
      have fin := And.intro (fun i (h1 : i ≠ g1.next) (h2 : i < g2.next) => (by rw [og' i h1, hx4.old i (by omega), og i h1 h2] : g'.get i = g2.get i)) (And.intro mg' (And.intro (by omega : g2.next ≤ g'.next) (And.intro (by omega : g'.next ≤ g2.next + 2 * (k + 1)) (by omega : g'.floor = h.floor))))
      first | exact fin | exact ⟨fin, rfl⟩
  · rintro f g ms ⟨⟨og, mg, ug, ng, fg⟩, rfl, p1, p3, p11, p12⟩
    simp only [rn0, rn1, rn2, rn3, rn4, rn5, rn6, rn7, rn8, if_true, if_false, Nat.le_refl, true_and, and_true, decide_true, decide_false, Bool.not_true, Bool.not_false, reduceIte, Nat.reduceEqDiff, Nat.reduceAdd, Nat.reduceMul, Nat.reduceSub, Nat.reduceLeDiff, Nat.reduceLT, p1, p3, p11, p12, Int.lt_irrefl]
    exact ⟨_, rfl, mg, by omega, fun i hi => by rw [og i (by omega) (by omega), ho2 i (by omega), hx1.old i hi], by omega, by omega, by omega⟩
end Go.Vm.Bt

namespace Go.Vm.Bt
open Go.Proofs Go.Vm.Vat Go.Vm.L2
set_option linter.unusedSimpArgs false
set_option linter.unusedVariables false
set_option maxRecDepth 10000
variable {n : Nat} {h : AHeap}
theorem p_conv8 {N : Nat} {f : Go.Vm.Fr} {x : Operand} {ty : TypeId} : plainF Try.prog N (.convert 5 3 x) ty f h = run8 (plainF Try.prog N (.convert 5 3 x) ty f) (valN N f x) h := by
  unfold run8
  split
  · rename_i a e1
    unfold plainF
    have : allB (fun x => plainV (valN N f x)) (Op.convert 5 3 x).operands.toList = true := by simp [Op.operands, allB, e1, plainV, plainE, plainCell]
    rw [this]
    have e : pureRun Try.prog (execOp (valN N f) (bare (.convert 5 3 x) ty)) = some (.value (.int .i64 (IntKind.wrap .i64 a))) := by
      show pureRun Try.prog (convert 5 3 (valN N f x) >>= fun a => pure (Next.value a)) = _
      rw [pureRun_bind, e1]
      have hc : pureRun Try.prog (convert 5 3 (.int .u8 a)) = some (.int .i64 (IntKind.wrap .i64 a)) := by
        unfold convert
        rw [pureRun_bind, pr_under Try.underlying5, Option.bind_some, pureRun_bind, pr_under Try.underlying3]
        rfl
      rw [hc]; rfl
    rw [e]
    rfl
  · rfl
end Go.Vm.Bt

namespace Go.Vm.Bt
open Go.Proofs Go.Vm.Vat Go.Vm.L2
set_option linter.unusedSimpArgs false
set_option linter.unusedVariables false
set_option maxRecDepth 10000
variable {n : Nat} {h : AHeap}
abbrev uSz (S : MB) : Nat → Nat := sz (uLo S) (uHi S)
theorem Good.sz {S : MB} (hG : Good S) {j : Nat} (hj : j < numU S) : ((uSz S j : Nat) : Int) = uHi S j - uLo S j + 1 ∧ 1 ≤ uSz S j ∧ uSz S j ≤ 10 := by
  obtain ⟨h1, h2, h3⟩ := hG.u j hj
  have : ((uSz S j : Nat) : Int) = uHi S j - uLo S j + 1 := Int.toNat_of_nonneg (by omega)
  omega
end Go.Vm.Bt

namespace Go.Vm.Bt
open Go.Proofs Go.Vm.Vat Go.Vm.L2
set_option linter.unusedSimpArgs false
set_option linter.unusedVariables false
set_option maxRecDepth 10000
variable {n : Nat} {h : AHeap}
structure CouIn (h : AHeap) (v r1 : Value) (S : MB) (u : Nat → Int) : Prop where
  cou : CouR h r1 S u
  b1 : ∀ x m c, r1 = .slice (some x) m c → x.block < h.next ∧ NeB v x.block
def cosC (l : List (Nat → Int)) (R1 : Nat → Value) (k j : Nat) : Value := if j = 0 then .int .i64 ((l.getD k fun _ => 0) 0) else R1 k
structure CosG (B : Nat) (h : AHeap) (v : Value) (S : MB) (l : List (Nat → Int)) (R1 : Nat → Value) : Prop where
  g : GrowC B h v 2 l.length (cosC l R1)
  t : ∀ k, k < l.length → CouIn h v (R1 k) S (l.getD k fun _ => 0)
def CoursesL (h : AHeap) (v : Value) (S : MB) (l : List (Nat → Int)) : Prop := ∃ R1 : Nat → Value, Cells h v 2 l.length (cosC l R1) ∧ ∀ k, k < l.length → CouR h (R1 k) S (l.getD k fun _ => 0)
theorem CoursesL.mono {g : AHeap} {v : Value} {S : MB} {l : List (Nat → Int)} (hc : CoursesL h v S l) (hs : Sub All h g) : CoursesL g v S l := by
  obtain ⟨R, h1, h2⟩ := hc
  exact ⟨R, h1.mono hs, fun k hk => Cells.mono (h2 k hk) hs⟩
theorem CosG.nil {B : Nat} {S : MB} : CosG B h nilS S [] (fun _ => nilS) := ⟨.nil, fun k hk => absurd hk (Nat.not_lt_zero _)⟩
theorem CouIn.old {g : AHeap} {v r1 : Value} {S : MB} {u : Nat → Int} (ht : CouIn h v r1 S u) (ho : ∀ i, i < h.next → NeB v i → g.get i = h.get i) (hn : h.next ≤ g.next) : CouIn g v r1 S u :=
  ⟨cells_at ht.cou fun a k c e hlt => ho _ hlt (ht.b1 a k c e).2, fun x m c e => ⟨by have := (ht.b1 x m c e).1; omega, (ht.b1 x m c e).2⟩⟩
theorem CosG.old {B : Nat} {g : AHeap} {v : Value} {S : MB} {l : List (Nat → Int)} {R1 : Nat → Value} (ht : CosG B h v S l R1) (ho : ∀ i, i < h.next → g.get i = h.get i) (hn : h.next ≤ g.next) : CosG B g v S l R1 :=
  ⟨GrowC.at' ht.g fun a k c e => ho _ (ht.g.block e).2, fun k hk => (ht.t k hk).old (fun i hi _ => ho i hi) hn⟩
theorem CosG.push {B : Nat} {g1 : AHeap} {v r1 : Value} {S : MB} {l : List (Nat → Int)} {R1 : Nat → Value} {u : Nat → Int} (ht : CosG B h v S l R1) (hB : h.floor ≤ B) (hf : h.next + 2 < far) (hBn : B ≤ h.next) (hx : New h g1 (coL (u 0) r1) 0) (hu : CouIn h v r1 S u) (o1 : oneCell r1 = true) (hl : l.length ≤ 5000) :
    ∃ v' g2, appendA 2 32 g1 v (.slice (some ⟨h.next, 0, none⟩) 1 1) = some (v', g2) ∧ CosG B g2 v' S (l ++ [u]) (fun k => if k = l.length then r1 else R1 k) ∧ oneCell v' = true ∧ g2.next = h.next + 2 ∧ g2.floor = h.floor ∧ (∀ i, i < h.next → NeB v i → g2.get i = h.get i) := by
  have hlen : (l ++ [u]).length = l.length + 1 := by simp
  have hg : GrowC B h v 2 l.length (cosC (l ++ [u]) (fun k => if k = l.length then r1 else R1 k)) := growC_congr ht.g fun k j hk hj => by
    have : ¬ k = l.length := by omega
    simp only [cosC, this, if_false]
    rw [List.getD_eq_getElem?_getD, List.getD_eq_getElem?_getD, List.getElem?_append_left hk]
  obtain ⟨g2, e, gv, n2, f2, o2', u2⟩ := grow_push3 (bytes := 32) hg hB hf hBn hx rfl (by simp [coL, allB, o1, one_int]) (fun j hj => by
    have hlast : ((l ++ [u]).getD l.length fun _ => 0) = u := by rw [List.getD_eq_getElem?_getD, List.getElem?_append_right (Nat.le_refl _)]; simp
    simp only [cosC, if_true, hlast]
    rcases j with _ | _ | j
    · rfl
    · rfl
    · omega) (by simp [maxBytes]; omega) (by simp [maxBytes]; omega)
  refine ⟨_, g2, e, ⟨by rw [hlen]; exact gv, fun k hk => ?_⟩, rfl, n2, f2, o2'⟩
  have fresh : ∀ i, i < h.next → NeB (.slice (some ⟨h.next + 1, 0, none⟩) (l.length + 1) unk) i := fun i hi b m c e => by cases e; show i ≠ h.next + 1; omega
  have re : ∀ {a : Value} {w : Nat → Int}, CouIn h v a S w → CouIn g2 (.slice (some ⟨h.next + 1, 0, none⟩) (l.length + 1) unk) a S w := fun {a w} hi => by
    have h1 := hi.old (g := g2) o2' (by omega)
    exact ⟨h1.cou, fun x m c e => ⟨(h1.b1 x m c e).1, fresh _ (hi.b1 x m c e).1⟩⟩
  by_cases c : k = l.length
  · subst c
    have hlast : ((l ++ [u]).getD l.length fun _ => 0) = u := by rw [List.getD_eq_getElem?_getD, List.getElem?_append_right (Nat.le_refl _)]; simp
    simp only [if_true, hlast]
    exact re hu
  · have hk' : k < l.length := by omega
    simp only [c, if_false]
    rw [List.getD_eq_getElem?_getD, List.getElem?_append_left hk', ← List.getD_eq_getElem?_getD]
    exact re (ht.t k hk')
def s67 : SCode := (.seq (.ops [⟨(some 1), none, .box (T 0)⟩, ⟨(some 2), none, .mov (.const (.slice none 0 0))⟩]) (.seq (.ops [⟨(some 3), none, .mov (.const (.slice none 0 0))⟩]) (.seq (.seq (.ops [⟨(some 4), none, .mov (.const (.int .i64 (0)))⟩]) (.block 0 (.loop (.seq (.seq (.ops [⟨(some 6), none, .mov (T 4)⟩, ⟨(some 7), none, .loadN 5 (T 1)⟩, ⟨(some 8), none, .call (.func 70) [(T 7)]⟩, ⟨(some 9), none, .int2 .lss (T 6) (T 8)⟩]) (.cond (T 9) .skip (.exit 0))) (.seq (.block 1 (.seq (.ops [⟨(some 12), none, .loadN 5 (T 1)⟩, ⟨(some 13), none, .mov (T 4)⟩, ⟨(some 14), none, .call (.func 69) [(T 12), (T 13)]⟩, ⟨(some 5), none, .alloc [(.int .i64 (0)), (.slice none 0 0)]⟩, ⟨none, none, .store 2 (T 5) (T 14)⟩]) (.seq (.draw [⟨.rd1, ⟨(some 15), none, .loadN 5 (T 1)⟩⟩, ⟨.rd1, ⟨(some 16), none, .loadN 2 (T 5)⟩⟩, ⟨.up, ⟨(some 17), none, .call (.func 85) [(T 15), (T 16)]⟩⟩, ⟨.rd, ⟨(some 18), none, .loadN 5 (T 1)⟩⟩, ⟨.any, ⟨(some 19), none, .call (.func 75) [(T 18)]⟩⟩, ⟨.free, ⟨(some 20), none, .int2 .eql (T 17) (T 19)⟩⟩]) (.cond (T 20) (.ops [⟨(some 21), none, .mov (T 3)⟩, ⟨(some 22), none, .loadN 2 (T 5)⟩, ⟨(some 23), none, .bslice 2 1 [(.int .i64 (0)), (.slice none 0 0)] [0] [(T 22)]⟩, ⟨(some 24), none, .append 2 32 (T 21) (T 23)⟩, ⟨(some 3), none, .mov (T 24)⟩]) .skip)))) (.ops [⟨(some 10), none, .mov (T 4)⟩, ⟨(some 11), none, .int2 .add (T 10) (.const (.int .i64 (1)))⟩, ⟨(some 4), none, .mov (T 11)⟩])))))) (.seq (.ops [⟨(some 25), none, .mov (T 3)⟩, ⟨(some 2), none, .mov (T 25)⟩]) .ret))))
end Go.Vm.Bt

namespace Go.Vm.Bt
open Go.Proofs Go.Vm.Vat Go.Vm.L2
set_option linter.unusedSimpArgs false
set_option linter.unusedVariables false
set_option maxRecDepth 10000
variable {n : Nat} {h : AHeap}
noncomputable def errF (S : MB) (fine : Bool) : Int := open Classical in if faultS S ≠ 0 then faultS S else if fine = false then 2 else if truthsS S = [] then 11 else 0
theorem errF_s {S : MB} : errF S true = errS S := by unfold errF errS; simp
end Go.Vm.Bt

namespace Go.Vm.Bt
open Go.Proofs Go.Vm.Vat Go.Vm.L2
set_option linter.unusedSimpArgs false
set_option linter.unusedVariables false
set_option maxRecDepth 10000
variable {n : Nat} {h : AHeap}
def s88 : SCode := (.seq (.ops [⟨(some 3), none, .box (T 0)⟩, ⟨(some 4), none, .mov (.const (.bool false))⟩]) (.seq (.ops [⟨(some 5), none, .loadN 6 (T 3)⟩, ⟨(some 6), none, .load1 (T 1)⟩, ⟨(some 7), none, .call (.func 89) [(T 5), (T 6)]⟩, ⟨(some 8), none, .mov (T 7)⟩, ⟨(some 9), (some (8, true)), .loadN 6 (T 3)⟩, ⟨(some 10), (some (8, true)), .load1 (T 2)⟩, ⟨(some 11), (some (8, true)), .call (.func 90) [(T 9), (T 10)]⟩, ⟨(some 12), none, .pick (T 8) (T 11) (.const (.bool false))⟩, ⟨(some 4), none, .mov (T 12)⟩]) .ret))
theorem fok88 : FnOk Try.prog 88 13 s88 [.tmp 4] := ⟨Try.f88, _, Try.func88, rfl, Try.ntmps88, by kernel_rfl, by kernel_rfl⟩
theorem done1_c (hn : 120 ≤ n) (hr : h.next + 110 < far) {vv sv : Value} {S : MB} {a b : Int} {p q : Nat} (hy : BeatR h vv sv S) (hp : Row h p [.int .i64 a]) (hq : Row h q [.int .i64 b]) :
    call n (.func (.func 88) ⟨[]⟩ ⟨[.pointer (some ⟨p, 0, none⟩), .pointer (some ⟨q, 0, none⟩)]⟩) [.agg ⟨wkL S vv sv nilS⟩] h = some (.bool (decide ((0 ≤ a ∧ a ≤ (S.nv : Int) - 1) ∧ 0 ≤ b ∧ b ≤ S.last)), h) := by
  obtain ⟨n, rfl⟩ : ∃ p, n = p + 1 := ⟨n - 1, by omega⟩
  refine call_plain (xs := []) (ys := [.pointer (some ⟨p, 0, none⟩), .pointer (some ⟨q, 0, none⟩)]) fok88 rfl rfl (by simp) rfl ?_
  have hy := hy.shut
  have hp : Row h.shutAll p [.int .i64 a] := hp.mono fun _ _ _ _ _ h => h
  have hq : Row h.shutAll q [.int .i64 b] := hq.mono fun _ _ _ _ _ h => h
  have hr : h.shutAll.next + 110 < far := hr
  generalize h.shutAll = h at hy hp hq hr
  simp only [s88, List.cons_append, List.nil_append, W_seq, W_ops]
  refine ops_box (cs := wkL S vv sv nilS) (by omega) rfl (wk_one hy rfl) fun g1 hx1 => ?_
  have n1 := hx1.next
  have hy1 := hy.mono hx1.sub
  have e1 := hasVat_c (n := n) (h := g1) (tv := nilS) (by omega) (by omega) hy1 rfl a
  have e2 := hasHour_c (n := n) (h := g1) (by omega) (by omega) (wk_one (tv := nilS) hy1 rfl) b
  by_cases c1 : 0 ≤ a ∧ a ≤ (S.nv : Int) - 1
  · have hd : decide ((0 ≤ a ∧ a ≤ (S.nv : Int) - 1) ∧ 0 ≤ b ∧ b ≤ S.last) = decide (0 ≤ b ∧ b ≤ S.last) := decide_eq_decide.2 ⟨fun h => h.2, fun h => ⟨c1, h⟩⟩
    rw [hd]
    rw [decide_eq_true c1] at e1
    simp only [rn0, rn1, rn2, rn3, rn4, rn5, rn6, rn7, rn8, if_true, if_false, Nat.le_refl, true_and, and_true, decide_true, decide_false, Bool.not_true, Bool.not_false, reduceIte, Nat.reduceEqDiff, Nat.reduceAdd, Nat.reduceMul, Nat.reduceSub, Nat.reduceLeDiff, Nat.reduceLT, hx1.row.whole (n := 6) rfl, (hp.mono hx1.sub).ld, (hq.mono hx1.sub).ld, Nat.zero_add, List.getElem?_cons_zero, e1, e2]
  · have hd : decide ((0 ≤ a ∧ a ≤ (S.nv : Int) - 1) ∧ 0 ≤ b ∧ b ≤ S.last) = false := decide_eq_false fun h => c1 h.1
    rw [hd]
    rw [decide_eq_false c1] at e1
    simp only [rn0, rn1, rn2, rn3, rn4, rn5, rn6, rn7, rn8, if_true, if_false, Nat.le_refl, true_and, and_true, decide_true, decide_false, Bool.not_true, Bool.not_false, reduceIte, Nat.reduceEqDiff, Nat.reduceAdd, Nat.reduceMul, Nat.reduceSub, Nat.reduceLeDiff, Nat.reduceLT, hx1.row.whole (n := 6) rfl, (hp.mono hx1.sub).ld, (hq.mono hx1.sub).ld, Nat.zero_add, List.getElem?_cons_zero, e1, e2, g_un]
end Go.Vm.Bt

namespace Go.Vm.Bt
open Go.Proofs Go.Vm.Vat Go.Vm.L2
set_option linter.unusedSimpArgs false
set_option linter.unusedVariables false
set_option maxRecDepth 10000
variable {n : Nat} {h : AHeap}
def MomOk (S : MB) (a b : Int) : Prop := (0 ≤ a ∧ a ≤ (S.nv : Int) - 1) ∧ 0 ≤ b ∧ b ≤ S.last
instance (S : MB) (a b : Int) : Decidable (MomOk S a b) := inferInstanceAs (Decidable (_ ∧ _))
theorem vmK_all {S : MB} {a b : Int} (ho : MomOk S a b) : vmK S S.nv 0 (a, b) = verdV S a.toNat b := by
  unfold vmK
  obtain ⟨⟨h1, h2⟩, h3, h4⟩ := ho
  rw [if_pos ⟨h1, h3, .inl ⟨by simp only; omega, h4⟩⟩]
def s37 : SCode := (.seq (.ops [⟨(some 3), none, .box (T 0)⟩, ⟨(some 4), none, .box (T 1)⟩, ⟨(some 5), none, .box (T 2)⟩, ⟨(some 6), none, .mov (.const (.int .i64 (0)))⟩, ⟨(some 7), none, .mov (.const (.int .i64 (0)))⟩]) (.seq (.ops [⟨(some 11), none, .loadN 5 (T 3)⟩, ⟨(some 12), none, .mkfunc 88 [] [(T 4), (T 5)]⟩, ⟨(some 13), none, .bslice 1 1 [.nilFunc] [0] [(T 12)]⟩, ⟨(some 14), none, .call (.func 86) [(T 11), (T 13)]⟩, ⟨(some 10), none, .mov (T 14)⟩, ⟨(some 15), none, .extract 0 (T 10)⟩, ⟨(some 16), none, .extract 1 (T 10)⟩, ⟨(some 8), none, .alloc [(.int .i64 (0)), (.int .i64 (0)), (.slice none 0 0), (.int .i64 (0)), (.slice none 0 0), (.slice none 0 0)]⟩, ⟨none, none, .store 6 (T 8) (T 15)⟩, ⟨(some 9), none, .mov (T 16)⟩]) (.seq (.seq (.ops [⟨(some 17), none, .mov (T 9)⟩, ⟨(some 18), none, .int2 .neq (T 17) (.const (.int .i64 (0)))⟩]) (.cond (T 18) (.seq (.ops [⟨(some 19), none, .mov (T 9)⟩, ⟨(some 6), none, .mov (.const (.int .i64 (0)))⟩, ⟨(some 7), none, .mov (T 19)⟩]) .ret) .skip)) (.seq (.draw [⟨.rd1, ⟨(some 20), none, .loadN 6 (T 8)⟩⟩, ⟨.up, ⟨(some 21), none, .call (.func 91) [(T 20)]⟩⟩, ⟨.rd, ⟨(some 22), none, .load1 (T 4)⟩⟩, ⟨.rd, ⟨(some 23), none, .load1 (T 5)⟩⟩, ⟨.free, ⟨(some 24), none, .build #[(0, 1), (1, 1)] [(.int .i64 (0)), (.int .i64 (0))] [0, 1] [(T 22), (T 23)]⟩⟩, ⟨.qe, ⟨(some 25), none, .lookup 139 (.int .i64 (0)) false (T 21) (T 24)⟩⟩, ⟨.free, ⟨(some 6), none, .mov (T 25)⟩⟩, ⟨.free, ⟨(some 7), none, .mov (.const (.int .i64 (0)))⟩⟩]) .ret))))
theorem fok37 : FnOk Try.prog 37 26 s37 [.tmp 6, .tmp 7] := ⟨Try.f37, _, Try.func37, rfl, Try.ntmps37, by kernel_rfl, by kernel_rfl⟩
set_option maxHeartbeats 1000000 in
theorem doneV_c (hn : 1000 ≤ n) (hr : h.next + 60000 < far) {vv sv : Value} {S : MB} (hy : BeatR h vv sv S) (hTh : ThinS S) (a b : Int) :
    call n (.func (.func 37) #[] #[]) [.agg ⟨beL S vv sv⟩, .int .i64 a, .int .i64 b] h = some (.tuple ⟨[.int .i64 (if errF S (decide (MomOk S a b)) = 0 then verdV S a.toNat b else 0), .int .i64 (errF S (decide (MomOk S a b)))]⟩, h) := by
  obtain ⟨n, rfl⟩ : ∃ p, n = p + 1 := ⟨n - 1, by omega⟩
  refine call_plain0 fok37 rfl rfl (by simp) rfl ?_
  have hy := hy.shut
  have hr : h.shutAll.next + 60000 < far := hr
  have hfl : h.shutAll.floor ≤ h.shutAll.next := Nat.le_refl _
  generalize h.shutAll = h at hy hr hfl
  simp only [s37, W_seq, W_ops]
  refine ops_box (cs := beL S vv sv) (by omega) rfl hy.one fun g1 hx1 => ?_
  have n1 := hx1.next
  have f1 := hx1.floor
  refine ops_box (cs := [.int .i64 a]) (by omega) rfl rfl fun g2 hx2 => ?_
  have n2 := hx2.next
  have f2 := hx2.floor
  refine ops_box (cs := [.int .i64 b]) (by omega) rfl rfl fun g3 hx3 => ?_
  have n3 := hx3.next
  have f3 := hx3.floor
  have sub3 : Sub All h g3 := hx1.sub.trans (hx2.sub.trans hx3.sub)
  have w3 := ((hx1.row.mono hx2.sub).mono hx3.sub).whole (n := 5) rfl
  simp only [rn0, rn1, rn2, rn3, rn4, rn5, rn6, rn7, rn8, if_true, if_false, Nat.le_refl, true_and, and_true, decide_true, decide_false, Bool.not_true, Bool.not_false, reduceIte, Nat.reduceEqDiff, Nat.reduceAdd, Nat.reduceMul, Nat.reduceSub, Nat.reduceLeDiff, Nat.reduceLT, w3, sl_fn (show oneCell (.func (.func 88) ⟨[]⟩ ⟨[.pointer (some ⟨g1.next, 0, none⟩), .pointer (some ⟨g2.next, 0, none⟩)]⟩) = true from rfl)]
  refine step_slice (by omega) rfl fun g4 hx4 => ?_
  have n4 := hx4.next
  have f4 := hx4.floor
  have sub4 := sub3.trans hx4.sub
  have hcs : Cells g4 (.slice (some ⟨g3.next, 0, none⟩) 1 1) 1 1 (fun _ _ => .func (.func 88) ⟨[]⟩ ⟨[.pointer (some ⟨g1.next, 0, none⟩), .pointer (some ⟨g2.next, 0, none⟩)]⟩) := ⟨_, _, rfl, fun x e => by cases e; rfl, .inr ⟨_, 0, _, _, _, rfl, hx4.get, fun i j hi hj => by
    obtain rfl : i = 0 := by omega
    obtain rfl : j = 0 := by omega
    rfl⟩⟩
  have hra : Row g4 g1.next [.int .i64 a] := (hx2.row.mono hx3.sub).mono hx4.sub
  have hrb : Row g4 g2.next [.int .i64 b] := hx3.row.mono hx4.sub
  have hy4 := hy.mono sub4
  obtain ⟨v, g5, eo, old5, u5, m5, f5, ho⟩ := open_c (n := n) (h := g4) (by omega) (by omega) (by omega) hy4 hTh (P := MomOk S a b) (cv := .slice (some ⟨g3.next, 0, none⟩) 1 1) fun hG =>
    ⟨1, _, fun _ => MomOk S a b, by omega, hcs, ⟨fun e _ _ => e, fun e => e 0 (by omega)⟩, fun i hi => ⟨decide (MomOk S a b), decide_eq_true_iff, fun n' hn' g hs hg => done1_c (by omega) (by omega) (hy4.mono hs) (hra.mono hs) (hrb.mono hs)⟩⟩
  rcases ho with ⟨hf, rfl⟩ | ⟨hf, hp, rfl⟩ | ⟨hf, hp, ht, rfl⟩ | ⟨hf, hp, ht, tv, rfl, hone, hd, hfr, hlong⟩
  · have he : errF S (decide (MomOk S a b)) = faultS S := by unfold errF; rw [if_pos hf]
    rw [he, if_neg hf]
    simp only [rn0, rn1, rn2, rn3, rn4, rn5, rn6, rn7, rn8, if_true, if_false, Nat.le_refl, true_and, and_true, decide_true, decide_false, Bool.not_true, Bool.not_false, reduceIte, Nat.reduceEqDiff, Nat.reduceAdd, Nat.reduceMul, Nat.reduceSub, Nat.reduceLeDiff, Nat.reduceLT, eo, ex0, ex1]
    refine step_new (vs := wkZ) (by omega) (by omega) rfl (by simp only [rn0, rn1, rn2, rn3, rn4, rn5, rn6, rn7, rn8, if_true, if_false, Nat.le_refl, true_and, and_true, decide_true, decide_false, Bool.not_true, Bool.not_false, reduceIte, Nat.reduceEqDiff, Nat.reduceAdd, Nat.reduceMul, Nat.reduceSub, Nat.reduceLeDiff, Nat.reduceLT]; rfl) rfl rfl rfl fun g6 hx6 => ?_
    simp only [rn0, rn1, rn2, rn3, rn4, rn5, rn6, rn7, rn8, if_true, if_false, Nat.le_refl, true_and, and_true, decide_true, decide_false, Bool.not_true, Bool.not_false, reduceIte, Nat.reduceEqDiff, Nat.reduceAdd, Nat.reduceMul, Nat.reduceSub, Nat.reduceLeDiff, Nat.reduceLT, hf, ret_tt]
  · have he : errF S (decide (MomOk S a b)) = 2 := by unfold errF; rw [if_neg (by simpa using hf), if_pos (decide_eq_false hp)]
    rw [he, if_neg (by decide)]
    simp only [rn0, rn1, rn2, rn3, rn4, rn5, rn6, rn7, rn8, if_true, if_false, Nat.le_refl, true_and, and_true, decide_true, decide_false, Bool.not_true, Bool.not_false, reduceIte, Nat.reduceEqDiff, Nat.reduceAdd, Nat.reduceMul, Nat.reduceSub, Nat.reduceLeDiff, Nat.reduceLT, eo, ex0, ex1]
    refine step_new (vs := wkZ) (by omega) (by omega) rfl (by simp only [rn0, rn1, rn2, rn3, rn4, rn5, rn6, rn7, rn8, if_true, if_false, Nat.le_refl, true_and, and_true, decide_true, decide_false, Bool.not_true, Bool.not_false, reduceIte, Nat.reduceEqDiff, Nat.reduceAdd, Nat.reduceMul, Nat.reduceSub, Nat.reduceLeDiff, Nat.reduceLT]; rfl) rfl rfl rfl fun g6 hx6 => ?_
    simp only [rn0, rn1, rn2, rn3, rn4, rn5, rn6, rn7, rn8, if_true, if_false, Nat.le_refl, true_and, and_true, decide_true, decide_false, Bool.not_true, Bool.not_false, reduceIte, Nat.reduceEqDiff, Nat.reduceAdd, Nat.reduceMul, Nat.reduceSub, Nat.reduceLeDiff, Nat.reduceLT, Int.reduceEq, ret_tt]
  · have he : errF S (decide (MomOk S a b)) = 11 := by unfold errF; rw [if_neg (by simpa using hf), if_neg (by rw [decide_eq_true hp]; decide), if_pos ht]
    rw [he, if_neg (by decide)]
    simp only [rn0, rn1, rn2, rn3, rn4, rn5, rn6, rn7, rn8, if_true, if_false, Nat.le_refl, true_and, and_true, decide_true, decide_false, Bool.not_true, Bool.not_false, reduceIte, Nat.reduceEqDiff, Nat.reduceAdd, Nat.reduceMul, Nat.reduceSub, Nat.reduceLeDiff, Nat.reduceLT, eo, ex0, ex1]
    refine step_new (vs := wkZ) (by omega) (by omega) rfl (by simp only [rn0, rn1, rn2, rn3, rn4, rn5, rn6, rn7, rn8, if_true, if_false, Nat.le_refl, true_and, and_true, decide_true, decide_false, Bool.not_true, Bool.not_false, reduceIte, Nat.reduceEqDiff, Nat.reduceAdd, Nat.reduceMul, Nat.reduceSub, Nat.reduceLeDiff, Nat.reduceLT]; rfl) rfl rfl rfl fun g6 hx6 => ?_
    simp only [rn0, rn1, rn2, rn3, rn4, rn5, rn6, rn7, rn8, if_true, if_false, Nat.le_refl, true_and, and_true, decide_true, decide_false, Bool.not_true, Bool.not_false, reduceIte, Nat.reduceEqDiff, Nat.reduceAdd, Nat.reduceMul, Nat.reduceSub, Nat.reduceLeDiff, Nat.reduceLT, Int.reduceEq, ret_tt]
  have hG := good_of hf
  have he : errF S (decide (MomOk S a b)) = 0 := by unfold errF; rw [if_neg (by simpa using hf), if_neg (by rw [decide_eq_true hp]; decide), if_neg ht]
  rw [he, if_pos rfl]
  have sub5 : Sub All g4 g5 := AHeap.subOf old5
  have hy5 := hy4.mono sub5
  simp only [rn0, rn1, rn2, rn3, rn4, rn5, rn6, rn7, rn8, if_true, if_false, Nat.le_refl, true_and, and_true, decide_true, decide_false, Bool.not_true, Bool.not_false, reduceIte, Nat.reduceEqDiff, Nat.reduceAdd, Nat.reduceMul, Nat.reduceSub, Nat.reduceLeDiff, Nat.reduceLT, eo, ex0, ex1]
  refine step_new (vs := wkL S vv sv tv) (by omega) (by omega) rfl (by simp only [rn0, rn1, rn2, rn3, rn4, rn5, rn6, rn7, rn8, if_true, if_false, Nat.le_refl, true_and, and_true, decide_true, decide_false, Bool.not_true, Bool.not_false, reduceIte, Nat.reduceEqDiff, Nat.reduceAdd, Nat.reduceMul, Nat.reduceSub, Nat.reduceLeDiff, Nat.reduceLT]; rfl) (wk_one hy5 hone) rfl rfl fun g6 hx6 => ?_
  have n6 := hx6.next
  have f6 := hx6.floor
  have hop : OpS g6 vv sv tv S := ⟨hG, ht, hy5.mono hx6.sub, hone, Cells.mono hd hx6.sub, hlong⟩
  obtain ⟨r, g7, e7, hm7, hr7, old7, u7, m7, f7⟩ := verdicts_c (n := n) (h := g6) (by omega) (by omega) (by omega) hop
  have s67 : Sub All g6 g7 := AHeap.subOf old7
  have ra6 := (hra.mono sub5).mono hx6.sub
  have rb6 := (hrb.mono sub5).mono hx6.sub
  have el := lookupF key139 hm7.shut (a, b)
  have el : lookupA Try.prog 139 (.int .i64 0) false g7.shutAll (.map (some r)) (.agg ⟨[.int .i64 a, .int .i64 b]⟩) = some (.int .i64 (vmK S S.nv 0 (a, b)), g7.shutAll) := el
  rw [vmK_all hp] at el
  simp only [rn0, rn1, rn2, rn3, rn4, rn5, rn6, rn7, rn8, if_true, if_false, Nat.le_refl, true_and, and_true, decide_true, decide_false, Bool.not_true, Bool.not_false, reduceIte, Nat.reduceEqDiff, Nat.reduceAdd, Nat.reduceMul, Nat.reduceSub, Nat.reduceLeDiff, Nat.reduceLT]
  refine W_draw All ?_
  simp only [rn0, rn1, rn2, rn3, rn4, rn5, rn6, rn7, rn8, if_true, if_false, Nat.le_refl, true_and, and_true, decide_true, decide_false, Bool.not_true, Bool.not_false, reduceIte, Nat.reduceEqDiff, Nat.reduceAdd, Nat.reduceMul, Nat.reduceSub, Nat.reduceLeDiff, Nat.reduceLT, hx6.row.whole (n := 6) rfl, e7, u7, s67, ra6.ld, rb6.ld, Nat.zero_add, List.getElem?_cons_zero, eqV_int, build_range, d_qe, x_lookup, el, ret_tt]
end Go.Vm.Bt

namespace Go.Vm.Bt
open Go.Proofs Go.Vm.Vat Go.Vm.L2
set_option linter.unusedSimpArgs false
set_option linter.unusedVariables false
set_option maxRecDepth 10000
variable {n : Nat} {h : AHeap}
theorem err_elO {S : MB} (hG : Good S) (he : errS S ≠ 0) : errS S = 11 := by
  unfold errS at he ⊢
  rw [fault_of hG] at he ⊢
  by_cases c : truthsS S = []
  · simp [c]
  · exact absurd (by simp [c]) he
theorem verd_in {S : MB} {v : Nat} {x : Int} : 1 ≤ verdV S v x ∧ verdV S v x ≤ 3 := by
  unfold verdV
  split
  · omega
  · split <;> omega
theorem verd_one {S : MB} {v : Nat} {x : Int} : verdV S v x = 1 ↔ bHi S v ≤ x := by
  unfold verdV
  split
  · simp [*]
  · split <;> simp [*]
theorem verd_two {S : MB} {v : Nat} {x : Int} (hb : bLo S v ≤ bHi S v) : verdV S v x = 2 ↔ x < bLo S v := by
  unfold verdV
  split
  · simp; omega
  · split <;> simp [*]
theorem bnd_le {S : MB} (hT : truthsS S ≠ []) {v : Nat} : bLo S v ≤ bHi S v := by
  obtain ⟨t, ht⟩ := List.exists_mem_of_ne_nil _ hT
  exact Int.le_trans ((le_loN hT).1 (Int.le_refl _) t ht) ((hiN_le hT).1 (Int.le_refl _) t ht)
def s12 : SCode := (.seq (.ops [⟨(some 2), none, .box (T 0)⟩, ⟨(some 4), none, .mov (.const (.bool false))⟩]) (.seq (.seq (.ops [⟨(some 12), none, .loadN 5 (T 2)⟩, ⟨(some 13), none, .call (.func 63) [(T 12)]⟩, ⟨(some 14), none, .not (T 13)⟩, ⟨(some 15), none, .mov (T 14)⟩, ⟨(some 16), (some (15, false)), .fieldAddr 2 (T 2)⟩, ⟨(some 17), (some (15, false)), .load1 (T 16)⟩, ⟨(some 18), (some (15, false)), .len (T 17)⟩, ⟨(some 19), (some (15, false)), .int2 .eql (T 18) (.const (.int .i64 (0)))⟩, ⟨(some 20), none, .pick (T 15) (.const (.bool true)) (T 19)⟩]) (.cond (T 20) (.seq (.ops [⟨(some 21), none, .call (.func 24) []⟩, ⟨(some 4), none, .mov (T 21)⟩]) .ret) .skip)) (.seq (.ops [⟨(some 22), none, .mov (T 1)⟩, ⟨(some 23), none, .plain (.convert 5 3 (T 22)) 3⟩, ⟨(some 24), none, .fieldAddr 2 (T 2)⟩, ⟨(some 25), none, .load1 (T 24)⟩, ⟨(some 26), none, .len (T 25)⟩, ⟨(some 27), none, .plain (.binOp .rem 3 (T 23) (T 26) 3) 3⟩, ⟨(some 5), none, .mov (T 27)⟩]) (.seq (.ops [⟨(some 29), none, .loadN 5 (T 2)⟩, ⟨(some 30), none, .call (.func 26) [(T 29)]⟩, ⟨(some 31), none, .call (.func 36) [(T 30)]⟩, ⟨(some 28), none, .mov (T 31)⟩, ⟨(some 32), none, .extract 0 (T 28)⟩, ⟨(some 33), none, .extract 1 (T 28)⟩, ⟨(some 6), none, .mov (T 32)⟩, ⟨(some 7), none, .mov (T 33)⟩]) (.seq (.ops [⟨(some 8), none, .mov (.const (.int .i64 (2)))⟩]) (.seq (.seq (.ops [⟨(some 9), none, .mov (.const (.int .i64 (0)))⟩]) (.block 0 (.loop (.seq (.seq (.ops [⟨(some 34), none, .mov (T 9)⟩, ⟨(some 35), none, .fieldAddr 3 (T 2)⟩, ⟨(some 36), none, .load1 (T 35)⟩, ⟨(some 37), none, .int2 .leq (T 34) (T 36)⟩]) (.cond (T 37) .skip (.exit 0))) (.seq (.block 1 (.seq (.ops [⟨(some 41), none, .loadN 5 (T 2)⟩, ⟨(some 42), none, .call (.func 26) [(T 41)]⟩, ⟨(some 43), none, .mov (T 5)⟩, ⟨(some 44), none, .mov (T 9)⟩, ⟨(some 45), none, .call (.func 37) [(T 42), (T 43), (T 44)]⟩, ⟨(some 40), none, .mov (T 45)⟩, ⟨(some 46), none, .extract 0 (T 40)⟩, ⟨(some 47), none, .extract 1 (T 40)⟩, ⟨(some 10), none, .mov (T 46)⟩, ⟨(some 11), none, .mov (T 47)⟩]) (.seq (.seq (.ops [⟨(some 48), none, .mov (T 7)⟩, ⟨(some 49), none, .int2 .neq (T 48) (.const (.int .i64 (0)))⟩]) (.cond (T 49) (.seq (.seq (.ops [⟨(some 50), none, .mov (T 7)⟩, ⟨(some 51), none, .int2 .neq (T 50) (.const (.int .i64 (11)))⟩, ⟨(some 52), none, .mov (T 51)⟩, ⟨(some 53), (some (52, false)), .mov (T 11)⟩, ⟨(some 54), (some (52, false)), .mov (T 7)⟩, ⟨(some 55), (some (52, false)), .int2 .neq (T 53) (T 54)⟩, ⟨(some 56), none, .pick (T 52) (.const (.bool true)) (T 55)⟩]) (.cond (T 56) (.seq (.ops [⟨(some 4), none, .mov (.const (.bool false))⟩]) .ret) .skip)) (.exit 1)) .skip)) (.seq (.seq (.ops [⟨(some 57), none, .mov (T 11)⟩, ⟨(some 58), none, .int2 .neq (T 57) (.const (.int .i64 (0)))⟩, ⟨(some 59), none, .mov (T 58)⟩, ⟨(some 60), (some (59, false)), .mov (T 6)⟩, ⟨(some 61), (some (59, false)), .len (T 60)⟩, ⟨(some 62), (some (59, false)), .fieldAddr 2 (T 2)⟩, ⟨(some 63), (some (59, false)), .load1 (T 62)⟩, ⟨(some 64), (some (59, false)), .len (T 63)⟩, ⟨(some 65), (some (59, false)), .int2 .neq (T 61) (T 64)⟩, ⟨(some 66), none, .pick (T 59) (.const (.bool true)) (T 65)⟩, ⟨(some 67), none, .mov (T 66)⟩, ⟨(some 68), (some (67, false)), .mov (T 10)⟩, ⟨(some 69), (some (67, false)), .call (.func 39) [(T 68), (.const (.int .i64 (1))), (.const (.int .i64 (3)))]⟩, ⟨(some 70), (some (67, false)), .not (T 69)⟩, ⟨(some 71), none, .pick (T 67) (.const (.bool true)) (T 70)⟩, ⟨(some 72), none, .mov (T 71)⟩, ⟨(some 73), (some (72, false)), .mov (T 8)⟩, ⟨(some 74), (some (72, false)), .int2 .eql (T 73) (.const (.int .i64 (1)))⟩, ⟨(some 75), (some (72, false)), .mov (T 74)⟩, ⟨(some 76), (some (75, true)), .mov (T 10)⟩, ⟨(some 77), (some (75, true)), .mov (T 8)⟩, ⟨(some 78), (some (75, true)), .int2 .neq (T 76) (T 77)⟩, ⟨(some 79), (some (72, false)), .pick (T 75) (T 78) (.const (.bool false))⟩, ⟨(some 80), none, .pick (T 72) (.const (.bool true)) (T 79)⟩, ⟨(some 81), none, .mov (T 80)⟩, ⟨(some 82), (some (81, false)), .mov (T 8)⟩, ⟨(some 83), (some (81, false)), .int2 .neq (T 82) (.const (.int .i64 (2)))⟩, ⟨(some 84), (some (81, false)), .mov (T 83)⟩, ⟨(some 85), (some (84, true)), .mov (T 10)⟩, ⟨(some 86), (some (84, true)), .int2 .eql (T 85) (.const (.int .i64 (2)))⟩, ⟨(some 87), (some (81, false)), .pick (T 84) (T 86) (.const (.bool false))⟩, ⟨(some 88), none, .pick (T 81) (.const (.bool true)) (T 87)⟩, ⟨(some 89), none, .mov (T 88)⟩, ⟨(some 90), (some (89, false)), .mov (T 10)⟩, ⟨(some 91), (some (89, false)), .int2 .eql (T 90) (.const (.int .i64 (1)))⟩, ⟨(some 92), (some (89, false)), .mov (T 9)⟩, ⟨(some 93), (some (89, false)), .mov (T 6)⟩, ⟨(some 94), (some (89, false)), .mov (T 5)⟩, ⟨(some 95), (some (89, false)), .idxSl 2 (T 93) (T 94)⟩, ⟨(some 96), (some (89, false)), .fieldAddr 1 (T 95)⟩, ⟨(some 97), (some (89, false)), .load1 (T 96)⟩, ⟨(some 98), (some (89, false)), .int2 .geq (T 92) (T 97)⟩, ⟨(some 99), (some (89, false)), .bin .neq (.binOp .neq 4 (T 91) (T 98) 4) 4 (T 91) (T 98)⟩, ⟨(some 100), none, .pick (T 89) (.const (.bool true)) (T 99)⟩, ⟨(some 101), none, .mov (T 100)⟩, ⟨(some 102), (some (101, false)), .mov (T 10)⟩, ⟨(some 103), (some (101, false)), .int2 .eql (T 102) (.const (.int .i64 (2)))⟩, ⟨(some 104), (some (101, false)), .mov (T 9)⟩, ⟨(some 105), (some (101, false)), .mov (T 6)⟩, ⟨(some 106), (some (101, false)), .mov (T 5)⟩, ⟨(some 107), (some (101, false)), .idxSl 2 (T 105) (T 106)⟩, ⟨(some 108), (some (101, false)), .fieldAddr 0 (T 107)⟩, ⟨(some 109), (some (101, false)), .load1 (T 108)⟩, ⟨(some 110), (some (101, false)), .int2 .lss (T 104) (T 109)⟩, ⟨(some 111), (some (101, false)), .bin .neq (.binOp .neq 4 (T 103) (T 110) 4) 4 (T 103) (T 110)⟩, ⟨(some 112), none, .pick (T 101) (.const (.bool true)) (T 111)⟩]) (.cond (T 112) (.seq (.ops [⟨(some 4), none, .mov (.const (.bool false))⟩]) .ret) .skip)) (.ops [⟨(some 113), none, .mov (T 10)⟩, ⟨(some 8), none, .mov (T 113)⟩]))))) (.ops [⟨(some 38), none, .mov (T 9)⟩, ⟨(some 39), none, .int2 .add (T 38) (.const (.int .i64 (1)))⟩, ⟨(some 9), none, .mov (T 39)⟩])))))) (.seq (.ops [⟨(some 114), none, .call (.func 24) []⟩, ⟨(some 4), none, .mov (T 114)⟩]) .ret)))))))
theorem fok12 : FnOk Try.prog 12 115 s12 [.tmp 4] := ⟨Try.f12, _, Try.func12, rfl, Try.ntmps12, by kernel_rfl, by kernel_rfl⟩
set_option maxHeartbeats 2000000 in
theorem onwardL_c (hn : 1500 ≤ n) (hr : h.next + 400000 < far) (hfl : h.floor ≤ h.next) {vv sv : Value} {S : MB} (hy : BeatR h vv sv S) (a1 : Int) (wf1 : (Lit.int .u8 a1).wf = true) :
    ∃ v h', call n (.func (.func 12) #[] #[]) [.agg ⟨beL S vv sv⟩, .int .u8 a1] h = some (v, h') ∧ v = .bool true := by
  obtain ⟨n, rfl⟩ : ∃ p, n = p + 1 := ⟨n - 1, by omega⟩
  obtain ⟨w1, rfl, hw1⟩ := wf8 wf1
  refine call_any0 fok12 rfl rfl (by simp) ?_
  simp only [s12, W_seq, W_ops]
  refine ops_box (cs := beL S vv sv) (by omega) rfl hy.one fun g1 hx1 => ?_
  have n1 := hx1.next
  have f1 := hx1.floor
  have hy1 := hy.mono hx1.sub
  have r1 := hx1.row
  have er := ready_c (n := n) (h := g1) (by omega) (by omega) hy1
  have haw := awake_c (n := n) (h := g1) (by omega)
  by_cases hTf : Rdy S
  case neg => simp only [rn0, rn1, rn2, rn3, rn4, rn5, rn6, rn7, rn8, if_true, if_false, Nat.le_refl, true_and, and_true, decide_true, decide_false, Bool.not_true, Bool.not_false, reduceIte, Nat.reduceEqDiff, Nat.reduceAdd, Nat.reduceMul, Nat.reduceSub, Nat.reduceLeDiff, Nat.reduceLT, r1.whole (n := 5) rfl, er, hTf, g_un, haw]
  have hdt : decide (Rdy S) = true := decide_eq_true hTf
  obtain ⟨hT, hf⟩ := hTf
  have hG := good_of hf
  obtain ⟨z0, z1, z3, _⟩ := hG.sizes
  by_cases hz : S.nv = 0
  · have hz' : (S.nv : Int) = 0 := by omega
    simp only [rn0, rn1, rn2, rn3, rn4, rn5, rn6, rn7, rn8, if_true, if_false, Nat.le_refl, true_and, and_true, decide_true, decide_false, Bool.not_true, Bool.not_false, reduceIte, Nat.reduceEqDiff, Nat.reduceAdd, Nat.reduceMul, Nat.reduceSub, Nat.reduceLeDiff, Nat.reduceLT, r1.whole (n := 5) rfl, er, hdt, r1.ld, beg, Nat.zero_add, Cells.len hy1.v, hz', haw]
  have hz' : ¬ (S.nv : Int) = 0 := by omega
  obtain ⟨o, ho⟩ : ∃ o : Nat, o = w1 % S.nv := ⟨_, rfl⟩
  have hov : o < S.nv := by rw [ho]; exact Nat.mod_lt _ (by omega)
  have ho' : (w1 : Int).tmod (S.nv : Int) = (o : Int) := by rw [ho]; rfl
  obtain ⟨va, sa, g2, e2, hy2, old2, u2, m2, f2⟩ := beatL_c (n := n) (h := g1) (by omega) (by omega) (by omega) hy1 hT
  obtain ⟨r3, g3, e3, b3, o3, old3, u3, m3, f3⟩ := boundsV_c (n := n) (h := g2) (by omega) (by omega) (by omega) hy2 hT
  have old13 : ∀ i, i < g1.next → g3.get i = g1.get i := fun i hi => by rw [old3 i (by omega), old2 i hi]
  obtain ⟨W, hW⟩ : ∃ W : Nat, (W : Int) = S.last + 1 := ⟨(S.last + 1).toNat, by omega⟩
  simp only [rn0, rn1, rn2, rn3, rn4, rn5, rn6, rn7, rn8, if_true, if_false, Nat.le_refl, true_and, and_true, decide_true, decide_false, Bool.not_true, Bool.not_false, reduceIte, Nat.reduceEqDiff, Nat.reduceAdd, Nat.reduceMul, Nat.reduceSub, Nat.reduceLeDiff, Nat.reduceLT, r1.whole (n := 5) rfl, er, hdt, r1.ld, beg, Nat.zero_add, Cells.len hy1.v, hz', p_conv8, r_8 hw1, valN_tmp, valN_const, Nat.reduceLT, p_rem, r_rem hz', ho', e2, e3, ex0, ex1]
  refine W_loop W (fun k f g ms => ((∀ i, i < g3.next → g.get i = g3.get i) ∧ g3.next ≤ g.next ∧ g.next ≤ g3.next + 400 * k ∧ g.floor = g3.floor) ∧ ms = [] ∧ f 2 = .pointer (some ⟨h.next, 0, none⟩) ∧ f 5 = .int .i64 (o : Int) ∧ f 6 = r3 ∧ f 7 = .int .i64 (errS S) ∧ f 8 = .int .i64 (if k = 0 ∨ errS S ≠ 0 then 2 else verdV S o ((k : Int) - 1)) ∧ f 9 = .int .i64 (k : Int)) (by simp; omega) ?_ ?_ ?_
  · simp only [rn0, rn1, rn2, rn3, rn4, rn5, rn6, rn7, rn8, if_true, if_false, Nat.le_refl, true_and, and_true, decide_true, decide_false, Bool.not_true, Bool.not_false, reduceIte, Nat.reduceEqDiff, Nat.reduceAdd, Nat.reduceMul, Nat.reduceSub, Nat.reduceLeDiff, Nat.reduceLT, Int.natCast_zero, true_or]
    first | exact ⟨fun _ _ => trivial, by omega⟩ | exact fun _ _ => trivial | exact ⟨⟨fun _ _ => trivial, by omega⟩, rfl⟩
  · rintro k f g ms hk ⟨⟨hold, hup, hnx, hfg⟩, rfl, p2, p5, p6, p7, p8, p9⟩
    have hk' : (k : Int) ≤ S.last := by omega
    have hwk : wrapF .i64 ((k : Int) + 1) = ((k + 1 : Nat) : Int) := by rw [wrap_in (by omega) (by omega)]; rfl
    have sg : Sub All g3 g := AHeap.subOf hold
    have s1g : Sub All g1 g := (AHeap.subOf old13).trans sg
    have rg := r1.mono s1g
    have hyg := hy1.mono s1g
    obtain ⟨vb, sb, g4, e4, hy4, old4, u4, m4, f4⟩ := beatL_c (n := n) (h := g) (by omega) (by omega) (by omega) hyg hT
    have s4 : Sub All g g4 := AHeap.subOf old4
    have r4 := rg.mono s4
    have hy4' := hyg.mono s4
    have hmo : MomOk S (o : Int) (k : Int) := ⟨⟨by omega, by omega⟩, by omega, hk'⟩
    have e5 := doneV_c (n := n) (h := g4) (by omega) (by omega) hy4 hT (o : Int) (k : Int)
    rw [decide_eq_true hmo, errF_s, Int.toNat_natCast] at e5
    have old34 : ∀ i, i < g3.next → g4.get i = g3.get i := fun i hi => by rw [old4 i (by omega), hold i hi]
    have hb4 : g4.next ≤ g3.next + 400 * (k + 1) := by
      rw [Nat.mul_add, Nat.mul_one]
      generalize 400 * k = B at hnx ⊢
      omega
    have b4 : Ranges g4 r3 (cntS S) (bLo S) (bHi S) := Cells.mono b3 (AHeap.subOf old34)
    by_cases he : errS S = 0
    · obtain ⟨_, hTT⟩ := errS_zero.1 he
      have hcn : cntS S = S.nv := by unfold cntS; rw [if_pos he]
      rw [hcn] at b4
      rw [he, if_pos rfl] at e5
      rw [he] at p7
      have hin := in_c (n := n) (h := g4) (by omega) (verdV S o k) 1 3
      rw [decide_eq_true (verd_in (S := S) (v := o) (x := k))] at hin
      have v1 := verd_one (S := S) (v := o) (x := k)
      have v2 := verd_two (S := S) (v := o) (x := k) (bnd_le hTT)
      have u4' : Try.prog.underlying 4 = some .bool := Try.underlying4
      have d1 : decide (verdV S o k = 1) = decide (bHi S o ≤ (k : Int)) := decide_eq_decide.2 v1
      have d2 : decide (verdV S o k = 2) = decide ((k : Int) < bLo S o) := decide_eq_decide.2 v2
      obtain ⟨L, hL⟩ : ∃ L : Int, L = (if k = 0 ∨ errS S ≠ 0 then 2 else verdV S o ((k : Int) - 1)) := ⟨_, rfl⟩
      rw [← hL] at p8
      have hL1 : L = 1 → verdV S o k = 1 := fun q => by
        rw [hL] at q
        by_cases k0 : k = 0
        · rw [if_pos (.inl k0)] at q; omega
        · rw [if_neg (by rintro (h | h); exact k0 h; exact h he)] at q
          have := verd_one.1 q
          exact v1.2 (by omega)
      have hL2 : L ≠ 2 → verdV S o k ≠ 2 := fun q q2 => by
        rw [hL] at q
        by_cases k0 : k = 0
        · rw [if_pos (.inl k0)] at q; omega
        · rw [if_neg (by rintro (h | h); exact k0 h; exact h he)] at q
          have := v2.1 q2
          exact q ((verd_two (bnd_le hTT)).2 (by omega))
      have hnext : (if k + 1 = 0 ∨ errS S ≠ 0 then (2 : Int) else verdV S o (((k + 1 : Nat) : Int) - 1)) = verdV S o k := by
        rw [if_neg (by rintro (h | h); omega; exact h he)]
        congr 1
        omega
      rw [hnext]
      have fin := And.intro old34 (And.intro (by omega : g3.next ≤ g4.next) (And.intro hb4 (by omega : g4.floor = g3.floor)))
      generalize verdV S o k = V at *
      have l0 := Cells.ld b4 hov (show 0 < 2 by omega)
      have l1 := Cells.ld b4 hov (show 1 < 2 by omega)
      by_cases c1 : L = 1
      · have cV := hL1 c1
        have cV2 : ¬ V = 2 := by omega
        rw [cV] at d1 d2 hin
        subst cV
        simp only [rn0, rn1, rn2, rn3, rn4, rn5, rn6, rn7, rn8, if_true, if_false, Nat.le_refl, true_and, and_true, decide_true, decide_false, Bool.not_true, Bool.not_false, reduceIte, Nat.reduceEqDiff, Nat.reduceAdd, Nat.reduceMul, Nat.reduceSub, Nat.reduceLeDiff, Nat.reduceLT, p2, p5, p6, p7, p8, p9, rg.ld, r4.ld, beg, Nat.zero_add, hk', rg.whole (n := 5) rfl, e4, e5, ex0, ex1, g_un, Cells.len b4, Cells.len hy4'.v, hin, c1, Int.reduceEq, Cells.idx b4 hov, Cells.fld b4 hov, l0, l1, ge_iff_le, ← d1, ← d2, x_binA, binA_neqB, p_neqB u4', valN_tmp, rBB, Nat.reduceLT, neq_self, hwk]
        first | exact fin | exact ⟨fin, by rw [he]⟩ | exact ⟨fin, he.symm⟩
      · by_cases c2 : L = 2
        · subst c2
          simp only [rn0, rn1, rn2, rn3, rn4, rn5, rn6, rn7, rn8, if_true, if_false, Nat.le_refl, true_and, and_true, decide_true, decide_false, Bool.not_true, Bool.not_false, reduceIte, Nat.reduceEqDiff, Nat.reduceAdd, Nat.reduceMul, Nat.reduceSub, Nat.reduceLeDiff, Nat.reduceLT, p2, p5, p6, p7, p8, p9, rg.ld, r4.ld, beg, Nat.zero_add, hk', rg.whole (n := 5) rfl, e4, e5, ex0, ex1, g_un, Cells.len b4, Cells.len hy4'.v, hin, Int.reduceEq, Cells.idx b4 hov, Cells.fld b4 hov, l0, l1, ge_iff_le, ← d1, ← d2, x_binA, binA_neqB, p_neqB u4', valN_tmp, rBB, Nat.reduceLT, neq_self, hwk]
          first | exact fin | exact ⟨fin, by rw [he]⟩ | exact ⟨fin, he.symm⟩
        · have cV := hL2 c2
          simp only [rn0, rn1, rn2, rn3, rn4, rn5, rn6, rn7, rn8, if_true, if_false, Nat.le_refl, true_and, and_true, decide_true, decide_false, Bool.not_true, Bool.not_false, reduceIte, Nat.reduceEqDiff, Nat.reduceAdd, Nat.reduceMul, Nat.reduceSub, Nat.reduceLeDiff, Nat.reduceLT, p2, p5, p6, p7, p8, p9, rg.ld, r4.ld, beg, Nat.zero_add, hk', rg.whole (n := 5) rfl, e4, e5, ex0, ex1, g_un, Cells.len b4, Cells.len hy4'.v, hin, c1, c2, cV, Int.reduceEq, Cells.idx b4 hov, Cells.fld b4 hov, l0, l1, ge_iff_le, ← d1, ← d2, x_binA, binA_neqB, p_neqB u4', valN_tmp, rBB, Nat.reduceLT, neq_self, hwk]
          first | exact fin | exact ⟨fin, by rw [he]⟩ | exact ⟨fin, he.symm⟩
    · have he11 := err_elO hG he
      rw [if_neg he, he11] at e5
      rw [he11] at p7
      rw [if_pos (.inr he)] at p8 ⊢
      simp only [rn0, rn1, rn2, rn3, rn4, rn5, rn6, rn7, rn8, if_true, if_false, Nat.le_refl, true_and, and_true, decide_true, decide_false, Bool.not_true, Bool.not_false, reduceIte, Nat.reduceEqDiff, Nat.reduceAdd, Nat.reduceMul, Nat.reduceSub, Nat.reduceLeDiff, Nat.reduceLT, p2, p5, p6, p7, p8, p9, rg.ld, beg, Nat.zero_add, hk', rg.whole (n := 5) rfl, e4, e5, ex0, ex1, g_un, Int.reduceEq, hwk]
      have fin := And.intro old34 (And.intro (by omega : g3.next ≤ g4.next) (And.intro hb4 (by omega : g4.floor = g3.floor)))
      first | exact fin | exact ⟨fin, by rw [he11]⟩ | exact ⟨fin, he11.symm⟩
  · rintro f g ms ⟨⟨hold, hup, hnx, hfg⟩, rfl, p2, p5, p6, p7, p8, p9⟩
    have hk' : ¬ (W : Int) ≤ S.last := by omega
    have rg := r1.mono ((AHeap.subOf old13).trans (AHeap.subOf hold))
    have hawg := awake_c (n := n) (h := g) (by omega)
    simp only [rn0, rn1, rn2, rn3, rn4, rn5, rn6, rn7, rn8, if_true, if_false, Nat.le_refl, true_and, and_true, decide_true, decide_false, Bool.not_true, Bool.not_false, reduceIte, Nat.reduceEqDiff, Nat.reduceAdd, Nat.reduceMul, Nat.reduceSub, Nat.reduceLeDiff, Nat.reduceLT, p2, p5, p6, p7, p8, p9, rg.ld, beg, Nat.zero_add, hk', hawg]
end Go.Vm.Bt
