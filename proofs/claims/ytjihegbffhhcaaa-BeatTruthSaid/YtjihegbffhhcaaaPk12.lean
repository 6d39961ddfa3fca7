/- Texts of the proofs of this seat, put together: BtC, BtBest, BtV4, VmMapU, BtVerd, BtMod, BtNth, BtTruths, BtRefT, BtDoneR, BtDoneV, BtOnwardL, BtCloser, BtWrong, BtFirstP, BtSome. -/
import Derived.Test.YtjihegbffhhcaaaPk11
import Derived.Test.YtjihegbffhhcaaaRows
import Derived.WalkKit
import Derived.ProofKit
import Derived.OpenShut

namespace Go.Vm.Bt
open Go.Vm.Vat Go.Vm.L2 Go.Proofs Go.ChangeShapes Go.WideShapes Go.ChangeAt Go.RowKit
set_option linter.unusedSimpArgs false
set_option linter.unusedVariables false
set_option maxRecDepth 10000
variable {n : Nat} {h : AHeap}
theorem own : ownKnob Try.prog.godebug = none := by kernel_rfl
theorem mixedOn : Try.prog.follows .mixedOrders = true := by kernel_rfl
theorem namesAll : (Try.prog.funcs.toList.all fun fn => !(fn.name == "runtime.NumGoroutine")) = true := by kernel_rfl
theorem namesFine : NamesFine Try.prog := by
  intro f fn hf
  have h := List.all_eq_true.1 namesAll fn (Array.mem_toList_iff.2 (Array.mem_of_getElem? hf))
  simpa using h
theorem tabOk : ∀ E ∈ BtAwake.tab, ∃ cf, SoundCF Try.prog cf ∧ entryOk cf E = true := by
  have hs := vm_sound namesFine mixedOn BtAwake.quiet 1000
  intro E hE
  refine ⟨_, hs, ?_⟩
  revert E
  simp only [BtAwake.tab, List.forall_mem_cons, List.not_mem_nil, false_implies, implies_true, and_true]
  exact ⟨BtAwake.ok0, BtAwake.ok1, BtAwake.ok2, BtAwake.ok3, BtAwake.ok4, BtAwake.ok5, BtAwake.ok6, BtAwake.ok7, BtAwake.ok8, BtAwake.ok9, BtAwake.ok10, BtAwake.ok11⟩
theorem kOk : KOk Try.prog K := by
  intro f v hK
  unfold K at hK
  split at hK
  · rename_i e
    subst e
    cases hK
    refine ⟨rfl, acallO Try.prog BtAwake.quiet BtAwake.tab 1000, ?_⟩
    have hm := BtAwake.main_ok
    cases hr : acallO Try.prog BtAwake.quiet BtAwake.tab 1000 (.func (.func 24) #[] #[]) [] AHeap.empty with
    | none => rw [hr] at hm; cases hm
    | some vh =>
      obtain ⟨v, h'⟩ := vh
      rw [hr] at hm
      unfold BtAwake.isTrue at hm
      split at hm
      · rename_i e
        cases e
        exact ⟨h', acallO_sound namesFine mixedOn BtAwake.quiet tabOk 1000, rfl⟩
      · cases hm
  · cases hK
theorem sound (n : Nat) : SoundCF Try.prog (call n) := pcall_sound namesFine mixedOn kOk n
theorem laidOk : laidOutB Try.prog = true := by kernel_rfl
theorem mapsOk : mapsRowed Try.prog = true := by kernel_rfl
theorem slicesOk : ((List.range Try.prog.types.size).all fun t => match Try.prog.underlying t with | some (.slice e) => decide (0 < Try.prog.cellsOf e) | _ => true) = true := by kernel_rfl
theorem kids : Kids Try.prog (· < Try.prog.types.size) := kids_rows laidOk mapsOk
theorem tsize : 120 < Try.prog.types.size := of_decide_eq_true (by kernel_rfl)
theorem cell_slice {P : Program} {w : World} {r : Reach} {b : Nat} {t e : TypeId} {v x : Value} (ht : P.underlying t = some (.slice e)) (ho : Value.okWide P w r b t v) (hc : v.cells.toList = [x]) : v = x := by
  unfold Value.okWide at ho
  rw [ht] at ho
  cases v <;> simp_all [Value.cells, Cell.okWide, Cell.ok]
theorem cell_int {P : Program} {w : World} {r : Reach} {b : Nat} {t : TypeId} {k : IntKind} {v x : Value} (ht : P.underlying t = some (.int k)) (ho : Value.okWide P w r b t v) (hc : v.cells.toList = [x]) : v = x := by
  unfold Value.okWide at ho
  rw [ht] at ho
  cases v <;> simp_all [Value.cells, Cell.okWide, Cell.ok]
theorem agg_struct {P : Program} {w : World} {r : Reach} {b : Nat} {t : TypeId} {fs : Array Field} {v : Value} {cs : List Value} (ht : P.underlying t = some (.struct fs)) (ho : Value.okWide P w r b t v) (hc : v.cells.toList = cs) : v = .agg ⟨cs⟩ := by
  unfold Value.okWide at ho
  rw [ht] at ho
  obtain ⟨cs', rfl, _⟩ := ho
  subst hc
  rfl
theorem map_int {φ : Emb} {k : IntKind} {a : Int} : mapV φ (.int k a) = .int k a := by simp [mapV]
theorem stands_beat {w : World} {φ : Emb} {a b c : Int} {u1 u2 vv sv : Value} (h1 : Stands φ h u1 vv) (h2 : Stands φ h u2 sv) : mapV φ (.agg ⟨[.int .i64 a, .int .i64 b, u1, .int .i64 c, u2]⟩) = .agg ⟨[.int .i64 a, .int .i64 b, vv, .int .i64 c, sv]⟩ ∧ okV φ h.next (.agg ⟨[.int .i64 a, .int .i64 b, u1, .int .i64 c, u2]⟩) := by
  refine ⟨?_, ?_⟩
  · simp only [mapV, mapArr, mapL, h1.map, h2.map]
  · simp only [okV, okA, okL, and_true, true_and]
    exact ⟨h1.ok, h2.ok⟩
end Go.Vm.Bt

namespace Go.Vm.Bt
open Go.Proofs Go.Vm.Vat Go.Vm.L2
set_option linter.unusedSimpArgs false
set_option linter.unusedVariables false
set_option maxRecDepth 10000
variable {n : Nat} {h : AHeap}
def enL (S : MB) (c : Nat → Int) : List Value := (List.range S.nv).map fun v => .int .i64 (c v)
def chooseE (pw po pb pc : Nat) : Value := .func (.func 126) ⟨[]⟩ ⟨[.pointer (some ⟨pw, 0, none⟩), .pointer (some ⟨po, 0, none⟩), .pointer (some ⟨pb, 0, none⟩), .pointer (some ⟨pc, 0, none⟩)]⟩
structure BeS (S : MB) (vv sv tv : Value) (pw po pb pc pe B : Nat) (s : (Nat → Int) × Int) (c : Nat → Int) (g : AHeap) : Prop where
  o : OpS g vv sv tv S
  w : Row g pw (wkL S vv sv tv)
  cl : Row g pc [chooseE pw po pb pc]
  wo : g.get po = some (.row [.int .i64 s.2] true 0)
  be : ∃ bv, g.get pb = some (.row [bv] true 0) ∧ Ints g bv S.nv s.1 ∧ oneCell bv = true ∧ ∀ a k q, bv = .slice (some a) k q → a.block ≠ pe ∧ a.block ≠ po ∧ a.block ≠ pb
  e : g.get pe = some (.row (enL S c) true 0)
  fl : g.floor = B
  ne : pe ≠ po ∧ pe ≠ pb ∧ po ≠ pb ∧ B ≤ pe ∧ B ≤ po ∧ B ≤ pb ∧ pw ≠ pe ∧ pw ≠ po ∧ pw ≠ pb ∧ pc ≠ pe ∧ pc ≠ po ∧ pc ≠ pb
def ApartS (S : MB) (vv sv tv : Value) (x : Nat) : Prop := (0 < S.nv → NeB vv x) ∧ (0 < S.ns → NeB sv x) ∧ NeB tv x
theorem cells_keep {g g' : AHeap} {v : Value} {s m o : Nat} {c : Nat → Nat → Value} (hc : Cells g v s m c) (k : Keep o g g') (hb : 0 < m → NeB v o) : Cells g' v s m c := by
  by_cases h0 : m = 0
  · obtain ⟨a, cap, e, sp, _⟩ := hc
    exact ⟨a, cap, e, sp, .inl h0⟩
  · exact Cells.keep hc k fun a m c e => (hb (by omega) a m c e).symm
theorem OpS.set {g g' : AHeap} {vv sv tv : Value} {S : MB} {b gr : Nat} {cs : List Value} (ho : OpS g vv sv tv S) (hs : Set1 g g' b cs gr) (ha : ApartS S vv sv tv b) : OpS g' vv sv tv S := by
  have k := hs.keep
  exact ⟨ho.good, ho.some, ⟨cells_keep ho.y.v k ha.1, cells_keep ho.y.s k ha.2.1⟩, ho.one, Cells.keep ho.d k fun a m c e => (ha.2.2 a m c e).symm, ho.long⟩
end Go.Vm.Bt

namespace Go.Vm.Bt
open Go.Proofs Go.Vm.Vat Go.Vm.L2
set_option linter.unusedSimpArgs false
set_option linter.unusedVariables false
set_option maxRecDepth 10000
variable {n : Nat} {h : AHeap}
open Classical in
noncomputable def errS (S : MB) : Int := if faultS S ≠ 0 then faultS S else if truthsS S = [] then 11 else 0
noncomputable def cntS (S : MB) : Nat := if errS S = 0 then S.nv else 0
theorem errS_zero {S : MB} : errS S = 0 ↔ Good S ∧ truthsS S ≠ [] := by
  unfold errS
  by_cases c1 : faultS S = 0
  · rw [if_neg (by simpa using c1)]
    by_cases c2 : truthsS S = []
    · rw [if_pos c2]; simp [c2]
    · rw [if_neg c2]; simp [c2, good_of c1]
  · rw [if_pos c1]
    exact ⟨fun e => absurd e c1, fun e => fault_of e.1⟩
def s36 : SCode := (.seq (.ops [⟨(some 1), none, .box (T 0)⟩, ⟨(some 2), none, .mov (.const (.slice none 0 0))⟩, ⟨(some 3), none, .mov (.const (.int .i64 (0)))⟩]) (.seq (.ops [⟨(some 9), none, .loadN 5 (T 1)⟩, ⟨(some 10), none, .call (.func 86) [(T 9), (.const (.slice none 0 0))]⟩, ⟨(some 8), none, .mov (T 10)⟩, ⟨(some 11), none, .extract 0 (T 8)⟩, ⟨(some 12), none, .extract 1 (T 8)⟩, ⟨(some 4), none, .alloc [(.int .i64 (0)), (.int .i64 (0)), (.slice none 0 0), (.int .i64 (0)), (.slice none 0 0), (.slice none 0 0)]⟩, ⟨none, none, .store 6 (T 4) (T 11)⟩, ⟨(some 5), none, .mov (T 12)⟩]) (.seq (.seq (.ops [⟨(some 13), none, .mov (T 5)⟩, ⟨(some 14), none, .int2 .neq (T 13) (.const (.int .i64 (0)))⟩]) (.cond (T 14) (.seq (.ops [⟨(some 15), none, .mov (T 5)⟩, ⟨(some 2), none, .mov (.const (.slice none 0 0))⟩, ⟨(some 3), none, .mov (T 15)⟩]) .ret) .skip)) (.seq (.ops [⟨(some 6), none, .mov (.const (.slice none 0 0))⟩]) (.seq (.seq (.ops [⟨(some 16), none, .fieldAddr 0 (T 4)⟩, ⟨(some 17), none, .fieldAddr 2 (T 16)⟩, ⟨(some 18), none, .load1 (T 17)⟩, ⟨(some 19), none, .len (T 18)⟩, ⟨(some 20), none, .mov (.const (.int .i64 (0)))⟩]) (.block 0 (.loop (.seq (.ops [⟨(some 21), none, .int2 .lss (T 20) (T 19)⟩]) (.seq (.cond (T 21) .skip (.exit 0)) (.seq (.block 1 (.seq (.ops [⟨(some 22), none, .mov (T 20)⟩, ⟨(some 7), none, .mov (T 22)⟩]) (.ops [⟨(some 23), none, .mov (T 6)⟩, ⟨(some 24), none, .loadN 6 (T 4)⟩, ⟨(some 25), none, .mov (T 7)⟩, ⟨(some 26), none, .call (.func 87) [(T 24), (T 25)]⟩, ⟨(some 27), none, .bslice 2 1 [(.int .i64 (0)), (.int .i64 (0))] [0] [(T 26)]⟩, ⟨(some 28), none, .append 2 16 (T 23) (T 27)⟩, ⟨(some 6), none, .mov (T 28)⟩]))) (.ops [⟨(some 29), none, .int2 .add (T 20) (.const (.int .i64 (1)))⟩, ⟨(some 20), none, .mov (T 29)⟩]))))))) (.seq (.ops [⟨(some 30), none, .mov (T 6)⟩, ⟨(some 2), none, .mov (T 30)⟩, ⟨(some 3), none, .mov (.const (.int .i64 (0)))⟩]) .ret))))))
theorem fok36 : FnOk Try.prog 36 31 s36 [.tmp 2, .tmp 3] := ⟨Try.f36, _, Try.func36, rfl, Try.ntmps36, by kernel_rfl, by kernel_rfl⟩
set_option maxHeartbeats 1000000 in
theorem boundsV_c (hn : 900 ≤ n) (hr : h.next + 60000 < far) (hfl : h.floor ≤ h.next) {vv sv : Value} {S : MB} (hy : BeatR h vv sv S) (hTh : ThinS S) :
    ∃ r h', call n (.func (.func 36) #[] #[]) [.agg ⟨beL S vv sv⟩] h = some (.tuple ⟨[r, .int .i64 (errS S)]⟩, h') ∧ Ranges h' r (cntS S) (bLo S) (bHi S) ∧ oneCell r = true ∧ (∀ i, i < h.next → h'.get i = h.get i) ∧ h.next ≤ h'.next ∧ h'.next ≤ h.next + 27000 ∧ h'.floor = h.floor := by
  obtain ⟨n, rfl⟩ : ∃ p, n = p + 1 := ⟨n - 1, by omega⟩
  suffices hs : ∃ v h', call (n + 1) (.func (.func 36) #[] #[]) [.agg ⟨beL S vv sv⟩] h = some (v, h') ∧ ∃ r, v = .tuple ⟨[r, .int .i64 (errS S)]⟩ ∧ Ranges h' r (cntS S) (bLo S) (bHi S) ∧ oneCell r = true ∧ (∀ i, i < h.next → h'.get i = h.get i) ∧ h.next ≤ h'.next ∧ h'.next ≤ h.next + 27000 ∧ h'.floor = h.floor by
    obtain ⟨v, h', e, r, rfl, q⟩ := hs
    exact ⟨r, h', e, q⟩
  refine call_any0 fok36 rfl rfl (by simp) ?_
  have rnil : ∀ g : AHeap, Ranges g nilS 0 (bLo S) (bHi S) := fun g => ⟨none, 0, rfl, fun x e => (by cases e), .inl rfl⟩
  simp only [s36, W_seq, W_ops]
  refine ops_box (cs := beL S vv sv) (by omega) rfl hy.one fun g1 hx1 => ?_
  have n1 := hx1.next
  have f1 := hx1.floor
  obtain ⟨v, g2, eo, old2, u2, m2, f2, ho⟩ := open_c (n := n) (h := g1) (by omega) (by omega) (by omega) (hy.mono hx1.sub) hTh (P := True) (cv := nilS) fun _ => conds_nil
  have hold2 : ∀ i, i < h.next → g2.get i = h.get i := fun i hi => by rw [old2 i (by omega), hx1.old i hi]
  rcases ho with ⟨hf, rfl⟩ | ⟨hf, hp, rfl⟩ | ⟨hf, _, ht, rfl⟩ | ⟨hf, _, ht, tv, rfl, hone, hd, hfr, hlong⟩
  · have he : errS S = faultS S := by unfold errS; rw [if_pos hf]
    have hc : cntS S = 0 := by unfold cntS; rw [if_neg (by rw [he]; exact hf)]
    rw [he, hc]
    simp only [rn0, rn1, rn2, rn3, rn4, rn5, rn6, rn7, rn8, if_true, if_false, Nat.le_refl, true_and, and_true, decide_true, decide_false, Bool.not_true, Bool.not_false, reduceIte, Nat.reduceEqDiff, Nat.reduceAdd, Nat.reduceMul, Nat.reduceSub, Nat.reduceLeDiff, Nat.reduceLT, hx1.row.whole (n := 5) rfl, eo, ex0, ex1]
    refine step_new (vs := wkZ) (by omega) (by omega) rfl (by simp only [rn0, rn1, rn2, rn3, rn4, rn5, rn6, rn7, rn8, if_true, if_false, Nat.le_refl, true_and, and_true, decide_true, decide_false, Bool.not_true, Bool.not_false, reduceIte, Nat.reduceEqDiff, Nat.reduceAdd, Nat.reduceMul, Nat.reduceSub, Nat.reduceLeDiff, Nat.reduceLT]; rfl) rfl rfl rfl fun g3 hx3 => ?_
    have n3 := hx3.next
    have f3 := hx3.floor
    simp only [rn0, rn1, rn2, rn3, rn4, rn5, rn6, rn7, rn8, if_true, if_false, Nat.le_refl, true_and, and_true, decide_true, decide_false, Bool.not_true, Bool.not_false, reduceIte, Nat.reduceEqDiff, Nat.reduceAdd, Nat.reduceMul, Nat.reduceSub, Nat.reduceLeDiff, Nat.reduceLT, hf, ret_tt]
    exact ⟨_, rfl, rnil _, rfl, fun i hi => by rw [hx3.old i (by omega), hold2 i hi], by omega, by omega, by omega⟩
  · exact absurd trivial hp
  · have he : errS S = 11 := by unfold errS; rw [if_neg (by simpa using hf), if_pos ht]
    have hc : cntS S = 0 := by unfold cntS; rw [if_neg (by rw [he]; decide)]
    rw [he, hc]
    simp only [rn0, rn1, rn2, rn3, rn4, rn5, rn6, rn7, rn8, if_true, if_false, Nat.le_refl, true_and, and_true, decide_true, decide_false, Bool.not_true, Bool.not_false, reduceIte, Nat.reduceEqDiff, Nat.reduceAdd, Nat.reduceMul, Nat.reduceSub, Nat.reduceLeDiff, Nat.reduceLT, hx1.row.whole (n := 5) rfl, eo, ex0, ex1]
    refine step_new (vs := wkZ) (by omega) (by omega) rfl (by simp only [rn0, rn1, rn2, rn3, rn4, rn5, rn6, rn7, rn8, if_true, if_false, Nat.le_refl, true_and, and_true, decide_true, decide_false, Bool.not_true, Bool.not_false, reduceIte, Nat.reduceEqDiff, Nat.reduceAdd, Nat.reduceMul, Nat.reduceSub, Nat.reduceLeDiff, Nat.reduceLT]; rfl) rfl rfl rfl fun g3 hx3 => ?_
    have n3 := hx3.next
    have f3 := hx3.floor
    simp only [rn0, rn1, rn2, rn3, rn4, rn5, rn6, rn7, rn8, if_true, if_false, Nat.le_refl, true_and, and_true, decide_true, decide_false, Bool.not_true, Bool.not_false, reduceIte, Nat.reduceEqDiff, Nat.reduceAdd, Nat.reduceMul, Nat.reduceSub, Nat.reduceLeDiff, Nat.reduceLT, Int.reduceEq, ret_tt]
    exact ⟨_, rfl, rnil _, rfl, fun i hi => by rw [hx3.old i (by omega), hold2 i hi], by omega, by omega, by omega⟩
  have he : errS S = 0 := errS_zero.2 ⟨good_of hf, ht⟩
  have hc : cntS S = S.nv := by unfold cntS; rw [if_pos he]
  rw [he, hc]
  have hG := good_of hf
  obtain ⟨z0, z1, z3, _⟩ := hG.sizes
  have hy2 := hy.mono (AHeap.subOf hold2)
  simp only [rn0, rn1, rn2, rn3, rn4, rn5, rn6, rn7, rn8, if_true, if_false, Nat.le_refl, true_and, and_true, decide_true, decide_false, Bool.not_true, Bool.not_false, reduceIte, Nat.reduceEqDiff, Nat.reduceAdd, Nat.reduceMul, Nat.reduceSub, Nat.reduceLeDiff, Nat.reduceLT, hx1.row.whole (n := 5) rfl, eo, ex0, ex1]
  refine step_new (vs := wkL S vv sv tv) (by omega) (by omega) rfl (by simp only [rn0, rn1, rn2, rn3, rn4, rn5, rn6, rn7, rn8, if_true, if_false, Nat.le_refl, true_and, and_true, decide_true, decide_false, Bool.not_true, Bool.not_false, reduceIte, Nat.reduceEqDiff, Nat.reduceAdd, Nat.reduceMul, Nat.reduceSub, Nat.reduceLeDiff, Nat.reduceLT]; rfl) (wk_one hy2 hone) rfl rfl fun g3 hx3 => ?_
  have n3 := hx3.next
  have f3 := hx3.floor
  have ho3 : OpS g3 vv sv tv S := ⟨hG, ht, hy2.mono hx3.sub, hone, Cells.mono hd hx3.sub, hlong⟩
  simp only [rn0, rn1, rn2, rn3, rn4, rn5, rn6, rn7, rn8, if_true, if_false, Nat.le_refl, true_and, and_true, decide_true, decide_false, Bool.not_true, Bool.not_false, reduceIte, Nat.reduceEqDiff, Nat.reduceAdd, Nat.reduceMul, Nat.reduceSub, Nat.reduceLeDiff, Nat.reduceLT, hx3.row.ld, wkg, Nat.zero_add, Cells.len ho3.y.v]
  refine W_loop S.nv (fun k f g ms => (∃ v, (∀ i, i < g3.next → g.get i = g3.get i) ∧ g.floor = h.floor ∧ g3.next ≤ g.next ∧ g.next ≤ g3.next + 3 * k ∧ GrowC g3.next g v 2 k (fun k j => .int .i64 (if j = 0 then bLo S k else bHi S k)) ∧ f 6 = v) ∧ ms = [] ∧ f 4 = .pointer (some ⟨g2.next, 0, none⟩) ∧ f 19 = .int .i64 (S.nv : Int) ∧ f 20 = .int .i64 (k : Int)) (by simp; omega) ?_ ?_ ?_
  · simp only [rn0, rn1, rn2, rn3, rn4, rn5, rn6, rn7, rn8, if_true, if_false, Nat.le_refl, true_and, and_true, decide_true, decide_false, Bool.not_true, Bool.not_false, reduceIte, Nat.reduceEqDiff, Nat.reduceAdd, Nat.reduceMul, Nat.reduceSub, Nat.reduceLeDiff, Nat.reduceLT]
    exact ⟨⟨nilS, fun i _ => trivial, by omega, by omega, .nil, rfl⟩, rfl⟩
  · rintro k f g ms hk ⟨⟨v, hs, hfg, hup, hnx, gv, p6⟩, rfl, p4, p19, p20⟩
    have hk' : (k : Int) < (S.nv : Int) := by omega
    have hw : wrapF .i64 ((k : Int) + 1) = ((k + 1 : Nat) : Int) := by rw [wrap_in (by omega) (by omega)]; rfl
    have rg := hx3.row.mono (AHeap.subOf hs)
    have hog := ho3.mono (AHeap.subOf hs)
    have ed := whenDone_c (n := n) (h := g) (by omega) (by omega) hog hk
    simp only [rn0, rn1, rn2, rn3, rn4, rn5, rn6, rn7, rn8, if_true, if_false, Nat.le_refl, true_and, and_true, decide_true, decide_false, Bool.not_true, Bool.not_false, reduceIte, Nat.reduceEqDiff, Nat.reduceAdd, Nat.reduceMul, Nat.reduceSub, Nat.reduceLeDiff, Nat.reduceLT, p4, p6, p19, p20, hk', rg.whole (n := 6) rfl, ed, sl_range]
    refine step_slice (by omega) rfl fun g5 hx5 => ?_
    have n5 := hx5.next
    obtain ⟨v', g6, e6, gv6, o6, n6, f6, old6, u6⟩ := grow_push (h := g) (bytes := 16) gv (by omega) (by omega) (by omega) hx5 rfl rfl (fun j hj => by
      obtain rfl | rfl : j = 0 ∨ j = 1 := by omega
      all_goals rfl) (by simp [maxBytes]; omega) (by simp [maxBytes]; omega)
    simp only [rn0, rn1, rn2, rn3, rn4, rn5, rn6, rn7, rn8, if_true, if_false, Nat.le_refl, true_and, and_true, decide_true, decide_false, Bool.not_true, Bool.not_false, reduceIte, Nat.reduceEqDiff, Nat.reduceAdd, Nat.reduceMul, Nat.reduceSub, Nat.reduceLeDiff, Nat.reduceLT, p4, p6, p19, p20, e6, hw]
    have hfin := And.intro (fun i (hi : i < g3.next) => (by rw [old6 i hi, hs i hi] : g6.get i = g3.get i)) (And.intro (by omega : g6.floor = h.floor) (And.intro (by omega : g3.next ≤ g6.next) (And.intro (by omega : g6.next ≤ g3.next + 3 * (k + 1)) (And.intro gv6 (rfl : v' = v')))))
    first | exact ⟨⟨v', hfin⟩, rfl⟩ | exact ⟨v', hfin⟩
  · rintro f g ms ⟨⟨v, hs, hfg, hup, hnx, gv, p6⟩, rfl, p4, p19, p20⟩
    simp only [rn0, rn1, rn2, rn3, rn4, rn5, rn6, rn7, rn8, if_true, if_false, Nat.le_refl, true_and, and_true, decide_true, decide_false, Bool.not_true, Bool.not_false, reduceIte, Nat.reduceEqDiff, Nat.reduceAdd, Nat.reduceMul, Nat.reduceSub, Nat.reduceLeDiff, Nat.reduceLT, p4, p6, p19, p20, Int.lt_irrefl, ret_tt]
    exact ⟨_, rfl, gv.cells, gv.one, fun i hi => by rw [hs i (by omega), hx3.old i (by omega), hold2 i hi], by omega, by omega, by omega⟩
open Classical in
noncomputable def errE (S : MB) (m : Nat) (a : Nat → Int) : Int := if faultS S ≠ 0 then faultS S else if ¬ Hours S m a then 2 else if truthsS S = [] then 11 else 0
theorem errE_zero {S : MB} {m : Nat} {a : Nat → Int} : errE S m a = 0 ↔ Good S ∧ Hours S m a ∧ truthsS S ≠ [] := by
  unfold errE
  by_cases c1 : faultS S = 0
  · rw [if_neg (by simpa using c1)]
    by_cases c3 : Hours S m a
    · rw [if_neg (by simpa using c3)]
      by_cases c2 : truthsS S = []
      · rw [if_pos c2]; simp [c2]
      · rw [if_neg c2]; simp [c2, c3, good_of c1]
    · rw [if_pos c3]; simp [c3]
  · rw [if_pos c1]
    exact ⟨fun e => absurd e c1, fun e => fault_of e.1⟩
def s92 : SCode := (.seq (.ops [⟨(some 2), none, .box (T 0)⟩, ⟨(some 3), none, .mov (.const (.bool false))⟩]) (.seq (.ops [⟨(some 4), none, .loadN 6 (T 2)⟩, ⟨(some 5), none, .load1 (T 1)⟩, ⟨(some 6), none, .call (.func 79) [(T 4), (T 5)]⟩, ⟨(some 3), none, .mov (T 6)⟩]) .ret))
theorem fok92 : FnOk Try.prog 92 7 s92 [.tmp 3] := ⟨Try.f92, _, Try.func92, rfl, Try.ntmps92, by kernel_rfl, by kernel_rfl⟩
theorem losses1_c (hn : 120 ≤ n) (hr : h.next + 110 < far) {vv sv lv : Value} {S : MB} {m : Nat} {a : Nat → Int} {p : Nat} (hy : BeatR h vv sv S) (hp : Row h p [lv]) (hc : Ints h lv m a) (h30 : m ≤ 30) :
    call n (.func (.func 92) ⟨[]⟩ ⟨[.pointer (some ⟨p, 0, none⟩)]⟩) [.agg ⟨wkL S vv sv nilS⟩] h = some (.bool (decide (Hours S m a)), h) := by
  obtain ⟨n, rfl⟩ : ∃ p, n = p + 1 := ⟨n - 1, by omega⟩
  refine call_plain (xs := []) (ys := [.pointer (some ⟨p, 0, none⟩)]) fok92 rfl rfl (by simp) rfl ?_
  have hy := hy.shut
  have hc := Cells.shut hc
  have hp : Row h.shutAll p [lv] := hp.mono fun _ _ _ _ _ h => h
  have hr : h.shutAll.next + 110 < far := hr
  generalize h.shutAll = h at hy hc hp hr
  simp only [s92, List.cons_append, List.nil_append, W_seq, W_ops]
  refine ops_box (cs := wkL S vv sv nilS) (by omega) rfl (wk_one hy rfl) fun g1 hx1 => ?_
  have n1 := hx1.next
  have ee := isEnds_c (n := n) (h := g1) (tv := nilS) (by omega) (by omega) (hy.mono hx1.sub) rfl (Cells.mono hc hx1.sub) h30
  simp only [rn0, rn1, rn2, rn3, rn4, rn5, rn6, rn7, rn8, if_true, if_false, Nat.le_refl, true_and, and_true, decide_true, decide_false, Bool.not_true, Bool.not_false, reduceIte, Nat.reduceEqDiff, Nat.reduceAdd, Nat.reduceMul, Nat.reduceSub, Nat.reduceLeDiff, Nat.reduceLT, hx1.row.whole (n := 6) rfl, (hp.mono hx1.sub).ld, Nat.zero_add, List.getElem?_cons_zero, ee]
theorem sl_fn {f : Value} (hf : oneCell f = true) : buildSl 1 1 [.nilFunc] [0] h [f] = newSlice h [f] 1 1 0 := by
  cases f <;> first | (cases hf; done) | rfl
def s44 : SCode := (.seq (.ops [⟨(some 2), none, .box (T 0)⟩, ⟨(some 3), none, .box (T 1)⟩, ⟨(some 4), none, .alloc [(.int .i64 (0)), (.int .i64 (0))]⟩, ⟨(some 5), none, .mov (.const (.int .i64 (0)))⟩]) (.seq (.ops [⟨(some 9), none, .loadN 5 (T 2)⟩, ⟨(some 10), none, .mkfunc 92 [] [(T 3)]⟩, ⟨(some 11), none, .bslice 1 1 [.nilFunc] [0] [(T 10)]⟩, ⟨(some 12), none, .call (.func 86) [(T 9), (T 11)]⟩, ⟨(some 8), none, .mov (T 12)⟩, ⟨(some 13), none, .extract 0 (T 8)⟩, ⟨(some 14), none, .extract 1 (T 8)⟩, ⟨(some 6), none, .alloc [(.int .i64 (0)), (.int .i64 (0)), (.slice none 0 0), (.int .i64 (0)), (.slice none 0 0), (.slice none 0 0)]⟩, ⟨none, none, .store 6 (T 6) (T 13)⟩, ⟨(some 7), none, .mov (T 14)⟩]) (.seq (.seq (.ops [⟨(some 15), none, .mov (T 7)⟩, ⟨(some 16), none, .int2 .neq (T 15) (.const (.int .i64 (0)))⟩]) (.cond (T 16) (.seq (.ops [⟨(some 17), none, .build #[(0, 1), (1, 1)] [(.int .i64 (0)), (.int .i64 (0))] [] []⟩, ⟨(some 18), none, .mov (T 7)⟩, ⟨none, none, .store 2 (T 4) (T 17)⟩, ⟨(some 5), none, .mov (T 18)⟩]) .ret) .skip)) (.seq (.ops [⟨(some 19), none, .loadN 6 (T 6)⟩, ⟨(some 20), none, .load1 (T 3)⟩, ⟨(some 21), none, .call (.func 93) [(T 19), (T 20)]⟩, ⟨none, none, .store 2 (T 4) (T 21)⟩, ⟨(some 5), none, .mov (.const (.int .i64 (0)))⟩]) .ret))))
theorem fok44 : FnOk Try.prog 44 22 s44 [.cellN 4 2, .tmp 5] := ⟨Try.f44, _, Try.func44, rfl, Try.ntmps44, by kernel_rfl, by kernel_rfl⟩
set_option maxHeartbeats 1000000 in
theorem lossesV_c (hn : 1000 ≤ n) (hr : h.next + 60000 < far) {vv sv lv : Value} {S : MB} {m : Nat} {a : Nat → Int} (hy : BeatR h vv sv S) (hTh : ThinS S) (hl : Ints h lv m a) (h30 : m ≤ 30) :
    call n (.func (.func 44) #[] #[]) [.agg ⟨beL S vv sv⟩, lv] h = some (.tuple ⟨[.agg ⟨[.int .i64 (if errE S m a = 0 then wLo S a S.nv else 0), .int .i64 (if errE S m a = 0 then wHi S a S.nv else 0)]⟩, .int .i64 (errE S m a)]⟩, h) := by
  obtain ⟨n, rfl⟩ : ∃ p, n = p + 1 := ⟨n - 1, by omega⟩
  refine call_plain0 fok44 rfl rfl (by simp) rfl ?_
  have hy := hy.shut
  have hl := Cells.shut hl
  have hr : h.shutAll.next + 60000 < far := hr
  have hfl : h.shutAll.floor ≤ h.shutAll.next := Nat.le_refl _
  generalize h.shutAll = h at hy hl hr hfl
  simp only [s44, W_seq, W_ops]
  refine ops_box (cs := beL S vv sv) (by omega) rfl hy.one fun g1 hx1 => ?_
  have n1 := hx1.next
  have f1 := hx1.floor
  refine ops_box (cs := [lv]) (by omega) (by simp only [rn0, rn1, rn2, rn3, rn4, rn5, rn6, rn7, rn8, if_true, if_false, Nat.le_refl, true_and, and_true, decide_true, decide_false, Bool.not_true, Bool.not_false, reduceIte, Nat.reduceEqDiff, Nat.reduceAdd, Nat.reduceMul, Nat.reduceSub, Nat.reduceLeDiff, Nat.reduceLT]; exact cells1 (Cells.one hl)) (by simp [allB, Cells.one hl]) fun g2 hx2 => ?_
  have n2 := hx2.next
  have f2 := hx2.floor
  refine ops_alloc (cs := [.int .i64 0, .int .i64 0]) (by omega) rfl fun g3 hx3 => ?_
  have n3 := hx3.next
  have f3 := hx3.floor
  have sub3 : Sub All h g3 := hx1.sub.trans (hx2.sub.trans hx3.sub)
  have w3 := ((hx1.row.mono hx2.sub).mono hx3.sub).whole (n := 5) rfl
  simp only [rn0, rn1, rn2, rn3, rn4, rn5, rn6, rn7, rn8, if_true, if_false, Nat.le_refl, true_and, and_true, decide_true, decide_false, Bool.not_true, Bool.not_false, reduceIte, Nat.reduceEqDiff, Nat.reduceAdd, Nat.reduceMul, Nat.reduceSub, Nat.reduceLeDiff, Nat.reduceLT, w3, sl_fn (show oneCell (.func (.func 92) ⟨[]⟩ ⟨[.pointer (some ⟨g1.next, 0, none⟩)]⟩) = true from rfl)]
  refine step_slice (by omega) rfl fun g4 hx4 => ?_
  have n4 := hx4.next
  have f4 := hx4.floor
  have sub4 := sub3.trans hx4.sub
  have hcs : Cells g4 (.slice (some ⟨g3.next, 0, none⟩) 1 1) 1 1 (fun _ _ => .func (.func 92) ⟨[]⟩ ⟨[.pointer (some ⟨g1.next, 0, none⟩)]⟩) := ⟨_, _, rfl, fun x e => by cases e; rfl, .inr ⟨_, 0, _, _, _, rfl, hx4.get, fun i j hi hj => by
    obtain rfl : i = 0 := by omega
    obtain rfl : j = 0 := by omega
    rfl⟩⟩
  have hrow2 : Row g4 g1.next [lv] := (hx2.row.mono hx3.sub).mono hx4.sub
  have hy4 := hy.mono sub4
  have hl4 : Ints g4 lv m a := Cells.mono hl sub4
  obtain ⟨v, g5, eo, old5, u5, m5, f5, ho⟩ := open_c (n := n) (h := g4) (by omega) (by omega) (by omega) hy4 hTh (P := Hours S m a) (cv := .slice (some ⟨g3.next, 0, none⟩) 1 1) fun hG =>
    ⟨1, _, fun _ => Hours S m a, by omega, hcs, ⟨fun e _ _ => e, fun e => e 0 (by omega)⟩, fun i hi => ⟨decide (Hours S m a), decide_eq_true_iff, fun n' hn' g hs hg => losses1_c (by omega) (by omega) (hy4.mono hs) (hrow2.mono hs) (Cells.mono hl4 hs) h30⟩⟩
  have r6 : g5.get g2.next = some (.row [.int .i64 0, .int .i64 0] true 0) := by rw [old5 _ (by omega), hx4.old _ (by omega)]; exact hx3.get
  have err : ∀ e : Int, e ≠ 0 → errE S m a = e → v = .tuple ⟨[.agg ⟨wkZ⟩, .int .i64 e]⟩ → (errE S m a = 0) = False := fun e h1 h2 _ => by rw [h2]; exact eq_false h1
  rcases ho with ⟨hf, rfl⟩ | ⟨hf, hp, rfl⟩ | ⟨hf, hp, ht, rfl⟩ | ⟨hf, hp, ht, tv, rfl, hone, hd, hfr, hlong⟩
  · have he : errE S m a = faultS S := by unfold errE; rw [if_pos hf]
    rw [he, if_neg hf, if_neg hf]
    simp only [rn0, rn1, rn2, rn3, rn4, rn5, rn6, rn7, rn8, if_true, if_false, Nat.le_refl, true_and, and_true, decide_true, decide_false, Bool.not_true, Bool.not_false, reduceIte, Nat.reduceEqDiff, Nat.reduceAdd, Nat.reduceMul, Nat.reduceSub, Nat.reduceLeDiff, Nat.reduceLT, eo, ex0, ex1]
    refine step_new (vs := wkZ) (by omega) (by omega) rfl (by simp only [rn0, rn1, rn2, rn3, rn4, rn5, rn6, rn7, rn8, if_true, if_false, Nat.le_refl, true_and, and_true, decide_true, decide_false, Bool.not_true, Bool.not_false, reduceIte, Nat.reduceEqDiff, Nat.reduceAdd, Nat.reduceMul, Nat.reduceSub, Nat.reduceLeDiff, Nat.reduceLT]; rfl) rfl rfl rfl fun g6 hx6 => ?_
    have n6 := hx6.next
    have f6 := hx6.floor
    simp only [rn0, rn1, rn2, rn3, rn4, rn5, rn6, rn7, rn8, if_true, if_false, Nat.le_refl, true_and, and_true, decide_true, decide_false, Bool.not_true, Bool.not_false, reduceIte, Nat.reduceEqDiff, Nat.reduceAdd, Nat.reduceMul, Nat.reduceSub, Nat.reduceLeDiff, Nat.reduceLT, hf, build_rng0]
    refine step_store (b := g2.next) (off := 0) (vs := [.int .i64 0, .int .i64 0]) rfl (by rw [hx6.old _ (by omega)]; exact r6) (by omega) (by omega) rfl rfl rfl (by simp) fun g7 hs7 => ?_
    rw [splice2] at hs7
    simp only [rn0, rn1, rn2, rn3, rn4, rn5, rn6, rn7, rn8, if_true, if_false, Nat.le_refl, true_and, and_true, decide_true, decide_false, Bool.not_true, Bool.not_false, reduceIte, Nat.reduceEqDiff, Nat.reduceAdd, Nat.reduceMul, Nat.reduceSub, Nat.reduceLeDiff, Nat.reduceLT, res_two, hs7.row.whole (n := 2) rfl]
  · have he : errE S m a = 2 := by unfold errE; rw [if_neg (by simpa using hf), if_pos hp]
    rw [he, if_neg (by decide), if_neg (by decide)]
    simp only [rn0, rn1, rn2, rn3, rn4, rn5, rn6, rn7, rn8, if_true, if_false, Nat.le_refl, true_and, and_true, decide_true, decide_false, Bool.not_true, Bool.not_false, reduceIte, Nat.reduceEqDiff, Nat.reduceAdd, Nat.reduceMul, Nat.reduceSub, Nat.reduceLeDiff, Nat.reduceLT, eo, ex0, ex1]
    refine step_new (vs := wkZ) (by omega) (by omega) rfl (by simp only [rn0, rn1, rn2, rn3, rn4, rn5, rn6, rn7, rn8, if_true, if_false, Nat.le_refl, true_and, and_true, decide_true, decide_false, Bool.not_true, Bool.not_false, reduceIte, Nat.reduceEqDiff, Nat.reduceAdd, Nat.reduceMul, Nat.reduceSub, Nat.reduceLeDiff, Nat.reduceLT]; rfl) rfl rfl rfl fun g6 hx6 => ?_
    have n6 := hx6.next
    have f6 := hx6.floor
    simp only [rn0, rn1, rn2, rn3, rn4, rn5, rn6, rn7, rn8, if_true, if_false, Nat.le_refl, true_and, and_true, decide_true, decide_false, Bool.not_true, Bool.not_false, reduceIte, Nat.reduceEqDiff, Nat.reduceAdd, Nat.reduceMul, Nat.reduceSub, Nat.reduceLeDiff, Nat.reduceLT, Int.reduceEq, build_rng0]
    refine step_store (b := g2.next) (off := 0) (vs := [.int .i64 0, .int .i64 0]) rfl (by rw [hx6.old _ (by omega)]; exact r6) (by omega) (by omega) rfl rfl rfl (by simp) fun g7 hs7 => ?_
    rw [splice2] at hs7
    simp only [rn0, rn1, rn2, rn3, rn4, rn5, rn6, rn7, rn8, if_true, if_false, Nat.le_refl, true_and, and_true, decide_true, decide_false, Bool.not_true, Bool.not_false, reduceIte, Nat.reduceEqDiff, Nat.reduceAdd, Nat.reduceMul, Nat.reduceSub, Nat.reduceLeDiff, Nat.reduceLT, res_two, hs7.row.whole (n := 2) rfl]
  · have he : errE S m a = 11 := by unfold errE; rw [if_neg (by simpa using hf), if_neg (by simpa using hp), if_pos ht]
    rw [he, if_neg (by decide), if_neg (by decide)]
    simp only [rn0, rn1, rn2, rn3, rn4, rn5, rn6, rn7, rn8, if_true, if_false, Nat.le_refl, true_and, and_true, decide_true, decide_false, Bool.not_true, Bool.not_false, reduceIte, Nat.reduceEqDiff, Nat.reduceAdd, Nat.reduceMul, Nat.reduceSub, Nat.reduceLeDiff, Nat.reduceLT, eo, ex0, ex1]
    refine step_new (vs := wkZ) (by omega) (by omega) rfl (by simp only [rn0, rn1, rn2, rn3, rn4, rn5, rn6, rn7, rn8, if_true, if_false, Nat.le_refl, true_and, and_true, decide_true, decide_false, Bool.not_true, Bool.not_false, reduceIte, Nat.reduceEqDiff, Nat.reduceAdd, Nat.reduceMul, Nat.reduceSub, Nat.reduceLeDiff, Nat.reduceLT]; rfl) rfl rfl rfl fun g6 hx6 => ?_
    have n6 := hx6.next
    have f6 := hx6.floor
    simp only [rn0, rn1, rn2, rn3, rn4, rn5, rn6, rn7, rn8, if_true, if_false, Nat.le_refl, true_and, and_true, decide_true, decide_false, Bool.not_true, Bool.not_false, reduceIte, Nat.reduceEqDiff, Nat.reduceAdd, Nat.reduceMul, Nat.reduceSub, Nat.reduceLeDiff, Nat.reduceLT, Int.reduceEq, build_rng0]
    refine step_store (b := g2.next) (off := 0) (vs := [.int .i64 0, .int .i64 0]) rfl (by rw [hx6.old _ (by omega)]; exact r6) (by omega) (by omega) rfl rfl rfl (by simp) fun g7 hs7 => ?_
    rw [splice2] at hs7
    simp only [rn0, rn1, rn2, rn3, rn4, rn5, rn6, rn7, rn8, if_true, if_false, Nat.le_refl, true_and, and_true, decide_true, decide_false, Bool.not_true, Bool.not_false, reduceIte, Nat.reduceEqDiff, Nat.reduceAdd, Nat.reduceMul, Nat.reduceSub, Nat.reduceLeDiff, Nat.reduceLT, res_two, hs7.row.whole (n := 2) rfl]
  have hG := good_of hf
  have he : errE S m a = 0 := errE_zero.2 ⟨hG, hp, ht⟩
  rw [he, if_pos rfl, if_pos rfl]
  have sub5 : Sub All g4 g5 := AHeap.subOf old5
  have hy5 := hy4.mono sub5
  obtain ⟨z0, z1, _⟩ := hG.sizes
  simp only [rn0, rn1, rn2, rn3, rn4, rn5, rn6, rn7, rn8, if_true, if_false, Nat.le_refl, true_and, and_true, decide_true, decide_false, Bool.not_true, Bool.not_false, reduceIte, Nat.reduceEqDiff, Nat.reduceAdd, Nat.reduceMul, Nat.reduceSub, Nat.reduceLeDiff, Nat.reduceLT, eo, ex0, ex1]
  refine step_new (vs := wkL S vv sv tv) (by omega) (by omega) rfl (by simp only [rn0, rn1, rn2, rn3, rn4, rn5, rn6, rn7, rn8, if_true, if_false, Nat.le_refl, true_and, and_true, decide_true, decide_false, Bool.not_true, Bool.not_false, reduceIte, Nat.reduceEqDiff, Nat.reduceAdd, Nat.reduceMul, Nat.reduceSub, Nat.reduceLeDiff, Nat.reduceLT]; rfl) (wk_one hy5 hone) rfl rfl fun g6 hx6 => ?_
  have n6 := hx6.next
  have f6 := hx6.floor
  have ho6 : OpS g6 vv sv tv S := ⟨hG, ht, hy5.mono hx6.sub, hone, Cells.mono hd hx6.sub, hlong⟩
  have hmv : m = S.nv := hp.1
  subst hmv
  have hle := losses_c (n := n) (h := g6) (by omega) (by omega) ho6 (Cells.mono (Cells.mono hl4 sub5) hx6.sub) (Nat.le_refl _) fun v hv => by have := hp.2 v hv; omega
  simp only [rn0, rn1, rn2, rn3, rn4, rn5, rn6, rn7, rn8, if_true, if_false, Nat.le_refl, true_and, and_true, decide_true, decide_false, Bool.not_true, Bool.not_false, reduceIte, Nat.reduceEqDiff, Nat.reduceAdd, Nat.reduceMul, Nat.reduceSub, Nat.reduceLeDiff, Nat.reduceLT, hx6.row.whole (n := 6) rfl, ((hrow2.mono sub5).mono hx6.sub).ld, Nat.zero_add, List.getElem?_cons_zero, hle]
  refine step_store (b := g2.next) (off := 0) (vs := [.int .i64 (wLo S a S.nv), .int .i64 (wHi S a S.nv)]) rfl (by rw [hx6.old _ (by omega)]; exact r6) (by omega) (by omega) rfl rfl rfl (by simp) fun g7 hs7 => ?_
  rw [splice2] at hs7
  simp only [rn0, rn1, rn2, rn3, rn4, rn5, rn6, rn7, rn8, if_true, if_false, Nat.le_refl, true_and, and_true, decide_true, decide_false, Bool.not_true, Bool.not_false, reduceIte, Nat.reduceEqDiff, Nat.reduceAdd, Nat.reduceMul, Nat.reduceSub, Nat.reduceLeDiff, Nat.reduceLT, res_two, hs7.row.whole (n := 2) rfl]
end Go.Vm.Bt

namespace Go.Vm
set_option linter.unusedSimpArgs false
set_option linter.unusedVariables false
section
variable {α : Type} [DecidableEq α] {P : Program} {t : TypeId} {kv : α → Value} {m : α → Int} {h : AHeap} {r : Nat}
theorem updateF (hk : KeyOk P t kv) (hm : MapF h r kv m) (hfl : h.floor ≤ r) (hf : h.next ≤ far) (p : α) (v : Int) :
    ∃ g, mapUpdateA P t h (.map (some r)) (kv p) (.int .i64 v) = some (undef, g) ∧ MapF g r kv (fun q => if q = p then v else m q) ∧ Turned h g r := by
  have hlt := hm.lt
  obtain ⟨l, c, hg, he⟩ := hm
  have hpv : plainV (.int .i64 v) = true := rfl
  unfold mapUpdateA amap
  simp only [hg, hk.plain, hpv, Bool.and_self, cond_true, hk.find, ble_iff.2 hfl]
  cases hfd : findK p l 0 with
  | none =>
    have hp := findK_none l 0 hfd
    have hv := valK_none l hp
    obtain ⟨g, e, hg', ht⟩ := setMap_run (h := h) (es := (⟨l.map (entK kv)⟩ : Array MapEntry).push { key := kv p, val := .int .i64 v, born := c }) (c := c + 1) (v := undef) hlt hf
    refine ⟨g, e, ⟨l ++ [(p, v, c)], c + 1, ?_, ⟨?_, ?_, ?_, ?_⟩⟩, ht⟩
    · rw [hg', List.push_toArray, List.map_append]; rfl
    · intro q
      rw [valK_app l hp, he.val]
    · rw [List.map_append, List.nodup_append]
      refine ⟨he.keys, by simp, ?_⟩
      intro a ha b hb e
      simp only [List.map_cons, List.map_nil, List.mem_singleton] at hb
      exact hp (by rw [← hb, ← e]; exact ha)
    · rw [List.map_append, List.nodup_append]
      refine ⟨he.borns, by simp, ?_⟩
      intro a ha b hb e
      simp only [List.map_cons, List.map_nil, List.mem_singleton] at hb
      obtain ⟨x, hx, rfl⟩ := List.mem_map.1 ha
      have := he.below x hx
      omega
    · intro x hx
      rcases List.mem_append.1 hx with hx | hx
      · have := he.below x hx; omega
      · simp only [List.mem_singleton] at hx
        subst hx; exact Nat.lt_succ_self _
  | some q =>
    obtain ⟨i, w⟩ := q
    obtain ⟨b, _, hi, rfl⟩ := findK_some l 0 i w hfd
    rw [Nat.sub_zero] at hi
    have hi2 : (⟨l.map (entK kv)⟩ : Array MapEntry)[i]? = some (entK kv (p, valK p l, b)) := by
      rw [List.getElem?_toArray, List.getElem?_map, hi]; rfl
    have hil : i < l.length := by
      rcases Nat.lt_or_ge i l.length with h1 | h1
      · exact h1
      · rw [List.getElem?_eq_none h1] at hi; cases hi
    obtain ⟨g, e, hg', ht⟩ := setMap_run (h := h) (es := (⟨l.map (entK kv)⟩ : Array MapEntry).modify i fun e => { e with key := kv p, val := .int .i64 v }) (c := c) (v := undef) hlt hf
    refine ⟨g, ?_, ⟨l.set i (p, v, b), c, ?_, ?_, ?_, ?_, ?_⟩, ht⟩
    · simp only [hi2, Option.map_some, Option.getD_some, entK, hk.same, cond_true]
      exact e
    · rw [hg']
      congr 2
      apply Array.ext'
      rw [Array.toList_modify]
      apply List.ext_getElem?
      intro k
      show _ = (List.map (entK kv) (l.set i (p, v, b)))[k]?
      rw [List.getElem?_modify, List.getElem?_map, List.getElem?_map, List.getElem?_set]
      by_cases e : i = k
      · subst e
        rw [if_pos rfl, if_pos hil, hi]
        simp [entK]
      · simp [e]
    · intro q
      rw [valK_set l i _ b he.keys hi, he.val]
    · rw [List.map_set]
      have : (l.map (·.1)).set i p = l.map (·.1) := by
        apply List.ext_getElem?
        intro k
        rw [List.getElem?_set]
        by_cases e : i = k
        · subst e; rw [if_pos rfl, List.length_map, if_pos hil, List.getElem?_map, hi]; rfl
        · simp [e]
      rw [this]; exact he.keys
    · rw [List.map_set]
      have : (l.map (·.2.2)).set i b = l.map (·.2.2) := by
        apply List.ext_getElem?
        intro k
        rw [List.getElem?_set]
        by_cases e : i = k
        · subst e; rw [if_pos rfl, List.length_map, if_pos hil, List.getElem?_map, hi]; rfl
        · simp [e]
      rw [this]; exact he.borns
    · intro x hx
      rcases List.mem_or_eq_of_mem_set hx with hx | rfl
      · exact he.below x hx
      · exact he.below (p, valK p l, b) (List.mem_of_getElem? hi)
end
end Go.Vm

namespace Go.Vm.Bt
open Go.Proofs Go.Vm.Vat Go.Vm.L2
set_option linter.unusedSimpArgs false
set_option linter.unusedVariables false
set_option maxRecDepth 10000
variable {n : Nat} {h : AHeap}
theorem two139 : Two Try.prog 139 := ⟨⟨_, _, Try.underlying139, by decide, by decide, rfl, rfl, by rfl, by rfl⟩, by kernel_rfl⟩
theorem key139 : KeyOk Try.prog 139 key2 := keyOk2 two139
theorem x_mapUpdate {P : Program} {cf : CallF} {N : Nat} {f : Go.Vm.Fr} {kt : TypeId} {m k x : Operand} : sem P cf N f h (.mapUpdate kt m k x) = mapUpdateA P kt h (val f m) (val f k) (val f x) := id rfl
noncomputable def verdV (S : MB) (v : Nat) (hh : Int) : Int := if bHi S v ≤ hh then 1 else if hh < bLo S v then 2 else 3
noncomputable def vmK (S : MB) (k j : Nat) (p : Int × Int) : Int := if 0 ≤ p.1 ∧ 0 ≤ p.2 ∧ (p.1 < (k : Int) ∧ p.2 ≤ S.last ∨ p.1 = (k : Int) ∧ p.2 < (j : Int)) then verdV S p.1.toNat p.2 else 0
theorem vmK_zero {S : MB} : vmK S 0 0 = fun _ => 0 := by
  funext p
  unfold vmK
  rw [if_neg]
  rintro ⟨h1, h2, h3 | h3⟩ <;> omega
theorem vmK_step {S : MB} {k j : Nat} : (fun q : Int × Int => if q = ((k : Int), (j : Int)) then verdV S k j else vmK S k j q) = vmK S k (j + 1) := by
  funext q
  obtain ⟨a, b⟩ := q
  by_cases e : (a, b) = ((k : Int), (j : Int))
  · rw [if_pos e]
    simp only [Prod.mk.injEq] at e
    obtain ⟨rfl, rfl⟩ := e
    unfold vmK
    rw [if_pos ⟨by simp, by simp, .inr ⟨rfl, by simp only; omega⟩⟩]
    simp
  · rw [if_neg e]
    simp only [Prod.mk.injEq] at e
    unfold vmK
    have : (0 ≤ a ∧ 0 ≤ b ∧ (a < (k : Int) ∧ b ≤ S.last ∨ a = (k : Int) ∧ b < (j : Int))) ↔ (0 ≤ a ∧ 0 ≤ b ∧ (a < (k : Int) ∧ b ≤ S.last ∨ a = (k : Int) ∧ b < ((j + 1 : Nat) : Int))) := by omega
    simp only [this]
theorem vmK_end {S : MB} {k j : Nat} (hj : (j : Int) = S.last + 1) : vmK S k j = vmK S (k + 1) 0 := by
  funext q
  obtain ⟨a, b⟩ := q
  unfold vmK
  have : (0 ≤ a ∧ 0 ≤ b ∧ (a < (k : Int) ∧ b ≤ S.last ∨ a = (k : Int) ∧ b < (j : Int))) ↔ (0 ≤ a ∧ 0 ≤ b ∧ (a < ((k + 1 : Nat) : Int) ∧ b ≤ S.last ∨ a = ((k + 1 : Nat) : Int) ∧ b < ((0 : Nat) : Int))) := by omega
  simp only [this]
def s91 : SCode := (.seq (.ops [⟨(some 1), none, .box (T 0)⟩, ⟨(some 2), none, .mov (.const (.map none))⟩]) (.seq (.ops [⟨(some 7), none, .mkmap⟩, ⟨(some 3), none, .mov (T 7)⟩]) (.seq (.seq (.ops [⟨(some 8), none, .fieldAddr 0 (T 1)⟩, ⟨(some 9), none, .fieldAddr 2 (T 8)⟩, ⟨(some 10), none, .load1 (T 9)⟩, ⟨(some 11), none, .len (T 10)⟩, ⟨(some 12), none, .mov (.const (.int .i64 (0)))⟩]) (.block 0 (.loop (.seq (.ops [⟨(some 13), none, .int2 .lss (T 12) (T 11)⟩]) (.seq (.cond (T 13) .skip (.exit 0)) (.seq (.block 1 (.seq (.ops [⟨(some 14), none, .mov (T 12)⟩, ⟨(some 4), none, .mov (T 14)⟩]) (.seq (.ops [⟨(some 15), none, .loadN 6 (T 1)⟩, ⟨(some 16), none, .mov (T 4)⟩, ⟨(some 17), none, .call (.func 87) [(T 15), (T 16)]⟩, ⟨(some 5), none, .alloc [(.int .i64 (0)), (.int .i64 (0))]⟩, ⟨none, none, .store 2 (T 5) (T 17)⟩]) (.seq (.ops [⟨(some 18), none, .fieldAddr 0 (T 1)⟩, ⟨(some 19), none, .fieldAddr 3 (T 18)⟩, ⟨(some 20), none, .load1 (T 19)⟩, ⟨(some 21), none, .int2 .add (T 20) (.const (.int .i64 (1)))⟩, ⟨(some 22), none, .mov (.const (.int .i64 (0)))⟩]) (.block 2 (.loop (.seq (.ops [⟨(some 23), none, .int2 .lss (T 22) (T 21)⟩]) (.seq (.cond (T 23) .skip (.exit 2)) (.seq (.block 3 (.seq (.ops [⟨(some 24), none, .mov (T 22)⟩, ⟨(some 6), none, .mov (T 24)⟩]) (.block 4 (.seq (.ops [⟨(some 30), none, .fieldAddr 1 (T 5)⟩, ⟨(some 31), none, .load1 (T 30)⟩, ⟨(some 32), none, .mov (T 6)⟩, ⟨(some 33), none, .int2 .leq (T 31) (T 32)⟩, ⟨(some 29), none, .mov (T 33)⟩]) (.cond (T 29) (.ops [⟨(some 34), none, .mov (T 3)⟩, ⟨(some 35), none, .mov (T 4)⟩, ⟨(some 36), none, .mov (T 6)⟩, ⟨(some 37), none, .build #[(0, 1), (1, 1)] [(.int .i64 (0)), (.int .i64 (0))] [0, 1] [(T 35), (T 36)]⟩, ⟨none, none, .mapUpdate 139 (T 34) (T 37) (.const (.int .i64 (1)))⟩]) (.seq (.ops [⟨(some 39), none, .mov (T 6)⟩, ⟨(some 40), none, .fieldAddr 0 (T 5)⟩, ⟨(some 41), none, .load1 (T 40)⟩, ⟨(some 42), none, .int2 .lss (T 39) (T 41)⟩, ⟨(some 38), none, .mov (T 42)⟩]) (.cond (T 38) (.ops [⟨(some 43), none, .mov (T 3)⟩, ⟨(some 44), none, .mov (T 4)⟩, ⟨(some 45), none, .mov (T 6)⟩, ⟨(some 46), none, .build #[(0, 1), (1, 1)] [(.int .i64 (0)), (.int .i64 (0))] [0, 1] [(T 44), (T 45)]⟩, ⟨none, none, .mapUpdate 139 (T 43) (T 46) (.const (.int .i64 (2)))⟩]) (.ops [⟨(some 25), none, .mov (T 3)⟩, ⟨(some 26), none, .mov (T 4)⟩, ⟨(some 27), none, .mov (T 6)⟩, ⟨(some 28), none, .build #[(0, 1), (1, 1)] [(.int .i64 (0)), (.int .i64 (0))] [0, 1] [(T 26), (T 27)]⟩, ⟨none, none, .mapUpdate 139 (T 25) (T 28) (.const (.int .i64 (3)))⟩])))))))) (.ops [⟨(some 47), none, .int2 .add (T 22) (.const (.int .i64 (1)))⟩, ⟨(some 22), none, .mov (T 47)⟩])))))))))) (.ops [⟨(some 48), none, .int2 .add (T 12) (.const (.int .i64 (1)))⟩, ⟨(some 12), none, .mov (T 48)⟩]))))))) (.seq (.ops [⟨(some 49), none, .mov (T 3)⟩, ⟨(some 2), none, .mov (T 49)⟩]) .ret))))
theorem fok91 : FnOk Try.prog 91 50 s91 [.tmp 2] := ⟨Try.f91, _, Try.func91, rfl, Try.ntmps91, by kernel_rfl, by kernel_rfl⟩
set_option maxHeartbeats 2000000 in
theorem verdicts_c (hn : 800 ≤ n) (hr : h.next + 7000 < far) (hfl : h.floor ≤ h.next) {vv sv tv : Value} {S : MB} (ho : OpS h vv sv tv S) :
    ∃ r h', call n (.func (.func 91) #[] #[]) [.agg ⟨wkL S vv sv tv⟩] h = some (.map (some r), h') ∧ MapF h' r key2 (vmK S S.nv 0) ∧ h.next ≤ r ∧ (∀ i, i < h.next → h'.get i = h.get i) ∧ h.next ≤ h'.next ∧ h'.next ≤ h.next + 20 ∧ h'.floor = h.floor := by
  obtain ⟨n, rfl⟩ : ∃ p, n = p + 1 := ⟨n - 1, by omega⟩
  obtain ⟨z0, z1, z3, _⟩ := ho.good.sizes
  suffices hsf : ∃ vv' h', call (n + 1) (.func (.func 91) #[] #[]) [.agg ⟨wkL S vv sv tv⟩] h = some (vv', h') ∧ ∃ r, vv' = .map (some r) ∧ MapF h' r key2 (vmK S S.nv 0) ∧ h.next ≤ r ∧ (∀ i, i < h.next → h'.get i = h.get i) ∧ h.next ≤ h'.next ∧ h'.next ≤ h.next + 20 ∧ h'.floor = h.floor by
    obtain ⟨_, h', e, r, rfl, q⟩ := hsf
    exact ⟨r, h', e, q⟩
  refine call_any0 fok91 rfl rfl (by simp) ?_
  simp only [s91, W_seq, W_ops]
  refine ops_box (cs := wkL S vv sv tv) (by omega) rfl (wk_one ho.y ho.one) fun g1 hx1 => ?_
  have n1 := hx1.next
  have f1 := hx1.floor
  obtain ⟨g2, em, hm2, ho2, n2, f2⟩ := mkmapF (h := g1) (by omega) key2
  have s12 : Sub All g1 g2 := AHeap.subOf ho2
  have r2 := hx1.row.mono s12
  have hop2 := ho.mono (hx1.sub.trans s12)
  have hlast : wrapF .i64 (S.last + 1) = S.last + 1 := wrap_in (by omega) (by omega)
  obtain ⟨W, hW⟩ : ∃ W : Nat, (W : Int) = S.last + 1 := ⟨(S.last + 1).toNat, by omega⟩
  rw [← vmK_zero (S := S)] at hm2
  simp only [rn0, rn1, rn2, rn3, rn4, rn5, rn6, rn7, rn8, if_true, if_false, Nat.le_refl, true_and, and_true, decide_true, decide_false, Bool.not_true, Bool.not_false, reduceIte, Nat.reduceEqDiff, Nat.reduceAdd, Nat.reduceMul, Nat.reduceSub, Nat.reduceLeDiff, Nat.reduceLT, x_mkmap, em, r2.ld, wkg, Nat.zero_add, Cells.len hop2.y.v]
  refine W_loop S.nv (fun k f g ms => ((∀ i, i ≠ g1.next → i < g2.next → g.get i = g2.get i) ∧ MapF g g1.next key2 (vmK S k 0) ∧ g2.next ≤ g.next ∧ g.next ≤ g2.next + 2 * k ∧ g.floor = h.floor) ∧ ms = [] ∧ f 1 = .pointer (some ⟨h.next, 0, none⟩) ∧ f 3 = .map (some g1.next) ∧ f 11 = .int .i64 (S.nv : Int) ∧ f 12 = .int .i64 (k : Int)) (by simp; omega) ?_ ?_ ?_
  · simp only [rn0, rn1, rn2, rn3, rn4, rn5, rn6, rn7, rn8, if_true, if_false, Nat.le_refl, true_and, and_true, decide_true, decide_false, Bool.not_true, Bool.not_false, reduceIte, Nat.reduceEqDiff, Nat.reduceAdd, Nat.reduceMul, Nat.reduceSub, Nat.reduceLeDiff, Nat.reduceLT, Int.natCast_zero]
    first | exact ⟨fun _ _ _ => trivial, hm2, by omega, by omega⟩ | exact ⟨⟨fun _ _ _ => trivial, hm2, by omega, by omega⟩, rfl⟩
  · rintro k f g ms hk ⟨⟨og, mg, ug, ng, fg⟩, rfl, p1, p3, p11, p12⟩
    have hk' : (k : Int) < (S.nv : Int) := by omega
    have hw : wrapF .i64 ((k : Int) + 1) = ((k + 1 : Nat) : Int) := by rw [wrap_in (by omega) (by omega)]; rfl
    have oldg : ∀ i, i < g1.next → g.get i = g1.get i := fun i hi => by rw [og i (by omega) (by omega), ho2 i hi]
    have rg : Row g h.next (wkL S vv sv tv) := hx1.row.mono (AHeap.subOf oldg)
    have hog : OpS g vv sv tv S := (ho.mono hx1.sub).mono (AHeap.subOf oldg)
    have ed := whenDone_c (n := n) (h := g) (by omega) (by omega) hog hk
    simp only [rn0, rn1, rn2, rn3, rn4, rn5, rn6, rn7, rn8, if_true, if_false, Nat.le_refl, true_and, and_true, decide_true, decide_false, Bool.not_true, Bool.not_false, reduceIte, Nat.reduceEqDiff, Nat.reduceAdd, Nat.reduceMul, Nat.reduceSub, Nat.reduceLeDiff, Nat.reduceLT, p1, p3, p11, p12, hk', rg.whole (n := 6) rfl, ed]
    refine step_new (vs := [.int .i64 (bLo S k), .int .i64 (bHi S k)]) (by omega) (by omega) rfl (by simp only [rn0, rn1, rn2, rn3, rn4, rn5, rn6, rn7, rn8, if_true, if_false, Nat.le_refl, true_and, and_true, decide_true, decide_false, Bool.not_true, Bool.not_false, reduceIte, Nat.reduceEqDiff, Nat.reduceAdd, Nat.reduceMul, Nat.reduceSub, Nat.reduceLeDiff, Nat.reduceLT]; rfl) rfl rfl rfl fun g4 hx4 => ?_
    have n4 := hx4.next
    have f4 := hx4.floor
    have rg4 := rg.mono hx4.sub
    have mg4 : MapF g4 g1.next key2 (vmK S k 0) := mg.keep (hx4.old _ mg.lt)
    simp only [rn0, rn1, rn2, rn3, rn4, rn5, rn6, rn7, rn8, if_true, if_false, Nat.le_refl, true_and, and_true, decide_true, decide_false, Bool.not_true, Bool.not_false, reduceIte, Nat.reduceEqDiff, Nat.reduceAdd, Nat.reduceMul, Nat.reduceSub, Nat.reduceLeDiff, Nat.reduceLT, p1, p3, p11, p12, rg4.ld, wkg, Nat.zero_add, hlast]
    rw [← hW]
    refine W_loop W (fun j f g' ms => ((∀ i, i ≠ g1.next → g'.get i = g4.get i) ∧ MapF g' g1.next key2 (vmK S k j) ∧ g'.next = g4.next ∧ g'.floor = g4.floor) ∧ ms = [] ∧ f 1 = .pointer (some ⟨h.next, 0, none⟩) ∧ f 3 = .map (some g1.next) ∧ f 4 = .int .i64 (k : Int) ∧ f 5 = .pointer (some ⟨g.next, 0, none⟩) ∧ f 11 = .int .i64 (S.nv : Int) ∧ f 12 = .int .i64 (k : Int) ∧ f 21 = .int .i64 (W : Int) ∧ f 22 = .int .i64 (j : Int)) (by simp; omega) ?_ ?_ ?_
    · simp only [rn0, rn1, rn2, rn3, rn4, rn5, rn6, rn7, rn8, if_true, if_false, Nat.le_refl, true_and, and_true, decide_true, decide_false, Bool.not_true, Bool.not_false, reduceIte, Nat.reduceEqDiff, Nat.reduceAdd, Nat.reduceMul, Nat.reduceSub, Nat.reduceLeDiff, Nat.reduceLT, p1, p3, p11, p12, Int.natCast_zero]
      first | exact ⟨fun _ _ => trivial, mg4⟩ | exact ⟨⟨fun _ _ => trivial, mg4⟩, rfl⟩ | exact mg4
    · rintro j f g' ms hj ⟨⟨og', mg', ng', fg'⟩, rfl, p1, p3, p4, p5, p11, p12, p21, p22⟩
      have hj' : (j : Int) < (W : Int) := by omega
      have hwj : wrapF .i64 ((j : Int) + 1) = ((j + 1 : Nat) : Int) := by rw [wrap_in (by omega) (by omega)]; rfl
      have hne : g.next ≠ g1.next := by omega
      have rd' : Row g' g.next [.int .i64 (bLo S k), .int .i64 (bHi S k)] := ⟨_, _, by rw [og' _ hne]; exact hx4.get⟩
      have l0 : ([Value.int .i64 (bLo S k), .int .i64 (bHi S k)] : List Value)[0]? = some (.int .i64 (bLo S k)) := rfl
      have l1 : ([Value.int .i64 (bLo S k), .int .i64 (bHi S k)] : List Value)[1]? = some (.int .i64 (bHi S k)) := rfl
      have upd : ∀ c, verdV S k j = c → ∃ g5, mapUpdateA Try.prog 139 g' (.map (some g1.next)) (.agg ⟨[.int .i64 (k : Int), .int .i64 (j : Int)]⟩) (.int .i64 c) = some (undef, g5) ∧ MapF g5 g1.next key2 (vmK S k (j + 1)) ∧ (∀ i, i ≠ g1.next → g5.get i = g4.get i) ∧ g5.next = g4.next ∧ g5.floor = g4.floor := fun c hc => by
        obtain ⟨g5, e5, hm5, ht5⟩ := updateF (h := g') key139 mg' (by omega) (by omega) ((k : Int), (j : Int)) c
        rw [← hc, vmK_step] at hm5
        exact ⟨g5, e5, hm5, fun i hi => by rw [ht5.old i hi, og' i hi], by rw [ht5.next, ng'], by rw [ht5.floor, fg']⟩
      by_cases c1 : bHi S k ≤ (j : Int)
      · obtain ⟨g5, e5, hm5, o5, n5, f5⟩ := upd 1 (by unfold verdV; rw [if_pos c1])
        simp only [rn0, rn1, rn2, rn3, rn4, rn5, rn6, rn7, rn8, if_true, if_false, Nat.le_refl, true_and, and_true, decide_true, decide_false, Bool.not_true, Bool.not_false, reduceIte, Nat.reduceEqDiff, Nat.reduceAdd, Nat.reduceMul, Nat.reduceSub, Nat.reduceLeDiff, Nat.reduceLT, p1, p3, p4, p5, p11, p12, p21, p22, hj', rd'.ld, Nat.zero_add, l1, c1, build_range, x_mapUpdate, e5, hwj]
        first | exact ⟨o5, hm5, n5, f5⟩ | exact ⟨⟨o5, hm5, n5, f5⟩, rfl⟩
      · by_cases c2 : (j : Int) < bLo S k
        · obtain ⟨g5, e5, hm5, o5, n5, f5⟩ := upd 2 (by unfold verdV; rw [if_neg c1, if_pos c2])
          simp only [rn0, rn1, rn2, rn3, rn4, rn5, rn6, rn7, rn8, if_true, if_false, Nat.le_refl, true_and, and_true, decide_true, decide_false, Bool.not_true, Bool.not_false, reduceIte, Nat.reduceEqDiff, Nat.reduceAdd, Nat.reduceMul, Nat.reduceSub, Nat.reduceLeDiff, Nat.reduceLT, p1, p3, p4, p5, p11, p12, p21, p22, hj', rd'.ld, Nat.zero_add, l0, l1, c1, c2, build_range, x_mapUpdate, e5, hwj]
          first | exact ⟨o5, hm5, n5, f5⟩ | exact ⟨⟨o5, hm5, n5, f5⟩, rfl⟩
        · obtain ⟨g5, e5, hm5, o5, n5, f5⟩ := upd 3 (by unfold verdV; rw [if_neg c1, if_neg c2])
          simp only [rn0, rn1, rn2, rn3, rn4, rn5, rn6, rn7, rn8, if_true, if_false, Nat.le_refl, true_and, and_true, decide_true, decide_false, Bool.not_true, Bool.not_false, reduceIte, Nat.reduceEqDiff, Nat.reduceAdd, Nat.reduceMul, Nat.reduceSub, Nat.reduceLeDiff, Nat.reduceLT, p1, p3, p4, p5, p11, p12, p21, p22, hj', rd'.ld, Nat.zero_add, l0, l1, c1, c2, build_range, x_mapUpdate, e5, hwj]
          first | exact ⟨o5, hm5, n5, f5⟩ | exact ⟨⟨o5, hm5, n5, f5⟩, rfl⟩
    · rintro f g' ms ⟨⟨og', mg', ng', fg'⟩, rfl, p1, p3, p4, p5, p11, p12, p21, p22⟩
      rw [vmK_end hW] at mg'
      simp only [rn0, rn1, rn2, rn3, rn4, rn5, rn6, rn7, rn8, if_true, if_false, Nat.le_refl, true_and, and_true, decide_true, decide_false, Bool.not_true, Bool.not_false, reduceIte, Nat.reduceEqDiff, Nat.reduceAdd, Nat.reduceMul, Nat.reduceSub, Nat.reduceLeDiff, Nat.reduceLT, p1, p3, p4, p5, p11, p12, p21, p22, Int.lt_irrefl, hw]
      have fin := And.intro (fun i (h1 : i ≠ g1.next) (h2 : i < g2.next) => (by rw [og' i h1, hx4.old i (by omega), og i h1 h2] : g'.get i = g2.get i)) (And.intro mg' (And.intro (by omega : g2.next ≤ g'.next) (And.intro (by omega : g'.next ≤ g2.next + 2 * (k + 1)) (by omega : g'.floor = h.floor))))
      first | exact fin | exact ⟨fin, rfl⟩
  · rintro f g ms ⟨⟨og, mg, ug, ng, fg⟩, rfl, p1, p3, p11, p12⟩
    simp only [rn0, rn1, rn2, rn3, rn4, rn5, rn6, rn7, rn8, if_true, if_false, Nat.le_refl, true_and, and_true, decide_true, decide_false, Bool.not_true, Bool.not_false, reduceIte, Nat.reduceEqDiff, Nat.reduceAdd, Nat.reduceMul, Nat.reduceSub, Nat.reduceLeDiff, Nat.reduceLT, p1, p3, p11, p12, Int.lt_irrefl]
    exact ⟨_, rfl, mg, by omega, fun i hi => by rw [og i (by omega) (by omega), ho2 i (by omega), hx1.old i hi], by omega, by omega, by omega⟩
end Go.Vm.Bt

namespace Go.Vm.Bt
open Go.Proofs Go.Vm.Vat Go.Vm.L2
set_option linter.unusedSimpArgs false
set_option linter.unusedVariables false
set_option maxRecDepth 10000
variable {n : Nat} {h : AHeap}
theorem p_conv8 {N : Nat} {f : Go.Vm.Fr} {x : Operand} {ty : TypeId} : plainF Try.prog N (.convert 5 3 x) ty f h = run8 (plainF Try.prog N (.convert 5 3 x) ty f) (valN N f x) h := by
  unfold run8
  split
  · rename_i a e1
    unfold plainF
    have : allB (fun x => plainV (valN N f x)) (Op.convert 5 3 x).operands.toList = true := by simp [Op.operands, allB, e1, plainV, plainE, plainCell]
    rw [this]
    have e : pureRun Try.prog (execOp (valN N f) (bare (.convert 5 3 x) ty)) = some (.value (.int .i64 (IntKind.wrap .i64 a))) := by
      show pureRun Try.prog (convert 5 3 (valN N f x) >>= fun a => pure (Next.value a)) = _
      rw [pureRun_bind, e1]
      have hc : pureRun Try.prog (convert 5 3 (.int .u8 a)) = some (.int .i64 (IntKind.wrap .i64 a)) := by
        unfold convert
        rw [pureRun_bind, pr_under Try.underlying5, Option.bind_some, pureRun_bind, pr_under Try.underlying3]
        rfl
      rw [hc]; rfl
    rw [e]
    rfl
  · rfl
theorem p_conv16 {N : Nat} {f : Go.Vm.Fr} {x : Operand} {ty : TypeId} : plainF Try.prog N (.convert 95 3 x) ty f h = run16 (plainF Try.prog N (.convert 95 3 x) ty f) (valN N f x) h := by
  unfold run16
  split
  · rename_i a e1
    unfold plainF
    have : allB (fun x => plainV (valN N f x)) (Op.convert 95 3 x).operands.toList = true := by simp [Op.operands, allB, e1, plainV, plainE, plainCell]
    rw [this]
    have e : pureRun Try.prog (execOp (valN N f) (bare (.convert 95 3 x) ty)) = some (.value (.int .i64 (IntKind.wrap .i64 a))) := by
      show pureRun Try.prog (convert 95 3 (valN N f x) >>= fun a => pure (Next.value a)) = _
      rw [pureRun_bind, e1]
      have hc : pureRun Try.prog (convert 95 3 (.int .u16 a)) = some (.int .i64 (IntKind.wrap .i64 a)) := by
        unfold convert
        rw [pureRun_bind, pr_under Try.underlying95, Option.bind_some, pureRun_bind, pr_under Try.underlying3]
        rfl
      rw [hc]; rfl
    rw [e]
    rfl
  · rfl
end Go.Vm.Bt

namespace Go.Vm.Bt
open Go.Proofs Go.Vm.Vat Go.Vm.L2
set_option linter.unusedSimpArgs false
set_option linter.unusedVariables false
set_option maxRecDepth 10000
variable {n : Nat} {h : AHeap}
abbrev uSz (S : MB) : Nat → Nat := sz (uLo S) (uHi S)
theorem Good.sz {S : MB} (hG : Good S) {j : Nat} (hj : j < numU S) : ((uSz S j : Nat) : Int) = uHi S j - uLo S j + 1 ∧ 1 ≤ uSz S j ∧ uSz S j ≤ 10 := by
  obtain ⟨h1, h2, h3⟩ := hG.u j hj
  have : ((uSz S j : Nat) : Int) = uHi S j - uLo S j + 1 := Int.toNat_of_nonneg (by omega)
  omega
theorem nthU_is {S : MB} {m j : Nat} (hj : j < numU S) : nthU S m j = uLo S j + ((divN (uSz S) m j % uSz S j : Nat) : Int) := by unfold nthU nthB; rw [if_pos hj]
theorem build_c1 {x : Int} : buildA (fun x => (#[(0, 1), (1, 1)] : Array (Nat × Nat))[x]?) ⟨[.int .i64 0, .slice none 0 0]⟩ [0] h [.int .i64 x] = some (.agg ⟨[.int .i64 x, .slice none 0 0]⟩, h) := by
  unfold buildA
  have e : Instr.fill (fun x => (#[(0, 1), (1, 1)] : Array (Nat × Nat))[x]?) #[.int .i64 0, .slice none 0 0] ([0].zip [.int .i64 x]) = some #[.int .i64 x, .slice none 0 0] := by
    simp [Instr.fill, Value.cells]
  rw [e]
def s69 : SCode := (.seq (.ops [⟨(some 2), none, .box (T 0)⟩, ⟨(some 4), none, .alloc [(.int .i64 (0)), (.slice none 0 0)]⟩]) (.seq (.draw [⟨.free, ⟨(some 8), none, .fieldAddr 0 (T 2)⟩⟩, ⟨.free, ⟨(some 9), none, .fieldAddr 0 (T 8)⟩⟩, ⟨.rd, ⟨(some 10), none, .load1 (T 9)⟩⟩, ⟨.free, ⟨(some 11), none, .mov (T 1)⟩⟩, ⟨.free, ⟨(some 12), none, .fieldAddr 0 (T 2)⟩⟩, ⟨.rd1, ⟨(some 13), none, .loadN 2 (T 12)⟩⟩, ⟨.up, ⟨(some 14), none, .call (.func 108) [(T 13)]⟩⟩, ⟨.free, ⟨(some 15), none, .plain (.binOp .rem 3 (T 11) (T 14) 3) 3⟩⟩, ⟨.free, ⟨(some 16), none, .int2 .add (T 10) (T 15)⟩⟩, ⟨.free, ⟨(some 17), none, .build #[(0, 1), (1, 1)] [(.int .i64 (0)), (.slice none 0 0)] [0] [(T 16)]⟩⟩, ⟨.up, ⟨(some 5), none, .alloc [(.int .i64 (0)), (.slice none 0 0)]⟩⟩, ⟨.any, ⟨none, none, .store 2 (T 5) (T 17)⟩⟩]) (.seq (.ops [⟨(some 18), none, .mov (T 1)⟩, ⟨(some 19), none, .fieldAddr 0 (T 2)⟩, ⟨(some 20), none, .loadN 2 (T 19)⟩, ⟨(some 21), none, .call (.func 108) [(T 20)]⟩, ⟨(some 22), none, .plain (.binOp .quo 3 (T 18) (T 21) 3) 3⟩, ⟨(some 1), none, .mov (T 22)⟩]) (.seq (.seq (.ops [⟨(some 6), none, .mov (.const (.int .i64 (0)))⟩]) (.block 0 (.loop (.seq (.seq (.ops [⟨(some 23), none, .mov (T 6)⟩, ⟨(some 24), none, .fieldAddr 2 (T 2)⟩, ⟨(some 25), none, .load1 (T 24)⟩, ⟨(some 26), none, .len (T 25)⟩, ⟨(some 27), none, .int2 .lss (T 23) (T 26)⟩]) (.cond (T 27) .skip (.exit 0))) (.seq (.block 1 (.seq (.ops [⟨(some 30), none, .fieldAddr 2 (T 2)⟩, ⟨(some 31), none, .load1 (T 30)⟩, ⟨(some 32), none, .mov (T 6)⟩, ⟨(some 33), none, .idxSl 4 (T 31) (T 32)⟩, ⟨(some 34), none, .fieldAddr 0 (T 33)⟩, ⟨(some 35), none, .loadN 2 (T 34)⟩, ⟨(some 7), none, .alloc [(.int .i64 (0)), (.int .i64 (0))]⟩, ⟨none, none, .store 2 (T 7) (T 35)⟩]) (.seq (.draw [⟨.free, ⟨(some 36), none, .fieldAddr 1 (T 5)⟩⟩, ⟨.rd, ⟨(some 37), none, .load1 (T 36)⟩⟩, ⟨.free, ⟨(some 38), none, .fieldAddr 0 (T 7)⟩⟩, ⟨.rd, ⟨(some 39), none, .load1 (T 38)⟩⟩, ⟨.free, ⟨(some 40), none, .mov (T 1)⟩⟩, ⟨.rd1, ⟨(some 41), none, .loadN 2 (T 7)⟩⟩, ⟨.up, ⟨(some 42), none, .call (.func 108) [(T 41)]⟩⟩, ⟨.free, ⟨(some 43), none, .plain (.binOp .rem 3 (T 40) (T 42) 3) 3⟩⟩, ⟨.free, ⟨(some 44), none, .int2 .add (T 39) (T 43)⟩⟩, ⟨.up, ⟨(some 45), none, .bslice 1 1 [(.int .i64 (0))] [0] [(T 44)]⟩⟩, ⟨.any, ⟨(some 46), none, .append 1 8 (T 37) (T 45)⟩⟩, ⟨.free, ⟨(some 47), none, .fieldAddr 1 (T 5)⟩⟩, ⟨.any, ⟨none, none, .store 1 (T 47) (T 46)⟩⟩]) (.ops [⟨(some 48), none, .mov (T 1)⟩, ⟨(some 49), none, .loadN 2 (T 7)⟩, ⟨(some 50), none, .call (.func 108) [(T 49)]⟩, ⟨(some 51), none, .plain (.binOp .quo 3 (T 48) (T 50) 3) 3⟩, ⟨(some 1), none, .mov (T 51)⟩])))) (.ops [⟨(some 28), none, .mov (T 6)⟩, ⟨(some 29), none, .int2 .add (T 28) (.const (.int .i64 (1)))⟩, ⟨(some 6), none, .mov (T 29)⟩])))))) (.seq (.ops [⟨(some 52), none, .loadN 2 (T 5)⟩, ⟨none, none, .store 2 (T 4) (T 52)⟩]) .ret)))))
theorem fok69 : FnOk Try.prog 69 53 s69 [.cellN 4 2] := ⟨Try.f69, _, Try.func69, rfl, Try.ntmps69, by kernel_rfl, by kernel_rfl⟩
set_option maxHeartbeats 1000000 in
theorem nthG_c (hn : 100 ≤ n) (hr : h.next + 100 < far) (hfl : h.floor ≤ h.next) {vv sv : Value} {S : MB} (hy : BeatR h vv sv S) (hG : Good S) {m : Nat} (hm : m ≤ 100000) :
    ∃ cw h', call n (.func (.func 69) #[] #[]) [.agg ⟨beL S vv sv⟩, .int .i64 (m : Int)] h = some (.agg ⟨coL (nthU S m 0) cw⟩, h') ∧ CouR h' cw S (nthU S m) ∧ (∀ i, i < h.next → h'.get i = h.get i) ∧ h.next ≤ h'.next ∧ h'.next ≤ h.next + 40 ∧ h'.floor = h.floor ∧ GrowC h.next h' cw 1 S.nv (fun i _ => .int .i64 (nthU S m (i + 1))) := by
  obtain ⟨n, rfl⟩ : ∃ p, n = p + 1 := ⟨n - 1, by omega⟩
  have h0 : numU S = S.nv + 1 := by unfold numU; omega
  obtain ⟨z0, z1, z3, _⟩ := hG.sizes
  suffices hs : ∃ v h', call (n + 1) (.func (.func 69) #[] #[]) [.agg ⟨beL S vv sv⟩, .int .i64 (m : Int)] h = some (v, h') ∧ ∃ cw, v = .agg ⟨coL (nthU S m 0) cw⟩ ∧ CouR h' cw S (nthU S m) ∧ (∀ i, i < h.next → h'.get i = h.get i) ∧ h.next ≤ h'.next ∧ h'.next ≤ h.next + 40 ∧ h'.floor = h.floor ∧ GrowC h.next h' cw 1 S.nv (fun i _ => .int .i64 (nthU S m (i + 1))) by
    obtain ⟨v, h', e, cw, rfl, q⟩ := hs
    exact ⟨cw, h', e, q⟩
  have hgen : ∀ j, j < numU S → ∀ lo hi : Int, lo = uLo S j → hi = uHi S j → (∀ g' : AHeap, g'.next < far → call n (.func (.func 108) #[] #[]) [.agg ⟨[.int .i64 lo, .int .i64 hi]⟩] g' = some (.int .i64 ((uSz S j : Nat) : Int), g')) ∧ ¬ ((uSz S j : Nat) : Int) = 0 ∧ ((divN (uSz S) m j : Nat) : Int).tmod ((uSz S j : Nat) : Int) = ((divN (uSz S) m j % uSz S j : Nat) : Int) ∧ wrapF .i64 (lo + ((divN (uSz S) m j % uSz S j : Nat) : Int)) = nthU S m j ∧ IntKind.wrap .i64 (((divN (uSz S) m j : Nat) : Int).tdiv ((uSz S j : Nat) : Int)) = ((divN (uSz S) m (j + 1) : Nat) : Int) := by
    intro j hj lo hi el eh
    obtain ⟨a1, a2, a3⟩ := hG.u j hj
    obtain ⟨a4, a5, a6⟩ := hG.sz hj
    have hmd := Nat.mod_lt (divN (uSz S) m j) (show 0 < uSz S j by omega)
    have hle := divN_le' (s := uSz S) (m := m) j
    subst el eh
    refine ⟨fun g' hg' => ?_, by omega, rfl, by rw [nthU_is hj]; exact wrap_in (by omega) (by omega), ?_⟩
    · rw [size_c (n := n) (h := g') (by omega) hg', wrap_in (z := uHi S j - uLo S j) (by omega) (by omega), wrap_in (by omega) (by omega), a4]
    · have e : ((divN (uSz S) m j : Nat) : Int).tdiv ((uSz S j : Nat) : Int) = ((divN (uSz S) m j / uSz S j : Nat) : Int) := rfl
      have hd := Nat.div_le_self (divN (uSz S) m j) (uSz S j)
      rw [e, IntKind.wrap_i64]
      simp only [divN]
      generalize divN (uSz S) m j / uSz S j = dq at hd
      omega
  refine call_any0 fok69 rfl rfl (by simp) ?_
  simp only [s69, W_seq, W_ops]
  refine ops_box (cs := beL S vv sv) (by omega) rfl hy.one fun g1 hx1 => ?_
  have n1 := hx1.next
  have f1' := hx1.floor
  refine ops_alloc (cs := coL 0 nilS) (by omega) rfl fun g2 hx2 => ?_
  have n2 := hx2.next
  have f2' := hx2.floor
  have r1 := hx1.row.mono hx2.sub
  have old2 : ∀ i, i < h.next → g2.get i = h.get i := fun i hi => by rw [hx2.old i (by omega), hx1.old i hi]
  obtain ⟨es, y2, y3, y4, y5⟩ := hgen 0 (by omega) S.slo S.shi rfl rfl
  rw [show divN (uSz S) m 0 = m from rfl] at y3 y4 y5
  simp only [rn0, rn1, rn2, rn3, rn4, rn5, rn6, rn7, rn8, if_true, if_false, Nat.le_refl, true_and, and_true, decide_true, decide_false, Bool.not_true, Bool.not_false, reduceIte, Nat.reduceEqDiff, Nat.reduceAdd, Nat.reduceMul, Nat.reduceSub, Nat.reduceLeDiff, Nat.reduceLT]
  refine W_draw All ?_
  simp only [rn0, rn1, rn2, rn3, rn4, rn5, rn6, rn7, rn8, if_true, if_false, Nat.le_refl, true_and, and_true, decide_true, decide_false, Bool.not_true, Bool.not_false, reduceIte, Nat.reduceEqDiff, Nat.reduceAdd, Nat.reduceMul, Nat.reduceSub, Nat.reduceLeDiff, Nat.reduceLT, r1.ld, beg, be_rng r1, Nat.zero_add, Nat.add_zero, eqV_int, es g2 (by omega), valN_tmp, Nat.reduceLT, p_rem, r_rem y2, y3, y4, build_c1]
  refine up_row (cs := coL 0 nilS) (by omega) rfl rfl (fun g3 hx => hx.sub) fun g3 hx3 => ?_
  have n3 := hx3.next
  have f3' := hx3.floor
  simp only [rn0, rn1, rn2, rn3, rn4, rn5, rn6, rn7, rn8, if_true, if_false, Nat.le_refl, true_and, and_true, decide_true, decide_false, Bool.not_true, Bool.not_false, reduceIte, Nat.reduceEqDiff, Nat.reduceAdd, Nat.reduceMul, Nat.reduceSub, Nat.reduceLeDiff, Nat.reduceLT]
  refine up_store (b := g2.next) (off := 0) (vs := coL (nthU S m 0) nilS) rfl hx3.get (by omega) (by omega) rfl rfl rfl (by simp [coL]) (fun _ _ => trivial) fun g4 hs4 => ?_
  rw [splice_all (by rfl)] at hs4
  have n4 := hs4.next
  have f4' := hs4.floor
  have old4 : ∀ i, i < g2.next → g4.get i = g2.get i := fun i hi => by rw [hs4.old i (by omega), hx3.old i hi]
  have r14 : Row g4 h.next (beL S vv sv) := r1.mono (AHeap.subOf old4)
  simp only [rn0, rn1, rn2, rn3, rn4, rn5, rn6, rn7, rn8, if_true, if_false, Nat.le_refl, true_and, and_true, decide_true, decide_false, Bool.not_true, Bool.not_false, reduceIte, Nat.reduceEqDiff, Nat.reduceAdd, Nat.reduceMul, Nat.reduceSub, Nat.reduceLeDiff, Nat.reduceLT, be_rng r14, es g4 (by omega), valN_tmp, Nat.reduceLT, p_quo, r_quo y2, y5]
  refine W_loop S.nv (fun k f g ms => (∃ w, (∀ i, i < g2.next → g.get i = g2.get i) ∧ g.floor = h.floor ∧ g4.next ≤ g.next ∧ g.next ≤ g4.next + 4 * k ∧ GrowC g4.next g w 1 k (fun i _ => .int .i64 (nthU S m (i + 1))) ∧ g.get g2.next = some (.row (coL (nthU S m 0) w) true 0)) ∧ ms = [] ∧ f 1 = .int .i64 ((divN (uSz S) m (k + 1) : Nat) : Int) ∧ f 2 = .pointer (some ⟨h.next, 0, none⟩) ∧ f 4 = .pointer (some ⟨g1.next, 0, none⟩) ∧ f 5 = .pointer (some ⟨g2.next, 0, none⟩) ∧ f 6 = .int .i64 (k : Int)) (by simp; omega) ?_ ?_ ?_
  · simp only [rn0, rn1, rn2, rn3, rn4, rn5, rn6, rn7, rn8, if_true, if_false, Nat.le_refl, true_and, and_true, decide_true, decide_false, Bool.not_true, Bool.not_false, reduceIte, Nat.reduceEqDiff, Nat.reduceAdd, Nat.reduceMul, Nat.reduceSub, Nat.reduceLeDiff, Nat.reduceLT, Nat.zero_add, Int.natCast_zero]
    exact ⟨nilS, old4, by omega, by omega, .nil, hs4.get⟩
  · rintro k f g ms hk ⟨⟨w, hs, hfg, hup, hnx, gv, grow⟩, rfl, p1, p2, p4, p5, p6⟩
    have hk' : (k : Int) < (S.nv : Int) := by omega
    have hw : wrapF .i64 ((k : Int) + 1) = ((k + 1 : Nat) : Int) := by rw [wrap_in (by omega) (by omega)]; rfl
    have oldg : ∀ i, i < h.next → g.get i = h.get i := fun i hi => by rw [hs i (by omega), old2 i hi]
    have hyg := hy.mono (AHeap.subOf oldg)
    have rg : Row g h.next (beL S vv sv) := r1.mono (AHeap.subOf hs)
    simp only [rn0, rn1, rn2, rn3, rn4, rn5, rn6, rn7, rn8, if_true, if_false, Nat.le_refl, true_and, and_true, decide_true, decide_false, Bool.not_true, Bool.not_false, reduceIte, Nat.reduceEqDiff, Nat.reduceAdd, Nat.reduceMul, Nat.reduceSub, Nat.reduceLeDiff, Nat.reduceLT, p1, p2, p4, p5, p6, rg.ld, beg, Nat.zero_add, Cells.len hyg.v, hk', Cells.idx hyg.v hk, Cells.fld hyg.v hk, need_ld hyg hk]
    refine step_new (vs := [.int .i64 (S.nlo k), .int .i64 (S.nhi k)]) (by omega) (by omega) rfl (by simp only [rn0, rn1, rn2, rn3, rn4, rn5, rn6, rn7, rn8, if_true, if_false, Nat.le_refl, true_and, and_true, decide_true, decide_false, Bool.not_true, Bool.not_false, reduceIte, Nat.reduceEqDiff, Nat.reduceAdd, Nat.reduceMul, Nat.reduceSub, Nat.reduceLeDiff, Nat.reduceLT]; rfl) rfl rfl rfl fun g5 hx5 => ?_
    have n5 := hx5.next
    have f5 := hx5.floor
    have gv5 := gv.sub hx5.sub
    have grow5 : g5.get g2.next = _ := hx5.sub _ _ _ _ trivial grow
    have rt : Row g5 g2.next _ := ⟨_, _, grow5⟩
    have w5 := hx5.row.whole (n := 2) rfl
    obtain ⟨esz, x2, x3, x4, x5⟩ := hgen (k + 1) (by omega) (S.nlo k) (S.nhi k) uLo_succ.symm uHi_succ.symm
    have ne1 : NeB w g2.next := neB_of gv5 (by left; omega)
    have ne2 : NeB w g.next := neB_of gv (by right; omega)
    simp only [rn0, rn1, rn2, rn3, rn4, rn5, rn6, rn7, rn8, if_true, if_false, Nat.le_refl, true_and, and_true, decide_true, decide_false, Bool.not_true, Bool.not_false, reduceIte, Nat.reduceEqDiff, Nat.reduceAdd, Nat.reduceMul, Nat.reduceSub, Nat.reduceLeDiff, Nat.reduceLT]
    refine W_draw (NeB w) ?_
    simp only [rn0, rn1, rn2, rn3, rn4, rn5, rn6, rn7, rn8, if_true, if_false, Nat.le_refl, true_and, and_true, decide_true, decide_false, Bool.not_true, Bool.not_false, reduceIte, Nat.reduceEqDiff, Nat.reduceAdd, Nat.reduceMul, Nat.reduceSub, Nat.reduceLeDiff, Nat.reduceLT, rd_1, rd_N, rd_neb, ne1, ne2, p1, p2, p4, p5, p6, rt.ld, hx5.row.ld, w5, cog, Nat.zero_add, List.getElem?_cons_zero, gv5.cells.self, eqV_int, self_two, esz g5 (by omega), valN_tmp, Nat.reduceLT, p_rem, r_rem x2, x3, x4, sl_int]
    refine up_slice (by omega) rfl (fun g6 hx i cs w gr _ e => hx.sub i cs w gr trivial e) fun g6 hx6 => ?_
    have n6 := hx6.next
    obtain ⟨w', g7, e7, gv7, o7, n7, f7, old7, u7⟩ := grow_push2 (h := g5) (bytes := 8) gv5 (by omega) (by omega) (by omega) hx6 rfl rfl (fun j hj => by rw [one_get j hj]) (by simp [maxBytes]; omega) (by simp [maxBytes]; omega)
    simp only [rn0, rn1, rn2, rn3, rn4, rn5, rn6, rn7, rn8, if_true, if_false, Nat.le_refl, true_and, and_true, decide_true, decide_false, Bool.not_true, Bool.not_false, reduceIte, Nat.reduceEqDiff, Nat.reduceAdd, Nat.reduceMul, Nat.reduceSub, Nat.reduceLeDiff, Nat.reduceLT, rd_1, rd_N, rd_neb, ne1, ne2, p1, p2, p4, p5, p6, e7, Nat.zero_add]
    refine ⟨by omega, ?_⟩
    refine up_store (b := g2.next) (off := 1) (vs := [w']) rfl (by rw [old7 _ (by omega) ne1]; exact grow5) (by omega) (by omega) (cells1 o7) (by simp [allB, o7]) rfl (by simp [coL]) (fun _ _ => trivial) fun g8 hs8 => ?_
    have n8 := hs8.next
    have f8 := hs8.floor
    have w8 : loadAgg 2 g8 (.pointer (some ⟨g.next, 0, none⟩)) = some (.agg ⟨[.int .i64 (S.nlo k), .int .i64 (S.nhi k)]⟩) := by
      refine Row.whole (n := 2) ⟨true, 0, ?_⟩ rfl
      rw [hs8.old _ (by omega), old7 _ (by omega) ne2]
      exact hx5.get
    simp only [rn0, rn1, rn2, rn3, rn4, rn5, rn6, rn7, rn8, if_true, if_false, Nat.le_refl, true_and, and_true, decide_true, decide_false, Bool.not_true, Bool.not_false, reduceIte, Nat.reduceEqDiff, Nat.reduceAdd, Nat.reduceMul, Nat.reduceSub, Nat.reduceLeDiff, Nat.reduceLT, p1, p2, p4, p5, p6, w8, esz g8 (by omega), valN_tmp, Nat.reduceLT, p_quo, r_quo x2, x5, hw]
    exact ⟨w', fun i hi => by rw [hs8.old i (by omega), old7 i (by omega) (neB_of gv5 (by left; omega)), hx5.old i (by omega), hs i hi], by omega, by omega, by omega, gv7.keep hs8.keep (by omega), hs8.get⟩
  rintro f ga ms ⟨⟨w', hsa, hfa, hupa, hnxa, gva, growa⟩, rfl, p1, p2, p4, p5, p6⟩
  have olda : ∀ i, i < h.next → ga.get i = h.get i := fun i hi => by rw [hsa i (by omega), old2 i hi]
  have hya := hy.mono (AHeap.subOf olda)
  have rga : Row ga h.next (beL S vv sv) := r1.mono (AHeap.subOf hsa)
  have hm3 : ga.get g1.next = some (.row (coL 0 nilS) true 0) := by rw [hsa _ (by omega)]; exact hx2.get
  have rca : Row ga g2.next (coL (nthU S m 0) w') := ⟨_, _, growa⟩
  simp only [rn0, rn1, rn2, rn3, rn4, rn5, rn6, rn7, rn8, if_true, if_false, Nat.le_refl, true_and, and_true, decide_true, decide_false, Bool.not_true, Bool.not_false, reduceIte, Nat.reduceEqDiff, Nat.reduceAdd, Nat.reduceMul, Nat.reduceSub, Nat.reduceLeDiff, Nat.reduceLT, p1, p2, p4, p5, p6, rga.ld, beg, Nat.zero_add, Cells.len hya.v, Int.lt_irrefl, rca.whole (n := 2) rfl]
  refine step_store (b := g1.next) (off := 0) (vs := coL (nthU S m 0) w') rfl hm3 (by omega) (by omega) rfl (by simp [coL, allB, gva.one, one_int]) rfl (by simp [coL]) fun gb hsb => ?_
  rw [splice_all (by rfl)] at hsb
  have nb := hsb.next
  have fb := hsb.floor
  simp only [rn0, rn1, rn2, rn3, rn4, rn5, rn6, rn7, rn8, if_true, if_false, Nat.le_refl, true_and, and_true, decide_true, decide_false, Bool.not_true, Bool.not_false, reduceIte, Nat.reduceEqDiff, Nat.reduceAdd, Nat.reduceMul, Nat.reduceSub, Nat.reduceLeDiff, Nat.reduceLT, p4, res_cellN, hsb.row.whole (n := 2) rfl]
  have gvb := gva.keep hsb.keep (by omega)
  exact ⟨_, rfl, gvb.cells, fun i hi => by rw [hsb.old i (by omega), olda i hi], by omega, by omega, by omega, gvb.le (by omega)⟩
end Go.Vm.Bt

namespace Go.Vm.Bt
open Go.Proofs Go.Vm.Vat Go.Vm.L2
set_option linter.unusedSimpArgs false
set_option linter.unusedVariables false
set_option maxRecDepth 10000
variable {n : Nat} {h : AHeap}
structure CouIn (h : AHeap) (v r1 : Value) (S : MB) (u : Nat → Int) : Prop where
  cou : CouR h r1 S u
  b1 : ∀ x m c, r1 = .slice (some x) m c → x.block < h.next ∧ NeB v x.block
def cosC (l : List (Nat → Int)) (R1 : Nat → Value) (k j : Nat) : Value := if j = 0 then .int .i64 ((l.getD k fun _ => 0) 0) else R1 k
structure CosG (B : Nat) (h : AHeap) (v : Value) (S : MB) (l : List (Nat → Int)) (R1 : Nat → Value) : Prop where
  g : GrowC B h v 2 l.length (cosC l R1)
  t : ∀ k, k < l.length → CouIn h v (R1 k) S (l.getD k fun _ => 0)
def CoursesL (h : AHeap) (v : Value) (S : MB) (l : List (Nat → Int)) : Prop := ∃ R1 : Nat → Value, Cells h v 2 l.length (cosC l R1) ∧ ∀ k, k < l.length → CouR h (R1 k) S (l.getD k fun _ => 0)
theorem CoursesL.mono {g : AHeap} {v : Value} {S : MB} {l : List (Nat → Int)} (hc : CoursesL h v S l) (hs : Sub All h g) : CoursesL g v S l := by
  obtain ⟨R, h1, h2⟩ := hc
  exact ⟨R, h1.mono hs, fun k hk => Cells.mono (h2 k hk) hs⟩
theorem CosG.nil {B : Nat} {S : MB} : CosG B h nilS S [] (fun _ => nilS) := ⟨.nil, fun k hk => absurd hk (Nat.not_lt_zero _)⟩
theorem CouIn.old {g : AHeap} {v r1 : Value} {S : MB} {u : Nat → Int} (ht : CouIn h v r1 S u) (ho : ∀ i, i < h.next → NeB v i → g.get i = h.get i) (hn : h.next ≤ g.next) : CouIn g v r1 S u :=
  ⟨cells_at ht.cou fun a k c e hlt => ho _ hlt (ht.b1 a k c e).2, fun x m c e => ⟨by have := (ht.b1 x m c e).1; omega, (ht.b1 x m c e).2⟩⟩
theorem CosG.old {B : Nat} {g : AHeap} {v : Value} {S : MB} {l : List (Nat → Int)} {R1 : Nat → Value} (ht : CosG B h v S l R1) (ho : ∀ i, i < h.next → g.get i = h.get i) (hn : h.next ≤ g.next) : CosG B g v S l R1 :=
  ⟨GrowC.at' ht.g fun a k c e => ho _ (ht.g.block e).2, fun k hk => (ht.t k hk).old (fun i hi _ => ho i hi) hn⟩
theorem CosG.push {B : Nat} {g1 : AHeap} {v r1 : Value} {S : MB} {l : List (Nat → Int)} {R1 : Nat → Value} {u : Nat → Int} (ht : CosG B h v S l R1) (hB : h.floor ≤ B) (hf : h.next + 2 < far) (hBn : B ≤ h.next) (hx : New h g1 (coL (u 0) r1) 0) (hu : CouIn h v r1 S u) (o1 : oneCell r1 = true) (hl : l.length ≤ 5000) :
    ∃ v' g2, appendA 2 32 g1 v (.slice (some ⟨h.next, 0, none⟩) 1 1) = some (v', g2) ∧ CosG B g2 v' S (l ++ [u]) (fun k => if k = l.length then r1 else R1 k) ∧ oneCell v' = true ∧ g2.next = h.next + 2 ∧ g2.floor = h.floor ∧ (∀ i, i < h.next → NeB v i → g2.get i = h.get i) := by
  have hlen : (l ++ [u]).length = l.length + 1 := by simp
  have hg : GrowC B h v 2 l.length (cosC (l ++ [u]) (fun k => if k = l.length then r1 else R1 k)) := growC_congr ht.g fun k j hk hj => by
    have : ¬ k = l.length := by omega
    simp only [cosC, this, if_false]
    rw [List.getD_eq_getElem?_getD, List.getD_eq_getElem?_getD, List.getElem?_append_left hk]
  obtain ⟨g2, e, gv, n2, f2, o2', u2⟩ := grow_push3 (bytes := 32) hg hB hf hBn hx rfl (by simp [coL, allB, o1, one_int]) (fun j hj => by
    have hlast : ((l ++ [u]).getD l.length fun _ => 0) = u := by rw [List.getD_eq_getElem?_getD, List.getElem?_append_right (Nat.le_refl _)]; simp
    simp only [cosC, if_true, hlast]
    rcases j with _ | _ | j
    · rfl
    · rfl
    · omega) (by simp [maxBytes]; omega) (by simp [maxBytes]; omega)
  refine ⟨_, g2, e, ⟨by rw [hlen]; exact gv, fun k hk => ?_⟩, rfl, n2, f2, o2'⟩
  have fresh : ∀ i, i < h.next → NeB (.slice (some ⟨h.next + 1, 0, none⟩) (l.length + 1) unk) i := fun i hi b m c e => by cases e; show i ≠ h.next + 1; omega
  have re : ∀ {a : Value} {w : Nat → Int}, CouIn h v a S w → CouIn g2 (.slice (some ⟨h.next + 1, 0, none⟩) (l.length + 1) unk) a S w := fun {a w} hi => by
    have h1 := hi.old (g := g2) o2' (by omega)
    exact ⟨h1.cou, fun x m c e => ⟨(h1.b1 x m c e).1, fresh _ (hi.b1 x m c e).1⟩⟩
  by_cases c : k = l.length
  · subst c
    have hlast : ((l ++ [u]).getD l.length fun _ => 0) = u := by rw [List.getD_eq_getElem?_getD, List.getElem?_append_right (Nat.le_refl _)]; simp
    simp only [if_true, hlast]
    exact re hu
  · have hk' : k < l.length := by omega
    simp only [c, if_false]
    rw [List.getD_eq_getElem?_getD, List.getElem?_append_left hk', ← List.getD_eq_getElem?_getD]
    exact re (ht.t k hk')
def s67 : SCode := (.seq (.ops [⟨(some 1), none, .box (T 0)⟩, ⟨(some 2), none, .mov (.const (.slice none 0 0))⟩]) (.seq (.ops [⟨(some 3), none, .mov (.const (.slice none 0 0))⟩]) (.seq (.seq (.ops [⟨(some 4), none, .mov (.const (.int .i64 (0)))⟩]) (.block 0 (.loop (.seq (.seq (.ops [⟨(some 6), none, .mov (T 4)⟩, ⟨(some 7), none, .loadN 5 (T 1)⟩, ⟨(some 8), none, .call (.func 70) [(T 7)]⟩, ⟨(some 9), none, .int2 .lss (T 6) (T 8)⟩]) (.cond (T 9) .skip (.exit 0))) (.seq (.block 1 (.seq (.ops [⟨(some 12), none, .loadN 5 (T 1)⟩, ⟨(some 13), none, .mov (T 4)⟩, ⟨(some 14), none, .call (.func 69) [(T 12), (T 13)]⟩, ⟨(some 5), none, .alloc [(.int .i64 (0)), (.slice none 0 0)]⟩, ⟨none, none, .store 2 (T 5) (T 14)⟩]) (.seq (.draw [⟨.rd1, ⟨(some 15), none, .loadN 5 (T 1)⟩⟩, ⟨.rd1, ⟨(some 16), none, .loadN 2 (T 5)⟩⟩, ⟨.up, ⟨(some 17), none, .call (.func 85) [(T 15), (T 16)]⟩⟩, ⟨.rd, ⟨(some 18), none, .loadN 5 (T 1)⟩⟩, ⟨.any, ⟨(some 19), none, .call (.func 75) [(T 18)]⟩⟩, ⟨.free, ⟨(some 20), none, .int2 .eql (T 17) (T 19)⟩⟩]) (.cond (T 20) (.ops [⟨(some 21), none, .mov (T 3)⟩, ⟨(some 22), none, .loadN 2 (T 5)⟩, ⟨(some 23), none, .bslice 2 1 [(.int .i64 (0)), (.slice none 0 0)] [0] [(T 22)]⟩, ⟨(some 24), none, .append 2 32 (T 21) (T 23)⟩, ⟨(some 3), none, .mov (T 24)⟩]) .skip)))) (.ops [⟨(some 10), none, .mov (T 4)⟩, ⟨(some 11), none, .int2 .add (T 10) (.const (.int .i64 (1)))⟩, ⟨(some 4), none, .mov (T 11)⟩])))))) (.seq (.ops [⟨(some 25), none, .mov (T 3)⟩, ⟨(some 2), none, .mov (T 25)⟩]) .ret))))
end Go.Vm.Bt

namespace Go.Vm.Bt
open Go.Proofs Go.Vm.Vat Go.Vm.L2
set_option linter.unusedSimpArgs false
set_option linter.unusedVariables false
set_option maxRecDepth 10000
variable {n : Nat} {h : AHeap}
noncomputable def errF (S : MB) (fine : Bool) : Int := open Classical in if faultS S ≠ 0 then faultS S else if fine = false then 2 else if truthsS S = [] then 11 else 0
theorem errF_s {S : MB} : errF S true = errS S := by unfold errF errS; simp
def s46 : SCode := (.seq (.ops [⟨(some 3), none, .box (T 0)⟩, ⟨(some 6), none, .alloc [(.int .i64 (0)), (.int .i64 (0))]⟩]) (.seq (.ops [⟨(some 10), none, .build #[(0, 1), (1, 1)] [(.int .i64 (0)), (.int .i64 (0))] [0, 1] [(.const (.int .i64 (1099511627776))), (.const (.int .i64 (-1)))]⟩, ⟨(some 7), none, .alloc [(.int .i64 (0)), (.int .i64 (0))]⟩, ⟨none, none, .store 2 (T 7) (T 10)⟩]) (.seq (.seq (.ops [⟨(some 8), none, .mov (.const (.int .i64 (0)))⟩]) (.block 0 (.loop (.seq (.seq (.ops [⟨(some 11), none, .mov (T 8)⟩, ⟨(some 12), none, .mov (T 1)⟩, ⟨(some 13), none, .len (T 12)⟩, ⟨(some 14), none, .int2 .lss (T 11) (T 13)⟩]) (.cond (T 14) .skip (.exit 0))) (.seq (.block 1 (.seq (.draw [⟨.rd1, ⟨(some 17), none, .loadN 5 (T 3)⟩⟩, ⟨.free, ⟨(some 18), none, .mov (T 1)⟩⟩, ⟨.free, ⟨(some 19), none, .mov (T 8)⟩⟩, ⟨.free, ⟨(some 20), none, .idxSl 2 (T 18) (T 19)⟩⟩, ⟨.rd1, ⟨(some 21), none, .loadN 2 (T 20)⟩⟩, ⟨.free, ⟨(some 22), none, .mov (T 2)⟩⟩, ⟨.any, ⟨(some 23), none, .call (.func 95) [(T 17), (T 21), (T 22)]⟩⟩, ⟨.free, ⟨(some 9), none, .mov (T 23)⟩⟩]) (.ops [⟨(some 24), none, .fieldAddr 0 (T 7)⟩, ⟨(some 25), none, .load1 (T 24)⟩, ⟨(some 26), none, .mov (T 9)⟩, ⟨(some 27), none, .plain (.call { callee := .builtin .min, args := #[(T 25), (T 26)], argTypes := #[3, 3] }) 3⟩, ⟨(some 28), none, .fieldAddr 1 (T 7)⟩, ⟨(some 29), none, .load1 (T 28)⟩, ⟨(some 30), none, .mov (T 9)⟩, ⟨(some 31), none, .plain (.call { callee := .builtin .max, args := #[(T 29), (T 30)], argTypes := #[3, 3] }) 3⟩, ⟨(some 32), none, .build #[(0, 1), (1, 1)] [(.int .i64 (0)), (.int .i64 (0))] [0, 1] [(T 27), (T 31)]⟩, ⟨none, none, .store 2 (T 7) (T 32)⟩]))) (.ops [⟨(some 15), none, .mov (T 8)⟩, ⟨(some 16), none, .int2 .add (T 15) (.const (.int .i64 (1)))⟩, ⟨(some 8), none, .mov (T 16)⟩])))))) (.seq (.ops [⟨(some 33), none, .loadN 2 (T 7)⟩, ⟨none, none, .store 2 (T 6) (T 33)⟩]) .ret))))
end Go.Vm.Bt

namespace Go.Vm.Bt
open Go.Proofs Go.Vm.Vat Go.Vm.L2
set_option linter.unusedSimpArgs false
set_option linter.unusedVariables false
set_option maxRecDepth 10000
variable {n : Nat} {h : AHeap}
def s88 : SCode := (.seq (.ops [⟨(some 3), none, .box (T 0)⟩, ⟨(some 4), none, .mov (.const (.bool false))⟩]) (.seq (.ops [⟨(some 5), none, .loadN 6 (T 3)⟩, ⟨(some 6), none, .load1 (T 1)⟩, ⟨(some 7), none, .call (.func 89) [(T 5), (T 6)]⟩, ⟨(some 8), none, .mov (T 7)⟩, ⟨(some 9), (some (8, true)), .loadN 6 (T 3)⟩, ⟨(some 10), (some (8, true)), .load1 (T 2)⟩, ⟨(some 11), (some (8, true)), .call (.func 90) [(T 9), (T 10)]⟩, ⟨(some 12), none, .pick (T 8) (T 11) (.const (.bool false))⟩, ⟨(some 4), none, .mov (T 12)⟩]) .ret))
theorem fok88 : FnOk Try.prog 88 13 s88 [.tmp 4] := ⟨Try.f88, _, Try.func88, rfl, Try.ntmps88, by kernel_rfl, by kernel_rfl⟩
theorem done1_c (hn : 120 ≤ n) (hr : h.next + 110 < far) {vv sv : Value} {S : MB} {a b : Int} {p q : Nat} (hy : BeatR h vv sv S) (hp : Row h p [.int .i64 a]) (hq : Row h q [.int .i64 b]) :
    call n (.func (.func 88) ⟨[]⟩ ⟨[.pointer (some ⟨p, 0, none⟩), .pointer (some ⟨q, 0, none⟩)]⟩) [.agg ⟨wkL S vv sv nilS⟩] h = some (.bool (decide ((0 ≤ a ∧ a ≤ (S.nv : Int) - 1) ∧ 0 ≤ b ∧ b ≤ S.last)), h) := by
  obtain ⟨n, rfl⟩ : ∃ p, n = p + 1 := ⟨n - 1, by omega⟩
  refine call_plain (xs := []) (ys := [.pointer (some ⟨p, 0, none⟩), .pointer (some ⟨q, 0, none⟩)]) fok88 rfl rfl (by simp) rfl ?_
  have hy := hy.shut
  have hp : Row h.shutAll p [.int .i64 a] := hp.mono fun _ _ _ _ _ h => h
  have hq : Row h.shutAll q [.int .i64 b] := hq.mono fun _ _ _ _ _ h => h
  have hr : h.shutAll.next + 110 < far := hr
  generalize h.shutAll = h at hy hp hq hr
  simp only [s88, List.cons_append, List.nil_append, W_seq, W_ops]
  refine ops_box (cs := wkL S vv sv nilS) (by omega) rfl (wk_one hy rfl) fun g1 hx1 => ?_
  have n1 := hx1.next
  have hy1 := hy.mono hx1.sub
  have e1 := hasVat_c (n := n) (h := g1) (tv := nilS) (by omega) (by omega) hy1 rfl a
  have e2 := hasHour_c (n := n) (h := g1) (by omega) (by omega) (wk_one (tv := nilS) hy1 rfl) b
  by_cases c1 : 0 ≤ a ∧ a ≤ (S.nv : Int) - 1
  · have hd : decide ((0 ≤ a ∧ a ≤ (S.nv : Int) - 1) ∧ 0 ≤ b ∧ b ≤ S.last) = decide (0 ≤ b ∧ b ≤ S.last) := decide_eq_decide.2 ⟨fun h => h.2, fun h => ⟨c1, h⟩⟩
    rw [hd]
    rw [decide_eq_true c1] at e1
    simp only [rn0, rn1, rn2, rn3, rn4, rn5, rn6, rn7, rn8, if_true, if_false, Nat.le_refl, true_and, and_true, decide_true, decide_false, Bool.not_true, Bool.not_false, reduceIte, Nat.reduceEqDiff, Nat.reduceAdd, Nat.reduceMul, Nat.reduceSub, Nat.reduceLeDiff, Nat.reduceLT, hx1.row.whole (n := 6) rfl, (hp.mono hx1.sub).ld, (hq.mono hx1.sub).ld, Nat.zero_add, List.getElem?_cons_zero, e1, e2]
  · have hd : decide ((0 ≤ a ∧ a ≤ (S.nv : Int) - 1) ∧ 0 ≤ b ∧ b ≤ S.last) = false := decide_eq_false fun h => c1 h.1
    rw [hd]
    rw [decide_eq_false c1] at e1
    simp only [rn0, rn1, rn2, rn3, rn4, rn5, rn6, rn7, rn8, if_true, if_false, Nat.le_refl, true_and, and_true, decide_true, decide_false, Bool.not_true, Bool.not_false, reduceIte, Nat.reduceEqDiff, Nat.reduceAdd, Nat.reduceMul, Nat.reduceSub, Nat.reduceLeDiff, Nat.reduceLT, hx1.row.whole (n := 6) rfl, (hp.mono hx1.sub).ld, (hq.mono hx1.sub).ld, Nat.zero_add, List.getElem?_cons_zero, e1, e2, g_un]
end Go.Vm.Bt

namespace Go.Vm.Bt
open Go.Proofs Go.Vm.Vat Go.Vm.L2
set_option linter.unusedSimpArgs false
set_option linter.unusedVariables false
set_option maxRecDepth 10000
variable {n : Nat} {h : AHeap}
def MomOk (S : MB) (a b : Int) : Prop := (0 ≤ a ∧ a ≤ (S.nv : Int) - 1) ∧ 0 ≤ b ∧ b ≤ S.last
instance (S : MB) (a b : Int) : Decidable (MomOk S a b) := inferInstanceAs (Decidable (_ ∧ _))
theorem vmK_all {S : MB} {a b : Int} (ho : MomOk S a b) : vmK S S.nv 0 (a, b) = verdV S a.toNat b := by
  unfold vmK
  obtain ⟨⟨h1, h2⟩, h3, h4⟩ := ho
  rw [if_pos ⟨h1, h3, .inl ⟨by simp only; omega, h4⟩⟩]
def s37 : SCode := (.seq (.ops [⟨(some 3), none, .box (T 0)⟩, ⟨(some 4), none, .box (T 1)⟩, ⟨(some 5), none, .box (T 2)⟩, ⟨(some 6), none, .mov (.const (.int .i64 (0)))⟩, ⟨(some 7), none, .mov (.const (.int .i64 (0)))⟩]) (.seq (.ops [⟨(some 11), none, .loadN 5 (T 3)⟩, ⟨(some 12), none, .mkfunc 88 [] [(T 4), (T 5)]⟩, ⟨(some 13), none, .bslice 1 1 [.nilFunc] [0] [(T 12)]⟩, ⟨(some 14), none, .call (.func 86) [(T 11), (T 13)]⟩, ⟨(some 10), none, .mov (T 14)⟩, ⟨(some 15), none, .extract 0 (T 10)⟩, ⟨(some 16), none, .extract 1 (T 10)⟩, ⟨(some 8), none, .alloc [(.int .i64 (0)), (.int .i64 (0)), (.slice none 0 0), (.int .i64 (0)), (.slice none 0 0), (.slice none 0 0)]⟩, ⟨none, none, .store 6 (T 8) (T 15)⟩, ⟨(some 9), none, .mov (T 16)⟩]) (.seq (.seq (.ops [⟨(some 17), none, .mov (T 9)⟩, ⟨(some 18), none, .int2 .neq (T 17) (.const (.int .i64 (0)))⟩]) (.cond (T 18) (.seq (.ops [⟨(some 19), none, .mov (T 9)⟩, ⟨(some 6), none, .mov (.const (.int .i64 (0)))⟩, ⟨(some 7), none, .mov (T 19)⟩]) .ret) .skip)) (.seq (.draw [⟨.rd1, ⟨(some 20), none, .loadN 6 (T 8)⟩⟩, ⟨.up, ⟨(some 21), none, .call (.func 91) [(T 20)]⟩⟩, ⟨.rd, ⟨(some 22), none, .load1 (T 4)⟩⟩, ⟨.rd, ⟨(some 23), none, .load1 (T 5)⟩⟩, ⟨.free, ⟨(some 24), none, .build #[(0, 1), (1, 1)] [(.int .i64 (0)), (.int .i64 (0))] [0, 1] [(T 22), (T 23)]⟩⟩, ⟨.qe, ⟨(some 25), none, .lookup 139 (.int .i64 (0)) false (T 21) (T 24)⟩⟩, ⟨.free, ⟨(some 6), none, .mov (T 25)⟩⟩, ⟨.free, ⟨(some 7), none, .mov (.const (.int .i64 (0)))⟩⟩]) .ret))))
theorem fok37 : FnOk Try.prog 37 26 s37 [.tmp 6, .tmp 7] := ⟨Try.f37, _, Try.func37, rfl, Try.ntmps37, by kernel_rfl, by kernel_rfl⟩
set_option maxHeartbeats 1000000 in
theorem doneV_c (hn : 1000 ≤ n) (hr : h.next + 60000 < far) {vv sv : Value} {S : MB} (hy : BeatR h vv sv S) (hTh : ThinS S) (a b : Int) :
    call n (.func (.func 37) #[] #[]) [.agg ⟨beL S vv sv⟩, .int .i64 a, .int .i64 b] h = some (.tuple ⟨[.int .i64 (if errF S (decide (MomOk S a b)) = 0 then verdV S a.toNat b else 0), .int .i64 (errF S (decide (MomOk S a b)))]⟩, h) := by
  obtain ⟨n, rfl⟩ : ∃ p, n = p + 1 := ⟨n - 1, by omega⟩
  refine call_plain0 fok37 rfl rfl (by simp) rfl ?_
  have hy := hy.shut
  have hr : h.shutAll.next + 60000 < far := hr
  have hfl : h.shutAll.floor ≤ h.shutAll.next := Nat.le_refl _
  generalize h.shutAll = h at hy hr hfl
  simp only [s37, W_seq, W_ops]
  refine ops_box (cs := beL S vv sv) (by omega) rfl hy.one fun g1 hx1 => ?_
  have n1 := hx1.next
  have f1 := hx1.floor
  refine ops_box (cs := [.int .i64 a]) (by omega) rfl rfl fun g2 hx2 => ?_
  have n2 := hx2.next
  have f2 := hx2.floor
  refine ops_box (cs := [.int .i64 b]) (by omega) rfl rfl fun g3 hx3 => ?_
  have n3 := hx3.next
  have f3 := hx3.floor
  have sub3 : Sub All h g3 := hx1.sub.trans (hx2.sub.trans hx3.sub)
  have w3 := ((hx1.row.mono hx2.sub).mono hx3.sub).whole (n := 5) rfl
  simp only [rn0, rn1, rn2, rn3, rn4, rn5, rn6, rn7, rn8, if_true, if_false, Nat.le_refl, true_and, and_true, decide_true, decide_false, Bool.not_true, Bool.not_false, reduceIte, Nat.reduceEqDiff, Nat.reduceAdd, Nat.reduceMul, Nat.reduceSub, Nat.reduceLeDiff, Nat.reduceLT, w3, sl_fn (show oneCell (.func (.func 88) ⟨[]⟩ ⟨[.pointer (some ⟨g1.next, 0, none⟩), .pointer (some ⟨g2.next, 0, none⟩)]⟩) = true from rfl)]
  refine step_slice (by omega) rfl fun g4 hx4 => ?_
  have n4 := hx4.next
  have f4 := hx4.floor
  have sub4 := sub3.trans hx4.sub
  have hcs : Cells g4 (.slice (some ⟨g3.next, 0, none⟩) 1 1) 1 1 (fun _ _ => .func (.func 88) ⟨[]⟩ ⟨[.pointer (some ⟨g1.next, 0, none⟩), .pointer (some ⟨g2.next, 0, none⟩)]⟩) := ⟨_, _, rfl, fun x e => by cases e; rfl, .inr ⟨_, 0, _, _, _, rfl, hx4.get, fun i j hi hj => by
    obtain rfl : i = 0 := by omega
    obtain rfl : j = 0 := by omega
    rfl⟩⟩
  have hra : Row g4 g1.next [.int .i64 a] := (hx2.row.mono hx3.sub).mono hx4.sub
  have hrb : Row g4 g2.next [.int .i64 b] := hx3.row.mono hx4.sub
  have hy4 := hy.mono sub4
  obtain ⟨v, g5, eo, old5, u5, m5, f5, ho⟩ := open_c (n := n) (h := g4) (by omega) (by omega) (by omega) hy4 hTh (P := MomOk S a b) (cv := .slice (some ⟨g3.next, 0, none⟩) 1 1) fun hG =>
    ⟨1, _, fun _ => MomOk S a b, by omega, hcs, ⟨fun e _ _ => e, fun e => e 0 (by omega)⟩, fun i hi => ⟨decide (MomOk S a b), decide_eq_true_iff, fun n' hn' g hs hg => done1_c (by omega) (by omega) (hy4.mono hs) (hra.mono hs) (hrb.mono hs)⟩⟩
  rcases ho with ⟨hf, rfl⟩ | ⟨hf, hp, rfl⟩ | ⟨hf, hp, ht, rfl⟩ | ⟨hf, hp, ht, tv, rfl, hone, hd, hfr, hlong⟩
  · have he : errF S (decide (MomOk S a b)) = faultS S := by unfold errF; rw [if_pos hf]
    rw [he, if_neg hf]
    simp only [rn0, rn1, rn2, rn3, rn4, rn5, rn6, rn7, rn8, if_true, if_false, Nat.le_refl, true_and, and_true, decide_true, decide_false, Bool.not_true, Bool.not_false, reduceIte, Nat.reduceEqDiff, Nat.reduceAdd, Nat.reduceMul, Nat.reduceSub, Nat.reduceLeDiff, Nat.reduceLT, eo, ex0, ex1]
    refine step_new (vs := wkZ) (by omega) (by omega) rfl (by simp only [rn0, rn1, rn2, rn3, rn4, rn5, rn6, rn7, rn8, if_true, if_false, Nat.le_refl, true_and, and_true, decide_true, decide_false, Bool.not_true, Bool.not_false, reduceIte, Nat.reduceEqDiff, Nat.reduceAdd, Nat.reduceMul, Nat.reduceSub, Nat.reduceLeDiff, Nat.reduceLT]; rfl) rfl rfl rfl fun g6 hx6 => ?_
    simp only [rn0, rn1, rn2, rn3, rn4, rn5, rn6, rn7, rn8, if_true, if_false, Nat.le_refl, true_and, and_true, decide_true, decide_false, Bool.not_true, Bool.not_false, reduceIte, Nat.reduceEqDiff, Nat.reduceAdd, Nat.reduceMul, Nat.reduceSub, Nat.reduceLeDiff, Nat.reduceLT, hf, ret_tt]
  · have he : errF S (decide (MomOk S a b)) = 2 := by unfold errF; rw [if_neg (by simpa using hf), if_pos (decide_eq_false hp)]
    rw [he, if_neg (by decide)]
    simp only [rn0, rn1, rn2, rn3, rn4, rn5, rn6, rn7, rn8, if_true, if_false, Nat.le_refl, true_and, and_true, decide_true, decide_false, Bool.not_true, Bool.not_false, reduceIte, Nat.reduceEqDiff, Nat.reduceAdd, Nat.reduceMul, Nat.reduceSub, Nat.reduceLeDiff, Nat.reduceLT, eo, ex0, ex1]
    refine step_new (vs := wkZ) (by omega) (by omega) rfl (by simp only [rn0, rn1, rn2, rn3, rn4, rn5, rn6, rn7, rn8, if_true, if_false, Nat.le_refl, true_and, and_true, decide_true, decide_false, Bool.not_true, Bool.not_false, reduceIte, Nat.reduceEqDiff, Nat.reduceAdd, Nat.reduceMul, Nat.reduceSub, Nat.reduceLeDiff, Nat.reduceLT]; rfl) rfl rfl rfl fun g6 hx6 => ?_
    simp only [rn0, rn1, rn2, rn3, rn4, rn5, rn6, rn7, rn8, if_true, if_false, Nat.le_refl, true_and, and_true, decide_true, decide_false, Bool.not_true, Bool.not_false, reduceIte, Nat.reduceEqDiff, Nat.reduceAdd, Nat.reduceMul, Nat.reduceSub, Nat.reduceLeDiff, Nat.reduceLT, Int.reduceEq, ret_tt]
  · have he : errF S (decide (MomOk S a b)) = 11 := by unfold errF; rw [if_neg (by simpa using hf), if_neg (by rw [decide_eq_true hp]; decide), if_pos ht]
    rw [he, if_neg (by decide)]
    simp only [rn0, rn1, rn2, rn3, rn4, rn5, rn6, rn7, rn8, if_true, if_false, Nat.le_refl, true_and, and_true, decide_true, decide_false, Bool.not_true, Bool.not_false, reduceIte, Nat.reduceEqDiff, Nat.reduceAdd, Nat.reduceMul, Nat.reduceSub, Nat.reduceLeDiff, Nat.reduceLT, eo, ex0, ex1]
    refine step_new (vs := wkZ) (by omega) (by omega) rfl (by simp only [rn0, rn1, rn2, rn3, rn4, rn5, rn6, rn7, rn8, if_true, if_false, Nat.le_refl, true_and, and_true, decide_true, decide_false, Bool.not_true, Bool.not_false, reduceIte, Nat.reduceEqDiff, Nat.reduceAdd, Nat.reduceMul, Nat.reduceSub, Nat.reduceLeDiff, Nat.reduceLT]; rfl) rfl rfl rfl fun g6 hx6 => ?_
    simp only [rn0, rn1, rn2, rn3, rn4, rn5, rn6, rn7, rn8, if_true, if_false, Nat.le_refl, true_and, and_true, decide_true, decide_false, Bool.not_true, Bool.not_false, reduceIte, Nat.reduceEqDiff, Nat.reduceAdd, Nat.reduceMul, Nat.reduceSub, Nat.reduceLeDiff, Nat.reduceLT, Int.reduceEq, ret_tt]
  have hG := good_of hf
  have he : errF S (decide (MomOk S a b)) = 0 := by unfold errF; rw [if_neg (by simpa using hf), if_neg (by rw [decide_eq_true hp]; decide), if_neg ht]
  rw [he, if_pos rfl]
  have sub5 : Sub All g4 g5 := AHeap.subOf old5
  have hy5 := hy4.mono sub5
  simp only [rn0, rn1, rn2, rn3, rn4, rn5, rn6, rn7, rn8, if_true, if_false, Nat.le_refl, true_and, and_true, decide_true, decide_false, Bool.not_true, Bool.not_false, reduceIte, Nat.reduceEqDiff, Nat.reduceAdd, Nat.reduceMul, Nat.reduceSub, Nat.reduceLeDiff, Nat.reduceLT, eo, ex0, ex1]
  refine step_new (vs := wkL S vv sv tv) (by omega) (by omega) rfl (by simp only [rn0, rn1, rn2, rn3, rn4, rn5, rn6, rn7, rn8, if_true, if_false, Nat.le_refl, true_and, and_true, decide_true, decide_false, Bool.not_true, Bool.not_false, reduceIte, Nat.reduceEqDiff, Nat.reduceAdd, Nat.reduceMul, Nat.reduceSub, Nat.reduceLeDiff, Nat.reduceLT]; rfl) (wk_one hy5 hone) rfl rfl fun g6 hx6 => ?_
  have n6 := hx6.next
  have f6 := hx6.floor
  have hop : OpS g6 vv sv tv S := ⟨hG, ht, hy5.mono hx6.sub, hone, Cells.mono hd hx6.sub, hlong⟩
  obtain ⟨r, g7, e7, hm7, hr7, old7, u7, m7, f7⟩ := verdicts_c (n := n) (h := g6) (by omega) (by omega) (by omega) hop
  have s67 : Sub All g6 g7 := AHeap.subOf old7
  have ra6 := (hra.mono sub5).mono hx6.sub
  have rb6 := (hrb.mono sub5).mono hx6.sub
  have el := lookupF key139 hm7.shut (a, b)
  have el : lookupA Try.prog 139 (.int .i64 0) false g7.shutAll (.map (some r)) (.agg ⟨[.int .i64 a, .int .i64 b]⟩) = some (.int .i64 (vmK S S.nv 0 (a, b)), g7.shutAll) := el
  rw [vmK_all hp] at el
  simp only [rn0, rn1, rn2, rn3, rn4, rn5, rn6, rn7, rn8, if_true, if_false, Nat.le_refl, true_and, and_true, decide_true, decide_false, Bool.not_true, Bool.not_false, reduceIte, Nat.reduceEqDiff, Nat.reduceAdd, Nat.reduceMul, Nat.reduceSub, Nat.reduceLeDiff, Nat.reduceLT]
  refine W_draw All ?_
  simp only [rn0, rn1, rn2, rn3, rn4, rn5, rn6, rn7, rn8, if_true, if_false, Nat.le_refl, true_and, and_true, decide_true, decide_false, Bool.not_true, Bool.not_false, reduceIte, Nat.reduceEqDiff, Nat.reduceAdd, Nat.reduceMul, Nat.reduceSub, Nat.reduceLeDiff, Nat.reduceLT, hx6.row.whole (n := 6) rfl, e7, u7, s67, ra6.ld, rb6.ld, Nat.zero_add, List.getElem?_cons_zero, eqV_int, build_range, d_qe, x_lookup, el, ret_tt]
end Go.Vm.Bt

namespace Go.Vm.Bt
open Go.Proofs Go.Vm.Vat Go.Vm.L2
set_option linter.unusedSimpArgs false
set_option linter.unusedVariables false
set_option maxRecDepth 10000
variable {n : Nat} {h : AHeap}
theorem verd_in {S : MB} {v : Nat} {x : Int} : 1 ≤ verdV S v x ∧ verdV S v x ≤ 3 := by
  unfold verdV
  split
  · omega
  · split <;> omega
theorem verd_one {S : MB} {v : Nat} {x : Int} : verdV S v x = 1 ↔ bHi S v ≤ x := by
  unfold verdV
  split
  · simp [*]
  · split <;> simp [*]
theorem verd_two {S : MB} {v : Nat} {x : Int} (hb : bLo S v ≤ bHi S v) : verdV S v x = 2 ↔ x < bLo S v := by
  unfold verdV
  split
  · simp; omega
  · split <;> simp [*]
theorem bnd_le {S : MB} (hT : truthsS S ≠ []) {v : Nat} : bLo S v ≤ bHi S v := by
  obtain ⟨t, ht⟩ := List.exists_mem_of_ne_nil _ hT
  exact Int.le_trans ((le_loN hT).1 (Int.le_refl _) t ht) ((hiN_le hT).1 (Int.le_refl _) t ht)
def s12 : SCode := (.seq (.ops [⟨(some 2), none, .box (T 0)⟩, ⟨(some 4), none, .mov (.const (.bool false))⟩]) (.seq (.seq (.ops [⟨(some 12), none, .loadN 5 (T 2)⟩, ⟨(some 13), none, .call (.func 63) [(T 12)]⟩, ⟨(some 14), none, .not (T 13)⟩, ⟨(some 15), none, .mov (T 14)⟩, ⟨(some 16), (some (15, false)), .fieldAddr 2 (T 2)⟩, ⟨(some 17), (some (15, false)), .load1 (T 16)⟩, ⟨(some 18), (some (15, false)), .len (T 17)⟩, ⟨(some 19), (some (15, false)), .int2 .eql (T 18) (.const (.int .i64 (0)))⟩, ⟨(some 20), none, .pick (T 15) (.const (.bool true)) (T 19)⟩]) (.cond (T 20) (.seq (.ops [⟨(some 21), none, .call (.func 24) []⟩, ⟨(some 4), none, .mov (T 21)⟩]) .ret) .skip)) (.seq (.ops [⟨(some 22), none, .mov (T 1)⟩, ⟨(some 23), none, .plain (.convert 5 3 (T 22)) 3⟩, ⟨(some 24), none, .fieldAddr 2 (T 2)⟩, ⟨(some 25), none, .load1 (T 24)⟩, ⟨(some 26), none, .len (T 25)⟩, ⟨(some 27), none, .plain (.binOp .rem 3 (T 23) (T 26) 3) 3⟩, ⟨(some 5), none, .mov (T 27)⟩]) (.seq (.ops [⟨(some 29), none, .loadN 5 (T 2)⟩, ⟨(some 30), none, .call (.func 26) [(T 29)]⟩, ⟨(some 31), none, .call (.func 36) [(T 30)]⟩, ⟨(some 28), none, .mov (T 31)⟩, ⟨(some 32), none, .extract 0 (T 28)⟩, ⟨(some 33), none, .extract 1 (T 28)⟩, ⟨(some 6), none, .mov (T 32)⟩, ⟨(some 7), none, .mov (T 33)⟩]) (.seq (.ops [⟨(some 8), none, .mov (.const (.int .i64 (2)))⟩]) (.seq (.seq (.ops [⟨(some 9), none, .mov (.const (.int .i64 (0)))⟩]) (.block 0 (.loop (.seq (.seq (.ops [⟨(some 34), none, .mov (T 9)⟩, ⟨(some 35), none, .fieldAddr 3 (T 2)⟩, ⟨(some 36), none, .load1 (T 35)⟩, ⟨(some 37), none, .int2 .leq (T 34) (T 36)⟩]) (.cond (T 37) .skip (.exit 0))) (.seq (.block 1 (.seq (.ops [⟨(some 41), none, .loadN 5 (T 2)⟩, ⟨(some 42), none, .call (.func 26) [(T 41)]⟩, ⟨(some 43), none, .mov (T 5)⟩, ⟨(some 44), none, .mov (T 9)⟩, ⟨(some 45), none, .call (.func 37) [(T 42), (T 43), (T 44)]⟩, ⟨(some 40), none, .mov (T 45)⟩, ⟨(some 46), none, .extract 0 (T 40)⟩, ⟨(some 47), none, .extract 1 (T 40)⟩, ⟨(some 10), none, .mov (T 46)⟩, ⟨(some 11), none, .mov (T 47)⟩]) (.seq (.seq (.ops [⟨(some 48), none, .mov (T 7)⟩, ⟨(some 49), none, .int2 .neq (T 48) (.const (.int .i64 (0)))⟩]) (.cond (T 49) (.seq (.seq (.ops [⟨(some 50), none, .mov (T 7)⟩, ⟨(some 51), none, .int2 .neq (T 50) (.const (.int .i64 (11)))⟩, ⟨(some 52), none, .mov (T 51)⟩, ⟨(some 53), (some (52, false)), .mov (T 11)⟩, ⟨(some 54), (some (52, false)), .mov (T 7)⟩, ⟨(some 55), (some (52, false)), .int2 .neq (T 53) (T 54)⟩, ⟨(some 56), none, .pick (T 52) (.const (.bool true)) (T 55)⟩]) (.cond (T 56) (.seq (.ops [⟨(some 4), none, .mov (.const (.bool false))⟩]) .ret) .skip)) (.exit 1)) .skip)) (.seq (.seq (.ops [⟨(some 57), none, .mov (T 11)⟩, ⟨(some 58), none, .int2 .neq (T 57) (.const (.int .i64 (0)))⟩, ⟨(some 59), none, .mov (T 58)⟩, ⟨(some 60), (some (59, false)), .mov (T 6)⟩, ⟨(some 61), (some (59, false)), .len (T 60)⟩, ⟨(some 62), (some (59, false)), .fieldAddr 2 (T 2)⟩, ⟨(some 63), (some (59, false)), .load1 (T 62)⟩, ⟨(some 64), (some (59, false)), .len (T 63)⟩, ⟨(some 65), (some (59, false)), .int2 .neq (T 61) (T 64)⟩, ⟨(some 66), none, .pick (T 59) (.const (.bool true)) (T 65)⟩, ⟨(some 67), none, .mov (T 66)⟩, ⟨(some 68), (some (67, false)), .mov (T 10)⟩, ⟨(some 69), (some (67, false)), .call (.func 39) [(T 68), (.const (.int .i64 (1))), (.const (.int .i64 (3)))]⟩, ⟨(some 70), (some (67, false)), .not (T 69)⟩, ⟨(some 71), none, .pick (T 67) (.const (.bool true)) (T 70)⟩, ⟨(some 72), none, .mov (T 71)⟩, ⟨(some 73), (some (72, false)), .mov (T 8)⟩, ⟨(some 74), (some (72, false)), .int2 .eql (T 73) (.const (.int .i64 (1)))⟩, ⟨(some 75), (some (72, false)), .mov (T 74)⟩, ⟨(some 76), (some (75, true)), .mov (T 10)⟩, ⟨(some 77), (some (75, true)), .mov (T 8)⟩, ⟨(some 78), (some (75, true)), .int2 .neq (T 76) (T 77)⟩, ⟨(some 79), (some (72, false)), .pick (T 75) (T 78) (.const (.bool false))⟩, ⟨(some 80), none, .pick (T 72) (.const (.bool true)) (T 79)⟩, ⟨(some 81), none, .mov (T 80)⟩, ⟨(some 82), (some (81, false)), .mov (T 8)⟩, ⟨(some 83), (some (81, false)), .int2 .neq (T 82) (.const (.int .i64 (2)))⟩, ⟨(some 84), (some (81, false)), .mov (T 83)⟩, ⟨(some 85), (some (84, true)), .mov (T 10)⟩, ⟨(some 86), (some (84, true)), .int2 .eql (T 85) (.const (.int .i64 (2)))⟩, ⟨(some 87), (some (81, false)), .pick (T 84) (T 86) (.const (.bool false))⟩, ⟨(some 88), none, .pick (T 81) (.const (.bool true)) (T 87)⟩, ⟨(some 89), none, .mov (T 88)⟩, ⟨(some 90), (some (89, false)), .mov (T 10)⟩, ⟨(some 91), (some (89, false)), .int2 .eql (T 90) (.const (.int .i64 (1)))⟩, ⟨(some 92), (some (89, false)), .mov (T 9)⟩, ⟨(some 93), (some (89, false)), .mov (T 6)⟩, ⟨(some 94), (some (89, false)), .mov (T 5)⟩, ⟨(some 95), (some (89, false)), .idxSl 2 (T 93) (T 94)⟩, ⟨(some 96), (some (89, false)), .fieldAddr 1 (T 95)⟩, ⟨(some 97), (some (89, false)), .load1 (T 96)⟩, ⟨(some 98), (some (89, false)), .int2 .geq (T 92) (T 97)⟩, ⟨(some 99), (some (89, false)), .bin .neq (.binOp .neq 4 (T 91) (T 98) 4) 4 (T 91) (T 98)⟩, ⟨(some 100), none, .pick (T 89) (.const (.bool true)) (T 99)⟩, ⟨(some 101), none, .mov (T 100)⟩, ⟨(some 102), (some (101, false)), .mov (T 10)⟩, ⟨(some 103), (some (101, false)), .int2 .eql (T 102) (.const (.int .i64 (2)))⟩, ⟨(some 104), (some (101, false)), .mov (T 9)⟩, ⟨(some 105), (some (101, false)), .mov (T 6)⟩, ⟨(some 106), (some (101, false)), .mov (T 5)⟩, ⟨(some 107), (some (101, false)), .idxSl 2 (T 105) (T 106)⟩, ⟨(some 108), (some (101, false)), .fieldAddr 0 (T 107)⟩, ⟨(some 109), (some (101, false)), .load1 (T 108)⟩, ⟨(some 110), (some (101, false)), .int2 .lss (T 104) (T 109)⟩, ⟨(some 111), (some (101, false)), .bin .neq (.binOp .neq 4 (T 103) (T 110) 4) 4 (T 103) (T 110)⟩, ⟨(some 112), none, .pick (T 101) (.const (.bool true)) (T 111)⟩]) (.cond (T 112) (.seq (.ops [⟨(some 4), none, .mov (.const (.bool false))⟩]) .ret) .skip)) (.ops [⟨(some 113), none, .mov (T 10)⟩, ⟨(some 8), none, .mov (T 113)⟩]))))) (.ops [⟨(some 38), none, .mov (T 9)⟩, ⟨(some 39), none, .int2 .add (T 38) (.const (.int .i64 (1)))⟩, ⟨(some 9), none, .mov (T 39)⟩])))))) (.seq (.ops [⟨(some 114), none, .call (.func 24) []⟩, ⟨(some 4), none, .mov (T 114)⟩]) .ret)))))))
end Go.Vm.Bt

namespace Go.Vm.Bt
open Go.Proofs Go.Vm.Vat Go.Vm.L2
set_option linter.unusedSimpArgs false
set_option linter.unusedVariables false
set_option maxRecDepth 10000
variable {n : Nat} {h : AHeap}
structure Near (X S : MB) : Prop where
  x : errS X = 0
  s : errS S = 0
  nv : X.nv = S.nv
  last : X.last = S.last
  best : (bestS X).2 ≤ (bestS S).2
  lo : ∀ v, v < S.nv → bLo S v ≤ bLo X v
  hi : ∀ v, v < S.nv → bHi X v ≤ bHi S v
end Go.Vm.Bt

namespace Go.Vm.Bt
open Go.Proofs Go.Vm.Vat Go.Vm.L2
set_option linter.unusedSimpArgs false
set_option linter.unusedVariables false
set_option maxRecDepth 10000
variable {n : Nat} {h : AHeap}
def wrS (S : MB) (t : Nat → Int) (i : Nat) : Prop := ¬ RightS S t i
noncomputable def wrongL (S : MB) (t : Nat → Int) : List Int := pickL (wrS S t) S.ns
def allE (S : MB) : List (Nat → Int) := enumB (uLo S) (uHi S) (numU S) 0 fun _ => 0
noncomputable def allW (S : MB) : List (List Int) := (allE S).map (wrongL S)
noncomputable def wrongStep (S : MB) (s : List (List Int)) (c : Nat → Int) : List (List Int) × Bool := (s ++ [wrongL S c], true)
theorem runL_wrong {S : MB} : ∀ (l : List (Nat → Int)) (s : List (List Int)), runL (wrongStep S) s l = (s ++ l.map (wrongL S), true)
  | [], s => by simp [runL]
  | x :: l, s => by
    have e : runL (wrongStep S) s (x :: l) = runL (wrongStep S) (s ++ [wrongL S x]) l := rfl
    rw [e, runL_wrong l]; simp
theorem wrong_len {S : MB} {t : Nat → Int} : (wrongL S t).length ≤ S.ns := pick_len _
def OwnB (h2 : AHeap) (p pw : Nat) (g : AHeap) (q : Nat) : Prop := (h2.next ≤ q ∨ q = pw) ∧ q ≠ p ∧ q ≠ h2.next + 1 ∧ ∀ v, g.get p = some (.row [v] true 0) → NeB v q
section
variable (u4 : Try.prog.underlying 4 = some .bool)
include u4
theorem isRight2_c (hn : 5 ≤ n) (hr : h.next + 5 < far) {S : MB} {u : Nat → Int} (hG : Good S) {k : Nat} (hk : k < S.ns) :
    ∃ r, (r = true ↔ RightS S u k) ∧ call n (.func (.func 112) #[] #[]) [.agg ⟨dn (doneS S u)⟩, .agg ⟨smL S k⟩] h = some (.bool r, h) := by
  obtain ⟨hvv, hsv, _⟩ := hG.samp hk
  refine ⟨decide (whenS u (S.sv k).toNat ≤ S.sh k) == S.sd k, beq_iff_eq, ?_⟩
  obtain ⟨n, rfl⟩ : ∃ p, n = p + 1 := ⟨n - 1, by omega⟩
  refine call_plain0 fok112 rfl rfl (by simp) rfl ?_
  have hr : h.shutAll.next + 5 < far := hr
  generalize h.shutAll = h at hr
  obtain ⟨_, _, z3, _⟩ := hG.sizes
  simp only [s112, W_seq, W_ops]
  refine ops_box (cs := dn (doneS S u)) (by omega) rfl dn_one fun g1 hx => ?_
  refine ops_box (cs := smL S k) (by rw [hx.next]; omega) rfl sm_one fun g2 hx2 => ?_
  have r1 := hx.row.mono hx2.sub
  have hi := idxArr_p (b := h.next) (o := 0) (show (S.sv k).toNat < 3 by omega)
  rw [hsv] at hi
  have hd : (dn (doneS S u))[(S.sv k).toNat]? = some (.int .i64 (whenS u (S.sv k).toNat)) := by rw [dn_get (by omega)]; simp [doneS, hvv]
  simp only [rn0, rn1, rn2, rn3, rn4, rn5, rn6, rn7, rn8, if_true, if_false, Nat.le_refl, true_and, and_true, decide_true, decide_false, Bool.not_true, Bool.not_false, reduceIte, Nat.reduceEqDiff, Nat.reduceAdd, Nat.reduceMul, Nat.reduceSub, Nat.reduceLeDiff, Nat.reduceLT]
  refine W_draw All ?_
  simp only [rn0, rn1, rn2, rn3, rn4, rn5, rn6, rn7, rn8, if_true, if_false, Nat.le_refl, true_and, and_true, decide_true, decide_false, Bool.not_true, Bool.not_false, reduceIte, Nat.reduceEqDiff, Nat.reduceAdd, Nat.reduceMul, Nat.reduceSub, Nat.reduceLeDiff, Nat.reduceLT, hx2.row.ld, smg, Nat.zero_add, hi, r1.ld, hd, eqV_int, eqV_bool, x_binA, binA_eqlB, p_eqlB u4, valN_tmp, Nat.reduceLT, rBB]
end
noncomputable def s100 : SCode := (.seq (.ops [⟨(some 1), none, .box (T 0)⟩, ⟨(some 2), none, .mov (.const (.slice none 0 0))⟩]) (.seq (.ops [⟨(some 3), none, .alloc [(.slice none 0 0)]⟩]) (.seq (.seq (.ops [⟨(some 9), none, .loadN 6 (T 1)⟩, ⟨(some 10), none, .call (.func 120) [(T 9)]⟩]) (.block 0 (.range (T 10) #[11] (rangeOf Try.f100 0).1 (rangeOf Try.f100 0).2))) (.seq (.ops [⟨(some 36), none, .load1 (T 3)⟩, ⟨(some 2), none, .mov (T 36)⟩]) .ret))))
theorem fok100 : FnOk Try.prog 100 37 s100 [.tmp 2] := ⟨Try.f100, _, Try.func100, rfl, Try.ntmps100, by kernel_rfl, by kernel_rfl⟩
def ra100_0 : SCode := (.ops [⟨(some 4), none, .alloc [(.int .i64 (0)), (.slice none 0 0)]⟩, ⟨none, none, .store 2 (T 4) (T 11)⟩])
theorem raok100_0 : compCode Try.prog 37 (rangeOf Try.f100 0).1 = some ra100_0 := by kernel_rfl
def rb100_0 : SCode := (.block 1 (.seq (.ops [⟨(some 5), none, .mov (.const (.slice none 0 0))⟩]) (.seq (.ops [⟨(some 12), none, .loadN 2 (T 4)⟩, ⟨(some 13), none, .call (.func 80) [(T 12)]⟩, ⟨(some 6), none, .alloc [(.int .i64 (0)), (.int .i64 (0)), (.int .i64 (0))]⟩, ⟨none, none, .store 3 (T 6) (T 13)⟩]) (.seq (.seq (.ops [⟨(some 14), none, .fieldAddr 0 (T 1)⟩, ⟨(some 15), none, .fieldAddr 4 (T 14)⟩, ⟨(some 16), none, .load1 (T 15)⟩, ⟨(some 17), none, .len (T 16)⟩, ⟨(some 18), none, .mov (.const (.int .i64 (0)))⟩]) (.block 2 (.loop (.seq (.ops [⟨(some 19), none, .int2 .lss (T 18) (T 17)⟩]) (.seq (.cond (T 19) .skip (.exit 2)) (.seq (.block 3 (.seq (.ops [⟨(some 20), none, .mov (T 18)⟩, ⟨(some 21), none, .idxSl 3 (T 16) (T 18)⟩, ⟨(some 22), none, .loadN 3 (T 21)⟩, ⟨(some 8), none, .alloc [(.int .i64 (0)), (.int .i64 (0)), (.bool false)]⟩, ⟨(some 7), none, .mov (T 20)⟩, ⟨none, none, .store 3 (T 8) (T 22)⟩]) (.seq (.ops [⟨(some 23), none, .loadN 3 (T 6)⟩, ⟨(some 24), none, .loadN 3 (T 8)⟩, ⟨(some 25), none, .call (.func 112) [(T 23), (T 24)]⟩, ⟨(some 26), none, .not (T 25)⟩]) (.cond (T 26) (.ops [⟨(some 27), none, .mov (T 5)⟩, ⟨(some 28), none, .mov (T 7)⟩, ⟨(some 29), none, .bslice 1 1 [(.int .i64 (0))] [0] [(T 28)]⟩, ⟨(some 30), none, .append 1 8 (T 27) (T 29)⟩, ⟨(some 5), none, .mov (T 30)⟩]) .skip)))) (.ops [⟨(some 31), none, .int2 .add (T 18) (.const (.int .i64 (1)))⟩, ⟨(some 18), none, .mov (T 31)⟩]))))))) (.ops [⟨(some 32), none, .load1 (T 3)⟩, ⟨(some 33), none, .mov (T 5)⟩, ⟨(some 34), none, .bslice 1 1 [(.slice none 0 0)] [0] [(T 33)]⟩, ⟨(some 35), none, .append 1 24 (T 32) (T 34)⟩, ⟨none, none, .store 1 (T 3) (T 35)⟩])))))
theorem rbok100_0 : compCode Try.prog 37 (rangeOf Try.f100 0).2 = some rb100_0 := by kernel_rfl
set_option maxHeartbeats 4000000 in
theorem wrongAll_c (hn : 500 ≤ n) (hr : h.next + 60000 < far) (hfl : h.floor ≤ h.next) {vv sv : Value} {S : MB} (hy : BeatR h vv sv S) (hG : Good S) :
    ∃ v h', call n (.func (.func 100) #[] #[]) [.agg ⟨wkL S vv sv nilS⟩] h = some (v, h') ∧ AllR h' v (allW S) ∧ oneCell v = true ∧ (∀ i, i < h.next → h'.get i = h.get i) ∧ h.next ≤ h'.next ∧ h'.next ≤ h.next + 50000 ∧ h'.floor = h.floor := by
  obtain ⟨n, rfl⟩ : ∃ p, n = p + 1 := ⟨n - 1, by omega⟩
  refine call_any0 fok100 rfl rfl (by simp) ?_
  have hlenE := enum_len hG
  have u4 : Try.prog.underlying 4 = some .bool := Try.underlying4
  obtain ⟨_, _, z3, z5, _⟩ := hG.sizes
  simp only [s100, W_seq, W_ops]
  refine ops_box (cs := wkL S vv sv nilS) (by omega) rfl (wk_one hy rfl) fun g1 hx1 => ?_
  have n1 := hx1.next
  have f1 := hx1.floor
  have e1 : g1.next = h.next + 1 := n1
  simp only [rn0, rn1, rn2, rn3, rn4, rn5, rn6, rn7, rn8, if_true, if_false, Nat.le_refl, true_and, and_true, decide_true, decide_false, Bool.not_true, Bool.not_false, reduceIte, Nat.reduceEqDiff, Nat.reduceAdd, Nat.reduceMul, Nat.reduceSub, Nat.reduceLeDiff, Nat.reduceLT]
  refine step_row (cs := [nilS]) (by omega) rfl rfl fun g2 hx2 => ?_
  have n2 := hx2.next
  have f2 := hx2.floor
  have e2 : g2.next = h.next + 2 := by omega
  have w2 := (hx1.row.mono hx2.sub).whole (n := 6) rfl
  have old2 : ∀ i, i < h.next → g2.get i = h.get i := fun i hi => by rw [hx2.old i (by omega), hx1.old i hi]
  obtain ⟨g4, e4, hx4⟩ := courses_c (n := n) (h := g2) (cs := wkL S vv sv nilS) (by omega) (by omega) (wk_one hy rfl) rfl
  have n4 := hx4.next
  have f4 := hx4.floor
  rw [e1]
  simp only [rn0, rn1, rn2, rn3, rn4, rn5, rn6, rn7, rn8, if_true, if_false, Nat.le_refl, true_and, and_true, decide_true, decide_false, Bool.not_true, Bool.not_false, reduceIte, Nat.reduceEqDiff, Nat.reduceAdd, Nat.reduceMul, Nat.reduceSub, Nat.reduceLeDiff, Nat.reduceLT, w2, e4]
  refine W_range' rfl (by omega) (by simp only [rn0, rn1, rn2, rn3, rn4, rn5, rn6, rn7, rn8, if_true, if_false, Nat.le_refl, true_and, and_true, decide_true, decide_false, Bool.not_true, Bool.not_false, reduceIte, Nat.reduceEqDiff, Nat.reduceAdd, Nat.reduceMul, Nat.reduceSub, Nat.reduceLeDiff, Nat.reduceLT]; rfl) fun f0 hf0 ts hv h2 hl => ?_
  have c1 : f0 1 = .pointer (some ⟨h.next, 0, none⟩) := by rw [hf0]; simp only [rn0, rn1, rn2, rn3, rn4, rn5, rn6, rn7, rn8, if_true, if_false, Nat.le_refl, true_and, and_true, decide_true, decide_false, Bool.not_true, Bool.not_false, reduceIte, Nat.reduceEqDiff, Nat.reduceAdd, Nat.reduceMul, Nat.reduceSub, Nat.reduceLeDiff, Nat.reduceLT]
  have c3 : f0 3 = .pointer (some ⟨h.next + 1, 0, none⟩) := by rw [hf0]; simp only [rn0, rn1, rn2, rn3, rn4, rn5, rn6, rn7, rn8, if_true, if_false, Nat.le_refl, true_and, and_true, decide_true, decide_false, Bool.not_true, Bool.not_false, reduceIte, Nat.reduceEqDiff, Nat.reduceAdd, Nat.reduceMul, Nat.reduceSub, Nat.reduceLeDiff, Nat.reduceLT]
  clear hf0
  have nl := hl.next
  have fl := hl.floor
  have en : g4.next = h.next + 3 := by omega
  have hbase : ∀ i, i < h.next → h2.get i = h.get i := fun i hi => by rw [hl.old i (by omega), hx4.old i (by omega), old2 i hi]
  have hp2 : h2.get (h.next + 1) = some (.row [nilS] true 0) := by
    rw [hl.old _ (by omega), hx4.old _ (by omega)]; have := hx2.get; rw [e1] at this; exact this
  have hw2 : h2.get h.next = some (.row (wkL S vv sv nilS) true 0) := by
    rw [hl.old _ (by omega), hx4.old _ (by omega), hx2.old _ (by omega)]; exact hx1.get
  have hpw : Row h2 (h.next + 2) (wkL S vv sv nilS) := by
    have := hx4.row.mono hl.sub
    rw [e2] at this
    exact this
  have hloop := hl.loop
  have hmark := hl.mark
  rw [en] at hloop hmark
  rw [en]
  rw [en] at hl
  generalize hr0 : loopO _ ts _ _ _ _ = r at hloop ⊢
  have r1 : r.state = .ready := by rw [← hr0]; rfl
  have r2 : View 37 r.tmps f0 := by rw [← hr0]; exact hv
  have r3 : r.params = #[11] := by rw [← hr0]; rfl
  have r4 : compCode Try.prog 37 r.assign = some ra100_0 := by rw [← hr0]; exact raok100_0
  have r5 : compCode Try.prog 37 r.body = some rb100_0 := by rw [← hr0]; exact rbok100_0
  have r6 : leftBy r .norm = r := by rw [← hr0]; rfl
  clear hr0 hl hv
  have en2 : h2.next = h.next + 5 := by omega
  have hit := iter_c (Own := OwnB h2 (h.next + 1) (h.next + 2)) (wrongStep S) (JW h2 (h.next + 1)) (g := h2) (pw := h.next + 2) (K := 210) (N0 := 300) (n := n) (tv := nilS) (yv := .func (.yield (h.next + 4)) #[] #[]) [] hG hpw rfl (by simp [eqV, eqCell]) (by omega) (by omega) (by omega)
    (fun g' q hq => hq.2.2.1)
    (fun s g' hj => hy.mono (AHeap.subOf fun i hi => by rw [hj.old i (by omega) (by omega), hbase i hi]))
    (fun s g1 g' cs hj hs => by
      obtain ⟨v, R, t1, t2⟩ := hj.tv
      have hnx := hs.next
      exact ⟨fun i hi hne => by rw [hs.old i (by omega)]; exact hj.old i hi hne, ⟨v, R, by rw [hs.old _ (by omega)]; exact t1, t2.old (fun i hi _ => hs.old i (by omega)) (by omega)⟩, by have := hj.up; omega, by have := hj.len; omega⟩)
    (fun s g1 g' hj hx => by
      obtain ⟨v, R, t1, t2⟩ := hj.tv
      have := hj.up
      have hnx := hx.up
      exact ⟨fun i hi hne => by rw [hx.old i (by omega)]; exact hj.old i hi hne, ⟨v, R, by rw [hx.old _ (by omega)]; exact t1, t2.old (fun i hi h => hx.old i h) (by omega)⟩, by omega, by have := hj.len; omega⟩)
    (fun s g1 g' cs q hj hs ho => ⟨ho.1, ho.2.1, ho.2.2.1, fun v e => ho.2.2.2 v (by rw [← hs.old _ (by omega)]; exact e)⟩)
    (fun s g1 g' q hj hx ho => ⟨ho.1, ho.2.1, ho.2.2.1, fun v e => ho.2.2.2 v (by rw [← hx.old _ (by have := hj.up; omega)]; exact e)⟩)
    (fun g' ho hfg hup => ⟨⟨fun i hi _ => ho i hi, ⟨nilS, _, by rw [ho _ (by omega)]; exact hp2, .nil⟩, by omega, Nat.zero_le _⟩, ⟨.inr rfl, by omega, by omega, fun v e => by
      rw [ho _ (by omega), hp2] at e
      simp only [Option.some.injEq, AObj.row.injEq, and_true, List.cons.injEq] at e
      subst e
      intro b m c e'
      cases e'⟩, fun q hq _ hne => ⟨.inl hq, by omega, hne, fun v e => by
      rw [ho _ (by omega), hp2] at e
      simp only [Option.some.injEq, AObj.row.injEq, and_true, List.cons.injEq] at e
      subst e
      intro b m c e'
      cases e'⟩⟩)
    (fun m g1 s c cw pn py pc hm it hb hok hj hcw how hfg hr1 => by
      obtain ⟨m, rfl⟩ : ∃ p, m = p + 1 := ⟨m - 1, by omega⟩
      rw [call_yield]
      obtain ⟨v, R, hp, gr⟩ := hj.tv
      have hup := hj.up
      have hlen := hj.len
      have hloop1 : g1.get (h.next + 4) = some (.loop r) := by rw [hj.old _ (by omega) (by omega)]; exact hloop
      have hpb := AHeap.lt_of_get hb
      suffices key : ∃ e g', roundA Try.prog (call m) m (h.next + 4) [.agg ⟨coL (c 0) cw⟩] g1 = some (.bool (goesOn e), g') ∧ (e = .norm ∧ JW h2 (h.next + 1) (wrongStep S s c).1 g' ∧ (∀ q, q ≠ h.next + 1 → q ≠ h.next + 4 → q < g1.next → NeB v q → g'.get q = g1.get q) ∧ (∃ v', g'.get (h.next + 1) = some (.row [v'] true 0) ∧ ∀ q, q < g1.next → NeB v q → NeB v' q) ∧ g'.floor = h2.floor ∧ g1.next ≤ g'.next ∧ g'.next ≤ g1.next + 200) by
        obtain ⟨e, g', k1, rfl, k2, k3, ⟨v', k4, k5⟩, k6, k7, k8⟩ := key
        refine ⟨g', k1, k2, fun q cs hq ho => ?_, by rw [k3 _ (by omega) (by omega) hpb (neB_of gr.c (by left; omega))]; exact hb, k6, k7, by omega⟩
        obtain ⟨o1, o2, o3, o4⟩ := ho
        have hlt : q < g1.next := by obtain ⟨w, gr, e⟩ := hq; exact AHeap.lt_of_get e
        have hne := o4 v hp
        refine ⟨by obtain ⟨w, gr, e⟩ := hq; exact ⟨w, gr, by rw [k3 q o2 (by omega) hlt hne]; exact e⟩, o1, o2, o3, fun v2 e => ?_⟩
        rw [k4] at e
        simp only [Option.some.injEq, AObj.row.injEq, and_true, List.cons.injEq] at e
        subst e
        exact k5 q hlt hne
      refine round_run (f := f0) hloop1 r1 r2 (by rw [r3]; rfl) (by omega) r4 r5 ?_
      have hset : setFr f0 r.params.toList [.agg ⟨coL (c 0) cw⟩] = upd f0 11 (.agg ⟨coL (c 0) cw⟩) := by rw [r3]; rfl
      rw [hset]
      simp only [rn0, rn1, rn2, rn3, rn4, rn5, rn6, rn7, rn8, if_true, if_false, Nat.le_refl, true_and, and_true, decide_true, decide_false, Bool.not_true, Bool.not_false, reduceIte, Nat.reduceEqDiff, Nat.reduceAdd, Nat.reduceMul, Nat.reduceSub, Nat.reduceLeDiff, Nat.reduceLT, ra100_0]
      refine step_new (vs := coL (c 0) cw) (by omega) (by omega) rfl (by simp only [rn0, rn1, rn2, rn3, rn4, rn5, rn6, rn7, rn8, if_true, if_false, Nat.le_refl, true_and, and_true, decide_true, decide_false, Bool.not_true, Bool.not_false, reduceIte, Nat.reduceEqDiff, Nat.reduceAdd, Nat.reduceMul, Nat.reduceSub, Nat.reduceLeDiff, Nat.reduceLT]; rfl) (by simp [coL, allB, one_int, how]) rfl rfl fun g2 hx2 => ?_
      have n2 := hx2.next
      have f2 := hx2.floor
      simp only [rn0, rn1, rn2, rn3, rn4, rn5, rn6, rn7, rn8, if_true, if_false, Nat.le_refl, true_and, and_true, decide_true, decide_false, Bool.not_true, Bool.not_false, reduceIte, Nat.reduceEqDiff, Nat.reduceAdd, Nat.reduceMul, Nat.reduceSub, Nat.reduceLeDiff, Nat.reduceLT]
      refine ⟨by rw [hx2.old _ (by omega)]; exact hloop1, by omega, fun g3 hp3 => ?_⟩
      have n3 := hp3.next
      have f3 := hp3.floor
      have g3old : ∀ i, i < g1.next → i ≠ h.next + 4 → g3.get i = g1.get i := fun i hi hne => by rw [hp3.old i hne, hx2.old i hi]
      have g3b : ∀ i, i < h.next → g3.get i = h.get i := fun i hi => by rw [g3old i (by omega) (by omega), hj.old i (by omega) (by omega), hbase i hi]
      have hy3 := hy.mono (AHeap.subOf g3b)
      have hp3' : g3.get (h.next + 1) = some (.row [v] true 0) := by rw [g3old _ (by omega) (by omega)]; exact hp
      have rw3 : Row g3 h.next (wkL S vv sv nilS) := ⟨true, 0, by rw [g3old _ (by omega) (by omega), hj.old _ (by omega) (by omega)]; exact hw2⟩
      have rc3 : Row g3 g1.next (coL (c 0) cw) := by
        obtain ⟨w, gr, e⟩ := hx2.row
        exact ⟨w, gr, by rw [hp3.old _ (by omega)]; exact e⟩
      have hcu : InU S c := fun i hi => hok.1 i hi
      have l3 : g3.get (h.next + 4) = some (.loop { r with state := .busy }) := hp3.get
      have hcw3 : CouR g3 cw S c := by
        obtain ⟨a', cap', e', sp, hz | ⟨b, o, cs, w, gr', e2', e3', e4'⟩⟩ := hcw
        · exact ⟨a', cap', e', sp, .inl hz⟩
        · refine ⟨a', cap', e', sp, .inr ⟨b, o, cs, w, gr', e2', ?_, e4'⟩⟩
          rw [g3old b (AHeap.lt_of_get e3') (by rintro rfl; rw [hloop1] at e3'; cases e3')]
          exact e3'
      have edn := done_c (n := m) (h := g3) (by omega) (by omega) hcw3 hG hcu
      simp only [rn0, rn1, rn2, rn3, rn4, rn5, rn6, rn7, rn8, if_true, if_false, Nat.le_refl, true_and, and_true, decide_true, decide_false, Bool.not_true, Bool.not_false, reduceIte, Nat.reduceEqDiff, Nat.reduceAdd, Nat.reduceMul, Nat.reduceSub, Nat.reduceLeDiff, Nat.reduceLT, rb100_0, c1, c3, rc3.whole (n := 2) rfl, edn]
      refine step_new (vs := dn (doneS S c)) (by omega) (by omega) rfl (by simp only [rn0, rn1, rn2, rn3, rn4, rn5, rn6, rn7, rn8, if_true, if_false, Nat.le_refl, true_and, and_true, decide_true, decide_false, Bool.not_true, Bool.not_false, reduceIte, Nat.reduceEqDiff, Nat.reduceAdd, Nat.reduceMul, Nat.reduceSub, Nat.reduceLeDiff, Nat.reduceLT]; rfl) dn_one dn_len rfl fun g4 hx4 => ?_
      have n4 := hx4.next
      have f4 := hx4.floor
      have rw4 := rw3.mono hx4.sub
      have hy4 := hy3.mono hx4.sub
      have rd4 := hx4.row
      simp only [rn0, rn1, rn2, rn3, rn4, rn5, rn6, rn7, rn8, if_true, if_false, Nat.le_refl, true_and, and_true, decide_true, decide_false, Bool.not_true, Bool.not_false, reduceIte, Nat.reduceEqDiff, Nat.reduceAdd, Nat.reduceMul, Nat.reduceSub, Nat.reduceLeDiff, Nat.reduceLT, c1, c3, rw4.ld, wkg, Nat.zero_add, Nat.add_zero, Cells.len hy4.s]
      refine W_loop S.ns (fun k f g ms => (∃ x, (∀ i, i < g4.next → g.get i = g4.get i) ∧ g.floor = g4.floor ∧ g4.next ≤ g.next ∧ g.next ≤ g4.next + 3 * k ∧ GrowC g4.next g x 1 (pickL (wrS S c) k).length (fun i _ => .int .i64 (atL (pickL (wrS S c) k) i)) ∧ f 5 = x) ∧ ms = [] ∧ f 1 = .pointer (some ⟨h.next, 0, none⟩) ∧ f 3 = .pointer (some ⟨h.next + 1, 0, none⟩) ∧ f 4 = .pointer (some ⟨g1.next, 0, none⟩) ∧ f 6 = .pointer (some ⟨g3.next, 0, none⟩) ∧ f 16 = sv ∧ f 17 = .int .i64 (S.ns : Int) ∧ f 18 = .int .i64 (k : Int)) (by simp; omega) ?_ ?_ ?_
      · simp only [rn0, rn1, rn2, rn3, rn4, rn5, rn6, rn7, rn8, if_true, if_false, Nat.le_refl, true_and, and_true, decide_true, decide_false, Bool.not_true, Bool.not_false, reduceIte, Nat.reduceEqDiff, Nat.reduceAdd, Nat.reduceMul, Nat.reduceSub, Nat.reduceLeDiff, Nat.reduceLT, c1, c3, Int.natCast_zero]
        first | exact ⟨⟨nilS, fun _ _ => trivial, by omega, .nil, rfl⟩, rfl⟩ | exact ⟨⟨nilS, fun _ _ => rfl, rfl, by omega, by omega, .nil, rfl⟩, rfl⟩ | exact ⟨nilS, fun _ _ => trivial, by omega, .nil, rfl⟩ | exact ⟨nilS, fun _ _ => trivial, .nil, rfl⟩
      · rintro k f g ms hk ⟨⟨x, ho, hfg', hup', hnx, gv, p5⟩, rfl, p1, p3, p4, p6, p16, p17, p18⟩
        have hk' : (k : Int) < (S.ns : Int) := by omega
        have hw : wrapF .i64 ((k : Int) + 1) = ((k + 1 : Nat) : Int) := by rw [wrap_in (by omega) (by omega)]; rfl
        have sg : Sub All g4 g := AHeap.subOf ho
        have hyg := hy4.mono sg
        have hlk := pick_len (p := wrS S c) k
        simp only [rn0, rn1, rn2, rn3, rn4, rn5, rn6, rn7, rn8, if_true, if_false, Nat.le_refl, true_and, and_true, decide_true, decide_false, Bool.not_true, Bool.not_false, reduceIte, Nat.reduceEqDiff, Nat.reduceAdd, Nat.reduceMul, Nat.reduceSub, Nat.reduceLeDiff, Nat.reduceLT, p1, p3, p4, p5, p6, p16, p17, p18, hk', Cells.idx hyg.s hk, samp_ld hyg hk]
        refine step_row (cs := [.int .i64 0, .int .i64 0, .bool false]) (by omega) rfl rfl fun ga hxa => ?_
        have na := hxa.next
        have fa := hxa.floor
        simp only [rn0, rn1, rn2, rn3, rn4, rn5, rn6, rn7, rn8, if_true, if_false, Nat.le_refl, true_and, and_true, decide_true, decide_false, Bool.not_true, Bool.not_false, reduceIte, Nat.reduceEqDiff, Nat.reduceAdd, Nat.reduceMul, Nat.reduceSub, Nat.reduceLeDiff, Nat.reduceLT, p1, p3, p4, p5, p6, p16, p17, p18]
        refine step_store (b := g.next) (off := 0) (vs := smL S k) rfl hxa.get (by omega) (by omega) rfl rfl rfl (by simp) fun gb hsb => ?_
        rw [splice_all (by rfl)] at hsb
        have nb := hsb.next
        have fb := hsb.floor
        have oldb : ∀ i, i < g.next → gb.get i = g.get i := fun i hi => by rw [hsb.old i (by omega), hxa.old i hi]
        have subb : Sub All g gb := AHeap.subOf oldb
        have rdb := (rd4.mono sg).mono subb
        obtain ⟨ri, hri, ei⟩ := isRight2_c u4 (n := m) (h := gb) (u := c) (k := k) (by omega) (by omega) hG hk
        have gvb : GrowC g4.next gb x 1 (pickL (wrS S c) k).length (fun i _ => .int .i64 (atL (pickL (wrS S c) k) i)) := GrowC.at' gv fun a k c e => oldb _ (gv.block e).2
        by_cases hR : RightS S c k
        · have hp0 : pickL (wrS S c) (k + 1) = pickL (wrS S c) k := pick_no fun q => q hR
          simp only [rn0, rn1, rn2, rn3, rn4, rn5, rn6, rn7, rn8, if_true, if_false, Nat.le_refl, true_and, and_true, decide_true, decide_false, Bool.not_true, Bool.not_false, reduceIte, Nat.reduceEqDiff, Nat.reduceAdd, Nat.reduceMul, Nat.reduceSub, Nat.reduceLeDiff, Nat.reduceLT, p1, p3, p4, p5, p6, p16, p17, p18, rdb.whole (n := 3) dn_len, hsb.row.whole (n := 3) rfl, ei, hri.2 hR, hw]
          rw [hp0]
          have hfin := And.intro (fun i (hi : i < g4.next) => (by rw [oldb i (by omega), ho i hi] : gb.get i = g4.get i)) (And.intro (by omega : gb.floor = g4.floor) (And.intro (by omega : g4.next ≤ gb.next) (And.intro (by omega : gb.next ≤ g4.next + 3 * (k + 1)) (And.intro gvb (rfl : x = x)))))
          first | exact ⟨x, hfin⟩ | exact ⟨⟨x, hfin⟩, rfl⟩
        · have hp1 : pickL (wrS S c) (k + 1) = pickL (wrS S c) k ++ [(k : Int)] := pick_yes hR
          have hrf : ri = false := Bool.eq_false_iff.2 fun q => hR (hri.1 q)
          simp only [rn0, rn1, rn2, rn3, rn4, rn5, rn6, rn7, rn8, if_true, if_false, Nat.le_refl, true_and, and_true, decide_true, decide_false, Bool.not_true, Bool.not_false, reduceIte, Nat.reduceEqDiff, Nat.reduceAdd, Nat.reduceMul, Nat.reduceSub, Nat.reduceLeDiff, Nat.reduceLT, p1, p3, p4, p5, p6, p16, p17, p18, rdb.whole (n := 3) dn_len, hsb.row.whole (n := 3) rfl, ei, hrf, sl_int]
          refine step_slice (by omega) rfl fun gc hxc => ?_
          have nc := hxc.next
          have fc := hxc.floor
          have gvc : GrowC g4.next gc x 1 (pickL (wrS S c) k).length (fun i _ => .int .i64 (atL (pickL (wrS S c) (k + 1)) i)) := (gvb.sub hxc.sub).congr fun i j hi hj => by rw [hp1, at_append hi]
          obtain ⟨x', gd, ed, evd, gvd, hkd⟩ := gvc.append (bytes := 8) (cap := 1) (by omega) (by omega) (by omega) hxc.get rfl rfl (fun j hj => by
            obtain rfl : j = 0 := by omega
            rw [hp1, at_last]; rfl) (by simp [maxBytes]; omega) (by simp [maxBytes]; omega)
          have nd := hkd.next
          have fd := hkd.floor
          have hlen1 : (pickL (wrS S c) (k + 1)).length = (pickL (wrS S c) k).length + 1 := by rw [hp1, List.length_append, List.length_singleton]
          simp only [rn0, rn1, rn2, rn3, rn4, rn5, rn6, rn7, rn8, if_true, if_false, Nat.le_refl, true_and, and_true, decide_true, decide_false, Bool.not_true, Bool.not_false, reduceIte, Nat.reduceEqDiff, Nat.reduceAdd, Nat.reduceMul, Nat.reduceSub, Nat.reduceLeDiff, Nat.reduceLT, p1, p3, p4, p5, p6, p16, p17, p18, ed, hw]
          rw [hlen1]
          have hfin := And.intro (fun i (hi : i < g4.next) => (by rw [hkd.old i (by omega) fun bb kk qq e => by have := (gvc.block e).1; omega, hxc.old i (by omega), oldb i (by omega), ho i hi] : gd.get i = g4.get i)) (And.intro (by omega : gd.floor = g4.floor) (And.intro (by omega : g4.next ≤ gd.next) (And.intro (by omega : gd.next ≤ g4.next + 3 * (k + 1)) (And.intro gvd (rfl : x' = x')))))
          first | exact ⟨x', hfin⟩ | exact ⟨⟨x', hfin⟩, rfl⟩
      · rintro f g ms ⟨⟨x, ho, hfg', hup', hnx, gv, p5⟩, rfl, p1, p3, p4, p6, p16, p17, p18⟩
        have hq3 : g.get (h.next + 1) = some (.row [v] true 0) := by rw [ho _ (by omega), hx4.old _ (by omega)]; exact hp3'
        have rq3 : Row g (h.next + 1) [v] := ⟨_, _, hq3⟩
        have lg : g.get (h.next + 4) = some (.loop { r with state := .busy }) := by rw [ho _ (by omega), hx4.old _ (by omega)]; exact l3
        have xone := gv.one
        have wrg : WrG (h2.next + 2) g v s R := gr.old (fun i h1 h2 => by rw [ho i (by omega), hx4.old i (by omega), g3old i h2 (by omega)]) (by omega)
        simp only [rn0, rn1, rn2, rn3, rn4, rn5, rn6, rn7, rn8, if_true, if_false, Nat.le_refl, true_and, and_true, decide_true, decide_false, Bool.not_true, Bool.not_false, reduceIte, Nat.reduceEqDiff, Nat.reduceAdd, Nat.reduceMul, Nat.reduceSub, Nat.reduceLeDiff, Nat.reduceLT, p1, p3, p4, p5, p6, p16, p17, p18, Int.lt_irrefl, rq3.ld, Nat.zero_add, List.getElem?_cons_zero, sl_list xone]
        refine step_slice (by omega) (by simp [allB, xone]) fun ga hxa => ?_
        have na := hxa.next
        have fa := hxa.floor
        obtain ⟨v', gb, eb, wrb, ob, evb, nb, fb, oldb⟩ := wrg.push (w := wrongL S c) (by omega) (by omega) (by omega) hxa gv.cells xone (fun y k q e => by
          have := gv.block e
          exact ⟨by omega, by omega, neB_of gr.c (by right; omega)⟩) (by have := hj.len; omega)
        have neP : NeB v (h.next + 1) := neB_of gr.c (by left; omega)
        have neL : NeB v (h.next + 4) := neB_of gr.c (by left; omega)
        simp only [rn0, rn1, rn2, rn3, rn4, rn5, rn6, rn7, rn8, if_true, if_false, Nat.le_refl, true_and, and_true, decide_true, decide_false, Bool.not_true, Bool.not_false, reduceIte, Nat.reduceEqDiff, Nat.reduceAdd, Nat.reduceMul, Nat.reduceSub, Nat.reduceLeDiff, Nat.reduceLT, p1, p3, p4, p5, p6, p16, p17, p18, eb]
        refine step_store (b := h.next + 1) (off := 0) (vs := [v']) (by rfl) (by rw [oldb _ (by omega) neP]; exact hq3) (by omega) (by omega) (by rw [evb]; rfl) (by rw [evb]; rfl) rfl (by simp) fun g6 hs6 => ?_
        rw [splice1] at hs6
        have n6 := hs6.next
        have f6 := hs6.floor
        simp only [rn0, rn1, rn2, rn3, rn4, rn5, rn6, rn7, rn8, if_true, if_false, Nat.le_refl, true_and, and_true, decide_true, decide_false, Bool.not_true, Bool.not_false, reduceIte, Nat.reduceEqDiff, Nat.reduceAdd, Nat.reduceMul, Nat.reduceSub, Nat.reduceLeDiff, Nat.reduceLT]
        refine ⟨by rw [hs6.old _ (by omega), oldb _ (by omega) neL]; exact lg, by omega, by omega, fun g7 hp7 => ⟨?_, ?_, ?_, by rw [hp7.floor]; omega, by rw [hp7.next]; omega, by rw [hp7.next]; omega⟩⟩
        · have n7 := hp7.next
          have hst : (wrongStep S s c).1 = s ++ [wrongL S c] := rfl
          rw [hst]
          have old6 : ∀ i, i < g1.next → i ≠ h.next + 1 → i ≠ h.next + 4 → NeB v i → g6.get i = g1.get i := fun i hi a1 a2 hne => by rw [hs6.old i a1, oldb i (by omega) hne, ho i (by omega), hx4.old i (by omega), g3old i hi a2]
          refine ⟨fun i hi hne => ?_, ⟨v', _, ?_, wrb.old (fun i h1 h2 => by rw [hp7.old i (by omega), hs6.old i (by omega)]) (by omega)⟩, by omega, by rw [List.length_append, List.length_singleton]; omega⟩
          · by_cases e : i = h.next + 4
            · subst e; rw [hp7.get, r6, ← hj.old _ hi hne]; exact hloop1.symm
            · rw [hp7.old i e, old6 i (by omega) hne e (neB_of gr.c (by left; omega))]; exact hj.old i hi hne
          · rw [hp7.old _ (by omega)]; exact hs6.get
        · intro i hi1 hi4 hlt hne
          rw [hp7.old i hi4, hs6.old i hi1, oldb i (by omega) hne, ho i (by omega), hx4.old i (by omega), g3old i hlt hi4]
        · refine ⟨v', by rw [hp7.old _ (by omega)]; exact hs6.get, fun q hq _ b m c' e => ?_⟩
          rw [evb] at e
          cases e
          show q ≠ g.next + 1
          omega)
    (by omega)
  obtain ⟨v5, g5, e5, j5, fl5, u5, n5⟩ := hit
  rw [runL_wrong] at j5
  simp only [List.nil_append] at j5
  change JW h2 (h.next + 1) (allW S) g5 at j5
  obtain ⟨v, R, t1, t2⟩ := j5.tv
  have hup := j5.up
  refine ⟨v5, g5, .norm, by rw [e2]; exact e5, by omega, by omega, by rw [r6, j5.old _ (by omega) (by omega)]; exact hloop, fun g6 hp6 => ?_⟩
  have n6 := hp6.next
  have f6 := hp6.floor
  have t6 : Row g6 (h.next + 1) [v] := ⟨true, 0, by rw [hp6.old _ (by omega)]; exact t1⟩
  have m6 : g6.get (h.next + 3) = some .deferred := by rw [hp6.old _ (by omega), j5.old _ (by omega) (by omega)]; exact hmark
  simp only [rn0, rn1, rn2, rn3, rn4, rn5, rn6, rn7, rn8, if_true, if_false, Nat.le_refl, true_and, and_true, decide_true, decide_false, Bool.not_true, Bool.not_false, reduceIte, Nat.reduceEqDiff, Nat.reduceAdd, Nat.reduceMul, Nat.reduceSub, Nat.reduceLeDiff, Nat.reduceLT, c3, t6.ld, Nat.zero_add, List.getElem?_cons_zero]
  refine ret_mark (.inr rfl) m6 (by omega) (by omega) fun g8 hp8 => ?_
  have n8 := hp8.next
  have f8 := hp8.floor
  have t8 : WrG (h2.next + 2) g8 v (allW S) R := t2.old (fun i h1 h2 => by rw [hp8.old i (by omega), hp6.old i (by omega)]) (by omega)
  simp only [rn0, rn1, rn2, rn3, rn4, rn5, rn6, rn7, rn8, if_true, if_false, Nat.le_refl, true_and, and_true, decide_true, decide_false, Bool.not_true, Bool.not_false, reduceIte, Nat.reduceEqDiff, Nat.reduceAdd, Nat.reduceMul, Nat.reduceSub, Nat.reduceLeDiff, Nat.reduceLT]
  refine ⟨⟨R, t8.c.cells, fun k hk => (t8.r k hk).1⟩, t8.c.one, fun i hi => ?_, by omega, by omega, by omega⟩
  rw [hp8.old i (by omega), hp6.old i (by omega), j5.old i (by omega) (by omega), hbase i hi]
end Go.Vm.Bt

namespace Go.Vm.Bt
open Go.Proofs Go.Vm.Vat Go.Vm.L2
set_option linter.unusedSimpArgs false
set_option linter.unusedVariables false
set_option maxRecDepth 10000
variable {n : Nat} {h : AHeap}
theorem allE_mem {S : MB} {c : Nat → Int} : c ∈ allE S ↔ InU S c ∧ ∀ j, numU S ≤ j → c j = 0 := by
  unfold allE
  rw [enumB_ok, Nat.zero_add]
  constructor
  · rintro ⟨h1, h2⟩; exact ⟨fun i hi => h1 i (Nat.zero_le _) hi, fun j hj => h2 j (.inr hj)⟩
  · rintro ⟨h1, h2⟩; exact ⟨fun i _ hi => h1 i hi, fun j hj => h2 j (by omega)⟩
theorem allE_ne {S : MB} (hG : Good S) : allE S ≠ [] := fun e => by
  have : nthU S 0 ∈ allE S := allE_mem.2 ⟨nthU_in hG, fun j hj => nthU_out hj⟩
  rw [e] at this; cases this
def blkS (S : MB) (k : Nat) : Prop := ∀ t, t ∈ allE S → ∃ i, i ≤ k ∧ i < S.ns ∧ wrS S t i
noncomputable def firstF (S : MB) : Option Nat := fstP (blkS S) S.ns
noncomputable def firstV (S : MB) : Int := if faultS S = 0 then optI (firstF S) 0 else 0
noncomputable def firstE (S : MB) : Int := if faultS S = 0 then (if firstF S = none then 7 else 0) else faultS S
theorem allW_at {S : MB} {j : Nat} (hj : j < (allW S).length) : ∃ t, t ∈ allE S ∧ (allW S).getD j [] = wrongL S t := by
  have hm : (allW S).getD j [] ∈ allW S := by
    rw [List.getD_eq_getElem?_getD, List.getElem?_eq_getElem hj]
    exact List.getElem_mem hj
  obtain ⟨t, ht, e⟩ := List.mem_map.1 hm
  exact ⟨t, ht, e.symm⟩
theorem allW_of {S : MB} {t : Nat → Int} (ht : t ∈ allE S) : ∃ j, j < (allW S).length ∧ (allW S).getD j [] = wrongL S t := by
  have hm : wrongL S t ∈ allW S := List.mem_map.2 ⟨t, ht, rfl⟩
  obtain ⟨j, hj, e⟩ := List.getElem_of_mem hm
  exact ⟨j, hj, by rw [List.getD_eq_getElem?_getD, List.getElem?_eq_getElem hj]; exact e⟩
theorem first_none {S : MB} {j : Nat} (hj : j < (allW S).length) (h0 : (allW S).getD j [] = []) : firstF S = none := by
  obtain ⟨t, ht, e⟩ := allW_at hj
  rw [h0] at e
  refine fstP_none.2 fun k hk hb => ?_
  obtain ⟨i, _, i2, i3⟩ := hb t ht
  obtain ⟨q, q1, _⟩ := pick_has (p := wrS S t) i2 i3
  have q1 : q < (wrongL S t).length := q1
  rw [← e] at q1
  exact absurd q1 (Nat.not_lt_zero _)
theorem first_some {S : MB} (hG : Good S) (hn : ∀ j, j < (allW S).length → (allW S).getD j [] ≠ []) : ∃ N : Nat, firstF S = some N ∧ headM (allW S) (allW S).length = (N : Int) := by
  have hpos : 0 < (allW S).length := by
    unfold allW
    rw [List.length_map]
    exact List.length_pos_iff.2 (allE_ne hG)
  have hhead : ∀ j, j < (allW S).length → ∃ t, t ∈ allE S ∧ ∃ x : Nat, x < S.ns ∧ atL ((allW S).getD j []) 0 = (x : Int) ∧ wrS S t x ∧ ∀ i, i < x → ¬ wrS S t i := fun j hj => by
    obtain ⟨t, ht, e⟩ := allW_at hj
    have hne := hn j hj
    rw [e] at hne
    obtain ⟨x, x1, x2, x3, x4⟩ := pick_head hne
    exact ⟨t, ht, x, x1, by rw [e]; exact x2, x3, x4⟩
  obtain ⟨N, hN, j0, hj0, hN0⟩ : ∃ N : Nat, headM (allW S) (allW S).length = (N : Int) ∧ ∃ j, j < (allW S).length ∧ atL ((allW S).getD j []) 0 = (N : Int) := by
    rcases headM_at (L := allW S) (j := (allW S).length) with q | ⟨j, j1, j2⟩
    · obtain ⟨t, _, x, x1, x2, _⟩ := hhead 0 hpos
      have := headM_le (L := allW S) hpos
      exact ⟨0, q, 0, hpos, by omega⟩
    · obtain ⟨t, _, x, x1, x2, _⟩ := hhead j j1
      exact ⟨x, by rw [j2, x2], j, j1, x2⟩
  refine ⟨N, ?_, hN⟩
  obtain ⟨t0, ht0, x0, x1, x2, x3, x4⟩ := hhead j0 hj0
  have hx0 : x0 = N := by omega
  subst hx0
  refine fstP_at x1 (fun i hi hb => ?_) (fun t ht => ?_)
  · obtain ⟨k, k1, k2, k3⟩ := hb t0 ht0
    exact x4 k (by omega) k3
  · obtain ⟨j, hj, e⟩ := allW_of ht
    have hne := hn j hj
    rw [e] at hne
    obtain ⟨x, y1, y2, y3, y4⟩ := pick_head hne
    have hle := headM_le (L := allW S) hj
    rw [e] at hle
    have y2 : atL (wrongL S t) 0 = (x : Int) := y2
    exact ⟨x, by omega, y1, y3⟩
def s53 : SCode := (.seq (.ops [⟨(some 1), none, .box (T 0)⟩, ⟨(some 2), none, .mov (.const (.int .i64 (0)))⟩, ⟨(some 3), none, .mov (.const (.int .i64 (0)))⟩]) (.seq (.seq (.ops [⟨(some 8), none, .loadN 5 (T 1)⟩, ⟨(some 9), none, .call (.func 31) [(T 8)]⟩, ⟨(some 4), none, .mov (T 9)⟩]) (.seq (.ops [⟨(some 10), none, .mov (T 4)⟩, ⟨(some 11), none, .int2 .neq (T 10) (.const (.int .i64 (0)))⟩]) (.cond (T 11) (.seq (.ops [⟨(some 12), none, .mov (T 4)⟩, ⟨(some 2), none, .mov (.const (.int .i64 (0)))⟩, ⟨(some 3), none, .mov (T 12)⟩]) .ret) .skip))) (.seq (.ops [⟨(some 5), none, .mov (.const (.int .i64 (0)))⟩]) (.seq (.seq (.ops [⟨(some 13), none, .loadN 5 (T 1)⟩, ⟨(some 14), none, .build #[(0, 5), (5, 1)] [(.int .i64 (0)), (.int .i64 (0)), (.slice none 0 0), (.int .i64 (0)), (.slice none 0 0), (.slice none 0 0)] [0] [(T 13)]⟩, ⟨(some 15), none, .call (.func 100) [(T 14)]⟩, ⟨(some 16), none, .len (T 15)⟩, ⟨(some 17), none, .mov (.const (.int .i64 (0)))⟩]) (.block 0 (.loop (.seq (.ops [⟨(some 18), none, .int2 .lss (T 17) (T 16)⟩]) (.seq (.cond (T 18) .skip (.exit 0)) (.seq (.block 1 (.seq (.ops [⟨(some 19), none, .idxSl 1 (T 15) (T 17)⟩, ⟨(some 20), none, .load1 (T 19)⟩, ⟨(some 7), none, .mov (T 20)⟩]) (.seq (.seq (.ops [⟨(some 21), none, .mov (T 7)⟩, ⟨(some 22), none, .len (T 21)⟩, ⟨(some 23), none, .int2 .eql (T 22) (.const (.int .i64 (0)))⟩]) (.cond (T 23) (.seq (.ops [⟨(some 2), none, .mov (.const (.int .i64 (0)))⟩, ⟨(some 3), none, .mov (.const (.int .i64 (7)))⟩]) .ret) .skip)) (.ops [⟨(some 24), none, .mov (T 5)⟩, ⟨(some 25), none, .mov (T 7)⟩, ⟨(some 26), none, .idxSl 1 (T 25) (.const (.int .i64 (0)))⟩, ⟨(some 27), none, .load1 (T 26)⟩, ⟨(some 28), none, .plain (.call { callee := .builtin .max, args := #[(T 24), (T 27)], argTypes := #[3, 3] }) 3⟩, ⟨(some 5), none, .mov (T 28)⟩])))) (.ops [⟨(some 29), none, .int2 .add (T 17) (.const (.int .i64 (1)))⟩, ⟨(some 17), none, .mov (T 29)⟩]))))))) (.seq (.ops [⟨(some 30), none, .mov (T 5)⟩, ⟨(some 2), none, .mov (T 30)⟩, ⟨(some 3), none, .mov (.const (.int .i64 (0)))⟩]) .ret)))))
theorem fok53 : FnOk Try.prog 53 31 s53 [.tmp 2, .tmp 3] := ⟨Try.f53, _, Try.func53, rfl, Try.ntmps53, by kernel_rfl, by kernel_rfl⟩
set_option maxHeartbeats 2000000 in
theorem firstP_c (hn : 1000 ≤ n) (hr : h.next + 120000 < far) {vv sv : Value} {S : MB} (hy : BeatR h vv sv S) (hT : ThinS S) :
    call n (.func (.func 53) #[] #[]) [.agg ⟨beL S vv sv⟩] h = some (.tuple ⟨[.int .i64 (firstV S), .int .i64 (firstE S)]⟩, h) := by
  obtain ⟨n, rfl⟩ : ∃ p, n = p + 1 := ⟨n - 1, by omega⟩
  refine call_plain0 fok53 rfl rfl (by simp) rfl ?_
  have hy := hy.shut
  have hr : h.shutAll.next + 120000 < far := hr
  have hfl : h.shutAll.floor ≤ h.shutAll.next := Nat.le_refl _
  generalize h.shutAll = h at hy hr hfl
  simp only [s53, W_seq, W_ops]
  refine ops_box (cs := beL S vv sv) (by omega) rfl hy.one fun g1 hx1 => ?_
  have n1 := hx1.next
  have f1 := hx1.floor
  have hy1 := hy.mono hx1.sub
  have w1 := hx1.row.whole (n := 5) rfl
  have ec := check_c (n := n) (h := g1) (by omega) (by omega) hy1 hT
  by_cases hf : faultS S = 0
  case neg =>
    have q1 : firstV S = 0 := if_neg hf
    have q2 : firstE S = faultS S := if_neg hf
    rw [q1, q2]
    simp only [rn0, rn1, rn2, rn3, rn4, rn5, rn6, rn7, rn8, if_true, if_false, Nat.le_refl, true_and, and_true, decide_true, decide_false, Bool.not_true, Bool.not_false, reduceIte, Nat.reduceEqDiff, Nat.reduceAdd, Nat.reduceMul, Nat.reduceSub, Nat.reduceLeDiff, Nat.reduceLT, w1, ec, hf, ret_tt]
  have hG := good_of hf
  have q1 : firstV S = optI (firstF S) 0 := if_pos hf
  have q2 : firstE S = if firstF S = none then 7 else 0 := if_pos hf
  obtain ⟨_, _, z3, z5, _⟩ := hG.sizes
  have hlenW : (allW S).length ≤ 200 := by unfold allW; rw [List.length_map]; exact enum_len hG
  obtain ⟨av, g2, e2, ⟨R, hcR, hiR⟩, oav, o2, u2, m2, f2⟩ := wrongAll_c (n := n) (h := g1) (by omega) (by omega) (by omega) hy1 hG
  simp only [rn0, rn1, rn2, rn3, rn4, rn5, rn6, rn7, rn8, if_true, if_false, Nat.le_refl, true_and, and_true, decide_true, decide_false, Bool.not_true, Bool.not_false, reduceIte, Nat.reduceEqDiff, Nat.reduceAdd, Nat.reduceMul, Nat.reduceSub, Nat.reduceLeDiff, Nat.reduceLT, w1, ec, hf, build_wkB, e2, Cells.len hcR]
  refine W_loop (allW S).length (fun j f g ms => (g = g2 ∧ ∀ i, i < j → (allW S).getD i [] ≠ []) ∧ ms = [] ∧ f 5 = .int .i64 (headM (allW S) j) ∧ f 15 = av ∧ f 16 = .int .i64 ((allW S).length : Int) ∧ f 17 = .int .i64 (j : Int)) (by simp; omega) ?_ ?_ ?_
  · simp only [rn0, rn1, rn2, rn3, rn4, rn5, rn6, rn7, rn8, if_true, if_false, Nat.le_refl, true_and, and_true, decide_true, decide_false, Bool.not_true, Bool.not_false, reduceIte, Nat.reduceEqDiff, Nat.reduceAdd, Nat.reduceMul, Nat.reduceSub, Nat.reduceLeDiff, Nat.reduceLT, headM]
    first | exact ⟨⟨rfl, fun i hi => absurd hi (Nat.not_lt_zero _)⟩, rfl⟩ | exact ⟨fun i hi => absurd hi (Nat.not_lt_zero _), rfl⟩ | exact fun i hi => absurd hi (Nat.not_lt_zero _)
  · rintro j f g ms hj ⟨⟨rfl, hno⟩, rfl, p5, p15, p16, p17⟩
    have hj' : (j : Int) < ((allW S).length : Int) := by omega
    have hwj : wrapF .i64 ((j : Int) + 1) = ((j + 1 : Nat) : Int) := by rw [wrap_in (by omega) (by omega)]; rfl
    have hij := hiR j hj
    by_cases c : (allW S).getD j [] = []
    · have hl0 : (((allW S).getD j []).length : Int) = 0 := by rw [c]; rfl
      have hN := first_none hj c
      have q3 : optI (firstF S) 0 = 0 := by rw [hN]; rfl
      rw [q1, q2, q3, if_pos hN]
      simp only [rn0, rn1, rn2, rn3, rn4, rn5, rn6, rn7, rn8, if_true, if_false, Nat.le_refl, true_and, and_true, decide_true, decide_false, Bool.not_true, Bool.not_false, reduceIte, Nat.reduceEqDiff, Nat.reduceAdd, Nat.reduceMul, Nat.reduceSub, Nat.reduceLeDiff, Nat.reduceLT, p5, p15, p16, p17, hj', Cells.idx hcR hj, Cells.ld hcR hj Nat.zero_lt_one, Cells.len hij, hl0, ret_tt]
    · have hlp : 0 < ((allW S).getD j []).length := List.length_pos_iff.2 c
      have hl0 : ¬ (((allW S).getD j []).length : Int) = 0 := by omega
      have i0 : indexSl 1 (R j) (.int .i64 0) = some (ptrO (R j) 1 0 0) := Cells.idx hij hlp
      have l0 := Cells.ld hij hlp Nat.zero_lt_one
      have hno2 : ∀ i, i < j + 1 → (allW S).getD i [] ≠ [] := fun i hi => by
        by_cases e : i = j
        · rw [e]; exact c
        · exact hno i (by omega)
      have hmx : max (headM (allW S) j) (atL ((allW S).getD j []) 0) = headM (allW S) (j + 1) := rfl
      simp only [rn0, rn1, rn2, rn3, rn4, rn5, rn6, rn7, rn8, if_true, if_false, Nat.le_refl, true_and, and_true, decide_true, decide_false, Bool.not_true, Bool.not_false, reduceIte, Nat.reduceEqDiff, Nat.reduceAdd, Nat.reduceMul, Nat.reduceSub, Nat.reduceLeDiff, Nat.reduceLT, p5, p15, p16, p17, hj', Cells.idx hcR hj, Cells.ld hcR hj Nat.zero_lt_one, Cells.len hij, hl0, i0, l0, valN_tmp, Nat.reduceLT, hmx, hwj]
      first | exact ⟨⟨rfl, hno2⟩, rfl⟩ | exact ⟨rfl, hno2⟩ | exact ⟨hno2, rfl⟩ | exact hno2
  · rintro f g ms ⟨⟨rfl, hno⟩, rfl, p5, p15, p16, p17⟩
    obtain ⟨N, hN, hM⟩ := first_some hG hno
    have q3 : optI (firstF S) 0 = (N : Int) := by rw [hN]; rfl
    have q4 : (if firstF S = none then (7 : Int) else 0) = 0 := by rw [hN]; rfl
    rw [q1, q2, q3, q4]
    rw [hM] at p5
    simp only [rn0, rn1, rn2, rn3, rn4, rn5, rn6, rn7, rn8, if_true, if_false, Nat.le_refl, true_and, and_true, decide_true, decide_false, Bool.not_true, Bool.not_false, reduceIte, Nat.reduceEqDiff, Nat.reduceAdd, Nat.reduceMul, Nat.reduceSub, Nat.reduceLeDiff, Nat.reduceLT, p5, p15, p16, p17, Int.lt_irrefl, ret_tt]
end Go.Vm.Bt

namespace Go.Vm.Bt
open Go.Proofs Go.Vm.Vat Go.Vm.L2
set_option linter.unusedSimpArgs false
set_option linter.unusedVariables false
set_option maxRecDepth 10000
variable {n : Nat} {h : AHeap}
def CanB (S : MB) (s : Nat) : Prop := ∃ c, c ∈ allE S ∧ ∀ x, x < S.ns → Bit s x → RightS S c x
def zr5 : List Value := [.int .i64 0, .int .i64 0, nilS, .int .i64 0, nilS]
theorem sl_smp {x y : Int} {z : Bool} : buildSl 3 1 [.int .i64 0, .int .i64 0, .bool false] [0] h [.agg ⟨[.int .i64 x, .int .i64 y, .bool z]⟩] = newSlice h [.int .i64 x, .int .i64 y, .bool z] 1 1 0 := id rfl
end Go.Vm.Bt
