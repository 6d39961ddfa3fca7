/- Texts of the proofs of this seat, put together: VatBase, VatNth, VatTruths, VatMin, VatNeeds, VatBounds, VmEq2, VatBounds2, VatReady, VatEnds, VatEnds2, VatIter2, VatWrong, VatBefore, VatFirst, VatLeave, VatSome, VatFirstL, VatShort, VatLeftA, VatLeftB, VatAllRef, VatAllRef2, VatAskP, VmMap, VmMapK, VatAsk, VatMore, VatSIter, VatSpread, VatSpread2, VatAsk2, VatSpread3, VatSpPure, VatSpPut, VatNeeds2, VatNeeds3, VatNeeded, VatNoBetter, VatCloser. -/
import Derived.Test.YtnibceeoejeimaaPk5
import Derived.Test.YtnibceeoejeimaaRows
import Derived.WalkKit
import Derived.ProofKit
import Derived.OpenShut
import Derived.Laws.Entries

namespace Go.Vm.Vat
open Go.Proofs Go.ChangeShapes Go.WideShapes Go.ChangeAt Go.RowKit
set_option linter.unusedSimpArgs false
set_option linter.unusedVariables false
set_option maxRecDepth 10000
variable {n : Nat} {h : AHeap}
/-! ### The calls of this program are sound -/
theorem own : ownKnob Try.prog.godebug = none := by kernel_rfl
theorem mixedOn : Try.prog.follows .mixedOrders = true := by kernel_rfl
theorem namesAll : (Try.prog.funcs.toList.all fun fn => !(fn.name == "runtime.NumGoroutine")) = true := by kernel_rfl
theorem namesFine : NamesFine Try.prog := by
  intro f fn hf
  have h := List.all_eq_true.1 namesAll fn (Array.mem_toList_iff.2 (Array.mem_of_getElem? hf))
  simpa using h
theorem tabOk : ∀ E ∈ Awake.tab, ∃ cf, SoundCF Try.prog cf ∧ entryOk cf E = true := by
  have hs := vm_sound namesFine mixedOn Awake.quiet 1000
  intro E hE
  refine ⟨_, hs, ?_⟩
  revert E
  simp only [Awake.tab, List.forall_mem_cons, List.not_mem_nil, false_implies, implies_true, and_true]
  exact ⟨Awake.ok0, Awake.ok1, Awake.ok2, Awake.ok3, Awake.ok4, Awake.ok5, Awake.ok6, Awake.ok7⟩
theorem kOk : KOk Try.prog K := by
  intro f v hK
  unfold K at hK
  split at hK
  · rename_i e
    subst e
    cases hK
    refine ⟨rfl, acallO Try.prog Awake.quiet Awake.tab 1000, ?_⟩
    have hm := Awake.main_ok
    cases hr : acallO Try.prog Awake.quiet Awake.tab 1000 (.func (.func 24) #[] #[]) [] AHeap.empty with
    | none => rw [hr] at hm; cases hm
    | some vh =>
      obtain ⟨v, h'⟩ := vh
      rw [hr] at hm
      unfold Awake.isTrue at hm
      split at hm
      · rename_i e
        cases e
        exact ⟨h', acallO_sound namesFine mixedOn Awake.quiet tabOk 1000, rfl⟩
      · cases hm
  · cases hK
theorem sound (n : Nat) : SoundCF Try.prog (call n) := pcall_sound namesFine mixedOn kOk n
/-! ### The statements' arguments -/
theorem laidOk : laidOutB Try.prog = true := by kernel_rfl
theorem mapsOk : mapsRowed Try.prog = true := by kernel_rfl
theorem slicesOk : ((List.range Try.prog.types.size).all fun t => match Try.prog.underlying t with | some (.slice e) => decide (0 < Try.prog.cellsOf e) | _ => true) = true := by kernel_rfl
theorem kids : Kids Try.prog (· < Try.prog.types.size) := kids_rows laidOk mapsOk
theorem tsize : 96 < Try.prog.types.size := of_decide_eq_true (by kernel_rfl)
theorem cell_int {P : Program} {w : World} {r : Reach} {b : Nat} {t : TypeId} {k : IntKind} {v x : Value} (ht : P.underlying t = some (.int k)) (ho : Value.okWide P w r b t v) (hc : v.cells.toList = [x]) : v = x := by
  unfold Value.okWide at ho
  rw [ht] at ho
  cases v <;> simp_all [Value.cells, Cell.okWide, Cell.ok]
theorem agg_struct {P : Program} {w : World} {r : Reach} {b : Nat} {t : TypeId} {fs : Array Field} {v : Value} {cs : List Value} (ht : P.underlying t = some (.struct fs)) (ho : Value.okWide P w r b t v) (hc : v.cells.toList = cs) : v = .agg ⟨cs⟩ := by
  unfold Value.okWide at ho
  rw [ht] at ho
  obtain ⟨cs', rfl, _⟩ := ho
  subst hc
  rfl
/-- what each law does first, where its yard is too long -/
theorem thin_big (hn : 1 ≤ n) (hr : h.next + 1 < far) {u0 u1 u2 : Value} (hb : Big u0 u1 u2) : call n (.func (.func 23) #[] #[]) [.agg ⟨[u0, u1, u2]⟩] h = some (.bool false, h) := by
  obtain ⟨n, rfl⟩ : ∃ p, n = p + 1 := ⟨n - 1, by omega⟩
  obtain ⟨a0, n0, k0, a1, n1, k1, a2, n2, k2, rfl, rfl, rfl, hbig⟩ := hb
  refine call_plain0 fok23 rfl rfl (by simp) rfl ?_
  have hr : h.shutAll.next + 1 < far := hr
  generalize h.shutAll = h at hr
  simp only [s23, W_seq, W_ops]
  refine ops_box (cs := [.slice a0 n0 k0, .slice a1 n1 k1, .slice a2 n2 k2]) (by omega) rfl rfl fun h1 hx => ?_
  by_cases c1 : 30 < n0
  · have c1' : (30 : Int) < n0 := by omega
    simp only [rn0, rn1, rn2, rn3, rn4, rn5, rn6, rn7, rn8, if_true, if_false, Nat.le_refl, true_and, and_true, decide_true, decide_false, Bool.not_true, Bool.not_false, reduceIte, Nat.reduceEqDiff, Nat.reduceAdd, Nat.reduceMul, Nat.reduceSub, Nat.reduceLeDiff, Nat.reduceLT, hx.ld, Nat.zero_add, List.getElem?_cons_zero, List.getElem?_cons_succ, len_slice, c1']
  have c1' : ¬ (30 : Int) < n0 := by omega
  by_cases c2 : 30 < n1
  · have c2' : (30 : Int) < n1 := by omega
    simp only [rn0, rn1, rn2, rn3, rn4, rn5, rn6, rn7, rn8, if_true, if_false, Nat.le_refl, true_and, and_true, decide_true, decide_false, Bool.not_true, Bool.not_false, reduceIte, Nat.reduceEqDiff, Nat.reduceAdd, Nat.reduceMul, Nat.reduceSub, Nat.reduceLeDiff, Nat.reduceLT, hx.ld, Nat.zero_add, List.getElem?_cons_zero, List.getElem?_cons_succ, len_slice, c1', c2']
  have c2' : ¬ (30 : Int) < n1 := by omega
  have c3' : (30 : Int) < n2 := by omega
  simp only [rn0, rn1, rn2, rn3, rn4, rn5, rn6, rn7, rn8, if_true, if_false, Nat.le_refl, true_and, and_true, decide_true, decide_false, Bool.not_true, Bool.not_false, reduceIte, Nat.reduceEqDiff, Nat.reduceAdd, Nat.reduceMul, Nat.reduceSub, Nat.reduceLeDiff, Nat.reduceLT, hx.ld, Nat.zero_add, List.getElem?_cons_zero, List.getElem?_cons_succ, len_slice, c1', c2', c3']
theorem Big.one {u0 u1 u2 : Value} (hb : Big u0 u1 u2) : allB oneCell [u0, u1, u2] = true := by
  obtain ⟨a0, n0, k0, a1, n1, k1, a2, n2, k2, rfl, rfl, rfl, _⟩ := hb
  rfl
theorem stands_yard {w : World} {φ : Emb} {u0 u1 u2 fv vv sv : Value} (h0 : Stands φ h u0 fv) (h1 : Stands φ h u1 vv) (h2 : Stands φ h u2 sv) : mapV φ (.agg ⟨[u0, u1, u2]⟩) = .agg ⟨[fv, vv, sv]⟩ ∧ okV φ h.next (.agg ⟨[u0, u1, u2]⟩) := by
  refine ⟨?_, ?_⟩
  · simp only [mapV, mapArr, mapL, h0.map, h1.map, h2.map]
  · simp only [okV, okA, okL, and_true]
    exact ⟨h0.ok, h1.ok, h2.ok⟩
theorem map_int {φ : Emb} {k : IntKind} {a : Int} : mapV φ (.int k a) = .int k a := by simp [mapV]
end Go.Vm.Vat

namespace Go.Vm.Vat
open Go.Proofs
set_option linter.unusedSimpArgs false
set_option linter.unusedVariables false
set_option maxRecDepth 10000
variable {n : Nat} {h : AHeap}
/-! ### The reference's truths: all blues by their numbers -/
def sz (lo hi : Nat → Int) (k : Nat) : Nat := (hi k - lo k + 1).toNat
def divN (s : Nat → Nat) (m : Nat) : Nat → Nat
  | 0 => m
  | k + 1 => divN s m k / s k
/-- the blues with the number m -/
def nthB (lo hi : Nat → Int) (nf m : Nat) (k : Nat) : Int := if k < nf then lo k + ((divN (sz lo hi) m k % sz lo hi k : Nat) : Int) else 0
theorem divN_le (s : Nat → Nat) (m : Nat) : ∀ k, divN s m k ≤ m
  | 0 => Nat.le_refl _
  | k + 1 => Nat.le_trans (Nat.div_le_self _ _) (divN_le s m k)
theorem one_get {v : Value} : ∀ j, j < 1 → [v][j]? = some v := fun j hj => by
  have : j = 0 := by omega
  subst this; rfl
theorem sl_int {x : Int} : buildSl 1 1 [.int .i64 0] [0] h [.int .i64 x] = newSlice h [.int .i64 x] 1 1 0 := id rfl
def s109 : SCode := (.seq (.ops [⟨(some 2), none, .box (T 0)⟩, ⟨(some 4), none, .mov (.const (.slice none 0 0))⟩]) (.seq (.ops [⟨(some 5), none, .mov (.const (.slice none 0 0))⟩]) (.seq (.seq (.ops [⟨(some 6), none, .mov (.const (.int .i64 (0)))⟩]) (.block 0 (.loop (.seq (.seq (.ops [⟨(some 8), none, .mov (T 6)⟩, ⟨(some 9), none, .fieldAddr 0 (T 2)⟩, ⟨(some 10), none, .load1 (T 9)⟩, ⟨(some 11), none, .len (T 10)⟩, ⟨(some 12), none, .int2 .lss (T 8) (T 11)⟩]) (.cond (T 12) .skip (.exit 0))) (.seq (.block 1 (.seq (.ops [⟨(some 15), none, .fieldAddr 0 (T 2)⟩, ⟨(some 16), none, .load1 (T 15)⟩, ⟨(some 17), none, .mov (T 6)⟩, ⟨(some 18), none, .idxSl 2 (T 16) (T 17)⟩, ⟨(some 19), none, .loadN 2 (T 18)⟩, ⟨(some 20), none, .call (.func 125) [(T 19)]⟩, ⟨(some 7), none, .mov (T 20)⟩]) (.seq (.draw [⟨.free, ⟨(some 21), none, .mov (T 5)⟩⟩, ⟨.free, ⟨(some 22), none, .fieldAddr 0 (T 2)⟩⟩, ⟨.rd1, ⟨(some 23), none, .load1 (T 22)⟩⟩, ⟨.free, ⟨(some 24), none, .mov (T 6)⟩⟩, ⟨.free, ⟨(some 25), none, .idxSl 2 (T 23) (T 24)⟩⟩, ⟨.free, ⟨(some 26), none, .fieldAddr 0 (T 25)⟩⟩, ⟨.rd1, ⟨(some 27), none, .load1 (T 26)⟩⟩, ⟨.free, ⟨(some 28), none, .mov (T 1)⟩⟩, ⟨.free, ⟨(some 29), none, .mov (T 7)⟩⟩, ⟨.free, ⟨(some 30), none, .plain (.binOp .rem 3 (T 28) (T 29) 3) 3⟩⟩, ⟨.free, ⟨(some 31), none, .int2 .add (T 27) (T 30)⟩⟩, ⟨.any, ⟨(some 32), none, .bslice 1 1 [(.int .i64 (0))] [0] [(T 31)]⟩⟩, ⟨.any, ⟨(some 33), none, .append 1 8 (T 21) (T 32)⟩⟩, ⟨.free, ⟨(some 5), none, .mov (T 33)⟩⟩]) (.ops [⟨(some 34), none, .mov (T 1)⟩, ⟨(some 35), none, .mov (T 7)⟩, ⟨(some 36), none, .plain (.binOp .quo 3 (T 34) (T 35) 3) 3⟩, ⟨(some 1), none, .mov (T 36)⟩])))) (.ops [⟨(some 13), none, .mov (T 6)⟩, ⟨(some 14), none, .int2 .add (T 13) (.const (.int .i64 (1)))⟩, ⟨(some 6), none, .mov (T 14)⟩])))))) (.seq (.ops [⟨(some 37), none, .mov (T 5)⟩, ⟨(some 4), none, .mov (T 37)⟩]) .ret))))
theorem fok109 : FnOk Try.prog 109 38 s109 [.tmp 4] := ⟨Try.f109, _, Try.func109, rfl, Try.ntmps109, by kernel_rfl, by kernel_rfl⟩
theorem nth_c (hn : 10002 ≤ n) (hr : h.next + 30 < far) (hfl : h.floor ≤ h.next) {fv vv sv : Value} {Y : MY} {m : Nat} (hy : YardR h fv vv sv Y) (hnf : Y.nf ≤ 5) (hF : FieldsOk Y) (hm : m ≤ 3000) :
    ∃ v h', call n (.func (.func 109) #[] #[]) [.agg ⟨[fv, vv, sv]⟩, .int .i64 (m : Int)] h = some (v, h') ∧ Ints h' v Y.nf (nthB Y.lo Y.hi Y.nf m) ∧ Made h h' 20 ∧ oneCell v = true ∧ ∀ a k c, v = .slice (some a) k c → h.next ≤ a.block ∧ a.block < h'.next := by
  obtain ⟨n, rfl⟩ : ∃ p, n = p + 1 := ⟨n - 1, by omega⟩
  refine call_any0 fok109 rfl rfl (by simp) ?_
  simp only [s109, W_seq, W_ops]
  refine ops_box (cs := [fv, vv, sv]) (by omega) rfl hy.one fun g1 hx1 => ?_
  have n1 := hx1.next
  have f1' := hx1.floor
  simp only [rn0, rn1, rn2, rn3, rn4, rn5, rn6, rn7, rn8, if_true, if_false, Nat.le_refl, true_and, and_true, decide_true, decide_false, Bool.not_true, Bool.not_false, reduceIte, Nat.reduceEqDiff, Nat.reduceAdd, Nat.reduceMul, Nat.reduceSub, Nat.reduceLeDiff, Nat.reduceLT]
  refine W_loop Y.nf (fun k f g ms => (∃ v, Sub All g1 g ∧ g.floor = g1.floor ∧ g1.next ≤ g.next ∧ g.next ≤ g1.next + 2 * k ∧ GrowC g1.next g v 1 k (fun i _ => .int .i64 (nthB Y.lo Y.hi Y.nf m i)) ∧ f 5 = v) ∧ ms = [] ∧ f 2 = .pointer (some ⟨h.next, 0, none⟩) ∧ f 6 = .int .i64 (k : Int) ∧ f 1 = .int .i64 ((divN (sz Y.lo Y.hi) m k : Nat) : Int)) (by simp; omega) ?_ ?_ ?_
  · simp only [rn0, rn1, rn2, rn3, rn4, rn5, rn6, rn7, rn8, if_true, if_false, Nat.le_refl, true_and, and_true, decide_true, decide_false, Bool.not_true, Bool.not_false, reduceIte, Nat.reduceEqDiff, Nat.reduceAdd, Nat.reduceMul, Nat.reduceSub, Nat.reduceLeDiff, Nat.reduceLT]
    exact ⟨⟨_, by omega, .nil, rfl⟩, rfl, rfl⟩
  · rintro k f g ms hk ⟨⟨v, hs, hfg, hup, hnx, gv, f5⟩, rfl, f2, f6, f1⟩
    have hk' : (k : Int) < (Y.nf : Int) := by omega
    have hw : wrapF .i64 ((k : Int) + 1) = ((k + 1 : Nat) : Int) := by rw [wrap_in (by omega) (by omega)]; rfl
    obtain ⟨v1, v2, v3⟩ := hF k hk
    have hsz : ((sz Y.lo Y.hi k : Nat) : Int) = Y.hi k - Y.lo k + 1 := Int.toNat_of_nonneg (by omega)
    have hsz0 : 0 < sz Y.lo Y.hi k := by omega
    have hbx := hx1.row.mono hs
    have hfr := ((hy.mono hx1.sub).mono hs).f
    have hws : wrapF .i64 (wrapF .i64 (Y.hi k - Y.lo k) + 1) = ((sz Y.lo Y.hi k : Nat) : Int) := by rw [wrap_in (z := Y.hi k - Y.lo k) (by omega) (by omega), wrap_in (by omega) (by omega), hsz]
    have hle := divN_le (sz Y.lo Y.hi) m k
    have hrm : ((divN (sz Y.lo Y.hi) m k : Nat) : Int).tmod ((sz Y.lo Y.hi k : Nat) : Int) = ((divN (sz Y.lo Y.hi) m k % sz Y.lo Y.hi k : Nat) : Int) := rfl
    have hqo : ((divN (sz Y.lo Y.hi) m k : Nat) : Int).tdiv ((sz Y.lo Y.hi k : Nat) : Int) = ((divN (sz Y.lo Y.hi) m k / sz Y.lo Y.hi k : Nat) : Int) := rfl
    have hml : divN (sz Y.lo Y.hi) m k % sz Y.lo Y.hi k < sz Y.lo Y.hi k := Nat.mod_lt _ hsz0
    have hdl : divN (sz Y.lo Y.hi) m k / sz Y.lo Y.hi k ≤ divN (sz Y.lo Y.hi) m k := Nat.div_le_self _ _
    have hwa : wrapF .i64 (Y.lo k + ((divN (sz Y.lo Y.hi) m k % sz Y.lo Y.hi k : Nat) : Int)) = nthB Y.lo Y.hi Y.nf m k := by
      rw [nthB, if_pos hk]
      generalize divN (sz Y.lo Y.hi) m k % sz Y.lo Y.hi k = r at hml
      exact wrap_in (by omega) (by omega)
    have hwq : IntKind.wrap .i64 ((divN (sz Y.lo Y.hi) m k / sz Y.lo Y.hi k : Nat) : Int) = ((divN (sz Y.lo Y.hi) m (k + 1) : Nat) : Int) := by
      show _ = ((divN (sz Y.lo Y.hi) m k / sz Y.lo Y.hi k : Nat) : Int)
      generalize divN (sz Y.lo Y.hi) m k / sz Y.lo Y.hi k = r at hdl
      exact IntWalk.i64_in _ (by omega)
    have hne : ¬ ((sz Y.lo Y.hi k : Nat) : Int) = 0 := by omega
    have hl1 : loadCell g (ptrO fv 2 k 0) = some (.int .i64 (Y.lo k)) := Cells.ld hfr hk (by omega)
    simp only [rn0, rn1, rn2, rn3, rn4, rn5, rn6, rn7, rn8, if_true, if_false, Nat.le_refl, true_and, and_true, decide_true, decide_false, Bool.not_true, Bool.not_false, reduceIte, Nat.reduceEqDiff, Nat.reduceAdd, Nat.reduceMul, Nat.reduceSub, Nat.reduceLeDiff, Nat.reduceLT, f1, f2, f5, f6, hbx.ld, Nat.zero_add, List.getElem?_cons_zero, List.getElem?_cons_succ, Cells.len hfr, hk', Cells.idx hfr hk, ranges_ld hfr hk, size_c (n := n) (h := g) (by omega) (by omega), hws]
    refine W_draw All ?_
    simp only [rn0, rn1, rn2, rn3, rn4, rn5, rn6, rn7, rn8, if_true, if_false, Nat.le_refl, true_and, and_true, decide_true, decide_false, Bool.not_true, Bool.not_false, reduceIte, Nat.reduceEqDiff, Nat.reduceAdd, Nat.reduceMul, Nat.reduceSub, Nat.reduceLeDiff, Nat.reduceLT, f1, f2, f5, f6, hbx.ld, Nat.zero_add, List.getElem?_cons_zero, List.getElem?_cons_succ, Cells.idx hfr hk, Cells.fld hfr hk, hl1, valN_tmp, Nat.reduceLT, r_rem hne, hrm, hwa, sl_int]
    refine up_slice (by omega) rfl (fun g1 hx => trivial) fun g2 hx => ?_
    have n2 := hx.next
    have f2' := hx.floor
    obtain ⟨v', g3, e3, ev, gv3, hk3⟩ := (gv.keep (hx.keep (o := 0)) (by omega)).append (bytes := 8) (cap := 1) (by omega) (by omega) (by omega) hx.get rfl rfl one_get (by simp [maxBytes]; omega) (by simp [maxBytes]; omega)
    have n3 := hk3.next
    have f3' := hk3.floor
    have hs3 : Sub All g1 g3 := fun i cs w gr t hg => by
      have hlt := AHeap.lt_of_get hg
      rw [hk3.old i (by omega) fun b q z e => by have := (gv.block e).1; omega]
      exact hx.sub _ _ _ _ t (hs _ _ _ _ t hg)
    simp only [rn0, rn1, rn2, rn3, rn4, rn5, rn6, rn7, rn8, if_true, if_false, Nat.le_refl, true_and, and_true, decide_true, decide_false, Bool.not_true, Bool.not_false, reduceIte, Nat.reduceEqDiff, Nat.reduceAdd, Nat.reduceMul, Nat.reduceSub, Nat.reduceLeDiff, Nat.reduceLT, f1, f2, f6, e3, valN_tmp, Nat.reduceLT, r_quo hne, hqo, hwq, hw]
    refine ⟨by omega, ?_⟩
    exact ⟨v', hs3, by omega, by omega, by omega, gv3, rfl⟩
  · rintro f g ms ⟨⟨v, hs, hfg, hup, hnx, gv, f5⟩, rfl, f2, f6, f1⟩
    have hbx := hx1.row.mono hs
    have hfr := ((hy.mono hx1.sub).mono hs).f
    simp only [rn0, rn1, rn2, rn3, rn4, rn5, rn6, rn7, rn8, if_true, if_false, Nat.le_refl, true_and, and_true, decide_true, decide_false, Bool.not_true, Bool.not_false, reduceIte, Nat.reduceEqDiff, Nat.reduceAdd, Nat.reduceMul, Nat.reduceSub, Nat.reduceLeDiff, Nat.reduceLT, f1, f2, f5, f6, hbx.ld, Nat.zero_add, List.getElem?_cons_zero, List.getElem?_cons_succ, Cells.len hfr, Int.lt_irrefl]
    exact ⟨gv.cells, ⟨hx1.sub.trans hs, by omega, by omega, by omega⟩, gv.one, fun a k c e => by have := gv.block e; omega⟩
end Go.Vm.Vat

namespace Go.Vm.Vat
open Go.Proofs
set_option linter.unusedSimpArgs false
set_option linter.unusedVariables false
set_option maxRecDepth 10000
variable {n : Nat} {h : AHeap}
/-- a list of lists of numbers that grows: all of it lies from block B on, each list in a block of its own -/
def GrowRows (B : Nat) (h : AHeap) (v : Value) (n : Nat) (cnt : Nat → Nat) (q : Nat → Nat → Int) : Prop :=
  ∃ r : Nat → Value, GrowC B h v 1 n (fun k _ => r k) ∧ ∀ i, i < n → Ints h (r i) (cnt i) (q i) ∧ ∀ a m c, r i = .slice (some a) m c → B ≤ a.block ∧ a.block < h.next ∧ ∀ b m' c', v = .slice (some b) m' c' → a.block ≠ b.block
theorem GrowRows.nil {B : Nat} {cnt : Nat → Nat} {q : Nat → Nat → Int} : GrowRows B h nilS 0 cnt q := ⟨fun _ => nilS, .nil, fun i hi => by omega⟩
theorem GrowRows.rows {B : Nat} {v : Value} {n : Nat} {cnt : Nat → Nat} {q : Nat → Nat → Int} (hg : GrowRows B h v n cnt q) : Rows h v n cnt q := by
  obtain ⟨r, h1, h2⟩ := hg
  exact ⟨r, h1.cells, fun i hi => (h2 i hi).1⟩
theorem GrowRows.keep {B o : Nat} {g : AHeap} {v : Value} {n : Nat} {cnt : Nat → Nat} {q : Nat → Nat → Int} (hg : GrowRows B h v n cnt q) (hk : Keep o h g) (ho : o < B) : GrowRows B g v n cnt q := by
  obtain ⟨r, h1, h2⟩ := hg
  refine ⟨r, h1.keep hk ho, fun i hi => ?_⟩
  obtain ⟨h3, h4⟩ := h2 i hi
  exact ⟨Cells.keep h3 hk fun a k c e => by have := (h4 a k c e).1; omega, fun a m c e => by
    obtain ⟨k1, k2, k3⟩ := h4 a m c e
    exact ⟨k1, Nat.lt_of_lt_of_le k2 hk.up, k3⟩⟩
theorem GrowRows.sub {B : Nat} {g : AHeap} {v : Value} {n : Nat} {cnt : Nat → Nat} {q : Nat → Nat → Int} (hg : GrowRows B h v n cnt q) (hs : Sub All h g) (hup : h.next ≤ g.next) : GrowRows B g v n cnt q := by
  obtain ⟨r, h1, h2⟩ := hg
  refine ⟨r, h1.sub hs, fun i hi => ?_⟩
  obtain ⟨h3, h4⟩ := h2 i hi
  exact ⟨Cells.mono h3 hs, fun a m c e => by
    obtain ⟨k1, k2, k3⟩ := h4 a m c e
    exact ⟨k1, Nat.lt_of_lt_of_le k2 hup, k3⟩⟩
theorem GrowRows.congr {B : Nat} {v : Value} {n : Nat} {cnt cnt' : Nat → Nat} {q q' : Nat → Nat → Int} (hg : GrowRows B h v n cnt q) (h1 : ∀ i, i < n → cnt i = cnt' i) (h2 : ∀ i, i < n → q i = q' i) : GrowRows B h v n cnt' q' := by
  obtain ⟨r, k1, k2⟩ := hg
  exact ⟨r, k1, fun i hi => by rw [← h1 i hi, ← h2 i hi]; exact k2 i hi⟩
/-- one list more -/
theorem GrowRows.push {B : Nat} {h1 : AHeap} {v l : Value} {n : Nat} {cnt : Nat → Nat} {q : Nat → Nat → Int} (hg : GrowRows B h v n cnt q) (hB : h.floor ≤ B) (hf : h.next + 2 < far) (hBn : B ≤ h.next) (hl : Ints h l (cnt n) (q n)) (hone : oneCell l = true)
    (hb : ∀ a k c, l = .slice (some a) k c → B ≤ a.block ∧ a.block < h.next ∧ ∀ b m' c', v = .slice (some b) m' c' → a.block ≠ b.block) (hx : New h h1 [l] 0) (hn : (n + 1) * 24 ≤ maxBytes) (hn1 : n + 1 ≤ maxBytes) :
    ∃ v' g, appendA 1 24 h1 v (.slice (some ⟨h.next, 0, none⟩) 1 1) = some (v', g) ∧ GrowRows B g v' (n + 1) cnt q ∧ Kept h1 g v ∧ oneCell v' = true ∧ (∀ a k c, v = .slice (some a) k c → B ≤ a.block) := by
  obtain ⟨r, g1, g2⟩ := hg
  have hnx := hx.next
  have hfl := hx.floor
  let r' : Nat → Value := fun i => if i = n then l else r i
  have g1' : GrowC B h1 v 1 n (fun k _ => r' k) := (g1.sub hx.sub).congr fun k j hk hj => by show r k = if k = n then l else r k; rw [if_neg (by omega)]
  obtain ⟨v', g, e, ev, gv, hk⟩ := g1'.append (bytes := 24) (cap := 1) (by omega) (by omega) (by omega) hx.get rfl (by simp [allB, hone]) (fun j hj => by rw [one_get j hj]; show some l = some (if n = n then l else r n); rw [if_pos rfl]) hn hn1
  refine ⟨v', g, e, ⟨r', gv, fun i hi => ?_⟩, hk, gv.one, fun a k c e => (g1.block e).1⟩
  have hkn := hk.next
  have hmain : ∀ (x : Value) (m : Nat) (a : Nat → Int), Ints h x m a → (∀ a k c, x = .slice (some a) k c → B ≤ a.block ∧ a.block < h.next ∧ ∀ b m' c', v = .slice (some b) m' c' → a.block ≠ b.block) →
      Ints g x m a ∧ ∀ a k c, x = .slice (some a) k c → B ≤ a.block ∧ a.block < g.next ∧ ∀ b m' c', v' = .slice (some b) m' c' → a.block ≠ b.block := by
    intro x m a hx1 hx2
    refine ⟨Cells.kept (Cells.mono hx1 hx.sub) hk fun a k c e b k' c' e' => (hx2 a k c e).2.2 b k' c' e', fun a k c e => ?_⟩
    obtain ⟨k1, k2, _⟩ := hx2 a k c e
    refine ⟨k1, by omega, fun b m' c' e' => ?_⟩
    rw [ev] at e'
    cases e'
    show a.block ≠ h1.next
    omega
  by_cases hin : i = n
  · subst hin
    have : r' i = l := by show (if i = i then l else r i) = l; rw [if_pos rfl]
    rw [this]
    exact hmain l _ _ hl hb
  · have : r' i = r i := by show (if i = n then l else r i) = r i; rw [if_neg hin]
    rw [this]
    obtain ⟨k1, k2⟩ := g2 i (by omega)
    exact hmain _ _ _ k1 k2
theorem sl_row {v : Value} (hv : oneCell v = true) : buildSl 1 1 [.slice none 0 0] [0] h [v] = newSlice h [v] 1 1 0 := sl_one hv
/-- the truths by their numbers -/
noncomputable def refTruthsTo (Y : MY) (m : Nat) : List (Nat → Int) := open Classical in ((List.range m).map (nthB Y.lo Y.hi Y.nf)).filter fun c => decide (∀ k, k < Y.ns → RightB Y c k)
theorem refTruthsTo_succ {Y : MY} {m : Nat} : refTruthsTo Y (m + 1) = refTruthsTo Y m ++ (open Classical in if (∀ k, k < Y.ns → RightB Y (nthB Y.lo Y.hi Y.nf m) k) then [nthB Y.lo Y.hi Y.nf m] else []) := by
  unfold refTruthsTo
  rw [List.range_succ, List.map_append, List.filter_append]
  congr 1
  simp only [List.map_cons, List.map_nil, List.filter_cons, List.filter_nil, decide_eq_true_eq]
theorem refTruthsTo_len {Y : MY} {m : Nat} : (refTruthsTo Y m).length ≤ m := by
  unfold refTruthsTo
  exact Nat.le_trans (List.length_filter_le _ _) (by simp)
/-- a list of truths, each a list -/
def TruthsL (h : AHeap) (v : Value) (nf : Nat) (l : List (Nat → Int)) : Prop := Rows h v l.length (fun _ => nf) fun k => l.getD k fun _ => 0
theorem nthB_are {Y : MY} (hF : FieldsOk Y) {m : Nat} : AreB Y Y.nf (nthB Y.lo Y.hi Y.nf m) := by
  refine ⟨rfl, fun k hk => ?_⟩
  obtain ⟨v1, v2, v3⟩ := hF k hk
  have hsz : ((sz Y.lo Y.hi k : Nat) : Int) = Y.hi k - Y.lo k + 1 := Int.toNat_of_nonneg (by omega)
  have hml : divN (sz Y.lo Y.hi) m k % sz Y.lo Y.hi k < sz Y.lo Y.hi k := Nat.mod_lt _ (by omega)
  rw [nthB, if_pos hk]
  generalize divN (sz Y.lo Y.hi) m k % sz Y.lo Y.hi k = r at hml
  omega
def s64 : SCode := (.seq (.ops [⟨(some 1), none, .box (T 0)⟩, ⟨(some 2), none, .mov (.const (.slice none 0 0))⟩]) (.seq (.ops [⟨(some 3), none, .mov (.const (.slice none 0 0))⟩]) (.seq (.seq (.ops [⟨(some 4), none, .mov (.const (.int .i64 (0)))⟩]) (.block 0 (.loop (.seq (.seq (.ops [⟨(some 6), none, .mov (T 4)⟩, ⟨(some 7), none, .loadN 3 (T 1)⟩, ⟨(some 8), none, .call (.func 108) [(T 7)]⟩, ⟨(some 9), none, .int2 .lss (T 6) (T 8)⟩]) (.cond (T 9) .skip (.exit 0))) (.seq (.block 1 (.seq (.ops [⟨(some 12), none, .loadN 3 (T 1)⟩, ⟨(some 13), none, .mov (T 4)⟩, ⟨(some 14), none, .call (.func 109) [(T 12), (T 13)]⟩, ⟨(some 5), none, .mov (T 14)⟩]) (.seq (.draw [⟨.rd1, ⟨(some 15), none, .loadN 3 (T 1)⟩⟩, ⟨.free, ⟨(some 16), none, .mov (T 5)⟩⟩, ⟨.up, ⟨(some 17), none, .call (.func 88) [(T 15), (T 16)]⟩⟩, ⟨.rd, ⟨(some 18), none, .loadN 3 (T 1)⟩⟩, ⟨.any, ⟨(some 19), none, .call (.func 70) [(T 18)]⟩⟩, ⟨.free, ⟨(some 20), none, .int2 .eql (T 17) (T 19)⟩⟩]) (.cond (T 20) (.ops [⟨(some 21), none, .mov (T 3)⟩, ⟨(some 22), none, .mov (T 5)⟩, ⟨(some 23), none, .bslice 1 1 [(.slice none 0 0)] [0] [(T 22)]⟩, ⟨(some 24), none, .append 1 24 (T 21) (T 23)⟩, ⟨(some 3), none, .mov (T 24)⟩]) .skip)))) (.ops [⟨(some 10), none, .mov (T 4)⟩, ⟨(some 11), none, .int2 .add (T 10) (.const (.int .i64 (1)))⟩, ⟨(some 4), none, .mov (T 11)⟩])))))) (.seq (.ops [⟨(some 25), none, .mov (T 3)⟩, ⟨(some 2), none, .mov (T 25)⟩]) .ret))))
theorem fok64 : FnOk Try.prog 64 26 s64 [.tmp 2] := ⟨Try.f64, _, Try.func64, rfl, Try.ntmps64, by kernel_rfl, by kernel_rfl⟩
theorem truthsRef_c (hn : 10010 ≤ n) (hr : h.next + 200000 < far) (hfl : h.floor ≤ h.next) {fv vv sv : Value} {Y : MY} (hy : YardR h fv vv sv Y) (hf : faultN Y = 0) :
    ∃ v h', call n (.func (.func 64) #[] #[]) [.agg ⟨[fv, vv, sv]⟩] h = some (v, h') ∧ TruthsL h' v Y.nf (refTruthsTo Y (manyN Y.lo Y.hi Y.nf).toNat) ∧ Made h h' 100000 := by
  obtain ⟨n, rfl⟩ : ∃ p, n = p + 1 := ⟨n - 1, by omega⟩
  obtain ⟨hG, hsz⟩ := fault_size hf
  obtain ⟨z1, z2, z3⟩ := hG.sz
  have hF : ∀ k, k < Y.nf → 0 ≤ Y.lo k ∧ Y.lo k ≤ Y.hi k ∧ Y.hi k ≤ 20 := hG.f
  have hmany := sizeN_many z1 hF Y.nf (Nat.le_refl _)
  obtain ⟨b1, _⟩ := sizeN_bound z1 hF Y.nf (Nat.le_refl _)
  obtain ⟨M, hM⟩ : ∃ M : Nat, manyN Y.lo Y.hi Y.nf = M := ⟨(manyN Y.lo Y.hi Y.nf).toNat, by omega⟩
  have hM2 : M ≤ 2000 := by omega
  rw [hM, Int.toNat_natCast]
  refine call_any0 fok64 rfl rfl (by simp) ?_
  simp only [s64, W_seq, W_ops]
  refine ops_box (cs := [fv, vv, sv]) (by omega) rfl hy.one fun g1 hx1 => ?_
  have n1 := hx1.next
  have f1' := hx1.floor
  simp only [rn0, rn1, rn2, rn3, rn4, rn5, rn6, rn7, rn8, if_true, if_false, Nat.le_refl, true_and, and_true, decide_true, decide_false, Bool.not_true, Bool.not_false, reduceIte, Nat.reduceEqDiff, Nat.reduceAdd, Nat.reduceMul, Nat.reduceSub, Nat.reduceLeDiff, Nat.reduceLT]
  refine W_loop M (fun k f g ms => (∃ v, Sub All g1 g ∧ g.floor = g1.floor ∧ g1.next ≤ g.next ∧ g.next ≤ g1.next + 30 * k ∧ GrowRows g1.next g v (refTruthsTo Y k).length (fun _ => Y.nf) (fun i => (refTruthsTo Y k).getD i fun _ => 0) ∧ f 3 = v) ∧ ms = [] ∧ f 1 = .pointer (some ⟨h.next, 0, none⟩) ∧ f 4 = .int .i64 (k : Int)) (by simp; omega) ?_ ?_ ?_
  · simp only [rn0, rn1, rn2, rn3, rn4, rn5, rn6, rn7, rn8, if_true, if_false, Nat.le_refl, true_and, and_true, decide_true, decide_false, Bool.not_true, Bool.not_false, reduceIte, Nat.reduceEqDiff, Nat.reduceAdd, Nat.reduceMul, Nat.reduceSub, Nat.reduceLeDiff, Nat.reduceLT]
    exact ⟨⟨_, by omega, .nil, rfl⟩, rfl⟩
  · rintro k f g ms hk ⟨⟨v, hs, hfg, hup, hnx, gv, f3⟩, rfl, f1, f4⟩
    have hk' : (k : Int) < (M : Int) := by omega
    have hw : wrapF .i64 ((k : Int) + 1) = ((k + 1 : Nat) : Int) := by rw [wrap_in (by omega) (by omega)]; rfl
    have hyg := (hy.mono hx1.sub).mono hs
    have w1 := (hx1.row.mono hs).whole (n := 3) rfl
    have em := many_c (n := n) (h := g) (by omega) (by omega) hyg (by omega) hF
    rw [hM] at em
    obtain ⟨l, g2, e2, hl2, m2, hl1, hlb⟩ := nth_c (n := n) (h := g) (m := k) (by omega) (by omega) (by omega) hyg z1 hG.f (by omega)
    have n2 := m2.next
    have u2 := m2.up
    have f2 := m2.floor
    have hyg2 := hyg.mono m2.sub
    have w2 := (hx1.row.mono (hs.trans m2.sub)).whole (n := 3) rfl
    have er := right_c (n := n) (h := g2) (b := nthB Y.lo Y.hi Y.nf k) (by omega) (by omega) hyg2 hl2 hG (nthB_are hG.f)
    have ef := full_c (n := n) (h := g2) (by omega) (by omega) hyg2 z3
    have hself := hyg2.self
    by_cases ht : ∀ j, j < Y.ns → RightB Y (nthB Y.lo Y.hi Y.nf k) j
    · have he : ((rightN Y (nthB Y.lo Y.hi Y.nf k) Y.ns : Nat) : Int) = ((2 ^ Y.ns - 1 : Nat) : Int) := by rw [(rightN_full Y _ Y.ns).2 ht]
      have hsucc : refTruthsTo Y (k + 1) = refTruthsTo Y k ++ [nthB Y.lo Y.hi Y.nf k] := by rw [refTruthsTo_succ, if_pos ht]
      have hlk := refTruthsTo_len (Y := Y) (m := k)
      simp only [rn0, rn1, rn2, rn3, rn4, rn5, rn6, rn7, rn8, if_true, if_false, Nat.le_refl, true_and, and_true, decide_true, decide_false, Bool.not_true, Bool.not_false, reduceIte, Nat.reduceEqDiff, Nat.reduceAdd, Nat.reduceMul, Nat.reduceSub, Nat.reduceLeDiff, Nat.reduceLT, f1, f3, f4, w1, em, hk', e2]
      refine W_draw All ?_
      simp only [rn0, rn1, rn2, rn3, rn4, rn5, rn6, rn7, rn8, if_true, if_false, Nat.le_refl, true_and, and_true, decide_true, decide_false, Bool.not_true, Bool.not_false, reduceIte, Nat.reduceEqDiff, Nat.reduceAdd, Nat.reduceMul, Nat.reduceSub, Nat.reduceLeDiff, Nat.reduceLT, f1, f3, f4, w2, er, ef, hself, he, sl_row hl1]
      refine step_slice (by omega) (by simp [allB, hl1]) fun g3 hx3 => ?_
      have n3 := hx3.next
      have f3' := hx3.floor
      have gv2 : GrowRows g1.next g2 v (refTruthsTo Y k).length (fun _ => Y.nf) (fun i => (refTruthsTo Y (k + 1)).getD i fun _ => 0) := (gv.sub m2.sub u2).congr (fun _ _ => rfl) fun i hi => by
        rw [hsucc, List.getD_eq_getElem?_getD, List.getD_eq_getElem?_getD, List.getElem?_append_left hi]
      have hvb : ∀ b k' c, v = .slice (some b) k' c → b.block < g.next := fun b k' c e => by
        obtain ⟨r, q1, _⟩ := gv
        exact (q1.block e).2
      obtain ⟨v', g4, e4, gv4, hk4, hv1, hvB⟩ := gv2.push (h1 := g3) (l := l) (by omega) (by omega) (by omega) (by
        have : (refTruthsTo Y (k + 1)).getD (refTruthsTo Y k).length (fun _ => 0) = nthB Y.lo Y.hi Y.nf k := by rw [hsucc, List.getD_eq_getElem?_getD, List.getElem?_append_right (Nat.le_refl _)]; simp
        rw [this]; exact hl2) hl1 (fun a k' c e => by
        obtain ⟨q1, q2⟩ := hlb a k' c e
        exact ⟨by omega, q2, fun b m' c' e' => by have := hvb b m' c' e'; omega⟩) hx3 (by simp [maxBytes]; omega) (by simp [maxBytes]; omega)
      have n4 := hk4.next
      have f4' := hk4.floor
      simp only [rn0, rn1, rn2, rn3, rn4, rn5, rn6, rn7, rn8, if_true, if_false, Nat.le_refl, true_and, and_true, decide_true, decide_false, Bool.not_true, Bool.not_false, reduceIte, Nat.reduceEqDiff, Nat.reduceAdd, Nat.reduceMul, Nat.reduceSub, Nat.reduceLeDiff, Nat.reduceLT, f1, f4, e4, hw]
      refine ⟨v', fun i cs w gr t hg => ?_, by omega, by omega, by omega, by rw [hsucc, List.length_append, List.length_singleton, ← hsucc]; exact gv4, rfl⟩
      have hlt := AHeap.lt_of_get hg
      rw [hk4.old i (by omega) fun b q z e => by have := hvB b q z e; omega]
      exact hx3.sub _ _ _ _ t (m2.sub _ _ _ _ t (hs _ _ _ _ t hg))
    · have he : ¬ ((rightN Y (nthB Y.lo Y.hi Y.nf k) Y.ns : Nat) : Int) = ((2 ^ Y.ns - 1 : Nat) : Int) := fun e => ht ((rightN_full Y _ Y.ns).1 (by omega))
      have hsucc : refTruthsTo Y (k + 1) = refTruthsTo Y k := by rw [refTruthsTo_succ, if_neg ht, List.append_nil]
      simp only [rn0, rn1, rn2, rn3, rn4, rn5, rn6, rn7, rn8, if_true, if_false, Nat.le_refl, true_and, and_true, decide_true, decide_false, Bool.not_true, Bool.not_false, reduceIte, Nat.reduceEqDiff, Nat.reduceAdd, Nat.reduceMul, Nat.reduceSub, Nat.reduceLeDiff, Nat.reduceLT, f1, f3, f4, w1, em, hk', e2]
      refine W_draw All ?_
      simp only [rn0, rn1, rn2, rn3, rn4, rn5, rn6, rn7, rn8, if_true, if_false, Nat.le_refl, true_and, and_true, decide_true, decide_false, Bool.not_true, Bool.not_false, reduceIte, Nat.reduceEqDiff, Nat.reduceAdd, Nat.reduceMul, Nat.reduceSub, Nat.reduceLeDiff, Nat.reduceLT, f1, f3, f4, w2, er, ef, hself, he, hw]
      rw [hsucc]
      exact ⟨v, hs.trans m2.sub, by omega, by omega, by omega, gv.sub m2.sub u2, rfl⟩
  · rintro f g ms ⟨⟨v, hs, hfg, hup, hnx, gv, f3⟩, rfl, f1, f4⟩
    have hyg := (hy.mono hx1.sub).mono hs
    have w1 := (hx1.row.mono hs).whole (n := 3) rfl
    have em := many_c (n := n) (h := g) (by omega) (by omega) hyg (by omega) hF
    rw [hM] at em
    simp only [rn0, rn1, rn2, rn3, rn4, rn5, rn6, rn7, rn8, if_true, if_false, Nat.le_refl, true_and, and_true, decide_true, decide_false, Bool.not_true, Bool.not_false, reduceIte, Nat.reduceEqDiff, Nat.reduceAdd, Nat.reduceMul, Nat.reduceSub, Nat.reduceLeDiff, Nat.reduceLT, f1, f3, f4, w1, em, Int.lt_irrefl]
    exact ⟨gv.rows, ⟨hx1.sub.trans hs, by omega, by omega, by omega⟩⟩
/-! The same truths, in another order -/
def encF (s d : Nat → Nat) : Nat → Nat → Nat
  | 0, _ => 0
  | c + 1, i => d i + s i * encF s d c (i + 1)
theorem encF_div {s d : Nat → Nat} {nf : Nat} (hd : ∀ i, i < nf → d i < s i) : ∀ k, k ≤ nf → divN s (encF s d nf 0) k = encF s d (nf - k) k := by
  intro k
  induction k with
  | zero => intro _; rfl
  | succ k ih =>
    intro hk
    have h1 := hd k (by omega)
    obtain ⟨c, hc⟩ : ∃ c, nf - k = c + 1 := ⟨nf - k - 1, by omega⟩
    simp only [divN]
    rw [ih (by omega), hc, show nf - (k + 1) = c by omega]
    simp only [encF]
    rw [Nat.add_mul_div_left _ _ (by omega), Nat.div_eq_of_lt h1, Nat.zero_add]
theorem encF_mod {s d : Nat → Nat} {nf : Nat} (hd : ∀ i, i < nf → d i < s i) {k : Nat} (hk : k < nf) : divN s (encF s d nf 0) k % s k = d k := by
  rw [encF_div hd k (by omega)]
  obtain ⟨c, hc⟩ : ∃ c, nf - k = c + 1 := ⟨nf - k - 1, by omega⟩
  rw [hc]
  simp only [encF]
  rw [Nat.add_mul_mod_self_left, Nat.mod_eq_of_lt (hd k hk)]
def prodN (s : Nat → Nat) : Nat → Nat → Nat
  | 0, _ => 1
  | c + 1, i => s i * prodN s c (i + 1)
theorem encF_lt {s d : Nat → Nat} : ∀ (c i : Nat), (∀ j, i ≤ j → j < i + c → d j < s j) → encF s d c i < prodN s c i
  | 0, i, _ => by simp [encF, prodN]
  | c + 1, i, hd => by
    have h1 := hd i (by omega) (by omega)
    have h2 := encF_lt c (i + 1) fun j h1 h2 => hd j (by omega) (by omega)
    simp only [encF, prodN]
    have h3 : s i * (encF s d c (i + 1) + 1) ≤ s i * prodN s c (i + 1) := Nat.mul_le_mul_left _ h2
    rw [Nat.mul_add, Nat.mul_one] at h3
    omega
theorem prodN_from {lo hi : Nat → Int} : ∀ (c i : Nat), (∀ j, i ≤ j → j < i + c → lo j ≤ hi j) → ((prodN (sz lo hi) c i : Nat) : Int) = prodFrom lo hi c i
  | 0, i, _ => rfl
  | c + 1, i, hv => by
    have h1 := hv i (by omega) (by omega)
    have h2 := prodN_from (lo := lo) (hi := hi) c (i + 1) fun j h1 h2 => hv j (by omega) (by omega)
    have hsz : ((sz lo hi i : Nat) : Int) = hi i - lo i + 1 := Int.toNat_of_nonneg (by omega)
    simp only [prodN, prodFrom]
    rw [Int.natCast_mul, h2, hsz]
noncomputable def refTruths (Y : MY) : List (Nat → Int) := refTruthsTo Y (manyN Y.lo Y.hi Y.nf).toNat
theorem refTruths_mem {Y : MY} (hf : faultN Y = 0) {x : Nat → Int} : x ∈ refTruths Y ↔ x ∈ truths Y := by
  obtain ⟨hG, hsz⟩ := fault_size hf
  have hF : ∀ k, k < Y.nf → 0 ≤ Y.lo k ∧ Y.lo k ≤ Y.hi k ∧ Y.hi k ≤ 20 := hG.f
  have hmany := sizeN_many hG.sz.1 hF Y.nf (Nat.le_refl _)
  obtain ⟨b1, _⟩ := sizeN_bound hG.sz.1 hF Y.nf (Nat.le_refl _)
  have hprod := sizeN_prod (lo := Y.lo) (hi := Y.hi) Y.nf 0
  simp only [Nat.zero_add, sizeN, Int.one_mul] at hprod
  have hpN := prodN_from (lo := Y.lo) (hi := Y.hi) Y.nf 0 fun j _ hj => (hF j (by omega)).2.1
  have hM : (manyN Y.lo Y.hi Y.nf).toNat = prodN (sz Y.lo Y.hi) Y.nf 0 := by omega
  rw [truths_mem]
  unfold refTruths refTruthsTo
  rw [List.mem_filter, List.mem_map]
  simp only [List.mem_range, decide_eq_true_eq]
  constructor
  · rintro ⟨⟨m, _, rfl⟩, h2⟩
    exact ⟨⟨(nthB_are hG.f).2, fun j hj => by rw [nthB, if_neg (by omega)]⟩, h2⟩
  · rintro ⟨⟨h1, h2⟩, h3⟩
    refine ⟨⟨encF (sz Y.lo Y.hi) (fun i => (x i - Y.lo i).toNat) Y.nf 0, ?_, ?_⟩, h3⟩
    · rw [hM]
      refine encF_lt Y.nf 0 fun j _ hj => ?_
      obtain ⟨k1, k2⟩ := h1 j (by omega)
      show (x j - Y.lo j).toNat < (Y.hi j - Y.lo j + 1).toNat
      omega
    · funext j
      by_cases hj : j < Y.nf
      · obtain ⟨k1, k2⟩ := h1 j hj
        rw [nthB, if_pos hj, encF_mod (fun i hi => by
          obtain ⟨k1, k2⟩ := h1 i hi
          show (x i - Y.lo i).toNat < (Y.hi i - Y.lo i + 1).toNat
          omega) hj]
        omega
      · rw [nthB, if_neg hj, h2 j (by omega)]
end Go.Vm.Vat

namespace Go.Vm.Vat
open Go.Proofs
set_option linter.unusedSimpArgs false
set_option linter.unusedVariables false
set_option maxRecDepth 10000
variable {n : Nat} {h : AHeap}
def minN (x : Int) (a : Nat → Int) : Nat → Int
  | 0 => x
  | i + 1 => min (minN x a i) (a i)
def s94 : SCode := (.seq (.ops [⟨(some 4), none, .mov (.const (.int .i64 (0)))⟩]) (.seq (.seq (.ops [⟨(some 7), none, .mov (T 1)⟩, ⟨(some 8), none, .len (T 7)⟩, ⟨(some 9), none, .mov (.const (.int .i64 (0)))⟩]) (.block 0 (.loop (.seq (.ops [⟨(some 10), none, .int2 .lss (T 9) (T 8)⟩]) (.seq (.cond (T 10) .skip (.exit 0)) (.seq (.block 1 (.seq (.ops [⟨(some 11), none, .idxSl 1 (T 7) (T 9)⟩, ⟨(some 12), none, .load1 (T 11)⟩, ⟨(some 6), none, .mov (T 12)⟩]) (.ops [⟨(some 13), none, .mov (T 0)⟩, ⟨(some 14), none, .mov (T 6)⟩, ⟨(some 15), none, .plain (.call { callee := .builtin .min, args := #[(T 13), (T 14)], argTypes := #[3, 3] }) 3⟩, ⟨(some 0), none, .mov (T 15)⟩]))) (.ops [⟨(some 16), none, .int2 .add (T 9) (.const (.int .i64 (1)))⟩, ⟨(some 9), none, .mov (T 16)⟩]))))))) (.seq (.ops [⟨(some 17), none, .mov (T 0)⟩, ⟨(some 4), none, .mov (T 17)⟩]) .ret)))
theorem fok94 : FnOk Try.prog 94 18 s94 [.tmp 4] := ⟨Try.f94, _, Try.func94, rfl, Try.ntmps94, by kernel_rfl, by kernel_rfl⟩
theorem minimum_c {m : Nat} (hn : m + 2 ≤ n) (hm : m ≤ 1000) {v : Value} {a : Nat → Int} (hi : Ints h v m a) (x : Int) : call n (.func (.func 94) #[] #[]) [.int .i64 x, v] h = some (.int .i64 (minN x a m), h) := by
  obtain ⟨n, rfl⟩ : ∃ p, n = p + 1 := ⟨n - 1, by omega⟩
  refine call_plain0 fok94 rfl rfl (by simp) rfl ?_
  have hi := Cells.shut hi
  generalize h.shutAll = h at hi
  simp only [rn0, rn1, rn2, rn3, rn4, rn5, rn6, rn7, rn8, if_true, if_false, Nat.le_refl, true_and, and_true, decide_true, decide_false, Bool.not_true, Bool.not_false, reduceIte, Nat.reduceEqDiff, Nat.reduceAdd, Nat.reduceMul, Nat.reduceSub, Nat.reduceLeDiff, Nat.reduceLT, s94, Cells.len hi]
  refine W_loop m (fun k f g ms => g = h ∧ ms = [] ∧ f 0 = .int .i64 (minN x a k) ∧ f 7 = v ∧ f 8 = .int .i64 (m : Int) ∧ f 9 = .int .i64 (k : Int)) (by simp; omega) ?_ ?_ ?_
  · simp only [rn0, rn1, rn2, rn3, rn4, rn5, rn6, rn7, rn8, if_true, if_false, Nat.le_refl, true_and, and_true, decide_true, decide_false, Bool.not_true, Bool.not_false, reduceIte, Nat.reduceEqDiff, Nat.reduceAdd, Nat.reduceMul, Nat.reduceSub, Nat.reduceLeDiff, Nat.reduceLT]
    exact ⟨rfl, rfl⟩
  · rintro k f g ms hk ⟨rfl, rfl, f0, f7, f8, f9⟩
    have hk' : (k : Int) < (m : Int) := by omega
    have hw : wrapF .i64 ((k : Int) + 1) = ((k + 1 : Nat) : Int) := by rw [wrap_in (by omega) (by omega)]; rfl
    have he : min (minN x a k) (a k) = minN x a (k + 1) := rfl
    simp only [rn0, rn1, rn2, rn3, rn4, rn5, rn6, rn7, rn8, if_true, if_false, Nat.le_refl, true_and, and_true, decide_true, decide_false, Bool.not_true, Bool.not_false, reduceIte, Nat.reduceEqDiff, Nat.reduceAdd, Nat.reduceMul, Nat.reduceSub, Nat.reduceLeDiff, Nat.reduceLT, f0, f7, f8, f9, hk', Cells.idx hi hk, Cells.ld hi hk Nat.zero_lt_one, valN_tmp, Nat.reduceLT, he, hw]
  · rintro f g ms ⟨rfl, rfl, f0, f7, f8, f9⟩
    simp only [rn0, rn1, rn2, rn3, rn4, rn5, rn6, rn7, rn8, if_true, if_false, Nat.le_refl, true_and, and_true, decide_true, decide_false, Bool.not_true, Bool.not_false, reduceIte, Nat.reduceEqDiff, Nat.reduceAdd, Nat.reduceMul, Nat.reduceSub, Nat.reduceLeDiff, Nat.reduceLT, f0, f7, f8, f9, Int.lt_irrefl]
/-- what 'openTrue' answers -/
def OpenTR (h : AHeap) (Y : MY) (F V S v : Value) (h' : AHeap) : Prop := Made h h' 240000 ∧
  ((faultN Y ≠ 0 ∧ v = .tuple ⟨[.agg ⟨[nilS, nilS, nilS, nilS]⟩, .int .i64 (faultN Y)]⟩) ∨ (faultN Y = 0 ∧ truths Y = [] ∧ v = .tuple ⟨[.agg ⟨[nilS, nilS, nilS, nilS]⟩, .int .i64 11]⟩) ∨
    (faultN Y = 0 ∧ truths Y ≠ [] ∧ ∃ tv, v = .tuple ⟨[.agg ⟨[F, V, S, tv]⟩, .int .i64 0]⟩ ∧ TruthsR h' tv (truths Y) ∧ Long tv))
def s89 : SCode := (.seq (.ops [⟨(some 1), none, .box (T 0)⟩, ⟨(some 2), none, .alloc [(.slice none 0 0), (.slice none 0 0), (.slice none 0 0), (.slice none 0 0)]⟩, ⟨(some 3), none, .mov (.const (.int .i64 (0)))⟩]) (.seq (.ops [⟨(some 7), none, .loadN 3 (T 1)⟩, ⟨(some 8), none, .call (.func 78) [(T 7)]⟩, ⟨(some 6), none, .mov (T 8)⟩, ⟨(some 9), none, .extract 0 (T 6)⟩, ⟨(some 10), none, .extract 1 (T 6)⟩, ⟨(some 4), none, .alloc [(.slice none 0 0), (.slice none 0 0), (.slice none 0 0), (.slice none 0 0)]⟩, ⟨none, none, .store 4 (T 4) (T 9)⟩, ⟨(some 5), none, .mov (T 10)⟩]) (.seq (.seq (.ops [⟨(some 11), none, .mov (T 5)⟩, ⟨(some 12), none, .int2 .eql (T 11) (.const (.int .i64 (0)))⟩, ⟨(some 13), none, .mov (T 12)⟩, ⟨(some 14), (some (13, true)), .fieldAddr 3 (T 4)⟩, ⟨(some 15), (some (13, true)), .load1 (T 14)⟩, ⟨(some 16), (some (13, true)), .len (T 15)⟩, ⟨(some 17), (some (13, true)), .int2 .eql (T 16) (.const (.int .i64 (0)))⟩, ⟨(some 18), none, .pick (T 13) (T 17) (.const (.bool false))⟩]) (.cond (T 18) (.seq (.ops [⟨(some 19), none, .build #[(0, 3), (3, 1)] [(.slice none 0 0), (.slice none 0 0), (.slice none 0 0), (.slice none 0 0)] [] []⟩, ⟨none, none, .store 4 (T 2) (T 19)⟩, ⟨(some 3), none, .mov (.const (.int .i64 (11)))⟩]) .ret) .skip)) (.seq (.ops [⟨(some 20), none, .loadN 4 (T 4)⟩, ⟨(some 21), none, .mov (T 5)⟩, ⟨none, none, .store 4 (T 2) (T 20)⟩, ⟨(some 3), none, .mov (T 21)⟩]) .ret))))
theorem fok89 : FnOk Try.prog 89 22 s89 [.cellN 2 4, .tmp 3] := ⟨Try.f89, _, Try.func89, rfl, Try.ntmps89, by kernel_rfl, by kernel_rfl⟩
theorem openTrue_c (hn : 10050 ≤ n) (hr : h.next + 400000 < far) (hfl : h.floor ≤ h.next) {F V S : Value} {Y : MY} (hy : YardR h F V S Y) (hY : Thin Y) :
    ∃ v h', call n (.func (.func 89) #[] #[]) [.agg ⟨[F, V, S]⟩] h = some (v, h') ∧ OpenTR h Y F V S v h' := by
  obtain ⟨n, rfl⟩ : ∃ p, n = p + 1 := ⟨n - 1, by omega⟩
  refine call_any0 fok89 rfl rfl (by simp) ?_
  simp only [s89, W_seq, W_ops]
  refine ops_box (cs := [F, V, S]) (by omega) rfl hy.one fun g1 hx1 => ?_
  have n1 := hx1.next
  have f1 := hx1.floor
  simp only [rn0, rn1, rn2, rn3, rn4, rn5, rn6, rn7, rn8, if_true, if_false, Nat.le_refl, true_and, and_true, decide_true, decide_false, Bool.not_true, Bool.not_false, reduceIte, Nat.reduceEqDiff, Nat.reduceAdd, Nat.reduceMul, Nat.reduceSub, Nat.reduceLeDiff, Nat.reduceLT]
  refine step_row (cs := [nilS, nilS, nilS, nilS]) (by omega) rfl rfl fun g2 hx2 => ?_
  have n2 := hx2.next
  have f2 := hx2.floor
  have w2 := (hx1.row.mono hx2.sub).whole (n := 3) rfl
  obtain ⟨v, g3, eo, hm, ho⟩ := open_c (n := n) (h := g2) (by omega) (by omega) (by omega) ((hy.mono hx1.sub).mono hx2.sub) hY
  have n3 := hm.next
  have u3 := hm.up
  have f3 := hm.floor
  have hres : g3.get g1.next = some (.row [nilS, nilS, nilS, nilS] true 0) := hm.sub _ _ _ _ trivial hx2.get
  have hs3 : Sub All h g3 := hx1.sub.trans (hx2.sub.trans hm.sub)
  -- how it ends
  have fin : ∀ (g4 g5 : AHeap) (cs : List Value), Sub All h g4 → New g3 g4 cs 0 → ∀ (vs : List Value), Set1 g4 g5 g1.next vs 0 → Made h g5 240000 := fun g4 g5 cs hs hx vs hst => by
    have := hx.next
    have := hst.next
    have := hx.floor
    have := hst.floor
    exact ⟨fun i cs w gr t hg => by rw [hst.old i (by have := AHeap.lt_of_get hg; omega)]; exact hs _ _ _ _ t hg, by omega, by omega, by omega⟩
  rcases ho with ⟨hf, rfl⟩ | ⟨hf, tv, rfl, htr, hlong⟩
  · simp only [rn0, rn1, rn2, rn3, rn4, rn5, rn6, rn7, rn8, if_true, if_false, Nat.le_refl, true_and, and_true, decide_true, decide_false, Bool.not_true, Bool.not_false, reduceIte, Nat.reduceEqDiff, Nat.reduceAdd, Nat.reduceMul, Nat.reduceSub, Nat.reduceLeDiff, Nat.reduceLT, w2, eo, ex0, ex1]
    refine step_new (vs := [nilS, nilS, nilS, nilS]) (by omega) (by omega) rfl (by simp only [rn0, rn1, rn2, rn3, rn4, rn5, rn6, rn7, rn8, if_true, if_false, Nat.le_refl, true_and, and_true, decide_true, decide_false, Bool.not_true, Bool.not_false, reduceIte, Nat.reduceEqDiff, Nat.reduceAdd, Nat.reduceMul, Nat.reduceSub, Nat.reduceLeDiff, Nat.reduceLT]; rfl) rfl rfl rfl fun g4 hx4 => ?_
    have w4 := hx4.row.whole (n := 4) rfl
    have n4 := hx4.next
    have f4 := hx4.floor
    simp only [rn0, rn1, rn2, rn3, rn4, rn5, rn6, rn7, rn8, if_true, if_false, Nat.le_refl, true_and, and_true, decide_true, decide_false, Bool.not_true, Bool.not_false, reduceIte, Nat.reduceEqDiff, Nat.reduceAdd, Nat.reduceMul, Nat.reduceSub, Nat.reduceLeDiff, Nat.reduceLT, hf, w4]
    refine step_store (vs := [nilS, nilS, nilS, nilS]) rfl (hx4.sub _ _ _ _ trivial hres) (by omega) (by omega) rfl rfl rfl (by simp) fun g5 hs5 => ?_
    rw [splice_all rfl] at hs5
    simp only [rn0, rn1, rn2, rn3, rn4, rn5, rn6, rn7, rn8, if_true, if_false, Nat.le_refl, true_and, and_true, decide_true, decide_false, Bool.not_true, Bool.not_false, reduceIte, Nat.reduceEqDiff, Nat.reduceAdd, Nat.reduceMul, Nat.reduceSub, Nat.reduceLeDiff, Nat.reduceLT, res_two, hs5.row.whole (n := 4) rfl]
    exact ⟨fin g4 g5 _ (hs3.trans hx4.sub) hx4 _ hs5, .inl ⟨hf, rfl⟩⟩
  · have ho4 : allB oneCell [F, V, S, tv] = true := by have h1 := hy.one; have h2 := Cells.one htr; simp [allB] at h1 ⊢; simp [h1, h2]
    simp only [rn0, rn1, rn2, rn3, rn4, rn5, rn6, rn7, rn8, if_true, if_false, Nat.le_refl, true_and, and_true, decide_true, decide_false, Bool.not_true, Bool.not_false, reduceIte, Nat.reduceEqDiff, Nat.reduceAdd, Nat.reduceMul, Nat.reduceSub, Nat.reduceLeDiff, Nat.reduceLT, w2, eo, ex0, ex1]
    refine step_new (vs := [F, V, S, tv]) (by omega) (by omega) rfl (by simp only [rn0, rn1, rn2, rn3, rn4, rn5, rn6, rn7, rn8, if_true, if_false, Nat.le_refl, true_and, and_true, decide_true, decide_false, Bool.not_true, Bool.not_false, reduceIte, Nat.reduceEqDiff, Nat.reduceAdd, Nat.reduceMul, Nat.reduceSub, Nat.reduceLeDiff, Nat.reduceLT]; rfl) ho4 rfl rfl fun g4 hx4 => ?_
    have w4 := hx4.row.whole (n := 4) rfl
    have n4 := hx4.next
    have f4 := hx4.floor
    have htr4 : TruthsR g4 tv (truths Y) := Cells.mono htr hx4.sub
    by_cases he : truths Y = []
    · have hl : (truths Y).length = 0 := by rw [he]; rfl
      simp only [rn0, rn1, rn2, rn3, rn4, rn5, rn6, rn7, rn8, if_true, if_false, Nat.le_refl, true_and, and_true, decide_true, decide_false, Bool.not_true, Bool.not_false, reduceIte, Nat.reduceEqDiff, Nat.reduceAdd, Nat.reduceMul, Nat.reduceSub, Nat.reduceLeDiff, Nat.reduceLT, hx4.row.ld, Nat.zero_add, List.getElem?_cons_zero, List.getElem?_cons_succ, Cells.len htr4, hl, Int.natCast_zero, build_work0]
      refine step_store (vs := [nilS, nilS, nilS, nilS]) rfl (hx4.sub _ _ _ _ trivial hres) (by omega) (by omega) rfl rfl rfl (by simp) fun g5 hs5 => ?_
      rw [splice_all rfl] at hs5
      simp only [rn0, rn1, rn2, rn3, rn4, rn5, rn6, rn7, rn8, if_true, if_false, Nat.le_refl, true_and, and_true, decide_true, decide_false, Bool.not_true, Bool.not_false, reduceIte, Nat.reduceEqDiff, Nat.reduceAdd, Nat.reduceMul, Nat.reduceSub, Nat.reduceLeDiff, Nat.reduceLT, res_two, hs5.row.whole (n := 4) rfl]
      exact ⟨fin g4 g5 _ (hs3.trans hx4.sub) hx4 _ hs5, .inr (.inl ⟨hf, he, rfl⟩)⟩
    · have hl : ¬ ((truths Y).length : Int) = 0 := fun e => he (List.eq_nil_of_length_eq_zero (by omega))
      simp only [rn0, rn1, rn2, rn3, rn4, rn5, rn6, rn7, rn8, if_true, if_false, Nat.le_refl, true_and, and_true, decide_true, decide_false, Bool.not_true, Bool.not_false, reduceIte, Nat.reduceEqDiff, Nat.reduceAdd, Nat.reduceMul, Nat.reduceSub, Nat.reduceLeDiff, Nat.reduceLT, hx4.row.ld, Nat.zero_add, List.getElem?_cons_zero, List.getElem?_cons_succ, Cells.len htr4, hl, w4]
      refine step_store (vs := [F, V, S, tv]) rfl (hx4.sub _ _ _ _ trivial hres) (by omega) (by omega) rfl ho4 rfl (by simp) fun g5 hs5 => ?_
      rw [splice_all (cs := [nilS, nilS, nilS, nilS]) (vs := [F, V, S, tv]) rfl] at hs5
      simp only [rn0, rn1, rn2, rn3, rn4, rn5, rn6, rn7, rn8, if_true, if_false, Nat.le_refl, true_and, and_true, decide_true, decide_false, Bool.not_true, Bool.not_false, reduceIte, Nat.reduceEqDiff, Nat.reduceAdd, Nat.reduceMul, Nat.reduceSub, Nat.reduceLeDiff, Nat.reduceLT, res_two, hs5.row.whole (n := 4) rfl]
      refine ⟨fin g4 g5 _ (hs3.trans hx4.sub) hx4 _ hs5, .inr (.inr ⟨hf, he, tv, rfl, ?_, hlong⟩)⟩
      obtain ⟨a, cap, e, hsp, h0 | ⟨b, o, cs, w, gr, e1, e2, e3⟩⟩ := htr
      · exact absurd (List.eq_nil_of_length_eq_zero h0) he
      · have hpos : 0 < (truths Y).length := by omega
        have hne : b ≠ g1.next := fun eb => by
          subst eb
          have hrow : (AObj.row cs w gr) = .row [nilS, nilS, nilS, nilS] true 0 := Option.some.inj (e2.symm.trans hres)
          cases hrow
          have := List.mem_of_getElem? (e3 0 0 hpos (by omega))
          simp at this
        exact ⟨a, cap, e, hsp, .inr ⟨b, o, cs, w, gr, e1, by rw [hs5.old b hne]; exact hx4.sub _ _ _ _ trivial e2, e3⟩⟩
end Go.Vm.Vat

namespace Go.Vm.Vat
open Go.Proofs
set_option linter.unusedSimpArgs false
set_option linter.unusedVariables false
set_option maxRecDepth 10000
variable {n : Nat} {h : AHeap}
/-! ### What is surely in a vat -/
theorem le_minN {x : Int} {a : Nat → Int} {b : Int} : ∀ m, b ≤ minN x a m ↔ b ≤ x ∧ ∀ i, i < m → b ≤ a i
  | 0 => by simp [minN]
  | m + 1 => by
    simp only [minN]
    rw [Int.le_min, le_minN m]
    constructor
    · rintro ⟨⟨h1, h2⟩, h3⟩
      refine ⟨h1, fun i hi => ?_⟩
      by_cases e : i = m
      · subst e; exact h3
      · exact h2 i (by omega)
    · rintro ⟨h1, h2⟩
      exact ⟨⟨h1, fun i hi => h2 i (by omega)⟩, h2 m (by omega)⟩
def blueWith (Y : MY) (v f : Nat) (many : Nat) (t : Nat → Int) : Int := blueN t (Y.q v) Y.nf + many * t f
theorem truths_range {Y : MY} (hf : faultN Y = 0) {t : Nat → Int} (ht : t ∈ truths Y) : ∀ k, k < Y.nf → 0 ≤ t k ∧ t k ≤ 20 := fun k hk => by
  have h1 := (truths_mem.1 ht).1.1 k hk
  have h2 := (good_of hf).f k hk
  omega
theorem truths_at {Y : MY} {i : Nat} (hi : i < (truths Y).length) : (truths Y).getD i (fun _ => 0) ∈ truths Y := by rw [List.getD_eq_getElem?_getD, List.getElem?_eq_getElem hi]; exact List.getElem_mem hi
/-! The reference's truths -/
theorem refTruths_range {Y : MY} (hf : faultN Y = 0) {t : Nat → Int} (ht : t ∈ refTruths Y) : ∀ k, k < Y.nf → 0 ≤ t k ∧ t k ≤ 20 := truths_range hf ((refTruths_mem hf).1 ht)
theorem refTruths_at {Y : MY} {i : Nat} (hi : i < (refTruths Y).length) : (refTruths Y).getD i (fun _ => 0) ∈ refTruths Y := by rw [List.getD_eq_getElem?_getD, List.getElem?_eq_getElem hi]; exact List.getElem_mem hi
theorem refTruths_len {Y : MY} (hf : faultN Y = 0) : (refTruths Y).length ≤ 2000 := by
  obtain ⟨hG, hsz⟩ := fault_size hf
  have hF : ∀ k, k < Y.nf → 0 ≤ Y.lo k ∧ Y.lo k ≤ Y.hi k ∧ Y.hi k ≤ 20 := hG.f
  have hmany := sizeN_many hG.sz.1 hF Y.nf (Nat.le_refl _)
  have := refTruthsTo_len (Y := Y) (m := (manyN Y.lo Y.hi Y.nf).toNat)
  unfold refTruths
  omega
theorem refTruths_nil {Y : MY} (hf : faultN Y = 0) : refTruths Y = [] ↔ truths Y = [] := by
  constructor
  · intro h
    cases ht : truths Y with
    | nil => rfl
    | cons x l =>
      have : x ∈ refTruths Y := (refTruths_mem hf).2 (by rw [ht]; simp)
      rw [h] at this
      cases this
  · intro h
    cases ht : refTruths Y with
    | nil => rfl
    | cons x l =>
      have : x ∈ truths Y := (refTruths_mem hf).1 (by rw [ht]; simp)
      rw [h] at this
      cases this
end Go.Vm.Vat

namespace Go.Vm.Vat
open Go.Proofs
set_option linter.unusedSimpArgs false
set_option linter.unusedVariables false
set_option maxRecDepth 10000
variable {n : Nat} {h : AHeap}
/-! ### Bounds in all truths -/
def maxN (x : Int) (a : Nat → Int) : Nat → Int
  | 0 => x
  | i + 1 => max (maxN x a i) (a i)
theorem map_splice {F F' : Nat → Value} {m off : Nat} {vs : List Value} (hl : off + vs.length ≤ m) (h1 : ∀ i, i < m → (i < off ∨ off + vs.length ≤ i) → F' i = F i) (h2 : ∀ j, j < vs.length → vs[j]? = some (F' (off + j))) :
    splice ((List.range m).map F) off vs = (List.range m).map F' := by
  apply List.ext_getElem?
  intro i
  have hlen : ((List.range m).map F).length = m := by simp
  simp only [splice]
  by_cases hi : i < m
  · rw [List.getElem?_map, List.getElem?_range hi]
    by_cases c1 : i < off
    · rw [List.getElem?_append_left (by simp [hlen]; omega), List.getElem?_take, if_pos c1, List.getElem?_map, List.getElem?_range hi]
      simp [h1 i hi (.inl c1)]
    · rw [List.getElem?_append_right (by simp [hlen]; omega)]
      have e : (List.take off ((List.range m).map F)).length = off := by simp [hlen]; omega
      rw [e]
      by_cases c2 : i < off + vs.length
      · rw [List.getElem?_append_left (by omega), h2 (i - off) (by omega)]
        simp [show off + (i - off) = i by omega]
      · rw [List.getElem?_append_right (by omega), List.getElem?_drop, show off + vs.length + (i - off - vs.length) = i by omega, List.getElem?_map, List.getElem?_range hi]
        simp [h1 i hi (.inr (by omega))]
  · rw [List.getElem?_eq_none (by simp; omega), List.getElem?_eq_none (by simp [hlen]; omega)]
theorem idxSl_s {s k m c o : Nat} (hk : k < m) : indexSl s (.slice (some ⟨o, 0, none⟩) m c) (.int .i64 (k : Int)) = some (.pointer (some ⟨o, k * s, none⟩)) := by
  show placeAt ⟨o, 0, none⟩ (Int.ofNat k) m s = _
  unfold placeAt
  simp only [blt_iff.2 hk, cond_true, Nat.zero_add]
/-- the bounds of what is measured -/
def loN (val : (Nat → Int) → Int) (L : List (Nat → Int)) : Int := minN (val (L.getD 0 fun _ => 0)) (fun i => val (L.getD (i + 1) fun _ => 0)) (L.length - 1)
def hiN (val : (Nat → Int) → Int) (L : List (Nat → Int)) : Int := maxN (val (L.getD 0 fun _ => 0)) (fun i => val (L.getD (i + 1) fun _ => 0)) (L.length - 1)
theorem maxN_le {x : Int} {a : Nat → Int} {b : Int} : ∀ m, maxN x a m ≤ b ↔ x ≤ b ∧ ∀ i, i < m → a i ≤ b
  | 0 => by simp [maxN]
  | m + 1 => by
    simp only [maxN]
    rw [Int.max_le, maxN_le m]
    constructor
    · rintro ⟨⟨h1, h2⟩, h3⟩
      refine ⟨h1, fun i hi => ?_⟩
      by_cases e : i = m
      · subst e; exact h3
      · exact h2 i (by omega)
    · rintro ⟨h1, h2⟩
      exact ⟨⟨h1, fun i hi => h2 i (by omega)⟩, h2 m (by omega)⟩
theorem all_getD {L : List (Nat → Int)} (hL : L ≠ []) {p : (Nat → Int) → Prop} : (p (L.getD 0 fun _ => 0) ∧ ∀ i, i < L.length - 1 → p (L.getD (i + 1) fun _ => 0)) ↔ ∀ t, t ∈ L → p t := by
  have hpos : 0 < L.length := List.length_pos_iff.2 hL
  have hget : ∀ i, (hi : i < L.length) → L.getD i (fun _ => 0) = L[i] := fun i hi => by rw [List.getD_eq_getElem?_getD, List.getElem?_eq_getElem hi]; rfl
  constructor
  · rintro ⟨h1, h2⟩ t ht
    obtain ⟨i, hi, rfl⟩ := List.getElem_of_mem ht
    cases i with
    | zero => rw [← hget 0 hi]; exact h1
    | succ i => rw [← hget (i + 1) hi]; exact h2 i (by omega)
  · intro ht
    refine ⟨ht _ (by rw [hget 0 hpos]; exact List.getElem_mem hpos), fun i hi => ?_⟩
    have hi' : i + 1 < L.length := by omega
    exact ht _ (by rw [hget (i + 1) hi']; exact List.getElem_mem hi')
theorem le_loN {val : (Nat → Int) → Int} {L : List (Nat → Int)} (hL : L ≠ []) {b : Int} : b ≤ loN val L ↔ ∀ t, t ∈ L → b ≤ val t := by
  unfold loN; rw [le_minN]; exact all_getD hL (p := fun t => b ≤ val t)
theorem hiN_le {val : (Nat → Int) → Int} {L : List (Nat → Int)} (hL : L ≠ []) {b : Int} : hiN val L ≤ b ↔ ∀ t, t ∈ L → val t ≤ b := by
  unfold hiN; rw [maxN_le]; exact all_getD hL (p := fun t => val t ≤ b)
end Go.Vm.Vat

namespace Go.Vm
variable {P : Program} {N : Nat} {f : Fr} {h : AHeap} {ty t u e : TypeId} {x y : Operand}
/-! ### Structs of two integers, compared -/
theorem pr_eqTwo {d : Nat} {f0 f1 : Field} {a0 a1 b0 b1 : Int} (ht : P.underlying t = some (.struct #[f0, f1])) (hp : P.stoodInHeld t = false) (n0 : f0.name ≠ "_") (n1 : f1.name ≠ "_") (o0 : f0.offset = 0) (o1 : f1.offset = 1)
    (e0 : P.underlying f0.type = some (.int .i64)) (e1 : P.underlying f1.type = some (.int .i64)) :
    pureRun P (Op.equalIn (d + 2) t (.agg ⟨[.int .i64 a0, .int .i64 a1]⟩) (.agg ⟨[.int .i64 b0, .int .i64 b1]⟩)) = some (decide (a0 = b0 ∧ a1 = b1)) := by
  have x0 : ∀ (p q : Int), pureRun P (part f0.type ⟨[.int .i64 p, .int .i64 q]⟩ f0.offset) = some (.int .i64 p) := fun p q => pr_part e0 (by rw [o0]; rfl)
  have x1 : ∀ (p q : Int), pureRun P (part f1.type ⟨[.int .i64 p, .int .i64 q]⟩ f1.offset) = some (.int .i64 q) := fun p q => pr_part e1 (by rw [o1]; rfl)
  rw [Op.equalIn]
  simp only [pureRun_bind, pr_under ht, Option.bind_some, pr_program, hp, Bool.false_eq_true, if_false]
  rw [← Array.forIn_toList]
  simp only [List.forIn_cons, List.forIn_nil, pureRun_bind, n0, n1, ne_eq, not_false_eq_true, if_true, x0, pr_eqInt e0, Option.bind_some]
  by_cases c0 : a0 = b0 <;> by_cases c1 : a1 = b1 <;> simp [c0, c1, pr_pure, pureRun_bind, x1, pr_eqInt e1]
end Go.Vm

namespace Go.Vm.Vat
open Go.Proofs
set_option linter.unusedSimpArgs false
set_option linter.unusedVariables false
set_option maxRecDepth 10000
variable {n : Nat} {h : AHeap}
end Go.Vm.Vat

namespace Go.Vm.Vat
open Go.Proofs
set_option linter.unusedSimpArgs false
set_option linter.unusedVariables false
set_option maxRecDepth 10000
variable {n : Nat} {h : AHeap}
def s62 : SCode := (.seq (.ops [⟨(some 1), none, .box (T 0)⟩, ⟨(some 2), none, .mov (.const (.bool false))⟩]) (.seq (.ops [⟨(some 3), none, .loadN 3 (T 1)⟩, ⟨(some 4), none, .call (.func 23) [(T 3)]⟩, ⟨(some 5), none, .mov (T 4)⟩, ⟨(some 6), (some (5, true)), .loadN 3 (T 1)⟩, ⟨(some 7), (some (5, true)), .call (.func 29) [(T 6)]⟩, ⟨(some 8), (some (5, true)), .int2 .eql (T 7) (.const (.int .i64 (0)))⟩, ⟨(some 9), none, .pick (T 5) (T 8) (.const (.bool false))⟩, ⟨(some 2), none, .mov (T 9)⟩]) .ret))
theorem fok62 : FnOk Try.prog 62 10 s62 [.tmp 2] := ⟨Try.f62, _, Try.func62, rfl, Try.ntmps62, by kernel_rfl, by kernel_rfl⟩
theorem ready_c (hn : 10010 ≤ n) (hr : h.next + 100 < far) {fv vv sv : Value} {Y : MY} (hy : YardR h fv vv sv Y) :
    call n (.func (.func 62) #[] #[]) [.agg ⟨[fv, vv, sv]⟩] h = some (.bool (decide (Thin Y ∧ faultN Y = 0)), h) := by
  obtain ⟨n, rfl⟩ : ∃ p, n = p + 1 := ⟨n - 1, by omega⟩
  refine call_plain0 fok62 rfl rfl (by simp) rfl ?_
  have hy := hy.shut
  have hr : h.shutAll.next + 100 < far := hr
  generalize h.shutAll = h at hy hr
  simp only [s62, W_seq, W_ops]
  refine ops_box (cs := [fv, vv, sv]) (by omega) rfl hy.one fun g1 hx1 => ?_
  have n1 := hx1.next
  have hy1 := hy.mono hx1.sub
  have w1 := hx1.row.whole (n := 3) rfl
  have ht := thin_c (n := n) (h := g1) (by omega) (by omega) hy1
  have ef := faultL_c (n := n) (h := g1) (by omega) (by omega) hy1
  by_cases hT : Thin Y
  · by_cases hf : faultN Y = 0
    · simp only [rn0, rn1, rn2, rn3, rn4, rn5, rn6, rn7, rn8, if_true, if_false, Nat.le_refl, true_and, and_true, decide_true, decide_false, Bool.not_true, Bool.not_false, reduceIte, Nat.reduceEqDiff, Nat.reduceAdd, Nat.reduceMul, Nat.reduceSub, Nat.reduceLeDiff, Nat.reduceLT, w1, ht, hT, ef, hf, and_self]
    · simp only [rn0, rn1, rn2, rn3, rn4, rn5, rn6, rn7, rn8, if_true, if_false, Nat.le_refl, true_and, and_true, decide_true, decide_false, Bool.not_true, Bool.not_false, reduceIte, Nat.reduceEqDiff, Nat.reduceAdd, Nat.reduceMul, Nat.reduceSub, Nat.reduceLeDiff, Nat.reduceLT, w1, ht, hT, ef, hf, and_false]
  · simp only [rn0, rn1, rn2, rn3, rn4, rn5, rn6, rn7, rn8, if_true, if_false, Nat.le_refl, true_and, and_true, decide_true, decide_false, Bool.not_true, Bool.not_false, reduceIte, Nat.reduceEqDiff, Nat.reduceAdd, Nat.reduceMul, Nat.reduceSub, Nat.reduceLeDiff, Nat.reduceLT, w1, ht, hT, false_and]
/-- an unsigned byte, as an integer -/
def run8 (other : AHeap → Option (Value × AHeap)) (a : Value) (h : AHeap) : Option (Value × AHeap) :=
  match a with
  | .int .u8 a => some (.int .i64 (IntKind.wrap .i64 a), h)
  | _ => other h
theorem p_conv8 {N : Nat} {f : Fr} {x : Operand} {ty : TypeId} : plainF Try.prog N (.convert 5 3 x) ty f h = run8 (plainF Try.prog N (.convert 5 3 x) ty f) (valN N f x) h := by
  unfold run8
  split
  · rename_i a e1
    unfold plainF
    have : allB (fun x => plainV (valN N f x)) (Op.convert 5 3 x).operands.toList = true := by simp [Op.operands, allB, e1, plainV, plainE, plainCell]
    rw [this]
    have e : pureRun Try.prog (execOp (valN N f) (bare (.convert 5 3 x) ty)) = some (.value (.int .i64 (IntKind.wrap .i64 a))) := by
      show pureRun Try.prog (convert 5 3 (valN N f x) >>= fun a => pure (Next.value a)) = _
      rw [pureRun_bind, e1]
      have hc : pureRun Try.prog (convert 5 3 (.int .u8 a)) = some (.int .i64 (IntKind.wrap .i64 a)) := by
        unfold convert
        rw [pureRun_bind, pr_under Try.underlying5, Option.bind_some, pureRun_bind, pr_under Try.underlying3]
        rfl
      rw [hc]; rfl
    rw [e]
    rfl
  · rfl
theorem r_8 {other : AHeap → Option (Value × AHeap)} {k : Nat} (hk : k < 256) : run8 other (.int .u8 (k : Int)) h = some (.int .i64 (k : Int), h) := by
  simp only [run8]
  rw [IntWalk.i64_in _ (by omega)]
theorem wf8 {a : Int} (h : (Lit.int .u8 a).wf = true) : ∃ k : Nat, a = k ∧ k < 256 := by
  simp only [Lit.wf, Bool.and_eq_true, decide_eq_true_eq] at h
  have h1 : (IntKind.u8).min = 0 := rfl
  have h2 : (IntKind.u8).max = 255 := rfl
  rw [h1, h2] at h
  exact ⟨a.toNat, by omega, by omega⟩
end Go.Vm.Vat

namespace Go.Vm.Vat
open Go.Proofs
set_option linter.unusedSimpArgs false
set_option linter.unusedVariables false
set_option maxRecDepth 10000
variable {n : Nat} {h : AHeap}
/-- among the first k -/
def Seen (L : List (Nat → Int)) (p : (Nat → Int) → Prop) (k : Nat) : Prop := ∃ i, i < k ∧ p (L.getD i fun _ => 0)
noncomputable instance (L : List (Nat → Int)) (p : (Nat → Int) → Prop) (k : Nat) : Decidable (Seen L p k) := Classical.propDecidable _
end Go.Vm.Vat

namespace Go.Vm.Vat
open Go.Proofs
set_option linter.unusedSimpArgs false
set_option linter.unusedVariables false
set_option maxRecDepth 10000
variable {n : Nat} {h : AHeap}
theorem ready_big (hn : 3 ≤ n) (hr : h.next + 5 < far) {u0 u1 u2 : Value} (hb : Big u0 u1 u2) : call n (.func (.func 62) #[] #[]) [.agg ⟨[u0, u1, u2]⟩] h = some (.bool false, h) := by
  obtain ⟨n, rfl⟩ : ∃ p, n = p + 1 := ⟨n - 1, by omega⟩
  refine call_plain0 fok62 rfl rfl (by simp) rfl ?_
  have hr : h.shutAll.next + 5 < far := hr
  generalize h.shutAll = h at hr
  simp only [s62, W_seq, W_ops]
  refine ops_box (cs := [u0, u1, u2]) (by omega) rfl hb.one fun g1 hx1 => ?_
  have n1 := hx1.next
  have w1 := hx1.row.whole (n := 3) rfl
  have ht := thin_big (n := n) (h := g1) (by omega) (by omega) hb
  simp only [rn0, rn1, rn2, rn3, rn4, rn5, rn6, rn7, rn8, if_true, if_false, Nat.le_refl, true_and, and_true, decide_true, decide_false, Bool.not_true, Bool.not_false, reduceIte, Nat.reduceEqDiff, Nat.reduceAdd, Nat.reduceMul, Nat.reduceSub, Nat.reduceLeDiff, Nat.reduceLT, w1, ht]
end Go.Vm.Vat

namespace Go.Vm.Vat
open Go.Proofs
set_option linter.unusedSimpArgs false
set_option linter.unusedVariables false
set_option maxRecDepth 10000
variable {n : Nat} {h : AHeap}
/-! ### The iterator once more: yield is told of no state behind which it has said false -/
section
variable {σ : Type}
end
end Go.Vm.Vat

namespace Go.Vm.Vat
open Go.Proofs
set_option linter.unusedSimpArgs false
set_option linter.unusedVariables false
set_option maxRecDepth 10000
variable {n : Nat} {h : AHeap}
end Go.Vm.Vat

namespace Go.Vm.Vat
open Go.Proofs
set_option linter.unusedSimpArgs false
set_option linter.unusedVariables false
set_option maxRecDepth 10000
variable {n : Nat} {h : AHeap}
/-! ### Lists in order -/
/-- lexicographically before, both as long -/
def LexLt (a b : Nat → Int) (m : Nat) : Prop := ∃ j, j < m ∧ (∀ i, i < j → a i = b i) ∧ a j < b j
noncomputable instance (a b : Nat → Int) (m : Nat) : Decidable (LexLt a b m) := Classical.propDecidable _
/-- shorter, or as long and before it -/
def Shortlex (a : Nat → Int) (m : Nat) (b : Nat → Int) (k : Nat) : Prop := m < k ∨ m = k ∧ LexLt a b m
noncomputable instance (a : Nat → Int) (m : Nat) (b : Nat → Int) (k : Nat) : Decidable (Shortlex a m b k) := Classical.propDecidable _
end Go.Vm.Vat

namespace Go.Vm.Vat
open Go.Proofs
set_option linter.unusedSimpArgs false
set_option linter.unusedVariables false
set_option maxRecDepth 10000
variable {n : Nat} {h : AHeap}
/-- what lies in memory meanwhile -/
structure JF (h2 : AHeap) (p : Nat) (r : ALoop) (s : Int × Bool) (g : AHeap) : Prop where
  old : ∀ i, i < h2.next → i ≠ p + 1 → i ≠ p + 2 → i ≠ p + 3 → i ≠ p + 7 → g.get i = h2.get i
  fst : g.get (p + 3) = some (.row [.int .i64 s.1] true 0)
  r1 : g.get (p + 1) = some (.row [.int .i64 0] true 0)
  r2 : g.get (p + 2) = some (.row [.int .i64 (if s.2 then 7 else 0)] true 0)
  lp : g.get (p + 7) = some (.loop (if s.2 then leftBy r .ret else r))
  up : h2.next + 3 ≤ g.next
end Go.Vm.Vat

namespace Go.Vm.Vat
open Go.Proofs
set_option linter.unusedSimpArgs false
set_option linter.unusedVariables false
set_option maxRecDepth 10000
variable {n : Nat} {h : AHeap}
/-- a list as a function -/
def atL (l : List Int) (i : Nat) : Int := l.getD i 0
/-- what lies in memory meanwhile -/
structure JL (h2 : AHeap) (p : Nat) (s : List Int) (g : AHeap) : Prop where
  old : ∀ i, i < h2.next → i ≠ p + 2 → g.get i = h2.get i
  lst : ∃ v, g.get (p + 2) = some (.row [v] true 0) ∧ Ints g v s.length (atL s) ∧ oneCell v = true ∧ ∀ a k c, v = .slice (some a) k c → a.block = p + 1 ∨ (h2.next + 3 ≤ a.block ∧ a.block < g.next)
  short : s.length ≤ 5
  up : h2.next + 3 ≤ g.next
end Go.Vm.Vat

namespace Go.Vm
variable {P : Program} {N : Nat} {f : Fr} {h : AHeap} {ty t u : TypeId} {x y : Operand}
end Go.Vm
namespace Go.Vm.Vat
open Go.Proofs
set_option linter.unusedSimpArgs false
set_option linter.unusedVariables false
set_option maxRecDepth 10000
variable {n : Nat} {h : AHeap}
/-- the numbers below k whose bit is set -/
def selTo (bits : Nat) : Nat → List Nat
  | 0 => []
  | k + 1 => if bits / 2 ^ k % 2 = 1 then selTo bits k ++ [k] else selTo bits k
theorem selTo_yes {bits k : Nat} (h : bits / 2 ^ k % 2 = 1) : selTo bits (k + 1) = selTo bits k ++ [k] := by rw [selTo, if_pos h]
theorem selTo_no {bits k : Nat} (h : ¬ bits / 2 ^ k % 2 = 1) : selTo bits (k + 1) = selTo bits k := by rw [selTo, if_neg h]
theorem selTo_len {bits : Nat} : ∀ k, (selTo bits k).length ≤ k
  | 0 => Nat.le_refl _
  | k + 1 => by
    have := selTo_len (bits := bits) k
    by_cases h : bits / 2 ^ k % 2 = 1
    · rw [selTo_yes h, List.length_append, List.length_singleton]; omega
    · rw [selTo_no h]; omega
theorem selTo_mem {bits : Nat} : ∀ {k x : Nat}, x ∈ selTo bits k ↔ x < k ∧ bits / 2 ^ x % 2 = 1
  | 0, x => by simp [selTo]
  | k + 1, x => by
    have := selTo_mem (bits := bits) (k := k) (x := x)
    by_cases h : bits / 2 ^ k % 2 = 1
    · rw [selTo_yes h, List.mem_append, this, List.mem_singleton]
      constructor
      · rintro (⟨h1, h2⟩ | rfl)
        · exact ⟨by omega, h2⟩
        · exact ⟨by omega, h⟩
      · rintro ⟨h1, h2⟩
        by_cases e : x = k
        · exact .inr e
        · exact .inl ⟨by omega, h2⟩
    · rw [selTo_no h, this]
      constructor
      · rintro ⟨h1, h2⟩; exact ⟨by omega, h2⟩
      · rintro ⟨h1, h2⟩
        refine ⟨?_, h2⟩
        by_cases e : x = k
        · subst e; exact absurd h2 h
        · omega
/-- the yard with the samples whose bits are set -/
def picked (Y : MY) (bits : Nat) : MY := { Y with ns := (selTo bits Y.ns).length, sv := fun k => Y.sv ((selTo bits Y.ns).getD k 0), slo := fun k => Y.slo ((selTo bits Y.ns).getD k 0), shi := fun k => Y.shi ((selTo bits Y.ns).getD k 0) }
theorem spliceN2 {a b c d : Value} : splice [a, b, c] 2 [d] = [a, b, d] := rfl
end Go.Vm.Vat

namespace Go.Vm.Vat
open Go.Proofs
set_option linter.unusedSimpArgs false
set_option linter.unusedVariables false
set_option maxRecDepth 10000
variable {n : Nat} {h : AHeap}
theorem enum_mem {Y : MY} {x : Nat → Int} : x ∈ enumB Y.lo Y.hi Y.nf 0 (fun _ => 0) ↔ (∀ j, j < Y.nf → Y.lo j ≤ x j ∧ x j ≤ Y.hi j) ∧ ∀ j, Y.nf ≤ j → x j = 0 := by
  rw [enumB_ok]
  constructor
  · rintro ⟨h1, h2⟩; exact ⟨fun j hj => h1 j (by omega) (by omega), fun j hj => h2 j (by omega)⟩
  · rintro ⟨h1, h2⟩; exact ⟨fun j _ hj => h1 j (by omega), fun j hj => h2 j (by omega)⟩
/-! ### A yard with some of its samples -/
theorem picked_right {Y : MY} {b : Nat} {c : Nat → Int} : (∀ k, k < (picked Y b).ns → RightB (picked Y b) c k) ↔ ∀ x, x < Y.ns → b / 2 ^ x % 2 = 1 → RightB Y c x := by
  have hget : ∀ k, k < (selTo b Y.ns).length → (selTo b Y.ns).getD k 0 ∈ selTo b Y.ns := fun k hk => by rw [List.getD_eq_getElem?_getD, List.getElem?_eq_getElem hk]; exact List.getElem_mem hk
  constructor
  · intro hk x hx hb
    obtain ⟨i, hi, he⟩ := List.getElem_of_mem (selTo_mem.2 ⟨hx, hb⟩)
    have := hk i hi
    have e : (selTo b Y.ns).getD i 0 = x := by rw [List.getD_eq_getElem?_getD, List.getElem?_eq_getElem hi]; exact he
    have h2 : RightB Y c ((selTo b Y.ns).getD i 0) := this
    rw [e] at h2; exact h2
  · intro hx k hk
    obtain ⟨h1, h2⟩ := selTo_mem.1 (hget k hk)
    exact hx _ h1 h2
theorem picked_truth {Y : MY} {b : Nat} {c : Nat → Int} : c ∈ truths (picked Y b) ↔ c ∈ enumB Y.lo Y.hi Y.nf 0 (fun _ => 0) ∧ ∀ x, x < Y.ns → b / 2 ^ x % 2 = 1 → RightB Y c x := by
  rw [truths_mem, picked_right, enum_mem]; exact Iff.rfl
theorem picked_fault {Y : MY} {b : Nat} (hf : faultN Y = 0) : faultN (picked Y b) = 0 := by
  have hG := good_of hf
  have hlen := selTo_len (bits := b) Y.ns
  have h1 : SizesOk (picked Y b) := ⟨hG.sz.1, hG.sz.2.1, Nat.le_trans hlen hG.sz.2.2⟩
  have h4 : SampsOk (picked Y b) := fun k hk => hG.s _ (selTo_mem.1 (by
    have hk' : k < (selTo b Y.ns).length := hk
    rw [List.getD_eq_getElem?_getD, List.getElem?_eq_getElem hk']; exact List.getElem_mem hk')).1
  have h2 : FieldsOk (picked Y b) := hG.f
  have h3 : VatsOk (picked Y b) := hG.v
  unfold faultN at hf ⊢
  rw [if_neg (by simpa using hG.sz), if_pos ⟨hG.f, hG.v, hG.s⟩] at hf
  rw [if_neg (by simpa using h1), if_pos ⟨h2, h3, h4⟩]
  exact hf
end Go.Vm.Vat

namespace Go.Vm
variable {P : Program} {N : Nat} {f : Fr} {h : AHeap}
end Go.Vm
namespace Go.Vm.Vat
open Go.Proofs
set_option linter.unusedSimpArgs false
set_option linter.unusedVariables false
set_option maxRecDepth 10000
variable {n : Nat} {h : AHeap}
end Go.Vm.Vat

namespace Go.Vm.Vat
open Go.Proofs
set_option linter.unusedSimpArgs false
set_option linter.unusedVariables false
set_option maxRecDepth 10000
variable {n : Nat} {h : AHeap}
def Bit (b x : Nat) : Prop := b / 2 ^ x % 2 = 1
end Go.Vm.Vat

namespace Go.Vm.Vat
open Go.Proofs
set_option linter.unusedSimpArgs false
set_option linter.unusedVariables false
set_option maxRecDepth 10000
variable {n : Nat} {h : AHeap}
end Go.Vm.Vat

namespace Go.Vm.Vat
open Go.Proofs
set_option linter.unusedSimpArgs false
set_option linter.unusedVariables false
set_option maxRecDepth 10000
variable {n : Nat} {h : AHeap}
/-- some blues with which all these samples are right -/
def CanB (Y : MY) (s : Nat) : Prop := ∃ c, c ∈ enumB Y.lo Y.hi Y.nf 0 (fun _ => 0) ∧ ∀ x, x < Y.ns → Bit s x → RightB Y c x
noncomputable instance (Y : MY) (s : Nat) : Decidable (CanB Y s) := Classical.propDecidable _
end Go.Vm.Vat

namespace Go.Vm.Vat
open Go.Proofs
set_option linter.unusedSimpArgs false
set_option linter.unusedVariables false
set_option maxRecDepth 10000
variable {n : Nat} {h : AHeap}
theorem sel_zero : ∀ k, selTo 0 k = []
  | 0 => rfl
  | k + 1 => by rw [selTo_no (by simp), sel_zero k]
theorem all_mem {Y : MY} (hf : faultN Y = 0) {c : Nat → Int} : c ∈ enumB Y.lo Y.hi Y.nf 0 (fun _ => 0) ↔ ∃ i, i < (manyN Y.lo Y.hi Y.nf).toNat ∧ nthB Y.lo Y.hi Y.nf i = c := by
  have h0 : (picked Y 0).ns = 0 := by show (selTo 0 Y.ns).length = 0; rw [sel_zero]; rfl
  have hall : ∀ m, refTruthsTo (picked Y 0) m = (List.range m).map (nthB Y.lo Y.hi Y.nf) := by
    intro m
    induction m with
    | zero => rfl
    | succ m ih => rw [refTruthsTo_succ, ih, if_pos (fun k hk => by rw [h0] at hk; omega), List.range_succ, List.map_append]; rfl
  have h1 := refTruths_mem (Y := picked Y 0) (picked_fault hf) (x := c)
  have h2 : refTruths (picked Y 0) = (List.range (manyN Y.lo Y.hi Y.nf).toNat).map (nthB Y.lo Y.hi Y.nf) := hall _
  rw [h2, picked_truth, List.mem_map] at h1
  constructor
  · intro hc
    obtain ⟨i, h3, h4⟩ := h1.2 ⟨hc, fun x _ hb => by simp at hb⟩
    exact ⟨i, List.mem_range.1 h3, h4⟩
  · rintro ⟨i, h3, h4⟩
    exact (h1.1 ⟨i, List.mem_range.2 h3, h4⟩).1
/-- the first wrong sample, by the reference -/
def s57 : SCode := (.seq (.ops [⟨(some 2), none, .box (T 0)⟩, ⟨(some 4), none, .mov (.const (.int .i64 (0)))⟩]) (.seq (.seq (.ops [⟨(some 5), none, .mov (.const (.int .i64 (0)))⟩]) (.block 0 (.loop (.seq (.seq (.ops [⟨(some 6), none, .mov (T 5)⟩, ⟨(some 7), none, .fieldAddr 2 (T 2)⟩, ⟨(some 8), none, .load1 (T 7)⟩, ⟨(some 9), none, .len (T 8)⟩, ⟨(some 10), none, .int2 .lss (T 6) (T 9)⟩]) (.cond (T 10) .skip (.exit 0))) (.seq (.block 1 (.seq (.ops [⟨(some 13), none, .mov (T 1)⟩, ⟨(some 14), none, .mov (T 5)⟩, ⟨(some 15), none, .plain (.convert 3 104 (T 14)) 104⟩, ⟨(some 16), none, .plain (.binOp .shl 3 (.const (.int .i64 (2))) (T 15) 104) 3⟩, ⟨(some 17), none, .int2 .sub (T 16) (.const (.int .i64 (1)))⟩, ⟨(some 18), none, .call (.func 110) [(T 13), (T 17)]⟩, ⟨(some 19), none, .not (T 18)⟩]) (.cond (T 19) (.seq (.ops [⟨(some 20), none, .mov (T 5)⟩, ⟨(some 4), none, .mov (T 20)⟩]) .ret) .skip))) (.ops [⟨(some 11), none, .mov (T 5)⟩, ⟨(some 12), none, .int2 .add (T 11) (.const (.int .i64 (1)))⟩, ⟨(some 5), none, .mov (T 12)⟩])))))) (.seq (.ops [⟨(some 4), none, .mov (.const (.int .i64 (-1)))⟩]) .ret)))
end Go.Vm.Vat

namespace Go.Vm.Vat
set_option linter.unusedVariables false
/-! What a sample leaves: pure -/
section
variable {α : Type}
/-- how many say just this -/
def cntB (b : α → Int) (L : List α) (x : Int) : Nat := L.countP fun u => decide (b u = x)
def mostL : List Nat → Nat
  | [] => 0
  | x :: l => max x (mostL l)
theorem mostL_le {n : Nat} : ∀ l : List Nat, mostL l ≤ n ↔ ∀ x, x ∈ l → x ≤ n
  | [] => by simp [mostL]
  | x :: l => by
    have := mostL_le (n := n) l
    simp only [mostL, List.mem_cons, forall_eq_or_imp, ← this]
    omega
/-- the most that say the same -/
def mostN (b : α → Int) (L : List α) : Nat := mostL (L.map fun t => cntB b L (b t))
theorem mostN_le {b : α → Int} {L : List α} {n : Nat} : mostN b L ≤ n ↔ ∀ t, t ∈ L → cntB b L (b t) ≤ n := by
  unfold mostN
  rw [mostL_le]
  simp [List.mem_map]
theorem eq_of_le_iff {a b : Nat} (h : ∀ n, a ≤ n ↔ b ≤ n) : a = b := by
  have h1 := (h b).2 (Nat.le_refl _)
  have h2 := (h a).1 (Nat.le_refl _)
  omega
theorem cntB_snoc {b : α → Int} {L : List α} {t : α} {x : Int} : cntB b (L ++ [t]) x = cntB b L x + if b t = x then 1 else 0 := by
  unfold cntB
  rw [List.countP_append, List.countP_cons, List.countP_nil]
  by_cases h : b t = x <;> simp [h]
theorem cntB_le {b : α → Int} {L : List α} {x : Int} : cntB b L x ≤ L.length := List.countP_le_length
theorem mostN_snoc {b : α → Int} {L : List α} {t : α} : mostN b (L ++ [t]) = max (mostN b L) (cntB b L (b t) + 1) := by
  apply eq_of_le_iff
  intro n
  rw [mostN_le, Nat.max_le, mostN_le]
  simp only [cntB_snoc]
  constructor
  · intro h
    refine ⟨fun u hu => ?_, ?_⟩
    · have := h u (by simp [hu]); omega
    · have := h t (by simp); simpa using this
  · rintro ⟨h1, h2⟩ u hu
    rcases List.mem_append.1 hu with hu | hu
    · by_cases e : b t = b u
      · rw [if_pos e, ← e]; exact h2
      · rw [if_neg e]; exact h1 u hu
    · simp only [List.mem_singleton] at hu
      subst hu
      rw [if_pos rfl]; exact h2
theorem mostN_perm {b : α → Int} {L M : List α} (h : L.Perm M) : mostN b L = mostN b M := by
  apply eq_of_le_iff
  intro n
  rw [mostN_le, mostN_le]
  have : ∀ x, cntB b L x = cntB b M x := fun x => h.countP_eq _
  simp only [this]
  exact ⟨fun k t ht => k t (h.mem_iff.2 ht), fun k t ht => k t (h.mem_iff.1 ht)⟩
theorem take_snoc {L : List α} {k : Nat} (d : α) (hk : k < L.length) : L.take (k + 1) = L.take k ++ [L.getD k d] := by
  rw [List.take_add_one, List.getD_eq_getElem?_getD, List.getElem?_eq_getElem hk]
  rfl
theorem mostN_take {b : α → Int} {L : List α} {k : Nat} (d : α) (hk : k < L.length) : mostN b (L.take (k + 1)) = max (mostN b (L.take k)) (cntB b (L.take k) (b (L.getD k d)) + 1) := by
  rw [take_snoc d hk, mostN_snoc]
theorem cntB_take {b : α → Int} {L : List α} {k : Nat} (d : α) (hk : k < L.length) {x : Int} : cntB b (L.take (k + 1)) x = cntB b (L.take k) x + if b (L.getD k d) = x then 1 else 0 := by
  rw [take_snoc d hk, cntB_snoc]
/-- what is counted with the entry of a key set to one more -/
theorem cntB_upd {b : α → Int} {L : List α} {k : Nat} (d : α) (hk : k < L.length) : (fun x => ((cntB b (L.take (k + 1)) x : Nat) : Int)) = fun x => if x = b (L.getD k d) then ((cntB b (L.take k) (b (L.getD k d)) : Nat) : Int) + 1 else (cntB b (L.take k) x : Nat) := by
  funext x
  rw [cntB_take d hk]
  by_cases e : x = b (L.getD k d)
  · rw [if_pos e, if_pos e.symm, e]; rfl
  · rw [if_neg e, if_neg (Ne.symm e)]; rfl
/-- the first of the least -/
def askN (f : Nat → Nat) : Nat → Nat × Nat
  | 0 => (0, f 0)
  | v + 1 => if f (v + 1) < (askN f v).2 then (v + 1, f (v + 1)) else askN f v
theorem askN_le {f : Nat → Nat} : ∀ v, (askN f v).1 ≤ v ∧ f (askN f v).1 = (askN f v).2 ∧ (∀ i, i ≤ v → (askN f v).2 ≤ f i) ∧ ∀ i, i < (askN f v).1 → (askN f v).2 < f i
  | 0 => ⟨Nat.le_refl _, rfl, fun i hi => by have : i = 0 := by omega
                                             subst this; exact Nat.le_refl _, fun i hi => by simp [askN] at hi⟩
  | v + 1 => by
    obtain ⟨h1, h2, h3, h4⟩ := askN_le (f := f) v
    simp only [askN]
    by_cases c : f (v + 1) < (askN f v).2
    · rw [if_pos c]
      refine ⟨Nat.le_refl _, rfl, fun i hi => ?_, fun i hi => ?_⟩
      · by_cases e : i = v + 1
        · subst e; exact Nat.le_refl _
        · have := h3 i (by omega); show f (v + 1) ≤ f i; omega
      · have := h3 i (by simp only at hi; omega); show f (v + 1) < f i; omega
    · rw [if_neg c]
      refine ⟨by omega, h2, fun i hi => ?_, h4⟩
      by_cases e : i = v + 1
      · subst e; omega
      · exact h3 i (by omega)
end
/-! the truths, in both orders -/
theorem perm_of_sub {α : Type} : ∀ (l m : List α), l.Nodup → (∀ x, x ∈ l → x ∈ m) → m.length ≤ l.length → l.Perm m := by
  classical
  intro l
  induction l with
  | nil =>
    intro m _ _ h
    have : m = [] := List.eq_nil_of_length_eq_zero (by simpa using h)
    subst this
    exact List.Perm.refl _
  | cons a l ih =>
    intro m hn hs hl
    have ha : a ∈ m := hs a (by simp)
    rw [List.nodup_cons] at hn
    have hp := List.perm_cons_erase ha
    refine (List.Perm.cons a (ih (m.erase a) hn.2 (fun x hx => ?_) ?_)).trans hp.symm
    · have : x ≠ a := fun e => hn.1 (e ▸ hx)
      exact (List.mem_erase_of_ne this).2 (hs x (by simp [hx]))
    · have := hp.length_eq
      simp only [List.length_cons] at this hl
      omega
theorem enumB_nodup {lo hi : Nat → Int} : ∀ (d i : Nat) (c : Nat → Int), (enumB lo hi d i c).Nodup
  | 0, i, c => by simp [enumB]
  | d + 1, i, c => by
    simp only [enumB]
    unfold List.Nodup
    rw [List.pairwise_flatMap]
    refine ⟨fun k _ => enumB_nodup d (i + 1) _, ?_⟩
    refine List.Pairwise.imp ?_ (List.nodup_range (n := (hi i - lo i + 1).toNat))
    intro a b hab x hx y hy e
    subst e
    have h1 := ((enumB_ok d (i + 1) _ x).1 hx).2 i (by omega)
    have h2 := ((enumB_ok d (i + 1) _ x).1 hy).2 i (by omega)
    simp only [if_true] at h1 h2
    omega
theorem all_perm {Y : MY} (hf : faultN Y = 0) : (enumB Y.lo Y.hi Y.nf 0 fun _ => 0).Perm ((List.range (manyN Y.lo Y.hi Y.nf).toNat).map (nthB Y.lo Y.hi Y.nf)) := by
  refine perm_of_sub _ _ (enumB_nodup _ _ _) (fun x hx => ?_) ?_
  · obtain ⟨i, h1, h2⟩ := (all_mem hf).1 hx
    exact List.mem_map.2 ⟨i, List.mem_range.2 h1, h2⟩
  · obtain ⟨hG, hsz⟩ := fault_size hf
    have hF : ∀ k, k < Y.nf → 0 ≤ Y.lo k ∧ Y.lo k ≤ Y.hi k ∧ Y.hi k ≤ 20 := hG.f
    have hmany := sizeN_many hG.sz.1 hF Y.nf (Nat.le_refl _)
    have hprod := sizeN_prod (lo := Y.lo) (hi := Y.hi) Y.nf 0
    simp only [Nat.zero_add, sizeN, Int.one_mul] at hprod
    have he := enumB_len (lo := Y.lo) (hi := Y.hi) Y.nf 0 (fun _ => 0) fun k _ hk => (hF k (by omega)).2.1
    rw [List.length_map, List.length_range]
    omega
theorem truths_perm {Y : MY} (hf : faultN Y = 0) : (truths Y).Perm (refTruths Y) := by
  unfold truths refTruths refTruthsTo
  exact (all_perm hf).filter _
end Go.Vm.Vat

namespace Go.Vm
variable {P : Program} {N : Nat} {f : Fr} {h : AHeap} {ty t u e : TypeId} {x y : Operand}
/-! ### Maps from two integers to an integer -/
def keyV (p : Int × Int) : Value := .agg ⟨[.int .i64 p.1, .int .i64 p.2]⟩
def entE (x : (Int × Int) × Int × Nat) : MapEntry := ⟨keyV x.1, .int .i64 x.2.1, x.2.2⟩
/-- a struct of two integers -/
structure Two (P : Program) (t : TypeId) : Prop where
  ex : ∃ f0 f1 : Field, P.underlying t = some (.struct #[f0, f1]) ∧ f0.name ≠ "_" ∧ f1.name ≠ "_" ∧ f0.offset = 0 ∧ f1.offset = 1 ∧ P.underlying f0.type = some (.int .i64) ∧ P.underlying f1.type = some (.int .i64)
  held : P.stoodInHeld t = false
theorem pr_checkInt {d : Nat} {b : Bool} {a : Int} (he : P.underlying e = some (.int .i64)) : pureRun P (Instr.checkKey b (d + 1) e (.int .i64 a)) = some () := by
  simp [Instr.checkKey, pureRun_bind, pr_under he, pr_pure]
theorem pr_checkTwo {d : Nat} {b : Bool} {p : Int × Int} (ht : Two P t) : pureRun P (Instr.checkKey b (d + 2) t (keyV p)) = some () := by
  obtain ⟨⟨f0, f1, h0, n0, n1, o0, o1, e0, e1⟩, _⟩ := ht
  have x0 : pureRun P (part f0.type ⟨[.int .i64 p.1, .int .i64 p.2]⟩ f0.offset) = some (.int .i64 p.1) := pr_part e0 (by rw [o0]; rfl)
  have x1 : pureRun P (part f1.type ⟨[.int .i64 p.1, .int .i64 p.2]⟩ f1.offset) = some (.int .i64 p.2) := pr_part e1 (by rw [o1]; rfl)
  unfold keyV
  rw [Instr.checkKey]
  simp only [pureRun_bind, pr_under h0, Option.bind_some]
  rw [← Array.forIn_toList]
  simp only [List.forIn_cons, List.forIn_nil, pureRun_bind, n0, n1, ne_eq, not_false_eq_true, if_true, x0, x1, pr_checkInt e0, pr_checkInt e1, Option.bind_some, pr_pure]
/-- a map lies there, with these entries -/
structure MapR (h : AHeap) (r : Nat) (l : List ((Int × Int) × Int × Nat)) (c : Nat) : Prop where
  get : h.get r = some (.map ⟨l.map entE⟩ c)
end Go.Vm

namespace Go.Vm
set_option linter.unusedSimpArgs false
set_option linter.unusedVariables false
variable {P : Program} {N : Nat} {f : Fr} {h : AHeap} {ty t u e : TypeId} {x y : Operand}
/-! ### Maps whose keys are structs of integers, to an integer: as functions -/
section
variable {α : Type} [DecidableEq α]
def entK (kv : α → Value) (x : α × Int × Nat) : MapEntry := ⟨kv x.1, .int .i64 x.2.1, x.2.2⟩
def findK (p : α) : List (α × Int × Nat) → Nat → Option (Nat × Value)
  | [], _ => none
  | x :: l, i => if p = x.1 then some (i, .int .i64 x.2.1) else findK p l (i + 1)
def valK (p : α) : List (α × Int × Nat) → Int
  | [] => 0
  | x :: l => if p = x.1 then x.2.1 else valK p l
/-- keys of a type -/
structure KeyOk (P : Program) (t : TypeId) (kv : α → Value) : Prop where
  find : ∀ (p : α) (b : Bool) (l : List (α × Int × Nat)), findA P b t (kv p) ⟨l.map (entK kv)⟩ = some (findK p l 0)
  plain : ∀ p, plainV (kv p) = true
  same : ∀ p, Instr.sameBits 10000 (kv p) (kv p) = true
theorem find_of {kv : α → Value} (hc : ∀ (b : Bool) (p : α), pureRun P (Instr.checkKey b 10000 t (kv p)) = some ()) (he : ∀ p q, pureRun P (Op.equal t (kv p) (kv q)) = some (decide (p = q)))
    {fs : Array Field} (hu : P.underlying t = some (.struct fs)) (p : α) (b : Bool) (l : List (α × Int × Nat)) : findA P b t (kv p) ⟨l.map (entK kv)⟩ = some (findK p l 0) := by
  unfold findA
  rw [pureRun_bind, hc]
  show pureRun P (Instr.findKey t (kv p) (l.map (entK kv))) = _
  have ha : ∀ (l : List (α × Int × Nat)) (i : Nat), pureRun P (Instr.findAsking t (kv p) (l.map (entK kv)) i) = some (findK p l i) := by
    intro l
    induction l with
    | nil => intro i; simp [Instr.findAsking, findK, pr_pure]
    | cons x l ih =>
      intro i
      rw [List.map_cons, Instr.findAsking, pureRun_bind]
      show Option.bind (pureRun P (Op.equal t (kv p) (kv x.1))) _ = _
      rw [he, Option.bind_some]
      by_cases c : p = x.1
      · rw [decide_eq_true c]
        simp only [if_true, pr_pure, findK, c, entK]
      · rw [decide_eq_false c]
        simp only [Bool.false_eq_true, if_false, findK, c]
        exact ih (i + 1)
  have ha := ha l 0
  unfold Instr.findKey
  rw [pureRun_bind, pr_under hu, Option.bind_some]
  cases l with
  | nil => simp [Instr.findNow, findK, pr_pure]
  | cons x l =>
    have : Instr.findNow (.struct fs) (kv p) ((x :: l).map (entK kv)) 0 = none := by simp [Instr.findNow, Instr.sameNow]
    rw [this]
    exact ha
theorem findK_none {p : α} : ∀ (l : List (α × Int × Nat)) (i : Nat), findK p l i = none → p ∉ l.map (·.1)
  | [], _, _ => by simp
  | x :: l, i, h => by
    simp only [findK] at h
    by_cases c : p = x.1
    · rw [if_pos c] at h; cases h
    · rw [if_neg c] at h
      have := findK_none l (i + 1) h
      simp only [List.map_cons, List.mem_cons, not_or]
      exact ⟨c, this⟩
theorem findK_some {p : α} : ∀ (l : List (α × Int × Nat)) (i j : Nat) (v : Value), findK p l i = some (j, v) → ∃ c, i ≤ j ∧ l[j - i]? = some (p, valK p l, c) ∧ v = .int .i64 (valK p l)
  | [], _, _, _, h => by cases h
  | x :: l, i, j, v, h => by
    simp only [findK] at h
    by_cases c : p = x.1
    · rw [if_pos c] at h
      cases h
      refine ⟨x.2.2, Nat.le_refl _, ?_, ?_⟩
      · rw [Nat.sub_self, List.getElem?_cons_zero]
        simp [valK, c]
      · simp [valK, c]
    · rw [if_neg c] at h
      obtain ⟨b, h1, h2, h3⟩ := findK_some l (i + 1) j v h
      refine ⟨b, by omega, ?_, ?_⟩
      · have : j - i = (j - (i + 1)) + 1 := by omega
        rw [this, List.getElem?_cons_succ, h2]
        simp [valK, c]
      · rw [h3]; simp [valK, c]
theorem valK_none {p : α} : ∀ (l : List (α × Int × Nat)), p ∉ l.map (·.1) → valK p l = 0
  | [], _ => rfl
  | x :: l, h => by
    simp only [List.map_cons, List.mem_cons, not_or] at h
    simp only [valK, if_neg h.1]
    exact valK_none l h.2
theorem valK_app {p q : α} {v : Int} {c : Nat} : ∀ (l : List (α × Int × Nat)), q ∉ l.map (·.1) → valK p (l ++ [(q, v, c)]) = if p = q then v else valK p l
  | [], _ => by simp [valK]
  | x :: l, h => by
    simp only [List.map_cons, List.mem_cons, not_or] at h
    rw [List.cons_append]
    simp only [valK]
    by_cases e : p = x.1
    · have : p ≠ q := fun e' => h.1 (e' ▸ e)
      rw [if_pos e, if_pos e, if_neg this]
    · rw [if_neg e, if_neg e, valK_app l h.2]
theorem valK_set {p q : α} {v : Int} : ∀ (l : List (α × Int × Nat)) (i : Nat) (w : Int) (c : Nat), (l.map (·.1)).Nodup → l[i]? = some (q, w, c) → valK p (l.set i (q, v, c)) = if p = q then v else valK p l
  | [], _, _, _, _, h => by simp at h
  | x :: l, 0, w, c, hn, h => by
    rw [List.getElem?_cons_zero] at h
    cases h
    simp only [List.set_cons_zero, valK]
    by_cases e : p = q
    · rw [if_pos e, if_pos e]
    · rw [if_neg e, if_neg e, if_neg e]
  | x :: l, i + 1, w, c, hn, h => by
    rw [List.getElem?_cons_succ] at h
    rw [List.map_cons, List.nodup_cons] at hn
    simp only [List.set_cons_succ, valK]
    have hq : q ∈ l.map (·.1) := List.mem_map.2 ⟨_, List.mem_of_getElem? h, rfl⟩
    by_cases e : p = x.1
    · have : p ≠ q := fun e' => hn.1 (by rw [← e, e']; exact hq)
      rw [if_pos e, if_pos e, if_neg this]
    · rw [if_neg e, if_neg e, valK_set l i w c hn.2 h]
/-- the entries of a map, which says m -/
structure Ents (l : List (α × Int × Nat)) (c : Nat) (m : α → Int) : Prop where
  val : ∀ p, valK p l = m p
  keys : (l.map (·.1)).Nodup
  borns : (l.map (·.2.2)).Nodup
  below : ∀ x, x ∈ l → x.2.2 < c
def MapF (h : AHeap) (r : Nat) (kv : α → Value) (m : α → Int) : Prop := ∃ (l : List (α × Int × Nat)) (c : Nat), h.get r = some (.map ⟨l.map (entK kv)⟩ c) ∧ Ents l c m
/-- .. and the entry of a key has this number -/
def MapS (h : AHeap) (r : Nat) (kv : α → Value) (m : α → Int) (p : α) (b : Nat) : Prop := ∃ (l : List (α × Int × Nat)) (c i : Nat), h.get r = some (.map ⟨l.map (entK kv)⟩ c) ∧ Ents l c m ∧ l[i]? = some (p, m p, b)
variable {kv : α → Value} {m : α → Int} {r b : Nat} {p : α}
theorem MapS.map (hm : MapS h r kv m p b) : MapF h r kv m := by
  obtain ⟨l, c, i, h1, h2, _⟩ := hm
  exact ⟨l, c, h1, h2⟩
/-- what a map's turning leaves -/
structure Turned (h g : AHeap) (r : Nat) : Prop where
  old : ∀ i, i ≠ r → g.get i = h.get i
  next : g.next = h.next
  floor : g.floor = h.floor
theorem Turned.sub {h1 : AHeap} (ht : Turned h h1 r) (hm : MapF h r kv m) : Sub All h h1 := by
  intro i cs rw' gr _ hi
  by_cases e : i = r
  · subst e
    obtain ⟨l, c, h2, _⟩ := hm
    rw [h2] at hi; cases hi
  · rw [ht.old i e]; exact hi
theorem MapF.keep {h g : AHeap} (hm : MapF h r kv m) (hg : g.get r = h.get r) : MapF g r kv m := by
  obtain ⟨l, c, h2, h3⟩ := hm
  exact ⟨l, c, by rw [hg]; exact h2, h3⟩
theorem MapF.shut (hm : MapF h r kv m) : MapF h.shutAll r kv m := hm.keep rfl
theorem MapF.lt (hm : MapF h r kv m) : r < h.next := by
  obtain ⟨l, c, h2, h3⟩ := hm
  exact AHeap.lt_of_get h2
theorem lookupF (hk : KeyOk P t kv) (hm : MapF h r kv m) (p : α) : lookupA P t (.int .i64 0) false h (.map (some r)) (kv p) = some (.int .i64 (m p), h) := by
  obtain ⟨l, c, hg, he⟩ := hm
  have hz : plainV (.int .i64 0) = true := rfl
  unfold lookupA amap
  simp only [hg, hk.plain, hz, Bool.and_self, cond_true, hk.find, ← he.val p]
  cases hf : findK p l 0 with
  | none =>
    have := valK_none l (findK_none l 0 hf)
    simp only [cond_false, this]
  | some q =>
    obtain ⟨i, v⟩ := q
    obtain ⟨_, _, _, rfl⟩ := findK_some l 0 i v hf
    have : plainV (.int .i64 (valK p l)) = true := rfl
    simp only [this, cond_true, cond_false]
theorem setMap_run {es : Array MapEntry} {c : Nat} {v : Value} (hr : r < h.next) (hf : h.next ≤ far) : ∃ g, setMap h r es c v = some (v, g) ∧ g.get r = some (.map es c) ∧ Turned h g r := by
  refine ⟨h.with r (some (.map es c)), ?_, ?_, ?_, rfl, rfl⟩
  · unfold setMap; rw [AHeap.put_eq]
  · rw [AHeap.get_with hr hf, if_pos rfl]
  · intro i hi
    rw [AHeap.get_with hr hf, if_neg (Ne.symm hi)]
theorem entryF (hk : KeyOk P t kv) (hm : MapF h r kv m) (hfl : h.floor ≤ r) (hf : h.next ≤ far) (p : α) :
    ∃ (b : Nat) (g : AHeap), mapEntryA P t (.int .i64 0) h (.map (some r)) (kv p) = some (.tuple #[.int .i64 (m p), goInt b], g) ∧ MapS g r kv m p b ∧ Turned h g r := by
  have hlt := hm.lt
  obtain ⟨l, c, hg, he⟩ := hm
  have hz : plainV (.int .i64 0) = true := rfl
  unfold mapEntryA amap
  simp only [hg, hk.plain, hz, Bool.and_self, cond_true, hk.find, ble_iff.2 hfl]
  cases hfd : findK p l 0 with
  | none =>
    have hp := findK_none l 0 hfd
    have hv := valK_none l hp
    obtain ⟨g, e, hg', ht⟩ := setMap_run (h := h) (es := (⟨l.map (entK kv)⟩ : Array MapEntry).push { key := kv p, val := .int .i64 0, born := c }) (c := c + 1) (v := .tuple #[.int .i64 0, goInt c]) hlt hf
    refine ⟨c, g, ?_, ?_, ht⟩
    · rw [← he.val p, hv]
      exact e
    · refine ⟨l ++ [(p, 0, c)], c + 1, l.length, ?_, ⟨?_, ?_, ?_, ?_⟩, ?_⟩
      · rw [hg', List.push_toArray, List.map_append]; rfl
      · intro q
        rw [valK_app l hp, he.val]
        by_cases e : q = p
        · rw [if_pos e, e, ← he.val p, hv]
        · rw [if_neg e]
      · rw [List.map_append, List.nodup_append]
        refine ⟨he.keys, by simp, ?_⟩
        intro a ha b hb e
        simp only [List.map_cons, List.map_nil, List.mem_singleton] at hb
        exact hp (by rw [← hb, ← e]; exact ha)
      · rw [List.map_append, List.nodup_append]
        refine ⟨he.borns, by simp, ?_⟩
        intro a ha b hb e
        simp only [List.map_cons, List.map_nil, List.mem_singleton] at hb
        obtain ⟨x, hx, rfl⟩ := List.mem_map.1 ha
        have := he.below x hx
        omega
      · intro x hx
        rcases List.mem_append.1 hx with hx | hx
        · have := he.below x hx; omega
        · simp only [List.mem_singleton] at hx
          subst hx; exact Nat.lt_succ_self _
      · rw [List.getElem?_append_right (Nat.le_refl _), Nat.sub_self, List.getElem?_cons_zero, ← he.val p, hv]
  | some q =>
    obtain ⟨i, v⟩ := q
    obtain ⟨b, _, hi, rfl⟩ := findK_some l 0 i v hfd
    rw [Nat.sub_zero] at hi
    have hi2 : (⟨l.map (entK kv)⟩ : Array MapEntry)[i]? = some (entK kv (p, valK p l, b)) := by
      rw [List.getElem?_toArray, List.getElem?_map, hi]; rfl
    have hpv : plainV (.int .i64 (valK p l)) = true := rfl
    obtain ⟨g, e, hg', ht⟩ := setMap_run (h := h) (es := (⟨l.map (entK kv)⟩ : Array MapEntry).modify i fun e => { e with key := kv p }) (c := c) (v := .tuple #[.int .i64 (valK p l), goInt b]) hlt hf
    refine ⟨b, g, ?_, ?_, ht⟩
    · simp only [hi2, Option.map_some, Option.getD_some, entK, hk.same, hpv, Bool.and_self, cond_true]
      rw [← he.val p]
      exact e
    · refine ⟨l, c, i, ?_, he, by rw [hi, he.val p]⟩
      rw [hg']
      congr 2
      apply Array.ext'
      rw [Array.toList_modify]
      apply List.ext_getElem?
      intro k
      rw [List.getElem?_modify]
      by_cases e : i = k
      · subst e
        have hi3 : (l.map (entK kv))[i]? = some (entK kv (p, valK p l, b)) := by rw [List.getElem?_map, hi]; rfl
        show Option.map _ ((l.map (entK kv))[i]?) = (l.map (entK kv))[i]?
        rw [hi3]; simp [entK]
      · simp [e]
theorem entryStoreF {b : Nat} (hm : MapS h r kv m p b) (hfl : h.floor ≤ r) (hf : h.next ≤ far) (v : Int) :
    ∃ g, entryStoreA h (.map (some r)) (goInt b) (.int .i64 v) = some (undef, g) ∧ MapF g r kv (fun q => if q = p then v else m q) ∧ Turned h g r := by
  have hlt := hm.map.lt
  obtain ⟨l, c, i, hg, he, hi⟩ := hm
  have hpv : plainV (.int .i64 v) = true := rfl
  have hil : i < l.length := by
    rcases Nat.lt_or_ge i l.length with h1 | h1
    · exact h1
    · rw [List.getElem?_eq_none h1] at hi; cases hi
  have hfi : (⟨l.map (entK kv)⟩ : Array MapEntry).findIdx? (fun e => (e.born : Int) == (b : Int)) = some i := by
    rw [Array.findIdx?_eq_some_iff_getElem]
    have hi' : l[i] = (p, m p, b) := by
      have := List.getElem?_eq_getElem hil
      rw [this] at hi; exact Option.some.inj hi
    refine ⟨by simpa using hil, ?_, ?_⟩
    · simp [entK, hi']
    · intro j hj
      have hjl : j < l.length := by omega
      simp only [List.getElem_toArray, List.getElem_map, entK, beq_iff_eq, Int.natCast_inj, Bool.not_eq_true]
      have hne := List.pairwise_iff_getElem.1 he.borns j i (by simpa using hjl) (by simpa using hil) hj
      simp only [List.getElem_map, hi'] at hne
      simpa using hne
  unfold entryStoreA amap goInt
  simp only [hg, hpv, ble_iff.2 hfl, Bool.and_self, cond_true, hfi]
  obtain ⟨g, e, hg', ht⟩ := setMap_run (h := h) (es := (⟨l.map (entK kv)⟩ : Array MapEntry).modify i fun e => { e with val := .int .i64 v }) (c := c) (v := undef) hlt hf
  refine ⟨g, e, ⟨l.set i (p, v, b), c, ?_, ?_, ?_, ?_, ?_⟩, ht⟩
  · rw [hg']
    congr 2
    apply Array.ext'
    rw [Array.toList_modify]
    apply List.ext_getElem?
    intro k
    show _ = (List.map (entK kv) (l.set i (p, v, b)))[k]?
    rw [List.getElem?_modify, List.getElem?_map, List.getElem?_map, List.getElem?_set]
    by_cases e : i = k
    · subst e
      rw [if_pos rfl, if_pos hil, hi]
      simp [entK]
    · simp [e]
  · intro q
    rw [valK_set l i _ b he.keys hi, he.val]
  · rw [List.map_set]
    have : (l.map (·.1)).set i p = l.map (·.1) := by
      apply List.ext_getElem?
      intro k
      rw [List.getElem?_set]
      by_cases e : i = k
      · subst e; rw [if_pos rfl, List.length_map, if_pos hil, List.getElem?_map, hi]; rfl
      · simp [e]
    rw [this]; exact he.keys
  · rw [List.map_set]
    have : (l.map (·.2.2)).set i b = l.map (·.2.2) := by
      apply List.ext_getElem?
      intro k
      rw [List.getElem?_set]
      by_cases e : i = k
      · subst e; rw [if_pos rfl, List.length_map, if_pos hil, List.getElem?_map, hi]; rfl
      · simp [e]
    rw [this]; exact he.borns
  · intro x hx
    rcases List.mem_or_eq_of_mem_set hx with hx | rfl
    · exact he.below x hx
    · exact he.below (p, m p, b) (List.mem_of_getElem? hi)
theorem mkmapF (hf : h.next < far) (kv : α → Value) : ∃ g, (h.push (some (.map #[] 0)) fun i h => some (Value.map (some i), h)) = some (.map (some h.next), g) ∧ MapF g h.next kv (fun _ => 0) ∧ (∀ i, i < h.next → g.get i = h.get i) ∧ g.next = h.next + 1 ∧ g.floor = h.floor := by
  refine ⟨h.more (some (.map #[] 0)), by rw [push_run hf], ⟨[], 0, ?_, ?_⟩, ?_, rfl, rfl⟩
  · rw [AHeap.get_more hf]; simp
  · exact ⟨fun _ => rfl, by simp, by simp, fun x hx => by simp at hx⟩
  · intro i hi
    rw [AHeap.get_more hf, if_neg (by omega)]
end
/-! keys of two, and of three integers -/
def key2 (p : Int × Int) : Value := .agg ⟨[.int .i64 p.1, .int .i64 p.2]⟩
theorem keyOk2 (ht : Two P t) : KeyOk P t key2 := by
  have hc : ∀ (b : Bool) (p : Int × Int), pureRun P (Instr.checkKey b 10000 t (key2 p)) = some () := fun b p => pr_checkTwo ht
  obtain ⟨⟨f0, f1, h0, n0, n1, o0, o1, e0, e1⟩, hp⟩ := ht
  refine ⟨find_of hc (fun p q => ?_) h0, fun _ => rfl, fun p => ?_⟩
  · have : pureRun P (Op.equal t (key2 p) (key2 q)) = some (decide (p.1 = q.1 ∧ p.2 = q.2)) := by
      unfold key2
      simp only [Op.equal, Op.maxDepth]
      exact pr_eqTwo h0 hp n0 n1 o0 o1 e0 e1
    rw [this]
    congr 1
    apply decide_eq_decide.2
    exact ⟨fun ⟨a, b⟩ => Prod.ext a b, fun h => by rw [h]; exact ⟨rfl, rfl⟩⟩
  · simp [key2, Instr.sameBits]
end Go.Vm

namespace Go.Vm.Vat
open Go.Proofs
set_option linter.unusedSimpArgs false
set_option linter.unusedVariables false
set_option maxRecDepth 10000
variable {n : Nat} {h : AHeap}
/-! ### What a sample leaves: counted in a map -/
def blY (Y : MY) (v : Nat) (t : Nat → Int) : Int := blueN t (Y.q v) Y.nf
/-- counted in the first k truths, for the first j vats in one more -/
def cntM (Y : MY) (L : List (Nat → Int)) (k j : Nat) (p : Int × Int) : Int :=
  if 0 ≤ p.1 ∧ p.1 < (Y.nv : Int) then ((cntB (blY Y p.1.toNat) (L.take (if p.1 < (j : Int) then k + 1 else k)) p.2 : Nat) : Int) else 0
def lefM (Y : MY) (L : List (Nat → Int)) (k j v : Nat) : Int := ((mostN (blY Y v) (L.take (if v < j then k + 1 else k)) : Nat) : Int)
theorem cntM_here {Y : MY} {L : List (Nat → Int)} {k j : Nat} (hj : j < Y.nv) {x : Int} : cntM Y L k j ((j : Int), x) = ((cntB (blY Y j) (L.take k) x : Nat) : Int) := by
  simp only [cntM]
  rw [if_pos (by omega), if_neg (by omega), Int.toNat_natCast]
theorem cntM_step {Y : MY} {L : List (Nat → Int)} {k j : Nat} (hk : k < L.length) (hj : j < Y.nv) :
    (fun q => if q = ((j : Int), blY Y j (L.getD k fun _ => 0)) then cntM Y L k j ((j : Int), blY Y j (L.getD k fun _ => 0)) + 1 else cntM Y L k j q) = cntM Y L k (j + 1) := by
  funext q
  obtain ⟨v, x⟩ := q
  rw [cntM_here hj]
  by_cases hv : v = (j : Int)
  · subst hv
    have hc := congrFun (cntB_upd (b := blY Y j) (fun _ => (0 : Int)) hk) x
    simp only [Prod.mk.injEq, true_and] at *
    by_cases e : x = blY Y j (L.getD k fun _ => 0)
    · rw [if_pos e] at hc ⊢
      simp only [cntM]
      rw [if_pos (by omega), if_pos (by omega), Int.toNat_natCast]
      exact hc.symm
    · rw [if_neg e] at hc ⊢
      rw [cntM_here hj]
      simp only [cntM]
      rw [if_pos (by omega), if_pos (by omega), Int.toNat_natCast]
      exact hc.symm
  · rw [if_neg (fun e => hv (Prod.mk.inj e).1)]
    simp only [cntM]
    by_cases hb : 0 ≤ v ∧ v < (Y.nv : Int)
    · rw [if_pos hb, if_pos hb]
      by_cases c : v < (j : Int)
      · rw [if_pos c, if_pos (by omega)]
      · rw [if_neg c, if_neg (by omega)]
    · rw [if_neg hb, if_neg hb]
theorem cntM_end {Y : MY} {L : List (Nat → Int)} {k : Nat} : cntM Y L k Y.nv = cntM Y L (k + 1) 0 := by
  funext q
  simp only [cntM]
  by_cases hb : 0 ≤ q.1 ∧ q.1 < (Y.nv : Int)
  · rw [if_pos hb, if_pos hb, if_pos hb.2, if_neg (by omega)]
  · rw [if_neg hb, if_neg hb]
theorem cntM_zero {Y : MY} {L : List (Nat → Int)} : cntM Y L 0 0 = fun _ => 0 := by
  funext q
  simp only [cntM]
  by_cases hb : 0 ≤ q.1 ∧ q.1 < (Y.nv : Int)
  · rw [if_pos hb, if_neg (by omega), List.take_zero]; rfl
  · rw [if_neg hb]
theorem cntM_le {Y : MY} {L : List (Nat → Int)} {k j : Nat} {p : Int × Int} : 0 ≤ cntM Y L k j p ∧ cntM Y L k j p ≤ L.length := by
  simp only [cntM]
  by_cases hb : 0 ≤ p.1 ∧ p.1 < (Y.nv : Int)
  · rw [if_pos hb]
    have h1 := cntB_le (b := blY Y p.1.toNat) (L := L.take (if p.1 < (j : Int) then k + 1 else k)) (x := p.2)
    have h2 : (L.take (if p.1 < (j : Int) then k + 1 else k)).length ≤ L.length := by rw [List.length_take]; omega
    omega
  · rw [if_neg hb]; omega
theorem lefM_step {Y : MY} {L : List (Nat → Int)} {k j : Nat} (hk : k < L.length) (hj : j < Y.nv) :
    max (lefM Y L k j j) (cntM Y L k (j + 1) ((j : Int), blY Y j (L.getD k fun _ => 0))) = lefM Y L k (j + 1) j := by
  have h1 := mostN_take (b := blY Y j) (fun _ => (0 : Int)) hk
  have h2 := cntB_take (b := blY Y j) (fun _ => (0 : Int)) hk (x := blY Y j (L.getD k fun _ => 0))
  simp only [lefM, cntM]
  rw [if_neg (by omega), if_pos (by omega), if_pos (by omega), if_pos (by omega), Int.toNat_natCast]
  simp only [if_true] at h2
  omega
theorem lefM_other {Y : MY} {L : List (Nat → Int)} {k j v : Nat} (hv : v ≠ j) : lefM Y L k (j + 1) v = lefM Y L k j v := by
  simp only [lefM]
  by_cases c : v < j
  · rw [if_pos c, if_pos (by omega)]
  · rw [if_neg c, if_neg (by omega)]
theorem lefM_end {Y : MY} {L : List (Nat → Int)} {k v : Nat} (hv : v < Y.nv) : lefM Y L k Y.nv v = lefM Y L (k + 1) 0 v := by
  simp only [lefM]
  rw [if_pos hv, if_neg (by omega)]
def lefRow (Y : MY) (L : List (Nat → Int)) (k j : Nat) : List Value := (List.range Y.nv).map fun v => .int .i64 (lefM Y L k j v)
theorem lefRow_one {Y : MY} {L : List (Nat → Int)} {k j : Nat} : allB oneCell (lefRow Y L k j) = true := by rw [allB_iff]; intro v hv; obtain ⟨i, _, rfl⟩ := List.mem_map.1 hv; rfl
theorem lefRow_end {Y : MY} {L : List (Nat → Int)} {k : Nat} : lefRow Y L k Y.nv = lefRow Y L (k + 1) 0 := by
  apply List.map_congr_left
  intro v hv
  rw [lefM_end (List.mem_range.1 hv)]
theorem lefRow_step {Y : MY} {L : List (Nat → Int)} {k j : Nat} (hj : j < Y.nv) : splice (lefRow Y L k j) (j * 1) [.int .i64 (lefM Y L k (j + 1) j)] = lefRow Y L k (j + 1) := by
  refine map_splice (by simp; omega) (fun i hi hc => ?_) (fun i hi => ?_)
  · simp only [List.length_cons, List.length_nil] at hc
    rw [lefM_other (by omega)]
  · simp only [List.length_cons, List.length_nil] at hi
    have : i = 0 := by omega
    subst this
    simp
theorem repl_one {x : Value} : ∀ m, repl [x] m = List.replicate m x
  | 0 => rfl
  | m + 1 => by rw [repl, repl_one m, List.replicate_succ]; rfl
theorem repl_lef {Y : MY} {L : List (Nat → Int)} : repl [.int .i64 0] Y.nv = lefRow Y L 0 0 := by
  rw [repl_one]
  unfold lefRow
  apply List.ext_getElem?
  intro i
  by_cases hi : i < Y.nv
  · rw [List.getElem?_replicate, if_pos hi, List.getElem?_map, List.getElem?_range hi]
    simp [lefM, mostN, mostL]
  · rw [List.getElem?_eq_none (by simp; omega), List.getElem?_eq_none (by simp; omega)]
theorem ints_row {g : AHeap} {b m cap gr : Nat} {w : Bool} {a : Nat → Int} (hg : g.get b = some (.row ((List.range m).map fun v => .int .i64 (a v)) w gr)) : Ints g (.slice (some ⟨b, 0, none⟩) m cap) m a :=
  ⟨_, _, rfl, fun x e => by cases e; rfl, .inr ⟨_, 0, _, _, _, rfl, hg, fun k j hk hj => by
    have : j = 0 := by omega
    subst this
    rw [Nat.zero_add, Nat.mul_one, Nat.add_zero, List.getElem?_map, List.getElem?_range hk]; rfl⟩⟩
theorem two157 : Two Try.prog 157 := ⟨⟨_, _, Try.underlying157, by decide, by decide, rfl, rfl, by rfl, by rfl⟩, by kernel_rfl⟩
theorem key157 : KeyOk Try.prog 157 key2 := keyOk2 two157
section
variable {P : Program} {cf : CallF} {N : Nat} {f : Fr} {x y z : Operand}
theorem x_mkmap : sem P cf N f h .mkmap = h.push (some (.map #[] 0)) fun i h => some (.map (some i), h) := id rfl
theorem x_lookup {kt : TypeId} {zv : Value} {ok : Bool} : sem P cf N f h (.lookup kt zv ok x y) = lookupA P kt zv ok h (val f x) (val f y) := id rfl
theorem x_mapEntry {kt : TypeId} {zv : Value} : sem P cf N f h (.mapEntry kt zv x y) = mapEntryA P kt zv h (val f x) (val f y) := id rfl
theorem x_entryStore : sem P cf N f h (.entryStore x y z) = entryStoreA h (val f x) (val f y) (val f z) := id rfl
theorem extract_tup {i : Nat} {l : List Value} : extractA i (.tuple ⟨l⟩) h = (match l[i]? with | some v => some (v, h) | none => none) := by
  cases hv : l[i]? with
  | none => simp [extractA, hv]
  | some v => simp [extractA, hv]
end
def s93 : SCode := (.seq (.ops [⟨(some 1), none, .box (T 0)⟩, ⟨(some 2), none, .mov (.const (.slice none 0 0))⟩]) (.seq (.ops [⟨(some 9), none, .mkmap⟩, ⟨(some 3), none, .mov (T 9)⟩]) (.seq (.ops [⟨(some 10), none, .fieldAddr 0 (T 1)⟩, ⟨(some 11), none, .fieldAddr 1 (T 10)⟩, ⟨(some 12), none, .load1 (T 11)⟩, ⟨(some 13), none, .len (T 12)⟩, ⟨(some 14), none, .mkslice 1 8 [(.int .i64 (0))] (T 13) (T 13)⟩, ⟨(some 4), none, .mov (T 14)⟩]) (.seq (.seq (.ops [⟨(some 15), none, .fieldAddr 3 (T 1)⟩, ⟨(some 16), none, .load1 (T 15)⟩, ⟨(some 17), none, .len (T 16)⟩, ⟨(some 18), none, .mov (.const (.int .i64 (0)))⟩]) (.block 0 (.loop (.seq (.ops [⟨(some 19), none, .int2 .lss (T 18) (T 17)⟩]) (.seq (.cond (T 19) .skip (.exit 0)) (.seq (.block 1 (.seq (.ops [⟨(some 20), none, .idxSl 5 (T 16) (T 18)⟩, ⟨(some 21), none, .loadN 5 (T 20)⟩, ⟨(some 6), none, .alloc [(.int .i64 (0)), (.int .i64 (0)), (.int .i64 (0)), (.int .i64 (0)), (.int .i64 (0))]⟩, ⟨none, none, .store 5 (T 6) (T 21)⟩]) (.seq (.ops [⟨(some 22), none, .fieldAddr 0 (T 1)⟩, ⟨(some 23), none, .fieldAddr 1 (T 22)⟩, ⟨(some 24), none, .load1 (T 23)⟩, ⟨(some 25), none, .len (T 24)⟩, ⟨(some 26), none, .mov (.const (.int .i64 (0)))⟩]) (.block 2 (.loop (.seq (.ops [⟨(some 27), none, .int2 .lss (T 26) (T 25)⟩]) (.seq (.cond (T 27) .skip (.exit 2)) (.seq (.block 3 (.seq (.ops [⟨(some 28), none, .mov (T 26)⟩, ⟨(some 7), none, .mov (T 28)⟩]) (.seq (.ops [⟨(some 29), none, .mov (T 7)⟩, ⟨(some 30), none, .loadN 4 (T 1)⟩, ⟨(some 31), none, .loadN 5 (T 6)⟩, ⟨(some 32), none, .mov (T 7)⟩, ⟨(some 33), none, .call (.func 77) [(T 30), (T 31), (T 32)]⟩, ⟨(some 34), none, .build #[(0, 1), (1, 1)] [(.int .i64 (0)), (.int .i64 (0))] [0, 1] [(T 29), (T 33)]⟩, ⟨(some 8), none, .alloc [(.int .i64 (0)), (.int .i64 (0))]⟩, ⟨none, none, .store 2 (T 8) (T 34)⟩]) (.seq (.draw [⟨.free, ⟨(some 35), none, .mov (T 3)⟩⟩, ⟨.rd1, ⟨(some 36), none, .loadN 2 (T 8)⟩⟩, ⟨.qc, ⟨(some 37), none, .lookup 157 (.int .i64 (0)) false (T 35) (T 36)⟩⟩, ⟨.free, ⟨(some 38), none, .int2 .add (T 37) (.const (.int .i64 (1)))⟩⟩, ⟨.up, ⟨(some 39), none, .mapEntry 157 (.int .i64 (0)) (T 35) (T 36)⟩⟩, ⟨.free, ⟨(some 40), none, .extract 1 (T 39)⟩⟩, ⟨.any, ⟨none, none, .entryStore (T 35) (T 40) (T 38)⟩⟩]) (.draw [⟨.free, ⟨(some 41), none, .mov (T 4)⟩⟩, ⟨.free, ⟨(some 42), none, .mov (T 7)⟩⟩, ⟨.free, ⟨(some 43), none, .mov (T 4)⟩⟩, ⟨.free, ⟨(some 44), none, .mov (T 7)⟩⟩, ⟨.free, ⟨(some 45), none, .idxSl 1 (T 43) (T 44)⟩⟩, ⟨.rd1, ⟨(some 46), none, .load1 (T 45)⟩⟩, ⟨.free, ⟨(some 47), none, .mov (T 3)⟩⟩, ⟨.rd1, ⟨(some 48), none, .loadN 2 (T 8)⟩⟩, ⟨.rd1, ⟨(some 49), none, .lookup 157 (.int .i64 (0)) false (T 47) (T 48)⟩⟩, ⟨.free, ⟨(some 50), none, .plain (.call { callee := .builtin .max, args := #[(T 46), (T 49)], argTypes := #[3, 3] }) 3⟩⟩, ⟨.free, ⟨(some 51), none, .idxSl 1 (T 41) (T 42)⟩⟩, ⟨.any, ⟨none, none, .store 1 (T 51) (T 50)⟩⟩]))))) (.ops [⟨(some 52), none, .int2 .add (T 26) (.const (.int .i64 (1)))⟩, ⟨(some 26), none, .mov (T 52)⟩]))))))))) (.ops [⟨(some 53), none, .int2 .add (T 18) (.const (.int .i64 (1)))⟩, ⟨(some 18), none, .mov (T 53)⟩]))))))) (.seq (.ops [⟨(some 54), none, .mov (T 4)⟩, ⟨(some 2), none, .mov (T 54)⟩]) .ret)))))
theorem fok93 : FnOk Try.prog 93 55 s93 [.tmp 2] := ⟨Try.f93, _, Try.func93, rfl, Try.ntmps93, by kernel_rfl, by kernel_rfl⟩
theorem leaves_c (hn : 10010 ≤ n) (hr : h.next + 100000 < far) (hfl : h.floor ≤ h.next) {F V S tv : Value} {Y : MY} (hy : YardR h F V S Y) (hf : faultN Y = 0) (htr : TruthsR h tv (truths Y)) :
    ∃ v h', call n (.func (.func 93) #[] #[]) [.agg ⟨[F, V, S, tv]⟩] h = some (v, h') ∧ (∃ b, v = .slice (some ⟨b, 0, none⟩) Y.nv Y.nv ∧ Ints h' v Y.nv fun v => ((mostN (blY Y v) (truths Y) : Nat) : Int)) ∧ Made h h' 50000 := by
  obtain ⟨n, rfl⟩ : ∃ p, n = p + 1 := ⟨n - 1, by omega⟩
  have hG := good_of hf
  have hlen := truths_len hf
  obtain ⟨z1, z2, z3⟩ := hG.sz
  have ho4 : allB oneCell [F, V, S, tv] = true := by have h1 := hy.one; have h2 := Cells.one htr; simp [allB] at h1 ⊢; simp [h1, h2]
  refine call_any0 fok93 rfl rfl (by simp) ?_
  simp only [s93, W_seq, W_ops]
  refine ops_box (cs := [F, V, S, tv]) (by omega) rfl ho4 fun g1 hx1 => ?_
  have n1 := hx1.next
  have f1 := hx1.floor
  obtain ⟨g2, em, hm2, ho2, n2, f2⟩ := mkmapF (h := g1) (by omega) key2
  have s2 : Sub All g1 g2 := AHeap.subOf ho2
  have r2 := hx1.row.mono s2
  obtain ⟨rr2, hrw2, hq2⟩ := (hy.mono (hx1.sub.trans s2)).v
  simp only [rn0, rn1, rn2, rn3, rn4, rn5, rn6, rn7, rn8, if_true, if_false, Nat.le_refl, true_and, and_true, decide_true, decide_false, Bool.not_true, Bool.not_false, reduceIte, Nat.reduceEqDiff, Nat.reduceAdd, Nat.reduceMul, Nat.reduceSub, Nat.reduceLeDiff, Nat.reduceLT, x_mkmap, em, r2.ld, Nat.zero_add, List.getElem?_cons_zero, List.getElem?_cons_succ, Cells.len hrw2, make_ints (m := Y.nv) (by omega), repl_lef (Y := Y) (L := truths Y)]
  refine step_slice (by omega) lefRow_one fun g3 hx3 => ?_
  have n3 := hx3.next
  have f3 := hx3.floor
  have r3 := r2.mono hx3.sub
  have hm3 : MapF g3 g1.next key2 (cntM Y (truths Y) 0 0) := by
    rw [cntM_zero]
    exact hm2.keep (hx3.old _ (by omega))
  have s3 : Sub All h g3 := hx1.sub.trans (s2.trans hx3.sub)
  have hl3 : g3.get g2.next = some (.row (lefRow Y (truths Y) 0 0) true 0) := hx3.get
  simp only [rn0, rn1, rn2, rn3, rn4, rn5, rn6, rn7, rn8, if_true, if_false, Nat.le_refl, true_and, and_true, decide_true, decide_false, Bool.not_true, Bool.not_false, reduceIte, Nat.reduceEqDiff, Nat.reduceAdd, Nat.reduceMul, Nat.reduceSub, Nat.reduceLeDiff, Nat.reduceLT, r3.ld, Nat.zero_add, List.getElem?_cons_zero, List.getElem?_cons_succ, Cells.len (Cells.mono htr s3)]
  refine W_loop (truths Y).length (fun k f g ms => (Keep g2.next g3 g ∧ MapF g g1.next key2 (cntM Y (truths Y) k 0) ∧ g.get g2.next = some (.row (lefRow Y (truths Y) k 0) true 0) ∧ g.next ≤ g3.next + 20 * k) ∧ ms = [] ∧ f 1 = .pointer (some ⟨h.next, 0, none⟩) ∧ f 3 = .map (some g1.next) ∧
    f 4 = .slice (some ⟨g2.next, 0, none⟩) Y.nv Y.nv ∧ f 16 = tv ∧ f 17 = .int .i64 ((truths Y).length : Int) ∧ f 18 = .int .i64 (k : Int)) (by simp; omega) ?_ ?_ ?_
  · simp only [rn0, rn1, rn2, rn3, rn4, rn5, rn6, rn7, rn8, if_true, if_false, Nat.le_refl, true_and, and_true, decide_true, decide_false, Bool.not_true, Bool.not_false, reduceIte, Nat.reduceEqDiff, Nat.reduceAdd, Nat.reduceMul, Nat.reduceSub, Nat.reduceLeDiff, Nat.reduceLT]
    exact ⟨⟨Keep.refl, hm3, hl3, by omega⟩, rfl⟩
  · rintro k f g ms hk ⟨⟨kg, mg, lg, ng⟩, rfl, p1, p3, p4, p16, p17, p18⟩
    have hk' : (k : Int) < ((truths Y).length : Int) := by omega
    have hw : wrapF .i64 ((k : Int) + 1) = ((k + 1 : Nat) : Int) := by rw [wrap_in (by omega) (by omega)]; rfl
    have ug := kg.up
    have fg := kg.floor
    have sg : Sub All h g := fun i cs w gr t hg => kg.sub _ _ _ _ (by have := AHeap.lt_of_get hg; omega) (s3 _ _ _ _ t hg)
    have hyg := hy.mono sg
    have htg : TruthsR g tv (truths Y) := Cells.mono htr sg
    have rg := r3.keep kg (by omega)
    have hrange := truths_range hf (truths_at hk)
    simp only [rn0, rn1, rn2, rn3, rn4, rn5, rn6, rn7, rn8, if_true, if_false, Nat.le_refl, true_and, and_true, decide_true, decide_false, Bool.not_true, Bool.not_false, reduceIte, Nat.reduceEqDiff, Nat.reduceAdd, Nat.reduceMul, Nat.reduceSub, Nat.reduceLeDiff, Nat.reduceLT, p1, p3, p4, p16, p17, p18, hk', Cells.idx htg hk, truths_ld htg hk]
    generalize ht : (truths Y).getD k (fun _ => 0) = t at hrange
    refine step_new (vs := arr t) (by omega) (by omega) rfl (by simp only [rn0, rn1, rn2, rn3, rn4, rn5, rn6, rn7, rn8, if_true, if_false, Nat.le_refl, true_and, and_true, decide_true, decide_false, Bool.not_true, Bool.not_false, reduceIte, Nat.reduceEqDiff, Nat.reduceAdd, Nat.reduceMul, Nat.reduceSub, Nat.reduceLeDiff, Nat.reduceLT]; rfl) arr_one arr_len rfl fun g4 hx4 => ?_
    have n4 := hx4.next
    have f4 := hx4.floor
    have rg4 := rg.mono hx4.sub
    obtain ⟨rr4, hrw4, hq4⟩ := (hyg.mono hx4.sub).v
    have mg4 : MapF g4 g1.next key2 (cntM Y (truths Y) k 0) := mg.keep (hx4.old _ mg.lt)
    have lg4 : g4.get g2.next = some (.row (lefRow Y (truths Y) k 0) true 0) := hx4.sub _ _ _ _ trivial lg
    simp only [rn0, rn1, rn2, rn3, rn4, rn5, rn6, rn7, rn8, if_true, if_false, Nat.le_refl, true_and, and_true, decide_true, decide_false, Bool.not_true, Bool.not_false, reduceIte, Nat.reduceEqDiff, Nat.reduceAdd, Nat.reduceMul, Nat.reduceSub, Nat.reduceLeDiff, Nat.reduceLT, p1, p3, p4, p16, p17, p18, rg4.ld, Nat.zero_add, List.getElem?_cons_zero, List.getElem?_cons_succ, Cells.len hrw4]
    refine W_loop Y.nv (fun j f g' ms => (Keep g2.next g4 g' ∧ MapF g' g1.next key2 (cntM Y (truths Y) k j) ∧ g'.get g2.next = some (.row (lefRow Y (truths Y) k j) true 0) ∧ g'.next ≤ g4.next + j) ∧ ms = [] ∧ f 1 = .pointer (some ⟨h.next, 0, none⟩) ∧ f 3 = .map (some g1.next) ∧
      f 4 = .slice (some ⟨g2.next, 0, none⟩) Y.nv Y.nv ∧ f 16 = tv ∧ f 17 = .int .i64 ((truths Y).length : Int) ∧ f 18 = .int .i64 (k : Int) ∧ f 6 = .pointer (some ⟨g.next, 0, none⟩) ∧ f 25 = .int .i64 (Y.nv : Int) ∧ f 26 = .int .i64 (j : Int)) (by simp; omega) ?_ ?_ ?_
    · simp only [rn0, rn1, rn2, rn3, rn4, rn5, rn6, rn7, rn8, if_true, if_false, Nat.le_refl, true_and, and_true, decide_true, decide_false, Bool.not_true, Bool.not_false, reduceIte, Nat.reduceEqDiff, Nat.reduceAdd, Nat.reduceMul, Nat.reduceSub, Nat.reduceLeDiff, Nat.reduceLT, p1, p3, p4, p16, p17, p18]
      exact ⟨⟨Keep.refl, mg4, lg4, by omega⟩, rfl⟩
    · rintro j f g' ms hj ⟨⟨kg', mg', lg', ng'⟩, rfl, p1, p3, p4, p16, p17, p18, p6, p25, p26⟩
      have hj' : (j : Int) < (Y.nv : Int) := by omega
      have hwj : wrapF .i64 ((j : Int) + 1) = ((j + 1 : Nat) : Int) := by rw [wrap_in (by omega) (by omega)]; rfl
      have ug' := kg'.up
      have fg' := kg'.floor
      have rg' := rg4.keep kg' (by omega)
      have rt' := hx4.row.keep kg' (by omega)
      have sg' : Sub All h g' := fun i cs w gr t hg => kg'.sub _ _ _ _ (by have := AHeap.lt_of_get hg; omega) (hx4.sub _ _ _ _ t (sg _ _ _ _ t hg))
      have hyg' := hy.mono sg'
      obtain ⟨v1, v2⟩ := hG.v j hj
      have ein : call n (.func (.func 77) #[] #[]) [.agg ⟨[F, V, S, tv]⟩, .agg ⟨arr t⟩, .int .i64 (j : Int)] g' = some (.int .i64 (blY Y j t), g') := inVat_c (n := n) (h := g') (by omega) (by omega) hyg'.v ho4 hj v1 z1 hrange fun i hi => v2 i (by omega)
      simp only [rn0, rn1, rn2, rn3, rn4, rn5, rn6, rn7, rn8, if_true, if_false, Nat.le_refl, true_and, and_true, decide_true, decide_false, Bool.not_true, Bool.not_false, reduceIte, Nat.reduceEqDiff, Nat.reduceAdd, Nat.reduceMul, Nat.reduceSub, Nat.reduceLeDiff, Nat.reduceLT, p1, p3, p4, p6, p16, p17, p18, p25, p26, hj', rg'.whole (n := 4) rfl, rt'.whole arr_len, ein, build_range]
      generalize hx : blY Y j t = x at ein
      have hcs := cntM_step (Y := Y) (L := truths Y) (k := k) (j := j) hk hj
      have hls := lefM_step (Y := Y) (L := truths Y) (k := k) (j := j) hk hj
      rw [ht, hx] at hcs hls
      refine step_new (vs := [.int .i64 (j : Int), .int .i64 x]) (by omega) (by omega) rfl (by simp only [rn0, rn1, rn2, rn3, rn4, rn5, rn6, rn7, rn8, if_true, if_false, Nat.le_refl, true_and, and_true, decide_true, decide_false, Bool.not_true, Bool.not_false, reduceIte, Nat.reduceEqDiff, Nat.reduceAdd, Nat.reduceMul, Nat.reduceSub, Nat.reduceLeDiff, Nat.reduceLT]; rfl) rfl rfl rfl fun g5 hx5 => ?_
      have n5 := hx5.next
      have f5 := hx5.floor
      have w8 := hx5.row.whole (n := 2) rfl
      have mg5 : MapF g5 g1.next key2 (cntM Y (truths Y) k j) := mg'.keep (hx5.old _ mg'.lt)
      have lg5 : g5.get g2.next = some (.row (lefRow Y (truths Y) k j) true 0) := hx5.sub _ _ _ _ trivial lg'
      obtain ⟨c1, c2⟩ := cntM_le (Y := Y) (L := truths Y) (k := k) (j := j) (p := ((j : Int), x))
      have hwc : wrapF .i64 (cntM Y (truths Y) k j ((j : Int), x) + 1) = cntM Y (truths Y) k j ((j : Int), x) + 1 := wrap_in (by omega) (by omega)
      have hself : eqV (.int .i64 (cntM Y (truths Y) k j ((j : Int), x))) (.int .i64 (cntM Y (truths Y) k j ((j : Int), x))) = true := by simp [eqV, eqCell, sameK, eqI_eq]
      refine W_drawT All (fun q => MapF q g1.next key2 (cntM Y (truths Y) k j)) mg5 ?_
      simp only [rn0, rn1, rn2, rn3, rn4, rn5, rn6, rn7, rn8, if_true, if_false, Nat.le_refl, true_and, and_true, decide_true, decide_false, Bool.not_true, Bool.not_false, reduceIte, Nat.reduceEqDiff, Nat.reduceAdd, Nat.reduceMul, Nat.reduceSub, Nat.reduceLeDiff, Nat.reduceLT, dT_free, dT_rd1, sameT_some, p1, p3, p4, p6, p16, p17, p18, p25, p26, w8]
      refine dT_qc (v := .int .i64 (cntM Y (truths Y) k j ((j : Int), x))) (fun q hs hT => ?_) hself ?_
      · rw [x_lookup]
        simp only [rn0, rn1, rn2, rn3, rn4, rn5, rn6, rn7, rn8, if_true, if_false, Nat.le_refl, true_and, and_true, decide_true, decide_false, Bool.not_true, Bool.not_false, reduceIte, Nat.reduceEqDiff, Nat.reduceAdd, Nat.reduceMul, Nat.reduceSub, Nat.reduceLeDiff, Nat.reduceLT, p1, p3, p4, p6, p16, p17, p18, p25, p26]
        exact lookupF key157 hT.shut ((j : Int), x)
      obtain ⟨b, g6, e6, hs6, ht6⟩ := entryF (h := g5) key157 mg5 (by omega) (by omega) ((j : Int), x)
      have e6 : mapEntryA Try.prog 157 (.int .i64 0) g5 (.map (some g1.next)) (.agg ⟨[.int .i64 (j : Int), .int .i64 x]⟩) = some (.tuple ⟨[.int .i64 (cntM Y (truths Y) k j ((j : Int), x)), .int .i64 (b : Int)]⟩, g6) := e6
      have n6 := ht6.next
      have f6 := ht6.floor
      obtain ⟨g7, e7, hm7, ht7⟩ := entryStoreF (h := g6) hs6 (by omega) (by omega) (cntM Y (truths Y) k j ((j : Int), x) + 1)
      rw [hcs] at hm7
      have n7 := ht7.next
      have f7 := ht7.floor
      have e7 : entryStoreA g6 (.map (some g1.next)) (.int .i64 (b : Int)) (.int .i64 (cntM Y (truths Y) k j ((j : Int), x) + 1)) = some (undef, g7) := e7
      simp only [rn0, rn1, rn2, rn3, rn4, rn5, rn6, rn7, rn8, if_true, if_false, Nat.le_refl, true_and, and_true, decide_true, decide_false, Bool.not_true, Bool.not_false, reduceIte, Nat.reduceEqDiff, Nat.reduceAdd, Nat.reduceMul, Nat.reduceSub, Nat.reduceLeDiff, Nat.reduceLT, dT_free, dT_up, dT_any, dT_nil, sameT_some, upT_some, x_mapEntry, x_entryStore, p1, p3, p4, p6, p16, p17, p18, p25, p26, hwc, e6, e7, extract_tup, List.getElem?_cons_zero, List.getElem?_cons_succ]
      refine ⟨⟨by omega, ht6.sub mg5, hs6.map⟩, by omega, ?_⟩
      have lg7 : g7.get g2.next = some (.row (lefRow Y (truths Y) k j) true 0) := by rw [ht7.old _ (by omega), ht6.old _ (by omega)]; exact lg5
      have s57 : Sub All g5 g7 := (ht6.sub mg5).trans (ht7.sub hs6.map)
      have w8' := (hx5.row.mono s57).whole (n := 2) rfl
      have el : lookupA Try.prog 157 (.int .i64 0) false g7 (.map (some g1.next)) (.agg ⟨[.int .i64 (j : Int), .int .i64 x]⟩) = some (.int .i64 (cntM Y (truths Y) k (j + 1) ((j : Int), x)), g7) := lookupF key157 hm7 ((j : Int), x)
      have hld : loadCell g7 (.pointer (some ⟨g2.next, j * 1, none⟩)) = some (.int .i64 (lefM Y (truths Y) k j j)) := by
        rw [(show Row g7 g2.next _ from ⟨_, _, lg7⟩).ld, Nat.mul_one, lefRow, List.getElem?_map, List.getElem?_range hj]; rfl
      refine W_draw All ?_
      simp only [rn0, rn1, rn2, rn3, rn4, rn5, rn6, rn7, rn8, if_true, if_false, Nat.le_refl, true_and, and_true, decide_true, decide_false, Bool.not_true, Bool.not_false, reduceIte, Nat.reduceEqDiff, Nat.reduceAdd, Nat.reduceMul, Nat.reduceSub, Nat.reduceLeDiff, Nat.reduceLT, p1, p3, p4, p6, p16, p17, p18, p25, p26, w8', idxSl_s (s := 1) hj, hld, x_lookup, el, valN_tmp, Nat.reduceLT, hls]
      refine up_store (b := g2.next) (off := j * 1) (vs := [.int .i64 (lefM Y (truths Y) k (j + 1) j)]) rfl lg7 (by omega) (by omega) rfl rfl rfl (by simp [lefRow]; omega) (fun _ _ => trivial) fun g8 hs8 => ?_
      rw [lefRow_step hj] at hs8
      have n8 := hs8.next
      have f8 := hs8.floor
      simp only [rn0, rn1, rn2, rn3, rn4, rn5, rn6, rn7, rn8, if_true, if_false, Nat.le_refl, true_and, and_true, decide_true, decide_false, Bool.not_true, Bool.not_false, reduceIte, Nat.reduceEqDiff, Nat.reduceAdd, Nat.reduceMul, Nat.reduceSub, Nat.reduceLeDiff, Nat.reduceLT, p1, p3, p4, p6, p16, p17, p18, p25, p26, hwj]
      refine ⟨kg'.trans ⟨fun i cs w gr hi hg => ?_, by omega, by omega⟩, hm7.keep (hs8.old _ (by omega)), hs8.get, by omega⟩
      rw [hs8.old i hi]
      exact s57 _ _ _ _ trivial (hx5.sub _ _ _ _ trivial hg)
    · rintro f g' ms ⟨⟨kg', mg', lg', ng'⟩, rfl, p1, p3, p4, p16, p17, p18, p6, p25, p26⟩
      have ug' := kg'.up
      have fg' := kg'.floor
      rw [cntM_end] at mg'
      rw [lefRow_end] at lg'
      simp only [rn0, rn1, rn2, rn3, rn4, rn5, rn6, rn7, rn8, if_true, if_false, Nat.le_refl, true_and, and_true, decide_true, decide_false, Bool.not_true, Bool.not_false, reduceIte, Nat.reduceEqDiff, Nat.reduceAdd, Nat.reduceMul, Nat.reduceSub, Nat.reduceLeDiff, Nat.reduceLT, p1, p3, p4, p6, p16, p17, p18, p25, p26, Int.lt_irrefl, hw]
      refine ⟨kg.trans ⟨fun i cs w gr hi hg => kg'.sub _ _ _ _ hi (hx4.sub _ _ _ _ trivial hg), by omega, by omega⟩, mg', lg', by omega⟩
  · rintro f g ms ⟨⟨kg, mg, lg, ng⟩, rfl, p1, p3, p4, p16, p17, p18⟩
    have ug := kg.up
    have fg := kg.floor
    simp only [rn0, rn1, rn2, rn3, rn4, rn5, rn6, rn7, rn8, if_true, if_false, Nat.le_refl, true_and, and_true, decide_true, decide_false, Bool.not_true, Bool.not_false, reduceIte, Nat.reduceEqDiff, Nat.reduceAdd, Nat.reduceMul, Nat.reduceSub, Nat.reduceLeDiff, Nat.reduceLT, p1, p3, p4, p16, p17, p18, Int.lt_irrefl]
    refine ⟨⟨_, rfl, ?_⟩, ⟨fun i cs w gr t hg => kg.sub _ _ _ _ (by have := AHeap.lt_of_get hg; omega) (s3 _ _ _ _ t hg), by omega, by omega, by omega⟩⟩
    have hi := ints_row (cap := Y.nv) (a := lefM Y (truths Y) (truths Y).length 0) lg
    have : lefM Y (truths Y) (truths Y).length 0 = fun v => ((mostN (blY Y v) (truths Y) : Nat) : Int) := by
      funext v
      simp only [lefM]
      rw [if_neg (by omega), List.take_length]
    rw [this] at hi
    exact hi
end Go.Vm.Vat

namespace Go.Vm.Vat
open Go.Proofs
set_option linter.unusedSimpArgs false
set_option linter.unusedVariables false
set_option maxRecDepth 10000
variable {n : Nat} {h : AHeap}
end Go.Vm.Vat

namespace Go.Vm.Vat
open Go.Proofs
set_option linter.unusedSimpArgs false
set_option linter.unusedVariables false
set_option maxRecDepth 10000
variable {n : Nat} {h : AHeap}
/-! ### The iterator over all spreads of so many bundles: each is handed to 'yield', in order -/
def arr4 (c : Nat → Int) : List Value := (List.range 4).map fun i => .int .i64 (c i)
section
variable {σ : Type}
/-- the iterator's own rows -/
structure ItS (pv py pc : Nat) (nv : Nat) (yv cv : Value) (g : AHeap) : Prop where
  v : Row g pv [.int .i64 (nv : Int)]
  y : Row g py [yv]
  c : Row g pc [cv]
theorem ItS.set {pv py pc pb gr nv : Nat} {cs : List Value} {yv cv : Value} {g g' : AHeap} (hi' : ItS pv py pc nv yv cv g) (hs : Set1 g g' pb cs gr) (h1 : pv ≠ pb) (h2 : py ≠ pb) (h3 : pc ≠ pb) : ItS pv py pc nv yv cv g' :=
  ⟨hi'.v.keep hs.keep h1, hi'.y.keep hs.keep h2, hi'.c.keep hs.keep h3⟩
end
end Go.Vm.Vat

namespace Go.Vm.Vat
open Go.Proofs
set_option linter.unusedSimpArgs false
set_option linter.unusedVariables false
set_option maxRecDepth 10000
variable {n : Nat} {h : AHeap}
/-- what lies in memory while the spreads are gone through -/
structure JS (h2 : AHeap) (p : Nat) (s : (Nat → Int) × Int) (g : AHeap) : Prop where
  old : ∀ i, i < h2.next → i ≠ p + 1 → i ≠ p + 2 → g.get i = h2.get i
  bst : g.get (p + 1) = some (.row (arr4 s.1) true 0)
  lst : g.get (p + 2) = some (.row [.int .i64 s.2] true 0)
  up : h2.next + 3 ≤ g.next
end Go.Vm.Vat

namespace Go.Vm.Vat
open Go.Proofs
set_option linter.unusedSimpArgs false
set_option linter.unusedVariables false
set_option maxRecDepth 10000
variable {n : Nat} {h : AHeap}
theorem ret_ttt {a b c : Nat} {f : Fr} : resV f h [.tmp a, .tmp b, .tmp c] = some (.tuple ⟨[f a, f b, f c]⟩) := id rfl
end Go.Vm.Vat

namespace Go.Vm.Vat
open Go.Proofs
set_option linter.unusedSimpArgs false
set_option linter.unusedVariables false
set_option maxRecDepth 10000
variable {n : Nat} {h : AHeap}
theorem tail_own {b m : Nat} (hm : 0 < m) (hm1 : m ≤ 1000) : ∃ v', sliceA 1 false h (.slice (some ⟨b, 0, none⟩) m m) (some (.int .i64 1)) none none = some (v', h) ∧
    ∀ g (a : Nat → Int), Ints g (.slice (some ⟨b, 0, none⟩) m m) m a → Ints g v' (m - 1) (fun k => a (k + 1)) := by
  have e1 : boundA 0 (some (.int .i64 1)) = some 1 := rfl
  have e2 : boundA m none = some m := rfl
  have e3 : Nat.ble 1 m = true := ble_iff.2 hm
  have e4 : Nat.ble m m = true := ble_iff.2 (Nat.le_refl _)
  have e5 : Nat.blt m unk = true := blt_iff.2 (by unfold unk; omega)
  unfold sliceA
  simp only [e1, e2, e3, e4, e5, Bool.and_self, cond_true]
  refine ⟨_, rfl, fun g a hg => ?_⟩
  by_cases h1 : m = 1
  · subst h1
    exact ⟨_, _, rfl, fun x e => by cases e; rfl, .inl rfl⟩
  · have e6 : Nat.beq m 1 = false := by
      cases hb : Nat.beq m 1 with
      | false => rfl
      | true => exact absurd (beq_iff.1 hb) h1
    obtain ⟨b', o', cap', cs, w, gr, e, h2, h3⟩ := Cells.ptr hg hm
    cases e
    rw [e6]
    refine ⟨_, _, rfl, fun x e => by cases e; rfl, .inr ⟨b, 0 + 1 * 1, cs, w, gr, rfl, h2, fun k j hk hj => ?_⟩⟩
    have := h3 (k + 1) j (by omega) hj
    rw [show 0 + 1 * 1 + k * 1 + j = 0 + (k + 1) * 1 + j by omega]
    exact this
theorem minN_ask {f : Nat → Nat} : ∀ m, minN ((f 0 : Nat) : Int) (fun i => ((f (i + 1) : Nat) : Int)) m = (((askN f m).2 : Nat) : Int)
  | 0 => rfl
  | m + 1 => by
    have ih := minN_ask (f := f) m
    simp only [minN, askN, ih]
    by_cases c : f (m + 1) < (askN f m).2
    · rw [if_pos c]; show _ = ((f (m + 1) : Nat) : Int); omega
    · rw [if_neg c]; omega
/-- what a sample of each vat leaves -/
noncomputable def leavesF (Y : MY) (v : Nat) : Nat := mostN (blY Y v) (truths Y)
/-- what Ask answers -/
noncomputable def askV (Y : MY) : Int × Int × Int := open Classical in
  if faultN Y ≠ 0 then (0, 0, faultN Y) else if truths Y = [] then (0, 0, 11) else if Y.nv = 0 then (0, 0, 7) else ((((askN (leavesF Y) (Y.nv - 1)).1 : Nat) : Int), (((askN (leavesF Y) (Y.nv - 1)).2 : Nat) : Int), 0)
def s95 : SCode := (.seq (.ops [⟨(some 4), none, .mov (.const (.int .i64 (0)))⟩]) (.seq (.seq (.ops [⟨(some 6), none, .mov (T 0)⟩, ⟨(some 7), none, .len (T 6)⟩, ⟨(some 8), none, .mov (.const (.int .i64 (0)))⟩]) (.block 0 (.loop (.seq (.ops [⟨(some 9), none, .int2 .lss (T 8) (T 7)⟩]) (.seq (.cond (T 9) .skip (.exit 0)) (.seq (.block 1 (.seq (.ops [⟨(some 10), none, .mov (T 8)⟩, ⟨(some 5), none, .mov (T 10)⟩]) (.seq (.ops [⟨(some 11), none, .mov (T 1)⟩, ⟨(some 12), none, .mov (T 0)⟩, ⟨(some 13), none, .mov (T 5)⟩, ⟨(some 14), none, .idxSl 1 (T 12) (T 13)⟩, ⟨(some 15), none, .load1 (T 14)⟩, ⟨(some 16), none, .int2 .eql (T 11) (T 15)⟩]) (.cond (T 16) (.seq (.ops [⟨(some 17), none, .mov (T 5)⟩, ⟨(some 4), none, .mov (T 17)⟩]) .ret) .skip)))) (.ops [⟨(some 18), none, .int2 .add (T 8) (.const (.int .i64 (1)))⟩, ⟨(some 8), none, .mov (T 18)⟩]))))))) (.seq (.ops [⟨(some 4), none, .mov (.const (.int .i64 (-1)))⟩]) .ret)))
theorem fok95 : FnOk Try.prog 95 19 s95 [.tmp 4] := ⟨Try.f95, _, Try.func95, rfl, Try.ntmps95, by kernel_rfl, by kernel_rfl⟩
theorem indexI_c (hn : 3000 ≤ n) {v : Value} {m : Nat} {a : Nat → Int} (hi : Ints h v m a) (hm : m ≤ 2000) (x : Int) :
    call n (.func (.func 95) #[] #[]) [v, .int .i64 x] h = some (.int .i64 (findFrom (fun k => x = a k) m 0), h) := by
  obtain ⟨n, rfl⟩ : ∃ p, n = p + 1 := ⟨n - 1, by omega⟩
  refine call_plain0 fok95 rfl rfl (by simp) rfl ?_
  have hi := Cells.shut hi
  generalize h.shutAll = h at hi
  simp only [rn0, rn1, rn2, rn3, rn4, rn5, rn6, rn7, rn8, if_true, if_false, Nat.le_refl, true_and, and_true, decide_true, decide_false, Bool.not_true, Bool.not_false, reduceIte, Nat.reduceEqDiff, Nat.reduceAdd, Nat.reduceMul, Nat.reduceSub, Nat.reduceLeDiff, Nat.reduceLT, s95, Cells.len hi]
  refine W_loop m (fun k f g ms => g = h ∧ ms = [] ∧ f 0 = v ∧ f 1 = .int .i64 x ∧ f 7 = .int .i64 (m : Int) ∧ f 8 = .int .i64 (k : Int) ∧ ∀ j, j < k → ¬ x = a j) (by simp; omega) ?_ ?_ ?_
  · simp only [rn0, rn1, rn2, rn3, rn4, rn5, rn6, rn7, rn8, if_true, if_false, Nat.le_refl, true_and, and_true, decide_true, decide_false, Bool.not_true, Bool.not_false, reduceIte, Nat.reduceEqDiff, Nat.reduceAdd, Nat.reduceMul, Nat.reduceSub, Nat.reduceLeDiff, Nat.reduceLT, Nat.not_lt_zero, false_implies, implies_true]
    trivial
  · rintro k f g ms hk ⟨rfl, rfl, f0, f1, f7, f8, hlt⟩
    have hk' : (k : Int) < (m : Int) := by omega
    have hw1 : wrapF .i64 ((k : Int) + 1) = ((k + 1 : Nat) : Int) := by rw [wrap_in (by omega) (by omega)]; rfl
    by_cases hkk : x = a k
    · have hf := findFrom_at (p := fun k => x = a k) hk hlt hkk
      simp only [rn0, rn1, rn2, rn3, rn4, rn5, rn6, rn7, rn8, if_true, if_false, Nat.le_refl, true_and, and_true, decide_true, decide_false, Bool.not_true, Bool.not_false, reduceIte, Nat.reduceEqDiff, Nat.reduceAdd, Nat.reduceMul, Nat.reduceSub, Nat.reduceLeDiff, Nat.reduceLT, f0, f1, f7, f8, hk', Cells.idx hi hk, Cells.ld hi hk Nat.zero_lt_one, ← hkk]
      rw [hf]
    · simp only [rn0, rn1, rn2, rn3, rn4, rn5, rn6, rn7, rn8, if_true, if_false, Nat.le_refl, true_and, and_true, decide_true, decide_false, Bool.not_true, Bool.not_false, reduceIte, Nat.reduceEqDiff, Nat.reduceAdd, Nat.reduceMul, Nat.reduceSub, Nat.reduceLeDiff, Nat.reduceLT, f0, f1, f7, f8, hk', Cells.idx hi hk, Cells.ld hi hk Nat.zero_lt_one, hkk, hw1]
      intro j hj
      by_cases e : j = k
      · subst e; exact hkk
      · exact hlt j (by omega)
  · rintro f g ms ⟨rfl, rfl, f0, f1, f7, f8, hlt⟩
    have hf := findFrom_none (p := fun k => x = a k) hlt
    simp only [rn0, rn1, rn2, rn3, rn4, rn5, rn6, rn7, rn8, if_true, if_false, Nat.le_refl, true_and, and_true, decide_true, decide_false, Bool.not_true, Bool.not_false, reduceIte, Nat.reduceEqDiff, Nat.reduceAdd, Nat.reduceMul, Nat.reduceSub, Nat.reduceLeDiff, Nat.reduceLT, f0, f1, f7, f8, Int.lt_irrefl, hf]
def s41 : SCode := (.seq (.ops [⟨(some 1), none, .box (T 0)⟩, ⟨(some 2), none, .mov (.const (.int .i64 (0)))⟩, ⟨(some 3), none, .mov (.const (.int .i64 (0)))⟩, ⟨(some 4), none, .mov (.const (.int .i64 (0)))⟩]) (.seq (.ops [⟨(some 8), none, .loadN 3 (T 1)⟩, ⟨(some 9), none, .call (.func 89) [(T 8)]⟩, ⟨(some 7), none, .mov (T 9)⟩, ⟨(some 10), none, .extract 0 (T 7)⟩, ⟨(some 11), none, .extract 1 (T 7)⟩, ⟨(some 5), none, .alloc [(.slice none 0 0), (.slice none 0 0), (.slice none 0 0), (.slice none 0 0)]⟩, ⟨none, none, .store 4 (T 5) (T 10)⟩, ⟨(some 4), none, .mov (T 11)⟩]) (.seq (.seq (.ops [⟨(some 12), none, .mov (T 4)⟩, ⟨(some 13), none, .int2 .neq (T 12) (.const (.int .i64 (0)))⟩]) (.cond (T 13) (.seq (.ops [⟨(some 14), none, .mov (T 4)⟩, ⟨(some 2), none, .mov (.const (.int .i64 (0)))⟩, ⟨(some 3), none, .mov (.const (.int .i64 (0)))⟩, ⟨(some 4), none, .mov (T 14)⟩]) .ret) .skip)) (.seq (.seq (.ops [⟨(some 15), none, .fieldAddr 0 (T 5)⟩, ⟨(some 16), none, .fieldAddr 1 (T 15)⟩, ⟨(some 17), none, .load1 (T 16)⟩, ⟨(some 18), none, .len (T 17)⟩, ⟨(some 19), none, .int2 .eql (T 18) (.const (.int .i64 (0)))⟩]) (.cond (T 19) (.seq (.ops [⟨(some 2), none, .mov (.const (.int .i64 (0)))⟩, ⟨(some 3), none, .mov (.const (.int .i64 (0)))⟩, ⟨(some 4), none, .mov (.const (.int .i64 (7)))⟩]) .ret) .skip)) (.seq (.ops [⟨(some 20), none, .loadN 4 (T 5)⟩, ⟨(some 21), none, .call (.func 93) [(T 20)]⟩, ⟨(some 6), none, .mov (T 21)⟩]) (.seq (.draw [⟨.free, ⟨(some 22), none, .mov (T 6)⟩⟩, ⟨.free, ⟨(some 23), none, .idxSl 1 (T 22) (.const (.int .i64 (0)))⟩⟩, ⟨.rd1, ⟨(some 24), none, .load1 (T 23)⟩⟩, ⟨.free, ⟨(some 25), none, .mov (T 6)⟩⟩, ⟨.rd1, ⟨(some 26), none, .slice 1 (T 25) (some (.const (.int .i64 (1)))) none none⟩⟩, ⟨.any, ⟨(some 27), none, .call (.func 94) [(T 24), (T 26)]⟩⟩, ⟨.free, ⟨(some 3), none, .mov (T 27)⟩⟩]) (.seq (.ops [⟨(some 28), none, .mov (T 6)⟩, ⟨(some 29), none, .mov (T 3)⟩, ⟨(some 30), none, .call (.func 95) [(T 28), (T 29)]⟩, ⟨(some 31), none, .mov (T 3)⟩, ⟨(some 2), none, .mov (T 30)⟩, ⟨(some 3), none, .mov (T 31)⟩, ⟨(some 4), none, .mov (.const (.int .i64 (0)))⟩]) .ret)))))))
theorem fok41 : FnOk Try.prog 41 32 s41 [.tmp 2, .tmp 3, .tmp 4] := ⟨Try.f41, _, Try.func41, rfl, Try.ntmps41, by kernel_rfl, by kernel_rfl⟩
theorem ask_c (hn : 10080 ≤ n) (hr : h.next + 900000 < far) {F V S : Value} {Y : MY} (hy : YardR h F V S Y) (hY : Thin Y) :
    call n (.func (.func 41) #[] #[]) [.agg ⟨[F, V, S]⟩] h = some (.tuple ⟨[.int .i64 (askV Y).1, .int .i64 (askV Y).2.1, .int .i64 (askV Y).2.2]⟩, h) := by
  obtain ⟨n, rfl⟩ : ∃ p, n = p + 1 := ⟨n - 1, by omega⟩
  refine call_plain0 fok41 rfl rfl (by simp) rfl ?_
  have hy := hy.shut
  have hr : h.shutAll.next + 900000 < far := hr
  have hfl : h.shutAll.floor ≤ h.shutAll.next := Nat.le_refl _
  generalize h.shutAll = h at hy hr hfl
  generalize hres : askV Y = res
  simp only [s41, W_seq, W_ops]
  refine ops_box (cs := [F, V, S]) (by omega) rfl hy.one fun g1 hx1 => ?_
  have n1 := hx1.next
  have f1 := hx1.floor
  have w1 := hx1.row.whole (n := 3) rfl
  obtain ⟨v, g2, eo, hm, ho⟩ := openTrue_c (n := n) (h := g1) (by omega) (by omega) (by omega) (hy.mono hx1.sub) hY
  have n2 := hm.next
  have u2 := hm.up
  have f2 := hm.floor
  rcases ho with ⟨hf, rfl⟩ | ⟨hf, he, rfl⟩ | ⟨hf, he, tv, rfl, htr, hlong⟩
  · have hrr : res = (0, 0, faultN Y) := by rw [← hres]; unfold askV; rw [if_pos hf]
    rw [hrr]
    simp only [rn0, rn1, rn2, rn3, rn4, rn5, rn6, rn7, rn8, if_true, if_false, Nat.le_refl, true_and, and_true, decide_true, decide_false, Bool.not_true, Bool.not_false, reduceIte, Nat.reduceEqDiff, Nat.reduceAdd, Nat.reduceMul, Nat.reduceSub, Nat.reduceLeDiff, Nat.reduceLT, w1, eo, ex0, ex1]
    refine step_new (vs := [nilS, nilS, nilS, nilS]) (by omega) (by omega) rfl (by simp only [rn0, rn1, rn2, rn3, rn4, rn5, rn6, rn7, rn8, if_true, if_false, Nat.le_refl, true_and, and_true, decide_true, decide_false, Bool.not_true, Bool.not_false, reduceIte, Nat.reduceEqDiff, Nat.reduceAdd, Nat.reduceMul, Nat.reduceSub, Nat.reduceLeDiff, Nat.reduceLT]; rfl) rfl rfl rfl fun g3 hx3 => ?_
    simp only [rn0, rn1, rn2, rn3, rn4, rn5, rn6, rn7, rn8, if_true, if_false, Nat.le_refl, true_and, and_true, decide_true, decide_false, Bool.not_true, Bool.not_false, reduceIte, Nat.reduceEqDiff, Nat.reduceAdd, Nat.reduceMul, Nat.reduceSub, Nat.reduceLeDiff, Nat.reduceLT, hf, ret_ttt]
  · have hrr : res = (0, 0, 11) := by rw [← hres]; unfold askV; rw [if_neg (by simpa using hf), if_pos he]
    rw [hrr]
    simp only [rn0, rn1, rn2, rn3, rn4, rn5, rn6, rn7, rn8, if_true, if_false, Nat.le_refl, true_and, and_true, decide_true, decide_false, Bool.not_true, Bool.not_false, reduceIte, Nat.reduceEqDiff, Nat.reduceAdd, Nat.reduceMul, Nat.reduceSub, Nat.reduceLeDiff, Nat.reduceLT, w1, eo, ex0, ex1]
    refine step_new (vs := [nilS, nilS, nilS, nilS]) (by omega) (by omega) rfl (by simp only [rn0, rn1, rn2, rn3, rn4, rn5, rn6, rn7, rn8, if_true, if_false, Nat.le_refl, true_and, and_true, decide_true, decide_false, Bool.not_true, Bool.not_false, reduceIte, Nat.reduceEqDiff, Nat.reduceAdd, Nat.reduceMul, Nat.reduceSub, Nat.reduceLeDiff, Nat.reduceLT]; rfl) rfl rfl rfl fun g3 hx3 => ?_
    simp only [rn0, rn1, rn2, rn3, rn4, rn5, rn6, rn7, rn8, if_true, if_false, Nat.le_refl, true_and, and_true, decide_true, decide_false, Bool.not_true, Bool.not_false, reduceIte, Nat.reduceEqDiff, Nat.reduceAdd, Nat.reduceMul, Nat.reduceSub, Nat.reduceLeDiff, Nat.reduceLT, ret_ttt, Int.reduceEq]
  have hG := good_of hf
  obtain ⟨z1, z2, z3⟩ := hG.sz
  have ho4 : allB oneCell [F, V, S, tv] = true := by have h1 := hy.one; have h2 := Cells.one htr; simp [allB] at h1 ⊢; simp [h1, h2]
  simp only [rn0, rn1, rn2, rn3, rn4, rn5, rn6, rn7, rn8, if_true, if_false, Nat.le_refl, true_and, and_true, decide_true, decide_false, Bool.not_true, Bool.not_false, reduceIte, Nat.reduceEqDiff, Nat.reduceAdd, Nat.reduceMul, Nat.reduceSub, Nat.reduceLeDiff, Nat.reduceLT, w1, eo, ex0, ex1]
  refine step_new (vs := [F, V, S, tv]) (by omega) (by omega) rfl (by simp only [rn0, rn1, rn2, rn3, rn4, rn5, rn6, rn7, rn8, if_true, if_false, Nat.le_refl, true_and, and_true, decide_true, decide_false, Bool.not_true, Bool.not_false, reduceIte, Nat.reduceEqDiff, Nat.reduceAdd, Nat.reduceMul, Nat.reduceSub, Nat.reduceLeDiff, Nat.reduceLT]; rfl) ho4 rfl rfl fun g3 hx3 => ?_
  have n3 := hx3.next
  have f3 := hx3.floor
  have hs3 : Sub All h g3 := hx1.sub.trans (hm.sub.trans hx3.sub)
  have hy3 := hy.mono hs3
  have w3 := hx3.row.whole (n := 4) rfl
  have htr3 : TruthsR g3 tv (truths Y) := Cells.mono htr hx3.sub
  obtain ⟨rr, hrw, hq⟩ := hy3.v
  by_cases hv : Y.nv = 0
  · have hrr : res = (0, 0, 7) := by rw [← hres]; unfold askV; rw [if_neg (by simpa using hf), if_neg he, if_pos hv]
    rw [hrr]
    have hl0 := Cells.len hrw
    rw [hv] at hl0
    simp only [rn0, rn1, rn2, rn3, rn4, rn5, rn6, rn7, rn8, if_true, if_false, Nat.le_refl, true_and, and_true, decide_true, decide_false, Bool.not_true, Bool.not_false, reduceIte, Nat.reduceEqDiff, Nat.reduceAdd, Nat.reduceMul, Nat.reduceSub, Nat.reduceLeDiff, Nat.reduceLT, hx3.row.ld, Nat.zero_add, List.getElem?_cons_zero, List.getElem?_cons_succ, hl0, Int.natCast_zero, ret_ttt]
  have hrr : res = ((((askN (leavesF Y) (Y.nv - 1)).1 : Nat) : Int), (((askN (leavesF Y) (Y.nv - 1)).2 : Nat) : Int), 0) := by rw [← hres]; unfold askV; rw [if_neg (by simpa using hf), if_neg he, if_neg hv]
  rw [hrr]
  clear hres hrr
  have hv' : ¬ ((Y.nv : Nat) : Int) = 0 := by omega
  obtain ⟨l, g4, e4, ⟨b, rfl, hl4⟩, m4⟩ := leaves_c (n := n) (h := g3) (by omega) (by omega) (by omega) hy3 hf htr3
  have n4 := m4.next
  have u4 := m4.up
  have f4 := m4.floor
  obtain ⟨tl, et, htl⟩ := tail_own (h := g4) (b := b) (m := Y.nv) (by omega) (by omega)
  have ht4 := htl g4 _ hl4
  have i0 : indexSl 1 (.slice (some ⟨b, 0, none⟩) Y.nv Y.nv) (.int .i64 0) = some (.pointer (some ⟨b, 0 * 1, none⟩)) := idxSl_s (s := 1) (k := 0) (by omega)
  have l0 : loadCell g4 (.pointer (some ⟨b, 0 * 1, none⟩)) = some (.int .i64 ((leavesF Y 0 : Nat) : Int)) := Cells.ld hl4 (k := 0) (by omega) Nat.zero_lt_one
  have em := minimum_c (n := n) (h := g4) (by omega) (by omega) ht4 ((leavesF Y 0 : Nat) : Int)
  have hmin := minN_ask (f := leavesF Y) (Y.nv - 1)
  have em2 : call n (.func (.func 94) #[] #[]) [.int .i64 ((leavesF Y 0 : Nat) : Int), tl] g4 = some (.int .i64 (((askN (leavesF Y) (Y.nv - 1)).2 : Nat) : Int), g4) := by rw [em, ← hmin]; rfl
  obtain ⟨a1, a2, a3, a4⟩ := askN_le (f := leavesF Y) (Y.nv - 1)
  have hself : ∀ c : Int, eqV (.int .i64 c) (.int .i64 c) = true := fun c => by simp [eqV, eqCell, sameK, eqI_eq]
  have ei := indexI_c (n := n) (h := g4) (by omega) hl4 (by omega) (((askN (leavesF Y) (Y.nv - 1)).2 : Nat) : Int)
  have hfi := findFrom_at (p := fun k => (((askN (leavesF Y) (Y.nv - 1)).2 : Nat) : Int) = ((mostN (blY Y k) (truths Y) : Nat) : Int)) (k := (askN (leavesF Y) (Y.nv - 1)).1) (m := Y.nv) (by omega) (fun j hj e => by
    have := a4 j hj
    unfold leavesF at this
    unfold leavesF at e
    omega) (by
    have := a2
    unfold leavesF at this ⊢
    omega)
  rw [hfi] at ei
  simp only [rn0, rn1, rn2, rn3, rn4, rn5, rn6, rn7, rn8, if_true, if_false, Nat.le_refl, true_and, and_true, decide_true, decide_false, Bool.not_true, Bool.not_false, reduceIte, Nat.reduceEqDiff, Nat.reduceAdd, Nat.reduceMul, Nat.reduceSub, Nat.reduceLeDiff, Nat.reduceLT, hx3.row.ld, Nat.zero_add, List.getElem?_cons_zero, List.getElem?_cons_succ, Cells.len hrw, hv', w3, e4]
  refine W_draw All ?_
  simp only [rn0, rn1, rn2, rn3, rn4, rn5, rn6, rn7, rn8, if_true, if_false, Nat.le_refl, true_and, and_true, decide_true, decide_false, Bool.not_true, Bool.not_false, reduceIte, Nat.reduceEqDiff, Nat.reduceAdd, Nat.reduceMul, Nat.reduceSub, Nat.reduceLeDiff, Nat.reduceLT, i0, l0, Option.isSome_none, Option.map_some, Option.map_none, et, em2, ei, ret_ttt]
end Go.Vm.Vat

namespace Go.Vm.Vat
open Go.Proofs
set_option linter.unusedSimpArgs false
set_option linter.unusedVariables false
set_option maxRecDepth 10000
variable {n : Nat} {h : AHeap}
end Go.Vm.Vat

namespace Go.Vm.Vat
open Go.Proofs
set_option linter.unusedSimpArgs false
set_option linter.unusedVariables false
set_option maxRecDepth 10000
variable {n : Nat} {h : AHeap}
end Go.Vm.Vat

namespace Go.Vm.Vat
open Go.Proofs
set_option linter.unusedSimpArgs false
set_option linter.unusedVariables false
set_option maxRecDepth 10000
variable {n : Nat} {h : AHeap}
/-! ### Words -/
def Words (h : AHeap) (v : Value) (m : Nat) (a : Nat → Nat) : Prop := Cells h v 1 m (fun k _ => .int .u16 (a k : Int)) ∧ ∀ k, k < m → a k < 65536
theorem Words.mono {g : AHeap} {v : Value} {m : Nat} {a : Nat → Nat} (hw : Words h v m a) (hs : Sub All h g) : Words g v m a := ⟨Cells.mono hw.1 hs, hw.2⟩
def rowI (m : Nat) (c : Nat → Int) : List Value := (List.range m).map fun i => .int .i64 (c i)
theorem rowI_len {m : Nat} {c : Nat → Int} : (rowI m c).length = m := by simp [rowI]
theorem rowI_get {m k : Nat} {c : Nat → Int} (hk : k < m) : (rowI m c)[k]? = some (.int .i64 (c k)) := by unfold rowI; rw [List.getElem?_map, List.getElem?_range hk]; rfl
theorem rowI_ints {m b w : Nat} {c : Nat → Int} {cap : Nat} (hg : ∃ wr gr, h.get b = some (.row (rowI m c) wr gr)) : Ints h (.slice (some ⟨b, 0, none⟩) m cap) m c := by
  obtain ⟨wr, gr, e⟩ := hg
  exact ⟨_, _, rfl, fun x e => by cases e; rfl, .inr ⟨_, 0, _, _, _, rfl, e, fun k j hk hj => by
    obtain rfl : j = 0 := by omega
    rw [show 0 + k * 1 + 0 = k by omega, rowI_get hk]⟩⟩
end Go.Vm.Vat

namespace Go.Vm.Vat
open Go.Proofs
set_option linter.unusedSimpArgs false
set_option linter.unusedVariables false
set_option maxRecDepth 10000
variable {n : Nat} {h : AHeap}
/-- with so many further bundles the vat surely has the blue -/
def Enough (Y : MY) (v f : Nat) (blue : Int) (L : List (Nat → Int)) (k : Nat) : Prop := ∀ t, t ∈ L → blue ≤ blueWith Y v f k t
end Go.Vm.Vat

namespace Go.Vm.Vat
open Go.Proofs
set_option linter.unusedSimpArgs false
set_option linter.unusedVariables false
set_option maxRecDepth 10000
variable {n : Nat} {h : AHeap}
end Go.Vm.Vat

namespace Go.Vm.Vat
open Go.Proofs
set_option linter.unusedSimpArgs false
set_option linter.unusedVariables false
set_option maxRecDepth 10000
variable {n : Nat} {h : AHeap}
end Go.Vm.Vat

namespace Go.Vm.Vat
open Go.Proofs
set_option linter.unusedSimpArgs false
set_option linter.unusedVariables false
set_option maxRecDepth 10000
variable {n : Nat} {h : AHeap}
end Go.Vm.Vat

namespace Go.Vm.Vat
open Go.Proofs
set_option linter.unusedSimpArgs false
set_option linter.unusedVariables false
set_option maxRecDepth 10000
variable {n : Nat} {h : AHeap}
/-! ### Of two yards with the same vats, one with no other truths than the other one -/
structure Inner (X Y : MY) : Prop where
  nf : X.nf = Y.nf
  nv : X.nv = Y.nv
  q : X.q = Y.q
  fx : faultN X = 0
  fy : faultN Y = 0
  ne : truths X ≠ []
  sub : ∀ t, t ∈ truths X → t ∈ truths Y
theorem Inner.ney {X Y : MY} (hi : Inner X Y) : truths Y ≠ [] := by
  obtain ⟨t, ht⟩ := List.exists_mem_of_ne_nil _ hi.ne
  exact List.ne_nil_of_mem (hi.sub t ht)
theorem Inner.lo {X Y : MY} (hi : Inner X Y) (val : (Nat → Int) → Int) : loN val (truths Y) ≤ loN val (truths X) := (le_loN hi.ne).2 fun t ht => (le_loN hi.ney).1 (Int.le_refl _) t (hi.sub t ht)
theorem Inner.hi {X Y : MY} (hi : Inner X Y) (val : (Nat → Int) → Int) : hiN val (truths X) ≤ hiN val (truths Y) := (hiN_le hi.ne).2 fun t ht => (hiN_le hi.ney).1 (Int.le_refl _) t (hi.sub t ht)
theorem Inner.with_ {X Y : MY} (hi : Inner X Y) (v f k : Nat) (t : Nat → Int) : blueWith X v f k t = blueWith Y v f k t := by unfold blueWith; rw [hi.nf, hi.q]
theorem Inner.enough {X Y : MY} (hi : Inner X Y) {v f : Nat} {b : Int} {k : Nat} (h : Enough Y v f b (truths Y) k) : Enough X v f b (truths X) k := fun t ht => by rw [hi.with_]; exact h t (hi.sub t ht)
end Go.Vm.Vat
