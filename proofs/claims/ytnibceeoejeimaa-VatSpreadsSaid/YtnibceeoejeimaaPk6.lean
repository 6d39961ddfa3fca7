/- Texts of the proofs of this seat, put together: VatBase, VatNth, VatTruths, VatMin, VatNeeds, VatBounds, VmEq2, VatBounds2, VatReady, VatEnds, VatEnds2, VatSIter, VatIter2, VatWrong, VatFirst. -/
import Derived.Test.YtnibceeoejeimaaPk5
import Derived.Test.YtnibceeoejeimaaRows
import Derived.WalkKit
import Derived.ProofKit
import Derived.OpenShut

namespace Go.Vm.Vat
open Go.Proofs Go.ChangeShapes Go.WideShapes Go.ChangeAt Go.RowKit
set_option linter.unusedSimpArgs false
set_option linter.unusedVariables false
set_option maxRecDepth 10000
variable {n : Nat} {h : AHeap}
/-! ### The calls of this program are sound -/
theorem own : ownKnob Try.prog.godebug = none := by kernel_rfl
theorem mixedOn : Try.prog.follows .mixedOrders = true := by kernel_rfl
theorem namesAll : (Try.prog.funcs.toList.all fun fn => !(fn.name == "runtime.NumGoroutine")) = true := by kernel_rfl
theorem namesFine : NamesFine Try.prog := by
  intro f fn hf
  have h := List.all_eq_true.1 namesAll fn (Array.mem_toList_iff.2 (Array.mem_of_getElem? hf))
  simpa using h
theorem tabOk : ∀ E ∈ Awake.tab, ∃ cf, SoundCF Try.prog cf ∧ entryOk cf E = true := by
  have hs := vm_sound namesFine mixedOn Awake.quiet 1000
  intro E hE
  refine ⟨_, hs, ?_⟩
  revert E
  simp only [Awake.tab, List.forall_mem_cons, List.not_mem_nil, false_implies, implies_true, and_true]
  exact ⟨Awake.ok0, Awake.ok1, Awake.ok2, Awake.ok3, Awake.ok4, Awake.ok5, Awake.ok6, Awake.ok7⟩
theorem kOk : KOk Try.prog K := by
  intro f v hK
  unfold K at hK
  split at hK
  · rename_i e
    subst e
    cases hK
    refine ⟨rfl, acallO Try.prog Awake.quiet Awake.tab 1000, ?_⟩
    have hm := Awake.main_ok
    cases hr : acallO Try.prog Awake.quiet Awake.tab 1000 (.func (.func 24) #[] #[]) [] AHeap.empty with
    | none => rw [hr] at hm; cases hm
    | some vh =>
      obtain ⟨v, h'⟩ := vh
      rw [hr] at hm
      unfold Awake.isTrue at hm
      split at hm
      · rename_i e
        cases e
        exact ⟨h', acallO_sound namesFine mixedOn Awake.quiet tabOk 1000, rfl⟩
      · cases hm
  · cases hK
theorem sound (n : Nat) : SoundCF Try.prog (call n) := pcall_sound namesFine mixedOn kOk n
/-! ### The statements' arguments -/
theorem laidOk : laidOutB Try.prog = true := by kernel_rfl
theorem mapsOk : mapsRowed Try.prog = true := by kernel_rfl
theorem slicesOk : ((List.range Try.prog.types.size).all fun t => match Try.prog.underlying t with | some (.slice e) => decide (0 < Try.prog.cellsOf e) | _ => true) = true := by kernel_rfl
theorem kids : Kids Try.prog (· < Try.prog.types.size) := kids_rows laidOk mapsOk
theorem tsize : 96 < Try.prog.types.size := of_decide_eq_true (by kernel_rfl)
theorem cell_slice {P : Program} {w : World} {r : Reach} {b : Nat} {t e : TypeId} {v x : Value} (ht : P.underlying t = some (.slice e)) (ho : Value.okWide P w r b t v) (hc : v.cells.toList = [x]) : v = x := by
  unfold Value.okWide at ho
  rw [ht] at ho
  cases v <;> simp_all [Value.cells, Cell.okWide, Cell.ok]
theorem cell_int {P : Program} {w : World} {r : Reach} {b : Nat} {t : TypeId} {k : IntKind} {v x : Value} (ht : P.underlying t = some (.int k)) (ho : Value.okWide P w r b t v) (hc : v.cells.toList = [x]) : v = x := by
  unfold Value.okWide at ho
  rw [ht] at ho
  cases v <;> simp_all [Value.cells, Cell.okWide, Cell.ok]
theorem agg_struct {P : Program} {w : World} {r : Reach} {b : Nat} {t : TypeId} {fs : Array Field} {v : Value} {cs : List Value} (ht : P.underlying t = some (.struct fs)) (ho : Value.okWide P w r b t v) (hc : v.cells.toList = cs) : v = .agg ⟨cs⟩ := by
  unfold Value.okWide at ho
  rw [ht] at ho
  obtain ⟨cs', rfl, _⟩ := ho
  subst hc
  rfl
/-- what each law does first, where its yard is too long -/
theorem thin_big (hn : 1 ≤ n) (hr : h.next + 1 < far) {u0 u1 u2 : Value} (hb : Big u0 u1 u2) : call n (.func (.func 23) #[] #[]) [.agg ⟨[u0, u1, u2]⟩] h = some (.bool false, h) := by
  obtain ⟨n, rfl⟩ : ∃ p, n = p + 1 := ⟨n - 1, by omega⟩
  obtain ⟨a0, n0, k0, a1, n1, k1, a2, n2, k2, rfl, rfl, rfl, hbig⟩ := hb
  refine call_plain0 fok23 rfl rfl (by simp) rfl ?_
  have hr : h.shutAll.next + 1 < far := hr
  generalize h.shutAll = h at hr
  simp only [s23, W_seq, W_ops]
  refine ops_box (cs := [.slice a0 n0 k0, .slice a1 n1 k1, .slice a2 n2 k2]) (by omega) rfl rfl fun h1 hx => ?_
  by_cases c1 : 30 < n0
  · have c1' : (30 : Int) < n0 := by omega
    simp only [rn0, rn1, rn2, rn3, rn4, rn5, rn6, rn7, rn8, if_true, if_false, Nat.le_refl, true_and, and_true, decide_true, decide_false, Bool.not_true, Bool.not_false, reduceIte, Nat.reduceEqDiff, Nat.reduceAdd, Nat.reduceMul, Nat.reduceSub, Nat.reduceLeDiff, Nat.reduceLT, hx.ld, Nat.zero_add, List.getElem?_cons_zero, List.getElem?_cons_succ, len_slice, c1']
  have c1' : ¬ (30 : Int) < n0 := by omega
  by_cases c2 : 30 < n1
  · have c2' : (30 : Int) < n1 := by omega
    simp only [rn0, rn1, rn2, rn3, rn4, rn5, rn6, rn7, rn8, if_true, if_false, Nat.le_refl, true_and, and_true, decide_true, decide_false, Bool.not_true, Bool.not_false, reduceIte, Nat.reduceEqDiff, Nat.reduceAdd, Nat.reduceMul, Nat.reduceSub, Nat.reduceLeDiff, Nat.reduceLT, hx.ld, Nat.zero_add, List.getElem?_cons_zero, List.getElem?_cons_succ, len_slice, c1', c2']
  have c2' : ¬ (30 : Int) < n1 := by omega
  have c3' : (30 : Int) < n2 := by omega
  simp only [rn0, rn1, rn2, rn3, rn4, rn5, rn6, rn7, rn8, if_true, if_false, Nat.le_refl, true_and, and_true, decide_true, decide_false, Bool.not_true, Bool.not_false, reduceIte, Nat.reduceEqDiff, Nat.reduceAdd, Nat.reduceMul, Nat.reduceSub, Nat.reduceLeDiff, Nat.reduceLT, hx.ld, Nat.zero_add, List.getElem?_cons_zero, List.getElem?_cons_succ, len_slice, c1', c2', c3']
theorem Big.one {u0 u1 u2 : Value} (hb : Big u0 u1 u2) : allB oneCell [u0, u1, u2] = true := by
  obtain ⟨a0, n0, k0, a1, n1, k1, a2, n2, k2, rfl, rfl, rfl, _⟩ := hb
  rfl
theorem stands_yard {w : World} {φ : Emb} {u0 u1 u2 fv vv sv : Value} (h0 : Stands φ h u0 fv) (h1 : Stands φ h u1 vv) (h2 : Stands φ h u2 sv) : mapV φ (.agg ⟨[u0, u1, u2]⟩) = .agg ⟨[fv, vv, sv]⟩ ∧ okV φ h.next (.agg ⟨[u0, u1, u2]⟩) := by
  refine ⟨?_, ?_⟩
  · simp only [mapV, mapArr, mapL, h0.map, h1.map, h2.map]
  · simp only [okV, okA, okL, and_true]
    exact ⟨h0.ok, h1.ok, h2.ok⟩
theorem map_int {φ : Emb} {k : IntKind} {a : Int} : mapV φ (.int k a) = .int k a := by simp [mapV]
/-- a list of numbers that was handed in -/
abbrev IntsOf (h : AHeap) (v : Value) (c : Nat → Nat → Int) (m : Nat) : Prop := Ints h v m fun k => c k 0
theorem intsOf {v : Value} {c : Nat → Nat → Int} {m : Nat} (hc : Cells h v 1 m fun i j => .int .i64 (c i j)) : IntsOf h v c m := by
  obtain ⟨a, cap, f1, f2, f3⟩ := hc
  refine ⟨a, cap, f1, f2, f3.imp id fun ⟨b, o, cs, wr, g, g1, g2, g3⟩ => ⟨b, o, cs, wr, g, g1, g2, fun i j hi hj => ?_⟩⟩
  have : j = 0 := by omega
  subst this
  exact g3 i 0 hi hj
end Go.Vm.Vat

namespace Go.Vm.Vat
open Go.Proofs
set_option linter.unusedSimpArgs false
set_option linter.unusedVariables false
set_option maxRecDepth 10000
variable {n : Nat} {h : AHeap}
/-! ### The reference's truths: all blues by their numbers -/
def sz (lo hi : Nat → Int) (k : Nat) : Nat := (hi k - lo k + 1).toNat
def divN (s : Nat → Nat) (m : Nat) : Nat → Nat
  | 0 => m
  | k + 1 => divN s m k / s k
/-- the blues with the number m -/
def nthB (lo hi : Nat → Int) (nf m : Nat) (k : Nat) : Int := if k < nf then lo k + ((divN (sz lo hi) m k % sz lo hi k : Nat) : Int) else 0
theorem divN_le (s : Nat → Nat) (m : Nat) : ∀ k, divN s m k ≤ m
  | 0 => Nat.le_refl _
  | k + 1 => Nat.le_trans (Nat.div_le_self _ _) (divN_le s m k)
theorem one_get {v : Value} : ∀ j, j < 1 → [v][j]? = some v := fun j hj => by
  have : j = 0 := by omega
  subst this; rfl
theorem sl_int {x : Int} : buildSl 1 1 [.int .i64 0] [0] h [.int .i64 x] = newSlice h [.int .i64 x] 1 1 0 := id rfl
def s109 : SCode := (.seq (.ops [⟨(some 2), none, .box (T 0)⟩, ⟨(some 4), none, .mov (.const (.slice none 0 0))⟩]) (.seq (.ops [⟨(some 5), none, .mov (.const (.slice none 0 0))⟩]) (.seq (.seq (.ops [⟨(some 6), none, .mov (.const (.int .i64 (0)))⟩]) (.block 0 (.loop (.seq (.seq (.ops [⟨(some 8), none, .mov (T 6)⟩, ⟨(some 9), none, .fieldAddr 0 (T 2)⟩, ⟨(some 10), none, .load1 (T 9)⟩, ⟨(some 11), none, .len (T 10)⟩, ⟨(some 12), none, .int2 .lss (T 8) (T 11)⟩]) (.cond (T 12) .skip (.exit 0))) (.seq (.block 1 (.seq (.ops [⟨(some 15), none, .fieldAddr 0 (T 2)⟩, ⟨(some 16), none, .load1 (T 15)⟩, ⟨(some 17), none, .mov (T 6)⟩, ⟨(some 18), none, .idxSl 2 (T 16) (T 17)⟩, ⟨(some 19), none, .loadN 2 (T 18)⟩, ⟨(some 20), none, .call (.func 125) [(T 19)]⟩, ⟨(some 7), none, .mov (T 20)⟩]) (.seq (.draw [⟨.free, ⟨(some 21), none, .mov (T 5)⟩⟩, ⟨.free, ⟨(some 22), none, .fieldAddr 0 (T 2)⟩⟩, ⟨.rd1, ⟨(some 23), none, .load1 (T 22)⟩⟩, ⟨.free, ⟨(some 24), none, .mov (T 6)⟩⟩, ⟨.free, ⟨(some 25), none, .idxSl 2 (T 23) (T 24)⟩⟩, ⟨.free, ⟨(some 26), none, .fieldAddr 0 (T 25)⟩⟩, ⟨.rd1, ⟨(some 27), none, .load1 (T 26)⟩⟩, ⟨.free, ⟨(some 28), none, .mov (T 1)⟩⟩, ⟨.free, ⟨(some 29), none, .mov (T 7)⟩⟩, ⟨.free, ⟨(some 30), none, .plain (.binOp .rem 3 (T 28) (T 29) 3) 3⟩⟩, ⟨.free, ⟨(some 31), none, .int2 .add (T 27) (T 30)⟩⟩, ⟨.any, ⟨(some 32), none, .bslice 1 1 [(.int .i64 (0))] [0] [(T 31)]⟩⟩, ⟨.any, ⟨(some 33), none, .append 1 8 (T 21) (T 32)⟩⟩, ⟨.free, ⟨(some 5), none, .mov (T 33)⟩⟩]) (.ops [⟨(some 34), none, .mov (T 1)⟩, ⟨(some 35), none, .mov (T 7)⟩, ⟨(some 36), none, .plain (.binOp .quo 3 (T 34) (T 35) 3) 3⟩, ⟨(some 1), none, .mov (T 36)⟩])))) (.ops [⟨(some 13), none, .mov (T 6)⟩, ⟨(some 14), none, .int2 .add (T 13) (.const (.int .i64 (1)))⟩, ⟨(some 6), none, .mov (T 14)⟩])))))) (.seq (.ops [⟨(some 37), none, .mov (T 5)⟩, ⟨(some 4), none, .mov (T 37)⟩]) .ret))))
theorem fok109 : FnOk Try.prog 109 38 s109 [.tmp 4] := ⟨Try.f109, _, Try.func109, rfl, Try.ntmps109, by kernel_rfl, by kernel_rfl⟩
theorem nth_c (hn : 10002 ≤ n) (hr : h.next + 30 < far) (hfl : h.floor ≤ h.next) {fv vv sv : Value} {Y : MY} {m : Nat} (hy : YardR h fv vv sv Y) (hnf : Y.nf ≤ 5) (hF : FieldsOk Y) (hm : m ≤ 3000) :
    ∃ v h', call n (.func (.func 109) #[] #[]) [.agg ⟨[fv, vv, sv]⟩, .int .i64 (m : Int)] h = some (v, h') ∧ Ints h' v Y.nf (nthB Y.lo Y.hi Y.nf m) ∧ Made h h' 20 ∧ oneCell v = true ∧ ∀ a k c, v = .slice (some a) k c → h.next ≤ a.block ∧ a.block < h'.next := by
  obtain ⟨n, rfl⟩ : ∃ p, n = p + 1 := ⟨n - 1, by omega⟩
  refine call_any0 fok109 rfl rfl (by simp) ?_
  simp only [s109, W_seq, W_ops]
  refine ops_box (cs := [fv, vv, sv]) (by omega) rfl hy.one fun g1 hx1 => ?_
  have n1 := hx1.next
  have f1' := hx1.floor
  simp only [rn0, rn1, rn2, rn3, rn4, rn5, rn6, rn7, rn8, if_true, if_false, Nat.le_refl, true_and, and_true, decide_true, decide_false, Bool.not_true, Bool.not_false, reduceIte, Nat.reduceEqDiff, Nat.reduceAdd, Nat.reduceMul, Nat.reduceSub, Nat.reduceLeDiff, Nat.reduceLT]
  refine W_loop Y.nf (fun k f g ms => (∃ v, Sub All g1 g ∧ g.floor = g1.floor ∧ g1.next ≤ g.next ∧ g.next ≤ g1.next + 2 * k ∧ GrowC g1.next g v 1 k (fun i _ => .int .i64 (nthB Y.lo Y.hi Y.nf m i)) ∧ f 5 = v) ∧ ms = [] ∧ f 2 = .pointer (some ⟨h.next, 0, none⟩) ∧ f 6 = .int .i64 (k : Int) ∧ f 1 = .int .i64 ((divN (sz Y.lo Y.hi) m k : Nat) : Int)) (by simp; omega) ?_ ?_ ?_
  · simp only [rn0, rn1, rn2, rn3, rn4, rn5, rn6, rn7, rn8, if_true, if_false, Nat.le_refl, true_and, and_true, decide_true, decide_false, Bool.not_true, Bool.not_false, reduceIte, Nat.reduceEqDiff, Nat.reduceAdd, Nat.reduceMul, Nat.reduceSub, Nat.reduceLeDiff, Nat.reduceLT]
    exact ⟨⟨_, by omega, .nil, rfl⟩, rfl, rfl⟩
  · rintro k f g ms hk ⟨⟨v, hs, hfg, hup, hnx, gv, f5⟩, rfl, f2, f6, f1⟩
    have hk' : (k : Int) < (Y.nf : Int) := by omega
    have hw : wrapF .i64 ((k : Int) + 1) = ((k + 1 : Nat) : Int) := by rw [wrap_in (by omega) (by omega)]; rfl
    obtain ⟨v1, v2, v3⟩ := hF k hk
    have hsz : ((sz Y.lo Y.hi k : Nat) : Int) = Y.hi k - Y.lo k + 1 := Int.toNat_of_nonneg (by omega)
    have hsz0 : 0 < sz Y.lo Y.hi k := by omega
    have hbx := hx1.row.mono hs
    have hfr := ((hy.mono hx1.sub).mono hs).f
    have hws : wrapF .i64 (wrapF .i64 (Y.hi k - Y.lo k) + 1) = ((sz Y.lo Y.hi k : Nat) : Int) := by rw [wrap_in (z := Y.hi k - Y.lo k) (by omega) (by omega), wrap_in (by omega) (by omega), hsz]
    have hle := divN_le (sz Y.lo Y.hi) m k
    have hrm : ((divN (sz Y.lo Y.hi) m k : Nat) : Int).tmod ((sz Y.lo Y.hi k : Nat) : Int) = ((divN (sz Y.lo Y.hi) m k % sz Y.lo Y.hi k : Nat) : Int) := rfl
    have hqo : ((divN (sz Y.lo Y.hi) m k : Nat) : Int).tdiv ((sz Y.lo Y.hi k : Nat) : Int) = ((divN (sz Y.lo Y.hi) m k / sz Y.lo Y.hi k : Nat) : Int) := rfl
    have hml : divN (sz Y.lo Y.hi) m k % sz Y.lo Y.hi k < sz Y.lo Y.hi k := Nat.mod_lt _ hsz0
    have hdl : divN (sz Y.lo Y.hi) m k / sz Y.lo Y.hi k ≤ divN (sz Y.lo Y.hi) m k := Nat.div_le_self _ _
    have hwa : wrapF .i64 (Y.lo k + ((divN (sz Y.lo Y.hi) m k % sz Y.lo Y.hi k : Nat) : Int)) = nthB Y.lo Y.hi Y.nf m k := by
      rw [nthB, if_pos hk]
      generalize divN (sz Y.lo Y.hi) m k % sz Y.lo Y.hi k = r at hml
      exact wrap_in (by omega) (by omega)
    have hwq : IntKind.wrap .i64 ((divN (sz Y.lo Y.hi) m k / sz Y.lo Y.hi k : Nat) : Int) = ((divN (sz Y.lo Y.hi) m (k + 1) : Nat) : Int) := by
      show _ = ((divN (sz Y.lo Y.hi) m k / sz Y.lo Y.hi k : Nat) : Int)
      generalize divN (sz Y.lo Y.hi) m k / sz Y.lo Y.hi k = r at hdl
      exact IntWalk.i64_in _ (by omega)
    have hne : ¬ ((sz Y.lo Y.hi k : Nat) : Int) = 0 := by omega
    have hl1 : loadCell g (ptrO fv 2 k 0) = some (.int .i64 (Y.lo k)) := Cells.ld hfr hk (by omega)
    simp only [rn0, rn1, rn2, rn3, rn4, rn5, rn6, rn7, rn8, if_true, if_false, Nat.le_refl, true_and, and_true, decide_true, decide_false, Bool.not_true, Bool.not_false, reduceIte, Nat.reduceEqDiff, Nat.reduceAdd, Nat.reduceMul, Nat.reduceSub, Nat.reduceLeDiff, Nat.reduceLT, f1, f2, f5, f6, hbx.ld, Nat.zero_add, List.getElem?_cons_zero, List.getElem?_cons_succ, Cells.len hfr, hk', Cells.idx hfr hk, ranges_ld hfr hk, size_c (n := n) (h := g) (by omega) (by omega), hws]
    refine W_draw All ?_
    simp only [rn0, rn1, rn2, rn3, rn4, rn5, rn6, rn7, rn8, if_true, if_false, Nat.le_refl, true_and, and_true, decide_true, decide_false, Bool.not_true, Bool.not_false, reduceIte, Nat.reduceEqDiff, Nat.reduceAdd, Nat.reduceMul, Nat.reduceSub, Nat.reduceLeDiff, Nat.reduceLT, f1, f2, f5, f6, hbx.ld, Nat.zero_add, List.getElem?_cons_zero, List.getElem?_cons_succ, Cells.idx hfr hk, Cells.fld hfr hk, hl1, valN_tmp, Nat.reduceLT, r_rem hne, hrm, hwa, sl_int]
    refine up_slice (by omega) rfl (fun g1 hx => trivial) fun g2 hx => ?_
    have n2 := hx.next
    have f2' := hx.floor
    obtain ⟨v', g3, e3, ev, gv3, hk3⟩ := (gv.keep (hx.keep (o := 0)) (by omega)).append (bytes := 8) (cap := 1) (by omega) (by omega) (by omega) hx.get rfl rfl one_get (by simp [maxBytes]; omega) (by simp [maxBytes]; omega)
    have n3 := hk3.next
    have f3' := hk3.floor
    have hs3 : Sub All g1 g3 := fun i cs w gr t hg => by
      have hlt := AHeap.lt_of_get hg
      rw [hk3.old i (by omega) fun b q z e => by have := (gv.block e).1; omega]
      exact hx.sub _ _ _ _ t (hs _ _ _ _ t hg)
    simp only [rn0, rn1, rn2, rn3, rn4, rn5, rn6, rn7, rn8, if_true, if_false, Nat.le_refl, true_and, and_true, decide_true, decide_false, Bool.not_true, Bool.not_false, reduceIte, Nat.reduceEqDiff, Nat.reduceAdd, Nat.reduceMul, Nat.reduceSub, Nat.reduceLeDiff, Nat.reduceLT, f1, f2, f6, e3, valN_tmp, Nat.reduceLT, r_quo hne, hqo, hwq, hw]
    refine ⟨by omega, ?_⟩
    exact ⟨v', hs3, by omega, by omega, by omega, gv3, rfl⟩
  · rintro f g ms ⟨⟨v, hs, hfg, hup, hnx, gv, f5⟩, rfl, f2, f6, f1⟩
    have hbx := hx1.row.mono hs
    have hfr := ((hy.mono hx1.sub).mono hs).f
    simp only [rn0, rn1, rn2, rn3, rn4, rn5, rn6, rn7, rn8, if_true, if_false, Nat.le_refl, true_and, and_true, decide_true, decide_false, Bool.not_true, Bool.not_false, reduceIte, Nat.reduceEqDiff, Nat.reduceAdd, Nat.reduceMul, Nat.reduceSub, Nat.reduceLeDiff, Nat.reduceLT, f1, f2, f5, f6, hbx.ld, Nat.zero_add, List.getElem?_cons_zero, List.getElem?_cons_succ, Cells.len hfr, Int.lt_irrefl]
    exact ⟨gv.cells, ⟨hx1.sub.trans hs, by omega, by omega, by omega⟩, gv.one, fun a k c e => by have := gv.block e; omega⟩
end Go.Vm.Vat

namespace Go.Vm.Vat
open Go.Proofs
set_option linter.unusedSimpArgs false
set_option linter.unusedVariables false
set_option maxRecDepth 10000
variable {n : Nat} {h : AHeap}
/-- a list of lists of numbers that grows: all of it lies from block B on, each list in a block of its own -/
def GrowRows (B : Nat) (h : AHeap) (v : Value) (n : Nat) (cnt : Nat → Nat) (q : Nat → Nat → Int) : Prop :=
  ∃ r : Nat → Value, GrowC B h v 1 n (fun k _ => r k) ∧ ∀ i, i < n → Ints h (r i) (cnt i) (q i) ∧ ∀ a m c, r i = .slice (some a) m c → B ≤ a.block ∧ a.block < h.next ∧ ∀ b m' c', v = .slice (some b) m' c' → a.block ≠ b.block
theorem GrowRows.nil {B : Nat} {cnt : Nat → Nat} {q : Nat → Nat → Int} : GrowRows B h nilS 0 cnt q := ⟨fun _ => nilS, .nil, fun i hi => by omega⟩
theorem GrowRows.rows {B : Nat} {v : Value} {n : Nat} {cnt : Nat → Nat} {q : Nat → Nat → Int} (hg : GrowRows B h v n cnt q) : Rows h v n cnt q := by
  obtain ⟨r, h1, h2⟩ := hg
  exact ⟨r, h1.cells, fun i hi => (h2 i hi).1⟩
theorem GrowRows.keep {B o : Nat} {g : AHeap} {v : Value} {n : Nat} {cnt : Nat → Nat} {q : Nat → Nat → Int} (hg : GrowRows B h v n cnt q) (hk : Keep o h g) (ho : o < B) : GrowRows B g v n cnt q := by
  obtain ⟨r, h1, h2⟩ := hg
  refine ⟨r, h1.keep hk ho, fun i hi => ?_⟩
  obtain ⟨h3, h4⟩ := h2 i hi
  exact ⟨Cells.keep h3 hk fun a k c e => by have := (h4 a k c e).1; omega, fun a m c e => by
    obtain ⟨k1, k2, k3⟩ := h4 a m c e
    exact ⟨k1, Nat.lt_of_lt_of_le k2 hk.up, k3⟩⟩
theorem GrowRows.sub {B : Nat} {g : AHeap} {v : Value} {n : Nat} {cnt : Nat → Nat} {q : Nat → Nat → Int} (hg : GrowRows B h v n cnt q) (hs : Sub All h g) (hup : h.next ≤ g.next) : GrowRows B g v n cnt q := by
  obtain ⟨r, h1, h2⟩ := hg
  refine ⟨r, h1.sub hs, fun i hi => ?_⟩
  obtain ⟨h3, h4⟩ := h2 i hi
  exact ⟨Cells.mono h3 hs, fun a m c e => by
    obtain ⟨k1, k2, k3⟩ := h4 a m c e
    exact ⟨k1, Nat.lt_of_lt_of_le k2 hup, k3⟩⟩
theorem GrowRows.congr {B : Nat} {v : Value} {n : Nat} {cnt cnt' : Nat → Nat} {q q' : Nat → Nat → Int} (hg : GrowRows B h v n cnt q) (h1 : ∀ i, i < n → cnt i = cnt' i) (h2 : ∀ i, i < n → q i = q' i) : GrowRows B h v n cnt' q' := by
  obtain ⟨r, k1, k2⟩ := hg
  exact ⟨r, k1, fun i hi => by rw [← h1 i hi, ← h2 i hi]; exact k2 i hi⟩
/-- one list more -/
theorem GrowRows.push {B : Nat} {h1 : AHeap} {v l : Value} {n : Nat} {cnt : Nat → Nat} {q : Nat → Nat → Int} (hg : GrowRows B h v n cnt q) (hB : h.floor ≤ B) (hf : h.next + 2 < far) (hBn : B ≤ h.next) (hl : Ints h l (cnt n) (q n)) (hone : oneCell l = true)
    (hb : ∀ a k c, l = .slice (some a) k c → B ≤ a.block ∧ a.block < h.next ∧ ∀ b m' c', v = .slice (some b) m' c' → a.block ≠ b.block) (hx : New h h1 [l] 0) (hn : (n + 1) * 24 ≤ maxBytes) (hn1 : n + 1 ≤ maxBytes) :
    ∃ v' g, appendA 1 24 h1 v (.slice (some ⟨h.next, 0, none⟩) 1 1) = some (v', g) ∧ GrowRows B g v' (n + 1) cnt q ∧ Kept h1 g v ∧ oneCell v' = true ∧ (∀ a k c, v = .slice (some a) k c → B ≤ a.block) := by
  obtain ⟨r, g1, g2⟩ := hg
  have hnx := hx.next
  have hfl := hx.floor
  let r' : Nat → Value := fun i => if i = n then l else r i
  have g1' : GrowC B h1 v 1 n (fun k _ => r' k) := (g1.sub hx.sub).congr fun k j hk hj => by show r k = if k = n then l else r k; rw [if_neg (by omega)]
  obtain ⟨v', g, e, ev, gv, hk⟩ := g1'.append (bytes := 24) (cap := 1) (by omega) (by omega) (by omega) hx.get rfl (by simp [allB, hone]) (fun j hj => by rw [one_get j hj]; show some l = some (if n = n then l else r n); rw [if_pos rfl]) hn hn1
  refine ⟨v', g, e, ⟨r', gv, fun i hi => ?_⟩, hk, gv.one, fun a k c e => (g1.block e).1⟩
  have hkn := hk.next
  have hmain : ∀ (x : Value) (m : Nat) (a : Nat → Int), Ints h x m a → (∀ a k c, x = .slice (some a) k c → B ≤ a.block ∧ a.block < h.next ∧ ∀ b m' c', v = .slice (some b) m' c' → a.block ≠ b.block) →
      Ints g x m a ∧ ∀ a k c, x = .slice (some a) k c → B ≤ a.block ∧ a.block < g.next ∧ ∀ b m' c', v' = .slice (some b) m' c' → a.block ≠ b.block := by
    intro x m a hx1 hx2
    refine ⟨Cells.kept (Cells.mono hx1 hx.sub) hk fun a k c e b k' c' e' => (hx2 a k c e).2.2 b k' c' e', fun a k c e => ?_⟩
    obtain ⟨k1, k2, _⟩ := hx2 a k c e
    refine ⟨k1, by omega, fun b m' c' e' => ?_⟩
    rw [ev] at e'
    cases e'
    show a.block ≠ h1.next
    omega
  by_cases hin : i = n
  · subst hin
    have : r' i = l := by show (if i = i then l else r i) = l; rw [if_pos rfl]
    rw [this]
    exact hmain l _ _ hl hb
  · have : r' i = r i := by show (if i = n then l else r i) = r i; rw [if_neg hin]
    rw [this]
    obtain ⟨k1, k2⟩ := g2 i (by omega)
    exact hmain _ _ _ k1 k2
theorem sl_row {v : Value} (hv : oneCell v = true) : buildSl 1 1 [.slice none 0 0] [0] h [v] = newSlice h [v] 1 1 0 := sl_one hv
/-- the truths by their numbers -/
noncomputable def refTruthsTo (Y : MY) (m : Nat) : List (Nat → Int) := open Classical in ((List.range m).map (nthB Y.lo Y.hi Y.nf)).filter fun c => decide (∀ k, k < Y.ns → RightB Y c k)
theorem refTruthsTo_succ {Y : MY} {m : Nat} : refTruthsTo Y (m + 1) = refTruthsTo Y m ++ (open Classical in if (∀ k, k < Y.ns → RightB Y (nthB Y.lo Y.hi Y.nf m) k) then [nthB Y.lo Y.hi Y.nf m] else []) := by
  unfold refTruthsTo
  rw [List.range_succ, List.map_append, List.filter_append]
  congr 1
  simp only [List.map_cons, List.map_nil, List.filter_cons, List.filter_nil, decide_eq_true_eq]
theorem refTruthsTo_len {Y : MY} {m : Nat} : (refTruthsTo Y m).length ≤ m := by
  unfold refTruthsTo
  exact Nat.le_trans (List.length_filter_le _ _) (by simp)
/-- a list of truths, each a list -/
def TruthsL (h : AHeap) (v : Value) (nf : Nat) (l : List (Nat → Int)) : Prop := Rows h v l.length (fun _ => nf) fun k => l.getD k fun _ => 0
theorem nthB_are {Y : MY} (hF : FieldsOk Y) {m : Nat} : AreB Y Y.nf (nthB Y.lo Y.hi Y.nf m) := by
  refine ⟨rfl, fun k hk => ?_⟩
  obtain ⟨v1, v2, v3⟩ := hF k hk
  have hsz : ((sz Y.lo Y.hi k : Nat) : Int) = Y.hi k - Y.lo k + 1 := Int.toNat_of_nonneg (by omega)
  have hml : divN (sz Y.lo Y.hi) m k % sz Y.lo Y.hi k < sz Y.lo Y.hi k := Nat.mod_lt _ (by omega)
  rw [nthB, if_pos hk]
  generalize divN (sz Y.lo Y.hi) m k % sz Y.lo Y.hi k = r at hml
  omega
def s64 : SCode := (.seq (.ops [⟨(some 1), none, .box (T 0)⟩, ⟨(some 2), none, .mov (.const (.slice none 0 0))⟩]) (.seq (.ops [⟨(some 3), none, .mov (.const (.slice none 0 0))⟩]) (.seq (.seq (.ops [⟨(some 4), none, .mov (.const (.int .i64 (0)))⟩]) (.block 0 (.loop (.seq (.seq (.ops [⟨(some 6), none, .mov (T 4)⟩, ⟨(some 7), none, .loadN 3 (T 1)⟩, ⟨(some 8), none, .call (.func 108) [(T 7)]⟩, ⟨(some 9), none, .int2 .lss (T 6) (T 8)⟩]) (.cond (T 9) .skip (.exit 0))) (.seq (.block 1 (.seq (.ops [⟨(some 12), none, .loadN 3 (T 1)⟩, ⟨(some 13), none, .mov (T 4)⟩, ⟨(some 14), none, .call (.func 109) [(T 12), (T 13)]⟩, ⟨(some 5), none, .mov (T 14)⟩]) (.seq (.draw [⟨.rd1, ⟨(some 15), none, .loadN 3 (T 1)⟩⟩, ⟨.free, ⟨(some 16), none, .mov (T 5)⟩⟩, ⟨.up, ⟨(some 17), none, .call (.func 88) [(T 15), (T 16)]⟩⟩, ⟨.rd, ⟨(some 18), none, .loadN 3 (T 1)⟩⟩, ⟨.any, ⟨(some 19), none, .call (.func 70) [(T 18)]⟩⟩, ⟨.free, ⟨(some 20), none, .int2 .eql (T 17) (T 19)⟩⟩]) (.cond (T 20) (.ops [⟨(some 21), none, .mov (T 3)⟩, ⟨(some 22), none, .mov (T 5)⟩, ⟨(some 23), none, .bslice 1 1 [(.slice none 0 0)] [0] [(T 22)]⟩, ⟨(some 24), none, .append 1 24 (T 21) (T 23)⟩, ⟨(some 3), none, .mov (T 24)⟩]) .skip)))) (.ops [⟨(some 10), none, .mov (T 4)⟩, ⟨(some 11), none, .int2 .add (T 10) (.const (.int .i64 (1)))⟩, ⟨(some 4), none, .mov (T 11)⟩])))))) (.seq (.ops [⟨(some 25), none, .mov (T 3)⟩, ⟨(some 2), none, .mov (T 25)⟩]) .ret))))
theorem fok64 : FnOk Try.prog 64 26 s64 [.tmp 2] := ⟨Try.f64, _, Try.func64, rfl, Try.ntmps64, by kernel_rfl, by kernel_rfl⟩
theorem truthsRef_c (hn : 10010 ≤ n) (hr : h.next + 200000 < far) (hfl : h.floor ≤ h.next) {fv vv sv : Value} {Y : MY} (hy : YardR h fv vv sv Y) (hf : faultN Y = 0) :
    ∃ v h', call n (.func (.func 64) #[] #[]) [.agg ⟨[fv, vv, sv]⟩] h = some (v, h') ∧ TruthsL h' v Y.nf (refTruthsTo Y (manyN Y.lo Y.hi Y.nf).toNat) ∧ Made h h' 100000 := by
  obtain ⟨n, rfl⟩ : ∃ p, n = p + 1 := ⟨n - 1, by omega⟩
  obtain ⟨hG, hsz⟩ := fault_size hf
  obtain ⟨z1, z2, z3⟩ := hG.sz
  have hF : ∀ k, k < Y.nf → 0 ≤ Y.lo k ∧ Y.lo k ≤ Y.hi k ∧ Y.hi k ≤ 20 := hG.f
  have hmany := sizeN_many z1 hF Y.nf (Nat.le_refl _)
  obtain ⟨b1, _⟩ := sizeN_bound z1 hF Y.nf (Nat.le_refl _)
  obtain ⟨M, hM⟩ : ∃ M : Nat, manyN Y.lo Y.hi Y.nf = M := ⟨(manyN Y.lo Y.hi Y.nf).toNat, by omega⟩
  have hM2 : M ≤ 2000 := by omega
  rw [hM, Int.toNat_natCast]
  refine call_any0 fok64 rfl rfl (by simp) ?_
  simp only [s64, W_seq, W_ops]
  refine ops_box (cs := [fv, vv, sv]) (by omega) rfl hy.one fun g1 hx1 => ?_
  have n1 := hx1.next
  have f1' := hx1.floor
  simp only [rn0, rn1, rn2, rn3, rn4, rn5, rn6, rn7, rn8, if_true, if_false, Nat.le_refl, true_and, and_true, decide_true, decide_false, Bool.not_true, Bool.not_false, reduceIte, Nat.reduceEqDiff, Nat.reduceAdd, Nat.reduceMul, Nat.reduceSub, Nat.reduceLeDiff, Nat.reduceLT]
  refine W_loop M (fun k f g ms => (∃ v, Sub All g1 g ∧ g.floor = g1.floor ∧ g1.next ≤ g.next ∧ g.next ≤ g1.next + 30 * k ∧ GrowRows g1.next g v (refTruthsTo Y k).length (fun _ => Y.nf) (fun i => (refTruthsTo Y k).getD i fun _ => 0) ∧ f 3 = v) ∧ ms = [] ∧ f 1 = .pointer (some ⟨h.next, 0, none⟩) ∧ f 4 = .int .i64 (k : Int)) (by simp; omega) ?_ ?_ ?_
  · simp only [rn0, rn1, rn2, rn3, rn4, rn5, rn6, rn7, rn8, if_true, if_false, Nat.le_refl, true_and, and_true, decide_true, decide_false, Bool.not_true, Bool.not_false, reduceIte, Nat.reduceEqDiff, Nat.reduceAdd, Nat.reduceMul, Nat.reduceSub, Nat.reduceLeDiff, Nat.reduceLT]
    exact ⟨⟨_, by omega, .nil, rfl⟩, rfl⟩
  · rintro k f g ms hk ⟨⟨v, hs, hfg, hup, hnx, gv, f3⟩, rfl, f1, f4⟩
    have hk' : (k : Int) < (M : Int) := by omega
    have hw : wrapF .i64 ((k : Int) + 1) = ((k + 1 : Nat) : Int) := by rw [wrap_in (by omega) (by omega)]; rfl
    have hyg := (hy.mono hx1.sub).mono hs
    have w1 := (hx1.row.mono hs).whole (n := 3) rfl
    have em := many_c (n := n) (h := g) (by omega) (by omega) hyg (by omega) hF
    rw [hM] at em
    obtain ⟨l, g2, e2, hl2, m2, hl1, hlb⟩ := nth_c (n := n) (h := g) (m := k) (by omega) (by omega) (by omega) hyg z1 hG.f (by omega)
    have n2 := m2.next
    have u2 := m2.up
    have f2 := m2.floor
    have hyg2 := hyg.mono m2.sub
    have w2 := (hx1.row.mono (hs.trans m2.sub)).whole (n := 3) rfl
    have er := right_c (n := n) (h := g2) (b := nthB Y.lo Y.hi Y.nf k) (by omega) (by omega) hyg2 hl2 hG (nthB_are hG.f)
    have ef := full_c (n := n) (h := g2) (by omega) (by omega) hyg2 z3
    have hself := hyg2.self
    by_cases ht : ∀ j, j < Y.ns → RightB Y (nthB Y.lo Y.hi Y.nf k) j
    · have he : ((rightN Y (nthB Y.lo Y.hi Y.nf k) Y.ns : Nat) : Int) = ((2 ^ Y.ns - 1 : Nat) : Int) := by rw [(rightN_full Y _ Y.ns).2 ht]
      have hsucc : refTruthsTo Y (k + 1) = refTruthsTo Y k ++ [nthB Y.lo Y.hi Y.nf k] := by rw [refTruthsTo_succ, if_pos ht]
      have hlk := refTruthsTo_len (Y := Y) (m := k)
      simp only [rn0, rn1, rn2, rn3, rn4, rn5, rn6, rn7, rn8, if_true, if_false, Nat.le_refl, true_and, and_true, decide_true, decide_false, Bool.not_true, Bool.not_false, reduceIte, Nat.reduceEqDiff, Nat.reduceAdd, Nat.reduceMul, Nat.reduceSub, Nat.reduceLeDiff, Nat.reduceLT, f1, f3, f4, w1, em, hk', e2]
      refine W_draw All ?_
      simp only [rn0, rn1, rn2, rn3, rn4, rn5, rn6, rn7, rn8, if_true, if_false, Nat.le_refl, true_and, and_true, decide_true, decide_false, Bool.not_true, Bool.not_false, reduceIte, Nat.reduceEqDiff, Nat.reduceAdd, Nat.reduceMul, Nat.reduceSub, Nat.reduceLeDiff, Nat.reduceLT, f1, f3, f4, w2, er, ef, hself, he, sl_row hl1]
      refine step_slice (by omega) (by simp [allB, hl1]) fun g3 hx3 => ?_
      have n3 := hx3.next
      have f3' := hx3.floor
      have gv2 : GrowRows g1.next g2 v (refTruthsTo Y k).length (fun _ => Y.nf) (fun i => (refTruthsTo Y (k + 1)).getD i fun _ => 0) := (gv.sub m2.sub u2).congr (fun _ _ => rfl) fun i hi => by
        rw [hsucc, List.getD_eq_getElem?_getD, List.getD_eq_getElem?_getD, List.getElem?_append_left hi]
      have hvb : ∀ b k' c, v = .slice (some b) k' c → b.block < g.next := fun b k' c e => by
        obtain ⟨r, q1, _⟩ := gv
        exact (q1.block e).2
      obtain ⟨v', g4, e4, gv4, hk4, hv1, hvB⟩ := gv2.push (h1 := g3) (l := l) (by omega) (by omega) (by omega) (by
        have : (refTruthsTo Y (k + 1)).getD (refTruthsTo Y k).length (fun _ => 0) = nthB Y.lo Y.hi Y.nf k := by rw [hsucc, List.getD_eq_getElem?_getD, List.getElem?_append_right (Nat.le_refl _)]; simp
        rw [this]; exact hl2) hl1 (fun a k' c e => by
        obtain ⟨q1, q2⟩ := hlb a k' c e
        exact ⟨by omega, q2, fun b m' c' e' => by have := hvb b m' c' e'; omega⟩) hx3 (by simp [maxBytes]; omega) (by simp [maxBytes]; omega)
      have n4 := hk4.next
      have f4' := hk4.floor
      simp only [rn0, rn1, rn2, rn3, rn4, rn5, rn6, rn7, rn8, if_true, if_false, Nat.le_refl, true_and, and_true, decide_true, decide_false, Bool.not_true, Bool.not_false, reduceIte, Nat.reduceEqDiff, Nat.reduceAdd, Nat.reduceMul, Nat.reduceSub, Nat.reduceLeDiff, Nat.reduceLT, f1, f4, e4, hw]
      refine ⟨v', fun i cs w gr t hg => ?_, by omega, by omega, by omega, by rw [hsucc, List.length_append, List.length_singleton, ← hsucc]; exact gv4, rfl⟩
      have hlt := AHeap.lt_of_get hg
      rw [hk4.old i (by omega) fun b q z e => by have := hvB b q z e; omega]
      exact hx3.sub _ _ _ _ t (m2.sub _ _ _ _ t (hs _ _ _ _ t hg))
    · have he : ¬ ((rightN Y (nthB Y.lo Y.hi Y.nf k) Y.ns : Nat) : Int) = ((2 ^ Y.ns - 1 : Nat) : Int) := fun e => ht ((rightN_full Y _ Y.ns).1 (by omega))
      have hsucc : refTruthsTo Y (k + 1) = refTruthsTo Y k := by rw [refTruthsTo_succ, if_neg ht, List.append_nil]
      simp only [rn0, rn1, rn2, rn3, rn4, rn5, rn6, rn7, rn8, if_true, if_false, Nat.le_refl, true_and, and_true, decide_true, decide_false, Bool.not_true, Bool.not_false, reduceIte, Nat.reduceEqDiff, Nat.reduceAdd, Nat.reduceMul, Nat.reduceSub, Nat.reduceLeDiff, Nat.reduceLT, f1, f3, f4, w1, em, hk', e2]
      refine W_draw All ?_
      simp only [rn0, rn1, rn2, rn3, rn4, rn5, rn6, rn7, rn8, if_true, if_false, Nat.le_refl, true_and, and_true, decide_true, decide_false, Bool.not_true, Bool.not_false, reduceIte, Nat.reduceEqDiff, Nat.reduceAdd, Nat.reduceMul, Nat.reduceSub, Nat.reduceLeDiff, Nat.reduceLT, f1, f3, f4, w2, er, ef, hself, he, hw]
      rw [hsucc]
      exact ⟨v, hs.trans m2.sub, by omega, by omega, by omega, gv.sub m2.sub u2, rfl⟩
  · rintro f g ms ⟨⟨v, hs, hfg, hup, hnx, gv, f3⟩, rfl, f1, f4⟩
    have hyg := (hy.mono hx1.sub).mono hs
    have w1 := (hx1.row.mono hs).whole (n := 3) rfl
    have em := many_c (n := n) (h := g) (by omega) (by omega) hyg (by omega) hF
    rw [hM] at em
    simp only [rn0, rn1, rn2, rn3, rn4, rn5, rn6, rn7, rn8, if_true, if_false, Nat.le_refl, true_and, and_true, decide_true, decide_false, Bool.not_true, Bool.not_false, reduceIte, Nat.reduceEqDiff, Nat.reduceAdd, Nat.reduceMul, Nat.reduceSub, Nat.reduceLeDiff, Nat.reduceLT, f1, f3, f4, w1, em, Int.lt_irrefl]
    exact ⟨gv.rows, ⟨hx1.sub.trans hs, by omega, by omega, by omega⟩⟩
/-! The same truths, in another order -/
def encF (s d : Nat → Nat) : Nat → Nat → Nat
  | 0, _ => 0
  | c + 1, i => d i + s i * encF s d c (i + 1)
theorem encF_div {s d : Nat → Nat} {nf : Nat} (hd : ∀ i, i < nf → d i < s i) : ∀ k, k ≤ nf → divN s (encF s d nf 0) k = encF s d (nf - k) k := by
  intro k
  induction k with
  | zero => intro _; rfl
  | succ k ih =>
    intro hk
    have h1 := hd k (by omega)
    obtain ⟨c, hc⟩ : ∃ c, nf - k = c + 1 := ⟨nf - k - 1, by omega⟩
    simp only [divN]
    rw [ih (by omega), hc, show nf - (k + 1) = c by omega]
    simp only [encF]
    rw [Nat.add_mul_div_left _ _ (by omega), Nat.div_eq_of_lt h1, Nat.zero_add]
theorem encF_mod {s d : Nat → Nat} {nf : Nat} (hd : ∀ i, i < nf → d i < s i) {k : Nat} (hk : k < nf) : divN s (encF s d nf 0) k % s k = d k := by
  rw [encF_div hd k (by omega)]
  obtain ⟨c, hc⟩ : ∃ c, nf - k = c + 1 := ⟨nf - k - 1, by omega⟩
  rw [hc]
  simp only [encF]
  rw [Nat.add_mul_mod_self_left, Nat.mod_eq_of_lt (hd k hk)]
def prodN (s : Nat → Nat) : Nat → Nat → Nat
  | 0, _ => 1
  | c + 1, i => s i * prodN s c (i + 1)
theorem encF_lt {s d : Nat → Nat} : ∀ (c i : Nat), (∀ j, i ≤ j → j < i + c → d j < s j) → encF s d c i < prodN s c i
  | 0, i, _ => by simp [encF, prodN]
  | c + 1, i, hd => by
    have h1 := hd i (by omega) (by omega)
    have h2 := encF_lt c (i + 1) fun j h1 h2 => hd j (by omega) (by omega)
    simp only [encF, prodN]
    have h3 : s i * (encF s d c (i + 1) + 1) ≤ s i * prodN s c (i + 1) := Nat.mul_le_mul_left _ h2
    rw [Nat.mul_add, Nat.mul_one] at h3
    omega
theorem prodN_from {lo hi : Nat → Int} : ∀ (c i : Nat), (∀ j, i ≤ j → j < i + c → lo j ≤ hi j) → ((prodN (sz lo hi) c i : Nat) : Int) = prodFrom lo hi c i
  | 0, i, _ => rfl
  | c + 1, i, hv => by
    have h1 := hv i (by omega) (by omega)
    have h2 := prodN_from (lo := lo) (hi := hi) c (i + 1) fun j h1 h2 => hv j (by omega) (by omega)
    have hsz : ((sz lo hi i : Nat) : Int) = hi i - lo i + 1 := Int.toNat_of_nonneg (by omega)
    simp only [prodN, prodFrom]
    rw [Int.natCast_mul, h2, hsz]
noncomputable def refTruths (Y : MY) : List (Nat → Int) := refTruthsTo Y (manyN Y.lo Y.hi Y.nf).toNat
theorem refTruths_mem {Y : MY} (hf : faultN Y = 0) {x : Nat → Int} : x ∈ refTruths Y ↔ x ∈ truths Y := by
  obtain ⟨hG, hsz⟩ := fault_size hf
  have hF : ∀ k, k < Y.nf → 0 ≤ Y.lo k ∧ Y.lo k ≤ Y.hi k ∧ Y.hi k ≤ 20 := hG.f
  have hmany := sizeN_many hG.sz.1 hF Y.nf (Nat.le_refl _)
  obtain ⟨b1, _⟩ := sizeN_bound hG.sz.1 hF Y.nf (Nat.le_refl _)
  have hprod := sizeN_prod (lo := Y.lo) (hi := Y.hi) Y.nf 0
  simp only [Nat.zero_add, sizeN, Int.one_mul] at hprod
  have hpN := prodN_from (lo := Y.lo) (hi := Y.hi) Y.nf 0 fun j _ hj => (hF j (by omega)).2.1
  have hM : (manyN Y.lo Y.hi Y.nf).toNat = prodN (sz Y.lo Y.hi) Y.nf 0 := by omega
  rw [truths_mem]
  unfold refTruths refTruthsTo
  rw [List.mem_filter, List.mem_map]
  simp only [List.mem_range, decide_eq_true_eq]
  constructor
  · rintro ⟨⟨m, _, rfl⟩, h2⟩
    exact ⟨⟨(nthB_are hG.f).2, fun j hj => by rw [nthB, if_neg (by omega)]⟩, h2⟩
  · rintro ⟨⟨h1, h2⟩, h3⟩
    refine ⟨⟨encF (sz Y.lo Y.hi) (fun i => (x i - Y.lo i).toNat) Y.nf 0, ?_, ?_⟩, h3⟩
    · rw [hM]
      refine encF_lt Y.nf 0 fun j _ hj => ?_
      obtain ⟨k1, k2⟩ := h1 j (by omega)
      show (x j - Y.lo j).toNat < (Y.hi j - Y.lo j + 1).toNat
      omega
    · funext j
      by_cases hj : j < Y.nf
      · obtain ⟨k1, k2⟩ := h1 j hj
        rw [nthB, if_pos hj, encF_mod (fun i hi => by
          obtain ⟨k1, k2⟩ := h1 i hi
          show (x i - Y.lo i).toNat < (Y.hi i - Y.lo i + 1).toNat
          omega) hj]
        omega
      · rw [nthB, if_neg hj, h2 j (by omega)]
end Go.Vm.Vat

namespace Go.Vm.Vat
open Go.Proofs
set_option linter.unusedSimpArgs false
set_option linter.unusedVariables false
set_option maxRecDepth 10000
variable {n : Nat} {h : AHeap}
def minN (x : Int) (a : Nat → Int) : Nat → Int
  | 0 => x
  | i + 1 => min (minN x a i) (a i)
def s94 : SCode := (.seq (.ops [⟨(some 4), none, .mov (.const (.int .i64 (0)))⟩]) (.seq (.seq (.ops [⟨(some 7), none, .mov (T 1)⟩, ⟨(some 8), none, .len (T 7)⟩, ⟨(some 9), none, .mov (.const (.int .i64 (0)))⟩]) (.block 0 (.loop (.seq (.ops [⟨(some 10), none, .int2 .lss (T 9) (T 8)⟩]) (.seq (.cond (T 10) .skip (.exit 0)) (.seq (.block 1 (.seq (.ops [⟨(some 11), none, .idxSl 1 (T 7) (T 9)⟩, ⟨(some 12), none, .load1 (T 11)⟩, ⟨(some 6), none, .mov (T 12)⟩]) (.ops [⟨(some 13), none, .mov (T 0)⟩, ⟨(some 14), none, .mov (T 6)⟩, ⟨(some 15), none, .plain (.call { callee := .builtin .min, args := #[(T 13), (T 14)], argTypes := #[3, 3] }) 3⟩, ⟨(some 0), none, .mov (T 15)⟩]))) (.ops [⟨(some 16), none, .int2 .add (T 9) (.const (.int .i64 (1)))⟩, ⟨(some 9), none, .mov (T 16)⟩]))))))) (.seq (.ops [⟨(some 17), none, .mov (T 0)⟩, ⟨(some 4), none, .mov (T 17)⟩]) .ret)))
theorem fok94 : FnOk Try.prog 94 18 s94 [.tmp 4] := ⟨Try.f94, _, Try.func94, rfl, Try.ntmps94, by kernel_rfl, by kernel_rfl⟩
theorem minimum_c {m : Nat} (hn : m + 2 ≤ n) (hm : m ≤ 1000) {v : Value} {a : Nat → Int} (hi : Ints h v m a) (x : Int) : call n (.func (.func 94) #[] #[]) [.int .i64 x, v] h = some (.int .i64 (minN x a m), h) := by
  obtain ⟨n, rfl⟩ : ∃ p, n = p + 1 := ⟨n - 1, by omega⟩
  refine call_plain0 fok94 rfl rfl (by simp) rfl ?_
  have hi := Cells.shut hi
  generalize h.shutAll = h at hi
  simp only [rn0, rn1, rn2, rn3, rn4, rn5, rn6, rn7, rn8, if_true, if_false, Nat.le_refl, true_and, and_true, decide_true, decide_false, Bool.not_true, Bool.not_false, reduceIte, Nat.reduceEqDiff, Nat.reduceAdd, Nat.reduceMul, Nat.reduceSub, Nat.reduceLeDiff, Nat.reduceLT, s94, Cells.len hi]
  refine W_loop m (fun k f g ms => g = h ∧ ms = [] ∧ f 0 = .int .i64 (minN x a k) ∧ f 7 = v ∧ f 8 = .int .i64 (m : Int) ∧ f 9 = .int .i64 (k : Int)) (by simp; omega) ?_ ?_ ?_
  · simp only [rn0, rn1, rn2, rn3, rn4, rn5, rn6, rn7, rn8, if_true, if_false, Nat.le_refl, true_and, and_true, decide_true, decide_false, Bool.not_true, Bool.not_false, reduceIte, Nat.reduceEqDiff, Nat.reduceAdd, Nat.reduceMul, Nat.reduceSub, Nat.reduceLeDiff, Nat.reduceLT]
    exact ⟨rfl, rfl⟩
  · rintro k f g ms hk ⟨rfl, rfl, f0, f7, f8, f9⟩
    have hk' : (k : Int) < (m : Int) := by omega
    have hw : wrapF .i64 ((k : Int) + 1) = ((k + 1 : Nat) : Int) := by rw [wrap_in (by omega) (by omega)]; rfl
    have he : min (minN x a k) (a k) = minN x a (k + 1) := rfl
    simp only [rn0, rn1, rn2, rn3, rn4, rn5, rn6, rn7, rn8, if_true, if_false, Nat.le_refl, true_and, and_true, decide_true, decide_false, Bool.not_true, Bool.not_false, reduceIte, Nat.reduceEqDiff, Nat.reduceAdd, Nat.reduceMul, Nat.reduceSub, Nat.reduceLeDiff, Nat.reduceLT, f0, f7, f8, f9, hk', Cells.idx hi hk, Cells.ld hi hk Nat.zero_lt_one, valN_tmp, Nat.reduceLT, he, hw]
  · rintro f g ms ⟨rfl, rfl, f0, f7, f8, f9⟩
    simp only [rn0, rn1, rn2, rn3, rn4, rn5, rn6, rn7, rn8, if_true, if_false, Nat.le_refl, true_and, and_true, decide_true, decide_false, Bool.not_true, Bool.not_false, reduceIte, Nat.reduceEqDiff, Nat.reduceAdd, Nat.reduceMul, Nat.reduceSub, Nat.reduceLeDiff, Nat.reduceLT, f0, f7, f8, f9, Int.lt_irrefl]
def s98 : SCode := (.seq (.ops [⟨(some 2), none, .box (T 0)⟩, ⟨(some 4), none, .mov (.const (.bool false))⟩]) (.seq (.ops [⟨(some 5), none, .mov (T 1)⟩, ⟨(some 6), none, .int2 .leq (.const (.int .i64 (0))) (T 5)⟩, ⟨(some 7), none, .mov (T 6)⟩, ⟨(some 8), (some (7, true)), .mov (T 1)⟩, ⟨(some 9), (some (7, true)), .fieldAddr 0 (T 2)⟩, ⟨(some 10), (some (7, true)), .fieldAddr 0 (T 9)⟩, ⟨(some 11), (some (7, true)), .load1 (T 10)⟩, ⟨(some 12), (some (7, true)), .len (T 11)⟩, ⟨(some 13), (some (7, true)), .int2 .lss (T 8) (T 12)⟩, ⟨(some 14), none, .pick (T 7) (T 13) (.const (.bool false))⟩, ⟨(some 4), none, .mov (T 14)⟩]) .ret))
theorem fok98 : FnOk Try.prog 98 15 s98 [.tmp 4] := ⟨Try.f98, _, Try.func98, rfl, Try.ntmps98, by kernel_rfl, by kernel_rfl⟩
theorem hasField_c (hn : 1 ≤ n) (hr : h.next < far) {F V S T : Value} {s m : Nat} {c : Nat → Nat → Value} (hv : Cells h F s m c) (h1 : allB oneCell [F, V, S, T] = true) (at_ : Int) :
    call n (.func (.func 98) #[] #[]) [.agg ⟨[F, V, S, T]⟩, .int .i64 at_] h = some (.bool (decide (0 ≤ at_ ∧ at_ ≤ (m : Int) - 1)), h) := by
  obtain ⟨n, rfl⟩ : ∃ p, n = p + 1 := ⟨n - 1, by omega⟩
  refine call_plain0 fok98 rfl rfl (by simp) rfl ?_
  have hv := Cells.shut hv
  have hr : h.shutAll.next < far := hr
  generalize h.shutAll = h at hv hr
  simp only [s98, W_seq, W_ops]
  refine ops_box (cs := [F, V, S, T]) (by omega) rfl h1 fun g1 hx => ?_
  have hv1 := Cells.mono hv hx.sub
  by_cases c1 : 0 ≤ at_
  · by_cases c2 : at_ < (m : Int)
    · have c3 : at_ ≤ (m : Int) - 1 := by omega
      simp only [rn0, rn1, rn2, rn3, rn4, rn5, rn6, rn7, rn8, if_true, if_false, Nat.le_refl, true_and, and_true, decide_true, decide_false, Bool.not_true, Bool.not_false, reduceIte, Nat.reduceEqDiff, Nat.reduceAdd, Nat.reduceMul, Nat.reduceSub, Nat.reduceLeDiff, Nat.reduceLT, hx.ld, Nat.zero_add, List.getElem?_cons_zero, List.getElem?_cons_succ, Cells.len hv1, c1, c2, c3, and_self]
    · have c3 : ¬ at_ ≤ (m : Int) - 1 := by omega
      simp only [rn0, rn1, rn2, rn3, rn4, rn5, rn6, rn7, rn8, if_true, if_false, Nat.le_refl, true_and, and_true, decide_true, decide_false, Bool.not_true, Bool.not_false, reduceIte, Nat.reduceEqDiff, Nat.reduceAdd, Nat.reduceMul, Nat.reduceSub, Nat.reduceLeDiff, Nat.reduceLT, hx.ld, Nat.zero_add, List.getElem?_cons_zero, List.getElem?_cons_succ, Cells.len hv1, c1, c2, c3, and_false]
  · simp only [rn0, rn1, rn2, rn3, rn4, rn5, rn6, rn7, rn8, if_true, if_false, Nat.le_refl, true_and, and_true, decide_true, decide_false, Bool.not_true, Bool.not_false, reduceIte, Nat.reduceEqDiff, Nat.reduceAdd, Nat.reduceMul, Nat.reduceSub, Nat.reduceLeDiff, Nat.reduceLT, hx.ld, Nat.zero_add, List.getElem?_cons_zero, List.getElem?_cons_succ, Cells.len hv1, c1, false_and]
/-- what 'openTrue' answers -/
def OpenTR (h : AHeap) (Y : MY) (F V S v : Value) (h' : AHeap) : Prop := Made h h' 240000 ∧
  ((faultN Y ≠ 0 ∧ v = .tuple ⟨[.agg ⟨[nilS, nilS, nilS, nilS]⟩, .int .i64 (faultN Y)]⟩) ∨ (faultN Y = 0 ∧ truths Y = [] ∧ v = .tuple ⟨[.agg ⟨[nilS, nilS, nilS, nilS]⟩, .int .i64 11]⟩) ∨
    (faultN Y = 0 ∧ truths Y ≠ [] ∧ ∃ tv, v = .tuple ⟨[.agg ⟨[F, V, S, tv]⟩, .int .i64 0]⟩ ∧ TruthsR h' tv (truths Y) ∧ Long tv))
def s89 : SCode := (.seq (.ops [⟨(some 1), none, .box (T 0)⟩, ⟨(some 2), none, .alloc [(.slice none 0 0), (.slice none 0 0), (.slice none 0 0), (.slice none 0 0)]⟩, ⟨(some 3), none, .mov (.const (.int .i64 (0)))⟩]) (.seq (.ops [⟨(some 7), none, .loadN 3 (T 1)⟩, ⟨(some 8), none, .call (.func 78) [(T 7)]⟩, ⟨(some 6), none, .mov (T 8)⟩, ⟨(some 9), none, .extract 0 (T 6)⟩, ⟨(some 10), none, .extract 1 (T 6)⟩, ⟨(some 4), none, .alloc [(.slice none 0 0), (.slice none 0 0), (.slice none 0 0), (.slice none 0 0)]⟩, ⟨none, none, .store 4 (T 4) (T 9)⟩, ⟨(some 5), none, .mov (T 10)⟩]) (.seq (.seq (.ops [⟨(some 11), none, .mov (T 5)⟩, ⟨(some 12), none, .int2 .eql (T 11) (.const (.int .i64 (0)))⟩, ⟨(some 13), none, .mov (T 12)⟩, ⟨(some 14), (some (13, true)), .fieldAddr 3 (T 4)⟩, ⟨(some 15), (some (13, true)), .load1 (T 14)⟩, ⟨(some 16), (some (13, true)), .len (T 15)⟩, ⟨(some 17), (some (13, true)), .int2 .eql (T 16) (.const (.int .i64 (0)))⟩, ⟨(some 18), none, .pick (T 13) (T 17) (.const (.bool false))⟩]) (.cond (T 18) (.seq (.ops [⟨(some 19), none, .build #[(0, 3), (3, 1)] [(.slice none 0 0), (.slice none 0 0), (.slice none 0 0), (.slice none 0 0)] [] []⟩, ⟨none, none, .store 4 (T 2) (T 19)⟩, ⟨(some 3), none, .mov (.const (.int .i64 (11)))⟩]) .ret) .skip)) (.seq (.ops [⟨(some 20), none, .loadN 4 (T 4)⟩, ⟨(some 21), none, .mov (T 5)⟩, ⟨none, none, .store 4 (T 2) (T 20)⟩, ⟨(some 3), none, .mov (T 21)⟩]) .ret))))
theorem fok89 : FnOk Try.prog 89 22 s89 [.cellN 2 4, .tmp 3] := ⟨Try.f89, _, Try.func89, rfl, Try.ntmps89, by kernel_rfl, by kernel_rfl⟩
theorem openTrue_c (hn : 10050 ≤ n) (hr : h.next + 400000 < far) (hfl : h.floor ≤ h.next) {F V S : Value} {Y : MY} (hy : YardR h F V S Y) (hY : Thin Y) :
    ∃ v h', call n (.func (.func 89) #[] #[]) [.agg ⟨[F, V, S]⟩] h = some (v, h') ∧ OpenTR h Y F V S v h' := by
  obtain ⟨n, rfl⟩ : ∃ p, n = p + 1 := ⟨n - 1, by omega⟩
  refine call_any0 fok89 rfl rfl (by simp) ?_
  simp only [s89, W_seq, W_ops]
  refine ops_box (cs := [F, V, S]) (by omega) rfl hy.one fun g1 hx1 => ?_
  have n1 := hx1.next
  have f1 := hx1.floor
  simp only [rn0, rn1, rn2, rn3, rn4, rn5, rn6, rn7, rn8, if_true, if_false, Nat.le_refl, true_and, and_true, decide_true, decide_false, Bool.not_true, Bool.not_false, reduceIte, Nat.reduceEqDiff, Nat.reduceAdd, Nat.reduceMul, Nat.reduceSub, Nat.reduceLeDiff, Nat.reduceLT]
  refine step_row (cs := [nilS, nilS, nilS, nilS]) (by omega) rfl rfl fun g2 hx2 => ?_
  have n2 := hx2.next
  have f2 := hx2.floor
  have w2 := (hx1.row.mono hx2.sub).whole (n := 3) rfl
  obtain ⟨v, g3, eo, hm, ho⟩ := open_c (n := n) (h := g2) (by omega) (by omega) (by omega) ((hy.mono hx1.sub).mono hx2.sub) hY
  have n3 := hm.next
  have u3 := hm.up
  have f3 := hm.floor
  have hres : g3.get g1.next = some (.row [nilS, nilS, nilS, nilS] true 0) := hm.sub _ _ _ _ trivial hx2.get
  have hs3 : Sub All h g3 := hx1.sub.trans (hx2.sub.trans hm.sub)
  -- how it ends
  have fin : ∀ (g4 g5 : AHeap) (cs : List Value), Sub All h g4 → New g3 g4 cs 0 → ∀ (vs : List Value), Set1 g4 g5 g1.next vs 0 → Made h g5 240000 := fun g4 g5 cs hs hx vs hst => by
    have := hx.next
    have := hst.next
    have := hx.floor
    have := hst.floor
    exact ⟨fun i cs w gr t hg => by rw [hst.old i (by have := AHeap.lt_of_get hg; omega)]; exact hs _ _ _ _ t hg, by omega, by omega, by omega⟩
  rcases ho with ⟨hf, rfl⟩ | ⟨hf, tv, rfl, htr, hlong⟩
  · simp only [rn0, rn1, rn2, rn3, rn4, rn5, rn6, rn7, rn8, if_true, if_false, Nat.le_refl, true_and, and_true, decide_true, decide_false, Bool.not_true, Bool.not_false, reduceIte, Nat.reduceEqDiff, Nat.reduceAdd, Nat.reduceMul, Nat.reduceSub, Nat.reduceLeDiff, Nat.reduceLT, w2, eo, ex0, ex1]
    refine step_new (vs := [nilS, nilS, nilS, nilS]) (by omega) (by omega) rfl (by simp only [rn0, rn1, rn2, rn3, rn4, rn5, rn6, rn7, rn8, if_true, if_false, Nat.le_refl, true_and, and_true, decide_true, decide_false, Bool.not_true, Bool.not_false, reduceIte, Nat.reduceEqDiff, Nat.reduceAdd, Nat.reduceMul, Nat.reduceSub, Nat.reduceLeDiff, Nat.reduceLT]; rfl) rfl rfl rfl fun g4 hx4 => ?_
    have w4 := hx4.row.whole (n := 4) rfl
    have n4 := hx4.next
    have f4 := hx4.floor
    simp only [rn0, rn1, rn2, rn3, rn4, rn5, rn6, rn7, rn8, if_true, if_false, Nat.le_refl, true_and, and_true, decide_true, decide_false, Bool.not_true, Bool.not_false, reduceIte, Nat.reduceEqDiff, Nat.reduceAdd, Nat.reduceMul, Nat.reduceSub, Nat.reduceLeDiff, Nat.reduceLT, hf, w4]
    refine step_store (vs := [nilS, nilS, nilS, nilS]) rfl (hx4.sub _ _ _ _ trivial hres) (by omega) (by omega) rfl rfl rfl (by simp) fun g5 hs5 => ?_
    rw [splice_all rfl] at hs5
    simp only [rn0, rn1, rn2, rn3, rn4, rn5, rn6, rn7, rn8, if_true, if_false, Nat.le_refl, true_and, and_true, decide_true, decide_false, Bool.not_true, Bool.not_false, reduceIte, Nat.reduceEqDiff, Nat.reduceAdd, Nat.reduceMul, Nat.reduceSub, Nat.reduceLeDiff, Nat.reduceLT, res_two, hs5.row.whole (n := 4) rfl]
    exact ⟨fin g4 g5 _ (hs3.trans hx4.sub) hx4 _ hs5, .inl ⟨hf, rfl⟩⟩
  · have ho4 : allB oneCell [F, V, S, tv] = true := by have h1 := hy.one; have h2 := Cells.one htr; simp [allB] at h1 ⊢; simp [h1, h2]
    simp only [rn0, rn1, rn2, rn3, rn4, rn5, rn6, rn7, rn8, if_true, if_false, Nat.le_refl, true_and, and_true, decide_true, decide_false, Bool.not_true, Bool.not_false, reduceIte, Nat.reduceEqDiff, Nat.reduceAdd, Nat.reduceMul, Nat.reduceSub, Nat.reduceLeDiff, Nat.reduceLT, w2, eo, ex0, ex1]
    refine step_new (vs := [F, V, S, tv]) (by omega) (by omega) rfl (by simp only [rn0, rn1, rn2, rn3, rn4, rn5, rn6, rn7, rn8, if_true, if_false, Nat.le_refl, true_and, and_true, decide_true, decide_false, Bool.not_true, Bool.not_false, reduceIte, Nat.reduceEqDiff, Nat.reduceAdd, Nat.reduceMul, Nat.reduceSub, Nat.reduceLeDiff, Nat.reduceLT]; rfl) ho4 rfl rfl fun g4 hx4 => ?_
    have w4 := hx4.row.whole (n := 4) rfl
    have n4 := hx4.next
    have f4 := hx4.floor
    have htr4 : TruthsR g4 tv (truths Y) := Cells.mono htr hx4.sub
    by_cases he : truths Y = []
    · have hl : (truths Y).length = 0 := by rw [he]; rfl
      simp only [rn0, rn1, rn2, rn3, rn4, rn5, rn6, rn7, rn8, if_true, if_false, Nat.le_refl, true_and, and_true, decide_true, decide_false, Bool.not_true, Bool.not_false, reduceIte, Nat.reduceEqDiff, Nat.reduceAdd, Nat.reduceMul, Nat.reduceSub, Nat.reduceLeDiff, Nat.reduceLT, hx4.row.ld, Nat.zero_add, List.getElem?_cons_zero, List.getElem?_cons_succ, Cells.len htr4, hl, Int.natCast_zero, build_work0]
      refine step_store (vs := [nilS, nilS, nilS, nilS]) rfl (hx4.sub _ _ _ _ trivial hres) (by omega) (by omega) rfl rfl rfl (by simp) fun g5 hs5 => ?_
      rw [splice_all rfl] at hs5
      simp only [rn0, rn1, rn2, rn3, rn4, rn5, rn6, rn7, rn8, if_true, if_false, Nat.le_refl, true_and, and_true, decide_true, decide_false, Bool.not_true, Bool.not_false, reduceIte, Nat.reduceEqDiff, Nat.reduceAdd, Nat.reduceMul, Nat.reduceSub, Nat.reduceLeDiff, Nat.reduceLT, res_two, hs5.row.whole (n := 4) rfl]
      exact ⟨fin g4 g5 _ (hs3.trans hx4.sub) hx4 _ hs5, .inr (.inl ⟨hf, he, rfl⟩)⟩
    · have hl : ¬ ((truths Y).length : Int) = 0 := fun e => he (List.eq_nil_of_length_eq_zero (by omega))
      simp only [rn0, rn1, rn2, rn3, rn4, rn5, rn6, rn7, rn8, if_true, if_false, Nat.le_refl, true_and, and_true, decide_true, decide_false, Bool.not_true, Bool.not_false, reduceIte, Nat.reduceEqDiff, Nat.reduceAdd, Nat.reduceMul, Nat.reduceSub, Nat.reduceLeDiff, Nat.reduceLT, hx4.row.ld, Nat.zero_add, List.getElem?_cons_zero, List.getElem?_cons_succ, Cells.len htr4, hl, w4]
      refine step_store (vs := [F, V, S, tv]) rfl (hx4.sub _ _ _ _ trivial hres) (by omega) (by omega) rfl ho4 rfl (by simp) fun g5 hs5 => ?_
      rw [splice_all (cs := [nilS, nilS, nilS, nilS]) (vs := [F, V, S, tv]) rfl] at hs5
      simp only [rn0, rn1, rn2, rn3, rn4, rn5, rn6, rn7, rn8, if_true, if_false, Nat.le_refl, true_and, and_true, decide_true, decide_false, Bool.not_true, Bool.not_false, reduceIte, Nat.reduceEqDiff, Nat.reduceAdd, Nat.reduceMul, Nat.reduceSub, Nat.reduceLeDiff, Nat.reduceLT, res_two, hs5.row.whole (n := 4) rfl]
      refine ⟨fin g4 g5 _ (hs3.trans hx4.sub) hx4 _ hs5, .inr (.inr ⟨hf, he, tv, rfl, ?_, hlong⟩)⟩
      obtain ⟨a, cap, e, hsp, h0 | ⟨b, o, cs, w, gr, e1, e2, e3⟩⟩ := htr
      · exact absurd (List.eq_nil_of_length_eq_zero h0) he
      · have hpos : 0 < (truths Y).length := by omega
        have hne : b ≠ g1.next := fun eb => by
          subst eb
          have hrow : (AObj.row cs w gr) = .row [nilS, nilS, nilS, nilS] true 0 := Option.some.inj (e2.symm.trans hres)
          cases hrow
          have := List.mem_of_getElem? (e3 0 0 hpos (by omega))
          simp at this
        exact ⟨a, cap, e, hsp, .inr ⟨b, o, cs, w, gr, e1, by rw [hs5.old b hne]; exact hx4.sub _ _ _ _ trivial e2, e3⟩⟩
/-! ### The law's own: the truths, or an error -/
/-- what 'asked' answers -/
def AskedR (h : AHeap) (Y : MY) (due : Int) (v : Value) (h' : AHeap) : Prop := Made h h' 150000 ∧
  ((faultN Y ≠ 0 ∧ v = .tuple ⟨[nilS, .int .i64 (faultN Y)]⟩) ∨ (faultN Y = 0 ∧ due ≠ 0 ∧ v = .tuple ⟨[nilS, .int .i64 due]⟩) ∨ (faultN Y = 0 ∧ due = 0 ∧ refTruths Y = [] ∧ v = .tuple ⟨[nilS, .int .i64 11]⟩) ∨
    (faultN Y = 0 ∧ due = 0 ∧ refTruths Y ≠ [] ∧ ∃ l, v = .tuple ⟨[l, .int .i64 0]⟩ ∧ TruthsL h' l Y.nf (refTruths Y)))
def s43 : SCode := (.seq (.ops [⟨(some 2), none, .box (T 0)⟩, ⟨(some 4), none, .mov (.const (.slice none 0 0))⟩, ⟨(some 5), none, .mov (.const (.int .i64 (0)))⟩]) (.seq (.seq (.ops [⟨(some 8), none, .loadN 3 (T 2)⟩, ⟨(some 9), none, .call (.func 29) [(T 8)]⟩, ⟨(some 6), none, .mov (T 9)⟩]) (.seq (.ops [⟨(some 10), none, .mov (T 6)⟩, ⟨(some 11), none, .int2 .neq (T 10) (.const (.int .i64 (0)))⟩]) (.cond (T 11) (.seq (.ops [⟨(some 12), none, .mov (T 6)⟩, ⟨(some 4), none, .mov (.const (.slice none 0 0))⟩, ⟨(some 5), none, .mov (T 12)⟩]) .ret) .skip))) (.seq (.seq (.ops [⟨(some 13), none, .mov (T 1)⟩, ⟨(some 14), none, .int2 .neq (T 13) (.const (.int .i64 (0)))⟩]) (.cond (T 14) (.seq (.ops [⟨(some 15), none, .mov (T 1)⟩, ⟨(some 4), none, .mov (.const (.slice none 0 0))⟩, ⟨(some 5), none, .mov (T 15)⟩]) .ret) .skip)) (.seq (.ops [⟨(some 16), none, .loadN 3 (T 2)⟩, ⟨(some 17), none, .call (.func 64) [(T 16)]⟩, ⟨(some 7), none, .mov (T 17)⟩]) (.seq (.seq (.ops [⟨(some 18), none, .mov (T 7)⟩, ⟨(some 19), none, .len (T 18)⟩, ⟨(some 20), none, .int2 .eql (T 19) (.const (.int .i64 (0)))⟩]) (.cond (T 20) (.seq (.ops [⟨(some 4), none, .mov (.const (.slice none 0 0))⟩, ⟨(some 5), none, .mov (.const (.int .i64 (11)))⟩]) .ret) .skip)) (.seq (.ops [⟨(some 21), none, .mov (T 7)⟩, ⟨(some 4), none, .mov (T 21)⟩, ⟨(some 5), none, .mov (.const (.int .i64 (0)))⟩]) .ret))))))
theorem fok43 : FnOk Try.prog 43 22 s43 [.tmp 4, .tmp 5] := ⟨Try.f43, _, Try.func43, rfl, Try.ntmps43, by kernel_rfl, by kernel_rfl⟩
theorem asked_c (hn : 10020 ≤ n) (hr : h.next + 300000 < far) (hfl : h.floor ≤ h.next) {fv vv sv : Value} {Y : MY} (hy : YardR h fv vv sv Y) (due : Int) :
    ∃ v h', call n (.func (.func 43) #[] #[]) [.agg ⟨[fv, vv, sv]⟩, .int .i64 due] h = some (v, h') ∧ AskedR h Y due v h' := by
  obtain ⟨n, rfl⟩ : ∃ p, n = p + 1 := ⟨n - 1, by omega⟩
  refine call_any0 fok43 rfl rfl (by simp) ?_
  simp only [s43, W_seq, W_ops]
  refine ops_box (cs := [fv, vv, sv]) (by omega) rfl hy.one fun g1 hx1 => ?_
  have n1 := hx1.next
  have f1 := hx1.floor
  have hy1 := hy.mono hx1.sub
  have w1 := hx1.row.whole (n := 3) rfl
  have ef := faultL_c (n := n) (h := g1) (by omega) (by omega) hy1
  have m1 : Made h g1 150000 := ⟨hx1.sub, by omega, by omega, f1⟩
  by_cases hf : faultN Y = 0
  case neg =>
    simp only [rn0, rn1, rn2, rn3, rn4, rn5, rn6, rn7, rn8, if_true, if_false, Nat.le_refl, true_and, and_true, decide_true, decide_false, Bool.not_true, Bool.not_false, reduceIte, Nat.reduceEqDiff, Nat.reduceAdd, Nat.reduceMul, Nat.reduceSub, Nat.reduceLeDiff, Nat.reduceLT, w1, ef, hf, ret_tt]
    exact ⟨m1, .inl ⟨hf, rfl⟩⟩
  by_cases hd : due = 0
  case neg =>
    simp only [rn0, rn1, rn2, rn3, rn4, rn5, rn6, rn7, rn8, if_true, if_false, Nat.le_refl, true_and, and_true, decide_true, decide_false, Bool.not_true, Bool.not_false, reduceIte, Nat.reduceEqDiff, Nat.reduceAdd, Nat.reduceMul, Nat.reduceSub, Nat.reduceLeDiff, Nat.reduceLT, w1, ef, hf, hd, ret_tt]
    exact ⟨m1, .inr (.inl ⟨hf, hd, rfl⟩)⟩
  subst hd
  obtain ⟨l, g2, e2, ht, m2⟩ := truthsRef_c (n := n) (h := g1) (by omega) (by omega) (by omega) hy1 hf
  have n2 := m2.next
  have u2 := m2.up
  have f2 := m2.floor
  have hm : Made h g2 150000 := ⟨hx1.sub.trans m2.sub, by omega, by omega, by omega⟩
  obtain ⟨r, q1, q2⟩ := ht
  by_cases he : refTruths Y = []
  · have hl : (refTruthsTo Y (manyN Y.lo Y.hi Y.nf).toNat).length = 0 := by show (refTruths Y).length = 0; rw [he]; rfl
    simp only [rn0, rn1, rn2, rn3, rn4, rn5, rn6, rn7, rn8, if_true, if_false, Nat.le_refl, true_and, and_true, decide_true, decide_false, Bool.not_true, Bool.not_false, reduceIte, Nat.reduceEqDiff, Nat.reduceAdd, Nat.reduceMul, Nat.reduceSub, Nat.reduceLeDiff, Nat.reduceLT, w1, ef, hf, e2, Cells.len q1, hl, Int.natCast_zero, ret_tt]
    exact ⟨hm, .inr (.inr (.inl ⟨hf, rfl, he, rfl⟩))⟩
  · have hl : ¬ ((refTruthsTo Y (manyN Y.lo Y.hi Y.nf).toNat).length : Int) = 0 := fun e => he (List.eq_nil_of_length_eq_zero (by show (refTruthsTo Y (manyN Y.lo Y.hi Y.nf).toNat).length = 0; omega))
    simp only [rn0, rn1, rn2, rn3, rn4, rn5, rn6, rn7, rn8, if_true, if_false, Nat.le_refl, true_and, and_true, decide_true, decide_false, Bool.not_true, Bool.not_false, reduceIte, Nat.reduceEqDiff, Nat.reduceAdd, Nat.reduceMul, Nat.reduceSub, Nat.reduceLeDiff, Nat.reduceLT, w1, ef, hf, e2, Cells.len q1, hl, ret_tt]
    exact ⟨hm, .inr (.inr (.inr ⟨hf, rfl, he, _, rfl, r, q1, q2⟩))⟩
def s36 : SCode := (.seq (.ops [⟨(some 1), none, .box (T 0)⟩, ⟨(some 2), none, .mov (.const (.slice none 0 0))⟩, ⟨(some 3), none, .mov (.const (.int .i64 (0)))⟩]) (.seq (.ops [⟨(some 4), none, .loadN 3 (T 1)⟩, ⟨(some 5), none, .call (.func 43) [(T 4), (.const (.int .i64 (0)))]⟩, ⟨(some 6), none, .extract 0 (T 5)⟩, ⟨(some 7), none, .extract 1 (T 5)⟩, ⟨(some 2), none, .mov (T 6)⟩, ⟨(some 3), none, .mov (T 7)⟩]) .ret))
theorem fok36 : FnOk Try.prog 36 8 s36 [.tmp 2, .tmp 3] := ⟨Try.f36, _, Try.func36, rfl, Try.ntmps36, by kernel_rfl, by kernel_rfl⟩
theorem sure_c (hn : 10025 ≤ n) (hr : h.next + 300010 < far) (hfl : h.floor ≤ h.next) {fv vv sv : Value} {Y : MY} (hy : YardR h fv vv sv Y) :
    ∃ v h', call n (.func (.func 36) #[] #[]) [.agg ⟨[fv, vv, sv]⟩] h = some (v, h') ∧ (Made h h' 150010 ∧
      ((faultN Y ≠ 0 ∧ v = .tuple ⟨[nilS, .int .i64 (faultN Y)]⟩) ∨ (faultN Y = 0 ∧ refTruths Y = [] ∧ v = .tuple ⟨[nilS, .int .i64 11]⟩) ∨
        (faultN Y = 0 ∧ refTruths Y ≠ [] ∧ ∃ l, v = .tuple ⟨[l, .int .i64 0]⟩ ∧ TruthsL h' l Y.nf (refTruths Y)))) := by
  obtain ⟨n, rfl⟩ : ∃ p, n = p + 1 := ⟨n - 1, by omega⟩
  refine call_any0 fok36 rfl rfl (by simp) ?_
  simp only [s36, W_seq, W_ops]
  refine ops_box (cs := [fv, vv, sv]) (by omega) rfl hy.one fun g1 hx1 => ?_
  have n1 := hx1.next
  have f1 := hx1.floor
  have hy1 := hy.mono hx1.sub
  have w1 := hx1.row.whole (n := 3) rfl
  obtain ⟨v, g2, e2, m2, hv⟩ := asked_c (n := n) (h := g1) (by omega) (by omega) (by omega) hy1 0
  have n2 := m2.next
  have u2 := m2.up
  have f2 := m2.floor
  have hm : Made h g2 150010 := ⟨hx1.sub.trans m2.sub, by omega, by omega, by omega⟩
  rcases hv with ⟨hf, rfl⟩ | ⟨_, h0, _⟩ | ⟨hf, _, he, rfl⟩ | ⟨hf, _, he, l, rfl, ht⟩
  · simp only [rn0, rn1, rn2, rn3, rn4, rn5, rn6, rn7, rn8, if_true, if_false, Nat.le_refl, true_and, and_true, decide_true, decide_false, Bool.not_true, Bool.not_false, reduceIte, Nat.reduceEqDiff, Nat.reduceAdd, Nat.reduceMul, Nat.reduceSub, Nat.reduceLeDiff, Nat.reduceLT, w1, e2, ex0, ex1, ret_tt]
    exact ⟨hm, .inl hf⟩
  · exact absurd rfl h0
  · simp only [rn0, rn1, rn2, rn3, rn4, rn5, rn6, rn7, rn8, if_true, if_false, Nat.le_refl, true_and, and_true, decide_true, decide_false, Bool.not_true, Bool.not_false, reduceIte, Nat.reduceEqDiff, Nat.reduceAdd, Nat.reduceMul, Nat.reduceSub, Nat.reduceLeDiff, Nat.reduceLT, w1, e2, ex0, ex1, ret_tt]
    exact ⟨hm, .inr (.inl ⟨hf, he⟩)⟩
  · simp only [rn0, rn1, rn2, rn3, rn4, rn5, rn6, rn7, rn8, if_true, if_false, Nat.le_refl, true_and, and_true, decide_true, decide_false, Bool.not_true, Bool.not_false, reduceIte, Nat.reduceEqDiff, Nat.reduceAdd, Nat.reduceMul, Nat.reduceSub, Nat.reduceLeDiff, Nat.reduceLT, w1, e2, ex0, ex1, ret_tt]
    exact ⟨hm, .inr (.inr ⟨hf, he, _, rfl, ht⟩)⟩
end Go.Vm.Vat

namespace Go.Vm.Vat
open Go.Proofs
set_option linter.unusedSimpArgs false
set_option linter.unusedVariables false
set_option maxRecDepth 10000
variable {n : Nat} {h : AHeap}
/-! ### Slices without their first element -/
theorem tail_c {v : Value} {s m : Nat} {c : Nat → Nat → Value} (hc : Cells h v s m c) (hm : 0 < m) (hlong : Long v) (hf : h.next < far) :
    ∃ v' h', sliceA s false h v (some (.int .i64 1)) none none = some (v', h') ∧ Cells h' v' s (m - 1) (fun k j => c (k + 1) j) ∧ Sub All h h' ∧ h.next ≤ h'.next ∧ h'.next ≤ h.next + 1 ∧ h'.floor = h.floor ∧ oneCell v' = true ∧ ∀ g, Cells g v s m c → Cells g v' s (m - 1) (fun k j => c (k + 1) j) := by
  obtain ⟨b, o, cap, cs, w, gr, rfl, h1, h2⟩ := hc.ptr hm
  have e1 : boundA 0 (some (.int .i64 1)) = some 1 := rfl
  have e2 : boundA m none = some m := rfl
  have e3 : Nat.ble 1 m = true := ble_iff.2 hm
  have e4 : Nat.ble m m = true := ble_iff.2 (Nat.le_refl _)
  have hcell : ∀ g, Cells g (.slice (some ⟨b, o, none⟩) m cap) s m c → ∀ cp, Cells g (.slice (addrPlus (some ⟨b, o, none⟩) (1 * s)) (m - 1) cp) s (m - 1) (fun k j => c (k + 1) j) := fun g hcg cp => by
    obtain ⟨b', o', cap', cs, w, gr, e, h1, h2⟩ := hcg.ptr hm
    cases e
    have ea : addrPlus (some ⟨b, o, none⟩) (1 * s) = some ⟨b, o + s, none⟩ := by
      simp only [addrPlus, Nat.one_mul]
    rw [ea]
    refine ⟨_, cp, rfl, fun x e => by cases e; rfl, ?_⟩
    by_cases h0 : m - 1 = 0
    · exact .inl h0
    · exact .inr ⟨b, o + s, cs, w, gr, rfl, h1, fun k j hk hj => by
        have := h2 (k + 1) j (by omega) hj
        rw [Nat.add_mul, Nat.one_mul] at this
        rw [show o + s + k * s + j = o + (k * s + s) + j by omega]
        exact this⟩
  unfold sliceA
  simp only [e1, e2, e3, e4, Bool.and_self, cond_true]
  cases hc1 : Nat.blt cap unk with
  | true =>
    simp only [cond_true]
    cases hc2 : Nat.beq cap 1 with
    | true =>
      simp only [cond_true]
      by_cases h0 : m - 1 = 0
      · exact ⟨_, _, rfl, ⟨_, _, rfl, fun x e => by cases e; rfl, .inl h0⟩, Sub.refl, Nat.le_refl _, by omega, rfl, rfl, fun g _ => ⟨_, _, rfl, fun x e => by cases e; rfl, .inl h0⟩⟩
      · exact absurd (hlong _ _ _ rfl (beq_iff.1 hc2)) (by omega)
    | false =>
      simp only [cond_false]
      exact ⟨_, _, rfl, hcell h hc _, Sub.refl, Nat.le_refl _, by omega, rfl, rfl, fun g hg => hcell g hg _⟩
  | false =>
    have e5 : Nat.beq 1 0 = false := rfl
    simp only [cond_false, e5]
    cases hc3 : Nat.blt 1 m with
    | true =>
      simp only [cond_true]
      exact ⟨_, _, rfl, hcell h hc _, Sub.refl, Nat.le_refl _, by omega, rfl, rfl, fun g hg => hcell g hg _⟩
    | false =>
      have h0 : m - 1 = 0 := by
        have : ¬ 1 < m := fun h => by rw [blt_iff.2 h] at hc3; cases hc3
        omega
      simp only [cond_false]
      rw [push_run hf]
      have hmm := more_more hf none
      exact ⟨_, _, rfl, ⟨_, _, by rw [h0], fun x e => by cases e; rfl, .inl h0⟩, hmm.sub, by rw [hmm.next]; omega, by rw [hmm.next]; omega, hmm.floor, rfl, fun g _ => ⟨_, _, by rw [h0], fun x e => by cases e; rfl, .inl h0⟩⟩
/-! ### What is surely in a vat -/
theorem le_minN {x : Int} {a : Nat → Int} {b : Int} : ∀ m, b ≤ minN x a m ↔ b ≤ x ∧ ∀ i, i < m → b ≤ a i
  | 0 => by simp [minN]
  | m + 1 => by
    simp only [minN]
    rw [Int.le_min, le_minN m]
    constructor
    · rintro ⟨⟨h1, h2⟩, h3⟩
      refine ⟨h1, fun i hi => ?_⟩
      by_cases e : i = m
      · subst e; exact h3
      · exact h2 i (by omega)
    · rintro ⟨h1, h2⟩
      exact ⟨⟨h1, fun i hi => h2 i (by omega)⟩, h2 m (by omega)⟩
def blueWith (Y : MY) (v f : Nat) (many : Nat) (t : Nat → Int) : Int := blueN t (Y.q v) Y.nf + many * t f
def s119 : SCode := (.seq (.ops [⟨(some 5), none, .box (T 0)⟩, ⟨(some 6), none, .mov (.const (.int .i64 (0)))⟩]) (.seq (.draw [⟨.rd1, ⟨(some 7), none, .loadN 4 (T 1)⟩⟩, ⟨.rd1, ⟨(some 8), none, .loadN 5 (T 5)⟩⟩, ⟨.rd1, ⟨(some 9), none, .load1 (T 2)⟩⟩, ⟨.up, ⟨(some 10), none, .call (.func 77) [(T 7), (T 8), (T 9)]⟩⟩, ⟨.rd, ⟨(some 11), none, .load1 (T 3)⟩⟩, ⟨.rd, ⟨(some 12), none, .load1 (T 4)⟩⟩, ⟨.free, ⟨(some 13), none, .idxArr 5 1 (T 5) (T 12)⟩⟩, ⟨.rd, ⟨(some 14), none, .load1 (T 13)⟩⟩, ⟨.free, ⟨(some 15), none, .int2 .mul (T 11) (T 14)⟩⟩, ⟨.free, ⟨(some 16), none, .int2 .add (T 10) (T 15)⟩⟩, ⟨.free, ⟨(some 6), none, .mov (T 16)⟩⟩]) .ret))
theorem fok119 : FnOk Try.prog 119 17 s119 [.tmp 6] := ⟨Try.f119, _, Try.func119, rfl, Try.ntmps119, by kernel_rfl, by kernel_rfl⟩
theorem sureBlue1_c (hn : 10003 ≤ n) (hr : h.next + 10 < far) {F V S T : Value} {Y : MY} {t : Nat → Int} {p0 p1 p2 p3 v f many : Nat} (ha : AtVat h V Y t) (h1 : allB oneCell [F, V, S, T] = true) (hv : v < Y.nv) (hf : f < Y.nf) (hm : many ≤ 100)
    (r0 : Row h p0 [F, V, S, T]) (r1 : Row h p1 [.int .i64 (v : Int)]) (r2 : Row h p2 [.int .i64 (many : Int)]) (r3 : Row h p3 [.int .i64 (f : Int)]) :
    call n (.func (.func 119) ⟨[]⟩ ⟨[.pointer (some ⟨p0, 0, none⟩), .pointer (some ⟨p1, 0, none⟩), .pointer (some ⟨p2, 0, none⟩), .pointer (some ⟨p3, 0, none⟩)]⟩) [.agg ⟨arr t⟩] h = some (.int .i64 (blueWith Y v f many t), h) := by
  obtain ⟨n, rfl⟩ : ∃ p, n = p + 1 := ⟨n - 1, by omega⟩
  refine call_plain (xs := []) (ys := [.pointer (some ⟨p0, 0, none⟩), .pointer (some ⟨p1, 0, none⟩), .pointer (some ⟨p2, 0, none⟩), .pointer (some ⟨p3, 0, none⟩)]) fok119 rfl rfl (by simp) rfl ?_
  have hsub : Sub All h h.shutAll := fun _ _ _ _ _ h => h
  have ha := ha.mono hsub
  have r0 := r0.mono hsub
  have r1 := r1.mono hsub
  have r2 := r2.mono hsub
  have r3 := r3.mono hsub
  have hr : h.shutAll.next + 10 < far := hr
  generalize h.shutAll = h at ha r0 r1 r2 r3 hr
  simp only [s119, List.cons_append, List.nil_append, W_seq, W_ops]
  refine ops_box (cs := arr t) (by omega) rfl arr_one fun g1 hx1 => ?_
  have n1 := hx1.next
  have ha := ha.mono hx1.sub
  have w0 := (r0.mono hx1.sub).whole (n := 4) rfl
  have w1 := r1.mono hx1.sub
  have w2 := r2.mono hx1.sub
  have w3 := r3.mono hx1.sub
  have w5 := hx1.row.whole arr_len
  obtain ⟨v1, v2⟩ := ha.ok v hv
  have ei := inVat_c (n := n) (h := g1) (b := t) (F := F) (S := S) (T := T) (at_ := v) (by omega) (by omega) ha.v h1 hv v1 ha.sz ha.b (fun i hi => v2 i (by omega))
  have hsz := ha.sz
  obtain ⟨b1, b2⟩ := blueN_bound (b := t) (q := Y.q v) (n := Y.nf) (by omega) ha.b (fun i hi => v2 i (by omega)) Y.nf (Nat.le_refl _)
  obtain ⟨t1, t2⟩ := ha.b f hf
  have m1 : (0 : Int) ≤ (many : Int) * t f := Int.mul_nonneg (by omega) t1
  have m2 : (many : Int) * t f ≤ 100 * 20 := Int.mul_le_mul (by omega) t2 t1 (by omega)
  have hw1 : wrapF .i64 ((many : Int) * t f) = many * t f := wrap_in (by omega) (by omega)
  have hw2 : wrapF .i64 (blueN t (Y.q v) Y.nf + many * t f) = blueWith Y v f many t := by rw [wrap_in (by omega) (by omega)]; rfl
  have hl : loadCell g1 (.pointer (some ⟨h.next, f, none⟩)) = some (.int .i64 (t f)) := by rw [hx1.row.ld, arr_get (by omega)]
  simp only [rn0, rn1, rn2, rn3, rn4, rn5, rn6, rn7, rn8, if_true, if_false, Nat.le_refl, true_and, and_true, decide_true, decide_false, Bool.not_true, Bool.not_false, reduceIte, Nat.reduceEqDiff, Nat.reduceAdd, Nat.reduceMul, Nat.reduceSub, Nat.reduceLeDiff, Nat.reduceLT]
  refine W_draw All ?_
  simp only [rn0, rn1, rn2, rn3, rn4, rn5, rn6, rn7, rn8, if_true, if_false, Nat.le_refl, true_and, and_true, decide_true, decide_false, Bool.not_true, Bool.not_false, reduceIte, Nat.reduceEqDiff, Nat.reduceAdd, Nat.reduceMul, Nat.reduceSub, Nat.reduceLeDiff, Nat.reduceLT, w0, w1.ld, w2.ld, w3.ld, w5, ei, List.getElem?_cons_zero, idxArr_p (l := 5) (k := f) (by omega), Nat.zero_add, hl, hw1, hw2]
/-- what is surely in the vat, with so many further bundles -/
def sureN (Y : MY) (v f many : Nat) (L : List (Nat → Int)) : Int := minN (blueWith Y v f many (L.getD 0 fun _ => 0)) (fun i => blueWith Y v f many (L.getD (i + 1) fun _ => 0)) (L.length - 1)
theorem le_sureN {Y : MY} {v f many : Nat} {L : List (Nat → Int)} (hL : L ≠ []) {b : Int} : b ≤ sureN Y v f many L ↔ ∀ t, t ∈ L → b ≤ blueWith Y v f many t := by
  unfold sureN
  rw [le_minN]
  have hpos : 0 < L.length := List.length_pos_iff.2 hL
  have hget : ∀ i, (hi : i < L.length) → L.getD i (fun _ => 0) = L[i] := fun i hi => by rw [List.getD_eq_getElem?_getD, List.getElem?_eq_getElem hi]; rfl
  constructor
  · rintro ⟨h1, h2⟩ t ht
    obtain ⟨i, hi, rfl⟩ := List.getElem_of_mem ht
    cases i with
    | zero => rw [← hget 0 hi]; exact h1
    | succ i => rw [← hget (i + 1) hi]; exact h2 i (by omega)
  · intro ht
    refine ⟨ht _ (by rw [hget 0 hpos]; exact List.getElem_mem hpos), fun i hi => ?_⟩
    have hi' : i + 1 < L.length := by omega
    exact ht _ (by rw [hget (i + 1) hi']; exact List.getElem_mem hi')
theorem truths_range {Y : MY} (hf : faultN Y = 0) {t : Nat → Int} (ht : t ∈ truths Y) : ∀ k, k < Y.nf → 0 ≤ t k ∧ t k ≤ 20 := fun k hk => by
  have h1 := (truths_mem.1 ht).1.1 k hk
  have h2 := (good_of hf).f k hk
  omega
theorem truths_at {Y : MY} {i : Nat} (hi : i < (truths Y).length) : (truths Y).getD i (fun _ => 0) ∈ truths Y := by rw [List.getD_eq_getElem?_getD, List.getElem?_eq_getElem hi]; exact List.getElem_mem hi
def s99 : SCode := (.seq (.ops [⟨(some 4), none, .box (T 0)⟩, ⟨(some 5), none, .box (T 1)⟩, ⟨(some 6), none, .box (T 2)⟩, ⟨(some 7), none, .box (T 3)⟩, ⟨(some 8), none, .mov (.const (.int .i64 (0)))⟩]) (.seq (.ops [⟨(some 13), none, .mkfunc 119 [] [(T 4), (T 5), (T 7), (T 6)]⟩, ⟨(some 9), none, .mov (T 13)⟩]) (.seq (.ops [⟨(some 14), none, .mov (T 9)⟩, ⟨(some 15), none, .fieldAddr 3 (T 4)⟩, ⟨(some 16), none, .load1 (T 15)⟩, ⟨(some 17), none, .idxSl 5 (T 16) (.const (.int .i64 (0)))⟩, ⟨(some 18), none, .loadN 5 (T 17)⟩, ⟨(some 19), none, .call (T 14) [(T 18)]⟩, ⟨(some 10), none, .mov (T 19)⟩]) (.seq (.seq (.ops [⟨(some 20), none, .fieldAddr 3 (T 4)⟩, ⟨(some 21), none, .load1 (T 20)⟩, ⟨(some 22), none, .slice 5 (T 21) (some (.const (.int .i64 (1)))) none none⟩, ⟨(some 23), none, .len (T 22)⟩, ⟨(some 24), none, .mov (.const (.int .i64 (0)))⟩]) (.block 0 (.loop (.seq (.ops [⟨(some 25), none, .int2 .lss (T 24) (T 23)⟩]) (.seq (.cond (T 25) .skip (.exit 0)) (.seq (.block 1 (.seq (.ops [⟨(some 26), none, .idxSl 5 (T 22) (T 24)⟩, ⟨(some 27), none, .loadN 5 (T 26)⟩, ⟨(some 12), none, .alloc [(.int .i64 (0)), (.int .i64 (0)), (.int .i64 (0)), (.int .i64 (0)), (.int .i64 (0))]⟩, ⟨none, none, .store 5 (T 12) (T 27)⟩]) (.ops [⟨(some 28), none, .mov (T 10)⟩, ⟨(some 29), none, .mov (T 9)⟩, ⟨(some 30), none, .loadN 5 (T 12)⟩, ⟨(some 31), none, .call (T 29) [(T 30)]⟩, ⟨(some 32), none, .bslice 1 1 [(.int .i64 (0))] [0] [(T 31)]⟩, ⟨(some 33), none, .call (.func 94) [(T 28), (T 32)]⟩, ⟨(some 10), none, .mov (T 33)⟩]))) (.ops [⟨(some 34), none, .int2 .add (T 24) (.const (.int .i64 (1)))⟩, ⟨(some 24), none, .mov (T 34)⟩]))))))) (.seq (.ops [⟨(some 35), none, .mov (T 10)⟩, ⟨(some 8), none, .mov (T 35)⟩]) .ret)))))
theorem fok99 : FnOk Try.prog 99 36 s99 [.tmp 8] := ⟨Try.f99, _, Try.func99, rfl, Try.ntmps99, by kernel_rfl, by kernel_rfl⟩
theorem sureBlue_c (hn : 10010 ≤ n) (hr : h.next + 100000 < far) {F V S tv : Value} {Y : MY} {v f many : Nat} (hy : YardR h F V S Y) (hf0 : faultN Y = 0) (hL : truths Y ≠ []) (htr : TruthsR h tv (truths Y)) (hlong : Long tv) (hv : v < Y.nv) (hf : f < Y.nf) (hm : many ≤ 100) :
    call n (.func (.func 99) #[] #[]) [.agg ⟨[F, V, S, tv]⟩, .int .i64 (v : Int), .int .i64 (f : Int), .int .i64 (many : Int)] h = some (.int .i64 (sureN Y v f many (truths Y)), h) := by
  obtain ⟨n, rfl⟩ : ∃ p, n = p + 1 := ⟨n - 1, by omega⟩
  refine call_plain0 fok99 rfl rfl (by simp) rfl ?_
  have hy := hy.shut
  have htr : TruthsR h.shutAll tv (truths Y) := Cells.shut htr
  have hr : h.shutAll.next + 100000 < far := hr
  have hfl : h.shutAll.floor ≤ h.shutAll.next := Nat.le_refl _
  generalize h.shutAll = h at hy htr hr hfl
  have hG := good_of hf0
  have hpos : 0 < (truths Y).length := List.length_pos_iff.2 hL
  have hlen := truths_len hf0
  have ho4 : allB oneCell [F, V, S, tv] = true := by have h1 := hy.one; have h2 := Cells.one htr; simp [allB] at h1 ⊢; simp [h1, h2]
  simp only [s99, W_seq, W_ops]
  refine ops_box (cs := [F, V, S, tv]) (by omega) rfl ho4 fun g1 hx1 => ?_
  refine ops_box (cs := [.int .i64 (v : Int)]) (by rw [hx1.next]; omega) rfl rfl fun g2 hx2 => ?_
  refine ops_box (cs := [.int .i64 (f : Int)]) (by rw [hx2.next, hx1.next]; omega) rfl rfl fun g3 hx3 => ?_
  refine ops_box (cs := [.int .i64 (many : Int)]) (by rw [hx3.next, hx2.next, hx1.next]; omega) rfl rfl fun g4 hx4 => ?_
  have n1 := hx1.next
  have n2 := hx2.next
  have n3 := hx3.next
  have n4 := hx4.next
  have r0 := ((hx1.row.mono hx2.sub).mono hx3.sub).mono hx4.sub
  have r1 := (hx2.row.mono hx3.sub).mono hx4.sub
  have r3 := hx3.row.mono hx4.sub
  have r2 := hx4.row
  have s4 : Sub All h g4 := hx1.sub.trans (hx2.sub.trans (hx3.sub.trans hx4.sub))
  have f4 : g4.floor = h.floor := by rw [hx4.floor, hx3.floor, hx2.floor, hx1.floor]
  have htr4 : TruthsR g4 tv (truths Y) := Cells.mono htr s4
  have hat : ∀ {g : AHeap} {t : Nat → Int}, Sub All h g → t ∈ truths Y → AtVat g V Y t := fun hs ht => ⟨(hy.mono hs).v, hG.sz.1, hG.v, truths_range hf0 ht⟩
  have q0 := truths_ld htr4 hpos
  have e0 := sureBlue1_c (n := n) (h := g4) (F := F) (S := S) (T := tv) (t := (truths Y).getD 0 fun _ => 0) (v := v) (f := f) (many := many) (by omega) (by omega) (hat s4 (truths_at hpos)) ho4 hv hf hm r0 r1 r2 r3
  have i0 : indexSl 5 tv (.int .i64 0) = some (ptrO tv 5 0 0) := Cells.idx htr4 hpos
  obtain ⟨tl, g5, et, ht5, s5, u5, b5, f5, o5, _⟩ := tail_c htr4 hpos hlong (by omega)
  simp only [rn0, rn1, rn2, rn3, rn4, rn5, rn6, rn7, rn8, if_true, if_false, Nat.le_refl, true_and, and_true, decide_true, decide_false, Bool.not_true, Bool.not_false, reduceIte, Nat.reduceEqDiff, Nat.reduceAdd, Nat.reduceMul, Nat.reduceSub, Nat.reduceLeDiff, Nat.reduceLT, r0.ld, Nat.zero_add, List.getElem?_cons_zero, List.getElem?_cons_succ, i0, q0, e0, Option.isSome_none, Option.map_some, Option.map_none, et, Cells.len ht5]
  refine W_loop ((truths Y).length - 1) (fun k f' g ms => (Sub All g5 g ∧ g.floor = g5.floor ∧ g5.next ≤ g.next ∧ g.next ≤ g5.next + 2 * k) ∧ ms = [] ∧
    f' 9 = .func (.func 119) ⟨[]⟩ ⟨[.pointer (some ⟨h.next, 0, none⟩), .pointer (some ⟨g1.next, 0, none⟩), .pointer (some ⟨g3.next, 0, none⟩), .pointer (some ⟨g2.next, 0, none⟩)]⟩ ∧
    f' 10 = .int .i64 (minN (blueWith Y v f many ((truths Y).getD 0 fun _ => 0)) (fun i => blueWith Y v f many ((truths Y).getD (i + 1) fun _ => 0)) k) ∧ f' 22 = tl ∧ f' 23 = .int .i64 (((truths Y).length - 1 : Nat) : Int) ∧ f' 24 = .int .i64 (k : Int)) (by simp; omega) ?_ ?_ ?_
  · simp only [rn0, rn1, rn2, rn3, rn4, rn5, rn6, rn7, rn8, if_true, if_false, Nat.le_refl, true_and, and_true, decide_true, decide_false, Bool.not_true, Bool.not_false, reduceIte, Nat.reduceEqDiff, Nat.reduceAdd, Nat.reduceMul, Nat.reduceSub, Nat.reduceLeDiff, Nat.reduceLT]
    exact ⟨by omega, rfl, rfl⟩
  · rintro k f' g ms hk ⟨⟨hs, hfg, hup, hnx⟩, rfl, f9, f10, f22, f23, f24⟩
    have hk' : (k : Int) < (((truths Y).length - 1 : Nat) : Int) := by omega
    have hw : wrapF .i64 ((k : Int) + 1) = ((k + 1 : Nat) : Int) := by rw [wrap_in (by omega) (by omega)]; rfl
    have ht := Cells.mono ht5 hs
    have hld : loadAgg 5 g (ptrO tl 5 k 0) = some (.agg ⟨arr ((truths Y).getD (k + 1) fun _ => 0)⟩) := by
      rw [Cells.ldN ht hk (by omega) (by omega)]; simp [arr, List.range_succ]
    simp only [rn0, rn1, rn2, rn3, rn4, rn5, rn6, rn7, rn8, if_true, if_false, Nat.le_refl, true_and, and_true, decide_true, decide_false, Bool.not_true, Bool.not_false, reduceIte, Nat.reduceEqDiff, Nat.reduceAdd, Nat.reduceMul, Nat.reduceSub, Nat.reduceLeDiff, Nat.reduceLT, f9, f10, f22, f23, f24, hk', Cells.idx ht hk, hld]
    refine step_new (vs := arr ((truths Y).getD (k + 1) fun _ => 0)) (by omega) (by omega) rfl (by simp only [rn0, rn1, rn2, rn3, rn4, rn5, rn6, rn7, rn8, if_true, if_false, Nat.le_refl, true_and, and_true, decide_true, decide_false, Bool.not_true, Bool.not_false, reduceIte, Nat.reduceEqDiff, Nat.reduceAdd, Nat.reduceMul, Nat.reduceSub, Nat.reduceLeDiff, Nat.reduceLT]; rfl) arr_one arr_len rfl fun g6 hx6 => ?_
    have n6 := hx6.next
    have f6 := hx6.floor
    have s46 : Sub All g4 g6 := s5.trans (hs.trans hx6.sub)
    have e6 := sureBlue1_c (n := n) (h := g6) (F := F) (S := S) (T := tv) (t := (truths Y).getD (k + 1) fun _ => 0) (v := v) (f := f) (many := many) (by omega) (by omega) (hat (s4.trans s46) (truths_at (by omega))) ho4 hv hf hm (r0.mono s46) (r1.mono s46) (r2.mono s46) (r3.mono s46)
    simp only [rn0, rn1, rn2, rn3, rn4, rn5, rn6, rn7, rn8, if_true, if_false, Nat.le_refl, true_and, and_true, decide_true, decide_false, Bool.not_true, Bool.not_false, reduceIte, Nat.reduceEqDiff, Nat.reduceAdd, Nat.reduceMul, Nat.reduceSub, Nat.reduceLeDiff, Nat.reduceLT, f9, f10, f22, f23, f24, hx6.row.whole arr_len, e6, sl_int]
    refine step_slice (by omega) rfl fun g7 hx7 => ?_
    have n7 := hx7.next
    have f7 := hx7.floor
    have hone : Ints g7 (.slice (some ⟨g6.next, 0, none⟩) 1 1) 1 (fun _ => blueWith Y v f many ((truths Y).getD (k + 1) fun _ => 0)) := ⟨_, _, rfl, fun x e => by cases e; rfl, .inr ⟨_, 0, _, _, _, rfl, hx7.get, fun i j hi hj => by
      have hi : i = 0 := by omega
      have hj : j = 0 := by omega
      subst hi hj; rfl⟩⟩
    have em := minimum_c (n := n) (h := g7) (m := 1) (by omega) (by omega) hone (minN (blueWith Y v f many ((truths Y).getD 0 fun _ => 0)) (fun i => blueWith Y v f many ((truths Y).getD (i + 1) fun _ => 0)) k)
    simp only [rn0, rn1, rn2, rn3, rn4, rn5, rn6, rn7, rn8, if_true, if_false, Nat.le_refl, true_and, and_true, decide_true, decide_false, Bool.not_true, Bool.not_false, reduceIte, Nat.reduceEqDiff, Nat.reduceAdd, Nat.reduceMul, Nat.reduceSub, Nat.reduceLeDiff, Nat.reduceLT, f9, f10, f22, f23, f24, em, hw]
    exact ⟨⟨hs.trans (hx6.sub.trans hx7.sub), by omega, by omega, by omega⟩, rfl⟩
  · rintro f' g ms ⟨⟨hs, hfg, hup, hnx⟩, rfl, f9, f10, f22, f23, f24⟩
    simp only [rn0, rn1, rn2, rn3, rn4, rn5, rn6, rn7, rn8, if_true, if_false, Nat.le_refl, true_and, and_true, decide_true, decide_false, Bool.not_true, Bool.not_false, reduceIte, Nat.reduceEqDiff, Nat.reduceAdd, Nat.reduceMul, Nat.reduceSub, Nat.reduceLeDiff, Nat.reduceLT, f9, f10, f22, f23, f24, Int.lt_irrefl]
    rfl
/-! The reference's truths -/
theorem refTruths_range {Y : MY} (hf : faultN Y = 0) {t : Nat → Int} (ht : t ∈ refTruths Y) : ∀ k, k < Y.nf → 0 ≤ t k ∧ t k ≤ 20 := truths_range hf ((refTruths_mem hf).1 ht)
theorem refTruths_at {Y : MY} {i : Nat} (hi : i < (refTruths Y).length) : (refTruths Y).getD i (fun _ => 0) ∈ refTruths Y := by rw [List.getD_eq_getElem?_getD, List.getElem?_eq_getElem hi]; exact List.getElem_mem hi
theorem refTruths_len {Y : MY} (hf : faultN Y = 0) : (refTruths Y).length ≤ 2000 := by
  obtain ⟨hG, hsz⟩ := fault_size hf
  have hF : ∀ k, k < Y.nf → 0 ≤ Y.lo k ∧ Y.lo k ≤ Y.hi k ∧ Y.hi k ≤ 20 := hG.f
  have hmany := sizeN_many hG.sz.1 hF Y.nf (Nat.le_refl _)
  have := refTruthsTo_len (Y := Y) (m := (manyN Y.lo Y.hi Y.nf).toNat)
  unfold refTruths
  omega
theorem mem_getD {L : List (Nat → Int)} {t : Nat → Int} (ht : t ∈ L) : ∃ i, i < L.length ∧ L.getD i (fun _ => 0) = t := by
  obtain ⟨i, hi, rfl⟩ := List.getElem_of_mem ht
  exact ⟨i, hi, by rw [List.getD_eq_getElem?_getD, List.getElem?_eq_getElem hi]; rfl⟩
theorem refTruths_nil {Y : MY} (hf : faultN Y = 0) : refTruths Y = [] ↔ truths Y = [] := by
  constructor
  · intro h
    cases ht : truths Y with
    | nil => rfl
    | cons x l =>
      have : x ∈ refTruths Y := (refTruths_mem hf).2 (by rw [ht]; simp)
      rw [h] at this
      cases this
  · intro h
    cases ht : refTruths Y with
    | nil => rfl
    | cons x l =>
      have : x ∈ truths Y := (refTruths_mem hf).1 (by rw [ht]; simp)
      rw [h] at this
      cases this
end Go.Vm.Vat

namespace Go.Vm.Vat
open Go.Proofs
set_option linter.unusedSimpArgs false
set_option linter.unusedVariables false
set_option maxRecDepth 10000
variable {n : Nat} {h : AHeap}
/-! ### Bounds in all truths -/
def maxN (x : Int) (a : Nat → Int) : Nat → Int
  | 0 => x
  | i + 1 => max (maxN x a i) (a i)
theorem map_splice {F F' : Nat → Value} {m off : Nat} {vs : List Value} (hl : off + vs.length ≤ m) (h1 : ∀ i, i < m → (i < off ∨ off + vs.length ≤ i) → F' i = F i) (h2 : ∀ j, j < vs.length → vs[j]? = some (F' (off + j))) :
    splice ((List.range m).map F) off vs = (List.range m).map F' := by
  apply List.ext_getElem?
  intro i
  have hlen : ((List.range m).map F).length = m := by simp
  simp only [splice]
  by_cases hi : i < m
  · rw [List.getElem?_map, List.getElem?_range hi]
    by_cases c1 : i < off
    · rw [List.getElem?_append_left (by simp [hlen]; omega), List.getElem?_take, if_pos c1, List.getElem?_map, List.getElem?_range hi]
      simp [h1 i hi (.inl c1)]
    · rw [List.getElem?_append_right (by simp [hlen]; omega)]
      have e : (List.take off ((List.range m).map F)).length = off := by simp [hlen]; omega
      rw [e]
      by_cases c2 : i < off + vs.length
      · rw [List.getElem?_append_left (by omega), h2 (i - off) (by omega)]
        simp [show off + (i - off) = i by omega]
      · rw [List.getElem?_append_right (by omega), List.getElem?_drop, show off + vs.length + (i - off - vs.length) = i by omega, List.getElem?_map, List.getElem?_range hi]
        simp [h1 i hi (.inr (by omega))]
  · rw [List.getElem?_eq_none (by simp; omega), List.getElem?_eq_none (by simp [hlen]; omega)]
/-- the bounds of what is measured -/
def loN (val : (Nat → Int) → Int) (L : List (Nat → Int)) : Int := minN (val (L.getD 0 fun _ => 0)) (fun i => val (L.getD (i + 1) fun _ => 0)) (L.length - 1)
def hiN (val : (Nat → Int) → Int) (L : List (Nat → Int)) : Int := maxN (val (L.getD 0 fun _ => 0)) (fun i => val (L.getD (i + 1) fun _ => 0)) (L.length - 1)
theorem maxN_le {x : Int} {a : Nat → Int} {b : Int} : ∀ m, maxN x a m ≤ b ↔ x ≤ b ∧ ∀ i, i < m → a i ≤ b
  | 0 => by simp [maxN]
  | m + 1 => by
    simp only [maxN]
    rw [Int.max_le, maxN_le m]
    constructor
    · rintro ⟨⟨h1, h2⟩, h3⟩
      refine ⟨h1, fun i hi => ?_⟩
      by_cases e : i = m
      · subst e; exact h3
      · exact h2 i (by omega)
    · rintro ⟨h1, h2⟩
      exact ⟨⟨h1, fun i hi => h2 i (by omega)⟩, h2 m (by omega)⟩
theorem all_getD {L : List (Nat → Int)} (hL : L ≠ []) {p : (Nat → Int) → Prop} : (p (L.getD 0 fun _ => 0) ∧ ∀ i, i < L.length - 1 → p (L.getD (i + 1) fun _ => 0)) ↔ ∀ t, t ∈ L → p t := by
  have hpos : 0 < L.length := List.length_pos_iff.2 hL
  have hget : ∀ i, (hi : i < L.length) → L.getD i (fun _ => 0) = L[i] := fun i hi => by rw [List.getD_eq_getElem?_getD, List.getElem?_eq_getElem hi]; rfl
  constructor
  · rintro ⟨h1, h2⟩ t ht
    obtain ⟨i, hi, rfl⟩ := List.getElem_of_mem ht
    cases i with
    | zero => rw [← hget 0 hi]; exact h1
    | succ i => rw [← hget (i + 1) hi]; exact h2 i (by omega)
  · intro ht
    refine ⟨ht _ (by rw [hget 0 hpos]; exact List.getElem_mem hpos), fun i hi => ?_⟩
    have hi' : i + 1 < L.length := by omega
    exact ht _ (by rw [hget (i + 1) hi']; exact List.getElem_mem hi')
theorem le_loN {val : (Nat → Int) → Int} {L : List (Nat → Int)} (hL : L ≠ []) {b : Int} : b ≤ loN val L ↔ ∀ t, t ∈ L → b ≤ val t := by
  unfold loN; rw [le_minN]; exact all_getD hL (p := fun t => b ≤ val t)
theorem hiN_le {val : (Nat → Int) → Int} {L : List (Nat → Int)} (hL : L ≠ []) {b : Int} : hiN val L ≤ b ↔ ∀ t, t ∈ L → val t ≤ b := by
  unfold hiN; rw [maxN_le]; exact all_getD hL (p := fun t => val t ≤ b)
end Go.Vm.Vat

namespace Go.Vm
variable {P : Program} {N : Nat} {f : Fr} {h : AHeap} {ty t u e : TypeId} {x y : Operand}
end Go.Vm

namespace Go.Vm.Vat
open Go.Proofs
set_option linter.unusedSimpArgs false
set_option linter.unusedVariables false
set_option maxRecDepth 10000
variable {n : Nat} {h : AHeap}
/-! ### The reference's bounds -/
theorem int_ext {a b : Int} (h : ∀ c, c ≤ a ↔ c ≤ b) : a = b := Int.le_antisymm ((h a).1 (Int.le_refl _)) ((h b).2 (Int.le_refl _))
end Go.Vm.Vat

namespace Go.Vm.Vat
open Go.Proofs
set_option linter.unusedSimpArgs false
set_option linter.unusedVariables false
set_option maxRecDepth 10000
variable {n : Nat} {h : AHeap}
end Go.Vm.Vat

namespace Go.Vm.Vat
open Go.Proofs
set_option linter.unusedSimpArgs false
set_option linter.unusedVariables false
set_option maxRecDepth 10000
variable {n : Nat} {h : AHeap}
/-- among the first k -/
def Seen (L : List (Nat → Int)) (p : (Nat → Int) → Prop) (k : Nat) : Prop := ∃ i, i < k ∧ p (L.getD i fun _ => 0)
noncomputable instance (L : List (Nat → Int)) (p : (Nat → Int) → Prop) (k : Nat) : Decidable (Seen L p k) := Classical.propDecidable _
end Go.Vm.Vat

namespace Go.Vm.Vat
open Go.Proofs
set_option linter.unusedSimpArgs false
set_option linter.unusedVariables false
set_option maxRecDepth 10000
variable {n : Nat} {h : AHeap}
end Go.Vm.Vat

namespace Go.Vm.Vat
open Go.Proofs
set_option linter.unusedSimpArgs false
set_option linter.unusedVariables false
set_option maxRecDepth 10000
variable {n : Nat} {h : AHeap}
/-! ### The iterator over all spreads of so many bundles: each is handed to 'yield', in order -/
def arr4 (c : Nat → Int) : List Value := (List.range 4).map fun i => .int .i64 (c i)
theorem arr4_one {b : Nat → Int} : allB oneCell (arr4 b) = true := by rw [allB_iff]; intro v hv; obtain ⟨i, _, rfl⟩ := List.mem_map.1 hv; rfl
theorem arr4_len {b : Nat → Int} : (arr4 b).length = 4 := by simp [arr4]
theorem arr4_splice {k : Nat} {c : Nat → Int} {x : Int} (hk : k < 4) : splice (arr4 c) k [.int .i64 x] = arr4 fun j => if j = k then x else c j := by
  obtain rfl | rfl | rfl | rfl : k = 0 ∨ k = 1 ∨ k = 2 ∨ k = 3 := by omega
  all_goals simp [splice, arr4, List.range_succ]
/-- all ways to spread r over d + 1 vats from i on, in order -/
def enumS : Nat → Nat → Nat → (Nat → Int) → List (Nat → Int)
  | 0, i, r, c => [fun j => if j = i then (r : Int) else c j]
  | d + 1, i, r, c => (List.range (r + 1)).flatMap fun (k : Nat) => enumS d (i + 1) (r - k) fun j => if j = i then (k : Int) else c j
theorem enumS_congr : ∀ (d i r : Nat) (c c' : Nat → Int), (∀ j, j < i ∨ i + d < j → c j = c' j) → enumS d i r c = enumS d i r c'
  | 0, i, r, c, c', hc => by
    simp only [enumS]
    congr 1
    funext j
    by_cases e : j = i
    · simp [e]
    · simp only [e, if_false]; exact hc j (by omega)
  | d + 1, i, r, c, c', hc => by
    simp only [enumS]
    congr 1
    funext k
    refine enumS_congr d (i + 1) _ _ _ fun j hj => ?_
    by_cases e : j = i
    · simp [e]
    · simp only [e, if_false]
      exact hc j (by omega)
/-- the first i are numbers of bundles; there are no more than nv -/
def OkS (M nv : Nat) (i : Nat) (c : Nat → Int) : Prop := (∀ j, j < i → 0 ≤ c j ∧ c j ≤ (M : Int)) ∧ ∀ j, nv ≤ j → c j = 0
section
variable {σ : Type}
/-- the iterator's own rows -/
structure ItS (pv py pc : Nat) (nv : Nat) (yv cv : Value) (g : AHeap) : Prop where
  v : Row g pv [.int .i64 (nv : Int)]
  y : Row g py [yv]
  c : Row g pc [cv]
theorem ItS.set {pv py pc pb gr nv : Nat} {cs : List Value} {yv cv : Value} {g g' : AHeap} (hi' : ItS pv py pc nv yv cv g) (hs : Set1 g g' pb cs gr) (h1 : pv ≠ pb) (h2 : py ≠ pb) (h3 : pc ≠ pb) : ItS pv py pc nv yv cv g' :=
  ⟨hi'.v.keep hs.keep h1, hi'.y.keep hs.keep h2, hi'.c.keep hs.keep h3⟩
def fillV (pv py pb pc : Nat) : Value := .func (.func 128) ⟨[]⟩ ⟨[.pointer (some ⟨pv, 0, none⟩), .pointer (some ⟨pb, 0, none⟩), .pointer (some ⟨py, 0, none⟩), .pointer (some ⟨pc, 0, none⟩)]⟩
def s128 : SCode := (.seq (.ops [⟨(some 8), none, .mov (.const (.bool false))⟩]) (.seq (.seq (.ops [⟨(some 10), none, .mov (T 0)⟩, ⟨(some 11), none, .load1 (T 2)⟩, ⟨(some 12), none, .int2 .sub (T 11) (.const (.int .i64 (1)))⟩, ⟨(some 13), none, .int2 .eql (T 10) (T 12)⟩]) (.cond (T 13) (.seq (.ops [⟨(some 14), none, .mov (T 0)⟩, ⟨(some 15), none, .mov (T 1)⟩, ⟨(some 16), none, .idxArr 4 1 (T 3) (T 14)⟩, ⟨none, none, .store 1 (T 16) (T 15)⟩]) (.seq (.ops [⟨(some 17), none, .load1 (T 4)⟩, ⟨(some 18), none, .loadN 4 (T 3)⟩, ⟨(some 19), none, .call (T 17) [(T 18)]⟩, ⟨(some 8), none, .mov (T 19)⟩]) .ret)) .skip)) (.seq (.seq (.ops [⟨(some 20), none, .mov (T 1)⟩, ⟨(some 21), none, .int2 .add (T 20) (.const (.int .i64 (1)))⟩, ⟨(some 22), none, .mov (.const (.int .i64 (0)))⟩]) (.block 0 (.loop (.seq (.ops [⟨(some 23), none, .int2 .lss (T 22) (T 21)⟩]) (.seq (.cond (T 23) .skip (.exit 0)) (.seq (.block 1 (.seq (.ops [⟨(some 24), none, .mov (T 22)⟩, ⟨(some 9), none, .mov (T 24)⟩]) (.seq (.ops [⟨(some 25), none, .mov (T 0)⟩, ⟨(some 26), none, .mov (T 9)⟩, ⟨(some 27), none, .idxArr 4 1 (T 3) (T 25)⟩, ⟨none, none, .store 1 (T 27) (T 26)⟩]) (.seq (.ops [⟨(some 28), none, .load1 (T 5)⟩, ⟨(some 29), none, .mov (T 0)⟩, ⟨(some 30), none, .int2 .add (T 29) (.const (.int .i64 (1)))⟩, ⟨(some 31), none, .mov (T 1)⟩, ⟨(some 32), none, .mov (T 9)⟩, ⟨(some 33), none, .int2 .sub (T 31) (T 32)⟩, ⟨(some 34), none, .call (T 28) [(T 30), (T 33)]⟩, ⟨(some 35), none, .not (T 34)⟩]) (.cond (T 35) (.seq (.ops [⟨(some 8), none, .mov (.const (.bool false))⟩]) .ret) .skip))))) (.ops [⟨(some 36), none, .int2 .add (T 22) (.const (.int .i64 (1)))⟩, ⟨(some 22), none, .mov (T 36)⟩]))))))) (.seq (.ops [⟨(some 8), none, .mov (.const (.bool true))⟩]) .ret))))
theorem fok128 : FnOk Try.prog 128 37 s128 [.tmp 8] := ⟨Try.f128, _, Try.func128, rfl, Try.ntmps128, by kernel_rfl, by kernel_rfl⟩
theorem fill_c (step : σ → (Nat → Int) → σ × Bool) (J : σ → AHeap → Prop) {pv py pb pc K N0 fl nv M : Nat} {yv : Value} (hsz : nv ≤ 4) (hM : M ≤ 9)
    (d1 : pv ≠ pb) (d2 : py ≠ pb) (d3 : pc ≠ pb) (hfl : fl ≤ pb) (hN : 10002 ≤ N0)
    (hJ : ∀ s g g' cs, J s g → Set1 g g' pb cs 0 → J s g')
    (hY : ∀ n g s c, N0 ≤ n → ItS pv py pc nv yv (fillV pv py pb pc) g → g.get pb = some (.row (arr4 c) true 0) → OkS M nv nv c → J s g → g.floor = fl → g.next + K < far →
      ∃ g', call n yv [.agg ⟨arr4 c⟩] g = some (.bool (step s c).2, g') ∧ J (step s c).1 g' ∧ ItS pv py pc nv yv (fillV pv py pb pc) g' ∧ g'.get pb = some (.row (arr4 c) true 0) ∧ g'.floor = fl ∧ g'.next ≤ g.next + K) :
    ∀ (d i r n : Nat) (g : AHeap) (s : σ) (c : Nat → Int), i + d + 1 = nv → r ≤ M → N0 + d + 1 ≤ n → ItS pv py pc nv yv (fillV pv py pb pc) g → g.get pb = some (.row (arr4 c) true 0) → OkS M nv i c → J s g → g.floor = fl → g.next + K * (enumS d i r c).length < far →
      ∃ g', call n (fillV pv py pb pc) [.int .i64 (i : Int), .int .i64 (r : Int)] g = some (.bool (runL step s (enumS d i r c)).2, g') ∧ J (runL step s (enumS d i r c)).1 g' ∧ ItS pv py pc nv yv (fillV pv py pb pc) g' ∧
        (∃ c', g'.get pb = some (.row (arr4 c') true 0) ∧ ∀ j, j < i ∨ i + d < j → c' j = c j) ∧ g'.floor = fl ∧ g'.next ≤ g.next + K * (enumS d i r c).length := by
  intro d
  induction d with
  | zero =>
    intro i r n g s c hi' hr9 hn hit hb hok hj hfg hr
    obtain ⟨n, rfl⟩ : ∃ p, n = p + 1 := ⟨n - 1, by omega⟩
    simp only [enumS, List.length_singleton, Nat.mul_one] at hr ⊢
    have hw : wrapF .i64 ((nv : Int) - 1) = (i : Int) := by rw [wrap_in (by omega) (by omega)]; omega
    have hlt := AHeap.lt_of_get hb
    suffices hs : ∃ v g1, call (n + 1) (fillV pv py pb pc) [.int .i64 (i : Int), .int .i64 (r : Int)] g = some (v, g1) ∧ v = .bool (step s fun j => if j = i then (r : Int) else c j).2 ∧ J (step s fun j => if j = i then (r : Int) else c j).1 g1 ∧ ItS pv py pc nv yv (fillV pv py pb pc) g1 ∧ g1.get pb = some (.row (arr4 fun j => if j = i then (r : Int) else c j) true 0) ∧ g1.floor = fl ∧ g1.next ≤ g.next + K by
      obtain ⟨v, g1, e1, rfl, q1, q2, q3, q4, q5⟩ := hs
      have hrun : ∀ x, runL step s [x] = step s x := fun x => by
        simp only [runL]
        by_cases e : (step s x).2 = true
        · simp only [e, if_true]; exact (Prod.ext rfl e.symm)
        · simp only [e, Bool.false_eq_true, if_false]; exact (Prod.ext rfl (by simpa using (Bool.eq_false_iff.2 e).symm))
      rw [hrun]
      exact ⟨_, e1, q1, q2, ⟨_, q3, fun j hj => by rw [if_neg (by omega)]⟩, q4, q5⟩
    refine call_any (xs := []) (ys := [.pointer (some ⟨pv, 0, none⟩), .pointer (some ⟨pb, 0, none⟩), .pointer (some ⟨py, 0, none⟩), .pointer (some ⟨pc, 0, none⟩)]) fok128 rfl rfl (by simp) ?_
    simp only [rn0, rn1, rn2, rn3, rn4, rn5, rn6, rn7, rn8, if_true, if_false, Nat.le_refl, true_and, and_true, decide_true, decide_false, Bool.not_true, Bool.not_false, reduceIte, Nat.reduceEqDiff, Nat.reduceAdd, Nat.reduceMul, Nat.reduceSub, Nat.reduceLeDiff, Nat.reduceLT, s128, List.cons_append, List.nil_append, hit.v.ld, Nat.zero_add, List.getElem?_cons_zero, List.getElem?_cons_succ, hw, idxArr_p (l := 4) (k := i) (by omega)]
    refine step_store (vs := [.int .i64 (r : Int)]) rfl hb (by omega) (by omega) rfl rfl rfl (by rw [arr4_len]; simp; omega) fun g2 hs => ?_
    have n2 := hs.next
    have f2 := hs.floor
    have hb2 := hs.get
    rw [arr4_splice (by omega)] at hb2
    have it2 := hit.set hs d1 d2 d3
    have hbr : Row g2 pb (arr4 fun j => if j = i then (r : Int) else c j) := ⟨_, _, hb2⟩
    have hok2 : OkS M nv nv (fun j => if j = i then (r : Int) else c j) := by
      refine ⟨fun j hj => ?_, fun j hj => ?_⟩
      · by_cases e : j = i
        · simp only [e, if_true]; omega
        · simp only [e, if_false]; exact hok.1 j (by omega)
      · have e : ¬ j = i := by omega
        simp only [e, if_false]; exact hok.2 j hj
    obtain ⟨g', e, q1, q2, q3, q4, q5⟩ := hY n g2 s _ (by omega) it2 hb2 hok2 (hJ _ _ _ _ hj hs) (by omega) (by omega)
    simp only [rn0, rn1, rn2, rn3, rn4, rn5, rn6, rn7, rn8, if_true, if_false, Nat.le_refl, true_and, and_true, decide_true, decide_false, Bool.not_true, Bool.not_false, reduceIte, Nat.reduceEqDiff, Nat.reduceAdd, Nat.reduceMul, Nat.reduceSub, Nat.reduceLeDiff, Nat.reduceLT, it2.y.ld, hbr.whole arr4_len, Nat.zero_add, List.getElem?_cons_zero, List.getElem?_cons_succ, e]
    exact ⟨q1, q2, q3, q4, by omega⟩
  | succ d ih =>
    intro i r n g s c hi' hr9 hn hit hb hok hj hfg hr
    obtain ⟨n, rfl⟩ : ∃ p, n = p + 1 := ⟨n - 1, by omega⟩
    have hw0 : wrapF .i64 ((nv : Int) - 1) = (nv : Int) - 1 := wrap_in (by omega) (by omega)
    have hin : ¬ (i : Int) = (nv : Int) - 1 := by omega
    have hwr : wrapF .i64 ((r : Int) + 1) = ((r + 1 : Nat) : Int) := by rw [wrap_in (by omega) (by omega)]; rfl
    suffices hs : ∃ v g1, call (n + 1) (fillV pv py pb pc) [.int .i64 (i : Int), .int .i64 (r : Int)] g = some (v, g1) ∧ v = .bool (runL step s (enumS (d + 1) i r c)).2 ∧ J (runL step s (enumS (d + 1) i r c)).1 g1 ∧ ItS pv py pc nv yv (fillV pv py pb pc) g1 ∧
        (∃ c', g1.get pb = some (.row (arr4 c') true 0) ∧ ∀ j, j < i ∨ i + (d + 1) < j → c' j = c j) ∧ g1.floor = fl ∧ g1.next ≤ g.next + K * (enumS (d + 1) i r c).length by
      obtain ⟨v, g1, e1, rfl, h2⟩ := hs
      exact ⟨g1, e1, h2⟩
    refine call_any (xs := []) (ys := [.pointer (some ⟨pv, 0, none⟩), .pointer (some ⟨pb, 0, none⟩), .pointer (some ⟨py, 0, none⟩), .pointer (some ⟨pc, 0, none⟩)]) fok128 rfl rfl (by simp) ?_
    simp only [rn0, rn1, rn2, rn3, rn4, rn5, rn6, rn7, rn8, if_true, if_false, Nat.le_refl, true_and, and_true, decide_true, decide_false, Bool.not_true, Bool.not_false, reduceIte, Nat.reduceEqDiff, Nat.reduceAdd, Nat.reduceMul, Nat.reduceSub, Nat.reduceLeDiff, Nat.reduceLT, s128, List.cons_append, List.nil_append, hit.v.ld, Nat.zero_add, List.getElem?_cons_zero, List.getElem?_cons_succ, hw0, hin, hwr]
    let part : Nat → List (Nat → Int) := fun k => enumS d (i + 1) (r - k) fun j => if j = i then (k : Int) else c j
    have hen : enumS (d + 1) i r c = (List.range (r + 1)).flatMap part := rfl
    rw [hen] at hr ⊢
    generalize hmm : r + 1 = m at hr
    refine W_loop m (fun k f g1 ms => (ItS pv py pc nv yv (fillV pv py pb pc) g1 ∧ (∃ c', g1.get pb = some (.row (arr4 c') true 0) ∧ ∀ j, j < i ∨ i + (d + 1) < j → c' j = c j) ∧ J (runL step s ((List.range k).flatMap part)).1 g1 ∧ (runL step s ((List.range k).flatMap part)).2 = true ∧
      g1.floor = fl ∧ g1.next ≤ g.next + K * ((List.range k).flatMap part).length) ∧ ms = [] ∧ f 0 = .int .i64 (i : Int) ∧ f 1 = .int .i64 (r : Int) ∧ f 3 = .pointer (some ⟨pb, 0, none⟩) ∧ f 5 = .pointer (some ⟨pc, 0, none⟩) ∧ f 21 = .int .i64 (m : Int) ∧ f 22 = .int .i64 (k : Int)) (by simp; omega) ?_ ?_ ?_
    · simp only [rn0, rn1, rn2, rn3, rn4, rn5, rn6, rn7, rn8, if_true, if_false, Nat.le_refl, true_and, and_true, decide_true, decide_false, Bool.not_true, Bool.not_false, reduceIte, Nat.reduceEqDiff, Nat.reduceAdd, Nat.reduceMul, Nat.reduceSub, Nat.reduceLeDiff, Nat.reduceLT, Int.natCast_zero, Int.add_zero]
      simp only [List.range_zero, List.flatMap_nil, runL, List.length_nil, Nat.mul_zero, Nat.add_zero, Nat.le_refl, and_true]
      exact ⟨hit, ⟨c, hb, fun _ _ => rfl⟩, hj, trivial, hfg⟩
    · rintro k f g1 ms hkm ⟨⟨it1, ⟨c', hb1, hc'⟩, hj1, hr1, hf1, hn1⟩, rfl, f0, f1, f3, f5, f21, f22⟩
      have hkm' : (k : Int) < (m : Int) := by omega
      have hlt := AHeap.lt_of_get hb1
      obtain ⟨rest, hpart⟩ := part_flat part hkm
      have hlen : ((List.range m).flatMap part).length = ((List.range k).flatMap part).length + ((part k).length + rest.length) := by rw [hpart]; simp
      have hK : K * ((List.range m).flatMap part).length = K * ((List.range k).flatMap part).length + (K * (part k).length + K * rest.length) := by rw [hlen, Nat.mul_add, Nat.mul_add]
      simp only [rn0, rn1, rn2, rn3, rn4, rn5, rn6, rn7, rn8, if_true, if_false, Nat.le_refl, true_and, and_true, decide_true, decide_false, Bool.not_true, Bool.not_false, reduceIte, Nat.reduceEqDiff, Nat.reduceAdd, Nat.reduceMul, Nat.reduceSub, Nat.reduceLeDiff, Nat.reduceLT, f0, f1, f3, f5, f21, f22, hkm', idxArr_p (l := 4) (k := i) (by omega), Nat.zero_add]
      refine step_store (vs := [.int .i64 (k : Int)]) rfl hb1 (by omega) (by omega) rfl rfl rfl (by rw [arr4_len]; simp; omega) fun g2 hs => ?_
      have hb2 := hs.get
      rw [arr4_splice (by omega)] at hb2
      have it2 := it1.set hs d1 d2 d3
      have hw : wrapF .i64 ((i : Int) + 1) = ((i + 1 : Nat) : Int) := by rw [wrap_in (by omega) (by omega)]; rfl
      have hwk : wrapF .i64 ((r : Int) - (k : Int)) = ((r - k : Nat) : Int) := by rw [wrap_in (by omega) (by omega)]; omega
      have hcg : enumS d (i + 1) (r - k) (fun j => if j = i then (k : Int) else c' j) = part k := enumS_congr d (i + 1) _ _ _ fun j hj => by
        by_cases e : j = i
        · simp [e]
        · simp only [e, if_false]; exact hc' j (by omega)
      have hnx := hs.next
      have hok2 : OkS M nv (i + 1) (fun j => if j = i then (k : Int) else c' j) := by
        refine ⟨fun j hj => ?_, fun j hj => ?_⟩
        · by_cases e : j = i
          · simp only [e, if_true]; omega
          · simp only [e, if_false]; rw [hc' j (by omega)]; exact hok.1 j (by omega)
        · have e : ¬ j = i := by omega
          simp only [e, if_false]; rw [hc' j (by omega)]; exact hok.2 j hj
      obtain ⟨g3, e, j3, it3, ⟨c3, hb3, hc3⟩, fl3, n3⟩ := ih (i + 1) (r - k) n g2 _ _ (by omega) (by omega) (by omega) it2 hb2 hok2 (hJ _ _ _ _ hj1 hs) (by rw [hs.floor, hf1]) (by rw [hcg]; omega)
      rw [hcg] at e j3 n3
      have hw2 : wrapF .i64 ((k : Int) + 1) = ((k + 1 : Nat) : Int) := by rw [wrap_in (by omega) (by omega)]; omega
      have hc3' : ∀ j, j < i ∨ i + (d + 1) < j → c3 j = c j := fun j hj => by
        rw [hc3 j (by omega), if_neg (by omega)]; exact hc' j hj
      by_cases hq : (runL step (runL step s ((List.range k).flatMap part)).1 (part k)).2 = true
      · have hrun : runL step s ((List.range (k + 1)).flatMap part) = runL step (runL step s ((List.range k).flatMap part)).1 (part k) := by
          rw [List.range_succ, List.flatMap_append, runL_append, hr1, if_pos rfl]; simp
        have hl3 : ((List.range (k + 1)).flatMap part).length = ((List.range k).flatMap part).length + (part k).length := by rw [List.range_succ, List.flatMap_append, List.length_append]; simp
        rw [hq] at e
        simp only [rn0, rn1, rn2, rn3, rn4, rn5, rn6, rn7, rn8, if_true, if_false, Nat.le_refl, true_and, and_true, decide_true, decide_false, Bool.not_true, Bool.not_false, reduceIte, Nat.reduceEqDiff, Nat.reduceAdd, Nat.reduceMul, Nat.reduceSub, Nat.reduceLeDiff, Nat.reduceLT, f0, f1, f3, f5, f21, f22, it2.c.ld, Nat.zero_add, List.getElem?_cons_zero, List.getElem?_cons_succ, hw, hwk, e, hw2]
        rw [hrun, hl3, Nat.mul_add]
        exact ⟨it3, ⟨c3, hb3, hc3'⟩, j3, hq, fl3, by omega⟩
      · have hq' : (runL step (runL step s ((List.range k).flatMap part)).1 (part k)).2 = false := by simpa using hq
        have hrun : runL step s ((List.range m).flatMap part) = runL step (runL step s ((List.range k).flatMap part)).1 (part k) := by
          rw [hpart, runL_append, hr1, if_pos rfl, runL_append, hq', if_neg (by simp)]
        rw [hq'] at e
        simp only [rn0, rn1, rn2, rn3, rn4, rn5, rn6, rn7, rn8, if_true, if_false, Nat.le_refl, true_and, and_true, decide_true, decide_false, Bool.not_true, Bool.not_false, reduceIte, Nat.reduceEqDiff, Nat.reduceAdd, Nat.reduceMul, Nat.reduceSub, Nat.reduceLeDiff, Nat.reduceLT, f0, f1, f3, f5, f21, f22, it2.c.ld, Nat.zero_add, List.getElem?_cons_zero, List.getElem?_cons_succ, hw, hwk, e]
        rw [hrun, hq']
        exact ⟨rfl, j3, it3, ⟨c3, hb3, hc3'⟩, fl3, by omega⟩
    · rintro f g1 ms ⟨⟨it1, ⟨c', hb1, hc'⟩, hj1, hr1, hf1, hn1⟩, rfl, f0, f1, f3, f5, f21, f22⟩
      simp only [rn0, rn1, rn2, rn3, rn4, rn5, rn6, rn7, rn8, if_true, if_false, Nat.le_refl, true_and, and_true, decide_true, decide_false, Bool.not_true, Bool.not_false, reduceIte, Nat.reduceEqDiff, Nat.reduceAdd, Nat.reduceMul, Nat.reduceSub, Nat.reduceLeDiff, Nat.reduceLT, f0, f1, f3, f5, f21, f22, Int.lt_irrefl]
      exact ⟨by rw [hr1], hj1, it1, ⟨c', hb1, hc'⟩, hf1, hn1⟩
def s127 : SCode := (.seq (.ops [⟨(some 3), none, .box (T 0)⟩]) (.seq (.ops [⟨(some 4), none, .alloc [(.int .i64 (0)), (.int .i64 (0)), (.int .i64 (0)), (.int .i64 (0))]⟩]) (.seq (.ops [⟨(some 5), none, .alloc [.nilFunc]⟩]) (.seq (.ops [⟨(some 6), none, .mkfunc 128 [] [(T 1), (T 4), (T 3), (T 5)]⟩, ⟨none, none, .store 1 (T 5) (T 6)⟩]) (.ops [⟨(some 7), none, .load1 (T 5)⟩, ⟨(some 8), none, .load1 (T 2)⟩, ⟨(some 9), none, .call (T 7) [(.const (.int .i64 (0))), (T 8)]⟩])))))
theorem fok127 : FnOk Try.prog 127 10 s127 [] := ⟨Try.f127, _, Try.func127, rfl, Try.ntmps127, by kernel_rfl, by kernel_rfl⟩
theorem iterS_c (step : σ → (Nat → Int) → σ × Bool) (J : σ → AHeap → Prop) {g : AHeap} {pv pm K N0 n nv many : Nat} {yv : Value} (s : σ) (hv0 : 0 < nv) (hsz : nv ≤ 4) (hm : many ≤ 9)
    (hv : Row g pv [.int .i64 (nv : Int)]) (hmr : Row g pm [.int .i64 (many : Int)]) (hyv : oneCell yv = true) (hfl : g.floor ≤ g.next) (hN : 10002 ≤ N0) (hn : N0 + 7 ≤ n)
    (hJ : ∀ s g1 g' cs, J s g1 → Set1 g1 g' (g.next + 1) cs 0 → J s g')
    (hJ0 : ∀ g3, Old g g3 3 → J s g3)
    (hY : ∀ n g1 s c, N0 ≤ n → ItS pv g.next (g.next + 2) nv yv (fillV pv g.next (g.next + 1) (g.next + 2)) g1 → g1.get (g.next + 1) = some (.row (arr4 c) true 0) → OkS many nv nv c → J s g1 → g1.floor = g.floor → g1.next + K < far →
      ∃ g', call n yv [.agg ⟨arr4 c⟩] g1 = some (.bool (step s c).2, g') ∧ J (step s c).1 g' ∧ ItS pv g.next (g.next + 2) nv yv (fillV pv g.next (g.next + 1) (g.next + 2)) g' ∧ g'.get (g.next + 1) = some (.row (arr4 c) true 0) ∧ g'.floor = g.floor ∧ g'.next ≤ g1.next + K)
    (hr : g.next + 3 + K * (enumS (nv - 1) 0 many fun _ => 0).length < far) :
    ∃ v g', call n (.func (.func 127) ⟨[]⟩ ⟨[.pointer (some ⟨pv, 0, none⟩), .pointer (some ⟨pm, 0, none⟩)]⟩) [yv] g = some (v, g') ∧ J (runL step s (enumS (nv - 1) 0 many fun _ => 0)).1 g' ∧ g'.floor = g.floor ∧ g'.next ≤ g.next + 3 + K * (enumS (nv - 1) 0 many fun _ => 0).length := by
  obtain ⟨n, rfl⟩ : ∃ p, n = p + 1 := ⟨n - 1, by omega⟩
  refine call_any (xs := []) (ys := [.pointer (some ⟨pv, 0, none⟩), .pointer (some ⟨pm, 0, none⟩)]) fok127 rfl rfl (by simp) ?_
  simp only [s127, List.cons_append, List.nil_append, W_seq, W_ops]
  refine ops_box (cs := [yv]) (by omega) (by simp only [rn0, rn1, rn2, rn3, rn4, rn5, rn6, rn7, rn8, if_true, if_false, Nat.le_refl, true_and, and_true, decide_true, decide_false, Bool.not_true, Bool.not_false, reduceIte, Nat.reduceEqDiff, Nat.reduceAdd, Nat.reduceMul, Nat.reduceSub, Nat.reduceLeDiff, Nat.reduceLT]; cases yv <;> first | rfl | cases hyv) (by simp [allB, hyv]) fun g1 hx1 => ?_
  have n1 := hx1.next
  have f1 := hx1.floor
  simp only [rn0, rn1, rn2, rn3, rn4, rn5, rn6, rn7, rn8, if_true, if_false, Nat.le_refl, true_and, and_true, decide_true, decide_false, Bool.not_true, Bool.not_false, reduceIte, Nat.reduceEqDiff, Nat.reduceAdd, Nat.reduceMul, Nat.reduceSub, Nat.reduceLeDiff, Nat.reduceLT]
  refine step_row (cs := arr4 fun _ => 0) (by omega) rfl arr4_one fun g2 hx2 => ?_
  have n2 := hx2.next
  have f2 := hx2.floor
  simp only [rn0, rn1, rn2, rn3, rn4, rn5, rn6, rn7, rn8, if_true, if_false, Nat.le_refl, true_and, and_true, decide_true, decide_false, Bool.not_true, Bool.not_false, reduceIte, Nat.reduceEqDiff, Nat.reduceAdd, Nat.reduceMul, Nat.reduceSub, Nat.reduceLeDiff, Nat.reduceLT]
  refine step_row (cs := [.nilFunc]) (by omega) rfl rfl fun g3 hx3 => ?_
  have n3 := hx3.next
  have f3 := hx3.floor
  have hpv : pv < g.next := by obtain ⟨w, gr, e⟩ := hv; exact AHeap.lt_of_get e
  simp only [rn0, rn1, rn2, rn3, rn4, rn5, rn6, rn7, rn8, if_true, if_false, Nat.le_refl, true_and, and_true, decide_true, decide_false, Bool.not_true, Bool.not_false, reduceIte, Nat.reduceEqDiff, Nat.reduceAdd, Nat.reduceMul, Nat.reduceSub, Nat.reduceLeDiff, Nat.reduceLT]
  have e1 : g1.next = g.next + 1 := n1
  have e2 : g2.next = g.next + 2 := by omega
  rw [e1, e2]
  refine step_store (b := g.next + 2) (gr := 0) (vs := [fillV pv g.next (g.next + 1) (g.next + 2)]) rfl (by have := hx3.get; rw [e2] at this; exact this) (by omega) (by omega) rfl rfl rfl (by simp) fun g4 hs => ?_
  have hc4 := hs.row
  have hs4 : ∀ i, i < g.next + 2 → g4.get i = g2.get i := fun i hi => by rw [hs.old i (by omega), hx3.old i (by omega)]
  have hb4 : g4.get (g.next + 1) = some (.row (arr4 fun _ => 0) true 0) := by
    rw [hs4 _ (by omega)]; have := hx2.get; rw [e1] at this; exact this
  have hy4 : g4.get g.next = some (.row [yv] true 0) := by
    rw [hs4 _ (by omega), hx2.old _ (by omega)]; exact hx1.get
  have ho4 : Old g g4 3 := ⟨fun i hi => by rw [hs4 i (by omega), hx2.old i (by omega), hx1.old i hi], by have := hs.next; omega, by have := hs.floor; omega⟩
  have hit : ItS pv g.next (g.next + 2) nv yv (fillV pv g.next (g.next + 1) (g.next + 2)) g4 := ⟨hv.mono ho4.sub, ⟨_, _, hy4⟩, by simpa [splice] using hc4⟩
  have hch := fill_c step J (pv := pv) (py := g.next) (pb := g.next + 1) (pc := g.next + 2) (K := K) (N0 := N0) (fl := g.floor) (nv := nv) (yv := yv) (M := many) hsz hm (by omega) (by omega) (by omega) (by omega) hN hJ hY (nv - 1) 0 many n g4 s (fun _ => 0) (by omega) (Nat.le_refl _) (by omega) hit hb4 ⟨fun j hj => by omega, fun _ _ => rfl⟩ (hJ0 _ ho4) ho4.floor (by have := ho4.next; omega)
  obtain ⟨g5, q1, q2, q3, q4, q5, q6⟩ := hch
  have hl : loadCell g4 (.pointer (some ⟨g.next + 2, 0, none⟩)) = some (fillV pv g.next (g.next + 1) (g.next + 2)) := by rw [hc4.ld]; simp [splice]
  have hlm := (hmr.mono ho4.sub).ld 0
  rw [List.getElem?_cons_zero] at hlm
  have q1' : call n (fillV pv g.next (g.next + 1) (g.next + 2)) [.int .i64 0, .int .i64 (many : Int)] g4 = some (.bool (runL step s (enumS (nv - 1) 0 many fun _ => 0)).2, g5) := q1
  simp only [rn0, rn1, rn2, rn3, rn4, rn5, rn6, rn7, rn8, if_true, if_false, Nat.le_refl, true_and, and_true, decide_true, decide_false, Bool.not_true, Bool.not_false, reduceIte, Nat.reduceEqDiff, Nat.reduceAdd, Nat.reduceMul, Nat.reduceSub, Nat.reduceLeDiff, Nat.reduceLT, hl, hlm, q1']
  exact ⟨_, rfl, q2, by rw [q5], by have := ho4.next; omega⟩
end
end Go.Vm.Vat

namespace Go.Vm.Vat
open Go.Proofs
set_option linter.unusedSimpArgs false
set_option linter.unusedVariables false
set_option maxRecDepth 10000
variable {n : Nat} {h : AHeap}
/-! ### The iterator once more: yield is told of no state behind which it has said false -/
section
variable {σ : Type}
end
end Go.Vm.Vat

namespace Go.Vm.Vat
open Go.Proofs
set_option linter.unusedSimpArgs false
set_option linter.unusedVariables false
set_option maxRecDepth 10000
variable {n : Nat} {h : AHeap}
end Go.Vm.Vat

namespace Go.Vm.Vat
open Go.Proofs
set_option linter.unusedSimpArgs false
set_option linter.unusedVariables false
set_option maxRecDepth 10000
variable {n : Nat} {h : AHeap}
/-- what lies in memory meanwhile -/
structure JF (h2 : AHeap) (p : Nat) (r : ALoop) (s : Int × Bool) (g : AHeap) : Prop where
  old : ∀ i, i < h2.next → i ≠ p + 1 → i ≠ p + 2 → i ≠ p + 3 → i ≠ p + 7 → g.get i = h2.get i
  fst : g.get (p + 3) = some (.row [.int .i64 s.1] true 0)
  r1 : g.get (p + 1) = some (.row [.int .i64 0] true 0)
  r2 : g.get (p + 2) = some (.row [.int .i64 (if s.2 then 7 else 0)] true 0)
  lp : g.get (p + 7) = some (.loop (if s.2 then leftBy r .ret else r))
  up : h2.next + 3 ≤ g.next
theorem splice1 {a b : Value} : splice [a] 0 [b] = [b] := rfl
theorem row_ld0 {b : Nat} {x : Value} {w : Bool} {gr : Nat} (hg : h.get b = some (.row [x] w gr)) : loadCell h (.pointer (some ⟨b, 0, none⟩)) = some x := by
  have : Row h b [x] := ⟨_, _, hg⟩
  rw [this.ld]; rfl
end Go.Vm.Vat
