/- Texts of the proofs of this seat, put together: BtC, BtBest, BtV4, BtMod, BtWrong, BtFirstP, BtSome. -/
import Derived.Test.YtjihegbffhhcaaaPk13
import Derived.Test.YtjihegbffhhcaaaRows
import Derived.WalkKit
import Derived.ProofKit
import Derived.OpenShut

namespace Go.Vm.Bt
open Go.Vm.Vat Go.Vm.L2 Go.Proofs Go.ChangeShapes Go.WideShapes Go.ChangeAt Go.RowKit
set_option linter.unusedSimpArgs false
set_option linter.unusedVariables false
set_option maxRecDepth 10000
variable {n : Nat} {h : AHeap}
theorem own : ownKnob Try.prog.godebug = none := by kernel_rfl
theorem mixedOn : Try.prog.follows .mixedOrders = true := by kernel_rfl
theorem namesAll : (Try.prog.funcs.toList.all fun fn => !(fn.name == "runtime.NumGoroutine")) = true := by kernel_rfl
theorem namesFine : NamesFine Try.prog := by
  intro f fn hf
  have h := List.all_eq_true.1 namesAll fn (Array.mem_toList_iff.2 (Array.mem_of_getElem? hf))
  simpa using h
theorem tabOk : ∀ E ∈ BtAwake.tab, ∃ cf, SoundCF Try.prog cf ∧ entryOk cf E = true := by
  have hs := vm_sound namesFine mixedOn BtAwake.quiet 1000
  intro E hE
  refine ⟨_, hs, ?_⟩
  revert E
  simp only [BtAwake.tab, List.forall_mem_cons, List.not_mem_nil, false_implies, implies_true, and_true]
  exact ⟨BtAwake.ok0, BtAwake.ok1, BtAwake.ok2, BtAwake.ok3, BtAwake.ok4, BtAwake.ok5, BtAwake.ok6, BtAwake.ok7, BtAwake.ok8, BtAwake.ok9, BtAwake.ok10, BtAwake.ok11⟩
theorem kOk : KOk Try.prog K := by
  intro f v hK
  unfold K at hK
  split at hK
  · rename_i e
    subst e
    cases hK
    refine ⟨rfl, acallO Try.prog BtAwake.quiet BtAwake.tab 1000, ?_⟩
    have hm := BtAwake.main_ok
    cases hr : acallO Try.prog BtAwake.quiet BtAwake.tab 1000 (.func (.func 24) #[] #[]) [] AHeap.empty with
    | none => rw [hr] at hm; cases hm
    | some vh =>
      obtain ⟨v, h'⟩ := vh
      rw [hr] at hm
      unfold BtAwake.isTrue at hm
      split at hm
      · rename_i e
        cases e
        exact ⟨h', acallO_sound namesFine mixedOn BtAwake.quiet tabOk 1000, rfl⟩
      · cases hm
  · cases hK
theorem sound (n : Nat) : SoundCF Try.prog (call n) := pcall_sound namesFine mixedOn kOk n
theorem laidOk : laidOutB Try.prog = true := by kernel_rfl
theorem mapsOk : mapsRowed Try.prog = true := by kernel_rfl
theorem slicesOk : ((List.range Try.prog.types.size).all fun t => match Try.prog.underlying t with | some (.slice e) => decide (0 < Try.prog.cellsOf e) | _ => true) = true := by kernel_rfl
theorem kids : Kids Try.prog (· < Try.prog.types.size) := kids_rows laidOk mapsOk
theorem tsize : 120 < Try.prog.types.size := of_decide_eq_true (by kernel_rfl)
theorem cell_slice {P : Program} {w : World} {r : Reach} {b : Nat} {t e : TypeId} {v x : Value} (ht : P.underlying t = some (.slice e)) (ho : Value.okWide P w r b t v) (hc : v.cells.toList = [x]) : v = x := by
  unfold Value.okWide at ho
  rw [ht] at ho
  cases v <;> simp_all [Value.cells, Cell.okWide, Cell.ok]
theorem cell_int {P : Program} {w : World} {r : Reach} {b : Nat} {t : TypeId} {k : IntKind} {v x : Value} (ht : P.underlying t = some (.int k)) (ho : Value.okWide P w r b t v) (hc : v.cells.toList = [x]) : v = x := by
  unfold Value.okWide at ho
  rw [ht] at ho
  cases v <;> simp_all [Value.cells, Cell.okWide, Cell.ok]
theorem agg_struct {P : Program} {w : World} {r : Reach} {b : Nat} {t : TypeId} {fs : Array Field} {v : Value} {cs : List Value} (ht : P.underlying t = some (.struct fs)) (ho : Value.okWide P w r b t v) (hc : v.cells.toList = cs) : v = .agg ⟨cs⟩ := by
  unfold Value.okWide at ho
  rw [ht] at ho
  obtain ⟨cs', rfl, _⟩ := ho
  subst hc
  rfl
theorem map_int {φ : Emb} {k : IntKind} {a : Int} : mapV φ (.int k a) = .int k a := by simp [mapV]
theorem stands_beat {w : World} {φ : Emb} {a b c : Int} {u1 u2 vv sv : Value} (h1 : Stands φ h u1 vv) (h2 : Stands φ h u2 sv) : mapV φ (.agg ⟨[.int .i64 a, .int .i64 b, u1, .int .i64 c, u2]⟩) = .agg ⟨[.int .i64 a, .int .i64 b, vv, .int .i64 c, sv]⟩ ∧ okV φ h.next (.agg ⟨[.int .i64 a, .int .i64 b, u1, .int .i64 c, u2]⟩) := by
  refine ⟨?_, ?_⟩
  · simp only [mapV, mapArr, mapL, h1.map, h2.map]
  · simp only [okV, okA, okL, and_true, true_and]
    exact ⟨h1.ok, h2.ok⟩
theorem stands_course {w : World} {φ : Emb} {a : Int} {u0 cw : Value} (h0 : Stands φ h u0 cw) : mapV φ (.agg ⟨[.int .i64 a, u0]⟩) = .agg ⟨[.int .i64 a, cw]⟩ ∧ okV φ h.next (.agg ⟨[.int .i64 a, u0]⟩) := by
  refine ⟨?_, ?_⟩
  · simp only [mapV, mapArr, mapL, h0.map]
  · simp only [okV, okA, okL, and_true, true_and]
    exact h0.ok
end Go.Vm.Bt

namespace Go.Vm.Bt
open Go.Proofs Go.Vm.Vat Go.Vm.L2
set_option linter.unusedSimpArgs false
set_option linter.unusedVariables false
set_option maxRecDepth 10000
variable {n : Nat} {h : AHeap}
def enL (S : MB) (c : Nat → Int) : List Value := (List.range S.nv).map fun v => .int .i64 (c v)
theorem enL_len {S : MB} {c : Nat → Int} : (enL S c).length = S.nv := by simp [enL]
theorem enL_one {S : MB} {c : Nat → Int} : allB oneCell (enL S c) = true := by rw [allB_iff]; intro v hv; obtain ⟨i, _, rfl⟩ := List.mem_map.1 hv; rfl
theorem enL_set {S : MB} {c : Nat → Int} {i : Nat} (hi : i < S.nv) {x : Int} : splice (enL S c) i [.int .i64 x] = enL S (setU c i x) := by
  refine map_splice (by simp; omega) (fun j hj hc => ?_) (fun j hj => ?_)
  · simp only [List.length_cons, List.length_nil] at hc
    simp only [setU]
    rw [if_neg (by omega)]
  · simp only [List.length_cons, List.length_nil] at hj
    obtain rfl : j = 0 := by omega
    simp [setU]
theorem enL_ints {S : MB} {c : Nat → Int} {g : AHeap} {b k gr m : Nat} {w : Bool} (hg : g.get b = some (.row (enL S c) w gr)) (hm : m ≤ S.nv) : Ints g (.slice (some ⟨b, 0, none⟩) m k) m c :=
  ⟨_, _, rfl, fun x e => by cases e; rfl, .inr ⟨b, 0, _, _, _, rfl, hg, fun v j hv hj => by
    obtain rfl : j = 0 := by omega
    rw [Nat.zero_add, Nat.mul_one, Nat.add_zero, enL, List.getElem?_map, List.getElem?_range (by omega)]; rfl⟩⟩
theorem append_room {g : AHeap} {b c len cap gr kc : Nat} {cs : List Value} {x : Int} (hg : g.get b = some (.row cs true gr)) (hc : g.get c = some (.row [.int .i64 x] true 0)) (hfl : g.floor ≤ b) (hf : g.next ≤ far) (hl : len < cap) (hcap : cap ≤ 100) (hlen : len < cs.length) :
    ∃ h1, appendA 1 8 g (.slice (some ⟨b, 0, none⟩) len cap) (.slice (some ⟨c, 0, none⟩) 1 kc) = some (.slice (some ⟨b, 0, none⟩) (len + 1) cap, h1) ∧ Set1 g h1 b (splice cs len [.int .i64 x]) gr := by
  obtain ⟨h1, e, hs⟩ := storeRow_run (off := len) (vs := [.int .i64 x]) hg hfl hf rfl (by simp; omega)
  refine ⟨h1, ?_, hs⟩
  have hcl : cellsOfSlice g 1 (.slice (some ⟨c, 0, none⟩) 1 kc) = some [.int .i64 x] := by
    show (bif Nat.beq 1 0 then some [] else match g.get c with
      | some (.row cs _ _) => dropK cs 0 fun r => takeK r (1 * 1) fun l => some l
      | _ => none) = some [.int .i64 x]
    have h10 : Nat.beq 1 0 = false := rfl
    rw [hc, h10, cond_false]
    rfl
  have e1 : Nat.ble ((len + 1) * 8) maxBytes = true := ble_iff.2 (by simp [maxBytes]; omega)
  have e2 : Nat.ble (len + 1) maxBytes = true := ble_iff.2 (by simp [maxBytes]; omega)
  have e3 : Nat.beq (Go.Vm.len [Value.int .i64 x]) (1 * 1) = true := rfl
  have e4 : Nat.ble (len + 1) cap = true := ble_iff.2 (by omega)
  have e5 : Nat.blt cap unk = true := blt_iff.2 (by simp [unk]; omega)
  have e6 : Nat.beq 1 0 = false := rfl
  unfold appendA
  simp only [hcl, e1, e2, e3, e4, e5, Bool.and_self, cond_true]
  unfold appendRoom
  simp only [e6, cond_false, Nat.zero_add, Nat.mul_one, e]
theorem part1 {a b : Int} : partOne 1 (.agg ⟨[.int .i64 a, .int .i64 b]⟩) h = some (.int .i64 b, h) := id rfl
def bndB : Nat → Nat
  | 0 => 4
  | d + 1 => 4 + 10 * (bndB d + 1)
def chooseE (pw po pb pc : Nat) : Value := .func (.func 126) ⟨[]⟩ ⟨[.pointer (some ⟨pw, 0, none⟩), .pointer (some ⟨po, 0, none⟩), .pointer (some ⟨pb, 0, none⟩), .pointer (some ⟨pc, 0, none⟩)]⟩
theorem chooseE_self {pw po pb pc : Nat} : eqV (chooseE pw po pb pc) (chooseE pw po pb pc) = true := by
  simp [chooseE, eqV, eqCell, eqPs, eqP, eqOA]
structure BeS (S : MB) (vv sv tv : Value) (pw po pb pc pe B : Nat) (s : (Nat → Int) × Int) (c : Nat → Int) (g : AHeap) : Prop where
  o : OpS g vv sv tv S
  w : Row g pw (wkL S vv sv tv)
  cl : Row g pc [chooseE pw po pb pc]
  wo : g.get po = some (.row [.int .i64 s.2] true 0)
  be : ∃ bv, g.get pb = some (.row [bv] true 0) ∧ Ints g bv S.nv s.1 ∧ oneCell bv = true ∧ ∀ a k q, bv = .slice (some a) k q → a.block ≠ pe ∧ a.block ≠ po ∧ a.block ≠ pb
  e : g.get pe = some (.row (enL S c) true 0)
  fl : g.floor = B
  ne : pe ≠ po ∧ pe ≠ pb ∧ po ≠ pb ∧ B ≤ pe ∧ B ≤ po ∧ B ≤ pb ∧ pw ≠ pe ∧ pw ≠ po ∧ pw ≠ pb ∧ pc ≠ pe ∧ pc ≠ po ∧ pc ≠ pb
def ApartS (S : MB) (vv sv tv : Value) (x : Nat) : Prop := (0 < S.nv → NeB vv x) ∧ (0 < S.ns → NeB sv x) ∧ NeB tv x
theorem cells_keep {g g' : AHeap} {v : Value} {s m o : Nat} {c : Nat → Nat → Value} (hc : Cells g v s m c) (k : Keep o g g') (hb : 0 < m → NeB v o) : Cells g' v s m c := by
  by_cases h0 : m = 0
  · obtain ⟨a, cap, e, sp, _⟩ := hc
    exact ⟨a, cap, e, sp, .inl h0⟩
  · exact Cells.keep hc k fun a m c e => (hb (by omega) a m c e).symm
theorem OpS.set {g g' : AHeap} {vv sv tv : Value} {S : MB} {b gr : Nat} {cs : List Value} (ho : OpS g vv sv tv S) (hs : Set1 g g' b cs gr) (ha : ApartS S vv sv tv b) : OpS g' vv sv tv S := by
  have k := hs.keep
  exact ⟨ho.good, ho.some, ⟨cells_keep ho.y.v k ha.1, cells_keep ho.y.s k ha.2.1⟩, ho.one, Cells.keep ho.d k fun a m c e => (ha.2.2 a m c e).symm, ho.long⟩
def OkE (S : MB) (i : Nat) (c : Nat → Int) : Prop := (∀ j, j < i → 0 ≤ c j ∧ c j ≤ S.last) ∧ ∀ j, S.nv ≤ j → c j = 0
noncomputable def endsFrom (S : MB) (d i : Nat) (c : Nat → Int) : List (Nat → Int) := enumB (fun _ => 0) (fun _ => S.last) d i c
theorem from_ok {S : MB} {d i : Nat} (hi : i + d = S.nv) {c e : Nat → Int} (hc : OkE S i c) (he : e ∈ endsFrom S d i c) : EndsOk S S.nv e ∧ ∀ j, j < i → e j = c j := by
  obtain ⟨h1, h2⟩ := (enumB_ok _ _ _ _).1 he
  refine ⟨⟨fun v hv => ?_, fun v hv => ?_⟩, fun j hj => h2 j (.inl hj)⟩
  · by_cases c1 : v < i
    · rw [h2 v (.inl c1)]; exact hc.1 v c1
    · exact h1 v (by omega) (by omega)
  · rw [h2 v (.inr (by omega))]; exact hc.2 v hv
theorem from_skip {S : MB} (hG : Good S) (hT : truthsS S ≠ []) {d i : Nat} (hi : i + d = S.nv) {c : Nat → Int} (hc : OkE S i c) {s : (Nat → Int) × Int} (hs : s.2 ≤ wHi S c i) : runL (bestStep S) s (endsFrom S d i c) = (s, true) :=
  best_skip _ s fun e he => by
    obtain ⟨h1, h2⟩ := from_ok hi hc he
    have h3 := wHi_mono hG hT h1 (m := i) (m' := S.nv) (by omega) (Nat.le_refl _)
    rw [wHi_congr hT (e' := c) h2] at h3
    omega
def s126 : SCode := (.seq (.ops [⟨(some 8), none, .loadN 6 (T 1)⟩, ⟨(some 9), none, .mov (T 0)⟩, ⟨(some 10), none, .call (.func 93) [(T 8), (T 9)]⟩, ⟨(some 11), none, .field1 1 (T 10)⟩, ⟨(some 6), none, .mov (T 11)⟩]) (.block 0 (.seq (.ops [⟨(some 27), none, .mov (T 6)⟩, ⟨(some 28), none, .load1 (T 2)⟩, ⟨(some 29), none, .int2 .geq (T 27) (T 28)⟩, ⟨(some 26), none, .mov (T 29)⟩]) (.cond (T 26) .skip (.seq (.ops [⟨(some 31), none, .mov (T 0)⟩, ⟨(some 32), none, .len (T 31)⟩, ⟨(some 33), none, .fieldAddr 0 (T 1)⟩, ⟨(some 34), none, .fieldAddr 2 (T 33)⟩, ⟨(some 35), none, .load1 (T 34)⟩, ⟨(some 36), none, .len (T 35)⟩, ⟨(some 37), none, .int2 .eql (T 32) (T 36)⟩, ⟨(some 30), none, .mov (T 37)⟩]) (.cond (T 30) (.ops [⟨(some 38), none, .mov (T 0)⟩, ⟨(some 39), none, .call (.func 127) [(T 38)]⟩, ⟨(some 40), none, .mov (T 6)⟩, ⟨none, none, .store 1 (T 3) (T 39)⟩, ⟨none, none, .store 1 (T 2) (T 40)⟩]) (.seq (.ops [⟨(some 12), none, .fieldAddr 0 (T 1)⟩, ⟨(some 13), none, .fieldAddr 3 (T 12)⟩, ⟨(some 14), none, .load1 (T 13)⟩, ⟨(some 15), none, .int2 .add (T 14) (.const (.int .i64 (1)))⟩, ⟨(some 16), none, .mov (.const (.int .i64 (0)))⟩]) (.block 1 (.loop (.seq (.ops [⟨(some 17), none, .int2 .lss (T 16) (T 15)⟩]) (.seq (.cond (T 17) .skip (.exit 1)) (.seq (.block 2 (.seq (.ops [⟨(some 18), none, .mov (T 16)⟩, ⟨(some 7), none, .mov (T 18)⟩]) (.draw [⟨.rd, ⟨(some 19), none, .load1 (T 4)⟩⟩, ⟨.free, ⟨(some 20), none, .mov (T 0)⟩⟩, ⟨.free, ⟨(some 21), none, .mov (T 7)⟩⟩, ⟨.up, ⟨(some 22), none, .bslice 1 1 [(.int .i64 (0))] [0] [(T 21)]⟩⟩, ⟨.up, ⟨(some 23), none, .append 1 8 (T 20) (T 22)⟩⟩, ⟨.any, ⟨(some 24), none, .call (T 19) [(T 23)]⟩⟩]))) (.ops [⟨(some 25), none, .int2 .add (T 16) (.const (.int .i64 (1)))⟩, ⟨(some 16), none, .mov (T 25)⟩])))))))))))))
theorem fok126 : FnOk Try.prog 126 41 s126 [] := ⟨Try.f126, _, Try.func126, rfl, Try.ntmps126, by kernel_rfl, by kernel_rfl⟩
set_option maxHeartbeats 2000000 in
theorem chooseE_c {S : MB} {vv sv tv : Value} {pw po pb pc pe B : Nat} (ha : ApartS S vv sv tv pe ∧ ApartS S vv sv tv po ∧ ApartS S vv sv tv pb) :
    ∀ (d i n : Nat) (g : AHeap) (s : (Nat → Int) × Int) (c : Nat → Int), i + d = S.nv → 900 + d ≤ n → BeS S vv sv tv pw po pb pc pe B s c g → OkE S i c → g.next + bndB d + 7000 < far →
      ∃ v g' c', call n (chooseE pw po pb pc) [.slice (some ⟨pe, 0, none⟩) i S.nv] g = some (v, g') ∧ BeS S vv sv tv pw po pb pc pe B (runL (bestStep S) s (endsFrom S d i c)).1 c' g' ∧ (∀ j, j < i ∨ i + d ≤ j → c' j = c j) ∧
        (∀ q, q < g.next → q ≠ pe → q ≠ po → q ≠ pb → g'.get q = g.get q) ∧ g.next ≤ g'.next ∧ g'.next ≤ g.next + bndB d := by
  intro d
  induction d with
  | zero =>
    intro i n g s c hi hn hb hok hr
    obtain ⟨n, rfl⟩ : ∃ p, n = p + 1 := ⟨n - 1, by omega⟩
    have hG := hb.o.good
    have hT := hb.o.some
    obtain ⟨z0, z1, z3, _⟩ := hG.sizes
    obtain ⟨e1, e2, e3, e4, e5, e6, e7, e8, e9, e10, e11, e12⟩ := hb.ne
    obtain rfl : i = S.nv := by omega
    have hle := losses_c (n := n) (h := g) (by omega) (by omega) hb.o (enL_ints (k := S.nv) hb.e (Nat.le_refl _)) (Nat.le_refl _) fun v hv => by have := hok.1 v hv; omega
    have rw1 := hb.w
    have ro : Row g po _ := ⟨_, _, hb.wo⟩
    have hlv := Cells.len hb.o.y.v
    simp only [bndB] at hr ⊢
    suffices hs : ∃ v g', call (n + 1) (chooseE pw po pb pc) [.slice (some ⟨pe, 0, none⟩) S.nv S.nv] g = some (v, g') ∧ ∃ c', BeS S vv sv tv pw po pb pc pe B (runL (bestStep S) s (endsFrom S 0 S.nv c)).1 c' g' ∧ (∀ j, j < S.nv ∨ S.nv + 0 ≤ j → c' j = c j) ∧
        (∀ q, q < g.next → q ≠ pe → q ≠ po → q ≠ pb → g'.get q = g.get q) ∧ g.next ≤ g'.next ∧ g'.next ≤ g.next + 4 by
      obtain ⟨v, g', e, c', h1⟩ := hs
      exact ⟨v, g', c', e, h1⟩
    refine call_any (xs := []) (ys := [.pointer (some ⟨pw, 0, none⟩), .pointer (some ⟨po, 0, none⟩), .pointer (some ⟨pb, 0, none⟩), .pointer (some ⟨pc, 0, none⟩)]) fok126 rfl rfl (by simp) ?_
    by_cases hsk : s.2 ≤ wHi S c S.nv
    · have hrun := from_skip hG hT (d := 0) (by omega) hok hsk
      simp only [rn0, rn1, rn2, rn3, rn4, rn5, rn6, rn7, rn8, if_true, if_false, Nat.le_refl, true_and, and_true, decide_true, decide_false, Bool.not_true, Bool.not_false, reduceIte, Nat.reduceEqDiff, Nat.reduceAdd, Nat.reduceMul, Nat.reduceSub, Nat.reduceLeDiff, Nat.reduceLT, s126, List.cons_append, List.nil_append, rw1.whole (n := 6) rfl, hle, part1, ro.ld, Nat.zero_add, List.getElem?_cons_zero, List.getElem?_cons_succ, hsk]
      rw [hrun]
      refine ⟨_, rfl, c, hb, ?_⟩
      first | exact ⟨fun _ _ => rfl, fun _ _ _ _ _ => trivial, Nat.le_add_right _ _⟩ | exact ⟨fun _ _ => rfl, fun _ _ _ _ _ => rfl, Nat.le_refl _, by omega⟩
    · obtain ⟨cv, g1, e1c, hic, oc, oldc, uc, mc, fc, bc⟩ := clone_c (n := n) (h := g) (v := .slice (some ⟨pe, 0, none⟩) S.nv S.nv) (by omega) (by omega) (enL_ints hb.e (Nat.le_refl _)) (by omega)
      have hrun : (runL (bestStep S) s (endsFrom S 0 S.nv c)).1 = (c, wHi S c S.nv) := by
        simp only [endsFrom, enumB, runL, bestStep]
        rw [if_pos (show wHi S c S.nv < s.2 by omega)]; rfl
      obtain ⟨bv, b1, b2, b3, b4⟩ := hb.be
      have ltb := AHeap.lt_of_get b1
      have lto := AHeap.lt_of_get hb.wo
      have lte := AHeap.lt_of_get hb.e
      have hfb := hb.fl
      simp only [rn0, rn1, rn2, rn3, rn4, rn5, rn6, rn7, rn8, if_true, if_false, Nat.le_refl, true_and, and_true, decide_true, decide_false, Bool.not_true, Bool.not_false, reduceIte, Nat.reduceEqDiff, Nat.reduceAdd, Nat.reduceMul, Nat.reduceSub, Nat.reduceLeDiff, Nat.reduceLT, s126, List.cons_append, List.nil_append, rw1.whole (n := 6) rfl, rw1.ld, wkg, hlv, len_slice, hle, part1, ro.ld, Nat.zero_add, List.getElem?_cons_zero, List.getElem?_cons_succ, hsk, e1c]
      refine step_store (b := pb) (off := 0) (vs := [cv]) rfl (by rw [oldc _ ltb]; exact b1) (by omega) (by omega) (cells1 oc) (by simp [allB, oc]) rfl (by simp) fun g2 hs2 => ?_
      rw [splice1] at hs2
      have n2 := hs2.next
      have f2 := hs2.floor
      simp only [rn0, rn1, rn2, rn3, rn4, rn5, rn6, rn7, rn8, if_true, if_false, Nat.le_refl, true_and, and_true, decide_true, decide_false, Bool.not_true, Bool.not_false, reduceIte, Nat.reduceEqDiff, Nat.reduceAdd, Nat.reduceMul, Nat.reduceSub, Nat.reduceLeDiff, Nat.reduceLT]
      refine step_store (b := po) (off := 0) (vs := [.int .i64 (wHi S c S.nv)]) rfl (by rw [hs2.old _ e3, oldc _ lto]; exact hb.wo) (by omega) (by omega) rfl rfl rfl (by simp) fun g3 hs3 => ?_
      rw [splice1] at hs3
      have n3 := hs3.next
      have f3 := hs3.floor
      simp only [rn0, rn1, rn2, rn3, rn4, rn5, rn6, rn7, rn8, if_true, if_false, Nat.le_refl, true_and, and_true, decide_true, decide_false, Bool.not_true, Bool.not_false, reduceIte, Nat.reduceEqDiff, Nat.reduceAdd, Nat.reduceMul, Nat.reduceSub, Nat.reduceLeDiff, Nat.reduceLT]
      rw [hrun]
      have old3 : ∀ q, q < g.next → q ≠ pe → q ≠ po → q ≠ pb → g3.get q = g.get q := fun q hq _ h2 h3 => by rw [hs3.old q h2, hs2.old q h3, oldc q hq]
      have rmo : ∀ {q : Nat} {cs : List Value}, Row g q cs → q ≠ pe → q ≠ po → q ≠ pb → Row g3 q cs := fun {q cs} hq h1 h2 h3 => by
        obtain ⟨w, gr, e⟩ := hq
        exact ⟨w, gr, by rw [old3 q (AHeap.lt_of_get e) h1 h2 h3]; exact e⟩
      have ho1 := hb.o.mono (AHeap.subOf oldc)
      refine ⟨_, rfl, c, ⟨(ho1.set hs2 ha.2.2).set hs3 ha.2.1, rmo hb.w e7 e8 e9, rmo hb.cl e10 e11 e12, hs3.get, ⟨cv, by rw [hs3.old _ e3.symm]; exact hs2.get, ?_, oc, fun a k q e => ?_⟩, ?_, by omega, hb.ne⟩, fun _ _ => rfl, old3, by omega, by omega⟩
      · have q2 : Ints g2 cv S.nv c := Cells.keep hic hs2.keep fun a k q e => by have := (bc a k q e).1; omega
        exact Cells.keep q2 hs3.keep fun a k q e => by have := (bc a k q e).1; omega
      · have := (bc a k q e).1
        omega
      · rw [hs3.old _ e1, hs2.old _ e2, oldc _ lte]; exact hb.e
  | succ d ih =>
    intro i n g s c hi hn hb hok hr
    obtain ⟨n, rfl⟩ : ∃ p, n = p + 1 := ⟨n - 1, by omega⟩
    have hG := hb.o.good
    have hT := hb.o.some
    obtain ⟨z0, z1, z3, _⟩ := hG.sizes
    obtain ⟨e1, e2, e3, e4, e5, e6, e7, e8, e9, e10, e11, e12⟩ := hb.ne
    have hk : i < S.nv := by omega
    have hin : ¬ (i : Int) = (S.nv : Int) := by omega
    have hle := losses_c (n := n) (h := g) (by omega) (by omega) hb.o (enL_ints (k := S.nv) hb.e (m := i) (by omega)) (by omega) fun v hv => by have := hok.1 v hv; omega
    have rw1 := hb.w
    have ro : Row g po _ := ⟨_, _, hb.wo⟩
    have hlv := Cells.len hb.o.y.v
    have hbd : bndB (d + 1) = 4 + 10 * (bndB d + 1) := rfl
    obtain ⟨X, hX⟩ : ∃ X, X = bndB d + 1 := ⟨_, rfl⟩
    rw [hbd, ← hX] at hr ⊢
    suffices hs : ∃ v g', call (n + 1) (chooseE pw po pb pc) [.slice (some ⟨pe, 0, none⟩) i S.nv] g = some (v, g') ∧ ∃ c', BeS S vv sv tv pw po pb pc pe B (runL (bestStep S) s (endsFrom S (d + 1) i c)).1 c' g' ∧ (∀ j, j < i ∨ i + (d + 1) ≤ j → c' j = c j) ∧
        (∀ q, q < g.next → q ≠ pe → q ≠ po → q ≠ pb → g'.get q = g.get q) ∧ g.next ≤ g'.next ∧ g'.next ≤ g.next + (4 + 10 * X) by
      obtain ⟨v, g', e, c', h1⟩ := hs
      exact ⟨v, g', c', e, h1⟩
    refine call_any (xs := []) (ys := [.pointer (some ⟨pw, 0, none⟩), .pointer (some ⟨po, 0, none⟩), .pointer (some ⟨pb, 0, none⟩), .pointer (some ⟨pc, 0, none⟩)]) fok126 rfl rfl (by simp) ?_
    by_cases hsk : s.2 ≤ wHi S c i
    · have hrun := from_skip hG hT (d := d + 1) hi hok hsk
      simp only [rn0, rn1, rn2, rn3, rn4, rn5, rn6, rn7, rn8, if_true, if_false, Nat.le_refl, true_and, and_true, decide_true, decide_false, Bool.not_true, Bool.not_false, reduceIte, Nat.reduceEqDiff, Nat.reduceAdd, Nat.reduceMul, Nat.reduceSub, Nat.reduceLeDiff, Nat.reduceLT, s126, List.cons_append, List.nil_append, rw1.whole (n := 6) rfl, hle, part1, ro.ld, Nat.zero_add, List.getElem?_cons_zero, List.getElem?_cons_succ, hsk]
      rw [hrun]
      refine ⟨_, rfl, c, hb, ?_⟩
      first | exact ⟨fun _ _ => rfl, fun _ _ _ _ _ => trivial, Nat.le_add_right _ _⟩ | exact ⟨fun _ _ => rfl, fun _ _ _ _ _ => rfl, Nat.le_refl _, by omega⟩
    let part : Nat → List (Nat → Int) := fun k => endsFrom S d (i + 1) fun j => if j = i then 0 + (k : Int) else c j
    have hen : endsFrom S (d + 1) i c = (List.range (S.last - 0 + 1).toNat).flatMap part := rfl
    obtain ⟨m, hm, hm2⟩ : ∃ m : Nat, (m : Int) = S.last + 1 ∧ (S.last - 0 + 1).toNat = m := ⟨(S.last - 0 + 1).toNat, by omega, rfl⟩
    rw [hm2] at hen
    rw [hen]
    have hwl : wrapF .i64 (S.last + 1) = (m : Int) := by rw [wrap_in (by omega) (by omega)]; omega
    simp only [rn0, rn1, rn2, rn3, rn4, rn5, rn6, rn7, rn8, if_true, if_false, Nat.le_refl, true_and, and_true, decide_true, decide_false, Bool.not_true, Bool.not_false, reduceIte, Nat.reduceEqDiff, Nat.reduceAdd, Nat.reduceMul, Nat.reduceSub, Nat.reduceLeDiff, Nat.reduceLT, s126, List.cons_append, List.nil_append, rw1.whole (n := 6) rfl, rw1.ld, wkg, hlv, len_slice, hin, hle, part1, ro.ld, Nat.zero_add, List.getElem?_cons_zero, List.getElem?_cons_succ, hsk, hwl]
    refine W_loop m (fun k f ga ms => (∃ c', BeS S vv sv tv pw po pb pc pe B (runL (bestStep S) s ((List.range k).flatMap part)).1 c' ga ∧ (∀ j, j < i ∨ i + (d + 1) ≤ j → c' j = c j) ∧ (∀ q, q < g.next → q ≠ pe → q ≠ po → q ≠ pb → ga.get q = g.get q) ∧ g.next ≤ ga.next ∧ ga.next ≤ g.next + X * k) ∧ ms = [] ∧
      f 0 = .slice (some ⟨pe, 0, none⟩) i S.nv ∧ f 4 = .pointer (some ⟨pc, 0, none⟩) ∧ f 15 = .int .i64 (m : Int) ∧ f 16 = .int .i64 (k : Int)) (by simp; omega) ?_ ?_ ?_
    · simp only [rn0, rn1, rn2, rn3, rn4, rn5, rn6, rn7, rn8, if_true, if_false, Nat.le_refl, true_and, and_true, decide_true, decide_false, Bool.not_true, Bool.not_false, reduceIte, Nat.reduceEqDiff, Nat.reduceAdd, Nat.reduceMul, Nat.reduceSub, Nat.reduceLeDiff, Nat.reduceLT, Int.natCast_zero]
      have hfin : ∃ c', BeS S vv sv tv pw po pb pc pe B (runL (bestStep S) s ((List.range 0).flatMap part)).1 c' g ∧ (∀ j, j < i ∨ i + (d + 1) ≤ j → c' j = c j) ∧ (∀ q, q < g.next → q ≠ pe → q ≠ po → q ≠ pb → g.get q = g.get q) ∧ g.next ≤ g.next ∧ g.next ≤ g.next + X * 0 := ⟨c, hb, fun _ _ => rfl, fun _ _ _ _ _ => rfl, Nat.le_refl _, by omega⟩
      first | exact ⟨by simpa using hfin, rfl⟩ | exact ⟨hfin, rfl⟩ | simpa using hfin
    · rintro k f ga ms hkm ⟨⟨c1, hba, hc1, olda, ua, na⟩, rfl, p0, p4, p15, p16⟩
      have hkm' : (k : Int) < (m : Int) := by omega
      have hw : wrapF .i64 ((k : Int) + 1) = ((k + 1 : Nat) : Int) := by rw [wrap_in (by omega) (by omega)]; rfl
      have hkb : X * (k + 1) ≤ X * 10 := Nat.mul_le_mul_left _ (by omega)
      have hks : X * (k + 1) = X * k + X := Nat.mul_succ _ _
      have hq9 : ga.next < far := by omega
      have hfa := hba.fl
      have lte := AHeap.lt_of_get hba.e
      have lto := AHeap.lt_of_get hba.wo
      obtain ⟨bv, b1, b2, b3, b4⟩ := hba.be
      have ltb := AHeap.lt_of_get b1
      simp only [rn0, rn1, rn2, rn3, rn4, rn5, rn6, rn7, rn8, if_true, if_false, Nat.le_refl, true_and, and_true, decide_true, decide_false, Bool.not_true, Bool.not_false, reduceIte, Nat.reduceEqDiff, Nat.reduceAdd, Nat.reduceMul, Nat.reduceSub, Nat.reduceLeDiff, Nat.reduceLT, p0, p4, p15, p16, hkm']
      refine W_draw (fun x => ¬ x = pe) ?_
      have e10' : ¬ pc = pe := e10
      simp only [rn0, rn1, rn2, rn3, rn4, rn5, rn6, rn7, rn8, if_true, if_false, Nat.le_refl, true_and, and_true, decide_true, decide_false, Bool.not_true, Bool.not_false, reduceIte, Nat.reduceEqDiff, Nat.reduceAdd, Nat.reduceMul, Nat.reduceSub, Nat.reduceLeDiff, Nat.reduceLT, rd_1, rd_ne, e10', not_false_eq_true, p0, p4, p15, p16, hba.cl.ld, Nat.zero_add, List.getElem?_cons_zero, sl_int]
      refine ⟨chooseE_self, ?_⟩
      refine up_slice (by omega) rfl (fun g5 hx i cs w gr _ e => hx.sub i cs w gr trivial e) fun g5 hx5 => ?_
      have n5 := hx5.next
      have f5 := hx5.floor
      have he5 : g5.get pe = some (.row (enL S c1) true 0) := by rw [hx5.old _ lte]; exact hba.e
      obtain ⟨g6, e6, hs6⟩ := append_room (g := g5) (b := pe) (c := ga.next) (len := i) (cap := S.nv) (kc := 1) he5 hx5.get (by omega) (by omega) hk (by omega) (by rw [enL_len]; exact hk)
      rw [enL_set hk] at hs6
      have n6 := hs6.next
      have f6 := hs6.floor
      have old6 : ∀ q, q < ga.next → q ≠ pe → g6.get q = ga.get q := fun q hq h1 => by rw [hs6.old q h1, hx5.old q hq]
      have rmo : ∀ {q : Nat} {cs : List Value}, Row ga q cs → q ≠ pe → Row g6 q cs := fun {q cs} hq h1 => by
        obtain ⟨w, gr, e⟩ := hq
        exact ⟨w, gr, by rw [old6 q (AHeap.lt_of_get e) h1]; exact e⟩
      have hb6 : BeS S vv sv tv pw po pb pc pe B (runL (bestStep S) s ((List.range k).flatMap part)).1 (setU c1 i (k : Int)) g6 := by
        refine ⟨(hba.o.mono hx5.sub).set hs6 ha.1, rmo hba.w e7, rmo hba.cl e10, by rw [old6 _ lto e1.symm]; exact hba.wo, ⟨bv, by rw [old6 _ ltb e2.symm]; exact b1, Cells.keep (Cells.mono b2 hx5.sub) hs6.keep fun a k q e => (b4 a k q e).1, b3, b4⟩, hs6.get, by omega, hb.ne⟩
      have hok6 : OkE S (i + 1) (setU c1 i (k : Int)) := by
        refine ⟨fun j hj => ?_, fun j hj => ?_⟩
        · by_cases ej : j = i
          · subst ej; simp only [setU, if_true]; omega
          · simp only [setU, ej, if_false]; rw [hc1 j (by omega)]; exact hok.1 j (by omega)
        · have ej : ¬ j = i := by omega
          simp only [setU, ej, if_false]; rw [hc1 j (by omega)]; exact hok.2 j hj
      have hcg : endsFrom S d (i + 1) (setU c1 i (k : Int)) = part k := enumB_congr d (i + 1) _ _ fun j hj => by
        by_cases ej : j = i
        · simp [ej, setU]
        · simp only [setU, ej, if_false]; exact hc1 j (by omega)
      obtain ⟨v7, g7, c7, e7c, hb7, hc7, old7, u7, m7⟩ := ih (i + 1) n g6 _ _ (by omega) (by omega) hb6 hok6 (by omega)
      rw [hcg] at hb7
      have hrun : runL (bestStep S) s ((List.range (k + 1)).flatMap part) = runL (bestStep S) (runL (bestStep S) s ((List.range k).flatMap part)).1 (part k) := by
        rw [List.range_succ, List.flatMap_append, runL_append, bestRun_go, if_pos rfl]; simp
      simp only [rn0, rn1, rn2, rn3, rn4, rn5, rn6, rn7, rn8, if_true, if_false, Nat.le_refl, true_and, and_true, decide_true, decide_false, Bool.not_true, Bool.not_false, reduceIte, Nat.reduceEqDiff, Nat.reduceAdd, Nat.reduceMul, Nat.reduceSub, Nat.reduceLeDiff, Nat.reduceLT, rd_1, rd_ne, e10', not_false_eq_true, p0, p4, p15, p16, e6, e7c, hw]
      rw [hrun]
      have hfin : ∃ c', BeS S vv sv tv pw po pb pc pe B (runL (bestStep S) (runL (bestStep S) s ((List.range k).flatMap part)).1 (part k)).1 c' g7 ∧ (∀ j, j < i ∨ i + (d + 1) ≤ j → c' j = c j) ∧ (∀ q, q < g.next → q ≠ pe → q ≠ po → q ≠ pb → g7.get q = g.get q) ∧ g.next ≤ g7.next ∧ g7.next ≤ g.next + X * (k + 1) := by
        refine ⟨c7, hb7, fun j hj => ?_, fun q hq h1 h2 h3 => by rw [old7 q (by omega) h1 h2 h3, old6 q (by omega) h1, olda q hq h1 h2 h3], by omega, by omega⟩
        rw [hc7 j (by omega)]; simp only [setU]; rw [if_neg (by omega)]; exact hc1 j hj
      exact ⟨⟨by omega, fun q cs w gr h1 e => by rw [old6 q (AHeap.lt_of_get e) h1]; exact e⟩, by omega, hfin⟩
    · rintro f ga ms ⟨⟨c1, hba, hc1, olda, ua, na⟩, rfl, p0, p4, p15, p16⟩
      have hkb : X * m ≤ X * 10 := Nat.mul_le_mul_left _ (by omega)
      simp only [rn0, rn1, rn2, rn3, rn4, rn5, rn6, rn7, rn8, if_true, if_false, Nat.le_refl, true_and, and_true, decide_true, decide_false, Bool.not_true, Bool.not_false, reduceIte, Nat.reduceEqDiff, Nat.reduceAdd, Nat.reduceMul, Nat.reduceSub, Nat.reduceLeDiff, Nat.reduceLT, p0, p4, p15, p16, Int.lt_irrefl]
      exact ⟨_, rfl, c1, hba, hc1, olda, ua, by omega⟩
end Go.Vm.Bt

namespace Go.Vm.Bt
open Go.Proofs Go.Vm.Vat Go.Vm.L2
set_option linter.unusedSimpArgs false
set_option linter.unusedVariables false
set_option maxRecDepth 10000
variable {n : Nat} {h : AHeap}
theorem neB_low {v : Value} {s m : Nat} {c : Nat → Nat → Value} (hc : Cells h v s m c) {x : Nat} (hx : h.next ≤ x) : 0 < m → NeB v x := fun hm a k q e => by
  have := cells_lt hc hm e
  omega
theorem res_cc {a b : Nat} {f : Go.Vm.Fr} : resV f h [.cell1 a, .cell1 b] = match loadCell h (f a) with
  | some x => (match loadCell h (f b) with
    | some y => some (.tuple ⟨[x, y]⟩)
    | none => none)
  | none => none := by
  simp only [resV, resL, res1]
  cases loadCell h (f a) <;> cases loadCell h (f b) <;> rfl
def s96 : SCode := (.seq (.ops [⟨(some 1), none, .box (T 0)⟩, ⟨(some 2), none, .alloc [(.slice none 0 0)]⟩, ⟨(some 3), none, .alloc [(.int .i64 (0))]⟩]) (.seq (.ops [⟨(some 5), none, .fieldAddr 0 (T 1)⟩, ⟨(some 6), none, .fieldAddr 2 (T 5)⟩, ⟨(some 7), none, .load1 (T 6)⟩, ⟨(some 8), none, .len (T 7)⟩, ⟨(some 9), none, .mkslice 1 8 [(.int .i64 (0))] (T 8) (T 8)⟩, ⟨none, none, .store 1 (T 2) (T 9)⟩]) (.seq (.ops [⟨(some 10), none, .loadN 6 (T 1)⟩, ⟨(some 11), none, .load1 (T 2)⟩, ⟨(some 12), none, .call (.func 93) [(T 10), (T 11)]⟩, ⟨(some 13), none, .field1 1 (T 12)⟩, ⟨none, none, .store 1 (T 3) (T 13)⟩]) (.seq (.ops [⟨(some 4), none, .alloc [.nilFunc]⟩]) (.seq (.ops [⟨(some 14), none, .mkfunc 126 [] [(T 1), (T 3), (T 2), (T 4)]⟩, ⟨none, none, .store 1 (T 4) (T 14)⟩]) (.seq (.draw [⟨.rd, ⟨(some 15), none, .load1 (T 4)⟩⟩, ⟨.free, ⟨(some 16), none, .fieldAddr 0 (T 1)⟩⟩, ⟨.free, ⟨(some 17), none, .fieldAddr 2 (T 16)⟩⟩, ⟨.rd1, ⟨(some 18), none, .load1 (T 17)⟩⟩, ⟨.free, ⟨(some 19), none, .len (T 18)⟩⟩, ⟨.up, ⟨(some 20), none, .mkslice 1 8 [(.int .i64 (0))] (.const (.int .i64 (0))) (T 19)⟩⟩, ⟨.any, ⟨(some 21), none, .call (T 15) [(T 20)]⟩⟩]) (.seq (.draw [⟨.rd1, ⟨(some 22), none, .load1 (T 2)⟩⟩, ⟨.rd, ⟨(some 23), none, .load1 (T 3)⟩⟩, ⟨.up, ⟨none, none, .store 1 (T 2) (T 22)⟩⟩, ⟨.any, ⟨none, none, .store 1 (T 3) (T 23)⟩⟩]) .ret)))))))
theorem fok96 : FnOk Try.prog 96 24 s96 [.cell1 2, .cell1 3] := ⟨Try.f96, _, Try.func96, rfl, Try.ntmps96, by kernel_rfl, by kernel_rfl⟩
set_option maxHeartbeats 1000000 in
theorem bestE_c (hn : 1000 ≤ n) (hr : h.next + 14000 < far) (hfl : h.floor ≤ h.next) {vv sv tv : Value} {S : MB} (ho : OpS h vv sv tv S) :
    ∃ bv h', call n (.func (.func 96) #[] #[]) [.agg ⟨wkL S vv sv tv⟩] h = some (.tuple ⟨[bv, .int .i64 (bestS S).2]⟩, h') ∧ Ints h' bv S.nv (bestS S).1 ∧ oneCell bv = true ∧ (∀ i, i < h.next → h'.get i = h.get i) ∧ h.next ≤ h'.next ∧ h'.next ≤ h.next + 6000 ∧ h'.floor = h.floor := by
  obtain ⟨n, rfl⟩ : ∃ p, n = p + 1 := ⟨n - 1, by omega⟩
  have hG := ho.good
  have hT := ho.some
  obtain ⟨z0, z1, z3, _⟩ := hG.sizes
  suffices hs : ∃ v h', call (n + 1) (.func (.func 96) #[] #[]) [.agg ⟨wkL S vv sv tv⟩] h = some (v, h') ∧ ∃ bv, v = .tuple ⟨[bv, .int .i64 (bestS S).2]⟩ ∧ Ints h' bv S.nv (bestS S).1 ∧ oneCell bv = true ∧ (∀ i, i < h.next → h'.get i = h.get i) ∧ h.next ≤ h'.next ∧ h'.next ≤ h.next + 6000 ∧ h'.floor = h.floor by
    obtain ⟨v, h', e, bv, rfl, q⟩ := hs
    exact ⟨bv, h', e, q⟩
  refine call_any0 fok96 rfl rfl (by simp) ?_
  simp only [s96, W_seq, W_ops]
  refine ops_box (cs := wkL S vv sv tv) (by omega) rfl (wk_one ho.y ho.one) fun g1 hx1 => ?_
  have n1 := hx1.next
  have f1 := hx1.floor
  refine ops_alloc (cs := [nilS]) (by omega) rfl fun g2 hx2 => ?_
  have n2 := hx2.next
  have f2 := hx2.floor
  refine ops_alloc (cs := [.int .i64 0]) (by omega) rfl fun g3 hx3 => ?_
  have n3 := hx3.next
  have f3 := hx3.floor
  have hmk : ∀ g : AHeap, makeSl 1 8 [.int .i64 0] g (.int .i64 (S.nv : Int)) (.int .i64 (S.nv : Int)) = newSlice g (enL S fun _ => 0) S.nv S.nv 0 := fun g => by
    rw [make_intsL (by omega), repl_one]
    congr 1
    unfold enL
    apply List.ext_getElem?
    intro i
    by_cases hi : i < S.nv
    · rw [List.getElem?_replicate, if_pos hi, List.getElem?_map, List.getElem?_range hi]; rfl
    · rw [List.getElem?_eq_none (by simp; omega), List.getElem?_eq_none (by simp; omega)]
  have hmk0 : ∀ g : AHeap, makeSl 1 8 [.int .i64 0] g (.int .i64 0) (.int .i64 (S.nv : Int)) = newSlice g (enL S fun _ => 0) 0 S.nv 0 := fun g => by
    show (bif Nat.ble 0 S.nv && Nat.ble (S.nv * 8) maxBytes && Nat.ble S.nv maxBytes then newSlice g (repl [.int .i64 0] S.nv) 0 S.nv 0 else none) = _
    have e1 : Nat.ble 0 S.nv = true := ble_iff.2 (Nat.zero_le _)
    have e2 : Nat.ble (S.nv * 8) maxBytes = true := ble_iff.2 (by simp [maxBytes]; omega)
    have e3 : Nat.ble S.nv maxBytes = true := ble_iff.2 (by simp [maxBytes]; omega)
    rw [e1, e2, e3, repl_one]
    show newSlice g _ _ _ _ = _
    congr 1
    unfold enL
    apply List.ext_getElem?
    intro i
    by_cases hi : i < S.nv
    · rw [List.getElem?_replicate, if_pos hi, List.getElem?_map, List.getElem?_range hi]; rfl
    · rw [List.getElem?_eq_none (by simp; omega), List.getElem?_eq_none (by simp; omega)]
  have r1 := (hx1.row.mono hx2.sub).mono hx3.sub
  have hlv := Cells.len ho.y.v
  simp only [rn0, rn1, rn2, rn3, rn4, rn5, rn6, rn7, rn8, if_true, if_false, Nat.le_refl, true_and, and_true, decide_true, decide_false, Bool.not_true, Bool.not_false, reduceIte, Nat.reduceEqDiff, Nat.reduceAdd, Nat.reduceMul, Nat.reduceSub, Nat.reduceLeDiff, Nat.reduceLT, r1.ld, wkg, Nat.zero_add, hlv, hmk]
  refine step_slice (by omega) enL_one fun g4 hx4 => ?_
  have n4 := hx4.next
  have f4 := hx4.floor
  simp only [rn0, rn1, rn2, rn3, rn4, rn5, rn6, rn7, rn8, if_true, if_false, Nat.le_refl, true_and, and_true, decide_true, decide_false, Bool.not_true, Bool.not_false, reduceIte, Nat.reduceEqDiff, Nat.reduceAdd, Nat.reduceMul, Nat.reduceSub, Nat.reduceLeDiff, Nat.reduceLT]
  refine step_store (b := g1.next) (off := 0) (vs := [.slice (some ⟨g3.next, 0, none⟩) S.nv S.nv]) rfl (by rw [hx4.old _ (by omega), hx3.old _ (by omega)]; exact hx2.get) (by omega) (by omega) rfl rfl rfl (by simp) fun g5 hs5 => ?_
  rw [splice1] at hs5
  have n5 := hs5.next
  have f5 := hs5.floor
  have old5 : ∀ i, i < g1.next → g5.get i = g1.get i := fun i hi => by rw [hs5.old i (by omega), hx4.old i (by omega), hx3.old i (by omega), hx2.old i (by omega)]
  have rw5 : Row g5 h.next (wkL S vv sv tv) := ⟨true, 0, by rw [old5 _ (by omega)]; exact hx1.get⟩
  have ho5 : OpS g5 vv sv tv S := (ho.mono hx1.sub).mono (AHeap.subOf old5)
  have h45 : g5.get g3.next = some (.row (enL S fun _ => 0) true 0) := by rw [hs5.old _ (by omega)]; exact hx4.get
  have rb5 : Row g5 g1.next _ := ⟨_, _, hs5.get⟩
  have hle := losses_c (n := n) (h := g5) (by omega) (by omega) ho5 (enL_ints (k := S.nv) h45 (Nat.le_refl _)) (Nat.le_refl _) fun v hv => by omega
  have h3o : g5.get g2.next = some (.row [.int .i64 0] true 0) := by rw [hs5.old _ (by omega), hx4.old _ (by omega)]; exact hx3.get
  simp only [rn0, rn1, rn2, rn3, rn4, rn5, rn6, rn7, rn8, if_true, if_false, Nat.le_refl, true_and, and_true, decide_true, decide_false, Bool.not_true, Bool.not_false, reduceIte, Nat.reduceEqDiff, Nat.reduceAdd, Nat.reduceMul, Nat.reduceSub, Nat.reduceLeDiff, Nat.reduceLT, rw5.whole (n := 6) rfl, rb5.ld, Nat.zero_add, List.getElem?_cons_zero, hle, part1]
  refine step_store (b := g2.next) (off := 0) (vs := [.int .i64 (wHi S (fun _ => 0) S.nv)]) rfl h3o (by omega) (by omega) rfl rfl rfl (by simp) fun g6 hs6 => ?_
  rw [splice1] at hs6
  have n6 := hs6.next
  have f6 := hs6.floor
  simp only [rn0, rn1, rn2, rn3, rn4, rn5, rn6, rn7, rn8, if_true, if_false, Nat.le_refl, true_and, and_true, decide_true, decide_false, Bool.not_true, Bool.not_false, reduceIte, Nat.reduceEqDiff, Nat.reduceAdd, Nat.reduceMul, Nat.reduceSub, Nat.reduceLeDiff, Nat.reduceLT]
  refine step_row (cs := [.nilFunc]) (by omega) rfl rfl fun g7 hx7 => ?_
  have n7 := hx7.next
  have f7 := hx7.floor
  simp only [rn0, rn1, rn2, rn3, rn4, rn5, rn6, rn7, rn8, if_true, if_false, Nat.le_refl, true_and, and_true, decide_true, decide_false, Bool.not_true, Bool.not_false, reduceIte, Nat.reduceEqDiff, Nat.reduceAdd, Nat.reduceMul, Nat.reduceSub, Nat.reduceLeDiff, Nat.reduceLT]
  refine step_store (b := g6.next) (off := 0) (vs := [chooseE h.next g2.next g1.next g6.next]) rfl hx7.get (by omega) (by omega) rfl rfl rfl (by simp) fun g8 hs8 => ?_
  rw [splice1] at hs8
  have n8 := hs8.next
  have f8 := hs8.floor
  have old8 : ∀ i, i < g6.next → g8.get i = g6.get i := fun i hi => by rw [hs8.old i (by omega), hx7.old i hi]
  have rc8 : Row g8 g6.next [chooseE h.next g2.next g1.next g6.next] := ⟨_, _, hs8.get⟩
  have rw8 : Row g8 h.next (wkL S vv sv tv) := by
    obtain ⟨w, gr, e⟩ := rw5
    exact ⟨w, gr, by rw [old8 _ (by omega), hs6.old _ (by omega)]; exact e⟩
  simp only [rn0, rn1, rn2, rn3, rn4, rn5, rn6, rn7, rn8, if_true, if_false, Nat.le_refl, true_and, and_true, decide_true, decide_false, Bool.not_true, Bool.not_false, reduceIte, Nat.reduceEqDiff, Nat.reduceAdd, Nat.reduceMul, Nat.reduceSub, Nat.reduceLeDiff, Nat.reduceLT]
  refine W_draw All ?_
  simp only [rn0, rn1, rn2, rn3, rn4, rn5, rn6, rn7, rn8, if_true, if_false, Nat.le_refl, true_and, and_true, decide_true, decide_false, Bool.not_true, Bool.not_false, reduceIte, Nat.reduceEqDiff, Nat.reduceAdd, Nat.reduceMul, Nat.reduceSub, Nat.reduceLeDiff, Nat.reduceLT, rc8.ld, rw8.ld, wkg, Nat.zero_add, List.getElem?_cons_zero, hlv, hmk0]
  refine ⟨chooseE_self, ?_⟩
  refine up_slice (by omega) enL_one (fun g9 hx => hx.sub) fun g9 hx9 => ?_
  have n9 := hx9.next
  have f9 := hx9.floor
  have hap : ∀ x, h.next < x → ApartS S vv sv tv x := fun x hx => ⟨neB_low ho.y.v (by omega), neB_low ho.y.s (by omega), neB_low ho.d (by omega) (List.length_pos_iff.2 fun e => hT (dones_nil.1 e))⟩
  have ho9 : OpS g9 vv sv tv S := by
    refine ho.mono (AHeap.subOf fun i hi => ?_)
    rw [hx9.old i (by omega), old8 i (by omega), hs6.old i (by omega), old5 i (by omega), hx1.old i hi]
  have hb9 : BeS S vv sv tv h.next g2.next g1.next g6.next g8.next g9.floor ((fun _ => 0), wHi S (fun _ => 0) S.nv) (fun _ => 0) g9 := by
    refine ⟨ho9, rw8.mono hx9.sub, rc8.mono hx9.sub, ?_, ⟨.slice (some ⟨g3.next, 0, none⟩) S.nv S.nv, ?_, ?_, rfl, fun a k q e => ?_⟩, hx9.get, rfl, by omega⟩
    · rw [hx9.old _ (by omega), old8 _ (by omega)]; exact hs6.get
    · rw [hx9.old _ (by omega), old8 _ (by omega), hs6.old _ (by omega)]; exact hs5.get
    · exact enL_ints (by rw [hx9.old _ (by omega), old8 _ (by omega), hs6.old _ (by omega)]; exact h45) (Nat.le_refl _)
    · cases e; show g3.next ≠ g8.next ∧ g3.next ≠ g2.next ∧ g3.next ≠ g1.next; omega
  have hbn : bndB S.nv ≤ 5554 := by
    have : S.nv = 0 ∨ S.nv = 1 ∨ S.nv = 2 ∨ S.nv = 3 := by omega
    rcases this with e | e | e | e <;> rw [e] <;> decide
  obtain ⟨v10, g10, c10, e10, hb10, _, old10, u10, m10⟩ := chooseE_c (B := g9.floor) ⟨hap g8.next (by omega), hap g2.next (by omega), hap g1.next (by omega)⟩ S.nv 0 n g9 _ _ (by omega) (by omega) hb9 ⟨fun j hj => by omega, fun _ _ => rfl⟩ (by omega)
  have hres : (runL (bestStep S) ((fun _ => 0), wHi S (fun _ => 0) S.nv) (endsFrom S S.nv 0 fun _ => 0)).1 = bestS S := rfl
  rw [hres] at hb10
  obtain ⟨bv, b1, b2, b3, b4⟩ := hb10.be
  have rb10 : Row g10 g1.next _ := ⟨_, _, b1⟩
  have ro10 : Row g10 g2.next _ := ⟨_, _, hb10.wo⟩
  have f10 := hb10.fl
  have z00 : ((0 : Nat) : Int) = 0 := rfl
  simp only [rn0, rn1, rn2, rn3, rn4, rn5, rn6, rn7, rn8, if_true, if_false, Nat.le_refl, true_and, and_true, decide_true, decide_false, Bool.not_true, Bool.not_false, reduceIte, Nat.reduceEqDiff, Nat.reduceAdd, Nat.reduceMul, Nat.reduceSub, Nat.reduceLeDiff, Nat.reduceLT, e10]
  refine ⟨u10, ?_⟩
  refine W_draw All ?_
  have sameSet : ∀ {g g' : AHeap} {b gr : Nat} {cs : List Value}, g.get b = some (.row cs true gr) → Set1 g g' b cs gr → Sub All g g' := fun {g g' b gr cs} hb hs i cs' w gr' _ e => by
    by_cases ei : i = b
    · subst ei; rw [hb] at e; cases e; exact hs.get
    · rw [hs.old i ei]; exact e
  obtain ⟨bx, bk, rfl⟩ := ints_slice b2
  simp only [rn0, rn1, rn2, rn3, rn4, rn5, rn6, rn7, rn8, if_true, if_false, Nat.le_refl, true_and, and_true, decide_true, decide_false, Bool.not_true, Bool.not_false, reduceIte, Nat.reduceEqDiff, Nat.reduceAdd, Nat.reduceMul, Nat.reduceSub, Nat.reduceLeDiff, Nat.reduceLT, rb10.ld, ro10.ld, Nat.zero_add, List.getElem?_cons_zero, eqV_int, Cells.self b2]
  refine up_store (b := g1.next) (off := 0) (vs := [.slice bx S.nv bk]) rfl b1 (by omega) (by omega) rfl rfl rfl (by simp) (fun g11 hs => by rw [splice1] at hs; exact sameSet b1 hs) fun g11 hs11 => ?_
  rw [splice1] at hs11
  have n11 := hs11.next
  have f11 := hs11.floor
  have s11 := sameSet b1 hs11
  have o11 : g11.get g2.next = some (.row [.int .i64 (bestS S).2] true 0) := by rw [hs11.old _ (by omega)]; exact hb10.wo
  simp only [rn0, rn1, rn2, rn3, rn4, rn5, rn6, rn7, rn8, if_true, if_false, Nat.le_refl, true_and, and_true, decide_true, decide_false, Bool.not_true, Bool.not_false, reduceIte, Nat.reduceEqDiff, Nat.reduceAdd, Nat.reduceMul, Nat.reduceSub, Nat.reduceLeDiff, Nat.reduceLT]
  refine up_store (b := g2.next) (off := 0) (vs := [.int .i64 (bestS S).2]) rfl o11 (by omega) (by omega) rfl rfl rfl (by simp) (fun _ _ => trivial) fun g12 hs12 => ?_
  rw [splice1] at hs12
  have n12 := hs12.next
  have f12 := hs12.floor
  have c12 : loadCell g12 (.pointer (some ⟨g1.next, 0, none⟩)) = some (.slice bx S.nv bk) := by
    rw [(show Row g12 g1.next [.slice bx S.nv bk] from ⟨true, 0, by rw [hs12.old _ (by omega)]; exact hs11.get⟩).ld]; rfl
  have d12 : loadCell g12 (.pointer (some ⟨g2.next, 0, none⟩)) = some (.int .i64 (bestS S).2) := by rw [hs12.row.ld]; rfl
  have hold12 : ∀ i, i < h.next → g12.get i = h.get i := fun i hi => by
    rw [hs12.old i (by omega), hs11.old i (by omega), old10 i (by omega) (by omega) (by omega) (by omega), hx9.old i (by omega), old8 i (by omega), hs6.old i (by omega), old5 i (by omega), hx1.old i hi]
  simp only [rn0, rn1, rn2, rn3, rn4, rn5, rn6, rn7, rn8, if_true, if_false, Nat.le_refl, true_and, and_true, decide_true, decide_false, Bool.not_true, Bool.not_false, reduceIte, Nat.reduceEqDiff, Nat.reduceAdd, Nat.reduceMul, Nat.reduceSub, Nat.reduceLeDiff, Nat.reduceLT, res_cc, c12, d12]
  refine ⟨_, rfl, ?_, rfl, hold12, by omega, by omega, by omega⟩
  · have q1 : Ints g11 (.slice bx S.nv bk) S.nv (bestS S).1 := Cells.mono b2 s11
    exact Cells.keep q1 hs12.keep fun a k q e => (b4 a k q e).2.1
open Classical in
noncomputable def errS (S : MB) : Int := if faultS S ≠ 0 then faultS S else if truthsS S = [] then 11 else 0
noncomputable def cntS (S : MB) : Nat := if errS S = 0 then S.nv else 0
theorem errS_zero {S : MB} : errS S = 0 ↔ Good S ∧ truthsS S ≠ [] := by
  unfold errS
  by_cases c1 : faultS S = 0
  · rw [if_neg (by simpa using c1)]
    by_cases c2 : truthsS S = []
    · rw [if_pos c2]; simp [c2]
    · rw [if_neg c2]; simp [c2, good_of c1]
  · rw [if_pos c1]
    exact ⟨fun e => absurd e c1, fun e => fault_of e.1⟩
def s36 : SCode := (.seq (.ops [⟨(some 1), none, .box (T 0)⟩, ⟨(some 2), none, .mov (.const (.slice none 0 0))⟩, ⟨(some 3), none, .mov (.const (.int .i64 (0)))⟩]) (.seq (.ops [⟨(some 9), none, .loadN 5 (T 1)⟩, ⟨(some 10), none, .call (.func 86) [(T 9), (.const (.slice none 0 0))]⟩, ⟨(some 8), none, .mov (T 10)⟩, ⟨(some 11), none, .extract 0 (T 8)⟩, ⟨(some 12), none, .extract 1 (T 8)⟩, ⟨(some 4), none, .alloc [(.int .i64 (0)), (.int .i64 (0)), (.slice none 0 0), (.int .i64 (0)), (.slice none 0 0), (.slice none 0 0)]⟩, ⟨none, none, .store 6 (T 4) (T 11)⟩, ⟨(some 5), none, .mov (T 12)⟩]) (.seq (.seq (.ops [⟨(some 13), none, .mov (T 5)⟩, ⟨(some 14), none, .int2 .neq (T 13) (.const (.int .i64 (0)))⟩]) (.cond (T 14) (.seq (.ops [⟨(some 15), none, .mov (T 5)⟩, ⟨(some 2), none, .mov (.const (.slice none 0 0))⟩, ⟨(some 3), none, .mov (T 15)⟩]) .ret) .skip)) (.seq (.ops [⟨(some 6), none, .mov (.const (.slice none 0 0))⟩]) (.seq (.seq (.ops [⟨(some 16), none, .fieldAddr 0 (T 4)⟩, ⟨(some 17), none, .fieldAddr 2 (T 16)⟩, ⟨(some 18), none, .load1 (T 17)⟩, ⟨(some 19), none, .len (T 18)⟩, ⟨(some 20), none, .mov (.const (.int .i64 (0)))⟩]) (.block 0 (.loop (.seq (.ops [⟨(some 21), none, .int2 .lss (T 20) (T 19)⟩]) (.seq (.cond (T 21) .skip (.exit 0)) (.seq (.block 1 (.seq (.ops [⟨(some 22), none, .mov (T 20)⟩, ⟨(some 7), none, .mov (T 22)⟩]) (.ops [⟨(some 23), none, .mov (T 6)⟩, ⟨(some 24), none, .loadN 6 (T 4)⟩, ⟨(some 25), none, .mov (T 7)⟩, ⟨(some 26), none, .call (.func 87) [(T 24), (T 25)]⟩, ⟨(some 27), none, .bslice 2 1 [(.int .i64 (0)), (.int .i64 (0))] [0] [(T 26)]⟩, ⟨(some 28), none, .append 2 16 (T 23) (T 27)⟩, ⟨(some 6), none, .mov (T 28)⟩]))) (.ops [⟨(some 29), none, .int2 .add (T 20) (.const (.int .i64 (1)))⟩, ⟨(some 20), none, .mov (T 29)⟩]))))))) (.seq (.ops [⟨(some 30), none, .mov (T 6)⟩, ⟨(some 2), none, .mov (T 30)⟩, ⟨(some 3), none, .mov (.const (.int .i64 (0)))⟩]) .ret))))))
theorem fok36 : FnOk Try.prog 36 31 s36 [.tmp 2, .tmp 3] := ⟨Try.f36, _, Try.func36, rfl, Try.ntmps36, by kernel_rfl, by kernel_rfl⟩
set_option maxHeartbeats 1000000 in
theorem boundsV_c (hn : 900 ≤ n) (hr : h.next + 60000 < far) (hfl : h.floor ≤ h.next) {vv sv : Value} {S : MB} (hy : BeatR h vv sv S) (hTh : ThinS S) :
    ∃ r h', call n (.func (.func 36) #[] #[]) [.agg ⟨beL S vv sv⟩] h = some (.tuple ⟨[r, .int .i64 (errS S)]⟩, h') ∧ Ranges h' r (cntS S) (bLo S) (bHi S) ∧ oneCell r = true ∧ (∀ i, i < h.next → h'.get i = h.get i) ∧ h.next ≤ h'.next ∧ h'.next ≤ h.next + 27000 ∧ h'.floor = h.floor := by
  obtain ⟨n, rfl⟩ : ∃ p, n = p + 1 := ⟨n - 1, by omega⟩
  suffices hs : ∃ v h', call (n + 1) (.func (.func 36) #[] #[]) [.agg ⟨beL S vv sv⟩] h = some (v, h') ∧ ∃ r, v = .tuple ⟨[r, .int .i64 (errS S)]⟩ ∧ Ranges h' r (cntS S) (bLo S) (bHi S) ∧ oneCell r = true ∧ (∀ i, i < h.next → h'.get i = h.get i) ∧ h.next ≤ h'.next ∧ h'.next ≤ h.next + 27000 ∧ h'.floor = h.floor by
    obtain ⟨v, h', e, r, rfl, q⟩ := hs
    exact ⟨r, h', e, q⟩
  refine call_any0 fok36 rfl rfl (by simp) ?_
  have rnil : ∀ g : AHeap, Ranges g nilS 0 (bLo S) (bHi S) := fun g => ⟨none, 0, rfl, fun x e => (by cases e), .inl rfl⟩
  simp only [s36, W_seq, W_ops]
  refine ops_box (cs := beL S vv sv) (by omega) rfl hy.one fun g1 hx1 => ?_
  have n1 := hx1.next
  have f1 := hx1.floor
  obtain ⟨v, g2, eo, old2, u2, m2, f2, ho⟩ := open_c (n := n) (h := g1) (by omega) (by omega) (by omega) (hy.mono hx1.sub) hTh (P := True) (cv := nilS) fun _ => conds_nil
  have hold2 : ∀ i, i < h.next → g2.get i = h.get i := fun i hi => by rw [old2 i (by omega), hx1.old i hi]
  rcases ho with ⟨hf, rfl⟩ | ⟨hf, hp, rfl⟩ | ⟨hf, _, ht, rfl⟩ | ⟨hf, _, ht, tv, rfl, hone, hd, hfr, hlong⟩
  · have he : errS S = faultS S := by unfold errS; rw [if_pos hf]
    have hc : cntS S = 0 := by unfold cntS; rw [if_neg (by rw [he]; exact hf)]
    rw [he, hc]
    simp only [rn0, rn1, rn2, rn3, rn4, rn5, rn6, rn7, rn8, if_true, if_false, Nat.le_refl, true_and, and_true, decide_true, decide_false, Bool.not_true, Bool.not_false, reduceIte, Nat.reduceEqDiff, Nat.reduceAdd, Nat.reduceMul, Nat.reduceSub, Nat.reduceLeDiff, Nat.reduceLT, hx1.row.whole (n := 5) rfl, eo, ex0, ex1]
    refine step_new (vs := wkZ) (by omega) (by omega) rfl (by simp only [rn0, rn1, rn2, rn3, rn4, rn5, rn6, rn7, rn8, if_true, if_false, Nat.le_refl, true_and, and_true, decide_true, decide_false, Bool.not_true, Bool.not_false, reduceIte, Nat.reduceEqDiff, Nat.reduceAdd, Nat.reduceMul, Nat.reduceSub, Nat.reduceLeDiff, Nat.reduceLT]; rfl) rfl rfl rfl fun g3 hx3 => ?_
    have n3 := hx3.next
    have f3 := hx3.floor
    simp only [rn0, rn1, rn2, rn3, rn4, rn5, rn6, rn7, rn8, if_true, if_false, Nat.le_refl, true_and, and_true, decide_true, decide_false, Bool.not_true, Bool.not_false, reduceIte, Nat.reduceEqDiff, Nat.reduceAdd, Nat.reduceMul, Nat.reduceSub, Nat.reduceLeDiff, Nat.reduceLT, hf, ret_tt]
    exact ⟨_, rfl, rnil _, rfl, fun i hi => by rw [hx3.old i (by omega), hold2 i hi], by omega, by omega, by omega⟩
  · exact absurd trivial hp
  · have he : errS S = 11 := by unfold errS; rw [if_neg (by simpa using hf), if_pos ht]
    have hc : cntS S = 0 := by unfold cntS; rw [if_neg (by rw [he]; decide)]
    rw [he, hc]
    simp only [rn0, rn1, rn2, rn3, rn4, rn5, rn6, rn7, rn8, if_true, if_false, Nat.le_refl, true_and, and_true, decide_true, decide_false, Bool.not_true, Bool.not_false, reduceIte, Nat.reduceEqDiff, Nat.reduceAdd, Nat.reduceMul, Nat.reduceSub, Nat.reduceLeDiff, Nat.reduceLT, hx1.row.whole (n := 5) rfl, eo, ex0, ex1]
    refine step_new (vs := wkZ) (by omega) (by omega) rfl (by simp only [rn0, rn1, rn2, rn3, rn4, rn5, rn6, rn7, rn8, if_true, if_false, Nat.le_refl, true_and, and_true, decide_true, decide_false, Bool.not_true, Bool.not_false, reduceIte, Nat.reduceEqDiff, Nat.reduceAdd, Nat.reduceMul, Nat.reduceSub, Nat.reduceLeDiff, Nat.reduceLT]; rfl) rfl rfl rfl fun g3 hx3 => ?_
    have n3 := hx3.next
    have f3 := hx3.floor
    simp only [rn0, rn1, rn2, rn3, rn4, rn5, rn6, rn7, rn8, if_true, if_false, Nat.le_refl, true_and, and_true, decide_true, decide_false, Bool.not_true, Bool.not_false, reduceIte, Nat.reduceEqDiff, Nat.reduceAdd, Nat.reduceMul, Nat.reduceSub, Nat.reduceLeDiff, Nat.reduceLT, Int.reduceEq, ret_tt]
    exact ⟨_, rfl, rnil _, rfl, fun i hi => by rw [hx3.old i (by omega), hold2 i hi], by omega, by omega, by omega⟩
  have he : errS S = 0 := errS_zero.2 ⟨good_of hf, ht⟩
  have hc : cntS S = S.nv := by unfold cntS; rw [if_pos he]
  rw [he, hc]
  have hG := good_of hf
  obtain ⟨z0, z1, z3, _⟩ := hG.sizes
  have hy2 := hy.mono (AHeap.subOf hold2)
  simp only [rn0, rn1, rn2, rn3, rn4, rn5, rn6, rn7, rn8, if_true, if_false, Nat.le_refl, true_and, and_true, decide_true, decide_false, Bool.not_true, Bool.not_false, reduceIte, Nat.reduceEqDiff, Nat.reduceAdd, Nat.reduceMul, Nat.reduceSub, Nat.reduceLeDiff, Nat.reduceLT, hx1.row.whole (n := 5) rfl, eo, ex0, ex1]
  refine step_new (vs := wkL S vv sv tv) (by omega) (by omega) rfl (by simp only [rn0, rn1, rn2, rn3, rn4, rn5, rn6, rn7, rn8, if_true, if_false, Nat.le_refl, true_and, and_true, decide_true, decide_false, Bool.not_true, Bool.not_false, reduceIte, Nat.reduceEqDiff, Nat.reduceAdd, Nat.reduceMul, Nat.reduceSub, Nat.reduceLeDiff, Nat.reduceLT]; rfl) (wk_one hy2 hone) rfl rfl fun g3 hx3 => ?_
  have n3 := hx3.next
  have f3 := hx3.floor
  have ho3 : OpS g3 vv sv tv S := ⟨hG, ht, hy2.mono hx3.sub, hone, Cells.mono hd hx3.sub, hlong⟩
  simp only [rn0, rn1, rn2, rn3, rn4, rn5, rn6, rn7, rn8, if_true, if_false, Nat.le_refl, true_and, and_true, decide_true, decide_false, Bool.not_true, Bool.not_false, reduceIte, Nat.reduceEqDiff, Nat.reduceAdd, Nat.reduceMul, Nat.reduceSub, Nat.reduceLeDiff, Nat.reduceLT, hx3.row.ld, wkg, Nat.zero_add, Cells.len ho3.y.v]
  refine W_loop S.nv (fun k f g ms => (∃ v, (∀ i, i < g3.next → g.get i = g3.get i) ∧ g.floor = h.floor ∧ g3.next ≤ g.next ∧ g.next ≤ g3.next + 3 * k ∧ GrowC g3.next g v 2 k (fun k j => .int .i64 (if j = 0 then bLo S k else bHi S k)) ∧ f 6 = v) ∧ ms = [] ∧ f 4 = .pointer (some ⟨g2.next, 0, none⟩) ∧ f 19 = .int .i64 (S.nv : Int) ∧ f 20 = .int .i64 (k : Int)) (by simp; omega) ?_ ?_ ?_
  · simp only [rn0, rn1, rn2, rn3, rn4, rn5, rn6, rn7, rn8, if_true, if_false, Nat.le_refl, true_and, and_true, decide_true, decide_false, Bool.not_true, Bool.not_false, reduceIte, Nat.reduceEqDiff, Nat.reduceAdd, Nat.reduceMul, Nat.reduceSub, Nat.reduceLeDiff, Nat.reduceLT]
    exact ⟨⟨nilS, fun i _ => trivial, by omega, by omega, .nil, rfl⟩, rfl⟩
  · rintro k f g ms hk ⟨⟨v, hs, hfg, hup, hnx, gv, p6⟩, rfl, p4, p19, p20⟩
    have hk' : (k : Int) < (S.nv : Int) := by omega
    have hw : wrapF .i64 ((k : Int) + 1) = ((k + 1 : Nat) : Int) := by rw [wrap_in (by omega) (by omega)]; rfl
    have rg := hx3.row.mono (AHeap.subOf hs)
    have hog := ho3.mono (AHeap.subOf hs)
    have ed := whenDone_c (n := n) (h := g) (by omega) (by omega) hog hk
    simp only [rn0, rn1, rn2, rn3, rn4, rn5, rn6, rn7, rn8, if_true, if_false, Nat.le_refl, true_and, and_true, decide_true, decide_false, Bool.not_true, Bool.not_false, reduceIte, Nat.reduceEqDiff, Nat.reduceAdd, Nat.reduceMul, Nat.reduceSub, Nat.reduceLeDiff, Nat.reduceLT, p4, p6, p19, p20, hk', rg.whole (n := 6) rfl, ed, sl_range]
    refine step_slice (by omega) rfl fun g5 hx5 => ?_
    have n5 := hx5.next
    obtain ⟨v', g6, e6, gv6, o6, n6, f6, old6, u6⟩ := grow_push (h := g) (bytes := 16) gv (by omega) (by omega) (by omega) hx5 rfl rfl (fun j hj => by
      obtain rfl | rfl : j = 0 ∨ j = 1 := by omega
      all_goals rfl) (by simp [maxBytes]; omega) (by simp [maxBytes]; omega)
    simp only [rn0, rn1, rn2, rn3, rn4, rn5, rn6, rn7, rn8, if_true, if_false, Nat.le_refl, true_and, and_true, decide_true, decide_false, Bool.not_true, Bool.not_false, reduceIte, Nat.reduceEqDiff, Nat.reduceAdd, Nat.reduceMul, Nat.reduceSub, Nat.reduceLeDiff, Nat.reduceLT, p4, p6, p19, p20, e6, hw]
    have hfin := And.intro (fun i (hi : i < g3.next) => (by rw [old6 i hi, hs i hi] : g6.get i = g3.get i)) (And.intro (by omega : g6.floor = h.floor) (And.intro (by omega : g3.next ≤ g6.next) (And.intro (by omega : g6.next ≤ g3.next + 3 * (k + 1)) (And.intro gv6 (rfl : v' = v')))))
    first | exact ⟨⟨v', hfin⟩, rfl⟩ | exact ⟨v', hfin⟩
  · rintro f g ms ⟨⟨v, hs, hfg, hup, hnx, gv, p6⟩, rfl, p4, p19, p20⟩
    simp only [rn0, rn1, rn2, rn3, rn4, rn5, rn6, rn7, rn8, if_true, if_false, Nat.le_refl, true_and, and_true, decide_true, decide_false, Bool.not_true, Bool.not_false, reduceIte, Nat.reduceEqDiff, Nat.reduceAdd, Nat.reduceMul, Nat.reduceSub, Nat.reduceLeDiff, Nat.reduceLT, p4, p6, p19, p20, Int.lt_irrefl, ret_tt]
    exact ⟨_, rfl, gv.cells, gv.one, fun i hi => by rw [hs i (by omega), hx3.old i (by omega), hold2 i hi], by omega, by omega, by omega⟩
def s47 : SCode := (.seq (.ops [⟨(some 1), none, .box (T 0)⟩, ⟨(some 2), none, .mov (.const (.slice none 0 0))⟩, ⟨(some 3), none, .mov (.const (.int .i64 (0)))⟩, ⟨(some 4), none, .mov (.const (.int .i64 (0)))⟩]) (.seq (.ops [⟨(some 7), none, .loadN 5 (T 1)⟩, ⟨(some 8), none, .call (.func 86) [(T 7), (.const (.slice none 0 0))]⟩, ⟨(some 6), none, .mov (T 8)⟩, ⟨(some 9), none, .extract 0 (T 6)⟩, ⟨(some 10), none, .extract 1 (T 6)⟩, ⟨(some 5), none, .alloc [(.int .i64 (0)), (.int .i64 (0)), (.slice none 0 0), (.int .i64 (0)), (.slice none 0 0), (.slice none 0 0)]⟩, ⟨none, none, .store 6 (T 5) (T 9)⟩, ⟨(some 4), none, .mov (T 10)⟩]) (.seq (.seq (.ops [⟨(some 11), none, .mov (T 4)⟩, ⟨(some 12), none, .int2 .neq (T 11) (.const (.int .i64 (0)))⟩]) (.cond (T 12) (.seq (.ops [⟨(some 13), none, .mov (T 4)⟩, ⟨(some 2), none, .mov (.const (.slice none 0 0))⟩, ⟨(some 3), none, .mov (.const (.int .i64 (0)))⟩, ⟨(some 4), none, .mov (T 13)⟩]) .ret) .skip)) (.seq (.ops [⟨(some 15), none, .loadN 6 (T 5)⟩, ⟨(some 16), none, .call (.func 96) [(T 15)]⟩, ⟨(some 14), none, .mov (T 16)⟩, ⟨(some 17), none, .extract 0 (T 14)⟩, ⟨(some 18), none, .extract 1 (T 14)⟩, ⟨(some 2), none, .mov (T 17)⟩, ⟨(some 3), none, .mov (T 18)⟩]) (.seq (.ops [⟨(some 19), none, .mov (T 2)⟩, ⟨(some 20), none, .mov (T 3)⟩, ⟨(some 2), none, .mov (T 19)⟩, ⟨(some 3), none, .mov (T 20)⟩, ⟨(some 4), none, .mov (.const (.int .i64 (0)))⟩]) .ret)))))
theorem fok47 : FnOk Try.prog 47 21 s47 [.tmp 2, .tmp 3, .tmp 4] := ⟨Try.f47, _, Try.func47, rfl, Try.ntmps47, by kernel_rfl, by kernel_rfl⟩
set_option maxHeartbeats 1000000 in
theorem bestV_c (hn : 1100 ≤ n) (hr : h.next + 80000 < far) (hfl : h.floor ≤ h.next) {vv sv : Value} {S : MB} (hy : BeatR h vv sv S) (hTh : ThinS S) :
    ∃ r h', call n (.func (.func 47) #[] #[]) [.agg ⟨beL S vv sv⟩] h = some (.tuple ⟨[r, .int .i64 (if errS S = 0 then (bestS S).2 else 0), .int .i64 (errS S)]⟩, h') ∧ Ints h' r (cntS S) (bestS S).1 ∧ oneCell r = true ∧ (∀ i, i < h.next → h'.get i = h.get i) ∧ h.next ≤ h'.next ∧ h'.next ≤ h.next + 40000 ∧ h'.floor = h.floor := by
  obtain ⟨n, rfl⟩ : ∃ p, n = p + 1 := ⟨n - 1, by omega⟩
  suffices hs : ∃ v h', call (n + 1) (.func (.func 47) #[] #[]) [.agg ⟨beL S vv sv⟩] h = some (v, h') ∧ ∃ r, v = .tuple ⟨[r, .int .i64 (if errS S = 0 then (bestS S).2 else 0), .int .i64 (errS S)]⟩ ∧ Ints h' r (cntS S) (bestS S).1 ∧ oneCell r = true ∧ (∀ i, i < h.next → h'.get i = h.get i) ∧ h.next ≤ h'.next ∧ h'.next ≤ h.next + 40000 ∧ h'.floor = h.floor by
    obtain ⟨v, h', e, r, rfl, q⟩ := hs
    exact ⟨r, h', e, q⟩
  refine call_any0 fok47 rfl rfl (by simp) ?_
  have rnil : ∀ g : AHeap, Ints g nilS 0 (bestS S).1 := fun g => ⟨none, 0, rfl, fun x e => (by cases e), .inl rfl⟩
  simp only [s47, W_seq, W_ops]
  refine ops_box (cs := beL S vv sv) (by omega) rfl hy.one fun g1 hx1 => ?_
  have n1 := hx1.next
  have f1 := hx1.floor
  obtain ⟨v, g2, eo, old2, u2, m2, f2, ho⟩ := open_c (n := n) (h := g1) (by omega) (by omega) (by omega) (hy.mono hx1.sub) hTh (P := True) (cv := nilS) fun _ => conds_nil
  have hold2 : ∀ i, i < h.next → g2.get i = h.get i := fun i hi => by rw [old2 i (by omega), hx1.old i hi]
  rcases ho with ⟨hf, rfl⟩ | ⟨hf, hp, rfl⟩ | ⟨hf, _, ht, rfl⟩ | ⟨hf, _, ht, tv, rfl, hone, hd, hfr, hlong⟩
  · have he : errS S = faultS S := by unfold errS; rw [if_pos hf]
    have hc : cntS S = 0 := by unfold cntS; rw [if_neg (by rw [he]; exact hf)]
    rw [he, hc, if_neg hf]
    simp only [rn0, rn1, rn2, rn3, rn4, rn5, rn6, rn7, rn8, if_true, if_false, Nat.le_refl, true_and, and_true, decide_true, decide_false, Bool.not_true, Bool.not_false, reduceIte, Nat.reduceEqDiff, Nat.reduceAdd, Nat.reduceMul, Nat.reduceSub, Nat.reduceLeDiff, Nat.reduceLT, hx1.row.whole (n := 5) rfl, eo, ex0, ex1]
    refine step_new (vs := wkZ) (by omega) (by omega) rfl (by simp only [rn0, rn1, rn2, rn3, rn4, rn5, rn6, rn7, rn8, if_true, if_false, Nat.le_refl, true_and, and_true, decide_true, decide_false, Bool.not_true, Bool.not_false, reduceIte, Nat.reduceEqDiff, Nat.reduceAdd, Nat.reduceMul, Nat.reduceSub, Nat.reduceLeDiff, Nat.reduceLT]; rfl) rfl rfl rfl fun g3 hx3 => ?_
    have n3 := hx3.next
    have f3 := hx3.floor
    simp only [rn0, rn1, rn2, rn3, rn4, rn5, rn6, rn7, rn8, if_true, if_false, Nat.le_refl, true_and, and_true, decide_true, decide_false, Bool.not_true, Bool.not_false, reduceIte, Nat.reduceEqDiff, Nat.reduceAdd, Nat.reduceMul, Nat.reduceSub, Nat.reduceLeDiff, Nat.reduceLT, hf, ret_ttt]
    exact ⟨_, rfl, rnil _, rfl, fun i hi => by rw [hx3.old i (by omega), hold2 i hi], by omega, by omega, by omega⟩
  · exact absurd trivial hp
  · have he : errS S = 11 := by unfold errS; rw [if_neg (by simpa using hf), if_pos ht]
    have hc : cntS S = 0 := by unfold cntS; rw [if_neg (by rw [he]; decide)]
    rw [he, hc, if_neg (by decide)]
    simp only [rn0, rn1, rn2, rn3, rn4, rn5, rn6, rn7, rn8, if_true, if_false, Nat.le_refl, true_and, and_true, decide_true, decide_false, Bool.not_true, Bool.not_false, reduceIte, Nat.reduceEqDiff, Nat.reduceAdd, Nat.reduceMul, Nat.reduceSub, Nat.reduceLeDiff, Nat.reduceLT, hx1.row.whole (n := 5) rfl, eo, ex0, ex1]
    refine step_new (vs := wkZ) (by omega) (by omega) rfl (by simp only [rn0, rn1, rn2, rn3, rn4, rn5, rn6, rn7, rn8, if_true, if_false, Nat.le_refl, true_and, and_true, decide_true, decide_false, Bool.not_true, Bool.not_false, reduceIte, Nat.reduceEqDiff, Nat.reduceAdd, Nat.reduceMul, Nat.reduceSub, Nat.reduceLeDiff, Nat.reduceLT]; rfl) rfl rfl rfl fun g3 hx3 => ?_
    have n3 := hx3.next
    have f3 := hx3.floor
    simp only [rn0, rn1, rn2, rn3, rn4, rn5, rn6, rn7, rn8, if_true, if_false, Nat.le_refl, true_and, and_true, decide_true, decide_false, Bool.not_true, Bool.not_false, reduceIte, Nat.reduceEqDiff, Nat.reduceAdd, Nat.reduceMul, Nat.reduceSub, Nat.reduceLeDiff, Nat.reduceLT, Int.reduceEq, ret_ttt]
    exact ⟨_, rfl, rnil _, rfl, fun i hi => by rw [hx3.old i (by omega), hold2 i hi], by omega, by omega, by omega⟩
  have he : errS S = 0 := errS_zero.2 ⟨good_of hf, ht⟩
  have hc : cntS S = S.nv := by unfold cntS; rw [if_pos he]
  rw [he, hc, if_pos rfl]
  have hG := good_of hf
  have hy2 := hy.mono (AHeap.subOf hold2)
  simp only [rn0, rn1, rn2, rn3, rn4, rn5, rn6, rn7, rn8, if_true, if_false, Nat.le_refl, true_and, and_true, decide_true, decide_false, Bool.not_true, Bool.not_false, reduceIte, Nat.reduceEqDiff, Nat.reduceAdd, Nat.reduceMul, Nat.reduceSub, Nat.reduceLeDiff, Nat.reduceLT, hx1.row.whole (n := 5) rfl, eo, ex0, ex1]
  refine step_new (vs := wkL S vv sv tv) (by omega) (by omega) rfl (by simp only [rn0, rn1, rn2, rn3, rn4, rn5, rn6, rn7, rn8, if_true, if_false, Nat.le_refl, true_and, and_true, decide_true, decide_false, Bool.not_true, Bool.not_false, reduceIte, Nat.reduceEqDiff, Nat.reduceAdd, Nat.reduceMul, Nat.reduceSub, Nat.reduceLeDiff, Nat.reduceLT]; rfl) (wk_one hy2 hone) rfl rfl fun g3 hx3 => ?_
  have n3 := hx3.next
  have f3 := hx3.floor
  have ho3 : OpS g3 vv sv tv S := ⟨hG, ht, hy2.mono hx3.sub, hone, Cells.mono hd hx3.sub, hlong⟩
  obtain ⟨bv, g4, e4, b4, o4, old4, u4, m4, f4⟩ := bestE_c (n := n) (h := g3) (by omega) (by omega) (by omega) ho3
  simp only [rn0, rn1, rn2, rn3, rn4, rn5, rn6, rn7, rn8, if_true, if_false, Nat.le_refl, true_and, and_true, decide_true, decide_false, Bool.not_true, Bool.not_false, reduceIte, Nat.reduceEqDiff, Nat.reduceAdd, Nat.reduceMul, Nat.reduceSub, Nat.reduceLeDiff, Nat.reduceLT, hx3.row.whole (n := 6) rfl, e4, ex0, ex1, ret_ttt]
  exact ⟨_, rfl, b4, o4, fun i hi => by rw [old4 i (by omega), hx3.old i (by omega), hold2 i hi], by omega, by omega, by omega⟩
open Classical in
noncomputable def errE (S : MB) (m : Nat) (a : Nat → Int) : Int := if faultS S ≠ 0 then faultS S else if ¬ Hours S m a then 2 else if truthsS S = [] then 11 else 0
theorem errE_zero {S : MB} {m : Nat} {a : Nat → Int} : errE S m a = 0 ↔ Good S ∧ Hours S m a ∧ truthsS S ≠ [] := by
  unfold errE
  by_cases c1 : faultS S = 0
  · rw [if_neg (by simpa using c1)]
    by_cases c3 : Hours S m a
    · rw [if_neg (by simpa using c3)]
      by_cases c2 : truthsS S = []
      · rw [if_pos c2]; simp [c2]
      · rw [if_neg c2]; simp [c2, c3, good_of c1]
    · rw [if_pos c3]; simp [c3]
  · rw [if_pos c1]
    exact ⟨fun e => absurd e c1, fun e => fault_of e.1⟩
def s92 : SCode := (.seq (.ops [⟨(some 2), none, .box (T 0)⟩, ⟨(some 3), none, .mov (.const (.bool false))⟩]) (.seq (.ops [⟨(some 4), none, .loadN 6 (T 2)⟩, ⟨(some 5), none, .load1 (T 1)⟩, ⟨(some 6), none, .call (.func 79) [(T 4), (T 5)]⟩, ⟨(some 3), none, .mov (T 6)⟩]) .ret))
theorem fok92 : FnOk Try.prog 92 7 s92 [.tmp 3] := ⟨Try.f92, _, Try.func92, rfl, Try.ntmps92, by kernel_rfl, by kernel_rfl⟩
theorem losses1_c (hn : 120 ≤ n) (hr : h.next + 110 < far) {vv sv lv : Value} {S : MB} {m : Nat} {a : Nat → Int} {p : Nat} (hy : BeatR h vv sv S) (hp : Row h p [lv]) (hc : Ints h lv m a) (h30 : m ≤ 30) :
    call n (.func (.func 92) ⟨[]⟩ ⟨[.pointer (some ⟨p, 0, none⟩)]⟩) [.agg ⟨wkL S vv sv nilS⟩] h = some (.bool (decide (Hours S m a)), h) := by
  obtain ⟨n, rfl⟩ : ∃ p, n = p + 1 := ⟨n - 1, by omega⟩
  refine call_plain (xs := []) (ys := [.pointer (some ⟨p, 0, none⟩)]) fok92 rfl rfl (by simp) rfl ?_
  have hy := hy.shut
  have hc := Cells.shut hc
  have hp : Row h.shutAll p [lv] := hp.mono fun _ _ _ _ _ h => h
  have hr : h.shutAll.next + 110 < far := hr
  generalize h.shutAll = h at hy hc hp hr
  simp only [s92, List.cons_append, List.nil_append, W_seq, W_ops]
  refine ops_box (cs := wkL S vv sv nilS) (by omega) rfl (wk_one hy rfl) fun g1 hx1 => ?_
  have n1 := hx1.next
  have ee := isEnds_c (n := n) (h := g1) (tv := nilS) (by omega) (by omega) (hy.mono hx1.sub) rfl (Cells.mono hc hx1.sub) h30
  simp only [rn0, rn1, rn2, rn3, rn4, rn5, rn6, rn7, rn8, if_true, if_false, Nat.le_refl, true_and, and_true, decide_true, decide_false, Bool.not_true, Bool.not_false, reduceIte, Nat.reduceEqDiff, Nat.reduceAdd, Nat.reduceMul, Nat.reduceSub, Nat.reduceLeDiff, Nat.reduceLT, hx1.row.whole (n := 6) rfl, (hp.mono hx1.sub).ld, Nat.zero_add, List.getElem?_cons_zero, ee]
theorem sl_fn {f : Value} (hf : oneCell f = true) : buildSl 1 1 [.nilFunc] [0] h [f] = newSlice h [f] 1 1 0 := by
  cases f <;> first | (cases hf; done) | rfl
def s44 : SCode := (.seq (.ops [⟨(some 2), none, .box (T 0)⟩, ⟨(some 3), none, .box (T 1)⟩, ⟨(some 4), none, .alloc [(.int .i64 (0)), (.int .i64 (0))]⟩, ⟨(some 5), none, .mov (.const (.int .i64 (0)))⟩]) (.seq (.ops [⟨(some 9), none, .loadN 5 (T 2)⟩, ⟨(some 10), none, .mkfunc 92 [] [(T 3)]⟩, ⟨(some 11), none, .bslice 1 1 [.nilFunc] [0] [(T 10)]⟩, ⟨(some 12), none, .call (.func 86) [(T 9), (T 11)]⟩, ⟨(some 8), none, .mov (T 12)⟩, ⟨(some 13), none, .extract 0 (T 8)⟩, ⟨(some 14), none, .extract 1 (T 8)⟩, ⟨(some 6), none, .alloc [(.int .i64 (0)), (.int .i64 (0)), (.slice none 0 0), (.int .i64 (0)), (.slice none 0 0), (.slice none 0 0)]⟩, ⟨none, none, .store 6 (T 6) (T 13)⟩, ⟨(some 7), none, .mov (T 14)⟩]) (.seq (.seq (.ops [⟨(some 15), none, .mov (T 7)⟩, ⟨(some 16), none, .int2 .neq (T 15) (.const (.int .i64 (0)))⟩]) (.cond (T 16) (.seq (.ops [⟨(some 17), none, .build #[(0, 1), (1, 1)] [(.int .i64 (0)), (.int .i64 (0))] [] []⟩, ⟨(some 18), none, .mov (T 7)⟩, ⟨none, none, .store 2 (T 4) (T 17)⟩, ⟨(some 5), none, .mov (T 18)⟩]) .ret) .skip)) (.seq (.ops [⟨(some 19), none, .loadN 6 (T 6)⟩, ⟨(some 20), none, .load1 (T 3)⟩, ⟨(some 21), none, .call (.func 93) [(T 19), (T 20)]⟩, ⟨none, none, .store 2 (T 4) (T 21)⟩, ⟨(some 5), none, .mov (.const (.int .i64 (0)))⟩]) .ret))))
theorem fok44 : FnOk Try.prog 44 22 s44 [.cellN 4 2, .tmp 5] := ⟨Try.f44, _, Try.func44, rfl, Try.ntmps44, by kernel_rfl, by kernel_rfl⟩
set_option maxHeartbeats 1000000 in
theorem lossesV_c (hn : 1000 ≤ n) (hr : h.next + 60000 < far) {vv sv lv : Value} {S : MB} {m : Nat} {a : Nat → Int} (hy : BeatR h vv sv S) (hTh : ThinS S) (hl : Ints h lv m a) (h30 : m ≤ 30) :
    call n (.func (.func 44) #[] #[]) [.agg ⟨beL S vv sv⟩, lv] h = some (.tuple ⟨[.agg ⟨[.int .i64 (if errE S m a = 0 then wLo S a S.nv else 0), .int .i64 (if errE S m a = 0 then wHi S a S.nv else 0)]⟩, .int .i64 (errE S m a)]⟩, h) := by
  obtain ⟨n, rfl⟩ : ∃ p, n = p + 1 := ⟨n - 1, by omega⟩
  refine call_plain0 fok44 rfl rfl (by simp) rfl ?_
  have hy := hy.shut
  have hl := Cells.shut hl
  have hr : h.shutAll.next + 60000 < far := hr
  have hfl : h.shutAll.floor ≤ h.shutAll.next := Nat.le_refl _
  generalize h.shutAll = h at hy hl hr hfl
  simp only [s44, W_seq, W_ops]
  refine ops_box (cs := beL S vv sv) (by omega) rfl hy.one fun g1 hx1 => ?_
  have n1 := hx1.next
  have f1 := hx1.floor
  refine ops_box (cs := [lv]) (by omega) (by simp only [rn0, rn1, rn2, rn3, rn4, rn5, rn6, rn7, rn8, if_true, if_false, Nat.le_refl, true_and, and_true, decide_true, decide_false, Bool.not_true, Bool.not_false, reduceIte, Nat.reduceEqDiff, Nat.reduceAdd, Nat.reduceMul, Nat.reduceSub, Nat.reduceLeDiff, Nat.reduceLT]; exact cells1 (Cells.one hl)) (by simp [allB, Cells.one hl]) fun g2 hx2 => ?_
  have n2 := hx2.next
  have f2 := hx2.floor
  refine ops_alloc (cs := [.int .i64 0, .int .i64 0]) (by omega) rfl fun g3 hx3 => ?_
  have n3 := hx3.next
  have f3 := hx3.floor
  have sub3 : Sub All h g3 := hx1.sub.trans (hx2.sub.trans hx3.sub)
  have w3 := ((hx1.row.mono hx2.sub).mono hx3.sub).whole (n := 5) rfl
  simp only [rn0, rn1, rn2, rn3, rn4, rn5, rn6, rn7, rn8, if_true, if_false, Nat.le_refl, true_and, and_true, decide_true, decide_false, Bool.not_true, Bool.not_false, reduceIte, Nat.reduceEqDiff, Nat.reduceAdd, Nat.reduceMul, Nat.reduceSub, Nat.reduceLeDiff, Nat.reduceLT, w3, sl_fn (show oneCell (.func (.func 92) ⟨[]⟩ ⟨[.pointer (some ⟨g1.next, 0, none⟩)]⟩) = true from rfl)]
  refine step_slice (by omega) rfl fun g4 hx4 => ?_
  have n4 := hx4.next
  have f4 := hx4.floor
  have sub4 := sub3.trans hx4.sub
  have hcs : Cells g4 (.slice (some ⟨g3.next, 0, none⟩) 1 1) 1 1 (fun _ _ => .func (.func 92) ⟨[]⟩ ⟨[.pointer (some ⟨g1.next, 0, none⟩)]⟩) := ⟨_, _, rfl, fun x e => by cases e; rfl, .inr ⟨_, 0, _, _, _, rfl, hx4.get, fun i j hi hj => by
    obtain rfl : i = 0 := by omega
    obtain rfl : j = 0 := by omega
    rfl⟩⟩
  have hrow2 : Row g4 g1.next [lv] := (hx2.row.mono hx3.sub).mono hx4.sub
  have hy4 := hy.mono sub4
  have hl4 : Ints g4 lv m a := Cells.mono hl sub4
  obtain ⟨v, g5, eo, old5, u5, m5, f5, ho⟩ := open_c (n := n) (h := g4) (by omega) (by omega) (by omega) hy4 hTh (P := Hours S m a) (cv := .slice (some ⟨g3.next, 0, none⟩) 1 1) fun hG =>
    ⟨1, _, fun _ => Hours S m a, by omega, hcs, ⟨fun e _ _ => e, fun e => e 0 (by omega)⟩, fun i hi => ⟨decide (Hours S m a), decide_eq_true_iff, fun n' hn' g hs hg => losses1_c (by omega) (by omega) (hy4.mono hs) (hrow2.mono hs) (Cells.mono hl4 hs) h30⟩⟩
  have r6 : g5.get g2.next = some (.row [.int .i64 0, .int .i64 0] true 0) := by rw [old5 _ (by omega), hx4.old _ (by omega)]; exact hx3.get
  have err : ∀ e : Int, e ≠ 0 → errE S m a = e → v = .tuple ⟨[.agg ⟨wkZ⟩, .int .i64 e]⟩ → (errE S m a = 0) = False := fun e h1 h2 _ => by rw [h2]; exact eq_false h1
  rcases ho with ⟨hf, rfl⟩ | ⟨hf, hp, rfl⟩ | ⟨hf, hp, ht, rfl⟩ | ⟨hf, hp, ht, tv, rfl, hone, hd, hfr, hlong⟩
  · have he : errE S m a = faultS S := by unfold errE; rw [if_pos hf]
    rw [he, if_neg hf, if_neg hf]
    simp only [rn0, rn1, rn2, rn3, rn4, rn5, rn6, rn7, rn8, if_true, if_false, Nat.le_refl, true_and, and_true, decide_true, decide_false, Bool.not_true, Bool.not_false, reduceIte, Nat.reduceEqDiff, Nat.reduceAdd, Nat.reduceMul, Nat.reduceSub, Nat.reduceLeDiff, Nat.reduceLT, eo, ex0, ex1]
    refine step_new (vs := wkZ) (by omega) (by omega) rfl (by simp only [rn0, rn1, rn2, rn3, rn4, rn5, rn6, rn7, rn8, if_true, if_false, Nat.le_refl, true_and, and_true, decide_true, decide_false, Bool.not_true, Bool.not_false, reduceIte, Nat.reduceEqDiff, Nat.reduceAdd, Nat.reduceMul, Nat.reduceSub, Nat.reduceLeDiff, Nat.reduceLT]; rfl) rfl rfl rfl fun g6 hx6 => ?_
    have n6 := hx6.next
    have f6 := hx6.floor
    simp only [rn0, rn1, rn2, rn3, rn4, rn5, rn6, rn7, rn8, if_true, if_false, Nat.le_refl, true_and, and_true, decide_true, decide_false, Bool.not_true, Bool.not_false, reduceIte, Nat.reduceEqDiff, Nat.reduceAdd, Nat.reduceMul, Nat.reduceSub, Nat.reduceLeDiff, Nat.reduceLT, hf, build_rng0]
    refine step_store (b := g2.next) (off := 0) (vs := [.int .i64 0, .int .i64 0]) rfl (by rw [hx6.old _ (by omega)]; exact r6) (by omega) (by omega) rfl rfl rfl (by simp) fun g7 hs7 => ?_
    rw [splice2] at hs7
    simp only [rn0, rn1, rn2, rn3, rn4, rn5, rn6, rn7, rn8, if_true, if_false, Nat.le_refl, true_and, and_true, decide_true, decide_false, Bool.not_true, Bool.not_false, reduceIte, Nat.reduceEqDiff, Nat.reduceAdd, Nat.reduceMul, Nat.reduceSub, Nat.reduceLeDiff, Nat.reduceLT, res_two, hs7.row.whole (n := 2) rfl]
  · have he : errE S m a = 2 := by unfold errE; rw [if_neg (by simpa using hf), if_pos hp]
    rw [he, if_neg (by decide), if_neg (by decide)]
    simp only [rn0, rn1, rn2, rn3, rn4, rn5, rn6, rn7, rn8, if_true, if_false, Nat.le_refl, true_and, and_true, decide_true, decide_false, Bool.not_true, Bool.not_false, reduceIte, Nat.reduceEqDiff, Nat.reduceAdd, Nat.reduceMul, Nat.reduceSub, Nat.reduceLeDiff, Nat.reduceLT, eo, ex0, ex1]
    refine step_new (vs := wkZ) (by omega) (by omega) rfl (by simp only [rn0, rn1, rn2, rn3, rn4, rn5, rn6, rn7, rn8, if_true, if_false, Nat.le_refl, true_and, and_true, decide_true, decide_false, Bool.not_true, Bool.not_false, reduceIte, Nat.reduceEqDiff, Nat.reduceAdd, Nat.reduceMul, Nat.reduceSub, Nat.reduceLeDiff, Nat.reduceLT]; rfl) rfl rfl rfl fun g6 hx6 => ?_
    have n6 := hx6.next
    have f6 := hx6.floor
    simp only [rn0, rn1, rn2, rn3, rn4, rn5, rn6, rn7, rn8, if_true, if_false, Nat.le_refl, true_and, and_true, decide_true, decide_false, Bool.not_true, Bool.not_false, reduceIte, Nat.reduceEqDiff, Nat.reduceAdd, Nat.reduceMul, Nat.reduceSub, Nat.reduceLeDiff, Nat.reduceLT, Int.reduceEq, build_rng0]
    refine step_store (b := g2.next) (off := 0) (vs := [.int .i64 0, .int .i64 0]) rfl (by rw [hx6.old _ (by omega)]; exact r6) (by omega) (by omega) rfl rfl rfl (by simp) fun g7 hs7 => ?_
    rw [splice2] at hs7
    simp only [rn0, rn1, rn2, rn3, rn4, rn5, rn6, rn7, rn8, if_true, if_false, Nat.le_refl, true_and, and_true, decide_true, decide_false, Bool.not_true, Bool.not_false, reduceIte, Nat.reduceEqDiff, Nat.reduceAdd, Nat.reduceMul, Nat.reduceSub, Nat.reduceLeDiff, Nat.reduceLT, res_two, hs7.row.whole (n := 2) rfl]
  · have he : errE S m a = 11 := by unfold errE; rw [if_neg (by simpa using hf), if_neg (by simpa using hp), if_pos ht]
    rw [he, if_neg (by decide), if_neg (by decide)]
    simp only [rn0, rn1, rn2, rn3, rn4, rn5, rn6, rn7, rn8, if_true, if_false, Nat.le_refl, true_and, and_true, decide_true, decide_false, Bool.not_true, Bool.not_false, reduceIte, Nat.reduceEqDiff, Nat.reduceAdd, Nat.reduceMul, Nat.reduceSub, Nat.reduceLeDiff, Nat.reduceLT, eo, ex0, ex1]
    refine step_new (vs := wkZ) (by omega) (by omega) rfl (by simp only [rn0, rn1, rn2, rn3, rn4, rn5, rn6, rn7, rn8, if_true, if_false, Nat.le_refl, true_and, and_true, decide_true, decide_false, Bool.not_true, Bool.not_false, reduceIte, Nat.reduceEqDiff, Nat.reduceAdd, Nat.reduceMul, Nat.reduceSub, Nat.reduceLeDiff, Nat.reduceLT]; rfl) rfl rfl rfl fun g6 hx6 => ?_
    have n6 := hx6.next
    have f6 := hx6.floor
    simp only [rn0, rn1, rn2, rn3, rn4, rn5, rn6, rn7, rn8, if_true, if_false, Nat.le_refl, true_and, and_true, decide_true, decide_false, Bool.not_true, Bool.not_false, reduceIte, Nat.reduceEqDiff, Nat.reduceAdd, Nat.reduceMul, Nat.reduceSub, Nat.reduceLeDiff, Nat.reduceLT, Int.reduceEq, build_rng0]
    refine step_store (b := g2.next) (off := 0) (vs := [.int .i64 0, .int .i64 0]) rfl (by rw [hx6.old _ (by omega)]; exact r6) (by omega) (by omega) rfl rfl rfl (by simp) fun g7 hs7 => ?_
    rw [splice2] at hs7
    simp only [rn0, rn1, rn2, rn3, rn4, rn5, rn6, rn7, rn8, if_true, if_false, Nat.le_refl, true_and, and_true, decide_true, decide_false, Bool.not_true, Bool.not_false, reduceIte, Nat.reduceEqDiff, Nat.reduceAdd, Nat.reduceMul, Nat.reduceSub, Nat.reduceLeDiff, Nat.reduceLT, res_two, hs7.row.whole (n := 2) rfl]
  have hG := good_of hf
  have he : errE S m a = 0 := errE_zero.2 ⟨hG, hp, ht⟩
  rw [he, if_pos rfl, if_pos rfl]
  have sub5 : Sub All g4 g5 := AHeap.subOf old5
  have hy5 := hy4.mono sub5
  obtain ⟨z0, z1, _⟩ := hG.sizes
  simp only [rn0, rn1, rn2, rn3, rn4, rn5, rn6, rn7, rn8, if_true, if_false, Nat.le_refl, true_and, and_true, decide_true, decide_false, Bool.not_true, Bool.not_false, reduceIte, Nat.reduceEqDiff, Nat.reduceAdd, Nat.reduceMul, Nat.reduceSub, Nat.reduceLeDiff, Nat.reduceLT, eo, ex0, ex1]
  refine step_new (vs := wkL S vv sv tv) (by omega) (by omega) rfl (by simp only [rn0, rn1, rn2, rn3, rn4, rn5, rn6, rn7, rn8, if_true, if_false, Nat.le_refl, true_and, and_true, decide_true, decide_false, Bool.not_true, Bool.not_false, reduceIte, Nat.reduceEqDiff, Nat.reduceAdd, Nat.reduceMul, Nat.reduceSub, Nat.reduceLeDiff, Nat.reduceLT]; rfl) (wk_one hy5 hone) rfl rfl fun g6 hx6 => ?_
  have n6 := hx6.next
  have f6 := hx6.floor
  have ho6 : OpS g6 vv sv tv S := ⟨hG, ht, hy5.mono hx6.sub, hone, Cells.mono hd hx6.sub, hlong⟩
  have hmv : m = S.nv := hp.1
  subst hmv
  have hle := losses_c (n := n) (h := g6) (by omega) (by omega) ho6 (Cells.mono (Cells.mono hl4 sub5) hx6.sub) (Nat.le_refl _) fun v hv => by have := hp.2 v hv; omega
  simp only [rn0, rn1, rn2, rn3, rn4, rn5, rn6, rn7, rn8, if_true, if_false, Nat.le_refl, true_and, and_true, decide_true, decide_false, Bool.not_true, Bool.not_false, reduceIte, Nat.reduceEqDiff, Nat.reduceAdd, Nat.reduceMul, Nat.reduceSub, Nat.reduceLeDiff, Nat.reduceLT, hx6.row.whole (n := 6) rfl, ((hrow2.mono sub5).mono hx6.sub).ld, Nat.zero_add, List.getElem?_cons_zero, hle]
  refine step_store (b := g2.next) (off := 0) (vs := [.int .i64 (wLo S a S.nv), .int .i64 (wHi S a S.nv)]) rfl (by rw [hx6.old _ (by omega)]; exact r6) (by omega) (by omega) rfl rfl rfl (by simp) fun g7 hs7 => ?_
  rw [splice2] at hs7
  simp only [rn0, rn1, rn2, rn3, rn4, rn5, rn6, rn7, rn8, if_true, if_false, Nat.le_refl, true_and, and_true, decide_true, decide_false, Bool.not_true, Bool.not_false, reduceIte, Nat.reduceEqDiff, Nat.reduceAdd, Nat.reduceMul, Nat.reduceSub, Nat.reduceLeDiff, Nat.reduceLT, res_two, hs7.row.whole (n := 2) rfl]
def s48 : SCode := (.seq (.ops [⟨(some 3), none, .box (T 0)⟩, ⟨(some 6), none, .mov (.const (.bool false))⟩]) (.seq (.ops [⟨(some 10), none, .loadN 5 (T 3)⟩, ⟨(some 11), none, .mov (T 1)⟩, ⟨(some 12), none, .call (.func 44) [(T 10), (T 11)]⟩, ⟨(some 9), none, .mov (T 12)⟩, ⟨(some 13), none, .extract 0 (T 9)⟩, ⟨(some 14), none, .extract 1 (T 9)⟩, ⟨(some 7), none, .alloc [(.int .i64 (0)), (.int .i64 (0))]⟩, ⟨none, none, .store 2 (T 7) (T 13)⟩, ⟨(some 8), none, .mov (T 14)⟩]) (.seq (.ops [⟨(some 15), none, .mov (T 8)⟩, ⟨(some 16), none, .int2 .eql (T 15) (.const (.int .i64 (0)))⟩, ⟨(some 17), none, .mov (T 16)⟩, ⟨(some 18), (some (17, true)), .fieldAddr 1 (T 7)⟩, ⟨(some 19), (some (17, true)), .load1 (T 18)⟩, ⟨(some 20), (some (17, true)), .mov (T 2)⟩, ⟨(some 21), (some (17, true)), .int2 .leq (T 19) (T 20)⟩, ⟨(some 22), none, .pick (T 17) (T 21) (.const (.bool false))⟩, ⟨(some 6), none, .mov (T 22)⟩]) .ret)))
theorem fok48 : FnOk Try.prog 48 23 s48 [.tmp 6] := ⟨Try.f48, _, Try.func48, rfl, Try.ntmps48, by kernel_rfl, by kernel_rfl⟩
theorem proveBest_c (hn : 1100 ≤ n) (hr : h.next + 61000 < far) {vv sv lv : Value} {S : MB} {m : Nat} {a : Nat → Int} (hy : BeatR h vv sv S) (hTh : ThinS S) (hl : Ints h lv m a) (h30 : m ≤ 30) (w : Int) :
    call n (.func (.func 48) #[] #[]) [.agg ⟨beL S vv sv⟩, lv, .int .i64 w] h = some (.bool (decide (errE S m a = 0 ∧ wHi S a S.nv ≤ w)), h) := by
  obtain ⟨n, rfl⟩ : ∃ p, n = p + 1 := ⟨n - 1, by omega⟩
  refine call_plain0 fok48 rfl rfl (by simp) rfl ?_
  have hy := hy.shut
  have hl := Cells.shut hl
  have hr : h.shutAll.next + 61000 < far := hr
  have hfl : h.shutAll.floor ≤ h.shutAll.next := Nat.le_refl _
  generalize h.shutAll = h at hy hl hr hfl
  simp only [s48, W_seq, W_ops]
  refine ops_box (cs := beL S vv sv) (by omega) rfl hy.one fun g1 hx1 => ?_
  have n1 := hx1.next
  have f1 := hx1.floor
  have el := lossesV_c (n := n) (h := g1) (by omega) (by omega) (hy.mono hx1.sub) hTh (Cells.mono hl hx1.sub) h30
  simp only [rn0, rn1, rn2, rn3, rn4, rn5, rn6, rn7, rn8, if_true, if_false, Nat.le_refl, true_and, and_true, decide_true, decide_false, Bool.not_true, Bool.not_false, reduceIte, Nat.reduceEqDiff, Nat.reduceAdd, Nat.reduceMul, Nat.reduceSub, Nat.reduceLeDiff, Nat.reduceLT, hx1.row.whole (n := 5) rfl, el, ex0, ex1]
  refine step_new (vs := [.int .i64 (if errE S m a = 0 then wLo S a S.nv else 0), .int .i64 (if errE S m a = 0 then wHi S a S.nv else 0)]) (by omega) (by omega) rfl (by simp only [rn0, rn1, rn2, rn3, rn4, rn5, rn6, rn7, rn8, if_true, if_false, Nat.le_refl, true_and, and_true, decide_true, decide_false, Bool.not_true, Bool.not_false, reduceIte, Nat.reduceEqDiff, Nat.reduceAdd, Nat.reduceMul, Nat.reduceSub, Nat.reduceLeDiff, Nat.reduceLT]; rfl) rfl rfl rfl fun g2 hx2 => ?_
  by_cases he : errE S m a = 0
  · by_cases hw : wHi S a S.nv ≤ w
    · simp only [rn0, rn1, rn2, rn3, rn4, rn5, rn6, rn7, rn8, if_true, if_false, Nat.le_refl, true_and, and_true, decide_true, decide_false, Bool.not_true, Bool.not_false, reduceIte, Nat.reduceEqDiff, Nat.reduceAdd, Nat.reduceMul, Nat.reduceSub, Nat.reduceLeDiff, Nat.reduceLT, he, hx2.ld, Nat.zero_add, List.getElem?_cons_zero, List.getElem?_cons_succ, hw, and_self]
    · simp only [rn0, rn1, rn2, rn3, rn4, rn5, rn6, rn7, rn8, if_true, if_false, Nat.le_refl, true_and, and_true, decide_true, decide_false, Bool.not_true, Bool.not_false, reduceIte, Nat.reduceEqDiff, Nat.reduceAdd, Nat.reduceMul, Nat.reduceSub, Nat.reduceLeDiff, Nat.reduceLT, he, hx2.ld, Nat.zero_add, List.getElem?_cons_zero, List.getElem?_cons_succ, hw, and_false]
  · simp only [rn0, rn1, rn2, rn3, rn4, rn5, rn6, rn7, rn8, if_true, if_false, Nat.le_refl, true_and, and_true, decide_true, decide_false, Bool.not_true, Bool.not_false, reduceIte, Nat.reduceEqDiff, Nat.reduceAdd, Nat.reduceMul, Nat.reduceSub, Nat.reduceLeDiff, Nat.reduceLT, he, false_and]
end Go.Vm.Bt

namespace Go.Vm.Bt
open Go.Proofs Go.Vm.Vat Go.Vm.L2
set_option linter.unusedSimpArgs false
set_option linter.unusedVariables false
set_option maxRecDepth 10000
variable {n : Nat} {h : AHeap}
theorem quo8 {a b : Nat} (h : a < 65536) (hb : 0 < b) : IntKind.wrap .i64 ((a : Int).tdiv (b : Int)) = ((a / b : Nat) : Int) := by
  have e : (a : Int).tdiv (b : Int) = ((a / b : Nat) : Int) := rfl
  have hd := Nat.div_le_self a b
  rw [e, IntKind.wrap_i64]
  generalize a / b = dq at hd
  omega
theorem build_none4 : buildSl 4 0 [.int .i64 0, .int .i64 0, .int .i64 0, .int .i64 0] [] h [] = newSlice h [] 0 0 0 := id rfl
end Go.Vm.Bt

namespace Go.Vm.Bt
open Go.Proofs Go.Vm.Vat Go.Vm.L2
set_option linter.unusedSimpArgs false
set_option linter.unusedVariables false
set_option maxRecDepth 10000
variable {n : Nat} {h : AHeap}
def wrS (S : MB) (t : Nat → Int) (i : Nat) : Prop := ¬ RightS S t i
noncomputable def wrongL (S : MB) (t : Nat → Int) : List Int := pickL (wrS S t) S.ns
def allE (S : MB) : List (Nat → Int) := enumB (uLo S) (uHi S) (numU S) 0 fun _ => 0
noncomputable def allW (S : MB) : List (List Int) := (allE S).map (wrongL S)
noncomputable def wrongStep (S : MB) (s : List (List Int)) (c : Nat → Int) : List (List Int) × Bool := (s ++ [wrongL S c], true)
theorem runL_wrong {S : MB} : ∀ (l : List (Nat → Int)) (s : List (List Int)), runL (wrongStep S) s l = (s ++ l.map (wrongL S), true)
  | [], s => by simp [runL]
  | x :: l, s => by
    have e : runL (wrongStep S) s (x :: l) = runL (wrongStep S) (s ++ [wrongL S x]) l := rfl
    rw [e, runL_wrong l]; simp
def OwnB (h2 : AHeap) (p pw : Nat) (g : AHeap) (q : Nat) : Prop := (h2.next ≤ q ∨ q = pw) ∧ q ≠ p ∧ q ≠ h2.next + 1 ∧ ∀ v, g.get p = some (.row [v] true 0) → NeB v q
section
variable (u4 : Try.prog.underlying 4 = some .bool)
include u4
theorem isRight2_c (hn : 5 ≤ n) (hr : h.next + 5 < far) {S : MB} {u : Nat → Int} (hG : Good S) {k : Nat} (hk : k < S.ns) :
    ∃ r, (r = true ↔ RightS S u k) ∧ call n (.func (.func 112) #[] #[]) [.agg ⟨dn (doneS S u)⟩, .agg ⟨smL S k⟩] h = some (.bool r, h) := by
  obtain ⟨hvv, hsv, _⟩ := hG.samp hk
  refine ⟨decide (whenS u (S.sv k).toNat ≤ S.sh k) == S.sd k, beq_iff_eq, ?_⟩
  obtain ⟨n, rfl⟩ : ∃ p, n = p + 1 := ⟨n - 1, by omega⟩
  refine call_plain0 fok112 rfl rfl (by simp) rfl ?_
  have hr : h.shutAll.next + 5 < far := hr
  generalize h.shutAll = h at hr
  obtain ⟨_, _, z3, _⟩ := hG.sizes
  simp only [s112, W_seq, W_ops]
  refine ops_box (cs := dn (doneS S u)) (by omega) rfl dn_one fun g1 hx => ?_
  refine ops_box (cs := smL S k) (by rw [hx.next]; omega) rfl sm_one fun g2 hx2 => ?_
  have r1 := hx.row.mono hx2.sub
  have hi := idxArr_p (b := h.next) (o := 0) (show (S.sv k).toNat < 3 by omega)
  rw [hsv] at hi
  have hd : (dn (doneS S u))[(S.sv k).toNat]? = some (.int .i64 (whenS u (S.sv k).toNat)) := by rw [dn_get (by omega)]; simp [doneS, hvv]
  simp only [rn0, rn1, rn2, rn3, rn4, rn5, rn6, rn7, rn8, if_true, if_false, Nat.le_refl, true_and, and_true, decide_true, decide_false, Bool.not_true, Bool.not_false, reduceIte, Nat.reduceEqDiff, Nat.reduceAdd, Nat.reduceMul, Nat.reduceSub, Nat.reduceLeDiff, Nat.reduceLT]
  refine W_draw All ?_
  simp only [rn0, rn1, rn2, rn3, rn4, rn5, rn6, rn7, rn8, if_true, if_false, Nat.le_refl, true_and, and_true, decide_true, decide_false, Bool.not_true, Bool.not_false, reduceIte, Nat.reduceEqDiff, Nat.reduceAdd, Nat.reduceMul, Nat.reduceSub, Nat.reduceLeDiff, Nat.reduceLT, hx2.row.ld, smg, Nat.zero_add, hi, r1.ld, hd, eqV_int, eqV_bool, x_binA, binA_eqlB, p_eqlB u4, valN_tmp, Nat.reduceLT, rBB]
end
noncomputable def s100 : SCode := (.seq (.ops [⟨(some 1), none, .box (T 0)⟩, ⟨(some 2), none, .mov (.const (.slice none 0 0))⟩]) (.seq (.ops [⟨(some 3), none, .alloc [(.slice none 0 0)]⟩]) (.seq (.seq (.ops [⟨(some 9), none, .loadN 6 (T 1)⟩, ⟨(some 10), none, .call (.func 120) [(T 9)]⟩]) (.block 0 (.range (T 10) #[11] (rangeOf Try.f100 0).1 (rangeOf Try.f100 0).2))) (.seq (.ops [⟨(some 36), none, .load1 (T 3)⟩, ⟨(some 2), none, .mov (T 36)⟩]) .ret))))
theorem fok100 : FnOk Try.prog 100 37 s100 [.tmp 2] := ⟨Try.f100, _, Try.func100, rfl, Try.ntmps100, by kernel_rfl, by kernel_rfl⟩
def ra100_0 : SCode := (.ops [⟨(some 4), none, .alloc [(.int .i64 (0)), (.slice none 0 0)]⟩, ⟨none, none, .store 2 (T 4) (T 11)⟩])
theorem raok100_0 : compCode Try.prog 37 (rangeOf Try.f100 0).1 = some ra100_0 := by kernel_rfl
def rb100_0 : SCode := (.block 1 (.seq (.ops [⟨(some 5), none, .mov (.const (.slice none 0 0))⟩]) (.seq (.ops [⟨(some 12), none, .loadN 2 (T 4)⟩, ⟨(some 13), none, .call (.func 80) [(T 12)]⟩, ⟨(some 6), none, .alloc [(.int .i64 (0)), (.int .i64 (0)), (.int .i64 (0))]⟩, ⟨none, none, .store 3 (T 6) (T 13)⟩]) (.seq (.seq (.ops [⟨(some 14), none, .fieldAddr 0 (T 1)⟩, ⟨(some 15), none, .fieldAddr 4 (T 14)⟩, ⟨(some 16), none, .load1 (T 15)⟩, ⟨(some 17), none, .len (T 16)⟩, ⟨(some 18), none, .mov (.const (.int .i64 (0)))⟩]) (.block 2 (.loop (.seq (.ops [⟨(some 19), none, .int2 .lss (T 18) (T 17)⟩]) (.seq (.cond (T 19) .skip (.exit 2)) (.seq (.block 3 (.seq (.ops [⟨(some 20), none, .mov (T 18)⟩, ⟨(some 21), none, .idxSl 3 (T 16) (T 18)⟩, ⟨(some 22), none, .loadN 3 (T 21)⟩, ⟨(some 8), none, .alloc [(.int .i64 (0)), (.int .i64 (0)), (.bool false)]⟩, ⟨(some 7), none, .mov (T 20)⟩, ⟨none, none, .store 3 (T 8) (T 22)⟩]) (.seq (.ops [⟨(some 23), none, .loadN 3 (T 6)⟩, ⟨(some 24), none, .loadN 3 (T 8)⟩, ⟨(some 25), none, .call (.func 112) [(T 23), (T 24)]⟩, ⟨(some 26), none, .not (T 25)⟩]) (.cond (T 26) (.ops [⟨(some 27), none, .mov (T 5)⟩, ⟨(some 28), none, .mov (T 7)⟩, ⟨(some 29), none, .bslice 1 1 [(.int .i64 (0))] [0] [(T 28)]⟩, ⟨(some 30), none, .append 1 8 (T 27) (T 29)⟩, ⟨(some 5), none, .mov (T 30)⟩]) .skip)))) (.ops [⟨(some 31), none, .int2 .add (T 18) (.const (.int .i64 (1)))⟩, ⟨(some 18), none, .mov (T 31)⟩]))))))) (.ops [⟨(some 32), none, .load1 (T 3)⟩, ⟨(some 33), none, .mov (T 5)⟩, ⟨(some 34), none, .bslice 1 1 [(.slice none 0 0)] [0] [(T 33)]⟩, ⟨(some 35), none, .append 1 24 (T 32) (T 34)⟩, ⟨none, none, .store 1 (T 3) (T 35)⟩])))))
theorem rbok100_0 : compCode Try.prog 37 (rangeOf Try.f100 0).2 = some rb100_0 := by kernel_rfl
set_option maxHeartbeats 4000000 in
theorem wrongAll_c (hn : 500 ≤ n) (hr : h.next + 60000 < far) (hfl : h.floor ≤ h.next) {vv sv : Value} {S : MB} (hy : BeatR h vv sv S) (hG : Good S) :
    ∃ v h', call n (.func (.func 100) #[] #[]) [.agg ⟨wkL S vv sv nilS⟩] h = some (v, h') ∧ AllR h' v (allW S) ∧ oneCell v = true ∧ (∀ i, i < h.next → h'.get i = h.get i) ∧ h.next ≤ h'.next ∧ h'.next ≤ h.next + 50000 ∧ h'.floor = h.floor := by
  obtain ⟨n, rfl⟩ : ∃ p, n = p + 1 := ⟨n - 1, by omega⟩
  refine call_any0 fok100 rfl rfl (by simp) ?_
  have hlenE := enum_len hG
  have u4 : Try.prog.underlying 4 = some .bool := Try.underlying4
  obtain ⟨_, _, z3, z5, _⟩ := hG.sizes
  simp only [s100, W_seq, W_ops]
  refine ops_box (cs := wkL S vv sv nilS) (by omega) rfl (wk_one hy rfl) fun g1 hx1 => ?_
  have n1 := hx1.next
  have f1 := hx1.floor
  have e1 : g1.next = h.next + 1 := n1
  simp only [rn0, rn1, rn2, rn3, rn4, rn5, rn6, rn7, rn8, if_true, if_false, Nat.le_refl, true_and, and_true, decide_true, decide_false, Bool.not_true, Bool.not_false, reduceIte, Nat.reduceEqDiff, Nat.reduceAdd, Nat.reduceMul, Nat.reduceSub, Nat.reduceLeDiff, Nat.reduceLT]
  refine step_row (cs := [nilS]) (by omega) rfl rfl fun g2 hx2 => ?_
  have n2 := hx2.next
  have f2 := hx2.floor
  have e2 : g2.next = h.next + 2 := by omega
  have w2 := (hx1.row.mono hx2.sub).whole (n := 6) rfl
  have old2 : ∀ i, i < h.next → g2.get i = h.get i := fun i hi => by rw [hx2.old i (by omega), hx1.old i hi]
  obtain ⟨g4, e4, hx4⟩ := courses_c (n := n) (h := g2) (cs := wkL S vv sv nilS) (by omega) (by omega) (wk_one hy rfl) rfl
  have n4 := hx4.next
  have f4 := hx4.floor
  rw [e1]
  simp only [rn0, rn1, rn2, rn3, rn4, rn5, rn6, rn7, rn8, if_true, if_false, Nat.le_refl, true_and, and_true, decide_true, decide_false, Bool.not_true, Bool.not_false, reduceIte, Nat.reduceEqDiff, Nat.reduceAdd, Nat.reduceMul, Nat.reduceSub, Nat.reduceLeDiff, Nat.reduceLT, w2, e4]
  refine W_range' rfl (by omega) (by simp only [rn0, rn1, rn2, rn3, rn4, rn5, rn6, rn7, rn8, if_true, if_false, Nat.le_refl, true_and, and_true, decide_true, decide_false, Bool.not_true, Bool.not_false, reduceIte, Nat.reduceEqDiff, Nat.reduceAdd, Nat.reduceMul, Nat.reduceSub, Nat.reduceLeDiff, Nat.reduceLT]; rfl) fun f0 hf0 ts hv h2 hl => ?_
  have c1 : f0 1 = .pointer (some ⟨h.next, 0, none⟩) := by rw [hf0]; simp only [rn0, rn1, rn2, rn3, rn4, rn5, rn6, rn7, rn8, if_true, if_false, Nat.le_refl, true_and, and_true, decide_true, decide_false, Bool.not_true, Bool.not_false, reduceIte, Nat.reduceEqDiff, Nat.reduceAdd, Nat.reduceMul, Nat.reduceSub, Nat.reduceLeDiff, Nat.reduceLT]
  have c3 : f0 3 = .pointer (some ⟨h.next + 1, 0, none⟩) := by rw [hf0]; simp only [rn0, rn1, rn2, rn3, rn4, rn5, rn6, rn7, rn8, if_true, if_false, Nat.le_refl, true_and, and_true, decide_true, decide_false, Bool.not_true, Bool.not_false, reduceIte, Nat.reduceEqDiff, Nat.reduceAdd, Nat.reduceMul, Nat.reduceSub, Nat.reduceLeDiff, Nat.reduceLT]
  clear hf0
  have nl := hl.next
  have fl := hl.floor
  have en : g4.next = h.next + 3 := by omega
  have hbase : ∀ i, i < h.next → h2.get i = h.get i := fun i hi => by rw [hl.old i (by omega), hx4.old i (by omega), old2 i hi]
  have hp2 : h2.get (h.next + 1) = some (.row [nilS] true 0) := by
    rw [hl.old _ (by omega), hx4.old _ (by omega)]; have := hx2.get; rw [e1] at this; exact this
  have hw2 : h2.get h.next = some (.row (wkL S vv sv nilS) true 0) := by
    rw [hl.old _ (by omega), hx4.old _ (by omega), hx2.old _ (by omega)]; exact hx1.get
  have hpw : Row h2 (h.next + 2) (wkL S vv sv nilS) := by
    have := hx4.row.mono hl.sub
    rw [e2] at this
    exact this
  have hloop := hl.loop
  have hmark := hl.mark
  rw [en] at hloop hmark
  rw [en]
  rw [en] at hl
  generalize hr0 : loopO _ ts _ _ _ _ = r at hloop ⊢
  have r1 : r.state = .ready := by rw [← hr0]; rfl
  have r2 : View 37 r.tmps f0 := by rw [← hr0]; exact hv
  have r3 : r.params = #[11] := by rw [← hr0]; rfl
  have r4 : compCode Try.prog 37 r.assign = some ra100_0 := by rw [← hr0]; exact raok100_0
  have r5 : compCode Try.prog 37 r.body = some rb100_0 := by rw [← hr0]; exact rbok100_0
  have r6 : leftBy r .norm = r := by rw [← hr0]; rfl
  clear hr0 hl hv
  have en2 : h2.next = h.next + 5 := by omega
  have hit := iter_c (Own := OwnB h2 (h.next + 1) (h.next + 2)) (wrongStep S) (JW h2 (h.next + 1)) (g := h2) (pw := h.next + 2) (K := 210) (N0 := 300) (n := n) (tv := nilS) (yv := .func (.yield (h.next + 4)) #[] #[]) [] hG hpw rfl (by simp [eqV, eqCell]) (by omega) (by omega) (by omega)
    (fun g' q hq => hq.2.2.1)
    (fun s g' hj => hy.mono (AHeap.subOf fun i hi => by rw [hj.old i (by omega) (by omega), hbase i hi]))
    (fun s g1 g' cs hj hs => by
      obtain ⟨v, R, t1, t2⟩ := hj.tv
      have hnx := hs.next
      exact ⟨fun i hi hne => by rw [hs.old i (by omega)]; exact hj.old i hi hne, ⟨v, R, by rw [hs.old _ (by omega)]; exact t1, t2.old (fun i hi _ => hs.old i (by omega)) (by omega)⟩, by have := hj.up; omega, by have := hj.len; omega⟩)
    (fun s g1 g' hj hx => by
      obtain ⟨v, R, t1, t2⟩ := hj.tv
      have := hj.up
      have hnx := hx.up
      exact ⟨fun i hi hne => by rw [hx.old i (by omega)]; exact hj.old i hi hne, ⟨v, R, by rw [hx.old _ (by omega)]; exact t1, t2.old (fun i hi h => hx.old i h) (by omega)⟩, by omega, by have := hj.len; omega⟩)
    (fun s g1 g' cs q hj hs ho => ⟨ho.1, ho.2.1, ho.2.2.1, fun v e => ho.2.2.2 v (by rw [← hs.old _ (by omega)]; exact e)⟩)
    (fun s g1 g' q hj hx ho => ⟨ho.1, ho.2.1, ho.2.2.1, fun v e => ho.2.2.2 v (by rw [← hx.old _ (by have := hj.up; omega)]; exact e)⟩)
    (fun g' ho hfg hup => ⟨⟨fun i hi _ => ho i hi, ⟨nilS, _, by rw [ho _ (by omega)]; exact hp2, .nil⟩, by omega, Nat.zero_le _⟩, ⟨.inr rfl, by omega, by omega, fun v e => by
      rw [ho _ (by omega), hp2] at e
      simp only [Option.some.injEq, AObj.row.injEq, and_true, List.cons.injEq] at e
      subst e
      intro b m c e'
      cases e'⟩, fun q hq _ hne => ⟨.inl hq, by omega, hne, fun v e => by
      rw [ho _ (by omega), hp2] at e
      simp only [Option.some.injEq, AObj.row.injEq, and_true, List.cons.injEq] at e
      subst e
      intro b m c e'
      cases e'⟩⟩)
    (fun m g1 s c cw pn py pc hm it hb hok hj hcw how hfg hr1 => by
      obtain ⟨m, rfl⟩ : ∃ p, m = p + 1 := ⟨m - 1, by omega⟩
      rw [call_yield]
      obtain ⟨v, R, hp, gr⟩ := hj.tv
      have hup := hj.up
      have hlen := hj.len
      have hloop1 : g1.get (h.next + 4) = some (.loop r) := by rw [hj.old _ (by omega) (by omega)]; exact hloop
      have hpb := AHeap.lt_of_get hb
      suffices key : ∃ e g', roundA Try.prog (call m) m (h.next + 4) [.agg ⟨coL (c 0) cw⟩] g1 = some (.bool (goesOn e), g') ∧ (e = .norm ∧ JW h2 (h.next + 1) (wrongStep S s c).1 g' ∧ (∀ q, q ≠ h.next + 1 → q ≠ h.next + 4 → q < g1.next → NeB v q → g'.get q = g1.get q) ∧ (∃ v', g'.get (h.next + 1) = some (.row [v'] true 0) ∧ ∀ q, q < g1.next → NeB v q → NeB v' q) ∧ g'.floor = h2.floor ∧ g1.next ≤ g'.next ∧ g'.next ≤ g1.next + 200) by
        obtain ⟨e, g', k1, rfl, k2, k3, ⟨v', k4, k5⟩, k6, k7, k8⟩ := key
        refine ⟨g', k1, k2, fun q cs hq ho => ?_, by rw [k3 _ (by omega) (by omega) hpb (neB_of gr.c (by left; omega))]; exact hb, k6, k7, by omega⟩
        obtain ⟨o1, o2, o3, o4⟩ := ho
        have hlt : q < g1.next := by obtain ⟨w, gr, e⟩ := hq; exact AHeap.lt_of_get e
        have hne := o4 v hp
        refine ⟨by obtain ⟨w, gr, e⟩ := hq; exact ⟨w, gr, by rw [k3 q o2 (by omega) hlt hne]; exact e⟩, o1, o2, o3, fun v2 e => ?_⟩
        rw [k4] at e
        simp only [Option.some.injEq, AObj.row.injEq, and_true, List.cons.injEq] at e
        subst e
        exact k5 q hlt hne
      refine round_run (f := f0) hloop1 r1 r2 (by rw [r3]; rfl) (by omega) r4 r5 ?_
      have hset : setFr f0 r.params.toList [.agg ⟨coL (c 0) cw⟩] = upd f0 11 (.agg ⟨coL (c 0) cw⟩) := by rw [r3]; rfl
      rw [hset]
      simp only [rn0, rn1, rn2, rn3, rn4, rn5, rn6, rn7, rn8, if_true, if_false, Nat.le_refl, true_and, and_true, decide_true, decide_false, Bool.not_true, Bool.not_false, reduceIte, Nat.reduceEqDiff, Nat.reduceAdd, Nat.reduceMul, Nat.reduceSub, Nat.reduceLeDiff, Nat.reduceLT, ra100_0]
      refine step_new (vs := coL (c 0) cw) (by omega) (by omega) rfl (by simp only [rn0, rn1, rn2, rn3, rn4, rn5, rn6, rn7, rn8, if_true, if_false, Nat.le_refl, true_and, and_true, decide_true, decide_false, Bool.not_true, Bool.not_false, reduceIte, Nat.reduceEqDiff, Nat.reduceAdd, Nat.reduceMul, Nat.reduceSub, Nat.reduceLeDiff, Nat.reduceLT]; rfl) (by simp [coL, allB, one_int, how]) rfl rfl fun g2 hx2 => ?_
      have n2 := hx2.next
      have f2 := hx2.floor
      simp only [rn0, rn1, rn2, rn3, rn4, rn5, rn6, rn7, rn8, if_true, if_false, Nat.le_refl, true_and, and_true, decide_true, decide_false, Bool.not_true, Bool.not_false, reduceIte, Nat.reduceEqDiff, Nat.reduceAdd, Nat.reduceMul, Nat.reduceSub, Nat.reduceLeDiff, Nat.reduceLT]
      refine ⟨by rw [hx2.old _ (by omega)]; exact hloop1, by omega, fun g3 hp3 => ?_⟩
      have n3 := hp3.next
      have f3 := hp3.floor
      have g3old : ∀ i, i < g1.next → i ≠ h.next + 4 → g3.get i = g1.get i := fun i hi hne => by rw [hp3.old i hne, hx2.old i hi]
      have g3b : ∀ i, i < h.next → g3.get i = h.get i := fun i hi => by rw [g3old i (by omega) (by omega), hj.old i (by omega) (by omega), hbase i hi]
      have hy3 := hy.mono (AHeap.subOf g3b)
      have hp3' : g3.get (h.next + 1) = some (.row [v] true 0) := by rw [g3old _ (by omega) (by omega)]; exact hp
      have rw3 : Row g3 h.next (wkL S vv sv nilS) := ⟨true, 0, by rw [g3old _ (by omega) (by omega), hj.old _ (by omega) (by omega)]; exact hw2⟩
      have rc3 : Row g3 g1.next (coL (c 0) cw) := by
        obtain ⟨w, gr, e⟩ := hx2.row
        exact ⟨w, gr, by rw [hp3.old _ (by omega)]; exact e⟩
      have hcu : InU S c := fun i hi => hok.1 i hi
      have l3 : g3.get (h.next + 4) = some (.loop { r with state := .busy }) := hp3.get
      have hcw3 : CouR g3 cw S c := by
        obtain ⟨a', cap', e', sp, hz | ⟨b, o, cs, w, gr', e2', e3', e4'⟩⟩ := hcw
        · exact ⟨a', cap', e', sp, .inl hz⟩
        · refine ⟨a', cap', e', sp, .inr ⟨b, o, cs, w, gr', e2', ?_, e4'⟩⟩
          rw [g3old b (AHeap.lt_of_get e3') (by rintro rfl; rw [hloop1] at e3'; cases e3')]
          exact e3'
      have edn := done_c (n := m) (h := g3) (by omega) (by omega) hcw3 hG hcu
      simp only [rn0, rn1, rn2, rn3, rn4, rn5, rn6, rn7, rn8, if_true, if_false, Nat.le_refl, true_and, and_true, decide_true, decide_false, Bool.not_true, Bool.not_false, reduceIte, Nat.reduceEqDiff, Nat.reduceAdd, Nat.reduceMul, Nat.reduceSub, Nat.reduceLeDiff, Nat.reduceLT, rb100_0, c1, c3, rc3.whole (n := 2) rfl, edn]
      refine step_new (vs := dn (doneS S c)) (by omega) (by omega) rfl (by simp only [rn0, rn1, rn2, rn3, rn4, rn5, rn6, rn7, rn8, if_true, if_false, Nat.le_refl, true_and, and_true, decide_true, decide_false, Bool.not_true, Bool.not_false, reduceIte, Nat.reduceEqDiff, Nat.reduceAdd, Nat.reduceMul, Nat.reduceSub, Nat.reduceLeDiff, Nat.reduceLT]; rfl) dn_one dn_len rfl fun g4 hx4 => ?_
      have n4 := hx4.next
      have f4 := hx4.floor
      have rw4 := rw3.mono hx4.sub
      have hy4 := hy3.mono hx4.sub
      have rd4 := hx4.row
      simp only [rn0, rn1, rn2, rn3, rn4, rn5, rn6, rn7, rn8, if_true, if_false, Nat.le_refl, true_and, and_true, decide_true, decide_false, Bool.not_true, Bool.not_false, reduceIte, Nat.reduceEqDiff, Nat.reduceAdd, Nat.reduceMul, Nat.reduceSub, Nat.reduceLeDiff, Nat.reduceLT, c1, c3, rw4.ld, wkg, Nat.zero_add, Nat.add_zero, Cells.len hy4.s]
      refine W_loop S.ns (fun k f g ms => (∃ x, (∀ i, i < g4.next → g.get i = g4.get i) ∧ g.floor = g4.floor ∧ g4.next ≤ g.next ∧ g.next ≤ g4.next + 3 * k ∧ GrowC g4.next g x 1 (pickL (wrS S c) k).length (fun i _ => .int .i64 (atL (pickL (wrS S c) k) i)) ∧ f 5 = x) ∧ ms = [] ∧ f 1 = .pointer (some ⟨h.next, 0, none⟩) ∧ f 3 = .pointer (some ⟨h.next + 1, 0, none⟩) ∧ f 4 = .pointer (some ⟨g1.next, 0, none⟩) ∧ f 6 = .pointer (some ⟨g3.next, 0, none⟩) ∧ f 16 = sv ∧ f 17 = .int .i64 (S.ns : Int) ∧ f 18 = .int .i64 (k : Int)) (by simp; omega) ?_ ?_ ?_
      · simp only [rn0, rn1, rn2, rn3, rn4, rn5, rn6, rn7, rn8, if_true, if_false, Nat.le_refl, true_and, and_true, decide_true, decide_false, Bool.not_true, Bool.not_false, reduceIte, Nat.reduceEqDiff, Nat.reduceAdd, Nat.reduceMul, Nat.reduceSub, Nat.reduceLeDiff, Nat.reduceLT, c1, c3, Int.natCast_zero]
        first | exact ⟨⟨nilS, fun _ _ => trivial, by omega, .nil, rfl⟩, rfl⟩ | exact ⟨⟨nilS, fun _ _ => rfl, rfl, by omega, by omega, .nil, rfl⟩, rfl⟩ | exact ⟨nilS, fun _ _ => trivial, by omega, .nil, rfl⟩ | exact ⟨nilS, fun _ _ => trivial, .nil, rfl⟩
      · rintro k f g ms hk ⟨⟨x, ho, hfg', hup', hnx, gv, p5⟩, rfl, p1, p3, p4, p6, p16, p17, p18⟩
        have hk' : (k : Int) < (S.ns : Int) := by omega
        have hw : wrapF .i64 ((k : Int) + 1) = ((k + 1 : Nat) : Int) := by rw [wrap_in (by omega) (by omega)]; rfl
        have sg : Sub All g4 g := AHeap.subOf ho
        have hyg := hy4.mono sg
        have hlk := pick_len (p := wrS S c) k
        simp only [rn0, rn1, rn2, rn3, rn4, rn5, rn6, rn7, rn8, if_true, if_false, Nat.le_refl, true_and, and_true, decide_true, decide_false, Bool.not_true, Bool.not_false, reduceIte, Nat.reduceEqDiff, Nat.reduceAdd, Nat.reduceMul, Nat.reduceSub, Nat.reduceLeDiff, Nat.reduceLT, p1, p3, p4, p5, p6, p16, p17, p18, hk', Cells.idx hyg.s hk, samp_ld hyg hk]
        refine step_row (cs := [.int .i64 0, .int .i64 0, .bool false]) (by omega) rfl rfl fun ga hxa => ?_
        have na := hxa.next
        have fa := hxa.floor
        simp only [rn0, rn1, rn2, rn3, rn4, rn5, rn6, rn7, rn8, if_true, if_false, Nat.le_refl, true_and, and_true, decide_true, decide_false, Bool.not_true, Bool.not_false, reduceIte, Nat.reduceEqDiff, Nat.reduceAdd, Nat.reduceMul, Nat.reduceSub, Nat.reduceLeDiff, Nat.reduceLT, p1, p3, p4, p5, p6, p16, p17, p18]
        refine step_store (b := g.next) (off := 0) (vs := smL S k) rfl hxa.get (by omega) (by omega) rfl rfl rfl (by simp) fun gb hsb => ?_
        rw [splice_all (by rfl)] at hsb
        have nb := hsb.next
        have fb := hsb.floor
        have oldb : ∀ i, i < g.next → gb.get i = g.get i := fun i hi => by rw [hsb.old i (by omega), hxa.old i hi]
        have subb : Sub All g gb := AHeap.subOf oldb
        have rdb := (rd4.mono sg).mono subb
        obtain ⟨ri, hri, ei⟩ := isRight2_c u4 (n := m) (h := gb) (u := c) (k := k) (by omega) (by omega) hG hk
        have gvb : GrowC g4.next gb x 1 (pickL (wrS S c) k).length (fun i _ => .int .i64 (atL (pickL (wrS S c) k) i)) := GrowC.at' gv fun a k c e => oldb _ (gv.block e).2
        by_cases hR : RightS S c k
        · have hp0 : pickL (wrS S c) (k + 1) = pickL (wrS S c) k := pick_no fun q => q hR
          simp only [rn0, rn1, rn2, rn3, rn4, rn5, rn6, rn7, rn8, if_true, if_false, Nat.le_refl, true_and, and_true, decide_true, decide_false, Bool.not_true, Bool.not_false, reduceIte, Nat.reduceEqDiff, Nat.reduceAdd, Nat.reduceMul, Nat.reduceSub, Nat.reduceLeDiff, Nat.reduceLT, p1, p3, p4, p5, p6, p16, p17, p18, rdb.whole (n := 3) dn_len, hsb.row.whole (n := 3) rfl, ei, hri.2 hR, hw]
          rw [hp0]
          have hfin := And.intro (fun i (hi : i < g4.next) => (by rw [oldb i (by omega), ho i hi] : gb.get i = g4.get i)) (And.intro (by omega : gb.floor = g4.floor) (And.intro (by omega : g4.next ≤ gb.next) (And.intro (by omega : gb.next ≤ g4.next + 3 * (k + 1)) (And.intro gvb (rfl : x = x)))))
          first | exact ⟨x, hfin⟩ | exact ⟨⟨x, hfin⟩, rfl⟩
        · have hp1 : pickL (wrS S c) (k + 1) = pickL (wrS S c) k ++ [(k : Int)] := pick_yes hR
          have hrf : ri = false := Bool.eq_false_iff.2 fun q => hR (hri.1 q)
          simp only [rn0, rn1, rn2, rn3, rn4, rn5, rn6, rn7, rn8, if_true, if_false, Nat.le_refl, true_and, and_true, decide_true, decide_false, Bool.not_true, Bool.not_false, reduceIte, Nat.reduceEqDiff, Nat.reduceAdd, Nat.reduceMul, Nat.reduceSub, Nat.reduceLeDiff, Nat.reduceLT, p1, p3, p4, p5, p6, p16, p17, p18, rdb.whole (n := 3) dn_len, hsb.row.whole (n := 3) rfl, ei, hrf, sl_int]
          refine step_slice (by omega) rfl fun gc hxc => ?_
          have nc := hxc.next
          have fc := hxc.floor
          have gvc : GrowC g4.next gc x 1 (pickL (wrS S c) k).length (fun i _ => .int .i64 (atL (pickL (wrS S c) (k + 1)) i)) := (gvb.sub hxc.sub).congr fun i j hi hj => by rw [hp1, at_append hi]
          obtain ⟨x', gd, ed, evd, gvd, hkd⟩ := gvc.append (bytes := 8) (cap := 1) (by omega) (by omega) (by omega) hxc.get rfl rfl (fun j hj => by
            obtain rfl : j = 0 := by omega
            rw [hp1, at_last]; rfl) (by simp [maxBytes]; omega) (by simp [maxBytes]; omega)
          have nd := hkd.next
          have fd := hkd.floor
          have hlen1 : (pickL (wrS S c) (k + 1)).length = (pickL (wrS S c) k).length + 1 := by rw [hp1, List.length_append, List.length_singleton]
          simp only [rn0, rn1, rn2, rn3, rn4, rn5, rn6, rn7, rn8, if_true, if_false, Nat.le_refl, true_and, and_true, decide_true, decide_false, Bool.not_true, Bool.not_false, reduceIte, Nat.reduceEqDiff, Nat.reduceAdd, Nat.reduceMul, Nat.reduceSub, Nat.reduceLeDiff, Nat.reduceLT, p1, p3, p4, p5, p6, p16, p17, p18, ed, hw]
          rw [hlen1]
          have hfin := And.intro (fun i (hi : i < g4.next) => (by rw [hkd.old i (by omega) fun bb kk qq e => by have := (gvc.block e).1; omega, hxc.old i (by omega), oldb i (by omega), ho i hi] : gd.get i = g4.get i)) (And.intro (by omega : gd.floor = g4.floor) (And.intro (by omega : g4.next ≤ gd.next) (And.intro (by omega : gd.next ≤ g4.next + 3 * (k + 1)) (And.intro gvd (rfl : x' = x')))))
          first | exact ⟨x', hfin⟩ | exact ⟨⟨x', hfin⟩, rfl⟩
      · rintro f g ms ⟨⟨x, ho, hfg', hup', hnx, gv, p5⟩, rfl, p1, p3, p4, p6, p16, p17, p18⟩
        have hq3 : g.get (h.next + 1) = some (.row [v] true 0) := by rw [ho _ (by omega), hx4.old _ (by omega)]; exact hp3'
        have rq3 : Row g (h.next + 1) [v] := ⟨_, _, hq3⟩
        have lg : g.get (h.next + 4) = some (.loop { r with state := .busy }) := by rw [ho _ (by omega), hx4.old _ (by omega)]; exact l3
        have xone := gv.one
        have wrg : WrG (h2.next + 2) g v s R := gr.old (fun i h1 h2 => by rw [ho i (by omega), hx4.old i (by omega), g3old i h2 (by omega)]) (by omega)
        simp only [rn0, rn1, rn2, rn3, rn4, rn5, rn6, rn7, rn8, if_true, if_false, Nat.le_refl, true_and, and_true, decide_true, decide_false, Bool.not_true, Bool.not_false, reduceIte, Nat.reduceEqDiff, Nat.reduceAdd, Nat.reduceMul, Nat.reduceSub, Nat.reduceLeDiff, Nat.reduceLT, p1, p3, p4, p5, p6, p16, p17, p18, Int.lt_irrefl, rq3.ld, Nat.zero_add, List.getElem?_cons_zero, sl_list xone]
        refine step_slice (by omega) (by simp [allB, xone]) fun ga hxa => ?_
        have na := hxa.next
        have fa := hxa.floor
        obtain ⟨v', gb, eb, wrb, ob, evb, nb, fb, oldb⟩ := wrg.push (w := wrongL S c) (by omega) (by omega) (by omega) hxa gv.cells xone (fun y k q e => by
          have := gv.block e
          exact ⟨by omega, by omega, neB_of gr.c (by right; omega)⟩) (by have := hj.len; omega)
        have neP : NeB v (h.next + 1) := neB_of gr.c (by left; omega)
        have neL : NeB v (h.next + 4) := neB_of gr.c (by left; omega)
        simp only [rn0, rn1, rn2, rn3, rn4, rn5, rn6, rn7, rn8, if_true, if_false, Nat.le_refl, true_and, and_true, decide_true, decide_false, Bool.not_true, Bool.not_false, reduceIte, Nat.reduceEqDiff, Nat.reduceAdd, Nat.reduceMul, Nat.reduceSub, Nat.reduceLeDiff, Nat.reduceLT, p1, p3, p4, p5, p6, p16, p17, p18, eb]
        refine step_store (b := h.next + 1) (off := 0) (vs := [v']) (by rfl) (by rw [oldb _ (by omega) neP]; exact hq3) (by omega) (by omega) (by rw [evb]; rfl) (by rw [evb]; rfl) rfl (by simp) fun g6 hs6 => ?_
        rw [splice1] at hs6
        have n6 := hs6.next
        have f6 := hs6.floor
        simp only [rn0, rn1, rn2, rn3, rn4, rn5, rn6, rn7, rn8, if_true, if_false, Nat.le_refl, true_and, and_true, decide_true, decide_false, Bool.not_true, Bool.not_false, reduceIte, Nat.reduceEqDiff, Nat.reduceAdd, Nat.reduceMul, Nat.reduceSub, Nat.reduceLeDiff, Nat.reduceLT]
        refine ⟨by rw [hs6.old _ (by omega), oldb _ (by omega) neL]; exact lg, by omega, by omega, fun g7 hp7 => ⟨?_, ?_, ?_, by rw [hp7.floor]; omega, by rw [hp7.next]; omega, by rw [hp7.next]; omega⟩⟩
        · have n7 := hp7.next
          have hst : (wrongStep S s c).1 = s ++ [wrongL S c] := rfl
          rw [hst]
          have old6 : ∀ i, i < g1.next → i ≠ h.next + 1 → i ≠ h.next + 4 → NeB v i → g6.get i = g1.get i := fun i hi a1 a2 hne => by rw [hs6.old i a1, oldb i (by omega) hne, ho i (by omega), hx4.old i (by omega), g3old i hi a2]
          refine ⟨fun i hi hne => ?_, ⟨v', _, ?_, wrb.old (fun i h1 h2 => by rw [hp7.old i (by omega), hs6.old i (by omega)]) (by omega)⟩, by omega, by rw [List.length_append, List.length_singleton]; omega⟩
          · by_cases e : i = h.next + 4
            · subst e; rw [hp7.get, r6, ← hj.old _ hi hne]; exact hloop1.symm
            · rw [hp7.old i e, old6 i (by omega) hne e (neB_of gr.c (by left; omega))]; exact hj.old i hi hne
          · rw [hp7.old _ (by omega)]; exact hs6.get
        · intro i hi1 hi4 hlt hne
          rw [hp7.old i hi4, hs6.old i hi1, oldb i (by omega) hne, ho i (by omega), hx4.old i (by omega), g3old i hlt hi4]
        · refine ⟨v', by rw [hp7.old _ (by omega)]; exact hs6.get, fun q hq _ b m c' e => ?_⟩
          rw [evb] at e
          cases e
          show q ≠ g.next + 1
          omega)
    (by omega)
  obtain ⟨v5, g5, e5, j5, fl5, u5, n5⟩ := hit
  rw [runL_wrong] at j5
  simp only [List.nil_append] at j5
  change JW h2 (h.next + 1) (allW S) g5 at j5
  obtain ⟨v, R, t1, t2⟩ := j5.tv
  have hup := j5.up
  refine ⟨v5, g5, .norm, by rw [e2]; exact e5, by omega, by omega, by rw [r6, j5.old _ (by omega) (by omega)]; exact hloop, fun g6 hp6 => ?_⟩
  have n6 := hp6.next
  have f6 := hp6.floor
  have t6 : Row g6 (h.next + 1) [v] := ⟨true, 0, by rw [hp6.old _ (by omega)]; exact t1⟩
  have m6 : g6.get (h.next + 3) = some .deferred := by rw [hp6.old _ (by omega), j5.old _ (by omega) (by omega)]; exact hmark
  simp only [rn0, rn1, rn2, rn3, rn4, rn5, rn6, rn7, rn8, if_true, if_false, Nat.le_refl, true_and, and_true, decide_true, decide_false, Bool.not_true, Bool.not_false, reduceIte, Nat.reduceEqDiff, Nat.reduceAdd, Nat.reduceMul, Nat.reduceSub, Nat.reduceLeDiff, Nat.reduceLT, c3, t6.ld, Nat.zero_add, List.getElem?_cons_zero]
  refine ret_mark (.inr rfl) m6 (by omega) (by omega) fun g8 hp8 => ?_
  have n8 := hp8.next
  have f8 := hp8.floor
  have t8 : WrG (h2.next + 2) g8 v (allW S) R := t2.old (fun i h1 h2 => by rw [hp8.old i (by omega), hp6.old i (by omega)]) (by omega)
  simp only [rn0, rn1, rn2, rn3, rn4, rn5, rn6, rn7, rn8, if_true, if_false, Nat.le_refl, true_and, and_true, decide_true, decide_false, Bool.not_true, Bool.not_false, reduceIte, Nat.reduceEqDiff, Nat.reduceAdd, Nat.reduceMul, Nat.reduceSub, Nat.reduceLeDiff, Nat.reduceLT]
  refine ⟨⟨R, t8.c.cells, fun k hk => (t8.r k hk).1⟩, t8.c.one, fun i hi => ?_, by omega, by omega, by omega⟩
  rw [hp8.old i (by omega), hp6.old i (by omega), j5.old i (by omega) (by omega), hbase i hi]
end Go.Vm.Bt

namespace Go.Vm.Bt
open Go.Proofs Go.Vm.Vat Go.Vm.L2
set_option linter.unusedSimpArgs false
set_option linter.unusedVariables false
set_option maxRecDepth 10000
variable {n : Nat} {h : AHeap}
theorem allE_mem {S : MB} {c : Nat → Int} : c ∈ allE S ↔ InU S c ∧ ∀ j, numU S ≤ j → c j = 0 := by
  unfold allE
  rw [enumB_ok, Nat.zero_add]
  constructor
  · rintro ⟨h1, h2⟩; exact ⟨fun i hi => h1 i (Nat.zero_le _) hi, fun j hj => h2 j (.inr hj)⟩
  · rintro ⟨h1, h2⟩; exact ⟨fun i _ hi => h1 i hi, fun j hj => h2 j (by omega)⟩
theorem allE_ne {S : MB} (hG : Good S) : allE S ≠ [] := fun e => by
  have : nthU S 0 ∈ allE S := allE_mem.2 ⟨nthU_in hG, fun j hj => nthU_out hj⟩
  rw [e] at this; cases this
def blkS (S : MB) (k : Nat) : Prop := ∀ t, t ∈ allE S → ∃ i, i ≤ k ∧ i < S.ns ∧ wrS S t i
noncomputable def firstF (S : MB) : Option Nat := fstP (blkS S) S.ns
noncomputable def firstV (S : MB) : Int := if faultS S = 0 then optI (firstF S) 0 else 0
noncomputable def firstE (S : MB) : Int := if faultS S = 0 then (if firstF S = none then 7 else 0) else faultS S
theorem allW_at {S : MB} {j : Nat} (hj : j < (allW S).length) : ∃ t, t ∈ allE S ∧ (allW S).getD j [] = wrongL S t := by
  have hm : (allW S).getD j [] ∈ allW S := by
    rw [List.getD_eq_getElem?_getD, List.getElem?_eq_getElem hj]
    exact List.getElem_mem hj
  obtain ⟨t, ht, e⟩ := List.mem_map.1 hm
  exact ⟨t, ht, e.symm⟩
theorem allW_of {S : MB} {t : Nat → Int} (ht : t ∈ allE S) : ∃ j, j < (allW S).length ∧ (allW S).getD j [] = wrongL S t := by
  have hm : wrongL S t ∈ allW S := List.mem_map.2 ⟨t, ht, rfl⟩
  obtain ⟨j, hj, e⟩ := List.getElem_of_mem hm
  exact ⟨j, hj, by rw [List.getD_eq_getElem?_getD, List.getElem?_eq_getElem hj]; exact e⟩
theorem first_none {S : MB} {j : Nat} (hj : j < (allW S).length) (h0 : (allW S).getD j [] = []) : firstF S = none := by
  obtain ⟨t, ht, e⟩ := allW_at hj
  rw [h0] at e
  refine fstP_none.2 fun k hk hb => ?_
  obtain ⟨i, _, i2, i3⟩ := hb t ht
  obtain ⟨q, q1, _⟩ := pick_has (p := wrS S t) i2 i3
  have q1 : q < (wrongL S t).length := q1
  rw [← e] at q1
  exact absurd q1 (Nat.not_lt_zero _)
theorem first_some {S : MB} (hG : Good S) (hn : ∀ j, j < (allW S).length → (allW S).getD j [] ≠ []) : ∃ N : Nat, firstF S = some N ∧ headM (allW S) (allW S).length = (N : Int) := by
  have hpos : 0 < (allW S).length := by
    unfold allW
    rw [List.length_map]
    exact List.length_pos_iff.2 (allE_ne hG)
  have hhead : ∀ j, j < (allW S).length → ∃ t, t ∈ allE S ∧ ∃ x : Nat, x < S.ns ∧ atL ((allW S).getD j []) 0 = (x : Int) ∧ wrS S t x ∧ ∀ i, i < x → ¬ wrS S t i := fun j hj => by
    obtain ⟨t, ht, e⟩ := allW_at hj
    have hne := hn j hj
    rw [e] at hne
    obtain ⟨x, x1, x2, x3, x4⟩ := pick_head hne
    exact ⟨t, ht, x, x1, by rw [e]; exact x2, x3, x4⟩
  obtain ⟨N, hN, j0, hj0, hN0⟩ : ∃ N : Nat, headM (allW S) (allW S).length = (N : Int) ∧ ∃ j, j < (allW S).length ∧ atL ((allW S).getD j []) 0 = (N : Int) := by
    rcases headM_at (L := allW S) (j := (allW S).length) with q | ⟨j, j1, j2⟩
    · obtain ⟨t, _, x, x1, x2, _⟩ := hhead 0 hpos
      have := headM_le (L := allW S) hpos
      exact ⟨0, q, 0, hpos, by omega⟩
    · obtain ⟨t, _, x, x1, x2, _⟩ := hhead j j1
      exact ⟨x, by rw [j2, x2], j, j1, x2⟩
  refine ⟨N, ?_, hN⟩
  obtain ⟨t0, ht0, x0, x1, x2, x3, x4⟩ := hhead j0 hj0
  have hx0 : x0 = N := by omega
  subst hx0
  refine fstP_at x1 (fun i hi hb => ?_) (fun t ht => ?_)
  · obtain ⟨k, k1, k2, k3⟩ := hb t0 ht0
    exact x4 k (by omega) k3
  · obtain ⟨j, hj, e⟩ := allW_of ht
    have hne := hn j hj
    rw [e] at hne
    obtain ⟨x, y1, y2, y3, y4⟩ := pick_head hne
    have hle := headM_le (L := allW S) hj
    rw [e] at hle
    have y2 : atL (wrongL S t) 0 = (x : Int) := y2
    exact ⟨x, by omega, y1, y3⟩
def s53 : SCode := (.seq (.ops [⟨(some 1), none, .box (T 0)⟩, ⟨(some 2), none, .mov (.const (.int .i64 (0)))⟩, ⟨(some 3), none, .mov (.const (.int .i64 (0)))⟩]) (.seq (.seq (.ops [⟨(some 8), none, .loadN 5 (T 1)⟩, ⟨(some 9), none, .call (.func 31) [(T 8)]⟩, ⟨(some 4), none, .mov (T 9)⟩]) (.seq (.ops [⟨(some 10), none, .mov (T 4)⟩, ⟨(some 11), none, .int2 .neq (T 10) (.const (.int .i64 (0)))⟩]) (.cond (T 11) (.seq (.ops [⟨(some 12), none, .mov (T 4)⟩, ⟨(some 2), none, .mov (.const (.int .i64 (0)))⟩, ⟨(some 3), none, .mov (T 12)⟩]) .ret) .skip))) (.seq (.ops [⟨(some 5), none, .mov (.const (.int .i64 (0)))⟩]) (.seq (.seq (.ops [⟨(some 13), none, .loadN 5 (T 1)⟩, ⟨(some 14), none, .build #[(0, 5), (5, 1)] [(.int .i64 (0)), (.int .i64 (0)), (.slice none 0 0), (.int .i64 (0)), (.slice none 0 0), (.slice none 0 0)] [0] [(T 13)]⟩, ⟨(some 15), none, .call (.func 100) [(T 14)]⟩, ⟨(some 16), none, .len (T 15)⟩, ⟨(some 17), none, .mov (.const (.int .i64 (0)))⟩]) (.block 0 (.loop (.seq (.ops [⟨(some 18), none, .int2 .lss (T 17) (T 16)⟩]) (.seq (.cond (T 18) .skip (.exit 0)) (.seq (.block 1 (.seq (.ops [⟨(some 19), none, .idxSl 1 (T 15) (T 17)⟩, ⟨(some 20), none, .load1 (T 19)⟩, ⟨(some 7), none, .mov (T 20)⟩]) (.seq (.seq (.ops [⟨(some 21), none, .mov (T 7)⟩, ⟨(some 22), none, .len (T 21)⟩, ⟨(some 23), none, .int2 .eql (T 22) (.const (.int .i64 (0)))⟩]) (.cond (T 23) (.seq (.ops [⟨(some 2), none, .mov (.const (.int .i64 (0)))⟩, ⟨(some 3), none, .mov (.const (.int .i64 (7)))⟩]) .ret) .skip)) (.ops [⟨(some 24), none, .mov (T 5)⟩, ⟨(some 25), none, .mov (T 7)⟩, ⟨(some 26), none, .idxSl 1 (T 25) (.const (.int .i64 (0)))⟩, ⟨(some 27), none, .load1 (T 26)⟩, ⟨(some 28), none, .plain (.call { callee := .builtin .max, args := #[(T 24), (T 27)], argTypes := #[3, 3] }) 3⟩, ⟨(some 5), none, .mov (T 28)⟩])))) (.ops [⟨(some 29), none, .int2 .add (T 17) (.const (.int .i64 (1)))⟩, ⟨(some 17), none, .mov (T 29)⟩]))))))) (.seq (.ops [⟨(some 30), none, .mov (T 5)⟩, ⟨(some 2), none, .mov (T 30)⟩, ⟨(some 3), none, .mov (.const (.int .i64 (0)))⟩]) .ret)))))
theorem fok53 : FnOk Try.prog 53 31 s53 [.tmp 2, .tmp 3] := ⟨Try.f53, _, Try.func53, rfl, Try.ntmps53, by kernel_rfl, by kernel_rfl⟩
set_option maxHeartbeats 2000000 in
theorem firstP_c (hn : 1000 ≤ n) (hr : h.next + 120000 < far) {vv sv : Value} {S : MB} (hy : BeatR h vv sv S) (hT : ThinS S) :
    call n (.func (.func 53) #[] #[]) [.agg ⟨beL S vv sv⟩] h = some (.tuple ⟨[.int .i64 (firstV S), .int .i64 (firstE S)]⟩, h) := by
  obtain ⟨n, rfl⟩ : ∃ p, n = p + 1 := ⟨n - 1, by omega⟩
  refine call_plain0 fok53 rfl rfl (by simp) rfl ?_
  have hy := hy.shut
  have hr : h.shutAll.next + 120000 < far := hr
  have hfl : h.shutAll.floor ≤ h.shutAll.next := Nat.le_refl _
  generalize h.shutAll = h at hy hr hfl
  simp only [s53, W_seq, W_ops]
  refine ops_box (cs := beL S vv sv) (by omega) rfl hy.one fun g1 hx1 => ?_
  have n1 := hx1.next
  have f1 := hx1.floor
  have hy1 := hy.mono hx1.sub
  have w1 := hx1.row.whole (n := 5) rfl
  have ec := check_c (n := n) (h := g1) (by omega) (by omega) hy1 hT
  by_cases hf : faultS S = 0
  case neg =>
    have q1 : firstV S = 0 := if_neg hf
    have q2 : firstE S = faultS S := if_neg hf
    rw [q1, q2]
    simp only [rn0, rn1, rn2, rn3, rn4, rn5, rn6, rn7, rn8, if_true, if_false, Nat.le_refl, true_and, and_true, decide_true, decide_false, Bool.not_true, Bool.not_false, reduceIte, Nat.reduceEqDiff, Nat.reduceAdd, Nat.reduceMul, Nat.reduceSub, Nat.reduceLeDiff, Nat.reduceLT, w1, ec, hf, ret_tt]
  have hG := good_of hf
  have q1 : firstV S = optI (firstF S) 0 := if_pos hf
  have q2 : firstE S = if firstF S = none then 7 else 0 := if_pos hf
  obtain ⟨_, _, z3, z5, _⟩ := hG.sizes
  have hlenW : (allW S).length ≤ 200 := by unfold allW; rw [List.length_map]; exact enum_len hG
  obtain ⟨av, g2, e2, ⟨R, hcR, hiR⟩, oav, o2, u2, m2, f2⟩ := wrongAll_c (n := n) (h := g1) (by omega) (by omega) (by omega) hy1 hG
  simp only [rn0, rn1, rn2, rn3, rn4, rn5, rn6, rn7, rn8, if_true, if_false, Nat.le_refl, true_and, and_true, decide_true, decide_false, Bool.not_true, Bool.not_false, reduceIte, Nat.reduceEqDiff, Nat.reduceAdd, Nat.reduceMul, Nat.reduceSub, Nat.reduceLeDiff, Nat.reduceLT, w1, ec, hf, build_wkB, e2, Cells.len hcR]
  refine W_loop (allW S).length (fun j f g ms => (g = g2 ∧ ∀ i, i < j → (allW S).getD i [] ≠ []) ∧ ms = [] ∧ f 5 = .int .i64 (headM (allW S) j) ∧ f 15 = av ∧ f 16 = .int .i64 ((allW S).length : Int) ∧ f 17 = .int .i64 (j : Int)) (by simp; omega) ?_ ?_ ?_
  · simp only [rn0, rn1, rn2, rn3, rn4, rn5, rn6, rn7, rn8, if_true, if_false, Nat.le_refl, true_and, and_true, decide_true, decide_false, Bool.not_true, Bool.not_false, reduceIte, Nat.reduceEqDiff, Nat.reduceAdd, Nat.reduceMul, Nat.reduceSub, Nat.reduceLeDiff, Nat.reduceLT, headM]
    first | exact ⟨⟨rfl, fun i hi => absurd hi (Nat.not_lt_zero _)⟩, rfl⟩ | exact ⟨fun i hi => absurd hi (Nat.not_lt_zero _), rfl⟩ | exact fun i hi => absurd hi (Nat.not_lt_zero _)
  · rintro j f g ms hj ⟨⟨rfl, hno⟩, rfl, p5, p15, p16, p17⟩
    have hj' : (j : Int) < ((allW S).length : Int) := by omega
    have hwj : wrapF .i64 ((j : Int) + 1) = ((j + 1 : Nat) : Int) := by rw [wrap_in (by omega) (by omega)]; rfl
    have hij := hiR j hj
    by_cases c : (allW S).getD j [] = []
    · have hl0 : (((allW S).getD j []).length : Int) = 0 := by rw [c]; rfl
      have hN := first_none hj c
      have q3 : optI (firstF S) 0 = 0 := by rw [hN]; rfl
      rw [q1, q2, q3, if_pos hN]
      simp only [rn0, rn1, rn2, rn3, rn4, rn5, rn6, rn7, rn8, if_true, if_false, Nat.le_refl, true_and, and_true, decide_true, decide_false, Bool.not_true, Bool.not_false, reduceIte, Nat.reduceEqDiff, Nat.reduceAdd, Nat.reduceMul, Nat.reduceSub, Nat.reduceLeDiff, Nat.reduceLT, p5, p15, p16, p17, hj', Cells.idx hcR hj, Cells.ld hcR hj Nat.zero_lt_one, Cells.len hij, hl0, ret_tt]
    · have hlp : 0 < ((allW S).getD j []).length := List.length_pos_iff.2 c
      have hl0 : ¬ (((allW S).getD j []).length : Int) = 0 := by omega
      have i0 : indexSl 1 (R j) (.int .i64 0) = some (ptrO (R j) 1 0 0) := Cells.idx hij hlp
      have l0 := Cells.ld hij hlp Nat.zero_lt_one
      have hno2 : ∀ i, i < j + 1 → (allW S).getD i [] ≠ [] := fun i hi => by
        by_cases e : i = j
        · rw [e]; exact c
        · exact hno i (by omega)
      have hmx : max (headM (allW S) j) (atL ((allW S).getD j []) 0) = headM (allW S) (j + 1) := rfl
      simp only [rn0, rn1, rn2, rn3, rn4, rn5, rn6, rn7, rn8, if_true, if_false, Nat.le_refl, true_and, and_true, decide_true, decide_false, Bool.not_true, Bool.not_false, reduceIte, Nat.reduceEqDiff, Nat.reduceAdd, Nat.reduceMul, Nat.reduceSub, Nat.reduceLeDiff, Nat.reduceLT, p5, p15, p16, p17, hj', Cells.idx hcR hj, Cells.ld hcR hj Nat.zero_lt_one, Cells.len hij, hl0, i0, l0, valN_tmp, Nat.reduceLT, hmx, hwj]
      first | exact ⟨⟨rfl, hno2⟩, rfl⟩ | exact ⟨rfl, hno2⟩ | exact ⟨hno2, rfl⟩ | exact hno2
  · rintro f g ms ⟨⟨rfl, hno⟩, rfl, p5, p15, p16, p17⟩
    obtain ⟨N, hN, hM⟩ := first_some hG hno
    have q3 : optI (firstF S) 0 = (N : Int) := by rw [hN]; rfl
    have q4 : (if firstF S = none then (7 : Int) else 0) = 0 := by rw [hN]; rfl
    rw [q1, q2, q3, q4]
    rw [hM] at p5
    simp only [rn0, rn1, rn2, rn3, rn4, rn5, rn6, rn7, rn8, if_true, if_false, Nat.le_refl, true_and, and_true, decide_true, decide_false, Bool.not_true, Bool.not_false, reduceIte, Nat.reduceEqDiff, Nat.reduceAdd, Nat.reduceMul, Nat.reduceSub, Nat.reduceLeDiff, Nat.reduceLT, p5, p15, p16, p17, Int.lt_irrefl, ret_tt]
end Go.Vm.Bt

namespace Go.Vm.Bt
open Go.Proofs Go.Vm.Vat Go.Vm.L2
set_option linter.unusedSimpArgs false
set_option linter.unusedVariables false
set_option maxRecDepth 10000
variable {n : Nat} {h : AHeap}
def CanB (S : MB) (s : Nat) : Prop := ∃ c, c ∈ allE S ∧ ∀ x, x < S.ns → Bit s x → RightS S c x
theorem can_blk {S : MB} {k : Nat} (hk : k < S.ns) : CanB S (2 ^ (k + 1) - 1) ↔ ¬ blkS S k := by
  constructor
  · rintro ⟨t, ht, hr⟩ hb
    obtain ⟨i, i1, i2, i3⟩ := hb t ht
    exact i3 (hr i i2 (low_bits.2 (by omega)))
  · intro hb
    apply Classical.byContradiction
    intro hn
    refine hb fun t ht => ?_
    apply Classical.byContradiction
    intro hno
    refine hn ⟨t, ht, fun x hx hbx => ?_⟩
    have hxk := low_bits.1 hbx
    apply Classical.byContradiction
    intro hw
    exact hno ⟨x, by omega, hx, hw⟩
def pickedS (S : MB) (bits : Nat) : MB := { S with ns := (selTo bits S.ns).length, sv := fun k => S.sv ((selTo bits S.ns).getD k 0), sh := fun k => S.sh ((selTo bits S.ns).getD k 0), sd := fun k => S.sd ((selTo bits S.ns).getD k 0) }
def smC (S : MB) (l : List Nat) (k j : Nat) : Value := if j = 0 then .int .i64 (S.sv (l.getD k 0)) else if j = 1 then .int .i64 (S.sh (l.getD k 0)) else .bool (S.sd (l.getD k 0))
def zr5 : List Value := [.int .i64 0, .int .i64 0, nilS, .int .i64 0, nilS]
theorem sl_smp {x y : Int} {z : Bool} : buildSl 3 1 [.int .i64 0, .int .i64 0, .bool false] [0] h [.agg ⟨[.int .i64 x, .int .i64 y, .bool z]⟩] = newSlice h [.int .i64 x, .int .i64 y, .bool z] 1 1 0 := id rfl
def s74 : SCode := (.seq (.ops [⟨(some 2), none, .box (T 0)⟩, ⟨(some 4), none, .alloc [(.int .i64 (0)), (.int .i64 (0)), (.slice none 0 0), (.int .i64 (0)), (.slice none 0 0)]⟩]) (.seq (.ops [⟨(some 7), none, .loadN 5 (T 2)⟩, ⟨(some 5), none, .alloc [(.int .i64 (0)), (.int .i64 (0)), (.slice none 0 0), (.int .i64 (0)), (.slice none 0 0)]⟩, ⟨none, none, .store 5 (T 5) (T 7)⟩]) (.seq (.ops [⟨(some 8), none, .fieldAddr 4 (T 5)⟩, ⟨none, none, .store 1 (T 8) (.const (.slice none 0 0))⟩]) (.seq (.seq (.ops [⟨(some 6), none, .mov (.const (.int .i64 (0)))⟩]) (.block 0 (.loop (.seq (.seq (.ops [⟨(some 9), none, .mov (T 6)⟩, ⟨(some 10), none, .fieldAddr 4 (T 2)⟩, ⟨(some 11), none, .load1 (T 10)⟩, ⟨(some 12), none, .len (T 11)⟩, ⟨(some 13), none, .int2 .lss (T 9) (T 12)⟩]) (.cond (T 13) .skip (.exit 0))) (.seq (.block 1 (.seq (.ops [⟨(some 16), none, .mov (T 1)⟩, ⟨(some 17), none, .mov (T 6)⟩, ⟨(some 18), none, .plain (.convert 3 117 (T 17)) 117⟩, ⟨(some 19), none, .plain (.binOp .shr 3 (T 16) (T 18) 117) 3⟩, ⟨(some 20), none, .plain (.binOp .rem 3 (T 19) (.const (.int .i64 (2))) 3) 3⟩, ⟨(some 21), none, .int2 .eql (T 20) (.const (.int .i64 (1)))⟩]) (.cond (T 21) (.draw [⟨.free, ⟨(some 22), none, .fieldAddr 4 (T 5)⟩⟩, ⟨.rd, ⟨(some 23), none, .load1 (T 22)⟩⟩, ⟨.free, ⟨(some 24), none, .fieldAddr 4 (T 2)⟩⟩, ⟨.rd1, ⟨(some 25), none, .load1 (T 24)⟩⟩, ⟨.free, ⟨(some 26), none, .mov (T 6)⟩⟩, ⟨.free, ⟨(some 27), none, .idxSl 3 (T 25) (T 26)⟩⟩, ⟨.rd1, ⟨(some 28), none, .loadN 3 (T 27)⟩⟩, ⟨.up, ⟨(some 29), none, .bslice 3 1 [(.int .i64 (0)), (.int .i64 (0)), (.bool false)] [0] [(T 28)]⟩⟩, ⟨.any, ⟨(some 30), none, .append 3 24 (T 23) (T 29)⟩⟩, ⟨.free, ⟨(some 31), none, .fieldAddr 4 (T 5)⟩⟩, ⟨.any, ⟨none, none, .store 1 (T 31) (T 30)⟩⟩]) .skip))) (.ops [⟨(some 14), none, .mov (T 6)⟩, ⟨(some 15), none, .int2 .add (T 14) (.const (.int .i64 (1)))⟩, ⟨(some 6), none, .mov (T 15)⟩])))))) (.seq (.ops [⟨(some 32), none, .loadN 5 (T 5)⟩, ⟨none, none, .store 5 (T 4) (T 32)⟩]) .ret)))))
theorem fok74 : FnOk Try.prog 74 33 s74 [.cellN 4 5] := ⟨Try.f74, _, Try.func74, rfl, Try.ntmps74, by kernel_rfl, by kernel_rfl⟩
set_option maxHeartbeats 2000000 in
theorem some_c (hn : 10 ≤ n) (hr : h.next + 200 < far) (hfl : h.floor ≤ h.next) {vv sv : Value} {S : MB} (hy : BeatR h vv sv S) (hs5 : S.ns ≤ 5) {bits : Nat} :
    ∃ sv' h', call n (.func (.func 74) #[] #[]) [.agg ⟨beL S vv sv⟩, .int .i64 (bits : Int)] h = some (.agg ⟨beL (pickedS S bits) vv sv'⟩, h') ∧ BeatR h' vv sv' (pickedS S bits) ∧ (∀ i, i < h.next → h'.get i = h.get i) ∧ h.next ≤ h'.next ∧ h'.next ≤ h.next + 100 ∧ h'.floor = h.floor := by
  obtain ⟨n, rfl⟩ : ∃ p, n = p + 1 := ⟨n - 1, by omega⟩
  suffices hsuf : ∃ v h', call (n + 1) (.func (.func 74) #[] #[]) [.agg ⟨beL S vv sv⟩, .int .i64 (bits : Int)] h = some (v, h') ∧ ∃ sv', v = .agg ⟨beL (pickedS S bits) vv sv'⟩ ∧ BeatR h' vv sv' (pickedS S bits) ∧ (∀ i, i < h.next → h'.get i = h.get i) ∧ h.next ≤ h'.next ∧ h'.next ≤ h.next + 100 ∧ h'.floor = h.floor by
    obtain ⟨v, h', e, sv', rfl, h1⟩ := hsuf
    exact ⟨sv', h', e, h1⟩
  refine call_any0 fok74 rfl rfl (by simp) ?_
  simp only [s74, W_seq, W_ops]
  refine ops_box (cs := beL S vv sv) (by omega) rfl hy.one fun g1 hx1 => ?_
  have n1 := hx1.next
  have f1' := hx1.floor
  have e1 : g1.next = h.next + 1 := n1
  simp only [rn0, rn1, rn2, rn3, rn4, rn5, rn6, rn7, rn8, if_true, if_false, Nat.le_refl, true_and, and_true, decide_true, decide_false, Bool.not_true, Bool.not_false, reduceIte, Nat.reduceEqDiff, Nat.reduceAdd, Nat.reduceMul, Nat.reduceSub, Nat.reduceLeDiff, Nat.reduceLT]
  refine step_row (cs := zr5) (by omega) rfl rfl fun g2 hx2 => ?_
  have n2 := hx2.next
  have f2' := hx2.floor
  have e2 : g2.next = h.next + 2 := by omega
  have w2 := (hx1.row.mono hx2.sub).whole (n := 5) rfl
  simp only [rn0, rn1, rn2, rn3, rn4, rn5, rn6, rn7, rn8, if_true, if_false, Nat.le_refl, true_and, and_true, decide_true, decide_false, Bool.not_true, Bool.not_false, reduceIte, Nat.reduceEqDiff, Nat.reduceAdd, Nat.reduceMul, Nat.reduceSub, Nat.reduceLeDiff, Nat.reduceLT, w2]
  refine step_new (vs := beL S vv sv) (by omega) (by omega) rfl (by simp only [rn0, rn1, rn2, rn3, rn4, rn5, rn6, rn7, rn8, if_true, if_false, Nat.le_refl, true_and, and_true, decide_true, decide_false, Bool.not_true, Bool.not_false, reduceIte, Nat.reduceEqDiff, Nat.reduceAdd, Nat.reduceMul, Nat.reduceSub, Nat.reduceLeDiff, Nat.reduceLT]; rfl) hy.one rfl rfl fun g3 hx3 => ?_
  have n3 := hx3.next
  have f3' := hx3.floor
  have hg3 := hx3.get
  simp only [rn0, rn1, rn2, rn3, rn4, rn5, rn6, rn7, rn8, if_true, if_false, Nat.le_refl, true_and, and_true, decide_true, decide_false, Bool.not_true, Bool.not_false, reduceIte, Nat.reduceEqDiff, Nat.reduceAdd, Nat.reduceMul, Nat.reduceSub, Nat.reduceLeDiff, Nat.reduceLT, Nat.zero_add]
  refine step_store (b := g2.next) (off := 4) (vs := [nilS]) rfl hg3 (by omega) (by omega) rfl rfl rfl (by simp [beL]) fun g4 hs4 => ?_
  have hspl : splice (beL S vv sv) 4 [nilS] = beL S vv nilS := rfl
  rw [hspl] at hs4
  have n4 := hs4.next
  have f4' := hs4.floor
  have o4 : ∀ i, i < h.next + 2 → g4.get i = g2.get i := fun i hi => by rw [hs4.old i (by omega), hx3.old i (by omega)]
  have hsub : Sub All h g4 := AHeap.subOf fun i hi => by rw [o4 i (by omega), hx2.old i (by omega), hx1.old i hi]
  have hold4 : ∀ i, i < h.next → g4.get i = h.get i := fun i hi => by rw [o4 i (by omega), hx2.old i (by omega), hx1.old i hi]
  have hbox : Row g4 h.next (beL S vv sv) := by
    obtain ⟨w, gr, e⟩ := hx1.row
    exact ⟨w, gr, by rw [o4 _ (by omega), hx2.old _ (by omega)]; exact e⟩
  have hres : g4.get (h.next + 1) = some (.row zr5 true 0) := by rw [o4 _ (by omega)]; have := hx2.get; rw [e1] at this; exact this
  have hout : g4.get (h.next + 2) = some (.row (beL S vv nilS) true 0) := by have := hs4.get; rw [e2] at this; exact this
  have e4 : g4.next = h.next + 3 := by omega
  have ef4 : g4.floor = h.floor := by omega
  rw [e1, e2]
  clear hs4 hx3 hx2 hx1 hg3
  have hall : ∀ {g : AHeap}, Keep (h.next + 2) g4 g → Sub All h g := fun st i cs w gr _ hg => st.sub i cs w gr (by have := AHeap.lt_of_get hg; omega) (hsub _ _ _ _ trivial hg)
  simp only [rn0, rn1, rn2, rn3, rn4, rn5, rn6, rn7, rn8, if_true, if_false, Nat.le_refl, true_and, and_true, decide_true, decide_false, Bool.not_true, Bool.not_false, reduceIte, Nat.reduceEqDiff, Nat.reduceAdd, Nat.reduceMul, Nat.reduceSub, Nat.reduceLeDiff, Nat.reduceLT]
  refine W_loop S.ns (fun k f g m => (∃ X, Keep (h.next + 2) g4 g ∧ (∀ i, i < h.next → g.get i = h.get i) ∧ g.get (h.next + 2) = some (.row (beL S vv X) true 0) ∧ GrowC g4.next g X 3 (selTo bits k).length (smC S (selTo bits k)) ∧ g.next ≤ g4.next + 2 * k) ∧ m = [] ∧ f 1 = .int .i64 (bits : Int) ∧ f 2 = .pointer (some ⟨h.next, 0, none⟩) ∧ f 4 = .pointer (some ⟨h.next + 1, 0, none⟩) ∧ f 5 = .pointer (some ⟨h.next + 2, 0, none⟩) ∧ f 6 = .int .i64 (k : Int)) (by simp; omega) ?_ ?_ ?_
  · simp only [rn0, rn1, rn2, rn3, rn4, rn5, rn6, rn7, rn8, if_true, if_false, Nat.le_refl, true_and, and_true, decide_true, decide_false, Bool.not_true, Bool.not_false, reduceIte, Nat.reduceEqDiff, Nat.reduceAdd, Nat.reduceMul, Nat.reduceSub, Nat.reduceLeDiff, Nat.reduceLT]
    first | exact ⟨⟨_, Keep.refl, hold4, hout, .nil, by omega⟩, rfl⟩ | exact ⟨_, Keep.refl, hold4, hout, .nil, by omega⟩
  · rintro k f g m hk ⟨⟨X, st, hold, go, gS, hgn⟩, rfl, f1, f2, f4, f5, f6⟩
    have hk' : (k : Int) < (S.ns : Int) := by omega
    have hw : wrapF .i64 ((k : Int) + 1) = ((k + 1 : Nat) : Int) := by rw [wrap_in (by omega) (by omega)]; rfl
    have hrow : Row g (h.next + 2) (beL S vv X) := ⟨_, _, go⟩
    have hbx := hbox.keep st (by omega)
    have hyk := hy.mono (hall st)
    have hSm := hyk.s
    have hup := st.up
    have hfg := st.floor
    have hlk := selTo_len (bits := bits) k
    have hm2 : ((bits / 2 ^ k : Nat) : Int).tmod 2 = ((bits / 2 ^ k % 2 : Nat) : Int) := rfl
    have z2 : ¬ (2 : Int) = 0 := by decide
    by_cases hb : bits / 2 ^ k % 2 = 1
    · have hb' : ((bits / 2 ^ k % 2 : Nat) : Int) = 1 := by omega
      simp only [rn0, rn1, rn2, rn3, rn4, rn5, rn6, rn7, rn8, if_true, if_false, Nat.le_refl, true_and, and_true, decide_true, decide_false, Bool.not_true, Bool.not_false, reduceIte, Nat.reduceEqDiff, Nat.reduceAdd, Nat.reduceMul, Nat.reduceSub, Nat.reduceLeDiff, Nat.reduceLT, f1, f2, f4, f5, f6, hbx.ld, beg, Nat.zero_add, Nat.add_zero, Cells.len hSm, hk', p_uint, r_conv (k := k) (by omega), p_shr, r_shr (a := bits) (k := k) (by omega), valN_tmp, valN_const, Nat.reduceLT, r_rem z2, hm2, hb']
      refine W_draw All ?_
      simp only [rn0, rn1, rn2, rn3, rn4, rn5, rn6, rn7, rn8, if_true, if_false, Nat.le_refl, true_and, and_true, decide_true, decide_false, Bool.not_true, Bool.not_false, reduceIte, Nat.reduceEqDiff, Nat.reduceAdd, Nat.reduceMul, Nat.reduceSub, Nat.reduceLeDiff, Nat.reduceLT, f1, f2, f4, f5, f6, hbx.ld, hrow.ld, beg, Nat.zero_add, Nat.add_zero, gS.cells.self, Cells.idx hSm hk, samp_ld hyk hk, sl_smp]
      refine up_slice (by omega) rfl (fun g1 hx => hx.sub) fun g1 hx => ?_
      have hgx := hx.next
      have hgf := hx.floor
      have hsucc := selTo_yes hb
      have gS1 : GrowC g4.next g1 X 3 (selTo bits k).length (smC S (selTo bits (k + 1))) := (gS.keep (hx.keep (o := h.next + 2)) (by omega)).congr fun i j hi hj => by
        unfold smC
        rw [hsucc, List.getD_eq_getElem?_getD, List.getD_eq_getElem?_getD, List.getElem?_append_left hi]
      have hlast : (selTo bits (k + 1)).getD (selTo bits k).length 0 = k := by rw [hsucc, List.getD_eq_getElem?_getD, List.getElem?_append_right (Nat.le_refl _)]; simp
      obtain ⟨S', g2, e, e', gS', hk2⟩ := gS1.append (bytes := 24) (cap := 1) (by omega) (by omega) (by omega) hx.get rfl rfl (fun j hj => by
        unfold smC
        rw [hlast]
        obtain rfl | rfl | rfl : j = 0 ∨ j = 1 ∨ j = 2 := by omega
        all_goals rfl) (by simp [maxBytes]; omega) (by simp [maxBytes]; omega)
      obtain ⟨st2, go2⟩ := grew (st.trans hx.keep) hk2 (fun a k c e => (gS1.block e).1) (by omega) (hx.sub _ _ _ _ trivial go)
      have hgx2 := hk2.next
      have hgf2 := hk2.floor
      have hl1 : (selTo bits (k + 1)).length = (selTo bits k).length + 1 := by rw [hsucc, List.length_append, List.length_singleton]
      have hold2 : ∀ i, i < h.next → g2.get i = h.get i := fun i hi => by
        rw [hk2.old i (by omega) (fun a k c e => by have := (gS1.block e).1; omega), hx.old i (by omega), hold i hi]
      simp only [rn0, rn1, rn2, rn3, rn4, rn5, rn6, rn7, rn8, if_true, if_false, Nat.le_refl, true_and, and_true, decide_true, decide_false, Bool.not_true, Bool.not_false, reduceIte, Nat.reduceEqDiff, Nat.reduceAdd, Nat.reduceMul, Nat.reduceSub, Nat.reduceLeDiff, Nat.reduceLT, f1, f2, f4, f5, f6, e, Nat.add_zero, Nat.zero_add]
      refine ⟨by omega, up_store (vs := [S']) rfl go2 (by omega) (by omega) (by rw [e']; rfl) (by simp [allB, gS'.one]) rfl (by simp [beL]) (fun _ _ => trivial) fun g3 hs => ?_⟩
      have hgx3 := hs.next
      have hspl : splice (beL S vv X) 4 [S'] = beL S vv S' := rfl
      have hg3 := hs.get
      rw [hspl] at hg3
      simp only [rn0, rn1, rn2, rn3, rn4, rn5, rn6, rn7, rn8, if_true, if_false, Nat.le_refl, true_and, and_true, decide_true, decide_false, Bool.not_true, Bool.not_false, reduceIte, Nat.reduceEqDiff, Nat.reduceAdd, Nat.reduceMul, Nat.reduceSub, Nat.reduceLeDiff, Nat.reduceLT, f1, f2, f4, f5, f6, hw, Nat.add_zero]
      rw [hl1]
      have hold3 : ∀ i, i < h.next → g3.get i = h.get i := fun i hi => by rw [hs.old i (by omega), hold2 i hi]
      first | exact ⟨⟨_, set_keep st2 hs, hold3, hg3, gS'.keep hs.keep (by omega), by omega⟩, rfl⟩ | exact ⟨_, set_keep st2 hs, hold3, hg3, gS'.keep hs.keep (by omega), by omega⟩
    · have hb' : ¬ ((bits / 2 ^ k % 2 : Nat) : Int) = 1 := by omega
      simp only [rn0, rn1, rn2, rn3, rn4, rn5, rn6, rn7, rn8, if_true, if_false, Nat.le_refl, true_and, and_true, decide_true, decide_false, Bool.not_true, Bool.not_false, reduceIte, Nat.reduceEqDiff, Nat.reduceAdd, Nat.reduceMul, Nat.reduceSub, Nat.reduceLeDiff, Nat.reduceLT, f1, f2, f4, f5, f6, hbx.ld, beg, Nat.zero_add, Nat.add_zero, Cells.len hSm, hk', p_uint, r_conv (k := k) (by omega), p_shr, r_shr (a := bits) (k := k) (by omega), valN_tmp, valN_const, Nat.reduceLT, r_rem z2, hm2, hb', hw]
      rw [selTo_no hb]
      first | exact ⟨⟨_, st, hold, go, gS, by omega⟩, rfl⟩ | exact ⟨_, st, hold, go, gS, by omega⟩
  · rintro f g m ⟨⟨X, st, hold, go, gS, hgn⟩, rfl, f1, f2, f4, f5, f6⟩
    have hbx := hbox.keep st (by omega)
    have hy' := hy.mono (hall st)
    have hup := st.up
    have hfg := st.floor
    have w5 := (show Row g (h.next + 2) (beL S vv X) from ⟨_, _, go⟩).whole (n := 5) rfl
    have hyX : BeatR g vv X (pickedS S bits) := ⟨hy'.v, gS.cells⟩
    have hone : allB oneCell (beL S vv X) = true := hyX.one
    simp only [rn0, rn1, rn2, rn3, rn4, rn5, rn6, rn7, rn8, if_true, if_false, Nat.le_refl, true_and, and_true, decide_true, decide_false, Bool.not_true, Bool.not_false, reduceIte, Nat.reduceEqDiff, Nat.reduceAdd, Nat.reduceMul, Nat.reduceSub, Nat.reduceLeDiff, Nat.reduceLT, f1, f2, f4, f5, f6, hbx.ld, beg, Nat.zero_add, Nat.add_zero, Cells.len hy'.s, Int.lt_irrefl, w5]
    refine step_store (b := h.next + 1) (off := 0) (vs := beL S vv X) rfl (st.sub _ _ _ _ (by omega) hres) (by omega) (by omega) rfl hone rfl (by simp [zr5]) fun g5 hs5 => ?_
    have hspl : splice zr5 0 (beL S vv X) = beL S vv X := rfl
    rw [hspl] at hs5
    have n5 := hs5.next
    have f5' := hs5.floor
    have w6 := hs5.row.whole (n := 5) rfl
    simp only [rn0, rn1, rn2, rn3, rn4, rn5, rn6, rn7, rn8, if_true, if_false, Nat.le_refl, true_and, and_true, decide_true, decide_false, Bool.not_true, Bool.not_false, reduceIte, Nat.reduceEqDiff, Nat.reduceAdd, Nat.reduceMul, Nat.reduceSub, Nat.reduceLeDiff, Nat.reduceLT, f4, w6]
    have k5 : Sub All h g5 := fun i cs w gr _ hg => by
      have hlt := AHeap.lt_of_get hg
      exact hs5.keep.sub _ _ _ _ (by omega) (hall st _ _ _ _ trivial hg)
    have hy5 := hy.mono k5
    exact ⟨_, rfl, ⟨hy5.v, (gS.keep hs5.keep (by omega)).cells⟩, fun i hi => by rw [hs5.old i (by omega), hold i hi], by omega, by omega, by omega⟩
theorem picked_right {S : MB} {b : Nat} {c : Nat → Int} : (∀ k, k < (pickedS S b).ns → RightS (pickedS S b) c k) ↔ ∀ x, x < S.ns → Bit b x → RightS S c x := by
  have hget : ∀ k, k < (selTo b S.ns).length → (selTo b S.ns).getD k 0 ∈ selTo b S.ns := fun k hk => by rw [List.getD_eq_getElem?_getD, List.getElem?_eq_getElem hk]; exact List.getElem_mem hk
  constructor
  · intro hk x hx hb
    obtain ⟨i, hi, he⟩ := List.getElem_of_mem (selTo_mem.2 ⟨hx, hb⟩)
    have := hk i hi
    have e : (selTo b S.ns).getD i 0 = x := by rw [List.getD_eq_getElem?_getD, List.getElem?_eq_getElem hi]; exact he
    have h2 : RightS S c ((selTo b S.ns).getD i 0) := this
    rw [e] at h2; exact h2
  · intro hx k hk
    obtain ⟨h1, h2⟩ := selTo_mem.1 (hget k hk)
    exact hx _ h1 h2
theorem picked_mem {S : MB} {b : Nat} {c : Nat → Int} : c ∈ truthsS (pickedS S b) ↔ c ∈ allE S ∧ ∀ x, x < S.ns → Bit b x → RightS S c x := by
  rw [truths_mem, picked_right, allE_mem]
  exact Iff.rfl
theorem picked_can {S : MB} {b : Nat} : truthsS (pickedS S b) ≠ [] ↔ CanB S b := by
  constructor
  · intro h
    obtain ⟨c, hc⟩ := List.exists_mem_of_ne_nil _ h
    exact ⟨c, picked_mem.1 hc⟩
  · rintro ⟨c, hc⟩ e
    have := picked_mem.2 hc
    rw [e] at this
    cases this
theorem picked_thin {S : MB} {b : Nat} (hT : ThinS S) : ThinS (pickedS S b) := ⟨hT.1, Nat.le_trans (selTo_len _) hT.2⟩
theorem picked_good {S : MB} {b : Nat} (hG : Good S) : Good (pickedS S b) := by
  refine ⟨⟨hG.lim.1, hG.lim.2.1, Nat.le_trans (selTo_len _) hG.lim.2.2⟩, ⟨hG.args.head, hG.args.vat, fun k hk => ?_⟩, hG.few⟩
  have hk' : k < (selTo b S.ns).length := hk
  exact hG.args.samp _ (selTo_mem.1 (by rw [List.getD_eq_getElem?_getD, List.getElem?_eq_getElem hk']; exact List.getElem_mem hk')).1
end Go.Vm.Bt
