/- Texts of the proofs of this seat, put together: BtC, BtBest, BtV4, BtMod, BtEnded, BtNoBetL. -/
import Derived.Test.YtjihegbffhhcaaaPk13
import Derived.Test.YtjihegbffhhcaaaRows
import Derived.WalkKit
import Derived.ProofKit
import Derived.OpenShut

namespace Go.Vm.Bt
open Go.Vm.Vat Go.Vm.L2 Go.Proofs Go.ChangeShapes Go.WideShapes Go.ChangeAt Go.RowKit
set_option linter.unusedSimpArgs false
set_option linter.unusedVariables false
set_option maxRecDepth 10000
variable {n : Nat} {h : AHeap}
theorem own : ownKnob Try.prog.godebug = none := by kernel_rfl
theorem mixedOn : Try.prog.follows .mixedOrders = true := by kernel_rfl
theorem namesAll : (Try.prog.funcs.toList.all fun fn => !(fn.name == "runtime.NumGoroutine")) = true := by kernel_rfl
theorem namesFine : NamesFine Try.prog := by
  intro f fn hf
  have h := List.all_eq_true.1 namesAll fn (Array.mem_toList_iff.2 (Array.mem_of_getElem? hf))
  simpa using h
theorem tabOk : ∀ E ∈ BtAwake.tab, ∃ cf, SoundCF Try.prog cf ∧ entryOk cf E = true := by
  have hs := vm_sound namesFine mixedOn BtAwake.quiet 1000
  intro E hE
  refine ⟨_, hs, ?_⟩
  revert E
  simp only [BtAwake.tab, List.forall_mem_cons, List.not_mem_nil, false_implies, implies_true, and_true]
  exact ⟨BtAwake.ok0, BtAwake.ok1, BtAwake.ok2, BtAwake.ok3, BtAwake.ok4, BtAwake.ok5, BtAwake.ok6, BtAwake.ok7, BtAwake.ok8, BtAwake.ok9, BtAwake.ok10, BtAwake.ok11⟩
theorem kOk : KOk Try.prog K := by
  intro f v hK
  unfold K at hK
  split at hK
  · rename_i e
    subst e
    cases hK
    refine ⟨rfl, acallO Try.prog BtAwake.quiet BtAwake.tab 1000, ?_⟩
    have hm := BtAwake.main_ok
    cases hr : acallO Try.prog BtAwake.quiet BtAwake.tab 1000 (.func (.func 24) #[] #[]) [] AHeap.empty with
    | none => rw [hr] at hm; cases hm
    | some vh =>
      obtain ⟨v, h'⟩ := vh
      rw [hr] at hm
      unfold BtAwake.isTrue at hm
      split at hm
      · rename_i e
        cases e
        exact ⟨h', acallO_sound namesFine mixedOn BtAwake.quiet tabOk 1000, rfl⟩
      · cases hm
  · cases hK
theorem sound (n : Nat) : SoundCF Try.prog (call n) := pcall_sound namesFine mixedOn kOk n
theorem laidOk : laidOutB Try.prog = true := by kernel_rfl
theorem mapsOk : mapsRowed Try.prog = true := by kernel_rfl
theorem slicesOk : ((List.range Try.prog.types.size).all fun t => match Try.prog.underlying t with | some (.slice e) => decide (0 < Try.prog.cellsOf e) | _ => true) = true := by kernel_rfl
theorem kids : Kids Try.prog (· < Try.prog.types.size) := kids_rows laidOk mapsOk
theorem tsize : 120 < Try.prog.types.size := of_decide_eq_true (by kernel_rfl)
theorem cell_slice {P : Program} {w : World} {r : Reach} {b : Nat} {t e : TypeId} {v x : Value} (ht : P.underlying t = some (.slice e)) (ho : Value.okWide P w r b t v) (hc : v.cells.toList = [x]) : v = x := by
  unfold Value.okWide at ho
  rw [ht] at ho
  cases v <;> simp_all [Value.cells, Cell.okWide, Cell.ok]
theorem cell_int {P : Program} {w : World} {r : Reach} {b : Nat} {t : TypeId} {k : IntKind} {v x : Value} (ht : P.underlying t = some (.int k)) (ho : Value.okWide P w r b t v) (hc : v.cells.toList = [x]) : v = x := by
  unfold Value.okWide at ho
  rw [ht] at ho
  cases v <;> simp_all [Value.cells, Cell.okWide, Cell.ok]
theorem agg_struct {P : Program} {w : World} {r : Reach} {b : Nat} {t : TypeId} {fs : Array Field} {v : Value} {cs : List Value} (ht : P.underlying t = some (.struct fs)) (ho : Value.okWide P w r b t v) (hc : v.cells.toList = cs) : v = .agg ⟨cs⟩ := by
  unfold Value.okWide at ho
  rw [ht] at ho
  obtain ⟨cs', rfl, _⟩ := ho
  subst hc
  rfl
theorem map_int {φ : Emb} {k : IntKind} {a : Int} : mapV φ (.int k a) = .int k a := by simp [mapV]
theorem stands_beat {w : World} {φ : Emb} {a b c : Int} {u1 u2 vv sv : Value} (h1 : Stands φ h u1 vv) (h2 : Stands φ h u2 sv) : mapV φ (.agg ⟨[.int .i64 a, .int .i64 b, u1, .int .i64 c, u2]⟩) = .agg ⟨[.int .i64 a, .int .i64 b, vv, .int .i64 c, sv]⟩ ∧ okV φ h.next (.agg ⟨[.int .i64 a, .int .i64 b, u1, .int .i64 c, u2]⟩) := by
  refine ⟨?_, ?_⟩
  · simp only [mapV, mapArr, mapL, h1.map, h2.map]
  · simp only [okV, okA, okL, and_true, true_and]
    exact ⟨h1.ok, h2.ok⟩
theorem stands_course {w : World} {φ : Emb} {a : Int} {u0 cw : Value} (h0 : Stands φ h u0 cw) : mapV φ (.agg ⟨[.int .i64 a, u0]⟩) = .agg ⟨[.int .i64 a, cw]⟩ ∧ okV φ h.next (.agg ⟨[.int .i64 a, u0]⟩) := by
  refine ⟨?_, ?_⟩
  · simp only [mapV, mapArr, mapL, h0.map]
  · simp only [okV, okA, okL, and_true, true_and]
    exact h0.ok
end Go.Vm.Bt

namespace Go.Vm.Bt
open Go.Proofs Go.Vm.Vat Go.Vm.L2
set_option linter.unusedSimpArgs false
set_option linter.unusedVariables false
set_option maxRecDepth 10000
variable {n : Nat} {h : AHeap}
def enL (S : MB) (c : Nat → Int) : List Value := (List.range S.nv).map fun v => .int .i64 (c v)
theorem enL_len {S : MB} {c : Nat → Int} : (enL S c).length = S.nv := by simp [enL]
theorem enL_one {S : MB} {c : Nat → Int} : allB oneCell (enL S c) = true := by rw [allB_iff]; intro v hv; obtain ⟨i, _, rfl⟩ := List.mem_map.1 hv; rfl
theorem enL_set {S : MB} {c : Nat → Int} {i : Nat} (hi : i < S.nv) {x : Int} : splice (enL S c) i [.int .i64 x] = enL S (setU c i x) := by
  refine map_splice (by simp; omega) (fun j hj hc => ?_) (fun j hj => ?_)
  · simp only [List.length_cons, List.length_nil] at hc
    simp only [setU]
    rw [if_neg (by omega)]
  · simp only [List.length_cons, List.length_nil] at hj
    obtain rfl : j = 0 := by omega
    simp [setU]
theorem enL_ints {S : MB} {c : Nat → Int} {g : AHeap} {b k gr m : Nat} {w : Bool} (hg : g.get b = some (.row (enL S c) w gr)) (hm : m ≤ S.nv) : Ints g (.slice (some ⟨b, 0, none⟩) m k) m c :=
  ⟨_, _, rfl, fun x e => by cases e; rfl, .inr ⟨b, 0, _, _, _, rfl, hg, fun v j hv hj => by
    obtain rfl : j = 0 := by omega
    rw [Nat.zero_add, Nat.mul_one, Nat.add_zero, enL, List.getElem?_map, List.getElem?_range (by omega)]; rfl⟩⟩
theorem append_room {g : AHeap} {b c len cap gr kc : Nat} {cs : List Value} {x : Int} (hg : g.get b = some (.row cs true gr)) (hc : g.get c = some (.row [.int .i64 x] true 0)) (hfl : g.floor ≤ b) (hf : g.next ≤ far) (hl : len < cap) (hcap : cap ≤ 100) (hlen : len < cs.length) :
    ∃ h1, appendA 1 8 g (.slice (some ⟨b, 0, none⟩) len cap) (.slice (some ⟨c, 0, none⟩) 1 kc) = some (.slice (some ⟨b, 0, none⟩) (len + 1) cap, h1) ∧ Set1 g h1 b (splice cs len [.int .i64 x]) gr := by
  obtain ⟨h1, e, hs⟩ := storeRow_run (off := len) (vs := [.int .i64 x]) hg hfl hf rfl (by simp; omega)
  refine ⟨h1, ?_, hs⟩
  have hcl : cellsOfSlice g 1 (.slice (some ⟨c, 0, none⟩) 1 kc) = some [.int .i64 x] := by
    show (bif Nat.beq 1 0 then some [] else match g.get c with
      | some (.row cs _ _) => dropK cs 0 fun r => takeK r (1 * 1) fun l => some l
      | _ => none) = some [.int .i64 x]
    have h10 : Nat.beq 1 0 = false := rfl
    rw [hc, h10, cond_false]
    rfl
  have e1 : Nat.ble ((len + 1) * 8) maxBytes = true := ble_iff.2 (by simp [maxBytes]; omega)
  have e2 : Nat.ble (len + 1) maxBytes = true := ble_iff.2 (by simp [maxBytes]; omega)
  have e3 : Nat.beq (Go.Vm.len [Value.int .i64 x]) (1 * 1) = true := rfl
  have e4 : Nat.ble (len + 1) cap = true := ble_iff.2 (by omega)
  have e5 : Nat.blt cap unk = true := blt_iff.2 (by simp [unk]; omega)
  have e6 : Nat.beq 1 0 = false := rfl
  unfold appendA
  simp only [hcl, e1, e2, e3, e4, e5, Bool.and_self, cond_true]
  unfold appendRoom
  simp only [e6, cond_false, Nat.zero_add, Nat.mul_one, e]
theorem part1 {a b : Int} : partOne 1 (.agg ⟨[.int .i64 a, .int .i64 b]⟩) h = some (.int .i64 b, h) := id rfl
def bndB : Nat → Nat
  | 0 => 4
  | d + 1 => 4 + 10 * (bndB d + 1)
def chooseE (pw po pb pc : Nat) : Value := .func (.func 126) ⟨[]⟩ ⟨[.pointer (some ⟨pw, 0, none⟩), .pointer (some ⟨po, 0, none⟩), .pointer (some ⟨pb, 0, none⟩), .pointer (some ⟨pc, 0, none⟩)]⟩
theorem chooseE_self {pw po pb pc : Nat} : eqV (chooseE pw po pb pc) (chooseE pw po pb pc) = true := by
  simp [chooseE, eqV, eqCell, eqPs, eqP, eqOA]
structure BeS (S : MB) (vv sv tv : Value) (pw po pb pc pe B : Nat) (s : (Nat → Int) × Int) (c : Nat → Int) (g : AHeap) : Prop where
  o : OpS g vv sv tv S
  w : Row g pw (wkL S vv sv tv)
  cl : Row g pc [chooseE pw po pb pc]
  wo : g.get po = some (.row [.int .i64 s.2] true 0)
  be : ∃ bv, g.get pb = some (.row [bv] true 0) ∧ Ints g bv S.nv s.1 ∧ oneCell bv = true ∧ ∀ a k q, bv = .slice (some a) k q → a.block ≠ pe ∧ a.block ≠ po ∧ a.block ≠ pb
  e : g.get pe = some (.row (enL S c) true 0)
  fl : g.floor = B
  ne : pe ≠ po ∧ pe ≠ pb ∧ po ≠ pb ∧ B ≤ pe ∧ B ≤ po ∧ B ≤ pb ∧ pw ≠ pe ∧ pw ≠ po ∧ pw ≠ pb ∧ pc ≠ pe ∧ pc ≠ po ∧ pc ≠ pb
def ApartS (S : MB) (vv sv tv : Value) (x : Nat) : Prop := (0 < S.nv → NeB vv x) ∧ (0 < S.ns → NeB sv x) ∧ NeB tv x
theorem cells_keep {g g' : AHeap} {v : Value} {s m o : Nat} {c : Nat → Nat → Value} (hc : Cells g v s m c) (k : Keep o g g') (hb : 0 < m → NeB v o) : Cells g' v s m c := by
  by_cases h0 : m = 0
  · obtain ⟨a, cap, e, sp, _⟩ := hc
    exact ⟨a, cap, e, sp, .inl h0⟩
  · exact Cells.keep hc k fun a m c e => (hb (by omega) a m c e).symm
theorem OpS.set {g g' : AHeap} {vv sv tv : Value} {S : MB} {b gr : Nat} {cs : List Value} (ho : OpS g vv sv tv S) (hs : Set1 g g' b cs gr) (ha : ApartS S vv sv tv b) : OpS g' vv sv tv S := by
  have k := hs.keep
  exact ⟨ho.good, ho.some, ⟨cells_keep ho.y.v k ha.1, cells_keep ho.y.s k ha.2.1⟩, ho.one, Cells.keep ho.d k fun a m c e => (ha.2.2 a m c e).symm, ho.long⟩
def OkE (S : MB) (i : Nat) (c : Nat → Int) : Prop := (∀ j, j < i → 0 ≤ c j ∧ c j ≤ S.last) ∧ ∀ j, S.nv ≤ j → c j = 0
noncomputable def endsFrom (S : MB) (d i : Nat) (c : Nat → Int) : List (Nat → Int) := enumB (fun _ => 0) (fun _ => S.last) d i c
theorem from_ok {S : MB} {d i : Nat} (hi : i + d = S.nv) {c e : Nat → Int} (hc : OkE S i c) (he : e ∈ endsFrom S d i c) : EndsOk S S.nv e ∧ ∀ j, j < i → e j = c j := by
  obtain ⟨h1, h2⟩ := (enumB_ok _ _ _ _).1 he
  refine ⟨⟨fun v hv => ?_, fun v hv => ?_⟩, fun j hj => h2 j (.inl hj)⟩
  · by_cases c1 : v < i
    · rw [h2 v (.inl c1)]; exact hc.1 v c1
    · exact h1 v (by omega) (by omega)
  · rw [h2 v (.inr (by omega))]; exact hc.2 v hv
theorem from_skip {S : MB} (hG : Good S) (hT : truthsS S ≠ []) {d i : Nat} (hi : i + d = S.nv) {c : Nat → Int} (hc : OkE S i c) {s : (Nat → Int) × Int} (hs : s.2 ≤ wHi S c i) : runL (bestStep S) s (endsFrom S d i c) = (s, true) :=
  best_skip _ s fun e he => by
    obtain ⟨h1, h2⟩ := from_ok hi hc he
    have h3 := wHi_mono hG hT h1 (m := i) (m' := S.nv) (by omega) (Nat.le_refl _)
    rw [wHi_congr hT (e' := c) h2] at h3
    omega
def s126 : SCode := (.seq (.ops [⟨(some 8), none, .loadN 6 (T 1)⟩, ⟨(some 9), none, .mov (T 0)⟩, ⟨(some 10), none, .call (.func 93) [(T 8), (T 9)]⟩, ⟨(some 11), none, .field1 1 (T 10)⟩, ⟨(some 6), none, .mov (T 11)⟩]) (.block 0 (.seq (.ops [⟨(some 27), none, .mov (T 6)⟩, ⟨(some 28), none, .load1 (T 2)⟩, ⟨(some 29), none, .int2 .geq (T 27) (T 28)⟩, ⟨(some 26), none, .mov (T 29)⟩]) (.cond (T 26) .skip (.seq (.ops [⟨(some 31), none, .mov (T 0)⟩, ⟨(some 32), none, .len (T 31)⟩, ⟨(some 33), none, .fieldAddr 0 (T 1)⟩, ⟨(some 34), none, .fieldAddr 2 (T 33)⟩, ⟨(some 35), none, .load1 (T 34)⟩, ⟨(some 36), none, .len (T 35)⟩, ⟨(some 37), none, .int2 .eql (T 32) (T 36)⟩, ⟨(some 30), none, .mov (T 37)⟩]) (.cond (T 30) (.ops [⟨(some 38), none, .mov (T 0)⟩, ⟨(some 39), none, .call (.func 127) [(T 38)]⟩, ⟨(some 40), none, .mov (T 6)⟩, ⟨none, none, .store 1 (T 3) (T 39)⟩, ⟨none, none, .store 1 (T 2) (T 40)⟩]) (.seq (.ops [⟨(some 12), none, .fieldAddr 0 (T 1)⟩, ⟨(some 13), none, .fieldAddr 3 (T 12)⟩, ⟨(some 14), none, .load1 (T 13)⟩, ⟨(some 15), none, .int2 .add (T 14) (.const (.int .i64 (1)))⟩, ⟨(some 16), none, .mov (.const (.int .i64 (0)))⟩]) (.block 1 (.loop (.seq (.ops [⟨(some 17), none, .int2 .lss (T 16) (T 15)⟩]) (.seq (.cond (T 17) .skip (.exit 1)) (.seq (.block 2 (.seq (.ops [⟨(some 18), none, .mov (T 16)⟩, ⟨(some 7), none, .mov (T 18)⟩]) (.draw [⟨.rd, ⟨(some 19), none, .load1 (T 4)⟩⟩, ⟨.free, ⟨(some 20), none, .mov (T 0)⟩⟩, ⟨.free, ⟨(some 21), none, .mov (T 7)⟩⟩, ⟨.up, ⟨(some 22), none, .bslice 1 1 [(.int .i64 (0))] [0] [(T 21)]⟩⟩, ⟨.up, ⟨(some 23), none, .append 1 8 (T 20) (T 22)⟩⟩, ⟨.any, ⟨(some 24), none, .call (T 19) [(T 23)]⟩⟩]))) (.ops [⟨(some 25), none, .int2 .add (T 16) (.const (.int .i64 (1)))⟩, ⟨(some 16), none, .mov (T 25)⟩])))))))))))))
theorem fok126 : FnOk Try.prog 126 41 s126 [] := ⟨Try.f126, _, Try.func126, rfl, Try.ntmps126, by kernel_rfl, by kernel_rfl⟩
set_option maxHeartbeats 2000000 in
theorem chooseE_c {S : MB} {vv sv tv : Value} {pw po pb pc pe B : Nat} (ha : ApartS S vv sv tv pe ∧ ApartS S vv sv tv po ∧ ApartS S vv sv tv pb) :
    ∀ (d i n : Nat) (g : AHeap) (s : (Nat → Int) × Int) (c : Nat → Int), i + d = S.nv → 900 + d ≤ n → BeS S vv sv tv pw po pb pc pe B s c g → OkE S i c → g.next + bndB d + 7000 < far →
      ∃ v g' c', call n (chooseE pw po pb pc) [.slice (some ⟨pe, 0, none⟩) i S.nv] g = some (v, g') ∧ BeS S vv sv tv pw po pb pc pe B (runL (bestStep S) s (endsFrom S d i c)).1 c' g' ∧ (∀ j, j < i ∨ i + d ≤ j → c' j = c j) ∧
        (∀ q, q < g.next → q ≠ pe → q ≠ po → q ≠ pb → g'.get q = g.get q) ∧ g.next ≤ g'.next ∧ g'.next ≤ g.next + bndB d := by
  intro d
  induction d with
  | zero =>
    intro i n g s c hi hn hb hok hr
    obtain ⟨n, rfl⟩ : ∃ p, n = p + 1 := ⟨n - 1, by omega⟩
    have hG := hb.o.good
    have hT := hb.o.some
    obtain ⟨z0, z1, z3, _⟩ := hG.sizes
    obtain ⟨e1, e2, e3, e4, e5, e6, e7, e8, e9, e10, e11, e12⟩ := hb.ne
    obtain rfl : i = S.nv := by omega
    have hle := losses_c (n := n) (h := g) (by omega) (by omega) hb.o (enL_ints (k := S.nv) hb.e (Nat.le_refl _)) (Nat.le_refl _) fun v hv => by have := hok.1 v hv; omega
    have rw1 := hb.w
    have ro : Row g po _ := ⟨_, _, hb.wo⟩
    have hlv := Cells.len hb.o.y.v
    simp only [bndB] at hr ⊢
    suffices hs : ∃ v g', call (n + 1) (chooseE pw po pb pc) [.slice (some ⟨pe, 0, none⟩) S.nv S.nv] g = some (v, g') ∧ ∃ c', BeS S vv sv tv pw po pb pc pe B (runL (bestStep S) s (endsFrom S 0 S.nv c)).1 c' g' ∧ (∀ j, j < S.nv ∨ S.nv + 0 ≤ j → c' j = c j) ∧
        (∀ q, q < g.next → q ≠ pe → q ≠ po → q ≠ pb → g'.get q = g.get q) ∧ g.next ≤ g'.next ∧ g'.next ≤ g.next + 4 by
      obtain ⟨v, g', e, c', h1⟩ := hs
      exact ⟨v, g', c', e, h1⟩
    refine call_any (xs := []) (ys := [.pointer (some ⟨pw, 0, none⟩), .pointer (some ⟨po, 0, none⟩), .pointer (some ⟨pb, 0, none⟩), .pointer (some ⟨pc, 0, none⟩)]) fok126 rfl rfl (by simp) ?_
    by_cases hsk : s.2 ≤ wHi S c S.nv
    · have hrun := from_skip hG hT (d := 0) (by omega) hok hsk
      simp only [rn0, rn1, rn2, rn3, rn4, rn5, rn6, rn7, rn8, if_true, if_false, Nat.le_refl, true_and, and_true, decide_true, decide_false, Bool.not_true, Bool.not_false, reduceIte, Nat.reduceEqDiff, Nat.reduceAdd, Nat.reduceMul, Nat.reduceSub, Nat.reduceLeDiff, Nat.reduceLT, s126, List.cons_append, List.nil_append, rw1.whole (n := 6) rfl, hle, part1, ro.ld, Nat.zero_add, List.getElem?_cons_zero, List.getElem?_cons_succ, hsk]
      rw [hrun]
      refine ⟨_, rfl, c, hb, ?_⟩
      first | exact ⟨fun _ _ => rfl, fun _ _ _ _ _ => trivial, Nat.le_add_right _ _⟩ | exact ⟨fun _ _ => rfl, fun _ _ _ _ _ => rfl, Nat.le_refl _, by omega⟩
    · obtain ⟨cv, g1, e1c, hic, oc, oldc, uc, mc, fc, bc⟩ := clone_c (n := n) (h := g) (v := .slice (some ⟨pe, 0, none⟩) S.nv S.nv) (by omega) (by omega) (enL_ints hb.e (Nat.le_refl _)) (by omega)
      have hrun : (runL (bestStep S) s (endsFrom S 0 S.nv c)).1 = (c, wHi S c S.nv) := by
        simp only [endsFrom, enumB, runL, bestStep]
        rw [if_pos (show wHi S c S.nv < s.2 by omega)]; rfl
      obtain ⟨bv, b1, b2, b3, b4⟩ := hb.be
      have ltb := AHeap.lt_of_get b1
      have lto := AHeap.lt_of_get hb.wo
      have lte := AHeap.lt_of_get hb.e
      have hfb := hb.fl
      simp only [rn0, rn1, rn2, rn3, rn4, rn5, rn6, rn7, rn8, if_true, if_false, Nat.le_refl, true_and, and_true, decide_true, decide_false, Bool.not_true, Bool.not_false, reduceIte, Nat.reduceEqDiff, Nat.reduceAdd, Nat.reduceMul, Nat.reduceSub, Nat.reduceLeDiff, Nat.reduceLT, s126, List.cons_append, List.nil_append, rw1.whole (n := 6) rfl, rw1.ld, wkg, hlv, len_slice, hle, part1, ro.ld, Nat.zero_add, List.getElem?_cons_zero, List.getElem?_cons_succ, hsk, e1c]
      refine step_store (b := pb) (off := 0) (vs := [cv]) rfl (by rw [oldc _ ltb]; exact b1) (by omega) (by omega) (cells1 oc) (by simp [allB, oc]) rfl (by simp) fun g2 hs2 => ?_
      rw [splice1] at hs2
      have n2 := hs2.next
      have f2 := hs2.floor
      simp only [rn0, rn1, rn2, rn3, rn4, rn5, rn6, rn7, rn8, if_true, if_false, Nat.le_refl, true_and, and_true, decide_true, decide_false, Bool.not_true, Bool.not_false, reduceIte, Nat.reduceEqDiff, Nat.reduceAdd, Nat.reduceMul, Nat.reduceSub, Nat.reduceLeDiff, Nat.reduceLT]
      refine step_store (b := po) (off := 0) (vs := [.int .i64 (wHi S c S.nv)]) rfl (by rw [hs2.old _ e3, oldc _ lto]; exact hb.wo) (by omega) (by omega) rfl rfl rfl (by simp) fun g3 hs3 => ?_
      rw [splice1] at hs3
      have n3 := hs3.next
      have f3 := hs3.floor
      simp only [rn0, rn1, rn2, rn3, rn4, rn5, rn6, rn7, rn8, if_true, if_false, Nat.le_refl, true_and, and_true, decide_true, decide_false, Bool.not_true, Bool.not_false, reduceIte, Nat.reduceEqDiff, Nat.reduceAdd, Nat.reduceMul, Nat.reduceSub, Nat.reduceLeDiff, Nat.reduceLT]
      rw [hrun]
      have old3 : ∀ q, q < g.next → q ≠ pe → q ≠ po → q ≠ pb → g3.get q = g.get q := fun q hq _ h2 h3 => by rw [hs3.old q h2, hs2.old q h3, oldc q hq]
      have rmo : ∀ {q : Nat} {cs : List Value}, Row g q cs → q ≠ pe → q ≠ po → q ≠ pb → Row g3 q cs := fun {q cs} hq h1 h2 h3 => by
        obtain ⟨w, gr, e⟩ := hq
        exact ⟨w, gr, by rw [old3 q (AHeap.lt_of_get e) h1 h2 h3]; exact e⟩
      have ho1 := hb.o.mono (AHeap.subOf oldc)
      refine ⟨_, rfl, c, ⟨(ho1.set hs2 ha.2.2).set hs3 ha.2.1, rmo hb.w e7 e8 e9, rmo hb.cl e10 e11 e12, hs3.get, ⟨cv, by rw [hs3.old _ e3.symm]; exact hs2.get, ?_, oc, fun a k q e => ?_⟩, ?_, by omega, hb.ne⟩, fun _ _ => rfl, old3, by omega, by omega⟩
      · have q2 : Ints g2 cv S.nv c := Cells.keep hic hs2.keep fun a k q e => by have := (bc a k q e).1; omega
        exact Cells.keep q2 hs3.keep fun a k q e => by have := (bc a k q e).1; omega
      · have := (bc a k q e).1
        omega
      · rw [hs3.old _ e1, hs2.old _ e2, oldc _ lte]; exact hb.e
  | succ d ih =>
    intro i n g s c hi hn hb hok hr
    obtain ⟨n, rfl⟩ : ∃ p, n = p + 1 := ⟨n - 1, by omega⟩
    have hG := hb.o.good
    have hT := hb.o.some
    obtain ⟨z0, z1, z3, _⟩ := hG.sizes
    obtain ⟨e1, e2, e3, e4, e5, e6, e7, e8, e9, e10, e11, e12⟩ := hb.ne
    have hk : i < S.nv := by omega
    have hin : ¬ (i : Int) = (S.nv : Int) := by omega
    have hle := losses_c (n := n) (h := g) (by omega) (by omega) hb.o (enL_ints (k := S.nv) hb.e (m := i) (by omega)) (by omega) fun v hv => by have := hok.1 v hv; omega
    have rw1 := hb.w
    have ro : Row g po _ := ⟨_, _, hb.wo⟩
    have hlv := Cells.len hb.o.y.v
    have hbd : bndB (d + 1) = 4 + 10 * (bndB d + 1) := rfl
    obtain ⟨X, hX⟩ : ∃ X, X = bndB d + 1 := ⟨_, rfl⟩
    rw [hbd, ← hX] at hr ⊢
    suffices hs : ∃ v g', call (n + 1) (chooseE pw po pb pc) [.slice (some ⟨pe, 0, none⟩) i S.nv] g = some (v, g') ∧ ∃ c', BeS S vv sv tv pw po pb pc pe B (runL (bestStep S) s (endsFrom S (d + 1) i c)).1 c' g' ∧ (∀ j, j < i ∨ i + (d + 1) ≤ j → c' j = c j) ∧
        (∀ q, q < g.next → q ≠ pe → q ≠ po → q ≠ pb → g'.get q = g.get q) ∧ g.next ≤ g'.next ∧ g'.next ≤ g.next + (4 + 10 * X) by
      obtain ⟨v, g', e, c', h1⟩ := hs
      exact ⟨v, g', c', e, h1⟩
    refine call_any (xs := []) (ys := [.pointer (some ⟨pw, 0, none⟩), .pointer (some ⟨po, 0, none⟩), .pointer (some ⟨pb, 0, none⟩), .pointer (some ⟨pc, 0, none⟩)]) fok126 rfl rfl (by simp) ?_
    by_cases hsk : s.2 ≤ wHi S c i
    · have hrun := from_skip hG hT (d := d + 1) hi hok hsk
      simp only [rn0, rn1, rn2, rn3, rn4, rn5, rn6, rn7, rn8, if_true, if_false, Nat.le_refl, true_and, and_true, decide_true, decide_false, Bool.not_true, Bool.not_false, reduceIte, Nat.reduceEqDiff, Nat.reduceAdd, Nat.reduceMul, Nat.reduceSub, Nat.reduceLeDiff, Nat.reduceLT, s126, List.cons_append, List.nil_append, rw1.whole (n := 6) rfl, hle, part1, ro.ld, Nat.zero_add, List.getElem?_cons_zero, List.getElem?_cons_succ, hsk]
      rw [hrun]
      refine ⟨_, rfl, c, hb, ?_⟩
      first | exact ⟨fun _ _ => rfl, fun _ _ _ _ _ => trivial, Nat.le_add_right _ _⟩ | exact ⟨fun _ _ => rfl, fun _ _ _ _ _ => rfl, Nat.le_refl _, by omega⟩
    let part : Nat → List (Nat → Int) := fun k => endsFrom S d (i + 1) fun j => if j = i then 0 + (k : Int) else c j
    have hen : endsFrom S (d + 1) i c = (List.range (S.last - 0 + 1).toNat).flatMap part := rfl
    obtain ⟨m, hm, hm2⟩ : ∃ m : Nat, (m : Int) = S.last + 1 ∧ (S.last - 0 + 1).toNat = m := ⟨(S.last - 0 + 1).toNat, by omega, rfl⟩
    rw [hm2] at hen
    rw [hen]
    have hwl : wrapF .i64 (S.last + 1) = (m : Int) := by rw [wrap_in (by omega) (by omega)]; omega
    simp only [rn0, rn1, rn2, rn3, rn4, rn5, rn6, rn7, rn8, if_true, if_false, Nat.le_refl, true_and, and_true, decide_true, decide_false, Bool.not_true, Bool.not_false, reduceIte, Nat.reduceEqDiff, Nat.reduceAdd, Nat.reduceMul, Nat.reduceSub, Nat.reduceLeDiff, Nat.reduceLT, s126, List.cons_append, List.nil_append, rw1.whole (n := 6) rfl, rw1.ld, wkg, hlv, len_slice, hin, hle, part1, ro.ld, Nat.zero_add, List.getElem?_cons_zero, List.getElem?_cons_succ, hsk, hwl]
    refine W_loop m (fun k f ga ms => (∃ c', BeS S vv sv tv pw po pb pc pe B (runL (bestStep S) s ((List.range k).flatMap part)).1 c' ga ∧ (∀ j, j < i ∨ i + (d + 1) ≤ j → c' j = c j) ∧ (∀ q, q < g.next → q ≠ pe → q ≠ po → q ≠ pb → ga.get q = g.get q) ∧ g.next ≤ ga.next ∧ ga.next ≤ g.next + X * k) ∧ ms = [] ∧
      f 0 = .slice (some ⟨pe, 0, none⟩) i S.nv ∧ f 4 = .pointer (some ⟨pc, 0, none⟩) ∧ f 15 = .int .i64 (m : Int) ∧ f 16 = .int .i64 (k : Int)) (by simp; omega) ?_ ?_ ?_
    · simp only [rn0, rn1, rn2, rn3, rn4, rn5, rn6, rn7, rn8, if_true, if_false, Nat.le_refl, true_and, and_true, decide_true, decide_false, Bool.not_true, Bool.not_false, reduceIte, Nat.reduceEqDiff, Nat.reduceAdd, Nat.reduceMul, Nat.reduceSub, Nat.reduceLeDiff, Nat.reduceLT, Int.natCast_zero]
      have hfin : ∃ c', BeS S vv sv tv pw po pb pc pe B (runL (bestStep S) s ((List.range 0).flatMap part)).1 c' g ∧ (∀ j, j < i ∨ i + (d + 1) ≤ j → c' j = c j) ∧ (∀ q, q < g.next → q ≠ pe → q ≠ po → q ≠ pb → g.get q = g.get q) ∧ g.next ≤ g.next ∧ g.next ≤ g.next + X * 0 := ⟨c, hb, fun _ _ => rfl, fun _ _ _ _ _ => rfl, Nat.le_refl _, by omega⟩
      first | exact ⟨by simpa using hfin, rfl⟩ | exact ⟨hfin, rfl⟩ | simpa using hfin
    · rintro k f ga ms hkm ⟨⟨c1, hba, hc1, olda, ua, na⟩, rfl, p0, p4, p15, p16⟩
      have hkm' : (k : Int) < (m : Int) := by omega
      have hw : wrapF .i64 ((k : Int) + 1) = ((k + 1 : Nat) : Int) := by rw [wrap_in (by omega) (by omega)]; rfl
      have hkb : X * (k + 1) ≤ X * 10 := Nat.mul_le_mul_left _ (by omega)
      have hks : X * (k + 1) = X * k + X := Nat.mul_succ _ _
      have hq9 : ga.next < far := by omega
      have hfa := hba.fl
      have lte := AHeap.lt_of_get hba.e
      have lto := AHeap.lt_of_get hba.wo
      obtain ⟨bv, b1, b2, b3, b4⟩ := hba.be
      have ltb := AHeap.lt_of_get b1
      simp only [rn0, rn1, rn2, rn3, rn4, rn5, rn6, rn7, rn8, if_true, if_false, Nat.le_refl, true_and, and_true, decide_true, decide_false, Bool.not_true, Bool.not_false, reduceIte, Nat.reduceEqDiff, Nat.reduceAdd, Nat.reduceMul, Nat.reduceSub, Nat.reduceLeDiff, Nat.reduceLT, p0, p4, p15, p16, hkm']
      refine W_draw (fun x => ¬ x = pe) ?_
      have e10' : ¬ pc = pe := e10
      simp only [rn0, rn1, rn2, rn3, rn4, rn5, rn6, rn7, rn8, if_true, if_false, Nat.le_refl, true_and, and_true, decide_true, decide_false, Bool.not_true, Bool.not_false, reduceIte, Nat.reduceEqDiff, Nat.reduceAdd, Nat.reduceMul, Nat.reduceSub, Nat.reduceLeDiff, Nat.reduceLT, rd_1, rd_ne, e10', not_false_eq_true, p0, p4, p15, p16, hba.cl.ld, Nat.zero_add, List.getElem?_cons_zero, sl_int]
      refine ⟨chooseE_self, ?_⟩
      refine up_slice (by omega) rfl (fun g5 hx i cs w gr _ e => hx.sub i cs w gr trivial e) fun g5 hx5 => ?_
      have n5 := hx5.next
      have f5 := hx5.floor
      have he5 : g5.get pe = some (.row (enL S c1) true 0) := by rw [hx5.old _ lte]; exact hba.e
      obtain ⟨g6, e6, hs6⟩ := append_room (g := g5) (b := pe) (c := ga.next) (len := i) (cap := S.nv) (kc := 1) he5 hx5.get (by omega) (by omega) hk (by omega) (by rw [enL_len]; exact hk)
      rw [enL_set hk] at hs6
      have n6 := hs6.next
      have f6 := hs6.floor
      have old6 : ∀ q, q < ga.next → q ≠ pe → g6.get q = ga.get q := fun q hq h1 => by rw [hs6.old q h1, hx5.old q hq]
      have rmo : ∀ {q : Nat} {cs : List Value}, Row ga q cs → q ≠ pe → Row g6 q cs := fun {q cs} hq h1 => by
        obtain ⟨w, gr, e⟩ := hq
        exact ⟨w, gr, by rw [old6 q (AHeap.lt_of_get e) h1]; exact e⟩
      have hb6 : BeS S vv sv tv pw po pb pc pe B (runL (bestStep S) s ((List.range k).flatMap part)).1 (setU c1 i (k : Int)) g6 := by
        refine ⟨(hba.o.mono hx5.sub).set hs6 ha.1, rmo hba.w e7, rmo hba.cl e10, by rw [old6 _ lto e1.symm]; exact hba.wo, ⟨bv, by rw [old6 _ ltb e2.symm]; exact b1, Cells.keep (Cells.mono b2 hx5.sub) hs6.keep fun a k q e => (b4 a k q e).1, b3, b4⟩, hs6.get, by omega, hb.ne⟩
      have hok6 : OkE S (i + 1) (setU c1 i (k : Int)) := by
        refine ⟨fun j hj => ?_, fun j hj => ?_⟩
        · by_cases ej : j = i
          · subst ej; simp only [setU, if_true]; omega
          · simp only [setU, ej, if_false]; rw [hc1 j (by omega)]; exact hok.1 j (by omega)
        · have ej : ¬ j = i := by omega
          simp only [setU, ej, if_false]; rw [hc1 j (by omega)]; exact hok.2 j hj
      have hcg : endsFrom S d (i + 1) (setU c1 i (k : Int)) = part k := enumB_congr d (i + 1) _ _ fun j hj => by
        by_cases ej : j = i
        · simp [ej, setU]
        · simp only [setU, ej, if_false]; exact hc1 j (by omega)
      obtain ⟨v7, g7, c7, e7c, hb7, hc7, old7, u7, m7⟩ := ih (i + 1) n g6 _ _ (by omega) (by omega) hb6 hok6 (by omega)
      rw [hcg] at hb7
      have hrun : runL (bestStep S) s ((List.range (k + 1)).flatMap part) = runL (bestStep S) (runL (bestStep S) s ((List.range k).flatMap part)).1 (part k) := by
        rw [List.range_succ, List.flatMap_append, runL_append, bestRun_go, if_pos rfl]; simp
      simp only [rn0, rn1, rn2, rn3, rn4, rn5, rn6, rn7, rn8, if_true, if_false, Nat.le_refl, true_and, and_true, decide_true, decide_false, Bool.not_true, Bool.not_false, reduceIte, Nat.reduceEqDiff, Nat.reduceAdd, Nat.reduceMul, Nat.reduceSub, Nat.reduceLeDiff, Nat.reduceLT, rd_1, rd_ne, e10', not_false_eq_true, p0, p4, p15, p16, e6, e7c, hw]
      rw [hrun]
      have hfin : ∃ c', BeS S vv sv tv pw po pb pc pe B (runL (bestStep S) (runL (bestStep S) s ((List.range k).flatMap part)).1 (part k)).1 c' g7 ∧ (∀ j, j < i ∨ i + (d + 1) ≤ j → c' j = c j) ∧ (∀ q, q < g.next → q ≠ pe → q ≠ po → q ≠ pb → g7.get q = g.get q) ∧ g.next ≤ g7.next ∧ g7.next ≤ g.next + X * (k + 1) := by
        refine ⟨c7, hb7, fun j hj => ?_, fun q hq h1 h2 h3 => by rw [old7 q (by omega) h1 h2 h3, old6 q (by omega) h1, olda q hq h1 h2 h3], by omega, by omega⟩
        rw [hc7 j (by omega)]; simp only [setU]; rw [if_neg (by omega)]; exact hc1 j hj
      exact ⟨⟨by omega, fun q cs w gr h1 e => by rw [old6 q (AHeap.lt_of_get e) h1]; exact e⟩, by omega, hfin⟩
    · rintro f ga ms ⟨⟨c1, hba, hc1, olda, ua, na⟩, rfl, p0, p4, p15, p16⟩
      have hkb : X * m ≤ X * 10 := Nat.mul_le_mul_left _ (by omega)
      simp only [rn0, rn1, rn2, rn3, rn4, rn5, rn6, rn7, rn8, if_true, if_false, Nat.le_refl, true_and, and_true, decide_true, decide_false, Bool.not_true, Bool.not_false, reduceIte, Nat.reduceEqDiff, Nat.reduceAdd, Nat.reduceMul, Nat.reduceSub, Nat.reduceLeDiff, Nat.reduceLT, p0, p4, p15, p16, Int.lt_irrefl]
      exact ⟨_, rfl, c1, hba, hc1, olda, ua, by omega⟩
end Go.Vm.Bt

namespace Go.Vm.Bt
open Go.Proofs Go.Vm.Vat Go.Vm.L2
set_option linter.unusedSimpArgs false
set_option linter.unusedVariables false
set_option maxRecDepth 10000
variable {n : Nat} {h : AHeap}
theorem neB_low {v : Value} {s m : Nat} {c : Nat → Nat → Value} (hc : Cells h v s m c) {x : Nat} (hx : h.next ≤ x) : 0 < m → NeB v x := fun hm a k q e => by
  have := cells_lt hc hm e
  omega
theorem res_cc {a b : Nat} {f : Go.Vm.Fr} : resV f h [.cell1 a, .cell1 b] = match loadCell h (f a) with
  | some x => (match loadCell h (f b) with
    | some y => some (.tuple ⟨[x, y]⟩)
    | none => none)
  | none => none := by
  simp only [resV, resL, res1]
  cases loadCell h (f a) <;> cases loadCell h (f b) <;> rfl
def s96 : SCode := (.seq (.ops [⟨(some 1), none, .box (T 0)⟩, ⟨(some 2), none, .alloc [(.slice none 0 0)]⟩, ⟨(some 3), none, .alloc [(.int .i64 (0))]⟩]) (.seq (.ops [⟨(some 5), none, .fieldAddr 0 (T 1)⟩, ⟨(some 6), none, .fieldAddr 2 (T 5)⟩, ⟨(some 7), none, .load1 (T 6)⟩, ⟨(some 8), none, .len (T 7)⟩, ⟨(some 9), none, .mkslice 1 8 [(.int .i64 (0))] (T 8) (T 8)⟩, ⟨none, none, .store 1 (T 2) (T 9)⟩]) (.seq (.ops [⟨(some 10), none, .loadN 6 (T 1)⟩, ⟨(some 11), none, .load1 (T 2)⟩, ⟨(some 12), none, .call (.func 93) [(T 10), (T 11)]⟩, ⟨(some 13), none, .field1 1 (T 12)⟩, ⟨none, none, .store 1 (T 3) (T 13)⟩]) (.seq (.ops [⟨(some 4), none, .alloc [.nilFunc]⟩]) (.seq (.ops [⟨(some 14), none, .mkfunc 126 [] [(T 1), (T 3), (T 2), (T 4)]⟩, ⟨none, none, .store 1 (T 4) (T 14)⟩]) (.seq (.draw [⟨.rd, ⟨(some 15), none, .load1 (T 4)⟩⟩, ⟨.free, ⟨(some 16), none, .fieldAddr 0 (T 1)⟩⟩, ⟨.free, ⟨(some 17), none, .fieldAddr 2 (T 16)⟩⟩, ⟨.rd1, ⟨(some 18), none, .load1 (T 17)⟩⟩, ⟨.free, ⟨(some 19), none, .len (T 18)⟩⟩, ⟨.up, ⟨(some 20), none, .mkslice 1 8 [(.int .i64 (0))] (.const (.int .i64 (0))) (T 19)⟩⟩, ⟨.any, ⟨(some 21), none, .call (T 15) [(T 20)]⟩⟩]) (.seq (.draw [⟨.rd1, ⟨(some 22), none, .load1 (T 2)⟩⟩, ⟨.rd, ⟨(some 23), none, .load1 (T 3)⟩⟩, ⟨.up, ⟨none, none, .store 1 (T 2) (T 22)⟩⟩, ⟨.any, ⟨none, none, .store 1 (T 3) (T 23)⟩⟩]) .ret)))))))
theorem fok96 : FnOk Try.prog 96 24 s96 [.cell1 2, .cell1 3] := ⟨Try.f96, _, Try.func96, rfl, Try.ntmps96, by kernel_rfl, by kernel_rfl⟩
set_option maxHeartbeats 1000000 in
theorem bestE_c (hn : 1000 ≤ n) (hr : h.next + 14000 < far) (hfl : h.floor ≤ h.next) {vv sv tv : Value} {S : MB} (ho : OpS h vv sv tv S) :
    ∃ bv h', call n (.func (.func 96) #[] #[]) [.agg ⟨wkL S vv sv tv⟩] h = some (.tuple ⟨[bv, .int .i64 (bestS S).2]⟩, h') ∧ Ints h' bv S.nv (bestS S).1 ∧ oneCell bv = true ∧ (∀ i, i < h.next → h'.get i = h.get i) ∧ h.next ≤ h'.next ∧ h'.next ≤ h.next + 6000 ∧ h'.floor = h.floor := by
  obtain ⟨n, rfl⟩ : ∃ p, n = p + 1 := ⟨n - 1, by omega⟩
  have hG := ho.good
  have hT := ho.some
  obtain ⟨z0, z1, z3, _⟩ := hG.sizes
  suffices hs : ∃ v h', call (n + 1) (.func (.func 96) #[] #[]) [.agg ⟨wkL S vv sv tv⟩] h = some (v, h') ∧ ∃ bv, v = .tuple ⟨[bv, .int .i64 (bestS S).2]⟩ ∧ Ints h' bv S.nv (bestS S).1 ∧ oneCell bv = true ∧ (∀ i, i < h.next → h'.get i = h.get i) ∧ h.next ≤ h'.next ∧ h'.next ≤ h.next + 6000 ∧ h'.floor = h.floor by
    obtain ⟨v, h', e, bv, rfl, q⟩ := hs
    exact ⟨bv, h', e, q⟩
  refine call_any0 fok96 rfl rfl (by simp) ?_
  simp only [s96, W_seq, W_ops]
  refine ops_box (cs := wkL S vv sv tv) (by omega) rfl (wk_one ho.y ho.one) fun g1 hx1 => ?_
  have n1 := hx1.next
  have f1 := hx1.floor
  refine ops_alloc (cs := [nilS]) (by omega) rfl fun g2 hx2 => ?_
  have n2 := hx2.next
  have f2 := hx2.floor
  refine ops_alloc (cs := [.int .i64 0]) (by omega) rfl fun g3 hx3 => ?_
  have n3 := hx3.next
  have f3 := hx3.floor
  have hmk : ∀ g : AHeap, makeSl 1 8 [.int .i64 0] g (.int .i64 (S.nv : Int)) (.int .i64 (S.nv : Int)) = newSlice g (enL S fun _ => 0) S.nv S.nv 0 := fun g => by
    rw [make_intsL (by omega), repl_one]
    congr 1
    unfold enL
    apply List.ext_getElem?
    intro i
    by_cases hi : i < S.nv
    · rw [List.getElem?_replicate, if_pos hi, List.getElem?_map, List.getElem?_range hi]; rfl
    · rw [List.getElem?_eq_none (by simp; omega), List.getElem?_eq_none (by simp; omega)]
  have hmk0 : ∀ g : AHeap, makeSl 1 8 [.int .i64 0] g (.int .i64 0) (.int .i64 (S.nv : Int)) = newSlice g (enL S fun _ => 0) 0 S.nv 0 := fun g => by
    show (bif Nat.ble 0 S.nv && Nat.ble (S.nv * 8) maxBytes && Nat.ble S.nv maxBytes then newSlice g (repl [.int .i64 0] S.nv) 0 S.nv 0 else none) = _
    have e1 : Nat.ble 0 S.nv = true := ble_iff.2 (Nat.zero_le _)
    have e2 : Nat.ble (S.nv * 8) maxBytes = true := ble_iff.2 (by simp [maxBytes]; omega)
    have e3 : Nat.ble S.nv maxBytes = true := ble_iff.2 (by simp [maxBytes]; omega)
    rw [e1, e2, e3, repl_one]
    show newSlice g _ _ _ _ = _
    congr 1
    unfold enL
    apply List.ext_getElem?
    intro i
    by_cases hi : i < S.nv
    · rw [List.getElem?_replicate, if_pos hi, List.getElem?_map, List.getElem?_range hi]; rfl
    · rw [List.getElem?_eq_none (by simp; omega), List.getElem?_eq_none (by simp; omega)]
  have r1 := (hx1.row.mono hx2.sub).mono hx3.sub
  have hlv := Cells.len ho.y.v
  simp only [rn0, rn1, rn2, rn3, rn4, rn5, rn6, rn7, rn8, if_true, if_false, Nat.le_refl, true_and, and_true, decide_true, decide_false, Bool.not_true, Bool.not_false, reduceIte, Nat.reduceEqDiff, Nat.reduceAdd, Nat.reduceMul, Nat.reduceSub, Nat.reduceLeDiff, Nat.reduceLT, r1.ld, wkg, Nat.zero_add, hlv, hmk]
  refine step_slice (by omega) enL_one fun g4 hx4 => ?_
  have n4 := hx4.next
  have f4 := hx4.floor
  simp only [rn0, rn1, rn2, rn3, rn4, rn5, rn6, rn7, rn8, if_true, if_false, Nat.le_refl, true_and, and_true, decide_true, decide_false, Bool.not_true, Bool.not_false, reduceIte, Nat.reduceEqDiff, Nat.reduceAdd, Nat.reduceMul, Nat.reduceSub, Nat.reduceLeDiff, Nat.reduceLT]
  refine step_store (b := g1.next) (off := 0) (vs := [.slice (some ⟨g3.next, 0, none⟩) S.nv S.nv]) rfl (by rw [hx4.old _ (by omega), hx3.old _ (by omega)]; exact hx2.get) (by omega) (by omega) rfl rfl rfl (by simp) fun g5 hs5 => ?_
  rw [splice1] at hs5
  have n5 := hs5.next
  have f5 := hs5.floor
  have old5 : ∀ i, i < g1.next → g5.get i = g1.get i := fun i hi => by rw [hs5.old i (by omega), hx4.old i (by omega), hx3.old i (by omega), hx2.old i (by omega)]
  have rw5 : Row g5 h.next (wkL S vv sv tv) := ⟨true, 0, by rw [old5 _ (by omega)]; exact hx1.get⟩
  have ho5 : OpS g5 vv sv tv S := (ho.mono hx1.sub).mono (AHeap.subOf old5)
  have h45 : g5.get g3.next = some (.row (enL S fun _ => 0) true 0) := by rw [hs5.old _ (by omega)]; exact hx4.get
  have rb5 : Row g5 g1.next _ := ⟨_, _, hs5.get⟩
  have hle := losses_c (n := n) (h := g5) (by omega) (by omega) ho5 (enL_ints (k := S.nv) h45 (Nat.le_refl _)) (Nat.le_refl _) fun v hv => by omega
  have h3o : g5.get g2.next = some (.row [.int .i64 0] true 0) := by rw [hs5.old _ (by omega), hx4.old _ (by omega)]; exact hx3.get
  simp only [rn0, rn1, rn2, rn3, rn4, rn5, rn6, rn7, rn8, if_true, if_false, Nat.le_refl, true_and, and_true, decide_true, decide_false, Bool.not_true, Bool.not_false, reduceIte, Nat.reduceEqDiff, Nat.reduceAdd, Nat.reduceMul, Nat.reduceSub, Nat.reduceLeDiff, Nat.reduceLT, rw5.whole (n := 6) rfl, rb5.ld, Nat.zero_add, List.getElem?_cons_zero, hle, part1]
  refine step_store (b := g2.next) (off := 0) (vs := [.int .i64 (wHi S (fun _ => 0) S.nv)]) rfl h3o (by omega) (by omega) rfl rfl rfl (by simp) fun g6 hs6 => ?_
  rw [splice1] at hs6
  have n6 := hs6.next
  have f6 := hs6.floor
  simp only [rn0, rn1, rn2, rn3, rn4, rn5, rn6, rn7, rn8, if_true, if_false, Nat.le_refl, true_and, and_true, decide_true, decide_false, Bool.not_true, Bool.not_false, reduceIte, Nat.reduceEqDiff, Nat.reduceAdd, Nat.reduceMul, Nat.reduceSub, Nat.reduceLeDiff, Nat.reduceLT]
  refine step_row (cs := [.nilFunc]) (by omega) rfl rfl fun g7 hx7 => ?_
  have n7 := hx7.next
  have f7 := hx7.floor
  simp only [rn0, rn1, rn2, rn3, rn4, rn5, rn6, rn7, rn8, if_true, if_false, Nat.le_refl, true_and, and_true, decide_true, decide_false, Bool.not_true, Bool.not_false, reduceIte, Nat.reduceEqDiff, Nat.reduceAdd, Nat.reduceMul, Nat.reduceSub, Nat.reduceLeDiff, Nat.reduceLT]
  refine step_store (b := g6.next) (off := 0) (vs := [chooseE h.next g2.next g1.next g6.next]) rfl hx7.get (by omega) (by omega) rfl rfl rfl (by simp) fun g8 hs8 => ?_
  rw [splice1] at hs8
  have n8 := hs8.next
  have f8 := hs8.floor
  have old8 : ∀ i, i < g6.next → g8.get i = g6.get i := fun i hi => by rw [hs8.old i (by omega), hx7.old i hi]
  have rc8 : Row g8 g6.next [chooseE h.next g2.next g1.next g6.next] := ⟨_, _, hs8.get⟩
  have rw8 : Row g8 h.next (wkL S vv sv tv) := by
    obtain ⟨w, gr, e⟩ := rw5
    exact ⟨w, gr, by rw [old8 _ (by omega), hs6.old _ (by omega)]; exact e⟩
  simp only [rn0, rn1, rn2, rn3, rn4, rn5, rn6, rn7, rn8, if_true, if_false, Nat.le_refl, true_and, and_true, decide_true, decide_false, Bool.not_true, Bool.not_false, reduceIte, Nat.reduceEqDiff, Nat.reduceAdd, Nat.reduceMul, Nat.reduceSub, Nat.reduceLeDiff, Nat.reduceLT]
  refine W_draw All ?_
  simp only [rn0, rn1, rn2, rn3, rn4, rn5, rn6, rn7, rn8, if_true, if_false, Nat.le_refl, true_and, and_true, decide_true, decide_false, Bool.not_true, Bool.not_false, reduceIte, Nat.reduceEqDiff, Nat.reduceAdd, Nat.reduceMul, Nat.reduceSub, Nat.reduceLeDiff, Nat.reduceLT, rc8.ld, rw8.ld, wkg, Nat.zero_add, List.getElem?_cons_zero, hlv, hmk0]
  refine ⟨chooseE_self, ?_⟩
  refine up_slice (by omega) enL_one (fun g9 hx => hx.sub) fun g9 hx9 => ?_
  have n9 := hx9.next
  have f9 := hx9.floor
  have hap : ∀ x, h.next < x → ApartS S vv sv tv x := fun x hx => ⟨neB_low ho.y.v (by omega), neB_low ho.y.s (by omega), neB_low ho.d (by omega) (List.length_pos_iff.2 fun e => hT (dones_nil.1 e))⟩
  have ho9 : OpS g9 vv sv tv S := by
    refine ho.mono (AHeap.subOf fun i hi => ?_)
    rw [hx9.old i (by omega), old8 i (by omega), hs6.old i (by omega), old5 i (by omega), hx1.old i hi]
  have hb9 : BeS S vv sv tv h.next g2.next g1.next g6.next g8.next g9.floor ((fun _ => 0), wHi S (fun _ => 0) S.nv) (fun _ => 0) g9 := by
    refine ⟨ho9, rw8.mono hx9.sub, rc8.mono hx9.sub, ?_, ⟨.slice (some ⟨g3.next, 0, none⟩) S.nv S.nv, ?_, ?_, rfl, fun a k q e => ?_⟩, hx9.get, rfl, by omega⟩
    · rw [hx9.old _ (by omega), old8 _ (by omega)]; exact hs6.get
    · rw [hx9.old _ (by omega), old8 _ (by omega), hs6.old _ (by omega)]; exact hs5.get
    · exact enL_ints (by rw [hx9.old _ (by omega), old8 _ (by omega), hs6.old _ (by omega)]; exact h45) (Nat.le_refl _)
    · cases e; show g3.next ≠ g8.next ∧ g3.next ≠ g2.next ∧ g3.next ≠ g1.next; omega
  have hbn : bndB S.nv ≤ 5554 := by
    have : S.nv = 0 ∨ S.nv = 1 ∨ S.nv = 2 ∨ S.nv = 3 := by omega
    rcases this with e | e | e | e <;> rw [e] <;> decide
  obtain ⟨v10, g10, c10, e10, hb10, _, old10, u10, m10⟩ := chooseE_c (B := g9.floor) ⟨hap g8.next (by omega), hap g2.next (by omega), hap g1.next (by omega)⟩ S.nv 0 n g9 _ _ (by omega) (by omega) hb9 ⟨fun j hj => by omega, fun _ _ => rfl⟩ (by omega)
  have hres : (runL (bestStep S) ((fun _ => 0), wHi S (fun _ => 0) S.nv) (endsFrom S S.nv 0 fun _ => 0)).1 = bestS S := rfl
  rw [hres] at hb10
  obtain ⟨bv, b1, b2, b3, b4⟩ := hb10.be
  have rb10 : Row g10 g1.next _ := ⟨_, _, b1⟩
  have ro10 : Row g10 g2.next _ := ⟨_, _, hb10.wo⟩
  have f10 := hb10.fl
  have z00 : ((0 : Nat) : Int) = 0 := rfl
  simp only [rn0, rn1, rn2, rn3, rn4, rn5, rn6, rn7, rn8, if_true, if_false, Nat.le_refl, true_and, and_true, decide_true, decide_false, Bool.not_true, Bool.not_false, reduceIte, Nat.reduceEqDiff, Nat.reduceAdd, Nat.reduceMul, Nat.reduceSub, Nat.reduceLeDiff, Nat.reduceLT, e10]
  refine ⟨u10, ?_⟩
  refine W_draw All ?_
  have sameSet : ∀ {g g' : AHeap} {b gr : Nat} {cs : List Value}, g.get b = some (.row cs true gr) → Set1 g g' b cs gr → Sub All g g' := fun {g g' b gr cs} hb hs i cs' w gr' _ e => by
    by_cases ei : i = b
    · subst ei; rw [hb] at e; cases e; exact hs.get
    · rw [hs.old i ei]; exact e
  obtain ⟨bx, bk, rfl⟩ := ints_slice b2
  simp only [rn0, rn1, rn2, rn3, rn4, rn5, rn6, rn7, rn8, if_true, if_false, Nat.le_refl, true_and, and_true, decide_true, decide_false, Bool.not_true, Bool.not_false, reduceIte, Nat.reduceEqDiff, Nat.reduceAdd, Nat.reduceMul, Nat.reduceSub, Nat.reduceLeDiff, Nat.reduceLT, rb10.ld, ro10.ld, Nat.zero_add, List.getElem?_cons_zero, eqV_int, Cells.self b2]
  refine up_store (b := g1.next) (off := 0) (vs := [.slice bx S.nv bk]) rfl b1 (by omega) (by omega) rfl rfl rfl (by simp) (fun g11 hs => by rw [splice1] at hs; exact sameSet b1 hs) fun g11 hs11 => ?_
  rw [splice1] at hs11
  have n11 := hs11.next
  have f11 := hs11.floor
  have s11 := sameSet b1 hs11
  have o11 : g11.get g2.next = some (.row [.int .i64 (bestS S).2] true 0) := by rw [hs11.old _ (by omega)]; exact hb10.wo
  simp only [rn0, rn1, rn2, rn3, rn4, rn5, rn6, rn7, rn8, if_true, if_false, Nat.le_refl, true_and, and_true, decide_true, decide_false, Bool.not_true, Bool.not_false, reduceIte, Nat.reduceEqDiff, Nat.reduceAdd, Nat.reduceMul, Nat.reduceSub, Nat.reduceLeDiff, Nat.reduceLT]
  refine up_store (b := g2.next) (off := 0) (vs := [.int .i64 (bestS S).2]) rfl o11 (by omega) (by omega) rfl rfl rfl (by simp) (fun _ _ => trivial) fun g12 hs12 => ?_
  rw [splice1] at hs12
  have n12 := hs12.next
  have f12 := hs12.floor
  have c12 : loadCell g12 (.pointer (some ⟨g1.next, 0, none⟩)) = some (.slice bx S.nv bk) := by
    rw [(show Row g12 g1.next [.slice bx S.nv bk] from ⟨true, 0, by rw [hs12.old _ (by omega)]; exact hs11.get⟩).ld]; rfl
  have d12 : loadCell g12 (.pointer (some ⟨g2.next, 0, none⟩)) = some (.int .i64 (bestS S).2) := by rw [hs12.row.ld]; rfl
  have hold12 : ∀ i, i < h.next → g12.get i = h.get i := fun i hi => by
    rw [hs12.old i (by omega), hs11.old i (by omega), old10 i (by omega) (by omega) (by omega) (by omega), hx9.old i (by omega), old8 i (by omega), hs6.old i (by omega), old5 i (by omega), hx1.old i hi]
  simp only [rn0, rn1, rn2, rn3, rn4, rn5, rn6, rn7, rn8, if_true, if_false, Nat.le_refl, true_and, and_true, decide_true, decide_false, Bool.not_true, Bool.not_false, reduceIte, Nat.reduceEqDiff, Nat.reduceAdd, Nat.reduceMul, Nat.reduceSub, Nat.reduceLeDiff, Nat.reduceLT, res_cc, c12, d12]
  refine ⟨_, rfl, ?_, rfl, hold12, by omega, by omega, by omega⟩
  · have q1 : Ints g11 (.slice bx S.nv bk) S.nv (bestS S).1 := Cells.mono b2 s11
    exact Cells.keep q1 hs12.keep fun a k q e => (b4 a k q e).2.1
open Classical in
noncomputable def errS (S : MB) : Int := if faultS S ≠ 0 then faultS S else if truthsS S = [] then 11 else 0
noncomputable def cntS (S : MB) : Nat := if errS S = 0 then S.nv else 0
theorem errS_zero {S : MB} : errS S = 0 ↔ Good S ∧ truthsS S ≠ [] := by
  unfold errS
  by_cases c1 : faultS S = 0
  · rw [if_neg (by simpa using c1)]
    by_cases c2 : truthsS S = []
    · rw [if_pos c2]; simp [c2]
    · rw [if_neg c2]; simp [c2, good_of c1]
  · rw [if_pos c1]
    exact ⟨fun e => absurd e c1, fun e => fault_of e.1⟩
def s36 : SCode := (.seq (.ops [⟨(some 1), none, .box (T 0)⟩, ⟨(some 2), none, .mov (.const (.slice none 0 0))⟩, ⟨(some 3), none, .mov (.const (.int .i64 (0)))⟩]) (.seq (.ops [⟨(some 9), none, .loadN 5 (T 1)⟩, ⟨(some 10), none, .call (.func 86) [(T 9), (.const (.slice none 0 0))]⟩, ⟨(some 8), none, .mov (T 10)⟩, ⟨(some 11), none, .extract 0 (T 8)⟩, ⟨(some 12), none, .extract 1 (T 8)⟩, ⟨(some 4), none, .alloc [(.int .i64 (0)), (.int .i64 (0)), (.slice none 0 0), (.int .i64 (0)), (.slice none 0 0), (.slice none 0 0)]⟩, ⟨none, none, .store 6 (T 4) (T 11)⟩, ⟨(some 5), none, .mov (T 12)⟩]) (.seq (.seq (.ops [⟨(some 13), none, .mov (T 5)⟩, ⟨(some 14), none, .int2 .neq (T 13) (.const (.int .i64 (0)))⟩]) (.cond (T 14) (.seq (.ops [⟨(some 15), none, .mov (T 5)⟩, ⟨(some 2), none, .mov (.const (.slice none 0 0))⟩, ⟨(some 3), none, .mov (T 15)⟩]) .ret) .skip)) (.seq (.ops [⟨(some 6), none, .mov (.const (.slice none 0 0))⟩]) (.seq (.seq (.ops [⟨(some 16), none, .fieldAddr 0 (T 4)⟩, ⟨(some 17), none, .fieldAddr 2 (T 16)⟩, ⟨(some 18), none, .load1 (T 17)⟩, ⟨(some 19), none, .len (T 18)⟩, ⟨(some 20), none, .mov (.const (.int .i64 (0)))⟩]) (.block 0 (.loop (.seq (.ops [⟨(some 21), none, .int2 .lss (T 20) (T 19)⟩]) (.seq (.cond (T 21) .skip (.exit 0)) (.seq (.block 1 (.seq (.ops [⟨(some 22), none, .mov (T 20)⟩, ⟨(some 7), none, .mov (T 22)⟩]) (.ops [⟨(some 23), none, .mov (T 6)⟩, ⟨(some 24), none, .loadN 6 (T 4)⟩, ⟨(some 25), none, .mov (T 7)⟩, ⟨(some 26), none, .call (.func 87) [(T 24), (T 25)]⟩, ⟨(some 27), none, .bslice 2 1 [(.int .i64 (0)), (.int .i64 (0))] [0] [(T 26)]⟩, ⟨(some 28), none, .append 2 16 (T 23) (T 27)⟩, ⟨(some 6), none, .mov (T 28)⟩]))) (.ops [⟨(some 29), none, .int2 .add (T 20) (.const (.int .i64 (1)))⟩, ⟨(some 20), none, .mov (T 29)⟩]))))))) (.seq (.ops [⟨(some 30), none, .mov (T 6)⟩, ⟨(some 2), none, .mov (T 30)⟩, ⟨(some 3), none, .mov (.const (.int .i64 (0)))⟩]) .ret))))))
theorem fok36 : FnOk Try.prog 36 31 s36 [.tmp 2, .tmp 3] := ⟨Try.f36, _, Try.func36, rfl, Try.ntmps36, by kernel_rfl, by kernel_rfl⟩
set_option maxHeartbeats 1000000 in
theorem boundsV_c (hn : 900 ≤ n) (hr : h.next + 60000 < far) (hfl : h.floor ≤ h.next) {vv sv : Value} {S : MB} (hy : BeatR h vv sv S) (hTh : ThinS S) :
    ∃ r h', call n (.func (.func 36) #[] #[]) [.agg ⟨beL S vv sv⟩] h = some (.tuple ⟨[r, .int .i64 (errS S)]⟩, h') ∧ Ranges h' r (cntS S) (bLo S) (bHi S) ∧ oneCell r = true ∧ (∀ i, i < h.next → h'.get i = h.get i) ∧ h.next ≤ h'.next ∧ h'.next ≤ h.next + 27000 ∧ h'.floor = h.floor := by
  obtain ⟨n, rfl⟩ : ∃ p, n = p + 1 := ⟨n - 1, by omega⟩
  suffices hs : ∃ v h', call (n + 1) (.func (.func 36) #[] #[]) [.agg ⟨beL S vv sv⟩] h = some (v, h') ∧ ∃ r, v = .tuple ⟨[r, .int .i64 (errS S)]⟩ ∧ Ranges h' r (cntS S) (bLo S) (bHi S) ∧ oneCell r = true ∧ (∀ i, i < h.next → h'.get i = h.get i) ∧ h.next ≤ h'.next ∧ h'.next ≤ h.next + 27000 ∧ h'.floor = h.floor by
    obtain ⟨v, h', e, r, rfl, q⟩ := hs
    exact ⟨r, h', e, q⟩
  refine call_any0 fok36 rfl rfl (by simp) ?_
  have rnil : ∀ g : AHeap, Ranges g nilS 0 (bLo S) (bHi S) := fun g => ⟨none, 0, rfl, fun x e => (by cases e), .inl rfl⟩
  simp only [s36, W_seq, W_ops]
  refine ops_box (cs := beL S vv sv) (by omega) rfl hy.one fun g1 hx1 => ?_
  have n1 := hx1.next
  have f1 := hx1.floor
  obtain ⟨v, g2, eo, old2, u2, m2, f2, ho⟩ := open_c (n := n) (h := g1) (by omega) (by omega) (by omega) (hy.mono hx1.sub) hTh (P := True) (cv := nilS) fun _ => conds_nil
  have hold2 : ∀ i, i < h.next → g2.get i = h.get i := fun i hi => by rw [old2 i (by omega), hx1.old i hi]
  rcases ho with ⟨hf, rfl⟩ | ⟨hf, hp, rfl⟩ | ⟨hf, _, ht, rfl⟩ | ⟨hf, _, ht, tv, rfl, hone, hd, hfr, hlong⟩
  · have he : errS S = faultS S := by unfold errS; rw [if_pos hf]
    have hc : cntS S = 0 := by unfold cntS; rw [if_neg (by rw [he]; exact hf)]
    rw [he, hc]
    simp only [rn0, rn1, rn2, rn3, rn4, rn5, rn6, rn7, rn8, if_true, if_false, Nat.le_refl, true_and, and_true, decide_true, decide_false, Bool.not_true, Bool.not_false, reduceIte, Nat.reduceEqDiff, Nat.reduceAdd, Nat.reduceMul, Nat.reduceSub, Nat.reduceLeDiff, Nat.reduceLT, hx1.row.whole (n := 5) rfl, eo, ex0, ex1]
    refine step_new (vs := wkZ) (by omega) (by omega) rfl (by simp only [rn0, rn1, rn2, rn3, rn4, rn5, rn6, rn7, rn8, if_true, if_false, Nat.le_refl, true_and, and_true, decide_true, decide_false, Bool.not_true, Bool.not_false, reduceIte, Nat.reduceEqDiff, Nat.reduceAdd, Nat.reduceMul, Nat.reduceSub, Nat.reduceLeDiff, Nat.reduceLT]; rfl) rfl rfl rfl fun g3 hx3 => ?_
    have n3 := hx3.next
    have f3 := hx3.floor
    simp only [rn0, rn1, rn2, rn3, rn4, rn5, rn6, rn7, rn8, if_true, if_false, Nat.le_refl, true_and, and_true, decide_true, decide_false, Bool.not_true, Bool.not_false, reduceIte, Nat.reduceEqDiff, Nat.reduceAdd, Nat.reduceMul, Nat.reduceSub, Nat.reduceLeDiff, Nat.reduceLT, hf, ret_tt]
    exact ⟨_, rfl, rnil _, rfl, fun i hi => by rw [hx3.old i (by omega), hold2 i hi], by omega, by omega, by omega⟩
  · exact absurd trivial hp
  · have he : errS S = 11 := by unfold errS; rw [if_neg (by simpa using hf), if_pos ht]
    have hc : cntS S = 0 := by unfold cntS; rw [if_neg (by rw [he]; decide)]
    rw [he, hc]
    simp only [rn0, rn1, rn2, rn3, rn4, rn5, rn6, rn7, rn8, if_true, if_false, Nat.le_refl, true_and, and_true, decide_true, decide_false, Bool.not_true, Bool.not_false, reduceIte, Nat.reduceEqDiff, Nat.reduceAdd, Nat.reduceMul, Nat.reduceSub, Nat.reduceLeDiff, Nat.reduceLT, hx1.row.whole (n := 5) rfl, eo, ex0, ex1]
    refine step_new (vs := wkZ) (by omega) (by omega) rfl (by simp only [rn0, rn1, rn2, rn3, rn4, rn5, rn6, rn7, rn8, if_true, if_false, Nat.le_refl, true_and, and_true, decide_true, decide_false, Bool.not_true, Bool.not_false, reduceIte, Nat.reduceEqDiff, Nat.reduceAdd, Nat.reduceMul, Nat.reduceSub, Nat.reduceLeDiff, Nat.reduceLT]; rfl) rfl rfl rfl fun g3 hx3 => ?_
    have n3 := hx3.next
    have f3 := hx3.floor
    simp only [rn0, rn1, rn2, rn3, rn4, rn5, rn6, rn7, rn8, if_true, if_false, Nat.le_refl, true_and, and_true, decide_true, decide_false, Bool.not_true, Bool.not_false, reduceIte, Nat.reduceEqDiff, Nat.reduceAdd, Nat.reduceMul, Nat.reduceSub, Nat.reduceLeDiff, Nat.reduceLT, Int.reduceEq, ret_tt]
    exact ⟨_, rfl, rnil _, rfl, fun i hi => by rw [hx3.old i (by omega), hold2 i hi], by omega, by omega, by omega⟩
  have he : errS S = 0 := errS_zero.2 ⟨good_of hf, ht⟩
  have hc : cntS S = S.nv := by unfold cntS; rw [if_pos he]
  rw [he, hc]
  have hG := good_of hf
  obtain ⟨z0, z1, z3, _⟩ := hG.sizes
  have hy2 := hy.mono (AHeap.subOf hold2)
  simp only [rn0, rn1, rn2, rn3, rn4, rn5, rn6, rn7, rn8, if_true, if_false, Nat.le_refl, true_and, and_true, decide_true, decide_false, Bool.not_true, Bool.not_false, reduceIte, Nat.reduceEqDiff, Nat.reduceAdd, Nat.reduceMul, Nat.reduceSub, Nat.reduceLeDiff, Nat.reduceLT, hx1.row.whole (n := 5) rfl, eo, ex0, ex1]
  refine step_new (vs := wkL S vv sv tv) (by omega) (by omega) rfl (by simp only [rn0, rn1, rn2, rn3, rn4, rn5, rn6, rn7, rn8, if_true, if_false, Nat.le_refl, true_and, and_true, decide_true, decide_false, Bool.not_true, Bool.not_false, reduceIte, Nat.reduceEqDiff, Nat.reduceAdd, Nat.reduceMul, Nat.reduceSub, Nat.reduceLeDiff, Nat.reduceLT]; rfl) (wk_one hy2 hone) rfl rfl fun g3 hx3 => ?_
  have n3 := hx3.next
  have f3 := hx3.floor
  have ho3 : OpS g3 vv sv tv S := ⟨hG, ht, hy2.mono hx3.sub, hone, Cells.mono hd hx3.sub, hlong⟩
  simp only [rn0, rn1, rn2, rn3, rn4, rn5, rn6, rn7, rn8, if_true, if_false, Nat.le_refl, true_and, and_true, decide_true, decide_false, Bool.not_true, Bool.not_false, reduceIte, Nat.reduceEqDiff, Nat.reduceAdd, Nat.reduceMul, Nat.reduceSub, Nat.reduceLeDiff, Nat.reduceLT, hx3.row.ld, wkg, Nat.zero_add, Cells.len ho3.y.v]
  refine W_loop S.nv (fun k f g ms => (∃ v, (∀ i, i < g3.next → g.get i = g3.get i) ∧ g.floor = h.floor ∧ g3.next ≤ g.next ∧ g.next ≤ g3.next + 3 * k ∧ GrowC g3.next g v 2 k (fun k j => .int .i64 (if j = 0 then bLo S k else bHi S k)) ∧ f 6 = v) ∧ ms = [] ∧ f 4 = .pointer (some ⟨g2.next, 0, none⟩) ∧ f 19 = .int .i64 (S.nv : Int) ∧ f 20 = .int .i64 (k : Int)) (by simp; omega) ?_ ?_ ?_
  · simp only [rn0, rn1, rn2, rn3, rn4, rn5, rn6, rn7, rn8, if_true, if_false, Nat.le_refl, true_and, and_true, decide_true, decide_false, Bool.not_true, Bool.not_false, reduceIte, Nat.reduceEqDiff, Nat.reduceAdd, Nat.reduceMul, Nat.reduceSub, Nat.reduceLeDiff, Nat.reduceLT]
    exact ⟨⟨nilS, fun i _ => trivial, by omega, by omega, .nil, rfl⟩, rfl⟩
  · rintro k f g ms hk ⟨⟨v, hs, hfg, hup, hnx, gv, p6⟩, rfl, p4, p19, p20⟩
    have hk' : (k : Int) < (S.nv : Int) := by omega
    have hw : wrapF .i64 ((k : Int) + 1) = ((k + 1 : Nat) : Int) := by rw [wrap_in (by omega) (by omega)]; rfl
    have rg := hx3.row.mono (AHeap.subOf hs)
    have hog := ho3.mono (AHeap.subOf hs)
    have ed := whenDone_c (n := n) (h := g) (by omega) (by omega) hog hk
    simp only [rn0, rn1, rn2, rn3, rn4, rn5, rn6, rn7, rn8, if_true, if_false, Nat.le_refl, true_and, and_true, decide_true, decide_false, Bool.not_true, Bool.not_false, reduceIte, Nat.reduceEqDiff, Nat.reduceAdd, Nat.reduceMul, Nat.reduceSub, Nat.reduceLeDiff, Nat.reduceLT, p4, p6, p19, p20, hk', rg.whole (n := 6) rfl, ed, sl_range]
    refine step_slice (by omega) rfl fun g5 hx5 => ?_
    have n5 := hx5.next
    obtain ⟨v', g6, e6, gv6, o6, n6, f6, old6, u6⟩ := grow_push (h := g) (bytes := 16) gv (by omega) (by omega) (by omega) hx5 rfl rfl (fun j hj => by
      obtain rfl | rfl : j = 0 ∨ j = 1 := by omega
      all_goals rfl) (by simp [maxBytes]; omega) (by simp [maxBytes]; omega)
    simp only [rn0, rn1, rn2, rn3, rn4, rn5, rn6, rn7, rn8, if_true, if_false, Nat.le_refl, true_and, and_true, decide_true, decide_false, Bool.not_true, Bool.not_false, reduceIte, Nat.reduceEqDiff, Nat.reduceAdd, Nat.reduceMul, Nat.reduceSub, Nat.reduceLeDiff, Nat.reduceLT, p4, p6, p19, p20, e6, hw]
    have hfin := And.intro (fun i (hi : i < g3.next) => (by rw [old6 i hi, hs i hi] : g6.get i = g3.get i)) (And.intro (by omega : g6.floor = h.floor) (And.intro (by omega : g3.next ≤ g6.next) (And.intro (by omega : g6.next ≤ g3.next + 3 * (k + 1)) (And.intro gv6 (rfl : v' = v')))))
    first | exact ⟨⟨v', hfin⟩, rfl⟩ | exact ⟨v', hfin⟩
  · rintro f g ms ⟨⟨v, hs, hfg, hup, hnx, gv, p6⟩, rfl, p4, p19, p20⟩
    simp only [rn0, rn1, rn2, rn3, rn4, rn5, rn6, rn7, rn8, if_true, if_false, Nat.le_refl, true_and, and_true, decide_true, decide_false, Bool.not_true, Bool.not_false, reduceIte, Nat.reduceEqDiff, Nat.reduceAdd, Nat.reduceMul, Nat.reduceSub, Nat.reduceLeDiff, Nat.reduceLT, p4, p6, p19, p20, Int.lt_irrefl, ret_tt]
    exact ⟨_, rfl, gv.cells, gv.one, fun i hi => by rw [hs i (by omega), hx3.old i (by omega), hold2 i hi], by omega, by omega, by omega⟩
def s47 : SCode := (.seq (.ops [⟨(some 1), none, .box (T 0)⟩, ⟨(some 2), none, .mov (.const (.slice none 0 0))⟩, ⟨(some 3), none, .mov (.const (.int .i64 (0)))⟩, ⟨(some 4), none, .mov (.const (.int .i64 (0)))⟩]) (.seq (.ops [⟨(some 7), none, .loadN 5 (T 1)⟩, ⟨(some 8), none, .call (.func 86) [(T 7), (.const (.slice none 0 0))]⟩, ⟨(some 6), none, .mov (T 8)⟩, ⟨(some 9), none, .extract 0 (T 6)⟩, ⟨(some 10), none, .extract 1 (T 6)⟩, ⟨(some 5), none, .alloc [(.int .i64 (0)), (.int .i64 (0)), (.slice none 0 0), (.int .i64 (0)), (.slice none 0 0), (.slice none 0 0)]⟩, ⟨none, none, .store 6 (T 5) (T 9)⟩, ⟨(some 4), none, .mov (T 10)⟩]) (.seq (.seq (.ops [⟨(some 11), none, .mov (T 4)⟩, ⟨(some 12), none, .int2 .neq (T 11) (.const (.int .i64 (0)))⟩]) (.cond (T 12) (.seq (.ops [⟨(some 13), none, .mov (T 4)⟩, ⟨(some 2), none, .mov (.const (.slice none 0 0))⟩, ⟨(some 3), none, .mov (.const (.int .i64 (0)))⟩, ⟨(some 4), none, .mov (T 13)⟩]) .ret) .skip)) (.seq (.ops [⟨(some 15), none, .loadN 6 (T 5)⟩, ⟨(some 16), none, .call (.func 96) [(T 15)]⟩, ⟨(some 14), none, .mov (T 16)⟩, ⟨(some 17), none, .extract 0 (T 14)⟩, ⟨(some 18), none, .extract 1 (T 14)⟩, ⟨(some 2), none, .mov (T 17)⟩, ⟨(some 3), none, .mov (T 18)⟩]) (.seq (.ops [⟨(some 19), none, .mov (T 2)⟩, ⟨(some 20), none, .mov (T 3)⟩, ⟨(some 2), none, .mov (T 19)⟩, ⟨(some 3), none, .mov (T 20)⟩, ⟨(some 4), none, .mov (.const (.int .i64 (0)))⟩]) .ret)))))
theorem fok47 : FnOk Try.prog 47 21 s47 [.tmp 2, .tmp 3, .tmp 4] := ⟨Try.f47, _, Try.func47, rfl, Try.ntmps47, by kernel_rfl, by kernel_rfl⟩
set_option maxHeartbeats 1000000 in
theorem bestV_c (hn : 1100 ≤ n) (hr : h.next + 80000 < far) (hfl : h.floor ≤ h.next) {vv sv : Value} {S : MB} (hy : BeatR h vv sv S) (hTh : ThinS S) :
    ∃ r h', call n (.func (.func 47) #[] #[]) [.agg ⟨beL S vv sv⟩] h = some (.tuple ⟨[r, .int .i64 (if errS S = 0 then (bestS S).2 else 0), .int .i64 (errS S)]⟩, h') ∧ Ints h' r (cntS S) (bestS S).1 ∧ oneCell r = true ∧ (∀ i, i < h.next → h'.get i = h.get i) ∧ h.next ≤ h'.next ∧ h'.next ≤ h.next + 40000 ∧ h'.floor = h.floor := by
  obtain ⟨n, rfl⟩ : ∃ p, n = p + 1 := ⟨n - 1, by omega⟩
  suffices hs : ∃ v h', call (n + 1) (.func (.func 47) #[] #[]) [.agg ⟨beL S vv sv⟩] h = some (v, h') ∧ ∃ r, v = .tuple ⟨[r, .int .i64 (if errS S = 0 then (bestS S).2 else 0), .int .i64 (errS S)]⟩ ∧ Ints h' r (cntS S) (bestS S).1 ∧ oneCell r = true ∧ (∀ i, i < h.next → h'.get i = h.get i) ∧ h.next ≤ h'.next ∧ h'.next ≤ h.next + 40000 ∧ h'.floor = h.floor by
    obtain ⟨v, h', e, r, rfl, q⟩ := hs
    exact ⟨r, h', e, q⟩
  refine call_any0 fok47 rfl rfl (by simp) ?_
  have rnil : ∀ g : AHeap, Ints g nilS 0 (bestS S).1 := fun g => ⟨none, 0, rfl, fun x e => (by cases e), .inl rfl⟩
  simp only [s47, W_seq, W_ops]
  refine ops_box (cs := beL S vv sv) (by omega) rfl hy.one fun g1 hx1 => ?_
  have n1 := hx1.next
  have f1 := hx1.floor
  obtain ⟨v, g2, eo, old2, u2, m2, f2, ho⟩ := open_c (n := n) (h := g1) (by omega) (by omega) (by omega) (hy.mono hx1.sub) hTh (P := True) (cv := nilS) fun _ => conds_nil
  have hold2 : ∀ i, i < h.next → g2.get i = h.get i := fun i hi => by rw [old2 i (by omega), hx1.old i hi]
  rcases ho with ⟨hf, rfl⟩ | ⟨hf, hp, rfl⟩ | ⟨hf, _, ht, rfl⟩ | ⟨hf, _, ht, tv, rfl, hone, hd, hfr, hlong⟩
  · have he : errS S = faultS S := by unfold errS; rw [if_pos hf]
    have hc : cntS S = 0 := by unfold cntS; rw [if_neg (by rw [he]; exact hf)]
    rw [he, hc, if_neg hf]
    simp only [rn0, rn1, rn2, rn3, rn4, rn5, rn6, rn7, rn8, if_true, if_false, Nat.le_refl, true_and, and_true, decide_true, decide_false, Bool.not_true, Bool.not_false, reduceIte, Nat.reduceEqDiff, Nat.reduceAdd, Nat.reduceMul, Nat.reduceSub, Nat.reduceLeDiff, Nat.reduceLT, hx1.row.whole (n := 5) rfl, eo, ex0, ex1]
    refine step_new (vs := wkZ) (by omega) (by omega) rfl (by simp only [rn0, rn1, rn2, rn3, rn4, rn5, rn6, rn7, rn8, if_true, if_false, Nat.le_refl, true_and, and_true, decide_true, decide_false, Bool.not_true, Bool.not_false, reduceIte, Nat.reduceEqDiff, Nat.reduceAdd, Nat.reduceMul, Nat.reduceSub, Nat.reduceLeDiff, Nat.reduceLT]; rfl) rfl rfl rfl fun g3 hx3 => ?_
    have n3 := hx3.next
    have f3 := hx3.floor
    simp only [rn0, rn1, rn2, rn3, rn4, rn5, rn6, rn7, rn8, if_true, if_false, Nat.le_refl, true_and, and_true, decide_true, decide_false, Bool.not_true, Bool.not_false, reduceIte, Nat.reduceEqDiff, Nat.reduceAdd, Nat.reduceMul, Nat.reduceSub, Nat.reduceLeDiff, Nat.reduceLT, hf, ret_ttt]
    exact ⟨_, rfl, rnil _, rfl, fun i hi => by rw [hx3.old i (by omega), hold2 i hi], by omega, by omega, by omega⟩
  · exact absurd trivial hp
  · have he : errS S = 11 := by unfold errS; rw [if_neg (by simpa using hf), if_pos ht]
    have hc : cntS S = 0 := by unfold cntS; rw [if_neg (by rw [he]; decide)]
    rw [he, hc, if_neg (by decide)]
    simp only [rn0, rn1, rn2, rn3, rn4, rn5, rn6, rn7, rn8, if_true, if_false, Nat.le_refl, true_and, and_true, decide_true, decide_false, Bool.not_true, Bool.not_false, reduceIte, Nat.reduceEqDiff, Nat.reduceAdd, Nat.reduceMul, Nat.reduceSub, Nat.reduceLeDiff, Nat.reduceLT, hx1.row.whole (n := 5) rfl, eo, ex0, ex1]
    refine step_new (vs := wkZ) (by omega) (by omega) rfl (by simp only [rn0, rn1, rn2, rn3, rn4, rn5, rn6, rn7, rn8, if_true, if_false, Nat.le_refl, true_and, and_true, decide_true, decide_false, Bool.not_true, Bool.not_false, reduceIte, Nat.reduceEqDiff, Nat.reduceAdd, Nat.reduceMul, Nat.reduceSub, Nat.reduceLeDiff, Nat.reduceLT]; rfl) rfl rfl rfl fun g3 hx3 => ?_
    have n3 := hx3.next
    have f3 := hx3.floor
    simp only [rn0, rn1, rn2, rn3, rn4, rn5, rn6, rn7, rn8, if_true, if_false, Nat.le_refl, true_and, and_true, decide_true, decide_false, Bool.not_true, Bool.not_false, reduceIte, Nat.reduceEqDiff, Nat.reduceAdd, Nat.reduceMul, Nat.reduceSub, Nat.reduceLeDiff, Nat.reduceLT, Int.reduceEq, ret_ttt]
    exact ⟨_, rfl, rnil _, rfl, fun i hi => by rw [hx3.old i (by omega), hold2 i hi], by omega, by omega, by omega⟩
  have he : errS S = 0 := errS_zero.2 ⟨good_of hf, ht⟩
  have hc : cntS S = S.nv := by unfold cntS; rw [if_pos he]
  rw [he, hc, if_pos rfl]
  have hG := good_of hf
  have hy2 := hy.mono (AHeap.subOf hold2)
  simp only [rn0, rn1, rn2, rn3, rn4, rn5, rn6, rn7, rn8, if_true, if_false, Nat.le_refl, true_and, and_true, decide_true, decide_false, Bool.not_true, Bool.not_false, reduceIte, Nat.reduceEqDiff, Nat.reduceAdd, Nat.reduceMul, Nat.reduceSub, Nat.reduceLeDiff, Nat.reduceLT, hx1.row.whole (n := 5) rfl, eo, ex0, ex1]
  refine step_new (vs := wkL S vv sv tv) (by omega) (by omega) rfl (by simp only [rn0, rn1, rn2, rn3, rn4, rn5, rn6, rn7, rn8, if_true, if_false, Nat.le_refl, true_and, and_true, decide_true, decide_false, Bool.not_true, Bool.not_false, reduceIte, Nat.reduceEqDiff, Nat.reduceAdd, Nat.reduceMul, Nat.reduceSub, Nat.reduceLeDiff, Nat.reduceLT]; rfl) (wk_one hy2 hone) rfl rfl fun g3 hx3 => ?_
  have n3 := hx3.next
  have f3 := hx3.floor
  have ho3 : OpS g3 vv sv tv S := ⟨hG, ht, hy2.mono hx3.sub, hone, Cells.mono hd hx3.sub, hlong⟩
  obtain ⟨bv, g4, e4, b4, o4, old4, u4, m4, f4⟩ := bestE_c (n := n) (h := g3) (by omega) (by omega) (by omega) ho3
  simp only [rn0, rn1, rn2, rn3, rn4, rn5, rn6, rn7, rn8, if_true, if_false, Nat.le_refl, true_and, and_true, decide_true, decide_false, Bool.not_true, Bool.not_false, reduceIte, Nat.reduceEqDiff, Nat.reduceAdd, Nat.reduceMul, Nat.reduceSub, Nat.reduceLeDiff, Nat.reduceLT, hx3.row.whole (n := 6) rfl, e4, ex0, ex1, ret_ttt]
  exact ⟨_, rfl, b4, o4, fun i hi => by rw [old4 i (by omega), hx3.old i (by omega), hold2 i hi], by omega, by omega, by omega⟩
open Classical in
noncomputable def errE (S : MB) (m : Nat) (a : Nat → Int) : Int := if faultS S ≠ 0 then faultS S else if ¬ Hours S m a then 2 else if truthsS S = [] then 11 else 0
theorem errE_zero {S : MB} {m : Nat} {a : Nat → Int} : errE S m a = 0 ↔ Good S ∧ Hours S m a ∧ truthsS S ≠ [] := by
  unfold errE
  by_cases c1 : faultS S = 0
  · rw [if_neg (by simpa using c1)]
    by_cases c3 : Hours S m a
    · rw [if_neg (by simpa using c3)]
      by_cases c2 : truthsS S = []
      · rw [if_pos c2]; simp [c2]
      · rw [if_neg c2]; simp [c2, c3, good_of c1]
    · rw [if_pos c3]; simp [c3]
  · rw [if_pos c1]
    exact ⟨fun e => absurd e c1, fun e => fault_of e.1⟩
def s92 : SCode := (.seq (.ops [⟨(some 2), none, .box (T 0)⟩, ⟨(some 3), none, .mov (.const (.bool false))⟩]) (.seq (.ops [⟨(some 4), none, .loadN 6 (T 2)⟩, ⟨(some 5), none, .load1 (T 1)⟩, ⟨(some 6), none, .call (.func 79) [(T 4), (T 5)]⟩, ⟨(some 3), none, .mov (T 6)⟩]) .ret))
theorem fok92 : FnOk Try.prog 92 7 s92 [.tmp 3] := ⟨Try.f92, _, Try.func92, rfl, Try.ntmps92, by kernel_rfl, by kernel_rfl⟩
theorem losses1_c (hn : 120 ≤ n) (hr : h.next + 110 < far) {vv sv lv : Value} {S : MB} {m : Nat} {a : Nat → Int} {p : Nat} (hy : BeatR h vv sv S) (hp : Row h p [lv]) (hc : Ints h lv m a) (h30 : m ≤ 30) :
    call n (.func (.func 92) ⟨[]⟩ ⟨[.pointer (some ⟨p, 0, none⟩)]⟩) [.agg ⟨wkL S vv sv nilS⟩] h = some (.bool (decide (Hours S m a)), h) := by
  obtain ⟨n, rfl⟩ : ∃ p, n = p + 1 := ⟨n - 1, by omega⟩
  refine call_plain (xs := []) (ys := [.pointer (some ⟨p, 0, none⟩)]) fok92 rfl rfl (by simp) rfl ?_
  have hy := hy.shut
  have hc := Cells.shut hc
  have hp : Row h.shutAll p [lv] := hp.mono fun _ _ _ _ _ h => h
  have hr : h.shutAll.next + 110 < far := hr
  generalize h.shutAll = h at hy hc hp hr
  simp only [s92, List.cons_append, List.nil_append, W_seq, W_ops]
  refine ops_box (cs := wkL S vv sv nilS) (by omega) rfl (wk_one hy rfl) fun g1 hx1 => ?_
  have n1 := hx1.next
  have ee := isEnds_c (n := n) (h := g1) (tv := nilS) (by omega) (by omega) (hy.mono hx1.sub) rfl (Cells.mono hc hx1.sub) h30
  simp only [rn0, rn1, rn2, rn3, rn4, rn5, rn6, rn7, rn8, if_true, if_false, Nat.le_refl, true_and, and_true, decide_true, decide_false, Bool.not_true, Bool.not_false, reduceIte, Nat.reduceEqDiff, Nat.reduceAdd, Nat.reduceMul, Nat.reduceSub, Nat.reduceLeDiff, Nat.reduceLT, hx1.row.whole (n := 6) rfl, (hp.mono hx1.sub).ld, Nat.zero_add, List.getElem?_cons_zero, ee]
theorem sl_fn {f : Value} (hf : oneCell f = true) : buildSl 1 1 [.nilFunc] [0] h [f] = newSlice h [f] 1 1 0 := by
  cases f <;> first | (cases hf; done) | rfl
def s44 : SCode := (.seq (.ops [⟨(some 2), none, .box (T 0)⟩, ⟨(some 3), none, .box (T 1)⟩, ⟨(some 4), none, .alloc [(.int .i64 (0)), (.int .i64 (0))]⟩, ⟨(some 5), none, .mov (.const (.int .i64 (0)))⟩]) (.seq (.ops [⟨(some 9), none, .loadN 5 (T 2)⟩, ⟨(some 10), none, .mkfunc 92 [] [(T 3)]⟩, ⟨(some 11), none, .bslice 1 1 [.nilFunc] [0] [(T 10)]⟩, ⟨(some 12), none, .call (.func 86) [(T 9), (T 11)]⟩, ⟨(some 8), none, .mov (T 12)⟩, ⟨(some 13), none, .extract 0 (T 8)⟩, ⟨(some 14), none, .extract 1 (T 8)⟩, ⟨(some 6), none, .alloc [(.int .i64 (0)), (.int .i64 (0)), (.slice none 0 0), (.int .i64 (0)), (.slice none 0 0), (.slice none 0 0)]⟩, ⟨none, none, .store 6 (T 6) (T 13)⟩, ⟨(some 7), none, .mov (T 14)⟩]) (.seq (.seq (.ops [⟨(some 15), none, .mov (T 7)⟩, ⟨(some 16), none, .int2 .neq (T 15) (.const (.int .i64 (0)))⟩]) (.cond (T 16) (.seq (.ops [⟨(some 17), none, .build #[(0, 1), (1, 1)] [(.int .i64 (0)), (.int .i64 (0))] [] []⟩, ⟨(some 18), none, .mov (T 7)⟩, ⟨none, none, .store 2 (T 4) (T 17)⟩, ⟨(some 5), none, .mov (T 18)⟩]) .ret) .skip)) (.seq (.ops [⟨(some 19), none, .loadN 6 (T 6)⟩, ⟨(some 20), none, .load1 (T 3)⟩, ⟨(some 21), none, .call (.func 93) [(T 19), (T 20)]⟩, ⟨none, none, .store 2 (T 4) (T 21)⟩, ⟨(some 5), none, .mov (.const (.int .i64 (0)))⟩]) .ret))))
theorem fok44 : FnOk Try.prog 44 22 s44 [.cellN 4 2, .tmp 5] := ⟨Try.f44, _, Try.func44, rfl, Try.ntmps44, by kernel_rfl, by kernel_rfl⟩
set_option maxHeartbeats 1000000 in
theorem lossesV_c (hn : 1000 ≤ n) (hr : h.next + 60000 < far) {vv sv lv : Value} {S : MB} {m : Nat} {a : Nat → Int} (hy : BeatR h vv sv S) (hTh : ThinS S) (hl : Ints h lv m a) (h30 : m ≤ 30) :
    call n (.func (.func 44) #[] #[]) [.agg ⟨beL S vv sv⟩, lv] h = some (.tuple ⟨[.agg ⟨[.int .i64 (if errE S m a = 0 then wLo S a S.nv else 0), .int .i64 (if errE S m a = 0 then wHi S a S.nv else 0)]⟩, .int .i64 (errE S m a)]⟩, h) := by
  obtain ⟨n, rfl⟩ : ∃ p, n = p + 1 := ⟨n - 1, by omega⟩
  refine call_plain0 fok44 rfl rfl (by simp) rfl ?_
  have hy := hy.shut
  have hl := Cells.shut hl
  have hr : h.shutAll.next + 60000 < far := hr
  have hfl : h.shutAll.floor ≤ h.shutAll.next := Nat.le_refl _
  generalize h.shutAll = h at hy hl hr hfl
  simp only [s44, W_seq, W_ops]
  refine ops_box (cs := beL S vv sv) (by omega) rfl hy.one fun g1 hx1 => ?_
  have n1 := hx1.next
  have f1 := hx1.floor
  refine ops_box (cs := [lv]) (by omega) (by simp only [rn0, rn1, rn2, rn3, rn4, rn5, rn6, rn7, rn8, if_true, if_false, Nat.le_refl, true_and, and_true, decide_true, decide_false, Bool.not_true, Bool.not_false, reduceIte, Nat.reduceEqDiff, Nat.reduceAdd, Nat.reduceMul, Nat.reduceSub, Nat.reduceLeDiff, Nat.reduceLT]; exact cells1 (Cells.one hl)) (by simp [allB, Cells.one hl]) fun g2 hx2 => ?_
  have n2 := hx2.next
  have f2 := hx2.floor
  refine ops_alloc (cs := [.int .i64 0, .int .i64 0]) (by omega) rfl fun g3 hx3 => ?_
  have n3 := hx3.next
  have f3 := hx3.floor
  have sub3 : Sub All h g3 := hx1.sub.trans (hx2.sub.trans hx3.sub)
  have w3 := ((hx1.row.mono hx2.sub).mono hx3.sub).whole (n := 5) rfl
  simp only [rn0, rn1, rn2, rn3, rn4, rn5, rn6, rn7, rn8, if_true, if_false, Nat.le_refl, true_and, and_true, decide_true, decide_false, Bool.not_true, Bool.not_false, reduceIte, Nat.reduceEqDiff, Nat.reduceAdd, Nat.reduceMul, Nat.reduceSub, Nat.reduceLeDiff, Nat.reduceLT, w3, sl_fn (show oneCell (.func (.func 92) ⟨[]⟩ ⟨[.pointer (some ⟨g1.next, 0, none⟩)]⟩) = true from rfl)]
  refine step_slice (by omega) rfl fun g4 hx4 => ?_
  have n4 := hx4.next
  have f4 := hx4.floor
  have sub4 := sub3.trans hx4.sub
  have hcs : Cells g4 (.slice (some ⟨g3.next, 0, none⟩) 1 1) 1 1 (fun _ _ => .func (.func 92) ⟨[]⟩ ⟨[.pointer (some ⟨g1.next, 0, none⟩)]⟩) := ⟨_, _, rfl, fun x e => by cases e; rfl, .inr ⟨_, 0, _, _, _, rfl, hx4.get, fun i j hi hj => by
    obtain rfl : i = 0 := by omega
    obtain rfl : j = 0 := by omega
    rfl⟩⟩
  have hrow2 : Row g4 g1.next [lv] := (hx2.row.mono hx3.sub).mono hx4.sub
  have hy4 := hy.mono sub4
  have hl4 : Ints g4 lv m a := Cells.mono hl sub4
  obtain ⟨v, g5, eo, old5, u5, m5, f5, ho⟩ := open_c (n := n) (h := g4) (by omega) (by omega) (by omega) hy4 hTh (P := Hours S m a) (cv := .slice (some ⟨g3.next, 0, none⟩) 1 1) fun hG =>
    ⟨1, _, fun _ => Hours S m a, by omega, hcs, ⟨fun e _ _ => e, fun e => e 0 (by omega)⟩, fun i hi => ⟨decide (Hours S m a), decide_eq_true_iff, fun n' hn' g hs hg => losses1_c (by omega) (by omega) (hy4.mono hs) (hrow2.mono hs) (Cells.mono hl4 hs) h30⟩⟩
  have r6 : g5.get g2.next = some (.row [.int .i64 0, .int .i64 0] true 0) := by rw [old5 _ (by omega), hx4.old _ (by omega)]; exact hx3.get
  have err : ∀ e : Int, e ≠ 0 → errE S m a = e → v = .tuple ⟨[.agg ⟨wkZ⟩, .int .i64 e]⟩ → (errE S m a = 0) = False := fun e h1 h2 _ => by rw [h2]; exact eq_false h1
  rcases ho with ⟨hf, rfl⟩ | ⟨hf, hp, rfl⟩ | ⟨hf, hp, ht, rfl⟩ | ⟨hf, hp, ht, tv, rfl, hone, hd, hfr, hlong⟩
  · have he : errE S m a = faultS S := by unfold errE; rw [if_pos hf]
    rw [he, if_neg hf, if_neg hf]
    simp only [rn0, rn1, rn2, rn3, rn4, rn5, rn6, rn7, rn8, if_true, if_false, Nat.le_refl, true_and, and_true, decide_true, decide_false, Bool.not_true, Bool.not_false, reduceIte, Nat.reduceEqDiff, Nat.reduceAdd, Nat.reduceMul, Nat.reduceSub, Nat.reduceLeDiff, Nat.reduceLT, eo, ex0, ex1]
    refine step_new (vs := wkZ) (by omega) (by omega) rfl (by simp only [rn0, rn1, rn2, rn3, rn4, rn5, rn6, rn7, rn8, if_true, if_false, Nat.le_refl, true_and, and_true, decide_true, decide_false, Bool.not_true, Bool.not_false, reduceIte, Nat.reduceEqDiff, Nat.reduceAdd, Nat.reduceMul, Nat.reduceSub, Nat.reduceLeDiff, Nat.reduceLT]; rfl) rfl rfl rfl fun g6 hx6 => ?_
    have n6 := hx6.next
    have f6 := hx6.floor
    simp only [rn0, rn1, rn2, rn3, rn4, rn5, rn6, rn7, rn8, if_true, if_false, Nat.le_refl, true_and, and_true, decide_true, decide_false, Bool.not_true, Bool.not_false, reduceIte, Nat.reduceEqDiff, Nat.reduceAdd, Nat.reduceMul, Nat.reduceSub, Nat.reduceLeDiff, Nat.reduceLT, hf, build_rng0]
    refine step_store (b := g2.next) (off := 0) (vs := [.int .i64 0, .int .i64 0]) rfl (by rw [hx6.old _ (by omega)]; exact r6) (by omega) (by omega) rfl rfl rfl (by simp) fun g7 hs7 => ?_
    rw [splice2] at hs7
    simp only [rn0, rn1, rn2, rn3, rn4, rn5, rn6, rn7, rn8, if_true, if_false, Nat.le_refl, true_and, and_true, decide_true, decide_false, Bool.not_true, Bool.not_false, reduceIte, Nat.reduceEqDiff, Nat.reduceAdd, Nat.reduceMul, Nat.reduceSub, Nat.reduceLeDiff, Nat.reduceLT, res_two, hs7.row.whole (n := 2) rfl]
  · have he : errE S m a = 2 := by unfold errE; rw [if_neg (by simpa using hf), if_pos hp]
    rw [he, if_neg (by decide), if_neg (by decide)]
    simp only [rn0, rn1, rn2, rn3, rn4, rn5, rn6, rn7, rn8, if_true, if_false, Nat.le_refl, true_and, and_true, decide_true, decide_false, Bool.not_true, Bool.not_false, reduceIte, Nat.reduceEqDiff, Nat.reduceAdd, Nat.reduceMul, Nat.reduceSub, Nat.reduceLeDiff, Nat.reduceLT, eo, ex0, ex1]
    refine step_new (vs := wkZ) (by omega) (by omega) rfl (by simp only [rn0, rn1, rn2, rn3, rn4, rn5, rn6, rn7, rn8, if_true, if_false, Nat.le_refl, true_and, and_true, decide_true, decide_false, Bool.not_true, Bool.not_false, reduceIte, Nat.reduceEqDiff, Nat.reduceAdd, Nat.reduceMul, Nat.reduceSub, Nat.reduceLeDiff, Nat.reduceLT]; rfl) rfl rfl rfl fun g6 hx6 => ?_
    have n6 := hx6.next
    have f6 := hx6.floor
    simp only [rn0, rn1, rn2, rn3, rn4, rn5, rn6, rn7, rn8, if_true, if_false, Nat.le_refl, true_and, and_true, decide_true, decide_false, Bool.not_true, Bool.not_false, reduceIte, Nat.reduceEqDiff, Nat.reduceAdd, Nat.reduceMul, Nat.reduceSub, Nat.reduceLeDiff, Nat.reduceLT, Int.reduceEq, build_rng0]
    refine step_store (b := g2.next) (off := 0) (vs := [.int .i64 0, .int .i64 0]) rfl (by rw [hx6.old _ (by omega)]; exact r6) (by omega) (by omega) rfl rfl rfl (by simp) fun g7 hs7 => ?_
    rw [splice2] at hs7
    simp only [rn0, rn1, rn2, rn3, rn4, rn5, rn6, rn7, rn8, if_true, if_false, Nat.le_refl, true_and, and_true, decide_true, decide_false, Bool.not_true, Bool.not_false, reduceIte, Nat.reduceEqDiff, Nat.reduceAdd, Nat.reduceMul, Nat.reduceSub, Nat.reduceLeDiff, Nat.reduceLT, res_two, hs7.row.whole (n := 2) rfl]
  · have he : errE S m a = 11 := by unfold errE; rw [if_neg (by simpa using hf), if_neg (by simpa using hp), if_pos ht]
    rw [he, if_neg (by decide), if_neg (by decide)]
    simp only [rn0, rn1, rn2, rn3, rn4, rn5, rn6, rn7, rn8, if_true, if_false, Nat.le_refl, true_and, and_true, decide_true, decide_false, Bool.not_true, Bool.not_false, reduceIte, Nat.reduceEqDiff, Nat.reduceAdd, Nat.reduceMul, Nat.reduceSub, Nat.reduceLeDiff, Nat.reduceLT, eo, ex0, ex1]
    refine step_new (vs := wkZ) (by omega) (by omega) rfl (by simp only [rn0, rn1, rn2, rn3, rn4, rn5, rn6, rn7, rn8, if_true, if_false, Nat.le_refl, true_and, and_true, decide_true, decide_false, Bool.not_true, Bool.not_false, reduceIte, Nat.reduceEqDiff, Nat.reduceAdd, Nat.reduceMul, Nat.reduceSub, Nat.reduceLeDiff, Nat.reduceLT]; rfl) rfl rfl rfl fun g6 hx6 => ?_
    have n6 := hx6.next
    have f6 := hx6.floor
    simp only [rn0, rn1, rn2, rn3, rn4, rn5, rn6, rn7, rn8, if_true, if_false, Nat.le_refl, true_and, and_true, decide_true, decide_false, Bool.not_true, Bool.not_false, reduceIte, Nat.reduceEqDiff, Nat.reduceAdd, Nat.reduceMul, Nat.reduceSub, Nat.reduceLeDiff, Nat.reduceLT, Int.reduceEq, build_rng0]
    refine step_store (b := g2.next) (off := 0) (vs := [.int .i64 0, .int .i64 0]) rfl (by rw [hx6.old _ (by omega)]; exact r6) (by omega) (by omega) rfl rfl rfl (by simp) fun g7 hs7 => ?_
    rw [splice2] at hs7
    simp only [rn0, rn1, rn2, rn3, rn4, rn5, rn6, rn7, rn8, if_true, if_false, Nat.le_refl, true_and, and_true, decide_true, decide_false, Bool.not_true, Bool.not_false, reduceIte, Nat.reduceEqDiff, Nat.reduceAdd, Nat.reduceMul, Nat.reduceSub, Nat.reduceLeDiff, Nat.reduceLT, res_two, hs7.row.whole (n := 2) rfl]
  have hG := good_of hf
  have he : errE S m a = 0 := errE_zero.2 ⟨hG, hp, ht⟩
  rw [he, if_pos rfl, if_pos rfl]
  have sub5 : Sub All g4 g5 := AHeap.subOf old5
  have hy5 := hy4.mono sub5
  obtain ⟨z0, z1, _⟩ := hG.sizes
  simp only [rn0, rn1, rn2, rn3, rn4, rn5, rn6, rn7, rn8, if_true, if_false, Nat.le_refl, true_and, and_true, decide_true, decide_false, Bool.not_true, Bool.not_false, reduceIte, Nat.reduceEqDiff, Nat.reduceAdd, Nat.reduceMul, Nat.reduceSub, Nat.reduceLeDiff, Nat.reduceLT, eo, ex0, ex1]
  refine step_new (vs := wkL S vv sv tv) (by omega) (by omega) rfl (by simp only [rn0, rn1, rn2, rn3, rn4, rn5, rn6, rn7, rn8, if_true, if_false, Nat.le_refl, true_and, and_true, decide_true, decide_false, Bool.not_true, Bool.not_false, reduceIte, Nat.reduceEqDiff, Nat.reduceAdd, Nat.reduceMul, Nat.reduceSub, Nat.reduceLeDiff, Nat.reduceLT]; rfl) (wk_one hy5 hone) rfl rfl fun g6 hx6 => ?_
  have n6 := hx6.next
  have f6 := hx6.floor
  have ho6 : OpS g6 vv sv tv S := ⟨hG, ht, hy5.mono hx6.sub, hone, Cells.mono hd hx6.sub, hlong⟩
  have hmv : m = S.nv := hp.1
  subst hmv
  have hle := losses_c (n := n) (h := g6) (by omega) (by omega) ho6 (Cells.mono (Cells.mono hl4 sub5) hx6.sub) (Nat.le_refl _) fun v hv => by have := hp.2 v hv; omega
  simp only [rn0, rn1, rn2, rn3, rn4, rn5, rn6, rn7, rn8, if_true, if_false, Nat.le_refl, true_and, and_true, decide_true, decide_false, Bool.not_true, Bool.not_false, reduceIte, Nat.reduceEqDiff, Nat.reduceAdd, Nat.reduceMul, Nat.reduceSub, Nat.reduceLeDiff, Nat.reduceLT, hx6.row.whole (n := 6) rfl, ((hrow2.mono sub5).mono hx6.sub).ld, Nat.zero_add, List.getElem?_cons_zero, hle]
  refine step_store (b := g2.next) (off := 0) (vs := [.int .i64 (wLo S a S.nv), .int .i64 (wHi S a S.nv)]) rfl (by rw [hx6.old _ (by omega)]; exact r6) (by omega) (by omega) rfl rfl rfl (by simp) fun g7 hs7 => ?_
  rw [splice2] at hs7
  simp only [rn0, rn1, rn2, rn3, rn4, rn5, rn6, rn7, rn8, if_true, if_false, Nat.le_refl, true_and, and_true, decide_true, decide_false, Bool.not_true, Bool.not_false, reduceIte, Nat.reduceEqDiff, Nat.reduceAdd, Nat.reduceMul, Nat.reduceSub, Nat.reduceLeDiff, Nat.reduceLT, res_two, hs7.row.whole (n := 2) rfl]
def s48 : SCode := (.seq (.ops [⟨(some 3), none, .box (T 0)⟩, ⟨(some 6), none, .mov (.const (.bool false))⟩]) (.seq (.ops [⟨(some 10), none, .loadN 5 (T 3)⟩, ⟨(some 11), none, .mov (T 1)⟩, ⟨(some 12), none, .call (.func 44) [(T 10), (T 11)]⟩, ⟨(some 9), none, .mov (T 12)⟩, ⟨(some 13), none, .extract 0 (T 9)⟩, ⟨(some 14), none, .extract 1 (T 9)⟩, ⟨(some 7), none, .alloc [(.int .i64 (0)), (.int .i64 (0))]⟩, ⟨none, none, .store 2 (T 7) (T 13)⟩, ⟨(some 8), none, .mov (T 14)⟩]) (.seq (.ops [⟨(some 15), none, .mov (T 8)⟩, ⟨(some 16), none, .int2 .eql (T 15) (.const (.int .i64 (0)))⟩, ⟨(some 17), none, .mov (T 16)⟩, ⟨(some 18), (some (17, true)), .fieldAddr 1 (T 7)⟩, ⟨(some 19), (some (17, true)), .load1 (T 18)⟩, ⟨(some 20), (some (17, true)), .mov (T 2)⟩, ⟨(some 21), (some (17, true)), .int2 .leq (T 19) (T 20)⟩, ⟨(some 22), none, .pick (T 17) (T 21) (.const (.bool false))⟩, ⟨(some 6), none, .mov (T 22)⟩]) .ret)))
theorem fok48 : FnOk Try.prog 48 23 s48 [.tmp 6] := ⟨Try.f48, _, Try.func48, rfl, Try.ntmps48, by kernel_rfl, by kernel_rfl⟩
theorem proveBest_c (hn : 1100 ≤ n) (hr : h.next + 61000 < far) {vv sv lv : Value} {S : MB} {m : Nat} {a : Nat → Int} (hy : BeatR h vv sv S) (hTh : ThinS S) (hl : Ints h lv m a) (h30 : m ≤ 30) (w : Int) :
    call n (.func (.func 48) #[] #[]) [.agg ⟨beL S vv sv⟩, lv, .int .i64 w] h = some (.bool (decide (errE S m a = 0 ∧ wHi S a S.nv ≤ w)), h) := by
  obtain ⟨n, rfl⟩ : ∃ p, n = p + 1 := ⟨n - 1, by omega⟩
  refine call_plain0 fok48 rfl rfl (by simp) rfl ?_
  have hy := hy.shut
  have hl := Cells.shut hl
  have hr : h.shutAll.next + 61000 < far := hr
  have hfl : h.shutAll.floor ≤ h.shutAll.next := Nat.le_refl _
  generalize h.shutAll = h at hy hl hr hfl
  simp only [s48, W_seq, W_ops]
  refine ops_box (cs := beL S vv sv) (by omega) rfl hy.one fun g1 hx1 => ?_
  have n1 := hx1.next
  have f1 := hx1.floor
  have el := lossesV_c (n := n) (h := g1) (by omega) (by omega) (hy.mono hx1.sub) hTh (Cells.mono hl hx1.sub) h30
  simp only [rn0, rn1, rn2, rn3, rn4, rn5, rn6, rn7, rn8, if_true, if_false, Nat.le_refl, true_and, and_true, decide_true, decide_false, Bool.not_true, Bool.not_false, reduceIte, Nat.reduceEqDiff, Nat.reduceAdd, Nat.reduceMul, Nat.reduceSub, Nat.reduceLeDiff, Nat.reduceLT, hx1.row.whole (n := 5) rfl, el, ex0, ex1]
  refine step_new (vs := [.int .i64 (if errE S m a = 0 then wLo S a S.nv else 0), .int .i64 (if errE S m a = 0 then wHi S a S.nv else 0)]) (by omega) (by omega) rfl (by simp only [rn0, rn1, rn2, rn3, rn4, rn5, rn6, rn7, rn8, if_true, if_false, Nat.le_refl, true_and, and_true, decide_true, decide_false, Bool.not_true, Bool.not_false, reduceIte, Nat.reduceEqDiff, Nat.reduceAdd, Nat.reduceMul, Nat.reduceSub, Nat.reduceLeDiff, Nat.reduceLT]; rfl) rfl rfl rfl fun g2 hx2 => ?_
  by_cases he : errE S m a = 0
  · by_cases hw : wHi S a S.nv ≤ w
    · simp only [rn0, rn1, rn2, rn3, rn4, rn5, rn6, rn7, rn8, if_true, if_false, Nat.le_refl, true_and, and_true, decide_true, decide_false, Bool.not_true, Bool.not_false, reduceIte, Nat.reduceEqDiff, Nat.reduceAdd, Nat.reduceMul, Nat.reduceSub, Nat.reduceLeDiff, Nat.reduceLT, he, hx2.ld, Nat.zero_add, List.getElem?_cons_zero, List.getElem?_cons_succ, hw, and_self]
    · simp only [rn0, rn1, rn2, rn3, rn4, rn5, rn6, rn7, rn8, if_true, if_false, Nat.le_refl, true_and, and_true, decide_true, decide_false, Bool.not_true, Bool.not_false, reduceIte, Nat.reduceEqDiff, Nat.reduceAdd, Nat.reduceMul, Nat.reduceSub, Nat.reduceLeDiff, Nat.reduceLT, he, hx2.ld, Nat.zero_add, List.getElem?_cons_zero, List.getElem?_cons_succ, hw, and_false]
  · simp only [rn0, rn1, rn2, rn3, rn4, rn5, rn6, rn7, rn8, if_true, if_false, Nat.le_refl, true_and, and_true, decide_true, decide_false, Bool.not_true, Bool.not_false, reduceIte, Nat.reduceEqDiff, Nat.reduceAdd, Nat.reduceMul, Nat.reduceSub, Nat.reduceLeDiff, Nat.reduceLT, he, false_and]
end Go.Vm.Bt

namespace Go.Vm.Bt
open Go.Proofs Go.Vm.Vat Go.Vm.L2
set_option linter.unusedSimpArgs false
set_option linter.unusedVariables false
set_option maxRecDepth 10000
variable {n : Nat} {h : AHeap}
theorem p_conv16 {N : Nat} {f : Go.Vm.Fr} {x : Operand} {ty : TypeId} : plainF Try.prog N (.convert 95 3 x) ty f h = run16 (plainF Try.prog N (.convert 95 3 x) ty f) (valN N f x) h := by
  unfold run16
  split
  · rename_i a e1
    unfold plainF
    have : allB (fun x => plainV (valN N f x)) (Op.convert 95 3 x).operands.toList = true := by simp [Op.operands, allB, e1, plainV, plainE, plainCell]
    rw [this]
    have e : pureRun Try.prog (execOp (valN N f) (bare (.convert 95 3 x) ty)) = some (.value (.int .i64 (IntKind.wrap .i64 a))) := by
      show pureRun Try.prog (convert 95 3 (valN N f x) >>= fun a => pure (Next.value a)) = _
      rw [pureRun_bind, e1]
      have hc : pureRun Try.prog (convert 95 3 (.int .u16 a)) = some (.int .i64 (IntKind.wrap .i64 a)) := by
        unfold convert
        rw [pureRun_bind, pr_under Try.underlying95, Option.bind_some, pureRun_bind, pr_under Try.underlying3]
        rfl
      rw [hc]; rfl
    rw [e]
    rfl
  · rfl
theorem quo8 {a b : Nat} (h : a < 65536) (hb : 0 < b) : IntKind.wrap .i64 ((a : Int).tdiv (b : Int)) = ((a / b : Nat) : Int) := by
  have e : (a : Int).tdiv (b : Int) = ((a / b : Nat) : Int) := rfl
  have hd := Nat.div_le_self a b
  rw [e, IntKind.wrap_i64]
  generalize a / b = dq at hd
  omega
theorem build_none4 : buildSl 4 0 [.int .i64 0, .int .i64 0, .int .i64 0, .int .i64 0] [] h [] = newSlice h [] 0 0 0 := id rfl
end Go.Vm.Bt

namespace Go.Vm.Bt
open Go.Proofs Go.Vm.Vat Go.Vm.L2
set_option linter.unusedSimpArgs false
set_option linter.unusedVariables false
set_option maxRecDepth 10000
variable {n : Nat} {h : AHeap}
theorem err_el {S : MB} (hG : Good S) (he : errS S ≠ 0) : errS S = 11 := by
  unfold errS at he ⊢
  rw [fault_of hG] at he ⊢
  by_cases c : truthsS S = []
  · simp [c]
  · exact absurd (by simp [c]) he
def s107 : SCode := (.seq (.ops [⟨(some 4), none, .mov (.const (.int .i64 (0)))⟩]) (.seq (.seq (.ops [⟨(some 5), none, .mov (T 0)⟩, ⟨(some 6), none, .len (T 5)⟩, ⟨(some 7), none, .int2 .eql (T 6) (.const (.int .i64 (0)))⟩]) (.cond (T 7) (.seq (.ops [⟨(some 4), none, .mov (.const (.int .i64 (0)))⟩]) .ret) .skip)) (.seq (.ops [⟨(some 8), none, .mov (T 0)⟩, ⟨(some 9), none, .mov (T 1)⟩, ⟨(some 10), none, .mov (T 0)⟩, ⟨(some 11), none, .len (T 10)⟩, ⟨(some 12), none, .plain (.binOp .rem 3 (T 9) (T 11) 3) 3⟩, ⟨(some 13), none, .idxSl 1 (T 8) (T 12)⟩, ⟨(some 14), none, .load1 (T 13)⟩, ⟨(some 15), none, .plain (.convert 95 3 (T 14)) 3⟩, ⟨(some 4), none, .mov (T 15)⟩]) .ret)))
theorem fok107 : FnOk Try.prog 107 16 s107 [.tmp 4] := ⟨Try.f107, _, Try.func107, rfl, Try.ntmps107, by kernel_rfl, by kernel_rfl⟩
theorem word_c (hn : 1 ≤ n) {ws : Value} {m : Nat} {a : Nat → Nat} (hw : Words h ws m a) (i : Nat) :
    call n (.func (.func 107) #[] #[]) [ws, .int .i64 (i : Int)] h = some (.int .i64 ((wordN m a i : Nat) : Int), h) := by
  obtain ⟨n, rfl⟩ : ∃ p, n = p + 1 := ⟨n - 1, by omega⟩
  refine call_plain0 fok107 rfl rfl (by simp) rfl ?_
  have hw : Words h.shutAll ws m a := ⟨Cells.shut hw.1, hw.2⟩
  generalize h.shutAll = h at hw
  by_cases hm : m = 0
  · have hm' : (m : Int) = 0 := by omega
    have hz : wordN m a i = 0 := by unfold wordN; rw [if_pos hm]
    rw [hz]
    simp only [rn0, rn1, rn2, rn3, rn4, rn5, rn6, rn7, rn8, if_true, if_false, Nat.le_refl, true_and, and_true, decide_true, decide_false, Bool.not_true, Bool.not_false, reduceIte, Nat.reduceEqDiff, Nat.reduceAdd, Nat.reduceMul, Nat.reduceSub, Nat.reduceLeDiff, Nat.reduceLT, s107, Cells.len hw.1, hm', Int.natCast_zero]
  · have hm' : ¬ (m : Int) = 0 := by omega
    have hlt : i % m < m := Nat.mod_lt _ (by omega)
    have hz : wordN m a i = a (i % m) := by unfold wordN; rw [if_neg hm]
    have m1 : (i : Int).tmod (m : Int) = ((i % m : Nat) : Int) := rfl
    rw [hz]
    simp only [rn0, rn1, rn2, rn3, rn4, rn5, rn6, rn7, rn8, if_true, if_false, Nat.le_refl, true_and, and_true, decide_true, decide_false, Bool.not_true, Bool.not_false, reduceIte, Nat.reduceEqDiff, Nat.reduceAdd, Nat.reduceMul, Nat.reduceSub, Nat.reduceLeDiff, Nat.reduceLT, s107, Cells.len hw.1, hm', valN_tmp, valN_const, Nat.reduceLT, p_rem, r_rem hm', m1, Cells.idx hw.1 hlt, Cells.ld hw.1 hlt Nat.zero_lt_one, p_conv16, r_16 (hw.2 _ hlt)]
def endW (S : MB) (m : Nat) (a : Nat → Nat) (v : Nat) : Int := if v < S.nv then ((wordN m a v % (S.last.toNat + 1) : Nat) : Int) else 0
theorem endW_ok {S : MB} (hG : Good S) {m : Nat} {a : Nat → Nat} : EndsOk S S.nv (endW S m a) := by
  obtain ⟨z0, z1, z3, _⟩ := hG.sizes
  refine ⟨fun v hv => ?_, fun v hv => by unfold endW; rw [if_neg (by omega)]⟩
  have := Nat.mod_lt (wordN m a v) (show 0 < S.last.toNat + 1 by omega)
  unfold endW
  rw [if_pos hv]
  omega
def s65 : SCode := (.seq (.ops [⟨(some 2), none, .box (T 0)⟩, ⟨(some 4), none, .mov (.const (.slice none 0 0))⟩]) (.seq (.ops [⟨(some 5), none, .mov (.const (.slice none 0 0))⟩]) (.seq (.seq (.ops [⟨(some 6), none, .mov (.const (.int .i64 (0)))⟩]) (.block 0 (.loop (.seq (.seq (.ops [⟨(some 7), none, .mov (T 6)⟩, ⟨(some 8), none, .fieldAddr 2 (T 2)⟩, ⟨(some 9), none, .load1 (T 8)⟩, ⟨(some 10), none, .len (T 9)⟩, ⟨(some 11), none, .int2 .lss (T 7) (T 10)⟩]) (.cond (T 11) .skip (.exit 0))) (.seq (.block 1 (.draw [⟨.free, ⟨(some 14), none, .mov (T 5)⟩⟩, ⟨.free, ⟨(some 15), none, .mov (T 1)⟩⟩, ⟨.free, ⟨(some 16), none, .mov (T 6)⟩⟩, ⟨.up, ⟨(some 17), none, .call (.func 107) [(T 15), (T 16)]⟩⟩, ⟨.free, ⟨(some 18), none, .fieldAddr 3 (T 2)⟩⟩, ⟨.rd, ⟨(some 19), none, .load1 (T 18)⟩⟩, ⟨.free, ⟨(some 20), none, .int2 .add (T 19) (.const (.int .i64 (1)))⟩⟩, ⟨.free, ⟨(some 21), none, .plain (.binOp .rem 3 (T 17) (T 20) 3) 3⟩⟩, ⟨.any, ⟨(some 22), none, .bslice 1 1 [(.int .i64 (0))] [0] [(T 21)]⟩⟩, ⟨.any, ⟨(some 23), none, .append 1 8 (T 14) (T 22)⟩⟩, ⟨.free, ⟨(some 5), none, .mov (T 23)⟩⟩])) (.ops [⟨(some 12), none, .mov (T 6)⟩, ⟨(some 13), none, .int2 .add (T 12) (.const (.int .i64 (1)))⟩, ⟨(some 6), none, .mov (T 13)⟩])))))) (.seq (.ops [⟨(some 24), none, .mov (T 5)⟩, ⟨(some 4), none, .mov (T 24)⟩]) .ret))))
theorem fok65 : FnOk Try.prog 65 25 s65 [.tmp 4] := ⟨Try.f65, _, Try.func65, rfl, Try.ntmps65, by kernel_rfl, by kernel_rfl⟩
set_option maxHeartbeats 1000000 in
theorem ended_c (hn : 50 ≤ n) (hr : h.next + 100 < far) (hfl : h.floor ≤ h.next) {vv sv ws : Value} {S : MB} (hy : BeatR h vv sv S) (hG : Good S) {m : Nat} {a : Nat → Nat} (hw : Words h ws m a) :
    ∃ w h', call n (.func (.func 65) #[] #[]) [.agg ⟨beL S vv sv⟩, ws] h = some (w, h') ∧ Ints h' w S.nv (endW S m a) ∧ (∀ i, i < h.next → h'.get i = h.get i) ∧ h.next ≤ h'.next ∧ h'.next ≤ h.next + 10 ∧ h'.floor = h.floor := by
  obtain ⟨n, rfl⟩ : ∃ p, n = p + 1 := ⟨n - 1, by omega⟩
  obtain ⟨z0, z1, z3, _⟩ := hG.sizes
  refine call_any0 fok65 rfl rfl (by simp) ?_
  simp only [s65, W_seq, W_ops]
  refine ops_box (cs := beL S vv sv) (by omega) rfl hy.one fun g1 hx1 => ?_
  have n1 := hx1.next
  have f1 := hx1.floor
  have hy1 := hy.mono hx1.sub
  have hw1 := hw.mono hx1.sub
  have r1 := hx1.row
  have hl1 : wrapF .i64 (S.last + 1) = S.last + 1 := wrap_in (by omega) (by omega)
  have hlz : ¬ (S.last + 1 = 0) := by omega
  simp only [rn0, rn1, rn2, rn3, rn4, rn5, rn6, rn7, rn8, if_true, if_false, Nat.le_refl, true_and, and_true, decide_true, decide_false, Bool.not_true, Bool.not_false, reduceIte, Nat.reduceEqDiff, Nat.reduceAdd, Nat.reduceMul, Nat.reduceSub, Nat.reduceLeDiff, Nat.reduceLT]
  refine W_loop S.nv (fun k f g ms => (∃ v, (∀ i, i < g1.next → g.get i = g1.get i) ∧ g.floor = h.floor ∧ g1.next ≤ g.next ∧ g.next ≤ g1.next + 2 * k ∧ GrowC g1.next g v 1 k (fun i _ => .int .i64 (endW S m a i)) ∧ f 5 = v) ∧ ms = [] ∧ f 1 = ws ∧ f 2 = .pointer (some ⟨h.next, 0, none⟩) ∧ f 6 = .int .i64 (k : Int)) (by simp; omega) ?_ ?_ ?_
  · simp only [rn0, rn1, rn2, rn3, rn4, rn5, rn6, rn7, rn8, if_true, if_false, Nat.le_refl, true_and, and_true, decide_true, decide_false, Bool.not_true, Bool.not_false, reduceIte, Nat.reduceEqDiff, Nat.reduceAdd, Nat.reduceMul, Nat.reduceSub, Nat.reduceLeDiff, Nat.reduceLT, Int.natCast_zero]
    exact ⟨nilS, fun i _ => trivial, f1, by omega, .nil, rfl⟩
  · rintro k f g ms hk ⟨⟨v, ho, hfg, hup, hnx, gv, p5⟩, rfl, p1, p2, p6⟩
    have hk' : (k : Int) < (S.nv : Int) := by omega
    have hwk : wrapF .i64 ((k : Int) + 1) = ((k + 1 : Nat) : Int) := by rw [wrap_in (by omega) (by omega)]; rfl
    have rg : Row g h.next (beL S vv sv) := r1.mono (AHeap.subOf ho)
    have ew := word_c (n := n) (h := g) (by omega) (hw1.mono (AHeap.subOf ho)) k
    have hm : ((wordN m a k : Nat) : Int).tmod (S.last + 1) = endW S m a k := by
      unfold endW
      rw [if_pos hk, show S.last + 1 = ((S.last.toNat + 1 : Nat) : Int) by omega]
      rfl
    simp only [rn0, rn1, rn2, rn3, rn4, rn5, rn6, rn7, rn8, if_true, if_false, Nat.le_refl, true_and, and_true, decide_true, decide_false, Bool.not_true, Bool.not_false, reduceIte, Nat.reduceEqDiff, Nat.reduceAdd, Nat.reduceMul, Nat.reduceSub, Nat.reduceLeDiff, Nat.reduceLT, p1, p2, p5, p6, rg.ld, beg, Nat.zero_add, Cells.len hy1.v, hk']
    refine W_draw All ?_
    simp only [rn0, rn1, rn2, rn3, rn4, rn5, rn6, rn7, rn8, if_true, if_false, Nat.le_refl, true_and, and_true, decide_true, decide_false, Bool.not_true, Bool.not_false, reduceIte, Nat.reduceEqDiff, Nat.reduceAdd, Nat.reduceMul, Nat.reduceSub, Nat.reduceLeDiff, Nat.reduceLT, p1, p2, p5, p6, rg.ld, beg, Nat.zero_add, ew, hl1, valN_tmp, valN_const, Nat.reduceLT, p_rem, r_rem hlz, hm]
    refine up_slice (by omega) rfl (fun _ _ => trivial) fun g4 hx4 => ?_
    have n4 := hx4.next
    have f4 := hx4.floor
    obtain ⟨v', g5, e5, gv5, o5, n5, f5, old5, u5⟩ := grow_push (h := g) (bytes := 8) gv (by omega) (by omega) (by omega) hx4 rfl rfl (fun j hj => by
      obtain rfl : j = 0 := by omega
      rfl) (by simp [maxBytes]; omega) (by simp [maxBytes]; omega)
    simp only [rn0, rn1, rn2, rn3, rn4, rn5, rn6, rn7, rn8, if_true, if_false, Nat.le_refl, true_and, and_true, decide_true, decide_false, Bool.not_true, Bool.not_false, reduceIte, Nat.reduceEqDiff, Nat.reduceAdd, Nat.reduceMul, Nat.reduceSub, Nat.reduceLeDiff, Nat.reduceLT, p1, p2, p6, e5, hwk]
    exact ⟨by omega, _, fun i hi => by rw [old5 i (by omega), ho i hi], by omega, by omega, by omega, gv5, rfl⟩
  · rintro f g ms ⟨⟨v, ho, hfg, hup, hnx, gv, p5⟩, rfl, p1, p2, p6⟩
    have rg : Row g h.next (beL S vv sv) := r1.mono (AHeap.subOf ho)
    simp only [rn0, rn1, rn2, rn3, rn4, rn5, rn6, rn7, rn8, if_true, if_false, Nat.le_refl, true_and, and_true, decide_true, decide_false, Bool.not_true, Bool.not_false, reduceIte, Nat.reduceEqDiff, Nat.reduceAdd, Nat.reduceMul, Nat.reduceSub, Nat.reduceLeDiff, Nat.reduceLT, p1, p2, p5, p6, rg.ld, beg, Nat.zero_add, Cells.len hy1.v, Int.lt_irrefl]
    exact ⟨gv.cells, fun i hi => by rw [ho i (by omega), hx1.old i hi], by omega, by omega, by omega⟩
def s68 : SCode := (.seq (.ops [⟨(some 4), none, .mov (.const (.bool false))⟩]) (.seq (.seq (.ops [⟨(some 5), none, .mov (.const (.int .i64 (0)))⟩]) (.block 0 (.loop (.seq (.seq (.ops [⟨(some 6), none, .mov (T 5)⟩, ⟨(some 7), none, .mov (T 0)⟩, ⟨(some 8), none, .len (T 7)⟩, ⟨(some 9), none, .int2 .lss (T 6) (T 8)⟩, ⟨(some 10), none, .mov (T 9)⟩, ⟨(some 11), (some (10, true)), .mov (T 5)⟩, ⟨(some 12), (some (10, true)), .mov (T 1)⟩, ⟨(some 13), (some (10, true)), .len (T 12)⟩, ⟨(some 14), (some (10, true)), .int2 .lss (T 11) (T 13)⟩, ⟨(some 15), none, .pick (T 10) (T 14) (.const (.bool false))⟩]) (.cond (T 15) .skip (.exit 0))) (.seq (.block 1 (.seq (.draw [⟨.free, ⟨(some 18), none, .mov (T 0)⟩⟩, ⟨.free, ⟨(some 19), none, .mov (T 5)⟩⟩, ⟨.free, ⟨(some 20), none, .idxSl 1 (T 18) (T 19)⟩⟩, ⟨.rd1, ⟨(some 21), none, .load1 (T 20)⟩⟩, ⟨.free, ⟨(some 22), none, .mov (T 1)⟩⟩, ⟨.free, ⟨(some 23), none, .mov (T 5)⟩⟩, ⟨.free, ⟨(some 24), none, .idxSl 1 (T 22) (T 23)⟩⟩, ⟨.rd1, ⟨(some 25), none, .load1 (T 24)⟩⟩, ⟨.free, ⟨(some 26), none, .int2 .neq (T 21) (T 25)⟩⟩]) (.cond (T 26) (.seq (.draw [⟨.free, ⟨(some 27), none, .mov (T 0)⟩⟩, ⟨.free, ⟨(some 28), none, .mov (T 5)⟩⟩, ⟨.free, ⟨(some 29), none, .idxSl 1 (T 27) (T 28)⟩⟩, ⟨.rd1, ⟨(some 30), none, .load1 (T 29)⟩⟩, ⟨.free, ⟨(some 31), none, .mov (T 1)⟩⟩, ⟨.free, ⟨(some 32), none, .mov (T 5)⟩⟩, ⟨.free, ⟨(some 33), none, .idxSl 1 (T 31) (T 32)⟩⟩, ⟨.rd1, ⟨(some 34), none, .load1 (T 33)⟩⟩, ⟨.free, ⟨(some 35), none, .int2 .lss (T 30) (T 34)⟩⟩, ⟨.free, ⟨(some 4), none, .mov (T 35)⟩⟩]) .ret) .skip))) (.ops [⟨(some 16), none, .mov (T 5)⟩, ⟨(some 17), none, .int2 .add (T 16) (.const (.int .i64 (1)))⟩, ⟨(some 5), none, .mov (T 17)⟩])))))) (.seq (.ops [⟨(some 36), none, .mov (T 0)⟩, ⟨(some 37), none, .len (T 36)⟩, ⟨(some 38), none, .mov (T 1)⟩, ⟨(some 39), none, .len (T 38)⟩, ⟨(some 40), none, .int2 .lss (T 37) (T 39)⟩, ⟨(some 4), none, .mov (T 40)⟩]) .ret)))
theorem fok68 : FnOk Try.prog 68 41 s68 [.tmp 4] := ⟨Try.f68, _, Try.func68, rfl, Try.ntmps68, by kernel_rfl, by kernel_rfl⟩
theorem before_c {m : Nat} (hn : m + 3 ≤ n) (hm : m ≤ 1000) {va vb : Value} {a b : Nat → Int} (ha : Ints h va m a) (hb : Ints h vb m b) : call n (.func (.func 68) #[] #[]) [va, vb] h = some (.bool (decide (LexLt a b m)), h) := by
  obtain ⟨n, rfl⟩ : ∃ p, n = p + 1 := ⟨n - 1, by omega⟩
  refine call_plain0 fok68 rfl rfl (by simp) rfl ?_
  have ha : Ints h.shutAll va m a := Cells.shut ha
  have hb : Ints h.shutAll vb m b := Cells.shut hb
  generalize h.shutAll = h at ha hb
  simp only [rn0, rn1, rn2, rn3, rn4, rn5, rn6, rn7, rn8, if_true, if_false, Nat.le_refl, true_and, and_true, decide_true, decide_false, Bool.not_true, Bool.not_false, reduceIte, Nat.reduceEqDiff, Nat.reduceAdd, Nat.reduceMul, Nat.reduceSub, Nat.reduceLeDiff, Nat.reduceLT, s68]
  refine W_loop m (fun k f g ms => (∀ i, i < k → a i = b i) ∧ g = h ∧ ms = [] ∧ f 0 = va ∧ f 1 = vb ∧ f 5 = .int .i64 (k : Int)) (by simp; omega) ?_ ?_ ?_
  · simp only [rn0, rn1, rn2, rn3, rn4, rn5, rn6, rn7, rn8, if_true, if_false, Nat.le_refl, true_and, and_true, decide_true, decide_false, Bool.not_true, Bool.not_false, reduceIte, Nat.reduceEqDiff, Nat.reduceAdd, Nat.reduceMul, Nat.reduceSub, Nat.reduceLeDiff, Nat.reduceLT]
    exact ⟨fun i hi => by omega, rfl⟩
  · rintro k f g ms hk ⟨he, rfl, rfl, p0, p1, p5⟩
    have hk' : (k : Int) < (m : Int) := by omega
    have hw : wrapF .i64 ((k : Int) + 1) = ((k + 1 : Nat) : Int) := by rw [wrap_in (by omega) (by omega)]; rfl
    have la := Cells.ld ha hk Nat.zero_lt_one
    have lb := Cells.ld hb hk Nat.zero_lt_one
    simp only [rn0, rn1, rn2, rn3, rn4, rn5, rn6, rn7, rn8, if_true, if_false, Nat.le_refl, true_and, and_true, decide_true, decide_false, Bool.not_true, Bool.not_false, reduceIte, Nat.reduceEqDiff, Nat.reduceAdd, Nat.reduceMul, Nat.reduceSub, Nat.reduceLeDiff, Nat.reduceLT, p0, p1, p5, Cells.len ha, Cells.len hb, hk']
    refine W_draw All ?_
    by_cases c : a k = b k
    · simp only [rn0, rn1, rn2, rn3, rn4, rn5, rn6, rn7, rn8, if_true, if_false, Nat.le_refl, true_and, and_true, decide_true, decide_false, Bool.not_true, Bool.not_false, reduceIte, Nat.reduceEqDiff, Nat.reduceAdd, Nat.reduceMul, Nat.reduceSub, Nat.reduceLeDiff, Nat.reduceLT, p0, p1, p5, Cells.idx ha hk, Cells.idx hb hk, la, lb, c, hw]
      intro i hi
      by_cases e : i = k
      · subst e; exact c
      · exact he i (by omega)
    · have hd : decide (a k < b k) = decide (LexLt a b m) := decide_eq_decide.2 ⟨fun h => ⟨k, hk, he, h⟩, fun ⟨j, j1, j2, j3⟩ => by
        by_cases e : j = k
        · subst e; exact j3
        · by_cases e2 : j < k
          · have := he j e2; omega
          · exact absurd (j2 k (by omega)) c⟩
      simp only [rn0, rn1, rn2, rn3, rn4, rn5, rn6, rn7, rn8, if_true, if_false, Nat.le_refl, true_and, and_true, decide_true, decide_false, Bool.not_true, Bool.not_false, reduceIte, Nat.reduceEqDiff, Nat.reduceAdd, Nat.reduceMul, Nat.reduceSub, Nat.reduceLeDiff, Nat.reduceLT, p0, p1, p5, Cells.idx ha hk, Cells.idx hb hk, la, lb, c]
      refine W_draw All ?_
      simp only [rn0, rn1, rn2, rn3, rn4, rn5, rn6, rn7, rn8, if_true, if_false, Nat.le_refl, true_and, and_true, decide_true, decide_false, Bool.not_true, Bool.not_false, reduceIte, Nat.reduceEqDiff, Nat.reduceAdd, Nat.reduceMul, Nat.reduceSub, Nat.reduceLeDiff, Nat.reduceLT, p0, p1, p5, Cells.idx ha hk, Cells.idx hb hk, la, lb, hd]
  · rintro f g ms ⟨he, rfl, rfl, p0, p1, p5⟩
    have hd : decide (LexLt a b m) = false := decide_eq_false fun ⟨j, j1, j2, j3⟩ => by have := he j j1; omega
    simp only [rn0, rn1, rn2, rn3, rn4, rn5, rn6, rn7, rn8, if_true, if_false, Nat.le_refl, true_and, and_true, decide_true, decide_false, Bool.not_true, Bool.not_false, reduceIte, Nat.reduceEqDiff, Nat.reduceAdd, Nat.reduceMul, Nat.reduceSub, Nat.reduceLeDiff, Nat.reduceLT, p0, p1, p5, Cells.len ha, Cells.len hb, Int.lt_irrefl, hd]
end Go.Vm.Bt

namespace Go.Vm.Bt
open Go.Proofs Go.Vm.Vat Go.Vm.L2
set_option linter.unusedSimpArgs false
set_option linter.unusedVariables false
set_option maxRecDepth 10000
variable {n : Nat} {h : AHeap}
theorem endsOk_hours {S : MB} {e : Nat → Int} (he : EndsOk S S.nv e) : Hours S S.nv e := by
  first | exact ⟨rfl, he.1⟩ | exact ⟨he.1, rfl⟩
theorem errE_ok {S : MB} {e : Nat → Int} (he : EndsOk S S.nv e) : errE S S.nv e = errS S := by
  unfold errE errS
  have := endsOk_hours he
  simp only [this, not_true_eq_false, if_false]
def s13 : SCode := (.seq (.ops [⟨(some 2), none, .box (T 0)⟩, ⟨(some 4), none, .mov (.const (.bool false))⟩]) (.seq (.seq (.ops [⟨(some 11), none, .loadN 5 (T 2)⟩, ⟨(some 12), none, .call (.func 63) [(T 11)]⟩, ⟨(some 13), none, .not (T 12)⟩]) (.cond (T 13) (.seq (.ops [⟨(some 14), none, .call (.func 24) []⟩, ⟨(some 4), none, .mov (T 14)⟩]) .ret) .skip)) (.seq (.ops [⟨(some 16), none, .loadN 5 (T 2)⟩, ⟨(some 17), none, .call (.func 26) [(T 16)]⟩, ⟨(some 18), none, .call (.func 47) [(T 17)]⟩, ⟨(some 15), none, .mov (T 18)⟩, ⟨(some 19), none, .extract 0 (T 15)⟩, ⟨(some 20), none, .extract 1 (T 15)⟩, ⟨(some 21), none, .extract 2 (T 15)⟩, ⟨(some 5), none, .mov (T 19)⟩, ⟨(some 6), none, .mov (T 20)⟩, ⟨(some 7), none, .mov (T 21)⟩]) (.seq (.ops [⟨(some 22), none, .loadN 5 (T 2)⟩, ⟨(some 23), none, .mov (T 1)⟩, ⟨(some 24), none, .call (.func 65) [(T 22), (T 23)]⟩, ⟨(some 8), none, .mov (T 24)⟩]) (.seq (.ops [⟨(some 26), none, .loadN 5 (T 2)⟩, ⟨(some 27), none, .call (.func 26) [(T 26)]⟩, ⟨(some 28), none, .mov (T 8)⟩, ⟨(some 29), none, .call (.func 28) [(T 28)]⟩, ⟨(some 30), none, .call (.func 44) [(T 27), (T 29)]⟩, ⟨(some 25), none, .mov (T 30)⟩, ⟨(some 31), none, .extract 0 (T 25)⟩, ⟨(some 32), none, .extract 1 (T 25)⟩, ⟨(some 9), none, .alloc [(.int .i64 (0)), (.int .i64 (0))]⟩, ⟨none, none, .store 2 (T 9) (T 31)⟩, ⟨(some 10), none, .mov (T 32)⟩]) (.seq (.seq (.ops [⟨(some 33), none, .mov (T 7)⟩, ⟨(some 34), none, .int2 .neq (T 33) (.const (.int .i64 (0)))⟩]) (.cond (T 34) (.seq (.ops [⟨(some 35), none, .mov (T 7)⟩, ⟨(some 36), none, .int2 .eql (T 35) (.const (.int .i64 (11)))⟩, ⟨(some 37), none, .mov (T 36)⟩, ⟨(some 38), (some (37, true)), .mov (T 10)⟩, ⟨(some 39), (some (37, true)), .mov (T 7)⟩, ⟨(some 40), (some (37, true)), .int2 .eql (T 38) (T 39)⟩, ⟨(some 41), none, .pick (T 37) (T 40) (.const (.bool false))⟩, ⟨(some 42), none, .mov (T 41)⟩, ⟨(some 43), (some (42, true)), .loadN 5 (T 2)⟩, ⟨(some 44), (some (42, true)), .call (.func 26) [(T 43)]⟩, ⟨(some 45), (some (42, true)), .mov (T 8)⟩, ⟨(some 46), (some (42, true)), .call (.func 28) [(T 45)]⟩, ⟨(some 47), (some (42, true)), .call (.func 48) [(T 44), (T 46), (.const (.int .i64 (9999)))]⟩, ⟨(some 48), (some (42, true)), .not (T 47)⟩, ⟨(some 49), none, .pick (T 42) (T 48) (.const (.bool false))⟩, ⟨(some 50), none, .mov (T 49)⟩, ⟨(some 51), (some (50, true)), .call (.func 24) []⟩, ⟨(some 52), none, .pick (T 50) (T 51) (.const (.bool false))⟩, ⟨(some 4), none, .mov (T 52)⟩]) .ret) .skip)) (.seq (.draw [⟨.free, ⟨(some 53), none, .mov (T 10)⟩⟩, ⟨.free, ⟨(some 54), none, .int2 .eql (T 53) (.const (.int .i64 (0)))⟩⟩, ⟨.free, ⟨(some 55), none, .mov (T 54)⟩⟩, ⟨.rd1, ⟨(some 56), (some (55, true)), .loadN 5 (T 2)⟩⟩, ⟨.up, ⟨(some 57), (some (55, true)), .call (.func 26) [(T 56)]⟩⟩, ⟨.free, ⟨(some 58), (some (55, true)), .mov (T 5)⟩⟩, ⟨.up, ⟨(some 59), (some (55, true)), .call (.func 28) [(T 58)]⟩⟩, ⟨.free, ⟨(some 60), (some (55, true)), .mov (T 6)⟩⟩, ⟨.up, ⟨(some 61), (some (55, true)), .call (.func 48) [(T 57), (T 59), (T 60)]⟩⟩, ⟨.free, ⟨(some 62), none, .pick (T 55) (T 61) (.const (.bool false))⟩⟩, ⟨.free, ⟨(some 63), none, .mov (T 62)⟩⟩, ⟨.rd1, ⟨(some 64), (some (63, true)), .loadN 5 (T 2)⟩⟩, ⟨.up, ⟨(some 65), (some (63, true)), .call (.func 26) [(T 64)]⟩⟩, ⟨.free, ⟨(some 66), (some (63, true)), .mov (T 5)⟩⟩, ⟨.up, ⟨(some 67), (some (63, true)), .call (.func 28) [(T 66)]⟩⟩, ⟨.free, ⟨(some 68), (some (63, true)), .mov (T 6)⟩⟩, ⟨.free, ⟨(some 69), (some (63, true)), .int2 .sub (T 68) (.const (.int .i64 (1)))⟩⟩, ⟨.up, ⟨(some 70), (some (63, true)), .call (.func 48) [(T 65), (T 67), (T 69)]⟩⟩, ⟨.free, ⟨(some 71), (some (63, true)), .not (T 70)⟩⟩, ⟨.free, ⟨(some 72), none, .pick (T 63) (T 71) (.const (.bool false))⟩⟩, ⟨.free, ⟨(some 73), none, .mov (T 72)⟩⟩, ⟨.rd1, ⟨(some 74), (some (73, true)), .loadN 5 (T 2)⟩⟩, ⟨.up, ⟨(some 75), (some (73, true)), .call (.func 26) [(T 74)]⟩⟩, ⟨.free, ⟨(some 76), (some (73, true)), .mov (T 8)⟩⟩, ⟨.up, ⟨(some 77), (some (73, true)), .call (.func 28) [(T 76)]⟩⟩, ⟨.free, ⟨(some 78), (some (73, true)), .fieldAddr 1 (T 9)⟩⟩, ⟨.rd, ⟨(some 79), (some (73, true)), .load1 (T 78)⟩⟩, ⟨.up, ⟨(some 80), (some (73, true)), .call (.func 48) [(T 75), (T 77), (T 79)]⟩⟩, ⟨.free, ⟨(some 81), none, .pick (T 73) (T 80) (.const (.bool false))⟩⟩, ⟨.free, ⟨(some 82), none, .mov (T 81)⟩⟩, ⟨.free, ⟨(some 83), (some (82, true)), .fieldAddr 1 (T 9)⟩⟩, ⟨.rd1, ⟨(some 84), (some (82, true)), .load1 (T 83)⟩⟩, ⟨.free, ⟨(some 85), (some (82, true)), .mov (T 6)⟩⟩, ⟨.free, ⟨(some 86), (some (82, true)), .int2 .gtr (T 84) (T 85)⟩⟩, ⟨.free, ⟨(some 87), (some (82, true)), .mov (T 86)⟩⟩, ⟨.free, ⟨(some 88), (some (87, false)), .fieldAddr 1 (T 9)⟩⟩, ⟨.rd1, ⟨(some 89), (some (87, false)), .load1 (T 88)⟩⟩, ⟨.free, ⟨(some 90), (some (87, false)), .mov (T 6)⟩⟩, ⟨.free, ⟨(some 91), (some (87, false)), .int2 .eql (T 89) (T 90)⟩⟩, ⟨.free, ⟨(some 92), (some (87, false)), .mov (T 91)⟩⟩, ⟨.free, ⟨(some 93), (some (92, true)), .mov (T 8)⟩⟩, ⟨.free, ⟨(some 94), (some (92, true)), .mov (T 5)⟩⟩, ⟨.any, ⟨(some 95), (some (92, true)), .call (.func 68) [(T 93), (T 94)]⟩⟩, ⟨.free, ⟨(some 96), (some (92, true)), .not (T 95)⟩⟩, ⟨.free, ⟨(some 97), (some (87, false)), .pick (T 92) (T 96) (.const (.bool false))⟩⟩, ⟨.free, ⟨(some 98), (some (82, true)), .pick (T 87) (.const (.bool true)) (T 97)⟩⟩, ⟨.free, ⟨(some 99), none, .pick (T 82) (T 98) (.const (.bool false))⟩⟩, ⟨.free, ⟨(some 100), none, .mov (T 99)⟩⟩, ⟨.any, ⟨(some 101), (some (100, true)), .call (.func 24) []⟩⟩, ⟨.free, ⟨(some 102), none, .pick (T 100) (T 101) (.const (.bool false))⟩⟩, ⟨.free, ⟨(some 4), none, .mov (T 102)⟩⟩]) .ret)))))))
theorem fok13 : FnOk Try.prog 13 103 s13 [.tmp 4] := ⟨Try.f13, _, Try.func13, rfl, Try.ntmps13, by kernel_rfl, by kernel_rfl⟩
set_option maxHeartbeats 2000000 in
theorem noBetterL_c (hn : 1500 ≤ n) (hr : h.next + 400000 < far) (hfl : h.floor ≤ h.next) {vv sv : Value} {S : MB} (hy : BeatR h vv sv S) {ws : Value} {m : Nat} {a : Nat → Nat} (hw : Words h ws m a) :
    ∃ v h', call n (.func (.func 13) #[] #[]) [.agg ⟨beL S vv sv⟩, ws] h = some (v, h') ∧ v = .bool true := by
  obtain ⟨n, rfl⟩ : ∃ p, n = p + 1 := ⟨n - 1, by omega⟩
  refine call_any0 fok13 rfl rfl (by simp) ?_
  simp only [s13, W_seq, W_ops]
  refine ops_box (cs := beL S vv sv) (by omega) rfl hy.one fun g1 hx1 => ?_
  have n1 := hx1.next
  have f1 := hx1.floor
  have hy1 := hy.mono hx1.sub
  have r1 := hx1.row
  have er := ready_c (n := n) (h := g1) (by omega) (by omega) hy1
  have haw := awake_c (n := n) (h := g1) (by omega)
  by_cases hTf : Rdy S
  case neg => simp only [rn0, rn1, rn2, rn3, rn4, rn5, rn6, rn7, rn8, if_true, if_false, Nat.le_refl, true_and, and_true, decide_true, decide_false, Bool.not_true, Bool.not_false, reduceIte, Nat.reduceEqDiff, Nat.reduceAdd, Nat.reduceMul, Nat.reduceSub, Nat.reduceLeDiff, Nat.reduceLT, r1.whole (n := 5) rfl, er, hTf, haw]
  have hdt : decide (Rdy S) = true := decide_eq_true hTf
  obtain ⟨hT, hf⟩ := hTf
  have hG := good_of hf
  obtain ⟨z0, z1, z3, _⟩ := hG.sizes
  obtain ⟨va, sa, g2, e2, hy2, old2, u2, m2, f2⟩ := beatL_c (n := n) (h := g1) (by omega) (by omega) (by omega) hy1 hT
  obtain ⟨x3, g3, e3, b3, o3, old3, u3, m3, f3⟩ := bestV_c (n := n) (h := g2) (by omega) (by omega) (by omega) hy2 hT
  have s13 : Sub All g1 g3 := (AHeap.subOf old2).trans (AHeap.subOf old3)
  obtain ⟨w4, g4, e4, b4, old4, u4, m4, f4⟩ := ended_c (n := n) (h := g3) (by omega) (by omega) (by omega) (hy1.mono s13) hG (hw.mono (hx1.sub.trans s13))
  have s14 : Sub All g1 g4 := s13.trans (AHeap.subOf old4)
  obtain ⟨vb, sb, g5, e5, hy5, old5, u5, m5, f5⟩ := beatL_c (n := n) (h := g4) (by omega) (by omega) (by omega) (hy1.mono s14) hT
  obtain ⟨l6, g6, e6, b6, o6, old6, u6, m6, f6, _⟩ := list_c (n := n) (h := g5) (by omega) (by omega) (b4.mono (AHeap.subOf old5)) (by omega)
  have hy6 := hy5.mono (AHeap.subOf old6)
  have hE := endW_ok (a := a) (m := m) hG
  have e7 := lossesV_c (n := n) (h := g6) (by omega) (by omega) hy6 hT b6 (by omega)
  rw [errE_ok hE] at e7
  have s16 : Sub All g1 g6 := s14.trans ((AHeap.subOf old5).trans (AHeap.subOf old6))
  simp only [rn0, rn1, rn2, rn3, rn4, rn5, rn6, rn7, rn8, if_true, if_false, Nat.le_refl, true_and, and_true, decide_true, decide_false, Bool.not_true, Bool.not_false, reduceIte, Nat.reduceEqDiff, Nat.reduceAdd, Nat.reduceMul, Nat.reduceSub, Nat.reduceLeDiff, Nat.reduceLT, r1.whole (n := 5) rfl, er, hdt, e2, e3, ex0', ex1', ex2, (r1.mono s13).whole (n := 5) rfl, e4, (r1.mono s14).whole (n := 5) rfl, e5, e6, e7, ex0, ex1]
  obtain ⟨lo, hlo⟩ : ∃ lo, lo = (if errS S = 0 then wLo S (endW S m a) S.nv else 0) := ⟨_, rfl⟩
  obtain ⟨hi, hhi⟩ : ∃ hi, hi = (if errS S = 0 then wHi S (endW S m a) S.nv else 0) := ⟨_, rfl⟩
  rw [← hlo, ← hhi]
  refine step_row (cs := [.int .i64 0, .int .i64 0]) (by omega) rfl rfl fun g8 hx8 => ?_
  have n8 := hx8.next
  have f8 := hx8.floor
  simp only [rn0, rn1, rn2, rn3, rn4, rn5, rn6, rn7, rn8, if_true, if_false, Nat.le_refl, true_and, and_true, decide_true, decide_false, Bool.not_true, Bool.not_false, reduceIte, Nat.reduceEqDiff, Nat.reduceAdd, Nat.reduceMul, Nat.reduceSub, Nat.reduceLeDiff, Nat.reduceLT]
  refine step_store (b := g6.next) (off := 0) (vs := [.int .i64 lo, .int .i64 hi]) rfl hx8.get (by omega) (by omega) rfl rfl rfl (by simp) fun g9 hs9 => ?_
  rw [splice_all (by rfl)] at hs9
  have n9 := hs9.next
  have f9 := hs9.floor
  have old9 : ∀ i, i < g6.next → g9.get i = g6.get i := fun i hi => by rw [hs9.old i (by omega), hx8.old i hi]
  have s19 : Sub All g1 g9 := s16.trans (AHeap.subOf old9)
  have s39 : Sub All g3 g9 := (AHeap.subOf old4).trans ((AHeap.subOf old5).trans ((AHeap.subOf old6).trans (AHeap.subOf old9)))
  have s49 : Sub All g4 g9 := (AHeap.subOf old5).trans ((AHeap.subOf old6).trans (AHeap.subOf old9))
  have hy9 := hy1.mono s19
  have r9 := r1.mono s19
  have rr9 := hs9.row
  obtain ⟨vc, sc, gA, eA, hyA, oldA, uA, mA, fA⟩ := beatL_c (n := n) (h := g9) (by omega) (by omega) (by omega) hy9 hT
  by_cases he : errS S = 0
  · obtain ⟨_, hTT⟩ := errS_zero.1 he
    obtain ⟨q1, q2, q3⟩ := best_is hG hTT
    have hq := q3 _ hE
    have hcn : cntS S = S.nv := by unfold cntS; rw [if_pos he]
    rw [hcn] at b3
    have hbb := wHi_bound hG hTT q1 (Nat.le_refl _)
    rw [← q2] at hbb
    have hlim : wrapF .i64 ((bestS S).2 - 1) = (bestS S).2 - 1 := wrap_in (by omega) (by omega)
    have hhi' : hi = wHi S (endW S m a) S.nv := by rw [hhi, if_pos he]
    obtain ⟨lB, gB, eB, bB, oB, oldB, uB, mB, fB, _⟩ := list_c (n := n) (h := gA) (by omega) (by omega) ((b3.mono s39).mono (AHeap.subOf oldA)) (by omega)
    have eC := proveBest_c (n := n) (h := gB) (by omega) (by omega) (hyA.mono (AHeap.subOf oldB)) hT bB (by omega) (bestS S).2
    rw [errE_ok q1] at eC
    have dC : decide (errS S = 0 ∧ wHi S (bestS S).1 S.nv ≤ (bestS S).2) = true := decide_eq_true ⟨he, by rw [← q2]; exact Int.le_refl _⟩
    rw [dC] at eC
    have sB : Sub All g9 gB := (AHeap.subOf oldA).trans (AHeap.subOf oldB)
    obtain ⟨vd, sd, gD, eD, hyD, oldD, uD, mD, fD⟩ := beatL_c (n := n) (h := gB) (by omega) (by omega) (by omega) (hy9.mono sB) hT
    obtain ⟨lE, gE, eE, bE, oE, oldE, uE, mE, fE, _⟩ := list_c (n := n) (h := gD) (by omega) (by omega) (((b3.mono s39).mono sB).mono (AHeap.subOf oldD)) (by omega)
    have eF := proveBest_c (n := n) (h := gE) (by omega) (by omega) (hyD.mono (AHeap.subOf oldE)) hT bE (by omega) ((bestS S).2 - 1)
    have dF : decide (errE S S.nv (bestS S).1 = 0 ∧ wHi S (bestS S).1 S.nv ≤ (bestS S).2 - 1) = false := decide_eq_false fun ⟨_, x⟩ => by rw [← q2] at x; omega
    rw [dF] at eF
    have sE : Sub All g9 gE := sB.trans ((AHeap.subOf oldD).trans (AHeap.subOf oldE))
    obtain ⟨ve, se, gG, eG, hyG, oldG, uG, mG, fG⟩ := beatL_c (n := n) (h := gE) (by omega) (by omega) (by omega) (hy9.mono sE) hT
    obtain ⟨lH, gH, eH, bH, oH, oldH, uH, mH, fH, _⟩ := list_c (n := n) (h := gG) (by omega) (by omega) (((b4.mono s49).mono sE).mono (AHeap.subOf oldG)) (by omega)
    have eI := proveBest_c (n := n) (h := gH) (by omega) (by omega) (hyG.mono (AHeap.subOf oldH)) hT bH (by omega) hi
    rw [errE_ok hE] at eI
    have dI : decide (errS S = 0 ∧ wHi S (endW S m a) S.nv ≤ hi) = true := decide_eq_true ⟨he, by rw [hhi']; exact Int.le_refl _⟩
    rw [dI] at eI
    have sH : Sub All g9 gH := sE.trans ((AHeap.subOf oldG).trans (AHeap.subOf oldH))
    have eJ := before_c (n := n) (h := gH) (by omega) (by omega) ((b4.mono s49).mono sH) ((b3.mono s39).mono sH)
    have hawH := awake_c (n := n) (h := gH) (by omega)
    simp only [if_pos he] at *
    simp only [rn0, rn1, rn2, rn3, rn4, rn5, rn6, rn7, rn8, if_true, if_false, Nat.le_refl, true_and, and_true, decide_true, decide_false, Bool.not_true, Bool.not_false, reduceIte, Nat.reduceEqDiff, Nat.reduceAdd, Nat.reduceMul, Nat.reduceSub, Nat.reduceLeDiff, Nat.reduceLT, he]
    refine W_draw All ?_
    have l1 : ([Value.int .i64 lo, Value.int .i64 hi] : List Value)[1]? = some (.int .i64 hi) := rfl
    have sA : Sub All g9 gA := AHeap.subOf oldA
    have sD : Sub All g9 gD := sB.trans (AHeap.subOf oldD)
    have sG : Sub All g9 gG := sE.trans (AHeap.subOf oldG)
    rcases hq with hq | ⟨hq, hq2⟩
    · have hgt : (bestS S).2 < hi := by rw [hhi']; exact hq
      simp only [rn0, rn1, rn2, rn3, rn4, rn5, rn6, rn7, rn8, if_true, if_false, Nat.le_refl, true_and, and_true, decide_true, decide_false, Bool.not_true, Bool.not_false, reduceIte, Nat.reduceEqDiff, Nat.reduceAdd, Nat.reduceMul, Nat.reduceSub, Nat.reduceLeDiff, Nat.reduceLT, he, d_guard, dg_tt, dg_tf, dg_ft, dg_ff, dg_un, eqV_int, r9.whole (n := 5) rfl, eA, eB, eC, eD, eE, eF, hlim, eG, eH, rr9.ld, beg, Nat.zero_add, eI, g_un, hawH, gt_iff_lt, there_p, l1, sA, sB, sD, sE, sG, sH, uA, uB, uD, uE, uG, uH, hgt]
    · have hngt : ¬ (bestS S).2 < hi := by rw [hhi']; omega
      have heq : decide (hi = (bestS S).2) = true := decide_eq_true (by rw [hhi']; exact hq.symm)
      have hnb : ¬ LexLt (endW S m a) (bestS S).1 S.nv := by
        intro hl
        rcases hq2 with hq2 | hq2
        · exact lex_irr (lex_trans hl hq2)
        · rw [hq2] at hl; exact lex_irr hl
      simp only [rn0, rn1, rn2, rn3, rn4, rn5, rn6, rn7, rn8, if_true, if_false, Nat.le_refl, true_and, and_true, decide_true, decide_false, Bool.not_true, Bool.not_false, reduceIte, Nat.reduceEqDiff, Nat.reduceAdd, Nat.reduceMul, Nat.reduceSub, Nat.reduceLeDiff, Nat.reduceLT, he, d_guard, dg_tt, dg_tf, dg_ft, dg_ff, dg_un, eqV_int, r9.whole (n := 5) rfl, eA, eB, eC, eD, eE, eF, hlim, eG, eH, rr9.ld, beg, Nat.zero_add, eI, g_un, hawH, gt_iff_lt, there_p, l1, sA, sB, sD, sE, sG, sH, uA, uB, uD, uE, uG, uH, hngt, heq, eJ, hnb, Int.lt_irrefl]
  · have he11 := err_el hG he
    obtain ⟨lB, gB, eB, bB, oB, oldB, uB, mB, fB, _⟩ := list_c (n := n) (h := gA) (by omega) (by omega) ((b4.mono s49).mono (AHeap.subOf oldA)) (by omega)
    have eC := proveBest_c (n := n) (h := gB) (by omega) (by omega) (hyA.mono (AHeap.subOf oldB)) hT bB (by omega) 9999
    rw [errE_ok hE, he11] at eC
    have hawB := awake_c (n := n) (h := gB) (by omega)
    rw [he11]
    simp only [rn0, rn1, rn2, rn3, rn4, rn5, rn6, rn7, rn8, if_true, if_false, Nat.le_refl, true_and, and_true, decide_true, decide_false, Bool.not_true, Bool.not_false, reduceIte, Nat.reduceEqDiff, Nat.reduceAdd, Nat.reduceMul, Nat.reduceSub, Nat.reduceLeDiff, Nat.reduceLT, Int.reduceEq, r9.whole (n := 5) rfl, eA, eB, eC, g_un, hawB, false_and]
end Go.Vm.Bt
