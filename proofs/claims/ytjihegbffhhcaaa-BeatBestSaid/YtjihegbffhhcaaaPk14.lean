/- Texts of the proofs of this seat, put together: BtC, BtBest, BtV4, BtMod, BtEndR, BtEndS, BtNth, BtTruths, BtRefT. -/
import Derived.Test.YtjihegbffhhcaaaPk13
import Derived.Test.YtjihegbffhhcaaaRows
import Derived.WalkKit
import Derived.ProofKit
import Derived.OpenShut

namespace Go.Vm.Bt
open Go.Vm.Vat Go.Vm.L2 Go.Proofs Go.ChangeShapes Go.WideShapes Go.ChangeAt Go.RowKit
set_option linter.unusedSimpArgs false
set_option linter.unusedVariables false
set_option maxRecDepth 10000
variable {n : Nat} {h : AHeap}
theorem own : ownKnob Try.prog.godebug = none := by kernel_rfl
theorem mixedOn : Try.prog.follows .mixedOrders = true := by kernel_rfl
theorem namesAll : (Try.prog.funcs.toList.all fun fn => !(fn.name == "runtime.NumGoroutine")) = true := by kernel_rfl
theorem namesFine : NamesFine Try.prog := by
  intro f fn hf
  have h := List.all_eq_true.1 namesAll fn (Array.mem_toList_iff.2 (Array.mem_of_getElem? hf))
  simpa using h
theorem tabOk : ∀ E ∈ BtAwake.tab, ∃ cf, SoundCF Try.prog cf ∧ entryOk cf E = true := by
  have hs := vm_sound namesFine mixedOn BtAwake.quiet 1000
  intro E hE
  refine ⟨_, hs, ?_⟩
  revert E
  simp only [BtAwake.tab, List.forall_mem_cons, List.not_mem_nil, false_implies, implies_true, and_true]
  exact ⟨BtAwake.ok0, BtAwake.ok1, BtAwake.ok2, BtAwake.ok3, BtAwake.ok4, BtAwake.ok5, BtAwake.ok6, BtAwake.ok7, BtAwake.ok8, BtAwake.ok9, BtAwake.ok10, BtAwake.ok11⟩
theorem kOk : KOk Try.prog K := by
  intro f v hK
  unfold K at hK
  split at hK
  · rename_i e
    subst e
    cases hK
    refine ⟨rfl, acallO Try.prog BtAwake.quiet BtAwake.tab 1000, ?_⟩
    have hm := BtAwake.main_ok
    cases hr : acallO Try.prog BtAwake.quiet BtAwake.tab 1000 (.func (.func 24) #[] #[]) [] AHeap.empty with
    | none => rw [hr] at hm; cases hm
    | some vh =>
      obtain ⟨v, h'⟩ := vh
      rw [hr] at hm
      unfold BtAwake.isTrue at hm
      split at hm
      · rename_i e
        cases e
        exact ⟨h', acallO_sound namesFine mixedOn BtAwake.quiet tabOk 1000, rfl⟩
      · cases hm
  · cases hK
theorem sound (n : Nat) : SoundCF Try.prog (call n) := pcall_sound namesFine mixedOn kOk n
theorem laidOk : laidOutB Try.prog = true := by kernel_rfl
theorem mapsOk : mapsRowed Try.prog = true := by kernel_rfl
theorem slicesOk : ((List.range Try.prog.types.size).all fun t => match Try.prog.underlying t with | some (.slice e) => decide (0 < Try.prog.cellsOf e) | _ => true) = true := by kernel_rfl
theorem kids : Kids Try.prog (· < Try.prog.types.size) := kids_rows laidOk mapsOk
theorem tsize : 120 < Try.prog.types.size := of_decide_eq_true (by kernel_rfl)
theorem cell_slice {P : Program} {w : World} {r : Reach} {b : Nat} {t e : TypeId} {v x : Value} (ht : P.underlying t = some (.slice e)) (ho : Value.okWide P w r b t v) (hc : v.cells.toList = [x]) : v = x := by
  unfold Value.okWide at ho
  rw [ht] at ho
  cases v <;> simp_all [Value.cells, Cell.okWide, Cell.ok]
theorem cell_int {P : Program} {w : World} {r : Reach} {b : Nat} {t : TypeId} {k : IntKind} {v x : Value} (ht : P.underlying t = some (.int k)) (ho : Value.okWide P w r b t v) (hc : v.cells.toList = [x]) : v = x := by
  unfold Value.okWide at ho
  rw [ht] at ho
  cases v <;> simp_all [Value.cells, Cell.okWide, Cell.ok]
theorem agg_struct {P : Program} {w : World} {r : Reach} {b : Nat} {t : TypeId} {fs : Array Field} {v : Value} {cs : List Value} (ht : P.underlying t = some (.struct fs)) (ho : Value.okWide P w r b t v) (hc : v.cells.toList = cs) : v = .agg ⟨cs⟩ := by
  unfold Value.okWide at ho
  rw [ht] at ho
  obtain ⟨cs', rfl, _⟩ := ho
  subst hc
  rfl
theorem map_int {φ : Emb} {k : IntKind} {a : Int} : mapV φ (.int k a) = .int k a := by simp [mapV]
theorem stands_beat {w : World} {φ : Emb} {a b c : Int} {u1 u2 vv sv : Value} (h1 : Stands φ h u1 vv) (h2 : Stands φ h u2 sv) : mapV φ (.agg ⟨[.int .i64 a, .int .i64 b, u1, .int .i64 c, u2]⟩) = .agg ⟨[.int .i64 a, .int .i64 b, vv, .int .i64 c, sv]⟩ ∧ okV φ h.next (.agg ⟨[.int .i64 a, .int .i64 b, u1, .int .i64 c, u2]⟩) := by
  refine ⟨?_, ?_⟩
  · simp only [mapV, mapArr, mapL, h1.map, h2.map]
  · simp only [okV, okA, okL, and_true, true_and]
    exact ⟨h1.ok, h2.ok⟩
theorem stands_course {w : World} {φ : Emb} {a : Int} {u0 cw : Value} (h0 : Stands φ h u0 cw) : mapV φ (.agg ⟨[.int .i64 a, u0]⟩) = .agg ⟨[.int .i64 a, cw]⟩ ∧ okV φ h.next (.agg ⟨[.int .i64 a, u0]⟩) := by
  refine ⟨?_, ?_⟩
  · simp only [mapV, mapArr, mapL, h0.map]
  · simp only [okV, okA, okL, and_true, true_and]
    exact h0.ok
end Go.Vm.Bt

namespace Go.Vm.Bt
open Go.Proofs Go.Vm.Vat Go.Vm.L2
set_option linter.unusedSimpArgs false
set_option linter.unusedVariables false
set_option maxRecDepth 10000
variable {n : Nat} {h : AHeap}
def enL (S : MB) (c : Nat → Int) : List Value := (List.range S.nv).map fun v => .int .i64 (c v)
theorem enL_len {S : MB} {c : Nat → Int} : (enL S c).length = S.nv := by simp [enL]
theorem enL_one {S : MB} {c : Nat → Int} : allB oneCell (enL S c) = true := by rw [allB_iff]; intro v hv; obtain ⟨i, _, rfl⟩ := List.mem_map.1 hv; rfl
theorem enL_set {S : MB} {c : Nat → Int} {i : Nat} (hi : i < S.nv) {x : Int} : splice (enL S c) i [.int .i64 x] = enL S (setU c i x) := by
  refine map_splice (by simp; omega) (fun j hj hc => ?_) (fun j hj => ?_)
  · simp only [List.length_cons, List.length_nil] at hc
    simp only [setU]
    rw [if_neg (by omega)]
  · simp only [List.length_cons, List.length_nil] at hj
    obtain rfl : j = 0 := by omega
    simp [setU]
theorem enL_ints {S : MB} {c : Nat → Int} {g : AHeap} {b k gr m : Nat} {w : Bool} (hg : g.get b = some (.row (enL S c) w gr)) (hm : m ≤ S.nv) : Ints g (.slice (some ⟨b, 0, none⟩) m k) m c :=
  ⟨_, _, rfl, fun x e => by cases e; rfl, .inr ⟨b, 0, _, _, _, rfl, hg, fun v j hv hj => by
    obtain rfl : j = 0 := by omega
    rw [Nat.zero_add, Nat.mul_one, Nat.add_zero, enL, List.getElem?_map, List.getElem?_range (by omega)]; rfl⟩⟩
theorem append_room {g : AHeap} {b c len cap gr kc : Nat} {cs : List Value} {x : Int} (hg : g.get b = some (.row cs true gr)) (hc : g.get c = some (.row [.int .i64 x] true 0)) (hfl : g.floor ≤ b) (hf : g.next ≤ far) (hl : len < cap) (hcap : cap ≤ 100) (hlen : len < cs.length) :
    ∃ h1, appendA 1 8 g (.slice (some ⟨b, 0, none⟩) len cap) (.slice (some ⟨c, 0, none⟩) 1 kc) = some (.slice (some ⟨b, 0, none⟩) (len + 1) cap, h1) ∧ Set1 g h1 b (splice cs len [.int .i64 x]) gr := by
  obtain ⟨h1, e, hs⟩ := storeRow_run (off := len) (vs := [.int .i64 x]) hg hfl hf rfl (by simp; omega)
  refine ⟨h1, ?_, hs⟩
  have hcl : cellsOfSlice g 1 (.slice (some ⟨c, 0, none⟩) 1 kc) = some [.int .i64 x] := by
    show (bif Nat.beq 1 0 then some [] else match g.get c with
      | some (.row cs _ _) => dropK cs 0 fun r => takeK r (1 * 1) fun l => some l
      | _ => none) = some [.int .i64 x]
    have h10 : Nat.beq 1 0 = false := rfl
    rw [hc, h10, cond_false]
    rfl
  have e1 : Nat.ble ((len + 1) * 8) maxBytes = true := ble_iff.2 (by simp [maxBytes]; omega)
  have e2 : Nat.ble (len + 1) maxBytes = true := ble_iff.2 (by simp [maxBytes]; omega)
  have e3 : Nat.beq (Go.Vm.len [Value.int .i64 x]) (1 * 1) = true := rfl
  have e4 : Nat.ble (len + 1) cap = true := ble_iff.2 (by omega)
  have e5 : Nat.blt cap unk = true := blt_iff.2 (by simp [unk]; omega)
  have e6 : Nat.beq 1 0 = false := rfl
  unfold appendA
  simp only [hcl, e1, e2, e3, e4, e5, Bool.and_self, cond_true]
  unfold appendRoom
  simp only [e6, cond_false, Nat.zero_add, Nat.mul_one, e]
theorem part1 {a b : Int} : partOne 1 (.agg ⟨[.int .i64 a, .int .i64 b]⟩) h = some (.int .i64 b, h) := id rfl
def bndB : Nat → Nat
  | 0 => 4
  | d + 1 => 4 + 10 * (bndB d + 1)
def chooseE (pw po pb pc : Nat) : Value := .func (.func 126) ⟨[]⟩ ⟨[.pointer (some ⟨pw, 0, none⟩), .pointer (some ⟨po, 0, none⟩), .pointer (some ⟨pb, 0, none⟩), .pointer (some ⟨pc, 0, none⟩)]⟩
theorem chooseE_self {pw po pb pc : Nat} : eqV (chooseE pw po pb pc) (chooseE pw po pb pc) = true := by
  simp [chooseE, eqV, eqCell, eqPs, eqP, eqOA]
structure BeS (S : MB) (vv sv tv : Value) (pw po pb pc pe B : Nat) (s : (Nat → Int) × Int) (c : Nat → Int) (g : AHeap) : Prop where
  o : OpS g vv sv tv S
  w : Row g pw (wkL S vv sv tv)
  cl : Row g pc [chooseE pw po pb pc]
  wo : g.get po = some (.row [.int .i64 s.2] true 0)
  be : ∃ bv, g.get pb = some (.row [bv] true 0) ∧ Ints g bv S.nv s.1 ∧ oneCell bv = true ∧ ∀ a k q, bv = .slice (some a) k q → a.block ≠ pe ∧ a.block ≠ po ∧ a.block ≠ pb
  e : g.get pe = some (.row (enL S c) true 0)
  fl : g.floor = B
  ne : pe ≠ po ∧ pe ≠ pb ∧ po ≠ pb ∧ B ≤ pe ∧ B ≤ po ∧ B ≤ pb ∧ pw ≠ pe ∧ pw ≠ po ∧ pw ≠ pb ∧ pc ≠ pe ∧ pc ≠ po ∧ pc ≠ pb
def ApartS (S : MB) (vv sv tv : Value) (x : Nat) : Prop := (0 < S.nv → NeB vv x) ∧ (0 < S.ns → NeB sv x) ∧ NeB tv x
theorem cells_keep {g g' : AHeap} {v : Value} {s m o : Nat} {c : Nat → Nat → Value} (hc : Cells g v s m c) (k : Keep o g g') (hb : 0 < m → NeB v o) : Cells g' v s m c := by
  by_cases h0 : m = 0
  · obtain ⟨a, cap, e, sp, _⟩ := hc
    exact ⟨a, cap, e, sp, .inl h0⟩
  · exact Cells.keep hc k fun a m c e => (hb (by omega) a m c e).symm
theorem OpS.set {g g' : AHeap} {vv sv tv : Value} {S : MB} {b gr : Nat} {cs : List Value} (ho : OpS g vv sv tv S) (hs : Set1 g g' b cs gr) (ha : ApartS S vv sv tv b) : OpS g' vv sv tv S := by
  have k := hs.keep
  exact ⟨ho.good, ho.some, ⟨cells_keep ho.y.v k ha.1, cells_keep ho.y.s k ha.2.1⟩, ho.one, Cells.keep ho.d k fun a m c e => (ha.2.2 a m c e).symm, ho.long⟩
def OkE (S : MB) (i : Nat) (c : Nat → Int) : Prop := (∀ j, j < i → 0 ≤ c j ∧ c j ≤ S.last) ∧ ∀ j, S.nv ≤ j → c j = 0
noncomputable def endsFrom (S : MB) (d i : Nat) (c : Nat → Int) : List (Nat → Int) := enumB (fun _ => 0) (fun _ => S.last) d i c
theorem from_ok {S : MB} {d i : Nat} (hi : i + d = S.nv) {c e : Nat → Int} (hc : OkE S i c) (he : e ∈ endsFrom S d i c) : EndsOk S S.nv e ∧ ∀ j, j < i → e j = c j := by
  obtain ⟨h1, h2⟩ := (enumB_ok _ _ _ _).1 he
  refine ⟨⟨fun v hv => ?_, fun v hv => ?_⟩, fun j hj => h2 j (.inl hj)⟩
  · by_cases c1 : v < i
    · rw [h2 v (.inl c1)]; exact hc.1 v c1
    · exact h1 v (by omega) (by omega)
  · rw [h2 v (.inr (by omega))]; exact hc.2 v hv
theorem from_skip {S : MB} (hG : Good S) (hT : truthsS S ≠ []) {d i : Nat} (hi : i + d = S.nv) {c : Nat → Int} (hc : OkE S i c) {s : (Nat → Int) × Int} (hs : s.2 ≤ wHi S c i) : runL (bestStep S) s (endsFrom S d i c) = (s, true) :=
  best_skip _ s fun e he => by
    obtain ⟨h1, h2⟩ := from_ok hi hc he
    have h3 := wHi_mono hG hT h1 (m := i) (m' := S.nv) (by omega) (Nat.le_refl _)
    rw [wHi_congr hT (e' := c) h2] at h3
    omega
def s126 : SCode := (.seq (.ops [⟨(some 8), none, .loadN 6 (T 1)⟩, ⟨(some 9), none, .mov (T 0)⟩, ⟨(some 10), none, .call (.func 93) [(T 8), (T 9)]⟩, ⟨(some 11), none, .field1 1 (T 10)⟩, ⟨(some 6), none, .mov (T 11)⟩]) (.block 0 (.seq (.ops [⟨(some 27), none, .mov (T 6)⟩, ⟨(some 28), none, .load1 (T 2)⟩, ⟨(some 29), none, .int2 .geq (T 27) (T 28)⟩, ⟨(some 26), none, .mov (T 29)⟩]) (.cond (T 26) .skip (.seq (.ops [⟨(some 31), none, .mov (T 0)⟩, ⟨(some 32), none, .len (T 31)⟩, ⟨(some 33), none, .fieldAddr 0 (T 1)⟩, ⟨(some 34), none, .fieldAddr 2 (T 33)⟩, ⟨(some 35), none, .load1 (T 34)⟩, ⟨(some 36), none, .len (T 35)⟩, ⟨(some 37), none, .int2 .eql (T 32) (T 36)⟩, ⟨(some 30), none, .mov (T 37)⟩]) (.cond (T 30) (.ops [⟨(some 38), none, .mov (T 0)⟩, ⟨(some 39), none, .call (.func 127) [(T 38)]⟩, ⟨(some 40), none, .mov (T 6)⟩, ⟨none, none, .store 1 (T 3) (T 39)⟩, ⟨none, none, .store 1 (T 2) (T 40)⟩]) (.seq (.ops [⟨(some 12), none, .fieldAddr 0 (T 1)⟩, ⟨(some 13), none, .fieldAddr 3 (T 12)⟩, ⟨(some 14), none, .load1 (T 13)⟩, ⟨(some 15), none, .int2 .add (T 14) (.const (.int .i64 (1)))⟩, ⟨(some 16), none, .mov (.const (.int .i64 (0)))⟩]) (.block 1 (.loop (.seq (.ops [⟨(some 17), none, .int2 .lss (T 16) (T 15)⟩]) (.seq (.cond (T 17) .skip (.exit 1)) (.seq (.block 2 (.seq (.ops [⟨(some 18), none, .mov (T 16)⟩, ⟨(some 7), none, .mov (T 18)⟩]) (.draw [⟨.rd, ⟨(some 19), none, .load1 (T 4)⟩⟩, ⟨.free, ⟨(some 20), none, .mov (T 0)⟩⟩, ⟨.free, ⟨(some 21), none, .mov (T 7)⟩⟩, ⟨.up, ⟨(some 22), none, .bslice 1 1 [(.int .i64 (0))] [0] [(T 21)]⟩⟩, ⟨.up, ⟨(some 23), none, .append 1 8 (T 20) (T 22)⟩⟩, ⟨.any, ⟨(some 24), none, .call (T 19) [(T 23)]⟩⟩]))) (.ops [⟨(some 25), none, .int2 .add (T 16) (.const (.int .i64 (1)))⟩, ⟨(some 16), none, .mov (T 25)⟩])))))))))))))
theorem fok126 : FnOk Try.prog 126 41 s126 [] := ⟨Try.f126, _, Try.func126, rfl, Try.ntmps126, by kernel_rfl, by kernel_rfl⟩
set_option maxHeartbeats 2000000 in
theorem chooseE_c {S : MB} {vv sv tv : Value} {pw po pb pc pe B : Nat} (ha : ApartS S vv sv tv pe ∧ ApartS S vv sv tv po ∧ ApartS S vv sv tv pb) :
    ∀ (d i n : Nat) (g : AHeap) (s : (Nat → Int) × Int) (c : Nat → Int), i + d = S.nv → 900 + d ≤ n → BeS S vv sv tv pw po pb pc pe B s c g → OkE S i c → g.next + bndB d + 7000 < far →
      ∃ v g' c', call n (chooseE pw po pb pc) [.slice (some ⟨pe, 0, none⟩) i S.nv] g = some (v, g') ∧ BeS S vv sv tv pw po pb pc pe B (runL (bestStep S) s (endsFrom S d i c)).1 c' g' ∧ (∀ j, j < i ∨ i + d ≤ j → c' j = c j) ∧
        (∀ q, q < g.next → q ≠ pe → q ≠ po → q ≠ pb → g'.get q = g.get q) ∧ g.next ≤ g'.next ∧ g'.next ≤ g.next + bndB d := by
  intro d
  induction d with
  | zero =>
    intro i n g s c hi hn hb hok hr
    obtain ⟨n, rfl⟩ : ∃ p, n = p + 1 := ⟨n - 1, by omega⟩
    have hG := hb.o.good
    have hT := hb.o.some
    obtain ⟨z0, z1, z3, _⟩ := hG.sizes
    obtain ⟨e1, e2, e3, e4, e5, e6, e7, e8, e9, e10, e11, e12⟩ := hb.ne
    obtain rfl : i = S.nv := by omega
    have hle := losses_c (n := n) (h := g) (by omega) (by omega) hb.o (enL_ints (k := S.nv) hb.e (Nat.le_refl _)) (Nat.le_refl _) fun v hv => by have := hok.1 v hv; omega
    have rw1 := hb.w
    have ro : Row g po _ := ⟨_, _, hb.wo⟩
    have hlv := Cells.len hb.o.y.v
    simp only [bndB] at hr ⊢
    suffices hs : ∃ v g', call (n + 1) (chooseE pw po pb pc) [.slice (some ⟨pe, 0, none⟩) S.nv S.nv] g = some (v, g') ∧ ∃ c', BeS S vv sv tv pw po pb pc pe B (runL (bestStep S) s (endsFrom S 0 S.nv c)).1 c' g' ∧ (∀ j, j < S.nv ∨ S.nv + 0 ≤ j → c' j = c j) ∧
        (∀ q, q < g.next → q ≠ pe → q ≠ po → q ≠ pb → g'.get q = g.get q) ∧ g.next ≤ g'.next ∧ g'.next ≤ g.next + 4 by
      obtain ⟨v, g', e, c', h1⟩ := hs
      exact ⟨v, g', c', e, h1⟩
    refine call_any (xs := []) (ys := [.pointer (some ⟨pw, 0, none⟩), .pointer (some ⟨po, 0, none⟩), .pointer (some ⟨pb, 0, none⟩), .pointer (some ⟨pc, 0, none⟩)]) fok126 rfl rfl (by simp) ?_
    by_cases hsk : s.2 ≤ wHi S c S.nv
    · have hrun := from_skip hG hT (d := 0) (by omega) hok hsk
      simp only [rn0, rn1, rn2, reduceIte, Nat.reduceEqDiff, Nat.reduceAdd, Nat.reduceMul, Nat.reduceSub, Nat.reduceLeDiff, Nat.reduceLT, s126, List.cons_append, List.nil_append, rw1.whole (n := 6) rfl, hle, part1, ro.ld, Nat.zero_add, List.getElem?_cons_zero, List.getElem?_cons_succ, hsk]
      rw [hrun]
      refine ⟨_, rfl, c, hb, ?_⟩
      first | exact ⟨fun _ _ => rfl, fun _ _ _ _ _ => trivial, Nat.le_add_right _ _⟩ | exact ⟨fun _ _ => rfl, fun _ _ _ _ _ => rfl, Nat.le_refl _, by omega⟩
    · obtain ⟨cv, g1, e1c, hic, oc, oldc, uc, mc, fc, bc⟩ := clone_c (n := n) (h := g) (v := .slice (some ⟨pe, 0, none⟩) S.nv S.nv) (by omega) (by omega) (enL_ints hb.e (Nat.le_refl _)) (by omega)
      have hrun : (runL (bestStep S) s (endsFrom S 0 S.nv c)).1 = (c, wHi S c S.nv) := by
        simp only [endsFrom, enumB, runL, bestStep]
        rw [if_pos (show wHi S c S.nv < s.2 by omega)]; rfl
      obtain ⟨bv, b1, b2, b3, b4⟩ := hb.be
      have ltb := AHeap.lt_of_get b1
      have lto := AHeap.lt_of_get hb.wo
      have lte := AHeap.lt_of_get hb.e
      have hfb := hb.fl
      simp only [rn0, rn1, rn2, reduceIte, Nat.reduceEqDiff, Nat.reduceAdd, Nat.reduceMul, Nat.reduceSub, Nat.reduceLeDiff, Nat.reduceLT, s126, List.cons_append, List.nil_append, rw1.whole (n := 6) rfl, rw1.ld, wkg, hlv, len_slice, hle, part1, ro.ld, Nat.zero_add, List.getElem?_cons_zero, List.getElem?_cons_succ, hsk, e1c]
      refine step_store (b := pb) (off := 0) (vs := [cv]) rfl (by rw [oldc _ ltb]; exact b1) (by omega) (by omega) (cells1 oc) (by simp [allB, oc]) rfl (by simp) fun g2 hs2 => ?_
      rw [splice1] at hs2
      have n2 := hs2.next
      have f2 := hs2.floor
      simp only [rn0, rn1, rn2, reduceIte, Nat.reduceEqDiff, Nat.reduceAdd, Nat.reduceMul, Nat.reduceSub, Nat.reduceLeDiff, Nat.reduceLT]
      refine step_store (b := po) (off := 0) (vs := [.int .i64 (wHi S c S.nv)]) rfl (by rw [hs2.old _ e3, oldc _ lto]; exact hb.wo) (by omega) (by omega) rfl rfl rfl (by simp) fun g3 hs3 => ?_
      rw [splice1] at hs3
      have n3 := hs3.next
      have f3 := hs3.floor
      simp only [rn0, rn1, rn2, reduceIte, Nat.reduceEqDiff, Nat.reduceAdd, Nat.reduceMul, Nat.reduceSub, Nat.reduceLeDiff, Nat.reduceLT]
      rw [hrun]
      have old3 : ∀ q, q < g.next → q ≠ pe → q ≠ po → q ≠ pb → g3.get q = g.get q := fun q hq _ h2 h3 => by rw [hs3.old q h2, hs2.old q h3, oldc q hq]
      have rmo : ∀ {q : Nat} {cs : List Value}, Row g q cs → q ≠ pe → q ≠ po → q ≠ pb → Row g3 q cs := fun {q cs} hq h1 h2 h3 => by
        obtain ⟨w, gr, e⟩ := hq
        exact ⟨w, gr, by rw [old3 q (AHeap.lt_of_get e) h1 h2 h3]; exact e⟩
      have ho1 := hb.o.mono (AHeap.subOf oldc)
      refine ⟨_, rfl, c, ⟨(ho1.set hs2 ha.2.2).set hs3 ha.2.1, rmo hb.w e7 e8 e9, rmo hb.cl e10 e11 e12, hs3.get, ⟨cv, by rw [hs3.old _ e3.symm]; exact hs2.get, ?_, oc, fun a k q e => ?_⟩, ?_, by omega, hb.ne⟩, fun _ _ => rfl, old3, by omega, by omega⟩
      · have q2 : Ints g2 cv S.nv c := Cells.keep hic hs2.keep fun a k q e => by have := (bc a k q e).1; omega
        exact Cells.keep q2 hs3.keep fun a k q e => by have := (bc a k q e).1; omega
      · have := (bc a k q e).1
        omega
      · rw [hs3.old _ e1, hs2.old _ e2, oldc _ lte]; exact hb.e
  | succ d ih =>
    intro i n g s c hi hn hb hok hr
    obtain ⟨n, rfl⟩ : ∃ p, n = p + 1 := ⟨n - 1, by omega⟩
    have hG := hb.o.good
    have hT := hb.o.some
    obtain ⟨z0, z1, z3, _⟩ := hG.sizes
    obtain ⟨e1, e2, e3, e4, e5, e6, e7, e8, e9, e10, e11, e12⟩ := hb.ne
    have hk : i < S.nv := by omega
    have hin : ¬ (i : Int) = (S.nv : Int) := by omega
    have hle := losses_c (n := n) (h := g) (by omega) (by omega) hb.o (enL_ints (k := S.nv) hb.e (m := i) (by omega)) (by omega) fun v hv => by have := hok.1 v hv; omega
    have rw1 := hb.w
    have ro : Row g po _ := ⟨_, _, hb.wo⟩
    have hlv := Cells.len hb.o.y.v
    have hbd : bndB (d + 1) = 4 + 10 * (bndB d + 1) := rfl
    obtain ⟨X, hX⟩ : ∃ X, X = bndB d + 1 := ⟨_, rfl⟩
    rw [hbd, ← hX] at hr ⊢
    suffices hs : ∃ v g', call (n + 1) (chooseE pw po pb pc) [.slice (some ⟨pe, 0, none⟩) i S.nv] g = some (v, g') ∧ ∃ c', BeS S vv sv tv pw po pb pc pe B (runL (bestStep S) s (endsFrom S (d + 1) i c)).1 c' g' ∧ (∀ j, j < i ∨ i + (d + 1) ≤ j → c' j = c j) ∧
        (∀ q, q < g.next → q ≠ pe → q ≠ po → q ≠ pb → g'.get q = g.get q) ∧ g.next ≤ g'.next ∧ g'.next ≤ g.next + (4 + 10 * X) by
      obtain ⟨v, g', e, c', h1⟩ := hs
      exact ⟨v, g', c', e, h1⟩
    refine call_any (xs := []) (ys := [.pointer (some ⟨pw, 0, none⟩), .pointer (some ⟨po, 0, none⟩), .pointer (some ⟨pb, 0, none⟩), .pointer (some ⟨pc, 0, none⟩)]) fok126 rfl rfl (by simp) ?_
    by_cases hsk : s.2 ≤ wHi S c i
    · have hrun := from_skip hG hT (d := d + 1) hi hok hsk
      simp only [rn0, rn1, rn2, reduceIte, Nat.reduceEqDiff, Nat.reduceAdd, Nat.reduceMul, Nat.reduceSub, Nat.reduceLeDiff, Nat.reduceLT, s126, List.cons_append, List.nil_append, rw1.whole (n := 6) rfl, hle, part1, ro.ld, Nat.zero_add, List.getElem?_cons_zero, List.getElem?_cons_succ, hsk]
      rw [hrun]
      refine ⟨_, rfl, c, hb, ?_⟩
      first | exact ⟨fun _ _ => rfl, fun _ _ _ _ _ => trivial, Nat.le_add_right _ _⟩ | exact ⟨fun _ _ => rfl, fun _ _ _ _ _ => rfl, Nat.le_refl _, by omega⟩
    let part : Nat → List (Nat → Int) := fun k => endsFrom S d (i + 1) fun j => if j = i then 0 + (k : Int) else c j
    have hen : endsFrom S (d + 1) i c = (List.range (S.last - 0 + 1).toNat).flatMap part := rfl
    obtain ⟨m, hm, hm2⟩ : ∃ m : Nat, (m : Int) = S.last + 1 ∧ (S.last - 0 + 1).toNat = m := ⟨(S.last - 0 + 1).toNat, by omega, rfl⟩
    rw [hm2] at hen
    rw [hen]
    have hwl : wrapF .i64 (S.last + 1) = (m : Int) := by rw [wrap_in (by omega) (by omega)]; omega
    simp only [rn0, rn1, rn2, reduceIte, Nat.reduceEqDiff, Nat.reduceAdd, Nat.reduceMul, Nat.reduceSub, Nat.reduceLeDiff, Nat.reduceLT, s126, List.cons_append, List.nil_append, rw1.whole (n := 6) rfl, rw1.ld, wkg, hlv, len_slice, hin, hle, part1, ro.ld, Nat.zero_add, List.getElem?_cons_zero, List.getElem?_cons_succ, hsk, hwl]
    refine W_loop m (fun k f ga ms => (∃ c', BeS S vv sv tv pw po pb pc pe B (runL (bestStep S) s ((List.range k).flatMap part)).1 c' ga ∧ (∀ j, j < i ∨ i + (d + 1) ≤ j → c' j = c j) ∧ (∀ q, q < g.next → q ≠ pe → q ≠ po → q ≠ pb → ga.get q = g.get q) ∧ g.next ≤ ga.next ∧ ga.next ≤ g.next + X * k) ∧ ms = [] ∧
      f 0 = .slice (some ⟨pe, 0, none⟩) i S.nv ∧ f 4 = .pointer (some ⟨pc, 0, none⟩) ∧ f 15 = .int .i64 (m : Int) ∧ f 16 = .int .i64 (k : Int)) (by simp; omega) ?_ ?_ ?_
    · simp only [rn0, rn1, rn2, reduceIte, Nat.reduceEqDiff, Nat.reduceAdd, Nat.reduceMul, Nat.reduceSub, Nat.reduceLeDiff, Nat.reduceLT, Int.natCast_zero]
      have hfin : ∃ c', BeS S vv sv tv pw po pb pc pe B (runL (bestStep S) s ((List.range 0).flatMap part)).1 c' g ∧ (∀ j, j < i ∨ i + (d + 1) ≤ j → c' j = c j) ∧ (∀ q, q < g.next → q ≠ pe → q ≠ po → q ≠ pb → g.get q = g.get q) ∧ g.next ≤ g.next ∧ g.next ≤ g.next + X * 0 := ⟨c, hb, fun _ _ => rfl, fun _ _ _ _ _ => rfl, Nat.le_refl _, by omega⟩
      first | exact ⟨by simpa using hfin, rfl⟩ | exact ⟨hfin, rfl⟩ | simpa using hfin
    · rintro k f ga ms hkm ⟨⟨c1, hba, hc1, olda, ua, na⟩, rfl, p0, p4, p15, p16⟩
      have hkm' : (k : Int) < (m : Int) := by omega
      have hw : wrapF .i64 ((k : Int) + 1) = ((k + 1 : Nat) : Int) := by rw [wrap_in (by omega) (by omega)]; rfl
      have hkb : X * (k + 1) ≤ X * 10 := Nat.mul_le_mul_left _ (by omega)
      have hks : X * (k + 1) = X * k + X := Nat.mul_succ _ _
      have hq9 : ga.next < far := by omega
      have hfa := hba.fl
      have lte := AHeap.lt_of_get hba.e
      have lto := AHeap.lt_of_get hba.wo
      obtain ⟨bv, b1, b2, b3, b4⟩ := hba.be
      have ltb := AHeap.lt_of_get b1
      simp only [rn0, rn1, rn2, reduceIte, Nat.reduceEqDiff, Nat.reduceAdd, Nat.reduceMul, Nat.reduceSub, Nat.reduceLeDiff, Nat.reduceLT, p0, p4, p15, p16, hkm']
      refine W_draw (fun x => ¬ x = pe) ?_
      have e10' : ¬ pc = pe := e10
      simp only [rn0, rn1, rn2, reduceIte, Nat.reduceEqDiff, Nat.reduceAdd, Nat.reduceMul, Nat.reduceSub, Nat.reduceLeDiff, Nat.reduceLT, rd_1, rd_ne, e10', not_false_eq_true, p0, p4, p15, p16, hba.cl.ld, Nat.zero_add, List.getElem?_cons_zero, sl_int]
      refine ⟨chooseE_self, ?_⟩
      refine up_slice (by omega) rfl (fun g5 hx i cs w gr _ e => hx.sub i cs w gr trivial e) fun g5 hx5 => ?_
      have n5 := hx5.next
      have f5 := hx5.floor
      have he5 : g5.get pe = some (.row (enL S c1) true 0) := by rw [hx5.old _ lte]; exact hba.e
      obtain ⟨g6, e6, hs6⟩ := append_room (g := g5) (b := pe) (c := ga.next) (len := i) (cap := S.nv) (kc := 1) he5 hx5.get (by omega) (by omega) hk (by omega) (by rw [enL_len]; exact hk)
      rw [enL_set hk] at hs6
      have n6 := hs6.next
      have f6 := hs6.floor
      have old6 : ∀ q, q < ga.next → q ≠ pe → g6.get q = ga.get q := fun q hq h1 => by rw [hs6.old q h1, hx5.old q hq]
      have rmo : ∀ {q : Nat} {cs : List Value}, Row ga q cs → q ≠ pe → Row g6 q cs := fun {q cs} hq h1 => by
        obtain ⟨w, gr, e⟩ := hq
        exact ⟨w, gr, by rw [old6 q (AHeap.lt_of_get e) h1]; exact e⟩
      have hb6 : BeS S vv sv tv pw po pb pc pe B (runL (bestStep S) s ((List.range k).flatMap part)).1 (setU c1 i (k : Int)) g6 := by
        refine ⟨(hba.o.mono hx5.sub).set hs6 ha.1, rmo hba.w e7, rmo hba.cl e10, by rw [old6 _ lto e1.symm]; exact hba.wo, ⟨bv, by rw [old6 _ ltb e2.symm]; exact b1, Cells.keep (Cells.mono b2 hx5.sub) hs6.keep fun a k q e => (b4 a k q e).1, b3, b4⟩, hs6.get, by omega, hb.ne⟩
      have hok6 : OkE S (i + 1) (setU c1 i (k : Int)) := by
        refine ⟨fun j hj => ?_, fun j hj => ?_⟩
        · by_cases ej : j = i
          · subst ej; simp only [setU, if_true]; omega
          · simp only [setU, ej, if_false]; rw [hc1 j (by omega)]; exact hok.1 j (by omega)
        · have ej : ¬ j = i := by omega
          simp only [setU, ej, if_false]; rw [hc1 j (by omega)]; exact hok.2 j hj
      have hcg : endsFrom S d (i + 1) (setU c1 i (k : Int)) = part k := enumB_congr d (i + 1) _ _ fun j hj => by
        by_cases ej : j = i
        · simp [ej, setU]
        · simp only [setU, ej, if_false]; exact hc1 j (by omega)
      obtain ⟨v7, g7, c7, e7c, hb7, hc7, old7, u7, m7⟩ := ih (i + 1) n g6 _ _ (by omega) (by omega) hb6 hok6 (by omega)
      rw [hcg] at hb7
      have hrun : runL (bestStep S) s ((List.range (k + 1)).flatMap part) = runL (bestStep S) (runL (bestStep S) s ((List.range k).flatMap part)).1 (part k) := by
        rw [List.range_succ, List.flatMap_append, runL_append, bestRun_go, if_pos rfl]; simp
      simp only [rn0, rn1, rn2, reduceIte, Nat.reduceEqDiff, Nat.reduceAdd, Nat.reduceMul, Nat.reduceSub, Nat.reduceLeDiff, Nat.reduceLT, rd_1, rd_ne, e10', not_false_eq_true, p0, p4, p15, p16, e6, e7c, hw]
      rw [hrun]
      have hfin : ∃ c', BeS S vv sv tv pw po pb pc pe B (runL (bestStep S) (runL (bestStep S) s ((List.range k).flatMap part)).1 (part k)).1 c' g7 ∧ (∀ j, j < i ∨ i + (d + 1) ≤ j → c' j = c j) ∧ (∀ q, q < g.next → q ≠ pe → q ≠ po → q ≠ pb → g7.get q = g.get q) ∧ g.next ≤ g7.next ∧ g7.next ≤ g.next + X * (k + 1) := by
        refine ⟨c7, hb7, fun j hj => ?_, fun q hq h1 h2 h3 => by rw [old7 q (by omega) h1 h2 h3, old6 q (by omega) h1, olda q hq h1 h2 h3], by omega, by omega⟩
        rw [hc7 j (by omega)]; simp only [setU]; rw [if_neg (by omega)]; exact hc1 j hj
      exact ⟨⟨by omega, fun q cs w gr h1 e => by rw [old6 q (AHeap.lt_of_get e) h1]; exact e⟩, by omega, hfin⟩
    · rintro f ga ms ⟨⟨c1, hba, hc1, olda, ua, na⟩, rfl, p0, p4, p15, p16⟩
      have hkb : X * m ≤ X * 10 := Nat.mul_le_mul_left _ (by omega)
      simp only [rn0, rn1, rn2, reduceIte, Nat.reduceEqDiff, Nat.reduceAdd, Nat.reduceMul, Nat.reduceSub, Nat.reduceLeDiff, Nat.reduceLT, p0, p4, p15, p16, Int.lt_irrefl]
      exact ⟨_, rfl, c1, hba, hc1, olda, ua, by omega⟩

theorem neB_low {v : Value} {s m : Nat} {c : Nat → Nat → Value} (hc : Cells h v s m c) {x : Nat} (hx : h.next ≤ x) : 0 < m → NeB v x := fun hm a k q e => by
  have := cells_lt hc hm e
  omega
theorem res_cc {a b : Nat} {f : Go.Vm.Fr} : resV f h [.cell1 a, .cell1 b] = match loadCell h (f a) with
  | some x => (match loadCell h (f b) with
    | some y => some (.tuple ⟨[x, y]⟩)
    | none => none)
  | none => none := by
  simp only [resV, resL, res1]
  cases loadCell h (f a) <;> cases loadCell h (f b) <;> rfl
def s96 : SCode := (.seq (.ops [⟨(some 1), none, .box (T 0)⟩, ⟨(some 2), none, .alloc [(.slice none 0 0)]⟩, ⟨(some 3), none, .alloc [(.int .i64 (0))]⟩]) (.seq (.ops [⟨(some 5), none, .fieldAddr 0 (T 1)⟩, ⟨(some 6), none, .fieldAddr 2 (T 5)⟩, ⟨(some 7), none, .load1 (T 6)⟩, ⟨(some 8), none, .len (T 7)⟩, ⟨(some 9), none, .mkslice 1 8 [(.int .i64 (0))] (T 8) (T 8)⟩, ⟨none, none, .store 1 (T 2) (T 9)⟩]) (.seq (.ops [⟨(some 10), none, .loadN 6 (T 1)⟩, ⟨(some 11), none, .load1 (T 2)⟩, ⟨(some 12), none, .call (.func 93) [(T 10), (T 11)]⟩, ⟨(some 13), none, .field1 1 (T 12)⟩, ⟨none, none, .store 1 (T 3) (T 13)⟩]) (.seq (.ops [⟨(some 4), none, .alloc [.nilFunc]⟩]) (.seq (.ops [⟨(some 14), none, .mkfunc 126 [] [(T 1), (T 3), (T 2), (T 4)]⟩, ⟨none, none, .store 1 (T 4) (T 14)⟩]) (.seq (.draw [⟨.rd, ⟨(some 15), none, .load1 (T 4)⟩⟩, ⟨.free, ⟨(some 16), none, .fieldAddr 0 (T 1)⟩⟩, ⟨.free, ⟨(some 17), none, .fieldAddr 2 (T 16)⟩⟩, ⟨.rd1, ⟨(some 18), none, .load1 (T 17)⟩⟩, ⟨.free, ⟨(some 19), none, .len (T 18)⟩⟩, ⟨.up, ⟨(some 20), none, .mkslice 1 8 [(.int .i64 (0))] (.const (.int .i64 (0))) (T 19)⟩⟩, ⟨.any, ⟨(some 21), none, .call (T 15) [(T 20)]⟩⟩]) (.seq (.draw [⟨.rd1, ⟨(some 22), none, .load1 (T 2)⟩⟩, ⟨.rd, ⟨(some 23), none, .load1 (T 3)⟩⟩, ⟨.up, ⟨none, none, .store 1 (T 2) (T 22)⟩⟩, ⟨.any, ⟨none, none, .store 1 (T 3) (T 23)⟩⟩]) .ret)))))))
theorem fok96 : FnOk Try.prog 96 24 s96 [.cell1 2, .cell1 3] := ⟨Try.f96, _, Try.func96, rfl, Try.ntmps96, by kernel_rfl, by kernel_rfl⟩
set_option maxHeartbeats 1000000 in
theorem bestE_c (hn : 1000 ≤ n) (hr : h.next + 14000 < far) (hfl : h.floor ≤ h.next) {vv sv tv : Value} {S : MB} (ho : OpS h vv sv tv S) :
    ∃ bv h', call n (.func (.func 96) #[] #[]) [.agg ⟨wkL S vv sv tv⟩] h = some (.tuple ⟨[bv, .int .i64 (bestS S).2]⟩, h') ∧ Ints h' bv S.nv (bestS S).1 ∧ oneCell bv = true ∧ (∀ i, i < h.next → h'.get i = h.get i) ∧ h.next ≤ h'.next ∧ h'.next ≤ h.next + 6000 ∧ h'.floor = h.floor := by
  obtain ⟨n, rfl⟩ : ∃ p, n = p + 1 := ⟨n - 1, by omega⟩
  have hG := ho.good
  have hT := ho.some
  obtain ⟨z0, z1, z3, _⟩ := hG.sizes
  suffices hs : ∃ v h', call (n + 1) (.func (.func 96) #[] #[]) [.agg ⟨wkL S vv sv tv⟩] h = some (v, h') ∧ ∃ bv, v = .tuple ⟨[bv, .int .i64 (bestS S).2]⟩ ∧ Ints h' bv S.nv (bestS S).1 ∧ oneCell bv = true ∧ (∀ i, i < h.next → h'.get i = h.get i) ∧ h.next ≤ h'.next ∧ h'.next ≤ h.next + 6000 ∧ h'.floor = h.floor by
    obtain ⟨v, h', e, bv, rfl, q⟩ := hs
    exact ⟨bv, h', e, q⟩
  refine call_any0 fok96 rfl rfl (by simp) ?_
  simp only [s96, W_seq, W_ops]
  refine ops_box (cs := wkL S vv sv tv) (by omega) rfl (wk_one ho.y ho.one) fun g1 hx1 => ?_
  have n1 := hx1.next
  have f1 := hx1.floor
  refine ops_alloc (cs := [nilS]) (by omega) rfl fun g2 hx2 => ?_
  have n2 := hx2.next
  have f2 := hx2.floor
  refine ops_alloc (cs := [.int .i64 0]) (by omega) rfl fun g3 hx3 => ?_
  have n3 := hx3.next
  have f3 := hx3.floor
  have hmk : ∀ g : AHeap, makeSl 1 8 [.int .i64 0] g (.int .i64 (S.nv : Int)) (.int .i64 (S.nv : Int)) = newSlice g (enL S fun _ => 0) S.nv S.nv 0 := fun g => by
    rw [make_intsL (by omega), repl_one]
    congr 1
    unfold enL
    apply List.ext_getElem?
    intro i
    by_cases hi : i < S.nv
    · rw [List.getElem?_replicate, if_pos hi, List.getElem?_map, List.getElem?_range hi]; rfl
    · rw [List.getElem?_eq_none (by simp; omega), List.getElem?_eq_none (by simp; omega)]
  have hmk0 : ∀ g : AHeap, makeSl 1 8 [.int .i64 0] g (.int .i64 0) (.int .i64 (S.nv : Int)) = newSlice g (enL S fun _ => 0) 0 S.nv 0 := fun g => by
    show (bif Nat.ble 0 S.nv && Nat.ble (S.nv * 8) maxBytes && Nat.ble S.nv maxBytes then newSlice g (repl [.int .i64 0] S.nv) 0 S.nv 0 else none) = _
    have e1 : Nat.ble 0 S.nv = true := ble_iff.2 (Nat.zero_le _)
    have e2 : Nat.ble (S.nv * 8) maxBytes = true := ble_iff.2 (by simp [maxBytes]; omega)
    have e3 : Nat.ble S.nv maxBytes = true := ble_iff.2 (by simp [maxBytes]; omega)
    rw [e1, e2, e3, repl_one]
    show newSlice g _ _ _ _ = _
    congr 1
    unfold enL
    apply List.ext_getElem?
    intro i
    by_cases hi : i < S.nv
    · rw [List.getElem?_replicate, if_pos hi, List.getElem?_map, List.getElem?_range hi]; rfl
    · rw [List.getElem?_eq_none (by simp; omega), List.getElem?_eq_none (by simp; omega)]
  have r1 := (hx1.row.mono hx2.sub).mono hx3.sub
  have hlv := Cells.len ho.y.v
  simp only [rn0, rn1, rn2, reduceIte, Nat.reduceEqDiff, Nat.reduceAdd, Nat.reduceMul, Nat.reduceSub, Nat.reduceLeDiff, Nat.reduceLT, r1.ld, wkg, Nat.zero_add, hlv, hmk]
  refine step_slice (by omega) enL_one fun g4 hx4 => ?_
  have n4 := hx4.next
  have f4 := hx4.floor
  simp only [rn0, rn1, rn2, reduceIte, Nat.reduceEqDiff, Nat.reduceAdd, Nat.reduceMul, Nat.reduceSub, Nat.reduceLeDiff, Nat.reduceLT]
  refine step_store (b := g1.next) (off := 0) (vs := [.slice (some ⟨g3.next, 0, none⟩) S.nv S.nv]) rfl (by rw [hx4.old _ (by omega), hx3.old _ (by omega)]; exact hx2.get) (by omega) (by omega) rfl rfl rfl (by simp) fun g5 hs5 => ?_
  rw [splice1] at hs5
  have n5 := hs5.next
  have f5 := hs5.floor
  have old5 : ∀ i, i < g1.next → g5.get i = g1.get i := fun i hi => by rw [hs5.old i (by omega), hx4.old i (by omega), hx3.old i (by omega), hx2.old i (by omega)]
  have rw5 : Row g5 h.next (wkL S vv sv tv) := ⟨true, 0, by rw [old5 _ (by omega)]; exact hx1.get⟩
  have ho5 : OpS g5 vv sv tv S := (ho.mono hx1.sub).mono (AHeap.subOf old5)
  have h45 : g5.get g3.next = some (.row (enL S fun _ => 0) true 0) := by rw [hs5.old _ (by omega)]; exact hx4.get
  have rb5 : Row g5 g1.next _ := ⟨_, _, hs5.get⟩
  have hle := losses_c (n := n) (h := g5) (by omega) (by omega) ho5 (enL_ints (k := S.nv) h45 (Nat.le_refl _)) (Nat.le_refl _) fun v hv => by omega
  have h3o : g5.get g2.next = some (.row [.int .i64 0] true 0) := by rw [hs5.old _ (by omega), hx4.old _ (by omega)]; exact hx3.get
  simp only [rn0, rn1, rn2, reduceIte, Nat.reduceEqDiff, Nat.reduceAdd, Nat.reduceMul, Nat.reduceSub, Nat.reduceLeDiff, Nat.reduceLT, rw5.whole (n := 6) rfl, rb5.ld, Nat.zero_add, List.getElem?_cons_zero, hle, part1]
  refine step_store (b := g2.next) (off := 0) (vs := [.int .i64 (wHi S (fun _ => 0) S.nv)]) rfl h3o (by omega) (by omega) rfl rfl rfl (by simp) fun g6 hs6 => ?_
  rw [splice1] at hs6
  have n6 := hs6.next
  have f6 := hs6.floor
  simp only [rn0, rn1, rn2, reduceIte, Nat.reduceEqDiff, Nat.reduceAdd, Nat.reduceMul, Nat.reduceSub, Nat.reduceLeDiff, Nat.reduceLT]
  refine step_row (cs := [.nilFunc]) (by omega) rfl rfl fun g7 hx7 => ?_
  have n7 := hx7.next
  have f7 := hx7.floor
  simp only [rn0, rn1, rn2, reduceIte, Nat.reduceEqDiff, Nat.reduceAdd, Nat.reduceMul, Nat.reduceSub, Nat.reduceLeDiff, Nat.reduceLT]
  refine step_store (b := g6.next) (off := 0) (vs := [chooseE h.next g2.next g1.next g6.next]) rfl hx7.get (by omega) (by omega) rfl rfl rfl (by simp) fun g8 hs8 => ?_
  rw [splice1] at hs8
  have n8 := hs8.next
  have f8 := hs8.floor
  have old8 : ∀ i, i < g6.next → g8.get i = g6.get i := fun i hi => by rw [hs8.old i (by omega), hx7.old i hi]
  have rc8 : Row g8 g6.next [chooseE h.next g2.next g1.next g6.next] := ⟨_, _, hs8.get⟩
  have rw8 : Row g8 h.next (wkL S vv sv tv) := by
    obtain ⟨w, gr, e⟩ := rw5
    exact ⟨w, gr, by rw [old8 _ (by omega), hs6.old _ (by omega)]; exact e⟩
  simp only [rn0, rn1, rn2, reduceIte, Nat.reduceEqDiff, Nat.reduceAdd, Nat.reduceMul, Nat.reduceSub, Nat.reduceLeDiff, Nat.reduceLT]
  refine W_draw All ?_
  simp only [rn0, rn1, rn2, reduceIte, Nat.reduceEqDiff, Nat.reduceAdd, Nat.reduceMul, Nat.reduceSub, Nat.reduceLeDiff, Nat.reduceLT, rc8.ld, rw8.ld, wkg, Nat.zero_add, List.getElem?_cons_zero, hlv, hmk0]
  refine ⟨chooseE_self, ?_⟩
  refine up_slice (by omega) enL_one (fun g9 hx => hx.sub) fun g9 hx9 => ?_
  have n9 := hx9.next
  have f9 := hx9.floor
  have hap : ∀ x, h.next < x → ApartS S vv sv tv x := fun x hx => ⟨neB_low ho.y.v (by omega), neB_low ho.y.s (by omega), neB_low ho.d (by omega) (List.length_pos_iff.2 fun e => hT (dones_nil.1 e))⟩
  have ho9 : OpS g9 vv sv tv S := by
    refine ho.mono (AHeap.subOf fun i hi => ?_)
    rw [hx9.old i (by omega), old8 i (by omega), hs6.old i (by omega), old5 i (by omega), hx1.old i hi]
  have hb9 : BeS S vv sv tv h.next g2.next g1.next g6.next g8.next g9.floor ((fun _ => 0), wHi S (fun _ => 0) S.nv) (fun _ => 0) g9 := by
    refine ⟨ho9, rw8.mono hx9.sub, rc8.mono hx9.sub, ?_, ⟨.slice (some ⟨g3.next, 0, none⟩) S.nv S.nv, ?_, ?_, rfl, fun a k q e => ?_⟩, hx9.get, rfl, by omega⟩
    · rw [hx9.old _ (by omega), old8 _ (by omega)]; exact hs6.get
    · rw [hx9.old _ (by omega), old8 _ (by omega), hs6.old _ (by omega)]; exact hs5.get
    · exact enL_ints (by rw [hx9.old _ (by omega), old8 _ (by omega), hs6.old _ (by omega)]; exact h45) (Nat.le_refl _)
    · cases e; show g3.next ≠ g8.next ∧ g3.next ≠ g2.next ∧ g3.next ≠ g1.next; omega
  have hbn : bndB S.nv ≤ 5554 := by
    have : S.nv = 0 ∨ S.nv = 1 ∨ S.nv = 2 ∨ S.nv = 3 := by omega
    rcases this with e | e | e | e <;> rw [e] <;> decide
  obtain ⟨v10, g10, c10, e10, hb10, _, old10, u10, m10⟩ := chooseE_c (B := g9.floor) ⟨hap g8.next (by omega), hap g2.next (by omega), hap g1.next (by omega)⟩ S.nv 0 n g9 _ _ (by omega) (by omega) hb9 ⟨fun j hj => by omega, fun _ _ => rfl⟩ (by omega)
  have hres : (runL (bestStep S) ((fun _ => 0), wHi S (fun _ => 0) S.nv) (endsFrom S S.nv 0 fun _ => 0)).1 = bestS S := rfl
  rw [hres] at hb10
  obtain ⟨bv, b1, b2, b3, b4⟩ := hb10.be
  have rb10 : Row g10 g1.next _ := ⟨_, _, b1⟩
  have ro10 : Row g10 g2.next _ := ⟨_, _, hb10.wo⟩
  have f10 := hb10.fl
  have z00 : ((0 : Nat) : Int) = 0 := rfl
  simp only [rn0, rn1, rn2, reduceIte, Nat.reduceEqDiff, Nat.reduceAdd, Nat.reduceMul, Nat.reduceSub, Nat.reduceLeDiff, Nat.reduceLT, e10]
  refine ⟨u10, ?_⟩
  refine W_draw All ?_
  have sameSet : ∀ {g g' : AHeap} {b gr : Nat} {cs : List Value}, g.get b = some (.row cs true gr) → Set1 g g' b cs gr → Sub All g g' := fun {g g' b gr cs} hb hs i cs' w gr' _ e => by
    by_cases ei : i = b
    · subst ei; rw [hb] at e; cases e; exact hs.get
    · rw [hs.old i ei]; exact e
  obtain ⟨bx, bk, rfl⟩ := ints_slice b2
  simp only [rn0, rn1, rn2, reduceIte, Nat.reduceEqDiff, Nat.reduceAdd, Nat.reduceMul, Nat.reduceSub, Nat.reduceLeDiff, Nat.reduceLT, rb10.ld, ro10.ld, Nat.zero_add, List.getElem?_cons_zero, eqV_int, Cells.self b2]
  refine up_store (b := g1.next) (off := 0) (vs := [.slice bx S.nv bk]) rfl b1 (by omega) (by omega) rfl rfl rfl (by simp) (fun g11 hs => by rw [splice1] at hs; exact sameSet b1 hs) fun g11 hs11 => ?_
  rw [splice1] at hs11
  have n11 := hs11.next
  have f11 := hs11.floor
  have s11 := sameSet b1 hs11
  have o11 : g11.get g2.next = some (.row [.int .i64 (bestS S).2] true 0) := by rw [hs11.old _ (by omega)]; exact hb10.wo
  simp only [rn0, rn1, rn2, reduceIte, Nat.reduceEqDiff, Nat.reduceAdd, Nat.reduceMul, Nat.reduceSub, Nat.reduceLeDiff, Nat.reduceLT]
  refine up_store (b := g2.next) (off := 0) (vs := [.int .i64 (bestS S).2]) rfl o11 (by omega) (by omega) rfl rfl rfl (by simp) (fun _ _ => trivial) fun g12 hs12 => ?_
  rw [splice1] at hs12
  have n12 := hs12.next
  have f12 := hs12.floor
  have c12 : loadCell g12 (.pointer (some ⟨g1.next, 0, none⟩)) = some (.slice bx S.nv bk) := by
    rw [(show Row g12 g1.next [.slice bx S.nv bk] from ⟨true, 0, by rw [hs12.old _ (by omega)]; exact hs11.get⟩).ld]; rfl
  have d12 : loadCell g12 (.pointer (some ⟨g2.next, 0, none⟩)) = some (.int .i64 (bestS S).2) := by rw [hs12.row.ld]; rfl
  have hold12 : ∀ i, i < h.next → g12.get i = h.get i := fun i hi => by
    rw [hs12.old i (by omega), hs11.old i (by omega), old10 i (by omega) (by omega) (by omega) (by omega), hx9.old i (by omega), old8 i (by omega), hs6.old i (by omega), old5 i (by omega), hx1.old i hi]
  simp only [rn0, rn1, rn2, reduceIte, Nat.reduceEqDiff, Nat.reduceAdd, Nat.reduceMul, Nat.reduceSub, Nat.reduceLeDiff, Nat.reduceLT, res_cc, c12, d12]
  refine ⟨_, rfl, ?_, rfl, hold12, by omega, by omega, by omega⟩
  · have q1 : Ints g11 (.slice bx S.nv bk) S.nv (bestS S).1 := Cells.mono b2 s11
    exact Cells.keep q1 hs12.keep fun a k q e => (b4 a k q e).2.1
open Classical in
noncomputable def errS (S : MB) : Int := if faultS S ≠ 0 then faultS S else if truthsS S = [] then 11 else 0
noncomputable def cntS (S : MB) : Nat := if errS S = 0 then S.nv else 0
theorem errS_zero {S : MB} : errS S = 0 ↔ Good S ∧ truthsS S ≠ [] := by
  unfold errS
  by_cases c1 : faultS S = 0
  · rw [if_neg (by simpa using c1)]
    by_cases c2 : truthsS S = []
    · rw [if_pos c2]; simp [c2]
    · rw [if_neg c2]; simp [c2, good_of c1]
  · rw [if_pos c1]
    exact ⟨fun e => absurd e c1, fun e => fault_of e.1⟩
def s36 : SCode := (.seq (.ops [⟨(some 1), none, .box (T 0)⟩, ⟨(some 2), none, .mov (.const (.slice none 0 0))⟩, ⟨(some 3), none, .mov (.const (.int .i64 (0)))⟩]) (.seq (.ops [⟨(some 9), none, .loadN 5 (T 1)⟩, ⟨(some 10), none, .call (.func 86) [(T 9), (.const (.slice none 0 0))]⟩, ⟨(some 8), none, .mov (T 10)⟩, ⟨(some 11), none, .extract 0 (T 8)⟩, ⟨(some 12), none, .extract 1 (T 8)⟩, ⟨(some 4), none, .alloc [(.int .i64 (0)), (.int .i64 (0)), (.slice none 0 0), (.int .i64 (0)), (.slice none 0 0), (.slice none 0 0)]⟩, ⟨none, none, .store 6 (T 4) (T 11)⟩, ⟨(some 5), none, .mov (T 12)⟩]) (.seq (.seq (.ops [⟨(some 13), none, .mov (T 5)⟩, ⟨(some 14), none, .int2 .neq (T 13) (.const (.int .i64 (0)))⟩]) (.cond (T 14) (.seq (.ops [⟨(some 15), none, .mov (T 5)⟩, ⟨(some 2), none, .mov (.const (.slice none 0 0))⟩, ⟨(some 3), none, .mov (T 15)⟩]) .ret) .skip)) (.seq (.ops [⟨(some 6), none, .mov (.const (.slice none 0 0))⟩]) (.seq (.seq (.ops [⟨(some 16), none, .fieldAddr 0 (T 4)⟩, ⟨(some 17), none, .fieldAddr 2 (T 16)⟩, ⟨(some 18), none, .load1 (T 17)⟩, ⟨(some 19), none, .len (T 18)⟩, ⟨(some 20), none, .mov (.const (.int .i64 (0)))⟩]) (.block 0 (.loop (.seq (.ops [⟨(some 21), none, .int2 .lss (T 20) (T 19)⟩]) (.seq (.cond (T 21) .skip (.exit 0)) (.seq (.block 1 (.seq (.ops [⟨(some 22), none, .mov (T 20)⟩, ⟨(some 7), none, .mov (T 22)⟩]) (.ops [⟨(some 23), none, .mov (T 6)⟩, ⟨(some 24), none, .loadN 6 (T 4)⟩, ⟨(some 25), none, .mov (T 7)⟩, ⟨(some 26), none, .call (.func 87) [(T 24), (T 25)]⟩, ⟨(some 27), none, .bslice 2 1 [(.int .i64 (0)), (.int .i64 (0))] [0] [(T 26)]⟩, ⟨(some 28), none, .append 2 16 (T 23) (T 27)⟩, ⟨(some 6), none, .mov (T 28)⟩]))) (.ops [⟨(some 29), none, .int2 .add (T 20) (.const (.int .i64 (1)))⟩, ⟨(some 20), none, .mov (T 29)⟩]))))))) (.seq (.ops [⟨(some 30), none, .mov (T 6)⟩, ⟨(some 2), none, .mov (T 30)⟩, ⟨(some 3), none, .mov (.const (.int .i64 (0)))⟩]) .ret))))))
theorem fok36 : FnOk Try.prog 36 31 s36 [.tmp 2, .tmp 3] := ⟨Try.f36, _, Try.func36, rfl, Try.ntmps36, by kernel_rfl, by kernel_rfl⟩
set_option maxHeartbeats 1000000 in
theorem boundsV_c (hn : 900 ≤ n) (hr : h.next + 60000 < far) (hfl : h.floor ≤ h.next) {vv sv : Value} {S : MB} (hy : BeatR h vv sv S) (hTh : ThinS S) :
    ∃ r h', call n (.func (.func 36) #[] #[]) [.agg ⟨beL S vv sv⟩] h = some (.tuple ⟨[r, .int .i64 (errS S)]⟩, h') ∧ Ranges h' r (cntS S) (bLo S) (bHi S) ∧ oneCell r = true ∧ (∀ i, i < h.next → h'.get i = h.get i) ∧ h.next ≤ h'.next ∧ h'.next ≤ h.next + 27000 ∧ h'.floor = h.floor := by
  obtain ⟨n, rfl⟩ : ∃ p, n = p + 1 := ⟨n - 1, by omega⟩
  suffices hs : ∃ v h', call (n + 1) (.func (.func 36) #[] #[]) [.agg ⟨beL S vv sv⟩] h = some (v, h') ∧ ∃ r, v = .tuple ⟨[r, .int .i64 (errS S)]⟩ ∧ Ranges h' r (cntS S) (bLo S) (bHi S) ∧ oneCell r = true ∧ (∀ i, i < h.next → h'.get i = h.get i) ∧ h.next ≤ h'.next ∧ h'.next ≤ h.next + 27000 ∧ h'.floor = h.floor by
    obtain ⟨v, h', e, r, rfl, q⟩ := hs
    exact ⟨r, h', e, q⟩
  refine call_any0 fok36 rfl rfl (by simp) ?_
  have rnil : ∀ g : AHeap, Ranges g nilS 0 (bLo S) (bHi S) := fun g => ⟨none, 0, rfl, fun x e => (by cases e), .inl rfl⟩
  simp only [s36, W_seq, W_ops]
  refine ops_box (cs := beL S vv sv) (by omega) rfl hy.one fun g1 hx1 => ?_
  have n1 := hx1.next
  have f1 := hx1.floor
  obtain ⟨v, g2, eo, old2, u2, m2, f2, ho⟩ := open_c (n := n) (h := g1) (by omega) (by omega) (by omega) (hy.mono hx1.sub) hTh (P := True) (cv := nilS) fun _ => conds_nil
  have hold2 : ∀ i, i < h.next → g2.get i = h.get i := fun i hi => by rw [old2 i (by omega), hx1.old i hi]
  rcases ho with ⟨hf, rfl⟩ | ⟨hf, hp, rfl⟩ | ⟨hf, _, ht, rfl⟩ | ⟨hf, _, ht, tv, rfl, hone, hd, hfr, hlong⟩
  · have he : errS S = faultS S := by unfold errS; rw [if_pos hf]
    have hc : cntS S = 0 := by unfold cntS; rw [if_neg (by rw [he]; exact hf)]
    rw [he, hc]
    simp only [rn0, rn1, rn2, reduceIte, Nat.reduceEqDiff, Nat.reduceAdd, Nat.reduceMul, Nat.reduceSub, Nat.reduceLeDiff, Nat.reduceLT, hx1.row.whole (n := 5) rfl, eo, ex0, ex1]
    refine step_new (vs := wkZ) (by omega) (by omega) rfl (by simp only [rn0, rn1, rn2, reduceIte, Nat.reduceEqDiff, Nat.reduceAdd, Nat.reduceMul, Nat.reduceSub, Nat.reduceLeDiff, Nat.reduceLT]; rfl) rfl rfl rfl fun g3 hx3 => ?_
    have n3 := hx3.next
    have f3 := hx3.floor
    simp only [rn0, rn1, rn2, reduceIte, Nat.reduceEqDiff, Nat.reduceAdd, Nat.reduceMul, Nat.reduceSub, Nat.reduceLeDiff, Nat.reduceLT, hf, ret_tt]
    exact ⟨_, rfl, rnil _, rfl, fun i hi => by rw [hx3.old i (by omega), hold2 i hi], by omega, by omega, by omega⟩
  · exact absurd trivial hp
  · have he : errS S = 11 := by unfold errS; rw [if_neg (by simpa using hf), if_pos ht]
    have hc : cntS S = 0 := by unfold cntS; rw [if_neg (by rw [he]; decide)]
    rw [he, hc]
    simp only [rn0, rn1, rn2, reduceIte, Nat.reduceEqDiff, Nat.reduceAdd, Nat.reduceMul, Nat.reduceSub, Nat.reduceLeDiff, Nat.reduceLT, hx1.row.whole (n := 5) rfl, eo, ex0, ex1]
    refine step_new (vs := wkZ) (by omega) (by omega) rfl (by simp only [rn0, rn1, rn2, reduceIte, Nat.reduceEqDiff, Nat.reduceAdd, Nat.reduceMul, Nat.reduceSub, Nat.reduceLeDiff, Nat.reduceLT]; rfl) rfl rfl rfl fun g3 hx3 => ?_
    have n3 := hx3.next
    have f3 := hx3.floor
    simp only [rn0, rn1, rn2, reduceIte, Nat.reduceEqDiff, Nat.reduceAdd, Nat.reduceMul, Nat.reduceSub, Nat.reduceLeDiff, Nat.reduceLT, Int.reduceEq, ret_tt]
    exact ⟨_, rfl, rnil _, rfl, fun i hi => by rw [hx3.old i (by omega), hold2 i hi], by omega, by omega, by omega⟩
  have he : errS S = 0 := errS_zero.2 ⟨good_of hf, ht⟩
  have hc : cntS S = S.nv := by unfold cntS; rw [if_pos he]
  rw [he, hc]
  have hG := good_of hf
  obtain ⟨z0, z1, z3, _⟩ := hG.sizes
  have hy2 := hy.mono (AHeap.subOf hold2)
  simp only [rn0, rn1, rn2, reduceIte, Nat.reduceEqDiff, Nat.reduceAdd, Nat.reduceMul, Nat.reduceSub, Nat.reduceLeDiff, Nat.reduceLT, hx1.row.whole (n := 5) rfl, eo, ex0, ex1]
  refine step_new (vs := wkL S vv sv tv) (by omega) (by omega) rfl (by simp only [rn0, rn1, rn2, reduceIte, Nat.reduceEqDiff, Nat.reduceAdd, Nat.reduceMul, Nat.reduceSub, Nat.reduceLeDiff, Nat.reduceLT]; rfl) (wk_one hy2 hone) rfl rfl fun g3 hx3 => ?_
  have n3 := hx3.next
  have f3 := hx3.floor
  have ho3 : OpS g3 vv sv tv S := ⟨hG, ht, hy2.mono hx3.sub, hone, Cells.mono hd hx3.sub, hlong⟩
  simp only [rn0, rn1, rn2, reduceIte, Nat.reduceEqDiff, Nat.reduceAdd, Nat.reduceMul, Nat.reduceSub, Nat.reduceLeDiff, Nat.reduceLT, hx3.row.ld, wkg, Nat.zero_add, Cells.len ho3.y.v]
  refine W_loop S.nv (fun k f g ms => (∃ v, (∀ i, i < g3.next → g.get i = g3.get i) ∧ g.floor = h.floor ∧ g3.next ≤ g.next ∧ g.next ≤ g3.next + 3 * k ∧ GrowC g3.next g v 2 k (fun k j => .int .i64 (if j = 0 then bLo S k else bHi S k)) ∧ f 6 = v) ∧ ms = [] ∧ f 4 = .pointer (some ⟨g2.next, 0, none⟩) ∧ f 19 = .int .i64 (S.nv : Int) ∧ f 20 = .int .i64 (k : Int)) (by simp; omega) ?_ ?_ ?_
  · simp only [rn0, rn1, rn2, reduceIte, Nat.reduceEqDiff, Nat.reduceAdd, Nat.reduceMul, Nat.reduceSub, Nat.reduceLeDiff, Nat.reduceLT]
    exact ⟨⟨nilS, fun i _ => trivial, by omega, by omega, .nil, rfl⟩, rfl⟩
  · rintro k f g ms hk ⟨⟨v, hs, hfg, hup, hnx, gv, p6⟩, rfl, p4, p19, p20⟩
    have hk' : (k : Int) < (S.nv : Int) := by omega
    have hw : wrapF .i64 ((k : Int) + 1) = ((k + 1 : Nat) : Int) := by rw [wrap_in (by omega) (by omega)]; rfl
    have rg := hx3.row.mono (AHeap.subOf hs)
    have hog := ho3.mono (AHeap.subOf hs)
    have ed := whenDone_c (n := n) (h := g) (by omega) (by omega) hog hk
    simp only [rn0, rn1, rn2, reduceIte, Nat.reduceEqDiff, Nat.reduceAdd, Nat.reduceMul, Nat.reduceSub, Nat.reduceLeDiff, Nat.reduceLT, p4, p6, p19, p20, hk', rg.whole (n := 6) rfl, ed, sl_range]
    refine step_slice (by omega) rfl fun g5 hx5 => ?_
    have n5 := hx5.next
    obtain ⟨v', g6, e6, gv6, o6, n6, f6, old6, u6⟩ := grow_push (h := g) (bytes := 16) gv (by omega) (by omega) (by omega) hx5 rfl rfl (fun j hj => by
      obtain rfl | rfl : j = 0 ∨ j = 1 := by omega
      all_goals rfl) (by simp [maxBytes]; omega) (by simp [maxBytes]; omega)
    simp only [rn0, rn1, rn2, reduceIte, Nat.reduceEqDiff, Nat.reduceAdd, Nat.reduceMul, Nat.reduceSub, Nat.reduceLeDiff, Nat.reduceLT, p4, p6, p19, p20, e6, hw]
    have hfin := And.intro (fun i (hi : i < g3.next) => (by rw [old6 i hi, hs i hi] : g6.get i = g3.get i)) (And.intro (by omega : g6.floor = h.floor) (And.intro (by omega : g3.next ≤ g6.next) (And.intro (by omega : g6.next ≤ g3.next + 3 * (k + 1)) (And.intro gv6 (rfl : v' = v')))))
    first | exact ⟨⟨v', hfin⟩, rfl⟩ | exact ⟨v', hfin⟩
  · rintro f g ms ⟨⟨v, hs, hfg, hup, hnx, gv, p6⟩, rfl, p4, p19, p20⟩
    simp only [rn0, rn1, rn2, reduceIte, Nat.reduceEqDiff, Nat.reduceAdd, Nat.reduceMul, Nat.reduceSub, Nat.reduceLeDiff, Nat.reduceLT, p4, p6, p19, p20, Int.lt_irrefl, ret_tt]
    exact ⟨_, rfl, gv.cells, gv.one, fun i hi => by rw [hs i (by omega), hx3.old i (by omega), hold2 i hi], by omega, by omega, by omega⟩
def s47 : SCode := (.seq (.ops [⟨(some 1), none, .box (T 0)⟩, ⟨(some 2), none, .mov (.const (.slice none 0 0))⟩, ⟨(some 3), none, .mov (.const (.int .i64 (0)))⟩, ⟨(some 4), none, .mov (.const (.int .i64 (0)))⟩]) (.seq (.ops [⟨(some 7), none, .loadN 5 (T 1)⟩, ⟨(some 8), none, .call (.func 86) [(T 7), (.const (.slice none 0 0))]⟩, ⟨(some 6), none, .mov (T 8)⟩, ⟨(some 9), none, .extract 0 (T 6)⟩, ⟨(some 10), none, .extract 1 (T 6)⟩, ⟨(some 5), none, .alloc [(.int .i64 (0)), (.int .i64 (0)), (.slice none 0 0), (.int .i64 (0)), (.slice none 0 0), (.slice none 0 0)]⟩, ⟨none, none, .store 6 (T 5) (T 9)⟩, ⟨(some 4), none, .mov (T 10)⟩]) (.seq (.seq (.ops [⟨(some 11), none, .mov (T 4)⟩, ⟨(some 12), none, .int2 .neq (T 11) (.const (.int .i64 (0)))⟩]) (.cond (T 12) (.seq (.ops [⟨(some 13), none, .mov (T 4)⟩, ⟨(some 2), none, .mov (.const (.slice none 0 0))⟩, ⟨(some 3), none, .mov (.const (.int .i64 (0)))⟩, ⟨(some 4), none, .mov (T 13)⟩]) .ret) .skip)) (.seq (.ops [⟨(some 15), none, .loadN 6 (T 5)⟩, ⟨(some 16), none, .call (.func 96) [(T 15)]⟩, ⟨(some 14), none, .mov (T 16)⟩, ⟨(some 17), none, .extract 0 (T 14)⟩, ⟨(some 18), none, .extract 1 (T 14)⟩, ⟨(some 2), none, .mov (T 17)⟩, ⟨(some 3), none, .mov (T 18)⟩]) (.seq (.ops [⟨(some 19), none, .mov (T 2)⟩, ⟨(some 20), none, .mov (T 3)⟩, ⟨(some 2), none, .mov (T 19)⟩, ⟨(some 3), none, .mov (T 20)⟩, ⟨(some 4), none, .mov (.const (.int .i64 (0)))⟩]) .ret)))))
theorem fok47 : FnOk Try.prog 47 21 s47 [.tmp 2, .tmp 3, .tmp 4] := ⟨Try.f47, _, Try.func47, rfl, Try.ntmps47, by kernel_rfl, by kernel_rfl⟩
set_option maxHeartbeats 1000000 in
theorem bestV_c (hn : 1100 ≤ n) (hr : h.next + 80000 < far) (hfl : h.floor ≤ h.next) {vv sv : Value} {S : MB} (hy : BeatR h vv sv S) (hTh : ThinS S) :
    ∃ r h', call n (.func (.func 47) #[] #[]) [.agg ⟨beL S vv sv⟩] h = some (.tuple ⟨[r, .int .i64 (if errS S = 0 then (bestS S).2 else 0), .int .i64 (errS S)]⟩, h') ∧ Ints h' r (cntS S) (bestS S).1 ∧ oneCell r = true ∧ (∀ i, i < h.next → h'.get i = h.get i) ∧ h.next ≤ h'.next ∧ h'.next ≤ h.next + 40000 ∧ h'.floor = h.floor := by
  obtain ⟨n, rfl⟩ : ∃ p, n = p + 1 := ⟨n - 1, by omega⟩
  suffices hs : ∃ v h', call (n + 1) (.func (.func 47) #[] #[]) [.agg ⟨beL S vv sv⟩] h = some (v, h') ∧ ∃ r, v = .tuple ⟨[r, .int .i64 (if errS S = 0 then (bestS S).2 else 0), .int .i64 (errS S)]⟩ ∧ Ints h' r (cntS S) (bestS S).1 ∧ oneCell r = true ∧ (∀ i, i < h.next → h'.get i = h.get i) ∧ h.next ≤ h'.next ∧ h'.next ≤ h.next + 40000 ∧ h'.floor = h.floor by
    obtain ⟨v, h', e, r, rfl, q⟩ := hs
    exact ⟨r, h', e, q⟩
  refine call_any0 fok47 rfl rfl (by simp) ?_
  have rnil : ∀ g : AHeap, Ints g nilS 0 (bestS S).1 := fun g => ⟨none, 0, rfl, fun x e => (by cases e), .inl rfl⟩
  simp only [s47, W_seq, W_ops]
  refine ops_box (cs := beL S vv sv) (by omega) rfl hy.one fun g1 hx1 => ?_
  have n1 := hx1.next
  have f1 := hx1.floor
  obtain ⟨v, g2, eo, old2, u2, m2, f2, ho⟩ := open_c (n := n) (h := g1) (by omega) (by omega) (by omega) (hy.mono hx1.sub) hTh (P := True) (cv := nilS) fun _ => conds_nil
  have hold2 : ∀ i, i < h.next → g2.get i = h.get i := fun i hi => by rw [old2 i (by omega), hx1.old i hi]
  rcases ho with ⟨hf, rfl⟩ | ⟨hf, hp, rfl⟩ | ⟨hf, _, ht, rfl⟩ | ⟨hf, _, ht, tv, rfl, hone, hd, hfr, hlong⟩
  · have he : errS S = faultS S := by unfold errS; rw [if_pos hf]
    have hc : cntS S = 0 := by unfold cntS; rw [if_neg (by rw [he]; exact hf)]
    rw [he, hc, if_neg hf]
    simp only [rn0, rn1, rn2, reduceIte, Nat.reduceEqDiff, Nat.reduceAdd, Nat.reduceMul, Nat.reduceSub, Nat.reduceLeDiff, Nat.reduceLT, hx1.row.whole (n := 5) rfl, eo, ex0, ex1]
    refine step_new (vs := wkZ) (by omega) (by omega) rfl (by simp only [rn0, rn1, rn2, reduceIte, Nat.reduceEqDiff, Nat.reduceAdd, Nat.reduceMul, Nat.reduceSub, Nat.reduceLeDiff, Nat.reduceLT]; rfl) rfl rfl rfl fun g3 hx3 => ?_
    have n3 := hx3.next
    have f3 := hx3.floor
    simp only [rn0, rn1, rn2, reduceIte, Nat.reduceEqDiff, Nat.reduceAdd, Nat.reduceMul, Nat.reduceSub, Nat.reduceLeDiff, Nat.reduceLT, hf, ret_ttt]
    exact ⟨_, rfl, rnil _, rfl, fun i hi => by rw [hx3.old i (by omega), hold2 i hi], by omega, by omega, by omega⟩
  · exact absurd trivial hp
  · have he : errS S = 11 := by unfold errS; rw [if_neg (by simpa using hf), if_pos ht]
    have hc : cntS S = 0 := by unfold cntS; rw [if_neg (by rw [he]; decide)]
    rw [he, hc, if_neg (by decide)]
    simp only [rn0, rn1, rn2, reduceIte, Nat.reduceEqDiff, Nat.reduceAdd, Nat.reduceMul, Nat.reduceSub, Nat.reduceLeDiff, Nat.reduceLT, hx1.row.whole (n := 5) rfl, eo, ex0, ex1]
    refine step_new (vs := wkZ) (by omega) (by omega) rfl (by simp only [rn0, rn1, rn2, reduceIte, Nat.reduceEqDiff, Nat.reduceAdd, Nat.reduceMul, Nat.reduceSub, Nat.reduceLeDiff, Nat.reduceLT]; rfl) rfl rfl rfl fun g3 hx3 => ?_
    have n3 := hx3.next
    have f3 := hx3.floor
    simp only [rn0, rn1, rn2, reduceIte, Nat.reduceEqDiff, Nat.reduceAdd, Nat.reduceMul, Nat.reduceSub, Nat.reduceLeDiff, Nat.reduceLT, Int.reduceEq, ret_ttt]
    exact ⟨_, rfl, rnil _, rfl, fun i hi => by rw [hx3.old i (by omega), hold2 i hi], by omega, by omega, by omega⟩
  have he : errS S = 0 := errS_zero.2 ⟨good_of hf, ht⟩
  have hc : cntS S = S.nv := by unfold cntS; rw [if_pos he]
  rw [he, hc, if_pos rfl]
  have hG := good_of hf
  have hy2 := hy.mono (AHeap.subOf hold2)
  simp only [rn0, rn1, rn2, reduceIte, Nat.reduceEqDiff, Nat.reduceAdd, Nat.reduceMul, Nat.reduceSub, Nat.reduceLeDiff, Nat.reduceLT, hx1.row.whole (n := 5) rfl, eo, ex0, ex1]
  refine step_new (vs := wkL S vv sv tv) (by omega) (by omega) rfl (by simp only [rn0, rn1, rn2, reduceIte, Nat.reduceEqDiff, Nat.reduceAdd, Nat.reduceMul, Nat.reduceSub, Nat.reduceLeDiff, Nat.reduceLT]; rfl) (wk_one hy2 hone) rfl rfl fun g3 hx3 => ?_
  have n3 := hx3.next
  have f3 := hx3.floor
  have ho3 : OpS g3 vv sv tv S := ⟨hG, ht, hy2.mono hx3.sub, hone, Cells.mono hd hx3.sub, hlong⟩
  obtain ⟨bv, g4, e4, b4, o4, old4, u4, m4, f4⟩ := bestE_c (n := n) (h := g3) (by omega) (by omega) (by omega) ho3
  simp only [rn0, rn1, rn2, reduceIte, Nat.reduceEqDiff, Nat.reduceAdd, Nat.reduceMul, Nat.reduceSub, Nat.reduceLeDiff, Nat.reduceLT, hx3.row.whole (n := 6) rfl, e4, ex0, ex1, ret_ttt]
  exact ⟨_, rfl, b4, o4, fun i hi => by rw [old4 i (by omega), hx3.old i (by omega), hold2 i hi], by omega, by omega, by omega⟩
open Classical in
noncomputable def errE (S : MB) (m : Nat) (a : Nat → Int) : Int := if faultS S ≠ 0 then faultS S else if ¬ Hours S m a then 2 else if truthsS S = [] then 11 else 0
theorem errE_zero {S : MB} {m : Nat} {a : Nat → Int} : errE S m a = 0 ↔ Good S ∧ Hours S m a ∧ truthsS S ≠ [] := by
  unfold errE
  by_cases c1 : faultS S = 0
  · rw [if_neg (by simpa using c1)]
    by_cases c3 : Hours S m a
    · rw [if_neg (by simpa using c3)]
      by_cases c2 : truthsS S = []
      · rw [if_pos c2]; simp [c2]
      · rw [if_neg c2]; simp [c2, c3, good_of c1]
    · rw [if_pos c3]; simp [c3]
  · rw [if_pos c1]
    exact ⟨fun e => absurd e c1, fun e => fault_of e.1⟩
def s92 : SCode := (.seq (.ops [⟨(some 2), none, .box (T 0)⟩, ⟨(some 3), none, .mov (.const (.bool false))⟩]) (.seq (.ops [⟨(some 4), none, .loadN 6 (T 2)⟩, ⟨(some 5), none, .load1 (T 1)⟩, ⟨(some 6), none, .call (.func 79) [(T 4), (T 5)]⟩, ⟨(some 3), none, .mov (T 6)⟩]) .ret))
theorem fok92 : FnOk Try.prog 92 7 s92 [.tmp 3] := ⟨Try.f92, _, Try.func92, rfl, Try.ntmps92, by kernel_rfl, by kernel_rfl⟩
theorem losses1_c (hn : 120 ≤ n) (hr : h.next + 110 < far) {vv sv lv : Value} {S : MB} {m : Nat} {a : Nat → Int} {p : Nat} (hy : BeatR h vv sv S) (hp : Row h p [lv]) (hc : Ints h lv m a) (h30 : m ≤ 30) :
    call n (.func (.func 92) ⟨[]⟩ ⟨[.pointer (some ⟨p, 0, none⟩)]⟩) [.agg ⟨wkL S vv sv nilS⟩] h = some (.bool (decide (Hours S m a)), h) := by
  obtain ⟨n, rfl⟩ : ∃ p, n = p + 1 := ⟨n - 1, by omega⟩
  refine call_plain (xs := []) (ys := [.pointer (some ⟨p, 0, none⟩)]) fok92 rfl rfl (by simp) rfl ?_
  have hy := hy.shut
  have hc := Cells.shut hc
  have hp : Row h.shutAll p [lv] := hp.mono fun _ _ _ _ _ h => h
  have hr : h.shutAll.next + 110 < far := hr
  generalize h.shutAll = h at hy hc hp hr
  simp only [s92, List.cons_append, List.nil_append, W_seq, W_ops]
  refine ops_box (cs := wkL S vv sv nilS) (by omega) rfl (wk_one hy rfl) fun g1 hx1 => ?_
  have n1 := hx1.next
  have ee := isEnds_c (n := n) (h := g1) (tv := nilS) (by omega) (by omega) (hy.mono hx1.sub) rfl (Cells.mono hc hx1.sub) h30
  simp only [rn0, rn1, rn2, reduceIte, Nat.reduceEqDiff, Nat.reduceAdd, Nat.reduceMul, Nat.reduceSub, Nat.reduceLeDiff, Nat.reduceLT, hx1.row.whole (n := 6) rfl, (hp.mono hx1.sub).ld, Nat.zero_add, List.getElem?_cons_zero, ee]
theorem sl_fn {f : Value} (hf : oneCell f = true) : buildSl 1 1 [.nilFunc] [0] h [f] = newSlice h [f] 1 1 0 := by
  cases f <;> first | (cases hf; done) | rfl
def s44 : SCode := (.seq (.ops [⟨(some 2), none, .box (T 0)⟩, ⟨(some 3), none, .box (T 1)⟩, ⟨(some 4), none, .alloc [(.int .i64 (0)), (.int .i64 (0))]⟩, ⟨(some 5), none, .mov (.const (.int .i64 (0)))⟩]) (.seq (.ops [⟨(some 9), none, .loadN 5 (T 2)⟩, ⟨(some 10), none, .mkfunc 92 [] [(T 3)]⟩, ⟨(some 11), none, .bslice 1 1 [.nilFunc] [0] [(T 10)]⟩, ⟨(some 12), none, .call (.func 86) [(T 9), (T 11)]⟩, ⟨(some 8), none, .mov (T 12)⟩, ⟨(some 13), none, .extract 0 (T 8)⟩, ⟨(some 14), none, .extract 1 (T 8)⟩, ⟨(some 6), none, .alloc [(.int .i64 (0)), (.int .i64 (0)), (.slice none 0 0), (.int .i64 (0)), (.slice none 0 0), (.slice none 0 0)]⟩, ⟨none, none, .store 6 (T 6) (T 13)⟩, ⟨(some 7), none, .mov (T 14)⟩]) (.seq (.seq (.ops [⟨(some 15), none, .mov (T 7)⟩, ⟨(some 16), none, .int2 .neq (T 15) (.const (.int .i64 (0)))⟩]) (.cond (T 16) (.seq (.ops [⟨(some 17), none, .build #[(0, 1), (1, 1)] [(.int .i64 (0)), (.int .i64 (0))] [] []⟩, ⟨(some 18), none, .mov (T 7)⟩, ⟨none, none, .store 2 (T 4) (T 17)⟩, ⟨(some 5), none, .mov (T 18)⟩]) .ret) .skip)) (.seq (.ops [⟨(some 19), none, .loadN 6 (T 6)⟩, ⟨(some 20), none, .load1 (T 3)⟩, ⟨(some 21), none, .call (.func 93) [(T 19), (T 20)]⟩, ⟨none, none, .store 2 (T 4) (T 21)⟩, ⟨(some 5), none, .mov (.const (.int .i64 (0)))⟩]) .ret))))
theorem fok44 : FnOk Try.prog 44 22 s44 [.cellN 4 2, .tmp 5] := ⟨Try.f44, _, Try.func44, rfl, Try.ntmps44, by kernel_rfl, by kernel_rfl⟩
set_option maxHeartbeats 1000000 in
theorem lossesV_c (hn : 1000 ≤ n) (hr : h.next + 60000 < far) {vv sv lv : Value} {S : MB} {m : Nat} {a : Nat → Int} (hy : BeatR h vv sv S) (hTh : ThinS S) (hl : Ints h lv m a) (h30 : m ≤ 30) :
    call n (.func (.func 44) #[] #[]) [.agg ⟨beL S vv sv⟩, lv] h = some (.tuple ⟨[.agg ⟨[.int .i64 (if errE S m a = 0 then wLo S a S.nv else 0), .int .i64 (if errE S m a = 0 then wHi S a S.nv else 0)]⟩, .int .i64 (errE S m a)]⟩, h) := by
  obtain ⟨n, rfl⟩ : ∃ p, n = p + 1 := ⟨n - 1, by omega⟩
  refine call_plain0 fok44 rfl rfl (by simp) rfl ?_
  have hy := hy.shut
  have hl := Cells.shut hl
  have hr : h.shutAll.next + 60000 < far := hr
  have hfl : h.shutAll.floor ≤ h.shutAll.next := Nat.le_refl _
  generalize h.shutAll = h at hy hl hr hfl
  simp only [s44, W_seq, W_ops]
  refine ops_box (cs := beL S vv sv) (by omega) rfl hy.one fun g1 hx1 => ?_
  have n1 := hx1.next
  have f1 := hx1.floor
  refine ops_box (cs := [lv]) (by omega) (by simp only [rn0, rn1, rn2, reduceIte, Nat.reduceEqDiff, Nat.reduceAdd, Nat.reduceMul, Nat.reduceSub, Nat.reduceLeDiff, Nat.reduceLT]; exact cells1 (Cells.one hl)) (by simp [allB, Cells.one hl]) fun g2 hx2 => ?_
  have n2 := hx2.next
  have f2 := hx2.floor
  refine ops_alloc (cs := [.int .i64 0, .int .i64 0]) (by omega) rfl fun g3 hx3 => ?_
  have n3 := hx3.next
  have f3 := hx3.floor
  have sub3 : Sub All h g3 := hx1.sub.trans (hx2.sub.trans hx3.sub)
  have w3 := ((hx1.row.mono hx2.sub).mono hx3.sub).whole (n := 5) rfl
  simp only [rn0, rn1, rn2, reduceIte, Nat.reduceEqDiff, Nat.reduceAdd, Nat.reduceMul, Nat.reduceSub, Nat.reduceLeDiff, Nat.reduceLT, w3, sl_fn (show oneCell (.func (.func 92) ⟨[]⟩ ⟨[.pointer (some ⟨g1.next, 0, none⟩)]⟩) = true from rfl)]
  refine step_slice (by omega) rfl fun g4 hx4 => ?_
  have n4 := hx4.next
  have f4 := hx4.floor
  have sub4 := sub3.trans hx4.sub
  have hcs : Cells g4 (.slice (some ⟨g3.next, 0, none⟩) 1 1) 1 1 (fun _ _ => .func (.func 92) ⟨[]⟩ ⟨[.pointer (some ⟨g1.next, 0, none⟩)]⟩) := ⟨_, _, rfl, fun x e => by cases e; rfl, .inr ⟨_, 0, _, _, _, rfl, hx4.get, fun i j hi hj => by
    obtain rfl : i = 0 := by omega
    obtain rfl : j = 0 := by omega
    rfl⟩⟩
  have hrow2 : Row g4 g1.next [lv] := (hx2.row.mono hx3.sub).mono hx4.sub
  have hy4 := hy.mono sub4
  have hl4 : Ints g4 lv m a := Cells.mono hl sub4
  obtain ⟨v, g5, eo, old5, u5, m5, f5, ho⟩ := open_c (n := n) (h := g4) (by omega) (by omega) (by omega) hy4 hTh (P := Hours S m a) (cv := .slice (some ⟨g3.next, 0, none⟩) 1 1) fun hG =>
    ⟨1, _, fun _ => Hours S m a, by omega, hcs, ⟨fun e _ _ => e, fun e => e 0 (by omega)⟩, fun i hi => ⟨decide (Hours S m a), decide_eq_true_iff, fun n' hn' g hs hg => losses1_c (by omega) (by omega) (hy4.mono hs) (hrow2.mono hs) (Cells.mono hl4 hs) h30⟩⟩
  have r6 : g5.get g2.next = some (.row [.int .i64 0, .int .i64 0] true 0) := by rw [old5 _ (by omega), hx4.old _ (by omega)]; exact hx3.get
  have err : ∀ e : Int, e ≠ 0 → errE S m a = e → v = .tuple ⟨[.agg ⟨wkZ⟩, .int .i64 e]⟩ → (errE S m a = 0) = False := fun e h1 h2 _ => by rw [h2]; exact eq_false h1
  rcases ho with ⟨hf, rfl⟩ | ⟨hf, hp, rfl⟩ | ⟨hf, hp, ht, rfl⟩ | ⟨hf, hp, ht, tv, rfl, hone, hd, hfr, hlong⟩
  · have he : errE S m a = faultS S := by unfold errE; rw [if_pos hf]
    rw [he, if_neg hf, if_neg hf]
    simp only [rn0, rn1, rn2, reduceIte, Nat.reduceEqDiff, Nat.reduceAdd, Nat.reduceMul, Nat.reduceSub, Nat.reduceLeDiff, Nat.reduceLT, eo, ex0, ex1]
    refine step_new (vs := wkZ) (by omega) (by omega) rfl (by simp only [rn0, rn1, rn2, reduceIte, Nat.reduceEqDiff, Nat.reduceAdd, Nat.reduceMul, Nat.reduceSub, Nat.reduceLeDiff, Nat.reduceLT]; rfl) rfl rfl rfl fun g6 hx6 => ?_
    have n6 := hx6.next
    have f6 := hx6.floor
    simp only [rn0, rn1, rn2, reduceIte, Nat.reduceEqDiff, Nat.reduceAdd, Nat.reduceMul, Nat.reduceSub, Nat.reduceLeDiff, Nat.reduceLT, hf, build_rng0]
    refine step_store (b := g2.next) (off := 0) (vs := [.int .i64 0, .int .i64 0]) rfl (by rw [hx6.old _ (by omega)]; exact r6) (by omega) (by omega) rfl rfl rfl (by simp) fun g7 hs7 => ?_
    rw [splice2] at hs7
    simp only [rn0, rn1, rn2, reduceIte, Nat.reduceEqDiff, Nat.reduceAdd, Nat.reduceMul, Nat.reduceSub, Nat.reduceLeDiff, Nat.reduceLT, res_two, hs7.row.whole (n := 2) rfl]
  · have he : errE S m a = 2 := by unfold errE; rw [if_neg (by simpa using hf), if_pos hp]
    rw [he, if_neg (by decide), if_neg (by decide)]
    simp only [rn0, rn1, rn2, reduceIte, Nat.reduceEqDiff, Nat.reduceAdd, Nat.reduceMul, Nat.reduceSub, Nat.reduceLeDiff, Nat.reduceLT, eo, ex0, ex1]
    refine step_new (vs := wkZ) (by omega) (by omega) rfl (by simp only [rn0, rn1, rn2, reduceIte, Nat.reduceEqDiff, Nat.reduceAdd, Nat.reduceMul, Nat.reduceSub, Nat.reduceLeDiff, Nat.reduceLT]; rfl) rfl rfl rfl fun g6 hx6 => ?_
    have n6 := hx6.next
    have f6 := hx6.floor
    simp only [rn0, rn1, rn2, reduceIte, Nat.reduceEqDiff, Nat.reduceAdd, Nat.reduceMul, Nat.reduceSub, Nat.reduceLeDiff, Nat.reduceLT, Int.reduceEq, build_rng0]
    refine step_store (b := g2.next) (off := 0) (vs := [.int .i64 0, .int .i64 0]) rfl (by rw [hx6.old _ (by omega)]; exact r6) (by omega) (by omega) rfl rfl rfl (by simp) fun g7 hs7 => ?_
    rw [splice2] at hs7
    simp only [rn0, rn1, rn2, reduceIte, Nat.reduceEqDiff, Nat.reduceAdd, Nat.reduceMul, Nat.reduceSub, Nat.reduceLeDiff, Nat.reduceLT, res_two, hs7.row.whole (n := 2) rfl]
  · have he : errE S m a = 11 := by unfold errE; rw [if_neg (by simpa using hf), if_neg (by simpa using hp), if_pos ht]
    rw [he, if_neg (by decide), if_neg (by decide)]
    simp only [rn0, rn1, rn2, reduceIte, Nat.reduceEqDiff, Nat.reduceAdd, Nat.reduceMul, Nat.reduceSub, Nat.reduceLeDiff, Nat.reduceLT, eo, ex0, ex1]
    refine step_new (vs := wkZ) (by omega) (by omega) rfl (by simp only [rn0, rn1, rn2, reduceIte, Nat.reduceEqDiff, Nat.reduceAdd, Nat.reduceMul, Nat.reduceSub, Nat.reduceLeDiff, Nat.reduceLT]; rfl) rfl rfl rfl fun g6 hx6 => ?_
    have n6 := hx6.next
    have f6 := hx6.floor
    simp only [rn0, rn1, rn2, reduceIte, Nat.reduceEqDiff, Nat.reduceAdd, Nat.reduceMul, Nat.reduceSub, Nat.reduceLeDiff, Nat.reduceLT, Int.reduceEq, build_rng0]
    refine step_store (b := g2.next) (off := 0) (vs := [.int .i64 0, .int .i64 0]) rfl (by rw [hx6.old _ (by omega)]; exact r6) (by omega) (by omega) rfl rfl rfl (by simp) fun g7 hs7 => ?_
    rw [splice2] at hs7
    simp only [rn0, rn1, rn2, reduceIte, Nat.reduceEqDiff, Nat.reduceAdd, Nat.reduceMul, Nat.reduceSub, Nat.reduceLeDiff, Nat.reduceLT, res_two, hs7.row.whole (n := 2) rfl]
  have hG := good_of hf
  have he : errE S m a = 0 := errE_zero.2 ⟨hG, hp, ht⟩
  rw [he, if_pos rfl, if_pos rfl]
  have sub5 : Sub All g4 g5 := AHeap.subOf old5
  have hy5 := hy4.mono sub5
  obtain ⟨z0, z1, _⟩ := hG.sizes
  simp only [rn0, rn1, rn2, reduceIte, Nat.reduceEqDiff, Nat.reduceAdd, Nat.reduceMul, Nat.reduceSub, Nat.reduceLeDiff, Nat.reduceLT, eo, ex0, ex1]
  refine step_new (vs := wkL S vv sv tv) (by omega) (by omega) rfl (by simp only [rn0, rn1, rn2, reduceIte, Nat.reduceEqDiff, Nat.reduceAdd, Nat.reduceMul, Nat.reduceSub, Nat.reduceLeDiff, Nat.reduceLT]; rfl) (wk_one hy5 hone) rfl rfl fun g6 hx6 => ?_
  have n6 := hx6.next
  have f6 := hx6.floor
  have ho6 : OpS g6 vv sv tv S := ⟨hG, ht, hy5.mono hx6.sub, hone, Cells.mono hd hx6.sub, hlong⟩
  have hmv : m = S.nv := hp.1
  subst hmv
  have hle := losses_c (n := n) (h := g6) (by omega) (by omega) ho6 (Cells.mono (Cells.mono hl4 sub5) hx6.sub) (Nat.le_refl _) fun v hv => by have := hp.2 v hv; omega
  simp only [rn0, rn1, rn2, reduceIte, Nat.reduceEqDiff, Nat.reduceAdd, Nat.reduceMul, Nat.reduceSub, Nat.reduceLeDiff, Nat.reduceLT, hx6.row.whole (n := 6) rfl, ((hrow2.mono sub5).mono hx6.sub).ld, Nat.zero_add, List.getElem?_cons_zero, hle]
  refine step_store (b := g2.next) (off := 0) (vs := [.int .i64 (wLo S a S.nv), .int .i64 (wHi S a S.nv)]) rfl (by rw [hx6.old _ (by omega)]; exact r6) (by omega) (by omega) rfl rfl rfl (by simp) fun g7 hs7 => ?_
  rw [splice2] at hs7
  simp only [rn0, rn1, rn2, reduceIte, Nat.reduceEqDiff, Nat.reduceAdd, Nat.reduceMul, Nat.reduceSub, Nat.reduceLeDiff, Nat.reduceLT, res_two, hs7.row.whole (n := 2) rfl]
def s48 : SCode := (.seq (.ops [⟨(some 3), none, .box (T 0)⟩, ⟨(some 6), none, .mov (.const (.bool false))⟩]) (.seq (.ops [⟨(some 10), none, .loadN 5 (T 3)⟩, ⟨(some 11), none, .mov (T 1)⟩, ⟨(some 12), none, .call (.func 44) [(T 10), (T 11)]⟩, ⟨(some 9), none, .mov (T 12)⟩, ⟨(some 13), none, .extract 0 (T 9)⟩, ⟨(some 14), none, .extract 1 (T 9)⟩, ⟨(some 7), none, .alloc [(.int .i64 (0)), (.int .i64 (0))]⟩, ⟨none, none, .store 2 (T 7) (T 13)⟩, ⟨(some 8), none, .mov (T 14)⟩]) (.seq (.ops [⟨(some 15), none, .mov (T 8)⟩, ⟨(some 16), none, .int2 .eql (T 15) (.const (.int .i64 (0)))⟩, ⟨(some 17), none, .mov (T 16)⟩, ⟨(some 18), (some (17, true)), .fieldAddr 1 (T 7)⟩, ⟨(some 19), (some (17, true)), .load1 (T 18)⟩, ⟨(some 20), (some (17, true)), .mov (T 2)⟩, ⟨(some 21), (some (17, true)), .int2 .leq (T 19) (T 20)⟩, ⟨(some 22), none, .pick (T 17) (T 21) (.const (.bool false))⟩, ⟨(some 6), none, .mov (T 22)⟩]) .ret)))
theorem fok48 : FnOk Try.prog 48 23 s48 [.tmp 6] := ⟨Try.f48, _, Try.func48, rfl, Try.ntmps48, by kernel_rfl, by kernel_rfl⟩
theorem proveBest_c (hn : 1100 ≤ n) (hr : h.next + 61000 < far) {vv sv lv : Value} {S : MB} {m : Nat} {a : Nat → Int} (hy : BeatR h vv sv S) (hTh : ThinS S) (hl : Ints h lv m a) (h30 : m ≤ 30) (w : Int) :
    call n (.func (.func 48) #[] #[]) [.agg ⟨beL S vv sv⟩, lv, .int .i64 w] h = some (.bool (decide (errE S m a = 0 ∧ wHi S a S.nv ≤ w)), h) := by
  obtain ⟨n, rfl⟩ : ∃ p, n = p + 1 := ⟨n - 1, by omega⟩
  refine call_plain0 fok48 rfl rfl (by simp) rfl ?_
  have hy := hy.shut
  have hl := Cells.shut hl
  have hr : h.shutAll.next + 61000 < far := hr
  have hfl : h.shutAll.floor ≤ h.shutAll.next := Nat.le_refl _
  generalize h.shutAll = h at hy hl hr hfl
  simp only [s48, W_seq, W_ops]
  refine ops_box (cs := beL S vv sv) (by omega) rfl hy.one fun g1 hx1 => ?_
  have n1 := hx1.next
  have f1 := hx1.floor
  have el := lossesV_c (n := n) (h := g1) (by omega) (by omega) (hy.mono hx1.sub) hTh (Cells.mono hl hx1.sub) h30
  simp only [rn0, rn1, rn2, reduceIte, Nat.reduceEqDiff, Nat.reduceAdd, Nat.reduceMul, Nat.reduceSub, Nat.reduceLeDiff, Nat.reduceLT, hx1.row.whole (n := 5) rfl, el, ex0, ex1]
  refine step_new (vs := [.int .i64 (if errE S m a = 0 then wLo S a S.nv else 0), .int .i64 (if errE S m a = 0 then wHi S a S.nv else 0)]) (by omega) (by omega) rfl (by simp only [rn0, rn1, rn2, reduceIte, Nat.reduceEqDiff, Nat.reduceAdd, Nat.reduceMul, Nat.reduceSub, Nat.reduceLeDiff, Nat.reduceLT]; rfl) rfl rfl rfl fun g2 hx2 => ?_
  by_cases he : errE S m a = 0
  · by_cases hw : wHi S a S.nv ≤ w
    · simp only [rn0, rn1, rn2, reduceIte, Nat.reduceEqDiff, Nat.reduceAdd, Nat.reduceMul, Nat.reduceSub, Nat.reduceLeDiff, Nat.reduceLT, he, hx2.ld, Nat.zero_add, List.getElem?_cons_zero, List.getElem?_cons_succ, hw, and_self]
    · simp only [rn0, rn1, rn2, reduceIte, Nat.reduceEqDiff, Nat.reduceAdd, Nat.reduceMul, Nat.reduceSub, Nat.reduceLeDiff, Nat.reduceLT, he, hx2.ld, Nat.zero_add, List.getElem?_cons_zero, List.getElem?_cons_succ, hw, and_false]
  · simp only [rn0, rn1, rn2, reduceIte, Nat.reduceEqDiff, Nat.reduceAdd, Nat.reduceMul, Nat.reduceSub, Nat.reduceLeDiff, Nat.reduceLT, he, false_and]

theorem quo8 {a b : Nat} (h : a < 65536) (hb : 0 < b) : IntKind.wrap .i64 ((a : Int).tdiv (b : Int)) = ((a / b : Nat) : Int) := by
  have e : (a : Int).tdiv (b : Int) = ((a / b : Nat) : Int) := rfl
  have hd := Nat.div_le_self a b
  rw [e, IntKind.wrap_i64]
  generalize a / b = dq at hd
  omega
theorem build_none4 : buildSl 4 0 [.int .i64 0, .int .i64 0, .int .i64 0, .int .i64 0] [] h [] = newSlice h [] 0 0 0 := id rfl

def endN (W : Nat) : Nat → Nat → Nat → Int
  | 0, _, _ => 0
  | m + 1, k, v => if v = m then ((k % W : Nat) : Int) else endN W m (k / W) v
def toL (m : Nat) (f : Nat → Int) : List Int := (List.range m).map f
theorem toL_len {m : Nat} {f : Nat → Int} : (toL m f).length = m := by simp [toL]
theorem toL_at {m i : Nat} {f : Nat → Int} (hi : i < m) : atL (toL m f) i = f i := by unfold atL toL; rw [List.getD_eq_getElem?_getD, List.getElem?_map, List.getElem?_range hi]; rfl
theorem endN_out {W : Nat} : ∀ (m k v : Nat), m ≤ v → endN W m k v = 0
  | 0, _, _, _ => rfl
  | m + 1, k, v, h => by simp only [endN]; rw [if_neg (by omega)]; exact endN_out m _ v (by omega)
theorem endN_in {W : Nat} (hW : 0 < W) : ∀ (m k v : Nat), v < m → 0 ≤ endN W m k v ∧ endN W m k v < W
  | m + 1, k, v, h => by
    simp only [endN]
    by_cases c : v = m
    · rw [if_pos c]; have := Nat.mod_lt k hW; omega
    · rw [if_neg c]; exact endN_in hW m _ v (by omega)
theorem endN_lt {W : Nat} (hW : 0 < W) : ∀ (m k j : Nat), k < j → j < W ^ m → LexLt (endN W m k) (endN W m j) m
  | 0, k, j, h1, h2 => by simp at h2; omega
  | m + 1, k, j, h1, h2 => by
    have hj : j / W < W ^ m := by rw [Nat.div_lt_iff_lt_mul hW]; rw [Nat.pow_succ] at h2; exact h2
    have hle : k / W ≤ j / W := Nat.div_le_div_right (by omega)
    by_cases c : k / W = j / W
    · refine ⟨m, by omega, fun i hi => ?_, ?_⟩
      · simp only [endN]; rw [if_neg (by omega), if_neg (by omega), c]
      · simp only [endN, if_true]
        have e1 := Nat.div_add_mod k W
        have e2 := Nat.div_add_mod j W
        rw [c] at e1
        omega
    · obtain ⟨i, i1, i2, i3⟩ := endN_lt hW m (k / W) (j / W) (by omega) hj
      refine ⟨i, by omega, fun q hq => ?_, ?_⟩
      · simp only [endN]; rw [if_neg (by omega), if_neg (by omega)]; exact i2 q hq
      · simp only [endN]; rw [if_neg (by omega), if_neg (by omega)]; exact i3
theorem endN_all {W : Nat} (hW : 0 < W) : ∀ (m : Nat) (e : Nat → Int), (∀ v, v < m → 0 ≤ e v ∧ e v < W) → (∀ v, m ≤ v → e v = 0) → ∃ k, k < W ^ m ∧ endN W m k = e
  | 0, e, _, h2 => ⟨0, by simp, by funext v; rw [h2 v (Nat.zero_le _)]; rfl⟩
  | m + 1, e, h1, h2 => by
    obtain ⟨k, k1, k2⟩ := endN_all hW m (fun v => if v < m then e v else 0) (fun v hv => by simp only [hv, if_true]; exact h1 v (by omega)) (fun v hv => if_neg (by omega))
    have hm := h1 m (by omega)
    obtain ⟨d, hd⟩ : ∃ d : Nat, (d : Int) = e m := ⟨(e m).toNat, by omega⟩
    have hdW : d < W := by omega
    refine ⟨k * W + d, ?_, ?_⟩
    · rw [Nat.pow_succ]
      have : (k + 1) * W ≤ W ^ m * W := Nat.mul_le_mul_right W k1
      rw [Nat.add_mul] at this
      omega
    · have q1 : (k * W + d) / W = k := by rw [Nat.mul_comm, Nat.mul_add_div hW, Nat.div_eq_of_lt hdW, Nat.add_zero]
      have q2 : (k * W + d) % W = d := by rw [Nat.mul_comm, Nat.mul_add_mod, Nat.mod_eq_of_lt hdW]
      funext v
      simp only [endN, q1, q2]
      by_cases c : v = m
      · rw [if_pos c, c, hd]
      · rw [if_neg c, k2]
        by_cases c2 : v < m
        · simp only [c2, if_true]
        · simp only [c2, if_false]; rw [h2 v (by omega)]
def endsL (W m K : Nat) : List (List Int) := (List.range K).map fun k => toL m (endN W m k)
theorem endsL_len {W m K : Nat} : (endsL W m K).length = K := by simp [endsL]
theorem endsL_get {W m K k : Nat} (hk : k < K) : (endsL W m K).getD k [] = toL m (endN W m k) := by unfold endsL; rw [List.getD_eq_getElem?_getD, List.getElem?_map, List.getElem?_range hk]; rfl
theorem endsL_succ {W m K : Nat} : endsL W m (K + 1) = endsL W m K ++ [toL m (endN W m K)] := by unfold endsL; rw [List.range_succ, List.map_append]; rfl
theorem build_none1 {a : Value} : buildSl 1 0 [a] [] h [] = newSlice h [] 0 0 0 := id rfl
theorem ext_first {g : AHeap} {b m : Nat} {x : Value} {a : Nat → Int} (hb : g.get b = some (.row [] true 0)) (hi : Ints g x m a) (hm : m ≤ 30) (hf : g.next < far) (hb2 : b + 1 = g.next) :
    ∃ y g', appendA 1 8 g (.slice (some ⟨b, 0, none⟩) 0 0) x = some (y, g') ∧ ((m = 0 ∧ y = .slice (some ⟨b, 0, none⟩) 0 0 ∧ g' = g) ∨ GrowC b g' y 1 m fun i _ => .int .i64 (a i)) ∧ (∀ i, i < g.next → g'.get i = g.get i) ∧ g.next ≤ g'.next ∧ g'.next ≤ g.next + 1 ∧ g'.floor = g.floor := by
  obtain ⟨xv, kv, ev, lv⟩ := Cells.list (by omega) hi
  have hap := append_none (h := g) (s := 1) (bytes := 8) (b := b) ⟨xv, kv, ev⟩ lv flatL_len (by simp [maxBytes]; omega) (by simp [maxBytes]; omega)
  by_cases h0 : m = 0
  · rw [if_pos h0] at hap
    exact ⟨_, g, hap, .inl ⟨h0, rfl, rfl⟩, fun _ _ => rfl, Nat.le_refl _, by omega, rfl⟩
  · rw [if_neg h0] at hap
    have hone : allB oneCell (flatL 1 m fun i _ => .int .i64 (a i)) = true := by rw [allB_iff]; intro v hv; unfold flatL at hv; obtain ⟨i, _, rfl⟩ := List.mem_map.1 hv; rfl
    obtain ⟨g', e, hx⟩ := newSlice_ex (h := g) (cs := flatL 1 m fun i _ => .int .i64 (a i)) (n := m) (gr := 1) (cap := unk) hf hone
    have nx := hx.next
    refine ⟨_, g', by rw [hap]; exact e, .inr ?_, fun i hi => hx.old i hi, by omega, by omega, hx.floor⟩
    refine ⟨flatL 1 m fun i _ => .int .i64 (a i), .inr ⟨g.next, rfl, ?_, ?_, by omega⟩, ?_, ?_⟩
    all_goals first | exact hone | exact hx.get | exact ⟨_, _, hx.get⟩ | (rw [flatL_len]) | (intro k j hk hj; exact flatL_get hk hj) | omega
theorem ext_second {g g1 : AHeap} {b m : Nat} {y : Value} {a : Nat → Int} (hy : (m = 0 ∧ y = .slice (some ⟨b, 0, none⟩) 0 0) ∨ GrowC b g y 1 m fun i _ => .int .i64 (a i)) (hx : New g g1 [.int .i64 (a m)] 0) (hfl : g.floor ≤ b) (hb : b ≤ g.next) (hm : m ≤ 30) (hf : g.next + 2 < far) :
    ∃ v g', appendA 1 8 g1 y (.slice (some ⟨g.next, 0, none⟩) 1 1) = some (v, g') ∧ Ints g' v (m + 1) a ∧ oneCell v = true ∧ (∀ x k c, v = .slice (some x) k c → b ≤ x.block ∧ x.block < g'.next) ∧ (∀ i, i < b → g'.get i = g.get i) ∧ g.next ≤ g'.next ∧ g'.next ≤ g.next + 2 ∧ g'.floor = g.floor := by
  have nx := hx.next
  have fx := hx.floor
  rcases hy with ⟨h0, rfl⟩ | hg
  · subst h0
    have hcs : Ints g1 (.slice (some ⟨g.next, 0, none⟩) 1 1) 1 (fun _ => a 0) := ⟨_, _, rfl, fun x e => by cases e; rfl, .inr ⟨_, 0, _, _, _, rfl, hx.get, fun i j hi hj => by
      obtain rfl : i = 0 := by omega
      obtain rfl : j = 0 := by omega
      rfl⟩⟩
    obtain ⟨xv, kv, ev, lv⟩ := Cells.list (by omega) hcs
    have hap := append_none (h := g1) (s := 1) (bytes := 8) (b := b) ⟨xv, kv, ev⟩ lv flatL_len (by simp [maxBytes]) (by simp [maxBytes])
    rw [if_neg (by decide)] at hap
    have hone : allB oneCell (flatL 1 1 fun _ _ => .int .i64 (a 0)) = true := rfl
    obtain ⟨g', e, hx2⟩ := newSlice_ex (h := g1) (cs := flatL 1 1 fun _ _ => .int .i64 (a 0)) (n := 1) (gr := 1) (cap := unk) (by omega) hone
    have n2 := hx2.next
    have f2 := hx2.floor
    refine ⟨_, g', by rw [hap]; exact e, ⟨_, _, rfl, fun x e => by cases e; rfl, .inr ⟨_, 0, _, _, _, rfl, hx2.get, fun i j hi hj => by
      obtain rfl : i = 0 := by omega
      obtain rfl : j = 0 := by omega
      rfl⟩⟩, rfl, fun x k c e => by cases e; exact ⟨by show b ≤ g1.next; omega, by show g1.next < g'.next; omega⟩, fun i hi => by rw [hx2.old i (by omega), hx.old i (by omega)], by omega, by omega, by omega⟩
  · obtain ⟨v, g', e, ev, gv, hk⟩ := (hg.sub hx.sub).append (bytes := 8) (cap := 1) (by omega) (by omega) (by omega) hx.get rfl rfl (fun j hj => by
      obtain rfl : j = 0 := by omega
      rfl) (by simp [maxBytes]; omega) (by simp [maxBytes]; omega)
    have n2 := hk.next
    have f2 := hk.floor
    exact ⟨v, g', e, gv.cells, gv.one, fun x k c e => gv.block e, fun i hi => by rw [hk.old i (by omega) (fun q k c e => by have := (hg.block e).1; omega), hx.old i (by omega)], by omega, by omega, by omega⟩

def s97 : SCode := (.seq (.ops [⟨(some 2), none, .box (T 0)⟩, ⟨(some 4), none, .mov (.const (.slice none 0 0))⟩]) (.seq (.seq (.ops [⟨(some 9), none, .mov (T 1)⟩, ⟨(some 10), none, .int2 .eql (T 9) (.const (.int .i64 (0)))⟩]) (.cond (T 10) (.seq (.ops [⟨(some 11), none, .bslice 1 1 [(.slice none 0 0)] [0] [(.const (.slice none 0 0))]⟩, ⟨(some 4), none, .mov (T 11)⟩]) .ret) .skip)) (.seq (.ops [⟨(some 5), none, .mov (.const (.slice none 0 0))⟩]) (.seq (.ops [⟨(some 12), none, .loadN 5 (T 2)⟩, ⟨(some 13), none, .mov (T 1)⟩, ⟨(some 14), none, .int2 .sub (T 13) (.const (.int .i64 (1)))⟩, ⟨(some 15), none, .call (.func 97) [(T 12), (T 14)]⟩, ⟨(some 6), none, .mov (T 15)⟩]) (.seq (.seq (.ops [⟨(some 7), none, .mov (.const (.int .i64 (0)))⟩]) (.block 0 (.loop (.seq (.seq (.ops [⟨(some 16), none, .mov (T 7)⟩, ⟨(some 17), none, .mov (T 6)⟩, ⟨(some 18), none, .len (T 17)⟩, ⟨(some 19), none, .int2 .lss (T 16) (T 18)⟩]) (.cond (T 19) .skip (.exit 0))) (.seq (.block 1 (.seq (.ops [⟨(some 8), none, .mov (.const (.int .i64 (0)))⟩]) (.block 2 (.loop (.seq (.seq (.ops [⟨(some 22), none, .mov (T 8)⟩, ⟨(some 23), none, .fieldAddr 3 (T 2)⟩, ⟨(some 24), none, .load1 (T 23)⟩, ⟨(some 25), none, .int2 .leq (T 22) (T 24)⟩]) (.cond (T 25) .skip (.exit 2))) (.seq (.block 3 (.ops [⟨(some 28), none, .mov (T 5)⟩, ⟨(some 29), none, .bslice 1 0 [(.int .i64 (0))] [] []⟩, ⟨(some 30), none, .mov (T 6)⟩, ⟨(some 31), none, .mov (T 7)⟩, ⟨(some 32), none, .idxSl 1 (T 30) (T 31)⟩, ⟨(some 33), none, .load1 (T 32)⟩, ⟨(some 34), none, .append 1 8 (T 29) (T 33)⟩, ⟨(some 35), none, .mov (T 8)⟩, ⟨(some 36), none, .bslice 1 1 [(.int .i64 (0))] [0] [(T 35)]⟩, ⟨(some 37), none, .append 1 8 (T 34) (T 36)⟩, ⟨(some 38), none, .bslice 1 1 [(.slice none 0 0)] [0] [(T 37)]⟩, ⟨(some 39), none, .append 1 24 (T 28) (T 38)⟩, ⟨(some 5), none, .mov (T 39)⟩])) (.ops [⟨(some 26), none, .mov (T 8)⟩, ⟨(some 27), none, .int2 .add (T 26) (.const (.int .i64 (1)))⟩, ⟨(some 8), none, .mov (T 27)⟩]))))))) (.ops [⟨(some 20), none, .mov (T 7)⟩, ⟨(some 21), none, .int2 .add (T 20) (.const (.int .i64 (1)))⟩, ⟨(some 7), none, .mov (T 21)⟩])))))) (.seq (.ops [⟨(some 40), none, .mov (T 5)⟩, ⟨(some 4), none, .mov (T 40)⟩]) .ret))))))
theorem fok97 : FnOk Try.prog 97 41 s97 [.tmp 4] := ⟨Try.f97, _, Try.func97, rfl, Try.ntmps97, by kernel_rfl, by kernel_rfl⟩
theorem pow_le {W m : Nat} (hW : W ≤ 10) (hm : m ≤ 3) : W ^ m ≤ 1000 := by
  have h1 : W ^ m ≤ 10 ^ m := Nat.pow_le_pow_left hW m
  have h2 : 10 ^ m ≤ 10 ^ 3 := Nat.pow_le_pow_right (by omega) hm
  exact Nat.le_trans h1 (Nat.le_trans h2 (by decide))
def cB : Nat → Nat
  | 0 => 8000
  | m + 1 => cB m + 8000
theorem cB_zero : cB 0 = 8000 := rfl
theorem cB_succ {m : Nat} : cB (m + 1) = cB m + 8000 := rfl
theorem cB_le {m : Nat} (hm : m ≤ 3) : cB m ≤ 32000 := by
  obtain rfl | rfl | rfl | rfl : m = 0 ∨ m = 1 ∨ m = 2 ∨ m = 3 := by omega
  all_goals decide
set_option maxHeartbeats 4000000 in
theorem endings_c {vv sv : Value} {S : MB} (hG : Good S) : ∀ (m n : Nat) (h : AHeap), m ≤ 3 → 1100 + m ≤ n → h.next + cB m + 1000 < far → h.floor ≤ h.next → BeatR h vv sv S →
    ∃ v h', call n (.func (.func 97) #[] #[]) [.agg ⟨beL S vv sv⟩, .int .i64 (m : Int)] h = some (v, h') ∧ AllR h' v (endsL (S.last.toNat + 1) m ((S.last.toNat + 1) ^ m)) ∧ oneCell v = true ∧ (∀ i, i < h.next → h'.get i = h.get i) ∧ h.next ≤ h'.next ∧ h'.next ≤ h.next + cB m ∧ h'.floor = h.floor
  | 0, n, h, hm, hn, hr, hfl, hy => by
    obtain ⟨n, rfl⟩ : ∃ p, n = p + 1 := ⟨n - 1, by omega⟩
    rw [cB_zero] at hr ⊢
    refine call_any0 fok97 rfl rfl (by simp) ?_
    simp only [s97, W_seq, W_ops]
    refine ops_box (cs := beL S vv sv) (by omega) rfl hy.one fun g1 hx1 => ?_
    have n1 := hx1.next
    have f1 := hx1.floor
    simp only [rn0, rn1, rn2, reduceIte, Nat.reduceEqDiff, Nat.reduceAdd, Nat.reduceMul, Nat.reduceSub, Nat.reduceLeDiff, Nat.reduceLT, Int.natCast_zero, sl_list (show oneCell nilS = true from rfl)]
    refine step_slice (by omega) rfl fun g2 hx2 => ?_
    have n2 := hx2.next
    have f2 := hx2.floor
    simp only [rn0, rn1, rn2, reduceIte, Nat.reduceEqDiff, Nat.reduceAdd, Nat.reduceMul, Nat.reduceSub, Nat.reduceLeDiff, Nat.reduceLT]
    refine ⟨⟨fun _ => nilS, ⟨_, _, rfl, fun x e => by cases e; rfl, .inr ⟨_, 0, _, _, _, rfl, hx2.get, fun i j hi hj => by
      have hi : i < 1 := by simpa [endsL_len] using hi
      obtain rfl : i = 0 := by omega
      obtain rfl : j = 0 := by omega
      rfl⟩⟩, fun k hk => ?_⟩, rfl, fun i hi => by rw [hx2.old i (by omega), hx1.old i hi], by omega, by omega, by omega⟩
    have hk : k < 1 := by simpa [endsL_len] using hk
    rw [endsL_get (by simpa using hk), toL_len]
    exact ⟨none, 0, rfl, fun x e => (by cases e), .inl rfl⟩
  | m + 1, n, h, hm, hn, hr, hfl, hy => by
    obtain ⟨n, rfl⟩ : ∃ p, n = p + 1 := ⟨n - 1, by omega⟩
    rw [cB_succ] at hr ⊢
    obtain ⟨z0, z1, z3, _⟩ := hG.sizes
    obtain ⟨W, hW⟩ : ∃ W, W = S.last.toNat + 1 := ⟨_, rfl⟩
    have hW0 : 0 < W := by omega
    have hWl : (W : Int) = S.last + 1 := by omega
    have hp := pow_le (W := W) (m := m) (by omega) (by omega)
    have hp2 := pow_le (W := W) (m := m + 1) (by omega) (by omega)
    have hps : W ^ (m + 1) = W ^ m * W := Nat.pow_succ ..
    rw [← hW]
    refine call_any0 fok97 rfl rfl (by simp) ?_
    simp only [s97, W_seq, W_ops]
    refine ops_box (cs := beL S vv sv) (by omega) rfl hy.one fun g1 hx1 => ?_
    have n1 := hx1.next
    have f1 := hx1.floor
    have hy1 := hy.mono hx1.sub
    have r1 := hx1.row
    have hm0 : ¬ ((m + 1 : Nat) : Int) = 0 := by omega
    have hm1 : wrapF .i64 (((m + 1 : Nat) : Int) - 1) = (m : Int) := by rw [wrap_in (by omega) (by omega)]; omega
    obtain ⟨v2, g2, e2, ha2, o2, old2, u2, m2, f2⟩ := endings_c hG m n g1 (by omega) (by omega) (by omega) (by omega) hy1
    rw [← hW] at ha2
    have old12 : ∀ i, i < h.next → g2.get i = h.get i := fun i hi => by rw [old2 i (by omega), hx1.old i hi]
    have r2 := r1.mono (AHeap.subOf old2)
    obtain ⟨R, hR, hR2⟩ := ha2
    have hl2 : (endsL W m (W ^ m)).length = W ^ m := endsL_len
    simp only [rn0, rn1, rn2, reduceIte, Nat.reduceEqDiff, Nat.reduceAdd, Nat.reduceMul, Nat.reduceSub, Nat.reduceLeDiff, Nat.reduceLT, hm0, hm1, r1.whole (n := 5) rfl, e2]
    refine W_loop (W ^ m) (fun i f g ms => (∃ v R', (∀ j, j < g2.next → g.get j = g2.get j) ∧ g.floor = h.floor ∧ g2.next ≤ g.next ∧ g.next ≤ g2.next + 7 * (i * W) ∧ WrG g2.next g v (endsL W (m + 1) (i * W)) R' ∧ i * W ≤ g.next ∧ f 5 = v) ∧ ms = [] ∧ f 2 = .pointer (some ⟨h.next, 0, none⟩) ∧ f 6 = v2 ∧ f 7 = .int .i64 (i : Int)) (by simp; omega) ?_ ?_ ?_
    · simp only [rn0, rn1, rn2, reduceIte, Nat.reduceEqDiff, Nat.reduceAdd, Nat.reduceMul, Nat.reduceSub, Nat.reduceLeDiff, Nat.reduceLT, Int.natCast_zero, Nat.zero_mul, Nat.mul_zero]
      exact ⟨_, _, fun _ _ => trivial, by omega, by omega, WrG.nil, Nat.zero_le _, rfl⟩
    · rintro i f g ms hi ⟨⟨v, R', ho, hfg, hup, hnx, hw, hlen, p5⟩, rfl, p2, p6, p7⟩
      have hi' : (i : Int) < ((W ^ m : Nat) : Int) := by omega
      have hwi : wrapF .i64 ((i : Int) + 1) = ((i + 1 : Nat) : Int) := by rw [wrap_in (by omega) (by omega)]; rfl
      have hiW : (i + 1) * W ≤ W ^ m * W := Nat.mul_le_mul_right W hi
      have hiW1 : (i + 1) * W = i * W + W := by rw [Nat.add_mul, Nat.one_mul]
      obtain ⟨I, hI⟩ : ∃ I, I = i * W := ⟨_, rfl⟩
      rw [← hI] at hnx hw hlen hiW1
      rw [hiW1] at hiW ⊢
      have hIq : ∀ d, d < W → (I + d) / W = i ∧ (I + d) % W = d := fun d hd => by
        rw [hI]
        exact ⟨by rw [Nat.mul_comm, Nat.mul_add_div hW0, Nat.div_eq_of_lt hd, Nat.add_zero], by rw [Nat.mul_comm, Nat.mul_add_mod, Nat.mod_eq_of_lt hd]⟩
      clear hI
      have hI1 : I + W ≤ 1000 := by omega
      simp only [rn0, rn1, rn2, reduceIte, Nat.reduceEqDiff, Nat.reduceAdd, Nat.reduceMul, Nat.reduceSub, Nat.reduceLeDiff, Nat.reduceLT, p2, p5, p6, p7, Cells.len hR, hl2, hi']
      refine W_loop W (fun d f g ms => (∃ v R', (∀ j, j < g2.next → g.get j = g2.get j) ∧ g.floor = h.floor ∧ g2.next ≤ g.next ∧ g.next ≤ g2.next + 7 * (I + d) ∧ WrG g2.next g v (endsL W (m + 1) (I + d)) R' ∧ I + d ≤ g.next ∧ f 5 = v) ∧ ms = [] ∧ f 2 = .pointer (some ⟨h.next, 0, none⟩) ∧ f 6 = v2 ∧ f 7 = .int .i64 (i : Int) ∧ f 8 = .int .i64 (d : Int)) (by simp; omega) ?_ ?_ ?_
      · simp only [rn0, rn1, rn2, reduceIte, Nat.reduceEqDiff, Nat.reduceAdd, Nat.reduceMul, Nat.reduceSub, Nat.reduceLeDiff, Nat.reduceLT, p2, p5, p6, p7, Int.natCast_zero, Nat.add_zero]
        exact ⟨_, _, ho, by omega, by omega, by omega, hw, by omega, rfl⟩
      · rintro d f g ms hd ⟨⟨v, R', ho, hfg, hup, hnx, hw, hlen, p5⟩, rfl, p2, p6, p7, p8⟩
        have hd' : (d : Int) ≤ S.last := by omega
        have hwd : wrapF .i64 ((d : Int) + 1) = ((d + 1 : Nat) : Int) := by rw [wrap_in (by omega) (by omega)]; rfl
        have sg : Sub All g2 g := AHeap.subOf ho
        have rg := r2.mono sg
        have hRg := hR.mono sg
        have hil : i < (endsL W m (W ^ m)).length := by rw [hl2]; exact hi
        have hbi : Ints g (R i) m (endN W m i) := by
          have := Cells.mono (hR2 i hil) sg
          rw [endsL_get hi, toL_len] at this
          exact cells_congr this fun k j hk hj => by rw [toL_at hk]
        simp only [rn0, rn1, rn2, reduceIte, Nat.reduceEqDiff, Nat.reduceAdd, Nat.reduceMul, Nat.reduceSub, Nat.reduceLeDiff, Nat.reduceLT, p2, p5, p6, p7, p8, rg.ld, beg, Nat.zero_add, hd', build_none1]
        refine step_slice (by omega) rfl fun g3 hx3 => ?_
        have n3 := hx3.next
        have f3 := hx3.floor
        obtain ⟨y, g4, e4, hy4, old4, u4, m4, f4⟩ := ext_first (g := g3) (b := g.next) hx3.get (Cells.mono hbi hx3.sub) (by omega) (by omega) (by omega)
        simp only [rn0, rn1, rn2, reduceIte, Nat.reduceEqDiff, Nat.reduceAdd, Nat.reduceMul, Nat.reduceSub, Nat.reduceLeDiff, Nat.reduceLT, p2, p5, p6, p7, p8, Cells.idx hRg hil, Cells.ld (hRg.mono hx3.sub) hil Nat.zero_lt_one, e4, sl_int]
        refine step_slice (by omega) rfl fun g5 hx5 => ?_
        have n5 := hx5.next
        have f5 := hx5.floor
        have hwl : endN W (m + 1) (I + d) m = (d : Int) := by simp only [endN, if_true]; rw [(hIq d hd).2]
        have hwi2 : ∀ q, q < m → endN W m i q = endN W (m + 1) (I + d) q := fun q hq => by simp only [endN]; rw [if_neg (by omega), (hIq d hd).1]
        have hy4' : (m = 0 ∧ y = .slice (some ⟨g.next, 0, none⟩) 0 0) ∨ GrowC g.next g4 y 1 m fun i _ => .int .i64 (endN W (m + 1) (I + d) i) := by
          rcases hy4 with ⟨q1, q2, _⟩ | q
          · exact .inl ⟨q1, q2⟩
          · exact .inr (growC_congr q fun k j hk hj => by rw [hwi2 k hk])
        rw [← hwl] at hx5
        obtain ⟨wv, g6, e6, hi6, o6, hb6, old6, u6, m6, f6⟩ := ext_second (g := g4) (g1 := g5) (b := g.next) hy4' hx5 (by omega) (by omega) (by omega) (by omega)
        simp only [rn0, rn1, rn2, reduceIte, Nat.reduceEqDiff, Nat.reduceAdd, Nat.reduceMul, Nat.reduceSub, Nat.reduceLeDiff, Nat.reduceLT, p2, p5, p6, p7, p8, e6, sl_list o6]
        refine step_slice (by omega) (by simp [allB, o6]) fun g7 hx7 => ?_
        have n7 := hx7.next
        have f7 := hx7.floor
        have old06 : ∀ j, j < g.next → g6.get j = g.get j := fun j hj => by rw [old6 j hj, old4 j (by omega), hx3.old j hj]
        have hw6 : WrG g2.next g6 v (endsL W (m + 1) (I + d)) R' := hw.old (fun j _ hj => old06 j hj) (by omega)
        have hi6' : Ints g6 wv (toL (m + 1) (endN W (m + 1) (I + d))).length (atL (toL (m + 1) (endN W (m + 1) (I + d)))) := by
          rw [toL_len]
          exact cells_congr hi6 fun k j hk hj => by rw [toL_at hk]
        obtain ⟨v', g8, e8, hw8, o8, ev8, n8, f8, old8⟩ := hw6.push (w := toL (m + 1) (endN W (m + 1) (I + d))) (by omega) (by omega) (by omega) hx7 hi6' o6 (fun x k c e => by
          have := hb6 x k c e
          exact ⟨by omega, by omega, fun b q c' e' => by have := (hw.c.block e').2; omega⟩) (by rw [endsL_len]; omega)
        simp only [rn0, rn1, rn2, reduceIte, Nat.reduceEqDiff, Nat.reduceAdd, Nat.reduceMul, Nat.reduceSub, Nat.reduceLeDiff, Nat.reduceLT, p2, p6, p7, p8, e8, hwd]
        rw [← Nat.add_assoc, endsL_succ]
        exact ⟨v', _, fun j hj => by rw [old8 j (by omega) (neB_of hw.c (by left; omega)), old06 j (by omega), ho j hj], by omega, by omega, by omega, hw8, by omega, rfl⟩
      · rintro f g ms ⟨⟨v, R', ho, hfg, hup, hnx, hw, hlen, p5⟩, rfl, p2, p6, p7, p8⟩
        have rg := r2.mono (AHeap.subOf ho)
        have hd' : ¬ (W : Int) ≤ S.last := by omega
        simp only [rn0, rn1, rn2, reduceIte, Nat.reduceEqDiff, Nat.reduceAdd, Nat.reduceMul, Nat.reduceSub, Nat.reduceLeDiff, Nat.reduceLT, p2, p5, p6, p7, p8, rg.ld, beg, Nat.zero_add, hd', hwi]
        exact ⟨v, _, ho, by omega, by omega, by omega, hw, by omega, rfl⟩
    · rintro f g ms ⟨⟨v, R', ho, hfg, hup, hnx, hw, hlen, p5⟩, rfl, p2, p6, p7⟩
      simp only [rn0, rn1, rn2, reduceIte, Nat.reduceEqDiff, Nat.reduceAdd, Nat.reduceMul, Nat.reduceSub, Nat.reduceLeDiff, Nat.reduceLT, p2, p5, p6, p7, Cells.len hR, hl2, Int.lt_irrefl]
      rw [hps]
      exact ⟨⟨R', hw.c.cells, fun k hk => (hw.r k hk).1⟩, hw.c.one, fun j hj => by rw [ho j (by omega), old12 j hj], by omega, by omega, by omega⟩

abbrev uSz (S : MB) : Nat → Nat := sz (uLo S) (uHi S)
theorem Good.sz {S : MB} (hG : Good S) {j : Nat} (hj : j < numU S) : ((uSz S j : Nat) : Int) = uHi S j - uLo S j + 1 ∧ 1 ≤ uSz S j ∧ uSz S j ≤ 10 := by
  obtain ⟨h1, h2, h3⟩ := hG.u j hj
  have : ((uSz S j : Nat) : Int) = uHi S j - uLo S j + 1 := Int.toNat_of_nonneg (by omega)
  omega
theorem nthU_is {S : MB} {m j : Nat} (hj : j < numU S) : nthU S m j = uLo S j + ((divN (uSz S) m j % uSz S j : Nat) : Int) := by unfold nthU nthB; rw [if_pos hj]
theorem build_c1 {x : Int} : buildA (fun x => (#[(0, 1), (1, 1)] : Array (Nat × Nat))[x]?) ⟨[.int .i64 0, .slice none 0 0]⟩ [0] h [.int .i64 x] = some (.agg ⟨[.int .i64 x, .slice none 0 0]⟩, h) := by
  unfold buildA
  have e : Instr.fill (fun x => (#[(0, 1), (1, 1)] : Array (Nat × Nat))[x]?) #[.int .i64 0, .slice none 0 0] ([0].zip [.int .i64 x]) = some #[.int .i64 x, .slice none 0 0] := by
    simp [Instr.fill, Value.cells]
  rw [e]
def s69 : SCode := (.seq (.ops [⟨(some 2), none, .box (T 0)⟩, ⟨(some 4), none, .alloc [(.int .i64 (0)), (.slice none 0 0)]⟩]) (.seq (.draw [⟨.free, ⟨(some 8), none, .fieldAddr 0 (T 2)⟩⟩, ⟨.free, ⟨(some 9), none, .fieldAddr 0 (T 8)⟩⟩, ⟨.rd, ⟨(some 10), none, .load1 (T 9)⟩⟩, ⟨.free, ⟨(some 11), none, .mov (T 1)⟩⟩, ⟨.free, ⟨(some 12), none, .fieldAddr 0 (T 2)⟩⟩, ⟨.rd1, ⟨(some 13), none, .loadN 2 (T 12)⟩⟩, ⟨.up, ⟨(some 14), none, .call (.func 108) [(T 13)]⟩⟩, ⟨.free, ⟨(some 15), none, .plain (.binOp .rem 3 (T 11) (T 14) 3) 3⟩⟩, ⟨.free, ⟨(some 16), none, .int2 .add (T 10) (T 15)⟩⟩, ⟨.free, ⟨(some 17), none, .build #[(0, 1), (1, 1)] [(.int .i64 (0)), (.slice none 0 0)] [0] [(T 16)]⟩⟩, ⟨.up, ⟨(some 5), none, .alloc [(.int .i64 (0)), (.slice none 0 0)]⟩⟩, ⟨.any, ⟨none, none, .store 2 (T 5) (T 17)⟩⟩]) (.seq (.ops [⟨(some 18), none, .mov (T 1)⟩, ⟨(some 19), none, .fieldAddr 0 (T 2)⟩, ⟨(some 20), none, .loadN 2 (T 19)⟩, ⟨(some 21), none, .call (.func 108) [(T 20)]⟩, ⟨(some 22), none, .plain (.binOp .quo 3 (T 18) (T 21) 3) 3⟩, ⟨(some 1), none, .mov (T 22)⟩]) (.seq (.seq (.ops [⟨(some 6), none, .mov (.const (.int .i64 (0)))⟩]) (.block 0 (.loop (.seq (.seq (.ops [⟨(some 23), none, .mov (T 6)⟩, ⟨(some 24), none, .fieldAddr 2 (T 2)⟩, ⟨(some 25), none, .load1 (T 24)⟩, ⟨(some 26), none, .len (T 25)⟩, ⟨(some 27), none, .int2 .lss (T 23) (T 26)⟩]) (.cond (T 27) .skip (.exit 0))) (.seq (.block 1 (.seq (.ops [⟨(some 30), none, .fieldAddr 2 (T 2)⟩, ⟨(some 31), none, .load1 (T 30)⟩, ⟨(some 32), none, .mov (T 6)⟩, ⟨(some 33), none, .idxSl 4 (T 31) (T 32)⟩, ⟨(some 34), none, .fieldAddr 0 (T 33)⟩, ⟨(some 35), none, .loadN 2 (T 34)⟩, ⟨(some 7), none, .alloc [(.int .i64 (0)), (.int .i64 (0))]⟩, ⟨none, none, .store 2 (T 7) (T 35)⟩]) (.seq (.draw [⟨.free, ⟨(some 36), none, .fieldAddr 1 (T 5)⟩⟩, ⟨.rd, ⟨(some 37), none, .load1 (T 36)⟩⟩, ⟨.free, ⟨(some 38), none, .fieldAddr 0 (T 7)⟩⟩, ⟨.rd, ⟨(some 39), none, .load1 (T 38)⟩⟩, ⟨.free, ⟨(some 40), none, .mov (T 1)⟩⟩, ⟨.rd1, ⟨(some 41), none, .loadN 2 (T 7)⟩⟩, ⟨.up, ⟨(some 42), none, .call (.func 108) [(T 41)]⟩⟩, ⟨.free, ⟨(some 43), none, .plain (.binOp .rem 3 (T 40) (T 42) 3) 3⟩⟩, ⟨.free, ⟨(some 44), none, .int2 .add (T 39) (T 43)⟩⟩, ⟨.up, ⟨(some 45), none, .bslice 1 1 [(.int .i64 (0))] [0] [(T 44)]⟩⟩, ⟨.any, ⟨(some 46), none, .append 1 8 (T 37) (T 45)⟩⟩, ⟨.free, ⟨(some 47), none, .fieldAddr 1 (T 5)⟩⟩, ⟨.any, ⟨none, none, .store 1 (T 47) (T 46)⟩⟩]) (.ops [⟨(some 48), none, .mov (T 1)⟩, ⟨(some 49), none, .loadN 2 (T 7)⟩, ⟨(some 50), none, .call (.func 108) [(T 49)]⟩, ⟨(some 51), none, .plain (.binOp .quo 3 (T 48) (T 50) 3) 3⟩, ⟨(some 1), none, .mov (T 51)⟩])))) (.ops [⟨(some 28), none, .mov (T 6)⟩, ⟨(some 29), none, .int2 .add (T 28) (.const (.int .i64 (1)))⟩, ⟨(some 6), none, .mov (T 29)⟩])))))) (.seq (.ops [⟨(some 52), none, .loadN 2 (T 5)⟩, ⟨none, none, .store 2 (T 4) (T 52)⟩]) .ret)))))
theorem fok69 : FnOk Try.prog 69 53 s69 [.cellN 4 2] := ⟨Try.f69, _, Try.func69, rfl, Try.ntmps69, by kernel_rfl, by kernel_rfl⟩
set_option maxHeartbeats 1000000 in
theorem nthG_c (hn : 100 ≤ n) (hr : h.next + 100 < far) (hfl : h.floor ≤ h.next) {vv sv : Value} {S : MB} (hy : BeatR h vv sv S) (hG : Good S) {m : Nat} (hm : m ≤ 100000) :
    ∃ cw h', call n (.func (.func 69) #[] #[]) [.agg ⟨beL S vv sv⟩, .int .i64 (m : Int)] h = some (.agg ⟨coL (nthU S m 0) cw⟩, h') ∧ CouR h' cw S (nthU S m) ∧ (∀ i, i < h.next → h'.get i = h.get i) ∧ h.next ≤ h'.next ∧ h'.next ≤ h.next + 40 ∧ h'.floor = h.floor ∧ GrowC h.next h' cw 1 S.nv (fun i _ => .int .i64 (nthU S m (i + 1))) := by
  obtain ⟨n, rfl⟩ : ∃ p, n = p + 1 := ⟨n - 1, by omega⟩
  have h0 : numU S = S.nv + 1 := by unfold numU; omega
  obtain ⟨z0, z1, z3, _⟩ := hG.sizes
  suffices hs : ∃ v h', call (n + 1) (.func (.func 69) #[] #[]) [.agg ⟨beL S vv sv⟩, .int .i64 (m : Int)] h = some (v, h') ∧ ∃ cw, v = .agg ⟨coL (nthU S m 0) cw⟩ ∧ CouR h' cw S (nthU S m) ∧ (∀ i, i < h.next → h'.get i = h.get i) ∧ h.next ≤ h'.next ∧ h'.next ≤ h.next + 40 ∧ h'.floor = h.floor ∧ GrowC h.next h' cw 1 S.nv (fun i _ => .int .i64 (nthU S m (i + 1))) by
    obtain ⟨v, h', e, cw, rfl, q⟩ := hs
    exact ⟨cw, h', e, q⟩
  have hgen : ∀ j, j < numU S → ∀ lo hi : Int, lo = uLo S j → hi = uHi S j → (∀ g' : AHeap, g'.next < far → call n (.func (.func 108) #[] #[]) [.agg ⟨[.int .i64 lo, .int .i64 hi]⟩] g' = some (.int .i64 ((uSz S j : Nat) : Int), g')) ∧ ¬ ((uSz S j : Nat) : Int) = 0 ∧ ((divN (uSz S) m j : Nat) : Int).tmod ((uSz S j : Nat) : Int) = ((divN (uSz S) m j % uSz S j : Nat) : Int) ∧ wrapF .i64 (lo + ((divN (uSz S) m j % uSz S j : Nat) : Int)) = nthU S m j ∧ IntKind.wrap .i64 (((divN (uSz S) m j : Nat) : Int).tdiv ((uSz S j : Nat) : Int)) = ((divN (uSz S) m (j + 1) : Nat) : Int) := by
    intro j hj lo hi el eh
    obtain ⟨a1, a2, a3⟩ := hG.u j hj
    obtain ⟨a4, a5, a6⟩ := hG.sz hj
    have hmd := Nat.mod_lt (divN (uSz S) m j) (show 0 < uSz S j by omega)
    have hle := divN_le' (s := uSz S) (m := m) j
    subst el eh
    refine ⟨fun g' hg' => ?_, by omega, rfl, by rw [nthU_is hj]; exact wrap_in (by omega) (by omega), ?_⟩
    · rw [size_c (n := n) (h := g') (by omega) hg', wrap_in (z := uHi S j - uLo S j) (by omega) (by omega), wrap_in (by omega) (by omega), a4]
    · have e : ((divN (uSz S) m j : Nat) : Int).tdiv ((uSz S j : Nat) : Int) = ((divN (uSz S) m j / uSz S j : Nat) : Int) := rfl
      have hd := Nat.div_le_self (divN (uSz S) m j) (uSz S j)
      rw [e, IntKind.wrap_i64]
      simp only [divN]
      generalize divN (uSz S) m j / uSz S j = dq at hd
      omega
  refine call_any0 fok69 rfl rfl (by simp) ?_
  simp only [s69, W_seq, W_ops]
  refine ops_box (cs := beL S vv sv) (by omega) rfl hy.one fun g1 hx1 => ?_
  have n1 := hx1.next
  have f1' := hx1.floor
  refine ops_alloc (cs := coL 0 nilS) (by omega) rfl fun g2 hx2 => ?_
  have n2 := hx2.next
  have f2' := hx2.floor
  have r1 := hx1.row.mono hx2.sub
  have old2 : ∀ i, i < h.next → g2.get i = h.get i := fun i hi => by rw [hx2.old i (by omega), hx1.old i hi]
  obtain ⟨es, y2, y3, y4, y5⟩ := hgen 0 (by omega) S.slo S.shi rfl rfl
  rw [show divN (uSz S) m 0 = m from rfl] at y3 y4 y5
  simp only [rn0, rn1, rn2, reduceIte, Nat.reduceEqDiff, Nat.reduceAdd, Nat.reduceMul, Nat.reduceSub, Nat.reduceLeDiff, Nat.reduceLT]
  refine W_draw All ?_
  simp only [rn0, rn1, rn2, reduceIte, Nat.reduceEqDiff, Nat.reduceAdd, Nat.reduceMul, Nat.reduceSub, Nat.reduceLeDiff, Nat.reduceLT, r1.ld, beg, be_rng r1, Nat.zero_add, Nat.add_zero, eqV_int, es g2 (by omega), valN_tmp, p_rem, r_rem y2, y3, y4, build_c1]
  refine up_row (cs := coL 0 nilS) (by omega) rfl rfl (fun g3 hx => hx.sub) fun g3 hx3 => ?_
  have n3 := hx3.next
  have f3' := hx3.floor
  simp only [rn0, rn1, rn2, reduceIte, Nat.reduceEqDiff, Nat.reduceAdd, Nat.reduceMul, Nat.reduceSub, Nat.reduceLeDiff, Nat.reduceLT]
  refine up_store (b := g2.next) (off := 0) (vs := coL (nthU S m 0) nilS) rfl hx3.get (by omega) (by omega) rfl rfl rfl (by simp [coL]) (fun _ _ => trivial) fun g4 hs4 => ?_
  rw [splice_all (by rfl)] at hs4
  have n4 := hs4.next
  have f4' := hs4.floor
  have old4 : ∀ i, i < g2.next → g4.get i = g2.get i := fun i hi => by rw [hs4.old i (by omega), hx3.old i hi]
  have r14 : Row g4 h.next (beL S vv sv) := r1.mono (AHeap.subOf old4)
  simp only [rn0, rn1, rn2, reduceIte, Nat.reduceEqDiff, Nat.reduceAdd, Nat.reduceMul, Nat.reduceSub, Nat.reduceLeDiff, Nat.reduceLT, be_rng r14, es g4 (by omega), valN_tmp, p_quo, r_quo y2, y5]
  refine W_loop S.nv (fun k f g ms => (∃ w, (∀ i, i < g2.next → g.get i = g2.get i) ∧ g.floor = h.floor ∧ g4.next ≤ g.next ∧ g.next ≤ g4.next + 4 * k ∧ GrowC g4.next g w 1 k (fun i _ => .int .i64 (nthU S m (i + 1))) ∧ g.get g2.next = some (.row (coL (nthU S m 0) w) true 0)) ∧ ms = [] ∧ f 1 = .int .i64 ((divN (uSz S) m (k + 1) : Nat) : Int) ∧ f 2 = .pointer (some ⟨h.next, 0, none⟩) ∧ f 4 = .pointer (some ⟨g1.next, 0, none⟩) ∧ f 5 = .pointer (some ⟨g2.next, 0, none⟩) ∧ f 6 = .int .i64 (k : Int)) (by simp; omega) ?_ ?_ ?_
  · simp only [rn0, rn1, rn2, reduceIte, Nat.reduceEqDiff, Nat.reduceAdd, Nat.reduceMul, Nat.reduceSub, Nat.reduceLeDiff, Nat.reduceLT, Nat.zero_add, Int.natCast_zero]
    exact ⟨nilS, old4, by omega, by omega, .nil, hs4.get⟩
  · rintro k f g ms hk ⟨⟨w, hs, hfg, hup, hnx, gv, grow⟩, rfl, p1, p2, p4, p5, p6⟩
    have hk' : (k : Int) < (S.nv : Int) := by omega
    have hw : wrapF .i64 ((k : Int) + 1) = ((k + 1 : Nat) : Int) := by rw [wrap_in (by omega) (by omega)]; rfl
    have oldg : ∀ i, i < h.next → g.get i = h.get i := fun i hi => by rw [hs i (by omega), old2 i hi]
    have hyg := hy.mono (AHeap.subOf oldg)
    have rg : Row g h.next (beL S vv sv) := r1.mono (AHeap.subOf hs)
    simp only [rn0, rn1, rn2, reduceIte, Nat.reduceEqDiff, Nat.reduceAdd, Nat.reduceMul, Nat.reduceSub, Nat.reduceLeDiff, Nat.reduceLT, p1, p2, p4, p5, p6, rg.ld, beg, Nat.zero_add, Cells.len hyg.v, hk', Cells.idx hyg.v hk, Cells.fld hyg.v hk, need_ld hyg hk]
    refine step_new (vs := [.int .i64 (S.nlo k), .int .i64 (S.nhi k)]) (by omega) (by omega) rfl (by simp only [rn0, rn1, rn2, reduceIte, Nat.reduceEqDiff, Nat.reduceAdd, Nat.reduceMul, Nat.reduceSub, Nat.reduceLeDiff, Nat.reduceLT]; rfl) rfl rfl rfl fun g5 hx5 => ?_
    have n5 := hx5.next
    have f5 := hx5.floor
    have gv5 := gv.sub hx5.sub
    have grow5 : g5.get g2.next = _ := hx5.sub _ _ _ _ trivial grow
    have rt : Row g5 g2.next _ := ⟨_, _, grow5⟩
    have w5 := hx5.row.whole (n := 2) rfl
    obtain ⟨esz, x2, x3, x4, x5⟩ := hgen (k + 1) (by omega) (S.nlo k) (S.nhi k) uLo_succ.symm uHi_succ.symm
    have ne1 : NeB w g2.next := neB_of gv5 (by left; omega)
    have ne2 : NeB w g.next := neB_of gv (by right; omega)
    simp only [rn0, rn1, rn2, reduceIte, Nat.reduceEqDiff, Nat.reduceAdd, Nat.reduceMul, Nat.reduceSub, Nat.reduceLeDiff, Nat.reduceLT]
    refine W_draw (NeB w) ?_
    simp only [rn0, rn1, rn2, reduceIte, Nat.reduceEqDiff, Nat.reduceAdd, Nat.reduceMul, Nat.reduceSub, Nat.reduceLeDiff, Nat.reduceLT, rd_1, rd_N, rd_neb, ne1, ne2, p1, p2, p4, p5, p6, rt.ld, hx5.row.ld, w5, cog, Nat.zero_add, List.getElem?_cons_zero, gv5.cells.self, eqV_int, self_two, esz g5 (by omega), valN_tmp, p_rem, r_rem x2, x3, x4, sl_int]
    refine up_slice (by omega) rfl (fun g6 hx i cs w gr _ e => hx.sub i cs w gr trivial e) fun g6 hx6 => ?_
    have n6 := hx6.next
    obtain ⟨w', g7, e7, gv7, o7, n7, f7, old7, u7⟩ := grow_push2 (h := g5) (bytes := 8) gv5 (by omega) (by omega) (by omega) hx6 rfl rfl (fun j hj => by rw [one_get j hj]) (by simp [maxBytes]; omega) (by simp [maxBytes]; omega)
    simp only [rn0, rn1, rn2, reduceIte, Nat.reduceEqDiff, Nat.reduceAdd, Nat.reduceMul, Nat.reduceSub, Nat.reduceLeDiff, Nat.reduceLT, rd_1, rd_N, rd_neb, ne1, ne2, p1, p2, p4, p5, p6, e7, Nat.zero_add]
    refine ⟨by omega, ?_⟩
    refine up_store (b := g2.next) (off := 1) (vs := [w']) rfl (by rw [old7 _ (by omega) ne1]; exact grow5) (by omega) (by omega) (cells1 o7) (by simp [allB, o7]) rfl (by simp [coL]) (fun _ _ => trivial) fun g8 hs8 => ?_
    have n8 := hs8.next
    have f8 := hs8.floor
    have w8 : loadAgg 2 g8 (.pointer (some ⟨g.next, 0, none⟩)) = some (.agg ⟨[.int .i64 (S.nlo k), .int .i64 (S.nhi k)]⟩) := by
      refine Row.whole (n := 2) ⟨true, 0, ?_⟩ rfl
      rw [hs8.old _ (by omega), old7 _ (by omega) ne2]
      exact hx5.get
    simp only [rn0, rn1, rn2, reduceIte, Nat.reduceEqDiff, Nat.reduceAdd, Nat.reduceMul, Nat.reduceSub, Nat.reduceLeDiff, Nat.reduceLT, p1, p2, p4, p5, p6, w8, esz g8 (by omega), valN_tmp, p_quo, r_quo x2, x5, hw]
    exact ⟨w', fun i hi => by rw [hs8.old i (by omega), old7 i (by omega) (neB_of gv5 (by left; omega)), hx5.old i (by omega), hs i hi], by omega, by omega, by omega, gv7.keep hs8.keep (by omega), hs8.get⟩
  rintro f ga ms ⟨⟨w', hsa, hfa, hupa, hnxa, gva, growa⟩, rfl, p1, p2, p4, p5, p6⟩
  have olda : ∀ i, i < h.next → ga.get i = h.get i := fun i hi => by rw [hsa i (by omega), old2 i hi]
  have hya := hy.mono (AHeap.subOf olda)
  have rga : Row ga h.next (beL S vv sv) := r1.mono (AHeap.subOf hsa)
  have hm3 : ga.get g1.next = some (.row (coL 0 nilS) true 0) := by rw [hsa _ (by omega)]; exact hx2.get
  have rca : Row ga g2.next (coL (nthU S m 0) w') := ⟨_, _, growa⟩
  simp only [rn0, rn1, rn2, reduceIte, Nat.reduceEqDiff, Nat.reduceAdd, Nat.reduceMul, Nat.reduceSub, Nat.reduceLeDiff, Nat.reduceLT, p1, p2, p4, p5, p6, rga.ld, beg, Nat.zero_add, Cells.len hya.v, Int.lt_irrefl, rca.whole (n := 2) rfl]
  refine step_store (b := g1.next) (off := 0) (vs := coL (nthU S m 0) w') rfl hm3 (by omega) (by omega) rfl (by simp [coL, allB, gva.one, one_int]) rfl (by simp [coL]) fun gb hsb => ?_
  rw [splice_all (by rfl)] at hsb
  have nb := hsb.next
  have fb := hsb.floor
  simp only [rn0, rn1, rn2, reduceIte, Nat.reduceEqDiff, Nat.reduceAdd, Nat.reduceMul, Nat.reduceSub, Nat.reduceLeDiff, Nat.reduceLT, p4, res_cellN, hsb.row.whole (n := 2) rfl]
  have gvb := gva.keep hsb.keep (by omega)
  exact ⟨_, rfl, gvb.cells, fun i hi => by rw [hsb.old i (by omega), olda i hi], by omega, by omega, by omega, gvb.le (by omega)⟩

structure CouIn (h : AHeap) (v r1 : Value) (S : MB) (u : Nat → Int) : Prop where
  cou : CouR h r1 S u
  b1 : ∀ x m c, r1 = .slice (some x) m c → x.block < h.next ∧ NeB v x.block
def cosC (l : List (Nat → Int)) (R1 : Nat → Value) (k j : Nat) : Value := if j = 0 then .int .i64 ((l.getD k fun _ => 0) 0) else R1 k
structure CosG (B : Nat) (h : AHeap) (v : Value) (S : MB) (l : List (Nat → Int)) (R1 : Nat → Value) : Prop where
  g : GrowC B h v 2 l.length (cosC l R1)
  t : ∀ k, k < l.length → CouIn h v (R1 k) S (l.getD k fun _ => 0)
def CoursesL (h : AHeap) (v : Value) (S : MB) (l : List (Nat → Int)) : Prop := ∃ R1 : Nat → Value, Cells h v 2 l.length (cosC l R1) ∧ ∀ k, k < l.length → CouR h (R1 k) S (l.getD k fun _ => 0)
theorem CoursesL.mono {g : AHeap} {v : Value} {S : MB} {l : List (Nat → Int)} (hc : CoursesL h v S l) (hs : Sub All h g) : CoursesL g v S l := by
  obtain ⟨R, h1, h2⟩ := hc
  exact ⟨R, h1.mono hs, fun k hk => Cells.mono (h2 k hk) hs⟩
theorem CosG.nil {B : Nat} {S : MB} : CosG B h nilS S [] (fun _ => nilS) := ⟨.nil, fun k hk => absurd hk (Nat.not_lt_zero _)⟩
theorem CosG.out {B : Nat} {v : Value} {S : MB} {l : List (Nat → Int)} {R1 : Nat → Value} (ht : CosG B h v S l R1) : CoursesL h v S l := ⟨R1, ht.g.cells, fun k hk => (ht.t k hk).cou⟩
theorem CouIn.old {g : AHeap} {v r1 : Value} {S : MB} {u : Nat → Int} (ht : CouIn h v r1 S u) (ho : ∀ i, i < h.next → NeB v i → g.get i = h.get i) (hn : h.next ≤ g.next) : CouIn g v r1 S u :=
  ⟨cells_at ht.cou fun a k c e hlt => ho _ hlt (ht.b1 a k c e).2, fun x m c e => ⟨by have := (ht.b1 x m c e).1; omega, (ht.b1 x m c e).2⟩⟩
theorem CosG.old {B : Nat} {g : AHeap} {v : Value} {S : MB} {l : List (Nat → Int)} {R1 : Nat → Value} (ht : CosG B h v S l R1) (ho : ∀ i, i < h.next → g.get i = h.get i) (hn : h.next ≤ g.next) : CosG B g v S l R1 :=
  ⟨GrowC.at' ht.g fun a k c e => ho _ (ht.g.block e).2, fun k hk => (ht.t k hk).old (fun i hi _ => ho i hi) hn⟩
theorem CosG.push {B : Nat} {g1 : AHeap} {v r1 : Value} {S : MB} {l : List (Nat → Int)} {R1 : Nat → Value} {u : Nat → Int} (ht : CosG B h v S l R1) (hB : h.floor ≤ B) (hf : h.next + 2 < far) (hBn : B ≤ h.next) (hx : New h g1 (coL (u 0) r1) 0) (hu : CouIn h v r1 S u) (o1 : oneCell r1 = true) (hl : l.length ≤ 5000) :
    ∃ v' g2, appendA 2 32 g1 v (.slice (some ⟨h.next, 0, none⟩) 1 1) = some (v', g2) ∧ CosG B g2 v' S (l ++ [u]) (fun k => if k = l.length then r1 else R1 k) ∧ oneCell v' = true ∧ g2.next = h.next + 2 ∧ g2.floor = h.floor ∧ (∀ i, i < h.next → NeB v i → g2.get i = h.get i) := by
  have hlen : (l ++ [u]).length = l.length + 1 := by simp
  have hg : GrowC B h v 2 l.length (cosC (l ++ [u]) (fun k => if k = l.length then r1 else R1 k)) := growC_congr ht.g fun k j hk hj => by
    have : ¬ k = l.length := by omega
    simp only [cosC, this, if_false]
    rw [List.getD_eq_getElem?_getD, List.getD_eq_getElem?_getD, List.getElem?_append_left hk]
  obtain ⟨g2, e, gv, n2, f2, o2', u2⟩ := grow_push3 (bytes := 32) hg hB hf hBn hx rfl (by simp [coL, allB, o1, one_int]) (fun j hj => by
    have hlast : ((l ++ [u]).getD l.length fun _ => 0) = u := by rw [List.getD_eq_getElem?_getD, List.getElem?_append_right (Nat.le_refl _)]; simp
    simp only [cosC, if_true, hlast]
    rcases j with _ | _ | j
    · rfl
    · rfl
    · omega) (by simp [maxBytes]; omega) (by simp [maxBytes]; omega)
  refine ⟨_, g2, e, ⟨by rw [hlen]; exact gv, fun k hk => ?_⟩, rfl, n2, f2, o2'⟩
  have fresh : ∀ i, i < h.next → NeB (.slice (some ⟨h.next + 1, 0, none⟩) (l.length + 1) unk) i := fun i hi b m c e => by cases e; show i ≠ h.next + 1; omega
  have re : ∀ {a : Value} {w : Nat → Int}, CouIn h v a S w → CouIn g2 (.slice (some ⟨h.next + 1, 0, none⟩) (l.length + 1) unk) a S w := fun {a w} hi => by
    have h1 := hi.old (g := g2) o2' (by omega)
    exact ⟨h1.cou, fun x m c e => ⟨(h1.b1 x m c e).1, fresh _ (hi.b1 x m c e).1⟩⟩
  by_cases c : k = l.length
  · subst c
    have hlast : ((l ++ [u]).getD l.length fun _ => 0) = u := by rw [List.getD_eq_getElem?_getD, List.getElem?_append_right (Nat.le_refl _)]; simp
    simp only [if_true, hlast]
    exact re hu
  · have hk' : k < l.length := by omega
    simp only [c, if_false]
    rw [List.getD_eq_getElem?_getD, List.getElem?_append_left hk', ← List.getD_eq_getElem?_getD]
    exact re (ht.t k hk')
theorem sl_co {x1 : Option Addr} {m1 k1 : Nat} {sp : Int} : buildSl 2 1 [.int .i64 0, .slice none 0 0] [0] h [.agg ⟨coL sp (.slice x1 m1 k1)⟩] = newSlice h (coL sp (.slice x1 m1 k1)) 1 1 0 := by
  unfold buildSl
  have e : Instr.fill (fun i => some (i * 2, 2)) ⟨repl [Value.int .i64 0, .slice none 0 0] 1⟩ ([0].zip [.agg ⟨coL sp (.slice x1 m1 k1)⟩]) = some #[.int .i64 sp, .slice x1 m1 k1] := by
    simp [Instr.fill, Value.cells, repl, app_eq, coL]
  rw [e]
  rfl
def s67 : SCode := (.seq (.ops [⟨(some 1), none, .box (T 0)⟩, ⟨(some 2), none, .mov (.const (.slice none 0 0))⟩]) (.seq (.ops [⟨(some 3), none, .mov (.const (.slice none 0 0))⟩]) (.seq (.seq (.ops [⟨(some 4), none, .mov (.const (.int .i64 (0)))⟩]) (.block 0 (.loop (.seq (.seq (.ops [⟨(some 6), none, .mov (T 4)⟩, ⟨(some 7), none, .loadN 5 (T 1)⟩, ⟨(some 8), none, .call (.func 70) [(T 7)]⟩, ⟨(some 9), none, .int2 .lss (T 6) (T 8)⟩]) (.cond (T 9) .skip (.exit 0))) (.seq (.block 1 (.seq (.ops [⟨(some 12), none, .loadN 5 (T 1)⟩, ⟨(some 13), none, .mov (T 4)⟩, ⟨(some 14), none, .call (.func 69) [(T 12), (T 13)]⟩, ⟨(some 5), none, .alloc [(.int .i64 (0)), (.slice none 0 0)]⟩, ⟨none, none, .store 2 (T 5) (T 14)⟩]) (.seq (.draw [⟨.rd1, ⟨(some 15), none, .loadN 5 (T 1)⟩⟩, ⟨.rd1, ⟨(some 16), none, .loadN 2 (T 5)⟩⟩, ⟨.up, ⟨(some 17), none, .call (.func 85) [(T 15), (T 16)]⟩⟩, ⟨.rd, ⟨(some 18), none, .loadN 5 (T 1)⟩⟩, ⟨.any, ⟨(some 19), none, .call (.func 75) [(T 18)]⟩⟩, ⟨.free, ⟨(some 20), none, .int2 .eql (T 17) (T 19)⟩⟩]) (.cond (T 20) (.ops [⟨(some 21), none, .mov (T 3)⟩, ⟨(some 22), none, .loadN 2 (T 5)⟩, ⟨(some 23), none, .bslice 2 1 [(.int .i64 (0)), (.slice none 0 0)] [0] [(T 22)]⟩, ⟨(some 24), none, .append 2 32 (T 21) (T 23)⟩, ⟨(some 3), none, .mov (T 24)⟩]) .skip)))) (.ops [⟨(some 10), none, .mov (T 4)⟩, ⟨(some 11), none, .int2 .add (T 10) (.const (.int .i64 (1)))⟩, ⟨(some 4), none, .mov (T 11)⟩])))))) (.seq (.ops [⟨(some 25), none, .mov (T 3)⟩, ⟨(some 2), none, .mov (T 25)⟩]) .ret))))
theorem fok67 : FnOk Try.prog 67 26 s67 [.tmp 2] := ⟨Try.f67, _, Try.func67, rfl, Try.ntmps67, by kernel_rfl, by kernel_rfl⟩
set_option maxHeartbeats 1000000 in
theorem truthsRef_c (hn : 300 ≤ n) (hr : h.next + 20000 < far) (hfl : h.floor ≤ h.next) {vv sv : Value} {S : MB} (hy : BeatR h vv sv S) (hG : Good S) :
    ∃ v h', call n (.func (.func 67) #[] #[]) [.agg ⟨beL S vv sv⟩] h = some (v, h') ∧ CoursesL h' v S (refTruths S) ∧ oneCell v = true ∧ (∀ i, i < h.next → h'.get i = h.get i) ∧ h.next ≤ h'.next ∧ h'.next ≤ h.next + 15000 ∧ h'.floor = h.floor := by
  obtain ⟨n, rfl⟩ : ∃ p, n = p + 1 := ⟨n - 1, by omega⟩
  refine call_any0 fok67 rfl rfl (by simp) ?_
  simp only [s67, W_seq, W_ops]
  refine ops_box (cs := beL S vv sv) (by omega) rfl hy.one fun g1 hx1 => ?_
  have n1 := hx1.next
  have f1' := hx1.floor
  have r1 := hx1.row
  have hy1 := hy.mono hx1.sub
  obtain ⟨mp1, mp2⟩ := many_pos hG
  obtain ⟨z0, z1, z3, z5, _⟩ := hG.sizes
  obtain ⟨M, hM⟩ : ∃ M : Nat, (M : Int) = manyS S := ⟨(manyS S).toNat, by omega⟩
  have hM' : refTruths S = refTo S M := by unfold refTruths; rw [← hM]; rfl
  simp only [rn0, rn1, rn2, reduceIte, Nat.reduceEqDiff, Nat.reduceAdd, Nat.reduceMul, Nat.reduceSub, Nat.reduceLeDiff, Nat.reduceLT]
  refine W_loop M (fun k f g ms => (∃ v R1, (∀ i, i < g1.next → g.get i = g1.get i) ∧ g.floor = h.floor ∧ g1.next ≤ g.next ∧ g.next ≤ g1.next + 50 * k ∧ CosG g1.next g v S (refTo S k) R1 ∧ f 3 = v) ∧ ms = [] ∧ f 1 = .pointer (some ⟨h.next, 0, none⟩) ∧ f 4 = .int .i64 (k : Int)) (by simp; omega) ?_ ?_ ?_
  · simp only [rn0, rn1, rn2, reduceIte, Nat.reduceEqDiff, Nat.reduceAdd, Nat.reduceMul, Nat.reduceSub, Nat.reduceLeDiff, Nat.reduceLT, Int.natCast_zero]
    exact ⟨_, _, fun i _ => trivial, by omega, by omega, (by rw [show refTo S 0 = [] from rfl]; exact CosG.nil), rfl⟩
  · rintro k f g ms hk ⟨⟨v, R1, hs, hfg, hup, hnx, ht, p3⟩, rfl, p1, p4⟩
    have hk' : (k : Int) < manyS S := by omega
    have hw : wrapF .i64 ((k : Int) + 1) = ((k + 1 : Nat) : Int) := by rw [wrap_in (by omega) (by omega)]; rfl
    have hyg := hy1.mono (AHeap.subOf hs)
    have rg := r1.mono (AHeap.subOf hs)
    have em := manyR_c (n := n) (h := g) (by omega) (by omega) hyg hG.args (by omega)
    obtain ⟨cw, ga, ea, hca, oa, ua, ma, fa, gwa⟩ := nthG_c (n := n) (h := g) (by omega) (by omega) (by omega) hyg hG (m := k) (by omega)
    have hu := nthU_in (S := S) (m := k) hG
    have tia : CouIn ga v cw S (nthU S k) := ⟨hca, fun x m c e => ⟨(gwa.block e).2, neB_of ht.g (by right; exact (gwa.block e).1)⟩⟩
    obtain ⟨x1, c1, rfl⟩ := ints_slice hca
    simp only [rn0, rn1, rn2, reduceIte, Nat.reduceEqDiff, Nat.reduceAdd, Nat.reduceMul, Nat.reduceSub, Nat.reduceLeDiff, Nat.reduceLT, p1, p3, p4, rg.whole (n := 5) rfl, em, hk', ea]
    refine step_new (vs := coL (nthU S k 0) (.slice x1 S.nv c1)) (by omega) (by omega) rfl (by simp only [rn0, rn1, rn2, reduceIte, Nat.reduceEqDiff, Nat.reduceAdd, Nat.reduceMul, Nat.reduceSub, Nat.reduceLeDiff, Nat.reduceLT]; rfl) rfl rfl rfl fun gb hxb => ?_
    have nb := hxb.next
    have fb := hxb.floor
    have ob : ∀ i, i < g.next → gb.get i = g.get i := fun i hi => by rw [hxb.old i (by omega), oa i hi]
    have tib : CouIn gb v (.slice x1 S.nv c1) S (nthU S k) := tia.old (fun i hi _ => hxb.old i hi) (by omega)
    have htb := ht.old ob (by omega)
    have hyb := hyg.mono (AHeap.subOf ob)
    have rgb := rg.mono (AHeap.subOf ob)
    have wb := hxb.row.whole (n := 2) rfl
    have er := right_c (n := n) (h := gb) (by omega) (by omega) hyb tib.cou hG hu
    have ef := full_c (n := n) (h := gb) (by omega) (by omega) hyb (by omega)
    have hsf := bitsP_full (RightS S (nthU S k)) S.ns
    simp only [rn0, rn1, rn2, reduceIte, Nat.reduceEqDiff, Nat.reduceAdd, Nat.reduceMul, Nat.reduceSub, Nat.reduceLeDiff, Nat.reduceLT]
    refine W_draw All ?_
    by_cases hR : ∀ j, j < S.ns → RightS S (nthU S k) j
    · have e : ((bitsP (RightS S (nthU S k)) S.ns : Nat) : Int) = ((2 ^ S.ns - 1 : Nat) : Int) := by rw [hsf.2 hR]
      simp only [rn0, rn1, rn2, reduceIte, Nat.reduceEqDiff, Nat.reduceAdd, Nat.reduceMul, Nat.reduceSub, Nat.reduceLeDiff, Nat.reduceLT, p1, p3, p4, rgb.whole (n := 5) rfl, wb, hyb.self, er, ef, e, sl_co]
      refine step_slice (by omega) rfl fun gc hxc => ?_
      have nc := hxc.next
      have fc := hxc.floor
      obtain ⟨v', gd, ed, htd, od, nd, fd, oldd⟩ := htb.push (by omega) (by omega) (by omega) hxc tib rfl (Nat.le_trans refTo_len (by omega))
      simp only [rn0, rn1, rn2, reduceIte, Nat.reduceEqDiff, Nat.reduceAdd, Nat.reduceMul, Nat.reduceSub, Nat.reduceLeDiff, Nat.reduceLT, p1, p3, p4, ed, hw]
      have hfin := And.intro (fun i (hi : i < g1.next) => (by rw [oldd i (by omega) (neB_of ht.g (by left; exact hi)), ob i (by omega), hs i hi] : gd.get i = g1.get i)) (And.intro (by omega : gd.floor = h.floor) (And.intro (by omega : g1.next ≤ gd.next) (And.intro (by omega : gd.next ≤ g1.next + 50 * (k + 1)) (And.intro (show CosG g1.next gd v' S (refTo S (k + 1)) _ by rw [refTo_succ, if_pos hR]; exact htd) (rfl : v' = v')))))
      first | exact ⟨⟨v', _, hfin⟩, rfl⟩ | exact ⟨v', _, hfin⟩
    · have e : ¬ ((bitsP (RightS S (nthU S k)) S.ns : Nat) : Int) = ((2 ^ S.ns - 1 : Nat) : Int) := fun e => hR (hsf.1 (by omega))
      simp only [rn0, rn1, rn2, reduceIte, Nat.reduceEqDiff, Nat.reduceAdd, Nat.reduceMul, Nat.reduceSub, Nat.reduceLeDiff, Nat.reduceLT, p1, p3, p4, rgb.whole (n := 5) rfl, wb, hyb.self, er, ef, e, hw]
      have hfin := And.intro (fun i (hi : i < g1.next) => (by rw [ob i (by omega), hs i hi] : gb.get i = g1.get i)) (And.intro (by omega : gb.floor = h.floor) (And.intro (by omega : g1.next ≤ gb.next) (And.intro (by omega : gb.next ≤ g1.next + 50 * (k + 1)) (And.intro (show CosG g1.next gb v S (refTo S (k + 1)) _ by rw [refTo_succ, if_neg hR]; exact htb) (rfl : v = v)))))
      first | exact ⟨⟨v, _, hfin⟩, rfl⟩ | exact ⟨v, _, hfin⟩
  · rintro f g ms ⟨⟨v, R1, hs, hfg, hup, hnx, ht, p3⟩, rfl, p1, p4⟩
    have hyg := hy1.mono (AHeap.subOf hs)
    have rg := r1.mono (AHeap.subOf hs)
    have em := manyR_c (n := n) (h := g) (by omega) (by omega) hyg hG.args (by omega)
    rw [hM] at p4
    simp only [rn0, rn1, rn2, reduceIte, Nat.reduceEqDiff, Nat.reduceAdd, Nat.reduceMul, Nat.reduceSub, Nat.reduceLeDiff, Nat.reduceLT, p1, p3, p4, rg.whole (n := 5) rfl, em, Int.lt_irrefl]
    rw [hM']
    exact ⟨ht.out, ht.g.one, fun i hi => by rw [hs i (by omega), hx1.old i hi], by omega, by omega, by omega⟩

noncomputable def errF (S : MB) (fine : Bool) : Int := open Classical in if faultS S ≠ 0 then faultS S else if fine = false then 2 else if truthsS S = [] then 11 else 0
theorem errF_s {S : MB} : errF S true = errS S := by unfold errF errS; simp
noncomputable def someS (S : MB) (e : Int) : List (Nat → Int) := if e = 0 then refTruths S else []
def s38 : SCode := (.seq (.ops [⟨(some 2), none, .box (T 0)⟩, ⟨(some 4), none, .mov (.const (.slice none 0 0))⟩, ⟨(some 5), none, .mov (.const (.int .i64 (0)))⟩]) (.seq (.seq (.ops [⟨(some 8), none, .loadN 5 (T 2)⟩, ⟨(some 9), none, .call (.func 30) [(T 8)]⟩, ⟨(some 6), none, .mov (T 9)⟩]) (.seq (.ops [⟨(some 10), none, .mov (T 6)⟩, ⟨(some 11), none, .int2 .neq (T 10) (.const (.int .i64 (0)))⟩]) (.cond (T 11) (.seq (.ops [⟨(some 12), none, .mov (T 6)⟩, ⟨(some 4), none, .mov (.const (.slice none 0 0))⟩, ⟨(some 5), none, .mov (T 12)⟩]) .ret) .skip))) (.seq (.seq (.ops [⟨(some 13), none, .mov (T 1)⟩, ⟨(some 14), none, .not (T 13)⟩]) (.cond (T 14) (.seq (.ops [⟨(some 4), none, .mov (.const (.slice none 0 0))⟩, ⟨(some 5), none, .mov (.const (.int .i64 (2)))⟩]) .ret) .skip)) (.seq (.ops [⟨(some 15), none, .loadN 5 (T 2)⟩, ⟨(some 16), none, .call (.func 67) [(T 15)]⟩, ⟨(some 7), none, .mov (T 16)⟩]) (.seq (.seq (.ops [⟨(some 17), none, .mov (T 7)⟩, ⟨(some 18), none, .len (T 17)⟩, ⟨(some 19), none, .int2 .eql (T 18) (.const (.int .i64 (0)))⟩]) (.cond (T 19) (.seq (.ops [⟨(some 4), none, .mov (.const (.slice none 0 0))⟩, ⟨(some 5), none, .mov (.const (.int .i64 (11)))⟩]) .ret) .skip)) (.seq (.ops [⟨(some 20), none, .mov (T 7)⟩, ⟨(some 4), none, .mov (T 20)⟩, ⟨(some 5), none, .mov (.const (.int .i64 (0)))⟩]) .ret))))))
theorem fok38 : FnOk Try.prog 38 21 s38 [.tmp 4, .tmp 5] := ⟨Try.f38, _, Try.func38, rfl, Try.ntmps38, by kernel_rfl, by kernel_rfl⟩
set_option maxHeartbeats 1000000 in
theorem asked_c (hn : 400 ≤ n) (hr : h.next + 30000 < far) (hfl : h.floor ≤ h.next) {vv sv : Value} {S : MB} (hy : BeatR h vv sv S) (hT : ThinS S) (fine : Bool) :
    ∃ l h', call n (.func (.func 38) #[] #[]) [.agg ⟨beL S vv sv⟩, .bool fine] h = some (.tuple ⟨[l, .int .i64 (errF S fine)]⟩, h') ∧ CoursesL h' l S (someS S (errF S fine)) ∧ (∀ i, i < h.next → h'.get i = h.get i) ∧ h.next ≤ h'.next ∧ h'.next ≤ h.next + 15010 ∧ h'.floor = h.floor := by
  obtain ⟨n, rfl⟩ : ∃ p, n = p + 1 := ⟨n - 1, by omega⟩
  suffices hs : ∃ w h', call (n + 1) (.func (.func 38) #[] #[]) [.agg ⟨beL S vv sv⟩, .bool fine] h = some (w, h') ∧ ∃ l, w = .tuple ⟨[l, .int .i64 (errF S fine)]⟩ ∧ CoursesL h' l S (someS S (errF S fine)) ∧ (∀ i, i < h.next → h'.get i = h.get i) ∧ h.next ≤ h'.next ∧ h'.next ≤ h.next + 15010 ∧ h'.floor = h.floor by
    obtain ⟨w, h', e, l, rfl, q⟩ := hs
    exact ⟨l, h', e, q⟩
  have hnil : ∀ (g : AHeap) (e : Int), e ≠ 0 → CoursesL g nilS S (someS S e) := fun g e he => by
    unfold someS
    rw [if_neg he]
    exact CosG.out (B := 0) CosG.nil
  refine call_any0 fok38 rfl rfl (by simp) ?_
  simp only [s38, W_seq, W_ops]
  refine ops_box (cs := beL S vv sv) (by omega) rfl hy.one fun g1 hx1 => ?_
  have n1 := hx1.next
  have f1 := hx1.floor
  have hy1 := hy.mono hx1.sub
  have r1 := hx1.row
  have old1 : ∀ i, i < h.next → g1.get i = h.get i := fun i hi => hx1.old i hi
  have ef := faultL_c (n := n) (h := g1) (by omega) (by omega) hy1 hT
  by_cases hf : faultS S = 0
  case neg =>
    have he : errF S fine = faultS S := by unfold errF; rw [if_pos hf]
    rw [he]
    simp only [rn0, rn1, rn2, reduceIte, Nat.reduceEqDiff, Nat.reduceAdd, Nat.reduceMul, Nat.reduceSub, Nat.reduceLeDiff, Nat.reduceLT, r1.whole (n := 5) rfl, ef, hf]
    exact ⟨_, rfl, _, rfl, hnil _ _ hf, old1, by omega, by omega, by omega⟩
  cases fine with
  | false =>
    have he : errF S false = 2 := by unfold errF; rw [if_neg (by simpa using hf), if_pos rfl]
    rw [he]
    simp only [rn0, rn1, rn2, reduceIte, Nat.reduceEqDiff, Nat.reduceAdd, Nat.reduceMul, Nat.reduceSub, Nat.reduceLeDiff, Nat.reduceLT, r1.whole (n := 5) rfl, ef, hf]
    exact ⟨_, rfl, _, rfl, hnil _ _ (by decide), old1, by omega, by omega, by omega⟩
  | true =>
    have hG := good_of hf
    obtain ⟨v, g2, e2, hc2, o2, old2, u2, m2, f2⟩ := truthsRef_c (n := n) (h := g1) (by omega) (by omega) (by omega) hy1 hG
    have old2' : ∀ i, i < h.next → g2.get i = h.get i := fun i hi => by rw [old2 i (by omega), old1 i hi]
    obtain ⟨R, hR, hR2⟩ := hc2
    by_cases ht : truthsS S = []
    · have he : errF S true = 11 := by unfold errF; rw [if_neg (by simpa using hf), if_neg (by decide), if_pos ht]
      have hz : (refTruths S).length = 0 := by rw [(ref_nil hG).2 ht]; rfl
      have hz' : ((refTruths S).length : Int) = 0 := by omega
      rw [he]
      simp only [rn0, rn1, rn2, reduceIte, Nat.reduceEqDiff, Nat.reduceAdd, Nat.reduceMul, Nat.reduceSub, Nat.reduceLeDiff, Nat.reduceLT, r1.whole (n := 5) rfl, ef, hf, e2, Cells.len hR, hz']
      exact ⟨_, rfl, _, rfl, hnil _ _ (by decide), old2', by omega, by omega, by omega⟩
    · have he : errF S true = 0 := by unfold errF; rw [if_neg (by simpa using hf), if_neg (by decide), if_neg ht]
      have hz : (refTruths S).length ≠ 0 := fun e => ht ((ref_nil hG).1 (List.length_eq_zero_iff.1 e))
      have hz' : ¬ ((refTruths S).length : Int) = 0 := by omega
      rw [he]
      simp only [rn0, rn1, rn2, reduceIte, Nat.reduceEqDiff, Nat.reduceAdd, Nat.reduceMul, Nat.reduceSub, Nat.reduceLeDiff, Nat.reduceLT, r1.whole (n := 5) rfl, ef, hf, e2, Cells.len hR, hz']
      exact ⟨_, rfl, _, rfl, ⟨R, by unfold someS; rw [if_pos rfl]; exact hR, by unfold someS; rw [if_pos rfl]; exact hR2⟩, old2', by omega, by omega, by omega⟩
def s41 : SCode := (.seq (.ops [⟨(some 1), none, .box (T 0)⟩, ⟨(some 2), none, .mov (.const (.slice none 0 0))⟩, ⟨(some 3), none, .mov (.const (.int .i64 (0)))⟩]) (.seq (.ops [⟨(some 4), none, .loadN 5 (T 1)⟩, ⟨(some 5), none, .call (.func 38) [(T 4), (.const (.bool true))]⟩, ⟨(some 6), none, .extract 0 (T 5)⟩, ⟨(some 7), none, .extract 1 (T 5)⟩, ⟨(some 2), none, .mov (T 6)⟩, ⟨(some 3), none, .mov (T 7)⟩]) .ret))
theorem fok41 : FnOk Try.prog 41 8 s41 [.tmp 2, .tmp 3] := ⟨Try.f41, _, Try.func41, rfl, Try.ntmps41, by kernel_rfl, by kernel_rfl⟩
theorem sure_c (hn : 410 ≤ n) (hr : h.next + 30010 < far) (hfl : h.floor ≤ h.next) {vv sv : Value} {S : MB} (hy : BeatR h vv sv S) (hT : ThinS S) :
    ∃ l h', call n (.func (.func 41) #[] #[]) [.agg ⟨beL S vv sv⟩] h = some (.tuple ⟨[l, .int .i64 (errS S)]⟩, h') ∧ CoursesL h' l S (someS S (errS S)) ∧ (∀ i, i < h.next → h'.get i = h.get i) ∧ h.next ≤ h'.next ∧ h'.next ≤ h.next + 15020 ∧ h'.floor = h.floor := by
  obtain ⟨n, rfl⟩ : ∃ p, n = p + 1 := ⟨n - 1, by omega⟩
  suffices hs : ∃ w h', call (n + 1) (.func (.func 41) #[] #[]) [.agg ⟨beL S vv sv⟩] h = some (w, h') ∧ ∃ l, w = .tuple ⟨[l, .int .i64 (errS S)]⟩ ∧ CoursesL h' l S (someS S (errS S)) ∧ (∀ i, i < h.next → h'.get i = h.get i) ∧ h.next ≤ h'.next ∧ h'.next ≤ h.next + 15020 ∧ h'.floor = h.floor by
    obtain ⟨w, h', e, l, rfl, q⟩ := hs
    exact ⟨l, h', e, q⟩
  refine call_any0 fok41 rfl rfl (by simp) ?_
  simp only [s41, W_seq, W_ops]
  refine ops_box (cs := beL S vv sv) (by omega) rfl hy.one fun g1 hx1 => ?_
  have n1 := hx1.next
  have f1 := hx1.floor
  obtain ⟨l, g2, e2, hc2, old2, u2, m2, f2⟩ := asked_c (n := n) (h := g1) (by omega) (by omega) (by omega) (hy.mono hx1.sub) hT true
  rw [errF_s] at e2 hc2
  simp only [rn0, rn1, rn2, reduceIte, Nat.reduceEqDiff, Nat.reduceAdd, Nat.reduceMul, Nat.reduceSub, Nat.reduceLeDiff, Nat.reduceLT, hx1.row.whole (n := 5) rfl, e2, ex0, ex1]
  exact ⟨_, rfl, _, rfl, hc2, fun i hi => by rw [old2 i (by omega), hx1.old i hi], by omega, by omega, by omega⟩
def loK (c : Int) (val : (Nat → Int) → Int) (L : List (Nat → Int)) : Nat → Int
  | 0 => c
  | k + 1 => min (loK c val L k) (val (L.getD k fun _ => 0))
def hiK (c : Int) (val : (Nat → Int) → Int) (L : List (Nat → Int)) : Nat → Int
  | 0 => c
  | k + 1 => max (hiK c val L k) (val (L.getD k fun _ => 0))
theorem le_loK {c b : Int} {val : (Nat → Int) → Int} {L : List (Nat → Int)} : ∀ k, b ≤ loK c val L k ↔ b ≤ c ∧ ∀ i, i < k → b ≤ val (L.getD i fun _ => 0)
  | 0 => ⟨fun h => ⟨h, fun i hi => absurd hi (Nat.not_lt_zero _)⟩, fun h => h.1⟩
  | k + 1 => by
    have ih := le_loK (c := c) (b := b) (val := val) (L := L) k
    constructor
    · intro h
      have h1 : b ≤ loK c val L k := by simp only [loK] at h; omega
      have h2 : b ≤ val (L.getD k fun _ => 0) := by simp only [loK] at h; omega
      refine ⟨(ih.1 h1).1, fun i hi => ?_⟩
      by_cases e : i = k
      · subst e; exact h2
      · exact (ih.1 h1).2 i (by omega)
    · rintro ⟨h1, h2⟩
      have h3 := ih.2 ⟨h1, fun i hi => h2 i (by omega)⟩
      have h4 := h2 k (by omega)
      simp only [loK]
      omega
theorem hiK_le {c b : Int} {val : (Nat → Int) → Int} {L : List (Nat → Int)} : ∀ k, hiK c val L k ≤ b ↔ c ≤ b ∧ ∀ i, i < k → val (L.getD i fun _ => 0) ≤ b
  | 0 => ⟨fun h => ⟨h, fun i hi => absurd hi (Nat.not_lt_zero _)⟩, fun h => h.1⟩
  | k + 1 => by
    have ih := hiK_le (c := c) (b := b) (val := val) (L := L) k
    constructor
    · intro h
      have h1 : hiK c val L k ≤ b := by simp only [hiK] at h; omega
      have h2 : val (L.getD k fun _ => 0) ≤ b := by simp only [hiK] at h; omega
      refine ⟨(ih.1 h1).1, fun i hi => ?_⟩
      by_cases e : i = k
      · subst e; exact h2
      · exact (ih.1 h1).2 i (by omega)
    · rintro ⟨h1, h2⟩
      have h3 := ih.2 ⟨h1, fun i hi => h2 i (by omega)⟩
      have h4 := h2 k (by omega)
      simp only [hiK]
      omega
theorem loK_all {c : Int} {val : (Nat → Int) → Int} {L : List (Nat → Int)} (hL : L ≠ []) (hc : ∀ t, t ∈ L → val t ≤ c) : loK c val L L.length = loN val L := int_ext fun b => by
  rw [le_loK, le_loN hL, all_getD' (p := fun t => b ≤ val t)]
  refine ⟨fun h => h.2, fun h => ⟨?_, h⟩⟩
  obtain ⟨t, ht⟩ := List.exists_mem_of_ne_nil _ hL
  exact Int.le_trans (h t ht) (hc t ht)
theorem hiK_all {c : Int} {val : (Nat → Int) → Int} {L : List (Nat → Int)} (hL : L ≠ []) (hc : ∀ t, t ∈ L → c ≤ val t) : hiK c val L L.length = hiN val L := int_ext' fun b => by
  rw [hiK_le, hiN_le hL, all_getD' (p := fun t => val t ≤ b)]
  refine ⟨fun h => h.2, fun h => ⟨?_, h⟩⟩
  obtain ⟨t, ht⟩ := List.exists_mem_of_ne_nil _ hL
  exact Int.le_trans (hc t ht) (h t ht)
theorem cou_ld {v : Value} {l : List (Nat → Int)} {R : Nat → Value} (hR : Cells h v 2 l.length (cosC l R)) {k : Nat} (hk : k < l.length) : loadAgg 2 h (ptrO v 2 k 0) = some (.agg ⟨coL ((l.getD k fun _ => 0) 0) (R k)⟩) := by
  rw [Cells.ldN hR hk (by omega) (by omega)]; simp [List.range_succ, cosC, coL]
def s46 : SCode := (.seq (.ops [⟨(some 3), none, .box (T 0)⟩, ⟨(some 6), none, .alloc [(.int .i64 (0)), (.int .i64 (0))]⟩]) (.seq (.ops [⟨(some 10), none, .build #[(0, 1), (1, 1)] [(.int .i64 (0)), (.int .i64 (0))] [0, 1] [(.const (.int .i64 (1099511627776))), (.const (.int .i64 (-1)))]⟩, ⟨(some 7), none, .alloc [(.int .i64 (0)), (.int .i64 (0))]⟩, ⟨none, none, .store 2 (T 7) (T 10)⟩]) (.seq (.seq (.ops [⟨(some 8), none, .mov (.const (.int .i64 (0)))⟩]) (.block 0 (.loop (.seq (.seq (.ops [⟨(some 11), none, .mov (T 8)⟩, ⟨(some 12), none, .mov (T 1)⟩, ⟨(some 13), none, .len (T 12)⟩, ⟨(some 14), none, .int2 .lss (T 11) (T 13)⟩]) (.cond (T 14) .skip (.exit 0))) (.seq (.block 1 (.seq (.draw [⟨.rd1, ⟨(some 17), none, .loadN 5 (T 3)⟩⟩, ⟨.free, ⟨(some 18), none, .mov (T 1)⟩⟩, ⟨.free, ⟨(some 19), none, .mov (T 8)⟩⟩, ⟨.free, ⟨(some 20), none, .idxSl 2 (T 18) (T 19)⟩⟩, ⟨.rd1, ⟨(some 21), none, .loadN 2 (T 20)⟩⟩, ⟨.free, ⟨(some 22), none, .mov (T 2)⟩⟩, ⟨.any, ⟨(some 23), none, .call (.func 95) [(T 17), (T 21), (T 22)]⟩⟩, ⟨.free, ⟨(some 9), none, .mov (T 23)⟩⟩]) (.ops [⟨(some 24), none, .fieldAddr 0 (T 7)⟩, ⟨(some 25), none, .load1 (T 24)⟩, ⟨(some 26), none, .mov (T 9)⟩, ⟨(some 27), none, .plain (.call { callee := .builtin .min, args := #[(T 25), (T 26)], argTypes := #[3, 3] }) 3⟩, ⟨(some 28), none, .fieldAddr 1 (T 7)⟩, ⟨(some 29), none, .load1 (T 28)⟩, ⟨(some 30), none, .mov (T 9)⟩, ⟨(some 31), none, .plain (.call { callee := .builtin .max, args := #[(T 29), (T 30)], argTypes := #[3, 3] }) 3⟩, ⟨(some 32), none, .build #[(0, 1), (1, 1)] [(.int .i64 (0)), (.int .i64 (0))] [0, 1] [(T 27), (T 31)]⟩, ⟨none, none, .store 2 (T 7) (T 32)⟩]))) (.ops [⟨(some 15), none, .mov (T 8)⟩, ⟨(some 16), none, .int2 .add (T 15) (.const (.int .i64 (1)))⟩, ⟨(some 8), none, .mov (T 16)⟩])))))) (.seq (.ops [⟨(some 33), none, .loadN 2 (T 7)⟩, ⟨none, none, .store 2 (T 6) (T 33)⟩]) .ret))))
theorem fok46 : FnOk Try.prog 46 34 s46 [.cellN 6 2] := ⟨Try.f46, _, Try.func46, rfl, Try.ntmps46, by kernel_rfl, by kernel_rfl⟩
set_option maxHeartbeats 1000000 in
theorem lossesR_c (hn : 420 ≤ n) (hr : h.next + 100 < far) {vv sv v lv : Value} {S : MB} {L : List (Nat → Int)} {m : Nat} {e : Nat → Int} (hy : BeatR h vv sv S) (hG : Good S) (hc : CoursesL h v S L) (hL : ∀ t, t ∈ L → InU S t) (hlen : L.length ≤ 300) (hl : Ints h lv m e) (hm : m ≤ S.nv) (he : ∀ v, v < m → 0 ≤ e v ∧ e v ≤ 9) :
    call n (.func (.func 46) #[] #[]) [.agg ⟨beL S vv sv⟩, v, lv] h = some (.agg ⟨[.int .i64 (loK 1099511627776 (fun u => lossTo S (whenS u) e m) L L.length), .int .i64 (hiK (-1) (fun u => lossTo S (whenS u) e m) L L.length)]⟩, h) := by
  obtain ⟨n, rfl⟩ : ∃ p, n = p + 1 := ⟨n - 1, by omega⟩
  refine call_plain0 fok46 rfl rfl (by simp) rfl ?_
  have hy := hy.shut
  have hl := Cells.shut hl
  have hc := hc.mono (g := h.shutAll) fun _ _ _ _ _ h => h
  have hr : h.shutAll.next + 100 < far := hr
  have hfl : h.shutAll.floor ≤ h.shutAll.next := Nat.le_refl _
  generalize h.shutAll = h at hy hl hc hr hfl
  obtain ⟨R, hR, hR2⟩ := hc
  generalize hval : (fun u => lossTo S (whenS u) e m) = val
  have hval' : ∀ u, lossTo S (whenS u) e m = val u := fun u => by rw [← hval]
  simp only [s46, W_seq, W_ops]
  refine ops_box (cs := beL S vv sv) (by omega) rfl hy.one fun g0 hx0 => ?_
  have n0 := hx0.next
  have f0 := hx0.floor
  have r0 := hx0.row
  refine ops_alloc (cs := [.int .i64 0, .int .i64 0]) (by omega) rfl fun g1 hx1 => ?_
  have n1 := hx1.next
  have f1 := hx1.floor
  simp only [rn0, rn1, rn2, reduceIte, Nat.reduceEqDiff, Nat.reduceAdd, Nat.reduceMul, Nat.reduceSub, Nat.reduceLeDiff, Nat.reduceLT, build_range]
  refine step_row (cs := [.int .i64 0, .int .i64 0]) (by omega) rfl rfl fun g2 hx2 => ?_
  have n2 := hx2.next
  have f2 := hx2.floor
  simp only [rn0, rn1, rn2, reduceIte, Nat.reduceEqDiff, Nat.reduceAdd, Nat.reduceMul, Nat.reduceSub, Nat.reduceLeDiff, Nat.reduceLT]
  refine step_store (b := g1.next) (off := 0) (vs := [.int .i64 1099511627776, .int .i64 (-1)]) rfl hx2.get (by omega) (by omega) rfl rfl rfl (by simp) fun g3 hs3 => ?_
  rw [splice_all (by rfl)] at hs3
  have n3 := hs3.next
  have f3 := hs3.floor
  have old3 : ∀ i, i < g0.next → g3.get i = g0.get i := fun i hi => by rw [hs3.old i (by omega), hx2.old i (by omega), hx1.old i hi]
  have q1 : g3.get g0.next = some (.row [.int .i64 0, .int .i64 0] true 0) := by rw [hs3.old _ (by omega), hx2.old _ (by omega)]; exact hx1.get
  simp only [rn0, rn1, rn2, reduceIte, Nat.reduceEqDiff, Nat.reduceAdd, Nat.reduceMul, Nat.reduceSub, Nat.reduceLeDiff, Nat.reduceLT]
  refine W_loop L.length (fun k f g ms => ((∀ i, i ≠ g1.next → g.get i = g3.get i) ∧ g.next = g3.next ∧ g.floor = g3.floor ∧ g.get g1.next = some (.row [.int .i64 (loK 1099511627776 val L k), .int .i64 (hiK (-1) val L k)] true 0)) ∧ ms = [] ∧ f 1 = v ∧ f 2 = lv ∧ f 3 = .pointer (some ⟨h.next, 0, none⟩) ∧ f 6 = .pointer (some ⟨g0.next, 0, none⟩) ∧ f 7 = .pointer (some ⟨g1.next, 0, none⟩) ∧ f 8 = .int .i64 (k : Int)) (by simp; omega) ?_ ?_ ?_
  · simp only [rn0, rn1, rn2, reduceIte, Nat.reduceEqDiff, Nat.reduceAdd, Nat.reduceMul, Nat.reduceSub, Nat.reduceLeDiff, Nat.reduceLT, Int.natCast_zero, loK, hiK]
    exact ⟨fun i _ => trivial, hs3.get⟩
  · rintro k f g ms hk ⟨⟨ho, hnx, hfg, hg⟩, rfl, p1, p2, p3, p6, p7, p8⟩
    have hk' : (k : Int) < (L.length : Int) := by omega
    have hwk : wrapF .i64 ((k : Int) + 1) = ((k + 1 : Nat) : Int) := by rw [wrap_in (by omega) (by omega)]; rfl
    have oldg0 : ∀ i, i < g0.next → g.get i = g0.get i := fun i hi => by rw [ho i (by omega), old3 i hi]
    have sg0 : Sub All g0 g := AHeap.subOf oldg0
    have sg : Sub All h g := hx0.sub.trans sg0
    have hRg := hR.mono sg
    have hcg : CouR g (R k) S (L.getD k fun _ => 0) := Cells.mono (hR2 k hk) sg
    have hmem : (L.getD k fun _ => 0) ∈ L := by rw [List.getD_eq_getElem?_getD, List.getElem?_eq_getElem hk]; exact List.getElem_mem hk
    have ew := lossR_c (n := n) (h := g) (by omega) (by omega) (hy.mono sg) hcg (hl.mono sg) hG (hL _ hmem) hm he
    rw [hval'] at ew
    have rg : Row g g1.next _ := ⟨_, _, hg⟩
    have l0 : ([Value.int .i64 (loK 1099511627776 val L k), .int .i64 (hiK (-1) val L k)] : List Value)[0]? = some (.int .i64 (loK 1099511627776 val L k)) := rfl
    have l1 : ([Value.int .i64 (loK 1099511627776 val L k), .int .i64 (hiK (-1) val L k)] : List Value)[1]? = some (.int .i64 (hiK (-1) val L k)) := rfl
    simp only [rn0, rn1, rn2, reduceIte, Nat.reduceEqDiff, Nat.reduceAdd, Nat.reduceMul, Nat.reduceSub, Nat.reduceLeDiff, Nat.reduceLT, p1, p2, p3, p6, p7, p8, Cells.len hR, hk']
    refine W_draw All ?_
    simp only [rn0, rn1, rn2, reduceIte, Nat.reduceEqDiff, Nat.reduceAdd, Nat.reduceMul, Nat.reduceSub, Nat.reduceLeDiff, Nat.reduceLT, p1, p2, p3, p6, p7, p8, (r0.mono sg0).whole (n := 5) rfl, Cells.idx hRg hk, cou_ld hRg hk, ew, rg.ld, Nat.zero_add, l0, l1, valN_tmp, build_range]
    refine step_store (b := g1.next) (off := 0) (vs := [.int .i64 (min (loK 1099511627776 val L k) (val (L.getD k fun _ => 0))), .int .i64 (max (hiK (-1) val L k) (val (L.getD k fun _ => 0)))]) rfl hg (by omega) (by omega) rfl rfl rfl (by simp) fun g4 hs4 => ?_
    rw [splice_all (by rfl)] at hs4
    have n4 := hs4.next
    have f4 := hs4.floor
    simp only [rn0, rn1, rn2, reduceIte, Nat.reduceEqDiff, Nat.reduceAdd, Nat.reduceMul, Nat.reduceSub, Nat.reduceLeDiff, Nat.reduceLT, p1, p2, p3, p6, p7, p8, hwk]
    exact ⟨fun i hi => by rw [hs4.old i hi, ho i hi], by omega, by omega, hs4.get⟩
  · rintro f g ms ⟨⟨ho, hnx, hfg, hg⟩, rfl, p1, p2, p3, p6, p7, p8⟩
    have rg : Row g g1.next _ := ⟨_, _, hg⟩
    simp only [rn0, rn1, rn2, reduceIte, Nat.reduceEqDiff, Nat.reduceAdd, Nat.reduceMul, Nat.reduceSub, Nat.reduceLeDiff, Nat.reduceLT, p1, p2, p3, p6, p7, p8, Cells.len hR, Int.lt_irrefl, rg.whole (n := 2) rfl]
    refine step_store (b := g0.next) (off := 0) (vs := [.int .i64 (loK 1099511627776 val L L.length), .int .i64 (hiK (-1) val L L.length)]) rfl (by rw [ho _ (by omega)]; exact q1) (by omega) (by omega) rfl rfl rfl (by simp) fun g4 hs4 => ?_
    rw [splice_all (by rfl)] at hs4
    simp only [rn0, rn1, rn2, reduceIte, Nat.reduceEqDiff, Nat.reduceAdd, Nat.reduceMul, Nat.reduceSub, Nat.reduceLeDiff, Nat.reduceLT, p6, res_cellN, hs4.row.whole (n := 2) rfl]
end Go.Vm.Bt
