/- Texts of the proofs of this seat, put together: BtC, BtBest, BtV4, VmMapU, BtVerd, BtMod, BtNth, BtTruths, BtRefT, BtDoneR, BtDoneV, BtOnwardL, BtCloser. -/
import Derived.Test.YtjihegbffhhcaaaPk11
import Derived.Test.YtjihegbffhhcaaaRows
import Derived.WalkKit
import Derived.ProofKit
import Derived.OpenShut

namespace Go.Vm.Bt
open Go.Vm.Vat Go.Vm.L2 Go.Proofs Go.ChangeShapes Go.WideShapes Go.ChangeAt Go.RowKit
set_option linter.unusedSimpArgs false
set_option linter.unusedVariables false
set_option maxRecDepth 10000
variable {n : Nat} {h : AHeap}
theorem own : ownKnob Try.prog.godebug = none := by kernel_rfl
theorem mixedOn : Try.prog.follows .mixedOrders = true := by kernel_rfl
theorem namesAll : (Try.prog.funcs.toList.all fun fn => !(fn.name == "runtime.NumGoroutine")) = true := by kernel_rfl
theorem namesFine : NamesFine Try.prog := by
  intro f fn hf
  have h := List.all_eq_true.1 namesAll fn (Array.mem_toList_iff.2 (Array.mem_of_getElem? hf))
  simpa using h
theorem tabOk : ∀ E ∈ BtAwake.tab, ∃ cf, SoundCF Try.prog cf ∧ entryOk cf E = true := by
  have hs := vm_sound namesFine mixedOn BtAwake.quiet 1000
  intro E hE
  refine ⟨_, hs, ?_⟩
  revert E
  simp only [BtAwake.tab, List.forall_mem_cons, List.not_mem_nil, false_implies, implies_true, and_true]
  exact ⟨BtAwake.ok0, BtAwake.ok1, BtAwake.ok2, BtAwake.ok3, BtAwake.ok4, BtAwake.ok5, BtAwake.ok6, BtAwake.ok7, BtAwake.ok8, BtAwake.ok9, BtAwake.ok10, BtAwake.ok11⟩
theorem kOk : KOk Try.prog K := by
  intro f v hK
  unfold K at hK
  split at hK
  · rename_i e
    subst e
    cases hK
    refine ⟨rfl, acallO Try.prog BtAwake.quiet BtAwake.tab 1000, ?_⟩
    have hm := BtAwake.main_ok
    cases hr : acallO Try.prog BtAwake.quiet BtAwake.tab 1000 (.func (.func 24) #[] #[]) [] AHeap.empty with
    | none => rw [hr] at hm; cases hm
    | some vh =>
      obtain ⟨v, h'⟩ := vh
      rw [hr] at hm
      unfold BtAwake.isTrue at hm
      split at hm
      · rename_i e
        cases e
        exact ⟨h', acallO_sound namesFine mixedOn BtAwake.quiet tabOk 1000, rfl⟩
      · cases hm
  · cases hK
theorem sound (n : Nat) : SoundCF Try.prog (call n) := pcall_sound namesFine mixedOn kOk n
theorem laidOk : laidOutB Try.prog = true := by kernel_rfl
theorem mapsOk : mapsRowed Try.prog = true := by kernel_rfl
theorem slicesOk : ((List.range Try.prog.types.size).all fun t => match Try.prog.underlying t with | some (.slice e) => decide (0 < Try.prog.cellsOf e) | _ => true) = true := by kernel_rfl
theorem kids : Kids Try.prog (· < Try.prog.types.size) := kids_rows laidOk mapsOk
theorem tsize : 120 < Try.prog.types.size := of_decide_eq_true (by kernel_rfl)
theorem agg_struct {P : Program} {w : World} {r : Reach} {b : Nat} {t : TypeId} {fs : Array Field} {v : Value} {cs : List Value} (ht : P.underlying t = some (.struct fs)) (ho : Value.okWide P w r b t v) (hc : v.cells.toList = cs) : v = .agg ⟨cs⟩ := by
  unfold Value.okWide at ho
  rw [ht] at ho
  obtain ⟨cs', rfl, _⟩ := ho
  subst hc
  rfl
theorem map_int {φ : Emb} {k : IntKind} {a : Int} : mapV φ (.int k a) = .int k a := by simp [mapV]
theorem stands_beat {w : World} {φ : Emb} {a b c : Int} {u1 u2 vv sv : Value} (h1 : Stands φ h u1 vv) (h2 : Stands φ h u2 sv) : mapV φ (.agg ⟨[.int .i64 a, .int .i64 b, u1, .int .i64 c, u2]⟩) = .agg ⟨[.int .i64 a, .int .i64 b, vv, .int .i64 c, sv]⟩ ∧ okV φ h.next (.agg ⟨[.int .i64 a, .int .i64 b, u1, .int .i64 c, u2]⟩) := by
  refine ⟨?_, ?_⟩
  · simp only [mapV, mapArr, mapL, h1.map, h2.map]
  · simp only [okV, okA, okL, and_true, true_and]
    exact ⟨h1.ok, h2.ok⟩
end Go.Vm.Bt

namespace Go.Vm.Bt
open Go.Proofs Go.Vm.Vat Go.Vm.L2
set_option linter.unusedSimpArgs false
set_option linter.unusedVariables false
set_option maxRecDepth 10000
variable {n : Nat} {h : AHeap}
def enL (S : MB) (c : Nat → Int) : List Value := (List.range S.nv).map fun v => .int .i64 (c v)
theorem enL_len {S : MB} {c : Nat → Int} : (enL S c).length = S.nv := by simp [enL]
theorem enL_one {S : MB} {c : Nat → Int} : allB oneCell (enL S c) = true := by rw [allB_iff]; intro v hv; obtain ⟨i, _, rfl⟩ := List.mem_map.1 hv; rfl
theorem enL_set {S : MB} {c : Nat → Int} {i : Nat} (hi : i < S.nv) {x : Int} : splice (enL S c) i [.int .i64 x] = enL S (setU c i x) := by
  refine map_splice (by simp; omega) (fun j hj hc => ?_) (fun j hj => ?_)
  · simp only [List.length_cons, List.length_nil] at hc
    simp only [setU]
    rw [if_neg (by omega)]
  · simp only [List.length_cons, List.length_nil] at hj
    obtain rfl : j = 0 := by omega
    simp [setU]
theorem enL_ints {S : MB} {c : Nat → Int} {g : AHeap} {b k gr m : Nat} {w : Bool} (hg : g.get b = some (.row (enL S c) w gr)) (hm : m ≤ S.nv) : Ints g (.slice (some ⟨b, 0, none⟩) m k) m c :=
  ⟨_, _, rfl, fun x e => by cases e; rfl, .inr ⟨b, 0, _, _, _, rfl, hg, fun v j hv hj => by
    obtain rfl : j = 0 := by omega
    rw [Nat.zero_add, Nat.mul_one, Nat.add_zero, enL, List.getElem?_map, List.getElem?_range (by omega)]; rfl⟩⟩
theorem append_room {g : AHeap} {b c len cap gr kc : Nat} {cs : List Value} {x : Int} (hg : g.get b = some (.row cs true gr)) (hc : g.get c = some (.row [.int .i64 x] true 0)) (hfl : g.floor ≤ b) (hf : g.next ≤ far) (hl : len < cap) (hcap : cap ≤ 100) (hlen : len < cs.length) :
    ∃ h1, appendA 1 8 g (.slice (some ⟨b, 0, none⟩) len cap) (.slice (some ⟨c, 0, none⟩) 1 kc) = some (.slice (some ⟨b, 0, none⟩) (len + 1) cap, h1) ∧ Set1 g h1 b (splice cs len [.int .i64 x]) gr := by
  obtain ⟨h1, e, hs⟩ := storeRow_run (off := len) (vs := [.int .i64 x]) hg hfl hf rfl (by simp; omega)
  refine ⟨h1, ?_, hs⟩
  have hcl : cellsOfSlice g 1 (.slice (some ⟨c, 0, none⟩) 1 kc) = some [.int .i64 x] := by
    show (bif Nat.beq 1 0 then some [] else match g.get c with
      | some (.row cs _ _) => dropK cs 0 fun r => takeK r (1 * 1) fun l => some l
      | _ => none) = some [.int .i64 x]
    have h10 : Nat.beq 1 0 = false := rfl
    rw [hc, h10, cond_false]
    rfl
  have e1 : Nat.ble ((len + 1) * 8) maxBytes = true := ble_iff.2 (by simp [maxBytes]; omega)
  have e2 : Nat.ble (len + 1) maxBytes = true := ble_iff.2 (by simp [maxBytes]; omega)
  have e3 : Nat.beq (Go.Vm.len [Value.int .i64 x]) (1 * 1) = true := rfl
  have e4 : Nat.ble (len + 1) cap = true := ble_iff.2 (by omega)
  have e5 : Nat.blt cap unk = true := blt_iff.2 (by simp [unk]; omega)
  have e6 : Nat.beq 1 0 = false := rfl
  unfold appendA
  simp only [hcl, e1, e2, e3, e4, e5, Bool.and_self, cond_true]
  unfold appendRoom
  simp only [e6, cond_false, Nat.zero_add, Nat.mul_one, e]
theorem part1 {a b : Int} : partOne 1 (.agg ⟨[.int .i64 a, .int .i64 b]⟩) h = some (.int .i64 b, h) := id rfl
def bndB : Nat → Nat
  | 0 => 4
  | d + 1 => 4 + 10 * (bndB d + 1)
def chooseE (pw po pb pc : Nat) : Value := .func (.func 126) ⟨[]⟩ ⟨[.pointer (some ⟨pw, 0, none⟩), .pointer (some ⟨po, 0, none⟩), .pointer (some ⟨pb, 0, none⟩), .pointer (some ⟨pc, 0, none⟩)]⟩
theorem chooseE_self {pw po pb pc : Nat} : eqV (chooseE pw po pb pc) (chooseE pw po pb pc) = true := by
  simp [chooseE, eqV, eqCell, eqPs, eqP, eqOA]
structure BeS (S : MB) (vv sv tv : Value) (pw po pb pc pe B : Nat) (s : (Nat → Int) × Int) (c : Nat → Int) (g : AHeap) : Prop where
  o : OpS g vv sv tv S
  w : Row g pw (wkL S vv sv tv)
  cl : Row g pc [chooseE pw po pb pc]
  wo : g.get po = some (.row [.int .i64 s.2] true 0)
  be : ∃ bv, g.get pb = some (.row [bv] true 0) ∧ Ints g bv S.nv s.1 ∧ oneCell bv = true ∧ ∀ a k q, bv = .slice (some a) k q → a.block ≠ pe ∧ a.block ≠ po ∧ a.block ≠ pb
  e : g.get pe = some (.row (enL S c) true 0)
  fl : g.floor = B
  ne : pe ≠ po ∧ pe ≠ pb ∧ po ≠ pb ∧ B ≤ pe ∧ B ≤ po ∧ B ≤ pb ∧ pw ≠ pe ∧ pw ≠ po ∧ pw ≠ pb ∧ pc ≠ pe ∧ pc ≠ po ∧ pc ≠ pb
def ApartS (S : MB) (vv sv tv : Value) (x : Nat) : Prop := (0 < S.nv → NeB vv x) ∧ (0 < S.ns → NeB sv x) ∧ NeB tv x
theorem cells_keep {g g' : AHeap} {v : Value} {s m o : Nat} {c : Nat → Nat → Value} (hc : Cells g v s m c) (k : Keep o g g') (hb : 0 < m → NeB v o) : Cells g' v s m c := by
  by_cases h0 : m = 0
  · obtain ⟨a, cap, e, sp, _⟩ := hc
    exact ⟨a, cap, e, sp, .inl h0⟩
  · exact Cells.keep hc k fun a m c e => (hb (by omega) a m c e).symm
theorem OpS.set {g g' : AHeap} {vv sv tv : Value} {S : MB} {b gr : Nat} {cs : List Value} (ho : OpS g vv sv tv S) (hs : Set1 g g' b cs gr) (ha : ApartS S vv sv tv b) : OpS g' vv sv tv S := by
  have k := hs.keep
  exact ⟨ho.good, ho.some, ⟨cells_keep ho.y.v k ha.1, cells_keep ho.y.s k ha.2.1⟩, ho.one, Cells.keep ho.d k fun a m c e => (ha.2.2 a m c e).symm, ho.long⟩
def OkE (S : MB) (i : Nat) (c : Nat → Int) : Prop := (∀ j, j < i → 0 ≤ c j ∧ c j ≤ S.last) ∧ ∀ j, S.nv ≤ j → c j = 0
noncomputable def endsFrom (S : MB) (d i : Nat) (c : Nat → Int) : List (Nat → Int) := enumB (fun _ => 0) (fun _ => S.last) d i c
theorem from_ok {S : MB} {d i : Nat} (hi : i + d = S.nv) {c e : Nat → Int} (hc : OkE S i c) (he : e ∈ endsFrom S d i c) : EndsOk S S.nv e ∧ ∀ j, j < i → e j = c j := by
  obtain ⟨h1, h2⟩ := (enumB_ok _ _ _ _).1 he
  refine ⟨⟨fun v hv => ?_, fun v hv => ?_⟩, fun j hj => h2 j (.inl hj)⟩
  · by_cases c1 : v < i
    · rw [h2 v (.inl c1)]; exact hc.1 v c1
    · exact h1 v (by omega) (by omega)
  · rw [h2 v (.inr (by omega))]; exact hc.2 v hv
theorem from_skip {S : MB} (hG : Good S) (hT : truthsS S ≠ []) {d i : Nat} (hi : i + d = S.nv) {c : Nat → Int} (hc : OkE S i c) {s : (Nat → Int) × Int} (hs : s.2 ≤ wHi S c i) : runL (bestStep S) s (endsFrom S d i c) = (s, true) :=
  best_skip _ s fun e he => by
    obtain ⟨h1, h2⟩ := from_ok hi hc he
    have h3 := wHi_mono hG hT h1 (m := i) (m' := S.nv) (by omega) (Nat.le_refl _)
    rw [wHi_congr hT (e' := c) h2] at h3
    omega
def s126 : SCode := (.seq (.ops [⟨(some 8), none, .loadN 6 (T 1)⟩, ⟨(some 9), none, .mov (T 0)⟩, ⟨(some 10), none, .call (.func 93) [(T 8), (T 9)]⟩, ⟨(some 11), none, .field1 1 (T 10)⟩, ⟨(some 6), none, .mov (T 11)⟩]) (.block 0 (.seq (.ops [⟨(some 27), none, .mov (T 6)⟩, ⟨(some 28), none, .load1 (T 2)⟩, ⟨(some 29), none, .int2 .geq (T 27) (T 28)⟩, ⟨(some 26), none, .mov (T 29)⟩]) (.cond (T 26) .skip (.seq (.ops [⟨(some 31), none, .mov (T 0)⟩, ⟨(some 32), none, .len (T 31)⟩, ⟨(some 33), none, .fieldAddr 0 (T 1)⟩, ⟨(some 34), none, .fieldAddr 2 (T 33)⟩, ⟨(some 35), none, .load1 (T 34)⟩, ⟨(some 36), none, .len (T 35)⟩, ⟨(some 37), none, .int2 .eql (T 32) (T 36)⟩, ⟨(some 30), none, .mov (T 37)⟩]) (.cond (T 30) (.ops [⟨(some 38), none, .mov (T 0)⟩, ⟨(some 39), none, .call (.func 127) [(T 38)]⟩, ⟨(some 40), none, .mov (T 6)⟩, ⟨none, none, .store 1 (T 3) (T 39)⟩, ⟨none, none, .store 1 (T 2) (T 40)⟩]) (.seq (.ops [⟨(some 12), none, .fieldAddr 0 (T 1)⟩, ⟨(some 13), none, .fieldAddr 3 (T 12)⟩, ⟨(some 14), none, .load1 (T 13)⟩, ⟨(some 15), none, .int2 .add (T 14) (.const (.int .i64 (1)))⟩, ⟨(some 16), none, .mov (.const (.int .i64 (0)))⟩]) (.block 1 (.loop (.seq (.ops [⟨(some 17), none, .int2 .lss (T 16) (T 15)⟩]) (.seq (.cond (T 17) .skip (.exit 1)) (.seq (.block 2 (.seq (.ops [⟨(some 18), none, .mov (T 16)⟩, ⟨(some 7), none, .mov (T 18)⟩]) (.draw [⟨.rd, ⟨(some 19), none, .load1 (T 4)⟩⟩, ⟨.free, ⟨(some 20), none, .mov (T 0)⟩⟩, ⟨.free, ⟨(some 21), none, .mov (T 7)⟩⟩, ⟨.up, ⟨(some 22), none, .bslice 1 1 [(.int .i64 (0))] [0] [(T 21)]⟩⟩, ⟨.up, ⟨(some 23), none, .append 1 8 (T 20) (T 22)⟩⟩, ⟨.any, ⟨(some 24), none, .call (T 19) [(T 23)]⟩⟩]))) (.ops [⟨(some 25), none, .int2 .add (T 16) (.const (.int .i64 (1)))⟩, ⟨(some 16), none, .mov (T 25)⟩])))))))))))))
theorem fok126 : FnOk Try.prog 126 41 s126 [] := ⟨Try.f126, _, Try.func126, rfl, Try.ntmps126, by kernel_rfl, by kernel_rfl⟩
set_option maxHeartbeats 2000000 in
theorem chooseE_c {S : MB} {vv sv tv : Value} {pw po pb pc pe B : Nat} (ha : ApartS S vv sv tv pe ∧ ApartS S vv sv tv po ∧ ApartS S vv sv tv pb) :
    ∀ (d i n : Nat) (g : AHeap) (s : (Nat → Int) × Int) (c : Nat → Int), i + d = S.nv → 900 + d ≤ n → BeS S vv sv tv pw po pb pc pe B s c g → OkE S i c → g.next + bndB d + 7000 < far →
      ∃ v g' c', call n (chooseE pw po pb pc) [.slice (some ⟨pe, 0, none⟩) i S.nv] g = some (v, g') ∧ BeS S vv sv tv pw po pb pc pe B (runL (bestStep S) s (endsFrom S d i c)).1 c' g' ∧ (∀ j, j < i ∨ i + d ≤ j → c' j = c j) ∧
        (∀ q, q < g.next → q ≠ pe → q ≠ po → q ≠ pb → g'.get q = g.get q) ∧ g.next ≤ g'.next ∧ g'.next ≤ g.next + bndB d := by
  intro d
  induction d with
  | zero =>
    intro i n g s c hi hn hb hok hr
    obtain ⟨n, rfl⟩ : ∃ p, n = p + 1 := ⟨n - 1, by omega⟩
    have hG := hb.o.good
    have hT := hb.o.some
    obtain ⟨z0, z1, z3, _⟩ := hG.sizes
    obtain ⟨e1, e2, e3, e4, e5, e6, e7, e8, e9, e10, e11, e12⟩ := hb.ne
    obtain rfl : i = S.nv := by omega
    have hle := losses_c (n := n) (h := g) (by omega) (by omega) hb.o (enL_ints (k := S.nv) hb.e (Nat.le_refl _)) (Nat.le_refl _) fun v hv => by have := hok.1 v hv; omega
    have rw1 := hb.w
    have ro : Row g po _ := ⟨_, _, hb.wo⟩
    have hlv := Cells.len hb.o.y.v
    simp only [bndB] at hr ⊢
    suffices hs : ∃ v g', call (n + 1) (chooseE pw po pb pc) [.slice (some ⟨pe, 0, none⟩) S.nv S.nv] g = some (v, g') ∧ ∃ c', BeS S vv sv tv pw po pb pc pe B (runL (bestStep S) s (endsFrom S 0 S.nv c)).1 c' g' ∧ (∀ j, j < S.nv ∨ S.nv + 0 ≤ j → c' j = c j) ∧
        (∀ q, q < g.next → q ≠ pe → q ≠ po → q ≠ pb → g'.get q = g.get q) ∧ g.next ≤ g'.next ∧ g'.next ≤ g.next + 4 by
      obtain ⟨v, g', e, c', h1⟩ := hs
      exact ⟨v, g', c', e, h1⟩
    refine call_any (xs := []) (ys := [.pointer (some ⟨pw, 0, none⟩), .pointer (some ⟨po, 0, none⟩), .pointer (some ⟨pb, 0, none⟩), .pointer (some ⟨pc, 0, none⟩)]) fok126 rfl rfl (by simp) ?_
    by_cases hsk : s.2 ≤ wHi S c S.nv
    · have hrun := from_skip hG hT (d := 0) (by omega) hok hsk
      simp only [rn0, rn1, rn2, rn3, rn4, rn5, rn6, rn7, rn8, if_true, if_false, Nat.le_refl, true_and, and_true, decide_true, decide_false, Bool.not_true, Bool.not_false, reduceIte, Nat.reduceEqDiff, Nat.reduceAdd, Nat.reduceMul, Nat.reduceSub, Nat.reduceLeDiff, Nat.reduceLT, s126, List.cons_append, List.nil_append, rw1.whole (n := 6) rfl, hle, part1, ro.ld, Nat.zero_add, List.getElem?_cons_zero, List.getElem?_cons_succ, hsk]
      rw [hrun]
      refine ⟨_, rfl, c, hb, ?_⟩
      first | exact ⟨fun _ _ => rfl, fun _ _ _ _ _ => trivial, Nat.le_add_right _ _⟩ | exact ⟨fun _ _ => rfl, fun _ _ _ _ _ => rfl, Nat.le_refl _, by omega⟩
    · obtain ⟨cv, g1, e1c, hic, oc, oldc, uc, mc, fc, bc⟩ := clone_c (n := n) (h := g) (v := .slice (some ⟨pe, 0, none⟩) S.nv S.nv) (by omega) (by omega) (enL_ints hb.e (Nat.le_refl _)) (by omega)
      have hrun : (runL (bestStep S) s (endsFrom S 0 S.nv c)).1 = (c, wHi S c S.nv) := by
        simp only [endsFrom, enumB, runL, bestStep]
        rw [if_pos (show wHi S c S.nv < s.2 by omega)]; rfl
      obtain ⟨bv, b1, b2, b3, b4⟩ := hb.be
      have ltb := AHeap.lt_of_get b1
      have lto := AHeap.lt_of_get hb.wo
      have lte := AHeap.lt_of_get hb.e
      have hfb := hb.fl
      simp only [rn0, rn1, rn2, rn3, rn4, rn5, rn6, rn7, rn8, if_true, if_false, Nat.le_refl, true_and, and_true, decide_true, decide_false, Bool.not_true, Bool.not_false, reduceIte, Nat.reduceEqDiff, Nat.reduceAdd, Nat.reduceMul, Nat.reduceSub, Nat.reduceLeDiff, Nat.reduceLT, s126, List.cons_append, List.nil_append, rw1.whole (n := 6) rfl, rw1.ld, wkg, hlv, len_slice, hle, part1, ro.ld, Nat.zero_add, List.getElem?_cons_zero, List.getElem?_cons_succ, hsk, e1c]
      refine step_store (b := pb) (off := 0) (vs := [cv]) rfl (by rw [oldc _ ltb]; exact b1) (by omega) (by omega) (cells1 oc) (by simp [allB, oc]) rfl (by simp) fun g2 hs2 => ?_
      rw [splice1] at hs2
      have n2 := hs2.next
      have f2 := hs2.floor
      simp only [rn0, rn1, rn2, rn3, rn4, rn5, rn6, rn7, rn8, if_true, if_false, Nat.le_refl, true_and, and_true, decide_true, decide_false, Bool.not_true, Bool.not_false, reduceIte, Nat.reduceEqDiff, Nat.reduceAdd, Nat.reduceMul, Nat.reduceSub, Nat.reduceLeDiff, Nat.reduceLT]
      refine step_store (b := po) (off := 0) (vs := [.int .i64 (wHi S c S.nv)]) rfl (by rw [hs2.old _ e3, oldc _ lto]; exact hb.wo) (by omega) (by omega) rfl rfl rfl (by simp) fun g3 hs3 => ?_
      rw [splice1] at hs3
      have n3 := hs3.next
      have f3 := hs3.floor
      simp only [rn0, rn1, rn2, rn3, rn4, rn5, rn6, rn7, rn8, if_true, if_false, Nat.le_refl, true_and, and_true, decide_true, decide_false, Bool.not_true, Bool.not_false, reduceIte, Nat.reduceEqDiff, Nat.reduceAdd, Nat.reduceMul, Nat.reduceSub, Nat.reduceLeDiff, Nat.reduceLT]
      rw [hrun]
      have old3 : ∀ q, q < g.next → q ≠ pe → q ≠ po → q ≠ pb → g3.get q = g.get q := fun q hq _ h2 h3 => by rw [hs3.old q h2, hs2.old q h3, oldc q hq]
      have rmo : ∀ {q : Nat} {cs : List Value}, Row g q cs → q ≠ pe → q ≠ po → q ≠ pb → Row g3 q cs := fun {q cs} hq h1 h2 h3 => by
        obtain ⟨w, gr, e⟩ := hq
        exact ⟨w, gr, by rw [old3 q (AHeap.lt_of_get e) h1 h2 h3]; exact e⟩
      have ho1 := hb.o.mono (AHeap.subOf oldc)
      refine ⟨_, rfl, c, ⟨(ho1.set hs2 ha.2.2).set hs3 ha.2.1, rmo hb.w e7 e8 e9, rmo hb.cl e10 e11 e12, hs3.get, ⟨cv, by rw [hs3.old _ e3.symm]; exact hs2.get, ?_, oc, fun a k q e => ?_⟩, ?_, by omega, hb.ne⟩, fun _ _ => rfl, old3, by omega, by omega⟩
      · have q2 : Ints g2 cv S.nv c := Cells.keep hic hs2.keep fun a k q e => by have := (bc a k q e).1; omega
        exact Cells.keep q2 hs3.keep fun a k q e => by have := (bc a k q e).1; omega
      · have := (bc a k q e).1
        omega
      · rw [hs3.old _ e1, hs2.old _ e2, oldc _ lte]; exact hb.e
  | succ d ih =>
    intro i n g s c hi hn hb hok hr
    obtain ⟨n, rfl⟩ : ∃ p, n = p + 1 := ⟨n - 1, by omega⟩
    have hG := hb.o.good
    have hT := hb.o.some
    obtain ⟨z0, z1, z3, _⟩ := hG.sizes
    obtain ⟨e1, e2, e3, e4, e5, e6, e7, e8, e9, e10, e11, e12⟩ := hb.ne
    have hk : i < S.nv := by omega
    have hin : ¬ (i : Int) = (S.nv : Int) := by omega
    have hle := losses_c (n := n) (h := g) (by omega) (by omega) hb.o (enL_ints (k := S.nv) hb.e (m := i) (by omega)) (by omega) fun v hv => by have := hok.1 v hv; omega
    have rw1 := hb.w
    have ro : Row g po _ := ⟨_, _, hb.wo⟩
    have hlv := Cells.len hb.o.y.v
    have hbd : bndB (d + 1) = 4 + 10 * (bndB d + 1) := rfl
    obtain ⟨X, hX⟩ : ∃ X, X = bndB d + 1 := ⟨_, rfl⟩
    rw [hbd, ← hX] at hr ⊢
    suffices hs : ∃ v g', call (n + 1) (chooseE pw po pb pc) [.slice (some ⟨pe, 0, none⟩) i S.nv] g = some (v, g') ∧ ∃ c', BeS S vv sv tv pw po pb pc pe B (runL (bestStep S) s (endsFrom S (d + 1) i c)).1 c' g' ∧ (∀ j, j < i ∨ i + (d + 1) ≤ j → c' j = c j) ∧
        (∀ q, q < g.next → q ≠ pe → q ≠ po → q ≠ pb → g'.get q = g.get q) ∧ g.next ≤ g'.next ∧ g'.next ≤ g.next + (4 + 10 * X) by
      obtain ⟨v, g', e, c', h1⟩ := hs
      exact ⟨v, g', c', e, h1⟩
    refine call_any (xs := []) (ys := [.pointer (some ⟨pw, 0, none⟩), .pointer (some ⟨po, 0, none⟩), .pointer (some ⟨pb, 0, none⟩), .pointer (some ⟨pc, 0, none⟩)]) fok126 rfl rfl (by simp) ?_
    by_cases hsk : s.2 ≤ wHi S c i
    · have hrun := from_skip hG hT (d := d + 1) hi hok hsk
      simp only [rn0, rn1, rn2, rn3, rn4, rn5, rn6, rn7, rn8, if_true, if_false, Nat.le_refl, true_and, and_true, decide_true, decide_false, Bool.not_true, Bool.not_false, reduceIte, Nat.reduceEqDiff, Nat.reduceAdd, Nat.reduceMul, Nat.reduceSub, Nat.reduceLeDiff, Nat.reduceLT, s126, List.cons_append, List.nil_append, rw1.whole (n := 6) rfl, hle, part1, ro.ld, Nat.zero_add, List.getElem?_cons_zero, List.getElem?_cons_succ, hsk]
      rw [hrun]
      refine ⟨_, rfl, c, hb, ?_⟩
      first | exact ⟨fun _ _ => rfl, fun _ _ _ _ _ => trivial, Nat.le_add_right _ _⟩ | exact ⟨fun _ _ => rfl, fun _ _ _ _ _ => rfl, Nat.le_refl _, by omega⟩
    let part : Nat → List (Nat → Int) := fun k => endsFrom S d (i + 1) fun j => if j = i then 0 + (k : Int) else c j
    have hen : endsFrom S (d + 1) i c = (List.range (S.last - 0 + 1).toNat).flatMap part := rfl
    obtain ⟨m, hm, hm2⟩ : ∃ m : Nat, (m : Int) = S.last + 1 ∧ (S.last - 0 + 1).toNat = m := ⟨(S.last - 0 + 1).toNat, by omega, rfl⟩
    rw [hm2] at hen
    rw [hen]
    have hwl : wrapF .i64 (S.last + 1) = (m : Int) := by rw [wrap_in (by omega) (by omega)]; omega
    simp only [rn0, rn1, rn2, rn3, rn4, rn5, rn6, rn7, rn8, if_true, if_false, Nat.le_refl, true_and, and_true, decide_true, decide_false, Bool.not_true, Bool.not_false, reduceIte, Nat.reduceEqDiff, Nat.reduceAdd, Nat.reduceMul, Nat.reduceSub, Nat.reduceLeDiff, Nat.reduceLT, s126, List.cons_append, List.nil_append, rw1.whole (n := 6) rfl, rw1.ld, wkg, hlv, len_slice, hin, hle, part1, ro.ld, Nat.zero_add, List.getElem?_cons_zero, List.getElem?_cons_succ, hsk, hwl]
    refine W_loop m (fun k f ga ms => (∃ c', BeS S vv sv tv pw po pb pc pe B (runL (bestStep S) s ((List.range k).flatMap part)).1 c' ga ∧ (∀ j, j < i ∨ i + (d + 1) ≤ j → c' j = c j) ∧ (∀ q, q < g.next → q ≠ pe → q ≠ po → q ≠ pb → ga.get q = g.get q) ∧ g.next ≤ ga.next ∧ ga.next ≤ g.next + X * k) ∧ ms = [] ∧
      f 0 = .slice (some ⟨pe, 0, none⟩) i S.nv ∧ f 4 = .pointer (some ⟨pc, 0, none⟩) ∧ f 15 = .int .i64 (m : Int) ∧ f 16 = .int .i64 (k : Int)) (by simp; omega) ?_ ?_ ?_
    · simp only [rn0, rn1, rn2, rn3, rn4, rn5, rn6, rn7, rn8, if_true, if_false, Nat.le_refl, true_and, and_true, decide_true, decide_false, Bool.not_true, Bool.not_false, reduceIte, Nat.reduceEqDiff, Nat.reduceAdd, Nat.reduceMul, Nat.reduceSub, Nat.reduceLeDiff, Nat.reduceLT, Int.natCast_zero]
      have hfin : ∃ c', BeS S vv sv tv pw po pb pc pe B (runL (bestStep S) s ((List.range 0).flatMap part)).1 c' g ∧ (∀ j, j < i ∨ i + (d + 1) ≤ j → c' j = c j) ∧ (∀ q, q < g.next → q ≠ pe → q ≠ po → q ≠ pb → g.get q = g.get q) ∧ g.next ≤ g.next ∧ g.next ≤ g.next + X * 0 := ⟨c, hb, fun _ _ => rfl, fun _ _ _ _ _ => rfl, Nat.le_refl _, by omega⟩
      first | exact ⟨by simpa using hfin, rfl⟩ | exact ⟨hfin, rfl⟩ | simpa using hfin
    · rintro k f ga ms hkm ⟨⟨c1, hba, hc1, olda, ua, na⟩, rfl, p0, p4, p15, p16⟩
      have hkm' : (k : Int) < (m : Int) := by omega
      have hw : wrapF .i64 ((k : Int) + 1) = ((k + 1 : Nat) : Int) := by rw [wrap_in (by omega) (by omega)]; rfl
      have hkb : X * (k + 1) ≤ X * 10 := Nat.mul_le_mul_left _ (by omega)
      have hks : X * (k + 1) = X * k + X := Nat.mul_succ _ _
      have hq9 : ga.next < far := by omega
      have hfa := hba.fl
      have lte := AHeap.lt_of_get hba.e
      have lto := AHeap.lt_of_get hba.wo
      obtain ⟨bv, b1, b2, b3, b4⟩ := hba.be
      have ltb := AHeap.lt_of_get b1
      simp only [rn0, rn1, rn2, rn3, rn4, rn5, rn6, rn7, rn8, if_true, if_false, Nat.le_refl, true_and, and_true, decide_true, decide_false, Bool.not_true, Bool.not_false, reduceIte, Nat.reduceEqDiff, Nat.reduceAdd, Nat.reduceMul, Nat.reduceSub, Nat.reduceLeDiff, Nat.reduceLT, p0, p4, p15, p16, hkm']
      refine W_draw (fun x => ¬ x = pe) ?_
      have e10' : ¬ pc = pe := e10
      simp only [rn0, rn1, rn2, rn3, rn4, rn5, rn6, rn7, rn8, if_true, if_false, Nat.le_refl, true_and, and_true, decide_true, decide_false, Bool.not_true, Bool.not_false, reduceIte, Nat.reduceEqDiff, Nat.reduceAdd, Nat.reduceMul, Nat.reduceSub, Nat.reduceLeDiff, Nat.reduceLT, rd_1, rd_ne, e10', not_false_eq_true, p0, p4, p15, p16, hba.cl.ld, Nat.zero_add, List.getElem?_cons_zero, sl_int]
      refine ⟨chooseE_self, ?_⟩
      refine up_slice (by omega) rfl (fun g5 hx i cs w gr _ e => hx.sub i cs w gr trivial e) fun g5 hx5 => ?_
      have n5 := hx5.next
      have f5 := hx5.floor
      have he5 : g5.get pe = some (.row (enL S c1) true 0) := by rw [hx5.old _ lte]; exact hba.e
      obtain ⟨g6, e6, hs6⟩ := append_room (g := g5) (b := pe) (c := ga.next) (len := i) (cap := S.nv) (kc := 1) he5 hx5.get (by omega) (by omega) hk (by omega) (by rw [enL_len]; exact hk)
      rw [enL_set hk] at hs6
      have n6 := hs6.next
      have f6 := hs6.floor
      have old6 : ∀ q, q < ga.next → q ≠ pe → g6.get q = ga.get q := fun q hq h1 => by rw [hs6.old q h1, hx5.old q hq]
      have rmo : ∀ {q : Nat} {cs : List Value}, Row ga q cs → q ≠ pe → Row g6 q cs := fun {q cs} hq h1 => by
        obtain ⟨w, gr, e⟩ := hq
        exact ⟨w, gr, by rw [old6 q (AHeap.lt_of_get e) h1]; exact e⟩
      have hb6 : BeS S vv sv tv pw po pb pc pe B (runL (bestStep S) s ((List.range k).flatMap part)).1 (setU c1 i (k : Int)) g6 := by
        refine ⟨(hba.o.mono hx5.sub).set hs6 ha.1, rmo hba.w e7, rmo hba.cl e10, by rw [old6 _ lto e1.symm]; exact hba.wo, ⟨bv, by rw [old6 _ ltb e2.symm]; exact b1, Cells.keep (Cells.mono b2 hx5.sub) hs6.keep fun a k q e => (b4 a k q e).1, b3, b4⟩, hs6.get, by omega, hb.ne⟩
      have hok6 : OkE S (i + 1) (setU c1 i (k : Int)) := by
        refine ⟨fun j hj => ?_, fun j hj => ?_⟩
        · by_cases ej : j = i
          · subst ej; simp only [setU, if_true]; omega
          · simp only [setU, ej, if_false]; rw [hc1 j (by omega)]; exact hok.1 j (by omega)
        · have ej : ¬ j = i := by omega
          simp only [setU, ej, if_false]; rw [hc1 j (by omega)]; exact hok.2 j hj
      have hcg : endsFrom S d (i + 1) (setU c1 i (k : Int)) = part k := enumB_congr d (i + 1) _ _ fun j hj => by
        by_cases ej : j = i
        · simp [ej, setU]
        · simp only [setU, ej, if_false]; exact hc1 j (by omega)
      obtain ⟨v7, g7, c7, e7c, hb7, hc7, old7, u7, m7⟩ := ih (i + 1) n g6 _ _ (by omega) (by omega) hb6 hok6 (by omega)
      rw [hcg] at hb7
      have hrun : runL (bestStep S) s ((List.range (k + 1)).flatMap part) = runL (bestStep S) (runL (bestStep S) s ((List.range k).flatMap part)).1 (part k) := by
        rw [List.range_succ, List.flatMap_append, runL_append, bestRun_go, if_pos rfl]; simp
      simp only [rn0, rn1, rn2, rn3, rn4, rn5, rn6, rn7, rn8, if_true, if_false, Nat.le_refl, true_and, and_true, decide_true, decide_false, Bool.not_true, Bool.not_false, reduceIte, Nat.reduceEqDiff, Nat.reduceAdd, Nat.reduceMul, Nat.reduceSub, Nat.reduceLeDiff, Nat.reduceLT, rd_1, rd_ne, e10', not_false_eq_true, p0, p4, p15, p16, e6, e7c, hw]
      rw [hrun]
      have hfin : ∃ c', BeS S vv sv tv pw po pb pc pe B (runL (bestStep S) (runL (bestStep S) s ((List.range k).flatMap part)).1 (part k)).1 c' g7 ∧ (∀ j, j < i ∨ i + (d + 1) ≤ j → c' j = c j) ∧ (∀ q, q < g.next → q ≠ pe → q ≠ po → q ≠ pb → g7.get q = g.get q) ∧ g.next ≤ g7.next ∧ g7.next ≤ g.next + X * (k + 1) := by
        refine ⟨c7, hb7, fun j hj => ?_, fun q hq h1 h2 h3 => by rw [old7 q (by omega) h1 h2 h3, old6 q (by omega) h1, olda q hq h1 h2 h3], by omega, by omega⟩
        rw [hc7 j (by omega)]; simp only [setU]; rw [if_neg (by omega)]; exact hc1 j hj
      exact ⟨⟨by omega, fun q cs w gr h1 e => by rw [old6 q (AHeap.lt_of_get e) h1]; exact e⟩, by omega, hfin⟩
    · rintro f ga ms ⟨⟨c1, hba, hc1, olda, ua, na⟩, rfl, p0, p4, p15, p16⟩
      have hkb : X * m ≤ X * 10 := Nat.mul_le_mul_left _ (by omega)
      simp only [rn0, rn1, rn2, rn3, rn4, rn5, rn6, rn7, rn8, if_true, if_false, Nat.le_refl, true_and, and_true, decide_true, decide_false, Bool.not_true, Bool.not_false, reduceIte, Nat.reduceEqDiff, Nat.reduceAdd, Nat.reduceMul, Nat.reduceSub, Nat.reduceLeDiff, Nat.reduceLT, p0, p4, p15, p16, Int.lt_irrefl]
      exact ⟨_, rfl, c1, hba, hc1, olda, ua, by omega⟩
end Go.Vm.Bt

namespace Go.Vm.Bt
open Go.Proofs Go.Vm.Vat Go.Vm.L2
set_option linter.unusedSimpArgs false
set_option linter.unusedVariables false
set_option maxRecDepth 10000
variable {n : Nat} {h : AHeap}
theorem neB_low {v : Value} {s m : Nat} {c : Nat → Nat → Value} (hc : Cells h v s m c) {x : Nat} (hx : h.next ≤ x) : 0 < m → NeB v x := fun hm a k q e => by
  have := cells_lt hc hm e
  omega
theorem res_cc {a b : Nat} {f : Go.Vm.Fr} : resV f h [.cell1 a, .cell1 b] = match loadCell h (f a) with
  | some x => (match loadCell h (f b) with
    | some y => some (.tuple ⟨[x, y]⟩)
    | none => none)
  | none => none := by
  simp only [resV, resL, res1]
  cases loadCell h (f a) <;> cases loadCell h (f b) <;> rfl
def s96 : SCode := (.seq (.ops [⟨(some 1), none, .box (T 0)⟩, ⟨(some 2), none, .alloc [(.slice none 0 0)]⟩, ⟨(some 3), none, .alloc [(.int .i64 (0))]⟩]) (.seq (.ops [⟨(some 5), none, .fieldAddr 0 (T 1)⟩, ⟨(some 6), none, .fieldAddr 2 (T 5)⟩, ⟨(some 7), none, .load1 (T 6)⟩, ⟨(some 8), none, .len (T 7)⟩, ⟨(some 9), none, .mkslice 1 8 [(.int .i64 (0))] (T 8) (T 8)⟩, ⟨none, none, .store 1 (T 2) (T 9)⟩]) (.seq (.ops [⟨(some 10), none, .loadN 6 (T 1)⟩, ⟨(some 11), none, .load1 (T 2)⟩, ⟨(some 12), none, .call (.func 93) [(T 10), (T 11)]⟩, ⟨(some 13), none, .field1 1 (T 12)⟩, ⟨none, none, .store 1 (T 3) (T 13)⟩]) (.seq (.ops [⟨(some 4), none, .alloc [.nilFunc]⟩]) (.seq (.ops [⟨(some 14), none, .mkfunc 126 [] [(T 1), (T 3), (T 2), (T 4)]⟩, ⟨none, none, .store 1 (T 4) (T 14)⟩]) (.seq (.draw [⟨.rd, ⟨(some 15), none, .load1 (T 4)⟩⟩, ⟨.free, ⟨(some 16), none, .fieldAddr 0 (T 1)⟩⟩, ⟨.free, ⟨(some 17), none, .fieldAddr 2 (T 16)⟩⟩, ⟨.rd1, ⟨(some 18), none, .load1 (T 17)⟩⟩, ⟨.free, ⟨(some 19), none, .len (T 18)⟩⟩, ⟨.up, ⟨(some 20), none, .mkslice 1 8 [(.int .i64 (0))] (.const (.int .i64 (0))) (T 19)⟩⟩, ⟨.any, ⟨(some 21), none, .call (T 15) [(T 20)]⟩⟩]) (.seq (.draw [⟨.rd1, ⟨(some 22), none, .load1 (T 2)⟩⟩, ⟨.rd, ⟨(some 23), none, .load1 (T 3)⟩⟩, ⟨.up, ⟨none, none, .store 1 (T 2) (T 22)⟩⟩, ⟨.any, ⟨none, none, .store 1 (T 3) (T 23)⟩⟩]) .ret)))))))
theorem fok96 : FnOk Try.prog 96 24 s96 [.cell1 2, .cell1 3] := ⟨Try.f96, _, Try.func96, rfl, Try.ntmps96, by kernel_rfl, by kernel_rfl⟩
set_option maxHeartbeats 1000000 in
theorem bestE_c (hn : 1000 ≤ n) (hr : h.next + 14000 < far) (hfl : h.floor ≤ h.next) {vv sv tv : Value} {S : MB} (ho : OpS h vv sv tv S) :
    ∃ bv h', call n (.func (.func 96) #[] #[]) [.agg ⟨wkL S vv sv tv⟩] h = some (.tuple ⟨[bv, .int .i64 (bestS S).2]⟩, h') ∧ Ints h' bv S.nv (bestS S).1 ∧ oneCell bv = true ∧ (∀ i, i < h.next → h'.get i = h.get i) ∧ h.next ≤ h'.next ∧ h'.next ≤ h.next + 6000 ∧ h'.floor = h.floor := by
  obtain ⟨n, rfl⟩ : ∃ p, n = p + 1 := ⟨n - 1, by omega⟩
  have hG := ho.good
  have hT := ho.some
  obtain ⟨z0, z1, z3, _⟩ := hG.sizes
  suffices hs : ∃ v h', call (n + 1) (.func (.func 96) #[] #[]) [.agg ⟨wkL S vv sv tv⟩] h = some (v, h') ∧ ∃ bv, v = .tuple ⟨[bv, .int .i64 (bestS S).2]⟩ ∧ Ints h' bv S.nv (bestS S).1 ∧ oneCell bv = true ∧ (∀ i, i < h.next → h'.get i = h.get i) ∧ h.next ≤ h'.next ∧ h'.next ≤ h.next + 6000 ∧ h'.floor = h.floor by
    obtain ⟨v, h', e, bv, rfl, q⟩ := hs
    exact ⟨bv, h', e, q⟩
  refine call_any0 fok96 rfl rfl (by simp) ?_
  simp only [s96, W_seq, W_ops]
  refine ops_box (cs := wkL S vv sv tv) (by omega) rfl (wk_one ho.y ho.one) fun g1 hx1 => ?_
  have n1 := hx1.next
  have f1 := hx1.floor
  refine ops_alloc (cs := [nilS]) (by omega) rfl fun g2 hx2 => ?_
  have n2 := hx2.next
  have f2 := hx2.floor
  refine ops_alloc (cs := [.int .i64 0]) (by omega) rfl fun g3 hx3 => ?_
  have n3 := hx3.next
  have f3 := hx3.floor
  have hmk : ∀ g : AHeap, makeSl 1 8 [.int .i64 0] g (.int .i64 (S.nv : Int)) (.int .i64 (S.nv : Int)) = newSlice g (enL S fun _ => 0) S.nv S.nv 0 := fun g => by
    rw [make_intsL (by omega), repl_one]
    congr 1
    unfold enL
    apply List.ext_getElem?
    intro i
    by_cases hi : i < S.nv
    · rw [List.getElem?_replicate, if_pos hi, List.getElem?_map, List.getElem?_range hi]; rfl
    · rw [List.getElem?_eq_none (by simp; omega), List.getElem?_eq_none (by simp; omega)]
  have hmk0 : ∀ g : AHeap, makeSl 1 8 [.int .i64 0] g (.int .i64 0) (.int .i64 (S.nv : Int)) = newSlice g (enL S fun _ => 0) 0 S.nv 0 := fun g => by
    show (bif Nat.ble 0 S.nv && Nat.ble (S.nv * 8) maxBytes && Nat.ble S.nv maxBytes then newSlice g (repl [.int .i64 0] S.nv) 0 S.nv 0 else none) = _
    have e1 : Nat.ble 0 S.nv = true := ble_iff.2 (Nat.zero_le _)
    have e2 : Nat.ble (S.nv * 8) maxBytes = true := ble_iff.2 (by simp [maxBytes]; omega)
    have e3 : Nat.ble S.nv maxBytes = true := ble_iff.2 (by simp [maxBytes]; omega)
    rw [e1, e2, e3, repl_one]
    show newSlice g _ _ _ _ = _
    congr 1
    unfold enL
    apply List.ext_getElem?
    intro i
    by_cases hi : i < S.nv
    · rw [List.getElem?_replicate, if_pos hi, List.getElem?_map, List.getElem?_range hi]; rfl
    · rw [List.getElem?_eq_none (by simp; omega), List.getElem?_eq_none (by simp; omega)]
  have r1 := (hx1.row.mono hx2.sub).mono hx3.sub
  have hlv := Cells.len ho.y.v
  simp only [rn0, rn1, rn2, rn3, rn4, rn5, rn6, rn7, rn8, if_true, if_false, Nat.le_refl, true_and, and_true, decide_true, decide_false, Bool.not_true, Bool.not_false, reduceIte, Nat.reduceEqDiff, Nat.reduceAdd, Nat.reduceMul, Nat.reduceSub, Nat.reduceLeDiff, Nat.reduceLT, r1.ld, wkg, Nat.zero_add, hlv, hmk]
  refine step_slice (by omega) enL_one fun g4 hx4 => ?_
  have n4 := hx4.next
  have f4 := hx4.floor
  simp only [rn0, rn1, rn2, rn3, rn4, rn5, rn6, rn7, rn8, if_true, if_false, Nat.le_refl, true_and, and_true, decide_true, decide_false, Bool.not_true, Bool.not_false, reduceIte, Nat.reduceEqDiff, Nat.reduceAdd, Nat.reduceMul, Nat.reduceSub, Nat.reduceLeDiff, Nat.reduceLT]
  refine step_store (b := g1.next) (off := 0) (vs := [.slice (some ⟨g3.next, 0, none⟩) S.nv S.nv]) rfl (by rw [hx4.old _ (by omega), hx3.old _ (by omega)]; exact hx2.get) (by omega) (by omega) rfl rfl rfl (by simp) fun g5 hs5 => ?_
  rw [splice1] at hs5
  have n5 := hs5.next
  have f5 := hs5.floor
  have old5 : ∀ i, i < g1.next → g5.get i = g1.get i := fun i hi => by rw [hs5.old i (by omega), hx4.old i (by omega), hx3.old i (by omega), hx2.old i (by omega)]
  have rw5 : Row g5 h.next (wkL S vv sv tv) := ⟨true, 0, by rw [old5 _ (by omega)]; exact hx1.get⟩
  have ho5 : OpS g5 vv sv tv S := (ho.mono hx1.sub).mono (AHeap.subOf old5)
  have h45 : g5.get g3.next = some (.row (enL S fun _ => 0) true 0) := by rw [hs5.old _ (by omega)]; exact hx4.get
  have rb5 : Row g5 g1.next _ := ⟨_, _, hs5.get⟩
  have hle := losses_c (n := n) (h := g5) (by omega) (by omega) ho5 (enL_ints (k := S.nv) h45 (Nat.le_refl _)) (Nat.le_refl _) fun v hv => by omega
  have h3o : g5.get g2.next = some (.row [.int .i64 0] true 0) := by rw [hs5.old _ (by omega), hx4.old _ (by omega)]; exact hx3.get
  simp only [rn0, rn1, rn2, rn3, rn4, rn5, rn6, rn7, rn8, if_true, if_false, Nat.le_refl, true_and, and_true, decide_true, decide_false, Bool.not_true, Bool.not_false, reduceIte, Nat.reduceEqDiff, Nat.reduceAdd, Nat.reduceMul, Nat.reduceSub, Nat.reduceLeDiff, Nat.reduceLT, rw5.whole (n := 6) rfl, rb5.ld, Nat.zero_add, List.getElem?_cons_zero, hle, part1]
  refine step_store (b := g2.next) (off := 0) (vs := [.int .i64 (wHi S (fun _ => 0) S.nv)]) rfl h3o (by omega) (by omega) rfl rfl rfl (by simp) fun g6 hs6 => ?_
  rw [splice1] at hs6
  have n6 := hs6.next
  have f6 := hs6.floor
  simp only [rn0, rn1, rn2, rn3, rn4, rn5, rn6, rn7, rn8, if_true, if_false, Nat.le_refl, true_and, and_true, decide_true, decide_false, Bool.not_true, Bool.not_false, reduceIte, Nat.reduceEqDiff, Nat.reduceAdd, Nat.reduceMul, Nat.reduceSub, Nat.reduceLeDiff, Nat.reduceLT]
  refine step_row (cs := [.nilFunc]) (by omega) rfl rfl fun g7 hx7 => ?_
  have n7 := hx7.next
  have f7 := hx7.floor
  simp only [rn0, rn1, rn2, rn3, rn4, rn5, rn6, rn7, rn8, if_true, if_false, Nat.le_refl, true_and, and_true, decide_true, decide_false, Bool.not_true, Bool.not_false, reduceIte, Nat.reduceEqDiff, Nat.reduceAdd, Nat.reduceMul, Nat.reduceSub, Nat.reduceLeDiff, Nat.reduceLT]
  refine step_store (b := g6.next) (off := 0) (vs := [chooseE h.next g2.next g1.next g6.next]) rfl hx7.get (by omega) (by omega) rfl rfl rfl (by simp) fun g8 hs8 => ?_
  rw [splice1] at hs8
  have n8 := hs8.next
  have f8 := hs8.floor
  have old8 : ∀ i, i < g6.next → g8.get i = g6.get i := fun i hi => by rw [hs8.old i (by omega), hx7.old i hi]
  have rc8 : Row g8 g6.next [chooseE h.next g2.next g1.next g6.next] := ⟨_, _, hs8.get⟩
  have rw8 : Row g8 h.next (wkL S vv sv tv) := by
    obtain ⟨w, gr, e⟩ := rw5
    exact ⟨w, gr, by rw [old8 _ (by omega), hs6.old _ (by omega)]; exact e⟩
  simp only [rn0, rn1, rn2, rn3, rn4, rn5, rn6, rn7, rn8, if_true, if_false, Nat.le_refl, true_and, and_true, decide_true, decide_false, Bool.not_true, Bool.not_false, reduceIte, Nat.reduceEqDiff, Nat.reduceAdd, Nat.reduceMul, Nat.reduceSub, Nat.reduceLeDiff, Nat.reduceLT]
  refine W_draw All ?_
  simp only [rn0, rn1, rn2, rn3, rn4, rn5, rn6, rn7, rn8, if_true, if_false, Nat.le_refl, true_and, and_true, decide_true, decide_false, Bool.not_true, Bool.not_false, reduceIte, Nat.reduceEqDiff, Nat.reduceAdd, Nat.reduceMul, Nat.reduceSub, Nat.reduceLeDiff, Nat.reduceLT, rc8.ld, rw8.ld, wkg, Nat.zero_add, List.getElem?_cons_zero, hlv, hmk0]
  refine ⟨chooseE_self, ?_⟩
  refine up_slice (by omega) enL_one (fun g9 hx => hx.sub) fun g9 hx9 => ?_
  have n9 := hx9.next
  have f9 := hx9.floor
  have hap : ∀ x, h.next < x → ApartS S vv sv tv x := fun x hx => ⟨neB_low ho.y.v (by omega), neB_low ho.y.s (by omega), neB_low ho.d (by omega) (List.length_pos_iff.2 fun e => hT (dones_nil.1 e))⟩
  have ho9 : OpS g9 vv sv tv S := by
    refine ho.mono (AHeap.subOf fun i hi => ?_)
    rw [hx9.old i (by omega), old8 i (by omega), hs6.old i (by omega), old5 i (by omega), hx1.old i hi]
  have hb9 : BeS S vv sv tv h.next g2.next g1.next g6.next g8.next g9.floor ((fun _ => 0), wHi S (fun _ => 0) S.nv) (fun _ => 0) g9 := by
    refine ⟨ho9, rw8.mono hx9.sub, rc8.mono hx9.sub, ?_, ⟨.slice (some ⟨g3.next, 0, none⟩) S.nv S.nv, ?_, ?_, rfl, fun a k q e => ?_⟩, hx9.get, rfl, by omega⟩
    · rw [hx9.old _ (by omega), old8 _ (by omega)]; exact hs6.get
    · rw [hx9.old _ (by omega), old8 _ (by omega), hs6.old _ (by omega)]; exact hs5.get
    · exact enL_ints (by rw [hx9.old _ (by omega), old8 _ (by omega), hs6.old _ (by omega)]; exact h45) (Nat.le_refl _)
    · cases e; show g3.next ≠ g8.next ∧ g3.next ≠ g2.next ∧ g3.next ≠ g1.next; omega
  have hbn : bndB S.nv ≤ 5554 := by
    have : S.nv = 0 ∨ S.nv = 1 ∨ S.nv = 2 ∨ S.nv = 3 := by omega
    rcases this with e | e | e | e <;> rw [e] <;> decide
  obtain ⟨v10, g10, c10, e10, hb10, _, old10, u10, m10⟩ := chooseE_c (B := g9.floor) ⟨hap g8.next (by omega), hap g2.next (by omega), hap g1.next (by omega)⟩ S.nv 0 n g9 _ _ (by omega) (by omega) hb9 ⟨fun j hj => by omega, fun _ _ => rfl⟩ (by omega)
  have hres : (runL (bestStep S) ((fun _ => 0), wHi S (fun _ => 0) S.nv) (endsFrom S S.nv 0 fun _ => 0)).1 = bestS S := rfl
  rw [hres] at hb10
  obtain ⟨bv, b1, b2, b3, b4⟩ := hb10.be
  have rb10 : Row g10 g1.next _ := ⟨_, _, b1⟩
  have ro10 : Row g10 g2.next _ := ⟨_, _, hb10.wo⟩
  have f10 := hb10.fl
  have z00 : ((0 : Nat) : Int) = 0 := rfl
  simp only [rn0, rn1, rn2, rn3, rn4, rn5, rn6, rn7, rn8, if_true, if_false, Nat.le_refl, true_and, and_true, decide_true, decide_false, Bool.not_true, Bool.not_false, reduceIte, Nat.reduceEqDiff, Nat.reduceAdd, Nat.reduceMul, Nat.reduceSub, Nat.reduceLeDiff, Nat.reduceLT, e10]
  refine ⟨u10, ?_⟩
  refine W_draw All ?_
  have sameSet : ∀ {g g' : AHeap} {b gr : Nat} {cs : List Value}, g.get b = some (.row cs true gr) → Set1 g g' b cs gr → Sub All g g' := fun {g g' b gr cs} hb hs i cs' w gr' _ e => by
    by_cases ei : i = b
    · subst ei; rw [hb] at e; cases e; exact hs.get
    · rw [hs.old i ei]; exact e
  obtain ⟨bx, bk, rfl⟩ := ints_slice b2
  simp only [rn0, rn1, rn2, rn3, rn4, rn5, rn6, rn7, rn8, if_true, if_false, Nat.le_refl, true_and, and_true, decide_true, decide_false, Bool.not_true, Bool.not_false, reduceIte, Nat.reduceEqDiff, Nat.reduceAdd, Nat.reduceMul, Nat.reduceSub, Nat.reduceLeDiff, Nat.reduceLT, rb10.ld, ro10.ld, Nat.zero_add, List.getElem?_cons_zero, eqV_int, Cells.self b2]
  refine up_store (b := g1.next) (off := 0) (vs := [.slice bx S.nv bk]) rfl b1 (by omega) (by omega) rfl rfl rfl (by simp) (fun g11 hs => by rw [splice1] at hs; exact sameSet b1 hs) fun g11 hs11 => ?_
  rw [splice1] at hs11
  have n11 := hs11.next
  have f11 := hs11.floor
  have s11 := sameSet b1 hs11
  have o11 : g11.get g2.next = some (.row [.int .i64 (bestS S).2] true 0) := by rw [hs11.old _ (by omega)]; exact hb10.wo
  simp only [rn0, rn1, rn2, rn3, rn4, rn5, rn6, rn7, rn8, if_true, if_false, Nat.le_refl, true_and, and_true, decide_true, decide_false, Bool.not_true, Bool.not_false, reduceIte, Nat.reduceEqDiff, Nat.reduceAdd, Nat.reduceMul, Nat.reduceSub, Nat.reduceLeDiff, Nat.reduceLT]
  refine up_store (b := g2.next) (off := 0) (vs := [.int .i64 (bestS S).2]) rfl o11 (by omega) (by omega) rfl rfl rfl (by simp) (fun _ _ => trivial) fun g12 hs12 => ?_
  rw [splice1] at hs12
  have n12 := hs12.next
  have f12 := hs12.floor
  have c12 : loadCell g12 (.pointer (some ⟨g1.next, 0, none⟩)) = some (.slice bx S.nv bk) := by
    rw [(show Row g12 g1.next [.slice bx S.nv bk] from ⟨true, 0, by rw [hs12.old _ (by omega)]; exact hs11.get⟩).ld]; rfl
  have d12 : loadCell g12 (.pointer (some ⟨g2.next, 0, none⟩)) = some (.int .i64 (bestS S).2) := by rw [hs12.row.ld]; rfl
  have hold12 : ∀ i, i < h.next → g12.get i = h.get i := fun i hi => by
    rw [hs12.old i (by omega), hs11.old i (by omega), old10 i (by omega) (by omega) (by omega) (by omega), hx9.old i (by omega), old8 i (by omega), hs6.old i (by omega), old5 i (by omega), hx1.old i hi]
  simp only [rn0, rn1, rn2, rn3, rn4, rn5, rn6, rn7, rn8, if_true, if_false, Nat.le_refl, true_and, and_true, decide_true, decide_false, Bool.not_true, Bool.not_false, reduceIte, Nat.reduceEqDiff, Nat.reduceAdd, Nat.reduceMul, Nat.reduceSub, Nat.reduceLeDiff, Nat.reduceLT, res_cc, c12, d12]
  refine ⟨_, rfl, ?_, rfl, hold12, by omega, by omega, by omega⟩
  · have q1 : Ints g11 (.slice bx S.nv bk) S.nv (bestS S).1 := Cells.mono b2 s11
    exact Cells.keep q1 hs12.keep fun a k q e => (b4 a k q e).2.1
open Classical in
noncomputable def errS (S : MB) : Int := if faultS S ≠ 0 then faultS S else if truthsS S = [] then 11 else 0
noncomputable def cntS (S : MB) : Nat := if errS S = 0 then S.nv else 0
theorem errS_zero {S : MB} : errS S = 0 ↔ Good S ∧ truthsS S ≠ [] := by
  unfold errS
  by_cases c1 : faultS S = 0
  · rw [if_neg (by simpa using c1)]
    by_cases c2 : truthsS S = []
    · rw [if_pos c2]; simp [c2]
    · rw [if_neg c2]; simp [c2, good_of c1]
  · rw [if_pos c1]
    exact ⟨fun e => absurd e c1, fun e => fault_of e.1⟩
def s36 : SCode := (.seq (.ops [⟨(some 1), none, .box (T 0)⟩, ⟨(some 2), none, .mov (.const (.slice none 0 0))⟩, ⟨(some 3), none, .mov (.const (.int .i64 (0)))⟩]) (.seq (.ops [⟨(some 9), none, .loadN 5 (T 1)⟩, ⟨(some 10), none, .call (.func 86) [(T 9), (.const (.slice none 0 0))]⟩, ⟨(some 8), none, .mov (T 10)⟩, ⟨(some 11), none, .extract 0 (T 8)⟩, ⟨(some 12), none, .extract 1 (T 8)⟩, ⟨(some 4), none, .alloc [(.int .i64 (0)), (.int .i64 (0)), (.slice none 0 0), (.int .i64 (0)), (.slice none 0 0), (.slice none 0 0)]⟩, ⟨none, none, .store 6 (T 4) (T 11)⟩, ⟨(some 5), none, .mov (T 12)⟩]) (.seq (.seq (.ops [⟨(some 13), none, .mov (T 5)⟩, ⟨(some 14), none, .int2 .neq (T 13) (.const (.int .i64 (0)))⟩]) (.cond (T 14) (.seq (.ops [⟨(some 15), none, .mov (T 5)⟩, ⟨(some 2), none, .mov (.const (.slice none 0 0))⟩, ⟨(some 3), none, .mov (T 15)⟩]) .ret) .skip)) (.seq (.ops [⟨(some 6), none, .mov (.const (.slice none 0 0))⟩]) (.seq (.seq (.ops [⟨(some 16), none, .fieldAddr 0 (T 4)⟩, ⟨(some 17), none, .fieldAddr 2 (T 16)⟩, ⟨(some 18), none, .load1 (T 17)⟩, ⟨(some 19), none, .len (T 18)⟩, ⟨(some 20), none, .mov (.const (.int .i64 (0)))⟩]) (.block 0 (.loop (.seq (.ops [⟨(some 21), none, .int2 .lss (T 20) (T 19)⟩]) (.seq (.cond (T 21) .skip (.exit 0)) (.seq (.block 1 (.seq (.ops [⟨(some 22), none, .mov (T 20)⟩, ⟨(some 7), none, .mov (T 22)⟩]) (.ops [⟨(some 23), none, .mov (T 6)⟩, ⟨(some 24), none, .loadN 6 (T 4)⟩, ⟨(some 25), none, .mov (T 7)⟩, ⟨(some 26), none, .call (.func 87) [(T 24), (T 25)]⟩, ⟨(some 27), none, .bslice 2 1 [(.int .i64 (0)), (.int .i64 (0))] [0] [(T 26)]⟩, ⟨(some 28), none, .append 2 16 (T 23) (T 27)⟩, ⟨(some 6), none, .mov (T 28)⟩]))) (.ops [⟨(some 29), none, .int2 .add (T 20) (.const (.int .i64 (1)))⟩, ⟨(some 20), none, .mov (T 29)⟩]))))))) (.seq (.ops [⟨(some 30), none, .mov (T 6)⟩, ⟨(some 2), none, .mov (T 30)⟩, ⟨(some 3), none, .mov (.const (.int .i64 (0)))⟩]) .ret))))))
theorem fok36 : FnOk Try.prog 36 31 s36 [.tmp 2, .tmp 3] := ⟨Try.f36, _, Try.func36, rfl, Try.ntmps36, by kernel_rfl, by kernel_rfl⟩
set_option maxHeartbeats 1000000 in
theorem boundsV_c (hn : 900 ≤ n) (hr : h.next + 60000 < far) (hfl : h.floor ≤ h.next) {vv sv : Value} {S : MB} (hy : BeatR h vv sv S) (hTh : ThinS S) :
    ∃ r h', call n (.func (.func 36) #[] #[]) [.agg ⟨beL S vv sv⟩] h = some (.tuple ⟨[r, .int .i64 (errS S)]⟩, h') ∧ Ranges h' r (cntS S) (bLo S) (bHi S) ∧ oneCell r = true ∧ (∀ i, i < h.next → h'.get i = h.get i) ∧ h.next ≤ h'.next ∧ h'.next ≤ h.next + 27000 ∧ h'.floor = h.floor := by
  obtain ⟨n, rfl⟩ : ∃ p, n = p + 1 := ⟨n - 1, by omega⟩
  suffices hs : ∃ v h', call (n + 1) (.func (.func 36) #[] #[]) [.agg ⟨beL S vv sv⟩] h = some (v, h') ∧ ∃ r, v = .tuple ⟨[r, .int .i64 (errS S)]⟩ ∧ Ranges h' r (cntS S) (bLo S) (bHi S) ∧ oneCell r = true ∧ (∀ i, i < h.next → h'.get i = h.get i) ∧ h.next ≤ h'.next ∧ h'.next ≤ h.next + 27000 ∧ h'.floor = h.floor by
    obtain ⟨v, h', e, r, rfl, q⟩ := hs
    exact ⟨r, h', e, q⟩
  refine call_any0 fok36 rfl rfl (by simp) ?_
  have rnil : ∀ g : AHeap, Ranges g nilS 0 (bLo S) (bHi S) := fun g => ⟨none, 0, rfl, fun x e => (by cases e), .inl rfl⟩
  simp only [s36, W_seq, W_ops]
  refine ops_box (cs := beL S vv sv) (by omega) rfl hy.one fun g1 hx1 => ?_
  have n1 := hx1.next
  have f1 := hx1.floor
  obtain ⟨v, g2, eo, old2, u2, m2, f2, ho⟩ := open_c (n := n) (h := g1) (by omega) (by omega) (by omega) (hy.mono hx1.sub) hTh (P := True) (cv := nilS) fun _ => conds_nil
  have hold2 : ∀ i, i < h.next → g2.get i = h.get i := fun i hi => by rw [old2 i (by omega), hx1.old i hi]
  rcases ho with ⟨hf, rfl⟩ | ⟨hf, hp, rfl⟩ | ⟨hf, _, ht, rfl⟩ | ⟨hf, _, ht, tv, rfl, hone, hd, hfr, hlong⟩
  · have he : errS S = faultS S := by unfold errS; rw [if_pos hf]
    have hc : cntS S = 0 := by unfold cntS; rw [if_neg (by rw [he]; exact hf)]
    rw [he, hc]
    simp only [rn0, rn1, rn2, rn3, rn4, rn5, rn6, rn7, rn8, if_true, if_false, Nat.le_refl, true_and, and_true, decide_true, decide_false, Bool.not_true, Bool.not_false, reduceIte, Nat.reduceEqDiff, Nat.reduceAdd, Nat.reduceMul, Nat.reduceSub, Nat.reduceLeDiff, Nat.reduceLT, hx1.row.whole (n := 5) rfl, eo, ex0, ex1]
    refine step_new (vs := wkZ) (by omega) (by omega) rfl (by simp only [rn0, rn1, rn2, rn3, rn4, rn5, rn6, rn7, rn8, if_true, if_false, Nat.le_refl, true_and, and_true, decide_true, decide_false, Bool.not_true, Bool.not_false, reduceIte, Nat.reduceEqDiff, Nat.reduceAdd, Nat.reduceMul, Nat.reduceSub, Nat.reduceLeDiff, Nat.reduceLT]; rfl) rfl rfl rfl fun g3 hx3 => ?_
    have n3 := hx3.next
    have f3 := hx3.floor
    simp only [rn0, rn1, rn2, rn3, rn4, rn5, rn6, rn7, rn8, if_true, if_false, Nat.le_refl, true_and, and_true, decide_true, decide_false, Bool.not_true, Bool.not_false, reduceIte, Nat.reduceEqDiff, Nat.reduceAdd, Nat.reduceMul, Nat.reduceSub, Nat.reduceLeDiff, Nat.reduceLT, hf, ret_tt]
    exact ⟨_, rfl, rnil _, rfl, fun i hi => by rw [hx3.old i (by omega), hold2 i hi], by omega, by omega, by omega⟩
  · exact absurd trivial hp
  · have he : errS S = 11 := by unfold errS; rw [if_neg (by simpa using hf), if_pos ht]
    have hc : cntS S = 0 := by unfold cntS; rw [if_neg (by rw [he]; decide)]
    rw [he, hc]
    simp only [rn0, rn1, rn2, rn3, rn4, rn5, rn6, rn7, rn8, if_true, if_false, Nat.le_refl, true_and, and_true, decide_true, decide_false, Bool.not_true, Bool.not_false, reduceIte, Nat.reduceEqDiff, Nat.reduceAdd, Nat.reduceMul, Nat.reduceSub, Nat.reduceLeDiff, Nat.reduceLT, hx1.row.whole (n := 5) rfl, eo, ex0, ex1]
    refine step_new (vs := wkZ) (by omega) (by omega) rfl (by simp only [rn0, rn1, rn2, rn3, rn4, rn5, rn6, rn7, rn8, if_true, if_false, Nat.le_refl, true_and, and_true, decide_true, decide_false, Bool.not_true, Bool.not_false, reduceIte, Nat.reduceEqDiff, Nat.reduceAdd, Nat.reduceMul, Nat.reduceSub, Nat.reduceLeDiff, Nat.reduceLT]; rfl) rfl rfl rfl fun g3 hx3 => ?_
    have n3 := hx3.next
    have f3 := hx3.floor
    simp only [rn0, rn1, rn2, rn3, rn4, rn5, rn6, rn7, rn8, if_true, if_false, Nat.le_refl, true_and, and_true, decide_true, decide_false, Bool.not_true, Bool.not_false, reduceIte, Nat.reduceEqDiff, Nat.reduceAdd, Nat.reduceMul, Nat.reduceSub, Nat.reduceLeDiff, Nat.reduceLT, Int.reduceEq, ret_tt]
    exact ⟨_, rfl, rnil _, rfl, fun i hi => by rw [hx3.old i (by omega), hold2 i hi], by omega, by omega, by omega⟩
  have he : errS S = 0 := errS_zero.2 ⟨good_of hf, ht⟩
  have hc : cntS S = S.nv := by unfold cntS; rw [if_pos he]
  rw [he, hc]
  have hG := good_of hf
  obtain ⟨z0, z1, z3, _⟩ := hG.sizes
  have hy2 := hy.mono (AHeap.subOf hold2)
  simp only [rn0, rn1, rn2, rn3, rn4, rn5, rn6, rn7, rn8, if_true, if_false, Nat.le_refl, true_and, and_true, decide_true, decide_false, Bool.not_true, Bool.not_false, reduceIte, Nat.reduceEqDiff, Nat.reduceAdd, Nat.reduceMul, Nat.reduceSub, Nat.reduceLeDiff, Nat.reduceLT, hx1.row.whole (n := 5) rfl, eo, ex0, ex1]
  refine step_new (vs := wkL S vv sv tv) (by omega) (by omega) rfl (by simp only [rn0, rn1, rn2, rn3, rn4, rn5, rn6, rn7, rn8, if_true, if_false, Nat.le_refl, true_and, and_true, decide_true, decide_false, Bool.not_true, Bool.not_false, reduceIte, Nat.reduceEqDiff, Nat.reduceAdd, Nat.reduceMul, Nat.reduceSub, Nat.reduceLeDiff, Nat.reduceLT]; rfl) (wk_one hy2 hone) rfl rfl fun g3 hx3 => ?_
  have n3 := hx3.next
  have f3 := hx3.floor
  have ho3 : OpS g3 vv sv tv S := ⟨hG, ht, hy2.mono hx3.sub, hone, Cells.mono hd hx3.sub, hlong⟩
  simp only [rn0, rn1, rn2, rn3, rn4, rn5, rn6, rn7, rn8, if_true, if_false, Nat.le_refl, true_and, and_true, decide_true, decide_false, Bool.not_true, Bool.not_false, reduceIte, Nat.reduceEqDiff, Nat.reduceAdd, Nat.reduceMul, Nat.reduceSub, Nat.reduceLeDiff, Nat.reduceLT, hx3.row.ld, wkg, Nat.zero_add, Cells.len ho3.y.v]
  refine W_loop S.nv (fun k f g ms => (∃ v, (∀ i, i < g3.next → g.get i = g3.get i) ∧ g.floor = h.floor ∧ g3.next ≤ g.next ∧ g.next ≤ g3.next + 3 * k ∧ GrowC g3.next g v 2 k (fun k j => .int .i64 (if j = 0 then bLo S k else bHi S k)) ∧ f 6 = v) ∧ ms = [] ∧ f 4 = .pointer (some ⟨g2.next, 0, none⟩) ∧ f 19 = .int .i64 (S.nv : Int) ∧ f 20 = .int .i64 (k : Int)) (by simp; omega) ?_ ?_ ?_
  · simp only [rn0, rn1, rn2, rn3, rn4, rn5, rn6, rn7, rn8, if_true, if_false, Nat.le_refl, true_and, and_true, decide_true, decide_false, Bool.not_true, Bool.not_false, reduceIte, Nat.reduceEqDiff, Nat.reduceAdd, Nat.reduceMul, Nat.reduceSub, Nat.reduceLeDiff, Nat.reduceLT]
    exact ⟨⟨nilS, fun i _ => trivial, by omega, by omega, .nil, rfl⟩, rfl⟩
  · rintro k f g ms hk ⟨⟨v, hs, hfg, hup, hnx, gv, p6⟩, rfl, p4, p19, p20⟩
    have hk' : (k : Int) < (S.nv : Int) := by omega
    have hw : wrapF .i64 ((k : Int) + 1) = ((k + 1 : Nat) : Int) := by rw [wrap_in (by omega) (by omega)]; rfl
    have rg := hx3.row.mono (AHeap.subOf hs)
    have hog := ho3.mono (AHeap.subOf hs)
    have ed := whenDone_c (n := n) (h := g) (by omega) (by omega) hog hk
    simp only [rn0, rn1, rn2, rn3, rn4, rn5, rn6, rn7, rn8, if_true, if_false, Nat.le_refl, true_and, and_true, decide_true, decide_false, Bool.not_true, Bool.not_false, reduceIte, Nat.reduceEqDiff, Nat.reduceAdd, Nat.reduceMul, Nat.reduceSub, Nat.reduceLeDiff, Nat.reduceLT, p4, p6, p19, p20, hk', rg.whole (n := 6) rfl, ed, sl_range]
    refine step_slice (by omega) rfl fun g5 hx5 => ?_
    have n5 := hx5.next
    obtain ⟨v', g6, e6, gv6, o6, n6, f6, old6, u6⟩ := grow_push (h := g) (bytes := 16) gv (by omega) (by omega) (by omega) hx5 rfl rfl (fun j hj => by
      obtain rfl | rfl : j = 0 ∨ j = 1 := by omega
      all_goals rfl) (by simp [maxBytes]; omega) (by simp [maxBytes]; omega)
    simp only [rn0, rn1, rn2, rn3, rn4, rn5, rn6, rn7, rn8, if_true, if_false, Nat.le_refl, true_and, and_true, decide_true, decide_false, Bool.not_true, Bool.not_false, reduceIte, Nat.reduceEqDiff, Nat.reduceAdd, Nat.reduceMul, Nat.reduceSub, Nat.reduceLeDiff, Nat.reduceLT, p4, p6, p19, p20, e6, hw]
    have hfin := And.intro (fun i (hi : i < g3.next) => (by rw [old6 i hi, hs i hi] : g6.get i = g3.get i)) (And.intro (by omega : g6.floor = h.floor) (And.intro (by omega : g3.next ≤ g6.next) (And.intro (by omega : g6.next ≤ g3.next + 3 * (k + 1)) (And.intro gv6 (rfl : v' = v')))))
    first | exact ⟨⟨v', hfin⟩, rfl⟩ | exact ⟨v', hfin⟩
  · rintro f g ms ⟨⟨v, hs, hfg, hup, hnx, gv, p6⟩, rfl, p4, p19, p20⟩
    simp only [rn0, rn1, rn2, rn3, rn4, rn5, rn6, rn7, rn8, if_true, if_false, Nat.le_refl, true_and, and_true, decide_true, decide_false, Bool.not_true, Bool.not_false, reduceIte, Nat.reduceEqDiff, Nat.reduceAdd, Nat.reduceMul, Nat.reduceSub, Nat.reduceLeDiff, Nat.reduceLT, p4, p6, p19, p20, Int.lt_irrefl, ret_tt]
    exact ⟨_, rfl, gv.cells, gv.one, fun i hi => by rw [hs i (by omega), hx3.old i (by omega), hold2 i hi], by omega, by omega, by omega⟩
def s47 : SCode := (.seq (.ops [⟨(some 1), none, .box (T 0)⟩, ⟨(some 2), none, .mov (.const (.slice none 0 0))⟩, ⟨(some 3), none, .mov (.const (.int .i64 (0)))⟩, ⟨(some 4), none, .mov (.const (.int .i64 (0)))⟩]) (.seq (.ops [⟨(some 7), none, .loadN 5 (T 1)⟩, ⟨(some 8), none, .call (.func 86) [(T 7), (.const (.slice none 0 0))]⟩, ⟨(some 6), none, .mov (T 8)⟩, ⟨(some 9), none, .extract 0 (T 6)⟩, ⟨(some 10), none, .extract 1 (T 6)⟩, ⟨(some 5), none, .alloc [(.int .i64 (0)), (.int .i64 (0)), (.slice none 0 0), (.int .i64 (0)), (.slice none 0 0), (.slice none 0 0)]⟩, ⟨none, none, .store 6 (T 5) (T 9)⟩, ⟨(some 4), none, .mov (T 10)⟩]) (.seq (.seq (.ops [⟨(some 11), none, .mov (T 4)⟩, ⟨(some 12), none, .int2 .neq (T 11) (.const (.int .i64 (0)))⟩]) (.cond (T 12) (.seq (.ops [⟨(some 13), none, .mov (T 4)⟩, ⟨(some 2), none, .mov (.const (.slice none 0 0))⟩, ⟨(some 3), none, .mov (.const (.int .i64 (0)))⟩, ⟨(some 4), none, .mov (T 13)⟩]) .ret) .skip)) (.seq (.ops [⟨(some 15), none, .loadN 6 (T 5)⟩, ⟨(some 16), none, .call (.func 96) [(T 15)]⟩, ⟨(some 14), none, .mov (T 16)⟩, ⟨(some 17), none, .extract 0 (T 14)⟩, ⟨(some 18), none, .extract 1 (T 14)⟩, ⟨(some 2), none, .mov (T 17)⟩, ⟨(some 3), none, .mov (T 18)⟩]) (.seq (.ops [⟨(some 19), none, .mov (T 2)⟩, ⟨(some 20), none, .mov (T 3)⟩, ⟨(some 2), none, .mov (T 19)⟩, ⟨(some 3), none, .mov (T 20)⟩, ⟨(some 4), none, .mov (.const (.int .i64 (0)))⟩]) .ret)))))
theorem fok47 : FnOk Try.prog 47 21 s47 [.tmp 2, .tmp 3, .tmp 4] := ⟨Try.f47, _, Try.func47, rfl, Try.ntmps47, by kernel_rfl, by kernel_rfl⟩
set_option maxHeartbeats 1000000 in
theorem bestV_c (hn : 1100 ≤ n) (hr : h.next + 80000 < far) (hfl : h.floor ≤ h.next) {vv sv : Value} {S : MB} (hy : BeatR h vv sv S) (hTh : ThinS S) :
    ∃ r h', call n (.func (.func 47) #[] #[]) [.agg ⟨beL S vv sv⟩] h = some (.tuple ⟨[r, .int .i64 (if errS S = 0 then (bestS S).2 else 0), .int .i64 (errS S)]⟩, h') ∧ Ints h' r (cntS S) (bestS S).1 ∧ oneCell r = true ∧ (∀ i, i < h.next → h'.get i = h.get i) ∧ h.next ≤ h'.next ∧ h'.next ≤ h.next + 40000 ∧ h'.floor = h.floor := by
  obtain ⟨n, rfl⟩ : ∃ p, n = p + 1 := ⟨n - 1, by omega⟩
  suffices hs : ∃ v h', call (n + 1) (.func (.func 47) #[] #[]) [.agg ⟨beL S vv sv⟩] h = some (v, h') ∧ ∃ r, v = .tuple ⟨[r, .int .i64 (if errS S = 0 then (bestS S).2 else 0), .int .i64 (errS S)]⟩ ∧ Ints h' r (cntS S) (bestS S).1 ∧ oneCell r = true ∧ (∀ i, i < h.next → h'.get i = h.get i) ∧ h.next ≤ h'.next ∧ h'.next ≤ h.next + 40000 ∧ h'.floor = h.floor by
    obtain ⟨v, h', e, r, rfl, q⟩ := hs
    exact ⟨r, h', e, q⟩
  refine call_any0 fok47 rfl rfl (by simp) ?_
  have rnil : ∀ g : AHeap, Ints g nilS 0 (bestS S).1 := fun g => ⟨none, 0, rfl, fun x e => (by cases e), .inl rfl⟩
  simp only [s47, W_seq, W_ops]
  refine ops_box (cs := beL S vv sv) (by omega) rfl hy.one fun g1 hx1 => ?_
  have n1 := hx1.next
  have f1 := hx1.floor
  obtain ⟨v, g2, eo, old2, u2, m2, f2, ho⟩ := open_c (n := n) (h := g1) (by omega) (by omega) (by omega) (hy.mono hx1.sub) hTh (P := True) (cv := nilS) fun _ => conds_nil
  have hold2 : ∀ i, i < h.next → g2.get i = h.get i := fun i hi => by rw [old2 i (by omega), hx1.old i hi]
  rcases ho with ⟨hf, rfl⟩ | ⟨hf, hp, rfl⟩ | ⟨hf, _, ht, rfl⟩ | ⟨hf, _, ht, tv, rfl, hone, hd, hfr, hlong⟩
  · have he : errS S = faultS S := by unfold errS; rw [if_pos hf]
    have hc : cntS S = 0 := by unfold cntS; rw [if_neg (by rw [he]; exact hf)]
    rw [he, hc, if_neg hf]
    simp only [rn0, rn1, rn2, rn3, rn4, rn5, rn6, rn7, rn8, if_true, if_false, Nat.le_refl, true_and, and_true, decide_true, decide_false, Bool.not_true, Bool.not_false, reduceIte, Nat.reduceEqDiff, Nat.reduceAdd, Nat.reduceMul, Nat.reduceSub, Nat.reduceLeDiff, Nat.reduceLT, hx1.row.whole (n := 5) rfl, eo, ex0, ex1]
    refine step_new (vs := wkZ) (by omega) (by omega) rfl (by simp only [rn0, rn1, rn2, rn3, rn4, rn5, rn6, rn7, rn8, if_true, if_false, Nat.le_refl, true_and, and_true, decide_true, decide_false, Bool.not_true, Bool.not_false, reduceIte, Nat.reduceEqDiff, Nat.reduceAdd, Nat.reduceMul, Nat.reduceSub, Nat.reduceLeDiff, Nat.reduceLT]; rfl) rfl rfl rfl fun g3 hx3 => ?_
    have n3 := hx3.next
    have f3 := hx3.floor
    simp only [rn0, rn1, rn2, rn3, rn4, rn5, rn6, rn7, rn8, if_true, if_false, Nat.le_refl, true_and, and_true, decide_true, decide_false, Bool.not_true, Bool.not_false, reduceIte, Nat.reduceEqDiff, Nat.reduceAdd, Nat.reduceMul, Nat.reduceSub, Nat.reduceLeDiff, Nat.reduceLT, hf, ret_ttt]
    exact ⟨_, rfl, rnil _, rfl, fun i hi => by rw [hx3.old i (by omega), hold2 i hi], by omega, by omega, by omega⟩
  · exact absurd trivial hp
  · have he : errS S = 11 := by unfold errS; rw [if_neg (by simpa using hf), if_pos ht]
    have hc : cntS S = 0 := by unfold cntS; rw [if_neg (by rw [he]; decide)]
    rw [he, hc, if_neg (by decide)]
    simp only [rn0, rn1, rn2, rn3, rn4, rn5, rn6, rn7, rn8, if_true, if_false, Nat.le_refl, true_and, and_true, decide_true, decide_false, Bool.not_true, Bool.not_false, reduceIte, Nat.reduceEqDiff, Nat.reduceAdd, Nat.reduceMul, Nat.reduceSub, Nat.reduceLeDiff, Nat.reduceLT, hx1.row.whole (n := 5) rfl, eo, ex0, ex1]
    refine step_new (vs := wkZ) (by omega) (by omega) rfl (by simp only [rn0, rn1, rn2, rn3, rn4, rn5, rn6, rn7, rn8, if_true, if_false, Nat.le_refl, true_and, and_true, decide_true, decide_false, Bool.not_true, Bool.not_false, reduceIte, Nat.reduceEqDiff, Nat.reduceAdd, Nat.reduceMul, Nat.reduceSub, Nat.reduceLeDiff, Nat.reduceLT]; rfl) rfl rfl rfl fun g3 hx3 => ?_
    have n3 := hx3.next
    have f3 := hx3.floor
    simp only [rn0, rn1, rn2, rn3, rn4, rn5, rn6, rn7, rn8, if_true, if_false, Nat.le_refl, true_and, and_true, decide_true, decide_false, Bool.not_true, Bool.not_false, reduceIte, Nat.reduceEqDiff, Nat.reduceAdd, Nat.reduceMul, Nat.reduceSub, Nat.reduceLeDiff, Nat.reduceLT, Int.reduceEq, ret_ttt]
    exact ⟨_, rfl, rnil _, rfl, fun i hi => by rw [hx3.old i (by omega), hold2 i hi], by omega, by omega, by omega⟩
  have he : errS S = 0 := errS_zero.2 ⟨good_of hf, ht⟩
  have hc : cntS S = S.nv := by unfold cntS; rw [if_pos he]
  rw [he, hc, if_pos rfl]
  have hG := good_of hf
  have hy2 := hy.mono (AHeap.subOf hold2)
  simp only [rn0, rn1, rn2, rn3, rn4, rn5, rn6, rn7, rn8, if_true, if_false, Nat.le_refl, true_and, and_true, decide_true, decide_false, Bool.not_true, Bool.not_false, reduceIte, Nat.reduceEqDiff, Nat.reduceAdd, Nat.reduceMul, Nat.reduceSub, Nat.reduceLeDiff, Nat.reduceLT, hx1.row.whole (n := 5) rfl, eo, ex0, ex1]
  refine step_new (vs := wkL S vv sv tv) (by omega) (by omega) rfl (by simp only [rn0, rn1, rn2, rn3, rn4, rn5, rn6, rn7, rn8, if_true, if_false, Nat.le_refl, true_and, and_true, decide_true, decide_false, Bool.not_true, Bool.not_false, reduceIte, Nat.reduceEqDiff, Nat.reduceAdd, Nat.reduceMul, Nat.reduceSub, Nat.reduceLeDiff, Nat.reduceLT]; rfl) (wk_one hy2 hone) rfl rfl fun g3 hx3 => ?_
  have n3 := hx3.next
  have f3 := hx3.floor
  have ho3 : OpS g3 vv sv tv S := ⟨hG, ht, hy2.mono hx3.sub, hone, Cells.mono hd hx3.sub, hlong⟩
  obtain ⟨bv, g4, e4, b4, o4, old4, u4, m4, f4⟩ := bestE_c (n := n) (h := g3) (by omega) (by omega) (by omega) ho3
  simp only [rn0, rn1, rn2, rn3, rn4, rn5, rn6, rn7, rn8, if_true, if_false, Nat.le_refl, true_and, and_true, decide_true, decide_false, Bool.not_true, Bool.not_false, reduceIte, Nat.reduceEqDiff, Nat.reduceAdd, Nat.reduceMul, Nat.reduceSub, Nat.reduceLeDiff, Nat.reduceLT, hx3.row.whole (n := 6) rfl, e4, ex0, ex1, ret_ttt]
  exact ⟨_, rfl, b4, o4, fun i hi => by rw [old4 i (by omega), hx3.old i (by omega), hold2 i hi], by omega, by omega, by omega⟩
theorem sl_fn {f : Value} (hf : oneCell f = true) : buildSl 1 1 [.nilFunc] [0] h [f] = newSlice h [f] 1 1 0 := by
  cases f <;> first | (cases hf; done) | rfl
end Go.Vm.Bt

namespace Go.Vm
set_option linter.unusedSimpArgs false
set_option linter.unusedVariables false
section
variable {α : Type} [DecidableEq α] {P : Program} {t : TypeId} {kv : α → Value} {m : α → Int} {h : AHeap} {r : Nat}
theorem updateF (hk : KeyOk P t kv) (hm : MapF h r kv m) (hfl : h.floor ≤ r) (hf : h.next ≤ far) (p : α) (v : Int) :
    ∃ g, mapUpdateA P t h (.map (some r)) (kv p) (.int .i64 v) = some (undef, g) ∧ MapF g r kv (fun q => if q = p then v else m q) ∧ Turned h g r := by
  have hlt := hm.lt
  obtain ⟨l, c, hg, he⟩ := hm
  have hpv : plainV (.int .i64 v) = true := rfl
  unfold mapUpdateA amap
  simp only [hg, hk.plain, hpv, Bool.and_self, cond_true, hk.find, ble_iff.2 hfl]
  cases hfd : findK p l 0 with
  | none =>
    have hp := findK_none l 0 hfd
    have hv := valK_none l hp
    obtain ⟨g, e, hg', ht⟩ := setMap_run (h := h) (es := (⟨l.map (entK kv)⟩ : Array MapEntry).push { key := kv p, val := .int .i64 v, born := c }) (c := c + 1) (v := undef) hlt hf
    refine ⟨g, e, ⟨l ++ [(p, v, c)], c + 1, ?_, ⟨?_, ?_, ?_, ?_⟩⟩, ht⟩
    · rw [hg', List.push_toArray, List.map_append]; rfl
    · intro q
      rw [valK_app l hp, he.val]
    · rw [List.map_append, List.nodup_append]
      refine ⟨he.keys, by simp, ?_⟩
      intro a ha b hb e
      simp only [List.map_cons, List.map_nil, List.mem_singleton] at hb
      exact hp (by rw [← hb, ← e]; exact ha)
    · rw [List.map_append, List.nodup_append]
      refine ⟨he.borns, by simp, ?_⟩
      intro a ha b hb e
      simp only [List.map_cons, List.map_nil, List.mem_singleton] at hb
      obtain ⟨x, hx, rfl⟩ := List.mem_map.1 ha
      have := he.below x hx
      omega
    · intro x hx
      rcases List.mem_append.1 hx with hx | hx
      · have := he.below x hx; omega
      · simp only [List.mem_singleton] at hx
        subst hx; exact Nat.lt_succ_self _
  | some q =>
    obtain ⟨i, w⟩ := q
    obtain ⟨b, _, hi, rfl⟩ := findK_some l 0 i w hfd
    rw [Nat.sub_zero] at hi
    have hi2 : (⟨l.map (entK kv)⟩ : Array MapEntry)[i]? = some (entK kv (p, valK p l, b)) := by
      rw [List.getElem?_toArray, List.getElem?_map, hi]; rfl
    have hil : i < l.length := by
      rcases Nat.lt_or_ge i l.length with h1 | h1
      · exact h1
      · rw [List.getElem?_eq_none h1] at hi; cases hi
    obtain ⟨g, e, hg', ht⟩ := setMap_run (h := h) (es := (⟨l.map (entK kv)⟩ : Array MapEntry).modify i fun e => { e with key := kv p, val := .int .i64 v }) (c := c) (v := undef) hlt hf
    refine ⟨g, ?_, ⟨l.set i (p, v, b), c, ?_, ?_, ?_, ?_, ?_⟩, ht⟩
    · simp only [hi2, Option.map_some, Option.getD_some, entK, hk.same, cond_true]
      exact e
    · rw [hg']
      congr 2
      apply Array.ext'
      rw [Array.toList_modify]
      apply List.ext_getElem?
      intro k
      show _ = (List.map (entK kv) (l.set i (p, v, b)))[k]?
      rw [List.getElem?_modify, List.getElem?_map, List.getElem?_map, List.getElem?_set]
      by_cases e : i = k
      · subst e
        rw [if_pos rfl, if_pos hil, hi]
        simp [entK]
      · simp [e]
    · intro q
      rw [valK_set l i _ b he.keys hi, he.val]
    · rw [List.map_set]
      have : (l.map (·.1)).set i p = l.map (·.1) := by
        apply List.ext_getElem?
        intro k
        rw [List.getElem?_set]
        by_cases e : i = k
        · subst e; rw [if_pos rfl, List.length_map, if_pos hil, List.getElem?_map, hi]; rfl
        · simp [e]
      rw [this]; exact he.keys
    · rw [List.map_set]
      have : (l.map (·.2.2)).set i b = l.map (·.2.2) := by
        apply List.ext_getElem?
        intro k
        rw [List.getElem?_set]
        by_cases e : i = k
        · subst e; rw [if_pos rfl, List.length_map, if_pos hil, List.getElem?_map, hi]; rfl
        · simp [e]
      rw [this]; exact he.borns
    · intro x hx
      rcases List.mem_or_eq_of_mem_set hx with hx | rfl
      · exact he.below x hx
      · exact he.below (p, valK p l, b) (List.mem_of_getElem? hi)
end
end Go.Vm

namespace Go.Vm.Bt
open Go.Proofs Go.Vm.Vat Go.Vm.L2
set_option linter.unusedSimpArgs false
set_option linter.unusedVariables false
set_option maxRecDepth 10000
variable {n : Nat} {h : AHeap}
theorem two139 : Two Try.prog 139 := ⟨⟨_, _, Try.underlying139, by decide, by decide, rfl, rfl, by rfl, by rfl⟩, by kernel_rfl⟩
theorem key139 : KeyOk Try.prog 139 key2 := keyOk2 two139
theorem x_mapUpdate {P : Program} {cf : CallF} {N : Nat} {f : Go.Vm.Fr} {kt : TypeId} {m k x : Operand} : sem P cf N f h (.mapUpdate kt m k x) = mapUpdateA P kt h (val f m) (val f k) (val f x) := id rfl
noncomputable def verdV (S : MB) (v : Nat) (hh : Int) : Int := if bHi S v ≤ hh then 1 else if hh < bLo S v then 2 else 3
noncomputable def vmK (S : MB) (k j : Nat) (p : Int × Int) : Int := if 0 ≤ p.1 ∧ 0 ≤ p.2 ∧ (p.1 < (k : Int) ∧ p.2 ≤ S.last ∨ p.1 = (k : Int) ∧ p.2 < (j : Int)) then verdV S p.1.toNat p.2 else 0
theorem vmK_zero {S : MB} : vmK S 0 0 = fun _ => 0 := by
  funext p
  unfold vmK
  rw [if_neg]
  rintro ⟨h1, h2, h3 | h3⟩ <;> omega
theorem vmK_step {S : MB} {k j : Nat} : (fun q : Int × Int => if q = ((k : Int), (j : Int)) then verdV S k j else vmK S k j q) = vmK S k (j + 1) := by
  funext q
  obtain ⟨a, b⟩ := q
  by_cases e : (a, b) = ((k : Int), (j : Int))
  · rw [if_pos e]
    simp only [Prod.mk.injEq] at e
    obtain ⟨rfl, rfl⟩ := e
    unfold vmK
    rw [if_pos ⟨by simp, by simp, .inr ⟨rfl, by simp only; omega⟩⟩]
    simp
  · rw [if_neg e]
    simp only [Prod.mk.injEq] at e
    unfold vmK
    have : (0 ≤ a ∧ 0 ≤ b ∧ (a < (k : Int) ∧ b ≤ S.last ∨ a = (k : Int) ∧ b < (j : Int))) ↔ (0 ≤ a ∧ 0 ≤ b ∧ (a < (k : Int) ∧ b ≤ S.last ∨ a = (k : Int) ∧ b < ((j + 1 : Nat) : Int))) := by omega
    simp only [this]
theorem vmK_end {S : MB} {k j : Nat} (hj : (j : Int) = S.last + 1) : vmK S k j = vmK S (k + 1) 0 := by
  funext q
  obtain ⟨a, b⟩ := q
  unfold vmK
  have : (0 ≤ a ∧ 0 ≤ b ∧ (a < (k : Int) ∧ b ≤ S.last ∨ a = (k : Int) ∧ b < (j : Int))) ↔ (0 ≤ a ∧ 0 ≤ b ∧ (a < ((k + 1 : Nat) : Int) ∧ b ≤ S.last ∨ a = ((k + 1 : Nat) : Int) ∧ b < ((0 : Nat) : Int))) := by omega
  simp only [this]
def s91 : SCode := (.seq (.ops [⟨(some 1), none, .box (T 0)⟩, ⟨(some 2), none, .mov (.const (.map none))⟩]) (.seq (.ops [⟨(some 7), none, .mkmap⟩, ⟨(some 3), none, .mov (T 7)⟩]) (.seq (.seq (.ops [⟨(some 8), none, .fieldAddr 0 (T 1)⟩, ⟨(some 9), none, .fieldAddr 2 (T 8)⟩, ⟨(some 10), none, .load1 (T 9)⟩, ⟨(some 11), none, .len (T 10)⟩, ⟨(some 12), none, .mov (.const (.int .i64 (0)))⟩]) (.block 0 (.loop (.seq (.ops [⟨(some 13), none, .int2 .lss (T 12) (T 11)⟩]) (.seq (.cond (T 13) .skip (.exit 0)) (.seq (.block 1 (.seq (.ops [⟨(some 14), none, .mov (T 12)⟩, ⟨(some 4), none, .mov (T 14)⟩]) (.seq (.ops [⟨(some 15), none, .loadN 6 (T 1)⟩, ⟨(some 16), none, .mov (T 4)⟩, ⟨(some 17), none, .call (.func 87) [(T 15), (T 16)]⟩, ⟨(some 5), none, .alloc [(.int .i64 (0)), (.int .i64 (0))]⟩, ⟨none, none, .store 2 (T 5) (T 17)⟩]) (.seq (.ops [⟨(some 18), none, .fieldAddr 0 (T 1)⟩, ⟨(some 19), none, .fieldAddr 3 (T 18)⟩, ⟨(some 20), none, .load1 (T 19)⟩, ⟨(some 21), none, .int2 .add (T 20) (.const (.int .i64 (1)))⟩, ⟨(some 22), none, .mov (.const (.int .i64 (0)))⟩]) (.block 2 (.loop (.seq (.ops [⟨(some 23), none, .int2 .lss (T 22) (T 21)⟩]) (.seq (.cond (T 23) .skip (.exit 2)) (.seq (.block 3 (.seq (.ops [⟨(some 24), none, .mov (T 22)⟩, ⟨(some 6), none, .mov (T 24)⟩]) (.block 4 (.seq (.ops [⟨(some 30), none, .fieldAddr 1 (T 5)⟩, ⟨(some 31), none, .load1 (T 30)⟩, ⟨(some 32), none, .mov (T 6)⟩, ⟨(some 33), none, .int2 .leq (T 31) (T 32)⟩, ⟨(some 29), none, .mov (T 33)⟩]) (.cond (T 29) (.ops [⟨(some 34), none, .mov (T 3)⟩, ⟨(some 35), none, .mov (T 4)⟩, ⟨(some 36), none, .mov (T 6)⟩, ⟨(some 37), none, .build #[(0, 1), (1, 1)] [(.int .i64 (0)), (.int .i64 (0))] [0, 1] [(T 35), (T 36)]⟩, ⟨none, none, .mapUpdate 139 (T 34) (T 37) (.const (.int .i64 (1)))⟩]) (.seq (.ops [⟨(some 39), none, .mov (T 6)⟩, ⟨(some 40), none, .fieldAddr 0 (T 5)⟩, ⟨(some 41), none, .load1 (T 40)⟩, ⟨(some 42), none, .int2 .lss (T 39) (T 41)⟩, ⟨(some 38), none, .mov (T 42)⟩]) (.cond (T 38) (.ops [⟨(some 43), none, .mov (T 3)⟩, ⟨(some 44), none, .mov (T 4)⟩, ⟨(some 45), none, .mov (T 6)⟩, ⟨(some 46), none, .build #[(0, 1), (1, 1)] [(.int .i64 (0)), (.int .i64 (0))] [0, 1] [(T 44), (T 45)]⟩, ⟨none, none, .mapUpdate 139 (T 43) (T 46) (.const (.int .i64 (2)))⟩]) (.ops [⟨(some 25), none, .mov (T 3)⟩, ⟨(some 26), none, .mov (T 4)⟩, ⟨(some 27), none, .mov (T 6)⟩, ⟨(some 28), none, .build #[(0, 1), (1, 1)] [(.int .i64 (0)), (.int .i64 (0))] [0, 1] [(T 26), (T 27)]⟩, ⟨none, none, .mapUpdate 139 (T 25) (T 28) (.const (.int .i64 (3)))⟩])))))))) (.ops [⟨(some 47), none, .int2 .add (T 22) (.const (.int .i64 (1)))⟩, ⟨(some 22), none, .mov (T 47)⟩])))))))))) (.ops [⟨(some 48), none, .int2 .add (T 12) (.const (.int .i64 (1)))⟩, ⟨(some 12), none, .mov (T 48)⟩]))))))) (.seq (.ops [⟨(some 49), none, .mov (T 3)⟩, ⟨(some 2), none, .mov (T 49)⟩]) .ret))))
theorem fok91 : FnOk Try.prog 91 50 s91 [.tmp 2] := ⟨Try.f91, _, Try.func91, rfl, Try.ntmps91, by kernel_rfl, by kernel_rfl⟩
set_option maxHeartbeats 2000000 in
theorem verdicts_c (hn : 800 ≤ n) (hr : h.next + 7000 < far) (hfl : h.floor ≤ h.next) {vv sv tv : Value} {S : MB} (ho : OpS h vv sv tv S) :
    ∃ r h', call n (.func (.func 91) #[] #[]) [.agg ⟨wkL S vv sv tv⟩] h = some (.map (some r), h') ∧ MapF h' r key2 (vmK S S.nv 0) ∧ h.next ≤ r ∧ (∀ i, i < h.next → h'.get i = h.get i) ∧ h.next ≤ h'.next ∧ h'.next ≤ h.next + 20 ∧ h'.floor = h.floor := by
  obtain ⟨n, rfl⟩ : ∃ p, n = p + 1 := ⟨n - 1, by omega⟩
  obtain ⟨z0, z1, z3, _⟩ := ho.good.sizes
  suffices hsf : ∃ vv' h', call (n + 1) (.func (.func 91) #[] #[]) [.agg ⟨wkL S vv sv tv⟩] h = some (vv', h') ∧ ∃ r, vv' = .map (some r) ∧ MapF h' r key2 (vmK S S.nv 0) ∧ h.next ≤ r ∧ (∀ i, i < h.next → h'.get i = h.get i) ∧ h.next ≤ h'.next ∧ h'.next ≤ h.next + 20 ∧ h'.floor = h.floor by
    obtain ⟨_, h', e, r, rfl, q⟩ := hsf
    exact ⟨r, h', e, q⟩
  refine call_any0 fok91 rfl rfl (by simp) ?_
  simp only [s91, W_seq, W_ops]
  refine ops_box (cs := wkL S vv sv tv) (by omega) rfl (wk_one ho.y ho.one) fun g1 hx1 => ?_
  have n1 := hx1.next
  have f1 := hx1.floor
  obtain ⟨g2, em, hm2, ho2, n2, f2⟩ := mkmapF (h := g1) (by omega) key2
  have s12 : Sub All g1 g2 := AHeap.subOf ho2
  have r2 := hx1.row.mono s12
  have hop2 := ho.mono (hx1.sub.trans s12)
  have hlast : wrapF .i64 (S.last + 1) = S.last + 1 := wrap_in (by omega) (by omega)
  obtain ⟨W, hW⟩ : ∃ W : Nat, (W : Int) = S.last + 1 := ⟨(S.last + 1).toNat, by omega⟩
  rw [← vmK_zero (S := S)] at hm2
  simp only [rn0, rn1, rn2, rn3, rn4, rn5, rn6, rn7, rn8, if_true, if_false, Nat.le_refl, true_and, and_true, decide_true, decide_false, Bool.not_true, Bool.not_false, reduceIte, Nat.reduceEqDiff, Nat.reduceAdd, Nat.reduceMul, Nat.reduceSub, Nat.reduceLeDiff, Nat.reduceLT, x_mkmap, em, r2.ld, wkg, Nat.zero_add, Cells.len hop2.y.v]
  refine W_loop S.nv (fun k f g ms => ((∀ i, i ≠ g1.next → i < g2.next → g.get i = g2.get i) ∧ MapF g g1.next key2 (vmK S k 0) ∧ g2.next ≤ g.next ∧ g.next ≤ g2.next + 2 * k ∧ g.floor = h.floor) ∧ ms = [] ∧ f 1 = .pointer (some ⟨h.next, 0, none⟩) ∧ f 3 = .map (some g1.next) ∧ f 11 = .int .i64 (S.nv : Int) ∧ f 12 = .int .i64 (k : Int)) (by simp; omega) ?_ ?_ ?_
  · simp only [rn0, rn1, rn2, rn3, rn4, rn5, rn6, rn7, rn8, if_true, if_false, Nat.le_refl, true_and, and_true, decide_true, decide_false, Bool.not_true, Bool.not_false, reduceIte, Nat.reduceEqDiff, Nat.reduceAdd, Nat.reduceMul, Nat.reduceSub, Nat.reduceLeDiff, Nat.reduceLT, Int.natCast_zero]
    first | exact ⟨fun _ _ _ => trivial, hm2, by omega, by omega⟩ | exact ⟨⟨fun _ _ _ => trivial, hm2, by omega, by omega⟩, rfl⟩
  · rintro k f g ms hk ⟨⟨og, mg, ug, ng, fg⟩, rfl, p1, p3, p11, p12⟩
    have hk' : (k : Int) < (S.nv : Int) := by omega
    have hw : wrapF .i64 ((k : Int) + 1) = ((k + 1 : Nat) : Int) := by rw [wrap_in (by omega) (by omega)]; rfl
    have oldg : ∀ i, i < g1.next → g.get i = g1.get i := fun i hi => by rw [og i (by omega) (by omega), ho2 i hi]
    have rg : Row g h.next (wkL S vv sv tv) := hx1.row.mono (AHeap.subOf oldg)
    have hog : OpS g vv sv tv S := (ho.mono hx1.sub).mono (AHeap.subOf oldg)
    have ed := whenDone_c (n := n) (h := g) (by omega) (by omega) hog hk
    simp only [rn0, rn1, rn2, rn3, rn4, rn5, rn6, rn7, rn8, if_true, if_false, Nat.le_refl, true_and, and_true, decide_true, decide_false, Bool.not_true, Bool.not_false, reduceIte, Nat.reduceEqDiff, Nat.reduceAdd, Nat.reduceMul, Nat.reduceSub, Nat.reduceLeDiff, Nat.reduceLT, p1, p3, p11, p12, hk', rg.whole (n := 6) rfl, ed]
    refine step_new (vs := [.int .i64 (bLo S k), .int .i64 (bHi S k)]) (by omega) (by omega) rfl (by simp only [rn0, rn1, rn2, rn3, rn4, rn5, rn6, rn7, rn8, if_true, if_false, Nat.le_refl, true_and, and_true, decide_true, decide_false, Bool.not_true, Bool.not_false, reduceIte, Nat.reduceEqDiff, Nat.reduceAdd, Nat.reduceMul, Nat.reduceSub, Nat.reduceLeDiff, Nat.reduceLT]; rfl) rfl rfl rfl fun g4 hx4 => ?_
    have n4 := hx4.next
    have f4 := hx4.floor
    have rg4 := rg.mono hx4.sub
    have mg4 : MapF g4 g1.next key2 (vmK S k 0) := mg.keep (hx4.old _ mg.lt)
    simp only [rn0, rn1, rn2, rn3, rn4, rn5, rn6, rn7, rn8, if_true, if_false, Nat.le_refl, true_and, and_true, decide_true, decide_false, Bool.not_true, Bool.not_false, reduceIte, Nat.reduceEqDiff, Nat.reduceAdd, Nat.reduceMul, Nat.reduceSub, Nat.reduceLeDiff, Nat.reduceLT, p1, p3, p11, p12, rg4.ld, wkg, Nat.zero_add, hlast]
    rw [← hW]
    refine W_loop W (fun j f g' ms => ((∀ i, i ≠ g1.next → g'.get i = g4.get i) ∧ MapF g' g1.next key2 (vmK S k j) ∧ g'.next = g4.next ∧ g'.floor = g4.floor) ∧ ms = [] ∧ f 1 = .pointer (some ⟨h.next, 0, none⟩) ∧ f 3 = .map (some g1.next) ∧ f 4 = .int .i64 (k : Int) ∧ f 5 = .pointer (some ⟨g.next, 0, none⟩) ∧ f 11 = .int .i64 (S.nv : Int) ∧ f 12 = .int .i64 (k : Int) ∧ f 21 = .int .i64 (W : Int) ∧ f 22 = .int .i64 (j : Int)) (by simp; omega) ?_ ?_ ?_
    · simp only [rn0, rn1, rn2, rn3, rn4, rn5, rn6, rn7, rn8, if_true, if_false, Nat.le_refl, true_and, and_true, decide_true, decide_false, Bool.not_true, Bool.not_false, reduceIte, Nat.reduceEqDiff, Nat.reduceAdd, Nat.reduceMul, Nat.reduceSub, Nat.reduceLeDiff, Nat.reduceLT, p1, p3, p11, p12, Int.natCast_zero]
      first | exact ⟨fun _ _ => trivial, mg4⟩ | exact ⟨⟨fun _ _ => trivial, mg4⟩, rfl⟩ | exact mg4
    · rintro j f g' ms hj ⟨⟨og', mg', ng', fg'⟩, rfl, p1, p3, p4, p5, p11, p12, p21, p22⟩
      have hj' : (j : Int) < (W : Int) := by omega
      have hwj : wrapF .i64 ((j : Int) + 1) = ((j + 1 : Nat) : Int) := by rw [wrap_in (by omega) (by omega)]; rfl
      have hne : g.next ≠ g1.next := by omega
      have rd' : Row g' g.next [.int .i64 (bLo S k), .int .i64 (bHi S k)] := ⟨_, _, by rw [og' _ hne]; exact hx4.get⟩
      have l0 : ([Value.int .i64 (bLo S k), .int .i64 (bHi S k)] : List Value)[0]? = some (.int .i64 (bLo S k)) := rfl
      have l1 : ([Value.int .i64 (bLo S k), .int .i64 (bHi S k)] : List Value)[1]? = some (.int .i64 (bHi S k)) := rfl
      have upd : ∀ c, verdV S k j = c → ∃ g5, mapUpdateA Try.prog 139 g' (.map (some g1.next)) (.agg ⟨[.int .i64 (k : Int), .int .i64 (j : Int)]⟩) (.int .i64 c) = some (undef, g5) ∧ MapF g5 g1.next key2 (vmK S k (j + 1)) ∧ (∀ i, i ≠ g1.next → g5.get i = g4.get i) ∧ g5.next = g4.next ∧ g5.floor = g4.floor := fun c hc => by
        obtain ⟨g5, e5, hm5, ht5⟩ := updateF (h := g') key139 mg' (by omega) (by omega) ((k : Int), (j : Int)) c
        rw [← hc, vmK_step] at hm5
        exact ⟨g5, e5, hm5, fun i hi => by rw [ht5.old i hi, og' i hi], by rw [ht5.next, ng'], by rw [ht5.floor, fg']⟩
      by_cases c1 : bHi S k ≤ (j : Int)
      · obtain ⟨g5, e5, hm5, o5, n5, f5⟩ := upd 1 (by unfold verdV; rw [if_pos c1])
        simp only [rn0, rn1, rn2, rn3, rn4, rn5, rn6, rn7, rn8, if_true, if_false, Nat.le_refl, true_and, and_true, decide_true, decide_false, Bool.not_true, Bool.not_false, reduceIte, Nat.reduceEqDiff, Nat.reduceAdd, Nat.reduceMul, Nat.reduceSub, Nat.reduceLeDiff, Nat.reduceLT, p1, p3, p4, p5, p11, p12, p21, p22, hj', rd'.ld, Nat.zero_add, l1, c1, build_range, x_mapUpdate, e5, hwj]
        first | exact ⟨o5, hm5, n5, f5⟩ | exact ⟨⟨o5, hm5, n5, f5⟩, rfl⟩
      · by_cases c2 : (j : Int) < bLo S k
        · obtain ⟨g5, e5, hm5, o5, n5, f5⟩ := upd 2 (by unfold verdV; rw [if_neg c1, if_pos c2])
          simp only [rn0, rn1, rn2, rn3, rn4, rn5, rn6, rn7, rn8, if_true, if_false, Nat.le_refl, true_and, and_true, decide_true, decide_false, Bool.not_true, Bool.not_false, reduceIte, Nat.reduceEqDiff, Nat.reduceAdd, Nat.reduceMul, Nat.reduceSub, Nat.reduceLeDiff, Nat.reduceLT, p1, p3, p4, p5, p11, p12, p21, p22, hj', rd'.ld, Nat.zero_add, l0, l1, c1, c2, build_range, x_mapUpdate, e5, hwj]
          first | exact ⟨o5, hm5, n5, f5⟩ | exact ⟨⟨o5, hm5, n5, f5⟩, rfl⟩
        · obtain ⟨g5, e5, hm5, o5, n5, f5⟩ := upd 3 (by unfold verdV; rw [if_neg c1, if_neg c2])
          simp only [rn0, rn1, rn2, rn3, rn4, rn5, rn6, rn7, rn8, if_true, if_false, Nat.le_refl, true_and, and_true, decide_true, decide_false, Bool.not_true, Bool.not_false, reduceIte, Nat.reduceEqDiff, Nat.reduceAdd, Nat.reduceMul, Nat.reduceSub, Nat.reduceLeDiff, Nat.reduceLT, p1, p3, p4, p5, p11, p12, p21, p22, hj', rd'.ld, Nat.zero_add, l0, l1, c1, c2, build_range, x_mapUpdate, e5, hwj]
          first | exact ⟨o5, hm5, n5, f5⟩ | exact ⟨⟨o5, hm5, n5, f5⟩, rfl⟩
    · rintro f g' ms ⟨⟨og', mg', ng', fg'⟩, rfl, p1, p3, p4, p5, p11, p12, p21, p22⟩
      rw [vmK_end hW] at mg'
      simp only [rn0, rn1, rn2, rn3, rn4, rn5, rn6, rn7, rn8, if_true, if_false, Nat.le_refl, true_and, and_true, decide_true, decide_false, Bool.not_true, Bool.not_false, reduceIte, Nat.reduceEqDiff, Nat.reduceAdd, Nat.reduceMul, Nat.reduceSub, Nat.reduceLeDiff, Nat.reduceLT, p1, p3, p4, p5, p11, p12, p21, p22, Int.lt_irrefl, hw]
      have fin := And.intro (fun i (h1 : i ≠ g1.next) (h2 : i < g2.next) => (by rw [og' i h1, hx4.old i (by omega), og i h1 h2] : g'.get i = g2.get i)) (And.intro mg' (And.intro (by omega : g2.next ≤ g'.next) (And.intro (by omega : g'.next ≤ g2.next + 2 * (k + 1)) (by omega : g'.floor = h.floor))))
      first | exact fin | exact ⟨fin, rfl⟩
  · rintro f g ms ⟨⟨og, mg, ug, ng, fg⟩, rfl, p1, p3, p11, p12⟩
    simp only [rn0, rn1, rn2, rn3, rn4, rn5, rn6, rn7, rn8, if_true, if_false, Nat.le_refl, true_and, and_true, decide_true, decide_false, Bool.not_true, Bool.not_false, reduceIte, Nat.reduceEqDiff, Nat.reduceAdd, Nat.reduceMul, Nat.reduceSub, Nat.reduceLeDiff, Nat.reduceLT, p1, p3, p11, p12, Int.lt_irrefl]
    exact ⟨_, rfl, mg, by omega, fun i hi => by rw [og i (by omega) (by omega), ho2 i (by omega), hx1.old i hi], by omega, by omega, by omega⟩
end Go.Vm.Bt

namespace Go.Vm.Bt
open Go.Proofs Go.Vm.Vat Go.Vm.L2
set_option linter.unusedSimpArgs false
set_option linter.unusedVariables false
set_option maxRecDepth 10000
variable {n : Nat} {h : AHeap}
end Go.Vm.Bt

namespace Go.Vm.Bt
open Go.Proofs Go.Vm.Vat Go.Vm.L2
set_option linter.unusedSimpArgs false
set_option linter.unusedVariables false
set_option maxRecDepth 10000
variable {n : Nat} {h : AHeap}
abbrev uSz (S : MB) : Nat → Nat := sz (uLo S) (uHi S)
theorem Good.sz {S : MB} (hG : Good S) {j : Nat} (hj : j < numU S) : ((uSz S j : Nat) : Int) = uHi S j - uLo S j + 1 ∧ 1 ≤ uSz S j ∧ uSz S j ≤ 10 := by
  obtain ⟨h1, h2, h3⟩ := hG.u j hj
  have : ((uSz S j : Nat) : Int) = uHi S j - uLo S j + 1 := Int.toNat_of_nonneg (by omega)
  omega
end Go.Vm.Bt

namespace Go.Vm.Bt
open Go.Proofs Go.Vm.Vat Go.Vm.L2
set_option linter.unusedSimpArgs false
set_option linter.unusedVariables false
set_option maxRecDepth 10000
variable {n : Nat} {h : AHeap}
structure CouIn (h : AHeap) (v r1 : Value) (S : MB) (u : Nat → Int) : Prop where
  cou : CouR h r1 S u
  b1 : ∀ x m c, r1 = .slice (some x) m c → x.block < h.next ∧ NeB v x.block
def cosC (l : List (Nat → Int)) (R1 : Nat → Value) (k j : Nat) : Value := if j = 0 then .int .i64 ((l.getD k fun _ => 0) 0) else R1 k
structure CosG (B : Nat) (h : AHeap) (v : Value) (S : MB) (l : List (Nat → Int)) (R1 : Nat → Value) : Prop where
  g : GrowC B h v 2 l.length (cosC l R1)
  t : ∀ k, k < l.length → CouIn h v (R1 k) S (l.getD k fun _ => 0)
def CoursesL (h : AHeap) (v : Value) (S : MB) (l : List (Nat → Int)) : Prop := ∃ R1 : Nat → Value, Cells h v 2 l.length (cosC l R1) ∧ ∀ k, k < l.length → CouR h (R1 k) S (l.getD k fun _ => 0)
theorem CoursesL.mono {g : AHeap} {v : Value} {S : MB} {l : List (Nat → Int)} (hc : CoursesL h v S l) (hs : Sub All h g) : CoursesL g v S l := by
  obtain ⟨R, h1, h2⟩ := hc
  exact ⟨R, h1.mono hs, fun k hk => Cells.mono (h2 k hk) hs⟩
theorem CosG.nil {B : Nat} {S : MB} : CosG B h nilS S [] (fun _ => nilS) := ⟨.nil, fun k hk => absurd hk (Nat.not_lt_zero _)⟩
theorem CouIn.old {g : AHeap} {v r1 : Value} {S : MB} {u : Nat → Int} (ht : CouIn h v r1 S u) (ho : ∀ i, i < h.next → NeB v i → g.get i = h.get i) (hn : h.next ≤ g.next) : CouIn g v r1 S u :=
  ⟨cells_at ht.cou fun a k c e hlt => ho _ hlt (ht.b1 a k c e).2, fun x m c e => ⟨by have := (ht.b1 x m c e).1; omega, (ht.b1 x m c e).2⟩⟩
theorem CosG.old {B : Nat} {g : AHeap} {v : Value} {S : MB} {l : List (Nat → Int)} {R1 : Nat → Value} (ht : CosG B h v S l R1) (ho : ∀ i, i < h.next → g.get i = h.get i) (hn : h.next ≤ g.next) : CosG B g v S l R1 :=
  ⟨GrowC.at' ht.g fun a k c e => ho _ (ht.g.block e).2, fun k hk => (ht.t k hk).old (fun i hi _ => ho i hi) hn⟩
theorem CosG.push {B : Nat} {g1 : AHeap} {v r1 : Value} {S : MB} {l : List (Nat → Int)} {R1 : Nat → Value} {u : Nat → Int} (ht : CosG B h v S l R1) (hB : h.floor ≤ B) (hf : h.next + 2 < far) (hBn : B ≤ h.next) (hx : New h g1 (coL (u 0) r1) 0) (hu : CouIn h v r1 S u) (o1 : oneCell r1 = true) (hl : l.length ≤ 5000) :
    ∃ v' g2, appendA 2 32 g1 v (.slice (some ⟨h.next, 0, none⟩) 1 1) = some (v', g2) ∧ CosG B g2 v' S (l ++ [u]) (fun k => if k = l.length then r1 else R1 k) ∧ oneCell v' = true ∧ g2.next = h.next + 2 ∧ g2.floor = h.floor ∧ (∀ i, i < h.next → NeB v i → g2.get i = h.get i) := by
  have hlen : (l ++ [u]).length = l.length + 1 := by simp
  have hg : GrowC B h v 2 l.length (cosC (l ++ [u]) (fun k => if k = l.length then r1 else R1 k)) := growC_congr ht.g fun k j hk hj => by
    have : ¬ k = l.length := by omega
    simp only [cosC, this, if_false]
    rw [List.getD_eq_getElem?_getD, List.getD_eq_getElem?_getD, List.getElem?_append_left hk]
  obtain ⟨g2, e, gv, n2, f2, o2', u2⟩ := grow_push3 (bytes := 32) hg hB hf hBn hx rfl (by simp [coL, allB, o1, one_int]) (fun j hj => by
    have hlast : ((l ++ [u]).getD l.length fun _ => 0) = u := by rw [List.getD_eq_getElem?_getD, List.getElem?_append_right (Nat.le_refl _)]; simp
    simp only [cosC, if_true, hlast]
    rcases j with _ | _ | j
    · rfl
    · rfl
    · omega) (by simp [maxBytes]; omega) (by simp [maxBytes]; omega)
  refine ⟨_, g2, e, ⟨by rw [hlen]; exact gv, fun k hk => ?_⟩, rfl, n2, f2, o2'⟩
  have fresh : ∀ i, i < h.next → NeB (.slice (some ⟨h.next + 1, 0, none⟩) (l.length + 1) unk) i := fun i hi b m c e => by cases e; show i ≠ h.next + 1; omega
  have re : ∀ {a : Value} {w : Nat → Int}, CouIn h v a S w → CouIn g2 (.slice (some ⟨h.next + 1, 0, none⟩) (l.length + 1) unk) a S w := fun {a w} hi => by
    have h1 := hi.old (g := g2) o2' (by omega)
    exact ⟨h1.cou, fun x m c e => ⟨(h1.b1 x m c e).1, fresh _ (hi.b1 x m c e).1⟩⟩
  by_cases c : k = l.length
  · subst c
    have hlast : ((l ++ [u]).getD l.length fun _ => 0) = u := by rw [List.getD_eq_getElem?_getD, List.getElem?_append_right (Nat.le_refl _)]; simp
    simp only [if_true, hlast]
    exact re hu
  · have hk' : k < l.length := by omega
    simp only [c, if_false]
    rw [List.getD_eq_getElem?_getD, List.getElem?_append_left hk', ← List.getD_eq_getElem?_getD]
    exact re (ht.t k hk')
def s67 : SCode := (.seq (.ops [⟨(some 1), none, .box (T 0)⟩, ⟨(some 2), none, .mov (.const (.slice none 0 0))⟩]) (.seq (.ops [⟨(some 3), none, .mov (.const (.slice none 0 0))⟩]) (.seq (.seq (.ops [⟨(some 4), none, .mov (.const (.int .i64 (0)))⟩]) (.block 0 (.loop (.seq (.seq (.ops [⟨(some 6), none, .mov (T 4)⟩, ⟨(some 7), none, .loadN 5 (T 1)⟩, ⟨(some 8), none, .call (.func 70) [(T 7)]⟩, ⟨(some 9), none, .int2 .lss (T 6) (T 8)⟩]) (.cond (T 9) .skip (.exit 0))) (.seq (.block 1 (.seq (.ops [⟨(some 12), none, .loadN 5 (T 1)⟩, ⟨(some 13), none, .mov (T 4)⟩, ⟨(some 14), none, .call (.func 69) [(T 12), (T 13)]⟩, ⟨(some 5), none, .alloc [(.int .i64 (0)), (.slice none 0 0)]⟩, ⟨none, none, .store 2 (T 5) (T 14)⟩]) (.seq (.draw [⟨.rd1, ⟨(some 15), none, .loadN 5 (T 1)⟩⟩, ⟨.rd1, ⟨(some 16), none, .loadN 2 (T 5)⟩⟩, ⟨.up, ⟨(some 17), none, .call (.func 85) [(T 15), (T 16)]⟩⟩, ⟨.rd, ⟨(some 18), none, .loadN 5 (T 1)⟩⟩, ⟨.any, ⟨(some 19), none, .call (.func 75) [(T 18)]⟩⟩, ⟨.free, ⟨(some 20), none, .int2 .eql (T 17) (T 19)⟩⟩]) (.cond (T 20) (.ops [⟨(some 21), none, .mov (T 3)⟩, ⟨(some 22), none, .loadN 2 (T 5)⟩, ⟨(some 23), none, .bslice 2 1 [(.int .i64 (0)), (.slice none 0 0)] [0] [(T 22)]⟩, ⟨(some 24), none, .append 2 32 (T 21) (T 23)⟩, ⟨(some 3), none, .mov (T 24)⟩]) .skip)))) (.ops [⟨(some 10), none, .mov (T 4)⟩, ⟨(some 11), none, .int2 .add (T 10) (.const (.int .i64 (1)))⟩, ⟨(some 4), none, .mov (T 11)⟩])))))) (.seq (.ops [⟨(some 25), none, .mov (T 3)⟩, ⟨(some 2), none, .mov (T 25)⟩]) .ret))))
end Go.Vm.Bt

namespace Go.Vm.Bt
open Go.Proofs Go.Vm.Vat Go.Vm.L2
set_option linter.unusedSimpArgs false
set_option linter.unusedVariables false
set_option maxRecDepth 10000
variable {n : Nat} {h : AHeap}
noncomputable def errF (S : MB) (fine : Bool) : Int := open Classical in if faultS S ≠ 0 then faultS S else if fine = false then 2 else if truthsS S = [] then 11 else 0
theorem errF_s {S : MB} : errF S true = errS S := by unfold errF errS; simp
def s46 : SCode := (.seq (.ops [⟨(some 3), none, .box (T 0)⟩, ⟨(some 6), none, .alloc [(.int .i64 (0)), (.int .i64 (0))]⟩]) (.seq (.ops [⟨(some 10), none, .build #[(0, 1), (1, 1)] [(.int .i64 (0)), (.int .i64 (0))] [0, 1] [(.const (.int .i64 (1099511627776))), (.const (.int .i64 (-1)))]⟩, ⟨(some 7), none, .alloc [(.int .i64 (0)), (.int .i64 (0))]⟩, ⟨none, none, .store 2 (T 7) (T 10)⟩]) (.seq (.seq (.ops [⟨(some 8), none, .mov (.const (.int .i64 (0)))⟩]) (.block 0 (.loop (.seq (.seq (.ops [⟨(some 11), none, .mov (T 8)⟩, ⟨(some 12), none, .mov (T 1)⟩, ⟨(some 13), none, .len (T 12)⟩, ⟨(some 14), none, .int2 .lss (T 11) (T 13)⟩]) (.cond (T 14) .skip (.exit 0))) (.seq (.block 1 (.seq (.draw [⟨.rd1, ⟨(some 17), none, .loadN 5 (T 3)⟩⟩, ⟨.free, ⟨(some 18), none, .mov (T 1)⟩⟩, ⟨.free, ⟨(some 19), none, .mov (T 8)⟩⟩, ⟨.free, ⟨(some 20), none, .idxSl 2 (T 18) (T 19)⟩⟩, ⟨.rd1, ⟨(some 21), none, .loadN 2 (T 20)⟩⟩, ⟨.free, ⟨(some 22), none, .mov (T 2)⟩⟩, ⟨.any, ⟨(some 23), none, .call (.func 95) [(T 17), (T 21), (T 22)]⟩⟩, ⟨.free, ⟨(some 9), none, .mov (T 23)⟩⟩]) (.ops [⟨(some 24), none, .fieldAddr 0 (T 7)⟩, ⟨(some 25), none, .load1 (T 24)⟩, ⟨(some 26), none, .mov (T 9)⟩, ⟨(some 27), none, .plain (.call { callee := .builtin .min, args := #[(T 25), (T 26)], argTypes := #[3, 3] }) 3⟩, ⟨(some 28), none, .fieldAddr 1 (T 7)⟩, ⟨(some 29), none, .load1 (T 28)⟩, ⟨(some 30), none, .mov (T 9)⟩, ⟨(some 31), none, .plain (.call { callee := .builtin .max, args := #[(T 29), (T 30)], argTypes := #[3, 3] }) 3⟩, ⟨(some 32), none, .build #[(0, 1), (1, 1)] [(.int .i64 (0)), (.int .i64 (0))] [0, 1] [(T 27), (T 31)]⟩, ⟨none, none, .store 2 (T 7) (T 32)⟩]))) (.ops [⟨(some 15), none, .mov (T 8)⟩, ⟨(some 16), none, .int2 .add (T 15) (.const (.int .i64 (1)))⟩, ⟨(some 8), none, .mov (T 16)⟩])))))) (.seq (.ops [⟨(some 33), none, .loadN 2 (T 7)⟩, ⟨none, none, .store 2 (T 6) (T 33)⟩]) .ret))))
end Go.Vm.Bt

namespace Go.Vm.Bt
open Go.Proofs Go.Vm.Vat Go.Vm.L2
set_option linter.unusedSimpArgs false
set_option linter.unusedVariables false
set_option maxRecDepth 10000
variable {n : Nat} {h : AHeap}
def s88 : SCode := (.seq (.ops [⟨(some 3), none, .box (T 0)⟩, ⟨(some 4), none, .mov (.const (.bool false))⟩]) (.seq (.ops [⟨(some 5), none, .loadN 6 (T 3)⟩, ⟨(some 6), none, .load1 (T 1)⟩, ⟨(some 7), none, .call (.func 89) [(T 5), (T 6)]⟩, ⟨(some 8), none, .mov (T 7)⟩, ⟨(some 9), (some (8, true)), .loadN 6 (T 3)⟩, ⟨(some 10), (some (8, true)), .load1 (T 2)⟩, ⟨(some 11), (some (8, true)), .call (.func 90) [(T 9), (T 10)]⟩, ⟨(some 12), none, .pick (T 8) (T 11) (.const (.bool false))⟩, ⟨(some 4), none, .mov (T 12)⟩]) .ret))
theorem fok88 : FnOk Try.prog 88 13 s88 [.tmp 4] := ⟨Try.f88, _, Try.func88, rfl, Try.ntmps88, by kernel_rfl, by kernel_rfl⟩
theorem done1_c (hn : 120 ≤ n) (hr : h.next + 110 < far) {vv sv : Value} {S : MB} {a b : Int} {p q : Nat} (hy : BeatR h vv sv S) (hp : Row h p [.int .i64 a]) (hq : Row h q [.int .i64 b]) :
    call n (.func (.func 88) ⟨[]⟩ ⟨[.pointer (some ⟨p, 0, none⟩), .pointer (some ⟨q, 0, none⟩)]⟩) [.agg ⟨wkL S vv sv nilS⟩] h = some (.bool (decide ((0 ≤ a ∧ a ≤ (S.nv : Int) - 1) ∧ 0 ≤ b ∧ b ≤ S.last)), h) := by
  obtain ⟨n, rfl⟩ : ∃ p, n = p + 1 := ⟨n - 1, by omega⟩
  refine call_plain (xs := []) (ys := [.pointer (some ⟨p, 0, none⟩), .pointer (some ⟨q, 0, none⟩)]) fok88 rfl rfl (by simp) rfl ?_
  have hy := hy.shut
  have hp : Row h.shutAll p [.int .i64 a] := hp.mono fun _ _ _ _ _ h => h
  have hq : Row h.shutAll q [.int .i64 b] := hq.mono fun _ _ _ _ _ h => h
  have hr : h.shutAll.next + 110 < far := hr
  generalize h.shutAll = h at hy hp hq hr
  simp only [s88, List.cons_append, List.nil_append, W_seq, W_ops]
  refine ops_box (cs := wkL S vv sv nilS) (by omega) rfl (wk_one hy rfl) fun g1 hx1 => ?_
  have n1 := hx1.next
  have hy1 := hy.mono hx1.sub
  have e1 := hasVat_c (n := n) (h := g1) (tv := nilS) (by omega) (by omega) hy1 rfl a
  have e2 := hasHour_c (n := n) (h := g1) (by omega) (by omega) (wk_one (tv := nilS) hy1 rfl) b
  by_cases c1 : 0 ≤ a ∧ a ≤ (S.nv : Int) - 1
  · have hd : decide ((0 ≤ a ∧ a ≤ (S.nv : Int) - 1) ∧ 0 ≤ b ∧ b ≤ S.last) = decide (0 ≤ b ∧ b ≤ S.last) := decide_eq_decide.2 ⟨fun h => h.2, fun h => ⟨c1, h⟩⟩
    rw [hd]
    rw [decide_eq_true c1] at e1
    simp only [rn0, rn1, rn2, rn3, rn4, rn5, rn6, rn7, rn8, if_true, if_false, Nat.le_refl, true_and, and_true, decide_true, decide_false, Bool.not_true, Bool.not_false, reduceIte, Nat.reduceEqDiff, Nat.reduceAdd, Nat.reduceMul, Nat.reduceSub, Nat.reduceLeDiff, Nat.reduceLT, hx1.row.whole (n := 6) rfl, (hp.mono hx1.sub).ld, (hq.mono hx1.sub).ld, Nat.zero_add, List.getElem?_cons_zero, e1, e2]
  · have hd : decide ((0 ≤ a ∧ a ≤ (S.nv : Int) - 1) ∧ 0 ≤ b ∧ b ≤ S.last) = false := decide_eq_false fun h => c1 h.1
    rw [hd]
    rw [decide_eq_false c1] at e1
    simp only [rn0, rn1, rn2, rn3, rn4, rn5, rn6, rn7, rn8, if_true, if_false, Nat.le_refl, true_and, and_true, decide_true, decide_false, Bool.not_true, Bool.not_false, reduceIte, Nat.reduceEqDiff, Nat.reduceAdd, Nat.reduceMul, Nat.reduceSub, Nat.reduceLeDiff, Nat.reduceLT, hx1.row.whole (n := 6) rfl, (hp.mono hx1.sub).ld, (hq.mono hx1.sub).ld, Nat.zero_add, List.getElem?_cons_zero, e1, e2, g_un]
end Go.Vm.Bt

namespace Go.Vm.Bt
open Go.Proofs Go.Vm.Vat Go.Vm.L2
set_option linter.unusedSimpArgs false
set_option linter.unusedVariables false
set_option maxRecDepth 10000
variable {n : Nat} {h : AHeap}
def MomOk (S : MB) (a b : Int) : Prop := (0 ≤ a ∧ a ≤ (S.nv : Int) - 1) ∧ 0 ≤ b ∧ b ≤ S.last
instance (S : MB) (a b : Int) : Decidable (MomOk S a b) := inferInstanceAs (Decidable (_ ∧ _))
theorem vmK_all {S : MB} {a b : Int} (ho : MomOk S a b) : vmK S S.nv 0 (a, b) = verdV S a.toNat b := by
  unfold vmK
  obtain ⟨⟨h1, h2⟩, h3, h4⟩ := ho
  rw [if_pos ⟨h1, h3, .inl ⟨by simp only; omega, h4⟩⟩]
def s37 : SCode := (.seq (.ops [⟨(some 3), none, .box (T 0)⟩, ⟨(some 4), none, .box (T 1)⟩, ⟨(some 5), none, .box (T 2)⟩, ⟨(some 6), none, .mov (.const (.int .i64 (0)))⟩, ⟨(some 7), none, .mov (.const (.int .i64 (0)))⟩]) (.seq (.ops [⟨(some 11), none, .loadN 5 (T 3)⟩, ⟨(some 12), none, .mkfunc 88 [] [(T 4), (T 5)]⟩, ⟨(some 13), none, .bslice 1 1 [.nilFunc] [0] [(T 12)]⟩, ⟨(some 14), none, .call (.func 86) [(T 11), (T 13)]⟩, ⟨(some 10), none, .mov (T 14)⟩, ⟨(some 15), none, .extract 0 (T 10)⟩, ⟨(some 16), none, .extract 1 (T 10)⟩, ⟨(some 8), none, .alloc [(.int .i64 (0)), (.int .i64 (0)), (.slice none 0 0), (.int .i64 (0)), (.slice none 0 0), (.slice none 0 0)]⟩, ⟨none, none, .store 6 (T 8) (T 15)⟩, ⟨(some 9), none, .mov (T 16)⟩]) (.seq (.seq (.ops [⟨(some 17), none, .mov (T 9)⟩, ⟨(some 18), none, .int2 .neq (T 17) (.const (.int .i64 (0)))⟩]) (.cond (T 18) (.seq (.ops [⟨(some 19), none, .mov (T 9)⟩, ⟨(some 6), none, .mov (.const (.int .i64 (0)))⟩, ⟨(some 7), none, .mov (T 19)⟩]) .ret) .skip)) (.seq (.draw [⟨.rd1, ⟨(some 20), none, .loadN 6 (T 8)⟩⟩, ⟨.up, ⟨(some 21), none, .call (.func 91) [(T 20)]⟩⟩, ⟨.rd, ⟨(some 22), none, .load1 (T 4)⟩⟩, ⟨.rd, ⟨(some 23), none, .load1 (T 5)⟩⟩, ⟨.free, ⟨(some 24), none, .build #[(0, 1), (1, 1)] [(.int .i64 (0)), (.int .i64 (0))] [0, 1] [(T 22), (T 23)]⟩⟩, ⟨.qe, ⟨(some 25), none, .lookup 139 (.int .i64 (0)) false (T 21) (T 24)⟩⟩, ⟨.free, ⟨(some 6), none, .mov (T 25)⟩⟩, ⟨.free, ⟨(some 7), none, .mov (.const (.int .i64 (0)))⟩⟩]) .ret))))
theorem fok37 : FnOk Try.prog 37 26 s37 [.tmp 6, .tmp 7] := ⟨Try.f37, _, Try.func37, rfl, Try.ntmps37, by kernel_rfl, by kernel_rfl⟩
set_option maxHeartbeats 1000000 in
theorem doneV_c (hn : 1000 ≤ n) (hr : h.next + 60000 < far) {vv sv : Value} {S : MB} (hy : BeatR h vv sv S) (hTh : ThinS S) (a b : Int) :
    call n (.func (.func 37) #[] #[]) [.agg ⟨beL S vv sv⟩, .int .i64 a, .int .i64 b] h = some (.tuple ⟨[.int .i64 (if errF S (decide (MomOk S a b)) = 0 then verdV S a.toNat b else 0), .int .i64 (errF S (decide (MomOk S a b)))]⟩, h) := by
  obtain ⟨n, rfl⟩ : ∃ p, n = p + 1 := ⟨n - 1, by omega⟩
  refine call_plain0 fok37 rfl rfl (by simp) rfl ?_
  have hy := hy.shut
  have hr : h.shutAll.next + 60000 < far := hr
  have hfl : h.shutAll.floor ≤ h.shutAll.next := Nat.le_refl _
  generalize h.shutAll = h at hy hr hfl
  simp only [s37, W_seq, W_ops]
  refine ops_box (cs := beL S vv sv) (by omega) rfl hy.one fun g1 hx1 => ?_
  have n1 := hx1.next
  have f1 := hx1.floor
  refine ops_box (cs := [.int .i64 a]) (by omega) rfl rfl fun g2 hx2 => ?_
  have n2 := hx2.next
  have f2 := hx2.floor
  refine ops_box (cs := [.int .i64 b]) (by omega) rfl rfl fun g3 hx3 => ?_
  have n3 := hx3.next
  have f3 := hx3.floor
  have sub3 : Sub All h g3 := hx1.sub.trans (hx2.sub.trans hx3.sub)
  have w3 := ((hx1.row.mono hx2.sub).mono hx3.sub).whole (n := 5) rfl
  simp only [rn0, rn1, rn2, rn3, rn4, rn5, rn6, rn7, rn8, if_true, if_false, Nat.le_refl, true_and, and_true, decide_true, decide_false, Bool.not_true, Bool.not_false, reduceIte, Nat.reduceEqDiff, Nat.reduceAdd, Nat.reduceMul, Nat.reduceSub, Nat.reduceLeDiff, Nat.reduceLT, w3, sl_fn (show oneCell (.func (.func 88) ⟨[]⟩ ⟨[.pointer (some ⟨g1.next, 0, none⟩), .pointer (some ⟨g2.next, 0, none⟩)]⟩) = true from rfl)]
  refine step_slice (by omega) rfl fun g4 hx4 => ?_
  have n4 := hx4.next
  have f4 := hx4.floor
  have sub4 := sub3.trans hx4.sub
  have hcs : Cells g4 (.slice (some ⟨g3.next, 0, none⟩) 1 1) 1 1 (fun _ _ => .func (.func 88) ⟨[]⟩ ⟨[.pointer (some ⟨g1.next, 0, none⟩), .pointer (some ⟨g2.next, 0, none⟩)]⟩) := ⟨_, _, rfl, fun x e => by cases e; rfl, .inr ⟨_, 0, _, _, _, rfl, hx4.get, fun i j hi hj => by
    obtain rfl : i = 0 := by omega
    obtain rfl : j = 0 := by omega
    rfl⟩⟩
  have hra : Row g4 g1.next [.int .i64 a] := (hx2.row.mono hx3.sub).mono hx4.sub
  have hrb : Row g4 g2.next [.int .i64 b] := hx3.row.mono hx4.sub
  have hy4 := hy.mono sub4
  obtain ⟨v, g5, eo, old5, u5, m5, f5, ho⟩ := open_c (n := n) (h := g4) (by omega) (by omega) (by omega) hy4 hTh (P := MomOk S a b) (cv := .slice (some ⟨g3.next, 0, none⟩) 1 1) fun hG =>
    ⟨1, _, fun _ => MomOk S a b, by omega, hcs, ⟨fun e _ _ => e, fun e => e 0 (by omega)⟩, fun i hi => ⟨decide (MomOk S a b), decide_eq_true_iff, fun n' hn' g hs hg => done1_c (by omega) (by omega) (hy4.mono hs) (hra.mono hs) (hrb.mono hs)⟩⟩
  rcases ho with ⟨hf, rfl⟩ | ⟨hf, hp, rfl⟩ | ⟨hf, hp, ht, rfl⟩ | ⟨hf, hp, ht, tv, rfl, hone, hd, hfr, hlong⟩
  · have he : errF S (decide (MomOk S a b)) = faultS S := by unfold errF; rw [if_pos hf]
    rw [he, if_neg hf]
    simp only [rn0, rn1, rn2, rn3, rn4, rn5, rn6, rn7, rn8, if_true, if_false, Nat.le_refl, true_and, and_true, decide_true, decide_false, Bool.not_true, Bool.not_false, reduceIte, Nat.reduceEqDiff, Nat.reduceAdd, Nat.reduceMul, Nat.reduceSub, Nat.reduceLeDiff, Nat.reduceLT, eo, ex0, ex1]
    refine step_new (vs := wkZ) (by omega) (by omega) rfl (by simp only [rn0, rn1, rn2, rn3, rn4, rn5, rn6, rn7, rn8, if_true, if_false, Nat.le_refl, true_and, and_true, decide_true, decide_false, Bool.not_true, Bool.not_false, reduceIte, Nat.reduceEqDiff, Nat.reduceAdd, Nat.reduceMul, Nat.reduceSub, Nat.reduceLeDiff, Nat.reduceLT]; rfl) rfl rfl rfl fun g6 hx6 => ?_
    simp only [rn0, rn1, rn2, rn3, rn4, rn5, rn6, rn7, rn8, if_true, if_false, Nat.le_refl, true_and, and_true, decide_true, decide_false, Bool.not_true, Bool.not_false, reduceIte, Nat.reduceEqDiff, Nat.reduceAdd, Nat.reduceMul, Nat.reduceSub, Nat.reduceLeDiff, Nat.reduceLT, hf, ret_tt]
  · have he : errF S (decide (MomOk S a b)) = 2 := by unfold errF; rw [if_neg (by simpa using hf), if_pos (decide_eq_false hp)]
    rw [he, if_neg (by decide)]
    simp only [rn0, rn1, rn2, rn3, rn4, rn5, rn6, rn7, rn8, if_true, if_false, Nat.le_refl, true_and, and_true, decide_true, decide_false, Bool.not_true, Bool.not_false, reduceIte, Nat.reduceEqDiff, Nat.reduceAdd, Nat.reduceMul, Nat.reduceSub, Nat.reduceLeDiff, Nat.reduceLT, eo, ex0, ex1]
    refine step_new (vs := wkZ) (by omega) (by omega) rfl (by simp only [rn0, rn1, rn2, rn3, rn4, rn5, rn6, rn7, rn8, if_true, if_false, Nat.le_refl, true_and, and_true, decide_true, decide_false, Bool.not_true, Bool.not_false, reduceIte, Nat.reduceEqDiff, Nat.reduceAdd, Nat.reduceMul, Nat.reduceSub, Nat.reduceLeDiff, Nat.reduceLT]; rfl) rfl rfl rfl fun g6 hx6 => ?_
    simp only [rn0, rn1, rn2, rn3, rn4, rn5, rn6, rn7, rn8, if_true, if_false, Nat.le_refl, true_and, and_true, decide_true, decide_false, Bool.not_true, Bool.not_false, reduceIte, Nat.reduceEqDiff, Nat.reduceAdd, Nat.reduceMul, Nat.reduceSub, Nat.reduceLeDiff, Nat.reduceLT, Int.reduceEq, ret_tt]
  · have he : errF S (decide (MomOk S a b)) = 11 := by unfold errF; rw [if_neg (by simpa using hf), if_neg (by rw [decide_eq_true hp]; decide), if_pos ht]
    rw [he, if_neg (by decide)]
    simp only [rn0, rn1, rn2, rn3, rn4, rn5, rn6, rn7, rn8, if_true, if_false, Nat.le_refl, true_and, and_true, decide_true, decide_false, Bool.not_true, Bool.not_false, reduceIte, Nat.reduceEqDiff, Nat.reduceAdd, Nat.reduceMul, Nat.reduceSub, Nat.reduceLeDiff, Nat.reduceLT, eo, ex0, ex1]
    refine step_new (vs := wkZ) (by omega) (by omega) rfl (by simp only [rn0, rn1, rn2, rn3, rn4, rn5, rn6, rn7, rn8, if_true, if_false, Nat.le_refl, true_and, and_true, decide_true, decide_false, Bool.not_true, Bool.not_false, reduceIte, Nat.reduceEqDiff, Nat.reduceAdd, Nat.reduceMul, Nat.reduceSub, Nat.reduceLeDiff, Nat.reduceLT]; rfl) rfl rfl rfl fun g6 hx6 => ?_
    simp only [rn0, rn1, rn2, rn3, rn4, rn5, rn6, rn7, rn8, if_true, if_false, Nat.le_refl, true_and, and_true, decide_true, decide_false, Bool.not_true, Bool.not_false, reduceIte, Nat.reduceEqDiff, Nat.reduceAdd, Nat.reduceMul, Nat.reduceSub, Nat.reduceLeDiff, Nat.reduceLT, Int.reduceEq, ret_tt]
  have hG := good_of hf
  have he : errF S (decide (MomOk S a b)) = 0 := by unfold errF; rw [if_neg (by simpa using hf), if_neg (by rw [decide_eq_true hp]; decide), if_neg ht]
  rw [he, if_pos rfl]
  have sub5 : Sub All g4 g5 := AHeap.subOf old5
  have hy5 := hy4.mono sub5
  simp only [rn0, rn1, rn2, rn3, rn4, rn5, rn6, rn7, rn8, if_true, if_false, Nat.le_refl, true_and, and_true, decide_true, decide_false, Bool.not_true, Bool.not_false, reduceIte, Nat.reduceEqDiff, Nat.reduceAdd, Nat.reduceMul, Nat.reduceSub, Nat.reduceLeDiff, Nat.reduceLT, eo, ex0, ex1]
  refine step_new (vs := wkL S vv sv tv) (by omega) (by omega) rfl (by simp only [rn0, rn1, rn2, rn3, rn4, rn5, rn6, rn7, rn8, if_true, if_false, Nat.le_refl, true_and, and_true, decide_true, decide_false, Bool.not_true, Bool.not_false, reduceIte, Nat.reduceEqDiff, Nat.reduceAdd, Nat.reduceMul, Nat.reduceSub, Nat.reduceLeDiff, Nat.reduceLT]; rfl) (wk_one hy5 hone) rfl rfl fun g6 hx6 => ?_
  have n6 := hx6.next
  have f6 := hx6.floor
  have hop : OpS g6 vv sv tv S := ⟨hG, ht, hy5.mono hx6.sub, hone, Cells.mono hd hx6.sub, hlong⟩
  obtain ⟨r, g7, e7, hm7, hr7, old7, u7, m7, f7⟩ := verdicts_c (n := n) (h := g6) (by omega) (by omega) (by omega) hop
  have s67 : Sub All g6 g7 := AHeap.subOf old7
  have ra6 := (hra.mono sub5).mono hx6.sub
  have rb6 := (hrb.mono sub5).mono hx6.sub
  have el := lookupF key139 hm7.shut (a, b)
  have el : lookupA Try.prog 139 (.int .i64 0) false g7.shutAll (.map (some r)) (.agg ⟨[.int .i64 a, .int .i64 b]⟩) = some (.int .i64 (vmK S S.nv 0 (a, b)), g7.shutAll) := el
  rw [vmK_all hp] at el
  simp only [rn0, rn1, rn2, rn3, rn4, rn5, rn6, rn7, rn8, if_true, if_false, Nat.le_refl, true_and, and_true, decide_true, decide_false, Bool.not_true, Bool.not_false, reduceIte, Nat.reduceEqDiff, Nat.reduceAdd, Nat.reduceMul, Nat.reduceSub, Nat.reduceLeDiff, Nat.reduceLT]
  refine W_draw All ?_
  simp only [rn0, rn1, rn2, rn3, rn4, rn5, rn6, rn7, rn8, if_true, if_false, Nat.le_refl, true_and, and_true, decide_true, decide_false, Bool.not_true, Bool.not_false, reduceIte, Nat.reduceEqDiff, Nat.reduceAdd, Nat.reduceMul, Nat.reduceSub, Nat.reduceLeDiff, Nat.reduceLT, hx6.row.whole (n := 6) rfl, e7, u7, s67, ra6.ld, rb6.ld, Nat.zero_add, List.getElem?_cons_zero, eqV_int, build_range, d_qe, x_lookup, el, ret_tt]
end Go.Vm.Bt

namespace Go.Vm.Bt
open Go.Proofs Go.Vm.Vat Go.Vm.L2
set_option linter.unusedSimpArgs false
set_option linter.unusedVariables false
set_option maxRecDepth 10000
variable {n : Nat} {h : AHeap}
theorem bnd_le {S : MB} (hT : truthsS S ≠ []) {v : Nat} : bLo S v ≤ bHi S v := by
  obtain ⟨t, ht⟩ := List.exists_mem_of_ne_nil _ hT
  exact Int.le_trans ((le_loN hT).1 (Int.le_refl _) t ht) ((hiN_le hT).1 (Int.le_refl _) t ht)
def s12 : SCode := (.seq (.ops [⟨(some 2), none, .box (T 0)⟩, ⟨(some 4), none, .mov (.const (.bool false))⟩]) (.seq (.seq (.ops [⟨(some 12), none, .loadN 5 (T 2)⟩, ⟨(some 13), none, .call (.func 63) [(T 12)]⟩, ⟨(some 14), none, .not (T 13)⟩, ⟨(some 15), none, .mov (T 14)⟩, ⟨(some 16), (some (15, false)), .fieldAddr 2 (T 2)⟩, ⟨(some 17), (some (15, false)), .load1 (T 16)⟩, ⟨(some 18), (some (15, false)), .len (T 17)⟩, ⟨(some 19), (some (15, false)), .int2 .eql (T 18) (.const (.int .i64 (0)))⟩, ⟨(some 20), none, .pick (T 15) (.const (.bool true)) (T 19)⟩]) (.cond (T 20) (.seq (.ops [⟨(some 21), none, .call (.func 24) []⟩, ⟨(some 4), none, .mov (T 21)⟩]) .ret) .skip)) (.seq (.ops [⟨(some 22), none, .mov (T 1)⟩, ⟨(some 23), none, .plain (.convert 5 3 (T 22)) 3⟩, ⟨(some 24), none, .fieldAddr 2 (T 2)⟩, ⟨(some 25), none, .load1 (T 24)⟩, ⟨(some 26), none, .len (T 25)⟩, ⟨(some 27), none, .plain (.binOp .rem 3 (T 23) (T 26) 3) 3⟩, ⟨(some 5), none, .mov (T 27)⟩]) (.seq (.ops [⟨(some 29), none, .loadN 5 (T 2)⟩, ⟨(some 30), none, .call (.func 26) [(T 29)]⟩, ⟨(some 31), none, .call (.func 36) [(T 30)]⟩, ⟨(some 28), none, .mov (T 31)⟩, ⟨(some 32), none, .extract 0 (T 28)⟩, ⟨(some 33), none, .extract 1 (T 28)⟩, ⟨(some 6), none, .mov (T 32)⟩, ⟨(some 7), none, .mov (T 33)⟩]) (.seq (.ops [⟨(some 8), none, .mov (.const (.int .i64 (2)))⟩]) (.seq (.seq (.ops [⟨(some 9), none, .mov (.const (.int .i64 (0)))⟩]) (.block 0 (.loop (.seq (.seq (.ops [⟨(some 34), none, .mov (T 9)⟩, ⟨(some 35), none, .fieldAddr 3 (T 2)⟩, ⟨(some 36), none, .load1 (T 35)⟩, ⟨(some 37), none, .int2 .leq (T 34) (T 36)⟩]) (.cond (T 37) .skip (.exit 0))) (.seq (.block 1 (.seq (.ops [⟨(some 41), none, .loadN 5 (T 2)⟩, ⟨(some 42), none, .call (.func 26) [(T 41)]⟩, ⟨(some 43), none, .mov (T 5)⟩, ⟨(some 44), none, .mov (T 9)⟩, ⟨(some 45), none, .call (.func 37) [(T 42), (T 43), (T 44)]⟩, ⟨(some 40), none, .mov (T 45)⟩, ⟨(some 46), none, .extract 0 (T 40)⟩, ⟨(some 47), none, .extract 1 (T 40)⟩, ⟨(some 10), none, .mov (T 46)⟩, ⟨(some 11), none, .mov (T 47)⟩]) (.seq (.seq (.ops [⟨(some 48), none, .mov (T 7)⟩, ⟨(some 49), none, .int2 .neq (T 48) (.const (.int .i64 (0)))⟩]) (.cond (T 49) (.seq (.seq (.ops [⟨(some 50), none, .mov (T 7)⟩, ⟨(some 51), none, .int2 .neq (T 50) (.const (.int .i64 (11)))⟩, ⟨(some 52), none, .mov (T 51)⟩, ⟨(some 53), (some (52, false)), .mov (T 11)⟩, ⟨(some 54), (some (52, false)), .mov (T 7)⟩, ⟨(some 55), (some (52, false)), .int2 .neq (T 53) (T 54)⟩, ⟨(some 56), none, .pick (T 52) (.const (.bool true)) (T 55)⟩]) (.cond (T 56) (.seq (.ops [⟨(some 4), none, .mov (.const (.bool false))⟩]) .ret) .skip)) (.exit 1)) .skip)) (.seq (.seq (.ops [⟨(some 57), none, .mov (T 11)⟩, ⟨(some 58), none, .int2 .neq (T 57) (.const (.int .i64 (0)))⟩, ⟨(some 59), none, .mov (T 58)⟩, ⟨(some 60), (some (59, false)), .mov (T 6)⟩, ⟨(some 61), (some (59, false)), .len (T 60)⟩, ⟨(some 62), (some (59, false)), .fieldAddr 2 (T 2)⟩, ⟨(some 63), (some (59, false)), .load1 (T 62)⟩, ⟨(some 64), (some (59, false)), .len (T 63)⟩, ⟨(some 65), (some (59, false)), .int2 .neq (T 61) (T 64)⟩, ⟨(some 66), none, .pick (T 59) (.const (.bool true)) (T 65)⟩, ⟨(some 67), none, .mov (T 66)⟩, ⟨(some 68), (some (67, false)), .mov (T 10)⟩, ⟨(some 69), (some (67, false)), .call (.func 39) [(T 68), (.const (.int .i64 (1))), (.const (.int .i64 (3)))]⟩, ⟨(some 70), (some (67, false)), .not (T 69)⟩, ⟨(some 71), none, .pick (T 67) (.const (.bool true)) (T 70)⟩, ⟨(some 72), none, .mov (T 71)⟩, ⟨(some 73), (some (72, false)), .mov (T 8)⟩, ⟨(some 74), (some (72, false)), .int2 .eql (T 73) (.const (.int .i64 (1)))⟩, ⟨(some 75), (some (72, false)), .mov (T 74)⟩, ⟨(some 76), (some (75, true)), .mov (T 10)⟩, ⟨(some 77), (some (75, true)), .mov (T 8)⟩, ⟨(some 78), (some (75, true)), .int2 .neq (T 76) (T 77)⟩, ⟨(some 79), (some (72, false)), .pick (T 75) (T 78) (.const (.bool false))⟩, ⟨(some 80), none, .pick (T 72) (.const (.bool true)) (T 79)⟩, ⟨(some 81), none, .mov (T 80)⟩, ⟨(some 82), (some (81, false)), .mov (T 8)⟩, ⟨(some 83), (some (81, false)), .int2 .neq (T 82) (.const (.int .i64 (2)))⟩, ⟨(some 84), (some (81, false)), .mov (T 83)⟩, ⟨(some 85), (some (84, true)), .mov (T 10)⟩, ⟨(some 86), (some (84, true)), .int2 .eql (T 85) (.const (.int .i64 (2)))⟩, ⟨(some 87), (some (81, false)), .pick (T 84) (T 86) (.const (.bool false))⟩, ⟨(some 88), none, .pick (T 81) (.const (.bool true)) (T 87)⟩, ⟨(some 89), none, .mov (T 88)⟩, ⟨(some 90), (some (89, false)), .mov (T 10)⟩, ⟨(some 91), (some (89, false)), .int2 .eql (T 90) (.const (.int .i64 (1)))⟩, ⟨(some 92), (some (89, false)), .mov (T 9)⟩, ⟨(some 93), (some (89, false)), .mov (T 6)⟩, ⟨(some 94), (some (89, false)), .mov (T 5)⟩, ⟨(some 95), (some (89, false)), .idxSl 2 (T 93) (T 94)⟩, ⟨(some 96), (some (89, false)), .fieldAddr 1 (T 95)⟩, ⟨(some 97), (some (89, false)), .load1 (T 96)⟩, ⟨(some 98), (some (89, false)), .int2 .geq (T 92) (T 97)⟩, ⟨(some 99), (some (89, false)), .bin .neq (.binOp .neq 4 (T 91) (T 98) 4) 4 (T 91) (T 98)⟩, ⟨(some 100), none, .pick (T 89) (.const (.bool true)) (T 99)⟩, ⟨(some 101), none, .mov (T 100)⟩, ⟨(some 102), (some (101, false)), .mov (T 10)⟩, ⟨(some 103), (some (101, false)), .int2 .eql (T 102) (.const (.int .i64 (2)))⟩, ⟨(some 104), (some (101, false)), .mov (T 9)⟩, ⟨(some 105), (some (101, false)), .mov (T 6)⟩, ⟨(some 106), (some (101, false)), .mov (T 5)⟩, ⟨(some 107), (some (101, false)), .idxSl 2 (T 105) (T 106)⟩, ⟨(some 108), (some (101, false)), .fieldAddr 0 (T 107)⟩, ⟨(some 109), (some (101, false)), .load1 (T 108)⟩, ⟨(some 110), (some (101, false)), .int2 .lss (T 104) (T 109)⟩, ⟨(some 111), (some (101, false)), .bin .neq (.binOp .neq 4 (T 103) (T 110) 4) 4 (T 103) (T 110)⟩, ⟨(some 112), none, .pick (T 101) (.const (.bool true)) (T 111)⟩]) (.cond (T 112) (.seq (.ops [⟨(some 4), none, .mov (.const (.bool false))⟩]) .ret) .skip)) (.ops [⟨(some 113), none, .mov (T 10)⟩, ⟨(some 8), none, .mov (T 113)⟩]))))) (.ops [⟨(some 38), none, .mov (T 9)⟩, ⟨(some 39), none, .int2 .add (T 38) (.const (.int .i64 (1)))⟩, ⟨(some 9), none, .mov (T 39)⟩])))))) (.seq (.ops [⟨(some 114), none, .call (.func 24) []⟩, ⟨(some 4), none, .mov (T 114)⟩]) .ret)))))))
end Go.Vm.Bt

namespace Go.Vm.Bt
open Go.Proofs Go.Vm.Vat Go.Vm.L2
set_option linter.unusedSimpArgs false
set_option linter.unusedVariables false
set_option maxRecDepth 10000
variable {n : Nat} {h : AHeap}
structure Near (X S : MB) : Prop where
  x : errS X = 0
  s : errS S = 0
  nv : X.nv = S.nv
  last : X.last = S.last
  best : (bestS X).2 ≤ (bestS S).2
  lo : ∀ v, v < S.nv → bLo S v ≤ bLo X v
  hi : ∀ v, v < S.nv → bHi X v ≤ bHi S v
theorem Near.verd {X S : MB} (hn : Near X S) {v : Nat} (hv : v < S.nv) {k : Int} : verdV S v k = 3 ∨ verdV X v k = verdV S v k := by
  have h1 := hn.lo v hv
  have h2 := hn.hi v hv
  have h3 : bLo X v ≤ bHi X v := bnd_le (errS_zero.1 hn.x).2
  unfold verdV
  by_cases c1 : bHi S v ≤ k
  · right; rw [if_pos c1, if_pos (by omega)]
  · by_cases c2 : k < bLo S v
    · right; rw [if_neg c1, if_pos c2, if_neg (by omega), if_pos (by omega)]
    · left; rw [if_neg c1, if_neg c2]
def s73 : SCode := (.seq (.ops [⟨(some 2), none, .box (T 0)⟩, ⟨(some 3), none, .box (T 1)⟩, ⟨(some 4), none, .mov (.const (.bool false))⟩]) (.seq (.ops [⟨(some 22), none, .loadN 5 (T 2)⟩, ⟨(some 23), none, .call (.func 26) [(T 22)]⟩, ⟨(some 24), none, .call (.func 36) [(T 23)]⟩, ⟨(some 21), none, .mov (T 24)⟩, ⟨(some 25), none, .extract 0 (T 21)⟩, ⟨(some 26), none, .extract 1 (T 21)⟩, ⟨(some 5), none, .mov (T 25)⟩, ⟨(some 6), none, .mov (T 26)⟩]) (.seq (.ops [⟨(some 28), none, .loadN 5 (T 3)⟩, ⟨(some 29), none, .call (.func 26) [(T 28)]⟩, ⟨(some 30), none, .call (.func 36) [(T 29)]⟩, ⟨(some 27), none, .mov (T 30)⟩, ⟨(some 31), none, .extract 0 (T 27)⟩, ⟨(some 32), none, .extract 1 (T 27)⟩, ⟨(some 7), none, .mov (T 31)⟩, ⟨(some 8), none, .mov (T 32)⟩]) (.seq (.ops [⟨(some 34), none, .loadN 5 (T 2)⟩, ⟨(some 35), none, .call (.func 26) [(T 34)]⟩, ⟨(some 36), none, .call (.func 47) [(T 35)]⟩, ⟨(some 33), none, .mov (T 36)⟩, ⟨(some 37), none, .extract 0 (T 33)⟩, ⟨(some 38), none, .extract 1 (T 33)⟩, ⟨(some 39), none, .extract 2 (T 33)⟩, ⟨(some 9), none, .mov (T 37)⟩, ⟨(some 10), none, .mov (T 38)⟩, ⟨(some 11), none, .mov (T 39)⟩]) (.seq (.ops [⟨(some 41), none, .loadN 5 (T 3)⟩, ⟨(some 42), none, .call (.func 26) [(T 41)]⟩, ⟨(some 43), none, .call (.func 47) [(T 42)]⟩, ⟨(some 40), none, .mov (T 43)⟩, ⟨(some 44), none, .extract 0 (T 40)⟩, ⟨(some 45), none, .extract 1 (T 40)⟩, ⟨(some 46), none, .extract 2 (T 40)⟩, ⟨(some 12), none, .mov (T 44)⟩, ⟨(some 13), none, .mov (T 45)⟩, ⟨(some 14), none, .mov (T 46)⟩]) (.seq (.seq (.ops [⟨(some 47), none, .mov (T 6)⟩, ⟨(some 48), none, .int2 .neq (T 47) (.const (.int .i64 (0)))⟩, ⟨(some 49), none, .mov (T 48)⟩, ⟨(some 50), (some (49, false)), .mov (T 8)⟩, ⟨(some 51), (some (49, false)), .int2 .neq (T 50) (.const (.int .i64 (0)))⟩, ⟨(some 52), none, .pick (T 49) (.const (.bool true)) (T 51)⟩, ⟨(some 53), none, .mov (T 52)⟩, ⟨(some 54), (some (53, false)), .mov (T 11)⟩, ⟨(some 55), (some (53, false)), .int2 .neq (T 54) (.const (.int .i64 (0)))⟩, ⟨(some 56), none, .pick (T 53) (.const (.bool true)) (T 55)⟩, ⟨(some 57), none, .mov (T 56)⟩, ⟨(some 58), (some (57, false)), .mov (T 14)⟩, ⟨(some 59), (some (57, false)), .int2 .neq (T 58) (.const (.int .i64 (0)))⟩, ⟨(some 60), none, .pick (T 57) (.const (.bool true)) (T 59)⟩, ⟨(some 61), none, .mov (T 60)⟩, ⟨(some 62), (some (61, false)), .mov (T 10)⟩, ⟨(some 63), (some (61, false)), .mov (T 13)⟩, ⟨(some 64), (some (61, false)), .int2 .gtr (T 62) (T 63)⟩, ⟨(some 65), none, .pick (T 61) (.const (.bool true)) (T 64)⟩, ⟨(some 66), none, .mov (T 65)⟩, ⟨(some 67), (some (66, false)), .mov (T 5)⟩, ⟨(some 68), (some (66, false)), .len (T 67)⟩, ⟨(some 69), (some (66, false)), .fieldAddr 2 (T 3)⟩, ⟨(some 70), (some (66, false)), .load1 (T 69)⟩, ⟨(some 71), (some (66, false)), .len (T 70)⟩, ⟨(some 72), (some (66, false)), .int2 .neq (T 68) (T 71)⟩, ⟨(some 73), none, .pick (T 66) (.const (.bool true)) (T 72)⟩, ⟨(some 74), none, .mov (T 73)⟩, ⟨(some 75), (some (74, false)), .mov (T 7)⟩, ⟨(some 76), (some (74, false)), .len (T 75)⟩, ⟨(some 77), (some (74, false)), .mov (T 5)⟩, ⟨(some 78), (some (74, false)), .len (T 77)⟩, ⟨(some 79), (some (74, false)), .int2 .neq (T 76) (T 78)⟩, ⟨(some 80), none, .pick (T 74) (.const (.bool true)) (T 79)⟩]) (.cond (T 80) (.seq (.ops [⟨(some 4), none, .mov (.const (.bool false))⟩]) .ret) .skip)) (.seq (.seq (.ops [⟨(some 15), none, .mov (.const (.int .i64 (0)))⟩]) (.block 0 (.loop (.seq (.seq (.ops [⟨(some 81), none, .mov (T 15)⟩, ⟨(some 82), none, .mov (T 5)⟩, ⟨(some 83), none, .len (T 82)⟩, ⟨(some 84), none, .int2 .lss (T 81) (T 83)⟩]) (.cond (T 84) .skip (.exit 0))) (.seq (.block 1 (.seq (.seq (.draw [⟨.free, ⟨(some 87), none, .mov (T 5)⟩⟩, ⟨.free, ⟨(some 88), none, .mov (T 15)⟩⟩, ⟨.free, ⟨(some 89), none, .idxSl 2 (T 87) (T 88)⟩⟩, ⟨.free, ⟨(some 90), none, .fieldAddr 0 (T 89)⟩⟩, ⟨.rd1, ⟨(some 91), none, .load1 (T 90)⟩⟩, ⟨.free, ⟨(some 92), none, .mov (T 7)⟩⟩, ⟨.free, ⟨(some 93), none, .mov (T 15)⟩⟩, ⟨.free, ⟨(some 94), none, .idxSl 2 (T 92) (T 93)⟩⟩, ⟨.free, ⟨(some 95), none, .fieldAddr 0 (T 94)⟩⟩, ⟨.rd1, ⟨(some 96), none, .load1 (T 95)⟩⟩, ⟨.free, ⟨(some 97), none, .int2 .lss (T 91) (T 96)⟩⟩, ⟨.free, ⟨(some 98), none, .mov (T 97)⟩⟩, ⟨.free, ⟨(some 99), (some (98, false)), .mov (T 5)⟩⟩, ⟨.free, ⟨(some 100), (some (98, false)), .mov (T 15)⟩⟩, ⟨.free, ⟨(some 101), (some (98, false)), .idxSl 2 (T 99) (T 100)⟩⟩, ⟨.free, ⟨(some 102), (some (98, false)), .fieldAddr 1 (T 101)⟩⟩, ⟨.rd1, ⟨(some 103), (some (98, false)), .load1 (T 102)⟩⟩, ⟨.free, ⟨(some 104), (some (98, false)), .mov (T 7)⟩⟩, ⟨.free, ⟨(some 105), (some (98, false)), .mov (T 15)⟩⟩, ⟨.free, ⟨(some 106), (some (98, false)), .idxSl 2 (T 104) (T 105)⟩⟩, ⟨.free, ⟨(some 107), (some (98, false)), .fieldAddr 1 (T 106)⟩⟩, ⟨.rd1, ⟨(some 108), (some (98, false)), .load1 (T 107)⟩⟩, ⟨.free, ⟨(some 109), (some (98, false)), .int2 .gtr (T 103) (T 108)⟩⟩, ⟨.free, ⟨(some 110), none, .pick (T 98) (.const (.bool true)) (T 109)⟩⟩]) (.cond (T 110) (.seq (.ops [⟨(some 4), none, .mov (.const (.bool false))⟩]) .ret) .skip)) (.seq (.ops [⟨(some 16), none, .mov (.const (.int .i64 (0)))⟩]) (.block 2 (.loop (.seq (.seq (.ops [⟨(some 111), none, .mov (T 16)⟩, ⟨(some 112), none, .fieldAddr 3 (T 3)⟩, ⟨(some 113), none, .load1 (T 112)⟩, ⟨(some 114), none, .int2 .leq (T 111) (T 113)⟩]) (.cond (T 114) .skip (.exit 2))) (.seq (.block 3 (.seq (.ops [⟨(some 118), none, .loadN 5 (T 2)⟩, ⟨(some 119), none, .call (.func 26) [(T 118)]⟩, ⟨(some 120), none, .mov (T 15)⟩, ⟨(some 121), none, .mov (T 16)⟩, ⟨(some 122), none, .call (.func 37) [(T 119), (T 120), (T 121)]⟩, ⟨(some 117), none, .mov (T 122)⟩, ⟨(some 123), none, .extract 0 (T 117)⟩, ⟨(some 124), none, .extract 1 (T 117)⟩, ⟨(some 17), none, .mov (T 123)⟩, ⟨(some 18), none, .mov (T 124)⟩]) (.seq (.ops [⟨(some 126), none, .loadN 5 (T 3)⟩, ⟨(some 127), none, .call (.func 26) [(T 126)]⟩, ⟨(some 128), none, .mov (T 15)⟩, ⟨(some 129), none, .mov (T 16)⟩, ⟨(some 130), none, .call (.func 37) [(T 127), (T 128), (T 129)]⟩, ⟨(some 125), none, .mov (T 130)⟩, ⟨(some 131), none, .extract 0 (T 125)⟩, ⟨(some 132), none, .extract 1 (T 125)⟩, ⟨(some 19), none, .mov (T 131)⟩, ⟨(some 20), none, .mov (T 132)⟩]) (.seq (.ops [⟨(some 133), none, .mov (T 18)⟩, ⟨(some 134), none, .int2 .neq (T 133) (.const (.int .i64 (0)))⟩, ⟨(some 135), none, .mov (T 134)⟩, ⟨(some 136), (some (135, false)), .mov (T 20)⟩, ⟨(some 137), (some (135, false)), .int2 .neq (T 136) (.const (.int .i64 (0)))⟩, ⟨(some 138), none, .pick (T 135) (.const (.bool true)) (T 137)⟩, ⟨(some 139), none, .mov (T 138)⟩, ⟨(some 140), (some (139, false)), .mov (T 19)⟩, ⟨(some 141), (some (139, false)), .int2 .neq (T 140) (.const (.int .i64 (3)))⟩, ⟨(some 142), (some (139, false)), .mov (T 141)⟩, ⟨(some 143), (some (142, true)), .mov (T 17)⟩, ⟨(some 144), (some (142, true)), .mov (T 19)⟩, ⟨(some 145), (some (142, true)), .int2 .neq (T 143) (T 144)⟩, ⟨(some 146), (some (139, false)), .pick (T 142) (T 145) (.const (.bool false))⟩, ⟨(some 147), none, .pick (T 139) (.const (.bool true)) (T 146)⟩]) (.cond (T 147) (.seq (.ops [⟨(some 4), none, .mov (.const (.bool false))⟩]) .ret) .skip))))) (.ops [⟨(some 115), none, .mov (T 16)⟩, ⟨(some 116), none, .int2 .add (T 115) (.const (.int .i64 (1)))⟩, ⟨(some 16), none, .mov (T 116)⟩])))))))) (.ops [⟨(some 85), none, .mov (T 15)⟩, ⟨(some 86), none, .int2 .add (T 85) (.const (.int .i64 (1)))⟩, ⟨(some 15), none, .mov (T 86)⟩])))))) (.seq (.ops [⟨(some 4), none, .mov (.const (.bool true))⟩]) .ret))))))))
theorem fok73 : FnOk Try.prog 73 148 s73 [.tmp 4] := ⟨Try.f73, _, Try.func73, rfl, Try.ntmps73, by kernel_rfl, by kernel_rfl⟩
set_option maxHeartbeats 4000000 in
theorem closer_c (hn : 1400 ≤ n) (hr : h.next + 300000 < far) {vx sx vs ss : Value} {X S : MB} (hx : BeatR h vx sx X) (hs : BeatR h vs ss S) (hTX : ThinS X) (hTS : ThinS S) (hN : Near X S) :
    call n (.func (.func 73) #[] #[]) [.agg ⟨beL X vx sx⟩, .agg ⟨beL S vs ss⟩] h = some (.bool true, h) := by
  obtain ⟨n, rfl⟩ : ∃ p, n = p + 1 := ⟨n - 1, by omega⟩
  refine call_plain0 fok73 rfl rfl (by simp) rfl ?_
  have hx := hx.shut
  have hs := hs.shut
  have hr : h.shutAll.next + 300000 < far := hr
  have hfl : h.shutAll.floor ≤ h.shutAll.next := Nat.le_refl _
  generalize h.shutAll = h at hx hs hr hfl
  obtain ⟨hGX, hTTX⟩ := errS_zero.1 hN.x
  obtain ⟨hGS, hTTS⟩ := errS_zero.1 hN.s
  obtain ⟨z0, z1, z3, _⟩ := hGS.sizes
  have hnv := hN.nv
  have hla := hN.last
  simp only [s73, W_seq, W_ops]
  refine ops_box (cs := beL X vx sx) (by omega) rfl hx.one fun g1 hx1 => ?_
  have n1 := hx1.next
  have f1 := hx1.floor
  refine ops_box (cs := beL S vs ss) (by omega) rfl hs.one fun g2 hx2 => ?_
  have n2 := hx2.next
  have f2 := hx2.floor
  have rx := hx1.row.mono hx2.sub
  have rs := hx2.row
  have hx2' := hx.mono (hx1.sub.trans hx2.sub)
  have hs2' := hs.mono (hx1.sub.trans hx2.sub)
  obtain ⟨va, sa, g3, e3, hy3, old3, u3, m3, f3⟩ := beatL_c (n := n) (h := g2) (by omega) (by omega) (by omega) hx2' hTX
  obtain ⟨r4, g4, e4, b4, o4, old4, u4, m4, f4⟩ := boundsV_c (n := n) (h := g3) (by omega) (by omega) (by omega) hy3 hTX
  have s24 : Sub All g2 g4 := (AHeap.subOf old3).trans (AHeap.subOf old4)
  obtain ⟨vb, sb, g5, e5, hy5, old5, u5, m5, f5⟩ := beatL_c (n := n) (h := g4) (by omega) (by omega) (by omega) (hs2'.mono s24) hTS
  obtain ⟨r6, g6, e6, b6, o6, old6, u6, m6, f6⟩ := boundsV_c (n := n) (h := g5) (by omega) (by omega) (by omega) hy5 hTS
  have s46 : Sub All g4 g6 := (AHeap.subOf old5).trans (AHeap.subOf old6)
  have s26 := s24.trans s46
  obtain ⟨vc, sc, g7, e7, hy7, old7, u7, m7, f7⟩ := beatL_c (n := n) (h := g6) (by omega) (by omega) (by omega) (hx2'.mono s26) hTX
  obtain ⟨x8, g8, e8, b8, o8, old8, u8, m8, f8⟩ := bestV_c (n := n) (h := g7) (by omega) (by omega) (by omega) hy7 hTX
  have s68 : Sub All g6 g8 := (AHeap.subOf old7).trans (AHeap.subOf old8)
  have s28 := s26.trans s68
  obtain ⟨vd, sd, g9, e9, hy9, old9, u9, m9, f9⟩ := beatL_c (n := n) (h := g8) (by omega) (by omega) (by omega) (hs2'.mono s28) hTS
  obtain ⟨xa, ga, ea, ba, oa, olda, ua, ma, fa⟩ := bestV_c (n := n) (h := g9) (by omega) (by omega) (by omega) hy9 hTS
  have s8a : Sub All g8 ga := (AHeap.subOf old9).trans (AHeap.subOf olda)
  have s2a := s28.trans s8a
  have b4a : Ranges ga r4 S.nv (bLo X) (bHi X) := by
    have := Cells.mono b4 (s46.trans (s68.trans s8a))
    have hc : cntS X = S.nv := by unfold cntS; rw [if_pos hN.x, hnv]
    rw [hc] at this; exact this
  have b6a : Ranges ga r6 S.nv (bLo S) (bHi S) := by
    have := Cells.mono b6 (s68.trans s8a)
    have hc : cntS S = S.nv := by unfold cntS; rw [if_pos hN.s]
    rw [hc] at this; exact this
  rw [hN.x] at e4 e8
  rw [hN.s] at e6 ea
  rw [if_pos rfl] at e8 ea
  have rxa := rx.mono s2a
  have rsa := rs.mono s2a
  have hsa := hs2'.mono s2a
  have hxa := hx2'.mono s2a
  have hbest : ¬ (bestS S).2 < (bestS X).2 := by have := hN.best; omega
  simp only [rn0, rn1, rn2, rn3, rn4, rn5, rn6, rn7, rn8, if_true, if_false, Nat.le_refl, true_and, and_true, decide_true, decide_false, Bool.not_true, Bool.not_false, reduceIte, Nat.reduceEqDiff, Nat.reduceAdd, Nat.reduceMul, Nat.reduceSub, Nat.reduceLeDiff, Nat.reduceLT, rx.whole (n := 5) rfl, e3, e4, ex0, ex1, (rs.mono s24).whole (n := 5) rfl, e5, e6, (rx.mono s26).whole (n := 5) rfl, e7, e8, ex0', ex1', ex2, (rs.mono s28).whole (n := 5) rfl, e9, ea, gt_iff_lt, hbest, Cells.len b4a, Cells.len b6a, rsa.ld, beg, Nat.zero_add, Cells.len hsa.v]
  refine W_loop S.nv (fun i f g ms => ((∀ j, j < ga.next → g.get j = ga.get j) ∧ ga.next ≤ g.next ∧ g.next ≤ ga.next + 7000 * i ∧ g.floor = ga.floor) ∧ ms = [] ∧ f 2 = .pointer (some ⟨h.next, 0, none⟩) ∧ f 3 = .pointer (some ⟨g1.next, 0, none⟩) ∧ f 5 = r4 ∧ f 7 = r6 ∧ f 15 = .int .i64 (i : Int)) (by simp; omega) ?_ ?_ ?_
  · simp only [rn0, rn1, rn2, rn3, rn4, rn5, rn6, rn7, rn8, if_true, if_false, Nat.le_refl, true_and, and_true, decide_true, decide_false, Bool.not_true, Bool.not_false, reduceIte, Nat.reduceEqDiff, Nat.reduceAdd, Nat.reduceMul, Nat.reduceSub, Nat.reduceLeDiff, Nat.reduceLT, Int.natCast_zero]
    first | exact ⟨fun _ _ => trivial, by omega⟩ | exact fun _ _ => trivial
  · rintro i f g ms hi ⟨⟨hold, hup, hnx, hfg⟩, rfl, p2, p3, p5, p7, p15⟩
    have hi' : (i : Int) < (S.nv : Int) := by omega
    have hwi : wrapF .i64 ((i : Int) + 1) = ((i + 1 : Nat) : Int) := by rw [wrap_in (by omega) (by omega)]; rfl
    have sg : Sub All ga g := AHeap.subOf hold
    have bX := Cells.mono b4a sg
    have bS := Cells.mono b6a sg
    have l0 := Cells.ld bX hi (show 0 < 2 by omega)
    have l1 := Cells.ld bX hi (show 1 < 2 by omega)
    have l2 := Cells.ld bS hi (show 0 < 2 by omega)
    have l3 := Cells.ld bS hi (show 1 < 2 by omega)
    have c1 : ¬ bLo X i < bLo S i := by have := hN.lo i hi; omega
    have c2 : ¬ bHi S i < bHi X i := by have := hN.hi i hi; omega
    obtain ⟨W, hW⟩ : ∃ W : Nat, (W : Int) = S.last + 1 := ⟨(S.last + 1).toNat, by omega⟩
    simp only [rn0, rn1, rn2, rn3, rn4, rn5, rn6, rn7, rn8, if_true, if_false, Nat.le_refl, true_and, and_true, decide_true, decide_false, Bool.not_true, Bool.not_false, reduceIte, Nat.reduceEqDiff, Nat.reduceAdd, Nat.reduceMul, Nat.reduceSub, Nat.reduceLeDiff, Nat.reduceLT, p2, p3, p5, p7, p15, Cells.len b4a, hi']
    refine W_draw All ?_
    simp only [if_true, Nat.reduceEqDiff, reduceIte] at l0 l1 l2 l3
    simp only [rn0, rn1, rn2, rn3, rn4, rn5, rn6, rn7, rn8, if_true, if_false, Nat.le_refl, true_and, and_true, decide_true, decide_false, Bool.not_true, Bool.not_false, reduceIte, Nat.reduceEqDiff, Nat.reduceAdd, Nat.reduceMul, Nat.reduceSub, Nat.reduceLeDiff, Nat.reduceLT, p2, p3, p5, p7, p15, Cells.idx bX hi, Cells.fld bX hi, Cells.idx bS hi, Cells.fld bS hi, l0, l1, l2, l3, c1, c2, gt_iff_lt, d_guard, dg_tt, dg_tf, dg_ft, dg_ff, dg_un]
    refine W_loop W (fun k f g' ms => ((∀ j, j < ga.next → g'.get j = ga.get j) ∧ g.next ≤ g'.next ∧ g'.next ≤ g.next + 700 * k ∧ g'.floor = ga.floor) ∧ ms = [] ∧ f 2 = .pointer (some ⟨h.next, 0, none⟩) ∧ f 3 = .pointer (some ⟨g1.next, 0, none⟩) ∧ f 5 = r4 ∧ f 7 = r6 ∧ f 15 = .int .i64 (i : Int) ∧ f 16 = .int .i64 (k : Int)) (by simp; omega) ?_ ?_ ?_
    · simp only [rn0, rn1, rn2, rn3, rn4, rn5, rn6, rn7, rn8, if_true, if_false, Nat.le_refl, true_and, and_true, decide_true, decide_false, Bool.not_true, Bool.not_false, reduceIte, Nat.reduceEqDiff, Nat.reduceAdd, Nat.reduceMul, Nat.reduceSub, Nat.reduceLeDiff, Nat.reduceLT, p2, p3, p5, p7, p15, Int.natCast_zero]
      first | exact ⟨hold, by omega, by omega, hfg⟩ | exact ⟨hold, by omega, hfg⟩
    · rintro k f g' ms hk ⟨⟨hold', hup', hnx', hfg'⟩, rfl, p2, p3, p5, p7, p15, p16⟩
      have hk' : (k : Int) ≤ S.last := by omega
      have hwk : wrapF .i64 ((k : Int) + 1) = ((k + 1 : Nat) : Int) := by rw [wrap_in (by omega) (by omega)]; rfl
      have sg' : Sub All ga g' := AHeap.subOf hold'
      obtain ⟨vb, sb, gb, eb, hyb, oldb, ub, mb, fb⟩ := beatL_c (n := n) (h := g') (by omega) (by omega) (by omega) (hxa.mono sg') hTX
      have hmX : MomOk X (i : Int) (k : Int) := ⟨⟨by omega, by omega⟩, by omega, by omega⟩
      have hmS : MomOk S (i : Int) (k : Int) := ⟨⟨by omega, by omega⟩, by omega, hk'⟩
      have ec := doneV_c (n := n) (h := gb) (by omega) (by omega) hyb hTX (i : Int) (k : Int)
      rw [decide_eq_true hmX, errF_s, hN.x, if_pos rfl, Int.toNat_natCast] at ec
      have sb : Sub All g' gb := AHeap.subOf oldb
      obtain ⟨vd, sd, gd, ed, hyd, oldd, ud, md, fd⟩ := beatL_c (n := n) (h := gb) (by omega) (by omega) (by omega) (hsa.mono (sg'.trans sb)) hTS
      have ee := doneV_c (n := n) (h := gd) (by omega) (by omega) hyd hTS (i : Int) (k : Int)
      rw [decide_eq_true hmS, errF_s, hN.s, if_pos rfl, Int.toNat_natCast] at ee
      have hv := hN.verd hi (k := (k : Int))
      have fin := And.intro (fun j (hj : j < ga.next) => (by rw [oldd j (by omega), oldb j (by omega), hold' j hj] : gd.get j = ga.get j)) (And.intro (by omega : g.next ≤ gd.next) (And.intro (by rw [Nat.mul_add, Nat.mul_one]; generalize 700 * k = B at hnx' ⊢; omega : gd.next ≤ g.next + 700 * (k + 1)) (by omega : gd.floor = ga.floor)))
      by_cases c3 : verdV S i k = 3
      · simp only [rn0, rn1, rn2, rn3, rn4, rn5, rn6, rn7, rn8, if_true, if_false, Nat.le_refl, true_and, and_true, decide_true, decide_false, Bool.not_true, Bool.not_false, reduceIte, Nat.reduceEqDiff, Nat.reduceAdd, Nat.reduceMul, Nat.reduceSub, Nat.reduceLeDiff, Nat.reduceLT, p2, p3, p5, p7, p15, p16, (rsa.mono sg').ld, beg, Nat.zero_add, hk', (rxa.mono sg').whole (n := 5) rfl, eb, ec, ex0, ex1, (rsa.mono (sg'.trans sb)).whole (n := 5) rfl, ed, ee, c3, g_un, Int.reduceEq, hwk]
        first | exact fin | exact ⟨fin, rfl⟩
      · have c4 : verdV X i k = verdV S i k := hv.resolve_left c3
        rw [c4] at ec
        simp only [rn0, rn1, rn2, rn3, rn4, rn5, rn6, rn7, rn8, if_true, if_false, Nat.le_refl, true_and, and_true, decide_true, decide_false, Bool.not_true, Bool.not_false, reduceIte, Nat.reduceEqDiff, Nat.reduceAdd, Nat.reduceMul, Nat.reduceSub, Nat.reduceLeDiff, Nat.reduceLT, p2, p3, p5, p7, p15, p16, (rsa.mono sg').ld, beg, Nat.zero_add, hk', (rxa.mono sg').whole (n := 5) rfl, eb, ec, ex0, ex1, (rsa.mono (sg'.trans sb)).whole (n := 5) rfl, ed, ee, c3, g_un, hwk]
        first | exact fin | exact ⟨fin, rfl⟩
    · rintro f g' ms ⟨⟨hold', hup', hnx', hfg'⟩, rfl, p2, p3, p5, p7, p15, p16⟩
      have hk' : ¬ (W : Int) ≤ S.last := by omega
      have hWl : W ≤ 10 := by omega
      simp only [rn0, rn1, rn2, rn3, rn4, rn5, rn6, rn7, rn8, if_true, if_false, Nat.le_refl, true_and, and_true, decide_true, decide_false, Bool.not_true, Bool.not_false, reduceIte, Nat.reduceEqDiff, Nat.reduceAdd, Nat.reduceMul, Nat.reduceSub, Nat.reduceLeDiff, Nat.reduceLT, p2, p3, p5, p7, p15, p16, (rsa.mono (AHeap.subOf hold')).ld, beg, Nat.zero_add, hk', hwi]
      have h7 : 700 * W ≤ 7000 := Nat.mul_le_mul_left 700 hWl
      have fin := And.intro hold' (And.intro (by omega : ga.next ≤ g'.next) (And.intro (by rw [Nat.mul_add, Nat.mul_one]; generalize 7000 * i = B at hnx ⊢; generalize 700 * W = C at hnx' h7; omega : g'.next ≤ ga.next + 7000 * (i + 1)) hfg'))
      first | exact fin | exact ⟨fin, rfl⟩
  · rintro f g ms ⟨⟨hold, hup, hnx, hfg⟩, rfl, p2, p3, p5, p7, p15⟩
    simp only [rn0, rn1, rn2, rn3, rn4, rn5, rn6, rn7, rn8, if_true, if_false, Nat.le_refl, true_and, and_true, decide_true, decide_false, Bool.not_true, Bool.not_false, reduceIte, Nat.reduceEqDiff, Nat.reduceAdd, Nat.reduceMul, Nat.reduceSub, Nat.reduceLeDiff, Nat.reduceLT, p2, p3, p5, p7, p15, Cells.len b4a, Int.lt_irrefl]
end Go.Vm.Bt
