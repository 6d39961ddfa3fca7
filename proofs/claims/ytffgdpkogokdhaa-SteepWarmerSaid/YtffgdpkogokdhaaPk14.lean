/- Texts of the proofs of this seat, put together: StC, StWarmer. -/
import Derived.Test.YtffgdpkogokdhaaPk13
import Derived.Test.YtffgdpkogokdhaaRows
import Derived.WalkKit
import Derived.ProofKit
import Derived.OpenShut

namespace Go.Vm.St
open Go.Vm.Vat Go.Proofs Go.ChangeShapes Go.WideShapes Go.ChangeAt Go.RowKit
set_option linter.unusedSimpArgs false
set_option linter.unusedVariables false
set_option maxRecDepth 10000
variable {n : Nat} {h : AHeap}
/-! ### The calls of this program are sound -/
theorem own : ownKnob Try.prog.godebug = none := by kernel_rfl
theorem mixedOn : Try.prog.follows .mixedOrders = true := by kernel_rfl
theorem namesAll : (Try.prog.funcs.toList.all fun fn => !(fn.name == "runtime.NumGoroutine")) = true := by kernel_rfl
theorem namesFine : NamesFine Try.prog := by
  intro f fn hf
  have h := List.all_eq_true.1 namesAll fn (Array.mem_toList_iff.2 (Array.mem_of_getElem? hf))
  simpa using h
theorem tabOk : ∀ E ∈ StAwake.tab, ∃ cf, SoundCF Try.prog cf ∧ entryOk cf E = true := by
  have hs := vm_sound namesFine mixedOn StAwake.quiet 1000
  intro E hE
  refine ⟨_, hs, ?_⟩
  revert E
  simp only [StAwake.tab, List.forall_mem_cons, List.not_mem_nil, false_implies, implies_true, and_true]
  exact ⟨StAwake.ok0, StAwake.ok1, StAwake.ok2, StAwake.ok3, StAwake.ok4, StAwake.ok5, StAwake.ok6, StAwake.ok7, StAwake.ok8⟩
theorem kOk : KOk Try.prog K := by
  intro f v hK
  unfold K at hK
  split at hK
  · rename_i e
    subst e
    cases hK
    refine ⟨rfl, acallO Try.prog StAwake.quiet StAwake.tab 1000, ?_⟩
    have hm := StAwake.main_ok
    cases hr : acallO Try.prog StAwake.quiet StAwake.tab 1000 (.func (.func 24) #[] #[]) [] AHeap.empty with
    | none => rw [hr] at hm; cases hm
    | some vh =>
      obtain ⟨v, h'⟩ := vh
      rw [hr] at hm
      unfold StAwake.isTrue at hm
      split at hm
      · rename_i e
        cases e
        exact ⟨h', acallO_sound namesFine mixedOn StAwake.quiet tabOk 1000, rfl⟩
      · cases hm
  · cases hK
theorem sound (n : Nat) : SoundCF Try.prog (call n) := pcall_sound namesFine mixedOn kOk n
/-! ### The statements' arguments -/
theorem laidOk : laidOutB Try.prog = true := by kernel_rfl
theorem mapsOk : mapsRowed Try.prog = true := by kernel_rfl
theorem slicesOk : ((List.range Try.prog.types.size).all fun t => match Try.prog.underlying t with | some (.slice e) => decide (0 < Try.prog.cellsOf e) | _ => true) = true := by kernel_rfl
theorem kids : Kids Try.prog (· < Try.prog.types.size) := kids_rows laidOk mapsOk
theorem tsize : 120 < Try.prog.types.size := of_decide_eq_true (by kernel_rfl)
theorem cell_int {P : Program} {w : World} {r : Reach} {b : Nat} {t : TypeId} {k : IntKind} {v x : Value} (ht : P.underlying t = some (.int k)) (ho : Value.okWide P w r b t v) (hc : v.cells.toList = [x]) : v = x := by
  unfold Value.okWide at ho
  rw [ht] at ho
  cases v <;> simp_all [Value.cells, Cell.okWide, Cell.ok]
theorem agg_struct {P : Program} {w : World} {r : Reach} {b : Nat} {t : TypeId} {fs : Array Field} {v : Value} {cs : List Value} (ht : P.underlying t = some (.struct fs)) (ho : Value.okWide P w r b t v) (hc : v.cells.toList = cs) : v = .agg ⟨cs⟩ := by
  unfold Value.okWide at ho
  rw [ht] at ho
  obtain ⟨cs', rfl, _⟩ := ho
  subst hc
  rfl
theorem map_int {φ : Emb} {k : IntKind} {a : Int} : mapV φ (.int k a) = .int k a := by simp [mapV]
theorem stands_steep {w : World} {φ : Emb} {a b c d : Int} {u0 u1 u2 fv vv sv : Value} (h0 : Stands φ h u0 fv) (h1 : Stands φ h u1 vv) (h2 : Stands φ h u2 sv) : mapV φ (.agg ⟨[.int .i64 a, .int .i64 b, u0, .int .i64 c, .int .i64 d, u1, u2]⟩) = .agg ⟨[.int .i64 a, .int .i64 b, fv, .int .i64 c, .int .i64 d, vv, sv]⟩ ∧ okV φ h.next (.agg ⟨[.int .i64 a, .int .i64 b, u0, .int .i64 c, .int .i64 d, u1, u2]⟩) := by
  refine ⟨?_, ?_⟩
  · simp only [mapV, mapArr, mapL, h0.map, h1.map, h2.map]
  · simp only [okV, okA, okL, and_true, true_and]
    exact ⟨h0.ok, h1.ok, h2.ok⟩
end Go.Vm.St

namespace Go.Vm.St
open Go.Proofs Go.Vm.Vat
set_option linter.unusedSimpArgs false
set_option linter.unusedVariables false
set_option maxRecDepth 10000
variable {n : Nat} {h : AHeap}
/-- two branches with the same end -/
theorem cond2_merge {X : Cx} {p : Bool} {A B : SCode} {K : Fr → AHeap → List Nat → Prop} {Q : WPost} {f : Fr} {m : List Nat} (R : Fr → AHeap → List Nat → Prop) (h1 : p = true → W X A (thenQ R Q) f h m) (h2 : p = false → W X B (thenQ R Q) f h m) (h3 : ∀ f h m, R f h m → K f h m) :
    condW X (.bool p) A B (thenQ K Q) f h m := by
  cases p with
  | true =>
    rw [cond_true']
    refine W_mono A _ _ (fun e f h m hq => ?_) f h m (h1 rfl)
    cases e with
    | norm => exact h3 _ _ _ hq
    | exit i => exact hq
    | ret => exact hq
  | false =>
    rw [cond_false']
    refine W_mono B _ _ (fun e f h m hq => ?_) f h m (h2 rfl)
    cases e with
    | norm => exact h3 _ _ _ hq
    | exit i => exact hq
    | ret => exact hq
/-- a loop in its block, with a state behind it -/
theorem blkQ {X : Cx} {A : SCode} {i : Nat} {K : Fr → AHeap → List Nat → Prop} {Q : WPost} {f : Fr} {m : List Nat} (R : Fr → AHeap → List Nat → Prop) (h1 : W X A (blockQ i (thenQ R Q)) f h m) (h3 : ∀ f h m, R f h m → K f h m) : W X A (blockQ i (thenQ K Q)) f h m := by
  refine W_mono A _ _ (fun e f h m hq => ?_) f h m h1
  cases e with
  | norm => exact h3 _ _ _ hq
  | exit j =>
    by_cases c : j = i
    · subst c
      simp only [blockQ, if_true, thenQ] at hq ⊢
      exact h3 _ _ _ hq
    · simp only [blockQ, c, if_false, thenQ] at hq ⊢
      exact hq
  | ret => exact hq
/-- a guard that was not set -/
theorem dg_un {X : Cx} {S : Nat → Prop} {h0 h : AHeap} {k : Kd} {d : Option Nat} {want : Bool} {op : SOp} {L : List DI} {Q : WPost} {f : Fr} {m : List Nat} : dgW X S h0 undef want k d op L Q f h m = dW X S h0 L Q (putF f d undef) h m := by
  have : isB want undef = false := rfl
  simp [dgW, this]
/-- the greater ones, at some places -/
def mxU (P : Nat → Bool) (u1 u2 : Nat → Int) (i : Nat) : Int := if P i then max (u1 i) (u2 i) else u1 i
theorem mxU_ge {P : Nat → Bool} {u1 u2 : Nat → Int} (i : Nat) : u1 i ≤ mxU P u1 u2 i := by unfold mxU; split <;> omega
theorem mxU_in {P : Nat → Bool} {u1 u2 : Nat → Int} {S : MS} (h1 : InU S u1) (h2 : InU S u2) : InU S (mxU P u1 u2) := fun i hi => by
  have a := h1 i hi
  have b := h2 i hi
  unfold mxU
  split <;> omega
theorem mxU_no {P : Nat → Bool} {u1 u2 : Nat → Int} {i : Nat} (h : P i = false) : mxU P u1 u2 i = u1 i := by simp [mxU, h]
theorem mxU_yes {P : Nat → Bool} {u1 u2 : Nat → Int} {i : Nat} (h : P i = true) : mxU P u1 u2 i = max (u1 i) (u2 i) := by simp [mxU, h]
theorem rowI_congr {m : Nat} {a b : Nat → Int} (he : ∀ i, i < m → a i = b i) : rowI m a = rowI m b := by
  unfold rowI
  refine List.map_congr_left fun i hi => ?_
  rw [he i (List.mem_range.1 hi)]
/-- the truth that is changed, as it lies in memory -/
structure WarmM (g : AHeap) (S : MS) (p b1 b2 c1 : Nat) (v2 : Value) (u : Nat → Int) : Prop where
  row : g.get p = some (.row (trL (.slice (some ⟨b1, 0, none⟩) S.nw c1) v2 (u S.nw)) true 0)
  w : g.get b1 = some (.row (rowI S.nw u) true 1)
  f : S.nv = 0 ∨ ∃ c2, v2 = .slice (some ⟨b2, 0, none⟩) S.nv c2 ∧ g.get b2 = some (.row (rowI S.nv fun v => u (S.nw + 1 + v)) true 1)
theorem WarmM.congr {g : AHeap} {S : MS} {p b1 b2 c1 : Nat} {v2 : Value} {u u' : Nat → Int} (hm : WarmM g S p b1 b2 c1 v2 u) (he : ∀ i, i < numU S → u i = u' i) : WarmM g S p b1 b2 c1 v2 u' := by
  refine ⟨?_, ?_, ?_⟩
  · rw [← he S.nw (by unfold numU; omega)]; exact hm.row
  · rw [← rowI_congr fun i hi => he i (by unfold numU; omega)]; exact hm.w
  · rcases hm.f with h0 | ⟨c2, e, q⟩
    · exact .inl h0
    · exact .inr ⟨c2, e, by rw [← rowI_congr (a := fun v => u (S.nw + 1 + v)) fun i hi => he (S.nw + 1 + i) (by unfold numU; omega)]; exact q⟩
theorem WarmM.setW {g g' : AHeap} {S : MS} {p b1 b2 c1 k : Nat} {v2 : Value} {u : Nat → Int} {x : Int} (hm : WarmM g S p b1 b2 c1 v2 u) (hs : Set1 g g' b1 (splice (rowI S.nw u) (k * 1) [.int .i64 x]) 1) (hk : k < S.nw) (h1 : p ≠ b1) (h2 : b2 ≠ b1) :
    WarmM g' S p b1 b2 c1 v2 fun i => if i = k then x else u i := by
  rw [Nat.mul_one, rowI_splice hk] at hs
  refine ⟨?_, hs.get, ?_⟩
  · rw [if_neg (by omega), hs.old _ h1]; exact hm.row
  · rcases hm.f with h0 | ⟨c2, e, q⟩
    · exact .inl h0
    · refine .inr ⟨c2, e, ?_⟩
      rw [hs.old _ h2, q, rowI_congr fun i hi => ?_]
      rw [if_neg (by omega)]
theorem WarmM.setF {g g' : AHeap} {S : MS} {p b1 b2 c1 k : Nat} {v2 : Value} {u : Nat → Int} {x : Int} (hm : WarmM g S p b1 b2 c1 v2 u) (hs : Set1 g g' b2 (splice (rowI S.nv fun v => u (S.nw + 1 + v)) (k * 1) [.int .i64 x]) 1) (hk : k < S.nv) (h1 : p ≠ b2) (h2 : b1 ≠ b2) :
    WarmM g' S p b1 b2 c1 v2 fun i => if i = S.nw + 1 + k then x else u i := by
  rw [Nat.mul_one, rowI_splice hk] at hs
  refine ⟨?_, ?_, ?_⟩
  · rw [if_neg (by omega), hs.old _ h1]; exact hm.row
  · rw [hs.old _ h2, hm.w, rowI_congr fun i hi => ?_]
    rw [if_neg (by omega)]
  · rcases hm.f with h0 | ⟨c2, e, q⟩
    · exact .inl h0
    · refine .inr ⟨c2, e, ?_⟩
      rw [hs.get, rowI_congr fun i hi => ?_]
      by_cases c : i = k
      · rw [if_pos c, if_pos (by omega)]
      · rw [if_neg c, if_neg (by omega)]
theorem WarmM.setS {g g' : AHeap} {S : MS} {p b1 b2 c1 : Nat} {v2 : Value} {u : Nat → Int} {x : Int} (hm : WarmM g S p b1 b2 c1 v2 u) (hs : Set1 g g' p (splice (trL (.slice (some ⟨b1, 0, none⟩) S.nw c1) v2 (u S.nw)) 1 [.int .i64 x]) 0) (h1 : b1 ≠ p) (h2 : b2 ≠ p) :
    WarmM g' S p b1 b2 c1 v2 fun i => if i = S.nw then x else u i := by
  refine ⟨?_, ?_, ?_⟩
  · rw [if_pos rfl, hs.get]; rfl
  · rw [hs.old _ h1, hm.w, rowI_congr fun i hi => ?_]
    rw [if_neg (by omega)]
  · rcases hm.f with h0 | ⟨c2, e, q⟩
    · exact .inl h0
    · refine .inr ⟨c2, e, ?_⟩
      rw [hs.old _ h2, q, rowI_congr fun i hi => ?_]
      rw [if_neg (by omega)]
theorem WarmM.tru {g : AHeap} {S : MS} {p b1 b2 c1 : Nat} {x2 : Option Addr} {c2 : Nat} {u : Nat → Int} (hm : WarmM g S p b1 b2 c1 (.slice x2 S.nv c2) u) (h0 : ∀ x, x2 = some x → x.spot = none) : TruR g (.slice (some ⟨b1, 0, none⟩) S.nw c1) (.slice x2 S.nv c2) S u := by
  refine ⟨ints_row hm.w, ?_⟩
  rcases hm.f with h | ⟨c', e, q⟩
  · refine ⟨x2, c2, rfl, h0, .inl h⟩
  · cases e
    exact ints_row q
def s14 : SCode := (.seq (.ops [⟨(some 4), none, .box (T 0)⟩, ⟨(some 8), none, .mov (.const (.bool false))⟩]) (.seq (.seq (.ops [⟨(some 24), none, .loadN 7 (T 4)⟩, ⟨(some 25), none, .call (.func 59) [(T 24)]⟩, ⟨(some 26), none, .not (T 25)⟩]) (.cond (T 26) (.seq (.ops [⟨(some 27), none, .call (.func 24) []⟩, ⟨(some 8), none, .mov (T 27)⟩]) .ret) .skip)) (.seq (.draw [⟨.rd, ⟨(some 28), none, .loadN 7 (T 4)⟩⟩, ⟨.free, ⟨(some 29), none, .mov (T 1)⟩⟩, ⟨.free, ⟨(some 30), none, .plain (.convert 90 3 (T 29)) 3⟩⟩, ⟨.rd1, ⟨(some 31), none, .loadN 7 (T 4)⟩⟩, ⟨.up, ⟨(some 32), none, .call (.func 64) [(T 31)]⟩⟩, ⟨.free, ⟨(some 33), none, .plain (.binOp .rem 3 (T 30) (T 32) 3) 3⟩⟩, ⟨.up, ⟨(some 34), none, .call (.func 63) [(T 28), (T 33)]⟩⟩, ⟨.rd, ⟨(some 35), none, .loadN 7 (T 4)⟩⟩, ⟨.free, ⟨(some 36), none, .mov (T 2)⟩⟩, ⟨.free, ⟨(some 37), none, .plain (.convert 90 3 (T 36)) 3⟩⟩, ⟨.rd, ⟨(some 38), none, .loadN 7 (T 4)⟩⟩, ⟨.up, ⟨(some 39), none, .call (.func 64) [(T 38)]⟩⟩, ⟨.free, ⟨(some 40), none, .plain (.binOp .rem 3 (T 37) (T 39) 3) 3⟩⟩, ⟨.any, ⟨(some 41), none, .call (.func 63) [(T 35), (T 40)]⟩⟩, ⟨.any, ⟨(some 9), none, .alloc [(.slice none 0 0), (.int .i64 (0)), (.slice none 0 0)]⟩⟩, ⟨.any, ⟨(some 10), none, .alloc [(.slice none 0 0), (.int .i64 (0)), (.slice none 0 0)]⟩⟩, ⟨.any, ⟨none, none, .store 3 (T 9) (T 34)⟩⟩, ⟨.any, ⟨none, none, .store 3 (T 10) (T 41)⟩⟩]) (.seq (.draw [⟨.free, ⟨(some 42), none, .fieldAddr 0 (T 9)⟩⟩, ⟨.rd1, ⟨(some 43), none, .load1 (T 42)⟩⟩, ⟨.up, ⟨(some 44), none, .call (.func 65) [(T 43)]⟩⟩, ⟨.free, ⟨(some 45), none, .fieldAddr 1 (T 9)⟩⟩, ⟨.rd, ⟨(some 46), none, .load1 (T 45)⟩⟩, ⟨.free, ⟨(some 47), none, .fieldAddr 2 (T 9)⟩⟩, ⟨.rd, ⟨(some 48), none, .load1 (T 47)⟩⟩, ⟨.up, ⟨(some 49), none, .call (.func 65) [(T 48)]⟩⟩, ⟨.free, ⟨(some 50), none, .build #[(0, 1), (1, 1), (2, 1)] [(.slice none 0 0), (.int .i64 (0)), (.slice none 0 0)] [0, 1, 2] [(T 44), (T 46), (T 49)]⟩⟩, ⟨.up, ⟨(some 11), none, .alloc [(.slice none 0 0), (.int .i64 (0)), (.slice none 0 0)]⟩⟩, ⟨.any, ⟨none, none, .store 3 (T 11) (T 50)⟩⟩]) (.seq (.ops [⟨(some 51), none, .mov (T 3)⟩, ⟨(some 52), none, .plain (.convert 5 3 (T 51)) 3⟩, ⟨(some 53), none, .plain (.binOp .rem 3 (T 52) (.const (.int .i64 (3))) 3) 3⟩, ⟨(some 12), none, .mov (T 53)⟩]) (.seq (.seq (.ops [⟨(some 13), none, .mov (.const (.int .i64 (0)))⟩]) (.block 0 (.loop (.seq (.seq (.ops [⟨(some 54), none, .mov (T 13)⟩, ⟨(some 55), none, .fieldAddr 0 (T 10)⟩, ⟨(some 56), none, .load1 (T 55)⟩, ⟨(some 57), none, .len (T 56)⟩, ⟨(some 58), none, .int2 .lss (T 54) (T 57)⟩, ⟨(some 59), none, .mov (T 58)⟩, ⟨(some 60), (some (59, true)), .mov (T 12)⟩, ⟨(some 61), (some (59, true)), .int2 .eql (T 60) (.const (.int .i64 (0)))⟩, ⟨(some 62), none, .pick (T 59) (T 61) (.const (.bool false))⟩]) (.cond (T 62) .skip (.exit 0))) (.seq (.block 1 (.draw [⟨.free, ⟨(some 65), none, .fieldAddr 0 (T 11)⟩⟩, ⟨.rd1, ⟨(some 66), none, .load1 (T 65)⟩⟩, ⟨.free, ⟨(some 67), none, .mov (T 13)⟩⟩, ⟨.free, ⟨(some 68), none, .fieldAddr 0 (T 9)⟩⟩, ⟨.rd1, ⟨(some 69), none, .load1 (T 68)⟩⟩, ⟨.free, ⟨(some 70), none, .mov (T 13)⟩⟩, ⟨.free, ⟨(some 71), none, .idxSl 1 (T 69) (T 70)⟩⟩, ⟨.rd1, ⟨(some 72), none, .load1 (T 71)⟩⟩, ⟨.free, ⟨(some 73), none, .fieldAddr 0 (T 10)⟩⟩, ⟨.rd1, ⟨(some 74), none, .load1 (T 73)⟩⟩, ⟨.free, ⟨(some 75), none, .mov (T 13)⟩⟩, ⟨.free, ⟨(some 76), none, .idxSl 1 (T 74) (T 75)⟩⟩, ⟨.rd1, ⟨(some 77), none, .load1 (T 76)⟩⟩, ⟨.free, ⟨(some 78), none, .plain (.call { callee := .builtin .max, args := #[(T 72), (T 77)], argTypes := #[3, 3] }) 3⟩⟩, ⟨.free, ⟨(some 79), none, .idxSl 1 (T 66) (T 67)⟩⟩, ⟨.any, ⟨none, none, .store 1 (T 79) (T 78)⟩⟩])) (.ops [⟨(some 63), none, .mov (T 13)⟩, ⟨(some 64), none, .int2 .add (T 63) (.const (.int .i64 (1)))⟩, ⟨(some 13), none, .mov (T 64)⟩])))))) (.seq (.seq (.ops [⟨(some 14), none, .mov (.const (.int .i64 (0)))⟩]) (.block 2 (.loop (.seq (.seq (.ops [⟨(some 80), none, .mov (T 14)⟩, ⟨(some 81), none, .fieldAddr 2 (T 10)⟩, ⟨(some 82), none, .load1 (T 81)⟩, ⟨(some 83), none, .len (T 82)⟩, ⟨(some 84), none, .int2 .lss (T 80) (T 83)⟩, ⟨(some 85), none, .mov (T 84)⟩, ⟨(some 86), (some (85, true)), .mov (T 12)⟩, ⟨(some 87), (some (85, true)), .int2 .eql (T 86) (.const (.int .i64 (2)))⟩, ⟨(some 88), none, .pick (T 85) (T 87) (.const (.bool false))⟩]) (.cond (T 88) .skip (.exit 2))) (.seq (.block 3 (.draw [⟨.free, ⟨(some 91), none, .fieldAddr 2 (T 11)⟩⟩, ⟨.rd1, ⟨(some 92), none, .load1 (T 91)⟩⟩, ⟨.free, ⟨(some 93), none, .mov (T 14)⟩⟩, ⟨.free, ⟨(some 94), none, .fieldAddr 2 (T 9)⟩⟩, ⟨.rd1, ⟨(some 95), none, .load1 (T 94)⟩⟩, ⟨.free, ⟨(some 96), none, .mov (T 14)⟩⟩, ⟨.free, ⟨(some 97), none, .idxSl 1 (T 95) (T 96)⟩⟩, ⟨.rd1, ⟨(some 98), none, .load1 (T 97)⟩⟩, ⟨.free, ⟨(some 99), none, .fieldAddr 2 (T 10)⟩⟩, ⟨.rd1, ⟨(some 100), none, .load1 (T 99)⟩⟩, ⟨.free, ⟨(some 101), none, .mov (T 14)⟩⟩, ⟨.free, ⟨(some 102), none, .idxSl 1 (T 100) (T 101)⟩⟩, ⟨.rd1, ⟨(some 103), none, .load1 (T 102)⟩⟩, ⟨.free, ⟨(some 104), none, .plain (.call { callee := .builtin .max, args := #[(T 98), (T 103)], argTypes := #[3, 3] }) 3⟩⟩, ⟨.free, ⟨(some 105), none, .idxSl 1 (T 92) (T 93)⟩⟩, ⟨.any, ⟨none, none, .store 1 (T 105) (T 104)⟩⟩])) (.ops [⟨(some 89), none, .mov (T 14)⟩, ⟨(some 90), none, .int2 .add (T 89) (.const (.int .i64 (1)))⟩, ⟨(some 14), none, .mov (T 90)⟩])))))) (.seq (.seq (.ops [⟨(some 106), none, .mov (T 12)⟩, ⟨(some 107), none, .int2 .eql (T 106) (.const (.int .i64 (1)))⟩]) (.cond (T 107) (.ops [⟨(some 108), none, .fieldAddr 1 (T 9)⟩, ⟨(some 109), none, .load1 (T 108)⟩, ⟨(some 110), none, .fieldAddr 1 (T 10)⟩, ⟨(some 111), none, .load1 (T 110)⟩, ⟨(some 112), none, .plain (.call { callee := .builtin .max, args := #[(T 109), (T 111)], argTypes := #[3, 3] }) 3⟩, ⟨(some 113), none, .fieldAddr 1 (T 11)⟩, ⟨none, none, .store 1 (T 113) (T 112)⟩]) .skip)) (.seq (.draw [⟨.rd1, ⟨(some 115), none, .loadN 7 (T 4)⟩⟩, ⟨.up, ⟨(some 116), none, .call (.func 26) [(T 115)]⟩⟩, ⟨.rd, ⟨(some 117), none, .loadN 3 (T 9)⟩⟩, ⟨.any, ⟨(some 118), none, .call (.func 27) [(T 117)]⟩⟩, ⟨.any, ⟨(some 119), none, .call (.func 25) [(T 116), (T 118)]⟩⟩, ⟨.free, ⟨(some 114), none, .mov (T 119)⟩⟩, ⟨.free, ⟨(some 120), none, .extract 0 (T 114)⟩⟩, ⟨.free, ⟨(some 121), none, .extract 1 (T 114)⟩⟩, ⟨.free, ⟨(some 122), none, .extract 2 (T 114)⟩⟩, ⟨.free, ⟨(some 15), none, .mov (T 120)⟩⟩, ⟨.free, ⟨(some 16), none, .mov (T 121)⟩⟩, ⟨.free, ⟨(some 17), none, .mov (T 122)⟩⟩]) (.seq (.draw [⟨.rd1, ⟨(some 124), none, .loadN 7 (T 4)⟩⟩, ⟨.up, ⟨(some 125), none, .call (.func 26) [(T 124)]⟩⟩, ⟨.rd, ⟨(some 126), none, .loadN 3 (T 11)⟩⟩, ⟨.any, ⟨(some 127), none, .call (.func 27) [(T 126)]⟩⟩, ⟨.any, ⟨(some 128), none, .call (.func 25) [(T 125), (T 127)]⟩⟩, ⟨.free, ⟨(some 123), none, .mov (T 128)⟩⟩, ⟨.free, ⟨(some 129), none, .extract 0 (T 123)⟩⟩, ⟨.free, ⟨(some 130), none, .extract 1 (T 123)⟩⟩, ⟨.free, ⟨(some 131), none, .extract 2 (T 123)⟩⟩, ⟨.free, ⟨(some 18), none, .mov (T 129)⟩⟩, ⟨.free, ⟨(some 19), none, .mov (T 130)⟩⟩, ⟨.free, ⟨(some 20), none, .mov (T 131)⟩⟩]) (.seq (.seq (.ops [⟨(some 132), none, .mov (T 17)⟩, ⟨(some 133), none, .int2 .neq (T 132) (.const (.int .i64 (0)))⟩, ⟨(some 134), none, .mov (T 133)⟩, ⟨(some 135), (some (134, false)), .mov (T 20)⟩, ⟨(some 136), (some (134, false)), .int2 .neq (T 135) (.const (.int .i64 (0)))⟩, ⟨(some 137), none, .pick (T 134) (.const (.bool true)) (T 136)⟩, ⟨(some 138), none, .mov (T 137)⟩, ⟨(some 139), (some (138, false)), .mov (T 15)⟩, ⟨(some 140), (some (138, false)), .len (T 139)⟩, ⟨(some 141), (some (138, false)), .fieldAddr 5 (T 4)⟩, ⟨(some 142), (some (138, false)), .load1 (T 141)⟩, ⟨(some 143), (some (138, false)), .len (T 142)⟩, ⟨(some 144), (some (138, false)), .int2 .neq (T 140) (T 143)⟩, ⟨(some 145), none, .pick (T 138) (.const (.bool true)) (T 144)⟩, ⟨(some 146), none, .mov (T 145)⟩, ⟨(some 147), (some (146, false)), .mov (T 18)⟩, ⟨(some 148), (some (146, false)), .len (T 147)⟩, ⟨(some 149), (some (146, false)), .mov (T 15)⟩, ⟨(some 150), (some (146, false)), .len (T 149)⟩, ⟨(some 151), (some (146, false)), .int2 .neq (T 148) (T 150)⟩, ⟨(some 152), none, .pick (T 146) (.const (.bool true)) (T 151)⟩, ⟨(some 153), none, .mov (T 152)⟩, ⟨(some 154), (some (153, false)), .mov (T 16)⟩, ⟨(some 155), (some (153, false)), .len (T 154)⟩, ⟨(some 156), (some (153, false)), .mov (T 15)⟩, ⟨(some 157), (some (153, false)), .len (T 156)⟩, ⟨(some 158), (some (153, false)), .int2 .neq (T 155) (T 157)⟩, ⟨(some 159), none, .pick (T 153) (.const (.bool true)) (T 158)⟩, ⟨(some 160), none, .mov (T 159)⟩, ⟨(some 161), (some (160, false)), .mov (T 19)⟩, ⟨(some 162), (some (160, false)), .len (T 161)⟩, ⟨(some 163), (some (160, false)), .mov (T 15)⟩, ⟨(some 164), (some (160, false)), .len (T 163)⟩, ⟨(some 165), (some (160, false)), .int2 .neq (T 162) (T 164)⟩, ⟨(some 166), none, .pick (T 160) (.const (.bool true)) (T 165)⟩]) (.cond (T 166) (.seq (.ops [⟨(some 8), none, .mov (.const (.bool false))⟩]) .ret) .skip)) (.seq (.seq (.ops [⟨(some 21), none, .mov (.const (.int .i64 (0)))⟩]) (.block 4 (.loop (.seq (.seq (.ops [⟨(some 167), none, .mov (T 21)⟩, ⟨(some 168), none, .mov (T 15)⟩, ⟨(some 169), none, .len (T 168)⟩, ⟨(some 170), none, .int2 .lss (T 167) (T 169)⟩]) (.cond (T 170) .skip (.exit 4))) (.seq (.block 5 (.seq (.draw [⟨.free, ⟨(some 173), none, .fieldAddr 0 (T 4)⟩⟩, ⟨.rd1, ⟨(some 174), none, .load1 (T 173)⟩⟩, ⟨.free, ⟨(some 175), none, .fieldAddr 5 (T 4)⟩⟩, ⟨.rd1, ⟨(some 176), none, .load1 (T 175)⟩⟩, ⟨.free, ⟨(some 177), none, .mov (T 21)⟩⟩, ⟨.free, ⟨(some 178), none, .idxSl 4 (T 176) (T 177)⟩⟩, ⟨.free, ⟨(some 179), none, .fieldAddr 0 (T 178)⟩⟩, ⟨.rd1, ⟨(some 180), none, .load1 (T 179)⟩⟩, ⟨.free, ⟨(some 181), none, .int2 .sub (T 174) (T 180)⟩⟩, ⟨.free, ⟨(some 182), none, .int2 .add (T 181) (.const (.int .i64 (1)))⟩⟩, ⟨.free, ⟨(some 22), none, .mov (T 182)⟩⟩]) (.seq (.seq (.ops [⟨(some 183), none, .mov (T 15)⟩, ⟨(some 184), none, .mov (T 21)⟩, ⟨(some 185), none, .idxSl 1 (T 183) (T 184)⟩, ⟨(some 186), none, .load1 (T 185)⟩, ⟨(some 187), none, .len (T 186)⟩, ⟨(some 188), none, .mov (T 22)⟩, ⟨(some 189), none, .int2 .neq (T 187) (T 188)⟩, ⟨(some 190), none, .mov (T 189)⟩, ⟨(some 191), (some (190, false)), .mov (T 18)⟩, ⟨(some 192), (some (190, false)), .mov (T 21)⟩, ⟨(some 193), (some (190, false)), .idxSl 1 (T 191) (T 192)⟩, ⟨(some 194), (some (190, false)), .load1 (T 193)⟩, ⟨(some 195), (some (190, false)), .len (T 194)⟩, ⟨(some 196), (some (190, false)), .mov (T 22)⟩, ⟨(some 197), (some (190, false)), .int2 .neq (T 195) (T 196)⟩, ⟨(some 198), none, .pick (T 190) (.const (.bool true)) (T 197)⟩, ⟨(some 199), none, .mov (T 198)⟩, ⟨(some 200), (some (199, false)), .mov (T 16)⟩, ⟨(some 201), (some (199, false)), .mov (T 21)⟩, ⟨(some 202), (some (199, false)), .idxSl 1 (T 200) (T 201)⟩, ⟨(some 203), (some (199, false)), .load1 (T 202)⟩, ⟨(some 204), (some (199, false)), .len (T 203)⟩, ⟨(some 205), (some (199, false)), .mov (T 22)⟩, ⟨(some 206), (some (199, false)), .int2 .neq (T 204) (T 205)⟩, ⟨(some 207), none, .pick (T 199) (.const (.bool true)) (T 206)⟩, ⟨(some 208), none, .mov (T 207)⟩, ⟨(some 209), (some (208, false)), .mov (T 19)⟩, ⟨(some 210), (some (208, false)), .mov (T 21)⟩, ⟨(some 211), (some (208, false)), .idxSl 1 (T 209) (T 210)⟩, ⟨(some 212), (some (208, false)), .load1 (T 211)⟩, ⟨(some 213), (some (208, false)), .len (T 212)⟩, ⟨(some 214), (some (208, false)), .mov (T 22)⟩, ⟨(some 215), (some (208, false)), .int2 .neq (T 213) (T 214)⟩, ⟨(some 216), none, .pick (T 208) (.const (.bool true)) (T 215)⟩]) (.cond (T 216) (.seq (.ops [⟨(some 8), none, .mov (.const (.bool false))⟩]) .ret) .skip)) (.seq (.ops [⟨(some 23), none, .mov (.const (.int .i64 (0)))⟩]) (.block 6 (.loop (.seq (.seq (.ops [⟨(some 217), none, .mov (T 23)⟩, ⟨(some 218), none, .mov (T 22)⟩, ⟨(some 219), none, .int2 .lss (T 217) (T 218)⟩]) (.cond (T 219) .skip (.exit 6))) (.seq (.block 7 (.seq (.draw [⟨.free, ⟨(some 222), none, .mov (T 18)⟩⟩, ⟨.free, ⟨(some 223), none, .mov (T 21)⟩⟩, ⟨.free, ⟨(some 224), none, .idxSl 1 (T 222) (T 223)⟩⟩, ⟨.rd1, ⟨(some 225), none, .load1 (T 224)⟩⟩, ⟨.free, ⟨(some 226), none, .mov (T 23)⟩⟩, ⟨.free, ⟨(some 227), none, .idxSl 1 (T 225) (T 226)⟩⟩, ⟨.rd1, ⟨(some 228), none, .load1 (T 227)⟩⟩, ⟨.free, ⟨(some 229), none, .mov (T 15)⟩⟩, ⟨.free, ⟨(some 230), none, .mov (T 21)⟩⟩, ⟨.free, ⟨(some 231), none, .idxSl 1 (T 229) (T 230)⟩⟩, ⟨.rd1, ⟨(some 232), none, .load1 (T 231)⟩⟩, ⟨.free, ⟨(some 233), none, .mov (T 23)⟩⟩, ⟨.free, ⟨(some 234), none, .idxSl 1 (T 232) (T 233)⟩⟩, ⟨.rd1, ⟨(some 235), none, .load1 (T 234)⟩⟩, ⟨.free, ⟨(some 236), none, .int2 .lss (T 228) (T 235)⟩⟩, ⟨.free, ⟨(some 237), none, .mov (T 236)⟩⟩, ⟨.free, ⟨(some 238), (some (237, false)), .mov (T 12)⟩⟩, ⟨.free, ⟨(some 239), (some (237, false)), .int2 .eql (T 238) (.const (.int .i64 (0)))⟩⟩, ⟨.free, ⟨(some 240), (some (237, false)), .mov (T 239)⟩⟩, ⟨.free, ⟨(some 241), (some (240, true)), .mov (T 19)⟩⟩, ⟨.free, ⟨(some 242), (some (240, true)), .mov (T 21)⟩⟩, ⟨.free, ⟨(some 243), (some (240, true)), .idxSl 1 (T 241) (T 242)⟩⟩, ⟨.rd1, ⟨(some 244), (some (240, true)), .load1 (T 243)⟩⟩, ⟨.free, ⟨(some 245), (some (240, true)), .mov (T 23)⟩⟩, ⟨.free, ⟨(some 246), (some (240, true)), .idxSl 1 (T 244) (T 245)⟩⟩, ⟨.rd1, ⟨(some 247), (some (240, true)), .load1 (T 246)⟩⟩, ⟨.free, ⟨(some 248), (some (240, true)), .mov (T 16)⟩⟩, ⟨.free, ⟨(some 249), (some (240, true)), .mov (T 21)⟩⟩, ⟨.free, ⟨(some 250), (some (240, true)), .idxSl 1 (T 248) (T 249)⟩⟩, ⟨.rd1, ⟨(some 251), (some (240, true)), .load1 (T 250)⟩⟩, ⟨.free, ⟨(some 252), (some (240, true)), .mov (T 23)⟩⟩, ⟨.free, ⟨(some 253), (some (240, true)), .idxSl 1 (T 251) (T 252)⟩⟩, ⟨.rd1, ⟨(some 254), (some (240, true)), .load1 (T 253)⟩⟩, ⟨.free, ⟨(some 255), (some (240, true)), .int2 .lss (T 247) (T 254)⟩⟩, ⟨.free, ⟨(some 256), (some (237, false)), .pick (T 240) (T 255) (.const (.bool false))⟩⟩, ⟨.free, ⟨(some 257), none, .pick (T 237) (.const (.bool true)) (T 256)⟩⟩, ⟨.free, ⟨(some 258), none, .mov (T 257)⟩⟩, ⟨.free, ⟨(some 259), (some (258, false)), .mov (T 12)⟩⟩, ⟨.free, ⟨(some 260), (some (258, false)), .int2 .eql (T 259) (.const (.int .i64 (1)))⟩⟩, ⟨.free, ⟨(some 261), (some (258, false)), .mov (T 260)⟩⟩, ⟨.free, ⟨(some 262), (some (261, true)), .mov (T 19)⟩⟩, ⟨.free, ⟨(some 263), (some (261, true)), .mov (T 21)⟩⟩, ⟨.free, ⟨(some 264), (some (261, true)), .idxSl 1 (T 262) (T 263)⟩⟩, ⟨.rd1, ⟨(some 265), (some (261, true)), .load1 (T 264)⟩⟩, ⟨.free, ⟨(some 266), (some (261, true)), .mov (T 23)⟩⟩, ⟨.free, ⟨(some 267), (some (261, true)), .idxSl 1 (T 265) (T 266)⟩⟩, ⟨.rd1, ⟨(some 268), (some (261, true)), .load1 (T 267)⟩⟩, ⟨.free, ⟨(some 269), (some (261, true)), .mov (T 16)⟩⟩, ⟨.free, ⟨(some 270), (some (261, true)), .mov (T 21)⟩⟩, ⟨.free, ⟨(some 271), (some (261, true)), .idxSl 1 (T 269) (T 270)⟩⟩, ⟨.rd1, ⟨(some 272), (some (261, true)), .load1 (T 271)⟩⟩, ⟨.free, ⟨(some 273), (some (261, true)), .mov (T 23)⟩⟩, ⟨.free, ⟨(some 274), (some (261, true)), .idxSl 1 (T 272) (T 273)⟩⟩, ⟨.rd1, ⟨(some 275), (some (261, true)), .load1 (T 274)⟩⟩, ⟨.free, ⟨(some 276), (some (261, true)), .int2 .gtr (T 268) (T 275)⟩⟩, ⟨.free, ⟨(some 277), (some (261, true)), .mov (T 276)⟩⟩, ⟨.free, ⟨(some 278), (some (277, false)), .mov (T 18)⟩⟩, ⟨.free, ⟨(some 279), (some (277, false)), .mov (T 21)⟩⟩, ⟨.free, ⟨(some 280), (some (277, false)), .idxSl 1 (T 278) (T 279)⟩⟩, ⟨.rd1, ⟨(some 281), (some (277, false)), .load1 (T 280)⟩⟩, ⟨.free, ⟨(some 282), (some (277, false)), .mov (T 23)⟩⟩, ⟨.free, ⟨(some 283), (some (277, false)), .idxSl 1 (T 281) (T 282)⟩⟩, ⟨.rd1, ⟨(some 284), (some (277, false)), .load1 (T 283)⟩⟩, ⟨.free, ⟨(some 285), (some (277, false)), .mov (T 15)⟩⟩, ⟨.free, ⟨(some 286), (some (277, false)), .mov (T 21)⟩⟩, ⟨.free, ⟨(some 287), (some (277, false)), .idxSl 1 (T 285) (T 286)⟩⟩, ⟨.rd1, ⟨(some 288), (some (277, false)), .load1 (T 287)⟩⟩, ⟨.free, ⟨(some 289), (some (277, false)), .mov (T 23)⟩⟩, ⟨.free, ⟨(some 290), (some (277, false)), .idxSl 1 (T 288) (T 289)⟩⟩, ⟨.rd1, ⟨(some 291), (some (277, false)), .load1 (T 290)⟩⟩, ⟨.free, ⟨(some 292), (some (277, false)), .int2 .neq (T 284) (T 291)⟩⟩, ⟨.free, ⟨(some 293), (some (261, true)), .pick (T 277) (.const (.bool true)) (T 292)⟩⟩, ⟨.free, ⟨(some 294), (some (258, false)), .pick (T 261) (T 293) (.const (.bool false))⟩⟩, ⟨.free, ⟨(some 295), none, .pick (T 258) (.const (.bool true)) (T 294)⟩⟩]) (.cond (T 295) (.seq (.ops [⟨(some 8), none, .mov (.const (.bool false))⟩]) .ret) .skip))) (.ops [⟨(some 220), none, .mov (T 23)⟩, ⟨(some 221), none, .int2 .add (T 220) (.const (.int .i64 (1)))⟩, ⟨(some 23), none, .mov (T 221)⟩]))))))))) (.ops [⟨(some 171), none, .mov (T 21)⟩, ⟨(some 172), none, .int2 .add (T 171) (.const (.int .i64 (1)))⟩, ⟨(some 21), none, .mov (T 172)⟩])))))) (.seq (.ops [⟨(some 296), none, .call (.func 24) []⟩, ⟨(some 8), none, .mov (T 296)⟩]) .ret)))))))))))))
theorem fok14 : FnOk Try.prog 14 297 s14 [.tmp 8] := ⟨Try.f14, _, Try.func14, rfl, Try.ntmps14, by kernel_rfl, by kernel_rfl⟩
set_option maxHeartbeats 4000000 in
theorem warmer_c (hn : 200 ≤ n) (hr : h.next + 5000 < far) (hfl : h.floor ≤ h.next) {wv vv sv : Value} {S : MS} (hy : SteepR h wv vv sv S) (a1 : Int) (wf1 : (Lit.int .u16 a1).wf = true) (a2 : Int) (wf2 : (Lit.int .u16 a2).wf = true) (a3 : Int) (wf3 : (Lit.int .u8 a3).wf = true) :
    ∃ v h', call n (.func (.func 14) #[] #[]) [.agg ⟨stL S wv vv sv⟩, .int .u16 a1, .int .u16 a2, .int .u8 a3] h = some (v, h') ∧ v = .bool true := by
  obtain ⟨n, rfl⟩ : ∃ p, n = p + 1 := ⟨n - 1, by omega⟩
  obtain ⟨w1, rfl, hw1⟩ := wf16 wf1
  obtain ⟨w2, rfl, hw2⟩ := wf16 wf2
  obtain ⟨w3, rfl, hw3⟩ := wf8 wf3
  refine call_any0 fok14 rfl rfl (by simp) ?_
  simp only [s14, W_seq, W_ops]
  refine ops_box (cs := stL S wv vv sv) (by omega) rfl hy.one fun g1 hx1 => ?_
  have n1 := hx1.next
  have f1 := hx1.floor
  have hy1 := hy.mono hx1.sub
  have r1 := hx1.row
  have er := ready_c (n := n) (h := g1) (by omega) (by omega) hy1
  by_cases hTf : ThinS S ∧ faultS S = 0
  case neg =>
    simp only [rn0, rn1, rn2, rn3, rn4, rn5, rn6, rn7, rn8, if_true, if_false, Nat.le_refl, true_and, and_true, decide_true, decide_false, Bool.not_true, Bool.not_false, reduceIte, Nat.reduceEqDiff, Nat.reduceAdd, Nat.reduceMul, Nat.reduceSub, Nat.reduceLeDiff, Nat.reduceLT, r1.whole (n := 7) rfl, er, hTf, awake_c (n := n) (h := g1) (by omega)]
  obtain ⟨hT, hf⟩ := hTf
  have hG := good_of hf
  obtain ⟨mp1, mp2⟩ := many_pos hG
  obtain ⟨_, _, zw, zw6, zv4, _⟩ := hG.sizes
  have hdt : decide (ThinS S ∧ faultS S = 0) = true := decide_eq_true ⟨hT, hf⟩
  rw [hdt] at er
  have em1 := many_c (n := n) (h := g1) (by omega) (by omega) hy1 hG.args (by omega)
  have z1 : ¬ manyS S = 0 := by omega
  obtain ⟨k1, hk1⟩ : ∃ k : Nat, (w1 : Int).tmod (manyS S) = (k : Int) := ⟨((w1 : Int).tmod (manyS S)).toNat, by have := Int.tmod_nonneg (manyS S) (a := (w1 : Int)) (by omega); omega⟩
  have hk1' : k1 ≤ 100000 := by have := Int.tmod_lt_of_pos (w1 : Int) (b := manyS S) (by omega); omega
  obtain ⟨k2, hk2⟩ : ∃ k : Nat, (w2 : Int).tmod (manyS S) = (k : Int) := ⟨((w2 : Int).tmod (manyS S)).toNat, by have := Int.tmod_nonneg (manyS S) (a := (w2 : Int)) (by omega); omega⟩
  have hk2' : k2 ≤ 100000 := by have := Int.tmod_lt_of_pos (w2 : Int) (b := manyS S) (by omega); omega
  obtain ⟨tw1, tf1, g2, e2, ht1, o2, u2', m2, f2, _, _⟩ := nth_c (n := n) (h := g1) (by omega) (by omega) (by omega) hy1 hG hk1'
  have sub2 : Sub All g1 g2 := AHeap.subOf o2
  have em2 := many_c (n := n) (h := g2) (by omega) (by omega) (hy1.mono sub2) hG.args (by omega)
  obtain ⟨tw2, tf2, g3, e3, ht2, o3, u3', m3, f3, _, _⟩ := nth_c (n := n) (h := g2) (by omega) (by omega) (by omega) (hy1.mono sub2) hG hk2'
  have sub3 : Sub All g2 g3 := AHeap.subOf o3
  have hu1 := nthU_in (S := S) (m := k1) hG
  have hu2 := nthU_in (S := S) (m := k2) hG
  simp only [rn0, rn1, rn2, rn3, rn4, rn5, rn6, rn7, rn8, if_true, if_false, Nat.le_refl, true_and, and_true, decide_true, decide_false, Bool.not_true, Bool.not_false, reduceIte, Nat.reduceEqDiff, Nat.reduceAdd, Nat.reduceMul, Nat.reduceSub, Nat.reduceLeDiff, Nat.reduceLT, r1.whole (n := 7) rfl, er]
  refine W_draw All ?_
  simp only [rn0, rn1, rn2, rn3, rn4, rn5, rn6, rn7, rn8, if_true, if_false, Nat.le_refl, true_and, and_true, decide_true, decide_false, Bool.not_true, Bool.not_false, reduceIte, Nat.reduceEqDiff, Nat.reduceAdd, Nat.reduceMul, Nat.reduceSub, Nat.reduceLeDiff, Nat.reduceLT, r1.whole (n := 7) rfl, hy1.self, p_conv16, r_16 hw1, r_16 hw2, valN_tmp, valN_const, Nat.reduceLT, em1, em2, r_rem z1, p_rem, hk1, hk2, e2, e3]
  refine ⟨⟨by omega, sub2⟩, sub2, by omega, ?_⟩
  refine up_row (cs := [nilS, .int .i64 0, nilS]) (by omega) rfl rfl (fun _ _ => trivial) fun g4 hx4 => ?_
  have n4 := hx4.next
  have f4 := hx4.floor
  simp only [rn0, rn1, rn2, rn3, rn4, rn5, rn6, rn7, rn8, if_true, if_false, Nat.le_refl, true_and, and_true, decide_true, decide_false, Bool.not_true, Bool.not_false, reduceIte, Nat.reduceEqDiff, Nat.reduceAdd, Nat.reduceMul, Nat.reduceSub, Nat.reduceLeDiff, Nat.reduceLT]
  refine up_row (cs := [nilS, .int .i64 0, nilS]) (by omega) rfl rfl (fun _ _ => trivial) fun g5 hx5 => ?_
  have n5 := hx5.next
  have f5 := hx5.floor
  simp only [rn0, rn1, rn2, rn3, rn4, rn5, rn6, rn7, rn8, if_true, if_false, Nat.le_refl, true_and, and_true, decide_true, decide_false, Bool.not_true, Bool.not_false, reduceIte, Nat.reduceEqDiff, Nat.reduceAdd, Nat.reduceMul, Nat.reduceSub, Nat.reduceLeDiff, Nat.reduceLT]
  have gg5 : g5.get g3.next = some (.row [nilS, .int .i64 0, nilS] true 0) := by rw [hx5.old _ (by omega)]; exact hx4.get
  refine up_store (b := g3.next) (off := 0) (vs := trL tw1 tf1 (nthU S k1 S.nw)) rfl gg5 (by omega) (by omega) rfl ht1.one rfl (by simp) (fun _ _ => trivial) fun g6 hs6 => ?_
  rw [splice_all (by rfl)] at hs6
  have n6 := hs6.next
  have f6 := hs6.floor
  simp only [rn0, rn1, rn2, rn3, rn4, rn5, rn6, rn7, rn8, if_true, if_false, Nat.le_refl, true_and, and_true, decide_true, decide_false, Bool.not_true, Bool.not_false, reduceIte, Nat.reduceEqDiff, Nat.reduceAdd, Nat.reduceMul, Nat.reduceSub, Nat.reduceLeDiff, Nat.reduceLT]
  have gg6 : g6.get g4.next = some (.row [nilS, .int .i64 0, nilS] true 0) := by rw [hs6.old _ (by omega)]; exact hx5.get
  refine up_store (b := g4.next) (off := 0) (vs := trL tw2 tf2 (nthU S k2 S.nw)) rfl gg6 (by omega) (by omega) rfl ht2.one rfl (by simp) (fun _ _ => trivial) fun g7 hs7 => ?_
  rw [splice_all (by rfl)] at hs7
  have n7 := hs7.next
  have f7 := hs7.floor
  have old7 : ∀ i, i < g3.next → g7.get i = g3.get i := fun i hi => by rw [hs7.old i (by omega), hs6.old i (by omega), hx5.old i (by omega), hx4.old i hi]
  have sub37 : Sub All g3 g7 := AHeap.subOf old7
  have ht17 := (ht1.mono sub3).mono sub37
  have ht27 := ht2.mono sub37
  have sub17 : Sub All g1 g7 := sub2.trans (sub3.trans sub37)
  have rA : Row g7 g3.next (trL tw1 tf1 (nthU S k1 S.nw)) := ⟨true, 0, by rw [hs7.old _ (by omega)]; exact hs6.get⟩
  have rB : Row g7 g4.next (trL tw2 tf2 (nthU S k2 S.nw)) := ⟨true, 0, hs7.get⟩
  have hb4 : g4.next = g3.next + 1 := n4
  generalize nthU S k1 = u1 at *
  generalize nthU S k2 = u2 at *
  obtain ⟨v1, g8, e8, i8, one8, o8, uu8, m8, f8, q8⟩ := list_c (n := n) (h := g7) (by omega) (by omega) ht17.w (by omega)
  have sub8 : Sub All g7 g8 := AHeap.subOf o8
  obtain ⟨v2, g9, e9, i9, one9, o9, uu9, m9, f9, q9⟩ := list_c (n := n) (h := g8) (by omega) (by omega) (Cells.mono ht17.f sub8) (by omega)
  have sub9 : Sub All g8 g9 := AHeap.subOf o9
  obtain ⟨x1, c1, rfl⟩ := ints_slice i8
  obtain ⟨x2, c2, rfl⟩ := ints_slice i9
  rcases q8 with q8 | ⟨c1', ec1, q8⟩
  · omega
  cases ec1
  simp only [rn0, rn1, rn2, rn3, rn4, rn5, rn6, rn7, rn8, if_true, if_false, Nat.le_refl, true_and, and_true, decide_true, decide_false, Bool.not_true, Bool.not_false, reduceIte, Nat.reduceEqDiff, Nat.reduceAdd, Nat.reduceMul, Nat.reduceSub, Nat.reduceLeDiff, Nat.reduceLT]
  refine W_draw All ?_
  simp only [rn0, rn1, rn2, rn3, rn4, rn5, rn6, rn7, rn8, if_true, if_false, Nat.le_refl, true_and, and_true, decide_true, decide_false, Bool.not_true, Bool.not_false, reduceIte, Nat.reduceEqDiff, Nat.reduceAdd, Nat.reduceMul, Nat.reduceSub, Nat.reduceLeDiff, Nat.reduceLT, rA.ld, trg, Nat.zero_add, Cells.self ht17.w, Cells.self ht17.f, eqV_int, e8, e9, build_tr']
  refine ⟨⟨by omega, sub8⟩, ⟨by omega, sub8.trans sub9⟩, ?_⟩
  refine up_row (cs := [nilS, .int .i64 0, nilS]) (by omega) rfl rfl (fun g hx => sub8.trans (sub9.trans hx.sub)) fun g10 hx10 => ?_
  have n10 := hx10.next
  have f10 := hx10.floor
  simp only [rn0, rn1, rn2, rn3, rn4, rn5, rn6, rn7, rn8, if_true, if_false, Nat.le_refl, true_and, and_true, decide_true, decide_false, Bool.not_true, Bool.not_false, reduceIte, Nat.reduceEqDiff, Nat.reduceAdd, Nat.reduceMul, Nat.reduceSub, Nat.reduceLeDiff, Nat.reduceLT]
  refine up_store (b := g9.next) (off := 0) (vs := trL (.slice (some ⟨g7.next, 0, none⟩) S.nw c1) (.slice x2 S.nv c2) (u1 S.nw)) rfl hx10.get (by omega) (by omega) rfl rfl rfl (by simp) (fun _ _ => trivial) fun g11 hs11 => ?_
  rw [splice_all (by rfl)] at hs11
  have n11 := hs11.next
  have f11 := hs11.floor
  have old11 : ∀ i, i < g9.next → g11.get i = g9.get i := fun i hi => by rw [hs11.old i (by omega), hx10.old i hi]
  have lt8 := AHeap.lt_of_get q8
  have hM : WarmM g11 S g9.next g7.next g8.next c1 (.slice x2 S.nv c2) u1 := by
    refine ⟨hs11.get, ?_, ?_⟩
    · rw [old11 _ (by omega), o9 _ (by omega)]; exact q8
    · rcases q9 with h0 | ⟨c', e', q9⟩
      · exact .inl h0
      · exact .inr ⟨c', e', by rw [old11 _ (AHeap.lt_of_get q9)]; exact q9⟩
  obtain ⟨w12, hw12⟩ : ∃ k : Nat, k = w3 % 3 := ⟨_, rfl⟩
  have hw12' : (w3 : Int).tmod 3 = (w12 : Int) := by rw [hw12]; rfl
  have z3 : ¬ (3 : Int) = 0 := by decide
  simp only [rn0, rn1, rn2, rn3, rn4, rn5, rn6, rn7, rn8, if_true, if_false, Nat.le_refl, true_and, and_true, decide_true, decide_false, Bool.not_true, Bool.not_false, reduceIte, Nat.reduceEqDiff, Nat.reduceAdd, Nat.reduceMul, Nat.reduceSub, Nat.reduceLeDiff, Nat.reduceLT, p_conv8, r_8 hw3, valN_tmp, valN_const, Nat.reduceLT, p_rem, r_rem z3, hw12']
  have hmx0 : ∀ P : Nat → Bool, (∀ i, i < numU S → P i = false) → ∀ i, i < numU S → u1 i = mxU P u1 u2 i := fun P hP i hi => (mxU_no (hP i hi)).symm
  obtain ⟨N0, hN0⟩ : ∃ N : Nat, N = if w12 = 0 then S.nw else 0 := ⟨_, rfl⟩
  obtain ⟨N2, hN2⟩ : ∃ N : Nat, N = if w12 = 2 then S.nv else 0 := ⟨_, rfl⟩
  have hN0' : N0 ≤ S.nw := by rw [hN0]; split <;> omega
  have hN2' : N2 ≤ S.nv := by rw [hN2]; split <;> omega
  have dA : ∀ g : AHeap, (∀ i, i < g7.next → g.get i = g11.get i) → ∀ i, i < g7.next → g.get i = g7.get i := fun g hg i hi => by rw [hg i hi, old11 i (by omega), o9 i (by omega), o8 i hi]
  refine blkQ (fun f g ms => (WarmM g S g9.next g7.next g8.next c1 (.slice x2 S.nv c2) (mxU (fun i => decide (i < N0)) u1 u2) ∧ (∀ i, i < g7.next → g.get i = g11.get i) ∧ g.next = g11.next ∧ g.floor = g11.floor) ∧ ms = [] ∧ f 4 = .pointer (some ⟨h.next, 0, none⟩) ∧ f 9 = .pointer (some ⟨g3.next, 0, none⟩) ∧ f 10 = .pointer (some ⟨g4.next, 0, none⟩) ∧ f 11 = .pointer (some ⟨g9.next, 0, none⟩) ∧ f 12 = .int .i64 (w12 : Int)) ?_ ?_
  · refine W_loop N0 (fun k f g ms => (WarmM g S g9.next g7.next g8.next c1 (.slice x2 S.nv c2) (mxU (fun i => decide (i < k)) u1 u2) ∧ (∀ i, i < g7.next → g.get i = g11.get i) ∧ g.next = g11.next ∧ g.floor = g11.floor) ∧ ms = [] ∧ f 4 = .pointer (some ⟨h.next, 0, none⟩) ∧ f 9 = .pointer (some ⟨g3.next, 0, none⟩) ∧ f 10 = .pointer (some ⟨g4.next, 0, none⟩) ∧ f 11 = .pointer (some ⟨g9.next, 0, none⟩) ∧ f 12 = .int .i64 (w12 : Int) ∧ f 13 = .int .i64 (k : Int)) (by simp; omega) ?_ ?_ ?_
    · simp only [rn0, rn1, rn2, rn3, rn4, rn5, rn6, rn7, rn8, if_true, if_false, Nat.le_refl, true_and, and_true, decide_true, decide_false, Bool.not_true, Bool.not_false, reduceIte, Nat.reduceEqDiff, Nat.reduceAdd, Nat.reduceMul, Nat.reduceSub, Nat.reduceLeDiff, Nat.reduceLT]
      exact ⟨⟨hM.congr (hmx0 _ fun i _ => by simp), fun _ _ => trivial⟩, rfl⟩
    · rintro k f g ms hk ⟨⟨hm, hold, hnx, hfg⟩, rfl, p4, p9, p10, p11, p12, p13⟩
      have e0 : w12 = 0 := by rw [hN0] at hk; split at hk <;> omega
      have hkw : k < S.nw := by omega
      have hk' : (k : Int) < (S.nw : Int) := by omega
      have e0' : (w12 : Int) = 0 := by omega
      have hw : wrapF .i64 ((k : Int) + 1) = ((k + 1 : Nat) : Int) := by rw [wrap_in (by omega) (by omega)]; rfl
      have sg : Sub All g7 g := AHeap.subOf (dA g hold)
      have rAg := rA.mono sg
      have rBg := rB.mono sg
      have ha := ht17.w.mono sg
      have hb := ht27.w.mono sg
      have rM : Row g g9.next _ := ⟨_, _, hm.row⟩
      simp only [rn0, rn1, rn2, rn3, rn4, rn5, rn6, rn7, rn8, if_true, if_false, Nat.le_refl, true_and, and_true, decide_true, decide_false, Bool.not_true, Bool.not_false, reduceIte, Nat.reduceEqDiff, Nat.reduceAdd, Nat.reduceMul, Nat.reduceSub, Nat.reduceLeDiff, Nat.reduceLT, p4, p9, p10, p11, p12, p13, rBg.ld, trg, Nat.zero_add, Cells.len hb, hk', e0']
      refine W_draw All ?_
      simp only [rn0, rn1, rn2, rn3, rn4, rn5, rn6, rn7, rn8, if_true, if_false, Nat.le_refl, true_and, and_true, decide_true, decide_false, Bool.not_true, Bool.not_false, reduceIte, Nat.reduceEqDiff, Nat.reduceAdd, Nat.reduceMul, Nat.reduceSub, Nat.reduceLeDiff, Nat.reduceLT, p4, p9, p10, p11, p12, p13, rAg.ld, rBg.ld, rM.ld, trg, Nat.zero_add, Cells.idx ha hkw, Cells.ld ha hkw Nat.zero_lt_one, Cells.idx hb hkw, Cells.ld hb hkw Nat.zero_lt_one, p_max, r_max, idxSl_s (s := 1) hkw]
      refine up_store (b := g7.next) (off := k * 1) (vs := [.int .i64 (max (u1 k) (u2 k))]) rfl hm.w (by omega) (by omega) rfl rfl rfl (by rw [rowI_len]; simp; omega) (fun _ _ => trivial) fun g' hs' => ?_
      have n' := hs'.next
      have f' := hs'.floor
      have hm' := (hm.setW hs' hkw (by omega) (by omega)).congr (u' := mxU (fun i => decide (i < k + 1)) u1 u2) fun i hi => by
        by_cases c : i = k
        · rw [if_pos c, mxU_yes (by simp; omega), c]
        · rw [if_neg c]
          by_cases c' : i < k
          · rw [mxU_yes (by simpa using c'), mxU_yes (by simp; omega)]
          · rw [mxU_no (by simp; omega), mxU_no (by simp; omega)]
      simp only [rn0, rn1, rn2, rn3, rn4, rn5, rn6, rn7, rn8, if_true, if_false, Nat.le_refl, true_and, and_true, decide_true, decide_false, Bool.not_true, Bool.not_false, reduceIte, Nat.reduceEqDiff, Nat.reduceAdd, Nat.reduceMul, Nat.reduceSub, Nat.reduceLeDiff, Nat.reduceLT, p4, p9, p10, p11, p12, p13, hw]
      have hfin := And.intro hm' (And.intro (fun i (hi : i < g7.next) => (by rw [hs'.old i (by omega), hold i hi] : g'.get i = g11.get i)) (And.intro (by omega : g'.next = g11.next) (by omega : g'.floor = g11.floor)))
      first | exact ⟨hfin, rfl⟩ | exact ⟨hfin, by rw [e0']⟩ | exact hfin
    · rintro f g ms ⟨⟨hm, hold, hnx, hfg⟩, rfl, p4, p9, p10, p11, p12, p13⟩
      have sg : Sub All g7 g := AHeap.subOf (dA g hold)
      have rBg := rB.mono sg
      have hb := ht27.w.mono sg
      have hcase : (w12 = 0 ∧ N0 = S.nw) ∨ (¬ w12 = 0 ∧ N0 = 0) := by rw [hN0]; split <;> omega
      have hx : ∀ k : Nat, k = N0 → f 13 = .int .i64 (k : Int) := fun k e => by rw [e]; exact p13
      rcases hcase with ⟨e0, e1⟩ | ⟨e0, e1⟩
      · have e0' : (w12 : Int) = 0 := by omega
        have p13' := hx S.nw e1.symm
        simp only [rn0, rn1, rn2, rn3, rn4, rn5, rn6, rn7, rn8, if_true, if_false, Nat.le_refl, true_and, and_true, decide_true, decide_false, Bool.not_true, Bool.not_false, reduceIte, Nat.reduceEqDiff, Nat.reduceAdd, Nat.reduceMul, Nat.reduceSub, Nat.reduceLeDiff, Nat.reduceLT, p4, p9, p10, p11, p12, p13', rBg.ld, trg, Nat.zero_add, Cells.len hb, Int.lt_irrefl]
        exact ⟨hm, hold, hnx, hfg⟩
      · have e0' : ¬ (w12 : Int) = 0 := by omega
        have p13' := hx 0 e1.symm
        have hnw : (0 : Int) < (S.nw : Int) := by omega
        simp only [rn0, rn1, rn2, rn3, rn4, rn5, rn6, rn7, rn8, if_true, if_false, Nat.le_refl, true_and, and_true, decide_true, decide_false, Bool.not_true, Bool.not_false, reduceIte, Nat.reduceEqDiff, Nat.reduceAdd, Nat.reduceMul, Nat.reduceSub, Nat.reduceLeDiff, Nat.reduceLT, p4, p9, p10, p11, p12, p13', rBg.ld, trg, Nat.zero_add, Cells.len hb, Int.natCast_zero, hnw, e0']
        exact ⟨hm, hold, hnx, hfg⟩
  rintro f g ms ⟨⟨hm0, hold0, hnx0, hfg0⟩, rfl, p4, p9, p10, p11, p12⟩
  simp only [rn0, rn1, rn2, rn3, rn4, rn5, rn6, rn7, rn8, if_true, if_false, Nat.le_refl, true_and, and_true, decide_true, decide_false, Bool.not_true, Bool.not_false, reduceIte, Nat.reduceEqDiff, Nat.reduceAdd, Nat.reduceMul, Nat.reduceSub, Nat.reduceLeDiff, Nat.reduceLT, p4, p9, p10, p11, p12]
  refine blkQ (fun f g ms => (WarmM g S g9.next g7.next g8.next c1 (.slice x2 S.nv c2) (mxU (fun i => decide (i < N0 ∨ (S.nw + 1 ≤ i ∧ i < S.nw + 1 + N2))) u1 u2) ∧ (∀ i, i < g7.next → g.get i = g11.get i) ∧ g.next = g11.next ∧ g.floor = g11.floor) ∧ ms = [] ∧ f 4 = .pointer (some ⟨h.next, 0, none⟩) ∧ f 9 = .pointer (some ⟨g3.next, 0, none⟩) ∧ f 10 = .pointer (some ⟨g4.next, 0, none⟩) ∧ f 11 = .pointer (some ⟨g9.next, 0, none⟩) ∧ f 12 = .int .i64 (w12 : Int)) ?_ ?_
  · refine W_loop N2 (fun k f g ms => (WarmM g S g9.next g7.next g8.next c1 (.slice x2 S.nv c2) (mxU (fun i => decide (i < N0 ∨ (S.nw + 1 ≤ i ∧ i < S.nw + 1 + k))) u1 u2) ∧ (∀ i, i < g7.next → g.get i = g11.get i) ∧ g.next = g11.next ∧ g.floor = g11.floor) ∧ ms = [] ∧ f 4 = .pointer (some ⟨h.next, 0, none⟩) ∧ f 9 = .pointer (some ⟨g3.next, 0, none⟩) ∧ f 10 = .pointer (some ⟨g4.next, 0, none⟩) ∧ f 11 = .pointer (some ⟨g9.next, 0, none⟩) ∧ f 12 = .int .i64 (w12 : Int) ∧ f 14 = .int .i64 (k : Int)) (by simp; omega) ?_ ?_ ?_
    · simp only [rn0, rn1, rn2, rn3, rn4, rn5, rn6, rn7, rn8, if_true, if_false, Nat.le_refl, true_and, and_true, decide_true, decide_false, Bool.not_true, Bool.not_false, reduceIte, Nat.reduceEqDiff, Nat.reduceAdd, Nat.reduceMul, Nat.reduceSub, Nat.reduceLeDiff, Nat.reduceLT, p4, p9, p10, p11, p12]
      have hfin := And.intro (hm0.congr (u' := mxU (fun i => decide (i < N0 ∨ (S.nw + 1 ≤ i ∧ i < S.nw + 1 + 0))) u1 u2) fun i hi => by
        have : (i < N0 ∨ (S.nw + 1 ≤ i ∧ i < S.nw + 1 + 0)) ↔ i < N0 := by omega
        simp only [mxU, this]) (And.intro hold0 (And.intro hnx0 hfg0))
      first | exact ⟨hfin, rfl⟩ | exact hfin
    · rintro k f g ms hk ⟨⟨hm, hold, hnx, hfg⟩, rfl, p4, p9, p10, p11, p12, p14⟩
      have e0 : w12 = 2 := by rw [hN2] at hk; split at hk <;> omega
      have hkw : k < S.nv := by omega
      have hk' : (k : Int) < (S.nv : Int) := by omega
      have e0' : (w12 : Int) = 2 := by omega
      have eN : N0 = 0 := by rw [hN0, if_neg (by omega)]
      have hw : wrapF .i64 ((k : Int) + 1) = ((k + 1 : Nat) : Int) := by rw [wrap_in (by omega) (by omega)]; rfl
      have sg : Sub All g7 g := AHeap.subOf (dA g hold)
      have rAg := rA.mono sg
      have rBg := rB.mono sg
      have ha := ht17.f.mono sg
      have hb := ht27.f.mono sg
      rcases hm.f with h0 | ⟨c2', ec2, hmf⟩
      · omega
      cases ec2
      have rM : Row g g9.next _ := ⟨_, _, hm.row⟩
      simp only [rn0, rn1, rn2, rn3, rn4, rn5, rn6, rn7, rn8, if_true, if_false, Nat.le_refl, true_and, and_true, decide_true, decide_false, Bool.not_true, Bool.not_false, reduceIte, Nat.reduceEqDiff, Nat.reduceAdd, Nat.reduceMul, Nat.reduceSub, Nat.reduceLeDiff, Nat.reduceLT, p4, p9, p10, p11, p12, p14, rBg.ld, trg, Nat.zero_add, Cells.len hb, hk', e0']
      refine W_draw All ?_
      simp only [rn0, rn1, rn2, rn3, rn4, rn5, rn6, rn7, rn8, if_true, if_false, Nat.le_refl, true_and, and_true, decide_true, decide_false, Bool.not_true, Bool.not_false, reduceIte, Nat.reduceEqDiff, Nat.reduceAdd, Nat.reduceMul, Nat.reduceSub, Nat.reduceLeDiff, Nat.reduceLT, p4, p9, p10, p11, p12, p14, rAg.ld, rBg.ld, rM.ld, trg, Nat.zero_add, Cells.idx ha hkw, Cells.ld ha hkw Nat.zero_lt_one, Cells.idx hb hkw, Cells.ld hb hkw Nat.zero_lt_one, p_max, r_max, idxSl_s (s := 1) hkw]
      have lt9 := AHeap.lt_of_get hmf
      refine up_store (b := g8.next) (off := k * 1) (vs := [.int .i64 (max (u1 (S.nw + 1 + k)) (u2 (S.nw + 1 + k)))]) rfl hmf (by omega) (by omega) rfl rfl rfl (by rw [rowI_len]; simp; omega) (fun _ _ => trivial) fun g' hs' => ?_
      have n' := hs'.next
      have f' := hs'.floor
      have ne98 : g9.next ≠ g8.next := by
        rcases q9 with q | ⟨_, _, q⟩
        · omega
        · have := AHeap.lt_of_get q; omega
      have hm' := (hm.setF hs' hkw ne98 (by omega)).congr (u' := mxU (fun i => decide (i < N0 ∨ (S.nw + 1 ≤ i ∧ i < S.nw + 1 + (k + 1)))) u1 u2) fun i hi => by
        by_cases c : i = S.nw + 1 + k
        · rw [if_pos c, mxU_yes (by simp only [decide_eq_true_eq]; omega), c]
        · rw [if_neg c]
          by_cases c' : i < N0 ∨ (S.nw + 1 ≤ i ∧ i < S.nw + 1 + k)
          · rw [mxU_yes (by simpa using c'), mxU_yes (by simp only [decide_eq_true_eq]; omega)]
          · rw [mxU_no (by simpa using c'), mxU_no (by simp only [decide_eq_false_iff_not]; omega)]
      simp only [rn0, rn1, rn2, rn3, rn4, rn5, rn6, rn7, rn8, if_true, if_false, Nat.le_refl, true_and, and_true, decide_true, decide_false, Bool.not_true, Bool.not_false, reduceIte, Nat.reduceEqDiff, Nat.reduceAdd, Nat.reduceMul, Nat.reduceSub, Nat.reduceLeDiff, Nat.reduceLT, p4, p9, p10, p11, p12, p14, hw]
      have hfin := And.intro hm' (And.intro (fun i (hi : i < g7.next) => (by rw [hs'.old i (by omega), hold i hi] : g'.get i = g11.get i)) (And.intro (by omega : g'.next = g11.next) (by omega : g'.floor = g11.floor)))
      first | exact ⟨hfin, rfl⟩ | exact ⟨hfin, by rw [e0']⟩ | exact hfin
    · rintro f g ms ⟨⟨hm, hold, hnx, hfg⟩, rfl, p4, p9, p10, p11, p12, p14⟩
      have sg : Sub All g7 g := AHeap.subOf (dA g hold)
      have rBg := rB.mono sg
      have hb := ht27.f.mono sg
      have hcase : (w12 = 2 ∧ N2 = S.nv) ∨ (¬ w12 = 2 ∧ N2 = 0) := by rw [hN2]; split <;> omega
      have hx : ∀ k : Nat, k = N2 → f 14 = .int .i64 (k : Int) := fun k e => by rw [e]; exact p14
      rcases hcase with ⟨e0, e1⟩ | ⟨e0, e1⟩
      · have e0' : (w12 : Int) = 2 := by omega
        have p14' := hx S.nv e1.symm
        simp only [rn0, rn1, rn2, rn3, rn4, rn5, rn6, rn7, rn8, if_true, if_false, Nat.le_refl, true_and, and_true, decide_true, decide_false, Bool.not_true, Bool.not_false, reduceIte, Nat.reduceEqDiff, Nat.reduceAdd, Nat.reduceMul, Nat.reduceSub, Nat.reduceLeDiff, Nat.reduceLT, p4, p9, p10, p11, p12, p14', rBg.ld, trg, Nat.zero_add, Cells.len hb, Int.lt_irrefl]
        first | exact ⟨⟨hm, hold, hnx, hfg⟩, rfl⟩ | exact ⟨hm, hold, hnx, hfg⟩
      · have e0' : ¬ (w12 : Int) = 2 := by omega
        have p14' := hx 0 e1.symm
        by_cases hnv : (0 : Int) < (S.nv : Int)
        · simp only [rn0, rn1, rn2, rn3, rn4, rn5, rn6, rn7, rn8, if_true, if_false, Nat.le_refl, true_and, and_true, decide_true, decide_false, Bool.not_true, Bool.not_false, reduceIte, Nat.reduceEqDiff, Nat.reduceAdd, Nat.reduceMul, Nat.reduceSub, Nat.reduceLeDiff, Nat.reduceLT, p4, p9, p10, p11, p12, p14', rBg.ld, trg, Nat.zero_add, Cells.len hb, Int.natCast_zero, hnv, e0']
          first | exact ⟨⟨hm, hold, hnx, hfg⟩, rfl⟩ | exact ⟨hm, hold, hnx, hfg⟩
        · simp only [rn0, rn1, rn2, rn3, rn4, rn5, rn6, rn7, rn8, if_true, if_false, Nat.le_refl, true_and, and_true, decide_true, decide_false, Bool.not_true, Bool.not_false, reduceIte, Nat.reduceEqDiff, Nat.reduceAdd, Nat.reduceMul, Nat.reduceSub, Nat.reduceLeDiff, Nat.reduceLT, p4, p9, p10, p11, p12, p14', rBg.ld, trg, Nat.zero_add, Cells.len hb, Int.natCast_zero, hnv, e0']
          first | exact ⟨⟨hm, hold, hnx, hfg⟩, rfl⟩ | exact ⟨hm, hold, hnx, hfg⟩
  rintro f g ms ⟨⟨hm2, hold2, hnx2, hfg2⟩, rfl, p4, p9, p10, p11, p12⟩
  have sg2 : Sub All g7 g := AHeap.subOf (dA g hold2)
  obtain ⟨P, hP⟩ : ∃ P : Nat → Bool, P = fun i => decide (i < N0 ∨ (S.nw + 1 ≤ i ∧ i < S.nw + 1 + N2) ∨ (w12 = 1 ∧ i = S.nw)) := ⟨_, rfl⟩
  simp only [rn0, rn1, rn2, rn3, rn4, rn5, rn6, rn7, rn8, if_true, if_false, Nat.le_refl, true_and, and_true, decide_true, decide_false, Bool.not_true, Bool.not_false, reduceIte, Nat.reduceEqDiff, Nat.reduceAdd, Nat.reduceMul, Nat.reduceSub, Nat.reduceLeDiff, Nat.reduceLT, p4, p9, p10, p11, p12]
  refine cond2_merge (fun f g ms => (WarmM g S g9.next g7.next g8.next c1 (.slice x2 S.nv c2) (mxU P u1 u2) ∧ (∀ i, i < g7.next → g.get i = g11.get i) ∧ g.next = g11.next ∧ g.floor = g11.floor) ∧ ms = [] ∧ f 4 = .pointer (some ⟨h.next, 0, none⟩) ∧ f 9 = .pointer (some ⟨g3.next, 0, none⟩) ∧ f 11 = .pointer (some ⟨g9.next, 0, none⟩) ∧ f 12 = .int .i64 (w12 : Int)) ?_ ?_ ?_
  · intro hc
    have e1 : (w12 : Int) = 1 := by simpa using hc
    have e12 : w12 = 1 := by omega
    have rM : Row g g9.next _ := ⟨_, _, hm2.row⟩
    have rAg := rA.mono sg2
    have rBg := rB.mono sg2
    simp only [rn0, rn1, rn2, rn3, rn4, rn5, rn6, rn7, rn8, if_true, if_false, Nat.le_refl, true_and, and_true, decide_true, decide_false, Bool.not_true, Bool.not_false, reduceIte, Nat.reduceEqDiff, Nat.reduceAdd, Nat.reduceMul, Nat.reduceSub, Nat.reduceLeDiff, Nat.reduceLT, p4, p9, p10, p11, p12, rAg.ld, rBg.ld, trg, Nat.zero_add, p_max, r_max]
    refine step_store (b := g9.next) (off := 1) (vs := [.int .i64 (max (u1 S.nw) (u2 S.nw))]) rfl hm2.row (by omega) (by omega) rfl rfl rfl (by simp [trL]) fun g' hs' => ?_
    have n' := hs'.next
    have f' := hs'.floor
    have ne2 : g8.next ≠ g9.next ∨ S.nv = 0 := by
      rcases q9 with q | ⟨_, _, q⟩
      · exact .inr q
      · have := AHeap.lt_of_get q; exact .inl (by omega)
    have hfin : WarmM g' S g9.next g7.next g8.next c1 (.slice x2 S.nv c2) fun i => if i = S.nw then max (u1 S.nw) (u2 S.nw) else mxU (fun i => decide (i < N0 ∨ (S.nw + 1 ≤ i ∧ i < S.nw + 1 + N2))) u1 u2 i := by
      rcases ne2 with ne2 | nz
      · exact hm2.setS hs' (by omega) ne2
      · refine ⟨?_, ?_, .inl nz⟩
        · rw [if_pos rfl, hs'.get]; rfl
        · rw [hs'.old _ (by omega), hm2.w, rowI_congr fun i hi => ?_]
          rw [if_neg (by omega)]
    have hfin2 := hfin.congr (u' := mxU P u1 u2) fun i hi => by
      by_cases c : i = S.nw
      · rw [if_pos c, mxU_yes (by rw [hP]; simp only [decide_eq_true_eq]; omega), c]
      · rw [if_neg c]
        by_cases c' : i < N0 ∨ (S.nw + 1 ≤ i ∧ i < S.nw + 1 + N2)
        · rw [mxU_yes (by simpa using c'), mxU_yes (by rw [hP]; simp only [decide_eq_true_eq]; omega)]
        · rw [mxU_no (by simpa using c'), mxU_no (by rw [hP]; simp only [decide_eq_false_iff_not]; omega)]
    simp only [rn0, rn1, rn2, rn3, rn4, rn5, rn6, rn7, rn8, if_true, if_false, Nat.le_refl, true_and, and_true, decide_true, decide_false, Bool.not_true, Bool.not_false, reduceIte, Nat.reduceEqDiff, Nat.reduceAdd, Nat.reduceMul, Nat.reduceSub, Nat.reduceLeDiff, Nat.reduceLT, p4, p9, p10, p11, p12]
    have hall := And.intro hfin2 (And.intro (fun i (hi : i < g7.next) => (by rw [hs'.old i (by omega), hold2 i hi] : g'.get i = g11.get i)) (And.intro (by omega : g'.next = g11.next) (by omega : g'.floor = g11.floor)))
    first | exact ⟨hall, rfl⟩ | exact hall
  · intro hc
    have e1 : ¬ (w12 : Int) = 1 := by simpa using hc
    have e12 : ¬ w12 = 1 := by omega
    have hfin2 := hm2.congr (u' := mxU P u1 u2) fun i hi => by
      have : (i < N0 ∨ (S.nw + 1 ≤ i ∧ i < S.nw + 1 + N2) ∨ (w12 = 1 ∧ i = S.nw)) ↔ (i < N0 ∨ (S.nw + 1 ≤ i ∧ i < S.nw + 1 + N2)) := by omega
      simp only [mxU, hP, this]
    simp only [rn0, rn1, rn2, rn3, rn4, rn5, rn6, rn7, rn8, if_true, if_false, Nat.le_refl, true_and, and_true, decide_true, decide_false, Bool.not_true, Bool.not_false, reduceIte, Nat.reduceEqDiff, Nat.reduceAdd, Nat.reduceMul, Nat.reduceSub, Nat.reduceLeDiff, Nat.reduceLT, p4, p9, p10, p11, p12]
    first | exact ⟨⟨hfin2, hold2, hnx2, hfg2⟩, rfl⟩ | exact ⟨hfin2, hold2, hnx2, hfg2⟩
  rintro f g ms ⟨⟨hm3, hold3, hnx3, hfg3⟩, rfl, p4, p9, p11, p12⟩
  have sg3 : Sub All g7 g := AHeap.subOf (dA g hold3)
  have hx2s : ∀ x, x2 = some x → x.spot = none := by
    obtain ⟨a', c', e', hsp, _⟩ := i9
    cases e'
    exact hsp
  have hu3 : InU S (mxU P u1 u2) := mxU_in hu1 hu2
  have ge3 : ∀ i, u1 i ≤ mxU P u1 u2 i := fun i => mxU_ge i
  have w12lt : w12 < 3 := by rw [hw12]; exact Nat.mod_lt _ (by omega)
  have eq0 : w12 = 0 → u1 S.nw = mxU P u1 u2 S.nw := fun e => by
    rw [mxU_no]; rw [hP]; simp only [decide_eq_false_iff_not]; omega
  have eq1 : w12 = 1 → ∀ i, i ≠ S.nw → u1 i = mxU P u1 u2 i := fun e i hi => by
    have h0 : N0 = 0 := by rw [hN0, if_neg (by omega)]
    have h2 : N2 = 0 := by rw [hN2, if_neg (by omega)]
    rw [mxU_no]; rw [hP]; simp only [decide_eq_false_iff_not]; omega
  have hT3 := hm3.tru hx2s
  have rM3 : Row g g9.next _ := ⟨_, _, hm3.row⟩
  generalize mxU P u1 u2 = u3 at *
  have sub1g : Sub All g1 g := sub17.trans sg3
  have r1g := r1.mono sub1g
  have rAg := rA.mono sg3
  obtain ⟨wa, va, sa, ga, ea, hya, oa, ua, ma, fa⟩ := steepL_c (n := n) (h := g) (by omega) (by omega) (by omega) (hy1.mono sub1g) hT
  have suba : Sub All g ga := AHeap.subOf oa
  obtain ⟨twb, tfb, gb, eb, htb, ob, ub, mb, fb⟩ := truthL_c (n := n) (h := ga) (by omega) (by omega) (by omega) (ht17.mono (sg3.trans suba)) (by omega) (sp := u1 S.nw)
  have subb : Sub All ga gb := AHeap.subOf ob
  obtain ⟨o1, q1, gc, ec, ro1, rq1, oc, uc, mc, fc⟩ := play_u (n := n) (h := gb) (by omega) (by omega) (by omega) (hya.mono subb) hT hG htb hu1
  have subc : Sub All gb gc := AHeap.subOf oc
  have subgc : Sub All g gc := suba.trans (subb.trans subc)
  have sub1c : Sub All g1 gc := sub1g.trans subgc
  obtain ⟨wd, vd, sd, gd, ed, hyd, od, ud, md, fd⟩ := steepL_c (n := n) (h := gc) (by omega) (by omega) (by omega) (hy1.mono sub1c) hT
  have subd : Sub All gc gd := AHeap.subOf od
  obtain ⟨twe, tfe, ge, ee, hte, oe, ue, me, fe⟩ := truthL_c (n := n) (h := gd) (by omega) (by omega) (by omega) (hT3.mono (subgc.trans subd)) (by omega) (sp := u3 S.nw)
  have sube : Sub All gd ge := AHeap.subOf oe
  obtain ⟨o2', q2', gf, ef, ro2, rq2, of', uf, mf, ff⟩ := play_u (n := n) (h := ge) (by omega) (by omega) (by omega) (hyd.mono sube) hT hG hte hu3
  have subf : Sub All ge gf := AHeap.subOf of'
  have subcf : Sub All gc gf := subd.trans (sube.trans subf)
  have sub1f : Sub All g1 gf := sub1c.trans subcf
  have hyf := hy1.mono sub1f
  have rf := r1.mono sub1f
  have rMc := rM3.mono subgc
  have hTc := hT3.mono subgc
  obtain ⟨a1r, co1, io1⟩ := ro1.mono subcf
  obtain ⟨b1r, cq1, iq1⟩ := rq1.mono subcf
  obtain ⟨a2r, co2, io2⟩ := ro2
  obtain ⟨b2r, cq2, iq2⟩ := rq2
  simp only [rn0, rn1, rn2, rn3, rn4, rn5, rn6, rn7, rn8, if_true, if_false, Nat.le_refl, true_and, and_true, decide_true, decide_false, Bool.not_true, Bool.not_false, reduceIte, Nat.reduceEqDiff, Nat.reduceAdd, Nat.reduceMul, Nat.reduceSub, Nat.reduceLeDiff, Nat.reduceLT, p4, p9, p11, p12]
  refine W_draw All ?_
  simp only [rn0, rn1, rn2, rn3, rn4, rn5, rn6, rn7, rn8, if_true, if_false, Nat.le_refl, true_and, and_true, decide_true, decide_false, Bool.not_true, Bool.not_false, reduceIte, Nat.reduceEqDiff, Nat.reduceAdd, Nat.reduceMul, Nat.reduceSub, Nat.reduceLeDiff, Nat.reduceLT, p4, p9, p11, p12, r1g.whole (n := 7) rfl, rAg.whole (n := 3) rfl, (ht17.mono sg3).self, ea, eb, ec, x_extract, ex30, ex31, ex32]
  refine ⟨⟨by omega, suba⟩, by omega, by omega, ?_⟩
  refine W_draw All ?_
  simp only [rn0, rn1, rn2, rn3, rn4, rn5, rn6, rn7, rn8, if_true, if_false, Nat.le_refl, true_and, and_true, decide_true, decide_false, Bool.not_true, Bool.not_false, reduceIte, Nat.reduceEqDiff, Nat.reduceAdd, Nat.reduceMul, Nat.reduceSub, Nat.reduceLeDiff, Nat.reduceLT, p4, p9, p11, p12, (r1.mono sub1c).whole (n := 7) rfl, rMc.whole (n := 3) rfl, hTc.self, ed, ee, ef, x_extract, ex30, ex31, ex32]
  refine ⟨⟨by omega, subd⟩, by omega, by omega, ?_⟩
  simp only [rn0, rn1, rn2, rn3, rn4, rn5, rn6, rn7, rn8, if_true, if_false, Nat.le_refl, true_and, and_true, decide_true, decide_false, Bool.not_true, Bool.not_false, reduceIte, Nat.reduceEqDiff, Nat.reduceAdd, Nat.reduceMul, Nat.reduceSub, Nat.reduceLeDiff, Nat.reduceLT, p4, p9, p11, p12, Cells.len co1, Cells.len co2, Cells.len cq1, Cells.len cq2, rf.ld, stg, Nat.zero_add, Cells.len hyf.v]
  refine W_loop S.nv (fun k f g ms => g = gf ∧ ms = [] ∧ f 4 = .pointer (some ⟨h.next, 0, none⟩) ∧ f 12 = .int .i64 (w12 : Int) ∧ f 15 = o1 ∧ f 16 = q1 ∧ f 18 = o2' ∧ f 19 = q2' ∧ f 21 = .int .i64 (k : Int)) (by simp; omega) ?_ ?_ ?_
  · simp only [rn0, rn1, rn2, rn3, rn4, rn5, rn6, rn7, rn8, if_true, if_false, Nat.le_refl, true_and, and_true, decide_true, decide_false, Bool.not_true, Bool.not_false, reduceIte, Nat.reduceEqDiff, Nat.reduceAdd, Nat.reduceMul, Nat.reduceSub, Nat.reduceLeDiff, Nat.reduceLT, p4, p12]
    first | done | exact ⟨rfl, rfl⟩ | trivial
  · rintro k f g ms hk ⟨rfl, rfl, p4, p12, p15, p16, p18, p19, p21⟩
    have hk' : (k : Int) < (S.nv : Int) := by omega
    have hw : wrapF .i64 ((k : Int) + 1) = ((k + 1 : Nat) : Int) := by rw [wrap_in (by omega) (by omega)]; rfl
    obtain ⟨m1', m2', m3'⟩ := hoursN_ok hG hk
    obtain ⟨⟨vb1, vb2⟩, _⟩ := hG.args.vat k hk
    have ws1 : wrapF .i64 (S.last - S.vb k) = S.last - S.vb k := wrap_in (by omega) (by omega)
    have ws2 : wrapF .i64 (S.last - S.vb k + 1) = (hoursN S k : Int) := by rw [wrap_in (by omega) (by omega), m1']
    have ia1 := io1 k hk
    have ib1 := iq1 k hk
    have ia2 := io2 k hk
    have ib2 := iq2 k hk
    simp only [rn0, rn1, rn2, rn3, rn4, rn5, rn6, rn7, rn8, if_true, if_false, Nat.le_refl, true_and, and_true, decide_true, decide_false, Bool.not_true, Bool.not_false, reduceIte, Nat.reduceEqDiff, Nat.reduceAdd, Nat.reduceMul, Nat.reduceSub, Nat.reduceLeDiff, Nat.reduceLT, p4, p12, p15, p16, p18, p19, p21, Cells.len co1, hk']
    refine W_draw All ?_
    simp only [rn0, rn1, rn2, rn3, rn4, rn5, rn6, rn7, rn8, if_true, if_false, Nat.le_refl, true_and, and_true, decide_true, decide_false, Bool.not_true, Bool.not_false, reduceIte, Nat.reduceEqDiff, Nat.reduceAdd, Nat.reduceMul, Nat.reduceSub, Nat.reduceLeDiff, Nat.reduceLT, p4, p12, p15, p16, p18, p19, p21, rf.ld, stg, Nat.zero_add, Nat.add_zero, Cells.idx hyf.v hk, Cells.fld hyf.v hk, begin_ld hyf hk, ws1, ws2]
    simp only [rn0, rn1, rn2, rn3, rn4, rn5, rn6, rn7, rn8, if_true, if_false, Nat.le_refl, true_and, and_true, decide_true, decide_false, Bool.not_true, Bool.not_false, reduceIte, Nat.reduceEqDiff, Nat.reduceAdd, Nat.reduceMul, Nat.reduceSub, Nat.reduceLeDiff, Nat.reduceLT, p4, p12, p15, p16, p18, p19, p21, Cells.idx co1 hk, Cells.ld co1 hk Nat.zero_lt_one, Cells.idx cq1 hk, Cells.ld cq1 hk Nat.zero_lt_one, Cells.idx co2 hk, Cells.ld co2 hk Nat.zero_lt_one, Cells.idx cq2 hk, Cells.ld cq2 hk Nat.zero_lt_one, Cells.len ia1, Cells.len ib1, Cells.len ia2, Cells.len ib2]
    refine W_loop (hoursN S k) (fun j f g' ms => g' = g ∧ ms = [] ∧ f 4 = .pointer (some ⟨h.next, 0, none⟩) ∧ f 12 = .int .i64 (w12 : Int) ∧ f 15 = o1 ∧ f 16 = q1 ∧ f 18 = o2' ∧ f 19 = q2' ∧ f 21 = .int .i64 (k : Int) ∧ f 22 = .int .i64 (hoursN S k : Int) ∧ f 23 = .int .i64 (j : Int)) (by simp; omega) ?_ ?_ ?_
    · simp only [rn0, rn1, rn2, rn3, rn4, rn5, rn6, rn7, rn8, if_true, if_false, Nat.le_refl, true_and, and_true, decide_true, decide_false, Bool.not_true, Bool.not_false, reduceIte, Nat.reduceEqDiff, Nat.reduceAdd, Nat.reduceMul, Nat.reduceSub, Nat.reduceLeDiff, Nat.reduceLT, p4, p12, p15, p16, p18, p19, p21]
      first | done | exact ⟨rfl, rfl⟩ | trivial
    · rintro j f g' ms hj ⟨rfl, rfl, p4, p12, p15, p16, p18, p19, p21, p22, p23⟩
      have hj' : (j : Int) < (hoursN S k : Int) := by omega
      have hw1 : wrapF .i64 ((j : Int) + 1) = ((j + 1 : Nat) : Int) := by rw [wrap_in (by omega) (by omega)]; rfl
      have ho := hour_at hG hk hj
      have b1 : ¬ blueS S u3 k (S.vb k + (j : Int)) < blueS S u1 k (S.vb k + (j : Int)) := by
        have := blue_le (u := u1) (u' := u3) hG (fun i _ => ge3 i) ho (ge3 _); omega
      simp only [rn0, rn1, rn2, rn3, rn4, rn5, rn6, rn7, rn8, if_true, if_false, Nat.le_refl, true_and, and_true, decide_true, decide_false, Bool.not_true, Bool.not_false, reduceIte, Nat.reduceEqDiff, Nat.reduceAdd, Nat.reduceMul, Nat.reduceSub, Nat.reduceLeDiff, Nat.reduceLT, p4, p12, p15, p16, p18, p19, p21, p22, p23, hj']
      refine W_draw All ?_
      by_cases c0 : w12 = 0
      · have c0' : (w12 : Int) = 0 := by omega
        have b2 : ¬ kindS S u3 k (S.vb k + (j : Int)) < kindS S u1 k (S.vb k + (j : Int)) := by
          have := kind_le (u := u1) (u' := u3) hG (fun i _ => ge3 i) ho (ge3 _) (eq0 c0); omega
        have z01 : ¬ (0 : Int) = 1 := by decide
        simp only [rn0, rn1, rn2, rn3, rn4, rn5, rn6, rn7, rn8, if_true, if_false, Nat.le_refl, true_and, and_true, decide_true, decide_false, Bool.not_true, Bool.not_false, reduceIte, Nat.reduceEqDiff, Nat.reduceAdd, Nat.reduceMul, Nat.reduceSub, Nat.reduceLeDiff, Nat.reduceLT, p4, p12, p15, p16, p18, p19, p21, p22, p23, Cells.idx co1 hk, Cells.ld co1 hk Nat.zero_lt_one, Cells.idx cq1 hk, Cells.ld cq1 hk Nat.zero_lt_one, Cells.idx co2 hk, Cells.ld co2 hk Nat.zero_lt_one, Cells.idx cq2 hk, Cells.ld cq2 hk Nat.zero_lt_one, Cells.idx ia1 hj, Cells.ld ia1 hj Nat.zero_lt_one, Cells.idx ib1 hj, Cells.ld ib1 hj Nat.zero_lt_one, Cells.idx ia2 hj, Cells.ld ia2 hj Nat.zero_lt_one, Cells.idx ib2 hj, Cells.ld ib2 hj Nat.zero_lt_one, hw1, b1, b2, c0', z01, d_guard, dg_tt, dg_tf, dg_ft, dg_ff, dg_un]
      by_cases c1 : w12 = 1
      · have c0' : ¬ (w12 : Int) = 0 := by omega
        have c1' : (w12 : Int) = 1 := by omega
        have z10 : ¬ (1 : Int) = 0 := by decide
        have hq := eq1 c1
        have b2 : ¬ kindS S u3 k (S.vb k + (j : Int)) > kindS S u1 k (S.vb k + (j : Int)) := by
          have := kind_spoil (u := u1) (u' := u3) hG (fun i hi => hq i (by omega)) ho (hq _ (by omega)) (ge3 _); omega
        have b3 : blueS S u3 k (S.vb k + (j : Int)) = blueS S u1 k (S.vb k + (j : Int)) := by
          unfold blueS
          rw [warm_congr hG (fun i hi => hq i (by omega)) ho, hq (S.nw + 1 + k) (by omega)]
        rw [b3] at b1
        have b2' : ¬ kindS S u1 k (S.vb k + (j : Int)) < kindS S u3 k (S.vb k + (j : Int)) := by omega
        simp only [rn0, rn1, rn2, rn3, rn4, rn5, rn6, rn7, rn8, if_true, if_false, Nat.le_refl, true_and, and_true, decide_true, decide_false, Bool.not_true, Bool.not_false, reduceIte, Nat.reduceEqDiff, Nat.reduceAdd, Nat.reduceMul, Nat.reduceSub, Nat.reduceLeDiff, Nat.reduceLT, p4, p12, p15, p16, p18, p19, p21, p22, p23, Cells.idx co1 hk, Cells.ld co1 hk Nat.zero_lt_one, Cells.idx cq1 hk, Cells.ld cq1 hk Nat.zero_lt_one, Cells.idx co2 hk, Cells.ld co2 hk Nat.zero_lt_one, Cells.idx cq2 hk, Cells.ld cq2 hk Nat.zero_lt_one, Cells.idx ia1 hj, Cells.ld ia1 hj Nat.zero_lt_one, Cells.idx ib1 hj, Cells.ld ib1 hj Nat.zero_lt_one, Cells.idx ia2 hj, Cells.ld ia2 hj Nat.zero_lt_one, Cells.idx ib2 hj, Cells.ld ib2 hj Nat.zero_lt_one, hw1, b1, b2, b2', b3, Int.lt_irrefl, c1', z10, d_guard, dg_tt, dg_tf, dg_ft, dg_ff, dg_un]
      · have c0' : ¬ (w12 : Int) = 0 := by omega
        have c1' : ¬ (w12 : Int) = 1 := by omega
        simp only [rn0, rn1, rn2, rn3, rn4, rn5, rn6, rn7, rn8, if_true, if_false, Nat.le_refl, true_and, and_true, decide_true, decide_false, Bool.not_true, Bool.not_false, reduceIte, Nat.reduceEqDiff, Nat.reduceAdd, Nat.reduceMul, Nat.reduceSub, Nat.reduceLeDiff, Nat.reduceLT, p4, p12, p15, p16, p18, p19, p21, p22, p23, Cells.idx co1 hk, Cells.ld co1 hk Nat.zero_lt_one, Cells.idx cq1 hk, Cells.ld cq1 hk Nat.zero_lt_one, Cells.idx co2 hk, Cells.ld co2 hk Nat.zero_lt_one, Cells.idx cq2 hk, Cells.ld cq2 hk Nat.zero_lt_one, Cells.idx ia1 hj, Cells.ld ia1 hj Nat.zero_lt_one, Cells.idx ib1 hj, Cells.ld ib1 hj Nat.zero_lt_one, Cells.idx ia2 hj, Cells.ld ia2 hj Nat.zero_lt_one, Cells.idx ib2 hj, Cells.ld ib2 hj Nat.zero_lt_one, hw1, b1, c0', c1', d_guard, dg_tt, dg_tf, dg_ft, dg_ff, dg_un]
    · rintro f g' ms ⟨rfl, rfl, p4, p12, p15, p16, p18, p19, p21, p22, p23⟩
      simp only [rn0, rn1, rn2, rn3, rn4, rn5, rn6, rn7, rn8, if_true, if_false, Nat.le_refl, true_and, and_true, decide_true, decide_false, Bool.not_true, Bool.not_false, reduceIte, Nat.reduceEqDiff, Nat.reduceAdd, Nat.reduceMul, Nat.reduceSub, Nat.reduceLeDiff, Nat.reduceLT, p4, p12, p15, p16, p18, p19, p21, p22, p23, Int.lt_irrefl, hw]
  · rintro f g ms ⟨rfl, rfl, p4, p12, p15, p16, p18, p19, p21⟩
    simp only [rn0, rn1, rn2, rn3, rn4, rn5, rn6, rn7, rn8, if_true, if_false, Nat.le_refl, true_and, and_true, decide_true, decide_false, Bool.not_true, Bool.not_false, reduceIte, Nat.reduceEqDiff, Nat.reduceAdd, Nat.reduceMul, Nat.reduceSub, Nat.reduceLeDiff, Nat.reduceLT, p4, p12, p15, p16, p18, p19, p21, Cells.len co1, Int.lt_irrefl, awake_c (n := n) (h := g) (by omega)]
end Go.Vm.St
