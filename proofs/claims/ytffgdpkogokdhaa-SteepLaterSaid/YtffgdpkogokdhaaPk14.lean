/- Texts of the proofs of this seat, put together: StC, StLater. -/
import Derived.Test.YtffgdpkogokdhaaPk13
import Derived.Test.YtffgdpkogokdhaaRows
import Derived.WalkKit
import Derived.ProofKit
import Derived.OpenShut

namespace Go.Vm.St
open Go.Vm.Vat Go.Proofs Go.ChangeShapes Go.WideShapes Go.ChangeAt Go.RowKit
set_option linter.unusedSimpArgs false
set_option linter.unusedVariables false
set_option maxRecDepth 10000
variable {n : Nat} {h : AHeap}
/-! ### The calls of this program are sound -/
theorem own : ownKnob Try.prog.godebug = none := by kernel_rfl
theorem mixedOn : Try.prog.follows .mixedOrders = true := by kernel_rfl
theorem namesAll : (Try.prog.funcs.toList.all fun fn => !(fn.name == "runtime.NumGoroutine")) = true := by kernel_rfl
theorem namesFine : NamesFine Try.prog := by
  intro f fn hf
  have h := List.all_eq_true.1 namesAll fn (Array.mem_toList_iff.2 (Array.mem_of_getElem? hf))
  simpa using h
theorem tabOk : ∀ E ∈ StAwake.tab, ∃ cf, SoundCF Try.prog cf ∧ entryOk cf E = true := by
  have hs := vm_sound namesFine mixedOn StAwake.quiet 1000
  intro E hE
  refine ⟨_, hs, ?_⟩
  revert E
  simp only [StAwake.tab, List.forall_mem_cons, List.not_mem_nil, false_implies, implies_true, and_true]
  exact ⟨StAwake.ok0, StAwake.ok1, StAwake.ok2, StAwake.ok3, StAwake.ok4, StAwake.ok5, StAwake.ok6, StAwake.ok7, StAwake.ok8⟩
theorem kOk : KOk Try.prog K := by
  intro f v hK
  unfold K at hK
  split at hK
  · rename_i e
    subst e
    cases hK
    refine ⟨rfl, acallO Try.prog StAwake.quiet StAwake.tab 1000, ?_⟩
    have hm := StAwake.main_ok
    cases hr : acallO Try.prog StAwake.quiet StAwake.tab 1000 (.func (.func 24) #[] #[]) [] AHeap.empty with
    | none => rw [hr] at hm; cases hm
    | some vh =>
      obtain ⟨v, h'⟩ := vh
      rw [hr] at hm
      unfold StAwake.isTrue at hm
      split at hm
      · rename_i e
        cases e
        exact ⟨h', acallO_sound namesFine mixedOn StAwake.quiet tabOk 1000, rfl⟩
      · cases hm
  · cases hK
theorem sound (n : Nat) : SoundCF Try.prog (call n) := pcall_sound namesFine mixedOn kOk n
/-! ### The statements' arguments -/
theorem laidOk : laidOutB Try.prog = true := by kernel_rfl
theorem mapsOk : mapsRowed Try.prog = true := by kernel_rfl
theorem slicesOk : ((List.range Try.prog.types.size).all fun t => match Try.prog.underlying t with | some (.slice e) => decide (0 < Try.prog.cellsOf e) | _ => true) = true := by kernel_rfl
theorem kids : Kids Try.prog (· < Try.prog.types.size) := kids_rows laidOk mapsOk
theorem tsize : 120 < Try.prog.types.size := of_decide_eq_true (by kernel_rfl)
theorem cell_int {P : Program} {w : World} {r : Reach} {b : Nat} {t : TypeId} {k : IntKind} {v x : Value} (ht : P.underlying t = some (.int k)) (ho : Value.okWide P w r b t v) (hc : v.cells.toList = [x]) : v = x := by
  unfold Value.okWide at ho
  rw [ht] at ho
  cases v <;> simp_all [Value.cells, Cell.okWide, Cell.ok]
theorem agg_struct {P : Program} {w : World} {r : Reach} {b : Nat} {t : TypeId} {fs : Array Field} {v : Value} {cs : List Value} (ht : P.underlying t = some (.struct fs)) (ho : Value.okWide P w r b t v) (hc : v.cells.toList = cs) : v = .agg ⟨cs⟩ := by
  unfold Value.okWide at ho
  rw [ht] at ho
  obtain ⟨cs', rfl, _⟩ := ho
  subst hc
  rfl
theorem map_int {φ : Emb} {k : IntKind} {a : Int} : mapV φ (.int k a) = .int k a := by simp [mapV]
theorem stands_steep {w : World} {φ : Emb} {a b c d : Int} {u0 u1 u2 fv vv sv : Value} (h0 : Stands φ h u0 fv) (h1 : Stands φ h u1 vv) (h2 : Stands φ h u2 sv) : mapV φ (.agg ⟨[.int .i64 a, .int .i64 b, u0, .int .i64 c, .int .i64 d, u1, u2]⟩) = .agg ⟨[.int .i64 a, .int .i64 b, fv, .int .i64 c, .int .i64 d, vv, sv]⟩ ∧ okV φ h.next (.agg ⟨[.int .i64 a, .int .i64 b, u0, .int .i64 c, .int .i64 d, u1, u2]⟩) := by
  refine ⟨?_, ?_⟩
  · simp only [mapV, mapArr, mapL, h0.map, h1.map, h2.map]
  · simp only [okV, okA, okL, and_true, true_and]
    exact ⟨h0.ok, h1.ok, h2.ok⟩
end Go.Vm.St

namespace Go.Vm.St
open Go.Proofs Go.Vm.Vat
set_option linter.unusedSimpArgs false
set_option linter.unusedVariables false
set_option maxRecDepth 10000
variable {n : Nat} {h : AHeap}
/-! ### A vat that is filled later -/
def laterS (S : MS) (o : Nat) (b f : Int) : MS :=
  { last := S.last, per := S.per, nw := S.nw, wlo := S.wlo, whi := S.whi, splo := S.splo, sphi := S.sphi, nv := S.nv + 1, vb := fun k => if k = S.nv then b else S.vb k, vlo := fun k => if k = S.nv then f else S.vlo k, vhi := fun k => if k = S.nv then f else S.vhi k, vn := fun k => if k = S.nv then S.vn o else S.vn k, ns := 0, sv := fun _ => 0, sh := fun _ => 0, sk := fun _ => 0 }
def laterU (S : MS) (o : Nat) (u : Nat → Int) (i : Nat) : Int := if i = numU S then u (S.nw + 1 + o) else u i
theorem capN_congr {n0 : Int} {lo hi lo' hi' : Nat → Int} : ∀ m, (∀ k, k < m → lo k = lo' k ∧ hi k = hi' k) → capN n0 lo hi m = capN n0 lo' hi' m
  | 0, _ => rfl
  | m + 1, h => by
    simp only [capN]
    rw [capN_congr m fun k hk => h k (by omega), (h m (by omega)).1, (h m (by omega)).2]
section
variable {S : MS} {o : Nat} {b f : Int} {u : Nat → Int}
theorem later_many (hG : Good S) : manyS (laterS S o b f) ≤ 2000 := by
  have h1 := hG.few
  unfold manyS at h1 ⊢
  have e : capN (capN ((laterS S o b f).sphi - (laterS S o b f).splo + 1) (laterS S o b f).wlo (laterS S o b f).whi (laterS S o b f).nw) (laterS S o b f).vlo (laterS S o b f).vhi (laterS S o b f).nv = min 3000 (capN (capN (S.sphi - S.splo + 1) S.wlo S.whi S.nw) (laterS S o b f).vlo (laterS S o b f).vhi S.nv * ((laterS S o b f).vhi S.nv - (laterS S o b f).vlo S.nv + 1)) := rfl
  have e1 : (laterS S o b f).vlo S.nv = f := if_pos rfl
  have e2 : (laterS S o b f).vhi S.nv = f := if_pos rfl
  have e3 : capN (capN (S.sphi - S.splo + 1) S.wlo S.whi S.nw) (laterS S o b f).vlo (laterS S o b f).vhi S.nv = capN (capN (S.sphi - S.splo + 1) S.wlo S.whi S.nw) S.vlo S.vhi S.nv := capN_congr S.nv fun k hk => ⟨if_neg (by omega), if_neg (by omega)⟩
  rw [e, e1, e2, e3, show f - f + 1 = 1 by omega, Int.mul_one]
  omega
theorem later_good (hG : Good S) (ho : o < S.nv) (hn : S.nv ≤ 3) (hb : 0 ≤ b ∧ b ≤ S.last) (hf : 0 ≤ f ∧ f ≤ 99) : Good (laterS S o b f) := by
  obtain ⟨a1, a2, a3⟩ := hG.lim
  refine ⟨⟨a1, ?_, Nat.zero_le _⟩, ⟨hG.args.head, hG.args.warm, fun i hi => ?_, fun i hi => absurd hi (Nat.not_lt_zero _)⟩, later_many hG⟩
  · show S.nv + 1 ≤ 4
    omega
  · have hi : i < S.nv + 1 := hi
    have hv := hG.args.vat o ho
    simp only [laterS]
    by_cases c : i = S.nv
    · simp only [c, if_true]
      exact ⟨hb, ⟨hf.1, Int.le_refl _, hf.2⟩, hv.2.2⟩
    · simp only [c, if_false]
      exact hG.args.vat i (by omega)
theorem laterU_old {i : Nat} (hi : i < numU S) : laterU S o u i = u i := if_neg (by omega)
theorem laterU_new : laterU S o u (S.nw + 1 + S.nv) = u (S.nw + 1 + o) := if_pos rfl
theorem later_in (hu : InU S u) (ho : o < S.nv) : InU (laterS S o b (u (S.nw + 1 + o))) (laterU S o u) := fun i hi => by
  have hi : i < S.nw + 1 + (S.nv + 1) := hi
  by_cases c : i < numU S
  · have h1 := hu i c
    rw [laterU_old c]
    unfold numU at c
    simp only [uLo, uHi, laterS] at h1 ⊢
    by_cases c1 : i < S.nw
    · simpa [c1] using h1
    · by_cases c2 : i = S.nw
      · simpa [c2] using h1
      · have c3 : ¬ i - S.nw - 1 = S.nv := by omega
        simpa [c1, c2, c3] using h1
  · have e : i = S.nw + 1 + S.nv := by unfold numU at c; omega
    subst e
    rw [laterU_new]
    have c1 : ¬ S.nw + 1 + S.nv < S.nw := by omega
    have c2 : ¬ S.nw + 1 + S.nv = S.nw := by omega
    have c3 : S.nw + 1 + S.nv - S.nw - 1 = S.nv := by omega
    simp only [uLo, uHi, laterS, c1, c2, c3, if_false, if_true]
    exact ⟨Int.le_refl _, Int.le_refl _⟩
theorem sumR_split {b d : Nat} : ∀ m, sumR u b (d + m) = sumR u b d + sumR u (b + d) m
  | 0 => by simp [sumR]
  | m + 1 => by
    rw [← Nat.add_assoc]
    simp only [sumR]
    rw [sumR_split m, Nat.add_assoc]
    omega
theorem later_le {S' : MS} (hG : Good S') (hu : InU S' u) {v o : Nat} {t : Int} (h1 : HourOk S' v t) (h2 : HourOk S' o t) (hb : S'.vb o ≤ S'.vb v) (hf : u (S'.nw + 1 + v) = u (S'.nw + 1 + o)) (hn : S'.vn v = S'.vn o) :
    blueS S' u v t ≤ blueS S' u o t ∧ kindS S' u v t ≤ kindS S' u o t := by
  obtain ⟨a1, a2, a3, a4, a5, a6⟩ := h1.nat hG
  obtain ⟨b1, b2, b3, b4, b5, b6⟩ := h2.nat hG
  obtain ⟨_, _, _, _, _, _, c7, c8, _⟩ := hG.sizes
  have hw : warmS S' u v t ≤ warmS S' u o t := by
    unfold warmS
    rw [show (t - S'.vb o + 1).toNat = ((S'.vb v).toNat - (S'.vb o).toNat) + (t - S'.vb v + 1).toNat by omega, sumR_split, show (S'.vb o).toNat + ((S'.vb v).toNat - (S'.vb o).toNat) = (S'.vb v).toNat by omega]
    have := (sumR_bound (u := u) (b := (S'.vb o).toNat) (B := 9) (by omega) ((S'.vb v).toNat - (S'.vb o).toNat) fun k hk => hu.warm hG (by omega)).1
    omega
  have hp := Int.mul_le_mul_of_nonneg_left (c := S'.per) hw (by omega)
  have hbl : blueS S' u v t ≤ blueS S' u o t := by
    unfold blueS
    rw [hf]
    omega
  refine ⟨hbl, ?_⟩
  unfold kindS
  rw [hn]
  repeat' split
  all_goals omega
end
theorem build_none4 {a b c d : Value} : buildSl 4 0 [a, b, c, d] [] h [] = newSlice h [] 0 0 0 := id rfl
theorem vatC_row {x y z w : Int} {j : Nat} (hj : j < 4) : ([.int .i64 x, .int .i64 y, .int .i64 z, .int .i64 w] : List Value)[j]? = some (.int .i64 (if j = 0 then x else if j = 1 then y else if j = 2 then z else w)) := by
  rcases j with _ | _ | _ | _ | j
  · rfl
  · rfl
  · rfl
  · rfl
  · omega
theorem cells_at {g : AHeap} {v : Value} {s m : Nat} {c : Nat → Nat → Value} (hc : Cells h v s m c) (he : ∀ a k cap, v = .slice (some a) k cap → a.block < h.next → g.get a.block = h.get a.block) : Cells g v s m c := by
  obtain ⟨a, cap, rfl, hsp, h0 | ⟨b, o, cs, w, gr, rfl, h1, h2⟩⟩ := hc
  · exact ⟨a, cap, rfl, hsp, .inl h0⟩
  · exact ⟨_, cap, rfl, hsp, .inr ⟨b, o, cs, w, gr, rfl, by rw [he _ _ _ rfl (AHeap.lt_of_get h1)]; exact h1, h2⟩⟩
theorem growC_congr {B s m : Nat} {v : Value} {c c' : Nat → Nat → Value} (hg : GrowC B h v s m c) (he : ∀ k j, k < m → j < s → c k j = c' k j) : GrowC B h v s m c' := by
  obtain ⟨cs, h1, h2, h3⟩ := hg
  exact ⟨cs, h1, h2, fun k j hk hj => by rw [h3 k j hk hj, he k j hk hj]⟩
/-- one element more, in a block of its own -/
theorem grow_push3 {B k s bytes : Nat} {v : Value} {c : Nat → Nat → Value} {g1 : AHeap} {row : List Value} (hg : GrowC B h v s k c) (hB : h.floor ≤ B) (hf : h.next + 2 < far) (hBn : B ≤ h.next) (hx : New h g1 row 0) (hlen : row.length = s) (hone : allB oneCell row = true) (hn : ∀ j, j < s → row[j]? = some (c k j)) (hb1 : (k + 1) * bytes ≤ maxBytes) (hb2 : k + 1 ≤ maxBytes) :
    ∃ g2, appendA s bytes g1 v (.slice (some ⟨h.next, 0, none⟩) 1 1) = some (.slice (some ⟨h.next + 1, 0, none⟩) (k + 1) unk, g2) ∧ GrowC B g2 (.slice (some ⟨h.next + 1, 0, none⟩) (k + 1) unk) s (k + 1) c ∧ g2.next = h.next + 2 ∧ g2.floor = h.floor ∧ (∀ i, i < h.next → NeB v i → g2.get i = h.get i) ∧ g1.next ≤ g2.next := by
  have hnx := hx.next
  have hfl := hx.floor
  have g1' : GrowC B g1 v s k c := hg.sub hx.sub
  obtain ⟨v', g2, e, ev, gv, hk2⟩ := g1'.append (bytes := bytes) (cap := 1) (by omega) (by omega) (by omega) hx.get hlen hone hn hb1 hb2
  rw [hnx] at ev
  subst ev
  have n2 := hk2.next
  have f2 := hk2.floor
  refine ⟨g2, e, gv, by omega, by omega, fun i hi hne => ?_, by omega⟩
  rw [hk2.old i (by omega) fun b m c e => hne b m c e, hx.old i (by omega)]
def s15 : SCode := (.seq (.ops [⟨(some 4), none, .box (T 0)⟩, ⟨(some 8), none, .mov (.const (.bool false))⟩]) (.seq (.seq (.ops [⟨(some 20), none, .loadN 7 (T 4)⟩, ⟨(some 21), none, .call (.func 59) [(T 20)]⟩, ⟨(some 22), none, .not (T 21)⟩, ⟨(some 23), none, .mov (T 22)⟩, ⟨(some 24), (some (23, false)), .fieldAddr 5 (T 4)⟩, ⟨(some 25), (some (23, false)), .load1 (T 24)⟩, ⟨(some 26), (some (23, false)), .len (T 25)⟩, ⟨(some 27), (some (23, false)), .int2 .eql (T 26) (.const (.int .i64 (0)))⟩, ⟨(some 28), none, .pick (T 23) (.const (.bool true)) (T 27)⟩, ⟨(some 29), none, .mov (T 28)⟩, ⟨(some 30), (some (29, false)), .fieldAddr 5 (T 4)⟩, ⟨(some 31), (some (29, false)), .load1 (T 30)⟩, ⟨(some 32), (some (29, false)), .len (T 31)⟩, ⟨(some 33), (some (29, false)), .int2 .gtr (T 32) (.const (.int .i64 (3)))⟩, ⟨(some 34), none, .pick (T 29) (.const (.bool true)) (T 33)⟩]) (.cond (T 34) (.seq (.ops [⟨(some 35), none, .call (.func 24) []⟩, ⟨(some 8), none, .mov (T 35)⟩]) .ret) .skip)) (.seq (.ops [⟨(some 36), none, .mov (T 1)⟩, ⟨(some 37), none, .plain (.convert 5 3 (T 36)) 3⟩, ⟨(some 38), none, .fieldAddr 5 (T 4)⟩, ⟨(some 39), none, .load1 (T 38)⟩, ⟨(some 40), none, .len (T 39)⟩, ⟨(some 41), none, .plain (.binOp .rem 3 (T 37) (T 40) 3) 3⟩, ⟨(some 9), none, .mov (T 41)⟩]) (.seq (.ops [⟨(some 42), none, .loadN 7 (T 4)⟩, ⟨(some 10), none, .alloc [(.int .i64 (0)), (.int .i64 (0)), (.slice none 0 0), (.int .i64 (0)), (.int .i64 (0)), (.slice none 0 0), (.slice none 0 0)]⟩, ⟨none, none, .store 7 (T 10) (T 42)⟩]) (.seq (.ops [⟨(some 43), none, .bslice 4 0 [(.int .i64 (0)), (.int .i64 (0)), (.int .i64 (0)), (.int .i64 (0))] [] []⟩, ⟨(some 44), none, .fieldAddr 5 (T 4)⟩, ⟨(some 45), none, .load1 (T 44)⟩, ⟨(some 46), none, .append 4 32 (T 43) (T 45)⟩, ⟨(some 47), none, .fieldAddr 6 (T 10)⟩, ⟨none, none, .store 1 (T 47) (.const (.slice none 0 0))⟩, ⟨(some 48), none, .fieldAddr 5 (T 10)⟩, ⟨none, none, .store 1 (T 48) (T 46)⟩]) (.seq (.ops [⟨(some 49), none, .fieldAddr 5 (T 4)⟩, ⟨(some 50), none, .load1 (T 49)⟩, ⟨(some 51), none, .mov (T 9)⟩, ⟨(some 52), none, .idxSl 4 (T 50) (T 51)⟩, ⟨(some 53), none, .loadN 4 (T 52)⟩, ⟨(some 11), none, .alloc [(.int .i64 (0)), (.int .i64 (0)), (.int .i64 (0)), (.int .i64 (0))]⟩, ⟨none, none, .store 4 (T 11) (T 53)⟩]) (.seq (.ops [⟨(some 54), none, .fieldAddr 0 (T 4)⟩, ⟨(some 55), none, .load1 (T 54)⟩, ⟨(some 56), none, .fieldAddr 0 (T 11)⟩, ⟨(some 57), none, .load1 (T 56)⟩, ⟨(some 58), none, .mov (T 2)⟩, ⟨(some 59), none, .plain (.convert 5 3 (T 58)) 3⟩, ⟨(some 60), none, .plain (.binOp .rem 3 (T 59) (.const (.int .i64 (4))) 3) 3⟩, ⟨(some 61), none, .int2 .add (T 57) (T 60)⟩, ⟨(some 62), none, .plain (.call { callee := .builtin .min, args := #[(T 55), (T 61)], argTypes := #[3, 3] }) 3⟩, ⟨(some 63), none, .fieldAddr 0 (T 11)⟩, ⟨none, none, .store 1 (T 63) (T 62)⟩]) (.seq (.draw [⟨.rd, ⟨(some 64), none, .loadN 7 (T 4)⟩⟩, ⟨.free, ⟨(some 65), none, .mov (T 3)⟩⟩, ⟨.free, ⟨(some 66), none, .plain (.convert 90 3 (T 65)) 3⟩⟩, ⟨.rd1, ⟨(some 67), none, .loadN 7 (T 4)⟩⟩, ⟨.up, ⟨(some 68), none, .call (.func 64) [(T 67)]⟩⟩, ⟨.free, ⟨(some 69), none, .plain (.binOp .rem 3 (T 66) (T 68) 3) 3⟩⟩, ⟨.any, ⟨(some 70), none, .call (.func 63) [(T 64), (T 69)]⟩⟩, ⟨.any, ⟨(some 12), none, .alloc [(.slice none 0 0), (.int .i64 (0)), (.slice none 0 0)]⟩⟩, ⟨.any, ⟨none, none, .store 3 (T 12) (T 70)⟩⟩]) (.seq (.draw [⟨.free, ⟨(some 71), none, .fieldAddr 2 (T 12)⟩⟩, ⟨.rd1, ⟨(some 72), none, .load1 (T 71)⟩⟩, ⟨.free, ⟨(some 73), none, .mov (T 9)⟩⟩, ⟨.free, ⟨(some 74), none, .idxSl 1 (T 72) (T 73)⟩⟩, ⟨.rd1, ⟨(some 75), none, .load1 (T 74)⟩⟩, ⟨.free, ⟨(some 76), none, .fieldAddr 2 (T 12)⟩⟩, ⟨.rd1, ⟨(some 77), none, .load1 (T 76)⟩⟩, ⟨.free, ⟨(some 78), none, .mov (T 9)⟩⟩, ⟨.free, ⟨(some 79), none, .idxSl 1 (T 77) (T 78)⟩⟩, ⟨.rd1, ⟨(some 80), none, .load1 (T 79)⟩⟩, ⟨.free, ⟨(some 81), none, .build #[(0, 1), (1, 1)] [(.int .i64 (0)), (.int .i64 (0))] [0, 1] [(T 75), (T 80)]⟩⟩, ⟨.free, ⟨(some 82), none, .fieldAddr 1 (T 11)⟩⟩, ⟨.any, ⟨none, none, .store 2 (T 82) (T 81)⟩⟩]) (.seq (.ops [⟨(some 83), none, .fieldAddr 5 (T 10)⟩, ⟨(some 84), none, .load1 (T 83)⟩, ⟨(some 85), none, .loadN 4 (T 11)⟩, ⟨(some 86), none, .bslice 4 1 [(.int .i64 (0)), (.int .i64 (0)), (.int .i64 (0)), (.int .i64 (0))] [0] [(T 85)]⟩, ⟨(some 87), none, .append 4 32 (T 84) (T 86)⟩, ⟨(some 88), none, .fieldAddr 5 (T 10)⟩, ⟨none, none, .store 1 (T 88) (T 87)⟩]) (.seq (.draw [⟨.free, ⟨(some 89), none, .fieldAddr 2 (T 12)⟩⟩, ⟨.rd, ⟨(some 90), none, .load1 (T 89)⟩⟩, ⟨.free, ⟨(some 91), none, .fieldAddr 2 (T 12)⟩⟩, ⟨.rd1, ⟨(some 92), none, .load1 (T 91)⟩⟩, ⟨.free, ⟨(some 93), none, .mov (T 9)⟩⟩, ⟨.free, ⟨(some 94), none, .idxSl 1 (T 92) (T 93)⟩⟩, ⟨.rd1, ⟨(some 95), none, .load1 (T 94)⟩⟩, ⟨.up, ⟨(some 96), none, .bslice 1 1 [(.int .i64 (0))] [0] [(T 95)]⟩⟩, ⟨.any, ⟨(some 97), none, .append 1 8 (T 90) (T 96)⟩⟩, ⟨.free, ⟨(some 98), none, .fieldAddr 2 (T 12)⟩⟩, ⟨.any, ⟨none, none, .store 1 (T 98) (T 97)⟩⟩]) (.seq (.draw [⟨.rd1, ⟨(some 100), none, .loadN 7 (T 10)⟩⟩, ⟨.up, ⟨(some 101), none, .call (.func 26) [(T 100)]⟩⟩, ⟨.rd, ⟨(some 102), none, .loadN 3 (T 12)⟩⟩, ⟨.any, ⟨(some 103), none, .call (.func 27) [(T 102)]⟩⟩, ⟨.any, ⟨(some 104), none, .call (.func 25) [(T 101), (T 103)]⟩⟩, ⟨.free, ⟨(some 99), none, .mov (T 104)⟩⟩, ⟨.free, ⟨(some 105), none, .extract 0 (T 99)⟩⟩, ⟨.free, ⟨(some 106), none, .extract 1 (T 99)⟩⟩, ⟨.free, ⟨(some 107), none, .extract 2 (T 99)⟩⟩, ⟨.free, ⟨(some 13), none, .mov (T 105)⟩⟩, ⟨.free, ⟨(some 14), none, .mov (T 106)⟩⟩, ⟨.free, ⟨(some 15), none, .mov (T 107)⟩⟩]) (.seq (.ops [⟨(some 108), none, .fieldAddr 5 (T 4)⟩, ⟨(some 109), none, .load1 (T 108)⟩, ⟨(some 110), none, .len (T 109)⟩, ⟨(some 16), none, .mov (T 110)⟩]) (.seq (.seq (.draw [⟨.free, ⟨(some 111), none, .mov (T 15)⟩⟩, ⟨.free, ⟨(some 112), none, .int2 .neq (T 111) (.const (.int .i64 (0)))⟩⟩, ⟨.free, ⟨(some 113), none, .mov (T 112)⟩⟩, ⟨.free, ⟨(some 114), (some (113, false)), .mov (T 13)⟩⟩, ⟨.free, ⟨(some 115), (some (113, false)), .len (T 114)⟩⟩, ⟨.free, ⟨(some 116), (some (113, false)), .mov (T 16)⟩⟩, ⟨.free, ⟨(some 117), (some (113, false)), .int2 .add (T 116) (.const (.int .i64 (1)))⟩⟩, ⟨.free, ⟨(some 118), (some (113, false)), .int2 .neq (T 115) (T 117)⟩⟩, ⟨.free, ⟨(some 119), none, .pick (T 113) (.const (.bool true)) (T 118)⟩⟩, ⟨.free, ⟨(some 120), none, .mov (T 119)⟩⟩, ⟨.free, ⟨(some 121), (some (120, false)), .mov (T 14)⟩⟩, ⟨.free, ⟨(some 122), (some (120, false)), .len (T 121)⟩⟩, ⟨.free, ⟨(some 123), (some (120, false)), .mov (T 16)⟩⟩, ⟨.free, ⟨(some 124), (some (120, false)), .int2 .add (T 123) (.const (.int .i64 (1)))⟩⟩, ⟨.free, ⟨(some 125), (some (120, false)), .int2 .neq (T 122) (T 124)⟩⟩, ⟨.free, ⟨(some 126), none, .pick (T 120) (.const (.bool true)) (T 125)⟩⟩, ⟨.free, ⟨(some 127), none, .mov (T 126)⟩⟩, ⟨.free, ⟨(some 128), (some (127, false)), .mov (T 13)⟩⟩, ⟨.free, ⟨(some 129), (some (127, false)), .mov (T 16)⟩⟩, ⟨.free, ⟨(some 130), (some (127, false)), .idxSl 1 (T 128) (T 129)⟩⟩, ⟨.rd1, ⟨(some 131), (some (127, false)), .load1 (T 130)⟩⟩, ⟨.free, ⟨(some 132), (some (127, false)), .len (T 131)⟩⟩, ⟨.free, ⟨(some 133), (some (127, false)), .fieldAddr 0 (T 4)⟩⟩, ⟨.rd1, ⟨(some 134), (some (127, false)), .load1 (T 133)⟩⟩, ⟨.free, ⟨(some 135), (some (127, false)), .fieldAddr 0 (T 11)⟩⟩, ⟨.rd1, ⟨(some 136), (some (127, false)), .load1 (T 135)⟩⟩, ⟨.free, ⟨(some 137), (some (127, false)), .int2 .sub (T 134) (T 136)⟩⟩, ⟨.free, ⟨(some 138), (some (127, false)), .int2 .add (T 137) (.const (.int .i64 (1)))⟩⟩, ⟨.free, ⟨(some 139), (some (127, false)), .int2 .neq (T 132) (T 138)⟩⟩, ⟨.free, ⟨(some 140), none, .pick (T 127) (.const (.bool true)) (T 139)⟩⟩, ⟨.free, ⟨(some 141), none, .mov (T 140)⟩⟩, ⟨.free, ⟨(some 142), (some (141, false)), .mov (T 14)⟩⟩, ⟨.free, ⟨(some 143), (some (141, false)), .mov (T 16)⟩⟩, ⟨.free, ⟨(some 144), (some (141, false)), .idxSl 1 (T 142) (T 143)⟩⟩, ⟨.rd1, ⟨(some 145), (some (141, false)), .load1 (T 144)⟩⟩, ⟨.free, ⟨(some 146), (some (141, false)), .len (T 145)⟩⟩, ⟨.free, ⟨(some 147), (some (141, false)), .mov (T 13)⟩⟩, ⟨.free, ⟨(some 148), (some (141, false)), .mov (T 16)⟩⟩, ⟨.free, ⟨(some 149), (some (141, false)), .idxSl 1 (T 147) (T 148)⟩⟩, ⟨.rd1, ⟨(some 150), (some (141, false)), .load1 (T 149)⟩⟩, ⟨.free, ⟨(some 151), (some (141, false)), .len (T 150)⟩⟩, ⟨.free, ⟨(some 152), (some (141, false)), .int2 .neq (T 146) (T 151)⟩⟩, ⟨.free, ⟨(some 153), none, .pick (T 141) (.const (.bool true)) (T 152)⟩⟩, ⟨.free, ⟨(some 154), none, .mov (T 153)⟩⟩, ⟨.free, ⟨(some 155), (some (154, false)), .mov (T 13)⟩⟩, ⟨.free, ⟨(some 156), (some (154, false)), .mov (T 9)⟩⟩, ⟨.free, ⟨(some 157), (some (154, false)), .idxSl 1 (T 155) (T 156)⟩⟩, ⟨.rd1, ⟨(some 158), (some (154, false)), .load1 (T 157)⟩⟩, ⟨.free, ⟨(some 159), (some (154, false)), .len (T 158)⟩⟩, ⟨.free, ⟨(some 160), (some (154, false)), .fieldAddr 0 (T 4)⟩⟩, ⟨.rd1, ⟨(some 161), (some (154, false)), .load1 (T 160)⟩⟩, ⟨.free, ⟨(some 162), (some (154, false)), .fieldAddr 5 (T 4)⟩⟩, ⟨.rd1, ⟨(some 163), (some (154, false)), .load1 (T 162)⟩⟩, ⟨.free, ⟨(some 164), (some (154, false)), .mov (T 9)⟩⟩, ⟨.free, ⟨(some 165), (some (154, false)), .idxSl 4 (T 163) (T 164)⟩⟩, ⟨.free, ⟨(some 166), (some (154, false)), .fieldAddr 0 (T 165)⟩⟩, ⟨.rd1, ⟨(some 167), (some (154, false)), .load1 (T 166)⟩⟩, ⟨.free, ⟨(some 168), (some (154, false)), .int2 .sub (T 161) (T 167)⟩⟩, ⟨.free, ⟨(some 169), (some (154, false)), .int2 .add (T 168) (.const (.int .i64 (1)))⟩⟩, ⟨.free, ⟨(some 170), (some (154, false)), .int2 .neq (T 159) (T 169)⟩⟩, ⟨.free, ⟨(some 171), none, .pick (T 154) (.const (.bool true)) (T 170)⟩⟩, ⟨.free, ⟨(some 172), none, .mov (T 171)⟩⟩, ⟨.free, ⟨(some 173), (some (172, false)), .mov (T 14)⟩⟩, ⟨.free, ⟨(some 174), (some (172, false)), .mov (T 9)⟩⟩, ⟨.free, ⟨(some 175), (some (172, false)), .idxSl 1 (T 173) (T 174)⟩⟩, ⟨.rd1, ⟨(some 176), (some (172, false)), .load1 (T 175)⟩⟩, ⟨.free, ⟨(some 177), (some (172, false)), .len (T 176)⟩⟩, ⟨.free, ⟨(some 178), (some (172, false)), .mov (T 13)⟩⟩, ⟨.free, ⟨(some 179), (some (172, false)), .mov (T 9)⟩⟩, ⟨.free, ⟨(some 180), (some (172, false)), .idxSl 1 (T 178) (T 179)⟩⟩, ⟨.rd1, ⟨(some 181), (some (172, false)), .load1 (T 180)⟩⟩, ⟨.free, ⟨(some 182), (some (172, false)), .len (T 181)⟩⟩, ⟨.free, ⟨(some 183), (some (172, false)), .int2 .neq (T 177) (T 182)⟩⟩, ⟨.free, ⟨(some 184), none, .pick (T 172) (.const (.bool true)) (T 183)⟩⟩]) (.cond (T 184) (.seq (.ops [⟨(some 8), none, .mov (.const (.bool false))⟩]) .ret) .skip)) (.seq (.seq (.ops [⟨(some 185), none, .fieldAddr 0 (T 11)⟩, ⟨(some 186), none, .load1 (T 185)⟩, ⟨(some 17), none, .mov (T 186)⟩]) (.block 0 (.loop (.seq (.seq (.ops [⟨(some 187), none, .mov (T 17)⟩, ⟨(some 188), none, .fieldAddr 0 (T 4)⟩, ⟨(some 189), none, .load1 (T 188)⟩, ⟨(some 190), none, .int2 .leq (T 187) (T 189)⟩]) (.cond (T 190) .skip (.exit 0))) (.seq (.block 1 (.seq (.draw [⟨.free, ⟨(some 193), none, .mov (T 17)⟩⟩, ⟨.free, ⟨(some 194), none, .fieldAddr 0 (T 11)⟩⟩, ⟨.rd1, ⟨(some 195), none, .load1 (T 194)⟩⟩, ⟨.free, ⟨(some 196), none, .int2 .sub (T 193) (T 195)⟩⟩, ⟨.free, ⟨(some 197), none, .mov (T 17)⟩⟩, ⟨.free, ⟨(some 198), none, .fieldAddr 5 (T 4)⟩⟩, ⟨.rd1, ⟨(some 199), none, .load1 (T 198)⟩⟩, ⟨.free, ⟨(some 200), none, .mov (T 9)⟩⟩, ⟨.free, ⟨(some 201), none, .idxSl 4 (T 199) (T 200)⟩⟩, ⟨.free, ⟨(some 202), none, .fieldAddr 0 (T 201)⟩⟩, ⟨.rd1, ⟨(some 203), none, .load1 (T 202)⟩⟩, ⟨.free, ⟨(some 204), none, .int2 .sub (T 197) (T 203)⟩⟩, ⟨.free, ⟨(some 18), none, .mov (T 196)⟩⟩, ⟨.free, ⟨(some 19), none, .mov (T 204)⟩⟩]) (.seq (.draw [⟨.free, ⟨(some 205), none, .mov (T 13)⟩⟩, ⟨.free, ⟨(some 206), none, .mov (T 16)⟩⟩, ⟨.free, ⟨(some 207), none, .idxSl 1 (T 205) (T 206)⟩⟩, ⟨.rd1, ⟨(some 208), none, .load1 (T 207)⟩⟩, ⟨.free, ⟨(some 209), none, .mov (T 18)⟩⟩, ⟨.free, ⟨(some 210), none, .idxSl 1 (T 208) (T 209)⟩⟩, ⟨.rd1, ⟨(some 211), none, .load1 (T 210)⟩⟩, ⟨.free, ⟨(some 212), none, .mov (T 13)⟩⟩, ⟨.free, ⟨(some 213), none, .mov (T 9)⟩⟩, ⟨.free, ⟨(some 214), none, .idxSl 1 (T 212) (T 213)⟩⟩, ⟨.rd1, ⟨(some 215), none, .load1 (T 214)⟩⟩, ⟨.free, ⟨(some 216), none, .mov (T 19)⟩⟩, ⟨.free, ⟨(some 217), none, .idxSl 1 (T 215) (T 216)⟩⟩, ⟨.rd1, ⟨(some 218), none, .load1 (T 217)⟩⟩, ⟨.free, ⟨(some 219), none, .int2 .gtr (T 211) (T 218)⟩⟩, ⟨.free, ⟨(some 220), none, .mov (T 219)⟩⟩, ⟨.free, ⟨(some 221), (some (220, false)), .mov (T 14)⟩⟩, ⟨.free, ⟨(some 222), (some (220, false)), .mov (T 16)⟩⟩, ⟨.free, ⟨(some 223), (some (220, false)), .idxSl 1 (T 221) (T 222)⟩⟩, ⟨.rd1, ⟨(some 224), (some (220, false)), .load1 (T 223)⟩⟩, ⟨.free, ⟨(some 225), (some (220, false)), .mov (T 18)⟩⟩, ⟨.free, ⟨(some 226), (some (220, false)), .idxSl 1 (T 224) (T 225)⟩⟩, ⟨.rd1, ⟨(some 227), (some (220, false)), .load1 (T 226)⟩⟩, ⟨.free, ⟨(some 228), (some (220, false)), .mov (T 14)⟩⟩, ⟨.free, ⟨(some 229), (some (220, false)), .mov (T 9)⟩⟩, ⟨.free, ⟨(some 230), (some (220, false)), .idxSl 1 (T 228) (T 229)⟩⟩, ⟨.rd1, ⟨(some 231), (some (220, false)), .load1 (T 230)⟩⟩, ⟨.free, ⟨(some 232), (some (220, false)), .mov (T 19)⟩⟩, ⟨.free, ⟨(some 233), (some (220, false)), .idxSl 1 (T 231) (T 232)⟩⟩, ⟨.rd1, ⟨(some 234), (some (220, false)), .load1 (T 233)⟩⟩, ⟨.free, ⟨(some 235), (some (220, false)), .int2 .gtr (T 227) (T 234)⟩⟩, ⟨.free, ⟨(some 236), none, .pick (T 220) (.const (.bool true)) (T 235)⟩⟩]) (.cond (T 236) (.seq (.ops [⟨(some 8), none, .mov (.const (.bool false))⟩]) .ret) .skip)))) (.ops [⟨(some 191), none, .mov (T 17)⟩, ⟨(some 192), none, .int2 .add (T 191) (.const (.int .i64 (1)))⟩, ⟨(some 17), none, .mov (T 192)⟩])))))) (.seq (.ops [⟨(some 237), none, .call (.func 24) []⟩, ⟨(some 8), none, .mov (T 237)⟩]) .ret))))))))))))))))
theorem fok15 : FnOk Try.prog 15 238 s15 [.tmp 8] := ⟨Try.f15, _, Try.func15, rfl, Try.ntmps15, by kernel_rfl, by kernel_rfl⟩
set_option maxHeartbeats 4000000 in
theorem later_c (hn : 200 ≤ n) (hr : h.next + 5000 < far) (hfl : h.floor ≤ h.next) {wv vv sv : Value} {S : MS} (hy : SteepR h wv vv sv S) (a1 : Int) (wf1 : (Lit.int .u8 a1).wf = true) (a2 : Int) (wf2 : (Lit.int .u8 a2).wf = true) (a3 : Int) (wf3 : (Lit.int .u16 a3).wf = true) :
    ∃ v h', call n (.func (.func 15) #[] #[]) [.agg ⟨stL S wv vv sv⟩, .int .u8 a1, .int .u8 a2, .int .u16 a3] h = some (v, h') ∧ v = .bool true := by
  obtain ⟨n, rfl⟩ : ∃ p, n = p + 1 := ⟨n - 1, by omega⟩
  obtain ⟨w1, rfl, hw1⟩ := wf8 wf1
  obtain ⟨w2, rfl, hw2⟩ := wf8 wf2
  obtain ⟨w3, rfl, hw3⟩ := wf16 wf3
  refine call_any0 fok15 rfl rfl (by simp) ?_
  simp only [s15, W_seq, W_ops]
  refine ops_box (cs := stL S wv vv sv) (by omega) rfl hy.one fun g1 hx1 => ?_
  have n1 := hx1.next
  have f1 := hx1.floor
  have hy1 := hy.mono hx1.sub
  have r1 := hx1.row
  have er := ready_c (n := n) (h := g1) (by omega) (by omega) hy1
  by_cases hTf : ThinS S ∧ faultS S = 0
  case neg =>
    simp only [rn0, rn1, rn2, rn3, rn4, rn5, rn6, rn7, rn8, if_true, if_false, Nat.le_refl, true_and, and_true, decide_true, decide_false, Bool.not_true, Bool.not_false, reduceIte, Nat.reduceEqDiff, Nat.reduceAdd, Nat.reduceMul, Nat.reduceSub, Nat.reduceLeDiff, Nat.reduceLT, r1.whole (n := 7) rfl, er, hTf, awake_c (n := n) (h := g1) (by omega)]
  have hdt : decide (ThinS S ∧ faultS S = 0) = true := decide_eq_true hTf
  obtain ⟨hT, hf⟩ := hTf
  rw [hdt] at er
  have hG := good_of hf
  by_cases hz : S.nv = 0
  · have hz' : (S.nv : Int) = 0 := by omega
    simp only [rn0, rn1, rn2, rn3, rn4, rn5, rn6, rn7, rn8, if_true, if_false, Nat.le_refl, true_and, and_true, decide_true, decide_false, Bool.not_true, Bool.not_false, reduceIte, Nat.reduceEqDiff, Nat.reduceAdd, Nat.reduceMul, Nat.reduceSub, Nat.reduceLeDiff, Nat.reduceLT, r1.whole (n := 7) rfl, er, r1.ld, stg, Nat.zero_add, Cells.len hy1.v, hz', awake_c (n := n) (h := g1) (by omega)]
  have hz' : ¬ (S.nv : Int) = 0 := by omega
  by_cases h3 : 3 < S.nv
  · have h3' : (3 : Int) < (S.nv : Int) := by omega
    simp only [rn0, rn1, rn2, rn3, rn4, rn5, rn6, rn7, rn8, if_true, if_false, Nat.le_refl, true_and, and_true, decide_true, decide_false, Bool.not_true, Bool.not_false, reduceIte, Nat.reduceEqDiff, Nat.reduceAdd, Nat.reduceMul, Nat.reduceSub, Nat.reduceLeDiff, Nat.reduceLT, r1.whole (n := 7) rfl, er, r1.ld, stg, Nat.zero_add, Cells.len hy1.v, hz', h3', awake_c (n := n) (h := g1) (by omega)]
  have h3' : ¬ (3 : Int) < (S.nv : Int) := by omega
  obtain ⟨mp1, mp2⟩ := many_pos hG
  obtain ⟨zl0, zl5, zw, zw6, zv4, _⟩ := hG.sizes
  obtain ⟨o, ho⟩ : ∃ o : Nat, o = w1 % S.nv := ⟨_, rfl⟩
  have hov : o < S.nv := by rw [ho]; exact Nat.mod_lt _ (by omega)
  have ho' : (w1 : Int).tmod (S.nv : Int) = (o : Int) := by rw [ho]; rfl
  have ow : oneCell wv = true := Cells.one hy.w
  have ov : oneCell vv = true := Cells.one hy.v
  have os : oneCell sv = true := Cells.one hy.s
  simp only [rn0, rn1, rn2, rn3, rn4, rn5, rn6, rn7, rn8, if_true, if_false, Nat.le_refl, true_and, and_true, decide_true, decide_false, Bool.not_true, Bool.not_false, reduceIte, Nat.reduceEqDiff, Nat.reduceAdd, Nat.reduceMul, Nat.reduceSub, Nat.reduceLeDiff, Nat.reduceLT, r1.whole (n := 7) rfl, er, r1.ld, stg, Nat.zero_add, Cells.len hy1.v, hz', h3', p_conv8, r_8 hw1, valN_tmp, valN_const, Nat.reduceLT, p_rem, r_rem hz', ho']
  refine step_new (vs := stL S wv vv sv) (by omega) (by omega) rfl (by simp only [rn0, rn1, rn2, rn3, rn4, rn5, rn6, rn7, rn8, if_true, if_false, Nat.le_refl, true_and, and_true, decide_true, decide_false, Bool.not_true, Bool.not_false, reduceIte, Nat.reduceEqDiff, Nat.reduceAdd, Nat.reduceMul, Nat.reduceSub, Nat.reduceLeDiff, Nat.reduceLT]; rfl) hy.one rfl rfl fun g2 hx2 => ?_
  have n2 := hx2.next
  have f2 := hx2.floor
  have hy2 := hy1.mono hx2.sub
  have r12 := r1.mono hx2.sub
  simp only [rn0, rn1, rn2, rn3, rn4, rn5, rn6, rn7, rn8, if_true, if_false, Nat.le_refl, true_and, and_true, decide_true, decide_false, Bool.not_true, Bool.not_false, reduceIte, Nat.reduceEqDiff, Nat.reduceAdd, Nat.reduceMul, Nat.reduceSub, Nat.reduceLeDiff, Nat.reduceLT, build_none4]
  refine step_slice (by omega) rfl fun g3 hx3 => ?_
  have n3 := hx3.next
  have f3 := hx3.floor
  have hy3 := hy2.mono hx3.sub
  have r13 := r12.mono hx3.sub
  obtain ⟨xv, kv, ev, lv⟩ := Cells.list (by omega) hy3.v
  have hap := append_none (h := g3) (s := 4) (bytes := 32) (b := g2.next) ⟨xv, kv, ev⟩ lv flatL_len (by simp [maxBytes]; omega) (by simp [maxBytes]; omega)
  rw [if_neg hz] at hap
  simp only [rn0, rn1, rn2, rn3, rn4, rn5, rn6, rn7, rn8, if_true, if_false, Nat.le_refl, true_and, and_true, decide_true, decide_false, Bool.not_true, Bool.not_false, reduceIte, Nat.reduceEqDiff, Nat.reduceAdd, Nat.reduceMul, Nat.reduceSub, Nat.reduceLeDiff, Nat.reduceLT, r13.ld, stg, Nat.zero_add, hap]
  refine step_slice (by omega) flatL_one fun g4 hx4 => ?_
  have n4 := hx4.next
  have f4 := hx4.floor
  have q4 : g4.get g1.next = some (.row (stL S wv vv sv) true 0) := by rw [hx4.old _ (by omega), hx3.old _ (by omega)]; exact hx2.get
  simp only [rn0, rn1, rn2, rn3, rn4, rn5, rn6, rn7, rn8, if_true, if_false, Nat.le_refl, true_and, and_true, decide_true, decide_false, Bool.not_true, Bool.not_false, reduceIte, Nat.reduceEqDiff, Nat.reduceAdd, Nat.reduceMul, Nat.reduceSub, Nat.reduceLeDiff, Nat.reduceLT]
  refine step_store (b := g1.next) (off := 6) (vs := [nilS]) rfl q4 (by omega) (by omega) rfl rfl rfl (by simp [stL]) fun g5 hs5 => ?_
  have n5 := hs5.next
  have f5 := hs5.floor
  have e5 : splice (stL S wv vv sv) 6 [nilS] = stL S wv vv nilS := rfl
  rw [e5] at hs5
  simp only [rn0, rn1, rn2, rn3, rn4, rn5, rn6, rn7, rn8, if_true, if_false, Nat.le_refl, true_and, and_true, decide_true, decide_false, Bool.not_true, Bool.not_false, reduceIte, Nat.reduceEqDiff, Nat.reduceAdd, Nat.reduceMul, Nat.reduceSub, Nat.reduceLeDiff, Nat.reduceLT]
  refine step_store (b := g1.next) (off := 5) (vs := [.slice (some ⟨g3.next, 0, none⟩) S.nv unk]) rfl hs5.get (by omega) (by omega) rfl rfl rfl (by simp [stL]) fun g6 hs6 => ?_
  have n6 := hs6.next
  have f6 := hs6.floor
  have e6 : splice (stL S wv vv nilS) 5 [.slice (some ⟨g3.next, 0, none⟩) S.nv unk] = stL S wv (.slice (some ⟨g3.next, 0, none⟩) S.nv unk) nilS := rfl
  rw [e6] at hs6
  have old16 : ∀ i, i < g1.next → g6.get i = g1.get i := fun i hi => by rw [hs6.old i (by omega), hs5.old i (by omega), hx4.old i (by omega), hx3.old i (by omega), hx2.old i hi]
  have sub16 : Sub All g1 g6 := AHeap.subOf old16
  have hy6 := hy1.mono sub16
  have r16 := r1.mono sub16
  have l6 : g6.get g3.next = some (.row (flatL 4 S.nv (vatC S)) true 4) := by rw [hs6.old _ (by omega), hs5.old _ (by omega)]; exact hx4.get
  simp only [rn0, rn1, rn2, rn3, rn4, rn5, rn6, rn7, rn8, if_true, if_false, Nat.le_refl, true_and, and_true, decide_true, decide_false, Bool.not_true, Bool.not_false, reduceIte, Nat.reduceEqDiff, Nat.reduceAdd, Nat.reduceMul, Nat.reduceSub, Nat.reduceLeDiff, Nat.reduceLT, r16.ld, stg, Nat.zero_add, Cells.idx hy6.v hov, vat_ld hy6 hov]
  refine step_new (vs := [.int .i64 (S.vb o), .int .i64 (S.vlo o), .int .i64 (S.vhi o), .int .i64 (S.vn o)]) (by omega) (by omega) rfl (by simp only [rn0, rn1, rn2, rn3, rn4, rn5, rn6, rn7, rn8, if_true, if_false, Nat.le_refl, true_and, and_true, decide_true, decide_false, Bool.not_true, Bool.not_false, reduceIte, Nat.reduceEqDiff, Nat.reduceAdd, Nat.reduceMul, Nat.reduceSub, Nat.reduceLeDiff, Nat.reduceLT]; rfl) rfl rfl rfl fun g7 hx7 => ?_
  have n7 := hx7.next
  have f7 := hx7.floor
  have r17 := r16.mono hx7.sub
  obtain ⟨⟨vb1, vb2⟩, ⟨vf1, vf2, vf3⟩, vn1, vn2⟩ := hG.args.vat o hov
  obtain ⟨d, hd⟩ : ∃ d : Nat, d = w2 % 4 := ⟨_, rfl⟩
  have hd' : (w2 : Int).tmod 4 = (d : Int) := by rw [hd]; rfl
  have hd4 : d < 4 := by rw [hd]; exact Nat.mod_lt _ (by omega)
  have z4 : ¬ (4 : Int) = 0 := by decide
  have wd : wrapF .i64 (S.vb o + (d : Int)) = S.vb o + (d : Int) := wrap_in (by omega) (by omega)
  obtain ⟨b, hb⟩ : ∃ b : Int, b = min S.last (S.vb o + (d : Int)) := ⟨_, rfl⟩
  have hb1 : S.vb o ≤ b ∧ b ≤ S.last := by omega
  simp only [rn0, rn1, rn2, rn3, rn4, rn5, rn6, rn7, rn8, if_true, if_false, Nat.le_refl, true_and, and_true, decide_true, decide_false, Bool.not_true, Bool.not_false, reduceIte, Nat.reduceEqDiff, Nat.reduceAdd, Nat.reduceMul, Nat.reduceSub, Nat.reduceLeDiff, Nat.reduceLT, r17.ld, stg, hx7.row.ld, Nat.zero_add, List.getElem?_cons_zero, List.getElem?_cons_succ, p_conv8, r_8 hw2, valN_tmp, valN_const, Nat.reduceLT, p_rem, r_rem z4, hd', wd, p_min, r_min, ← hb]
  refine step_store (b := g6.next) (off := 0) (vs := [.int .i64 b]) rfl hx7.get (by omega) (by omega) rfl rfl rfl (by simp) fun g8 hs8 => ?_
  have n8 := hs8.next
  have f8 := hs8.floor
  have e8 : splice [.int .i64 (S.vb o), .int .i64 (S.vlo o), .int .i64 (S.vhi o), .int .i64 (S.vn o)] 0 [.int .i64 b] = [.int .i64 b, .int .i64 (S.vlo o), .int .i64 (S.vhi o), .int .i64 (S.vn o)] := rfl
  rw [e8] at hs8
  have old8 : ∀ i, i < g6.next → g8.get i = g6.get i := fun i hi => by rw [hs8.old i (by omega), hx7.old i hi]
  have sub18 : Sub All g1 g8 := sub16.trans (AHeap.subOf old8)
  have hy8 := hy1.mono sub18
  have r18 := r1.mono sub18
  have em := many_c (n := n) (h := g8) (by omega) (by omega) hy8 hG.args (by omega)
  have z1 : ¬ manyS S = 0 := by omega
  obtain ⟨k3, hk3⟩ : ∃ k : Nat, (w3 : Int).tmod (manyS S) = (k : Int) := ⟨((w3 : Int).tmod (manyS S)).toNat, by have := Int.tmod_nonneg (manyS S) (a := (w3 : Int)) (by omega); omega⟩
  have hk3' : k3 ≤ 100000 := by have := Int.tmod_lt_of_pos (w3 : Int) (b := manyS S) (by omega); omega
  obtain ⟨tw, tf, g9, e9, ht9, o9, u9, m9, f9, bw9, bf9, gw9, sep9⟩ := nthG_c (n := n) (h := g8) (by omega) (by omega) (by omega) hy8 hG hk3'
  have hu := nthU_in (S := S) (m := k3) hG
  simp only [rn0, rn1, rn2, rn3, rn4, rn5, rn6, rn7, rn8, if_true, if_false, Nat.le_refl, true_and, and_true, decide_true, decide_false, Bool.not_true, Bool.not_false, reduceIte, Nat.reduceEqDiff, Nat.reduceAdd, Nat.reduceMul, Nat.reduceSub, Nat.reduceLeDiff, Nat.reduceLT]
  refine W_draw All ?_
  simp only [rn0, rn1, rn2, rn3, rn4, rn5, rn6, rn7, rn8, if_true, if_false, Nat.le_refl, true_and, and_true, decide_true, decide_false, Bool.not_true, Bool.not_false, reduceIte, Nat.reduceEqDiff, Nat.reduceAdd, Nat.reduceMul, Nat.reduceSub, Nat.reduceLeDiff, Nat.reduceLT, r18.whole (n := 7) rfl, hy8.self, p_conv16, r_16 hw3, valN_tmp, valN_const, Nat.reduceLT, em, r_rem z1, p_rem, hk3, e9]
  refine ⟨by omega, ?_⟩
  refine up_row (cs := [nilS, .int .i64 0, nilS]) (by omega) rfl rfl (fun _ _ => trivial) fun g10 hx10 => ?_
  have n10 := hx10.next
  have f10 := hx10.floor
  simp only [rn0, rn1, rn2, rn3, rn4, rn5, rn6, rn7, rn8, if_true, if_false, Nat.le_refl, true_and, and_true, decide_true, decide_false, Bool.not_true, Bool.not_false, reduceIte, Nat.reduceEqDiff, Nat.reduceAdd, Nat.reduceMul, Nat.reduceSub, Nat.reduceLeDiff, Nat.reduceLT]
  refine up_store (b := g9.next) (off := 0) (vs := trL tw tf (nthU S k3 S.nw)) rfl hx10.get (by omega) (by omega) rfl ht9.one rfl (by simp) (fun _ _ => trivial) fun g11 hs11 => ?_
  rw [splice_all (by rfl)] at hs11
  have n11 := hs11.next
  have f11 := hs11.floor
  have old11 : ∀ i, i < g9.next → g11.get i = g9.get i := fun i hi => by rw [hs11.old i (by omega), hx10.old i hi]
  have sub11 : Sub All g9 g11 := AHeap.subOf old11
  have ht11 := ht9.mono sub11
  have gw11 : GrowC g8.next g11 tf 1 S.nv (fun i _ => .int .i64 (nthU S k3 (S.nw + 1 + i))) := GrowC.at' gw9 fun a k cap e => old11 _ (gw9.block e).2
  have hf2 := hu.full hG hov
  generalize nthU S k3 = u at *
  obtain ⟨f, hfu⟩ : ∃ f : Int, f = u (S.nw + 1 + o) := ⟨_, rfl⟩
  have x11 : g11.get g6.next = some (.row [.int .i64 b, .int .i64 (S.vlo o), .int .i64 (S.vhi o), .int .i64 (S.vn o)] true 0) := by rw [old11 _ (by omega), o9 _ (by omega)]; exact hs8.get
  have rT : Row g11 g9.next (trL tw tf (u S.nw)) := ⟨true, 0, hs11.get⟩
  simp only [rn0, rn1, rn2, rn3, rn4, rn5, rn6, rn7, rn8, if_true, if_false, Nat.le_refl, true_and, and_true, decide_true, decide_false, Bool.not_true, Bool.not_false, reduceIte, Nat.reduceEqDiff, Nat.reduceAdd, Nat.reduceMul, Nat.reduceSub, Nat.reduceLeDiff, Nat.reduceLT]
  refine W_draw All ?_
  simp only [rn0, rn1, rn2, rn3, rn4, rn5, rn6, rn7, rn8, if_true, if_false, Nat.le_refl, true_and, and_true, decide_true, decide_false, Bool.not_true, Bool.not_false, reduceIte, Nat.reduceEqDiff, Nat.reduceAdd, Nat.reduceMul, Nat.reduceSub, Nat.reduceLeDiff, Nat.reduceLT, rT.ld, trg, Nat.zero_add, Cells.idx ht11.f hov, Cells.ld ht11.f hov Nat.zero_lt_one, build_range, ← hfu]
  refine up_store (b := g6.next) (off := 1) (vs := [.int .i64 f, .int .i64 f]) rfl x11 (by omega) (by omega) rfl rfl rfl (by simp) (fun _ _ => trivial) fun g12 hs12 => ?_
  have n12 := hs12.next
  have f12 := hs12.floor
  have e12 : splice [.int .i64 b, .int .i64 (S.vlo o), .int .i64 (S.vhi o), .int .i64 (S.vn o)] 1 [.int .i64 f, .int .i64 f] = [.int .i64 b, .int .i64 f, .int .i64 f, .int .i64 (S.vn o)] := rfl
  rw [e12] at hs12
  have p12 : g12.get g1.next = some (.row (stL S wv (.slice (some ⟨g3.next, 0, none⟩) S.nv unk) nilS) true 0) := by rw [hs12.old _ (by omega), old11 _ (by omega), o9 _ (by omega), old8 _ (by omega)]; exact hs6.get
  have l12 : g12.get g3.next = some (.row (flatL 4 S.nv (vatC S)) true 4) := by rw [hs12.old _ (by omega), old11 _ (by omega), o9 _ (by omega), old8 _ (by omega)]; exact l6
  have rP12 : Row g12 g1.next _ := ⟨_, _, p12⟩
  have rV12 : Row g12 g6.next _ := ⟨_, _, hs12.get⟩
  have gv12 : GrowC g3.next g12 (.slice (some ⟨g3.next, 0, none⟩) S.nv unk) 4 S.nv (vatC (laterS S o b f)) :=
    ⟨_, .inr ⟨_, rfl, l12, flatL_len, by omega⟩, flatL_one, fun k j hk hj => by
      rw [flatL_get (c := vatC S) hk hj]
      have : ¬ k = S.nv := by omega
      simp only [vatC, laterS, this, if_false]⟩
  simp only [rn0, rn1, rn2, rn3, rn4, rn5, rn6, rn7, rn8, if_true, if_false, Nat.le_refl, true_and, and_true, decide_true, decide_false, Bool.not_true, Bool.not_false, reduceIte, Nat.reduceEqDiff, Nat.reduceAdd, Nat.reduceMul, Nat.reduceSub, Nat.reduceLeDiff, Nat.reduceLT, rP12.ld, stg, Nat.zero_add, rV12.whole (n := 4) rfl, sl_va]
  refine step_slice (by omega) rfl fun g13 hx13 => ?_
  have n13 := hx13.next
  have f13 := hx13.floor
  obtain ⟨g14, e14, gv14, n14, f14, old14, u14⟩ := grow_push3 (h := g12) (bytes := 32) gv12 (by omega) (by omega) (by omega) hx13 rfl rfl (fun j hj => by
    rw [vatC_row hj]
    have : S.nv = S.nv := rfl
    simp only [vatC, laterS, if_true]) (by simp [maxBytes]; omega) (by simp [maxBytes]; omega)
  simp only [rn0, rn1, rn2, rn3, rn4, rn5, rn6, rn7, rn8, if_true, if_false, Nat.le_refl, true_and, and_true, decide_true, decide_false, Bool.not_true, Bool.not_false, reduceIte, Nat.reduceEqDiff, Nat.reduceAdd, Nat.reduceMul, Nat.reduceSub, Nat.reduceLeDiff, Nat.reduceLT, e14]
  have ne1 : NeB (.slice (some ⟨g3.next, 0, none⟩) S.nv unk) g1.next := fun a k c e => by cases e; show g1.next ≠ g3.next; omega
  have oldv : ∀ i, i < g12.next → i ≠ g3.next → g14.get i = g12.get i := fun i hi hne => old14 i hi fun a k c e => by cases e; exact hne
  have p14 : g14.get g1.next = some (.row (stL S wv (.slice (some ⟨g3.next, 0, none⟩) S.nv unk) nilS) true 0) := by rw [oldv _ (by omega) (by omega)]; exact p12
  refine step_store (b := g1.next) (off := 5) (vs := [.slice (some ⟨g12.next + 1, 0, none⟩) (S.nv + 1) unk]) rfl p14 (by omega) (by omega) rfl rfl rfl (by simp [stL]) fun g15 hs15 => ?_
  have n15 := hs15.next
  have f15 := hs15.floor
  have e15 : splice (stL S wv (.slice (some ⟨g3.next, 0, none⟩) S.nv unk) nilS) 5 [.slice (some ⟨g12.next + 1, 0, none⟩) (S.nv + 1) unk] = stL (laterS S o b f) wv (.slice (some ⟨g12.next + 1, 0, none⟩) (S.nv + 1) unk) nilS := rfl
  rw [e15] at hs15
  have mid15 : ∀ i, g8.next ≤ i → i < g11.next → g15.get i = g11.get i := fun i h1 h2 => by rw [hs15.old _ (by omega), oldv _ (by omega) (by omega), hs12.old _ (by omega)]
  have low15 : ∀ i, i < g1.next → g15.get i = g1.get i := fun i hi => by rw [hs15.old _ (by omega), oldv _ (by omega) (by omega), hs12.old _ (by omega), old11 _ (by omega), o9 _ (by omega), old8 _ (by omega), old16 i hi]
  have ht15 : TruR g15 tw tf S u := ⟨cells_at ht9.w fun a k c e hlt => by rw [mid15 _ (bw9 a k c e) (by omega), old11 _ hlt], cells_at ht9.f fun a k c e hlt => by rw [mid15 _ (bf9 a k c e) (by omega), old11 _ hlt]⟩
  have gw15 : GrowC g8.next g15 tf 1 S.nv (fun i _ => .int .i64 (laterU S o u (S.nw + 1 + i))) := growC_congr (GrowC.at' gw9 fun a k c e => by rw [mid15 _ (bf9 a k c e) (by have := (gw9.block e).2; omega), old11 _ (gw9.block e).2]) fun k j hk hj => by
    simp only [laterU_old (S := S) (o := o) (u := u) (i := S.nw + 1 + k) (by unfold numU; omega)]
  have t15 : g15.get g9.next = some (.row (trL tw tf (u S.nw)) true 0) := by rw [mid15 _ (by omega) (by omega)]; exact hs11.get
  have rT15 : Row g15 g9.next _ := ⟨_, _, t15⟩
  have neT : NeB tf g9.next := neB_of gw9 (by right; omega)
  simp only [rn0, rn1, rn2, rn3, rn4, rn5, rn6, rn7, rn8, if_true, if_false, Nat.le_refl, true_and, and_true, decide_true, decide_false, Bool.not_true, Bool.not_false, reduceIte, Nat.reduceEqDiff, Nat.reduceAdd, Nat.reduceMul, Nat.reduceSub, Nat.reduceLeDiff, Nat.reduceLT]
  refine W_draw All ?_
  simp only [rn0, rn1, rn2, rn3, rn4, rn5, rn6, rn7, rn8, if_true, if_false, Nat.le_refl, true_and, and_true, decide_true, decide_false, Bool.not_true, Bool.not_false, reduceIte, Nat.reduceEqDiff, Nat.reduceAdd, Nat.reduceMul, Nat.reduceSub, Nat.reduceLeDiff, Nat.reduceLT, rT15.ld, trg, Nat.zero_add, Cells.self ht15.f, Cells.idx ht15.f hov, Cells.ld ht15.f hov Nat.zero_lt_one, ← hfu, sl_int]
  refine up_slice (by omega) rfl (fun g hx => hx.sub) fun g16 hx16 => ?_
  have n16 := hx16.next
  have f16 := hx16.floor
  obtain ⟨g17, e17, gw17, n17, f17, old17, u17⟩ := grow_push3 (h := g15) (bytes := 8) gw15 (by omega) (by omega) (by omega) hx16 rfl rfl (fun j hj => by
    obtain rfl : j = 0 := by omega
    show some _ = some _
    rw [laterU_new, hfu]) (by simp [maxBytes]; omega) (by simp [maxBytes]; omega)
  simp only [rn0, rn1, rn2, rn3, rn4, rn5, rn6, rn7, rn8, if_true, if_false, Nat.le_refl, true_and, and_true, decide_true, decide_false, Bool.not_true, Bool.not_false, reduceIte, Nat.reduceEqDiff, Nat.reduceAdd, Nat.reduceMul, Nat.reduceSub, Nat.reduceLeDiff, Nat.reduceLT, e17]
  refine ⟨by omega, ?_⟩
  refine up_store (b := g9.next) (off := 2) (vs := [.slice (some ⟨g15.next + 1, 0, none⟩) (S.nv + 1) unk]) rfl (by rw [old17 _ (by omega) neT]; exact t15) (by omega) (by omega) rfl rfl rfl (by simp [trL]) (fun _ _ => trivial) fun g18 hs18 => ?_
  have n18 := hs18.next
  have f18 := hs18.floor
  have e18 : splice (trL tw tf (u S.nw)) 2 [.slice (some ⟨g15.next + 1, 0, none⟩) (S.nv + 1) unk] = trL tw (.slice (some ⟨g15.next + 1, 0, none⟩) (S.nv + 1) unk) (u S.nw) := rfl
  rw [e18] at hs18
  have bf9' : ∀ i, i < g8.next ∨ g9.next ≤ i → NeB tf i := fun i hi => neB_of gw9 hi
  have low18 : ∀ i, i < g8.next ∨ (g9.next < i ∧ i < g15.next) → g18.get i = g15.get i := fun i hi => by rw [hs18.old _ (by omega), old17 _ (by omega) (bf9' i (by omega))]
  have sub1 : Sub All g1 g18 := AHeap.subOf fun i hi => by rw [low18 i (by omega), low15 i hi]
  have hy18 := hy1.mono sub1
  have r18' := r1.mono sub1
  have p18 : Row g18 g1.next (stL (laterS S o b f) wv (.slice (some ⟨g12.next + 1, 0, none⟩) (S.nv + 1) unk) nilS) := ⟨true, 0, by rw [low18 _ (by omega)]; exact hs15.get⟩
  have v18 : Row g18 g6.next [.int .i64 b, .int .i64 f, .int .i64 f, .int .i64 (S.vn o)] := ⟨true, 0, by rw [low18 _ (by omega), hs15.old _ (by omega), oldv _ (by omega) (by omega)]; exact hs12.get⟩
  have t18 : Row g18 g9.next (trL tw (.slice (some ⟨g15.next + 1, 0, none⟩) (S.nv + 1) unk) (u S.nw)) := ⟨true, 0, hs18.get⟩
  have hS18 : SteepR g18 wv (.slice (some ⟨g12.next + 1, 0, none⟩) (S.nv + 1) unk) nilS (laterS S o b f) := by
    refine ⟨hy18.w, ?_, ⟨none, 0, rfl, fun x e => (by cases e), .inl rfl⟩⟩
    exact cells_at gv14.cells fun a k c e hlt => by
      cases e
      show g18.get (g12.next + 1) = g14.get (g12.next + 1)
      rw [low18 _ (by omega), hs15.old _ (by omega)]
  have hT18 : TruR g18 tw (.slice (some ⟨g15.next + 1, 0, none⟩) (S.nv + 1) unk) (laterS S o b f) (laterU S o u) := by
    refine ⟨?_, ?_⟩
    · refine cells_congr (cells_at (g := g18) ht9.w fun a k c e hlt => ?_) fun i j hi hj => ?_
      · have b1 := bw9 a k c e
        rw [hs18.old _ (by omega), old17 _ (by omega) fun y k' c' e' => by have := sep9 a k c y k' c' e e'; omega, mid15 _ b1 (by omega), old11 _ hlt]
      · have hi : i < S.nw := hi
        simp only [laterU_old (S := S) (o := o) (u := u) (i := i) (by unfold numU; omega)]
    · refine cells_at gw17.cells fun a k c e hlt => ?_
      cases e
      exact hs18.old _ (by show g15.next + 1 ≠ g9.next; omega)
  have hfb : 0 ≤ f ∧ f ≤ 99 := by rw [hfu]; exact hf2
  have hG' : Good (laterS S o b f) := later_good hG hov (by omega) (by omega) hfb
  have hT' : ThinS (laterS S o b f) := ⟨by show S.nw ≤ 30; omega, by show S.nv + 1 ≤ 30; omega, Nat.zero_le _⟩
  have hu' : InU (laterS S o b f) (laterU S o u) := by rw [hfu]; exact later_in hu hov
  have hsp : laterU S o u S.nw = u S.nw := laterU_old (by unfold numU; omega)
  have ufo : laterU S o u (S.nw + 1 + S.nv) = laterU S o u (S.nw + 1 + o) := by rw [laterU_new, laterU_old (by unfold numU; omega)]
  obtain ⟨w19, v19, s19, g19, e19, hy19, o19, u19, m19, f19⟩ := steepL_c (n := n) (h := g18) (by omega) (by omega) (by omega) hS18 hT'
  have sub19 : Sub All g18 g19 := AHeap.subOf o19
  obtain ⟨tw20, tf20, g20, e20, ht20, o20, u20, m20, f20⟩ := truthL_c (n := n) (h := g19) (by omega) (by omega) (by omega) (hT18.mono sub19) ⟨by show S.nw ≤ 30; omega, by show S.nv + 1 ≤ 30; omega⟩ (sp := u S.nw)
  have sub20 : Sub All g19 g20 := AHeap.subOf o20
  have hpl := play_u (n := n) (h := g20) (by omega) (by omega) (by omega) (hy19.mono sub20) hT' hG' ht20 hu'
  rw [show (laterS S o b f).nw = S.nw from rfl, hsp] at hpl
  obtain ⟨oo, qq, g21, e21, ro, rq, o21, u21, m21, f21⟩ := hpl
  have sub21 : Sub All g20 g21 := AHeap.subOf o21
  have sub18 : Sub All g18 g21 := sub19.trans (sub20.trans sub21)
  have hy21 := hy18.mono sub18
  have r21 := r18'.mono sub18
  have v21 := v18.mono sub18
  obtain ⟨ra, co, io⟩ := ro
  obtain ⟨rb, cq, iq⟩ := rq
  have co : Cells g21 oo 1 (S.nv + 1) (fun k _ => ra k) := co
  have cq : Cells g21 qq 1 (S.nv + 1) (fun k _ => rb k) := cq
  have hon : o < S.nv + 1 := by omega
  have hnn : S.nv < S.nv + 1 := by omega
  have ian := io S.nv hnn
  have iao := io o hon
  have ibn := iq S.nv hnn
  have ibo := iq o hon
  have vbn : (laterS S o b f).vb S.nv = b := if_pos rfl
  have vbo : (laterS S o b f).vb o = S.vb o := if_neg (by omega)
  obtain ⟨mn1, mn2, mn3⟩ := hoursN_ok hG' (v := S.nv) hnn
  obtain ⟨mo1, mo2, mo3⟩ := hoursN_ok hG' (v := o) hon
  rw [vbn] at mn1
  rw [vbo] at mo1
  have el : (laterS S o b f).last = S.last := rfl
  rw [el] at mn1 mo1
  generalize hNn : hoursN (laterS S o b f) S.nv = Nn at *
  generalize hNo : hoursN (laterS S o b f) o = No at *
  have ws1 : wrapF .i64 (S.last - b) = S.last - b := wrap_in (by omega) (by omega)
  have ws2 : wrapF .i64 (S.last - b + 1) = (Nn : Int) := by rw [wrap_in (by omega) (by omega), mn1]
  have ws3 : wrapF .i64 (S.last - S.vb o) = S.last - S.vb o := wrap_in (by omega) (by omega)
  have ws4 : wrapF .i64 (S.last - S.vb o + 1) = (No : Int) := by rw [wrap_in (by omega) (by omega), mo1]
  have wnv : wrapF .i64 ((S.nv : Int) + 1) = ((S.nv + 1 : Nat) : Int) := by rw [wrap_in (by omega) (by omega)]; rfl
  simp only [rn0, rn1, rn2, rn3, rn4, rn5, rn6, rn7, rn8, if_true, if_false, Nat.le_refl, true_and, and_true, decide_true, decide_false, Bool.not_true, Bool.not_false, reduceIte, Nat.reduceEqDiff, Nat.reduceAdd, Nat.reduceMul, Nat.reduceSub, Nat.reduceLeDiff, Nat.reduceLT]
  refine W_draw All ?_
  simp only [rn0, rn1, rn2, rn3, rn4, rn5, rn6, rn7, rn8, if_true, if_false, Nat.le_refl, true_and, and_true, decide_true, decide_false, Bool.not_true, Bool.not_false, reduceIte, Nat.reduceEqDiff, Nat.reduceAdd, Nat.reduceMul, Nat.reduceSub, Nat.reduceLeDiff, Nat.reduceLT, p18.whole (n := 7) rfl, t18.whole (n := 3) rfl, hT18.self, e19, e20, e21, x_extract, ex30, ex31, ex32]
  refine ⟨⟨by omega, sub19⟩, by omega, by omega, ?_⟩
  simp only [rn0, rn1, rn2, rn3, rn4, rn5, rn6, rn7, rn8, if_true, if_false, Nat.le_refl, true_and, and_true, decide_true, decide_false, Bool.not_true, Bool.not_false, reduceIte, Nat.reduceEqDiff, Nat.reduceAdd, Nat.reduceMul, Nat.reduceSub, Nat.reduceLeDiff, Nat.reduceLT, r21.ld, stg, Nat.zero_add, Cells.len hy21.v]
  refine W_draw All ?_
  simp only [rn0, rn1, rn2, rn3, rn4, rn5, rn6, rn7, rn8, if_true, if_false, Nat.le_refl, true_and, and_true, decide_true, decide_false, Bool.not_true, Bool.not_false, reduceIte, Nat.reduceEqDiff, Nat.reduceAdd, Nat.reduceMul, Nat.reduceSub, Nat.reduceLeDiff, Nat.reduceLT, Cells.len co, Cells.len cq, wnv, Cells.idx co hnn, Cells.ld co hnn Nat.zero_lt_one, Cells.idx co hon, Cells.ld co hon Nat.zero_lt_one, Cells.idx cq hnn, Cells.ld cq hnn Nat.zero_lt_one, Cells.idx cq hon, Cells.ld cq hon Nat.zero_lt_one, Cells.len ian, Cells.len iao, Cells.len ibn, Cells.len ibo, r21.ld, v21.ld, stg, Nat.zero_add, List.getElem?_cons_zero, Cells.idx hy21.v hov, Cells.fld hy21.v hov, begin_ld hy21 hov, ws1, ws2, ws3, ws4, d_guard, dg_tt, dg_tf, dg_ft, dg_ff]
  obtain ⟨e, he⟩ : ∃ e : Nat, (e : Int) = b - S.vb o := ⟨(b - S.vb o).toNat, by omega⟩
  refine W_loop Nn (fun j f' g ms => g = g21 ∧ ms = [] ∧ f' 4 = .pointer (some ⟨h.next, 0, none⟩) ∧ f' 9 = .int .i64 (o : Int) ∧ f' 11 = .pointer (some ⟨g6.next, 0, none⟩) ∧ f' 13 = oo ∧ f' 14 = qq ∧ f' 16 = .int .i64 (S.nv : Int) ∧ f' 17 = .int .i64 (b + (j : Int))) (by simp; omega) ?_ ?_ ?_
  · simp only [rn0, rn1, rn2, rn3, rn4, rn5, rn6, rn7, rn8, if_true, if_false, Nat.le_refl, true_and, and_true, decide_true, decide_false, Bool.not_true, Bool.not_false, reduceIte, Nat.reduceEqDiff, Nat.reduceAdd, Nat.reduceMul, Nat.reduceSub, Nat.reduceLeDiff, Nat.reduceLT, Int.natCast_zero, Int.add_zero]
    first | done | exact ⟨rfl, rfl⟩ | trivial
  · rintro j f' g ms hj ⟨rfl, rfl, p4, p9, p11, p13, p14, p16, p17⟩
    have hle : b + (j : Int) ≤ S.last := by omega
    have hwj : wrapF .i64 (b + (j : Int) + 1) = b + ((j + 1 : Nat) : Int) := by rw [wrap_in (by omega) (by omega)]; omega
    have hw1 : wrapF .i64 (b + (j : Int) - b) = (j : Int) := by rw [wrap_in (by omega) (by omega)]; omega
    have hw2 : wrapF .i64 (b + (j : Int) - S.vb o) = ((e + j : Nat) : Int) := by rw [wrap_in (by omega) (by omega)]; omega
    have hej : e + j < No := by omega
    obtain ⟨c1, c2⟩ := later_le (S' := laterS S o b f) (u := laterU S o u) (v := S.nv) (o := o) (t := b + (j : Int)) hG' hu' ⟨hnn, by rw [vbn]; omega, hle⟩ ⟨hon, by rw [vbo]; omega, hle⟩ (by rw [vbn, vbo]; omega) ufo (by
      have e1 : (laterS S o b f).vn S.nv = S.vn o := if_pos rfl
      have e2 : (laterS S o b f).vn o = S.vn o := if_neg (by omega)
      rw [e1, e2])
    have e1 : (laterS S o b f).vb S.nv + (j : Int) = b + (j : Int) := by rw [vbn]
    have e2 : (laterS S o b f).vb o + ((e + j : Nat) : Int) = b + (j : Int) := by rw [vbo]; omega
    have b1 : ¬ blueS (laterS S o b f) (laterU S o u) o ((laterS S o b f).vb o + ((e + j : Nat) : Int)) < blueS (laterS S o b f) (laterU S o u) S.nv ((laterS S o b f).vb S.nv + (j : Int)) := by rw [e1, e2]; omega
    have b2 : ¬ kindS (laterS S o b f) (laterU S o u) o ((laterS S o b f).vb o + ((e + j : Nat) : Int)) < kindS (laterS S o b f) (laterU S o u) S.nv ((laterS S o b f).vb S.nv + (j : Int)) := by rw [e1, e2]; omega
    clear e1 e2 c1 c2
    simp only [rn0, rn1, rn2, rn3, rn4, rn5, rn6, rn7, rn8, if_true, if_false, Nat.le_refl, true_and, and_true, decide_true, decide_false, Bool.not_true, Bool.not_false, reduceIte, Nat.reduceEqDiff, Nat.reduceAdd, Nat.reduceMul, Nat.reduceSub, Nat.reduceLeDiff, Nat.reduceLT, p4, p9, p11, p13, p14, p16, p17, r21.ld, stg, Nat.zero_add, hle]
    refine W_draw All ?_
    simp only [rn0, rn1, rn2, rn3, rn4, rn5, rn6, rn7, rn8, if_true, if_false, Nat.le_refl, true_and, and_true, decide_true, decide_false, Bool.not_true, Bool.not_false, reduceIte, Nat.reduceEqDiff, Nat.reduceAdd, Nat.reduceMul, Nat.reduceSub, Nat.reduceLeDiff, Nat.reduceLT, p4, p9, p11, p13, p14, p16, p17, r21.ld, v21.ld, stg, Nat.zero_add, List.getElem?_cons_zero, Cells.idx hy21.v hov, Cells.fld hy21.v hov, begin_ld hy21 hov, hw1, hw2]
    refine W_draw All ?_
    simp only [rn0, rn1, rn2, rn3, rn4, rn5, rn6, rn7, rn8, if_true, if_false, Nat.le_refl, true_and, and_true, decide_true, decide_false, Bool.not_true, Bool.not_false, reduceIte, Nat.reduceEqDiff, Nat.reduceAdd, Nat.reduceMul, Nat.reduceSub, Nat.reduceLeDiff, Nat.reduceLT, p4, p9, p11, p13, p14, p16, p17, Cells.idx co hnn, Cells.ld co hnn Nat.zero_lt_one, Cells.idx co hon, Cells.ld co hon Nat.zero_lt_one, Cells.idx cq hnn, Cells.ld cq hnn Nat.zero_lt_one, Cells.idx cq hon, Cells.ld cq hon Nat.zero_lt_one, Cells.idx ian hj, Cells.ld ian hj Nat.zero_lt_one, Cells.idx iao hej, Cells.ld iao hej Nat.zero_lt_one, Cells.idx ibn hj, Cells.ld ibn hj Nat.zero_lt_one, Cells.idx ibo hej, Cells.ld ibo hej Nat.zero_lt_one, b1, b2, hwj, d_guard, dg_tt, dg_tf, dg_ft, dg_ff]
  · rintro f' g ms ⟨rfl, rfl, p4, p9, p11, p13, p14, p16, p17⟩
    have hle : ¬ b + (Nn : Int) ≤ S.last := by omega
    simp only [rn0, rn1, rn2, rn3, rn4, rn5, rn6, rn7, rn8, if_true, if_false, Nat.le_refl, true_and, and_true, decide_true, decide_false, Bool.not_true, Bool.not_false, reduceIte, Nat.reduceEqDiff, Nat.reduceAdd, Nat.reduceMul, Nat.reduceSub, Nat.reduceLeDiff, Nat.reduceLT, p4, p9, p11, p13, p14, p16, p17, r21.ld, stg, Nat.zero_add, hle, awake_c (n := n) (h := g) (by omega)]
end Go.Vm.St
