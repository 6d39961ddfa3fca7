/- Texts of the proofs of this seat, put together: VmMapK3, VmMax3, VmSets, VmSetR, VmLib2, BtBase. -/
import Derived.Test.YtjihegbffhhcaaaPk5

namespace Go.Vm
set_option linter.unusedSimpArgs false
set_option linter.unusedVariables false
variable {P : Program} {t : TypeId}
structure Three (P : Program) (t : TypeId) : Prop where
  ex : ∃ f0 f1 f2 : Field, P.underlying t = some (.struct #[f0, f1, f2]) ∧ f0.name ≠ "_" ∧ f1.name ≠ "_" ∧ f2.name ≠ "_" ∧ f0.offset = 0 ∧ f1.offset = 1 ∧ f2.offset = 2 ∧ P.underlying f0.type = some (.int .i64) ∧ P.underlying f1.type = some (.int .i64) ∧ P.underlying f2.type = some (.int .i64)
  held : P.stoodInHeld t = false
end Go.Vm

namespace Go.Vm
variable {P : Program} {N : Nat} {f : Fr} {h : AHeap} {ty t u : TypeId} {x y z : Operand}
end Go.Vm

namespace Go.Vm
open Go.Vm.Vat
set_option linter.unusedSimpArgs false
set_option linter.unusedVariables false
def combs (N : Nat) : Nat → Nat → List (List Int)
  | 0, _ => [[]]
  | d + 1, a => (List.range (N - a)).flatMap fun (k : Nat) => (combs N d (a + k + 1)).map fun l => ((a + k : Nat) : Int) :: l
open Classical in
noncomputable def leaveN (N : Nat) (P : List Int → Prop) : Nat → Option (List Int)
  | 0 => none
  | m + 1 => match leaveN N P m with
    | some l => some l
    | none => (combs N m 0).find? fun l => decide (P l)
section
variable {N : Nat} {P : List Int → Prop}
end
end Go.Vm

namespace Go.Vm
open Go.Vm.Vat
set_option linter.unusedSimpArgs false
set_option linter.unusedVariables false
variable {h g : AHeap}
def NoB (v : Value) (i : Nat) : Prop := ∀ b m c, v = .slice (some b) m c → i ≠ b.block
def SetR (B : Nat) (g : AHeap) (v : Value) (cur : List Int) : Prop :=
  (v = .slice none 0 0 ∧ cur = []) ∨ ∃ b cs, v = .slice (some ⟨b, 0, none⟩) cur.length unk ∧ g.get b = some (.row cs true 1) ∧ cur.length ≤ cs.length ∧ (∀ i, i < cur.length → cs[i]? = some (.int .i64 (atL cur i))) ∧ allB oneCell cs = true ∧ B ≤ b
theorem SetR.old {B : Nat} {v : Value} {cur : List Int} (hs : SetR B h v cur) (ho : ∀ a k c, v = .slice (some a) k c → a.block < h.next → g.get a.block = h.get a.block) : SetR B g v cur := by
  rcases hs with q | ⟨b, cs, rfl, h1, h2, h3, h4, h5⟩
  · exact .inl q
  · exact .inr ⟨b, cs, rfl, by rw [ho _ _ _ rfl (AHeap.lt_of_get h1)]; exact h1, h2, h3, h4, h5⟩
theorem SetR.ints {B : Nat} {v : Value} {cur : List Int} (hs : SetR B h v cur) : Ints h v cur.length (atL cur) := by
  rcases hs with ⟨rfl, rfl⟩ | ⟨b, cs, rfl, h1, h2, h3, h4, h5⟩
  · exact ⟨none, 0, rfl, fun x e => (by cases e), .inl rfl⟩
  · exact ⟨_, _, rfl, fun x e => (by cases e; rfl), .inr ⟨b, 0, cs, true, 1, rfl, h1, fun k j hk hj => by
      obtain rfl : j = 0 := by omega
      rw [Nat.zero_add, Nat.mul_one, Nat.add_zero]
      exact h3 k hk⟩⟩
theorem SetR.one {B : Nat} {v : Value} {cur : List Int} (hs : SetR B h v cur) : oneCell v = true := by
  rcases hs with ⟨rfl, rfl⟩ | ⟨b, cs, rfl, _⟩ <;> rfl
theorem SetR.block {B : Nat} {v : Value} {cur : List Int} (hs : SetR B h v cur) {a : Addr} {k c : Nat} (e : v = .slice (some a) k c) : B ≤ a.block ∧ a.block < h.next := by
  rcases hs with ⟨rfl, rfl⟩ | ⟨b, cs, rfl, h1, h2, h3, h4, h5⟩
  · cases e
  · cases e; exact ⟨h5, AHeap.lt_of_get h1⟩
theorem SetR.push {B : Nat} {v : Value} {cur : List Int} {x : Int} {g1 : AHeap} (hs : SetR B h v cur) (hB : h.floor ≤ B) (hf : h.next + 2 < far) (hBn : B ≤ h.next) (hx : New h g1 [.int .i64 x] 0) (hl : cur.length ≤ 1000) :
    ∃ v' g2, appendA 1 8 g1 v (.slice (some ⟨h.next, 0, none⟩) 1 1) = some (v', g2) ∧ SetR B g2 v' (cur ++ [x]) ∧ oneCell v' = true ∧ h.next ≤ g2.next ∧ g2.next ≤ h.next + 2 ∧ g2.floor = h.floor ∧ (∀ i, i < h.next → NoB v i → g2.get i = h.get i) ∧
      ∀ i, i < h.next → NoB v i → NoB v' i := by
  have n1 := hx.next
  have f1 := hx.floor
  have hlen : (cur ++ [x]).length = cur.length + 1 := by simp
  have hnewc : cellsOfSlice g1 1 (.slice (some ⟨h.next, 0, none⟩) 1 1) = some [.int .i64 x] := one_cells hx.get rfl
  have full : ∀ cs, Grow B h v 1 cur.length cs → allB oneCell cs = true → (∀ i, i < cur.length → cs[i]? = some (.int .i64 (atL cur i))) →
      ∃ v' g2, appendA 1 8 g1 v (.slice (some ⟨h.next, 0, none⟩) 1 1) = some (v', g2) ∧ SetR B g2 v' (cur ++ [x]) ∧ oneCell v' = true ∧ h.next ≤ g2.next ∧ g2.next ≤ h.next + 2 ∧ g2.floor = h.floor ∧ (∀ i, i < h.next → NoB v i → g2.get i = h.get i) ∧ ∀ i, i < h.next → NoB v i → NoB v' i := fun cs hg hc hv => by
    have hg1 : Grow B g1 v 1 cur.length cs := hg.keep fun b e hb => hx.old b hb
    obtain ⟨g2, e2, hg2, hk2⟩ := append_run (bytes := 8) hg1 (by omega) (by omega) ⟨_, _, rfl⟩ hnewc rfl rfl hc (by omega) (by omega) (by simp [maxBytes]; omega) (by simp [maxBytes]; omega)
    have n2 := hk2.next
    have f2 := hk2.floor
    have hcl := hg.len
    refine ⟨_, g2, e2, ?_, rfl, by omega, by omega, by omega, fun i hi hne => by rw [hk2.old i (by omega) fun b k c e => hne b k c e, hx.old i hi], fun i hi _ b k c e => by cases e; show i ≠ g1.next; omega⟩
    rcases hg2 with ⟨e, _⟩ | ⟨b, e, k1, k2, k3⟩
    · cases e
    · cases e
      refine .inr ⟨_, _, by rw [hlen], k1, by rw [k2, hlen]; omega, fun i hi => ?_, ?_, k3⟩
      · rw [hlen] at hi
        by_cases c : i < cur.length
        · rw [List.getElem?_append_left (by omega), hv i c, at_append c]
        · obtain rfl : i = cur.length := by omega
          rw [List.getElem?_append_right (by omega), hcl, Nat.mul_one, Nat.sub_self, at_last]
          rfl
      · rw [allB_iff] at *
        intro u hu
        rcases List.mem_append.1 hu with hu | hu
        · exact hc u hu
        · simp only [List.mem_singleton] at hu; subst hu; rfl
  rcases hs with ⟨rfl, rfl⟩ | ⟨b, cs, rfl, h1, h2, h3, h4, h5⟩
  · exact full [] .nil rfl fun i hi => absurd hi (Nat.not_lt_zero _)
  · by_cases hc : cs.length = cur.length
    · exact full cs (.inr ⟨b, rfl, h1, by rw [hc, Nat.mul_one], h5⟩) h4 h3
    · have hlt := AHeap.lt_of_get h1
      have h1' : g1.get b = some (.row cs true 1) := by rw [hx.old b hlt]; exact h1
      obtain ⟨g2, e2, hs2⟩ := storeRow_run (off := cur.length * 1) (vs := [.int .i64 x]) h1' (by omega) (by omega) rfl (by simp; omega)
      have hs2' := hs2
      rw [Nat.mul_one] at hs2'
      have n2 := hs2.next
      have f2 := hs2.floor
      have hold : cellsOfSlice g1 1 (.slice (some ⟨b, 0, none⟩) cur.length unk) = some (cs.take cur.length) := by
        show (bif Nat.beq cur.length 0 then some [] else match g1.get b with
          | some (.row cs _ _) => dropK cs 0 fun r => takeK r (cur.length * 1) fun l => some l
          | _ => none) = some (cs.take cur.length)
        by_cases hn0 : cur.length = 0
        · rw [hn0]; rfl
        · have hb : Nat.beq cur.length 0 = false := by
            cases hb : Nat.beq cur.length 0 with
            | false => rfl
            | true => exact absurd (beq_iff.1 hb) hn0
          rw [hb, cond_false, h1']
          simp only [dropK_eq, takeK_eq, Nat.zero_le, if_true, List.drop_zero, Nat.mul_one]
          rw [if_pos h2]
      have b1 : ∀ n, Nat.beq n n = true := fun n => beq_iff.2 rfl
      have b2 : Nat.beq (cur.length * 1) (len cs) = false := by
        cases hb : Nat.beq (cur.length * 1) (len cs) with
        | false => rfl
        | true => have := beq_iff.1 hb; rw [len_eq] at this; omega
      have b3 : Nat.ble ((cur.length + 1) * 1) (len cs) = true := ble_iff.2 (by rw [len_eq]; omega)
      have b4 : Nat.ble ((cur.length + 1) * 8) maxBytes = true := ble_iff.2 (by simp [maxBytes]; omega)
      have b5 : Nat.ble (cur.length + 1) maxBytes = true := ble_iff.2 (by simp [maxBytes]; omega)
      have b6 : Nat.beq (len [Value.int .i64 x]) (1 * 1) = true := rfl
      have b7 : Nat.blt unk unk = false := rfl
      refine ⟨.slice (some ⟨b, 0, none⟩) (cur.length + 1) unk, g2, ?_, .inr ⟨b, _, by rw [hlen], hs2'.get, ?_, fun i hi => ?_, ?_, h5⟩, rfl, by omega, by omega, by omega, fun i hi hne => by rw [hs2.old i (hne _ _ _ rfl), hx.old i hi], fun i hi hne b' k c e => by cases e; exact hne _ _ _ rfl⟩
      · unfold appendA
        simp only [hnewc, b4, b5, b6, Bool.and_self, cond_true, b7, Bool.and_false, cond_false]
        unfold appendGrow
        simp only [hold, b7, cond_false, h1', b1, b2, b3, Bool.and_self, Bool.and_true, Bool.and_false, Bool.true_and, Bool.false_and, cond_true, cond_false, e2]
      · rw [hlen]
        simp only [splice, List.length_append, List.length_take, List.length_cons, List.length_nil, List.length_drop]
        omega
      · rw [hlen] at hi
        simp only [splice]
        by_cases c : i < cur.length
        · rw [List.getElem?_append_left (by rw [List.length_take]; omega), List.getElem?_take, if_pos c, h3 i c, at_append c]
        · obtain rfl : i = cur.length := by omega
          have e0 : cur.length - (List.take cur.length cs).length = 0 := by rw [List.length_take]; omega
          rw [List.getElem?_append_right (by rw [List.length_take]; omega), e0, at_last]
          rfl
      · refine allB_iff.2 fun u hu => ?_
        simp only [splice] at hu
        rcases List.mem_append.1 hu with hu | hu
        · exact allB_iff.1 h4 u (List.mem_of_mem_take hu)
        · rcases List.mem_append.1 hu with hu | hu
          · simp only [List.mem_singleton] at hu; subst hu; rfl
          · exact allB_iff.1 h4 u (List.mem_of_mem_drop hu)
end Go.Vm

namespace Go.Vm.L2
open Go.Vm.Vat
set_option linter.unusedSimpArgs false
set_option linter.unusedVariables false
set_option maxRecDepth 10000
theorem cells_congr {h : AHeap} {v : Value} {s n : Nat} {c c' : Nat → Nat → Value} (hc : Cells h v s n c) (he : ∀ k j, k < n → j < s → c k j = c' k j) : Cells h v s n c' := by
  obtain ⟨a, cap, rfl, hsp, h0 | ⟨b, o, cs, w, gr, rfl, h1, h2⟩⟩ := hc
  · exact ⟨a, cap, rfl, hsp, .inl h0⟩
  · exact ⟨_, cap, rfl, hsp, .inr ⟨b, o, cs, w, gr, rfl, h1, fun k j hk hj => by rw [h2 k j hk hj, he k j hk hj]⟩⟩
section
variable {h g : AHeap} {wv vv sv tv : Value}
theorem one_int {k : IntKind} {x : Int} : oneCell (.int k x) = true := rfl
theorem eqC_int {x : Int} : eqCell (.int .i64 x) (.int .i64 x) = true := by simp [eqCell, sameK, eqI_eq]
end
theorem eqV_int {x : Int} : eqV (.int .i64 x) (.int .i64 x) = true := by simp [eqV, eqCell, sameK, eqI_eq]
theorem eqV_bool {b : Bool} : eqV (.bool b) (.bool b) = true := by cases b <;> rfl
theorem self_two {x y : Int} : eqV (.agg ⟨[.int .i64 x, .int .i64 y]⟩) (.agg ⟨[.int .i64 x, .int .i64 y]⟩) = true := by simp [eqV, eqCells, eqC_int]
def capN (n0 : Int) (lo hi : Nat → Int) : Nat → Int
  | 0 => n0
  | i + 1 => min 3000 (capN n0 lo hi i * (hi i - lo i + 1))
theorem sizeN_congr {lo hi lo' hi' : Nat → Int} : ∀ m, (∀ k, k < m → lo k = lo' k ∧ hi k = hi' k) → sizeN lo hi m = sizeN lo' hi' m
  | 0, _ => rfl
  | m + 1, h => by
    obtain ⟨h1, h2⟩ := h m (by omega)
    simp only [sizeN, sizeN_congr m fun k hk => h k (by omega), h1, h2]
theorem sizeN_split {lo hi : Nat → Int} (a : Nat) : ∀ b, sizeN lo hi (a + b) = sizeN lo hi a * sizeN (fun k => lo (a + k)) (fun k => hi (a + k)) b
  | 0 => by simp [sizeN]
  | b + 1 => by
    rw [show a + (b + 1) = a + b + 1 by omega]
    simp only [sizeN, sizeN_split a b, Int.mul_assoc]
theorem sizeN_pos {lo hi : Nat → Int} : ∀ m, (∀ k, k < m → lo k ≤ hi k) → 1 ≤ sizeN lo hi m
  | 0, _ => Int.le_refl _
  | m + 1, h => by
    have h1 := sizeN_pos m fun k hk => h k (by omega)
    have h2 := h m (by omega)
    have := Int.mul_le_mul h1 (show (1 : Int) ≤ hi m - lo m + 1 by omega) (by omega) (by omega)
    simpa [sizeN] using this
theorem sizeN_le {lo hi : Nat → Int} {B : Int} (hB : 1 ≤ B) : ∀ m, (∀ k, k < m → lo k ≤ hi k ∧ hi k - lo k + 1 ≤ B) → sizeN lo hi m ≤ B ^ m
  | 0, _ => by simp [sizeN]
  | m + 1, h => by
    have h1 := sizeN_le hB m fun k hk => h k (by omega)
    obtain ⟨h2, h3⟩ := h m (by omega)
    rw [Int.pow_succ]
    exact Int.mul_le_mul h1 h3 (by omega) (Int.le_trans (by omega) (sizeN_pos m fun k hk => (h k (by omega)).1 |> fun x => x) |> fun x => Int.le_trans x h1)
theorem capN_min {n0 : Int} {lo hi : Nat → Int} (h0 : 1 ≤ n0) (h1 : n0 ≤ 3000) : ∀ m, (∀ k, k < m → lo k ≤ hi k) → capN n0 lo hi m = min 3000 (n0 * sizeN lo hi m)
  | 0, _ => by simp only [capN, sizeN, Int.mul_one]; omega
  | m + 1, h => by
    have ih := capN_min h0 h1 m fun k hk => h k (by omega)
    have hm := h m (by omega)
    have hp := sizeN_pos m fun k hk => h k (by omega)
    have hq : 1 ≤ n0 * sizeN lo hi m := by have := Int.mul_le_mul h0 hp (by omega) (by omega); simpa using this
    simp only [capN, sizeN, ih]
    rw [← Int.mul_assoc]
    generalize n0 * sizeN lo hi m = x at hq
    generalize hy : hi m - lo m + 1 = y
    have hy1 : 1 ≤ y := by omega
    by_cases c : x ≤ 3000
    · rw [Int.min_eq_right c]
    · have e1 : min (3000 : Int) x = 3000 := by omega
      rw [e1]
      have h3 : 3000 * 1 ≤ 3000 * y := Int.mul_le_mul_of_nonneg_left hy1 (by omega)
      have h4 : x * 1 ≤ x * y := Int.mul_le_mul_of_nonneg_left hy1 (by omega)
      omega
def sumR (u : Nat → Int) (b : Nat) : Nat → Int
  | 0 => 0
  | m + 1 => sumR u b m + u (b + m)
theorem sumR_bound {u : Nat → Int} {b : Nat} {B : Int} (hB : 0 ≤ B) : ∀ m, (∀ k, k < m → 0 ≤ u (b + k) ∧ u (b + k) ≤ B) → 0 ≤ sumR u b m ∧ sumR u b m ≤ B * m
  | 0, _ => by simp [sumR]
  | m + 1, h => by
    obtain ⟨h1, h2⟩ := sumR_bound hB m fun k hk => h k (by omega)
    obtain ⟨h3, h4⟩ := h m (by omega)
    simp only [sumR]
    rw [Int.natCast_add, Int.mul_add]
    constructor <;> omega
open Classical in
noncomputable def bitsP (p : Nat → Prop) : Nat → Nat
  | 0 => 0
  | i + 1 => if p i then bitsP p i ||| 2 ^ i else bitsP p i
theorem bitsP_lt (p : Nat → Prop) : ∀ i, bitsP p i < 2 ^ i
  | 0 => by simp [bitsP]
  | i + 1 => by
    have ih := bitsP_lt p i
    simp only [bitsP]
    split
    · exact Nat.or_lt_two_pow (Nat.lt_of_lt_of_le ih (Nat.pow_le_pow_right (by omega) (by omega))) (Nat.pow_lt_pow_right (by omega) (by omega))
    · exact Nat.lt_of_lt_of_le ih (Nat.pow_le_pow_right (by omega) (by omega))
theorem bitsP_full (p : Nat → Prop) : ∀ i, bitsP p i = 2 ^ i - 1 ↔ ∀ k, k < i → p k
  | 0 => by simp [bitsP]
  | i + 1 => by
    have ih := bitsP_full p i
    have hl := bitsP_lt p i
    simp only [bitsP]
    rw [Nat.pow_succ]
    by_cases hr : p i
    · rw [if_pos hr, or_pow hl]
      constructor
      · intro e k hk
        by_cases hki : k = i
        · subst hki; exact hr
        · exact ih.1 (by omega) k (by omega)
      · intro ha
        have := ih.2 fun k hk => ha k (by omega)
        omega
    · rw [if_neg hr]
      constructor
      · intro e; omega
      · intro ha; exact absurd (ha i (by omega)) hr
variable {n : Nat} {h : AHeap}
structure TrR (h : AHeap) (tw tf : Value) (m1 : Nat) (a1 : Nat → Int) (m2 : Nat) (a2 : Nat → Int) : Prop where
  w : Ints h tw m1 a1
  f : Ints h tf m2 a2
def trL (tw tf : Value) (sp : Int) : List Value := [tw, .int .i64 sp, tf]
theorem trg {a b : Value} {x : Int} : (trL a b x)[0]? = some a ∧ (trL a b x)[1]? = some (.int .i64 x) ∧ (trL a b x)[2]? = some b := ⟨rfl, rfl, rfl⟩
section
variable {g : AHeap} {tw tf : Value} {m1 m2 : Nat} {a1 a2 : Nat → Int} {sp : Int}
theorem TrR.mono (ht : TrR h tw tf m1 a1 m2 a2) (hs : Sub All h g) : TrR g tw tf m1 a1 m2 a2 := ⟨Cells.mono ht.w hs, Cells.mono ht.f hs⟩
theorem TrR.shut (ht : TrR h tw tf m1 a1 m2 a2) : TrR h.shutAll tw tf m1 a1 m2 a2 := ht.mono fun _ _ _ _ _ h => h
theorem TrR.one (ht : TrR h tw tf m1 a1 m2 a2) : allB oneCell (trL tw tf sp) = true := by
  simp [trL, allB, one_int, Cells.one ht.w, Cells.one ht.f]
theorem TrR.self (ht : TrR h tw tf m1 a1 m2 a2) : eqV (.agg ⟨trL tw tf sp⟩) (.agg ⟨trL tw tf sp⟩) = true := by
  simp [trL, eqV, eqCells, eqC_int, Cells.selfC ht.w, Cells.selfC ht.f]
end
variable {n : Nat} {h : AHeap}
variable {n : Nat} {h : AHeap}
theorem capN_bound {n0 : Int} {lo hi : Nat → Int} (h0 : 1 ≤ n0) (h1 : n0 ≤ 3000) (m : Nat) (hm : ∀ k, k < m → lo k ≤ hi k) : 1 ≤ capN n0 lo hi m ∧ capN n0 lo hi m ≤ 3000 := by
  rw [capN_min h0 h1 m hm]
  have := sizeN_pos m hm
  have hq : 1 ≤ n0 * sizeN lo hi m := by have := Int.mul_le_mul h0 this (by omega) (by omega); simpa using this
  omega
variable {n : Nat} {h : AHeap}
variable {n : Nat} {h : AHeap}
variable {n : Nat} {h : AHeap}
def setU (u : Nat → Int) (i : Nat) (x : Int) (j : Nat) : Int := if j = i then x else u j
theorem sl_unk {p : Option Addr} {a b : Int} : buildSl 3 1 [.pointer none, .int .i64 0, .int .i64 0] [0] h [.agg ⟨[.pointer p, .int .i64 a, .int .i64 b]⟩] = newSlice h [.pointer p, .int .i64 a, .int .i64 b] 1 1 0 := id rfl
theorem build_unk {p : Option Addr} {a b : Int} : buildA (fun x => (#[(0, 1), (1, 2)] : Array (Nat × Nat))[x]?) ⟨[.pointer none, .int .i64 0, .int .i64 0]⟩ [0, 1] h [.pointer p, .agg ⟨[.int .i64 a, .int .i64 b]⟩] = some (.agg ⟨[.pointer p, .int .i64 a, .int .i64 b]⟩, h) := id rfl
theorem unk_one {p : Option Addr} {a b : Int} : allB oneCell [.pointer p, .int .i64 a, .int .i64 b] = true := rfl
theorem new_set {g a b : AHeap} {cs vs : List Value} {gr : Nat} (hx : New g a cs gr) (hs : Set1 a b g.next (splice cs 0 vs) gr) (hl : cs.length = vs.length) : New g b vs gr :=
  ⟨by rw [hs.get, splice_all hl], fun i hi => by rw [hs.old i (by omega), hx.old i hi], by rw [hs.next, hx.next], by rw [hs.floor, hx.floor]⟩
theorem res_13 {t : Nat} {f : Fr} : resV f h [.tmp t] = some (f t) := id rfl
variable {n : Nat} {h : AHeap}
def z11 : List Value := [.int .i64 0, .int .i64 0, .int .i64 0, .int .i64 0, .int .i64 0, .int .i64 0, .int .i64 0, .int .i64 0, .int .i64 0, .int .i64 0, .int .i64 0]
theorem build_z11 {pl : Nat → Option (Nat × Nat)} : buildA pl ⟨[.int .i64 0, .int .i64 0, .int .i64 0, .int .i64 0, .int .i64 0, .int .i64 0, .int .i64 0, .int .i64 0, .int .i64 0, .int .i64 0, .int .i64 0]⟩ [] h [] = some (.agg ⟨z11⟩, h) := id rfl
theorem build_wk' {a b w c d v s : Value} : buildA (fun x => (#[(0, 7), (7, 1)] : Array (Nat × Nat))[x]?) ⟨[.int .i64 0, .int .i64 0, .slice none 0 0, .int .i64 0, .int .i64 0, .slice none 0 0, .slice none 0 0, .slice none 0 0]⟩ [0] h [.agg ⟨[a, b, w, c, d, v, s]⟩] = some (.agg ⟨[a, b, w, c, d, v, s, .slice none 0 0]⟩, h) := by
  unfold buildA
  have e : Instr.fill (fun x => (#[(0, 7), (7, 1)] : Array (Nat × Nat))[x]?) #[.int .i64 0, .int .i64 0, .slice none 0 0, .int .i64 0, .int .i64 0, .slice none 0 0, .slice none 0 0, .slice none 0 0] ([0].zip [.agg ⟨[a, b, w, c, d, v, s]⟩]) = some #[a, b, w, c, d, v, s, .slice none 0 0] := by
    simp [Instr.fill, Value.cells]
  rw [e]
variable {n : Nat} {h : AHeap}
section
variable {P : Program} {cf : CallF} {N : Nat} {f : Fr} {x y : Operand}
theorem x_copy {s : Nat} : sem P cf N f h (.copy s x y) = copyA s h (val f x) (val f y) := id rfl
end
theorem copy_run {b off gr N cap m : Nat} {cs : List Value} {y : Value} {a : Nat → Int} (hg : h.get b = some (.row cs true gr)) (hfl : h.floor ≤ b) (hf : h.next ≤ far) (hy : Ints h y m a) (hm : m ≤ N) (hlen : off + m ≤ cs.length) :
    ∃ h1, copyA 1 h (.slice (some ⟨b, off, none⟩) N cap) y = some (.int .i64 (m : Int), h1) ∧ Set1 h h1 b (splice cs off ((List.range m).map fun i => .int .i64 (a i))) gr := by
  obtain ⟨x, k, rfl, hc⟩ := Ints.cells hy
  have hone : allB oneCell ((List.range m).map fun i => Value.int .i64 (a i)) = true := by rw [allB_iff]; intro v hv; obtain ⟨i, _, rfl⟩ := List.mem_map.1 hv; rfl
  obtain ⟨h1, e, hs⟩ := storeRow_run (off := off) (vs := (List.range m).map fun i => Value.int .i64 (a i)) hg hfl hf hone (by simp; omega)
  refine ⟨h1, ?_, hs⟩
  have e1 : Nat.ble m N = true := ble_iff.2 hm
  unfold copyA
  simp only [e1, cond_true, hc, e]
  rfl
theorem sliceArr_all {N b o : Nat} (hN : 0 < N) (hN1 : N ≤ 100) : sliceArr N 1 h (.pointer (some ⟨b, o, none⟩)) none none = some (.slice (some ⟨b, o, none⟩) N N, h) := by
  have e1 : boundA 0 none = some 0 := rfl
  have e2 : boundA N none = some N := rfl
  have e3 : Nat.ble 0 N = true := ble_iff.2 (Nat.zero_le _)
  have e4 : Nat.ble N N = true := ble_iff.2 (Nat.le_refl _)
  have e5 : Nat.beq N 0 = false := by
    cases hb : Nat.beq N 0 with
    | false => rfl
    | true => have := beq_iff.1 hb; omega
  unfold sliceArr
  simp only [e1, e2, e3, e4, e5, Bool.and_self, cond_true, cond_false, addrPlus, Nat.zero_mul, Nat.add_zero, Nat.sub_zero]
theorem sliceArr_part {N b o l hh : Nat} (h1 : l ≤ hh) (h2 : hh ≤ N) (h3 : l < N) : sliceArr N 1 h (.pointer (some ⟨b, o, none⟩)) (some (.int .i64 (l : Int))) (some (.int .i64 (hh : Int))) = some (.slice (some ⟨b, o + l, none⟩) (hh - l) (N - l), h) := by
  have e1 : boundA 0 (some (.int .i64 (l : Int))) = some l := rfl
  have e2 : boundA N (some (.int .i64 (hh : Int))) = some hh := rfl
  have e3 : Nat.ble l hh = true := ble_iff.2 h1
  have e4 : Nat.ble hh N = true := ble_iff.2 h2
  have e5 : Nat.beq N l = false := by
    cases hb : Nat.beq N l with
    | false => rfl
    | true => have := beq_iff.1 hb; omega
  unfold sliceArr
  simp only [e1, e2, e3, e4, e5, Bool.and_self, cond_true, cond_false, addrPlus, Nat.mul_one]
def rowF (F : Nat → Int) : List Value := (List.range 11).map fun j => .int .i64 (F j)
theorem rowF_len {F : Nat → Int} : (rowF F).length = 11 := by simp [rowF]
theorem z11_row : z11 = rowF fun _ => 0 := rfl
theorem rowF_copy {F : Nat → Int} {off m : Nat} {a : Nat → Int} (h : off + m ≤ 11) : splice (rowF F) off ((List.range m).map fun i => .int .i64 (a i)) = rowF fun j => if off ≤ j ∧ j < off + m then a (j - off) else F j := by
  refine map_splice (by simp; omega) (fun i hi hc => ?_) (fun j hj => ?_)
  · simp only [List.length_map, List.length_range] at hc
    have q : ¬ (off ≤ i ∧ i < off + m) := by omega
    simp only [q, if_false]
  · simp only [List.length_map, List.length_range] at hj
    have q : off ≤ off + j ∧ off + j < off + m := by omega
    rw [List.getElem?_map, List.getElem?_range hj]
    simp only [q, and_self, if_true, Option.map_some, Nat.add_sub_cancel_left]
theorem rowF_set {F : Nat → Int} {o : Nat} {x : Int} (h : o < 11) : splice (rowF F) o [.int .i64 x] = rowF fun j => if j = o then x else F j := by
  refine map_splice (by simp; omega) (fun i hi hc => ?_) (fun j hj => ?_)
  · simp only [List.length_cons, List.length_nil] at hc
    have q : ¬ i = o := by omega
    simp only [q, if_false]
  · simp only [List.length_cons, List.length_nil] at hj
    have : j = 0 := by omega
    subst this
    simp
theorem res_11_1 {a t : Nat} {f : Fr} : resV f h [.cellN a 11, .tmp t] = match loadAgg 11 h (f a) with
  | some v => some (.tuple ⟨[v, f t]⟩)
  | none => none := res_two
variable {n : Nat} {h : AHeap}
def hourRow (m k : Nat) (val : Nat → Int) : List Value := (List.range m).map fun i => .int .i64 (if i < k then val i else 0)
theorem hourRow_one {m k : Nat} {val : Nat → Int} : allB oneCell (hourRow m k val) = true := by rw [allB_iff]; intro v hv; obtain ⟨i, _, rfl⟩ := List.mem_map.1 hv; rfl
theorem hourRow_set {m k : Nat} {val : Nat → Int} (hk : k < m) : splice (hourRow m k val) (k * 1) [.int .i64 (val k)] = hourRow m (k + 1) val := by
  refine map_splice (by simp; omega) (fun i hi hc => ?_) (fun j hj => ?_)
  · simp only [List.length_cons, List.length_nil] at hc
    by_cases c : i < k
    · have : i < k + 1 := by omega
      simp only [c, this, if_true]
    · have : ¬ i < k + 1 := by omega
      simp only [c, this, if_false]
  · simp only [List.length_cons, List.length_nil] at hj
    have : j = 0 := by omega
    subst this
    simp
theorem repl_hour {m : Nat} {val : Nat → Int} : repl [.int .i64 0] m = hourRow m 0 val := by
  rw [repl_one]
  unfold hourRow
  apply List.ext_getElem?
  intro i
  by_cases hi : i < m
  · rw [List.getElem?_replicate, if_pos hi, List.getElem?_map, List.getElem?_range hi]; simp
  · rw [List.getElem?_eq_none (by simp; omega), List.getElem?_eq_none (by simp; omega)]
variable {n : Nat} {h : AHeap}
def NeB (v : Value) (x : Nat) : Prop := ∀ b m c, v = .slice (some b) m c → x ≠ b.block
structure RowIn (B : Nat) (h : AHeap) (v1 v2 r : Value) (m : Nat) (a : Nat → Int) : Prop where
  ints : Ints h r m a
  blk : ∀ x m c, r = .slice (some x) m c → B ≤ x.block ∧ x.block < h.next ∧ NeB v1 x.block ∧ NeB v2 x.block
structure TwoR (B : Nat) (h : AHeap) (v1 v2 : Value) (k1 k2 : Nat) (cnt : Nat → Nat) (q1 q2 : Nat → Nat → Int) (r1 r2 : Nat → Value) : Prop where
  c1 : GrowC B h v1 1 k1 (fun i _ => r1 i)
  c2 : GrowC B h v2 1 k2 (fun i _ => r2 i)
  i1 : ∀ i, i < k1 → RowIn B h v1 v2 (r1 i) (cnt i) (q1 i)
  i2 : ∀ i, i < k2 → RowIn B h v1 v2 (r2 i) (cnt i) (q2 i)
  sep : ∀ x m c, v2 = .slice (some x) m c → NeB v1 x.block
theorem RowIn.swap {B : Nat} {v1 v2 r : Value} {m : Nat} {a : Nat → Int} (hr : RowIn B h v1 v2 r m a) : RowIn B h v2 v1 r m a := ⟨hr.ints, fun x m c e => by obtain ⟨a, b, c, d⟩ := hr.blk x m c e; exact ⟨a, b, d, c⟩⟩
theorem TwoR.swap {B : Nat} {v1 v2 : Value} {k1 k2 : Nat} {cnt : Nat → Nat} {q1 q2 : Nat → Nat → Int} {r1 r2 : Nat → Value} (ht : TwoR B h v1 v2 k1 k2 cnt q1 q2 r1 r2) : TwoR B h v2 v1 k2 k1 cnt q2 q1 r2 r1 :=
  ⟨ht.c2, ht.c1, fun i hi => (ht.i2 i hi).swap, fun i hi => (ht.i1 i hi).swap, fun x m c e b m' c' e' hne => ht.sep b m' c' e' x m c e hne.symm⟩
theorem TwoR.nil {B : Nat} {cnt : Nat → Nat} {q1 q2 : Nat → Nat → Int} {r1 r2 : Nat → Value} : TwoR B h nilS nilS 0 0 cnt q1 q2 r1 r2 := ⟨.nil, .nil, fun i hi => by omega, fun i hi => by omega, fun x m c e => by cases e⟩
theorem RowIn.old {B : Nat} {g : AHeap} {v1 v2 r : Value} {m : Nat} {a : Nat → Int} (hr : RowIn B h v1 v2 r m a) (ho : ∀ i, i < h.next → g.get i = h.get i) (hn : h.next ≤ g.next) : RowIn B g v1 v2 r m a :=
  ⟨Cells.mono hr.ints (AHeap.subOf ho), fun x m c e => by obtain ⟨a, b, c, d⟩ := hr.blk x m c e; exact ⟨a, by omega, c, d⟩⟩
theorem TwoR.old {B : Nat} {g : AHeap} {v1 v2 : Value} {k1 k2 : Nat} {cnt : Nat → Nat} {q1 q2 : Nat → Nat → Int} {r1 r2 : Nat → Value} (ht : TwoR B h v1 v2 k1 k2 cnt q1 q2 r1 r2) (ho : ∀ i, i < h.next → g.get i = h.get i) (hn : h.next ≤ g.next) : TwoR B g v1 v2 k1 k2 cnt q1 q2 r1 r2 :=
  ⟨ht.c1.sub (AHeap.subOf ho), ht.c2.sub (AHeap.subOf ho), fun i hi => (ht.i1 i hi).old ho hn, fun i hi => (ht.i2 i hi).old ho hn, ht.sep⟩
theorem TwoR.push {B : Nat} {g1 : AHeap} {v1 v2 l : Value} {k1 k2 : Nat} {cnt : Nat → Nat} {q1 q2 : Nat → Nat → Int} {r1 r2 : Nat → Value} (ht : TwoR B h v1 v2 k1 k2 cnt q1 q2 r1 r2) (hB : h.floor ≤ B) (hf : h.next + 2 < far) (hBn : B ≤ h.next)
    (hl : RowIn B h v1 v2 l (cnt k1) (q1 k1)) (hone : oneCell l = true) (hx : New h g1 [l] 0) (hk : k1 ≤ 100) :
    ∃ v' g2, appendA 1 24 g1 v1 (.slice (some ⟨h.next, 0, none⟩) 1 1) = some (v', g2) ∧ TwoR B g2 v' v2 (k1 + 1) k2 cnt q1 q2 (fun i => if i = k1 then l else r1 i) r2 ∧ g2.next = h.next + 2 ∧ g2.floor = h.floor ∧ (∀ i, i < B → g2.get i = h.get i) := by
  have hnx := hx.next
  have hfl := hx.floor
  have ht1 := ht.old hx.old (by omega)
  have c1' : GrowC B g1 v1 1 k1 (fun i _ => if i = k1 then l else r1 i) := ht1.c1.congr fun k j hk hj => by rw [if_neg (by omega)]
  obtain ⟨v', g2, e, ev, gv, hk2⟩ := c1'.append (bytes := 24) (cap := 1) (by omega) (by omega) (by omega) hx.get rfl (by simp [allB, hone]) (fun j hj => by rw [one_get j hj, if_pos rfl]) (by simp [maxBytes]; omega) (by simp [maxBytes]; omega)
  have n2 := hk2.next
  have f2 := hk2.floor
  have hrow : ∀ {r : Value} {m : Nat} {a : Nat → Int}, RowIn B g1 v1 v2 r m a → (∀ x m c, r = .slice (some x) m c → x.block < g1.next) → RowIn B g2 v' v2 r m a := fun {r m a} hr hlt =>
    ⟨Cells.kept hr.ints hk2 fun x m c e b m' c' e' => (hr.blk x m c e).2.2.1 b m' c' e', fun x m c e => by
      obtain ⟨k1, k2, k3, k4⟩ := hr.blk x m c e
      refine ⟨k1, by omega, fun b m' c' e' => ?_, k4⟩
      rw [ev] at e'; cases e'
      show x.block ≠ g1.next
      omega⟩
  have hlr := hl.old hx.old (by omega)
  refine ⟨v', g2, e, ⟨gv, ?_, fun i hi => ?_, fun i hi => ?_, fun x m c e b m' c' e' => ?_⟩, by omega, by omega, fun i hi => ?_⟩
  · obtain ⟨cs, ⟨rfl, rfl, rfl⟩ | ⟨b, rfl, h2, h3, h4⟩, h5, h6⟩ := ht1.c2
    · exact .nil
    · exact ⟨cs, .inr ⟨b, rfl, by rw [hk2.old b (AHeap.lt_of_get h2) fun x m c e => ht.sep _ _ _ rfl x m c e]; exact h2, h3, h4⟩, h5, h6⟩
  · by_cases e : i = k1
    · subst e; simp only [if_true]
      exact hrow hlr fun x m c e => (hlr.blk x m c e).2.1
    · simp only [e, if_false]
      have := ht1.i1 i (by omega)
      exact hrow this fun x m c e => (this.blk x m c e).2.1
  · have := ht1.i2 i hi
    exact hrow this fun x m c e => (this.blk x m c e).2.1
  · rw [ev] at e'; cases e'
    have := (ht.c2.block e).2
    show x.block ≠ g1.next
    omega
  · rw [hk2.old i (by omega) fun b m c e => by have := (c1'.block e).1; omega, hx.old i (by omega)]
theorem build_meas {G : Nat} : buildA (fun x => (#[(0, 1)] : Array (Nat × Nat))[x]?) ⟨[.nilFunc]⟩ [0] h [.func (.func G) #[] #[]] = some (.agg ⟨[.func (.func G) #[] #[]]⟩, h) := id rfl
theorem sl_list {v : Value} (hv : oneCell v = true) : buildSl 1 1 [.slice none 0 0] [0] h [v] = newSlice h [v] 1 1 0 := sl_one hv
variable {n : Nat} {h : AHeap}
theorem append_nil {s bytes : Nat} {y : Value} {m : Nat} {new : List Value} (hy : ∃ x k, y = .slice x m k) (hyc : cellsOfSlice h s y = some new) (hnl : new.length = m * s) (hb1 : m * bytes ≤ maxBytes) (hb2 : m ≤ maxBytes) :
    appendA s bytes h (.slice none 0 0) y = if m = 0 then some (.slice none 0 0, h) else newSlice h new m unk s := by
  obtain ⟨a, k, rfl⟩ := hy
  have e1 : Nat.ble ((0 + m) * bytes) maxBytes = true := ble_iff.2 (by rw [Nat.zero_add]; exact hb1)
  have e2 : Nat.ble (0 + m) maxBytes = true := ble_iff.2 (by omega)
  have e3 : Nat.beq (len new) (m * s) = true := by rw [len_eq]; exact beq_iff.2 hnl
  unfold appendA
  simp only [hyc, e1, e2, e3, Bool.and_self, cond_true]
  by_cases hm : m = 0
  · subst hm
    rw [if_pos rfl]
    rfl
  · rw [if_neg hm]
    have e4 : Nat.ble (0 + m) 0 = false := by
      cases hb : Nat.ble (0 + m) 0 with
      | false => rfl
      | true => have := ble_iff.1 hb; omega
    rw [e4, Bool.false_and, cond_false]
    unfold appendGrow
    have e5 : cellsOfSlice h s (.slice none 0 0) = some [] := rfl
    have e6 : Nat.blt 0 unk = true := rfl
    simp only [e5, e6, cond_true, app_eq, List.nil_append, Nat.zero_add]
theorem build_tr' {x1 x2 : Option Addr} {m1 m2 k1 k2 : Nat} {sp : Int} : buildA (fun x => (#[(0, 1), (1, 1), (2, 1)] : Array (Nat × Nat))[x]?) ⟨[.slice none 0 0, .int .i64 0, .slice none 0 0]⟩ [0, 1, 2] h [.slice x1 m1 k1, .int .i64 sp, .slice x2 m2 k2] = some (.agg ⟨[.slice x1 m1 k1, .int .i64 sp, .slice x2 m2 k2]⟩, h) := id rfl
theorem ints_slice {v : Value} {m : Nat} {a : Nat → Int} (hi : Ints h v m a) : ∃ x k, v = .slice x m k := by
  obtain ⟨x, k, e, _⟩ := hi
  exact ⟨x, k, e⟩
variable {n : Nat} {h : AHeap}
theorem grow_push {B k s bytes : Nat} {v : Value} {c : Nat → Nat → Value} {g1 : AHeap} {row : List Value} (hg : GrowC B h v s k c) (hB : h.floor ≤ B) (hf : h.next + 2 < far) (hBn : B ≤ h.next) (hx : New h g1 row 0) (hlen : row.length = s) (hone : allB oneCell row = true) (hn : ∀ j, j < s → row[j]? = some (c k j)) (hb1 : (k + 1) * bytes ≤ maxBytes) (hb2 : k + 1 ≤ maxBytes) :
    ∃ v' g2, appendA s bytes g1 v (.slice (some ⟨h.next, 0, none⟩) 1 1) = some (v', g2) ∧ GrowC B g2 v' s (k + 1) c ∧ oneCell v' = true ∧ g2.next = h.next + 2 ∧ g2.floor = h.floor ∧ (∀ i, i < B → g2.get i = h.get i) ∧ g1.next ≤ g2.next := by
  have hnx := hx.next
  have hfl := hx.floor
  have g1' : GrowC B g1 v s k c := hg.sub hx.sub
  obtain ⟨v', g2, e, ev, gv, hk2⟩ := g1'.append (bytes := bytes) (cap := 1) (by omega) (by omega) (by omega) hx.get hlen hone hn hb1 hb2
  have n2 := hk2.next
  have f2 := hk2.floor
  refine ⟨v', g2, e, gv, gv.one, by omega, by omega, fun i hi => ?_, by omega⟩
  rw [hk2.old i (by omega) fun b m c e => by have := (g1'.block e).1; omega, hx.old i (by omega)]
theorem build_stI {a b c d : Int} : buildA (fun x => (#[(0, 1), (1, 1), (2, 1), (3, 2), (5, 1), (6, 1)] : Array (Nat × Nat))[x]?) ⟨[.int .i64 0, .int .i64 0, .slice none 0 0, .int .i64 0, .int .i64 0, .slice none 0 0, .slice none 0 0]⟩ [0, 1, 3] h [.int .i64 a, .int .i64 b, .agg ⟨[.int .i64 c, .int .i64 d]⟩] = some (.agg ⟨[.int .i64 a, .int .i64 b, .slice none 0 0, .int .i64 c, .int .i64 d, .slice none 0 0, .slice none 0 0]⟩, h) := by
  unfold buildA
  have e : Instr.fill (fun x => (#[(0, 1), (1, 1), (2, 1), (3, 2), (5, 1), (6, 1)] : Array (Nat × Nat))[x]?) #[.int .i64 0, .int .i64 0, .slice none 0 0, .int .i64 0, .int .i64 0, .slice none 0 0, .slice none 0 0] ([0, 1, 3].zip [.int .i64 a, .int .i64 b, .agg ⟨[.int .i64 c, .int .i64 d]⟩]) = some #[.int .i64 a, .int .i64 b, .slice none 0 0, .int .i64 c, .int .i64 d, .slice none 0 0, .slice none 0 0] := by
    simp [Instr.fill, Value.cells]
  rw [e]
theorem cells1 {v : Value} (h : oneCell v = true) : cellList v = [v] := by cases v <;> first | rfl | cases h
theorem build_va {a b c d : Int} : buildA (fun x => (#[(0, 1), (1, 2), (3, 1)] : Array (Nat × Nat))[x]?) ⟨[.int .i64 0, .int .i64 0, .int .i64 0, .int .i64 0]⟩ [0, 1, 2] h [.int .i64 a, .agg ⟨[.int .i64 b, .int .i64 c]⟩, .int .i64 d] = some (.agg ⟨[.int .i64 a, .int .i64 b, .int .i64 c, .int .i64 d]⟩, h) := by
  unfold buildA
  have e : Instr.fill (fun x => (#[(0, 1), (1, 2), (3, 1)] : Array (Nat × Nat))[x]?) #[.int .i64 0, .int .i64 0, .int .i64 0, .int .i64 0] ([0, 1, 2].zip [.int .i64 a, .agg ⟨[.int .i64 b, .int .i64 c]⟩, .int .i64 d]) = some #[.int .i64 a, .int .i64 b, .int .i64 c, .int .i64 d] := by
    simp [Instr.fill, Value.cells]
  rw [e]
theorem build_sm {a b c : Int} : buildA (fun x => (#[(0, 1), (1, 1), (2, 1)] : Array (Nat × Nat))[x]?) ⟨[.int .i64 0, .int .i64 0, .int .i64 0]⟩ [0, 1, 2] h [.int .i64 a, .int .i64 b, .int .i64 c] = some (.agg ⟨[.int .i64 a, .int .i64 b, .int .i64 c]⟩, h) := by
  unfold buildA
  have e : Instr.fill (fun x => (#[(0, 1), (1, 1), (2, 1)] : Array (Nat × Nat))[x]?) #[.int .i64 0, .int .i64 0, .int .i64 0] ([0, 1, 2].zip [.int .i64 a, .int .i64 b, .int .i64 c]) = some #[.int .i64 a, .int .i64 b, .int .i64 c] := by
    simp [Instr.fill, Value.cells]
  rw [e]
theorem sl_va {a b c d : Int} : buildSl 4 1 [.int .i64 0, .int .i64 0, .int .i64 0, .int .i64 0] [0] h [.agg ⟨[.int .i64 a, .int .i64 b, .int .i64 c, .int .i64 d]⟩] = newSlice h [.int .i64 a, .int .i64 b, .int .i64 c, .int .i64 d] 1 1 0 := by
  unfold buildSl
  have e : Instr.fill (fun i => some (i * 4, 4)) ⟨repl [Value.int .i64 0, .int .i64 0, .int .i64 0, .int .i64 0] 1⟩ ([0].zip [.agg ⟨[.int .i64 a, .int .i64 b, .int .i64 c, .int .i64 d]⟩]) = some #[.int .i64 a, .int .i64 b, .int .i64 c, .int .i64 d] := by
    simp [Instr.fill, Value.cells, repl, app_eq]
  rw [e]
theorem sp2 {a b c d e f g x : Value} : splice [a, b, c, d, e, f, g] 2 [x] = [a, b, x, d, e, f, g] := rfl
theorem sp5 {a b c d e f g x : Value} : splice [a, b, c, d, e, f, g] 5 [x] = [a, b, c, d, e, x, g] := rfl
theorem sp6 {a b c d e f g x : Value} : splice [a, b, c, d, e, f, g] 6 [x] = [a, b, c, d, e, f, x] := rfl
theorem Below {B s m : Nat} {g : AHeap} {v : Value} {c : Nat → Nat → Value} (hc : Cells h v s m c) (hb : ∀ x k q, v = .slice (some x) k q → x.block < B) (ho : ∀ i, i < B → g.get i = h.get i) : Cells g v s m c := by
  obtain ⟨a, cap, rfl, hsp, h0 | ⟨b, o, cs, w, gr, rfl, h1, h2⟩⟩ := hc
  · exact ⟨a, cap, rfl, hsp, .inl h0⟩
  · exact ⟨_, cap, rfl, hsp, .inr ⟨b, o, cs, w, gr, rfl, by rw [ho b (hb _ _ _ rfl)]; exact h1, h2⟩⟩
abbrev stV (a b w c d v s : Value) : List Value := [a, b, w, c, d, v, s]
variable {n : Nat} {h : AHeap}
theorem divN_le' {s : Nat → Nat} {m : Nat} : ∀ k, divN s m k ≤ m
  | 0 => Nat.le_refl _
  | k + 1 => Nat.le_trans (Nat.div_le_self _ _) (divN_le' k)
theorem build_t1 {x : Int} : buildA (fun x => (#[(0, 1), (1, 1), (2, 1)] : Array (Nat × Nat))[x]?) ⟨[.slice none 0 0, .int .i64 0, .slice none 0 0]⟩ [1] h [.int .i64 x] = some (.agg ⟨[.slice none 0 0, .int .i64 x, .slice none 0 0]⟩, h) := by
  unfold buildA
  have e : Instr.fill (fun x => (#[(0, 1), (1, 1), (2, 1)] : Array (Nat × Nat))[x]?) #[.slice none 0 0, .int .i64 0, .slice none 0 0] ([1].zip [.int .i64 x]) = some #[.slice none 0 0, .int .i64 x, .slice none 0 0] := by
    simp [Instr.fill, Value.cells]
  rw [e]
theorem rd_neb {b o : Nat} {s : Option Nat} {v : Value} : (∀ ad : Addr, Value.pointer (some ⟨b, o, s⟩) = .pointer (some ad) → NeB v ad.block) = NeB v b := by
  simp only [eq_iff_iff]
  exact ⟨fun hh => hh _ rfl, fun hb ad e => by cases e; exact hb⟩
theorem grow_push2 {B k s bytes : Nat} {v : Value} {c : Nat → Nat → Value} {g1 : AHeap} {row : List Value} (hg : GrowC B h v s k c) (hB : h.floor ≤ B) (hf : h.next + 2 < far) (hBn : B ≤ h.next) (hx : New h g1 row 0) (hlen : row.length = s) (hone : allB oneCell row = true) (hn : ∀ j, j < s → row[j]? = some (c k j)) (hb1 : (k + 1) * bytes ≤ maxBytes) (hb2 : k + 1 ≤ maxBytes) :
    ∃ v' g2, appendA s bytes g1 v (.slice (some ⟨h.next, 0, none⟩) 1 1) = some (v', g2) ∧ GrowC B g2 v' s (k + 1) c ∧ oneCell v' = true ∧ g2.next = h.next + 2 ∧ g2.floor = h.floor ∧ (∀ i, i < h.next → NeB v i → g2.get i = h.get i) ∧ g1.next ≤ g2.next := by
  have hnx := hx.next
  have hfl := hx.floor
  have g1' : GrowC B g1 v s k c := hg.sub hx.sub
  obtain ⟨v', g2, e, ev, gv, hk2⟩ := g1'.append (bytes := bytes) (cap := 1) (by omega) (by omega) (by omega) hx.get hlen hone hn hb1 hb2
  have n2 := hk2.next
  have f2 := hk2.floor
  refine ⟨v', g2, e, gv, gv.one, by omega, by omega, fun i hi hne => ?_, by omega⟩
  rw [hk2.old i (by omega) fun b m c e => hne b m c e, hx.old i (by omega)]
theorem neB_of {B s k : Nat} {v : Value} {c : Nat → Nat → Value} (hg : GrowC B h v s k c) {i : Nat} (hi : i < B ∨ h.next ≤ i) : NeB v i := fun b m c e => by
  have := hg.block e
  omega
theorem _root_.Go.Vm.GrowC.le {B C s m : Nat} {v : Value} {c : Nat → Nat → Value} (hg : GrowC B h v s m c) (hc : C ≤ B) : GrowC C h v s m c := by
  obtain ⟨cs, h1, h2, h3⟩ := hg
  refine ⟨cs, ?_, h2, h3⟩
  rcases h1 with q | ⟨b, q1, q2, q3, q4⟩
  · exact .inl q
  · exact .inr ⟨b, q1, q2, q3, by omega⟩
variable {n : Nat} {h : AHeap}
theorem wf16 {a : Int} (h : (Lit.int .u16 a).wf = true) : ∃ k : Nat, a = k ∧ k < 65536 := by
  simp only [Lit.wf, Bool.and_eq_true, decide_eq_true_eq] at h
  have h1 : (IntKind.u16).min = 0 := rfl
  have h2 : (IntKind.u16).max = 65535 := rfl
  rw [h1, h2] at h
  exact ⟨a.toNat, by omega, by omega⟩
theorem sumR_congr {u u' : Nat → Int} {b : Nat} : ∀ m, (∀ k, k < m → u (b + k) = u' (b + k)) → sumR u b m = sumR u' b m
  | 0, _ => rfl
  | m + 1, h => by
    simp only [sumR]
    rw [sumR_congr m fun k hk => h k (by omega), h m (by omega)]
theorem sumR_mono {u u' : Nat → Int} {b : Nat} : ∀ m, (∀ k, k < m → u (b + k) ≤ u' (b + k)) → sumR u b m ≤ sumR u' b m
  | 0, _ => Int.le_refl _
  | m + 1, h => by
    simp only [sumR]
    have h1 := sumR_mono m fun k hk => h k (by omega)
    have h2 := h m (by omega)
    omega
theorem rows_congr {v : Value} {m : Nat} {cnt : Nat → Nat} {q q' : Nat → Nat → Int} (hr : Rows h v m cnt q) (he : ∀ k i, k < m → i < cnt k → q k i = q' k i) : Rows h v m cnt q' := by
  obtain ⟨r, h1, h2⟩ := hr
  exact ⟨r, h1, fun k hk => cells_congr (h2 k hk) fun i j hi hj => by simp only [he k i hk hi]⟩
variable {n : Nat} {h : AHeap}
variable {n : Nat} {h : AHeap}
theorem enumB_pos {lo hi : Nat → Int} : ∀ (d i : Nat) (c : Nat → Int), (∀ k, i ≤ k → k < i + d → lo k ≤ hi k) → 1 ≤ (enumB lo hi d i c).length
  | 0, i, c, _ => by simp [enumB]
  | d + 1, i, c, hv => by
    have h0 := hv i (by omega) (by omega)
    simp only [enumB]
    obtain ⟨l, e⟩ := part_flat (fun (k : Nat) => enumB lo hi d (i + 1) fun j => if j = i then lo i + (k : Int) else c j) (k := 0) (m := (hi i - lo i + 1).toNat) (by omega)
    rw [e]
    have := enumB_pos (lo := lo) (hi := hi) d (i + 1) (fun j => if j = i then lo i + ((0 : Nat) : Int) else c j) fun k h1 h2 => hv k (by omega) (by omega)
    simp only [List.length_append]
    omega
section
variable {σ : Type} (Own : AHeap → Nat → Prop)
def FrO (g g' : AHeap) : Prop := ∀ q cs, Row g q cs → Own g q → Row g' q cs ∧ Own g' q
variable {Own}
theorem FrO.refl {g : AHeap} : FrO Own g g := fun _ _ h1 h2 => ⟨h1, h2⟩
theorem FrO.trans {g g1 g2 : AHeap} (h1 : FrO Own g g1) (h2 : FrO Own g1 g2) : FrO Own g g2 := fun q cs a b => by
  obtain ⟨a1, b1⟩ := h1 q cs a b
  exact h2 q cs a1 b1
end
variable {n : Nat} {h : AHeap}
theorem build_wk0 : buildA (fun x => (#[(0, 7), (7, 1)] : Array (Nat × Nat))[x]?) ⟨[.int .i64 0, .int .i64 0, .slice none 0 0, .int .i64 0, .int .i64 0, .slice none 0 0, .slice none 0 0, .slice none 0 0]⟩ [] h [] = some (.agg ⟨[.int .i64 0, .int .i64 0, nilS, .int .i64 0, .int .i64 0, nilS, nilS, nilS]⟩, h) := id rfl
abbrev wk0 : List Value := [.int .i64 0, .int .i64 0, nilS, .int .i64 0, .int .i64 0, nilS, nilS, nilS]
variable {n : Nat} {h : AHeap}
def arrN (m : Nat) (a : Nat → Int) : List Value := (List.range m).map fun j => .int .i64 (a j)
theorem arrN_get {m k : Nat} {a : Nat → Int} (hk : k < m) : (arrN m a)[k]? = some (.int .i64 (a k)) := by rw [arrN, List.getElem?_map, List.getElem?_range hk]; rfl
theorem plain_arrN {m : Nat} {a : Nat → Int} : plainV (.agg ⟨arrN m a⟩) = true := by
  show allB plainCell (arrN m a) = true
  rw [allB_iff]; intro v hv; obtain ⟨i, _, rfl⟩ := List.mem_map.1 hv; rfl
variable {n : Nat} {h : AHeap}
theorem getD_mem {l : List (Nat → Int)} {k : Nat} (hk : k < l.length) : (l.getD k fun _ => 0) ∈ l := by
  rw [List.getD_eq_getElem?_getD, List.getElem?_eq_getElem hk]
  exact List.getElem_mem hk
theorem z11_one : allB oneCell z11 = true := rfl
variable {n : Nat} {h : AHeap}
theorem cells_at' {g : AHeap} {v : Value} {s m : Nat} {c : Nat → Nat → Value} (hc : Cells h v s m c) (he : ∀ a k cap, v = .slice (some a) k cap → g.get a.block = h.get a.block) : Cells g v s m c := by
  obtain ⟨a, cap, rfl, hsp, h0 | ⟨b, o, cs, w, gr, rfl, h1, h2⟩⟩ := hc
  · exact ⟨a, cap, rfl, hsp, .inl h0⟩
  · exact ⟨_, cap, rfl, hsp, .inr ⟨b, o, cs, w, gr, rfl, by rw [he _ _ _ rfl]; exact h1, h2⟩⟩
variable {n : Nat} {h : AHeap}
variable {n : Nat} {h : AHeap}
theorem capN_congr {n0 : Int} {lo hi lo' hi' : Nat → Int} : ∀ m, (∀ k, k < m → lo k = lo' k ∧ hi k = hi' k) → capN n0 lo hi m = capN n0 lo' hi' m
  | 0, _ => rfl
  | m + 1, h => by
    simp only [capN]
    rw [capN_congr m fun k hk => h k (by omega), (h m (by omega)).1, (h m (by omega)).2]
section
variable {o : Nat} {b f : Int} {u : Nat → Int}
theorem sumR_split {b d : Nat} : ∀ m, sumR u b (d + m) = sumR u b d + sumR u (b + d) m
  | 0 => by simp [sumR]
  | m + 1 => by
    rw [← Nat.add_assoc]
    simp only [sumR]
    rw [sumR_split m, Nat.add_assoc]
    omega
end
theorem build_none4 {a b c d : Value} : buildSl 4 0 [a, b, c, d] [] h [] = newSlice h [] 0 0 0 := id rfl
theorem vatC_row {x y z w : Int} {j : Nat} (hj : j < 4) : ([.int .i64 x, .int .i64 y, .int .i64 z, .int .i64 w] : List Value)[j]? = some (.int .i64 (if j = 0 then x else if j = 1 then y else if j = 2 then z else w)) := by
  rcases j with _ | _ | _ | _ | j
  · rfl
  · rfl
  · rfl
  · rfl
  · omega
theorem cells_at {g : AHeap} {v : Value} {s m : Nat} {c : Nat → Nat → Value} (hc : Cells h v s m c) (he : ∀ a k cap, v = .slice (some a) k cap → a.block < h.next → g.get a.block = h.get a.block) : Cells g v s m c := by
  obtain ⟨a, cap, rfl, hsp, h0 | ⟨b, o, cs, w, gr, rfl, h1, h2⟩⟩ := hc
  · exact ⟨a, cap, rfl, hsp, .inl h0⟩
  · exact ⟨_, cap, rfl, hsp, .inr ⟨b, o, cs, w, gr, rfl, by rw [he _ _ _ rfl (AHeap.lt_of_get h1)]; exact h1, h2⟩⟩
theorem growC_congr {B s m : Nat} {v : Value} {c c' : Nat → Nat → Value} (hg : GrowC B h v s m c) (he : ∀ k j, k < m → j < s → c k j = c' k j) : GrowC B h v s m c' := by
  obtain ⟨cs, h1, h2, h3⟩ := hg
  exact ⟨cs, h1, h2, fun k j hk hj => by rw [h3 k j hk hj, he k j hk hj]⟩
theorem grow_push3 {B k s bytes : Nat} {v : Value} {c : Nat → Nat → Value} {g1 : AHeap} {row : List Value} (hg : GrowC B h v s k c) (hB : h.floor ≤ B) (hf : h.next + 2 < far) (hBn : B ≤ h.next) (hx : New h g1 row 0) (hlen : row.length = s) (hone : allB oneCell row = true) (hn : ∀ j, j < s → row[j]? = some (c k j)) (hb1 : (k + 1) * bytes ≤ maxBytes) (hb2 : k + 1 ≤ maxBytes) :
    ∃ g2, appendA s bytes g1 v (.slice (some ⟨h.next, 0, none⟩) 1 1) = some (.slice (some ⟨h.next + 1, 0, none⟩) (k + 1) unk, g2) ∧ GrowC B g2 (.slice (some ⟨h.next + 1, 0, none⟩) (k + 1) unk) s (k + 1) c ∧ g2.next = h.next + 2 ∧ g2.floor = h.floor ∧ (∀ i, i < h.next → NeB v i → g2.get i = h.get i) ∧ g1.next ≤ g2.next := by
  have hnx := hx.next
  have hfl := hx.floor
  have g1' : GrowC B g1 v s k c := hg.sub hx.sub
  obtain ⟨v', g2, e, ev, gv, hk2⟩ := g1'.append (bytes := bytes) (cap := 1) (by omega) (by omega) (by omega) hx.get hlen hone hn hb1 hb2
  rw [hnx] at ev
  subst ev
  have n2 := hk2.next
  have f2 := hk2.floor
  refine ⟨g2, e, gv, by omega, by omega, fun i hi hne => ?_, by omega⟩
  rw [hk2.old i (by omega) fun b m c e => hne b m c e, hx.old i (by omega)]
variable {n : Nat} {h : AHeap}
theorem cs_flat {s m : Nat} {cs : List Value} {c : Nat → Nat → Value} (hs : 0 < s) (hl : cs.length = m * s) (hc : ∀ k j, k < m → j < s → cs[k * s + j]? = some (c k j)) : cs = flatL s m c := by
  apply List.ext_getElem?
  intro i
  by_cases hi : i < m * s
  · have h1 : i / s < m := Nat.div_lt_of_lt_mul (by rw [Nat.mul_comm]; exact hi)
    have h2 : i % s < s := Nat.mod_lt _ hs
    have h3 : i / s * s + i % s = i := by rw [Nat.mul_comm]; exact Nat.div_add_mod i s
    have a := hc _ _ h1 h2
    have b := flatL_get (c := c) h1 h2
    rw [h3] at a b
    rw [a, b]
  · rw [List.getElem?_eq_none (by omega), List.getElem?_eq_none (by rw [flatL_len]; omega)]
def rngL (m : Nat) (lo hi : Nat → Int) : List Value := flatL 2 m fun k j => .int .i64 (if j = 0 then lo k else hi k)
theorem rngL_congr {m : Nat} {lo hi lo' hi' : Nat → Int} (he : ∀ k, k < m → lo k = lo' k ∧ hi k = hi' k) : rngL m lo hi = rngL m lo' hi' := by
  refine cs_flat (by omega) flatL_len fun k j hk hj => ?_
  rw [rngL, flatL_get (c := fun k j => .int .i64 (if j = 0 then lo k else hi k)) hk hj, (he k hk).1, (he k hk).2]
theorem rngL_cells {g : AHeap} {b m cap gr : Nat} {w : Bool} {lo hi : Nat → Int} (hg : g.get b = some (.row (rngL m lo hi) w gr)) : Ranges g (.slice (some ⟨b, 0, none⟩) m cap) m lo hi :=
  cells_row ⟨w, gr, hg⟩ fun k j hk hj => flatL_get (c := fun k j => .int .i64 (if j = 0 then lo k else hi k)) hk hj
theorem sl_pair {x y : Int} : buildSl 2 1 [.int .i64 0, .int .i64 0] [0] h [.agg ⟨[.int .i64 x, .int .i64 y]⟩] = newSlice h [.int .i64 x, .int .i64 y] 1 1 0 := id rfl
variable {n : Nat} {h : AHeap}
theorem cells_lt {v : Value} {s m : Nat} {c : Nat → Nat → Value} (hc : Cells h v s m c) (hm : 0 < m) {a : Addr} {k cap : Nat} (e : v = .slice (some a) k cap) : a.block < h.next := by
  obtain ⟨a', c', e', _, hz | ⟨b, o, cs, w, gr, e2, e3, _⟩⟩ := hc
  · omega
  · rw [e] at e'
    cases e'
    cases e2
    exact AHeap.lt_of_get e3
theorem sl_tr {x1 x2 : Option Addr} {m1 m2 k1 k2 : Nat} {sp : Int} : buildSl 3 1 [.slice none 0 0, .int .i64 0, .slice none 0 0] [0] h [.agg ⟨trL (.slice x1 m1 k1) (.slice x2 m2 k2) sp⟩] = newSlice h (trL (.slice x1 m1 k1) (.slice x2 m2 k2) sp) 1 1 0 := by
  unfold buildSl
  have e : Instr.fill (fun i => some (i * 3, 3)) ⟨repl [Value.slice none 0 0, .int .i64 0, .slice none 0 0] 1⟩ ([0].zip [.agg ⟨trL (.slice x1 m1 k1) (.slice x2 m2 k2) sp⟩]) = some #[.slice x1 m1 k1, .int .i64 sp, .slice x2 m2 k2] := by
    simp [Instr.fill, Value.cells, repl, app_eq, trL]
  rw [e]
  rfl
variable {n : Nat} {h : AHeap}
variable {n : Nat} {h : AHeap}
variable {n : Nat} {h : AHeap}
def cntP (p : (Nat → Int) → Bool) : List (Nat → Int) → Nat
  | [] => 0
  | t :: l => (if p t then 1 else 0) + cntP p l
theorem all_at {L : List (Nat → Int)} {p : (Nat → Int) → Prop} : (∀ i, i < L.length → p (L.getD i fun _ => 0)) ↔ ∀ t, t ∈ L → p t := by
  constructor
  · intro hp t ht
    obtain ⟨i, hi, e⟩ := mem_getD ht
    rw [← e]
    exact hp i hi
  · intro hp i hi
    exact hp _ (getD_mem hi)
variable {n : Nat} {h : AHeap}
variable {n : Nat} {h : AHeap}
variable {n : Nat} {h : AHeap}
def gLo (b : Int) (l : List Int) : Int := if l = [] then 0 else b + atL l 0
def gHi (b : Int) (l : List Int) : Int := if l = [] then 0 else b + atL l (l.length - 1)
theorem gLo_nil {b : Int} : gLo b [] = 0 := rfl
theorem gHi_nil {b : Int} : gHi b [] = 0 := rfl
theorem gLo_one {b x : Int} : gLo b ([] ++ [x]) = b + x := rfl
theorem gLo_app {b x : Int} {l : List Int} (hl : l ≠ []) : gLo b (l ++ [x]) = gLo b l := by
  unfold gLo
  rw [if_neg hl, if_neg (by simp), at_append (List.length_pos_iff.2 hl)]
theorem gHi_app {b x : Int} {l : List Int} : gHi b (l ++ [x]) = b + x := by
  unfold gHi
  rw [if_neg (by simp), List.length_append, List.length_singleton, Nat.add_sub_cancel, at_last]
variable {n : Nat} {h : AHeap}
variable {n : Nat} {h : AHeap}
variable {n : Nat} {h : AHeap}
variable {n : Nat} {h : AHeap}
theorem build_rng0 : buildA (fun x => (#[(0, 1), (1, 1)] : Array (Nat × Nat))[x]?) ⟨[.int .i64 0, .int .i64 0]⟩ [] h [] = some (.agg ⟨[.int .i64 0, .int .i64 0]⟩, h) := id rfl
theorem pick_run {p : Nat → Prop} : ∀ (k : Nat), (∀ a b c, a ≤ b → b ≤ c → c < k → p a → p c → p b) → pickL p k ≠ [] → ∃ a, (∀ i, i < (pickL p k).length → atL (pickL p k) i = ((a + i : Nat) : Int)) ∧ a + (pickL p k).length ≤ k ∧ ∀ x, x < k → (p x ↔ a ≤ x ∧ x < a + (pickL p k).length)
  | 0, _, h => absurd rfl h
  | k + 1, hg, h => by
    by_cases c : p k
    · rw [pick_yes c] at h ⊢
      by_cases c0 : pickL p k = []
      · refine ⟨k, ?_, by rw [c0]; simp, ?_⟩
        · rw [c0]
          intro i hi
          simp only [List.nil_append, List.length_singleton] at hi
          obtain rfl : i = 0 := by omega
          rfl
        · rw [c0]
          intro x hx
          simp only [List.nil_append, List.length_singleton]
          constructor
          · intro hp
            by_cases e : x = k
            · omega
            · obtain ⟨i, i1, i2⟩ := pick_has (p := p) (k := k) (show x < k by omega) hp
              rw [c0] at i1
              exact absurd i1 (Nat.not_lt_zero _)
          · intro q
            obtain rfl : x = k := by omega
            exact c
      · obtain ⟨a, h1, h2, h3⟩ := pick_run k (fun a b c h1 h2 h3 => hg a b c h1 h2 (by omega)) c0
        have hpos : 0 < (pickL p k).length := List.length_pos_iff.2 c0
        have hpa : p a := (h3 a (by omega)).2 ⟨Nat.le_refl _, by omega⟩
        have hend : a + (pickL p k).length = k := by
          apply Classical.byContradiction
          intro hne
          have := (h3 (a + (pickL p k).length) (by omega)).1 (hg a _ k (by omega) (by omega) (by omega) hpa c)
          omega
        refine ⟨a, fun i hi => ?_, by rw [List.length_append, List.length_singleton]; omega, fun x hx => ?_⟩
        · rw [List.length_append, List.length_singleton] at hi
          by_cases e : i < (pickL p k).length
          · rw [at_append e, h1 i e]
          · obtain rfl : i = (pickL p k).length := by omega
            rw [at_last, hend]
        · rw [List.length_append, List.length_singleton]
          by_cases e : x = k
          · subst e
            exact ⟨fun _ => ⟨by omega, by omega⟩, fun _ => c⟩
          · rw [h3 x (by omega)]
            omega
    · rw [pick_no c] at h ⊢
      obtain ⟨a, h1, h2, h3⟩ := pick_run k (fun a b c h1 h2 h3 => hg a b c h1 h2 (by omega)) h
      refine ⟨a, h1, by omega, fun x hx => ?_⟩
      by_cases e : x = k
      · subst e
        exact ⟨fun q => absurd q c, fun q => by omega⟩
      · exact h3 x (by omega)
variable {n : Nat} {h : AHeap}
theorem binA_eqlB {P : Program} {N : Nat} {f : Go.Vm.Fr} {op : Op} {ty : TypeId} {a b : Bool} : binA P N .eql op ty (.bool a) (.bool b) f h = plainF P N op ty f h := id rfl
theorem eql_self {a : Bool} : (a == a) = true := by cases a <;> rfl
variable {P : Program} {N : Nat} {f : Fr} {h : AHeap} {ty t u e : TypeId} {x y : Operand}
theorem plainF_eqlTwo {f0 f1 : Field} {a0 a1 b0 b1 : Int} (hx : valN N f x = .agg ⟨[.int .i64 a0, .int .i64 a1]⟩) (hy : valN N f y = .agg ⟨[.int .i64 b0, .int .i64 b1]⟩) (hg : P.eqGuardType P.depth t = false)
    (ht : P.underlying t = some (.struct #[f0, f1])) (hp : P.stoodInHeld t = false) (n0 : f0.name ≠ "_") (n1 : f1.name ≠ "_") (o0 : f0.offset = 0) (o1 : f1.offset = 1)
    (e0 : P.underlying f0.type = some (.int .i64)) (e1 : P.underlying f1.type = some (.int .i64)) :
    plainF P N (.binOp .eql t x y u) ty f h = some (.bool (decide (a0 = b0 ∧ a1 = b1)), h) := by
  unfold plainF
  have : allB (fun x => plainV (valN N f x)) (Op.binOp .eql t x y u).operands.toList = true := by simp [Op.operands, allB, hx, hy, plainV, plainE, plainCell]
  rw [this]
  have e : pureRun P (execOp (valN N f) (bare (.binOp .eql t x y u) ty)) = some (.value (.bool (decide (a0 = b0 ∧ a1 = b1)))) := by
    simp only [execOp, bare, hx, hy, pureRun_bind, pr_guard hg, Option.bind_some, binOp, Op.equal, Op.maxDepth, pr_eqTwo ht hp n0 n1 o0 o1 e0 e1, pr_pure]
  rw [e]
  rfl
theorem binA_eqlAgg {op : Op} {l r : Array Value} : binA P N .eql op ty (.agg l) (.agg r) f h = plainF P N op ty f h := id rfl
variable {n : Nat} {h : AHeap}
variable {n : Nat} {h : AHeap}
def optI : Option Nat → Int → Int
  | some v, _ => (v : Int)
  | none, d => d
variable {n : Nat} {h : AHeap}
theorem cnt_take {α : Type} {p : α → Bool} {d : α} {L : List α} : ∀ k, k ≤ L.length → cntTo (fun i => p (L.getD i d) = true) k = (L.take k).countP p
  | 0, _ => rfl
  | k + 1, hk => by
    have ih := cnt_take (p := p) (d := d) (L := L) k (by omega)
    have hk' : k < L.length := by omega
    have e : L.getD k d = L[k] := by rw [List.getD_eq_getElem?_getD, List.getElem?_eq_getElem hk']; rfl
    rw [List.take_succ_eq_append_getElem hk', List.countP_append, ← ih, List.countP_cons, List.countP_nil]
    by_cases c : p L[k] = true
    · rw [cntTo_yes (by rw [e]; exact c), if_pos c]
    · rw [cntTo_no (by rw [e]; exact c), if_neg c]; rfl
structure Sm where
  v : Int
  h : Int
  l : Int
theorem ret_tttt {a b c d : Nat} {f : Go.Vm.Fr} : resV f h [.tmp a, .tmp b, .tmp c, .tmp d] = some (.tuple ⟨[f a, f b, f c, f d]⟩) := id rfl
variable {n : Nat} {h : AHeap}
theorem ex40 {x y z w : Value} : extractA 0 (.tuple ⟨[x, y, z, w]⟩) h = some (x, h) := id rfl
theorem ex41 {x y z w : Value} : extractA 1 (.tuple ⟨[x, y, z, w]⟩) h = some (y, h) := id rfl
theorem ex42 {x y z w : Value} : extractA 2 (.tuple ⟨[x, y, z, w]⟩) h = some (z, h) := id rfl
theorem ex43 {x y z w : Value} : extractA 3 (.tuple ⟨[x, y, z, w]⟩) h = some (w, h) := id rfl
variable {n : Nat} {h : AHeap}
theorem rd_1' {S : Nat → Prop} {f : Go.Vm.Fr} {x : Operand} : readsIn S f (.load1 x) = ∀ ad, val f x = .pointer (some ad) → S ad.block := id rfl
variable {n : Nat} {h : AHeap}
theorem sizeN_mono {lo hi lo' hi' : Nat → Int} : ∀ m, (∀ k, k < m → lo k ≤ lo' k ∧ hi' k ≤ hi k ∧ lo' k ≤ hi' k) → sizeN lo' hi' m ≤ sizeN lo hi m
  | 0, _ => Int.le_refl _
  | m + 1, h => by
    have ih := sizeN_mono m fun k hk => h k (by omega)
    obtain ⟨h1, h2, h3⟩ := h m (by omega)
    have hp := sizeN_pos (lo := lo) (hi := hi) m fun k hk => by have := h k (by omega); omega
    simp only [sizeN]
    exact Int.mul_le_mul ih (by omega) (by omega) (by omega)
theorem samps_nil {a b c : Nat → Int} : Samps h nilS 0 a b c := ⟨none, 0, rfl, fun x e => (by cases e), .inl rfl⟩
variable {n : Nat} {h : AHeap}
theorem dg_un {X : Cx} {S : Nat → Prop} {h0 h : AHeap} {k : Kd} {d : Option Nat} {want : Bool} {op : SOp} {L : List DI} {Q : WPost} {f : Go.Vm.Fr} {m : List Nat} : dgW X S h0 undef want k d op L Q f h m = dW X S h0 L Q (putF f d undef) h m := by
  have : isB want undef = false := rfl
  simp [dgW, this]
def mxU (P : Nat → Bool) (u1 u2 : Nat → Int) (i : Nat) : Int := if P i then max (u1 i) (u2 i) else u1 i
theorem mxU_ge {P : Nat → Bool} {u1 u2 : Nat → Int} (i : Nat) : u1 i ≤ mxU P u1 u2 i := by unfold mxU; split <;> omega
theorem mxU_no {P : Nat → Bool} {u1 u2 : Nat → Int} {i : Nat} (h : P i = false) : mxU P u1 u2 i = u1 i := by simp [mxU, h]
theorem mxU_yes {P : Nat → Bool} {u1 u2 : Nat → Int} {i : Nat} (h : P i = true) : mxU P u1 u2 i = max (u1 i) (u2 i) := by simp [mxU, h]
theorem rowI_congr {m : Nat} {a b : Nat → Int} (he : ∀ i, i < m → a i = b i) : rowI m a = rowI m b := by
  unfold rowI
  refine List.map_congr_left fun i hi => ?_
  rw [he i (List.mem_range.1 hi)]
variable {n : Nat} {h : AHeap}
theorem more_append {sv : Value} {m : Nat} {sA lA rA : Nat → Int} (hS : Samps h sv m sA lA rA) (hm : m ≤ 100) (hr : h.next + 10 < far) (hfl : h.floor ≤ h.next) :
    ∃ e0 g1 a1 g2, buildSl 3 0 [.int .i64 0, .int .i64 0, .int .i64 0] [] h [] = some (e0, g1) ∧ appendA 3 24 g1 e0 sv = some (a1, g2) ∧ (∀ i, i < h.next → g1.get i = h.get i) ∧ (∀ i, i < h.next → g2.get i = h.get i) ∧ h.next ≤ g1.next ∧ g1.next ≤ g2.next ∧ g2.next ≤ h.next + 2 ∧
      ∀ v l r : Int, ∃ b1 g3 S' g4, buildSl 3 1 [.int .i64 0, .int .i64 0, .int .i64 0] [0] g2 [.agg ⟨[.int .i64 v, .int .i64 l, .int .i64 r]⟩] = some (b1, g3) ∧ appendA 3 24 g3 a1 b1 = some (S', g4) ∧ oneCell S' = true ∧
        Samps g4 S' (m + 1) (fun k => if k = m then v else sA k) (fun k => if k = m then l else lA k) (fun k => if k = m then r else rA k) ∧ (∀ i, i < h.next → g4.get i = h.get i) ∧ g2.next ≤ g3.next ∧ g3.next ≤ g4.next ∧ g4.next ≤ h.next + 4 ∧ g4.floor = h.floor ∧
        (∀ a k c, S' = .slice (some a) k c → h.next ≤ a.block) := by
  obtain ⟨xs, ks, es, ls⟩ := Cells.list (by omega) hS
  obtain ⟨g1, q1, hx1⟩ := newSlice_ex (h := h) (cs := []) (n := 0) (cap := 0) (gr := 0) (by omega) rfl
  have n1 := hx1.next
  have f1 := hx1.floor
  have hap := append_none (h := g1) (s := 3) (bytes := 24) (b := h.next) ⟨xs, ks, es⟩ (cells_sub hx1.sub hS (by omega) ls) flatL_len (by simp [maxBytes]; omega) (by simp [maxBytes]; omega)
  by_cases hm0 : m = 0
  · rw [if_pos hm0] at hap
    refine ⟨_, g1, _, g1, by rw [build_none3]; exact q1, hap, hx1.old, hx1.old, by omega, by omega, by omega, fun v l r => ?_⟩
    obtain ⟨g3, q3, hx3⟩ := newSlice_ex (h := g1) (cs := [.int .i64 v, .int .i64 l, .int .i64 r]) (n := 1) (cap := 1) (gr := 0) (by omega) rfl
    have n3 := hx3.next
    have f3 := hx3.floor
    have hap2 := append_none (h := g3) (s := 3) (bytes := 24) (b := h.next) (m := 1) ⟨_, _, rfl⟩ (one_cells (cap := 1) hx3.get rfl) rfl (by simp [maxBytes]) (by simp [maxBytes])
    rw [if_neg (by omega)] at hap2
    obtain ⟨g4, q4, hx4⟩ := newSlice_ex (h := g3) (cs := [.int .i64 v, .int .i64 l, .int .i64 r]) (n := 1) (cap := unk) (gr := 3) (by omega) rfl
    have n4 := hx4.next
    have f4 := hx4.floor
    refine ⟨_, g3, _, g4, by rw [sl_samp]; exact q3, by rw [hap2]; exact q4, rfl, ?_, fun i hi => by rw [hx4.old i (by omega), hx3.old i (by omega), hx1.old i hi], by omega, by omega, by omega, by omega, fun a k c e => by cases e; show h.next ≤ g3.next; omega⟩
    rw [hm0]
    refine cells_row (b := g3.next) ⟨true, 3, hx4.get⟩ fun k j hk hj => ?_
    obtain rfl : k = 0 := by omega
    obtain rfl | rfl | rfl : j = 0 ∨ j = 1 ∨ j = 2 := by omega
    all_goals rfl
  · rw [if_neg hm0] at hap
    obtain ⟨g2, q2, hx2⟩ := newSlice_ex (h := g1) (cs := flatL 3 m fun k j => .int .i64 (if j = 0 then sA k else if j = 1 then lA k else rA k)) (n := m) (cap := unk) (gr := 3) (by omega) flatL_one
    have n2 := hx2.next
    have f2 := hx2.floor
    refine ⟨_, g1, _, g2, by rw [build_none3]; exact q1, by rw [hap]; exact q2, hx1.old, fun i hi => by rw [hx2.old i (by omega), hx1.old i hi], by omega, by omega, by omega, fun v l r => ?_⟩
    obtain ⟨g3, q3, hx3⟩ := newSlice_ex (h := g2) (cs := [.int .i64 v, .int .i64 l, .int .i64 r]) (n := 1) (cap := 1) (gr := 0) (by omega) rfl
    have n3 := hx3.next
    have f3 := hx3.floor
    have gS : GrowC h.next g3 (.slice (some ⟨g1.next, 0, none⟩) m unk) 3 m (fun k j => .int .i64 (if j = 0 then (if k = m then v else sA k) else if j = 1 then (if k = m then l else lA k) else if k = m then r else rA k)) :=
      ⟨_, .inr ⟨_, rfl, by rw [hx3.old _ (by omega)]; exact hx2.get, flatL_len, by omega⟩, flatL_one, fun k j hk hj => by
        rw [flatL_get (c := fun k j => .int .i64 (if j = 0 then sA k else if j = 1 then lA k else rA k)) hk hj]
        have : ¬ k = m := by omega
        simp only [this, if_false]⟩
    obtain ⟨S', g4, e, e', gS', hk4⟩ := gS.append (bytes := 24) (cap := 1) (by omega) (by omega) (by omega) hx3.get rfl rfl (fun j hj => by
      simp only [if_true]
      obtain rfl | rfl | rfl : j = 0 ∨ j = 1 ∨ j = 2 := by omega
      all_goals rfl) (by simp [maxBytes]; omega) (by simp [maxBytes]; omega)
    have n4 := hk4.next
    have f4 := hk4.floor
    refine ⟨_, g3, S', g4, by rw [sl_samp]; exact q3, e, gS'.one, gS'.cells, fun i hi => ?_, by omega, by omega, by omega, by omega, fun a k c e2 => by rw [e'] at e2; cases e2; show h.next ≤ g3.next; omega⟩
    rw [hk4.old i (by omega) fun b k c e => by cases e; show i ≠ g1.next; omega, hx3.old i (by omega), hx2.old i (by omega), hx1.old i hi]
variable {n : Nat} {h : AHeap}
section
variable {H : Type} {enc : TypeId × Value → H} {w : World} {base : Nat} {sp : Nat → Bool} {held : Bool} {fuel : Nat} {cs : List Value} {x : DataW H × List MemPlace}
structure SteepW (wd : World) (wv vv sv : Value) : Prop where
  w : FlatS wd .i64 2 wv
  v : FlatS wd .i64 4 vv
  s : FlatS wd .i64 3 sv
end
def quiet : List Nat := [46]
def e0 : Entry :=
  { next := 7, f := 25, args := [(.agg ⟨[(.int Go.IntKind.i64 (3)), (.int Go.IntKind.i64 (3)), (.slice (some ⟨2, 0, none⟩) 4 4), (.int Go.IntKind.i64 (7)), (.int Go.IntKind.i64 (8)), (.slice (some ⟨3, 0, none⟩) 2 2), (.slice (some ⟨1, 0, none⟩) 0 2)]⟩), (.agg ⟨[(.slice (some ⟨5, 0, none⟩) 4 4), (.int Go.IntKind.i64 (7)), (.slice (some ⟨6, 0, none⟩) 2 2)]⟩)], objs := [(6, .row [(.int Go.IntKind.i64 (21)), (.int Go.IntKind.i64 (9))] true 0), (5, .row [(.int Go.IntKind.i64 (2)), (.int Go.IntKind.i64 (2)), (.int Go.IntKind.i64 (2)), (.int Go.IntKind.i64 (3))] true 0), (1, .row [(.int Go.IntKind.i64 (0)), (.int Go.IntKind.i64 (1)), (.int Go.IntKind.i64 (1)), (.int Go.IntKind.i64 (0)), (.int Go.IntKind.i64 (3)), (.int Go.IntKind.i64 (1))] true 0), (3, .row [(.int Go.IntKind.i64 (0)), (.int Go.IntKind.i64 (20)), (.int Go.IntKind.i64 (22)), (.int Go.IntKind.i64 (14)), (.int Go.IntKind.i64 (1)), (.int Go.IntKind.i64 (9)), (.int Go.IntKind.i64 (9)), (.int Go.IntKind.i64 (9))] true 0), (2, .row [(.int Go.IntKind.i64 (2)), (.int Go.IntKind.i64 (3)), (.int Go.IntKind.i64 (2)), (.int Go.IntKind.i64 (2)), (.int Go.IntKind.i64 (1)), (.int Go.IntKind.i64 (2)), (.int Go.IntKind.i64 (3)), (.int Go.IntKind.i64 (3))] true 0)], val := (.tuple ⟨[(.slice (some ⟨192, 0, none⟩) 2 4611686018427387904), (.slice (some ⟨227, 0, none⟩) 2 4611686018427387904), (.int Go.IntKind.i64 (0))]⟩), next' := 228, objs' := [(197, .row [(.int Go.IntKind.i64 (0)), (.int Go.IntKind.i64 (1)), (.int Go.IntKind.i64 (1))] true 0), (135, .row [(.int Go.IntKind.i64 (0)), (.int Go.IntKind.i64 (0)), (.int Go.IntKind.i64 (1)), (.int Go.IntKind.i64 (2))] true 0), (227, .row [(.slice (some ⟨135, 0, none⟩) 4 4), (.slice (some ⟨197, 0, none⟩) 3 3)] true 1), (174, .row [(.int Go.IntKind.i64 (6)), (.int Go.IntKind.i64 (9)), (.int Go.IntKind.i64 (9))] true 0), (107, .row [(.int Go.IntKind.i64 (6)), (.int Go.IntKind.i64 (12)), (.int Go.IntKind.i64 (18)), (.int Go.IntKind.i64 (21))] true 0), (192, .row [(.slice (some ⟨107, 0, none⟩) 4 4), (.slice (some ⟨174, 0, none⟩) 3 3)] true 1)] }
def e1 : Entry :=
  { next := 232, f := 35, args := [(.agg ⟨[(.int Go.IntKind.i64 (3)), (.int Go.IntKind.i64 (3)), (.slice (some ⟨230, 0, none⟩) 4 4), (.int Go.IntKind.i64 (7)), (.int Go.IntKind.i64 (8)), (.slice (some ⟨231, 0, none⟩) 2 2), (.slice (some ⟨229, 0, none⟩) 0 2)]⟩), (.int Go.IntKind.i64 (0))], objs := [(229, .row [(.int Go.IntKind.i64 (0)), (.int Go.IntKind.i64 (1)), (.int Go.IntKind.i64 (1)), (.int Go.IntKind.i64 (0)), (.int Go.IntKind.i64 (3)), (.int Go.IntKind.i64 (1))] true 0), (231, .row [(.int Go.IntKind.i64 (0)), (.int Go.IntKind.i64 (20)), (.int Go.IntKind.i64 (22)), (.int Go.IntKind.i64 (14)), (.int Go.IntKind.i64 (1)), (.int Go.IntKind.i64 (9)), (.int Go.IntKind.i64 (9)), (.int Go.IntKind.i64 (9))] true 0), (230, .row [(.int Go.IntKind.i64 (2)), (.int Go.IntKind.i64 (3)), (.int Go.IntKind.i64 (2)), (.int Go.IntKind.i64 (2)), (.int Go.IntKind.i64 (1)), (.int Go.IntKind.i64 (2)), (.int Go.IntKind.i64 (3)), (.int Go.IntKind.i64 (3))] true 0)], val := (.tuple ⟨[(.slice (some ⟨524, 0, none⟩) 4 4611686018427387904), (.int Go.IntKind.i64 (0))]⟩), next' := 1238, objs' := [(524, .row [(.int Go.IntKind.i64 (6)), (.int Go.IntKind.i64 (9)), (.int Go.IntKind.i64 (12)), (.int Go.IntKind.i64 (15)), (.int Go.IntKind.i64 (15)), (.int Go.IntKind.i64 (21)), (.int Go.IntKind.i64 (20)), (.int Go.IntKind.i64 (22))] true 2)] }
def e2 : Entry :=
  { next := 1242, f := 40, args := [(.agg ⟨[(.int Go.IntKind.i64 (3)), (.int Go.IntKind.i64 (3)), (.slice (some ⟨1240, 0, none⟩) 4 4), (.int Go.IntKind.i64 (7)), (.int Go.IntKind.i64 (8)), (.slice (some ⟨1241, 0, none⟩) 2 2), (.slice (some ⟨1239, 0, none⟩) 0 2)]⟩), (.int Go.IntKind.i64 (0)), (.int Go.IntKind.i64 (1))], objs := [(1239, .row [(.int Go.IntKind.i64 (0)), (.int Go.IntKind.i64 (1)), (.int Go.IntKind.i64 (1)), (.int Go.IntKind.i64 (0)), (.int Go.IntKind.i64 (3)), (.int Go.IntKind.i64 (1))] true 0), (1241, .row [(.int Go.IntKind.i64 (0)), (.int Go.IntKind.i64 (20)), (.int Go.IntKind.i64 (22)), (.int Go.IntKind.i64 (14)), (.int Go.IntKind.i64 (1)), (.int Go.IntKind.i64 (9)), (.int Go.IntKind.i64 (9)), (.int Go.IntKind.i64 (9))] true 0), (1240, .row [(.int Go.IntKind.i64 (2)), (.int Go.IntKind.i64 (3)), (.int Go.IntKind.i64 (2)), (.int Go.IntKind.i64 (2)), (.int Go.IntKind.i64 (1)), (.int Go.IntKind.i64 (2)), (.int Go.IntKind.i64 (3)), (.int Go.IntKind.i64 (3))] true 0)], val := (.tuple ⟨[(.int Go.IntKind.i64 (3)), (.int Go.IntKind.i64 (0))]⟩), next' := 2431, objs' := [] }
def e3 : Entry :=
  { next := 2435, f := 44, args := [(.agg ⟨[(.int Go.IntKind.i64 (3)), (.int Go.IntKind.i64 (3)), (.slice (some ⟨2433, 0, none⟩) 4 4), (.int Go.IntKind.i64 (7)), (.int Go.IntKind.i64 (8)), (.slice (some ⟨2434, 0, none⟩) 2 2), (.slice (some ⟨2432, 0, none⟩) 1 2)]⟩), (.int Go.IntKind.i64 (0))], objs := [(2432, .row [(.int Go.IntKind.i64 (0)), (.int Go.IntKind.i64 (1)), (.int Go.IntKind.i64 (1)), (.int Go.IntKind.i64 (0)), (.int Go.IntKind.i64 (3)), (.int Go.IntKind.i64 (1))] true 0), (2434, .row [(.int Go.IntKind.i64 (0)), (.int Go.IntKind.i64 (20)), (.int Go.IntKind.i64 (22)), (.int Go.IntKind.i64 (14)), (.int Go.IntKind.i64 (1)), (.int Go.IntKind.i64 (9)), (.int Go.IntKind.i64 (9)), (.int Go.IntKind.i64 (9))] true 0), (2433, .row [(.int Go.IntKind.i64 (2)), (.int Go.IntKind.i64 (3)), (.int Go.IntKind.i64 (2)), (.int Go.IntKind.i64 (2)), (.int Go.IntKind.i64 (1)), (.int Go.IntKind.i64 (2)), (.int Go.IntKind.i64 (3)), (.int Go.IntKind.i64 (3))] true 0)], val := (.tuple ⟨[(.agg ⟨[(.int Go.IntKind.i64 (1)), (.int Go.IntKind.i64 (2))]⟩), (.int Go.IntKind.i64 (0))]⟩), next' := 3476, objs' := [] }
def e4 : Entry :=
  { next := 3481, f := 47, args := [(.agg ⟨[(.int Go.IntKind.i64 (3)), (.int Go.IntKind.i64 (3)), (.slice (some ⟨3479, 0, none⟩) 4 4), (.int Go.IntKind.i64 (7)), (.int Go.IntKind.i64 (8)), (.slice (some ⟨3480, 0, none⟩) 2 2), (.slice (some ⟨3478, 0, none⟩) 0 2)]⟩)], objs := [(3478, .row [(.int Go.IntKind.i64 (0)), (.int Go.IntKind.i64 (1)), (.int Go.IntKind.i64 (1)), (.int Go.IntKind.i64 (0)), (.int Go.IntKind.i64 (3)), (.int Go.IntKind.i64 (1))] true 0), (3480, .row [(.int Go.IntKind.i64 (0)), (.int Go.IntKind.i64 (20)), (.int Go.IntKind.i64 (22)), (.int Go.IntKind.i64 (16)), (.int Go.IntKind.i64 (1)), (.int Go.IntKind.i64 (9)), (.int Go.IntKind.i64 (9)), (.int Go.IntKind.i64 (9))] true 0), (3479, .row [(.int Go.IntKind.i64 (2)), (.int Go.IntKind.i64 (3)), (.int Go.IntKind.i64 (2)), (.int Go.IntKind.i64 (2)), (.int Go.IntKind.i64 (1)), (.int Go.IntKind.i64 (2)), (.int Go.IntKind.i64 (3)), (.int Go.IntKind.i64 (3))] true 0)], val := (.tuple ⟨[(.int Go.IntKind.i64 (0)), (.int Go.IntKind.i64 (0))]⟩), next' := 4673, objs' := [] }
def e5 : Entry :=
  { next := 4678, f := 94, args := [(.agg ⟨[(.int Go.IntKind.i64 (3)), (.int Go.IntKind.i64 (3)), (.slice (some ⟨4675, 0, none⟩) 4 4), (.int Go.IntKind.i64 (7)), (.int Go.IntKind.i64 (8)), (.slice (some ⟨4676, 0, none⟩) 2 2), (.slice (some ⟨4674, 0, none⟩) 0 2)]⟩)], objs := [(4674, .row [(.int Go.IntKind.i64 (0)), (.int Go.IntKind.i64 (1)), (.int Go.IntKind.i64 (1)), (.int Go.IntKind.i64 (0)), (.int Go.IntKind.i64 (3)), (.int Go.IntKind.i64 (1))] true 0), (4676, .row [(.int Go.IntKind.i64 (0)), (.int Go.IntKind.i64 (20)), (.int Go.IntKind.i64 (22)), (.int Go.IntKind.i64 (14)), (.int Go.IntKind.i64 (1)), (.int Go.IntKind.i64 (9)), (.int Go.IntKind.i64 (9)), (.int Go.IntKind.i64 (9))] true 0), (4675, .row [(.int Go.IntKind.i64 (2)), (.int Go.IntKind.i64 (3)), (.int Go.IntKind.i64 (2)), (.int Go.IntKind.i64 (2)), (.int Go.IntKind.i64 (1)), (.int Go.IntKind.i64 (2)), (.int Go.IntKind.i64 (3)), (.int Go.IntKind.i64 (3))] true 0)], val := (.tuple ⟨[(.agg ⟨[(.int Go.IntKind.i64 (3)), (.int Go.IntKind.i64 (3)), (.slice (some ⟨4675, 0, none⟩) 4 4), (.int Go.IntKind.i64 (7)), (.int Go.IntKind.i64 (8)), (.slice (some ⟨4676, 0, none⟩) 2 2), (.slice (some ⟨4674, 0, none⟩) 0 2), (.slice (some ⟨4929, 0, none⟩) 24 4611686018427387904)]⟩), (.int Go.IntKind.i64 (0))]⟩), next' := 4931, objs' := [(4929, .row [(.int Go.IntKind.i64 (2)), (.int Go.IntKind.i64 (2)), (.int Go.IntKind.i64 (1)), (.int Go.IntKind.i64 (3)), (.int Go.IntKind.i64 (0)), (.int Go.IntKind.i64 (0)), (.int Go.IntKind.i64 (7)), (.int Go.IntKind.i64 (20)), (.int Go.IntKind.i64 (9)), (.int Go.IntKind.i64 (0)), (.int Go.IntKind.i64 (0)), (.int Go.IntKind.i64 (2)), (.int Go.IntKind.i64 (2)), (.int Go.IntKind.i64 (1)), (.int Go.IntKind.i64 (3)), (.int Go.IntKind.i64 (0)), (.int Go.IntKind.i64 (0)), (.int Go.IntKind.i64 (7)), (.int Go.IntKind.i64 (21)), (.int Go.IntKind.i64 (9)), (.int Go.IntKind.i64 (0)), (.int Go.IntKind.i64 (0)), (.int Go.IntKind.i64 (2)), (.int Go.IntKind.i64 (2)), (.int Go.IntKind.i64 (1)), (.int Go.IntKind.i64 (3)), (.int Go.IntKind.i64 (0)), (.int Go.IntKind.i64 (0)), (.int Go.IntKind.i64 (7)), (.int Go.IntKind.i64 (22)), (.int Go.IntKind.i64 (9)), (.int Go.IntKind.i64 (0)), (.int Go.IntKind.i64 (0)), (.int Go.IntKind.i64 (2)), (.int Go.IntKind.i64 (2)), (.int Go.IntKind.i64 (1)), (.int Go.IntKind.i64 (3)), (.int Go.IntKind.i64 (0)), (.int Go.IntKind.i64 (0)), (.int Go.IntKind.i64 (8)), (.int Go.IntKind.i64 (20)), (.int Go.IntKind.i64 (9)), (.int Go.IntKind.i64 (0)), (.int Go.IntKind.i64 (0)), (.int Go.IntKind.i64 (2)), (.int Go.IntKind.i64 (2)), (.int Go.IntKind.i64 (1)), (.int Go.IntKind.i64 (3)), (.int Go.IntKind.i64 (0)), (.int Go.IntKind.i64 (0)), (.int Go.IntKind.i64 (8)), (.int Go.IntKind.i64 (21)), (.int Go.IntKind.i64 (9)), (.int Go.IntKind.i64 (0)), (.int Go.IntKind.i64 (0)), (.int Go.IntKind.i64 (2)), (.int Go.IntKind.i64 (2)), (.int Go.IntKind.i64 (1)), (.int Go.IntKind.i64 (3)), (.int Go.IntKind.i64 (0)), (.int Go.IntKind.i64 (0)), (.int Go.IntKind.i64 (8)), (.int Go.IntKind.i64 (22)), (.int Go.IntKind.i64 (9)), (.int Go.IntKind.i64 (0)), (.int Go.IntKind.i64 (0)), (.int Go.IntKind.i64 (2)), (.int Go.IntKind.i64 (2)), (.int Go.IntKind.i64 (2)), (.int Go.IntKind.i64 (3)), (.int Go.IntKind.i64 (0)), (.int Go.IntKind.i64 (0)), (.int Go.IntKind.i64 (7)), (.int Go.IntKind.i64 (20)), (.int Go.IntKind.i64 (9)), (.int Go.IntKind.i64 (0)), (.int Go.IntKind.i64 (0)), (.int Go.IntKind.i64 (2)), (.int Go.IntKind.i64 (2)), (.int Go.IntKind.i64 (2)), (.int Go.IntKind.i64 (3)), (.int Go.IntKind.i64 (0)), (.int Go.IntKind.i64 (0)), (.int Go.IntKind.i64 (7)), (.int Go.IntKind.i64 (21)), (.int Go.IntKind.i64 (9)), (.int Go.IntKind.i64 (0)), (.int Go.IntKind.i64 (0)), (.int Go.IntKind.i64 (2)), (.int Go.IntKind.i64 (2)), (.int Go.IntKind.i64 (2)), (.int Go.IntKind.i64 (3)), (.int Go.IntKind.i64 (0)), (.int Go.IntKind.i64 (0)), (.int Go.IntKind.i64 (7)), (.int Go.IntKind.i64 (22)), (.int Go.IntKind.i64 (9)), (.int Go.IntKind.i64 (0)), (.int Go.IntKind.i64 (0)), (.int Go.IntKind.i64 (2)), (.int Go.IntKind.i64 (2)), (.int Go.IntKind.i64 (2)), (.int Go.IntKind.i64 (3)), (.int Go.IntKind.i64 (0)), (.int Go.IntKind.i64 (0)), (.int Go.IntKind.i64 (8)), (.int Go.IntKind.i64 (20)), (.int Go.IntKind.i64 (9)), (.int Go.IntKind.i64 (0)), (.int Go.IntKind.i64 (0)), (.int Go.IntKind.i64 (2)), (.int Go.IntKind.i64 (2)), (.int Go.IntKind.i64 (2)), (.int Go.IntKind.i64 (3)), (.int Go.IntKind.i64 (0)), (.int Go.IntKind.i64 (0)), (.int Go.IntKind.i64 (8)), (.int Go.IntKind.i64 (21)), (.int Go.IntKind.i64 (9)), (.int Go.IntKind.i64 (0)), (.int Go.IntKind.i64 (0)), (.int Go.IntKind.i64 (2)), (.int Go.IntKind.i64 (2)), (.int Go.IntKind.i64 (2)), (.int Go.IntKind.i64 (3)), (.int Go.IntKind.i64 (0)), (.int Go.IntKind.i64 (0)), (.int Go.IntKind.i64 (8)), (.int Go.IntKind.i64 (22)), (.int Go.IntKind.i64 (9)), (.int Go.IntKind.i64 (0)), (.int Go.IntKind.i64 (0)), (.int Go.IntKind.i64 (3)), (.int Go.IntKind.i64 (2)), (.int Go.IntKind.i64 (1)), (.int Go.IntKind.i64 (3)), (.int Go.IntKind.i64 (0)), (.int Go.IntKind.i64 (0)), (.int Go.IntKind.i64 (7)), (.int Go.IntKind.i64 (20)), (.int Go.IntKind.i64 (9)), (.int Go.IntKind.i64 (0)), (.int Go.IntKind.i64 (0)), (.int Go.IntKind.i64 (3)), (.int Go.IntKind.i64 (2)), (.int Go.IntKind.i64 (1)), (.int Go.IntKind.i64 (3)), (.int Go.IntKind.i64 (0)), (.int Go.IntKind.i64 (0)), (.int Go.IntKind.i64 (7)), (.int Go.IntKind.i64 (21)), (.int Go.IntKind.i64 (9)), (.int Go.IntKind.i64 (0)), (.int Go.IntKind.i64 (0)), (.int Go.IntKind.i64 (3)), (.int Go.IntKind.i64 (2)), (.int Go.IntKind.i64 (1)), (.int Go.IntKind.i64 (3)), (.int Go.IntKind.i64 (0)), (.int Go.IntKind.i64 (0)), (.int Go.IntKind.i64 (7)), (.int Go.IntKind.i64 (22)), (.int Go.IntKind.i64 (9)), (.int Go.IntKind.i64 (0)), (.int Go.IntKind.i64 (0)), (.int Go.IntKind.i64 (3)), (.int Go.IntKind.i64 (2)), (.int Go.IntKind.i64 (1)), (.int Go.IntKind.i64 (3)), (.int Go.IntKind.i64 (0)), (.int Go.IntKind.i64 (0)), (.int Go.IntKind.i64 (8)), (.int Go.IntKind.i64 (20)), (.int Go.IntKind.i64 (9)), (.int Go.IntKind.i64 (0)), (.int Go.IntKind.i64 (0)), (.int Go.IntKind.i64 (3)), (.int Go.IntKind.i64 (2)), (.int Go.IntKind.i64 (1)), (.int Go.IntKind.i64 (3)), (.int Go.IntKind.i64 (0)), (.int Go.IntKind.i64 (0)), (.int Go.IntKind.i64 (8)), (.int Go.IntKind.i64 (21)), (.int Go.IntKind.i64 (9)), (.int Go.IntKind.i64 (0)), (.int Go.IntKind.i64 (0)), (.int Go.IntKind.i64 (3)), (.int Go.IntKind.i64 (2)), (.int Go.IntKind.i64 (1)), (.int Go.IntKind.i64 (3)), (.int Go.IntKind.i64 (0)), (.int Go.IntKind.i64 (0)), (.int Go.IntKind.i64 (8)), (.int Go.IntKind.i64 (22)), (.int Go.IntKind.i64 (9)), (.int Go.IntKind.i64 (0)), (.int Go.IntKind.i64 (0)), (.int Go.IntKind.i64 (3)), (.int Go.IntKind.i64 (2)), (.int Go.IntKind.i64 (2)), (.int Go.IntKind.i64 (3)), (.int Go.IntKind.i64 (0)), (.int Go.IntKind.i64 (0)), (.int Go.IntKind.i64 (7)), (.int Go.IntKind.i64 (20)), (.int Go.IntKind.i64 (9)), (.int Go.IntKind.i64 (0)), (.int Go.IntKind.i64 (0)), (.int Go.IntKind.i64 (3)), (.int Go.IntKind.i64 (2)), (.int Go.IntKind.i64 (2)), (.int Go.IntKind.i64 (3)), (.int Go.IntKind.i64 (0)), (.int Go.IntKind.i64 (0)), (.int Go.IntKind.i64 (7)), (.int Go.IntKind.i64 (21)), (.int Go.IntKind.i64 (9)), (.int Go.IntKind.i64 (0)), (.int Go.IntKind.i64 (0)), (.int Go.IntKind.i64 (3)), (.int Go.IntKind.i64 (2)), (.int Go.IntKind.i64 (2)), (.int Go.IntKind.i64 (3)), (.int Go.IntKind.i64 (0)), (.int Go.IntKind.i64 (0)), (.int Go.IntKind.i64 (7)), (.int Go.IntKind.i64 (22)), (.int Go.IntKind.i64 (9)), (.int Go.IntKind.i64 (0)), (.int Go.IntKind.i64 (0)), (.int Go.IntKind.i64 (3)), (.int Go.IntKind.i64 (2)), (.int Go.IntKind.i64 (2)), (.int Go.IntKind.i64 (3)), (.int Go.IntKind.i64 (0)), (.int Go.IntKind.i64 (0)), (.int Go.IntKind.i64 (8)), (.int Go.IntKind.i64 (20)), (.int Go.IntKind.i64 (9)), (.int Go.IntKind.i64 (0)), (.int Go.IntKind.i64 (0)), (.int Go.IntKind.i64 (3)), (.int Go.IntKind.i64 (2)), (.int Go.IntKind.i64 (2)), (.int Go.IntKind.i64 (3)), (.int Go.IntKind.i64 (0)), (.int Go.IntKind.i64 (0)), (.int Go.IntKind.i64 (8)), (.int Go.IntKind.i64 (21)), (.int Go.IntKind.i64 (9)), (.int Go.IntKind.i64 (0)), (.int Go.IntKind.i64 (0)), (.int Go.IntKind.i64 (3)), (.int Go.IntKind.i64 (2)), (.int Go.IntKind.i64 (2)), (.int Go.IntKind.i64 (3)), (.int Go.IntKind.i64 (0)), (.int Go.IntKind.i64 (0)), (.int Go.IntKind.i64 (8)), (.int Go.IntKind.i64 (22)), (.int Go.IntKind.i64 (9)), (.int Go.IntKind.i64 (0)), (.int Go.IntKind.i64 (0))] true 11)] }
def e6 : Entry :=
  { next := 4932, f := 95, args := [(.agg ⟨[(.int Go.IntKind.i64 (3)), (.int Go.IntKind.i64 (3)), (.slice (some ⟨4675, 0, none⟩) 4 4), (.int Go.IntKind.i64 (7)), (.int Go.IntKind.i64 (8)), (.slice (some ⟨4676, 0, none⟩) 2 2), (.slice (some ⟨4674, 0, none⟩) 0 2), (.slice (some ⟨4929, 0, none⟩) 24 4611686018427387904)]⟩)], objs := [(4929, .row [(.int Go.IntKind.i64 (2)), (.int Go.IntKind.i64 (2)), (.int Go.IntKind.i64 (1)), (.int Go.IntKind.i64 (3)), (.int Go.IntKind.i64 (0)), (.int Go.IntKind.i64 (0)), (.int Go.IntKind.i64 (7)), (.int Go.IntKind.i64 (20)), (.int Go.IntKind.i64 (9)), (.int Go.IntKind.i64 (0)), (.int Go.IntKind.i64 (0)), (.int Go.IntKind.i64 (2)), (.int Go.IntKind.i64 (2)), (.int Go.IntKind.i64 (1)), (.int Go.IntKind.i64 (3)), (.int Go.IntKind.i64 (0)), (.int Go.IntKind.i64 (0)), (.int Go.IntKind.i64 (7)), (.int Go.IntKind.i64 (21)), (.int Go.IntKind.i64 (9)), (.int Go.IntKind.i64 (0)), (.int Go.IntKind.i64 (0)), (.int Go.IntKind.i64 (2)), (.int Go.IntKind.i64 (2)), (.int Go.IntKind.i64 (1)), (.int Go.IntKind.i64 (3)), (.int Go.IntKind.i64 (0)), (.int Go.IntKind.i64 (0)), (.int Go.IntKind.i64 (7)), (.int Go.IntKind.i64 (22)), (.int Go.IntKind.i64 (9)), (.int Go.IntKind.i64 (0)), (.int Go.IntKind.i64 (0)), (.int Go.IntKind.i64 (2)), (.int Go.IntKind.i64 (2)), (.int Go.IntKind.i64 (1)), (.int Go.IntKind.i64 (3)), (.int Go.IntKind.i64 (0)), (.int Go.IntKind.i64 (0)), (.int Go.IntKind.i64 (8)), (.int Go.IntKind.i64 (20)), (.int Go.IntKind.i64 (9)), (.int Go.IntKind.i64 (0)), (.int Go.IntKind.i64 (0)), (.int Go.IntKind.i64 (2)), (.int Go.IntKind.i64 (2)), (.int Go.IntKind.i64 (1)), (.int Go.IntKind.i64 (3)), (.int Go.IntKind.i64 (0)), (.int Go.IntKind.i64 (0)), (.int Go.IntKind.i64 (8)), (.int Go.IntKind.i64 (21)), (.int Go.IntKind.i64 (9)), (.int Go.IntKind.i64 (0)), (.int Go.IntKind.i64 (0)), (.int Go.IntKind.i64 (2)), (.int Go.IntKind.i64 (2)), (.int Go.IntKind.i64 (1)), (.int Go.IntKind.i64 (3)), (.int Go.IntKind.i64 (0)), (.int Go.IntKind.i64 (0)), (.int Go.IntKind.i64 (8)), (.int Go.IntKind.i64 (22)), (.int Go.IntKind.i64 (9)), (.int Go.IntKind.i64 (0)), (.int Go.IntKind.i64 (0)), (.int Go.IntKind.i64 (2)), (.int Go.IntKind.i64 (2)), (.int Go.IntKind.i64 (2)), (.int Go.IntKind.i64 (3)), (.int Go.IntKind.i64 (0)), (.int Go.IntKind.i64 (0)), (.int Go.IntKind.i64 (7)), (.int Go.IntKind.i64 (20)), (.int Go.IntKind.i64 (9)), (.int Go.IntKind.i64 (0)), (.int Go.IntKind.i64 (0)), (.int Go.IntKind.i64 (2)), (.int Go.IntKind.i64 (2)), (.int Go.IntKind.i64 (2)), (.int Go.IntKind.i64 (3)), (.int Go.IntKind.i64 (0)), (.int Go.IntKind.i64 (0)), (.int Go.IntKind.i64 (7)), (.int Go.IntKind.i64 (21)), (.int Go.IntKind.i64 (9)), (.int Go.IntKind.i64 (0)), (.int Go.IntKind.i64 (0)), (.int Go.IntKind.i64 (2)), (.int Go.IntKind.i64 (2)), (.int Go.IntKind.i64 (2)), (.int Go.IntKind.i64 (3)), (.int Go.IntKind.i64 (0)), (.int Go.IntKind.i64 (0)), (.int Go.IntKind.i64 (7)), (.int Go.IntKind.i64 (22)), (.int Go.IntKind.i64 (9)), (.int Go.IntKind.i64 (0)), (.int Go.IntKind.i64 (0)), (.int Go.IntKind.i64 (2)), (.int Go.IntKind.i64 (2)), (.int Go.IntKind.i64 (2)), (.int Go.IntKind.i64 (3)), (.int Go.IntKind.i64 (0)), (.int Go.IntKind.i64 (0)), (.int Go.IntKind.i64 (8)), (.int Go.IntKind.i64 (20)), (.int Go.IntKind.i64 (9)), (.int Go.IntKind.i64 (0)), (.int Go.IntKind.i64 (0)), (.int Go.IntKind.i64 (2)), (.int Go.IntKind.i64 (2)), (.int Go.IntKind.i64 (2)), (.int Go.IntKind.i64 (3)), (.int Go.IntKind.i64 (0)), (.int Go.IntKind.i64 (0)), (.int Go.IntKind.i64 (8)), (.int Go.IntKind.i64 (21)), (.int Go.IntKind.i64 (9)), (.int Go.IntKind.i64 (0)), (.int Go.IntKind.i64 (0)), (.int Go.IntKind.i64 (2)), (.int Go.IntKind.i64 (2)), (.int Go.IntKind.i64 (2)), (.int Go.IntKind.i64 (3)), (.int Go.IntKind.i64 (0)), (.int Go.IntKind.i64 (0)), (.int Go.IntKind.i64 (8)), (.int Go.IntKind.i64 (22)), (.int Go.IntKind.i64 (9)), (.int Go.IntKind.i64 (0)), (.int Go.IntKind.i64 (0)), (.int Go.IntKind.i64 (3)), (.int Go.IntKind.i64 (2)), (.int Go.IntKind.i64 (1)), (.int Go.IntKind.i64 (3)), (.int Go.IntKind.i64 (0)), (.int Go.IntKind.i64 (0)), (.int Go.IntKind.i64 (7)), (.int Go.IntKind.i64 (20)), (.int Go.IntKind.i64 (9)), (.int Go.IntKind.i64 (0)), (.int Go.IntKind.i64 (0)), (.int Go.IntKind.i64 (3)), (.int Go.IntKind.i64 (2)), (.int Go.IntKind.i64 (1)), (.int Go.IntKind.i64 (3)), (.int Go.IntKind.i64 (0)), (.int Go.IntKind.i64 (0)), (.int Go.IntKind.i64 (7)), (.int Go.IntKind.i64 (21)), (.int Go.IntKind.i64 (9)), (.int Go.IntKind.i64 (0)), (.int Go.IntKind.i64 (0)), (.int Go.IntKind.i64 (3)), (.int Go.IntKind.i64 (2)), (.int Go.IntKind.i64 (1)), (.int Go.IntKind.i64 (3)), (.int Go.IntKind.i64 (0)), (.int Go.IntKind.i64 (0)), (.int Go.IntKind.i64 (7)), (.int Go.IntKind.i64 (22)), (.int Go.IntKind.i64 (9)), (.int Go.IntKind.i64 (0)), (.int Go.IntKind.i64 (0)), (.int Go.IntKind.i64 (3)), (.int Go.IntKind.i64 (2)), (.int Go.IntKind.i64 (1)), (.int Go.IntKind.i64 (3)), (.int Go.IntKind.i64 (0)), (.int Go.IntKind.i64 (0)), (.int Go.IntKind.i64 (8)), (.int Go.IntKind.i64 (20)), (.int Go.IntKind.i64 (9)), (.int Go.IntKind.i64 (0)), (.int Go.IntKind.i64 (0)), (.int Go.IntKind.i64 (3)), (.int Go.IntKind.i64 (2)), (.int Go.IntKind.i64 (1)), (.int Go.IntKind.i64 (3)), (.int Go.IntKind.i64 (0)), (.int Go.IntKind.i64 (0)), (.int Go.IntKind.i64 (8)), (.int Go.IntKind.i64 (21)), (.int Go.IntKind.i64 (9)), (.int Go.IntKind.i64 (0)), (.int Go.IntKind.i64 (0)), (.int Go.IntKind.i64 (3)), (.int Go.IntKind.i64 (2)), (.int Go.IntKind.i64 (1)), (.int Go.IntKind.i64 (3)), (.int Go.IntKind.i64 (0)), (.int Go.IntKind.i64 (0)), (.int Go.IntKind.i64 (8)), (.int Go.IntKind.i64 (22)), (.int Go.IntKind.i64 (9)), (.int Go.IntKind.i64 (0)), (.int Go.IntKind.i64 (0)), (.int Go.IntKind.i64 (3)), (.int Go.IntKind.i64 (2)), (.int Go.IntKind.i64 (2)), (.int Go.IntKind.i64 (3)), (.int Go.IntKind.i64 (0)), (.int Go.IntKind.i64 (0)), (.int Go.IntKind.i64 (7)), (.int Go.IntKind.i64 (20)), (.int Go.IntKind.i64 (9)), (.int Go.IntKind.i64 (0)), (.int Go.IntKind.i64 (0)), (.int Go.IntKind.i64 (3)), (.int Go.IntKind.i64 (2)), (.int Go.IntKind.i64 (2)), (.int Go.IntKind.i64 (3)), (.int Go.IntKind.i64 (0)), (.int Go.IntKind.i64 (0)), (.int Go.IntKind.i64 (7)), (.int Go.IntKind.i64 (21)), (.int Go.IntKind.i64 (9)), (.int Go.IntKind.i64 (0)), (.int Go.IntKind.i64 (0)), (.int Go.IntKind.i64 (3)), (.int Go.IntKind.i64 (2)), (.int Go.IntKind.i64 (2)), (.int Go.IntKind.i64 (3)), (.int Go.IntKind.i64 (0)), (.int Go.IntKind.i64 (0)), (.int Go.IntKind.i64 (7)), (.int Go.IntKind.i64 (22)), (.int Go.IntKind.i64 (9)), (.int Go.IntKind.i64 (0)), (.int Go.IntKind.i64 (0)), (.int Go.IntKind.i64 (3)), (.int Go.IntKind.i64 (2)), (.int Go.IntKind.i64 (2)), (.int Go.IntKind.i64 (3)), (.int Go.IntKind.i64 (0)), (.int Go.IntKind.i64 (0)), (.int Go.IntKind.i64 (8)), (.int Go.IntKind.i64 (20)), (.int Go.IntKind.i64 (9)), (.int Go.IntKind.i64 (0)), (.int Go.IntKind.i64 (0)), (.int Go.IntKind.i64 (3)), (.int Go.IntKind.i64 (2)), (.int Go.IntKind.i64 (2)), (.int Go.IntKind.i64 (3)), (.int Go.IntKind.i64 (0)), (.int Go.IntKind.i64 (0)), (.int Go.IntKind.i64 (8)), (.int Go.IntKind.i64 (21)), (.int Go.IntKind.i64 (9)), (.int Go.IntKind.i64 (0)), (.int Go.IntKind.i64 (0)), (.int Go.IntKind.i64 (3)), (.int Go.IntKind.i64 (2)), (.int Go.IntKind.i64 (2)), (.int Go.IntKind.i64 (3)), (.int Go.IntKind.i64 (0)), (.int Go.IntKind.i64 (0)), (.int Go.IntKind.i64 (8)), (.int Go.IntKind.i64 (22)), (.int Go.IntKind.i64 (9)), (.int Go.IntKind.i64 (0)), (.int Go.IntKind.i64 (0))] true 11), (4674, .row [(.int Go.IntKind.i64 (0)), (.int Go.IntKind.i64 (1)), (.int Go.IntKind.i64 (1)), (.int Go.IntKind.i64 (0)), (.int Go.IntKind.i64 (3)), (.int Go.IntKind.i64 (1))] true 0), (4676, .row [(.int Go.IntKind.i64 (0)), (.int Go.IntKind.i64 (20)), (.int Go.IntKind.i64 (22)), (.int Go.IntKind.i64 (14)), (.int Go.IntKind.i64 (1)), (.int Go.IntKind.i64 (9)), (.int Go.IntKind.i64 (9)), (.int Go.IntKind.i64 (9))] true 0), (4675, .row [(.int Go.IntKind.i64 (2)), (.int Go.IntKind.i64 (3)), (.int Go.IntKind.i64 (2)), (.int Go.IntKind.i64 (2)), (.int Go.IntKind.i64 (1)), (.int Go.IntKind.i64 (2)), (.int Go.IntKind.i64 (3)), (.int Go.IntKind.i64 (3))] true 0)], val := (.tuple ⟨[(.int Go.IntKind.i64 (0)), (.int Go.IntKind.i64 (1)), (.int Go.IntKind.i64 (12))]⟩), next' := 6684, objs' := [] }
def e7 : Entry :=
  { next := 6688, f := 51, args := [(.agg ⟨[(.int Go.IntKind.i64 (3)), (.int Go.IntKind.i64 (3)), (.slice (some ⟨6686, 0, none⟩) 4 4), (.int Go.IntKind.i64 (7)), (.int Go.IntKind.i64 (8)), (.slice (some ⟨6687, 0, none⟩) 2 2), (.slice (some ⟨6685, 0, none⟩) 2 2)]⟩)], objs := [(6685, .row [(.int Go.IntKind.i64 (0)), (.int Go.IntKind.i64 (1)), (.int Go.IntKind.i64 (1)), (.int Go.IntKind.i64 (0)), (.int Go.IntKind.i64 (3)), (.int Go.IntKind.i64 (1))] true 0), (6687, .row [(.int Go.IntKind.i64 (0)), (.int Go.IntKind.i64 (20)), (.int Go.IntKind.i64 (22)), (.int Go.IntKind.i64 (14)), (.int Go.IntKind.i64 (1)), (.int Go.IntKind.i64 (9)), (.int Go.IntKind.i64 (9)), (.int Go.IntKind.i64 (9))] true 0), (6686, .row [(.int Go.IntKind.i64 (2)), (.int Go.IntKind.i64 (3)), (.int Go.IntKind.i64 (2)), (.int Go.IntKind.i64 (2)), (.int Go.IntKind.i64 (1)), (.int Go.IntKind.i64 (2)), (.int Go.IntKind.i64 (3)), (.int Go.IntKind.i64 (3))] true 0)], val := (.tuple ⟨[(.int Go.IntKind.i64 (1)), (.int Go.IntKind.i64 (0))]⟩), next' := 7485, objs' := [] }
def e8 : Entry :=
  { next := 7489, f := 52, args := [(.agg ⟨[(.int Go.IntKind.i64 (3)), (.int Go.IntKind.i64 (3)), (.slice (some ⟨7487, 0, none⟩) 4 4), (.int Go.IntKind.i64 (7)), (.int Go.IntKind.i64 (8)), (.slice (some ⟨7488, 0, none⟩) 2 2), (.slice (some ⟨7486, 0, none⟩) 2 2)]⟩)], objs := [(7486, .row [(.int Go.IntKind.i64 (0)), (.int Go.IntKind.i64 (1)), (.int Go.IntKind.i64 (1)), (.int Go.IntKind.i64 (0)), (.int Go.IntKind.i64 (3)), (.int Go.IntKind.i64 (1))] true 0), (7488, .row [(.int Go.IntKind.i64 (0)), (.int Go.IntKind.i64 (20)), (.int Go.IntKind.i64 (22)), (.int Go.IntKind.i64 (14)), (.int Go.IntKind.i64 (1)), (.int Go.IntKind.i64 (9)), (.int Go.IntKind.i64 (9)), (.int Go.IntKind.i64 (9))] true 0), (7487, .row [(.int Go.IntKind.i64 (2)), (.int Go.IntKind.i64 (3)), (.int Go.IntKind.i64 (2)), (.int Go.IntKind.i64 (2)), (.int Go.IntKind.i64 (1)), (.int Go.IntKind.i64 (2)), (.int Go.IntKind.i64 (3)), (.int Go.IntKind.i64 (3))] true 0)], val := (.tuple ⟨[(.slice (some ⟨8307, 0, none⟩) 1 4611686018427387904), (.int Go.IntKind.i64 (0))]⟩), next' := 8309, objs' := [(8307, .row [(.int Go.IntKind.i64 (0))] true 1)] }
def tab : List Entry := [e0, e1, e2, e3, e4, e5, e6, e7, e8]
def isTrue (x : Option (Value × AHeap)) : Bool := match x with
  | some (.bool true, _) => true
  | _ => false
variable {n : Nat} {h : AHeap}
theorem stands_steep {w : World} {φ : Emb} {a b c d : Int} {u0 u1 u2 fv vv sv : Value} (h0 : Stands φ h u0 fv) (h1 : Stands φ h u1 vv) (h2 : Stands φ h u2 sv) : mapV φ (.agg ⟨[.int .i64 a, .int .i64 b, u0, .int .i64 c, .int .i64 d, u1, u2]⟩) = .agg ⟨[.int .i64 a, .int .i64 b, fv, .int .i64 c, .int .i64 d, vv, sv]⟩ ∧ okV φ h.next (.agg ⟨[.int .i64 a, .int .i64 b, u0, .int .i64 c, .int .i64 d, u1, u2]⟩) := by
  refine ⟨?_, ?_⟩
  · simp only [mapV, mapArr, mapL, h0.map, h1.map, h2.map]
  · simp only [okV, okA, okL, and_true, true_and]
    exact ⟨h0.ok, h1.ok, h2.ok⟩
variable {n : Nat} {h : AHeap}
theorem lo_at {val : (Nat → Int) → Int} {L : List (Nat → Int)} (hL : L ≠ []) : ∃ k, k < L.length ∧ val (L.getD k fun _ => 0) = loN val L := by
  apply Classical.byContradiction
  intro hn
  have h1 : loN val L + 1 ≤ loN val L := (le_loN hL).2 fun t ht => by
    obtain ⟨k, hk, e⟩ := mem_getD ht
    have h2 := (le_loN hL).1 (Int.le_refl (loN val L)) t ht
    have h3 : val t ≠ loN val L := fun e' => hn ⟨k, hk, by rw [e]; exact e'⟩
    omega
  omega
theorem hi_at {val : (Nat → Int) → Int} {L : List (Nat → Int)} (hL : L ≠ []) : ∃ k, k < L.length ∧ val (L.getD k fun _ => 0) = hiN val L := by
  apply Classical.byContradiction
  intro hn
  have h1 : hiN val L ≤ hiN val L - 1 := (hiN_le hL).2 fun t ht => by
    obtain ⟨k, hk, e⟩ := mem_getD ht
    have h2 := (hiN_le hL).1 (Int.le_refl (hiN val L)) t ht
    have h3 : val t ≠ hiN val L := fun e' => hn ⟨k, hk, by rw [e]; exact e'⟩
    omega
  omega
open Classical in
noncomputable def seen (p : Nat → Prop) (k : Nat) : Bool := decide (∃ i, i < k ∧ p i)
open Classical in
theorem seen_zero {p : Nat → Prop} : seen p 0 = false := decide_eq_false fun ⟨i, hi, _⟩ => Nat.not_lt_zero _ hi
open Classical in
theorem seen_old {p : Nat → Prop} {k : Nat} (h : seen p k = true) : seen p (k + 1) = true := by
  obtain ⟨i, hi, hp⟩ := of_decide_eq_true h
  exact decide_eq_true ⟨i, by omega, hp⟩
open Classical in
theorem seen_new {p : Nat → Prop} {k : Nat} (h : p k) : seen p (k + 1) = true := decide_eq_true ⟨k, by omega, h⟩
open Classical in
theorem seen_not {p : Nat → Prop} {k : Nat} (h : seen p k = false) (hp : ¬ p k) : seen p (k + 1) = false := decide_eq_false fun ⟨i, hi, hq⟩ => by
  by_cases e : i = k
  · exact hp (e ▸ hq)
  · exact of_decide_eq_false h ⟨i, by omega, hq⟩
open Classical in
theorem seen_all {p : Nat → Prop} {k i : Nat} (hi : i < k) (hp : p i) : seen p k = true := decide_eq_true ⟨i, hi, hp⟩
variable {n : Nat} {h : AHeap}
theorem build_none1 {a : Value} : buildSl 1 0 [a] [] h [] = newSlice h [] 0 0 0 := id rfl
def chooseSV (ps pm py pn pc : Nat) : Value := .func (.func 131) ⟨[]⟩ ⟨[.pointer (some ⟨ps, 0, none⟩), .pointer (some ⟨pm, 0, none⟩), .pointer (some ⟨py, 0, none⟩), .pointer (some ⟨pn, 0, none⟩), .pointer (some ⟨pc, 0, none⟩)]⟩
structure SetS (ps pm py pn pc N M : Nat) (yv : Value) (g : AHeap) : Prop where
  y : Row g py [yv]
  m : Row g pm [.int .i64 (M : Int)]
  n : Row g pn [.int .i64 (N : Int)]
  c : Row g pc [chooseSV ps pm py pn pc]
theorem rowAt {g g' : AHeap} {q : Nat} {cs : List Value} (hr : Row g q cs) (he : g'.get q = g.get q) : Row g' q cs := by
  obtain ⟨w, gr, e⟩ := hr
  exact ⟨w, gr, by rw [he]; exact e⟩
theorem row_lt {g : AHeap} {q : Nat} {cs : List Value} (hr : Row g q cs) : q < g.next := by
  obtain ⟨w, gr, e⟩ := hr
  exact AHeap.lt_of_get e
theorem SetS.same {ps pm py pn pc N M : Nat} {yv : Value} {g g' : AHeap} (hs : SetS ps pm py pn pc N M yv g) (hy : g'.get py = g.get py) (hm : g'.get pm = g.get pm) (hn : g'.get pn = g.get pn) (hc : g'.get pc = g.get pc) : SetS ps pm py pn pc N M yv g' :=
  ⟨rowAt hs.y hy, rowAt hs.m hm, rowAt hs.n hn, rowAt hs.c hc⟩
open Classical in
theorem find_map {N d : Nat} {P : List Int → Prop} {cur : List Int} {x : Int} {l : List (List Int)} : (l.map fun q => x :: q).find? (fun q => decide (P (cur ++ q))) = (l.find? fun q => decide (P ((cur ++ [x]) ++ q))).map fun q => x :: q := by
  rw [List.find?_map]
  congr 2
  funext q
  simp
variable {n : Nat} {h : AHeap}
variable {n : Nat} {h : AHeap}
structure WrG (B : Nat) (g : AHeap) (v : Value) (s : List (List Int)) (R : Nat → Value) : Prop where
  c : GrowC B g v 1 s.length (fun k _ => R k)
  r : ∀ k, k < s.length → Ints g (R k) (s.getD k []).length (atL (s.getD k [])) ∧ ∀ x m c, R k = .slice (some x) m c → B ≤ x.block ∧ x.block < g.next ∧ NeB v x.block
theorem WrG.old {B : Nat} {g g' : AHeap} {v : Value} {s : List (List Int)} {R : Nat → Value} (hw : WrG B g v s R) (ho : ∀ i, B ≤ i → i < g.next → g'.get i = g.get i) (hn : g.next ≤ g'.next) : WrG B g' v s R :=
  ⟨GrowC.at' hw.c fun a k c e => ho _ (hw.c.block e).1 (hw.c.block e).2, fun k hk => ⟨cells_at (hw.r k hk).1 fun a m c e hl => ho _ ((hw.r k hk).2 a m c e).1 hl, fun x m c e => by
    obtain ⟨q1, q2, q3⟩ := (hw.r k hk).2 x m c e
    exact ⟨q1, by omega, q3⟩⟩⟩
theorem WrG.push {B : Nat} {g g1 : AHeap} {v wv : Value} {s : List (List Int)} {R : Nat → Value} {w : List Int} (hw : WrG B g v s R) (hB : g.floor ≤ B) (hf : g.next + 2 < far) (hBn : B ≤ g.next) (hx : New g g1 [wv] 0) (hi : Ints g wv w.length (atL w)) (ho : oneCell wv = true)
    (hb : ∀ x m c, wv = .slice (some x) m c → B ≤ x.block ∧ x.block < g.next ∧ NeB v x.block) (hl : s.length ≤ g.next) :
    ∃ v' g2, appendA 1 24 g1 v (.slice (some ⟨g.next, 0, none⟩) 1 1) = some (v', g2) ∧ WrG B g2 v' (s ++ [w]) (fun k => if k = s.length then wv else R k) ∧ oneCell v' = true ∧ v' = .slice (some ⟨g.next + 1, 0, none⟩) (s.length + 1) unk ∧ g2.next = g.next + 2 ∧ g2.floor = g.floor ∧ (∀ i, i < g.next → NeB v i → g2.get i = g.get i) := by
  have hlen : (s ++ [w]).length = s.length + 1 := by simp
  have hg : GrowC B g v 1 s.length (fun k _ => if k = s.length then wv else R k) := growC_congr hw.c fun k j hk hj => by
    have : ¬ k = s.length := by omega
    simp only [this, if_false]
  obtain ⟨g2, e, gv, n2, f2, o2', u2⟩ := grow_push3 (bytes := 24) hg hB hf hBn hx rfl (by simp [allB, ho]) (fun j hj => by
    obtain rfl : j = 0 := by omega
    simp) (by simp [maxBytes, far] at *; omega) (by simp [maxBytes, far] at *; omega)
  refine ⟨_, g2, e, ⟨by rw [hlen]; exact gv, fun k hk => ?_⟩, rfl, rfl, n2, f2, o2'⟩
  have fresh : ∀ i, i < g.next → NeB (.slice (some ⟨g.next + 1, 0, none⟩) (s.length + 1) unk) i := fun i hi b m c e => by cases e; show i ≠ g.next + 1; omega
  by_cases c : k = s.length
  · subst c
    have hlast : (s ++ [w]).getD s.length [] = w := by rw [List.getD_eq_getElem?_getD, List.getElem?_append_right (Nat.le_refl _)]; simp
    simp only [if_true, hlast]
    exact ⟨cells_at hi fun a m c e hl => o2' _ hl (hb a m c e).2.2, fun x m c e => ⟨(hb x m c e).1, by have := (hb x m c e).2.1; omega, fresh _ (hb x m c e).2.1⟩⟩
  · have hk' : k < s.length := by omega
    simp only [c, if_false]
    rw [List.getD_eq_getElem?_getD, List.getElem?_append_left hk', ← List.getD_eq_getElem?_getD]
    obtain ⟨q1, q2⟩ := hw.r k hk'
    exact ⟨cells_at q1 fun a m c e hl => o2' _ hl (q2 a m c e).2.2, fun x m c e => ⟨(q2 x m c e).1, by have := (q2 x m c e).2.1; omega, fresh _ (q2 x m c e).2.1⟩⟩
theorem WrG.nil {B : Nat} {g : AHeap} : WrG B g nilS [] (fun _ => nilS) := ⟨.nil, fun k hk => absurd hk (Nat.not_lt_zero _)⟩
def AllR (g : AHeap) (v : Value) (s : List (List Int)) : Prop := ∃ R : Nat → Value, Cells g v 1 s.length (fun k _ => R k) ∧ ∀ k, k < s.length → Ints g (R k) (s.getD k []).length (atL (s.getD k []))
theorem AllR.mono {g g' : AHeap} {v : Value} {s : List (List Int)} (ha : AllR g v s) (hs : Sub All g g') : AllR g' v s := by
  obtain ⟨R, h1, h2⟩ := ha
  exact ⟨R, h1.mono hs, fun k hk => Cells.mono (h2 k hk) hs⟩
structure JW (h2 : AHeap) (p : Nat) (s : List (List Int)) (g : AHeap) : Prop where
  old : ∀ i, i < h2.next → i ≠ p → g.get i = h2.get i
  tv : ∃ v R, g.get p = some (.row [v] true 0) ∧ WrG (h2.next + 2) g v s R
  up : h2.next + 2 ≤ g.next
  len : s.length ≤ g.next
def OwnW (h2 : AHeap) (p : Nat) (g : AHeap) (q : Nat) : Prop := h2.next ≤ q ∧ q ≠ p ∧ q ≠ h2.next + 1 ∧ ∀ v, g.get p = some (.row [v] true 0) → NeB v q
theorem leaveN_up {N : Nat} {P : List Int → Prop} {m : Nat} {l : List Int} (h : leaveN N P m = some l) : ∀ d, leaveN N P (m + d) = some l
  | 0 => h
  | d + 1 => by
    have := leaveN_up h d
    show leaveN N P (m + d + 1) = some l
    simp only [leaveN, this]
def MarksR (B : Nat) (ms : List Nat) (g : AHeap) : Prop := ms.Nodup ∧ ∀ d, d ∈ ms → B ≤ d ∧ d < g.next ∧ g.get d = some .deferred
theorem unmark_all : ∀ (ms : List Nat) (h : AHeap), ms.Nodup → (∀ d, d ∈ ms → h.floor ≤ d ∧ h.get d = some .deferred) → h.next ≤ far → ∃ h1, unmark ms h = some h1 ∧ (∀ i, i ∉ ms → h1.get i = h.get i) ∧ h1.next = h.next ∧ h1.floor = h.floor
  | [], h, _, _, _ => ⟨h, rfl, fun _ _ => rfl, rfl, rfl⟩
  | d :: ms, h, hn, hd, hf => by
    rw [List.nodup_cons] at hn
    obtain ⟨d1, d2⟩ := hd d (by simp)
    have hp := put_with (AHeap.lt_of_get d2) hf none
    obtain ⟨h1, e1, o1, n1, f1⟩ := unmark_all ms (h.with d none) hn.2 (fun x hx => by
      have hne : x ≠ d := fun e => hn.1 (e ▸ hx)
      obtain ⟨q1, q2⟩ := hd x (by simp [hx])
      exact ⟨q1, by rw [hp.old x hne]; exact q2⟩) hf
    refine ⟨h1, ?_, fun i hi => ?_, n1, f1⟩
    · simp only [unmark, d2, d1, if_true]
      exact e1
    · rw [List.mem_cons, not_or] at hi
      rw [o1 i hi.2, hp.old i hi.1]
theorem ret_marks {rs : List RS} {R : Value → AHeap → Prop} {f : Fr} {h : AHeap} {ms : List Nat} (hn : ms.Nodup) (hd : ∀ d, d ∈ ms → h.floor ≤ d ∧ h.get d = some .deferred) (hf : h.next ≤ far)
    (hr : ∀ h1, (∀ i, i ∉ ms → h1.get i = h.get i) → h1.next = h.next → h1.floor = h.floor → ∃ v, resV f h1 rs = some v ∧ R v h1) : retQ rs R .ret f h ms := by
  obtain ⟨h1, e1, o1, n1, f1⟩ := unmark_all ms h hn hd hf
  obtain ⟨v, q1, q2⟩ := hr h1 o1 n1 f1
  exact ⟨trivial, h1, v, e1, q1, q2⟩
variable {n : Nat} {h : AHeap}
def idxF (a : Nat → Int) (x : Int) : Nat → Option Nat
  | 0 => none
  | k + 1 => match idxF a x k with
    | some v => some v
    | none => if x = a k then some k else none
theorem idxF_none {a : Nat → Int} {x : Int} : ∀ {k : Nat}, idxF a x k = none ↔ ∀ i, i < k → ¬ x = a i
  | 0 => ⟨fun _ i hi => absurd hi (Nat.not_lt_zero _), fun _ => rfl⟩
  | k + 1 => by
    have ih := idxF_none (a := a) (x := x) (k := k)
    constructor
    · intro h i hi
      rw [idxF] at h
      cases e : idxF a x k with
      | some v => rw [e] at h; cases h
      | none =>
        rw [e] at h
        by_cases c : i = k
        · subst c
          intro q
          simp only [if_pos q] at h
          cases h
        · exact ih.1 e i (by omega)
    · intro h
      rw [idxF, ih.2 fun i hi => h i (by omega)]
      exact if_neg (h k (by omega))
theorem idxF_at {a : Nat → Int} {x : Int} {k m : Nat} (hk : k < m) (h0 : idxF a x k = none) (h1 : x = a k) : idxF a x m = some k := by
  have up : ∀ d, idxF a x (k + 1 + d) = some k := by
    intro d
    induction d with
    | zero => show idxF a x (k + 1) = some k; rw [idxF, h0]; exact if_pos h1
    | succ d ih => show idxF a x (k + 1 + d + 1) = some k; rw [idxF, ih]
  have := up (m - (k + 1))
  rw [show k + 1 + (m - (k + 1)) = m by omega] at this
  exact this
variable {n : Nat} {h : AHeap}
theorem dec_ex {p : Prop} {i : Decidable p} {F : Bool → Prop} (h : F (@decide p i)) : ∃ b : Bool, (b = true ↔ p) ∧ F b := ⟨_, @decide_eq_true_iff p i, h⟩
theorem mem_at {l : List Int} {x : Int} : x ∈ l ↔ ∃ i, i < l.length ∧ x = atL l i := by
  constructor
  · intro hx
    obtain ⟨i, hi, e⟩ := List.getElem_of_mem hx
    exact ⟨i, hi, by rw [← e]; unfold atL; rw [List.getD_eq_getElem?_getD, List.getElem?_eq_getElem hi]; rfl⟩
  · rintro ⟨i, hi, rfl⟩
    unfold atL
    rw [List.getD_eq_getElem?_getD, List.getElem?_eq_getElem hi]
    exact List.getElem_mem hi
variable {n : Nat} {h : AHeap}
open Classical in
theorem bitsP_test {p : Nat → Prop} {x : Nat} : ∀ {i : Nat}, (bitsP p i).testBit x = true ↔ x < i ∧ p x
  | 0 => by simp [bitsP]
  | i + 1 => by
    have ih := bitsP_test (p := p) (x := x) (i := i)
    by_cases hR : p i
    · rw [bitsP, if_pos hR, Nat.testBit_or, Nat.testBit_two_pow, Bool.or_eq_true, ih, decide_eq_true_eq]
      constructor
      · rintro (⟨h1, h2⟩ | rfl)
        · exact ⟨by omega, h2⟩
        · exact ⟨by omega, hR⟩
      · rintro ⟨h1, h2⟩
        by_cases e : x = i
        · exact .inr e.symm
        · exact .inl ⟨by omega, h2⟩
    · rw [bitsP, if_neg hR, ih]
      constructor
      · rintro ⟨h1, h2⟩; exact ⟨by omega, h2⟩
      · rintro ⟨h1, h2⟩
        refine ⟨?_, h2⟩
        by_cases e : x = i
        · subst e; exact absurd h2 hR
        · omega
open Classical in
noncomputable def fstP (p : Nat → Prop) : Nat → Option Nat
  | 0 => none
  | k + 1 => match fstP p k with
    | some v => some v
    | none => if p k then some k else none
section
variable {p : Nat → Prop}
open Classical in
theorem fstP_none : ∀ {k : Nat}, fstP p k = none ↔ ∀ i, i < k → ¬ p i
  | 0 => ⟨fun _ i hi => absurd hi (Nat.not_lt_zero _), fun _ => rfl⟩
  | k + 1 => by
    have ih := fstP_none (k := k)
    constructor
    · intro h i hi
      rw [fstP] at h
      cases e : fstP p k with
      | some v => rw [e] at h; cases h
      | none =>
        rw [e] at h
        by_cases c : i = k
        · subst c
          intro q
          simp only [if_pos q] at h
          cases h
        · exact ih.1 e i (by omega)
    · intro h
      rw [fstP, ih.2 fun i hi => h i (by omega)]
      exact if_neg (h k (by omega))
open Classical in
theorem fstP_at {k m : Nat} (hk : k < m) (h0 : ∀ i, i < k → ¬ p i) (h1 : p k) : fstP p m = some k := by
  have e0 := fstP_none.2 h0
  have up : ∀ d, fstP p (k + 1 + d) = some k := by
    intro d
    induction d with
    | zero => show fstP p (k + 1) = some k; rw [fstP, e0]; exact if_pos h1
    | succ d ih => show fstP p (k + 1 + d + 1) = some k; rw [fstP, ih]
  have := up (m - (k + 1))
  rw [show k + 1 + (m - (k + 1)) = m by omega] at this
  exact this
open Classical in
theorem fstP_some : ∀ {m k : Nat}, fstP p m = some k → k < m ∧ p k ∧ ∀ i, i < k → ¬ p i
  | 0, k, h => by cases h
  | m + 1, k, h => by
    rw [fstP] at h
    cases e : fstP p m with
    | some v =>
      rw [e] at h
      cases h
      obtain ⟨h1, h2, h3⟩ := fstP_some e
      exact ⟨by omega, h2, h3⟩
    | none =>
      rw [e] at h
      by_cases c : p m
      · simp only [if_pos c] at h
        cases h
        exact ⟨by omega, c, fstP_none.1 e⟩
      · simp only [if_neg c] at h
        cases h
theorem pick_head : ∀ {N : Nat}, pickL p N ≠ [] → ∃ x : Nat, x < N ∧ atL (pickL p N) 0 = (x : Int) ∧ p x ∧ ∀ i, i < x → ¬ p i
  | 0, h => absurd rfl h
  | N + 1, h => by
    by_cases c : p N
    · rw [pick_yes c] at h ⊢
      by_cases c0 : pickL p N = []
      · refine ⟨N, by omega, by rw [c0]; rfl, c, fun i hi hp => ?_⟩
        obtain ⟨j, j1, _⟩ := pick_has (p := p) hi hp
        rw [c0] at j1
        exact absurd j1 (Nat.not_lt_zero _)
      · obtain ⟨x, x1, x2, x3⟩ := pick_head c0
        exact ⟨x, by omega, by rw [at_append (List.length_pos_iff.2 c0)]; exact x2, x3⟩
    · rw [pick_no c] at h ⊢
      obtain ⟨x, x1, x2, x3⟩ := pick_head h
      exact ⟨x, by omega, x2, x3⟩
end
variable {n : Nat} {h : AHeap}
def headM (L : List (List Int)) : Nat → Int
  | 0 => 0
  | j + 1 => max (headM L j) (atL (L.getD j []) 0)
theorem headM_le {L : List (List Int)} : ∀ {j i : Nat}, i < j → atL (L.getD i []) 0 ≤ headM L j
  | j + 1, i, hi => by
    simp only [headM]
    by_cases c : i = j
    · rw [c]; omega
    · have := headM_le (L := L) (show i < j by omega)
      omega
theorem headM_at {L : List (List Int)} : ∀ {j : Nat}, headM L j = 0 ∨ ∃ i, i < j ∧ headM L j = atL (L.getD i []) 0
  | 0 => .inl rfl
  | j + 1 => by
    simp only [headM]
    rcases Int.le_total (headM L j) (atL (L.getD j []) 0) with c | c
    · right
      exact ⟨j, by omega, by omega⟩
    · rw [show max (headM L j) (atL (L.getD j []) 0) = headM L j by omega]
      rcases headM_at (L := L) (j := j) with q | ⟨i, i1, i2⟩
      · exact .inl q
      · exact .inr ⟨i, by omega, i2⟩
variable {n : Nat} {h : AHeap}
def zr7 : List Value := [.int .i64 0, .int .i64 0, nilS, .int .i64 0, .int .i64 0, nilS, nilS]
variable {n : Nat} {h : AHeap}
variable {n : Nat} {h : AHeap}
variable {n : Nat} {h : AHeap}
section
variable {H : Type} {enc : TypeId × Value → H} {w : World} {base : Nat} {sp : Nat → Bool} {held : Bool} {fuel : Nat} {cs : List Value} {x : DataW H × List MemPlace}
structure TruthW (wd : World) (tw tf : Value) : Prop where
  w : FlatS wd .i64 1 tw
  f : FlatS wd .i64 1 tf
end
theorem truth_load {w : World} {φ : Emb} (L : Loaded w φ h) (hn : h.next + 40 < far) {tw tf : Value} (hy : TruthW w tw tf) :
    ∃ φ' h' u0 u1 m1 a1 m2 a2, Step w φ h φ' h' 2 ∧ Stands φ' h' u0 tw ∧ Stands φ' h' u1 tf ∧ TrR h' u0 u1 m1 a1 m2 a2 := by
  obtain ⟨φ1, h1, u0, s1, t1, c0, r0⟩ := L.flat (by omega) (by omega) hy.w
  have n1 := s1.next
  obtain ⟨φ2, h2, u1, s2, t2, c1, r1⟩ := s1.ld.flat (by omega) (by omega) hy.f
  have n2 := s2.next
  refine ⟨φ2, h2, u0, u1, vlen tw, fun k => c0 k 0, vlen tf, fun k => c1 k 0, s1.trans s2, t1.step s2, t2, ⟨?_, ?_⟩⟩
  · refine cells_congr (r0.mono s2.sub) fun k j hk hj => ?_
    obtain rfl : j = 0 := by omega
    rfl
  · refine cells_congr r1 fun k j hk hj => ?_
    obtain rfl : j = 0 := by omega
    rfl
theorem stands_truth {w : World} {φ : Emb} {a : Int} {u0 u1 tw tf : Value} (h0 : Stands φ h u0 tw) (h1 : Stands φ h u1 tf) : mapV φ (.agg ⟨[u0, .int .i64 a, u1]⟩) = .agg ⟨[tw, .int .i64 a, tf]⟩ ∧ okV φ h.next (.agg ⟨[u0, .int .i64 a, u1]⟩) := by
  refine ⟨?_, ?_⟩
  · simp only [mapV, mapArr, mapL, h0.map, h1.map]
  · simp only [okV, okA, okL, and_true, true_and]
    exact ⟨h0.ok, h1.ok⟩
variable {n : Nat} {h : AHeap}
variable {n : Nat} {h : AHeap}
variable {n : Nat} {h : AHeap}
variable {n : Nat} {h : AHeap}
theorem pick_succ' {p : Nat → Prop} {k : Nat} : (pickL p k).length ≤ (pickL p (k + 1)).length ∧ (pickL p (k + 1)).length ≤ (pickL p k).length + 1 := by
  by_cases c : p k
  · rw [pick_yes c, List.length_append, List.length_singleton]; omega
  · rw [pick_no c]; omega
theorem more_app {sv : Value} {m : Nat} {sA lA rA : Nat → Int} (hS : Samps h sv m sA lA rA) (hm : m ≤ 1048576) (hr : h.next + 10 < far) (hfl : h.floor ≤ h.next) :
    ∃ e0 g1 a1 g2, buildSl 3 0 [.int .i64 0, .int .i64 0, .int .i64 0] [] h [] = some (e0, g1) ∧ appendA 3 24 g1 e0 sv = some (a1, g2) ∧ (∀ i, i < h.next → g1.get i = h.get i) ∧ (∀ i, i < h.next → g2.get i = h.get i) ∧ h.next ≤ g1.next ∧ g1.next ≤ g2.next ∧ g2.next ≤ h.next + 2 ∧
      ∀ v l r : Int, ∃ b1 g3 S' g4, buildSl 3 1 [.int .i64 0, .int .i64 0, .int .i64 0] [0] g2 [.agg ⟨[.int .i64 v, .int .i64 l, .int .i64 r]⟩] = some (b1, g3) ∧ appendA 3 24 g3 a1 b1 = some (S', g4) ∧ oneCell S' = true ∧
        Samps g4 S' (m + 1) (fun k => if k = m then v else sA k) (fun k => if k = m then l else lA k) (fun k => if k = m then r else rA k) ∧ (∀ i, i < h.next → g4.get i = h.get i) ∧ g2.next ≤ g3.next ∧ g3.next ≤ g4.next ∧ g4.next ≤ h.next + 4 ∧ g4.floor = h.floor ∧
        (∀ a k c, S' = .slice (some a) k c → h.next ≤ a.block) := by
  obtain ⟨xs, ks, es, ls⟩ := Cells.list (by omega) hS
  obtain ⟨g1, q1, hx1⟩ := newSlice_ex (h := h) (cs := []) (n := 0) (cap := 0) (gr := 0) (by omega) rfl
  have n1 := hx1.next
  have f1 := hx1.floor
  have hap := append_none (h := g1) (s := 3) (bytes := 24) (b := h.next) ⟨xs, ks, es⟩ (cells_sub hx1.sub hS (by omega) ls) flatL_len (by simp [maxBytes]; omega) (by simp [maxBytes]; omega)
  by_cases hm0 : m = 0
  · rw [if_pos hm0] at hap
    refine ⟨_, g1, _, g1, by rw [build_none3]; exact q1, hap, hx1.old, hx1.old, by omega, by omega, by omega, fun v l r => ?_⟩
    obtain ⟨g3, q3, hx3⟩ := newSlice_ex (h := g1) (cs := [.int .i64 v, .int .i64 l, .int .i64 r]) (n := 1) (cap := 1) (gr := 0) (by omega) rfl
    have n3 := hx3.next
    have f3 := hx3.floor
    have hap2 := append_none (h := g3) (s := 3) (bytes := 24) (b := h.next) (m := 1) ⟨_, _, rfl⟩ (one_cells (cap := 1) hx3.get rfl) rfl (by simp [maxBytes]) (by simp [maxBytes])
    rw [if_neg (by omega)] at hap2
    obtain ⟨g4, q4, hx4⟩ := newSlice_ex (h := g3) (cs := [.int .i64 v, .int .i64 l, .int .i64 r]) (n := 1) (cap := unk) (gr := 3) (by omega) rfl
    have n4 := hx4.next
    have f4 := hx4.floor
    refine ⟨_, g3, _, g4, by rw [sl_samp]; exact q3, by rw [hap2]; exact q4, rfl, ?_, fun i hi => by rw [hx4.old i (by omega), hx3.old i (by omega), hx1.old i hi], by omega, by omega, by omega, by omega, fun a k c e => by cases e; show h.next ≤ g3.next; omega⟩
    rw [hm0]
    refine cells_row (b := g3.next) ⟨true, 3, hx4.get⟩ fun k j hk hj => ?_
    obtain rfl : k = 0 := by omega
    obtain rfl | rfl | rfl : j = 0 ∨ j = 1 ∨ j = 2 := by omega
    all_goals rfl
  · rw [if_neg hm0] at hap
    obtain ⟨g2, q2, hx2⟩ := newSlice_ex (h := g1) (cs := flatL 3 m fun k j => .int .i64 (if j = 0 then sA k else if j = 1 then lA k else rA k)) (n := m) (cap := unk) (gr := 3) (by omega) flatL_one
    have n2 := hx2.next
    have f2 := hx2.floor
    refine ⟨_, g1, _, g2, by rw [build_none3]; exact q1, by rw [hap]; exact q2, hx1.old, fun i hi => by rw [hx2.old i (by omega), hx1.old i hi], by omega, by omega, by omega, fun v l r => ?_⟩
    obtain ⟨g3, q3, hx3⟩ := newSlice_ex (h := g2) (cs := [.int .i64 v, .int .i64 l, .int .i64 r]) (n := 1) (cap := 1) (gr := 0) (by omega) rfl
    have n3 := hx3.next
    have f3 := hx3.floor
    have gS : GrowC h.next g3 (.slice (some ⟨g1.next, 0, none⟩) m unk) 3 m (fun k j => .int .i64 (if j = 0 then (if k = m then v else sA k) else if j = 1 then (if k = m then l else lA k) else if k = m then r else rA k)) :=
      ⟨_, .inr ⟨_, rfl, by rw [hx3.old _ (by omega)]; exact hx2.get, flatL_len, by omega⟩, flatL_one, fun k j hk hj => by
        rw [flatL_get (c := fun k j => .int .i64 (if j = 0 then sA k else if j = 1 then lA k else rA k)) hk hj]
        have : ¬ k = m := by omega
        simp only [this, if_false]⟩
    obtain ⟨S', g4, e, e', gS', hk4⟩ := gS.append (bytes := 24) (cap := 1) (by omega) (by omega) (by omega) hx3.get rfl rfl (fun j hj => by
      simp only [if_true]
      obtain rfl | rfl | rfl : j = 0 ∨ j = 1 ∨ j = 2 := by omega
      all_goals rfl) (by simp [maxBytes]; omega) (by simp [maxBytes]; omega)
    have n4 := hk4.next
    have f4 := hk4.floor
    refine ⟨_, g3, S', g4, by rw [sl_samp]; exact q3, e, gS'.one, gS'.cells, fun i hi => ?_, by omega, by omega, by omega, by omega, fun a k c e2 => by rw [e'] at e2; cases e2; show h.next ≤ g3.next; omega⟩
    rw [hk4.old i (by omega) fun b k c e => by cases e; show i ≠ g1.next; omega, hx3.old i (by omega), hx2.old i (by omega), hx1.old i hi]
variable {n : Nat} {h : AHeap}
theorem self_3s {x y z : Int} : eqV (.agg ⟨[.int .i64 x, .int .i64 y, .int .i64 z]⟩) (.agg ⟨[.int .i64 x, .int .i64 y, .int .i64 z]⟩) = true := by simp [eqV, eqCells, eqC_int]
variable {n : Nat} {h : AHeap}
variable {n : Nat} {h : AHeap}
variable {n : Nat} {h : AHeap}
variable {n : Nat} {h : AHeap}
theorem res_73 {a b : Nat} {f : Go.Vm.Fr} {x y : Value} (h1 : loadAgg 7 h (f a) = some x) (h2 : loadAgg 3 h (f b) = some y) : resV f h [.cellN a 7, .cellN b 3] = some (.tuple ⟨[x, y]⟩) := by
  simp [resV, resL, res1, h1, h2]
theorem quo16 {a : Nat} (h : a < 65536) : IntKind.wrap .i64 ((a : Int).tdiv 8) = ((a / 8 : Nat) : Int) := by
  have e : (a : Int).tdiv 8 = ((a / 8 : Nat) : Int) := rfl
  have : a / 8 ≤ a := Nat.div_le_self _ _
  rw [e]
  generalize a / 8 = q at this
  exact IntWalk.i64_in _ (by omega)
def zr3 : List Value := [nilS, .int .i64 0, nilS]
variable {n : Nat} {h : AHeap}
section
variable {a b : Nat}
theorem tp_b : tp a b b = a := by rw [tp_comm]; exact if_pos rfl
end
variable {n : Nat} {h : AHeap}
def bN (i : Nat) : Nat := 710000 * i
theorem bN_succ {i : Nat} : bN (i + 1) = bN i + 710000 := Nat.mul_succ _ _
theorem bN_le {i : Nat} (hi : i ≤ 4) : bN i ≤ 2840000 := Nat.le_trans (Nat.mul_le_mul_left _ hi) (by decide)
variable {n : Nat} {h : AHeap}
theorem flat4_splice {m k : Nat} {c : Nat → Nat → Value} {d : Nat → Value} (hk : k < m) : splice (flatL 4 m c) (k * 4) [d 0, d 1, d 2, d 3] = flatL 4 m fun k' j => if k' = k then d j else c k' j := by
  unfold flatL
  refine map_splice (by simp; omega) (fun i hi hc => ?_) (fun j hj => ?_)
  · simp only [List.length_cons, List.length_nil] at hc
    have e : ¬ i / 4 = k := by omega
    simp only [e, if_false]
  · simp only [List.length_cons, List.length_nil] at hj
    obtain rfl | rfl | rfl | rfl : j = 0 ∨ j = 1 ∨ j = 2 ∨ j = 3 := by omega
    · have e1 : (k * 4 + 0) / 4 = k := by omega
      have e2 : (k * 4 + 0) % 4 = 0 := by omega
      simp [e1, e2]
    · have e1 : (k * 4 + 1) / 4 = k := by omega
      have e2 : (k * 4 + 1) % 4 = 1 := by omega
      simp [e1, e2]
    · have e1 : (k * 4 + 2) / 4 = k := by omega
      have e2 : (k * 4 + 2) % 4 = 2 := by omega
      simp [e1, e2]
    · have e1 : (k * 4 + 3) / 4 = k := by omega
      have e2 : (k * 4 + 3) % 4 = 3 := by omega
      simp [e1, e2]
theorem flat_congr {s m : Nat} {c c' : Nat → Nat → Value} (hs : 0 < s) (he : ∀ k j, k < m → j < s → c k j = c' k j) : flatL s m c = flatL s m c' :=
  cs_flat hs flatL_len fun k j hk hj => by rw [flatL_get (c := c) hk hj, he k j hk hj]
variable {n : Nat} {h : AHeap}
theorem self_4t {x y z w : Int} : eqV (.agg ⟨[.int .i64 x, .int .i64 y, .int .i64 z, .int .i64 w]⟩) (.agg ⟨[.int .i64 x, .int .i64 y, .int .i64 z, .int .i64 w]⟩) = true := by simp [eqV, eqCells, eqC_int]
variable {n : Nat} {h : AHeap}
theorem flatW {w : World} {φ : Emb} {h : AHeap} (L : Loaded w φ h) (hn : h.next < far) {k : IntKind} {s : Nat} {v : Value} (hs : 0 < s) (hf : FlatS w k s v) :
    ∃ φ' h' u, Step w φ h φ' h' 1 ∧ Stands φ' h' u v ∧ ∃ c : Nat → Nat → Int, (Cells h' u s (vlen v) fun i j => .int k (c i j)) ∧ ∀ i j, i < vlen v → j < s → (Lit.int k (c i j)).wf = true := by
  rcases hf with rfl | ⟨a, len, cap, rfl, hl, hc⟩
  · exact ⟨φ, h, .slice none 0 0, ⟨L, Sub.refl, Nat.le_refl _, by omega, rfl, Agree.refl _ _⟩, ⟨by simp [mapV], by simp [okV], rfl⟩, fun _ _ => 0, ⟨none, 0, rfl, fun x e => (by cases e), .inl rfl⟩, fun i j hi => absurd hi (Nat.not_lt_zero _)⟩
  · have hlt : ∀ i j, i < len → j < s → i * s + j < len * s := fun i j hi hj => by
      have : (i + 1) * s ≤ len * s := Nat.mul_le_mul_right s hi
      rw [Nat.add_mul] at this
      omega
    obtain ⟨φ', h', u, q1, q2, q3, q4, q5, q6, q7, q8, q9⟩ := L.slice hn (a := a) hl hs ((List.range (len * s)).map fun i => .int k (numAt w a i)) (by simp) (fun i v hv => by
      rw [List.getElem?_map] at hv
      by_cases hi : i < len * s
      · rw [List.getElem?_range hi] at hv
        cases hv
        exact ⟨by simp [okV], rfl, by simpa [mapV] using (hc i hi).1⟩
      · rw [List.getElem?_eq_none (by simp; omega)] at hv
        cases hv) (c := fun i j => .int k (numAt w a (i * s + j))) (fun i j hi hj => by rw [List.getElem?_map, List.getElem?_range (hlt i j hi hj)]; rfl)
    exact ⟨φ', h', u, ⟨q1, q2, by omega, by omega, q4, q5⟩, ⟨q6, q7, q8⟩, _, q9, fun i j hi hj => (hc _ (hlt i j hi hj)).2⟩
theorem wordsOf {v : Value} {c : Nat → Nat → Int} {m : Nat} (hc : Cells h v 1 m fun i j => .int .u16 (c i j)) (hw : ∀ i j, i < m → j < 1 → (Lit.int .u16 (c i j)).wf = true) : Words h v m fun i => (c i 0).toNat := by
  refine ⟨?_, fun k hk => ?_⟩
  · obtain ⟨a, cap, f1, f2, f3⟩ := hc
    refine ⟨a, cap, f1, f2, f3.imp id fun ⟨b, o, cs, wr, g, g1, g2, g3⟩ => ⟨b, o, cs, wr, g, g1, g2, fun i j hi hj => ?_⟩⟩
    have : j = 0 := by omega
    subst this
    obtain ⟨k, e, _⟩ := wf16 (hw i 0 hi (by omega))
    rw [g3 i 0 hi hj]
    show some (Value.int IntKind.u16 (c i 0)) = some (Value.int IntKind.u16 (((c i 0).toNat : Nat) : Int))
    rw [e]; rfl
  · obtain ⟨x, e, h2⟩ := wf16 (hw k 0 hk (by omega))
    show (c k 0).toNat < 65536
    omega
end Go.Vm.L2

namespace Go.Vm.Bt
open Go.Vm.Vat Go.Vm.L2
set_option linter.unusedSimpArgs false
set_option linter.unusedVariables false
set_option maxRecDepth 10000
structure MB where
  slo : Int
  shi : Int
  nv : Nat
  nlo : Nat → Int
  nhi : Nat → Int
  ve : Nat → Int
  vl : Nat → Int
  last : Int
  ns : Nat
  sv : Nat → Int
  sh : Nat → Int
  sd : Nat → Bool
def vatC (S : MB) (k j : Nat) : Value := .int .i64 (if j = 0 then S.nlo k else if j = 1 then S.nhi k else if j = 2 then S.ve k else S.vl k)
def sampC (S : MB) (k j : Nat) : Value := if j = 0 then .int .i64 (S.sv k) else if j = 1 then .int .i64 (S.sh k) else .bool (S.sd k)
structure BeatR (h : AHeap) (vv sv : Value) (S : MB) : Prop where
  v : Cells h vv 4 S.nv (vatC S)
  s : Cells h sv 3 S.ns (sampC S)
def beL (S : MB) (vv sv : Value) : List Value := [.int .i64 S.slo, .int .i64 S.shi, vv, .int .i64 S.last, sv]
def wkL (S : MB) (vv sv tv : Value) : List Value := [.int .i64 S.slo, .int .i64 S.shi, vv, .int .i64 S.last, sv, tv]
def smL (S : MB) (k : Nat) : List Value := [.int .i64 (S.sv k), .int .i64 (S.sh k), .bool (S.sd k)]
def vaL (S : MB) (k : Nat) : List Value := [.int .i64 (S.nlo k), .int .i64 (S.nhi k), .int .i64 (S.ve k), .int .i64 (S.vl k)]
section
variable {h g : AHeap} {vv sv tv : Value} {S : MB}
theorem BeatR.mono (hy : BeatR h vv sv S) (hs : Sub All h g) : BeatR g vv sv S := ⟨Cells.mono hy.v hs, Cells.mono hy.s hs⟩
theorem BeatR.shut (hy : BeatR h vv sv S) : BeatR h.shutAll vv sv S := hy.mono fun _ _ _ _ _ h => h
theorem BeatR.one (hy : BeatR h vv sv S) : allB oneCell (beL S vv sv) = true := by
  simp [beL, allB, one_int, Cells.one hy.v, Cells.one hy.s]
theorem BeatR.self (hy : BeatR h vv sv S) : eqV (.agg ⟨beL S vv sv⟩) (.agg ⟨beL S vv sv⟩) = true := by
  simp [beL, eqV, eqCells, eqC_int, Cells.selfC hy.v, Cells.selfC hy.s]
theorem wk_one (hy : BeatR h vv sv S) (ht : oneCell tv = true) : allB oneCell (wkL S vv sv tv) = true := by
  simp [wkL, allB, one_int, Cells.one hy.v, Cells.one hy.s, ht]
theorem sm_one {k : Nat} : allB oneCell (smL S k) = true := rfl
theorem va_one {k : Nat} : allB oneCell (vaL S k) = true := rfl
theorem be_rng {g : AHeap} {p : Nat} (hr : Row g p (beL S vv sv)) : loadAgg 2 g (.pointer (some ⟨p, 0, none⟩)) = some (.agg ⟨[.int .i64 S.slo, .int .i64 S.shi]⟩) := hr.ldN 0 2 (by simp [beL]) (by simp [beL])
theorem wk_rng {g : AHeap} {p : Nat} (hr : Row g p (wkL S vv sv tv)) : loadAgg 2 g (.pointer (some ⟨p, 0, none⟩)) = some (.agg ⟨[.int .i64 S.slo, .int .i64 S.shi]⟩) := hr.ldN 0 2 (by simp [wkL]) (by simp [wkL])
theorem wk_be {g : AHeap} {p : Nat} (hr : Row g p (wkL S vv sv tv)) : loadAgg 5 g (.pointer (some ⟨p, 0, none⟩)) = some (.agg ⟨beL S vv sv⟩) := hr.ldN 0 5 (by simp [wkL]) (by simp [wkL])
theorem need_ld {k : Nat} (hy : BeatR h vv sv S) (hk : k < S.nv) : loadAgg 2 h (ptrO vv 4 k 0) = some (.agg ⟨[.int .i64 (S.nlo k), .int .i64 (S.nhi k)]⟩) := by
  rw [Cells.ldN hy.v hk (by omega) (by omega)]; simp [List.range_succ, vatC]
theorem vat_ld {k : Nat} (hy : BeatR h vv sv S) (hk : k < S.nv) : loadAgg 4 h (ptrO vv 4 k 0) = some (.agg ⟨vaL S k⟩) := by
  rw [Cells.ldN hy.v hk (by omega) (by omega)]; simp [List.range_succ, vatC, vaL]
theorem samp_ld {k : Nat} (hy : BeatR h vv sv S) (hk : k < S.ns) : loadAgg 3 h (ptrO sv 3 k 0) = some (.agg ⟨smL S k⟩) := by
  rw [Cells.ldN hy.s hk (by omega) (by omega)]; simp [List.range_succ, sampC, smL]
theorem early_ld {k : Nat} (hy : BeatR h vv sv S) (hk : k < S.nv) : loadCell h (ptrO vv 4 k 2) = some (.int .i64 (S.ve k)) := Cells.ld hy.v hk (by omega)
theorem late_ld {k : Nat} (hy : BeatR h vv sv S) (hk : k < S.nv) : loadCell h (ptrO vv 4 k 3) = some (.int .i64 (S.vl k)) := Cells.ld hy.v hk (by omega)
theorem lo_ld {k : Nat} (hy : BeatR h vv sv S) (hk : k < S.nv) : loadCell h (ptrO vv 4 k 0) = some (.int .i64 (S.nlo k)) := Cells.ld hy.v hk (by omega)
theorem hi_ld {k : Nat} (hy : BeatR h vv sv S) (hk : k < S.nv) : loadCell h (ptrO vv 4 k 1) = some (.int .i64 (S.nhi k)) := Cells.ld hy.v hk (by omega)
end
theorem beg {S : MB} {a b : Value} : (beL S a b)[0]? = some (.int .i64 S.slo) ∧ (beL S a b)[1]? = some (.int .i64 S.shi) ∧ (beL S a b)[2]? = some a ∧ (beL S a b)[3]? = some (.int .i64 S.last) ∧ (beL S a b)[4]? = some b := ⟨rfl, rfl, rfl, rfl, rfl⟩
theorem wkg {S : MB} {a b c : Value} : (wkL S a b c)[0]? = some (.int .i64 S.slo) ∧ (wkL S a b c)[1]? = some (.int .i64 S.shi) ∧ (wkL S a b c)[2]? = some a ∧ (wkL S a b c)[3]? = some (.int .i64 S.last) ∧ (wkL S a b c)[4]? = some b ∧ (wkL S a b c)[5]? = some c := ⟨rfl, rfl, rfl, rfl, rfl, rfl⟩
theorem smg {S : MB} {k : Nat} : (smL S k)[0]? = some (.int .i64 (S.sv k)) ∧ (smL S k)[1]? = some (.int .i64 (S.sh k)) ∧ (smL S k)[2]? = some (.bool (S.sd k)) := ⟨rfl, rfl, rfl⟩
theorem vag {S : MB} {k : Nat} : (vaL S k)[0]? = some (.int .i64 (S.nlo k)) ∧ (vaL S k)[1]? = some (.int .i64 (S.nhi k)) ∧ (vaL S k)[2]? = some (.int .i64 (S.ve k)) ∧ (vaL S k)[3]? = some (.int .i64 (S.vl k)) := ⟨rfl, rfl, rfl, rfl⟩
def VatOk (S : MB) : Prop := ∀ i, i < S.nv → (0 ≤ S.nlo i ∧ S.nlo i ≤ S.nhi i ∧ S.nhi i ≤ 9) ∧ (0 ≤ S.ve i ∧ S.ve i ≤ 20) ∧ 0 ≤ S.vl i ∧ S.vl i ≤ 20
def SampOk (S : MB) : Prop := ∀ i, i < S.ns → (0 ≤ S.sv i ∧ S.sv i ≤ (S.nv : Int) - 1) ∧ 0 ≤ S.sh i ∧ S.sh i ≤ S.last
def HeadOk (S : MB) : Prop := 0 ≤ S.last ∧ 0 ≤ S.slo ∧ S.slo ≤ S.shi ∧ S.shi ≤ 4
def LimOk (S : MB) : Prop := S.last ≤ 9 ∧ S.nv ≤ 3 ∧ S.ns ≤ 5
structure ArgsOk (S : MB) : Prop where
  head : HeadOk S
  vat : VatOk S
  samp : SampOk S
def numU (S : MB) : Nat := S.nv + 1
def uLo (S : MB) (i : Nat) : Int := if i = 0 then S.slo else S.nlo (i - 1)
def uHi (S : MB) (i : Nat) : Int := if i = 0 then S.shi else S.nhi (i - 1)
def manyS (S : MB) : Int := sizeN (uLo S) (uHi S) (numU S)
open Classical in
noncomputable def faultS (S : MB) : Int := if ¬ LimOk S then 3 else if ¬ ArgsOk S then 1 else if 200 < manyS S then 3 else 0
structure Good (S : MB) : Prop where
  lim : LimOk S
  args : ArgsOk S
  few : manyS S ≤ 200
theorem good_of {S : MB} (hf : faultS S = 0) : Good S := by
  unfold faultS at hf
  by_cases h1 : LimOk S
  · rw [if_neg (by simpa using h1)] at hf
    by_cases h2 : ArgsOk S
    · rw [if_neg (by simpa using h2)] at hf
      by_cases h3 : 200 < manyS S
      · rw [if_pos h3] at hf; omega
      · exact ⟨h1, h2, by omega⟩
    · rw [if_pos h2] at hf; omega
  · rw [if_pos h1] at hf; omega
theorem fault_of {S : MB} (hG : Good S) : faultS S = 0 := by
  unfold faultS
  have := hG.few
  rw [if_neg (by simpa using hG.lim), if_neg (by simpa using hG.args), if_neg (by omega)]
theorem fault_iff {S : MB} : faultS S = 0 ↔ Good S := ⟨good_of, fault_of⟩
theorem fault_vals (S : MB) : faultS S = 0 ∨ faultS S = 1 ∨ faultS S = 3 := by
  unfold faultS
  by_cases h1 : LimOk S <;> by_cases h2 : ArgsOk S <;> by_cases h3 : 200 < manyS S <;> simp [h1, h2, h3]
theorem Good.sizes {S : MB} (hG : Good S) : 0 ≤ S.last ∧ S.last ≤ 9 ∧ S.nv ≤ 3 ∧ S.ns ≤ 5 ∧ 0 ≤ S.slo ∧ S.slo ≤ S.shi ∧ S.shi ≤ 4 := by
  obtain ⟨a1, a2, a3⟩ := hG.lim
  obtain ⟨b1, b2, b3, b4⟩ := hG.args.head
  omega
theorem ArgsOk.u {S : MB} (hA : ArgsOk S) : ∀ i, i < numU S → 0 ≤ uLo S i ∧ uLo S i ≤ uHi S i ∧ uHi S i ≤ 9 := fun i hi => by
  unfold numU at hi
  simp only [uLo, uHi]
  obtain ⟨b1, b2, b3, b4⟩ := hA.head
  by_cases c1 : i = 0
  · rw [if_pos c1, if_pos c1]; omega
  · rw [if_neg c1, if_neg c1]
    exact (hA.vat (i - 1) (by omega)).1
theorem Good.u {S : MB} (hG : Good S) : ∀ i, i < numU S → 0 ≤ uLo S i ∧ uLo S i ≤ uHi S i ∧ uHi S i ≤ 9 := hG.args.u
theorem uLo_succ {S : MB} {i : Nat} : uLo S (i + 1) = S.nlo i := by simp [uLo]
theorem uHi_succ {S : MB} {i : Nat} : uHi S (i + 1) = S.nhi i := by simp [uHi]
theorem uLo_zero {S : MB} : uLo S 0 = S.slo := rfl
theorem uHi_zero {S : MB} : uHi S 0 = S.shi := rfl
theorem size_bound {S : MB} (hA : ArgsOk S) (hl : S.nv ≤ 3) : ∀ i, i ≤ numU S → 1 ≤ sizeN (uLo S) (uHi S) i ∧ sizeN (uLo S) (uHi S) i ≤ 10000 := fun i hi => by
  unfold numU at hi
  refine ⟨sizeN_pos i fun k hk => (hA.u k (by unfold numU; omega)).2.1, ?_⟩
  have h1 := sizeN_le (lo := uLo S) (hi := uHi S) (B := 10) (by omega) i fun k hk => by have := hA.u k (by unfold numU; omega); omega
  have : (10 : Int) ^ i ≤ 10 ^ 4 := by
    have : i = 0 ∨ i = 1 ∨ i = 2 ∨ i = 3 ∨ i = 4 := by omega
    rcases this with rfl | rfl | rfl | rfl | rfl <;> decide
  omega
def whenS (u : Nat → Int) (v : Nat) : Int := u 0 + u (v + 1)
def RightS (S : MB) (u : Nat → Int) (k : Nat) : Prop := decide (whenS u (S.sv k).toNat ≤ S.sh k) = S.sd k
noncomputable instance (S : MB) (u : Nat → Int) (k : Nat) : Decidable (RightS S u k) := Classical.propDecidable _
def InU (S : MB) (u : Nat → Int) : Prop := ∀ i, i < numU S → uLo S i ≤ u i ∧ u i ≤ uHi S i
noncomputable def truthsS (S : MB) : List (Nat → Int) := open Classical in (enumB (uLo S) (uHi S) (numU S) 0 fun _ => 0).filter fun u => decide (∀ k, k < S.ns → RightS S u k)
theorem InU.sun {S : MB} {u : Nat → Int} (hG : Good S) (hu : InU S u) : 0 ≤ u 0 ∧ u 0 ≤ 4 := by
  obtain ⟨h1, h2⟩ := hu 0 (by unfold numU; omega)
  obtain ⟨_, _, _, _, h3, h4, h5⟩ := hG.sizes
  rw [uLo_zero] at h1
  rw [uHi_zero] at h2
  omega
theorem InU.need {S : MB} {u : Nat → Int} (hG : Good S) (hu : InU S u) {v : Nat} (hv : v < S.nv) : 0 ≤ u (v + 1) ∧ u (v + 1) ≤ 9 := by
  obtain ⟨h1, h2⟩ := hu (v + 1) (by unfold numU; omega)
  obtain ⟨h3, h4, h5⟩ := hG.u (v + 1) (by unfold numU; omega)
  omega
theorem when_bound {S : MB} {u : Nat → Int} (hG : Good S) (hu : InU S u) {v : Nat} (hv : v < S.nv) : 0 ≤ whenS u v ∧ whenS u v ≤ 13 := by
  have h1 := hu.sun hG
  have h2 := hu.need hG hv
  unfold whenS
  omega
theorem Good.samp {S : MB} (hG : Good S) {k : Nat} (hk : k < S.ns) : (S.sv k).toNat < S.nv ∧ ((S.sv k).toNat : Int) = S.sv k ∧ 0 ≤ S.sh k ∧ S.sh k ≤ S.last ∧ 0 ≤ S.sv k := by
  obtain ⟨⟨h1, h2⟩, h3, h4⟩ := hG.args.samp k hk
  omega
def lostS (S : MB) (v : Nat) (d e : Int) : Int := max 0 (d - e) * S.ve v + max 0 (e - d) * S.vl v
def lossTo (S : MB) (d e : Nat → Int) : Nat → Int
  | 0 => 0
  | m + 1 => lossTo S d e m + lostS S m (d m) (e m)
theorem lost_bound {S : MB} (hG : Good S) {v : Nat} (hv : v < S.nv) {d e : Int} (h1 : 0 ≤ d) (h2 : d ≤ 13) (h3 : 0 ≤ e) (h4 : e ≤ 9) : 0 ≤ lostS S v d e ∧ lostS S v d e ≤ 260 := by
  obtain ⟨_, ⟨a1, a2⟩, b1, b2⟩ := hG.args.vat v hv
  unfold lostS
  by_cases c : e ≤ d
  · rw [show max 0 (e - d) = 0 by omega, show max 0 (d - e) = d - e by omega, Int.zero_mul, Int.add_zero]
    refine ⟨Int.mul_nonneg (by omega) a1, ?_⟩
    have := Int.mul_le_mul (show d - e ≤ 13 by omega) a2 a1 (by omega)
    omega
  · rw [show max 0 (d - e) = 0 by omega, show max 0 (e - d) = e - d by omega, Int.zero_mul, Int.zero_add]
    refine ⟨Int.mul_nonneg (by omega) b1, ?_⟩
    have := Int.mul_le_mul (show e - d ≤ 9 by omega) b2 b1 (by omega)
    omega
theorem loss_bound {S : MB} (hG : Good S) {d e : Nat → Int} : ∀ m, m ≤ S.nv → (∀ v, v < m → (0 ≤ d v ∧ d v ≤ 13) ∧ 0 ≤ e v ∧ e v ≤ 9) → 0 ≤ lossTo S d e m ∧ lossTo S d e m ≤ 260 * m
  | 0, _, _ => by simp [lossTo]
  | m + 1, hm, h => by
    obtain ⟨h1, h2⟩ := loss_bound hG (d := d) (e := e) m (by omega) fun v hv => h v (by omega)
    obtain ⟨⟨h3, h4⟩, h5, h6⟩ := h m (by omega)
    obtain ⟨h7, h8⟩ := lost_bound hG (v := m) (by omega) h3 h4 h5 h6
    simp only [lossTo]
    omega
theorem loss_congr {S : MB} {d d' e e' : Nat → Int} : ∀ m, (∀ v, v < m → d v = d' v ∧ e v = e' v) → lossTo S d e m = lossTo S d' e' m
  | 0, _ => rfl
  | m + 1, h => by
    obtain ⟨h1, h2⟩ := h m (by omega)
    simp only [lossTo, loss_congr m fun v hv => h v (by omega), h1, h2]
def ThinS (S : MB) : Prop := S.nv ≤ 30 ∧ S.ns ≤ 30
end Go.Vm.Bt
