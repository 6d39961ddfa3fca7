/- Texts of the proofs of this seat, put together: VmLib2, BtBase, BtPure, BtRef, BtV1. -/
import Derived.Test.YtjihegbffhhcaaaPk4
import Derived.Test.YtjihegbffhhcaaaProg

namespace Go.Vm.L2
open Go.Vm.Vat
set_option linter.unusedSimpArgs false
set_option linter.unusedVariables false
set_option maxRecDepth 10000
theorem cells_congr {h : AHeap} {v : Value} {s n : Nat} {c c' : Nat → Nat → Value} (hc : Cells h v s n c) (he : ∀ k j, k < n → j < s → c k j = c' k j) : Cells h v s n c' := by
  obtain ⟨a, cap, rfl, hsp, h0 | ⟨b, o, cs, w, gr, rfl, h1, h2⟩⟩ := hc
  · exact ⟨a, cap, rfl, hsp, .inl h0⟩
  · exact ⟨_, cap, rfl, hsp, .inr ⟨b, o, cs, w, gr, rfl, h1, fun k j hk hj => by rw [h2 k j hk hj, he k j hk hj]⟩⟩
section
variable {h g : AHeap} {wv vv sv tv : Value}
theorem one_int {k : IntKind} {x : Int} : oneCell (.int k x) = true := rfl
theorem eqC_int {x : Int} : eqCell (.int .i64 x) (.int .i64 x) = true := by simp [eqCell, sameK, eqI_eq]
end
theorem eqV_int {x : Int} : eqV (.int .i64 x) (.int .i64 x) = true := by simp [eqV, eqCell, sameK, eqI_eq]
theorem eqV_bool {b : Bool} : eqV (.bool b) (.bool b) = true := by cases b <;> rfl
theorem self_two {x y : Int} : eqV (.agg ⟨[.int .i64 x, .int .i64 y]⟩) (.agg ⟨[.int .i64 x, .int .i64 y]⟩) = true := by simp [eqV, eqCells, eqC_int]
theorem sizeN_pos {lo hi : Nat → Int} : ∀ m, (∀ k, k < m → lo k ≤ hi k) → 1 ≤ sizeN lo hi m
  | 0, _ => Int.le_refl _
  | m + 1, h => by
    have h1 := sizeN_pos m fun k hk => h k (by omega)
    have h2 := h m (by omega)
    have := Int.mul_le_mul h1 (show (1 : Int) ≤ hi m - lo m + 1 by omega) (by omega) (by omega)
    simpa [sizeN] using this
theorem sizeN_le {lo hi : Nat → Int} {B : Int} (hB : 1 ≤ B) : ∀ m, (∀ k, k < m → lo k ≤ hi k ∧ hi k - lo k + 1 ≤ B) → sizeN lo hi m ≤ B ^ m
  | 0, _ => by simp [sizeN]
  | m + 1, h => by
    have h1 := sizeN_le hB m fun k hk => h k (by omega)
    obtain ⟨h2, h3⟩ := h m (by omega)
    rw [Int.pow_succ]
    exact Int.mul_le_mul h1 h3 (by omega) (Int.le_trans (by omega) (sizeN_pos m fun k hk => (h k (by omega)).1 |> fun x => x) |> fun x => Int.le_trans x h1)
variable {n : Nat} {h : AHeap}
structure TrR (h : AHeap) (tw tf : Value) (m1 : Nat) (a1 : Nat → Int) (m2 : Nat) (a2 : Nat → Int) : Prop where
  w : Ints h tw m1 a1
  f : Ints h tf m2 a2
def trL (tw tf : Value) (sp : Int) : List Value := [tw, .int .i64 sp, tf]
section
variable {g : AHeap} {tw tf : Value} {m1 m2 : Nat} {a1 a2 : Nat → Int} {sp : Int}
theorem TrR.mono (ht : TrR h tw tf m1 a1 m2 a2) (hs : Sub All h g) : TrR g tw tf m1 a1 m2 a2 := ⟨Cells.mono ht.w hs, Cells.mono ht.f hs⟩
theorem TrR.shut (ht : TrR h tw tf m1 a1 m2 a2) : TrR h.shutAll tw tf m1 a1 m2 a2 := ht.mono fun _ _ _ _ _ h => h
theorem TrR.one (ht : TrR h tw tf m1 a1 m2 a2) : allB oneCell (trL tw tf sp) = true := by
  simp [trL, allB, one_int, Cells.one ht.w, Cells.one ht.f]
theorem TrR.self (ht : TrR h tw tf m1 a1 m2 a2) : eqV (.agg ⟨trL tw tf sp⟩) (.agg ⟨trL tw tf sp⟩) = true := by
  simp [trL, eqV, eqCells, eqC_int, Cells.selfC ht.w, Cells.selfC ht.f]
end
variable {n : Nat} {h : AHeap}
variable {n : Nat} {h : AHeap}
variable {n : Nat} {h : AHeap}
variable {n : Nat} {h : AHeap}
variable {n : Nat} {h : AHeap}
def setU (u : Nat → Int) (i : Nat) (x : Int) (j : Nat) : Int := if j = i then x else u j
variable {n : Nat} {h : AHeap}
variable {n : Nat} {h : AHeap}
section
variable {P : Program} {cf : CallF} {N : Nat} {f : Fr} {x y : Operand}
end
variable {n : Nat} {h : AHeap}
variable {n : Nat} {h : AHeap}
def NeB (v : Value) (x : Nat) : Prop := ∀ b m c, v = .slice (some b) m c → x ≠ b.block
structure RowIn (B : Nat) (h : AHeap) (v1 v2 r : Value) (m : Nat) (a : Nat → Int) : Prop where
  ints : Ints h r m a
  blk : ∀ x m c, r = .slice (some x) m c → B ≤ x.block ∧ x.block < h.next ∧ NeB v1 x.block ∧ NeB v2 x.block
structure TwoR (B : Nat) (h : AHeap) (v1 v2 : Value) (k1 k2 : Nat) (cnt : Nat → Nat) (q1 q2 : Nat → Nat → Int) (r1 r2 : Nat → Value) : Prop where
  c1 : GrowC B h v1 1 k1 (fun i _ => r1 i)
  c2 : GrowC B h v2 1 k2 (fun i _ => r2 i)
  i1 : ∀ i, i < k1 → RowIn B h v1 v2 (r1 i) (cnt i) (q1 i)
  i2 : ∀ i, i < k2 → RowIn B h v1 v2 (r2 i) (cnt i) (q2 i)
  sep : ∀ x m c, v2 = .slice (some x) m c → NeB v1 x.block
theorem TwoR.nil {B : Nat} {cnt : Nat → Nat} {q1 q2 : Nat → Nat → Int} {r1 r2 : Nat → Value} : TwoR B h nilS nilS 0 0 cnt q1 q2 r1 r2 := ⟨.nil, .nil, fun i hi => by omega, fun i hi => by omega, fun x m c e => by cases e⟩
theorem RowIn.old {B : Nat} {g : AHeap} {v1 v2 r : Value} {m : Nat} {a : Nat → Int} (hr : RowIn B h v1 v2 r m a) (ho : ∀ i, i < h.next → g.get i = h.get i) (hn : h.next ≤ g.next) : RowIn B g v1 v2 r m a :=
  ⟨Cells.mono hr.ints (AHeap.subOf ho), fun x m c e => by obtain ⟨a, b, c, d⟩ := hr.blk x m c e; exact ⟨a, by omega, c, d⟩⟩
theorem TwoR.old {B : Nat} {g : AHeap} {v1 v2 : Value} {k1 k2 : Nat} {cnt : Nat → Nat} {q1 q2 : Nat → Nat → Int} {r1 r2 : Nat → Value} (ht : TwoR B h v1 v2 k1 k2 cnt q1 q2 r1 r2) (ho : ∀ i, i < h.next → g.get i = h.get i) (hn : h.next ≤ g.next) : TwoR B g v1 v2 k1 k2 cnt q1 q2 r1 r2 :=
  ⟨ht.c1.sub (AHeap.subOf ho), ht.c2.sub (AHeap.subOf ho), fun i hi => (ht.i1 i hi).old ho hn, fun i hi => (ht.i2 i hi).old ho hn, ht.sep⟩
theorem TwoR.push {B : Nat} {g1 : AHeap} {v1 v2 l : Value} {k1 k2 : Nat} {cnt : Nat → Nat} {q1 q2 : Nat → Nat → Int} {r1 r2 : Nat → Value} (ht : TwoR B h v1 v2 k1 k2 cnt q1 q2 r1 r2) (hB : h.floor ≤ B) (hf : h.next + 2 < far) (hBn : B ≤ h.next)
    (hl : RowIn B h v1 v2 l (cnt k1) (q1 k1)) (hone : oneCell l = true) (hx : New h g1 [l] 0) (hk : k1 ≤ 100) :
    ∃ v' g2, appendA 1 24 g1 v1 (.slice (some ⟨h.next, 0, none⟩) 1 1) = some (v', g2) ∧ TwoR B g2 v' v2 (k1 + 1) k2 cnt q1 q2 (fun i => if i = k1 then l else r1 i) r2 ∧ g2.next = h.next + 2 ∧ g2.floor = h.floor ∧ (∀ i, i < B → g2.get i = h.get i) := by
  have hnx := hx.next
  have hfl := hx.floor
  have ht1 := ht.old hx.old (by omega)
  have c1' : GrowC B g1 v1 1 k1 (fun i _ => if i = k1 then l else r1 i) := ht1.c1.congr fun k j hk hj => by rw [if_neg (by omega)]
  obtain ⟨v', g2, e, ev, gv, hk2⟩ := c1'.append (bytes := 24) (cap := 1) (by omega) (by omega) (by omega) hx.get rfl (by simp [allB, hone]) (fun j hj => by rw [one_get j hj, if_pos rfl]) (by simp [maxBytes]; omega) (by simp [maxBytes]; omega)
  have n2 := hk2.next
  have f2 := hk2.floor
  have hrow : ∀ {r : Value} {m : Nat} {a : Nat → Int}, RowIn B g1 v1 v2 r m a → (∀ x m c, r = .slice (some x) m c → x.block < g1.next) → RowIn B g2 v' v2 r m a := fun {r m a} hr hlt =>
    ⟨Cells.kept hr.ints hk2 fun x m c e b m' c' e' => (hr.blk x m c e).2.2.1 b m' c' e', fun x m c e => by
      obtain ⟨k1, k2, k3, k4⟩ := hr.blk x m c e
      refine ⟨k1, by omega, fun b m' c' e' => ?_, k4⟩
      rw [ev] at e'; cases e'
      show x.block ≠ g1.next
      omega⟩
  have hlr := hl.old hx.old (by omega)
  refine ⟨v', g2, e, ⟨gv, ?_, fun i hi => ?_, fun i hi => ?_, fun x m c e b m' c' e' => ?_⟩, by omega, by omega, fun i hi => ?_⟩
  · obtain ⟨cs, ⟨rfl, rfl, rfl⟩ | ⟨b, rfl, h2, h3, h4⟩, h5, h6⟩ := ht1.c2
    · exact .nil
    · exact ⟨cs, .inr ⟨b, rfl, by rw [hk2.old b (AHeap.lt_of_get h2) fun x m c e => ht.sep _ _ _ rfl x m c e]; exact h2, h3, h4⟩, h5, h6⟩
  · by_cases e : i = k1
    · subst e; simp only [if_true]
      exact hrow hlr fun x m c e => (hlr.blk x m c e).2.1
    · simp only [e, if_false]
      have := ht1.i1 i (by omega)
      exact hrow this fun x m c e => (this.blk x m c e).2.1
  · have := ht1.i2 i hi
    exact hrow this fun x m c e => (this.blk x m c e).2.1
  · rw [ev] at e'; cases e'
    have := (ht.c2.block e).2
    show x.block ≠ g1.next
    omega
  · rw [hk2.old i (by omega) fun b m c e => by have := (c1'.block e).1; omega, hx.old i (by omega)]
theorem build_meas {G : Nat} : buildA (fun x => (#[(0, 1)] : Array (Nat × Nat))[x]?) ⟨[.nilFunc]⟩ [0] h [.func (.func G) #[] #[]] = some (.agg ⟨[.func (.func G) #[] #[]]⟩, h) := id rfl
theorem sl_list {v : Value} (hv : oneCell v = true) : buildSl 1 1 [.slice none 0 0] [0] h [v] = newSlice h [v] 1 1 0 := sl_one hv
variable {n : Nat} {h : AHeap}
theorem append_nil {s bytes : Nat} {y : Value} {m : Nat} {new : List Value} (hy : ∃ x k, y = .slice x m k) (hyc : cellsOfSlice h s y = some new) (hnl : new.length = m * s) (hb1 : m * bytes ≤ maxBytes) (hb2 : m ≤ maxBytes) :
    appendA s bytes h (.slice none 0 0) y = if m = 0 then some (.slice none 0 0, h) else newSlice h new m unk s := by
  obtain ⟨a, k, rfl⟩ := hy
  have e1 : Nat.ble ((0 + m) * bytes) maxBytes = true := ble_iff.2 (by rw [Nat.zero_add]; exact hb1)
  have e2 : Nat.ble (0 + m) maxBytes = true := ble_iff.2 (by omega)
  have e3 : Nat.beq (len new) (m * s) = true := by rw [len_eq]; exact beq_iff.2 hnl
  unfold appendA
  simp only [hyc, e1, e2, e3, Bool.and_self, cond_true]
  by_cases hm : m = 0
  · subst hm
    rw [if_pos rfl]
    rfl
  · rw [if_neg hm]
    have e4 : Nat.ble (0 + m) 0 = false := by
      cases hb : Nat.ble (0 + m) 0 with
      | false => rfl
      | true => have := ble_iff.1 hb; omega
    rw [e4, Bool.false_and, cond_false]
    unfold appendGrow
    have e5 : cellsOfSlice h s (.slice none 0 0) = some [] := rfl
    have e6 : Nat.blt 0 unk = true := rfl
    simp only [e5, e6, cond_true, app_eq, List.nil_append, Nat.zero_add]
theorem ints_slice {v : Value} {m : Nat} {a : Nat → Int} (hi : Ints h v m a) : ∃ x k, v = .slice x m k := by
  obtain ⟨x, k, e, _⟩ := hi
  exact ⟨x, k, e⟩
variable {n : Nat} {h : AHeap}
theorem grow_push {B k s bytes : Nat} {v : Value} {c : Nat → Nat → Value} {g1 : AHeap} {row : List Value} (hg : GrowC B h v s k c) (hB : h.floor ≤ B) (hf : h.next + 2 < far) (hBn : B ≤ h.next) (hx : New h g1 row 0) (hlen : row.length = s) (hone : allB oneCell row = true) (hn : ∀ j, j < s → row[j]? = some (c k j)) (hb1 : (k + 1) * bytes ≤ maxBytes) (hb2 : k + 1 ≤ maxBytes) :
    ∃ v' g2, appendA s bytes g1 v (.slice (some ⟨h.next, 0, none⟩) 1 1) = some (v', g2) ∧ GrowC B g2 v' s (k + 1) c ∧ oneCell v' = true ∧ g2.next = h.next + 2 ∧ g2.floor = h.floor ∧ (∀ i, i < B → g2.get i = h.get i) ∧ g1.next ≤ g2.next := by
  have hnx := hx.next
  have hfl := hx.floor
  have g1' : GrowC B g1 v s k c := hg.sub hx.sub
  obtain ⟨v', g2, e, ev, gv, hk2⟩ := g1'.append (bytes := bytes) (cap := 1) (by omega) (by omega) (by omega) hx.get hlen hone hn hb1 hb2
  have n2 := hk2.next
  have f2 := hk2.floor
  refine ⟨v', g2, e, gv, gv.one, by omega, by omega, fun i hi => ?_, by omega⟩
  rw [hk2.old i (by omega) fun b m c e => by have := (g1'.block e).1; omega, hx.old i (by omega)]
theorem cells1 {v : Value} (h : oneCell v = true) : cellList v = [v] := by cases v <;> first | rfl | cases h
theorem sl_va {a b c d : Int} : buildSl 4 1 [.int .i64 0, .int .i64 0, .int .i64 0, .int .i64 0] [0] h [.agg ⟨[.int .i64 a, .int .i64 b, .int .i64 c, .int .i64 d]⟩] = newSlice h [.int .i64 a, .int .i64 b, .int .i64 c, .int .i64 d] 1 1 0 := by
  unfold buildSl
  have e : Instr.fill (fun i => some (i * 4, 4)) ⟨repl [Value.int .i64 0, .int .i64 0, .int .i64 0, .int .i64 0] 1⟩ ([0].zip [.agg ⟨[.int .i64 a, .int .i64 b, .int .i64 c, .int .i64 d]⟩]) = some #[.int .i64 a, .int .i64 b, .int .i64 c, .int .i64 d] := by
    simp [Instr.fill, Value.cells, repl, app_eq]
  rw [e]
variable {n : Nat} {h : AHeap}
theorem divN_le' {s : Nat → Nat} {m : Nat} : ∀ k, divN s m k ≤ m
  | 0 => Nat.le_refl _
  | k + 1 => Nat.le_trans (Nat.div_le_self _ _) (divN_le' k)
theorem rd_neb {b o : Nat} {s : Option Nat} {v : Value} : (∀ ad : Addr, Value.pointer (some ⟨b, o, s⟩) = .pointer (some ad) → NeB v ad.block) = NeB v b := by
  simp only [eq_iff_iff]
  exact ⟨fun hh => hh _ rfl, fun hb ad e => by cases e; exact hb⟩
theorem grow_push2 {B k s bytes : Nat} {v : Value} {c : Nat → Nat → Value} {g1 : AHeap} {row : List Value} (hg : GrowC B h v s k c) (hB : h.floor ≤ B) (hf : h.next + 2 < far) (hBn : B ≤ h.next) (hx : New h g1 row 0) (hlen : row.length = s) (hone : allB oneCell row = true) (hn : ∀ j, j < s → row[j]? = some (c k j)) (hb1 : (k + 1) * bytes ≤ maxBytes) (hb2 : k + 1 ≤ maxBytes) :
    ∃ v' g2, appendA s bytes g1 v (.slice (some ⟨h.next, 0, none⟩) 1 1) = some (v', g2) ∧ GrowC B g2 v' s (k + 1) c ∧ oneCell v' = true ∧ g2.next = h.next + 2 ∧ g2.floor = h.floor ∧ (∀ i, i < h.next → NeB v i → g2.get i = h.get i) ∧ g1.next ≤ g2.next := by
  have hnx := hx.next
  have hfl := hx.floor
  have g1' : GrowC B g1 v s k c := hg.sub hx.sub
  obtain ⟨v', g2, e, ev, gv, hk2⟩ := g1'.append (bytes := bytes) (cap := 1) (by omega) (by omega) (by omega) hx.get hlen hone hn hb1 hb2
  have n2 := hk2.next
  have f2 := hk2.floor
  refine ⟨v', g2, e, gv, gv.one, by omega, by omega, fun i hi hne => ?_, by omega⟩
  rw [hk2.old i (by omega) fun b m c e => hne b m c e, hx.old i (by omega)]
theorem neB_of {B s k : Nat} {v : Value} {c : Nat → Nat → Value} (hg : GrowC B h v s k c) {i : Nat} (hi : i < B ∨ h.next ≤ i) : NeB v i := fun b m c e => by
  have := hg.block e
  omega
theorem _root_.Go.Vm.GrowC.le {B C s m : Nat} {v : Value} {c : Nat → Nat → Value} (hg : GrowC B h v s m c) (hc : C ≤ B) : GrowC C h v s m c := by
  obtain ⟨cs, h1, h2, h3⟩ := hg
  refine ⟨cs, ?_, h2, h3⟩
  rcases h1 with q | ⟨b, q1, q2, q3, q4⟩
  · exact .inl q
  · exact .inr ⟨b, q1, q2, q3, by omega⟩
variable {n : Nat} {h : AHeap}
theorem wf16 {a : Int} (h : (Lit.int .u16 a).wf = true) : ∃ k : Nat, a = k ∧ k < 65536 := by
  simp only [Lit.wf, Bool.and_eq_true, decide_eq_true_eq] at h
  have h1 : (IntKind.u16).min = 0 := rfl
  have h2 : (IntKind.u16).max = 65535 := rfl
  rw [h1, h2] at h
  exact ⟨a.toNat, by omega, by omega⟩
variable {n : Nat} {h : AHeap}
variable {n : Nat} {h : AHeap}
theorem enumB_pos {lo hi : Nat → Int} : ∀ (d i : Nat) (c : Nat → Int), (∀ k, i ≤ k → k < i + d → lo k ≤ hi k) → 1 ≤ (enumB lo hi d i c).length
  | 0, i, c, _ => by simp [enumB]
  | d + 1, i, c, hv => by
    have h0 := hv i (by omega) (by omega)
    simp only [enumB]
    obtain ⟨l, e⟩ := part_flat (fun (k : Nat) => enumB lo hi d (i + 1) fun j => if j = i then lo i + (k : Int) else c j) (k := 0) (m := (hi i - lo i + 1).toNat) (by omega)
    rw [e]
    have := enumB_pos (lo := lo) (hi := hi) d (i + 1) (fun j => if j = i then lo i + ((0 : Nat) : Int) else c j) fun k h1 h2 => hv k (by omega) (by omega)
    simp only [List.length_append]
    omega
section
variable {σ : Type} (Own : AHeap → Nat → Prop)
def FrO (g g' : AHeap) : Prop := ∀ q cs, Row g q cs → Own g q → Row g' q cs ∧ Own g' q
variable {Own}
theorem FrO.refl {g : AHeap} : FrO Own g g := fun _ _ h1 h2 => ⟨h1, h2⟩
theorem FrO.trans {g g1 g2 : AHeap} (h1 : FrO Own g g1) (h2 : FrO Own g1 g2) : FrO Own g g2 := fun q cs a b => by
  obtain ⟨a1, b1⟩ := h1 q cs a b
  exact h2 q cs a1 b1
end
variable {n : Nat} {h : AHeap}
variable {n : Nat} {h : AHeap}
variable {n : Nat} {h : AHeap}
theorem getD_mem {l : List (Nat → Int)} {k : Nat} (hk : k < l.length) : (l.getD k fun _ => 0) ∈ l := by
  rw [List.getD_eq_getElem?_getD, List.getElem?_eq_getElem hk]
  exact List.getElem_mem hk
variable {n : Nat} {h : AHeap}
variable {n : Nat} {h : AHeap}
variable {n : Nat} {h : AHeap}
section
variable {o : Nat} {b f : Int} {u : Nat → Int}
end
theorem cells_at {g : AHeap} {v : Value} {s m : Nat} {c : Nat → Nat → Value} (hc : Cells h v s m c) (he : ∀ a k cap, v = .slice (some a) k cap → a.block < h.next → g.get a.block = h.get a.block) : Cells g v s m c := by
  obtain ⟨a, cap, rfl, hsp, h0 | ⟨b, o, cs, w, gr, rfl, h1, h2⟩⟩ := hc
  · exact ⟨a, cap, rfl, hsp, .inl h0⟩
  · exact ⟨_, cap, rfl, hsp, .inr ⟨b, o, cs, w, gr, rfl, by rw [he _ _ _ rfl (AHeap.lt_of_get h1)]; exact h1, h2⟩⟩
theorem growC_congr {B s m : Nat} {v : Value} {c c' : Nat → Nat → Value} (hg : GrowC B h v s m c) (he : ∀ k j, k < m → j < s → c k j = c' k j) : GrowC B h v s m c' := by
  obtain ⟨cs, h1, h2, h3⟩ := hg
  exact ⟨cs, h1, h2, fun k j hk hj => by rw [h3 k j hk hj, he k j hk hj]⟩
theorem grow_push3 {B k s bytes : Nat} {v : Value} {c : Nat → Nat → Value} {g1 : AHeap} {row : List Value} (hg : GrowC B h v s k c) (hB : h.floor ≤ B) (hf : h.next + 2 < far) (hBn : B ≤ h.next) (hx : New h g1 row 0) (hlen : row.length = s) (hone : allB oneCell row = true) (hn : ∀ j, j < s → row[j]? = some (c k j)) (hb1 : (k + 1) * bytes ≤ maxBytes) (hb2 : k + 1 ≤ maxBytes) :
    ∃ g2, appendA s bytes g1 v (.slice (some ⟨h.next, 0, none⟩) 1 1) = some (.slice (some ⟨h.next + 1, 0, none⟩) (k + 1) unk, g2) ∧ GrowC B g2 (.slice (some ⟨h.next + 1, 0, none⟩) (k + 1) unk) s (k + 1) c ∧ g2.next = h.next + 2 ∧ g2.floor = h.floor ∧ (∀ i, i < h.next → NeB v i → g2.get i = h.get i) ∧ g1.next ≤ g2.next := by
  have hnx := hx.next
  have hfl := hx.floor
  have g1' : GrowC B g1 v s k c := hg.sub hx.sub
  obtain ⟨v', g2, e, ev, gv, hk2⟩ := g1'.append (bytes := bytes) (cap := 1) (by omega) (by omega) (by omega) hx.get hlen hone hn hb1 hb2
  rw [hnx] at ev
  subst ev
  have n2 := hk2.next
  have f2 := hk2.floor
  refine ⟨g2, e, gv, by omega, by omega, fun i hi hne => ?_, by omega⟩
  rw [hk2.old i (by omega) fun b m c e => hne b m c e, hx.old i (by omega)]
variable {n : Nat} {h : AHeap}
theorem sl_pair {x y : Int} : buildSl 2 1 [.int .i64 0, .int .i64 0] [0] h [.agg ⟨[.int .i64 x, .int .i64 y]⟩] = newSlice h [.int .i64 x, .int .i64 y] 1 1 0 := id rfl
variable {n : Nat} {h : AHeap}
theorem cells_lt {v : Value} {s m : Nat} {c : Nat → Nat → Value} (hc : Cells h v s m c) (hm : 0 < m) {a : Addr} {k cap : Nat} (e : v = .slice (some a) k cap) : a.block < h.next := by
  obtain ⟨a', c', e', _, hz | ⟨b, o, cs, w, gr, e2, e3, _⟩⟩ := hc
  · omega
  · rw [e] at e'
    cases e'
    cases e2
    exact AHeap.lt_of_get e3
variable {n : Nat} {h : AHeap}
variable {n : Nat} {h : AHeap}
variable {n : Nat} {h : AHeap}
variable {n : Nat} {h : AHeap}
variable {n : Nat} {h : AHeap}
variable {n : Nat} {h : AHeap}
variable {n : Nat} {h : AHeap}
variable {n : Nat} {h : AHeap}
variable {n : Nat} {h : AHeap}
variable {n : Nat} {h : AHeap}
theorem build_rng0 : buildA (fun x => (#[(0, 1), (1, 1)] : Array (Nat × Nat))[x]?) ⟨[.int .i64 0, .int .i64 0]⟩ [] h [] = some (.agg ⟨[.int .i64 0, .int .i64 0]⟩, h) := id rfl
variable {n : Nat} {h : AHeap}
theorem binA_eqlB {P : Program} {N : Nat} {f : Go.Vm.Fr} {op : Op} {ty : TypeId} {a b : Bool} : binA P N .eql op ty (.bool a) (.bool b) f h = plainF P N op ty f h := id rfl
variable {P : Program} {N : Nat} {f : Fr} {h : AHeap} {ty t u e : TypeId} {x y : Operand}
variable {n : Nat} {h : AHeap}
variable {n : Nat} {h : AHeap}
def optI : Option Nat → Int → Int
  | some v, _ => (v : Int)
  | none, d => d
variable {n : Nat} {h : AHeap}
structure Sm where
  v : Int
  h : Int
  l : Int
variable {n : Nat} {h : AHeap}
variable {n : Nat} {h : AHeap}
theorem rd_1' {S : Nat → Prop} {f : Go.Vm.Fr} {x : Operand} : readsIn S f (.load1 x) = ∀ ad, val f x = .pointer (some ad) → S ad.block := id rfl
variable {n : Nat} {h : AHeap}
variable {n : Nat} {h : AHeap}
theorem dg_un {X : Cx} {S : Nat → Prop} {h0 h : AHeap} {k : Kd} {d : Option Nat} {want : Bool} {op : SOp} {L : List DI} {Q : WPost} {f : Go.Vm.Fr} {m : List Nat} : dgW X S h0 undef want k d op L Q f h m = dW X S h0 L Q (putF f d undef) h m := by
  have : isB want undef = false := rfl
  simp [dgW, this]
variable {n : Nat} {h : AHeap}
variable {n : Nat} {h : AHeap}
section
variable {H : Type} {enc : TypeId × Value → H} {w : World} {base : Nat} {sp : Nat → Bool} {held : Bool} {fuel : Nat} {cs : List Value} {x : DataW H × List MemPlace}
structure SteepW (wd : World) (wv vv sv : Value) : Prop where
  w : FlatS wd .i64 2 wv
  v : FlatS wd .i64 4 vv
  s : FlatS wd .i64 3 sv
end
def quiet : List Nat := [46]
def e0 : Entry :=
  { next := 7, f := 25, args := [(.agg ⟨[(.int Go.IntKind.i64 (3)), (.int Go.IntKind.i64 (3)), (.slice (some ⟨2, 0, none⟩) 4 4), (.int Go.IntKind.i64 (7)), (.int Go.IntKind.i64 (8)), (.slice (some ⟨3, 0, none⟩) 2 2), (.slice (some ⟨1, 0, none⟩) 0 2)]⟩), (.agg ⟨[(.slice (some ⟨5, 0, none⟩) 4 4), (.int Go.IntKind.i64 (7)), (.slice (some ⟨6, 0, none⟩) 2 2)]⟩)], objs := [(6, .row [(.int Go.IntKind.i64 (21)), (.int Go.IntKind.i64 (9))] true 0), (5, .row [(.int Go.IntKind.i64 (2)), (.int Go.IntKind.i64 (2)), (.int Go.IntKind.i64 (2)), (.int Go.IntKind.i64 (3))] true 0), (1, .row [(.int Go.IntKind.i64 (0)), (.int Go.IntKind.i64 (1)), (.int Go.IntKind.i64 (1)), (.int Go.IntKind.i64 (0)), (.int Go.IntKind.i64 (3)), (.int Go.IntKind.i64 (1))] true 0), (3, .row [(.int Go.IntKind.i64 (0)), (.int Go.IntKind.i64 (20)), (.int Go.IntKind.i64 (22)), (.int Go.IntKind.i64 (14)), (.int Go.IntKind.i64 (1)), (.int Go.IntKind.i64 (9)), (.int Go.IntKind.i64 (9)), (.int Go.IntKind.i64 (9))] true 0), (2, .row [(.int Go.IntKind.i64 (2)), (.int Go.IntKind.i64 (3)), (.int Go.IntKind.i64 (2)), (.int Go.IntKind.i64 (2)), (.int Go.IntKind.i64 (1)), (.int Go.IntKind.i64 (2)), (.int Go.IntKind.i64 (3)), (.int Go.IntKind.i64 (3))] true 0)], val := (.tuple ⟨[(.slice (some ⟨192, 0, none⟩) 2 4611686018427387904), (.slice (some ⟨227, 0, none⟩) 2 4611686018427387904), (.int Go.IntKind.i64 (0))]⟩), next' := 228, objs' := [(197, .row [(.int Go.IntKind.i64 (0)), (.int Go.IntKind.i64 (1)), (.int Go.IntKind.i64 (1))] true 0), (135, .row [(.int Go.IntKind.i64 (0)), (.int Go.IntKind.i64 (0)), (.int Go.IntKind.i64 (1)), (.int Go.IntKind.i64 (2))] true 0), (227, .row [(.slice (some ⟨135, 0, none⟩) 4 4), (.slice (some ⟨197, 0, none⟩) 3 3)] true 1), (174, .row [(.int Go.IntKind.i64 (6)), (.int Go.IntKind.i64 (9)), (.int Go.IntKind.i64 (9))] true 0), (107, .row [(.int Go.IntKind.i64 (6)), (.int Go.IntKind.i64 (12)), (.int Go.IntKind.i64 (18)), (.int Go.IntKind.i64 (21))] true 0), (192, .row [(.slice (some ⟨107, 0, none⟩) 4 4), (.slice (some ⟨174, 0, none⟩) 3 3)] true 1)] }
def e1 : Entry :=
  { next := 232, f := 35, args := [(.agg ⟨[(.int Go.IntKind.i64 (3)), (.int Go.IntKind.i64 (3)), (.slice (some ⟨230, 0, none⟩) 4 4), (.int Go.IntKind.i64 (7)), (.int Go.IntKind.i64 (8)), (.slice (some ⟨231, 0, none⟩) 2 2), (.slice (some ⟨229, 0, none⟩) 0 2)]⟩), (.int Go.IntKind.i64 (0))], objs := [(229, .row [(.int Go.IntKind.i64 (0)), (.int Go.IntKind.i64 (1)), (.int Go.IntKind.i64 (1)), (.int Go.IntKind.i64 (0)), (.int Go.IntKind.i64 (3)), (.int Go.IntKind.i64 (1))] true 0), (231, .row [(.int Go.IntKind.i64 (0)), (.int Go.IntKind.i64 (20)), (.int Go.IntKind.i64 (22)), (.int Go.IntKind.i64 (14)), (.int Go.IntKind.i64 (1)), (.int Go.IntKind.i64 (9)), (.int Go.IntKind.i64 (9)), (.int Go.IntKind.i64 (9))] true 0), (230, .row [(.int Go.IntKind.i64 (2)), (.int Go.IntKind.i64 (3)), (.int Go.IntKind.i64 (2)), (.int Go.IntKind.i64 (2)), (.int Go.IntKind.i64 (1)), (.int Go.IntKind.i64 (2)), (.int Go.IntKind.i64 (3)), (.int Go.IntKind.i64 (3))] true 0)], val := (.tuple ⟨[(.slice (some ⟨524, 0, none⟩) 4 4611686018427387904), (.int Go.IntKind.i64 (0))]⟩), next' := 1238, objs' := [(524, .row [(.int Go.IntKind.i64 (6)), (.int Go.IntKind.i64 (9)), (.int Go.IntKind.i64 (12)), (.int Go.IntKind.i64 (15)), (.int Go.IntKind.i64 (15)), (.int Go.IntKind.i64 (21)), (.int Go.IntKind.i64 (20)), (.int Go.IntKind.i64 (22))] true 2)] }
def e2 : Entry :=
  { next := 1242, f := 40, args := [(.agg ⟨[(.int Go.IntKind.i64 (3)), (.int Go.IntKind.i64 (3)), (.slice (some ⟨1240, 0, none⟩) 4 4), (.int Go.IntKind.i64 (7)), (.int Go.IntKind.i64 (8)), (.slice (some ⟨1241, 0, none⟩) 2 2), (.slice (some ⟨1239, 0, none⟩) 0 2)]⟩), (.int Go.IntKind.i64 (0)), (.int Go.IntKind.i64 (1))], objs := [(1239, .row [(.int Go.IntKind.i64 (0)), (.int Go.IntKind.i64 (1)), (.int Go.IntKind.i64 (1)), (.int Go.IntKind.i64 (0)), (.int Go.IntKind.i64 (3)), (.int Go.IntKind.i64 (1))] true 0), (1241, .row [(.int Go.IntKind.i64 (0)), (.int Go.IntKind.i64 (20)), (.int Go.IntKind.i64 (22)), (.int Go.IntKind.i64 (14)), (.int Go.IntKind.i64 (1)), (.int Go.IntKind.i64 (9)), (.int Go.IntKind.i64 (9)), (.int Go.IntKind.i64 (9))] true 0), (1240, .row [(.int Go.IntKind.i64 (2)), (.int Go.IntKind.i64 (3)), (.int Go.IntKind.i64 (2)), (.int Go.IntKind.i64 (2)), (.int Go.IntKind.i64 (1)), (.int Go.IntKind.i64 (2)), (.int Go.IntKind.i64 (3)), (.int Go.IntKind.i64 (3))] true 0)], val := (.tuple ⟨[(.int Go.IntKind.i64 (3)), (.int Go.IntKind.i64 (0))]⟩), next' := 2431, objs' := [] }
def e3 : Entry :=
  { next := 2435, f := 44, args := [(.agg ⟨[(.int Go.IntKind.i64 (3)), (.int Go.IntKind.i64 (3)), (.slice (some ⟨2433, 0, none⟩) 4 4), (.int Go.IntKind.i64 (7)), (.int Go.IntKind.i64 (8)), (.slice (some ⟨2434, 0, none⟩) 2 2), (.slice (some ⟨2432, 0, none⟩) 1 2)]⟩), (.int Go.IntKind.i64 (0))], objs := [(2432, .row [(.int Go.IntKind.i64 (0)), (.int Go.IntKind.i64 (1)), (.int Go.IntKind.i64 (1)), (.int Go.IntKind.i64 (0)), (.int Go.IntKind.i64 (3)), (.int Go.IntKind.i64 (1))] true 0), (2434, .row [(.int Go.IntKind.i64 (0)), (.int Go.IntKind.i64 (20)), (.int Go.IntKind.i64 (22)), (.int Go.IntKind.i64 (14)), (.int Go.IntKind.i64 (1)), (.int Go.IntKind.i64 (9)), (.int Go.IntKind.i64 (9)), (.int Go.IntKind.i64 (9))] true 0), (2433, .row [(.int Go.IntKind.i64 (2)), (.int Go.IntKind.i64 (3)), (.int Go.IntKind.i64 (2)), (.int Go.IntKind.i64 (2)), (.int Go.IntKind.i64 (1)), (.int Go.IntKind.i64 (2)), (.int Go.IntKind.i64 (3)), (.int Go.IntKind.i64 (3))] true 0)], val := (.tuple ⟨[(.agg ⟨[(.int Go.IntKind.i64 (1)), (.int Go.IntKind.i64 (2))]⟩), (.int Go.IntKind.i64 (0))]⟩), next' := 3476, objs' := [] }
def e4 : Entry :=
  { next := 3481, f := 47, args := [(.agg ⟨[(.int Go.IntKind.i64 (3)), (.int Go.IntKind.i64 (3)), (.slice (some ⟨3479, 0, none⟩) 4 4), (.int Go.IntKind.i64 (7)), (.int Go.IntKind.i64 (8)), (.slice (some ⟨3480, 0, none⟩) 2 2), (.slice (some ⟨3478, 0, none⟩) 0 2)]⟩)], objs := [(3478, .row [(.int Go.IntKind.i64 (0)), (.int Go.IntKind.i64 (1)), (.int Go.IntKind.i64 (1)), (.int Go.IntKind.i64 (0)), (.int Go.IntKind.i64 (3)), (.int Go.IntKind.i64 (1))] true 0), (3480, .row [(.int Go.IntKind.i64 (0)), (.int Go.IntKind.i64 (20)), (.int Go.IntKind.i64 (22)), (.int Go.IntKind.i64 (16)), (.int Go.IntKind.i64 (1)), (.int Go.IntKind.i64 (9)), (.int Go.IntKind.i64 (9)), (.int Go.IntKind.i64 (9))] true 0), (3479, .row [(.int Go.IntKind.i64 (2)), (.int Go.IntKind.i64 (3)), (.int Go.IntKind.i64 (2)), (.int Go.IntKind.i64 (2)), (.int Go.IntKind.i64 (1)), (.int Go.IntKind.i64 (2)), (.int Go.IntKind.i64 (3)), (.int Go.IntKind.i64 (3))] true 0)], val := (.tuple ⟨[(.int Go.IntKind.i64 (0)), (.int Go.IntKind.i64 (0))]⟩), next' := 4673, objs' := [] }
def e5 : Entry :=
  { next := 4678, f := 94, args := [(.agg ⟨[(.int Go.IntKind.i64 (3)), (.int Go.IntKind.i64 (3)), (.slice (some ⟨4675, 0, none⟩) 4 4), (.int Go.IntKind.i64 (7)), (.int Go.IntKind.i64 (8)), (.slice (some ⟨4676, 0, none⟩) 2 2), (.slice (some ⟨4674, 0, none⟩) 0 2)]⟩)], objs := [(4674, .row [(.int Go.IntKind.i64 (0)), (.int Go.IntKind.i64 (1)), (.int Go.IntKind.i64 (1)), (.int Go.IntKind.i64 (0)), (.int Go.IntKind.i64 (3)), (.int Go.IntKind.i64 (1))] true 0), (4676, .row [(.int Go.IntKind.i64 (0)), (.int Go.IntKind.i64 (20)), (.int Go.IntKind.i64 (22)), (.int Go.IntKind.i64 (14)), (.int Go.IntKind.i64 (1)), (.int Go.IntKind.i64 (9)), (.int Go.IntKind.i64 (9)), (.int Go.IntKind.i64 (9))] true 0), (4675, .row [(.int Go.IntKind.i64 (2)), (.int Go.IntKind.i64 (3)), (.int Go.IntKind.i64 (2)), (.int Go.IntKind.i64 (2)), (.int Go.IntKind.i64 (1)), (.int Go.IntKind.i64 (2)), (.int Go.IntKind.i64 (3)), (.int Go.IntKind.i64 (3))] true 0)], val := (.tuple ⟨[(.agg ⟨[(.int Go.IntKind.i64 (3)), (.int Go.IntKind.i64 (3)), (.slice (some ⟨4675, 0, none⟩) 4 4), (.int Go.IntKind.i64 (7)), (.int Go.IntKind.i64 (8)), (.slice (some ⟨4676, 0, none⟩) 2 2), (.slice (some ⟨4674, 0, none⟩) 0 2), (.slice (some ⟨4929, 0, none⟩) 24 4611686018427387904)]⟩), (.int Go.IntKind.i64 (0))]⟩), next' := 4931, objs' := [(4929, .row [(.int Go.IntKind.i64 (2)), (.int Go.IntKind.i64 (2)), (.int Go.IntKind.i64 (1)), (.int Go.IntKind.i64 (3)), (.int Go.IntKind.i64 (0)), (.int Go.IntKind.i64 (0)), (.int Go.IntKind.i64 (7)), (.int Go.IntKind.i64 (20)), (.int Go.IntKind.i64 (9)), (.int Go.IntKind.i64 (0)), (.int Go.IntKind.i64 (0)), (.int Go.IntKind.i64 (2)), (.int Go.IntKind.i64 (2)), (.int Go.IntKind.i64 (1)), (.int Go.IntKind.i64 (3)), (.int Go.IntKind.i64 (0)), (.int Go.IntKind.i64 (0)), (.int Go.IntKind.i64 (7)), (.int Go.IntKind.i64 (21)), (.int Go.IntKind.i64 (9)), (.int Go.IntKind.i64 (0)), (.int Go.IntKind.i64 (0)), (.int Go.IntKind.i64 (2)), (.int Go.IntKind.i64 (2)), (.int Go.IntKind.i64 (1)), (.int Go.IntKind.i64 (3)), (.int Go.IntKind.i64 (0)), (.int Go.IntKind.i64 (0)), (.int Go.IntKind.i64 (7)), (.int Go.IntKind.i64 (22)), (.int Go.IntKind.i64 (9)), (.int Go.IntKind.i64 (0)), (.int Go.IntKind.i64 (0)), (.int Go.IntKind.i64 (2)), (.int Go.IntKind.i64 (2)), (.int Go.IntKind.i64 (1)), (.int Go.IntKind.i64 (3)), (.int Go.IntKind.i64 (0)), (.int Go.IntKind.i64 (0)), (.int Go.IntKind.i64 (8)), (.int Go.IntKind.i64 (20)), (.int Go.IntKind.i64 (9)), (.int Go.IntKind.i64 (0)), (.int Go.IntKind.i64 (0)), (.int Go.IntKind.i64 (2)), (.int Go.IntKind.i64 (2)), (.int Go.IntKind.i64 (1)), (.int Go.IntKind.i64 (3)), (.int Go.IntKind.i64 (0)), (.int Go.IntKind.i64 (0)), (.int Go.IntKind.i64 (8)), (.int Go.IntKind.i64 (21)), (.int Go.IntKind.i64 (9)), (.int Go.IntKind.i64 (0)), (.int Go.IntKind.i64 (0)), (.int Go.IntKind.i64 (2)), (.int Go.IntKind.i64 (2)), (.int Go.IntKind.i64 (1)), (.int Go.IntKind.i64 (3)), (.int Go.IntKind.i64 (0)), (.int Go.IntKind.i64 (0)), (.int Go.IntKind.i64 (8)), (.int Go.IntKind.i64 (22)), (.int Go.IntKind.i64 (9)), (.int Go.IntKind.i64 (0)), (.int Go.IntKind.i64 (0)), (.int Go.IntKind.i64 (2)), (.int Go.IntKind.i64 (2)), (.int Go.IntKind.i64 (2)), (.int Go.IntKind.i64 (3)), (.int Go.IntKind.i64 (0)), (.int Go.IntKind.i64 (0)), (.int Go.IntKind.i64 (7)), (.int Go.IntKind.i64 (20)), (.int Go.IntKind.i64 (9)), (.int Go.IntKind.i64 (0)), (.int Go.IntKind.i64 (0)), (.int Go.IntKind.i64 (2)), (.int Go.IntKind.i64 (2)), (.int Go.IntKind.i64 (2)), (.int Go.IntKind.i64 (3)), (.int Go.IntKind.i64 (0)), (.int Go.IntKind.i64 (0)), (.int Go.IntKind.i64 (7)), (.int Go.IntKind.i64 (21)), (.int Go.IntKind.i64 (9)), (.int Go.IntKind.i64 (0)), (.int Go.IntKind.i64 (0)), (.int Go.IntKind.i64 (2)), (.int Go.IntKind.i64 (2)), (.int Go.IntKind.i64 (2)), (.int Go.IntKind.i64 (3)), (.int Go.IntKind.i64 (0)), (.int Go.IntKind.i64 (0)), (.int Go.IntKind.i64 (7)), (.int Go.IntKind.i64 (22)), (.int Go.IntKind.i64 (9)), (.int Go.IntKind.i64 (0)), (.int Go.IntKind.i64 (0)), (.int Go.IntKind.i64 (2)), (.int Go.IntKind.i64 (2)), (.int Go.IntKind.i64 (2)), (.int Go.IntKind.i64 (3)), (.int Go.IntKind.i64 (0)), (.int Go.IntKind.i64 (0)), (.int Go.IntKind.i64 (8)), (.int Go.IntKind.i64 (20)), (.int Go.IntKind.i64 (9)), (.int Go.IntKind.i64 (0)), (.int Go.IntKind.i64 (0)), (.int Go.IntKind.i64 (2)), (.int Go.IntKind.i64 (2)), (.int Go.IntKind.i64 (2)), (.int Go.IntKind.i64 (3)), (.int Go.IntKind.i64 (0)), (.int Go.IntKind.i64 (0)), (.int Go.IntKind.i64 (8)), (.int Go.IntKind.i64 (21)), (.int Go.IntKind.i64 (9)), (.int Go.IntKind.i64 (0)), (.int Go.IntKind.i64 (0)), (.int Go.IntKind.i64 (2)), (.int Go.IntKind.i64 (2)), (.int Go.IntKind.i64 (2)), (.int Go.IntKind.i64 (3)), (.int Go.IntKind.i64 (0)), (.int Go.IntKind.i64 (0)), (.int Go.IntKind.i64 (8)), (.int Go.IntKind.i64 (22)), (.int Go.IntKind.i64 (9)), (.int Go.IntKind.i64 (0)), (.int Go.IntKind.i64 (0)), (.int Go.IntKind.i64 (3)), (.int Go.IntKind.i64 (2)), (.int Go.IntKind.i64 (1)), (.int Go.IntKind.i64 (3)), (.int Go.IntKind.i64 (0)), (.int Go.IntKind.i64 (0)), (.int Go.IntKind.i64 (7)), (.int Go.IntKind.i64 (20)), (.int Go.IntKind.i64 (9)), (.int Go.IntKind.i64 (0)), (.int Go.IntKind.i64 (0)), (.int Go.IntKind.i64 (3)), (.int Go.IntKind.i64 (2)), (.int Go.IntKind.i64 (1)), (.int Go.IntKind.i64 (3)), (.int Go.IntKind.i64 (0)), (.int Go.IntKind.i64 (0)), (.int Go.IntKind.i64 (7)), (.int Go.IntKind.i64 (21)), (.int Go.IntKind.i64 (9)), (.int Go.IntKind.i64 (0)), (.int Go.IntKind.i64 (0)), (.int Go.IntKind.i64 (3)), (.int Go.IntKind.i64 (2)), (.int Go.IntKind.i64 (1)), (.int Go.IntKind.i64 (3)), (.int Go.IntKind.i64 (0)), (.int Go.IntKind.i64 (0)), (.int Go.IntKind.i64 (7)), (.int Go.IntKind.i64 (22)), (.int Go.IntKind.i64 (9)), (.int Go.IntKind.i64 (0)), (.int Go.IntKind.i64 (0)), (.int Go.IntKind.i64 (3)), (.int Go.IntKind.i64 (2)), (.int Go.IntKind.i64 (1)), (.int Go.IntKind.i64 (3)), (.int Go.IntKind.i64 (0)), (.int Go.IntKind.i64 (0)), (.int Go.IntKind.i64 (8)), (.int Go.IntKind.i64 (20)), (.int Go.IntKind.i64 (9)), (.int Go.IntKind.i64 (0)), (.int Go.IntKind.i64 (0)), (.int Go.IntKind.i64 (3)), (.int Go.IntKind.i64 (2)), (.int Go.IntKind.i64 (1)), (.int Go.IntKind.i64 (3)), (.int Go.IntKind.i64 (0)), (.int Go.IntKind.i64 (0)), (.int Go.IntKind.i64 (8)), (.int Go.IntKind.i64 (21)), (.int Go.IntKind.i64 (9)), (.int Go.IntKind.i64 (0)), (.int Go.IntKind.i64 (0)), (.int Go.IntKind.i64 (3)), (.int Go.IntKind.i64 (2)), (.int Go.IntKind.i64 (1)), (.int Go.IntKind.i64 (3)), (.int Go.IntKind.i64 (0)), (.int Go.IntKind.i64 (0)), (.int Go.IntKind.i64 (8)), (.int Go.IntKind.i64 (22)), (.int Go.IntKind.i64 (9)), (.int Go.IntKind.i64 (0)), (.int Go.IntKind.i64 (0)), (.int Go.IntKind.i64 (3)), (.int Go.IntKind.i64 (2)), (.int Go.IntKind.i64 (2)), (.int Go.IntKind.i64 (3)), (.int Go.IntKind.i64 (0)), (.int Go.IntKind.i64 (0)), (.int Go.IntKind.i64 (7)), (.int Go.IntKind.i64 (20)), (.int Go.IntKind.i64 (9)), (.int Go.IntKind.i64 (0)), (.int Go.IntKind.i64 (0)), (.int Go.IntKind.i64 (3)), (.int Go.IntKind.i64 (2)), (.int Go.IntKind.i64 (2)), (.int Go.IntKind.i64 (3)), (.int Go.IntKind.i64 (0)), (.int Go.IntKind.i64 (0)), (.int Go.IntKind.i64 (7)), (.int Go.IntKind.i64 (21)), (.int Go.IntKind.i64 (9)), (.int Go.IntKind.i64 (0)), (.int Go.IntKind.i64 (0)), (.int Go.IntKind.i64 (3)), (.int Go.IntKind.i64 (2)), (.int Go.IntKind.i64 (2)), (.int Go.IntKind.i64 (3)), (.int Go.IntKind.i64 (0)), (.int Go.IntKind.i64 (0)), (.int Go.IntKind.i64 (7)), (.int Go.IntKind.i64 (22)), (.int Go.IntKind.i64 (9)), (.int Go.IntKind.i64 (0)), (.int Go.IntKind.i64 (0)), (.int Go.IntKind.i64 (3)), (.int Go.IntKind.i64 (2)), (.int Go.IntKind.i64 (2)), (.int Go.IntKind.i64 (3)), (.int Go.IntKind.i64 (0)), (.int Go.IntKind.i64 (0)), (.int Go.IntKind.i64 (8)), (.int Go.IntKind.i64 (20)), (.int Go.IntKind.i64 (9)), (.int Go.IntKind.i64 (0)), (.int Go.IntKind.i64 (0)), (.int Go.IntKind.i64 (3)), (.int Go.IntKind.i64 (2)), (.int Go.IntKind.i64 (2)), (.int Go.IntKind.i64 (3)), (.int Go.IntKind.i64 (0)), (.int Go.IntKind.i64 (0)), (.int Go.IntKind.i64 (8)), (.int Go.IntKind.i64 (21)), (.int Go.IntKind.i64 (9)), (.int Go.IntKind.i64 (0)), (.int Go.IntKind.i64 (0)), (.int Go.IntKind.i64 (3)), (.int Go.IntKind.i64 (2)), (.int Go.IntKind.i64 (2)), (.int Go.IntKind.i64 (3)), (.int Go.IntKind.i64 (0)), (.int Go.IntKind.i64 (0)), (.int Go.IntKind.i64 (8)), (.int Go.IntKind.i64 (22)), (.int Go.IntKind.i64 (9)), (.int Go.IntKind.i64 (0)), (.int Go.IntKind.i64 (0))] true 11)] }
def e6 : Entry :=
  { next := 4932, f := 95, args := [(.agg ⟨[(.int Go.IntKind.i64 (3)), (.int Go.IntKind.i64 (3)), (.slice (some ⟨4675, 0, none⟩) 4 4), (.int Go.IntKind.i64 (7)), (.int Go.IntKind.i64 (8)), (.slice (some ⟨4676, 0, none⟩) 2 2), (.slice (some ⟨4674, 0, none⟩) 0 2), (.slice (some ⟨4929, 0, none⟩) 24 4611686018427387904)]⟩)], objs := [(4929, .row [(.int Go.IntKind.i64 (2)), (.int Go.IntKind.i64 (2)), (.int Go.IntKind.i64 (1)), (.int Go.IntKind.i64 (3)), (.int Go.IntKind.i64 (0)), (.int Go.IntKind.i64 (0)), (.int Go.IntKind.i64 (7)), (.int Go.IntKind.i64 (20)), (.int Go.IntKind.i64 (9)), (.int Go.IntKind.i64 (0)), (.int Go.IntKind.i64 (0)), (.int Go.IntKind.i64 (2)), (.int Go.IntKind.i64 (2)), (.int Go.IntKind.i64 (1)), (.int Go.IntKind.i64 (3)), (.int Go.IntKind.i64 (0)), (.int Go.IntKind.i64 (0)), (.int Go.IntKind.i64 (7)), (.int Go.IntKind.i64 (21)), (.int Go.IntKind.i64 (9)), (.int Go.IntKind.i64 (0)), (.int Go.IntKind.i64 (0)), (.int Go.IntKind.i64 (2)), (.int Go.IntKind.i64 (2)), (.int Go.IntKind.i64 (1)), (.int Go.IntKind.i64 (3)), (.int Go.IntKind.i64 (0)), (.int Go.IntKind.i64 (0)), (.int Go.IntKind.i64 (7)), (.int Go.IntKind.i64 (22)), (.int Go.IntKind.i64 (9)), (.int Go.IntKind.i64 (0)), (.int Go.IntKind.i64 (0)), (.int Go.IntKind.i64 (2)), (.int Go.IntKind.i64 (2)), (.int Go.IntKind.i64 (1)), (.int Go.IntKind.i64 (3)), (.int Go.IntKind.i64 (0)), (.int Go.IntKind.i64 (0)), (.int Go.IntKind.i64 (8)), (.int Go.IntKind.i64 (20)), (.int Go.IntKind.i64 (9)), (.int Go.IntKind.i64 (0)), (.int Go.IntKind.i64 (0)), (.int Go.IntKind.i64 (2)), (.int Go.IntKind.i64 (2)), (.int Go.IntKind.i64 (1)), (.int Go.IntKind.i64 (3)), (.int Go.IntKind.i64 (0)), (.int Go.IntKind.i64 (0)), (.int Go.IntKind.i64 (8)), (.int Go.IntKind.i64 (21)), (.int Go.IntKind.i64 (9)), (.int Go.IntKind.i64 (0)), (.int Go.IntKind.i64 (0)), (.int Go.IntKind.i64 (2)), (.int Go.IntKind.i64 (2)), (.int Go.IntKind.i64 (1)), (.int Go.IntKind.i64 (3)), (.int Go.IntKind.i64 (0)), (.int Go.IntKind.i64 (0)), (.int Go.IntKind.i64 (8)), (.int Go.IntKind.i64 (22)), (.int Go.IntKind.i64 (9)), (.int Go.IntKind.i64 (0)), (.int Go.IntKind.i64 (0)), (.int Go.IntKind.i64 (2)), (.int Go.IntKind.i64 (2)), (.int Go.IntKind.i64 (2)), (.int Go.IntKind.i64 (3)), (.int Go.IntKind.i64 (0)), (.int Go.IntKind.i64 (0)), (.int Go.IntKind.i64 (7)), (.int Go.IntKind.i64 (20)), (.int Go.IntKind.i64 (9)), (.int Go.IntKind.i64 (0)), (.int Go.IntKind.i64 (0)), (.int Go.IntKind.i64 (2)), (.int Go.IntKind.i64 (2)), (.int Go.IntKind.i64 (2)), (.int Go.IntKind.i64 (3)), (.int Go.IntKind.i64 (0)), (.int Go.IntKind.i64 (0)), (.int Go.IntKind.i64 (7)), (.int Go.IntKind.i64 (21)), (.int Go.IntKind.i64 (9)), (.int Go.IntKind.i64 (0)), (.int Go.IntKind.i64 (0)), (.int Go.IntKind.i64 (2)), (.int Go.IntKind.i64 (2)), (.int Go.IntKind.i64 (2)), (.int Go.IntKind.i64 (3)), (.int Go.IntKind.i64 (0)), (.int Go.IntKind.i64 (0)), (.int Go.IntKind.i64 (7)), (.int Go.IntKind.i64 (22)), (.int Go.IntKind.i64 (9)), (.int Go.IntKind.i64 (0)), (.int Go.IntKind.i64 (0)), (.int Go.IntKind.i64 (2)), (.int Go.IntKind.i64 (2)), (.int Go.IntKind.i64 (2)), (.int Go.IntKind.i64 (3)), (.int Go.IntKind.i64 (0)), (.int Go.IntKind.i64 (0)), (.int Go.IntKind.i64 (8)), (.int Go.IntKind.i64 (20)), (.int Go.IntKind.i64 (9)), (.int Go.IntKind.i64 (0)), (.int Go.IntKind.i64 (0)), (.int Go.IntKind.i64 (2)), (.int Go.IntKind.i64 (2)), (.int Go.IntKind.i64 (2)), (.int Go.IntKind.i64 (3)), (.int Go.IntKind.i64 (0)), (.int Go.IntKind.i64 (0)), (.int Go.IntKind.i64 (8)), (.int Go.IntKind.i64 (21)), (.int Go.IntKind.i64 (9)), (.int Go.IntKind.i64 (0)), (.int Go.IntKind.i64 (0)), (.int Go.IntKind.i64 (2)), (.int Go.IntKind.i64 (2)), (.int Go.IntKind.i64 (2)), (.int Go.IntKind.i64 (3)), (.int Go.IntKind.i64 (0)), (.int Go.IntKind.i64 (0)), (.int Go.IntKind.i64 (8)), (.int Go.IntKind.i64 (22)), (.int Go.IntKind.i64 (9)), (.int Go.IntKind.i64 (0)), (.int Go.IntKind.i64 (0)), (.int Go.IntKind.i64 (3)), (.int Go.IntKind.i64 (2)), (.int Go.IntKind.i64 (1)), (.int Go.IntKind.i64 (3)), (.int Go.IntKind.i64 (0)), (.int Go.IntKind.i64 (0)), (.int Go.IntKind.i64 (7)), (.int Go.IntKind.i64 (20)), (.int Go.IntKind.i64 (9)), (.int Go.IntKind.i64 (0)), (.int Go.IntKind.i64 (0)), (.int Go.IntKind.i64 (3)), (.int Go.IntKind.i64 (2)), (.int Go.IntKind.i64 (1)), (.int Go.IntKind.i64 (3)), (.int Go.IntKind.i64 (0)), (.int Go.IntKind.i64 (0)), (.int Go.IntKind.i64 (7)), (.int Go.IntKind.i64 (21)), (.int Go.IntKind.i64 (9)), (.int Go.IntKind.i64 (0)), (.int Go.IntKind.i64 (0)), (.int Go.IntKind.i64 (3)), (.int Go.IntKind.i64 (2)), (.int Go.IntKind.i64 (1)), (.int Go.IntKind.i64 (3)), (.int Go.IntKind.i64 (0)), (.int Go.IntKind.i64 (0)), (.int Go.IntKind.i64 (7)), (.int Go.IntKind.i64 (22)), (.int Go.IntKind.i64 (9)), (.int Go.IntKind.i64 (0)), (.int Go.IntKind.i64 (0)), (.int Go.IntKind.i64 (3)), (.int Go.IntKind.i64 (2)), (.int Go.IntKind.i64 (1)), (.int Go.IntKind.i64 (3)), (.int Go.IntKind.i64 (0)), (.int Go.IntKind.i64 (0)), (.int Go.IntKind.i64 (8)), (.int Go.IntKind.i64 (20)), (.int Go.IntKind.i64 (9)), (.int Go.IntKind.i64 (0)), (.int Go.IntKind.i64 (0)), (.int Go.IntKind.i64 (3)), (.int Go.IntKind.i64 (2)), (.int Go.IntKind.i64 (1)), (.int Go.IntKind.i64 (3)), (.int Go.IntKind.i64 (0)), (.int Go.IntKind.i64 (0)), (.int Go.IntKind.i64 (8)), (.int Go.IntKind.i64 (21)), (.int Go.IntKind.i64 (9)), (.int Go.IntKind.i64 (0)), (.int Go.IntKind.i64 (0)), (.int Go.IntKind.i64 (3)), (.int Go.IntKind.i64 (2)), (.int Go.IntKind.i64 (1)), (.int Go.IntKind.i64 (3)), (.int Go.IntKind.i64 (0)), (.int Go.IntKind.i64 (0)), (.int Go.IntKind.i64 (8)), (.int Go.IntKind.i64 (22)), (.int Go.IntKind.i64 (9)), (.int Go.IntKind.i64 (0)), (.int Go.IntKind.i64 (0)), (.int Go.IntKind.i64 (3)), (.int Go.IntKind.i64 (2)), (.int Go.IntKind.i64 (2)), (.int Go.IntKind.i64 (3)), (.int Go.IntKind.i64 (0)), (.int Go.IntKind.i64 (0)), (.int Go.IntKind.i64 (7)), (.int Go.IntKind.i64 (20)), (.int Go.IntKind.i64 (9)), (.int Go.IntKind.i64 (0)), (.int Go.IntKind.i64 (0)), (.int Go.IntKind.i64 (3)), (.int Go.IntKind.i64 (2)), (.int Go.IntKind.i64 (2)), (.int Go.IntKind.i64 (3)), (.int Go.IntKind.i64 (0)), (.int Go.IntKind.i64 (0)), (.int Go.IntKind.i64 (7)), (.int Go.IntKind.i64 (21)), (.int Go.IntKind.i64 (9)), (.int Go.IntKind.i64 (0)), (.int Go.IntKind.i64 (0)), (.int Go.IntKind.i64 (3)), (.int Go.IntKind.i64 (2)), (.int Go.IntKind.i64 (2)), (.int Go.IntKind.i64 (3)), (.int Go.IntKind.i64 (0)), (.int Go.IntKind.i64 (0)), (.int Go.IntKind.i64 (7)), (.int Go.IntKind.i64 (22)), (.int Go.IntKind.i64 (9)), (.int Go.IntKind.i64 (0)), (.int Go.IntKind.i64 (0)), (.int Go.IntKind.i64 (3)), (.int Go.IntKind.i64 (2)), (.int Go.IntKind.i64 (2)), (.int Go.IntKind.i64 (3)), (.int Go.IntKind.i64 (0)), (.int Go.IntKind.i64 (0)), (.int Go.IntKind.i64 (8)), (.int Go.IntKind.i64 (20)), (.int Go.IntKind.i64 (9)), (.int Go.IntKind.i64 (0)), (.int Go.IntKind.i64 (0)), (.int Go.IntKind.i64 (3)), (.int Go.IntKind.i64 (2)), (.int Go.IntKind.i64 (2)), (.int Go.IntKind.i64 (3)), (.int Go.IntKind.i64 (0)), (.int Go.IntKind.i64 (0)), (.int Go.IntKind.i64 (8)), (.int Go.IntKind.i64 (21)), (.int Go.IntKind.i64 (9)), (.int Go.IntKind.i64 (0)), (.int Go.IntKind.i64 (0)), (.int Go.IntKind.i64 (3)), (.int Go.IntKind.i64 (2)), (.int Go.IntKind.i64 (2)), (.int Go.IntKind.i64 (3)), (.int Go.IntKind.i64 (0)), (.int Go.IntKind.i64 (0)), (.int Go.IntKind.i64 (8)), (.int Go.IntKind.i64 (22)), (.int Go.IntKind.i64 (9)), (.int Go.IntKind.i64 (0)), (.int Go.IntKind.i64 (0))] true 11), (4674, .row [(.int Go.IntKind.i64 (0)), (.int Go.IntKind.i64 (1)), (.int Go.IntKind.i64 (1)), (.int Go.IntKind.i64 (0)), (.int Go.IntKind.i64 (3)), (.int Go.IntKind.i64 (1))] true 0), (4676, .row [(.int Go.IntKind.i64 (0)), (.int Go.IntKind.i64 (20)), (.int Go.IntKind.i64 (22)), (.int Go.IntKind.i64 (14)), (.int Go.IntKind.i64 (1)), (.int Go.IntKind.i64 (9)), (.int Go.IntKind.i64 (9)), (.int Go.IntKind.i64 (9))] true 0), (4675, .row [(.int Go.IntKind.i64 (2)), (.int Go.IntKind.i64 (3)), (.int Go.IntKind.i64 (2)), (.int Go.IntKind.i64 (2)), (.int Go.IntKind.i64 (1)), (.int Go.IntKind.i64 (2)), (.int Go.IntKind.i64 (3)), (.int Go.IntKind.i64 (3))] true 0)], val := (.tuple ⟨[(.int Go.IntKind.i64 (0)), (.int Go.IntKind.i64 (1)), (.int Go.IntKind.i64 (12))]⟩), next' := 6684, objs' := [] }
def e7 : Entry :=
  { next := 6688, f := 51, args := [(.agg ⟨[(.int Go.IntKind.i64 (3)), (.int Go.IntKind.i64 (3)), (.slice (some ⟨6686, 0, none⟩) 4 4), (.int Go.IntKind.i64 (7)), (.int Go.IntKind.i64 (8)), (.slice (some ⟨6687, 0, none⟩) 2 2), (.slice (some ⟨6685, 0, none⟩) 2 2)]⟩)], objs := [(6685, .row [(.int Go.IntKind.i64 (0)), (.int Go.IntKind.i64 (1)), (.int Go.IntKind.i64 (1)), (.int Go.IntKind.i64 (0)), (.int Go.IntKind.i64 (3)), (.int Go.IntKind.i64 (1))] true 0), (6687, .row [(.int Go.IntKind.i64 (0)), (.int Go.IntKind.i64 (20)), (.int Go.IntKind.i64 (22)), (.int Go.IntKind.i64 (14)), (.int Go.IntKind.i64 (1)), (.int Go.IntKind.i64 (9)), (.int Go.IntKind.i64 (9)), (.int Go.IntKind.i64 (9))] true 0), (6686, .row [(.int Go.IntKind.i64 (2)), (.int Go.IntKind.i64 (3)), (.int Go.IntKind.i64 (2)), (.int Go.IntKind.i64 (2)), (.int Go.IntKind.i64 (1)), (.int Go.IntKind.i64 (2)), (.int Go.IntKind.i64 (3)), (.int Go.IntKind.i64 (3))] true 0)], val := (.tuple ⟨[(.int Go.IntKind.i64 (1)), (.int Go.IntKind.i64 (0))]⟩), next' := 7485, objs' := [] }
def e8 : Entry :=
  { next := 7489, f := 52, args := [(.agg ⟨[(.int Go.IntKind.i64 (3)), (.int Go.IntKind.i64 (3)), (.slice (some ⟨7487, 0, none⟩) 4 4), (.int Go.IntKind.i64 (7)), (.int Go.IntKind.i64 (8)), (.slice (some ⟨7488, 0, none⟩) 2 2), (.slice (some ⟨7486, 0, none⟩) 2 2)]⟩)], objs := [(7486, .row [(.int Go.IntKind.i64 (0)), (.int Go.IntKind.i64 (1)), (.int Go.IntKind.i64 (1)), (.int Go.IntKind.i64 (0)), (.int Go.IntKind.i64 (3)), (.int Go.IntKind.i64 (1))] true 0), (7488, .row [(.int Go.IntKind.i64 (0)), (.int Go.IntKind.i64 (20)), (.int Go.IntKind.i64 (22)), (.int Go.IntKind.i64 (14)), (.int Go.IntKind.i64 (1)), (.int Go.IntKind.i64 (9)), (.int Go.IntKind.i64 (9)), (.int Go.IntKind.i64 (9))] true 0), (7487, .row [(.int Go.IntKind.i64 (2)), (.int Go.IntKind.i64 (3)), (.int Go.IntKind.i64 (2)), (.int Go.IntKind.i64 (2)), (.int Go.IntKind.i64 (1)), (.int Go.IntKind.i64 (2)), (.int Go.IntKind.i64 (3)), (.int Go.IntKind.i64 (3))] true 0)], val := (.tuple ⟨[(.slice (some ⟨8307, 0, none⟩) 1 4611686018427387904), (.int Go.IntKind.i64 (0))]⟩), next' := 8309, objs' := [(8307, .row [(.int Go.IntKind.i64 (0))] true 1)] }
def tab : List Entry := [e0, e1, e2, e3, e4, e5, e6, e7, e8]
def isTrue (x : Option (Value × AHeap)) : Bool := match x with
  | some (.bool true, _) => true
  | _ => false
variable {n : Nat} {h : AHeap}
variable {n : Nat} {h : AHeap}
variable {n : Nat} {h : AHeap}
theorem build_none1 {a : Value} : buildSl 1 0 [a] [] h [] = newSlice h [] 0 0 0 := id rfl
def chooseSV (ps pm py pn pc : Nat) : Value := .func (.func 131) ⟨[]⟩ ⟨[.pointer (some ⟨ps, 0, none⟩), .pointer (some ⟨pm, 0, none⟩), .pointer (some ⟨py, 0, none⟩), .pointer (some ⟨pn, 0, none⟩), .pointer (some ⟨pc, 0, none⟩)]⟩
structure SetS (ps pm py pn pc N M : Nat) (yv : Value) (g : AHeap) : Prop where
  y : Row g py [yv]
  m : Row g pm [.int .i64 (M : Int)]
  n : Row g pn [.int .i64 (N : Int)]
  c : Row g pc [chooseSV ps pm py pn pc]
theorem rowAt {g g' : AHeap} {q : Nat} {cs : List Value} (hr : Row g q cs) (he : g'.get q = g.get q) : Row g' q cs := by
  obtain ⟨w, gr, e⟩ := hr
  exact ⟨w, gr, by rw [he]; exact e⟩
theorem SetS.same {ps pm py pn pc N M : Nat} {yv : Value} {g g' : AHeap} (hs : SetS ps pm py pn pc N M yv g) (hy : g'.get py = g.get py) (hm : g'.get pm = g.get pm) (hn : g'.get pn = g.get pn) (hc : g'.get pc = g.get pc) : SetS ps pm py pn pc N M yv g' :=
  ⟨rowAt hs.y hy, rowAt hs.m hm, rowAt hs.n hn, rowAt hs.c hc⟩
variable {n : Nat} {h : AHeap}
variable {n : Nat} {h : AHeap}
structure WrG (B : Nat) (g : AHeap) (v : Value) (s : List (List Int)) (R : Nat → Value) : Prop where
  c : GrowC B g v 1 s.length (fun k _ => R k)
  r : ∀ k, k < s.length → Ints g (R k) (s.getD k []).length (atL (s.getD k [])) ∧ ∀ x m c, R k = .slice (some x) m c → B ≤ x.block ∧ x.block < g.next ∧ NeB v x.block
theorem WrG.old {B : Nat} {g g' : AHeap} {v : Value} {s : List (List Int)} {R : Nat → Value} (hw : WrG B g v s R) (ho : ∀ i, B ≤ i → i < g.next → g'.get i = g.get i) (hn : g.next ≤ g'.next) : WrG B g' v s R :=
  ⟨GrowC.at' hw.c fun a k c e => ho _ (hw.c.block e).1 (hw.c.block e).2, fun k hk => ⟨cells_at (hw.r k hk).1 fun a m c e hl => ho _ ((hw.r k hk).2 a m c e).1 hl, fun x m c e => by
    obtain ⟨q1, q2, q3⟩ := (hw.r k hk).2 x m c e
    exact ⟨q1, by omega, q3⟩⟩⟩
theorem WrG.push {B : Nat} {g g1 : AHeap} {v wv : Value} {s : List (List Int)} {R : Nat → Value} {w : List Int} (hw : WrG B g v s R) (hB : g.floor ≤ B) (hf : g.next + 2 < far) (hBn : B ≤ g.next) (hx : New g g1 [wv] 0) (hi : Ints g wv w.length (atL w)) (ho : oneCell wv = true)
    (hb : ∀ x m c, wv = .slice (some x) m c → B ≤ x.block ∧ x.block < g.next ∧ NeB v x.block) (hl : s.length ≤ g.next) :
    ∃ v' g2, appendA 1 24 g1 v (.slice (some ⟨g.next, 0, none⟩) 1 1) = some (v', g2) ∧ WrG B g2 v' (s ++ [w]) (fun k => if k = s.length then wv else R k) ∧ oneCell v' = true ∧ v' = .slice (some ⟨g.next + 1, 0, none⟩) (s.length + 1) unk ∧ g2.next = g.next + 2 ∧ g2.floor = g.floor ∧ (∀ i, i < g.next → NeB v i → g2.get i = g.get i) := by
  have hlen : (s ++ [w]).length = s.length + 1 := by simp
  have hg : GrowC B g v 1 s.length (fun k _ => if k = s.length then wv else R k) := growC_congr hw.c fun k j hk hj => by
    have : ¬ k = s.length := by omega
    simp only [this, if_false]
  obtain ⟨g2, e, gv, n2, f2, o2', u2⟩ := grow_push3 (bytes := 24) hg hB hf hBn hx rfl (by simp [allB, ho]) (fun j hj => by
    obtain rfl : j = 0 := by omega
    simp) (by simp [maxBytes, far] at *; omega) (by simp [maxBytes, far] at *; omega)
  refine ⟨_, g2, e, ⟨by rw [hlen]; exact gv, fun k hk => ?_⟩, rfl, rfl, n2, f2, o2'⟩
  have fresh : ∀ i, i < g.next → NeB (.slice (some ⟨g.next + 1, 0, none⟩) (s.length + 1) unk) i := fun i hi b m c e => by cases e; show i ≠ g.next + 1; omega
  by_cases c : k = s.length
  · subst c
    have hlast : (s ++ [w]).getD s.length [] = w := by rw [List.getD_eq_getElem?_getD, List.getElem?_append_right (Nat.le_refl _)]; simp
    simp only [if_true, hlast]
    exact ⟨cells_at hi fun a m c e hl => o2' _ hl (hb a m c e).2.2, fun x m c e => ⟨(hb x m c e).1, by have := (hb x m c e).2.1; omega, fresh _ (hb x m c e).2.1⟩⟩
  · have hk' : k < s.length := by omega
    simp only [c, if_false]
    rw [List.getD_eq_getElem?_getD, List.getElem?_append_left hk', ← List.getD_eq_getElem?_getD]
    obtain ⟨q1, q2⟩ := hw.r k hk'
    exact ⟨cells_at q1 fun a m c e hl => o2' _ hl (q2 a m c e).2.2, fun x m c e => ⟨(q2 x m c e).1, by have := (q2 x m c e).2.1; omega, fresh _ (q2 x m c e).2.1⟩⟩
theorem WrG.nil {B : Nat} {g : AHeap} : WrG B g nilS [] (fun _ => nilS) := ⟨.nil, fun k hk => absurd hk (Nat.not_lt_zero _)⟩
def AllR (g : AHeap) (v : Value) (s : List (List Int)) : Prop := ∃ R : Nat → Value, Cells g v 1 s.length (fun k _ => R k) ∧ ∀ k, k < s.length → Ints g (R k) (s.getD k []).length (atL (s.getD k []))
theorem AllR.mono {g g' : AHeap} {v : Value} {s : List (List Int)} (ha : AllR g v s) (hs : Sub All g g') : AllR g' v s := by
  obtain ⟨R, h1, h2⟩ := ha
  exact ⟨R, h1.mono hs, fun k hk => Cells.mono (h2 k hk) hs⟩
structure JW (h2 : AHeap) (p : Nat) (s : List (List Int)) (g : AHeap) : Prop where
  old : ∀ i, i < h2.next → i ≠ p → g.get i = h2.get i
  tv : ∃ v R, g.get p = some (.row [v] true 0) ∧ WrG (h2.next + 2) g v s R
  up : h2.next + 2 ≤ g.next
  len : s.length ≤ g.next
variable {n : Nat} {h : AHeap}
variable {n : Nat} {h : AHeap}
variable {n : Nat} {h : AHeap}
open Classical in
noncomputable def fstP (p : Nat → Prop) : Nat → Option Nat
  | 0 => none
  | k + 1 => match fstP p k with
    | some v => some v
    | none => if p k then some k else none
section
variable {p : Nat → Prop}
open Classical in
theorem fstP_none : ∀ {k : Nat}, fstP p k = none ↔ ∀ i, i < k → ¬ p i
  | 0 => ⟨fun _ i hi => absurd hi (Nat.not_lt_zero _), fun _ => rfl⟩
  | k + 1 => by
    have ih := fstP_none (k := k)
    constructor
    · intro h i hi
      rw [fstP] at h
      cases e : fstP p k with
      | some v => rw [e] at h; cases h
      | none =>
        rw [e] at h
        by_cases c : i = k
        · subst c
          intro q
          simp only [if_pos q] at h
          cases h
        · exact ih.1 e i (by omega)
    · intro h
      rw [fstP, ih.2 fun i hi => h i (by omega)]
      exact if_neg (h k (by omega))
open Classical in
theorem fstP_at {k m : Nat} (hk : k < m) (h0 : ∀ i, i < k → ¬ p i) (h1 : p k) : fstP p m = some k := by
  have e0 := fstP_none.2 h0
  have up : ∀ d, fstP p (k + 1 + d) = some k := by
    intro d
    induction d with
    | zero => show fstP p (k + 1) = some k; rw [fstP, e0]; exact if_pos h1
    | succ d ih => show fstP p (k + 1 + d + 1) = some k; rw [fstP, ih]
  have := up (m - (k + 1))
  rw [show k + 1 + (m - (k + 1)) = m by omega] at this
  exact this
theorem pick_head : ∀ {N : Nat}, pickL p N ≠ [] → ∃ x : Nat, x < N ∧ atL (pickL p N) 0 = (x : Int) ∧ p x ∧ ∀ i, i < x → ¬ p i
  | 0, h => absurd rfl h
  | N + 1, h => by
    by_cases c : p N
    · rw [pick_yes c] at h ⊢
      by_cases c0 : pickL p N = []
      · refine ⟨N, by omega, by rw [c0]; rfl, c, fun i hi hp => ?_⟩
        obtain ⟨j, j1, _⟩ := pick_has (p := p) hi hp
        rw [c0] at j1
        exact absurd j1 (Nat.not_lt_zero _)
      · obtain ⟨x, x1, x2, x3⟩ := pick_head c0
        exact ⟨x, by omega, by rw [at_append (List.length_pos_iff.2 c0)]; exact x2, x3⟩
    · rw [pick_no c] at h ⊢
      obtain ⟨x, x1, x2, x3⟩ := pick_head h
      exact ⟨x, by omega, x2, x3⟩
end
variable {n : Nat} {h : AHeap}
def headM (L : List (List Int)) : Nat → Int
  | 0 => 0
  | j + 1 => max (headM L j) (atL (L.getD j []) 0)
theorem headM_le {L : List (List Int)} : ∀ {j i : Nat}, i < j → atL (L.getD i []) 0 ≤ headM L j
  | j + 1, i, hi => by
    simp only [headM]
    by_cases c : i = j
    · rw [c]; omega
    · have := headM_le (L := L) (show i < j by omega)
      omega
theorem headM_at {L : List (List Int)} : ∀ {j : Nat}, headM L j = 0 ∨ ∃ i, i < j ∧ headM L j = atL (L.getD i []) 0
  | 0 => .inl rfl
  | j + 1 => by
    simp only [headM]
    rcases Int.le_total (headM L j) (atL (L.getD j []) 0) with c | c
    · right
      exact ⟨j, by omega, by omega⟩
    · rw [show max (headM L j) (atL (L.getD j []) 0) = headM L j by omega]
      rcases headM_at (L := L) (j := j) with q | ⟨i, i1, i2⟩
      · exact .inl q
      · exact .inr ⟨i, by omega, i2⟩
variable {n : Nat} {h : AHeap}
variable {n : Nat} {h : AHeap}
variable {n : Nat} {h : AHeap}
variable {n : Nat} {h : AHeap}
section
variable {H : Type} {enc : TypeId × Value → H} {w : World} {base : Nat} {sp : Nat → Bool} {held : Bool} {fuel : Nat} {cs : List Value} {x : DataW H × List MemPlace}
structure TruthW (wd : World) (tw tf : Value) : Prop where
  w : FlatS wd .i64 1 tw
  f : FlatS wd .i64 1 tf
end
variable {n : Nat} {h : AHeap}
variable {n : Nat} {h : AHeap}
variable {n : Nat} {h : AHeap}
variable {n : Nat} {h : AHeap}
variable {n : Nat} {h : AHeap}
variable {n : Nat} {h : AHeap}
variable {n : Nat} {h : AHeap}
variable {n : Nat} {h : AHeap}
variable {n : Nat} {h : AHeap}
variable {n : Nat} {h : AHeap}
section
variable {a b : Nat}
end
variable {n : Nat} {h : AHeap}
variable {n : Nat} {h : AHeap}
variable {n : Nat} {h : AHeap}
variable {n : Nat} {h : AHeap}
theorem flatW {w : World} {φ : Emb} {h : AHeap} (L : Loaded w φ h) (hn : h.next < far) {k : IntKind} {s : Nat} {v : Value} (hs : 0 < s) (hf : FlatS w k s v) :
    ∃ φ' h' u, Step w φ h φ' h' 1 ∧ Stands φ' h' u v ∧ ∃ c : Nat → Nat → Int, (Cells h' u s (vlen v) fun i j => .int k (c i j)) ∧ ∀ i j, i < vlen v → j < s → (Lit.int k (c i j)).wf = true := by
  rcases hf with rfl | ⟨a, len, cap, rfl, hl, hc⟩
  · exact ⟨φ, h, .slice none 0 0, ⟨L, Sub.refl, Nat.le_refl _, by omega, rfl, Agree.refl _ _⟩, ⟨by simp [mapV], by simp [okV], rfl⟩, fun _ _ => 0, ⟨none, 0, rfl, fun x e => (by cases e), .inl rfl⟩, fun i j hi => absurd hi (Nat.not_lt_zero _)⟩
  · have hlt : ∀ i j, i < len → j < s → i * s + j < len * s := fun i j hi hj => by
      have : (i + 1) * s ≤ len * s := Nat.mul_le_mul_right s hi
      rw [Nat.add_mul] at this
      omega
    obtain ⟨φ', h', u, q1, q2, q3, q4, q5, q6, q7, q8, q9⟩ := L.slice hn (a := a) hl hs ((List.range (len * s)).map fun i => .int k (numAt w a i)) (by simp) (fun i v hv => by
      rw [List.getElem?_map] at hv
      by_cases hi : i < len * s
      · rw [List.getElem?_range hi] at hv
        cases hv
        exact ⟨by simp [okV], rfl, by simpa [mapV] using (hc i hi).1⟩
      · rw [List.getElem?_eq_none (by simp; omega)] at hv
        cases hv) (c := fun i j => .int k (numAt w a (i * s + j))) (fun i j hi hj => by rw [List.getElem?_map, List.getElem?_range (hlt i j hi hj)]; rfl)
    exact ⟨φ', h', u, ⟨q1, q2, by omega, by omega, q4, q5⟩, ⟨q6, q7, q8⟩, _, q9, fun i j hi hj => (hc _ (hlt i j hi hj)).2⟩
theorem wordsOf {v : Value} {c : Nat → Nat → Int} {m : Nat} (hc : Cells h v 1 m fun i j => .int .u16 (c i j)) (hw : ∀ i j, i < m → j < 1 → (Lit.int .u16 (c i j)).wf = true) : Words h v m fun i => (c i 0).toNat := by
  refine ⟨?_, fun k hk => ?_⟩
  · obtain ⟨a, cap, f1, f2, f3⟩ := hc
    refine ⟨a, cap, f1, f2, f3.imp id fun ⟨b, o, cs, wr, g, g1, g2, g3⟩ => ⟨b, o, cs, wr, g, g1, g2, fun i j hi hj => ?_⟩⟩
    have : j = 0 := by omega
    subst this
    obtain ⟨k, e, _⟩ := wf16 (hw i 0 hi (by omega))
    rw [g3 i 0 hi hj]
    show some (Value.int IntKind.u16 (c i 0)) = some (Value.int IntKind.u16 (((c i 0).toNat : Nat) : Int))
    rw [e]; rfl
  · obtain ⟨x, e, h2⟩ := wf16 (hw k 0 hk (by omega))
    show (c k 0).toNat < 65536
    omega
end Go.Vm.L2

namespace Go.Vm.Bt
open Go.Vm.Vat Go.Vm.L2
set_option linter.unusedSimpArgs false
set_option linter.unusedVariables false
set_option maxRecDepth 10000
structure MB where
  slo : Int
  shi : Int
  nv : Nat
  nlo : Nat → Int
  nhi : Nat → Int
  ve : Nat → Int
  vl : Nat → Int
  last : Int
  ns : Nat
  sv : Nat → Int
  sh : Nat → Int
  sd : Nat → Bool
def vatC (S : MB) (k j : Nat) : Value := .int .i64 (if j = 0 then S.nlo k else if j = 1 then S.nhi k else if j = 2 then S.ve k else S.vl k)
def sampC (S : MB) (k j : Nat) : Value := if j = 0 then .int .i64 (S.sv k) else if j = 1 then .int .i64 (S.sh k) else .bool (S.sd k)
structure BeatR (h : AHeap) (vv sv : Value) (S : MB) : Prop where
  v : Cells h vv 4 S.nv (vatC S)
  s : Cells h sv 3 S.ns (sampC S)
def beL (S : MB) (vv sv : Value) : List Value := [.int .i64 S.slo, .int .i64 S.shi, vv, .int .i64 S.last, sv]
def wkL (S : MB) (vv sv tv : Value) : List Value := [.int .i64 S.slo, .int .i64 S.shi, vv, .int .i64 S.last, sv, tv]
def smL (S : MB) (k : Nat) : List Value := [.int .i64 (S.sv k), .int .i64 (S.sh k), .bool (S.sd k)]
def vaL (S : MB) (k : Nat) : List Value := [.int .i64 (S.nlo k), .int .i64 (S.nhi k), .int .i64 (S.ve k), .int .i64 (S.vl k)]
section
variable {h g : AHeap} {vv sv tv : Value} {S : MB}
theorem BeatR.mono (hy : BeatR h vv sv S) (hs : Sub All h g) : BeatR g vv sv S := ⟨Cells.mono hy.v hs, Cells.mono hy.s hs⟩
theorem BeatR.shut (hy : BeatR h vv sv S) : BeatR h.shutAll vv sv S := hy.mono fun _ _ _ _ _ h => h
theorem BeatR.one (hy : BeatR h vv sv S) : allB oneCell (beL S vv sv) = true := by
  simp [beL, allB, one_int, Cells.one hy.v, Cells.one hy.s]
theorem BeatR.self (hy : BeatR h vv sv S) : eqV (.agg ⟨beL S vv sv⟩) (.agg ⟨beL S vv sv⟩) = true := by
  simp [beL, eqV, eqCells, eqC_int, Cells.selfC hy.v, Cells.selfC hy.s]
theorem wk_one (hy : BeatR h vv sv S) (ht : oneCell tv = true) : allB oneCell (wkL S vv sv tv) = true := by
  simp [wkL, allB, one_int, Cells.one hy.v, Cells.one hy.s, ht]
theorem sm_one {k : Nat} : allB oneCell (smL S k) = true := rfl
theorem va_one {k : Nat} : allB oneCell (vaL S k) = true := rfl
theorem be_rng {g : AHeap} {p : Nat} (hr : Row g p (beL S vv sv)) : loadAgg 2 g (.pointer (some ⟨p, 0, none⟩)) = some (.agg ⟨[.int .i64 S.slo, .int .i64 S.shi]⟩) := hr.ldN 0 2 (by simp [beL]) (by simp [beL])
theorem wk_rng {g : AHeap} {p : Nat} (hr : Row g p (wkL S vv sv tv)) : loadAgg 2 g (.pointer (some ⟨p, 0, none⟩)) = some (.agg ⟨[.int .i64 S.slo, .int .i64 S.shi]⟩) := hr.ldN 0 2 (by simp [wkL]) (by simp [wkL])
theorem need_ld {k : Nat} (hy : BeatR h vv sv S) (hk : k < S.nv) : loadAgg 2 h (ptrO vv 4 k 0) = some (.agg ⟨[.int .i64 (S.nlo k), .int .i64 (S.nhi k)]⟩) := by
  rw [Cells.ldN hy.v hk (by omega) (by omega)]; simp [List.range_succ, vatC]
theorem vat_ld {k : Nat} (hy : BeatR h vv sv S) (hk : k < S.nv) : loadAgg 4 h (ptrO vv 4 k 0) = some (.agg ⟨vaL S k⟩) := by
  rw [Cells.ldN hy.v hk (by omega) (by omega)]; simp [List.range_succ, vatC, vaL]
theorem samp_ld {k : Nat} (hy : BeatR h vv sv S) (hk : k < S.ns) : loadAgg 3 h (ptrO sv 3 k 0) = some (.agg ⟨smL S k⟩) := by
  rw [Cells.ldN hy.s hk (by omega) (by omega)]; simp [List.range_succ, sampC, smL]
theorem lo_ld {k : Nat} (hy : BeatR h vv sv S) (hk : k < S.nv) : loadCell h (ptrO vv 4 k 0) = some (.int .i64 (S.nlo k)) := Cells.ld hy.v hk (by omega)
end
theorem beg {S : MB} {a b : Value} : (beL S a b)[0]? = some (.int .i64 S.slo) ∧ (beL S a b)[1]? = some (.int .i64 S.shi) ∧ (beL S a b)[2]? = some a ∧ (beL S a b)[3]? = some (.int .i64 S.last) ∧ (beL S a b)[4]? = some b := ⟨rfl, rfl, rfl, rfl, rfl⟩
theorem wkg {S : MB} {a b c : Value} : (wkL S a b c)[0]? = some (.int .i64 S.slo) ∧ (wkL S a b c)[1]? = some (.int .i64 S.shi) ∧ (wkL S a b c)[2]? = some a ∧ (wkL S a b c)[3]? = some (.int .i64 S.last) ∧ (wkL S a b c)[4]? = some b ∧ (wkL S a b c)[5]? = some c := ⟨rfl, rfl, rfl, rfl, rfl, rfl⟩
theorem smg {S : MB} {k : Nat} : (smL S k)[0]? = some (.int .i64 (S.sv k)) ∧ (smL S k)[1]? = some (.int .i64 (S.sh k)) ∧ (smL S k)[2]? = some (.bool (S.sd k)) := ⟨rfl, rfl, rfl⟩
theorem vag {S : MB} {k : Nat} : (vaL S k)[0]? = some (.int .i64 (S.nlo k)) ∧ (vaL S k)[1]? = some (.int .i64 (S.nhi k)) ∧ (vaL S k)[2]? = some (.int .i64 (S.ve k)) ∧ (vaL S k)[3]? = some (.int .i64 (S.vl k)) := ⟨rfl, rfl, rfl, rfl⟩
def VatOk (S : MB) : Prop := ∀ i, i < S.nv → (0 ≤ S.nlo i ∧ S.nlo i ≤ S.nhi i ∧ S.nhi i ≤ 9) ∧ (0 ≤ S.ve i ∧ S.ve i ≤ 20) ∧ 0 ≤ S.vl i ∧ S.vl i ≤ 20
def SampOk (S : MB) : Prop := ∀ i, i < S.ns → (0 ≤ S.sv i ∧ S.sv i ≤ (S.nv : Int) - 1) ∧ 0 ≤ S.sh i ∧ S.sh i ≤ S.last
def HeadOk (S : MB) : Prop := 0 ≤ S.last ∧ 0 ≤ S.slo ∧ S.slo ≤ S.shi ∧ S.shi ≤ 4
def LimOk (S : MB) : Prop := S.last ≤ 9 ∧ S.nv ≤ 3 ∧ S.ns ≤ 5
structure ArgsOk (S : MB) : Prop where
  head : HeadOk S
  vat : VatOk S
  samp : SampOk S
def numU (S : MB) : Nat := S.nv + 1
def uLo (S : MB) (i : Nat) : Int := if i = 0 then S.slo else S.nlo (i - 1)
def uHi (S : MB) (i : Nat) : Int := if i = 0 then S.shi else S.nhi (i - 1)
def manyS (S : MB) : Int := sizeN (uLo S) (uHi S) (numU S)
open Classical in
noncomputable def faultS (S : MB) : Int := if ¬ LimOk S then 3 else if ¬ ArgsOk S then 1 else if 200 < manyS S then 3 else 0
structure Good (S : MB) : Prop where
  lim : LimOk S
  args : ArgsOk S
  few : manyS S ≤ 200
theorem good_of {S : MB} (hf : faultS S = 0) : Good S := by
  unfold faultS at hf
  by_cases h1 : LimOk S
  · rw [if_neg (by simpa using h1)] at hf
    by_cases h2 : ArgsOk S
    · rw [if_neg (by simpa using h2)] at hf
      by_cases h3 : 200 < manyS S
      · rw [if_pos h3] at hf; omega
      · exact ⟨h1, h2, by omega⟩
    · rw [if_pos h2] at hf; omega
  · rw [if_pos h1] at hf; omega
theorem fault_of {S : MB} (hG : Good S) : faultS S = 0 := by
  unfold faultS
  have := hG.few
  rw [if_neg (by simpa using hG.lim), if_neg (by simpa using hG.args), if_neg (by omega)]
theorem Good.sizes {S : MB} (hG : Good S) : 0 ≤ S.last ∧ S.last ≤ 9 ∧ S.nv ≤ 3 ∧ S.ns ≤ 5 ∧ 0 ≤ S.slo ∧ S.slo ≤ S.shi ∧ S.shi ≤ 4 := by
  obtain ⟨a1, a2, a3⟩ := hG.lim
  obtain ⟨b1, b2, b3, b4⟩ := hG.args.head
  omega
theorem ArgsOk.u {S : MB} (hA : ArgsOk S) : ∀ i, i < numU S → 0 ≤ uLo S i ∧ uLo S i ≤ uHi S i ∧ uHi S i ≤ 9 := fun i hi => by
  unfold numU at hi
  simp only [uLo, uHi]
  obtain ⟨b1, b2, b3, b4⟩ := hA.head
  by_cases c1 : i = 0
  · rw [if_pos c1, if_pos c1]; omega
  · rw [if_neg c1, if_neg c1]
    exact (hA.vat (i - 1) (by omega)).1
theorem Good.u {S : MB} (hG : Good S) : ∀ i, i < numU S → 0 ≤ uLo S i ∧ uLo S i ≤ uHi S i ∧ uHi S i ≤ 9 := hG.args.u
theorem uLo_succ {S : MB} {i : Nat} : uLo S (i + 1) = S.nlo i := by simp [uLo]
theorem uHi_succ {S : MB} {i : Nat} : uHi S (i + 1) = S.nhi i := by simp [uHi]
theorem uLo_zero {S : MB} : uLo S 0 = S.slo := rfl
theorem uHi_zero {S : MB} : uHi S 0 = S.shi := rfl
theorem size_bound {S : MB} (hA : ArgsOk S) (hl : S.nv ≤ 3) : ∀ i, i ≤ numU S → 1 ≤ sizeN (uLo S) (uHi S) i ∧ sizeN (uLo S) (uHi S) i ≤ 10000 := fun i hi => by
  unfold numU at hi
  refine ⟨sizeN_pos i fun k hk => (hA.u k (by unfold numU; omega)).2.1, ?_⟩
  have h1 := sizeN_le (lo := uLo S) (hi := uHi S) (B := 10) (by omega) i fun k hk => by have := hA.u k (by unfold numU; omega); omega
  have : (10 : Int) ^ i ≤ 10 ^ 4 := by
    have : i = 0 ∨ i = 1 ∨ i = 2 ∨ i = 3 ∨ i = 4 := by omega
    rcases this with rfl | rfl | rfl | rfl | rfl <;> decide
  omega
def whenS (u : Nat → Int) (v : Nat) : Int := u 0 + u (v + 1)
def RightS (S : MB) (u : Nat → Int) (k : Nat) : Prop := decide (whenS u (S.sv k).toNat ≤ S.sh k) = S.sd k
noncomputable instance (S : MB) (u : Nat → Int) (k : Nat) : Decidable (RightS S u k) := Classical.propDecidable _
def InU (S : MB) (u : Nat → Int) : Prop := ∀ i, i < numU S → uLo S i ≤ u i ∧ u i ≤ uHi S i
noncomputable def truthsS (S : MB) : List (Nat → Int) := open Classical in (enumB (uLo S) (uHi S) (numU S) 0 fun _ => 0).filter fun u => decide (∀ k, k < S.ns → RightS S u k)
theorem InU.sun {S : MB} {u : Nat → Int} (hG : Good S) (hu : InU S u) : 0 ≤ u 0 ∧ u 0 ≤ 4 := by
  obtain ⟨h1, h2⟩ := hu 0 (by unfold numU; omega)
  obtain ⟨_, _, _, _, h3, h4, h5⟩ := hG.sizes
  rw [uLo_zero] at h1
  rw [uHi_zero] at h2
  omega
theorem InU.need {S : MB} {u : Nat → Int} (hG : Good S) (hu : InU S u) {v : Nat} (hv : v < S.nv) : 0 ≤ u (v + 1) ∧ u (v + 1) ≤ 9 := by
  obtain ⟨h1, h2⟩ := hu (v + 1) (by unfold numU; omega)
  obtain ⟨h3, h4, h5⟩ := hG.u (v + 1) (by unfold numU; omega)
  omega
theorem when_bound {S : MB} {u : Nat → Int} (hG : Good S) (hu : InU S u) {v : Nat} (hv : v < S.nv) : 0 ≤ whenS u v ∧ whenS u v ≤ 13 := by
  have h1 := hu.sun hG
  have h2 := hu.need hG hv
  unfold whenS
  omega
theorem Good.samp {S : MB} (hG : Good S) {k : Nat} (hk : k < S.ns) : (S.sv k).toNat < S.nv ∧ ((S.sv k).toNat : Int) = S.sv k ∧ 0 ≤ S.sh k ∧ S.sh k ≤ S.last ∧ 0 ≤ S.sv k := by
  obtain ⟨⟨h1, h2⟩, h3, h4⟩ := hG.args.samp k hk
  omega
def lostS (S : MB) (v : Nat) (d e : Int) : Int := max 0 (d - e) * S.ve v + max 0 (e - d) * S.vl v
def lossTo (S : MB) (d e : Nat → Int) : Nat → Int
  | 0 => 0
  | m + 1 => lossTo S d e m + lostS S m (d m) (e m)
theorem lost_bound {S : MB} (hG : Good S) {v : Nat} (hv : v < S.nv) {d e : Int} (h1 : 0 ≤ d) (h2 : d ≤ 13) (h3 : 0 ≤ e) (h4 : e ≤ 9) : 0 ≤ lostS S v d e ∧ lostS S v d e ≤ 260 := by
  obtain ⟨_, ⟨a1, a2⟩, b1, b2⟩ := hG.args.vat v hv
  unfold lostS
  by_cases c : e ≤ d
  · rw [show max 0 (e - d) = 0 by omega, show max 0 (d - e) = d - e by omega, Int.zero_mul, Int.add_zero]
    refine ⟨Int.mul_nonneg (by omega) a1, ?_⟩
    have := Int.mul_le_mul (show d - e ≤ 13 by omega) a2 a1 (by omega)
    omega
  · rw [show max 0 (d - e) = 0 by omega, show max 0 (e - d) = e - d by omega, Int.zero_mul, Int.zero_add]
    refine ⟨Int.mul_nonneg (by omega) b1, ?_⟩
    have := Int.mul_le_mul (show e - d ≤ 9 by omega) b2 b1 (by omega)
    omega
theorem loss_bound {S : MB} (hG : Good S) {d e : Nat → Int} : ∀ m, m ≤ S.nv → (∀ v, v < m → (0 ≤ d v ∧ d v ≤ 13) ∧ 0 ≤ e v ∧ e v ≤ 9) → 0 ≤ lossTo S d e m ∧ lossTo S d e m ≤ 260 * m
  | 0, _, _ => by simp [lossTo]
  | m + 1, hm, h => by
    obtain ⟨h1, h2⟩ := loss_bound hG (d := d) (e := e) m (by omega) fun v hv => h v (by omega)
    obtain ⟨⟨h3, h4⟩, h5, h6⟩ := h m (by omega)
    obtain ⟨h7, h8⟩ := lost_bound hG (v := m) (by omega) h3 h4 h5 h6
    simp only [lossTo]
    omega
theorem loss_congr {S : MB} {d d' e e' : Nat → Int} : ∀ m, (∀ v, v < m → d v = d' v ∧ e v = e' v) → lossTo S d e m = lossTo S d' e' m
  | 0, _ => rfl
  | m + 1, h => by
    obtain ⟨h1, h2⟩ := h m (by omega)
    simp only [lossTo, loss_congr m fun v hv => h v (by omega), h1, h2]
def ThinS (S : MB) : Prop := S.nv ≤ 30 ∧ S.ns ≤ 30
end Go.Vm.Bt

namespace Go.Vm.Bt
open Go.Vm.Vat Go.Vm.L2
set_option linter.unusedSimpArgs false
set_option linter.unusedVariables false
set_option maxRecDepth 10000
theorem truths_mem {S : MB} {t : Nat → Int} : t ∈ truthsS S ↔ (InU S t ∧ ∀ j, numU S ≤ j → t j = 0) ∧ ∀ k, k < S.ns → RightS S t k := by
  unfold truthsS
  rw [List.mem_filter, enumB_ok, decide_eq_true_eq]
  constructor
  · rintro ⟨⟨h1, h2⟩, h3⟩
    exact ⟨⟨fun i hi => h1 i (by omega) (by omega), fun j hj => h2 j (by omega)⟩, h3⟩
  · rintro ⟨⟨h1, h2⟩, h3⟩
    exact ⟨⟨fun i _ hi => h1 i (by omega), fun j hj => h2 j (by omega)⟩, h3⟩
theorem enum_len {S : MB} (hG : Good S) : (enumB (uLo S) (uHi S) (numU S) 0 fun _ => 0).length ≤ 200 := by
  have h1 := enumB_len (lo := uLo S) (hi := uHi S) (numU S) 0 (fun _ => 0) fun k _ hk => (hG.u k (by omega)).2.1
  have h2 := sizeN_prod (lo := uLo S) (hi := uHi S) (numU S) 0
  simp only [Nat.zero_add, sizeN, Int.one_mul] at h2
  have h4 := hG.few
  unfold manyS at h4
  omega
def nthU (S : MB) (m : Nat) : Nat → Int := nthB (uLo S) (uHi S) (numU S) m
theorem nthU_in {S : MB} (hG : Good S) {m : Nat} : InU S (nthU S m) := fun i hi => by
  obtain ⟨h1, h2, h3⟩ := hG.u i hi
  have hm := Nat.mod_lt (divN (sz (uLo S) (uHi S)) m i) (show 0 < sz (uLo S) (uHi S) i by unfold sz; omega)
  unfold nthU nthB
  rw [if_pos hi]
  have : (sz (uLo S) (uHi S) i : Int) = uHi S i - uLo S i + 1 := Int.toNat_of_nonneg (by omega)
  omega
theorem nthU_out {S : MB} {m j : Nat} (hj : numU S ≤ j) : nthU S m j = 0 := by unfold nthU nthB; rw [if_neg (by omega)]
theorem many_pos {S : MB} (hG : Good S) : 1 ≤ manyS S ∧ manyS S ≤ 200 := ⟨(size_bound hG.args hG.sizes.2.2.1 (numU S) (Nat.le_refl _)).1, hG.few⟩
theorem nth_all {S : MB} (hG : Good S) {x : Nat → Int} (h1 : InU S x) (h2 : ∀ j, numU S ≤ j → x j = 0) : ∃ m, m < (manyS S).toNat ∧ nthU S m = x := by
  have hr : ∀ j, j < numU S → uLo S j ≤ uHi S j := fun j hj => (hG.u j hj).2.1
  have hprod := sizeN_prod (lo := uLo S) (hi := uHi S) (numU S) 0
  simp only [Nat.zero_add, sizeN, Int.one_mul] at hprod
  have hpN := prodN_from (lo := uLo S) (hi := uHi S) (numU S) 0 fun j _ hj => hr j (by omega)
  obtain ⟨mp1, _⟩ := many_pos hG
  have hM : (manyS S).toNat = prodN (sz (uLo S) (uHi S)) (numU S) 0 := by unfold manyS at mp1 ⊢; omega
  have hd : ∀ j, j < numU S → (x j - uLo S j).toNat < sz (uLo S) (uHi S) j := fun j hj => by
    have := h1 j hj
    show (x j - uLo S j).toNat < (uHi S j - uLo S j + 1).toNat
    omega
  refine ⟨encF (sz (uLo S) (uHi S)) (fun j => (x j - uLo S j).toNat) (numU S) 0, ?_, ?_⟩
  · rw [hM]
    exact encF_lt (numU S) 0 fun j _ hj => hd j (by omega)
  · funext i
    by_cases hi : i < numU S
    · have := h1 i hi
      unfold nthU nthB
      rw [if_pos hi, encF_mod hd hi]
      omega
    · rw [nthU_out (by omega), h2 i (by omega)]
def doneS (S : MB) (u : Nat → Int) (j : Nat) : Int := if j < S.nv then whenS u j else 0
open Classical in
noncomputable def doneStep (S : MB) (s : List (Nat → Int)) (c : Nat → Int) : List (Nat → Int) × Bool := (if (∀ k, k < S.ns → RightS S c k) ∧ doneS S c ∉ s then s ++ [doneS S c] else s, true)
noncomputable def donesL (S : MB) : List (Nat → Int) := (runL (doneStep S) [] (enumB (uLo S) (uHi S) (numU S) 0 fun _ => 0)).1
theorem run_done {S : MB} : ∀ (l s : List (Nat → Int)), (runL (doneStep S) s l).2 = true ∧ (∀ d, d ∈ (runL (doneStep S) s l).1 ↔ d ∈ s ∨ ∃ u, u ∈ l ∧ (∀ k, k < S.ns → RightS S u k) ∧ d = doneS S u) ∧ (runL (doneStep S) s l).1.length ≤ s.length + l.length
  | [], s => by simp [runL]
  | x :: l, s => by
    simp only [runL]
    have h2 : (doneStep S s x).2 = true := rfl
    rw [if_pos h2]
    obtain ⟨a1, a2, a3⟩ := run_done (S := S) l (doneStep S s x).1
    have hm : ∀ d, d ∈ (doneStep S s x).1 ↔ d ∈ s ∨ (∀ k, k < S.ns → RightS S x k) ∧ d = doneS S x := fun d => by
      unfold doneStep
      by_cases c1 : ∀ k, k < S.ns → RightS S x k
      · by_cases c2 : doneS S x ∈ s
        · simp only [c2, not_true, and_false, if_false]
          constructor
          · exact .inl
          · rintro (h | ⟨_, rfl⟩)
            · exact h
            · exact c2
        · rw [if_pos ⟨c1, c2⟩]
          simp only [List.mem_append, List.mem_singleton]
          constructor
          · rintro (h | h)
            · exact .inl h
            · exact .inr ⟨c1, h⟩
          · rintro (h | ⟨_, h⟩)
            · exact .inl h
            · exact .inr h
      · rw [if_neg fun h => c1 h.1]
        constructor
        · exact .inl
        · rintro (h | ⟨h, _⟩)
          · exact h
          · exact absurd h c1
    refine ⟨a1, fun d => ?_, ?_⟩
    · rw [a2, hm]
      constructor
      · rintro ((h | ⟨h, e⟩) | ⟨u, hu, h, e⟩)
        · exact .inl h
        · exact .inr ⟨x, List.mem_cons_self, h, e⟩
        · exact .inr ⟨u, List.mem_cons_of_mem _ hu, h, e⟩
      · rintro (h | ⟨u, hu, h, e⟩)
        · exact .inl (.inl h)
        · rcases List.mem_cons.1 hu with rfl | hu
          · exact .inl (.inr ⟨h, e⟩)
          · exact .inr ⟨u, hu, h, e⟩
    · have : (doneStep S s x).1.length ≤ s.length + 1 := by
        unfold doneStep
        split
        · simp
        · simp
      simp only [List.length_cons]
      omega
theorem dones_mem {S : MB} {d : Nat → Int} : d ∈ donesL S ↔ ∃ u, u ∈ truthsS S ∧ d = doneS S u := by
  unfold donesL
  rw [(run_done _ _).2.1]
  simp only [List.not_mem_nil, false_or]
  constructor
  · rintro ⟨u, hu, h, e⟩
    refine ⟨u, ?_, e⟩
    unfold truthsS
    rw [List.mem_filter]
    exact ⟨hu, by simpa using h⟩
  · rintro ⟨u, hu, e⟩
    unfold truthsS at hu
    rw [List.mem_filter] at hu
    exact ⟨u, hu.1, by simpa using hu.2, e⟩
theorem dones_len {S : MB} (hG : Good S) : (donesL S).length ≤ 200 := by
  have h1 := (run_done (S := S) (enumB (uLo S) (uHi S) (numU S) 0 fun _ => 0) []).2.2
  have h2 := enum_len hG
  unfold donesL
  simp only [List.length_nil] at h1
  omega
theorem dones_nil {S : MB} : donesL S = [] ↔ truthsS S = [] := by
  rw [List.eq_nil_iff_forall_not_mem, List.eq_nil_iff_forall_not_mem]
  constructor
  · intro h u hu
    exact h _ (dones_mem.2 ⟨u, hu, rfl⟩)
  · intro h d hd
    obtain ⟨u, hu, _⟩ := dones_mem.1 hd
    exact h u hu
theorem lo_same {f g : (Nat → Int) → Int} {L M : List (Nat → Int)} (hL : L ≠ []) (hM : M ≠ []) (h1 : ∀ t, t ∈ L → ∃ u, u ∈ M ∧ f t = g u) (h2 : ∀ u, u ∈ M → ∃ t, t ∈ L ∧ f t = g u) : loN f L = loN g M := by
  refine int_ext fun c => ?_
  rw [le_loN hL, le_loN hM]
  constructor
  · intro h u hu
    obtain ⟨t, ht, e⟩ := h2 u hu
    rw [← e]; exact h t ht
  · intro h t ht
    obtain ⟨u, hu, e⟩ := h1 t ht
    rw [e]; exact h u hu
theorem hi_same {f g : (Nat → Int) → Int} {L M : List (Nat → Int)} (hL : L ≠ []) (hM : M ≠ []) (h1 : ∀ t, t ∈ L → ∃ u, u ∈ M ∧ f t = g u) (h2 : ∀ u, u ∈ M → ∃ t, t ∈ L ∧ f t = g u) : hiN f L = hiN g M := by
  refine int_ext' fun c => ?_
  rw [hiN_le hL, hiN_le hM]
  constructor
  · intro h u hu
    obtain ⟨t, ht, e⟩ := h2 u hu
    rw [← e]; exact h t ht
  · intro h t ht
    obtain ⟨u, hu, e⟩ := h1 t ht
    rw [e]; exact h u hu
noncomputable def bLo (S : MB) (v : Nat) : Int := loN (fun u => whenS u v) (truthsS S)
noncomputable def bHi (S : MB) (v : Nat) : Int := hiN (fun u => whenS u v) (truthsS S)
noncomputable def wLo (S : MB) (e : Nat → Int) (m : Nat) : Int := loN (fun u => lossTo S (whenS u) e m) (truthsS S)
noncomputable def wHi (S : MB) (e : Nat → Int) (m : Nat) : Int := hiN (fun u => lossTo S (whenS u) e m) (truthsS S)
section
variable {S : MB}
theorem same_truths {f g : (Nat → Int) → Int} (he : ∀ u, u ∈ truthsS S → f (doneS S u) = g u) : (∀ t, t ∈ donesL S → ∃ u, u ∈ truthsS S ∧ f t = g u) ∧ ∀ u, u ∈ truthsS S → ∃ t, t ∈ donesL S ∧ f t = g u := by
  constructor
  · intro t ht
    obtain ⟨u, hu, rfl⟩ := dones_mem.1 ht
    exact ⟨u, hu, he u hu⟩
  · intro u hu
    exact ⟨_, dones_mem.2 ⟨u, hu, rfl⟩, he u hu⟩
theorem bLo_dones (hT : truthsS S ≠ []) {v : Nat} (hv : v < S.nv) : loN (fun d => d v) (donesL S) = bLo S v := by
  obtain ⟨h1, h2⟩ := same_truths (S := S) (f := fun d => d v) (g := fun u => whenS u v) fun u _ => by simp [doneS, hv]
  exact lo_same (fun e => hT (dones_nil.1 e)) hT h1 h2
theorem bHi_dones (hT : truthsS S ≠ []) {v : Nat} (hv : v < S.nv) : hiN (fun d => d v) (donesL S) = bHi S v := by
  obtain ⟨h1, h2⟩ := same_truths (S := S) (f := fun d => d v) (g := fun u => whenS u v) fun u _ => by simp [doneS, hv]
  exact hi_same (fun e => hT (dones_nil.1 e)) hT h1 h2
theorem loss_done {u e : Nat → Int} {m : Nat} (hm : m ≤ S.nv) : lossTo S (doneS S u) e m = lossTo S (whenS u) e m := loss_congr m fun v hv => ⟨by simp [doneS, show v < S.nv by omega], rfl⟩
theorem wLo_dones (hT : truthsS S ≠ []) {e : Nat → Int} {m : Nat} (hm : m ≤ S.nv) : loN (fun d => lossTo S d e m) (donesL S) = wLo S e m := by
  obtain ⟨h1, h2⟩ := same_truths (S := S) (f := fun d => lossTo S d e m) (g := fun u => lossTo S (whenS u) e m) fun u _ => loss_done hm
  exact lo_same (fun e => hT (dones_nil.1 e)) hT h1 h2
theorem wHi_dones (hT : truthsS S ≠ []) {e : Nat → Int} {m : Nat} (hm : m ≤ S.nv) : hiN (fun d => lossTo S d e m) (donesL S) = wHi S e m := by
  obtain ⟨h1, h2⟩ := same_truths (S := S) (f := fun d => lossTo S d e m) (g := fun u => lossTo S (whenS u) e m) fun u _ => loss_done hm
  exact hi_same (fun e => hT (dones_nil.1 e)) hT h1 h2
end
def EndsOk (S : MB) (m : Nat) (e : Nat → Int) : Prop := (∀ v, v < m → 0 ≤ e v ∧ e v ≤ S.last) ∧ ∀ v, m ≤ v → e v = 0
def allEnds (S : MB) : List (Nat → Int) := enumB (fun _ => 0) (fun _ => S.last) S.nv 0 fun _ => 0
section
variable {S : MB} {u : Nat → Int}
theorem truth_in (hu : u ∈ truthsS S) : InU S u := (truths_mem.1 hu).1.1
end
noncomputable def bestStep (S : MB) (s : (Nat → Int) × Int) (e : Nat → Int) : ((Nat → Int) × Int) × Bool := (if wHi S e S.nv < s.2 then (e, wHi S e S.nv) else s, true)
noncomputable def bestS (S : MB) : (Nat → Int) × Int := (runL (bestStep S) ((fun _ => 0), wHi S (fun _ => 0) S.nv) (allEnds S)).1
end Go.Vm.Bt

namespace Go.Vm.Bt
open Go.Proofs Go.Vm.Vat Go.Vm.L2
set_option linter.unusedSimpArgs false
set_option linter.unusedVariables false
set_option maxRecDepth 10000
noncomputable def A (f : Nat) : Bool := inL [39, 94, 108, 45, 70, 33, 34, 66, 85, 75, 32, 43, 40, 35, 95, 46, 99, 52, 68, 76, 106, 57, 23, 30, 42, 63, 50, 107, 61, 72, 73, 113, 109, 117, 89, 90, 115, 116, 114, 111, 110, 118, 79, 78, 80, 112, 82, 84, 83, 31, 81, 124, 122, 123, 125, 134, 87, 93, 133, 138, 121, 29, 37, 44, 48, 51, 53, 119, 88, 92, 102, 103, 104, 130, 105, 128, 137, 98] f
def K (f : Nat) : Option Value := if f = 24 then some (.bool true) else none
noncomputable abbrev call (n : Nat) : CallF := pcall Try.prog A K n
variable {n : Nat} {h : AHeap}
theorem awake_c (hn : 1 ≤ n) : call n (.func (.func 24) #[] #[]) [] h = some (.bool true, h) := by
  obtain ⟨n, rfl⟩ : ∃ p, n = p + 1 := ⟨n - 1, by omega⟩
  exact call_known (by simp [K])
def s39 : SCode := (.seq (.ops [⟨(some 6), none, .mov (.const (.bool false))⟩]) (.seq (.ops [⟨(some 7), none, .mov (T 0)⟩, ⟨(some 8), none, .mov (T 1)⟩, ⟨(some 9), none, .int2 .geq (T 7) (T 8)⟩, ⟨(some 10), none, .mov (T 9)⟩, ⟨(some 11), (some (10, true)), .mov (T 0)⟩, ⟨(some 12), (some (10, true)), .mov (T 2)⟩, ⟨(some 13), (some (10, true)), .int2 .leq (T 11) (T 12)⟩, ⟨(some 14), none, .pick (T 10) (T 13) (.const (.bool false))⟩, ⟨(some 6), none, .mov (T 14)⟩]) .ret))
theorem fok39 : FnOk Try.prog 39 15 s39 [.tmp 6] := ⟨Try.f39, _, Try.func39, rfl, Try.ntmps39, by kernel_rfl, by kernel_rfl⟩
theorem in_c (hn : 1 ≤ n) (a lo hi : Int) : call n (.func (.func 39) #[] #[]) [.int .i64 a, .int .i64 lo, .int .i64 hi] h = some (.bool (decide (lo ≤ a ∧ a ≤ hi)), h) := by
  obtain ⟨n, rfl⟩ : ∃ p, n = p + 1 := ⟨n - 1, by omega⟩
  refine call_plain0 fok39 rfl rfl (by simp) rfl ?_
  by_cases h1 : lo ≤ a <;> by_cases h2 : a ≤ hi <;> simp only [rn0, rn1, rn2, rn3, rn4, rn5, rn6, rn7, rn8, if_true, if_false, Nat.le_refl, true_and, and_true, decide_true, decide_false, Bool.not_true, Bool.not_false, reduceIte, Nat.reduceEqDiff, Nat.reduceAdd, Nat.reduceMul, Nat.reduceSub, Nat.reduceLeDiff, Nat.reduceLT, s39, h1, h2, and_self, and_false, false_and]
def s94 : SCode := (.seq (.ops [⟨(some 2), none, .box (T 0)⟩, ⟨(some 4), none, .mov (.const (.bool false))⟩]) (.seq (.ops [⟨(some 5), none, .fieldAddr 0 (T 2)⟩, ⟨(some 6), none, .load1 (T 5)⟩, ⟨(some 7), none, .int2 .geq (T 6) (.const (.int .i64 (0)))⟩, ⟨(some 8), none, .mov (T 7)⟩, ⟨(some 9), (some (8, true)), .fieldAddr 0 (T 2)⟩, ⟨(some 10), (some (8, true)), .load1 (T 9)⟩, ⟨(some 11), (some (8, true)), .fieldAddr 1 (T 2)⟩, ⟨(some 12), (some (8, true)), .load1 (T 11)⟩, ⟨(some 13), (some (8, true)), .int2 .leq (T 10) (T 12)⟩, ⟨(some 14), none, .pick (T 8) (T 13) (.const (.bool false))⟩, ⟨(some 15), none, .mov (T 14)⟩, ⟨(some 16), (some (15, true)), .fieldAddr 1 (T 2)⟩, ⟨(some 17), (some (15, true)), .load1 (T 16)⟩, ⟨(some 18), (some (15, true)), .mov (T 1)⟩, ⟨(some 19), (some (15, true)), .int2 .leq (T 17) (T 18)⟩, ⟨(some 20), none, .pick (T 15) (T 19) (.const (.bool false))⟩, ⟨(some 4), none, .mov (T 20)⟩]) .ret))
theorem fok94 : FnOk Try.prog 94 21 s94 [.tmp 4] := ⟨Try.f94, _, Try.func94, rfl, Try.ntmps94, by kernel_rfl, by kernel_rfl⟩
theorem is_c (hn : 2 ≤ n) (hr : h.next < far) (lo hi m : Int) : call n (.func (.func 94) #[] #[]) [.agg ⟨[.int .i64 lo, .int .i64 hi]⟩, .int .i64 m] h = some (.bool (decide (0 ≤ lo ∧ lo ≤ hi ∧ hi ≤ m)), h) := by
  obtain ⟨n, rfl⟩ : ∃ p, n = p + 1 := ⟨n - 1, by omega⟩
  refine call_plain0 fok94 rfl rfl (by simp) rfl ?_
  simp only [s94, W_seq, W_ops]
  refine ops_box (cs := [.int .i64 lo, .int .i64 hi]) (by exact hr) rfl rfl fun h1 hb => ?_
  by_cases c1 : 0 ≤ lo <;> by_cases c2 : lo ≤ hi <;> by_cases c3 : hi ≤ m <;> simp only [rn0, rn1, rn2, rn3, rn4, rn5, rn6, rn7, rn8, if_true, if_false, Nat.le_refl, true_and, and_true, decide_true, decide_false, Bool.not_true, Bool.not_false, reduceIte, Nat.reduceEqDiff, Nat.reduceAdd, Nat.reduceMul, Nat.reduceSub, Nat.reduceLeDiff, Nat.reduceLT, hb.ld, Nat.zero_add, List.getElem?_cons_zero, List.getElem?_cons_succ, c1, c2, c3, and_self, and_false, false_and]
def s108 : SCode := (.seq (.ops [⟨(some 1), none, .box (T 0)⟩, ⟨(some 2), none, .mov (.const (.int .i64 (0)))⟩]) (.seq (.ops [⟨(some 3), none, .fieldAddr 1 (T 1)⟩, ⟨(some 4), none, .load1 (T 3)⟩, ⟨(some 5), none, .fieldAddr 0 (T 1)⟩, ⟨(some 6), none, .load1 (T 5)⟩, ⟨(some 7), none, .int2 .sub (T 4) (T 6)⟩, ⟨(some 8), none, .int2 .add (T 7) (.const (.int .i64 (1)))⟩, ⟨(some 2), none, .mov (T 8)⟩]) .ret))
theorem fok108 : FnOk Try.prog 108 9 s108 [.tmp 2] := ⟨Try.f108, _, Try.func108, rfl, Try.ntmps108, by kernel_rfl, by kernel_rfl⟩
theorem size_c (hn : 1 ≤ n) (hr : h.next < far) (lo hi : Int) : call n (.func (.func 108) #[] #[]) [.agg ⟨[.int .i64 lo, .int .i64 hi]⟩] h = some (.int .i64 (wrapF .i64 (wrapF .i64 (hi - lo) + 1)), h) := by
  obtain ⟨n, rfl⟩ : ∃ p, n = p + 1 := ⟨n - 1, by omega⟩
  refine call_plain0 fok108 rfl rfl (by simp) rfl ?_
  simp only [s108, W_seq, W_ops]
  refine ops_box (cs := [.int .i64 lo, .int .i64 hi]) (by exact hr) rfl rfl fun h1 hb => ?_
  simp only [rn0, rn1, rn2, rn3, rn4, rn5, rn6, rn7, rn8, if_true, if_false, Nat.le_refl, true_and, and_true, decide_true, decide_false, Bool.not_true, Bool.not_false, reduceIte, Nat.reduceEqDiff, Nat.reduceAdd, Nat.reduceMul, Nat.reduceSub, Nat.reduceLeDiff, Nat.reduceLT, hb.ld, Nat.zero_add, List.getElem?_cons_zero, List.getElem?_cons_succ]
theorem size_ok (hn : 1 ≤ n) (hr : h.next < far) {lo hi : Int} (h0 : 0 ≤ lo) (h1 : lo ≤ hi) (h2 : hi ≤ 99) : call n (.func (.func 108) #[] #[]) [.agg ⟨[.int .i64 lo, .int .i64 hi]⟩] h = some (.int .i64 (hi - lo + 1), h) := by
  rw [size_c hn hr, wrap_in (z := hi - lo) (by omega) (by omega), wrap_in (by omega) (by omega)]
theorem u3 : ∃ d, Try.prog.underlying 3 = some d := ⟨_, by rfl⟩
theorem u4 : Try.prog.underlying 4 = some .bool := Try.underlying4
def coL (x : Int) (cw : Value) : List Value := [.int .i64 x, cw]
theorem cog {x : Int} {a : Value} : (coL x a)[0]? = some (.int .i64 x) ∧ (coL x a)[1]? = some a := ⟨rfl, rfl⟩
theorem co_one {x : Int} {cw : Value} {s m : Nat} {c : Nat → Nat → Value} (hc : Cells h cw s m c) : allB oneCell (coL x cw) = true := by simp [coL, allB, one_int, Cells.one hc]
theorem co_self {x : Int} {cw : Value} {s m : Nat} {c : Nat → Nat → Value} (hc : Cells h cw s m c) : eqV (.agg ⟨coL x cw⟩) (.agg ⟨coL x cw⟩) = true := by simp [coL, eqV, eqCells, eqC_int, Cells.selfC hc]
abbrev CouR (h : AHeap) (cw : Value) (S : MB) (u : Nat → Int) : Prop := Ints h cw S.nv fun v => u (v + 1)
def s66 : SCode := (.seq (.ops [⟨(some 2), none, .box (T 0)⟩, ⟨(some 4), none, .mov (.const (.int .i64 (0)))⟩]) (.seq (.draw [⟨.free, ⟨(some 5), none, .fieldAddr 0 (T 2)⟩⟩, ⟨.rd1, ⟨(some 6), none, .load1 (T 5)⟩⟩, ⟨.free, ⟨(some 7), none, .fieldAddr 1 (T 2)⟩⟩, ⟨.rd1, ⟨(some 8), none, .load1 (T 7)⟩⟩, ⟨.free, ⟨(some 9), none, .mov (T 1)⟩⟩, ⟨.free, ⟨(some 10), none, .idxSl 1 (T 8) (T 9)⟩⟩, ⟨.rd1, ⟨(some 11), none, .load1 (T 10)⟩⟩, ⟨.free, ⟨(some 12), none, .int2 .add (T 6) (T 11)⟩⟩, ⟨.free, ⟨(some 4), none, .mov (T 12)⟩⟩]) .ret))
theorem fok66 : FnOk Try.prog 66 13 s66 [.tmp 4] := ⟨Try.f66, _, Try.func66, rfl, Try.ntmps66, by kernel_rfl, by kernel_rfl⟩
theorem when_c (hn : 1 ≤ n) (hr : h.next + 5 < far) {cw : Value} {m : Nat} {a : Nat → Int} {x : Int} (hc : Ints h cw m a) {v : Nat} (hv : v < m) :
    call n (.func (.func 66) #[] #[]) [.agg ⟨coL x cw⟩, .int .i64 (v : Int)] h = some (.int .i64 (wrapF .i64 (x + a v)), h) := by
  obtain ⟨n, rfl⟩ : ∃ p, n = p + 1 := ⟨n - 1, by omega⟩
  refine call_plain0 fok66 rfl rfl (by simp) rfl ?_
  have hc := Cells.shut hc
  have hr : h.shutAll.next + 5 < far := hr
  generalize h.shutAll = h at hc hr
  simp only [s66, W_seq, W_ops]
  refine ops_box (cs := coL x cw) (by omega) rfl (co_one hc) fun h1 hx => ?_
  have hc1 := Cells.mono hc hx.sub
  simp only [rn0, rn1, rn2, rn3, rn4, rn5, rn6, rn7, rn8, if_true, if_false, Nat.le_refl, true_and, and_true, decide_true, decide_false, Bool.not_true, Bool.not_false, reduceIte, Nat.reduceEqDiff, Nat.reduceAdd, Nat.reduceMul, Nat.reduceSub, Nat.reduceLeDiff, Nat.reduceLT]
  refine W_draw All ?_
  simp only [rn0, rn1, rn2, rn3, rn4, rn5, rn6, rn7, rn8, if_true, if_false, Nat.le_refl, true_and, and_true, decide_true, decide_false, Bool.not_true, Bool.not_false, reduceIte, Nat.reduceEqDiff, Nat.reduceAdd, Nat.reduceMul, Nat.reduceSub, Nat.reduceLeDiff, Nat.reduceLT, hx.ld, cog, Nat.zero_add, Cells.idx hc1 hv, Cells.ld hc1 hv Nat.zero_lt_one, eqV_int, Cells.self hc1]
theorem when_u (hn : 1 ≤ n) (hr : h.next + 5 < far) {cw : Value} {S : MB} {u : Nat → Int} (hG : Good S) (hu : InU S u) (hc : CouR h cw S u) {v : Nat} (hv : v < S.nv) :
    call n (.func (.func 66) #[] #[]) [.agg ⟨coL (u 0) cw⟩, .int .i64 (v : Int)] h = some (.int .i64 (whenS u v), h) := by
  have := when_bound hG hu hv
  rw [when_c hn hr hc hv, show u 0 + u (v + 1) = whenS u v from rfl, wrap_in (by omega) (by omega)]
def Listed (S : MB) (x : Int) (m : Nat) (a : Nat → Int) : Prop := (S.slo ≤ x ∧ x ≤ S.shi) ∧ m = S.nv ∧ ∀ i, i < m → S.nlo i ≤ a i ∧ a i ≤ S.nhi i
noncomputable instance (S : MB) (x : Int) (m : Nat) (a : Nat → Int) : Decidable (Listed S x m a) := Classical.propDecidable _
def asU (x : Int) (a : Nat → Int) (m : Nat) (i : Nat) : Int := if i = 0 then x else if i < m + 1 then a (i - 1) else 0
def Hours (S : MB) (m : Nat) (a : Nat → Int) : Prop := m = S.nv ∧ ∀ i, i < m → 0 ≤ a i ∧ a i ≤ S.last
noncomputable instance (S : MB) (m : Nat) (a : Nat → Int) : Decidable (Hours S m a) := Classical.propDecidable _
end Go.Vm.Bt

namespace Go.Vm.Bt
open Go.Proofs Go.Vm.Vat Go.Vm.L2
set_option linter.unusedSimpArgs false
set_option linter.unusedVariables false
set_option maxRecDepth 10000
variable {n : Nat} {h : AHeap}
def s113 : SCode := (.seq (.ops [⟨(some 2), none, .box (T 0)⟩, ⟨(some 4), none, .mov (.const (.bool false))⟩]) (.seq (.ops [⟨(some 5), none, .fieldAddr 0 (T 2)⟩, ⟨(some 6), none, .load1 (T 5)⟩, ⟨(some 7), none, .int2 .leq (.const (.int .i64 (0))) (T 6)⟩, ⟨(some 8), none, .mov (T 7)⟩, ⟨(some 9), (some (8, true)), .fieldAddr 0 (T 2)⟩, ⟨(some 10), (some (8, true)), .load1 (T 9)⟩, ⟨(some 11), (some (8, true)), .fieldAddr 1 (T 2)⟩, ⟨(some 12), (some (8, true)), .load1 (T 11)⟩, ⟨(some 13), (some (8, true)), .int2 .leq (T 10) (T 12)⟩, ⟨(some 14), none, .pick (T 8) (T 13) (.const (.bool false))⟩, ⟨(some 15), none, .mov (T 14)⟩, ⟨(some 16), (some (15, true)), .fieldAddr 1 (T 2)⟩, ⟨(some 17), (some (15, true)), .load1 (T 16)⟩, ⟨(some 18), (some (15, true)), .mov (T 1)⟩, ⟨(some 19), (some (15, true)), .int2 .leq (T 17) (T 18)⟩, ⟨(some 20), none, .pick (T 15) (T 19) (.const (.bool false))⟩, ⟨(some 4), none, .mov (T 20)⟩]) .ret))
theorem fok113 : FnOk Try.prog 113 21 s113 [.tmp 4] := ⟨Try.f113, _, Try.func113, rfl, Try.ntmps113, by kernel_rfl, by kernel_rfl⟩
theorem isUpTo_c (hn : 1 ≤ n) (hr : h.next < far) (lo hi m : Int) : call n (.func (.func 113) #[] #[]) [.agg ⟨[.int .i64 lo, .int .i64 hi]⟩, .int .i64 m] h = some (.bool (decide (0 ≤ lo ∧ lo ≤ hi ∧ hi ≤ m)), h) := by
  obtain ⟨n, rfl⟩ : ∃ p, n = p + 1 := ⟨n - 1, by omega⟩
  refine call_plain0 fok113 rfl rfl (by simp) rfl ?_
  simp only [s113, W_seq, W_ops]
  refine ops_box (cs := [.int .i64 lo, .int .i64 hi]) (by exact hr) rfl rfl fun h1 hb => ?_
  by_cases c1 : 0 ≤ lo <;> by_cases c2 : lo ≤ hi <;> by_cases c3 : hi ≤ m <;> simp only [rn0, rn1, rn2, rn3, rn4, rn5, rn6, rn7, rn8, if_true, if_false, Nat.le_refl, true_and, and_true, decide_true, decide_false, Bool.not_true, Bool.not_false, reduceIte, Nat.reduceEqDiff, Nat.reduceAdd, Nat.reduceMul, Nat.reduceSub, Nat.reduceLeDiff, Nat.reduceLT, hb.ld, Nat.zero_add, List.getElem?_cons_zero, List.getElem?_cons_succ, c1, c2, c3, and_self, and_false, false_and]
def s109 : SCode := (.seq (.ops [⟨(some 2), none, .box (T 0)⟩, ⟨(some 4), none, .mov (.const (.bool false))⟩]) (.seq (.ops [⟨(some 5), none, .fieldAddr 0 (T 2)⟩, ⟨(some 6), none, .load1 (T 5)⟩, ⟨(some 7), none, .mov (T 1)⟩, ⟨(some 8), none, .int2 .leq (T 6) (T 7)⟩, ⟨(some 9), none, .mov (T 8)⟩, ⟨(some 10), (some (9, true)), .mov (T 1)⟩, ⟨(some 11), (some (9, true)), .fieldAddr 1 (T 2)⟩, ⟨(some 12), (some (9, true)), .load1 (T 11)⟩, ⟨(some 13), (some (9, true)), .int2 .leq (T 10) (T 12)⟩, ⟨(some 14), none, .pick (T 9) (T 13) (.const (.bool false))⟩, ⟨(some 4), none, .mov (T 14)⟩]) .ret))
theorem fok109 : FnOk Try.prog 109 15 s109 [.tmp 4] := ⟨Try.f109, _, Try.func109, rfl, Try.ntmps109, by kernel_rfl, by kernel_rfl⟩
theorem has_c (hn : 1 ≤ n) (hr : h.next < far) (lo hi a : Int) : call n (.func (.func 109) #[] #[]) [.agg ⟨[.int .i64 lo, .int .i64 hi]⟩, .int .i64 a] h = some (.bool (decide (lo ≤ a ∧ a ≤ hi)), h) := by
  obtain ⟨n, rfl⟩ : ∃ p, n = p + 1 := ⟨n - 1, by omega⟩
  refine call_plain0 fok109 rfl rfl (by simp) rfl ?_
  simp only [s109, W_seq, W_ops]
  refine ops_box (cs := [.int .i64 lo, .int .i64 hi]) (by exact hr) rfl rfl fun h1 hb => ?_
  by_cases c1 : lo ≤ a <;> by_cases c2 : a ≤ hi <;> simp only [rn0, rn1, rn2, rn3, rn4, rn5, rn6, rn7, rn8, if_true, if_false, Nat.le_refl, true_and, and_true, decide_true, decide_false, Bool.not_true, Bool.not_false, reduceIte, Nat.reduceEqDiff, Nat.reduceAdd, Nat.reduceMul, Nat.reduceSub, Nat.reduceLeDiff, Nat.reduceLT, hb.ld, Nat.zero_add, List.getElem?_cons_zero, List.getElem?_cons_succ, c1, c2, and_self, and_false, false_and]
def s117 : SCode := (.seq (.ops [⟨(some 1), none, .box (T 0)⟩, ⟨(some 2), none, .mov (.const (.int .i64 (0)))⟩]) (.seq (.ops [⟨(some 3), none, .fieldAddr 1 (T 1)⟩, ⟨(some 4), none, .load1 (T 3)⟩, ⟨(some 5), none, .fieldAddr 0 (T 1)⟩, ⟨(some 6), none, .load1 (T 5)⟩, ⟨(some 7), none, .int2 .sub (T 4) (T 6)⟩, ⟨(some 8), none, .int2 .add (T 7) (.const (.int .i64 (1)))⟩, ⟨(some 2), none, .mov (T 8)⟩]) .ret))
theorem fok117 : FnOk Try.prog 117 9 s117 [.tmp 2] := ⟨Try.f117, _, Try.func117, rfl, Try.ntmps117, by kernel_rfl, by kernel_rfl⟩
theorem rsize_ok (hn : 1 ≤ n) (hr : h.next < far) {lo hi : Int} (h0 : 0 ≤ lo) (h1 : lo ≤ hi) (h2 : hi ≤ 99) : call n (.func (.func 117) #[] #[]) [.agg ⟨[.int .i64 lo, .int .i64 hi]⟩] h = some (.int .i64 (hi - lo + 1), h) := by
  obtain ⟨n, rfl⟩ : ∃ p, n = p + 1 := ⟨n - 1, by omega⟩
  refine call_plain0 fok117 rfl rfl (by simp) rfl ?_
  simp only [s117, W_seq, W_ops]
  refine ops_box (cs := [.int .i64 lo, .int .i64 hi]) (by exact hr) rfl rfl fun h1 hb => ?_
  have w1 : wrapF .i64 (hi - lo) = hi - lo := wrap_in (by omega) (by omega)
  have w2 : wrapF .i64 (hi - lo + 1) = hi - lo + 1 := wrap_in (by omega) (by omega)
  simp only [rn0, rn1, rn2, rn3, rn4, rn5, rn6, rn7, rn8, if_true, if_false, Nat.le_refl, true_and, and_true, decide_true, decide_false, Bool.not_true, Bool.not_false, reduceIte, Nat.reduceEqDiff, Nat.reduceAdd, Nat.reduceMul, Nat.reduceSub, Nat.reduceLeDiff, Nat.reduceLT, hb.ld, Nat.zero_add, List.getElem?_cons_zero, List.getElem?_cons_succ, w1, w2]
def s89 : SCode := (.seq (.ops [⟨(some 2), none, .box (T 0)⟩, ⟨(some 4), none, .mov (.const (.bool false))⟩]) (.seq (.ops [⟨(some 5), none, .mov (T 1)⟩, ⟨(some 6), none, .int2 .leq (.const (.int .i64 (0))) (T 5)⟩, ⟨(some 7), none, .mov (T 6)⟩, ⟨(some 8), (some (7, true)), .mov (T 1)⟩, ⟨(some 9), (some (7, true)), .fieldAddr 0 (T 2)⟩, ⟨(some 10), (some (7, true)), .fieldAddr 2 (T 9)⟩, ⟨(some 11), (some (7, true)), .load1 (T 10)⟩, ⟨(some 12), (some (7, true)), .len (T 11)⟩, ⟨(some 13), (some (7, true)), .int2 .lss (T 8) (T 12)⟩, ⟨(some 14), none, .pick (T 7) (T 13) (.const (.bool false))⟩, ⟨(some 4), none, .mov (T 14)⟩]) .ret))
theorem fok89 : FnOk Try.prog 89 15 s89 [.tmp 4] := ⟨Try.f89, _, Try.func89, rfl, Try.ntmps89, by kernel_rfl, by kernel_rfl⟩
theorem hasVat_c (hn : 1 ≤ n) (hr : h.next < far) {vv sv tv : Value} {S : MB} (hy : BeatR h vv sv S) (ht : oneCell tv = true) (at_ : Int) :
    call n (.func (.func 89) #[] #[]) [.agg ⟨wkL S vv sv tv⟩, .int .i64 at_] h = some (.bool (decide (0 ≤ at_ ∧ at_ ≤ (S.nv : Int) - 1)), h) := by
  obtain ⟨n, rfl⟩ : ∃ p, n = p + 1 := ⟨n - 1, by omega⟩
  refine call_plain0 fok89 rfl rfl (by simp) rfl ?_
  have hy := hy.shut
  have hr : h.shutAll.next < far := hr
  generalize h.shutAll = h at hy hr
  simp only [s89, W_seq, W_ops]
  refine ops_box (cs := wkL S vv sv tv) hr rfl (wk_one hy ht) fun h1 hx => ?_
  have hy := hy.mono hx.sub
  have e : (at_ < (S.nv : Int)) = (at_ ≤ (S.nv : Int) - 1) := by simp only [eq_iff_iff]; omega
  by_cases c1 : 0 ≤ at_ <;> by_cases c2 : at_ ≤ (S.nv : Int) - 1 <;> simp only [rn0, rn1, rn2, rn3, rn4, rn5, rn6, rn7, rn8, if_true, if_false, Nat.le_refl, true_and, and_true, decide_true, decide_false, Bool.not_true, Bool.not_false, reduceIte, Nat.reduceEqDiff, Nat.reduceAdd, Nat.reduceMul, Nat.reduceSub, Nat.reduceLeDiff, Nat.reduceLT, hx.ld, wkg, Nat.zero_add, Cells.len hy.v, e, c1, c2, and_self, and_false, false_and]
def s90 : SCode := (.seq (.ops [⟨(some 2), none, .box (T 0)⟩, ⟨(some 4), none, .mov (.const (.bool false))⟩]) (.seq (.ops [⟨(some 5), none, .mov (T 1)⟩, ⟨(some 6), none, .int2 .leq (.const (.int .i64 (0))) (T 5)⟩, ⟨(some 7), none, .mov (T 6)⟩, ⟨(some 8), (some (7, true)), .mov (T 1)⟩, ⟨(some 9), (some (7, true)), .fieldAddr 0 (T 2)⟩, ⟨(some 10), (some (7, true)), .fieldAddr 3 (T 9)⟩, ⟨(some 11), (some (7, true)), .load1 (T 10)⟩, ⟨(some 12), (some (7, true)), .int2 .leq (T 8) (T 11)⟩, ⟨(some 13), none, .pick (T 7) (T 12) (.const (.bool false))⟩, ⟨(some 4), none, .mov (T 13)⟩]) .ret))
theorem fok90 : FnOk Try.prog 90 14 s90 [.tmp 4] := ⟨Try.f90, _, Try.func90, rfl, Try.ntmps90, by kernel_rfl, by kernel_rfl⟩
theorem hasHour_c (hn : 1 ≤ n) (hr : h.next < far) {vv sv tv : Value} {S : MB} (h1 : allB oneCell (wkL S vv sv tv) = true) (at_ : Int) :
    call n (.func (.func 90) #[] #[]) [.agg ⟨wkL S vv sv tv⟩, .int .i64 at_] h = some (.bool (decide (0 ≤ at_ ∧ at_ ≤ S.last)), h) := by
  obtain ⟨n, rfl⟩ : ∃ p, n = p + 1 := ⟨n - 1, by omega⟩
  refine call_plain0 fok90 rfl rfl (by simp) rfl ?_
  have hr : h.shutAll.next < far := hr
  generalize h.shutAll = h at hr
  simp only [s90, W_seq, W_ops]
  refine ops_box (cs := wkL S vv sv tv) hr rfl h1 fun h1 hx => ?_
  by_cases c1 : 0 ≤ at_ <;> by_cases c2 : at_ ≤ S.last <;> simp only [rn0, rn1, rn2, rn3, rn4, rn5, rn6, rn7, rn8, if_true, if_false, Nat.le_refl, true_and, and_true, decide_true, decide_false, Bool.not_true, Bool.not_false, reduceIte, Nat.reduceEqDiff, Nat.reduceAdd, Nat.reduceMul, Nat.reduceSub, Nat.reduceLeDiff, Nat.reduceLT, hx.ld, wkg, Nat.zero_add, c1, c2, and_self, and_false, false_and]
theorem hasHourB_c (hn : 1 ≤ n) (hr : h.next < far) {vv sv tv : Value} {S : MB} (h1 : allB oneCell (wkL S vv sv tv) = true) (at_ : Int) :
    call n (.func (.func 90) ⟨[.agg ⟨wkL S vv sv tv⟩]⟩ #[]) [.int .i64 at_] h = some (.bool (decide (0 ≤ at_ ∧ at_ ≤ S.last)), h) := by
  obtain ⟨n, rfl⟩ : ∃ p, n = p + 1 := ⟨n - 1, by omega⟩
  refine call_plain (xs := [.agg ⟨wkL S vv sv tv⟩]) (ys := []) fok90 rfl rfl (by simp) rfl ?_
  have hr : h.shutAll.next < far := hr
  generalize h.shutAll = h at hr
  simp only [s90, List.cons_append, List.nil_append, List.append_nil, W_seq, W_ops]
  refine ops_box (cs := wkL S vv sv tv) hr rfl h1 fun h1 hx => ?_
  by_cases c1 : 0 ≤ at_ <;> by_cases c2 : at_ ≤ S.last <;> simp only [rn0, rn1, rn2, rn3, rn4, rn5, rn6, rn7, rn8, if_true, if_false, Nat.le_refl, true_and, and_true, decide_true, decide_false, Bool.not_true, Bool.not_false, reduceIte, Nat.reduceEqDiff, Nat.reduceAdd, Nat.reduceMul, Nat.reduceSub, Nat.reduceLeDiff, Nat.reduceLT, hx.ld, wkg, Nat.zero_add, c1, c2, and_self, and_false, false_and]
def s115 : SCode := (.seq (.ops [⟨(some 1), none, .box (T 0)⟩, ⟨(some 2), none, .mov (.const (.bool false))⟩]) (.seq (.ops [⟨(some 3), none, .fieldAddr 0 (T 1)⟩, ⟨(some 4), none, .loadN 2 (T 3)⟩, ⟨(some 5), none, .call (.func 113) [(T 4), (.const (.int .i64 (9)))]⟩, ⟨(some 6), none, .mov (T 5)⟩, ⟨(some 7), (some (6, true)), .build #[(0, 1), (1, 1)] [(.int .i64 (0)), (.int .i64 (0))] [0, 1] [(.const (.int .i64 (0))), (.const (.int .i64 (20)))]⟩, ⟨(some 8), (some (6, true)), .fieldAddr 2 (T 1)⟩, ⟨(some 9), (some (6, true)), .load1 (T 8)⟩, ⟨(some 10), (some (6, true)), .call (.func 109) [(T 7), (T 9)]⟩, ⟨(some 11), none, .pick (T 6) (T 10) (.const (.bool false))⟩, ⟨(some 12), none, .mov (T 11)⟩, ⟨(some 13), (some (12, true)), .build #[(0, 1), (1, 1)] [(.int .i64 (0)), (.int .i64 (0))] [0, 1] [(.const (.int .i64 (0))), (.const (.int .i64 (20)))]⟩, ⟨(some 14), (some (12, true)), .fieldAddr 3 (T 1)⟩, ⟨(some 15), (some (12, true)), .load1 (T 14)⟩, ⟨(some 16), (some (12, true)), .call (.func 109) [(T 13), (T 15)]⟩, ⟨(some 17), none, .pick (T 12) (T 16) (.const (.bool false))⟩, ⟨(some 2), none, .mov (T 17)⟩]) .ret))
theorem fok115 : FnOk Try.prog 115 18 s115 [.tmp 2] := ⟨Try.f115, _, Try.func115, rfl, Try.ntmps115, by kernel_rfl, by kernel_rfl⟩
theorem isVat_c (hn : 3 ≤ n) (hr : h.next + 3 < far) {S : MB} (k : Nat) :
    ∃ r, (r = true ↔ (0 ≤ S.nlo k ∧ S.nlo k ≤ S.nhi k ∧ S.nhi k ≤ 9) ∧ (0 ≤ S.ve k ∧ S.ve k ≤ 20) ∧ 0 ≤ S.vl k ∧ S.vl k ≤ 20) ∧ call n (.func (.func 115) #[] #[]) [.agg ⟨vaL S k⟩] h = some (.bool r, h) := by
  classical
  refine ⟨decide ((0 ≤ S.nlo k ∧ S.nlo k ≤ S.nhi k ∧ S.nhi k ≤ 9) ∧ (0 ≤ S.ve k ∧ S.ve k ≤ 20) ∧ 0 ≤ S.vl k ∧ S.vl k ≤ 20), by simp, ?_⟩
  obtain ⟨n, rfl⟩ : ∃ p, n = p + 1 := ⟨n - 1, by omega⟩
  refine call_plain0 fok115 rfl rfl (by simp) rfl ?_
  have hr : h.shutAll.next + 3 < far := hr
  generalize h.shutAll = h at hr
  simp only [s115, W_seq, W_ops]
  refine ops_box (cs := vaL S k) (by omega) rfl va_one fun g hx => ?_
  have n1 := hx.next
  have e0 : loadAgg 2 g (.pointer (some ⟨h.next, 0, none⟩)) = some (.agg ⟨[.int .i64 (S.nlo k), .int .i64 (S.nhi k)]⟩) := hx.ldN 0 2 (by simp [vaL]) (by simp [vaL])
  have e1 := isUpTo_c (n := n) (h := g) (by omega) (by omega) (S.nlo k) (S.nhi k) 9
  have e2 := has_c (n := n) (h := g) (by omega) (by omega) 0 20 (S.ve k)
  have e3 := has_c (n := n) (h := g) (by omega) (by omega) 0 20 (S.vl k)
  by_cases c1 : 0 ≤ S.nlo k ∧ S.nlo k ≤ S.nhi k ∧ S.nhi k ≤ 9
  case neg => simp only [rn0, rn1, rn2, rn3, rn4, rn5, rn6, rn7, rn8, if_true, if_false, Nat.le_refl, true_and, and_true, decide_true, decide_false, Bool.not_true, Bool.not_false, reduceIte, Nat.reduceEqDiff, Nat.reduceAdd, Nat.reduceMul, Nat.reduceSub, Nat.reduceLeDiff, Nat.reduceLT, e0, hx.ld, vag, Nat.zero_add, e1, c1, false_and]
  by_cases c2 : 0 ≤ S.ve k ∧ S.ve k ≤ 20
  case neg => simp only [rn0, rn1, rn2, rn3, rn4, rn5, rn6, rn7, rn8, if_true, if_false, Nat.le_refl, true_and, and_true, decide_true, decide_false, Bool.not_true, Bool.not_false, reduceIte, Nat.reduceEqDiff, Nat.reduceAdd, Nat.reduceMul, Nat.reduceSub, Nat.reduceLeDiff, Nat.reduceLT, e0, hx.ld, vag, Nat.zero_add, e1, c1, build_range, e2, c2, and_false, false_and]
  by_cases c3 : 0 ≤ S.vl k ∧ S.vl k ≤ 20
  case neg => simp only [rn0, rn1, rn2, rn3, rn4, rn5, rn6, rn7, rn8, if_true, if_false, Nat.le_refl, true_and, and_true, decide_true, decide_false, Bool.not_true, Bool.not_false, reduceIte, Nat.reduceEqDiff, Nat.reduceAdd, Nat.reduceMul, Nat.reduceSub, Nat.reduceLeDiff, Nat.reduceLT, e0, hx.ld, vag, Nat.zero_add, e1, c1, build_range, e2, c2, e3, c3, and_false, false_and]
  simp only [rn0, rn1, rn2, rn3, rn4, rn5, rn6, rn7, rn8, if_true, if_false, Nat.le_refl, true_and, and_true, decide_true, decide_false, Bool.not_true, Bool.not_false, reduceIte, Nat.reduceEqDiff, Nat.reduceAdd, Nat.reduceMul, Nat.reduceSub, Nat.reduceLeDiff, Nat.reduceLT, e0, hx.ld, vag, Nat.zero_add, e1, c1, build_range, e2, c2, e3, c3, and_self]
def s116 : SCode := (.seq (.ops [⟨(some 2), none, .box (T 0)⟩, ⟨(some 3), none, .box (T 1)⟩, ⟨(some 4), none, .mov (.const (.bool false))⟩]) (.seq (.ops [⟨(some 5), none, .loadN 6 (T 2)⟩, ⟨(some 6), none, .fieldAddr 0 (T 3)⟩, ⟨(some 7), none, .load1 (T 6)⟩, ⟨(some 8), none, .call (.func 89) [(T 5), (T 7)]⟩, ⟨(some 9), none, .mov (T 8)⟩, ⟨(some 10), (some (9, true)), .loadN 6 (T 2)⟩, ⟨(some 11), (some (9, true)), .fieldAddr 1 (T 3)⟩, ⟨(some 12), (some (9, true)), .load1 (T 11)⟩, ⟨(some 13), (some (9, true)), .call (.func 90) [(T 10), (T 12)]⟩, ⟨(some 14), none, .pick (T 9) (T 13) (.const (.bool false))⟩, ⟨(some 4), none, .mov (T 14)⟩]) .ret))
theorem fok116 : FnOk Try.prog 116 15 s116 [.tmp 4] := ⟨Try.f116, _, Try.func116, rfl, Try.ntmps116, by kernel_rfl, by kernel_rfl⟩
theorem isSamp_c (hn : 3 ≤ n) (hr : h.next + 3 < far) {vv sv tv : Value} {S : MB} (hy : BeatR h vv sv S) (ht : oneCell tv = true) (k : Nat) :
    ∃ r, (r = true ↔ (0 ≤ S.sv k ∧ S.sv k ≤ (S.nv : Int) - 1) ∧ 0 ≤ S.sh k ∧ S.sh k ≤ S.last) ∧ call n (.func (.func 116) ⟨[.agg ⟨wkL S vv sv tv⟩]⟩ #[]) [.agg ⟨smL S k⟩] h = some (.bool r, h) := by
  classical
  refine ⟨decide ((0 ≤ S.sv k ∧ S.sv k ≤ (S.nv : Int) - 1) ∧ 0 ≤ S.sh k ∧ S.sh k ≤ S.last), by simp, ?_⟩
  obtain ⟨n, rfl⟩ : ∃ p, n = p + 1 := ⟨n - 1, by omega⟩
  refine call_plain (xs := [.agg ⟨wkL S vv sv tv⟩]) (ys := []) fok116 rfl rfl (by simp) rfl ?_
  have hy := hy.shut
  have hr : h.shutAll.next + 3 < far := hr
  generalize h.shutAll = h at hy hr
  simp only [s116, List.cons_append, List.nil_append, List.append_nil, W_seq, W_ops]
  refine ops_box (cs := wkL S vv sv tv) (by omega) rfl (wk_one hy ht) fun g1 hx => ?_
  refine ops_box (cs := smL S k) (by rw [hx.next]; omega) rfl sm_one fun g2 hx2 => ?_
  have n1 := hx.next
  have n2 := hx2.next
  have w1 := (hx.row.mono hx2.sub).whole (n := 6) rfl
  have hy2 := (hy.mono hx.sub).mono hx2.sub
  have e1 := hasVat_c (n := n) (h := g2) (by omega) (by omega) hy2 ht (S.sv k)
  have e2 := hasHour_c (n := n) (h := g2) (by omega) (by omega) (wk_one hy2 ht) (S.sh k)
  by_cases c1 : 0 ≤ S.sv k ∧ S.sv k ≤ (S.nv : Int) - 1
  case neg => simp only [rn0, rn1, rn2, rn3, rn4, rn5, rn6, rn7, rn8, if_true, if_false, Nat.le_refl, true_and, and_true, decide_true, decide_false, Bool.not_true, Bool.not_false, reduceIte, Nat.reduceEqDiff, Nat.reduceAdd, Nat.reduceMul, Nat.reduceSub, Nat.reduceLeDiff, Nat.reduceLT, w1, hx2.ld, smg, Nat.zero_add, e1, c1, false_and]
  by_cases c2 : 0 ≤ S.sh k ∧ S.sh k ≤ S.last
  case neg => simp only [rn0, rn1, rn2, rn3, rn4, rn5, rn6, rn7, rn8, if_true, if_false, Nat.le_refl, true_and, and_true, decide_true, decide_false, Bool.not_true, Bool.not_false, reduceIte, Nat.reduceEqDiff, Nat.reduceAdd, Nat.reduceMul, Nat.reduceSub, Nat.reduceLeDiff, Nat.reduceLT, w1, hx2.ld, smg, Nat.zero_add, e1, c1, e2, c2, and_false, false_and]
  simp only [rn0, rn1, rn2, rn3, rn4, rn5, rn6, rn7, rn8, if_true, if_false, Nat.le_refl, true_and, and_true, decide_true, decide_false, Bool.not_true, Bool.not_false, reduceIte, Nat.reduceEqDiff, Nat.reduceAdd, Nat.reduceMul, Nat.reduceSub, Nat.reduceLeDiff, Nat.reduceLT, w1, hx2.ld, smg, Nat.zero_add, e1, c1, e2, c2, and_self]
def Cond (n : Nat) (h : AHeap) (k : Nat) (ok : Value) (m : Nat) (elem : Nat → Value) (p : Nat → Prop) : Prop :=
  ∀ g, Sub All h g → g.next ≤ h.next + k → ∀ i, i < m → ∃ b, (b = true ↔ p i) ∧ call n ok [elem i] g = some (.bool b, g)
def s114 : SCode := (.seq (.ops [⟨(some 4), none, .mov (.const (.bool false))⟩]) (.seq (.seq (.ops [⟨(some 7), none, .mov (T 0)⟩, ⟨(some 8), none, .len (T 7)⟩, ⟨(some 9), none, .mov (.const (.int .i64 (0)))⟩]) (.block 0 (.loop (.seq (.ops [⟨(some 10), none, .int2 .lss (T 9) (T 8)⟩]) (.seq (.cond (T 10) .skip (.exit 0)) (.seq (.block 1 (.seq (.ops [⟨(some 11), none, .idxSl 4 (T 7) (T 9)⟩, ⟨(some 12), none, .loadN 4 (T 11)⟩, ⟨(some 6), none, .alloc [(.int .i64 (0)), (.int .i64 (0)), (.int .i64 (0)), (.int .i64 (0))]⟩, ⟨none, none, .store 4 (T 6) (T 12)⟩]) (.seq (.ops [⟨(some 13), none, .mov (T 1)⟩, ⟨(some 14), none, .loadN 4 (T 6)⟩, ⟨(some 15), none, .call (T 13) [(T 14)]⟩, ⟨(some 16), none, .not (T 15)⟩]) (.cond (T 16) (.seq (.ops [⟨(some 4), none, .mov (.const (.bool false))⟩]) .ret) .skip)))) (.ops [⟨(some 17), none, .int2 .add (T 9) (.const (.int .i64 (1)))⟩, ⟨(some 9), none, .mov (T 17)⟩]))))))) (.seq (.ops [⟨(some 4), none, .mov (.const (.bool true))⟩]) .ret)))
theorem fok114 : FnOk Try.prog 114 18 s114 [.tmp 4] := ⟨Try.f114, _, Try.func114, rfl, Try.ntmps114, by kernel_rfl, by kernel_rfl⟩
open Classical in
theorem everyVat_c (hn : 100 ≤ n) (hr : h.next + 60 < far) {v ok : Value} {m : Nat} {S : MB} {p : Nat → Prop} (hv : Cells h v 4 m (vatC S)) (hm : m ≤ 30) (hok : Cond (n - 1) h.shutAll 40 ok m (fun i => .agg ⟨vaL S i⟩) p) :
    call n (.func (.func 114) #[] #[]) [v, ok] h = some (.bool (decide (∀ i, i < m → p i)), h) := by
  obtain ⟨n, rfl⟩ : ∃ p, n = p + 1 := ⟨n - 1, by omega⟩
  refine call_plain0 fok114 rfl rfl (by simp) rfl ?_
  have hv := Cells.shut hv
  have hr : h.shutAll.next + 60 < far := hr
  have hfl : h.shutAll.floor ≤ h.shutAll.next := Nat.le_refl _
  rw [Nat.add_sub_cancel] at hok
  generalize h.shutAll = h at hv hok hr hfl
  simp only [rn0, rn1, rn2, rn3, rn4, rn5, rn6, rn7, rn8, if_true, if_false, Nat.le_refl, true_and, and_true, decide_true, decide_false, Bool.not_true, Bool.not_false, reduceIte, Nat.reduceEqDiff, Nat.reduceAdd, Nat.reduceMul, Nat.reduceSub, Nat.reduceLeDiff, Nat.reduceLT, s114, Cells.len hv]
  refine W_loop m (fun k f g m' => (Sub All h g ∧ g.next = h.next + k ∧ g.floor = h.floor) ∧ m' = [] ∧ f 1 = ok ∧ f 7 = v ∧ f 8 = .int .i64 (m : Int) ∧ f 9 = .int .i64 (k : Int) ∧ ∀ i, i < k → p i) (by simp; omega) ?_ ?_ ?_
  · simp only [rn0, rn1, rn2, rn3, rn4, rn5, rn6, rn7, rn8, if_true, if_false, Nat.le_refl, true_and, and_true, decide_true, decide_false, Bool.not_true, Bool.not_false, reduceIte, Nat.reduceEqDiff, Nat.reduceAdd, Nat.reduceMul, Nat.reduceSub, Nat.reduceLeDiff, Nat.reduceLT, Nat.not_lt_zero, false_implies, implies_true, Nat.add_zero]
    trivial
  · rintro k f g m' hk ⟨⟨g1, g2, g3⟩, rfl, f1, f7, f8, f9, hlt⟩
    have hk' : (k : Int) < (m : Int) := by omega
    have hw : wrapF .i64 ((k : Int) + 1) = ((k + 1 : Nat) : Int) := by rw [wrap_in (by omega) (by omega)]; rfl
    have hvg := Cells.mono hv g1
    have hldk : loadAgg 4 g (ptrO v 4 k 0) = some (.agg ⟨vaL S k⟩) := by rw [Cells.ldN hvg hk (by omega) (by omega)]; simp [List.range_succ, vatC, vaL]
    simp only [rn0, rn1, rn2, rn3, rn4, rn5, rn6, rn7, rn8, if_true, if_false, Nat.le_refl, true_and, and_true, decide_true, decide_false, Bool.not_true, Bool.not_false, reduceIte, Nat.reduceEqDiff, Nat.reduceAdd, Nat.reduceMul, Nat.reduceSub, Nat.reduceLeDiff, Nat.reduceLT, f1, f7, f8, f9, hk', Cells.idx hvg hk, hldk]
    refine step_new (vs := vaL S k) (by omega) (by omega) rfl (by simp only [rn0, rn1, rn2, rn3, rn4, rn5, rn6, rn7, rn8, if_true, if_false, Nat.le_refl, true_and, and_true, decide_true, decide_false, Bool.not_true, Bool.not_false, reduceIte, Nat.reduceEqDiff, Nat.reduceAdd, Nat.reduceMul, Nat.reduceSub, Nat.reduceLeDiff, Nat.reduceLT]; rfl) rfl rfl rfl fun g' hg' => ?_
    have hin : (Sub All h g' ∧ g'.next = h.next + (k + 1) ∧ g'.floor = h.floor) = True := eq_true ⟨g1.trans hg'.sub, by rw [hg'.next, g2]; omega, by rw [hg'.floor, g3]⟩
    obtain ⟨b, hb, e⟩ := hok g' (g1.trans hg'.sub) (by rw [hg'.next, g2]; omega) k hk
    have wh := hg'.row.whole (n := 4) rfl
    cases b with
    | true =>
      have hp : p k := hb.1 rfl
      simp only [rn0, rn1, rn2, rn3, rn4, rn5, rn6, rn7, rn8, if_true, if_false, Nat.le_refl, true_and, and_true, decide_true, decide_false, Bool.not_true, Bool.not_false, reduceIte, Nat.reduceEqDiff, Nat.reduceAdd, Nat.reduceMul, Nat.reduceSub, Nat.reduceLeDiff, Nat.reduceLT, f1, f7, f8, f9, wh, e, hw, hin]
      intro j hj
      by_cases ej : j = k
      · subst ej; exact hp
      · exact hlt j (by omega)
    | false =>
      have hp : ¬ ∀ i, i < m → p i := fun h => by have := hb.2 (h k hk); cases this
      simp only [rn0, rn1, rn2, rn3, rn4, rn5, rn6, rn7, rn8, if_true, if_false, Nat.le_refl, true_and, and_true, decide_true, decide_false, Bool.not_true, Bool.not_false, reduceIte, Nat.reduceEqDiff, Nat.reduceAdd, Nat.reduceMul, Nat.reduceSub, Nat.reduceLeDiff, Nat.reduceLT, f1, f7, f8, f9, wh, e, hw, hp]
  · rintro f g m' ⟨⟨g1, g2, g3⟩, rfl, f1, f7, f8, f9, hlt⟩
    simp only [rn0, rn1, rn2, rn3, rn4, rn5, rn6, rn7, rn8, if_true, if_false, Nat.le_refl, true_and, and_true, decide_true, decide_false, Bool.not_true, Bool.not_false, reduceIte, Nat.reduceEqDiff, Nat.reduceAdd, Nat.reduceMul, Nat.reduceSub, Nat.reduceLeDiff, Nat.reduceLT, f1, f7, f8, f9, Int.lt_irrefl, eq_true hlt]
def s111 : SCode := (.seq (.ops [⟨(some 4), none, .mov (.const (.bool false))⟩]) (.seq (.seq (.ops [⟨(some 7), none, .mov (T 0)⟩, ⟨(some 8), none, .len (T 7)⟩, ⟨(some 9), none, .mov (.const (.int .i64 (0)))⟩]) (.block 0 (.loop (.seq (.ops [⟨(some 10), none, .int2 .lss (T 9) (T 8)⟩]) (.seq (.cond (T 10) .skip (.exit 0)) (.seq (.block 1 (.seq (.ops [⟨(some 11), none, .idxSl 3 (T 7) (T 9)⟩, ⟨(some 12), none, .loadN 3 (T 11)⟩, ⟨(some 6), none, .alloc [(.int .i64 (0)), (.int .i64 (0)), (.bool false)]⟩, ⟨none, none, .store 3 (T 6) (T 12)⟩]) (.seq (.ops [⟨(some 13), none, .mov (T 1)⟩, ⟨(some 14), none, .loadN 3 (T 6)⟩, ⟨(some 15), none, .call (T 13) [(T 14)]⟩, ⟨(some 16), none, .not (T 15)⟩]) (.cond (T 16) (.seq (.ops [⟨(some 4), none, .mov (.const (.bool false))⟩]) .ret) .skip)))) (.ops [⟨(some 17), none, .int2 .add (T 9) (.const (.int .i64 (1)))⟩, ⟨(some 9), none, .mov (T 17)⟩]))))))) (.seq (.ops [⟨(some 4), none, .mov (.const (.bool true))⟩]) .ret)))
theorem fok111 : FnOk Try.prog 111 18 s111 [.tmp 4] := ⟨Try.f111, _, Try.func111, rfl, Try.ntmps111, by kernel_rfl, by kernel_rfl⟩
open Classical in
theorem everySamp_c (hn : 100 ≤ n) (hr : h.next + 60 < far) {v ok : Value} {m : Nat} {S : MB} {p : Nat → Prop} (hv : Cells h v 3 m (sampC S)) (hm : m ≤ 30) (hok : Cond (n - 1) h.shutAll 40 ok m (fun i => .agg ⟨smL S i⟩) p) :
    call n (.func (.func 111) #[] #[]) [v, ok] h = some (.bool (decide (∀ i, i < m → p i)), h) := by
  obtain ⟨n, rfl⟩ : ∃ p, n = p + 1 := ⟨n - 1, by omega⟩
  refine call_plain0 fok111 rfl rfl (by simp) rfl ?_
  have hv := Cells.shut hv
  have hr : h.shutAll.next + 60 < far := hr
  have hfl : h.shutAll.floor ≤ h.shutAll.next := Nat.le_refl _
  rw [Nat.add_sub_cancel] at hok
  generalize h.shutAll = h at hv hok hr hfl
  simp only [rn0, rn1, rn2, rn3, rn4, rn5, rn6, rn7, rn8, if_true, if_false, Nat.le_refl, true_and, and_true, decide_true, decide_false, Bool.not_true, Bool.not_false, reduceIte, Nat.reduceEqDiff, Nat.reduceAdd, Nat.reduceMul, Nat.reduceSub, Nat.reduceLeDiff, Nat.reduceLT, s111, Cells.len hv]
  refine W_loop m (fun k f g m' => (Sub All h g ∧ g.next = h.next + k ∧ g.floor = h.floor) ∧ m' = [] ∧ f 1 = ok ∧ f 7 = v ∧ f 8 = .int .i64 (m : Int) ∧ f 9 = .int .i64 (k : Int) ∧ ∀ i, i < k → p i) (by simp; omega) ?_ ?_ ?_
  · simp only [rn0, rn1, rn2, rn3, rn4, rn5, rn6, rn7, rn8, if_true, if_false, Nat.le_refl, true_and, and_true, decide_true, decide_false, Bool.not_true, Bool.not_false, reduceIte, Nat.reduceEqDiff, Nat.reduceAdd, Nat.reduceMul, Nat.reduceSub, Nat.reduceLeDiff, Nat.reduceLT, Nat.not_lt_zero, false_implies, implies_true, Nat.add_zero]
    trivial
  · rintro k f g m' hk ⟨⟨g1, g2, g3⟩, rfl, f1, f7, f8, f9, hlt⟩
    have hk' : (k : Int) < (m : Int) := by omega
    have hw : wrapF .i64 ((k : Int) + 1) = ((k + 1 : Nat) : Int) := by rw [wrap_in (by omega) (by omega)]; rfl
    have hvg := Cells.mono hv g1
    have hldk : loadAgg 3 g (ptrO v 3 k 0) = some (.agg ⟨smL S k⟩) := by rw [Cells.ldN hvg hk (by omega) (by omega)]; simp [List.range_succ, sampC, smL]
    simp only [rn0, rn1, rn2, rn3, rn4, rn5, rn6, rn7, rn8, if_true, if_false, Nat.le_refl, true_and, and_true, decide_true, decide_false, Bool.not_true, Bool.not_false, reduceIte, Nat.reduceEqDiff, Nat.reduceAdd, Nat.reduceMul, Nat.reduceSub, Nat.reduceLeDiff, Nat.reduceLT, f1, f7, f8, f9, hk', Cells.idx hvg hk, hldk]
    refine step_new (vs := smL S k) (by omega) (by omega) rfl (by simp only [rn0, rn1, rn2, rn3, rn4, rn5, rn6, rn7, rn8, if_true, if_false, Nat.le_refl, true_and, and_true, decide_true, decide_false, Bool.not_true, Bool.not_false, reduceIte, Nat.reduceEqDiff, Nat.reduceAdd, Nat.reduceMul, Nat.reduceSub, Nat.reduceLeDiff, Nat.reduceLT]; rfl) rfl rfl rfl fun g' hg' => ?_
    have hin : (Sub All h g' ∧ g'.next = h.next + (k + 1) ∧ g'.floor = h.floor) = True := eq_true ⟨g1.trans hg'.sub, by rw [hg'.next, g2]; omega, by rw [hg'.floor, g3]⟩
    obtain ⟨b, hb, e⟩ := hok g' (g1.trans hg'.sub) (by rw [hg'.next, g2]; omega) k hk
    have wh := hg'.row.whole (n := 3) rfl
    cases b with
    | true =>
      have hp : p k := hb.1 rfl
      simp only [rn0, rn1, rn2, rn3, rn4, rn5, rn6, rn7, rn8, if_true, if_false, Nat.le_refl, true_and, and_true, decide_true, decide_false, Bool.not_true, Bool.not_false, reduceIte, Nat.reduceEqDiff, Nat.reduceAdd, Nat.reduceMul, Nat.reduceSub, Nat.reduceLeDiff, Nat.reduceLT, f1, f7, f8, f9, wh, e, hw, hin]
      intro j hj
      by_cases ej : j = k
      · subst ej; exact hp
      · exact hlt j (by omega)
    | false =>
      have hp : ¬ ∀ i, i < m → p i := fun h => by have := hb.2 (h k hk); cases this
      simp only [rn0, rn1, rn2, rn3, rn4, rn5, rn6, rn7, rn8, if_true, if_false, Nat.le_refl, true_and, and_true, decide_true, decide_false, Bool.not_true, Bool.not_false, reduceIte, Nat.reduceEqDiff, Nat.reduceAdd, Nat.reduceMul, Nat.reduceSub, Nat.reduceLeDiff, Nat.reduceLT, f1, f7, f8, f9, wh, e, hw, hp]
  · rintro f g m' ⟨⟨g1, g2, g3⟩, rfl, f1, f7, f8, f9, hlt⟩
    simp only [rn0, rn1, rn2, rn3, rn4, rn5, rn6, rn7, rn8, if_true, if_false, Nat.le_refl, true_and, and_true, decide_true, decide_false, Bool.not_true, Bool.not_false, reduceIte, Nat.reduceEqDiff, Nat.reduceAdd, Nat.reduceMul, Nat.reduceSub, Nat.reduceLeDiff, Nat.reduceLT, f1, f7, f8, f9, Int.lt_irrefl, eq_true hlt]
def s110 : SCode := (.seq (.ops [⟨(some 4), none, .mov (.const (.bool false))⟩]) (.seq (.seq (.ops [⟨(some 7), none, .mov (T 0)⟩, ⟨(some 8), none, .len (T 7)⟩, ⟨(some 9), none, .mov (.const (.int .i64 (0)))⟩]) (.block 0 (.loop (.seq (.ops [⟨(some 10), none, .int2 .lss (T 9) (T 8)⟩]) (.seq (.cond (T 10) .skip (.exit 0)) (.seq (.block 1 (.seq (.ops [⟨(some 11), none, .idxSl 1 (T 7) (T 9)⟩, ⟨(some 12), none, .load1 (T 11)⟩, ⟨(some 6), none, .mov (T 12)⟩]) (.seq (.ops [⟨(some 13), none, .mov (T 1)⟩, ⟨(some 14), none, .mov (T 6)⟩, ⟨(some 15), none, .call (T 13) [(T 14)]⟩, ⟨(some 16), none, .not (T 15)⟩]) (.cond (T 16) (.seq (.ops [⟨(some 4), none, .mov (.const (.bool false))⟩]) .ret) .skip)))) (.ops [⟨(some 17), none, .int2 .add (T 9) (.const (.int .i64 (1)))⟩, ⟨(some 9), none, .mov (T 17)⟩]))))))) (.seq (.ops [⟨(some 4), none, .mov (.const (.bool true))⟩]) .ret)))
theorem fok110 : FnOk Try.prog 110 18 s110 [.tmp 4] := ⟨Try.f110, _, Try.func110, rfl, Try.ntmps110, by kernel_rfl, by kernel_rfl⟩
open Classical in
theorem everyInt_c (hn : 100 ≤ n) (hr : h.next + 60 < far) {v ok : Value} {m : Nat} {a : Nat → Int} {p : Nat → Prop} (hv : Ints h v m a) (hm : m ≤ 30) (hok : Cond (n - 1) h.shutAll 40 ok m (fun i => .int .i64 (a i)) p) :
    call n (.func (.func 110) #[] #[]) [v, ok] h = some (.bool (decide (∀ i, i < m → p i)), h) := by
  obtain ⟨n, rfl⟩ : ∃ p, n = p + 1 := ⟨n - 1, by omega⟩
  refine call_plain0 fok110 rfl rfl (by simp) rfl ?_
  have hv := Cells.shut hv
  have hr : h.shutAll.next + 60 < far := hr
  have hfl : h.shutAll.floor ≤ h.shutAll.next := Nat.le_refl _
  rw [Nat.add_sub_cancel] at hok
  generalize h.shutAll = h at hv hok hr hfl
  simp only [rn0, rn1, rn2, rn3, rn4, rn5, rn6, rn7, rn8, if_true, if_false, Nat.le_refl, true_and, and_true, decide_true, decide_false, Bool.not_true, Bool.not_false, reduceIte, Nat.reduceEqDiff, Nat.reduceAdd, Nat.reduceMul, Nat.reduceSub, Nat.reduceLeDiff, Nat.reduceLT, s110, Cells.len hv]
  refine W_loop m (fun k f g m' => (Sub All h g ∧ g.next = h.next + 0 ∧ g.floor = h.floor) ∧ m' = [] ∧ f 1 = ok ∧ f 7 = v ∧ f 8 = .int .i64 (m : Int) ∧ f 9 = .int .i64 (k : Int) ∧ ∀ i, i < k → p i) (by simp; omega) ?_ ?_ ?_
  · simp only [rn0, rn1, rn2, rn3, rn4, rn5, rn6, rn7, rn8, if_true, if_false, Nat.le_refl, true_and, and_true, decide_true, decide_false, Bool.not_true, Bool.not_false, reduceIte, Nat.reduceEqDiff, Nat.reduceAdd, Nat.reduceMul, Nat.reduceSub, Nat.reduceLeDiff, Nat.reduceLT, Nat.not_lt_zero, false_implies, implies_true, Nat.add_zero]
    trivial
  · rintro k f g m' hk ⟨⟨g1, g2, g3⟩, rfl, f1, f7, f8, f9, hlt⟩
    have hk' : (k : Int) < (m : Int) := by omega
    have hw : wrapF .i64 ((k : Int) + 1) = ((k + 1 : Nat) : Int) := by rw [wrap_in (by omega) (by omega)]; rfl
    have hvg := Cells.mono hv g1
    obtain ⟨b, hb, e⟩ := hok g g1 (by omega) k hk
    have hin : (Sub All h g ∧ g.next = h.next + 0 ∧ g.floor = h.floor) = True := eq_true ⟨g1, g2, g3⟩
    have hldk : loadCell g (ptrO v 1 k 0) = some (.int .i64 (a k)) := Cells.ld hvg hk Nat.zero_lt_one
    cases b with
    | true =>
      have hp : p k := hb.1 rfl
      simp only [rn0, rn1, rn2, rn3, rn4, rn5, rn6, rn7, rn8, if_true, if_false, Nat.le_refl, true_and, and_true, decide_true, decide_false, Bool.not_true, Bool.not_false, reduceIte, Nat.reduceEqDiff, Nat.reduceAdd, Nat.reduceMul, Nat.reduceSub, Nat.reduceLeDiff, Nat.reduceLT, f1, f7, f8, f9, hk', Cells.idx hvg hk, hldk, e, hw, hin]
      intro j hj
      by_cases ej : j = k
      · subst ej; exact hp
      · exact hlt j (by omega)
    | false =>
      have hp : ¬ ∀ i, i < m → p i := fun h => by have := hb.2 (h k hk); cases this
      simp only [rn0, rn1, rn2, rn3, rn4, rn5, rn6, rn7, rn8, if_true, if_false, Nat.le_refl, true_and, and_true, decide_true, decide_false, Bool.not_true, Bool.not_false, reduceIte, Nat.reduceEqDiff, Nat.reduceAdd, Nat.reduceMul, Nat.reduceSub, Nat.reduceLeDiff, Nat.reduceLT, f1, f7, f8, f9, hk', Cells.idx hvg hk, hldk, e, hw, hp]
  · rintro f g m' ⟨⟨g1, g2, g3⟩, rfl, f1, f7, f8, f9, hlt⟩
    simp only [rn0, rn1, rn2, rn3, rn4, rn5, rn6, rn7, rn8, if_true, if_false, Nat.le_refl, true_and, and_true, decide_true, decide_false, Bool.not_true, Bool.not_false, reduceIte, Nat.reduceEqDiff, Nat.reduceAdd, Nat.reduceMul, Nat.reduceSub, Nat.reduceLeDiff, Nat.reduceLT, f1, f7, f8, f9, Int.lt_irrefl, eq_true hlt]
def s118 : SCode := (.seq (.ops [⟨(some 4), none, .mov (.const (.bool false))⟩]) (.seq (.seq (.ops [⟨(some 7), none, .mov (T 0)⟩, ⟨(some 8), none, .len (T 7)⟩, ⟨(some 9), none, .mov (.const (.int .i64 (0)))⟩]) (.block 0 (.loop (.seq (.ops [⟨(some 10), none, .int2 .lss (T 9) (T 8)⟩]) (.seq (.cond (T 10) .skip (.exit 0)) (.seq (.block 1 (.seq (.ops [⟨(some 11), none, .idxSl 1 (T 7) (T 9)⟩, ⟨(some 12), none, .load1 (T 11)⟩, ⟨(some 6), none, .mov (T 12)⟩]) (.seq (.ops [⟨(some 13), none, .mov (T 1)⟩, ⟨(some 14), none, .mov (T 6)⟩, ⟨(some 15), none, .call (T 13) [(T 14)]⟩, ⟨(some 16), none, .not (T 15)⟩]) (.cond (T 16) (.seq (.ops [⟨(some 4), none, .mov (.const (.bool false))⟩]) .ret) .skip)))) (.ops [⟨(some 17), none, .int2 .add (T 9) (.const (.int .i64 (1)))⟩, ⟨(some 9), none, .mov (T 17)⟩]))))))) (.seq (.ops [⟨(some 4), none, .mov (.const (.bool true))⟩]) .ret)))
theorem fok118 : FnOk Try.prog 118 18 s118 [.tmp 4] := ⟨Try.f118, _, Try.func118, rfl, Try.ntmps118, by kernel_rfl, by kernel_rfl⟩
open Classical in
theorem everyFn_c (hn : 100 ≤ n) (hr : h.next + 60 < far) {v ok : Value} {m : Nat} {a : Nat → Value} {p : Nat → Prop} (hv : Cells h v 1 m fun k _ => a k) (hm : m ≤ 30) (hok : Cond (n - 1) h.shutAll 40 ok m (fun i => a i) p) :
    call n (.func (.func 118) #[] #[]) [v, ok] h = some (.bool (decide (∀ i, i < m → p i)), h) := by
  obtain ⟨n, rfl⟩ : ∃ p, n = p + 1 := ⟨n - 1, by omega⟩
  refine call_plain0 fok118 rfl rfl (by simp) rfl ?_
  have hv := Cells.shut hv
  have hr : h.shutAll.next + 60 < far := hr
  have hfl : h.shutAll.floor ≤ h.shutAll.next := Nat.le_refl _
  rw [Nat.add_sub_cancel] at hok
  generalize h.shutAll = h at hv hok hr hfl
  simp only [rn0, rn1, rn2, rn3, rn4, rn5, rn6, rn7, rn8, if_true, if_false, Nat.le_refl, true_and, and_true, decide_true, decide_false, Bool.not_true, Bool.not_false, reduceIte, Nat.reduceEqDiff, Nat.reduceAdd, Nat.reduceMul, Nat.reduceSub, Nat.reduceLeDiff, Nat.reduceLT, s118, Cells.len hv]
  refine W_loop m (fun k f g m' => (Sub All h g ∧ g.next = h.next + 0 ∧ g.floor = h.floor) ∧ m' = [] ∧ f 1 = ok ∧ f 7 = v ∧ f 8 = .int .i64 (m : Int) ∧ f 9 = .int .i64 (k : Int) ∧ ∀ i, i < k → p i) (by simp; omega) ?_ ?_ ?_
  · simp only [rn0, rn1, rn2, rn3, rn4, rn5, rn6, rn7, rn8, if_true, if_false, Nat.le_refl, true_and, and_true, decide_true, decide_false, Bool.not_true, Bool.not_false, reduceIte, Nat.reduceEqDiff, Nat.reduceAdd, Nat.reduceMul, Nat.reduceSub, Nat.reduceLeDiff, Nat.reduceLT, Nat.not_lt_zero, false_implies, implies_true, Nat.add_zero]
    trivial
  · rintro k f g m' hk ⟨⟨g1, g2, g3⟩, rfl, f1, f7, f8, f9, hlt⟩
    have hk' : (k : Int) < (m : Int) := by omega
    have hw : wrapF .i64 ((k : Int) + 1) = ((k + 1 : Nat) : Int) := by rw [wrap_in (by omega) (by omega)]; rfl
    have hvg := Cells.mono hv g1
    obtain ⟨b, hb, e⟩ := hok g g1 (by omega) k hk
    have hin : (Sub All h g ∧ g.next = h.next + 0 ∧ g.floor = h.floor) = True := eq_true ⟨g1, g2, g3⟩
    have hldk : loadCell g (ptrO v 1 k 0) = some (a k) := Cells.ld hvg hk Nat.zero_lt_one
    cases b with
    | true =>
      have hp : p k := hb.1 rfl
      simp only [rn0, rn1, rn2, rn3, rn4, rn5, rn6, rn7, rn8, if_true, if_false, Nat.le_refl, true_and, and_true, decide_true, decide_false, Bool.not_true, Bool.not_false, reduceIte, Nat.reduceEqDiff, Nat.reduceAdd, Nat.reduceMul, Nat.reduceSub, Nat.reduceLeDiff, Nat.reduceLT, f1, f7, f8, f9, hk', Cells.idx hvg hk, hldk, e, hw, hin]
      intro j hj
      by_cases ej : j = k
      · subst ej; exact hp
      · exact hlt j (by omega)
    | false =>
      have hp : ¬ ∀ i, i < m → p i := fun h => by have := hb.2 (h k hk); cases this
      simp only [rn0, rn1, rn2, rn3, rn4, rn5, rn6, rn7, rn8, if_true, if_false, Nat.le_refl, true_and, and_true, decide_true, decide_false, Bool.not_true, Bool.not_false, reduceIte, Nat.reduceEqDiff, Nat.reduceAdd, Nat.reduceMul, Nat.reduceSub, Nat.reduceLeDiff, Nat.reduceLT, f1, f7, f8, f9, hk', Cells.idx hvg hk, hldk, e, hw, hp]
  · rintro f g m' ⟨⟨g1, g2, g3⟩, rfl, f1, f7, f8, f9, hlt⟩
    simp only [rn0, rn1, rn2, rn3, rn4, rn5, rn6, rn7, rn8, if_true, if_false, Nat.le_refl, true_and, and_true, decide_true, decide_false, Bool.not_true, Bool.not_false, reduceIte, Nat.reduceEqDiff, Nat.reduceAdd, Nat.reduceMul, Nat.reduceSub, Nat.reduceLeDiff, Nat.reduceLT, f1, f7, f8, f9, Int.lt_irrefl, eq_true hlt]
def s79 : SCode := (.seq (.ops [⟨(some 2), none, .box (T 0)⟩, ⟨(some 4), none, .mov (.const (.bool false))⟩]) (.seq (.ops [⟨(some 5), none, .mov (T 1)⟩, ⟨(some 6), none, .len (T 5)⟩, ⟨(some 7), none, .fieldAddr 0 (T 2)⟩, ⟨(some 8), none, .fieldAddr 2 (T 7)⟩, ⟨(some 9), none, .load1 (T 8)⟩, ⟨(some 10), none, .len (T 9)⟩, ⟨(some 11), none, .int2 .eql (T 6) (T 10)⟩, ⟨(some 12), none, .mov (T 11)⟩, ⟨(some 13), (some (12, true)), .mov (T 1)⟩, ⟨(some 14), (some (12, true)), .loadN 6 (T 2)⟩, ⟨(some 15), (some (12, true)), .mkfunc 90 [(T 14)] []⟩, ⟨(some 16), (some (12, true)), .call (.func 110) [(T 13), (T 15)]⟩, ⟨(some 17), none, .pick (T 12) (T 16) (.const (.bool false))⟩, ⟨(some 4), none, .mov (T 17)⟩]) .ret))
theorem fok79 : FnOk Try.prog 79 18 s79 [.tmp 4] := ⟨Try.f79, _, Try.func79, rfl, Try.ntmps79, by kernel_rfl, by kernel_rfl⟩
theorem isEnds_c (hn : 110 ≤ n) (hr : h.next + 100 < far) {vv sv tv lv : Value} {S : MB} {m : Nat} {a : Nat → Int} (hy : BeatR h vv sv S) (ht : oneCell tv = true) (hc : Ints h lv m a) (h30 : m ≤ 30) :
    call n (.func (.func 79) #[] #[]) [.agg ⟨wkL S vv sv tv⟩, lv] h = some (.bool (decide (Hours S m a)), h) := by
  obtain ⟨n, rfl⟩ : ∃ p, n = p + 1 := ⟨n - 1, by omega⟩
  refine call_plain0 fok79 rfl rfl (by simp) rfl ?_
  have hy := hy.shut
  have hc := Cells.shut hc
  have hr : h.shutAll.next + 100 < far := hr
  generalize h.shutAll = h at hy hc hr
  simp only [s79, W_seq, W_ops]
  refine ops_box (cs := wkL S vv sv tv) (by omega) rfl (wk_one hy ht) fun g1 hx => ?_
  have n1 := hx.next
  have hy1 := hy.mono hx.sub
  have hc1 : Ints g1 lv m a := Cells.mono hc hx.sub
  by_cases c1 : (m : Int) = (S.nv : Int)
  case neg =>
    have : ¬ Hours S m a := fun e => c1 (by rw [e.1])
    simp only [rn0, rn1, rn2, rn3, rn4, rn5, rn6, rn7, rn8, if_true, if_false, Nat.le_refl, true_and, and_true, decide_true, decide_false, Bool.not_true, Bool.not_false, reduceIte, Nat.reduceEqDiff, Nat.reduceAdd, Nat.reduceMul, Nat.reduceSub, Nat.reduceLeDiff, Nat.reduceLT, hx.ld, wkg, Nat.zero_add, Cells.len hc1, Cells.len hy1.v, c1, this]
  have he := everyInt_c (n := n) (h := g1) (p := fun i => 0 ≤ a i ∧ a i ≤ S.last) (ok := .func (.func 90) ⟨[.agg ⟨wkL S vv sv tv⟩]⟩ #[]) (by omega) (by omega) hc1 h30 fun g' hs hg i hi => ⟨decide (0 ≤ a i ∧ a i ≤ S.last), decide_eq_true_iff, hasHourB_c (by omega) (by have : g1.shutAll.next = g1.next := rfl; omega) (wk_one hy1 ht) (a i)⟩
  have hd : decide (Hours S m a) = @decide (∀ i, i < m → 0 ≤ a i ∧ a i ≤ S.last) (Classical.propDecidable _) := decide_eq_decide.2 ⟨fun e => e.2, fun e => ⟨by omega, e⟩⟩
  simp only [rn0, rn1, rn2, rn3, rn4, rn5, rn6, rn7, rn8, if_true, if_false, Nat.le_refl, true_and, and_true, decide_true, decide_false, Bool.not_true, Bool.not_false, reduceIte, Nat.reduceEqDiff, Nat.reduceAdd, Nat.reduceMul, Nat.reduceSub, Nat.reduceLeDiff, Nat.reduceLT, hx.ld, wkg, Nat.zero_add, Cells.len hc1, Cells.len hy1.v, decide_eq_true c1, hx.row.whole (n := 6) rfl, he, hd]
  exact congrArg Value.bool (decide_eq_decide.2 Iff.rfl)
def s84 : SCode := (.seq (.ops [⟨(some 1), none, .box (T 0)⟩, ⟨(some 2), none, .mov (.const (.int .i64 (0)))⟩]) (.seq (.ops [⟨(some 6), none, .fieldAddr 0 (T 1)⟩, ⟨(some 7), none, .fieldAddr 0 (T 6)⟩, ⟨(some 8), none, .loadN 2 (T 7)⟩, ⟨(some 9), none, .call (.func 117) [(T 8)]⟩, ⟨(some 3), none, .mov (T 9)⟩]) (.seq (.seq (.ops [⟨(some 10), none, .fieldAddr 0 (T 1)⟩, ⟨(some 11), none, .fieldAddr 2 (T 10)⟩, ⟨(some 12), none, .load1 (T 11)⟩, ⟨(some 13), none, .len (T 12)⟩, ⟨(some 14), none, .mov (.const (.int .i64 (0)))⟩]) (.block 0 (.loop (.seq (.ops [⟨(some 15), none, .int2 .lss (T 14) (T 13)⟩]) (.seq (.cond (T 15) .skip (.exit 0)) (.seq (.block 1 (.seq (.ops [⟨(some 16), none, .idxSl 4 (T 12) (T 14)⟩, ⟨(some 17), none, .loadN 4 (T 16)⟩, ⟨(some 5), none, .alloc [(.int .i64 (0)), (.int .i64 (0)), (.int .i64 (0)), (.int .i64 (0))]⟩, ⟨none, none, .store 4 (T 5) (T 17)⟩]) (.ops [⟨(some 18), none, .mov (T 3)⟩, ⟨(some 19), none, .fieldAddr 0 (T 5)⟩, ⟨(some 20), none, .loadN 2 (T 19)⟩, ⟨(some 21), none, .call (.func 117) [(T 20)]⟩, ⟨(some 22), none, .int2 .mul (T 18) (T 21)⟩, ⟨(some 3), none, .mov (T 22)⟩]))) (.ops [⟨(some 23), none, .int2 .add (T 14) (.const (.int .i64 (1)))⟩, ⟨(some 14), none, .mov (T 23)⟩]))))))) (.seq (.ops [⟨(some 24), none, .mov (T 3)⟩, ⟨(some 2), none, .mov (T 24)⟩]) .ret))))
theorem fok84 : FnOk Try.prog 84 25 s84 [.tmp 2] := ⟨Try.f84, _, Try.func84, rfl, Try.ntmps84, by kernel_rfl, by kernel_rfl⟩
theorem wsize_c (hn : 100 ≤ n) (hr : h.next + 60 < far) {vv sv tv : Value} {S : MB} (hy : BeatR h vv sv S) (ht : oneCell tv = true) (hA : ArgsOk S) (hl : S.nv ≤ 3) :
    call n (.func (.func 84) #[] #[]) [.agg ⟨wkL S vv sv tv⟩] h = some (.int .i64 (manyS S), h) := by
  obtain ⟨n, rfl⟩ : ∃ p, n = p + 1 := ⟨n - 1, by omega⟩
  refine call_plain0 fok84 rfl rfl (by simp) rfl ?_
  have hy := hy.shut
  have hr : h.shutAll.next + 60 < far := hr
  have hfl : h.shutAll.floor ≤ h.shutAll.next := Nat.le_refl _
  generalize h.shutAll = h at hy hr hfl
  obtain ⟨b1, b2, b3, b4⟩ := hA.head
  simp only [s84, W_seq, W_ops]
  refine ops_box (cs := wkL S vv sv tv) (by omega) rfl (wk_one hy ht) fun g1 hx => ?_
  have n1 := hx.next
  have f1' := hx.floor
  have hy1 := hy.mono hx.sub
  have es := rsize_ok (n := n) (h := g1) (by omega) (by omega) b2 b3 (by omega)
  simp only [rn0, rn1, rn2, rn3, rn4, rn5, rn6, rn7, rn8, if_true, if_false, Nat.le_refl, true_and, and_true, decide_true, decide_false, Bool.not_true, Bool.not_false, reduceIte, Nat.reduceEqDiff, Nat.reduceAdd, Nat.reduceMul, Nat.reduceSub, Nat.reduceLeDiff, Nat.reduceLT, wk_rng hx.row, hx.ld, wkg, Nat.zero_add, es, Cells.len hy1.v]
  refine W_loop S.nv (fun k f g m' => (Sub All g1 g ∧ g.next = g1.next + k ∧ g.floor = g1.floor) ∧ m' = [] ∧ f 3 = .int .i64 (sizeN (uLo S) (uHi S) (k + 1)) ∧ f 12 = vv ∧ f 13 = .int .i64 (S.nv : Int) ∧ f 14 = .int .i64 (k : Int)) (by simp; omega) ?_ ?_ ?_
  · have e0 : sizeN (uLo S) (uHi S) 1 = S.shi - S.slo + 1 := by simp [sizeN, uLo, uHi]
    simp only [rn0, rn1, rn2, rn3, rn4, rn5, rn6, rn7, rn8, if_true, if_false, Nat.le_refl, true_and, and_true, decide_true, decide_false, Bool.not_true, Bool.not_false, reduceIte, Nat.reduceEqDiff, Nat.reduceAdd, Nat.reduceMul, Nat.reduceSub, Nat.reduceLeDiff, Nat.reduceLT, Nat.add_zero, Nat.zero_add, e0]
    first | done | trivial
  · rintro k f g m' hk ⟨⟨q1, q2, q3⟩, rfl, f3, f12, f13, f14⟩
    have hk' : (k : Int) < (S.nv : Int) := by omega
    have hw : wrapF .i64 ((k : Int) + 1) = ((k + 1 : Nat) : Int) := by rw [wrap_in (by omega) (by omega)]; rfl
    have hyg := hy1.mono q1
    simp only [rn0, rn1, rn2, rn3, rn4, rn5, rn6, rn7, rn8, if_true, if_false, Nat.le_refl, true_and, and_true, decide_true, decide_false, Bool.not_true, Bool.not_false, reduceIte, Nat.reduceEqDiff, Nat.reduceAdd, Nat.reduceMul, Nat.reduceSub, Nat.reduceLeDiff, Nat.reduceLT, f3, f12, f13, f14, hk', Cells.idx hyg.v hk, vat_ld hyg hk]
    refine step_new (vs := vaL S k) (by omega) (by omega) rfl (by simp only [rn0, rn1, rn2, rn3, rn4, rn5, rn6, rn7, rn8, if_true, if_false, Nat.le_refl, true_and, and_true, decide_true, decide_false, Bool.not_true, Bool.not_false, reduceIte, Nat.reduceEqDiff, Nat.reduceAdd, Nat.reduceMul, Nat.reduceSub, Nat.reduceLeDiff, Nat.reduceLT]; rfl) rfl rfl rfl fun g' hg' => ?_
    have n' := hg'.next
    have hin : (Sub All g1 g' ∧ g'.next = g1.next + (k + 1) ∧ g'.floor = g1.floor) = True := eq_true ⟨q1.trans hg'.sub, by omega, by rw [hg'.floor, q3]⟩
    obtain ⟨⟨v1, v2, v3⟩, _⟩ := hA.vat k hk
    have es := rsize_ok (n := n) (h := g') (by omega) (by omega) v1 v2 (by omega)
    have e0 : loadAgg 2 g' (.pointer (some ⟨g.next, 0, none⟩)) = some (.agg ⟨[.int .i64 (S.nlo k), .int .i64 (S.nhi k)]⟩) := hg'.ldN 0 2 (by simp [vaL]) (by simp [vaL])
    have hb := size_bound hA hl (k + 1 + 1) (by unfold numU; omega)
    have hm : wrapF .i64 (sizeN (uLo S) (uHi S) (k + 1) * (S.nhi k - S.nlo k + 1)) = sizeN (uLo S) (uHi S) (k + 1 + 1) := by
      have : sizeN (uLo S) (uHi S) (k + 1 + 1) = sizeN (uLo S) (uHi S) (k + 1) * (S.nhi k - S.nlo k + 1) := by rw [sizeN, uLo_succ, uHi_succ]
      rw [← this]; exact wrap_in (by omega) (by omega)
    simp only [rn0, rn1, rn2, rn3, rn4, rn5, rn6, rn7, rn8, if_true, if_false, Nat.le_refl, true_and, and_true, decide_true, decide_false, Bool.not_true, Bool.not_false, reduceIte, Nat.reduceEqDiff, Nat.reduceAdd, Nat.reduceMul, Nat.reduceSub, Nat.reduceLeDiff, Nat.reduceLT, f3, f12, f13, f14, e0, es, hm, hw, hin]
  · rintro f g m' ⟨⟨q1, q2, q3⟩, rfl, f3, f12, f13, f14⟩
    have e : sizeN (uLo S) (uHi S) (S.nv + 1) = manyS S := rfl
    simp only [rn0, rn1, rn2, rn3, rn4, rn5, rn6, rn7, rn8, if_true, if_false, Nat.le_refl, true_and, and_true, decide_true, decide_false, Bool.not_true, Bool.not_false, reduceIte, Nat.reduceEqDiff, Nat.reduceAdd, Nat.reduceMul, Nat.reduceSub, Nat.reduceLeDiff, Nat.reduceLT, f3, f12, f13, f14, Int.lt_irrefl, e]
def s83 : SCode := (.seq (.ops [⟨(some 1), none, .box (T 0)⟩, ⟨(some 2), none, .mov (.const (.bool false))⟩]) (.seq (.ops [⟨(some 3), none, .fieldAddr 0 (T 1)⟩, ⟨(some 4), none, .fieldAddr 3 (T 3)⟩, ⟨(some 5), none, .load1 (T 4)⟩, ⟨(some 6), none, .int2 .leq (.const (.int .i64 (0))) (T 5)⟩, ⟨(some 7), none, .mov (T 6)⟩, ⟨(some 8), (some (7, true)), .fieldAddr 0 (T 1)⟩, ⟨(some 9), (some (7, true)), .fieldAddr 0 (T 8)⟩, ⟨(some 10), (some (7, true)), .loadN 2 (T 9)⟩, ⟨(some 11), (some (7, true)), .call (.func 113) [(T 10), (.const (.int .i64 (4)))]⟩, ⟨(some 12), none, .pick (T 7) (T 11) (.const (.bool false))⟩, ⟨(some 13), none, .mov (T 12)⟩, ⟨(some 14), (some (13, true)), .fieldAddr 0 (T 1)⟩, ⟨(some 15), (some (13, true)), .fieldAddr 2 (T 14)⟩, ⟨(some 16), (some (13, true)), .load1 (T 15)⟩, ⟨(some 17), (some (13, true)), .call (.func 114) [(T 16), (.func 115)]⟩, ⟨(some 18), none, .pick (T 13) (T 17) (.const (.bool false))⟩, ⟨(some 19), none, .mov (T 18)⟩, ⟨(some 20), (some (19, true)), .fieldAddr 0 (T 1)⟩, ⟨(some 21), (some (19, true)), .fieldAddr 4 (T 20)⟩, ⟨(some 22), (some (19, true)), .load1 (T 21)⟩, ⟨(some 23), (some (19, true)), .loadN 6 (T 1)⟩, ⟨(some 24), (some (19, true)), .mkfunc 116 [(T 23)] []⟩, ⟨(some 25), (some (19, true)), .call (.func 111) [(T 22), (T 24)]⟩, ⟨(some 26), none, .pick (T 19) (T 25) (.const (.bool false))⟩, ⟨(some 2), none, .mov (T 26)⟩]) .ret))
theorem fok83 : FnOk Try.prog 83 27 s83 [.tmp 2] := ⟨Try.f83, _, Try.func83, rfl, Try.ntmps83, by kernel_rfl, by kernel_rfl⟩
open Classical in
theorem isValid_c (hn : 110 ≤ n) (hr : h.next + 100 < far) {vv sv tv : Value} {S : MB} (hy : BeatR h vv sv S) (ht : oneCell tv = true) (h1 : S.nv ≤ 30) (h2 : S.ns ≤ 30) :
    call n (.func (.func 83) #[] #[]) [.agg ⟨wkL S vv sv tv⟩] h = some (.bool (decide (ArgsOk S)), h) := by
  obtain ⟨n, rfl⟩ : ∃ p, n = p + 1 := ⟨n - 1, by omega⟩
  refine call_plain0 fok83 rfl rfl (by simp) rfl ?_
  have hy := hy.shut
  have hr : h.shutAll.next + 100 < far := hr
  generalize h.shutAll = h at hy hr
  simp only [s83, W_seq, W_ops]
  refine ops_box (cs := wkL S vv sv tv) (by omega) rfl (wk_one hy ht) fun g1 hx => ?_
  have n1 := hx.next
  have hy1 := hy.mono hx.sub
  have hsn : g1.shutAll.next = g1.next := rfl
  by_cases c1 : 0 ≤ S.last
  case neg =>
    have : ¬ ArgsOk S := fun e => c1 e.head.1
    simp only [rn0, rn1, rn2, rn3, rn4, rn5, rn6, rn7, rn8, if_true, if_false, Nat.le_refl, true_and, and_true, decide_true, decide_false, Bool.not_true, Bool.not_false, reduceIte, Nat.reduceEqDiff, Nat.reduceAdd, Nat.reduceMul, Nat.reduceSub, Nat.reduceLeDiff, Nat.reduceLT, hx.ld, wkg, Nat.zero_add, c1, this]
  have e1 := isUpTo_c (n := n) (h := g1) (by omega) (by omega) S.slo S.shi 4
  by_cases c2 : 0 ≤ S.slo ∧ S.slo ≤ S.shi ∧ S.shi ≤ 4
  case neg =>
    have : ¬ ArgsOk S := fun e => c2 e.head.2
    simp only [rn0, rn1, rn2, rn3, rn4, rn5, rn6, rn7, rn8, if_true, if_false, Nat.le_refl, true_and, and_true, decide_true, decide_false, Bool.not_true, Bool.not_false, reduceIte, Nat.reduceEqDiff, Nat.reduceAdd, Nat.reduceMul, Nat.reduceSub, Nat.reduceLeDiff, Nat.reduceLT, hx.ld, wkg, Nat.zero_add, c1, wk_rng hx.row, e1, c2, this]
  have e2 := everyVat_c (n := n) (h := g1) (p := fun i => (0 ≤ S.nlo i ∧ S.nlo i ≤ S.nhi i ∧ S.nhi i ≤ 9) ∧ (0 ≤ S.ve i ∧ S.ve i ≤ 20) ∧ 0 ≤ S.vl i ∧ S.vl i ≤ 20) (ok := .func (.func 115) #[] #[]) (by omega) (by omega) hy1.v h1 fun g' hs hg i hi => isVat_c (by omega) (by omega) i
  by_cases c3 : ∀ i, i < S.nv → (0 ≤ S.nlo i ∧ S.nlo i ≤ S.nhi i ∧ S.nhi i ≤ 9) ∧ (0 ≤ S.ve i ∧ S.ve i ≤ 20) ∧ 0 ≤ S.vl i ∧ S.vl i ≤ 20
  case neg =>
    have : ¬ ArgsOk S := fun e => c3 e.vat
    simp only [rn0, rn1, rn2, rn3, rn4, rn5, rn6, rn7, rn8, if_true, if_false, Nat.le_refl, true_and, and_true, decide_true, decide_false, Bool.not_true, Bool.not_false, reduceIte, Nat.reduceEqDiff, Nat.reduceAdd, Nat.reduceMul, Nat.reduceSub, Nat.reduceLeDiff, Nat.reduceLT, hx.ld, wkg, Nat.zero_add, c1, wk_rng hx.row, e1, c2, and_self, e2, eq_false c3, this]
  have e3 := everySamp_c (n := n) (h := g1) (p := fun i => (0 ≤ S.sv i ∧ S.sv i ≤ (S.nv : Int) - 1) ∧ 0 ≤ S.sh i ∧ S.sh i ≤ S.last) (ok := .func (.func 116) ⟨[.agg ⟨wkL S vv sv tv⟩]⟩ #[]) (by omega) (by omega) hy1.s h2 fun g' hs hg i hi => isSamp_c (by omega) (by omega) (hy1.shut.mono hs) ht i
  by_cases c4 : ∀ i, i < S.ns → (0 ≤ S.sv i ∧ S.sv i ≤ (S.nv : Int) - 1) ∧ 0 ≤ S.sh i ∧ S.sh i ≤ S.last
  case neg =>
    have : ¬ ArgsOk S := fun e => c4 e.samp
    simp only [rn0, rn1, rn2, rn3, rn4, rn5, rn6, rn7, rn8, if_true, if_false, Nat.le_refl, true_and, and_true, decide_true, decide_false, Bool.not_true, Bool.not_false, reduceIte, Nat.reduceEqDiff, Nat.reduceAdd, Nat.reduceMul, Nat.reduceSub, Nat.reduceLeDiff, Nat.reduceLT, hx.ld, wkg, Nat.zero_add, c1, wk_rng hx.row, e1, c2, and_self, e2, eq_true c3, hx.row.whole (n := 6) rfl, e3, eq_false c4, this]
  have : ArgsOk S := ⟨⟨c1, c2⟩, c3, c4⟩
  simp only [rn0, rn1, rn2, rn3, rn4, rn5, rn6, rn7, rn8, if_true, if_false, Nat.le_refl, true_and, and_true, decide_true, decide_false, Bool.not_true, Bool.not_false, reduceIte, Nat.reduceEqDiff, Nat.reduceAdd, Nat.reduceMul, Nat.reduceSub, Nat.reduceLeDiff, Nat.reduceLT, hx.ld, wkg, Nat.zero_add, c1, wk_rng hx.row, e1, c2, and_self, e2, eq_true c3, hx.row.whole (n := 6) rfl, e3, eq_true c4, this]
theorem build_wk {a b v l s : Value} : buildA (fun x => (#[(0, 5), (5, 1)] : Array (Nat × Nat))[x]?) ⟨[.int .i64 0, .int .i64 0, .slice none 0 0, .int .i64 0, .slice none 0 0, .slice none 0 0]⟩ [0] h [.agg ⟨[a, b, v, l, s]⟩] = some (.agg ⟨[a, b, v, l, s, .slice none 0 0]⟩, h) := by
  unfold buildA
  have e : Instr.fill (fun x => (#[(0, 5), (5, 1)] : Array (Nat × Nat))[x]?) #[.int .i64 0, .int .i64 0, .slice none 0 0, .int .i64 0, .slice none 0 0, .slice none 0 0] ([0].zip [.agg ⟨[a, b, v, l, s]⟩]) = some #[a, b, v, l, s, .slice none 0 0] := by
    simp [Instr.fill, Value.cells]
  rw [e]
theorem build_wkB {S : MB} {vv sv : Value} : buildA (fun x => (#[(0, 5), (5, 1)] : Array (Nat × Nat))[x]?) ⟨[.int .i64 0, .int .i64 0, .slice none 0 0, .int .i64 0, .slice none 0 0, .slice none 0 0]⟩ [0] h [.agg ⟨beL S vv sv⟩] = some (.agg ⟨wkL S vv sv nilS⟩, h) := build_wk
def s31 : SCode := (.seq (.ops [⟨(some 1), none, .box (T 0)⟩, ⟨(some 2), none, .mov (.const (.int .i64 (0)))⟩]) (.seq (.ops [⟨(some 4), none, .loadN 5 (T 1)⟩, ⟨(some 5), none, .build #[(0, 5), (5, 1)] [(.int .i64 (0)), (.int .i64 (0)), (.slice none 0 0), (.int .i64 (0)), (.slice none 0 0), (.slice none 0 0)] [0] [(T 4)]⟩, ⟨(some 3), none, .alloc [(.int .i64 (0)), (.int .i64 (0)), (.slice none 0 0), (.int .i64 (0)), (.slice none 0 0), (.slice none 0 0)]⟩, ⟨none, none, .store 6 (T 3) (T 5)⟩]) (.seq (.block 0 (.seq (.ops [⟨(some 7), none, .fieldAddr 3 (T 1)⟩, ⟨(some 8), none, .load1 (T 7)⟩, ⟨(some 9), none, .int2 .gtr (T 8) (.const (.int .i64 (9)))⟩, ⟨(some 10), none, .mov (T 9)⟩, ⟨(some 11), (some (10, false)), .fieldAddr 2 (T 1)⟩, ⟨(some 12), (some (10, false)), .load1 (T 11)⟩, ⟨(some 13), (some (10, false)), .len (T 12)⟩, ⟨(some 14), (some (10, false)), .int2 .gtr (T 13) (.const (.int .i64 (3)))⟩, ⟨(some 15), none, .pick (T 10) (.const (.bool true)) (T 14)⟩, ⟨(some 16), none, .mov (T 15)⟩, ⟨(some 17), (some (16, false)), .fieldAddr 4 (T 1)⟩, ⟨(some 18), (some (16, false)), .load1 (T 17)⟩, ⟨(some 19), (some (16, false)), .len (T 18)⟩, ⟨(some 20), (some (16, false)), .int2 .gtr (T 19) (.const (.int .i64 (5)))⟩, ⟨(some 21), none, .pick (T 16) (.const (.bool true)) (T 20)⟩, ⟨(some 6), none, .mov (T 21)⟩]) (.cond (T 6) (.seq (.ops [⟨(some 2), none, .mov (.const (.int .i64 (3)))⟩]) .ret) (.seq (.ops [⟨(some 23), none, .loadN 6 (T 3)⟩, ⟨(some 24), none, .call (.func 83) [(T 23)]⟩, ⟨(some 25), none, .not (T 24)⟩, ⟨(some 22), none, .mov (T 25)⟩]) (.cond (T 22) (.seq (.ops [⟨(some 2), none, .mov (.const (.int .i64 (1)))⟩]) .ret) (.seq (.ops [⟨(some 27), none, .loadN 6 (T 3)⟩, ⟨(some 28), none, .call (.func 84) [(T 27)]⟩, ⟨(some 29), none, .int2 .gtr (T 28) (.const (.int .i64 (200)))⟩, ⟨(some 26), none, .mov (T 29)⟩]) (.cond (T 26) (.seq (.ops [⟨(some 2), none, .mov (.const (.int .i64 (3)))⟩]) .ret) .skip))))))) (.seq (.ops [⟨(some 2), none, .mov (.const (.int .i64 (0)))⟩]) .ret))))
theorem fok31 : FnOk Try.prog 31 30 s31 [.tmp 2] := ⟨Try.f31, _, Try.func31, rfl, Try.ntmps31, by kernel_rfl, by kernel_rfl⟩
theorem check_c (hn : 120 ≤ n) (hr : h.next + 200 < far) {vv sv : Value} {S : MB} (hy : BeatR h vv sv S) (hT : ThinS S) :
    call n (.func (.func 31) #[] #[]) [.agg ⟨beL S vv sv⟩] h = some (.int .i64 (faultS S), h) := by
  obtain ⟨n, rfl⟩ : ∃ p, n = p + 1 := ⟨n - 1, by omega⟩
  refine call_plain0 fok31 rfl rfl (by simp) rfl ?_
  have hy := hy.shut
  have hr : h.shutAll.next + 200 < far := hr
  have hfl : h.shutAll.floor ≤ h.shutAll.next := Nat.le_refl _
  generalize h.shutAll = h at hy hr hfl
  simp only [s31, W_seq, W_ops]
  refine ops_box (cs := beL S vv sv) (by omega) rfl hy.one fun g1 hx => ?_
  have n1 := hx.next
  have f1' := hx.floor
  simp only [rn0, rn1, rn2, rn3, rn4, rn5, rn6, rn7, rn8, if_true, if_false, Nat.le_refl, true_and, and_true, decide_true, decide_false, Bool.not_true, Bool.not_false, reduceIte, Nat.reduceEqDiff, Nat.reduceAdd, Nat.reduceMul, Nat.reduceSub, Nat.reduceLeDiff, Nat.reduceLT, hx.row.whole (n := 5) rfl, build_wkB]
  refine step_new (vs := wkL S vv sv nilS) (by omega) (by omega) rfl (by simp only [rn0, rn1, rn2, rn3, rn4, rn5, rn6, rn7, rn8, if_true, if_false, Nat.le_refl, true_and, and_true, decide_true, decide_false, Bool.not_true, Bool.not_false, reduceIte, Nat.reduceEqDiff, Nat.reduceAdd, Nat.reduceMul, Nat.reduceSub, Nat.reduceLeDiff, Nat.reduceLT]; rfl) (wk_one hy rfl) rfl rfl fun g2 hx2 => ?_
  have n2 := hx2.next
  have r1 := hx.row.mono hx2.sub
  have hy2 := (hy.mono hx.sub).mono hx2.sub
  have w2 := hx2.row.whole (n := 6) rfl
  have e3 : ¬ LimOk S → faultS S = 3 := fun e => by unfold faultS; rw [if_pos e]
  by_cases c1 : 9 < S.last
  · have := e3 fun e => by have := e.1; omega
    simp only [rn0, rn1, rn2, rn3, rn4, rn5, rn6, rn7, rn8, if_true, if_false, Nat.le_refl, true_and, and_true, decide_true, decide_false, Bool.not_true, Bool.not_false, reduceIte, Nat.reduceEqDiff, Nat.reduceAdd, Nat.reduceMul, Nat.reduceSub, Nat.reduceLeDiff, Nat.reduceLT, r1.ld, beg, Nat.zero_add, c1, this]
  by_cases c2 : (3 : Int) < (S.nv : Int)
  · have := e3 fun e => by have := e.2.1; omega
    simp only [rn0, rn1, rn2, rn3, rn4, rn5, rn6, rn7, rn8, if_true, if_false, Nat.le_refl, true_and, and_true, decide_true, decide_false, Bool.not_true, Bool.not_false, reduceIte, Nat.reduceEqDiff, Nat.reduceAdd, Nat.reduceMul, Nat.reduceSub, Nat.reduceLeDiff, Nat.reduceLT, r1.ld, beg, Nat.zero_add, c1, Cells.len hy2.v, c2, this]
  by_cases c3 : (5 : Int) < (S.ns : Int)
  · have := e3 fun e => by have := e.2.2; omega
    simp only [rn0, rn1, rn2, rn3, rn4, rn5, rn6, rn7, rn8, if_true, if_false, Nat.le_refl, true_and, and_true, decide_true, decide_false, Bool.not_true, Bool.not_false, reduceIte, Nat.reduceEqDiff, Nat.reduceAdd, Nat.reduceMul, Nat.reduceSub, Nat.reduceLeDiff, Nat.reduceLT, r1.ld, beg, Nat.zero_add, c1, Cells.len hy2.v, c2, Cells.len hy2.s, c3, this]
  have hL : LimOk S := ⟨by omega, by omega, by omega⟩
  have ev := isValid_c (n := n) (h := g2) (by omega) (by omega) hy2 (tv := nilS) rfl hT.1 hT.2
  by_cases hA : ArgsOk S
  case neg =>
    have hF : faultS S = 1 := by unfold faultS; rw [if_neg (by simpa using hL), if_pos hA]
    simp only [rn0, rn1, rn2, rn3, rn4, rn5, rn6, rn7, rn8, if_true, if_false, Nat.le_refl, true_and, and_true, decide_true, decide_false, Bool.not_true, Bool.not_false, reduceIte, Nat.reduceEqDiff, Nat.reduceAdd, Nat.reduceMul, Nat.reduceSub, Nat.reduceLeDiff, Nat.reduceLT, r1.ld, beg, Nat.zero_add, c1, Cells.len hy2.v, c2, Cells.len hy2.s, c3, w2, ev, hA, hF]
  have ez := wsize_c (n := n) (h := g2) (by omega) (by omega) hy2 (tv := nilS) rfl hA hL.2.1
  have hF : faultS S = if 200 < manyS S then 3 else 0 := by unfold faultS; rw [if_neg (by simpa using hL), if_neg (by simpa using hA)]
  by_cases hm : 200 < manyS S
  · rw [if_pos hm] at hF
    simp only [rn0, rn1, rn2, rn3, rn4, rn5, rn6, rn7, rn8, if_true, if_false, Nat.le_refl, true_and, and_true, decide_true, decide_false, Bool.not_true, Bool.not_false, reduceIte, Nat.reduceEqDiff, Nat.reduceAdd, Nat.reduceMul, Nat.reduceSub, Nat.reduceLeDiff, Nat.reduceLT, r1.ld, beg, Nat.zero_add, c1, Cells.len hy2.v, c2, Cells.len hy2.s, c3, w2, ev, hA, ez, hm, hF]
  · rw [if_neg hm] at hF
    simp only [rn0, rn1, rn2, rn3, rn4, rn5, rn6, rn7, rn8, if_true, if_false, Nat.le_refl, true_and, and_true, decide_true, decide_false, Bool.not_true, Bool.not_false, reduceIte, Nat.reduceEqDiff, Nat.reduceAdd, Nat.reduceMul, Nat.reduceSub, Nat.reduceLeDiff, Nat.reduceLT, r1.ld, beg, Nat.zero_add, c1, Cells.len hy2.v, c2, Cells.len hy2.s, c3, w2, ev, hA, ez, hm, hF]
end Go.Vm.Bt
