/- Texts of the proofs of this seat, put together: VatWiderP, VatWiderL, VatBounds3, VatBundleP, VatTurnedP, VatOneMoreL, VatAskedL. -/
import Derived.Test.YtnibceeoejeimaaPk6

namespace Go.Vm.Vat
open Go.Proofs
set_option linter.unusedSimpArgs false
set_option linter.unusedVariables false
set_option maxRecDepth 10000
variable {n : Nat} {h : AHeap}
/-! ### A yard of which another one is a wider one -/
structure Wid (Y X : MY) : Prop where
  nf : Y.nf = X.nf
  nv : Y.nv = X.nv
  q : Y.q = X.q
  ns : Y.ns = X.ns
  lo : ∀ k, k < Y.nf → X.lo k ≤ Y.lo k ∧ Y.hi k ≤ X.hi k
  right : ∀ c k, k < Y.ns → RightB Y c k → RightB X c k
theorem Wid.truth {Y X : MY} (hw : Wid Y X) {t : Nat → Int} (h : t ∈ truths Y) : t ∈ truths X := by
  rw [truths_mem] at h ⊢
  obtain ⟨⟨h1, h2⟩, h3⟩ := h
  have e := hw.nf
  have e2 := hw.ns
  refine ⟨⟨fun j hj => ?_, fun j hj => h2 j (by omega)⟩, fun k hk => hw.right t k (by omega) (h3 k (by omega))⟩
  have h4 := h1 j (by omega)
  have h5 := hw.lo j (by omega)
  omega
/-- what a slice holds, as a list -/
def flatL (s m : Nat) (c : Nat → Nat → Value) : List Value := (List.range (m * s)).map fun i => c (i / s) (i % s)
theorem flatL_len {s m : Nat} {c : Nat → Nat → Value} : (flatL s m c).length = m * s := by simp [flatL]
theorem flatL_get {s m k j : Nat} {c : Nat → Nat → Value} (hk : k < m) (hj : j < s) : (flatL s m c)[k * s + j]? = some (c k j) := by
  have hlt : k * s + j < m * s := by
    have : (k + 1) * s ≤ m * s := Nat.mul_le_mul_right s hk
    rw [Nat.add_mul] at this
    omega
  unfold flatL
  rw [List.getElem?_map, List.getElem?_range hlt, Option.map_some, Nat.mul_comm k s, Nat.mul_add_div (by omega), Nat.div_eq_of_lt hj, Nat.mul_add_mod, Nat.mod_eq_of_lt hj, Nat.add_zero]
theorem Cells.list {v : Value} {s m : Nat} {c : Nat → Nat → Value} (hs : 0 < s) (hi : Cells h v s m c) : ∃ x k, v = .slice x m k ∧ cellsOfSlice h s v = some (flatL s m c) := by
  obtain ⟨x, cap, rfl, _, h0 | ⟨b, o, cs, w, gr, rfl, h1, h2⟩⟩ := hi
  · subst h0
    refine ⟨x, cap, rfl, ?_⟩
    cases x <;> simp [cellsOfSlice, flatL]
  · refine ⟨_, cap, rfl, ?_⟩
    by_cases hm : m = 0
    · subst hm; simp [cellsOfSlice, flatL]
    have hb : Nat.beq m 0 = false := by
      cases hb : Nat.beq m 0 with
      | false => rfl
      | true => exact absurd (beq_iff.1 hb) hm
    show (bif Nat.beq m 0 then some [] else match h.get b with
      | some (.row cs _ _) => dropK cs o fun r => takeK r (m * s) fun l => some l
      | _ => none) = _
    have hl := (List.getElem?_eq_some_iff.1 (h2 (m - 1) (s - 1) (by omega) (by omega))).1
    have hms : (m - 1) * s + s = m * s := by
      obtain ⟨p, rfl⟩ : ∃ p, m = p + 1 := ⟨m - 1, by omega⟩
      rw [Nat.add_sub_cancel, Nat.add_mul, Nat.one_mul]
    rw [hb, cond_false, h1]
    simp only [dropK_eq, takeK_eq]
    rw [if_pos (by omega), if_pos (by rw [List.length_drop]; omega)]
    congr 1
    apply List.ext_getElem?
    intro i
    simp only [List.getElem?_take, List.getElem?_drop]
    by_cases hi : i < m * s
    · rw [if_pos hi]
      have hd : i / s < m := (Nat.div_lt_iff_lt_mul hs).2 hi
      have hr : i % s < s := Nat.mod_lt _ hs
      have e : i / s * s + i % s = i := by have := Nat.div_add_mod i s; rw [Nat.mul_comm] at this; exact this
      have h3 := h2 (i / s) (i % s) hd hr
      have h4 := flatL_get (c := c) hd hr
      rw [e] at h4
      rw [h4, ← h3]
      congr 1
      omega
    · rw [if_neg hi, List.getElem?_eq_none (by rw [flatL_len]; omega)]
theorem cells_sub {g : AHeap} {v : Value} {s m : Nat} {c : Nat → Nat → Value} (hsub : Sub All h g) (hc : Cells h v s m c) (hs : 0 < s) {l : List Value} (hl : cellsOfSlice h s v = some l) : cellsOfSlice g s v = some l := by
  obtain ⟨x, k, e, h1⟩ := Cells.list hs hc
  obtain ⟨x', k', e', h2⟩ := Cells.list hs (hc.mono hsub)
  rw [h1] at hl
  rw [h2, hl]
theorem flatL_one {s m : Nat} {c : Nat → Nat → Int} : allB oneCell (flatL s m fun k j => .int .i64 (c k j)) = true := by rw [allB_iff]; intro v hv; obtain ⟨i, _, rfl⟩ := List.mem_map.1 hv; rfl
end Go.Vm.Vat

namespace Go.Vm.Vat
open Go.Proofs
set_option linter.unusedSimpArgs false
set_option linter.unusedVariables false
set_option maxRecDepth 10000
variable {n : Nat} {h : AHeap}
theorem build_none3 {a b c : Value} : buildSl 3 0 [a, b, c] [] h [] = newSlice h [] 0 0 0 := id rfl
theorem cells_row {b s m cap : Nat} {cs : List Value} {c : Nat → Nat → Value} (hr : Row h b cs) (hc : ∀ k j, k < m → j < s → cs[k * s + j]? = some (c k j)) : Cells h (.slice (some ⟨b, 0, none⟩) m cap) s m c := by
  obtain ⟨w, gr, e⟩ := hr
  exact ⟨_, _, rfl, fun x e => by cases e; rfl, .inr ⟨b, 0, _, _, _, rfl, e, fun k j hk hj => by rw [Nat.zero_add]; exact hc k j hk hj⟩⟩
end Go.Vm.Vat

namespace Go.Vm.Vat
open Go.Proofs
set_option linter.unusedSimpArgs false
set_option linter.unusedVariables false
set_option maxRecDepth 10000
variable {n : Nat} {h : AHeap}
def s4 : SCode := (.seq (.ops [⟨(some 1), none, .box (T 0)⟩, ⟨(some 2), none, .mov (.const (.bool false))⟩]) (.seq (.seq (.ops [⟨(some 11), none, .loadN 3 (T 1)⟩, ⟨(some 12), none, .call (.func 23) [(T 11)]⟩, ⟨(some 13), none, .not (T 12)⟩]) (.cond (T 13) (.seq (.ops [⟨(some 14), none, .call (.func 24) []⟩, ⟨(some 2), none, .mov (T 14)⟩]) .ret) .skip)) (.seq (.ops [⟨(some 16), none, .loadN 3 (T 1)⟩, ⟨(some 17), none, .call (.func 26) [(T 16)]⟩, ⟨(some 18), none, .call (.func 34) [(T 17)]⟩, ⟨(some 15), none, .mov (T 18)⟩, ⟨(some 19), none, .extract 0 (T 15)⟩, ⟨(some 20), none, .extract 1 (T 15)⟩, ⟨(some 3), none, .mov (T 19)⟩, ⟨(some 4), none, .mov (T 20)⟩]) (.seq (.ops [⟨(some 22), none, .loadN 3 (T 1)⟩, ⟨(some 23), none, .call (.func 26) [(T 22)]⟩, ⟨(some 24), none, .call (.func 35) [(T 23)]⟩, ⟨(some 21), none, .mov (T 24)⟩, ⟨(some 25), none, .extract 0 (T 21)⟩, ⟨(some 26), none, .extract 1 (T 21)⟩, ⟨(some 5), none, .mov (T 25)⟩, ⟨(some 6), none, .mov (T 26)⟩]) (.seq (.ops [⟨(some 28), none, .loadN 3 (T 1)⟩, ⟨(some 29), none, .call (.func 36) [(T 28)]⟩, ⟨(some 27), none, .mov (T 29)⟩, ⟨(some 30), none, .extract 0 (T 27)⟩, ⟨(some 31), none, .extract 1 (T 27)⟩, ⟨(some 7), none, .mov (T 30)⟩, ⟨(some 8), none, .mov (T 31)⟩]) (.seq (.seq (.ops [⟨(some 32), none, .mov (T 8)⟩, ⟨(some 33), none, .int2 .neq (T 32) (.const (.int .i64 (0)))⟩]) (.cond (T 33) (.seq (.ops [⟨(some 34), none, .mov (T 4)⟩, ⟨(some 35), none, .mov (T 8)⟩, ⟨(some 36), none, .int2 .eql (T 34) (T 35)⟩, ⟨(some 37), none, .mov (T 36)⟩, ⟨(some 38), (some (37, true)), .mov (T 6)⟩, ⟨(some 39), (some (37, true)), .mov (T 8)⟩, ⟨(some 40), (some (37, true)), .int2 .eql (T 38) (T 39)⟩, ⟨(some 41), none, .pick (T 37) (T 40) (.const (.bool false))⟩, ⟨(some 42), none, .mov (T 41)⟩, ⟨(some 43), (some (42, true)), .mov (T 3)⟩, ⟨(some 44), (some (42, true)), .len (T 43)⟩, ⟨(some 45), (some (42, true)), .mov (T 5)⟩, ⟨(some 46), (some (42, true)), .len (T 45)⟩, ⟨(some 47), (some (42, true)), .int2 .add (T 44) (T 46)⟩, ⟨(some 48), (some (42, true)), .int2 .eql (T 47) (.const (.int .i64 (0)))⟩, ⟨(some 49), none, .pick (T 42) (T 48) (.const (.bool false))⟩, ⟨(some 50), none, .mov (T 49)⟩, ⟨(some 51), (some (50, true)), .call (.func 24) []⟩, ⟨(some 52), none, .pick (T 50) (T 51) (.const (.bool false))⟩, ⟨(some 2), none, .mov (T 52)⟩]) .ret) .skip)) (.seq (.seq (.ops [⟨(some 53), none, .mov (T 4)⟩, ⟨(some 54), none, .int2 .neq (T 53) (.const (.int .i64 (0)))⟩, ⟨(some 55), none, .mov (T 54)⟩, ⟨(some 56), (some (55, false)), .mov (T 6)⟩, ⟨(some 57), (some (55, false)), .int2 .neq (T 56) (.const (.int .i64 (0)))⟩, ⟨(some 58), none, .pick (T 55) (.const (.bool true)) (T 57)⟩, ⟨(some 59), none, .mov (T 58)⟩, ⟨(some 60), (some (59, false)), .mov (T 3)⟩, ⟨(some 61), (some (59, false)), .len (T 60)⟩, ⟨(some 62), (some (59, false)), .fieldAddr 1 (T 1)⟩, ⟨(some 63), (some (59, false)), .load1 (T 62)⟩, ⟨(some 64), (some (59, false)), .len (T 63)⟩, ⟨(some 65), (some (59, false)), .int2 .neq (T 61) (T 64)⟩, ⟨(some 66), none, .pick (T 59) (.const (.bool true)) (T 65)⟩, ⟨(some 67), none, .mov (T 66)⟩, ⟨(some 68), (some (67, false)), .mov (T 5)⟩, ⟨(some 69), (some (67, false)), .len (T 68)⟩, ⟨(some 70), (some (67, false)), .fieldAddr 0 (T 1)⟩, ⟨(some 71), (some (67, false)), .load1 (T 70)⟩, ⟨(some 72), (some (67, false)), .len (T 71)⟩, ⟨(some 73), (some (67, false)), .int2 .neq (T 69) (T 72)⟩, ⟨(some 74), none, .pick (T 67) (.const (.bool true)) (T 73)⟩]) (.cond (T 74) (.seq (.ops [⟨(some 2), none, .mov (.const (.bool false))⟩]) .ret) .skip)) (.seq (.seq (.ops [⟨(some 9), none, .mov (.const (.int .i64 (0)))⟩]) (.block 0 (.loop (.seq (.seq (.ops [⟨(some 75), none, .mov (T 9)⟩, ⟨(some 76), none, .mov (T 3)⟩, ⟨(some 77), none, .len (T 76)⟩, ⟨(some 78), none, .int2 .lss (T 75) (T 77)⟩]) (.cond (T 78) .skip (.exit 0))) (.seq (.block 1 (.seq (.draw [⟨.free, ⟨(some 81), none, .mov (T 3)⟩⟩, ⟨.free, ⟨(some 82), none, .mov (T 9)⟩⟩, ⟨.free, ⟨(some 83), none, .idxSl 2 (T 81) (T 82)⟩⟩, ⟨.rd, ⟨(some 84), none, .loadN 2 (T 83)⟩⟩, ⟨.rd1, ⟨(some 85), none, .loadN 3 (T 1)⟩⟩, ⟨.free, ⟨(some 86), none, .mov (T 7)⟩⟩, ⟨.free, ⟨(some 87), none, .mov (T 9)⟩⟩, ⟨.up, ⟨(some 88), none, .call (.func 38) [(T 85), (T 86), (T 87)]⟩⟩, ⟨.up, ⟨(some 89), none, .call (.func 37) [(T 88)]⟩⟩, ⟨.free, ⟨(some 90), none, .bin .neq (.binOp .neq 49 (T 84) (T 89) 49) 4 (T 84) (T 89)⟩⟩]) (.cond (T 90) (.seq (.ops [⟨(some 2), none, .mov (.const (.bool false))⟩]) .ret) .skip))) (.ops [⟨(some 79), none, .mov (T 9)⟩, ⟨(some 80), none, .int2 .add (T 79) (.const (.int .i64 (1)))⟩, ⟨(some 9), none, .mov (T 80)⟩])))))) (.seq (.seq (.ops [⟨(some 10), none, .mov (.const (.int .i64 (0)))⟩]) (.block 2 (.loop (.seq (.seq (.ops [⟨(some 91), none, .mov (T 10)⟩, ⟨(some 92), none, .mov (T 5)⟩, ⟨(some 93), none, .len (T 92)⟩, ⟨(some 94), none, .int2 .lss (T 91) (T 93)⟩]) (.cond (T 94) .skip (.exit 2))) (.seq (.block 3 (.seq (.draw [⟨.free, ⟨(some 97), none, .mov (T 5)⟩⟩, ⟨.free, ⟨(some 98), none, .mov (T 10)⟩⟩, ⟨.free, ⟨(some 99), none, .idxSl 2 (T 97) (T 98)⟩⟩, ⟨.rd, ⟨(some 100), none, .loadN 2 (T 99)⟩⟩, ⟨.free, ⟨(some 101), none, .mov (T 7)⟩⟩, ⟨.free, ⟨(some 102), none, .mov (T 10)⟩⟩, ⟨.up, ⟨(some 103), none, .call (.func 39) [(T 101), (T 102)]⟩⟩, ⟨.up, ⟨(some 104), none, .call (.func 37) [(T 103)]⟩⟩, ⟨.free, ⟨(some 105), none, .bin .neq (.binOp .neq 49 (T 100) (T 104) 49) 4 (T 100) (T 104)⟩⟩]) (.cond (T 105) (.seq (.ops [⟨(some 2), none, .mov (.const (.bool false))⟩]) .ret) .skip))) (.ops [⟨(some 95), none, .mov (T 10)⟩, ⟨(some 96), none, .int2 .add (T 95) (.const (.int .i64 (1)))⟩, ⟨(some 10), none, .mov (T 96)⟩])))))) (.seq (.ops [⟨(some 106), none, .call (.func 24) []⟩, ⟨(some 2), none, .mov (T 106)⟩]) .ret))))))))))
end Go.Vm.Vat

namespace Go.Vm.Vat
open Go.Proofs
set_option linter.unusedSimpArgs false
set_option linter.unusedVariables false
set_option maxRecDepth 10000
variable {n : Nat} {h : AHeap}
/-- n own lists of m numbers each -/
def DRows (B : Nat) (h : AHeap) (v : Value) (n m : Nat) (q : Nat → Nat → Int) : Prop :=
  ∃ bk : Nat → Nat, GrowC B h v 1 n (fun k _ => .slice (some ⟨bk k, 0, none⟩) m unk) ∧ ∀ k, k < n → h.get (bk k) = some (.row (rowI m (q k)) true 1) ∧ B ≤ bk k ∧ bk k < h.next ∧ (∀ b c d, v = .slice (some b) c d → bk k ≠ b.block) ∧ ∀ j, j < n → j ≠ k → bk j ≠ bk k
theorem DRows.nil {B m : Nat} {q : Nat → Nat → Int} : DRows B h nilS 0 m q := ⟨fun _ => 0, .nil, fun k hk => by omega⟩
theorem DRows.rows {B n m : Nat} {v : Value} {q : Nat → Nat → Int} (hd : DRows B h v n m q) : Rows h v n (fun _ => m) q := by
  obtain ⟨bk, h1, h2⟩ := hd
  exact ⟨_, h1.cells, fun k hk => rowI_ints (w := 0) ⟨_, _, (h2 k hk).1⟩⟩
theorem DRows.keep {B o n m : Nat} {g : AHeap} {v : Value} {q : Nat → Nat → Int} (hd : DRows B h v n m q) (hk : Keep o h g) (ho : o < B) : DRows B g v n m q := by
  obtain ⟨bk, h1, h2⟩ := hd
  refine ⟨bk, h1.keep hk ho, fun k hkn => ?_⟩
  obtain ⟨a1, a2, a3, a4, a5⟩ := h2 k hkn
  exact ⟨hk.sub _ _ _ _ (by omega) a1, a2, Nat.lt_of_lt_of_le a3 hk.up, a4, a5⟩
theorem DRows.sub {B n m : Nat} {g : AHeap} {v : Value} {q : Nat → Nat → Int} (hd : DRows B h v n m q) (hs : Sub All h g) (hup : h.next ≤ g.next) : DRows B g v n m q := by
  obtain ⟨bk, h1, h2⟩ := hd
  refine ⟨bk, h1.sub hs, fun k hkn => ?_⟩
  obtain ⟨a1, a2, a3, a4, a5⟩ := h2 k hkn
  exact ⟨hs _ _ _ _ trivial a1, a2, Nat.lt_of_lt_of_le a3 hup, a4, a5⟩
theorem DRows.push {B n m b : Nat} {g h1 : AHeap} {v : Value} {q : Nat → Nat → Int} (hd : DRows B g v n m q) (hs : Sub All g h) (hup : g.next ≤ h.next) (hbg : g.next ≤ b) (hB : h.floor ≤ B) (hf : h.next + 2 < far) (hBn : B ≤ g.next) (hl : h.get b = some (.row (rowI m (q n)) true 1)) (hb : b < h.next) (hx : New h h1 [.slice (some ⟨b, 0, none⟩) m unk] 0) (hn : n + 1 ≤ 1000) :
    ∃ v' g', appendA 1 24 h1 v (.slice (some ⟨h.next, 0, none⟩) 1 1) = some (v', g') ∧ DRows B g' v' (n + 1) m q ∧ Kept h1 g' v ∧ oneCell v' = true ∧ (∀ a k c, v = .slice (some a) k c → B ≤ a.block) ∧ v' = .slice (some ⟨h1.next, 0, none⟩) (n + 1) unk := by
  obtain ⟨bk, g1, g2⟩ := hd
  have hnx := hx.next
  have hfl := hx.floor
  let bk' : Nat → Nat := fun i => if i = n then b else bk i
  have g1' : GrowC B h1 v 1 n (fun k _ => .slice (some ⟨bk' k, 0, none⟩) m unk) := ((g1.sub hs).sub hx.sub).congr fun k j hk hj => by show Value.slice (some ⟨bk k, 0, none⟩) m unk = .slice (some ⟨if k = n then b else bk k, 0, none⟩) m unk; rw [if_neg (by omega)]
  obtain ⟨v', g', e, ev, gv, hk⟩ := g1'.append (bytes := 24) (cap := 1) (by omega) (by omega) (by omega) hx.get rfl rfl (fun j hj => by rw [one_get j hj]; show some _ = some (Value.slice (some ⟨if n = n then b else bk n, 0, none⟩) m unk); rw [if_pos rfl]) (by simp [maxBytes]; omega) (by simp [maxBytes]; omega)
  have hkn := hk.next
  refine ⟨v', g', e, ⟨bk', gv, fun i hi => ?_⟩, hk, gv.one, fun a k c e => (g1.block e).1, ev⟩
  have hout : ∀ x c d, v' = .slice (some x) c d → x.block = h1.next := fun x c d e' => by rw [ev] at e'; cases e'; rfl
  by_cases hin : i = n
  · subst hin
    have hbi : bk' i = b := by show (if i = i then b else bk i) = b; rw [if_pos rfl]
    rw [hbi]
    refine ⟨?_, by omega, by omega, fun x c d e' => by have := hout x c d e'; omega, fun j hj hji => ?_⟩
    · rw [hk.old b (by omega) fun x c d e' => by have := (g1.block e').2; omega, hx.old b hb]; exact hl
    · show (if j = i then b else bk j) ≠ b
      rw [if_neg hji]; have := (g2 j (by omega)).2.2.1; omega
  · have hbi : bk' i = bk i := by show (if i = n then b else bk i) = bk i; rw [if_neg hin]
    rw [hbi]
    obtain ⟨a1, a2, a3, a4, a5⟩ := g2 i (by omega)
    refine ⟨?_, a2, by omega, fun x c d e' => by have := hout x c d e'; omega, fun j hj hji => ?_⟩
    · rw [hk.old (bk i) (by omega) fun x c d e' => a4 x c d e', hx.old (bk i) (by omega)]; exact hs _ _ _ _ trivial a1
    · show (if j = n then b else bk j) ≠ bk i
      by_cases e : j = n
      · rw [if_pos e]; omega
      · rw [if_neg e]; exact a5 j (by omega) hji
/-- the yard without its samples; with one bundle more -/
def bare (Y : MY) : MY := { Y with ns := 0 }
end Go.Vm.Vat

namespace Go.Vm.Vat
open Go.Proofs
set_option linter.unusedSimpArgs false
set_option linter.unusedVariables false
set_option maxRecDepth 10000
variable {n : Nat} {h : AHeap}
section
variable {a b k m : Nat} {f g : Nat → Int} {x : Int}
end
section
variable {Y : MY} {a b : Nat}
end
/-! ### What stays when another list grows -/
theorem GrowC.at' {B s n : Nat} {g : AHeap} {v : Value} {c : Nat → Nat → Value} (hg : GrowC B h v s n c) (he : ∀ a k cap, v = .slice (some a) k cap → g.get a.block = h.get a.block) : GrowC B g v s n c := by
  obtain ⟨cs, ⟨rfl, rfl, rfl⟩ | ⟨b, rfl, h2, h3, h4⟩, h5, h6⟩ := hg
  · exact .nil
  · exact ⟨cs, .inr ⟨b, rfl, by rw [he _ _ _ rfl]; exact h2, h3, h4⟩, h5, h6⟩
theorem DRows.kept {B m n n' : Nat} {g : AHeap} {v w : Value} {q : Nat → Nat → Int} {c : Nat → Nat → Value} (hd : DRows B h v n m q) (hm : 0 < m) (hw : GrowC B h w 1 n' c) (hc : ∀ k, k < n' → ∃ a j cap, c k 0 = .slice a j cap) (hk : Kept h g w)
    (hne : ∀ a k cap a' k' cap', v = .slice (some a) k cap → w = .slice (some a') k' cap' → a.block ≠ a'.block) : DRows B g v n m q := by
  obtain ⟨bk, h1, h2⟩ := hd
  have hnx := hk.next
  refine ⟨bk, GrowC.at' h1 fun a k cap e => hk.old _ (h1.block e).2 fun a' k' cap' e' => hne _ _ _ _ _ _ e e', fun k hkn => ?_⟩
  obtain ⟨a1, a2, a3, a4, a5⟩ := h2 k hkn
  refine ⟨?_, a2, by omega, a4, a5⟩
  rw [hk.old _ a3 fun a' k' cap' e' heq => ?_]
  · exact a1
  · obtain ⟨cs, ⟨rfl, _, _⟩ | ⟨b, rfl, w2, w3, _⟩, _, w5⟩ := hw
    · cases e'
    · cases e'
      simp only at heq
      rw [heq, w2] at a1
      simp only [Option.some.injEq, AObj.row.injEq] at a1
      have hcs := a1.1
      have hlen : cs.length = m := by rw [hcs, rowI_len]
      have hn' : 0 < n' := by omega
      have h3 := w5 0 0 hn' (by omega)
      obtain ⟨aa, j, cap, e3⟩ := hc 0 hn'
      rw [hcs, show 0 * 1 + 0 = 0 from rfl, rowI_get hm, e3] at h3
      cases h3
end Go.Vm.Vat

namespace Go.Vm.Vat
open Go.Proofs
set_option linter.unusedSimpArgs false
set_option linter.unusedVariables false
set_option maxRecDepth 10000
variable {n : Nat} {h : AHeap}
/-! ### One more sample -/
def plus (Y : MY) (v l r : Int) : MY := { Y with ns := Y.ns + 1, sv := fun k => if k = Y.ns then v else Y.sv k, slo := fun k => if k = Y.ns then l else Y.slo k, shi := fun k => if k = Y.ns then r else Y.shi k }
section
variable {Y : MY} {v l r : Int}
theorem plus_right {c : Nat → Int} {k : Nat} (hk : k < Y.ns) : RightB (plus Y v l r) c k ↔ RightB Y c k := by
  have e : ¬ k = Y.ns := by omega
  unfold RightB
  show (if k = Y.ns then l else Y.slo k) ≤ blueN c (Y.q (if k = Y.ns then v else Y.sv k).toNat) Y.nf ∧ blueN c (Y.q (if k = Y.ns then v else Y.sv k).toNat) Y.nf ≤ (if k = Y.ns then r else Y.shi k) ↔ _
  rw [if_neg e, if_neg e, if_neg e]
end
theorem one_cells {s b gr cap : Nat} {new : List Value} {wr : Bool} (hyc : h.get b = some (.row new wr gr)) (hnl : new.length = s) : cellsOfSlice h s (.slice (some ⟨b, 0, none⟩) 1 cap) = some new := by
  show (bif Nat.beq 1 0 then some [] else match h.get b with
    | some (.row cs _ _) => dropK cs 0 fun r => takeK r (1 * s) fun l => some l
    | _ => none) = some new
  have h10 : Nat.beq 1 0 = false := rfl
  rw [hyc, h10, cond_false]
  simp only [dropK_eq, takeK_eq, Nat.zero_le, if_true, List.drop_zero]
  rw [if_pos (by omega), Nat.one_mul, ← hnl, List.take_length]
end Go.Vm.Vat

namespace Go.Vm.Vat
open Go.Proofs
set_option linter.unusedSimpArgs false
set_option linter.unusedVariables false
set_option maxRecDepth 10000
variable {n : Nat} {h : AHeap}
/-- a yard as it should be, but for one sample more -/
structure Good6 (Y : MY) : Prop where
  sz : Y.nf ≤ 5 ∧ Y.nv ≤ 4 ∧ Y.ns ≤ 6
  f : FieldsOk Y
  v : VatsOk Y
  s : SampsOk Y
theorem right6_c (hn : 10002 ≤ n) (hr : h.next + 20 < far) {fv vv sv vb : Value} {Y : MY} {nb : Nat} {b : Nat → Int} (hy : YardR h fv vv sv Y) (hb : Ints h vb nb b) (hY : Good6 Y) (hB : AreB Y nb b) :
    call n (.func (.func 88) #[] #[]) [.agg ⟨[fv, vv, sv]⟩, vb] h = some (.int .i64 (rightN Y b Y.ns : Nat), h) := by
  obtain ⟨n, rfl⟩ : ∃ p, n = p + 1 := ⟨n - 1, by omega⟩
  refine call_plain0 fok88 rfl rfl (by simp) rfl ?_
  have hy := hy.shut
  have hb := Cells.shut hb
  have hr : h.shutAll.next + 20 < far := hr
  have hfl : h.shutAll.floor ≤ h.shutAll.next := Nat.le_refl _
  generalize h.shutAll = h at hy hb hr hfl
  obtain ⟨z1, z2, z3⟩ := hY.sz
  have hbr := hB.range hY.f
  simp only [s88, W_seq, W_ops]
  refine ops_box (cs := [fv, vv, sv]) (by omega) rfl hy.one fun h1 hx => ?_
  have hy := hy.mono hx.sub
  have hb := Cells.mono hb hx.sub
  have hrow : Row h1 h.next [fv, vv, sv] := hx.row
  simp only [rn0, rn1, rn2, rn3, rn4, rn5, rn6, rn7, rn8, if_true, if_false, Nat.le_refl, true_and, and_true, decide_true, decide_false, Bool.not_true, Bool.not_false, reduceIte, Nat.reduceEqDiff, Nat.reduceAdd, Nat.reduceMul, Nat.reduceSub, Nat.reduceLeDiff, Nat.reduceLT]
  refine W_loop Y.ns (fun k f g m => (Sub All h1 g ∧ g.next = h1.next + k ∧ g.floor = h1.floor) ∧ m = [] ∧ f 1 = vb ∧ f 2 = .pointer (some ⟨h.next, 0, none⟩) ∧ f 5 = .int .i64 (rightN Y b k : Nat) ∧ f 6 = .int .i64 (k : Int)) (by simp; omega) ?_ ?_ ?_
  · simp only [rn0, rn1, rn2, rn3, rn4, rn5, rn6, rn7, rn8, if_true, if_false, Nat.le_refl, true_and, and_true, decide_true, decide_false, Bool.not_true, Bool.not_false, reduceIte, Nat.reduceEqDiff, Nat.reduceAdd, Nat.reduceMul, Nat.reduceSub, Nat.reduceLeDiff, Nat.reduceLT, Nat.add_zero]
    simp [rightN]
  · rintro k f g m hk ⟨⟨g1, g2, g3⟩, rfl, f1, f2, f5, f6⟩
    have hk' : (k : Int) < (Y.ns : Int) := by omega
    have hw : wrapF .i64 ((k : Int) + 1) = ((k + 1 : Nat) : Int) := by rw [wrap_in (by omega) (by omega)]; rfl
    have hyg := hy.mono g1
    have hrg := hrow.mono g1
    have hbg := Cells.mono hb g1
    simp only [rn0, rn1, rn2, rn3, rn4, rn5, rn6, rn7, rn8, if_true, if_false, Nat.le_refl, true_and, and_true, decide_true, decide_false, Bool.not_true, Bool.not_false, reduceIte, Nat.reduceEqDiff, Nat.reduceAdd, Nat.reduceMul, Nat.reduceSub, Nat.reduceLeDiff, Nat.reduceLT, f1, f2, f5, f6, hrg.ld, Nat.zero_add, List.getElem?_cons_zero, List.getElem?_cons_succ, Cells.len hyg.s, hk', Cells.idx hyg.s hk, samps_ld hyg.s hk]
    have hgn : g.next + 5 < far := by rw [g2, hx.next]; omega
    have hgf : g.floor ≤ g.next := by rw [g3, hx.floor, g2, hx.next]; omega
    refine step_new (vs := [.int .i64 (Y.sv k), .int .i64 (Y.slo k), .int .i64 (Y.shi k)]) (by omega) hgf rfl (by simp only [rn0, rn1, rn2, rn3, rn4, rn5, rn6, rn7, rn8, if_true, if_false, Nat.le_refl, true_and, and_true, decide_true, decide_false, Bool.not_true, Bool.not_false, reduceIte, Nat.reduceEqDiff, Nat.reduceAdd, Nat.reduceMul, Nat.reduceSub, Nat.reduceLeDiff, Nat.reduceLT]; rfl) rfl rfl rfl fun g' hg' => ?_
    have hyg := hyg.mono hg'.sub
    have hrg := hrg.mono hg'.sub
    have hbg := Cells.mono hbg hg'.sub
    have hnx : g'.next < far := by rw [hg'.next]; omega
    have hin : (Sub All h1 g' ∧ g'.next = h1.next + (k + 1) ∧ g'.floor = h1.floor) = True := eq_true ⟨g1.trans hg'.sub, by rw [hg'.next, g2]; omega, by rw [hg'.floor, g3]⟩
    obtain ⟨⟨s1, s2⟩, s3⟩ := hY.s k hk
    have hsv : Y.sv k = ((Y.sv k).toNat : Int) := by omega
    obtain ⟨v1, v2⟩ := hY.v (Y.sv k).toNat (by omega)
    have hbl := blue_c (n := n) (h := g') (at_ := (Y.sv k).toNat) (by omega) hnx hyg hbg (by have := hB.1; omega) (by omega) (by rw [v1, hB.1]; exact Nat.le_refl _) hbr (fun i hi => v2 i (by rw [v1, ← hB.1]; exact hi))
    rw [← hsv, hB.1] at hbl
    have hpk : (2 ^ k : Nat) < 2 ^ 62 := Nat.pow_lt_pow_right (by omega) (by omega)
    have hrk : rightN Y b k < 2 ^ 62 := Nat.lt_trans (rightN_lt Y b k) hpk
    simp only [rn0, rn1, rn2, rn3, rn4, rn5, rn6, rn7, rn8, if_true, if_false, Nat.le_refl, true_and, and_true, decide_true, decide_false, Bool.not_true, Bool.not_false, reduceIte, Nat.reduceEqDiff, Nat.reduceAdd, Nat.reduceMul, Nat.reduceSub, Nat.reduceLeDiff, Nat.reduceLT]
    refine W_draw All ?_
    by_cases hR : RightB Y b k
    · have hR' : Y.slo k ≤ blueN b (Y.q (Y.sv k).toNat) Y.nf ∧ blueN b (Y.q (Y.sv k).toNat) Y.nf ≤ Y.shi k := hR
      have hnew : rightN Y b (k + 1) = rightN Y b k ||| 2 ^ k := by simp only [rightN]; rw [if_pos hR]
      simp only [rn0, rn1, rn2, rn3, rn4, rn5, rn6, rn7, rn8, if_true, if_false, Nat.le_refl, true_and, and_true, decide_true, decide_false, Bool.not_true, Bool.not_false, reduceIte, Nat.reduceEqDiff, Nat.reduceAdd, Nat.reduceMul, Nat.reduceSub, Nat.reduceLeDiff, Nat.reduceLT, f1, f2, f5, f6, hrg.ld, hrg.ldN 0 3 (by simp) (by simp), hg'.ld, List.drop_zero, List.take_succ_cons, List.take_zero, Nat.zero_add, List.getElem?_cons_zero, List.getElem?_cons_succ, hbl, in_c (n := n) (by omega), hR', p_uint, r_conv (k := k) (by omega), r_shl (k := k) (by omega), r_or hrk hpk, hnew, hin, hw]
    · have hR' : ¬ (Y.slo k ≤ blueN b (Y.q (Y.sv k).toNat) Y.nf ∧ blueN b (Y.q (Y.sv k).toNat) Y.nf ≤ Y.shi k) := hR
      have hnew : rightN Y b (k + 1) = rightN Y b k := by simp only [rightN]; rw [if_neg hR]
      simp only [rn0, rn1, rn2, rn3, rn4, rn5, rn6, rn7, rn8, if_true, if_false, Nat.le_refl, true_and, and_true, decide_true, decide_false, Bool.not_true, Bool.not_false, reduceIte, Nat.reduceEqDiff, Nat.reduceAdd, Nat.reduceMul, Nat.reduceSub, Nat.reduceLeDiff, Nat.reduceLT, f1, f2, f5, f6, hrg.ld, hrg.ldN 0 3 (by simp) (by simp), hg'.ld, List.drop_zero, List.take_succ_cons, List.take_zero, Nat.zero_add, List.getElem?_cons_zero, List.getElem?_cons_succ, hbl, in_c (n := n) (by omega), hR', hnew, hin, hw]
  · rintro f g m ⟨⟨g1, g2, g3⟩, rfl, f1, f2, f5, f6⟩
    simp only [rn0, rn1, rn2, rn3, rn4, rn5, rn6, rn7, rn8, if_true, if_false, Nat.le_refl, true_and, and_true, decide_true, decide_false, Bool.not_true, Bool.not_false, reduceIte, Nat.reduceEqDiff, Nat.reduceAdd, Nat.reduceMul, Nat.reduceSub, Nat.reduceLeDiff, Nat.reduceLT, f1, f2, f5, f6, (hrow.mono g1).ld, Nat.zero_add, List.getElem?_cons_zero, List.getElem?_cons_succ, Cells.len (hy.mono g1).s, Int.lt_irrefl]
theorem full6_c (hn : 1 ≤ n) (hr : h.next < far) {fv vv sv : Value} {Y : MY} (hy : YardR h fv vv sv Y) (hl : Y.ns ≤ 6) :
    call n (.func (.func 70) #[] #[]) [.agg ⟨[fv, vv, sv]⟩] h = some (.int .i64 ((2 ^ Y.ns - 1 : Nat) : Int), h) := by
  obtain ⟨n, rfl⟩ : ∃ p, n = p + 1 := ⟨n - 1, by omega⟩
  refine call_plain0 fok70 rfl rfl (by simp) rfl ?_
  have hy := hy.shut
  have hr : h.shutAll.next < far := hr
  generalize h.shutAll = h at hy hr
  simp only [s70, W_seq, W_ops]
  refine ops_box (cs := [fv, vv, sv]) (by omega) rfl hy.one fun h1 hx => ?_
  have hy := hy.mono hx.sub
  have hp : (2 ^ Y.ns : Nat) < 2 ^ 62 := Nat.pow_lt_pow_right (by omega) (by omega)
  have hp0 : 0 < (2 ^ Y.ns : Nat) := Nat.pow_pos (by omega)
  have hw : wrapF .i64 (((2 ^ Y.ns : Nat) : Int) - 1) = ((2 ^ Y.ns - 1 : Nat) : Int) := by rw [wrap_in (by omega) (by omega)]; omega
  simp only [rn0, rn1, rn2, rn3, rn4, rn5, rn6, rn7, rn8, if_true, if_false, Nat.le_refl, true_and, and_true, decide_true, decide_false, Bool.not_true, Bool.not_false, reduceIte, Nat.reduceEqDiff, Nat.reduceAdd, Nat.reduceMul, Nat.reduceSub, Nat.reduceLeDiff, Nat.reduceLT, hx.ld, Nat.zero_add, List.getElem?_cons_zero, List.getElem?_cons_succ, Cells.len hy.s, p_uint, r_conv (k := Y.ns) (by omega), r_shl (k := Y.ns) (by omega), hw]
theorem truths6_c (hn : 10010 ≤ n) (hr : h.next + 200000 < far) (hfl : h.floor ≤ h.next) {fv vv sv : Value} {Y : MY} (hy : YardR h fv vv sv Y) (hG : Good6 Y) (hsz : sizeN Y.lo Y.hi Y.nf ≤ 2000) :
    ∃ v h', call n (.func (.func 64) #[] #[]) [.agg ⟨[fv, vv, sv]⟩] h = some (v, h') ∧ TruthsL h' v Y.nf (refTruthsTo Y (manyN Y.lo Y.hi Y.nf).toNat) ∧ Made h h' 100000 := by
  obtain ⟨n, rfl⟩ : ∃ p, n = p + 1 := ⟨n - 1, by omega⟩
  obtain ⟨z1, z2, z3⟩ := hG.sz
  have hF : ∀ k, k < Y.nf → 0 ≤ Y.lo k ∧ Y.lo k ≤ Y.hi k ∧ Y.hi k ≤ 20 := hG.f
  have hmany := sizeN_many z1 hF Y.nf (Nat.le_refl _)
  obtain ⟨b1, _⟩ := sizeN_bound z1 hF Y.nf (Nat.le_refl _)
  obtain ⟨M, hM⟩ : ∃ M : Nat, manyN Y.lo Y.hi Y.nf = M := ⟨(manyN Y.lo Y.hi Y.nf).toNat, by omega⟩
  have hM2 : M ≤ 2000 := by omega
  rw [hM, Int.toNat_natCast]
  refine call_any0 fok64 rfl rfl (by simp) ?_
  simp only [s64, W_seq, W_ops]
  refine ops_box (cs := [fv, vv, sv]) (by omega) rfl hy.one fun g1 hx1 => ?_
  have n1 := hx1.next
  have f1' := hx1.floor
  simp only [rn0, rn1, rn2, rn3, rn4, rn5, rn6, rn7, rn8, if_true, if_false, Nat.le_refl, true_and, and_true, decide_true, decide_false, Bool.not_true, Bool.not_false, reduceIte, Nat.reduceEqDiff, Nat.reduceAdd, Nat.reduceMul, Nat.reduceSub, Nat.reduceLeDiff, Nat.reduceLT]
  refine W_loop M (fun k f g ms => (∃ v, Sub All g1 g ∧ g.floor = g1.floor ∧ g1.next ≤ g.next ∧ g.next ≤ g1.next + 30 * k ∧ GrowRows g1.next g v (refTruthsTo Y k).length (fun _ => Y.nf) (fun i => (refTruthsTo Y k).getD i fun _ => 0) ∧ f 3 = v) ∧ ms = [] ∧ f 1 = .pointer (some ⟨h.next, 0, none⟩) ∧ f 4 = .int .i64 (k : Int)) (by simp; omega) ?_ ?_ ?_
  · simp only [rn0, rn1, rn2, rn3, rn4, rn5, rn6, rn7, rn8, if_true, if_false, Nat.le_refl, true_and, and_true, decide_true, decide_false, Bool.not_true, Bool.not_false, reduceIte, Nat.reduceEqDiff, Nat.reduceAdd, Nat.reduceMul, Nat.reduceSub, Nat.reduceLeDiff, Nat.reduceLT]
    exact ⟨⟨_, by omega, .nil, rfl⟩, rfl⟩
  · rintro k f g ms hk ⟨⟨v, hs, hfg, hup, hnx, gv, f3⟩, rfl, f1, f4⟩
    have hk' : (k : Int) < (M : Int) := by omega
    have hw : wrapF .i64 ((k : Int) + 1) = ((k + 1 : Nat) : Int) := by rw [wrap_in (by omega) (by omega)]; rfl
    have hyg := (hy.mono hx1.sub).mono hs
    have w1 := (hx1.row.mono hs).whole (n := 3) rfl
    have em := many_c (n := n) (h := g) (by omega) (by omega) hyg (by omega) hF
    rw [hM] at em
    obtain ⟨l, g2, e2, hl2, m2, hl1, hlb⟩ := nth_c (n := n) (h := g) (m := k) (by omega) (by omega) (by omega) hyg z1 hG.f (by omega)
    have n2 := m2.next
    have u2 := m2.up
    have f2 := m2.floor
    have hyg2 := hyg.mono m2.sub
    have w2 := (hx1.row.mono (hs.trans m2.sub)).whole (n := 3) rfl
    have er := right6_c (n := n) (h := g2) (b := nthB Y.lo Y.hi Y.nf k) (by omega) (by omega) hyg2 hl2 hG (nthB_are hG.f)
    have ef := full6_c (n := n) (h := g2) (by omega) (by omega) hyg2 z3
    have hself := hyg2.self
    by_cases ht : ∀ j, j < Y.ns → RightB Y (nthB Y.lo Y.hi Y.nf k) j
    · have he : ((rightN Y (nthB Y.lo Y.hi Y.nf k) Y.ns : Nat) : Int) = ((2 ^ Y.ns - 1 : Nat) : Int) := by rw [(rightN_full Y _ Y.ns).2 ht]
      have hsucc : refTruthsTo Y (k + 1) = refTruthsTo Y k ++ [nthB Y.lo Y.hi Y.nf k] := by rw [refTruthsTo_succ, if_pos ht]
      have hlk := refTruthsTo_len (Y := Y) (m := k)
      simp only [rn0, rn1, rn2, rn3, rn4, rn5, rn6, rn7, rn8, if_true, if_false, Nat.le_refl, true_and, and_true, decide_true, decide_false, Bool.not_true, Bool.not_false, reduceIte, Nat.reduceEqDiff, Nat.reduceAdd, Nat.reduceMul, Nat.reduceSub, Nat.reduceLeDiff, Nat.reduceLT, f1, f3, f4, w1, em, hk', e2]
      refine W_draw All ?_
      simp only [rn0, rn1, rn2, rn3, rn4, rn5, rn6, rn7, rn8, if_true, if_false, Nat.le_refl, true_and, and_true, decide_true, decide_false, Bool.not_true, Bool.not_false, reduceIte, Nat.reduceEqDiff, Nat.reduceAdd, Nat.reduceMul, Nat.reduceSub, Nat.reduceLeDiff, Nat.reduceLT, f1, f3, f4, w2, er, ef, hself, he, sl_row hl1]
      refine step_slice (by omega) (by simp [allB, hl1]) fun g3 hx3 => ?_
      have n3 := hx3.next
      have f3' := hx3.floor
      have gv2 : GrowRows g1.next g2 v (refTruthsTo Y k).length (fun _ => Y.nf) (fun i => (refTruthsTo Y (k + 1)).getD i fun _ => 0) := (gv.sub m2.sub u2).congr (fun _ _ => rfl) fun i hi => by
        rw [hsucc, List.getD_eq_getElem?_getD, List.getD_eq_getElem?_getD, List.getElem?_append_left hi]
      have hvb : ∀ b k' c, v = .slice (some b) k' c → b.block < g.next := fun b k' c e => by
        obtain ⟨r, q1, _⟩ := gv
        exact (q1.block e).2
      obtain ⟨v', g4, e4, gv4, hk4, hv1, hvB⟩ := gv2.push (h1 := g3) (l := l) (by omega) (by omega) (by omega) (by
        have : (refTruthsTo Y (k + 1)).getD (refTruthsTo Y k).length (fun _ => 0) = nthB Y.lo Y.hi Y.nf k := by rw [hsucc, List.getD_eq_getElem?_getD, List.getElem?_append_right (Nat.le_refl _)]; simp
        rw [this]; exact hl2) hl1 (fun a k' c e => by
        obtain ⟨q1, q2⟩ := hlb a k' c e
        exact ⟨by omega, q2, fun b m' c' e' => by have := hvb b m' c' e'; omega⟩) hx3 (by simp [maxBytes]; omega) (by simp [maxBytes]; omega)
      have n4 := hk4.next
      have f4' := hk4.floor
      simp only [rn0, rn1, rn2, rn3, rn4, rn5, rn6, rn7, rn8, if_true, if_false, Nat.le_refl, true_and, and_true, decide_true, decide_false, Bool.not_true, Bool.not_false, reduceIte, Nat.reduceEqDiff, Nat.reduceAdd, Nat.reduceMul, Nat.reduceSub, Nat.reduceLeDiff, Nat.reduceLT, f1, f4, e4, hw]
      refine ⟨v', fun i cs w gr t hg => ?_, by omega, by omega, by omega, by rw [hsucc, List.length_append, List.length_singleton, ← hsucc]; exact gv4, rfl⟩
      have hlt := AHeap.lt_of_get hg
      rw [hk4.old i (by omega) fun b q z e => by have := hvB b q z e; omega]
      exact hx3.sub _ _ _ _ t (m2.sub _ _ _ _ t (hs _ _ _ _ t hg))
    · have he : ¬ ((rightN Y (nthB Y.lo Y.hi Y.nf k) Y.ns : Nat) : Int) = ((2 ^ Y.ns - 1 : Nat) : Int) := fun e => ht ((rightN_full Y _ Y.ns).1 (by omega))
      have hsucc : refTruthsTo Y (k + 1) = refTruthsTo Y k := by rw [refTruthsTo_succ, if_neg ht, List.append_nil]
      simp only [rn0, rn1, rn2, rn3, rn4, rn5, rn6, rn7, rn8, if_true, if_false, Nat.le_refl, true_and, and_true, decide_true, decide_false, Bool.not_true, Bool.not_false, reduceIte, Nat.reduceEqDiff, Nat.reduceAdd, Nat.reduceMul, Nat.reduceSub, Nat.reduceLeDiff, Nat.reduceLT, f1, f3, f4, w1, em, hk', e2]
      refine W_draw All ?_
      simp only [rn0, rn1, rn2, rn3, rn4, rn5, rn6, rn7, rn8, if_true, if_false, Nat.le_refl, true_and, and_true, decide_true, decide_false, Bool.not_true, Bool.not_false, reduceIte, Nat.reduceEqDiff, Nat.reduceAdd, Nat.reduceMul, Nat.reduceSub, Nat.reduceLeDiff, Nat.reduceLT, f1, f3, f4, w2, er, ef, hself, he, hw]
      rw [hsucc]
      exact ⟨v, hs.trans m2.sub, by omega, by omega, by omega, gv.sub m2.sub u2, rfl⟩
  · rintro f g ms ⟨⟨v, hs, hfg, hup, hnx, gv, f3⟩, rfl, f1, f4⟩
    have hyg := (hy.mono hx1.sub).mono hs
    have w1 := (hx1.row.mono hs).whole (n := 3) rfl
    have em := many_c (n := n) (h := g) (by omega) (by omega) hyg (by omega) hF
    rw [hM] at em
    simp only [rn0, rn1, rn2, rn3, rn4, rn5, rn6, rn7, rn8, if_true, if_false, Nat.le_refl, true_and, and_true, decide_true, decide_false, Bool.not_true, Bool.not_false, reduceIte, Nat.reduceEqDiff, Nat.reduceAdd, Nat.reduceMul, Nat.reduceSub, Nat.reduceLeDiff, Nat.reduceLT, f1, f3, f4, w1, em, Int.lt_irrefl]
    exact ⟨gv.rows, ⟨hx1.sub.trans hs, by omega, by omega, by omega⟩⟩
theorem plus_here {Y : MY} {v : Nat} {x : Int} {c : Nat → Int} : RightB (plus Y (v : Int) x x) c Y.ns ↔ blY Y v c = x := by
  unfold RightB
  show (if Y.ns = Y.ns then x else Y.slo Y.ns) ≤ blueN c (Y.q (if Y.ns = Y.ns then (v : Int) else Y.sv Y.ns).toNat) Y.nf ∧ blueN c (Y.q (if Y.ns = Y.ns then (v : Int) else Y.sv Y.ns).toNat) Y.nf ≤ (if Y.ns = Y.ns then x else Y.shi Y.ns) ↔ _
  rw [if_pos rfl, if_pos rfl, if_pos rfl, Int.toNat_natCast]
  unfold blY
  omega
theorem plus_refTruths {Y : MY} {v : Nat} {x : Int} {m : Nat} : refTruthsTo (plus Y (v : Int) x x) m = (refTruthsTo Y m).filter fun t => decide (blY Y v t = x) := by
  unfold refTruthsTo
  rw [List.filter_filter]
  apply List.filter_congr
  intro c _
  have : (∀ k, k < (plus Y (v : Int) x x).ns → RightB (plus Y (v : Int) x x) c k) ↔ (blY Y v c = x ∧ ∀ k, k < Y.ns → RightB Y c k) := by
    constructor
    · intro hh
      exact ⟨plus_here.1 (hh Y.ns (Nat.lt_succ_self _)), fun k hk => (plus_right hk).1 (hh k (Nat.lt_succ_of_lt hk))⟩
    · rintro ⟨h1, h2⟩ k hk
      have hk : k < Y.ns + 1 := hk
      by_cases e : k = Y.ns
      · subst e; exact plus_here.2 h1
      · exact (plus_right (by omega)).2 (h2 k (by omega))
  by_cases c1 : blY Y v c = x <;> by_cases c2 : ∀ k, k < Y.ns → RightB Y c k
  · rw [decide_eq_true c1, decide_eq_true c2, decide_eq_true (this.2 ⟨c1, c2⟩)]; rfl
  · rw [decide_eq_true c1, decide_eq_false c2, decide_eq_false (fun e => c2 (this.1 e).2)]; rfl
  · rw [decide_eq_false c1, decide_eq_true c2, decide_eq_false (fun e => c1 (this.1 e).1)]; rfl
  · rw [decide_eq_false c1, decide_eq_false c2, decide_eq_false (fun e => c1 (this.1 e).1)]; rfl
theorem plus_len {Y : MY} {v : Nat} {x : Int} : (refTruthsTo (plus Y (v : Int) x x) (manyN Y.lo Y.hi Y.nf).toNat).length = cntB (blY Y v) (refTruths Y) x := by
  rw [plus_refTruths]
  unfold cntB refTruths
  rw [List.countP_eq_length_filter]
theorem plus_good6 {Y : MY} (hf : faultN Y = 0) {v : Nat} (hv : v < Y.nv) {x : Int} (hx : 0 ≤ x ∧ x ≤ 999) : Good6 (plus Y (v : Int) x x) := by
  have hG := good_of hf
  obtain ⟨z1, z2, z3⟩ := hG.sz
  refine ⟨⟨z1, z2, by show Y.ns + 1 ≤ 6; omega⟩, hG.f, hG.v, fun k hk => ?_⟩
  have hk : k < Y.ns + 1 := hk
  show (0 ≤ (if k = Y.ns then (v : Int) else Y.sv k) ∧ (if k = Y.ns then (v : Int) else Y.sv k) ≤ (Y.nv : Int) - 1) ∧ 0 ≤ (if k = Y.ns then x else Y.slo k) ∧ (if k = Y.ns then x else Y.slo k) ≤ (if k = Y.ns then x else Y.shi k) ∧ (if k = Y.ns then x else Y.shi k) ≤ 999
  by_cases e : k = Y.ns
  · simp only [if_pos e]; omega
  · simp only [if_neg e]; exact hG.s k (by omega)
/-- a list of samples, copied, and one appended -/
theorem plus_append {sv : Value} {m : Nat} {sA lA rA : Nat → Int} (hS : Samps h sv m sA lA rA) (hm : m ≤ 100) (hr : h.next + 10 < far) (hfl : h.floor ≤ h.next) :
    ∃ e0 g1 a1 g2, buildSl 3 0 [.int .i64 0, .int .i64 0, .int .i64 0] [] h [] = some (e0, g1) ∧ appendA 3 24 g1 e0 sv = some (a1, g2) ∧ (∀ i, i < h.next → g1.get i = h.get i) ∧ (∀ i, i < h.next → g2.get i = h.get i) ∧
      ∀ v l r : Int, ∃ b1 g3 S' g4, buildSl 3 1 [.int .i64 0, .int .i64 0, .int .i64 0] [0] g2 [.agg ⟨[.int .i64 v, .int .i64 l, .int .i64 r]⟩] = some (b1, g3) ∧ appendA 3 24 g3 a1 b1 = some (S', g4) ∧ oneCell S' = true ∧
        Samps g4 S' (m + 1) (fun k => if k = m then v else sA k) (fun k => if k = m then l else lA k) (fun k => if k = m then r else rA k) ∧ (∀ i, i < h.next → g4.get i = h.get i) ∧ h.next ≤ g4.next ∧ g4.next ≤ h.next + 4 ∧ g4.floor = h.floor ∧
        (∀ a k c, S' = .slice (some a) k c → h.next ≤ a.block) := by
  obtain ⟨xs, ks, es, ls⟩ := Cells.list (by omega) hS
  obtain ⟨g1, q1, hx1⟩ := newSlice_ex (h := h) (cs := []) (n := 0) (cap := 0) (gr := 0) (by omega) rfl
  have n1 := hx1.next
  have f1 := hx1.floor
  have hap := append_none (h := g1) (s := 3) (bytes := 24) (b := h.next) ⟨xs, ks, es⟩ (cells_sub hx1.sub hS (by omega) ls) flatL_len (by simp [maxBytes]; omega) (by simp [maxBytes]; omega)
  by_cases hm0 : m = 0
  · rw [if_pos hm0] at hap
    refine ⟨_, g1, _, g1, by rw [build_none3]; exact q1, hap, hx1.old, hx1.old, fun v l r => ?_⟩
    obtain ⟨g3, q3, hx3⟩ := newSlice_ex (h := g1) (cs := [.int .i64 v, .int .i64 l, .int .i64 r]) (n := 1) (cap := 1) (gr := 0) (by omega) rfl
    have n3 := hx3.next
    have f3 := hx3.floor
    have hap2 := append_none (h := g3) (s := 3) (bytes := 24) (b := h.next) (m := 1) ⟨_, _, rfl⟩ (one_cells (cap := 1) hx3.get rfl) rfl (by simp [maxBytes]) (by simp [maxBytes])
    rw [if_neg (by omega)] at hap2
    obtain ⟨g4, q4, hx4⟩ := newSlice_ex (h := g3) (cs := [.int .i64 v, .int .i64 l, .int .i64 r]) (n := 1) (cap := unk) (gr := 3) (by omega) rfl
    have n4 := hx4.next
    have f4 := hx4.floor
    refine ⟨_, g3, _, g4, by rw [sl_samp]; exact q3, by rw [hap2]; exact q4, rfl, ?_, fun i hi => by rw [hx4.old i (by omega), hx3.old i (by omega), hx1.old i hi], by omega, by omega, by omega, fun a k c e => by cases e; show h.next ≤ g3.next; omega⟩
    rw [hm0]
    refine cells_row (b := g3.next) ⟨true, 3, hx4.get⟩ fun k j hk hj => ?_
    obtain rfl : k = 0 := by omega
    obtain rfl | rfl | rfl : j = 0 ∨ j = 1 ∨ j = 2 := by omega
    all_goals rfl
  · rw [if_neg hm0] at hap
    obtain ⟨g2, q2, hx2⟩ := newSlice_ex (h := g1) (cs := flatL 3 m fun k j => .int .i64 (if j = 0 then sA k else if j = 1 then lA k else rA k)) (n := m) (cap := unk) (gr := 3) (by omega) flatL_one
    have n2 := hx2.next
    have f2 := hx2.floor
    refine ⟨_, g1, _, g2, by rw [build_none3]; exact q1, by rw [hap]; exact q2, hx1.old, fun i hi => by rw [hx2.old i (by omega), hx1.old i hi], fun v l r => ?_⟩
    obtain ⟨g3, q3, hx3⟩ := newSlice_ex (h := g2) (cs := [.int .i64 v, .int .i64 l, .int .i64 r]) (n := 1) (cap := 1) (gr := 0) (by omega) rfl
    have n3 := hx3.next
    have f3 := hx3.floor
    have gS : GrowC h.next g3 (.slice (some ⟨g1.next, 0, none⟩) m unk) 3 m (fun k j => .int .i64 (if j = 0 then (if k = m then v else sA k) else if j = 1 then (if k = m then l else lA k) else if k = m then r else rA k)) :=
      ⟨_, .inr ⟨_, rfl, by rw [hx3.old _ (by omega)]; exact hx2.get, flatL_len, by omega⟩, flatL_one, fun k j hk hj => by
        rw [flatL_get (c := fun k j => .int .i64 (if j = 0 then sA k else if j = 1 then lA k else rA k)) hk hj]
        have : ¬ k = m := by omega
        simp only [this, if_false]⟩
    obtain ⟨S', g4, e, e', gS', hk4⟩ := gS.append (bytes := 24) (cap := 1) (by omega) (by omega) (by omega) hx3.get rfl rfl (fun j hj => by
      simp only [if_true]
      obtain rfl | rfl | rfl : j = 0 ∨ j = 1 ∨ j = 2 := by omega
      all_goals rfl) (by simp [maxBytes]; omega) (by simp [maxBytes]; omega)
    have n4 := hk4.next
    have f4 := hk4.floor
    refine ⟨_, g3, S', g4, by rw [sl_samp]; exact q3, e, gS'.one, gS'.cells, fun i hi => ?_, by omega, by omega, by omega, fun a k c e2 => by rw [e'] at e2; cases e2; show h.next ≤ g3.next; omega⟩
    rw [hk4.old i (by omega) fun b k c e => by cases e; show i ≠ g1.next; omega, hx3.old i (by omega), hx2.old i (by omega), hx1.old i hi]
theorem splice33 {a b c d e f : Value} : splice [a, b, c] 0 [d, e, f] = [d, e, f] := rfl
theorem ey0 {x y z : Value} : extractA 0 (.tuple ⟨[x, y, z]⟩) h = some (x, h) := id rfl
theorem ey1 {x y z : Value} : extractA 1 (.tuple ⟨[x, y, z]⟩) h = some (y, h) := id rfl
theorem ey2 {x y z : Value} : extractA 2 (.tuple ⟨[x, y, z]⟩) h = some (z, h) := id rfl
theorem mostL_snoc {α : Type} {b : α → Int} {L : List α} {k : Nat} (d : α) (hk : k < L.length) : mostL ((L.take (k + 1)).map fun t => cntB b L (b t)) = max (mostL ((L.take k).map fun t => cntB b L (b t))) (cntB b L (b (L.getD k d))) := by
  apply eq_of_le_iff
  intro m
  rw [mostL_le, Nat.max_le, mostL_le, take_snoc d hk, List.map_append]
  simp only [List.mem_append, List.map_cons, List.map_nil, List.mem_singleton]
  exact ⟨fun h => ⟨fun x hx => h x (.inl hx), h _ (.inr rfl)⟩, fun ⟨h1, h2⟩ x hx => hx.elim (h1 x) (fun e => e ▸ h2)⟩
def s13 : SCode := (.seq (.ops [⟨(some 2), none, .box (T 0)⟩, ⟨(some 4), none, .mov (.const (.bool false))⟩]) (.seq (.seq (.ops [⟨(some 17), none, .loadN 3 (T 2)⟩, ⟨(some 18), none, .call (.func 62) [(T 17)]⟩, ⟨(some 19), none, .not (T 18)⟩, ⟨(some 20), none, .mov (T 19)⟩, ⟨(some 21), (some (20, false)), .fieldAddr 1 (T 2)⟩, ⟨(some 22), (some (20, false)), .load1 (T 21)⟩, ⟨(some 23), (some (20, false)), .len (T 22)⟩, ⟨(some 24), (some (20, false)), .int2 .eql (T 23) (.const (.int .i64 (0)))⟩, ⟨(some 25), none, .pick (T 20) (.const (.bool true)) (T 24)⟩]) (.cond (T 25) (.seq (.ops [⟨(some 26), none, .call (.func 24) []⟩, ⟨(some 4), none, .mov (T 26)⟩]) .ret) .skip)) (.seq (.ops [⟨(some 28), none, .loadN 3 (T 2)⟩, ⟨(some 29), none, .call (.func 26) [(T 28)]⟩, ⟨(some 30), none, .call (.func 41) [(T 29)]⟩, ⟨(some 27), none, .mov (T 30)⟩, ⟨(some 31), none, .extract 0 (T 27)⟩, ⟨(some 32), none, .extract 1 (T 27)⟩, ⟨(some 33), none, .extract 2 (T 27)⟩, ⟨(some 5), none, .mov (T 31)⟩, ⟨(some 6), none, .mov (T 32)⟩, ⟨(some 7), none, .mov (T 33)⟩]) (.seq (.ops [⟨(some 34), none, .loadN 3 (T 2)⟩, ⟨(some 35), none, .call (.func 64) [(T 34)]⟩, ⟨(some 8), none, .mov (T 35)⟩]) (.seq (.seq (.ops [⟨(some 36), none, .mov (T 8)⟩, ⟨(some 37), none, .len (T 36)⟩, ⟨(some 38), none, .int2 .eql (T 37) (.const (.int .i64 (0)))⟩]) (.cond (T 38) (.seq (.ops [⟨(some 39), none, .mov (T 7)⟩, ⟨(some 40), none, .int2 .eql (T 39) (.const (.int .i64 (11)))⟩, ⟨(some 41), none, .mov (T 40)⟩, ⟨(some 42), (some (41, true)), .call (.func 24) []⟩, ⟨(some 43), none, .pick (T 41) (T 42) (.const (.bool false))⟩, ⟨(some 4), none, .mov (T 43)⟩]) .ret) .skip)) (.seq (.seq (.ops [⟨(some 44), none, .mov (T 7)⟩, ⟨(some 45), none, .int2 .neq (T 44) (.const (.int .i64 (0)))⟩, ⟨(some 46), none, .mov (T 45)⟩, ⟨(some 47), (some (46, false)), .mov (T 5)⟩, ⟨(some 48), (some (46, false)), .fieldAddr 1 (T 2)⟩, ⟨(some 49), (some (46, false)), .load1 (T 48)⟩, ⟨(some 50), (some (46, false)), .len (T 49)⟩, ⟨(some 51), (some (46, false)), .int2 .sub (T 50) (.const (.int .i64 (1)))⟩, ⟨(some 52), (some (46, false)), .call (.func 42) [(T 47), (.const (.int .i64 (0))), (T 51)]⟩, ⟨(some 53), (some (46, false)), .not (T 52)⟩, ⟨(some 54), none, .pick (T 46) (.const (.bool true)) (T 53)⟩]) (.cond (T 54) (.seq (.ops [⟨(some 4), none, .mov (.const (.bool false))⟩]) .ret) .skip)) (.seq (.ops [⟨(some 9), none, .mov (.const (.int .i64 (0)))⟩, ⟨(some 10), none, .mov (.const (.int .i64 (0)))⟩]) (.seq (.seq (.ops [⟨(some 11), none, .mov (.const (.int .i64 (0)))⟩]) (.block 0 (.loop (.seq (.seq (.ops [⟨(some 55), none, .mov (T 11)⟩, ⟨(some 56), none, .mov (T 8)⟩, ⟨(some 57), none, .len (T 56)⟩, ⟨(some 58), none, .int2 .lss (T 55) (T 57)⟩]) (.cond (T 58) .skip (.exit 0))) (.seq (.block 1 (.seq (.draw [⟨.rd, ⟨(some 61), none, .loadN 3 (T 2)⟩⟩, ⟨.rd, ⟨(some 62), none, .loadN 3 (T 2)⟩⟩, ⟨.up, ⟨(some 12), none, .alloc [(.slice none 0 0), (.slice none 0 0), (.slice none 0 0)]⟩⟩, ⟨.up, ⟨(some 13), none, .alloc [(.slice none 0 0), (.slice none 0 0), (.slice none 0 0)]⟩⟩, ⟨.up, ⟨none, none, .store 3 (T 12) (T 61)⟩⟩, ⟨.any, ⟨none, none, .store 3 (T 13) (T 62)⟩⟩]) (.seq (.ops [⟨(some 63), none, .mov (T 1)⟩, ⟨(some 64), none, .plain (.convert 5 3 (T 63)) 3⟩, ⟨(some 65), none, .fieldAddr 1 (T 2)⟩, ⟨(some 66), none, .load1 (T 65)⟩, ⟨(some 67), none, .len (T 66)⟩, ⟨(some 68), none, .plain (.binOp .rem 3 (T 64) (T 67) 3) 3⟩, ⟨(some 14), none, .mov (T 68)⟩]) (.seq (.draw [⟨.rd1, ⟨(some 69), none, .loadN 3 (T 2)⟩⟩, ⟨.free, ⟨(some 70), none, .mov (T 8)⟩⟩, ⟨.free, ⟨(some 71), none, .mov (T 11)⟩⟩, ⟨.free, ⟨(some 72), none, .idxSl 1 (T 70) (T 71)⟩⟩, ⟨.rd1, ⟨(some 73), none, .load1 (T 72)⟩⟩, ⟨.free, ⟨(some 74), none, .mov (T 5)⟩⟩, ⟨.up, ⟨(some 75), none, .call (.func 33) [(T 69), (T 73), (T 74)]⟩⟩, ⟨.rd, ⟨(some 76), none, .loadN 3 (T 2)⟩⟩, ⟨.free, ⟨(some 77), none, .mov (T 8)⟩⟩, ⟨.free, ⟨(some 78), none, .mov (T 11)⟩⟩, ⟨.free, ⟨(some 79), none, .idxSl 1 (T 77) (T 78)⟩⟩, ⟨.rd, ⟨(some 80), none, .load1 (T 79)⟩⟩, ⟨.free, ⟨(some 81), none, .mov (T 14)⟩⟩, ⟨.any, ⟨(some 82), none, .call (.func 33) [(T 76), (T 80), (T 81)]⟩⟩, ⟨.free, ⟨(some 15), none, .mov (T 75)⟩⟩, ⟨.free, ⟨(some 16), none, .mov (T 82)⟩⟩]) (.seq (.ops [⟨(some 83), none, .bslice 3 0 [(.int .i64 (0)), (.int .i64 (0)), (.int .i64 (0))] [] []⟩, ⟨(some 84), none, .fieldAddr 2 (T 2)⟩, ⟨(some 85), none, .load1 (T 84)⟩, ⟨(some 86), none, .append 3 24 (T 83) (T 85)⟩, ⟨(some 87), none, .mov (T 5)⟩, ⟨(some 88), none, .mov (T 15)⟩, ⟨(some 89), none, .mov (T 15)⟩, ⟨(some 90), none, .build #[(0, 1), (1, 1)] [(.int .i64 (0)), (.int .i64 (0))] [0, 1] [(T 88), (T 89)]⟩, ⟨(some 91), none, .build #[(0, 1), (1, 2)] [(.int .i64 (0)), (.int .i64 (0)), (.int .i64 (0))] [0, 1] [(T 87), (T 90)]⟩, ⟨(some 92), none, .bslice 3 1 [(.int .i64 (0)), (.int .i64 (0)), (.int .i64 (0))] [0] [(T 91)]⟩, ⟨(some 93), none, .append 3 24 (T 86) (T 92)⟩, ⟨(some 94), none, .fieldAddr 2 (T 12)⟩, ⟨none, none, .store 1 (T 94) (T 93)⟩]) (.seq (.ops [⟨(some 95), none, .bslice 3 0 [(.int .i64 (0)), (.int .i64 (0)), (.int .i64 (0))] [] []⟩, ⟨(some 96), none, .fieldAddr 2 (T 2)⟩, ⟨(some 97), none, .load1 (T 96)⟩, ⟨(some 98), none, .append 3 24 (T 95) (T 97)⟩, ⟨(some 99), none, .mov (T 14)⟩, ⟨(some 100), none, .mov (T 16)⟩, ⟨(some 101), none, .mov (T 16)⟩, ⟨(some 102), none, .build #[(0, 1), (1, 1)] [(.int .i64 (0)), (.int .i64 (0))] [0, 1] [(T 100), (T 101)]⟩, ⟨(some 103), none, .build #[(0, 1), (1, 2)] [(.int .i64 (0)), (.int .i64 (0)), (.int .i64 (0))] [0, 1] [(T 99), (T 102)]⟩, ⟨(some 104), none, .bslice 3 1 [(.int .i64 (0)), (.int .i64 (0)), (.int .i64 (0))] [0] [(T 103)]⟩, ⟨(some 105), none, .append 3 24 (T 98) (T 104)⟩, ⟨(some 106), none, .fieldAddr 2 (T 13)⟩, ⟨none, none, .store 1 (T 106) (T 105)⟩]) (.draw [⟨.free, ⟨(some 107), none, .mov (T 9)⟩⟩, ⟨.rd1, ⟨(some 108), none, .loadN 3 (T 12)⟩⟩, ⟨.up, ⟨(some 109), none, .call (.func 64) [(T 108)]⟩⟩, ⟨.free, ⟨(some 110), none, .len (T 109)⟩⟩, ⟨.free, ⟨(some 111), none, .plain (.call { callee := .builtin .max, args := #[(T 107), (T 110)], argTypes := #[3, 3] }) 3⟩⟩, ⟨.free, ⟨(some 112), none, .mov (T 10)⟩⟩, ⟨.rd, ⟨(some 113), none, .loadN 3 (T 13)⟩⟩, ⟨.any, ⟨(some 114), none, .call (.func 64) [(T 113)]⟩⟩, ⟨.free, ⟨(some 115), none, .len (T 114)⟩⟩, ⟨.free, ⟨(some 116), none, .plain (.call { callee := .builtin .max, args := #[(T 112), (T 115)], argTypes := #[3, 3] }) 3⟩⟩, ⟨.free, ⟨(some 9), none, .mov (T 111)⟩⟩, ⟨.free, ⟨(some 10), none, .mov (T 116)⟩⟩]))))))) (.ops [⟨(some 59), none, .mov (T 11)⟩, ⟨(some 60), none, .int2 .add (T 59) (.const (.int .i64 (1)))⟩, ⟨(some 11), none, .mov (T 60)⟩])))))) (.seq (.ops [⟨(some 117), none, .mov (T 9)⟩, ⟨(some 118), none, .mov (T 6)⟩, ⟨(some 119), none, .int2 .eql (T 117) (T 118)⟩, ⟨(some 120), none, .mov (T 119)⟩, ⟨(some 121), (some (120, true)), .mov (T 10)⟩, ⟨(some 122), (some (120, true)), .mov (T 6)⟩, ⟨(some 123), (some (120, true)), .int2 .geq (T 121) (T 122)⟩, ⟨(some 124), none, .pick (T 120) (T 123) (.const (.bool false))⟩, ⟨(some 125), none, .mov (T 124)⟩, ⟨(some 126), (some (125, true)), .call (.func 24) []⟩, ⟨(some 127), none, .pick (T 125) (T 126) (.const (.bool false))⟩, ⟨(some 4), none, .mov (T 127)⟩]) .ret)))))))))
theorem fok13 : FnOk Try.prog 13 128 s13 [.tmp 4] := ⟨Try.f13, _, Try.func13, rfl, Try.ntmps13, by kernel_rfl, by kernel_rfl⟩
set_option maxHeartbeats 4000000 in
theorem asked_m (hn : 11200 ≤ n) (hr : h.next + 900000000 < far) (hfl : h.floor ≤ h.next) {fv vv sv : Value} {Y : MY} (hy : YardR h fv vv sv Y) {a1 : Nat} (w1 : a1 < 256) :
    ∃ v' h', call n (.func (.func 13) #[] #[]) [.agg ⟨[fv, vv, sv]⟩, .int .u8 (a1 : Int)] h = some (v', h') ∧ v' = .bool true := by
  obtain ⟨n, rfl⟩ : ∃ p, n = p + 1 := ⟨n - 1, by omega⟩
  refine call_any0 fok13 rfl rfl (by simp) ?_
  simp only [s13, W_seq, W_ops]
  refine ops_box (cs := [fv, vv, sv]) (by omega) rfl hy.one fun g1 hx1 => ?_
  have n1 := hx1.next
  have f1 := hx1.floor
  have hy1 := hy.mono hx1.sub
  have r1 := hx1.row
  have x1 := r1.whole (n := 3) rfl
  have hrd := ready_c (n := n) (h := g1) (by omega) (by omega) hy1
  have haw := awake_c (n := n) (h := g1) (by omega)
  by_cases c1 : Thin Y ∧ faultN Y = 0
  case neg =>
    rw [decide_eq_false c1] at hrd
    simp only [rn0, rn1, rn2, rn3, rn4, rn5, rn6, rn7, rn8, if_true, if_false, Nat.le_refl, true_and, and_true, decide_true, decide_false, Bool.not_true, Bool.not_false, reduceIte, Nat.reduceEqDiff, Nat.reduceAdd, Nat.reduceMul, Nat.reduceSub, Nat.reduceLeDiff, Nat.reduceLT, x1, hrd, haw]
  rw [decide_eq_true c1] at hrd
  obtain ⟨hT, hf⟩ := c1
  have hG := good_of hf
  obtain ⟨z1, z2, z3⟩ := hG.sz
  obtain ⟨rr, hrw, hq⟩ := hy1.v
  by_cases hnv0 : Y.nv = 0
  · have hd : decide ((Y.nv : Int) = 0) = true := decide_eq_true (by omega)
    simp only [rn0, rn1, rn2, rn3, rn4, rn5, rn6, rn7, rn8, if_true, if_false, Nat.le_refl, true_and, and_true, decide_true, decide_false, Bool.not_true, Bool.not_false, reduceIte, Nat.reduceEqDiff, Nat.reduceAdd, Nat.reduceMul, Nat.reduceSub, Nat.reduceLeDiff, Nat.reduceLT, x1, hrd, r1.ld, Nat.zero_add, List.getElem?_cons_zero, List.getElem?_cons_succ, Cells.len hrw, hd, haw]
  have hnv : ¬ (Y.nv : Int) = 0 := by omega
  obtain ⟨F1, V1, S1, g2, ey2, hy2, m2⟩ := yard_c (n := n) (h := g1) (by omega) (by omega) (by omega) hy1 hT
  have n2 := m2.next
  have u2 := m2.up
  have f2 := m2.floor
  have eask := ask_c (n := n) (h := g2) (by omega) (by omega) hy2 hT
  have hy12 := hy1.mono m2.sub
  have x2 := (r1.mono m2.sub).whole (n := 3) rfl
  obtain ⟨l, g3, et3, hl3, m3⟩ := truthsRef_c (n := n) (h := g2) (by omega) (by omega) (by omega) hy12 hf
  have n3 := m3.next
  have u3 := m3.up
  have f3 := m3.floor
  have s3 : Sub All g1 g3 := m2.sub.trans m3.sub
  change TruthsL g3 l Y.nf (refTruths Y) at hl3
  have r3 := r1.mono s3
  have hy3 := hy1.mono s3
  have haw3 := awake_c (n := n) (h := g3) (by omega)
  obtain ⟨rl, q1, q2⟩ := hl3
  obtain ⟨rr3, hrw3, hq3⟩ := hy3.v
  by_cases he : truths Y = []
  · have hav : askV Y = (0, 0, 11) := by unfold askV; rw [if_neg (by simpa using hf), if_pos he]
    have hlz : (refTruths Y).length = 0 := by rw [(refTruths_nil hf).2 he]; rfl
    rw [hav] at eask
    simp only [rn0, rn1, rn2, rn3, rn4, rn5, rn6, rn7, rn8, if_true, if_false, Nat.le_refl, true_and, and_true, decide_true, decide_false, Bool.not_true, Bool.not_false, reduceIte, Nat.reduceEqDiff, Nat.reduceAdd, Nat.reduceMul, Nat.reduceSub, Nat.reduceLeDiff, Nat.reduceLT, x1, hrd, r1.ld, Nat.zero_add, List.getElem?_cons_zero, List.getElem?_cons_succ, Cells.len hrw, hnv, ey2, eask, ey0, ey1, Vat.ey2, x2, et3, Cells.len q1, hlz, Int.natCast_zero, haw3, Int.reduceEq]
  obtain ⟨a, N, hav, ha, hN, hmin⟩ : ∃ a N : Nat, askV Y = ((a : Int), (N : Int), 0) ∧ a < Y.nv ∧ leavesF Y a = N ∧ ∀ i, i < Y.nv → N ≤ leavesF Y i := by
    obtain ⟨k1, k2, k3, k4⟩ := askN_le (f := leavesF Y) (Y.nv - 1)
    exact ⟨_, _, by unfold askV; rw [if_neg (by simpa using hf), if_neg he, if_neg hnv0], by omega, k2, fun i hi => k3 i (by omega)⟩
  rw [hav] at eask
  have hlz : ¬ ((refTruths Y).length : Int) = 0 := fun e => ((not_congr (refTruths_nil hf)).2 he) (List.eq_nil_of_length_eq_zero (by omega))
  have wv : wrapF .i64 ((Y.nv : Int) - 1) = (Y.nv : Int) - 1 := wrap_in (by omega) (by omega)
  have hin := in_c (n := n) (h := g3) (by omega) (a : Int) 0 ((Y.nv : Int) - 1)
  have hin2 : (0 : Int) ≤ (a : Int) ∧ (a : Int) ≤ (Y.nv : Int) - 1 := by omega
  simp only [rn0, rn1, rn2, rn3, rn4, rn5, rn6, rn7, rn8, if_true, if_false, Nat.le_refl, true_and, and_true, decide_true, decide_false, Bool.not_true, Bool.not_false, reduceIte, Nat.reduceEqDiff, Nat.reduceAdd, Nat.reduceMul, Nat.reduceSub, Nat.reduceLeDiff, Nat.reduceLT, x1, hrd, r1.ld, r3.ld, Nat.zero_add, List.getElem?_cons_zero, List.getElem?_cons_succ, Cells.len hrw, Cells.len hrw3, hnv, ey2, eask, ey0, ey1, Vat.ey2, x2, et3, Cells.len q1, hlz, wv, hin, hin2, and_self, Int.reduceEq]
  obtain ⟨kk, hkk⟩ : ∃ o, o = a1 % Y.nv := ⟨_, rfl⟩
  have hkv : kk < Y.nv := by rw [hkk]; exact Nat.mod_lt _ (by omega)
  have mk : (a1 : Int).tmod (Y.nv : Int) = (kk : Int) := by rw [hkk]; rfl
  have hlen := refTruths_len hf
  have hsz : sizeN Y.lo Y.hi Y.nf ≤ 2000 := (fault_size hf).2
  have hmost : ∀ v, mostL (((refTruths Y).take (refTruths Y).length).map fun t => cntB (blY Y v) (refTruths Y) (blY Y v t)) = leavesF Y v := fun v => by
    rw [List.take_length]
    exact (mostN_perm (truths_perm hf)).symm
  refine W_loop (refTruths Y).length (fun i f g ms => (Sub All g3 g ∧ g.floor = g3.floor ∧ g3.next ≤ g.next ∧ g.next ≤ g3.next + 300000 * i) ∧ ms = [] ∧ f 1 = .int .u8 (a1 : Int) ∧ f 2 = .pointer (some ⟨h.next, 0, none⟩) ∧ f 5 = .int .i64 (a : Int) ∧ f 6 = .int .i64 (N : Int) ∧ f 8 = l ∧
    f 9 = .int .i64 ((mostL (((refTruths Y).take i).map fun t => cntB (blY Y a) (refTruths Y) (blY Y a t)) : Nat) : Int) ∧ f 10 = .int .i64 ((mostL (((refTruths Y).take i).map fun t => cntB (blY Y kk) (refTruths Y) (blY Y kk t)) : Nat) : Int) ∧ f 11 = .int .i64 (i : Int)) (by simp; omega) ?_ ?_ ?_
  · refine ⟨⟨Sub.refl, rfl, Nat.le_refl _, by omega⟩, rfl, ?_⟩
    simp only [rn0, rn1, rn2, rn3, rn4, rn5, rn6, rn7, rn8, if_true, if_false, Nat.le_refl, true_and, and_true, decide_true, decide_false, Bool.not_true, Bool.not_false, reduceIte, Nat.reduceEqDiff, Nat.reduceAdd, Nat.reduceMul, Nat.reduceSub, Nat.reduceLeDiff, Nat.reduceLT, List.take_zero, List.map_nil]
    exact ⟨rfl, rfl, rfl⟩
  · rintro i f g ms hi ⟨⟨sg, fg, ug, bg⟩, rfl, p1, p2, p5, p6, p8, p9, p10, p11⟩
    have hi' : (i : Int) < ((refTruths Y).length : Int) := by omega
    have hw : wrapF .i64 ((i : Int) + 1) = ((i + 1 : Nat) : Int) := by rw [wrap_in (by omega) (by omega)]; rfl
    have q1g := Cells.mono q1 sg
    have ryg := r3.mono sg
    have hyg := hy3.mono sg
    have hself := hyg.self
    simp only [rn0, rn1, rn2, rn3, rn4, rn5, rn6, rn7, rn8, if_true, if_false, Nat.le_refl, true_and, and_true, decide_true, decide_false, Bool.not_true, Bool.not_false, reduceIte, Nat.reduceEqDiff, Nat.reduceAdd, Nat.reduceMul, Nat.reduceSub, Nat.reduceLeDiff, Nat.reduceLT, p1, p2, p5, p6, p8, p9, p10, p11, Cells.len q1g, hi']
    refine W_draw All ?_
    simp only [rn0, rn1, rn2, rn3, rn4, rn5, rn6, rn7, rn8, if_true, if_false, Nat.le_refl, true_and, and_true, decide_true, decide_false, Bool.not_true, Bool.not_false, reduceIte, Nat.reduceEqDiff, Nat.reduceAdd, Nat.reduceMul, Nat.reduceSub, Nat.reduceLeDiff, Nat.reduceLT, p1, p2, p5, p6, p8, p9, p10, p11, ryg.whole (n := 3) rfl, hself]
    refine up_row (cs := [nilS, nilS, nilS]) (by omega) rfl rfl (fun g4 hx => hx.sub) fun g4 hx4 => ?_
    have n4 := hx4.next
    have f4 := hx4.floor
    simp only [rn0, rn1, rn2, rn3, rn4, rn5, rn6, rn7, rn8, if_true, if_false, Nat.le_refl, true_and, and_true, decide_true, decide_false, Bool.not_true, Bool.not_false, reduceIte, Nat.reduceEqDiff, Nat.reduceAdd, Nat.reduceMul, Nat.reduceSub, Nat.reduceLeDiff, Nat.reduceLT, p1, p2, p5, p6, p8, p9, p10, p11]
    refine up_row (cs := [nilS, nilS, nilS]) (by omega) rfl rfl (fun g5 hx => hx4.sub.trans hx.sub) fun g5 hx5 => ?_
    have n5 := hx5.next
    have f5 := hx5.floor
    have e4 : g4.next = g.next + 1 := n4
    simp only [rn0, rn1, rn2, rn3, rn4, rn5, rn6, rn7, rn8, if_true, if_false, Nat.le_refl, true_and, and_true, decide_true, decide_false, Bool.not_true, Bool.not_false, reduceIte, Nat.reduceEqDiff, Nat.reduceAdd, Nat.reduceMul, Nat.reduceSub, Nat.reduceLeDiff, Nat.reduceLT, p1, p2, p5, p6, p8, p9, p10, p11]
    refine up_store (b := g.next) (off := 0) (vs := [fv, vv, sv]) rfl (hx5.sub _ _ _ _ trivial hx4.get) (by omega) (by omega) rfl hy.one rfl (by simp) (fun g6 hs => fun j cs w gr t hg => by
      have := AHeap.lt_of_get hg
      rw [hs.old j (by omega)]; exact hx5.sub _ _ _ _ t (hx4.sub _ _ _ _ t hg)) fun g6 hs6 => ?_
    rw [splice33] at hs6
    have n6 := hs6.next
    have f6 := hs6.floor
    have z6 : g6.get g4.next = some (.row [nilS, nilS, nilS] true 0) := by rw [hs6.old _ (by omega)]; exact hx5.get
    have sub6 : ∀ j, j < g.next → g6.get j = g.get j := fun j hj => by rw [hs6.old j (by omega), hx5.old j (by omega), hx4.old j hj]
    simp only [rn0, rn1, rn2, rn3, rn4, rn5, rn6, rn7, rn8, if_true, if_false, Nat.le_refl, true_and, and_true, decide_true, decide_false, Bool.not_true, Bool.not_false, reduceIte, Nat.reduceEqDiff, Nat.reduceAdd, Nat.reduceMul, Nat.reduceSub, Nat.reduceLeDiff, Nat.reduceLT, p1, p2, p5, p6, p8, p9, p10, p11]
    refine up_store (b := g4.next) (off := 0) (vs := [fv, vv, sv]) rfl z6 (by omega) (by omega) rfl hy.one rfl (by simp) (fun _ _ => trivial) fun g7 hs7 => ?_
    rw [splice33] at hs7
    have n7 := hs7.next
    have f7 := hs7.floor
    have rx7 : g7.get g.next = some (.row [fv, vv, sv] true 0) := by rw [hs7.old _ (by omega)]; exact hs6.get
    have rz7 : g7.get g4.next = some (.row [fv, vv, sv] true 0) := hs7.get
    have sub7 : ∀ j, j < g.next → g7.get j = g.get j := fun j hj => by rw [hs7.old j (by omega), sub6 j hj]
    have s7 : Sub All g g7 := AHeap.subOf sub7
    clear hs6 hs7 z6 sub6
    have ry7 := ryg.mono s7
    have hy7 := hyg.mono s7
    obtain ⟨rr7, hrw7, hq7⟩ := hy7.v
    have hS7 : Samps g7 sv Y.ns Y.sv Y.slo Y.shi := hy7.s
    have q17 := Cells.mono q1g s7
    have q27 : Ints g7 (rl i) Y.nf ((refTruths Y).getD i fun _ => 0) := Cells.mono (Cells.mono (q2 i hi) sg) s7
    have hrg := refTruths_range hf (refTruths_at hi)
    obtain ⟨va1, va2⟩ := hG.v a ha
    obtain ⟨vk1, vk2⟩ := hG.v kk hkv
    have eb1 := blue_c (n := n) (h := g7) (at_ := a) (by omega) (by omega) hy7 q27 (by omega) ha (by omega) hrg (fun k hk => va2 k (by omega))
    have eb2 := blue_c (n := n) (h := g7) (at_ := kk) (by omega) (by omega) hy7 q27 (by omega) hkv (by omega) hrg (fun k hk => vk2 k (by omega))
    have b1 := blueN_bound (b := (refTruths Y).getD i fun _ => 0) (q := Y.q a) (n := Y.nf) (by omega) hrg (fun j hj => va2 j (by omega)) Y.nf (Nat.le_refl _)
    have b2 := blueN_bound (b := (refTruths Y).getD i fun _ => 0) (q := Y.q kk) (n := Y.nf) (by omega) hrg (fun j hj => vk2 j (by omega)) Y.nf (Nat.le_refl _)
    have mx1 := mostL_snoc (b := blY Y a) (fun _ => (0 : Int)) hi
    have mx2 := mostL_snoc (b := blY Y kk) (fun _ => (0 : Int)) hi
    have bl1 : blueN ((refTruths Y).getD i fun _ => 0) (Y.q a) Y.nf = blY Y a ((refTruths Y).getD i fun _ => 0) := rfl
    have bl2 : blueN ((refTruths Y).getD i fun _ => 0) (Y.q kk) Y.nf = blY Y kk ((refTruths Y).getD i fun _ => 0) := rfl
    rw [bl1] at eb1 b1
    rw [bl2] at eb2 b2
    simp only [rn0, rn1, rn2, rn3, rn4, rn5, rn6, rn7, rn8, if_true, if_false, Nat.le_refl, true_and, and_true, decide_true, decide_false, Bool.not_true, Bool.not_false, reduceIte, Nat.reduceEqDiff, Nat.reduceAdd, Nat.reduceMul, Nat.reduceSub, Nat.reduceLeDiff, Nat.reduceLT, p1, p2, p5, p6, p8, p9, p10, p11, p_conv8, r_8 w1, valN_tmp, valN_const, Nat.reduceLT, ry7.ld, Nat.zero_add, List.getElem?_cons_zero, List.getElem?_cons_succ, Cells.len hrw7, r_rem hnv, mk]
    generalize blY Y a ((refTruths Y).getD i fun _ => 0) = p at eb1 b1 mx1
    generalize blY Y kk ((refTruths Y).getD i fun _ => 0) = q at eb2 b2 mx2
    refine W_draw All ?_
    simp only [rn0, rn1, rn2, rn3, rn4, rn5, rn6, rn7, rn8, if_true, if_false, Nat.le_refl, true_and, and_true, decide_true, decide_false, Bool.not_true, Bool.not_false, reduceIte, Nat.reduceEqDiff, Nat.reduceAdd, Nat.reduceMul, Nat.reduceSub, Nat.reduceLeDiff, Nat.reduceLT, p1, p2, p5, p6, p8, p9, p10, p11, ry7.whole (n := 3) rfl, Cells.idx q17 hi, Cells.ld q17 hi Nat.zero_lt_one, eb1, eb2, hy7.self, Cells.self q27]
    obtain ⟨e0, ga, a1v, gb, t1, t2, o1, o2, happ⟩ := plus_append (h := g7) hS7 (by omega) (by omega) (by omega)
    obtain ⟨b1v, gc, SX, g8, t3, t4, o8, hSX, old8, u8, nn8, f8, blk8⟩ := happ (a : Int) p p
    have ry7a : Row ga h.next [fv, vv, sv] := ry7.mono (AHeap.subOf o1)
    simp only [rn0, rn1, rn2, rn3, rn4, rn5, rn6, rn7, rn8, if_true, if_false, Nat.le_refl, true_and, and_true, decide_true, decide_false, Bool.not_true, Bool.not_false, reduceIte, Nat.reduceEqDiff, Nat.reduceAdd, Nat.reduceMul, Nat.reduceSub, Nat.reduceLeDiff, Nat.reduceLT, p1, p2, p5, p6, p8, p9, p10, p11, t1, ry7a.ld, Nat.zero_add, List.getElem?_cons_zero, List.getElem?_cons_succ, t2, build_range, build_samp, t3, t4]
    refine step_store (b := g.next) (off := 2) (vs := [SX]) rfl (by rw [old8 _ (by omega)]; exact rx7) (by omega) (by omega) (by cases SX <;> first | rfl | cases o8) (by simp [allB, o8]) rfl (by simp) fun g9 hs9 => ?_
    rw [spliceN2] at hs9
    have n9 := hs9.next
    have f9 := hs9.floor
    have old9 : ∀ j, j < g.next → g9.get j = g7.get j := fun j hj => by rw [hs9.old j (by omega), old8 j (by omega)]
    have s79 : Sub All g g9 := AHeap.subOf fun j hj => by rw [old9 j hj, sub7 j hj]
    have rz9 : g9.get g4.next = some (.row [fv, vv, sv] true 0) := by rw [hs9.old _ (by omega), old8 _ (by omega)]; exact rz7
    have rx9 : g9.get g.next = some (.row [fv, vv, SX] true 0) := hs9.get
    have hy9 := hyg.mono s79
    have ry9 := ryg.mono s79
    have hSX9 : Samps g9 SX (Y.ns + 1) _ _ _ := Cells.keep hSX hs9.keep fun x k c e => by have := blk8 x k c e; omega
    have hS9 : Samps g9 sv Y.ns Y.sv Y.slo Y.shi := hy9.s
    obtain ⟨e0', ga', a1v', gb', t1', t2', o1', o2', happ'⟩ := plus_append (h := g9) hS9 (by omega) (by omega) (by omega)
    obtain ⟨b1v', gc', SZ, g10, t3', t4', o10, hSZ, old10, u10, nn10, f10, blk10⟩ := happ' (kk : Int) q q
    have ry9a : Row ga' h.next [fv, vv, sv] := ry9.mono (AHeap.subOf o1')
    simp only [rn0, rn1, rn2, rn3, rn4, rn5, rn6, rn7, rn8, if_true, if_false, Nat.le_refl, true_and, and_true, decide_true, decide_false, Bool.not_true, Bool.not_false, reduceIte, Nat.reduceEqDiff, Nat.reduceAdd, Nat.reduceMul, Nat.reduceSub, Nat.reduceLeDiff, Nat.reduceLT, p1, p2, p5, p6, p8, p9, p10, p11, t1', ry9a.ld, Nat.zero_add, List.getElem?_cons_zero, List.getElem?_cons_succ, t2', build_range, build_samp, t3', t4']
    refine step_store (b := g4.next) (off := 2) (vs := [SZ]) rfl (by rw [old10 _ (by omega)]; exact rz9) (by omega) (by omega) (by cases SZ <;> first | rfl | cases o10) (by simp [allB, o10]) rfl (by simp) fun g11 hs11 => ?_
    rw [spliceN2] at hs11
    have n11 := hs11.next
    have f11 := hs11.floor
    have old11 : ∀ j, j < g4.next → g11.get j = g9.get j := fun j hj => by rw [hs11.old j (by omega), old10 j (by omega)]
    have s711 : Sub All g g11 := AHeap.subOf fun j hj => by rw [old11 j (by omega), old9 j hj, sub7 j hj]
    have rx11 : Row g11 g.next [fv, vv, SX] := ⟨_, _, by rw [old11 _ (by omega)]; exact rx9⟩
    have rz11 : Row g11 g4.next [fv, vv, SZ] := hs11.row
    have hy11 := hyg.mono s711
    have hSX11 : Samps g11 SX (Y.ns + 1) _ _ _ := Cells.keep (Cells.mono hSX9 (AHeap.subOf old10)) hs11.keep fun x k c e => by have := blk8 x k c e; omega
    have hSZ11 : Samps g11 SZ (Y.ns + 1) _ _ _ := Cells.keep hSZ hs11.keep fun x k c e => by have := blk10 x k c e; omega
    have hX : YardR g11 fv vv SX (plus Y (a : Int) p p) := ⟨hy11.f, hy11.v, hSX11⟩
    have hZ : YardR g11 fv vv SZ (plus Y (kk : Int) q q) := ⟨hy11.f, hy11.v, hSZ11⟩
    obtain ⟨lx, g12, ex, hlx, m12⟩ := truths6_c (n := n) (h := g11) (by omega) (by omega) (by omega) hX (plus_good6 hf ha (by omega)) hsz
    have n12 := m12.next
    have u12 := m12.up
    have f12 := m12.floor
    obtain ⟨lz, g13, ez, hlz', m13⟩ := truths6_c (n := n) (h := g12) (by omega) (by omega) (by omega) (hZ.mono m12.sub) (plus_good6 hf hkv (by omega)) hsz
    have n13 := m13.next
    have u13 := m13.up
    have f13 := m13.floor
    obtain ⟨rlx, qx, _⟩ := hlx
    obtain ⟨rlz, qz, _⟩ := hlz'
    have plx := plus_len (Y := Y) (v := a) (x := p)
    have plz := plus_len (Y := Y) (v := kk) (x := q)
    have lenx : ∀ h' : AHeap, lenA lx h' = some (.int .i64 ((cntB (blY Y a) (refTruths Y) p : Nat) : Int), h') := fun h' => by rw [← plx]; exact Cells.len qx h'
    have lenz : ∀ h' : AHeap, lenA lz h' = some (.int .i64 ((cntB (blY Y kk) (refTruths Y) q : Nat) : Int), h') := fun h' => by rw [← plz]; exact Cells.len qz h'
    have mxa : max ((mostL (((refTruths Y).take i).map fun t => cntB (blY Y a) (refTruths Y) (blY Y a t)) : Nat) : Int) ((cntB (blY Y a) (refTruths Y) p : Nat) : Int) = ((mostL (((refTruths Y).take (i + 1)).map fun t => cntB (blY Y a) (refTruths Y) (blY Y a t)) : Nat) : Int) := by omega
    have mxb : max ((mostL (((refTruths Y).take i).map fun t => cntB (blY Y kk) (refTruths Y) (blY Y kk t)) : Nat) : Int) ((cntB (blY Y kk) (refTruths Y) q : Nat) : Int) = ((mostL (((refTruths Y).take (i + 1)).map fun t => cntB (blY Y kk) (refTruths Y) (blY Y kk t)) : Nat) : Int) := by omega
    refine W_draw All ?_
    simp only [rn0, rn1, rn2, rn3, rn4, rn5, rn6, rn7, rn8, if_true, if_false, Nat.le_refl, true_and, and_true, decide_true, decide_false, Bool.not_true, Bool.not_false, reduceIte, Nat.reduceEqDiff, Nat.reduceAdd, Nat.reduceMul, Nat.reduceSub, Nat.reduceLeDiff, Nat.reduceLT, p1, p2, p5, p6, p8, p9, p10, p11, rx11.whole (n := 3) rfl, rz11.whole (n := 3) rfl, hZ.self, ex, ez, lenx, lenz, valN_tmp, Nat.reduceLT, mxa, mxb, hw]
    have fl : g13.floor = g3.floor := by rw [f13, f12, f11, f10, f9, f8, f7, f6, f5, f4, fg]
    have up1 : g.next ≤ g13.next := by omega
    have up2 : g13.next ≤ g.next + 300000 := by omega
    refine ⟨⟨u12, m12.sub⟩, u13, sg.trans (s711.trans (m12.sub.trans m13.sub)), fl, Nat.le_trans ug up1, ?_⟩
    rw [Nat.mul_add]
    exact Nat.le_trans up2 (by omega)
  · rintro f g ms ⟨⟨sg, fg, ug, bg⟩, rfl, p1, p2, p5, p6, p8, p9, p10, p11⟩
    rw [hmost] at p9 p10
    have h9 : decide (((leavesF Y a : Nat) : Int) = (N : Int)) = true := decide_eq_true (by omega)
    have h10 : decide ((N : Int) ≤ ((leavesF Y kk : Nat) : Int)) = true := decide_eq_true (by have := hmin kk hkv; omega)
    have haw4 := awake_c (n := n) (h := g) (by omega)
    have q1g := Cells.mono q1 sg
    simp only [rn0, rn1, rn2, rn3, rn4, rn5, rn6, rn7, rn8, if_true, if_false, Nat.le_refl, true_and, and_true, decide_true, decide_false, Bool.not_true, Bool.not_false, reduceIte, Nat.reduceEqDiff, Nat.reduceAdd, Nat.reduceMul, Nat.reduceSub, Nat.reduceLeDiff, Nat.reduceLT, p1, p2, p5, p6, p8, p9, p10, p11, Cells.len q1g, Int.lt_irrefl, h9, h10, haw4]
theorem askedLaw_c (hn : 11200 ≤ n) (hr : h.next + 900000000 < far) (hfl : h.floor ≤ h.next) {fv vv sv : Value} {Y : MY} (hy : YardR h fv vv sv Y) (a1 : Int) (wf1 : (Lit.int .u8 a1).wf = true) :
    ∃ v' h', call n (.func (.func 13) #[] #[]) [.agg ⟨[fv, vv, sv]⟩, .int .u8 a1] h = some (v', h') ∧ v' = .bool true := by
  obtain ⟨k1, rfl, h1⟩ := wf8 wf1
  exact asked_m hn hr hfl hy h1
end Go.Vm.Vat
