/- Texts of the proofs of this seat, put together: VmLib. -/
import Derived.Test.YtjihegbffhhcaaaPk4

namespace Go.Vm
theorem rn0 : type_of% @W_skip ∧ type_of% @W_ret ∧ type_of% @W_exit ∧ type_of% @W_seq ∧ type_of% @W_block ∧ type_of% @then_norm' ∧ type_of% @then_exit' ∧ type_of% @then_ret' ∧ type_of% @block_norm' ∧ type_of% @block_ret' ∧ type_of% @block_exit' ∧ type_of% @W_cond ∧ type_of% @cond_true' ∧ type_of% @cond_false' ∧ type_of% @W_ops ∧ type_of% @ops_nil ∧ type_of% @ops_cons ∧ type_of% @ops_guard ∧ type_of% @step_some ∧ type_of% @g_tt ∧ type_of% @g_tf ∧ type_of% @g_ft ∧ type_of% @g_ff ∧ type_of% @put_some ∧ type_of% @put_none ∧ type_of% @upd_ite ∧ type_of% @val_tmp ∧ type_of% @fr0_zero ∧ type_of% @fr0_succ ∧ type_of% @ret_ret ∧ type_of% @ret_norm ∧ type_of% @res_tmp ∧ type_of% @ex_some ∧ type_of% @val_const ∧ type_of% @val_func ∧ type_of% @vals_nil ∧ type_of% @vals_cons ∧ type_of% @d_nil ∧ type_of% @d_free ∧ type_of% @d_rd1 ∧ type_of% @d_rd ∧ type_of% @d_up ∧ type_of% @d_any ∧ type_of% @same_some ∧ type_of% @up_some ∧ type_of% @all_reads ∧ type_of% @Sub.refl ∧ type_of% @x_mov ∧ type_of% @x_pick ∧ type_of% @pick_t ∧ type_of% @pick_f ∧ type_of% @x_field1 ∧ type_of% @x_fieldN ∧ type_of% @x_extract ∧ type_of% @x_box ∧ type_of% @x_alloc ∧ type_of% @x_load1 ∧ type_of% @x_loadN ∧ type_of% @withH_some' ∧ type_of% @x_store := And.intro @W_skip (And.intro @W_ret (And.intro @W_exit (And.intro @W_seq (And.intro @W_block (And.intro @then_norm' (And.intro @then_exit' (And.intro @then_ret' (And.intro @block_norm' (And.intro @block_ret' (And.intro @block_exit' (And.intro @W_cond (And.intro @cond_true' (And.intro @cond_false' (And.intro @W_ops (And.intro @ops_nil (And.intro @ops_cons (And.intro @ops_guard (And.intro @step_some (And.intro @g_tt (And.intro @g_tf (And.intro @g_ft (And.intro @g_ff (And.intro @put_some (And.intro @put_none (And.intro @upd_ite (And.intro @val_tmp (And.intro @fr0_zero (And.intro @fr0_succ (And.intro @ret_ret (And.intro @ret_norm (And.intro @res_tmp (And.intro @ex_some (And.intro @val_const (And.intro @val_func (And.intro @vals_nil (And.intro @vals_cons (And.intro @d_nil (And.intro @d_free (And.intro @d_rd1 (And.intro @d_rd (And.intro @d_up (And.intro @d_any (And.intro @same_some (And.intro @up_some (And.intro @all_reads (And.intro @Sub.refl (And.intro @x_mov (And.intro @x_pick (And.intro @pick_t (And.intro @pick_f (And.intro @x_field1 (And.intro @x_fieldN (And.intro @x_extract (And.intro @x_box (And.intro @x_alloc (And.intro @x_load1 (And.intro @x_loadN (And.intro @withH_some' (@x_store)))))))))))))))))))))))))))))))))))))))))))))))))))))))))))
theorem rn1 : type_of% @x_mkfunc ∧ type_of% @x_mkslice ∧ type_of% @x_slice ∧ type_of% @x_fieldAddr ∧ type_of% @fieldAt_p ∧ type_of% @x_idxArr ∧ type_of% @x_idxSl ∧ type_of% @x_append ∧ type_of% @x_there ∧ type_of% @x_len ∧ type_of% @len_slice ∧ type_of% @x_not ∧ type_of% @not_bool ∧ type_of% @x_call ∧ type_of% @x_int2 ∧ type_of% @i_add ∧ type_of% @i_sub ∧ type_of% @i_mul ∧ type_of% @i_eql ∧ type_of% @i_neq ∧ type_of% @i_lss ∧ type_of% @i_leq ∧ type_of% @i_gtr ∧ type_of% @i_geq ∧ type_of% @x_plain ∧ type_of% @p_min ∧ type_of% @p_max ∧ type_of% @p_rem ∧ type_of% @p_quo ∧ type_of% @r_min ∧ type_of% @r_max ∧ type_of% @p_shl ∧ type_of% @p_or ∧ type_of% @p_and ∧ type_of% @p_andNot ∧ type_of% @eqV_i ∧ type_of% @x_bslice ∧ type_of% @x_build ∧ type_of% @res_cellN ∧ type_of% @res_cell1 ∧ type_of% @valN_tmp ∧ type_of% @valN_const := And.intro @x_mkfunc (And.intro @x_mkslice (And.intro @x_slice (And.intro @x_fieldAddr (And.intro @fieldAt_p (And.intro @x_idxArr (And.intro @x_idxSl (And.intro @x_append (And.intro @x_there (And.intro @x_len (And.intro @len_slice (And.intro @x_not (And.intro @not_bool (And.intro @x_call (And.intro @x_int2 (And.intro @i_add (And.intro @i_sub (And.intro @i_mul (And.intro @i_eql (And.intro @i_neq (And.intro @i_lss (And.intro @i_leq (And.intro @i_gtr (And.intro @i_geq (And.intro @x_plain (And.intro @p_min (And.intro @p_max (And.intro @p_rem (And.intro @p_quo (And.intro @r_min (And.intro @r_max (And.intro @p_shl (And.intro @p_or (And.intro @p_and (And.intro @p_andNot (And.intro @eqV_i (And.intro @x_bslice (And.intro @x_build (And.intro @res_cellN (And.intro @res_cell1 (And.intro @valN_tmp (@valN_const)))))))))))))))))))))))))))))))))))))))))
theorem rn2 : type_of% @if_true.{1} ∧ type_of% @if_false.{1} ∧ type_of% @Nat.le_refl ∧ type_of% @true_and ∧ type_of% @and_true ∧ type_of% @decide_true ∧ type_of% @decide_false ∧ type_of% @Bool.not_true ∧ type_of% @Bool.not_false := And.intro @if_true.{1} (And.intro @if_false.{1} (And.intro @Nat.le_refl (And.intro @true_and (And.intro @and_true (And.intro @decide_true (And.intro @decide_false (And.intro @Bool.not_true (@Bool.not_false))))))))
end Go.Vm
namespace Go.Vm.Vat
set_option linter.unusedSimpArgs false
set_option linter.unusedVariables false
set_option maxRecDepth 10000
noncomputable def A (f : Nat) : Bool := inL [42, 116, 80, 125, 108, 32, 33, 88, 70, 31, 38, 39, 96, 44, 97, 45, 50, 47, 66, 71, 110, 57, 52, 23, 29, 37, 60, 62, 117, 113, 82, 118, 100, 84, 86, 92, 98, 87, 77, 91, 123, 114, 126, 81, 83, 85, 103, 30, 76, 79, 115, 95, 28, 49, 99, 119, 94, 40, 46, 107, 124, 129, 130, 53, 41, 75, 112, 68] f
variable {n : Nat} {h : AHeap}
def Ranges (h : AHeap) (v : Value) (n : Nat) (lo hi : Nat → Int) : Prop := Cells h v 2 n fun k j => .int .i64 (if j = 0 then lo k else hi k)
def Samps (h : AHeap) (v : Value) (n : Nat) (at_ lo hi : Nat → Int) : Prop := Cells h v 3 n fun k j => .int .i64 (if j = 0 then at_ k else if j = 1 then lo k else hi k)
theorem ranges_ld {v : Value} {n : Nat} {lo hi : Nat → Int} (hr : Ranges h v n lo hi) {k : Nat} (hk : k < n) : loadAgg 2 h (ptrO v 2 k 0) = some (.agg ⟨[.int .i64 (lo k), .int .i64 (hi k)]⟩) := by
  rw [Cells.ldN hr hk (by omega) (by omega)]; simp [List.range_succ]
theorem samps_ld {v : Value} {n : Nat} {at_ lo hi : Nat → Int} (hr : Samps h v n at_ lo hi) {k : Nat} (hk : k < n) : loadAgg 3 h (ptrO v 3 k 0) = some (.agg ⟨[.int .i64 (at_ k), .int .i64 (lo k), .int .i64 (hi k)]⟩) := by
  rw [Cells.ldN hr hk (by omega) (by omega)]; simp [List.range_succ]
theorem Cells.one {v : Value} {s n : Nat} {c : Nat → Nat → Value} (hc : Cells h v s n c) : oneCell v = true := by obtain ⟨a, cap, rfl, _⟩ := hc; rfl
def blueN (b : Nat → Int) (q : Nat → Int) : Nat → Int
  | 0 => 0
  | i + 1 => blueN b q i + b i * q i
theorem blueN_bound {b q : Nat → Int} {n : Nat} (hn : n ≤ 30) (hb : ∀ k, k < n → 0 ≤ b k ∧ b k ≤ 20) (hq : ∀ k, k < n → 0 ≤ q k ∧ q k ≤ 9) : ∀ i, i ≤ n → 0 ≤ blueN b q i ∧ blueN b q i ≤ 180 * i := by
  intro i
  induction i with
  | zero => intro _; exact ⟨by simp [blueN], by simp [blueN]⟩
  | succ i ih =>
    intro hi
    obtain ⟨h1, h2⟩ := ih (by omega)
    obtain ⟨h3, h4⟩ := hb i (by omega)
    obtain ⟨h5, h6⟩ := hq i (by omega)
    have h7 : 0 ≤ b i * q i := Int.mul_nonneg h3 h5
    have h8 : b i * q i ≤ 20 * 9 := Int.mul_le_mul h4 h6 h5 (by omega)
    simp only [blueN]
    constructor <;> omega
variable {n : Nat} {h : AHeap}
def manyN (lo hi : Nat → Int) : Nat → Int
  | 0 => 1
  | i + 1 => min 3000 (manyN lo hi i * (hi i - lo i + 1))
theorem manyN_bound {lo hi : Nat → Int} {n : Nat} (hv : ∀ k, k < n → 0 ≤ lo k ∧ lo k ≤ hi k ∧ hi k ≤ 20) : ∀ i, i ≤ n → 1 ≤ manyN lo hi i ∧ manyN lo hi i ≤ 3000 := by
  intro i
  induction i with
  | zero => intro _; simp [manyN]
  | succ i ih =>
    intro hi'
    obtain ⟨h1, h2⟩ := ih (by omega)
    obtain ⟨h3, h4, h5⟩ := hv i (by omega)
    have h6 : 1 * 1 ≤ manyN lo hi i * (hi i - lo i + 1) := Int.mul_le_mul h1 (by omega) (by omega) (by omega)
    simp only [manyN]
    constructor <;> omega
variable {n : Nat} {h : AHeap}
variable {n : Nat} {h : AHeap}
theorem or_pow {a i : Nat} (ha : a < 2 ^ i) : a ||| 2 ^ i = a + 2 ^ i := by
  have := Nat.two_pow_add_eq_or_of_lt ha 1
  rw [Nat.mul_one] at this
  rw [Nat.or_comm, ← this, Nat.add_comm]
variable {n : Nat} {h : AHeap}
variable {n : Nat} {h : AHeap}
theorem build_range {x y : Int} : buildA (fun x => (#[(0, 1), (1, 1)] : Array (Nat × Nat))[x]?) ⟨[.int .i64 0, .int .i64 0]⟩ [0, 1] h [.int .i64 x, .int .i64 y] = some (.agg ⟨[.int .i64 x, .int .i64 y]⟩, h) := id rfl
structure Made (h h1 : AHeap) (k : Nat) : Prop where
  sub : Sub All h h1
  next : h1.next ≤ h.next + k
  up : h.next ≤ h1.next
  floor : h1.floor = h.floor
theorem Ints.cells {v : Value} {m : Nat} {a : Nat → Int} (hi : Ints h v m a) : ∃ x k, v = .slice x m k ∧ cellsOfSlice h 1 v = some ((List.range m).map fun i => .int .i64 (a i)) := by
  obtain ⟨x, cap, rfl, _, h0 | ⟨b, o, cs, w, gr, rfl, h1, h2⟩⟩ := hi
  · subst h0
    refine ⟨x, cap, rfl, ?_⟩
    cases x <;> rfl
  · refine ⟨_, cap, rfl, ?_⟩
    by_cases hm : m = 0
    · subst hm; rfl
    have hb : Nat.beq m 0 = false := by
      cases hb : Nat.beq m 0 with
      | false => rfl
      | true => exact absurd (beq_iff.1 hb) hm
    show (bif Nat.beq m 0 then some [] else match h.get b with
      | some (.row cs _ _) => dropK cs o fun r => takeK r (m * 1) fun l => some l
      | _ => none) = _
    have hl := (List.getElem?_eq_some_iff.1 (h2 (m - 1) 0 (by omega) (by omega))).1
    rw [hb, cond_false, h1]
    simp only [dropK_eq, takeK_eq]
    rw [if_pos (by omega), if_pos (by rw [List.length_drop]; omega)]
    congr 1
    apply List.ext_getElem?
    intro i
    simp only [List.getElem?_map, List.getElem?_take, List.getElem?_drop, Nat.mul_one]
    by_cases hi : i < m
    · rw [if_pos hi, List.getElem?_range hi]
      have := h2 i 0 hi (by omega)
      rw [show o + i * 1 + 0 = o + i by omega] at this
      rw [this]; rfl
    · rw [if_neg hi, List.getElem?_eq_none (by simp; omega)]
      rfl
theorem build_none {z : Value} : buildSl 1 0 [z] [] h [] = newSlice h [] 0 0 0 := id rfl
theorem append_none {s bytes b : Nat} {y : Value} {m : Nat} {new : List Value} (hy : ∃ x k, y = .slice x m k) (hyc : cellsOfSlice h s y = some new) (hnl : new.length = m * s) (hb1 : m * bytes ≤ maxBytes) (hb2 : m ≤ maxBytes) :
    appendA s bytes h (.slice (some ⟨b, 0, none⟩) 0 0) y = if m = 0 then some (.slice (some ⟨b, 0, none⟩) 0 0, h) else newSlice h new m unk s := by
  obtain ⟨a, k, rfl⟩ := hy
  have e1 : Nat.ble ((0 + m) * bytes) maxBytes = true := ble_iff.2 (by rw [Nat.zero_add]; exact hb1)
  have e2 : Nat.ble (0 + m) maxBytes = true := ble_iff.2 (by omega)
  have e3 : Nat.beq (len new) (m * s) = true := by rw [len_eq]; exact beq_iff.2 hnl
  unfold appendA
  simp only [hyc, e1, e2, e3, Bool.and_self, cond_true]
  by_cases hm : m = 0
  · subst hm
    rw [if_pos rfl]
    rfl
  · rw [if_neg hm]
    have e4 : Nat.ble (0 + m) 0 = false := by
      cases hb : Nat.ble (0 + m) 0 with
      | false => rfl
      | true => have := ble_iff.1 hb; omega
    rw [e4, Bool.false_and, cond_false]
    unfold appendGrow
    have e5 : cellsOfSlice h s (.slice (some ⟨b, 0, none⟩) 0 0) = some [] := rfl
    have e6 : Nat.blt 0 unk = true := rfl
    simp only [e5, e6, cond_true, app_eq, List.nil_append, Nat.zero_add]
variable {n : Nat} {h : AHeap}
theorem sl_range {x y : Int} : buildSl 2 1 [.int .i64 0, .int .i64 0] [0] h [.agg ⟨[.int .i64 x, .int .i64 y]⟩] = newSlice h [.int .i64 x, .int .i64 y] 1 1 0 := id rfl
theorem sl_samp {x y z : Int} : buildSl 3 1 [.int .i64 0, .int .i64 0, .int .i64 0] [0] h [.agg ⟨[.int .i64 x, .int .i64 y, .int .i64 z]⟩] = newSlice h [.int .i64 x, .int .i64 y, .int .i64 z] 1 1 0 := id rfl
theorem sl_one {v : Value} (hv : oneCell v = true) : buildSl 1 1 [.slice none 0 0] [0] h [v] = newSlice h [v] 1 1 0 := by
  cases v <;> first | rfl | cases hv
theorem build_samp {x y z : Int} : buildA (fun x => (#[(0, 1), (1, 2)] : Array (Nat × Nat))[x]?) ⟨[.int .i64 0, .int .i64 0, .int .i64 0]⟩ [0, 1] h [.int .i64 x, .agg ⟨[.int .i64 y, .int .i64 z]⟩] = some (.agg ⟨[.int .i64 x, .int .i64 y, .int .i64 z]⟩, h) := id rfl
abbrev nilS : Value := .slice none 0 0
theorem grew {o : Nat} {b g1 g2 : AHeap} {x : Value} {r : AObj} (k : Keep o b g1) (hk : Kept g1 g2 x) (hb : ∀ a k c, x = .slice (some a) k c → b.next ≤ a.block) (ho : o < b.next) (hout : g1.get o = some r) : Keep o b g2 ∧ g2.get o = some r :=
  ⟨hk.keep k hb, by rw [hk.old o (AHeap.lt_of_get hout) fun a k c e => by have := hb a k c e; omega]; exact hout⟩
theorem set_keep {o : Nat} {b g1 g2 : AHeap} {cs : List Value} {gr : Nat} (k : Keep o b g1) (hs : Set1 g1 g2 o cs gr) : Keep o b g2 := k.trans hs.keep
variable {n : Nat} {h : AHeap}
variable {n : Nat} {h : AHeap}
def sizeN (lo hi : Nat → Int) : Nat → Int
  | 0 => 1
  | i + 1 => sizeN lo hi i * (hi i - lo i + 1)
theorem sizeN_bound {lo hi : Nat → Int} {m : Nat} (hm : m ≤ 5) (hv : ∀ k, k < m → 0 ≤ lo k ∧ lo k ≤ hi k ∧ hi k ≤ 20) : ∀ i, i ≤ m → 1 ≤ sizeN lo hi i ∧ sizeN lo hi i ≤ 21 ^ i := by
  intro i
  induction i with
  | zero => intro _; simp [sizeN]
  | succ i ih =>
    intro hi'
    obtain ⟨h1, h2⟩ := ih (by omega)
    obtain ⟨h3, h4, h5⟩ := hv i (by omega)
    have h6 : 1 * 1 ≤ sizeN lo hi i * (hi i - lo i + 1) := Int.mul_le_mul h1 (by omega) (by omega) (by omega)
    have h7 : sizeN lo hi i * (hi i - lo i + 1) ≤ 21 ^ i * 21 := Int.mul_le_mul h2 (by omega) (by omega) (by omega)
    simp only [sizeN]
    exact ⟨by omega, by rw [Int.pow_succ]; exact h7⟩
theorem sizeN_many {lo hi : Nat → Int} {m : Nat} (hm : m ≤ 5) (hv : ∀ k, k < m → 0 ≤ lo k ∧ lo k ≤ hi k ∧ hi k ≤ 20) : ∀ i, i ≤ m → manyN lo hi i = min 3000 (sizeN lo hi i) := by
  intro i
  induction i with
  | zero => intro _; rfl
  | succ i ih =>
    intro hi'
    have := ih (by omega)
    obtain ⟨h1, _⟩ := sizeN_bound hm hv i (by omega)
    obtain ⟨h3, h4, h5⟩ := hv i (by omega)
    simp only [sizeN, manyN, this]
    by_cases hb : sizeN lo hi i ≤ 3000
    · rw [Int.min_eq_right hb]
    · rw [Int.min_eq_left (show (3000 : Int) ≤ sizeN lo hi i by omega)]
      have h6 : 3000 * 1 ≤ 3000 * (hi i - lo i + 1) := Int.mul_le_mul (by omega) (by omega) (by omega) (by omega)
      have h7 : 3000 * 1 ≤ sizeN lo hi i * (hi i - lo i + 1) := Int.mul_le_mul (by omega) (by omega) (by omega) (by omega)
      omega
variable {n : Nat} {h : AHeap}
theorem build_work {F V S : Value} : buildA (fun x => (#[(0, 3), (3, 1)] : Array (Nat × Nat))[x]?) ⟨[.slice none 0 0, .slice none 0 0, .slice none 0 0, .slice none 0 0]⟩ [0] h [.agg ⟨[F, V, S]⟩] = some (.agg ⟨[F, V, S, .slice none 0 0]⟩, h) := id rfl
variable {n : Nat} {h : AHeap}
theorem idxArr_p {l k b o : Nat} (hk : k < l) : indexArr l 1 (.pointer (some ⟨b, o, none⟩)) (.int .i64 (k : Int)) = some (.pointer (some ⟨b, o + k, none⟩)) := by
  show placeAt ⟨b, o, none⟩ (Int.ofNat k) l 1 = _
  unfold placeAt
  simp only [blt_iff.2 hk, cond_true, Nat.mul_one]
def arr (b : Nat → Int) : List Value := (List.range 5).map fun i => .int .i64 (b i)
theorem arr_get {b : Nat → Int} {k : Nat} (hk : k < 5) : (arr b)[k]? = some (.int .i64 (b k)) := by
  rw [arr, List.getElem?_map, List.getElem?_range hk]; rfl
variable {n : Nat} {h : AHeap}
theorem arr_one {b : Nat → Int} : allB oneCell (arr b) = true := by rw [allB_iff]; intro v hv; obtain ⟨i, _, rfl⟩ := List.mem_map.1 hv; rfl
theorem arr_len {b : Nat → Int} : (arr b).length = 5 := by simp [arr]
theorem _root_.Go.Vm.Row.whole {b n : Nat} {cs : List Value} (hr : Row h b cs) (hl : cs.length = n) : loadAgg n h (.pointer (some ⟨b, 0, none⟩)) = some (.agg ⟨cs⟩) := by
  rw [hr.ldN 0 n (by omega) (by simp [hl]), List.drop_zero, ← hl, List.take_length]
variable {n : Nat} {h : AHeap}
def upto (k : Nat) (b : Nat → Int) (i : Nat) : Int := if i < k then b i else 0
theorem splice_arr {k : Nat} {b : Nat → Int} (hk : k < 5) : splice (arr (upto k b)) k [.int .i64 (b k)] = arr (upto (k + 1) b) := by
  obtain rfl | rfl | rfl | rfl | rfl : k = 0 ∨ k = 1 ∨ k = 2 ∨ k = 3 ∨ k = 4 := by omega
  all_goals simp [splice, arr, upto, List.range_succ]
theorem x_buildArr {P : Program} {cf : CallF} {N : Nat} {f : Fr} {s : Nat} {zc : List Value} {is : List Nat} {vs : List Operand} : sem P cf N f h (.buildArr s zc is vs) = buildA (fun i => some (i * s, s)) ⟨zc⟩ is h (vals f vs) := id rfl
theorem build_zero {zc : List Value} {pl : Nat → Option (Nat × Nat)} : buildA pl ⟨zc⟩ [] h [] = some (.agg ⟨zc⟩, h) := id rfl
theorem res_two {a n t : Nat} {f : Fr} : resV f h [.cellN a n, .tmp t] = match loadAgg n h (f a) with
  | some v => some (.tuple ⟨[v, f t]⟩)
  | none => none := by
  simp only [resV, resL, res1]
  cases loadAgg n h (f a) <;> rfl
theorem splice_all {cs vs : List Value} (hl : cs.length = vs.length) : splice cs 0 vs = vs := by simp [splice, hl]
theorem arr_zero {b : Nat → Int} : arr (upto 0 b) = [.int .i64 0, .int .i64 0, .int .i64 0, .int .i64 0, .int .i64 0] := rfl
variable {n : Nat} {h : AHeap}
theorem blueN_congr {b c q : Nat → Int} : ∀ i, (∀ k, k < i → b k = c k) → blueN b q i = blueN c q i
  | 0, _ => rfl
  | i + 1, hc => by simp only [blueN]; rw [blueN_congr i fun k hk => hc k (by omega), hc i (by omega)]
theorem blueN_upto {b q : Nat → Int} {nf : Nat} : blueN (upto nf b) q nf = blueN b q nf := blueN_congr nf fun k hk => by simp [upto, hk]
def mix (n k : Nat) (a : Nat → Int) : List Value := (List.range n).map fun i => .int .i64 (if i < k then a i else 0)
theorem mix_len {n k : Nat} {a : Nat → Int} : (mix n k a).length = n := by simp [mix]
theorem mix_get {n k i : Nat} {a : Nat → Int} (hi : i < n) : (mix n k a)[i]? = some (.int .i64 (if i < k then a i else 0)) := by
  rw [mix, List.getElem?_map, List.getElem?_range hi]; rfl
theorem mix_one {n k : Nat} {a : Nat → Int} : allB oneCell (mix n k a) = true := by rw [allB_iff]; intro v hv; obtain ⟨i, _, rfl⟩ := List.mem_map.1 hv; rfl
theorem mix_splice {n k : Nat} {a : Nat → Int} (hk : k < n) : splice (mix n k a) k [.int .i64 (a k)] = mix n (k + 1) a := by
  apply List.ext_getElem?
  intro i
  by_cases hi : i < n
  · rw [mix_get hi]
    simp only [splice]
    by_cases h1 : i < k
    · rw [List.getElem?_append_left (by simp [mix_len]; omega), List.getElem?_take, if_pos h1, mix_get hi, if_pos h1, if_pos (by omega)]
    · rw [List.getElem?_append_right (by simp [mix_len]; omega)]
      have e : (List.take k (mix n k a)).length = k := by simp [mix_len]; omega
      rw [e]
      by_cases h2 : i = k
      · subst h2
        simp
      · rw [List.getElem?_append_right (by simp; omega), List.getElem?_drop]
        simp only [List.length_cons, List.length_nil]
        rw [show k + (0 + 1) + (i - k - (0 + 1)) = i by omega, mix_get hi, if_neg h1, if_neg (by omega)]
  · rw [List.getElem?_eq_none (by simp [splice, mix_len]; omega), List.getElem?_eq_none (by rw [mix_len]; omega)]
theorem repl_mix {n : Nat} {a : Nat → Int} : repl [.int .i64 0] n = mix n 0 a := by
  have : ∀ n, repl [(.int .i64 0 : Value)] n = List.replicate n (.int .i64 0) := by
    intro n
    induction n with
    | zero => rfl
    | succ n ih => simp [repl, ih, List.replicate_succ]
  rw [this, mix]
  apply List.ext_getElem?
  intro i
  by_cases hi : i < n
  · rw [List.getElem?_replicate, if_pos hi, List.getElem?_map, List.getElem?_range hi]; simp
  · rw [List.getElem?_eq_none (by simp; omega), List.getElem?_eq_none (by simp; omega)]
theorem make_ints {s : Nat} {z : List Value} {m : Nat} (hm : m ≤ 1000) : makeSl s 8 z h (.int .i64 (m : Int)) (.int .i64 (m : Int)) = newSlice h (repl z m) m m 0 := by
  show (bif Nat.ble m m && Nat.ble (m * 8) maxBytes && Nat.ble m maxBytes then newSlice h (repl z m) m m 0 else none) = _
  have e1 : Nat.ble m m = true := ble_iff.2 (Nat.le_refl _)
  have e2 : Nat.ble (m * 8) maxBytes = true := ble_iff.2 (by simp [maxBytes]; omega)
  have e3 : Nat.ble m maxBytes = true := ble_iff.2 (by simp [maxBytes]; omega)
  rw [e1, e2, e3]; rfl
theorem idxSl_p {k m c o : Nat} (hk : k < m) : indexSl 1 (.slice (some ⟨o, 0, none⟩) m c) (.int .i64 (k : Int)) = some (.pointer (some ⟨o, k, none⟩)) := by
  show placeAt ⟨o, 0, none⟩ (Int.ofNat k) m 1 = _
  unfold placeAt
  simp only [blt_iff.2 hk, cond_true, Nat.mul_one, Nat.zero_add]
theorem ex0 {x y : Value} : extractA 0 (.tuple ⟨[x, y]⟩) h = some (x, h) := id rfl
theorem ex1 {x y : Value} : extractA 1 (.tuple ⟨[x, y]⟩) h = some (y, h) := id rfl
theorem ret_tt {a b : Nat} {f : Fr} : resV f h [.tmp a, .tmp b] = some (.tuple ⟨[f a, f b]⟩) := id rfl
variable {n : Nat} {h : AHeap}
def enumB (lo hi : Nat → Int) : Nat → Nat → (Nat → Int) → List (Nat → Int)
  | 0, _, c => [c]
  | d + 1, i, c => (List.range (hi i - lo i + 1).toNat).flatMap fun (k : Nat) => enumB lo hi d (i + 1) fun j => if j = i then lo i + (k : Int) else c j
theorem enumB_congr {lo hi : Nat → Int} : ∀ (d i : Nat) (c c' : Nat → Int), (∀ j, j < i ∨ i + d ≤ j → c j = c' j) → enumB lo hi d i c = enumB lo hi d i c'
  | 0, i, c, c', hc => by
    have : c = c' := funext fun j => hc j (by omega)
    rw [this]
  | d + 1, i, c, c', hc => by
    simp only [enumB]
    congr 1
    funext k
    refine enumB_congr d (i + 1) _ _ fun j hj => ?_
    by_cases e : j = i
    · simp [e]
    · simp only [e, if_false]
      exact hc j (by omega)
def runL {σ α : Type} (step : σ → α → σ × Bool) : σ → List α → σ × Bool
  | s, [] => (s, true)
  | s, x :: l => if (step s x).2 then runL step (step s x).1 l else ((step s x).1, false)
theorem runL_append {σ α : Type} {step : σ → α → σ × Bool} : ∀ (l1 l2 : List α) (s : σ), runL step s (l1 ++ l2) = if (runL step s l1).2 then runL step (runL step s l1).1 l2 else runL step s l1
  | [], l2, s => by simp [runL]
  | x :: l1, l2, s => by
    simp only [List.cons_append, runL]
    by_cases e : (step s x).2 = true
    · simp only [e, if_true]; exact runL_append l1 l2 _
    · simp [e]
theorem arr_splice {k : Nat} {c : Nat → Int} {x : Int} (hk : k < 5) : splice (arr c) k [.int .i64 x] = arr fun j => if j = k then x else c j := by
  obtain rfl | rfl | rfl | rfl | rfl : k = 0 ∨ k = 1 ∨ k = 2 ∨ k = 3 ∨ k = 4 := by omega
  all_goals simp [splice, arr, List.range_succ]
section
variable {σ : Type}
structure It (pw py pc : Nat) (W : List Value) (yv cv F : Value) (nf : Nat) (lo hi : Nat → Int) (g : AHeap) : Prop where
  w : Row g pw W
  y : Row g py [yv]
  c : Row g pc [cv]
  f : Ranges g F nf lo hi
theorem It.set {pw py pc pb gr : Nat} {W cs : List Value} {yv cv F : Value} {nf : Nat} {lo hi : Nat → Int} {g g' : AHeap} (hi' : It pw py pc W yv cv F nf lo hi g) (hs : Set1 g g' pb cs gr) (h1 : pw ≠ pb) (h2 : py ≠ pb) (h3 : pc ≠ pb)
    (hF : ∀ a k cap, F = .slice (some a) k cap → a.block ≠ pb ∨ nf = 0) : It pw py pc W yv cv F nf lo hi g' := by
  refine ⟨hi'.w.keep hs.keep h1, hi'.y.keep hs.keep h2, hi'.c.keep hs.keep h3, ?_⟩
  obtain ⟨a, cap, e, hsp, h0 | ⟨b, o, cs, w, gr, rfl, e1, e2⟩⟩ := hi'.f
  · exact ⟨a, cap, e, hsp, .inl h0⟩
  · rcases hF _ _ _ e with h4 | h4
    · exact ⟨_, cap, e, hsp, .inr ⟨b, o, cs, w, gr, rfl, hs.keep.sub _ _ _ _ h4 e1, e2⟩⟩
    · exact ⟨_, cap, e, hsp, .inl h4⟩
theorem part_flat {α : Type} (f : Nat → List α) {k m : Nat} (hk : k < m) : ∃ l, (List.range m).flatMap f = (List.range k).flatMap f ++ (f k ++ l) := by
  refine ⟨((List.range (m - (k + 1))).map (k + 1 + ·)).flatMap f, ?_⟩
  have : List.range m = List.range k ++ ([k] ++ (List.range (m - (k + 1))).map (k + 1 + ·)) := by
    have h1 := List.range_add (n := k + 1) (m := m - (k + 1))
    rw [show k + 1 + (m - (k + 1)) = m by omega] at h1
    rw [h1, List.range_succ, List.append_assoc]
  rw [this, List.flatMap_append, List.flatMap_append]
  simp
structure Old (g g1 : AHeap) (k : Nat) : Prop where
  old : ∀ i, i < g.next → g1.get i = g.get i
  next : g1.next = g.next + k
  floor : g1.floor = g.floor
theorem Old.sub {g g1 : AHeap} {k : Nat} (ho : Old g g1 k) : Sub All g g1 := fun i cs w gr _ hg => by rw [ho.old i (AHeap.lt_of_get hg)]; exact hg
end
variable {n : Nat} {h : AHeap}
section
variable {σ : Type}
theorem runL_go {α : Type} {step : σ → α → σ × Bool} {Go : σ → Prop} (hG : ∀ s c, Go s → (step s c).2 = true → Go (step s c).1) : ∀ (l : List α) (s : σ), Go s → (runL step s l).2 = true → Go (runL step s l).1
  | [], s, h, _ => h
  | x :: l, s, h, e => by
    by_cases h1 : (step s x).2 = true
    · simp only [runL, h1, if_true] at e ⊢
      exact runL_go hG l _ (hG s x h h1) e
    · simp only [runL, h1, Bool.false_eq_true, if_false] at e
end
variable {n : Nat} {h : AHeap}
def prodFrom (lo hi : Nat → Int) : Nat → Nat → Int
  | 0, _ => 1
  | d + 1, i => (hi i - lo i + 1) * prodFrom lo hi d (i + 1)
theorem sizeN_prod {lo hi : Nat → Int} : ∀ (d i : Nat), sizeN lo hi (i + d) = sizeN lo hi i * prodFrom lo hi d i
  | 0, i => by simp [prodFrom]
  | d + 1, i => by
    have := sizeN_prod (lo := lo) (hi := hi) d (i + 1)
    rw [show i + (d + 1) = i + 1 + d by omega, this]
    simp only [sizeN, prodFrom, Int.mul_assoc]
theorem enumB_len {lo hi : Nat → Int} : ∀ (d i : Nat) (c : Nat → Int), (∀ k, i ≤ k → k < i + d → lo k ≤ hi k) → ((enumB lo hi d i c).length : Int) = prodFrom lo hi d i
  | 0, i, c, _ => by simp [enumB, prodFrom]
  | d + 1, i, c, hv => by
    have h0 := hv i (by omega) (by omega)
    have hm : ((hi i - lo i + 1).toNat : Int) = hi i - lo i + 1 := Int.toNat_of_nonneg (by omega)
    have : ∀ m : Nat, ((((List.range m).flatMap fun (k : Nat) => enumB lo hi d (i + 1) fun j => if j = i then lo i + (k : Int) else c j).length : Nat) : Int) = m * prodFrom lo hi d (i + 1) := by
      intro m
      induction m with
      | zero => simp
      | succ m ih =>
        rw [List.range_succ, List.flatMap_append, List.length_append]
        have e := enumB_len d (i + 1) (fun j => if j = i then lo i + (m : Int) else c j) fun k h1 h2 => hv k (by omega) (by omega)
        simp only [List.flatMap_cons, List.flatMap_nil, List.append_nil]
        rw [Int.natCast_add, ih, e, Int.natCast_add, Int.add_mul]
        simp
    simp only [enumB, prodFrom]
    rw [this, hm]
theorem enumB_ok {lo hi : Nat → Int} : ∀ (d i : Nat) (c x : Nat → Int), x ∈ enumB lo hi d i c ↔ ((∀ j, i ≤ j → j < i + d → lo j ≤ x j ∧ x j ≤ hi j) ∧ ∀ j, j < i ∨ i + d ≤ j → x j = c j)
  | 0, i, c, x => by
    simp only [enumB, List.mem_singleton]
    constructor
    · rintro rfl; exact ⟨fun j h1 h2 => by omega, fun _ _ => rfl⟩
    · rintro ⟨_, h2⟩; exact funext fun j => h2 j (by omega)
  | d + 1, i, c, x => by
    simp only [enumB, List.mem_flatMap, List.mem_range, enumB_ok d (i + 1)]
    constructor
    · rintro ⟨k, hk, h1, h2⟩
      refine ⟨fun j h3 h4 => ?_, fun j hj => ?_⟩
      · by_cases e : j = i
        · subst e
          have := h2 j (by omega)
          simp only [if_true] at this
          omega
        · exact h1 j (by omega) (by omega)
      · have := h2 j (by omega)
        rw [if_neg (by omega)] at this
        exact this
    · rintro ⟨h1, h2⟩
      obtain ⟨h3, h4⟩ := h1 i (by omega) (by omega)
      refine ⟨(x i - lo i).toNat, by omega, fun j h5 h6 => h1 j (by omega) (by omega), fun j hj => ?_⟩
      by_cases e : j = i
      · subst e; simp only [if_true]; omega
      · simp only [e, if_false]; exact h2 j (by omega)
def TruthsR (h : AHeap) (v : Value) (l : List (Nat → Int)) : Prop := Cells h v 5 l.length fun k j => .int .i64 ((l.getD k fun _ => 0) j)
theorem _root_.Go.Vm.Cells.old {g : AHeap} {v : Value} {s n : Nat} {c : Nat → Nat → Value} (hc : Cells h v s n c) (ho : ∀ i, i < h.next → g.get i = h.get i) : Cells g v s n c :=
  hc.mono fun i cs w gr _ hg => by rw [ho i (AHeap.lt_of_get hg)]; exact hg
theorem _root_.Go.Vm.AHeap.subOf {g : AHeap} (ho : ∀ i, i < h.next → g.get i = h.get i) : Sub All h g := fun i cs w gr _ hg => by rw [ho i (AHeap.lt_of_get hg)]; exact hg
theorem arr_eq {c : Nat → Int} : arr c = [.int .i64 (c 0), .int .i64 (c 1), .int .i64 (c 2), .int .i64 (c 3), .int .i64 (c 4)] := rfl
theorem sl_arr {c : Nat → Int} : buildSl 5 1 [.int .i64 0, .int .i64 0, .int .i64 0, .int .i64 0, .int .i64 0] [0] h [.agg ⟨arr c⟩] = newSlice h (arr c) 1 1 0 := by rw [arr_eq]; exact id rfl
def Long (v : Value) : Prop := ∀ a n c, v = .slice a n c → c = 1 → n ≤ 1
theorem _root_.Go.Vm.GrowC.long {B s n : Nat} {v : Value} {c : Nat → Nat → Value} (hg : GrowC B h v s n c) : Long v := by
  obtain ⟨cs, ⟨rfl, _, _⟩ | ⟨b, rfl, _⟩, _⟩ := hg
  · intro a n c e; cases e; intro _; omega
  · intro a n c e; cases e; intro h; simp [unk] at h
theorem build_work0 : buildA (fun x => (#[(0, 3), (3, 1)] : Array (Nat × Nat))[x]?) ⟨[.slice none 0 0, .slice none 0 0, .slice none 0 0, .slice none 0 0]⟩ [] h [] = some (.agg ⟨[nilS, nilS, nilS, nilS]⟩, h) := id rfl
variable {n : Nat} {h : AHeap}
noncomputable def findFrom (p : Nat → Prop) : Nat → Nat → Int
  | 0, _ => -1
  | d + 1, k => open Classical in if p k then (k : Int) else findFrom p d (k + 1)
theorem findFrom_skip {p : Nat → Prop} : ∀ (k m : Nat), k ≤ m → (∀ j, j < k → ¬ p j) → findFrom p m 0 = findFrom p (m - k) k := by
  intro k
  induction k with
  | zero => intro m _ _; rfl
  | succ k ih =>
    intro m hk hp
    rw [ih m (by omega) fun j hj => hp j (by omega)]
    obtain ⟨d, hd⟩ : ∃ d, m - k = d + 1 := ⟨m - k - 1, by omega⟩
    rw [hd, findFrom, if_neg (hp k (by omega)), show m - (k + 1) = d by omega]
theorem findFrom_at {p : Nat → Prop} {k m : Nat} (hk : k < m) (hp : ∀ j, j < k → ¬ p j) (h : p k) : findFrom p m 0 = k := by
  rw [findFrom_skip k m (by omega) hp]
  obtain ⟨d, hd⟩ : ∃ d, m - k = d + 1 := ⟨m - k - 1, by omega⟩
  rw [hd, findFrom, if_pos h]
theorem findFrom_none {p : Nat → Prop} {m : Nat} (hp : ∀ j, j < m → ¬ p j) : findFrom p m 0 = -1 := by
  rw [findFrom_skip m m (Nat.le_refl _) hp, Nat.sub_self]; rfl
theorem findFrom_iff {p : Nat → Prop} {m : Nat} : 0 ≤ findFrom p m 0 ↔ ∃ k, k < m ∧ p k := by
  constructor
  · intro h
    apply Classical.byContradiction
    intro hn
    rw [findFrom_none fun j hj hp => hn ⟨j, hj, hp⟩] at h
    omega
  · rintro ⟨k, hk, hp⟩
    have : ∀ k, k < m → p k → 0 ≤ findFrom p m 0 := by
      intro k
      induction k using Nat.strongRecOn with
      | _ k ih =>
        intro hk hp
        by_cases e : ∃ j, j < k ∧ p j
        · obtain ⟨j, h1, h2⟩ := e; exact ih j h1 (by omega) h2
        · rw [findFrom_at hk (fun j hj hp => e ⟨j, hj, hp⟩) hp]; omega
    exact this k hk hp
theorem plain_arr {c : Nat → Int} : plainV (.agg ⟨arr c⟩) = true := by
  show allB plainCell (arr c) = true
  rw [allB_iff]; intro v hv; obtain ⟨i, _, rfl⟩ := List.mem_map.1 hv; rfl
def SameB (a b : Nat → Int) : Prop := ∀ k, k ∈ List.range 5 → a k = b k
instance (a b : Nat → Int) : Decidable (SameB a b) := inferInstanceAs (Decidable (∀ k, k ∈ List.range 5 → a k = b k))
theorem x_binA {P : Program} {cf : CallF} {N : Nat} {f : Fr} {b : BinOp} {op : Op} {ty : TypeId} {x y : Operand} : sem P cf N f h (.bin b op ty x y) = binA P N b op ty (val f x) (val f y) f h := id rfl
theorem binA_agg {P : Program} {N : Nat} {f : Fr} {op : Op} {ty : TypeId} {l r : Array Value} : binA P N .eql op ty (.agg l) (.agg r) f h = plainF P N op ty f h := id rfl
theorem truths_ld {v : Value} {l : List (Nat → Int)} (ht : TruthsR h v l) {k : Nat} (hk : k < l.length) : loadAgg 5 h (ptrO v 5 k 0) = some (.agg ⟨arr (l.getD k fun _ => 0)⟩) := by
  rw [Cells.ldN ht hk (by omega) (by omega)]
  simp [arr, List.range_succ]
def HasB (l : List (Nat → Int)) (c : Nat → Int) : Prop := ∃ k, k < l.length ∧ SameB c (l.getD k fun _ => 0)
noncomputable instance (l : List (Nat → Int)) (c : Nat → Int) : Decidable (HasB l c) := Classical.propDecidable _
variable {n : Nat} {h : AHeap}
theorem binA_neqB {P : Program} {N : Nat} {f : Fr} {op : Op} {ty : TypeId} {a b : Bool} : binA P N .neq op ty (.bool a) (.bool b) f h = plainF P N op ty f h := id rfl
theorem neq_self {a : Bool} : (!(a == a)) = false := by cases a <;> rfl
theorem Made.trans {a b c : AHeap} {j k : Nat} (h1 : Made a b j) (h2 : Made b c k) : Made a c (j + k) := ⟨h1.sub.trans h2.sub, by have := h1.next; have := h2.next; omega, by have := h1.up; have := h2.up; omega, by rw [h2.floor, h1.floor]⟩
theorem Made.of {a b : AHeap} {cs : List Value} {gr : Nat} (hn : New a b cs gr) : Made a b 1 := ⟨hn.sub, by rw [hn.next]; omega, by rw [hn.next]; omega, hn.floor⟩
variable {n : Nat} {h : AHeap}
def sz (lo hi : Nat → Int) (k : Nat) : Nat := (hi k - lo k + 1).toNat
def divN (s : Nat → Nat) (m : Nat) : Nat → Nat
  | 0 => m
  | k + 1 => divN s m k / s k
def nthB (lo hi : Nat → Int) (nf m : Nat) (k : Nat) : Int := if k < nf then lo k + ((divN (sz lo hi) m k % sz lo hi k : Nat) : Int) else 0
theorem divN_le (s : Nat → Nat) (m : Nat) : ∀ k, divN s m k ≤ m
  | 0 => Nat.le_refl _
  | k + 1 => Nat.le_trans (Nat.div_le_self _ _) (divN_le s m k)
theorem one_get {v : Value} : ∀ j, j < 1 → [v][j]? = some v := fun j hj => by
  have : j = 0 := by omega
  subst this; rfl
theorem sl_int {x : Int} : buildSl 1 1 [.int .i64 0] [0] h [.int .i64 x] = newSlice h [.int .i64 x] 1 1 0 := id rfl
variable {n : Nat} {h : AHeap}
def GrowRows (B : Nat) (h : AHeap) (v : Value) (n : Nat) (cnt : Nat → Nat) (q : Nat → Nat → Int) : Prop :=
  ∃ r : Nat → Value, GrowC B h v 1 n (fun k _ => r k) ∧ ∀ i, i < n → Ints h (r i) (cnt i) (q i) ∧ ∀ a m c, r i = .slice (some a) m c → B ≤ a.block ∧ a.block < h.next ∧ ∀ b m' c', v = .slice (some b) m' c' → a.block ≠ b.block
theorem GrowRows.nil {B : Nat} {cnt : Nat → Nat} {q : Nat → Nat → Int} : GrowRows B h nilS 0 cnt q := ⟨fun _ => nilS, .nil, fun i hi => by omega⟩
theorem GrowRows.rows {B : Nat} {v : Value} {n : Nat} {cnt : Nat → Nat} {q : Nat → Nat → Int} (hg : GrowRows B h v n cnt q) : Rows h v n cnt q := by
  obtain ⟨r, h1, h2⟩ := hg
  exact ⟨r, h1.cells, fun i hi => (h2 i hi).1⟩
theorem GrowRows.keep {B o : Nat} {g : AHeap} {v : Value} {n : Nat} {cnt : Nat → Nat} {q : Nat → Nat → Int} (hg : GrowRows B h v n cnt q) (hk : Keep o h g) (ho : o < B) : GrowRows B g v n cnt q := by
  obtain ⟨r, h1, h2⟩ := hg
  refine ⟨r, h1.keep hk ho, fun i hi => ?_⟩
  obtain ⟨h3, h4⟩ := h2 i hi
  exact ⟨Cells.keep h3 hk fun a k c e => by have := (h4 a k c e).1; omega, fun a m c e => by
    obtain ⟨k1, k2, k3⟩ := h4 a m c e
    exact ⟨k1, Nat.lt_of_lt_of_le k2 hk.up, k3⟩⟩
theorem GrowRows.sub {B : Nat} {g : AHeap} {v : Value} {n : Nat} {cnt : Nat → Nat} {q : Nat → Nat → Int} (hg : GrowRows B h v n cnt q) (hs : Sub All h g) (hup : h.next ≤ g.next) : GrowRows B g v n cnt q := by
  obtain ⟨r, h1, h2⟩ := hg
  refine ⟨r, h1.sub hs, fun i hi => ?_⟩
  obtain ⟨h3, h4⟩ := h2 i hi
  exact ⟨Cells.mono h3 hs, fun a m c e => by
    obtain ⟨k1, k2, k3⟩ := h4 a m c e
    exact ⟨k1, Nat.lt_of_lt_of_le k2 hup, k3⟩⟩
theorem GrowRows.congr {B : Nat} {v : Value} {n : Nat} {cnt cnt' : Nat → Nat} {q q' : Nat → Nat → Int} (hg : GrowRows B h v n cnt q) (h1 : ∀ i, i < n → cnt i = cnt' i) (h2 : ∀ i, i < n → q i = q' i) : GrowRows B h v n cnt' q' := by
  obtain ⟨r, k1, k2⟩ := hg
  exact ⟨r, k1, fun i hi => by rw [← h1 i hi, ← h2 i hi]; exact k2 i hi⟩
theorem GrowRows.push {B : Nat} {h1 : AHeap} {v l : Value} {n : Nat} {cnt : Nat → Nat} {q : Nat → Nat → Int} (hg : GrowRows B h v n cnt q) (hB : h.floor ≤ B) (hf : h.next + 2 < far) (hBn : B ≤ h.next) (hl : Ints h l (cnt n) (q n)) (hone : oneCell l = true)
    (hb : ∀ a k c, l = .slice (some a) k c → B ≤ a.block ∧ a.block < h.next ∧ ∀ b m' c', v = .slice (some b) m' c' → a.block ≠ b.block) (hx : New h h1 [l] 0) (hn : (n + 1) * 24 ≤ maxBytes) (hn1 : n + 1 ≤ maxBytes) :
    ∃ v' g, appendA 1 24 h1 v (.slice (some ⟨h.next, 0, none⟩) 1 1) = some (v', g) ∧ GrowRows B g v' (n + 1) cnt q ∧ Kept h1 g v ∧ oneCell v' = true ∧ (∀ a k c, v = .slice (some a) k c → B ≤ a.block) := by
  obtain ⟨r, g1, g2⟩ := hg
  have hnx := hx.next
  have hfl := hx.floor
  let r' : Nat → Value := fun i => if i = n then l else r i
  have g1' : GrowC B h1 v 1 n (fun k _ => r' k) := (g1.sub hx.sub).congr fun k j hk hj => by show r k = if k = n then l else r k; rw [if_neg (by omega)]
  obtain ⟨v', g, e, ev, gv, hk⟩ := g1'.append (bytes := 24) (cap := 1) (by omega) (by omega) (by omega) hx.get rfl (by simp [allB, hone]) (fun j hj => by rw [one_get j hj]; show some l = some (if n = n then l else r n); rw [if_pos rfl]) hn hn1
  refine ⟨v', g, e, ⟨r', gv, fun i hi => ?_⟩, hk, gv.one, fun a k c e => (g1.block e).1⟩
  have hkn := hk.next
  have hmain : ∀ (x : Value) (m : Nat) (a : Nat → Int), Ints h x m a → (∀ a k c, x = .slice (some a) k c → B ≤ a.block ∧ a.block < h.next ∧ ∀ b m' c', v = .slice (some b) m' c' → a.block ≠ b.block) →
      Ints g x m a ∧ ∀ a k c, x = .slice (some a) k c → B ≤ a.block ∧ a.block < g.next ∧ ∀ b m' c', v' = .slice (some b) m' c' → a.block ≠ b.block := by
    intro x m a hx1 hx2
    refine ⟨Cells.kept (Cells.mono hx1 hx.sub) hk fun a k c e b k' c' e' => (hx2 a k c e).2.2 b k' c' e', fun a k c e => ?_⟩
    obtain ⟨k1, k2, _⟩ := hx2 a k c e
    refine ⟨k1, by omega, fun b m' c' e' => ?_⟩
    rw [ev] at e'
    cases e'
    show a.block ≠ h1.next
    omega
  by_cases hin : i = n
  · subst hin
    have : r' i = l := by show (if i = i then l else r i) = l; rw [if_pos rfl]
    rw [this]
    exact hmain l _ _ hl hb
  · have : r' i = r i := by show (if i = n then l else r i) = r i; rw [if_neg hin]
    rw [this]
    obtain ⟨k1, k2⟩ := g2 i (by omega)
    exact hmain _ _ _ k1 k2
theorem sl_row {v : Value} (hv : oneCell v = true) : buildSl 1 1 [.slice none 0 0] [0] h [v] = newSlice h [v] 1 1 0 := sl_one hv
def TruthsL (h : AHeap) (v : Value) (nf : Nat) (l : List (Nat → Int)) : Prop := Rows h v l.length (fun _ => nf) fun k => l.getD k fun _ => 0
def encF (s d : Nat → Nat) : Nat → Nat → Nat
  | 0, _ => 0
  | c + 1, i => d i + s i * encF s d c (i + 1)
theorem encF_div {s d : Nat → Nat} {nf : Nat} (hd : ∀ i, i < nf → d i < s i) : ∀ k, k ≤ nf → divN s (encF s d nf 0) k = encF s d (nf - k) k := by
  intro k
  induction k with
  | zero => intro _; rfl
  | succ k ih =>
    intro hk
    have h1 := hd k (by omega)
    obtain ⟨c, hc⟩ : ∃ c, nf - k = c + 1 := ⟨nf - k - 1, by omega⟩
    simp only [divN]
    rw [ih (by omega), hc, show nf - (k + 1) = c by omega]
    simp only [encF]
    rw [Nat.add_mul_div_left _ _ (by omega), Nat.div_eq_of_lt h1, Nat.zero_add]
theorem encF_mod {s d : Nat → Nat} {nf : Nat} (hd : ∀ i, i < nf → d i < s i) {k : Nat} (hk : k < nf) : divN s (encF s d nf 0) k % s k = d k := by
  rw [encF_div hd k (by omega)]
  obtain ⟨c, hc⟩ : ∃ c, nf - k = c + 1 := ⟨nf - k - 1, by omega⟩
  rw [hc]
  simp only [encF]
  rw [Nat.add_mul_mod_self_left, Nat.mod_eq_of_lt (hd k hk)]
def prodN (s : Nat → Nat) : Nat → Nat → Nat
  | 0, _ => 1
  | c + 1, i => s i * prodN s c (i + 1)
theorem encF_lt {s d : Nat → Nat} : ∀ (c i : Nat), (∀ j, i ≤ j → j < i + c → d j < s j) → encF s d c i < prodN s c i
  | 0, i, _ => by simp [encF, prodN]
  | c + 1, i, hd => by
    have h1 := hd i (by omega) (by omega)
    have h2 := encF_lt c (i + 1) fun j h1 h2 => hd j (by omega) (by omega)
    simp only [encF, prodN]
    have h3 : s i * (encF s d c (i + 1) + 1) ≤ s i * prodN s c (i + 1) := Nat.mul_le_mul_left _ h2
    rw [Nat.mul_add, Nat.mul_one] at h3
    omega
theorem prodN_from {lo hi : Nat → Int} : ∀ (c i : Nat), (∀ j, i ≤ j → j < i + c → lo j ≤ hi j) → ((prodN (sz lo hi) c i : Nat) : Int) = prodFrom lo hi c i
  | 0, i, _ => rfl
  | c + 1, i, hv => by
    have h1 := hv i (by omega) (by omega)
    have h2 := prodN_from (lo := lo) (hi := hi) c (i + 1) fun j h1 h2 => hv j (by omega) (by omega)
    have hsz : ((sz lo hi i : Nat) : Int) = hi i - lo i + 1 := Int.toNat_of_nonneg (by omega)
    simp only [prodN, prodFrom]
    rw [Int.natCast_mul, h2, hsz]
variable {n : Nat} {h : AHeap}
def minN (x : Int) (a : Nat → Int) : Nat → Int
  | 0 => x
  | i + 1 => min (minN x a i) (a i)
variable {n : Nat} {h : AHeap}
theorem tail_c {v : Value} {s m : Nat} {c : Nat → Nat → Value} (hc : Cells h v s m c) (hm : 0 < m) (hlong : Long v) (hf : h.next < far) :
    ∃ v' h', sliceA s false h v (some (.int .i64 1)) none none = some (v', h') ∧ Cells h' v' s (m - 1) (fun k j => c (k + 1) j) ∧ Sub All h h' ∧ h.next ≤ h'.next ∧ h'.next ≤ h.next + 1 ∧ h'.floor = h.floor ∧ oneCell v' = true ∧ ∀ g, Cells g v s m c → Cells g v' s (m - 1) (fun k j => c (k + 1) j) := by
  obtain ⟨b, o, cap, cs, w, gr, rfl, h1, h2⟩ := hc.ptr hm
  have e1 : boundA 0 (some (.int .i64 1)) = some 1 := rfl
  have e2 : boundA m none = some m := rfl
  have e3 : Nat.ble 1 m = true := ble_iff.2 hm
  have e4 : Nat.ble m m = true := ble_iff.2 (Nat.le_refl _)
  have hcell : ∀ g, Cells g (.slice (some ⟨b, o, none⟩) m cap) s m c → ∀ cp, Cells g (.slice (addrPlus (some ⟨b, o, none⟩) (1 * s)) (m - 1) cp) s (m - 1) (fun k j => c (k + 1) j) := fun g hcg cp => by
    obtain ⟨b', o', cap', cs, w, gr, e, h1, h2⟩ := hcg.ptr hm
    cases e
    have ea : addrPlus (some ⟨b, o, none⟩) (1 * s) = some ⟨b, o + s, none⟩ := by
      simp only [addrPlus, Nat.one_mul]
    rw [ea]
    refine ⟨_, cp, rfl, fun x e => by cases e; rfl, ?_⟩
    by_cases h0 : m - 1 = 0
    · exact .inl h0
    · exact .inr ⟨b, o + s, cs, w, gr, rfl, h1, fun k j hk hj => by
        have := h2 (k + 1) j (by omega) hj
        rw [Nat.add_mul, Nat.one_mul] at this
        rw [show o + s + k * s + j = o + (k * s + s) + j by omega]
        exact this⟩
  unfold sliceA
  simp only [e1, e2, e3, e4, Bool.and_self, cond_true]
  cases hc1 : Nat.blt cap unk with
  | true =>
    simp only [cond_true]
    cases hc2 : Nat.beq cap 1 with
    | true =>
      simp only [cond_true]
      by_cases h0 : m - 1 = 0
      · exact ⟨_, _, rfl, ⟨_, _, rfl, fun x e => by cases e; rfl, .inl h0⟩, Sub.refl, Nat.le_refl _, by omega, rfl, rfl, fun g _ => ⟨_, _, rfl, fun x e => by cases e; rfl, .inl h0⟩⟩
      · exact absurd (hlong _ _ _ rfl (beq_iff.1 hc2)) (by omega)
    | false =>
      simp only [cond_false]
      exact ⟨_, _, rfl, hcell h hc _, Sub.refl, Nat.le_refl _, by omega, rfl, rfl, fun g hg => hcell g hg _⟩
  | false =>
    have e5 : Nat.beq 1 0 = false := rfl
    simp only [cond_false, e5]
    cases hc3 : Nat.blt 1 m with
    | true =>
      simp only [cond_true]
      exact ⟨_, _, rfl, hcell h hc _, Sub.refl, Nat.le_refl _, by omega, rfl, rfl, fun g hg => hcell g hg _⟩
    | false =>
      have h0 : m - 1 = 0 := by
        have : ¬ 1 < m := fun h => by rw [blt_iff.2 h] at hc3; cases hc3
        omega
      simp only [cond_false]
      rw [push_run hf]
      have hmm := more_more hf none
      exact ⟨_, _, rfl, ⟨_, _, by rw [h0], fun x e => by cases e; rfl, .inl h0⟩, hmm.sub, by rw [hmm.next]; omega, by rw [hmm.next]; omega, hmm.floor, rfl, fun g _ => ⟨_, _, by rw [h0], fun x e => by cases e; rfl, .inl h0⟩⟩
theorem le_minN {x : Int} {a : Nat → Int} {b : Int} : ∀ m, b ≤ minN x a m ↔ b ≤ x ∧ ∀ i, i < m → b ≤ a i
  | 0 => by simp [minN]
  | m + 1 => by
    simp only [minN]
    rw [Int.le_min, le_minN m]
    constructor
    · rintro ⟨⟨h1, h2⟩, h3⟩
      refine ⟨h1, fun i hi => ?_⟩
      by_cases e : i = m
      · subst e; exact h3
      · exact h2 i (by omega)
    · rintro ⟨h1, h2⟩
      exact ⟨⟨h1, fun i hi => h2 i (by omega)⟩, h2 m (by omega)⟩
theorem mem_getD {L : List (Nat → Int)} {t : Nat → Int} (ht : t ∈ L) : ∃ i, i < L.length ∧ L.getD i (fun _ => 0) = t := by
  obtain ⟨i, hi, rfl⟩ := List.getElem_of_mem ht
  exact ⟨i, hi, by rw [List.getD_eq_getElem?_getD, List.getElem?_eq_getElem hi]; rfl⟩
variable {n : Nat} {h : AHeap}
def maxN (x : Int) (a : Nat → Int) : Nat → Int
  | 0 => x
  | i + 1 => max (maxN x a i) (a i)
theorem map_splice {F F' : Nat → Value} {m off : Nat} {vs : List Value} (hl : off + vs.length ≤ m) (h1 : ∀ i, i < m → (i < off ∨ off + vs.length ≤ i) → F' i = F i) (h2 : ∀ j, j < vs.length → vs[j]? = some (F' (off + j))) :
    splice ((List.range m).map F) off vs = (List.range m).map F' := by
  apply List.ext_getElem?
  intro i
  have hlen : ((List.range m).map F).length = m := by simp
  simp only [splice]
  by_cases hi : i < m
  · rw [List.getElem?_map, List.getElem?_range hi]
    by_cases c1 : i < off
    · rw [List.getElem?_append_left (by simp [hlen]; omega), List.getElem?_take, if_pos c1, List.getElem?_map, List.getElem?_range hi]
      simp [h1 i hi (.inl c1)]
    · rw [List.getElem?_append_right (by simp [hlen]; omega)]
      have e : (List.take off ((List.range m).map F)).length = off := by simp [hlen]; omega
      rw [e]
      by_cases c2 : i < off + vs.length
      · rw [List.getElem?_append_left (by omega), h2 (i - off) (by omega)]
        simp [show off + (i - off) = i by omega]
      · rw [List.getElem?_append_right (by omega), List.getElem?_drop, show off + vs.length + (i - off - vs.length) = i by omega, List.getElem?_map, List.getElem?_range hi]
        simp [h1 i hi (.inr (by omega))]
  · rw [List.getElem?_eq_none (by simp; omega), List.getElem?_eq_none (by simp [hlen]; omega)]
theorem splice2 {a b c d : Value} : splice [a, b] 0 [c, d] = [c, d] := rfl
def mixR (k : Nat) (lo hi : Nat → Int) (i : Nat) : Value := .int .i64 (if i < 2 * k then (if i % 2 = 0 then lo (i / 2) else hi (i / 2)) else 0)
theorem mixR_one {m k : Nat} {lo hi : Nat → Int} : allB oneCell ((List.range m).map (mixR k lo hi)) = true := by rw [allB_iff]; intro v hv; obtain ⟨i, _, rfl⟩ := List.mem_map.1 hv; rfl
theorem mixR_splice {m k : Nat} {lo hi : Nat → Int} (hk : k < m) : splice ((List.range (2 * m)).map (mixR k lo hi)) (k * 2) [.int .i64 (lo k), .int .i64 (hi k)] = (List.range (2 * m)).map (mixR (k + 1) lo hi) := by
  refine map_splice (by simp; omega) (fun i hi hc => ?_) (fun j hj => ?_)
  · simp only [List.length_cons, List.length_nil] at hc
    simp only [mixR]
    congr 1
    by_cases c : i < 2 * k
    · rw [if_pos c, if_pos (by omega)]
    · rw [if_neg c, if_neg (by omega)]
  · simp only [List.length_cons, List.length_nil] at hj
    rcases j with _ | _ | j
    · simp only [mixR, Nat.add_zero, List.getElem?_cons_zero]
      rw [if_pos (by omega), if_pos (by omega), show k * 2 / 2 = k by omega]
    · simp only [mixR, List.getElem?_cons_succ, List.getElem?_cons_zero]
      rw [if_pos (by omega), if_neg (by omega), show (k * 2 + (0 + 1)) / 2 = k by omega]
    · omega
theorem repl_mixR {m : Nat} {lo hi : Nat → Int} : repl [.int .i64 0, .int .i64 0] m = (List.range (2 * m)).map (mixR 0 lo hi) := by
  have h0 : ∀ i, mixR 0 lo hi i = .int .i64 0 := fun i => by simp [mixR]
  have : ∀ m, repl [(.int .i64 0 : Value), .int .i64 0] m = List.replicate (2 * m) (.int .i64 0) := by
    intro m
    induction m with
    | zero => rfl
    | succ m ih => rw [repl, ih, show 2 * (m + 1) = 2 * m + 1 + 1 by omega, List.replicate_succ, List.replicate_succ]; rfl
  rw [this]
  apply List.ext_getElem?
  intro i
  by_cases hi : i < 2 * m
  · rw [List.getElem?_replicate, if_pos hi, List.getElem?_map, List.getElem?_range hi]; simp [h0]
  · rw [List.getElem?_eq_none (by simp; omega), List.getElem?_eq_none (by simp; omega)]
theorem make_ranges {z : List Value} {m : Nat} (hm : m ≤ 1000) : makeSl 2 16 z h (.int .i64 (m : Int)) (.int .i64 (m : Int)) = newSlice h (repl z m) m m 0 := by
  show (bif Nat.ble m m && Nat.ble (m * 16) maxBytes && Nat.ble m maxBytes then newSlice h (repl z m) m m 0 else none) = _
  have e1 : Nat.ble m m = true := ble_iff.2 (Nat.le_refl _)
  have e2 : Nat.ble (m * 16) maxBytes = true := ble_iff.2 (by simp [maxBytes]; omega)
  have e3 : Nat.ble m maxBytes = true := ble_iff.2 (by simp [maxBytes]; omega)
  rw [e1, e2, e3]; rfl
theorem idxSl_s {s k m c o : Nat} (hk : k < m) : indexSl s (.slice (some ⟨o, 0, none⟩) m c) (.int .i64 (k : Int)) = some (.pointer (some ⟨o, k * s, none⟩)) := by
  show placeAt ⟨o, 0, none⟩ (Int.ofNat k) m s = _
  unfold placeAt
  simp only [blt_iff.2 hk, cond_true, Nat.zero_add]
def loN (val : (Nat → Int) → Int) (L : List (Nat → Int)) : Int := minN (val (L.getD 0 fun _ => 0)) (fun i => val (L.getD (i + 1) fun _ => 0)) (L.length - 1)
def hiN (val : (Nat → Int) → Int) (L : List (Nat → Int)) : Int := maxN (val (L.getD 0 fun _ => 0)) (fun i => val (L.getD (i + 1) fun _ => 0)) (L.length - 1)
theorem maxN_le {x : Int} {a : Nat → Int} {b : Int} : ∀ m, maxN x a m ≤ b ↔ x ≤ b ∧ ∀ i, i < m → a i ≤ b
  | 0 => by simp [maxN]
  | m + 1 => by
    simp only [maxN]
    rw [Int.max_le, maxN_le m]
    constructor
    · rintro ⟨⟨h1, h2⟩, h3⟩
      refine ⟨h1, fun i hi => ?_⟩
      by_cases e : i = m
      · subst e; exact h3
      · exact h2 i (by omega)
    · rintro ⟨h1, h2⟩
      exact ⟨⟨h1, fun i hi => h2 i (by omega)⟩, h2 m (by omega)⟩
theorem all_getD {L : List (Nat → Int)} (hL : L ≠ []) {p : (Nat → Int) → Prop} : (p (L.getD 0 fun _ => 0) ∧ ∀ i, i < L.length - 1 → p (L.getD (i + 1) fun _ => 0)) ↔ ∀ t, t ∈ L → p t := by
  have hpos : 0 < L.length := List.length_pos_iff.2 hL
  have hget : ∀ i, (hi : i < L.length) → L.getD i (fun _ => 0) = L[i] := fun i hi => by rw [List.getD_eq_getElem?_getD, List.getElem?_eq_getElem hi]; rfl
  constructor
  · rintro ⟨h1, h2⟩ t ht
    obtain ⟨i, hi, rfl⟩ := List.getElem_of_mem ht
    cases i with
    | zero => rw [← hget 0 hi]; exact h1
    | succ i => rw [← hget (i + 1) hi]; exact h2 i (by omega)
  · intro ht
    refine ⟨ht _ (by rw [hget 0 hpos]; exact List.getElem_mem hpos), fun i hi => ?_⟩
    have hi' : i + 1 < L.length := by omega
    exact ht _ (by rw [hget (i + 1) hi']; exact List.getElem_mem hi')
theorem le_loN {val : (Nat → Int) → Int} {L : List (Nat → Int)} (hL : L ≠ []) {b : Int} : b ≤ loN val L ↔ ∀ t, t ∈ L → b ≤ val t := by
  unfold loN; rw [le_minN]; exact all_getD hL (p := fun t => b ≤ val t)
theorem hiN_le {val : (Nat → Int) → Int} {L : List (Nat → Int)} (hL : L ≠ []) {b : Int} : hiN val L ≤ b ↔ ∀ t, t ∈ L → val t ≤ b := by
  unfold hiN; rw [maxN_le]; exact all_getD hL (p := fun t => val t ≤ b)
variable {n : Nat} {h : AHeap}
theorem build_fn {G : Nat} : buildA (fun x => (#[(0, 1)] : Array (Nat × Nat))[x]?) ⟨[.nilFunc]⟩ [0] h [.func (.func G) #[] #[]] = some (.agg ⟨[.func (.func G) #[] #[]]⟩, h) := id rfl
theorem int_ext {a b : Int} (h : ∀ c, c ≤ a ↔ c ≤ b) : a = b := Int.le_antisymm ((h a).1 (Int.le_refl _)) ((h b).2 (Int.le_refl _))
theorem int_ext' {a b : Int} (h : ∀ c, a ≤ c ↔ b ≤ c) : a = b := Int.le_antisymm ((h b).2 (Int.le_refl _)) ((h a).1 (Int.le_refl _))
theorem all_getD' {L : List (Nat → Int)} {p : (Nat → Int) → Prop} : (∀ i, i < L.length → p (L.getD i fun _ => 0)) ↔ ∀ t, t ∈ L → p t := by
  have hget : ∀ i, (hi : i < L.length) → L.getD i (fun _ => 0) = L[i] := fun i hi => by rw [List.getD_eq_getElem?_getD, List.getElem?_eq_getElem hi]; rfl
  constructor
  · intro h t ht
    obtain ⟨i, hi, rfl⟩ := List.getElem_of_mem ht
    rw [← hget i hi]; exact h i hi
  · intro h i hi
    exact h _ (by rw [hget i hi]; exact List.getElem_mem hi)
variable {n : Nat} {h : AHeap}
def run8 (other : AHeap → Option (Value × AHeap)) (a : Value) (h : AHeap) : Option (Value × AHeap) :=
  match a with
  | .int .u8 a => some (.int .i64 (IntKind.wrap .i64 a), h)
  | _ => other h
theorem r_8 {other : AHeap → Option (Value × AHeap)} {k : Nat} (hk : k < 256) : run8 other (.int .u8 (k : Int)) h = some (.int .i64 (k : Int), h) := by
  simp only [run8]
  rw [IntWalk.i64_in _ (by omega)]
theorem wf8 {a : Int} (h : (Lit.int .u8 a).wf = true) : ∃ k : Nat, a = k ∧ k < 256 := by
  simp only [Lit.wf, Bool.and_eq_true, decide_eq_true_eq] at h
  have h1 : (IntKind.u8).min = 0 := rfl
  have h2 : (IntKind.u8).max = 255 := rfl
  rw [h1, h2] at h
  exact ⟨a.toNat, by omega, by omega⟩
theorem cond_merge' {X : Cx} {p : Bool} {A : SCode} {Q : WPost} {f : Fr} {m : List Nat} (R : Fr → AHeap → List Nat → Prop) (h1 : p = true → W X A (thenQ R Q) f h m) (h2 : p = false → R f h m) (h3 : ∀ f h m, R f h m → Q .norm f h m) :
    condW X (.bool p) A .skip Q f h m := by
  cases p with
  | true =>
    rw [cond_true']
    refine W_mono A _ _ (fun e f h m hq => ?_) f h m (h1 rfl)
    cases e with
    | norm => exact h3 _ _ _ hq
    | exit i => exact hq
    | ret => exact hq
  | false => rw [cond_false', W_skip]; exact h3 _ _ _ (h2 rfl)
theorem lo_mem {val : (Nat → Int) → Int} {L : List (Nat → Int)} (hL : L ≠ []) : ∃ t, t ∈ L ∧ val t = loN val L := by
  apply Classical.byContradiction
  intro hn
  have h1 : loN val L + 1 ≤ loN val L := (le_loN hL).2 fun t ht => by
    have := (le_loN (val := val) hL).1 (Int.le_refl (loN val L)) t ht
    have hne : val t ≠ loN val L := fun e => hn ⟨t, ht, e⟩
    omega
  omega
theorem hi_mem {val : (Nat → Int) → Int} {L : List (Nat → Int)} (hL : L ≠ []) : ∃ t, t ∈ L ∧ val t = hiN val L := by
  apply Classical.byContradiction
  intro hn
  have h1 : hiN val L ≤ hiN val L - 1 := (hiN_le hL).2 fun t ht => by
    have := (hiN_le (val := val) hL).1 (Int.le_refl (hiN val L)) t ht
    have hne : val t ≠ hiN val L := fun e => hn ⟨t, ht, e⟩
    omega
  omega
variable {n : Nat} {h : AHeap}
theorem splice3 {a b c d e f : Value} : splice [a, b, c] 0 [d, e, f] = [d, e, f] := rfl
variable {n : Nat} {h : AHeap}
def LexLt (a b : Nat → Int) (m : Nat) : Prop := ∃ j, j < m ∧ (∀ i, i < j → a i = b i) ∧ a j < b j
noncomputable instance (a b : Nat → Int) (m : Nat) : Decidable (LexLt a b m) := Classical.propDecidable _
def Shortlex (a : Nat → Int) (m : Nat) (b : Nat → Int) (k : Nat) : Prop := m < k ∨ m = k ∧ LexLt a b m
noncomputable instance (a : Nat → Int) (m : Nat) (b : Nat → Int) (k : Nat) : Decidable (Shortlex a m b k) := Classical.propDecidable _
noncomputable def lexC (a b : Nat → Int) (m : Nat) : Int := if LexLt a b m then -1 else if LexLt b a m then 1 else 0
theorem lex_at {a b : Nat → Int} {m k : Nat} (hk : k < m) (he : ∀ i, i < k → a i = b i) (hl : a k < b k) : lexC a b m = -1 := by unfold lexC; rw [if_pos ⟨k, hk, he, hl⟩]
theorem lex_at' {a b : Nat → Int} {m k : Nat} (hk : k < m) (he : ∀ i, i < k → a i = b i) (hl : b k < a k) : lexC a b m = 1 := by
  unfold lexC
  rw [if_neg, if_pos ⟨k, hk, fun i hi => (he i hi).symm, hl⟩]
  rintro ⟨j, j1, j2, j3⟩
  by_cases e : j < k
  · have := he j e; omega
  · by_cases e2 : j = k
    · subst e2; omega
    · have := j2 k (by omega); omega
theorem lex_eq {a b : Nat → Int} {m : Nat} (he : ∀ i, i < m → a i = b i) : lexC a b m = 0 := by
  unfold lexC
  rw [if_neg, if_neg]
  · rintro ⟨j, j1, j2, j3⟩; have := he j j1; omega
  · rintro ⟨j, j1, j2, j3⟩; have := he j j1; omega
variable {n : Nat} {h : AHeap}
theorem splice1 {a b : Value} : splice [a] 0 [b] = [b] := rfl
theorem res_11 {a b : Nat} {f : Fr} {x y : Value} (h1 : loadCell h (f a) = some x) (h2 : loadCell h (f b) = some y) : resV f h [.cell1 a, .cell1 b] = some (.tuple ⟨[x, y]⟩) := by
  simp [resV, resL, res1, h1, h2]
theorem row_ld0 {b : Nat} {x : Value} {w : Bool} {gr : Nat} (hg : h.get b = some (.row [x] w gr)) : loadCell h (.pointer (some ⟨b, 0, none⟩)) = some x := by
  have : Row h b [x] := ⟨_, _, hg⟩
  rw [this.ld]; rfl
variable {n : Nat} {h : AHeap}
def mixI (k : Nat) (i : Nat) : Value := .int .i64 (if i < k then (i : Int) else 0)
theorem mixI_one {m k : Nat} : allB oneCell ((List.range m).map (mixI k)) = true := by rw [allB_iff]; intro v hv; obtain ⟨i, _, rfl⟩ := List.mem_map.1 hv; rfl
theorem mixI_splice {m k : Nat} (hk : k < m) : splice ((List.range m).map (mixI k)) k [.int .i64 (k : Int)] = (List.range m).map (mixI (k + 1)) := by
  refine map_splice (by simp; omega) (fun i hi hc => ?_) (fun j hj => ?_)
  · simp only [List.length_cons, List.length_nil] at hc
    simp only [mixI]
    congr 1
    by_cases c : i < k
    · rw [if_pos c, if_pos (by omega)]
    · rw [if_neg c, if_neg (by omega)]
  · simp only [List.length_cons, List.length_nil] at hj
    obtain rfl : j = 0 := by omega
    simp only [mixI, Nat.add_zero, List.getElem?_cons_zero]
    rw [if_pos (by omega)]
theorem repl_mixI {m : Nat} : repl [.int .i64 0] m = (List.range m).map (mixI 0) := by
  have h0 : ∀ i, mixI 0 i = .int .i64 0 := fun i => by simp [mixI]
  have : ∀ m, repl [(.int .i64 0 : Value)] m = List.replicate m (.int .i64 0) := by
    intro m
    induction m with
    | zero => rfl
    | succ m ih => rw [repl, ih, List.replicate_succ]; rfl
  rw [this]
  apply List.ext_getElem?
  intro i
  by_cases hi : i < m
  · rw [List.getElem?_replicate, if_pos hi, List.getElem?_map, List.getElem?_range hi]; simp [h0]
  · rw [List.getElem?_eq_none (by simp; omega), List.getElem?_eq_none (by simp; omega)]
theorem make_intsL {z : List Value} {m : Nat} (hm : m ≤ 1000) : makeSl 1 8 z h (.int .i64 (m : Int)) (.int .i64 (m : Int)) = newSlice h (repl z m) m m 0 := by
  show (bif Nat.ble m m && Nat.ble (m * 8) maxBytes && Nat.ble m maxBytes then newSlice h (repl z m) m m 0 else none) = _
  have e1 : Nat.ble m m = true := ble_iff.2 (Nat.le_refl _)
  have e2 : Nat.ble (m * 8) maxBytes = true := ble_iff.2 (by simp [maxBytes]; omega)
  have e3 : Nat.ble m maxBytes = true := ble_iff.2 (by simp [maxBytes]; omega)
  rw [e1, e2, e3]; rfl
def atL (l : List Int) (i : Nat) : Int := l.getD i 0
def upTo (m : Nat) : List Int := (List.range m).map fun (i : Nat) => (i : Int)
theorem ints_old {g g' : AHeap} {v : Value} {m : Nat} {a : Nat → Int} (hi : Ints g v m a) (ho : ∀ x k c, v = .slice (some x) k c → g'.get x.block = g.get x.block) : Ints g' v m a := by
  obtain ⟨x, cap, e, hsp, h0 | ⟨b, o, cs, w, gr, e1, e2, e3⟩⟩ := hi
  · exact ⟨x, cap, e, hsp, .inl h0⟩
  · subst e1
    exact ⟨_, cap, e, hsp, .inr ⟨b, o, cs, w, gr, rfl, by rw [ho _ _ _ e]; exact e2, e3⟩⟩
variable {P : Program} {N : Nat} {f : Fr} {h : AHeap} {ty t u : TypeId} {x y : Operand}
def shrF (a b : Int) : Option Value := if 0 ≤ b ∧ b ≤ 64 then some (.int .i64 (a / 2 ^ b.toNat)) else none
theorem p_shr : plainF P N (.binOp .shr t x y u) ty f h = run2u shrF (plainF P N (.binOp .shr t x y u) ty f) (valN N f x) (valN N f y) h := by
  unfold run2u
  split
  · rename_i a b e1 e2
    split
    · rename_i v hv
      unfold shrF at hv
      split at hv
      · rename_i hb
        cases hv
        unfold plainF
        have : allB (fun x => plainV (valN N f x)) (Op.binOp .shr t x y u).operands.toList = true := by simp [Op.operands, allB, e1, e2, plainV, plainE, plainCell]
        rw [this]
        simp only [execOp, bare, e1, e2, eqGuard, binOp, shift_shr .i64 .u64 a b hb.1 hb.2]
        rfl
      · cases hv
    · rfl
  · rfl
theorem r_shr {other : AHeap → Option (Value × AHeap)} {a k : Nat} (hk : k < 62) : run2u shrF other (.int .i64 (a : Int)) (.int .u64 (k : Int)) h = some (.int .i64 ((a / 2 ^ k : Nat) : Int), h) := by
  simp only [run2u, shrF]
  rw [if_pos (by omega), Int.toNat_natCast]
  have : (a : Int) / 2 ^ k = ((a / 2 ^ k : Nat) : Int) := by simp
  rw [this]
variable {n : Nat} {h : AHeap}
def selTo (bits : Nat) : Nat → List Nat
  | 0 => []
  | k + 1 => if bits / 2 ^ k % 2 = 1 then selTo bits k ++ [k] else selTo bits k
theorem selTo_yes {bits k : Nat} (h : bits / 2 ^ k % 2 = 1) : selTo bits (k + 1) = selTo bits k ++ [k] := by rw [selTo, if_pos h]
theorem selTo_no {bits k : Nat} (h : ¬ bits / 2 ^ k % 2 = 1) : selTo bits (k + 1) = selTo bits k := by rw [selTo, if_neg h]
theorem selTo_len {bits : Nat} : ∀ k, (selTo bits k).length ≤ k
  | 0 => Nat.le_refl _
  | k + 1 => by
    have := selTo_len (bits := bits) k
    by_cases h : bits / 2 ^ k % 2 = 1
    · rw [selTo_yes h, List.length_append, List.length_singleton]; omega
    · rw [selTo_no h]; omega
theorem selTo_mem {bits : Nat} : ∀ {k x : Nat}, x ∈ selTo bits k ↔ x < k ∧ bits / 2 ^ x % 2 = 1
  | 0, x => by simp [selTo]
  | k + 1, x => by
    have := selTo_mem (bits := bits) (k := k) (x := x)
    by_cases h : bits / 2 ^ k % 2 = 1
    · rw [selTo_yes h, List.mem_append, this, List.mem_singleton]
      constructor
      · rintro (⟨h1, h2⟩ | rfl)
        · exact ⟨by omega, h2⟩
        · exact ⟨by omega, h⟩
      · rintro ⟨h1, h2⟩
        by_cases e : x = k
        · exact .inr e
        · exact .inl ⟨by omega, h2⟩
    · rw [selTo_no h, this]
      constructor
      · rintro ⟨h1, h2⟩; exact ⟨by omega, h2⟩
      · rintro ⟨h1, h2⟩
        refine ⟨?_, h2⟩
        by_cases e : x = k
        · subst e; exact absurd h2 h
        · omega
theorem spliceN2 {a b c d : Value} : splice [a, b, c] 2 [d] = [a, b, d] := rfl
variable {n : Nat} {h : AHeap}
theorem low_bits {m x : Nat} : (2 ^ m - 1) / 2 ^ x % 2 = 1 ↔ x < m := by
  have h1 := Nat.testBit_two_pow_sub_one m x
  rw [Nat.testBit_eq_decide_div_mod_eq] at h1
  exact decide_eq_decide.1 h1
theorem r_shl2 {other : AHeap → Option (Value × AHeap)} {k : Nat} (hk : k < 60) : run2u shlF other (.int .i64 2) (.int .u64 (k : Int)) h = some (.int .i64 ((2 ^ (k + 1) : Nat) : Int), h) := by
  simp only [run2u, shlF]
  rw [if_pos (by omega)]
  have : (2 ^ (k + 1) : Nat) < 2 ^ 62 := Nat.pow_lt_pow_right (by omega) (by omega)
  have e : (2 : Int) * 2 ^ k = ((2 ^ (k + 1) : Nat) : Int) := by rw [Nat.pow_succ, Int.natCast_mul, Int.mul_comm]; simp
  rw [← wrapF_eq, Int.toNat_natCast, e]
  generalize (2 ^ (k + 1) : Nat) = z at this
  rw [wrap_in (by omega) (by omega)]
variable {P : Program} {N : Nat} {f : Fr} {h : AHeap}
theorem g_un {X : Cx} {Q : WPost} {f : Fr} {h : AHeap} {m : List Nat} {w : Bool} {d : Option Nat} {op : SOp} {L : List SI} : gW X undef w d op L Q f h m = opsW X L Q (putF f d undef) h m := by simp [gW, isB, undef]
def offN (a b : Nat) : Nat := (BitVec.ofNat 64 a &&& ~~~ BitVec.ofNat 64 b).toNat
theorem offN_bit {a b x : Nat} (ha : a < 2 ^ 62) (hx : x < 62) : (offN a b).testBit x = (a.testBit x && !b.testBit x) := by
  unfold offN
  rw [BitVec.testBit_toNat, BitVec.getLsbD_and, BitVec.getLsbD_not, BitVec.getLsbD_ofNat, BitVec.getLsbD_ofNat]
  simp [show x < 64 by omega]
theorem offN_le {a b : Nat} (ha : a < 2 ^ 62) : offN a b ≤ a := by
  unfold offN
  rw [BitVec.toNat_and]
  refine Nat.le_trans Nat.and_le_left ?_
  rw [BitVec.toNat_ofNat]; exact Nat.mod_le _ _
theorem r_andNot {other : AHeap → Option (Value × AHeap)} {a b : Nat} (ha : a < 2 ^ 62) : run2 andNotF other (.int .i64 (a : Int)) (.int .i64 (b : Int)) h = some (.int .i64 ((offN a b : Nat) : Int), h) := by
  have hl := offN_le (a := a) (b := b) ha
  simp only [run2, andNotF]
  rw [BitVec.ofInt_natCast, BitVec.ofInt_natCast]
  show some (Value.int .i64 (IntKind.wrap .i64 ((offN a b : Nat) : Int)), h) = _
  rw [← wrapF_eq, wrap_in (by omega) (by omega)]
variable {n : Nat} {h : AHeap}
open Classical in
noncomputable def pickL (p : Nat → Prop) : Nat → List Int
  | 0 => []
  | k + 1 => if p k then pickL p k ++ [(k : Int)] else pickL p k
theorem pick_yes {p : Nat → Prop} {k : Nat} (h : p k) : pickL p (k + 1) = pickL p k ++ [(k : Int)] := by rw [pickL, if_pos h]
theorem pick_no {p : Nat → Prop} {k : Nat} (h : ¬ p k) : pickL p (k + 1) = pickL p k := by rw [pickL, if_neg h]
theorem pick_sub {p q : Nat → Prop} : ∀ k, (∀ j, j < k → p j → q j) → (pickL p k).length ≤ (pickL q k).length ∧ ((pickL p k).length = (pickL q k).length → pickL p k = pickL q k)
  | 0, _ => ⟨Nat.le_refl _, fun _ => rfl⟩
  | k + 1, h => by
    obtain ⟨h1, h2⟩ := pick_sub (p := p) (q := q) k fun j hj => h j (by omega)
    by_cases c1 : p k
    · rw [pick_yes c1, pick_yes (h k (by omega) c1)]
      simp only [List.length_append, List.length_singleton]
      exact ⟨by omega, fun e => by rw [h2 (by omega)]⟩
    · rw [pick_no c1]
      by_cases c2 : q k
      · rw [pick_yes c2]
        simp only [List.length_append, List.length_singleton]
        exact ⟨by omega, fun e => by omega⟩
      · rw [pick_no c2]; exact ⟨h1, h2⟩
theorem pick_congr {p q : Nat → Prop} {k : Nat} (h : ∀ j, j < k → (p j ↔ q j)) : pickL p k = pickL q k := by
  induction k with
  | zero => rfl
  | succ k ih =>
    have := ih fun j hj => h j (by omega)
    by_cases c : p k
    · rw [pick_yes c, pick_yes ((h k (by omega)).1 c), this]
    · rw [pick_no c, pick_no (fun e => c ((h k (by omega)).2 e)), this]
theorem pick_len {p : Nat → Prop} : ∀ k, (pickL p k).length ≤ k
  | 0 => Nat.le_refl _
  | k + 1 => by
    have := pick_len (p := p) k
    by_cases c : p k
    · rw [pick_yes c, List.length_append, List.length_singleton]; omega
    · rw [pick_no c]; omega
theorem at_append {l : List Int} {x : Int} {i : Nat} (hi : i < l.length) : atL (l ++ [x]) i = atL l i := by unfold atL; rw [List.getD_eq_getElem?_getD, List.getD_eq_getElem?_getD, List.getElem?_append_left hi]
theorem at_last {l : List Int} {x : Int} : atL (l ++ [x]) l.length = x := by unfold atL; rw [List.getD_eq_getElem?_getD, List.getElem?_append_right (Nat.le_refl _)]; simp
theorem pick_at {p : Nat → Prop} : ∀ {k i : Nat}, i < (pickL p k).length → ∃ j : Nat, j < k ∧ atL (pickL p k) i = (j : Int) ∧ p j
  | 0, i, hi => (Nat.not_lt_zero _ hi).elim
  | k + 1, i, hi => by
    by_cases c : p k
    · rw [pick_yes c] at hi ⊢
      rw [List.length_append, List.length_singleton] at hi
      by_cases e : i < (pickL p k).length
      · rw [at_append e]
        obtain ⟨j, j1, j2, j3⟩ := pick_at e
        exact ⟨j, by omega, j2, j3⟩
      · have : i = (pickL p k).length := by omega
        subst this
        rw [at_last]; exact ⟨k, by omega, rfl, c⟩
    · rw [pick_no c] at hi ⊢
      obtain ⟨j, j1, j2, j3⟩ := pick_at hi
      exact ⟨j, by omega, j2, j3⟩
theorem pick_up {p : Nat → Prop} : ∀ {k i : Nat}, i + 1 < (pickL p k).length → atL (pickL p k) i < atL (pickL p k) (i + 1)
  | 0, i, hi => (Nat.not_lt_zero _ hi).elim
  | k + 1, i, hi => by
    by_cases c : p k
    · rw [pick_yes c] at hi ⊢
      rw [List.length_append, List.length_singleton] at hi
      by_cases e : i + 1 < (pickL p k).length
      · rw [at_append e, at_append (by omega)]; exact pick_up e
      · have : i + 1 = (pickL p k).length := by omega
        rw [this, at_last, at_append (by omega)]
        obtain ⟨j, j1, j2, _⟩ := pick_at (p := p) (k := k) (i := i) (by omega)
        omega
    · rw [pick_no c] at hi ⊢
      exact pick_up hi
theorem pick_has {p : Nat → Prop} : ∀ {k j : Nat}, j < k → p j → ∃ i, i < (pickL p k).length ∧ atL (pickL p k) i = (j : Int)
  | 0, j, hj, _ => (Nat.not_lt_zero _ hj).elim
  | k + 1, j, hj, hp => by
    by_cases e : j = k
    · subst e
      rw [pick_yes hp, List.length_append, List.length_singleton]
      exact ⟨_, Nat.lt_succ_self _, at_last⟩
    · obtain ⟨i, i1, i2⟩ := pick_has (p := p) (k := k) (j := j) (by omega) hp
      by_cases c : p k
      · rw [pick_yes c, List.length_append, List.length_singleton]
        exact ⟨i, by omega, by rw [at_append i1]; exact i2⟩
      · rw [pick_no c]; exact ⟨i, i1, i2⟩
theorem upTo_pick : ∀ k, upTo k = pickL (fun _ => True) k
  | 0 => rfl
  | k + 1 => by rw [pick_yes trivial, ← upTo_pick k]; unfold upTo; rw [List.range_succ, List.map_append]; rfl
theorem lex_irr {a : Nat → Int} {m : Nat} : ¬ LexLt a a m := fun ⟨j, _, _, h⟩ => by omega
theorem lex_trans {a b c : Nat → Int} {m : Nat} (h1 : LexLt a b m) (h2 : LexLt b c m) : LexLt a c m := by
  obtain ⟨i, i1, i2, i3⟩ := h1
  obtain ⟨j, j1, j2, j3⟩ := h2
  by_cases e : i < j
  · exact ⟨i, i1, fun x hx => by rw [i2 x hx, j2 x (by omega)], by rw [← j2 i e]; exact i3⟩
  · by_cases e2 : i = j
    · subst e2; exact ⟨i, i1, fun x hx => by rw [i2 x hx, j2 x hx], by omega⟩
    · exact ⟨j, j1, fun x hx => by rw [i2 x (by omega), j2 x hx], by rw [i2 j (by omega)]; exact j3⟩
def SL (a b : List Int) : Prop := Shortlex (atL a) a.length (atL b) b.length
theorem sl_irr {a : List Int} : ¬ SL a a := fun h => by
  rcases h with h | h
  · omega
  · exact lex_irr h.2
theorem sl_trans {a b c : List Int} (h1 : SL a b) (h2 : SL b c) : SL a c := by
  unfold SL Shortlex at *
  rcases h1 with h1 | ⟨e1, h1⟩ <;> rcases h2 with h2 | ⟨e2, h2⟩
  · exact .inl (by omega)
  · exact .inl (by omega)
  · exact .inl (by omega)
  · exact .inr ⟨by omega, lex_trans h1 (by rw [e1]; exact h2)⟩
variable {n : Nat} {h : AHeap}
def Bit (b x : Nat) : Prop := b / 2 ^ x % 2 = 1
theorem bit_test {b x : Nat} : Bit b x ↔ b.testBit x = true := by unfold Bit; rw [Nat.testBit_eq_decide_div_mod_eq]; simp
theorem bits_top {b : Nat} : ∀ B, b < 2 ^ B → ∃ M, M ≤ B ∧ (∀ k, k < M → 0 < b / 2 ^ k) ∧ b / 2 ^ M = 0
  | 0, h => ⟨0, Nat.le_refl _, fun k hk => by omega, Nat.div_eq_of_lt h⟩
  | B + 1, h => by
    by_cases c : b < 2 ^ B
    · obtain ⟨M, h1, h2, h3⟩ := bits_top B c
      exact ⟨M, by omega, h2, h3⟩
    · refine ⟨B + 1, Nat.le_refl _, fun k hk => ?_, Nat.div_eq_of_lt h⟩
      have : 2 ^ k ≤ 2 ^ B := Nat.pow_le_pow_right (by omega) (by omega)
      exact Nat.div_pos (by omega) (Nat.pow_pos (by omega))
theorem pick_more {p : Nat → Prop} {M : Nat} : ∀ d, (∀ x, M ≤ x → ¬ p x) → pickL p (M + d) = pickL p M
  | 0, _ => rfl
  | d + 1, h => by rw [show M + (d + 1) = (M + d) + 1 by omega, pick_no (h _ (by omega)), pick_more d h]
theorem top_none {b M : Nat} (h : b / 2 ^ M = 0) (x : Nat) (hx : M ≤ x) : ¬ Bit b x := by
  unfold Bit
  have h1 : b < 2 ^ M := by
    have := Nat.pow_pos (n := M) (show 0 < 2 by omega)
    exact (Nat.div_eq_zero_iff_lt this).1 h
  have h2 : 2 ^ M ≤ 2 ^ x := Nat.pow_le_pow_right (by omega) hx
  rw [Nat.div_eq_of_lt (by omega)]; omega
def bitsOf (l : List Int) : Nat → Nat
  | 0 => 0
  | k + 1 => bitsOf l k ||| 2 ^ (atL l k).toNat
theorem bitsOf_test {l : List Int} {x : Nat} : ∀ {k : Nat}, (bitsOf l k).testBit x = true ↔ ∃ i, i < k ∧ (atL l i).toNat = x
  | 0 => by simp [bitsOf]
  | k + 1 => by
    rw [bitsOf, Nat.testBit_or, Nat.testBit_two_pow, Bool.or_eq_true, bitsOf_test (k := k), decide_eq_true_eq]
    constructor
    · rintro (⟨i, h1, h2⟩ | h1)
      · exact ⟨i, by omega, h2⟩
      · exact ⟨k, by omega, h1⟩
    · rintro ⟨i, h1, h2⟩
      by_cases e : i = k
      · subst e; exact .inr h2
      · exact .inl ⟨i, by omega, h2⟩
theorem bitsOf_lt {l : List Int} {k : Nat} (hl : ∀ i, i < k → (atL l i).toNat < 10) : bitsOf l k < 2 ^ 10 := by
  induction k with
  | zero => simp [bitsOf]
  | succ k ih =>
    rw [bitsOf]
    exact Nat.or_lt_two_pow (ih fun i hi => hl i (by omega)) (Nat.pow_lt_pow_right (by omega) (hl k (by omega)))
variable {n : Nat} {h : AHeap}
variable {n : Nat} {h : AHeap}
variable {n : Nat} {h : AHeap}
theorem sel_zero : ∀ k, selTo 0 k = []
  | 0 => rfl
  | k + 1 => by rw [selTo_no (by simp), sel_zero k]
section
variable {α : Type}
def cntB (b : α → Int) (L : List α) (x : Int) : Nat := L.countP fun u => decide (b u = x)
def mostL : List Nat → Nat
  | [] => 0
  | x :: l => max x (mostL l)
theorem mostL_le {n : Nat} : ∀ l : List Nat, mostL l ≤ n ↔ ∀ x, x ∈ l → x ≤ n
  | [] => by simp [mostL]
  | x :: l => by
    have := mostL_le (n := n) l
    simp only [mostL, List.mem_cons, forall_eq_or_imp, ← this]
    omega
def mostN (b : α → Int) (L : List α) : Nat := mostL (L.map fun t => cntB b L (b t))
theorem mostN_le {b : α → Int} {L : List α} {n : Nat} : mostN b L ≤ n ↔ ∀ t, t ∈ L → cntB b L (b t) ≤ n := by
  unfold mostN
  rw [mostL_le]
  simp [List.mem_map]
theorem eq_of_le_iff {a b : Nat} (h : ∀ n, a ≤ n ↔ b ≤ n) : a = b := by
  have h1 := (h b).2 (Nat.le_refl _)
  have h2 := (h a).1 (Nat.le_refl _)
  omega
theorem cntB_snoc {b : α → Int} {L : List α} {t : α} {x : Int} : cntB b (L ++ [t]) x = cntB b L x + if b t = x then 1 else 0 := by
  unfold cntB
  rw [List.countP_append, List.countP_cons, List.countP_nil]
  by_cases h : b t = x <;> simp [h]
theorem cntB_le {b : α → Int} {L : List α} {x : Int} : cntB b L x ≤ L.length := List.countP_le_length
theorem mostN_snoc {b : α → Int} {L : List α} {t : α} : mostN b (L ++ [t]) = max (mostN b L) (cntB b L (b t) + 1) := by
  apply eq_of_le_iff
  intro n
  rw [mostN_le, Nat.max_le, mostN_le]
  simp only [cntB_snoc]
  constructor
  · intro h
    refine ⟨fun u hu => ?_, ?_⟩
    · have := h u (by simp [hu]); omega
    · have := h t (by simp); simpa using this
  · rintro ⟨h1, h2⟩ u hu
    rcases List.mem_append.1 hu with hu | hu
    · by_cases e : b t = b u
      · rw [if_pos e, ← e]; exact h2
      · rw [if_neg e]; exact h1 u hu
    · simp only [List.mem_singleton] at hu
      subst hu
      rw [if_pos rfl]; exact h2
theorem mostN_perm {b : α → Int} {L M : List α} (h : L.Perm M) : mostN b L = mostN b M := by
  apply eq_of_le_iff
  intro n
  rw [mostN_le, mostN_le]
  have : ∀ x, cntB b L x = cntB b M x := fun x => h.countP_eq _
  simp only [this]
  exact ⟨fun k t ht => k t (h.mem_iff.2 ht), fun k t ht => k t (h.mem_iff.1 ht)⟩
theorem mostN_len {b : α → Int} {L : List α} : mostN b L ≤ L.length := mostN_le.2 fun _ _ => cntB_le
theorem take_snoc {L : List α} {k : Nat} (d : α) (hk : k < L.length) : L.take (k + 1) = L.take k ++ [L.getD k d] := by
  rw [List.take_add_one, List.getD_eq_getElem?_getD, List.getElem?_eq_getElem hk]
  rfl
theorem mostN_take {b : α → Int} {L : List α} {k : Nat} (d : α) (hk : k < L.length) : mostN b (L.take (k + 1)) = max (mostN b (L.take k)) (cntB b (L.take k) (b (L.getD k d)) + 1) := by
  rw [take_snoc d hk, mostN_snoc]
theorem cntB_take {b : α → Int} {L : List α} {k : Nat} (d : α) (hk : k < L.length) {x : Int} : cntB b (L.take (k + 1)) x = cntB b (L.take k) x + if b (L.getD k d) = x then 1 else 0 := by
  rw [take_snoc d hk, cntB_snoc]
theorem cntB_upd {b : α → Int} {L : List α} {k : Nat} (d : α) (hk : k < L.length) : (fun x => ((cntB b (L.take (k + 1)) x : Nat) : Int)) = fun x => if x = b (L.getD k d) then ((cntB b (L.take k) (b (L.getD k d)) : Nat) : Int) + 1 else (cntB b (L.take k) x : Nat) := by
  funext x
  rw [cntB_take d hk]
  by_cases e : x = b (L.getD k d)
  · rw [if_pos e, if_pos e.symm, e]; rfl
  · rw [if_neg e, if_neg (Ne.symm e)]; rfl
def askN (f : Nat → Nat) : Nat → Nat × Nat
  | 0 => (0, f 0)
  | v + 1 => if f (v + 1) < (askN f v).2 then (v + 1, f (v + 1)) else askN f v
theorem askN_le {f : Nat → Nat} : ∀ v, (askN f v).1 ≤ v ∧ f (askN f v).1 = (askN f v).2 ∧ (∀ i, i ≤ v → (askN f v).2 ≤ f i) ∧ ∀ i, i < (askN f v).1 → (askN f v).2 < f i
  | 0 => ⟨Nat.le_refl _, rfl, fun i hi => by have : i = 0 := by omega
                                             subst this; exact Nat.le_refl _, fun i hi => by simp [askN] at hi⟩
  | v + 1 => by
    obtain ⟨h1, h2, h3, h4⟩ := askN_le (f := f) v
    simp only [askN]
    by_cases c : f (v + 1) < (askN f v).2
    · rw [if_pos c]
      refine ⟨Nat.le_refl _, rfl, fun i hi => ?_, fun i hi => ?_⟩
      · by_cases e : i = v + 1
        · subst e; exact Nat.le_refl _
        · have := h3 i (by omega); show f (v + 1) ≤ f i; omega
      · have := h3 i (by simp only at hi; omega); show f (v + 1) < f i; omega
    · rw [if_neg c]
      refine ⟨by omega, h2, fun i hi => ?_, h4⟩
      by_cases e : i = v + 1
      · subst e; omega
      · exact h3 i (by omega)
theorem askN_uniq {f : Nat → Nat} {v a m : Nat} (h1 : a ≤ v) (h2 : f a = m) (h3 : ∀ i, i ≤ v → m ≤ f i) (h4 : ∀ i, i < a → m < f i) : askN f v = (a, m) := by
  obtain ⟨k1, k2, k3, k4⟩ := askN_le (f := f) v
  have e2 : (askN f v).2 = m := by
    have := k3 a h1; have := h3 _ k1; omega
  have e1 : (askN f v).1 = a := by
    rcases Nat.lt_trichotomy (askN f v).1 a with h | h | h
    · have := h4 _ h; omega
    · exact h
    · have := k4 _ h; omega
  exact Prod.ext e1 e2
theorem askN_congr {f g : Nat → Nat} : ∀ v, (∀ i, i ≤ v → f i = g i) → askN f v = askN g v
  | 0, h => by simp only [askN, h 0 (Nat.le_refl _)]
  | v + 1, h => by simp only [askN, h _ (Nat.le_refl (v + 1)), askN_congr v fun i hi => h i (by omega)]
end
theorem perm_of_sub {α : Type} : ∀ (l m : List α), l.Nodup → (∀ x, x ∈ l → x ∈ m) → m.length ≤ l.length → l.Perm m := by
  classical
  intro l
  induction l with
  | nil =>
    intro m _ _ h
    have : m = [] := List.eq_nil_of_length_eq_zero (by simpa using h)
    subst this
    exact List.Perm.refl _
  | cons a l ih =>
    intro m hn hs hl
    have ha : a ∈ m := hs a (by simp)
    rw [List.nodup_cons] at hn
    have hp := List.perm_cons_erase ha
    refine (List.Perm.cons a (ih (m.erase a) hn.2 (fun x hx => ?_) ?_)).trans hp.symm
    · have : x ≠ a := fun e => hn.1 (e ▸ hx)
      exact (List.mem_erase_of_ne this).2 (hs x (by simp [hx]))
    · have := hp.length_eq
      simp only [List.length_cons] at this hl
      omega
theorem enumB_nodup {lo hi : Nat → Int} : ∀ (d i : Nat) (c : Nat → Int), (enumB lo hi d i c).Nodup
  | 0, i, c => by simp [enumB]
  | d + 1, i, c => by
    simp only [enumB]
    unfold List.Nodup
    rw [List.pairwise_flatMap]
    refine ⟨fun k _ => enumB_nodup d (i + 1) _, ?_⟩
    refine List.Pairwise.imp ?_ (List.nodup_range (n := (hi i - lo i + 1).toNat))
    intro a b hab x hx y hy e
    subst e
    have h1 := ((enumB_ok d (i + 1) _ x).1 hx).2 i (by omega)
    have h2 := ((enumB_ok d (i + 1) _ x).1 hy).2 i (by omega)
    simp only [if_true] at h1 h2
    omega
variable {n : Nat} {h : AHeap}
def bitsE (b1 b2 b3 b4 : Bool) : Nat := (bif b1 then 1 else 0) + (bif b2 then 2 else 0) + (bif b3 then 4 else 0) + (bif b4 then 8 else 0)
theorem bitsE_lt {b1 b2 b3 b4 : Bool} : bitsE b1 b2 b3 b4 < 16 := by cases b1 <;> cases b2 <;> cases b3 <;> cases b4 <;> decide
theorem bitsE_1 {b1 b2 b3 b4 : Bool} : bitsE b1 b2 b3 b4 ||| 1 = bitsE true b2 b3 b4 := by cases b1 <;> cases b2 <;> cases b3 <;> cases b4 <;> rfl
theorem bitsE_2 {b1 b2 b3 b4 : Bool} : bitsE b1 b2 b3 b4 ||| 2 = bitsE b1 true b3 b4 := by cases b1 <;> cases b2 <;> cases b3 <;> cases b4 <;> rfl
theorem bitsE_4 {b1 b2 b3 b4 : Bool} : bitsE b1 b2 b3 b4 ||| 4 = bitsE b1 b2 true b4 := by cases b1 <;> cases b2 <;> cases b3 <;> cases b4 <;> rfl
theorem bitsE_8 {b1 b2 b3 b4 : Bool} : bitsE b1 b2 b3 b4 ||| 8 = bitsE b1 b2 b3 true := by cases b1 <;> cases b2 <;> cases b3 <;> cases b4 <;> rfl
theorem or_1 {other : AHeap → Option (Value × AHeap)} {b1 b2 b3 b4 : Bool} : run2 orF other (.int .i64 ((bitsE b1 b2 b3 b4 : Nat) : Int)) (.int .i64 1) h = some (.int .i64 ((bitsE true b2 b3 b4 : Nat) : Int), h) := by
  have hl := bitsE_lt (b1 := b1) (b2 := b2) (b3 := b3) (b4 := b4)
  have := r_or (other := other) (h := h) (a := bitsE b1 b2 b3 b4) (b := 1) (by omega) (by omega)
  rw [bitsE_1] at this; exact this
theorem or_2 {other : AHeap → Option (Value × AHeap)} {b1 b2 b3 b4 : Bool} : run2 orF other (.int .i64 ((bitsE b1 b2 b3 b4 : Nat) : Int)) (.int .i64 2) h = some (.int .i64 ((bitsE b1 true b3 b4 : Nat) : Int), h) := by
  have hl := bitsE_lt (b1 := b1) (b2 := b2) (b3 := b3) (b4 := b4)
  have := r_or (other := other) (h := h) (a := bitsE b1 b2 b3 b4) (b := 2) (by omega) (by omega)
  rw [bitsE_2] at this; exact this
theorem or_4 {other : AHeap → Option (Value × AHeap)} {b1 b2 b3 b4 : Bool} : run2 orF other (.int .i64 ((bitsE b1 b2 b3 b4 : Nat) : Int)) (.int .i64 4) h = some (.int .i64 ((bitsE b1 b2 true b4 : Nat) : Int), h) := by
  have hl := bitsE_lt (b1 := b1) (b2 := b2) (b3 := b3) (b4 := b4)
  have := r_or (other := other) (h := h) (a := bitsE b1 b2 b3 b4) (b := 4) (by omega) (by omega)
  rw [bitsE_4] at this; exact this
theorem or_8 {other : AHeap → Option (Value × AHeap)} {b1 b2 b3 b4 : Bool} : run2 orF other (.int .i64 ((bitsE b1 b2 b3 b4 : Nat) : Int)) (.int .i64 8) h = some (.int .i64 ((bitsE b1 b2 b3 true : Nat) : Int), h) := by
  have hl := bitsE_lt (b1 := b1) (b2 := b2) (b3 := b3) (b4 := b4)
  have := r_or (other := other) (h := h) (a := bitsE b1 b2 b3 b4) (b := 8) (by omega) (by omega)
  rw [bitsE_8] at this; exact this
def Seen (L : List (Nat → Int)) (p : (Nat → Int) → Prop) (k : Nat) : Prop := ∃ i, i < k ∧ p (L.getD i fun _ => 0)
noncomputable instance (L : List (Nat → Int)) (p : (Nat → Int) → Prop) (k : Nat) : Decidable (Seen L p k) := Classical.propDecidable _
theorem seen_yes {L : List (Nat → Int)} {p : (Nat → Int) → Prop} {k : Nat} (h : p (L.getD k fun _ => 0)) : decide (Seen L p (k + 1)) = true := decide_eq_true ⟨k, by omega, h⟩
theorem seen_no {L : List (Nat → Int)} {p : (Nat → Int) → Prop} {k : Nat} (h : ¬ p (L.getD k fun _ => 0)) : decide (Seen L p (k + 1)) = decide (Seen L p k) := decide_eq_decide.2
  ⟨fun ⟨i, h1, h2⟩ => by
    by_cases e : i = k
    · subst e; exact absurd h2 h
    · exact ⟨i, by omega, h2⟩, fun ⟨i, h1, h2⟩ => ⟨i, by omega, h2⟩⟩
theorem seen_zero {L : List (Nat → Int)} {p : (Nat → Int) → Prop} : decide (Seen L p 0) = false := decide_eq_false fun ⟨i, h, _⟩ => by omega
variable {n : Nat} {h : AHeap}
theorem repl_one {x : Value} : ∀ m, repl [x] m = List.replicate m x
  | 0 => rfl
  | m + 1 => by rw [repl, repl_one m, List.replicate_succ]; rfl
theorem ints_row {g : AHeap} {b m cap gr : Nat} {w : Bool} {a : Nat → Int} (hg : g.get b = some (.row ((List.range m).map fun v => .int .i64 (a v)) w gr)) : Ints g (.slice (some ⟨b, 0, none⟩) m cap) m a :=
  ⟨_, _, rfl, fun x e => by cases e; rfl, .inr ⟨_, 0, _, _, _, rfl, hg, fun k j hk hj => by
    have : j = 0 := by omega
    subst this
    rw [Nat.zero_add, Nat.mul_one, Nat.add_zero, List.getElem?_map, List.getElem?_range hk]; rfl⟩⟩
section
variable {P : Program} {cf : CallF} {N : Nat} {f : Fr} {x y z : Operand}
theorem x_mkmap : sem P cf N f h .mkmap = h.push (some (.map #[] 0)) fun i h => some (.map (some i), h) := id rfl
theorem x_lookup {kt : TypeId} {zv : Value} {ok : Bool} : sem P cf N f h (.lookup kt zv ok x y) = lookupA P kt zv ok h (val f x) (val f y) := id rfl
theorem x_mapEntry {kt : TypeId} {zv : Value} : sem P cf N f h (.mapEntry kt zv x y) = mapEntryA P kt zv h (val f x) (val f y) := id rfl
theorem x_entryStore : sem P cf N f h (.entryStore x y z) = entryStoreA h (val f x) (val f y) (val f z) := id rfl
theorem extract_tup {i : Nat} {l : List Value} : extractA i (.tuple ⟨l⟩) h = (match l[i]? with | some v => some (v, h) | none => none) := by
  cases hv : l[i]? with
  | none => simp [extractA, hv]
  | some v => simp [extractA, hv]
end
variable {n : Nat} {h : AHeap}
noncomputable def cntTo (p : Nat → Prop) : Nat → Nat
  | 0 => 0
  | k + 1 => open Classical in cntTo p k + (if p k then 1 else 0)
theorem cntTo_yes {p : Nat → Prop} {k : Nat} (h : p k) : cntTo p (k + 1) = cntTo p k + 1 := by rw [cntTo, if_pos h]
theorem cntTo_no {p : Nat → Prop} {k : Nat} (h : ¬ p k) : cntTo p (k + 1) = cntTo p k := by rw [cntTo, if_neg h, Nat.add_zero]
theorem cntTo_le {p : Nat → Prop} : ∀ k, cntTo p k ≤ k
  | 0 => Nat.le_refl _
  | k + 1 => by
    have := cntTo_le (p := p) k
    by_cases h : p k
    · rw [cntTo_yes h]; omega
    · rw [cntTo_no h]; omega
theorem cntTo_none {p : Nat → Prop} : ∀ k, cntTo p k = 0 ↔ ∀ i, i < k → ¬ p i
  | 0 => ⟨fun _ i hi => by omega, fun _ => rfl⟩
  | k + 1 => by
    have := cntTo_none (p := p) k
    by_cases h : p k
    · rw [cntTo_yes h]
      exact ⟨fun e => by omega, fun e => absurd h (e k (by omega))⟩
    · rw [cntTo_no h, this]
      refine ⟨fun e i hi => ?_, fun e i hi => e i (by omega)⟩
      by_cases e1 : i = k
      · subst e1; exact h
      · exact e i (by omega)
theorem cntTo_all {p : Nat → Prop} : ∀ k, cntTo p k = k ↔ ∀ i, i < k → p i
  | 0 => ⟨fun _ i hi => by omega, fun _ => rfl⟩
  | k + 1 => by
    have := cntTo_all (p := p) k
    have hl := cntTo_le (p := p) k
    by_cases h : p k
    · rw [cntTo_yes h]
      refine ⟨fun e i hi => ?_, fun e => by rw [this.2 fun i hi => e i (by omega)]⟩
      by_cases e1 : i = k
      · subst e1; exact h
      · exact this.1 (by omega) i (by omega)
    · rw [cntTo_no h]
      exact ⟨fun e => by omega, fun e => absurd (e k (by omega)) h⟩
theorem self_arr {t : Nat → Int} : eqV (.agg ⟨arr t⟩) (.agg ⟨arr t⟩) = true := by simp [arr, List.range_succ, eqV, eqCells, eqCell, sameK, eqI_eq]
variable {n : Nat} {h : AHeap}
def arr4 (c : Nat → Int) : List Value := (List.range 4).map fun i => .int .i64 (c i)
theorem arr4_one {b : Nat → Int} : allB oneCell (arr4 b) = true := by rw [allB_iff]; intro v hv; obtain ⟨i, _, rfl⟩ := List.mem_map.1 hv; rfl
theorem arr4_len {b : Nat → Int} : (arr4 b).length = 4 := by simp [arr4]
theorem arr4_splice {k : Nat} {c : Nat → Int} {x : Int} (hk : k < 4) : splice (arr4 c) k [.int .i64 x] = arr4 fun j => if j = k then x else c j := by
  obtain rfl | rfl | rfl | rfl : k = 0 ∨ k = 1 ∨ k = 2 ∨ k = 3 := by omega
  all_goals simp [splice, arr4, List.range_succ]
def enumS : Nat → Nat → Nat → (Nat → Int) → List (Nat → Int)
  | 0, i, r, c => [fun j => if j = i then (r : Int) else c j]
  | d + 1, i, r, c => (List.range (r + 1)).flatMap fun (k : Nat) => enumS d (i + 1) (r - k) fun j => if j = i then (k : Int) else c j
theorem enumS_congr : ∀ (d i r : Nat) (c c' : Nat → Int), (∀ j, j < i ∨ i + d < j → c j = c' j) → enumS d i r c = enumS d i r c'
  | 0, i, r, c, c', hc => by
    simp only [enumS]
    congr 1
    funext j
    by_cases e : j = i
    · simp [e]
    · simp only [e, if_false]; exact hc j (by omega)
  | d + 1, i, r, c, c', hc => by
    simp only [enumS]
    congr 1
    funext k
    refine enumS_congr d (i + 1) _ _ _ fun j hj => ?_
    by_cases e : j = i
    · simp [e]
    · simp only [e, if_false]
      exact hc j (by omega)
def OkS (M nv : Nat) (i : Nat) (c : Nat → Int) : Prop := (∀ j, j < i → 0 ≤ c j ∧ c j ≤ (M : Int)) ∧ ∀ j, nv ≤ j → c j = 0
section
variable {σ : Type}
structure ItS (pv py pc : Nat) (nv : Nat) (yv cv : Value) (g : AHeap) : Prop where
  v : Row g pv [.int .i64 (nv : Int)]
  y : Row g py [yv]
  c : Row g pc [cv]
theorem ItS.set {pv py pc pb gr nv : Nat} {cs : List Value} {yv cv : Value} {g g' : AHeap} (hi' : ItS pv py pc nv yv cv g) (hs : Set1 g g' pb cs gr) (h1 : pv ≠ pb) (h2 : py ≠ pb) (h3 : pc ≠ pb) : ItS pv py pc nv yv cv g' :=
  ⟨hi'.v.keep hs.keep h1, hi'.y.keep hs.keep h2, hi'.c.keep hs.keep h3⟩
end
variable {n : Nat} {h : AHeap}
def lowS (S : Nat → Nat → Int) (nv : Nat) (c : Nat → Int) : Int := minN (S 0 (c 0).toNat) (fun v => S v (c v).toNat) nv
noncomputable def spStep (S : Nat → Nat → Int) (nv : Nat) (s : (Nat → Int) × Int) (c : Nat → Int) : ((Nat → Int) × Int) × Bool := (if s.2 < lowS S nv c then (c, lowS S nv c) else s, true)
noncomputable def spRun (S : Nat → Nat → Int) (nv many : Nat) : (Nat → Int) × Int := (runL (spStep S nv) ((fun _ => 0), -1) (enumS (nv - 1) 0 many fun _ => 0)).1
def sureL (S : Nat → Nat → Int) (m v k : Nat) : List Value := (List.range 40).map fun i => .int .i64 (if (i / 10 < v ∧ i % 10 < m) ∨ (i / 10 = v ∧ i % 10 < k) then S (i / 10) (i % 10) else 0)
theorem sureL_len {S : Nat → Nat → Int} {m v k : Nat} : (sureL S m v k).length = 40 := by simp [sureL]
theorem sureL_one {S : Nat → Nat → Int} {m v k : Nat} : allB oneCell (sureL S m v k) = true := by rw [allB_iff]; intro v hv; obtain ⟨i, _, rfl⟩ := List.mem_map.1 hv; rfl
theorem sureL_next {S : Nat → Nat → Int} {m v : Nat} : sureL S m v m = sureL S m (v + 1) 0 := by
  unfold sureL
  congr 1
  funext i
  congr 1
  by_cases c : i / 10 < v + 1 ∧ i % 10 < m
  · rw [if_pos (by omega), if_pos (.inl c)]
  · rw [if_neg (by omega), if_neg (by omega)]
theorem sureL_zero {S : Nat → Nat → Int} {m : Nat} : sureL S m 0 0 = (List.range 40).map fun _ => .int .i64 0 := by
  unfold sureL
  congr 1
  funext i
  rw [if_neg (by omega)]
theorem sureL_splice {S : Nat → Nat → Int} {m v k : Nat} (hv : v < 4) (hk : k < 10) : splice (sureL S m v k) (v * 10 + k) [.int .i64 (S v k)] = sureL S m v (k + 1) := by
  refine map_splice (by simp; omega) (fun i hi hc => ?_) (fun j hj => ?_)
  · simp only [List.length_cons, List.length_nil] at hc
    congr 1
    by_cases c : (i / 10 < v ∧ i % 10 < m) ∨ (i / 10 = v ∧ i % 10 < k)
    · rw [if_pos c, if_pos (by omega)]
    · rw [if_neg c, if_neg (by omega)]
  · simp only [List.length_cons, List.length_nil] at hj
    obtain rfl : j = 0 := by omega
    simp only [Nat.add_zero, List.getElem?_cons_zero]
    rw [if_pos (by omega), show (v * 10 + k) / 10 = v by omega, show (v * 10 + k) % 10 = k by omega]
theorem sureL_get {S : Nat → Nat → Int} {m v j k : Nat} (hv : j < v) (h4 : j < 4) (hk : k < m) (h10 : k < 10) : (sureL S m v 0)[j * 10 + k]? = some (.int .i64 (S j k)) := by
  unfold sureL
  rw [List.getElem?_map, List.getElem?_range (by omega), Option.map_some, if_pos (by omega), show (j * 10 + k) / 10 = j by omega, show (j * 10 + k) % 10 = k by omega]
theorem idxArr_s {l s k b o : Nat} (hk : k < l) : indexArr l s (.pointer (some ⟨b, o, none⟩)) (.int .i64 (k : Int)) = some (.pointer (some ⟨b, o + k * s, none⟩)) := by
  show placeAt ⟨b, o, none⟩ (Int.ofNat k) l s = _
  unfold placeAt
  simp only [blt_iff.2 hk, cond_true]
theorem enumS_len : ∀ (d i r : Nat) (c : Nat → Int), (enumS d i r c).length ≤ (r + 1) ^ d
  | 0, _, _, _ => by simp [enumS]
  | d + 1, i, r, c => by
    simp only [enumS]
    have : ∀ k, k ≤ r + 1 → ((List.range k).flatMap fun (k : Nat) => enumS d (i + 1) (r - k) fun j => if j = i then (k : Int) else c j).length ≤ k * (r + 1) ^ d := by
      intro k
      induction k with
      | zero => intro _; simp
      | succ k ih =>
        intro hk
        rw [List.range_succ, List.flatMap_append, List.length_append, Nat.succ_mul]
        have h1 := ih (by omega)
        have h2 := enumS_len d (i + 1) (r - k) fun j => if j = i then (k : Int) else c j
        have h3 : (r - k + 1) ^ d ≤ (r + 1) ^ d := Nat.pow_le_pow_left (by omega) d
        simp only [List.flatMap_cons, List.flatMap_nil, List.append_nil]
        omega
    have := this (r + 1) (Nat.le_refl _)
    rw [Nat.pow_succ, Nat.mul_comm]
    exact this
theorem res_41 {a b : Nat} {f : Fr} {x y : Value} (h1 : loadAgg 4 h (f a) = some x) (h2 : loadCell h (f b) = some y) : resV f h [.cellN a 4, .cell1 b] = some (.tuple ⟨[x, y]⟩) := by
  simp [resV, resL, res1, h1, h2]
variable {n : Nat} {h : AHeap}
theorem x_eqNil {P : Program} {cf : CallF} {N : Nat} {f : Fr} {w : Bool} {x y : Operand} : sem P cf N f h (.eqNil w x y) = eqNilA w (val f x) (val f y) h := id rfl
theorem eqNil_no {w : Bool} {a : Addr} {k c k2 c2 : Nat} : eqNilA w (.slice (some a) k c) (.slice none k2 c2) h = some (.bool (!w), h) := id rfl
theorem eqNil_yes {w : Bool} {k c k2 c2 : Nat} : eqNilA w (.slice none k c) (.slice none k2 c2) h = some (.bool w, h) := id rfl
theorem ret_ttt {a b c : Nat} {f : Fr} : resV f h [.tmp a, .tmp b, .tmp c] = some (.tuple ⟨[f a, f b, f c]⟩) := id rfl
theorem x_sliceArr {P : Program} {cf : CallF} {N : Nat} {f : Fr} {m s : Nat} {x : Operand} {lo hi : Option Operand} : sem P cf N f h (.sliceArr m s x lo hi) = sliceArr m s h (val f x) (lo.map (val f)) (hi.map (val f)) := id rfl
theorem sliceArr4 {b m : Nat} (hm : m ≤ 4) : sliceArr 4 1 h (.pointer (some ⟨b, 0, none⟩)) none (some (.int .i64 (m : Int))) = some (.slice (some ⟨b, 0, none⟩) m 4, h) := by
  have e1 : boundA 0 none = some 0 := rfl
  have e2 : boundA 4 (some (.int .i64 (m : Int))) = some m := rfl
  have e3 : Nat.ble 0 m = true := ble_iff.2 (Nat.zero_le _)
  have e4 : Nat.ble m 4 = true := ble_iff.2 hm
  have e5 : Nat.beq 4 0 = false := rfl
  unfold sliceArr
  simp only [e1, e2, e3, e4, e5, Bool.and_self, cond_true, cond_false, addrPlus, Nat.zero_mul, Nat.add_zero, Nat.sub_zero]
variable {n : Nat} {h : AHeap}
theorem tail_own {b m : Nat} (hm : 0 < m) (hm1 : m ≤ 1000) : ∃ v', sliceA 1 false h (.slice (some ⟨b, 0, none⟩) m m) (some (.int .i64 1)) none none = some (v', h) ∧
    ∀ g (a : Nat → Int), Ints g (.slice (some ⟨b, 0, none⟩) m m) m a → Ints g v' (m - 1) (fun k => a (k + 1)) := by
  have e1 : boundA 0 (some (.int .i64 1)) = some 1 := rfl
  have e2 : boundA m none = some m := rfl
  have e3 : Nat.ble 1 m = true := ble_iff.2 hm
  have e4 : Nat.ble m m = true := ble_iff.2 (Nat.le_refl _)
  have e5 : Nat.blt m unk = true := blt_iff.2 (by unfold unk; omega)
  unfold sliceA
  simp only [e1, e2, e3, e4, e5, Bool.and_self, cond_true]
  refine ⟨_, rfl, fun g a hg => ?_⟩
  by_cases h1 : m = 1
  · subst h1
    exact ⟨_, _, rfl, fun x e => by cases e; rfl, .inl rfl⟩
  · have e6 : Nat.beq m 1 = false := by
      cases hb : Nat.beq m 1 with
      | false => rfl
      | true => exact absurd (beq_iff.1 hb) h1
    obtain ⟨b', o', cap', cs, w, gr, e, h2, h3⟩ := Cells.ptr hg hm
    cases e
    rw [e6]
    refine ⟨_, _, rfl, fun x e => by cases e; rfl, .inr ⟨b, 0 + 1 * 1, cs, w, gr, rfl, h2, fun k j hk hj => ?_⟩⟩
    have := h3 (k + 1) j (by omega) hj
    rw [show 0 + 1 * 1 + k * 1 + j = 0 + (k + 1) * 1 + j by omega]
    exact this
theorem minN_ask {f : Nat → Nat} : ∀ m, minN ((f 0 : Nat) : Int) (fun i => ((f (i + 1) : Nat) : Int)) m = (((askN f m).2 : Nat) : Int)
  | 0 => rfl
  | m + 1 => by
    have ih := minN_ask (f := f) m
    simp only [minN, askN, ih]
    by_cases c : f (m + 1) < (askN f m).2
    · rw [if_pos c]; show _ = ((f (m + 1) : Nat) : Int); omega
    · rw [if_neg c]; omega
variable {n : Nat} {h : AHeap}
theorem self_range {x y : Int} : eqV (.agg ⟨[.int .i64 x, .int .i64 y]⟩) (.agg ⟨[.int .i64 x, .int .i64 y]⟩) = true := by simp [eqV, eqCells, eqCell, sameK, eqI_eq]
variable {n : Nat} {h : AHeap}
theorem ex2 {x y z : Value} : extractA 2 (.tuple ⟨[x, y, z]⟩) h = some (z, h) := id rfl
theorem ex0' {x y z : Value} : extractA 0 (.tuple ⟨[x, y, z]⟩) h = some (x, h) := id rfl
theorem ex1' {x y z : Value} : extractA 1 (.tuple ⟨[x, y, z]⟩) h = some (y, h) := id rfl
variable {n : Nat} {h : AHeap}
variable {n : Nat} {h : AHeap}
def sumF (x : Nat → Int) : Nat → Nat → Int
  | _, 0 => 0
  | i, d + 1 => x i + sumF x (i + 1) d
theorem sumF_congr {x y : Nat → Int} : ∀ (d i : Nat), (∀ j, i ≤ j → j < i + d → x j = y j) → sumF x i d = sumF y i d
  | 0, _, _ => rfl
  | d + 1, i, h => by simp only [sumF]; rw [h i (by omega) (by omega), sumF_congr d (i + 1) fun j h1 h2 => h j (by omega) (by omega)]
theorem sumF_nonneg {x : Nat → Int} : ∀ (d i : Nat), (∀ j, i ≤ j → j < i + d → 0 ≤ x j) → 0 ≤ sumF x i d
  | 0, _, _ => by simp [sumF]
  | d + 1, i, h => by
    simp only [sumF]
    have h1 := h i (by omega) (by omega)
    have h2 := sumF_nonneg d (i + 1) fun j h1 h2 => h j (by omega) (by omega)
    omega
theorem sumF_last {x : Nat → Int} : ∀ (d i : Nat), sumF x i (d + 1) = sumF x i d + x (i + d)
  | 0, i => by simp [sumF]
  | d + 1, i => by
    have := sumF_last (x := x) d (i + 1)
    rw [sumF, this]
    conv => rhs; rw [sumF]
    rw [show i + 1 + d = i + (d + 1) by omega]
    omega
theorem sumF_le {x : Nat → Int} : ∀ (d i k : Nat), (∀ j, i ≤ j → j < i + d → 0 ≤ x j) → i ≤ k → k < i + d → x k ≤ sumF x i d
  | 0, _, _, _, _, _ => by omega
  | d + 1, i, k, h, h1, h2 => by
    simp only [sumF]
    have h3 := sumF_nonneg d (i + 1) fun j h1 h2 => h j (by omega) (by omega)
    by_cases e : k = i
    · subst e; omega
    · have h4 := sumF_le d (i + 1) k (fun j h1 h2 => h j (by omega) (by omega)) (by omega) (by omega)
      have h5 := h i (by omega) (by omega)
      omega
theorem enumS_mem : ∀ (d i r : Nat) (c x : Nat → Int), x ∈ enumS d i r c ↔ ((∀ j, j < i ∨ i + d < j → x j = c j) ∧ (∀ j, i ≤ j → j ≤ i + d → 0 ≤ x j) ∧ sumF x i (d + 1) = (r : Int))
  | 0, i, r, c, x => by
    simp only [enumS, List.mem_singleton, sumF]
    constructor
    · rintro rfl
      refine ⟨fun j hj => ?_, fun j h1 h2 => ?_, ?_⟩
      · have e : ¬ j = i := by omega
        simp [e]
      · have e : j = i := by omega
        simp [e]
      · simp
    · rintro ⟨h1, h2, h3⟩
      funext j
      by_cases e : j = i
      · subst e; simp; omega
      · simp only [e, if_false]; exact h1 j (by omega)
  | d + 1, i, r, c, x => by
    simp only [enumS, List.mem_flatMap, List.mem_range]
    constructor
    · rintro ⟨k, hk, hx⟩
      obtain ⟨h1, h2, h3⟩ := (enumS_mem d (i + 1) (r - k) _ x).1 hx
      have hxi : x i = (k : Int) := by have := h1 i (by omega); simpa using this
      refine ⟨fun j hj => ?_, fun j a1 a2 => ?_, ?_⟩
      · have := h1 j (by omega)
        have e : ¬ j = i := by omega
        simpa [e] using this
      · by_cases e : j = i
        · subst e; omega
        · exact h2 j (by omega) (by omega)
      · simp only [sumF] at h3 ⊢; omega
    · rintro ⟨h1, h2, h3⟩
      have h4 : sumF x i (d + 1 + 1) = x i + sumF x (i + 1) (d + 1) := rfl
      have h5 := h2 i (by omega) (by omega)
      have h6 := sumF_nonneg (x := x) (d + 1) (i + 1) fun j a1 a2 => h2 j (by omega) (by omega)
      refine ⟨(x i).toNat, by omega, (enumS_mem d (i + 1) _ _ x).2 ⟨fun j hj => ?_, fun j a1 a2 => h2 j (by omega) (by omega), by omega⟩⟩
      by_cases e : j = i
      · subst e; simp; omega
      · simp only [e, if_false]; exact h1 j (by omega)
theorem enumS_sorted : ∀ (d i r : Nat) (c : Nat → Int), (enumS d i r c).Pairwise fun a b => LexLt a b (i + d + 1)
  | 0, _, _, _ => by simp [enumS]
  | d + 1, i, r, c => by
    simp only [enumS]
    rw [List.pairwise_flatMap]
    refine ⟨fun k _ => ?_, ?_⟩
    · have := enumS_sorted d (i + 1) (r - k) fun j => if j = i then (k : Int) else c j
      rw [show i + (d + 1) + 1 = i + 1 + d + 1 by omega]
      exact this
    · refine List.Pairwise.imp (R := fun a b : Nat => a < b) (fun {a b} hab x hx y hy => ?_) List.pairwise_lt_range
      obtain ⟨h1, _, _⟩ := (enumS_mem _ _ _ _ _).1 hx
      obtain ⟨h2, _, _⟩ := (enumS_mem _ _ _ _ _).1 hy
      refine ⟨i, by omega, fun j hj => ?_, ?_⟩
      · have e : ¬ j = i := by omega
        rw [h1 j (by omega), h2 j (by omega)]; simp [e]
      · have e1 := h1 i (by omega)
        have e2 := h2 i (by omega)
        simp only [if_true] at e1 e2
        omega
theorem spStep_go {S : Nat → Nat → Int} {nv : Nat} {s : (Nat → Int) × Int} {c : Nat → Int} : (spStep S nv s c).2 = true := rfl
theorem run_sp {S : Nat → Nat → Int} {nv : Nat} : ∀ (L : List (Nat → Int)) (s : (Nat → Int) × Int),
    ((runL (spStep S nv) s L).1 = s ∧ ∀ c, c ∈ L → lowS S nv c ≤ s.2) ∨
      ∃ l1 b l2, L = l1 ++ b :: l2 ∧ (runL (spStep S nv) s L).1 = (b, lowS S nv b) ∧ s.2 < lowS S nv b ∧ (∀ c, c ∈ l1 → lowS S nv c < lowS S nv b) ∧ ∀ c, c ∈ l2 → lowS S nv c ≤ lowS S nv b
  | [], s => .inl ⟨rfl, fun c hc => by simp at hc⟩
  | x :: L, s => by
    have hr : runL (spStep S nv) s (x :: L) = runL (spStep S nv) (spStep S nv s x).1 L := by simp [runL, spStep_go]
    rw [hr]
    by_cases hx : s.2 < lowS S nv x
    · have hs : (spStep S nv s x).1 = (x, lowS S nv x) := by unfold spStep; rw [if_pos hx]
      rw [hs]
      rcases run_sp L (x, lowS S nv x) with ⟨e, hc⟩ | ⟨l1, b, l2, e, e2, h1, h2, h3⟩
      · exact .inr ⟨[], x, L, rfl, e, hx, fun c hc => by simp at hc, hc⟩
      · have h1 : lowS S nv x < lowS S nv b := h1
        refine .inr ⟨x :: l1, b, l2, by rw [e]; rfl, e2, by omega, fun c hc => ?_, h3⟩
        rcases List.mem_cons.1 hc with rfl | hc
        · exact h1
        · exact h2 c hc
    · have hs : (spStep S nv s x).1 = s := by unfold spStep; rw [if_neg hx]
      rw [hs]
      rcases run_sp L s with ⟨e, hc⟩ | ⟨l1, b, l2, e, e2, h1, h2, h3⟩
      · refine .inl ⟨e, fun c hcm => ?_⟩
        rcases List.mem_cons.1 hcm with rfl | hcm
        · omega
        · exact hc c hcm
      · refine .inr ⟨x :: l1, b, l2, by rw [e]; rfl, e2, h1, fun c hc => ?_, h3⟩
        rcases List.mem_cons.1 hc with rfl | hc
        · omega
        · exact h2 c hc
theorem le_lowS {S : Nat → Nat → Int} {nv : Nat} (hv : 0 < nv) {c : Nat → Int} {b : Int} : b ≤ lowS S nv c ↔ ∀ v, v < nv → b ≤ S v (c v).toNat := by
  unfold lowS
  rw [le_minN]
  exact ⟨fun h => h.2, fun h => ⟨h 0 hv, h⟩⟩
def IsPut (nv many : Nat) (c : Nat → Int) : Prop := (∀ j, nv ≤ j → c j = 0) ∧ (∀ j, j < nv → 0 ≤ c j) ∧ sumF c 0 nv = (many : Int)
theorem put_mem {nv many : Nat} (hv : 0 < nv) {c : Nat → Int} : c ∈ enumS (nv - 1) 0 many (fun _ => 0) ↔ IsPut nv many c := by
  rw [enumS_mem, show nv - 1 + 1 = nv by omega]
  exact ⟨fun ⟨a, b, e⟩ => ⟨fun j hj => a j (by omega), fun j hj => b j (by omega) (by omega), e⟩, fun ⟨a, b, e⟩ => ⟨fun j hj => a j (by omega), fun j _ hj => b j (by omega), e⟩⟩
theorem first_put {nv many : Nat} (hv : 0 < nv) : IsPut nv many fun j => if j = 0 then (many : Int) else 0 := by
  have h0 : ∀ d i, 0 < i → sumF (fun j => if j = 0 then (many : Int) else 0) i d = 0 := by
    intro d
    induction d with
    | zero => intro i _; rfl
    | succ d ih => intro i hi; simp only [sumF]; rw [ih (i + 1) (by omega), if_neg (by omega)]; rfl
  refine ⟨fun j hj => ?_, fun j hj => ?_, ?_⟩
  · have e : ¬ j = 0 := by omega
    simp [e]
  · by_cases e : j = 0 <;> simp [e]
  · obtain ⟨k, rfl⟩ : ∃ k, nv = k + 1 := ⟨nv - 1, by omega⟩
    simp only [sumF]; rw [h0 k 1 (by omega)]; simp
theorem spRun_is {S : Nat → Nat → Int} {nv many : Nat} (hv : 0 < nv) (hS : ∀ v k, v < nv → k ≤ many → 0 ≤ S v k) :
    IsPut nv many (spRun S nv many).1 ∧ (spRun S nv many).2 = lowS S nv (spRun S nv many).1 ∧ (∀ c, IsPut nv many c → lowS S nv c ≤ (spRun S nv many).2) ∧
      ∀ c, IsPut nv many c → lowS S nv c = (spRun S nv many).2 → ¬ LexLt c (spRun S nv many).1 nv := by
  have hle : ∀ c, IsPut nv many c → ∀ v, v < nv → (c v).toNat ≤ many := fun c hc v hv => by
    have h1 := sumF_le nv 0 v (fun j _ h => hc.2.1 j (by omega)) (by omega) (by omega)
    have h2 := hc.2.2
    omega
  have hpos : ∀ c, IsPut nv many c → 0 ≤ lowS S nv c := fun c hc => (le_lowS hv).2 fun v hvv => hS v _ hvv (hle c hc v hvv)
  have hsort := enumS_sorted (nv - 1) 0 many fun _ => 0
  rw [show 0 + (nv - 1) + 1 = nv by omega] at hsort
  unfold spRun
  rcases run_sp (S := S) (nv := nv) (enumS (nv - 1) 0 many fun _ => 0) ((fun _ => 0), -1) with ⟨_, hc⟩ | ⟨l1, b, l2, e, e2, h1, h2, h3⟩
  · have h1 := hc _ ((put_mem hv).2 (first_put hv))
    have h2 := hpos _ (first_put (many := many) hv)
    have h1 : lowS S nv _ ≤ -1 := h1
    omega
  · rw [e2]
    refine ⟨(put_mem hv).1 (by rw [e]; simp), rfl, fun c hc => ?_, fun c hc heq hlt => ?_⟩
    · have hm := (put_mem hv).2 hc
      rw [e, List.mem_append, List.mem_cons] at hm
      rcases hm with hm | rfl | hm
      · have := h2 c hm; show lowS S nv c ≤ lowS S nv b; omega
      · exact Int.le_refl _
      · exact h3 c hm
    · have heq : lowS S nv c = lowS S nv b := heq
      have hm := (put_mem hv).2 hc
      rw [e, List.mem_append, List.mem_cons] at hm
      rw [e, List.pairwise_append] at hsort
      rcases hm with hm | rfl | hm
      · have := h2 c hm; omega
      · exact lex_irr hlt
      · have := (List.pairwise_cons.1 hsort.2.1).1 c hm
        exact lex_irr (lex_trans this hlt)
theorem lowS_mono {S : Nat → Nat → Int} {nv : Nat} (hv : 0 < nv) {c d : Nat → Int} (h : ∀ v, v < nv → S v (c v).toNat ≤ S v (d v).toNat) : lowS S nv c ≤ lowS S nv d :=
  (le_lowS hv).2 fun v hvv => Int.le_trans ((le_lowS hv).1 (Int.le_refl _) v hvv) (h v hvv)
theorem spRun_more {S : Nat → Nat → Int} {nv many : Nat} (hv : 0 < nv) (hS : ∀ v k, v < nv → k ≤ many + 1 → 0 ≤ S v k) (hm : ∀ v k, v < nv → S v k ≤ S v (k + 1)) : (spRun S nv many).2 ≤ (spRun S nv (many + 1)).2 := by
  obtain ⟨h1, h2, _, _⟩ := spRun_is (S := S) (many := many) hv fun v k a b => hS v k a (by omega)
  obtain ⟨_, _, h3, _⟩ := spRun_is (S := S) (many := many + 1) hv fun v k a b => hS v k a b
  rw [h2]
  generalize (spRun S nv many).1 = c at h1
  obtain ⟨p1, p2, p3⟩ := h1
  have hc0 := p2 0 hv
  have hp : IsPut nv (many + 1) fun j => if j = 0 then c 0 + 1 else c j := by
    refine ⟨fun j hj => ?_, fun j hj => ?_, ?_⟩
    · have e : ¬ j = 0 := by omega
      simp only [e, if_false]; exact p1 j hj
    · by_cases e : j = 0
      · simp only [e, if_true]; omega
      · simp only [e, if_false]; exact p2 j hj
    · obtain ⟨k, rfl⟩ : ∃ k, nv = k + 1 := ⟨nv - 1, by omega⟩
      simp only [sumF, if_true] at p3 ⊢
      rw [sumF_congr (y := c) k (0 + 1) fun j a b => by rw [if_neg (by omega)]]
      omega
  refine Int.le_trans (lowS_mono hv fun v hvv => ?_) (h3 _ hp)
  by_cases e : v = 0
  · subst e
    simp only [if_true]
    rw [show (c 0 + 1).toNat = (c 0).toNat + 1 by omega]
    exact hm 0 _ hvv
  · simp only [e, if_false]; exact Int.le_refl _
variable {n : Nat} {h : AHeap}
def Words (h : AHeap) (v : Value) (m : Nat) (a : Nat → Nat) : Prop := Cells h v 1 m (fun k _ => .int .u16 (a k : Int)) ∧ ∀ k, k < m → a k < 65536
theorem Words.mono {g : AHeap} {v : Value} {m : Nat} {a : Nat → Nat} (hw : Words h v m a) (hs : Sub All h g) : Words g v m a := ⟨Cells.mono hw.1 hs, hw.2⟩
def run16 (other : AHeap → Option (Value × AHeap)) (a : Value) (h : AHeap) : Option (Value × AHeap) :=
  match a with
  | .int .u16 a => some (.int .i64 (IntKind.wrap .i64 a), h)
  | _ => other h
theorem r_16 {other : AHeap → Option (Value × AHeap)} {k : Nat} (hk : k < 65536) : run16 other (.int .u16 (k : Int)) h = some (.int .i64 (k : Int), h) := by
  simp only [run16]
  rw [IntWalk.i64_in _ (by omega)]
def rowI (m : Nat) (c : Nat → Int) : List Value := (List.range m).map fun i => .int .i64 (c i)
theorem rowI_one {m : Nat} {c : Nat → Int} : allB oneCell (rowI m c) = true := by rw [allB_iff]; intro v hv; obtain ⟨i, _, rfl⟩ := List.mem_map.1 hv; rfl
theorem rowI_len {m : Nat} {c : Nat → Int} : (rowI m c).length = m := by simp [rowI]
theorem rowI_get {m k : Nat} {c : Nat → Int} (hk : k < m) : (rowI m c)[k]? = some (.int .i64 (c k)) := by unfold rowI; rw [List.getElem?_map, List.getElem?_range hk]; rfl
theorem rowI_splice {m k : Nat} {c : Nat → Int} {x : Int} (hk : k < m) : splice (rowI m c) k [.int .i64 x] = rowI m fun j => if j = k then x else c j := by
  unfold rowI
  refine map_splice (by simp; omega) (fun i hi hc => ?_) (fun j hj => ?_)
  · simp only [List.length_cons, List.length_nil] at hc
    have e : ¬ i = k := by omega
    simp only [e, if_false]
  · simp only [List.length_cons, List.length_nil] at hj
    obtain rfl : j = 0 := by omega
    simp
theorem repl_rowI {m : Nat} : repl [.int .i64 0] m = rowI m fun _ => 0 := by
  rw [repl_mixI]
  unfold rowI
  congr 1
theorem rowI_ints {m b w : Nat} {c : Nat → Int} {cap : Nat} (hg : ∃ wr gr, h.get b = some (.row (rowI m c) wr gr)) : Ints h (.slice (some ⟨b, 0, none⟩) m cap) m c := by
  obtain ⟨wr, gr, e⟩ := hg
  exact ⟨_, _, rfl, fun x e => by cases e; rfl, .inr ⟨_, 0, _, _, _, rfl, e, fun k j hk hj => by
    obtain rfl : j = 0 := by omega
    rw [show 0 + k * 1 + 0 = k by omega, rowI_get hk]⟩⟩
theorem sumF_bump {c : Nat → Int} {k : Nat} : ∀ (d i : Nat), sumF (fun j => if j = k then c j + 1 else c j) i d = sumF c i d + if i ≤ k ∧ k < i + d then 1 else 0
  | 0, i => by simp only [sumF]; rw [if_neg (by omega)]; rfl
  | d + 1, i => by
    simp only [sumF]
    rw [sumF_bump d (i + 1)]
    by_cases e : i = k
    · subst e
      simp only [if_true]
      rw [if_neg (by omega), if_pos (by omega)]; omega
    · rw [if_neg e]
      by_cases e2 : i + 1 ≤ k ∧ k < i + 1 + d
      · rw [if_pos e2, if_pos (by omega)]; omega
      · rw [if_neg e2, if_neg (by omega)]; omega
variable {n : Nat} {h : AHeap}
variable {n : Nat} {h : AHeap}
variable {n : Nat} {h : AHeap}
theorem findFrom_get {p : Nat → Prop} {m : Nat} (h : 0 ≤ findFrom p m 0) : ∃ k, k < m ∧ p k ∧ (∀ j, j < k → ¬ p j) ∧ findFrom p m 0 = k := by
  obtain ⟨k, h1, h2⟩ := findFrom_iff.1 h
  have : ∀ k, k < m → p k → ∃ k, k < m ∧ p k ∧ (∀ j, j < k → ¬ p j) := by
    intro k
    induction k using Nat.strongRecOn with
    | ind k ih =>
      intro hk hp
      by_cases e : ∃ j, j < k ∧ p j
      · obtain ⟨j, e1, e2⟩ := e
        exact ih j e1 (by omega) e2
      · exact ⟨k, hk, hp, fun j hj hp => e ⟨j, hj, hp⟩⟩
  obtain ⟨k, h1, h2, h3⟩ := this k h1 h2
  exact ⟨k, h1, h2, h3, findFrom_at h1 h3 h2⟩
theorem quo8 {a : Nat} (h : a < 256) : IntKind.wrap .i64 ((a : Int).tdiv 8) = ((a / 8 : Nat) : Int) := by
  have e : (a : Int).tdiv 8 = ((a / 8 : Nat) : Int) := rfl
  rw [e]; exact IntWalk.i64_in _ (by omega)
variable {n : Nat} {h : AHeap}
theorem ex30 {x y z : Value} : extractA 0 (.tuple ⟨[x, y, z]⟩) h = some (x, h) := id rfl
theorem ex31 {x y z : Value} : extractA 1 (.tuple ⟨[x, y, z]⟩) h = some (y, h) := id rfl
theorem ex32 {x y z : Value} : extractA 2 (.tuple ⟨[x, y, z]⟩) h = some (z, h) := id rfl
theorem sumF_int {c : Nat → Int} {m k : Nat} (hp : IsPut m k c) (hk : k ≤ 9) : ∀ i, i ≤ m → 0 ≤ sumF c 0 i ∧ sumF c 0 i ≤ 9 := by
  intro i hi
  refine ⟨sumF_nonneg i 0 fun j _ h => hp.2.1 j (by omega), ?_⟩
  have : ∀ d, i + d ≤ m → sumF c 0 i ≤ sumF c 0 (i + d) := by
    intro d
    induction d with
    | zero => intro _; exact Int.le_refl _
    | succ d ih =>
      intro hd
      have h1 := ih (by omega)
      rw [show i + (d + 1) = i + d + 1 by omega, sumF_last]
      have h2 := hp.2.1 (0 + (i + d)) (by omega)
      omega
  have h1 := this (m - i) (by omega)
  rw [show i + (m - i) = m by omega, hp.2.2] at h1
  omega
variable {n : Nat} {h : AHeap}
variable {n : Nat} {h : AHeap}
theorem sl_len {a b : List Int} (h : ¬ SL a b) : b.length ≤ a.length := by
  apply Classical.byContradiction
  intro hc
  exact h (.inl (by omega))
def flatL (s m : Nat) (c : Nat → Nat → Value) : List Value := (List.range (m * s)).map fun i => c (i / s) (i % s)
theorem flatL_len {s m : Nat} {c : Nat → Nat → Value} : (flatL s m c).length = m * s := by simp [flatL]
theorem flatL_get {s m k j : Nat} {c : Nat → Nat → Value} (hk : k < m) (hj : j < s) : (flatL s m c)[k * s + j]? = some (c k j) := by
  have hlt : k * s + j < m * s := by
    have : (k + 1) * s ≤ m * s := Nat.mul_le_mul_right s hk
    rw [Nat.add_mul] at this
    omega
  unfold flatL
  rw [List.getElem?_map, List.getElem?_range hlt, Option.map_some, Nat.mul_comm k s, Nat.mul_add_div (by omega), Nat.div_eq_of_lt hj, Nat.mul_add_mod, Nat.mod_eq_of_lt hj, Nat.add_zero]
theorem Cells.list {v : Value} {s m : Nat} {c : Nat → Nat → Value} (hs : 0 < s) (hi : Cells h v s m c) : ∃ x k, v = .slice x m k ∧ cellsOfSlice h s v = some (flatL s m c) := by
  obtain ⟨x, cap, rfl, _, h0 | ⟨b, o, cs, w, gr, rfl, h1, h2⟩⟩ := hi
  · subst h0
    refine ⟨x, cap, rfl, ?_⟩
    cases x <;> simp [cellsOfSlice, flatL]
  · refine ⟨_, cap, rfl, ?_⟩
    by_cases hm : m = 0
    · subst hm; simp [cellsOfSlice, flatL]
    have hb : Nat.beq m 0 = false := by
      cases hb : Nat.beq m 0 with
      | false => rfl
      | true => exact absurd (beq_iff.1 hb) hm
    show (bif Nat.beq m 0 then some [] else match h.get b with
      | some (.row cs _ _) => dropK cs o fun r => takeK r (m * s) fun l => some l
      | _ => none) = _
    have hl := (List.getElem?_eq_some_iff.1 (h2 (m - 1) (s - 1) (by omega) (by omega))).1
    have hms : (m - 1) * s + s = m * s := by
      obtain ⟨p, rfl⟩ : ∃ p, m = p + 1 := ⟨m - 1, by omega⟩
      rw [Nat.add_sub_cancel, Nat.add_mul, Nat.one_mul]
    rw [hb, cond_false, h1]
    simp only [dropK_eq, takeK_eq]
    rw [if_pos (by omega), if_pos (by rw [List.length_drop]; omega)]
    congr 1
    apply List.ext_getElem?
    intro i
    simp only [List.getElem?_take, List.getElem?_drop]
    by_cases hi : i < m * s
    · rw [if_pos hi]
      have hd : i / s < m := (Nat.div_lt_iff_lt_mul hs).2 hi
      have hr : i % s < s := Nat.mod_lt _ hs
      have e : i / s * s + i % s = i := by have := Nat.div_add_mod i s; rw [Nat.mul_comm] at this; exact this
      have h3 := h2 (i / s) (i % s) hd hr
      have h4 := flatL_get (c := c) hd hr
      rw [e] at h4
      rw [h4, ← h3]
      congr 1
      omega
    · rw [if_neg hi, List.getElem?_eq_none (by rw [flatL_len]; omega)]
theorem cells_sub {g : AHeap} {v : Value} {s m : Nat} {c : Nat → Nat → Value} (hsub : Sub All h g) (hc : Cells h v s m c) (hs : 0 < s) {l : List Value} (hl : cellsOfSlice h s v = some l) : cellsOfSlice g s v = some l := by
  obtain ⟨x, k, e, h1⟩ := Cells.list hs hc
  obtain ⟨x', k', e', h2⟩ := Cells.list hs (hc.mono hsub)
  rw [h1] at hl
  rw [h2, hl]
theorem flatL_one {s m : Nat} {c : Nat → Nat → Int} : allB oneCell (flatL s m fun k j => .int .i64 (c k j)) = true := by rw [allB_iff]; intro v hv; obtain ⟨i, _, rfl⟩ := List.mem_map.1 hv; rfl
variable {n : Nat} {h : AHeap}
theorem there_p {a : Addr} : thereA (.pointer (some a)) h = some (.pointer (some a), h) := id rfl
theorem build_none2 {a b : Value} : buildSl 2 0 [a, b] [] h [] = newSlice h [] 0 0 0 := id rfl
theorem build_none3 {a b c : Value} : buildSl 3 0 [a, b, c] [] h [] = newSlice h [] 0 0 0 := id rfl
theorem quoN {a d : Nat} (h : a < 256) : IntKind.wrap .i64 ((a : Int).tdiv (d : Int)) = ((a / d : Nat) : Int) := by
  have e : (a : Int).tdiv (d : Int) = ((a / d : Nat) : Int) := rfl
  have : a / d ≤ a := Nat.div_le_self _ _
  rw [e]
  generalize a / d = q at this
  exact IntWalk.i64_in _ (by omega)
theorem splice_at {s m k j : Nat} {cs : List Value} {c : Nat → Nat → Value} {x : Value} (hc : ∀ k j, k < m → j < s → cs[k * s + j]? = some (c k j)) (hk : k < m) (hj : j < s) :
    ∀ k' j', k' < m → j' < s → (splice cs (k * s + j) [x])[k' * s + j']? = some (if k' = k ∧ j' = j then x else c k' j') := by
  intro k' j' hk' hj'
  have h0 := hc k j hk hj
  have hlt := (List.getElem?_eq_some_iff.1 h0).1
  by_cases e : k' = k ∧ j' = j
  · rw [if_pos e]
    obtain ⟨rfl, rfl⟩ := e
    simp only [splice]
    rw [List.getElem?_append_right (by simp; omega)]
    rw [List.length_take, Nat.min_eq_left (by omega), Nat.sub_self]
    rfl
  · rw [if_neg e]
    have hne : k' * s + j' ≠ k * s + j := by
      intro hh
      apply e
      have hkk : k' = k := by
        rcases Nat.lt_trichotomy k' k with h1 | h1 | h1
        · have : (k' + 1) * s ≤ k * s := Nat.mul_le_mul_right s h1
          rw [Nat.add_mul] at this; omega
        · exact h1
        · have : (k + 1) * s ≤ k' * s := Nat.mul_le_mul_right s h1
          rw [Nat.add_mul] at this; omega
      subst hkk
      exact ⟨rfl, by omega⟩
    have h3 := hc k' j' hk' hj'
    rw [← h3]
    simp only [splice]
    rcases Nat.lt_or_ge (k' * s + j') (k * s + j) with h1 | h1
    · rw [List.getElem?_append_left (by simp; omega), List.getElem?_take, if_pos h1]
    · rw [List.getElem?_append_right (by simp; omega), List.length_take, Nat.min_eq_left (by omega), List.getElem?_append_right (by simp; omega), List.getElem?_drop]
      simp only [List.length_cons, List.length_nil]
      congr 1
      omega
theorem cells_row {b s m cap : Nat} {cs : List Value} {c : Nat → Nat → Value} (hr : Row h b cs) (hc : ∀ k j, k < m → j < s → cs[k * s + j]? = some (c k j)) : Cells h (.slice (some ⟨b, 0, none⟩) m cap) s m c := by
  obtain ⟨w, gr, e⟩ := hr
  exact ⟨_, _, rfl, fun x e => by cases e; rfl, .inr ⟨b, 0, _, _, _, rfl, e, fun k j hk hj => by rw [Nat.zero_add]; exact hc k j hk hj⟩⟩
variable {n : Nat} {h : AHeap}
section
variable {H : Type} {enc : TypeId × Value → H} {w : World} {base : Nat} {sp : Nat → Bool} {held : Bool} {fuel : Nat} {cs : List Value} {x : DataW H × List MemPlace}
structure YardW (w : World) (fv vv sv : Value) : Prop where
  f : FlatS w .i64 2 fv
  s : FlatS w .i64 3 sv
  v : vv = .slice none 0 0 ∨ ∃ a len cap, vv = .slice (some a) len cap ∧ len ≤ cap ∧ ∀ i, i < len → ∃ v, w.cell? (a.add i) = some v ∧ FlatS w .i64 1 v
end
theorem flatS_len {w : World} {k : IntKind} {s : Nat} {v : Value} (hf : FlatS w k s v) : v = .slice none 0 0 ∨ ∃ a len cap, v = .slice (some a) len cap ∧ len ≤ cap := by
  rcases hf with h | ⟨a, len, cap, h1, h2, _⟩
  · exact .inl h
  · exact .inr ⟨a, len, cap, h1, h2⟩
def Big (u0 u1 u2 : Value) : Prop := ∃ a0 n0 k0 a1 n1 k1 a2 n2 k2, u0 = .slice a0 n0 k0 ∧ u1 = .slice a1 n1 k1 ∧ u2 = .slice a2 n2 k2 ∧ (30 < n0 ∨ 30 < n1 ∨ 30 < n2)
variable {n : Nat} {h : AHeap}
theorem cell_slice {P : Program} {w : World} {r : Reach} {b : Nat} {t e : TypeId} {v x : Value} (ht : P.underlying t = some (.slice e)) (ho : Value.okWide P w r b t v) (hc : v.cells.toList = [x]) : v = x := by
  unfold Value.okWide at ho
  rw [ht] at ho
  cases v <;> simp_all [Value.cells, Cell.okWide, Cell.ok]
theorem cell_int {P : Program} {w : World} {r : Reach} {b : Nat} {t : TypeId} {k : IntKind} {v x : Value} (ht : P.underlying t = some (.int k)) (ho : Value.okWide P w r b t v) (hc : v.cells.toList = [x]) : v = x := by
  unfold Value.okWide at ho
  rw [ht] at ho
  cases v <;> simp_all [Value.cells, Cell.okWide, Cell.ok]
theorem agg_struct {P : Program} {w : World} {r : Reach} {b : Nat} {t : TypeId} {fs : Array Field} {v : Value} {cs : List Value} (ht : P.underlying t = some (.struct fs)) (ho : Value.okWide P w r b t v) (hc : v.cells.toList = cs) : v = .agg ⟨cs⟩ := by
  unfold Value.okWide at ho
  rw [ht] at ho
  obtain ⟨cs', rfl, _⟩ := ho
  subst hc
  rfl
theorem Big.one {u0 u1 u2 : Value} (hb : Big u0 u1 u2) : allB oneCell [u0, u1, u2] = true := by
  obtain ⟨a0, n0, k0, a1, n1, k1, a2, n2, k2, rfl, rfl, rfl, _⟩ := hb
  rfl
theorem stands_yard {w : World} {φ : Emb} {u0 u1 u2 fv vv sv : Value} (h0 : Stands φ h u0 fv) (h1 : Stands φ h u1 vv) (h2 : Stands φ h u2 sv) : mapV φ (.agg ⟨[u0, u1, u2]⟩) = .agg ⟨[fv, vv, sv]⟩ ∧ okV φ h.next (.agg ⟨[u0, u1, u2]⟩) := by
  refine ⟨?_, ?_⟩
  · simp only [mapV, mapArr, mapL, h0.map, h1.map, h2.map]
  · simp only [okV, okA, okL, and_true]
    exact ⟨h0.ok, h1.ok, h2.ok⟩
theorem map_int {φ : Emb} {k : IntKind} {a : Int} : mapV φ (.int k a) = .int k a := by simp [mapV]
abbrev IntsOf (h : AHeap) (v : Value) (c : Nat → Nat → Int) (m : Nat) : Prop := Ints h v m fun k => c k 0
theorem intsOf {v : Value} {c : Nat → Nat → Int} {m : Nat} (hc : Cells h v 1 m fun i j => .int .i64 (c i j)) : IntsOf h v c m := by
  obtain ⟨a, cap, f1, f2, f3⟩ := hc
  refine ⟨a, cap, f1, f2, f3.imp id fun ⟨b, o, cs, wr, g, g1, g2, g3⟩ => ⟨b, o, cs, wr, g, g1, g2, fun i j hi hj => ?_⟩⟩
  have : j = 0 := by omega
  subst this
  exact g3 i 0 hi hj
variable {n : Nat} {h : AHeap}
variable {n : Nat} {h : AHeap}
def DRows (B : Nat) (h : AHeap) (v : Value) (n m : Nat) (q : Nat → Nat → Int) : Prop :=
  ∃ bk : Nat → Nat, GrowC B h v 1 n (fun k _ => .slice (some ⟨bk k, 0, none⟩) m unk) ∧ ∀ k, k < n → h.get (bk k) = some (.row (rowI m (q k)) true 1) ∧ B ≤ bk k ∧ bk k < h.next ∧ (∀ b c d, v = .slice (some b) c d → bk k ≠ b.block) ∧ ∀ j, j < n → j ≠ k → bk j ≠ bk k
theorem DRows.nil {B m : Nat} {q : Nat → Nat → Int} : DRows B h nilS 0 m q := ⟨fun _ => 0, .nil, fun k hk => by omega⟩
theorem DRows.rows {B n m : Nat} {v : Value} {q : Nat → Nat → Int} (hd : DRows B h v n m q) : Rows h v n (fun _ => m) q := by
  obtain ⟨bk, h1, h2⟩ := hd
  exact ⟨_, h1.cells, fun k hk => rowI_ints (w := 0) ⟨_, _, (h2 k hk).1⟩⟩
theorem DRows.keep {B o n m : Nat} {g : AHeap} {v : Value} {q : Nat → Nat → Int} (hd : DRows B h v n m q) (hk : Keep o h g) (ho : o < B) : DRows B g v n m q := by
  obtain ⟨bk, h1, h2⟩ := hd
  refine ⟨bk, h1.keep hk ho, fun k hkn => ?_⟩
  obtain ⟨a1, a2, a3, a4, a5⟩ := h2 k hkn
  exact ⟨hk.sub _ _ _ _ (by omega) a1, a2, Nat.lt_of_lt_of_le a3 hk.up, a4, a5⟩
theorem DRows.sub {B n m : Nat} {g : AHeap} {v : Value} {q : Nat → Nat → Int} (hd : DRows B h v n m q) (hs : Sub All h g) (hup : h.next ≤ g.next) : DRows B g v n m q := by
  obtain ⟨bk, h1, h2⟩ := hd
  refine ⟨bk, h1.sub hs, fun k hkn => ?_⟩
  obtain ⟨a1, a2, a3, a4, a5⟩ := h2 k hkn
  exact ⟨hs _ _ _ _ trivial a1, a2, Nat.lt_of_lt_of_le a3 hup, a4, a5⟩
theorem DRows.push {B n m b : Nat} {g h1 : AHeap} {v : Value} {q : Nat → Nat → Int} (hd : DRows B g v n m q) (hs : Sub All g h) (hup : g.next ≤ h.next) (hbg : g.next ≤ b) (hB : h.floor ≤ B) (hf : h.next + 2 < far) (hBn : B ≤ g.next) (hl : h.get b = some (.row (rowI m (q n)) true 1)) (hb : b < h.next) (hx : New h h1 [.slice (some ⟨b, 0, none⟩) m unk] 0) (hn : n + 1 ≤ 1000) :
    ∃ v' g', appendA 1 24 h1 v (.slice (some ⟨h.next, 0, none⟩) 1 1) = some (v', g') ∧ DRows B g' v' (n + 1) m q ∧ Kept h1 g' v ∧ oneCell v' = true ∧ (∀ a k c, v = .slice (some a) k c → B ≤ a.block) ∧ v' = .slice (some ⟨h1.next, 0, none⟩) (n + 1) unk := by
  obtain ⟨bk, g1, g2⟩ := hd
  have hnx := hx.next
  have hfl := hx.floor
  let bk' : Nat → Nat := fun i => if i = n then b else bk i
  have g1' : GrowC B h1 v 1 n (fun k _ => .slice (some ⟨bk' k, 0, none⟩) m unk) := ((g1.sub hs).sub hx.sub).congr fun k j hk hj => by show Value.slice (some ⟨bk k, 0, none⟩) m unk = .slice (some ⟨if k = n then b else bk k, 0, none⟩) m unk; rw [if_neg (by omega)]
  obtain ⟨v', g', e, ev, gv, hk⟩ := g1'.append (bytes := 24) (cap := 1) (by omega) (by omega) (by omega) hx.get rfl rfl (fun j hj => by rw [one_get j hj]; show some _ = some (Value.slice (some ⟨if n = n then b else bk n, 0, none⟩) m unk); rw [if_pos rfl]) (by simp [maxBytes]; omega) (by simp [maxBytes]; omega)
  have hkn := hk.next
  refine ⟨v', g', e, ⟨bk', gv, fun i hi => ?_⟩, hk, gv.one, fun a k c e => (g1.block e).1, ev⟩
  have hout : ∀ x c d, v' = .slice (some x) c d → x.block = h1.next := fun x c d e' => by rw [ev] at e'; cases e'; rfl
  by_cases hin : i = n
  · subst hin
    have hbi : bk' i = b := by show (if i = i then b else bk i) = b; rw [if_pos rfl]
    rw [hbi]
    refine ⟨?_, by omega, by omega, fun x c d e' => by have := hout x c d e'; omega, fun j hj hji => ?_⟩
    · rw [hk.old b (by omega) fun x c d e' => by have := (g1.block e').2; omega, hx.old b hb]; exact hl
    · show (if j = i then b else bk j) ≠ b
      rw [if_neg hji]; have := (g2 j (by omega)).2.2.1; omega
  · have hbi : bk' i = bk i := by show (if i = n then b else bk i) = bk i; rw [if_neg hin]
    rw [hbi]
    obtain ⟨a1, a2, a3, a4, a5⟩ := g2 i (by omega)
    refine ⟨?_, a2, by omega, fun x c d e' => by have := hout x c d e'; omega, fun j hj hji => ?_⟩
    · rw [hk.old (bk i) (by omega) fun x c d e' => a4 x c d e', hx.old (bk i) (by omega)]; exact hs _ _ _ _ trivial a1
    · show (if j = n then b else bk j) ≠ bk i
      by_cases e : j = n
      · rw [if_pos e]; omega
      · rw [if_neg e]; exact a5 j (by omega) hji
theorem cells_at' {g : AHeap} {v : Value} {s n : Nat} {c : Nat → Nat → Value} (hc : Cells h v s n c) (hg : ∀ a k cap, v = .slice (some a) k cap → g.get a.block = h.get a.block) : Cells g v s n c := by
  obtain ⟨a, cap, e, hsp, h0 | ⟨b, o, cs, w, gr, e1, e2, e3⟩⟩ := hc
  · exact ⟨a, cap, e, hsp, .inl h0⟩
  · subst e1
    exact ⟨_, cap, e, hsp, .inr ⟨b, o, cs, w, gr, rfl, by rw [hg _ _ _ e]; exact e2, e3⟩⟩
theorem blueN_mono {b c q : Nat → Int} : ∀ n, (∀ k, k < n → b k ≤ c k ∧ 0 ≤ q k) → blueN b q n ≤ blueN c q n
  | 0, _ => by simp [blueN]
  | n + 1, hh => by
    have h1 := blueN_mono n fun k hk => hh k (by omega)
    obtain ⟨h2, h3⟩ := hh n (by omega)
    have h4 := Int.mul_le_mul_of_nonneg_right h2 h3
    simp only [blueN]
    omega
theorem blueN_bump {b q : Nat → Int} {f : Nat} : ∀ n, blueN b (fun k => if k = f then q k + 1 else q k) n = blueN b q n + if f < n then b f else 0
  | 0 => by simp [blueN]
  | n + 1 => by
    simp only [blueN]
    rw [blueN_bump n]
    by_cases e : n = f
    · subst e
      rw [if_neg (Nat.lt_irrefl n), if_pos rfl, if_pos (Nat.lt_succ_self n), Int.mul_add, Int.mul_one]
      omega
    · rw [if_neg e]
      by_cases e2 : f < n
      · rw [if_pos e2, if_pos (by omega)]; omega
      · rw [if_neg e2, if_neg (by omega)]; omega
variable {n : Nat} {h : AHeap}
def tp (a b k : Nat) : Nat := if k = a then b else if k = b then a else k
section
variable {a b k m : Nat} {f g : Nat → Int} {x : Int}
theorem tp_tp : tp a b (tp a b k) = k := by
  unfold tp
  by_cases h1 : k = a
  · rw [if_pos h1]
    by_cases h2 : b = a
    · rw [if_pos h2]; omega
    · rw [if_neg h2, if_pos rfl]; omega
  · rw [if_neg h1]
    by_cases h2 : k = b
    · rw [if_pos h2, if_pos rfl]; omega
    · rw [if_neg h2, if_neg h1, if_neg h2]
theorem tp_comm : tp a b k = tp b a k := by
  unfold tp
  by_cases h1 : k = a
  · rw [if_pos h1]
    by_cases h2 : k = b
    · rw [if_pos h2]; omega
    · rw [if_neg h2, if_pos h1]
  · rw [if_neg h1, if_neg h1]
theorem tp_lt (ha : a < m) (hb : b < m) (hk : k < m) : tp a b k < m := by
  unfold tp
  by_cases h1 : k = a
  · rw [if_pos h1]; exact hb
  · rw [if_neg h1]
    by_cases h2 : k = b
    · rw [if_pos h2]; exact ha
    · rw [if_neg h2]; exact hk
theorem tp_ge (ha : a < m) (hb : b < m) (hk : m ≤ k) : tp a b k = k := by
  unfold tp
  rw [if_neg (by omega), if_neg (by omega)]
theorem tp_int : (if (k : Int) = (a : Int) then (b : Int) else if (k : Int) = (b : Int) then (a : Int) else (k : Int)) = ((tp a b k : Nat) : Int) := by
  unfold tp
  by_cases h1 : k = a
  · rw [if_pos h1, if_pos (by omega)]
  · rw [if_neg h1, if_neg (by omega)]
    by_cases h2 : k = b
    · rw [if_pos h2, if_pos (by omega)]
    · rw [if_neg h2, if_neg (by omega)]
theorem tp_set {α : Type} {F : Nat → α} : (fun k => if k = b then F a else if k = a then F b else F k) = fun k => F (tp a b k) := by
  funext k
  rw [tp_comm]
  unfold tp
  by_cases h1 : k = b
  · rw [if_pos h1, if_pos h1]
  · rw [if_neg h1, if_neg h1]
    by_cases h2 : k = a
    · rw [if_pos h2, if_pos h2]
    · rw [if_neg h2, if_neg h2]
def sumN (f : Nat → Int) : Nat → Int
  | 0 => 0
  | n + 1 => sumN f n + f n
def mulN (f : Nat → Int) : Nat → Int
  | 0 => 1
  | n + 1 => mulN f n * f n
theorem sumN_congr : ∀ n, (∀ k, k < n → f k = g k) → sumN f n = sumN g n
  | 0, _ => rfl
  | n + 1, hh => by simp only [sumN]; rw [sumN_congr n fun k hk => hh k (by omega), hh n (by omega)]
theorem mulN_congr : ∀ n, (∀ k, k < n → f k = g k) → mulN f n = mulN g n
  | 0, _ => rfl
  | n + 1, hh => by simp only [mulN]; rw [mulN_congr n fun k hk => hh k (by omega), hh n (by omega)]
theorem sumN_set : ∀ n, a < n → sumN (fun k => if k = a then x else f k) n + f a = sumN f n + x
  | 0, h => by omega
  | n + 1, h => by
    simp only [sumN]
    by_cases e : n = a
    · subst e
      rw [if_pos rfl, sumN_congr (g := f) n fun k hk => if_neg (by omega)]
      omega
    · rw [if_neg e]
      have := sumN_set n (by omega)
      omega
theorem mulN_set : ∀ n, a < n → mulN (fun k => if k = a then x else f k) n * f a = mulN f n * x
  | 0, h => by omega
  | n + 1, h => by
    simp only [mulN]
    by_cases e : n = a
    · subst e
      rw [if_pos rfl, mulN_congr (g := f) n fun k hk => if_neg (by omega), Int.mul_right_comm]
    · rw [if_neg e]
      have := mulN_set n (by omega)
      rw [Int.mul_right_comm, this, Int.mul_right_comm]
theorem tp_last (hb : b < m) (hk : k < m) : f (tp m b k) = if k = b then f m else f k := by
  unfold tp
  rw [if_neg (by omega)]
  by_cases e : k = b
  · rw [if_pos e, if_pos e]
  · rw [if_neg e, if_neg e]
theorem tp_at : tp m b m = b := by unfold tp; rw [if_pos rfl]
theorem tp_self : tp a a k = k := by
  unfold tp
  by_cases h : k = a
  · rw [if_pos h]; omega
  · rw [if_neg h, if_neg h]
theorem sumN_tp : ∀ n, a < n → b < n → sumN (fun k => f (tp a b k)) n = sumN f n
  | 0, h, _ => by omega
  | n + 1, ha, hb => by
    by_cases e : a = b
    · subst e; exact sumN_congr _ fun k _ => by rw [tp_self]
    by_cases ea : a = n
    · subst ea
      simp only [sumN]
      rw [tp_at, sumN_congr (g := fun k => if k = b then f a else f k) a fun k hk => tp_last (by omega) hk]
      exact sumN_set a (by omega)
    by_cases eb : b = n
    · subst eb
      have : (fun k => f (tp a b k)) = fun k => f (tp b a k) := by funext k; rw [tp_comm]
      rw [this]
      simp only [sumN]
      rw [tp_at, sumN_congr (g := fun k => if k = a then f b else f k) b fun k hk => tp_last (by omega) hk]
      exact sumN_set b (by omega)
    simp only [sumN]
    rw [sumN_tp n (by omega) (by omega), tp_ge (m := n) (by omega) (by omega) (Nat.le_refl _)]
theorem mulN_tp : ∀ n, a < n → b < n → mulN (fun k => f (tp a b k)) n = mulN f n
  | 0, h, _ => by omega
  | n + 1, ha, hb => by
    by_cases e : a = b
    · subst e; exact mulN_congr _ fun k _ => by rw [tp_self]
    by_cases ea : a = n
    · subst ea
      simp only [mulN]
      rw [tp_at, mulN_congr (g := fun k => if k = b then f a else f k) a fun k hk => tp_last (by omega) hk]
      exact mulN_set a (by omega)
    by_cases eb : b = n
    · subst eb
      have : (fun k => f (tp a b k)) = fun k => f (tp b a k) := by funext k; rw [tp_comm]
      rw [this]
      simp only [mulN]
      rw [tp_at, mulN_congr (g := fun k => if k = a then f b else f k) b fun k hk => tp_last (by omega) hk]
      exact mulN_set b (by omega)
    simp only [mulN]
    rw [mulN_tp n (by omega) (by omega), tp_ge (m := n) (by omega) (by omega) (Nat.le_refl _)]
end
theorem blueN_sum {b q : Nat → Int} : ∀ n, blueN b q n = sumN (fun k => b k * q k) n
  | 0 => rfl
  | n + 1 => by simp only [blueN, sumN]; rw [blueN_sum n]
theorem sizeN_mul {lo hi : Nat → Int} : ∀ n, sizeN lo hi n = mulN (fun k => hi k - lo k + 1) n
  | 0 => rfl
  | n + 1 => by simp only [sizeN, mulN]; rw [sizeN_mul n]
theorem blueN_tp {b q : Nat → Int} {i j m : Nat} (hi : i < m) (hj : j < m) : blueN (fun k => b (tp i j k)) (fun k => q (tp i j k)) m = blueN b q m := by
  rw [blueN_sum, blueN_sum]
  exact sumN_tp (f := fun k => b k * q k) m hi hj
theorem blueN_tp' {b q : Nat → Int} {i j m : Nat} (hi : i < m) (hj : j < m) : blueN b (fun k => q (tp i j k)) m = blueN (fun k => b (tp i j k)) q m := by
  rw [← blueN_tp (b := fun k => b (tp i j k)) (q := q) hi hj]
  congr 1
  funext k
  rw [tp_tp]
section
theorem loN_map {val val' : (Nat → Int) → Int} {L L' : List (Nat → Int)} (hL : L ≠ []) (hL' : L' ≠ []) (h1 : ∀ t, t ∈ L → ∃ t', t' ∈ L' ∧ val' t' = val t) (h2 : ∀ t', t' ∈ L' → ∃ t, t ∈ L ∧ val t = val' t') : loN val L = loN val' L' := by
  refine Int.le_antisymm ((le_loN hL').2 fun t' ht' => ?_) ((le_loN hL).2 fun t ht => ?_)
  · obtain ⟨t, ht, e⟩ := h2 t' ht'
    rw [← e]; exact (le_loN hL).1 (Int.le_refl _) t ht
  · obtain ⟨t', ht', e⟩ := h1 t ht
    rw [← e]; exact (le_loN hL').1 (Int.le_refl _) t' ht'
theorem hiN_map {val val' : (Nat → Int) → Int} {L L' : List (Nat → Int)} (hL : L ≠ []) (hL' : L' ≠ []) (h1 : ∀ t, t ∈ L → ∃ t', t' ∈ L' ∧ val' t' = val t) (h2 : ∀ t', t' ∈ L' → ∃ t, t ∈ L ∧ val t = val' t') : hiN val L = hiN val' L' := by
  refine Int.le_antisymm ((hiN_le hL).2 fun t ht => ?_) ((hiN_le hL').2 fun t' ht' => ?_)
  · obtain ⟨t', ht', e⟩ := h1 t ht
    rw [← e]; exact (hiN_le hL').1 (Int.le_refl _) t' ht'
  · obtain ⟨t, ht, e⟩ := h2 t' ht'
    rw [← e]; exact (hiN_le hL).1 (Int.le_refl _) t ht
end
theorem GrowC.at' {B s n : Nat} {g : AHeap} {v : Value} {c : Nat → Nat → Value} (hg : GrowC B h v s n c) (he : ∀ a k cap, v = .slice (some a) k cap → g.get a.block = h.get a.block) : GrowC B g v s n c := by
  obtain ⟨cs, ⟨rfl, rfl, rfl⟩ | ⟨b, rfl, h2, h3, h4⟩, h5, h6⟩ := hg
  · exact .nil
  · exact ⟨cs, .inr ⟨b, rfl, by rw [he _ _ _ rfl]; exact h2, h3, h4⟩, h5, h6⟩
theorem DRows.kept {B m n n' : Nat} {g : AHeap} {v w : Value} {q : Nat → Nat → Int} {c : Nat → Nat → Value} (hd : DRows B h v n m q) (hm : 0 < m) (hw : GrowC B h w 1 n' c) (hc : ∀ k, k < n' → ∃ a j cap, c k 0 = .slice a j cap) (hk : Kept h g w)
    (hne : ∀ a k cap a' k' cap', v = .slice (some a) k cap → w = .slice (some a') k' cap' → a.block ≠ a'.block) : DRows B g v n m q := by
  obtain ⟨bk, h1, h2⟩ := hd
  have hnx := hk.next
  refine ⟨bk, GrowC.at' h1 fun a k cap e => hk.old _ (h1.block e).2 fun a' k' cap' e' => hne _ _ _ _ _ _ e e', fun k hkn => ?_⟩
  obtain ⟨a1, a2, a3, a4, a5⟩ := h2 k hkn
  refine ⟨?_, a2, by omega, a4, a5⟩
  rw [hk.old _ a3 fun a' k' cap' e' heq => ?_]
  · exact a1
  · obtain ⟨cs, ⟨rfl, _, _⟩ | ⟨b, rfl, w2, w3, _⟩, _, w5⟩ := hw
    · cases e'
    · cases e'
      simp only at heq
      rw [heq, w2] at a1
      simp only [Option.some.injEq, AObj.row.injEq] at a1
      have hcs := a1.1
      have hlen : cs.length = m := by rw [hcs, rowI_len]
      have hn' : 0 < n' := by omega
      have h3 := w5 0 0 hn' (by omega)
      obtain ⟨aa, j, cap, e3⟩ := hc 0 hn'
      rw [hcs, show 0 * 1 + 0 = 0 from rfl, rowI_get hm, e3] at h3
      cases h3
variable {n : Nat} {h : AHeap}
section
theorem pick_all : ∀ k, (pickL (fun _ => True) k).length = k
  | 0 => rfl
  | k + 1 => by rw [pick_yes (p := fun _ => True) trivial, List.length_append, pick_all k]; rfl
theorem pick_succ {p : Nat → Prop} {k : Nat} : (pickL p k).length ≤ (pickL p (k + 1)).length ∧ (pickL p (k + 1)).length ≤ (pickL p k).length + 1 := by
  by_cases c : p k
  · rw [pick_yes c, List.length_append, List.length_singleton]; omega
  · rw [pick_no c]; omega
end
theorem self_samp {x y z : Int} : eqV (.agg ⟨[.int .i64 x, .int .i64 y, .int .i64 z]⟩) (.agg ⟨[.int .i64 x, .int .i64 y, .int .i64 z]⟩) = true := by simp [eqV, eqCells, eqCell, sameK, eqI_eq]
theorem one_cells {s b gr cap : Nat} {new : List Value} {wr : Bool} (hyc : h.get b = some (.row new wr gr)) (hnl : new.length = s) : cellsOfSlice h s (.slice (some ⟨b, 0, none⟩) 1 cap) = some new := by
  show (bif Nat.beq 1 0 then some [] else match h.get b with
    | some (.row cs _ _) => dropK cs 0 fun r => takeK r (1 * s) fun l => some l
    | _ => none) = some new
  have h10 : Nat.beq 1 0 = false := rfl
  rw [hyc, h10, cond_false]
  simp only [dropK_eq, takeK_eq, Nat.zero_le, if_true, List.drop_zero]
  rw [if_pos (by omega), Nat.one_mul, ← hnl, List.take_length]
variable {n : Nat} {h : AHeap}
theorem plus_append {sv : Value} {m : Nat} {sA lA rA : Nat → Int} (hS : Samps h sv m sA lA rA) (hm : m ≤ 100) (hr : h.next + 10 < far) (hfl : h.floor ≤ h.next) :
    ∃ e0 g1 a1 g2, buildSl 3 0 [.int .i64 0, .int .i64 0, .int .i64 0] [] h [] = some (e0, g1) ∧ appendA 3 24 g1 e0 sv = some (a1, g2) ∧ (∀ i, i < h.next → g1.get i = h.get i) ∧ (∀ i, i < h.next → g2.get i = h.get i) ∧
      ∀ v l r : Int, ∃ b1 g3 S' g4, buildSl 3 1 [.int .i64 0, .int .i64 0, .int .i64 0] [0] g2 [.agg ⟨[.int .i64 v, .int .i64 l, .int .i64 r]⟩] = some (b1, g3) ∧ appendA 3 24 g3 a1 b1 = some (S', g4) ∧ oneCell S' = true ∧
        Samps g4 S' (m + 1) (fun k => if k = m then v else sA k) (fun k => if k = m then l else lA k) (fun k => if k = m then r else rA k) ∧ (∀ i, i < h.next → g4.get i = h.get i) ∧ h.next ≤ g4.next ∧ g4.next ≤ h.next + 4 ∧ g4.floor = h.floor ∧
        (∀ a k c, S' = .slice (some a) k c → h.next ≤ a.block) := by
  obtain ⟨xs, ks, es, ls⟩ := Cells.list (by omega) hS
  obtain ⟨g1, q1, hx1⟩ := newSlice_ex (h := h) (cs := []) (n := 0) (cap := 0) (gr := 0) (by omega) rfl
  have n1 := hx1.next
  have f1 := hx1.floor
  have hap := append_none (h := g1) (s := 3) (bytes := 24) (b := h.next) ⟨xs, ks, es⟩ (cells_sub hx1.sub hS (by omega) ls) flatL_len (by simp [maxBytes]; omega) (by simp [maxBytes]; omega)
  by_cases hm0 : m = 0
  · rw [if_pos hm0] at hap
    refine ⟨_, g1, _, g1, by rw [build_none3]; exact q1, hap, hx1.old, hx1.old, fun v l r => ?_⟩
    obtain ⟨g3, q3, hx3⟩ := newSlice_ex (h := g1) (cs := [.int .i64 v, .int .i64 l, .int .i64 r]) (n := 1) (cap := 1) (gr := 0) (by omega) rfl
    have n3 := hx3.next
    have f3 := hx3.floor
    have hap2 := append_none (h := g3) (s := 3) (bytes := 24) (b := h.next) (m := 1) ⟨_, _, rfl⟩ (one_cells (cap := 1) hx3.get rfl) rfl (by simp [maxBytes]) (by simp [maxBytes])
    rw [if_neg (by omega)] at hap2
    obtain ⟨g4, q4, hx4⟩ := newSlice_ex (h := g3) (cs := [.int .i64 v, .int .i64 l, .int .i64 r]) (n := 1) (cap := unk) (gr := 3) (by omega) rfl
    have n4 := hx4.next
    have f4 := hx4.floor
    refine ⟨_, g3, _, g4, by rw [sl_samp]; exact q3, by rw [hap2]; exact q4, rfl, ?_, fun i hi => by rw [hx4.old i (by omega), hx3.old i (by omega), hx1.old i hi], by omega, by omega, by omega, fun a k c e => by cases e; show h.next ≤ g3.next; omega⟩
    rw [hm0]
    refine cells_row (b := g3.next) ⟨true, 3, hx4.get⟩ fun k j hk hj => ?_
    obtain rfl : k = 0 := by omega
    obtain rfl | rfl | rfl : j = 0 ∨ j = 1 ∨ j = 2 := by omega
    all_goals rfl
  · rw [if_neg hm0] at hap
    obtain ⟨g2, q2, hx2⟩ := newSlice_ex (h := g1) (cs := flatL 3 m fun k j => .int .i64 (if j = 0 then sA k else if j = 1 then lA k else rA k)) (n := m) (cap := unk) (gr := 3) (by omega) flatL_one
    have n2 := hx2.next
    have f2 := hx2.floor
    refine ⟨_, g1, _, g2, by rw [build_none3]; exact q1, by rw [hap]; exact q2, hx1.old, fun i hi => by rw [hx2.old i (by omega), hx1.old i hi], fun v l r => ?_⟩
    obtain ⟨g3, q3, hx3⟩ := newSlice_ex (h := g2) (cs := [.int .i64 v, .int .i64 l, .int .i64 r]) (n := 1) (cap := 1) (gr := 0) (by omega) rfl
    have n3 := hx3.next
    have f3 := hx3.floor
    have gS : GrowC h.next g3 (.slice (some ⟨g1.next, 0, none⟩) m unk) 3 m (fun k j => .int .i64 (if j = 0 then (if k = m then v else sA k) else if j = 1 then (if k = m then l else lA k) else if k = m then r else rA k)) :=
      ⟨_, .inr ⟨_, rfl, by rw [hx3.old _ (by omega)]; exact hx2.get, flatL_len, by omega⟩, flatL_one, fun k j hk hj => by
        rw [flatL_get (c := fun k j => .int .i64 (if j = 0 then sA k else if j = 1 then lA k else rA k)) hk hj]
        have : ¬ k = m := by omega
        simp only [this, if_false]⟩
    obtain ⟨S', g4, e, e', gS', hk4⟩ := gS.append (bytes := 24) (cap := 1) (by omega) (by omega) (by omega) hx3.get rfl rfl (fun j hj => by
      simp only [if_true]
      obtain rfl | rfl | rfl : j = 0 ∨ j = 1 ∨ j = 2 := by omega
      all_goals rfl) (by simp [maxBytes]; omega) (by simp [maxBytes]; omega)
    have n4 := hk4.next
    have f4 := hk4.floor
    refine ⟨_, g3, S', g4, by rw [sl_samp]; exact q3, e, gS'.one, gS'.cells, fun i hi => ?_, by omega, by omega, by omega, fun a k c e2 => by rw [e'] at e2; cases e2; show h.next ≤ g3.next; omega⟩
    rw [hk4.old i (by omega) fun b k c e => by cases e; show i ≠ g1.next; omega, hx3.old i (by omega), hx2.old i (by omega), hx1.old i hi]
theorem splice33 {a b c d e f : Value} : splice [a, b, c] 0 [d, e, f] = [d, e, f] := rfl
theorem ey0 {x y z : Value} : extractA 0 (.tuple ⟨[x, y, z]⟩) h = some (x, h) := id rfl
theorem ey1 {x y z : Value} : extractA 1 (.tuple ⟨[x, y, z]⟩) h = some (y, h) := id rfl
theorem ey2 {x y z : Value} : extractA 2 (.tuple ⟨[x, y, z]⟩) h = some (z, h) := id rfl
theorem mostL_snoc {α : Type} {b : α → Int} {L : List α} {k : Nat} (d : α) (hk : k < L.length) : mostL ((L.take (k + 1)).map fun t => cntB b L (b t)) = max (mostL ((L.take k).map fun t => cntB b L (b t))) (cntB b L (b (L.getD k d))) := by
  apply eq_of_le_iff
  intro m
  rw [mostL_le, Nat.max_le, mostL_le, take_snoc d hk, List.map_append]
  simp only [List.mem_append, List.map_cons, List.map_nil, List.mem_singleton]
  exact ⟨fun h => ⟨fun x hx => h x (.inl hx), h _ (.inr rfl)⟩, fun ⟨h1, h2⟩ x hx => hx.elim (h1 x) (fun e => e ▸ h2)⟩
variable {n : Nat} {h : AHeap}
def Own (B : Nat) (h : AHeap) (v : Value) (s m : Nat) : Prop := (∃ a c, v = .slice a 0 c ∧ m = 0) ∨ ∃ b cap cs gr, v = .slice (some ⟨b, 0, none⟩) m cap ∧ B ≤ b ∧ h.get b = some (.row cs true gr) ∧ m * s ≤ cs.length
theorem Own.le {B C s m : Nat} {v : Value} (ho : Own B h v s m) (hc : C ≤ B) : Own C h v s m := by
  rcases ho with e | ⟨b, cap, cs, gr, e, h1, h2⟩
  · exact .inl e
  · exact .inr ⟨b, cap, cs, gr, e, Nat.le_trans hc h1, h2⟩
theorem Own.old {B s m : Nat} {g : AHeap} {v : Value} (ho : Own B h v s m) (he : ∀ x k c, v = .slice (some x) k c → g.get x.block = h.get x.block) : Own B g v s m := by
  rcases ho with e | ⟨b, cap, cs, gr, rfl, h1, h2, h3⟩
  · exact .inl e
  · exact .inr ⟨b, cap, cs, gr, rfl, h1, by rw [he _ _ _ rfl]; exact h2, h3⟩
theorem Own.mono {B s m : Nat} {g : AHeap} {v : Value} (ho : Own B h v s m) (hs : Sub All h g) : Own B g v s m := by
  rcases ho with e | ⟨b, cap, cs, gr, rfl, h1, h2, h3⟩
  · exact .inl e
  · exact .inr ⟨b, cap, cs, gr, rfl, h1, hs _ _ _ _ trivial h2, h3⟩
def IntsO (B : Nat) (h : AHeap) (v : Value) (m : Nat) (a : Nat → Int) : Prop := Ints h v m a ∧ Own B h v 1 m
theorem intsO_old {B m : Nat} {g : AHeap} {v : Value} {a : Nat → Int} (hi : IntsO B h v m a) (he : ∀ x k c, v = .slice (some x) k c → g.get x.block = h.get x.block) : IntsO B g v m a := ⟨ints_old hi.1 he, hi.2.old he⟩
theorem IntsO.le {B C m : Nat} {v : Value} {a : Nat → Int} (hi : IntsO B h v m a) (hc : C ≤ B) : IntsO C h v m a := ⟨hi.1, hi.2.le hc⟩
variable {P : Program} {N : Nat} {f : Fr} {h : AHeap} {ty t u e : TypeId} {x y : Operand}
theorem pr_partAgg {fs : Array Field} {i : TypeInfo} {xs : Array Value} {off : Nat} (he : P.underlying e = some (.struct fs)) (hi : P.info? e = some i) : pureRun P (part e xs off) = some (.agg (xs.extract off (off + i.size))) := by
  simp [part, isAgg, pureRun_bind, pr_under he, pr_size hi, pr_pure, pr_map]
theorem pr_eqSamp {d : Nat} {i : TypeInfo} {f0 f1 g0 g1 : Field} {a0 a1 a2 b0 b1 b2 : Int} (ht : P.underlying t = some (.struct #[f0, f1])) (hp : P.stoodInHeld t = false) (n0 : f0.name ≠ "_") (n1 : f1.name ≠ "_") (o0 : f0.offset = 0) (o1 : f1.offset = 1)
    (e0 : P.underlying f0.type = some (.int .i64)) (hi : P.info? f1.type = some i) (hs : i.size = 2)
    (ht' : P.underlying f1.type = some (.struct #[g0, g1])) (hp' : P.stoodInHeld f1.type = false) (n0' : g0.name ≠ "_") (n1' : g1.name ≠ "_") (o0' : g0.offset = 0) (o1' : g1.offset = 1)
    (e0' : P.underlying g0.type = some (.int .i64)) (e1' : P.underlying g1.type = some (.int .i64)) :
    pureRun P (Op.equalIn (d + 3) t (.agg ⟨[.int .i64 a0, .int .i64 a1, .int .i64 a2]⟩) (.agg ⟨[.int .i64 b0, .int .i64 b1, .int .i64 b2]⟩)) = some (decide (a0 = b0 ∧ a1 = b1 ∧ a2 = b2)) := by
  have x0 : ∀ (p q r : Int), pureRun P (part f0.type ⟨[.int .i64 p, .int .i64 q, .int .i64 r]⟩ f0.offset) = some (.int .i64 p) := fun p q r => pr_part e0 (by rw [o0]; rfl)
  have x1 : ∀ (p q r : Int), pureRun P (part f1.type ⟨[.int .i64 p, .int .i64 q, .int .i64 r]⟩ f1.offset) = some (.agg ⟨[.int .i64 q, .int .i64 r]⟩) := fun p q r => by
    rw [pr_partAgg ht' hi, o1, hs]; rfl
  rw [Op.equalIn]
  simp only [pureRun_bind, pr_under ht, Option.bind_some, pr_program, hp, Bool.false_eq_true, if_false]
  rw [← Array.forIn_toList]
  simp only [List.forIn_cons, List.forIn_nil, pureRun_bind, n0, n1, ne_eq, not_false_eq_true, if_true, x0, pr_eqInt e0, Option.bind_some]
  by_cases c0 : a0 = b0
  · simp only [c0, decide_true, Bool.not_true, Bool.false_eq_true, if_false, pr_pure, pureRun_bind, Option.bind_some, x1, pr_eqTwo ht' hp' n0' n1' o0' o1' e0' e1', true_and]
    by_cases c1 : a1 = b1 ∧ a2 = b2 <;> simp [c1, pr_pure, pureRun_bind]
  · simp [c0, pr_pure, pureRun_bind]
variable {n : Nat} {h : AHeap}
theorem Own.form {B s m : Nat} {v : Value} (ho : Own B h v s m) : ∃ a c, v = .slice a m c := by
  rcases ho with ⟨a, c, rfl, rfl⟩ | ⟨b, cap, cs, gr, rfl, _⟩
  · exact ⟨_, _, rfl⟩
  · exact ⟨_, _, rfl⟩
theorem Own.set {B s m b gr gr' : Nat} {g : AHeap} {v : Value} {cs cs' : List Value} (ho : Own B h v s m) (hg : h.get b = some (.row cs true gr)) (hl : cs'.length = cs.length) (hs : Set1 h g b cs' gr') : Own B g v s m := by
  rcases ho with e | ⟨b1, cap, cs1, gr1, rfl, h1, h2, h3⟩
  · exact .inl e
  · by_cases e : b1 = b
    · subst e
      rw [h2] at hg
      cases hg
      exact .inr ⟨_, cap, _, _, rfl, h1, hs.get, by omega⟩
    · exact .inr ⟨b1, cap, cs1, gr1, rfl, h1, by rw [hs.old _ e]; exact h2, h3⟩
theorem build_seven {x y : Int} : buildA (fun x => (#[(0, 1), (1, 1)] : Array (Nat × Nat))[x]?) ⟨[.int .i64 0, .int .i64 0]⟩ [0, 1] h [.int .i64 x, .int .i64 y] = some (.agg ⟨[.int .i64 x, .int .i64 y]⟩, h) := id rfl
variable {n : Nat} {h : AHeap}
theorem nil_cells {s : Nat} {c : Nat → Nat → Value} : Cells h nilS s 0 c := ⟨none, 0, rfl, fun x e => (by cases e), .inl rfl⟩
theorem nil_own {B s : Nat} : Own B h nilS s 0 := .inl ⟨none, 0, rfl, rfl⟩
theorem exm0 {x y z : Value} : extractA 0 (.tuple ⟨[x, y, z]⟩) h = some (x, h) := id rfl
theorem exm1 {x y z : Value} : extractA 1 (.tuple ⟨[x, y, z]⟩) h = some (y, h) := id rfl
theorem exm2 {x y z : Value} : extractA 2 (.tuple ⟨[x, y, z]⟩) h = some (z, h) := id rfl
variable {n : Nat} {h : AHeap}
theorem rd_1 {S : Nat → Prop} {f : Fr} {x : Operand} : readsIn S f (.load1 x) = ∀ ad, val f x = .pointer (some ad) → S ad.block := id rfl
theorem rd_N {S : Nat → Prop} {f : Fr} {x : Operand} {k : Nat} : readsIn S f (.loadN k x) = ∀ ad, val f x = .pointer (some ad) → S ad.block := id rfl
theorem rd_ne {b o X : Nat} {s : Option Nat} : (∀ ad : Addr, Value.pointer (some ⟨b, o, s⟩) = .pointer (some ad) → ¬ ad.block = X) = ¬ b = X := by
  simp only [eq_iff_iff]
  exact ⟨fun hh => hh _ rfl, fun hb ad e => by cases e; exact hb⟩
theorem flatR_splice {m k : Nat} {lo hi : Nat → Int} {L H : Int} (hk : k < m) : splice (flatL 2 m fun k j => .int .i64 (if j = 0 then lo k else hi k)) (k * 2) [.int .i64 L, .int .i64 H] = flatL 2 m fun k' j => .int .i64 (if j = 0 then (fun i => if i = k then L else lo i) k' else (fun i => if i = k then H else hi i) k') := by
  unfold flatL
  refine map_splice (by simp; omega) (fun i hi hc => ?_) (fun j hj => ?_)
  · simp only [List.length_cons, List.length_nil] at hc
    have e : ¬ i / 2 = k := by omega
    simp only [e, if_false]
  · simp only [List.length_cons, List.length_nil] at hj
    obtain rfl | rfl : j = 0 ∨ j = 1 := by omega
    · have e1 : (k * 2 + 0) / 2 = k := by omega
      have e2 : (k * 2 + 0) % 2 = 0 := by omega
      simp [e1, e2]
    · have e1 : (k * 2 + 1) / 2 = k := by omega
      have e2 : (k * 2 + 1) % 2 = 1 := by omega
      simp [e1, e2]
variable {n : Nat} {h : AHeap}
def consF (x : Int) (c : Nat → Int) : Nat → Int := fun j => if j = 0 then x else c (j - 1)
def enumR : Nat → Nat → List (Nat → Int)
  | 0, r => [fun j => if j = 0 then (r : Int) else 0]
  | d + 1, r => (List.range (r + 1)).flatMap fun (k : Nat) => (enumR d (r - k)).map (consF (k : Int))
theorem enumR_S : ∀ (d i r : Nat) (c : Nat → Int), (∀ j, i + d < j → c j = 0) → enumS d i r c = (enumR d r).map fun x j => if j < i then c j else x (j - i)
  | 0, i, r, c, hc => by
    simp only [enumS, enumR, List.map_cons, List.map_nil]
    congr 1
    funext j
    by_cases e : j = i
    · subst e; simp
    · rcases Nat.lt_or_ge j i with h1 | h1
      · simp [e, h1]
      · rw [if_neg e, if_neg (by omega), if_neg (by omega), hc j (by omega)]
  | d + 1, i, r, c, hc => by
    simp only [enumS, enumR, List.map_flatMap]
    congr 1
    funext k
    rw [enumR_S d (i + 1) (r - k) _ fun j hj => by
      have e : ¬ j = i := by omega
      simp only [e, if_false]; exact hc j (by omega), List.map_map]
    congr 1
    funext x j
    simp only [Function.comp, consF]
    by_cases e : j = i
    · subst e; simp
    · rcases Nat.lt_or_ge j i with h1 | h1
      · rw [if_pos (by omega), if_neg e, if_pos h1]
      · rw [if_neg (by omega), if_neg (by omega), if_neg (by omega)]
        congr 1
theorem enumR_zero (d r : Nat) : enumS d 0 r (fun _ => 0) = enumR d r := by
  rw [enumR_S d 0 r _ fun _ _ => rfl]
  have : (fun (x : Nat → Int) j => if j < 0 then (fun _ => (0 : Int)) j else x (j - 0)) = id := by funext x j; simp
  rw [this, List.map_id]
def bndR : Nat → Nat
  | 0 => 10
  | d + 1 => 10 + 10 * (bndR d + 4 * 10 ^ d)
theorem enumR_len (d r : Nat) (hr : r ≤ 9) : (enumR d r).length ≤ 10 ^ d := by
  rw [← enumR_zero]
  exact Nat.le_trans (enumS_len d 0 r _) (Nat.pow_le_pow_left (by omega) d)
theorem append_one {b m : Nat} {x : Value} {y : Value} {new : List Value} (hb : h.get b = some (.row [x] true 0)) (hm : 0 < m) (hm1 : m ≤ 1000) (hy : ∃ a k, y = .slice a m k) (hyc : cellsOfSlice h 1 y = some new) (hnl : new.length = m) :
    appendA 1 8 h (.slice (some ⟨b, 0, none⟩) 1 1) y = newSlice h (x :: new) (1 + m) unk 1 := by
  obtain ⟨a, k, rfl⟩ := hy
  have e1 : Nat.ble ((1 + m) * 8) maxBytes = true := ble_iff.2 (by simp [maxBytes]; omega)
  have e2 : Nat.ble (1 + m) maxBytes = true := ble_iff.2 (by simp [maxBytes]; omega)
  have e3 : Nat.beq (len new) (m * 1) = true := by rw [len_eq]; exact beq_iff.2 (by omega)
  have e4 : Nat.ble (1 + m) 1 = false := by
    cases hb : Nat.ble (1 + m) 1 with
    | false => rfl
    | true => have := ble_iff.1 hb; omega
  have e5 : cellsOfSlice h 1 (.slice (some ⟨b, 0, none⟩) 1 1) = some [x] := by
    show (bif Nat.beq 1 0 then some [] else match h.get b with
      | some (.row cs _ _) => dropK cs 0 fun r => takeK r (1 * 1) fun l => some l
      | _ => none) = _
    have h10 : Nat.beq 1 0 = false := rfl
    rw [hb, h10, cond_false]
    simp only [dropK_eq, takeK_eq]
    rfl
  have e6 : Nat.blt 1 unk = true := rfl
  unfold appendA
  simp only [hyc, e1, e2, e3, Bool.and_self, cond_true, e4, Bool.false_and, cond_false]
  unfold appendGrow
  simp only [e5, e6, cond_true, app_eq, List.cons_append, List.nil_append]
theorem cells_at {g : AHeap} {v : Value} {s n : Nat} {c : Nat → Nat → Value} (hc : Cells h v s n c) (hg : ∀ a k cap, v = .slice (some a) k cap → g.get a.block = h.get a.block) : Cells g v s n c := by
  obtain ⟨a, cap, e, hsp, h0 | ⟨b, o, cs, w, gr, e1, e2, e3⟩⟩ := hc
  · exact ⟨a, cap, e, hsp, .inl h0⟩
  · subst e1
    exact ⟨_, cap, e, hsp, .inr ⟨b, o, cs, w, gr, rfl, by rw [hg _ _ _ e]; exact e2, e3⟩⟩
def FreshRows (B : Nat) (h : AHeap) (v : Value) (n : Nat) (cnt : Nat) (L : List (Nat → Int)) : Prop :=
  n = L.length ∧ ∃ r : Nat → Value, Cells h v 1 n (fun k _ => r k) ∧ (∀ a k c, v = .slice (some a) k c → B ≤ a.block ∧ a.block < h.next) ∧ oneCell v = true ∧
    ∀ i, i < n → Ints h (r i) cnt (L.getD i fun _ => 0) ∧ oneCell (r i) = true ∧ ∀ a m c, r i = .slice (some a) m c → B ≤ a.block ∧ a.block < h.next
theorem GrowRows.fresh {B : Nat} {v : Value} {cnt : Nat} {L : List (Nat → Int)} (hg : GrowRows B h v L.length (fun _ => cnt) fun k => L.getD k fun _ => 0) : FreshRows B h v L.length cnt L := by
  obtain ⟨r, h1, h2⟩ := hg
  refine ⟨rfl, r, h1.cells, fun a k c e => h1.block e, h1.one, fun i hi => ⟨(h2 i hi).1, ?_, fun a m c e => ⟨((h2 i hi).2 a m c e).1, ((h2 i hi).2 a m c e).2.1⟩⟩⟩
  exact Cells.one (h2 i hi).1
theorem GrowRows.push2 {B : Nat} {h1 : AHeap} {v l : Value} {n : Nat} {cnt : Nat → Nat} {q : Nat → Nat → Int} (hg : GrowRows B h v n cnt q) (hB : h.floor ≤ B) (hf : h.next + 2 < far) (hBn : B ≤ h.next) (hl : Ints h l (cnt n) (q n)) (hone : oneCell l = true)
    (hb : ∀ a k c, l = .slice (some a) k c → B ≤ a.block ∧ a.block < h.next ∧ ∀ b m' c', v = .slice (some b) m' c' → a.block ≠ b.block) (hx : New h h1 [l] 0) (hn : (n + 1) * 24 ≤ maxBytes) (hn1 : n + 1 ≤ maxBytes) :
    ∃ v' g, appendA 1 24 h1 v (.slice (some ⟨h.next, 0, none⟩) 1 1) = some (v', g) ∧ GrowRows B g v' (n + 1) cnt q ∧ Kept h1 g v ∧ oneCell v' = true ∧ (∀ a k c, v = .slice (some a) k c → B ≤ a.block) ∧ v' = .slice (some ⟨h1.next, 0, none⟩) (n + 1) unk := by
  obtain ⟨r, g1, g2⟩ := hg
  have hnx := hx.next
  have hfl := hx.floor
  let r' : Nat → Value := fun i => if i = n then l else r i
  have g1' : GrowC B h1 v 1 n (fun k _ => r' k) := (g1.sub hx.sub).congr fun k j hk hj => by show r k = if k = n then l else r k; rw [if_neg (by omega)]
  obtain ⟨v', g, e, ev, gv, hk⟩ := g1'.append (bytes := 24) (cap := 1) (by omega) (by omega) (by omega) hx.get rfl (by simp [allB, hone]) (fun j hj => by rw [one_get j hj]; show some l = some (if n = n then l else r n); rw [if_pos rfl]) hn hn1
  refine ⟨v', g, e, ⟨r', gv, fun i hi => ?_⟩, hk, gv.one, fun a k c e => (g1.block e).1, ev⟩
  have hkn := hk.next
  have hmain : ∀ (x : Value) (m : Nat) (a : Nat → Int), Ints h x m a → (∀ a k c, x = .slice (some a) k c → B ≤ a.block ∧ a.block < h.next ∧ ∀ b m' c', v = .slice (some b) m' c' → a.block ≠ b.block) →
      Ints g x m a ∧ ∀ a k c, x = .slice (some a) k c → B ≤ a.block ∧ a.block < g.next ∧ ∀ b m' c', v' = .slice (some b) m' c' → a.block ≠ b.block := by
    intro x m a hx1 hx2
    refine ⟨Cells.kept (Cells.mono hx1 hx.sub) hk fun a k c e b k' c' e' => (hx2 a k c e).2.2 b k' c' e', fun a k c e => ?_⟩
    obtain ⟨k1, k2, _⟩ := hx2 a k c e
    refine ⟨k1, by omega, fun b m' c' e' => ?_⟩
    rw [ev] at e'
    cases e'
    show a.block ≠ h1.next
    omega
  by_cases hin : i = n
  · subst hin
    have : r' i = l := by show (if i = i then l else r i) = l; rw [if_pos rfl]
    rw [this]
    exact hmain l _ _ hl hb
  · have : r' i = r i := by show (if i = n then l else r i) = r i; rw [if_neg hin]
    rw [this]
    obtain ⟨k1, k2⟩ := g2 i (by omega)
    exact hmain _ _ _ k1 k2
variable {n : Nat} {h : AHeap}
variable {n : Nat} {h : AHeap}
theorem neq_self' (b : Bool) : (!(b == b)) = false := by cases b <;> rfl
variable {n : Nat} {h : AHeap}
def wordN (m : Nat) (a : Nat → Nat) (i : Nat) : Nat := if m = 0 then 0 else a (i % m)
theorem wordN_lt {ws : Value} {m : Nat} {a : Nat → Nat} (hw : Words h ws m a) (i : Nat) : wordN m a i < 65536 := by
  unfold wordN
  by_cases e : m = 0
  · rw [if_pos e]; omega
  · rw [if_neg e]; exact hw.2 _ (Nat.mod_lt _ (by omega))
theorem res_31 {a b : Nat} {f : Fr} {x : Value} (h1 : loadAgg 3 h (f a) = some x) : resV f h [.cellN a 3, .tmp b] = some (.tuple ⟨[x, f b]⟩) := by
  simp [resV, resL, res1, h1]
variable {n : Nat} {h : AHeap}
theorem quoM {a d : Nat} (h : a < 65536) : IntKind.wrap .i64 ((a : Int).tdiv (d : Int)) = ((a / d : Nat) : Int) := by
  have e : (a : Int).tdiv (d : Int) = ((a / d : Nat) : Int) := rfl
  have : a / d ≤ a := Nat.div_le_self _ _
  rw [e]
  generalize a / d = q at this
  exact IntWalk.i64_in _ (by omega)
variable {n : Nat} {h : AHeap}
theorem sl_eq {a b : List Int} (h1 : ¬ SL a b) (h2 : ¬ SL b a) : a = b := by
  have hl : a.length = b.length := by
    apply Classical.byContradiction
    intro e
    by_cases c : a.length < b.length
    · exact h1 (.inl c)
    · exact h2 (.inl (by omega))
  have hx : ∀ m, m ≤ a.length → ∀ i, i < m → atL a i = atL b i := by
    intro m
    induction m with
    | zero => intro _ i hi; omega
    | succ m ih =>
      intro hm i hi
      have hp := ih (by omega)
      by_cases e : i = m
      · subst e
        apply Classical.byContradiction
        intro hne
        by_cases c : atL a i < atL b i
        · exact h1 (.inr ⟨hl, i, by omega, hp, c⟩)
        · exact h2 (.inr ⟨hl.symm, i, by omega, fun x hx => (hp x hx).symm, by omega⟩)
      · exact hp i (by omega)
  apply List.ext_getElem hl
  intro i i1 i2
  have := hx a.length (Nat.le_refl _) i i1
  unfold atL at this
  rw [List.getD_eq_getElem?_getD, List.getD_eq_getElem?_getD, List.getElem?_eq_getElem i1, List.getElem?_eq_getElem i2] at this
  exact this
variable {n : Nat} {h : AHeap}
variable {n : Nat} {h : AHeap}
end Go.Vm.Vat
