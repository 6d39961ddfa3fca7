/- Texts of the proofs of this seat, put together: VmMap, VmMapK, VmLib, StBase, StRef, StRef2, StRef3, StFault. -/
import Derived.Test.YtffgdpkogokdhaaPk3
import Derived.Test.YtffgdpkogokdhaaProg

namespace Go.Vm
variable {P : Program} {N : Nat} {f : Fr} {h : AHeap} {ty t u e : TypeId} {x y : Operand}
/-! ### Maps from two integers to an integer -/
def keyV (p : Int × Int) : Value := .agg ⟨[.int .i64 p.1, .int .i64 p.2]⟩
def entE (x : (Int × Int) × Int × Nat) : MapEntry := ⟨keyV x.1, .int .i64 x.2.1, x.2.2⟩
/-- a struct of two integers -/
structure Two (P : Program) (t : TypeId) : Prop where
  ex : ∃ f0 f1 : Field, P.underlying t = some (.struct #[f0, f1]) ∧ f0.name ≠ "_" ∧ f1.name ≠ "_" ∧ f0.offset = 0 ∧ f1.offset = 1 ∧ P.underlying f0.type = some (.int .i64) ∧ P.underlying f1.type = some (.int .i64)
  held : P.stoodInHeld t = false
/-- a map lies there, with these entries -/
structure MapR (h : AHeap) (r : Nat) (l : List ((Int × Int) × Int × Nat)) (c : Nat) : Prop where
  get : h.get r = some (.map ⟨l.map entE⟩ c)
end Go.Vm

namespace Go.Vm
set_option linter.unusedSimpArgs false
set_option linter.unusedVariables false
variable {P : Program} {N : Nat} {f : Fr} {h : AHeap} {ty t u e : TypeId} {x y : Operand}
/-! ### Maps whose keys are structs of integers, to an integer: as functions -/
section
variable {α : Type} [DecidableEq α]
def entK (kv : α → Value) (x : α × Int × Nat) : MapEntry := ⟨kv x.1, .int .i64 x.2.1, x.2.2⟩
def findK (p : α) : List (α × Int × Nat) → Nat → Option (Nat × Value)
  | [], _ => none
  | x :: l, i => if p = x.1 then some (i, .int .i64 x.2.1) else findK p l (i + 1)
def valK (p : α) : List (α × Int × Nat) → Int
  | [] => 0
  | x :: l => if p = x.1 then x.2.1 else valK p l
/-- keys of a type -/
structure KeyOk (P : Program) (t : TypeId) (kv : α → Value) : Prop where
  find : ∀ (p : α) (b : Bool) (l : List (α × Int × Nat)), findA P b t (kv p) ⟨l.map (entK kv)⟩ = some (findK p l 0)
  plain : ∀ p, plainV (kv p) = true
  same : ∀ p, Instr.sameBits 10000 (kv p) (kv p) = true
/-- the entries of a map, which says m -/
structure Ents (l : List (α × Int × Nat)) (c : Nat) (m : α → Int) : Prop where
  val : ∀ p, valK p l = m p
  keys : (l.map (·.1)).Nodup
  borns : (l.map (·.2.2)).Nodup
  below : ∀ x, x ∈ l → x.2.2 < c
def MapF (h : AHeap) (r : Nat) (kv : α → Value) (m : α → Int) : Prop := ∃ (l : List (α × Int × Nat)) (c : Nat), h.get r = some (.map ⟨l.map (entK kv)⟩ c) ∧ Ents l c m
/-- .. and the entry of a key has this number -/
def MapS (h : AHeap) (r : Nat) (kv : α → Value) (m : α → Int) (p : α) (b : Nat) : Prop := ∃ (l : List (α × Int × Nat)) (c i : Nat), h.get r = some (.map ⟨l.map (entK kv)⟩ c) ∧ Ents l c m ∧ l[i]? = some (p, m p, b)
variable {kv : α → Value} {m : α → Int} {r b : Nat} {p : α}
theorem MapS.map (hm : MapS h r kv m p b) : MapF h r kv m := by
  obtain ⟨l, c, i, h1, h2, _⟩ := hm
  exact ⟨l, c, h1, h2⟩
/-- what a map's turning leaves -/
structure Turned (h g : AHeap) (r : Nat) : Prop where
  old : ∀ i, i ≠ r → g.get i = h.get i
  next : g.next = h.next
  floor : g.floor = h.floor
theorem Turned.sub {h1 : AHeap} (ht : Turned h h1 r) (hm : MapF h r kv m) : Sub All h h1 := by
  intro i cs rw' gr _ hi
  by_cases e : i = r
  · subst e
    obtain ⟨l, c, h2, _⟩ := hm
    rw [h2] at hi; cases hi
  · rw [ht.old i e]; exact hi
theorem MapF.keep {h g : AHeap} (hm : MapF h r kv m) (hg : g.get r = h.get r) : MapF g r kv m := by
  obtain ⟨l, c, h2, h3⟩ := hm
  exact ⟨l, c, by rw [hg]; exact h2, h3⟩
theorem MapF.shut (hm : MapF h r kv m) : MapF h.shutAll r kv m := hm.keep rfl
theorem MapF.lt (hm : MapF h r kv m) : r < h.next := by
  obtain ⟨l, c, h2, h3⟩ := hm
  exact AHeap.lt_of_get h2
end
end Go.Vm

namespace Go.Vm
/-! the rules of a run, in bundles -/
theorem rn0 : type_of% @W_skip ∧ type_of% @W_ret ∧ type_of% @W_exit ∧ type_of% @W_seq ∧ type_of% @W_block ∧ type_of% @then_norm' ∧ type_of% @then_exit' ∧ type_of% @then_ret' ∧ type_of% @block_norm' ∧ type_of% @block_ret' ∧ type_of% @block_exit' ∧ type_of% @W_cond := And.intro @W_skip (And.intro @W_ret (And.intro @W_exit (And.intro @W_seq (And.intro @W_block (And.intro @then_norm' (And.intro @then_exit' (And.intro @then_ret' (And.intro @block_norm' (And.intro @block_ret' (And.intro @block_exit' (@W_cond)))))))))))
theorem rn1 : type_of% @cond_true' ∧ type_of% @cond_false' ∧ type_of% @W_ops ∧ type_of% @ops_nil ∧ type_of% @ops_cons ∧ type_of% @ops_guard ∧ type_of% @step_some ∧ type_of% @g_tt ∧ type_of% @g_tf ∧ type_of% @g_ft ∧ type_of% @g_ff ∧ type_of% @put_some := And.intro @cond_true' (And.intro @cond_false' (And.intro @W_ops (And.intro @ops_nil (And.intro @ops_cons (And.intro @ops_guard (And.intro @step_some (And.intro @g_tt (And.intro @g_tf (And.intro @g_ft (And.intro @g_ff (@put_some)))))))))))
theorem rn2 : type_of% @put_none ∧ type_of% @upd_ite ∧ type_of% @val_tmp ∧ type_of% @fr0_zero ∧ type_of% @fr0_succ ∧ type_of% @ret_ret ∧ type_of% @ret_norm ∧ type_of% @res_tmp ∧ type_of% @ex_some ∧ type_of% @val_const ∧ type_of% @val_func ∧ type_of% @vals_nil := And.intro @put_none (And.intro @upd_ite (And.intro @val_tmp (And.intro @fr0_zero (And.intro @fr0_succ (And.intro @ret_ret (And.intro @ret_norm (And.intro @res_tmp (And.intro @ex_some (And.intro @val_const (And.intro @val_func (@vals_nil)))))))))))
theorem rn3 : type_of% @vals_cons ∧ type_of% @d_nil ∧ type_of% @d_free ∧ type_of% @d_rd1 ∧ type_of% @d_rd ∧ type_of% @d_up ∧ type_of% @d_any ∧ type_of% @same_some ∧ type_of% @up_some ∧ type_of% @all_reads ∧ type_of% @Sub.refl ∧ type_of% @x_mov := And.intro @vals_cons (And.intro @d_nil (And.intro @d_free (And.intro @d_rd1 (And.intro @d_rd (And.intro @d_up (And.intro @d_any (And.intro @same_some (And.intro @up_some (And.intro @all_reads (And.intro @Sub.refl (@x_mov)))))))))))
theorem rn4 : type_of% @x_pick ∧ type_of% @pick_t ∧ type_of% @pick_f ∧ type_of% @x_field1 ∧ type_of% @x_fieldN ∧ type_of% @x_extract ∧ type_of% @x_box ∧ type_of% @x_alloc ∧ type_of% @x_load1 ∧ type_of% @x_loadN ∧ type_of% @withH_some' ∧ type_of% @x_store := And.intro @x_pick (And.intro @pick_t (And.intro @pick_f (And.intro @x_field1 (And.intro @x_fieldN (And.intro @x_extract (And.intro @x_box (And.intro @x_alloc (And.intro @x_load1 (And.intro @x_loadN (And.intro @withH_some' (@x_store)))))))))))
theorem rn5 : type_of% @x_mkfunc ∧ type_of% @x_mkslice ∧ type_of% @x_slice ∧ type_of% @x_fieldAddr ∧ type_of% @fieldAt_p ∧ type_of% @x_idxArr ∧ type_of% @x_idxSl ∧ type_of% @x_append ∧ type_of% @x_there ∧ type_of% @x_len ∧ type_of% @len_slice ∧ type_of% @x_not := And.intro @x_mkfunc (And.intro @x_mkslice (And.intro @x_slice (And.intro @x_fieldAddr (And.intro @fieldAt_p (And.intro @x_idxArr (And.intro @x_idxSl (And.intro @x_append (And.intro @x_there (And.intro @x_len (And.intro @len_slice (@x_not)))))))))))
theorem rn6 : type_of% @not_bool ∧ type_of% @x_call ∧ type_of% @x_int2 ∧ type_of% @i_add ∧ type_of% @i_sub ∧ type_of% @i_mul ∧ type_of% @i_eql ∧ type_of% @i_neq ∧ type_of% @i_lss ∧ type_of% @i_leq ∧ type_of% @i_gtr ∧ type_of% @i_geq := And.intro @not_bool (And.intro @x_call (And.intro @x_int2 (And.intro @i_add (And.intro @i_sub (And.intro @i_mul (And.intro @i_eql (And.intro @i_neq (And.intro @i_lss (And.intro @i_leq (And.intro @i_gtr (@i_geq)))))))))))
theorem rn7 : type_of% @x_plain ∧ type_of% @p_min ∧ type_of% @p_max ∧ type_of% @p_rem ∧ type_of% @p_quo ∧ type_of% @r_min ∧ type_of% @r_max ∧ type_of% @p_shl ∧ type_of% @p_or ∧ type_of% @p_and ∧ type_of% @p_andNot ∧ type_of% @eqV_i := And.intro @x_plain (And.intro @p_min (And.intro @p_max (And.intro @p_rem (And.intro @p_quo (And.intro @r_min (And.intro @r_max (And.intro @p_shl (And.intro @p_or (And.intro @p_and (And.intro @p_andNot (@eqV_i)))))))))))
theorem rn8 : type_of% @x_bslice ∧ type_of% @x_build ∧ type_of% @res_cellN ∧ type_of% @res_cell1 ∧ type_of% @valN_tmp ∧ type_of% @valN_const := And.intro @x_bslice (And.intro @x_build (And.intro @res_cellN (And.intro @res_cell1 (And.intro @valN_tmp (@valN_const)))))
end Go.Vm
namespace Go.Vm.Vat
set_option linter.unusedSimpArgs false
set_option linter.unusedVariables false
set_option maxRecDepth 10000
/-! What the texts of all layers use: it speaks of no program. -/
noncomputable def A (f : Nat) : Bool := inL [42, 116, 80, 125, 108, 32, 33, 88, 70, 31, 38, 39, 96, 44, 97, 45, 50, 47, 66, 71, 110, 57, 52, 23, 29, 37, 60, 62, 117, 113, 82, 118, 100, 84, 86, 92, 98, 87, 77, 91, 123, 114, 126, 81, 83, 85, 103, 30, 76, 79, 115, 95, 28, 49, 99, 119, 94, 40, 46, 107, 124, 129, 130, 53, 41, 75, 112, 68] f
variable {n : Nat} {h : AHeap}
/-- ranges; samples -/
def Ranges (h : AHeap) (v : Value) (n : Nat) (lo hi : Nat → Int) : Prop := Cells h v 2 n fun k j => .int .i64 (if j = 0 then lo k else hi k)
def Samps (h : AHeap) (v : Value) (n : Nat) (at_ lo hi : Nat → Int) : Prop := Cells h v 3 n fun k j => .int .i64 (if j = 0 then at_ k else if j = 1 then lo k else hi k)
theorem ranges_ld {v : Value} {n : Nat} {lo hi : Nat → Int} (hr : Ranges h v n lo hi) {k : Nat} (hk : k < n) : loadAgg 2 h (ptrO v 2 k 0) = some (.agg ⟨[.int .i64 (lo k), .int .i64 (hi k)]⟩) := by
  rw [Cells.ldN hr hk (by omega) (by omega)]; simp [List.range_succ]
theorem samps_ld {v : Value} {n : Nat} {at_ lo hi : Nat → Int} (hr : Samps h v n at_ lo hi) {k : Nat} (hk : k < n) : loadAgg 3 h (ptrO v 3 k 0) = some (.agg ⟨[.int .i64 (at_ k), .int .i64 (lo k), .int .i64 (hi k)]⟩) := by
  rw [Cells.ldN hr hk (by omega) (by omega)]; simp [List.range_succ]
theorem Cells.one {v : Value} {s n : Nat} {c : Nat → Nat → Value} (hc : Cells h v s n c) : oneCell v = true := by obtain ⟨a, cap, rfl, _⟩ := hc; rfl
variable {n : Nat} {h : AHeap}
variable {n : Nat} {h : AHeap}
variable {n : Nat} {h : AHeap}
variable {n : Nat} {h : AHeap}
variable {n : Nat} {h : AHeap}
theorem build_range {x y : Int} : buildA (fun x => (#[(0, 1), (1, 1)] : Array (Nat × Nat))[x]?) ⟨[.int .i64 0, .int .i64 0]⟩ [0, 1] h [.int .i64 x, .int .i64 y] = some (.agg ⟨[.int .i64 x, .int .i64 y]⟩, h) := id rfl
/-- what a call that makes lists leaves as it was, and where it may be -/
structure Made (h h1 : AHeap) (k : Nat) : Prop where
  sub : Sub All h h1
  next : h1.next ≤ h.next + k
  up : h.next ≤ h1.next
  floor : h1.floor = h.floor
theorem Ints.cells {v : Value} {m : Nat} {a : Nat → Int} (hi : Ints h v m a) : ∃ x k, v = .slice x m k ∧ cellsOfSlice h 1 v = some ((List.range m).map fun i => .int .i64 (a i)) := by
  obtain ⟨x, cap, rfl, _, h0 | ⟨b, o, cs, w, gr, rfl, h1, h2⟩⟩ := hi
  · subst h0
    refine ⟨x, cap, rfl, ?_⟩
    cases x <;> rfl
  · refine ⟨_, cap, rfl, ?_⟩
    by_cases hm : m = 0
    · subst hm; rfl
    have hb : Nat.beq m 0 = false := by
      cases hb : Nat.beq m 0 with
      | false => rfl
      | true => exact absurd (beq_iff.1 hb) hm
    show (bif Nat.beq m 0 then some [] else match h.get b with
      | some (.row cs _ _) => dropK cs o fun r => takeK r (m * 1) fun l => some l
      | _ => none) = _
    have hl := (List.getElem?_eq_some_iff.1 (h2 (m - 1) 0 (by omega) (by omega))).1
    rw [hb, cond_false, h1]
    simp only [dropK_eq, takeK_eq]
    rw [if_pos (by omega), if_pos (by rw [List.length_drop]; omega)]
    congr 1
    apply List.ext_getElem?
    intro i
    simp only [List.getElem?_map, List.getElem?_take, List.getElem?_drop, Nat.mul_one]
    by_cases hi : i < m
    · rw [if_pos hi, List.getElem?_range hi]
      have := h2 i 0 hi (by omega)
      rw [show o + i * 1 + 0 = o + i by omega] at this
      rw [this]; rfl
    · rw [if_neg hi, List.getElem?_eq_none (by simp; omega)]
      rfl
theorem append_none {s bytes b : Nat} {y : Value} {m : Nat} {new : List Value} (hy : ∃ x k, y = .slice x m k) (hyc : cellsOfSlice h s y = some new) (hnl : new.length = m * s) (hb1 : m * bytes ≤ maxBytes) (hb2 : m ≤ maxBytes) :
    appendA s bytes h (.slice (some ⟨b, 0, none⟩) 0 0) y = if m = 0 then some (.slice (some ⟨b, 0, none⟩) 0 0, h) else newSlice h new m unk s := by
  obtain ⟨a, k, rfl⟩ := hy
  have e1 : Nat.ble ((0 + m) * bytes) maxBytes = true := ble_iff.2 (by rw [Nat.zero_add]; exact hb1)
  have e2 : Nat.ble (0 + m) maxBytes = true := ble_iff.2 (by omega)
  have e3 : Nat.beq (len new) (m * s) = true := by rw [len_eq]; exact beq_iff.2 hnl
  unfold appendA
  simp only [hyc, e1, e2, e3, Bool.and_self, cond_true]
  by_cases hm : m = 0
  · subst hm
    rw [if_pos rfl]
    rfl
  · rw [if_neg hm]
    have e4 : Nat.ble (0 + m) 0 = false := by
      cases hb : Nat.ble (0 + m) 0 with
      | false => rfl
      | true => have := ble_iff.1 hb; omega
    rw [e4, Bool.false_and, cond_false]
    unfold appendGrow
    have e5 : cellsOfSlice h s (.slice (some ⟨b, 0, none⟩) 0 0) = some [] := rfl
    have e6 : Nat.blt 0 unk = true := rfl
    simp only [e5, e6, cond_true, app_eq, List.nil_append, Nat.zero_add]
variable {n : Nat} {h : AHeap}
theorem sl_range {x y : Int} : buildSl 2 1 [.int .i64 0, .int .i64 0] [0] h [.agg ⟨[.int .i64 x, .int .i64 y]⟩] = newSlice h [.int .i64 x, .int .i64 y] 1 1 0 := id rfl
theorem sl_samp {x y z : Int} : buildSl 3 1 [.int .i64 0, .int .i64 0, .int .i64 0] [0] h [.agg ⟨[.int .i64 x, .int .i64 y, .int .i64 z]⟩] = newSlice h [.int .i64 x, .int .i64 y, .int .i64 z] 1 1 0 := id rfl
theorem sl_one {v : Value} (hv : oneCell v = true) : buildSl 1 1 [.slice none 0 0] [0] h [v] = newSlice h [v] 1 1 0 := by
  cases v <;> first | rfl | cases hv
abbrev nilS : Value := .slice none 0 0
variable {n : Nat} {h : AHeap}
variable {n : Nat} {h : AHeap}
/-- how many blues there are -/
def sizeN (lo hi : Nat → Int) : Nat → Int
  | 0 => 1
  | i + 1 => sizeN lo hi i * (hi i - lo i + 1)
variable {n : Nat} {h : AHeap}
variable {n : Nat} {h : AHeap}
theorem idxArr_p {l k b o : Nat} (hk : k < l) : indexArr l 1 (.pointer (some ⟨b, o, none⟩)) (.int .i64 (k : Int)) = some (.pointer (some ⟨b, o + k, none⟩)) := by
  show placeAt ⟨b, o, none⟩ (Int.ofNat k) l 1 = _
  unfold placeAt
  simp only [blt_iff.2 hk, cond_true, Nat.mul_one]
variable {n : Nat} {h : AHeap}
theorem _root_.Go.Vm.Row.whole {b n : Nat} {cs : List Value} (hr : Row h b cs) (hl : cs.length = n) : loadAgg n h (.pointer (some ⟨b, 0, none⟩)) = some (.agg ⟨cs⟩) := by
  rw [hr.ldN 0 n (by omega) (by simp [hl]), List.drop_zero, ← hl, List.take_length]
variable {n : Nat} {h : AHeap}
theorem res_two {a n t : Nat} {f : Fr} : resV f h [.cellN a n, .tmp t] = match loadAgg n h (f a) with
  | some v => some (.tuple ⟨[v, f t]⟩)
  | none => none := by
  simp only [resV, resL, res1]
  cases loadAgg n h (f a) <;> rfl
theorem splice_all {cs vs : List Value} (hl : cs.length = vs.length) : splice cs 0 vs = vs := by simp [splice, hl]
variable {n : Nat} {h : AHeap}
theorem make_ints {s : Nat} {z : List Value} {m : Nat} (hm : m ≤ 1000) : makeSl s 8 z h (.int .i64 (m : Int)) (.int .i64 (m : Int)) = newSlice h (repl z m) m m 0 := by
  show (bif Nat.ble m m && Nat.ble (m * 8) maxBytes && Nat.ble m maxBytes then newSlice h (repl z m) m m 0 else none) = _
  have e1 : Nat.ble m m = true := ble_iff.2 (Nat.le_refl _)
  have e2 : Nat.ble (m * 8) maxBytes = true := ble_iff.2 (by simp [maxBytes]; omega)
  have e3 : Nat.ble m maxBytes = true := ble_iff.2 (by simp [maxBytes]; omega)
  rw [e1, e2, e3]; rfl
theorem ex0 {x y : Value} : extractA 0 (.tuple ⟨[x, y]⟩) h = some (x, h) := id rfl
theorem ex1 {x y : Value} : extractA 1 (.tuple ⟨[x, y]⟩) h = some (y, h) := id rfl
variable {n : Nat} {h : AHeap}
section
variable {σ : Type}
/-- the iterator's own rows -/
structure It (pw py pc : Nat) (W : List Value) (yv cv F : Value) (nf : Nat) (lo hi : Nat → Int) (g : AHeap) : Prop where
  w : Row g pw W
  y : Row g py [yv]
  c : Row g pc [cv]
  f : Ranges g F nf lo hi
theorem It.set {pw py pc pb gr : Nat} {W cs : List Value} {yv cv F : Value} {nf : Nat} {lo hi : Nat → Int} {g g' : AHeap} (hi' : It pw py pc W yv cv F nf lo hi g) (hs : Set1 g g' pb cs gr) (h1 : pw ≠ pb) (h2 : py ≠ pb) (h3 : pc ≠ pb)
    (hF : ∀ a k cap, F = .slice (some a) k cap → a.block ≠ pb ∨ nf = 0) : It pw py pc W yv cv F nf lo hi g' := by
  refine ⟨hi'.w.keep hs.keep h1, hi'.y.keep hs.keep h2, hi'.c.keep hs.keep h3, ?_⟩
  obtain ⟨a, cap, e, hsp, h0 | ⟨b, o, cs, w, gr, rfl, e1, e2⟩⟩ := hi'.f
  · exact ⟨a, cap, e, hsp, .inl h0⟩
  · rcases hF _ _ _ e with h4 | h4
    · exact ⟨_, cap, e, hsp, .inr ⟨b, o, cs, w, gr, rfl, hs.keep.sub _ _ _ _ h4 e1, e2⟩⟩
    · exact ⟨_, cap, e, hsp, .inl h4⟩
/-- what lay before lies as it did -/
structure Old (g g1 : AHeap) (k : Nat) : Prop where
  old : ∀ i, i < g.next → g1.get i = g.get i
  next : g1.next = g.next + k
  floor : g1.floor = g.floor
theorem Old.sub {g g1 : AHeap} {k : Nat} (ho : Old g g1 k) : Sub All g g1 := fun i cs w gr _ hg => by rw [ho.old i (AHeap.lt_of_get hg)]; exact hg
end
variable {n : Nat} {h : AHeap}
section
variable {σ : Type}
end
variable {n : Nat} {h : AHeap}
theorem _root_.Go.Vm.Cells.old {g : AHeap} {v : Value} {s n : Nat} {c : Nat → Nat → Value} (hc : Cells h v s n c) (ho : ∀ i, i < h.next → g.get i = h.get i) : Cells g v s n c :=
  hc.mono fun i cs w gr _ hg => by rw [ho i (AHeap.lt_of_get hg)]; exact hg
theorem _root_.Go.Vm.AHeap.subOf {g : AHeap} (ho : ∀ i, i < h.next → g.get i = h.get i) : Sub All h g := fun i cs w gr _ hg => by rw [ho i (AHeap.lt_of_get hg)]; exact hg
/-- a slice that is no longer than its capacity, if that is 1 -/
def Long (v : Value) : Prop := ∀ a n c, v = .slice a n c → c = 1 → n ≤ 1
theorem _root_.Go.Vm.GrowC.long {B s n : Nat} {v : Value} {c : Nat → Nat → Value} (hg : GrowC B h v s n c) : Long v := by
  obtain ⟨cs, ⟨rfl, _, _⟩ | ⟨b, rfl, _⟩, _⟩ := hg
  · intro a n c e; cases e; intro _; omega
  · intro a n c e; cases e; intro h; simp [unk] at h
variable {n : Nat} {h : AHeap}
/-- the same array -/
def SameB (a b : Nat → Int) : Prop := ∀ k, k ∈ List.range 5 → a k = b k
instance (a b : Nat → Int) : Decidable (SameB a b) := inferInstanceAs (Decidable (∀ k, k ∈ List.range 5 → a k = b k))
/-- the array is among them -/
def HasB (l : List (Nat → Int)) (c : Nat → Int) : Prop := ∃ k, k < l.length ∧ SameB c (l.getD k fun _ => 0)
noncomputable instance (l : List (Nat → Int)) (c : Nat → Int) : Decidable (HasB l c) := Classical.propDecidable _
variable {n : Nat} {h : AHeap}
theorem Made.trans {a b c : AHeap} {j k : Nat} (h1 : Made a b j) (h2 : Made b c k) : Made a c (j + k) := ⟨h1.sub.trans h2.sub, by have := h1.next; have := h2.next; omega, by have := h1.up; have := h2.up; omega, by rw [h2.floor, h1.floor]⟩
theorem Made.of {a b : AHeap} {cs : List Value} {gr : Nat} (hn : New a b cs gr) : Made a b 1 := ⟨hn.sub, by rw [hn.next]; omega, by rw [hn.next]; omega, hn.floor⟩
variable {n : Nat} {h : AHeap}
def sz (lo hi : Nat → Int) (k : Nat) : Nat := (hi k - lo k + 1).toNat
def divN (s : Nat → Nat) (m : Nat) : Nat → Nat
  | 0 => m
  | k + 1 => divN s m k / s k
theorem one_get {v : Value} : ∀ j, j < 1 → [v][j]? = some v := fun j hj => by
  have : j = 0 := by omega
  subst this; rfl
theorem sl_int {x : Int} : buildSl 1 1 [.int .i64 0] [0] h [.int .i64 x] = newSlice h [.int .i64 x] 1 1 0 := id rfl
variable {n : Nat} {h : AHeap}
/-- a list of lists of numbers that grows: all of it lies from block B on, each list in a block of its own -/
def GrowRows (B : Nat) (h : AHeap) (v : Value) (n : Nat) (cnt : Nat → Nat) (q : Nat → Nat → Int) : Prop :=
  ∃ r : Nat → Value, GrowC B h v 1 n (fun k _ => r k) ∧ ∀ i, i < n → Ints h (r i) (cnt i) (q i) ∧ ∀ a m c, r i = .slice (some a) m c → B ≤ a.block ∧ a.block < h.next ∧ ∀ b m' c', v = .slice (some b) m' c' → a.block ≠ b.block
theorem GrowRows.nil {B : Nat} {cnt : Nat → Nat} {q : Nat → Nat → Int} : GrowRows B h nilS 0 cnt q := ⟨fun _ => nilS, .nil, fun i hi => by omega⟩
theorem GrowRows.rows {B : Nat} {v : Value} {n : Nat} {cnt : Nat → Nat} {q : Nat → Nat → Int} (hg : GrowRows B h v n cnt q) : Rows h v n cnt q := by
  obtain ⟨r, h1, h2⟩ := hg
  exact ⟨r, h1.cells, fun i hi => (h2 i hi).1⟩
theorem GrowRows.keep {B o : Nat} {g : AHeap} {v : Value} {n : Nat} {cnt : Nat → Nat} {q : Nat → Nat → Int} (hg : GrowRows B h v n cnt q) (hk : Keep o h g) (ho : o < B) : GrowRows B g v n cnt q := by
  obtain ⟨r, h1, h2⟩ := hg
  refine ⟨r, h1.keep hk ho, fun i hi => ?_⟩
  obtain ⟨h3, h4⟩ := h2 i hi
  exact ⟨Cells.keep h3 hk fun a k c e => by have := (h4 a k c e).1; omega, fun a m c e => by
    obtain ⟨k1, k2, k3⟩ := h4 a m c e
    exact ⟨k1, Nat.lt_of_lt_of_le k2 hk.up, k3⟩⟩
theorem GrowRows.sub {B : Nat} {g : AHeap} {v : Value} {n : Nat} {cnt : Nat → Nat} {q : Nat → Nat → Int} (hg : GrowRows B h v n cnt q) (hs : Sub All h g) (hup : h.next ≤ g.next) : GrowRows B g v n cnt q := by
  obtain ⟨r, h1, h2⟩ := hg
  refine ⟨r, h1.sub hs, fun i hi => ?_⟩
  obtain ⟨h3, h4⟩ := h2 i hi
  exact ⟨Cells.mono h3 hs, fun a m c e => by
    obtain ⟨k1, k2, k3⟩ := h4 a m c e
    exact ⟨k1, Nat.lt_of_lt_of_le k2 hup, k3⟩⟩
theorem GrowRows.congr {B : Nat} {v : Value} {n : Nat} {cnt cnt' : Nat → Nat} {q q' : Nat → Nat → Int} (hg : GrowRows B h v n cnt q) (h1 : ∀ i, i < n → cnt i = cnt' i) (h2 : ∀ i, i < n → q i = q' i) : GrowRows B h v n cnt' q' := by
  obtain ⟨r, k1, k2⟩ := hg
  exact ⟨r, k1, fun i hi => by rw [← h1 i hi, ← h2 i hi]; exact k2 i hi⟩
/-- one list more -/
theorem GrowRows.push {B : Nat} {h1 : AHeap} {v l : Value} {n : Nat} {cnt : Nat → Nat} {q : Nat → Nat → Int} (hg : GrowRows B h v n cnt q) (hB : h.floor ≤ B) (hf : h.next + 2 < far) (hBn : B ≤ h.next) (hl : Ints h l (cnt n) (q n)) (hone : oneCell l = true)
    (hb : ∀ a k c, l = .slice (some a) k c → B ≤ a.block ∧ a.block < h.next ∧ ∀ b m' c', v = .slice (some b) m' c' → a.block ≠ b.block) (hx : New h h1 [l] 0) (hn : (n + 1) * 24 ≤ maxBytes) (hn1 : n + 1 ≤ maxBytes) :
    ∃ v' g, appendA 1 24 h1 v (.slice (some ⟨h.next, 0, none⟩) 1 1) = some (v', g) ∧ GrowRows B g v' (n + 1) cnt q ∧ Kept h1 g v ∧ oneCell v' = true ∧ (∀ a k c, v = .slice (some a) k c → B ≤ a.block) := by
  obtain ⟨r, g1, g2⟩ := hg
  have hnx := hx.next
  have hfl := hx.floor
  let r' : Nat → Value := fun i => if i = n then l else r i
  have g1' : GrowC B h1 v 1 n (fun k _ => r' k) := (g1.sub hx.sub).congr fun k j hk hj => by show r k = if k = n then l else r k; rw [if_neg (by omega)]
  obtain ⟨v', g, e, ev, gv, hk⟩ := g1'.append (bytes := 24) (cap := 1) (by omega) (by omega) (by omega) hx.get rfl (by simp [allB, hone]) (fun j hj => by rw [one_get j hj]; show some l = some (if n = n then l else r n); rw [if_pos rfl]) hn hn1
  refine ⟨v', g, e, ⟨r', gv, fun i hi => ?_⟩, hk, gv.one, fun a k c e => (g1.block e).1⟩
  have hkn := hk.next
  have hmain : ∀ (x : Value) (m : Nat) (a : Nat → Int), Ints h x m a → (∀ a k c, x = .slice (some a) k c → B ≤ a.block ∧ a.block < h.next ∧ ∀ b m' c', v = .slice (some b) m' c' → a.block ≠ b.block) →
      Ints g x m a ∧ ∀ a k c, x = .slice (some a) k c → B ≤ a.block ∧ a.block < g.next ∧ ∀ b m' c', v' = .slice (some b) m' c' → a.block ≠ b.block := by
    intro x m a hx1 hx2
    refine ⟨Cells.kept (Cells.mono hx1 hx.sub) hk fun a k c e b k' c' e' => (hx2 a k c e).2.2 b k' c' e', fun a k c e => ?_⟩
    obtain ⟨k1, k2, _⟩ := hx2 a k c e
    refine ⟨k1, by omega, fun b m' c' e' => ?_⟩
    rw [ev] at e'
    cases e'
    show a.block ≠ h1.next
    omega
  by_cases hin : i = n
  · subst hin
    have : r' i = l := by show (if i = i then l else r i) = l; rw [if_pos rfl]
    rw [this]
    exact hmain l _ _ hl hb
  · have : r' i = r i := by show (if i = n then l else r i) = r i; rw [if_neg hin]
    rw [this]
    obtain ⟨k1, k2⟩ := g2 i (by omega)
    exact hmain _ _ _ k1 k2
variable {n : Nat} {h : AHeap}
def minN (x : Int) (a : Nat → Int) : Nat → Int
  | 0 => x
  | i + 1 => min (minN x a i) (a i)
variable {n : Nat} {h : AHeap}
variable {n : Nat} {h : AHeap}
theorem map_splice {F F' : Nat → Value} {m off : Nat} {vs : List Value} (hl : off + vs.length ≤ m) (h1 : ∀ i, i < m → (i < off ∨ off + vs.length ≤ i) → F' i = F i) (h2 : ∀ j, j < vs.length → vs[j]? = some (F' (off + j))) :
    splice ((List.range m).map F) off vs = (List.range m).map F' := by
  apply List.ext_getElem?
  intro i
  have hlen : ((List.range m).map F).length = m := by simp
  simp only [splice]
  by_cases hi : i < m
  · rw [List.getElem?_map, List.getElem?_range hi]
    by_cases c1 : i < off
    · rw [List.getElem?_append_left (by simp [hlen]; omega), List.getElem?_take, if_pos c1, List.getElem?_map, List.getElem?_range hi]
      simp [h1 i hi (.inl c1)]
    · rw [List.getElem?_append_right (by simp [hlen]; omega)]
      have e : (List.take off ((List.range m).map F)).length = off := by simp [hlen]; omega
      rw [e]
      by_cases c2 : i < off + vs.length
      · rw [List.getElem?_append_left (by omega), h2 (i - off) (by omega)]
        simp [show off + (i - off) = i by omega]
      · rw [List.getElem?_append_right (by omega), List.getElem?_drop, show off + vs.length + (i - off - vs.length) = i by omega, List.getElem?_map, List.getElem?_range hi]
        simp [h1 i hi (.inr (by omega))]
  · rw [List.getElem?_eq_none (by simp; omega), List.getElem?_eq_none (by simp [hlen]; omega)]
theorem splice2 {a b c d : Value} : splice [a, b] 0 [c, d] = [c, d] := rfl
theorem idxSl_s {s k m c o : Nat} (hk : k < m) : indexSl s (.slice (some ⟨o, 0, none⟩) m c) (.int .i64 (k : Int)) = some (.pointer (some ⟨o, k * s, none⟩)) := by
  show placeAt ⟨o, 0, none⟩ (Int.ofNat k) m s = _
  unfold placeAt
  simp only [blt_iff.2 hk, cond_true, Nat.zero_add]
variable {n : Nat} {h : AHeap}
variable {n : Nat} {h : AHeap}
/-- an unsigned byte, as an integer -/
def run8 (other : AHeap → Option (Value × AHeap)) (a : Value) (h : AHeap) : Option (Value × AHeap) :=
  match a with
  | .int .u8 a => some (.int .i64 (IntKind.wrap .i64 a), h)
  | _ => other h
theorem r_8 {other : AHeap → Option (Value × AHeap)} {k : Nat} (hk : k < 256) : run8 other (.int .u8 (k : Int)) h = some (.int .i64 (k : Int), h) := by
  simp only [run8]
  rw [IntWalk.i64_in _ (by omega)]
theorem wf8 {a : Int} (h : (Lit.int .u8 a).wf = true) : ∃ k : Nat, a = k ∧ k < 256 := by
  simp only [Lit.wf, Bool.and_eq_true, decide_eq_true_eq] at h
  have h1 : (IntKind.u8).min = 0 := rfl
  have h2 : (IntKind.u8).max = 255 := rfl
  rw [h1, h2] at h
  exact ⟨a.toNat, by omega, by omega⟩
variable {n : Nat} {h : AHeap}
variable {n : Nat} {h : AHeap}
/-- lexicographically before, both as long -/
def LexLt (a b : Nat → Int) (m : Nat) : Prop := ∃ j, j < m ∧ (∀ i, i < j → a i = b i) ∧ a j < b j
noncomputable instance (a b : Nat → Int) (m : Nat) : Decidable (LexLt a b m) := Classical.propDecidable _
/-- shorter, or as long and before it -/
def Shortlex (a : Nat → Int) (m : Nat) (b : Nat → Int) (k : Nat) : Prop := m < k ∨ m = k ∧ LexLt a b m
noncomputable instance (a : Nat → Int) (m : Nat) (b : Nat → Int) (k : Nat) : Decidable (Shortlex a m b k) := Classical.propDecidable _
variable {n : Nat} {h : AHeap}
variable {n : Nat} {h : AHeap}
variable {P : Program} {N : Nat} {f : Fr} {h : AHeap} {ty t u : TypeId} {x y : Operand}
variable {n : Nat} {h : AHeap}
variable {n : Nat} {h : AHeap}
variable {P : Program} {N : Nat} {f : Fr} {h : AHeap}
variable {n : Nat} {h : AHeap}
variable {n : Nat} {h : AHeap}
variable {n : Nat} {h : AHeap}
variable {n : Nat} {h : AHeap}
variable {n : Nat} {h : AHeap}
section
variable {α : Type}
end
variable {n : Nat} {h : AHeap}
/-- among the first k -/
def Seen (L : List (Nat → Int)) (p : (Nat → Int) → Prop) (k : Nat) : Prop := ∃ i, i < k ∧ p (L.getD i fun _ => 0)
noncomputable instance (L : List (Nat → Int)) (p : (Nat → Int) → Prop) (k : Nat) : Decidable (Seen L p k) := Classical.propDecidable _
variable {n : Nat} {h : AHeap}
theorem repl_one {x : Value} : ∀ m, repl [x] m = List.replicate m x
  | 0 => rfl
  | m + 1 => by rw [repl, repl_one m, List.replicate_succ]; rfl
theorem ints_row {g : AHeap} {b m cap gr : Nat} {w : Bool} {a : Nat → Int} (hg : g.get b = some (.row ((List.range m).map fun v => .int .i64 (a v)) w gr)) : Ints g (.slice (some ⟨b, 0, none⟩) m cap) m a :=
  ⟨_, _, rfl, fun x e => by cases e; rfl, .inr ⟨_, 0, _, _, _, rfl, hg, fun k j hk hj => by
    have : j = 0 := by omega
    subst this
    rw [Nat.zero_add, Nat.mul_one, Nat.add_zero, List.getElem?_map, List.getElem?_range hk]; rfl⟩⟩
section
variable {P : Program} {cf : CallF} {N : Nat} {f : Fr} {x y z : Operand}
end
variable {n : Nat} {h : AHeap}
variable {n : Nat} {h : AHeap}
section
variable {σ : Type}
/-- the iterator's own rows -/
structure ItS (pv py pc : Nat) (nv : Nat) (yv cv : Value) (g : AHeap) : Prop where
  v : Row g pv [.int .i64 (nv : Int)]
  y : Row g py [yv]
  c : Row g pc [cv]
theorem ItS.set {pv py pc pb gr nv : Nat} {cs : List Value} {yv cv : Value} {g g' : AHeap} (hi' : ItS pv py pc nv yv cv g) (hs : Set1 g g' pb cs gr) (h1 : pv ≠ pb) (h2 : py ≠ pb) (h3 : pc ≠ pb) : ItS pv py pc nv yv cv g' :=
  ⟨hi'.v.keep hs.keep h1, hi'.y.keep hs.keep h2, hi'.c.keep hs.keep h3⟩
end
variable {n : Nat} {h : AHeap}
variable {n : Nat} {h : AHeap}
theorem ret_ttt {a b c : Nat} {f : Fr} : resV f h [.tmp a, .tmp b, .tmp c] = some (.tuple ⟨[f a, f b, f c]⟩) := id rfl
theorem x_sliceArr {P : Program} {cf : CallF} {N : Nat} {f : Fr} {m s : Nat} {x : Operand} {lo hi : Option Operand} : sem P cf N f h (.sliceArr m s x lo hi) = sliceArr m s h (val f x) (lo.map (val f)) (hi.map (val f)) := id rfl
variable {n : Nat} {h : AHeap}
variable {n : Nat} {h : AHeap}
variable {n : Nat} {h : AHeap}
variable {n : Nat} {h : AHeap}
variable {n : Nat} {h : AHeap}
variable {n : Nat} {h : AHeap}
def Words (h : AHeap) (v : Value) (m : Nat) (a : Nat → Nat) : Prop := Cells h v 1 m (fun k _ => .int .u16 (a k : Int)) ∧ ∀ k, k < m → a k < 65536
theorem Words.mono {g : AHeap} {v : Value} {m : Nat} {a : Nat → Nat} (hw : Words h v m a) (hs : Sub All h g) : Words g v m a := ⟨Cells.mono hw.1 hs, hw.2⟩
def run16 (other : AHeap → Option (Value × AHeap)) (a : Value) (h : AHeap) : Option (Value × AHeap) :=
  match a with
  | .int .u16 a => some (.int .i64 (IntKind.wrap .i64 a), h)
  | _ => other h
theorem r_16 {other : AHeap → Option (Value × AHeap)} {k : Nat} (hk : k < 65536) : run16 other (.int .u16 (k : Int)) h = some (.int .i64 (k : Int), h) := by
  simp only [run16]
  rw [IntWalk.i64_in _ (by omega)]
def rowI (m : Nat) (c : Nat → Int) : List Value := (List.range m).map fun i => .int .i64 (c i)
theorem rowI_len {m : Nat} {c : Nat → Int} : (rowI m c).length = m := by simp [rowI]
theorem rowI_get {m k : Nat} {c : Nat → Int} (hk : k < m) : (rowI m c)[k]? = some (.int .i64 (c k)) := by unfold rowI; rw [List.getElem?_map, List.getElem?_range hk]; rfl
theorem rowI_ints {m b w : Nat} {c : Nat → Int} {cap : Nat} (hg : ∃ wr gr, h.get b = some (.row (rowI m c) wr gr)) : Ints h (.slice (some ⟨b, 0, none⟩) m cap) m c := by
  obtain ⟨wr, gr, e⟩ := hg
  exact ⟨_, _, rfl, fun x e => by cases e; rfl, .inr ⟨_, 0, _, _, _, rfl, e, fun k j hk hj => by
    obtain rfl : j = 0 := by omega
    rw [show 0 + k * 1 + 0 = k by omega, rowI_get hk]⟩⟩
variable {n : Nat} {h : AHeap}
variable {n : Nat} {h : AHeap}
variable {n : Nat} {h : AHeap}
variable {n : Nat} {h : AHeap}
theorem ex30 {x y z : Value} : extractA 0 (.tuple ⟨[x, y, z]⟩) h = some (x, h) := id rfl
theorem ex31 {x y z : Value} : extractA 1 (.tuple ⟨[x, y, z]⟩) h = some (y, h) := id rfl
theorem ex32 {x y z : Value} : extractA 2 (.tuple ⟨[x, y, z]⟩) h = some (z, h) := id rfl
variable {n : Nat} {h : AHeap}
variable {n : Nat} {h : AHeap}
/-- what a slice holds, as a list -/
def flatL (s m : Nat) (c : Nat → Nat → Value) : List Value := (List.range (m * s)).map fun i => c (i / s) (i % s)
theorem flatL_len {s m : Nat} {c : Nat → Nat → Value} : (flatL s m c).length = m * s := by simp [flatL]
theorem flatL_get {s m k j : Nat} {c : Nat → Nat → Value} (hk : k < m) (hj : j < s) : (flatL s m c)[k * s + j]? = some (c k j) := by
  have hlt : k * s + j < m * s := by
    have : (k + 1) * s ≤ m * s := Nat.mul_le_mul_right s hk
    rw [Nat.add_mul] at this
    omega
  unfold flatL
  rw [List.getElem?_map, List.getElem?_range hlt, Option.map_some, Nat.mul_comm k s, Nat.mul_add_div (by omega), Nat.div_eq_of_lt hj, Nat.mul_add_mod, Nat.mod_eq_of_lt hj, Nat.add_zero]
theorem Cells.list {v : Value} {s m : Nat} {c : Nat → Nat → Value} (hs : 0 < s) (hi : Cells h v s m c) : ∃ x k, v = .slice x m k ∧ cellsOfSlice h s v = some (flatL s m c) := by
  obtain ⟨x, cap, rfl, _, h0 | ⟨b, o, cs, w, gr, rfl, h1, h2⟩⟩ := hi
  · subst h0
    refine ⟨x, cap, rfl, ?_⟩
    cases x <;> simp [cellsOfSlice, flatL]
  · refine ⟨_, cap, rfl, ?_⟩
    by_cases hm : m = 0
    · subst hm; simp [cellsOfSlice, flatL]
    have hb : Nat.beq m 0 = false := by
      cases hb : Nat.beq m 0 with
      | false => rfl
      | true => exact absurd (beq_iff.1 hb) hm
    show (bif Nat.beq m 0 then some [] else match h.get b with
      | some (.row cs _ _) => dropK cs o fun r => takeK r (m * s) fun l => some l
      | _ => none) = _
    have hl := (List.getElem?_eq_some_iff.1 (h2 (m - 1) (s - 1) (by omega) (by omega))).1
    have hms : (m - 1) * s + s = m * s := by
      obtain ⟨p, rfl⟩ : ∃ p, m = p + 1 := ⟨m - 1, by omega⟩
      rw [Nat.add_sub_cancel, Nat.add_mul, Nat.one_mul]
    rw [hb, cond_false, h1]
    simp only [dropK_eq, takeK_eq]
    rw [if_pos (by omega), if_pos (by rw [List.length_drop]; omega)]
    congr 1
    apply List.ext_getElem?
    intro i
    simp only [List.getElem?_take, List.getElem?_drop]
    by_cases hi : i < m * s
    · rw [if_pos hi]
      have hd : i / s < m := (Nat.div_lt_iff_lt_mul hs).2 hi
      have hr : i % s < s := Nat.mod_lt _ hs
      have e : i / s * s + i % s = i := by have := Nat.div_add_mod i s; rw [Nat.mul_comm] at this; exact this
      have h3 := h2 (i / s) (i % s) hd hr
      have h4 := flatL_get (c := c) hd hr
      rw [e] at h4
      rw [h4, ← h3]
      congr 1
      omega
    · rw [if_neg hi, List.getElem?_eq_none (by rw [flatL_len]; omega)]
theorem flatL_one {s m : Nat} {c : Nat → Nat → Int} : allB oneCell (flatL s m fun k j => .int .i64 (c k j)) = true := by rw [allB_iff]; intro v hv; obtain ⟨i, _, rfl⟩ := List.mem_map.1 hv; rfl
variable {n : Nat} {h : AHeap}
theorem there_p {a : Addr} : thereA (.pointer (some a)) h = some (.pointer (some a), h) := id rfl
variable {n : Nat} {h : AHeap}
section
variable {H : Type} {enc : TypeId × Value → H} {w : World} {base : Nat} {sp : Nat → Bool} {held : Bool} {fuel : Nat} {cs : List Value} {x : DataW H × List MemPlace}
/-- what is known of a yard that is handed in -/
structure YardW (w : World) (fv vv sv : Value) : Prop where
  f : FlatS w .i64 2 fv
  s : FlatS w .i64 3 sv
  v : vv = .slice none 0 0 ∨ ∃ a len cap, vv = .slice (some a) len cap ∧ len ≤ cap ∧ ∀ i, i < len → ∃ v, w.cell? (a.add i) = some v ∧ FlatS w .i64 1 v
end
/-- the lists are too long: nothing but their lengths is looked at -/
def Big (u0 u1 u2 : Value) : Prop := ∃ a0 n0 k0 a1 n1 k1 a2 n2 k2, u0 = .slice a0 n0 k0 ∧ u1 = .slice a1 n1 k1 ∧ u2 = .slice a2 n2 k2 ∧ (30 < n0 ∨ 30 < n1 ∨ 30 < n2)
variable {n : Nat} {h : AHeap}
theorem cell_int {P : Program} {w : World} {r : Reach} {b : Nat} {t : TypeId} {k : IntKind} {v x : Value} (ht : P.underlying t = some (.int k)) (ho : Value.okWide P w r b t v) (hc : v.cells.toList = [x]) : v = x := by
  unfold Value.okWide at ho
  rw [ht] at ho
  cases v <;> simp_all [Value.cells, Cell.okWide, Cell.ok]
theorem agg_struct {P : Program} {w : World} {r : Reach} {b : Nat} {t : TypeId} {fs : Array Field} {v : Value} {cs : List Value} (ht : P.underlying t = some (.struct fs)) (ho : Value.okWide P w r b t v) (hc : v.cells.toList = cs) : v = .agg ⟨cs⟩ := by
  unfold Value.okWide at ho
  rw [ht] at ho
  obtain ⟨cs', rfl, _⟩ := ho
  subst hc
  rfl
theorem Big.one {u0 u1 u2 : Value} (hb : Big u0 u1 u2) : allB oneCell [u0, u1, u2] = true := by
  obtain ⟨a0, n0, k0, a1, n1, k1, a2, n2, k2, rfl, rfl, rfl, _⟩ := hb
  rfl
theorem map_int {φ : Emb} {k : IntKind} {a : Int} : mapV φ (.int k a) = .int k a := by simp [mapV]
variable {n : Nat} {h : AHeap}
variable {n : Nat} {h : AHeap}
/-- n own lists of m numbers each -/
def DRows (B : Nat) (h : AHeap) (v : Value) (n m : Nat) (q : Nat → Nat → Int) : Prop :=
  ∃ bk : Nat → Nat, GrowC B h v 1 n (fun k _ => .slice (some ⟨bk k, 0, none⟩) m unk) ∧ ∀ k, k < n → h.get (bk k) = some (.row (rowI m (q k)) true 1) ∧ B ≤ bk k ∧ bk k < h.next ∧ (∀ b c d, v = .slice (some b) c d → bk k ≠ b.block) ∧ ∀ j, j < n → j ≠ k → bk j ≠ bk k
theorem DRows.nil {B m : Nat} {q : Nat → Nat → Int} : DRows B h nilS 0 m q := ⟨fun _ => 0, .nil, fun k hk => by omega⟩
theorem DRows.rows {B n m : Nat} {v : Value} {q : Nat → Nat → Int} (hd : DRows B h v n m q) : Rows h v n (fun _ => m) q := by
  obtain ⟨bk, h1, h2⟩ := hd
  exact ⟨_, h1.cells, fun k hk => rowI_ints (w := 0) ⟨_, _, (h2 k hk).1⟩⟩
theorem DRows.keep {B o n m : Nat} {g : AHeap} {v : Value} {q : Nat → Nat → Int} (hd : DRows B h v n m q) (hk : Keep o h g) (ho : o < B) : DRows B g v n m q := by
  obtain ⟨bk, h1, h2⟩ := hd
  refine ⟨bk, h1.keep hk ho, fun k hkn => ?_⟩
  obtain ⟨a1, a2, a3, a4, a5⟩ := h2 k hkn
  exact ⟨hk.sub _ _ _ _ (by omega) a1, a2, Nat.lt_of_lt_of_le a3 hk.up, a4, a5⟩
theorem DRows.sub {B n m : Nat} {g : AHeap} {v : Value} {q : Nat → Nat → Int} (hd : DRows B h v n m q) (hs : Sub All h g) (hup : h.next ≤ g.next) : DRows B g v n m q := by
  obtain ⟨bk, h1, h2⟩ := hd
  refine ⟨bk, h1.sub hs, fun k hkn => ?_⟩
  obtain ⟨a1, a2, a3, a4, a5⟩ := h2 k hkn
  exact ⟨hs _ _ _ _ trivial a1, a2, Nat.lt_of_lt_of_le a3 hup, a4, a5⟩
theorem DRows.push {B n m b : Nat} {g h1 : AHeap} {v : Value} {q : Nat → Nat → Int} (hd : DRows B g v n m q) (hs : Sub All g h) (hup : g.next ≤ h.next) (hbg : g.next ≤ b) (hB : h.floor ≤ B) (hf : h.next + 2 < far) (hBn : B ≤ g.next) (hl : h.get b = some (.row (rowI m (q n)) true 1)) (hb : b < h.next) (hx : New h h1 [.slice (some ⟨b, 0, none⟩) m unk] 0) (hn : n + 1 ≤ 1000) :
    ∃ v' g', appendA 1 24 h1 v (.slice (some ⟨h.next, 0, none⟩) 1 1) = some (v', g') ∧ DRows B g' v' (n + 1) m q ∧ Kept h1 g' v ∧ oneCell v' = true ∧ (∀ a k c, v = .slice (some a) k c → B ≤ a.block) ∧ v' = .slice (some ⟨h1.next, 0, none⟩) (n + 1) unk := by
  obtain ⟨bk, g1, g2⟩ := hd
  have hnx := hx.next
  have hfl := hx.floor
  let bk' : Nat → Nat := fun i => if i = n then b else bk i
  have g1' : GrowC B h1 v 1 n (fun k _ => .slice (some ⟨bk' k, 0, none⟩) m unk) := ((g1.sub hs).sub hx.sub).congr fun k j hk hj => by show Value.slice (some ⟨bk k, 0, none⟩) m unk = .slice (some ⟨if k = n then b else bk k, 0, none⟩) m unk; rw [if_neg (by omega)]
  obtain ⟨v', g', e, ev, gv, hk⟩ := g1'.append (bytes := 24) (cap := 1) (by omega) (by omega) (by omega) hx.get rfl rfl (fun j hj => by rw [one_get j hj]; show some _ = some (Value.slice (some ⟨if n = n then b else bk n, 0, none⟩) m unk); rw [if_pos rfl]) (by simp [maxBytes]; omega) (by simp [maxBytes]; omega)
  have hkn := hk.next
  refine ⟨v', g', e, ⟨bk', gv, fun i hi => ?_⟩, hk, gv.one, fun a k c e => (g1.block e).1, ev⟩
  have hout : ∀ x c d, v' = .slice (some x) c d → x.block = h1.next := fun x c d e' => by rw [ev] at e'; cases e'; rfl
  by_cases hin : i = n
  · subst hin
    have hbi : bk' i = b := by show (if i = i then b else bk i) = b; rw [if_pos rfl]
    rw [hbi]
    refine ⟨?_, by omega, by omega, fun x c d e' => by have := hout x c d e'; omega, fun j hj hji => ?_⟩
    · rw [hk.old b (by omega) fun x c d e' => by have := (g1.block e').2; omega, hx.old b hb]; exact hl
    · show (if j = i then b else bk j) ≠ b
      rw [if_neg hji]; have := (g2 j (by omega)).2.2.1; omega
  · have hbi : bk' i = bk i := by show (if i = n then b else bk i) = bk i; rw [if_neg hin]
    rw [hbi]
    obtain ⟨a1, a2, a3, a4, a5⟩ := g2 i (by omega)
    refine ⟨?_, a2, by omega, fun x c d e' => by have := hout x c d e'; omega, fun j hj hji => ?_⟩
    · rw [hk.old (bk i) (by omega) fun x c d e' => a4 x c d e', hx.old (bk i) (by omega)]; exact hs _ _ _ _ trivial a1
    · show (if j = n then b else bk j) ≠ bk i
      by_cases e : j = n
      · rw [if_pos e]; omega
      · rw [if_neg e]; exact a5 j (by omega) hji
variable {n : Nat} {h : AHeap}
section
variable {a b k m : Nat} {f g : Nat → Int} {x : Int}
end
section
end
theorem GrowC.at' {B s n : Nat} {g : AHeap} {v : Value} {c : Nat → Nat → Value} (hg : GrowC B h v s n c) (he : ∀ a k cap, v = .slice (some a) k cap → g.get a.block = h.get a.block) : GrowC B g v s n c := by
  obtain ⟨cs, ⟨rfl, rfl, rfl⟩ | ⟨b, rfl, h2, h3, h4⟩, h5, h6⟩ := hg
  · exact .nil
  · exact ⟨cs, .inr ⟨b, rfl, by rw [he _ _ _ rfl]; exact h2, h3, h4⟩, h5, h6⟩
theorem DRows.kept {B m n n' : Nat} {g : AHeap} {v w : Value} {q : Nat → Nat → Int} {c : Nat → Nat → Value} (hd : DRows B h v n m q) (hm : 0 < m) (hw : GrowC B h w 1 n' c) (hc : ∀ k, k < n' → ∃ a j cap, c k 0 = .slice a j cap) (hk : Kept h g w)
    (hne : ∀ a k cap a' k' cap', v = .slice (some a) k cap → w = .slice (some a') k' cap' → a.block ≠ a'.block) : DRows B g v n m q := by
  obtain ⟨bk, h1, h2⟩ := hd
  have hnx := hk.next
  refine ⟨bk, GrowC.at' h1 fun a k cap e => hk.old _ (h1.block e).2 fun a' k' cap' e' => hne _ _ _ _ _ _ e e', fun k hkn => ?_⟩
  obtain ⟨a1, a2, a3, a4, a5⟩ := h2 k hkn
  refine ⟨?_, a2, by omega, a4, a5⟩
  rw [hk.old _ a3 fun a' k' cap' e' heq => ?_]
  · exact a1
  · obtain ⟨cs, ⟨rfl, _, _⟩ | ⟨b, rfl, w2, w3, _⟩, _, w5⟩ := hw
    · cases e'
    · cases e'
      simp only at heq
      rw [heq, w2] at a1
      simp only [Option.some.injEq, AObj.row.injEq] at a1
      have hcs := a1.1
      have hlen : cs.length = m := by rw [hcs, rowI_len]
      have hn' : 0 < n' := by omega
      have h3 := w5 0 0 hn' (by omega)
      obtain ⟨aa, j, cap, e3⟩ := hc 0 hn'
      rw [hcs, show 0 * 1 + 0 = 0 from rfl, rowI_get hm, e3] at h3
      cases h3
variable {n : Nat} {h : AHeap}
section
end
variable {n : Nat} {h : AHeap}
variable {n : Nat} {h : AHeap}
def Own (B : Nat) (h : AHeap) (v : Value) (s m : Nat) : Prop := (∃ a c, v = .slice a 0 c ∧ m = 0) ∨ ∃ b cap cs gr, v = .slice (some ⟨b, 0, none⟩) m cap ∧ B ≤ b ∧ h.get b = some (.row cs true gr) ∧ m * s ≤ cs.length
theorem Own.le {B C s m : Nat} {v : Value} (ho : Own B h v s m) (hc : C ≤ B) : Own C h v s m := by
  rcases ho with e | ⟨b, cap, cs, gr, e, h1, h2⟩
  · exact .inl e
  · exact .inr ⟨b, cap, cs, gr, e, Nat.le_trans hc h1, h2⟩
theorem Own.old {B s m : Nat} {g : AHeap} {v : Value} (ho : Own B h v s m) (he : ∀ x k c, v = .slice (some x) k c → g.get x.block = h.get x.block) : Own B g v s m := by
  rcases ho with e | ⟨b, cap, cs, gr, rfl, h1, h2, h3⟩
  · exact .inl e
  · exact .inr ⟨b, cap, cs, gr, rfl, h1, by rw [he _ _ _ rfl]; exact h2, h3⟩
theorem Own.mono {B s m : Nat} {g : AHeap} {v : Value} (ho : Own B h v s m) (hs : Sub All h g) : Own B g v s m := by
  rcases ho with e | ⟨b, cap, cs, gr, rfl, h1, h2, h3⟩
  · exact .inl e
  · exact .inr ⟨b, cap, cs, gr, rfl, h1, hs _ _ _ _ trivial h2, h3⟩
def IntsO (B : Nat) (h : AHeap) (v : Value) (m : Nat) (a : Nat → Int) : Prop := Ints h v m a ∧ Own B h v 1 m
theorem IntsO.le {B C m : Nat} {v : Value} {a : Nat → Int} (hi : IntsO B h v m a) (hc : C ≤ B) : IntsO C h v m a := ⟨hi.1, hi.2.le hc⟩
variable {P : Program} {N : Nat} {f : Fr} {h : AHeap} {ty t u e : TypeId} {x y : Operand}
variable {n : Nat} {h : AHeap}
theorem Own.form {B s m : Nat} {v : Value} (ho : Own B h v s m) : ∃ a c, v = .slice a m c := by
  rcases ho with ⟨a, c, rfl, rfl⟩ | ⟨b, cap, cs, gr, rfl, _⟩
  · exact ⟨_, _, rfl⟩
  · exact ⟨_, _, rfl⟩
theorem Own.set {B s m b gr gr' : Nat} {g : AHeap} {v : Value} {cs cs' : List Value} (ho : Own B h v s m) (hg : h.get b = some (.row cs true gr)) (hl : cs'.length = cs.length) (hs : Set1 h g b cs' gr') : Own B g v s m := by
  rcases ho with e | ⟨b1, cap, cs1, gr1, rfl, h1, h2, h3⟩
  · exact .inl e
  · by_cases e : b1 = b
    · subst e
      rw [h2] at hg
      cases hg
      exact .inr ⟨_, cap, _, _, rfl, h1, hs.get, by omega⟩
    · exact .inr ⟨b1, cap, cs1, gr1, rfl, h1, by rw [hs.old _ e]; exact h2, h3⟩
variable {n : Nat} {h : AHeap}
variable {n : Nat} {h : AHeap}
theorem rd_1 {S : Nat → Prop} {f : Fr} {x : Operand} : readsIn S f (.load1 x) = ∀ ad, val f x = .pointer (some ad) → S ad.block := id rfl
theorem rd_N {S : Nat → Prop} {f : Fr} {x : Operand} {k : Nat} : readsIn S f (.loadN k x) = ∀ ad, val f x = .pointer (some ad) → S ad.block := id rfl
variable {n : Nat} {h : AHeap}
theorem cells_at {g : AHeap} {v : Value} {s n : Nat} {c : Nat → Nat → Value} (hc : Cells h v s n c) (hg : ∀ a k cap, v = .slice (some a) k cap → g.get a.block = h.get a.block) : Cells g v s n c := by
  obtain ⟨a, cap, e, hsp, h0 | ⟨b, o, cs, w, gr, e1, e2, e3⟩⟩ := hc
  · exact ⟨a, cap, e, hsp, .inl h0⟩
  · subst e1
    exact ⟨_, cap, e, hsp, .inr ⟨b, o, cs, w, gr, rfl, by rw [hg _ _ _ e]; exact e2, e3⟩⟩
/-- rows that lie from B on -/
def FreshRows (B : Nat) (h : AHeap) (v : Value) (n : Nat) (cnt : Nat) (L : List (Nat → Int)) : Prop :=
  n = L.length ∧ ∃ r : Nat → Value, Cells h v 1 n (fun k _ => r k) ∧ (∀ a k c, v = .slice (some a) k c → B ≤ a.block ∧ a.block < h.next) ∧ oneCell v = true ∧
    ∀ i, i < n → Ints h (r i) cnt (L.getD i fun _ => 0) ∧ oneCell (r i) = true ∧ ∀ a m c, r i = .slice (some a) m c → B ≤ a.block ∧ a.block < h.next
theorem GrowRows.fresh {B : Nat} {v : Value} {cnt : Nat} {L : List (Nat → Int)} (hg : GrowRows B h v L.length (fun _ => cnt) fun k => L.getD k fun _ => 0) : FreshRows B h v L.length cnt L := by
  obtain ⟨r, h1, h2⟩ := hg
  refine ⟨rfl, r, h1.cells, fun a k c e => h1.block e, h1.one, fun i hi => ⟨(h2 i hi).1, ?_, fun a m c e => ⟨((h2 i hi).2 a m c e).1, ((h2 i hi).2 a m c e).2.1⟩⟩⟩
  exact Cells.one (h2 i hi).1
variable {n : Nat} {h : AHeap}
variable {n : Nat} {h : AHeap}
variable {n : Nat} {h : AHeap}
variable {n : Nat} {h : AHeap}
variable {n : Nat} {h : AHeap}
variable {n : Nat} {h : AHeap}
variable {n : Nat} {h : AHeap}
end Go.Vm.Vat

namespace Go.Vm.St
open Go.Vm.Vat
set_option linter.unusedSimpArgs false
set_option linter.unusedVariables false
set_option maxRecDepth 10000
/-! ### A steep, as numbers; it lies in memory -/
structure MS where
  last : Int
  per : Int
  nw : Nat
  wlo : Nat → Int
  whi : Nat → Int
  splo : Int
  sphi : Int
  nv : Nat
  vb : Nat → Int
  vlo : Nat → Int
  vhi : Nat → Int
  vn : Nat → Int
  ns : Nat
  sv : Nat → Int
  sh : Nat → Int
  sk : Nat → Int
def vatC (S : MS) (k j : Nat) : Value := .int .i64 (if j = 0 then S.vb k else if j = 1 then S.vlo k else if j = 2 then S.vhi k else S.vn k)
structure SteepR (h : AHeap) (wv vv sv : Value) (S : MS) : Prop where
  w : Ranges h wv S.nw S.wlo S.whi
  v : Cells h vv 4 S.nv (vatC S)
  s : Samps h sv S.ns S.sv S.sh S.sk
theorem cells_congr {h : AHeap} {v : Value} {s n : Nat} {c c' : Nat → Nat → Value} (hc : Cells h v s n c) (he : ∀ k j, k < n → j < s → c k j = c' k j) : Cells h v s n c' := by
  obtain ⟨a, cap, rfl, hsp, h0 | ⟨b, o, cs, w, gr, rfl, h1, h2⟩⟩ := hc
  · exact ⟨a, cap, rfl, hsp, .inl h0⟩
  · exact ⟨_, cap, rfl, hsp, .inr ⟨b, o, cs, w, gr, rfl, h1, fun k j hk hj => by rw [h2 k j hk hj, he k j hk hj]⟩⟩
def stL (S : MS) (wv vv sv : Value) : List Value := [.int .i64 S.last, .int .i64 S.per, wv, .int .i64 S.splo, .int .i64 S.sphi, vv, sv]
def wkL (S : MS) (wv vv sv tv : Value) : List Value := [.int .i64 S.last, .int .i64 S.per, wv, .int .i64 S.splo, .int .i64 S.sphi, vv, sv, tv]
section
variable {h g : AHeap} {wv vv sv tv : Value} {S : MS}
theorem SteepR.mono (hy : SteepR h wv vv sv S) (hs : Sub All h g) : SteepR g wv vv sv S := ⟨Cells.mono hy.w hs, Cells.mono hy.v hs, Cells.mono hy.s hs⟩
theorem SteepR.shut (hy : SteepR h wv vv sv S) : SteepR h.shutAll wv vv sv S := hy.mono fun _ _ _ _ _ h => h
theorem one_int {k : IntKind} {x : Int} : oneCell (.int k x) = true := rfl
theorem eqC_int {x : Int} : eqCell (.int .i64 x) (.int .i64 x) = true := by simp [eqCell, sameK, eqI_eq]
theorem SteepR.one (hy : SteepR h wv vv sv S) : allB oneCell (stL S wv vv sv) = true := by
  simp [stL, allB, one_int, Cells.one hy.w, Cells.one hy.v, Cells.one hy.s]
theorem SteepR.self (hy : SteepR h wv vv sv S) : eqV (.agg ⟨stL S wv vv sv⟩) (.agg ⟨stL S wv vv sv⟩) = true := by
  simp [stL, eqV, eqCells, eqC_int, Cells.selfC hy.w, Cells.selfC hy.v, Cells.selfC hy.s]
theorem wk_one (hy : SteepR h wv vv sv S) (ht : oneCell tv = true) : allB oneCell (wkL S wv vv sv tv) = true := by
  simp [wkL, allB, one_int, Cells.one hy.w, Cells.one hy.v, Cells.one hy.s, ht]
theorem st_rng {g : AHeap} {p : Nat} (hr : Row g p (stL S wv vv sv)) : loadAgg 2 g (.pointer (some ⟨p, 3, none⟩)) = some (.agg ⟨[.int .i64 S.splo, .int .i64 S.sphi]⟩) := hr.ldN 3 2 (by simp [stL]) (by simp [stL])
theorem wk_rng {g : AHeap} {p : Nat} (hr : Row g p (wkL S wv vv sv tv)) : loadAgg 2 g (.pointer (some ⟨p, 3, none⟩)) = some (.agg ⟨[.int .i64 S.splo, .int .i64 S.sphi]⟩) := hr.ldN 3 2 (by simp [wkL]) (by simp [wkL])
theorem full_ld {k : Nat} (hy : SteepR h wv vv sv S) (hk : k < S.nv) : loadAgg 2 h (ptrO vv 4 k 1) = some (.agg ⟨[.int .i64 (S.vlo k), .int .i64 (S.vhi k)]⟩) := by
  rw [Cells.ldN hy.v hk (by omega) (by omega)]; simp [List.range_succ, vatC]
theorem vat_ld {k : Nat} (hy : SteepR h wv vv sv S) (hk : k < S.nv) : loadAgg 4 h (ptrO vv 4 k 0) = some (.agg ⟨[.int .i64 (S.vb k), .int .i64 (S.vlo k), .int .i64 (S.vhi k), .int .i64 (S.vn k)]⟩) := by
  rw [Cells.ldN hy.v hk (by omega) (by omega)]; simp [List.range_succ, vatC]
end
theorem stg {S : MS} {a b c : Value} : (stL S a b c)[0]? = some (.int .i64 S.last) ∧ (stL S a b c)[1]? = some (.int .i64 S.per) ∧ (stL S a b c)[2]? = some a ∧ (stL S a b c)[3]? = some (.int .i64 S.splo) ∧ (stL S a b c)[4]? = some (.int .i64 S.sphi) ∧ (stL S a b c)[5]? = some b ∧ (stL S a b c)[6]? = some c :=
  ⟨rfl, rfl, rfl, rfl, rfl, rfl, rfl⟩
theorem wkg {S : MS} {a b c d : Value} : (wkL S a b c d)[0]? = some (.int .i64 S.last) ∧ (wkL S a b c d)[1]? = some (.int .i64 S.per) ∧ (wkL S a b c d)[2]? = some a ∧ (wkL S a b c d)[3]? = some (.int .i64 S.splo) ∧ (wkL S a b c d)[4]? = some (.int .i64 S.sphi) ∧ (wkL S a b c d)[5]? = some b ∧ (wkL S a b c d)[6]? = some c ∧ (wkL S a b c d)[7]? = some d :=
  ⟨rfl, rfl, rfl, rfl, rfl, rfl, rfl, rfl⟩
theorem eqV_int {x : Int} : eqV (.int .i64 x) (.int .i64 x) = true := by simp [eqV, eqCell, sameK, eqI_eq]
theorem self_two {x y : Int} : eqV (.agg ⟨[.int .i64 x, .int .i64 y]⟩) (.agg ⟨[.int .i64 x, .int .i64 y]⟩) = true := by simp [eqV, eqCells, eqC_int]
/-! ### What is valid -/
def WarmOk (S : MS) : Prop := ∀ i, i < S.nw → 0 ≤ S.wlo i ∧ S.wlo i ≤ S.whi i ∧ S.whi i ≤ 9
def VatOk (S : MS) : Prop := ∀ i, i < S.nv → (0 ≤ S.vb i ∧ S.vb i ≤ S.last) ∧ (0 ≤ S.vlo i ∧ S.vlo i ≤ S.vhi i ∧ S.vhi i ≤ 99) ∧ 0 ≤ S.vn i ∧ S.vn i ≤ 99
def SmellOk (S : MS) : Prop := ∀ i, i < S.ns → (0 ≤ S.sv i ∧ S.sv i ≤ (S.nv : Int) - 1) ∧ (S.vb (S.sv i).toNat ≤ S.sh i ∧ S.sh i ≤ S.last) ∧ 0 ≤ S.sk i ∧ S.sk i ≤ 2
def HeadOk (S : MS) : Prop := 0 ≤ S.last ∧ (1 ≤ S.per ∧ S.per ≤ 9) ∧ (S.nw : Int) = S.last + 1 ∧ 0 ≤ S.splo ∧ S.splo ≤ S.sphi ∧ S.sphi ≤ 99
def LimOk (S : MS) : Prop := S.last ≤ 5 ∧ S.nv ≤ 4 ∧ S.ns ≤ 5
structure ArgsOk (S : MS) : Prop where
  head : HeadOk S
  warm : WarmOk S
  vat : VatOk S
  smell : SmellOk S
def capN (n0 : Int) (lo hi : Nat → Int) : Nat → Int
  | 0 => n0
  | i + 1 => min 3000 (capN n0 lo hi i * (hi i - lo i + 1))
def manyS (S : MS) : Int := capN (capN (S.sphi - S.splo + 1) S.wlo S.whi S.nw) S.vlo S.vhi S.nv
open Classical in
/-- the error of a steep -/
noncomputable def faultS (S : MS) : Int := if ¬ LimOk S then 3 else if ¬ ArgsOk S then 1 else if 2000 < manyS S then 3 else 0
/-- a steep that is as it should be -/
structure Good (S : MS) : Prop where
  lim : LimOk S
  args : ArgsOk S
  few : manyS S ≤ 2000
theorem good_of {S : MS} (hf : faultS S = 0) : Good S := by
  unfold faultS at hf
  by_cases h1 : LimOk S
  · rw [if_neg (by simpa using h1)] at hf
    by_cases h2 : ArgsOk S
    · rw [if_neg (by simpa using h2)] at hf
      by_cases h3 : 2000 < manyS S
      · rw [if_pos h3] at hf; omega
      · exact ⟨h1, h2, by omega⟩
    · rw [if_pos h2] at hf; omega
  · rw [if_pos h1] at hf; omega
theorem fault_of {S : MS} (hG : Good S) : faultS S = 0 := by
  unfold faultS
  have := hG.few
  rw [if_neg (by simpa using hG.lim), if_neg (by simpa using hG.args), if_neg (by omega)]
/-! ### The unknown numbers, in one row: how warm each hour is, what spoils, how full each vat is -/
def numU (S : MS) : Nat := S.nw + 1 + S.nv
def uLo (S : MS) (i : Nat) : Int := if i < S.nw then S.wlo i else if i = S.nw then S.splo else S.vlo (i - S.nw - 1)
def uHi (S : MS) (i : Nat) : Int := if i < S.nw then S.whi i else if i = S.nw then S.sphi else S.vhi (i - S.nw - 1)
theorem Good.sizes {S : MS} (hG : Good S) : 0 ≤ S.last ∧ S.last ≤ 5 ∧ (S.nw : Int) = S.last + 1 ∧ S.nw ≤ 6 ∧ S.nv ≤ 4 ∧ S.ns ≤ 5 ∧ 1 ≤ S.per ∧ S.per ≤ 9 ∧ 0 ≤ S.splo ∧ S.splo ≤ S.sphi ∧ S.sphi ≤ 99 := by
  obtain ⟨a1, a2, a3⟩ := hG.lim
  obtain ⟨b1, ⟨b2, b3⟩, b4, b5, b6, b7⟩ := hG.args.head
  omega
theorem Good.u {S : MS} (hG : Good S) : ∀ i, i < numU S → 0 ≤ uLo S i ∧ uLo S i ≤ uHi S i ∧ uHi S i ≤ 99 := fun i hi => by
  unfold numU at hi
  simp only [uLo, uHi]
  obtain ⟨_, _, _, _, _, _, _, _, b5, b6, b7⟩ := hG.sizes
  by_cases c1 : i < S.nw
  · rw [if_pos c1, if_pos c1]
    obtain ⟨h1, h2, h3⟩ := hG.args.warm i c1
    omega
  · rw [if_neg c1, if_neg c1]
    by_cases c2 : i = S.nw
    · rw [if_pos c2, if_pos c2]; omega
    · rw [if_neg c2, if_neg c2]
      exact (hG.args.vat (i - S.nw - 1) (by omega)).2.1
/-! ### How many there are -/
theorem sizeN_congr {lo hi lo' hi' : Nat → Int} : ∀ m, (∀ k, k < m → lo k = lo' k ∧ hi k = hi' k) → sizeN lo hi m = sizeN lo' hi' m
  | 0, _ => rfl
  | m + 1, h => by
    obtain ⟨h1, h2⟩ := h m (by omega)
    simp only [sizeN, sizeN_congr m fun k hk => h k (by omega), h1, h2]
theorem sizeN_split {lo hi : Nat → Int} (a : Nat) : ∀ b, sizeN lo hi (a + b) = sizeN lo hi a * sizeN (fun k => lo (a + k)) (fun k => hi (a + k)) b
  | 0 => by simp [sizeN]
  | b + 1 => by
    rw [show a + (b + 1) = a + b + 1 by omega]
    simp only [sizeN, sizeN_split a b, Int.mul_assoc]
theorem sizeN_pos {lo hi : Nat → Int} : ∀ m, (∀ k, k < m → lo k ≤ hi k) → 1 ≤ sizeN lo hi m
  | 0, _ => Int.le_refl _
  | m + 1, h => by
    have h1 := sizeN_pos m fun k hk => h k (by omega)
    have h2 := h m (by omega)
    have := Int.mul_le_mul h1 (show (1 : Int) ≤ hi m - lo m + 1 by omega) (by omega) (by omega)
    simpa [sizeN] using this
theorem sizeN_le {lo hi : Nat → Int} {B : Int} (hB : 1 ≤ B) : ∀ m, (∀ k, k < m → lo k ≤ hi k ∧ hi k - lo k + 1 ≤ B) → sizeN lo hi m ≤ B ^ m
  | 0, _ => by simp [sizeN]
  | m + 1, h => by
    have h1 := sizeN_le hB m fun k hk => h k (by omega)
    obtain ⟨h2, h3⟩ := h m (by omega)
    rw [Int.pow_succ]
    exact Int.mul_le_mul h1 h3 (by omega) (Int.le_trans (by omega) (sizeN_pos m fun k hk => (h k (by omega)).1 |> fun x => x) |> fun x => Int.le_trans x h1)
theorem capN_min {n0 : Int} {lo hi : Nat → Int} (h0 : 1 ≤ n0) (h1 : n0 ≤ 3000) : ∀ m, (∀ k, k < m → lo k ≤ hi k) → capN n0 lo hi m = min 3000 (n0 * sizeN lo hi m)
  | 0, _ => by simp only [capN, sizeN, Int.mul_one]; omega
  | m + 1, h => by
    have ih := capN_min h0 h1 m fun k hk => h k (by omega)
    have hm := h m (by omega)
    have hp := sizeN_pos m fun k hk => h k (by omega)
    have hq : 1 ≤ n0 * sizeN lo hi m := by have := Int.mul_le_mul h0 hp (by omega) (by omega); simpa using this
    simp only [capN, sizeN, ih]
    rw [← Int.mul_assoc]
    generalize n0 * sizeN lo hi m = x at hq
    generalize hy : hi m - lo m + 1 = y
    have hy1 : 1 ≤ y := by omega
    by_cases c : x ≤ 3000
    · rw [Int.min_eq_right c]
    · have e1 : min (3000 : Int) x = 3000 := by omega
      rw [e1]
      have h3 : 3000 * 1 ≤ 3000 * y := Int.mul_le_mul_of_nonneg_left hy1 (by omega)
      have h4 : x * 1 ≤ x * y := Int.mul_le_mul_of_nonneg_left hy1 (by omega)
      omega
theorem sizeU {S : MS} : sizeN (uLo S) (uHi S) (numU S) = sizeN S.wlo S.whi S.nw * ((S.sphi - S.splo + 1) * sizeN S.vlo S.vhi S.nv) := by
  unfold numU
  rw [Nat.add_assoc, sizeN_split S.nw (1 + S.nv), sizeN_split 1 S.nv]
  have e1 : sizeN (uLo S) (uHi S) S.nw = sizeN S.wlo S.whi S.nw := sizeN_congr _ fun k hk => by simp [uLo, uHi, hk]
  have e2 : sizeN (fun k => uLo S (S.nw + k)) (fun k => uHi S (S.nw + k)) 1 = S.sphi - S.splo + 1 := by simp [sizeN, uLo, uHi]
  have e3 : sizeN (fun k => uLo S (S.nw + (1 + k))) (fun k => uHi S (S.nw + (1 + k))) S.nv = sizeN S.vlo S.vhi S.nv := sizeN_congr _ fun k hk => by
    have c1 : ¬ S.nw + (1 + k) < S.nw := by omega
    have c2 : ¬ S.nw + (1 + k) = S.nw := by omega
    have c3 : S.nw + (1 + k) - S.nw - 1 = k := by omega
    simp only [uLo, uHi, c1, c2, c3, if_false, and_self]
  rw [e1, e2, e3]
/-- .. as the one counts and as the other does -/
theorem many_size {S : MS} (hA : ArgsOk S) : manyS S = min 3000 (sizeN (uLo S) (uHi S) (numU S)) := by
  obtain ⟨b1, _, _, b5, b6, b7⟩ := hA.head
  have hw : ∀ k, k < S.nw → S.wlo k ≤ S.whi k := fun k hk => (hA.warm k hk).2.1
  have hv : ∀ k, k < S.nv → S.vlo k ≤ S.vhi k := fun k hk => (hA.vat k hk).2.1.2.1
  have p1 := sizeN_pos S.nw hw
  have p2 := sizeN_pos S.nv hv
  have hs : 1 ≤ S.sphi - S.splo + 1 := by omega
  unfold manyS
  rw [capN_min (n0 := S.sphi - S.splo + 1) (by omega) (by omega) S.nw hw]
  have hx : 1 ≤ (S.sphi - S.splo + 1) * sizeN S.wlo S.whi S.nw := by have := Int.mul_le_mul hs p1 (by omega) (by omega); simpa using this
  rw [capN_min (by omega) (by omega) S.nv hv, sizeU]
  have e : sizeN S.wlo S.whi S.nw * ((S.sphi - S.splo + 1) * sizeN S.vlo S.vhi S.nv) = (S.sphi - S.splo + 1) * sizeN S.wlo S.whi S.nw * sizeN S.vlo S.vhi S.nv := by
    rw [← Int.mul_assoc, Int.mul_comm (sizeN S.wlo S.whi S.nw)]
  rw [e]
  generalize (S.sphi - S.splo + 1) * sizeN S.wlo S.whi S.nw = x at hx
  generalize sizeN S.vlo S.vhi S.nv = y at p2
  by_cases c : x ≤ 3000
  · rw [Int.min_eq_right c]
  · have e1 : min (3000 : Int) x = 3000 := by omega
    rw [e1]
    have h3 : 3000 * 1 ≤ 3000 * y := Int.mul_le_mul_of_nonneg_left p2 (by omega)
    have h4 : x * 1 ≤ x * y := Int.mul_le_mul_of_nonneg_left p2 (by omega)
    omega
/-! ### What is so in a truth -/
def sumR (u : Nat → Int) (b : Nat) : Nat → Int
  | 0 => 0
  | m + 1 => sumR u b m + u (b + m)
def warmS (S : MS) (u : Nat → Int) (v : Nat) (h : Int) : Int := sumR u (S.vb v).toNat (h - S.vb v + 1).toNat
def blueS (S : MS) (u : Nat → Int) (v : Nat) (h : Int) : Int := min (S.per * warmS S u v h) (u (S.nw + 1 + v))
def kindS (S : MS) (u : Nat → Int) (v : Nat) (h : Int) : Int := if u S.nw < warmS S u v h then 2 else if blueS S u v h < S.vn v then 0 else 1
def RightS (S : MS) (u : Nat → Int) (k : Nat) : Prop := kindS S u (S.sv k).toNat (S.sh k) = S.sk k
noncomputable instance (S : MS) (u : Nat → Int) (k : Nat) : Decidable (RightS S u k) := Classical.propDecidable _
/-- numbers of the ranges -/
def InU (S : MS) (u : Nat → Int) : Prop := ∀ i, i < numU S → uLo S i ≤ u i ∧ u i ≤ uHi S i
theorem sumR_bound {u : Nat → Int} {b : Nat} {B : Int} (hB : 0 ≤ B) : ∀ m, (∀ k, k < m → 0 ≤ u (b + k) ∧ u (b + k) ≤ B) → 0 ≤ sumR u b m ∧ sumR u b m ≤ B * m
  | 0, _ => by simp [sumR]
  | m + 1, h => by
    obtain ⟨h1, h2⟩ := sumR_bound hB m fun k hk => h k (by omega)
    obtain ⟨h3, h4⟩ := h m (by omega)
    simp only [sumR]
    rw [Int.natCast_add, Int.mul_add]
    constructor <;> omega
theorem InU.warm {S : MS} {u : Nat → Int} (hG : Good S) (hu : InU S u) {i : Nat} (hi : i < S.nw) : 0 ≤ u i ∧ u i ≤ 9 := by
  obtain ⟨h1, h2⟩ := hu i (by unfold numU; omega)
  simp only [uLo, uHi, hi, if_true] at h1 h2
  obtain ⟨h3, h4, h5⟩ := hG.args.warm i hi
  omega
theorem InU.full {S : MS} {u : Nat → Int} (hG : Good S) (hu : InU S u) {v : Nat} (hv : v < S.nv) : 0 ≤ u (S.nw + 1 + v) ∧ u (S.nw + 1 + v) ≤ 99 := by
  obtain ⟨h1, h2⟩ := hu (S.nw + 1 + v) (by unfold numU; omega)
  obtain ⟨h3, h4, h5⟩ := hG.u (S.nw + 1 + v) (by unfold numU; omega)
  omega
/-- the hours of a vat -/
structure HourOk (S : MS) (v : Nat) (h : Int) : Prop where
  isV : v < S.nv
  isLo : S.vb v ≤ h
  isHi : h ≤ S.last
theorem HourOk.nat {S : MS} (hG : Good S) {v : Nat} {h : Int} (hh : HourOk S v h) : 0 ≤ S.vb v ∧ S.vb v ≤ h ∧ h ≤ S.last ∧ ((S.vb v).toNat : Int) = S.vb v ∧ (S.vb v).toNat + (h - S.vb v + 1).toNat ≤ S.nw ∧ ((h - S.vb v + 1).toNat : Int) = h - S.vb v + 1 := by
  obtain ⟨h1, h2, h3⟩ := hh
  obtain ⟨⟨h4, h5⟩, _⟩ := hG.args.vat v h1
  obtain ⟨_, _, h6, _⟩ := hG.sizes
  omega
theorem warm_bound {S : MS} {u : Nat → Int} (hG : Good S) (hu : InU S u) {v : Nat} {h : Int} (hh : HourOk S v h) : 0 ≤ warmS S u v h ∧ warmS S u v h ≤ 54 := by
  obtain ⟨h1, h2, h3, h4, h5, h6⟩ := hh.nat hG
  obtain ⟨_, _, _, h7, _⟩ := hG.sizes
  obtain ⟨h8, h9⟩ := sumR_bound (u := u) (b := (S.vb v).toNat) (B := 9) (by omega) (h - S.vb v + 1).toNat fun k hk => hu.warm hG (by omega)
  unfold warmS
  omega
theorem blue_bound {S : MS} {u : Nat → Int} (hG : Good S) (hu : InU S u) {v : Nat} {h : Int} (hh : HourOk S v h) : 0 ≤ blueS S u v h ∧ blueS S u v h ≤ 99 ∧ 0 ≤ S.per * warmS S u v h ∧ S.per * warmS S u v h ≤ 486 := by
  obtain ⟨h1, h2⟩ := warm_bound hG hu hh
  obtain ⟨_, _, _, _, _, _, h3, h4, _⟩ := hG.sizes
  obtain ⟨h5, h6⟩ := hu.full hG hh.isV
  have h7 : 0 ≤ S.per * warmS S u v h := Int.mul_nonneg (by omega) h1
  have h8 : S.per * warmS S u v h ≤ 9 * 54 := Int.mul_le_mul h4 h2 h1 (by omega)
  unfold blueS
  omega
end Go.Vm.St

namespace Go.Vm.St
open Go.Proofs Go.Vm.Vat
set_option linter.unusedSimpArgs false
set_option linter.unusedVariables false
set_option maxRecDepth 10000
/-! Layer 2: the reference's functions. 'A': those that yield plain values and write nothing of what lay there; 'K': those that are known once and for all. -/
noncomputable def A (f : Nat) : Bool := inL [42, 86, 111, 100, 82, 64, 32, 87, 33, 34, 85, 72, 31, 98, 39, 92, 43, 48, 69, 50, 56, 101, 73, 54, 23, 29, 37, 46, 38, 59, 62, 66, 61, 67, 70, 114, 119, 122, 107, 113, 116, 118, 83, 112, 115, 117, 102, 120, 84, 30, 104, 105, 106, 76, 78, 123, 109, 129, 81, 110, 80, 28, 41, 40, 47, 49, 51, 44, 90, 93, 95, 133, 126, 125, 121, 75] f
def K (f : Nat) : Option Value := if f = 24 then some (.bool true) else none
noncomputable abbrev call (n : Nat) : CallF := pcall Try.prog A K n
variable {n : Nat} {h : AHeap}
theorem awake_c (hn : 1 ≤ n) : call n (.func (.func 24) #[] #[]) [] h = some (.bool true, h) := by
  obtain ⟨n, rfl⟩ : ∃ p, n = p + 1 := ⟨n - 1, by omega⟩
  exact call_known (by simp [K])
def s42 : SCode := (.seq (.ops [⟨(some 6), none, .mov (.const (.bool false))⟩]) (.seq (.ops [⟨(some 7), none, .mov (T 0)⟩, ⟨(some 8), none, .mov (T 1)⟩, ⟨(some 9), none, .int2 .geq (T 7) (T 8)⟩, ⟨(some 10), none, .mov (T 9)⟩, ⟨(some 11), (some (10, true)), .mov (T 0)⟩, ⟨(some 12), (some (10, true)), .mov (T 2)⟩, ⟨(some 13), (some (10, true)), .int2 .leq (T 11) (T 12)⟩, ⟨(some 14), none, .pick (T 10) (T 13) (.const (.bool false))⟩, ⟨(some 6), none, .mov (T 14)⟩]) .ret))
theorem fok42 : FnOk Try.prog 42 15 s42 [.tmp 6] := ⟨Try.f42, _, Try.func42, rfl, Try.ntmps42, by kernel_rfl, by kernel_rfl⟩
theorem in_c (hn : 1 ≤ n) (a lo hi : Int) : call n (.func (.func 42) #[] #[]) [.int .i64 a, .int .i64 lo, .int .i64 hi] h = some (.bool (decide (lo ≤ a ∧ a ≤ hi)), h) := by
  obtain ⟨n, rfl⟩ : ∃ p, n = p + 1 := ⟨n - 1, by omega⟩
  refine call_plain0 fok42 rfl rfl (by simp) rfl ?_
  by_cases h1 : lo ≤ a <;> by_cases h2 : a ≤ hi <;> simp only [rn0, rn1, rn2, rn3, rn4, rn5, rn6, rn7, rn8, if_true, if_false, Nat.le_refl, true_and, and_true, decide_true, decide_false, Bool.not_true, Bool.not_false, reduceIte, Nat.reduceEqDiff, Nat.reduceAdd, Nat.reduceMul, Nat.reduceSub, Nat.reduceLeDiff, Nat.reduceLT, s42, h1, h2, and_self, and_false, false_and]
def s111 : SCode := (.seq (.ops [⟨(some 2), none, .box (T 0)⟩, ⟨(some 4), none, .mov (.const (.bool false))⟩]) (.seq (.ops [⟨(some 5), none, .fieldAddr 0 (T 2)⟩, ⟨(some 6), none, .load1 (T 5)⟩, ⟨(some 7), none, .int2 .geq (T 6) (.const (.int .i64 (0)))⟩, ⟨(some 8), none, .mov (T 7)⟩, ⟨(some 9), (some (8, true)), .fieldAddr 0 (T 2)⟩, ⟨(some 10), (some (8, true)), .load1 (T 9)⟩, ⟨(some 11), (some (8, true)), .fieldAddr 1 (T 2)⟩, ⟨(some 12), (some (8, true)), .load1 (T 11)⟩, ⟨(some 13), (some (8, true)), .int2 .leq (T 10) (T 12)⟩, ⟨(some 14), none, .pick (T 8) (T 13) (.const (.bool false))⟩, ⟨(some 15), none, .mov (T 14)⟩, ⟨(some 16), (some (15, true)), .fieldAddr 1 (T 2)⟩, ⟨(some 17), (some (15, true)), .load1 (T 16)⟩, ⟨(some 18), (some (15, true)), .mov (T 1)⟩, ⟨(some 19), (some (15, true)), .int2 .leq (T 17) (T 18)⟩, ⟨(some 20), none, .pick (T 15) (T 19) (.const (.bool false))⟩, ⟨(some 4), none, .mov (T 20)⟩]) .ret))
theorem fok111 : FnOk Try.prog 111 21 s111 [.tmp 4] := ⟨Try.f111, _, Try.func111, rfl, Try.ntmps111, by kernel_rfl, by kernel_rfl⟩
theorem inside_c (hn : 1 ≤ n) (hr : h.next < far) (lo hi m : Int) : call n (.func (.func 111) #[] #[]) [.agg ⟨[.int .i64 lo, .int .i64 hi]⟩, .int .i64 m] h = some (.bool (decide (0 ≤ lo ∧ lo ≤ hi ∧ hi ≤ m)), h) := by
  obtain ⟨n, rfl⟩ : ∃ p, n = p + 1 := ⟨n - 1, by omega⟩
  refine call_plain0 fok111 rfl rfl (by simp) rfl ?_
  simp only [s111, W_seq, W_ops]
  refine ops_box (cs := [.int .i64 lo, .int .i64 hi]) (by exact hr) rfl rfl fun h1 hb => ?_
  by_cases c1 : 0 ≤ lo <;> by_cases c2 : lo ≤ hi <;> by_cases c3 : hi ≤ m <;> simp only [rn0, rn1, rn2, rn3, rn4, rn5, rn6, rn7, rn8, if_true, if_false, Nat.le_refl, true_and, and_true, decide_true, decide_false, Bool.not_true, Bool.not_false, reduceIte, Nat.reduceEqDiff, Nat.reduceAdd, Nat.reduceMul, Nat.reduceSub, Nat.reduceLeDiff, Nat.reduceLT, hb.ld, Nat.zero_add, List.getElem?_cons_zero, List.getElem?_cons_succ, c1, c2, c3, and_self, and_false, false_and]
def s100 : SCode := (.seq (.ops [⟨(some 1), none, .box (T 0)⟩, ⟨(some 2), none, .mov (.const (.int .i64 (0)))⟩]) (.seq (.ops [⟨(some 3), none, .fieldAddr 1 (T 1)⟩, ⟨(some 4), none, .load1 (T 3)⟩, ⟨(some 5), none, .fieldAddr 0 (T 1)⟩, ⟨(some 6), none, .load1 (T 5)⟩, ⟨(some 7), none, .int2 .sub (T 4) (T 6)⟩, ⟨(some 8), none, .int2 .add (T 7) (.const (.int .i64 (1)))⟩, ⟨(some 2), none, .mov (T 8)⟩]) .ret))
theorem fok100 : FnOk Try.prog 100 9 s100 [.tmp 2] := ⟨Try.f100, _, Try.func100, rfl, Try.ntmps100, by kernel_rfl, by kernel_rfl⟩
theorem size_c (hn : 1 ≤ n) (hr : h.next < far) (lo hi : Int) : call n (.func (.func 100) #[] #[]) [.agg ⟨[.int .i64 lo, .int .i64 hi]⟩] h = some (.int .i64 (wrapF .i64 (wrapF .i64 (hi - lo) + 1)), h) := by
  obtain ⟨n, rfl⟩ : ∃ p, n = p + 1 := ⟨n - 1, by omega⟩
  refine call_plain0 fok100 rfl rfl (by simp) rfl ?_
  simp only [s100, W_seq, W_ops]
  refine ops_box (cs := [.int .i64 lo, .int .i64 hi]) (by exact hr) rfl rfl fun h1 hb => ?_
  simp only [rn0, rn1, rn2, rn3, rn4, rn5, rn6, rn7, rn8, if_true, if_false, Nat.le_refl, true_and, and_true, decide_true, decide_false, Bool.not_true, Bool.not_false, reduceIte, Nat.reduceEqDiff, Nat.reduceAdd, Nat.reduceMul, Nat.reduceSub, Nat.reduceLeDiff, Nat.reduceLT, hb.ld, Nat.zero_add, List.getElem?_cons_zero, List.getElem?_cons_succ]
theorem size_ok (hn : 1 ≤ n) (hr : h.next < far) {lo hi : Int} (h0 : 0 ≤ lo) (h1 : lo ≤ hi) (h2 : hi ≤ 99) : call n (.func (.func 100) #[] #[]) [.agg ⟨[.int .i64 lo, .int .i64 hi]⟩] h = some (.int .i64 (hi - lo + 1), h) := by
  rw [size_c hn hr, wrap_in (z := hi - lo) (by omega) (by omega), wrap_in (by omega) (by omega)]
theorem u3 : ∃ d, Try.prog.underlying 3 = some d := ⟨_, by rfl⟩
/-! ### Truths, as the reference has them -/
/-- three values: lists of so many numbers, a number -/
structure TrR (h : AHeap) (tw tf : Value) (m1 : Nat) (a1 : Nat → Int) (m2 : Nat) (a2 : Nat → Int) : Prop where
  w : Ints h tw m1 a1
  f : Ints h tf m2 a2
def trL (tw tf : Value) (sp : Int) : List Value := [tw, .int .i64 sp, tf]
theorem trg {a b : Value} {x : Int} : (trL a b x)[0]? = some a ∧ (trL a b x)[1]? = some (.int .i64 x) ∧ (trL a b x)[2]? = some b := ⟨rfl, rfl, rfl⟩
section
variable {g : AHeap} {tw tf : Value} {m1 m2 : Nat} {a1 a2 : Nat → Int} {sp : Int}
theorem TrR.mono (ht : TrR h tw tf m1 a1 m2 a2) (hs : Sub All h g) : TrR g tw tf m1 a1 m2 a2 := ⟨Cells.mono ht.w hs, Cells.mono ht.f hs⟩
theorem TrR.shut (ht : TrR h tw tf m1 a1 m2 a2) : TrR h.shutAll tw tf m1 a1 m2 a2 := ht.mono fun _ _ _ _ _ h => h
theorem TrR.one (ht : TrR h tw tf m1 a1 m2 a2) : allB oneCell (trL tw tf sp) = true := by
  simp [trL, allB, one_int, Cells.one ht.w, Cells.one ht.f]
theorem TrR.self (ht : TrR h tw tf m1 a1 m2 a2) : eqV (.agg ⟨trL tw tf sp⟩) (.agg ⟨trL tw tf sp⟩) = true := by
  simp [trL, eqV, eqCells, eqC_int, Cells.selfC ht.w, Cells.selfC ht.f]
end
/-- a truth of a steep -/
abbrev TruR (h : AHeap) (tw tf : Value) (S : MS) (u : Nat → Int) : Prop := TrR h tw tf S.nw u S.nv fun v => u (S.nw + 1 + v)
end Go.Vm.St

namespace Go.Vm.St
open Go.Proofs Go.Vm.Vat
set_option linter.unusedSimpArgs false
set_option linter.unusedVariables false
set_option maxRecDepth 10000
variable {n : Nat} {h : AHeap}
theorem need_ld {wv vv sv : Value} {S : MS} {k : Nat} (hy : SteepR h wv vv sv S) (hk : k < S.nv) : loadCell h (ptrO vv 4 k 3) = some (.int .i64 (S.vn k)) := Cells.ld hy.v hk (by omega)
theorem begin_ld {wv vv sv : Value} {S : MS} {k : Nat} (hy : SteepR h wv vv sv S) (hk : k < S.nv) : loadCell h (ptrO vv 4 k 0) = some (.int .i64 (S.vb k)) := Cells.ld hy.v hk (by omega)
theorem Good.hour {S : MS} (hG : Good S) {k : Nat} (hk : k < S.ns) : HourOk S (S.sv k).toNat (S.sh k) ∧ ((S.sv k).toNat : Int) = S.sv k := by
  obtain ⟨⟨h1, h2⟩, ⟨h3, h4⟩, _⟩ := hG.args.smell k hk
  exact ⟨⟨by omega, h3, h4⟩, by omega⟩
/-- numbers of a truth's lists, as the ranges say -/
def Listed (S : MS) (m1 : Nat) (a1 : Nat → Int) (sp : Int) (m2 : Nat) (a2 : Nat → Int) : Prop :=
  (S.splo ≤ sp ∧ sp ≤ S.sphi) ∧ m1 = S.nw ∧ m2 = S.nv ∧ (∀ i, i < m1 → S.wlo i ≤ a1 i ∧ a1 i ≤ S.whi i) ∧ ∀ i, i < m2 → S.vlo i ≤ a2 i ∧ a2 i ≤ S.vhi i
noncomputable instance (S : MS) (m1 : Nat) (a1 : Nat → Int) (sp : Int) (m2 : Nat) (a2 : Nat → Int) : Decidable (Listed S m1 a1 sp m2 a2) := Classical.propDecidable _
end Go.Vm.St

namespace Go.Vm.St
open Go.Proofs Go.Vm.Vat
set_option linter.unusedSimpArgs false
set_option linter.unusedVariables false
set_option maxRecDepth 10000
variable {n : Nat} {h : AHeap}
/-- lists and a number, as one row of unknown numbers -/
def asU (S : MS) (a1 : Nat → Int) (sp : Int) (a2 : Nat → Int) (i : Nat) : Int := if i < S.nw then a1 i else if i = S.nw then sp else if i < numU S then a2 (i - S.nw - 1) else 0
theorem asU_w {S : MS} {a1 a2 : Nat → Int} {sp : Int} {i : Nat} (hi : i < S.nw) : asU S a1 sp a2 i = a1 i := by simp [asU, hi]
theorem asU_s {S : MS} {a1 a2 : Nat → Int} {sp : Int} : asU S a1 sp a2 S.nw = sp := by simp [asU]
theorem asU_f {S : MS} {a1 a2 : Nat → Int} {sp : Int} {v : Nat} (hv : v < S.nv) : asU S a1 sp a2 (S.nw + 1 + v) = a2 v := by
  have c1 : ¬ S.nw + 1 + v < S.nw := by omega
  have c2 : ¬ S.nw + 1 + v = S.nw := by omega
  have c3 : S.nw + 1 + v < numU S := by unfold numU; omega
  have c4 : S.nw + 1 + v - S.nw - 1 = v := by omega
  simp only [asU, c1, c2, c3, c4, if_false, if_true]
theorem Listed.inU {S : MS} {m1 m2 : Nat} {a1 a2 : Nat → Int} {sp : Int} (hl : Listed S m1 a1 sp m2 a2) : InU S (asU S a1 sp a2) := fun i hi => by
  obtain ⟨h1, h2, h3, h4, h5⟩ := hl
  have h0 : numU S = S.nw + 1 + S.nv := rfl
  simp only [uLo, uHi, asU]
  by_cases c1 : i < S.nw
  · simp only [c1, if_true]; exact h4 i (by omega)
  · by_cases c2 : i = S.nw
    · simp only [c2, Nat.lt_irrefl, if_false, if_true]; exact h1
    · simp only [c1, c2, hi, if_false, if_true]; exact h5 (i - S.nw - 1) (by omega)
/-- a truth in lists -/
def TruthL (S : MS) (m1 : Nat) (a1 : Nat → Int) (sp : Int) (m2 : Nat) (a2 : Nat → Int) : Prop := Listed S m1 a1 sp m2 a2 ∧ ∀ k, k < S.ns → RightS S (asU S a1 sp a2) k
noncomputable instance (S : MS) (m1 : Nat) (a1 : Nat → Int) (sp : Int) (m2 : Nat) (a2 : Nat → Int) : Decidable (TruthL S m1 a1 sp m2 a2) := Classical.propDecidable _
theorem capN_bound {n0 : Int} {lo hi : Nat → Int} (h0 : 1 ≤ n0) (h1 : n0 ≤ 3000) (m : Nat) (hm : ∀ k, k < m → lo k ≤ hi k) : 1 ≤ capN n0 lo hi m ∧ capN n0 lo hi m ≤ 3000 := by
  rw [capN_min h0 h1 m hm]
  have := sizeN_pos m hm
  have hq : 1 ≤ n0 * sizeN lo hi m := by have := Int.mul_le_mul h0 this (by omega) (by omega); simpa using this
  omega
def s64 : SCode := (.seq (.ops [⟨(some 1), none, .box (T 0)⟩, ⟨(some 2), none, .mov (.const (.int .i64 (0)))⟩]) (.seq (.ops [⟨(some 6), none, .fieldAddr 3 (T 1)⟩, ⟨(some 7), none, .loadN 2 (T 6)⟩, ⟨(some 8), none, .call (.func 100) [(T 7)]⟩, ⟨(some 3), none, .mov (T 8)⟩]) (.seq (.seq (.ops [⟨(some 4), none, .mov (.const (.int .i64 (0)))⟩]) (.block 0 (.loop (.seq (.seq (.ops [⟨(some 9), none, .mov (T 4)⟩, ⟨(some 10), none, .fieldAddr 2 (T 1)⟩, ⟨(some 11), none, .load1 (T 10)⟩, ⟨(some 12), none, .len (T 11)⟩, ⟨(some 13), none, .int2 .lss (T 9) (T 12)⟩]) (.cond (T 13) .skip (.exit 0))) (.seq (.block 1 (.ops [⟨(some 16), none, .mov (T 3)⟩, ⟨(some 17), none, .fieldAddr 2 (T 1)⟩, ⟨(some 18), none, .load1 (T 17)⟩, ⟨(some 19), none, .mov (T 4)⟩, ⟨(some 20), none, .idxSl 2 (T 18) (T 19)⟩, ⟨(some 21), none, .loadN 2 (T 20)⟩, ⟨(some 22), none, .call (.func 100) [(T 21)]⟩, ⟨(some 23), none, .int2 .mul (T 16) (T 22)⟩, ⟨(some 24), none, .plain (.call { callee := .builtin .min, args := #[(.const (.int .i64 (3000))), (T 23)], argTypes := #[3, 3] }) 3⟩, ⟨(some 3), none, .mov (T 24)⟩])) (.ops [⟨(some 14), none, .mov (T 4)⟩, ⟨(some 15), none, .int2 .add (T 14) (.const (.int .i64 (1)))⟩, ⟨(some 4), none, .mov (T 15)⟩])))))) (.seq (.seq (.ops [⟨(some 5), none, .mov (.const (.int .i64 (0)))⟩]) (.block 2 (.loop (.seq (.seq (.ops [⟨(some 25), none, .mov (T 5)⟩, ⟨(some 26), none, .fieldAddr 5 (T 1)⟩, ⟨(some 27), none, .load1 (T 26)⟩, ⟨(some 28), none, .len (T 27)⟩, ⟨(some 29), none, .int2 .lss (T 25) (T 28)⟩]) (.cond (T 29) .skip (.exit 2))) (.seq (.block 3 (.ops [⟨(some 32), none, .mov (T 3)⟩, ⟨(some 33), none, .fieldAddr 5 (T 1)⟩, ⟨(some 34), none, .load1 (T 33)⟩, ⟨(some 35), none, .mov (T 5)⟩, ⟨(some 36), none, .idxSl 4 (T 34) (T 35)⟩, ⟨(some 37), none, .fieldAddr 1 (T 36)⟩, ⟨(some 38), none, .loadN 2 (T 37)⟩, ⟨(some 39), none, .call (.func 100) [(T 38)]⟩, ⟨(some 40), none, .int2 .mul (T 32) (T 39)⟩, ⟨(some 41), none, .plain (.call { callee := .builtin .min, args := #[(.const (.int .i64 (3000))), (T 40)], argTypes := #[3, 3] }) 3⟩, ⟨(some 3), none, .mov (T 41)⟩])) (.ops [⟨(some 30), none, .mov (T 5)⟩, ⟨(some 31), none, .int2 .add (T 30) (.const (.int .i64 (1)))⟩, ⟨(some 5), none, .mov (T 31)⟩])))))) (.seq (.ops [⟨(some 42), none, .mov (T 3)⟩, ⟨(some 2), none, .mov (T 42)⟩]) .ret)))))
theorem fok64 : FnOk Try.prog 64 43 s64 [.tmp 2] := ⟨Try.f64, _, Try.func64, rfl, Try.ntmps64, by kernel_rfl, by kernel_rfl⟩
theorem many_c (hn : 110 ≤ n) (hr : h.next + 10 < far) {wv vv sv : Value} {S : MS} (hy : SteepR h wv vv sv S) (hA : ArgsOk S) (hl : S.nw ≤ 30 ∧ S.nv ≤ 30) :
    call n (.func (.func 64) #[] #[]) [.agg ⟨stL S wv vv sv⟩] h = some (.int .i64 (manyS S), h) := by
  obtain ⟨n, rfl⟩ : ∃ p, n = p + 1 := ⟨n - 1, by omega⟩
  refine call_plain0 fok64 rfl rfl (by simp) rfl ?_
  have hy := hy.shut
  have hr : h.shutAll.next + 10 < far := hr
  generalize h.shutAll = h at hy hr
  obtain ⟨b1, _, _, b5, b6, b7⟩ := hA.head
  simp only [s64, W_seq, W_ops]
  refine ops_box (cs := stL S wv vv sv) (by omega) rfl hy.one fun h1 hx1 => ?_
  have n1 := hx1.next
  have r1 := hx1.row
  have hy := hy.mono hx1.sub
  have es := size_ok (n := n) (h := h1) (by omega) (by omega) b5 b6 b7
  have hw0 : ∀ k, k < S.nw → S.wlo k ≤ S.whi k := fun k hk => (hA.warm k hk).2.1
  have hv0 : ∀ k, k < S.nv → S.vlo k ≤ S.vhi k := fun k hk => (hA.vat k hk).2.1.2.1
  simp only [rn0, rn1, rn2, rn3, rn4, rn5, rn6, rn7, rn8, if_true, if_false, Nat.le_refl, true_and, and_true, decide_true, decide_false, Bool.not_true, Bool.not_false, reduceIte, Nat.reduceEqDiff, Nat.reduceAdd, Nat.reduceMul, Nat.reduceSub, Nat.reduceLeDiff, Nat.reduceLT, st_rng r1, es]
  refine W_loop S.nw (fun k f g ms => g = h1 ∧ ms = [] ∧ f 1 = .pointer (some ⟨h.next, 0, none⟩) ∧ f 3 = .int .i64 (capN (S.sphi - S.splo + 1) S.wlo S.whi k) ∧ f 4 = .int .i64 (k : Int)) (by simp; omega) ?_ ?_ ?_
  · simp only [rn0, rn1, rn2, rn3, rn4, rn5, rn6, rn7, rn8, if_true, if_false, Nat.le_refl, true_and, and_true, decide_true, decide_false, Bool.not_true, Bool.not_false, reduceIte, Nat.reduceEqDiff, Nat.reduceAdd, Nat.reduceMul, Nat.reduceSub, Nat.reduceLeDiff, Nat.reduceLT]
    exact ⟨rfl, rfl⟩
  · rintro k f g ms hk ⟨rfl, rfl, f1, f3, f4⟩
    have hk' : (k : Int) < (S.nw : Int) := by omega
    have hw : wrapF .i64 ((k : Int) + 1) = ((k + 1 : Nat) : Int) := by rw [wrap_in (by omega) (by omega)]; rfl
    obtain ⟨q1, q2, q3⟩ := hA.warm k hk
    have ek := size_ok (n := n) (h := g) (by omega) (by omega) q1 q2 (by omega)
    obtain ⟨c1, c2⟩ := capN_bound (n0 := S.sphi - S.splo + 1) (lo := S.wlo) (hi := S.whi) (by omega) (by omega) k fun j hj => hw0 j (by omega)
    have hm1 : 0 ≤ capN (S.sphi - S.splo + 1) S.wlo S.whi k * (S.whi k - S.wlo k + 1) := Int.mul_nonneg (by omega) (by omega)
    have hm2 : capN (S.sphi - S.splo + 1) S.wlo S.whi k * (S.whi k - S.wlo k + 1) ≤ 3000 * 10 := Int.mul_le_mul c2 (by omega) (by omega) (by omega)
    have hwm : wrapF .i64 (capN (S.sphi - S.splo + 1) S.wlo S.whi k * (S.whi k - S.wlo k + 1)) = capN (S.sphi - S.splo + 1) S.wlo S.whi k * (S.whi k - S.wlo k + 1) := wrap_in (by omega) (by omega)
    have hmin : min 3000 (capN (S.sphi - S.splo + 1) S.wlo S.whi k * (S.whi k - S.wlo k + 1)) = capN (S.sphi - S.splo + 1) S.wlo S.whi (k + 1) := rfl
    simp only [rn0, rn1, rn2, rn3, rn4, rn5, rn6, rn7, rn8, if_true, if_false, Nat.le_refl, true_and, and_true, decide_true, decide_false, Bool.not_true, Bool.not_false, reduceIte, Nat.reduceEqDiff, Nat.reduceAdd, Nat.reduceMul, Nat.reduceSub, Nat.reduceLeDiff, Nat.reduceLT, f1, f3, f4, r1.ld, stg, Nat.zero_add, Cells.len hy.w, hk', Cells.idx hy.w hk, ranges_ld hy.w hk, ek, hwm, valN_tmp, valN_const, Nat.reduceLT, hmin, hw]
  · rintro f g ms ⟨rfl, rfl, f1, f3, f4⟩
    obtain ⟨k1, k2⟩ := capN_bound (n0 := S.sphi - S.splo + 1) (lo := S.wlo) (hi := S.whi) (by omega) (by omega) S.nw hw0
    simp only [rn0, rn1, rn2, rn3, rn4, rn5, rn6, rn7, rn8, if_true, if_false, Nat.le_refl, true_and, and_true, decide_true, decide_false, Bool.not_true, Bool.not_false, reduceIte, Nat.reduceEqDiff, Nat.reduceAdd, Nat.reduceMul, Nat.reduceSub, Nat.reduceLeDiff, Nat.reduceLT, f1, f3, f4, r1.ld, stg, Nat.zero_add, Cells.len hy.w, Int.lt_irrefl]
    have hmany : manyS S = capN (capN (S.sphi - S.splo + 1) S.wlo S.whi S.nw) S.vlo S.vhi S.nv := rfl
    rw [hmany]
    generalize capN (S.sphi - S.splo + 1) S.wlo S.whi S.nw = n0 at k1 k2 f3
    refine W_loop S.nv (fun k f gg ms => gg = g ∧ ms = [] ∧ f 1 = .pointer (some ⟨h.next, 0, none⟩) ∧ f 3 = .int .i64 (capN n0 S.vlo S.vhi k) ∧ f 5 = .int .i64 (k : Int)) (by simp; omega) ?_ ?_ ?_
    · simp only [rn0, rn1, rn2, rn3, rn4, rn5, rn6, rn7, rn8, if_true, if_false, Nat.le_refl, true_and, and_true, decide_true, decide_false, Bool.not_true, Bool.not_false, reduceIte, Nat.reduceEqDiff, Nat.reduceAdd, Nat.reduceMul, Nat.reduceSub, Nat.reduceLeDiff, Nat.reduceLT, f1, f3]
      exact ⟨rfl, rfl⟩
    · rintro k f gg ms hk ⟨rfl, rfl, f1, f3, f5⟩
      have hk' : (k : Int) < (S.nv : Int) := by omega
      have hw : wrapF .i64 ((k : Int) + 1) = ((k + 1 : Nat) : Int) := by rw [wrap_in (by omega) (by omega)]; rfl
      obtain ⟨_, ⟨q1, q2, q3⟩, _⟩ := hA.vat k hk
      have ek := size_ok (n := n) (h := gg) (by omega) (by omega) q1 q2 (by omega)
      obtain ⟨c1, c2⟩ := capN_bound (n0 := n0) (lo := S.vlo) (hi := S.vhi) (by omega) (by omega) k fun j hj => hv0 j (by omega)
      have hm1 : 0 ≤ capN n0 S.vlo S.vhi k * (S.vhi k - S.vlo k + 1) := Int.mul_nonneg (by omega) (by omega)
      have hm2 : capN n0 S.vlo S.vhi k * (S.vhi k - S.vlo k + 1) ≤ 3000 * 100 := Int.mul_le_mul c2 (by omega) (by omega) (by omega)
      have hwm : wrapF .i64 (capN n0 S.vlo S.vhi k * (S.vhi k - S.vlo k + 1)) = capN n0 S.vlo S.vhi k * (S.vhi k - S.vlo k + 1) := wrap_in (by omega) (by omega)
      have hmin : min 3000 (capN n0 S.vlo S.vhi k * (S.vhi k - S.vlo k + 1)) = capN n0 S.vlo S.vhi (k + 1) := rfl
      simp only [rn0, rn1, rn2, rn3, rn4, rn5, rn6, rn7, rn8, if_true, if_false, Nat.le_refl, true_and, and_true, decide_true, decide_false, Bool.not_true, Bool.not_false, reduceIte, Nat.reduceEqDiff, Nat.reduceAdd, Nat.reduceMul, Nat.reduceSub, Nat.reduceLeDiff, Nat.reduceLT, f1, f3, f5, r1.ld, stg, Nat.zero_add, Cells.len hy.v, hk', Cells.idx hy.v hk, Cells.fld hy.v hk, full_ld hy hk, ek, hwm, valN_tmp, valN_const, Nat.reduceLT, hmin, hw]
    · rintro f gg ms ⟨rfl, rfl, f1, f3, f5⟩
      simp only [rn0, rn1, rn2, rn3, rn4, rn5, rn6, rn7, rn8, if_true, if_false, Nat.le_refl, true_and, and_true, decide_true, decide_false, Bool.not_true, Bool.not_false, reduceIte, Nat.reduceEqDiff, Nat.reduceAdd, Nat.reduceMul, Nat.reduceSub, Nat.reduceLeDiff, Nat.reduceLT, f1, f3, f5, r1.ld, stg, Nat.zero_add, Cells.len hy.v, Int.lt_irrefl]
end Go.Vm.St

namespace Go.Vm.St
open Go.Proofs Go.Vm.Vat
set_option linter.unusedSimpArgs false
set_option linter.unusedVariables false
set_option maxRecDepth 10000
variable {n : Nat} {h : AHeap}
def s82 : SCode := (.seq (.ops [⟨(some 1), none, .box (T 0)⟩, ⟨(some 2), none, .mov (.const (.int .i64 (0)))⟩]) (.seq (.seq (.ops [⟨(some 8), none, .fieldAddr 0 (T 1)⟩, ⟨(some 9), none, .load1 (T 8)⟩, ⟨(some 10), none, .int2 .gtr (T 9) (.const (.int .i64 (5)))⟩, ⟨(some 11), none, .mov (T 10)⟩, ⟨(some 12), (some (11, false)), .fieldAddr 5 (T 1)⟩, ⟨(some 13), (some (11, false)), .load1 (T 12)⟩, ⟨(some 14), (some (11, false)), .len (T 13)⟩, ⟨(some 15), (some (11, false)), .int2 .gtr (T 14) (.const (.int .i64 (4)))⟩, ⟨(some 16), none, .pick (T 11) (.const (.bool true)) (T 15)⟩, ⟨(some 17), none, .mov (T 16)⟩, ⟨(some 18), (some (17, false)), .fieldAddr 6 (T 1)⟩, ⟨(some 19), (some (17, false)), .load1 (T 18)⟩, ⟨(some 20), (some (17, false)), .len (T 19)⟩, ⟨(some 21), (some (17, false)), .int2 .gtr (T 20) (.const (.int .i64 (5)))⟩, ⟨(some 22), none, .pick (T 17) (.const (.bool true)) (T 21)⟩]) (.cond (T 22) (.seq (.ops [⟨(some 2), none, .mov (.const (.int .i64 (3)))⟩]) .ret) .skip)) (.seq (.seq (.ops [⟨(some 23), none, .fieldAddr 0 (T 1)⟩, ⟨(some 24), none, .load1 (T 23)⟩, ⟨(some 25), none, .int2 .lss (T 24) (.const (.int .i64 (0)))⟩, ⟨(some 26), none, .mov (T 25)⟩, ⟨(some 27), (some (26, false)), .fieldAddr 1 (T 1)⟩, ⟨(some 28), (some (26, false)), .load1 (T 27)⟩, ⟨(some 29), (some (26, false)), .call (.func 42) [(T 28), (.const (.int .i64 (1))), (.const (.int .i64 (9)))]⟩, ⟨(some 30), (some (26, false)), .not (T 29)⟩, ⟨(some 31), none, .pick (T 26) (.const (.bool true)) (T 30)⟩, ⟨(some 32), none, .mov (T 31)⟩, ⟨(some 33), (some (32, false)), .fieldAddr 2 (T 1)⟩, ⟨(some 34), (some (32, false)), .load1 (T 33)⟩, ⟨(some 35), (some (32, false)), .len (T 34)⟩, ⟨(some 36), (some (32, false)), .fieldAddr 0 (T 1)⟩, ⟨(some 37), (some (32, false)), .load1 (T 36)⟩, ⟨(some 38), (some (32, false)), .int2 .add (T 37) (.const (.int .i64 (1)))⟩, ⟨(some 39), (some (32, false)), .int2 .neq (T 35) (T 38)⟩, ⟨(some 40), none, .pick (T 32) (.const (.bool true)) (T 39)⟩, ⟨(some 41), none, .mov (T 40)⟩, ⟨(some 42), (some (41, false)), .fieldAddr 3 (T 1)⟩, ⟨(some 43), (some (41, false)), .loadN 2 (T 42)⟩, ⟨(some 44), (some (41, false)), .call (.func 111) [(T 43), (.const (.int .i64 (99)))]⟩, ⟨(some 45), (some (41, false)), .not (T 44)⟩, ⟨(some 46), none, .pick (T 41) (.const (.bool true)) (T 45)⟩]) (.cond (T 46) (.seq (.ops [⟨(some 2), none, .mov (.const (.int .i64 (1)))⟩]) .ret) .skip)) (.seq (.seq (.ops [⟨(some 3), none, .mov (.const (.int .i64 (0)))⟩]) (.block 0 (.loop (.seq (.seq (.ops [⟨(some 47), none, .mov (T 3)⟩, ⟨(some 48), none, .fieldAddr 2 (T 1)⟩, ⟨(some 49), none, .load1 (T 48)⟩, ⟨(some 50), none, .len (T 49)⟩, ⟨(some 51), none, .int2 .lss (T 47) (T 50)⟩]) (.cond (T 51) .skip (.exit 0))) (.seq (.block 1 (.seq (.ops [⟨(some 54), none, .fieldAddr 2 (T 1)⟩, ⟨(some 55), none, .load1 (T 54)⟩, ⟨(some 56), none, .mov (T 3)⟩, ⟨(some 57), none, .idxSl 2 (T 55) (T 56)⟩, ⟨(some 58), none, .loadN 2 (T 57)⟩, ⟨(some 59), none, .call (.func 111) [(T 58), (.const (.int .i64 (9)))]⟩, ⟨(some 60), none, .not (T 59)⟩]) (.cond (T 60) (.seq (.ops [⟨(some 2), none, .mov (.const (.int .i64 (1)))⟩]) .ret) .skip))) (.ops [⟨(some 52), none, .mov (T 3)⟩, ⟨(some 53), none, .int2 .add (T 52) (.const (.int .i64 (1)))⟩, ⟨(some 3), none, .mov (T 53)⟩])))))) (.seq (.seq (.ops [⟨(some 4), none, .mov (.const (.int .i64 (0)))⟩]) (.block 2 (.loop (.seq (.seq (.ops [⟨(some 61), none, .mov (T 4)⟩, ⟨(some 62), none, .fieldAddr 5 (T 1)⟩, ⟨(some 63), none, .load1 (T 62)⟩, ⟨(some 64), none, .len (T 63)⟩, ⟨(some 65), none, .int2 .lss (T 61) (T 64)⟩]) (.cond (T 65) .skip (.exit 2))) (.seq (.block 3 (.seq (.ops [⟨(some 68), none, .fieldAddr 5 (T 1)⟩, ⟨(some 69), none, .load1 (T 68)⟩, ⟨(some 70), none, .mov (T 4)⟩, ⟨(some 71), none, .idxSl 4 (T 69) (T 70)⟩, ⟨(some 72), none, .loadN 4 (T 71)⟩, ⟨(some 5), none, .alloc [(.int .i64 (0)), (.int .i64 (0)), (.int .i64 (0)), (.int .i64 (0))]⟩, ⟨none, none, .store 4 (T 5) (T 72)⟩]) (.seq (.ops [⟨(some 73), none, .fieldAddr 0 (T 5)⟩, ⟨(some 74), none, .load1 (T 73)⟩, ⟨(some 75), none, .fieldAddr 0 (T 1)⟩, ⟨(some 76), none, .load1 (T 75)⟩, ⟨(some 77), none, .call (.func 42) [(T 74), (.const (.int .i64 (0))), (T 76)]⟩, ⟨(some 78), none, .not (T 77)⟩, ⟨(some 79), none, .mov (T 78)⟩, ⟨(some 80), (some (79, false)), .fieldAddr 1 (T 5)⟩, ⟨(some 81), (some (79, false)), .loadN 2 (T 80)⟩, ⟨(some 82), (some (79, false)), .call (.func 111) [(T 81), (.const (.int .i64 (99)))]⟩, ⟨(some 83), (some (79, false)), .not (T 82)⟩, ⟨(some 84), none, .pick (T 79) (.const (.bool true)) (T 83)⟩, ⟨(some 85), none, .mov (T 84)⟩, ⟨(some 86), (some (85, false)), .fieldAddr 3 (T 5)⟩, ⟨(some 87), (some (85, false)), .load1 (T 86)⟩, ⟨(some 88), (some (85, false)), .call (.func 42) [(T 87), (.const (.int .i64 (0))), (.const (.int .i64 (99)))]⟩, ⟨(some 89), (some (85, false)), .not (T 88)⟩, ⟨(some 90), none, .pick (T 85) (.const (.bool true)) (T 89)⟩]) (.cond (T 90) (.seq (.ops [⟨(some 2), none, .mov (.const (.int .i64 (1)))⟩]) .ret) .skip)))) (.ops [⟨(some 66), none, .mov (T 4)⟩, ⟨(some 67), none, .int2 .add (T 66) (.const (.int .i64 (1)))⟩, ⟨(some 4), none, .mov (T 67)⟩])))))) (.seq (.seq (.ops [⟨(some 6), none, .mov (.const (.int .i64 (0)))⟩]) (.block 4 (.loop (.seq (.seq (.ops [⟨(some 91), none, .mov (T 6)⟩, ⟨(some 92), none, .fieldAddr 6 (T 1)⟩, ⟨(some 93), none, .load1 (T 92)⟩, ⟨(some 94), none, .len (T 93)⟩, ⟨(some 95), none, .int2 .lss (T 91) (T 94)⟩]) (.cond (T 95) .skip (.exit 4))) (.seq (.block 5 (.seq (.ops [⟨(some 98), none, .fieldAddr 6 (T 1)⟩, ⟨(some 99), none, .load1 (T 98)⟩, ⟨(some 100), none, .mov (T 6)⟩, ⟨(some 101), none, .idxSl 3 (T 99) (T 100)⟩, ⟨(some 102), none, .loadN 3 (T 101)⟩, ⟨(some 7), none, .alloc [(.int .i64 (0)), (.int .i64 (0)), (.int .i64 (0))]⟩, ⟨none, none, .store 3 (T 7) (T 102)⟩]) (.seq (.draw [⟨.free, ⟨(some 103), none, .fieldAddr 0 (T 7)⟩⟩, ⟨.rd1, ⟨(some 104), none, .load1 (T 103)⟩⟩, ⟨.free, ⟨(some 105), none, .fieldAddr 5 (T 1)⟩⟩, ⟨.rd1, ⟨(some 106), none, .load1 (T 105)⟩⟩, ⟨.free, ⟨(some 107), none, .len (T 106)⟩⟩, ⟨.free, ⟨(some 108), none, .int2 .sub (T 107) (.const (.int .i64 (1)))⟩⟩, ⟨.up, ⟨(some 109), none, .call (.func 42) [(T 104), (.const (.int .i64 (0))), (T 108)]⟩⟩, ⟨.free, ⟨(some 110), none, .not (T 109)⟩⟩, ⟨.free, ⟨(some 111), none, .mov (T 110)⟩⟩, ⟨.free, ⟨(some 112), (some (111, false)), .fieldAddr 1 (T 7)⟩⟩, ⟨.rd1, ⟨(some 113), (some (111, false)), .load1 (T 112)⟩⟩, ⟨.free, ⟨(some 114), (some (111, false)), .fieldAddr 5 (T 1)⟩⟩, ⟨.rd1, ⟨(some 115), (some (111, false)), .load1 (T 114)⟩⟩, ⟨.free, ⟨(some 116), (some (111, false)), .fieldAddr 0 (T 7)⟩⟩, ⟨.rd1, ⟨(some 117), (some (111, false)), .load1 (T 116)⟩⟩, ⟨.free, ⟨(some 118), (some (111, false)), .idxSl 4 (T 115) (T 117)⟩⟩, ⟨.free, ⟨(some 119), (some (111, false)), .fieldAddr 0 (T 118)⟩⟩, ⟨.rd1, ⟨(some 120), (some (111, false)), .load1 (T 119)⟩⟩, ⟨.free, ⟨(some 121), (some (111, false)), .fieldAddr 0 (T 1)⟩⟩, ⟨.rd1, ⟨(some 122), (some (111, false)), .load1 (T 121)⟩⟩, ⟨.up, ⟨(some 123), (some (111, false)), .call (.func 42) [(T 113), (T 120), (T 122)]⟩⟩, ⟨.free, ⟨(some 124), (some (111, false)), .not (T 123)⟩⟩, ⟨.free, ⟨(some 125), none, .pick (T 111) (.const (.bool true)) (T 124)⟩⟩, ⟨.free, ⟨(some 126), none, .mov (T 125)⟩⟩, ⟨.free, ⟨(some 127), (some (126, false)), .fieldAddr 2 (T 7)⟩⟩, ⟨.rd1, ⟨(some 128), (some (126, false)), .load1 (T 127)⟩⟩, ⟨.any, ⟨(some 129), (some (126, false)), .call (.func 42) [(T 128), (.const (.int .i64 (0))), (.const (.int .i64 (2)))]⟩⟩, ⟨.free, ⟨(some 130), (some (126, false)), .not (T 129)⟩⟩, ⟨.free, ⟨(some 131), none, .pick (T 126) (.const (.bool true)) (T 130)⟩⟩]) (.cond (T 131) (.seq (.ops [⟨(some 2), none, .mov (.const (.int .i64 (1)))⟩]) .ret) .skip)))) (.ops [⟨(some 96), none, .mov (T 6)⟩, ⟨(some 97), none, .int2 .add (T 96) (.const (.int .i64 (1)))⟩, ⟨(some 6), none, .mov (T 97)⟩])))))) (.seq (.seq (.ops [⟨(some 132), none, .loadN 7 (T 1)⟩, ⟨(some 133), none, .call (.func 64) [(T 132)]⟩, ⟨(some 134), none, .int2 .gtr (T 133) (.const (.int .i64 (2000)))⟩]) (.cond (T 134) (.seq (.ops [⟨(some 2), none, .mov (.const (.int .i64 (3)))⟩]) .ret) .skip)) (.seq (.ops [⟨(some 2), none, .mov (.const (.int .i64 (0)))⟩]) .ret))))))))
theorem fok82 : FnOk Try.prog 82 135 s82 [.tmp 2] := ⟨Try.f82, _, Try.func82, rfl, Try.ntmps82, by kernel_rfl, by kernel_rfl⟩
set_option maxHeartbeats 1000000 in
theorem fault_c (hn : 120 ≤ n) (hr : h.next + 100 < far) {wv vv sv : Value} {S : MS} (hy : SteepR h wv vv sv S) (hl : S.nw ≤ 30 ∧ S.nv ≤ 30 ∧ S.ns ≤ 30) :
    call n (.func (.func 82) #[] #[]) [.agg ⟨stL S wv vv sv⟩] h = some (.int .i64 (faultS S), h) := by
  obtain ⟨n, rfl⟩ : ∃ p, n = p + 1 := ⟨n - 1, by omega⟩
  refine call_plain0 fok82 rfl rfl (by simp) rfl ?_
  have hy := hy.shut
  have hr : h.shutAll.next + 100 < far := hr
  have hfl : h.shutAll.floor ≤ h.shutAll.next := Nat.le_refl _
  generalize h.shutAll = h at hy hr hfl
  simp only [s82, W_seq, W_ops]
  refine ops_box (cs := stL S wv vv sv) (by omega) rfl hy.one fun h1 hx => ?_
  have hy := hy.mono hx.sub
  have n1 := hx.next
  have f1' := hx.floor
  have r1 := hx.row
  have e3 : ¬ LimOk S → faultS S = 3 := fun e => by unfold faultS; rw [if_pos e]
  by_cases c1 : 5 < S.last
  · have := e3 fun e => by have := e.1; omega
    simp only [rn0, rn1, rn2, rn3, rn4, rn5, rn6, rn7, rn8, if_true, if_false, Nat.le_refl, true_and, and_true, decide_true, decide_false, Bool.not_true, Bool.not_false, reduceIte, Nat.reduceEqDiff, Nat.reduceAdd, Nat.reduceMul, Nat.reduceSub, Nat.reduceLeDiff, Nat.reduceLT, r1.ld, stg, Nat.zero_add, c1, this]
  by_cases c2 : (4 : Int) < (S.nv : Int)
  · have := e3 fun e => by have := e.2.1; omega
    simp only [rn0, rn1, rn2, rn3, rn4, rn5, rn6, rn7, rn8, if_true, if_false, Nat.le_refl, true_and, and_true, decide_true, decide_false, Bool.not_true, Bool.not_false, reduceIte, Nat.reduceEqDiff, Nat.reduceAdd, Nat.reduceMul, Nat.reduceSub, Nat.reduceLeDiff, Nat.reduceLT, r1.ld, stg, Nat.zero_add, c1, Cells.len hy.v, c2, this]
  by_cases c3 : (5 : Int) < (S.ns : Int)
  · have := e3 fun e => by have := e.2.2; omega
    simp only [rn0, rn1, rn2, rn3, rn4, rn5, rn6, rn7, rn8, if_true, if_false, Nat.le_refl, true_and, and_true, decide_true, decide_false, Bool.not_true, Bool.not_false, reduceIte, Nat.reduceEqDiff, Nat.reduceAdd, Nat.reduceMul, Nat.reduceSub, Nat.reduceLeDiff, Nat.reduceLT, r1.ld, stg, Nat.zero_add, c1, Cells.len hy.v, c2, Cells.len hy.s, c3, this]
  have hL : LimOk S := ⟨by omega, by omega, by omega⟩
  have bad : ¬ ArgsOk S → faultS S = 1 := fun e => by unfold faultS; rw [if_neg (by simpa using hL), if_pos e]
  simp only [rn0, rn1, rn2, rn3, rn4, rn5, rn6, rn7, rn8, if_true, if_false, Nat.le_refl, true_and, and_true, decide_true, decide_false, Bool.not_true, Bool.not_false, reduceIte, Nat.reduceEqDiff, Nat.reduceAdd, Nat.reduceMul, Nat.reduceSub, Nat.reduceLeDiff, Nat.reduceLT, r1.ld, stg, Nat.zero_add, c1, Cells.len hy.v, c2, Cells.len hy.s, c3]
  by_cases c4 : S.last < 0
  · have := bad fun e => by have := e.head.1; omega
    simp only [rn0, rn1, rn2, rn3, rn4, rn5, rn6, rn7, rn8, if_true, if_false, Nat.le_refl, true_and, and_true, decide_true, decide_false, Bool.not_true, Bool.not_false, reduceIte, Nat.reduceEqDiff, Nat.reduceAdd, Nat.reduceMul, Nat.reduceSub, Nat.reduceLeDiff, Nat.reduceLT, r1.ld, stg, Nat.zero_add, c4, this]
  have i1 := in_c (n := n) (h := h1) (by omega) S.per 1 9
  by_cases c5 : 1 ≤ S.per ∧ S.per ≤ 9
  case neg =>
    have := bad fun e => c5 e.head.2.1
    simp only [rn0, rn1, rn2, rn3, rn4, rn5, rn6, rn7, rn8, if_true, if_false, Nat.le_refl, true_and, and_true, decide_true, decide_false, Bool.not_true, Bool.not_false, reduceIte, Nat.reduceEqDiff, Nat.reduceAdd, Nat.reduceMul, Nat.reduceSub, Nat.reduceLeDiff, Nat.reduceLT, r1.ld, stg, Nat.zero_add, c4, i1, c5, this]
  have hwl : wrapF .i64 (S.last + 1) = S.last + 1 := wrap_in (by omega) (by omega)
  by_cases c6 : (S.nw : Int) = S.last + 1
  case neg =>
    have := bad fun e => c6 e.head.2.2.1
    simp only [rn0, rn1, rn2, rn3, rn4, rn5, rn6, rn7, rn8, if_true, if_false, Nat.le_refl, true_and, and_true, decide_true, decide_false, Bool.not_true, Bool.not_false, reduceIte, Nat.reduceEqDiff, Nat.reduceAdd, Nat.reduceMul, Nat.reduceSub, Nat.reduceLeDiff, Nat.reduceLT, r1.ld, stg, Nat.zero_add, c4, i1, c5, and_self, Cells.len hy.w, hwl, c6, this]
  have d6 : decide ((S.nw : Int) = S.last + 1) = true := decide_eq_true c6
  have i2 := inside_c (n := n) (h := h1) (by omega) (by omega) S.splo S.sphi 99
  by_cases c7 : 0 ≤ S.splo ∧ S.splo ≤ S.sphi ∧ S.sphi ≤ 99
  case neg =>
    have := bad fun e => c7 e.head.2.2.2
    simp only [rn0, rn1, rn2, rn3, rn4, rn5, rn6, rn7, rn8, if_true, if_false, Nat.le_refl, true_and, and_true, decide_true, decide_false, Bool.not_true, Bool.not_false, reduceIte, Nat.reduceEqDiff, Nat.reduceAdd, Nat.reduceMul, Nat.reduceSub, Nat.reduceLeDiff, Nat.reduceLT, r1.ld, stg, Nat.zero_add, c4, i1, c5, and_self, Cells.len hy.w, hwl, d6, st_rng r1, i2, c7, this]
  have hH : HeadOk S := ⟨by omega, c5, c6, c7⟩
  simp only [rn0, rn1, rn2, rn3, rn4, rn5, rn6, rn7, rn8, if_true, if_false, Nat.le_refl, true_and, and_true, decide_true, decide_false, Bool.not_true, Bool.not_false, reduceIte, Nat.reduceEqDiff, Nat.reduceAdd, Nat.reduceMul, Nat.reduceSub, Nat.reduceLeDiff, Nat.reduceLT, r1.ld, stg, Nat.zero_add, c4, i1, c5, and_self, Cells.len hy.w, hwl, d6, st_rng r1, i2, c7]
  refine W_loop S.nw (fun k f g ms => g = h1 ∧ ms = [] ∧ f 1 = .pointer (some ⟨h.next, 0, none⟩) ∧ f 3 = .int .i64 (k : Int) ∧ ∀ j, j < k → 0 ≤ S.wlo j ∧ S.wlo j ≤ S.whi j ∧ S.whi j ≤ 9) (by simp; omega) ?_ ?_ ?_
  · simp only [rn0, rn1, rn2, rn3, rn4, rn5, rn6, rn7, rn8, if_true, if_false, Nat.le_refl, true_and, and_true, decide_true, decide_false, Bool.not_true, Bool.not_false, reduceIte, Nat.reduceEqDiff, Nat.reduceAdd, Nat.reduceMul, Nat.reduceSub, Nat.reduceLeDiff, Nat.reduceLT, Nat.not_lt_zero, false_implies, implies_true]
    trivial
  · rintro k f g ms hk ⟨rfl, rfl, f1, f3, hlt⟩
    have hk' : (k : Int) < (S.nw : Int) := by omega
    have hw : wrapF .i64 ((k : Int) + 1) = ((k + 1 : Nat) : Int) := by rw [wrap_in (by omega) (by omega)]; rfl
    have ei := inside_c (n := n) (h := g) (by omega) (by omega) (S.wlo k) (S.whi k) 9
    by_cases hkk : 0 ≤ S.wlo k ∧ S.wlo k ≤ S.whi k ∧ S.whi k ≤ 9
    · simp only [rn0, rn1, rn2, rn3, rn4, rn5, rn6, rn7, rn8, if_true, if_false, Nat.le_refl, true_and, and_true, decide_true, decide_false, Bool.not_true, Bool.not_false, reduceIte, Nat.reduceEqDiff, Nat.reduceAdd, Nat.reduceMul, Nat.reduceSub, Nat.reduceLeDiff, Nat.reduceLT, f1, f3, r1.ld, stg, Nat.zero_add, Cells.len hy.w, hk', Cells.idx hy.w hk, ranges_ld hy.w hk, ei, hkk, hw, and_self]
      intro j hj
      by_cases e : j = k
      · subst e; exact hkk
      · exact hlt j (by omega)
    · have := bad fun hb => hkk (hb.warm k hk)
      simp only [rn0, rn1, rn2, rn3, rn4, rn5, rn6, rn7, rn8, if_true, if_false, Nat.le_refl, true_and, and_true, decide_true, decide_false, Bool.not_true, Bool.not_false, reduceIte, Nat.reduceEqDiff, Nat.reduceAdd, Nat.reduceMul, Nat.reduceSub, Nat.reduceLeDiff, Nat.reduceLT, f1, f3, r1.ld, stg, Nat.zero_add, Cells.len hy.w, hk', Cells.idx hy.w hk, ranges_ld hy.w hk, ei, hkk, this]
  rintro f g ms ⟨rfl, rfl, f1, f3, hW⟩
  simp only [rn0, rn1, rn2, rn3, rn4, rn5, rn6, rn7, rn8, if_true, if_false, Nat.le_refl, true_and, and_true, decide_true, decide_false, Bool.not_true, Bool.not_false, reduceIte, Nat.reduceEqDiff, Nat.reduceAdd, Nat.reduceMul, Nat.reduceSub, Nat.reduceLeDiff, Nat.reduceLT, f1, f3, r1.ld, stg, Nat.zero_add, Cells.len hy.w, Int.lt_irrefl]
  clear f3
  refine W_loop S.nv (fun k f g' ms => (Sub All g g' ∧ g'.next = g.next + k ∧ g'.floor = g.floor) ∧ ms = [] ∧ f 1 = .pointer (some ⟨h.next, 0, none⟩) ∧ f 4 = .int .i64 (k : Int) ∧ ∀ i, i < k → (0 ≤ S.vb i ∧ S.vb i ≤ S.last) ∧ (0 ≤ S.vlo i ∧ S.vlo i ≤ S.vhi i ∧ S.vhi i ≤ 99) ∧ 0 ≤ S.vn i ∧ S.vn i ≤ 99) (by simp; omega) ?_ ?_ ?_
  · simp only [rn0, rn1, rn2, rn3, rn4, rn5, rn6, rn7, rn8, if_true, if_false, Nat.le_refl, true_and, and_true, decide_true, decide_false, Bool.not_true, Bool.not_false, reduceIte, Nat.reduceEqDiff, Nat.reduceAdd, Nat.reduceMul, Nat.reduceSub, Nat.reduceLeDiff, Nat.reduceLT, f1, Nat.not_lt_zero, false_implies, implies_true, Nat.add_zero]
    trivial
  · rintro k f g' ms hk ⟨⟨g1, g2, g3⟩, rfl, f1, f4, hlt⟩
    have hk' : (k : Int) < (S.nv : Int) := by omega
    have hw : wrapF .i64 ((k : Int) + 1) = ((k + 1 : Nat) : Int) := by rw [wrap_in (by omega) (by omega)]; rfl
    have hyg := hy.mono g1
    have rg := r1.mono g1
    simp only [rn0, rn1, rn2, rn3, rn4, rn5, rn6, rn7, rn8, if_true, if_false, Nat.le_refl, true_and, and_true, decide_true, decide_false, Bool.not_true, Bool.not_false, reduceIte, Nat.reduceEqDiff, Nat.reduceAdd, Nat.reduceMul, Nat.reduceSub, Nat.reduceLeDiff, Nat.reduceLT, f1, f4, rg.ld, stg, Nat.zero_add, Cells.len hyg.v, hk', Cells.idx hyg.v hk, vat_ld hyg hk]
    refine step_new (vs := [.int .i64 (S.vb k), .int .i64 (S.vlo k), .int .i64 (S.vhi k), .int .i64 (S.vn k)]) (by omega) (by omega) rfl (by simp only [rn0, rn1, rn2, rn3, rn4, rn5, rn6, rn7, rn8, if_true, if_false, Nat.le_refl, true_and, and_true, decide_true, decide_false, Bool.not_true, Bool.not_false, reduceIte, Nat.reduceEqDiff, Nat.reduceAdd, Nat.reduceMul, Nat.reduceSub, Nat.reduceLeDiff, Nat.reduceLT]; rfl) rfl rfl rfl fun g4 hx4 => ?_
    have n4 := hx4.next
    have f4' := hx4.floor
    have rg4 := rg.mono hx4.sub
    have hin : (Sub All g g4 ∧ g4.next = g.next + (k + 1) ∧ g4.floor = g.floor) = True := eq_true ⟨g1.trans hx4.sub, by omega, by omega⟩
    have j1 := in_c (n := n) (h := g4) (by omega) (S.vb k) 0 S.last
    have j2 := inside_c (n := n) (h := g4) (by omega) (by omega) (S.vlo k) (S.vhi k) 99
    have j3 := in_c (n := n) (h := g4) (by omega) (S.vn k) 0 99
    by_cases q1 : 0 ≤ S.vb k ∧ S.vb k ≤ S.last
    case neg =>
      have := bad fun hb => q1 (hb.vat k hk).1
      simp only [rn0, rn1, rn2, rn3, rn4, rn5, rn6, rn7, rn8, if_true, if_false, Nat.le_refl, true_and, and_true, decide_true, decide_false, Bool.not_true, Bool.not_false, reduceIte, Nat.reduceEqDiff, Nat.reduceAdd, Nat.reduceMul, Nat.reduceSub, Nat.reduceLeDiff, Nat.reduceLT, f1, f4, rg4.ld, hx4.ld, stg, Nat.zero_add, List.getElem?_cons_zero, List.getElem?_cons_succ, j1, q1, this]
    by_cases q2 : 0 ≤ S.vlo k ∧ S.vlo k ≤ S.vhi k ∧ S.vhi k ≤ 99
    case neg =>
      have := bad fun hb => q2 (hb.vat k hk).2.1
      simp only [rn0, rn1, rn2, rn3, rn4, rn5, rn6, rn7, rn8, if_true, if_false, Nat.le_refl, true_and, and_true, decide_true, decide_false, Bool.not_true, Bool.not_false, reduceIte, Nat.reduceEqDiff, Nat.reduceAdd, Nat.reduceMul, Nat.reduceSub, Nat.reduceLeDiff, Nat.reduceLT, f1, f4, rg4.ld, hx4.ld, hx4.ldN 1 2 (by simp) (by simp), stg, Nat.zero_add, List.drop_succ_cons, List.drop_zero, List.take_succ_cons, List.take_zero, List.getElem?_cons_zero, List.getElem?_cons_succ, j1, q1, and_self, j2, q2, this]
    by_cases q3 : 0 ≤ S.vn k ∧ S.vn k ≤ 99
    case neg =>
      have := bad fun hb => q3 (hb.vat k hk).2.2
      simp only [rn0, rn1, rn2, rn3, rn4, rn5, rn6, rn7, rn8, if_true, if_false, Nat.le_refl, true_and, and_true, decide_true, decide_false, Bool.not_true, Bool.not_false, reduceIte, Nat.reduceEqDiff, Nat.reduceAdd, Nat.reduceMul, Nat.reduceSub, Nat.reduceLeDiff, Nat.reduceLT, f1, f4, rg4.ld, hx4.ld, hx4.ldN 1 2 (by simp) (by simp), stg, Nat.zero_add, List.drop_succ_cons, List.drop_zero, List.take_succ_cons, List.take_zero, List.getElem?_cons_zero, List.getElem?_cons_succ, j1, q1, and_self, j2, q2, j3, q3, this]
    simp only [rn0, rn1, rn2, rn3, rn4, rn5, rn6, rn7, rn8, if_true, if_false, Nat.le_refl, true_and, and_true, decide_true, decide_false, Bool.not_true, Bool.not_false, reduceIte, Nat.reduceEqDiff, Nat.reduceAdd, Nat.reduceMul, Nat.reduceSub, Nat.reduceLeDiff, Nat.reduceLT, f1, f4, rg4.ld, hx4.ld, hx4.ldN 1 2 (by simp) (by simp), stg, Nat.zero_add, List.drop_succ_cons, List.drop_zero, List.take_succ_cons, List.take_zero, List.getElem?_cons_zero, List.getElem?_cons_succ, j1, q1, and_self, j2, q2, j3, q3, hw, hin]
    intro j hj
    by_cases e : j = k
    · subst e; exact ⟨q1, q2, q3⟩
    · exact hlt j (by omega)
  rintro f g2 ms ⟨⟨k1, k2, k3⟩, rfl, f1, f4, hV⟩
  have hy := hy.mono k1
  have r1 := r1.mono k1
  simp only [rn0, rn1, rn2, rn3, rn4, rn5, rn6, rn7, rn8, if_true, if_false, Nat.le_refl, true_and, and_true, decide_true, decide_false, Bool.not_true, Bool.not_false, reduceIte, Nat.reduceEqDiff, Nat.reduceAdd, Nat.reduceMul, Nat.reduceSub, Nat.reduceLeDiff, Nat.reduceLT, f1, f4, r1.ld, stg, Nat.zero_add, Cells.len hy.v, Int.lt_irrefl]
  clear f4
  have hwv : wrapF .i64 ((S.nv : Int) - 1) = (S.nv : Int) - 1 := wrap_in (by omega) (by omega)
  refine W_loop S.ns (fun k f g' ms => (Sub All g2 g' ∧ g'.next = g2.next + k ∧ g'.floor = g2.floor) ∧ ms = [] ∧ f 1 = .pointer (some ⟨h.next, 0, none⟩) ∧ f 6 = .int .i64 (k : Int) ∧ ∀ i, i < k → (0 ≤ S.sv i ∧ S.sv i ≤ (S.nv : Int) - 1) ∧ (S.vb (S.sv i).toNat ≤ S.sh i ∧ S.sh i ≤ S.last) ∧ 0 ≤ S.sk i ∧ S.sk i ≤ 2) (by simp; omega) ?_ ?_ ?_
  · simp only [rn0, rn1, rn2, rn3, rn4, rn5, rn6, rn7, rn8, if_true, if_false, Nat.le_refl, true_and, and_true, decide_true, decide_false, Bool.not_true, Bool.not_false, reduceIte, Nat.reduceEqDiff, Nat.reduceAdd, Nat.reduceMul, Nat.reduceSub, Nat.reduceLeDiff, Nat.reduceLT, f1, Nat.not_lt_zero, false_implies, implies_true, Nat.add_zero]
    trivial
  · rintro k f g' ms hk ⟨⟨g1, g2', g3⟩, rfl, f1, f6, hlt⟩
    have hk' : (k : Int) < (S.ns : Int) := by omega
    have hw : wrapF .i64 ((k : Int) + 1) = ((k + 1 : Nat) : Int) := by rw [wrap_in (by omega) (by omega)]; rfl
    have hyg := hy.mono g1
    have rg := r1.mono g1
    simp only [rn0, rn1, rn2, rn3, rn4, rn5, rn6, rn7, rn8, if_true, if_false, Nat.le_refl, true_and, and_true, decide_true, decide_false, Bool.not_true, Bool.not_false, reduceIte, Nat.reduceEqDiff, Nat.reduceAdd, Nat.reduceMul, Nat.reduceSub, Nat.reduceLeDiff, Nat.reduceLT, f1, f6, rg.ld, stg, Nat.zero_add, Cells.len hyg.s, hk', Cells.idx hyg.s hk, samps_ld hyg.s hk]
    refine step_new (vs := [.int .i64 (S.sv k), .int .i64 (S.sh k), .int .i64 (S.sk k)]) (by omega) (by omega) rfl (by simp only [rn0, rn1, rn2, rn3, rn4, rn5, rn6, rn7, rn8, if_true, if_false, Nat.le_refl, true_and, and_true, decide_true, decide_false, Bool.not_true, Bool.not_false, reduceIte, Nat.reduceEqDiff, Nat.reduceAdd, Nat.reduceMul, Nat.reduceSub, Nat.reduceLeDiff, Nat.reduceLT]; rfl) rfl rfl rfl fun g4 hx4 => ?_
    have n4 := hx4.next
    have f4' := hx4.floor
    have rg4 := rg.mono hx4.sub
    have hy4 := hyg.mono hx4.sub
    have hin : (Sub All g2 g4 ∧ g4.next = g2.next + (k + 1) ∧ g4.floor = g2.floor) = True := eq_true ⟨g1.trans hx4.sub, by omega, by omega⟩
    have j1 := in_c (n := n) (h := g4) (by omega) (S.sv k) 0 ((S.nv : Int) - 1)
    have j3 := in_c (n := n) (h := g4) (by omega) (S.sk k) 0 2
    simp only [rn0, rn1, rn2, rn3, rn4, rn5, rn6, rn7, rn8, if_true, if_false, Nat.le_refl, true_and, and_true, decide_true, decide_false, Bool.not_true, Bool.not_false, reduceIte, Nat.reduceEqDiff, Nat.reduceAdd, Nat.reduceMul, Nat.reduceSub, Nat.reduceLeDiff, Nat.reduceLT]
    refine W_draw All ?_
    by_cases q1 : 0 ≤ S.sv k ∧ S.sv k ≤ (S.nv : Int) - 1
    case neg =>
      have := bad fun hb => q1 (hb.smell k hk).1
      simp only [rn0, rn1, rn2, rn3, rn4, rn5, rn6, rn7, rn8, if_true, if_false, Nat.le_refl, true_and, and_true, decide_true, decide_false, Bool.not_true, Bool.not_false, reduceIte, Nat.reduceEqDiff, Nat.reduceAdd, Nat.reduceMul, Nat.reduceSub, Nat.reduceLeDiff, Nat.reduceLT, f1, f6, rg4.ld, hx4.ld, stg, Nat.zero_add, List.getElem?_cons_zero, List.getElem?_cons_succ, d_guard, dg_tt, dg_tf, dg_ft, dg_ff, Cells.len hy4.v, hwv, j1, q1, this]
    have hsv : ((S.sv k).toNat : Int) = S.sv k := by omega
    have hvv : (S.sv k).toNat < S.nv := by omega
    have hix := Cells.idx hy4.v hvv
    have hbl := begin_ld hy4 hvv
    rw [hsv] at hix
    have j2 := in_c (n := n) (h := g4) (by omega) (S.sh k) (S.vb (S.sv k).toNat) S.last
    by_cases q2 : S.vb (S.sv k).toNat ≤ S.sh k ∧ S.sh k ≤ S.last
    case neg =>
      have := bad fun hb => q2 (hb.smell k hk).2.1
      simp only [rn0, rn1, rn2, rn3, rn4, rn5, rn6, rn7, rn8, if_true, if_false, Nat.le_refl, true_and, and_true, decide_true, decide_false, Bool.not_true, Bool.not_false, reduceIte, Nat.reduceEqDiff, Nat.reduceAdd, Nat.reduceMul, Nat.reduceSub, Nat.reduceLeDiff, Nat.reduceLT, f1, f6, rg4.ld, hx4.ld, stg, Nat.zero_add, List.getElem?_cons_zero, List.getElem?_cons_succ, d_guard, dg_tt, dg_tf, dg_ft, dg_ff, Cells.len hy4.v, hwv, j1, q1, and_self, hix, Cells.fld hy4.v hvv, hbl, j2, q2, this]
    by_cases q3 : 0 ≤ S.sk k ∧ S.sk k ≤ 2
    case neg =>
      have := bad fun hb => q3 (hb.smell k hk).2.2
      simp only [rn0, rn1, rn2, rn3, rn4, rn5, rn6, rn7, rn8, if_true, if_false, Nat.le_refl, true_and, and_true, decide_true, decide_false, Bool.not_true, Bool.not_false, reduceIte, Nat.reduceEqDiff, Nat.reduceAdd, Nat.reduceMul, Nat.reduceSub, Nat.reduceLeDiff, Nat.reduceLT, f1, f6, rg4.ld, hx4.ld, stg, Nat.zero_add, List.getElem?_cons_zero, List.getElem?_cons_succ, d_guard, dg_tt, dg_tf, dg_ft, dg_ff, Cells.len hy4.v, hwv, j1, q1, and_self, hix, Cells.fld hy4.v hvv, hbl, j2, q2, j3, q3, this]
    simp only [rn0, rn1, rn2, rn3, rn4, rn5, rn6, rn7, rn8, if_true, if_false, Nat.le_refl, true_and, and_true, decide_true, decide_false, Bool.not_true, Bool.not_false, reduceIte, Nat.reduceEqDiff, Nat.reduceAdd, Nat.reduceMul, Nat.reduceSub, Nat.reduceLeDiff, Nat.reduceLT, f1, f6, rg4.ld, hx4.ld, stg, Nat.zero_add, List.getElem?_cons_zero, List.getElem?_cons_succ, d_guard, dg_tt, dg_tf, dg_ft, dg_ff, Cells.len hy4.v, hwv, j1, q1, and_self, hix, Cells.fld hy4.v hvv, hbl, j2, q2, j3, q3, hw, hin]
    intro j hj
    by_cases e : j = k
    · subst e; exact ⟨q1, q2, q3⟩
    · exact hlt j (by omega)
  rintro f g3 ms ⟨⟨l1, l2, l3⟩, rfl, f1, f6, hS⟩
  have hy := hy.mono l1
  have r1 := r1.mono l1
  have hA : ArgsOk S := ⟨hH, hW, hV, hS⟩
  have em := many_c (n := n) (h := g3) (by omega) (by omega) hy hA ⟨hl.1, hl.2.1⟩
  have w1 := r1.whole (n := 7) rfl
  have hF : faultS S = if 2000 < manyS S then 3 else 0 := by unfold faultS; rw [if_neg (by simpa using hL), if_neg (by simpa using hA)]
  by_cases hm : 2000 < manyS S
  · rw [if_pos hm] at hF
    simp only [rn0, rn1, rn2, rn3, rn4, rn5, rn6, rn7, rn8, if_true, if_false, Nat.le_refl, true_and, and_true, decide_true, decide_false, Bool.not_true, Bool.not_false, reduceIte, Nat.reduceEqDiff, Nat.reduceAdd, Nat.reduceMul, Nat.reduceSub, Nat.reduceLeDiff, Nat.reduceLT, f1, f6, r1.ld, stg, Nat.zero_add, Cells.len hy.s, Int.lt_irrefl, w1, em, hm, hF]
  · rw [if_neg hm] at hF
    simp only [rn0, rn1, rn2, rn3, rn4, rn5, rn6, rn7, rn8, if_true, if_false, Nat.le_refl, true_and, and_true, decide_true, decide_false, Bool.not_true, Bool.not_false, reduceIte, Nat.reduceEqDiff, Nat.reduceAdd, Nat.reduceMul, Nat.reduceSub, Nat.reduceLeDiff, Nat.reduceLT, f1, f6, r1.ld, stg, Nat.zero_add, Cells.len hy.s, Int.lt_irrefl, w1, em, hm, hF]
end Go.Vm.St
