/- Texts of the proofs of this seat, put together: VmMapK, VmLib, S4Base, S4Ref, S4Ref2, S4Ref3, S4Fault. -/
import Derived.Test.YtlkambpieajplaaGreatPt3
import Derived.Test.YtlkambpieajplaaGreatProg

namespace Go.Vm
set_option linter.unusedSimpArgs false
set_option linter.unusedVariables false
variable {P : Program} {N : Nat} {f : Fr} {h : AHeap} {ty t u e : TypeId} {x y : Operand}
section
variable {α : Type} [DecidableEq α]
def entK (kv : α → Value) (x : α × Int × Nat) : MapEntry := ⟨kv x.1, .int .i64 x.2.1, x.2.2⟩
def findK (p : α) : List (α × Int × Nat) → Nat → Option (Nat × Value)
  | [], _ => none
  | x :: l, i => if p = x.1 then some (i, .int .i64 x.2.1) else findK p l (i + 1)
def valK (p : α) : List (α × Int × Nat) → Int
  | [] => 0
  | x :: l => if p = x.1 then x.2.1 else valK p l
structure KeyOk (P : Program) (t : TypeId) (kv : α → Value) : Prop where
  find : ∀ (p : α) (b : Bool) (l : List (α × Int × Nat)), findA P b t (kv p) ⟨l.map (entK kv)⟩ = some (findK p l 0)
  plain : ∀ p, plainV (kv p) = true
  same : ∀ p, Instr.sameBits 10000 (kv p) (kv p) = true
theorem find_of {kv : α → Value} (hc : ∀ (b : Bool) (p : α), pureRun P (Instr.checkKey b 10000 t (kv p)) = some ()) (he : ∀ p q, pureRun P (Op.equal t (kv p) (kv q)) = some (decide (p = q)))
    {fs : Array Field} (hu : P.underlying t = some (.struct fs)) (p : α) (b : Bool) (l : List (α × Int × Nat)) : findA P b t (kv p) ⟨l.map (entK kv)⟩ = some (findK p l 0) := by
  unfold findA
  rw [pureRun_bind, hc]
  show pureRun P (Instr.findKey t (kv p) (l.map (entK kv))) = _
  have ha : ∀ (l : List (α × Int × Nat)) (i : Nat), pureRun P (Instr.findAsking t (kv p) (l.map (entK kv)) i) = some (findK p l i) := by
    intro l
    induction l with
    | nil => intro i; simp [Instr.findAsking, findK, pr_pure]
    | cons x l ih =>
      intro i
      rw [List.map_cons, Instr.findAsking, pureRun_bind]
      show Option.bind (pureRun P (Op.equal t (kv p) (kv x.1))) _ = _
      rw [he, Option.bind_some]
      by_cases c : p = x.1
      · rw [decide_eq_true c]
        simp only [if_true, pr_pure, findK, c, entK]
      · rw [decide_eq_false c]
        simp only [Bool.false_eq_true, if_false, findK, c]
        exact ih (i + 1)
  have ha := ha l 0
  unfold Instr.findKey
  rw [pureRun_bind, pr_under hu, Option.bind_some]
  cases l with
  | nil => simp [Instr.findNow, findK, pr_pure]
  | cons x l =>
    have : Instr.findNow (.struct fs) (kv p) ((x :: l).map (entK kv)) 0 = none := by simp [Instr.findNow, Instr.sameNow]
    rw [this]
    exact ha
theorem findK_none {p : α} : ∀ (l : List (α × Int × Nat)) (i : Nat), findK p l i = none → p ∉ l.map (·.1)
  | [], _, _ => by simp
  | x :: l, i, h => by
    simp only [findK] at h
    by_cases c : p = x.1
    · rw [if_pos c] at h; cases h
    · rw [if_neg c] at h
      have := findK_none l (i + 1) h
      simp only [List.map_cons, List.mem_cons, not_or]
      exact ⟨c, this⟩
theorem findK_some {p : α} : ∀ (l : List (α × Int × Nat)) (i j : Nat) (v : Value), findK p l i = some (j, v) → ∃ c, i ≤ j ∧ l[j - i]? = some (p, valK p l, c) ∧ v = .int .i64 (valK p l)
  | [], _, _, _, h => by cases h
  | x :: l, i, j, v, h => by
    simp only [findK] at h
    by_cases c : p = x.1
    · rw [if_pos c] at h
      cases h
      refine ⟨x.2.2, Nat.le_refl _, ?_, ?_⟩
      · rw [Nat.sub_self, List.getElem?_cons_zero]
        simp [valK, c]
      · simp [valK, c]
    · rw [if_neg c] at h
      obtain ⟨b, h1, h2, h3⟩ := findK_some l (i + 1) j v h
      refine ⟨b, by omega, ?_, ?_⟩
      · have : j - i = (j - (i + 1)) + 1 := by omega
        rw [this, List.getElem?_cons_succ, h2]
        simp [valK, c]
      · rw [h3]; simp [valK, c]
theorem valK_none {p : α} : ∀ (l : List (α × Int × Nat)), p ∉ l.map (·.1) → valK p l = 0
  | [], _ => rfl
  | x :: l, h => by
    simp only [List.map_cons, List.mem_cons, not_or] at h
    simp only [valK, if_neg h.1]
    exact valK_none l h.2
theorem valK_app {p q : α} {v : Int} {c : Nat} : ∀ (l : List (α × Int × Nat)), q ∉ l.map (·.1) → valK p (l ++ [(q, v, c)]) = if p = q then v else valK p l
  | [], _ => by simp [valK]
  | x :: l, h => by
    simp only [List.map_cons, List.mem_cons, not_or] at h
    rw [List.cons_append]
    simp only [valK]
    by_cases e : p = x.1
    · have : p ≠ q := fun e' => h.1 (e' ▸ e)
      rw [if_pos e, if_pos e, if_neg this]
    · rw [if_neg e, if_neg e, valK_app l h.2]
theorem valK_set {p q : α} {v : Int} : ∀ (l : List (α × Int × Nat)) (i : Nat) (w : Int) (c : Nat), (l.map (·.1)).Nodup → l[i]? = some (q, w, c) → valK p (l.set i (q, v, c)) = if p = q then v else valK p l
  | [], _, _, _, _, h => by simp at h
  | x :: l, 0, w, c, hn, h => by
    rw [List.getElem?_cons_zero] at h
    cases h
    simp only [List.set_cons_zero, valK]
    by_cases e : p = q
    · rw [if_pos e, if_pos e]
    · rw [if_neg e, if_neg e, if_neg e]
  | x :: l, i + 1, w, c, hn, h => by
    rw [List.getElem?_cons_succ] at h
    rw [List.map_cons, List.nodup_cons] at hn
    simp only [List.set_cons_succ, valK]
    have hq : q ∈ l.map (·.1) := List.mem_map.2 ⟨_, List.mem_of_getElem? h, rfl⟩
    by_cases e : p = x.1
    · have : p ≠ q := fun e' => hn.1 (by rw [← e, e']; exact hq)
      rw [if_pos e, if_pos e, if_neg this]
    · rw [if_neg e, if_neg e, valK_set l i w c hn.2 h]
structure Ents (l : List (α × Int × Nat)) (c : Nat) (m : α → Int) : Prop where
  val : ∀ p, valK p l = m p
  keys : (l.map (·.1)).Nodup
  borns : (l.map (·.2.2)).Nodup
  below : ∀ x, x ∈ l → x.2.2 < c
def MapF (h : AHeap) (r : Nat) (kv : α → Value) (m : α → Int) : Prop := ∃ (l : List (α × Int × Nat)) (c : Nat), h.get r = some (.map ⟨l.map (entK kv)⟩ c) ∧ Ents l c m
def MapS (h : AHeap) (r : Nat) (kv : α → Value) (m : α → Int) (p : α) (b : Nat) : Prop := ∃ (l : List (α × Int × Nat)) (c i : Nat), h.get r = some (.map ⟨l.map (entK kv)⟩ c) ∧ Ents l c m ∧ l[i]? = some (p, m p, b)
variable {kv : α → Value} {m : α → Int} {r b : Nat} {p : α}
theorem MapS.map (hm : MapS h r kv m p b) : MapF h r kv m := by
  obtain ⟨l, c, i, h1, h2, _⟩ := hm
  exact ⟨l, c, h1, h2⟩
structure Turned (h g : AHeap) (r : Nat) : Prop where
  old : ∀ i, i ≠ r → g.get i = h.get i
  next : g.next = h.next
  floor : g.floor = h.floor
theorem Turned.sub {h1 : AHeap} (ht : Turned h h1 r) (hm : MapF h r kv m) : Sub All h h1 := by
  intro i cs rw' gr _ hi
  by_cases e : i = r
  · subst e
    obtain ⟨l, c, h2, _⟩ := hm
    rw [h2] at hi; cases hi
  · rw [ht.old i e]; exact hi
theorem MapF.keep {h g : AHeap} (hm : MapF h r kv m) (hg : g.get r = h.get r) : MapF g r kv m := by
  obtain ⟨l, c, h2, h3⟩ := hm
  exact ⟨l, c, by rw [hg]; exact h2, h3⟩
theorem MapF.shut (hm : MapF h r kv m) : MapF h.shutAll r kv m := hm.keep rfl
theorem MapF.lt (hm : MapF h r kv m) : r < h.next := by
  obtain ⟨l, c, h2, h3⟩ := hm
  exact AHeap.lt_of_get h2
theorem lookupF (hk : KeyOk P t kv) (hm : MapF h r kv m) (p : α) : lookupA P t (.int .i64 0) false h (.map (some r)) (kv p) = some (.int .i64 (m p), h) := by
  obtain ⟨l, c, hg, he⟩ := hm
  have hz : plainV (.int .i64 0) = true := rfl
  unfold lookupA amap
  simp only [hg, hk.plain, hz, Bool.and_self, cond_true, hk.find, ← he.val p]
  cases hf : findK p l 0 with
  | none =>
    have := valK_none l (findK_none l 0 hf)
    simp only [cond_false, this]
  | some q =>
    obtain ⟨i, v⟩ := q
    obtain ⟨_, _, _, rfl⟩ := findK_some l 0 i v hf
    have : plainV (.int .i64 (valK p l)) = true := rfl
    simp only [this, cond_true, cond_false]
theorem setMap_run {es : Array MapEntry} {c : Nat} {v : Value} (hr : r < h.next) (hf : h.next ≤ far) : ∃ g, setMap h r es c v = some (v, g) ∧ g.get r = some (.map es c) ∧ Turned h g r := by
  refine ⟨h.with r (some (.map es c)), ?_, ?_, ?_, rfl, rfl⟩
  · unfold setMap; rw [AHeap.put_eq]
  · rw [AHeap.get_with hr hf, if_pos rfl]
  · intro i hi
    rw [AHeap.get_with hr hf, if_neg (Ne.symm hi)]
theorem entryF (hk : KeyOk P t kv) (hm : MapF h r kv m) (hfl : h.floor ≤ r) (hf : h.next ≤ far) (p : α) :
    ∃ (b : Nat) (g : AHeap), mapEntryA P t (.int .i64 0) h (.map (some r)) (kv p) = some (.tuple #[.int .i64 (m p), goInt b], g) ∧ MapS g r kv m p b ∧ Turned h g r := by
  have hlt := hm.lt
  obtain ⟨l, c, hg, he⟩ := hm
  have hz : plainV (.int .i64 0) = true := rfl
  unfold mapEntryA amap
  simp only [hg, hk.plain, hz, Bool.and_self, cond_true, hk.find, ble_iff.2 hfl]
  cases hfd : findK p l 0 with
  | none =>
    have hp := findK_none l 0 hfd
    have hv := valK_none l hp
    obtain ⟨g, e, hg', ht⟩ := setMap_run (h := h) (es := (⟨l.map (entK kv)⟩ : Array MapEntry).push { key := kv p, val := .int .i64 0, born := c }) (c := c + 1) (v := .tuple #[.int .i64 0, goInt c]) hlt hf
    refine ⟨c, g, ?_, ?_, ht⟩
    · rw [← he.val p, hv]
      exact e
    · refine ⟨l ++ [(p, 0, c)], c + 1, l.length, ?_, ⟨?_, ?_, ?_, ?_⟩, ?_⟩
      · rw [hg', List.push_toArray, List.map_append]; rfl
      · intro q
        rw [valK_app l hp, he.val]
        by_cases e : q = p
        · rw [if_pos e, e, ← he.val p, hv]
        · rw [if_neg e]
      · rw [List.map_append, List.nodup_append]
        refine ⟨he.keys, by simp, ?_⟩
        intro a ha b hb e
        simp only [List.map_cons, List.map_nil, List.mem_singleton] at hb
        exact hp (by rw [← hb, ← e]; exact ha)
      · rw [List.map_append, List.nodup_append]
        refine ⟨he.borns, by simp, ?_⟩
        intro a ha b hb e
        simp only [List.map_cons, List.map_nil, List.mem_singleton] at hb
        obtain ⟨x, hx, rfl⟩ := List.mem_map.1 ha
        have := he.below x hx
        omega
      · intro x hx
        rcases List.mem_append.1 hx with hx | hx
        · have := he.below x hx; omega
        · simp only [List.mem_singleton] at hx
          subst hx; exact Nat.lt_succ_self _
      · rw [List.getElem?_append_right (Nat.le_refl _), Nat.sub_self, List.getElem?_cons_zero, ← he.val p, hv]
  | some q =>
    obtain ⟨i, v⟩ := q
    obtain ⟨b, _, hi, rfl⟩ := findK_some l 0 i v hfd
    rw [Nat.sub_zero] at hi
    have hi2 : (⟨l.map (entK kv)⟩ : Array MapEntry)[i]? = some (entK kv (p, valK p l, b)) := by
      rw [List.getElem?_toArray, List.getElem?_map, hi]; rfl
    have hpv : plainV (.int .i64 (valK p l)) = true := rfl
    obtain ⟨g, e, hg', ht⟩ := setMap_run (h := h) (es := (⟨l.map (entK kv)⟩ : Array MapEntry).modify i fun e => { e with key := kv p }) (c := c) (v := .tuple #[.int .i64 (valK p l), goInt b]) hlt hf
    refine ⟨b, g, ?_, ?_, ht⟩
    · simp only [hi2, Option.map_some, Option.getD_some, entK, hk.same, hpv, Bool.and_self, cond_true]
      rw [← he.val p]
      exact e
    · refine ⟨l, c, i, ?_, he, by rw [hi, he.val p]⟩
      rw [hg']
      congr 2
      apply Array.ext'
      rw [Array.toList_modify]
      apply List.ext_getElem?
      intro k
      rw [List.getElem?_modify]
      by_cases e : i = k
      · subst e
        have hi3 : (l.map (entK kv))[i]? = some (entK kv (p, valK p l, b)) := by rw [List.getElem?_map, hi]; rfl
        show Option.map _ ((l.map (entK kv))[i]?) = (l.map (entK kv))[i]?
        rw [hi3]; simp [entK]
      · simp [e]
theorem entryStoreF {b : Nat} (hm : MapS h r kv m p b) (hfl : h.floor ≤ r) (hf : h.next ≤ far) (v : Int) :
    ∃ g, entryStoreA h (.map (some r)) (goInt b) (.int .i64 v) = some (undef, g) ∧ MapF g r kv (fun q => if q = p then v else m q) ∧ Turned h g r := by
  have hlt := hm.map.lt
  obtain ⟨l, c, i, hg, he, hi⟩ := hm
  have hpv : plainV (.int .i64 v) = true := rfl
  have hil : i < l.length := by
    rcases Nat.lt_or_ge i l.length with h1 | h1
    · exact h1
    · rw [List.getElem?_eq_none h1] at hi; cases hi
  have hfi : (⟨l.map (entK kv)⟩ : Array MapEntry).findIdx? (fun e => (e.born : Int) == (b : Int)) = some i := by
    rw [Array.findIdx?_eq_some_iff_getElem]
    have hi' : l[i] = (p, m p, b) := by
      have := List.getElem?_eq_getElem hil
      rw [this] at hi; exact Option.some.inj hi
    refine ⟨by simpa using hil, ?_, ?_⟩
    · simp [entK, hi']
    · intro j hj
      have hjl : j < l.length := by omega
      simp only [List.getElem_toArray, List.getElem_map, entK, beq_iff_eq, Int.natCast_inj, Bool.not_eq_true]
      have hne := List.pairwise_iff_getElem.1 he.borns j i (by simpa using hjl) (by simpa using hil) hj
      simp only [List.getElem_map, hi'] at hne
      simpa using hne
  unfold entryStoreA amap goInt
  simp only [hg, hpv, ble_iff.2 hfl, Bool.and_self, cond_true, hfi]
  obtain ⟨g, e, hg', ht⟩ := setMap_run (h := h) (es := (⟨l.map (entK kv)⟩ : Array MapEntry).modify i fun e => { e with val := .int .i64 v }) (c := c) (v := undef) hlt hf
  refine ⟨g, e, ⟨l.set i (p, v, b), c, ?_, ?_, ?_, ?_, ?_⟩, ht⟩
  · rw [hg']
    congr 2
    apply Array.ext'
    rw [Array.toList_modify]
    apply List.ext_getElem?
    intro k
    show _ = (List.map (entK kv) (l.set i (p, v, b)))[k]?
    rw [List.getElem?_modify, List.getElem?_map, List.getElem?_map, List.getElem?_set]
    by_cases e : i = k
    · subst e
      rw [if_pos rfl, if_pos hil, hi]
      simp [entK]
    · simp [e]
  · intro q
    rw [valK_set l i _ b he.keys hi, he.val]
  · rw [List.map_set]
    have : (l.map (·.1)).set i p = l.map (·.1) := by
      apply List.ext_getElem?
      intro k
      rw [List.getElem?_set]
      by_cases e : i = k
      · subst e; rw [if_pos rfl, List.length_map, if_pos hil, List.getElem?_map, hi]; rfl
      · simp [e]
    rw [this]; exact he.keys
  · rw [List.map_set]
    have : (l.map (·.2.2)).set i b = l.map (·.2.2) := by
      apply List.ext_getElem?
      intro k
      rw [List.getElem?_set]
      by_cases e : i = k
      · subst e; rw [if_pos rfl, List.length_map, if_pos hil, List.getElem?_map, hi]; rfl
      · simp [e]
    rw [this]; exact he.borns
  · intro x hx
    rcases List.mem_or_eq_of_mem_set hx with hx | rfl
    · exact he.below x hx
    · exact he.below (p, m p, b) (List.mem_of_getElem? hi)
theorem mkmapF (hf : h.next < far) (kv : α → Value) : ∃ g, (h.push (some (.map #[] 0)) fun i h => some (Value.map (some i), h)) = some (.map (some h.next), g) ∧ MapF g h.next kv (fun _ => 0) ∧ (∀ i, i < h.next → g.get i = h.get i) ∧ g.next = h.next + 1 ∧ g.floor = h.floor := by
  refine ⟨h.more (some (.map #[] 0)), by rw [push_run hf], ⟨[], 0, ?_, ?_⟩, ?_, rfl, rfl⟩
  · rw [AHeap.get_more hf]; simp
  · exact ⟨fun _ => rfl, by simp, by simp, fun x hx => by simp at hx⟩
  · intro i hi
    rw [AHeap.get_more hf, if_neg (by omega)]
end
def key2 (p : Int × Int) : Value := .agg ⟨[.int .i64 p.1, .int .i64 p.2]⟩
end Go.Vm

namespace Go.Vm
theorem rn0 : type_of% @W_skip ∧ type_of% @W_ret ∧ type_of% @W_exit ∧ type_of% @W_seq ∧ type_of% @W_block ∧ type_of% @then_norm' ∧ type_of% @then_exit' ∧ type_of% @then_ret' ∧ type_of% @block_norm' ∧ type_of% @block_ret' ∧ type_of% @block_exit' ∧ type_of% @W_cond ∧ type_of% @cond_true' ∧ type_of% @cond_false' ∧ type_of% @W_ops ∧ type_of% @ops_nil ∧ type_of% @ops_cons ∧ type_of% @ops_guard ∧ type_of% @step_some ∧ type_of% @g_tt ∧ type_of% @g_tf ∧ type_of% @g_ft ∧ type_of% @g_ff ∧ type_of% @put_some ∧ type_of% @put_none ∧ type_of% @upd_ite ∧ type_of% @val_tmp ∧ type_of% @fr0_zero ∧ type_of% @fr0_succ ∧ type_of% @ret_ret ∧ type_of% @ret_norm ∧ type_of% @res_tmp ∧ type_of% @ex_some ∧ type_of% @val_const ∧ type_of% @val_func ∧ type_of% @vals_nil ∧ type_of% @vals_cons ∧ type_of% @d_nil ∧ type_of% @d_free ∧ type_of% @d_rd1 ∧ type_of% @d_rd ∧ type_of% @d_up ∧ type_of% @d_any ∧ type_of% @same_some ∧ type_of% @up_some ∧ type_of% @all_reads ∧ type_of% @Sub.refl ∧ type_of% @x_mov ∧ type_of% @x_pick ∧ type_of% @pick_t ∧ type_of% @pick_f ∧ type_of% @x_field1 ∧ type_of% @x_fieldN ∧ type_of% @x_extract ∧ type_of% @x_box ∧ type_of% @x_alloc ∧ type_of% @x_load1 ∧ type_of% @x_loadN ∧ type_of% @withH_some' ∧ type_of% @x_store ∧ type_of% @x_mkfunc ∧ type_of% @x_mkslice ∧ type_of% @x_slice ∧ type_of% @x_fieldAddr ∧ type_of% @fieldAt_p ∧ type_of% @x_idxArr ∧ type_of% @x_idxSl ∧ type_of% @x_append ∧ type_of% @x_there ∧ type_of% @x_len ∧ type_of% @len_slice ∧ type_of% @x_not ∧ type_of% @not_bool ∧ type_of% @x_call ∧ type_of% @x_int2 ∧ type_of% @i_add ∧ type_of% @i_sub ∧ type_of% @i_mul ∧ type_of% @i_eql ∧ type_of% @i_neq ∧ type_of% @i_lss ∧ type_of% @i_leq ∧ type_of% @i_gtr ∧ type_of% @i_geq ∧ type_of% @x_plain ∧ type_of% @p_min ∧ type_of% @p_max ∧ type_of% @p_rem ∧ type_of% @p_quo ∧ type_of% @r_min ∧ type_of% @r_max ∧ type_of% @p_shl ∧ type_of% @p_or ∧ type_of% @p_and ∧ type_of% @p_andNot ∧ type_of% @eqV_i ∧ type_of% @x_bslice ∧ type_of% @x_build ∧ type_of% @res_cellN ∧ type_of% @res_cell1 ∧ type_of% @valN_tmp ∧ type_of% @valN_const ∧ type_of% @if_true.{1} ∧ type_of% @if_false.{1} ∧ type_of% @Nat.le_refl ∧ type_of% @true_and ∧ type_of% @and_true ∧ type_of% @decide_true ∧ type_of% @decide_false ∧ type_of% @Bool.not_true ∧ type_of% @Bool.not_false := And.intro @W_skip (And.intro @W_ret (And.intro @W_exit (And.intro @W_seq (And.intro @W_block (And.intro @then_norm' (And.intro @then_exit' (And.intro @then_ret' (And.intro @block_norm' (And.intro @block_ret' (And.intro @block_exit' (And.intro @W_cond (And.intro @cond_true' (And.intro @cond_false' (And.intro @W_ops (And.intro @ops_nil (And.intro @ops_cons (And.intro @ops_guard (And.intro @step_some (And.intro @g_tt (And.intro @g_tf (And.intro @g_ft (And.intro @g_ff (And.intro @put_some (And.intro @put_none (And.intro @upd_ite (And.intro @val_tmp (And.intro @fr0_zero (And.intro @fr0_succ (And.intro @ret_ret (And.intro @ret_norm (And.intro @res_tmp (And.intro @ex_some (And.intro @val_const (And.intro @val_func (And.intro @vals_nil (And.intro @vals_cons (And.intro @d_nil (And.intro @d_free (And.intro @d_rd1 (And.intro @d_rd (And.intro @d_up (And.intro @d_any (And.intro @same_some (And.intro @up_some (And.intro @all_reads (And.intro @Sub.refl (And.intro @x_mov (And.intro @x_pick (And.intro @pick_t (And.intro @pick_f (And.intro @x_field1 (And.intro @x_fieldN (And.intro @x_extract (And.intro @x_box (And.intro @x_alloc (And.intro @x_load1 (And.intro @x_loadN (And.intro @withH_some' (And.intro @x_store (And.intro @x_mkfunc (And.intro @x_mkslice (And.intro @x_slice (And.intro @x_fieldAddr (And.intro @fieldAt_p (And.intro @x_idxArr (And.intro @x_idxSl (And.intro @x_append (And.intro @x_there (And.intro @x_len (And.intro @len_slice (And.intro @x_not (And.intro @not_bool (And.intro @x_call (And.intro @x_int2 (And.intro @i_add (And.intro @i_sub (And.intro @i_mul (And.intro @i_eql (And.intro @i_neq (And.intro @i_lss (And.intro @i_leq (And.intro @i_gtr (And.intro @i_geq (And.intro @x_plain (And.intro @p_min (And.intro @p_max (And.intro @p_rem (And.intro @p_quo (And.intro @r_min (And.intro @r_max (And.intro @p_shl (And.intro @p_or (And.intro @p_and (And.intro @p_andNot (And.intro @eqV_i (And.intro @x_bslice (And.intro @x_build (And.intro @res_cellN (And.intro @res_cell1 (And.intro @valN_tmp (And.intro @valN_const (And.intro @if_true.{1} (And.intro @if_false.{1} (And.intro @Nat.le_refl (And.intro @true_and (And.intro @and_true (And.intro @decide_true (And.intro @decide_false (And.intro @Bool.not_true (@Bool.not_false))))))))))))))))))))))))))))))))))))))))))))))))))))))))))))))))))))))))))))))))))))))))))))))))))))))))))))))
end Go.Vm
namespace Go.Vm
abbrev jK (n : Int) : Operand := .const (.int .i64 n)
abbrev jO (d : Nat) (o : SOp) : SI := ⟨some d, none, o⟩
abbrev jF (d : Nat) (o : SOp) : DI := ⟨.free, ⟨some d, none, o⟩⟩
abbrev jR (d : Nat) (o : SOp) : DI := ⟨.rd, ⟨some d, none, o⟩⟩
abbrev jS (d : Nat) (o : SOp) : DI := ⟨.rd1, ⟨some d, none, o⟩⟩
abbrev jU (d : Nat) (o : SOp) : DI := ⟨.up, ⟨some d, none, o⟩⟩
abbrev jA (d : Nat) (o : SOp) : DI := ⟨.any, ⟨some d, none, o⟩⟩
end Go.Vm
namespace Go.Vm.Vat
set_option linter.unusedSimpArgs false
set_option linter.unusedVariables false
set_option maxRecDepth 10000
noncomputable def A (f : Nat) : Bool := inL [42, 116, 80, 125, 108, 32, 33, 88, 70, 31, 38, 39, 96, 44, 97, 45, 50, 47, 66, 71, 110, 57, 52, 23, 29, 37, 60, 62, 117, 113, 82, 118, 100, 84, 86, 92, 98, 87, 77, 91, 123, 114, 126, 81, 83, 85, 103, 30, 76, 79, 115, 95, 28, 49, 99, 119, 94, 40, 46, 107, 124, 129, 130, 53, 41, 75, 112, 68] f
variable {n : Nat} {h : AHeap}
def Ranges (h : AHeap) (v : Value) (n : Nat) (lo hi : Nat → Int) : Prop := Cells h v 2 n fun k j => .int .i64 (if j = 0 then lo k else hi k)
def Samps (h : AHeap) (v : Value) (n : Nat) (at_ lo hi : Nat → Int) : Prop := Cells h v 3 n fun k j => .int .i64 (if j = 0 then at_ k else if j = 1 then lo k else hi k)
theorem ranges_ld {v : Value} {n : Nat} {lo hi : Nat → Int} (hr : Ranges h v n lo hi) {k : Nat} (hk : k < n) : loadAgg 2 h (ptrO v 2 k 0) = some (.agg ⟨[.int .i64 (lo k), .int .i64 (hi k)]⟩) := by
  rw [Cells.ldN hr hk (by omega) (by omega)]; simp [List.range_succ]
theorem samps_ld {v : Value} {n : Nat} {at_ lo hi : Nat → Int} (hr : Samps h v n at_ lo hi) {k : Nat} (hk : k < n) : loadAgg 3 h (ptrO v 3 k 0) = some (.agg ⟨[.int .i64 (at_ k), .int .i64 (lo k), .int .i64 (hi k)]⟩) := by
  rw [Cells.ldN hr hk (by omega) (by omega)]; simp [List.range_succ]
theorem Cells.one {v : Value} {s n : Nat} {c : Nat → Nat → Value} (hc : Cells h v s n c) : oneCell v = true := by obtain ⟨a, cap, rfl, _⟩ := hc; rfl
variable {n : Nat} {h : AHeap}
variable {n : Nat} {h : AHeap}
variable {n : Nat} {h : AHeap}
theorem or_pow {a i : Nat} (ha : a < 2 ^ i) : a ||| 2 ^ i = a + 2 ^ i := by
  have := Nat.two_pow_add_eq_or_of_lt ha 1
  rw [Nat.mul_one] at this
  rw [Nat.or_comm, ← this, Nat.add_comm]
variable {n : Nat} {h : AHeap}
variable {n : Nat} {h : AHeap}
theorem build_range {x y : Int} : buildA (fun x => (#[(0, 1), (1, 1)] : Array (Nat × Nat))[x]?) ⟨[.int .i64 0, .int .i64 0]⟩ [0, 1] h [.int .i64 x, .int .i64 y] = some (.agg ⟨[.int .i64 x, .int .i64 y]⟩, h) := id rfl
structure Made (h h1 : AHeap) (k : Nat) : Prop where
  sub : Sub All h h1
  next : h1.next ≤ h.next + k
  up : h.next ≤ h1.next
  floor : h1.floor = h.floor
theorem Ints.cells {v : Value} {m : Nat} {a : Nat → Int} (hi : Ints h v m a) : ∃ x k, v = .slice x m k ∧ cellsOfSlice h 1 v = some ((List.range m).map fun i => .int .i64 (a i)) := by
  obtain ⟨x, cap, rfl, _, h0 | ⟨b, o, cs, w, gr, rfl, h1, h2⟩⟩ := hi
  · subst h0
    refine ⟨x, cap, rfl, ?_⟩
    cases x <;> rfl
  · refine ⟨_, cap, rfl, ?_⟩
    by_cases hm : m = 0
    · subst hm; rfl
    have hb : Nat.beq m 0 = false := by
      cases hb : Nat.beq m 0 with
      | false => rfl
      | true => exact absurd (beq_iff.1 hb) hm
    show (bif Nat.beq m 0 then some [] else match h.get b with
      | some (.row cs _ _) => dropK cs o fun r => takeK r (m * 1) fun l => some l
      | _ => none) = _
    have hl := (List.getElem?_eq_some_iff.1 (h2 (m - 1) 0 (by omega) (by omega))).1
    rw [hb, cond_false, h1]
    simp only [dropK_eq, takeK_eq]
    rw [if_pos (by omega), if_pos (by rw [List.length_drop]; omega)]
    congr 1
    apply List.ext_getElem?
    intro i
    simp only [List.getElem?_map, List.getElem?_take, List.getElem?_drop, Nat.mul_one]
    by_cases hi : i < m
    · rw [if_pos hi, List.getElem?_range hi]
      have := h2 i 0 hi (by omega)
      rw [show o + i * 1 + 0 = o + i by omega] at this
      rw [this]; rfl
    · rw [if_neg hi, List.getElem?_eq_none (by simp; omega)]
      rfl
theorem append_none {s bytes b : Nat} {y : Value} {m : Nat} {new : List Value} (hy : ∃ x k, y = .slice x m k) (hyc : cellsOfSlice h s y = some new) (hnl : new.length = m * s) (hb1 : m * bytes ≤ maxBytes) (hb2 : m ≤ maxBytes) :
    appendA s bytes h (.slice (some ⟨b, 0, none⟩) 0 0) y = if m = 0 then some (.slice (some ⟨b, 0, none⟩) 0 0, h) else newSlice h new m unk s := by
  obtain ⟨a, k, rfl⟩ := hy
  have e1 : Nat.ble ((0 + m) * bytes) maxBytes = true := ble_iff.2 (by rw [Nat.zero_add]; exact hb1)
  have e2 : Nat.ble (0 + m) maxBytes = true := ble_iff.2 (by omega)
  have e3 : Nat.beq (len new) (m * s) = true := by rw [len_eq]; exact beq_iff.2 hnl
  unfold appendA
  simp only [hyc, e1, e2, e3, Bool.and_self, cond_true]
  by_cases hm : m = 0
  · subst hm
    rw [if_pos rfl]
    rfl
  · rw [if_neg hm]
    have e4 : Nat.ble (0 + m) 0 = false := by
      cases hb : Nat.ble (0 + m) 0 with
      | false => rfl
      | true => have := ble_iff.1 hb; omega
    rw [e4, Bool.false_and, cond_false]
    unfold appendGrow
    have e5 : cellsOfSlice h s (.slice (some ⟨b, 0, none⟩) 0 0) = some [] := rfl
    have e6 : Nat.blt 0 unk = true := rfl
    simp only [e5, e6, cond_true, app_eq, List.nil_append, Nat.zero_add]
variable {n : Nat} {h : AHeap}
theorem sl_range {x y : Int} : buildSl 2 1 [.int .i64 0, .int .i64 0] [0] h [.agg ⟨[.int .i64 x, .int .i64 y]⟩] = newSlice h [.int .i64 x, .int .i64 y] 1 1 0 := id rfl
theorem sl_samp {x y z : Int} : buildSl 3 1 [.int .i64 0, .int .i64 0, .int .i64 0] [0] h [.agg ⟨[.int .i64 x, .int .i64 y, .int .i64 z]⟩] = newSlice h [.int .i64 x, .int .i64 y, .int .i64 z] 1 1 0 := id rfl
theorem build_samp {x y z : Int} : buildA (fun x => (#[(0, 1), (1, 2)] : Array (Nat × Nat))[x]?) ⟨[.int .i64 0, .int .i64 0, .int .i64 0]⟩ [0, 1] h [.int .i64 x, .agg ⟨[.int .i64 y, .int .i64 z]⟩] = some (.agg ⟨[.int .i64 x, .int .i64 y, .int .i64 z]⟩, h) := id rfl
abbrev nilS : Value := .slice none 0 0
variable {n : Nat} {h : AHeap}
variable {n : Nat} {h : AHeap}
def sizeN (lo hi : Nat → Int) : Nat → Int
  | 0 => 1
  | i + 1 => sizeN lo hi i * (hi i - lo i + 1)
variable {n : Nat} {h : AHeap}
variable {n : Nat} {h : AHeap}
theorem idxArr_p {l k b o : Nat} (hk : k < l) : indexArr l 1 (.pointer (some ⟨b, o, none⟩)) (.int .i64 (k : Int)) = some (.pointer (some ⟨b, o + k, none⟩)) := by
  show placeAt ⟨b, o, none⟩ (Int.ofNat k) l 1 = _
  unfold placeAt
  simp only [blt_iff.2 hk, cond_true, Nat.mul_one]
def arr (b : Nat → Int) : List Value := (List.range 5).map fun i => .int .i64 (b i)
variable {n : Nat} {h : AHeap}
theorem _root_.Go.Vm.Row.whole {b n : Nat} {cs : List Value} (hr : Row h b cs) (hl : cs.length = n) : loadAgg n h (.pointer (some ⟨b, 0, none⟩)) = some (.agg ⟨cs⟩) := by
  rw [hr.ldN 0 n (by omega) (by simp [hl]), List.drop_zero, ← hl, List.take_length]
variable {n : Nat} {h : AHeap}
theorem x_buildArr {P : Program} {cf : CallF} {N : Nat} {f : Fr} {s : Nat} {zc : List Value} {is : List Nat} {vs : List Operand} : sem P cf N f h (.buildArr s zc is vs) = buildA (fun i => some (i * s, s)) ⟨zc⟩ is h (vals f vs) := id rfl
theorem res_two {a n t : Nat} {f : Fr} : resV f h [.cellN a n, .tmp t] = match loadAgg n h (f a) with
  | some v => some (.tuple ⟨[v, f t]⟩)
  | none => none := by
  simp only [resV, resL, res1]
  cases loadAgg n h (f a) <;> rfl
theorem splice_all {cs vs : List Value} (hl : cs.length = vs.length) : splice cs 0 vs = vs := by simp [splice, hl]
variable {n : Nat} {h : AHeap}
theorem make_ints {s : Nat} {z : List Value} {m : Nat} (hm : m ≤ 1000) : makeSl s 8 z h (.int .i64 (m : Int)) (.int .i64 (m : Int)) = newSlice h (repl z m) m m 0 := by
  show (bif Nat.ble m m && Nat.ble (m * 8) maxBytes && Nat.ble m maxBytes then newSlice h (repl z m) m m 0 else none) = _
  have e1 : Nat.ble m m = true := ble_iff.2 (Nat.le_refl _)
  have e2 : Nat.ble (m * 8) maxBytes = true := ble_iff.2 (by simp [maxBytes]; omega)
  have e3 : Nat.ble m maxBytes = true := ble_iff.2 (by simp [maxBytes]; omega)
  rw [e1, e2, e3]; rfl
theorem ex0 {x y : Value} : extractA 0 (.tuple ⟨[x, y]⟩) h = some (x, h) := id rfl
theorem ex1 {x y : Value} : extractA 1 (.tuple ⟨[x, y]⟩) h = some (y, h) := id rfl
theorem ret_tt {a b : Nat} {f : Fr} : resV f h [.tmp a, .tmp b] = some (.tuple ⟨[f a, f b]⟩) := id rfl
variable {n : Nat} {h : AHeap}
def enumB (lo hi : Nat → Int) : Nat → Nat → (Nat → Int) → List (Nat → Int)
  | 0, _, c => [c]
  | d + 1, i, c => (List.range (hi i - lo i + 1).toNat).flatMap fun (k : Nat) => enumB lo hi d (i + 1) fun j => if j = i then lo i + (k : Int) else c j
theorem enumB_congr {lo hi : Nat → Int} : ∀ (d i : Nat) (c c' : Nat → Int), (∀ j, j < i ∨ i + d ≤ j → c j = c' j) → enumB lo hi d i c = enumB lo hi d i c'
  | 0, i, c, c', hc => by
    have : c = c' := funext fun j => hc j (by omega)
    rw [this]
  | d + 1, i, c, c', hc => by
    simp only [enumB]
    congr 1
    funext k
    refine enumB_congr d (i + 1) _ _ fun j hj => ?_
    by_cases e : j = i
    · simp [e]
    · simp only [e, if_false]
      exact hc j (by omega)
def runL {σ α : Type} (step : σ → α → σ × Bool) : σ → List α → σ × Bool
  | s, [] => (s, true)
  | s, x :: l => if (step s x).2 then runL step (step s x).1 l else ((step s x).1, false)
theorem runL_append {σ α : Type} {step : σ → α → σ × Bool} : ∀ (l1 l2 : List α) (s : σ), runL step s (l1 ++ l2) = if (runL step s l1).2 then runL step (runL step s l1).1 l2 else runL step s l1
  | [], l2, s => by simp [runL]
  | x :: l1, l2, s => by
    simp only [List.cons_append, runL]
    by_cases e : (step s x).2 = true
    · simp only [e, if_true]; exact runL_append l1 l2 _
    · simp [e]
section
variable {σ : Type}
structure It (pw py pc : Nat) (W : List Value) (yv cv F : Value) (nf : Nat) (lo hi : Nat → Int) (g : AHeap) : Prop where
  w : Row g pw W
  y : Row g py [yv]
  c : Row g pc [cv]
  f : Ranges g F nf lo hi
theorem It.set {pw py pc pb gr : Nat} {W cs : List Value} {yv cv F : Value} {nf : Nat} {lo hi : Nat → Int} {g g' : AHeap} (hi' : It pw py pc W yv cv F nf lo hi g) (hs : Set1 g g' pb cs gr) (h1 : pw ≠ pb) (h2 : py ≠ pb) (h3 : pc ≠ pb)
    (hF : ∀ a k cap, F = .slice (some a) k cap → a.block ≠ pb ∨ nf = 0) : It pw py pc W yv cv F nf lo hi g' := by
  refine ⟨hi'.w.keep hs.keep h1, hi'.y.keep hs.keep h2, hi'.c.keep hs.keep h3, ?_⟩
  obtain ⟨a, cap, e, hsp, h0 | ⟨b, o, cs, w, gr, rfl, e1, e2⟩⟩ := hi'.f
  · exact ⟨a, cap, e, hsp, .inl h0⟩
  · rcases hF _ _ _ e with h4 | h4
    · exact ⟨_, cap, e, hsp, .inr ⟨b, o, cs, w, gr, rfl, hs.keep.sub _ _ _ _ h4 e1, e2⟩⟩
    · exact ⟨_, cap, e, hsp, .inl h4⟩
theorem part_flat {α : Type} (f : Nat → List α) {k m : Nat} (hk : k < m) : ∃ l, (List.range m).flatMap f = (List.range k).flatMap f ++ (f k ++ l) := by
  refine ⟨((List.range (m - (k + 1))).map (k + 1 + ·)).flatMap f, ?_⟩
  have : List.range m = List.range k ++ ([k] ++ (List.range (m - (k + 1))).map (k + 1 + ·)) := by
    have h1 := List.range_add (n := k + 1) (m := m - (k + 1))
    rw [show k + 1 + (m - (k + 1)) = m by omega] at h1
    rw [h1, List.range_succ, List.append_assoc]
  rw [this, List.flatMap_append, List.flatMap_append]
  simp
structure Old (g g1 : AHeap) (k : Nat) : Prop where
  old : ∀ i, i < g.next → g1.get i = g.get i
  next : g1.next = g.next + k
  floor : g1.floor = g.floor
theorem Old.sub {g g1 : AHeap} {k : Nat} (ho : Old g g1 k) : Sub All g g1 := fun i cs w gr _ hg => by rw [ho.old i (AHeap.lt_of_get hg)]; exact hg
end
variable {n : Nat} {h : AHeap}
section
variable {σ : Type}
end
variable {n : Nat} {h : AHeap}
def prodFrom (lo hi : Nat → Int) : Nat → Nat → Int
  | 0, _ => 1
  | d + 1, i => (hi i - lo i + 1) * prodFrom lo hi d (i + 1)
theorem sizeN_prod {lo hi : Nat → Int} : ∀ (d i : Nat), sizeN lo hi (i + d) = sizeN lo hi i * prodFrom lo hi d i
  | 0, i => by simp [prodFrom]
  | d + 1, i => by
    have := sizeN_prod (lo := lo) (hi := hi) d (i + 1)
    rw [show i + (d + 1) = i + 1 + d by omega, this]
    simp only [sizeN, prodFrom, Int.mul_assoc]
theorem enumB_len {lo hi : Nat → Int} : ∀ (d i : Nat) (c : Nat → Int), (∀ k, i ≤ k → k < i + d → lo k ≤ hi k) → ((enumB lo hi d i c).length : Int) = prodFrom lo hi d i
  | 0, i, c, _ => by simp [enumB, prodFrom]
  | d + 1, i, c, hv => by
    have h0 := hv i (by omega) (by omega)
    have hm : ((hi i - lo i + 1).toNat : Int) = hi i - lo i + 1 := Int.toNat_of_nonneg (by omega)
    have : ∀ m : Nat, ((((List.range m).flatMap fun (k : Nat) => enumB lo hi d (i + 1) fun j => if j = i then lo i + (k : Int) else c j).length : Nat) : Int) = m * prodFrom lo hi d (i + 1) := by
      intro m
      induction m with
      | zero => simp
      | succ m ih =>
        rw [List.range_succ, List.flatMap_append, List.length_append]
        have e := enumB_len d (i + 1) (fun j => if j = i then lo i + (m : Int) else c j) fun k h1 h2 => hv k (by omega) (by omega)
        simp only [List.flatMap_cons, List.flatMap_nil, List.append_nil]
        rw [Int.natCast_add, ih, e, Int.natCast_add, Int.add_mul]
        simp
    simp only [enumB, prodFrom]
    rw [this, hm]
theorem enumB_ok {lo hi : Nat → Int} : ∀ (d i : Nat) (c x : Nat → Int), x ∈ enumB lo hi d i c ↔ ((∀ j, i ≤ j → j < i + d → lo j ≤ x j ∧ x j ≤ hi j) ∧ ∀ j, j < i ∨ i + d ≤ j → x j = c j)
  | 0, i, c, x => by
    simp only [enumB, List.mem_singleton]
    constructor
    · rintro rfl; exact ⟨fun j h1 h2 => by omega, fun _ _ => rfl⟩
    · rintro ⟨_, h2⟩; exact funext fun j => h2 j (by omega)
  | d + 1, i, c, x => by
    simp only [enumB, List.mem_flatMap, List.mem_range, enumB_ok d (i + 1)]
    constructor
    · rintro ⟨k, hk, h1, h2⟩
      refine ⟨fun j h3 h4 => ?_, fun j hj => ?_⟩
      · by_cases e : j = i
        · subst e
          have := h2 j (by omega)
          simp only [if_true] at this
          omega
        · exact h1 j (by omega) (by omega)
      · have := h2 j (by omega)
        rw [if_neg (by omega)] at this
        exact this
    · rintro ⟨h1, h2⟩
      obtain ⟨h3, h4⟩ := h1 i (by omega) (by omega)
      refine ⟨(x i - lo i).toNat, by omega, fun j h5 h6 => h1 j (by omega) (by omega), fun j hj => ?_⟩
      by_cases e : j = i
      · subst e; simp only [if_true]; omega
      · simp only [e, if_false]; exact h2 j (by omega)
def TruthsR (h : AHeap) (v : Value) (l : List (Nat → Int)) : Prop := Cells h v 5 l.length fun k j => .int .i64 ((l.getD k fun _ => 0) j)
theorem _root_.Go.Vm.Cells.old {g : AHeap} {v : Value} {s n : Nat} {c : Nat → Nat → Value} (hc : Cells h v s n c) (ho : ∀ i, i < h.next → g.get i = h.get i) : Cells g v s n c :=
  hc.mono fun i cs w gr _ hg => by rw [ho i (AHeap.lt_of_get hg)]; exact hg
theorem _root_.Go.Vm.AHeap.subOf {g : AHeap} (ho : ∀ i, i < h.next → g.get i = h.get i) : Sub All h g := fun i cs w gr _ hg => by rw [ho i (AHeap.lt_of_get hg)]; exact hg
def Long (v : Value) : Prop := ∀ a n c, v = .slice a n c → c = 1 → n ≤ 1
theorem _root_.Go.Vm.GrowC.long {B s n : Nat} {v : Value} {c : Nat → Nat → Value} (hg : GrowC B h v s n c) : Long v := by
  obtain ⟨cs, ⟨rfl, _, _⟩ | ⟨b, rfl, _⟩, _⟩ := hg
  · intro a n c e; cases e; intro _; omega
  · intro a n c e; cases e; intro h; simp [unk] at h
variable {n : Nat} {h : AHeap}
def SameB (a b : Nat → Int) : Prop := ∀ k, k ∈ List.range 5 → a k = b k
instance (a b : Nat → Int) : Decidable (SameB a b) := inferInstanceAs (Decidable (∀ k, k ∈ List.range 5 → a k = b k))
theorem x_binA {P : Program} {cf : CallF} {N : Nat} {f : Fr} {b : BinOp} {op : Op} {ty : TypeId} {x y : Operand} : sem P cf N f h (.bin b op ty x y) = binA P N b op ty (val f x) (val f y) f h := id rfl
theorem binA_agg {P : Program} {N : Nat} {f : Fr} {op : Op} {ty : TypeId} {l r : Array Value} : binA P N .eql op ty (.agg l) (.agg r) f h = plainF P N op ty f h := id rfl
theorem truths_ld {v : Value} {l : List (Nat → Int)} (ht : TruthsR h v l) {k : Nat} (hk : k < l.length) : loadAgg 5 h (ptrO v 5 k 0) = some (.agg ⟨arr (l.getD k fun _ => 0)⟩) := by
  rw [Cells.ldN ht hk (by omega) (by omega)]
  simp [arr, List.range_succ]
def HasB (l : List (Nat → Int)) (c : Nat → Int) : Prop := ∃ k, k < l.length ∧ SameB c (l.getD k fun _ => 0)
noncomputable instance (l : List (Nat → Int)) (c : Nat → Int) : Decidable (HasB l c) := Classical.propDecidable _
variable {n : Nat} {h : AHeap}
theorem Made.trans {a b c : AHeap} {j k : Nat} (h1 : Made a b j) (h2 : Made b c k) : Made a c (j + k) := ⟨h1.sub.trans h2.sub, by have := h1.next; have := h2.next; omega, by have := h1.up; have := h2.up; omega, by rw [h2.floor, h1.floor]⟩
theorem Made.of {a b : AHeap} {cs : List Value} {gr : Nat} (hn : New a b cs gr) : Made a b 1 := ⟨hn.sub, by rw [hn.next]; omega, by rw [hn.next]; omega, hn.floor⟩
variable {n : Nat} {h : AHeap}
def sz (lo hi : Nat → Int) (k : Nat) : Nat := (hi k - lo k + 1).toNat
def divN (s : Nat → Nat) (m : Nat) : Nat → Nat
  | 0 => m
  | k + 1 => divN s m k / s k
theorem one_get {v : Value} : ∀ j, j < 1 → [v][j]? = some v := fun j hj => by
  have : j = 0 := by omega
  subst this; rfl
theorem sl_int {x : Int} : buildSl 1 1 [.int .i64 0] [0] h [.int .i64 x] = newSlice h [.int .i64 x] 1 1 0 := id rfl
variable {n : Nat} {h : AHeap}
def GrowRows (B : Nat) (h : AHeap) (v : Value) (n : Nat) (cnt : Nat → Nat) (q : Nat → Nat → Int) : Prop :=
  ∃ r : Nat → Value, GrowC B h v 1 n (fun k _ => r k) ∧ ∀ i, i < n → Ints h (r i) (cnt i) (q i) ∧ ∀ a m c, r i = .slice (some a) m c → B ≤ a.block ∧ a.block < h.next ∧ ∀ b m' c', v = .slice (some b) m' c' → a.block ≠ b.block
theorem GrowRows.nil {B : Nat} {cnt : Nat → Nat} {q : Nat → Nat → Int} : GrowRows B h nilS 0 cnt q := ⟨fun _ => nilS, .nil, fun i hi => by omega⟩
theorem GrowRows.keep {B o : Nat} {g : AHeap} {v : Value} {n : Nat} {cnt : Nat → Nat} {q : Nat → Nat → Int} (hg : GrowRows B h v n cnt q) (hk : Keep o h g) (ho : o < B) : GrowRows B g v n cnt q := by
  obtain ⟨r, h1, h2⟩ := hg
  refine ⟨r, h1.keep hk ho, fun i hi => ?_⟩
  obtain ⟨h3, h4⟩ := h2 i hi
  exact ⟨Cells.keep h3 hk fun a k c e => by have := (h4 a k c e).1; omega, fun a m c e => by
    obtain ⟨k1, k2, k3⟩ := h4 a m c e
    exact ⟨k1, Nat.lt_of_lt_of_le k2 hk.up, k3⟩⟩
theorem GrowRows.sub {B : Nat} {g : AHeap} {v : Value} {n : Nat} {cnt : Nat → Nat} {q : Nat → Nat → Int} (hg : GrowRows B h v n cnt q) (hs : Sub All h g) (hup : h.next ≤ g.next) : GrowRows B g v n cnt q := by
  obtain ⟨r, h1, h2⟩ := hg
  refine ⟨r, h1.sub hs, fun i hi => ?_⟩
  obtain ⟨h3, h4⟩ := h2 i hi
  exact ⟨Cells.mono h3 hs, fun a m c e => by
    obtain ⟨k1, k2, k3⟩ := h4 a m c e
    exact ⟨k1, Nat.lt_of_lt_of_le k2 hup, k3⟩⟩
theorem GrowRows.congr {B : Nat} {v : Value} {n : Nat} {cnt cnt' : Nat → Nat} {q q' : Nat → Nat → Int} (hg : GrowRows B h v n cnt q) (h1 : ∀ i, i < n → cnt i = cnt' i) (h2 : ∀ i, i < n → q i = q' i) : GrowRows B h v n cnt' q' := by
  obtain ⟨r, k1, k2⟩ := hg
  exact ⟨r, k1, fun i hi => by rw [← h1 i hi, ← h2 i hi]; exact k2 i hi⟩
theorem GrowRows.push {B : Nat} {h1 : AHeap} {v l : Value} {n : Nat} {cnt : Nat → Nat} {q : Nat → Nat → Int} (hg : GrowRows B h v n cnt q) (hB : h.floor ≤ B) (hf : h.next + 2 < far) (hBn : B ≤ h.next) (hl : Ints h l (cnt n) (q n)) (hone : oneCell l = true)
    (hb : ∀ a k c, l = .slice (some a) k c → B ≤ a.block ∧ a.block < h.next ∧ ∀ b m' c', v = .slice (some b) m' c' → a.block ≠ b.block) (hx : New h h1 [l] 0) (hn : (n + 1) * 24 ≤ maxBytes) (hn1 : n + 1 ≤ maxBytes) :
    ∃ v' g, appendA 1 24 h1 v (.slice (some ⟨h.next, 0, none⟩) 1 1) = some (v', g) ∧ GrowRows B g v' (n + 1) cnt q ∧ Kept h1 g v ∧ oneCell v' = true ∧ (∀ a k c, v = .slice (some a) k c → B ≤ a.block) := by
  obtain ⟨r, g1, g2⟩ := hg
  have hnx := hx.next
  have hfl := hx.floor
  let r' : Nat → Value := fun i => if i = n then l else r i
  have g1' : GrowC B h1 v 1 n (fun k _ => r' k) := (g1.sub hx.sub).congr fun k j hk hj => by show r k = if k = n then l else r k; rw [if_neg (by omega)]
  obtain ⟨v', g, e, ev, gv, hk⟩ := g1'.append (bytes := 24) (cap := 1) (by omega) (by omega) (by omega) hx.get rfl (by simp [allB, hone]) (fun j hj => by rw [one_get j hj]; show some l = some (if n = n then l else r n); rw [if_pos rfl]) hn hn1
  refine ⟨v', g, e, ⟨r', gv, fun i hi => ?_⟩, hk, gv.one, fun a k c e => (g1.block e).1⟩
  have hkn := hk.next
  have hmain : ∀ (x : Value) (m : Nat) (a : Nat → Int), Ints h x m a → (∀ a k c, x = .slice (some a) k c → B ≤ a.block ∧ a.block < h.next ∧ ∀ b m' c', v = .slice (some b) m' c' → a.block ≠ b.block) →
      Ints g x m a ∧ ∀ a k c, x = .slice (some a) k c → B ≤ a.block ∧ a.block < g.next ∧ ∀ b m' c', v' = .slice (some b) m' c' → a.block ≠ b.block := by
    intro x m a hx1 hx2
    refine ⟨Cells.kept (Cells.mono hx1 hx.sub) hk fun a k c e b k' c' e' => (hx2 a k c e).2.2 b k' c' e', fun a k c e => ?_⟩
    obtain ⟨k1, k2, _⟩ := hx2 a k c e
    refine ⟨k1, by omega, fun b m' c' e' => ?_⟩
    rw [ev] at e'
    cases e'
    show a.block ≠ h1.next
    omega
  by_cases hin : i = n
  · subst hin
    have : r' i = l := by show (if i = i then l else r i) = l; rw [if_pos rfl]
    rw [this]
    exact hmain l _ _ hl hb
  · have : r' i = r i := by show (if i = n then l else r i) = r i; rw [if_neg hin]
    rw [this]
    obtain ⟨k1, k2⟩ := g2 i (by omega)
    exact hmain _ _ _ k1 k2
def TruthsL (h : AHeap) (v : Value) (nf : Nat) (l : List (Nat → Int)) : Prop := Rows h v l.length (fun _ => nf) fun k => l.getD k fun _ => 0
def encF (s d : Nat → Nat) : Nat → Nat → Nat
  | 0, _ => 0
  | c + 1, i => d i + s i * encF s d c (i + 1)
theorem encF_div {s d : Nat → Nat} {nf : Nat} (hd : ∀ i, i < nf → d i < s i) : ∀ k, k ≤ nf → divN s (encF s d nf 0) k = encF s d (nf - k) k := by
  intro k
  induction k with
  | zero => intro _; rfl
  | succ k ih =>
    intro hk
    have h1 := hd k (by omega)
    obtain ⟨c, hc⟩ : ∃ c, nf - k = c + 1 := ⟨nf - k - 1, by omega⟩
    simp only [divN]
    rw [ih (by omega), hc, show nf - (k + 1) = c by omega]
    simp only [encF]
    rw [Nat.add_mul_div_left _ _ (by omega), Nat.div_eq_of_lt h1, Nat.zero_add]
theorem encF_mod {s d : Nat → Nat} {nf : Nat} (hd : ∀ i, i < nf → d i < s i) {k : Nat} (hk : k < nf) : divN s (encF s d nf 0) k % s k = d k := by
  rw [encF_div hd k (by omega)]
  obtain ⟨c, hc⟩ : ∃ c, nf - k = c + 1 := ⟨nf - k - 1, by omega⟩
  rw [hc]
  simp only [encF]
  rw [Nat.add_mul_mod_self_left, Nat.mod_eq_of_lt (hd k hk)]
def prodN (s : Nat → Nat) : Nat → Nat → Nat
  | 0, _ => 1
  | c + 1, i => s i * prodN s c (i + 1)
theorem encF_lt {s d : Nat → Nat} : ∀ (c i : Nat), (∀ j, i ≤ j → j < i + c → d j < s j) → encF s d c i < prodN s c i
  | 0, i, _ => by simp [encF, prodN]
  | c + 1, i, hd => by
    have h1 := hd i (by omega) (by omega)
    have h2 := encF_lt c (i + 1) fun j h1 h2 => hd j (by omega) (by omega)
    simp only [encF, prodN]
    have h3 : s i * (encF s d c (i + 1) + 1) ≤ s i * prodN s c (i + 1) := Nat.mul_le_mul_left _ h2
    rw [Nat.mul_add, Nat.mul_one] at h3
    omega
theorem prodN_from {lo hi : Nat → Int} : ∀ (c i : Nat), (∀ j, i ≤ j → j < i + c → lo j ≤ hi j) → ((prodN (sz lo hi) c i : Nat) : Int) = prodFrom lo hi c i
  | 0, i, _ => rfl
  | c + 1, i, hv => by
    have h1 := hv i (by omega) (by omega)
    have h2 := prodN_from (lo := lo) (hi := hi) c (i + 1) fun j h1 h2 => hv j (by omega) (by omega)
    have hsz : ((sz lo hi i : Nat) : Int) = hi i - lo i + 1 := Int.toNat_of_nonneg (by omega)
    simp only [prodN, prodFrom]
    rw [Int.natCast_mul, h2, hsz]
variable {n : Nat} {h : AHeap}
def minN (x : Int) (a : Nat → Int) : Nat → Int
  | 0 => x
  | i + 1 => min (minN x a i) (a i)
variable {n : Nat} {h : AHeap}
theorem mem_getD {L : List (Nat → Int)} {t : Nat → Int} (ht : t ∈ L) : ∃ i, i < L.length ∧ L.getD i (fun _ => 0) = t := by
  obtain ⟨i, hi, rfl⟩ := List.getElem_of_mem ht
  exact ⟨i, hi, by rw [List.getD_eq_getElem?_getD, List.getElem?_eq_getElem hi]; rfl⟩
variable {n : Nat} {h : AHeap}
theorem map_splice {F F' : Nat → Value} {m off : Nat} {vs : List Value} (hl : off + vs.length ≤ m) (h1 : ∀ i, i < m → (i < off ∨ off + vs.length ≤ i) → F' i = F i) (h2 : ∀ j, j < vs.length → vs[j]? = some (F' (off + j))) :
    splice ((List.range m).map F) off vs = (List.range m).map F' := by
  apply List.ext_getElem?
  intro i
  have hlen : ((List.range m).map F).length = m := by simp
  simp only [splice]
  by_cases hi : i < m
  · rw [List.getElem?_map, List.getElem?_range hi]
    by_cases c1 : i < off
    · rw [List.getElem?_append_left (by simp [hlen]; omega), List.getElem?_take, if_pos c1, List.getElem?_map, List.getElem?_range hi]
      simp [h1 i hi (.inl c1)]
    · rw [List.getElem?_append_right (by simp [hlen]; omega)]
      have e : (List.take off ((List.range m).map F)).length = off := by simp [hlen]; omega
      rw [e]
      by_cases c2 : i < off + vs.length
      · rw [List.getElem?_append_left (by omega), h2 (i - off) (by omega)]
        simp [show off + (i - off) = i by omega]
      · rw [List.getElem?_append_right (by omega), List.getElem?_drop, show off + vs.length + (i - off - vs.length) = i by omega, List.getElem?_map, List.getElem?_range hi]
        simp [h1 i hi (.inr (by omega))]
  · rw [List.getElem?_eq_none (by simp; omega), List.getElem?_eq_none (by simp [hlen]; omega)]
theorem splice2 {a b c d : Value} : splice [a, b] 0 [c, d] = [c, d] := rfl
theorem idxSl_s {s k m c o : Nat} (hk : k < m) : indexSl s (.slice (some ⟨o, 0, none⟩) m c) (.int .i64 (k : Int)) = some (.pointer (some ⟨o, k * s, none⟩)) := by
  show placeAt ⟨o, 0, none⟩ (Int.ofNat k) m s = _
  unfold placeAt
  simp only [blt_iff.2 hk, cond_true, Nat.zero_add]
variable {n : Nat} {h : AHeap}
variable {n : Nat} {h : AHeap}
variable {n : Nat} {h : AHeap}
variable {n : Nat} {h : AHeap}
def LexLt (a b : Nat → Int) (m : Nat) : Prop := ∃ j, j < m ∧ (∀ i, i < j → a i = b i) ∧ a j < b j
noncomputable instance (a b : Nat → Int) (m : Nat) : Decidable (LexLt a b m) := Classical.propDecidable _
def Shortlex (a : Nat → Int) (m : Nat) (b : Nat → Int) (k : Nat) : Prop := m < k ∨ m = k ∧ LexLt a b m
noncomputable instance (a : Nat → Int) (m : Nat) (b : Nat → Int) (k : Nat) : Decidable (Shortlex a m b k) := Classical.propDecidable _
variable {n : Nat} {h : AHeap}
variable {n : Nat} {h : AHeap}
theorem make_intsL {z : List Value} {m : Nat} (hm : m ≤ 1000) : makeSl 1 8 z h (.int .i64 (m : Int)) (.int .i64 (m : Int)) = newSlice h (repl z m) m m 0 := by
  show (bif Nat.ble m m && Nat.ble (m * 8) maxBytes && Nat.ble m maxBytes then newSlice h (repl z m) m m 0 else none) = _
  have e1 : Nat.ble m m = true := ble_iff.2 (Nat.le_refl _)
  have e2 : Nat.ble (m * 8) maxBytes = true := ble_iff.2 (by simp [maxBytes]; omega)
  have e3 : Nat.ble m maxBytes = true := ble_iff.2 (by simp [maxBytes]; omega)
  rw [e1, e2, e3]; rfl
def atL (l : List Int) (i : Nat) : Int := l.getD i 0
variable {P : Program} {N : Nat} {f : Fr} {h : AHeap} {ty t u : TypeId} {x y : Operand}
variable {n : Nat} {h : AHeap}
variable {n : Nat} {h : AHeap}
variable {P : Program} {N : Nat} {f : Fr} {h : AHeap}
theorem g_un {X : Cx} {Q : WPost} {f : Fr} {h : AHeap} {m : List Nat} {w : Bool} {d : Option Nat} {op : SOp} {L : List SI} : gW X undef w d op L Q f h m = opsW X L Q (putF f d undef) h m := by simp [gW, isB, undef]
variable {n : Nat} {h : AHeap}
open Classical in
noncomputable def pickL (p : Nat → Prop) : Nat → List Int
  | 0 => []
  | k + 1 => if p k then pickL p k ++ [(k : Int)] else pickL p k
theorem pick_yes {p : Nat → Prop} {k : Nat} (h : p k) : pickL p (k + 1) = pickL p k ++ [(k : Int)] := by rw [pickL, if_pos h]
theorem pick_no {p : Nat → Prop} {k : Nat} (h : ¬ p k) : pickL p (k + 1) = pickL p k := by rw [pickL, if_neg h]
theorem at_append {l : List Int} {x : Int} {i : Nat} (hi : i < l.length) : atL (l ++ [x]) i = atL l i := by unfold atL; rw [List.getD_eq_getElem?_getD, List.getD_eq_getElem?_getD, List.getElem?_append_left hi]
theorem at_last {l : List Int} {x : Int} : atL (l ++ [x]) l.length = x := by unfold atL; rw [List.getD_eq_getElem?_getD, List.getElem?_append_right (Nat.le_refl _)]; simp
theorem pick_at {p : Nat → Prop} : ∀ {k i : Nat}, i < (pickL p k).length → ∃ j : Nat, j < k ∧ atL (pickL p k) i = (j : Int) ∧ p j
  | 0, i, hi => (Nat.not_lt_zero _ hi).elim
  | k + 1, i, hi => by
    by_cases c : p k
    · rw [pick_yes c] at hi ⊢
      rw [List.length_append, List.length_singleton] at hi
      by_cases e : i < (pickL p k).length
      · rw [at_append e]
        obtain ⟨j, j1, j2, j3⟩ := pick_at e
        exact ⟨j, by omega, j2, j3⟩
      · have : i = (pickL p k).length := by omega
        subst this
        rw [at_last]; exact ⟨k, by omega, rfl, c⟩
    · rw [pick_no c] at hi ⊢
      obtain ⟨j, j1, j2, j3⟩ := pick_at hi
      exact ⟨j, by omega, j2, j3⟩
theorem pick_has {p : Nat → Prop} : ∀ {k j : Nat}, j < k → p j → ∃ i, i < (pickL p k).length ∧ atL (pickL p k) i = (j : Int)
  | 0, j, hj, _ => (Nat.not_lt_zero _ hj).elim
  | k + 1, j, hj, hp => by
    by_cases e : j = k
    · subst e
      rw [pick_yes hp, List.length_append, List.length_singleton]
      exact ⟨_, Nat.lt_succ_self _, at_last⟩
    · obtain ⟨i, i1, i2⟩ := pick_has (p := p) (k := k) (j := j) (by omega) hp
      by_cases c : p k
      · rw [pick_yes c, List.length_append, List.length_singleton]
        exact ⟨i, by omega, by rw [at_append i1]; exact i2⟩
      · rw [pick_no c]; exact ⟨i, i1, i2⟩
variable {n : Nat} {h : AHeap}
def Bit (b x : Nat) : Prop := b / 2 ^ x % 2 = 1
variable {n : Nat} {h : AHeap}
variable {n : Nat} {h : AHeap}
variable {n : Nat} {h : AHeap}
section
variable {α : Type}
def cntB (b : α → Int) (L : List α) (x : Int) : Nat := L.countP fun u => decide (b u = x)
end
variable {n : Nat} {h : AHeap}
def Seen (L : List (Nat → Int)) (p : (Nat → Int) → Prop) (k : Nat) : Prop := ∃ i, i < k ∧ p (L.getD i fun _ => 0)
noncomputable instance (L : List (Nat → Int)) (p : (Nat → Int) → Prop) (k : Nat) : Decidable (Seen L p k) := Classical.propDecidable _
variable {n : Nat} {h : AHeap}
theorem repl_one {x : Value} : ∀ m, repl [x] m = List.replicate m x
  | 0 => rfl
  | m + 1 => by rw [repl, repl_one m, List.replicate_succ]; rfl
theorem ints_row {g : AHeap} {b m cap gr : Nat} {w : Bool} {a : Nat → Int} (hg : g.get b = some (.row ((List.range m).map fun v => .int .i64 (a v)) w gr)) : Ints g (.slice (some ⟨b, 0, none⟩) m cap) m a :=
  ⟨_, _, rfl, fun x e => by cases e; rfl, .inr ⟨_, 0, _, _, _, rfl, hg, fun k j hk hj => by
    have : j = 0 := by omega
    subst this
    rw [Nat.zero_add, Nat.mul_one, Nat.add_zero, List.getElem?_map, List.getElem?_range hk]; rfl⟩⟩
section
variable {P : Program} {cf : CallF} {N : Nat} {f : Fr} {x y z : Operand}
theorem x_mkmap : sem P cf N f h .mkmap = h.push (some (.map #[] 0)) fun i h => some (.map (some i), h) := id rfl
theorem x_lookup {kt : TypeId} {zv : Value} {ok : Bool} : sem P cf N f h (.lookup kt zv ok x y) = lookupA P kt zv ok h (val f x) (val f y) := id rfl
theorem x_mapEntry {kt : TypeId} {zv : Value} : sem P cf N f h (.mapEntry kt zv x y) = mapEntryA P kt zv h (val f x) (val f y) := id rfl
theorem x_entryStore : sem P cf N f h (.entryStore x y z) = entryStoreA h (val f x) (val f y) (val f z) := id rfl
theorem extract_tup {i : Nat} {l : List Value} : extractA i (.tuple ⟨l⟩) h = (match l[i]? with | some v => some (v, h) | none => none) := by
  cases hv : l[i]? with
  | none => simp [extractA, hv]
  | some v => simp [extractA, hv]
end
variable {n : Nat} {h : AHeap}
variable {n : Nat} {h : AHeap}
section
variable {σ : Type}
structure ItS (pv py pc : Nat) (nv : Nat) (yv cv : Value) (g : AHeap) : Prop where
  v : Row g pv [.int .i64 (nv : Int)]
  y : Row g py [yv]
  c : Row g pc [cv]
theorem ItS.set {pv py pc pb gr nv : Nat} {cs : List Value} {yv cv : Value} {g g' : AHeap} (hi' : ItS pv py pc nv yv cv g) (hs : Set1 g g' pb cs gr) (h1 : pv ≠ pb) (h2 : py ≠ pb) (h3 : pc ≠ pb) : ItS pv py pc nv yv cv g' :=
  ⟨hi'.v.keep hs.keep h1, hi'.y.keep hs.keep h2, hi'.c.keep hs.keep h3⟩
end
variable {n : Nat} {h : AHeap}
variable {n : Nat} {h : AHeap}
theorem x_eqNil {P : Program} {cf : CallF} {N : Nat} {f : Fr} {w : Bool} {x y : Operand} : sem P cf N f h (.eqNil w x y) = eqNilA w (val f x) (val f y) h := id rfl
theorem eqNil_no {w : Bool} {a : Addr} {k c k2 c2 : Nat} : eqNilA w (.slice (some a) k c) (.slice none k2 c2) h = some (.bool (!w), h) := id rfl
theorem eqNil_yes {w : Bool} {k c k2 c2 : Nat} : eqNilA w (.slice none k c) (.slice none k2 c2) h = some (.bool w, h) := id rfl
theorem x_sliceArr {P : Program} {cf : CallF} {N : Nat} {f : Fr} {m s : Nat} {x : Operand} {lo hi : Option Operand} : sem P cf N f h (.sliceArr m s x lo hi) = sliceArr m s h (val f x) (lo.map (val f)) (hi.map (val f)) := id rfl
variable {n : Nat} {h : AHeap}
variable {n : Nat} {h : AHeap}
variable {n : Nat} {h : AHeap}
variable {n : Nat} {h : AHeap}
variable {n : Nat} {h : AHeap}
variable {n : Nat} {h : AHeap}
def Words (h : AHeap) (v : Value) (m : Nat) (a : Nat → Nat) : Prop := Cells h v 1 m (fun k _ => .int .u16 (a k : Int)) ∧ ∀ k, k < m → a k < 65536
theorem Words.mono {g : AHeap} {v : Value} {m : Nat} {a : Nat → Nat} (hw : Words h v m a) (hs : Sub All h g) : Words g v m a := ⟨Cells.mono hw.1 hs, hw.2⟩
def run16 (other : AHeap → Option (Value × AHeap)) (a : Value) (h : AHeap) : Option (Value × AHeap) :=
  match a with
  | .int .u16 a => some (.int .i64 (IntKind.wrap .i64 a), h)
  | _ => other h
theorem r_16 {other : AHeap → Option (Value × AHeap)} {k : Nat} (hk : k < 65536) : run16 other (.int .u16 (k : Int)) h = some (.int .i64 (k : Int), h) := by
  simp only [run16]
  rw [IntWalk.i64_in _ (by omega)]
def rowI (m : Nat) (c : Nat → Int) : List Value := (List.range m).map fun i => .int .i64 (c i)
theorem rowI_len {m : Nat} {c : Nat → Int} : (rowI m c).length = m := by simp [rowI]
theorem rowI_get {m k : Nat} {c : Nat → Int} (hk : k < m) : (rowI m c)[k]? = some (.int .i64 (c k)) := by unfold rowI; rw [List.getElem?_map, List.getElem?_range hk]; rfl
variable {n : Nat} {h : AHeap}
variable {n : Nat} {h : AHeap}
variable {n : Nat} {h : AHeap}
variable {n : Nat} {h : AHeap}
theorem ex30 {x y z : Value} : extractA 0 (.tuple ⟨[x, y, z]⟩) h = some (x, h) := id rfl
theorem ex31 {x y z : Value} : extractA 1 (.tuple ⟨[x, y, z]⟩) h = some (y, h) := id rfl
theorem ex32 {x y z : Value} : extractA 2 (.tuple ⟨[x, y, z]⟩) h = some (z, h) := id rfl
variable {n : Nat} {h : AHeap}
variable {n : Nat} {h : AHeap}
def flatL (s m : Nat) (c : Nat → Nat → Value) : List Value := (List.range (m * s)).map fun i => c (i / s) (i % s)
theorem flatL_len {s m : Nat} {c : Nat → Nat → Value} : (flatL s m c).length = m * s := by simp [flatL]
theorem flatL_get {s m k j : Nat} {c : Nat → Nat → Value} (hk : k < m) (hj : j < s) : (flatL s m c)[k * s + j]? = some (c k j) := by
  have hlt : k * s + j < m * s := by
    have : (k + 1) * s ≤ m * s := Nat.mul_le_mul_right s hk
    rw [Nat.add_mul] at this
    omega
  unfold flatL
  rw [List.getElem?_map, List.getElem?_range hlt, Option.map_some, Nat.mul_comm k s, Nat.mul_add_div (by omega), Nat.div_eq_of_lt hj, Nat.mul_add_mod, Nat.mod_eq_of_lt hj, Nat.add_zero]
theorem Cells.list {v : Value} {s m : Nat} {c : Nat → Nat → Value} (hs : 0 < s) (hi : Cells h v s m c) : ∃ x k, v = .slice x m k ∧ cellsOfSlice h s v = some (flatL s m c) := by
  obtain ⟨x, cap, rfl, _, h0 | ⟨b, o, cs, w, gr, rfl, h1, h2⟩⟩ := hi
  · subst h0
    refine ⟨x, cap, rfl, ?_⟩
    cases x <;> simp [cellsOfSlice, flatL]
  · refine ⟨_, cap, rfl, ?_⟩
    by_cases hm : m = 0
    · subst hm; simp [cellsOfSlice, flatL]
    have hb : Nat.beq m 0 = false := by
      cases hb : Nat.beq m 0 with
      | false => rfl
      | true => exact absurd (beq_iff.1 hb) hm
    show (bif Nat.beq m 0 then some [] else match h.get b with
      | some (.row cs _ _) => dropK cs o fun r => takeK r (m * s) fun l => some l
      | _ => none) = _
    have hl := (List.getElem?_eq_some_iff.1 (h2 (m - 1) (s - 1) (by omega) (by omega))).1
    have hms : (m - 1) * s + s = m * s := by
      obtain ⟨p, rfl⟩ : ∃ p, m = p + 1 := ⟨m - 1, by omega⟩
      rw [Nat.add_sub_cancel, Nat.add_mul, Nat.one_mul]
    rw [hb, cond_false, h1]
    simp only [dropK_eq, takeK_eq]
    rw [if_pos (by omega), if_pos (by rw [List.length_drop]; omega)]
    congr 1
    apply List.ext_getElem?
    intro i
    simp only [List.getElem?_take, List.getElem?_drop]
    by_cases hi : i < m * s
    · rw [if_pos hi]
      have hd : i / s < m := (Nat.div_lt_iff_lt_mul hs).2 hi
      have hr : i % s < s := Nat.mod_lt _ hs
      have e : i / s * s + i % s = i := by have := Nat.div_add_mod i s; rw [Nat.mul_comm] at this; exact this
      have h3 := h2 (i / s) (i % s) hd hr
      have h4 := flatL_get (c := c) hd hr
      rw [e] at h4
      rw [h4, ← h3]
      congr 1
      omega
    · rw [if_neg hi, List.getElem?_eq_none (by rw [flatL_len]; omega)]
theorem cells_sub {g : AHeap} {v : Value} {s m : Nat} {c : Nat → Nat → Value} (hsub : Sub All h g) (hc : Cells h v s m c) (hs : 0 < s) {l : List Value} (hl : cellsOfSlice h s v = some l) : cellsOfSlice g s v = some l := by
  obtain ⟨x, k, e, h1⟩ := Cells.list hs hc
  obtain ⟨x', k', e', h2⟩ := Cells.list hs (hc.mono hsub)
  rw [h1] at hl
  rw [h2, hl]
theorem flatL_one {s m : Nat} {c : Nat → Nat → Int} : allB oneCell (flatL s m fun k j => .int .i64 (c k j)) = true := by rw [allB_iff]; intro v hv; obtain ⟨i, _, rfl⟩ := List.mem_map.1 hv; rfl
variable {n : Nat} {h : AHeap}
theorem there_p {a : Addr} : thereA (.pointer (some a)) h = some (.pointer (some a), h) := id rfl
theorem cells_row {b s m cap : Nat} {cs : List Value} {c : Nat → Nat → Value} (hr : Row h b cs) (hc : ∀ k j, k < m → j < s → cs[k * s + j]? = some (c k j)) : Cells h (.slice (some ⟨b, 0, none⟩) m cap) s m c := by
  obtain ⟨w, gr, e⟩ := hr
  exact ⟨_, _, rfl, fun x e => by cases e; rfl, .inr ⟨b, 0, _, _, _, rfl, e, fun k j hk hj => by rw [Nat.zero_add]; exact hc k j hk hj⟩⟩
variable {n : Nat} {h : AHeap}
section
variable {H : Type} {enc : TypeId × Value → H} {w : World} {base : Nat} {sp : Nat → Bool} {held : Bool} {fuel : Nat} {cs : List Value} {x : DataW H × List MemPlace}
structure YardW (w : World) (fv vv sv : Value) : Prop where
  f : FlatS w .i64 2 fv
  s : FlatS w .i64 3 sv
  v : vv = .slice none 0 0 ∨ ∃ a len cap, vv = .slice (some a) len cap ∧ len ≤ cap ∧ ∀ i, i < len → ∃ v, w.cell? (a.add i) = some v ∧ FlatS w .i64 1 v
end
def Big (u0 u1 u2 : Value) : Prop := ∃ a0 n0 k0 a1 n1 k1 a2 n2 k2, u0 = .slice a0 n0 k0 ∧ u1 = .slice a1 n1 k1 ∧ u2 = .slice a2 n2 k2 ∧ (30 < n0 ∨ 30 < n1 ∨ 30 < n2)
variable {n : Nat} {h : AHeap}
theorem cell_slice {P : Program} {w : World} {r : Reach} {b : Nat} {t e : TypeId} {v x : Value} (ht : P.underlying t = some (.slice e)) (ho : Value.okWide P w r b t v) (hc : v.cells.toList = [x]) : v = x := by
  unfold Value.okWide at ho
  rw [ht] at ho
  cases v <;> simp_all [Value.cells, Cell.okWide, Cell.ok]
theorem cell_int {P : Program} {w : World} {r : Reach} {b : Nat} {t : TypeId} {k : IntKind} {v x : Value} (ht : P.underlying t = some (.int k)) (ho : Value.okWide P w r b t v) (hc : v.cells.toList = [x]) : v = x := by
  unfold Value.okWide at ho
  rw [ht] at ho
  cases v <;> simp_all [Value.cells, Cell.okWide, Cell.ok]
theorem agg_struct {P : Program} {w : World} {r : Reach} {b : Nat} {t : TypeId} {fs : Array Field} {v : Value} {cs : List Value} (ht : P.underlying t = some (.struct fs)) (ho : Value.okWide P w r b t v) (hc : v.cells.toList = cs) : v = .agg ⟨cs⟩ := by
  unfold Value.okWide at ho
  rw [ht] at ho
  obtain ⟨cs', rfl, _⟩ := ho
  subst hc
  rfl
theorem Big.one {u0 u1 u2 : Value} (hb : Big u0 u1 u2) : allB oneCell [u0, u1, u2] = true := by
  obtain ⟨a0, n0, k0, a1, n1, k1, a2, n2, k2, rfl, rfl, rfl, _⟩ := hb
  rfl
theorem map_int {φ : Emb} {k : IntKind} {a : Int} : mapV φ (.int k a) = .int k a := by simp [mapV]
variable {n : Nat} {h : AHeap}
variable {n : Nat} {h : AHeap}
def DRows (B : Nat) (h : AHeap) (v : Value) (n m : Nat) (q : Nat → Nat → Int) : Prop :=
  ∃ bk : Nat → Nat, GrowC B h v 1 n (fun k _ => .slice (some ⟨bk k, 0, none⟩) m unk) ∧ ∀ k, k < n → h.get (bk k) = some (.row (rowI m (q k)) true 1) ∧ B ≤ bk k ∧ bk k < h.next ∧ (∀ b c d, v = .slice (some b) c d → bk k ≠ b.block) ∧ ∀ j, j < n → j ≠ k → bk j ≠ bk k
theorem DRows.nil {B m : Nat} {q : Nat → Nat → Int} : DRows B h nilS 0 m q := ⟨fun _ => 0, .nil, fun k hk => by omega⟩
theorem DRows.keep {B o n m : Nat} {g : AHeap} {v : Value} {q : Nat → Nat → Int} (hd : DRows B h v n m q) (hk : Keep o h g) (ho : o < B) : DRows B g v n m q := by
  obtain ⟨bk, h1, h2⟩ := hd
  refine ⟨bk, h1.keep hk ho, fun k hkn => ?_⟩
  obtain ⟨a1, a2, a3, a4, a5⟩ := h2 k hkn
  exact ⟨hk.sub _ _ _ _ (by omega) a1, a2, Nat.lt_of_lt_of_le a3 hk.up, a4, a5⟩
theorem DRows.sub {B n m : Nat} {g : AHeap} {v : Value} {q : Nat → Nat → Int} (hd : DRows B h v n m q) (hs : Sub All h g) (hup : h.next ≤ g.next) : DRows B g v n m q := by
  obtain ⟨bk, h1, h2⟩ := hd
  refine ⟨bk, h1.sub hs, fun k hkn => ?_⟩
  obtain ⟨a1, a2, a3, a4, a5⟩ := h2 k hkn
  exact ⟨hs _ _ _ _ trivial a1, a2, Nat.lt_of_lt_of_le a3 hup, a4, a5⟩
theorem DRows.push {B n m b : Nat} {g h1 : AHeap} {v : Value} {q : Nat → Nat → Int} (hd : DRows B g v n m q) (hs : Sub All g h) (hup : g.next ≤ h.next) (hbg : g.next ≤ b) (hB : h.floor ≤ B) (hf : h.next + 2 < far) (hBn : B ≤ g.next) (hl : h.get b = some (.row (rowI m (q n)) true 1)) (hb : b < h.next) (hx : New h h1 [.slice (some ⟨b, 0, none⟩) m unk] 0) (hn : n + 1 ≤ 1000) :
    ∃ v' g', appendA 1 24 h1 v (.slice (some ⟨h.next, 0, none⟩) 1 1) = some (v', g') ∧ DRows B g' v' (n + 1) m q ∧ Kept h1 g' v ∧ oneCell v' = true ∧ (∀ a k c, v = .slice (some a) k c → B ≤ a.block) ∧ v' = .slice (some ⟨h1.next, 0, none⟩) (n + 1) unk := by
  obtain ⟨bk, g1, g2⟩ := hd
  have hnx := hx.next
  have hfl := hx.floor
  let bk' : Nat → Nat := fun i => if i = n then b else bk i
  have g1' : GrowC B h1 v 1 n (fun k _ => .slice (some ⟨bk' k, 0, none⟩) m unk) := ((g1.sub hs).sub hx.sub).congr fun k j hk hj => by show Value.slice (some ⟨bk k, 0, none⟩) m unk = .slice (some ⟨if k = n then b else bk k, 0, none⟩) m unk; rw [if_neg (by omega)]
  obtain ⟨v', g', e, ev, gv, hk⟩ := g1'.append (bytes := 24) (cap := 1) (by omega) (by omega) (by omega) hx.get rfl rfl (fun j hj => by rw [one_get j hj]; show some _ = some (Value.slice (some ⟨if n = n then b else bk n, 0, none⟩) m unk); rw [if_pos rfl]) (by simp [maxBytes]; omega) (by simp [maxBytes]; omega)
  have hkn := hk.next
  refine ⟨v', g', e, ⟨bk', gv, fun i hi => ?_⟩, hk, gv.one, fun a k c e => (g1.block e).1, ev⟩
  have hout : ∀ x c d, v' = .slice (some x) c d → x.block = h1.next := fun x c d e' => by rw [ev] at e'; cases e'; rfl
  by_cases hin : i = n
  · subst hin
    have hbi : bk' i = b := by show (if i = i then b else bk i) = b; rw [if_pos rfl]
    rw [hbi]
    refine ⟨?_, by omega, by omega, fun x c d e' => by have := hout x c d e'; omega, fun j hj hji => ?_⟩
    · rw [hk.old b (by omega) fun x c d e' => by have := (g1.block e').2; omega, hx.old b hb]; exact hl
    · show (if j = i then b else bk j) ≠ b
      rw [if_neg hji]; have := (g2 j (by omega)).2.2.1; omega
  · have hbi : bk' i = bk i := by show (if i = n then b else bk i) = bk i; rw [if_neg hin]
    rw [hbi]
    obtain ⟨a1, a2, a3, a4, a5⟩ := g2 i (by omega)
    refine ⟨?_, a2, by omega, fun x c d e' => by have := hout x c d e'; omega, fun j hj hji => ?_⟩
    · rw [hk.old (bk i) (by omega) fun x c d e' => a4 x c d e', hx.old (bk i) (by omega)]; exact hs _ _ _ _ trivial a1
    · show (if j = n then b else bk j) ≠ bk i
      by_cases e : j = n
      · rw [if_pos e]; omega
      · rw [if_neg e]; exact a5 j (by omega) hji
theorem cells_at' {g : AHeap} {v : Value} {s n : Nat} {c : Nat → Nat → Value} (hc : Cells h v s n c) (hg : ∀ a k cap, v = .slice (some a) k cap → g.get a.block = h.get a.block) : Cells g v s n c := by
  obtain ⟨a, cap, e, hsp, h0 | ⟨b, o, cs, w, gr, e1, e2, e3⟩⟩ := hc
  · exact ⟨a, cap, e, hsp, .inl h0⟩
  · subst e1
    exact ⟨_, cap, e, hsp, .inr ⟨b, o, cs, w, gr, rfl, by rw [hg _ _ _ e]; exact e2, e3⟩⟩
variable {n : Nat} {h : AHeap}
section
variable {a b k m : Nat} {f g : Nat → Int} {x : Int}
end
section
end
theorem GrowC.at' {B s n : Nat} {g : AHeap} {v : Value} {c : Nat → Nat → Value} (hg : GrowC B h v s n c) (he : ∀ a k cap, v = .slice (some a) k cap → g.get a.block = h.get a.block) : GrowC B g v s n c := by
  obtain ⟨cs, ⟨rfl, rfl, rfl⟩ | ⟨b, rfl, h2, h3, h4⟩, h5, h6⟩ := hg
  · exact .nil
  · exact ⟨cs, .inr ⟨b, rfl, by rw [he _ _ _ rfl]; exact h2, h3, h4⟩, h5, h6⟩
theorem DRows.kept {B m n n' : Nat} {g : AHeap} {v w : Value} {q : Nat → Nat → Int} {c : Nat → Nat → Value} (hd : DRows B h v n m q) (hm : 0 < m) (hw : GrowC B h w 1 n' c) (hc : ∀ k, k < n' → ∃ a j cap, c k 0 = .slice a j cap) (hk : Kept h g w)
    (hne : ∀ a k cap a' k' cap', v = .slice (some a) k cap → w = .slice (some a') k' cap' → a.block ≠ a'.block) : DRows B g v n m q := by
  obtain ⟨bk, h1, h2⟩ := hd
  have hnx := hk.next
  refine ⟨bk, GrowC.at' h1 fun a k cap e => hk.old _ (h1.block e).2 fun a' k' cap' e' => hne _ _ _ _ _ _ e e', fun k hkn => ?_⟩
  obtain ⟨a1, a2, a3, a4, a5⟩ := h2 k hkn
  refine ⟨?_, a2, by omega, a4, a5⟩
  rw [hk.old _ a3 fun a' k' cap' e' heq => ?_]
  · exact a1
  · obtain ⟨cs, ⟨rfl, _, _⟩ | ⟨b, rfl, w2, w3, _⟩, _, w5⟩ := hw
    · cases e'
    · cases e'
      simp only at heq
      rw [heq, w2] at a1
      simp only [Option.some.injEq, AObj.row.injEq] at a1
      have hcs := a1.1
      have hlen : cs.length = m := by rw [hcs, rowI_len]
      have hn' : 0 < n' := by omega
      have h3 := w5 0 0 hn' (by omega)
      obtain ⟨aa, j, cap, e3⟩ := hc 0 hn'
      rw [hcs, show 0 * 1 + 0 = 0 from rfl, rowI_get hm, e3] at h3
      cases h3
variable {n : Nat} {h : AHeap}
section
end
theorem one_cells {s b gr cap : Nat} {new : List Value} {wr : Bool} (hyc : h.get b = some (.row new wr gr)) (hnl : new.length = s) : cellsOfSlice h s (.slice (some ⟨b, 0, none⟩) 1 cap) = some new := by
  show (bif Nat.beq 1 0 then some [] else match h.get b with
    | some (.row cs _ _) => dropK cs 0 fun r => takeK r (1 * s) fun l => some l
    | _ => none) = some new
  have h10 : Nat.beq 1 0 = false := rfl
  rw [hyc, h10, cond_false]
  simp only [dropK_eq, takeK_eq, Nat.zero_le, if_true, List.drop_zero]
  rw [if_pos (by omega), Nat.one_mul, ← hnl, List.take_length]
variable {n : Nat} {h : AHeap}
variable {n : Nat} {h : AHeap}
def Own (B : Nat) (h : AHeap) (v : Value) (s m : Nat) : Prop := (∃ a c, v = .slice a 0 c ∧ m = 0) ∨ ∃ b cap cs gr, v = .slice (some ⟨b, 0, none⟩) m cap ∧ B ≤ b ∧ h.get b = some (.row cs true gr) ∧ m * s ≤ cs.length
theorem Own.le {B C s m : Nat} {v : Value} (ho : Own B h v s m) (hc : C ≤ B) : Own C h v s m := by
  rcases ho with e | ⟨b, cap, cs, gr, e, h1, h2⟩
  · exact .inl e
  · exact .inr ⟨b, cap, cs, gr, e, Nat.le_trans hc h1, h2⟩
theorem Own.old {B s m : Nat} {g : AHeap} {v : Value} (ho : Own B h v s m) (he : ∀ x k c, v = .slice (some x) k c → g.get x.block = h.get x.block) : Own B g v s m := by
  rcases ho with e | ⟨b, cap, cs, gr, rfl, h1, h2, h3⟩
  · exact .inl e
  · exact .inr ⟨b, cap, cs, gr, rfl, h1, by rw [he _ _ _ rfl]; exact h2, h3⟩
theorem Own.mono {B s m : Nat} {g : AHeap} {v : Value} (ho : Own B h v s m) (hs : Sub All h g) : Own B g v s m := by
  rcases ho with e | ⟨b, cap, cs, gr, rfl, h1, h2, h3⟩
  · exact .inl e
  · exact .inr ⟨b, cap, cs, gr, rfl, h1, hs _ _ _ _ trivial h2, h3⟩
def IntsO (B : Nat) (h : AHeap) (v : Value) (m : Nat) (a : Nat → Int) : Prop := Ints h v m a ∧ Own B h v 1 m
theorem IntsO.le {B C m : Nat} {v : Value} {a : Nat → Int} (hi : IntsO B h v m a) (hc : C ≤ B) : IntsO C h v m a := ⟨hi.1, hi.2.le hc⟩
variable {P : Program} {N : Nat} {f : Fr} {h : AHeap} {ty t u e : TypeId} {x y : Operand}
variable {n : Nat} {h : AHeap}
theorem Own.form {B s m : Nat} {v : Value} (ho : Own B h v s m) : ∃ a c, v = .slice a m c := by
  rcases ho with ⟨a, c, rfl, rfl⟩ | ⟨b, cap, cs, gr, rfl, _⟩
  · exact ⟨_, _, rfl⟩
  · exact ⟨_, _, rfl⟩
theorem Own.set {B s m b gr gr' : Nat} {g : AHeap} {v : Value} {cs cs' : List Value} (ho : Own B h v s m) (hg : h.get b = some (.row cs true gr)) (hl : cs'.length = cs.length) (hs : Set1 h g b cs' gr') : Own B g v s m := by
  rcases ho with e | ⟨b1, cap, cs1, gr1, rfl, h1, h2, h3⟩
  · exact .inl e
  · by_cases e : b1 = b
    · subst e
      rw [h2] at hg
      cases hg
      exact .inr ⟨_, cap, _, _, rfl, h1, hs.get, by omega⟩
    · exact .inr ⟨b1, cap, cs1, gr1, rfl, h1, by rw [hs.old _ e]; exact h2, h3⟩
variable {n : Nat} {h : AHeap}
variable {n : Nat} {h : AHeap}
theorem rd_1 {S : Nat → Prop} {f : Fr} {x : Operand} : readsIn S f (.load1 x) = ∀ ad, val f x = .pointer (some ad) → S ad.block := id rfl
theorem rd_N {S : Nat → Prop} {f : Fr} {x : Operand} {k : Nat} : readsIn S f (.loadN k x) = ∀ ad, val f x = .pointer (some ad) → S ad.block := id rfl
variable {n : Nat} {h : AHeap}
theorem cells_at {g : AHeap} {v : Value} {s n : Nat} {c : Nat → Nat → Value} (hc : Cells h v s n c) (hg : ∀ a k cap, v = .slice (some a) k cap → g.get a.block = h.get a.block) : Cells g v s n c := by
  obtain ⟨a, cap, e, hsp, h0 | ⟨b, o, cs, w, gr, e1, e2, e3⟩⟩ := hc
  · exact ⟨a, cap, e, hsp, .inl h0⟩
  · subst e1
    exact ⟨_, cap, e, hsp, .inr ⟨b, o, cs, w, gr, rfl, by rw [hg _ _ _ e]; exact e2, e3⟩⟩
def FreshRows (B : Nat) (h : AHeap) (v : Value) (n : Nat) (cnt : Nat) (L : List (Nat → Int)) : Prop :=
  n = L.length ∧ ∃ r : Nat → Value, Cells h v 1 n (fun k _ => r k) ∧ (∀ a k c, v = .slice (some a) k c → B ≤ a.block ∧ a.block < h.next) ∧ oneCell v = true ∧
    ∀ i, i < n → Ints h (r i) cnt (L.getD i fun _ => 0) ∧ oneCell (r i) = true ∧ ∀ a m c, r i = .slice (some a) m c → B ≤ a.block ∧ a.block < h.next
theorem GrowRows.fresh {B : Nat} {v : Value} {cnt : Nat} {L : List (Nat → Int)} (hg : GrowRows B h v L.length (fun _ => cnt) fun k => L.getD k fun _ => 0) : FreshRows B h v L.length cnt L := by
  obtain ⟨r, h1, h2⟩ := hg
  refine ⟨rfl, r, h1.cells, fun a k c e => h1.block e, h1.one, fun i hi => ⟨(h2 i hi).1, ?_, fun a m c e => ⟨((h2 i hi).2 a m c e).1, ((h2 i hi).2 a m c e).2.1⟩⟩⟩
  exact Cells.one (h2 i hi).1
variable {n : Nat} {h : AHeap}
variable {n : Nat} {h : AHeap}
variable {n : Nat} {h : AHeap}
def wordN (m : Nat) (a : Nat → Nat) (i : Nat) : Nat := if m = 0 then 0 else a (i % m)
variable {n : Nat} {h : AHeap}
variable {n : Nat} {h : AHeap}
variable {n : Nat} {h : AHeap}
variable {n : Nat} {h : AHeap}
end Go.Vm.Vat

namespace Go.Vm.St
open Go.Vm.Vat
set_option linter.unusedSimpArgs false
set_option linter.unusedVariables false
set_option maxRecDepth 10000
structure MS where
  last : Int
  per : Int
  nw : Nat
  wlo : Nat → Int
  whi : Nat → Int
  splo : Int
  sphi : Int
  nv : Nat
  vb : Nat → Int
  vlo : Nat → Int
  vhi : Nat → Int
  vn : Nat → Int
  ns : Nat
  sv : Nat → Int
  sh : Nat → Int
  sk : Nat → Int
def vatC (S : MS) (k j : Nat) : Value := .int .i64 (if j = 0 then S.vb k else if j = 1 then S.vlo k else if j = 2 then S.vhi k else S.vn k)
structure SteepR (h : AHeap) (wv vv sv : Value) (S : MS) : Prop where
  w : Ranges h wv S.nw S.wlo S.whi
  v : Cells h vv 4 S.nv (vatC S)
  s : Samps h sv S.ns S.sv S.sh S.sk
theorem cells_congr {h : AHeap} {v : Value} {s n : Nat} {c c' : Nat → Nat → Value} (hc : Cells h v s n c) (he : ∀ k j, k < n → j < s → c k j = c' k j) : Cells h v s n c' := by
  obtain ⟨a, cap, rfl, hsp, h0 | ⟨b, o, cs, w, gr, rfl, h1, h2⟩⟩ := hc
  · exact ⟨a, cap, rfl, hsp, .inl h0⟩
  · exact ⟨_, cap, rfl, hsp, .inr ⟨b, o, cs, w, gr, rfl, h1, fun k j hk hj => by rw [h2 k j hk hj, he k j hk hj]⟩⟩
def stL (S : MS) (wv vv sv : Value) : List Value := [.int .i64 S.last, .int .i64 S.per, wv, .int .i64 S.splo, .int .i64 S.sphi, vv, sv]
def wkL (S : MS) (wv vv sv tv : Value) : List Value := [.int .i64 S.last, .int .i64 S.per, wv, .int .i64 S.splo, .int .i64 S.sphi, vv, sv, tv]
section
variable {h g : AHeap} {wv vv sv tv : Value} {S : MS}
theorem SteepR.mono (hy : SteepR h wv vv sv S) (hs : Sub All h g) : SteepR g wv vv sv S := ⟨Cells.mono hy.w hs, Cells.mono hy.v hs, Cells.mono hy.s hs⟩
theorem SteepR.shut (hy : SteepR h wv vv sv S) : SteepR h.shutAll wv vv sv S := hy.mono fun _ _ _ _ _ h => h
theorem one_int {k : IntKind} {x : Int} : oneCell (.int k x) = true := rfl
theorem eqC_int {x : Int} : eqCell (.int .i64 x) (.int .i64 x) = true := by simp [eqCell, sameK, eqI_eq]
theorem SteepR.one (hy : SteepR h wv vv sv S) : allB oneCell (stL S wv vv sv) = true := by
  simp [stL, allB, one_int, Cells.one hy.w, Cells.one hy.v, Cells.one hy.s]
theorem SteepR.self (hy : SteepR h wv vv sv S) : eqV (.agg ⟨stL S wv vv sv⟩) (.agg ⟨stL S wv vv sv⟩) = true := by
  simp [stL, eqV, eqCells, eqC_int, Cells.selfC hy.w, Cells.selfC hy.v, Cells.selfC hy.s]
theorem wk_one (hy : SteepR h wv vv sv S) (ht : oneCell tv = true) : allB oneCell (wkL S wv vv sv tv) = true := by
  simp [wkL, allB, one_int, Cells.one hy.w, Cells.one hy.v, Cells.one hy.s, ht]
theorem st_rng {g : AHeap} {p : Nat} (hr : Row g p (stL S wv vv sv)) : loadAgg 2 g (.pointer (some ⟨p, 3, none⟩)) = some (.agg ⟨[.int .i64 S.splo, .int .i64 S.sphi]⟩) := hr.ldN 3 2 (by simp [stL]) (by simp [stL])
theorem wk_rng {g : AHeap} {p : Nat} (hr : Row g p (wkL S wv vv sv tv)) : loadAgg 2 g (.pointer (some ⟨p, 3, none⟩)) = some (.agg ⟨[.int .i64 S.splo, .int .i64 S.sphi]⟩) := hr.ldN 3 2 (by simp [wkL]) (by simp [wkL])
theorem full_ld {k : Nat} (hy : SteepR h wv vv sv S) (hk : k < S.nv) : loadAgg 2 h (ptrO vv 4 k 1) = some (.agg ⟨[.int .i64 (S.vlo k), .int .i64 (S.vhi k)]⟩) := by
  rw [Cells.ldN hy.v hk (by omega) (by omega)]; simp [List.range_succ, vatC]
theorem vat_ld {k : Nat} (hy : SteepR h wv vv sv S) (hk : k < S.nv) : loadAgg 4 h (ptrO vv 4 k 0) = some (.agg ⟨[.int .i64 (S.vb k), .int .i64 (S.vlo k), .int .i64 (S.vhi k), .int .i64 (S.vn k)]⟩) := by
  rw [Cells.ldN hy.v hk (by omega) (by omega)]; simp [List.range_succ, vatC]
end
theorem stg {S : MS} {a b c : Value} : (stL S a b c)[0]? = some (.int .i64 S.last) ∧ (stL S a b c)[1]? = some (.int .i64 S.per) ∧ (stL S a b c)[2]? = some a ∧ (stL S a b c)[3]? = some (.int .i64 S.splo) ∧ (stL S a b c)[4]? = some (.int .i64 S.sphi) ∧ (stL S a b c)[5]? = some b ∧ (stL S a b c)[6]? = some c :=
  ⟨rfl, rfl, rfl, rfl, rfl, rfl, rfl⟩
theorem wkg {S : MS} {a b c d : Value} : (wkL S a b c d)[0]? = some (.int .i64 S.last) ∧ (wkL S a b c d)[1]? = some (.int .i64 S.per) ∧ (wkL S a b c d)[2]? = some a ∧ (wkL S a b c d)[3]? = some (.int .i64 S.splo) ∧ (wkL S a b c d)[4]? = some (.int .i64 S.sphi) ∧ (wkL S a b c d)[5]? = some b ∧ (wkL S a b c d)[6]? = some c ∧ (wkL S a b c d)[7]? = some d :=
  ⟨rfl, rfl, rfl, rfl, rfl, rfl, rfl, rfl⟩
theorem eqV_int {x : Int} : eqV (.int .i64 x) (.int .i64 x) = true := by simp [eqV, eqCell, sameK, eqI_eq]
theorem self_two {x y : Int} : eqV (.agg ⟨[.int .i64 x, .int .i64 y]⟩) (.agg ⟨[.int .i64 x, .int .i64 y]⟩) = true := by simp [eqV, eqCells, eqC_int]
def WarmOk (S : MS) : Prop := ∀ i, i < S.nw → 0 ≤ S.wlo i ∧ S.wlo i ≤ S.whi i ∧ S.whi i ≤ 9
def VatOk (S : MS) : Prop := ∀ i, i < S.nv → (0 ≤ S.vb i ∧ S.vb i ≤ S.last) ∧ (0 ≤ S.vlo i ∧ S.vlo i ≤ S.vhi i ∧ S.vhi i ≤ 99) ∧ 0 ≤ S.vn i ∧ S.vn i ≤ 99
def SmellOk (S : MS) : Prop := ∀ i, i < S.ns → (0 ≤ S.sv i ∧ S.sv i ≤ (S.nv : Int) - 1) ∧ (S.vb (S.sv i).toNat ≤ S.sh i ∧ S.sh i ≤ S.last) ∧ 0 ≤ S.sk i ∧ S.sk i ≤ 2
def HeadOk (S : MS) : Prop := 0 ≤ S.last ∧ (1 ≤ S.per ∧ S.per ≤ 9) ∧ (S.nw : Int) = S.last + 1 ∧ 0 ≤ S.splo ∧ S.splo ≤ S.sphi ∧ S.sphi ≤ 99
def LimOk (S : MS) : Prop := S.last ≤ 5 ∧ S.nv ≤ 4 ∧ S.ns ≤ 5
structure ArgsOk (S : MS) : Prop where
  head : HeadOk S
  warm : WarmOk S
  vat : VatOk S
  smell : SmellOk S
def capN (n0 : Int) (lo hi : Nat → Int) : Nat → Int
  | 0 => n0
  | i + 1 => min 3000 (capN n0 lo hi i * (hi i - lo i + 1))
def manyS (S : MS) : Int := capN (capN (S.sphi - S.splo + 1) S.wlo S.whi S.nw) S.vlo S.vhi S.nv
open Classical in
noncomputable def faultS (S : MS) : Int := if ¬ LimOk S then 3 else if ¬ ArgsOk S then 1 else if 2000 < manyS S then 3 else 0
structure Good (S : MS) : Prop where
  lim : LimOk S
  args : ArgsOk S
  few : manyS S ≤ 2000
theorem good_of {S : MS} (hf : faultS S = 0) : Good S := by
  unfold faultS at hf
  by_cases h1 : LimOk S
  · rw [if_neg (by simpa using h1)] at hf
    by_cases h2 : ArgsOk S
    · rw [if_neg (by simpa using h2)] at hf
      by_cases h3 : 2000 < manyS S
      · rw [if_pos h3] at hf; omega
      · exact ⟨h1, h2, by omega⟩
    · rw [if_pos h2] at hf; omega
  · rw [if_pos h1] at hf; omega
theorem fault_of {S : MS} (hG : Good S) : faultS S = 0 := by
  unfold faultS
  have := hG.few
  rw [if_neg (by simpa using hG.lim), if_neg (by simpa using hG.args), if_neg (by omega)]
theorem fault_vals (S : MS) : faultS S = 0 ∨ faultS S = 1 ∨ faultS S = 3 := by
  unfold faultS
  by_cases h1 : LimOk S <;> by_cases h2 : ArgsOk S <;> by_cases h3 : 2000 < manyS S <;> simp [h1, h2, h3]
def numU (S : MS) : Nat := S.nw + 1 + S.nv
def uLo (S : MS) (i : Nat) : Int := if i < S.nw then S.wlo i else if i = S.nw then S.splo else S.vlo (i - S.nw - 1)
def uHi (S : MS) (i : Nat) : Int := if i < S.nw then S.whi i else if i = S.nw then S.sphi else S.vhi (i - S.nw - 1)
theorem Good.sizes {S : MS} (hG : Good S) : 0 ≤ S.last ∧ S.last ≤ 5 ∧ (S.nw : Int) = S.last + 1 ∧ S.nw ≤ 6 ∧ S.nv ≤ 4 ∧ S.ns ≤ 5 ∧ 1 ≤ S.per ∧ S.per ≤ 9 ∧ 0 ≤ S.splo ∧ S.splo ≤ S.sphi ∧ S.sphi ≤ 99 := by
  obtain ⟨a1, a2, a3⟩ := hG.lim
  obtain ⟨b1, ⟨b2, b3⟩, b4, b5, b6, b7⟩ := hG.args.head
  omega
theorem Good.u {S : MS} (hG : Good S) : ∀ i, i < numU S → 0 ≤ uLo S i ∧ uLo S i ≤ uHi S i ∧ uHi S i ≤ 99 := fun i hi => by
  unfold numU at hi
  simp only [uLo, uHi]
  obtain ⟨_, _, _, _, _, _, _, _, b5, b6, b7⟩ := hG.sizes
  by_cases c1 : i < S.nw
  · rw [if_pos c1, if_pos c1]
    obtain ⟨h1, h2, h3⟩ := hG.args.warm i c1
    omega
  · rw [if_neg c1, if_neg c1]
    by_cases c2 : i = S.nw
    · rw [if_pos c2, if_pos c2]; omega
    · rw [if_neg c2, if_neg c2]
      exact (hG.args.vat (i - S.nw - 1) (by omega)).2.1
theorem sizeN_congr {lo hi lo' hi' : Nat → Int} : ∀ m, (∀ k, k < m → lo k = lo' k ∧ hi k = hi' k) → sizeN lo hi m = sizeN lo' hi' m
  | 0, _ => rfl
  | m + 1, h => by
    obtain ⟨h1, h2⟩ := h m (by omega)
    simp only [sizeN, sizeN_congr m fun k hk => h k (by omega), h1, h2]
theorem sizeN_split {lo hi : Nat → Int} (a : Nat) : ∀ b, sizeN lo hi (a + b) = sizeN lo hi a * sizeN (fun k => lo (a + k)) (fun k => hi (a + k)) b
  | 0 => by simp [sizeN]
  | b + 1 => by
    rw [show a + (b + 1) = a + b + 1 by omega]
    simp only [sizeN, sizeN_split a b, Int.mul_assoc]
theorem sizeN_pos {lo hi : Nat → Int} : ∀ m, (∀ k, k < m → lo k ≤ hi k) → 1 ≤ sizeN lo hi m
  | 0, _ => Int.le_refl _
  | m + 1, h => by
    have h1 := sizeN_pos m fun k hk => h k (by omega)
    have h2 := h m (by omega)
    have := Int.mul_le_mul h1 (show (1 : Int) ≤ hi m - lo m + 1 by omega) (by omega) (by omega)
    simpa [sizeN] using this
theorem sizeN_le {lo hi : Nat → Int} {B : Int} (hB : 1 ≤ B) : ∀ m, (∀ k, k < m → lo k ≤ hi k ∧ hi k - lo k + 1 ≤ B) → sizeN lo hi m ≤ B ^ m
  | 0, _ => by simp [sizeN]
  | m + 1, h => by
    have h1 := sizeN_le hB m fun k hk => h k (by omega)
    obtain ⟨h2, h3⟩ := h m (by omega)
    rw [Int.pow_succ]
    exact Int.mul_le_mul h1 h3 (by omega) (Int.le_trans (by omega) (sizeN_pos m fun k hk => (h k (by omega)).1 |> fun x => x) |> fun x => Int.le_trans x h1)
theorem capN_min {n0 : Int} {lo hi : Nat → Int} (h0 : 1 ≤ n0) (h1 : n0 ≤ 3000) : ∀ m, (∀ k, k < m → lo k ≤ hi k) → capN n0 lo hi m = min 3000 (n0 * sizeN lo hi m)
  | 0, _ => by simp only [capN, sizeN, Int.mul_one]; omega
  | m + 1, h => by
    have ih := capN_min h0 h1 m fun k hk => h k (by omega)
    have hm := h m (by omega)
    have hp := sizeN_pos m fun k hk => h k (by omega)
    have hq : 1 ≤ n0 * sizeN lo hi m := by have := Int.mul_le_mul h0 hp (by omega) (by omega); simpa using this
    simp only [capN, sizeN, ih]
    rw [← Int.mul_assoc]
    generalize n0 * sizeN lo hi m = x at hq
    generalize hy : hi m - lo m + 1 = y
    have hy1 : 1 ≤ y := by omega
    by_cases c : x ≤ 3000
    · rw [Int.min_eq_right c]
    · have e1 : min (3000 : Int) x = 3000 := by omega
      rw [e1]
      have h3 : 3000 * 1 ≤ 3000 * y := Int.mul_le_mul_of_nonneg_left hy1 (by omega)
      have h4 : x * 1 ≤ x * y := Int.mul_le_mul_of_nonneg_left hy1 (by omega)
      omega
theorem sizeU {S : MS} : sizeN (uLo S) (uHi S) (numU S) = sizeN S.wlo S.whi S.nw * ((S.sphi - S.splo + 1) * sizeN S.vlo S.vhi S.nv) := by
  unfold numU
  rw [Nat.add_assoc, sizeN_split S.nw (1 + S.nv), sizeN_split 1 S.nv]
  have e1 : sizeN (uLo S) (uHi S) S.nw = sizeN S.wlo S.whi S.nw := sizeN_congr _ fun k hk => by simp [uLo, uHi, hk]
  have e2 : sizeN (fun k => uLo S (S.nw + k)) (fun k => uHi S (S.nw + k)) 1 = S.sphi - S.splo + 1 := by simp [sizeN, uLo, uHi]
  have e3 : sizeN (fun k => uLo S (S.nw + (1 + k))) (fun k => uHi S (S.nw + (1 + k))) S.nv = sizeN S.vlo S.vhi S.nv := sizeN_congr _ fun k hk => by
    have c1 : ¬ S.nw + (1 + k) < S.nw := by omega
    have c2 : ¬ S.nw + (1 + k) = S.nw := by omega
    have c3 : S.nw + (1 + k) - S.nw - 1 = k := by omega
    simp only [uLo, uHi, c1, c2, c3, if_false, and_self]
  rw [e1, e2, e3]
theorem many_size {S : MS} (hA : ArgsOk S) : manyS S = min 3000 (sizeN (uLo S) (uHi S) (numU S)) := by
  obtain ⟨b1, _, _, b5, b6, b7⟩ := hA.head
  have hw : ∀ k, k < S.nw → S.wlo k ≤ S.whi k := fun k hk => (hA.warm k hk).2.1
  have hv : ∀ k, k < S.nv → S.vlo k ≤ S.vhi k := fun k hk => (hA.vat k hk).2.1.2.1
  have p1 := sizeN_pos S.nw hw
  have p2 := sizeN_pos S.nv hv
  have hs : 1 ≤ S.sphi - S.splo + 1 := by omega
  unfold manyS
  rw [capN_min (n0 := S.sphi - S.splo + 1) (by omega) (by omega) S.nw hw]
  have hx : 1 ≤ (S.sphi - S.splo + 1) * sizeN S.wlo S.whi S.nw := by have := Int.mul_le_mul hs p1 (by omega) (by omega); simpa using this
  rw [capN_min (by omega) (by omega) S.nv hv, sizeU]
  have e : sizeN S.wlo S.whi S.nw * ((S.sphi - S.splo + 1) * sizeN S.vlo S.vhi S.nv) = (S.sphi - S.splo + 1) * sizeN S.wlo S.whi S.nw * sizeN S.vlo S.vhi S.nv := by
    rw [← Int.mul_assoc, Int.mul_comm (sizeN S.wlo S.whi S.nw)]
  rw [e]
  generalize (S.sphi - S.splo + 1) * sizeN S.wlo S.whi S.nw = x at hx
  generalize sizeN S.vlo S.vhi S.nv = y at p2
  by_cases c : x ≤ 3000
  · rw [Int.min_eq_right c]
  · have e1 : min (3000 : Int) x = 3000 := by omega
    rw [e1]
    have h3 : 3000 * 1 ≤ 3000 * y := Int.mul_le_mul_of_nonneg_left p2 (by omega)
    have h4 : x * 1 ≤ x * y := Int.mul_le_mul_of_nonneg_left p2 (by omega)
    omega
def sumR (u : Nat → Int) (b : Nat) : Nat → Int
  | 0 => 0
  | m + 1 => sumR u b m + u (b + m)
def warmS (S : MS) (u : Nat → Int) (v : Nat) (h : Int) : Int := sumR u (S.vb v).toNat (h - S.vb v + 1).toNat
def blueS (S : MS) (u : Nat → Int) (v : Nat) (h : Int) : Int := min (S.per * warmS S u v h) (u (S.nw + 1 + v))
def kindS (S : MS) (u : Nat → Int) (v : Nat) (h : Int) : Int := if u S.nw < warmS S u v h then 2 else if blueS S u v h < S.vn v then 0 else 1
def RightS (S : MS) (u : Nat → Int) (k : Nat) : Prop := kindS S u (S.sv k).toNat (S.sh k) = S.sk k
noncomputable instance (S : MS) (u : Nat → Int) (k : Nat) : Decidable (RightS S u k) := Classical.propDecidable _
def InU (S : MS) (u : Nat → Int) : Prop := ∀ i, i < numU S → uLo S i ≤ u i ∧ u i ≤ uHi S i
noncomputable def truthsS (S : MS) : List (Nat → Int) := open Classical in (enumB (uLo S) (uHi S) (numU S) 0 fun _ => 0).filter fun u => decide (∀ k, k < S.ns → RightS S u k)
theorem sumR_bound {u : Nat → Int} {b : Nat} {B : Int} (hB : 0 ≤ B) : ∀ m, (∀ k, k < m → 0 ≤ u (b + k) ∧ u (b + k) ≤ B) → 0 ≤ sumR u b m ∧ sumR u b m ≤ B * m
  | 0, _ => by simp [sumR]
  | m + 1, h => by
    obtain ⟨h1, h2⟩ := sumR_bound hB m fun k hk => h k (by omega)
    obtain ⟨h3, h4⟩ := h m (by omega)
    simp only [sumR]
    rw [Int.natCast_add, Int.mul_add]
    constructor <;> omega
theorem InU.warm {S : MS} {u : Nat → Int} (hG : Good S) (hu : InU S u) {i : Nat} (hi : i < S.nw) : 0 ≤ u i ∧ u i ≤ 9 := by
  obtain ⟨h1, h2⟩ := hu i (by unfold numU; omega)
  simp only [uLo, uHi, hi, if_true] at h1 h2
  obtain ⟨h3, h4, h5⟩ := hG.args.warm i hi
  omega
theorem InU.full {S : MS} {u : Nat → Int} (hG : Good S) (hu : InU S u) {v : Nat} (hv : v < S.nv) : 0 ≤ u (S.nw + 1 + v) ∧ u (S.nw + 1 + v) ≤ 99 := by
  obtain ⟨h1, h2⟩ := hu (S.nw + 1 + v) (by unfold numU; omega)
  obtain ⟨h3, h4, h5⟩ := hG.u (S.nw + 1 + v) (by unfold numU; omega)
  omega
structure HourOk (S : MS) (v : Nat) (h : Int) : Prop where
  isV : v < S.nv
  isLo : S.vb v ≤ h
  isHi : h ≤ S.last
theorem HourOk.nat {S : MS} (hG : Good S) {v : Nat} {h : Int} (hh : HourOk S v h) : 0 ≤ S.vb v ∧ S.vb v ≤ h ∧ h ≤ S.last ∧ ((S.vb v).toNat : Int) = S.vb v ∧ (S.vb v).toNat + (h - S.vb v + 1).toNat ≤ S.nw ∧ ((h - S.vb v + 1).toNat : Int) = h - S.vb v + 1 := by
  obtain ⟨h1, h2, h3⟩ := hh
  obtain ⟨⟨h4, h5⟩, _⟩ := hG.args.vat v h1
  obtain ⟨_, _, h6, _⟩ := hG.sizes
  omega
theorem warm_bound {S : MS} {u : Nat → Int} (hG : Good S) (hu : InU S u) {v : Nat} {h : Int} (hh : HourOk S v h) : 0 ≤ warmS S u v h ∧ warmS S u v h ≤ 54 := by
  obtain ⟨h1, h2, h3, h4, h5, h6⟩ := hh.nat hG
  obtain ⟨_, _, _, h7, _⟩ := hG.sizes
  obtain ⟨h8, h9⟩ := sumR_bound (u := u) (b := (S.vb v).toNat) (B := 9) (by omega) (h - S.vb v + 1).toNat fun k hk => hu.warm hG (by omega)
  unfold warmS
  omega
theorem blue_bound {S : MS} {u : Nat → Int} (hG : Good S) (hu : InU S u) {v : Nat} {h : Int} (hh : HourOk S v h) : 0 ≤ blueS S u v h ∧ blueS S u v h ≤ 99 ∧ 0 ≤ S.per * warmS S u v h ∧ S.per * warmS S u v h ≤ 486 := by
  obtain ⟨h1, h2⟩ := warm_bound hG hu hh
  obtain ⟨_, _, _, _, _, _, h3, h4, _⟩ := hG.sizes
  obtain ⟨h5, h6⟩ := hu.full hG hh.isV
  have h7 : 0 ≤ S.per * warmS S u v h := Int.mul_nonneg (by omega) h1
  have h8 : S.per * warmS S u v h ≤ 9 * 54 := Int.mul_le_mul h4 h2 h1 (by omega)
  unfold blueS
  omega
open Classical in
noncomputable def bitsP (p : Nat → Prop) : Nat → Nat
  | 0 => 0
  | i + 1 => if p i then bitsP p i ||| 2 ^ i else bitsP p i
theorem bitsP_lt (p : Nat → Prop) : ∀ i, bitsP p i < 2 ^ i
  | 0 => by simp [bitsP]
  | i + 1 => by
    have ih := bitsP_lt p i
    simp only [bitsP]
    split
    · exact Nat.or_lt_two_pow (Nat.lt_of_lt_of_le ih (Nat.pow_le_pow_right (by omega) (by omega))) (Nat.pow_lt_pow_right (by omega) (by omega))
    · exact Nat.lt_of_lt_of_le ih (Nat.pow_le_pow_right (by omega) (by omega))
theorem bitsP_full (p : Nat → Prop) : ∀ i, bitsP p i = 2 ^ i - 1 ↔ ∀ k, k < i → p k
  | 0 => by simp [bitsP]
  | i + 1 => by
    have ih := bitsP_full p i
    have hl := bitsP_lt p i
    simp only [bitsP]
    rw [Nat.pow_succ]
    by_cases hr : p i
    · rw [if_pos hr, or_pow hl]
      constructor
      · intro e k hk
        by_cases hki : k = i
        · subst hki; exact hr
        · exact ih.1 (by omega) k (by omega)
      · intro ha
        have := ih.2 fun k hk => ha k (by omega)
        omega
    · rw [if_neg hr]
      constructor
      · intro e; omega
      · intro ha; exact absurd (ha i (by omega)) hr
end Go.Vm.St

namespace Go.Vm.St
open Go.Proofs Go.Vm.Vat
set_option linter.unusedSimpArgs false
set_option linter.unusedVariables false
set_option maxRecDepth 10000
noncomputable def A (f : Nat) : Bool := inL [59, 82, 113, 119, 112, 72, 107, 108, 57, 90, 91, 126, 88, 58, 62, 71, 118, 163, 132, 135, 137, 162, 165, 166, 151, 161, 164, 156, 133, 152, 145, 167, 159, 160, 148, 158, 147, 157, 65, 111, 80, 68, 64, 138, 110, 117, 134, 77, 81, 122, 123, 84, 86, 125, 87, 94, 95, 121, 124, 142, 128, 78, 27, 38, 48, 52, 42, 98, 102, 103, 104, 130, 105, 150, 143, 144, 30, 31, 32, 33, 39, 43, 44, 45, 49, 83, 96, 99, 66, 22, 28, 29, 36, 120, 47, 53, 56, 60, 106, 114, 115] f
def K (f : Nat) : Option Value := if f = 23 then some (.bool true) else none
noncomputable abbrev call (n : Nat) : CallF := pcall Tryz.prog A K n
variable {n : Nat} {h : AHeap}
theorem awake_c (hn : 1 ≤ n) : call n (.func (.func 23) #[] #[]) [] h = some (.bool true, h) := by
  obtain ⟨n, rfl⟩ : ∃ p, n = p + 1 := ⟨n - 1, by omega⟩
  exact call_known (by simp [K])
def s59 : SCode := (.seq (.ops [jO 6 (.mov (.const (.bool false)))]) (.seq (.ops [jO 7 (.mov (T 0)), jO 8 (.mov (T 1)), jO 9 (.int2 .geq (T 7) (T 8)), jO 10 (.mov (T 9)), ⟨some 11, (some (10, true)), .mov (T 0)⟩, ⟨some 12, (some (10, true)), .mov (T 2)⟩, ⟨some 13, (some (10, true)), .int2 .leq (T 11) (T 12)⟩, jO 14 (.pick (T 10) (T 13) (.const (.bool false))), jO 6 (.mov (T 14))]) .ret))
theorem fok59 : FnOk Tryz.prog 59 15 s59 [.tmp 6] := ⟨Tryz.f59, _, Tryz.func59, rfl, Tryz.ntmps59, by kernel_rfl, by kernel_rfl⟩
theorem in_c (hn : 1 ≤ n) (a lo hi : Int) : call n (.func (.func 59) #[] #[]) [.int .i64 a, .int .i64 lo, .int .i64 hi] h = some (.bool (decide (lo ≤ a ∧ a ≤ hi)), h) := by
  obtain ⟨n, rfl⟩ : ∃ p, n = p + 1 := ⟨n - 1, by omega⟩
  refine call_plain0 fok59 rfl rfl (by simp) rfl ?_
  by_cases h1 : lo ≤ a <;> by_cases h2 : a ≤ hi <;> simp only [rn0, reduceIte, Nat.reduceEqDiff, Nat.reduceAdd, Nat.reduceMul, Nat.reduceSub, Nat.reduceLeDiff, Nat.reduceLT, s59, jO, jF, jR, jS, jU, jA, jK, h1, h2, and_self, and_false, false_and]
def s113 : SCode := (.seq (.ops [jO 2 (.box (T 0)), jO 4 (.mov (.const (.bool false)))]) (.seq (.ops [jO 5 (.fieldAddr 0 (T 2)), jO 6 (.load1 (T 5)), jO 7 (.int2 .geq (T 6) (jK 0)), jO 8 (.mov (T 7)), ⟨some 9, (some (8, true)), .fieldAddr 0 (T 2)⟩, ⟨some 10, (some (8, true)), .load1 (T 9)⟩, ⟨some 11, (some (8, true)), .fieldAddr 1 (T 2)⟩, ⟨some 12, (some (8, true)), .load1 (T 11)⟩, ⟨some 13, (some (8, true)), .int2 .leq (T 10) (T 12)⟩, jO 14 (.pick (T 8) (T 13) (.const (.bool false))), jO 15 (.mov (T 14)), ⟨some 16, (some (15, true)), .fieldAddr 1 (T 2)⟩, ⟨some 17, (some (15, true)), .load1 (T 16)⟩, ⟨some 18, (some (15, true)), .mov (T 1)⟩, ⟨some 19, (some (15, true)), .int2 .leq (T 17) (T 18)⟩, jO 20 (.pick (T 15) (T 19) (.const (.bool false))), jO 4 (.mov (T 20))]) .ret))
theorem fok113 : FnOk Tryz.prog 113 21 s113 [.tmp 4] := ⟨Tryz.f113, _, Tryz.func113, rfl, Tryz.ntmps113, by kernel_rfl, by kernel_rfl⟩
theorem inside_c (hn : 1 ≤ n) (hr : h.next < far) (lo hi m : Int) : call n (.func (.func 113) #[] #[]) [.agg ⟨[.int .i64 lo, .int .i64 hi]⟩, .int .i64 m] h = some (.bool (decide (0 ≤ lo ∧ lo ≤ hi ∧ hi ≤ m)), h) := by
  obtain ⟨n, rfl⟩ : ∃ p, n = p + 1 := ⟨n - 1, by omega⟩
  refine call_plain0 fok113 rfl rfl (by simp) rfl ?_
  simp only [s113, jO, jF, jR, jS, jU, jA, jK, W_seq, W_ops]
  refine ops_box (cs := [.int .i64 lo, .int .i64 hi]) (by exact hr) rfl rfl fun h1 hb => ?_
  by_cases c1 : 0 ≤ lo <;> by_cases c2 : lo ≤ hi <;> by_cases c3 : hi ≤ m <;> simp only [rn0, reduceIte, Nat.reduceEqDiff, Nat.reduceAdd, Nat.reduceMul, Nat.reduceSub, Nat.reduceLeDiff, Nat.reduceLT, hb.ld, Nat.zero_add, List.getElem?_cons_zero, List.getElem?_cons_succ, c1, c2, c3, and_self, and_false, false_and]
def s119 : SCode := (.seq (.ops [jO 1 (.box (T 0)), jO 2 (.mov (jK 0))]) (.seq (.ops [jO 3 (.fieldAddr 1 (T 1)), jO 4 (.load1 (T 3)), jO 5 (.fieldAddr 0 (T 1)), jO 6 (.load1 (T 5)), jO 7 (.int2 .sub (T 4) (T 6)), jO 8 (.int2 .add (T 7) (jK 1)), jO 2 (.mov (T 8))]) .ret))
theorem fok119 : FnOk Tryz.prog 119 9 s119 [.tmp 2] := ⟨Tryz.f119, _, Tryz.func119, rfl, Tryz.ntmps119, by kernel_rfl, by kernel_rfl⟩
theorem size_c (hn : 1 ≤ n) (hr : h.next < far) (lo hi : Int) : call n (.func (.func 119) #[] #[]) [.agg ⟨[.int .i64 lo, .int .i64 hi]⟩] h = some (.int .i64 (wrapF .i64 (wrapF .i64 (hi - lo) + 1)), h) := by
  obtain ⟨n, rfl⟩ : ∃ p, n = p + 1 := ⟨n - 1, by omega⟩
  refine call_plain0 fok119 rfl rfl (by simp) rfl ?_
  simp only [s119, jO, jF, jR, jS, jU, jA, jK, W_seq, W_ops]
  refine ops_box (cs := [.int .i64 lo, .int .i64 hi]) (by exact hr) rfl rfl fun h1 hb => ?_
  simp only [rn0, reduceIte, Nat.reduceEqDiff, Nat.reduceAdd, Nat.reduceMul, Nat.reduceSub, Nat.reduceLeDiff, Nat.reduceLT, hb.ld, Nat.zero_add, List.getElem?_cons_zero, List.getElem?_cons_succ]
theorem size_ok (hn : 1 ≤ n) (hr : h.next < far) {lo hi : Int} (h0 : 0 ≤ lo) (h1 : lo ≤ hi) (h2 : hi ≤ 99) : call n (.func (.func 119) #[] #[]) [.agg ⟨[.int .i64 lo, .int .i64 hi]⟩] h = some (.int .i64 (hi - lo + 1), h) := by
  rw [size_c hn hr, wrap_in (z := hi - lo) (by omega) (by omega), wrap_in (by omega) (by omega)]
theorem u3 : ∃ d, Tryz.prog.underlying 3 = some d := ⟨_, by rfl⟩
theorem u114 : Tryz.prog.underlying 97 = some (.int .u64) := by rfl
theorem p_uint {N : Nat} {f : Fr} {x : Operand} {ty : TypeId} : plainF Tryz.prog N (.convert 3 97 x) ty f h = run1 convU (plainF Tryz.prog N (.convert 3 97 x) ty f) (valN N f x) h := p_conv u3.choose_spec u114
def s91 : SCode := (.seq (.ops [jO 1 (.box (T 0)), jO 2 (.mov (jK 0))]) (.seq (.ops [jO 3 (.fieldAddr 6 (T 1)), jO 4 (.load1 (T 3)), jO 5 (.len (T 4)), jO 6 (.plain (.convert 3 97 (T 5)) 97), jO 7 (.plain (.binOp .shl 3 (jK 1) (T 6) 97) 3), jO 8 (.int2 .sub (T 7) (jK 1)), jO 2 (.mov (T 8))]) .ret))
theorem fok91 : FnOk Tryz.prog 91 9 s91 [.tmp 2] := ⟨Tryz.f91, _, Tryz.func91, rfl, Tryz.ntmps91, by kernel_rfl, by kernel_rfl⟩
theorem full_c (hn : 1 ≤ n) (hr : h.next < far) {wv vv sv : Value} {S : MS} (hy : SteepR h wv vv sv S) (hl : S.ns ≤ 6) :
    call n (.func (.func 91) #[] #[]) [.agg ⟨stL S wv vv sv⟩] h = some (.int .i64 ((2 ^ S.ns - 1 : Nat) : Int), h) := by
  obtain ⟨n, rfl⟩ : ∃ p, n = p + 1 := ⟨n - 1, by omega⟩
  refine call_plain0 fok91 rfl rfl (by simp) rfl ?_
  have hy := hy.shut
  have hr : h.shutAll.next < far := hr
  generalize h.shutAll = h at hy hr
  simp only [s91, jO, jF, jR, jS, jU, jA, jK, W_seq, W_ops]
  refine ops_box (cs := stL S wv vv sv) (by omega) rfl hy.one fun h1 hx => ?_
  have hy := hy.mono hx.sub
  have hp : (2 ^ S.ns : Nat) < 2 ^ 62 := Nat.pow_lt_pow_right (by omega) (by omega)
  have hp0 : 0 < (2 ^ S.ns : Nat) := Nat.pow_pos (by omega)
  have hw : wrapF .i64 (((2 ^ S.ns : Nat) : Int) - 1) = ((2 ^ S.ns - 1 : Nat) : Int) := by rw [wrap_in (by omega) (by omega)]; omega
  simp only [rn0, reduceIte, Nat.reduceEqDiff, Nat.reduceAdd, Nat.reduceMul, Nat.reduceSub, Nat.reduceLeDiff, Nat.reduceLT, hx.ld, stg, Nat.zero_add, Cells.len hy.s, p_uint, r_conv (k := S.ns) (by omega), r_shl (k := S.ns) (by omega), hw]
structure TrR (h : AHeap) (tw tf : Value) (m1 : Nat) (a1 : Nat → Int) (m2 : Nat) (a2 : Nat → Int) : Prop where
  w : Ints h tw m1 a1
  f : Ints h tf m2 a2
def trL (tw tf : Value) (sp : Int) : List Value := [tw, .int .i64 sp, tf]
theorem trg {a b : Value} {x : Int} : (trL a b x)[0]? = some a ∧ (trL a b x)[1]? = some (.int .i64 x) ∧ (trL a b x)[2]? = some b := ⟨rfl, rfl, rfl⟩
section
variable {g : AHeap} {tw tf : Value} {m1 m2 : Nat} {a1 a2 : Nat → Int} {sp : Int}
theorem TrR.mono (ht : TrR h tw tf m1 a1 m2 a2) (hs : Sub All h g) : TrR g tw tf m1 a1 m2 a2 := ⟨Cells.mono ht.w hs, Cells.mono ht.f hs⟩
theorem TrR.shut (ht : TrR h tw tf m1 a1 m2 a2) : TrR h.shutAll tw tf m1 a1 m2 a2 := ht.mono fun _ _ _ _ _ h => h
theorem TrR.one (ht : TrR h tw tf m1 a1 m2 a2) : allB oneCell (trL tw tf sp) = true := by
  simp [trL, allB, one_int, Cells.one ht.w, Cells.one ht.f]
theorem TrR.self (ht : TrR h tw tf m1 a1 m2 a2) : eqV (.agg ⟨trL tw tf sp⟩) (.agg ⟨trL tw tf sp⟩) = true := by
  simp [trL, eqV, eqCells, eqC_int, Cells.selfC ht.w, Cells.selfC ht.f]
end
abbrev TruR (h : AHeap) (tw tf : Value) (S : MS) (u : Nat → Int) : Prop := TrR h tw tf S.nw u S.nv fun v => u (S.nw + 1 + v)
def s107 : SCode := (.seq (.ops [jO 4 (.box (T 0)), jO 5 (.box (T 1)), jO 8 (.mov (jK 0))]) (.seq (.ops [jO 9 (.mov (jK 0))]) (.seq (.seq (.ops [jO 11 (.fieldAddr 5 (T 4)), jO 12 (.load1 (T 11)), jO 13 (.mov (T 2)), jO 14 (.idxSl 4 (T 12) (T 13)), jO 15 (.fieldAddr 0 (T 14)), jO 16 (.load1 (T 15)), jO 10 (.mov (T 16))]) (.block 0 (.loop (.seq (.seq (.ops [jO 17 (.mov (T 10)), jO 18 (.mov (T 3)), jO 19 (.int2 .leq (T 17) (T 18))]) (.cond (T 19) .skip (.exit 0))) (.seq (.block 1 (.ops [jO 22 (.mov (T 9)), jO 23 (.fieldAddr 0 (T 5)), jO 24 (.load1 (T 23)), jO 25 (.mov (T 10)), jO 26 (.idxSl 1 (T 24) (T 25)), jO 27 (.load1 (T 26)), jO 28 (.int2 .add (T 22) (T 27)), jO 9 (.mov (T 28))])) (.ops [jO 20 (.mov (T 10)), jO 21 (.int2 .add (T 20) (jK 1)), jO 10 (.mov (T 21))])))))) (.seq (.ops [jO 29 (.mov (T 9)), jO 8 (.mov (T 29))]) .ret))))
theorem fok107 : FnOk Tryz.prog 107 30 s107 [.tmp 8] := ⟨Tryz.f107, _, Tryz.func107, rfl, Tryz.ntmps107, by kernel_rfl, by kernel_rfl⟩
theorem warmth_c (hn : 100 ≤ n) (hr : h.next + 5 < far) {wv vv sv tw tf : Value} {S : MS} {u : Nat → Int} (hy : SteepR h wv vv sv S) (ht : TruR h tw tf S u) (hG : Good S) (hu : InU S u) {v : Nat} {hh : Int} (ho : HourOk S v hh) {sp : Int} :
    call n (.func (.func 107) #[] #[]) [.agg ⟨stL S wv vv sv⟩, .agg ⟨trL tw tf sp⟩, .int .i64 (v : Int), .int .i64 hh] h = some (.int .i64 (warmS S u v hh), h) := by
  obtain ⟨n, rfl⟩ : ∃ p, n = p + 1 := ⟨n - 1, by omega⟩
  refine call_plain0 fok107 rfl rfl (by simp) rfl ?_
  have hy := hy.shut
  have ht := ht.shut
  have hr : h.shutAll.next + 5 < far := hr
  generalize h.shutAll = h at hy ht hr
  obtain ⟨o1, o2, o3, o4, o5, o6⟩ := ho.nat hG
  obtain ⟨z1, z2, z3, z4, _⟩ := hG.sizes
  have hv := ho.isV
  simp only [s107, jO, jF, jR, jS, jU, jA, jK, W_seq, W_ops]
  refine ops_box (cs := stL S wv vv sv) (by omega) rfl hy.one fun h1 hx1 => ?_
  refine ops_box (cs := trL tw tf sp) (by rw [hx1.next]; omega) rfl ht.one fun h2 hx2 => ?_
  have r1 := hx1.row.mono hx2.sub
  have r2 := hx2.row
  have hy := (hy.mono hx1.sub).mono hx2.sub
  have ht := (ht.mono hx1.sub).mono hx2.sub
  have hb : loadCell h2 (ptrO vv 4 v 0) = some (.int .i64 (S.vb v)) := Cells.ld hy.v hv (by omega)
  simp only [rn0, reduceIte, Nat.reduceEqDiff, Nat.reduceAdd, Nat.reduceMul, Nat.reduceSub, Nat.reduceLeDiff, Nat.reduceLT, r1.ld, stg, Nat.zero_add, Cells.idx hy.v hv, Cells.fld hy.v hv, hb]
  generalize hm : (hh - S.vb v + 1).toNat = m at o5 o6
  refine W_loop m (fun k f g ms => g = h2 ∧ ms = [] ∧ f 3 = .int .i64 hh ∧ f 5 = .pointer (some ⟨h1.next, 0, none⟩) ∧ f 9 = .int .i64 (sumR u (S.vb v).toNat k) ∧ f 10 = .int .i64 (((S.vb v).toNat + k : Nat) : Int)) (by simp; omega) ?_ ?_ ?_
  · simp only [rn0, reduceIte, Nat.reduceEqDiff, Nat.reduceAdd, Nat.reduceMul, Nat.reduceSub, Nat.reduceLeDiff, Nat.reduceLT, Nat.add_zero, o4]
    rfl
  · rintro k f g ms hk ⟨rfl, rfl, f3, f5, f9, f10⟩
    have hk' : (((S.vb v).toNat + k : Nat) : Int) ≤ hh := by omega
    have hw : wrapF .i64 ((((S.vb v).toNat + k : Nat) : Int) + 1) = (((S.vb v).toNat + (k + 1) : Nat) : Int) := by rw [wrap_in (by omega) (by omega)]; omega
    have hki : (S.vb v).toNat + k < S.nw := by omega
    obtain ⟨b1, b2⟩ := sumR_bound (u := u) (b := (S.vb v).toNat) (B := 9) (by omega) k fun j hj => hu.warm hG (by omega)
    obtain ⟨b3, b4⟩ := hu.warm hG hki
    have hw2 : wrapF .i64 (sumR u (S.vb v).toNat k + u ((S.vb v).toNat + k)) = sumR u (S.vb v).toNat (k + 1) := wrap_in (by omega) (by omega)
    simp only [rn0, reduceIte, Nat.reduceEqDiff, Nat.reduceAdd, Nat.reduceMul, Nat.reduceSub, Nat.reduceLeDiff, Nat.reduceLT, f3, f5, f9, f10, hk', r2.ld, trg, Nat.zero_add, Cells.idx ht.w hki, Cells.ld ht.w hki Nat.zero_lt_one, hw2, hw]
  · rintro f g ms ⟨rfl, rfl, f3, f5, f9, f10⟩
    have hk' : ¬ (((S.vb v).toNat + m : Nat) : Int) ≤ hh := by omega
    have he : warmS S u v hh = sumR u (S.vb v).toNat m := by unfold warmS; rw [hm]
    simp only [rn0, reduceIte, Nat.reduceEqDiff, Nat.reduceAdd, Nat.reduceMul, Nat.reduceSub, Nat.reduceLeDiff, Nat.reduceLT, f3, f5, f9, f10, hk', he]
def s108 : SCode := (.seq (.ops [jO 4 (.box (T 0)), jO 5 (.box (T 1)), jO 8 (.mov (jK 0))]) (.seq (.draw [jF 9 (.fieldAddr 2 (T 5)), jR 10 (.load1 (T 9)), jF 11 (.mov (T 2)), jF 12 (.idxSl 1 (T 10) (T 11)), jR 13 (.load1 (T 12)), jF 14 (.fieldAddr 1 (T 4)), jR 15 (.load1 (T 14)), jS 16 (.loadN 7 (T 4)), jS 17 (.loadN 3 (T 5)), jF 18 (.mov (T 2)), jF 19 (.mov (T 3)), jU 20 (.call (.func 107) [(T 16), (T 17), (T 18), (T 19)]), jF 21 (.int2 .mul (T 15) (T 20)), jF 22 (.plain (.call { callee := .builtin .min, args := #[(T 13), (T 21)], argTypes := #[3, 3] }) 3), jF 8 (.mov (T 22))]) .ret))
theorem fok108 : FnOk Tryz.prog 108 23 s108 [.tmp 8] := ⟨Tryz.f108, _, Tryz.func108, rfl, Tryz.ntmps108, by kernel_rfl, by kernel_rfl⟩
theorem blue_c (hn : 101 ≤ n) (hr : h.next + 10 < far) {wv vv sv tw tf : Value} {S : MS} {u : Nat → Int} (hy : SteepR h wv vv sv S) (ht : TruR h tw tf S u) (hG : Good S) (hu : InU S u) {v : Nat} {hh : Int} (ho : HourOk S v hh) {sp : Int} :
    call n (.func (.func 108) #[] #[]) [.agg ⟨stL S wv vv sv⟩, .agg ⟨trL tw tf sp⟩, .int .i64 (v : Int), .int .i64 hh] h = some (.int .i64 (blueS S u v hh), h) := by
  obtain ⟨n, rfl⟩ : ∃ p, n = p + 1 := ⟨n - 1, by omega⟩
  refine call_plain0 fok108 rfl rfl (by simp) rfl ?_
  have hy := hy.shut
  have ht := ht.shut
  have hr : h.shutAll.next + 10 < far := hr
  generalize h.shutAll = h at hy ht hr
  have hv := ho.isV
  obtain ⟨_, _, b3, b4⟩ := blue_bound hG hu ho
  simp only [s108, jO, jF, jR, jS, jU, jA, jK, W_seq, W_ops]
  refine ops_box (cs := stL S wv vv sv) (by omega) rfl hy.one fun h1 hx1 => ?_
  refine ops_box (cs := trL tw tf sp) (by rw [hx1.next]; omega) rfl ht.one fun h2 hx2 => ?_
  have n1 := hx1.next
  have n2 := hx2.next
  have r1 := hx1.row.mono hx2.sub
  have r2 := hx2.row
  have hy := (hy.mono hx1.sub).mono hx2.sub
  have ht := (ht.mono hx1.sub).mono hx2.sub
  have ew := warmth_c (n := n) (h := h2) (by omega) (by omega) hy ht hG hu ho (sp := sp)
  have hw : wrapF .i64 (S.per * warmS S u v hh) = S.per * warmS S u v hh := wrap_in (by omega) (by omega)
  have hmn : min (u (S.nw + 1 + v)) (S.per * warmS S u v hh) = blueS S u v hh := by unfold blueS; omega
  have w1 := r1.whole (n := 7) rfl
  have w2 := r2.whole (n := 3) rfl
  simp only [rn0, reduceIte, Nat.reduceEqDiff, Nat.reduceAdd, Nat.reduceMul, Nat.reduceSub, Nat.reduceLeDiff, Nat.reduceLT]
  refine W_draw All ?_
  simp only [rn0, reduceIte, Nat.reduceEqDiff, Nat.reduceAdd, Nat.reduceMul, Nat.reduceSub, Nat.reduceLeDiff, Nat.reduceLT, r1.ld, r2.ld, w1, w2, stg, trg, Nat.zero_add, Cells.self ht.f, Cells.idx ht.f hv, Cells.ld ht.f hv Nat.zero_lt_one, eqV_int, ew, hw, valN_tmp, hmn]
end Go.Vm.St

namespace Go.Vm.St
open Go.Proofs Go.Vm.Vat
set_option linter.unusedSimpArgs false
set_option linter.unusedVariables false
set_option maxRecDepth 10000
variable {n : Nat} {h : AHeap}
theorem need_ld {wv vv sv : Value} {S : MS} {k : Nat} (hy : SteepR h wv vv sv S) (hk : k < S.nv) : loadCell h (ptrO vv 4 k 3) = some (.int .i64 (S.vn k)) := Cells.ld hy.v hk (by omega)
theorem begin_ld {wv vv sv : Value} {S : MS} {k : Nat} (hy : SteepR h wv vv sv S) (hk : k < S.nv) : loadCell h (ptrO vv 4 k 0) = some (.int .i64 (S.vb k)) := Cells.ld hy.v hk (by omega)
def s57 : SCode := (.seq (.ops [jO 4 (.box (T 0)), jO 5 (.box (T 1)), jO 8 (.mov (jK 0))]) (.seq (.seq (.draw [jS 9 (.loadN 7 (T 4)), jS 10 (.loadN 3 (T 5)), jF 11 (.mov (T 2)), jF 12 (.mov (T 3)), jU 13 (.call (.func 107) [(T 9), (T 10), (T 11), (T 12)]), jF 14 (.fieldAddr 1 (T 5)), jR 15 (.load1 (T 14)), jF 16 (.int2 .gtr (T 13) (T 15))]) (.cond (T 16) (.seq (.ops [jO 8 (.mov (jK 2))]) .ret) .skip)) (.seq (.seq (.draw [jS 17 (.loadN 7 (T 4)), jS 18 (.loadN 3 (T 5)), jF 19 (.mov (T 2)), jF 20 (.mov (T 3)), jU 21 (.call (.func 108) [(T 17), (T 18), (T 19), (T 20)]), jF 22 (.fieldAddr 5 (T 4)), jR 23 (.load1 (T 22)), jF 24 (.mov (T 2)), jF 25 (.idxSl 4 (T 23) (T 24)), jF 26 (.fieldAddr 3 (T 25)), jR 27 (.load1 (T 26)), jF 28 (.int2 .lss (T 21) (T 27))]) (.cond (T 28) (.seq (.ops [jO 8 (.mov (jK 0))]) .ret) .skip)) (.seq (.ops [jO 8 (.mov (jK 1))]) .ret))))
theorem fok57 : FnOk Tryz.prog 57 29 s57 [.tmp 8] := ⟨Tryz.f57, _, Tryz.func57, rfl, Tryz.ntmps57, by kernel_rfl, by kernel_rfl⟩
theorem kind_c (hn : 102 ≤ n) (hr : h.next + 20 < far) {wv vv sv tw tf : Value} {S : MS} {u : Nat → Int} (hy : SteepR h wv vv sv S) (ht : TruR h tw tf S u) (hG : Good S) (hu : InU S u) {v : Nat} {hh : Int} (ho : HourOk S v hh) :
    call n (.func (.func 57) #[] #[]) [.agg ⟨stL S wv vv sv⟩, .agg ⟨trL tw tf (u S.nw)⟩, .int .i64 (v : Int), .int .i64 hh] h = some (.int .i64 (kindS S u v hh), h) := by
  obtain ⟨n, rfl⟩ : ∃ p, n = p + 1 := ⟨n - 1, by omega⟩
  refine call_plain0 fok57 rfl rfl (by simp) rfl ?_
  have hy := hy.shut
  have ht := ht.shut
  have hr : h.shutAll.next + 20 < far := hr
  generalize h.shutAll = h at hy ht hr
  have hv := ho.isV
  simp only [s57, jO, jF, jR, jS, jU, jA, jK, W_seq, W_ops]
  refine ops_box (cs := stL S wv vv sv) (by omega) rfl hy.one fun h1 hx1 => ?_
  refine ops_box (cs := trL tw tf (u S.nw)) (by rw [hx1.next]; omega) rfl ht.one fun h2 hx2 => ?_
  have n1 := hx1.next
  have n2 := hx2.next
  have r1 := hx1.row.mono hx2.sub
  have r2 := hx2.row
  have hy := (hy.mono hx1.sub).mono hx2.sub
  have ht := (ht.mono hx1.sub).mono hx2.sub
  have ew := warmth_c (n := n) (h := h2) (by omega) (by omega) hy ht hG hu ho (sp := u S.nw)
  have eb := blue_c (n := n) (h := h2) (by omega) (by omega) hy ht hG hu ho (sp := u S.nw)
  have w1 := r1.whole (n := 7) rfl
  have w2 := r2.whole (n := 3) rfl
  simp only [rn0, reduceIte, Nat.reduceEqDiff, Nat.reduceAdd, Nat.reduceMul, Nat.reduceSub, Nat.reduceLeDiff, Nat.reduceLT]
  refine W_draw All ?_
  by_cases c1 : u S.nw < warmS S u v hh
  · have hk : kindS S u v hh = 2 := by unfold kindS; rw [if_pos c1]
    simp only [rn0, reduceIte, Nat.reduceEqDiff, Nat.reduceAdd, Nat.reduceMul, Nat.reduceSub, Nat.reduceLeDiff, Nat.reduceLT, r1.ld, r2.ld, w1, w2, stg, trg, Nat.zero_add, eqV_int, ew, c1, hk]
  simp only [rn0, reduceIte, Nat.reduceEqDiff, Nat.reduceAdd, Nat.reduceMul, Nat.reduceSub, Nat.reduceLeDiff, Nat.reduceLT, r1.ld, r2.ld, w1, w2, stg, trg, Nat.zero_add, eqV_int, ew, c1]
  refine W_draw All ?_
  by_cases c2 : blueS S u v hh < S.vn v
  · have hk : kindS S u v hh = 0 := by unfold kindS; rw [if_neg c1, if_pos c2]
    simp only [rn0, reduceIte, Nat.reduceEqDiff, Nat.reduceAdd, Nat.reduceMul, Nat.reduceSub, Nat.reduceLeDiff, Nat.reduceLT, r1.ld, r2.ld, w1, w2, stg, trg, Nat.zero_add, Cells.self hy.v, Cells.idx hy.v hv, Cells.fld hy.v hv, need_ld hy hv, eqV_int, eb, c2, hk]
  · have hk : kindS S u v hh = 1 := by unfold kindS; rw [if_neg c1, if_neg c2]
    simp only [rn0, reduceIte, Nat.reduceEqDiff, Nat.reduceAdd, Nat.reduceMul, Nat.reduceSub, Nat.reduceLeDiff, Nat.reduceLT, r1.ld, r2.ld, w1, w2, stg, trg, Nat.zero_add, Cells.self hy.v, Cells.idx hy.v hv, Cells.fld hy.v hv, need_ld hy hv, eqV_int, eb, c2, hk]
theorem Good.hour {S : MS} (hG : Good S) {k : Nat} (hk : k < S.ns) : HourOk S (S.sv k).toNat (S.sh k) ∧ ((S.sv k).toNat : Int) = S.sv k := by
  obtain ⟨⟨h1, h2⟩, ⟨h3, h4⟩, _⟩ := hG.args.smell k hk
  exact ⟨⟨by omega, h3, h4⟩, by omega⟩
def s90 : SCode := (.seq (.ops [jO 2 (.box (T 0)), jO 3 (.box (T 1)), jO 4 (.mov (jK 0))]) (.seq (.ops [jO 5 (.mov (jK 0))]) (.seq (.seq (.ops [jO 6 (.mov (jK 0))]) (.block 0 (.loop (.seq (.seq (.ops [jO 8 (.mov (T 6)), jO 9 (.fieldAddr 6 (T 2)), jO 10 (.load1 (T 9)), jO 11 (.len (T 10)), jO 12 (.int2 .lss (T 8) (T 11))]) (.cond (T 12) .skip (.exit 0))) (.seq (.block 1 (.seq (.ops [jO 15 (.fieldAddr 6 (T 2)), jO 16 (.load1 (T 15)), jO 17 (.mov (T 6)), jO 18 (.idxSl 3 (T 16) (T 17)), jO 19 (.loadN 3 (T 18)), jO 7 (.alloc [(.int .i64 0), (.int .i64 0), (.int .i64 0)]), ⟨none, none, .store 3 (T 7) (T 19)⟩]) (.seq (.draw [jS 20 (.loadN 7 (T 2)), jS 21 (.loadN 3 (T 3)), jF 22 (.fieldAddr 0 (T 7)), jS 23 (.load1 (T 22)), jF 24 (.fieldAddr 1 (T 7)), jS 25 (.load1 (T 24)), jU 26 (.call (.func 57) [(T 20), (T 21), (T 23), (T 25)]), jF 27 (.fieldAddr 2 (T 7)), jR 28 (.load1 (T 27)), jF 29 (.int2 .eql (T 26) (T 28))]) (.cond (T 29) (.ops [jO 30 (.mov (T 5)), jO 31 (.mov (T 6)), jO 32 (.plain (.convert 3 97 (T 31)) 97), jO 33 (.plain (.binOp .shl 3 (jK 1) (T 32) 97) 3), jO 34 (.plain (.binOp .or 3 (T 30) (T 33) 3) 3), jO 5 (.mov (T 34))]) .skip)))) (.ops [jO 13 (.mov (T 6)), jO 14 (.int2 .add (T 13) (jK 1)), jO 6 (.mov (T 14))])))))) (.seq (.ops [jO 35 (.mov (T 5)), jO 4 (.mov (T 35))]) .ret))))
theorem fok90 : FnOk Tryz.prog 90 36 s90 [.tmp 4] := ⟨Tryz.f90, _, Tryz.func90, rfl, Tryz.ntmps90, by kernel_rfl, by kernel_rfl⟩
theorem right_c (hn : 110 ≤ n) (hr : h.next + 40 < far) {wv vv sv tw tf : Value} {S : MS} {u : Nat → Int} (hy : SteepR h wv vv sv S) (ht : TruR h tw tf S u) (hG : Good S) (hu : InU S u) :
    call n (.func (.func 90) #[] #[]) [.agg ⟨stL S wv vv sv⟩, .agg ⟨trL tw tf (u S.nw)⟩] h = some (.int .i64 ((bitsP (RightS S u) S.ns : Nat) : Int), h) := by
  obtain ⟨n, rfl⟩ : ∃ p, n = p + 1 := ⟨n - 1, by omega⟩
  refine call_plain0 fok90 rfl rfl (by simp) rfl ?_
  have hy := hy.shut
  have ht := ht.shut
  have hr : h.shutAll.next + 40 < far := hr
  have hfl : h.shutAll.floor ≤ h.shutAll.next := Nat.le_refl _
  generalize h.shutAll = h at hy ht hr hfl
  obtain ⟨_, _, _, _, _, z6, _⟩ := hG.sizes
  simp only [s90, jO, jF, jR, jS, jU, jA, jK, W_seq, W_ops]
  refine ops_box (cs := stL S wv vv sv) (by omega) rfl hy.one fun h1 hx1 => ?_
  refine ops_box (cs := trL tw tf (u S.nw)) (by rw [hx1.next]; omega) rfl ht.one fun h2 hx2 => ?_
  have n1 := hx1.next
  have n2 := hx2.next
  have f1' := hx1.floor
  have f2' := hx2.floor
  have r1 := hx1.row.mono hx2.sub
  have r2 := hx2.row
  have hy := (hy.mono hx1.sub).mono hx2.sub
  have ht := (ht.mono hx1.sub).mono hx2.sub
  simp only [rn0, reduceIte, Nat.reduceEqDiff, Nat.reduceAdd, Nat.reduceMul, Nat.reduceSub, Nat.reduceLeDiff, Nat.reduceLT]
  refine W_loop S.ns (fun k f g ms => (Sub All h2 g ∧ g.next = h2.next + k ∧ g.floor = h2.floor) ∧ ms = [] ∧ f 2 = .pointer (some ⟨h.next, 0, none⟩) ∧ f 3 = .pointer (some ⟨h1.next, 0, none⟩) ∧ f 5 = .int .i64 ((bitsP (RightS S u) k : Nat) : Int) ∧ f 6 = .int .i64 (k : Int)) (by simp; omega) ?_ ?_ ?_
  · simp only [rn0, reduceIte, Nat.reduceEqDiff, Nat.reduceAdd, Nat.reduceMul, Nat.reduceSub, Nat.reduceLeDiff, Nat.reduceLT, Nat.add_zero]
    exact ⟨rfl, rfl⟩
  · rintro k f g ms hk ⟨⟨g1, g2, g3⟩, rfl, f2, f3, f5, f6⟩
    have hk' : (k : Int) < (S.ns : Int) := by omega
    have hw : wrapF .i64 ((k : Int) + 1) = ((k + 1 : Nat) : Int) := by rw [wrap_in (by omega) (by omega)]; rfl
    have hyg := hy.mono g1
    have htg := ht.mono g1
    have r1g := r1.mono g1
    have r2g := r2.mono g1
    simp only [rn0, reduceIte, Nat.reduceEqDiff, Nat.reduceAdd, Nat.reduceMul, Nat.reduceSub, Nat.reduceLeDiff, Nat.reduceLT, f2, f3, f5, f6, r1g.ld, stg, Nat.zero_add, Cells.len hyg.s, hk', Cells.idx hyg.s hk, samps_ld hyg.s hk]
    refine step_new (vs := [.int .i64 (S.sv k), .int .i64 (S.sh k), .int .i64 (S.sk k)]) (by omega) (by omega) rfl (by simp only [rn0, reduceIte, Nat.reduceEqDiff, Nat.reduceAdd, Nat.reduceMul, Nat.reduceSub, Nat.reduceLeDiff, Nat.reduceLT]; rfl) rfl rfl rfl fun g' hg' => ?_
    have n' := hg'.next
    have f' := hg'.floor
    obtain ⟨ho, hsv⟩ := hG.hour hk
    have ek := kind_c (n := n) (h := g') (by omega) (by omega) (hyg.mono hg'.sub) (htg.mono hg'.sub) hG hu ho
    rw [hsv] at ek
    have w1 := (r1g.mono hg'.sub).whole (n := 7) rfl
    have w2 := (r2g.mono hg'.sub).whole (n := 3) rfl
    have hin : (Sub All h2 g' ∧ g'.next = h2.next + (k + 1) ∧ g'.floor = h2.floor) = True := eq_true ⟨g1.trans hg'.sub, by omega, by omega⟩
    have hpk : (2 ^ k : Nat) < 2 ^ 62 := Nat.pow_lt_pow_right (by omega) (by omega)
    have hrk : bitsP (RightS S u) k < 2 ^ 62 := Nat.lt_trans (bitsP_lt _ k) hpk
    simp only [rn0, reduceIte, Nat.reduceEqDiff, Nat.reduceAdd, Nat.reduceMul, Nat.reduceSub, Nat.reduceLeDiff, Nat.reduceLT]
    refine W_draw All ?_
    by_cases hR : RightS S u k
    · have hR' : kindS S u (S.sv k).toNat (S.sh k) = S.sk k := hR
      have hnew : bitsP (RightS S u) (k + 1) = bitsP (RightS S u) k ||| 2 ^ k := by simp only [bitsP]; rw [if_pos hR]
      simp only [rn0, reduceIte, Nat.reduceEqDiff, Nat.reduceAdd, Nat.reduceMul, Nat.reduceSub, Nat.reduceLeDiff, Nat.reduceLT, f2, f3, f5, f6, w1, w2, hg'.ld, Nat.zero_add, List.getElem?_cons_zero, List.getElem?_cons_succ, eqV_int, ek, hR', p_uint, r_conv (k := k) (by omega), r_shl (k := k) (by omega), r_or hrk hpk, hnew, hin, hw]
    · have hR' : ¬ kindS S u (S.sv k).toNat (S.sh k) = S.sk k := hR
      have hnew : bitsP (RightS S u) (k + 1) = bitsP (RightS S u) k := by simp only [bitsP]; rw [if_neg hR]
      simp only [rn0, reduceIte, Nat.reduceEqDiff, Nat.reduceAdd, Nat.reduceMul, Nat.reduceSub, Nat.reduceLeDiff, Nat.reduceLT, f2, f3, f5, f6, w1, w2, hg'.ld, Nat.zero_add, List.getElem?_cons_zero, List.getElem?_cons_succ, eqV_int, ek, hR', hnew, hin, hw]
  · rintro f g ms ⟨⟨g1, g2, g3⟩, rfl, f2, f3, f5, f6⟩
    simp only [rn0, reduceIte, Nat.reduceEqDiff, Nat.reduceAdd, Nat.reduceMul, Nat.reduceSub, Nat.reduceLeDiff, Nat.reduceLT, f2, f3, f5, f6, (r1.mono g1).ld, stg, Nat.zero_add, Cells.len (hy.mono g1).s, Int.lt_irrefl]
def Listed (S : MS) (m1 : Nat) (a1 : Nat → Int) (sp : Int) (m2 : Nat) (a2 : Nat → Int) : Prop :=
  (S.splo ≤ sp ∧ sp ≤ S.sphi) ∧ m1 = S.nw ∧ m2 = S.nv ∧ (∀ i, i < m1 → S.wlo i ≤ a1 i ∧ a1 i ≤ S.whi i) ∧ ∀ i, i < m2 → S.vlo i ≤ a2 i ∧ a2 i ≤ S.vhi i
noncomputable instance (S : MS) (m1 : Nat) (a1 : Nat → Int) (sp : Int) (m2 : Nat) (a2 : Nat → Int) : Decidable (Listed S m1 a1 sp m2 a2) := Classical.propDecidable _

def asU (S : MS) (a1 : Nat → Int) (sp : Int) (a2 : Nat → Int) (i : Nat) : Int := if i < S.nw then a1 i else if i = S.nw then sp else if i < numU S then a2 (i - S.nw - 1) else 0
theorem asU_w {S : MS} {a1 a2 : Nat → Int} {sp : Int} {i : Nat} (hi : i < S.nw) : asU S a1 sp a2 i = a1 i := by simp [asU, hi]
theorem asU_f {S : MS} {a1 a2 : Nat → Int} {sp : Int} {v : Nat} (hv : v < S.nv) : asU S a1 sp a2 (S.nw + 1 + v) = a2 v := by
  have c1 : ¬ S.nw + 1 + v < S.nw := by omega
  have c2 : ¬ S.nw + 1 + v = S.nw := by omega
  have c3 : S.nw + 1 + v < numU S := by unfold numU; omega
  have c4 : S.nw + 1 + v - S.nw - 1 = v := by omega
  simp only [asU, c1, c2, c3, c4, if_false, if_true]
theorem TrR.tru {tw tf : Value} {S : MS} {a1 a2 : Nat → Int} {sp : Int} (ht : TrR h tw tf S.nw a1 S.nv a2) : TruR h tw tf S (asU S a1 sp a2) :=
  ⟨cells_congr ht.w fun k j hk _ => by rw [asU_w hk], cells_congr ht.f fun k j hk _ => by show _ = Value.int .i64 (asU S a1 sp a2 (S.nw + 1 + k)); rw [asU_f hk]⟩
def TruthL (S : MS) (m1 : Nat) (a1 : Nat → Int) (sp : Int) (m2 : Nat) (a2 : Nat → Int) : Prop := Listed S m1 a1 sp m2 a2 ∧ ∀ k, k < S.ns → RightS S (asU S a1 sp a2) k
noncomputable instance (S : MS) (m1 : Nat) (a1 : Nat → Int) (sp : Int) (m2 : Nat) (a2 : Nat → Int) : Decidable (TruthL S m1 a1 sp m2 a2) := Classical.propDecidable _
theorem capN_bound {n0 : Int} {lo hi : Nat → Int} (h0 : 1 ≤ n0) (h1 : n0 ≤ 3000) (m : Nat) (hm : ∀ k, k < m → lo k ≤ hi k) : 1 ≤ capN n0 lo hi m ∧ capN n0 lo hi m ≤ 3000 := by
  rw [capN_min h0 h1 m hm]
  have := sizeN_pos m hm
  have hq : 1 ≤ n0 * sizeN lo hi m := by have := Int.mul_le_mul h0 this (by omega) (by omega); simpa using this
  omega
def s72 : SCode := (.seq (.ops [jO 1 (.box (T 0)), jO 2 (.mov (jK 0))]) (.seq (.ops [jO 6 (.fieldAddr 3 (T 1)), jO 7 (.loadN 2 (T 6)), jO 8 (.call (.func 119) [(T 7)]), jO 3 (.mov (T 8))]) (.seq (.seq (.ops [jO 4 (.mov (jK 0))]) (.block 0 (.loop (.seq (.seq (.ops [jO 9 (.mov (T 4)), jO 10 (.fieldAddr 2 (T 1)), jO 11 (.load1 (T 10)), jO 12 (.len (T 11)), jO 13 (.int2 .lss (T 9) (T 12))]) (.cond (T 13) .skip (.exit 0))) (.seq (.block 1 (.ops [jO 16 (.mov (T 3)), jO 17 (.fieldAddr 2 (T 1)), jO 18 (.load1 (T 17)), jO 19 (.mov (T 4)), jO 20 (.idxSl 2 (T 18) (T 19)), jO 21 (.loadN 2 (T 20)), jO 22 (.call (.func 119) [(T 21)]), jO 23 (.int2 .mul (T 16) (T 22)), jO 24 (.plain (.call { callee := .builtin .min, args := #[(jK 3000), (T 23)], argTypes := #[3, 3] }) 3), jO 3 (.mov (T 24))])) (.ops [jO 14 (.mov (T 4)), jO 15 (.int2 .add (T 14) (jK 1)), jO 4 (.mov (T 15))])))))) (.seq (.seq (.ops [jO 5 (.mov (jK 0))]) (.block 2 (.loop (.seq (.seq (.ops [jO 25 (.mov (T 5)), jO 26 (.fieldAddr 5 (T 1)), jO 27 (.load1 (T 26)), jO 28 (.len (T 27)), jO 29 (.int2 .lss (T 25) (T 28))]) (.cond (T 29) .skip (.exit 2))) (.seq (.block 3 (.ops [jO 32 (.mov (T 3)), jO 33 (.fieldAddr 5 (T 1)), jO 34 (.load1 (T 33)), jO 35 (.mov (T 5)), jO 36 (.idxSl 4 (T 34) (T 35)), jO 37 (.fieldAddr 1 (T 36)), jO 38 (.loadN 2 (T 37)), jO 39 (.call (.func 119) [(T 38)]), jO 40 (.int2 .mul (T 32) (T 39)), jO 41 (.plain (.call { callee := .builtin .min, args := #[(jK 3000), (T 40)], argTypes := #[3, 3] }) 3), jO 3 (.mov (T 41))])) (.ops [jO 30 (.mov (T 5)), jO 31 (.int2 .add (T 30) (jK 1)), jO 5 (.mov (T 31))])))))) (.seq (.ops [jO 42 (.mov (T 3)), jO 2 (.mov (T 42))]) .ret)))))
theorem fok72 : FnOk Tryz.prog 72 43 s72 [.tmp 2] := ⟨Tryz.f72, _, Tryz.func72, rfl, Tryz.ntmps72, by kernel_rfl, by kernel_rfl⟩
theorem many_c (hn : 110 ≤ n) (hr : h.next + 10 < far) {wv vv sv : Value} {S : MS} (hy : SteepR h wv vv sv S) (hA : ArgsOk S) (hl : S.nw ≤ 30 ∧ S.nv ≤ 30) :
    call n (.func (.func 72) #[] #[]) [.agg ⟨stL S wv vv sv⟩] h = some (.int .i64 (manyS S), h) := by
  obtain ⟨n, rfl⟩ : ∃ p, n = p + 1 := ⟨n - 1, by omega⟩
  refine call_plain0 fok72 rfl rfl (by simp) rfl ?_
  have hy := hy.shut
  have hr : h.shutAll.next + 10 < far := hr
  generalize h.shutAll = h at hy hr
  obtain ⟨b1, _, _, b5, b6, b7⟩ := hA.head
  simp only [s72, jO, jF, jR, jS, jU, jA, jK, W_seq, W_ops]
  refine ops_box (cs := stL S wv vv sv) (by omega) rfl hy.one fun h1 hx1 => ?_
  have n1 := hx1.next
  have r1 := hx1.row
  have hy := hy.mono hx1.sub
  have es := size_ok (n := n) (h := h1) (by omega) (by omega) b5 b6 b7
  have hw0 : ∀ k, k < S.nw → S.wlo k ≤ S.whi k := fun k hk => (hA.warm k hk).2.1
  have hv0 : ∀ k, k < S.nv → S.vlo k ≤ S.vhi k := fun k hk => (hA.vat k hk).2.1.2.1
  simp only [rn0, reduceIte, Nat.reduceEqDiff, Nat.reduceAdd, Nat.reduceMul, Nat.reduceSub, Nat.reduceLeDiff, Nat.reduceLT, st_rng r1, es]
  refine W_loop S.nw (fun k f g ms => g = h1 ∧ ms = [] ∧ f 1 = .pointer (some ⟨h.next, 0, none⟩) ∧ f 3 = .int .i64 (capN (S.sphi - S.splo + 1) S.wlo S.whi k) ∧ f 4 = .int .i64 (k : Int)) (by simp; omega) ?_ ?_ ?_
  · simp only [rn0, reduceIte, Nat.reduceEqDiff, Nat.reduceAdd, Nat.reduceMul, Nat.reduceSub, Nat.reduceLeDiff, Nat.reduceLT]
    exact ⟨rfl, rfl⟩
  · rintro k f g ms hk ⟨rfl, rfl, f1, f3, f4⟩
    have hk' : (k : Int) < (S.nw : Int) := by omega
    have hw : wrapF .i64 ((k : Int) + 1) = ((k + 1 : Nat) : Int) := by rw [wrap_in (by omega) (by omega)]; rfl
    obtain ⟨q1, q2, q3⟩ := hA.warm k hk
    have ek := size_ok (n := n) (h := g) (by omega) (by omega) q1 q2 (by omega)
    obtain ⟨c1, c2⟩ := capN_bound (n0 := S.sphi - S.splo + 1) (lo := S.wlo) (hi := S.whi) (by omega) (by omega) k fun j hj => hw0 j (by omega)
    have hm1 : 0 ≤ capN (S.sphi - S.splo + 1) S.wlo S.whi k * (S.whi k - S.wlo k + 1) := Int.mul_nonneg (by omega) (by omega)
    have hm2 : capN (S.sphi - S.splo + 1) S.wlo S.whi k * (S.whi k - S.wlo k + 1) ≤ 3000 * 10 := Int.mul_le_mul c2 (by omega) (by omega) (by omega)
    have hwm : wrapF .i64 (capN (S.sphi - S.splo + 1) S.wlo S.whi k * (S.whi k - S.wlo k + 1)) = capN (S.sphi - S.splo + 1) S.wlo S.whi k * (S.whi k - S.wlo k + 1) := wrap_in (by omega) (by omega)
    have hmin : min 3000 (capN (S.sphi - S.splo + 1) S.wlo S.whi k * (S.whi k - S.wlo k + 1)) = capN (S.sphi - S.splo + 1) S.wlo S.whi (k + 1) := rfl
    simp only [rn0, reduceIte, Nat.reduceEqDiff, Nat.reduceAdd, Nat.reduceMul, Nat.reduceSub, Nat.reduceLeDiff, Nat.reduceLT, f1, f3, f4, r1.ld, stg, Nat.zero_add, Cells.len hy.w, hk', Cells.idx hy.w hk, ranges_ld hy.w hk, ek, hwm, valN_tmp, valN_const, hmin, hw]
  · rintro f g ms ⟨rfl, rfl, f1, f3, f4⟩
    obtain ⟨k1, k2⟩ := capN_bound (n0 := S.sphi - S.splo + 1) (lo := S.wlo) (hi := S.whi) (by omega) (by omega) S.nw hw0
    simp only [rn0, reduceIte, Nat.reduceEqDiff, Nat.reduceAdd, Nat.reduceMul, Nat.reduceSub, Nat.reduceLeDiff, Nat.reduceLT, f1, f3, f4, r1.ld, stg, Nat.zero_add, Cells.len hy.w, Int.lt_irrefl]
    have hmany : manyS S = capN (capN (S.sphi - S.splo + 1) S.wlo S.whi S.nw) S.vlo S.vhi S.nv := rfl
    rw [hmany]
    generalize capN (S.sphi - S.splo + 1) S.wlo S.whi S.nw = n0 at k1 k2 f3
    refine W_loop S.nv (fun k f gg ms => gg = g ∧ ms = [] ∧ f 1 = .pointer (some ⟨h.next, 0, none⟩) ∧ f 3 = .int .i64 (capN n0 S.vlo S.vhi k) ∧ f 5 = .int .i64 (k : Int)) (by simp; omega) ?_ ?_ ?_
    · simp only [rn0, reduceIte, Nat.reduceEqDiff, Nat.reduceAdd, Nat.reduceMul, Nat.reduceSub, Nat.reduceLeDiff, Nat.reduceLT, f1, f3]
      exact ⟨rfl, rfl⟩
    · rintro k f gg ms hk ⟨rfl, rfl, f1, f3, f5⟩
      have hk' : (k : Int) < (S.nv : Int) := by omega
      have hw : wrapF .i64 ((k : Int) + 1) = ((k + 1 : Nat) : Int) := by rw [wrap_in (by omega) (by omega)]; rfl
      obtain ⟨_, ⟨q1, q2, q3⟩, _⟩ := hA.vat k hk
      have ek := size_ok (n := n) (h := gg) (by omega) (by omega) q1 q2 (by omega)
      obtain ⟨c1, c2⟩ := capN_bound (n0 := n0) (lo := S.vlo) (hi := S.vhi) (by omega) (by omega) k fun j hj => hv0 j (by omega)
      have hm1 : 0 ≤ capN n0 S.vlo S.vhi k * (S.vhi k - S.vlo k + 1) := Int.mul_nonneg (by omega) (by omega)
      have hm2 : capN n0 S.vlo S.vhi k * (S.vhi k - S.vlo k + 1) ≤ 3000 * 100 := Int.mul_le_mul c2 (by omega) (by omega) (by omega)
      have hwm : wrapF .i64 (capN n0 S.vlo S.vhi k * (S.vhi k - S.vlo k + 1)) = capN n0 S.vlo S.vhi k * (S.vhi k - S.vlo k + 1) := wrap_in (by omega) (by omega)
      have hmin : min 3000 (capN n0 S.vlo S.vhi k * (S.vhi k - S.vlo k + 1)) = capN n0 S.vlo S.vhi (k + 1) := rfl
      simp only [rn0, reduceIte, Nat.reduceEqDiff, Nat.reduceAdd, Nat.reduceMul, Nat.reduceSub, Nat.reduceLeDiff, Nat.reduceLT, f1, f3, f5, r1.ld, stg, Nat.zero_add, Cells.len hy.v, hk', Cells.idx hy.v hk, Cells.fld hy.v hk, full_ld hy hk, ek, hwm, valN_tmp, valN_const, hmin, hw]
    · rintro f gg ms ⟨rfl, rfl, f1, f3, f5⟩
      simp only [rn0, reduceIte, Nat.reduceEqDiff, Nat.reduceAdd, Nat.reduceMul, Nat.reduceSub, Nat.reduceLeDiff, Nat.reduceLT, f1, f3, f5, r1.ld, stg, Nat.zero_add, Cells.len hy.v, Int.lt_irrefl]

def s112 : SCode := (.seq (.ops [jO 1 (.box (T 0)), jO 2 (.mov (jK 0))]) (.seq (.seq (.ops [jO 8 (.fieldAddr 0 (T 1)), jO 9 (.load1 (T 8)), jO 10 (.int2 .gtr (T 9) (jK 5)), jO 11 (.mov (T 10)), ⟨some 12, (some (11, false)), .fieldAddr 5 (T 1)⟩, ⟨some 13, (some (11, false)), .load1 (T 12)⟩, ⟨some 14, (some (11, false)), .len (T 13)⟩, ⟨some 15, (some (11, false)), .int2 .gtr (T 14) (jK 4)⟩, jO 16 (.pick (T 11) (.const (.bool true)) (T 15)), jO 17 (.mov (T 16)), ⟨some 18, (some (17, false)), .fieldAddr 6 (T 1)⟩, ⟨some 19, (some (17, false)), .load1 (T 18)⟩, ⟨some 20, (some (17, false)), .len (T 19)⟩, ⟨some 21, (some (17, false)), .int2 .gtr (T 20) (jK 5)⟩, jO 22 (.pick (T 17) (.const (.bool true)) (T 21))]) (.cond (T 22) (.seq (.ops [jO 2 (.mov (jK 3))]) .ret) .skip)) (.seq (.seq (.ops [jO 23 (.fieldAddr 0 (T 1)), jO 24 (.load1 (T 23)), jO 25 (.int2 .lss (T 24) (jK 0)), jO 26 (.mov (T 25)), ⟨some 27, (some (26, false)), .fieldAddr 1 (T 1)⟩, ⟨some 28, (some (26, false)), .load1 (T 27)⟩, ⟨some 29, (some (26, false)), .call (.func 59) [(T 28), (jK 1), (jK 9)]⟩, ⟨some 30, (some (26, false)), .not (T 29)⟩, jO 31 (.pick (T 26) (.const (.bool true)) (T 30)), jO 32 (.mov (T 31)), ⟨some 33, (some (32, false)), .fieldAddr 2 (T 1)⟩, ⟨some 34, (some (32, false)), .load1 (T 33)⟩, ⟨some 35, (some (32, false)), .len (T 34)⟩, ⟨some 36, (some (32, false)), .fieldAddr 0 (T 1)⟩, ⟨some 37, (some (32, false)), .load1 (T 36)⟩, ⟨some 38, (some (32, false)), .int2 .add (T 37) (jK 1)⟩, ⟨some 39, (some (32, false)), .int2 .neq (T 35) (T 38)⟩, jO 40 (.pick (T 32) (.const (.bool true)) (T 39)), jO 41 (.mov (T 40)), ⟨some 42, (some (41, false)), .fieldAddr 3 (T 1)⟩, ⟨some 43, (some (41, false)), .loadN 2 (T 42)⟩, ⟨some 44, (some (41, false)), .call (.func 113) [(T 43), (jK 99)]⟩, ⟨some 45, (some (41, false)), .not (T 44)⟩, jO 46 (.pick (T 41) (.const (.bool true)) (T 45))]) (.cond (T 46) (.seq (.ops [jO 2 (.mov (jK 1))]) .ret) .skip)) (.seq (.seq (.ops [jO 3 (.mov (jK 0))]) (.block 0 (.loop (.seq (.seq (.ops [jO 47 (.mov (T 3)), jO 48 (.fieldAddr 2 (T 1)), jO 49 (.load1 (T 48)), jO 50 (.len (T 49)), jO 51 (.int2 .lss (T 47) (T 50))]) (.cond (T 51) .skip (.exit 0))) (.seq (.block 1 (.seq (.ops [jO 54 (.fieldAddr 2 (T 1)), jO 55 (.load1 (T 54)), jO 56 (.mov (T 3)), jO 57 (.idxSl 2 (T 55) (T 56)), jO 58 (.loadN 2 (T 57)), jO 59 (.call (.func 113) [(T 58), (jK 9)]), jO 60 (.not (T 59))]) (.cond (T 60) (.seq (.ops [jO 2 (.mov (jK 1))]) .ret) .skip))) (.ops [jO 52 (.mov (T 3)), jO 53 (.int2 .add (T 52) (jK 1)), jO 3 (.mov (T 53))])))))) (.seq (.seq (.ops [jO 4 (.mov (jK 0))]) (.block 2 (.loop (.seq (.seq (.ops [jO 61 (.mov (T 4)), jO 62 (.fieldAddr 5 (T 1)), jO 63 (.load1 (T 62)), jO 64 (.len (T 63)), jO 65 (.int2 .lss (T 61) (T 64))]) (.cond (T 65) .skip (.exit 2))) (.seq (.block 3 (.seq (.ops [jO 68 (.fieldAddr 5 (T 1)), jO 69 (.load1 (T 68)), jO 70 (.mov (T 4)), jO 71 (.idxSl 4 (T 69) (T 70)), jO 72 (.loadN 4 (T 71)), jO 5 (.alloc [(.int .i64 0), (.int .i64 0), (.int .i64 0), (.int .i64 0)]), ⟨none, none, .store 4 (T 5) (T 72)⟩]) (.seq (.ops [jO 73 (.fieldAddr 0 (T 5)), jO 74 (.load1 (T 73)), jO 75 (.fieldAddr 0 (T 1)), jO 76 (.load1 (T 75)), jO 77 (.call (.func 59) [(T 74), (jK 0), (T 76)]), jO 78 (.not (T 77)), jO 79 (.mov (T 78)), ⟨some 80, (some (79, false)), .fieldAddr 1 (T 5)⟩, ⟨some 81, (some (79, false)), .loadN 2 (T 80)⟩, ⟨some 82, (some (79, false)), .call (.func 113) [(T 81), (jK 99)]⟩, ⟨some 83, (some (79, false)), .not (T 82)⟩, jO 84 (.pick (T 79) (.const (.bool true)) (T 83)), jO 85 (.mov (T 84)), ⟨some 86, (some (85, false)), .fieldAddr 3 (T 5)⟩, ⟨some 87, (some (85, false)), .load1 (T 86)⟩, ⟨some 88, (some (85, false)), .call (.func 59) [(T 87), (jK 0), (jK 99)]⟩, ⟨some 89, (some (85, false)), .not (T 88)⟩, jO 90 (.pick (T 85) (.const (.bool true)) (T 89))]) (.cond (T 90) (.seq (.ops [jO 2 (.mov (jK 1))]) .ret) .skip)))) (.ops [jO 66 (.mov (T 4)), jO 67 (.int2 .add (T 66) (jK 1)), jO 4 (.mov (T 67))])))))) (.seq (.seq (.ops [jO 6 (.mov (jK 0))]) (.block 4 (.loop (.seq (.seq (.ops [jO 91 (.mov (T 6)), jO 92 (.fieldAddr 6 (T 1)), jO 93 (.load1 (T 92)), jO 94 (.len (T 93)), jO 95 (.int2 .lss (T 91) (T 94))]) (.cond (T 95) .skip (.exit 4))) (.seq (.block 5 (.seq (.ops [jO 98 (.fieldAddr 6 (T 1)), jO 99 (.load1 (T 98)), jO 100 (.mov (T 6)), jO 101 (.idxSl 3 (T 99) (T 100)), jO 102 (.loadN 3 (T 101)), jO 7 (.alloc [(.int .i64 0), (.int .i64 0), (.int .i64 0)]), ⟨none, none, .store 3 (T 7) (T 102)⟩]) (.seq (.draw [jF 103 (.fieldAddr 0 (T 7)), jS 104 (.load1 (T 103)), jF 105 (.fieldAddr 5 (T 1)), jS 106 (.load1 (T 105)), jF 107 (.len (T 106)), jF 108 (.int2 .sub (T 107) (jK 1)), jU 109 (.call (.func 59) [(T 104), (jK 0), (T 108)]), jF 110 (.not (T 109)), jF 111 (.mov (T 110)), ⟨.free, ⟨some 112, (some (111, false)), .fieldAddr 1 (T 7)⟩⟩, ⟨.rd1, ⟨some 113, (some (111, false)), .load1 (T 112)⟩⟩, ⟨.free, ⟨some 114, (some (111, false)), .fieldAddr 5 (T 1)⟩⟩, ⟨.rd1, ⟨some 115, (some (111, false)), .load1 (T 114)⟩⟩, ⟨.free, ⟨some 116, (some (111, false)), .fieldAddr 0 (T 7)⟩⟩, ⟨.rd1, ⟨some 117, (some (111, false)), .load1 (T 116)⟩⟩, ⟨.free, ⟨some 118, (some (111, false)), .idxSl 4 (T 115) (T 117)⟩⟩, ⟨.free, ⟨some 119, (some (111, false)), .fieldAddr 0 (T 118)⟩⟩, ⟨.rd1, ⟨some 120, (some (111, false)), .load1 (T 119)⟩⟩, ⟨.free, ⟨some 121, (some (111, false)), .fieldAddr 0 (T 1)⟩⟩, ⟨.rd1, ⟨some 122, (some (111, false)), .load1 (T 121)⟩⟩, ⟨.up, ⟨some 123, (some (111, false)), .call (.func 59) [(T 113), (T 120), (T 122)]⟩⟩, ⟨.free, ⟨some 124, (some (111, false)), .not (T 123)⟩⟩, jF 125 (.pick (T 111) (.const (.bool true)) (T 124)), jF 126 (.mov (T 125)), ⟨.free, ⟨some 127, (some (126, false)), .fieldAddr 2 (T 7)⟩⟩, ⟨.rd1, ⟨some 128, (some (126, false)), .load1 (T 127)⟩⟩, ⟨.any, ⟨some 129, (some (126, false)), .call (.func 59) [(T 128), (jK 0), (jK 2)]⟩⟩, ⟨.free, ⟨some 130, (some (126, false)), .not (T 129)⟩⟩, jF 131 (.pick (T 126) (.const (.bool true)) (T 130))]) (.cond (T 131) (.seq (.ops [jO 2 (.mov (jK 1))]) .ret) .skip)))) (.ops [jO 96 (.mov (T 6)), jO 97 (.int2 .add (T 96) (jK 1)), jO 6 (.mov (T 97))])))))) (.seq (.seq (.ops [jO 132 (.loadN 7 (T 1)), jO 133 (.call (.func 72) [(T 132)]), jO 134 (.int2 .gtr (T 133) (jK 2000))]) (.cond (T 134) (.seq (.ops [jO 2 (.mov (jK 3))]) .ret) .skip)) (.seq (.ops [jO 2 (.mov (jK 0))]) .ret))))))))
theorem fok112 : FnOk Tryz.prog 112 135 s112 [.tmp 2] := ⟨Tryz.f112, _, Tryz.func112, rfl, Tryz.ntmps112, by kernel_rfl, by kernel_rfl⟩
set_option maxHeartbeats 1000000 in
theorem fault_c (hn : 120 ≤ n) (hr : h.next + 100 < far) {wv vv sv : Value} {S : MS} (hy : SteepR h wv vv sv S) (hl : S.nw ≤ 30 ∧ S.nv ≤ 30 ∧ S.ns ≤ 30) :
    call n (.func (.func 112) #[] #[]) [.agg ⟨stL S wv vv sv⟩] h = some (.int .i64 (faultS S), h) := by
  obtain ⟨n, rfl⟩ : ∃ p, n = p + 1 := ⟨n - 1, by omega⟩
  refine call_plain0 fok112 rfl rfl (by simp) rfl ?_
  have hy := hy.shut
  have hr : h.shutAll.next + 100 < far := hr
  have hfl : h.shutAll.floor ≤ h.shutAll.next := Nat.le_refl _
  generalize h.shutAll = h at hy hr hfl
  simp only [s112, jO, jF, jR, jS, jU, jA, jK, W_seq, W_ops]
  refine ops_box (cs := stL S wv vv sv) (by omega) rfl hy.one fun h1 hx => ?_
  have hy := hy.mono hx.sub
  have n1 := hx.next
  have f1' := hx.floor
  have r1 := hx.row
  have e3 : ¬ LimOk S → faultS S = 3 := fun e => by unfold faultS; rw [if_pos e]
  by_cases c1 : 5 < S.last
  · have := e3 fun e => by have := e.1; omega
    simp only [rn0, reduceIte, Nat.reduceEqDiff, Nat.reduceAdd, Nat.reduceMul, Nat.reduceSub, Nat.reduceLeDiff, Nat.reduceLT, r1.ld, stg, Nat.zero_add, c1, this]
  by_cases c2 : (4 : Int) < (S.nv : Int)
  · have := e3 fun e => by have := e.2.1; omega
    simp only [rn0, reduceIte, Nat.reduceEqDiff, Nat.reduceAdd, Nat.reduceMul, Nat.reduceSub, Nat.reduceLeDiff, Nat.reduceLT, r1.ld, stg, Nat.zero_add, c1, Cells.len hy.v, c2, this]
  by_cases c3 : (5 : Int) < (S.ns : Int)
  · have := e3 fun e => by have := e.2.2; omega
    simp only [rn0, reduceIte, Nat.reduceEqDiff, Nat.reduceAdd, Nat.reduceMul, Nat.reduceSub, Nat.reduceLeDiff, Nat.reduceLT, r1.ld, stg, Nat.zero_add, c1, Cells.len hy.v, c2, Cells.len hy.s, c3, this]
  have hL : LimOk S := ⟨by omega, by omega, by omega⟩
  have bad : ¬ ArgsOk S → faultS S = 1 := fun e => by unfold faultS; rw [if_neg (by simpa using hL), if_pos e]
  simp only [rn0, reduceIte, Nat.reduceEqDiff, Nat.reduceAdd, Nat.reduceMul, Nat.reduceSub, Nat.reduceLeDiff, Nat.reduceLT, r1.ld, stg, Nat.zero_add, c1, Cells.len hy.v, c2, Cells.len hy.s, c3]
  by_cases c4 : S.last < 0
  · have := bad fun e => by have := e.head.1; omega
    simp only [rn0, reduceIte, Nat.reduceEqDiff, Nat.reduceAdd, Nat.reduceMul, Nat.reduceSub, Nat.reduceLeDiff, Nat.reduceLT, r1.ld, stg, Nat.zero_add, c4, this]
  have i1 := in_c (n := n) (h := h1) (by omega) S.per 1 9
  by_cases c5 : 1 ≤ S.per ∧ S.per ≤ 9
  case neg =>
    have := bad fun e => c5 e.head.2.1
    simp only [rn0, reduceIte, Nat.reduceEqDiff, Nat.reduceAdd, Nat.reduceMul, Nat.reduceSub, Nat.reduceLeDiff, Nat.reduceLT, r1.ld, stg, Nat.zero_add, c4, i1, c5, this]
  have hwl : wrapF .i64 (S.last + 1) = S.last + 1 := wrap_in (by omega) (by omega)
  by_cases c6 : (S.nw : Int) = S.last + 1
  case neg =>
    have := bad fun e => c6 e.head.2.2.1
    simp only [rn0, reduceIte, Nat.reduceEqDiff, Nat.reduceAdd, Nat.reduceMul, Nat.reduceSub, Nat.reduceLeDiff, Nat.reduceLT, r1.ld, stg, Nat.zero_add, c4, i1, c5, and_self, Cells.len hy.w, hwl, c6, this]
  have d6 : decide ((S.nw : Int) = S.last + 1) = true := decide_eq_true c6
  have i2 := inside_c (n := n) (h := h1) (by omega) (by omega) S.splo S.sphi 99
  by_cases c7 : 0 ≤ S.splo ∧ S.splo ≤ S.sphi ∧ S.sphi ≤ 99
  case neg =>
    have := bad fun e => c7 e.head.2.2.2
    simp only [rn0, reduceIte, Nat.reduceEqDiff, Nat.reduceAdd, Nat.reduceMul, Nat.reduceSub, Nat.reduceLeDiff, Nat.reduceLT, r1.ld, stg, Nat.zero_add, c4, i1, c5, and_self, Cells.len hy.w, hwl, d6, st_rng r1, i2, c7, this]
  have hH : HeadOk S := ⟨by omega, c5, c6, c7⟩
  simp only [rn0, reduceIte, Nat.reduceEqDiff, Nat.reduceAdd, Nat.reduceMul, Nat.reduceSub, Nat.reduceLeDiff, Nat.reduceLT, r1.ld, stg, Nat.zero_add, c4, i1, c5, and_self, Cells.len hy.w, hwl, d6, st_rng r1, i2, c7]
  refine W_loop S.nw (fun k f g ms => g = h1 ∧ ms = [] ∧ f 1 = .pointer (some ⟨h.next, 0, none⟩) ∧ f 3 = .int .i64 (k : Int) ∧ ∀ j, j < k → 0 ≤ S.wlo j ∧ S.wlo j ≤ S.whi j ∧ S.whi j ≤ 9) (by simp; omega) ?_ ?_ ?_
  · simp only [rn0, reduceIte, Nat.reduceEqDiff, Nat.reduceAdd, Nat.reduceMul, Nat.reduceSub, Nat.reduceLeDiff, Nat.reduceLT, Nat.not_lt_zero, false_implies, implies_true]
    trivial
  · rintro k f g ms hk ⟨rfl, rfl, f1, f3, hlt⟩
    have hk' : (k : Int) < (S.nw : Int) := by omega
    have hw : wrapF .i64 ((k : Int) + 1) = ((k + 1 : Nat) : Int) := by rw [wrap_in (by omega) (by omega)]; rfl
    have ei := inside_c (n := n) (h := g) (by omega) (by omega) (S.wlo k) (S.whi k) 9
    by_cases hkk : 0 ≤ S.wlo k ∧ S.wlo k ≤ S.whi k ∧ S.whi k ≤ 9
    · simp only [rn0, reduceIte, Nat.reduceEqDiff, Nat.reduceAdd, Nat.reduceMul, Nat.reduceSub, Nat.reduceLeDiff, Nat.reduceLT, f1, f3, r1.ld, stg, Nat.zero_add, Cells.len hy.w, hk', Cells.idx hy.w hk, ranges_ld hy.w hk, ei, hkk, hw, and_self]
      intro j hj
      by_cases e : j = k
      · subst e; exact hkk
      · exact hlt j (by omega)
    · have := bad fun hb => hkk (hb.warm k hk)
      simp only [rn0, reduceIte, Nat.reduceEqDiff, Nat.reduceAdd, Nat.reduceMul, Nat.reduceSub, Nat.reduceLeDiff, Nat.reduceLT, f1, f3, r1.ld, stg, Nat.zero_add, Cells.len hy.w, hk', Cells.idx hy.w hk, ranges_ld hy.w hk, ei, hkk, this]
  rintro f g ms ⟨rfl, rfl, f1, f3, hW⟩
  simp only [rn0, reduceIte, Nat.reduceEqDiff, Nat.reduceAdd, Nat.reduceMul, Nat.reduceSub, Nat.reduceLeDiff, Nat.reduceLT, f1, f3, r1.ld, stg, Nat.zero_add, Cells.len hy.w, Int.lt_irrefl]
  clear f3
  refine W_loop S.nv (fun k f g' ms => (Sub All g g' ∧ g'.next = g.next + k ∧ g'.floor = g.floor) ∧ ms = [] ∧ f 1 = .pointer (some ⟨h.next, 0, none⟩) ∧ f 4 = .int .i64 (k : Int) ∧ ∀ i, i < k → (0 ≤ S.vb i ∧ S.vb i ≤ S.last) ∧ (0 ≤ S.vlo i ∧ S.vlo i ≤ S.vhi i ∧ S.vhi i ≤ 99) ∧ 0 ≤ S.vn i ∧ S.vn i ≤ 99) (by simp; omega) ?_ ?_ ?_
  · simp only [rn0, reduceIte, Nat.reduceEqDiff, Nat.reduceAdd, Nat.reduceMul, Nat.reduceSub, Nat.reduceLeDiff, Nat.reduceLT, f1, Nat.not_lt_zero, false_implies, implies_true, Nat.add_zero]
    trivial
  · rintro k f g' ms hk ⟨⟨g1, g2, g3⟩, rfl, f1, f4, hlt⟩
    have hk' : (k : Int) < (S.nv : Int) := by omega
    have hw : wrapF .i64 ((k : Int) + 1) = ((k + 1 : Nat) : Int) := by rw [wrap_in (by omega) (by omega)]; rfl
    have hyg := hy.mono g1
    have rg := r1.mono g1
    simp only [rn0, reduceIte, Nat.reduceEqDiff, Nat.reduceAdd, Nat.reduceMul, Nat.reduceSub, Nat.reduceLeDiff, Nat.reduceLT, f1, f4, rg.ld, stg, Nat.zero_add, Cells.len hyg.v, hk', Cells.idx hyg.v hk, vat_ld hyg hk]
    refine step_new (vs := [.int .i64 (S.vb k), .int .i64 (S.vlo k), .int .i64 (S.vhi k), .int .i64 (S.vn k)]) (by omega) (by omega) rfl (by simp only [rn0, reduceIte, Nat.reduceEqDiff, Nat.reduceAdd, Nat.reduceMul, Nat.reduceSub, Nat.reduceLeDiff, Nat.reduceLT]; rfl) rfl rfl rfl fun g4 hx4 => ?_
    have n4 := hx4.next
    have f4' := hx4.floor
    have rg4 := rg.mono hx4.sub
    have hin : (Sub All g g4 ∧ g4.next = g.next + (k + 1) ∧ g4.floor = g.floor) = True := eq_true ⟨g1.trans hx4.sub, by omega, by omega⟩
    have j1 := in_c (n := n) (h := g4) (by omega) (S.vb k) 0 S.last
    have j2 := inside_c (n := n) (h := g4) (by omega) (by omega) (S.vlo k) (S.vhi k) 99
    have j3 := in_c (n := n) (h := g4) (by omega) (S.vn k) 0 99
    by_cases q1 : 0 ≤ S.vb k ∧ S.vb k ≤ S.last
    case neg =>
      have := bad fun hb => q1 (hb.vat k hk).1
      simp only [rn0, reduceIte, Nat.reduceEqDiff, Nat.reduceAdd, Nat.reduceMul, Nat.reduceSub, Nat.reduceLeDiff, Nat.reduceLT, f1, f4, rg4.ld, hx4.ld, stg, Nat.zero_add, List.getElem?_cons_zero, List.getElem?_cons_succ, j1, q1, this]
    by_cases q2 : 0 ≤ S.vlo k ∧ S.vlo k ≤ S.vhi k ∧ S.vhi k ≤ 99
    case neg =>
      have := bad fun hb => q2 (hb.vat k hk).2.1
      simp only [rn0, reduceIte, Nat.reduceEqDiff, Nat.reduceAdd, Nat.reduceMul, Nat.reduceSub, Nat.reduceLeDiff, Nat.reduceLT, f1, f4, rg4.ld, hx4.ld, hx4.ldN 1 2 (by simp) (by simp), stg, Nat.zero_add, List.drop_succ_cons, List.drop_zero, List.take_succ_cons, List.take_zero, List.getElem?_cons_zero, List.getElem?_cons_succ, j1, q1, and_self, j2, q2, this]
    by_cases q3 : 0 ≤ S.vn k ∧ S.vn k ≤ 99
    case neg =>
      have := bad fun hb => q3 (hb.vat k hk).2.2
      simp only [rn0, reduceIte, Nat.reduceEqDiff, Nat.reduceAdd, Nat.reduceMul, Nat.reduceSub, Nat.reduceLeDiff, Nat.reduceLT, f1, f4, rg4.ld, hx4.ld, hx4.ldN 1 2 (by simp) (by simp), stg, Nat.zero_add, List.drop_succ_cons, List.drop_zero, List.take_succ_cons, List.take_zero, List.getElem?_cons_zero, List.getElem?_cons_succ, j1, q1, and_self, j2, q2, j3, q3, this]
    simp only [rn0, reduceIte, Nat.reduceEqDiff, Nat.reduceAdd, Nat.reduceMul, Nat.reduceSub, Nat.reduceLeDiff, Nat.reduceLT, f1, f4, rg4.ld, hx4.ld, hx4.ldN 1 2 (by simp) (by simp), stg, Nat.zero_add, List.drop_succ_cons, List.drop_zero, List.take_succ_cons, List.take_zero, List.getElem?_cons_zero, List.getElem?_cons_succ, j1, q1, and_self, j2, q2, j3, q3, hw, hin]
    intro j hj
    by_cases e : j = k
    · subst e; exact ⟨q1, q2, q3⟩
    · exact hlt j (by omega)
  rintro f g2 ms ⟨⟨k1, k2, k3⟩, rfl, f1, f4, hV⟩
  have hy := hy.mono k1
  have r1 := r1.mono k1
  simp only [rn0, reduceIte, Nat.reduceEqDiff, Nat.reduceAdd, Nat.reduceMul, Nat.reduceSub, Nat.reduceLeDiff, Nat.reduceLT, f1, f4, r1.ld, stg, Nat.zero_add, Cells.len hy.v, Int.lt_irrefl]
  clear f4
  have hwv : wrapF .i64 ((S.nv : Int) - 1) = (S.nv : Int) - 1 := wrap_in (by omega) (by omega)
  refine W_loop S.ns (fun k f g' ms => (Sub All g2 g' ∧ g'.next = g2.next + k ∧ g'.floor = g2.floor) ∧ ms = [] ∧ f 1 = .pointer (some ⟨h.next, 0, none⟩) ∧ f 6 = .int .i64 (k : Int) ∧ ∀ i, i < k → (0 ≤ S.sv i ∧ S.sv i ≤ (S.nv : Int) - 1) ∧ (S.vb (S.sv i).toNat ≤ S.sh i ∧ S.sh i ≤ S.last) ∧ 0 ≤ S.sk i ∧ S.sk i ≤ 2) (by simp; omega) ?_ ?_ ?_
  · simp only [rn0, reduceIte, Nat.reduceEqDiff, Nat.reduceAdd, Nat.reduceMul, Nat.reduceSub, Nat.reduceLeDiff, Nat.reduceLT, f1, Nat.not_lt_zero, false_implies, implies_true, Nat.add_zero]
    trivial
  · rintro k f g' ms hk ⟨⟨g1, g2', g3⟩, rfl, f1, f6, hlt⟩
    have hk' : (k : Int) < (S.ns : Int) := by omega
    have hw : wrapF .i64 ((k : Int) + 1) = ((k + 1 : Nat) : Int) := by rw [wrap_in (by omega) (by omega)]; rfl
    have hyg := hy.mono g1
    have rg := r1.mono g1
    simp only [rn0, reduceIte, Nat.reduceEqDiff, Nat.reduceAdd, Nat.reduceMul, Nat.reduceSub, Nat.reduceLeDiff, Nat.reduceLT, f1, f6, rg.ld, stg, Nat.zero_add, Cells.len hyg.s, hk', Cells.idx hyg.s hk, samps_ld hyg.s hk]
    refine step_new (vs := [.int .i64 (S.sv k), .int .i64 (S.sh k), .int .i64 (S.sk k)]) (by omega) (by omega) rfl (by simp only [rn0, reduceIte, Nat.reduceEqDiff, Nat.reduceAdd, Nat.reduceMul, Nat.reduceSub, Nat.reduceLeDiff, Nat.reduceLT]; rfl) rfl rfl rfl fun g4 hx4 => ?_
    have n4 := hx4.next
    have f4' := hx4.floor
    have rg4 := rg.mono hx4.sub
    have hy4 := hyg.mono hx4.sub
    have hin : (Sub All g2 g4 ∧ g4.next = g2.next + (k + 1) ∧ g4.floor = g2.floor) = True := eq_true ⟨g1.trans hx4.sub, by omega, by omega⟩
    have j1 := in_c (n := n) (h := g4) (by omega) (S.sv k) 0 ((S.nv : Int) - 1)
    have j3 := in_c (n := n) (h := g4) (by omega) (S.sk k) 0 2
    simp only [rn0, reduceIte, Nat.reduceEqDiff, Nat.reduceAdd, Nat.reduceMul, Nat.reduceSub, Nat.reduceLeDiff, Nat.reduceLT]
    refine W_draw All ?_
    by_cases q1 : 0 ≤ S.sv k ∧ S.sv k ≤ (S.nv : Int) - 1
    case neg =>
      have := bad fun hb => q1 (hb.smell k hk).1
      simp only [rn0, reduceIte, Nat.reduceEqDiff, Nat.reduceAdd, Nat.reduceMul, Nat.reduceSub, Nat.reduceLeDiff, Nat.reduceLT, f1, f6, rg4.ld, hx4.ld, stg, Nat.zero_add, List.getElem?_cons_zero, List.getElem?_cons_succ, d_guard, dg_tt, dg_tf, dg_ft, dg_ff, Cells.len hy4.v, hwv, j1, q1, this]
    have hsv : ((S.sv k).toNat : Int) = S.sv k := by omega
    have hvv : (S.sv k).toNat < S.nv := by omega
    have hix := Cells.idx hy4.v hvv
    have hbl := begin_ld hy4 hvv
    rw [hsv] at hix
    have j2 := in_c (n := n) (h := g4) (by omega) (S.sh k) (S.vb (S.sv k).toNat) S.last
    by_cases q2 : S.vb (S.sv k).toNat ≤ S.sh k ∧ S.sh k ≤ S.last
    case neg =>
      have := bad fun hb => q2 (hb.smell k hk).2.1
      simp only [rn0, reduceIte, Nat.reduceEqDiff, Nat.reduceAdd, Nat.reduceMul, Nat.reduceSub, Nat.reduceLeDiff, Nat.reduceLT, f1, f6, rg4.ld, hx4.ld, stg, Nat.zero_add, List.getElem?_cons_zero, List.getElem?_cons_succ, d_guard, dg_tt, dg_tf, dg_ft, dg_ff, Cells.len hy4.v, hwv, j1, q1, and_self, hix, Cells.fld hy4.v hvv, hbl, j2, q2, this]
    by_cases q3 : 0 ≤ S.sk k ∧ S.sk k ≤ 2
    case neg =>
      have := bad fun hb => q3 (hb.smell k hk).2.2
      simp only [rn0, reduceIte, Nat.reduceEqDiff, Nat.reduceAdd, Nat.reduceMul, Nat.reduceSub, Nat.reduceLeDiff, Nat.reduceLT, f1, f6, rg4.ld, hx4.ld, stg, Nat.zero_add, List.getElem?_cons_zero, List.getElem?_cons_succ, d_guard, dg_tt, dg_tf, dg_ft, dg_ff, Cells.len hy4.v, hwv, j1, q1, and_self, hix, Cells.fld hy4.v hvv, hbl, j2, q2, j3, q3, this]
    simp only [rn0, reduceIte, Nat.reduceEqDiff, Nat.reduceAdd, Nat.reduceMul, Nat.reduceSub, Nat.reduceLeDiff, Nat.reduceLT, f1, f6, rg4.ld, hx4.ld, stg, Nat.zero_add, List.getElem?_cons_zero, List.getElem?_cons_succ, d_guard, dg_tt, dg_tf, dg_ft, dg_ff, Cells.len hy4.v, hwv, j1, q1, and_self, hix, Cells.fld hy4.v hvv, hbl, j2, q2, j3, q3, hw, hin]
    intro j hj
    by_cases e : j = k
    · subst e; exact ⟨q1, q2, q3⟩
    · exact hlt j (by omega)
  rintro f g3 ms ⟨⟨l1, l2, l3⟩, rfl, f1, f6, hS⟩
  have hy := hy.mono l1
  have r1 := r1.mono l1
  have hA : ArgsOk S := ⟨hH, hW, hV, hS⟩
  have em := many_c (n := n) (h := g3) (by omega) (by omega) hy hA ⟨hl.1, hl.2.1⟩
  have w1 := r1.whole (n := 7) rfl
  have hF : faultS S = if 2000 < manyS S then 3 else 0 := by unfold faultS; rw [if_neg (by simpa using hL), if_neg (by simpa using hA)]
  by_cases hm : 2000 < manyS S
  · rw [if_pos hm] at hF
    simp only [rn0, reduceIte, Nat.reduceEqDiff, Nat.reduceAdd, Nat.reduceMul, Nat.reduceSub, Nat.reduceLeDiff, Nat.reduceLT, f1, f6, r1.ld, stg, Nat.zero_add, Cells.len hy.s, Int.lt_irrefl, w1, em, hm, hF]
  · rw [if_neg hm] at hF
    simp only [rn0, reduceIte, Nat.reduceEqDiff, Nat.reduceAdd, Nat.reduceMul, Nat.reduceSub, Nat.reduceLeDiff, Nat.reduceLT, f1, f6, r1.ld, stg, Nat.zero_add, Cells.len hy.s, Int.lt_irrefl, w1, em, hm, hF]
end Go.Vm.St
