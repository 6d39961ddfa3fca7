/- A text of the proofs of this seat: an evaluator of the model's code, its soundness, and what it has run. -/
import Derived.Test.YtjbbefkbbagdfaaVmMem
namespace Go.Vm
variable {P : Program} {φ : Emb} {h : AHeap} {w : World}

theorem pureRun_sound {α : Type} (s : Sem α) (x : α) (hs : pureRun P s = some x) (w : World) : s.run P w = .ok x w := by
  induction s with
  | pure a => simp only [pureRun, Option.some.injEq] at hs; subst hs; rfl
  | program k ih => exact ih P hs
  | mark m k ih => exact ih hs
  | _ => simp [pureRun] at hs

theorem cvals_get (l : List Operand) (ts : Slots) : (cvals l).get ts = l.map fun x => (cval x).get ts := by
  induction l with
  | nil => rfl
  | cons x l ih => rw [cvals, List.map_cons, ← ih]

/-- the operands in the run -/
def OpRel (φ : Emb) (n : Nat) (ts : Slots) (ρ : Operand → Value) (x : Operand) : Prop := ρ x = mapV φ ((cval x).get ts) ∧ okV φ n ((cval x).get ts)

theorem cval_const (v : Value) (ts : Slots) : (cval (.const v)).get ts = v := by rw [cval, seqV_eq]
theorem opRel_of {n : Nat} {ts : Slots} {a : Act} (hs : SRel φ n ts a.tmps) {x : Operand} (hx : fineOp x = true) : OpRel φ n ts a.eval x := by
  cases x with
  | tmp t => exact hs.get t
  | const v => unfold OpRel; rw [cval_const]; exact ⟨(plainV_map hx).symm, plainV_ok hx⟩
  | global g => simp [fineOp] at hx
  | func f => refine ⟨?_, ?_⟩ <;> simp [cval, Act.eval, mapFn, okFn]

/-- what an operation does -/
def OpDone (P : Program) (s : Sem Next) (φ : Emb) (h : AHeap) (w : World) (r : Value) (h' : AHeap) : Prop :=
  ∃ φ' w' nx, s.run P w = .ok nx w' ∧ (nx = .value (mapV φ' r) ∨ nx = .skip ∧ r = undef) ∧ HRel φ' h' w' ∧ Ext φ h w φ' h' w' ∧ okV φ' h'.next r

theorem Done.op {s : Sem Value} {r : Value} {h' : AHeap} (hd : Done P s φ h w r h') : OpDone P (do pure (.value (← s))) φ h w r h' := by
  obtain ⟨φ', w', h1, h2, h3, h4⟩ := hd
  exact ⟨φ', w', .value (mapV φ' r), by simp [h1], .inl rfl, h2, h3, h4⟩
theorem OpDone.same {s : Sem Next} {r : Value} (H : HRel φ h w) (hr : s.run P w = .ok (.value (mapV φ r)) w) (ho : okV φ h.next r) : OpDone P s φ h w r h :=
  ⟨φ, w, _, hr, .inl rfl, H, Ext.refl _ _ _, ho⟩

/-! ### New blocks -/
theorem ORel.newRow {n : Nat} {w : World} {i : Nat} {cs : List Value} {g cp : Nat} {rest : List Value} {e : TypeId} {b : Nat} (hb : φ.at_ i = ⟨b, 0, none⟩) (hcp : φ.cap i = cp)
    (hw : w.heap[b]? = some (.cells (cs.map (mapV φ) ++ rest).toArray e (0, 0))) (hok : ∀ v ∈ cs, okV φ n v) (hone : ∀ v ∈ cs, oneCell v = true)
    (hg : g ≠ 0 → cs.length ≤ cp * g ∧ cp * g ≤ cs.length + rest.length) : ORel φ n w i (.row cs true g) := by
  refine ⟨_, e, (0, 0), by rw [hb]; exact hw, fun k v hk => ?_, fun _ => ⟨by rw [hb], rfl, by simp, fun hg0 => by rw [hcp]; simpa using hg hg0⟩⟩
  have hm := List.mem_of_getElem? hk
  refine ⟨hok v hm, hone v hm, ?_⟩
  have : φ.at_ i = ⟨(φ.at_ i).block, 0, none⟩ := by rw [hb]
  rw [at_add this]
  unfold World.cell?
  have hb' : (φ.at_ i).block = b := by rw [hb]
  simp only [hb', hw]
  have hl : k < cs.length := (List.getElem?_eq_some_iff.1 hk).1
  have hv := (List.getElem?_eq_some_iff.1 hk).2
  simp [List.getElem?_append_left, hl, hv]

theorem map_agree {n : Nat} {φ' : Emb} (ha : Agree n φ φ') {cs : List Value} (hok : ∀ v ∈ cs, okV φ n v) : cs.map (mapV φ') = cs.map (mapV φ) :=
  List.map_congr_left fun v hv => (mapV_agree ha (Nat.le_refl n) v (hok v hv)).1

/-- a row of cells is laid: the address that comes back, and the heap -/
theorem push_row (H : HRel φ h w) (hf : h.next < far) {cs : List Value} (rest : List Value) (g cp : Nat) (e : TypeId) (hok : ∀ v ∈ cs, okV φ h.next v) (hone : ∀ v ∈ cs, oneCell v = true)
    (hg : g ≠ 0 → cs.length ≤ cp * g ∧ cp * g ≤ cs.length + rest.length) :
    let φ' := φ.put h.next ⟨w.heap.size, 0, none⟩ cp
    let w' := w.alloc (.cells (cs.map (mapV φ) ++ rest).toArray e)
    HRel φ' (h.more (some (.row cs true g))) w' ∧ Ext φ h w φ' (h.more (some (.row cs true g))) w' := by
  intro φ' w'
  refine H.push hf _ _ _ ?_
  have ha := φ.put_agree h.next ⟨w.heap.size, 0, none⟩ cp
  refine ORel.newRow (b := w.heap.size) (e := e) (rest := rest) (Emb.put_at ..) (Emb.put_cap ..) ?_ (fun v hv => (mapV_agree ha (Nat.le_succ _) v (hok v hv)).2) hone hg
  rw [map_agree ha hok]
  show (w.heap.push _)[w.heap.size]? = _
  simp

theorem run_newRow (e : TypeId) (c : Array Value) : (newRow e c).run P w = .ok ⟨w.heap.size, 0, none⟩ (w.alloc (.cells c e)) := rfl

theorem newRowA_sound (H : HRel φ h w) {cs : List Value} {r : Value} {h' : AHeap} (e : TypeId) (hok : ∀ v ∈ cs, okV φ h.next v) (hr : newRowA h cs = some (r, h')) :
    Done P (do pure (.pointer (some (← newRow e (cs.map (mapV φ)).toArray)))) φ h w r h' := by
  unfold newRowA at hr
  obtain ⟨hone, hr⟩ := cond_some hr
  rw [allB_iff] at hone
  simp only [seqCells_eq] at hr
  obtain ⟨hf, hr⟩ := AHeap.push_eq hr
  simp only [Option.some.injEq, Prod.mk.injEq] at hr
  obtain ⟨rfl, rfl⟩ := hr
  obtain ⟨k1, k2⟩ := push_row H hf [] 0 0 e hok hone (fun h0 => absurd rfl h0)
  simp only [List.append_nil] at k1 k2
  exact ⟨_, _, by simp [run_newRow, mapA, Addr.add], k1, k2, by simp [AHeap.more]⟩

theorem newSlice_sound (H : HRel φ h w) {cs : List Value} {r : Value} {h' : AHeap} (e : TypeId) {n cap g cp : Nat} (rest : List Value) (hok : ∀ v ∈ cs, okV φ h.next v) (hr : newSlice h cs n cap g = some (r, h'))
    (hg : g ≠ 0 → cs.length ≤ cp * g ∧ cp * g ≤ cs.length + rest.length) (hn : n ≤ cp) (hcap : cap = cp ∧ cap < unk ∨ cap = unk) :
    Done P (do pure (.slice (some (← newRow e (cs.map (mapV φ) ++ rest).toArray)) n cp)) φ h w r h' := by
  unfold newSlice at hr
  obtain ⟨hone, hr⟩ := cond_some hr
  rw [allB_iff] at hone
  simp only [seqCells_eq] at hr
  obtain ⟨hf, hr⟩ := AHeap.push_eq hr
  simp only [Option.some.injEq, Prod.mk.injEq] at hr
  obtain ⟨rfl, rfl⟩ := hr
  obtain ⟨k1, k2⟩ := push_row H hf rest g cp e hok hone hg
  have hc : mapC (φ.put h.next ⟨w.heap.size, 0, none⟩ cp) h.next cap = cp := by
    unfold mapC
    rcases hcap with ⟨rfl, hlt⟩ | rfl
    · simp [hlt]
    · simp
  refine ⟨_, _, ?_, k1, k2, ?_⟩
  · simp [run_newRow, mapA, Addr.add, hc]
  · simp only [okV_slice, hc, AHeap.more]
    exact ⟨Nat.lt_succ_self _, trivial, hn⟩

theorem cellList_map {v : Value} : (mapV φ v).cells = ((cellList v).map (mapV φ)).toArray := by
  rw [cells_map]; apply Array.ext'; simp [cellList]

/-! ### build -/
theorem fold_map (f : Value → Value) (off : Nat) (l : List (Value × Nat)) (z : Array Value) :
    (l.map fun p => (f p.1, p.2)).foldl (fun cs p => cs.setIfInBounds (off + p.2) p.1) (z.map f) = (l.foldl (fun cs p => cs.setIfInBounds (off + p.2) p.1) z).map f := by
  induction l generalizing z with
  | nil => rfl
  | cons p l ih =>
    simp only [List.map_cons, List.foldl_cons]
    rw [← ih]
    congr 1
    apply Array.ext'
    simp [Array.toList_setIfInBounds]
theorem zipFold_map (f : Value → Value) (off : Nat) (c z : Array Value) :
    (c.map f).zipIdx.foldl (fun cs (x : Value × Nat) => match x with | (c, j) => cs.setIfInBounds (off + j) c) (z.map f) = (c.zipIdx.foldl (fun cs (x : Value × Nat) => match x with | (c, j) => cs.setIfInBounds (off + j) c) z).map f := by
  rw [← Array.foldl_toList, ← Array.foldl_toList]
  have : (c.map f).zipIdx.toList = c.zipIdx.toList.map fun p => (f p.1, p.2) := by
    simp [Array.toList_zipIdx, List.zipIdx_map]
  rw [this]
  exact fold_map f off _ z
theorem fill_map {place : Nat → Option (Nat × Nat)} {f : Value → Value} (hf : ∀ v, (f v).cells = v.cells.map f) (parts : List (Nat × Value)) : ∀ z : Array Value,
    Instr.fill place (z.map f) (parts.map fun p => (p.1, f p.2)) = (Instr.fill place z parts).map (·.map f) := by
  induction parts with
  | nil => intro z; rfl
  | cons p parts ih =>
    intro z
    obtain ⟨i, v⟩ := p
    simp only [List.map_cons, Instr.fill, hf]
    cases place i with
    | none => rfl
    | some os =>
      obtain ⟨off, size⟩ := os
      simp only [Array.size_map]
      split
      · rfl
      · rw [zipFold_map, ih]
theorem fold_all (p : Value → Prop) (off : Nat) (l : List (Value × Nat)) (hl : ∀ x ∈ l, p x.1) : ∀ z : Array Value, (∀ v ∈ z.toList, p v) → ∀ v ∈ (l.foldl (fun cs p => cs.setIfInBounds (off + p.2) p.1) z).toList, p v := by
  induction l with
  | nil => intro z hz; exact hz
  | cons x l ih =>
    intro z hz
    simp only [List.foldl_cons]
    refine ih (fun y hy => hl y (by simp [hy])) _ fun v hv => ?_
    rw [Array.toList_setIfInBounds] at hv
    rcases List.mem_or_eq_of_mem_set hv with hv | rfl
    · exact hz v hv
    · exact hl x (by simp)
theorem fill_all {place : Nat → Option (Nat × Nat)} {p : Value → Prop} (parts : List (Nat × Value)) (hp : ∀ x ∈ parts, ∀ v ∈ x.2.cells.toList, p v) : ∀ (z cs : Array Value), (∀ v ∈ z.toList, p v) →
    Instr.fill place z parts = some cs → ∀ v ∈ cs.toList, p v := by
  induction parts with
  | nil => intro z cs hz h; simp only [Instr.fill, Option.some.injEq] at h; subst h; exact hz
  | cons x parts ih =>
    intro z cs hz h
    obtain ⟨i, u⟩ := x
    simp only [Instr.fill] at h
    cases hpl : place i with
    | none => simp [hpl] at h
    | some os =>
      obtain ⟨off, size⟩ := os
      simp only [hpl] at h
      split at h
      · simp at h
      · refine ih (fun y hy => hp y (by simp [hy])) _ cs ?_ h
        rw [← Array.foldl_toList]
        refine fold_all p off _ (fun y hy => ?_) z hz
        have := hp (i, u) (by simp)
        obtain ⟨c, j⟩ := y
        rw [Array.toList_zipIdx] at hy
        have hm := List.mem_zipIdx hy
        simp only [Nat.zero_add, Nat.sub_zero] at hm
        exact this c (by rw [hm.2.2]; exact List.getElem_mem _)

theorem parts_eq {n : Nat} {ts : Slots} {ρ : Operand → Value} (parts : Array (Nat × Operand)) (hρ : ∀ x ∈ parts.toList.map (·.2), OpRel φ n ts ρ x) :
    (parts.map fun (i, x) => (i, ρ x)).toList = (((parts.toList.map (·.1)).zip ((cvals (parts.toList.map (·.2))).get ts)).map fun p => (p.1, mapV φ p.2)) ∧
    ∀ x ∈ (parts.toList.map (·.1)).zip ((cvals (parts.toList.map (·.2))).get ts), okV φ n x.2 := by
  rw [cvals_get, Array.toList_map]
  generalize parts.toList = l at *
  induction l with
  | nil => simp
  | cons p l ih =>
    obtain ⟨i1, i2⟩ := ih fun x hx => hρ x (by simp at hx ⊢; exact .inr hx)
    obtain ⟨h1, h2⟩ := hρ p.2 (by simp)
    refine ⟨?_, ?_⟩
    · simp only [List.map_cons, List.zip_cons_cons, ← i1]
      simp [h1]
    · intro x hx
      simp only [List.map_cons, List.zip_cons_cons, List.mem_cons] at hx
      rcases hx with rfl | hx
      · exact h2
      · exact i2 x hx
end Go.Vm
