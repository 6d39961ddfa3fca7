/- A text of the proofs of this seat: an evaluator of the model's code, its soundness, and what it has run. -/
import Derived.Test.YtjbbefkbbagdfaaVmRel
namespace Go.Vm
variable {P : Program} {φ : Emb} {h : AHeap} {w : World}

/-- what an operation that yields a value does, beside what the evaluator says -/
def Done (P : Program) (s : Sem Value) (φ : Emb) (h : AHeap) (w : World) (r : Value) (h' : AHeap) : Prop :=
  ∃ φ' w', s.run P w = .ok (mapV φ' r) w' ∧ HRel φ' h' w' ∧ Ext φ h w φ' h' w' ∧ okV φ' h'.next r

theorem Done.same {s : Sem Value} {r : Value} (H : HRel φ h w) (hr : s.run P w = .ok (mapV φ r) w) (ho : okV φ h.next r) : Done P s φ h w r h :=
  ⟨φ, w, hr, H, Ext.refl _ _ _, ho⟩

theorem add_add (a : Addr) (p q : Nat) : (a.add p).add q = a.add (p + q) := by
  unfold Addr.add
  by_cases hp : p = 0
  · subst hp; simp
  · by_cases hq : q = 0
    · subst hq; simp [hp]
    · simp [hp, hq, Nat.add_assoc]

theorem run_isAgg_of {t : TypeId} {d : TypeDesc} (hd : P.underlying t = some d) (w : World) : (isAgg t).run P w = .ok (isAggT P t) w := by
  unfold isAgg isAggT
  simp only [Sem.run_bind, run_underlying hd, Result.andThen_ok, hd]
  cases d <;> rfl
theorem run_sizeOf_of {t : TypeId} {n : Nat} (h : sizeT P t = some n) (w : World) : (sizeOf t).run P w = .ok n w := by
  unfold sizeT at h
  cases hi : P.info? t with
  | none => simp [hi] at h
  | some i =>
    simp [hi] at h
    subst h
    simp [sizeOf, run_typeInfo w hi]
theorem run_zero_of {t : TypeId} {z : Value} (h : zeroT P t = some z) (w : World) : (zeroValue t).run P w = .ok z w := by
  unfold zeroT at h
  cases hi : P.info? t with
  | none => simp [hi] at h
  | some i =>
    simp [hi] at h
    simp [zeroValue, run_typeInfo w hi, h]

theorem cond_some {α : Type} {b : Bool} {x : Option α} {r : α} (h : (bif b then x else none) = some r) : b = true ∧ x = some r := by
  cases b
  · simp at h
  · exact ⟨rfl, h⟩
theorem ite_some {α : Type} {c : Prop} [Decidable c] {x : Option α} {r : α} (h : (if c then x else none) = some r) : c ∧ x = some r := by
  by_cases hc : c
  · exact ⟨hc, by simpa [hc] using h⟩
  · simp [hc] at h

/-- what a row holds -/
theorem row_cells (H : HRel φ h w) {b : Nat} {cs : List Value} {rw' : Bool} {g : Nat} (hg : h.get b = some (.row cs rw' g)) (off : Nat) (l : List Value) (hl : l = (cs.drop off).take l.length) :
    (∀ j u, (l.map (mapV φ))[j]? = some u → w.cell? (((φ.at_ b).add off).add j) = some u) ∧ (∀ v ∈ l, okV φ h.next v) ∧ (∀ v ∈ l, oneCell v = true) := by
  obtain ⟨c, e, fz, h1, h2, _⟩ := H.live _ _ hg
  have hk : ∀ (j : Nat) (v : Value), l[j]? = some v → cs[off + j]? = some v := by
    intro j v hv
    have hj : j < l.length := (List.getElem?_eq_some_iff.1 hv).1
    rw [hl, List.getElem?_take] at hv
    simpa [hj] using hv
  refine ⟨fun j u hu => ?_, fun v hv => ?_, fun v hv => ?_⟩
  · rw [List.getElem?_map] at hu
    cases hv : l[j]? with
    | none => simp [hv] at hu
    | some v =>
      simp [hv] at hu
      subst hu
      rw [add_add]
      exact (h2 _ _ (hk j v hv)).2.2
  · obtain ⟨j, hj⟩ := List.getElem?_of_mem hv
    exact (h2 _ _ (hk j v hj)).1
  · obtain ⟨j, hj⟩ := List.getElem?_of_mem hv
    exact (h2 _ _ (hk j v hj)).2.1

theorem take_self_len {l : List Value} {n : Nat} (h : n ≤ l.length) : l.take n = l.take (l.take n).length := by
  rw [List.length_take, Nat.min_eq_left h]

theorem cload_sound (H : HRel φ h w) {t : TypeId} {p r : Value} (hp : okV φ h.next p) (hr : (cload P t).run h p = some r) :
    (Instr.loadAt t (mapV φ p)).run P w = .ok (mapV φ r) w ∧ okV φ h.next r := by
  unfold cload at hr
  cases hd : P.underlying t with
  | none => simp [hd] at hr
  | some d =>
    simp only [hd] at hr
    have hagg := run_isAgg_of hd w
    by_cases ha : isAggT P t = true
    · simp only [ha, cond_true] at hr
      cases hs : sizeT P t with
      | none => simp [hs] at hr
      | some n =>
        simp only [hs] at hr
        unfold loadAgg at hr
        split at hr
        · rename_i a
          split at hr
          · rename_i cs rw' g hg
            simp only [dropK_eq, takeK_eq] at hr
            obtain ⟨h1, hr⟩ := ite_some hr
            obtain ⟨h2, hr⟩ := ite_some hr
            simp only [Option.some.injEq] at hr
            subst hr
            obtain ⟨c1, c2, _⟩ := row_cells H hg a.off ((cs.drop a.off).take n) (take_self_len h2)
            refine ⟨?_, by simpa using c2⟩
            have hl := run_loadCells_list (P := P) w ((φ.at_ a.block).add a.off) _ c1
            have hlen : (((cs.drop a.off).take n).map (mapV φ)).length = n := by simp at h2 ⊢; omega
            rw [hlen] at hl
            simp [Instr.loadAt, Instr.sureAddr, loadVar, hagg, ha, run_sizeOf_of hs, mapA, hl]
          · simp at hr
        · simp at hr
    · simp only [ha, cond_false] at hr
      unfold loadCell at hr
      split at hr
      · rename_i a
        split at hr
        · rename_i cs rw' g hg
          rw [nthO_eq] at hr
          obtain ⟨c, e, fz, h1, h2, _⟩ := H.live _ _ hg
          obtain ⟨k1, k2, k3⟩ := h2 _ _ hr
          refine ⟨?_, k1⟩
          simp [Instr.loadAt, Instr.sureAddr, loadVar, hagg, ha, mapA, k3]
        · simp at hr
      · simp at hr

/-! ### Stores -/
theorem splice_get (cs vs : List Value) (off : Nat) (ho : off + vs.length ≤ cs.length) (k : Nat) (v : Value) (hk : (splice cs off vs)[k]? = some v) :
    (off ≤ k ∧ k < off + vs.length ∧ vs[k - off]? = some v) ∨ ((k < off ∨ off + vs.length ≤ k) ∧ cs[k]? = some v) := by
  unfold splice at hk
  have hm : min off cs.length = off := Nat.min_eq_left (by omega)
  rcases Nat.lt_or_ge k off with h | h
  · right
    refine ⟨.inl h, ?_⟩
    rw [List.getElem?_append_left (by simp; omega)] at hk
    rwa [List.getElem?_take_of_lt h] at hk
  · rw [List.getElem?_append_right (by simp; omega)] at hk
    simp only [List.length_take, hm] at hk
    rcases Nat.lt_or_ge k (off + vs.length) with h' | h'
    · left
      rw [List.getElem?_append_left (by omega)] at hk
      exact ⟨h, h', hk⟩
    · right
      rw [List.getElem?_append_right (by omega), List.getElem?_drop] at hk
      exact ⟨.inr h', by rw [← hk]; congr 1; omega⟩
theorem splice_length (cs vs : List Value) (off : Nat) (ho : off + vs.length ≤ cs.length) : (splice cs off vs).length = cs.length := by
  unfold splice; simp; omega

theorem at_add {φ : Emb} {b : Nat} (h : φ.at_ b = ⟨(φ.at_ b).block, 0, none⟩) (k : Nat) : (φ.at_ b).add k = ⟨(φ.at_ b).block, k, none⟩ := by
  generalize φ.at_ b = a at h ⊢
  obtain ⟨x, o, s⟩ := a
  simp only [Addr.mk.injEq, true_and] at h
  obtain ⟨rfl, rfl⟩ := h
  unfold Addr.add
  by_cases hk : k = 0
  · simp [hk]
  · simp [hk]
theorem oneCell_eq (v : Value) : v.oneCell' = oneCell v := by cases v <;> rfl
theorem add_block' (a : Addr) (k : Nat) : (a.add k).block = a.block := by unfold Addr.add; split <;> rfl

theorem setRow_size (w : World) (g : Nat) (cs : Array Value) : (w.setRow g cs).heap.size = w.heap.size := by unfold World.setRow; simp
theorem setRow_other (w : World) (g : Nat) (cs : Array Value) (b : Nat) (hb : b ≠ g) : (w.setRow g cs).heap[b]? = w.heap[b]? := by
  unfold World.setRow
  simp [Array.getElem?_modify, Ne.symm hb]

/-- the heap behind a store (of the values' own account) -/
theorem HRel.low {φ : Emb} {h : AHeap} {w : World} (H : HRel φ h w) (l : Nat) : HRel φ ⟨h.t, h.next, l, h.floor⟩ w := ⟨H.live, H.apart, H.bound, H.fresh⟩
theorem Ext.low {φ φ' : Emb} {h h' : AHeap} {w w' : World} (H : Ext φ h w φ' h' w') (l : Nat) : Ext φ h w φ' ⟨h'.t, h'.next, l, h'.floor⟩ w' :=
  ⟨H.agree, H.next, H.size, H.frame, H.wr, H.floor, H.same, H.live⟩

theorem storeRow_sound (H : HRel φ h w) {b off : Nat} {vs : List Value} {h' : AHeap} (hv : ∀ v ∈ vs, okV φ h.next v) (hr : storeRow h b off vs = some h') :
    ∃ w', (storeCells ((φ.at_ b).add off) (vs.map (mapV φ))).run P w = .ok () w' ∧ HRel φ h' w' ∧ Ext φ h w φ h' w' := by
  unfold storeRow at hr
  split at hr
  · rename_i cs g hg
    obtain ⟨hb, hr⟩ := cond_some hr
    simp only [Bool.and_eq_true, ble_iff, allB_iff] at hb
    obtain ⟨hfl, hone⟩ := hb
    simp only [spliceK_eq, seqNat_eq, Trie.setK_eq] at hr
    obtain ⟨ho, hr⟩ := ite_some hr
    simp only [Option.some.injEq] at hr
    obtain ⟨c, e, fz, h1, h2, h3⟩ := H.live _ _ hg
    obtain ⟨e1, e2, e3, e4⟩ := h3 rfl
    subst e2
    have hrun := run_storeCells_at P (φ.at_ b).block off e (vs.map (mapV φ)) 0 c w h1 (by simp; omega) (by
      intro v hv'
      obtain ⟨u, hu, rfl⟩ := List.mem_map.1 hv'
      rw [oneCell_eq, oneCell_map]
      exact hone u hu)
    rw [← at_add e1] at hrun
    simp only [Nat.add_zero] at hrun
    refine ⟨_, hrun, ?_⟩
    have hlt := AHeap.lt_of_get hg
    have hrow := setRow_heap w (φ.at_ b).block c (c.toList.take off ++ vs.map (mapV φ) ++ c.toList.drop (off + (vs.map (mapV φ)).length)).toArray e (0, 0) h1
    have key := H.turn (w' := w.setRow (φ.at_ b).block (c.toList.take off ++ vs.map (mapV φ) ++ c.toList.drop (off + (vs.map (mapV φ)).length)).toArray) (o' := .row (splice cs off vs) true g)
      hg rfl hfl (setRow_size _ _ _) (fun k hk => setRow_other _ _ _ k hk) ?_
    · subst hr
      exact ⟨key.1.low _, key.2.low _⟩
    · refine ⟨_, e, (0, 0), hrow, ?_, fun _ => ⟨e1, rfl, ?_, ?_⟩⟩
      · intro k v hk
        have hcell : (w.setRow (φ.at_ b).block (c.toList.take off ++ vs.map (mapV φ) ++ c.toList.drop (off + (vs.map (mapV φ)).length)).toArray).cell? ((φ.at_ b).add k) = (c.toList.take off ++ vs.map (mapV φ) ++ c.toList.drop (off + (vs.map (mapV φ)).length))[k]? := by
          rw [at_add e1]
          unfold World.cell?
          rw [hrow]
          simp
        rw [hcell]
        have hold : ∀ v, cs[k]? = some v → c.toList[k]? = some (mapV φ v) := by
          intro v hv'
          have := (h2 k v hv').2.2
          rw [at_add e1] at this
          unfold World.cell? at this
          rw [h1] at this
          simpa using this
        have hoc : off ≤ c.toList.length := by simp; omega
        rcases splice_get cs vs off ho k v hk with ⟨h4, h5, h6⟩ | ⟨h4, h6⟩
        · have hm : v ∈ vs := List.mem_of_getElem? h6
          refine ⟨hv v hm, hone v hm, ?_⟩
          rw [List.append_assoc, List.getElem?_append_right (by simp; omega), List.getElem?_append_left (by simp; omega)]
          simp only [List.length_take, Nat.min_eq_left hoc, List.getElem?_map, h6, Option.map_some]
        · obtain ⟨k1, k2, _⟩ := h2 k v h6
          refine ⟨k1, k2, ?_⟩
          rw [← hold v h6]
          rcases h4 with h4 | h4
          · rw [List.append_assoc, List.getElem?_append_left (by simp; omega), List.getElem?_take_of_lt h4]
          · rw [List.append_assoc, List.getElem?_append_right (by simp; omega), List.getElem?_append_right (by simp; omega), List.getElem?_drop]
            congr 1
            simp only [List.length_take, Nat.min_eq_left hoc, List.length_map]
            omega
      · simp only [List.size_toArray, splice_length cs vs off ho]
        simp
        omega
      · intro hg0
        obtain ⟨k1, k2⟩ := e4 hg0
        rw [splice_length cs vs off ho]
        refine ⟨k1, Nat.le_trans k2 ?_⟩
        simp
        omega
  · simp at hr
end Go.Vm
