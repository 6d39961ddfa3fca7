/- Texts of the proofs of this seat, put together: VmReloc, GgATab, GgAMain. -/
import Derived.Test.YtlkambpieajplaaGreatPk7
import Derived.Test.YtlkambpieajplaaGreatProg

namespace Go.Vm
variable {P : Program}
def Emb.pre (φ : Emb) (s : Nat → Nat) : Emb := ⟨fun i => φ.at_ (s i), fun i => φ.cap (s i)⟩
noncomputable section
def shB (a b i : Nat) : Nat := Nat.sub (Nat.add i a) b
def shN (e nx a b i : Nat) : Nat := bif Nat.blt i e then shB a b i else Nat.add (Nat.sub i e) nx
def renC (s : Nat → Nat) (v : Value) : Value :=
  match v with
  | .pointer (some a) => .pointer (some ⟨s a.block, a.off, none⟩)
  | .slice (some a) n c => .slice (some ⟨s a.block, a.off, none⟩) n c
  | v => v
def renCs (s : Nat → Nat) (l : List Value) : List Value := List.rec (motive := fun _ => List Value) [] (fun v _ ih => renC s v :: ih) l
def renV (s : Nat → Nat) (v : Value) : Value :=
  match v with
  | .agg ⟨l⟩ => .agg ⟨renCs s l⟩
  | v => renC s v
def renVs (s : Nat → Nat) (l : List Value) : List Value := List.rec (motive := fun _ => List Value) [] (fun v _ ih => renV s v :: ih) l
def renT (s : Nat → Nat) (v : Value) : Value :=
  match v with
  | .tuple ⟨l⟩ => .tuple ⟨renVs s l⟩
  | v => renV s v
def noSpot (a : Addr) : Bool := match a.spot with
  | none => true
  | _ => false
def fineC (n : Nat) (v : Value) : Bool :=
  match v with
  | .pointer (some a) => Nat.blt a.block n && noSpot a
  | .slice (some a) _ _ => Nat.blt a.block n && noSpot a
  | .bool _ => true
  | .int _ _ => true
  | .pointer none => true
  | .slice none _ _ => true
  | .map none => true
  | .nilFunc => true
  | _ => false
def fineV (n : Nat) (v : Value) : Bool :=
  match v with
  | .agg ⟨l⟩ => allB (fineC n) l
  | v => fineC n v
def fineT (n : Nat) (v : Value) : Bool :=
  match v with
  | .tuple ⟨l⟩ => allB (fineV n) l
  | v => fineV n v
def fineO (n : Nat) (p : Nat × AObj) : Bool := match p.2 with
  | .row c _ _ => allB (fineC n) c
  | _ => false
def entryLow (E : Entry) : Bool := allB (fineV E.next) E.args && allB (fineO E.next) E.objs && fineT E.next' E.val && allB (fineO E.next') E.objs'
def renO (s : Nat → Nat) (o : AObj) : AObj := match o with
  | .row c x g => .row (renCs s c) x g
  | o => o
def pairC (v u : Value) (other : Nat × Nat) : Nat × Nat :=
  match v, u with
  | .pointer (some a), .pointer (some b) => (a.block, b.block)
  | .slice (some a) _ _, .slice (some b) _ _ => (a.block, b.block)
  | _, _ => other
def pairCs (l : List Value) : List Value → Nat × Nat → Nat × Nat :=
  List.rec (motive := fun _ => List Value → Nat × Nat → Nat × Nat) (fun _ o => o)
    (fun v _ ih r o => List.casesOn (motive := fun _ => Nat × Nat) r o (fun u r => pairC v u (ih r o))) l
def pairV (v u : Value) (other : Nat × Nat) : Nat × Nat :=
  match v, u with
  | .agg ⟨l⟩, .agg ⟨r⟩ => pairCs l r other
  | v, u => pairC v u other
def pairVs (l : List Value) : List Value → Nat × Nat :=
  List.rec (motive := fun _ => List Value → Nat × Nat) (fun _ => (0, 0))
    (fun v _ ih r => List.casesOn (motive := fun _ => Nat × Nat) r (0, 0) (fun u r => pairV v u (ih r))) l
def layR (s : Nat → Nat) (l : List (Nat × AObj)) (t : Trie) : Trie :=
  List.rec (motive := fun _ => Trie → Trie) (fun t => t) (fun p _ ih t => match p.2 with
    | .row c x g => seqCells (renCs s c) fun c => seqNat (s p.1) fun i => Trie.setK 40 t i (some (.row c x g)) ih
    | _ => ih t) l t
def hasR (s : Nat → Nat) (a b : Nat) (h : AHeap) (p : Nat × AObj) : Bool := Nat.ble b (Nat.add p.1 a) && hasObj h (s p.1, renO s p.2)
def useRAt (E : Entry) (args : List Value) (h : AHeap) (a b : Nat) (other : Option (Value × AHeap)) : Option (Value × AHeap) :=
  bif eqVs args (renVs (shB a b) E.args) && allB (hasR (shB a b) a b h) E.objs && Nat.ble (Nat.add E.next a) (Nat.add h.next b) && Nat.ble (Nat.add h.next (Nat.sub E.next' E.next)) far && Nat.blt 0 h.next then
    match h with
    | ⟨t, nx, lw, fl⟩ => seqV (renT (shN E.next nx a b) E.val) fun v => seqNat (Nat.add nx (Nat.sub E.next' E.next)) fun m => some (v, ⟨layR (shN E.next nx a b) E.objs' t, m, lw, fl⟩)
  else other
def useR (E : Entry) (args : List Value) (h : AHeap) (other : Option (Value × AHeap)) : Option (Value × AHeap) :=
  match pairVs args E.args with
  | (a, b) => useRAt E args h a b other
def orcR (T : List Entry) (cf : CallF) : CallF := fun fv args h =>
  match fv with
  | .func (.func f) ⟨[]⟩ ⟨[]⟩ => List.rec (motive := fun _ => Option (Value × AHeap)) (cf (.func (.func f) #[] #[]) args h) (fun E _ ih => bif Nat.beq E.f f then useR E args h ih else ih) T
  | fv => cf fv args h
end
theorem renCs_eq (s : Nat → Nat) (l : List Value) : renCs s l = l.map (renC s) := by
  induction l with
  | nil => rfl
  | cons v l ih => show renC s v :: renCs s l = _; rw [ih]; rfl
theorem renVs_eq (s : Nat → Nat) (l : List Value) : renVs s l = l.map (renV s) := by
  induction l with
  | nil => rfl
  | cons v l ih => show renV s v :: renVs s l = _; rw [ih]; rfl
theorem noSpot_eq {a : Addr} (h : noSpot a = true) : a.spot = none := by
  unfold noSpot at h
  split at h
  · assumption
  · cases h
section
variable {φ : Emb} {s : Nat → Nat} {n m : Nat}
theorem renC_map {v : Value} (hv : fineC n v = true) : mapV φ (renC s v) = mapV (φ.pre s) v := by
  unfold fineC at hv
  split at hv <;> first | cases hv; done | skip
  all_goals simp only [renC, mapV] <;> rfl
theorem renC_ok {v : Value} (hv : fineC n v = true) (ho : okV φ m (renC s v)) : okV (φ.pre s) n v := by
  unfold fineC at hv
  split at hv <;> first | cases hv; done | skip
  · rw [Bool.and_eq_true] at hv
    rw [okV]; exact ⟨blt_iff.1 hv.1, noSpot_eq hv.2⟩
  · rw [Bool.and_eq_true] at hv
    simp only [renC, okV] at ho
    rw [okV]; exact ⟨blt_iff.1 hv.1, noSpot_eq hv.2, ho.2.2⟩
  all_goals first | (rw [okV] <;> simp) | (simp only [renC] at ho; rw [okV] at ho ⊢; exact ho)
theorem renC_ok' {v : Value} (hv : fineC n v = true) (hs : ∀ i, i < n → s i < m) (ho : okV (φ.pre s) n v) : okV φ m (renC s v) := by
  unfold fineC at hv
  split at hv <;> first | cases hv; done | skip
  · rw [Bool.and_eq_true] at hv
    simp only [renC, okV]; exact ⟨hs _ (blt_iff.1 hv.1), trivial⟩
  · rw [Bool.and_eq_true] at hv
    rw [okV] at ho
    simp only [renC, okV]; exact ⟨hs _ (blt_iff.1 hv.1), trivial, ho.2.2⟩
  all_goals first | (simp only [renC]; rw [okV] <;> simp) | (simp only [renC]; rw [okV] at ho ⊢; exact ho)
theorem renC_one {v : Value} (hv : fineC n v = true) (h1 : oneCell v = true) : oneCell (renC s v) = true := by
  unfold fineC at hv
  split at hv <;> first | cases hv; done | skip
  all_goals first | exact h1 | rfl
theorem renV_map {v : Value} (hv : fineV n v = true) : mapV φ (renV s v) = mapV (φ.pre s) v := by
  unfold fineV at hv
  split at hv
  · rename_i l
    have hv := allB_iff.1 hv
    simp only [renV, mapV, mapArr, mapL_eq, renCs_eq, List.map_map]
    congr 2
    exact List.map_congr_left fun x hx => renC_map (hv x hx)
  · rename_i h1
    have : renV s v = renC s v := by
      unfold renV
      split
      · exact absurd rfl (h1 _)
      · rfl
    rw [this, renC_map hv]
theorem renV_ok {v : Value} (hv : fineV n v = true) (ho : okV φ m (renV s v)) : okV (φ.pre s) n v := by
  unfold fineV at hv
  split at hv
  · rename_i l
    have hv := allB_iff.1 hv
    simp only [renV, okV, okA, okL_iff, renCs_eq] at ho ⊢
    exact fun x hx => renC_ok (hv x hx) (ho _ (List.mem_map_of_mem hx))
  · rename_i h1
    have : renV s v = renC s v := by
      unfold renV
      split
      · exact absurd rfl (h1 _)
      · rfl
    rw [this] at ho
    exact renC_ok hv ho
theorem renV_ok' {v : Value} (hv : fineV n v = true) (hs : ∀ i, i < n → s i < m) (ho : okV (φ.pre s) n v) : okV φ m (renV s v) := by
  unfold fineV at hv
  split at hv
  · rename_i l
    have hv := allB_iff.1 hv
    simp only [renV, okV, okA, okL_iff, renCs_eq] at ho ⊢
    intro y hy
    obtain ⟨x, hx, rfl⟩ := List.mem_map.1 hy
    exact renC_ok' (hv x hx) hs (ho x hx)
  · rename_i h1
    have : renV s v = renC s v := by
      unfold renV
      split
      · exact absurd rfl (h1 _)
      · rfl
    rw [this]
    exact renC_ok' hv hs ho
theorem renT_map {v : Value} (hv : fineT n v = true) : mapV φ (renT s v) = mapV (φ.pre s) v := by
  unfold fineT at hv
  split at hv
  · rename_i l
    have hv := allB_iff.1 hv
    simp only [renT, mapV, mapArr, mapL_eq, renVs_eq, List.map_map]
    congr 2
    exact List.map_congr_left fun x hx => renV_map (hv x hx)
  · rename_i h1
    have : renT s v = renV s v := by
      unfold renT
      split
      · exact absurd rfl (h1 _)
      · rfl
    rw [this, renV_map hv]
theorem renT_ok' {v : Value} (hv : fineT n v = true) (hs : ∀ i, i < n → s i < m) (ho : okV (φ.pre s) n v) : okV φ m (renT s v) := by
  unfold fineT at hv
  split at hv
  · rename_i l
    have hv := allB_iff.1 hv
    simp only [renT, okV, okA, okL_iff, renVs_eq] at ho ⊢
    intro y hy
    obtain ⟨x, hx, rfl⟩ := List.mem_map.1 hy
    exact renV_ok' (hv x hx) hs (ho x hx)
  · rename_i h1
    have : renT s v = renV s v := by
      unfold renT
      split
      · exact absurd rfl (h1 _)
      · rfl
    rw [this]
    exact renV_ok' hv hs ho
theorem renO_row {i : Nat} {o : AObj} (ho : fineO n (i, o) = true) : ∃ c x g, o = .row c x g ∧ renO s o = .row (c.map (renC s)) x g ∧ ∀ v, v ∈ c → fineC n v = true := by
  unfold fineO at ho
  split at ho
  · rename_i c x g e
    have e : o = .row c x g := e
    subst e
    exact ⟨c, x, g, rfl, by simp only [renO, renCs_eq], allB_iff.1 ho⟩
  · cases ho
theorem orel_back {w : World} {i : Nat} {o : AObj} (hf : fineO n (i, o) = true) (ho : ORel φ m w (s i) (renO s o)) : ORel (φ.pre s) n w i o := by
  obtain ⟨c, x, g, rfl, e, hfc⟩ := renO_row (s := s) hf
  rw [e] at ho
  obtain ⟨c', e', fz, h1, h2, h3⟩ := ho
  refine ⟨c', e', fz, h1, fun k v hk => ?_, fun hw => ?_⟩
  · have hv := hfc v (List.mem_of_getElem? hk)
    have hk' : (c.map (renC s))[k]? = some (renC s v) := by rw [List.getElem?_map, hk]; rfl
    obtain ⟨a1, a2, a3⟩ := h2 k _ hk'
    refine ⟨renC_ok hv a1, ?_, ?_⟩
    · unfold fineC at hv
      split at hv <;> first | cases hv; done | skip
      all_goals first | exact a2 | rfl
    · rw [renC_map hv] at a3; exact a3
  · have := h3 hw
    rw [List.length_map] at this
    exact this
theorem orel_on {w : World} {i : Nat} {o : AObj} (hf : fineO n (i, o) = true) (hs : ∀ i, i < n → s i < m) (ho : ORel (φ.pre s) n w i o) : ORel φ m w (s i) (renO s o) := by
  obtain ⟨c, x, g, rfl, e, hfc⟩ := renO_row (s := s) hf
  rw [e]
  obtain ⟨c', e', fz, h1, h2, h3⟩ := ho
  refine ⟨c', e', fz, h1, fun k v hk => ?_, fun hw => ?_⟩
  · rw [List.getElem?_map, Option.map_eq_some_iff] at hk
    obtain ⟨u, hk, rfl⟩ := hk
    have hv := hfc u (List.mem_of_getElem? hk)
    obtain ⟨a1, a2, a3⟩ := h2 k u hk
    exact ⟨renC_ok' hv hs a1, renC_one hv a2, by rw [renC_map hv]; exact a3⟩
  · have := h3 hw
    rw [List.length_map]
    exact this
end
theorem layR_eq {n : Nat} (s : Nat → Nat) : ∀ (l : List (Nat × AObj)) (t : Trie), (∀ p ∈ l, fineO n p = true) → layR s l t = lay (l.map fun p => (s p.1, renO s p.2)) t := by
  intro l
  induction l with
  | nil => intro t _; rfl
  | cons p l ih =>
    intro t hf
    obtain ⟨i, o⟩ := p
    obtain ⟨c, x, g, rfl, e, _⟩ := renO_row (s := s) (hf _ (List.mem_cons_self ..))
    have h1 : layR s ((i, .row c x g) :: l) t = seqCells (renCs s c) fun c => seqNat (s i) fun i => Trie.setK 40 t i (some (.row c x g)) (layR s l) := rfl
    rw [h1, seqCells_eq, seqNat_eq, Trie.setK_eq, ih _ fun p hp => hf p (List.mem_cons_of_mem _ hp), List.map_cons, lay_cons]
    rfl
theorem useR_sound {E : Entry} (hT : ∃ cf, SoundCF P cf ∧ entryOk cf E = true) (hlow : entryLow E = true) {args : List Value} {h : AHeap} {a b : Nat} {r : Value} {h' : AHeap} {other : Option (Value × AHeap)} {φ : Emb} {w : World}
    (H : HRel φ h w) (hargs : ∀ x ∈ args, okV φ h.next x) (hr : useRAt E args h a b other = some (r, h'))
    (ho : other = some (r, h') → CallOk P (.func (.func E.f) #[] #[]) args φ h w r h') : CallOk P (.func (.func E.f) #[] #[]) args φ h w r h' := by
  unfold useRAt at hr
  generalize hc : (eqVs args (renVs (shB a b) E.args) && allB (hasR (shB a b) a b h) E.objs && Nat.ble (Nat.add E.next a) (Nat.add h.next b) && Nat.ble (Nat.add h.next (Nat.sub E.next' E.next)) far && Nat.blt 0 h.next) = c at hr
  cases c with
  | false => exact ho hr
  | true =>
    simp only [Bool.and_eq_true] at hc
    obtain ⟨⟨⟨⟨c1, c2⟩, c3⟩, c4⟩, c5⟩ := hc
    have c5 := blt_iff.1 c5
    have ha := eqVs_eq c1
    have c2 := allB_iff.1 c2
    have c3 := ble_iff.1 c3
    have c4 := ble_iff.1 c4
    have c3 : E.next + a ≤ h.next + b := c3
    have c4 : h.next + (E.next' - E.next) ≤ far := c4
    unfold entryLow at hlow
    simp only [Bool.and_eq_true] at hlow
    obtain ⟨⟨⟨l1, l2⟩, l3⟩, l4⟩ := hlow
    have l1 := allB_iff.1 l1
    have l2 := allB_iff.1 l2
    have l4 := allB_iff.1 l4
    obtain ⟨cf', hs', hok⟩ := hT
    unfold entryOk entryEnd at hok
    split at hok
    · rename_i v h1 hrun
      simp only [Bool.and_eq_true] at hok
      obtain ⟨⟨⟨⟨⟨e1, e2⟩, e3⟩, e4⟩, e5⟩, e6⟩ := hok
      have e1 := eqT_eq e1
      have e2 := beq_iff.1 e2
      have e3 := ble_iff.1 e3
      have e4 := ble_iff.1 e4
      have e5 := allB_iff.1 e5
      have e6 := fun p hp => blt_iff.1 (allB_iff.1 e6 p hp)
      subst e1
      obtain ⟨ht, hn, hlw, hfl⟩ := h
      simp only [cond_true, seqV_eq, seqNat_eq, Option.some.injEq, Prod.mk.injEq] at hr
      obtain ⟨rfl, rfl⟩ := hr
      generalize hh : (⟨ht, hn, hlw, hfl⟩ : AHeap) = h at *
      have hhn : h.next = hn := by rw [← hh]
      have hht : h.t = ht := by rw [← hh]
      have hhl : h.low = hlw := by rw [← hh]
      have hhf : h.floor = hfl := by rw [← hh]
      subst hhn hht hhl hhf
      clear hh
      have s1 : ∀ i, shB a b i = i + a - b := fun _ => rfl
      have s2 : ∀ i, shN E.next h.next a b i = if i < E.next then i + a - b else i - E.next + h.next := fun i => by
        unfold shN
        by_cases c : i < E.next
        · rw [blt_iff.2 c, if_pos c]; rfl
        · have : Nat.blt i E.next = false := by
            cases hb : Nat.blt i E.next with
            | false => rfl
            | true => exact absurd (blt_iff.1 hb) c
          rw [this, if_neg c]; rfl
      generalize hsO : shB a b = sO at *
      generalize hsN : shN E.next h.next a b = sN at *
      have sOlt : ∀ i, i < E.next → sO i < h.next := fun i hi => by
        rw [s1]
        omega
      have hob : ∀ p ∈ E.objs, b ≤ p.1 + a ∧ h.get (sO p.1) = some (renO sO p.2) := fun p hp => by
        have := c2 p hp
        unfold hasR at this
        simp only [Bool.and_eq_true] at this
        exact ⟨ble_iff.1 this.1, hasObj_eq this.2⟩
      have hwr : ∀ (s : Nat → Nat) (o : AObj), (renO s o).writable = o.writable := fun s o => by cases o <;> rfl
      have hnew : ∀ p ∈ E.objs', E.next ≤ p.1 ∧ p.1 < E.next' ∧ h1.get p.1 = some p.2 ∧ p.2.writable = true := by
        intro p hp
        have := e5 p hp
        unfold newObj at this
        simp only [Bool.and_eq_true] at this
        refine ⟨ble_iff.1 this.1.1.1, blt_iff.1 this.1.1.2, hasObj_eq this.1.2, ?_⟩
        have h4 := this.2
        split at h4
        · rename_i hx; rw [hx]; exact h4
        · cases h4
      have hlt : ∀ p ∈ E.objs, p.1 < far := fun p hp => Nat.lt_of_lt_of_le (Nat.lt_of_lt_of_le (e6 p hp) e4) e3
      have hin : ∀ i o, E.heap.get i = some o → (i, o) ∈ E.objs := by
        intro i o hio
        rw [AHeap.get_def] at hio
        split at hio
        · rcases lay_get E.objs .leaf hlt i o hio with h2 | h2
          · exact h2
          · simp [Trie.get_leaf] at h2
        · cases hio
      have hk : HRel (φ.pre sO) E.heap w := by
        refine ⟨fun i o hio => ?_, fun i j o o' hi hj hij hw => ?_, ?_, ?_⟩
        · have hm := hin i o hio
          exact orel_back (l2 _ hm) (H.live _ _ (hob _ hm).2)
        · have hm := hin i o hi
          have hm' := hin j o' hj
          have b1 := (hob _ hm).1
          have b2 := (hob _ hm').1
          exact H.apart (sO i) (sO j) _ _ (hob _ hm).2 (hob _ hm').2 (by rw [s1, s1]; have : b ≤ i + a := b1; have : b ≤ j + a := b2; omega) (by rw [hwr]; exact hw)
        · show E.next ≤ far
          omega
        · intro i hi
          show (lay E.objs .leaf).get i = none
          have hi' : E.next ≤ i := hi
          rw [lay_none _ _ hlt i (fun p hp => by have := e6 p hp; omega)]
          rfl
      have ha' : args = E.args.map (renV sO) := by rw [ha, renVs_eq]
      have hargs' : ∀ x ∈ E.args, okV (φ.pre sO) E.heap.next x := fun x hx => renV_ok (l1 x hx) (hargs _ (by rw [ha']; exact List.mem_map_of_mem hx))
      have hcall := hs' _ _ _ _ _ hrun (φ.pre sO) w hk (by simp [okV, okFn, okA, okL]) hargs'
      obtain ⟨q1, q2⟩ := hcall
      have hmm : E.args.map (mapV (φ.pre sO)) = args.map (mapV φ) := by
        rw [ha', List.map_map]
        exact List.map_congr_left fun x hx => (renV_map (l1 x hx)).symm
      refine ⟨q1, ?_⟩
      simp only [List.nil_append, List.append_nil] at q2 ⊢
      rw [hmm] at q2
      refine CallsIn.mono q2 fun e w' he => ?_
      obtain ⟨φ', he, H1, X, hv⟩ := he
      obtain ⟨M, hM⟩ : ∃ M, M = h.next + (E.next' - E.next) := ⟨_, rfl⟩
      let φ2 : Emb := ⟨fun i => if i < h.next then φ.at_ i else φ'.at_ (i - h.next + E.next), fun i => if i < h.next then φ.cap i else φ'.cap (i - h.next + E.next)⟩
      have hag : Agree h.next φ φ2 := fun i hi => by simp only [φ2, if_pos hi, and_self]
      have hag2 : Agree E.next' φ' (φ2.pre sN) := fun i hi => by
        show φ2.at_ (sN i) = _ ∧ φ2.cap (sN i) = _
        rw [s2]
        by_cases c : i < E.next
        · rw [if_pos c]
          have h3 := sOlt i c
          rw [s1] at h3
          obtain ⟨k1, k2⟩ := X.agree i c
          simp only [φ2, if_pos h3]
          rw [k1, k2]
          show φ.at_ _ = φ.at_ (sO i) ∧ φ.cap _ = φ.cap (sO i)
          rw [s1]; exact ⟨rfl, rfl⟩
        · rw [if_neg c]
          simp only [φ2]
          rw [if_neg (by omega), if_neg (by omega), show i - E.next + h.next - h.next + E.next = i by omega]
          exact ⟨rfl, rfl⟩
      have sNlt : ∀ i, i < E.next' → sN i < M := fun i hi => by
        rw [s2]
        by_cases c : i < E.next
        · rw [if_pos c]; have := sOlt i c; rw [s1] at this; omega
        · rw [if_neg c]; omega
      have sNge : ∀ p ∈ E.objs', h.next ≤ sN p.1 ∧ sN p.1 = p.1 - E.next + h.next := fun p hp => by
        have := (hnew p hp).1
        rw [s2, if_neg (by omega)]; omega
      have hlay : layR sN E.objs' h.t = lay (E.objs'.map fun p => (sN p.1, renO sN p.2)) h.t := layR_eq sN E.objs' h.t l4
      have hfar' : ∀ p ∈ (E.objs'.map fun p => (sN p.1, renO sN p.2)), p.1 < far := by
        intro p hp
        obtain ⟨q, hq, rfl⟩ := List.mem_map.1 hp
        have := sNlt q.1 (hnew q hq).2.1
        show sN q.1 < far
        omega
      have hget : ∀ i o, (⟨layR sN E.objs' h.t, M, h.low, h.floor⟩ : AHeap).get i = some o → (∃ p ∈ E.objs', i = sN p.1 ∧ o = renO sN p.2) ∨ h.get i = some o := by
        intro i o hio
        rw [AHeap.get_def] at hio
        split at hio
        · rw [hlay] at hio
          rcases lay_get _ h.t hfar' i o hio with h2 | h2
          · obtain ⟨q, hq, e⟩ := List.mem_map.1 h2
            cases e
            exact .inl ⟨q, hq, rfl, rfl⟩
          · right
            rw [AHeap.get_def]
            rcases Nat.lt_or_ge i h.next with h3 | h3
            · rw [if_pos h3]; exact h2
            · rw [H.fresh i h3] at h2; cases h2
        · cases hio
      have hno : ∀ b, ¬ Wr (φ.pre sO) E.heap b := by
        rintro b ⟨i, o, hi, hfl, _⟩
        have h2 := AHeap.lt_of_get hi
        have h3 : E.next ≤ i := hfl
        have h4 : i < E.next := h2
        omega
      have hfr : ∀ b, b < w.heap.size → w'.heap[b]? = w.heap[b]? := fun b hb => X.frame b hb (hno b)
      have hat : ∀ p ∈ E.objs', φ2.at_ (sN p.1) = φ'.at_ p.1 := fun p hp => (hag2 p.1 (hnew p hp).2.1).1
      have hbnew : ∀ p ∈ E.objs', w.heap.size ≤ (φ2.at_ (sN p.1)).block := by
        intro p hp
        rw [hat p hp]
        obtain ⟨k1, k2, k3, k4⟩ := hnew p hp
        have : Wr φ' h1 (φ'.at_ p.1).block := ⟨p.1, p.2, k3, by rw [X.floor]; exact k1, k4, rfl⟩
        exact (X.wr _ this).resolve_right (hno _)
      have hbold : ∀ i o, h.get i = some o → (φ2.at_ i).block < w.heap.size := by
        intro i o hio
        rw [(hag i (AHeap.lt_of_get hio)).1]
        exact (H.live i o hio).lt
      have hMe : Nat.add h.next (Nat.sub E.next' E.next) = M := hM.symm
      rw [hMe]
      refine ⟨φ2, ?_, ⟨fun i o hio => ?_, fun i j o o' hi hj hij hw => ?_, ?_, fun i hi => ?_⟩, ⟨hag, ?_, X.size, fun b hb _ => hfr b hb, ?_, rfl, X.same, ?_⟩, ?_⟩
      · rw [he, renT_map (n := E.next') l3, (mapV_agree hag2 (Nat.le_refl _) _ (by rw [← e2]; exact hv)).1]
      · rcases hget i o hio with ⟨p, hp, rfl, rfl⟩ | h2
        · have h3 := H1.live _ _ (hnew _ hp).2.2.1
          rw [e2] at h3
          exact orel_on (l4 _ hp) sNlt (h3.agree hag2 (Nat.le_refl _) (hnew _ hp).2.1)
        · exact ((H.live i o h2).same (hfr _ (H.live i o h2).lt)).agree hag (show h.next ≤ M by omega) (AHeap.lt_of_get h2)
      · rcases hget i o hi with ⟨p, hp, rfl, rfl⟩ | h2 <;> rcases hget j o' hj with ⟨q, hq, rfl, rfl⟩ | h3
        · rw [hat p hp, hat q hq]
          exact H1.apart p.1 q.1 _ _ (hnew _ hp).2.2.1 (hnew _ hq).2.2.1 (fun e => hij (by rw [e])) (hnew _ hp).2.2.2
        · have k1 := hbnew _ hp
          have k2 := hbold _ _ h3
          omega
        · have k1 := hbnew _ hq
          have k2 := hbold _ _ h2
          omega
        · rw [(hag i (AHeap.lt_of_get h2)).1, (hag j (AHeap.lt_of_get h3)).1]
          exact H.apart i j o o' h2 h3 hij hw
      · show M ≤ far
        omega
      · have hi' : M ≤ i := hi
        show (layR sN E.objs' h.t).get i = none
        rw [hlay, lay_none _ _ hfar' i (fun p hp => by
          obtain ⟨q, hq, rfl⟩ := List.mem_map.1 hp
          have := sNlt q.1 (hnew q hq).2.1
          show sN q.1 ≠ i
          omega)]
        exact H.fresh i (by omega)
      · show h.next ≤ M
        omega
      · rintro b ⟨i, o, hi, hfl, hw, rfl⟩
        rcases hget i o hi with ⟨p, hp, rfl, rfl⟩ | h2
        · exact .inl (hbnew _ hp)
        · right
          exact ⟨i, o, h2, hfl, hw, by rw [(hag i (AHeap.lt_of_get h2)).1]⟩
      · intro i o hi
        rcases hget i o hi with ⟨p, hp, rfl, rfl⟩ | h2
        · exact .inl (hbnew _ hp)
        · exact .inr ⟨i, o, h2, by rw [(hag i (AHeap.lt_of_get h2)).1]⟩
      · exact renT_ok' l3 sNlt (mapV_agree hag2 (Nat.le_refl _) _ (by rw [← e2]; exact hv)).2
    · cases hok
def TabOk (P : Program) (T : List Entry) : Prop := ∀ E ∈ T, (∃ cf, SoundCF P cf ∧ entryOk cf E = true) ∧ entryLow E = true
theorem orcR_sound {cf : CallF} (hcf : SoundCF P cf) : ∀ {T : List Entry}, TabOk P T → SoundCF P (orcR T cf) := by
  intro T hT fv args h r h' hr φ w H hfv hargs
  unfold orcR at hr
  split at hr
  · rename_i f
    revert hT
    induction T with
    | nil => intro _; exact hcf _ _ _ _ _ hr φ w H hfv hargs
    | cons E T ih =>
      intro hT
      have hr : (bif Nat.beq E.f f then useR E args h (List.rec (motive := fun _ => Option (Value × AHeap)) (cf (.func (.func f) #[] #[]) args h) (fun E _ ih => bif Nat.beq E.f f then useR E args h ih else ih) T) else (List.rec (motive := fun _ => Option (Value × AHeap)) (cf (.func (.func f) #[] #[]) args h) (fun E _ ih => bif Nat.beq E.f f then useR E args h ih else ih) T)) = some (r, h') := hr
      cases hb : Nat.beq E.f f with
      | false =>
        rw [hb, cond_false] at hr
        exact ih hr fun E' hE' => hT E' (List.mem_cons_of_mem _ hE')
      | true =>
        rw [hb, cond_true] at hr
        have hf := beq_iff.1 hb
        subst hf
        unfold useR at hr
        split at hr
        exact useR_sound (hT E (List.mem_cons_self ..)).1 (hT E (List.mem_cons_self ..)).2 H hargs hr fun ho => ih ho fun E' hE' => hT E' (List.mem_cons_of_mem _ hE')
  · exact hcf _ _ _ _ _ hr φ w H hfv hargs
noncomputable def acallR (P : Program) (A : List Nat) (T : List Entry) : Nat → CallF
  | 0, _, _, _ => none
  | n + 1, f, args, h =>
    match f with
    | .func (.func f) a b => callQ A f (fun h => (cfunc P f).run (orcR T (acallR P A T n)) n (app a.toList (app args b.toList)) h) h
    | .func (.yield l) ⟨[]⟩ ⟨[]⟩ => roundA P (orcR T (acallR P A T n)) n l args h
    | _ => none
theorem acallR_sound (hP : NamesFine P) (hm : P.follows .mixedOrders = true) (A : List Nat) {T : List Entry} (hT : TabOk P T) : ∀ n, SoundCF P (acallR P A T n) := by
  intro n
  induction n with
  | zero => intro fv args h r h' hr; simp [acallR] at hr
  | succ n ih =>
    intro fv args h r h' hr φ w H hfv hargs
    have ih' := orcR_sound ih hT
    simp only [acallR] at hr
    split at hr
    · rename_i f xs ys
      simp only [app_eq] at hr
      refine callQ_sound (fun g r h' hr H hn => func_sound hP hm ih' (draw_sound hP ih') hr H ?_) hr H
      rw [hn]
      simp only [okV] at hfv
      intro x hx
      simp only [List.mem_append] at hx
      rcases hx with hx | hx | hx
      · exact okA_iff.1 hfv.2.1 x hx
      · exact hargs x hx
      · exact okA_iff.1 hfv.2.2 x hx
    · exact round_sound hP hm ih' (draw_sound hP ih') hr H hargs
    · simp at hr
theorem tab_nil : TabOk P [] := fun _ h => by simp at h
theorem tab_cons {E : Entry} {T : List Entry} (h1 : (∃ cf, SoundCF P cf ∧ entryOk cf E = true) ∧ entryLow E = true) (h2 : TabOk P T) : TabOk P (E :: T) := fun E' h => by
  rcases List.mem_cons.1 h with rfl | h
  · exact h1
  · exact h2 E' h
end Go.Vm

namespace Go.Vm.GgAwake
abbrev ι (x : Int) : Value := .int .i64 x
def quiet : List Nat := [36, 120]
def e0 : Entry :=
  { next := 13080, f := 131, args := [(.agg ⟨[(ι 3), (ι 3), (.slice (some ⟨13069, 0, none⟩) 4 4), (ι 7), (ι 8), (.slice (some ⟨13070, 0, none⟩) 2 2), (.slice none 0 0)]⟩)], objs := [(13070, .row [(ι 0), (ι 20), (ι 22), (ι 14), (ι 1), (ι 9), (ι 9), (ι 9)] true 0), (13069, .row [(ι 2), (ι 3), (ι 2), (ι 2), (ι 1), (ι 2), (ι 3), (ι 3)] true 0)], val := (.tuple ⟨[(.agg ⟨[(ι 3), (ι 3), (.slice (some ⟨13069, 0, none⟩) 4 4), (ι 7), (ι 8), (.slice (some ⟨13070, 0, none⟩) 2 2), (.slice none 0 0), (.slice (some ⟨13329, 0, none⟩) 24 4611686018427387904)]⟩), (ι 0)]⟩), next' := 13330, objs' := [(13329, .row [(ι 2), (ι 2), (ι 1), (ι 3), (ι 0), (ι 0), (ι 7), (ι 20), (ι 9), (ι 0), (ι 0), (ι 2), (ι 2), (ι 1), (ι 3), (ι 0), (ι 0), (ι 7), (ι 21), (ι 9), (ι 0), (ι 0), (ι 2), (ι 2), (ι 1), (ι 3), (ι 0), (ι 0), (ι 7), (ι 22), (ι 9), (ι 0), (ι 0), (ι 2), (ι 2), (ι 1), (ι 3), (ι 0), (ι 0), (ι 8), (ι 20), (ι 9), (ι 0), (ι 0), (ι 2), (ι 2), (ι 1), (ι 3), (ι 0), (ι 0), (ι 8), (ι 21), (ι 9), (ι 0), (ι 0), (ι 2), (ι 2), (ι 1), (ι 3), (ι 0), (ι 0), (ι 8), (ι 22), (ι 9), (ι 0), (ι 0), (ι 2), (ι 2), (ι 2), (ι 3), (ι 0), (ι 0), (ι 7), (ι 20), (ι 9), (ι 0), (ι 0), (ι 2), (ι 2), (ι 2), (ι 3), (ι 0), (ι 0), (ι 7), (ι 21), (ι 9), (ι 0), (ι 0), (ι 2), (ι 2), (ι 2), (ι 3), (ι 0), (ι 0), (ι 7), (ι 22), (ι 9), (ι 0), (ι 0), (ι 2), (ι 2), (ι 2), (ι 3), (ι 0), (ι 0), (ι 8), (ι 20), (ι 9), (ι 0), (ι 0), (ι 2), (ι 2), (ι 2), (ι 3), (ι 0), (ι 0), (ι 8), (ι 21), (ι 9), (ι 0), (ι 0), (ι 2), (ι 2), (ι 2), (ι 3), (ι 0), (ι 0), (ι 8), (ι 22), (ι 9), (ι 0), (ι 0), (ι 3), (ι 2), (ι 1), (ι 3), (ι 0), (ι 0), (ι 7), (ι 20), (ι 9), (ι 0), (ι 0), (ι 3), (ι 2), (ι 1), (ι 3), (ι 0), (ι 0), (ι 7), (ι 21), (ι 9), (ι 0), (ι 0), (ι 3), (ι 2), (ι 1), (ι 3), (ι 0), (ι 0), (ι 7), (ι 22), (ι 9), (ι 0), (ι 0), (ι 3), (ι 2), (ι 1), (ι 3), (ι 0), (ι 0), (ι 8), (ι 20), (ι 9), (ι 0), (ι 0), (ι 3), (ι 2), (ι 1), (ι 3), (ι 0), (ι 0), (ι 8), (ι 21), (ι 9), (ι 0), (ι 0), (ι 3), (ι 2), (ι 1), (ι 3), (ι 0), (ι 0), (ι 8), (ι 22), (ι 9), (ι 0), (ι 0), (ι 3), (ι 2), (ι 2), (ι 3), (ι 0), (ι 0), (ι 7), (ι 20), (ι 9), (ι 0), (ι 0), (ι 3), (ι 2), (ι 2), (ι 3), (ι 0), (ι 0), (ι 7), (ι 21), (ι 9), (ι 0), (ι 0), (ι 3), (ι 2), (ι 2), (ι 3), (ι 0), (ι 0), (ι 7), (ι 22), (ι 9), (ι 0), (ι 0), (ι 3), (ι 2), (ι 2), (ι 3), (ι 0), (ι 0), (ι 8), (ι 20), (ι 9), (ι 0), (ι 0), (ι 3), (ι 2), (ι 2), (ι 3), (ι 0), (ι 0), (ι 8), (ι 21), (ι 9), (ι 0), (ι 0), (ι 3), (ι 2), (ι 2), (ι 3), (ι 0), (ι 0), (ι 8), (ι 22), (ι 9), (ι 0), (ι 0)] true 11)] }
def e1 : Entry :=
  { next := 16564, f := 110, args := [(.agg ⟨[(ι 3), (ι 3), (.slice (some ⟨13069, 0, none⟩) 4 4), (ι 7), (ι 8), (.slice (some ⟨13070, 0, none⟩) 2 2), (.slice none 0 0), (.slice (some ⟨16560, 0, none⟩) 24 4611686018427387904)]⟩), (ι 1)], objs := [(16560, .row [(ι 2), (ι 2), (ι 1), (ι 3), (ι 0), (ι 0), (ι 7), (ι 20), (ι 9), (ι 0), (ι 0), (ι 2), (ι 2), (ι 1), (ι 3), (ι 0), (ι 0), (ι 7), (ι 21), (ι 9), (ι 0), (ι 0), (ι 2), (ι 2), (ι 1), (ι 3), (ι 0), (ι 0), (ι 7), (ι 22), (ι 9), (ι 0), (ι 0), (ι 2), (ι 2), (ι 1), (ι 3), (ι 0), (ι 0), (ι 8), (ι 20), (ι 9), (ι 0), (ι 0), (ι 2), (ι 2), (ι 1), (ι 3), (ι 0), (ι 0), (ι 8), (ι 21), (ι 9), (ι 0), (ι 0), (ι 2), (ι 2), (ι 1), (ι 3), (ι 0), (ι 0), (ι 8), (ι 22), (ι 9), (ι 0), (ι 0), (ι 2), (ι 2), (ι 2), (ι 3), (ι 0), (ι 0), (ι 7), (ι 20), (ι 9), (ι 0), (ι 0), (ι 2), (ι 2), (ι 2), (ι 3), (ι 0), (ι 0), (ι 7), (ι 21), (ι 9), (ι 0), (ι 0), (ι 2), (ι 2), (ι 2), (ι 3), (ι 0), (ι 0), (ι 7), (ι 22), (ι 9), (ι 0), (ι 0), (ι 2), (ι 2), (ι 2), (ι 3), (ι 0), (ι 0), (ι 8), (ι 20), (ι 9), (ι 0), (ι 0), (ι 2), (ι 2), (ι 2), (ι 3), (ι 0), (ι 0), (ι 8), (ι 21), (ι 9), (ι 0), (ι 0), (ι 2), (ι 2), (ι 2), (ι 3), (ι 0), (ι 0), (ι 8), (ι 22), (ι 9), (ι 0), (ι 0), (ι 3), (ι 2), (ι 1), (ι 3), (ι 0), (ι 0), (ι 7), (ι 20), (ι 9), (ι 0), (ι 0), (ι 3), (ι 2), (ι 1), (ι 3), (ι 0), (ι 0), (ι 7), (ι 21), (ι 9), (ι 0), (ι 0), (ι 3), (ι 2), (ι 1), (ι 3), (ι 0), (ι 0), (ι 7), (ι 22), (ι 9), (ι 0), (ι 0), (ι 3), (ι 2), (ι 1), (ι 3), (ι 0), (ι 0), (ι 8), (ι 20), (ι 9), (ι 0), (ι 0), (ι 3), (ι 2), (ι 1), (ι 3), (ι 0), (ι 0), (ι 8), (ι 21), (ι 9), (ι 0), (ι 0), (ι 3), (ι 2), (ι 1), (ι 3), (ι 0), (ι 0), (ι 8), (ι 22), (ι 9), (ι 0), (ι 0), (ι 3), (ι 2), (ι 2), (ι 3), (ι 0), (ι 0), (ι 7), (ι 20), (ι 9), (ι 0), (ι 0), (ι 3), (ι 2), (ι 2), (ι 3), (ι 0), (ι 0), (ι 7), (ι 21), (ι 9), (ι 0), (ι 0), (ι 3), (ι 2), (ι 2), (ι 3), (ι 0), (ι 0), (ι 7), (ι 22), (ι 9), (ι 0), (ι 0), (ι 3), (ι 2), (ι 2), (ι 3), (ι 0), (ι 0), (ι 8), (ι 20), (ι 9), (ι 0), (ι 0), (ι 3), (ι 2), (ι 2), (ι 3), (ι 0), (ι 0), (ι 8), (ι 21), (ι 9), (ι 0), (ι 0), (ι 3), (ι 2), (ι 2), (ι 3), (ι 0), (ι 0), (ι 8), (ι 22), (ι 9), (ι 0), (ι 0)] true 11), (13070, .row [(ι 0), (ι 20), (ι 22), (ι 14), (ι 1), (ι 9), (ι 9), (ι 9)] true 0), (13069, .row [(ι 2), (ι 3), (ι 2), (ι 2), (ι 1), (ι 2), (ι 3), (ι 3)] true 0)], val := (.tuple ⟨[(.agg ⟨[(ι 2), (ι 3)]⟩), (.bool true)]⟩), next' := 17388, objs' := [] }
def e2 : Entry :=
  { next := 3500, f := 110, args := [(.agg ⟨[(ι 3), (ι 3), (.slice (some ⟨1, 0, none⟩) 4 4), (ι 7), (ι 8), (.slice (some ⟨2, 0, none⟩) 2 2), (.slice none 0 0), (.slice (some ⟨3496, 0, none⟩) 24 4611686018427387904)]⟩), (ι 1)], objs := [(3496, .row [(ι 2), (ι 2), (ι 1), (ι 3), (ι 0), (ι 0), (ι 7), (ι 20), (ι 9), (ι 0), (ι 0), (ι 2), (ι 2), (ι 1), (ι 3), (ι 0), (ι 0), (ι 7), (ι 21), (ι 9), (ι 0), (ι 0), (ι 2), (ι 2), (ι 1), (ι 3), (ι 0), (ι 0), (ι 7), (ι 22), (ι 9), (ι 0), (ι 0), (ι 2), (ι 2), (ι 1), (ι 3), (ι 0), (ι 0), (ι 8), (ι 20), (ι 9), (ι 0), (ι 0), (ι 2), (ι 2), (ι 1), (ι 3), (ι 0), (ι 0), (ι 8), (ι 21), (ι 9), (ι 0), (ι 0), (ι 2), (ι 2), (ι 1), (ι 3), (ι 0), (ι 0), (ι 8), (ι 22), (ι 9), (ι 0), (ι 0), (ι 2), (ι 2), (ι 2), (ι 3), (ι 0), (ι 0), (ι 7), (ι 20), (ι 9), (ι 0), (ι 0), (ι 2), (ι 2), (ι 2), (ι 3), (ι 0), (ι 0), (ι 7), (ι 21), (ι 9), (ι 0), (ι 0), (ι 2), (ι 2), (ι 2), (ι 3), (ι 0), (ι 0), (ι 7), (ι 22), (ι 9), (ι 0), (ι 0), (ι 2), (ι 2), (ι 2), (ι 3), (ι 0), (ι 0), (ι 8), (ι 20), (ι 9), (ι 0), (ι 0), (ι 2), (ι 2), (ι 2), (ι 3), (ι 0), (ι 0), (ι 8), (ι 21), (ι 9), (ι 0), (ι 0), (ι 2), (ι 2), (ι 2), (ι 3), (ι 0), (ι 0), (ι 8), (ι 22), (ι 9), (ι 0), (ι 0), (ι 3), (ι 2), (ι 1), (ι 3), (ι 0), (ι 0), (ι 7), (ι 20), (ι 9), (ι 0), (ι 0), (ι 3), (ι 2), (ι 1), (ι 3), (ι 0), (ι 0), (ι 7), (ι 21), (ι 9), (ι 0), (ι 0), (ι 3), (ι 2), (ι 1), (ι 3), (ι 0), (ι 0), (ι 7), (ι 22), (ι 9), (ι 0), (ι 0), (ι 3), (ι 2), (ι 1), (ι 3), (ι 0), (ι 0), (ι 8), (ι 20), (ι 9), (ι 0), (ι 0), (ι 3), (ι 2), (ι 1), (ι 3), (ι 0), (ι 0), (ι 8), (ι 21), (ι 9), (ι 0), (ι 0), (ι 3), (ι 2), (ι 1), (ι 3), (ι 0), (ι 0), (ι 8), (ι 22), (ι 9), (ι 0), (ι 0), (ι 3), (ι 2), (ι 2), (ι 3), (ι 0), (ι 0), (ι 7), (ι 20), (ι 9), (ι 0), (ι 0), (ι 3), (ι 2), (ι 2), (ι 3), (ι 0), (ι 0), (ι 7), (ι 21), (ι 9), (ι 0), (ι 0), (ι 3), (ι 2), (ι 2), (ι 3), (ι 0), (ι 0), (ι 7), (ι 22), (ι 9), (ι 0), (ι 0), (ι 3), (ι 2), (ι 2), (ι 3), (ι 0), (ι 0), (ι 8), (ι 20), (ι 9), (ι 0), (ι 0), (ι 3), (ι 2), (ι 2), (ι 3), (ι 0), (ι 0), (ι 8), (ι 21), (ι 9), (ι 0), (ι 0), (ι 3), (ι 2), (ι 2), (ι 3), (ι 0), (ι 0), (ι 8), (ι 22), (ι 9), (ι 0), (ι 0)] true 11), (2, .row [(ι 0), (ι 20), (ι 22), (ι 14), (ι 1), (ι 9), (ι 9), (ι 9)] true 0), (1, .row [(ι 2), (ι 3), (ι 2), (ι 2), (ι 1), (ι 2), (ι 3), (ι 3)] true 0)], val := (.tuple ⟨[(.agg ⟨[(ι 2), (ι 3)]⟩), (.bool true)]⟩), next' := 4324, objs' := [] }
def e3 : Entry :=
  { next := 7849, f := 110, args := [(.agg ⟨[(ι 3), (ι 3), (.slice (some ⟨4351, 0, none⟩) 4 4), (ι 7), (ι 8), (.slice (some ⟨4352, 0, none⟩) 2 2), (.slice none 0 0), (.slice (some ⟨7845, 0, none⟩) 24 4611686018427387904)]⟩), (ι 1)], objs := [(7845, .row [(ι 2), (ι 2), (ι 1), (ι 3), (ι 0), (ι 0), (ι 7), (ι 20), (ι 9), (ι 0), (ι 0), (ι 2), (ι 2), (ι 1), (ι 3), (ι 0), (ι 0), (ι 7), (ι 21), (ι 9), (ι 0), (ι 0), (ι 2), (ι 2), (ι 1), (ι 3), (ι 0), (ι 0), (ι 7), (ι 22), (ι 9), (ι 0), (ι 0), (ι 2), (ι 2), (ι 1), (ι 3), (ι 0), (ι 0), (ι 8), (ι 20), (ι 9), (ι 0), (ι 0), (ι 2), (ι 2), (ι 1), (ι 3), (ι 0), (ι 0), (ι 8), (ι 21), (ι 9), (ι 0), (ι 0), (ι 2), (ι 2), (ι 1), (ι 3), (ι 0), (ι 0), (ι 8), (ι 22), (ι 9), (ι 0), (ι 0), (ι 2), (ι 2), (ι 2), (ι 3), (ι 0), (ι 0), (ι 7), (ι 20), (ι 9), (ι 0), (ι 0), (ι 2), (ι 2), (ι 2), (ι 3), (ι 0), (ι 0), (ι 7), (ι 21), (ι 9), (ι 0), (ι 0), (ι 2), (ι 2), (ι 2), (ι 3), (ι 0), (ι 0), (ι 7), (ι 22), (ι 9), (ι 0), (ι 0), (ι 2), (ι 2), (ι 2), (ι 3), (ι 0), (ι 0), (ι 8), (ι 20), (ι 9), (ι 0), (ι 0), (ι 2), (ι 2), (ι 2), (ι 3), (ι 0), (ι 0), (ι 8), (ι 21), (ι 9), (ι 0), (ι 0), (ι 2), (ι 2), (ι 2), (ι 3), (ι 0), (ι 0), (ι 8), (ι 22), (ι 9), (ι 0), (ι 0), (ι 3), (ι 2), (ι 1), (ι 3), (ι 0), (ι 0), (ι 7), (ι 20), (ι 9), (ι 0), (ι 0), (ι 3), (ι 2), (ι 1), (ι 3), (ι 0), (ι 0), (ι 7), (ι 21), (ι 9), (ι 0), (ι 0), (ι 3), (ι 2), (ι 1), (ι 3), (ι 0), (ι 0), (ι 7), (ι 22), (ι 9), (ι 0), (ι 0), (ι 3), (ι 2), (ι 1), (ι 3), (ι 0), (ι 0), (ι 8), (ι 20), (ι 9), (ι 0), (ι 0), (ι 3), (ι 2), (ι 1), (ι 3), (ι 0), (ι 0), (ι 8), (ι 21), (ι 9), (ι 0), (ι 0), (ι 3), (ι 2), (ι 1), (ι 3), (ι 0), (ι 0), (ι 8), (ι 22), (ι 9), (ι 0), (ι 0), (ι 3), (ι 2), (ι 2), (ι 3), (ι 0), (ι 0), (ι 7), (ι 20), (ι 9), (ι 0), (ι 0), (ι 3), (ι 2), (ι 2), (ι 3), (ι 0), (ι 0), (ι 7), (ι 21), (ι 9), (ι 0), (ι 0), (ι 3), (ι 2), (ι 2), (ι 3), (ι 0), (ι 0), (ι 7), (ι 22), (ι 9), (ι 0), (ι 0), (ι 3), (ι 2), (ι 2), (ι 3), (ι 0), (ι 0), (ι 8), (ι 20), (ι 9), (ι 0), (ι 0), (ι 3), (ι 2), (ι 2), (ι 3), (ι 0), (ι 0), (ι 8), (ι 21), (ι 9), (ι 0), (ι 0), (ι 3), (ι 2), (ι 2), (ι 3), (ι 0), (ι 0), (ι 8), (ι 22), (ι 9), (ι 0), (ι 0)] true 11), (4352, .row [(ι 0), (ι 20), (ι 22), (ι 14), (ι 1), (ι 9), (ι 9), (ι 9)] true 0), (4351, .row [(ι 2), (ι 3), (ι 2), (ι 2), (ι 1), (ι 2), (ι 3), (ι 3)] true 0)], val := (.tuple ⟨[(.agg ⟨[(ι 2), (ι 3)]⟩), (.bool true)]⟩), next' := 8673, objs' := [] }
def e4 : Entry :=
  { next := 14269, f := 110, args := [(.agg ⟨[(ι 3), (ι 3), (.slice (some ⟨13069, 0, none⟩) 4 4), (ι 7), (ι 8), (.slice (some ⟨13070, 0, none⟩) 2 2), (.slice none 0 0), (.slice (some ⟨13329, 0, none⟩) 24 4611686018427387904)]⟩), (ι 1)], objs := [(13329, .row [(ι 2), (ι 2), (ι 1), (ι 3), (ι 0), (ι 0), (ι 7), (ι 20), (ι 9), (ι 0), (ι 0), (ι 2), (ι 2), (ι 1), (ι 3), (ι 0), (ι 0), (ι 7), (ι 21), (ι 9), (ι 0), (ι 0), (ι 2), (ι 2), (ι 1), (ι 3), (ι 0), (ι 0), (ι 7), (ι 22), (ι 9), (ι 0), (ι 0), (ι 2), (ι 2), (ι 1), (ι 3), (ι 0), (ι 0), (ι 8), (ι 20), (ι 9), (ι 0), (ι 0), (ι 2), (ι 2), (ι 1), (ι 3), (ι 0), (ι 0), (ι 8), (ι 21), (ι 9), (ι 0), (ι 0), (ι 2), (ι 2), (ι 1), (ι 3), (ι 0), (ι 0), (ι 8), (ι 22), (ι 9), (ι 0), (ι 0), (ι 2), (ι 2), (ι 2), (ι 3), (ι 0), (ι 0), (ι 7), (ι 20), (ι 9), (ι 0), (ι 0), (ι 2), (ι 2), (ι 2), (ι 3), (ι 0), (ι 0), (ι 7), (ι 21), (ι 9), (ι 0), (ι 0), (ι 2), (ι 2), (ι 2), (ι 3), (ι 0), (ι 0), (ι 7), (ι 22), (ι 9), (ι 0), (ι 0), (ι 2), (ι 2), (ι 2), (ι 3), (ι 0), (ι 0), (ι 8), (ι 20), (ι 9), (ι 0), (ι 0), (ι 2), (ι 2), (ι 2), (ι 3), (ι 0), (ι 0), (ι 8), (ι 21), (ι 9), (ι 0), (ι 0), (ι 2), (ι 2), (ι 2), (ι 3), (ι 0), (ι 0), (ι 8), (ι 22), (ι 9), (ι 0), (ι 0), (ι 3), (ι 2), (ι 1), (ι 3), (ι 0), (ι 0), (ι 7), (ι 20), (ι 9), (ι 0), (ι 0), (ι 3), (ι 2), (ι 1), (ι 3), (ι 0), (ι 0), (ι 7), (ι 21), (ι 9), (ι 0), (ι 0), (ι 3), (ι 2), (ι 1), (ι 3), (ι 0), (ι 0), (ι 7), (ι 22), (ι 9), (ι 0), (ι 0), (ι 3), (ι 2), (ι 1), (ι 3), (ι 0), (ι 0), (ι 8), (ι 20), (ι 9), (ι 0), (ι 0), (ι 3), (ι 2), (ι 1), (ι 3), (ι 0), (ι 0), (ι 8), (ι 21), (ι 9), (ι 0), (ι 0), (ι 3), (ι 2), (ι 1), (ι 3), (ι 0), (ι 0), (ι 8), (ι 22), (ι 9), (ι 0), (ι 0), (ι 3), (ι 2), (ι 2), (ι 3), (ι 0), (ι 0), (ι 7), (ι 20), (ι 9), (ι 0), (ι 0), (ι 3), (ι 2), (ι 2), (ι 3), (ι 0), (ι 0), (ι 7), (ι 21), (ι 9), (ι 0), (ι 0), (ι 3), (ι 2), (ι 2), (ι 3), (ι 0), (ι 0), (ι 7), (ι 22), (ι 9), (ι 0), (ι 0), (ι 3), (ι 2), (ι 2), (ι 3), (ι 0), (ι 0), (ι 8), (ι 20), (ι 9), (ι 0), (ι 0), (ι 3), (ι 2), (ι 2), (ι 3), (ι 0), (ι 0), (ι 8), (ι 21), (ι 9), (ι 0), (ι 0), (ι 3), (ι 2), (ι 2), (ι 3), (ι 0), (ι 0), (ι 8), (ι 22), (ι 9), (ι 0), (ι 0)] true 11), (13070, .row [(ι 0), (ι 20), (ι 22), (ι 14), (ι 1), (ι 9), (ι 9), (ι 9)] true 0), (13069, .row [(ι 2), (ι 3), (ι 2), (ι 2), (ι 1), (ι 2), (ι 3), (ι 3)] true 0)], val := (.tuple ⟨[(.agg ⟨[(ι 2), (ι 3)]⟩), (.bool true)]⟩), next' := 15093, objs' := [] }
def e5 : Entry :=
  { next := 1205, f := 110, args := [(.agg ⟨[(ι 3), (ι 3), (.slice (some ⟨1, 0, none⟩) 4 4), (ι 7), (ι 8), (.slice (some ⟨2, 0, none⟩) 2 2), (.slice none 0 0), (.slice (some ⟨265, 0, none⟩) 24 4611686018427387904)]⟩), (ι 1)], objs := [(265, .row [(ι 2), (ι 2), (ι 1), (ι 3), (ι 0), (ι 0), (ι 7), (ι 20), (ι 9), (ι 0), (ι 0), (ι 2), (ι 2), (ι 1), (ι 3), (ι 0), (ι 0), (ι 7), (ι 21), (ι 9), (ι 0), (ι 0), (ι 2), (ι 2), (ι 1), (ι 3), (ι 0), (ι 0), (ι 7), (ι 22), (ι 9), (ι 0), (ι 0), (ι 2), (ι 2), (ι 1), (ι 3), (ι 0), (ι 0), (ι 8), (ι 20), (ι 9), (ι 0), (ι 0), (ι 2), (ι 2), (ι 1), (ι 3), (ι 0), (ι 0), (ι 8), (ι 21), (ι 9), (ι 0), (ι 0), (ι 2), (ι 2), (ι 1), (ι 3), (ι 0), (ι 0), (ι 8), (ι 22), (ι 9), (ι 0), (ι 0), (ι 2), (ι 2), (ι 2), (ι 3), (ι 0), (ι 0), (ι 7), (ι 20), (ι 9), (ι 0), (ι 0), (ι 2), (ι 2), (ι 2), (ι 3), (ι 0), (ι 0), (ι 7), (ι 21), (ι 9), (ι 0), (ι 0), (ι 2), (ι 2), (ι 2), (ι 3), (ι 0), (ι 0), (ι 7), (ι 22), (ι 9), (ι 0), (ι 0), (ι 2), (ι 2), (ι 2), (ι 3), (ι 0), (ι 0), (ι 8), (ι 20), (ι 9), (ι 0), (ι 0), (ι 2), (ι 2), (ι 2), (ι 3), (ι 0), (ι 0), (ι 8), (ι 21), (ι 9), (ι 0), (ι 0), (ι 2), (ι 2), (ι 2), (ι 3), (ι 0), (ι 0), (ι 8), (ι 22), (ι 9), (ι 0), (ι 0), (ι 3), (ι 2), (ι 1), (ι 3), (ι 0), (ι 0), (ι 7), (ι 20), (ι 9), (ι 0), (ι 0), (ι 3), (ι 2), (ι 1), (ι 3), (ι 0), (ι 0), (ι 7), (ι 21), (ι 9), (ι 0), (ι 0), (ι 3), (ι 2), (ι 1), (ι 3), (ι 0), (ι 0), (ι 7), (ι 22), (ι 9), (ι 0), (ι 0), (ι 3), (ι 2), (ι 1), (ι 3), (ι 0), (ι 0), (ι 8), (ι 20), (ι 9), (ι 0), (ι 0), (ι 3), (ι 2), (ι 1), (ι 3), (ι 0), (ι 0), (ι 8), (ι 21), (ι 9), (ι 0), (ι 0), (ι 3), (ι 2), (ι 1), (ι 3), (ι 0), (ι 0), (ι 8), (ι 22), (ι 9), (ι 0), (ι 0), (ι 3), (ι 2), (ι 2), (ι 3), (ι 0), (ι 0), (ι 7), (ι 20), (ι 9), (ι 0), (ι 0), (ι 3), (ι 2), (ι 2), (ι 3), (ι 0), (ι 0), (ι 7), (ι 21), (ι 9), (ι 0), (ι 0), (ι 3), (ι 2), (ι 2), (ι 3), (ι 0), (ι 0), (ι 7), (ι 22), (ι 9), (ι 0), (ι 0), (ι 3), (ι 2), (ι 2), (ι 3), (ι 0), (ι 0), (ι 8), (ι 20), (ι 9), (ι 0), (ι 0), (ι 3), (ι 2), (ι 2), (ι 3), (ι 0), (ι 0), (ι 8), (ι 21), (ι 9), (ι 0), (ι 0), (ι 3), (ι 2), (ι 2), (ι 3), (ι 0), (ι 0), (ι 8), (ι 22), (ι 9), (ι 0), (ι 0)] true 11), (2, .row [(ι 0), (ι 20), (ι 22), (ι 14), (ι 1), (ι 9), (ι 9), (ι 9)] true 0), (1, .row [(ι 2), (ι 3), (ι 2), (ι 2), (ι 1), (ι 2), (ι 3), (ι 3)] true 0)], val := (.tuple ⟨[(.agg ⟨[(ι 2), (ι 3)]⟩), (.bool true)]⟩), next' := 2029, objs' := [] }
def e6 : Entry :=
  { next := 5554, f := 110, args := [(.agg ⟨[(ι 3), (ι 3), (.slice (some ⟨4351, 0, none⟩) 4 4), (ι 7), (ι 8), (.slice (some ⟨4352, 0, none⟩) 2 2), (.slice none 0 0), (.slice (some ⟨4614, 0, none⟩) 24 4611686018427387904)]⟩), (ι 1)], objs := [(4614, .row [(ι 2), (ι 2), (ι 1), (ι 3), (ι 0), (ι 0), (ι 7), (ι 20), (ι 9), (ι 0), (ι 0), (ι 2), (ι 2), (ι 1), (ι 3), (ι 0), (ι 0), (ι 7), (ι 21), (ι 9), (ι 0), (ι 0), (ι 2), (ι 2), (ι 1), (ι 3), (ι 0), (ι 0), (ι 7), (ι 22), (ι 9), (ι 0), (ι 0), (ι 2), (ι 2), (ι 1), (ι 3), (ι 0), (ι 0), (ι 8), (ι 20), (ι 9), (ι 0), (ι 0), (ι 2), (ι 2), (ι 1), (ι 3), (ι 0), (ι 0), (ι 8), (ι 21), (ι 9), (ι 0), (ι 0), (ι 2), (ι 2), (ι 1), (ι 3), (ι 0), (ι 0), (ι 8), (ι 22), (ι 9), (ι 0), (ι 0), (ι 2), (ι 2), (ι 2), (ι 3), (ι 0), (ι 0), (ι 7), (ι 20), (ι 9), (ι 0), (ι 0), (ι 2), (ι 2), (ι 2), (ι 3), (ι 0), (ι 0), (ι 7), (ι 21), (ι 9), (ι 0), (ι 0), (ι 2), (ι 2), (ι 2), (ι 3), (ι 0), (ι 0), (ι 7), (ι 22), (ι 9), (ι 0), (ι 0), (ι 2), (ι 2), (ι 2), (ι 3), (ι 0), (ι 0), (ι 8), (ι 20), (ι 9), (ι 0), (ι 0), (ι 2), (ι 2), (ι 2), (ι 3), (ι 0), (ι 0), (ι 8), (ι 21), (ι 9), (ι 0), (ι 0), (ι 2), (ι 2), (ι 2), (ι 3), (ι 0), (ι 0), (ι 8), (ι 22), (ι 9), (ι 0), (ι 0), (ι 3), (ι 2), (ι 1), (ι 3), (ι 0), (ι 0), (ι 7), (ι 20), (ι 9), (ι 0), (ι 0), (ι 3), (ι 2), (ι 1), (ι 3), (ι 0), (ι 0), (ι 7), (ι 21), (ι 9), (ι 0), (ι 0), (ι 3), (ι 2), (ι 1), (ι 3), (ι 0), (ι 0), (ι 7), (ι 22), (ι 9), (ι 0), (ι 0), (ι 3), (ι 2), (ι 1), (ι 3), (ι 0), (ι 0), (ι 8), (ι 20), (ι 9), (ι 0), (ι 0), (ι 3), (ι 2), (ι 1), (ι 3), (ι 0), (ι 0), (ι 8), (ι 21), (ι 9), (ι 0), (ι 0), (ι 3), (ι 2), (ι 1), (ι 3), (ι 0), (ι 0), (ι 8), (ι 22), (ι 9), (ι 0), (ι 0), (ι 3), (ι 2), (ι 2), (ι 3), (ι 0), (ι 0), (ι 7), (ι 20), (ι 9), (ι 0), (ι 0), (ι 3), (ι 2), (ι 2), (ι 3), (ι 0), (ι 0), (ι 7), (ι 21), (ι 9), (ι 0), (ι 0), (ι 3), (ι 2), (ι 2), (ι 3), (ι 0), (ι 0), (ι 7), (ι 22), (ι 9), (ι 0), (ι 0), (ι 3), (ι 2), (ι 2), (ι 3), (ι 0), (ι 0), (ι 8), (ι 20), (ι 9), (ι 0), (ι 0), (ι 3), (ι 2), (ι 2), (ι 3), (ι 0), (ι 0), (ι 8), (ι 21), (ι 9), (ι 0), (ι 0), (ι 3), (ι 2), (ι 2), (ι 3), (ι 0), (ι 0), (ι 8), (ι 22), (ι 9), (ι 0), (ι 0)] true 11), (4352, .row [(ι 0), (ι 20), (ι 22), (ι 14), (ι 1), (ι 9), (ι 9), (ι 9)] true 0), (4351, .row [(ι 2), (ι 3), (ι 2), (ι 2), (ι 1), (ι 2), (ι 3), (ι 3)] true 0)], val := (.tuple ⟨[(.agg ⟨[(ι 2), (ι 3)]⟩), (.bool true)]⟩), next' := 6378, objs' := [] }
def e7 : Entry :=
  { next := 15368, f := 110, args := [(.agg ⟨[(ι 3), (ι 3), (.slice (some ⟨13069, 0, none⟩) 4 4), (ι 7), (ι 8), (.slice (some ⟨13070, 0, none⟩) 2 2), (.slice none 0 0), (.slice (some ⟨15364, 0, none⟩) 24 4611686018427387904)]⟩), (ι 0)], objs := [(15364, .row [(ι 2), (ι 2), (ι 1), (ι 3), (ι 0), (ι 0), (ι 7), (ι 20), (ι 9), (ι 0), (ι 0), (ι 2), (ι 2), (ι 1), (ι 3), (ι 0), (ι 0), (ι 7), (ι 21), (ι 9), (ι 0), (ι 0), (ι 2), (ι 2), (ι 1), (ι 3), (ι 0), (ι 0), (ι 7), (ι 22), (ι 9), (ι 0), (ι 0), (ι 2), (ι 2), (ι 1), (ι 3), (ι 0), (ι 0), (ι 8), (ι 20), (ι 9), (ι 0), (ι 0), (ι 2), (ι 2), (ι 1), (ι 3), (ι 0), (ι 0), (ι 8), (ι 21), (ι 9), (ι 0), (ι 0), (ι 2), (ι 2), (ι 1), (ι 3), (ι 0), (ι 0), (ι 8), (ι 22), (ι 9), (ι 0), (ι 0), (ι 2), (ι 2), (ι 2), (ι 3), (ι 0), (ι 0), (ι 7), (ι 20), (ι 9), (ι 0), (ι 0), (ι 2), (ι 2), (ι 2), (ι 3), (ι 0), (ι 0), (ι 7), (ι 21), (ι 9), (ι 0), (ι 0), (ι 2), (ι 2), (ι 2), (ι 3), (ι 0), (ι 0), (ι 7), (ι 22), (ι 9), (ι 0), (ι 0), (ι 2), (ι 2), (ι 2), (ι 3), (ι 0), (ι 0), (ι 8), (ι 20), (ι 9), (ι 0), (ι 0), (ι 2), (ι 2), (ι 2), (ι 3), (ι 0), (ι 0), (ι 8), (ι 21), (ι 9), (ι 0), (ι 0), (ι 2), (ι 2), (ι 2), (ι 3), (ι 0), (ι 0), (ι 8), (ι 22), (ι 9), (ι 0), (ι 0), (ι 3), (ι 2), (ι 1), (ι 3), (ι 0), (ι 0), (ι 7), (ι 20), (ι 9), (ι 0), (ι 0), (ι 3), (ι 2), (ι 1), (ι 3), (ι 0), (ι 0), (ι 7), (ι 21), (ι 9), (ι 0), (ι 0), (ι 3), (ι 2), (ι 1), (ι 3), (ι 0), (ι 0), (ι 7), (ι 22), (ι 9), (ι 0), (ι 0), (ι 3), (ι 2), (ι 1), (ι 3), (ι 0), (ι 0), (ι 8), (ι 20), (ι 9), (ι 0), (ι 0), (ι 3), (ι 2), (ι 1), (ι 3), (ι 0), (ι 0), (ι 8), (ι 21), (ι 9), (ι 0), (ι 0), (ι 3), (ι 2), (ι 1), (ι 3), (ι 0), (ι 0), (ι 8), (ι 22), (ι 9), (ι 0), (ι 0), (ι 3), (ι 2), (ι 2), (ι 3), (ι 0), (ι 0), (ι 7), (ι 20), (ι 9), (ι 0), (ι 0), (ι 3), (ι 2), (ι 2), (ι 3), (ι 0), (ι 0), (ι 7), (ι 21), (ι 9), (ι 0), (ι 0), (ι 3), (ι 2), (ι 2), (ι 3), (ι 0), (ι 0), (ι 7), (ι 22), (ι 9), (ι 0), (ι 0), (ι 3), (ι 2), (ι 2), (ι 3), (ι 0), (ι 0), (ι 8), (ι 20), (ι 9), (ι 0), (ι 0), (ι 3), (ι 2), (ι 2), (ι 3), (ι 0), (ι 0), (ι 8), (ι 21), (ι 9), (ι 0), (ι 0), (ι 3), (ι 2), (ι 2), (ι 3), (ι 0), (ι 0), (ι 8), (ι 22), (ι 9), (ι 0), (ι 0)] true 11), (13070, .row [(ι 0), (ι 20), (ι 22), (ι 14), (ι 1), (ι 9), (ι 9), (ι 9)] true 0), (13069, .row [(ι 2), (ι 3), (ι 2), (ι 2), (ι 1), (ι 2), (ι 3), (ι 3)] true 0)], val := (.tuple ⟨[(.agg ⟨[(ι 2), (ι 2)]⟩), (.bool true)]⟩), next' := 16304, objs' := [] }
def e8 : Entry :=
  { next := 2304, f := 110, args := [(.agg ⟨[(ι 3), (ι 3), (.slice (some ⟨1, 0, none⟩) 4 4), (ι 7), (ι 8), (.slice (some ⟨2, 0, none⟩) 2 2), (.slice none 0 0), (.slice (some ⟨2300, 0, none⟩) 24 4611686018427387904)]⟩), (ι 0)], objs := [(2300, .row [(ι 2), (ι 2), (ι 1), (ι 3), (ι 0), (ι 0), (ι 7), (ι 20), (ι 9), (ι 0), (ι 0), (ι 2), (ι 2), (ι 1), (ι 3), (ι 0), (ι 0), (ι 7), (ι 21), (ι 9), (ι 0), (ι 0), (ι 2), (ι 2), (ι 1), (ι 3), (ι 0), (ι 0), (ι 7), (ι 22), (ι 9), (ι 0), (ι 0), (ι 2), (ι 2), (ι 1), (ι 3), (ι 0), (ι 0), (ι 8), (ι 20), (ι 9), (ι 0), (ι 0), (ι 2), (ι 2), (ι 1), (ι 3), (ι 0), (ι 0), (ι 8), (ι 21), (ι 9), (ι 0), (ι 0), (ι 2), (ι 2), (ι 1), (ι 3), (ι 0), (ι 0), (ι 8), (ι 22), (ι 9), (ι 0), (ι 0), (ι 2), (ι 2), (ι 2), (ι 3), (ι 0), (ι 0), (ι 7), (ι 20), (ι 9), (ι 0), (ι 0), (ι 2), (ι 2), (ι 2), (ι 3), (ι 0), (ι 0), (ι 7), (ι 21), (ι 9), (ι 0), (ι 0), (ι 2), (ι 2), (ι 2), (ι 3), (ι 0), (ι 0), (ι 7), (ι 22), (ι 9), (ι 0), (ι 0), (ι 2), (ι 2), (ι 2), (ι 3), (ι 0), (ι 0), (ι 8), (ι 20), (ι 9), (ι 0), (ι 0), (ι 2), (ι 2), (ι 2), (ι 3), (ι 0), (ι 0), (ι 8), (ι 21), (ι 9), (ι 0), (ι 0), (ι 2), (ι 2), (ι 2), (ι 3), (ι 0), (ι 0), (ι 8), (ι 22), (ι 9), (ι 0), (ι 0), (ι 3), (ι 2), (ι 1), (ι 3), (ι 0), (ι 0), (ι 7), (ι 20), (ι 9), (ι 0), (ι 0), (ι 3), (ι 2), (ι 1), (ι 3), (ι 0), (ι 0), (ι 7), (ι 21), (ι 9), (ι 0), (ι 0), (ι 3), (ι 2), (ι 1), (ι 3), (ι 0), (ι 0), (ι 7), (ι 22), (ι 9), (ι 0), (ι 0), (ι 3), (ι 2), (ι 1), (ι 3), (ι 0), (ι 0), (ι 8), (ι 20), (ι 9), (ι 0), (ι 0), (ι 3), (ι 2), (ι 1), (ι 3), (ι 0), (ι 0), (ι 8), (ι 21), (ι 9), (ι 0), (ι 0), (ι 3), (ι 2), (ι 1), (ι 3), (ι 0), (ι 0), (ι 8), (ι 22), (ι 9), (ι 0), (ι 0), (ι 3), (ι 2), (ι 2), (ι 3), (ι 0), (ι 0), (ι 7), (ι 20), (ι 9), (ι 0), (ι 0), (ι 3), (ι 2), (ι 2), (ι 3), (ι 0), (ι 0), (ι 7), (ι 21), (ι 9), (ι 0), (ι 0), (ι 3), (ι 2), (ι 2), (ι 3), (ι 0), (ι 0), (ι 7), (ι 22), (ι 9), (ι 0), (ι 0), (ι 3), (ι 2), (ι 2), (ι 3), (ι 0), (ι 0), (ι 8), (ι 20), (ι 9), (ι 0), (ι 0), (ι 3), (ι 2), (ι 2), (ι 3), (ι 0), (ι 0), (ι 8), (ι 21), (ι 9), (ι 0), (ι 0), (ι 3), (ι 2), (ι 2), (ι 3), (ι 0), (ι 0), (ι 8), (ι 22), (ι 9), (ι 0), (ι 0)] true 11), (2, .row [(ι 0), (ι 20), (ι 22), (ι 14), (ι 1), (ι 9), (ι 9), (ι 9)] true 0), (1, .row [(ι 2), (ι 3), (ι 2), (ι 2), (ι 1), (ι 2), (ι 3), (ι 3)] true 0)], val := (.tuple ⟨[(.agg ⟨[(ι 2), (ι 2)]⟩), (.bool true)]⟩), next' := 3240, objs' := [] }
def e9 : Entry :=
  { next := 6653, f := 110, args := [(.agg ⟨[(ι 3), (ι 3), (.slice (some ⟨4351, 0, none⟩) 4 4), (ι 7), (ι 8), (.slice (some ⟨4352, 0, none⟩) 2 2), (.slice none 0 0), (.slice (some ⟨6649, 0, none⟩) 24 4611686018427387904)]⟩), (ι 0)], objs := [(6649, .row [(ι 2), (ι 2), (ι 1), (ι 3), (ι 0), (ι 0), (ι 7), (ι 20), (ι 9), (ι 0), (ι 0), (ι 2), (ι 2), (ι 1), (ι 3), (ι 0), (ι 0), (ι 7), (ι 21), (ι 9), (ι 0), (ι 0), (ι 2), (ι 2), (ι 1), (ι 3), (ι 0), (ι 0), (ι 7), (ι 22), (ι 9), (ι 0), (ι 0), (ι 2), (ι 2), (ι 1), (ι 3), (ι 0), (ι 0), (ι 8), (ι 20), (ι 9), (ι 0), (ι 0), (ι 2), (ι 2), (ι 1), (ι 3), (ι 0), (ι 0), (ι 8), (ι 21), (ι 9), (ι 0), (ι 0), (ι 2), (ι 2), (ι 1), (ι 3), (ι 0), (ι 0), (ι 8), (ι 22), (ι 9), (ι 0), (ι 0), (ι 2), (ι 2), (ι 2), (ι 3), (ι 0), (ι 0), (ι 7), (ι 20), (ι 9), (ι 0), (ι 0), (ι 2), (ι 2), (ι 2), (ι 3), (ι 0), (ι 0), (ι 7), (ι 21), (ι 9), (ι 0), (ι 0), (ι 2), (ι 2), (ι 2), (ι 3), (ι 0), (ι 0), (ι 7), (ι 22), (ι 9), (ι 0), (ι 0), (ι 2), (ι 2), (ι 2), (ι 3), (ι 0), (ι 0), (ι 8), (ι 20), (ι 9), (ι 0), (ι 0), (ι 2), (ι 2), (ι 2), (ι 3), (ι 0), (ι 0), (ι 8), (ι 21), (ι 9), (ι 0), (ι 0), (ι 2), (ι 2), (ι 2), (ι 3), (ι 0), (ι 0), (ι 8), (ι 22), (ι 9), (ι 0), (ι 0), (ι 3), (ι 2), (ι 1), (ι 3), (ι 0), (ι 0), (ι 7), (ι 20), (ι 9), (ι 0), (ι 0), (ι 3), (ι 2), (ι 1), (ι 3), (ι 0), (ι 0), (ι 7), (ι 21), (ι 9), (ι 0), (ι 0), (ι 3), (ι 2), (ι 1), (ι 3), (ι 0), (ι 0), (ι 7), (ι 22), (ι 9), (ι 0), (ι 0), (ι 3), (ι 2), (ι 1), (ι 3), (ι 0), (ι 0), (ι 8), (ι 20), (ι 9), (ι 0), (ι 0), (ι 3), (ι 2), (ι 1), (ι 3), (ι 0), (ι 0), (ι 8), (ι 21), (ι 9), (ι 0), (ι 0), (ι 3), (ι 2), (ι 1), (ι 3), (ι 0), (ι 0), (ι 8), (ι 22), (ι 9), (ι 0), (ι 0), (ι 3), (ι 2), (ι 2), (ι 3), (ι 0), (ι 0), (ι 7), (ι 20), (ι 9), (ι 0), (ι 0), (ι 3), (ι 2), (ι 2), (ι 3), (ι 0), (ι 0), (ι 7), (ι 21), (ι 9), (ι 0), (ι 0), (ι 3), (ι 2), (ι 2), (ι 3), (ι 0), (ι 0), (ι 7), (ι 22), (ι 9), (ι 0), (ι 0), (ι 3), (ι 2), (ι 2), (ι 3), (ι 0), (ι 0), (ι 8), (ι 20), (ι 9), (ι 0), (ι 0), (ι 3), (ι 2), (ι 2), (ι 3), (ι 0), (ι 0), (ι 8), (ι 21), (ι 9), (ι 0), (ι 0), (ι 3), (ι 2), (ι 2), (ι 3), (ι 0), (ι 0), (ι 8), (ι 22), (ι 9), (ι 0), (ι 0)] true 11), (4352, .row [(ι 0), (ι 20), (ι 22), (ι 14), (ι 1), (ι 9), (ι 9), (ι 9)] true 0), (4351, .row [(ι 2), (ι 3), (ι 2), (ι 2), (ι 1), (ι 2), (ι 3), (ι 3)] true 0)], val := (.tuple ⟨[(.agg ⟨[(ι 2), (ι 2)]⟩), (.bool true)]⟩), next' := 7589, objs' := [] }
def e10 : Entry :=
  { next := 13332, f := 110, args := [(.agg ⟨[(ι 3), (ι 3), (.slice (some ⟨13069, 0, none⟩) 4 4), (ι 7), (ι 8), (.slice (some ⟨13070, 0, none⟩) 2 2), (.slice none 0 0), (.slice (some ⟨13329, 0, none⟩) 24 4611686018427387904)]⟩), (ι 0)], objs := [(13329, .row [(ι 2), (ι 2), (ι 1), (ι 3), (ι 0), (ι 0), (ι 7), (ι 20), (ι 9), (ι 0), (ι 0), (ι 2), (ι 2), (ι 1), (ι 3), (ι 0), (ι 0), (ι 7), (ι 21), (ι 9), (ι 0), (ι 0), (ι 2), (ι 2), (ι 1), (ι 3), (ι 0), (ι 0), (ι 7), (ι 22), (ι 9), (ι 0), (ι 0), (ι 2), (ι 2), (ι 1), (ι 3), (ι 0), (ι 0), (ι 8), (ι 20), (ι 9), (ι 0), (ι 0), (ι 2), (ι 2), (ι 1), (ι 3), (ι 0), (ι 0), (ι 8), (ι 21), (ι 9), (ι 0), (ι 0), (ι 2), (ι 2), (ι 1), (ι 3), (ι 0), (ι 0), (ι 8), (ι 22), (ι 9), (ι 0), (ι 0), (ι 2), (ι 2), (ι 2), (ι 3), (ι 0), (ι 0), (ι 7), (ι 20), (ι 9), (ι 0), (ι 0), (ι 2), (ι 2), (ι 2), (ι 3), (ι 0), (ι 0), (ι 7), (ι 21), (ι 9), (ι 0), (ι 0), (ι 2), (ι 2), (ι 2), (ι 3), (ι 0), (ι 0), (ι 7), (ι 22), (ι 9), (ι 0), (ι 0), (ι 2), (ι 2), (ι 2), (ι 3), (ι 0), (ι 0), (ι 8), (ι 20), (ι 9), (ι 0), (ι 0), (ι 2), (ι 2), (ι 2), (ι 3), (ι 0), (ι 0), (ι 8), (ι 21), (ι 9), (ι 0), (ι 0), (ι 2), (ι 2), (ι 2), (ι 3), (ι 0), (ι 0), (ι 8), (ι 22), (ι 9), (ι 0), (ι 0), (ι 3), (ι 2), (ι 1), (ι 3), (ι 0), (ι 0), (ι 7), (ι 20), (ι 9), (ι 0), (ι 0), (ι 3), (ι 2), (ι 1), (ι 3), (ι 0), (ι 0), (ι 7), (ι 21), (ι 9), (ι 0), (ι 0), (ι 3), (ι 2), (ι 1), (ι 3), (ι 0), (ι 0), (ι 7), (ι 22), (ι 9), (ι 0), (ι 0), (ι 3), (ι 2), (ι 1), (ι 3), (ι 0), (ι 0), (ι 8), (ι 20), (ι 9), (ι 0), (ι 0), (ι 3), (ι 2), (ι 1), (ι 3), (ι 0), (ι 0), (ι 8), (ι 21), (ι 9), (ι 0), (ι 0), (ι 3), (ι 2), (ι 1), (ι 3), (ι 0), (ι 0), (ι 8), (ι 22), (ι 9), (ι 0), (ι 0), (ι 3), (ι 2), (ι 2), (ι 3), (ι 0), (ι 0), (ι 7), (ι 20), (ι 9), (ι 0), (ι 0), (ι 3), (ι 2), (ι 2), (ι 3), (ι 0), (ι 0), (ι 7), (ι 21), (ι 9), (ι 0), (ι 0), (ι 3), (ι 2), (ι 2), (ι 3), (ι 0), (ι 0), (ι 7), (ι 22), (ι 9), (ι 0), (ι 0), (ι 3), (ι 2), (ι 2), (ι 3), (ι 0), (ι 0), (ι 8), (ι 20), (ι 9), (ι 0), (ι 0), (ι 3), (ι 2), (ι 2), (ι 3), (ι 0), (ι 0), (ι 8), (ι 21), (ι 9), (ι 0), (ι 0), (ι 3), (ι 2), (ι 2), (ι 3), (ι 0), (ι 0), (ι 8), (ι 22), (ι 9), (ι 0), (ι 0)] true 11), (13070, .row [(ι 0), (ι 20), (ι 22), (ι 14), (ι 1), (ι 9), (ι 9), (ι 9)] true 0), (13069, .row [(ι 2), (ι 3), (ι 2), (ι 2), (ι 1), (ι 2), (ι 3), (ι 3)] true 0)], val := (.tuple ⟨[(.agg ⟨[(ι 2), (ι 2)]⟩), (.bool true)]⟩), next' := 14268, objs' := [] }
def e11 : Entry :=
  { next := 268, f := 110, args := [(.agg ⟨[(ι 3), (ι 3), (.slice (some ⟨1, 0, none⟩) 4 4), (ι 7), (ι 8), (.slice (some ⟨2, 0, none⟩) 2 2), (.slice none 0 0), (.slice (some ⟨265, 0, none⟩) 24 4611686018427387904)]⟩), (ι 0)], objs := [(265, .row [(ι 2), (ι 2), (ι 1), (ι 3), (ι 0), (ι 0), (ι 7), (ι 20), (ι 9), (ι 0), (ι 0), (ι 2), (ι 2), (ι 1), (ι 3), (ι 0), (ι 0), (ι 7), (ι 21), (ι 9), (ι 0), (ι 0), (ι 2), (ι 2), (ι 1), (ι 3), (ι 0), (ι 0), (ι 7), (ι 22), (ι 9), (ι 0), (ι 0), (ι 2), (ι 2), (ι 1), (ι 3), (ι 0), (ι 0), (ι 8), (ι 20), (ι 9), (ι 0), (ι 0), (ι 2), (ι 2), (ι 1), (ι 3), (ι 0), (ι 0), (ι 8), (ι 21), (ι 9), (ι 0), (ι 0), (ι 2), (ι 2), (ι 1), (ι 3), (ι 0), (ι 0), (ι 8), (ι 22), (ι 9), (ι 0), (ι 0), (ι 2), (ι 2), (ι 2), (ι 3), (ι 0), (ι 0), (ι 7), (ι 20), (ι 9), (ι 0), (ι 0), (ι 2), (ι 2), (ι 2), (ι 3), (ι 0), (ι 0), (ι 7), (ι 21), (ι 9), (ι 0), (ι 0), (ι 2), (ι 2), (ι 2), (ι 3), (ι 0), (ι 0), (ι 7), (ι 22), (ι 9), (ι 0), (ι 0), (ι 2), (ι 2), (ι 2), (ι 3), (ι 0), (ι 0), (ι 8), (ι 20), (ι 9), (ι 0), (ι 0), (ι 2), (ι 2), (ι 2), (ι 3), (ι 0), (ι 0), (ι 8), (ι 21), (ι 9), (ι 0), (ι 0), (ι 2), (ι 2), (ι 2), (ι 3), (ι 0), (ι 0), (ι 8), (ι 22), (ι 9), (ι 0), (ι 0), (ι 3), (ι 2), (ι 1), (ι 3), (ι 0), (ι 0), (ι 7), (ι 20), (ι 9), (ι 0), (ι 0), (ι 3), (ι 2), (ι 1), (ι 3), (ι 0), (ι 0), (ι 7), (ι 21), (ι 9), (ι 0), (ι 0), (ι 3), (ι 2), (ι 1), (ι 3), (ι 0), (ι 0), (ι 7), (ι 22), (ι 9), (ι 0), (ι 0), (ι 3), (ι 2), (ι 1), (ι 3), (ι 0), (ι 0), (ι 8), (ι 20), (ι 9), (ι 0), (ι 0), (ι 3), (ι 2), (ι 1), (ι 3), (ι 0), (ι 0), (ι 8), (ι 21), (ι 9), (ι 0), (ι 0), (ι 3), (ι 2), (ι 1), (ι 3), (ι 0), (ι 0), (ι 8), (ι 22), (ι 9), (ι 0), (ι 0), (ι 3), (ι 2), (ι 2), (ι 3), (ι 0), (ι 0), (ι 7), (ι 20), (ι 9), (ι 0), (ι 0), (ι 3), (ι 2), (ι 2), (ι 3), (ι 0), (ι 0), (ι 7), (ι 21), (ι 9), (ι 0), (ι 0), (ι 3), (ι 2), (ι 2), (ι 3), (ι 0), (ι 0), (ι 7), (ι 22), (ι 9), (ι 0), (ι 0), (ι 3), (ι 2), (ι 2), (ι 3), (ι 0), (ι 0), (ι 8), (ι 20), (ι 9), (ι 0), (ι 0), (ι 3), (ι 2), (ι 2), (ι 3), (ι 0), (ι 0), (ι 8), (ι 21), (ι 9), (ι 0), (ι 0), (ι 3), (ι 2), (ι 2), (ι 3), (ι 0), (ι 0), (ι 8), (ι 22), (ι 9), (ι 0), (ι 0)] true 11), (2, .row [(ι 0), (ι 20), (ι 22), (ι 14), (ι 1), (ι 9), (ι 9), (ι 9)] true 0), (1, .row [(ι 2), (ι 3), (ι 2), (ι 2), (ι 1), (ι 2), (ι 3), (ι 3)] true 0)], val := (.tuple ⟨[(.agg ⟨[(ι 2), (ι 2)]⟩), (.bool true)]⟩), next' := 1204, objs' := [] }
def e12 : Entry :=
  { next := 4617, f := 110, args := [(.agg ⟨[(ι 3), (ι 3), (.slice (some ⟨4351, 0, none⟩) 4 4), (ι 7), (ι 8), (.slice (some ⟨4352, 0, none⟩) 2 2), (.slice none 0 0), (.slice (some ⟨4614, 0, none⟩) 24 4611686018427387904)]⟩), (ι 0)], objs := [(4614, .row [(ι 2), (ι 2), (ι 1), (ι 3), (ι 0), (ι 0), (ι 7), (ι 20), (ι 9), (ι 0), (ι 0), (ι 2), (ι 2), (ι 1), (ι 3), (ι 0), (ι 0), (ι 7), (ι 21), (ι 9), (ι 0), (ι 0), (ι 2), (ι 2), (ι 1), (ι 3), (ι 0), (ι 0), (ι 7), (ι 22), (ι 9), (ι 0), (ι 0), (ι 2), (ι 2), (ι 1), (ι 3), (ι 0), (ι 0), (ι 8), (ι 20), (ι 9), (ι 0), (ι 0), (ι 2), (ι 2), (ι 1), (ι 3), (ι 0), (ι 0), (ι 8), (ι 21), (ι 9), (ι 0), (ι 0), (ι 2), (ι 2), (ι 1), (ι 3), (ι 0), (ι 0), (ι 8), (ι 22), (ι 9), (ι 0), (ι 0), (ι 2), (ι 2), (ι 2), (ι 3), (ι 0), (ι 0), (ι 7), (ι 20), (ι 9), (ι 0), (ι 0), (ι 2), (ι 2), (ι 2), (ι 3), (ι 0), (ι 0), (ι 7), (ι 21), (ι 9), (ι 0), (ι 0), (ι 2), (ι 2), (ι 2), (ι 3), (ι 0), (ι 0), (ι 7), (ι 22), (ι 9), (ι 0), (ι 0), (ι 2), (ι 2), (ι 2), (ι 3), (ι 0), (ι 0), (ι 8), (ι 20), (ι 9), (ι 0), (ι 0), (ι 2), (ι 2), (ι 2), (ι 3), (ι 0), (ι 0), (ι 8), (ι 21), (ι 9), (ι 0), (ι 0), (ι 2), (ι 2), (ι 2), (ι 3), (ι 0), (ι 0), (ι 8), (ι 22), (ι 9), (ι 0), (ι 0), (ι 3), (ι 2), (ι 1), (ι 3), (ι 0), (ι 0), (ι 7), (ι 20), (ι 9), (ι 0), (ι 0), (ι 3), (ι 2), (ι 1), (ι 3), (ι 0), (ι 0), (ι 7), (ι 21), (ι 9), (ι 0), (ι 0), (ι 3), (ι 2), (ι 1), (ι 3), (ι 0), (ι 0), (ι 7), (ι 22), (ι 9), (ι 0), (ι 0), (ι 3), (ι 2), (ι 1), (ι 3), (ι 0), (ι 0), (ι 8), (ι 20), (ι 9), (ι 0), (ι 0), (ι 3), (ι 2), (ι 1), (ι 3), (ι 0), (ι 0), (ι 8), (ι 21), (ι 9), (ι 0), (ι 0), (ι 3), (ι 2), (ι 1), (ι 3), (ι 0), (ι 0), (ι 8), (ι 22), (ι 9), (ι 0), (ι 0), (ι 3), (ι 2), (ι 2), (ι 3), (ι 0), (ι 0), (ι 7), (ι 20), (ι 9), (ι 0), (ι 0), (ι 3), (ι 2), (ι 2), (ι 3), (ι 0), (ι 0), (ι 7), (ι 21), (ι 9), (ι 0), (ι 0), (ι 3), (ι 2), (ι 2), (ι 3), (ι 0), (ι 0), (ι 7), (ι 22), (ι 9), (ι 0), (ι 0), (ι 3), (ι 2), (ι 2), (ι 3), (ι 0), (ι 0), (ι 8), (ι 20), (ι 9), (ι 0), (ι 0), (ι 3), (ι 2), (ι 2), (ι 3), (ι 0), (ι 0), (ι 8), (ι 21), (ι 9), (ι 0), (ι 0), (ι 3), (ι 2), (ι 2), (ι 3), (ι 0), (ι 0), (ι 8), (ι 22), (ι 9), (ι 0), (ι 0)] true 11), (4352, .row [(ι 0), (ι 20), (ι 22), (ι 14), (ι 1), (ι 9), (ι 9), (ι 9)] true 0), (4351, .row [(ι 2), (ι 3), (ι 2), (ι 2), (ι 1), (ι 2), (ι 3), (ι 3)] true 0)], val := (.tuple ⟨[(.agg ⟨[(ι 2), (ι 2)]⟩), (.bool true)]⟩), next' := 5553, objs' := [] }
def e13 : Entry :=
  { next := 17564, f := 48, args := [(.agg ⟨[(ι 3), (ι 3), (.slice (some ⟨17560, 0, none⟩) 4 4), (ι 7), (ι 8), (.slice (some ⟨17561, 0, none⟩) 2 2), (.slice none 0 0), (ι 0), (ι 5), (.slice (some ⟨17563, 0, none⟩) 2 2)]⟩)], objs := [(17563, .row [(ι 2), (ι 1), (ι 2), (ι 1), (ι 2), (ι 2)] true 0), (17561, .row [(ι 0), (ι 20), (ι 22), (ι 14), (ι 1), (ι 9), (ι 9), (ι 9)] true 0), (17560, .row [(ι 2), (ι 3), (ι 2), (ι 2), (ι 1), (ι 2), (ι 3), (ι 3)] true 0)], val := (.tuple ⟨[(ι 3), (ι 0)]⟩), next' := 22434, objs' := [] }
def tab0 : List Entry := []
def tab1 : List Entry := e0 :: tab0
def tab2 : List Entry := e1 :: tab1
def tab3 : List Entry := e2 :: tab2
def tab4 : List Entry := e3 :: tab3
def tab5 : List Entry := e4 :: tab4
def tab6 : List Entry := e5 :: tab5
def tab7 : List Entry := e6 :: tab6
def tab8 : List Entry := e7 :: tab7
def tab9 : List Entry := e8 :: tab8
def tab10 : List Entry := e9 :: tab9
def tab11 : List Entry := e10 :: tab10
def tab12 : List Entry := e11 :: tab11
def tab13 : List Entry := e12 :: tab12
def tab14 : List Entry := e13 :: tab13
end Go.Vm.GgAwake

namespace Go.Vm.GgAwake
open Go.Proofs
set_option maxRecDepth 100000
def isTrue (x : Option (Value × AHeap)) : Bool := match x with
  | some (.bool true, _) => true
  | _ => false
theorem main_ok : isTrue (acallR Tryz.prog quiet tab14 1000 (.func (.func 23) #[] #[]) [] AHeap.empty) = true := by kernel_rfl
end Go.Vm.GgAwake
