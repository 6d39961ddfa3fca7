/- A text of the proofs of this seat: an evaluator of the model's code, its soundness, and what it has run. -/
import Derived.Test.YtjbbefkbbagdfaaVmBase
namespace Go.Vm

theorem ble_iff {a b : Nat} : Nat.ble a b = true ↔ a ≤ b := by rw [Nat.ble_eq]
theorem blt_iff {a b : Nat} : Nat.blt a b = true ↔ a < b := by unfold Nat.blt; rw [Nat.ble_eq]; exact Iff.rfl
theorem beq_iff {a b : Nat} : Nat.beq a b = true ↔ a = b := by rw [Nat.beq_eq]
theorem blt_false {a b : Nat} (h : ¬ a < b) : Nat.blt a b = false := by
  cases e : Nat.blt a b with
  | false => rfl
  | true => exact absurd (blt_iff.1 e) h

/-! ### The way to a slot -/
theorem beq0_true {n : Nat} (h : n = 0) : Nat.beq n 0 = true := by subst h; rfl
theorem beq0_false {n : Nat} (h : ¬ n = 0) : Nat.beq n 0 = false := by cases n with
  | zero => exact absurd rfl h
  | succ n => rfl

theorem forceWay_eq (l : List Bool) (f : List Bool → FWay) : forceWay l f = f l := by
  induction l generalizing f with
  | nil => rfl
  | cons b l ih => show seqBool b (fun b => forceWay l fun l => f (b :: l)) = _; rw [seqBool_eq, ih]
def unway : List Bool → Nat
  | [] => 0
  | b :: p => 2 * unway p + (if b then 1 else 2)
theorem unway_wayN (f t : Nat) (h : t < f) : unway (wayN f t) = t := by
  induction f generalizing t with
  | zero => omega
  | succ f ih =>
    cases t with
    | zero => rfl
    | succ j =>
      simp only [wayN, unway]
      rw [ih (j / 2) (by omega)]
      by_cases hj : j % 2 = 0
      · simp [hj]; omega
      · have : Nat.beq (j % 2) 0 = false := beq0_false hj
        simp [this]; omega
theorem cway_eq (t : Nat) : (cway t).way = wayN (t + 1) t := by unfold cway; rw [forceWay_eq]
theorem cway_inj {t t' : Nat} (h : (cway t).way = (cway t').way) : t = t' := by
  rw [cway_eq, cway_eq] at h
  rw [← unway_wayN (t + 1) t (by omega), h, unway_wayN (t' + 1) t' (by omega)]

def Slots.get? : List Bool → Slots → Option Value
  | _, .leaf => none
  | [], .node v _ _ => some v
  | true :: p, .node _ l _ => Slots.get? p l
  | false :: p, .node _ _ r => Slots.get? p r
theorem Slots.get_eq (p : List Bool) (s : Slots) : s.get p = (Slots.get? p s).getD undef := by
  induction p generalizing s with
  | nil => cases s <;> rfl
  | cons b p ih => cases s with
    | leaf => cases b <;> rfl
    | node v l r => cases b with
      | true => exact ih l
      | false => exact ih r
theorem Slots.set_leaf (p : List Bool) (v : Value) : Slots.set p .leaf v = .leaf := by cases p <;> rfl
theorem Slots.get?_leaf (p : List Bool) : Slots.get? p .leaf = none := by unfold Slots.get?; rfl
theorem Slots.get?_set (p q : List Bool) (s : Slots) (v : Value) : Slots.get? q (Slots.set p s v) = if q = p then (Slots.get? p s).map fun _ => v else Slots.get? q s := by
  induction p generalizing s q with
  | nil => cases s with
    | leaf => simp [Slots.set_leaf, Slots.get?_leaf]
    | node w l r =>
      show Slots.get? q (.node v l r) = _
      cases q with
      | nil => simp [Slots.get?]
      | cons b q => cases b <;> simp [Slots.get?]
  | cons b p ih => cases s with
    | leaf => simp [Slots.set_leaf, Slots.get?_leaf]
    | node w l r => cases b with
      | true =>
        show Slots.get? q (.node w (Slots.set p l v) r) = _
        cases q with
        | nil => simp [Slots.get?]
        | cons c q => cases c with
          | true => simp [Slots.get?, ih]
          | false => simp [Slots.get?]
      | false =>
        show Slots.get? q (.node w l (Slots.set p r v)) = _
        cases q with
        | nil => simp [Slots.get?]
        | cons c q => cases c with
          | true => simp [Slots.get?]
          | false => simp [Slots.get?, ih]

theorem forceSlots_eq {α : Type} (s : Slots) (f : Slots → α) : forceSlots s f = f s := by
  induction s generalizing f with
  | leaf => rfl
  | node v l r ihl ihr => show forceSlots l (fun l => forceSlots r fun r => f (.node v l r)) = _; rw [ihl, ihr]
theorem get?_skel (f g n t : Nat) (hf : n ≤ f) (hg : t < g) : Slots.get? (wayN g t) (skel f n) = if t < n then some undef else none := by
  induction f generalizing g n t with
  | zero => rw [show n = 0 by omega]; simp [skel, Slots.get?_leaf]
  | succ f ih =>
    cases n with
    | zero => simp [skel, Slots.get?_leaf]
    | succ m =>
      cases g with
      | zero => omega
      | succ g =>
        cases t with
        | zero => simp [skel, wayN, Slots.get?]
        | succ j =>
          simp only [skel, wayN]
          by_cases hj : j % 2 = 0
          · have : Nat.beq (j % 2) 0 = true := beq0_true hj
            simp only [this, Slots.get?]
            rw [ih g _ _ (by omega) (by omega)]
            have : j / 2 < (m + 1) / 2 ↔ j + 1 < m + 1 := by omega
            simp [this]
          · have : Nat.beq (j % 2) 0 = false := beq0_false hj
            simp only [this, Slots.get?]
            rw [ih g _ _ (by omega) (by omega)]
            have : j / 2 < m / 2 ↔ j + 1 < m + 1 := by omega
            simp [this]
theorem get?_cskel (n t : Nat) : Slots.get? (cway t).way (cskel n).slots = if t < n then some undef else none := by
  rw [cway_eq]
  unfold cskel
  rw [forceSlots_eq]
  exact get?_skel n (t + 1) n t (Nat.le_refl _) (by omega)

/-- the slots say what the temporaries hold -/
def SRel (φ : Emb) (n : Nat) (s : Slots) (tm : Array Value) : Prop :=
  ∀ t, tm[t]? = (Slots.get? (cway t).way s).map (mapV φ) ∧ ∀ v, Slots.get? (cway t).way s = some v → okV φ n v

theorem SRel.get {φ : Emb} {n : Nat} {s : Slots} {tm : Array Value} (h : SRel φ n s tm) (t : Nat) : tm.getD t undef = mapV φ (s.get (cway t).way) ∧ okV φ n (s.get (cway t).way) := by
  obtain ⟨h1, h2⟩ := h t
  rw [Slots.get_eq]
  rw [Array.getD_eq_getD_getElem?, h1]
  cases hg : Slots.get? (cway t).way s with
  | none => simp
  | some v => simpa using h2 v hg
theorem SRel.set {φ : Emb} {n : Nat} {s : Slots} {tm : Array Value} (h : SRel φ n s tm) (d : Nat) {v : Value} (hv : okV φ n v) :
    SRel φ n (Slots.set (cway d).way s v) (tm.setIfInBounds d (mapV φ v)) := by
  intro t
  rw [Slots.get?_set]
  by_cases htd : t = d
  · subst htd
    simp only [if_true]
    obtain ⟨h1, h2⟩ := h t
    cases hg : Slots.get? (cway t).way s with
    | none =>
      rw [hg] at h1
      have : tm.size ≤ t := by simpa using h1
      simp [this]
    | some u =>
      rw [hg] at h1
      have : t < tm.size := by
        rcases Nat.lt_or_ge t tm.size with h | h
        · exact h
        · rw [Array.getElem?_eq_none h] at h1; simp at h1
      simp [this, hv]
  · have hne : (cway t).way ≠ (cway d).way := fun e => htd (cway_inj e)
    rw [if_neg hne]
    refine ⟨?_, (h t).2⟩
    rw [← (h t).1, Array.getElem?_setIfInBounds_ne (fun e => htd e.symm)]
theorem SRel.agree {φ φ' : Emb} {n n' : Nat} {s : Slots} {tm : Array Value} (h : SRel φ n s tm) (ha : Agree n φ φ') (hn : n ≤ n') : SRel φ' n' s tm := by
  intro t
  obtain ⟨h1, h2⟩ := h t
  cases hg : Slots.get? (cway t).way s with
  | none => rw [hg] at h1; exact ⟨by simpa using h1, by simp⟩
  | some v =>
    rw [hg] at h1
    obtain ⟨e, k⟩ := mapV_agree ha hn v (h2 v hg)
    refine ⟨by rw [h1]; simp [e], fun u hu => ?_⟩
    cases hu
    exact k

theorem SRel.skel {φ : Emb} {n m : Nat} : SRel φ n (cskel m).slots (Array.replicate m undef) := by
  intro t
  rw [get?_cskel]
  by_cases h : t < m
  · simp [h]
  · simp [h]

theorem fillK_eq {α : Type} (xs : List Value) (i : Nat) (s : Slots) (f : Slots → α) : fillK xs i s f = f (xs.foldl (fun (p : Nat × Slots) x => (p.1 + 1, Slots.set (cway p.1).way p.2 x)) (i, s)).2 := by
  induction xs generalizing i s with
  | nil => rfl
  | cons x xs ih => show Slots.setK (cway i).way s x (fun s => fillK xs (Nat.succ i) s f) = _; rw [Slots.setK_eq, ih]; rfl
theorem foldl_set (l : List Value) : ∀ (i : Nat) (a : Array Value), i + l.length ≤ a.size →
    (l.foldl (fun (p : Nat × Array Value) x => (p.1 + 1, p.2.setIfInBounds p.1 x)) (i, a)).2 = (a.toList.take i ++ (l ++ a.toList.drop (i + l.length))).toArray := by
  induction l with
  | nil => intro i a _; simp
  | cons x l ih =>
    intro i a h
    simp only [List.length_cons] at h
    simp only [List.foldl_cons]
    rw [ih (i + 1) _ (by simp; omega)]
    congr 1
    have hi : i < a.toList.length := by simp; omega
    rw [Array.toList_setIfInBounds, List.take_set, List.drop_set_of_lt (by omega)]
    rw [List.take_succ_eq_append_getElem hi]
    rw [List.set_append_right _ _ (by simp; omega)]
    have hm : min i a.size = i := Nat.min_eq_left (by simp at hi; omega)
    simp [hm, show i + 1 + l.length = i + (l.length + 1) by omega]
theorem SRel.fill {φ : Emb} {n : Nat} (xs : List Value) (hx : ∀ x ∈ xs, okV φ n x) : ∀ (i : Nat) (s : Slots) (a : Array Value), SRel φ n s a →
    SRel φ n (xs.foldl (fun (p : Nat × Slots) x => (p.1 + 1, Slots.set (cway p.1).way p.2 x)) (i, s)).2 ((xs.map (mapV φ)).foldl (fun (p : Nat × Array Value) x => (p.1 + 1, p.2.setIfInBounds p.1 x)) (i, a)).2 := by
  induction xs with
  | nil => intro i s a h; exact h
  | cons x xs ih => intro i s a h; exact ih (fun y hy => hx y (by simp [hy])) (i + 1) _ _ (h.set i (hx x (by simp)))
/-- an activation's first slots -/
theorem SRel.enter {φ : Emb} {n m : Nat} {xs : List Value} (hx : ∀ x ∈ xs, okV φ n x) (hm : xs.length ≤ m) :
    SRel φ n (xs.foldl (fun (p : Nat × Slots) x => (p.1 + 1, Slots.set (cway p.1).way p.2 x)) (0, (cskel m).slots)).2
      ((xs.map (mapV φ)).toArray ++ Array.replicate (m - (xs.map (mapV φ)).toArray.size) undef) := by
  have h := SRel.fill xs hx 0 _ _ (SRel.skel (φ := φ) (n := n) (m := m))
  rw [foldl_set _ _ _ (by simpa using hm)] at h
  have e : ((Array.replicate m undef).toList.take 0 ++ ((xs.map (mapV φ)) ++ (Array.replicate m undef).toList.drop (0 + (xs.map (mapV φ)).length))).toArray
      = ((xs.map (mapV φ)).toArray ++ Array.replicate (m - (xs.map (mapV φ)).toArray.size) undef) := by
    simp
  rwa [e] at h

theorem setAllK_eq {α : Type} (ps : List Tmp) (xs : List Value) (s : Slots) (f : Slots → α) :
    setAllK ps xs s f = f ((ps.zip xs).foldl (fun s (p : Tmp × Value) => Slots.set (cway p.1).way s p.2) s) := by
  induction ps generalizing xs s with
  | nil => rfl
  | cons p ps ih => cases xs with
    | nil => rfl
    | cons x xs => show Slots.setK (cway p).way s x (fun s => setAllK ps xs s f) = _; rw [Slots.setK_eq, ih]; rfl
theorem SRel.setAll {φ : Emb} {n : Nat} : ∀ (ps : List Tmp) (xs : List Value), (∀ x ∈ xs, okV φ n x) → ∀ (s : Slots) (a : Array Value), SRel φ n s a →
    SRel φ n ((ps.zip xs).foldl (fun s (p : Tmp × Value) => Slots.set (cway p.1).way s p.2) s) ((ps.zip (xs.map (mapV φ))).foldl (fun tmps (p : Tmp × Value) => tmps.setIfInBounds p.1 p.2) a) := by
  intro ps
  induction ps with
  | nil => intro xs _ s a h; simpa using h
  | cons p ps ih =>
    intro xs hx s a h
    cases xs with
    | nil => simpa using h
    | cons x xs => exact ih xs (fun y hy => hx y (by simp [hy])) _ _ (h.set p (hx x (by simp)))

/-! ### The tree of blocks -/
theorem Trie.get_leaf (i : Nat) : Trie.leaf.get i = none := rfl
theorem Trie.get_zero (v : Option AObj) (l r : Trie) : (Trie.node v l r).get 0 = v := rfl
theorem Trie.get_succ (v : Option AObj) (l r : Trie) (j : Nat) : (Trie.node v l r).get (j + 1) = bif Nat.beq (j % 2) 0 then l.get (j / 2) else r.get (j / 2) := by
  show (bif Nat.beq (j % 2) 0 then seqNat (j / 2) l.get else seqNat (j / 2) r.get) = _
  rw [seqNat_eq, seqNat_eq]
theorem Trie.get_set (f : Nat) (t : Trie) (i j : Nat) (o : Option AObj) (h : i + 1 < 2 ^ f) : (Trie.set f t i o).get j = if i = j then o else t.get j := by
  induction f generalizing t i j with
  | zero => simp at h
  | succ f ih =>
    have step : ∀ i', i = i' + 1 → i' / 2 + 1 < 2 ^ f := by intro i' e; subst e; rw [Nat.pow_succ] at h; omega
    have node : ∀ v l r, (Trie.set (f + 1) (.node v l r) i o).get j = if i = j then o else (Trie.node v l r).get j := by
      intro v l r
      cases i with
      | zero =>
        show (Trie.node o l r).get j = _
        cases j with
        | zero => simp [Trie.get_zero]
        | succ j => simp [Trie.get_succ]
      | succ i =>
        have hi := step i rfl
        simp only [Trie.set]
        by_cases h2 : i % 2 = 0
        · have e : Nat.beq (i % 2) 0 = true := beq0_true h2
          simp only [e, cond_true]
          cases j with
          | zero => simp [Trie.get_zero]
          | succ j =>
            rw [Trie.get_succ, Trie.get_succ]
            by_cases h3 : j % 2 = 0
            · have e' : Nat.beq (j % 2) 0 = true := beq0_true h3
              simp only [e', cond_true]
              rw [ih l (i / 2) (j / 2) hi]
              have : i / 2 = j / 2 ↔ i + 1 = j + 1 := by omega
              simp [this]
            · have e' : Nat.beq (j % 2) 0 = false := beq0_false h3
              have : i ≠ j := by omega
              simp [e', this]
        · have e : Nat.beq (i % 2) 0 = false := beq0_false h2
          simp only [e, cond_false]
          cases j with
          | zero => simp [Trie.get_zero]
          | succ j =>
            rw [Trie.get_succ, Trie.get_succ]
            by_cases h3 : j % 2 = 0
            · have e' : Nat.beq (j % 2) 0 = true := beq0_true h3
              have : i ≠ j := by omega
              simp [e', this]
            · have e' : Nat.beq (j % 2) 0 = false := beq0_false h3
              simp only [e', cond_false]
              rw [ih r (i / 2) (j / 2) hi]
              have : i / 2 = j / 2 ↔ i + 1 = j + 1 := by omega
              simp [this]
    cases t with
    | node v l r => exact node v l r
    | leaf =>
      have : Trie.set (f + 1) .leaf i o = Trie.set (f + 1) (.node none .leaf .leaf) i o := by
        cases i with
        | zero => rfl
        | succ i => rfl
      rw [this, node]
      by_cases hij : i = j
      · simp [hij]
      · simp only [hij, if_false]
        cases j with
        | zero => rfl
        | succ j => rw [Trie.get_succ]; simp [Trie.get_leaf]

theorem AHeap.get_def (h : AHeap) (i : Nat) : h.get i = if i < h.next then h.t.get i else none := by
  unfold AHeap.get
  by_cases hi : i < h.next
  · simp [hi, blt_iff.2 hi]
  · simp [blt_false hi, hi]
theorem AHeap.lt_of_get {h : AHeap} {i : Nat} {o : AObj} (hg : h.get i = some o) : i < h.next := by
  rw [AHeap.get_def] at hg
  by_cases hi : i < h.next
  · exact hi
  · simp [hi] at hg

/-- the heap with another thing in a block -/
def AHeap.with (h : AHeap) (i : Nat) (o : Option AObj) : AHeap := ⟨h.t.set 40 i o, h.next, h.low, h.floor⟩
theorem AHeap.put_eq {α : Type} (h : AHeap) (i : Nat) (o : Option AObj) (f : AHeap → α) : h.put i o f = f (h.with i o) := by
  obtain ⟨t, nx, lw, fl⟩ := h
  simp [AHeap.put, AHeap.with]
theorem AHeap.get_with {h : AHeap} {i : Nat} (hi : i < h.next) (hf : h.next ≤ far) (o : Option AObj) (j : Nat) : (h.with i o).get j = if i = j then o else h.get j := by
  rw [AHeap.get_def, AHeap.get_def]
  simp only [AHeap.with]
  have hb : i + 1 < 2 ^ 40 := by unfold far at hf; omega
  rw [Trie.get_set _ _ _ _ _ hb]
  by_cases hij : i = j
  · subst hij; simp [hi]
  · simp [hij]
/-- the heap with one block more -/
def AHeap.more (h : AHeap) (o : Option AObj) : AHeap := ⟨h.t.set 40 h.next o, h.next + 1, h.low, h.floor⟩
theorem AHeap.push_eq {β : Type} {h : AHeap} {o : Option AObj} {f : Nat → AHeap → Option β} {r : β} (hp : h.push o f = some r) : h.next < far ∧ f h.next (h.more o) = some r := by
  obtain ⟨t, nx, lw, fl⟩ := h
  unfold AHeap.push at hp
  by_cases hn : nx < far
  · have : Nat.blt nx far = true := blt_iff.2 hn
    simp only [this, cond_true, Trie.setK_eq, seqNat_eq] at hp
    exact ⟨hn, hp⟩
  · have : Nat.blt nx far = false := blt_false hn
    simp [this] at hp
theorem AHeap.get_more {h : AHeap} (hf : h.next < far) (o : Option AObj) (j : Nat) : (h.more o).get j = if h.next = j then o else h.get j := by
  rw [AHeap.get_def, AHeap.get_def]
  simp only [AHeap.more]
  have hb : h.next + 1 < 2 ^ 40 := by unfold far at hf; omega
  rw [Trie.get_set _ _ _ _ _ hb]
  by_cases hij : h.next = j
  · subst hij; simp
  · by_cases hj : j < h.next
    · simp [hij, hj, show j < h.next + 1 by omega]
    · simp [hij, hj, show ¬ j < h.next + 1 by omega]
end Go.Vm
