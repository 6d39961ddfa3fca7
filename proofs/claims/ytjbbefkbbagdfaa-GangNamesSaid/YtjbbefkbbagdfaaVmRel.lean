/- A text of the proofs of this seat: an evaluator of the model's code, its soundness, and what it has run. -/
import Derived.Test.YtjbbefkbbagdfaaVmHeap
import Derived.Laws.CopyRow
namespace Go.Vm

def AObj.writable : AObj → Bool
  | .row _ rw _ => rw
  | _ => true

/-- the record of a range over a function, as it lies -/
def loopObj (φ : Emb) (fn : FuncId) (tm : Array Value) (l : ALoop) : Obj :=
  .loop { state := l.state, pending := l.pending, fn := fn, tmps := tm, params := l.params, assign := l.assign, body := l.body, defers := (φ.at_ l.defers).block }

def ORel (φ : Emb) (n : Nat) (w : World) (i : Nat) : AObj → Prop
  | .row cs rw g => ∃ c e fz, w.heap[(φ.at_ i).block]? = some (.cells c e fz) ∧
      (∀ k v, cs[k]? = some v → okV φ n v ∧ oneCell v = true ∧ w.cell? ((φ.at_ i).add k) = some (mapV φ v)) ∧
      (rw = true → φ.at_ i = ⟨(φ.at_ i).block, 0, none⟩ ∧ fz = (0, 0) ∧ cs.length ≤ c.size ∧ (g ≠ 0 → cs.length ≤ φ.cap i * g ∧ φ.cap i * g ≤ c.size))
  | .map es c => w.heap[(φ.at_ i).block]? = some (.map es c) ∧ ∀ e ∈ es.toList, plainV e.key = true ∧ plainV e.val = true
  | .loop l => ∃ fn tm, w.heap[(φ.at_ i).block]? = some (loopObj φ fn tm l) ∧ SRel φ n l.tmps tm ∧ l.defers < n
  | .deferred => w.heap[(φ.at_ i).block]? = some (.deferred (some []))

structure HRel (φ : Emb) (h : AHeap) (w : World) : Prop where
  live : ∀ i o, h.get i = some o → ORel φ h.next w i o
  apart : ∀ i j o o', h.get i = some o → h.get j = some o' → i ≠ j → o.writable = true → (φ.at_ i).block ≠ (φ.at_ j).block
  bound : h.next ≤ far
  fresh : ∀ i, h.next ≤ i → h.t.get i = none

theorem fresh_with {h : AHeap} (hf : ∀ i, h.next ≤ i → h.t.get i = none) (hb : h.next ≤ far) {i : Nat} (hi : i < h.next) (o : Option AObj) : ∀ j, (h.with i o).next ≤ j → (h.with i o).t.get j = none := by
  intro j hj
  have hj' : h.next ≤ j := hj
  show (h.t.set 40 i o).get j = none
  rw [Trie.get_set _ _ _ _ _ (by unfold far at hb; omega), if_neg (by omega)]
  exact hf j hj'
theorem fresh_more {h : AHeap} (hf : ∀ i, h.next ≤ i → h.t.get i = none) (hb : h.next < far) (o : Option AObj) : ∀ j, (h.more o).next ≤ j → (h.more o).t.get j = none := by
  intro j hj
  have hj' : h.next + 1 ≤ j := hj
  show (h.t.set 40 h.next o).get j = none
  rw [Trie.get_set _ _ _ _ _ (by unfold far at hb; omega), if_neg (by omega)]
  exact hf j (by omega)

/-- the blocks that may be written -/
def Wr (φ : Emb) (h : AHeap) (b : Nat) : Prop := ∃ i o, h.get i = some o ∧ h.floor ≤ i ∧ o.writable = true ∧ (φ.at_ i).block = b

structure Ext (φ : Emb) (h : AHeap) (w : World) (φ' : Emb) (h' : AHeap) (w' : World) : Prop where
  agree : Agree h.next φ φ'
  next : h.next ≤ h'.next
  size : w.heap.size ≤ w'.heap.size
  frame : ∀ b, b < w.heap.size → ¬ Wr φ h b → w'.heap[b]? = w.heap[b]?
  wr : ∀ b, Wr φ' h' b → w.heap.size ≤ b ∨ Wr φ h b
  floor : h'.floor = h.floor
  same : w'.os = w.os ∧ w'.output = w.output
  live : ∀ j o, h'.get j = some o → w.heap.size ≤ (φ'.at_ j).block ∨ ∃ i o', h.get i = some o' ∧ (φ.at_ i).block = (φ'.at_ j).block

theorem Ext.refl (φ : Emb) (h : AHeap) (w : World) : Ext φ h w φ h w :=
  ⟨Agree.refl _ _, Nat.le_refl _, Nat.le_refl _, fun _ _ _ => rfl, fun _ h => .inr h, rfl, ⟨rfl, rfl⟩, fun j o h => .inr ⟨j, o, h, rfl⟩⟩
theorem Ext.trans {φ φ' φ'' : Emb} {h h' h'' : AHeap} {w w' w'' : World} (a : Ext φ h w φ' h' w') (b : Ext φ' h' w' φ'' h'' w'') : Ext φ h w φ'' h'' w'' where
  agree := a.agree.trans b.agree a.next
  next := Nat.le_trans a.next b.next
  size := Nat.le_trans a.size b.size
  frame := fun k hk hn => by
    rw [b.frame k (Nat.lt_of_lt_of_le hk a.size) (fun hw => (a.wr k hw).elim (fun h => by omega) hn), a.frame k hk hn]
  wr := fun k hk => (b.wr k hk).elim (fun h => .inl (Nat.le_trans a.size h)) (a.wr k)
  floor := b.floor.trans a.floor
  same := ⟨b.same.1.trans a.same.1, b.same.2.trans a.same.2⟩
  live := fun j o hj => by
    rcases b.live j o hj with h | ⟨i, o', hi, e⟩
    · exact .inl (Nat.le_trans a.size h)
    · rcases a.live i o' hi with h | ⟨k, o2, hk, e'⟩
      · exact .inl (by rw [← e]; exact h)
      · exact .inr ⟨k, o2, hk, e'.trans e⟩

theorem cell?_of_block {w w' : World} {a : Addr} (h : w'.heap[a.block]? = w.heap[a.block]?) : w'.cell? a = w.cell? a := by
  unfold World.cell?; rw [h]
theorem add_block (a : Addr) (k : Nat) : (a.add k).block = a.block := by unfold Addr.add; split <;> rfl

theorem ORel.same {φ : Emb} {n : Nat} {w w' : World} {i : Nat} {o : AObj} (h : ORel φ n w i o) (hs : w'.heap[(φ.at_ i).block]? = w.heap[(φ.at_ i).block]?) : ORel φ n w' i o := by
  cases o with
  | row cs rw g =>
    obtain ⟨c, e, fz, h1, h2, h3⟩ := h
    exact ⟨c, e, fz, hs.trans h1, fun k v hk => ⟨(h2 k v hk).1, (h2 k v hk).2.1, (cell?_of_block (by rw [add_block]; exact hs)).trans (h2 k v hk).2.2⟩, h3⟩
  | map es c => exact ⟨hs.trans h.1, h.2⟩
  | loop l =>
    obtain ⟨fn, tm, h1, h2⟩ := h
    exact ⟨fn, tm, hs.trans h1, h2⟩
  | deferred => exact hs.trans h

theorem ORel.agree {φ φ' : Emb} {n n' : Nat} {w : World} {i : Nat} {o : AObj} (h : ORel φ n w i o) (ha : Agree n φ φ') (hn : n ≤ n') (hi : i < n) : ORel φ' n' w i o := by
  have hai := (ha i hi).1
  have hci := (ha i hi).2
  cases o with
  | row cs rw g =>
    obtain ⟨c, e, fz, h1, h2, h3⟩ := h
    refine ⟨c, e, fz, by rw [hai]; exact h1, fun k v hk => ?_, by rw [hai, hci]; exact h3⟩
    obtain ⟨k1, k2, k3⟩ := h2 k v hk
    obtain ⟨e1, e2⟩ := mapV_agree ha hn v k1
    exact ⟨e2, k2, by rw [hai, e1]; exact k3⟩
  | map es c =>
    exact ⟨by rw [hai]; exact h.1, h.2⟩
  | loop l =>
    obtain ⟨fn, tm, h1, h2, h3⟩ := h
    refine ⟨fn, tm, ?_, h2.agree ha hn, by omega⟩
    rw [hai, h1]; unfold loopObj; rw [(ha _ h3).1]
  | deferred => show _ = _; rw [hai]; exact h

theorem ORel.lt {φ : Emb} {n : Nat} {w : World} {i : Nat} {o : AObj} (h : ORel φ n w i o) : (φ.at_ i).block < w.heap.size := by
  have : ∃ x, w.heap[(φ.at_ i).block]? = some x := by
    cases o with
    | row cs rw g => obtain ⟨c, e, fz, h1, _⟩ := h; exact ⟨_, h1⟩
    | map es c => exact ⟨_, h.1⟩
    | loop l => obtain ⟨fn, tm, h1, _⟩ := h; exact ⟨_, h1⟩
    | deferred => exact ⟨_, h⟩
  obtain ⟨x, hx⟩ := this
  exact (Array.getElem?_eq_some_iff.1 hx).1

def Emb.put (φ : Emb) (i : Nat) (a : Addr) (c : Nat) : Emb := ⟨fun j => if j = i then a else φ.at_ j, fun j => if j = i then c else φ.cap j⟩
theorem Emb.put_agree (φ : Emb) (n : Nat) (a : Addr) (c : Nat) : Agree n φ (φ.put n a c) := fun i hi => by
  have : i ≠ n := by omega
  simp [Emb.put, this]
@[simp] theorem Emb.put_at (φ : Emb) (n : Nat) (a : Addr) (c : Nat) : (φ.put n a c).at_ n = a := by simp [Emb.put]
@[simp] theorem Emb.put_cap (φ : Emb) (n : Nat) (a : Addr) (c : Nat) : (φ.put n a c).cap n = c := by simp [Emb.put]

/-- one number more, for what lies at an address that no other live thing lies at -/
theorem HRel.placeH {φ : Emb} {h : AHeap} {w w' : World} (H : HRel φ h w) (hf : h.next < far) (o : Option AObj) (a : Addr) (c : Nat)
    (hk : ∀ b, b < w.heap.size → w'.heap[b]? = w.heap[b]?)
    (ho : ∀ o', o = some o' → ORel (φ.put h.next a c) (h.next + 1) w' h.next o')
    (hap : ∀ o', o = some o' → ∀ j oj, h.get j = some oj → (φ.at_ j).block ≠ a.block) :
    HRel (φ.put h.next a c) (h.more o) w' := by
  have ha := φ.put_agree h.next a c
  have hblk : ∀ i o', h.get i = some o' → ((φ.put h.next a c).at_ i).block = (φ.at_ i).block := fun i o' hi => by rw [(ha i (AHeap.lt_of_get hi)).1]
  refine ⟨?_, ?_, hf, fresh_more H.fresh hf o⟩
  · intro i o' hi
    rw [AHeap.get_more hf] at hi
    by_cases hn : h.next = i
    · subst hn
      simp only [if_true] at hi
      exact ho o' hi
    · simp only [hn, if_false] at hi
      have h1 := H.live i o' hi
      exact (h1.same (hk _ h1.lt)).agree ha (Nat.le_succ _) (AHeap.lt_of_get hi)
  · intro i j o1 o2 hi hj hne hw
    rw [AHeap.get_more hf] at hi hj
    by_cases hn : h.next = i
    · subst hn
      simp only [if_true] at hi
      simp only [hne, if_false] at hj
      rw [hblk j o2 hj, Emb.put_at]
      exact (hap o1 hi j o2 hj).symm
    · simp only [hn, if_false] at hi
      by_cases hm : h.next = j
      · subst hm
        simp only [if_true] at hj
        rw [hblk i o1 hi, Emb.put_at]
        exact hap o2 hj i o1 hi
      · simp only [hm, if_false] at hj
        rw [hblk i o1 hi, hblk j o2 hj]
        exact H.apart i j o1 o2 hi hj hne hw
theorem HRel.place {φ : Emb} {h : AHeap} {w w' : World} (H : HRel φ h w) (hf : h.next < far) (o : Option AObj) (a : Addr) (c : Nat)
    (hs : w.heap.size ≤ w'.heap.size) (hk : ∀ b, b < w.heap.size → w'.heap[b]? = w.heap[b]?)
    (ho : ∀ o', o = some o' → ORel (φ.put h.next a c) (h.next + 1) w' h.next o')
    (hap : ∀ o', o = some o' → ∀ j oj, h.get j = some oj → (φ.at_ j).block ≠ a.block) (hwr : ∀ o', o = some o' → w.heap.size ≤ a.block ∨ Wr φ h a.block) (hso : w'.os = w.os ∧ w'.output = w.output := by exact ⟨rfl, rfl⟩) :
    HRel (φ.put h.next a c) (h.more o) w' ∧ Ext φ h w (φ.put h.next a c) (h.more o) w' := by
  have ha := φ.put_agree h.next a c
  have hblk : ∀ i o', h.get i = some o' → ((φ.put h.next a c).at_ i).block = (φ.at_ i).block := fun i o' hi => by rw [(ha i (AHeap.lt_of_get hi)).1]
  refine ⟨H.placeH hf o a c hk ho hap, ⟨ha, Nat.le_succ _, hs, fun b hb _ => hk b hb, ?_, rfl, hso, ?_⟩⟩
  rotate_left
  · intro j oj hj
    rw [AHeap.get_more hf] at hj
    by_cases hn : h.next = j
    · subst hn
      simp only [if_true] at hj
      rw [Emb.put_at]
      rcases hwr oj hj with h | ⟨i, o1, h1, _, _, h2⟩
      · exact .inl h
      · exact .inr ⟨i, o1, h1, h2⟩
    · simp only [hn, if_false] at hj
      exact .inr ⟨j, oj, hj, (hblk j oj hj).symm⟩
  rintro b ⟨i, o1, hi, hfl, hw, hb⟩
  rw [AHeap.get_more hf] at hi
  by_cases hn : h.next = i
  · subst hn
    simp only [if_true] at hi
    rw [Emb.put_at] at hb
    subst hb
    exact hwr o1 hi
  · simp only [hn, if_false] at hi
    right
    exact ⟨i, o1, hi, hfl, hw, by rw [← hb, hblk i o1 hi]⟩

/-- one block more: what it holds must be so in the new world -/
theorem HRel.push {φ : Emb} {h : AHeap} {w : World} (H : HRel φ h w) (hf : h.next < far) (o : AObj) (x : Obj) (c : Nat)
    (ho : ORel (φ.put h.next ⟨w.heap.size, 0, none⟩ c) (h.next + 1) (w.alloc x) h.next o) :
    HRel (φ.put h.next ⟨w.heap.size, 0, none⟩ c) (h.more (some o)) (w.alloc x) ∧ Ext φ h w (φ.put h.next ⟨w.heap.size, 0, none⟩ c) (h.more (some o)) (w.alloc x) := by
  refine H.place hf (some o) _ c (by show w.heap.size ≤ (w.heap.push x).size; simp) (fun b hb => ?_) (fun o' e => by cases e; exact ho) (fun o' _ j oj hj => ?_) (fun _ _ => .inl (Nat.le_refl _))
  · show (w.heap.push x)[b]? = _
    simp [Array.getElem?_push, Nat.ne_of_lt hb]
  · have := (H.live j oj hj).lt
    exact Nat.ne_of_lt this

/-- the worlds' heaps are one -/
theorem HRel.congr {φ : Emb} {h : AHeap} {w w' : World} (H : HRel φ h w) (e : w'.heap = w.heap) : HRel φ h w' :=
  ⟨fun i o hi => (H.live i o hi).same (by rw [e]), H.apart, H.bound, H.fresh⟩
theorem Ext.congr {φ φ' : Emb} {h h' : AHeap} {w w0 w' : World} (H : Ext φ h w0 φ' h' w') (e : w0.heap = w.heap) (hso : w0.os = w.os ∧ w0.output = w.output := by exact ⟨rfl, rfl⟩) : Ext φ h w φ' h' w' :=
  ⟨H.agree, H.next, by rw [← e]; exact H.size, by rw [← e]; exact H.frame, by rw [← e]; exact H.wr, H.floor, ⟨H.same.1.trans hso.1, H.same.2.trans hso.2⟩, by rw [← e]; exact H.live⟩

/-- a block of ours turned: nothing else is -/
theorem HRel.turn {φ : Emb} {h : AHeap} {w w' : World} (H : HRel φ h w) {i : Nat} {o o' : AObj} (hi : h.get i = some o) (hw : o.writable = true) (hfl : h.floor ≤ i)
    (hs : w'.heap.size = w.heap.size) (hk : ∀ b, b ≠ (φ.at_ i).block → w'.heap[b]? = w.heap[b]?) (ho : ORel φ h.next w' i o') (hso : w'.os = w.os ∧ w'.output = w.output := by exact ⟨rfl, rfl⟩) :
    HRel φ (h.with i (some o')) w' ∧ Ext φ h w φ (h.with i (some o')) w' := by
  have hlt := AHeap.lt_of_get hi
  have hget := AHeap.get_with hlt H.bound (some o')
  refine ⟨⟨?_, ?_, H.bound, fresh_with H.fresh H.bound hlt _⟩, ⟨Agree.refl _ _, Nat.le_refl _, by omega, ?_, ?_, rfl, hso, ?_⟩⟩
  rotate_right
  · intro j o1 hj
    rw [hget] at hj
    by_cases hn : i = j
    · subst hn; exact .inr ⟨i, o, hi, rfl⟩
    · simp only [hn, if_false] at hj
      exact .inr ⟨j, o1, hj, rfl⟩
  · intro j o1 hj
    rw [hget] at hj
    by_cases hn : i = j
    · subst hn; simp only [if_true, Option.some.injEq] at hj; subst hj; exact ho
    · simp only [hn, if_false] at hj
      exact (H.live j o1 hj).same (hk _ fun e => H.apart i j o o1 hi hj hn hw e.symm)
  · intro j k o1 o2 hj hk' hne hw1
    rw [hget] at hj hk'
    by_cases hn : i = j
    · subst hn
      simp only [hne, if_false] at hk'
      exact H.apart i k o o2 hi hk' hne hw
    · simp only [hn, if_false] at hj
      by_cases hm : i = k
      · subst hm
        exact fun e => H.apart i j o o1 hi hj hn hw e.symm
      · simp only [hm, if_false] at hk'
        exact H.apart j k o1 o2 hj hk' hne hw1
  · intro b hb hn
    exact hk b fun e => hn ⟨i, o, hi, hfl, hw, e.symm⟩
  · rintro b ⟨j, o1, hj, hfl', hw1, hb⟩
    rw [hget] at hj
    right
    by_cases hn : i = j
    · subst hn; exact ⟨i, o, hi, hfl, hw, hb⟩
    · simp only [hn, if_false] at hj
      exact ⟨j, o1, hj, hfl', hw1, hb⟩

/-- a block that is forgotten -/
theorem HRel.drop {φ : Emb} {h : AHeap} {w w' : World} (H : HRel φ h w) {i : Nat} {o : AObj} (hi : h.get i = some o) (hw : o.writable = true) (hfl : h.floor ≤ i)
    (hs : w'.heap.size = w.heap.size) (hk : ∀ b, b ≠ (φ.at_ i).block → w'.heap[b]? = w.heap[b]?) (hso : w'.os = w.os ∧ w'.output = w.output := by exact ⟨rfl, rfl⟩) :
    HRel φ (h.with i none) w' ∧ Ext φ h w φ (h.with i none) w' := by
  have hlt := AHeap.lt_of_get hi
  have hget := AHeap.get_with hlt H.bound none
  refine ⟨⟨?_, ?_, H.bound, fresh_with H.fresh H.bound hlt _⟩, ⟨Agree.refl _ _, Nat.le_refl _, by omega, ?_, ?_, rfl, hso, ?_⟩⟩
  rotate_right
  · intro j o1 hj
    rw [hget] at hj
    by_cases hn : i = j
    · subst hn; simp at hj
    · simp only [hn, if_false] at hj
      exact .inr ⟨j, o1, hj, rfl⟩
  · intro j o1 hj
    rw [hget] at hj
    by_cases hn : i = j
    · subst hn; simp at hj
    · simp only [hn, if_false] at hj
      exact (H.live j o1 hj).same (hk _ fun e => H.apart i j o o1 hi hj hn hw e.symm)
  · intro j k o1 o2 hj hk' hne hw1
    rw [hget] at hj hk'
    by_cases hn : i = j
    · subst hn; simp at hj
    · by_cases hm : i = k
      · subst hm; simp at hk'
      · simp only [hn, hm, if_false] at hj hk'
        exact H.apart j k o1 o2 hj hk' hne hw1
  · intro b hb hn
    exact hk b fun e => hn ⟨i, o, hi, hfl, hw, e.symm⟩
  · rintro b ⟨j, o1, hj, hfl', hw1, hb⟩
    rw [hget] at hj
    right
    by_cases hn : i = j
    · subst hn; simp at hj
    · simp only [hn, if_false] at hj
      exact ⟨j, o1, hj, hfl', hw1, hb⟩

/-- a block of ours turned, that has another number from now on -/
theorem HRel.move {φ : Emb} {h : AHeap} {w w' : World} (H : HRel φ h w) (hf : h.next < far) {i : Nat} {o : AObj} (hi : h.get i = some o) (hw : o.writable = true) (hfl : h.floor ≤ i) (o' : AObj) (c : Nat)
    (hs : w'.heap.size = w.heap.size) (hk : ∀ b, b ≠ (φ.at_ i).block → w'.heap[b]? = w.heap[b]?)
    (ho : ORel (φ.put h.next (φ.at_ i) c) (h.next + 1) w' h.next o') (hso : w'.os = w.os ∧ w'.output = w.output := by exact ⟨rfl, rfl⟩) :
    HRel (φ.put h.next (φ.at_ i) c) ((h.with i none).more (some o')) w' ∧ Ext φ h w (φ.put h.next (φ.at_ i) c) ((h.with i none).more (some o')) w' := by
  obtain ⟨H1, E1⟩ := H.drop hi hw hfl hs hk hso
  have hlt := AHeap.lt_of_get hi
  have hget := AHeap.get_with hlt H.bound none
  have hne : ∀ j oj, (h.with i none).get j = some oj → i ≠ j ∧ h.get j = some oj := by
    intro j oj hj
    rw [hget] at hj
    by_cases hij : i = j
    · simp [hij] at hj
    · simp only [hij, if_false] at hj
      exact ⟨hij, hj⟩
  have hp := H1.placeH (w' := w') hf (some o') (φ.at_ i) c (fun _ _ => rfl) (fun o2 e => by cases e; exact ho) (fun o2 _ j oj hj => by
    obtain ⟨h1, h2⟩ := hne j oj hj
    exact (H.apart i j o oj hi h2 h1 hw).symm)
  refine ⟨hp, ⟨φ.put_agree _ _ _, Nat.le_succ _, by omega, fun b hb hn => hk b fun e => hn ⟨i, o, hi, hfl, hw, e.symm⟩, ?_, rfl, hso, ?_⟩⟩
  rotate_right
  · intro j oj hj
    have hf' : (h.with i none).next < far := hf
    rw [AHeap.get_more hf'] at hj
    have hnx : (h.with i none).next = h.next := rfl
    by_cases hn : h.next = j
    · subst hn
      rw [Emb.put_at]
      exact .inr ⟨i, o, hi, rfl⟩
    · rw [hnx, if_neg hn] at hj
      obtain ⟨h1, h2⟩ := hne j oj hj
      exact .inr ⟨j, oj, h2, by rw [(φ.put_agree h.next (φ.at_ i) c j (AHeap.lt_of_get h2)).1]⟩
  rintro b ⟨j, oj, hj, hflj, hwj, hb⟩
  right
  have hf' : (h.with i none).next < far := hf
  rw [AHeap.get_more hf'] at hj
  have hnx : (h.with i none).next = h.next := rfl
  by_cases hn : h.next = j
  · subst hn
    rw [Emb.put_at] at hb
    exact ⟨i, o, hi, hfl, hw, hb⟩
  · rw [hnx, if_neg hn] at hj
    obtain ⟨h1, h2⟩ := hne j oj hj
    refine ⟨j, oj, h2, hflj, hwj, ?_⟩
    rw [← hb, (φ.put_agree h.next (φ.at_ i) c j (AHeap.lt_of_get h2)).1]

end Go.Vm
