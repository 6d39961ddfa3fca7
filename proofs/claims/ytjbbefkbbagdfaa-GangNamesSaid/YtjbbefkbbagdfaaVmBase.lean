/- A text of the proofs of this seat: an evaluator of the model's code, its soundness, and what it has run. -/
import Derived.Test.YtjbbefkbbagdfaaVmEval
import Derived.Laws.Sem
import Derived.Laws.Cells
import Derived.ChangeKeysEq
namespace Go.Vm

/-! ### What an abstract block is in the run: where it lies; the capacity of a row that was appended to -/
structure Emb where
  at_ : Nat → Addr
  cap : Nat → Nat

def mapA (φ : Emb) (a : Addr) : Addr := (φ.at_ a.block).add a.off
def mapC (φ : Emb) (b c : Nat) : Nat := if c < unk then c else φ.cap b - (c - unk)
def mapFn (φ : Emb) : Fn → Fn
  | .yield l => .yield (φ.at_ l).block
  | f => f

mutual
def mapV (φ : Emb) : Value → Value
  | .pointer (some a) => .pointer (some (mapA φ a))
  | .slice (some a) n c => .slice (some (mapA φ a)) n (mapC φ a.block c)
  | .map (some r) => .map (some (φ.at_ r).block)
  | .func fn a b => .func (mapFn φ fn) (mapArr φ a) (mapArr φ b)
  | .agg cs => .agg (mapArr φ cs)
  | .tuple cs => .tuple (mapArr φ cs)
  | v => v
def mapArr (φ : Emb) : Array Value → Array Value
  | ⟨l⟩ => ⟨mapL φ l⟩
def mapL (φ : Emb) : List Value → List Value
  | [] => []
  | v :: l => mapV φ v :: mapL φ l
end

theorem mapL_eq (φ : Emb) (l : List Value) : mapL φ l = l.map (mapV φ) := by
  induction l with
  | nil => rw [mapL]; rfl
  | cons v l ih => rw [mapL, ih]; rfl
theorem mapArr_eq (φ : Emb) (a : Array Value) : mapArr φ a = a.map (mapV φ) := by
  obtain ⟨l⟩ := a
  rw [mapArr, mapL_eq]; simp

def okFn (n : Nat) : Fn → Prop
  | .yield l => l < n
  | .func _ => True
  | _ => False

mutual
/-- all addresses lie in blocks below n; a slice is no longer than its capacity -/
def okV (φ : Emb) (n : Nat) : Value → Prop
  | .pointer (some a) => a.block < n ∧ a.spot = none
  | .slice (some a) len c => a.block < n ∧ a.spot = none ∧ len ≤ mapC φ a.block c
  | .slice none len c => len = 0 ∧ c = 0
  | .map (some r) => r < n
  | .chan (some _) => False
  | .iface _ _ => False
  | .func fn a b => okFn n fn ∧ okA φ n a ∧ okA φ n b
  | .agg cs => okA φ n cs
  | .tuple cs => okA φ n cs
  | _ => True
def okA (φ : Emb) (n : Nat) : Array Value → Prop
  | ⟨l⟩ => okL φ n l
def okL (φ : Emb) (n : Nat) : List Value → Prop
  | [] => True
  | v :: l => okV φ n v ∧ okL φ n l
end

theorem okL_iff {φ : Emb} {n : Nat} {l : List Value} : okL φ n l ↔ ∀ v ∈ l, okV φ n v := by
  induction l with
  | nil => rw [okL]; simp
  | cons v l ih => rw [okL, ih]; simp
theorem okA_iff {φ : Emb} {n : Nat} {a : Array Value} : okA φ n a ↔ ∀ v ∈ a.toList, okV φ n v := by
  obtain ⟨l⟩ := a
  rw [okA, okL_iff]

/-- two embeddings that are one below n -/
def Agree (n : Nat) (φ φ' : Emb) : Prop := ∀ i, i < n → φ'.at_ i = φ.at_ i ∧ φ'.cap i = φ.cap i
theorem Agree.refl (n : Nat) (φ : Emb) : Agree n φ φ := fun _ _ => ⟨rfl, rfl⟩
theorem Agree.trans {n n' : Nat} {φ φ' φ'' : Emb} (h : Agree n φ φ') (h' : Agree n' φ' φ'') (hn : n ≤ n') : Agree n φ φ'' :=
  fun i hi => ⟨(h' i (by omega)).1.trans (h i hi).1, (h' i (by omega)).2.trans (h i hi).2⟩
theorem Agree.mono {n m : Nat} {φ φ' : Emb} (h : Agree n φ φ') (hm : m ≤ n) : Agree m φ φ' := fun i hi => h i (by omega)

theorem mapA_agree {φ φ' : Emb} {n : Nat} (h : Agree n φ φ') {a : Addr} (ha : a.block < n) : mapA φ' a = mapA φ a := by
  unfold mapA; rw [(h _ ha).1]
theorem mapC_agree {φ φ' : Emb} {n : Nat} (h : Agree n φ φ') {b c : Nat} (ha : b < n) : mapC φ' b c = mapC φ b c := by
  unfold mapC; rw [(h _ ha).2]

mutual
theorem mapV_agree {φ φ' : Emb} {n n' : Nat} (h : Agree n φ φ') (hn : n ≤ n') : (v : Value) → okV φ n v → mapV φ' v = mapV φ v ∧ okV φ' n' v
  | .pointer (some a), hv => by
    rw [okV] at hv
    refine ⟨?_, ?_⟩
    · rw [mapV, mapV, mapA_agree h hv.1]
    · rw [okV]; exact ⟨by omega, hv.2⟩
  | .slice (some a) len c, hv => by
    rw [okV] at hv
    refine ⟨?_, ?_⟩
    · rw [mapV, mapV, mapA_agree h hv.1, mapC_agree h hv.1]
    · rw [okV, mapC_agree h hv.1]; exact ⟨by omega, hv.2⟩
  | .slice none len c, hv => by
    rw [okV] at hv
    exact ⟨by rw [mapV, mapV] <;> simp, by rw [okV]; exact hv⟩
  | .map (some r), hv => by
    rw [okV] at hv
    refine ⟨by rw [mapV, mapV, (h _ hv).1], by rw [okV]; omega⟩
  | .chan (some _), hv => by rw [okV] at hv; exact hv.elim
  | .iface _ _, hv => by rw [okV] at hv; exact hv.elim
  | .func fn a b, hv => by
    rw [okV] at hv
    obtain ⟨h1, h2, h3⟩ := hv
    obtain ⟨e2, k2⟩ := mapArr_agree h hn a h2
    obtain ⟨e3, k3⟩ := mapArr_agree h hn b h3
    refine ⟨?_, ?_⟩
    · rw [mapV, mapV, e2, e3]
      cases fn with
      | yield l => simp only [mapFn]; rw [(h _ h1).1]
      | _ => rfl
    · rw [okV]
      refine ⟨?_, k2, k3⟩
      cases fn with
      | yield l => exact Nat.lt_of_lt_of_le h1 hn
      | func f => trivial
      | _ => exact h1
  | .agg cs, hv => by
    rw [okV] at hv
    obtain ⟨e, k⟩ := mapArr_agree h hn cs hv
    exact ⟨by rw [mapV, mapV, e], by rw [okV]; exact k⟩
  | .tuple cs, hv => by
    rw [okV] at hv
    obtain ⟨e, k⟩ := mapArr_agree h hn cs hv
    exact ⟨by rw [mapV, mapV, e], by rw [okV]; exact k⟩
  | .bool _, _ => ⟨by rw [mapV, mapV] <;> simp, by rw [okV] <;> simp⟩
  | .int _ _, _ => ⟨by rw [mapV, mapV] <;> simp, by rw [okV] <;> simp⟩
  | .float _ _, _ => ⟨by rw [mapV, mapV] <;> simp, by rw [okV] <;> simp⟩
  | .complex _ _ _, _ => ⟨by rw [mapV, mapV] <;> simp, by rw [okV] <;> simp⟩
  | .string _, _ => ⟨by rw [mapV, mapV] <;> simp, by rw [okV] <;> simp⟩
  | .pointer none, _ => ⟨by rw [mapV, mapV] <;> simp, by rw [okV] <;> simp⟩
  | .map none, _ => ⟨by rw [mapV, mapV] <;> simp, by rw [okV] <;> simp⟩
  | .chan none, _ => ⟨by rw [mapV, mapV] <;> simp, by rw [okV] <;> simp⟩
  | .nilFunc, _ => ⟨by rw [mapV, mapV] <;> simp, by rw [okV] <;> simp⟩
  | .nilIface, _ => ⟨by rw [mapV, mapV] <;> simp, by rw [okV] <;> simp⟩
theorem mapArr_agree {φ φ' : Emb} {n n' : Nat} (h : Agree n φ φ') (hn : n ≤ n') : (a : Array Value) → okA φ n a → mapArr φ' a = mapArr φ a ∧ okA φ' n' a
  | ⟨l⟩, ha => by
    rw [okA] at ha
    obtain ⟨e, k⟩ := mapL_agree h hn l ha
    exact ⟨by rw [mapArr, mapArr, e], by rw [okA]; exact k⟩
theorem mapL_agree {φ φ' : Emb} {n n' : Nat} (h : Agree n φ φ') (hn : n ≤ n') : (l : List Value) → okL φ n l → mapL φ' l = mapL φ l ∧ okL φ' n' l
  | [], _ => ⟨by rw [mapL, mapL], by rw [okL]; trivial⟩
  | v :: l, hl => by
    rw [okL] at hl
    obtain ⟨e1, k1⟩ := mapV_agree h hn v hl.1
    obtain ⟨e2, k2⟩ := mapL_agree h hn l hl.2
    exact ⟨by rw [mapL, mapL, e1, e2], by rw [okL]; exact ⟨k1, k2⟩⟩
end

theorem okV.mono {φ : Emb} {n n' : Nat} {v : Value} (h : okV φ n v) (hn : n ≤ n') : okV φ n' v := (mapV_agree (Agree.refl n φ) hn v h).2

@[simp] theorem mapV_bool {φ : Emb} {b : Bool} : mapV φ (.bool b) = .bool b := by rw [mapV] <;> simp
@[simp] theorem mapV_int {φ : Emb} {k : IntKind} {b : Int} : mapV φ (.int k b) = .int k b := by rw [mapV] <;> simp
@[simp] theorem mapV_string {φ : Emb} {b : ByteArray} : mapV φ (.string b) = .string b := by rw [mapV] <;> simp
@[simp] theorem mapV_pnil {φ : Emb} : mapV φ (.pointer none) = .pointer none := by rw [mapV] <;> simp
@[simp] theorem mapV_snil {φ : Emb} {a b : Nat} : mapV φ (.slice none a b) = .slice none a b := by rw [mapV] <;> simp
@[simp] theorem mapV_mnil {φ : Emb} : mapV φ (.map none) = .map none := by rw [mapV] <;> simp
@[simp] theorem mapV_fnil {φ : Emb} : mapV φ .nilFunc = .nilFunc := by rw [mapV] <;> simp
@[simp] theorem mapV_inil {φ : Emb} : mapV φ .nilIface = .nilIface := by rw [mapV] <;> simp
@[simp] theorem mapV_ptr {φ : Emb} {a : Addr} : mapV φ (.pointer (some a)) = .pointer (some (mapA φ a)) := by rw [mapV]
@[simp] theorem mapV_slice {φ : Emb} {a : Addr} {n c : Nat} : mapV φ (.slice (some a) n c) = .slice (some (mapA φ a)) n (mapC φ a.block c) := by rw [mapV]
@[simp] theorem mapV_map {φ : Emb} {r : Nat} : mapV φ (.map (some r)) = .map (some (φ.at_ r).block) := by rw [mapV]
@[simp] theorem mapV_func {φ : Emb} {fn : Fn} {a b : Array Value} : mapV φ (.func fn a b) = .func (mapFn φ fn) (a.map (mapV φ)) (b.map (mapV φ)) := by rw [mapV, mapArr_eq, mapArr_eq]
@[simp] theorem mapV_agg {φ : Emb} {a : Array Value} : mapV φ (.agg a) = .agg (a.map (mapV φ)) := by rw [mapV, mapArr_eq]
@[simp] theorem mapV_tuple {φ : Emb} {a : Array Value} : mapV φ (.tuple a) = .tuple (a.map (mapV φ)) := by rw [mapV, mapArr_eq]
@[simp] theorem mapV_undef {φ : Emb} : mapV φ undef = undef := by simp [undef]

@[simp] theorem okV_bool {φ : Emb} {n : Nat} {b : Bool} : okV φ n (.bool b) := by rw [okV] <;> simp
@[simp] theorem okV_int {φ : Emb} {n : Nat} {k : IntKind} {b : Int} : okV φ n (.int k b) := by rw [okV] <;> simp
@[simp] theorem okV_string {φ : Emb} {n : Nat} {b : ByteArray} : okV φ n (.string b) := by rw [okV] <;> simp
@[simp] theorem okV_pnil {φ : Emb} {n : Nat} : okV φ n (.pointer none) := by rw [okV] <;> simp
@[simp] theorem okV_mnil {φ : Emb} {n : Nat} : okV φ n (.map none) := by rw [okV] <;> simp
@[simp] theorem okV_fnil {φ : Emb} {n : Nat} : okV φ n .nilFunc := by rw [okV] <;> simp
@[simp] theorem okV_inil {φ : Emb} {n : Nat} : okV φ n .nilIface := by rw [okV] <;> simp
@[simp] theorem okV_snil {φ : Emb} {n a b : Nat} : okV φ n (.slice none a b) ↔ a = 0 ∧ b = 0 := by rw [okV]
@[simp] theorem okV_ptr {φ : Emb} {n : Nat} {a : Addr} : okV φ n (.pointer (some a)) ↔ a.block < n ∧ a.spot = none := by rw [okV]
@[simp] theorem okV_slice {φ : Emb} {n : Nat} {a : Addr} {len c : Nat} : okV φ n (.slice (some a) len c) ↔ a.block < n ∧ a.spot = none ∧ len ≤ mapC φ a.block c := by rw [okV]
@[simp] theorem okV_map {φ : Emb} {n r : Nat} : okV φ n (.map (some r)) ↔ r < n := by rw [okV]
@[simp] theorem okV_func {φ : Emb} {n : Nat} {fn : Fn} {a b : Array Value} : okV φ n (.func fn a b) ↔ okFn n fn ∧ (∀ v ∈ a.toList, okV φ n v) ∧ (∀ v ∈ b.toList, okV φ n v) := by rw [okV, okA_iff, okA_iff]
@[simp] theorem okV_agg {φ : Emb} {n : Nat} {a : Array Value} : okV φ n (.agg a) ↔ ∀ v ∈ a.toList, okV φ n v := by rw [okV, okA_iff]
@[simp] theorem okV_tuple {φ : Emb} {n : Nat} {a : Array Value} : okV φ n (.tuple a) ↔ ∀ v ∈ a.toList, okV φ n v := by rw [okV, okA_iff]
@[simp] theorem okV_undef {φ : Emb} {n : Nat} : okV φ n undef := by simp [undef]

/-! Values that hold no address -/
theorem plainCell_map {φ : Emb} {v : Value} (h : plainCell v = true) : mapV φ v = v := by
  unfold plainCell at h
  split at h <;> first | (simp; done) | (simp [mapFn]; done) | (exact absurd h (by simp))
theorem list_map_id {f : Value → Value} {l : List Value} (h : ∀ v ∈ l, f v = v) : l.map f = l := by
  induction l with
  | nil => rfl
  | cons v l ih => rw [List.map_cons, h v (by simp), ih fun w hw => h w (by simp [hw])]
theorem plainE_map {φ : Emb} {v : Value} (h : plainE v = true) : mapV φ v = v := by
  unfold plainE at h
  split at h
  · rename_i l
    rw [allB_iff] at h
    simp [list_map_id fun v hv => plainCell_map (φ := φ) (h v hv)]
  · exact plainCell_map h
theorem plainV_map {φ : Emb} {v : Value} (h : plainV v = true) : mapV φ v = v := by
  unfold plainV at h
  split at h
  · rename_i l
    rw [allB_iff] at h
    simp [list_map_id fun v hv => plainE_map (φ := φ) (h v hv)]
  · exact plainE_map h
theorem plainCell_ok {φ : Emb} {n : Nat} {v : Value} (h : plainCell v = true) : okV φ n v := by
  have nil : ∀ a b : Nat, (bif Nat.beq a 0 then Nat.beq b 0 else false) = true → a = 0 ∧ b = 0 := by
    intro a b h
    cases ha : Nat.beq a 0 with
    | false => simp [ha] at h
    | true => simp only [ha, cond_true] at h; exact ⟨Nat.eq_of_beq_eq_true ha, Nat.eq_of_beq_eq_true h⟩
  unfold plainCell at h
  split at h
  all_goals first | exact okV_snil.2 (nil _ _ h) | exact absurd h Bool.false_ne_true | simp [okFn]
theorem plainE_ok {φ : Emb} {n : Nat} {v : Value} (h : plainE v = true) : okV φ n v := by
  unfold plainE at h
  split at h
  · rename_i l
    rw [allB_iff] at h
    simp only [okV_agg]
    exact fun v hm => plainCell_ok (h v hm)
  · exact plainCell_ok h
theorem plainV_ok {φ : Emb} {n : Nat} {v : Value} (h : plainV v = true) : okV φ n v := by
  unfold plainV at h
  split at h
  · rename_i l
    rw [allB_iff] at h
    simp only [okV_tuple]
    exact fun v hm => plainE_ok (h v hm)
  · exact plainE_ok h

theorem oneCell_map {φ : Emb} {v : Value} : oneCell (mapV φ v) = oneCell v := by
  cases v with
  | pointer a => cases a <;> simp [oneCell]
  | slice a => cases a <;> simp [oneCell]
  | map a => cases a <;> simp [oneCell]
  | chan a => rw [mapV] <;> simp
  | float => rw [mapV] <;> simp
  | complex => rw [mapV] <;> simp
  | iface => rw [mapV] <;> simp
  | _ => simp [oneCell]
theorem cells_map {φ : Emb} {v : Value} : (mapV φ v).cells = v.cells.map (mapV φ) := by
  cases v with
  | pointer a => cases a <;> simp [Value.cells]
  | slice a => cases a <;> simp [Value.cells]
  | map a => cases a <;> simp [Value.cells]
  | _ => first | (simp [Value.cells]; done) | (rw [mapV] <;> simp [Value.cells, mapV])
theorem cells_ok {φ : Emb} {n : Nat} {v : Value} (h : okV φ n v) : ∀ x ∈ (cellList v), okV φ n x := by
  cases v with
  | agg cs => simpa [cellList, Value.cells] using h
  | _ => first | (simp [cellList, Value.cells]; done) | simpa [cellList, Value.cells] using h
end Go.Vm
