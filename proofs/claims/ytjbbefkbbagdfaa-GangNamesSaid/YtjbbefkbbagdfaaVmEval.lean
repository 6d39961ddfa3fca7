/- A text of the proofs of this seat: an evaluator of the model's code, its soundness, and what it has run. -/
import Derived.OrdersIn
import Derived.RangeFuncLeaves
import Derived.KernelRfl
import Derived.Runnable
namespace Go.Vm
noncomputable section

/-- 'l.all p' -/
def allB {α : Type} (p : α → Bool) (l : List α) : Bool := List.rec (motive := fun _ => Bool) true (fun x _ ih => bif p x then ih else false) l
theorem allB_nil {α : Type} (p : α → Bool) : allB p [] = true := rfl
theorem allB_cons {α : Type} (p : α → Bool) (x : α) (l : List α) : allB p (x :: l) = (bif p x then allB p l else false) := rfl
theorem allB_iff {α : Type} {p : α → Bool} {l : List α} : allB p l = true ↔ ∀ x ∈ l, p x = true := by
  induction l with
  | nil => simp [allB_nil]
  | cons x l ih => rw [allB_cons]; cases h : p x <;> simp [h, ih]

/-! ### Plain values: those that hold no address -/
def plainCell : Value → Bool
  | .bool _ => true
  | .int _ _ => true
  | .string _ => true
  | .pointer none => true
  | .slice none a b => bif Nat.beq a 0 then Nat.beq b 0 else false
  | .map none => true
  | .nilFunc => true
  | .nilIface => true
  | .func (.func _) ⟨[]⟩ ⟨[]⟩ => true
  | _ => false
def plainE : Value → Bool
  | .agg ⟨l⟩ => allB plainCell l
  | v => plainCell v
def plainV : Value → Bool
  | .tuple ⟨l⟩ => allB plainE l
  | v => plainE v

/-! ### Order of evaluation: each of these is 'f x' (the lemmas '.._eq'); they only make whoever reckons it reckon x first -/
def seqNat {α : Type} (n : Nat) (f : Nat → α) : α :=
  match n with
  | 0 => f 0
  | k + 1 => f (Nat.succ k)
def seqInt {α : Type} (z : Int) (f : Int → α) : α :=
  match z with
  | .ofNat n => seqNat n fun n => f (.ofNat n)
  | .negSucc n => seqNat n fun n => f (.negSucc n)
def seqBool {α : Type} (b : Bool) (f : Bool → α) : α :=
  match b with
  | true => f true
  | false => f false
def seqAddr {α : Type} (a : Addr) (f : Addr → α) : α :=
  match a with
  | ⟨b, o, s⟩ => seqNat b fun b => seqNat o fun o => match s with
    | none => f ⟨b, o, none⟩
    | some s => f ⟨b, o, some s⟩
def seqCell {α : Type} (v : Value) (f : Value → α) : α :=
  match v with
  | .int k z => seqInt z fun z => f (.int k z)
  | .bool b => seqBool b fun b => f (.bool b)
  | .pointer (some a) => seqAddr a fun a => f (.pointer (some a))
  | .slice (some a) n c => seqAddr a fun a => seqNat n fun n => seqNat c fun c => f (.slice (some a) n c)
  | v => f v
def seqCells {α : Type} (l : List Value) : (List Value → α) → α :=
  List.rec (motive := fun _ => (List Value → α) → α) (fun f => f []) (fun v _ ih f => seqCell v fun v => ih fun l => f (v :: l)) l
def seqArr {α : Type} (a : Array Value) (f : Array Value → α) : α :=
  match a with
  | ⟨l⟩ => seqCells l fun l => f ⟨l⟩
def seqE {α : Type} (v : Value) (f : Value → α) : α :=
  match v with
  | .agg cs => seqArr cs fun cs => f (.agg cs)
  | .func fn a b => seqArr a fun a => seqArr b fun b => f (.func fn a b)
  | v => seqCell v f
def seqEs {α : Type} (l : List Value) : (List Value → α) → α :=
  List.rec (motive := fun _ => (List Value → α) → α) (fun f => f []) (fun v _ ih f => seqE v fun v => ih fun l => f (v :: l)) l
def seqV {α : Type} (v : Value) (f : Value → α) : α :=
  match v with
  | .tuple ⟨l⟩ => seqEs l fun l => f (.tuple ⟨l⟩)
  | v => seqE v f

@[simp] theorem seqNat_eq {α : Type} (n : Nat) (f : Nat → α) : seqNat n f = f n := by cases n <;> rfl
@[simp] theorem seqInt_eq {α : Type} (n : Int) (f : Int → α) : seqInt n f = f n := by cases n <;> simp [seqInt]
@[simp] theorem seqBool_eq {α : Type} (n : Bool) (f : Bool → α) : seqBool n f = f n := by cases n <;> rfl
@[simp] theorem seqAddr_eq {α : Type} (n : Addr) (f : Addr → α) : seqAddr n f = f n := by
  obtain ⟨b, o, s⟩ := n
  cases s <;> simp [seqAddr]
@[simp] theorem seqCell_eq {α : Type} (n : Value) (f : Value → α) : seqCell n f = f n := by
  unfold seqCell; split <;> simp
@[simp] theorem seqCells_eq {α : Type} (l : List Value) (f : List Value → α) : seqCells l f = f l := by
  induction l generalizing f with
  | nil => rfl
  | cons v l ih => show seqCell v (fun v => seqCells l fun l => f (v :: l)) = _; rw [seqCell_eq, ih]
@[simp] theorem seqArr_eq {α : Type} (l : Array Value) (f : Array Value → α) : seqArr l f = f l := by
  obtain ⟨l⟩ := l; simp [seqArr]
@[simp] theorem seqE_eq {α : Type} (n : Value) (f : Value → α) : seqE n f = f n := by
  unfold seqE; split <;> simp
@[simp] theorem seqEs_eq {α : Type} (l : List Value) (f : List Value → α) : seqEs l f = f l := by
  induction l generalizing f with
  | nil => rfl
  | cons v l ih => show seqE v (fun v => seqEs l fun l => f (v :: l)) = _; rw [seqE_eq, ih]
@[simp] theorem seqV_eq {α : Type} (n : Value) (f : Value → α) : seqV n f = f n := by
  unfold seqV; split <;> simp

/-! ### The slots of a frame: a tree; below number 0 of a part lie the odd numbers to the left, the even ones to the right -/
inductive Slots where
  | leaf
  | node (v : Value) (l r : Slots)

/-- the way to a number -/
def wayN : Nat → Nat → List Bool
  | 0, _ => []
  | fuel + 1, t =>
    match t with
    | 0 => []
    | j + 1 => (Nat.beq (j % 2) 0) :: wayN fuel (j / 2)
structure FWay where way : List Bool
def forceWay (l : List Bool) : (List Bool → FWay) → FWay :=
  List.rec (motive := fun _ => (List Bool → FWay) → FWay) (fun f => f []) (fun b _ ih f => seqBool b fun b => ih fun l => f (b :: l)) l
def cway (t : Nat) : FWay := forceWay (wayN (t + 1) t) fun l => ⟨l⟩

def Slots.get (p : List Bool) : Slots → Value :=
  List.rec (motive := fun _ => Slots → Value) (fun s => Slots.casesOn (motive := fun _ => Value) s undef (fun v _ _ => v))
    (fun b _ ih s => Slots.casesOn (motive := fun _ => Value) s undef (fun _ l r => Bool.casesOn (motive := fun _ => Value) b (ih r) (ih l))) p
def Slots.setK {α : Type} (p : List Bool) : Slots → Value → (Slots → α) → α :=
  List.rec (motive := fun _ => Slots → Value → (Slots → α) → α)
    (fun s v f => Slots.casesOn (motive := fun _ => α) s (f .leaf) (fun _ l r => f (.node v l r)))
    (fun b _ ih s v f => Slots.casesOn (motive := fun _ => α) s (f .leaf)
      (fun w l r => Bool.casesOn (motive := fun _ => α) b (ih r v fun r => f (.node w l r)) (ih l v fun l => f (.node w l r)))) p
def Slots.set (p : List Bool) : Slots → Value → Slots :=
  List.rec (motive := fun _ => Slots → Value → Slots)
    (fun s v => Slots.casesOn (motive := fun _ => Slots) s .leaf (fun _ l r => .node v l r))
    (fun b _ ih s v => Slots.casesOn (motive := fun _ => Slots) s .leaf
      (fun w l r => Bool.casesOn (motive := fun _ => Slots) b (.node w l (ih r v)) (.node w (ih l v) r))) p
@[simp] theorem Slots.setK_eq {α : Type} (p : List Bool) (s : Slots) (v : Value) (f : Slots → α) : Slots.setK p s v f = f (Slots.set p s v) := by
  induction p generalizing s f with
  | nil => cases s <;> rfl
  | cons b p ih => cases s with
    | leaf => rfl
    | node w l r => cases b with
      | false => exact ih r _
      | true => exact ih l _

/-- a tree with the numbers below n: number i of the whole is number 'base + step * i' -/
def skel : Nat → Nat → Slots
  | 0, _ => .leaf
  | fuel + 1, n =>
    match n with
    | 0 => .leaf
    | m + 1 => .node undef (skel fuel ((m + 1) / 2)) (skel fuel (m / 2))
structure FSlots where slots : Slots
def forceSlots {α : Type} (s : Slots) : (Slots → α) → α :=
  Slots.rec (motive := fun _ => (Slots → α) → α) (fun f => f .leaf) (fun v _ _ ihl ihr f => ihl fun l => ihr fun r => f (.node v l r)) s
def cskel (n : Nat) : FSlots := forceSlots (skel n n) fun s => ⟨s⟩

/-- the arguments, from number i on -/
def fillK {α : Type} (xs : List Value) : Nat → Slots → (Slots → α) → α :=
  List.rec (motive := fun _ => Nat → Slots → (Slots → α) → α) (fun _ s f => f s) (fun x _ ih i s f => Slots.setK (cway i).way s x fun s => ih (Nat.succ i) s f) xs

structure ALoop where
  state : LoopState
  pending : Option Code
  fn : FuncId
  tmps : Slots
  params : Array Tmp
  assign : Code
  body : Code
  defers : Nat

/-! ### Parts of rows -/
def takeK {β : Type} (l : List Value) : Nat → (List Value → Option β) → Option β :=
  List.rec (motive := fun _ => Nat → (List Value → Option β) → Option β)
    (fun n k => Nat.rec (motive := fun _ => Option β) (k []) (fun _ _ => none) n)
    (fun x _ ih n k => Nat.rec (motive := fun _ => Option β) (k []) (fun m _ => ih m fun r => k (x :: r)) n) l
theorem takeK_eq {β : Type} (l : List Value) (n : Nat) (k : List Value → Option β) : takeK l n k = if n ≤ l.length then k (l.take n) else none := by
  induction l generalizing n k with
  | nil => cases n with
    | zero => rw [if_pos (Nat.zero_le _)]; rfl
    | succ n => rw [if_neg (by simp)]; rfl
  | cons x l ih => cases n with
    | zero => rw [if_pos (Nat.zero_le _)]; rfl
    | succ n => show takeK l n (fun r => k (x :: r)) = _; rw [ih]; simp
def dropK {β : Type} (l : List Value) : Nat → (List Value → Option β) → Option β :=
  List.rec (motive := fun _ => Nat → (List Value → Option β) → Option β)
    (fun n k => Nat.rec (motive := fun _ => Option β) (k []) (fun _ _ => none) n)
    (fun x l ih n k => Nat.rec (motive := fun _ => Option β) (k (x :: l)) (fun m _ => ih m k) n) l
theorem dropK_eq {β : Type} (l : List Value) (n : Nat) (k : List Value → Option β) : dropK l n k = if n ≤ l.length then k (l.drop n) else none := by
  induction l generalizing n with
  | nil => cases n with
    | zero => rw [if_pos (Nat.zero_le _)]; rfl
    | succ n => rw [if_neg (by simp)]; rfl
  | cons x l ih => cases n with
    | zero => rw [if_pos (Nat.zero_le _)]; rfl
    | succ n => show dropK l n k = _; rw [ih]; simp
def overK {β : Type} (vs : List Value) : List Value → (List Value → Option β) → Option β :=
  List.rec (motive := fun _ => List Value → (List Value → Option β) → Option β) (fun cs k => k cs)
    (fun v _ ih cs k => List.rec (motive := fun _ => Option β) none (fun _ cs _ => ih cs fun r => k (v :: r)) cs) vs
theorem overK_eq {β : Type} (vs cs : List Value) (k : List Value → Option β) : overK vs cs k = if vs.length ≤ cs.length then k (vs ++ cs.drop vs.length) else none := by
  induction vs generalizing cs k with
  | nil => simp [overK]
  | cons v vs ih => cases cs with
    | nil => simp [overK]
    | cons c cs => show overK vs cs (fun r => k (v :: r)) = _; rw [ih]; simp
def spliceK {β : Type} (vs cs : List Value) : Nat → (List Value → Option β) → Option β :=
  List.rec (motive := fun _ => Nat → (List Value → Option β) → Option β)
    (fun n k => Nat.rec (motive := fun _ => Option β) (overK vs [] k) (fun _ _ => none) n)
    (fun c cs ih n k => Nat.rec (motive := fun _ => Option β) (overK vs (c :: cs) k) (fun m _ => ih m fun r => k (c :: r)) n) cs
def splice (cs : List Value) (off : Nat) (vs : List Value) : List Value := cs.take off ++ (vs ++ cs.drop (off + vs.length))
theorem spliceK_eq {β : Type} (vs cs : List Value) (n : Nat) (k : List Value → Option β) : spliceK vs cs n k = if n + vs.length ≤ cs.length then k (splice cs n vs) else none := by
  induction cs generalizing n k with
  | nil => cases n with
    | zero => show overK vs [] k = _; rw [overK_eq]; simp [splice]
    | succ n => rw [if_neg (by simp)]; rfl
  | cons c cs ih => cases n with
    | zero => show overK vs (c :: cs) k = _; rw [overK_eq]; simp [splice]
    | succ n =>
      show spliceK vs cs n (fun r => k (c :: r)) = _
      rw [ih]
      have : n + 1 + vs.length ≤ (c :: cs).length ↔ n + vs.length ≤ cs.length := by simp; omega
      by_cases h : n + vs.length ≤ cs.length
      · rw [if_pos h, if_pos (this.2 h)]; simp [splice, show n + 1 + vs.length = n + vs.length + 1 by omega]
      · rw [if_neg h, if_neg (fun h' => h (this.1 h'))]
def nthO (l : List Value) : Nat → Option Value :=
  List.rec (motive := fun _ => Nat → Option Value) (fun _ => none) (fun x _ ih n => Nat.rec (motive := fun _ => Option Value) (some x) (fun m _ => ih m) n) l
theorem nthO_eq (l : List Value) (n : Nat) : nthO l n = l[n]? := by
  induction l generalizing n with
  | nil => rfl
  | cons x l ih => cases n with
    | zero => rfl
    | succ n => exact (ih n).trans (by simp)
def app (l r : List Value) : List Value := List.rec (motive := fun _ => List Value) r (fun x _ ih => x :: ih) l
theorem app_eq (l r : List Value) : app l r = l ++ r := by
  induction l with
  | nil => rfl
  | cons x l ih => exact congrArg (x :: ·) ih
def len (l : List Value) : Nat := List.rec (motive := fun _ => Nat) 0 (fun _ _ ih => Nat.succ ih) l
theorem len_eq (l : List Value) : len l = l.length := by
  induction l with
  | nil => rfl
  | cons x l ih => exact congrArg Nat.succ ih
/-! ### The heap -/
inductive AObj where
  | row (cs : List Value) (rw : Bool) (grow : Nat)
  | map (es : Array MapEntry) (clock : Nat)
  | loop (l : ALoop)
  | deferred

inductive Trie where
  | leaf
  | node (v : Option AObj) (l r : Trie)

def Trie.get (t : Trie) : Nat → Option AObj :=
  Trie.rec (motive := fun _ => Nat → Option AObj) (fun _ => none)
    (fun v _ _ ihl ihr i => Nat.rec (motive := fun _ => Option AObj) v (fun j _ => bif Nat.beq (j % 2) 0 then seqNat (j / 2) ihl else seqNat (j / 2) ihr) i) t

def Trie.set : Nat → Trie → Nat → Option AObj → Trie
  | 0, t, _, _ => t
  | fuel + 1, t, i, o =>
    match t with
    | .leaf =>
      match i with
      | 0 => .node o .leaf .leaf
      | j + 1 => bif Nat.beq (j % 2) 0 then .node none (Trie.set fuel .leaf (j / 2) o) .leaf else .node none .leaf (Trie.set fuel .leaf (j / 2) o)
    | .node v l r =>
      match i with
      | 0 => .node o l r
      | j + 1 => bif Nat.beq (j % 2) 0 then .node v (Trie.set fuel l (j / 2) o) r else .node v l (Trie.set fuel r (j / 2) o)

/-- 'f (t.set fuel i o)' -/
def Trie.setK {α : Type} (fuel : Nat) : Trie → Nat → Option AObj → (Trie → α) → α :=
  Nat.rec (motive := fun _ => Trie → Nat → Option AObj → (Trie → α) → α) (fun t _ _ f => f t)
    (fun _ ih t i o f => Trie.casesOn (motive := fun _ => α) t
      (Nat.rec (motive := fun _ => α) (f (.node o .leaf .leaf))
        (fun j _ => bif Nat.beq (j % 2) 0 then seqNat (j / 2) fun q => ih .leaf q o fun l => f (.node none l .leaf) else seqNat (j / 2) fun q => ih .leaf q o fun r => f (.node none .leaf r)) i)
      (fun v l r => Nat.rec (motive := fun _ => α) (f (.node o l r))
        (fun j _ => bif Nat.beq (j % 2) 0 then seqNat (j / 2) fun q => ih l q o fun l => f (.node v l r) else seqNat (j / 2) fun q => ih r q o fun r => f (.node v l r)) i)) fuel

theorem Trie.setK_zero {α : Type} (t : Trie) (i : Nat) (o : Option AObj) (f : Trie → α) : Trie.setK 0 t i o f = f t := rfl
theorem Trie.setK_leaf0 {α : Type} (fuel : Nat) (o : Option AObj) (f : Trie → α) : Trie.setK (fuel + 1) .leaf 0 o f = f (.node o .leaf .leaf) := rfl
theorem Trie.setK_leaf {α : Type} (fuel j : Nat) (o : Option AObj) (f : Trie → α) : Trie.setK (fuel + 1) .leaf (j + 1) o f =
  (bif Nat.beq (j % 2) 0 then seqNat (j / 2) fun q => Trie.setK fuel .leaf q o fun l => f (.node none l .leaf) else seqNat (j / 2) fun q => Trie.setK fuel .leaf q o fun r => f (.node none .leaf r)) := rfl
theorem Trie.setK_node0 {α : Type} (fuel : Nat) (v : Option AObj) (l r : Trie) (o : Option AObj) (f : Trie → α) : Trie.setK (fuel + 1) (.node v l r) 0 o f = f (.node o l r) := rfl
theorem Trie.setK_node {α : Type} (fuel j : Nat) (v : Option AObj) (l r : Trie) (o : Option AObj) (f : Trie → α) : Trie.setK (fuel + 1) (.node v l r) (j + 1) o f =
  (bif Nat.beq (j % 2) 0 then seqNat (j / 2) fun q => Trie.setK fuel l q o fun l => f (.node v l r) else seqNat (j / 2) fun q => Trie.setK fuel r q o fun r => f (.node v l r)) := rfl

@[simp] theorem Trie.setK_eq {α : Type} (fuel : Nat) (t : Trie) (i : Nat) (o : Option AObj) (f : Trie → α) : Trie.setK fuel t i o f = f (Trie.set fuel t i o) := by
  induction fuel generalizing t i f with
  | zero => rfl
  | succ fuel ih =>
    cases t with
    | leaf => cases i with
      | zero => rfl
      | succ j => simp only [Trie.setK_leaf, Trie.set, seqNat_eq, ih]; cases Nat.beq (j % 2) 0 <;> rfl
    | node v l r => cases i with
      | zero => rfl
      | succ j => simp only [Trie.setK_node, Trie.set, seqNat_eq, ih]; cases Nat.beq (j % 2) 0 <;> rfl

structure AHeap where
  t : Trie
  next : Nat
  /-- the least block into which something that is not plain was stored -/
  low : Nat
  /-- no block below this one is written -/
  floor : Nat

def far : Nat := 4294967296
def AHeap.empty : AHeap := { t := .leaf, next := 0, low := far, floor := 0 }
def AHeap.get (h : AHeap) (i : Nat) : Option AObj := bif Nat.blt i h.next then h.t.get i else none
def AHeap.put {α : Type} (h : AHeap) (i : Nat) (o : Option AObj) (f : AHeap → α) : α :=
  match h with
  | ⟨t, nx, lw, fl⟩ => t.setK 40 i o fun t => f ⟨t, nx, lw, fl⟩
def AHeap.push {β : Type} (h : AHeap) (o : Option AObj) (f : Nat → AHeap → Option β) : Option β :=
  match h with
  | ⟨t, nx, lw, fl⟩ => bif Nat.blt nx far then t.setK 40 nx o fun t => seqNat (nx + 1) fun n => f nx ⟨t, n, lw, fl⟩ else none

def unk : Nat := 4611686018427387904

def oneCell : Value → Bool
  | .agg _ => false
  | .tuple _ => false
  | _ => true

def pureRun {α : Type} (P : Program) : Sem α → Option α
  | .pure a => some a
  | .program k => pureRun P (k P)
  | .mark _ k => pureRun P k
  | _ => none

section
variable (P : Program)

def isAggT (t : TypeId) : Bool :=
  match P.underlying t with
  | some (.struct _) => true
  | some (.array _ _) => true
  | _ => false

def sizeT (t : TypeId) : Option Nat := (P.info? t).map (·.size)
def zeroT (t : TypeId) : Option Value := (P.info? t).bind (·.zero)

def loadCell (h : AHeap) : Value → Option Value
  | .pointer (some a) =>
    match h.get a.block with
    | some (.row cs _ _) => nthO cs a.off
    | _ => none
  | _ => none

def loadAgg (n : Nat) (h : AHeap) : Value → Option Value
  | .pointer (some a) =>
    match h.get a.block with
    | some (.row cs _ _) => dropK cs a.off fun r => takeK r n fun l => some (.agg ⟨l⟩)
    | _ => none
  | _ => none

structure FLoad where run : AHeap → Value → Option Value
def cload (t : TypeId) : FLoad :=
  match P.underlying t with
  | none => ⟨fun _ _ => none⟩
  | some _ =>
    bif isAggT P t then
      match sizeT P t with
      | some n => ⟨loadAgg n⟩
      | none => ⟨fun _ _ => none⟩
    else ⟨loadCell⟩

def lowOf (h : AHeap) (b : Nat) (vs : List Value) : Nat := bif allB plainCell vs then h.low else min h.low b

def storeRow (h : AHeap) (b off : Nat) (vs : List Value) : Option AHeap :=
  match h.get b with
  | some (.row cs true g) =>
    bif Nat.ble h.floor b && allB oneCell vs then
      spliceK vs cs off fun cs => seqNat (lowOf h b vs) fun low =>
        match h with
        | ⟨t, nx, _, fl⟩ => t.setK 40 b (some (.row cs true g)) fun t => some ⟨t, nx, low, fl⟩
    else none
  | _ => none

def cellList (v : Value) : List Value := v.cells.toList

def storeN (n : Nat) (h : AHeap) (p v : Value) : Option (Value × AHeap) :=
  match p with
  | .pointer (some a) =>
    let l := cellList v
    bif Nat.beq (len l) n then
      match storeRow h a.block a.off l with
      | some h => some (undef, h)
      | none => none
    else none
  | _ => none

def newRowA (h : AHeap) (cs : List Value) : Option (Value × AHeap) :=
  bif allB oneCell cs then
    seqCells cs fun cs => h.push (some (.row cs true 0)) fun i h => some (.pointer (some ⟨i, 0, none⟩), h)
  else none

def newSlice (h : AHeap) (cs : List Value) (n cap grow : Nat) : Option (Value × AHeap) :=
  bif allB oneCell cs then
    seqCells cs fun cs => h.push (some (.row cs true grow)) fun i h => some (.slice (some ⟨i, 0, none⟩) n cap, h)
  else none

def elemT (t : TypeId) : Option TypeId :=
  match P.underlying t with
  | some (.slice e) => some e
  | _ => none

def repl (zero : List Value) : Nat → List Value
  | 0 => []
  | n + 1 => zero ++ repl zero n

def ltI : Int → Int → Bool
  | .ofNat a, .ofNat b => Nat.blt a b
  | a, b => decide (a < b)
def eqI : Int → Int → Bool
  | .ofNat a, .ofNat b => Nat.beq a b
  | a, b => decide (a = b)
def wrapF : IntKind → Int → Int
  | .i64, .ofNat n => bif Nat.blt n 9223372036854775808 then .ofNat n else IntKind.wrap .i64 (.ofNat n)
  | k, z => k.wrap z
def sameK : IntKind → IntKind → Bool
  | .i64, .i64 => true
  | k, k' => decide (k = k')

/-- the place number n of a row of so many elements of size s -/
def placeAt (a : Addr) (n : Int) (len s : Nat) : Option Value :=
  match n with
  | .ofNat i => bif Nat.blt i len then some (.pointer (some ⟨a.block, a.off + i * s, none⟩)) else none
  | _ => none

def indexArr (len s : Nat) (x i : Value) : Option Value :=
  match x, i with
  | .pointer (some a), .int _ n => placeAt a n len s
  | _, _ => none
def indexSl (s : Nat) (x i : Value) : Option Value :=
  match x, i with
  | .slice (some a) len _, .int _ n => placeAt a n len s
  | _, _ => none

structure FTwo where run : Value → Value → Option Value
def cindexAddr (t : TypeId) : FTwo :=
  match P.underlying t with
  | some (.array len e) => match sizeT P e with
    | some s => ⟨indexArr len s⟩
    | none => ⟨fun _ _ => none⟩
  | some (.slice e) => match sizeT P e with
    | some s => ⟨indexSl s⟩
    | none => ⟨fun _ _ => none⟩
  | _ => ⟨fun _ _ => none⟩

def fieldAt (off : Nat) : Value → Option Value
  | .pointer (some a) => some (.pointer (some ⟨a.block, a.off + off, none⟩))
  | _ => none

structure FOne where run : Value → Option Value
def cfieldAddr (s : TypeId) (f : Nat) : FOne :=
  match P.underlying s with
  | some (.struct fs) =>
    match fs[f]? with
    | some fd =>
      match sizeT P fd.type with
      | some n => bif Nat.beq n 0 then ⟨fun _ => none⟩ else ⟨fieldAt fd.offset⟩
      | none => ⟨fun _ => none⟩
    | none => ⟨fun _ => none⟩
  | _ => ⟨fun _ => none⟩

def boundA (d : Nat) : Option Value → Option Nat
  | none => some d
  | some (.int _ (.ofNat n)) => some n
  | _ => none

def addrPlus (a : Option Addr) (n : Nat) : Option Addr :=
  match a with
  | some a => some ⟨a.block, a.off + n, none⟩
  | none => none

/-- 'x[lo:hi:max]' of a slice whose elements have so many cells -/
def sliceA (s : Nat) (hasHi : Bool) (h0 : AHeap) (x : Value) (lo hi mx : Option Value) : Option (Value × AHeap) :=
  match x with
  | .slice a len cap =>
    match boundA 0 lo, boundA len hi with
    | some l, some h =>
      bif Nat.ble l h && Nat.ble h len then
        match mx with
        | some m =>
          match boundA 0 (some m) with
          | some m => bif Nat.ble h m && Nat.ble m len && Nat.blt m unk && hasHi then some (.slice (bif Nat.beq m l then a else addrPlus a (l * s)) (h - l) (m - l), h0) else none
          | none => none
        | none =>
          bif Nat.blt cap unk then some (.slice (bif Nat.beq cap l then a else addrPlus a (l * s)) (h - l) (cap - l), h0)
          else bif Nat.beq l 0 then some (.slice a h cap, h0)
          else bif Nat.blt l h then some (.slice (addrPlus a (l * s)) (h - l) (cap + l), h0)
          else h0.push none fun i h0 => some (.slice (some ⟨i, 0, none⟩) 0 unk, h0)
      else none
    | _, _ => none
  | _ => none

/-- the cells of what a slice holds -/
def cellsOfSlice (h : AHeap) (s : Nat) : Value → Option (List Value)
  | .slice none _ _ => some []
  | .slice (some a) n _ =>
    bif Nat.beq n 0 then some [] else
    match h.get a.block with
    | some (.row cs _ _) => dropK cs a.off fun r => takeK r (n * s) fun l => some l
    | _ => none
  | _ => none

def maxBytes : Nat := 1099511627776

/-- 'append' where there is room -/
def appendRoom (s : Nat) (h : AHeap) (a : Option Addr) (len cap m : Nat) (new : List Value) : Option (Value × AHeap) :=
  bif Nat.beq m 0 then some (.slice a len cap, h) else
  match a with
  | none => none
  | some ad =>
    match storeRow h ad.block (ad.off + len * s) new with
    | some h' => some (.slice (some ad) (len + m) cap, h')
    | none => none

/-- 'append' where there is none, or where there may be -/
def appendGrow (s : Nat) (h : AHeap) (a : Option Addr) (len cap m : Nat) (new : List Value) : Option (Value × AHeap) :=
  match cellsOfSlice h s (.slice a len cap) with
  | none => none
  | some old =>
    bif Nat.blt cap unk then newSlice h (app old new) (len + m) unk s
    else
      match a with
      | none => none
      | some ad =>
        match h.get ad.block with
        | some (.row cs true g) =>
          bif Nat.beq ad.off 0 && Nat.beq g s && Nat.beq (len * s) (Go.Vm.len cs) && Nat.ble h.floor ad.block && Nat.beq cap unk then
            h.put ad.block none fun h => newSlice h (app old new) (len + m) unk s
          else bif Nat.beq ad.off 0 && Nat.beq g s && Nat.ble ((len + m) * s) (Go.Vm.len cs) && Nat.beq cap unk then
            match storeRow h ad.block (len * s) new with
            | some h' => some (.slice (some ad) (len + m) cap, h')
            | none => none
          else none
        | _ => none

def appendA (s bytes : Nat) (h : AHeap) (x y : Value) : Option (Value × AHeap) :=
  match x, y with
  | .slice a len cap, .slice b m c =>
    match cellsOfSlice h s (.slice b m c) with
    | some new =>
      bif Nat.ble ((len + m) * bytes) maxBytes && Nat.ble (len + m) maxBytes && Nat.beq (Go.Vm.len new) (m * s) then
        bif Nat.ble (len + m) cap && Nat.blt cap unk then appendRoom s h a len cap m new else appendGrow s h a len cap m new
      else none
    | none => none
  | _, _ => none

/-- 'copy' -/
def copyA (s : Nat) (h : AHeap) (x y : Value) : Option (Value × AHeap) :=
  match x, y with
  | .slice a len _, .slice b m c =>
    let n := bif Nat.ble m len then m else len
    match cellsOfSlice h s (.slice b n c) with
    | some cells =>
      match a with
      | none => some (.int .i64 (.ofNat n), h)
      | some ad =>
        match storeRow h ad.block ad.off cells with
        | some h' => some (.int .i64 (.ofNat n), h')
        | none => none
    | none => none
  | _, _ => none
/-- 'clear' of a slice -/
def clearA (z : List Value) (h : AHeap) (x : Value) : Option (Value × AHeap) :=
  match x with
  | .slice none _ _ => some (.tuple ⟨[]⟩, h)
  | .slice (some a) n _ =>
    bif Nat.beq n 0 then some (.tuple ⟨[]⟩, h)
    else match storeRow h a.block a.off (repl z n) with
      | some h' => some (.tuple ⟨[]⟩, h')
      | none => none
  | _ => none
/-- a pointer or a function that is there -/
def thereA (x : Value) (h : AHeap) : Option (Value × AHeap) :=
  match x with
  | .pointer (some a) => some (.pointer (some a), h)
  | .func (.func f) a b => some (.func (.func f) a b, h)
  | _ => none

structure FOp where run : AHeap → Slots → Option (Value × AHeap)
structure FVal where get : Slots → Value
structure FVals where get : Slots → List Value

def cval : Operand → FVal
  | .tmp t => ⟨Slots.get (cway t).way⟩
  | .const v => seqV v fun v => ⟨fun _ => v⟩
  | .global g => ⟨fun _ => .pointer (some ⟨g, 0, none⟩)⟩
  | .func f => ⟨fun _ => .func (.func f) #[] #[]⟩

def cvals : List Operand → FVals
  | [] => ⟨fun _ => []⟩
  | x :: l => ⟨fun ts => (cval x).get ts :: (cvals l).get ts⟩

def amap (h : AHeap) : Value → Option (Nat × Array MapEntry × Nat)
  | .map (some r) =>
    match h.get r with
    | some (.map es c) => some (r, es, c)
    | _ => none
  | _ => none

def valueOnly : Option Next → Option Value
  | some (.value v) => some v
  | _ => none

/-- an operation on plain values alone, by the model itself -/
def plainRun (o : Oper) (h : AHeap) (ts : Slots) : Option (Value × AHeap) :=
  bif allB (fun x => plainV ((cval x).get ts)) o.op.operands.toList then
    match valueOnly (pureRun P (execOp (fun x => (cval x).get ts) o)) with
    | some v => bif plainV v then some (v, h) else none
    | none => none
  else none

def extractA (i : Nat) (x : Value) (h : AHeap) : Option (Value × AHeap) :=
  match x with
  | .tuple vs => match vs[i]? with
    | some v => some (v, h)
    | none => none
  | _ => none

/-- a part of a struct's or an array's cells -/
def partAgg (off n : Nat) (x : Value) (h : AHeap) : Option (Value × AHeap) :=
  match x with
  | .agg ⟨l⟩ => dropK l off fun r => takeK r n fun l => some (.agg ⟨l⟩, h)
  | _ => none
def partOne (off : Nat) (x : Value) (h : AHeap) : Option (Value × AHeap) :=
  match x with
  | .agg ⟨l⟩ => match nthO l off with
    | some v => some (v, h)
    | none => none
  | _ => none

def buildA (place : Nat → Option (Nat × Nat)) (zero : Array Value) (is : List Nat) (h : AHeap) (vs : List Value) : Option (Value × AHeap) :=
  match Instr.fill place zero (is.zip vs) with
  | some cs => some (.agg cs, h)
  | none => none

def intTwo (f : IntKind → Int → Int → Value) (alt : AHeap → Slots → Option (Value × AHeap)) (x y : FVal) (h : AHeap) (ts : Slots) : Option (Value × AHeap) :=
  match x.get ts, y.get ts with
  | .int k a, .int k' b => bif sameK k k' then some (f k a b, h) else none
  | _, _ => alt h ts

def addI (k : IntKind) (a b : Int) : Value := .int k (wrapF k (a + b))
def subI (k : IntKind) (a b : Int) : Value := .int k (wrapF k (a - b))
def mulI (k : IntKind) (a b : Int) : Value := .int k (wrapF k (a * b))
def eqlI (_ : IntKind) (a b : Int) : Value := .bool (eqI a b)
def neqI (_ : IntKind) (a b : Int) : Value := .bool (!eqI a b)
def lssI (_ : IntKind) (a b : Int) : Value := .bool (ltI a b)
def leqI (_ : IntKind) (a b : Int) : Value := .bool (!ltI b a)
def gtrI (_ : IntKind) (a b : Int) : Value := .bool (ltI b a)
def geqI (_ : IntKind) (a b : Int) : Value := .bool (!ltI a b)

/-- '==' and '!=' of what is no integer: a slice held against nil; plain values -/
def eqNil (want : Bool) (alt : AHeap → Slots → Option (Value × AHeap)) (x y : FVal) (h : AHeap) (ts : Slots) : Option (Value × AHeap) :=
  match x.get ts, y.get ts with
  | .slice (some _) _ _, .slice none _ _ => some (.bool (!want), h)
  | .slice none _ _, .slice none _ _ => some (.bool want, h)
  | _, _ => alt h ts

def orNil (t : TypeId) (want : Bool) (alt : AHeap → Slots → Option (Value × AHeap)) (x y : FVal) : AHeap → Slots → Option (Value × AHeap) :=
  match elemT P t with
  | some _ => eqNil want alt x y
  | none => alt

def cbin (op : BinOp) (t : TypeId) (x y : FVal) (alt : AHeap → Slots → Option (Value × AHeap)) : FOp :=
  match op with
  | .add => ⟨intTwo addI alt x y⟩
  | .sub => ⟨intTwo subI alt x y⟩
  | .mul => ⟨intTwo mulI alt x y⟩
  | .eql => ⟨intTwo eqlI (orNil P t true alt x y) x y⟩
  | .neq => ⟨intTwo neqI (orNil P t false alt x y) x y⟩
  | .lss => ⟨intTwo lssI alt x y⟩
  | .leq => ⟨intTwo leqI alt x y⟩
  | .gtr => ⟨intTwo gtrI alt x y⟩
  | .geq => ⟨intTwo geqI alt x y⟩
  | _ => ⟨alt⟩

def pickA (c a b : Value) (h : AHeap) : Option (Value × AHeap) :=
  match c with
  | .bool true => some (a, h)
  | .bool false => some (b, h)
  | _ => none

def withH (v : Option Value) (h : AHeap) : Option (Value × AHeap) :=
  match v with
  | some v => some (v, h)
  | none => none

def makeSl (_s bytes : Nat) (zero : List Value) (h : AHeap) (l c : Value) : Option (Value × AHeap) :=
  match l, c with
  | .int _ (.ofNat n), .int _ (.ofNat m) =>
    bif Nat.ble n m && Nat.ble (m * bytes) maxBytes && Nat.ble m maxBytes then newSlice h (repl zero m) n m 0 else none
  | _, _ => none

def buildSl (s len : Nat) (zero : List Value) (is : List Nat) (h : AHeap) (vs : List Value) : Option (Value × AHeap) :=
  match Instr.fill (fun i => some (i * s, s)) ⟨repl zero len⟩ (is.zip vs) with
  | some cs => newSlice h cs.toList len len 0
  | none => none

def lenA (x : Value) (h : AHeap) : Option (Value × AHeap) :=
  match x with
  | .slice _ n _ => some (.int .i64 (.ofNat n), h)
  | _ => none

def findA (empty : Bool) (kt : TypeId) (k : Value) (es : Array MapEntry) : Option (Option (Nat × Value)) :=
  pureRun P (do Instr.checkKey empty 10000 kt k; Instr.findKey kt k es.toList)

def lookupA (kt : TypeId) (z : Value) (ok : Bool) (h : AHeap) (m k : Value) : Option (Value × AHeap) :=
  match amap h m with
  | some (_, es, _) =>
    bif plainV k && plainV z then
      match findA P es.isEmpty kt k es with
      | some (some (_, v)) => bif plainV v then some (bif ok then .tuple #[v, .bool true] else v, h) else none
      | some none => some (bif ok then .tuple #[z, .bool false] else z, h)
      | none => none
    else none
  | none => none

def setMap (h : AHeap) (r : Nat) (es : Array MapEntry) (c : Nat) (v : Value) : Option (Value × AHeap) :=
  h.put r (some (.map es c)) fun h => some (v, h)

def mapEntryA (kt : TypeId) (z : Value) (h : AHeap) (m k : Value) : Option (Value × AHeap) :=
  match amap h m with
  | some (r, es, c) =>
    bif plainV k && plainV z && Nat.ble h.floor r then
      match findA P false kt k es with
      | some (some (i, v)) =>
        bif Instr.sameBits 10000 (((es[i]?).map (·.key)).getD k) k && plainV v then
          setMap h r (es.modify i fun e => { e with key := k }) c (.tuple #[v, goInt (((es[i]?).map (·.born)).getD 0)])
        else none
      | some none => setMap h r (es.push { key := k, val := z, born := c }) (c + 1) (.tuple #[z, goInt c])
      | none => none
    else none
  | none => none

def entryStoreA (h : AHeap) (m s x : Value) : Option (Value × AHeap) :=
  match amap h m, s with
  | some (r, es, c), .int _ born =>
    bif plainV x && Nat.ble h.floor r then
      match es.findIdx? (fun e => (e.born : Int) == born) with
      | some i => setMap h r (es.modify i fun e => { e with val := x }) c undef
      | none => none
    else none
  | _, _ => none

def mapUpdateA (kt : TypeId) (h : AHeap) (m k x : Value) : Option (Value × AHeap) :=
  match amap h m with
  | some (r, es, c) =>
    bif plainV k && plainV x && Nat.ble h.floor r then
      match findA P false kt k es with
      | some (some (i, _)) =>
        bif Instr.sameBits 10000 (((es[i]?).map (·.key)).getD k) k then
          setMap h r (es.modify i fun e => { e with key := k, val := x }) c undef
        else none
      | some none => setMap h r (es.push { key := k, val := x, born := c }) (c + 1) undef
      | none => none
    else none
  | none => none

def bad : FOp := ⟨fun _ _ => none⟩

/-- the operands that the evaluator takes -/
def fineOp : Operand → Bool
  | .tmp _ => true
  | .const v => plainV v
  | .global _ => false
  | .func _ => true

def cfield (t : TypeId) (x : FVal) (f : Nat) : FOp :=
  match P.underlying t with
  | some (.struct fs) =>
    match fs[f]? with
    | some fd =>
      match P.underlying fd.type with
      | some _ =>
        bif isAggT P fd.type then
          match sizeT P fd.type with
          | some n => ⟨fun h ts => partAgg fd.offset n (x.get ts) h⟩
          | none => bad
        else ⟨fun h ts => partOne fd.offset (x.get ts) h⟩
      | none => bad
    | none => bad
  | _ => bad

def cbuild (t : TypeId) (is : List Nat) (vs : FVals) : FOp :=
  match zeroT P t with
  | some z =>
    bif plainV z then
      match P.underlying t with
      | some (.struct fs) =>
        match pureRun P (fs.mapM fun f => do pure (f.offset, ← sizeOf f.type)) with
        | some places => seqArr z.cells fun zc => ⟨fun h ts => buildA (places[·]?) zc is h (vs.get ts)⟩
        | none => bad
      | some (.array _ e) =>
        match sizeT P e with
        | some s => seqArr z.cells fun zc => ⟨fun h ts => buildA (fun i => some (i * s, s)) zc is h (vs.get ts)⟩
        | none => bad
      | _ => bad
    else bad
  | none => bad

def optGet (x : Option Operand) (ts : Slots) : Option Value :=
  match x with
  | some x => some ((cval x).get ts)
  | none => none

def cappend (argTypes : Array TypeId) (x y : FVal) : FOp :=
  match argTypes[0]?, argTypes[1]? with
  | some t, some u =>
    match elemT P t, elemT P u with
    | some e, some _ =>
      match P.info? e with
      | some i =>
        match i.zero with
        | some z => bif Nat.blt 0 i.size && Nat.beq z.cells.size i.size then ⟨fun h ts => appendA i.size i.bytes h (x.get ts) (y.get ts)⟩ else bad
        | none => bad
      | none => bad
    | _, _ => bad
  | _, _ => bad

def ccopy (argTypes : Array TypeId) (x y : FVal) : FOp :=
  match argTypes[0]? with
  | some t =>
    match elemT P t with
    | some e =>
      match sizeT P e with
      | some s => ⟨fun h ts => copyA s h (x.get ts) (y.get ts)⟩
      | none => bad
    | none => bad
  | none => bad

def cclear (argTypes : Array TypeId) (x : FVal) : FOp :=
  match argTypes[0]? with
  | some t =>
    match elemT P t with
    | some e =>
      match zeroT P e with
      | some z => bif plainV z then seqCells z.cells.toList fun zs => ⟨fun h ts => clearA zs h (x.get ts)⟩ else bad
      | none => bad
    | none => bad
  | none => bad

def clen (argTypes : Array TypeId) (x : FVal) : FOp :=
  match argTypes[0]? with
  | some t =>
    match P.underlying t with
    | some (.slice _) => ⟨fun h ts => lenA (x.get ts) h⟩
    | some (.array n _) => ⟨fun h _ => some (.int .i64 n, h)⟩
    | _ => bad
  | none => bad

def cbuiltin (o : Oper) (b : Builtin) (args : List Operand) (argTypes : Array TypeId) : FOp :=
  match b, args with
  | .len, [x] => clen P argTypes (cval x)
  | .append, [x, y] => cappend P argTypes (cval x) (cval y)
  | .copy, [x, y] => ccopy P argTypes (cval x) (cval y)
  | .clear, [x] => cclear P argTypes (cval x)
  | .min, _ => ⟨plainRun P o⟩
  | .max, _ => ⟨plainRun P o⟩
  | _, _ => bad

def cmakeSlice (t : TypeId) (l c : FVal) : FOp :=
  match elemT P t with
  | some e =>
    match P.info? e with
    | some i =>
      match i.zero with
      | some z =>
        bif Nat.blt 0 i.size && Nat.beq z.cells.size i.size && plainV z then
          seqCells z.cells.toList fun zs => ⟨fun h ts => makeSl i.size i.bytes zs h (l.get ts) (c.get ts)⟩
        else bad
      | none => bad
    | none => bad
  | none => bad

def cbuildSlice (t : TypeId) (len : Nat) (is : List Nat) (vs : FVals) : FOp :=
  match elemT P t with
  | some e =>
    match sizeT P e, zeroT P e with
    | some s, some z =>
      bif Nat.ble (len * s) 16777216 && Nat.blt 0 s && Nat.beq z.cells.size s && plainV z then
        seqCells z.cells.toList fun zs => ⟨fun h ts => buildSl s len zs is h (vs.get ts)⟩
      else bad
    | _, _ => bad
  | none => bad

/-- 'x[lo:hi]' of an array of n elements, of so many cells each -/
def sliceArr (n s : Nat) (h0 : AHeap) (x : Value) (lo hi : Option Value) : Option (Value × AHeap) :=
  match x with
  | .pointer (some a) =>
    match boundA 0 lo, boundA n hi with
    | some l, some h => bif Nat.ble l h && Nat.ble h n then some (.slice (bif Nat.beq n l then some a else addrPlus (some a) (l * s)) (h - l) (n - l), h0) else none
    | _, _ => none
  | _ => none

def cslice (t : TypeId) (x : FVal) (lo hi mx : Option Operand) : FOp :=
  match P.underlying t with
  | some (.slice e) =>
    match sizeT P e with
    | some s => ⟨fun h ts => sliceA s hi.isSome h (x.get ts) (optGet lo ts) (optGet hi ts) (optGet mx ts)⟩
    | none => bad
  | some (.array n e) =>
    match sizeT P e, mx with
    | some s, none => bif Nat.blt n unk then ⟨fun h ts => sliceArr n s h (x.get ts) (optGet lo ts) (optGet hi ts)⟩ else bad
    | _, _ => bad
  | _ => bad

def cmapop (t : TypeId) (f : TypeId → Value → FOp) : FOp :=
  match P.underlying t with
  | some (.map kt e) =>
    match zeroT P e with
    | some z => f kt z
    | none => bad
  | _ => bad

/-- one operation, no call of a Go function -/
def cop (o : Oper) : FOp :=
  match o.op with
  | .move x => ⟨fun h ts => some ((cval x).get ts, h)⟩
  | .assign x => ⟨fun h ts => some ((cval x).get ts, h)⟩
  | .nilCheck x => ⟨fun h ts => thereA ((cval x).get ts) h⟩
  | .pick c a b => ⟨fun h ts => pickA ((cval c).get ts) ((cval a).get ts) ((cval b).get ts) h⟩
  | .alloc e => match zeroT P e with
    | some z => bif plainV z then ⟨fun h _ => newRowA h z.cells.toList⟩ else bad
    | none => bad
  | .box _ x => ⟨fun h ts => newRowA h (cellList ((cval x).get ts))⟩
  | .build t parts => cbuild P t (parts.toList.map (·.1)) (cvals (parts.toList.map (·.2)))
  | .field t x f => cfield P t (cval x) f
  | .extract x i => ⟨fun h ts => extractA i ((cval x).get ts) h⟩
  | .buildSlice t len parts => cbuildSlice P t len (parts.toList.map (·.1)) (cvals (parts.toList.map (·.2)))
  | .load t a => ⟨fun h ts => withH ((cload P t).run h ((cval a).get ts)) h⟩
  | .store t a x => match sizeT P t with
    | some n => ⟨fun h ts => storeN n h ((cval a).get ts) ((cval x).get ts)⟩
    | none => bad
  | .makeFunc (.func f) a b => ⟨fun h ts => some (.func (.func f) ⟨(cvals a.toList).get ts⟩ ⟨(cvals b.toList).get ts⟩, h)⟩
  | .makeSlice t l c => cmakeSlice P t (cval l) (cval c)
  | .makeMap t none => cmapop P t fun _ _ => ⟨fun h _ => h.push (some (.map #[] 0)) fun i h => some (.map (some i), h)⟩
  | .slice t x lo hi mx => cslice P t (cval x) lo hi mx
  | .fieldAddr s x f => ⟨fun h ts => withH ((cfieldAddr P s f).run ((cval x).get ts)) h⟩
  | .indexAddr t x i => ⟨fun h ts => withH ((cindexAddr P t).run ((cval x).get ts) ((cval i).get ts)) h⟩
  | .call { callee := .builtin b, args, argTypes } => cbuiltin P o b args.toList argTypes
  | .lookup t m k ok => cmapop P t fun kt z => ⟨fun h ts => lookupA P kt z ok h ((cval m).get ts) ((cval k).get ts)⟩
  | .mapEntry t m k => cmapop P t fun kt z => ⟨fun h ts => mapEntryA P kt z h ((cval m).get ts) ((cval k).get ts)⟩
  | .entryStore _ m s x => ⟨fun h ts => entryStoreA h ((cval m).get ts) ((cval s).get ts) ((cval x).get ts)⟩
  | .mapUpdate t m k x => cmapop P t fun kt _ => ⟨fun h ts => mapUpdateA P kt h ((cval m).get ts) ((cval k).get ts) ((cval x).get ts)⟩
  | .binOp op t x y _ => cbin P op t (cval x) (cval y) (plainRun P o)
  | .unOp .not _ x => ⟨fun h ts => match (cval x).get ts with | .bool b => some (.bool (!b), h) | _ => none⟩
  | .unOp .. => ⟨plainRun P o⟩
  | .convert .. => ⟨plainRun P o⟩
  | .index .. => ⟨plainRun P o⟩
  | _ => bad

inductive Ex where
  | norm
  | exit (id : Nat)
  | ret

structure St where
  tmps : Slots
  heap : AHeap
  /-- the blocks of the rounds' deferred calls that this activation has laid -/
  marks : List Nat

abbrev CallF := Value → List Value → AHeap → Option (Value × AHeap)

def putT {α : Type} (tmps : Slots) (dst : Option Tmp) (v : Value) (f : Slots → α) : α :=
  match dst with
  | some d => seqV v fun v => Slots.setK (cway d).way tmps v f
  | none => f tmps

structure FTest where test : Slots → Bool
def isB (want : Bool) (v : Value) : Bool :=
  match v with
  | .bool true => want
  | .bool false => !want
  | _ => false
def cguard (ops : Array Oper) (o : Oper) : FTest :=
  match o.guard with
  | none => ⟨fun _ => true⟩
  | some (j, want) =>
    match (ops[j]?).bind (·.dst) with
    | some d => ⟨fun ts => isB want (ts.get (cway d).way)⟩
    | none => ⟨fun _ => false⟩

structure FCall where run : CallF → AHeap → Slots → Option (Value × AHeap)
def copc (o : Oper) : FCall :=
  bif !allB fineOp o.op.operands.toList then ⟨fun _ _ _ => none⟩ else
  match o.op with
  | .call { callee := .value f, args, .. } => ⟨fun cf h ts => seqEs ((cvals args.toList).get ts) fun l => cf ((cval f).get ts) l h⟩
  | _ => ⟨fun _ h ts => (cop P o).run h ts⟩

structure FRegion where run : CallF → St → Option St
def stepOp (g : FTest) (c : FCall) (dst : Option Tmp) (k : FRegion) (cf : CallF) (s : St) : Option St :=
  bif g.test s.tmps then
    match c.run cf s.heap s.tmps with
    | some (v, h) => putT s.tmps dst v fun ts => k.run cf ⟨ts, h, s.marks⟩
    | none => none
  else putT s.tmps dst undef fun ts => k.run cf ⟨ts, s.heap, s.marks⟩
def cops (ops : Array Oper) : List Oper → FRegion
  | [] => ⟨fun _ s => some s⟩
  | o :: rest => ⟨stepOp (cguard ops o) (copc P o) o.dst (cops ops rest)⟩

/-! ### A region that draws its order: the operations that turn the heap are a chain; each other one yields the same wherever it may come -/
def eqOA (a b : Option Addr) : Bool :=
  match a, b with
  | none, none => true
  | some a, some b => Nat.beq a.block b.block && Nat.beq a.off b.off && (match a.spot, b.spot with | none, none => true | _, _ => false)
  | _, _ => false
def eqP (a b : Value) : Bool :=
  match a, b with
  | .pointer a, .pointer b => eqOA a b
  | _, _ => false
def eqPs (l : List Value) : List Value → Bool :=
  List.rec (motive := fun _ => List Value → Bool) (fun r => List.casesOn (motive := fun _ => Bool) r true (fun _ _ => false))
    (fun v _ ih r => List.casesOn (motive := fun _ => Bool) r false (fun u r => bif eqP v u then ih r else false)) l
def eqCell (a b : Value) : Bool :=
  match a, b with
  | .bool true, .bool true => true
  | .bool false, .bool false => true
  | .int k x, .int k' y => sameK k k' && eqI x y
  | .pointer a, .pointer b => eqOA a b
  | .slice a n c, .slice b m d => eqOA a b && Nat.beq n m && Nat.beq c d
  | .nilFunc, .nilFunc => true
  | .func (.func f) ⟨[]⟩ ⟨[]⟩, .func (.func g) ⟨[]⟩ ⟨[]⟩ => Nat.beq f g
  | .func (.yield f) ⟨[]⟩ ⟨[]⟩, .func (.yield g) ⟨[]⟩ ⟨[]⟩ => Nat.beq f g
  | .func (.func f) ⟨xs⟩ ⟨ys⟩, .func (.func g) ⟨us⟩ ⟨vs⟩ => Nat.beq f g && eqPs xs us && eqPs ys vs
  | .map (some r), .map (some q) => Nat.beq r q
  | _, _ => false
def eqCells (l : List Value) : List Value → Bool :=
  List.rec (motive := fun _ => List Value → Bool) (fun r => List.casesOn (motive := fun _ => Bool) r true (fun _ _ => false))
    (fun v _ ih r => List.casesOn (motive := fun _ => Bool) r false (fun u r => bif eqCell v u then ih r else false)) l
def eqV (a b : Value) : Bool :=
  match a, b with
  | .agg ⟨l⟩, .agg ⟨r⟩ => eqCells l r
  | .tuple ⟨l⟩, .tuple ⟨r⟩ => eqCells l r
  | a, b => eqCell a b

def isChain (o : Oper) : Bool :=
  match o.op with
  | .store .. => true
  | .entryStore .. => true
  | .mapEntry .. => true
  | .mapUpdate .. => true
  | .alloc .. => true
  | .box .. => true
  | .buildSlice .. => true
  | .makeSlice .. => true
  | .makeMap .. => true
  | .call { callee := .value _, .. } => true
  | .call { callee := .builtin .append, .. } => true
  | .call { callee := .builtin .copy, .. } => true
  | .call { callee := .builtin .clear, .. } => true
  | _ => false

def directs (o : Oper) : List Nat := (o.after.toList.filter fun e => Region.binds .any e).map (·.on)
def maskOf (masks : List Nat) : List Nat → Nat
  | [] => 0
  | e :: l => (2 ^ e ||| masks.getD e 0) ||| maskOf masks l
def masksOf : List Oper → List Nat → List Nat
  | [], acc => acc
  | o :: l, acc => masksOf l (acc ++ [maskOf acc (directs o)])
def hasBit (m j : Nat) : Bool := m.testBit j
def tmpsOf (ops : Array Oper) (o : Oper) : List Nat :=
  (o.op.operands.toList.filterMap fun x => match x with | .tmp t => some t | _ => none) ++ (match o.guard with | some (g, _) => ((ops[g]?).bind (·.dst)).toList | none => [])
/-- two operations that touch one slot, one of them by writing -/
def clash (ops : Array Oper) (x y : Oper) : Bool :=
  (match x.dst with | some d => (tmpsOf ops y).contains d || y.dst == some d | none => false) || (match y.dst with | some d => (tmpsOf ops x).contains d | none => false)
/-- an operation that lays a new block, whatever else lies there -/
def isFloat (o : Oper) : Bool :=
  match o.op with
  | .alloc .. => true
  | .box .. => true
  | .buildSlice .. => true
  | .makeSlice .. => true
  | _ => false
/-- a call of a function by its name -/
def isNamed (o : Oper) : Bool :=
  match o.op with
  | .call { callee := .value (.func _), .. } => true
  | _ => false
/-- how a region is taken: 'q': calls by name only read; 'loose': blocks that are laid whenever -/
structure Plan where
  q : Bool
  loose : List Nat
def inL (l : List Nat) (i : Nat) : Bool := List.rec (motive := fun _ => Bool) false (fun x _ ih => bif Nat.beq x i then true else ih) l
def lastIs (l : List Nat) (i : Nat) : Bool :=
  match l.getLast? with
  | some k => Nat.beq k i
  | none => false
/-- those that come in one order -/
def isCh (pl : Plan) (i : Nat) (o : Oper) : Bool := isChain o && !(pl.q && isNamed o) && !(inL pl.loose i)
/-- and the last of the loose ones: behind it all have come -/
def isV (pl : Plan) (i : Nat) (o : Oper) : Bool := isCh pl i o || lastIs pl.loose i
structure DrawInfo where
  plan : Plan
  masks : List Nat
  chain : List Nat
  ok : Bool
def chAt (pl : Plan) (ops : Array Oper) (i : Nat) : Bool := match ops[i]? with | some o => isCh pl i o | none => false
def vAt (pl : Plan) (ops : Array Oper) (i : Nat) : Bool := match ops[i]? with | some o => isV pl i o | none => false
def mBit (masks : List Nat) (i j : Nat) : Bool := hasBit (masks.getD i 0) j
def drawOk (pl : Plan) (ops : Array Oper) (masks : List Nat) : Bool :=
  pl.loose.all (fun l => Nat.blt l ops.size && (match pl.loose.getLast? with | some k => Nat.ble l k | none => false)) &&
  (List.range ops.size).all fun i =>
    match ops[i]? with
    | none => false
    | some o =>
      ((directs o).all (fun e => Nat.blt e i) &&
      (List.range i).all fun j =>
        match ops[j]? with
        | none => false
        | some q => (!(clash ops q o) || mBit masks i j) && (!(isCh pl j q && isCh pl i o) || mBit masks i j)) &&
      (bif isCh pl i o then pl.loose.all (fun l => Nat.blt i l) || pl.loose.all (fun l => Nat.blt l i && mBit masks i l)
       else bif inL pl.loose i then
        isFloat o && pl.loose.all (fun l => !(mBit masks i l)) &&
          (match o.dst with
          | some d => (List.range ops.size).all fun j => Nat.beq j i || !((ops[j]?).bind (·.dst) == some d)
          | none => false)
       else pl.loose.all (fun l => !(mBit masks i l)) || (pl.loose.all (fun l => mBit masks i l) && (List.range ops.size).all fun j => !(chAt pl ops j && pl.loose.all (fun l => Nat.blt j l)) || mBit masks i j))
/-- the blocks that are laid in no one order with the others -/
def looseOf (q : Bool) (ops : Array Oper) (masks : List Nat) : List Nat :=
  (List.range ops.size).reverse.foldl (fun acc i =>
    match ops[i]? with
    | some o => bif isFloat o && (List.range ops.size).any (fun j => !(Nat.beq i j) && chAt ⟨q, acc⟩ ops j && !(mBit masks i j) && !(mBit masks j i)) then i :: acc else acc
    | none => acc) []
def infoOf (pl : Plan) (ops : Array Oper) (masks : List Nat) : DrawInfo := ⟨pl, masks, (List.range ops.size).filter (vAt pl ops), drawOk pl ops masks⟩
def orElse (a b : DrawInfo) : DrawInfo := match a with | ⟨p, m, c, true⟩ => ⟨p, m, c, true⟩ | _ => b
def cinfo (ops : Array Oper) : DrawInfo :=
  let masks := masksOf ops.toList []
  orElse (infoOf ⟨false, []⟩ ops masks) (orElse (infoOf ⟨false, looseOf false ops masks⟩ ops masks) (orElse (infoOf ⟨true, []⟩ ops masks) (infoOf ⟨true, looseOf true ops masks⟩ ops masks)))

/-- may operation i come when just the first m of the chain have come? -/
def mayAt (masks chain : List Nat) (i m : Nat) : Bool :=
  (chain.take m).all (fun c => !hasBit (masks.getD c 0) i) && (chain.drop m).all (fun c => !hasBit (masks.getD i 0) c)
structure FStages where l : List Nat
def forceNats (l : List Nat) : (List Nat → FStages) → FStages :=
  List.rec (motive := fun _ => (List Nat → FStages) → FStages) (fun f => f []) (fun n _ ih f => seqNat n fun n => ih fun l => f (n :: l)) l
def cstages (info : DrawInfo) (i lex : Nat) : FStages :=
  forceNats ((List.range (info.chain.length + 1)).filter fun m => mayAt info.masks info.chain i m && !Nat.beq m lex) fun l => ⟨l⟩

def readAt (c : FCall) (cf : CallF) (h : AHeap) (ts : Slots) : Option Value :=
  match h with
  | ⟨t, nx, lw, _⟩ =>
    match c.run cf ⟨t, nx, lw, nx⟩ ts with
    | some (v, h') => bif Nat.beq h'.next nx then some v else none
    | none => none
def nthH (l : List AHeap) : Nat → Option AHeap :=
  List.rec (motive := fun _ => Nat → Option AHeap) (fun _ => none) (fun x _ ih n => Nat.rec (motive := fun _ => Option AHeap) (some x) (fun m _ => ih m) n) l
/-- a reader, at each other stage -/
def checkAt (c : FCall) (cf : CallF) (hs : List AHeap) (ts : Slots) (v : Value) (stages : List Nat) : Bool :=
  List.rec (motive := fun _ => Bool) true (fun m _ ih =>
    match nthH hs m with
    | some h => match readAt c cf h ts with
      | some u => bif eqV u v then ih else false
      | none => false
    | none => false) stages

/-- what has come of an operation: its slots, its value (none: it was passed over) -/
structure OpRes where
  ts : Slots
  v : Option Value
/-- slots; the heap of the stage; the heap with the loose blocks; the stages' heaps; what has come of the operations -/
structure FPass where run : CallF → Slots → AHeap → AHeap → List AHeap → List OpRes → Option (Slots × AHeap × List AHeap × List OpRes)
def passChain (g : FTest) (c : FCall) (dst : Option Tmp) (k : FPass) (cf : CallF) (ts : Slots) (_ h : AHeap) (hs : List AHeap) (rs : List OpRes) : Option (Slots × AHeap × List AHeap × List OpRes) :=
  bif g.test ts then
    match c.run cf h ts with
    | some (v, h') => bif Nat.ble h.next h'.next then putT ts dst v fun ts' => k.run cf ts' h' h' (h' :: hs) (⟨ts, some v⟩ :: rs) else none
    | none => none
  else putT ts dst undef fun ts' => k.run cf ts' h h (h :: hs) (⟨ts, none⟩ :: rs)
def passLoose (g : FTest) (c : FCall) (dst : Option Tmp) (k : FPass) (cf : CallF) (ts : Slots) (gh h : AHeap) (hs : List AHeap) (rs : List OpRes) : Option (Slots × AHeap × List AHeap × List OpRes) :=
  bif g.test ts then
    match c.run cf h ts with
    | some (v, h') => putT ts dst v fun ts' => k.run cf ts' gh h' hs (⟨ts, some v⟩ :: rs)
    | none => none
  else putT ts dst undef fun ts' => k.run cf ts' gh h hs (⟨ts, none⟩ :: rs)
def passRead (g : FTest) (c : FCall) (dst : Option Tmp) (k : FPass) (cf : CallF) (ts : Slots) (gh h : AHeap) (hs : List AHeap) (rs : List OpRes) : Option (Slots × AHeap × List AHeap × List OpRes) :=
  bif g.test ts then
    match readAt c cf gh ts with
    | some v => putT ts dst v fun ts' => k.run cf ts' gh h hs (⟨ts, some v⟩ :: rs)
    | none => none
  else putT ts dst undef fun ts' => k.run cf ts' gh h hs (⟨ts, none⟩ :: rs)
def cpass (pl : Plan) (ops : Array Oper) : List Oper → Nat → FPass
  | [], _ => ⟨fun _ ts _ h hs rs => some (ts, h, hs, rs)⟩
  | o :: rest, i =>
    bif isV pl i o then ⟨passChain (cguard ops o) (copc P o) o.dst (cpass pl ops rest (i + 1))⟩
    else bif inL pl.loose i then ⟨passLoose (cguard ops o) (copc P o) o.dst (cpass pl ops rest (i + 1))⟩
    else ⟨passRead (cguard ops o) (copc P o) o.dst (cpass pl ops rest (i + 1))⟩
/-- an operation that asks nothing of the heap -/
def heapFree (o : Oper) : Bool :=
  match o.op with
  | .move .. => true
  | .assign .. => true
  | .nilCheck .. => true
  | .pick .. => true
  | .build .. => true
  | .field .. => true
  | .extract .. => true
  | .makeFunc .. => true
  | .fieldAddr .. => true
  | .indexAddr .. => true
  | .binOp .. => true
  | .unOp .. => true
  | .convert .. => true
  | .index .. => true
  | .call { callee := .builtin .len, .. } => true
  | .call { callee := .builtin .min, .. } => true
  | .call { callee := .builtin .max, .. } => true
  | _ => false
/-- the readers at all stages: the operations from number i on, 'lex' of the chain having come -/
structure FCheck where run : CallF → List AHeap → List OpRes → Bool
def checkStep (c : FCall) (stages : List Nat) (k : FCheck) (cf : CallF) (hs : List AHeap) (rs : List OpRes) : Bool :=
  match rs with
  | ⟨ts, some v⟩ :: rs => bif checkAt c cf hs ts v stages then k.run cf hs rs else false
  | ⟨_, none⟩ :: rs => k.run cf hs rs
  | [] => false
def skipStep (k : FCheck) (cf : CallF) (hs : List AHeap) (rs : List OpRes) : Bool :=
  match rs with
  | _ :: rs => k.run cf hs rs
  | [] => false
def ccheck (info : DrawInfo) : List Oper → Nat → Nat → FCheck
  | [], _, _ => ⟨fun _ _ _ => true⟩
  | o :: rest, i, lex =>
    bif isV info.plan i o then ⟨skipStep (ccheck info rest (i + 1) (lex + 1))⟩
    else bif inL info.plan.loose i || heapFree o then ⟨skipStep (ccheck info rest (i + 1) lex)⟩
    else ⟨checkStep (copc P o) (cstages info i lex).l (ccheck info rest (i + 1) lex)⟩
def drawEnd (chk : FCheck) (cf : CallF) (marks : List Nat) (r : Option (Slots × AHeap × List AHeap × List OpRes)) : Option St :=
  match r with
  | some (ts, h, hs, rs) => bif chk.run cf hs.reverse rs.reverse then some ⟨ts, h, marks⟩ else none
  | none => none
def cdraw (ops : Array Oper) : FRegion :=
  bif (cinfo ops).ok then ⟨fun cf s => drawEnd (ccheck P (cinfo ops) ops.toList 0 0) cf s.marks ((cpass P (cinfo ops).plan ops ops.toList 0).run cf s.tmps s.heap s.heap [s.heap] [])⟩ else ⟨fun _ _ => none⟩

structure FCode where run : CallF → Nat → Option Nat → Nat → St → Option (Ex × St)

def normal (s : Option St) : Option (Ex × St) :=
  match s with
  | some s => some (.norm, s)
  | none => none
def thenDo (r : Option (Ex × St)) (k : St → Option (Ex × St)) : Option (Ex × St) :=
  match r with
  | some (.norm, s) => k s
  | some (.exit i, s) => some (.exit i, s)
  | some (.ret, s) => some (.ret, s)
  | none => none
def inBlock (id : Nat) (r : Option (Ex × St)) : Option (Ex × St) :=
  match r with
  | some (.norm, s) => some (.norm, s)
  | some (.exit i, s) => bif Nat.beq i id then some (.norm, s) else some (.exit i, s)
  | some (.ret, s) => some (.ret, s)
  | none => none
def branch (v : Value) (a b : Option (Ex × St)) : Option (Ex × St) :=
  match v with
  | .bool true => a
  | .bool false => b
  | _ => none
def loopN (body : St → Option (Ex × St)) : Nat → St → Option (Ex × St)
  | 0, _ => none
  | n + 1, s => thenDo (body s) (loopN body n)

/-- behind the one call of a range over a function -/
def endRange (l : Nat) (s : St) (h : AHeap) : Option (Ex × St) :=
  bif !Nat.ble h.floor l then none else
  match h.get l with
  | some (.loop r) =>
    match r.state, r.pending with
    | .busy, _ => none
    | _, none => h.put l (some (.loop { r with state := .exhausted })) fun h => some (.norm, ⟨s.tmps, h, s.marks⟩)
    | _, some (.exit i) => h.put l (some (.loop { r with state := .exhausted })) fun h => some (.exit i, ⟨s.tmps, h, s.marks⟩)
    | _, some .ret => h.put l (some (.loop { r with state := .exhausted })) fun h => some (.ret, ⟨s.tmps, h, s.marks⟩)
    | _, _ => none
  | _ => none
def rangeIn (cf : CallF) (f : Value) (s : St) (r : ALoop) (h : AHeap) : Option (Ex × St) :=
  match f with
  | .func (.func g) xs ys =>
    h.push (some (.loop r)) fun l h =>
      match cf (.func (.func g) xs ys) [.func (.yield l) #[] #[]] h with
      | some (_, h) => endRange l s h
      | none => none
  | _ => none
def rangeA (cf : CallF) (fn : Nat) (around : Option Nat) (f : Value) (params : Array Tmp) (assign body : Code) (s : St) : Option (Ex × St) :=
  match around with
  | some l =>
    match s.heap.get l with
    | some (.loop r) => rangeIn cf f s { state := .ready, pending := none, fn, tmps := s.tmps, params, assign, body, defers := r.defers } s.heap
    | _ => none
  | none => s.heap.push (some .deferred) fun d h => rangeIn cf f ⟨s.tmps, h, d :: s.marks⟩ { state := .ready, pending := none, fn, tmps := s.tmps, params, assign, body, defers := d } h

def ccode : Code → FCode
  | .skip => ⟨fun _ _ _ _ s => some (.norm, s)⟩
  | .label _ => ⟨fun _ _ _ _ s => some (.norm, s)⟩
  | .region _ ops draw => bif draw then ⟨fun cf _ _ _ s => normal ((cdraw P ops).run cf s)⟩ else ⟨fun cf _ _ _ s => normal ((cops P ops ops.toList).run cf s)⟩
  | .seq a b => ⟨fun cf fn ar m s => thenDo ((ccode a).run cf fn ar m s) fun s => (ccode b).run cf fn ar m s⟩
  | .cond c a b => bif !fineOp c then ⟨fun _ _ _ _ _ => none⟩ else ⟨fun cf fn ar m s => branch ((cval c).get s.tmps) ((ccode a).run cf fn ar m s) ((ccode b).run cf fn ar m s)⟩
  | .block id b => ⟨fun cf fn ar m s => inBlock id ((ccode b).run cf fn ar m s)⟩
  | .loop b => ⟨fun cf fn ar m s => loopN (fun s => (ccode b).run cf fn ar m s) m s⟩
  | .scope b => ⟨fun cf fn ar m s => (ccode b).run cf fn ar m s⟩
  | .exit id => ⟨fun _ _ _ _ s => some (.exit id, s)⟩
  | .ret => ⟨fun _ _ _ _ s => some (.ret, s)⟩
  | .rangeFunc f params assign body => bif !fineOp f then ⟨fun _ _ _ _ _ => none⟩ else ⟨fun cf fn ar _ s => rangeA cf fn ar ((cval f).get s.tmps) params assign body s⟩
  | _ => ⟨fun _ _ _ _ _ => none⟩

def oneRes (r : ResultVar) (s : St) : Option Value :=
  match r with
  | .tmp t => some (s.tmps.get (cway t).way)
  | .cell a t => (cload P t).run s.heap (s.tmps.get (cway a).way)
structure FRes where run : St → Option Value
def resList : List ResultVar → St → Option (List Value)
  | [], _ => some []
  | r :: rs, s =>
    match oneRes P r s with
    | some v => match resList rs s with
      | some l => some (v :: l)
      | none => none
    | none => none
def cres (fn : Func) : FRes :=
  match fn.results.toList with
  | [r] => ⟨oneRes P r⟩
  | rs => ⟨fun s => match resList P rs s with
    | some l => some (.tuple ⟨l⟩)
    | none => none⟩

/-- the blocks of the rounds' deferred calls are taken over as an activation leaves -/
def dropMarks {β : Type} (l : List Nat) (h : AHeap) (f : AHeap → Option β) : Option β :=
  match l with
  | [] => f h
  | d :: l =>
    match h.get d with
    | some .deferred => bif Nat.ble h.floor d then h.put d none fun h => dropMarks l h f else none
    | _ => none

structure FFunc where run : CallF → Nat → List Value → AHeap → Option (Value × AHeap)
def funcEnd (res : FRes) (r : Option (Ex × St)) : Option (Value × AHeap) :=
  match r with
  | some (.exit _, _) => none
  | some (_, s) =>
    dropMarks s.marks s.heap fun h =>
      match res.run ⟨s.tmps, h, []⟩ with
      | some v => seqV v fun v => some (v, h)
      | none => none
  | none => none
def cfunc (f : FuncId) : FFunc :=
  match P.funcs[f]? with
  | some fn =>
    match fn.body with
    | some c => ⟨fun cf m xs h => bif !Nat.ble (len xs) fn.ntmps then none else funcEnd (cres P fn) (fillK xs 0 (cskel fn.ntmps).slots fun ts => (ccode P c).run cf f none m ⟨ts, h, []⟩)⟩
    | none => ⟨fun _ _ _ _ => none⟩
  | none => ⟨fun _ _ _ _ => none⟩

/-- what yield hands over, into the parameters' slots -/
def setAllK {α : Type} (ps : List Tmp) : List Value → Slots → (Slots → α) → α :=
  List.rec (motive := fun _ => List Value → Slots → (Slots → α) → α) (fun _ s f => f s)
    (fun p _ ih xs s f => List.casesOn (motive := fun _ => α) xs (f s) (fun x xs => Slots.setK (cway p).way s x fun s => ih xs s f)) ps

def jumpOf : Ex → Option Code
  | .norm => none
  | .exit i => some (.exit i)
  | .ret => some .ret

def roundEnd (l : Nat) (r : Option (Ex × St)) : Option (Value × AHeap) :=
  match r with
  | some (e, s) =>
    match s.heap.get l with
    | some (.loop r) =>
      bif !Nat.ble s.heap.floor l then none else
      s.heap.put l (some (.loop { r with state := if (jumpOf e).isNone then .ready else .done, pending := jumpOf e })) fun h =>
        some (.bool (jumpOf e).isNone, h)
    | _ => none
  | none => none
def roundBegin (l : Nat) (k : St → Option (Ex × St)) (r : Option (Ex × St)) : Option (Ex × St) :=
  match r with
  | some (.norm, s) =>
    match s.heap.get l with
    | some (.loop r) =>
      match r.state with
      | .ready => s.heap.put l (some (.loop { r with state := .busy })) fun h => k ⟨s.tmps, h, s.marks⟩
      | _ => none
    | _ => none
  | _ => none
def roundA (cf : CallF) (m l : Nat) (args : List Value) (h : AHeap) : Option (Value × AHeap) :=
  match h.get l with
  | some (.loop r) =>
    bif Nat.beq args.length r.params.size && Nat.ble h.floor l then
      setAllK r.params.toList args r.tmps fun ts =>
        roundEnd l (roundBegin l (fun s => (ccode P r.body).run cf r.fn (some l) m s) ((ccode P r.assign).run cf r.fn (some l) m ⟨ts, h, []⟩))
    else none
  | _ => none

/-- a call: of a function in A nothing is asked but a plain value, and nothing of what lay there may be written; the heap is as it was -/
def callQ (A : List Nat) (f : Nat) (run : AHeap → Option (Value × AHeap)) (h : AHeap) : Option (Value × AHeap) :=
  bif inL A f then
    match h with
    | ⟨t, nx, lw, fl⟩ =>
      match run ⟨t, nx, lw, nx⟩ with
      | some (v, _) => bif plainV v then some (v, ⟨t, nx, lw, fl⟩) else none
      | none => none
  else run h
def acall (A : List Nat) : Nat → CallF
  | 0, _, _, _ => none
  | n + 1, f, args, h =>
    match f with
    | .func (.func f) a b => callQ A f (fun h => (cfunc P f).run (acall A n) n (app a.toList (app args b.toList)) h) h
    | .func (.yield l) ⟨[]⟩ ⟨[]⟩ => roundA P (acall A n) n l args h
    | _ => none
end
end
end Go.Vm
