/- Texts of the proofs of this seat, put together: StC, VmSets, VmSetR, VmMax3, VmMapK3, StV2b, StIter, StOpen, StProve, StProve2, StOpenV, StKinds, StLater, StBnds, StTruths, StMem, StOut, StVerd, StOpenH, StRightP, StGoodH, StOutL, StRightL, StRightM, StGoodP, StRightN, StGoodL, StStuckL, StAskP, StAskL, StStay, StLess, StWarmer, StAskedL, StSets, StSetsI. -/
import Derived.Test.YtffgdpkogokdhaaPk13
import Derived.Test.YtffgdpkogokdhaaRows
import Derived.WalkKit
import Derived.ProofKit
import Derived.OpenShut

namespace Go.Vm.St
open Go.Vm.Vat Go.Proofs Go.ChangeShapes Go.WideShapes Go.ChangeAt Go.RowKit
set_option linter.unusedSimpArgs false
set_option linter.unusedVariables false
set_option maxRecDepth 10000
variable {n : Nat} {h : AHeap}
/-! ### The calls of this program are sound -/
theorem own : ownKnob Try.prog.godebug = none := by kernel_rfl
theorem mixedOn : Try.prog.follows .mixedOrders = true := by kernel_rfl
theorem namesAll : (Try.prog.funcs.toList.all fun fn => !(fn.name == "runtime.NumGoroutine")) = true := by kernel_rfl
theorem namesFine : NamesFine Try.prog := by
  intro f fn hf
  have h := List.all_eq_true.1 namesAll fn (Array.mem_toList_iff.2 (Array.mem_of_getElem? hf))
  simpa using h
theorem tabOk : ∀ E ∈ StAwake.tab, ∃ cf, SoundCF Try.prog cf ∧ entryOk cf E = true := by
  have hs := vm_sound namesFine mixedOn StAwake.quiet 1000
  intro E hE
  refine ⟨_, hs, ?_⟩
  revert E
  simp only [StAwake.tab, List.forall_mem_cons, List.not_mem_nil, false_implies, implies_true, and_true]
  exact ⟨StAwake.ok0, StAwake.ok1, StAwake.ok2, StAwake.ok3, StAwake.ok4, StAwake.ok5, StAwake.ok6, StAwake.ok7, StAwake.ok8⟩
theorem kOk : KOk Try.prog K := by
  intro f v hK
  unfold K at hK
  split at hK
  · rename_i e
    subst e
    cases hK
    refine ⟨rfl, acallO Try.prog StAwake.quiet StAwake.tab 1000, ?_⟩
    have hm := StAwake.main_ok
    cases hr : acallO Try.prog StAwake.quiet StAwake.tab 1000 (.func (.func 24) #[] #[]) [] AHeap.empty with
    | none => rw [hr] at hm; cases hm
    | some vh =>
      obtain ⟨v, h'⟩ := vh
      rw [hr] at hm
      unfold StAwake.isTrue at hm
      split at hm
      · rename_i e
        cases e
        exact ⟨h', acallO_sound namesFine mixedOn StAwake.quiet tabOk 1000, rfl⟩
      · cases hm
  · cases hK
theorem sound (n : Nat) : SoundCF Try.prog (call n) := pcall_sound namesFine mixedOn kOk n
/-! ### The statements' arguments -/
theorem laidOk : laidOutB Try.prog = true := by kernel_rfl
theorem mapsOk : mapsRowed Try.prog = true := by kernel_rfl
theorem slicesOk : ((List.range Try.prog.types.size).all fun t => match Try.prog.underlying t with | some (.slice e) => decide (0 < Try.prog.cellsOf e) | _ => true) = true := by kernel_rfl
theorem kids : Kids Try.prog (· < Try.prog.types.size) := kids_rows laidOk mapsOk
theorem tsize : 120 < Try.prog.types.size := of_decide_eq_true (by kernel_rfl)
theorem agg_struct {P : Program} {w : World} {r : Reach} {b : Nat} {t : TypeId} {fs : Array Field} {v : Value} {cs : List Value} (ht : P.underlying t = some (.struct fs)) (ho : Value.okWide P w r b t v) (hc : v.cells.toList = cs) : v = .agg ⟨cs⟩ := by
  unfold Value.okWide at ho
  rw [ht] at ho
  obtain ⟨cs', rfl, _⟩ := ho
  subst hc
  rfl
theorem map_int {φ : Emb} {k : IntKind} {a : Int} : mapV φ (.int k a) = .int k a := by simp [mapV]
theorem stands_steep {w : World} {φ : Emb} {a b c d : Int} {u0 u1 u2 fv vv sv : Value} (h0 : Stands φ h u0 fv) (h1 : Stands φ h u1 vv) (h2 : Stands φ h u2 sv) : mapV φ (.agg ⟨[.int .i64 a, .int .i64 b, u0, .int .i64 c, .int .i64 d, u1, u2]⟩) = .agg ⟨[.int .i64 a, .int .i64 b, fv, .int .i64 c, .int .i64 d, vv, sv]⟩ ∧ okV φ h.next (.agg ⟨[.int .i64 a, .int .i64 b, u0, .int .i64 c, .int .i64 d, u1, u2]⟩) := by
  refine ⟨?_, ?_⟩
  · simp only [mapV, mapArr, mapL, h0.map, h1.map, h2.map]
  · simp only [okV, okA, okL, and_true, true_and]
    exact ⟨h0.ok, h1.ok, h2.ok⟩
end Go.Vm.St

namespace Go.Vm
open Go.Vm.Vat
set_option linter.unusedSimpArgs false
set_option linter.unusedVariables false
/-! ### All increasing lists of so many numbers, lexicographically; the first that will do -/
def combs (N : Nat) : Nat → Nat → List (List Int)
  | 0, _ => [[]]
  | d + 1, a => (List.range (N - a)).flatMap fun (k : Nat) => (combs N d (a + k + 1)).map fun l => ((a + k : Nat) : Int) :: l
theorem combs_len {N : Nat} : ∀ {d a : Nat} {l : List Int}, l ∈ combs N d a → l.length = d
  | 0, a, l, h => by
    have : l = [] := by simpa [combs] using h
    rw [this]; rfl
  | d + 1, a, l, h => by
    simp only [combs, List.mem_flatMap, List.mem_map] at h
    obtain ⟨k, _, l', h1, rfl⟩ := h
    rw [List.length_cons, combs_len h1]
theorem combs_inc {N : Nat} : ∀ {d a : Nat} {l : List Int}, l ∈ combs N d a → l.Pairwise (fun x y => x < y) ∧ ∀ x, x ∈ l → (a : Int) ≤ x ∧ x < N
  | 0, a, l, h => by
    have : l = [] := by simpa [combs] using h
    rw [this]
    exact ⟨List.Pairwise.nil, fun x hx => by cases hx⟩
  | d + 1, a, l, h => by
    simp only [combs, List.mem_flatMap, List.mem_map, List.mem_range] at h
    obtain ⟨k, hk, l', h1, rfl⟩ := h
    obtain ⟨h2, h3⟩ := combs_inc h1
    refine ⟨List.Pairwise.cons (fun y hy => ?_) h2, fun x hx => ?_⟩
    · have := h3 y hy
      omega
    · rcases List.mem_cons.1 hx with rfl | hx
      · omega
      · have := h3 x hx
        omega
theorem lex_cons {x : Int} {l l' : List Int} {d : Nat} (h : LexLt (atL l) (atL l') d) : LexLt (atL (x :: l)) (atL (x :: l')) (d + 1) := by
  obtain ⟨j, h1, h2, h3⟩ := h
  refine ⟨j + 1, by omega, fun i hi => ?_, h3⟩
  cases i with
  | zero => rfl
  | succ i => exact h2 i (by omega)
theorem lex_head {x y : Int} {l l' : List Int} {d : Nat} (h : x < y) : LexLt (atL (x :: l)) (atL (y :: l')) (d + 1) := ⟨0, by omega, fun i hi => by omega, h⟩
theorem combs_lex {N : Nat} : ∀ {d a : Nat}, (combs N d a).Pairwise fun l l' => LexLt (atL l) (atL l') d
  | 0, a => by simp [combs]
  | d + 1, a => by
    simp only [combs]
    rw [List.pairwise_flatMap]
    refine ⟨fun k _ => ?_, ?_⟩
    · rw [List.pairwise_map]
      exact combs_lex.imp fun h => lex_cons h
    · refine List.pairwise_lt_range.imp fun {k k'} hk x hx y hy => ?_
      obtain ⟨l, _, rfl⟩ := List.mem_map.1 hx
      obtain ⟨l', _, rfl⟩ := List.mem_map.1 hy
      exact lex_head (by omega)
open Classical in
noncomputable def selF (p : Nat → Prop) : Nat → Nat → List Int
  | _, 0 => []
  | a, k + 1 => if p a then (a : Int) :: selF p (a + 1) k else selF p (a + 1) k
theorem sel_snoc {p : Nat → Prop} : ∀ {k a : Nat}, (p (a + k) → selF p a (k + 1) = selF p a k ++ [((a + k : Nat) : Int)]) ∧ (¬ p (a + k) → selF p a (k + 1) = selF p a k)
  | 0, a => by
    constructor
    · intro h
      simp only [selF]
      rw [if_pos (show p a from h)]; rfl
    · intro h
      simp only [selF]
      rw [if_neg (show ¬ p a from h)]
  | k + 1, a => by
    obtain ⟨h1, h2⟩ := sel_snoc (p := p) (k := k) (a := a + 1)
    have e : a + 1 + k = a + (k + 1) := by omega
    rw [e] at h1 h2
    constructor
    · intro h
      rw [selF, h1 h]
      conv => rhs; rw [selF]
      by_cases c : p a
      · rw [if_pos c, if_pos c, List.cons_append]
      · rw [if_neg c, if_neg c]
    · intro h
      rw [selF, h2 h]
      conv => rhs; rw [selF]
theorem pick_sel {p : Nat → Prop} : ∀ k, pickL p k = selF p 0 k
  | 0 => rfl
  | k + 1 => by
    obtain ⟨h1, h2⟩ := sel_snoc (p := p) (k := k) (a := 0)
    rw [Nat.zero_add] at h1 h2
    by_cases c : p k
    · rw [pick_yes c, h1 c, pick_sel k]
    · rw [pick_no c, h2 c, pick_sel k]
theorem combs_up {N d a : Nat} {l : List Int} (h : l ∈ combs N d (a + 1)) : l ∈ combs N d a := by
  cases d with
  | zero => exact h
  | succ d =>
    simp only [combs, List.mem_flatMap, List.mem_map, List.mem_range] at h ⊢
    obtain ⟨k, hk, l', h1, rfl⟩ := h
    refine ⟨k + 1, by omega, l', ?_, ?_⟩
    · rw [show a + (k + 1) + 1 = a + 1 + k + 1 by omega]; exact h1
    · rw [show a + (k + 1) = a + 1 + k by omega]
theorem sel_combs {p : Nat → Prop} : ∀ {k a : Nat}, selF p a k ∈ combs (a + k) (selF p a k).length a
  | 0, a => by simp [selF, combs]
  | k + 1, a => by
    have ih := sel_combs (p := p) (k := k) (a := a + 1)
    have e : a + 1 + k = a + (k + 1) := by omega
    rw [e] at ih
    by_cases c : p a
    · have e1 : selF p a (k + 1) = (a : Int) :: selF p (a + 1) k := by rw [selF, if_pos c]
      rw [e1, List.length_cons]
      simp only [combs, List.mem_flatMap, List.mem_map, List.mem_range]
      exact ⟨0, by omega, _, ih, rfl⟩
    · have e1 : selF p a (k + 1) = selF p (a + 1) k := by rw [selF, if_neg c]
      rw [e1]
      exact combs_up ih
theorem pick_combs {p : Nat → Prop} {N : Nat} : pickL p N ∈ combs N (pickL p N).length 0 := by
  have := sel_combs (p := p) (k := N) (a := 0)
  rw [Nat.zero_add] at this
  rw [pick_sel]
  exact this
theorem pick_mem {p : Nat → Prop} {N : Nat} {x : Int} : x ∈ pickL p N ↔ ∃ j : Nat, j < N ∧ x = (j : Int) ∧ p j := by
  constructor
  · intro hx
    obtain ⟨i, hi, e⟩ := List.getElem_of_mem hx
    obtain ⟨j, j1, j2, j3⟩ := pick_at (p := p) (k := N) hi
    refine ⟨j, j1, ?_, j3⟩
    rw [← j2, ← e]
    unfold atL
    rw [List.getD_eq_getElem?_getD, List.getElem?_eq_getElem hi]; rfl
  · rintro ⟨j, j1, rfl, j3⟩
    obtain ⟨i, i1, i2⟩ := pick_has (p := p) j1 j3
    rw [← i2]
    unfold atL
    rw [List.getD_eq_getElem?_getD, List.getElem?_eq_getElem i1]
    exact List.getElem_mem i1
open Classical in
/-- the first list, of up to so many numbers, that will do -/
noncomputable def leaveN (N : Nat) (P : List Int → Prop) : Nat → Option (List Int)
  | 0 => none
  | m + 1 => match leaveN N P m with
    | some l => some l
    | none => (combs N m 0).find? fun l => decide (P l)
section
variable {N : Nat} {P : List Int → Prop}
open Classical in
theorem leaveN_none : ∀ {m : Nat}, leaveN N P m = none → ∀ j, j < m → ∀ l, l ∈ combs N j 0 → ¬ P l
  | 0, _, j, hj => by omega
  | m + 1, h, j, hj => by
    rw [leaveN] at h
    cases e : leaveN N P m with
    | some l => rw [e] at h; cases h
    | none =>
      rw [e] at h
      by_cases c : j = m
      · subst c
        intro l hl hp
        exact List.find?_eq_none.1 h l hl (decide_eq_true hp)
      · exact leaveN_none e j (by omega)
open Classical in
theorem leaveN_some : ∀ {m : Nat} {l : List Int}, leaveN N P m = some l → P l ∧ l ∈ combs N l.length 0 ∧ ∀ l', l' ∈ combs N l'.length 0 → P l' → ¬ SL l' l
  | 0, l, h => by cases h
  | m + 1, l, h => by
    rw [leaveN] at h
    cases e : leaveN N P m with
    | some l0 =>
      rw [e] at h
      have : l0 = l := Option.some.inj h
      subst this
      exact leaveN_some e
    | none =>
      rw [e] at h
      obtain ⟨h1, us, ws, h2, h3⟩ := List.find?_eq_some_iff_append.1 h
      have hl : l ∈ combs N m 0 := by rw [h2]; simp
      have hm := combs_len hl
      refine ⟨of_decide_eq_true h1, by rw [hm]; exact hl, fun l' hl' hp hs => ?_⟩
      rcases hs with hs | ⟨hs1, hs2⟩
      · exact leaveN_none e l'.length (by omega) l' hl' hp
      · rw [hs1, hm] at hl'
        have hpw := combs_lex (N := N) (d := m) (a := 0)
        rw [h2] at hl' hpw
        rw [List.pairwise_append, List.pairwise_cons] at hpw
        rw [hs1, hm] at hs2
        rcases List.mem_append.1 hl' with q | q
        · have := h3 l' q
          rw [decide_eq_true hp] at this
          cases this
        · rcases List.mem_cons.1 q with rfl | q
          · exact lex_irr hs2
          · exact lex_irr (lex_trans hs2 (hpw.2.1.1 l' q))
end
/-- a list with all that is wrong in one of E -/
def CovP {τ : Type} (E : List τ) (wr : τ → Nat → Prop) (N : Nat) (l : List Int) : Prop := ∃ t, t ∈ E ∧ ∀ i, i < N → wr t i → (i : Int) ∈ l
theorem pick_pair {p : Nat → Prop} {N : Nat} : (pickL p N).Pairwise fun x y => x < y := (combs_inc pick_combs).1
theorem leave_min {τ : Type} {E : List τ} {wr : τ → Nat → Prop} {N m : Nat} {l : List Int} (h : leaveN N (CovP E wr N) m = some l) :
    (∃ t, t ∈ E ∧ l = pickL (wr t) N) ∧ ∀ t, t ∈ E → ¬ SL (pickL (wr t) N) l := by
  obtain ⟨⟨t, ht, hc⟩, h2, h3⟩ := leaveN_some h
  have hmin : ∀ t, t ∈ E → ¬ SL (pickL (wr t) N) l := fun t ht => h3 _ pick_combs ⟨t, ht, fun i hi hw => pick_mem.2 ⟨i, hi, rfl, hw⟩⟩
  refine ⟨⟨t, ht, ?_⟩, hmin⟩
  have hsub : ∀ x, x ∈ pickL (wr t) N → x ∈ l := fun x hx => by
    obtain ⟨j, j1, rfl, j3⟩ := pick_mem.1 hx
    exact hc j j1 j3
  have hnd : (pickL (wr t) N).Nodup := pick_pair.imp fun {a b} h => by omega
  have hle : l.length ≤ (pickL (wr t) N).length := by
    apply Classical.byContradiction
    intro hn
    exact hmin t ht (.inl (by omega))
  have hp := perm_of_sub _ _ hnd hsub hle
  exact (hp.eq_of_pairwise (fun a b _ _ h1 h2 => absurd h1 (by omega)) pick_pair (combs_inc h2).1).symm
theorem leave_ex {τ : Type} {E : List τ} {wr : τ → Nat → Prop} {N : Nat} (hE : E ≠ []) : ∃ l, leaveN N (CovP E wr N) (N + 1) = some l := by
  obtain ⟨t, ht⟩ := List.exists_mem_of_ne_nil _ hE
  cases e : leaveN N (CovP E wr N) (N + 1) with
  | some l => exact ⟨l, rfl⟩
  | none =>
    have hl := pick_len (p := wr t) N
    exact absurd ⟨t, ht, fun i hi hw => pick_mem.2 ⟨i, hi, rfl, hw⟩⟩ (leaveN_none e (pickL (wr t) N).length (by omega) _ pick_combs)
end Go.Vm

namespace Go.Vm
open Go.Vm.Vat
set_option linter.unusedSimpArgs false
set_option linter.unusedVariables false
variable {h g : AHeap}
/-! ### A list of numbers that grows and is cut again -/
/-- a block that is not the slice's -/
def NoB (v : Value) (i : Nat) : Prop := ∀ b m c, v = .slice (some b) m c → i ≠ b.block
def SetR (B : Nat) (g : AHeap) (v : Value) (cur : List Int) : Prop :=
  (v = .slice none 0 0 ∧ cur = []) ∨ ∃ b cs, v = .slice (some ⟨b, 0, none⟩) cur.length unk ∧ g.get b = some (.row cs true 1) ∧ cur.length ≤ cs.length ∧ (∀ i, i < cur.length → cs[i]? = some (.int .i64 (atL cur i))) ∧ allB oneCell cs = true ∧ B ≤ b
theorem SetR.old {B : Nat} {v : Value} {cur : List Int} (hs : SetR B h v cur) (ho : ∀ a k c, v = .slice (some a) k c → a.block < h.next → g.get a.block = h.get a.block) : SetR B g v cur := by
  rcases hs with q | ⟨b, cs, rfl, h1, h2, h3, h4, h5⟩
  · exact .inl q
  · exact .inr ⟨b, cs, rfl, by rw [ho _ _ _ rfl (AHeap.lt_of_get h1)]; exact h1, h2, h3, h4, h5⟩
theorem SetR.ints {B : Nat} {v : Value} {cur : List Int} (hs : SetR B h v cur) : Ints h v cur.length (atL cur) := by
  rcases hs with ⟨rfl, rfl⟩ | ⟨b, cs, rfl, h1, h2, h3, h4, h5⟩
  · exact ⟨none, 0, rfl, fun x e => (by cases e), .inl rfl⟩
  · exact ⟨_, _, rfl, fun x e => (by cases e; rfl), .inr ⟨b, 0, cs, true, 1, rfl, h1, fun k j hk hj => by
      obtain rfl : j = 0 := by omega
      rw [Nat.zero_add, Nat.mul_one, Nat.add_zero]
      exact h3 k hk⟩⟩
theorem SetR.one {B : Nat} {v : Value} {cur : List Int} (hs : SetR B h v cur) : oneCell v = true := by
  rcases hs with ⟨rfl, rfl⟩ | ⟨b, cs, rfl, _⟩ <;> rfl
theorem SetR.block {B : Nat} {v : Value} {cur : List Int} (hs : SetR B h v cur) {a : Addr} {k c : Nat} (e : v = .slice (some a) k c) : B ≤ a.block ∧ a.block < h.next := by
  rcases hs with ⟨rfl, rfl⟩ | ⟨b, cs, rfl, h1, h2, h3, h4, h5⟩
  · cases e
  · cases e; exact ⟨h5, AHeap.lt_of_get h1⟩
/-- one number cut off -/
theorem SetR.cut {B : Nat} {v : Value} {cur : List Int} {x : Int} (hs : SetR B h v (cur ++ [x])) : ∃ v', sliceA 1 true h v none (some (.int .i64 (cur.length : Int))) none = some (v', h) ∧ SetR B h v' cur ∧ oneCell v' = true := by
  rcases hs with ⟨rfl, e⟩ | ⟨b, cs, rfl, h1, h2, h3, h4, h5⟩
  · simp at e
  · have hl : (cur ++ [x]).length = cur.length + 1 := by simp
    refine ⟨.slice (some ⟨b, 0, none⟩) cur.length unk, ?_, .inr ⟨b, cs, rfl, h1, by omega, fun i hi => by rw [h3 i (by omega), at_append hi], h4, h5⟩, rfl⟩
    unfold sliceA
    have e1 : boundA 0 none = some 0 := rfl
    have e2 : boundA (cur ++ [x]).length (some (.int .i64 (cur.length : Int))) = some cur.length := rfl
    have e3 : Nat.ble 0 cur.length = true := ble_iff.2 (Nat.zero_le _)
    have e4 : Nat.ble cur.length (cur ++ [x]).length = true := ble_iff.2 (by omega)
    have e5 : Nat.blt unk unk = false := rfl
    have e6 : Nat.beq 0 0 = true := rfl
    simp only [e1, e2, e3, e4, e5, e6, Bool.and_self, cond_true, cond_false]
/-- one number more -/
theorem SetR.push {B : Nat} {v : Value} {cur : List Int} {x : Int} {g1 : AHeap} (hs : SetR B h v cur) (hB : h.floor ≤ B) (hf : h.next + 2 < far) (hBn : B ≤ h.next) (hx : New h g1 [.int .i64 x] 0) (hl : cur.length ≤ 1000) :
    ∃ v' g2, appendA 1 8 g1 v (.slice (some ⟨h.next, 0, none⟩) 1 1) = some (v', g2) ∧ SetR B g2 v' (cur ++ [x]) ∧ oneCell v' = true ∧ h.next ≤ g2.next ∧ g2.next ≤ h.next + 2 ∧ g2.floor = h.floor ∧ (∀ i, i < h.next → NoB v i → g2.get i = h.get i) ∧
      ∀ i, i < h.next → NoB v i → NoB v' i := by
  have n1 := hx.next
  have f1 := hx.floor
  have hlen : (cur ++ [x]).length = cur.length + 1 := by simp
  have hnewc : cellsOfSlice g1 1 (.slice (some ⟨h.next, 0, none⟩) 1 1) = some [.int .i64 x] := one_cells hx.get rfl
  have full : ∀ cs, Grow B h v 1 cur.length cs → allB oneCell cs = true → (∀ i, i < cur.length → cs[i]? = some (.int .i64 (atL cur i))) →
      ∃ v' g2, appendA 1 8 g1 v (.slice (some ⟨h.next, 0, none⟩) 1 1) = some (v', g2) ∧ SetR B g2 v' (cur ++ [x]) ∧ oneCell v' = true ∧ h.next ≤ g2.next ∧ g2.next ≤ h.next + 2 ∧ g2.floor = h.floor ∧ (∀ i, i < h.next → NoB v i → g2.get i = h.get i) ∧ ∀ i, i < h.next → NoB v i → NoB v' i := fun cs hg hc hv => by
    have hg1 : Grow B g1 v 1 cur.length cs := hg.keep fun b e hb => hx.old b hb
    obtain ⟨g2, e2, hg2, hk2⟩ := append_run (bytes := 8) hg1 (by omega) (by omega) ⟨_, _, rfl⟩ hnewc rfl rfl hc (by omega) (by omega) (by simp [maxBytes]; omega) (by simp [maxBytes]; omega)
    have n2 := hk2.next
    have f2 := hk2.floor
    have hcl := hg.len
    refine ⟨_, g2, e2, ?_, rfl, by omega, by omega, by omega, fun i hi hne => by rw [hk2.old i (by omega) fun b k c e => hne b k c e, hx.old i hi], fun i hi _ b k c e => by cases e; show i ≠ g1.next; omega⟩
    rcases hg2 with ⟨e, _⟩ | ⟨b, e, k1, k2, k3⟩
    · cases e
    · cases e
      refine .inr ⟨_, _, by rw [hlen], k1, by rw [k2, hlen]; omega, fun i hi => ?_, ?_, k3⟩
      · rw [hlen] at hi
        by_cases c : i < cur.length
        · rw [List.getElem?_append_left (by omega), hv i c, at_append c]
        · obtain rfl : i = cur.length := by omega
          rw [List.getElem?_append_right (by omega), hcl, Nat.mul_one, Nat.sub_self, at_last]
          rfl
      · rw [allB_iff] at *
        intro u hu
        rcases List.mem_append.1 hu with hu | hu
        · exact hc u hu
        · simp only [List.mem_singleton] at hu; subst hu; rfl
  rcases hs with ⟨rfl, rfl⟩ | ⟨b, cs, rfl, h1, h2, h3, h4, h5⟩
  · exact full [] .nil rfl fun i hi => absurd hi (Nat.not_lt_zero _)
  · by_cases hc : cs.length = cur.length
    · exact full cs (.inr ⟨b, rfl, h1, by rw [hc, Nat.mul_one], h5⟩) h4 h3
    · have hlt := AHeap.lt_of_get h1
      have h1' : g1.get b = some (.row cs true 1) := by rw [hx.old b hlt]; exact h1
      obtain ⟨g2, e2, hs2⟩ := storeRow_run (off := cur.length * 1) (vs := [.int .i64 x]) h1' (by omega) (by omega) rfl (by simp; omega)
      have hs2' := hs2
      rw [Nat.mul_one] at hs2'
      have n2 := hs2.next
      have f2 := hs2.floor
      have hold : cellsOfSlice g1 1 (.slice (some ⟨b, 0, none⟩) cur.length unk) = some (cs.take cur.length) := by
        show (bif Nat.beq cur.length 0 then some [] else match g1.get b with
          | some (.row cs _ _) => dropK cs 0 fun r => takeK r (cur.length * 1) fun l => some l
          | _ => none) = some (cs.take cur.length)
        by_cases hn0 : cur.length = 0
        · rw [hn0]; rfl
        · have hb : Nat.beq cur.length 0 = false := by
            cases hb : Nat.beq cur.length 0 with
            | false => rfl
            | true => exact absurd (beq_iff.1 hb) hn0
          rw [hb, cond_false, h1']
          simp only [dropK_eq, takeK_eq, Nat.zero_le, if_true, List.drop_zero, Nat.mul_one]
          rw [if_pos h2]
      have b1 : ∀ n, Nat.beq n n = true := fun n => beq_iff.2 rfl
      have b2 : Nat.beq (cur.length * 1) (len cs) = false := by
        cases hb : Nat.beq (cur.length * 1) (len cs) with
        | false => rfl
        | true => have := beq_iff.1 hb; rw [len_eq] at this; omega
      have b3 : Nat.ble ((cur.length + 1) * 1) (len cs) = true := ble_iff.2 (by rw [len_eq]; omega)
      have b4 : Nat.ble ((cur.length + 1) * 8) maxBytes = true := ble_iff.2 (by simp [maxBytes]; omega)
      have b5 : Nat.ble (cur.length + 1) maxBytes = true := ble_iff.2 (by simp [maxBytes]; omega)
      have b6 : Nat.beq (len [Value.int .i64 x]) (1 * 1) = true := rfl
      have b7 : Nat.blt unk unk = false := rfl
      refine ⟨.slice (some ⟨b, 0, none⟩) (cur.length + 1) unk, g2, ?_, .inr ⟨b, _, by rw [hlen], hs2'.get, ?_, fun i hi => ?_, ?_, h5⟩, rfl, by omega, by omega, by omega, fun i hi hne => by rw [hs2.old i (hne _ _ _ rfl), hx.old i hi], fun i hi hne b' k c e => by cases e; exact hne _ _ _ rfl⟩
      · unfold appendA
        simp only [hnewc, b4, b5, b6, Bool.and_self, cond_true, b7, Bool.and_false, cond_false]
        unfold appendGrow
        simp only [hold, b7, cond_false, h1', b1, b2, b3, Bool.and_self, Bool.and_true, Bool.and_false, Bool.true_and, Bool.false_and, cond_true, cond_false, e2]
      · rw [hlen]
        simp only [splice, List.length_append, List.length_take, List.length_cons, List.length_nil, List.length_drop]
        omega
      · rw [hlen] at hi
        simp only [splice]
        by_cases c : i < cur.length
        · rw [List.getElem?_append_left (by rw [List.length_take]; omega), List.getElem?_take, if_pos c, h3 i c, at_append c]
        · obtain rfl : i = cur.length := by omega
          have e0 : cur.length - (List.take cur.length cs).length = 0 := by rw [List.length_take]; omega
          rw [List.getElem?_append_right (by rw [List.length_take]; omega), e0, at_last]
          rfl
      · refine allB_iff.2 fun u hu => ?_
        simp only [splice] at hu
        rcases List.mem_append.1 hu with hu | hu
        · exact allB_iff.1 h4 u (List.mem_of_mem_take hu)
        · rcases List.mem_append.1 hu with hu | hu
          · simp only [List.mem_singleton] at hu; subst hu; rfl
          · exact allB_iff.1 h4 u (List.mem_of_mem_drop hu)
end Go.Vm

namespace Go.Vm
variable {P : Program} {N : Nat} {f : Fr} {h : AHeap} {ty t u : TypeId} {x y z : Operand}
end Go.Vm

namespace Go.Vm
set_option linter.unusedSimpArgs false
set_option linter.unusedVariables false
variable {P : Program} {t : TypeId}
/-! ### Keys of three integers -/
structure Three (P : Program) (t : TypeId) : Prop where
  ex : ∃ f0 f1 f2 : Field, P.underlying t = some (.struct #[f0, f1, f2]) ∧ f0.name ≠ "_" ∧ f1.name ≠ "_" ∧ f2.name ≠ "_" ∧ f0.offset = 0 ∧ f1.offset = 1 ∧ f2.offset = 2 ∧ P.underlying f0.type = some (.int .i64) ∧ P.underlying f1.type = some (.int .i64) ∧ P.underlying f2.type = some (.int .i64)
  held : P.stoodInHeld t = false
end Go.Vm

namespace Go.Vm.St
open Go.Proofs Go.Vm.Vat
set_option linter.unusedSimpArgs false
set_option linter.unusedVariables false
set_option maxRecDepth 10000
variable {n : Nat} {h : AHeap}
/-! the same contract as in StV2, and where the list lies -/
theorem unknownsB_c (hn : 110 ≤ n) (hr : h.next + 200 < far) (hfl : h.floor ≤ h.next) {wv vv sv tv : Value} {S : MS} (hy : SteepR h wv vv sv S) (ht : oneCell tv = true) (h6 : S.nw ≤ 6) (h4 : S.nv ≤ 4) {pb : Nat} :
    ∃ v h', call n (.func (.func 103) #[] #[]) [.agg ⟨wkL S wv vv sv tv⟩, .pointer (some ⟨pb, 0, none⟩)] h = some (v, h') ∧ Cells h' v 3 (numU S) (unkC S pb) ∧ oneCell v = true ∧ (∀ i, i < h.next → h'.get i = h.get i) ∧ h.next ≤ h'.next ∧ h'.next ≤ h.next + 40 ∧ h'.floor = h.floor ∧ (∀ a k c, v = .slice (some a) k c → h.next ≤ a.block) := by
  obtain ⟨n, rfl⟩ : ∃ p, n = p + 1 := ⟨n - 1, by omega⟩
  refine call_any0 fok103 rfl rfl (by simp) ?_
  simp only [s103, W_seq, W_ops]
  refine ops_box (cs := wkL S wv vv sv tv) (by omega) rfl (wk_one hy ht) fun g1 hx1 => ?_
  have n1 := hx1.next
  have f1' := hx1.floor
  have r1 := hx1.row
  have hy1 := hy.mono hx1.sub
  have old1 := hx1.old
  simp only [rn0, rn1, rn2, rn3, rn4, rn5, rn6, rn7, rn8, if_true, if_false, Nat.le_refl, true_and, and_true, decide_true, decide_false, Bool.not_true, Bool.not_false, reduceIte, Nat.reduceEqDiff, Nat.reduceAdd, Nat.reduceMul, Nat.reduceSub, Nat.reduceLeDiff, Nat.reduceLT, r1.ld, wkg, Nat.zero_add, Cells.len hy1.w]
  refine W_loop S.nw (fun k f g ms => (∃ v, (∀ i, i < g1.next → g.get i = g1.get i) ∧ g.floor = g1.floor ∧ g1.next ≤ g.next ∧ g.next ≤ g1.next + 3 * k ∧ GrowU S pb g1.next g v k ∧ f 5 = v) ∧ ms = [] ∧ f 1 = .pointer (some ⟨pb, 0, none⟩) ∧ f 2 = .pointer (some ⟨h.next, 0, none⟩) ∧ f 12 = wv ∧ f 13 = .int .i64 (S.nw : Int) ∧ f 14 = .int .i64 (k : Int)) (by simp; omega) ?_ ?_ ?_
  · simp only [rn0, rn1, rn2, rn3, rn4, rn5, rn6, rn7, rn8, if_true, if_false, Nat.le_refl, true_and, and_true, decide_true, decide_false, Bool.not_true, Bool.not_false, reduceIte, Nat.reduceEqDiff, Nat.reduceAdd, Nat.reduceMul, Nat.reduceSub, Nat.reduceLeDiff, Nat.reduceLT]
    exact ⟨⟨_, fun i _ => trivial, by omega, .nil, rfl⟩, rfl⟩
  · rintro k f g ms hk ⟨⟨v, hs, hfg, hup, hnx, gv, f5⟩, rfl, f1, f2, f12, f13, f14⟩
    have hk' : (k : Int) < (S.nw : Int) := by omega
    have hw : wrapF .i64 ((k : Int) + 1) = ((k + 1 : Nat) : Int) := by rw [wrap_in (by omega) (by omega)]; rfl
    have hyg := hy1.mono (AHeap.subOf hs)
    have ha : adr S k = k := by unfold adr; rw [if_pos hk]
    have hlo : uLo S k = S.wlo k := by unfold uLo; rw [if_pos hk]
    have hhi : uHi S k = S.whi k := by unfold uHi; rw [if_pos hk]
    simp only [rn0, rn1, rn2, rn3, rn4, rn5, rn6, rn7, rn8, if_true, if_false, Nat.le_refl, true_and, and_true, decide_true, decide_false, Bool.not_true, Bool.not_false, reduceIte, Nat.reduceEqDiff, Nat.reduceAdd, Nat.reduceMul, Nat.reduceSub, Nat.reduceLeDiff, Nat.reduceLT, f1, f2, f5, f12, f13, f14, hk', Cells.idx hyg.w hk, ranges_ld hyg.w hk]
    refine step_row (cs := [.int .i64 0, .int .i64 0]) (by omega) rfl rfl fun g2a hx2a => ?_
    have n2a := hx2a.next
    have f2a := hx2a.floor
    simp only [rn0, rn1, rn2, rn3, rn4, rn5, rn6, rn7, rn8, if_true, if_false, Nat.le_refl, true_and, and_true, decide_true, decide_false, Bool.not_true, Bool.not_false, reduceIte, Nat.reduceEqDiff, Nat.reduceAdd, Nat.reduceMul, Nat.reduceSub, Nat.reduceLeDiff, Nat.reduceLT]
    refine step_store (b := g.next) (off := 0) (vs := [.int .i64 (S.wlo k), .int .i64 (S.whi k)]) rfl hx2a.get (by omega) (by omega) rfl rfl rfl (by simp) fun g2 hs2 => ?_
    have hx2 := new_set hx2a hs2 rfl
    have n2 := hx2.next
    have f2' := hx2.floor
    have w2 := hx2.row.whole (n := 2) rfl
    simp only [rn0, rn1, rn2, rn3, rn4, rn5, rn6, rn7, rn8, if_true, if_false, Nat.le_refl, true_and, and_true, decide_true, decide_false, Bool.not_true, Bool.not_false, reduceIte, Nat.reduceEqDiff, Nat.reduceAdd, Nat.reduceMul, Nat.reduceSub, Nat.reduceLeDiff, Nat.reduceLT]
    refine W_draw All ?_
    simp only [rn0, rn1, rn2, rn3, rn4, rn5, rn6, rn7, rn8, if_true, if_false, Nat.le_refl, true_and, and_true, decide_true, decide_false, Bool.not_true, Bool.not_false, reduceIte, Nat.reduceEqDiff, Nat.reduceAdd, Nat.reduceMul, Nat.reduceSub, Nat.reduceLeDiff, Nat.reduceLT, f1, f2, f5, f12, f13, f14, there_p, fieldAt_p, idxArr_p (l := 6) (k := k) (by omega), Nat.zero_add, w2, build_unk, sl_unk]
    refine up_slice (by omega) unk_one (fun _ _ => trivial) fun g3 hx3 => ?_
    have n3 := hx3.next
    have hx3' : New g2 g3 [.pointer (some ⟨pb, adr S k, none⟩), .int .i64 (uLo S k), .int .i64 (uHi S k)] 0 := by rw [ha, hlo, hhi]; exact hx3
    obtain ⟨v', g4, e4, gv4, n4, f4', old4⟩ := GrowU.push (h := g2) (gv.sub hx2.sub) (by omega) (by omega) (by omega) (by omega) hx3'
    simp only [rn0, rn1, rn2, rn3, rn4, rn5, rn6, rn7, rn8, if_true, if_false, Nat.le_refl, true_and, and_true, decide_true, decide_false, Bool.not_true, Bool.not_false, reduceIte, Nat.reduceEqDiff, Nat.reduceAdd, Nat.reduceMul, Nat.reduceSub, Nat.reduceLeDiff, Nat.reduceLT, f1, f2, f12, f13, f14, e4, hw]
    exact ⟨by omega, v', fun i hi => by rw [old4 i hi, hx2.old i (by omega), hs i hi], by omega, by omega, by omega, gv4, rfl⟩
  rintro f g ms ⟨⟨v, hs, hfg, hup, hnx, gv, f5⟩, rfl, f1, f2, f12, f13, f14⟩
  have rg := r1.mono (AHeap.subOf hs)
  have ha : adr S S.nw = 6 := by unfold adr; rw [if_neg (Nat.lt_irrefl _), if_pos rfl]
  have hlo : uLo S S.nw = S.splo := by unfold uLo; rw [if_neg (Nat.lt_irrefl _), if_pos rfl]
  have hhi : uHi S S.nw = S.sphi := by unfold uHi; rw [if_neg (Nat.lt_irrefl _), if_pos rfl]
  simp only [rn0, rn1, rn2, rn3, rn4, rn5, rn6, rn7, rn8, if_true, if_false, Nat.le_refl, true_and, and_true, decide_true, decide_false, Bool.not_true, Bool.not_false, reduceIte, Nat.reduceEqDiff, Nat.reduceAdd, Nat.reduceMul, Nat.reduceSub, Nat.reduceLeDiff, Nat.reduceLT, f1, f2, f5, f12, f13, f14, Int.lt_irrefl]
  refine W_draw All ?_
  simp only [rn0, rn1, rn2, rn3, rn4, rn5, rn6, rn7, rn8, if_true, if_false, Nat.le_refl, true_and, and_true, decide_true, decide_false, Bool.not_true, Bool.not_false, reduceIte, Nat.reduceEqDiff, Nat.reduceAdd, Nat.reduceMul, Nat.reduceSub, Nat.reduceLeDiff, Nat.reduceLT, f1, f2, f5, there_p, fieldAt_p, Nat.zero_add, wk_rng rg, build_unk, sl_unk]
  refine up_slice (by omega) unk_one (fun _ _ => trivial) fun g3 hx3 => ?_
  have n3 := hx3.next
  have hx3' : New g g3 [.pointer (some ⟨pb, adr S S.nw, none⟩), .int .i64 (uLo S S.nw), .int .i64 (uHi S S.nw)] 0 := by rw [ha, hlo, hhi]; exact hx3
  obtain ⟨v', g4, e4, gv4, n4, f4', old4⟩ := GrowU.push (h := g) gv (by omega) (by omega) (by omega) (by omega) hx3'
  have hs4 : ∀ i, i < g1.next → g4.get i = g1.get i := fun i hi => by rw [old4 i hi, hs i hi]
  have rg4 := r1.mono (AHeap.subOf hs4)
  have hy4 := hy1.mono (AHeap.subOf hs4)
  simp only [rn0, rn1, rn2, rn3, rn4, rn5, rn6, rn7, rn8, if_true, if_false, Nat.le_refl, true_and, and_true, decide_true, decide_false, Bool.not_true, Bool.not_false, reduceIte, Nat.reduceEqDiff, Nat.reduceAdd, Nat.reduceMul, Nat.reduceSub, Nat.reduceLeDiff, Nat.reduceLT, f1, f2, e4, rg4.ld, wkg, Nat.zero_add, Cells.len hy4.v]
  refine ⟨by omega, ?_⟩
  refine W_loop S.nv (fun k f g ms => (∃ v, (∀ i, i < g1.next → g.get i = g1.get i) ∧ g.floor = g1.floor ∧ g1.next ≤ g.next ∧ g.next ≤ g1.next + 20 + 3 * k ∧ GrowU S pb g1.next g v (S.nw + 1 + k) ∧ f 5 = v) ∧ ms = [] ∧ f 1 = .pointer (some ⟨pb, 0, none⟩) ∧ f 2 = .pointer (some ⟨h.next, 0, none⟩) ∧ f 42 = vv ∧ f 43 = .int .i64 (S.nv : Int) ∧ f 44 = .int .i64 (k : Int)) (by simp; omega) ?_ ?_ ?_
  · simp only [rn0, rn1, rn2, rn3, rn4, rn5, rn6, rn7, rn8, if_true, if_false, Nat.le_refl, true_and, and_true, decide_true, decide_false, Bool.not_true, Bool.not_false, reduceIte, Nat.reduceEqDiff, Nat.reduceAdd, Nat.reduceMul, Nat.reduceSub, Nat.reduceLeDiff, Nat.reduceLT, f1, f2]
    exact ⟨⟨v', hs4, by omega, by omega, by omega, gv4, rfl⟩, rfl⟩
  · rintro k f g ms hk ⟨⟨v, hs, hfg, hup, hnx, gv, f5⟩, rfl, f1, f2, f42, f43, f44⟩
    have hk' : (k : Int) < (S.nv : Int) := by omega
    have hw : wrapF .i64 ((k : Int) + 1) = ((k + 1 : Nat) : Int) := by rw [wrap_in (by omega) (by omega)]; rfl
    have hyg := hy1.mono (AHeap.subOf hs)
    have q1 : ¬ S.nw + 1 + k < S.nw := by omega
    have q2 : ¬ S.nw + 1 + k = S.nw := by omega
    have q3 : S.nw + 1 + k - S.nw - 1 = k := by omega
    have ha : adr S (S.nw + 1 + k) = 7 + k := by unfold adr; rw [if_neg q1, if_neg q2, q3]
    have hlo : uLo S (S.nw + 1 + k) = S.vlo k := by unfold uLo; rw [if_neg q1, if_neg q2, q3]
    have hhi : uHi S (S.nw + 1 + k) = S.vhi k := by unfold uHi; rw [if_neg q1, if_neg q2, q3]
    simp only [rn0, rn1, rn2, rn3, rn4, rn5, rn6, rn7, rn8, if_true, if_false, Nat.le_refl, true_and, and_true, decide_true, decide_false, Bool.not_true, Bool.not_false, reduceIte, Nat.reduceEqDiff, Nat.reduceAdd, Nat.reduceMul, Nat.reduceSub, Nat.reduceLeDiff, Nat.reduceLT, f1, f2, f5, f42, f43, f44, hk', Cells.idx hyg.v hk, vat_ld hyg hk]
    refine step_row (cs := [.int .i64 0, .int .i64 0, .int .i64 0, .int .i64 0]) (by omega) rfl rfl fun g2a hx2a => ?_
    have n2a := hx2a.next
    have f2a := hx2a.floor
    simp only [rn0, rn1, rn2, rn3, rn4, rn5, rn6, rn7, rn8, if_true, if_false, Nat.le_refl, true_and, and_true, decide_true, decide_false, Bool.not_true, Bool.not_false, reduceIte, Nat.reduceEqDiff, Nat.reduceAdd, Nat.reduceMul, Nat.reduceSub, Nat.reduceLeDiff, Nat.reduceLT]
    refine step_store (b := g.next) (off := 0) (vs := [.int .i64 (S.vb k), .int .i64 (S.vlo k), .int .i64 (S.vhi k), .int .i64 (S.vn k)]) rfl hx2a.get (by omega) (by omega) rfl rfl rfl (by simp) fun g2 hs2 => ?_
    have hx2 := new_set hx2a hs2 rfl
    have n2 := hx2.next
    have f2' := hx2.floor
    simp only [rn0, rn1, rn2, rn3, rn4, rn5, rn6, rn7, rn8, if_true, if_false, Nat.le_refl, true_and, and_true, decide_true, decide_false, Bool.not_true, Bool.not_false, reduceIte, Nat.reduceEqDiff, Nat.reduceAdd, Nat.reduceMul, Nat.reduceSub, Nat.reduceLeDiff, Nat.reduceLT]
    refine W_draw All ?_
    simp only [rn0, rn1, rn2, rn3, rn4, rn5, rn6, rn7, rn8, if_true, if_false, Nat.le_refl, true_and, and_true, decide_true, decide_false, Bool.not_true, Bool.not_false, reduceIte, Nat.reduceEqDiff, Nat.reduceAdd, Nat.reduceMul, Nat.reduceSub, Nat.reduceLeDiff, Nat.reduceLT, f1, f2, f5, f42, f43, f44, there_p, fieldAt_p, idxArr_p (l := 4) (k := k) (by omega), Nat.zero_add, hx2.ldN 1 2 (by simp) (by simp), List.drop_succ_cons, List.drop_zero, List.take_succ_cons, List.take_zero, build_unk, sl_unk]
    refine up_slice (by omega) unk_one (fun _ _ => trivial) fun g3 hx3 => ?_
    have n3 := hx3.next
    have hx3' : New g2 g3 [.pointer (some ⟨pb, adr S (S.nw + 1 + k), none⟩), .int .i64 (uLo S (S.nw + 1 + k)), .int .i64 (uHi S (S.nw + 1 + k))] 0 := by rw [ha, hlo, hhi]; exact hx3
    obtain ⟨v', g4, e4, gv4, n4, f4', old4⟩ := GrowU.push (h := g2) (gv.sub hx2.sub) (by omega) (by omega) (by omega) (by omega) hx3'
    simp only [rn0, rn1, rn2, rn3, rn4, rn5, rn6, rn7, rn8, if_true, if_false, Nat.le_refl, true_and, and_true, decide_true, decide_false, Bool.not_true, Bool.not_false, reduceIte, Nat.reduceEqDiff, Nat.reduceAdd, Nat.reduceMul, Nat.reduceSub, Nat.reduceLeDiff, Nat.reduceLT, f1, f2, f42, f43, f44, e4, hw]
    exact ⟨by omega, v', fun i hi => by rw [old4 i hi, hx2.old i (by omega), hs i hi], by omega, by omega, by omega, gv4, rfl⟩
  · rintro f g ms ⟨⟨v, hs, hfg, hup, hnx, gv, f5⟩, rfl, f1, f2, f42, f43, f44⟩
    simp only [rn0, rn1, rn2, rn3, rn4, rn5, rn6, rn7, rn8, if_true, if_false, Nat.le_refl, true_and, and_true, decide_true, decide_false, Bool.not_true, Bool.not_false, reduceIte, Nat.reduceEqDiff, Nat.reduceAdd, Nat.reduceMul, Nat.reduceSub, Nat.reduceLeDiff, Nat.reduceLT, f1, f2, f5, f42, f43, f44, Int.lt_irrefl]
    exact ⟨gv.cells, gv.one, fun i hi => by rw [hs i (by omega), old1 i hi], by omega, by omega, by omega, fun a k c e => by have := (gv.block e).1; omega⟩
end Go.Vm.St

namespace Go.Vm.St
open Go.Proofs Go.Vm.Vat
set_option linter.unusedSimpArgs false
set_option linter.unusedVariables false
set_option maxRecDepth 10000
variable {n : Nat} {h : AHeap}
/-! ### The iterator over all truths: each way to choose the unknown numbers that are left, in order, is handed to 'yield' -/
/-- the first i are in their ranges; there are no more than numU -/
def OkU (S : MS) (i : Nat) (c : Nat → Int) : Prop := (∀ j, j < i → uLo S j ≤ c j ∧ c j ≤ uHi S j) ∧ ∀ j, numU S ≤ j → c j = 0
theorem enumB_pos {lo hi : Nat → Int} : ∀ (d i : Nat) (c : Nat → Int), (∀ k, i ≤ k → k < i + d → lo k ≤ hi k) → 1 ≤ (enumB lo hi d i c).length
  | 0, i, c, _ => by simp [enumB]
  | d + 1, i, c, hv => by
    have h0 := hv i (by omega) (by omega)
    simp only [enumB]
    obtain ⟨l, e⟩ := part_flat (fun (k : Nat) => enumB lo hi d (i + 1) fun j => if j = i then lo i + (k : Int) else c j) (k := 0) (m := (hi i - lo i + 1).toNat) (by omega)
    rw [e]
    have := enumB_pos (lo := lo) (hi := hi) d (i + 1) (fun j => if j = i then lo i + ((0 : Nat) : Int) else c j) fun k h1 h2 => hv k (by omega) (by omega)
    simp only [List.length_append]
    omega
section
variable {σ : Type} (Own : AHeap → Nat → Prop)
/-- rows that are one's own lie as they did -/
def Fr (g g' : AHeap) : Prop := ∀ q cs, Row g q cs → Own g q → Row g' q cs ∧ Own g' q
variable {Own}
theorem Fr.refl {g : AHeap} : Fr Own g g := fun _ _ h1 h2 => ⟨h1, h2⟩
theorem Fr.trans {g g1 g2 : AHeap} (h1 : Fr Own g g1) (h2 : Fr Own g1 g2) : Fr Own g g2 := fun q cs a b => by
  obtain ⟨a1, b1⟩ := h1 q cs a b
  exact h2 q cs a1 b1
def chooseV (pu py pb pc : Nat) : Value := .func (.func 128) ⟨[]⟩ ⟨[.pointer (some ⟨pu, 0, none⟩), .pointer (some ⟨py, 0, none⟩), .pointer (some ⟨pb, 0, none⟩), .pointer (some ⟨pc, 0, none⟩)]⟩
/-- the iterator's own rows -/
structure ItS (Own : AHeap → Nat → Prop) (S : MS) (pu py pb pc : Nat) (U yv : Value) (g : AHeap) : Prop where
  u : Row g pu [U]
  y : Row g py [yv]
  c : Row g pc [chooseV pu py pb pc]
  f : Cells g U 3 (numU S) (unkC S pb)
  ou : Own g pu
  oy : Own g py
  oc : Own g pc
  of : ∀ a k cap, U = .slice (some a) k cap → Own g a.block
theorem ItS.fr {S : MS} {pu py pb pc : Nat} {U yv : Value} {g g' : AHeap} (hi : ItS Own S pu py pb pc U yv g) (hf : Fr Own g g') : ItS Own S pu py pb pc U yv g' := by
  obtain ⟨a1, b1⟩ := hf _ _ hi.u hi.ou
  obtain ⟨a2, b2⟩ := hf _ _ hi.y hi.oy
  obtain ⟨a3, b3⟩ := hf _ _ hi.c hi.oc
  have h0 : 0 < numU S := by unfold numU; omega
  obtain ⟨a, cap, e, hsp, hz | ⟨b, o, cs, w, gr, e1, e2, e3⟩⟩ := hi.f
  · omega
  · subst e1
    obtain ⟨⟨w', gr', a4⟩, b4⟩ := hf b cs ⟨w, gr, e2⟩ (hi.of _ _ _ e)
    exact ⟨a1, a2, a3, ⟨_, cap, e, hsp, .inr ⟨b, o, cs, w', gr', rfl, a4, e3⟩⟩, b1, b2, b3, fun a' k c' e' => by rw [e] at e'; cases e'; exact b4⟩
def s128 : SCode := (.seq (.ops [⟨(some 6), none, .mov (.const (.bool false))⟩]) (.seq (.seq (.ops [⟨(some 9), none, .mov (T 0)⟩, ⟨(some 10), none, .load1 (T 1)⟩, ⟨(some 11), none, .len (T 10)⟩, ⟨(some 12), none, .int2 .eql (T 9) (T 11)⟩]) (.cond (T 12) (.seq (.ops [⟨(some 13), none, .load1 (T 2)⟩, ⟨(some 14), none, .loadN 11 (T 3)⟩, ⟨(some 15), none, .call (T 13) [(T 14)]⟩, ⟨(some 6), none, .mov (T 15)⟩]) .ret) .skip)) (.seq (.ops [⟨(some 16), none, .load1 (T 1)⟩, ⟨(some 17), none, .mov (T 0)⟩, ⟨(some 18), none, .idxSl 3 (T 16) (T 17)⟩, ⟨(some 19), none, .loadN 3 (T 18)⟩, ⟨(some 7), none, .alloc [(.pointer none), (.int .i64 (0)), (.int .i64 (0))]⟩, ⟨none, none, .store 3 (T 7) (T 19)⟩]) (.seq (.seq (.ops [⟨(some 20), none, .fieldAddr 1 (T 7)⟩, ⟨(some 21), none, .fieldAddr 0 (T 20)⟩, ⟨(some 22), none, .load1 (T 21)⟩, ⟨(some 8), none, .mov (T 22)⟩]) (.block 0 (.loop (.seq (.seq (.ops [⟨(some 23), none, .mov (T 8)⟩, ⟨(some 24), none, .fieldAddr 1 (T 7)⟩, ⟨(some 25), none, .fieldAddr 1 (T 24)⟩, ⟨(some 26), none, .load1 (T 25)⟩, ⟨(some 27), none, .int2 .leq (T 23) (T 26)⟩]) (.cond (T 27) .skip (.exit 0))) (.seq (.block 1 (.seq (.ops [⟨(some 30), none, .fieldAddr 0 (T 7)⟩, ⟨(some 31), none, .load1 (T 30)⟩, ⟨(some 32), none, .mov (T 8)⟩, ⟨(some 33), none, .there (T 31)⟩, ⟨none, none, .store 1 (T 33) (T 32)⟩]) (.seq (.ops [⟨(some 34), none, .load1 (T 4)⟩, ⟨(some 35), none, .mov (T 0)⟩, ⟨(some 36), none, .int2 .add (T 35) (.const (.int .i64 (1)))⟩, ⟨(some 37), none, .call (T 34) [(T 36)]⟩, ⟨(some 38), none, .not (T 37)⟩]) (.cond (T 38) (.seq (.ops [⟨(some 6), none, .mov (.const (.bool false))⟩]) .ret) .skip)))) (.ops [⟨(some 28), none, .mov (T 8)⟩, ⟨(some 29), none, .int2 .add (T 28) (.const (.int .i64 (1)))⟩, ⟨(some 8), none, .mov (T 29)⟩])))))) (.seq (.ops [⟨(some 6), none, .mov (.const (.bool true))⟩]) .ret)))))
theorem fok128 : FnOk Try.prog 128 39 s128 [.tmp 6] := ⟨Try.f128, _, Try.func128, rfl, Try.ntmps128, by kernel_rfl, by kernel_rfl⟩
set_option maxHeartbeats 1000000 in
theorem choose_c (step : σ → (Nat → Int) → σ × Bool) (J : σ → AHeap → Prop) {S : MS} {pu py pb pc K N0 fl : Nat} {U yv : Value} (hG : Good S)
    (hOb : ∀ g q, Own g q → q ≠ pb) (hfl : fl ≤ pb) (hN : 200 ≤ N0)
    (hJs : ∀ s g g' cs, J s g → Set1 g g' pb cs 0 → J s g') (hJn : ∀ s g g' cs, J s g → New g g' cs 0 → J s g')
    (hOs : ∀ s g g' cs q, J s g → Set1 g g' pb cs 0 → Own g q → Own g' q) (hOn : ∀ s g g' cs q, J s g → New g g' cs 0 → Own g q → Own g' q)
    (hOf : ∀ s g g' cs, J s g → New g g' cs 0 → pb < g.next → Own g' g.next)
    (hY : ∀ n g s c, N0 ≤ n → ItS Own S pu py pb pc U yv g → g.get pb = some (.row (tarr S c) true 0) → OkU S (numU S) c → J s g → g.floor = fl → g.next + K < far →
      ∃ g', call n yv [.agg ⟨tarr S c⟩] g = some (.bool (step s c).2, g') ∧ J (step s c).1 g' ∧ Fr Own g g' ∧ g'.get pb = some (.row (tarr S c) true 0) ∧ g'.floor = fl ∧ g.next ≤ g'.next ∧ g'.next ≤ g.next + K) :
    ∀ (d i n : Nat) (g : AHeap) (s : σ) (c : Nat → Int), i + d = numU S → N0 + d + 1 ≤ n → ItS Own S pu py pb pc U yv g → g.get pb = some (.row (tarr S c) true 0) → OkU S i c → J s g → g.floor = fl → g.next + (K + d) * (enumB (uLo S) (uHi S) d i c).length < far →
      ∃ g', call n (chooseV pu py pb pc) [.int .i64 (i : Int)] g = some (.bool (runL step s (enumB (uLo S) (uHi S) d i c)).2, g') ∧ J (runL step s (enumB (uLo S) (uHi S) d i c)).1 g' ∧ Fr Own g g' ∧
        (∃ c', g'.get pb = some (.row (tarr S c') true 0) ∧ ∀ j, j < i ∨ i + d ≤ j → c' j = c j) ∧ g'.floor = fl ∧ g.next ≤ g'.next ∧ g'.next ≤ g.next + (K + d) * (enumB (uLo S) (uHi S) d i c).length := by
  obtain ⟨_, _, _, z6, z4, _⟩ := hG.sizes
  intro d
  induction d with
  | zero =>
    intro i n g s c hi' hn hit hb hok hj hfg hr
    obtain ⟨n, rfl⟩ : ∃ p, n = p + 1 := ⟨n - 1, by omega⟩
    simp only [enumB, List.length_singleton, Nat.mul_one, Nat.add_zero] at hr ⊢
    obtain ⟨g', e, q1, q2, q3, q4, q5, q6⟩ := hY n g s c (by omega) hit hb (show OkU S (numU S) c from (show i = numU S by omega) ▸ hok) hj hfg hr
    have hin : (i : Int) = (numU S : Int) := by omega
    have hbr : Row g pb (tarr S c) := ⟨_, _, hb⟩
    suffices hs : ∃ v g1, call (n + 1) (chooseV pu py pb pc) [.int .i64 (i : Int)] g = some (v, g1) ∧ v = .bool (step s c).2 ∧ g1 = g' by
      obtain ⟨v, g1, e1, rfl, rfl⟩ := hs
      have hrun : runL step s [c] = step s c := by
        simp only [runL]
        by_cases e : (step s c).2 = true
        · simp only [e, if_true]; exact (Prod.ext rfl e.symm)
        · simp only [e, Bool.false_eq_true, if_false]; exact (Prod.ext rfl (by simpa using (Bool.eq_false_iff.2 e).symm))
      rw [hrun]
      exact ⟨_, e1, q1, q2, ⟨c, q3, fun _ _ => rfl⟩, q4, q5, q6⟩
    refine call_any (xs := []) (ys := [.pointer (some ⟨pu, 0, none⟩), .pointer (some ⟨py, 0, none⟩), .pointer (some ⟨pb, 0, none⟩), .pointer (some ⟨pc, 0, none⟩)]) fok128 rfl rfl (by simp) ?_
    simp only [rn0, rn1, rn2, rn3, rn4, rn5, rn6, rn7, rn8, if_true, if_false, Nat.le_refl, true_and, and_true, decide_true, decide_false, Bool.not_true, Bool.not_false, reduceIte, Nat.reduceEqDiff, Nat.reduceAdd, Nat.reduceMul, Nat.reduceSub, Nat.reduceLeDiff, Nat.reduceLT, s128, List.cons_append, List.nil_append, hit.u.ld, hit.y.ld, hbr.whole tarr_len, Nat.zero_add, List.getElem?_cons_zero, List.getElem?_cons_succ, Cells.len hit.f, hin, e]
  | succ d ih =>
    intro i n g s c hi' hn hit hb hok hj hfg hr
    obtain ⟨n, rfl⟩ : ∃ p, n = p + 1 := ⟨n - 1, by omega⟩
    have hin : ¬ (i : Int) = (numU S : Int) := by omega
    have hk : i < numU S := by omega
    obtain ⟨v1, v2, v3⟩ := hG.u i hk
    have hpb := AHeap.lt_of_get hb
    suffices hs : ∃ v g1, call (n + 1) (chooseV pu py pb pc) [.int .i64 (i : Int)] g = some (v, g1) ∧ v = .bool (runL step s (enumB (uLo S) (uHi S) (d + 1) i c)).2 ∧ J (runL step s (enumB (uLo S) (uHi S) (d + 1) i c)).1 g1 ∧ Fr Own g g1 ∧
        (∃ c', g1.get pb = some (.row (tarr S c') true 0) ∧ ∀ j, j < i ∨ i + (d + 1) ≤ j → c' j = c j) ∧ g1.floor = fl ∧ g.next ≤ g1.next ∧ g1.next ≤ g.next + (K + (d + 1)) * (enumB (uLo S) (uHi S) (d + 1) i c).length by
      obtain ⟨v, g1, e1, rfl, h2⟩ := hs
      exact ⟨g1, e1, h2⟩
    have hpos := enumB_pos (lo := uLo S) (hi := uHi S) (d + 1) i c fun k h1 h2 => (hG.u k (by omega)).2.1
    refine call_any (xs := []) (ys := [.pointer (some ⟨pu, 0, none⟩), .pointer (some ⟨py, 0, none⟩), .pointer (some ⟨pb, 0, none⟩), .pointer (some ⟨pc, 0, none⟩)]) fok128 rfl rfl (by simp) ?_
    let part : Nat → List (Nat → Int) := fun k => enumB (uLo S) (uHi S) d (i + 1) fun j => if j = i then uLo S i + (k : Int) else c j
    have hen : enumB (uLo S) (uHi S) (d + 1) i c = (List.range (uHi S i - uLo S i + 1).toNat).flatMap part := rfl
    have hm : ((uHi S i - uLo S i + 1).toNat : Int) = uHi S i - uLo S i + 1 := Int.toNat_of_nonneg (by omega)
    rw [hen] at hr hpos ⊢
    generalize hmm : (uHi S i - uLo S i + 1).toNat = m at hm hr hpos
    obtain ⟨X, hX⟩ : ∃ X, X = K + d := ⟨_, rfl⟩
    have hmul : ∀ L, (K + (d + 1)) * L = X * L + L := fun L => by rw [hX, ← Nat.add_assoc, Nat.add_mul, Nat.one_mul]
    rw [hmul] at hr ⊢
    rw [← hX] at ih
    simp only [rn0, rn1, rn2, rn3, rn4, rn5, rn6, rn7, rn8, if_true, if_false, Nat.le_refl, true_and, and_true, decide_true, decide_false, Bool.not_true, Bool.not_false, reduceIte, Nat.reduceEqDiff, Nat.reduceAdd, Nat.reduceMul, Nat.reduceSub, Nat.reduceLeDiff, Nat.reduceLT, s128, List.cons_append, List.nil_append, hit.u.ld, Nat.zero_add, List.getElem?_cons_zero, List.getElem?_cons_succ, Cells.len hit.f, hin, Cells.idx hit.f hk, unk_ld hit.f hk]
    refine step_new (vs := [.pointer (some ⟨pb, adr S i, none⟩), .int .i64 (uLo S i), .int .i64 (uHi S i)]) (by omega) (by omega) rfl (by simp only [rn0, rn1, rn2, rn3, rn4, rn5, rn6, rn7, rn8, if_true, if_false, Nat.le_refl, true_and, and_true, decide_true, decide_false, Bool.not_true, Bool.not_false, reduceIte, Nat.reduceEqDiff, Nat.reduceAdd, Nat.reduceMul, Nat.reduceSub, Nat.reduceLeDiff, Nat.reduceLT]; rfl) rfl rfl rfl fun g2 hx2 => ?_
    have n2 := hx2.next
    have f2 := hx2.floor
    have j2 := hJn s g g2 _ hj hx2
    have fr2 : Fr Own g g2 := fun q cs a b => ⟨a.mono hx2.sub, hOn s g g2 _ q hj hx2 b⟩
    have o2 : Own g2 g.next := hOf s g g2 _ hj hx2 hpb
    have it2 := hit.fr fr2
    have hb2 : g2.get pb = some (.row (tarr S c) true 0) := by rw [hx2.old _ hpb]; exact hb
    have rl2 : Row g2 g.next [.pointer (some ⟨pb, adr S i, none⟩), .int .i64 (uLo S i), .int .i64 (uHi S i)] := hx2.row
    have ha := adr_lt z6 z4 hk
    simp only [rn0, rn1, rn2, rn3, rn4, rn5, rn6, rn7, rn8, if_true, if_false, Nat.le_refl, true_and, and_true, decide_true, decide_false, Bool.not_true, Bool.not_false, reduceIte, Nat.reduceEqDiff, Nat.reduceAdd, Nat.reduceMul, Nat.reduceSub, Nat.reduceLeDiff, Nat.reduceLT, rl2.ld, Nat.zero_add, List.getElem?_cons_zero, List.getElem?_cons_succ]
    refine W_loop m (fun k f g1 ms => (Fr Own g2 g1 ∧ (∃ c', g1.get pb = some (.row (tarr S c') true 0) ∧ ∀ j, j < i ∨ i + (d + 1) ≤ j → c' j = c j) ∧ J (runL step s ((List.range k).flatMap part)).1 g1 ∧ (runL step s ((List.range k).flatMap part)).2 = true ∧
      g1.floor = fl ∧ g2.next ≤ g1.next ∧ g1.next ≤ g2.next + X * ((List.range k).flatMap part).length) ∧ ms = [] ∧ f 0 = .int .i64 (i : Int) ∧ f 4 = .pointer (some ⟨pc, 0, none⟩) ∧ f 7 = .pointer (some ⟨g.next, 0, none⟩) ∧ f 8 = .int .i64 (uLo S i + (k : Int))) (by simp; omega) ?_ ?_ ?_
    · simp only [rn0, rn1, rn2, rn3, rn4, rn5, rn6, rn7, rn8, if_true, if_false, Nat.le_refl, true_and, and_true, decide_true, decide_false, Bool.not_true, Bool.not_false, reduceIte, Nat.reduceEqDiff, Nat.reduceAdd, Nat.reduceMul, Nat.reduceSub, Nat.reduceLeDiff, Nat.reduceLT, Int.natCast_zero, Int.add_zero]
      simp only [List.range_zero, List.flatMap_nil, runL, List.length_nil, Nat.mul_zero, Nat.add_zero, Nat.le_refl, and_true]
      exact ⟨.refl, ⟨c, hb2, fun _ _ => rfl⟩, j2, trivial, by omega⟩
    · rintro k f g1 ms hkm ⟨⟨fr1, ⟨c', hb1, hc'⟩, hj1, hr1, hf1, hu1, hn1⟩, rfl, f0, f4, f7, f8⟩
      have hle : uLo S i + (k : Int) ≤ uHi S i := by omega
      have hlt := AHeap.lt_of_get hb1
      have it1 := it2.fr fr1
      obtain ⟨rl1, o1⟩ := fr1 _ _ rl2 o2
      obtain ⟨rest, hpart⟩ := part_flat part hkm
      have hlen : ((List.range m).flatMap part).length = ((List.range k).flatMap part).length + ((part k).length + rest.length) := by rw [hpart]; simp
      have hK : X * ((List.range m).flatMap part).length = X * ((List.range k).flatMap part).length + (X * (part k).length + X * rest.length) := by rw [hlen, Nat.mul_add, Nat.mul_add]
      simp only [rn0, rn1, rn2, rn3, rn4, rn5, rn6, rn7, rn8, if_true, if_false, Nat.le_refl, true_and, and_true, decide_true, decide_false, Bool.not_true, Bool.not_false, reduceIte, Nat.reduceEqDiff, Nat.reduceAdd, Nat.reduceMul, Nat.reduceSub, Nat.reduceLeDiff, Nat.reduceLT, f0, f4, f7, f8, rl1.ld, Nat.zero_add, Nat.reduceAdd, List.getElem?_cons_zero, List.getElem?_cons_succ, hle, there_p]
      refine step_store (b := pb) (off := adr S i) (vs := [.int .i64 (uLo S i + (k : Int))]) rfl hb1 (by omega) (by omega) rfl rfl rfl (by rw [tarr_len]; simp; omega) fun g3 hs => ?_
      have hb3 := hs.get
      rw [tarr_set z6 z4 hk] at hb3
      have fr3 : Fr Own g1 g3 := fun q cs a b => ⟨a.keep hs.keep (hOb _ _ b), hOs _ g1 g3 _ q hj1 hs b⟩
      have it3 := it1.fr fr3
      have hw : wrapF .i64 ((i : Int) + 1) = ((i + 1 : Nat) : Int) := by rw [wrap_in (by unfold numU at hk; omega) (by unfold numU at hk; omega)]; rfl
      have hcg : enumB (uLo S) (uHi S) d (i + 1) (setU c' i (uLo S i + (k : Int))) = part k := enumB_congr d (i + 1) _ _ fun j hj => by
        by_cases e : j = i
        · simp [e, setU]
        · simp only [setU, e, if_false]; exact hc' j (by omega)
      have hnx := hs.next
      have hok2 : OkU S (i + 1) (setU c' i (uLo S i + (k : Int))) := by
        refine ⟨fun j hj => ?_, fun j hj => ?_⟩
        · by_cases e : j = i
          · subst e; simp only [setU, if_true]; omega
          · simp only [setU, e, if_false]; rw [hc' j (by omega)]; exact hok.1 j (by omega)
        · have e : ¬ j = i := by omega
          simp only [setU, e, if_false]; rw [hc' j (by omega)]; exact hok.2 j hj
      obtain ⟨g4, e, j4, fr4, ⟨c4, hb4, hc4⟩, fl4, u4, n4⟩ := ih (i + 1) n g3 _ _ (by omega) (by omega) it3 hb3 hok2 (hJs _ _ _ _ hj1 hs) (by rw [hs.floor, hf1]) (by rw [hcg]; omega)
      rw [hcg] at e j4 n4
      have hw2 : wrapF .i64 (uLo S i + (k : Int) + 1) = uLo S i + ((k + 1 : Nat) : Int) := by rw [wrap_in (by omega) (by omega)]; omega
      have hc4' : ∀ j, j < i ∨ i + (d + 1) ≤ j → c4 j = c j := fun j hj => by
        rw [hc4 j (by omega)]; simp only [setU]; rw [if_neg (by omega)]; exact hc' j hj
      have fr14 := fr1.trans (fr3.trans fr4)
      by_cases hq : (runL step (runL step s ((List.range k).flatMap part)).1 (part k)).2 = true
      · have hrun : runL step s ((List.range (k + 1)).flatMap part) = runL step (runL step s ((List.range k).flatMap part)).1 (part k) := by
          rw [List.range_succ, List.flatMap_append, runL_append, hr1, if_pos rfl]; simp
        have hl3 : ((List.range (k + 1)).flatMap part).length = ((List.range k).flatMap part).length + (part k).length := by rw [List.range_succ, List.flatMap_append, List.length_append]; simp
        rw [hq] at e
        simp only [rn0, rn1, rn2, rn3, rn4, rn5, rn6, rn7, rn8, if_true, if_false, Nat.le_refl, true_and, and_true, decide_true, decide_false, Bool.not_true, Bool.not_false, reduceIte, Nat.reduceEqDiff, Nat.reduceAdd, Nat.reduceMul, Nat.reduceSub, Nat.reduceLeDiff, Nat.reduceLT, f0, f4, f7, f8, it3.c.ld, Nat.zero_add, List.getElem?_cons_zero, List.getElem?_cons_succ, hw, e, hw2]
        rw [hrun, hl3, Nat.mul_add]
        exact ⟨fr14, ⟨c4, hb4, hc4'⟩, j4, hq, fl4, by omega, by omega⟩
      · have hq' : (runL step (runL step s ((List.range k).flatMap part)).1 (part k)).2 = false := by simpa using hq
        have hrun : runL step s ((List.range m).flatMap part) = runL step (runL step s ((List.range k).flatMap part)).1 (part k) := by
          rw [hpart, runL_append, hr1, if_pos rfl, runL_append, hq', if_neg (by simp)]
        rw [hq'] at e
        simp only [rn0, rn1, rn2, rn3, rn4, rn5, rn6, rn7, rn8, if_true, if_false, Nat.le_refl, true_and, and_true, decide_true, decide_false, Bool.not_true, Bool.not_false, reduceIte, Nat.reduceEqDiff, Nat.reduceAdd, Nat.reduceMul, Nat.reduceSub, Nat.reduceLeDiff, Nat.reduceLT, f0, f4, f7, f8, it3.c.ld, Nat.zero_add, List.getElem?_cons_zero, List.getElem?_cons_succ, hw, e]
        rw [hrun, hq']
        exact ⟨rfl, j4, fr2.trans fr14, ⟨c4, hb4, hc4'⟩, fl4, by omega, by omega⟩
    · rintro f g1 ms ⟨⟨fr1, ⟨c', hb1, hc'⟩, hj1, hr1, hf1, hu1, hn1⟩, rfl, f0, f4, f7, f8⟩
      have hle : ¬ uLo S i + (m : Int) ≤ uHi S i := by omega
      obtain ⟨rl1, o1⟩ := fr1 _ _ rl2 o2
      simp only [rn0, rn1, rn2, rn3, rn4, rn5, rn6, rn7, rn8, if_true, if_false, Nat.le_refl, true_and, and_true, decide_true, decide_false, Bool.not_true, Bool.not_false, reduceIte, Nat.reduceEqDiff, Nat.reduceAdd, Nat.reduceMul, Nat.reduceSub, Nat.reduceLeDiff, Nat.reduceLT, f0, f4, f7, f8, rl1.ld, Nat.zero_add, Nat.reduceAdd, List.getElem?_cons_zero, List.getElem?_cons_succ, hle]
      exact ⟨by rw [hr1], hj1, fr2.trans fr1, ⟨c', hb1, hc'⟩, hf1, by omega, by omega⟩
def s127 : SCode := (.seq (.ops [⟨(some 2), none, .box (T 0)⟩]) (.seq (.ops [⟨(some 3), none, .alloc [(.int .i64 (0)), (.int .i64 (0)), (.int .i64 (0)), (.int .i64 (0)), (.int .i64 (0)), (.int .i64 (0)), (.int .i64 (0)), (.int .i64 (0)), (.int .i64 (0)), (.int .i64 (0)), (.int .i64 (0))]⟩]) (.seq (.ops [⟨(some 6), none, .loadN 8 (T 1)⟩, ⟨(some 7), none, .call (.func 103) [(T 6), (T 3)]⟩, ⟨(some 4), none, .alloc [(.slice none 0 0)]⟩, ⟨none, none, .store 1 (T 4) (T 7)⟩]) (.seq (.ops [⟨(some 5), none, .alloc [.nilFunc]⟩]) (.seq (.ops [⟨(some 8), none, .mkfunc 128 [] [(T 4), (T 2), (T 3), (T 5)]⟩, ⟨none, none, .store 1 (T 5) (T 8)⟩]) (.ops [⟨(some 9), none, .load1 (T 5)⟩, ⟨(some 10), none, .call (T 9) [(.const (.int .i64 (0)))]⟩]))))))
theorem fok127 : FnOk Try.prog 127 11 s127 [] := ⟨Try.f127, _, Try.func127, rfl, Try.ntmps127, by kernel_rfl, by kernel_rfl⟩
set_option maxHeartbeats 1000000 in
theorem iter_c (step : σ → (Nat → Int) → σ × Bool) (J : σ → AHeap → Prop) {S : MS} {g : AHeap} {pw K N0 n : Nat} {wv vv sv tv yv : Value} (s : σ) (hG : Good S)
    (hw : Row g pw (wkL S wv vv sv tv)) (hy : SteepR g wv vv sv S) (ht : oneCell tv = true) (hyv : oneCell yv = true) (hfl : g.floor ≤ g.next) (hN : 200 ≤ N0) (hn : N0 + 20 ≤ n)
    (hOb : ∀ g' q, Own g' q → q ≠ g.next + 1)
    (hJs : ∀ s g1 g' cs, J s g1 → Set1 g1 g' (g.next + 1) cs 0 → J s g') (hJn : ∀ s g1 g' cs, J s g1 → New g1 g' cs 0 → J s g')
    (hOs : ∀ s g1 g' cs q, J s g1 → Set1 g1 g' (g.next + 1) cs 0 → Own g1 q → Own g' q) (hOn : ∀ s g1 g' cs q, J s g1 → New g1 g' cs 0 → Own g1 q → Own g' q)
    (hOf : ∀ s g1 g' cs, J s g1 → New g1 g' cs 0 → g.next + 1 < g1.next → Own g' g1.next)
    (hJ0 : ∀ g', (∀ i, i < g.next → g'.get i = g.get i) → g'.floor = g.floor → g.next + 2 ≤ g'.next → J s g' ∧ ∀ q, g.next ≤ q → q < g'.next → q ≠ g.next + 1 → Own g' q)
    (hY : ∀ n g1 s c pu py pc U, N0 ≤ n → ItS Own S pu py (g.next + 1) pc U yv g1 → g1.get (g.next + 1) = some (.row (tarr S c) true 0) → OkU S (numU S) c → J s g1 → g1.floor = g.floor → g1.next + K < far →
      ∃ g', call n yv [.agg ⟨tarr S c⟩] g1 = some (.bool (step s c).2, g') ∧ J (step s c).1 g' ∧ Fr Own g1 g' ∧ g'.get (g.next + 1) = some (.row (tarr S c) true 0) ∧ g'.floor = g.floor ∧ g1.next ≤ g'.next ∧ g'.next ≤ g1.next + K)
    (hr : g.next + 300 + (K + 11) * (enumB (uLo S) (uHi S) (numU S) 0 fun _ => 0).length < far) :
    ∃ v g', call n (.func (.func 127) ⟨[]⟩ ⟨[.pointer (some ⟨pw, 0, none⟩)]⟩) [yv] g = some (v, g') ∧ J (runL step s (enumB (uLo S) (uHi S) (numU S) 0 fun _ => 0)).1 g' ∧ g'.floor = g.floor ∧ g.next ≤ g'.next ∧ g'.next ≤ g.next + 300 + (K + 11) * (enumB (uLo S) (uHi S) (numU S) 0 fun _ => 0).length := by
  obtain ⟨n, rfl⟩ : ∃ p, n = p + 1 := ⟨n - 1, by omega⟩
  obtain ⟨_, _, _, z6, z4, _⟩ := hG.sizes
  have hnu : numU S ≤ 11 := by unfold numU; omega
  refine call_any (xs := []) (ys := [.pointer (some ⟨pw, 0, none⟩)]) fok127 rfl rfl (by simp) ?_
  simp only [s127, List.cons_append, List.nil_append, W_seq, W_ops]
  refine ops_box (cs := [yv]) (by omega) (by simp only [rn0, rn1, rn2, rn3, rn4, rn5, rn6, rn7, rn8, if_true, if_false, Nat.le_refl, true_and, and_true, decide_true, decide_false, Bool.not_true, Bool.not_false, reduceIte, Nat.reduceEqDiff, Nat.reduceAdd, Nat.reduceMul, Nat.reduceSub, Nat.reduceLeDiff, Nat.reduceLT]; cases yv <;> first | rfl | cases hyv) (by simp [allB, hyv]) fun g1 hx1 => ?_
  have n1 := hx1.next
  have f1 := hx1.floor
  simp only [rn0, rn1, rn2, rn3, rn4, rn5, rn6, rn7, rn8, if_true, if_false, Nat.le_refl, true_and, and_true, decide_true, decide_false, Bool.not_true, Bool.not_false, reduceIte, Nat.reduceEqDiff, Nat.reduceAdd, Nat.reduceMul, Nat.reduceSub, Nat.reduceLeDiff, Nat.reduceLT]
  refine step_row (cs := tarr S fun _ => 0) (by omega) (by simp [tarr, List.range_succ, cellU]) tarr_one fun g2 hx2 => ?_
  have n2 := hx2.next
  have f2 := hx2.floor
  have hpw : pw < g.next := by obtain ⟨w, gr, e⟩ := hw; exact AHeap.lt_of_get e
  have e1 : g1.next = g.next + 1 := n1
  have e2 : g2.next = g.next + 2 := by omega
  have sub2 : Sub All g g2 := hx1.sub.trans hx2.sub
  obtain ⟨U, g3, eU, cU, oU, oldU, uU, mU, fU, bU⟩ := unknownsB_c (n := n) (h := g2) (by omega) (by omega) (by omega) (hy.mono sub2) ht z6 z4 (pb := g.next + 1)
  simp only [rn0, rn1, rn2, rn3, rn4, rn5, rn6, rn7, rn8, if_true, if_false, Nat.le_refl, true_and, and_true, decide_true, decide_false, Bool.not_true, Bool.not_false, reduceIte, Nat.reduceEqDiff, Nat.reduceAdd, Nat.reduceMul, Nat.reduceSub, Nat.reduceLeDiff, Nat.reduceLT, (hw.mono sub2).whole (n := 8) rfl, e1, eU]
  refine step_new (vs := [U]) (by omega) (by omega) rfl (by simp only [rn0, rn1, rn2, rn3, rn4, rn5, rn6, rn7, rn8, if_true, if_false, Nat.le_refl, true_and, and_true, decide_true, decide_false, Bool.not_true, Bool.not_false, reduceIte, Nat.reduceEqDiff, Nat.reduceAdd, Nat.reduceMul, Nat.reduceSub, Nat.reduceLeDiff, Nat.reduceLT]; exact cells1 oU) (by simp [allB, oU]) rfl rfl fun g4 hx4 => ?_
  have n4 := hx4.next
  have f4 := hx4.floor
  simp only [rn0, rn1, rn2, rn3, rn4, rn5, rn6, rn7, rn8, if_true, if_false, Nat.le_refl, true_and, and_true, decide_true, decide_false, Bool.not_true, Bool.not_false, reduceIte, Nat.reduceEqDiff, Nat.reduceAdd, Nat.reduceMul, Nat.reduceSub, Nat.reduceLeDiff, Nat.reduceLT]
  refine step_row (cs := [.nilFunc]) (by omega) rfl rfl fun g5 hx5 => ?_
  have n5 := hx5.next
  have f5 := hx5.floor
  simp only [rn0, rn1, rn2, rn3, rn4, rn5, rn6, rn7, rn8, if_true, if_false, Nat.le_refl, true_and, and_true, decide_true, decide_false, Bool.not_true, Bool.not_false, reduceIte, Nat.reduceEqDiff, Nat.reduceAdd, Nat.reduceMul, Nat.reduceSub, Nat.reduceLeDiff, Nat.reduceLT]
  refine step_store (b := g4.next) (gr := 0) (vs := [chooseV g3.next g.next (g.next + 1) g4.next]) rfl hx5.get (by omega) (by omega) rfl rfl rfl (by simp) fun g6 hs => ?_
  have n6 := hs.next
  have f6 := hs.floor
  have es : splice [Value.nilFunc] 0 [chooseV g3.next g.next (g.next + 1) g4.next] = [chooseV g3.next g.next (g.next + 1) g4.next] := rfl
  rw [es] at hs
  have hs6 : ∀ i, i < g4.next → g6.get i = g4.get i := fun i hi => by rw [hs.old i (by omega), hx5.old i hi]
  have hs63 : ∀ i, i < g3.next → g6.get i = g3.get i := fun i hi => by rw [hs6 i (by omega), hx4.old i hi]
  have hs62 : ∀ i, i < g2.next → g6.get i = g2.get i := fun i hi => by rw [hs63 i (by omega), oldU i hi]
  have hb6 : g6.get (g.next + 1) = some (.row (tarr S fun _ => 0) true 0) := by
    rw [hs62 _ (by omega)]; have := hx2.get; rw [e1] at this; exact this
  have hy6 : Row g6 g.next [yv] := ⟨true, 0, by rw [hs62 _ (by omega), hx2.old _ (by omega)]; exact hx1.get⟩
  have hold : ∀ i, i < g.next → g6.get i = g.get i := fun i hi => by rw [hs62 i (by omega), hx2.old i (by omega), hx1.old i hi]
  obtain ⟨j6, o6⟩ := hJ0 g6 hold (by omega) (by omega)
  have hU6 : Cells g6 U 3 (numU S) (unkC S (g.next + 1)) := Cells.mono cU (AHeap.subOf hs63)
  have h0 : 0 < numU S := by unfold numU; omega
  have hUb : ∀ a k cap, U = .slice (some a) k cap → g2.next ≤ a.block ∧ a.block < g3.next := fun a k cap e => by
    refine ⟨bU a k cap e, ?_⟩
    obtain ⟨a', c', e', _, hz | ⟨b, o, cs, w, gr, e2, e3, _⟩⟩ := cU
    · omega
    · rw [e] at e'
      cases e'
      cases e2
      exact AHeap.lt_of_get e3
  have hit : ItS Own S g3.next g.next (g.next + 1) g4.next U yv g6 := by
    refine ⟨⟨true, 0, by rw [hs6 _ (by omega)]; exact hx4.get⟩, hy6, ⟨true, 0, hs.get⟩, hU6, o6 _ (by omega) (by omega) (by omega), o6 _ (by omega) (by omega) (by omega), o6 _ (by omega) (by omega) (by omega), fun a k cap e => ?_⟩
    obtain ⟨q1, q2⟩ := hUb a k cap e
    exact o6 _ (by omega) (by omega) (by omega)
  have hle : (K + numU S) * (enumB (uLo S) (uHi S) (numU S) 0 fun _ => 0).length ≤ (K + 11) * (enumB (uLo S) (uHi S) (numU S) 0 fun _ => 0).length := Nat.mul_le_mul_right _ (by omega)
  have hch := choose_c step J (S := S) (pu := g3.next) (py := g.next) (pb := g.next + 1) (pc := g4.next) (K := K) (N0 := N0) (fl := g.floor) (U := U) (yv := yv) hG hOb (by omega) hN hJs hJn hOs hOn hOf (fun n g1 s c h1 h2 h3 h4 h5 h6 h7 => hY n g1 s c _ _ _ _ h1 h2 h3 h4 h5 h6 h7) (numU S) 0 n g6 s (fun _ => 0) (by omega) (by omega) hit hb6 ⟨fun j hj => by omega, fun _ _ => rfl⟩ j6 (by omega) (by omega)
  obtain ⟨g7, q1, q2, q3, q4, q5, q6, q7⟩ := hch
  have hl : loadCell g6 (.pointer (some ⟨g4.next, 0, none⟩)) = some (chooseV g3.next g.next (g.next + 1) g4.next) := by rw [hs.row.ld]; rfl
  have q1' : call n (chooseV g3.next g.next (g.next + 1) g4.next) [.int .i64 0] g6 = some (.bool (runL step s (enumB (uLo S) (uHi S) (numU S) 0 fun _ => 0)).2, g7) := q1
  simp only [rn0, rn1, rn2, rn3, rn4, rn5, rn6, rn7, rn8, if_true, if_false, Nat.le_refl, true_and, and_true, decide_true, decide_false, Bool.not_true, Bool.not_false, reduceIte, Nat.reduceEqDiff, Nat.reduceAdd, Nat.reduceMul, Nat.reduceSub, Nat.reduceLeDiff, Nat.reduceLT, hl, q1']
  exact ⟨_, rfl, q2, by rw [q5], by omega, by omega⟩
end
end Go.Vm.St

namespace Go.Vm.St
open Go.Proofs Go.Vm.Vat
set_option linter.unusedSimpArgs false
set_option linter.unusedVariables false
set_option maxRecDepth 10000
variable {n : Nat} {h : AHeap}
def s123 : SCode := (.seq (.ops [⟨(some 3), none, .box (T 0)⟩, ⟨(some 4), none, .box (T 1)⟩, ⟨(some 5), none, .box (T 2)⟩, ⟨(some 6), none, .mov (.const (.bool false))⟩]) (.seq (.draw [⟨.rd1, ⟨(some 7), none, .loadN 8 (T 3)⟩⟩, ⟨.rd1, ⟨(some 8), none, .loadN 11 (T 4)⟩⟩, ⟨.free, ⟨(some 9), none, .fieldAddr 0 (T 5)⟩⟩, ⟨.rd1, ⟨(some 10), none, .load1 (T 9)⟩⟩, ⟨.free, ⟨(some 11), none, .fieldAddr 1 (T 5)⟩⟩, ⟨.rd1, ⟨(some 12), none, .load1 (T 11)⟩⟩, ⟨.up, ⟨(some 13), none, .call (.func 78) [(T 7), (T 8), (T 10), (T 12)]⟩⟩, ⟨.free, ⟨(some 14), none, .fieldAddr 2 (T 5)⟩⟩, ⟨.rd, ⟨(some 15), none, .load1 (T 14)⟩⟩, ⟨.free, ⟨(some 16), none, .int2 .eql (T 13) (T 15)⟩⟩, ⟨.free, ⟨(some 6), none, .mov (T 16)⟩⟩]) .ret))
theorem fok123 : FnOk Try.prog 123 17 s123 [.tmp 6] := ⟨Try.f123, _, Try.func123, rfl, Try.ntmps123, by kernel_rfl, by kernel_rfl⟩
theorem isRightW_c (hn : 125 ≤ n) (hr : h.next + 60 < far) {wv vv sv tv : Value} {S : MS} {u : Nat → Int} (hy : SteepR h wv vv sv S) (ht : oneCell tv = true) (hG : Good S) (hu : InU S u) {k : Nat} (hk : k < S.ns) :
    call n (.func (.func 123) #[] #[]) [.agg ⟨wkL S wv vv sv tv⟩, .agg ⟨tarr S u⟩, .agg ⟨[.int .i64 (S.sv k), .int .i64 (S.sh k), .int .i64 (S.sk k)]⟩] h = some (.bool (decide (RightS S u k)), h) := by
  obtain ⟨n, rfl⟩ : ∃ p, n = p + 1 := ⟨n - 1, by omega⟩
  refine call_plain0 fok123 rfl rfl (by simp) rfl ?_
  have hy := hy.shut
  have hr : h.shutAll.next + 60 < far := hr
  generalize h.shutAll = h at hy hr
  obtain ⟨⟨a1, a2⟩, ⟨b1, b2⟩, c1, c2⟩ := hG.args.smell k hk
  have ho : HourOk S (S.sv k).toNat (S.sh k) := ⟨by omega, b1, b2⟩
  have ev : S.sv k = ((S.sv k).toNat : Int) := by omega
  simp only [s123, W_seq, W_ops]
  refine ops_box (cs := wkL S wv vv sv tv) (by omega) rfl (wk_one hy ht) fun g1 hx1 => ?_
  have n1 := hx1.next
  refine ops_box (cs := tarr S u) (by omega) rfl tarr_one fun g2 hx2 => ?_
  have n2 := hx2.next
  refine ops_box (cs := [.int .i64 (S.sv k), .int .i64 (S.sh k), .int .i64 (S.sk k)]) (by omega) rfl rfl fun g3 hx3 => ?_
  have n3 := hx3.next
  have hy3 := ((hy.mono hx1.sub).mono hx2.sub).mono hx3.sub
  have r1 := (hx1.row.mono hx2.sub).mono hx3.sub
  have r2 := hx2.row.mono hx3.sub
  have ek := kindW_c (n := n) (h := g3) (by omega) (by omega) hy3 ht hG hu ho
  rw [← ev] at ek
  simp only [rn0, rn1, rn2, rn3, rn4, rn5, rn6, rn7, rn8, if_true, if_false, Nat.le_refl, true_and, and_true, decide_true, decide_false, Bool.not_true, Bool.not_false, reduceIte, Nat.reduceEqDiff, Nat.reduceAdd, Nat.reduceMul, Nat.reduceSub, Nat.reduceLeDiff, Nat.reduceLT]
  refine W_draw All ?_
  have hR : (kindS S u (S.sv k).toNat (S.sh k) = S.sk k) = RightS S u k := rfl
  simp only [rn0, rn1, rn2, rn3, rn4, rn5, rn6, rn7, rn8, if_true, if_false, Nat.le_refl, true_and, and_true, decide_true, decide_false, Bool.not_true, Bool.not_false, reduceIte, Nat.reduceEqDiff, Nat.reduceAdd, Nat.reduceMul, Nat.reduceSub, Nat.reduceLeDiff, Nat.reduceLT, r1.whole (n := 8) rfl, r2.whole tarr_len, hx3.row.ld, Nat.zero_add, List.getElem?_cons_zero, List.getElem?_cons_succ, ek, eqV_int, hR]
theorem enum_len {S : MS} (hG : Good S) : (enumB (uLo S) (uHi S) (numU S) 0 fun _ => 0).length ≤ 2000 := by
  have h1 := enumB_len (lo := uLo S) (hi := uHi S) (numU S) 0 (fun _ => 0) fun k _ hk => (hG.u k (by omega)).2.1
  have h2 := sizeN_prod (lo := uLo S) (hi := uHi S) (numU S) 0
  simp only [Nat.zero_add, sizeN, Int.one_mul] at h2
  have h3 := many_size hG.args
  have h4 := hG.few
  omega
def s108 : SCode := (.seq (.ops [⟨(some 1), none, .box (T 0)⟩, ⟨(some 2), none, .mov (.const .nilFunc)⟩]) (.seq (.ops [⟨(some 3), none, .mkfunc 127 [] [(T 1)]⟩, ⟨(some 2), none, .mov (T 3)⟩]) .ret))
theorem fok108 : FnOk Try.prog 108 4 s108 [.tmp 2] := ⟨Try.f108, _, Try.func108, rfl, Try.ntmps108, by kernel_rfl, by kernel_rfl⟩
theorem allTruths_c (hn : 1 ≤ n) (hr : h.next < far) {cs : List Value} (h1 : allB oneCell cs = true) (hl : cs.length = 8) :
    ∃ h', call n (.func (.func 108) #[] #[]) [.agg ⟨cs⟩] h = some (.func (.func 127) ⟨[]⟩ ⟨[.pointer (some ⟨h.next, 0, none⟩)]⟩, h') ∧ New h h' cs 0 := by
  obtain ⟨n, rfl⟩ : ∃ p, n = p + 1 := ⟨n - 1, by omega⟩
  suffices hs : ∃ v h', call (n + 1) (.func (.func 108) #[] #[]) [.agg ⟨cs⟩] h = some (v, h') ∧ v = .func (.func 127) ⟨[]⟩ ⟨[.pointer (some ⟨h.next, 0, none⟩)]⟩ ∧ New h h' cs 0 by
    obtain ⟨v, h', e, rfl, hx⟩ := hs
    exact ⟨h', e, hx⟩
  refine call_any0 fok108 rfl rfl (by simp) ?_
  simp only [s108, W_seq, W_ops]
  refine ops_box (cs := cs) (by omega) rfl h1 fun g1 hx1 => ?_
  simp only [rn0, rn1, rn2, rn3, rn4, rn5, rn6, rn7, rn8, if_true, if_false, Nat.le_refl, true_and, and_true, decide_true, decide_false, Bool.not_true, Bool.not_false, reduceIte, Nat.reduceEqDiff, Nat.reduceAdd, Nat.reduceMul, Nat.reduceSub, Nat.reduceLeDiff, Nat.reduceLT]
  exact hx1
theorem call_yield {l : Nat} {args : List Value} : call (n + 1) (.func (.yield l) #[] #[]) args h = roundA Try.prog (call n) n l args h := rfl
/-- what 'open' keeps while it goes through the truths -/
structure JO (h2 : AHeap) (p : Nat) (S : MS) (wv vv sv : Value) (s : List (Nat → Int)) (g : AHeap) : Prop where
  old : ∀ i, i < h2.next → i ≠ p → g.get i = h2.get i
  tv : ∃ tv, g.get p = some (.row (wkL S wv vv sv tv) true 0) ∧ GrowC (h2.next + 2) g tv 11 s.length fun k j => .int .i64 (cellU S (s.getD k fun _ => 0) j)
  up : h2.next + 2 ≤ g.next
  len : s.length ≤ g.next
end Go.Vm.St

namespace Go.Vm.St
open Go.Proofs Go.Vm.Vat
set_option linter.unusedSimpArgs false
set_option linter.unusedVariables false
set_option maxRecDepth 10000
variable {n : Nat} {h : AHeap}
/-- the same truth -/
def SameT (S : MS) (a b : Nat → Int) : Prop := ∀ j, j < 11 → cellU S a j = cellU S b j
noncomputable instance (S : MS) (a b : Nat → Int) : Decidable (SameT S a b) := Classical.propDecidable _
/-- the truth is among them -/
def HasT (S : MS) (l : List (Nat → Int)) (c : Nat → Int) : Prop := ∃ k, k < l.length ∧ SameT S c (l.getD k fun _ => 0)
noncomputable instance (S : MS) (l : List (Nat → Int)) (c : Nat → Int) : Decidable (HasT S l c) := Classical.propDecidable _
end Go.Vm.St

namespace Go.Vm.St
open Go.Proofs Go.Vm.Vat
set_option linter.unusedSimpArgs false
set_option linter.unusedVariables false
set_option maxRecDepth 10000
variable {n : Nat} {h : AHeap}
theorem truths_mem {S : MS} {t : Nat → Int} : t ∈ truthsS S ↔ (InU S t ∧ ∀ j, numU S ≤ j → t j = 0) ∧ ∀ k, k < S.ns → RightS S t k := by
  unfold truthsS
  rw [List.mem_filter, enumB_ok, decide_eq_true_eq]
  constructor
  · rintro ⟨⟨h1, h2⟩, h3⟩
    exact ⟨⟨fun i hi => h1 i (by omega) (by omega), fun j hj => h2 j (by omega)⟩, h3⟩
  · rintro ⟨⟨h1, h2⟩, h3⟩
    exact ⟨⟨fun i _ hi => h1 i (by omega), fun j hj => h2 j (by omega)⟩, h3⟩
noncomputable instance (S : MS) (m1 : Nat) (a1 : Nat → Int) (sp : Int) (m2 : Nat) (a2 : Nat → Int) : Decidable (TruthL S m1 a1 sp m2 a2) := Classical.propDecidable _
end Go.Vm.St

namespace Go.Vm.St
open Go.Proofs Go.Vm.Vat
set_option linter.unusedSimpArgs false
set_option linter.unusedVariables false
set_option maxRecDepth 10000
variable {n : Nat} {h : AHeap}
/-! ### A steep opened for a vat -/
def s120 : SCode := (.seq (.ops [⟨(some 4), none, .mov (.const (.bool false))⟩]) (.seq (.seq (.ops [⟨(some 7), none, .mov (T 0)⟩, ⟨(some 8), none, .len (T 7)⟩, ⟨(some 9), none, .mov (.const (.int .i64 (0)))⟩]) (.block 0 (.loop (.seq (.ops [⟨(some 10), none, .int2 .lss (T 9) (T 8)⟩]) (.seq (.cond (T 10) .skip (.exit 0)) (.seq (.block 1 (.seq (.ops [⟨(some 11), none, .idxSl 1 (T 7) (T 9)⟩, ⟨(some 12), none, .load1 (T 11)⟩, ⟨(some 6), none, .mov (T 12)⟩]) (.seq (.ops [⟨(some 13), none, .mov (T 1)⟩, ⟨(some 14), none, .mov (T 6)⟩, ⟨(some 15), none, .call (T 13) [(T 14)]⟩, ⟨(some 16), none, .not (T 15)⟩]) (.cond (T 16) (.seq (.ops [⟨(some 4), none, .mov (.const (.bool false))⟩]) .ret) .skip)))) (.ops [⟨(some 17), none, .int2 .add (T 9) (.const (.int .i64 (1)))⟩, ⟨(some 9), none, .mov (T 17)⟩]))))))) (.seq (.ops [⟨(some 4), none, .mov (.const (.bool true))⟩]) .ret)))
theorem fok120 : FnOk Try.prog 120 18 s120 [.tmp 4] := ⟨Try.f120, _, Try.func120, rfl, Try.ntmps120, by kernel_rfl, by kernel_rfl⟩
end Go.Vm.St

namespace Go.Vm.St
open Go.Proofs Go.Vm.Vat
set_option linter.unusedSimpArgs false
set_option linter.unusedVariables false
set_option maxRecDepth 10000
variable {n : Nat} {h : AHeap}
end Go.Vm.St

namespace Go.Vm.St
open Go.Proofs Go.Vm.Vat
set_option linter.unusedSimpArgs false
set_option linter.unusedVariables false
set_option maxRecDepth 10000
variable {n : Nat} {h : AHeap}
section
variable {S : MS} {o : Nat} {b f : Int} {u : Nat → Int}
end
theorem cells_at {g : AHeap} {v : Value} {s m : Nat} {c : Nat → Nat → Value} (hc : Cells h v s m c) (he : ∀ a k cap, v = .slice (some a) k cap → a.block < h.next → g.get a.block = h.get a.block) : Cells g v s m c := by
  obtain ⟨a, cap, rfl, hsp, h0 | ⟨b, o, cs, w, gr, rfl, h1, h2⟩⟩ := hc
  · exact ⟨a, cap, rfl, hsp, .inl h0⟩
  · exact ⟨_, cap, rfl, hsp, .inr ⟨b, o, cs, w, gr, rfl, by rw [he _ _ _ rfl (AHeap.lt_of_get h1)]; exact h1, h2⟩⟩
theorem growC_congr {B s m : Nat} {v : Value} {c c' : Nat → Nat → Value} (hg : GrowC B h v s m c) (he : ∀ k j, k < m → j < s → c k j = c' k j) : GrowC B h v s m c' := by
  obtain ⟨cs, h1, h2, h3⟩ := hg
  exact ⟨cs, h1, h2, fun k j hk hj => by rw [h3 k j hk hj, he k j hk hj]⟩
/-- one element more, in a block of its own -/
theorem grow_push3 {B k s bytes : Nat} {v : Value} {c : Nat → Nat → Value} {g1 : AHeap} {row : List Value} (hg : GrowC B h v s k c) (hB : h.floor ≤ B) (hf : h.next + 2 < far) (hBn : B ≤ h.next) (hx : New h g1 row 0) (hlen : row.length = s) (hone : allB oneCell row = true) (hn : ∀ j, j < s → row[j]? = some (c k j)) (hb1 : (k + 1) * bytes ≤ maxBytes) (hb2 : k + 1 ≤ maxBytes) :
    ∃ g2, appendA s bytes g1 v (.slice (some ⟨h.next, 0, none⟩) 1 1) = some (.slice (some ⟨h.next + 1, 0, none⟩) (k + 1) unk, g2) ∧ GrowC B g2 (.slice (some ⟨h.next + 1, 0, none⟩) (k + 1) unk) s (k + 1) c ∧ g2.next = h.next + 2 ∧ g2.floor = h.floor ∧ (∀ i, i < h.next → NeB v i → g2.get i = h.get i) ∧ g1.next ≤ g2.next := by
  have hnx := hx.next
  have hfl := hx.floor
  have g1' : GrowC B g1 v s k c := hg.sub hx.sub
  obtain ⟨v', g2, e, ev, gv, hk2⟩ := g1'.append (bytes := bytes) (cap := 1) (by omega) (by omega) (by omega) hx.get hlen hone hn hb1 hb2
  rw [hnx] at ev
  subst ev
  have n2 := hk2.next
  have f2 := hk2.floor
  refine ⟨g2, e, gv, by omega, by omega, fun i hi hne => ?_, by omega⟩
  rw [hk2.old i (by omega) fun b m c e => hne b m c e, hx.old i (by omega)]
end Go.Vm.St

namespace Go.Vm.St
open Go.Proofs Go.Vm.Vat
set_option linter.unusedSimpArgs false
set_option linter.unusedVariables false
set_option maxRecDepth 10000
variable {n : Nat} {h : AHeap}
end Go.Vm.St

namespace Go.Vm.St
open Go.Proofs Go.Vm.Vat
set_option linter.unusedSimpArgs false
set_option linter.unusedVariables false
set_option maxRecDepth 10000
variable {n : Nat} {h : AHeap}
/-! ### The truths of the reference, as a list in memory -/
/-- a truth in a list v: its own lists are not v -/
structure TruIn (h : AHeap) (v r1 r2 : Value) (S : MS) (u : Nat → Int) : Prop where
  tru : TruR h r1 r2 S u
  b1 : ∀ x m c, r1 = .slice (some x) m c → x.block < h.next ∧ NeB v x.block
  b2 : ∀ x m c, r2 = .slice (some x) m c → x.block < h.next ∧ NeB v x.block
def trsC (S : MS) (l : List (Nat → Int)) (R1 R2 : Nat → Value) (k j : Nat) : Value := if j = 0 then R1 k else if j = 1 then .int .i64 ((l.getD k fun _ => 0) S.nw) else R2 k
structure TrsG (B : Nat) (h : AHeap) (v : Value) (S : MS) (l : List (Nat → Int)) (R1 R2 : Nat → Value) : Prop where
  g : GrowC B h v 3 l.length (trsC S l R1 R2)
  t : ∀ k, k < l.length → TruIn h v (R1 k) (R2 k) S (l.getD k fun _ => 0)
theorem TrsG.nil {B : Nat} {S : MS} : TrsG B h nilS S [] (fun _ => nilS) (fun _ => nilS) := ⟨.nil, fun k hk => absurd hk (Nat.not_lt_zero _)⟩
theorem TruIn.old {g : AHeap} {v r1 r2 : Value} {S : MS} {u : Nat → Int} (ht : TruIn h v r1 r2 S u) (ho : ∀ i, i < h.next → NeB v i → g.get i = h.get i) (hn : h.next ≤ g.next) : TruIn g v r1 r2 S u :=
  ⟨⟨cells_at ht.tru.w fun a k c e hlt => ho _ hlt (ht.b1 a k c e).2, cells_at ht.tru.f fun a k c e hlt => ho _ hlt (ht.b2 a k c e).2⟩, fun x m c e => ⟨by have := (ht.b1 x m c e).1; omega, (ht.b1 x m c e).2⟩, fun x m c e => ⟨by have := (ht.b2 x m c e).1; omega, (ht.b2 x m c e).2⟩⟩
theorem TrsG.old {B : Nat} {g : AHeap} {v : Value} {S : MS} {l : List (Nat → Int)} {R1 R2 : Nat → Value} (ht : TrsG B h v S l R1 R2) (ho : ∀ i, i < h.next → g.get i = h.get i) (hn : h.next ≤ g.next) : TrsG B g v S l R1 R2 :=
  ⟨GrowC.at' ht.g fun a k c e => ho _ (ht.g.block e).2, fun k hk => (ht.t k hk).old (fun i hi _ => ho i hi) hn⟩
theorem TrsG.push {B : Nat} {g1 : AHeap} {v r1 r2 : Value} {S : MS} {l : List (Nat → Int)} {R1 R2 : Nat → Value} {u : Nat → Int} (ht : TrsG B h v S l R1 R2) (hB : h.floor ≤ B) (hf : h.next + 2 < far) (hBn : B ≤ h.next) (hx : New h g1 (trL r1 r2 (u S.nw)) 0) (hu : TruIn h v r1 r2 S u) (o1 : oneCell r1 = true) (o2 : oneCell r2 = true) (hl : l.length ≤ 5000) :
    ∃ v' g2, appendA 3 56 g1 v (.slice (some ⟨h.next, 0, none⟩) 1 1) = some (v', g2) ∧ TrsG B g2 v' S (l ++ [u]) (fun k => if k = l.length then r1 else R1 k) (fun k => if k = l.length then r2 else R2 k) ∧ oneCell v' = true ∧ g2.next = h.next + 2 ∧ g2.floor = h.floor ∧ (∀ i, i < h.next → NeB v i → g2.get i = h.get i) := by
  have hlen : (l ++ [u]).length = l.length + 1 := by simp
  have hg : GrowC B h v 3 l.length (trsC S (l ++ [u]) (fun k => if k = l.length then r1 else R1 k) (fun k => if k = l.length then r2 else R2 k)) := growC_congr ht.g fun k j hk hj => by
    have : ¬ k = l.length := by omega
    simp only [trsC, this, if_false]
    rw [List.getD_eq_getElem?_getD, List.getD_eq_getElem?_getD, List.getElem?_append_left hk]
  obtain ⟨g2, e, gv, n2, f2, o2', u2⟩ := grow_push3 (bytes := 56) hg hB hf hBn hx rfl (by simp [trL, allB, o1, o2, one_int]) (fun j hj => by
    have hlast : ((l ++ [u]).getD l.length fun _ => 0) = u := by rw [List.getD_eq_getElem?_getD, List.getElem?_append_right (Nat.le_refl _)]; simp
    simp only [trsC, if_true, hlast]
    rcases j with _ | _ | _ | j
    · rfl
    · rfl
    · rfl
    · omega) (by simp [maxBytes]; omega) (by simp [maxBytes]; omega)
  refine ⟨_, g2, e, ⟨by rw [hlen]; exact gv, fun k hk => ?_⟩, rfl, n2, f2, o2'⟩
  have fresh : ∀ i, i < h.next → NeB (.slice (some ⟨h.next + 1, 0, none⟩) (l.length + 1) unk) i := fun i hi b m c e => by cases e; show i ≠ h.next + 1; omega
  have re : ∀ {a b : Value} {w : Nat → Int}, TruIn h v a b S w → TruIn g2 (.slice (some ⟨h.next + 1, 0, none⟩) (l.length + 1) unk) a b S w := fun {a b w} hi => by
    have h1 := hi.old (g := g2) o2' (by omega)
    exact ⟨h1.tru, fun x m c e => ⟨(h1.b1 x m c e).1, fresh _ (hi.b1 x m c e).1⟩, fun x m c e => ⟨(h1.b2 x m c e).1, fresh _ (hi.b2 x m c e).1⟩⟩
  by_cases c : k = l.length
  · subst c
    have hlast : ((l ++ [u]).getD l.length fun _ => 0) = u := by rw [List.getD_eq_getElem?_getD, List.getElem?_append_right (Nat.le_refl _)]; simp
    simp only [if_true, hlast]
    exact re hu
  · have hk' : k < l.length := by omega
    simp only [c, if_false]
    rw [List.getD_eq_getElem?_getD, List.getElem?_append_left hk', ← List.getD_eq_getElem?_getD]
    exact re (ht.t k hk')
open Classical in
noncomputable def refTo (S : MS) (k : Nat) : List (Nat → Int) := ((List.range k).map (nthU S)).filter fun u => decide (∀ k, k < S.ns → RightS S u k)
noncomputable def refTruths (S : MS) : List (Nat → Int) := refTo S (manyS S).toNat
end Go.Vm.St

namespace Go.Vm.St
open Go.Proofs Go.Vm.Vat
set_option linter.unusedSimpArgs false
set_option linter.unusedVariables false
set_option maxRecDepth 10000
variable {n : Nat} {h : AHeap}
/-! ### The reference's truths are the truths, in another order -/
theorem unpos_pos {S : MS} {i : Nat} : unpos S (posU S i) = i := by
  unfold unpos posU
  by_cases c1 : i < S.nw
  · rw [if_pos c1, if_neg (by omega), if_pos (by omega)]; omega
  · rw [if_neg c1]
    by_cases c2 : i = S.nw
    · rw [if_pos c2, if_pos rfl, c2]
    · rw [if_neg c2, if_neg (by omega), if_neg (by omega)]
theorem sizeR {S : MS} : sizeN (rLo S) (rHi S) (numU S) = sizeN (uLo S) (uHi S) (numU S) := by
  rw [sizeU]
  have e : numU S = (1 + S.nw) + S.nv := by unfold numU; omega
  rw [e, sizeN_split, sizeN_split]
  have e1 : sizeN (rLo S) (rHi S) 1 = S.sphi - S.splo + 1 := by simp [sizeN, rLo, rHi]
  have e2 : sizeN (fun k => rLo S (1 + k)) (fun k => rHi S (1 + k)) S.nw = sizeN S.wlo S.whi S.nw := sizeN_congr _ fun k hk => by
    simp only [rLo, rHi]
    rw [if_neg (by omega), if_pos (by omega), if_neg (by omega), if_pos (by omega), show 1 + k - 1 = k by omega]
    exact ⟨rfl, rfl⟩
  have e3 : sizeN (fun k => rLo S (1 + S.nw + k)) (fun k => rHi S (1 + S.nw + k)) S.nv = sizeN S.vlo S.vhi S.nv := by
    by_cases c : S.nv = 0
    · rw [c]; rfl
    refine sizeN_congr _ fun k hk => ?_
    simp only [rLo, rHi]
    rw [if_neg (by omega), if_neg (by omega), if_neg (by omega), if_neg (by omega), show 1 + S.nw + k - S.nw - 1 = k by omega]
    exact ⟨rfl, rfl⟩
  rw [e1, e2, e3, ← Int.mul_assoc, Int.mul_comm (sizeN S.wlo S.whi S.nw)]
theorem refTruths_mem {S : MS} (hG : Good S) {x : Nat → Int} : x ∈ refTruths S ↔ x ∈ truthsS S := by
  have hr : ∀ j, j < numU S → rLo S j ≤ rHi S j := fun j hj => (hG.r hj).2.1
  have h1 := many_size hG.args
  have h2 := hG.few
  have hprod := sizeN_prod (lo := rLo S) (hi := rHi S) (numU S) 0
  simp only [Nat.zero_add, sizeN, Int.one_mul] at hprod
  have hpN := prodN_from (lo := rLo S) (hi := rHi S) (numU S) 0 fun j _ hj => hr j (by omega)
  have hsR := sizeR (S := S)
  obtain ⟨mp1, _⟩ := many_pos hG
  have hM : (manyS S).toNat = prodN (sz (rLo S) (rHi S)) (numU S) 0 := by omega
  rw [truths_mem]
  unfold refTruths refTo
  rw [List.mem_filter, List.mem_map]
  simp only [List.mem_range, decide_eq_true_eq]
  constructor
  · rintro ⟨⟨m, _, rfl⟩, h2⟩
    exact ⟨⟨nthU_in hG, fun j hj => by rw [nthU, if_neg (by omega)]⟩, h2⟩
  · rintro ⟨⟨h1, h2⟩, h3⟩
    have hin : ∀ j, j < numU S → rLo S j ≤ x (unpos S j) ∧ x (unpos S j) ≤ rHi S j := fun j hj => by
      have := h1 (unpos S j) (unpos_lt hj)
      have e := r_pos (S := S) (i := unpos S j)
      rw [pos_unpos] at e
      rw [e.1, e.2]
      exact this
    have hd : ∀ j, j < numU S → (x (unpos S j) - rLo S j).toNat < sz (rLo S) (rHi S) j := fun j hj => by
      have := hin j hj
      show (x (unpos S j) - rLo S j).toNat < (rHi S j - rLo S j + 1).toNat
      omega
    refine ⟨⟨encF (sz (rLo S) (rHi S)) (fun j => (x (unpos S j) - rLo S j).toNat) (numU S) 0, ?_, ?_⟩, h3⟩
    · rw [hM]
      exact encF_lt (numU S) 0 fun j _ hj => hd j (by omega)
    · funext i
      by_cases hi : i < numU S
      · have hp := pos_lt hi
        have hq := hin _ hp
        rw [nthU, if_pos hi]
        unfold digU
        rw [show rSz S = sz (rLo S) (rHi S) from rfl, encF_mod hd hp]
        rw [unpos_pos] at hq ⊢
        omega
      · rw [nthU, if_neg hi, h2 i (by omega)]
end Go.Vm.St

namespace Go.Vm.St
open Go.Proofs Go.Vm.Vat
set_option linter.unusedSimpArgs false
set_option linter.unusedVariables false
set_option maxRecDepth 10000
variable {n : Nat} {h : AHeap}
end Go.Vm.St

namespace Go.Vm.St
open Go.Proofs Go.Vm.Vat
set_option linter.unusedSimpArgs false
set_option linter.unusedVariables false
set_option maxRecDepth 10000
variable {n : Nat} {h : AHeap}
end Go.Vm.St

namespace Go.Vm.St
open Go.Proofs Go.Vm.Vat
set_option linter.unusedSimpArgs false
set_option linter.unusedVariables false
set_option maxRecDepth 10000
variable {n : Nat} {h : AHeap}
end Go.Vm.St

namespace Go.Vm.St
open Go.Proofs Go.Vm.Vat
set_option linter.unusedSimpArgs false
set_option linter.unusedVariables false
set_option maxRecDepth 10000
variable {n : Nat} {h : AHeap}
end Go.Vm.St

namespace Go.Vm.St
open Go.Proofs Go.Vm.Vat
set_option linter.unusedSimpArgs false
set_option linter.unusedVariables false
set_option maxRecDepth 10000
variable {n : Nat} {h : AHeap}
end Go.Vm.St

namespace Go.Vm.St
open Go.Proofs Go.Vm.Vat
set_option linter.unusedSimpArgs false
set_option linter.unusedVariables false
set_option maxRecDepth 10000
variable {n : Nat} {h : AHeap}
end Go.Vm.St

namespace Go.Vm.St
open Go.Proofs Go.Vm.Vat
set_option linter.unusedSimpArgs false
set_option linter.unusedVariables false
set_option maxRecDepth 10000
variable {n : Nat} {h : AHeap}
end Go.Vm.St

namespace Go.Vm.St
open Go.Proofs Go.Vm.Vat
set_option linter.unusedSimpArgs false
set_option linter.unusedVariables false
set_option maxRecDepth 10000
variable {n : Nat} {h : AHeap}
end Go.Vm.St

namespace Go.Vm.St
open Go.Proofs Go.Vm.Vat
set_option linter.unusedSimpArgs false
set_option linter.unusedVariables false
set_option maxRecDepth 10000
variable {n : Nat} {h : AHeap}
end Go.Vm.St

namespace Go.Vm.St
open Go.Proofs Go.Vm.Vat
set_option linter.unusedSimpArgs false
set_option linter.unusedVariables false
set_option maxRecDepth 10000
variable {n : Nat} {h : AHeap}
def s5 : SCode := (.seq (.ops [⟨(some 3), none, .box (T 0)⟩, ⟨(some 6), none, .mov (.const (.bool false))⟩]) (.seq (.seq (.ops [⟨(some 13), none, .loadN 7 (T 3)⟩, ⟨(some 14), none, .call (.func 23) [(T 13)]⟩, ⟨(some 15), none, .not (T 14)⟩]) (.cond (T 15) (.seq (.ops [⟨(some 16), none, .call (.func 24) []⟩, ⟨(some 6), none, .mov (T 16)⟩]) .ret) .skip)) (.seq (.ops [⟨(some 18), none, .loadN 7 (T 3)⟩, ⟨(some 19), none, .call (.func 26) [(T 18)]⟩, ⟨(some 20), none, .mov (T 1)⟩, ⟨(some 21), none, .mov (T 2)⟩, ⟨(some 22), none, .call (.func 40) [(T 19), (T 20), (T 21)]⟩, ⟨(some 17), none, .mov (T 22)⟩, ⟨(some 23), none, .extract 0 (T 17)⟩, ⟨(some 24), none, .extract 1 (T 17)⟩, ⟨(some 7), none, .mov (T 23)⟩, ⟨(some 8), none, .mov (T 24)⟩]) (.seq (.ops [⟨(some 25), none, .loadN 7 (T 3)⟩, ⟨(some 26), none, .call (.func 26) [(T 25)]⟩, ⟨(some 27), none, .mov (T 1)⟩, ⟨(some 28), none, .mov (T 2)⟩, ⟨(some 29), none, .call (.func 41) [(T 26), (T 27), (T 28)]⟩, ⟨(some 9), none, .mov (T 29)⟩]) (.seq (.draw [⟨.rd, ⟨(some 31), none, .loadN 7 (T 3)⟩⟩, ⟨.rd1, ⟨(some 32), none, .loadN 7 (T 3)⟩⟩, ⟨.free, ⟨(some 33), none, .mov (T 1)⟩⟩, ⟨.up, ⟨(some 34), none, .call (.func 37) [(T 32), (T 33)]⟩⟩, ⟨.free, ⟨(some 35), none, .mov (T 34)⟩⟩, ⟨.rd1, ⟨(some 36), (some (35, true)), .loadN 7 (T 3)⟩⟩, ⟨.up, ⟨(some 37), (some (35, true)), .call (.func 29) [(T 36)]⟩⟩, ⟨.free, ⟨(some 38), (some (35, true)), .int2 .eql (T 37) (.const (.int .i64 (0)))⟩⟩, ⟨.free, ⟨(some 39), none, .pick (T 35) (T 38) (.const (.bool false))⟩⟩, ⟨.free, ⟨(some 40), none, .mov (T 39)⟩⟩, ⟨.free, ⟨(some 41), (some (40, true)), .mov (T 2)⟩⟩, ⟨.free, ⟨(some 42), (some (40, true)), .fieldAddr 5 (T 3)⟩⟩, ⟨.rd1, ⟨(some 43), (some (40, true)), .load1 (T 42)⟩⟩, ⟨.free, ⟨(some 44), (some (40, true)), .mov (T 1)⟩⟩, ⟨.free, ⟨(some 45), (some (40, true)), .idxSl 4 (T 43) (T 44)⟩⟩, ⟨.free, ⟨(some 46), (some (40, true)), .fieldAddr 0 (T 45)⟩⟩, ⟨.rd1, ⟨(some 47), (some (40, true)), .load1 (T 46)⟩⟩, ⟨.free, ⟨(some 48), (some (40, true)), .fieldAddr 0 (T 3)⟩⟩, ⟨.rd1, ⟨(some 49), (some (40, true)), .load1 (T 48)⟩⟩, ⟨.up, ⟨(some 50), (some (40, true)), .call (.func 42) [(T 41), (T 47), (T 49)]⟩⟩, ⟨.free, ⟨(some 51), none, .pick (T 40) (T 50) (.const (.bool false))⟩⟩, ⟨.any, ⟨(some 52), none, .call (.func 36) [(T 31), (T 51)]⟩⟩, ⟨.free, ⟨(some 30), none, .mov (T 52)⟩⟩, ⟨.free, ⟨(some 53), none, .extract 0 (T 30)⟩⟩, ⟨.free, ⟨(some 54), none, .extract 1 (T 30)⟩⟩, ⟨.free, ⟨(some 10), none, .mov (T 53)⟩⟩, ⟨.free, ⟨(some 11), none, .mov (T 54)⟩⟩]) (.seq (.seq (.ops [⟨(some 55), none, .mov (T 11)⟩, ⟨(some 56), none, .int2 .neq (T 55) (.const (.int .i64 (0)))⟩]) (.cond (T 56) (.seq (.ops [⟨(some 57), none, .mov (T 8)⟩, ⟨(some 58), none, .mov (T 11)⟩, ⟨(some 59), none, .int2 .eql (T 57) (T 58)⟩, ⟨(some 60), none, .mov (T 59)⟩, ⟨(some 61), (some (60, true)), .mov (T 7)⟩, ⟨(some 62), (some (60, true)), .int2 .eql (T 61) (.const (.int .i64 (0)))⟩, ⟨(some 63), none, .pick (T 60) (T 62) (.const (.bool false))⟩, ⟨(some 64), none, .mov (T 63)⟩, ⟨(some 65), (some (64, true)), .mov (T 9)⟩, ⟨(some 66), (some (64, true)), .not (T 65)⟩, ⟨(some 67), none, .pick (T 64) (T 66) (.const (.bool false))⟩, ⟨(some 68), none, .mov (T 67)⟩, ⟨(some 69), (some (68, true)), .call (.func 24) []⟩, ⟨(some 70), none, .pick (T 68) (T 69) (.const (.bool false))⟩, ⟨(some 6), none, .mov (T 70)⟩]) .ret) .skip)) (.seq (.ops [⟨(some 71), none, .loadN 7 (T 3)⟩, ⟨(some 72), none, .mov (T 10)⟩, ⟨(some 73), none, .mov (T 1)⟩, ⟨(some 74), none, .mov (T 2)⟩, ⟨(some 75), none, .call (.func 43) [(T 71), (T 72), (T 73), (T 74)]⟩, ⟨(some 12), none, .mov (T 75)⟩]) (.seq (.ops [⟨(some 76), none, .mov (T 8)⟩, ⟨(some 77), none, .int2 .eql (T 76) (.const (.int .i64 (0)))⟩, ⟨(some 78), none, .mov (T 77)⟩, ⟨(some 79), (some (78, true)), .mov (T 7)⟩, ⟨(some 80), (some (78, true)), .mov (T 12)⟩, ⟨(some 81), (some (78, true)), .int2 .eql (T 79) (T 80)⟩, ⟨(some 82), none, .pick (T 78) (T 81) (.const (.bool false))⟩, ⟨(some 83), none, .mov (T 82)⟩, ⟨(some 84), (some (83, true)), .mov (T 9)⟩, ⟨(some 85), (some (83, true)), .mov (T 12)⟩, ⟨(some 86), (some (83, true)), .int2 .eql (T 85) (.const (.int .i64 (1)))⟩, ⟨(some 87), (some (83, true)), .bin .eql (.binOp .eql 4 (T 84) (T 86) 4) 4 (T 84) (T 86)⟩, ⟨(some 88), none, .pick (T 83) (T 87) (.const (.bool false))⟩, ⟨(some 89), none, .mov (T 88)⟩, ⟨(some 90), (some (89, true)), .call (.func 24) []⟩, ⟨(some 91), none, .pick (T 89) (T 90) (.const (.bool false))⟩, ⟨(some 6), none, .mov (T 91)⟩]) .ret))))))))
end Go.Vm.St

namespace Go.Vm
variable {P : Program} {N : Nat} {f : Fr} {h : AHeap} {ty t u e : TypeId} {x y : Operand}
end Go.Vm
namespace Go.Vm.St
open Go.Proofs Go.Vm.Vat
set_option linter.unusedSimpArgs false
set_option linter.unusedVariables false
set_option maxRecDepth 10000
variable {n : Nat} {h : AHeap}
end Go.Vm.St

namespace Go.Vm.St
open Go.Proofs Go.Vm.Vat
set_option linter.unusedSimpArgs false
set_option linter.unusedVariables false
set_option maxRecDepth 10000
variable {n : Nat} {h : AHeap}
def optI : Option Nat → Int → Int
  | some v, _ => (v : Int)
  | none, d => d
end Go.Vm.St

namespace Go.Vm.St
open Go.Proofs Go.Vm.Vat
set_option linter.unusedSimpArgs false
set_option linter.unusedVariables false
set_option maxRecDepth 10000
variable {n : Nat} {h : AHeap}
/-! ### The truths of the reference are those of the program, in another order: as many of each kind -/
def noSm (S : MS) : MS := { S with ns := 0 }
theorem noSm_good {S : MS} (hG : Good S) : Good (noSm S) := ⟨⟨hG.lim.1, hG.lim.2.1, Nat.zero_le _⟩, ⟨hG.args.head, hG.args.warm, hG.args.vat, fun i hi => absurd hi (Nat.not_lt_zero _)⟩, hG.few⟩
open Classical in
theorem noSm_ref {S : MS} {x : Nat → Int} : x ∈ refTruths (noSm S) ↔ x ∈ (List.range (manyS S).toNat).map (nthU S) := by
  unfold refTruths refTo
  rw [List.mem_filter]
  constructor
  · exact fun q => q.1
  · exact fun q => ⟨q, decide_eq_true fun j hj => absurd hj (Nat.not_lt_zero _)⟩
open Classical in
theorem noSm_tru {S : MS} {x : Nat → Int} : x ∈ truthsS (noSm S) ↔ x ∈ enumB (uLo S) (uHi S) (numU S) 0 fun _ => 0 := by
  unfold truthsS
  rw [List.mem_filter]
  constructor
  · exact fun q => q.1
  · exact fun q => ⟨q, decide_eq_true fun j hj => absurd hj (Nat.not_lt_zero _)⟩
theorem all_perm {S : MS} (hG : Good S) : ((List.range (manyS S).toNat).map (nthU S)).Perm (enumB (uLo S) (uHi S) (numU S) 0 fun _ => 0) := by
  refine (perm_of_sub _ _ (enumB_nodup _ _ _) (fun x hx => ?_) ?_).symm
  · exact noSm_ref.1 ((refTruths_mem (noSm_good hG)).2 (noSm_tru.2 hx))
  · have h1 := enumB_len (lo := uLo S) (hi := uHi S) (numU S) 0 (fun _ => 0) fun k _ hk => (hG.u k (by omega)).2.1
    have h2 := sizeN_prod (lo := uLo S) (hi := uHi S) (numU S) 0
    simp only [Nat.zero_add, sizeN, Int.one_mul] at h2
    have h3 := many_size hG.args
    have h4 := hG.few
    rw [List.length_map, List.length_range]
    omega
/-- in how many truths a vat is of a kind after an hour -/
def cntS (S : MS) (v : Nat) (hh kk : Int) (L : List (Nat → Int)) : Nat := cntB (fun t => kindS S t v hh) L kk
/-- what a smell leaves -/
def lvS (S : MS) (v : Nat) (hh : Int) (L : List (Nat → Int)) : Int := max (max (cntS S v hh 0 L : Int) (cntS S v hh 1 L)) (cntS S v hh 2 L)
/-! ### The best smell -/
structure Sm where
  v : Int
  h : Int
  l : Int
end Go.Vm.St

namespace Go.Vm.St
open Go.Proofs Go.Vm.Vat
set_option linter.unusedSimpArgs false
set_option linter.unusedVariables false
set_option maxRecDepth 10000
variable {n : Nat} {h : AHeap}
end Go.Vm.St

namespace Go.Vm.St
open Go.Proofs Go.Vm.Vat
set_option linter.unusedSimpArgs false
set_option linter.unusedVariables false
set_option maxRecDepth 10000
variable {n : Nat} {h : AHeap}
theorem g_un {X : Cx} {d : Option Nat} {want : Bool} {op : SOp} {L : List SI} {Q : WPost} {f : Go.Vm.Fr} {m : List Nat} : gW X undef want d op L Q f h m = opsW X L Q (putF f d undef) h m := by
  have : isB want undef = false := rfl
  simp [gW, this]
end Go.Vm.St

namespace Go.Vm.St
open Go.Proofs Go.Vm.Vat
set_option linter.unusedSimpArgs false
set_option linter.unusedVariables false
set_option maxRecDepth 10000
variable {n : Nat} {h : AHeap}
end Go.Vm.St

namespace Go.Vm.St
open Go.Proofs Go.Vm.Vat
set_option linter.unusedSimpArgs false
set_option linter.unusedVariables false
set_option maxRecDepth 10000
variable {n : Nat} {h : AHeap}
theorem rowI_congr {m : Nat} {a b : Nat → Int} (he : ∀ i, i < m → a i = b i) : rowI m a = rowI m b := by
  unfold rowI
  refine List.map_congr_left fun i hi => ?_
  rw [he i (List.mem_range.1 hi)]
/-- the truth that is changed, as it lies in memory -/
structure WarmM (g : AHeap) (S : MS) (p b1 b2 c1 : Nat) (v2 : Value) (u : Nat → Int) : Prop where
  row : g.get p = some (.row (trL (.slice (some ⟨b1, 0, none⟩) S.nw c1) v2 (u S.nw)) true 0)
  w : g.get b1 = some (.row (rowI S.nw u) true 1)
  f : S.nv = 0 ∨ ∃ c2, v2 = .slice (some ⟨b2, 0, none⟩) S.nv c2 ∧ g.get b2 = some (.row (rowI S.nv fun v => u (S.nw + 1 + v)) true 1)
theorem WarmM.congr {g : AHeap} {S : MS} {p b1 b2 c1 : Nat} {v2 : Value} {u u' : Nat → Int} (hm : WarmM g S p b1 b2 c1 v2 u) (he : ∀ i, i < numU S → u i = u' i) : WarmM g S p b1 b2 c1 v2 u' := by
  refine ⟨?_, ?_, ?_⟩
  · rw [← he S.nw (by unfold numU; omega)]; exact hm.row
  · rw [← rowI_congr fun i hi => he i (by unfold numU; omega)]; exact hm.w
  · rcases hm.f with h0 | ⟨c2, e, q⟩
    · exact .inl h0
    · exact .inr ⟨c2, e, by rw [← rowI_congr (a := fun v => u (S.nw + 1 + v)) fun i hi => he (S.nw + 1 + i) (by unfold numU; omega)]; exact q⟩
theorem WarmM.tru {g : AHeap} {S : MS} {p b1 b2 c1 : Nat} {x2 : Option Addr} {c2 : Nat} {u : Nat → Int} (hm : WarmM g S p b1 b2 c1 (.slice x2 S.nv c2) u) (h0 : ∀ x, x2 = some x → x.spot = none) : TruR g (.slice (some ⟨b1, 0, none⟩) S.nw c1) (.slice x2 S.nv c2) S u := by
  refine ⟨ints_row hm.w, ?_⟩
  rcases hm.f with h | ⟨c', e, q⟩
  · refine ⟨x2, c2, rfl, h0, .inl h⟩
  · cases e
    exact ints_row q
def s14 : SCode := (.seq (.ops [⟨(some 4), none, .box (T 0)⟩, ⟨(some 8), none, .mov (.const (.bool false))⟩]) (.seq (.seq (.ops [⟨(some 24), none, .loadN 7 (T 4)⟩, ⟨(some 25), none, .call (.func 59) [(T 24)]⟩, ⟨(some 26), none, .not (T 25)⟩]) (.cond (T 26) (.seq (.ops [⟨(some 27), none, .call (.func 24) []⟩, ⟨(some 8), none, .mov (T 27)⟩]) .ret) .skip)) (.seq (.draw [⟨.rd, ⟨(some 28), none, .loadN 7 (T 4)⟩⟩, ⟨.free, ⟨(some 29), none, .mov (T 1)⟩⟩, ⟨.free, ⟨(some 30), none, .plain (.convert 90 3 (T 29)) 3⟩⟩, ⟨.rd1, ⟨(some 31), none, .loadN 7 (T 4)⟩⟩, ⟨.up, ⟨(some 32), none, .call (.func 64) [(T 31)]⟩⟩, ⟨.free, ⟨(some 33), none, .plain (.binOp .rem 3 (T 30) (T 32) 3) 3⟩⟩, ⟨.up, ⟨(some 34), none, .call (.func 63) [(T 28), (T 33)]⟩⟩, ⟨.rd, ⟨(some 35), none, .loadN 7 (T 4)⟩⟩, ⟨.free, ⟨(some 36), none, .mov (T 2)⟩⟩, ⟨.free, ⟨(some 37), none, .plain (.convert 90 3 (T 36)) 3⟩⟩, ⟨.rd, ⟨(some 38), none, .loadN 7 (T 4)⟩⟩, ⟨.up, ⟨(some 39), none, .call (.func 64) [(T 38)]⟩⟩, ⟨.free, ⟨(some 40), none, .plain (.binOp .rem 3 (T 37) (T 39) 3) 3⟩⟩, ⟨.any, ⟨(some 41), none, .call (.func 63) [(T 35), (T 40)]⟩⟩, ⟨.any, ⟨(some 9), none, .alloc [(.slice none 0 0), (.int .i64 (0)), (.slice none 0 0)]⟩⟩, ⟨.any, ⟨(some 10), none, .alloc [(.slice none 0 0), (.int .i64 (0)), (.slice none 0 0)]⟩⟩, ⟨.any, ⟨none, none, .store 3 (T 9) (T 34)⟩⟩, ⟨.any, ⟨none, none, .store 3 (T 10) (T 41)⟩⟩]) (.seq (.draw [⟨.free, ⟨(some 42), none, .fieldAddr 0 (T 9)⟩⟩, ⟨.rd1, ⟨(some 43), none, .load1 (T 42)⟩⟩, ⟨.up, ⟨(some 44), none, .call (.func 65) [(T 43)]⟩⟩, ⟨.free, ⟨(some 45), none, .fieldAddr 1 (T 9)⟩⟩, ⟨.rd, ⟨(some 46), none, .load1 (T 45)⟩⟩, ⟨.free, ⟨(some 47), none, .fieldAddr 2 (T 9)⟩⟩, ⟨.rd, ⟨(some 48), none, .load1 (T 47)⟩⟩, ⟨.up, ⟨(some 49), none, .call (.func 65) [(T 48)]⟩⟩, ⟨.free, ⟨(some 50), none, .build #[(0, 1), (1, 1), (2, 1)] [(.slice none 0 0), (.int .i64 (0)), (.slice none 0 0)] [0, 1, 2] [(T 44), (T 46), (T 49)]⟩⟩, ⟨.up, ⟨(some 11), none, .alloc [(.slice none 0 0), (.int .i64 (0)), (.slice none 0 0)]⟩⟩, ⟨.any, ⟨none, none, .store 3 (T 11) (T 50)⟩⟩]) (.seq (.ops [⟨(some 51), none, .mov (T 3)⟩, ⟨(some 52), none, .plain (.convert 5 3 (T 51)) 3⟩, ⟨(some 53), none, .plain (.binOp .rem 3 (T 52) (.const (.int .i64 (3))) 3) 3⟩, ⟨(some 12), none, .mov (T 53)⟩]) (.seq (.seq (.ops [⟨(some 13), none, .mov (.const (.int .i64 (0)))⟩]) (.block 0 (.loop (.seq (.seq (.ops [⟨(some 54), none, .mov (T 13)⟩, ⟨(some 55), none, .fieldAddr 0 (T 10)⟩, ⟨(some 56), none, .load1 (T 55)⟩, ⟨(some 57), none, .len (T 56)⟩, ⟨(some 58), none, .int2 .lss (T 54) (T 57)⟩, ⟨(some 59), none, .mov (T 58)⟩, ⟨(some 60), (some (59, true)), .mov (T 12)⟩, ⟨(some 61), (some (59, true)), .int2 .eql (T 60) (.const (.int .i64 (0)))⟩, ⟨(some 62), none, .pick (T 59) (T 61) (.const (.bool false))⟩]) (.cond (T 62) .skip (.exit 0))) (.seq (.block 1 (.draw [⟨.free, ⟨(some 65), none, .fieldAddr 0 (T 11)⟩⟩, ⟨.rd1, ⟨(some 66), none, .load1 (T 65)⟩⟩, ⟨.free, ⟨(some 67), none, .mov (T 13)⟩⟩, ⟨.free, ⟨(some 68), none, .fieldAddr 0 (T 9)⟩⟩, ⟨.rd1, ⟨(some 69), none, .load1 (T 68)⟩⟩, ⟨.free, ⟨(some 70), none, .mov (T 13)⟩⟩, ⟨.free, ⟨(some 71), none, .idxSl 1 (T 69) (T 70)⟩⟩, ⟨.rd1, ⟨(some 72), none, .load1 (T 71)⟩⟩, ⟨.free, ⟨(some 73), none, .fieldAddr 0 (T 10)⟩⟩, ⟨.rd1, ⟨(some 74), none, .load1 (T 73)⟩⟩, ⟨.free, ⟨(some 75), none, .mov (T 13)⟩⟩, ⟨.free, ⟨(some 76), none, .idxSl 1 (T 74) (T 75)⟩⟩, ⟨.rd1, ⟨(some 77), none, .load1 (T 76)⟩⟩, ⟨.free, ⟨(some 78), none, .plain (.call { callee := .builtin .max, args := #[(T 72), (T 77)], argTypes := #[3, 3] }) 3⟩⟩, ⟨.free, ⟨(some 79), none, .idxSl 1 (T 66) (T 67)⟩⟩, ⟨.any, ⟨none, none, .store 1 (T 79) (T 78)⟩⟩])) (.ops [⟨(some 63), none, .mov (T 13)⟩, ⟨(some 64), none, .int2 .add (T 63) (.const (.int .i64 (1)))⟩, ⟨(some 13), none, .mov (T 64)⟩])))))) (.seq (.seq (.ops [⟨(some 14), none, .mov (.const (.int .i64 (0)))⟩]) (.block 2 (.loop (.seq (.seq (.ops [⟨(some 80), none, .mov (T 14)⟩, ⟨(some 81), none, .fieldAddr 2 (T 10)⟩, ⟨(some 82), none, .load1 (T 81)⟩, ⟨(some 83), none, .len (T 82)⟩, ⟨(some 84), none, .int2 .lss (T 80) (T 83)⟩, ⟨(some 85), none, .mov (T 84)⟩, ⟨(some 86), (some (85, true)), .mov (T 12)⟩, ⟨(some 87), (some (85, true)), .int2 .eql (T 86) (.const (.int .i64 (2)))⟩, ⟨(some 88), none, .pick (T 85) (T 87) (.const (.bool false))⟩]) (.cond (T 88) .skip (.exit 2))) (.seq (.block 3 (.draw [⟨.free, ⟨(some 91), none, .fieldAddr 2 (T 11)⟩⟩, ⟨.rd1, ⟨(some 92), none, .load1 (T 91)⟩⟩, ⟨.free, ⟨(some 93), none, .mov (T 14)⟩⟩, ⟨.free, ⟨(some 94), none, .fieldAddr 2 (T 9)⟩⟩, ⟨.rd1, ⟨(some 95), none, .load1 (T 94)⟩⟩, ⟨.free, ⟨(some 96), none, .mov (T 14)⟩⟩, ⟨.free, ⟨(some 97), none, .idxSl 1 (T 95) (T 96)⟩⟩, ⟨.rd1, ⟨(some 98), none, .load1 (T 97)⟩⟩, ⟨.free, ⟨(some 99), none, .fieldAddr 2 (T 10)⟩⟩, ⟨.rd1, ⟨(some 100), none, .load1 (T 99)⟩⟩, ⟨.free, ⟨(some 101), none, .mov (T 14)⟩⟩, ⟨.free, ⟨(some 102), none, .idxSl 1 (T 100) (T 101)⟩⟩, ⟨.rd1, ⟨(some 103), none, .load1 (T 102)⟩⟩, ⟨.free, ⟨(some 104), none, .plain (.call { callee := .builtin .max, args := #[(T 98), (T 103)], argTypes := #[3, 3] }) 3⟩⟩, ⟨.free, ⟨(some 105), none, .idxSl 1 (T 92) (T 93)⟩⟩, ⟨.any, ⟨none, none, .store 1 (T 105) (T 104)⟩⟩])) (.ops [⟨(some 89), none, .mov (T 14)⟩, ⟨(some 90), none, .int2 .add (T 89) (.const (.int .i64 (1)))⟩, ⟨(some 14), none, .mov (T 90)⟩])))))) (.seq (.seq (.ops [⟨(some 106), none, .mov (T 12)⟩, ⟨(some 107), none, .int2 .eql (T 106) (.const (.int .i64 (1)))⟩]) (.cond (T 107) (.ops [⟨(some 108), none, .fieldAddr 1 (T 9)⟩, ⟨(some 109), none, .load1 (T 108)⟩, ⟨(some 110), none, .fieldAddr 1 (T 10)⟩, ⟨(some 111), none, .load1 (T 110)⟩, ⟨(some 112), none, .plain (.call { callee := .builtin .max, args := #[(T 109), (T 111)], argTypes := #[3, 3] }) 3⟩, ⟨(some 113), none, .fieldAddr 1 (T 11)⟩, ⟨none, none, .store 1 (T 113) (T 112)⟩]) .skip)) (.seq (.draw [⟨.rd1, ⟨(some 115), none, .loadN 7 (T 4)⟩⟩, ⟨.up, ⟨(some 116), none, .call (.func 26) [(T 115)]⟩⟩, ⟨.rd, ⟨(some 117), none, .loadN 3 (T 9)⟩⟩, ⟨.any, ⟨(some 118), none, .call (.func 27) [(T 117)]⟩⟩, ⟨.any, ⟨(some 119), none, .call (.func 25) [(T 116), (T 118)]⟩⟩, ⟨.free, ⟨(some 114), none, .mov (T 119)⟩⟩, ⟨.free, ⟨(some 120), none, .extract 0 (T 114)⟩⟩, ⟨.free, ⟨(some 121), none, .extract 1 (T 114)⟩⟩, ⟨.free, ⟨(some 122), none, .extract 2 (T 114)⟩⟩, ⟨.free, ⟨(some 15), none, .mov (T 120)⟩⟩, ⟨.free, ⟨(some 16), none, .mov (T 121)⟩⟩, ⟨.free, ⟨(some 17), none, .mov (T 122)⟩⟩]) (.seq (.draw [⟨.rd1, ⟨(some 124), none, .loadN 7 (T 4)⟩⟩, ⟨.up, ⟨(some 125), none, .call (.func 26) [(T 124)]⟩⟩, ⟨.rd, ⟨(some 126), none, .loadN 3 (T 11)⟩⟩, ⟨.any, ⟨(some 127), none, .call (.func 27) [(T 126)]⟩⟩, ⟨.any, ⟨(some 128), none, .call (.func 25) [(T 125), (T 127)]⟩⟩, ⟨.free, ⟨(some 123), none, .mov (T 128)⟩⟩, ⟨.free, ⟨(some 129), none, .extract 0 (T 123)⟩⟩, ⟨.free, ⟨(some 130), none, .extract 1 (T 123)⟩⟩, ⟨.free, ⟨(some 131), none, .extract 2 (T 123)⟩⟩, ⟨.free, ⟨(some 18), none, .mov (T 129)⟩⟩, ⟨.free, ⟨(some 19), none, .mov (T 130)⟩⟩, ⟨.free, ⟨(some 20), none, .mov (T 131)⟩⟩]) (.seq (.seq (.ops [⟨(some 132), none, .mov (T 17)⟩, ⟨(some 133), none, .int2 .neq (T 132) (.const (.int .i64 (0)))⟩, ⟨(some 134), none, .mov (T 133)⟩, ⟨(some 135), (some (134, false)), .mov (T 20)⟩, ⟨(some 136), (some (134, false)), .int2 .neq (T 135) (.const (.int .i64 (0)))⟩, ⟨(some 137), none, .pick (T 134) (.const (.bool true)) (T 136)⟩, ⟨(some 138), none, .mov (T 137)⟩, ⟨(some 139), (some (138, false)), .mov (T 15)⟩, ⟨(some 140), (some (138, false)), .len (T 139)⟩, ⟨(some 141), (some (138, false)), .fieldAddr 5 (T 4)⟩, ⟨(some 142), (some (138, false)), .load1 (T 141)⟩, ⟨(some 143), (some (138, false)), .len (T 142)⟩, ⟨(some 144), (some (138, false)), .int2 .neq (T 140) (T 143)⟩, ⟨(some 145), none, .pick (T 138) (.const (.bool true)) (T 144)⟩, ⟨(some 146), none, .mov (T 145)⟩, ⟨(some 147), (some (146, false)), .mov (T 18)⟩, ⟨(some 148), (some (146, false)), .len (T 147)⟩, ⟨(some 149), (some (146, false)), .mov (T 15)⟩, ⟨(some 150), (some (146, false)), .len (T 149)⟩, ⟨(some 151), (some (146, false)), .int2 .neq (T 148) (T 150)⟩, ⟨(some 152), none, .pick (T 146) (.const (.bool true)) (T 151)⟩, ⟨(some 153), none, .mov (T 152)⟩, ⟨(some 154), (some (153, false)), .mov (T 16)⟩, ⟨(some 155), (some (153, false)), .len (T 154)⟩, ⟨(some 156), (some (153, false)), .mov (T 15)⟩, ⟨(some 157), (some (153, false)), .len (T 156)⟩, ⟨(some 158), (some (153, false)), .int2 .neq (T 155) (T 157)⟩, ⟨(some 159), none, .pick (T 153) (.const (.bool true)) (T 158)⟩, ⟨(some 160), none, .mov (T 159)⟩, ⟨(some 161), (some (160, false)), .mov (T 19)⟩, ⟨(some 162), (some (160, false)), .len (T 161)⟩, ⟨(some 163), (some (160, false)), .mov (T 15)⟩, ⟨(some 164), (some (160, false)), .len (T 163)⟩, ⟨(some 165), (some (160, false)), .int2 .neq (T 162) (T 164)⟩, ⟨(some 166), none, .pick (T 160) (.const (.bool true)) (T 165)⟩]) (.cond (T 166) (.seq (.ops [⟨(some 8), none, .mov (.const (.bool false))⟩]) .ret) .skip)) (.seq (.seq (.ops [⟨(some 21), none, .mov (.const (.int .i64 (0)))⟩]) (.block 4 (.loop (.seq (.seq (.ops [⟨(some 167), none, .mov (T 21)⟩, ⟨(some 168), none, .mov (T 15)⟩, ⟨(some 169), none, .len (T 168)⟩, ⟨(some 170), none, .int2 .lss (T 167) (T 169)⟩]) (.cond (T 170) .skip (.exit 4))) (.seq (.block 5 (.seq (.draw [⟨.free, ⟨(some 173), none, .fieldAddr 0 (T 4)⟩⟩, ⟨.rd1, ⟨(some 174), none, .load1 (T 173)⟩⟩, ⟨.free, ⟨(some 175), none, .fieldAddr 5 (T 4)⟩⟩, ⟨.rd1, ⟨(some 176), none, .load1 (T 175)⟩⟩, ⟨.free, ⟨(some 177), none, .mov (T 21)⟩⟩, ⟨.free, ⟨(some 178), none, .idxSl 4 (T 176) (T 177)⟩⟩, ⟨.free, ⟨(some 179), none, .fieldAddr 0 (T 178)⟩⟩, ⟨.rd1, ⟨(some 180), none, .load1 (T 179)⟩⟩, ⟨.free, ⟨(some 181), none, .int2 .sub (T 174) (T 180)⟩⟩, ⟨.free, ⟨(some 182), none, .int2 .add (T 181) (.const (.int .i64 (1)))⟩⟩, ⟨.free, ⟨(some 22), none, .mov (T 182)⟩⟩]) (.seq (.seq (.ops [⟨(some 183), none, .mov (T 15)⟩, ⟨(some 184), none, .mov (T 21)⟩, ⟨(some 185), none, .idxSl 1 (T 183) (T 184)⟩, ⟨(some 186), none, .load1 (T 185)⟩, ⟨(some 187), none, .len (T 186)⟩, ⟨(some 188), none, .mov (T 22)⟩, ⟨(some 189), none, .int2 .neq (T 187) (T 188)⟩, ⟨(some 190), none, .mov (T 189)⟩, ⟨(some 191), (some (190, false)), .mov (T 18)⟩, ⟨(some 192), (some (190, false)), .mov (T 21)⟩, ⟨(some 193), (some (190, false)), .idxSl 1 (T 191) (T 192)⟩, ⟨(some 194), (some (190, false)), .load1 (T 193)⟩, ⟨(some 195), (some (190, false)), .len (T 194)⟩, ⟨(some 196), (some (190, false)), .mov (T 22)⟩, ⟨(some 197), (some (190, false)), .int2 .neq (T 195) (T 196)⟩, ⟨(some 198), none, .pick (T 190) (.const (.bool true)) (T 197)⟩, ⟨(some 199), none, .mov (T 198)⟩, ⟨(some 200), (some (199, false)), .mov (T 16)⟩, ⟨(some 201), (some (199, false)), .mov (T 21)⟩, ⟨(some 202), (some (199, false)), .idxSl 1 (T 200) (T 201)⟩, ⟨(some 203), (some (199, false)), .load1 (T 202)⟩, ⟨(some 204), (some (199, false)), .len (T 203)⟩, ⟨(some 205), (some (199, false)), .mov (T 22)⟩, ⟨(some 206), (some (199, false)), .int2 .neq (T 204) (T 205)⟩, ⟨(some 207), none, .pick (T 199) (.const (.bool true)) (T 206)⟩, ⟨(some 208), none, .mov (T 207)⟩, ⟨(some 209), (some (208, false)), .mov (T 19)⟩, ⟨(some 210), (some (208, false)), .mov (T 21)⟩, ⟨(some 211), (some (208, false)), .idxSl 1 (T 209) (T 210)⟩, ⟨(some 212), (some (208, false)), .load1 (T 211)⟩, ⟨(some 213), (some (208, false)), .len (T 212)⟩, ⟨(some 214), (some (208, false)), .mov (T 22)⟩, ⟨(some 215), (some (208, false)), .int2 .neq (T 213) (T 214)⟩, ⟨(some 216), none, .pick (T 208) (.const (.bool true)) (T 215)⟩]) (.cond (T 216) (.seq (.ops [⟨(some 8), none, .mov (.const (.bool false))⟩]) .ret) .skip)) (.seq (.ops [⟨(some 23), none, .mov (.const (.int .i64 (0)))⟩]) (.block 6 (.loop (.seq (.seq (.ops [⟨(some 217), none, .mov (T 23)⟩, ⟨(some 218), none, .mov (T 22)⟩, ⟨(some 219), none, .int2 .lss (T 217) (T 218)⟩]) (.cond (T 219) .skip (.exit 6))) (.seq (.block 7 (.seq (.draw [⟨.free, ⟨(some 222), none, .mov (T 18)⟩⟩, ⟨.free, ⟨(some 223), none, .mov (T 21)⟩⟩, ⟨.free, ⟨(some 224), none, .idxSl 1 (T 222) (T 223)⟩⟩, ⟨.rd1, ⟨(some 225), none, .load1 (T 224)⟩⟩, ⟨.free, ⟨(some 226), none, .mov (T 23)⟩⟩, ⟨.free, ⟨(some 227), none, .idxSl 1 (T 225) (T 226)⟩⟩, ⟨.rd1, ⟨(some 228), none, .load1 (T 227)⟩⟩, ⟨.free, ⟨(some 229), none, .mov (T 15)⟩⟩, ⟨.free, ⟨(some 230), none, .mov (T 21)⟩⟩, ⟨.free, ⟨(some 231), none, .idxSl 1 (T 229) (T 230)⟩⟩, ⟨.rd1, ⟨(some 232), none, .load1 (T 231)⟩⟩, ⟨.free, ⟨(some 233), none, .mov (T 23)⟩⟩, ⟨.free, ⟨(some 234), none, .idxSl 1 (T 232) (T 233)⟩⟩, ⟨.rd1, ⟨(some 235), none, .load1 (T 234)⟩⟩, ⟨.free, ⟨(some 236), none, .int2 .lss (T 228) (T 235)⟩⟩, ⟨.free, ⟨(some 237), none, .mov (T 236)⟩⟩, ⟨.free, ⟨(some 238), (some (237, false)), .mov (T 12)⟩⟩, ⟨.free, ⟨(some 239), (some (237, false)), .int2 .eql (T 238) (.const (.int .i64 (0)))⟩⟩, ⟨.free, ⟨(some 240), (some (237, false)), .mov (T 239)⟩⟩, ⟨.free, ⟨(some 241), (some (240, true)), .mov (T 19)⟩⟩, ⟨.free, ⟨(some 242), (some (240, true)), .mov (T 21)⟩⟩, ⟨.free, ⟨(some 243), (some (240, true)), .idxSl 1 (T 241) (T 242)⟩⟩, ⟨.rd1, ⟨(some 244), (some (240, true)), .load1 (T 243)⟩⟩, ⟨.free, ⟨(some 245), (some (240, true)), .mov (T 23)⟩⟩, ⟨.free, ⟨(some 246), (some (240, true)), .idxSl 1 (T 244) (T 245)⟩⟩, ⟨.rd1, ⟨(some 247), (some (240, true)), .load1 (T 246)⟩⟩, ⟨.free, ⟨(some 248), (some (240, true)), .mov (T 16)⟩⟩, ⟨.free, ⟨(some 249), (some (240, true)), .mov (T 21)⟩⟩, ⟨.free, ⟨(some 250), (some (240, true)), .idxSl 1 (T 248) (T 249)⟩⟩, ⟨.rd1, ⟨(some 251), (some (240, true)), .load1 (T 250)⟩⟩, ⟨.free, ⟨(some 252), (some (240, true)), .mov (T 23)⟩⟩, ⟨.free, ⟨(some 253), (some (240, true)), .idxSl 1 (T 251) (T 252)⟩⟩, ⟨.rd1, ⟨(some 254), (some (240, true)), .load1 (T 253)⟩⟩, ⟨.free, ⟨(some 255), (some (240, true)), .int2 .lss (T 247) (T 254)⟩⟩, ⟨.free, ⟨(some 256), (some (237, false)), .pick (T 240) (T 255) (.const (.bool false))⟩⟩, ⟨.free, ⟨(some 257), none, .pick (T 237) (.const (.bool true)) (T 256)⟩⟩, ⟨.free, ⟨(some 258), none, .mov (T 257)⟩⟩, ⟨.free, ⟨(some 259), (some (258, false)), .mov (T 12)⟩⟩, ⟨.free, ⟨(some 260), (some (258, false)), .int2 .eql (T 259) (.const (.int .i64 (1)))⟩⟩, ⟨.free, ⟨(some 261), (some (258, false)), .mov (T 260)⟩⟩, ⟨.free, ⟨(some 262), (some (261, true)), .mov (T 19)⟩⟩, ⟨.free, ⟨(some 263), (some (261, true)), .mov (T 21)⟩⟩, ⟨.free, ⟨(some 264), (some (261, true)), .idxSl 1 (T 262) (T 263)⟩⟩, ⟨.rd1, ⟨(some 265), (some (261, true)), .load1 (T 264)⟩⟩, ⟨.free, ⟨(some 266), (some (261, true)), .mov (T 23)⟩⟩, ⟨.free, ⟨(some 267), (some (261, true)), .idxSl 1 (T 265) (T 266)⟩⟩, ⟨.rd1, ⟨(some 268), (some (261, true)), .load1 (T 267)⟩⟩, ⟨.free, ⟨(some 269), (some (261, true)), .mov (T 16)⟩⟩, ⟨.free, ⟨(some 270), (some (261, true)), .mov (T 21)⟩⟩, ⟨.free, ⟨(some 271), (some (261, true)), .idxSl 1 (T 269) (T 270)⟩⟩, ⟨.rd1, ⟨(some 272), (some (261, true)), .load1 (T 271)⟩⟩, ⟨.free, ⟨(some 273), (some (261, true)), .mov (T 23)⟩⟩, ⟨.free, ⟨(some 274), (some (261, true)), .idxSl 1 (T 272) (T 273)⟩⟩, ⟨.rd1, ⟨(some 275), (some (261, true)), .load1 (T 274)⟩⟩, ⟨.free, ⟨(some 276), (some (261, true)), .int2 .gtr (T 268) (T 275)⟩⟩, ⟨.free, ⟨(some 277), (some (261, true)), .mov (T 276)⟩⟩, ⟨.free, ⟨(some 278), (some (277, false)), .mov (T 18)⟩⟩, ⟨.free, ⟨(some 279), (some (277, false)), .mov (T 21)⟩⟩, ⟨.free, ⟨(some 280), (some (277, false)), .idxSl 1 (T 278) (T 279)⟩⟩, ⟨.rd1, ⟨(some 281), (some (277, false)), .load1 (T 280)⟩⟩, ⟨.free, ⟨(some 282), (some (277, false)), .mov (T 23)⟩⟩, ⟨.free, ⟨(some 283), (some (277, false)), .idxSl 1 (T 281) (T 282)⟩⟩, ⟨.rd1, ⟨(some 284), (some (277, false)), .load1 (T 283)⟩⟩, ⟨.free, ⟨(some 285), (some (277, false)), .mov (T 15)⟩⟩, ⟨.free, ⟨(some 286), (some (277, false)), .mov (T 21)⟩⟩, ⟨.free, ⟨(some 287), (some (277, false)), .idxSl 1 (T 285) (T 286)⟩⟩, ⟨.rd1, ⟨(some 288), (some (277, false)), .load1 (T 287)⟩⟩, ⟨.free, ⟨(some 289), (some (277, false)), .mov (T 23)⟩⟩, ⟨.free, ⟨(some 290), (some (277, false)), .idxSl 1 (T 288) (T 289)⟩⟩, ⟨.rd1, ⟨(some 291), (some (277, false)), .load1 (T 290)⟩⟩, ⟨.free, ⟨(some 292), (some (277, false)), .int2 .neq (T 284) (T 291)⟩⟩, ⟨.free, ⟨(some 293), (some (261, true)), .pick (T 277) (.const (.bool true)) (T 292)⟩⟩, ⟨.free, ⟨(some 294), (some (258, false)), .pick (T 261) (T 293) (.const (.bool false))⟩⟩, ⟨.free, ⟨(some 295), none, .pick (T 258) (.const (.bool true)) (T 294)⟩⟩]) (.cond (T 295) (.seq (.ops [⟨(some 8), none, .mov (.const (.bool false))⟩]) .ret) .skip))) (.ops [⟨(some 220), none, .mov (T 23)⟩, ⟨(some 221), none, .int2 .add (T 220) (.const (.int .i64 (1)))⟩, ⟨(some 23), none, .mov (T 221)⟩]))))))))) (.ops [⟨(some 171), none, .mov (T 21)⟩, ⟨(some 172), none, .int2 .add (T 171) (.const (.int .i64 (1)))⟩, ⟨(some 21), none, .mov (T 172)⟩])))))) (.seq (.ops [⟨(some 296), none, .call (.func 24) []⟩, ⟨(some 8), none, .mov (T 296)⟩]) .ret)))))))))))))
end Go.Vm.St

namespace Go.Vm.St
open Go.Proofs Go.Vm.Vat
set_option linter.unusedSimpArgs false
set_option linter.unusedVariables false
set_option maxRecDepth 10000
variable {n : Nat} {h : AHeap}
/-- what is found is a smell of a vat, and no other one leaves fewer -/
structure SmOk (S : MS) (L : List (Nat → Int)) (st : Sm) : Prop where
  at_ : ∃ v0 : Nat, st.v = (v0 : Int) ∧ HourOk S v0 st.h ∧ st.l = lvS S v0 st.h L
end Go.Vm.St

namespace Go.Vm.St
open Go.Proofs Go.Vm.Vat
set_option linter.unusedSimpArgs false
set_option linter.unusedVariables false
set_option maxRecDepth 10000
variable {n : Nat} {h : AHeap}
/-! ### The iterator over all increasing lists of so many numbers -/
theorem build_none1 {a : Value} : buildSl 1 0 [a] [] h [] = newSlice h [] 0 0 0 := id rfl
def s132 : SCode := (.seq (.ops [⟨(some 2), none, .mov (.const (.slice none 0 0))⟩]) (.seq (.seq (.ops [⟨(some 3), none, .mov (T 0)⟩, ⟨(some 4), none, .eqNil true (T 3) (.const (.slice none 0 0))⟩]) (.cond (T 4) (.seq (.ops [⟨(some 2), none, .mov (.const (.slice none 0 0))⟩]) .ret) .skip)) (.seq (.ops [⟨(some 5), none, .bslice 1 0 [(.int .i64 (0))] [] []⟩, ⟨(some 6), none, .mov (T 0)⟩, ⟨(some 7), none, .append 1 8 (T 5) (T 6)⟩, ⟨(some 2), none, .mov (T 7)⟩]) .ret)))
theorem fok132 : FnOk Try.prog 132 8 s132 [.tmp 2] := ⟨Try.f132, _, Try.func132, rfl, Try.ntmps132, by kernel_rfl, by kernel_rfl⟩
theorem clone_c (hn : 1 ≤ n) (hr : h.next + 3 < far) {v : Value} {m : Nat} {a : Nat → Int} (hv : Ints h v m a) (hm : m ≤ 1000) :
    ∃ v' h', call n (.func (.func 132) #[] #[]) [v] h = some (v', h') ∧ Ints h' v' m a ∧ oneCell v' = true ∧ (∀ i, i < h.next → h'.get i = h.get i) ∧ h.next ≤ h'.next ∧ h'.next ≤ h.next + 2 ∧ h'.floor = h.floor ∧ ∀ x k c, v' = .slice (some x) k c → h.next ≤ x.block ∧ x.block < h'.next := by
  obtain ⟨n, rfl⟩ : ∃ p, n = p + 1 := ⟨n - 1, by omega⟩
  refine call_any0 fok132 rfl rfl (by simp) ?_
  obtain ⟨xv, kv, ev, lv⟩ := Cells.list (by omega) hv
  subst ev
  cases xv with
  | none =>
    obtain ⟨a', cap, e, hsp, h0 | ⟨b, o, cs, w, gr, e2, _⟩⟩ := hv
    · subst h0
      simp only [rn0, rn1, rn2, rn3, rn4, rn5, rn6, rn7, rn8, if_true, if_false, Nat.le_refl, true_and, and_true, decide_true, decide_false, Bool.not_true, Bool.not_false, reduceIte, Nat.reduceEqDiff, Nat.reduceAdd, Nat.reduceMul, Nat.reduceSub, Nat.reduceLeDiff, Nat.reduceLT, s132, x_eqNil, eqNil_yes]
      exact ⟨⟨none, 0, rfl, fun x e => (by cases e), .inl rfl⟩, rfl, (fun _ _ => by first | trivial | rfl), by omega, fun x k c e => by cases e⟩
    · subst e2; cases e
  | some xa =>
    simp only [rn0, rn1, rn2, rn3, rn4, rn5, rn6, rn7, rn8, if_true, if_false, Nat.le_refl, true_and, and_true, decide_true, decide_false, Bool.not_true, Bool.not_false, reduceIte, Nat.reduceEqDiff, Nat.reduceAdd, Nat.reduceMul, Nat.reduceSub, Nat.reduceLeDiff, Nat.reduceLT, s132, x_eqNil, eqNil_no, build_none1]
    refine step_slice (by omega) rfl fun g1 hx1 => ?_
    have n1 := hx1.next
    have f1 := hx1.floor
    have hap := append_none (h := g1) (s := 1) (bytes := 8) (b := h.next) ⟨_, _, rfl⟩ (cells_sub hx1.sub hv (by omega) lv) flatL_len (by simp [maxBytes]; omega) (by simp [maxBytes]; omega)
    by_cases hm0 : m = 0
    · rw [if_pos hm0] at hap
      subst hm0
      simp only [rn0, rn1, rn2, rn3, rn4, rn5, rn6, rn7, rn8, if_true, if_false, Nat.le_refl, true_and, and_true, decide_true, decide_false, Bool.not_true, Bool.not_false, reduceIte, Nat.reduceEqDiff, Nat.reduceAdd, Nat.reduceMul, Nat.reduceSub, Nat.reduceLeDiff, Nat.reduceLT, hap]
      exact ⟨⟨some ⟨h.next, 0, none⟩, 0, rfl, fun x e => (by cases e; rfl), .inl rfl⟩, rfl, fun i hi => hx1.old i hi, by omega, by omega, by omega, fun x k c e => by cases e; exact ⟨Nat.le_refl _, by show h.next < g1.next; omega⟩⟩
    · rw [if_neg hm0] at hap
      simp only [rn0, rn1, rn2, rn3, rn4, rn5, rn6, rn7, rn8, if_true, if_false, Nat.le_refl, true_and, and_true, decide_true, decide_false, Bool.not_true, Bool.not_false, reduceIte, Nat.reduceEqDiff, Nat.reduceAdd, Nat.reduceMul, Nat.reduceSub, Nat.reduceLeDiff, Nat.reduceLT, hap]
      refine step_slice (by omega) flatL_one fun g2 hx2 => ?_
      have n2 := hx2.next
      have f2 := hx2.floor
      simp only [rn0, rn1, rn2, rn3, rn4, rn5, rn6, rn7, rn8, if_true, if_false, Nat.le_refl, true_and, and_true, decide_true, decide_false, Bool.not_true, Bool.not_false, reduceIte, Nat.reduceEqDiff, Nat.reduceAdd, Nat.reduceMul, Nat.reduceSub, Nat.reduceLeDiff, Nat.reduceLT]
      refine ⟨cells_row hx2.row fun k j hk hj => flatL_get (c := fun k _ => .int .i64 (a k)) hk hj, rfl, fun i hi => by rw [hx2.old i (by omega), hx1.old i hi], by omega, by omega, by omega, fun x k c e => by cases e; exact ⟨by show h.next ≤ g1.next; omega, by show g1.next < g2.next; omega⟩⟩
def chooseSV (ps pm py pn pc : Nat) : Value := .func (.func 131) ⟨[]⟩ ⟨[.pointer (some ⟨ps, 0, none⟩), .pointer (some ⟨pm, 0, none⟩), .pointer (some ⟨py, 0, none⟩), .pointer (some ⟨pn, 0, none⟩), .pointer (some ⟨pc, 0, none⟩)]⟩
/-- the iterator's own rows -/
structure SetS (ps pm py pn pc N M : Nat) (yv : Value) (g : AHeap) : Prop where
  y : Row g py [yv]
  m : Row g pm [.int .i64 (M : Int)]
  n : Row g pn [.int .i64 (N : Int)]
  c : Row g pc [chooseSV ps pm py pn pc]
theorem rowAt {g g' : AHeap} {q : Nat} {cs : List Value} (hr : Row g q cs) (he : g'.get q = g.get q) : Row g' q cs := by
  obtain ⟨w, gr, e⟩ := hr
  exact ⟨w, gr, by rw [he]; exact e⟩
theorem row_lt {g : AHeap} {q : Nat} {cs : List Value} (hr : Row g q cs) : q < g.next := by
  obtain ⟨w, gr, e⟩ := hr
  exact AHeap.lt_of_get e
theorem SetS.same {ps pm py pn pc N M : Nat} {yv : Value} {g g' : AHeap} (hs : SetS ps pm py pn pc N M yv g) (hy : g'.get py = g.get py) (hm : g'.get pm = g.get pm) (hn : g'.get pn = g.get pn) (hc : g'.get pc = g.get pc) : SetS ps pm py pn pc N M yv g' :=
  ⟨rowAt hs.y hy, rowAt hs.m hm, rowAt hs.n hn, rowAt hs.c hc⟩
def bndS (K : Nat) : Nat → Nat
  | 0 => K + 4
  | d + 1 => 5 * (bndS K d + 3)
open Classical in
theorem find_map {N d : Nat} {P : List Int → Prop} {cur : List Int} {x : Int} {l : List (List Int)} : (l.map fun q => x :: q).find? (fun q => decide (P (cur ++ q))) = (l.find? fun q => decide (P ((cur ++ [x]) ++ q))).map fun q => x :: q := by
  rw [List.find?_map]
  congr 2
  funext q
  simp
def s131 : SCode := (.seq (.ops [⟨(some 7), none, .mov (.const (.bool false))⟩]) (.seq (.seq (.ops [⟨(some 9), none, .load1 (T 1)⟩, ⟨(some 10), none, .len (T 9)⟩, ⟨(some 11), none, .load1 (T 2)⟩, ⟨(some 12), none, .int2 .eql (T 10) (T 11)⟩]) (.cond (T 12) (.seq (.draw [⟨.rd, ⟨(some 13), none, .load1 (T 3)⟩⟩, ⟨.rd1, ⟨(some 14), none, .load1 (T 1)⟩⟩, ⟨.up, ⟨(some 15), none, .call (.func 132) [(T 14)]⟩⟩, ⟨.any, ⟨(some 16), none, .call (T 13) [(T 15)]⟩⟩, ⟨.free, ⟨(some 7), none, .mov (T 16)⟩⟩]) .ret) .skip)) (.seq (.seq (.ops [⟨(some 17), none, .mov (T 0)⟩, ⟨(some 8), none, .mov (T 17)⟩]) (.block 0 (.loop (.seq (.seq (.ops [⟨(some 18), none, .mov (T 8)⟩, ⟨(some 19), none, .load1 (T 4)⟩, ⟨(some 20), none, .int2 .lss (T 18) (T 19)⟩]) (.cond (T 20) .skip (.exit 0))) (.seq (.block 1 (.seq (.ops [⟨(some 23), none, .load1 (T 1)⟩, ⟨(some 24), none, .mov (T 8)⟩, ⟨(some 25), none, .bslice 1 1 [(.int .i64 (0))] [0] [(T 24)]⟩, ⟨(some 26), none, .append 1 8 (T 23) (T 25)⟩, ⟨none, none, .store 1 (T 1) (T 26)⟩]) (.seq (.seq (.ops [⟨(some 27), none, .load1 (T 5)⟩, ⟨(some 28), none, .mov (T 8)⟩, ⟨(some 29), none, .int2 .add (T 28) (.const (.int .i64 (1)))⟩, ⟨(some 30), none, .call (T 27) [(T 29)]⟩, ⟨(some 31), none, .not (T 30)⟩]) (.cond (T 31) (.seq (.ops [⟨(some 7), none, .mov (.const (.bool false))⟩]) .ret) .skip)) (.ops [⟨(some 32), none, .load1 (T 1)⟩, ⟨(some 33), none, .load1 (T 1)⟩, ⟨(some 34), none, .len (T 33)⟩, ⟨(some 35), none, .int2 .sub (T 34) (.const (.int .i64 (1)))⟩, ⟨(some 36), none, .slice 1 (T 32) none (some (T 35)) none⟩, ⟨none, none, .store 1 (T 1) (T 36)⟩])))) (.ops [⟨(some 21), none, .mov (T 8)⟩, ⟨(some 22), none, .int2 .add (T 21) (.const (.int .i64 (1)))⟩, ⟨(some 8), none, .mov (T 22)⟩])))))) (.seq (.ops [⟨(some 7), none, .mov (.const (.bool true))⟩]) .ret))))
theorem fok131 : FnOk Try.prog 131 37 s131 [.tmp 7] := ⟨Try.f131, _, Try.func131, rfl, Try.ntmps131, by kernel_rfl, by kernel_rfl⟩
open Classical in
set_option maxHeartbeats 2000000 in
theorem chooseS_c {P : List Int → Prop} {N M K N0 fl B B3 ps pm py pn pc : Nat} {yv : Value} {g0 : AHeap} (Kf : List Int → AHeap → Prop)
    (hN : N ≤ 5) (hM : M ≤ 5) (hfl : fl ≤ B) (hps : B ≤ ps ∧ ps < B3) (hpy : B ≤ py ∧ py < B3 ∧ py ≠ ps) (hpc : B ≤ pc ∧ pc < B3 ∧ pc ≠ ps) (hpm : pm < B) (hpn : pn < B) (hyv : eqV yv yv = true) (hN0 : 10 ≤ N0)
    (hY : ∀ n g l v, N0 ≤ n → Ints g v l.length (atL l) → oneCell v = true → (∀ x k c, v = .slice (some x) k c → B3 ≤ x.block ∧ x.block < g.next) → l.length = M → (∀ i, i < B → g.get i = g0.get i) → B3 ≤ g.next → g.floor = fl → g.next + K < far →
      (P l → ∃ g', call n yv [v] g = some (.bool false, g') ∧ Kf l g' ∧ g'.floor = fl ∧ g.next ≤ g'.next ∧ g'.next ≤ g.next + K) ∧
      (¬ P l → ∃ g', call n yv [v] g = some (.bool true, g') ∧ (∀ i, i < g.next → g'.get i = g.get i) ∧ g'.floor = fl ∧ g.next ≤ g'.next ∧ g'.next ≤ g.next + K)) :
    ∀ (d a n : Nat) (g : AHeap) (v : Value) (cur : List Int) (r : Option (List Int)), r = (combs N d a).find? (fun l => decide (P (cur ++ l))) → cur.length + d = M → N0 + d + 1 ≤ n → SetS ps pm py pn pc N M yv g → g.get ps = some (.row [v] true 0) → SetR B3 g v cur → (∀ i, i < B → g.get i = g0.get i) → B3 ≤ g.next → g.floor = fl → g.next + bndS K d < far →
      ∃ g', call n (chooseSV ps pm py pn pc) [.int .i64 (a : Int)] g = some (.bool r.isNone, g') ∧ g'.floor = fl ∧ g.next ≤ g'.next ∧ g'.next ≤ g.next + bndS K d ∧
        (∀ l, r = some l → Kf (cur ++ l) g') ∧ (r = none → (∀ i, i < B → g'.get i = g0.get i) ∧ SetS ps pm py pn pc N M yv g' ∧ ∃ v', g'.get ps = some (.row [v'] true 0) ∧ SetR B3 g' v' cur) := by
  intro d
  induction d with
  | zero =>
    intro a n g v cur r hr0 hlen hn hit hsg hset hbase hB3 hfg hr
    obtain ⟨n, rfl⟩ : ∃ p, n = p + 1 := ⟨n - 1, by omega⟩
    have hbn : bndS K 0 = K + 4 := rfl
    rw [hbn] at hr ⊢
    have hcM : (cur.length : Int) = (M : Int) := by omega
    have hi := hset.ints
    have rps : Row g ps [v] := ⟨_, _, hsg⟩
    obtain ⟨v1, g1, e1, i1, o1, old1, u1, m1, f1, b1⟩ := clone_c (n := n) (h := g) (by omega) (by omega) hi (by omega)
    have sub1 : Sub All g g1 := AHeap.subOf old1
    have hr1 : r = if P cur then some [] else none := by
      rw [hr0]
      simp only [combs, List.find?_cons, List.find?_nil, List.append_nil]
      by_cases c : P cur
      · rw [decide_eq_true c, if_pos c]
      · rw [decide_eq_false c, if_neg c]
    obtain ⟨y1, y2⟩ := hY n g1 cur v1 (by omega) i1 o1 (fun x k c e => ⟨by have := (b1 x k c e).1; omega, (b1 x k c e).2⟩) (by omega) (fun i hi => by rw [old1 i (by omega)]; exact hbase i hi) (by omega) (by omega) (by omega)
    by_cases c : P cur
    · obtain ⟨g2, e2, k2, f2, u2, m2⟩ := y1 c
      rw [if_pos c] at hr1
      suffices hs : ∃ v' g', call (n + 1) (chooseSV ps pm py pn pc) [.int .i64 (a : Int)] g = some (v', g') ∧ v' = .bool false ∧ g' = g2 by
        obtain ⟨_, _, e, rfl, rfl⟩ := hs
        rw [hr1]
        exact ⟨_, e, f2, by omega, by omega, fun l hl => by cases hl; rw [List.append_nil]; exact k2, fun hl => by cases hl⟩
      refine call_any (xs := []) (ys := [.pointer (some ⟨ps, 0, none⟩), .pointer (some ⟨pm, 0, none⟩), .pointer (some ⟨py, 0, none⟩), .pointer (some ⟨pn, 0, none⟩), .pointer (some ⟨pc, 0, none⟩)]) fok131 rfl rfl (by simp) ?_
      simp only [rn0, rn1, rn2, rn3, rn4, rn5, rn6, rn7, rn8, if_true, if_false, Nat.le_refl, true_and, and_true, decide_true, decide_false, Bool.not_true, Bool.not_false, reduceIte, Nat.reduceEqDiff, Nat.reduceAdd, Nat.reduceMul, Nat.reduceSub, Nat.reduceLeDiff, Nat.reduceLT, s131, List.cons_append, List.nil_append, rps.ld, hit.m.ld, Nat.zero_add, List.getElem?_cons_zero, Cells.len hi, hcM]
      refine W_draw All ?_
      simp only [rn0, rn1, rn2, rn3, rn4, rn5, rn6, rn7, rn8, if_true, if_false, Nat.le_refl, true_and, and_true, decide_true, decide_false, Bool.not_true, Bool.not_false, reduceIte, Nat.reduceEqDiff, Nat.reduceAdd, Nat.reduceMul, Nat.reduceSub, Nat.reduceLeDiff, Nat.reduceLT, rps.ld, hit.y.ld, Nat.zero_add, List.getElem?_cons_zero, hyv, e1, e2]
      exact ⟨⟨u1, sub1⟩, u2⟩
    · obtain ⟨g2, e2, k2, f2, u2, m2⟩ := y2 c
      rw [if_neg c] at hr1
      suffices hs : ∃ v' g', call (n + 1) (chooseSV ps pm py pn pc) [.int .i64 (a : Int)] g = some (v', g') ∧ v' = .bool true ∧ g' = g2 by
        obtain ⟨_, _, e, rfl, rfl⟩ := hs
        rw [hr1]
        have hold : ∀ i, i < g.next → _ := fun i hi => (k2 i (by omega)).trans (old1 i hi)
        refine ⟨_, e, f2, by omega, by omega, fun l hl => (by cases hl), fun _ => ⟨fun i hi => by rw [hold i (by omega)]; exact hbase i hi, hit.same (hold _ (by omega)) (hold _ (by omega)) (hold _ (by omega)) (hold _ (by omega)), v, by rw [hold _ (by omega)]; exact hsg, hset.old fun x k c e hlt => hold _ hlt⟩⟩
      refine call_any (xs := []) (ys := [.pointer (some ⟨ps, 0, none⟩), .pointer (some ⟨pm, 0, none⟩), .pointer (some ⟨py, 0, none⟩), .pointer (some ⟨pn, 0, none⟩), .pointer (some ⟨pc, 0, none⟩)]) fok131 rfl rfl (by simp) ?_
      simp only [rn0, rn1, rn2, rn3, rn4, rn5, rn6, rn7, rn8, if_true, if_false, Nat.le_refl, true_and, and_true, decide_true, decide_false, Bool.not_true, Bool.not_false, reduceIte, Nat.reduceEqDiff, Nat.reduceAdd, Nat.reduceMul, Nat.reduceSub, Nat.reduceLeDiff, Nat.reduceLT, s131, List.cons_append, List.nil_append, rps.ld, hit.m.ld, Nat.zero_add, List.getElem?_cons_zero, Cells.len hi, hcM]
      refine W_draw All ?_
      simp only [rn0, rn1, rn2, rn3, rn4, rn5, rn6, rn7, rn8, if_true, if_false, Nat.le_refl, true_and, and_true, decide_true, decide_false, Bool.not_true, Bool.not_false, reduceIte, Nat.reduceEqDiff, Nat.reduceAdd, Nat.reduceMul, Nat.reduceSub, Nat.reduceLeDiff, Nat.reduceLT, rps.ld, hit.y.ld, Nat.zero_add, List.getElem?_cons_zero, hyv, e1, e2]
      exact ⟨⟨u1, sub1⟩, u2⟩
  | succ d ih =>
    intro a n g v cur r hr0 hlen hn hit hsg hset hbase hB3 hfg hr
    obtain ⟨n, rfl⟩ : ∃ p, n = p + 1 := ⟨n - 1, by omega⟩
    have hbn : bndS K (d + 1) = 5 * (bndS K d + 3) := rfl
    rw [hbn] at hr ⊢
    obtain ⟨X, hX⟩ : ∃ X, X = bndS K d := ⟨_, rfl⟩
    rw [← hX] at hr ih ⊢
    have hcM : ¬ (cur.length : Int) = (M : Int) := by omega
    let part : Nat → List (List Int) := fun k => (combs N d (a + k + 1)).map fun l => ((a + k : Nat) : Int) :: l
    have hpart : combs N (d + 1) a = (List.range (N - a)).flatMap part := rfl
    obtain ⟨m, hm⟩ : ∃ m, m = N - a := ⟨_, rfl⟩
    rw [hpart, ← hm] at hr0
    suffices hs : ∃ v' g', call (n + 1) (chooseSV ps pm py pn pc) [.int .i64 (a : Int)] g = some (v', g') ∧ v' = .bool r.isNone ∧ g'.floor = fl ∧ g.next ≤ g'.next ∧ g'.next ≤ g.next + 5 * (X + 3) ∧
        (∀ l, r = some l → Kf (cur ++ l) g') ∧ (r = none → (∀ i, i < B → g'.get i = g0.get i) ∧ SetS ps pm py pn pc N M yv g' ∧ ∃ v', g'.get ps = some (.row [v'] true 0) ∧ SetR B3 g' v' cur) by
      obtain ⟨_, g', e, rfl, q⟩ := hs
      exact ⟨g', e, q⟩
    have hi := hset.ints
    have rps : Row g ps [v] := ⟨_, _, hsg⟩
    refine call_any (xs := []) (ys := [.pointer (some ⟨ps, 0, none⟩), .pointer (some ⟨pm, 0, none⟩), .pointer (some ⟨py, 0, none⟩), .pointer (some ⟨pn, 0, none⟩), .pointer (some ⟨pc, 0, none⟩)]) fok131 rfl rfl (by simp) ?_
    simp only [rn0, rn1, rn2, rn3, rn4, rn5, rn6, rn7, rn8, if_true, if_false, Nat.le_refl, true_and, and_true, decide_true, decide_false, Bool.not_true, Bool.not_false, reduceIte, Nat.reduceEqDiff, Nat.reduceAdd, Nat.reduceMul, Nat.reduceSub, Nat.reduceLeDiff, Nat.reduceLT, s131, List.cons_append, List.nil_append, rps.ld, hit.m.ld, Nat.zero_add, List.getElem?_cons_zero, Cells.len hi, hcM]
    refine W_loop m (fun k f g1 ms => ((∃ v1, g1.get ps = some (.row [v1] true 0) ∧ SetR B3 g1 v1 cur) ∧ SetS ps pm py pn pc N M yv g1 ∧ (∀ i, i < B → g1.get i = g0.get i) ∧ g1.floor = fl ∧ g.next ≤ g1.next ∧ g1.next ≤ g.next + k * (X + 3) ∧ ((List.range k).flatMap part).find? (fun l => decide (P (cur ++ l))) = none) ∧ ms = [] ∧ f 1 = .pointer (some ⟨ps, 0, none⟩) ∧ f 4 = .pointer (some ⟨pn, 0, none⟩) ∧ f 5 = .pointer (some ⟨pc, 0, none⟩) ∧ f 8 = .int .i64 ((a + k : Nat) : Int)) (by simp; omega) ?_ ?_ ?_
    · simp only [rn0, rn1, rn2, rn3, rn4, rn5, rn6, rn7, rn8, if_true, if_false, Nat.le_refl, true_and, and_true, decide_true, decide_false, Bool.not_true, Bool.not_false, reduceIte, Nat.reduceEqDiff, Nat.reduceAdd, Nat.reduceMul, Nat.reduceSub, Nat.reduceLeDiff, Nat.reduceLT, Nat.add_zero]
      exact ⟨⟨v, hsg, hset⟩, hit, hbase, hfg, by rw [Nat.zero_mul]; exact Nat.le_refl _, by simp⟩
    · rintro k f g1 ms hk ⟨⟨⟨v1, hs1, hset1⟩, it1, hb1, fl1, up1, nx1, hno⟩, rfl, p1, p4, p5, p8⟩
      have hlt : ((a + k : Nat) : Int) < (N : Int) := by omega
      have hw : wrapF .i64 (((a + k : Nat) : Int) + 1) = ((a + k + 1 : Nat) : Int) := by rw [wrap_in (by omega) (by omega)]; rfl
      have hk5 : k * (X + 3) + (X + 3) ≤ 5 * (X + 3) := by
        rw [← Nat.succ_mul]
        exact Nat.mul_le_mul_right _ (by omega)
      generalize hkx : k * (X + 3) = kx at nx1 hk5
      have rp1 : Row g1 ps [v1] := ⟨_, _, hs1⟩
      simp only [rn0, rn1, rn2, rn3, rn4, rn5, rn6, rn7, rn8, if_true, if_false, Nat.le_refl, true_and, and_true, decide_true, decide_false, Bool.not_true, Bool.not_false, reduceIte, Nat.reduceEqDiff, Nat.reduceAdd, Nat.reduceMul, Nat.reduceSub, Nat.reduceLeDiff, Nat.reduceLT, p1, p4, p5, p8, rp1.ld, it1.n.ld, Nat.zero_add, List.getElem?_cons_zero, hlt, sl_int]
      refine step_slice (by omega) rfl fun g2 hx2 => ?_
      have n2 := hx2.next
      have f2 := hx2.floor
      obtain ⟨v3, g3, e3, hset3, o3, u3, m3, f3, old3, nb3⟩ := hset1.push (g1 := g2) (x := ((a + k : Nat) : Int)) (by omega) (by omega) (by omega) hx2 (by omega)
      have nob : ∀ i, i < B3 → NoB v1 i := fun i hi b k c e => by have := (hset1.block e).1; omega
      have nob3 : ∀ i, i < B3 → NoB v3 i := fun i hi b k c e => by have := (hset3.block e).1; omega
      have s3 : g3.get ps = some (.row [v1] true 0) := by rw [old3 _ (by omega) (nob _ hps.2)]; exact hs1
      simp only [rn0, rn1, rn2, rn3, rn4, rn5, rn6, rn7, rn8, if_true, if_false, Nat.le_refl, true_and, and_true, decide_true, decide_false, Bool.not_true, Bool.not_false, reduceIte, Nat.reduceEqDiff, Nat.reduceAdd, Nat.reduceMul, Nat.reduceSub, Nat.reduceLeDiff, Nat.reduceLT, p1, p4, p5, p8, e3]
      refine step_store (b := ps) (off := 0) (vs := [v3]) rfl s3 (by omega) (by omega) (by cases v3 <;> first | rfl | cases o3) (by simp [allB, o3]) rfl (by simp) fun g4 hs4 => ?_
      rw [splice1] at hs4
      have n4 := hs4.next
      have f4 := hs4.floor
      have low4 : ∀ i, i < B3 → i ≠ ps → g4.get i = g1.get i := fun i hi hne => by rw [hs4.old i hne, old3 i (by omega) (nob i hi)]
      have it4 : SetS ps pm py pn pc N M yv g4 := it1.same (low4 _ hpy.2.1 hpy.2.2) (low4 _ (by omega) (by omega)) (low4 _ (by omega) (by omega)) (low4 _ hpc.2.1 hpc.2.2)
      have hset4 : SetR B3 g4 v3 (cur ++ [((a + k : Nat) : Int)]) := hset3.old fun x k c e hl => hs4.old _ (by have := (hset3.block e).1; omega)
      have hb4 : ∀ i, i < B → g4.get i = g0.get i := fun i hi => by rw [low4 i (by omega) (by omega)]; exact hb1 i hi
      obtain ⟨r', hr'⟩ : ∃ r', r' = (combs N d (a + k + 1)).find? (fun l => decide (P ((cur ++ [((a + k : Nat) : Int)]) ++ l))) := ⟨_, rfl⟩
      obtain ⟨g5, e5, f5, u5, m5, kf5, hn5⟩ := ih (a + k + 1) n g4 v3 _ r' hr' (by simp; omega) (by omega) it4 hs4.get hset4 hb4 (by omega) (by omega) (by omega)
      have hfp : (part k).find? (fun l => decide (P (cur ++ l))) = r'.map fun q => ((a + k : Nat) : Int) :: q := by rw [hr']; exact find_map (N := N) (d := d)
      have hrow4 : Row g4 pc [chooseSV ps pm py pn pc] := it4.c
      cases hrr : r' with
      | some l =>
        rw [hrr] at e5 hfp
        obtain ⟨rest, hrest⟩ := part_flat part hk
        have hfind : r = some (((a + k : Nat) : Int) :: l) := by
          rw [hr0, hrest, List.find?_append, hno, List.find?_append, hfp]
          rfl
        have hz : Option.isNone (some l) = false := rfl
        rw [hz] at e5
        have hz' : r.isNone = false := by rw [hfind]; rfl
        simp only [rn0, rn1, rn2, rn3, rn4, rn5, rn6, rn7, rn8, if_true, if_false, Nat.le_refl, true_and, and_true, decide_true, decide_false, Bool.not_true, Bool.not_false, reduceIte, Nat.reduceEqDiff, Nat.reduceAdd, Nat.reduceMul, Nat.reduceSub, Nat.reduceLeDiff, Nat.reduceLT, p1, p4, p5, p8, hrow4.ld, Nat.zero_add, List.getElem?_cons_zero, hw, e5]
        rw [hz']
        refine ⟨rfl, by omega, by omega, by omega, fun q hq => ?_, fun q => by rw [hfind] at q; cases q⟩
        rw [hfind] at hq
        cases hq
        have := kf5 l hrr
        rw [List.append_assoc] at this
        exact this
      | none =>
        rw [hrr] at e5 hfp
        obtain ⟨b5, it5, v5, s5, set5⟩ := hn5 hrr
        have hz : Option.isNone (none : Option (List Int)) = true := rfl
        rw [hz] at e5
        obtain ⟨v6, e6, set6, o6⟩ := set5.cut
        have rp5 : Row g5 ps [v5] := ⟨_, _, s5⟩
        have hl5 : (cur ++ [((a + k : Nat) : Int)]).length = cur.length + 1 := by simp
        have i5 := set5.ints
        rw [hl5] at i5
        have hw5 : wrapF .i64 (((cur.length + 1 : Nat) : Int) - 1) = (cur.length : Int) := by rw [wrap_in (by omega) (by omega)]; omega
        have e6' : sliceA 1 (Option.isSome (some (T 35))) g5 v5 none (some (.int .i64 (cur.length : Int))) none = some (v6, g5) := e6
        simp only [rn0, rn1, rn2, rn3, rn4, rn5, rn6, rn7, rn8, if_true, if_false, Nat.le_refl, true_and, and_true, decide_true, decide_false, Bool.not_true, Bool.not_false, reduceIte, Nat.reduceEqDiff, Nat.reduceAdd, Nat.reduceMul, Nat.reduceSub, Nat.reduceLeDiff, Nat.reduceLT, p1, p4, p5, p8, hrow4.ld, Nat.zero_add, List.getElem?_cons_zero, hw, e5, rp5.ld, Cells.len i5, hw5, Option.map_none, Option.map_some, e6']
        refine step_store (b := ps) (off := 0) (vs := [v6]) rfl s5 (by omega) (by omega) (by cases v6 <;> first | rfl | cases o6) (by simp [allB, o6]) rfl (by simp) fun g7 hs7 => ?_
        rw [splice1] at hs7
        have n7 := hs7.next
        have f7 := hs7.floor
        simp only [rn0, rn1, rn2, rn3, rn4, rn5, rn6, rn7, rn8, if_true, if_false, Nat.le_refl, true_and, and_true, decide_true, decide_false, Bool.not_true, Bool.not_false, reduceIte, Nat.reduceEqDiff, Nat.reduceAdd, Nat.reduceMul, Nat.reduceSub, Nat.reduceLeDiff, Nat.reduceLT, p1, p4, p5, p8, hw]
        have hk1 : (k + 1) * (X + 3) = kx + (X + 3) := by rw [Nat.succ_mul, hkx]
        rw [hk1]
        refine ⟨⟨⟨v6, hs7.get, set6.old fun x k c e hl => hs7.old _ (by have := (set6.block e).1; omega)⟩, it5.same (hs7.old _ hpy.2.2) (hs7.old _ (by omega)) (hs7.old _ (by omega)) (hs7.old _ hpc.2.2), fun i hi => by rw [hs7.old i (by omega)]; exact b5 i hi, by omega, by omega, by omega, ?_⟩, rfl⟩
        rw [List.range_succ, List.flatMap_append, List.find?_append, hno]
        show Option.or none ((([k] : List Nat).flatMap part).find? _) = none
        rw [show ([k] : List Nat).flatMap part = part k by simp, hfp]
        rfl
    · rintro f g1 ms ⟨⟨⟨v1, hs1, hset1⟩, it1, hb1, fl1, up1, nx1, hno⟩, rfl, p1, p4, p5, p8⟩
      have hlt : ¬ ((a + m : Nat) : Int) < (N : Int) := by omega
      have hk5 : m * (X + 3) ≤ 5 * (X + 3) := Nat.mul_le_mul_right _ (by omega)
      have hrn : r = none := by rw [hr0]; exact hno
      have hz : r.isNone = true := by rw [hrn]; rfl
      simp only [rn0, rn1, rn2, rn3, rn4, rn5, rn6, rn7, rn8, if_true, if_false, Nat.le_refl, true_and, and_true, decide_true, decide_false, Bool.not_true, Bool.not_false, reduceIte, Nat.reduceEqDiff, Nat.reduceAdd, Nat.reduceMul, Nat.reduceSub, Nat.reduceLeDiff, Nat.reduceLT, p1, p4, p5, p8, it1.n.ld, Nat.zero_add, List.getElem?_cons_zero, hlt]
      rw [hz]
      have hA := And.intro fl1 (And.intro up1 (And.intro (show g1.next ≤ g.next + 5 * (X + 3) by omega) (And.intro (show ∀ l, r = some l → Kf (cur ++ l) g1 from fun l hl => by rw [hrn] at hl; cases hl) (show r = none → _ from fun _ => And.intro hb1 (And.intro it1 (show ∃ v', g1.get ps = some (.row [v'] true 0) ∧ SetR B3 g1 v' cur from ⟨v1, hs1, hset1⟩))))))
      first | exact hA | exact ⟨rfl, hA⟩
end Go.Vm.St

namespace Go.Vm.St
open Go.Proofs Go.Vm.Vat
set_option linter.unusedSimpArgs false
set_option linter.unusedVariables false
set_option maxRecDepth 10000
variable {n : Nat} {h : AHeap}
def s130 : SCode := (.seq (.ops [⟨(some 3), none, .box (T 0)⟩]) (.seq (.ops [⟨(some 4), none, .alloc [(.slice none 0 0)]⟩]) (.seq (.ops [⟨(some 5), none, .alloc [.nilFunc]⟩]) (.seq (.ops [⟨(some 6), none, .mkfunc 131 [] [(T 4), (T 1), (T 3), (T 2), (T 5)]⟩, ⟨none, none, .store 1 (T 5) (T 6)⟩]) (.ops [⟨(some 7), none, .load1 (T 5)⟩, ⟨(some 8), none, .call (T 7) [(.const (.int .i64 (0)))]⟩])))))
theorem fok130 : FnOk Try.prog 130 9 s130 [] := ⟨Try.f130, _, Try.func130, rfl, Try.ntmps130, by kernel_rfl, by kernel_rfl⟩
open Classical in
set_option maxHeartbeats 1000000 in
theorem setsIter_c {P : List Int → Prop} {N M K N0 pm pn : Nat} {yv : Value} {g : AHeap} {r : Option (List Int)} (Kf : List Int → AHeap → Prop) (hr0 : r = (combs N M 0).find? (fun l => decide (P l)))
    (hN : N ≤ 5) (hM : M ≤ 5) (hm : Row g pm [.int .i64 (M : Int)]) (hnr : Row g pn [.int .i64 (N : Int)]) (hyo : oneCell yv = true) (hyv : eqV yv yv = true) (hfl : g.floor ≤ g.next) (hN0 : 10 ≤ N0) (hn : N0 + 10 ≤ n)
    (hY : ∀ n g1 l v, N0 ≤ n → Ints g1 v l.length (atL l) → oneCell v = true → (∀ x k c, v = .slice (some x) k c → g.next + 3 ≤ x.block ∧ x.block < g1.next) → l.length = M → (∀ i, i < g.next → g1.get i = g.get i) → g.next + 3 ≤ g1.next → g1.floor = g.floor → g1.next + K < far →
      (P l → ∃ g', call n yv [v] g1 = some (.bool false, g') ∧ Kf l g' ∧ g'.floor = g.floor ∧ g1.next ≤ g'.next ∧ g'.next ≤ g1.next + K) ∧
      (¬ P l → ∃ g', call n yv [v] g1 = some (.bool true, g') ∧ (∀ i, i < g1.next → g'.get i = g1.get i) ∧ g'.floor = g.floor ∧ g1.next ≤ g'.next ∧ g'.next ≤ g1.next + K))
    (hr : g.next + 10 + bndS K M < far) :
    ∃ v g', call n (.func (.func 130) ⟨[]⟩ ⟨[.pointer (some ⟨pm, 0, none⟩), .pointer (some ⟨pn, 0, none⟩)]⟩) [yv] g = some (v, g') ∧ g'.floor = g.floor ∧ g.next ≤ g'.next ∧ g'.next ≤ g.next + 3 + bndS K M ∧
      (∀ l, r = some l → Kf l g') ∧ (r = none → ∀ i, i < g.next → g'.get i = g.get i) := by
  obtain ⟨n, rfl⟩ : ∃ p, n = p + 1 := ⟨n - 1, by omega⟩
  have lpm := row_lt hm
  have lpn := row_lt hnr
  refine call_any (xs := []) (ys := [.pointer (some ⟨pm, 0, none⟩), .pointer (some ⟨pn, 0, none⟩)]) fok130 rfl rfl (by simp) ?_
  simp only [s130, List.cons_append, List.nil_append, W_seq, W_ops]
  refine ops_box (cs := [yv]) (by omega) (by simp only [rn0, rn1, rn2, rn3, rn4, rn5, rn6, rn7, rn8, if_true, if_false, Nat.le_refl, true_and, and_true, decide_true, decide_false, Bool.not_true, Bool.not_false, reduceIte, Nat.reduceEqDiff, Nat.reduceAdd, Nat.reduceMul, Nat.reduceSub, Nat.reduceLeDiff, Nat.reduceLT]; cases yv <;> first | rfl | cases hyo) (by simp [allB, hyo]) fun g1 hx1 => ?_
  have n1 := hx1.next
  have f1 := hx1.floor
  simp only [rn0, rn1, rn2, rn3, rn4, rn5, rn6, rn7, rn8, if_true, if_false, Nat.le_refl, true_and, and_true, decide_true, decide_false, Bool.not_true, Bool.not_false, reduceIte, Nat.reduceEqDiff, Nat.reduceAdd, Nat.reduceMul, Nat.reduceSub, Nat.reduceLeDiff, Nat.reduceLT]
  refine step_row (cs := [nilS]) (by omega) rfl rfl fun g2 hx2 => ?_
  have n2 := hx2.next
  have f2 := hx2.floor
  simp only [rn0, rn1, rn2, rn3, rn4, rn5, rn6, rn7, rn8, if_true, if_false, Nat.le_refl, true_and, and_true, decide_true, decide_false, Bool.not_true, Bool.not_false, reduceIte, Nat.reduceEqDiff, Nat.reduceAdd, Nat.reduceMul, Nat.reduceSub, Nat.reduceLeDiff, Nat.reduceLT]
  refine step_row (cs := [.nilFunc]) (by omega) rfl rfl fun g3 hx3 => ?_
  have n3 := hx3.next
  have f3 := hx3.floor
  have e1 : g1.next = g.next + 1 := n1
  have e2 : g2.next = g.next + 2 := by omega
  simp only [rn0, rn1, rn2, rn3, rn4, rn5, rn6, rn7, rn8, if_true, if_false, Nat.le_refl, true_and, and_true, decide_true, decide_false, Bool.not_true, Bool.not_false, reduceIte, Nat.reduceEqDiff, Nat.reduceAdd, Nat.reduceMul, Nat.reduceSub, Nat.reduceLeDiff, Nat.reduceLT]
  refine step_store (b := g2.next) (gr := 0) (vs := [chooseSV g1.next pm g.next pn g2.next]) rfl hx3.get (by omega) (by omega) rfl rfl rfl (by simp) fun g4 hs => ?_
  have n4 := hs.next
  have f4 := hs.floor
  have es : splice [Value.nilFunc] 0 [chooseSV g1.next pm g.next pn g2.next] = [chooseSV g1.next pm g.next pn g2.next] := rfl
  rw [es] at hs
  have old4 : ∀ i, i < g.next → g4.get i = g.get i := fun i hi => by rw [hs.old i (by omega), hx3.old i (by omega), hx2.old i (by omega), hx1.old i hi]
  have hit : SetS g1.next pm g.next pn g2.next N M yv g4 := ⟨⟨true, 0, by rw [hs.old _ (by omega), hx3.old _ (by omega), hx2.old _ (by omega)]; exact hx1.get⟩, rowAt hm (old4 _ lpm), rowAt hnr (old4 _ lpn), ⟨true, 0, hs.get⟩⟩
  have hsg : g4.get g1.next = some (.row [nilS] true 0) := by rw [hs.old _ (by omega), hx3.old _ (by omega)]; exact hx2.get
  have hr0' : r = (combs N M 0).find? (fun l => decide (P ([] ++ l))) := hr0
  obtain ⟨g5, e5, f5, u5, m5, k5, q5⟩ := chooseS_c (P := P) (N := N) (M := M) (K := K) (N0 := N0) (fl := g.floor) (B := g.next) (B3 := g.next + 3) (ps := g1.next) (pm := pm) (py := g.next) (pn := pn) (pc := g2.next) (yv := yv) (g0 := g) Kf hN hM hfl (by omega) (by omega) (by omega) lpm lpn hyv hN0
    hY M 0 n g4 nilS [] r hr0' (by simp) (by omega) hit hsg (.inl ⟨rfl, rfl⟩) old4 (by omega) (by omega) (by omega)
  have hl : loadCell g4 (.pointer (some ⟨g2.next, 0, none⟩)) = some (chooseSV g1.next pm g.next pn g2.next) := by rw [hs.row.ld]; rfl
  have e5' : call n (chooseSV g1.next pm g.next pn g2.next) [.int .i64 0] g4 = some (.bool r.isNone, g5) := e5
  simp only [rn0, rn1, rn2, rn3, rn4, rn5, rn6, rn7, rn8, if_true, if_false, Nat.le_refl, true_and, and_true, decide_true, decide_false, Bool.not_true, Bool.not_false, reduceIte, Nat.reduceEqDiff, Nat.reduceAdd, Nat.reduceMul, Nat.reduceSub, Nat.reduceLeDiff, Nat.reduceLT, hl, e5']
  exact ⟨_, rfl, f5, by omega, by omega, fun l h => k5 l h, fun h => (q5 h).1⟩
def s124 : SCode := (.seq (.ops [⟨(some 2), none, .box (T 0)⟩, ⟨(some 3), none, .box (T 1)⟩, ⟨(some 4), none, .mov (.const .nilFunc)⟩]) (.seq (.ops [⟨(some 5), none, .mkfunc 130 [] [(T 3), (T 2)]⟩, ⟨(some 4), none, .mov (T 5)⟩]) .ret))
theorem fok124 : FnOk Try.prog 124 6 s124 [.tmp 4] := ⟨Try.f124, _, Try.func124, rfl, Try.ntmps124, by kernel_rfl, by kernel_rfl⟩
theorem allSets_c (hn : 1 ≤ n) (hr : h.next + 3 < far) (a b : Int) :
    ∃ h', call n (.func (.func 124) #[] #[]) [.int .i64 a, .int .i64 b] h = some (.func (.func 130) ⟨[]⟩ ⟨[.pointer (some ⟨h.next + 1, 0, none⟩), .pointer (some ⟨h.next, 0, none⟩)]⟩, h') ∧ Row h' h.next [.int .i64 a] ∧ Row h' (h.next + 1) [.int .i64 b] ∧ (∀ i, i < h.next → h'.get i = h.get i) ∧ h'.next = h.next + 2 ∧ h'.floor = h.floor := by
  obtain ⟨n, rfl⟩ : ∃ p, n = p + 1 := ⟨n - 1, by omega⟩
  suffices hs : ∃ v h', call (n + 1) (.func (.func 124) #[] #[]) [.int .i64 a, .int .i64 b] h = some (v, h') ∧ v = .func (.func 130) ⟨[]⟩ ⟨[.pointer (some ⟨h.next + 1, 0, none⟩), .pointer (some ⟨h.next, 0, none⟩)]⟩ ∧ Row h' h.next [.int .i64 a] ∧ Row h' (h.next + 1) [.int .i64 b] ∧ (∀ i, i < h.next → h'.get i = h.get i) ∧ h'.next = h.next + 2 ∧ h'.floor = h.floor by
    obtain ⟨v, h', e, rfl, hx⟩ := hs
    exact ⟨h', e, hx⟩
  refine call_any0 fok124 rfl rfl (by simp) ?_
  simp only [s124, W_seq, W_ops]
  refine ops_box (cs := [.int .i64 a]) (by omega) rfl rfl fun g1 hx1 => ?_
  have n1 := hx1.next
  have f1 := hx1.floor
  refine ops_box (cs := [.int .i64 b]) (by omega) rfl rfl fun g2 hx2 => ?_
  have n2 := hx2.next
  have f2 := hx2.floor
  have r2 := hx2.row
  rw [n1] at r2
  simp only [rn0, rn1, rn2, rn3, rn4, rn5, rn6, rn7, rn8, if_true, if_false, Nat.le_refl, true_and, and_true, decide_true, decide_false, Bool.not_true, Bool.not_false, reduceIte, Nat.reduceEqDiff, Nat.reduceAdd, Nat.reduceMul, Nat.reduceSub, Nat.reduceLeDiff, Nat.reduceLT, n1]
  exact ⟨hx1.row.mono hx2.sub, r2, fun i hi => by rw [hx2.old i (by omega), hx1.old i hi], by omega, by omega⟩
end Go.Vm.St
