/- A text of the proofs of this seat: an evaluator of the model's code, its soundness, and what it has run. -/
import Derived.Test.YtjbbefkbbagdfaaVmCall
namespace Go.Vm
variable {P : Program} {φ : Emb} {h : AHeap} {w : World}

theorem eqOA_eq {a b : Option Addr} (h : eqOA a b = true) : a = b := by
  unfold eqOA at h
  split at h
  · rfl
  · rename_i a b
    simp only [Bool.and_eq_true] at h
    obtain ⟨⟨h1, h2⟩, h3⟩ := h
    obtain ⟨x, y, z⟩ := a
    obtain ⟨x', y', z'⟩ := b
    have e1 := beq_iff.1 h1
    have e2 := beq_iff.1 h2
    simp only at e1 e2 h3
    subst e1 e2
    cases z <;> cases z' <;> simp_all
  · simp at h
theorem eqP_eq {a b : Value} (h : eqP a b = true) : a = b := by
  unfold eqP at h
  split at h
  · rw [eqOA_eq h]
  · simp at h
theorem eqPs_eq : ∀ {l r : List Value}, eqPs l r = true → l = r := by
  intro l
  induction l with
  | nil => intro r h; cases r with | nil => rfl | cons _ _ => simp [eqPs] at h
  | cons x l ih =>
    intro r h
    cases r with
    | nil => simp [eqPs] at h
    | cons y r =>
      have h' : (bif eqP x y then eqPs l r else false) = true := h
      cases hx : eqP x y with
      | false => simp [hx] at h'
      | true => simp only [hx, cond_true] at h'; rw [eqP_eq hx, ih h']
theorem eqCell_eq {a b : Value} (h : eqCell a b = true) : a = b := by
  unfold eqCell at h
  split at h
  · rfl
  · rfl
  · simp only [Bool.and_eq_true] at h; rw [sameK_eq h.1, of_decide_eq_true ((eqI_eq _ _).symm.trans h.2)]
  · rw [eqOA_eq h]
  · simp only [Bool.and_eq_true] at h; rw [eqOA_eq h.1.1, beq_iff.1 h.1.2, beq_iff.1 h.2]
  · rfl
  · rw [beq_iff.1 h]
  · rw [beq_iff.1 h]
  · simp only [Bool.and_eq_true] at h; rw [beq_iff.1 h.1.1, eqPs_eq h.1.2, eqPs_eq h.2]
  · rw [beq_iff.1 h]
  · simp at h
theorem eqCells_eq : ∀ {l r : List Value}, eqCells l r = true → l = r := by
  intro l
  induction l with
  | nil => intro r h; cases r with | nil => rfl | cons _ _ => simp [eqCells] at h
  | cons x l ih =>
    intro r h
    cases r with
    | nil => simp [eqCells] at h
    | cons y r =>
      have h' : (bif eqCell x y then eqCells l r else false) = true := h
      cases hx : eqCell x y with
      | false => simp [hx] at h'
      | true => simp only [hx, cond_true] at h'; rw [eqCell_eq hx, ih h']
theorem eqV_eq {a b : Value} (h : eqV a b = true) : a = b := by
  unfold eqV at h
  split at h
  · rw [eqCells_eq h]
  · rw [eqCells_eq h]
  · exact eqCell_eq h

/-! ### the chain's numbers -/
variable {pl : Plan}
noncomputable def lexN (pl : Plan) (ops : Array Oper) (i : Nat) : Nat := ((List.range i).filter (vAt pl ops)).length
theorem lexN_zero (ops : Array Oper) : lexN pl ops 0 = 0 := rfl
theorem lexN_succ (ops : Array Oper) (i : Nat) : lexN pl ops (i + 1) = lexN pl ops i + (if vAt pl ops i = true then 1 else 0) := by
  unfold lexN
  rw [List.range_succ, List.filter_append, List.length_append]
  cases h : vAt pl ops i <;> simp [h]
theorem lexN_mono (ops : Array Oper) {i j : Nat} (h : i ≤ j) : lexN pl ops i ≤ lexN pl ops j := by
  induction h with
  | refl => exact Nat.le_refl _
  | step _ ih => rw [lexN_succ]; omega
theorem lexN_lt (ops : Array Oper) {i j : Nat} (hc : vAt pl ops i = true) (h : i < j) : lexN pl ops i < lexN pl ops j := by
  have h1 := lexN_mono (pl := pl) ops (show i + 1 ≤ j from h)
  rw [lexN_succ, hc] at h1
  simp at h1
  omega
theorem lexN_inv (ops : Array Oper) : ∀ (i m : Nat), m < lexN pl ops i → ∃ j, j < i ∧ vAt pl ops j = true ∧ lexN pl ops j = m := by
  intro i
  induction i with
  | zero => intro m h; simp [lexN_zero] at h
  | succ i ih =>
    intro m h
    rw [lexN_succ] at h
    by_cases hm : m < lexN pl ops i
    · obtain ⟨j, h1, h2⟩ := ih m hm
      exact ⟨j, by omega, h2⟩
    · cases hc : vAt pl ops i with
      | false => simp [hc] at h; omega
      | true => simp [hc] at h; exact ⟨i, by omega, hc, by omega⟩
theorem chain_get (ops : Array Oper) : ∀ (n k c : Nat), ((List.range n).filter (vAt pl ops))[k]? = some c → c < n ∧ vAt pl ops c = true ∧ lexN pl ops c = k := by
  intro n
  induction n with
  | zero => intro k c h; simp at h
  | succ n ih =>
    intro k c h
    rw [List.range_succ, List.filter_append, List.getElem?_append] at h
    split at h
    · obtain ⟨h1, h2⟩ := ih k c h
      exact ⟨by omega, h2⟩
    · rename_i hk
      cases hc : vAt pl ops n with
      | false => simp [hc] at h
      | true =>
        simp only [hc, List.filter_cons_of_pos, List.filter_nil, List.getElem?_singleton] at h
        split at h
        · rename_i h0
          simp only [Option.some.injEq] at h
          subst h
          refine ⟨by omega, hc, ?_⟩
          unfold lexN
          omega
        · simp at h
theorem chain_take (ops : Array Oper) {n m c : Nat} (h : c ∈ ((List.range n).filter (vAt pl ops)).take m) : c < n ∧ vAt pl ops c = true ∧ lexN pl ops c < m := by
  obtain ⟨k, hk⟩ := List.mem_iff_getElem?.1 h
  rw [List.getElem?_take] at hk
  split at hk
  · obtain ⟨h1, h2, h3⟩ := chain_get ops n k c hk
    exact ⟨h1, h2, by omega⟩
  · simp at hk
theorem chain_drop (ops : Array Oper) {n m c : Nat} (h : c ∈ ((List.range n).filter (vAt pl ops)).drop m) : c < n ∧ vAt pl ops c = true ∧ m ≤ lexN pl ops c := by
  obtain ⟨k, hk⟩ := List.mem_iff_getElem?.1 h
  rw [List.getElem?_drop] at hk
  obtain ⟨h1, h2, h3⟩ := chain_get ops n _ c hk
  exact ⟨h1, h2, by omega⟩

/-! ### what the masks say: whoever must have come, where an operation may -/
theorem hasBit_maskOf {acc : List Nat} {j : Nat} : ∀ {l : List Nat}, hasBit (maskOf acc l) j = true → ∃ e ∈ l, j = e ∨ hasBit (acc.getD e 0) j = true := by
  intro l
  induction l with
  | nil => intro h; simp [maskOf, hasBit] at h
  | cons e l ih =>
    intro h
    simp only [maskOf, hasBit, Nat.testBit_or, Bool.or_eq_true] at h
    rcases h with (h | h) | h
    · rw [Nat.testBit_two_pow] at h
      exact ⟨e, by simp, .inl (of_decide_eq_true h).symm⟩
    · exact ⟨e, by simp, .inr h⟩
    · obtain ⟨e', h1, h2⟩ := ih h
      exact ⟨e', by simp [h1], h2⟩
def dirsAt (ops : List Oper) (i : Nat) : List Nat := match ops[i]? with | some o => directs o | none => []
theorem masksOf_spec (D : Nat → Prop) (all : List Oper) (hcl : ∀ i, D i → ∀ e ∈ dirsAt all i, D e) : ∀ (rest : List Oper) (acc : List Nat), (∀ j, rest[j]? = all[acc.length + j]?) →
    (∀ i, i < acc.length → ∀ j, hasBit (acc.getD i 0) j = true → (∀ e ∈ dirsAt all i, D e) → D j) →
    ∀ i, ∀ j, hasBit ((masksOf rest acc).getD i 0) j = true → (∀ e ∈ dirsAt all i, D e) → D j := by
  intro rest
  induction rest with
  | nil =>
    intro acc _ h i j hb hd
    by_cases hi : i < acc.length
    · exact h i hi j hb hd
    · simp only [masksOf] at hb
      rw [List.getD_eq_getElem?_getD, List.getElem?_eq_none (by omega)] at hb
      simp [hasBit] at hb
  | cons o rest ih =>
    intro acc ho h i j hb hd
    simp only [masksOf] at hb
    refine ih (acc ++ [maskOf acc (directs o)]) (fun j => ?_) (fun i hi j hb hd => ?_) i j hb hd
    · have := ho (j + 1)
      simp only [List.getElem?_cons_succ] at this
      rw [this]
      congr 1
      simp
      omega
    · rw [List.getD_eq_getElem?_getD] at hb
      by_cases hl : i < acc.length
      · rw [List.getElem?_append_left hl, ← List.getD_eq_getElem?_getD] at hb
        exact h i hl j hb hd
      · have hie : i = acc.length := by simp at hi; omega
        subst hie
        simp only [List.getElem?_append_right (Nat.le_refl _), Nat.sub_self, List.getElem?_cons_zero, Option.getD_some] at hb
        have ho0 := ho 0
        simp only [List.getElem?_cons_zero, Nat.add_zero] at ho0
        have hdo : dirsAt all acc.length = directs o := by unfold dirsAt; rw [← ho0]
        obtain ⟨e, he, hje⟩ := hasBit_maskOf hb
        have hDe : D e := hd e (by rw [hdo]; exact he)
        rcases hje with rfl | hje
        · exact hDe
        · by_cases hel : e < acc.length
          · exact h e hel j hje (hcl e hDe)
          · rw [List.getD_eq_getElem?_getD, List.getElem?_eq_none (by omega)] at hje
            simp [hasBit] at hje

/-! ### the pass in the order of the text -/
noncomputable def putS (ts : Slots) (dst : Option Tmp) (v : Value) : Slots := match dst with | some d => Slots.set (cway d).way ts v | none => ts
theorem putT_putS {α : Type} (ts : Slots) (dst : Option Tmp) (v : Value) (f : Slots → α) : putT ts dst v f = f (putS ts dst v) := putT_eq ts dst v f
def tsAt (R : List OpRes) (tsE : Slots) (i : Nat) : Option Slots := (R.map (·.ts) ++ [tsE])[i]?

structure OpFact (P : Program) (cf : CallF) (pl : Plan) (ops : Array Oper) (R : List OpRes) (H : List AHeap) (A : Nat → AHeap) (tsE : Slots) (i : Nat) (o : Oper) (r : OpRes) : Prop where
  res : R[i]? = some r
  guard : (cguard ops o).test r.ts = r.v.isSome
  next : tsAt R tsE (i + 1) = some (putS r.ts o.dst (r.v.getD undef))
  chain : isV pl i o = true → H[lexN pl ops i + 1]? = some (A (i + 1))
  run : (isV pl i o = true ∨ inL pl.loose i = true) → (∀ v, r.v = some v → (copc P o).run cf (A i) r.ts = some (v, A (i + 1))) ∧ (r.v = none → A (i + 1) = A i)
  grow : isV pl i o = true → (A i).next ≤ (A (i + 1)).next
  read : isV pl i o = false → inL pl.loose i = false → (∃ h1, H[lexN pl ops i]? = some h1 ∧ ∀ v, r.v = some v → readAt (copc P o) cf h1 r.ts = some v) ∧ A (i + 1) = A i

theorem vAt_of {ops : Array Oper} {i : Nat} {o : Oper} (h : ops[i]? = some o) : vAt pl ops i = isV pl i o := by unfold vAt; rw [h]
theorem chAt_of {ops : Array Oper} {i : Nat} {o : Oper} (h : ops[i]? = some o) : chAt pl ops i = isCh pl i o := by unfold chAt; rw [h]

theorem pass_spec {cf : CallF} {ops : Array Oper} {tsE : Slots} {hE : AHeap} {hsF : List AHeap} {rsF : List OpRes} : ∀ (rest : List Oper) (k : Nat) (ts : Slots) (g h : AHeap) (hs : List AHeap) (rs : List OpRes),
    (∀ j, rest[j]? = ops[k + j]?) → rs.length = k → hs.length = lexN pl ops k → (cpass P pl ops rest k).run cf ts g h (g :: hs) rs = some (tsE, hE, hsF, rsF) →
    (∃ l, rsF.reverse = rs.reverse ++ l) ∧ (∃ l, hsF.reverse = (g :: hs).reverse ++ l) ∧ rsF.length = k + rest.length ∧ hsF.length = lexN pl ops (k + rest.length) + 1 ∧
    tsAt rsF.reverse tsE k = some ts ∧ ∃ A : Nat → AHeap, A k = h ∧ A (k + rest.length) = hE ∧ ∀ i o, k ≤ i → ops[i]? = some o → ∃ r, OpFact P cf pl ops rsF.reverse hsF.reverse A tsE i o r := by
  intro rest
  induction rest with
  | nil =>
    intro k ts g h hs rs ho hrs hhs hr
    simp only [cpass, Option.some.injEq, Prod.mk.injEq] at hr
    obtain ⟨rfl, rfl, rfl, rfl⟩ := hr
    have hend : ∀ i, k ≤ i → ops[i]? = none := fun i hi => by
      have := ho (i - k)
      rw [Nat.add_sub_cancel' hi] at this
      simpa using this.symm
    refine ⟨⟨[], by simp⟩, ⟨[], by simp⟩, by simpa using hrs, by simpa using hhs, ?_, fun _ => h, rfl, rfl, ?_⟩
    · unfold tsAt
      rw [List.getElem?_append_right (by simp [hrs])]
      simp [hrs]
    · intro i o hi hio
      rw [hend i hi] at hio
      cases hio
  | cons o rest ih =>
    intro k ts g h hs rs ho hrs hhs hr
    have hko : ops[k]? = some o := by have := ho 0; simpa using this.symm
    have ho' : ∀ j, rest[j]? = ops[k + 1 + j]? := fun j => by have := ho (j + 1); simpa [Nat.add_assoc, Nat.add_comm 1 j] using this
    have hlen : k + (o :: rest).length = k + 1 + rest.length := by simp; omega
    have hlx := lexN_succ (pl := pl) ops k
    rw [vAt_of hko] at hlx
    rw [hlen]
    -- whatever the first one was
    have fin : ∀ (v : Option Value) (g1 h1 : AHeap) (hs1 : List AHeap), (cguard ops o).test ts = v.isSome → (g1 :: hs1 = g :: hs ∧ isV pl k o = false ∨ hs1 = g :: hs ∧ g1 = h1 ∧ isV pl k o = true) →
        ((isV pl k o = true ∨ inL pl.loose k = true) → (∀ u, v = some u → (copc P o).run cf h ts = some (u, h1)) ∧ (v = none → h1 = h)) → (isV pl k o = true → h.next ≤ h1.next) → (isV pl k o = false → inL pl.loose k = false → (∀ u, v = some u → readAt (copc P o) cf g ts = some u) ∧ h1 = h) →
        (cpass P pl ops rest (k + 1)).run cf (putS ts o.dst (v.getD undef)) g1 h1 (g1 :: hs1) (⟨ts, v⟩ :: rs) = some (tsE, hE, hsF, rsF) →
        (∃ l, rsF.reverse = rs.reverse ++ l) ∧ (∃ l, hsF.reverse = (g :: hs).reverse ++ l) ∧ rsF.length = k + 1 + rest.length ∧ hsF.length = lexN pl ops (k + 1 + rest.length) + 1 ∧
        tsAt rsF.reverse tsE k = some ts ∧ ∃ A : Nat → AHeap, A k = h ∧ A (k + 1 + rest.length) = hE ∧ ∀ i o, k ≤ i → ops[i]? = some o → ∃ r, OpFact P cf pl ops rsF.reverse hsF.reverse A tsE i o r := by
      intro v g1 h1 hs1 hg hhs1 hch hgr hrd hr
      have hl1 : hs1.length = lexN pl ops (k + 1) := by
        rcases hhs1 with ⟨e, hc⟩ | ⟨e, _, hc⟩
        · rw [hlx, hc]
          have : hs1 = hs := by injection e
          subst this
          simpa using hhs
        · rw [hlx, hc, e]
          simpa using hhs
      obtain ⟨⟨l1, e1⟩, ⟨l2, e2⟩, q3, q4, q6, A, qa1, qa2, q7⟩ := ih (k + 1) _ g1 h1 hs1 (⟨ts, v⟩ :: rs) ho' (by simp [hrs]) hl1 hr
      have e1' : rsF.reverse = rs.reverse ++ (⟨ts, v⟩ :: l1) := by rw [e1]; simp
      have e2' : ∃ l, hsF.reverse = (g :: hs).reverse ++ l := by
        rcases hhs1 with ⟨e, hc⟩ | ⟨e, _, hc⟩
        · exact ⟨l2, by rw [e2, e]⟩
        · exact ⟨g1 :: l2, by rw [e2, e]; simp⟩
      have hRk : rsF.reverse[k]? = some ⟨ts, v⟩ := by
        rw [e1', List.getElem?_append_right (by simp [hrs])]
        simp [hrs]
      have hHk : hsF.reverse[lexN pl ops k]? = some g := by
        obtain ⟨l, hl⟩ := e2'
        rw [hl, List.reverse_cons, List.append_assoc, List.getElem?_append_right (by simp [hhs])]
        simp [hhs]
      obtain ⟨B, hB0, hA⟩ : ∃ B : Nat → AHeap, B k = h ∧ ∀ i, k + 1 ≤ i → B i = A i := ⟨fun i => if i = k then h else A i, if_pos rfl, fun i hi => if_neg (by omega)⟩
      refine ⟨⟨_, e1'⟩, e2', q3, q4, ?_, B, hB0, ?_, ?_⟩
      · unfold tsAt
        rw [List.getElem?_append_left (by simp; rw [q3]; omega), List.getElem?_map, hRk]
        rfl
      · rw [hA _ (by omega)]; exact qa2
      · intro i o' hi hio
        by_cases hik : i = k
        · subst hik
          rw [hko] at hio
          cases hio
          refine ⟨⟨ts, v⟩, hRk, hg, q6, ?_, ?_, ?_, ?_⟩
          · intro hc
            rw [hA _ (Nat.le_refl _), qa1]
            rcases hhs1 with ⟨_, hc'⟩ | ⟨e, e', _⟩
            · rw [hc] at hc'; cases hc'
            · rw [e2, List.reverse_cons, List.append_assoc, List.getElem?_append_right (by simp [e, hhs])]
              simp [e, e', hhs]
          · intro hc
            rw [hA _ (Nat.le_refl _), qa1, hB0]
            exact hch hc
          · intro hc
            rw [hA _ (Nat.le_refl _), qa1, hB0]
            exact hgr hc
          · intro hc hc'
            rw [hA _ (Nat.le_refl _), qa1, hB0]
            exact ⟨⟨g, hHk, (hrd hc hc').1⟩, (hrd hc hc').2⟩
        · obtain ⟨r, F⟩ := q7 i o' (by omega) hio
          refine ⟨r, F.res, F.guard, F.next, ?_, ?_, ?_, ?_⟩
          · rw [hA _ (by omega)]; exact F.chain
          · rw [hA _ (by omega), hA _ (by omega)]; exact F.run
          · rw [hA _ (by omega), hA _ (by omega)]; exact F.grow
          · rw [hA _ (by omega), hA _ (by omega)]; exact F.read
    simp only [cpass] at hr
    cases hc : isV pl k o with
    | true =>
      simp only [hc, cond_true, passChain, putT_putS] at hr
      cases hg : (cguard ops o).test ts with
      | true =>
        simp only [hg, cond_true] at hr
        split at hr
        · rename_i v h' hrun
          obtain ⟨hle, hr⟩ := cond_some hr
          exact fin (some v) h' h' (g :: hs) (by rw [hg]; rfl) (.inr ⟨rfl, rfl, hc⟩) (fun _ => ⟨fun u hu => by cases hu; exact hrun, fun e => by cases e⟩) (fun _ => ble_iff.1 hle) (fun e => by rw [hc] at e; cases e) hr
        · simp at hr
      | false =>
        simp only [hg, cond_false] at hr
        exact fin none h h (g :: hs) (by rw [hg]; rfl) (.inr ⟨rfl, rfl, hc⟩) (fun _ => ⟨fun u hu => (nomatch hu), fun _ => rfl⟩) (fun _ => Nat.le_refl _) (fun e => by rw [hc] at e; cases e) hr
    | false =>
      simp only [hc, cond_false] at hr
      cases hl : inL pl.loose k with
      | true =>
        simp only [hl, cond_true, passLoose, putT_putS] at hr
        cases hg : (cguard ops o).test ts with
        | true =>
          simp only [hg, cond_true] at hr
          split at hr
          · rename_i v h' hrun
            exact fin (some v) g h' hs (by rw [hg]; rfl) (.inl ⟨rfl, hc⟩) (fun _ => ⟨fun u hu => by cases hu; exact hrun, fun e => by cases e⟩) (fun e => by rw [hc] at e; cases e) (fun _ e => by rw [hl] at e; cases e) hr
          · simp at hr
        | false =>
          simp only [hg, cond_false] at hr
          exact fin none g h hs (by rw [hg]; rfl) (.inl ⟨rfl, hc⟩) (fun _ => ⟨fun u hu => (nomatch hu), fun _ => rfl⟩) (fun e => by rw [hc] at e; cases e) (fun _ e => by rw [hl] at e; cases e) hr
      | false =>
        simp only [hl, cond_false, passRead, putT_putS] at hr
        cases hg : (cguard ops o).test ts with
        | true =>
          simp only [hg, cond_true] at hr
          split at hr
          · rename_i v hrun
            exact fin (some v) g h hs (by rw [hg]; rfl) (.inl ⟨rfl, hc⟩) (fun e => by rcases e with e | e; (rw [hc] at e; cases e); (rw [hl] at e; cases e)) (fun e => by rw [hc] at e; cases e) (fun _ _ => ⟨fun u hu => by cases hu; exact hrun, rfl⟩) hr
          · simp at hr
        | false =>
          simp only [hg, cond_false] at hr
          exact fin none g h hs (by rw [hg]; rfl) (.inl ⟨rfl, hc⟩) (fun e => by rcases e with e | e; (rw [hc] at e; cases e); (rw [hl] at e; cases e)) (fun e => by rw [hc] at e; cases e) (fun _ _ => ⟨fun u hu => (nomatch hu), rfl⟩) hr

/-! ### the readers at all stages -/
theorem forceNats_eq (l : List Nat) (f : List Nat → FStages) : forceNats l f = f l := by
  induction l generalizing f with
  | nil => rfl
  | cons n l ih => show seqNat n (fun n => forceNats l fun l => f (n :: l)) = _; rw [seqNat_eq, ih]
theorem nthH_eq (l : List AHeap) (n : Nat) : nthH l n = l[n]? := by
  induction l generalizing n with
  | nil => rfl
  | cons x l ih => cases n with
    | zero => rfl
    | succ n => exact ih n
theorem checkAt_spec {c : FCall} {cf : CallF} {hs : List AHeap} {ts : Slots} {v : Value} : ∀ {stages : List Nat}, checkAt c cf hs ts v stages = true → ∀ m ∈ stages, ∃ h, hs[m]? = some h ∧ readAt c cf h ts = some v := by
  intro stages
  induction stages with
  | nil => intro _ m hm; simp at hm
  | cons x l ih =>
    intro hr m hm
    have hr' : (match nthH hs x with
      | some h => match readAt c cf h ts with
        | some u => bif eqV u v then checkAt c cf hs ts v l else false
        | none => false
      | none => false) = true := hr
    split at hr'
    · rename_i h hh
      split at hr'
      · rename_i u hu
        cases he : eqV u v with
        | false => simp [he] at hr'
        | true =>
          simp only [he, cond_true] at hr'
          rcases List.mem_cons.1 hm with rfl | hm
          · exact ⟨h, by rw [← nthH_eq]; exact hh, by rw [hu, eqV_eq he]⟩
          · exact ih hr' m hm
      · simp at hr'
    · simp at hr'
theorem check_spec {cf : CallF} {ops : Array Oper} {info : DrawInfo} {H : List AHeap} : ∀ (rest : List Oper) (k : Nat) (R : List OpRes), (∀ j, rest[j]? = ops[k + j]?) →
    (ccheck P info rest k (lexN info.plan ops k)).run cf H R = true → ∀ j o, rest[j]? = some o → isV info.plan (k + j) o = false → (inL info.plan.loose (k + j) || heapFree o) = false → ∃ r, R[j]? = some r ∧ ∀ v, r.v = some v → ∀ m, m ≤ info.chain.length → mayAt info.masks info.chain (k + j) m = true → m ≠ lexN info.plan ops (k + j) →
      ∃ h, H[m]? = some h ∧ readAt (copc P o) cf h r.ts = some v := by
  intro rest
  induction rest with
  | nil => intro k R _ _ j o hj; simp at hj
  | cons o rest ih =>
    intro k R ho hr j o' hj hc hl'
    have hko : ops[k]? = some o := by have := ho 0; simpa using this.symm
    have ho' : ∀ j, rest[j]? = ops[k + 1 + j]? := fun j => by have := ho (j + 1); simpa [Nat.add_assoc, Nat.add_comm 1 j] using this
    have hlx := lexN_succ (pl := info.plan) ops k
    rw [vAt_of hko] at hlx
    have next : ∀ R', (ccheck P info rest (k + 1) (lexN info.plan ops (k + 1))).run cf H R' = true → ∀ r0, ∀ j, (o :: rest)[j + 1]? = some o' → isV info.plan (k + (j + 1)) o' = false → (inL info.plan.loose (k + (j + 1)) || heapFree o') = false →
        ∃ r, (r0 :: R')[j + 1]? = some r ∧ ∀ v, r.v = some v → ∀ m, m ≤ info.chain.length → mayAt info.masks info.chain (k + (j + 1)) m = true → m ≠ lexN info.plan ops (k + (j + 1)) →
        ∃ h, H[m]? = some h ∧ readAt (copc P o') cf h r.ts = some v := by
      intro R' hr r0 j hj hc hl'
      have e : k + (j + 1) = k + 1 + j := by omega
      rw [e] at hc hl' ⊢
      obtain ⟨r', h1, h2⟩ := ih (k + 1) R' ho' hr j o' (by simpa using hj) hc hl'
      exact ⟨r', by simpa using h1, h2⟩
    simp only [ccheck] at hr
    cases hco : isV info.plan k o with
    | true =>
      simp only [hco, cond_true, skipStep] at hr
      rw [hco] at hlx
      simp only [if_true] at hlx
      rw [← hlx] at hr
      split at hr
      · rename_i r R'
        cases j with
        | zero => simp only [List.getElem?_cons_zero, Option.some.injEq] at hj; subst hj; rw [Nat.add_zero, hco] at hc; cases hc
        | succ j => exact next R' hr r j hj hc hl'
      · simp at hr
    | false =>
      rw [hco] at hlx
      simp only [Bool.false_eq_true, if_false, Nat.add_zero] at hlx
      simp only [hco, cond_false] at hr
      cases hl : (inL info.plan.loose k || heapFree o) with
      | true =>
        simp only [hl, cond_true, skipStep] at hr
        rw [← hlx] at hr
        split at hr
        · rename_i r R'
          cases j with
          | zero => simp only [List.getElem?_cons_zero, Option.some.injEq] at hj; subst hj; rw [Nat.add_zero, hl] at hl'; cases hl'
          | succ j => exact next R' hr r j hj hc hl'
        · simp at hr
      | false =>
        simp only [hl, cond_false, checkStep] at hr
        split at hr
        · rename_i ts v R'
          obtain ⟨hck, hr⟩ : checkAt (copc P o) cf H ts v (cstages info k (lexN info.plan ops k)).l = true ∧ _ := by
            cases hck : checkAt (copc P o) cf H ts v (cstages info k (lexN info.plan ops k)).l with
            | false => simp [hck] at hr
            | true => rw [hck] at hr; exact ⟨rfl, hr⟩
          simp only [cond_true] at hr
          cases j with
          | zero =>
            simp only [List.getElem?_cons_zero, Option.some.injEq] at hj
            subst hj
            refine ⟨⟨ts, some v⟩, rfl, fun u hu m hm hmay hne => ?_⟩
            cases hu
            refine checkAt_spec hck m ?_
            unfold cstages
            rw [forceNats_eq]
            simp only [List.mem_filter, List.mem_range, Bool.and_eq_true]
            refine ⟨by omega, by simpa using hmay, ?_⟩
            cases hb : Nat.beq m (lexN info.plan ops k) with
            | false => rfl
            | true => exact absurd (beq_iff.1 hb) (by simpa using hne)
          | succ j => rw [← hlx] at hr; exact next R' hr ⟨ts, some v⟩ j hj hc hl'
        · rename_i ts R'
          cases j with
          | zero =>
            simp only [List.getElem?_cons_zero, Option.some.injEq] at hj
            subst hj
            exact ⟨⟨ts, none⟩, rfl, fun u hu => by cases hu⟩
          | succ j => rw [← hlx] at hr; exact next R' hr ⟨ts, none⟩ j hj hc hl'
        · simp at hr
end Go.Vm
