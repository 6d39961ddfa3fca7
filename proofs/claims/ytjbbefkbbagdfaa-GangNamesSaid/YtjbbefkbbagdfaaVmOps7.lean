/- A text of the proofs of this seat: an evaluator of the model's code, its soundness, and what it has run. -/
import Derived.Test.YtjbbefkbbagdfaaVmOps6
namespace Go.Vm
variable {P : Program} {φ : Emb} {h : AHeap} {w : World}

theorem withH_some {v : Option Value} {r : Value} {h h' : AHeap} (hr : withH v h = some (r, h')) : v = some r ∧ h' = h := by
  unfold withH at hr
  cases v with
  | none => simp at hr
  | some v =>
    simp only [Option.some.injEq, Prod.mk.injEq] at hr
    exact ⟨by rw [hr.1], hr.2.symm⟩

theorem Unit.op {s : Sem Unit} {w' : World} {h' : AHeap} (k1 : s.run P w = .ok () w') (k2 : HRel φ h' w') (k3 : Ext φ h w φ h' w') : OpDone P (do s; pure .skip) φ h w undef h' :=
  ⟨φ, w', .skip, by simp [k1], .inr ⟨rfl, rfl⟩, k2, k3, okV_undef⟩

theorem builtin_sound (H : HRel φ h w) {dst : Option Tmp} {b : Builtin} {args : Array Operand} {argTypes : Array TypeId} {type : TypeId} {pos : String} {after : Array Edge} {guard : Option (Nat × Bool)} {ts : Slots} {ρ : Operand → Value} {r : Value} {h' : AHeap}
    (hρ : ∀ x ∈ (Op.call ⟨.builtin b, args, argTypes⟩).operands.toList, OpRel φ h.next ts ρ x)
    (hr : (cbuiltin P ⟨dst, .call ⟨.builtin b, args, argTypes⟩, type, pos, after, guard⟩ b args.toList argTypes).run h ts = some (r, h')) :
    OpDone P (execOp ρ ⟨dst, .call ⟨.builtin b, args, argTypes⟩, type, pos, after, guard⟩) φ h w r h' := by
  have hpl := fun hr => plainRun_sound (P := P) H (o := ⟨dst, .call ⟨.builtin b, args, argTypes⟩, type, pos, after, guard⟩) (ρ := ρ) (r := r) (h' := h') (fun cs b => by simp) hρ hr
  have hargs : ∀ x ∈ args.toList, OpRel φ h.next ts ρ x := fun x hx => hρ x (by simp [Op.operands, Call.operands]; simpa using hx)
  have hat0 : ∀ t, argTypes[0]? = some t → argTypes.toList[0]? = some t := fun t ht => by simpa using ht
  unfold cbuiltin at hr
  split at hr
  · -- len
    rename_i x hx
    have ha : args = #[x] := by apply Array.ext'; simpa using hx
    subst ha
    obtain ⟨e1, e2⟩ := hargs x (by simp)
    unfold clen at hr
    split at hr
    · rename_i t ht
      split at hr
      · rename_i e hu
        simp only [lenA] at hr
        split at hr
        · rename_i a n c hv
          simp only [Option.some.injEq, Prod.mk.injEq] at hr
          obtain ⟨rfl, rfl⟩ := hr
          refine OpDone.same H ?_ (by simp)
          rw [hv] at e1
          obtain ⟨c1, e3⟩ := slice_map (φ := φ) a n c
          rw [e3] at e1
          simp [execOp, resolve, invoke, builtin, Builtin.len_, ht, e1, run_underlying hu, goInt]
        · simp at hr
      · rename_i n e hu
        simp only [Option.some.injEq, Prod.mk.injEq] at hr
        obtain ⟨rfl, rfl⟩ := hr
        refine OpDone.same H ?_ (by simp)
        simp [execOp, resolve, invoke, builtin, Builtin.len_, ht, run_underlying hu, goInt]
      · simp [bad] at hr
    · simp [bad] at hr
  · -- append
    rename_i x y hx
    have ha : args = #[x, y] := by apply Array.ext'; simpa using hx
    subst ha
    obtain ⟨e1, e2⟩ := hargs x (by simp)
    obtain ⟨e3, e4⟩ := hargs y (by simp)
    unfold cappend at hr
    split at hr
    rotate_left
    · simp [bad] at hr
    rename_i t u ht hu
    split at hr
    rotate_left
    · simp [bad] at hr
    rename_i e e' het heu
    split at hr
    rotate_left
    · simp [bad] at hr
    rename_i i hi
    split at hr
    rotate_left
    · simp [bad] at hr
    rename_i z hz
    cases hb : (Nat.blt 0 i.size && Nat.beq z.cells.size i.size) with
    | false => simp [hb, bad] at hr
    | true =>
      simp only [hb, cond_true] at hr
      simp only [Bool.and_eq_true, blt_iff, beq_iff] at hb
      have hd := appendA_sound (P := P) H type (elemT_some het) (elemT_some heu) hi hz hb.1 hb.2 e2 e4 hr
      rw [← e1, ← e3] at hd
      obtain ⟨φ', w', k1, k2, k3, k4⟩ := hd.op
      refine ⟨φ', w', k1, ?_, k3, k4⟩
      rw [← k2]
      have happ : ∀ (at1 : Array TypeId) (vs : Array Value), at1[0]? = some t → at1[1]? = some u → (Builtin.append_ at1 type vs) = Builtin.append_ #[t, u] type vs := by
        intro at1 vs h1 h2
        simp [Builtin.append_, h1, h2]
      simp [execOp, resolve, invoke, builtin, happ argTypes _ ht hu]
  · -- copy
    rename_i x y hx
    have ha : args = #[x, y] := by apply Array.ext'; simpa using hx
    subst ha
    obtain ⟨e1, e2⟩ := hargs x (by simp)
    obtain ⟨e3, e4⟩ := hargs y (by simp)
    unfold ccopy at hr
    split at hr
    rotate_left
    · simp [bad] at hr
    rename_i t ht
    split at hr
    rotate_left
    · simp [bad] at hr
    rename_i e het
    split at hr
    rotate_left
    · simp [bad] at hr
    rename_i sz hsz
    have hd := copyA_sound (P := P) H type ht (elemT_some het) hsz e2 e4 hr
    rw [← e1, ← e3] at hd
    obtain ⟨φ', w', k1, k2, k3, k4⟩ := hd.op
    refine ⟨φ', w', k1, ?_, k3, k4⟩
    rw [← k2]
    simp [execOp, resolve, invoke, builtin]
  · -- clear
    rename_i x hx
    have ha : args = #[x] := by apply Array.ext'; simpa using hx
    subst ha
    obtain ⟨e1, e2⟩ := hargs x (by simp)
    unfold cclear at hr
    split at hr
    rotate_left
    · simp [bad] at hr
    rename_i t ht
    split at hr
    rotate_left
    · simp [bad] at hr
    rename_i e het
    split at hr
    rotate_left
    · simp [bad] at hr
    rename_i z hz
    cases hb : plainV z with
    | false => simp [hb, bad] at hr
    | true =>
      simp only [hb, cond_true, seqCells_eq] at hr
      have hd := clearA_sound (P := P) H type ht (elemT_some het) hz hb e2 hr
      rw [← e1] at hd
      obtain ⟨φ', w', k1, k2, k3, k4⟩ := hd.op
      refine ⟨φ', w', k1, ?_, k3, k4⟩
      rw [← k2]
      simp [execOp, resolve, invoke, builtin]
  · exact hpl hr
  · exact hpl hr
  · simp [bad] at hr

theorem cop_sound (H : HRel φ h w) {o : Oper} {ts : Slots} {ρ : Operand → Value} {r : Value} {h' : AHeap} (hρ : ∀ x ∈ o.op.operands.toList, OpRel φ h.next ts ρ x) (hr : (cop P o).run h ts = some (r, h')) :
    OpDone P (execOp ρ o) φ h w r h' := by
  obtain ⟨dst, op, type, pos, after, guard⟩ := o
  cases op <;> simp only [cop] at hr hρ
  case move x =>
    simp only [Option.some.injEq, Prod.mk.injEq] at hr
    obtain ⟨rfl, rfl⟩ := hr
    obtain ⟨e1, e2⟩ := hρ x (by simp [Op.operands])
    exact OpDone.same H (by simp [execOp, e1]) e2
  case assign x =>
    simp only [Option.some.injEq, Prod.mk.injEq] at hr
    obtain ⟨rfl, rfl⟩ := hr
    obtain ⟨e1, e2⟩ := hρ x (by simp [Op.operands])
    exact OpDone.same H (by simp [execOp, e1]) e2
  case nilCheck x =>
    obtain ⟨e1, e2⟩ := hρ x (by simp [Op.operands])
    unfold thereA at hr
    split at hr
    · rename_i a hx
      simp only [Option.some.injEq, Prod.mk.injEq] at hr
      obtain ⟨rfl, rfl⟩ := hr
      rw [hx] at e1 e2
      refine OpDone.same H ?_ e2
      simp [execOp, e1, mapV]
    · rename_i f a b hx
      simp only [Option.some.injEq, Prod.mk.injEq] at hr
      obtain ⟨rfl, rfl⟩ := hr
      rw [hx] at e1 e2
      refine OpDone.same H ?_ e2
      simp [execOp, e1, mapV, mapFn]
    · simp at hr
  case pick c a b =>
    obtain ⟨c1, c2⟩ := hρ c (by simp [Op.operands])
    obtain ⟨a1, a2⟩ := hρ a (by simp [Op.operands])
    obtain ⟨b1, b2⟩ := hρ b (by simp [Op.operands])
    unfold pickA at hr
    split at hr
    · rename_i hc
      simp only [Option.some.injEq, Prod.mk.injEq] at hr
      obtain ⟨rfl, rfl⟩ := hr
      rw [hc] at c1
      exact OpDone.same H (by simp [execOp, c1, asBool, a1]) a2
    · rename_i hc
      simp only [Option.some.injEq, Prod.mk.injEq] at hr
      obtain ⟨rfl, rfl⟩ := hr
      rw [hc] at c1
      exact OpDone.same H (by simp [execOp, c1, asBool, b1]) b2
    · simp at hr
  case alloc e =>
    cases hz : zeroT P e with
    | none => simp [hz, bad] at hr
    | some z =>
      simp only [hz] at hr
      cases hp : plainV z with
      | false => simp [hp, bad] at hr
      | true =>
        simp only [hp, cond_true] at hr
        have hd := (newRowA_sound (P := P) H e (plain_cells_ok hp φ _) hr).op
        rw [zero_map hp φ] at hd
        obtain ⟨φ', w', nx, k1, k2⟩ := hd
        refine ⟨φ', w', nx, ?_, k2⟩
        rw [← k1]
        simp [execOp, Instr.alloc, run_zero_of hz, newVar]
  case box e x =>
    obtain ⟨e1, e2⟩ := hρ x (by simp [Op.operands])
    have hd := (newRowA_sound (P := P) H e (cells_ok e2) hr).op
    obtain ⟨φ', w', nx, k1, k2⟩ := hd
    refine ⟨φ', w', nx, ?_, k2⟩
    rw [← k1]
    simp [execOp, Instr.box, newVar, e1, cellList_map]
  case build t parts =>
    obtain ⟨rfl, k1, k2⟩ := cbuild_sound (P := P) (w := w) (ρ := ρ) (fun x hx => hρ x (by simp [Op.operands] at hx ⊢; exact hx)) hr
    exact OpDone.same H (by simp only [execOp, Sem.run_bind, k1]; rfl) k2
  case buildSlice t len parts =>
    unfold cbuildSlice at hr
    split at hr
    rotate_left
    · simp [bad] at hr
    rename_i e he
    split at hr
    rotate_left
    · simp [bad] at hr
    rename_i s z hs hz
    cases hb : (Nat.ble (len * s) 16777216 && Nat.blt 0 s && Nat.beq z.cells.size s && plainV z) with
    | false => simp [hb, bad] at hr
    | true =>
      simp only [hb, cond_true, seqCells_eq] at hr
      simp only [Bool.and_eq_true, ble_iff, blt_iff, beq_iff] at hb
      obtain ⟨⟨⟨b1, b2⟩, b3⟩, b4⟩ := hb
      exact (buildSl_sound (P := P) H (ρ := ρ) (fun x hx => hρ x (by simp [Op.operands] at hx ⊢; exact hx)) (elemT_some he) hs hz b1 b2 b3 b4 hr).op
  case load t a =>
    obtain ⟨hv, rfl⟩ := withH_some hr
    obtain ⟨e1, e2⟩ := hρ a (by simp [Op.operands])
    obtain ⟨k1, k2⟩ := cload_sound (P := P) H e2 hv
    exact OpDone.same H (by simp [execOp, e1, k1]) k2
  case store t a x =>
    cases hn : sizeT P t with
    | none => simp [hn, bad] at hr
    | some n =>
      simp only [hn] at hr
      obtain ⟨a1, a2⟩ := hρ a (by simp [Op.operands])
      obtain ⟨x1, x2⟩ := hρ x (by simp [Op.operands])
      obtain ⟨rfl, w', k1, k2, k3⟩ := storeN_sound (P := P) H hn x2 hr
      rw [← a1, ← x1] at k1
      exact Unit.op (P := P) k1 k2 k3
  case makeFunc fn a b =>
    cases fn with
    | func f =>
      simp only [Option.some.injEq, Prod.mk.injEq] at hr
      obtain ⟨rfl, rfl⟩ := hr
      have hm : ∀ (l : Array Operand), (∀ x ∈ l.toList, OpRel φ h.next ts ρ x) → l.map ρ = (Array.mk ((cvals l.toList).get ts)).map (mapV φ) ∧ ∀ v ∈ (cvals l.toList).get ts, okV φ h.next v := by
        intro l hl
        rw [cvals_get]
        refine ⟨?_, ?_⟩
        · apply Array.ext'
          simp only [Array.toList_map, List.map_map]
          exact List.map_congr_left fun x hx => (hl x hx).1
        · intro v hv
          obtain ⟨x, hx, rfl⟩ := List.mem_map.1 hv
          exact (hl x hx).2
      obtain ⟨a1, a2⟩ := hm a (fun x hx => hρ x (by simp [Op.operands]; exact .inl (by simpa using hx)))
      obtain ⟨b1, b2⟩ := hm b (fun x hx => hρ x (by simp [Op.operands]; exact .inr (by simpa using hx)))
      refine OpDone.same H ?_ ?_
      · simp only [execOp, Instr.makeFunc, a1, b1, mapV_func, mapFn]
        rfl
      · simp only [okV_func, okFn]
        exact ⟨trivial, a2, b2⟩
    | _ => simp [bad] at hr
  case makeSlice t l c =>
    obtain ⟨l1, l2⟩ := hρ l (by simp [Op.operands])
    obtain ⟨c1, c2⟩ := hρ c (by simp [Op.operands])
    unfold cmakeSlice at hr
    split at hr
    rotate_left
    · simp [bad] at hr
    rename_i e he
    split at hr
    rotate_left
    · simp [bad] at hr
    rename_i i hi
    split at hr
    rotate_left
    · simp [bad] at hr
    rename_i z hz
    cases hb : (Nat.blt 0 i.size && Nat.beq z.cells.size i.size && plainV z) with
    | false => simp [hb, bad] at hr
    | true =>
      simp only [hb, cond_true, seqCells_eq] at hr
      simp only [Bool.and_eq_true, blt_iff, beq_iff] at hb
      have hd := (makeSl_sound (P := P) H (elemT_some he) hi hz hb.1.1 hb.1.2 hb.2 hr).op
      rw [← l1, ← c1] at hd
      exact hd
  case makeMap t rs =>
    cases rs with
    | some x => simp [bad] at hr
    | none =>
      simp only [cmapop] at hr
      split at hr
      · rename_i kt e hu
        split at hr
        · rename_i z hz
          simp only at hr
          obtain ⟨hf, hr⟩ := AHeap.push_eq hr
          simp only [Option.some.injEq, Prod.mk.injEq] at hr
          obtain ⟨rfl, rfl⟩ := hr
          have hp := H.push hf (.map #[] 0) (.map #[] 0) 0 ⟨by
            rw [Emb.put_at]
            show (w.heap.push _)[w.heap.size]? = _
            simp, by simp⟩
          refine ⟨_, _, _, ?_, .inl rfl, hp.1, hp.2, by simp [AHeap.more]⟩
          simp only [execOp, Instr.makeMap, Option.map_none, mapV_map, Emb.put_at]
          rfl
        · simp [bad] at hr
      · simp [bad] at hr
  case slice t x lo hi mx =>
    obtain ⟨x1, x2⟩ := hρ x (by simp [Op.operands])
    have hopt : ∀ (y : Option Operand), (∀ z, y = some z → OpRel φ h.next ts ρ z) → y.map ρ = (optGet y ts).map (mapV φ) := by
      intro y hy
      cases y with
      | none => rfl
      | some z => simp [optGet, (hy z rfl).1]
    have hlo := hopt lo (fun z hz => hρ z (by subst hz; simp [Op.operands]))
    have hhi := hopt hi (fun z hz => hρ z (by subst hz; simp [Op.operands]))
    have hmx := hopt mx (fun z hz => hρ z (by subst hz; simp [Op.operands]))
    have hsome : hi.isSome = (optGet hi ts).isSome := by cases hi <;> rfl
    unfold cslice at hr
    split at hr
    · rename_i e hu
      split at hr
      · rename_i s hs
        simp only [hsome] at hr
        have hd := (sliceA_sound (P := P) H hu hs x2 hr).op
        rw [← x1, ← hlo, ← hhi, ← hmx] at hd
        exact hd
      · simp [bad] at hr
    · rename_i n e hu
      split at hr
      · rename_i s hs
        cases hb : Nat.blt n unk with
        | false => simp [hb, bad] at hr
        | true =>
          simp only [hb, cond_true] at hr
          have hd := (sliceArr_sound (P := P) H hu hs (blt_iff.1 hb) x2 hr).op
          rw [← x1, ← hlo, ← hhi] at hd
          exact hd
      · simp [bad] at hr
    · simp [bad] at hr
  case fieldAddr s x f =>
    obtain ⟨hv, rfl⟩ := withH_some hr
    obtain ⟨e1, e2⟩ := hρ x (by simp [Op.operands])
    obtain ⟨k1, k2⟩ := cfieldAddr_sound (P := P) (w := w) e2 hv
    exact OpDone.same H (by simp [execOp, e1, k1]) k2
  case field t x f =>
    obtain ⟨e1, e2⟩ := hρ x (by simp [Op.operands])
    obtain ⟨rfl, k1, k2⟩ := cfield_sound (P := P) (w := w) e2 hr
    exact OpDone.same H (by simp [execOp, e1, k1]) k2
  case indexAddr t x i =>
    obtain ⟨hv, rfl⟩ := withH_some hr
    obtain ⟨e1, e2⟩ := hρ x (by simp [Op.operands])
    obtain ⟨i1, i2⟩ := hρ i (by simp [Op.operands])
    obtain ⟨k1, k2⟩ := cindexAddr_sound (P := P) (w := w) e2 hv
    exact OpDone.same H (by simp [execOp, e1, i1, k1]) k2
  case lookup t m k ok =>
    obtain ⟨m1, m2⟩ := hρ m (by simp [Op.operands])
    obtain ⟨k1, k2⟩ := hρ k (by simp [Op.operands])
    simp only [cmapop] at hr
    split at hr
    · rename_i kt e hu
      split at hr
      · rename_i z hz
        have hd := (lookupA_sound (P := P) H hu hz hr).op
        rw [← m1, ← k1] at hd
        exact hd
      · simp [bad] at hr
    · simp [bad] at hr
  case mapEntry t m k =>
    obtain ⟨m1, m2⟩ := hρ m (by simp [Op.operands])
    obtain ⟨k1, k2⟩ := hρ k (by simp [Op.operands])
    simp only [cmapop] at hr
    split at hr
    · rename_i kt e hu
      split at hr
      · rename_i z hz
        have hd := (mapEntryA_sound (P := P) H hu hz hr).op
        rw [← m1, ← k1] at hd
        exact hd
      · simp [bad] at hr
    · simp [bad] at hr
  case entryStore t m s x =>
    obtain ⟨m1, m2⟩ := hρ m (by simp [Op.operands])
    obtain ⟨s1, s2⟩ := hρ s (by simp [Op.operands])
    obtain ⟨x1, x2⟩ := hρ x (by simp [Op.operands])
    obtain ⟨rfl, w', k1, k2, k3⟩ := entryStoreA_sound (P := P) (t := t) H hr
    rw [← m1, ← s1, ← x1] at k1
    exact Unit.op (P := P) k1 k2 k3
  case mapUpdate t m k x =>
    obtain ⟨m1, m2⟩ := hρ m (by simp [Op.operands])
    obtain ⟨s1, s2⟩ := hρ k (by simp [Op.operands])
    obtain ⟨x1, x2⟩ := hρ x (by simp [Op.operands])
    simp only [cmapop] at hr
    split at hr
    · rename_i kt e hu
      split at hr
      · rename_i z hz
        obtain ⟨rfl, w', k1, k2, k3⟩ := mapUpdateA_sound (P := P) H hu hr
        rw [← m1, ← s1, ← x1] at k1
        exact Unit.op (P := P) k1 k2 k3
      · simp [bad] at hr
    · simp [bad] at hr
  case binOp op t x y yt => exact cbin_sound H hρ hr
  case unOp op t x =>
    cases op
    case not =>
      obtain ⟨x1, x2⟩ := hρ x (by simp [Op.operands])
      simp only at hr
      split at hr
      · rename_i b hb
        simp only [Option.some.injEq, Prod.mk.injEq] at hr
        obtain ⟨rfl, rfl⟩ := hr
        rw [hb] at x1
        exact OpDone.same H (by simp [execOp, x1, Op.unary]) (by simp)
      · simp at hr
    all_goals exact plainRun_sound (P := P) H (fun cs b => by simp) hρ hr
  case convert => exact plainRun_sound (P := P) H (fun cs b => by simp) hρ hr
  case index => exact plainRun_sound (P := P) H (fun cs b => by simp) hρ hr
  case extract x i =>
    obtain ⟨e1, e2⟩ := hρ x (by simp [Op.operands])
    unfold extractA at hr
    split at hr
    · rename_i vs hvs
      split at hr
      · rename_i v hv
        simp only [Option.some.injEq, Prod.mk.injEq] at hr
        obtain ⟨rfl, rfl⟩ := hr
        rw [hvs] at e1 e2
        simp only [okV_tuple] at e2
        refine OpDone.same H ?_ (e2 v (List.mem_of_getElem? (by rw [Array.getElem?_toList]; exact hv)))
        simp [execOp, e1, Instr.extract, hv]
      · simp at hr
    · simp at hr
  case call c =>
    obtain ⟨callee, args, argTypes⟩ := c
    cases callee with
    | builtin b => exact builtin_sound H hρ hr
    | _ => simp [bad] at hr
  all_goals (simp [bad] at hr)
end Go.Vm
