/- A text of the proofs of this seat: an evaluator of the model's code, its soundness, and what it has run. -/
import Derived.Test.YtjbbefkbbagdfaaVmOps5
import Derived.WalkSpells
namespace Go.Vm
variable {P : Program} {φ : Emb} {h : AHeap} {w : World}

theorem elemT_some {t e : TypeId} (ht : elemT P t = some e) : P.underlying t = some (.slice e) := by
  unfold elemT at ht
  split at ht
  · rename_i h1; simp only [Option.some.injEq] at ht; subst ht; exact h1
  · simp at ht

theorem orNil_sound (_H : HRel φ h w) {t : TypeId} {want : Bool} {alt : AHeap → Slots → Option (Value × AHeap)} {x y : FVal} {ts : Slots} {r : Value} {h' : AHeap} (hr : orNil P t want alt x y h ts = some (r, h')) :
    alt h ts = some (r, h') ∨ (h' = h ∧ ∃ a n c n' c' e, x.get ts = .slice a n c ∧ y.get ts = .slice none n' c' ∧ P.underlying t = some (.slice e) ∧ r = .bool (if want then a.isNone else !a.isNone)) := by
  unfold orNil at hr
  cases he : elemT P t with
  | none => simp only [he] at hr; exact .inl hr
  | some e =>
    simp only [he, eqNil] at hr
    split at hr
    · rename_i a n c n' c' hx hy
      simp only [Option.some.injEq, Prod.mk.injEq] at hr
      obtain ⟨rfl, rfl⟩ := hr
      exact .inr ⟨rfl, some a, n, c, n', c', e, hx, hy, elemT_some he, by cases want <;> rfl⟩
    · rename_i n c n' c' hx hy
      simp only [Option.some.injEq, Prod.mk.injEq] at hr
      obtain ⟨rfl, rfl⟩ := hr
      exact .inr ⟨rfl, none, n, c, n', c', e, hx, hy, elemT_some he, by cases want <;> rfl⟩
    · exact .inl hr

theorem run_eqGuard_slice (op : BinOp) (t : TypeId) (x y : Operand) (a b : Option Addr) (n c n' c' : Nat) : (eqGuard op t x y (.slice a n c) (.slice b n' c')).run P w = .ok () w := by
  unfold eqGuard
  split <;> rfl

theorem slice_map (a : Option Addr) (n c : Nat) : ∃ c', mapV φ (.slice a n c) = .slice (a.map (mapA φ)) n c' := by cases a <;> simp

theorem cbin_sound (H : HRel φ h w) {dst : Option Tmp} {op : BinOp} {t yt type : TypeId} {x y : Operand} {pos : String} {after : Array Edge} {guard : Option (Nat × Bool)} {ts : Slots} {ρ : Operand → Value} {r : Value} {h' : AHeap}
    (hρ : ∀ z ∈ (Op.binOp op t x y yt).operands.toList, OpRel φ h.next ts ρ z)
    (hr : (cbin P op t (cval x) (cval y) (plainRun P ⟨dst, .binOp op t x y yt, type, pos, after, guard⟩)).run h ts = some (r, h')) :
    OpDone P (execOp ρ ⟨dst, .binOp op t x y yt, type, pos, after, guard⟩) φ h w r h' := by
  have hpl := fun hr => plainRun_sound (P := P) H (o := ⟨dst, .binOp op t x y yt, type, pos, after, guard⟩) (ρ := ρ) (r := r) (h' := h') (fun cs b => by simp) hρ hr
  have hx := hρ x (by simp [Op.operands])
  have hy := hρ y (by simp [Op.operands])
  have int : ∀ (f : IntKind → Int → Int → Value) (alt : AHeap → Slots → Option (Value × AHeap)), (∀ k a b, ∃ v, f k a b = v ∧ mapV φ v = v ∧ okV φ h.next v ∧ ∀ w, (Go.binOp op t (.int k a) (.int k b)).run P w = .ok v w) →
      (alt h ts = some (r, h') → OpDone P (execOp ρ ⟨dst, .binOp op t x y yt, type, pos, after, guard⟩) φ h w r h') → intTwo f alt (cval x) (cval y) h ts = some (r, h') →
      OpDone P (execOp ρ ⟨dst, .binOp op t x y yt, type, pos, after, guard⟩) φ h w r h' := by
    intro f alt hf halt hr
    rcases intTwo_sound hr with ⟨k, a, b, h1, h2, rfl, rfl⟩ | hr
    · obtain ⟨v, hv1, hv2, hv3, hv4⟩ := hf k a b
      rw [hv1]
      refine OpDone.same H ?_ hv3
      have e1 : ρ x = .int k a := by rw [hx.1, h1]; simp
      have e2 : ρ y = .int k b := by rw [hy.1, h2]; simp
      simp [execOp, e1, e2, run_eqGuard_int, hv4, hv2]
    · exact halt hr
  have nil : ∀ want, (op = if want then .eql else .neq) → orNil P t want (plainRun P ⟨dst, .binOp op t x y yt, type, pos, after, guard⟩) (cval x) (cval y) h ts = some (r, h') →
      OpDone P (execOp ρ ⟨dst, .binOp op t x y yt, type, pos, after, guard⟩) φ h w r h' := by
    intro want hop hr
    rcases orNil_sound H hr with hr | ⟨rfl, a, n, c, n', c', e, h1, h2, h3, rfl⟩
    · exact hpl hr
    · refine OpDone.same H ?_ (by simp)
      obtain ⟨c1, e1⟩ := slice_map (φ := φ) a n c
      have e1' : ρ x = .slice (a.map (mapA φ)) n c1 := by rw [hx.1, h1, e1]
      have e2 : ρ y = .slice none n' c' := by rw [hy.1, h2]; simp
      subst hop
      cases want with
      | true => simp [execOp, e1', e2, run_eqGuard_slice, Lib.run_eql_slice_nil w t e _ _ _ _ _ h3]
      | false => simp [execOp, e1', e2, run_eqGuard_slice, run_neq_slice_nil_any w t e _ _ _ _ _ h3]
  cases op <;> simp only [cbin] at hr
  case add => exact int _ _ (fun k a b => ⟨_, rfl, by simp [addI], by simp [addI], fun w => by simp [Go.binOp, Op.intArith, addI, wrapF_eq]⟩) hpl hr
  case sub => exact int _ _ (fun k a b => ⟨_, rfl, by simp [subI], by simp [subI], fun w => by simp [Go.binOp, Op.intArith, subI, wrapF_eq]⟩) hpl hr
  case mul => exact int _ _ (fun k a b => ⟨_, rfl, by simp [mulI], by simp [mulI], fun w => by simp [Go.binOp, Op.intArith, mulI, wrapF_eq]⟩) hpl hr
  case eql => exact int _ _ (fun k a b => ⟨_, rfl, by simp [eqlI], by simp [eqlI], fun w => by simp [Go.binOp, Op.intCmp, eqlI, eqI_eq]; rfl⟩) (nil true rfl) hr
  case neq => exact int _ _ (fun k a b => ⟨_, rfl, by simp [neqI], by simp [neqI], fun w => by simp [Go.binOp, Op.intCmp, neqI, eqI_eq]; rfl⟩) (nil false rfl) hr
  case lss => exact int _ _ (fun k a b => ⟨_, rfl, by simp [lssI], by simp [lssI], fun w => by simp [Go.binOp, Op.intCmp, lssI, ltI_eq]⟩) hpl hr
  case leq => exact int _ _ (fun k a b => ⟨_, rfl, by simp [leqI], by simp [leqI], fun w => by simp [Go.binOp, Op.intCmp, leqI, ltI_eq, ← decide_not]⟩) hpl hr
  case gtr => exact int _ _ (fun k a b => ⟨_, rfl, by simp [gtrI], by simp [gtrI], fun w => by simp [Go.binOp, Op.intCmp, gtrI, ltI_eq]⟩) hpl hr
  case geq => exact int _ _ (fun k a b => ⟨_, rfl, by simp [geqI], by simp [geqI], fun w => by simp [Go.binOp, Op.intCmp, geqI, ltI_eq, ← decide_not]⟩) hpl hr
  all_goals exact hpl hr
end Go.Vm
