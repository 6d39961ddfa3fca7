/- Texts of the proofs of this seat, put together: VmW, VmF, VmX, VmRep, VmPl, VmSt, VmBit, VmGrow, VmRange, VmEq, VmLift, VmEq2, VmMap. -/
import Derived.Test.YtlkambpieajplaaGreatPt2
import Derived.Laws.BitsLemmas
import Derived.ChangeKeysEq
import Derived.ChangeArms
import Derived.ReadAgain
import Derived.ChangeOld
import Derived.ChangeSame

namespace Go.Vm
variable {P : Program} {cf : CallF} {N : Nat}
inductive Kd where
  | free | rd1 | rd | qc | qe | up | any
structure DI where
  k : Kd
  i : SI
inductive SCode where
  | skip
  | ret
  | exit (i : Nat)
  | ops (l : List SI)
  | draw (l : List DI)
  | seq (a b : SCode)
  | cond (c : Operand) (a b : SCode)
  | block (i : Nat) (a : SCode)
  | loop (a : SCode)
  | range (g : Operand) (params : Array Tmp) (assign body : Code)
  /-- a region that this form has no rule for: not to be reached -/
  | stuck
noncomputable section
def pureOp : SOp → Bool
  | .mov _ | .pick .. | .build .. | .buildArr .. | .field1 .. | .fieldN .. | .extract .. | .load1 _ | .loadN .. | .mkfunc .. | .fieldAddr .. | .idxArr .. | .idxSl .. | .len _ | .lookup .. | .there _ | .int2 .. | .eqNil .. | .not _ | .bin .. | .plain .. | .sliceArr .. => true
  | _ => false
def Sub (S : Nat → Prop) (h g : AHeap) : Prop := ∀ i cs rw gr, S i → h.get i = some (.row cs rw gr) → g.get i = some (.row cs rw gr)
def Gd (S : Nat → Prop) (T : AHeap → Prop) (h g : AHeap) : Prop := Sub S h g ∧ T g
def isSlice : SOp → Bool
  | .slice .. => true
  | _ => false
def isLookup : SOp → Bool
  | .lookup .. => true
  | _ => false
def needK (info : DrawInfo) (ops : Array Oper) : Nat :=
  (List.range ops.size).foldl (fun k i => match ops[i]? with
    | some o => bif isV info.plan i o || inL info.plan.loose i || heapFree o then k else
        (List.range (info.chain.length + 1)).foldl (fun k m => bif mayAt info.masks info.chain i m && Nat.ble k m then m else k) k
    | none => k) 0
def stagesOk (info : DrawInfo) (i K : Nat) : Bool := (List.range (info.chain.length + 1)).all fun m => !(mayAt info.masks info.chain i m) || Nat.ble m K
def kindOf (info : DrawInfo) (i lex K : Nat) (eq : Bool) (o : Oper) (s : SOp) : Option Kd :=
  bif isV info.plan i o then some (bif Nat.blt lex K then .up else .any)
  else bif inL info.plan.loose i then some (bif Nat.ble lex K then .up else .any)
  else bif heapFree o then some .free
  else bif Nat.ble lex K && stagesOk info i K then
    (bif (pureOp s || isSlice s) && !(isLookup s && !(Nat.beq lex 0 && (cstages info i lex).l.isEmpty)) then some (bif (cstages info i lex).l.isEmpty then .rd1 else .rd) else bif isNamed o || isLookup s then some (bif eq && (isLookup s && (cstages info i lex).l.isEmpty) then .qe else .qc) else none)
  else none
def nextEq (info : DrawInfo) (i : Nat) (eq : Bool) (o : Oper) : Bool := bif isV info.plan i o then true else bif inL info.plan.loose i then false else eq
def compDs (P : Program) (N : Nat) (info : DrawInfo) (ops : Array Oper) (K : Nat) : List Oper → Nat → Nat → Bool → Option (List DI)
  | [], _, _, _ => some []
  | o :: l, i, lex, eq =>
    match compI P N ops o with
    | some s =>
      match kindOf info i lex K eq o s.op with
      | some k =>
        match compDs P N info ops K l (i + 1) (bif isV info.plan i o then lex + 1 else lex) (nextEq info i eq o) with
        | some is => some (⟨k, s⟩ :: is)
        | none => none
      | none => none
    | none => none
def compCode (P : Program) (N : Nat) : Code → Option SCode
  | .skip => some .skip
  | .label _ => some .skip
  | .ret => some .ret
  | .exit i => some (.exit i)
  | .region _ ops draw =>
    bif draw then
      bif (cinfo ops).ok then
        match compDs P N (cinfo ops) ops (needK (cinfo ops) ops) ops.toList 0 0 true with
        | some l => some (.draw l)
        | none => some .stuck
      else some .stuck
    else
      match compIs P N ops ops.toList with
      | some l => some (.ops l)
      | none => some .stuck
  | .seq a b =>
    match compCode P N a with
    | some a => match compCode P N b with
      | some b => some (.seq a b)
      | none => none
    | none => none
  | .cond c a b =>
    bif fineOp c && opIn N c then
      match compCode P N a with
      | some a => match compCode P N b with
        | some b => some (.cond c a b)
        | none => none
      | none => none
    else none
  | .block i a =>
    match compCode P N a with
    | some a => some (.block i a)
    | none => none
  | .loop a =>
    match compCode P N a with
    | some a => some (.loop a)
    | none => none
  | .scope a => compCode P N a
  | .rangeFunc g params assign body => bif fineOp g && opIn N g then some (.range g params assign body) else none
  | _ => none
def guardOk (f : Fr) : Option (Nat × Bool) → Bool
  | none => true
  | some (d, want) => isB want (f d)
def Wops (P : Program) (cf : CallF) (N : Nat) : List SI → (Fr → AHeap → Prop) → Fr → AHeap → Prop
  | [], Q, f, h => Q f h
  | i :: L, Q, f, h => (guardOk f i.guard = true ∧ ∃ v h', sem P cf N f h i.op = some (v, h') ∧ Wops P cf N L Q (putF f i.dst v) h') ∨ (guardOk f i.guard = false ∧ Wops P cf N L Q (putF f i.dst undef) h)
def readsIn (S : Nat → Prop) (f : Fr) : SOp → Prop
  | .load1 a => ∀ ad, val f a = .pointer (some ad) → S ad.block
  | .loadN _ a => ∀ ad, val f a = .pointer (some ad) → S ad.block
  | _ => True
def semD (P : Program) (cf : CallF) (N : Nat) (S : Nat → Prop) (T : AHeap → Prop) (h0 : AHeap) (k : Kd) (f : Fr) (h : AHeap) (op : SOp) (v : Value) (h' : AHeap) : Prop :=
  match k with
  | .free => sem P cf N f h op = some (v, h) ∧ h' = h
  | .rd1 => sem P cf N f h0 op = some (v, h0) ∧ readsIn S f op ∧ h' = h
  | .rd => sem P cf N f h0 op = some (v, h0) ∧ readsIn S f op ∧ eqV v v = true ∧ h' = h
  | .qe => sem P cf N f h.shutAll op = some (v, h.shutAll) ∧ h' = h
  | .qc => (∀ g, Gd S T h0 g → sem P cf N f g.shutAll op = some (v, g.shutAll)) ∧ eqV v v = true ∧ h' = h
  | .up => sem P cf N f h op = some (v, h') ∧ h.next ≤ h'.next ∧ Gd S T h0 h'
  | .any => sem P cf N f h op = some (v, h') ∧ h.next ≤ h'.next
def Wd (P : Program) (cf : CallF) (N : Nat) (S : Nat → Prop) (T : AHeap → Prop) (h0 : AHeap) : List DI → (Fr → AHeap → Prop) → Fr → AHeap → Prop
  | [], Q, f, h => Q f h
  | d :: L, Q, f, h => (guardOk f d.i.guard = true ∧ ∃ v h', semD P cf N S T h0 d.k f h d.i.op v h' ∧ Wd P cf N S T h0 L Q (putF f d.i.dst v) h') ∨ (guardOk f d.i.guard = false ∧ Wd P cf N S T h0 L Q (putF f d.i.dst undef) h)
abbrev WPost := Ex → Fr → AHeap → List Nat → Prop
def thenQ (k : Fr → AHeap → List Nat → Prop) (Q : WPost) : WPost := fun e f h m =>
  match e with
  | .norm => k f h m
  | e => Q e f h m
def blockQ (i : Nat) (Q : WPost) : WPost := fun e f h m =>
  match e with
  | .exit j => if j = i then Q .norm f h m else Q (.exit j) f h m
  | e => Q e f h m
def loopW (body : WPost → Fr → AHeap → List Nat → Prop) (Q : WPost) : Nat → Fr → AHeap → List Nat → Prop
  | 0 => fun _ _ _ => False
  | n + 1 => body (thenQ (loopW body Q n) Q)
structure Cx where
  P : Program
  cf : CallF
  N : Nat
  fn : Nat
  ar : Option Nat
  n : Nat
def W (X : Cx) : SCode → WPost → Fr → AHeap → List Nat → Prop
  | .skip, Q, f, h, m => Q .norm f h m
  | .ret, Q, f, h, m => Q .ret f h m
  | .exit i, Q, f, h, m => Q (.exit i) f h m
  | .ops l, Q, f, h, m => Wops X.P X.cf X.N l (fun f h => Q .norm f h m) f h
  | .draw l, Q, f, h, m => ∃ S T, T h ∧ Wd X.P X.cf X.N S T h l (fun f h => Q .norm f h m) f h
  | .seq a b, Q, f, h, m => W X a (thenQ (W X b Q) Q) f h m
  | .cond c a b, Q, f, h, m => (val f c = .bool true ∧ W X a Q f h m) ∨ (val f c = .bool false ∧ W X b Q f h m)
  | .block i a, Q, f, h, m => W X a (blockQ i Q) f h m
  | .loop a, Q, f, h, m => loopW (W X a) Q X.n f h m
  | .range g params assign body, Q, f, h, m => ∀ ts, View X.N ts f → ∃ e h' m', rangeA X.cf X.fn X.ar (val f g) params assign body ⟨ts, h, m⟩ = some (e, ⟨ts, h', m'⟩) ∧ Q e f h' m'
  | .stuck, _, _, _, _ => False
end
theorem guard_eq {ops : Array Oper} {o : Oper} {g : Option (Nat × Bool)} {ts : Slots} {f : Fr} (hc : compGuard ops N o.guard = some g) (hv : View N ts f) : (cguard ops o).test ts = guardOk f g := by
  unfold compGuard at hc
  unfold cguard
  split at hc
  · rename_i hg
    cases hc
    simp only [hg]
    rfl
  · rename_i j want hg
    simp only [hg]
    split at hc
    · rename_i d hd
      cases hb : Nat.blt d N with
      | false => simp [hb] at hc
      | true =>
        simp only [hb, cond_true, Option.some.injEq] at hc
        subst hc
        simp only [hd, guardOk]
        have := hv.val (x := .tmp d) hb
        rw [← show (cval (.tmp d)).get ts = ts.get (cway d).way from rfl, this]
        rfl
    · simp at hc
theorem comp_some {ops : Array Oper} {o : Oper} {i : SI} (hc : compI P N ops o = some i) :
    allB fineOp o.op.operands.toList = true ∧ allB (opIn N) o.op.operands.toList = true ∧ compGuard ops N o.guard = some i.guard ∧ compOp P o = some i.op ∧ i.dst = o.dst := by
  unfold compI at hc
  cases hb : allB fineOp o.op.operands.toList && allB (opIn N) o.op.operands.toList with
  | false => simp [hb] at hc
  | true =>
    simp only [hb, cond_true] at hc
    split at hc
    · rename_i g hg
      split at hc
      · rename_i s hs
        cases hc
        simp only [Bool.and_eq_true] at hb
        exact ⟨hb.1, hb.2, hg, hs, rfl⟩
      · simp at hc
    · simp at hc
theorem comps_cons {ops : Array Oper} {o : Oper} {rest : List Oper} {l : List SI} (hc : compIs P N ops (o :: rest) = some l) : ∃ i is, l = i :: is ∧ compI P N ops o = some i ∧ compIs P N ops rest = some is := by
  unfold compIs at hc
  split at hc
  · rename_i i hi
    split at hc
    · rename_i is his
      cases hc
      exact ⟨i, is, rfl, hi, his⟩
    · simp at hc
  · simp at hc
theorem wops_sound {ops : Array Oper} {Q : Fr → AHeap → Prop} {m : List Nat} : ∀ (rest : List Oper) (l : List SI) (ts : Slots) (f : Fr) (h : AHeap), compIs P N ops rest = some l → View N ts f → Wops P cf N l Q f h →
    ∃ ts' f' h', (cops P ops rest).run cf ⟨ts, h, m⟩ = some ⟨ts', h', m⟩ ∧ View N ts' f' ∧ Q f' h' := by
  intro rest
  induction rest with
  | nil =>
    intro l ts f h hc hv hw
    cases hc
    simp only [Wops] at hw
    exact ⟨ts, f, h, rfl, hv, hw⟩
  | cons o rest ih =>
    intro l ts f h hc hv hw
    obtain ⟨i, is, rfl, hi, his⟩ := comps_cons hc
    obtain ⟨c1, c2, c3, c4, c5⟩ := comp_some hi
    simp only [Wops] at hw
    rcases hw with ⟨g1, v, h', hs, hw⟩ | ⟨g1, hw⟩
    · rw [c5] at hw
      have hr := comp_sound c4 c1 c2 hv hs
      obtain ⟨ts', f', h2, e1, e2, e3⟩ := ih is _ _ _ his (hv.putF o.dst v) hw
      refine ⟨ts', f', h2, ?_, e2, e3⟩
      simp only [cops, stepOp, guard_eq c3 hv, g1, hr, cond_true, putT_putS]
      exact e1
    · rw [c5] at hw
      obtain ⟨ts', f', h2, e1, e2, e3⟩ := ih is _ _ _ his (hv.putF o.dst undef) hw
      refine ⟨ts', f', h2, ?_, e2, e3⟩
      simp only [cops, stepOp, guard_eq c3 hv, g1, cond_false, putT_putS]
      exact e1
theorem withH_sub {v w : Option Value} {h h' g : AHeap} {r : Value} (e : withH v h = some (r, h')) (hw : ∀ u, v = some u → w = some u) : withH w g = some (r, g) := by
  unfold withH at *
  split at e
  · rename_i u; cases e; rw [hw _ rfl]
  · cases e
theorem loadCell_sub {S : Nat → Prop} {h g : AHeap} (hs : Sub S h g) {p v : Value} (hp : ∀ ad, p = .pointer (some ad) → S ad.block) (e : loadCell h p = some v) : loadCell g p = some v := by
  unfold loadCell at *
  split at e
  · split at e
    · rename_i q; simp only [hs _ _ _ _ (hp _ rfl) q]; exact e
    · cases e
  · cases e
theorem loadAgg_sub {S : Nat → Prop} {h g : AHeap} (hs : Sub S h g) {n : Nat} {p v : Value} (hp : ∀ ad, p = .pointer (some ad) → S ad.block) (e : loadAgg n h p = some v) : loadAgg n g p = some v := by
  unfold loadAgg at *
  split at e
  · split at e
    · rename_i q; simp only [hs _ _ _ _ (hp _ rfl) q]; exact e
    · cases e
  · cases e
theorem slice_sub {h h' g : AHeap} {s : Nat} {b : Bool} {x : Value} {lo hi mx : Option Value} {v : Value} (e : sliceA s b h x lo hi mx = some (v, h')) (hh : h' = h) : sliceA s b g x lo hi mx = some (v, g) := by
  subst hh
  unfold sliceA at *
  split at e
  · rename_i a len cap
    split at e
    · rename_i l hh' _ _
      obtain ⟨q1, e⟩ := cond_some e
      rw [q1]
      simp only [cond_true]
      split at e
      · split at e
        · obtain ⟨q2, e⟩ := cond_some e
          rw [q2]
          simp only [cond_true]
          cases e; rfl
        · cases e
      · cases hc : Nat.blt cap unk with
        | true => simp only [hc, cond_true] at e ⊢; cases e; rfl
        | false =>
          simp only [hc, cond_false] at e ⊢
          cases hc2 : Nat.beq l 0 with
          | true => simp only [hc2, cond_true] at e ⊢; cases e; rfl
          | false =>
            simp only [hc2, cond_false] at e ⊢
            cases hc3 : Nat.blt l hh' with
            | true => simp only [hc3, cond_true] at e ⊢; cases e; rfl
            | false =>
              simp only [hc3, cond_false] at e
              obtain ⟨_, e⟩ := AHeap.push_eq e
              simp only [Option.some.injEq, Prod.mk.injEq] at e
              have := congrArg AHeap.next e.2
              simp only [AHeap.more] at this
              omega
    · cases e
  · cases e
theorem plainF_sub {f : Fr} {h h' g : AHeap} {op : Op} {ty : TypeId} {v : Value} (e : plainF P N op ty f h = some (v, h')) : plainF P N op ty f g = some (v, g) := by
  unfold plainF at *
  obtain ⟨q1, e⟩ := cond_some e
  rw [q1]
  simp only [cond_true]
  split at e
  · obtain ⟨q3, e⟩ := cond_some e
    cases e
    simp only [q3, cond_true]
  · cases e
theorem sem_pure {S : Nat → Prop} {f : Fr} {h g : AHeap} {s : SOp} {v : Value} (hp : (pureOp s || isSlice s) = true) (hnl : isLookup s = false) (hs : sem P cf N f h s = some (v, h)) (hin : readsIn S f s) (hsub : Sub S h g) : sem P cf N f g s = some (v, g) := by
  cases s <;> simp only [pureOp, isSlice, isLookup, Bool.false_eq_true, Bool.or_false, Bool.or_true, Bool.or_self] at hp hnl <;> simp only [sem] at hs ⊢
  case mov x => cases hs; rfl
  case pick c a b =>
    unfold pickA at *
    split at hs <;> first | (cases hs; rfl) | cases hs
  case build pl zc is vs =>
    unfold buildA at *
    split at hs <;> first | (cases hs; rfl) | cases hs
  case buildArr s zc is vs =>
    unfold buildA at *
    split at hs <;> first | (cases hs; rfl) | cases hs
  case field1 off x =>
    unfold partOne at *
    split at hs
    · split at hs <;> first | (cases hs; rfl) | cases hs
    · cases hs
  case fieldN off n x =>
    unfold partAgg at *
    split at hs
    · simp only [dropK_eq, takeK_eq] at hs ⊢
      obtain ⟨q1, hs⟩ := ite_some hs
      obtain ⟨q2, hs⟩ := ite_some hs
      cases hs
      rw [if_pos q1, if_pos q2]
    · cases hs
  case lookup kt z ok m k => cases hnl
  case extract i x =>
    unfold extractA at *
    split at hs
    · split at hs <;> first | (cases hs; rfl) | cases hs
    · cases hs
  case load1 a => exact withH_sub hs fun u hu => loadCell_sub hsub hin hu
  case loadN n a => exact withH_sub hs fun u hu => loadAgg_sub hsub hin hu
  case mkfunc g a b => cases hs; rfl
  case slice s x lo hi mx => exact slice_sub hs rfl
  case sliceArr m s x lo hi =>
    unfold sliceArr at *
    split at hs
    · split at hs
      · obtain ⟨q1, hs⟩ := cond_some hs
        cases hs
        rw [q1]; rfl
      · cases hs
    · cases hs
  case fieldAddr off x => exact withH_sub hs fun u hu => hu
  case idxArr len s x i => exact withH_sub hs fun u hu => hu
  case idxSl s x i => exact withH_sub hs fun u hu => hu
  case there x =>
    unfold thereA at *
    split at hs <;> first | (cases hs; rfl) | cases hs
  case len x =>
    unfold lenA at *
    split at hs <;> first | (cases hs; rfl) | cases hs
  case int2 op x y =>
    unfold int2A at *
    split at hs
    · split at hs <;> first | (cases hs; rfl) | cases hs
    · cases hs
  case eqNil want x y =>
    unfold eqNilA at *
    split at hs <;> first | (cases hs; rfl) | cases hs
  case not x =>
    unfold notA at *
    split at hs <;> first | (cases hs; rfl) | cases hs
  case bin b op ty x y =>
    unfold binA at *
    split at hs
    · split at hs
      · obtain ⟨q1, hs⟩ := cond_some hs
        cases hs
        rw [q1]; rfl
      · exact plainF_sub hs
    · exact plainF_sub hs
  case plain op ty => exact plainF_sub hs
theorem sem_lookup {f : Fr} {h : AHeap} {s : SOp} {v : Value} (hl : isLookup s = true) (hs : sem P cf N f h s = some (v, h)) : sem P cf N f h.shutAll s = some (v, h.shutAll) := by
  cases s <;> simp only [isLookup, Bool.false_eq_true] at hl
  case lookup kt z ok m k =>
    simp only [sem] at hs ⊢
    have ha : amap h.shutAll (val f m) = amap h (val f m) := rfl
    unfold lookupA at *
    rw [ha]
    split at hs
    · obtain ⟨q1, hs⟩ := cond_some hs
      rw [q1]
      simp only [cond_true]
      split at hs
      · obtain ⟨q2, hs⟩ := cond_some hs
        cases hs
        simp only [q2, cond_true]
      · cases hs; rfl
      · cases hs
    · cases hs
theorem sub_shut {S : Nat → Prop} {h g : AHeap} (hs : Sub S h g) : Sub S h g.shutAll := hs
def RFact (P : Program) (cf : CallF) (S : Nat → Prop) (T : AHeap → Prop) (h0 : AHeap) (info : DrawInfo) (K : Nat) (i lex : Nat) (o : Oper) (r : OpRes) : Prop :=
  ∀ v, r.v = some v → (cstages info i lex).l = [] ∨ (∀ g, Gd S T h0 g → readAt (copc P o) cf g r.ts = some v) ∧ eqV v v = true ∧ ∀ m, m ≤ info.chain.length → mayAt info.masks info.chain i m = true → m ≤ K
theorem compDs_cons {info : DrawInfo} {ops : Array Oper} {K i lex : Nat} {eq : Bool} {o : Oper} {rest : List Oper} {l : List DI} (hc : compDs P N info ops K (o :: rest) i lex eq = some l) :
    ∃ s k is, l = ⟨k, s⟩ :: is ∧ compI P N ops o = some s ∧ kindOf info i lex K eq o s.op = some k ∧ compDs P N info ops K rest (i + 1) (bif isV info.plan i o then lex + 1 else lex) (nextEq info i eq o) = some is := by
  unfold compDs at hc
  split at hc
  · rename_i s hs
    split at hc
    · rename_i k hk
      split at hc
      · rename_i is his
        cases hc
        exact ⟨s, k, is, rfl, hs, hk, his⟩
      · cases hc
    · cases hc
  · cases hc
theorem pass_run {info : DrawInfo} {ops : Array Oper} {K : Nat} {Q : Fr → AHeap → Prop} {S : Nat → Prop} {T : AHeap → Prop} {h0 : AHeap} : ∀ (rest : List Oper) (i lex : Nat) (eq : Bool) (l : List DI) (ts : Slots) (f : Fr) (g h : AHeap) (hs : List AHeap) (rs : List OpRes),
    compDs P N info ops K rest i lex eq = some l → View N ts f → Wd P cf N S T h0 l Q f h → (lex ≤ K → Gd S T h0 g ∧ Gd S T h0 h) → (lex = 0 → g = h0) → (eq = true → g = h) →
    ∃ (tsE : Slots) (fE : Fr) (hE : AHeap) (hl : List AHeap) (l2 : List OpRes), (cpass P info.plan ops rest i).run cf ts g h hs rs = some (tsE, hE, hl.reverse ++ hs, l2.reverse ++ rs) ∧ View N tsE fE ∧ Q fE hE ∧ (∀ k hm, hl[k]? = some hm → lex + 1 + k ≤ K → Gd S T h0 hm) ∧
      l2.length = rest.length ∧ ∀ j o, rest[j]? = some o → isV info.plan (i + j) o = false → (inL info.plan.loose (i + j) || heapFree o) = false → ∃ r lx, l2[j]? = some r ∧ lx = lex + ((List.range j).filter fun q => match rest[q]? with | some p => isV info.plan (i + q) p | none => false).length ∧ RFact P cf S T h0 info K (i + j) lx o r := by
  intro rest
  induction rest with
  | nil =>
    intro i lex eq l ts f g h hs rs hc hv hw _ _ _
    cases hc
    simp only [Wd] at hw
    exact ⟨ts, f, h, [], [], rfl, hv, hw, by simp, rfl, by simp⟩
  | cons o rest ih =>
    intro i lex eq l ts f g h hs rs hc hv hw hsub hz hge
    obtain ⟨s, k, is, rfl, hi, hk, his⟩ := compDs_cons hc
    obtain ⟨c1, c2, c3, c4, c5⟩ := comp_some hi
    have hcount : ∀ j, ((List.range (j + 1)).filter fun q => match (o :: rest)[q]? with | some p => isV info.plan (i + q) p | none => false).length
        = (bif isV info.plan i o then 1 else 0) + ((List.range j).filter fun q => match rest[q]? with | some p => isV info.plan (i + 1 + q) p | none => false).length := by
      intro j
      rw [List.range_succ_eq_map, List.filter_cons]
      have e0 : (match (o :: rest)[0]? with | some p => isV info.plan (i + 0) p | none => false) = isV info.plan i o := rfl
      rw [e0, List.filter_map]
      have e1 : ((fun q => match (o :: rest)[q]? with | some p => isV info.plan (i + q) p | none => false) ∘ Nat.succ) = fun q => match rest[q]? with | some p => isV info.plan (i + 1 + q) p | none => false := by
        funext q
        show (match (o :: rest)[q + 1]? with | some p => isV info.plan (i + (q + 1)) p | none => false) = _
        rw [List.getElem?_cons_succ, show i + (q + 1) = i + 1 + q by omega]
      cases isV info.plan i o <;> simp [e1, Nat.add_comm]
    -- whatever the first one was
    have fin : ∀ (r : OpRes) (f1 : Fr) (g1 h1 : AHeap) (hl1 : List AHeap), (cpass P info.plan ops (o :: rest) i).run cf ts g h hs rs = (cpass P info.plan ops rest (i + 1)).run cf (putS ts o.dst (r.v.getD undef)) g1 h1 (hl1 ++ hs) (r :: rs) →
        View N (putS ts o.dst (r.v.getD undef)) f1 → Wd P cf N S T h0 is Q f1 h1 → ((bif isV info.plan i o then lex + 1 else lex) ≤ K → Gd S T h0 g1 ∧ Gd S T h0 h1) → ((bif isV info.plan i o then lex + 1 else lex) = 0 → g1 = h0) → (nextEq info i eq o = true → g1 = h1) →
        (isV info.plan i o = true ∧ hl1 = [g1] ∨ isV info.plan i o = false ∧ hl1 = []) → (isV info.plan i o = false → (inL info.plan.loose i || heapFree o) = false → RFact P cf S T h0 info K i lex o r) →
        ∃ (tsE : Slots) (fE : Fr) (hE : AHeap) (hl : List AHeap) (l2 : List OpRes), (cpass P info.plan ops (o :: rest) i).run cf ts g h hs rs = some (tsE, hE, hl.reverse ++ hs, l2.reverse ++ rs) ∧ View N tsE fE ∧ Q fE hE ∧ (∀ k hm, hl[k]? = some hm → lex + 1 + k ≤ K → Gd S T h0 hm) ∧
          l2.length = (o :: rest).length ∧ ∀ j o', (o :: rest)[j]? = some o' → isV info.plan (i + j) o' = false → (inL info.plan.loose (i + j) || heapFree o') = false → ∃ r lx, l2[j]? = some r ∧ lx = lex + ((List.range j).filter fun q => match (o :: rest)[q]? with | some p => isV info.plan (i + q) p | none => false).length ∧ RFact P cf S T h0 info K (i + j) lx o' r := by
      intro r f1 g1 h1 hl1 hrun hv1 hw1 hsub1 hz1 hge1 hhl hrf
      obtain ⟨tsE, fE, hE, hl, l2, e1, e2, e3, e4, e5, e6⟩ := ih (i + 1) _ _ is _ f1 g1 h1 (hl1 ++ hs) (r :: rs) his hv1 hw1 hsub1 hz1 hge1
      refine ⟨tsE, fE, hE, hl1 ++ hl, r :: l2, ?_, e2, e3, ?_, by simp [e5], ?_⟩
      · rw [hrun, e1]
        rcases hhl with ⟨_, rfl⟩ | ⟨_, rfl⟩ <;> simp
      · intro k hm hk hle
        rcases hhl with ⟨hV, rfl⟩ | ⟨hV, rfl⟩
        · rw [hV] at e4 hsub1
          cases k with
          | zero =>
            simp only [List.cons_append, List.nil_append, List.getElem?_cons_zero, Option.some.injEq] at hk
            subst hk
            exact (hsub1 (by simpa using hle)).1
          | succ k =>
            simp only [List.cons_append, List.nil_append, List.getElem?_cons_succ] at hk
            exact e4 k hm hk (by simp only [cond_true]; omega)
        · rw [hV] at e4
          exact e4 k hm (by simpa using hk) (by simpa using hle)
      · intro j o' hj hV hl'
        cases j with
        | zero =>
          simp only [List.getElem?_cons_zero, Option.some.injEq] at hj
          subst hj
          exact ⟨r, lex, rfl, by simp, hrf hV hl'⟩
        | succ j =>
          simp only [List.getElem?_cons_succ] at hj
          have ee : i + (j + 1) = i + 1 + j := by omega
          rw [ee] at hV hl' ⊢
          obtain ⟨r', lx, k1, k2, k3⟩ := e6 j o' hj hV hl'
          refine ⟨r', lx, by simpa using k1, ?_, k3⟩
          rw [hcount, k2]
          cases isV info.plan i o <;> simp <;> omega
    simp only [Wd] at hw
    unfold kindOf at hk
    cases hV : isV info.plan i o with
    | true =>
      rw [hV, cond_true] at hk
      cases hk
      rcases hw with ⟨g1, v, h', hs', hw⟩ | ⟨g1, hw⟩
      · rw [c5] at hw
        have hsem : sem P cf N f h s.op = some (v, h') ∧ h.next ≤ h'.next ∧ (lex < K → Gd S T h0 h') := by
          cases hb : Nat.blt lex K with
          | true => rw [hb, cond_true] at hs'; exact ⟨hs'.1, hs'.2.1, fun _ => hs'.2.2⟩
          | false => rw [hb, cond_false] at hs'; exact ⟨hs'.1, hs'.2, fun h => by rw [blt_iff.2 h] at hb; cases hb⟩
        have hr := comp_sound c4 c1 c2 hv hsem.1
        refine fin ⟨ts, some v⟩ _ h' h' [h'] ?_ (hv.putF o.dst v) hw (by rw [hV, cond_true]; exact fun hle => ⟨hsem.2.2 hle, hsem.2.2 hle⟩) (by rw [hV, cond_true]; intro e; omega) (fun _ => rfl) (.inl ⟨hV, rfl⟩) (fun e => by rw [hV] at e; cases e)
        simp only [cpass, hV, cond_true, passChain, guard_eq c3 hv, g1, hr, putT_putS, ble_iff.2 hsem.2.1]
        rfl
      · rw [c5] at hw
        refine fin ⟨ts, none⟩ _ h h [h] ?_ (hv.putF o.dst undef) hw (by rw [hV, cond_true]; exact fun hle => ⟨(hsub (by omega)).2, (hsub (by omega)).2⟩) (by rw [hV, cond_true]; intro e; omega) (fun _ => rfl) (.inl ⟨hV, rfl⟩) (fun e => by rw [hV] at e; cases e)
        simp only [cpass, hV, cond_true, passChain, guard_eq c3 hv, g1, putT_putS, cond_false]
        rfl
    | false =>
      rw [hV, cond_false] at hk
      cases hL : inL info.plan.loose i with
      | true =>
        rw [hL, cond_true] at hk
        cases hk
        rcases hw with ⟨g1, v, h', hs', hw⟩ | ⟨g1, hw⟩
        · rw [c5] at hw
          have hsem : sem P cf N f h s.op = some (v, h') ∧ (lex ≤ K → Gd S T h0 h') := by
            cases hb : Nat.ble lex K with
            | true => rw [hb, cond_true] at hs'; exact ⟨hs'.1, fun _ => hs'.2.2⟩
            | false => rw [hb, cond_false] at hs'; exact ⟨hs'.1, fun h => by rw [ble_iff.2 h] at hb; cases hb⟩
          have hr := comp_sound c4 c1 c2 hv hsem.1
          refine fin ⟨ts, some v⟩ _ g h' [] ?_ (hv.putF o.dst v) hw (by rw [hV, cond_false]; exact fun hle => ⟨(hsub hle).1, hsem.2 hle⟩) (by rw [hV, cond_false]; exact hz) (by unfold nextEq; rw [hV, cond_false, hL, cond_true]; intro e; cases e) (.inr ⟨hV, rfl⟩) (fun _ e => by rw [hL] at e; simp at e)
          simp only [cpass, hV, cond_false, hL, cond_true, passLoose, guard_eq c3 hv, g1, hr, putT_putS]
          rfl
        · rw [c5] at hw
          refine fin ⟨ts, none⟩ _ g h [] ?_ (hv.putF o.dst undef) hw (by rw [hV, cond_false]; exact hsub) (by rw [hV, cond_false]; exact hz) (by unfold nextEq; rw [hV, cond_false, hL, cond_true]; intro e; cases e) (.inr ⟨hV, rfl⟩) (fun _ e => by rw [hL] at e; simp at e)
          simp only [cpass, hV, cond_false, hL, cond_true, passLoose, guard_eq c3 hv, g1, putT_putS]
          rfl
      | false =>
        rw [hL, cond_false] at hk
        -- a reader
        have reader : ∀ v, readAt (copc P o) cf g ts = some v → guardOk f s.guard = true → Wd P cf N S T h0 is Q (putF f o.dst v) h →
            (heapFree o = false → RFact P cf S T h0 info K i lex o ⟨ts, some v⟩) → ∃ (tsE : Slots) (fE : Fr) (hE : AHeap) (hl : List AHeap) (l2 : List OpRes), (cpass P info.plan ops (o :: rest) i).run cf ts g h hs rs = some (tsE, hE, hl.reverse ++ hs, l2.reverse ++ rs) ∧ View N tsE fE ∧ Q fE hE ∧ (∀ k hm, hl[k]? = some hm → lex + 1 + k ≤ K → Gd S T h0 hm) ∧
          l2.length = (o :: rest).length ∧ ∀ j o', (o :: rest)[j]? = some o' → isV info.plan (i + j) o' = false → (inL info.plan.loose (i + j) || heapFree o') = false → ∃ r lx, l2[j]? = some r ∧ lx = lex + ((List.range j).filter fun q => match (o :: rest)[q]? with | some p => isV info.plan (i + q) p | none => false).length ∧ RFact P cf S T h0 info K (i + j) lx o' r := by
          intro v hrg g1 hw hrf
          refine fin ⟨ts, some v⟩ _ g h [] ?_ (hv.putF o.dst v) hw (by rw [hV, cond_false]; exact hsub) (by rw [hV, cond_false]; exact hz) (by unfold nextEq; rw [hV, cond_false, hL, cond_false]; exact hge) (.inr ⟨hV, rfl⟩) (fun _ e => hrf (by rw [hL, Bool.false_or] at e; exact e))
          simp only [cpass, hV, cond_false, hL, passRead, guard_eq c3 hv, g1, cond_true, hrg, putT_putS]
          rfl
        have skipped : guardOk f s.guard = false → Wd P cf N S T h0 is Q (putF f o.dst undef) h → ∃ (tsE : Slots) (fE : Fr) (hE : AHeap) (hl : List AHeap) (l2 : List OpRes), (cpass P info.plan ops (o :: rest) i).run cf ts g h hs rs = some (tsE, hE, hl.reverse ++ hs, l2.reverse ++ rs) ∧ View N tsE fE ∧ Q fE hE ∧ (∀ k hm, hl[k]? = some hm → lex + 1 + k ≤ K → Gd S T h0 hm) ∧
          l2.length = (o :: rest).length ∧ ∀ j o', (o :: rest)[j]? = some o' → isV info.plan (i + j) o' = false → (inL info.plan.loose (i + j) || heapFree o') = false → ∃ r lx, l2[j]? = some r ∧ lx = lex + ((List.range j).filter fun q => match (o :: rest)[q]? with | some p => isV info.plan (i + q) p | none => false).length ∧ RFact P cf S T h0 info K (i + j) lx o' r := by
          intro g1 hw
          refine fin ⟨ts, none⟩ _ g h [] ?_ (hv.putF o.dst undef) hw (by rw [hV, cond_false]; exact hsub) (by rw [hV, cond_false]; exact hz) (by unfold nextEq; rw [hV, cond_false, hL, cond_false]; exact hge) (.inr ⟨hV, rfl⟩) (fun _ _ v hv => by cases hv)
          simp only [cpass, hV, cond_false, hL, passRead, guard_eq c3 hv, g1, putT_putS]
          rfl
        cases hf : heapFree o with
        | true =>
          rw [hf, cond_true] at hk
          cases hk
          rcases hw with ⟨g1, v, h', ⟨hs', rfl⟩, hw⟩ | ⟨g1, hw⟩
          · rw [c5] at hw
            have hr := comp_sound c4 c1 c2 hv hs'
            exact reader v (readAt_run (run_free hf hr).2) g1 hw (fun e => by rw [hf] at e; cases e)
          · rw [c5] at hw; exact skipped g1 hw
        | false =>
          rw [hf, cond_false] at hk
          cases hb : Nat.ble lex K && stagesOk info i K with
          | false => rw [hb, cond_false] at hk; cases hk
          | true =>
            rw [hb, cond_true] at hk
            rw [Bool.and_eq_true] at hb
            have hle := ble_iff.1 hb.1
            have hst : ∀ m, m ≤ info.chain.length → mayAt info.masks info.chain i m = true → m ≤ K := by
              intro m hm hmay
              have := hb.2
              unfold stagesOk at this
              rw [List.all_eq_true] at this
              have := this m (List.mem_range.2 (by omega))
              rw [hmay] at this
              simpa using this
            cases hp : (pureOp s.op || isSlice s.op) && !(isLookup s.op && !(Nat.beq lex 0 && (cstages info i lex).l.isEmpty)) with
            | true =>
              rw [hp, cond_true] at hk
              cases hk
              rw [Bool.and_eq_true] at hp
              have go : isLookup s.op = false → ∀ v, sem P cf N f h0 s.op = some (v, h0) → readsIn S f s.op → ∀ g', Gd S T h0 g' → readAt (copc P o) cf g' ts = some v := by
                intro hnl v hs' hin g' hg'
                exact readAt_of (comp_sound c4 c1 c2 hv (sem_pure hp.1 hnl hs' hin (sub_shut hg'.1)))
              rcases hw with ⟨g1, v, h', hs', hw⟩ | ⟨g1, hw⟩
              · rw [c5] at hw
                cases hlk : isLookup s.op with
                | true =>
                  have h2 := hp.2
                  rw [hlk, Bool.true_and, Bool.not_not, Bool.and_eq_true] at h2
                  have hz0 := hz (beq_iff.1 h2.1)
                  rw [h2.2, cond_true] at hs'
                  obtain ⟨hs', _, rfl⟩ := hs'
                  refine reader v ?_ g1 hw fun _ u hu => .inl (List.isEmpty_iff.1 h2.2)
                  rw [hz0]
                  exact readAt_of (comp_sound c4 c1 c2 hv (sem_lookup hlk hs'))
                | false =>
                  cases he : (cstages info i lex).l.isEmpty with
                  | true =>
                    rw [he, cond_true] at hs'
                    obtain ⟨hs', hin, rfl⟩ := hs'
                    exact reader v (go hlk v hs' hin g (hsub hle).1) g1 hw fun _ u hu => .inl (List.isEmpty_iff.1 he)
                  | false =>
                    rw [he, cond_false] at hs'
                    obtain ⟨hs', hin, heq, rfl⟩ := hs'
                    exact reader v (go hlk v hs' hin g (hsub hle).1) g1 hw fun _ u hu => by cases hu; exact .inr ⟨go hlk v hs' hin, heq, hst⟩
              · rw [c5] at hw; exact skipped g1 hw
            | false =>
              rw [hp, cond_false] at hk
              cases hn : isNamed o || isLookup s.op with
              | false => rw [hn, cond_false] at hk; cases hk
              | true =>
                rw [hn, cond_true] at hk
                cases hq : eq && (isLookup s.op && (cstages info i lex).l.isEmpty) with
                | true =>
                  rw [hq, cond_true] at hk
                  cases hk
                  rw [Bool.and_eq_true, Bool.and_eq_true] at hq
                  have hgh := hge hq.1
                  rcases hw with ⟨g1, v, h', ⟨hs', rfl⟩, hw⟩ | ⟨g1, hw⟩
                  · rw [c5] at hw
                    exact reader v (by rw [hgh]; exact readAt_of (comp_sound c4 c1 c2 hv hs')) g1 hw fun _ u hu => .inl (List.isEmpty_iff.1 hq.2.2)
                  · rw [c5] at hw; exact skipped g1 hw
                | false =>
                  rw [hq, cond_false] at hk
                  cases hk
                  rcases hw with ⟨g1, v, h', ⟨hs', heq, rfl⟩, hw⟩ | ⟨g1, hw⟩
                  · rw [c5] at hw
                    have go : ∀ g', Gd S T h0 g' → readAt (copc P o) cf g' ts = some v := fun g' hg' => readAt_of (comp_sound c4 c1 c2 hv (hs' _ hg'))
                    exact reader v (go g (hsub hle).1) g1 hw fun _ u hu => by cases hu; exact .inr ⟨go, heq, hst⟩
                  · rw [c5] at hw; exact skipped g1 hw
theorem check_run {info : DrawInfo} {K : Nat} {S : Nat → Prop} {T : AHeap → Prop} {h0 : AHeap} {H : List AHeap} (hlen : H.length = info.chain.length + 1) (hH : ∀ m hm, H[m]? = some hm → m ≤ K → Gd S T h0 hm) : ∀ (rest : List Oper) (i lex : Nat) (R : List OpRes), R.length = rest.length →
    (∀ j o, rest[j]? = some o → isV info.plan (i + j) o = false → (inL info.plan.loose (i + j) || heapFree o) = false → ∃ r lx, R[j]? = some r ∧ lx = lex + ((List.range j).filter fun q => match rest[q]? with | some p => isV info.plan (i + q) p | none => false).length ∧ RFact P cf S T h0 info K (i + j) lx o r) →
    (ccheck P info rest i lex).run cf H R = true := by
  intro rest
  induction rest with
  | nil => intro i lex R _ _; rfl
  | cons o rest ih =>
    intro i lex R hl hr
    cases R with
    | nil => simp at hl
    | cons r R =>
      have hcount : ∀ j, ((List.range (j + 1)).filter fun q => match (o :: rest)[q]? with | some p => isV info.plan (i + q) p | none => false).length
          = (bif isV info.plan i o then 1 else 0) + ((List.range j).filter fun q => match rest[q]? with | some p => isV info.plan (i + 1 + q) p | none => false).length := by
        intro j
        rw [List.range_succ_eq_map, List.filter_cons]
        have e0 : (match (o :: rest)[0]? with | some p => isV info.plan (i + 0) p | none => false) = isV info.plan i o := rfl
        rw [e0, List.filter_map]
        have e1 : ((fun q => match (o :: rest)[q]? with | some p => isV info.plan (i + q) p | none => false) ∘ Nat.succ) = fun q => match rest[q]? with | some p => isV info.plan (i + 1 + q) p | none => false := by
          funext q
          show (match (o :: rest)[q + 1]? with | some p => isV info.plan (i + (q + 1)) p | none => false) = _
          rw [List.getElem?_cons_succ, show i + (q + 1) = i + 1 + q by omega]
        cases isV info.plan i o <;> simp [e1, Nat.add_comm]
      have next : (ccheck P info rest (i + 1) (bif isV info.plan i o then lex + 1 else lex)).run cf H R = true := by
        refine ih (i + 1) _ R (by simpa using hl) fun j o' hj hV hl' => ?_
        have ee : i + (j + 1) = i + 1 + j := by omega
        obtain ⟨r', lx, k1, k2, k3⟩ := hr (j + 1) o' (by simpa using hj) (by rw [ee]; exact hV) (by rw [ee]; exact hl')
        rw [ee] at k3
        refine ⟨r', lx, by simpa using k1, ?_, k3⟩
        rw [k2, hcount]
        cases isV info.plan i o <;> simp <;> omega
      simp only [ccheck]
      cases hV : isV info.plan i o with
      | true =>
        rw [hV, cond_true] at next
        simp only [cond_true, skipStep]
        exact next
      | false =>
        rw [hV, cond_false] at next
        simp only [cond_false]
        cases hL : (inL info.plan.loose i || heapFree o) with
        | true => simp only [cond_true, skipStep]; exact next
        | false =>
          simp only [cond_false, checkStep]
          obtain ⟨r', lx, k1, k2, k3⟩ := hr 0 o rfl (by rw [Nat.add_zero]; exact hV) (by rw [Nat.add_zero]; exact hL)
          simp only [List.getElem?_cons_zero, Option.some.injEq] at k1
          subst k1
          simp only [List.range_zero, List.filter_nil, List.length_nil, Nat.add_zero] at k2
          subst k2
          obtain ⟨tr, vr⟩ := r
          cases vr with
          | none => exact next
          | some v =>
            have q2 := k3 v rfl
            have hchk : checkAt (copc P o) cf H tr v (cstages info i lx).l = true := by
              rcases q2 with q2 | ⟨q1, q2, q3⟩
              · rw [Nat.add_zero] at q2; rw [q2]; rfl
              · have hmem : ∀ m ∈ (cstages info i lx).l, m ≤ info.chain.length ∧ mayAt info.masks info.chain i m = true := by
                  intro m hm
                  unfold cstages at hm
                  rw [forceNats_eq] at hm
                  simp only [List.mem_filter, List.mem_range, Bool.and_eq_true] at hm
                  exact ⟨by omega, hm.2.1⟩
                generalize (cstages info i lx).l = st at hmem
                induction st with
                | nil => rfl
                | cons m st ih2 =>
                  obtain ⟨m1, m2⟩ := hmem m (by simp)
                  have hlt : m < H.length := by omega
                  have hm := List.getElem?_eq_getElem hlt
                  have hread := q1 H[m] (hH m _ hm (q3 m m1 (by rw [Nat.add_zero]; exact m2)))
                  show (match nthH H m with
                    | some h => match readAt (copc P o) cf h tr with
                      | some u => bif eqV u v then checkAt (copc P o) cf H tr v st else false
                      | none => false
                    | none => false) = true
                  rw [nthH_eq, hm]
                  simp only at hread
                  simp only [hread, q2, cond_true]
                  exact ih2 fun m hm => hmem m (by simp [hm])
            simp only [hchk, cond_true]
            exact next
theorem draw_run {ops : Array Oper} {Q : Fr → AHeap → Prop} {l : List DI} {ts : Slots} {f : Fr} {h : AHeap} {m : List Nat} (hok : (cinfo ops).ok = true) (hc : compDs P N (cinfo ops) ops (needK (cinfo ops) ops) ops.toList 0 0 true = some l) (hv : View N ts f) {S : Nat → Prop} {T : AHeap → Prop} (hT : T h) (hw : Wd P cf N S T h l Q f h) :
    ∃ tsE fE hE, (cdraw P ops).run cf ⟨ts, h, m⟩ = some ⟨tsE, hE, m⟩ ∧ View N tsE fE ∧ Q fE hE := by
  obtain ⟨_, hci, _⟩ := plan_of hok
  obtain ⟨tsE, fE, hE, hl, l2, e1, e2, e3, e4, e5, e6⟩ := pass_run (h0 := h) ops.toList 0 0 true l ts f h h [h] [] hc hv hw (fun _ => ⟨⟨fun _ _ _ _ _ h => h, hT⟩, ⟨fun _ _ _ _ _ h => h, hT⟩⟩) (fun _ => rfl) (fun _ => rfl)
  refine ⟨tsE, fE, hE, ?_, e2, e3⟩
  have hps := pass_spec (P := P) (cf := cf) (pl := (cinfo ops).plan) (ops := ops) ops.toList 0 ts h h [] [] (by intro j; simp) rfl rfl e1
  have hlen := hps.2.2.2.1
  unfold cdraw
  simp only [hok, cond_true, e1, drawEnd]
  have hlen2 : (hl.reverse ++ [h]).reverse.length = (cinfo ops).chain.length + 1 := by
    rw [List.length_reverse, hlen, hci]
    simp [lexN]
  have hck : (ccheck P (cinfo ops) ops.toList 0 0).run cf (hl.reverse ++ [h]).reverse (l2.reverse ++ []).reverse = true := by
    refine check_run (S := S) (T := T) (h0 := h) (K := needK (cinfo ops) ops) hlen2 ?_ ops.toList 0 0 (l2.reverse ++ []).reverse (by simp [e5]) (by simpa using e6)
    intro k hm hk hle
    rw [List.reverse_append, List.reverse_reverse] at hk
    cases k with
    | zero => simp at hk; subst hk; exact ⟨fun _ _ _ _ _ h => h, hT⟩
    | succ k => simp at hk; exact e4 k hm hk (by omega)
  rw [hck]
  rfl
theorem W_sound {X : Cx} : ∀ (c : Code) (s : SCode), compCode X.P X.N c = some s → ∀ (Q : WPost) (ts : Slots) (f : Fr) (h : AHeap) (m : List Nat), View X.N ts f → W X s Q f h m →
    ∃ e ts' f' h' m', (ccode X.P c).run X.cf X.fn X.ar X.n ⟨ts, h, m⟩ = some (e, ⟨ts', h', m'⟩) ∧ View X.N ts' f' ∧ Q e f' h' m' := by
  intro c
  induction c with
  | skip => intro s hc Q ts f h m hv hw; cases hc; exact ⟨.norm, ts, f, h, m, rfl, hv, hw⟩
  | label l => intro s hc Q ts f h m hv hw; cases hc; exact ⟨.norm, ts, f, h, m, rfl, hv, hw⟩
  | ret => intro s hc Q ts f h m hv hw; cases hc; exact ⟨.ret, ts, f, h, m, rfl, hv, hw⟩
  | exit i => intro s hc Q ts f h m hv hw; cases hc; exact ⟨.exit i, ts, f, h, m, rfl, hv, hw⟩
  | region id ops draw =>
    intro s hc Q ts f h m hv hw
    simp only [compCode] at hc
    cases draw with
    | false =>
      simp only [cond_false] at hc
      split at hc
      · rename_i l hl
        cases hc
        simp only [W] at hw
        obtain ⟨ts', f', h', e1, e2, e3⟩ := wops_sound (m := m) _ _ _ _ _ hl hv hw
        exact ⟨.norm, ts', f', h', m, by rw [code_region, e1]; rfl, e2, e3⟩
      · cases hc; simp only [W] at hw
    | true =>
      simp only [cond_true] at hc
      cases hb : (cinfo ops).ok with
      | false => simp only [hb, cond_false] at hc; cases hc; simp only [W] at hw
      | true =>
        simp only [hb, cond_true] at hc
        split at hc
        · rename_i l hl
          cases hc
          simp only [W] at hw
          obtain ⟨S, T, hT, hw⟩ := hw
          obtain ⟨tsE, fE, hE, e1, e2, e3⟩ := draw_run (m := m) hb hl hv hT hw
          exact ⟨.norm, tsE, fE, hE, m, by rw [code_draw, e1]; rfl, e2, e3⟩
        · cases hc; simp only [W] at hw
  | seq a b iha ihb =>
    intro s hc Q ts f h m hv hw
    simp only [compCode] at hc
    split at hc
    · rename_i sa ha
      split at hc
      · rename_i sb hb
        cases hc
        simp only [W] at hw
        obtain ⟨e, ts', f', h', m', e1, e2, e3⟩ := iha sa ha _ ts f h m hv hw
        rw [code_seq, e1]
        cases e with
        | norm =>
          obtain ⟨e', ts2, f2, h2, m2, k1, k2, k3⟩ := ihb sb hb Q ts' f' h' m' e2 e3
          exact ⟨e', ts2, f2, h2, m2, k1, k2, k3⟩
        | exit i => exact ⟨.exit i, ts', f', h', m', rfl, e2, e3⟩
        | ret => exact ⟨.ret, ts', f', h', m', rfl, e2, e3⟩
      · simp at hc
    · simp at hc
  | cond c a b iha ihb =>
    intro s hc Q ts f h m hv hw
    simp only [compCode] at hc
    cases hb : fineOp c && opIn X.N c with
    | false => simp only [hb, cond_false] at hc; cases hc
    | true =>
      simp only [hb, cond_true] at hc
      simp only [Bool.and_eq_true] at hb
      split at hc
      · rename_i sa ha
        split at hc
        · rename_i sb hsb
          cases hc
          simp only [W] at hw
          have hrun : (ccode X.P (.cond c a b)).run X.cf X.fn X.ar X.n ⟨ts, h, m⟩ = branch ((cval c).get ts) ((ccode X.P a).run X.cf X.fn X.ar X.n ⟨ts, h, m⟩) ((ccode X.P b).run X.cf X.fn X.ar X.n ⟨ts, h, m⟩) := by
            simp only [ccode, hb.1, Bool.not_true, cond_false]
          rw [hrun, hv.val hb.2]
          rcases hw with ⟨q1, hw⟩ | ⟨q1, hw⟩
          · rw [q1]; exact iha sa ha Q ts f h m hv hw
          · rw [q1]; exact ihb sb hsb Q ts f h m hv hw
        · simp at hc
      · simp at hc
  | block i a iha =>
    intro s hc Q ts f h m hv hw
    simp only [compCode] at hc
    split at hc
    · rename_i sa ha
      cases hc
      simp only [W] at hw
      obtain ⟨e, ts', f', h', m', e1, e2, e3⟩ := iha sa ha _ ts f h m hv hw
      rw [code_block, e1]
      cases e with
      | norm => exact ⟨.norm, ts', f', h', m', rfl, e2, e3⟩
      | ret => exact ⟨.ret, ts', f', h', m', rfl, e2, e3⟩
      | exit j =>
        simp only [blockQ] at e3
        by_cases hj : j = i
        · subst hj
          simp only [if_true] at e3
          exact ⟨.norm, ts', f', h', m', block_exit, e2, e3⟩
        · simp only [hj, if_false] at e3
          refine ⟨.exit j, ts', f', h', m', ?_, e2, e3⟩
          have : Nat.beq j i = false := by
            cases hq : Nat.beq j i with
            | false => rfl
            | true => exact absurd (beq_iff.1 hq) hj
          simp only [inBlock, this, cond_false]
    · simp at hc
  | loop a iha =>
    intro s hc Q ts f h m hv hw
    simp only [compCode] at hc
    split at hc
    · rename_i sa ha
      cases hc
      simp only [W] at hw
      rw [code_loop]
      generalize hk : X.n = k at hw
      have hgo : ∀ (k : Nat) (ts : Slots) (f : Fr) (h : AHeap) (m : List Nat), View X.N ts f → loopW (W X sa) Q k f h m →
          ∃ e ts' f' h' m', loopN (fun s => (ccode X.P a).run X.cf X.fn X.ar X.n s) k ⟨ts, h, m⟩ = some (e, ⟨ts', h', m'⟩) ∧ View X.N ts' f' ∧ Q e f' h' m' := by
        intro k
        induction k with
        | zero => intro ts f h m hv hw; exact hw.elim
        | succ k ih =>
          intro ts f h m hv hw
          simp only [loopW] at hw
          obtain ⟨e, ts', f', h', m', e1, e2, e3⟩ := iha sa ha _ ts f h m hv hw
          simp only [loopN, e1]
          cases e with
          | norm =>
            obtain ⟨e', ts2, f2, h2, m2, k1, k2, k3⟩ := ih ts' f' h' m' e2 e3
            exact ⟨e', ts2, f2, h2, m2, k1, k2, k3⟩
          | exit i => exact ⟨.exit i, ts', f', h', m', rfl, e2, e3⟩
          | ret => exact ⟨.ret, ts', f', h', m', rfl, e2, e3⟩
      have := hgo k ts f h m hv hw
      rw [← hk] at this
      rw [← hk]
      exact this
    · simp at hc
  | scope a iha =>
    intro s hc Q ts f h m hv hw
    simp only [compCode] at hc
    exact iha s hc Q ts f h m hv hw
  | rangeFunc g params assign body =>
    intro s hc Q ts f h m hv hw
    simp only [compCode] at hc
    cases hb : fineOp g && opIn X.N g with
    | false => simp only [hb, cond_false] at hc; cases hc
    | true =>
      simp only [hb, cond_true, Option.some.injEq] at hc; subst hc
      simp only [Bool.and_eq_true] at hb
      simp only [W] at hw
      obtain ⟨e, h', m', e1, e2⟩ := hw ts hv
      refine ⟨e, ts, f, h', m', ?_, hv, e2⟩
      simp only [ccode, hb.1, Bool.not_true, cond_false, hv.val hb.2]
      exact e1
  | goto l => intro s hc; simp [compCode] at hc
  | refuse w => intro s hc; simp [compCode] at hc
end Go.Vm

namespace Go.Vm
variable {P : Program} {cf : CallF} {N : Nat}
inductive RS where
  | tmp (t : Nat)
  | cell1 (a : Nat)
  | cellN (a n : Nat)
noncomputable section
def compR (P : Program) (N : Nat) : ResultVar → Option RS
  | .tmp t => bif Nat.blt t N then some (.tmp t) else none
  | .cell a t =>
    bif Nat.blt a N then
      match P.underlying t with
      | none => none
      | some _ =>
        bif isAggT P t then
          match sizeT P t with
          | some n => some (.cellN a n)
          | none => none
        else some (.cell1 a)
    else none
def compRs (P : Program) (N : Nat) : List ResultVar → Option (List RS)
  | [] => some []
  | r :: l =>
    match compR P N r with
    | some r =>
      match compRs P N l with
      | some l => some (r :: l)
      | none => none
    | none => none
def res1 (f : Fr) (h : AHeap) : RS → Option Value
  | .tmp t => some (f t)
  | .cell1 a => loadCell h (f a)
  | .cellN a n => loadAgg n h (f a)
def resL (f : Fr) (h : AHeap) : List RS → Option (List Value)
  | [] => some []
  | r :: l =>
    match res1 f h r with
    | some v => match resL f h l with
      | some l => some (v :: l)
      | none => none
    | none => none
def resV (f : Fr) (h : AHeap) : List RS → Option Value
  | [r] => res1 f h r
  | rs => match resL f h rs with
    | some l => some (.tuple ⟨l⟩)
    | none => none
def unmark : List Nat → AHeap → Option AHeap
  | [], h => some h
  | d :: l, h =>
    match h.get d with
    | some .deferred => if h.floor ≤ d then unmark l (h.with d none) else none
    | _ => none
def retQ (rs : List RS) (Q : Value → AHeap → Prop) : WPost := fun e f h m =>
  (match e with | .exit _ => False | _ => True) ∧ ∃ h1 v, unmark m h = some h1 ∧ resV f h1 rs = some v ∧ Q v h1
def fr0 (xs : List Value) : Fr := fun t => xs.getD t undef
structure FnOk (P : Program) (F N : Nat) (s : SCode) (rs : List RS) : Prop where
  ok : ∃ fn c, P.funcs[F]? = some fn ∧ fn.body = some c ∧ fn.ntmps = N ∧ compCode P N c = some s ∧ compRs P N fn.results.toList = some rs
end
theorem res1_eq {ts : Slots} {f : Fr} {h : AHeap} {r : ResultVar} {s : RS} (hc : compR P N r = some s) (hv : View N ts f) (m : List Nat) {v : Value} (hr : res1 f h s = some v) : oneRes P r ⟨ts, h, m⟩ = some v := by
  cases r with
  | tmp t =>
    simp only [compR] at hc
    obtain ⟨h1, hc⟩ := cond_some hc
    cases hc
    have := hv.val (x := .tmp t) h1
    show some ((cval (.tmp t)).get ts) = _
    rw [this]
    exact hr
  | cell a t =>
    simp only [compR] at hc
    obtain ⟨h1, hc⟩ := cond_some hc
    have hva : ts.get (cway a).way = f a := hv.val (x := .tmp a) h1
    split at hc
    · cases hc
    · rename_i d hd
      show (cload P t).run h (ts.get (cway a).way) = _
      rw [hva]
      unfold cload
      simp only [hd]
      cases hag : isAggT P t with
      | true =>
        simp only [hag, cond_true] at hc ⊢
        split at hc
        · rename_i n hn; cases hc; simp only [hn]; exact hr
        · cases hc
      | false => simp only [hag, cond_false] at hc ⊢; cases hc; exact hr
theorem resL_eq {ts : Slots} {f : Fr} {h : AHeap} (hv : View N ts f) (m : List Nat) : ∀ {rs : List ResultVar} {ss : List RS} {l : List Value}, compRs P N rs = some ss → resL f h ss = some l → resList P rs ⟨ts, h, m⟩ = some l := by
  intro rs
  induction rs with
  | nil => intro ss l hc hr; cases hc; cases hr; rfl
  | cons r rs ih =>
    intro ss l hc hr
    simp only [compRs] at hc
    split at hc
    · rename_i s hs
      split at hc
      · rename_i ss' hss
        cases hc
        simp only [resL] at hr
        split at hr
        · rename_i v hv1
          split at hr
          · rename_i l' hl
            cases hr
            simp only [resList, res1_eq hs hv m hv1, ih hss hl]
          · cases hr
        · cases hr
      · cases hc
    · cases hc
theorem compRs_len : ∀ {rs : List ResultVar} {ss : List RS}, compRs P N rs = some ss → ss.length = rs.length := by
  intro rs
  induction rs with
  | nil => intro ss hc; cases hc; rfl
  | cons r rs ih =>
    intro ss hc
    simp only [compRs] at hc
    split at hc
    · split at hc
      · rename_i hss; cases hc; simp [ih hss]
      · cases hc
    · cases hc
theorem res_eq {ts : Slots} {f : Fr} {h : AHeap} (hv : View N ts f) (m : List Nat) {fn : Func} {ss : List RS} {v : Value} (hc : compRs P N fn.results.toList = some ss) (hr : resV f h ss = some v) : (cres P fn).run ⟨ts, h, m⟩ = some v := by
  have hlen := compRs_len hc
  unfold cres
  split
  · rename_i r hr1
    rw [hr1] at hc
    simp only [compRs] at hc
    split at hc
    · rename_i s hs
      cases hc
      exact res1_eq hs hv m hr
    · cases hc
  · rename_i rs hne
    have : ∀ s, ss ≠ [s] := by
      intro s e
      rw [e] at hlen
      simp only [List.length_cons, List.length_nil] at hlen
      rcases hq : fn.results.toList with _ | ⟨x, _ | ⟨y, l⟩⟩
      · rw [hq] at hlen; cases hlen
      · exact hne x hq
      · rw [hq] at hlen; simp at hlen
    have hr' : (match resL f h ss with | some l => some (Value.tuple ⟨l⟩) | none => none) = some v := by
      rcases ss with _ | ⟨x, _ | ⟨y, l⟩⟩
      · exact hr
      · exact (this x rfl).elim
      · exact hr
    split at hr'
    · rename_i l hl
      cases hr'
      show (match resList P fn.results.toList ⟨ts, h, m⟩ with | some l => some (Value.tuple ⟨l⟩) | none => none) = _
      rw [resL_eq hv m hc hl]
    · cases hr'
theorem drop_eq {β : Type} {f : AHeap → Option β} : ∀ {l : List Nat} {h h1 : AHeap}, unmark l h = some h1 → dropMarks l h f = f h1 := by
  intro l
  induction l with
  | nil => intro h h1 e; cases e; rfl
  | cons d l ih =>
    intro h h1 e
    simp only [unmark] at e
    split at e
    · rename_i hg
      split at e
      · rename_i hle
        simp only [dropMarks, hg, ble_iff.2 hle, cond_true, AHeap.put_eq]
        exact ih e
      · cases e
    · cases e
theorem view_fill (xs : List Value) : ∀ (i : Nat) (s : Slots) (f : Fr), View N s f → View N (xs.foldl (fun (p : Nat × Slots) x => (p.1 + 1, Slots.set (cway p.1).way p.2 x)) (i, s)).2 (fun t => if i ≤ t ∧ t < i + xs.length then xs.getD (t - i) undef else f t) := by
  induction xs with
  | nil =>
    intro i s f h
    have : (fun t => if i ≤ t ∧ t < i + ([] : List Value).length then ([] : List Value).getD (t - i) undef else f t) = f := by
      funext t
      rw [if_neg]
      simp only [List.length_nil]
      omega
    rw [this]; exact h
  | cons x xs ih =>
    intro i s f h
    have h1 := ih (i + 1) _ _ (h.set i x)
    have : (fun t => if i + 1 ≤ t ∧ t < i + 1 + xs.length then xs.getD (t - (i + 1)) undef else upd f i x t) = fun t => if i ≤ t ∧ t < i + (x :: xs).length then (x :: xs).getD (t - i) undef else f t := by
      funext t
      simp only [List.length_cons]
      by_cases e : t = i
      · subst e
        rw [if_neg (by omega), if_pos (by omega), Nat.sub_self]
        simp [upd]
      · by_cases e2 : i + 1 ≤ t ∧ t < i + 1 + xs.length
        · rw [if_pos e2, if_pos (by omega), show t - i = (t - (i + 1)) + 1 by omega]
          rfl
        · rw [if_neg e2, if_neg (by omega)]
          simp [upd, e]
    rw [this] at h1
    exact h1
theorem view_skel (N : Nat) : View N (cskel N).slots (fun _ => undef) := fun t => get?_cskel N t
theorem view_enter {xs : List Value} : View N (xs.foldl (fun (p : Nat × Slots) x => (p.1 + 1, Slots.set (cway p.1).way p.2 x)) (0, (cskel N).slots)).2 (fr0 xs) := by
  have h := view_fill xs 0 _ _ (view_skel N)
  have : (fun t => if 0 ≤ t ∧ t < 0 + xs.length then xs.getD (t - 0) undef else undef) = fr0 xs := by
    funext t
    unfold fr0
    by_cases e : t < xs.length
    · rw [if_pos (by omega)]; rfl
    · rw [if_neg (by omega), List.getD_eq_getElem?_getD, List.getElem?_eq_none (by omega)]; rfl
  rw [this] at h
  exact h
theorem func_W {F n : Nat} {s : SCode} {rs : List RS} (hF : FnOk P F N s rs) {xs : List Value} (hl : xs.length ≤ N) {h : AHeap} {Q : Value → AHeap → Prop}
    (hW : W ⟨P, cf, N, F, none, n⟩ s (retQ rs Q) (fr0 xs) h []) : ∃ v h', (cfunc P F).run cf n xs h = some (v, h') ∧ Q v h' := by
  obtain ⟨fn, c, h1, h2, rfl, h4, h5⟩ := hF.ok
  obtain ⟨e, ts', f', h', m', e1, e2, e3⟩ := W_sound (X := ⟨P, cf, fn.ntmps, F, none, n⟩) c s h4 _ _ _ _ _ (view_enter (xs := xs)) hW
  obtain ⟨hex, h9, v, k1, k2, k3⟩ := e3
  refine ⟨v, h9, ?_, k3⟩
  rw [cfunc_run h1 h2 hl]
  simp only at e1
  rw [e1]
  have fin : (dropMarks m' h' fun h => match (cres P fn).run ⟨ts', h, []⟩ with | some v => seqV v fun v => some (v, h) | none => none) = some (v, h9) := by
    rw [drop_eq k1, res_eq e2 [] h5 k2]
    simp
  cases e with
  | exit i => exact hex.elim
  | norm => exact fin
  | ret => exact fin
variable {A : Nat → Bool} {K : Nat → Option Value}
theorem call_plain {F n : Nat} {s : SCode} {rs : List RS} (hF : FnOk P F N s rs) (hA : A F = true) (hK : K F = none) {xs ys args : List Value} (hl : (xs ++ (args ++ ys)).length ≤ N) {h : AHeap} {v : Value} (hv : plainV v = true)
    (hW : W ⟨P, pcall P A K n, N, F, none, n⟩ s (retQ rs fun v' _ => v' = v) (fr0 (xs ++ (args ++ ys))) h.shutAll []) : pcall P A K (n + 1) (.func (.func F) ⟨xs⟩ ⟨ys⟩) args h = some (v, h) := by
  obtain ⟨v', h', e1, rfl⟩ := func_W hF hl hW
  simp only [pcall, hK, hA, if_true, e1, drop, hv]
theorem call_any {F n : Nat} {s : SCode} {rs : List RS} (hF : FnOk P F N s rs) (hA : A F = false) (hK : K F = none) {xs ys args : List Value} (hl : (xs ++ (args ++ ys)).length ≤ N) {h : AHeap} {Q : Value → AHeap → Prop}
    (hW : W ⟨P, pcall P A K n, N, F, none, n⟩ s (retQ rs Q) (fr0 (xs ++ (args ++ ys))) h []) : ∃ v h', pcall P A K (n + 1) (.func (.func F) ⟨xs⟩ ⟨ys⟩) args h = some (v, h') ∧ Q v h' := by
  obtain ⟨v', h', e1, hQ⟩ := func_W hF hl hW
  refine ⟨v', h', ?_, hQ⟩
  simp only [pcall, hK, hA, Bool.false_eq_true, if_false, e1]
theorem call_known {F n : Nat} {v : Value} (hK : K F = some v) {h : AHeap} : pcall P A K (n + 1) (.func (.func F) #[] #[]) [] h = some (v, h) := by
  simp [pcall, hK]
end Go.Vm

namespace Go.Vm
variable {P : Program} {X : Cx} {Q : WPost} {f : Fr} {h : AHeap} {m : List Nat}
theorem W_skip : W X .skip Q f h m = Q .norm f h m := id rfl
theorem W_ret : W X .ret Q f h m = Q .ret f h m := id rfl
theorem W_exit {i : Nat} : W X (.exit i) Q f h m = Q (.exit i) f h m := id rfl
theorem W_seq {a b : SCode} : W X (.seq a b) Q f h m = W X a (thenQ (W X b Q) Q) f h m := id rfl
theorem W_block {i : Nat} {a : SCode} : W X (.block i a) Q f h m = W X a (blockQ i Q) f h m := id rfl
theorem then_norm' {k} : thenQ k Q .norm f h m = k f h m := id rfl
theorem then_exit' {k} {i : Nat} : thenQ k Q (.exit i) f h m = Q (.exit i) f h m := id rfl
theorem then_ret' {k} : thenQ k Q .ret f h m = Q .ret f h m := id rfl
theorem block_norm' {i : Nat} : blockQ i Q .norm f h m = Q .norm f h m := id rfl
theorem block_ret' {i : Nat} : blockQ i Q .ret f h m = Q .ret f h m := id rfl
theorem block_exit' {i j : Nat} : blockQ i Q (.exit j) f h m = if j = i then Q .norm f h m else Q (.exit j) f h m := id rfl
def condW (X : Cx) (v : Value) (a b : SCode) (Q : WPost) (f : Fr) (h : AHeap) (m : List Nat) : Prop := (v = .bool true ∧ W X a Q f h m) ∨ (v = .bool false ∧ W X b Q f h m)
theorem W_cond {c : Operand} {a b : SCode} : W X (.cond c a b) Q f h m = condW X (val f c) a b Q f h m := id rfl
theorem cond_true' {a b : SCode} : condW X (.bool true) a b Q f h m = W X a Q f h m := by simp [condW]
theorem cond_false' {a b : SCode} : condW X (.bool false) a b Q f h m = W X b Q f h m := by simp [condW]
def opsW (X : Cx) (l : List SI) (Q : WPost) (f : Fr) (h : AHeap) (m : List Nat) : Prop := Wops X.P X.cf X.N l (fun f h => Q .norm f h m) f h
def stepW (X : Cx) (r : Option (Value × AHeap)) (d : Option Nat) (L : List SI) (Q : WPost) (f : Fr) (m : List Nat) : Prop := ∃ v h', r = some (v, h') ∧ opsW X L Q (putF f d v) h' m
def gW (X : Cx) (v : Value) (want : Bool) (d : Option Nat) (op : SOp) (L : List SI) (Q : WPost) (f : Fr) (h : AHeap) (m : List Nat) : Prop :=
  (isB want v = true ∧ stepW X (sem X.P X.cf X.N f h op) d L Q f m) ∨ (isB want v = false ∧ opsW X L Q (putF f d undef) h m)
theorem W_ops {l : List SI} : W X (.ops l) Q f h m = opsW X l Q f h m := id rfl
theorem ops_nil : opsW X [] Q f h m = Q .norm f h m := by simp [opsW, Wops]
theorem ops_cons {d : Option Nat} {op : SOp} {L : List SI} : opsW X (⟨d, none, op⟩ :: L) Q f h m = stepW X (sem X.P X.cf X.N f h op) d L Q f m := by
  simp [opsW, Wops, stepW, guardOk]
theorem ops_guard {d : Option Nat} {g : Nat} {want : Bool} {op : SOp} {L : List SI} : opsW X (⟨d, some (g, want), op⟩ :: L) Q f h m = gW X (f g) want d op L Q f h m := by
  simp [opsW, Wops, gW, stepW, guardOk]
theorem step_some {v : Value} {d : Option Nat} {L : List SI} : stepW X (some (v, h)) d L Q f m = opsW X L Q (putF f d v) h m := by
  simp only [stepW, eq_iff_iff]
  exact ⟨fun ⟨_, _, e, k⟩ => by cases e; exact k, fun k => ⟨_, _, rfl, k⟩⟩
theorem g_tt {d : Option Nat} {op : SOp} {L : List SI} : gW X (.bool true) true d op L Q f h m = stepW X (sem X.P X.cf X.N f h op) d L Q f m := by simp [gW, isB]
theorem g_tf {d : Option Nat} {op : SOp} {L : List SI} : gW X (.bool true) false d op L Q f h m = opsW X L Q (putF f d undef) h m := by simp [gW, isB]
theorem g_ft {d : Option Nat} {op : SOp} {L : List SI} : gW X (.bool false) true d op L Q f h m = opsW X L Q (putF f d undef) h m := by simp [gW, isB]
theorem g_ff {d : Option Nat} {op : SOp} {L : List SI} : gW X (.bool false) false d op L Q f h m = stepW X (sem X.P X.cf X.N f h op) d L Q f m := by simp [gW, isB]
theorem fr0_zero {x : Value} {l : List Value} : fr0 (x :: l) 0 = x := id rfl
theorem fr0_succ {x : Value} {l : List Value} {t : Nat} : fr0 (x :: l) (t + 1) = fr0 l t := id rfl
theorem put_some {d : Nat} {v : Value} : putF f (some d) v = upd f d v := id rfl
theorem put_none {v : Value} : putF f none v = f := id rfl
theorem upd_ite {d t : Nat} {v : Value} : upd f d v t = if t = d then v else f t := id rfl
def T (t : Nat) : Operand := .tmp t
theorem val_tmp {t : Nat} : val f (T t) = f t := id rfl
theorem val_const {v : Value} : val f (.const v) = v := id rfl
theorem val_func {g : Nat} : val f (.func g) = .func (.func g) #[] #[] := id rfl
theorem vals_nil : vals f [] = [] := id rfl
theorem vals_cons {x : Operand} {l : List Operand} : vals f (x :: l) = val f x :: vals f l := id rfl
def dW (X : Cx) (S : Nat → Prop) (h0 : AHeap) (l : List DI) (Q : WPost) (f : Fr) (h : AHeap) (m : List Nat) : Prop := Wd X.P X.cf X.N S (fun _ => True) h0 l (fun f h => Q .norm f h m) f h
def sameW (X : Cx) (S : Nat → Prop) (h0 hr : AHeap) (r : Option (Value × AHeap)) (ask : Value → Prop) (d : Option Nat) (L : List DI) (Q : WPost) (f : Fr) (h : AHeap) (m : List Nat) : Prop :=
  ∃ v, r = some (v, hr) ∧ ask v ∧ dW X S h0 L Q (putF f d v) h m
def upW (X : Cx) (S : Nat → Prop) (h0 : AHeap) (r : Option (Value × AHeap)) (ask : AHeap → Prop) (d : Option Nat) (L : List DI) (Q : WPost) (f : Fr) (h : AHeap) (m : List Nat) : Prop :=
  ∃ v h', r = some (v, h') ∧ (h.next ≤ h'.next ∧ ask h') ∧ dW X S h0 L Q (putF f d v) h' m
theorem W_draw (S : Nat → Prop) {l : List DI} (hw : dW X S h l Q f h m) : W X (.draw l) Q f h m := ⟨S, fun _ => True, trivial, hw⟩
theorem d_nil {S : Nat → Prop} {h0 : AHeap} : dW X S h0 [] Q f h m = Q .norm f h m := by simp [dW, Wd]
theorem d_free {S : Nat → Prop} {h0 : AHeap} {d : Option Nat} {op : SOp} {L : List DI} : dW X S h0 (⟨.free, ⟨d, none, op⟩⟩ :: L) Q f h m = sameW X S h0 h (sem X.P X.cf X.N f h op) (fun _ => True) d L Q f h m := by
  simp only [dW, Wd, sameW, guardOk, semD, true_and, Bool.true_eq_false, false_and, or_false, eq_iff_iff]
  exact ⟨fun ⟨v, h', ⟨h1, h2⟩, h3⟩ => ⟨v, h1, h2 ▸ h3⟩, fun ⟨v, h1, h3⟩ => ⟨v, h, ⟨h1, rfl⟩, h3⟩⟩
theorem d_rd1 {S : Nat → Prop} {h0 : AHeap} {d : Option Nat} {op : SOp} {L : List DI} : dW X S h0 (⟨.rd1, ⟨d, none, op⟩⟩ :: L) Q f h m = sameW X S h0 h0 (sem X.P X.cf X.N f h0 op) (fun _ => readsIn S f op) d L Q f h m := by
  simp only [dW, Wd, sameW, guardOk, semD, true_and, Bool.true_eq_false, false_and, or_false, eq_iff_iff]
  exact ⟨fun ⟨v, h', ⟨h1, h2, h3⟩, h4⟩ => ⟨v, h1, h2, h3 ▸ h4⟩, fun ⟨v, h1, h2, h3⟩ => ⟨v, h, ⟨h1, h2, rfl⟩, h3⟩⟩
theorem d_rd {S : Nat → Prop} {h0 : AHeap} {d : Option Nat} {op : SOp} {L : List DI} : dW X S h0 (⟨.rd, ⟨d, none, op⟩⟩ :: L) Q f h m = sameW X S h0 h0 (sem X.P X.cf X.N f h0 op) (fun v => readsIn S f op ∧ eqV v v = true) d L Q f h m := by
  simp only [dW, Wd, sameW, guardOk, semD, true_and, Bool.true_eq_false, false_and, or_false, eq_iff_iff]
  exact ⟨fun ⟨v, h', ⟨h1, h2, h2', h3⟩, h4⟩ => ⟨v, h1, ⟨h2, h2'⟩, h3 ▸ h4⟩, fun ⟨v, h1, ⟨h2, h2'⟩, h3⟩ => ⟨v, h, ⟨h1, h2, h2', rfl⟩, h3⟩⟩
theorem d_up {S : Nat → Prop} {h0 : AHeap} {d : Option Nat} {op : SOp} {L : List DI} : dW X S h0 (⟨.up, ⟨d, none, op⟩⟩ :: L) Q f h m = upW X S h0 (sem X.P X.cf X.N f h op) (Sub S h0) d L Q f h m := by
  simp only [dW, Wd, upW, guardOk, semD, Gd, and_true, true_and, Bool.true_eq_false, false_and, or_false, eq_iff_iff]
  exact ⟨fun ⟨v, h', ⟨h1, h2, h3⟩, h4⟩ => ⟨v, h', h1, ⟨h2, h3⟩, h4⟩, fun ⟨v, h', h1, ⟨h2, h3⟩, h4⟩ => ⟨v, h', ⟨h1, h2, h3⟩, h4⟩⟩
theorem d_any {S : Nat → Prop} {h0 : AHeap} {d : Option Nat} {op : SOp} {L : List DI} : dW X S h0 (⟨.any, ⟨d, none, op⟩⟩ :: L) Q f h m = upW X S h0 (sem X.P X.cf X.N f h op) (fun _ => True) d L Q f h m := by
  simp only [dW, Wd, upW, guardOk, semD, true_and, Bool.true_eq_false, false_and, or_false, eq_iff_iff, and_true]
  exact ⟨fun ⟨v, h', ⟨h1, h2⟩, h4⟩ => ⟨v, h', h1, h2, h4⟩, fun ⟨v, h', h1, h2, h4⟩ => ⟨v, h', ⟨h1, h2⟩, h4⟩⟩
theorem same_some {S : Nat → Prop} {h0 hr h1 : AHeap} {v : Value} {ask : Value → Prop} {d : Option Nat} {L : List DI} : sameW X S h0 hr (some (v, h1)) ask d L Q f h m = (h1 = hr ∧ ask v ∧ dW X S h0 L Q (putF f d v) h m) := by
  simp [sameW, and_assoc]
theorem up_some {S : Nat → Prop} {h0 h1 : AHeap} {v : Value} {ask : AHeap → Prop} {d : Option Nat} {L : List DI} : upW X S h0 (some (v, h1)) ask d L Q f h m = ((h.next ≤ h1.next ∧ ask h1) ∧ dW X S h0 L Q (putF f d v) h1 m) := by
  simp only [upW, eq_iff_iff]
  exact ⟨fun ⟨_, _, e, k⟩ => by cases e; exact k, fun k => ⟨_, _, rfl, k⟩⟩
def dWT (X : Cx) (S : Nat → Prop) (T : AHeap → Prop) (h0 : AHeap) (l : List DI) (Q : WPost) (f : Fr) (h : AHeap) (m : List Nat) : Prop := Wd X.P X.cf X.N S T h0 l (fun f h => Q .norm f h m) f h
def sameT (hr : AHeap) (r : Option (Value × AHeap)) (ask : Value → Prop) (k : Value → Prop) : Prop := ∃ v, r = some (v, hr) ∧ ask v ∧ k v
def upT (h : AHeap) (r : Option (Value × AHeap)) (ask : AHeap → Prop) (k : Value → AHeap → Prop) : Prop := ∃ v h', r = some (v, h') ∧ (h.next ≤ h'.next ∧ ask h') ∧ k v h'
section
variable {S : Nat → Prop} {T : AHeap → Prop} {h0 : AHeap} {d : Option Nat} {op : SOp} {L : List DI}
theorem W_drawT (S : Nat → Prop) (T : AHeap → Prop) {l : List DI} (hT : T h) (hw : dWT X S T h l Q f h m) : W X (.draw l) Q f h m := ⟨S, T, hT, hw⟩
theorem dT_nil : dWT X S T h0 [] Q f h m = Q .norm f h m := by simp [dWT, Wd]
theorem dT_free : dWT X S T h0 (⟨.free, ⟨d, none, op⟩⟩ :: L) Q f h m = sameT h (sem X.P X.cf X.N f h op) (fun _ => True) fun v => dWT X S T h0 L Q (putF f d v) h m := by
  simp only [dWT, Wd, sameT, guardOk, semD, true_and, Bool.true_eq_false, false_and, or_false, eq_iff_iff]
  exact ⟨fun ⟨v, h', ⟨h1, h2⟩, h3⟩ => ⟨v, h1, h2 ▸ h3⟩, fun ⟨v, h1, h3⟩ => ⟨v, h, ⟨h1, rfl⟩, h3⟩⟩
theorem dT_rd1 : dWT X S T h0 (⟨.rd1, ⟨d, none, op⟩⟩ :: L) Q f h m = sameT h0 (sem X.P X.cf X.N f h0 op) (fun _ => readsIn S f op) fun v => dWT X S T h0 L Q (putF f d v) h m := by
  simp only [dWT, Wd, sameT, guardOk, semD, true_and, Bool.true_eq_false, false_and, or_false, eq_iff_iff]
  exact ⟨fun ⟨v, h', ⟨h1, h2, h3⟩, h4⟩ => ⟨v, h1, h2, h3 ▸ h4⟩, fun ⟨v, h1, h2, h3⟩ => ⟨v, h, ⟨h1, h2, rfl⟩, h3⟩⟩
theorem dT_up : dWT X S T h0 (⟨.up, ⟨d, none, op⟩⟩ :: L) Q f h m = upT h (sem X.P X.cf X.N f h op) (Gd S T h0) fun v h' => dWT X S T h0 L Q (putF f d v) h' m := by
  simp only [dWT, Wd, upT, guardOk, semD, true_and, Bool.true_eq_false, false_and, or_false, eq_iff_iff]
  exact ⟨fun ⟨v, h', ⟨h1, h2, h3⟩, h4⟩ => ⟨v, h', h1, ⟨h2, h3⟩, h4⟩, fun ⟨v, h', h1, ⟨h2, h3⟩, h4⟩ => ⟨v, h', ⟨h1, h2, h3⟩, h4⟩⟩
theorem dT_any : dWT X S T h0 (⟨.any, ⟨d, none, op⟩⟩ :: L) Q f h m = upT h (sem X.P X.cf X.N f h op) (fun _ => True) fun v h' => dWT X S T h0 L Q (putF f d v) h' m := by
  simp only [dWT, Wd, upT, guardOk, semD, true_and, Bool.true_eq_false, false_and, or_false, eq_iff_iff, and_true]
  exact ⟨fun ⟨v, h', ⟨h1, h2⟩, h4⟩ => ⟨v, h', h1, h2, h4⟩, fun ⟨v, h', h1, h2, h4⟩ => ⟨v, h', ⟨h1, h2⟩, h4⟩⟩
theorem dT_qc {v : Value} (h1 : ∀ g, Sub S h0 g → T g → sem X.P X.cf X.N f g.shutAll op = some (v, g.shutAll)) (h2 : eqV v v = true) (hw : dWT X S T h0 L Q (putF f d v) h m) : dWT X S T h0 (⟨.qc, ⟨d, none, op⟩⟩ :: L) Q f h m :=
  .inl ⟨rfl, v, h, ⟨fun g hg => h1 g hg.1 hg.2, h2, rfl⟩, hw⟩
theorem sameT_some {hr h1 : AHeap} {v : Value} {ask : Value → Prop} {k : Value → Prop} : sameT hr (some (v, h1)) ask k = (h1 = hr ∧ ask v ∧ k v) := by
  simp [sameT, and_assoc]
theorem upT_some {h h1 : AHeap} {v : Value} {ask : AHeap → Prop} {k : Value → AHeap → Prop} : upT h (some (v, h1)) ask k = ((h.next ≤ h1.next ∧ ask h1) ∧ k v h1) := by
  simp only [upT, eq_iff_iff]
  exact ⟨fun ⟨_, _, e, k⟩ => by cases e; exact k, fun k => ⟨_, _, rfl, k⟩⟩
end
def All : Nat → Prop := fun _ => True
theorem all_reads {op : SOp} : readsIn All f op = True := by cases op <;> simp [readsIn, All]
theorem Sub.refl {S : Nat → Prop} {h : AHeap} : Sub S h h := fun _ _ _ _ _ h => h
section ops
variable {cf : CallF} {N : Nat} {x y z : Operand}
theorem x_mov : sem P cf N f h (.mov x) = some (val f x, h) := id rfl
theorem x_pick {c : Operand} : sem P cf N f h (.pick c x y) = pickA (val f c) (val f x) (val f y) h := id rfl
theorem pick_t {a b : Value} : pickA (.bool true) a b h = some (a, h) := id rfl
theorem pick_f {a b : Value} : pickA (.bool false) a b h = some (b, h) := id rfl
theorem x_field1 {o : Nat} : sem P cf N f h (.field1 o x) = partOne o (val f x) h := id rfl
theorem x_fieldN {o n : Nat} : sem P cf N f h (.fieldN o n x) = partAgg o n (val f x) h := id rfl
theorem x_extract {i : Nat} : sem P cf N f h (.extract i x) = extractA i (val f x) h := id rfl
theorem x_box : sem P cf N f h (.box x) = newRowA h (cellList (val f x)) := id rfl
theorem x_alloc {l : List Value} : sem P cf N f h (.alloc l) = newRowA h l := id rfl
theorem x_load1 : sem P cf N f h (.load1 x) = withH (loadCell h (val f x)) h := id rfl
theorem x_loadN {n : Nat} : sem P cf N f h (.loadN n x) = withH (loadAgg n h (val f x)) h := id rfl
theorem withH_some' {v : Value} : withH (some v) h = some (v, h) := id rfl
theorem x_store {n : Nat} : sem P cf N f h (.store n x y) = storeN n h (val f x) (val f y) := id rfl
theorem x_mkfunc {g : Nat} {a b : List Operand} : sem P cf N f h (.mkfunc g a b) = some (.func (.func g) ⟨vals f a⟩ ⟨vals f b⟩, h) := id rfl
theorem x_mkslice {s b : Nat} {l : List Value} : sem P cf N f h (.mkslice s b l x y) = makeSl s b l h (val f x) (val f y) := id rfl
theorem x_slice {s : Nat} {lo hi mx : Option Operand} : sem P cf N f h (.slice s x lo hi mx) = sliceA s hi.isSome h (val f x) (lo.map (val f)) (hi.map (val f)) (mx.map (val f)) := id rfl
theorem x_fieldAddr {o : Nat} : sem P cf N f h (.fieldAddr o x) = withH (fieldAt o (val f x)) h := id rfl
theorem fieldAt_p {o : Nat} {a : Addr} : fieldAt o (.pointer (some a)) = some (.pointer (some ⟨a.block, a.off + o, none⟩)) := id rfl
theorem x_idxArr {l s : Nat} : sem P cf N f h (.idxArr l s x y) = withH (indexArr l s (val f x) (val f y)) h := id rfl
theorem x_idxSl {s : Nat} : sem P cf N f h (.idxSl s x y) = withH (indexSl s (val f x) (val f y)) h := id rfl
theorem x_append {s b : Nat} : sem P cf N f h (.append s b x y) = appendA s b h (val f x) (val f y) := id rfl
theorem x_there : sem P cf N f h (.there x) = thereA (val f x) h := id rfl
theorem x_len : sem P cf N f h (.len x) = lenA (val f x) h := id rfl
theorem len_slice {a : Option Addr} {n c : Nat} : lenA (.slice a n c) h = some (.int .i64 n, h) := id rfl
theorem x_not : sem P cf N f h (.not x) = notA (val f x) h := id rfl
theorem not_bool {b : Bool} : notA (.bool b) h = some (.bool (!b), h) := id rfl
theorem x_call {l : List Operand} : sem P cf N f h (.call x l) = cf (val f x) (vals f l) h := id rfl
theorem x_int2 {op : BinOp} : sem P cf N f h (.int2 op x y) = int2A op (val f x) (val f y) h := id rfl
theorem i_add {a b : Int} : int2A .add (.int .i64 a) (.int .i64 b) h = some (.int .i64 (wrapF .i64 (a + b)), h) := id rfl
theorem i_sub {a b : Int} : int2A .sub (.int .i64 a) (.int .i64 b) h = some (.int .i64 (wrapF .i64 (a - b)), h) := id rfl
theorem i_mul {a b : Int} : int2A .mul (.int .i64 a) (.int .i64 b) h = some (.int .i64 (wrapF .i64 (a * b)), h) := id rfl
theorem ltI_dec (a b : Int) : ltI a b = decide (a < b) := by
  unfold ltI
  split
  · rename_i a b
    by_cases h : a < b
    · rw [blt_iff.2 h]; exact (decide_eq_true (by simpa using Int.ofNat_lt.2 h)).symm
    · rw [blt_false h]; exact (decide_eq_false (by simpa using fun h' => h (Int.ofNat_lt.1 h'))).symm
  · rfl
theorem i_eql {a b : Int} : int2A .eql (.int .i64 a) (.int .i64 b) h = some (.bool (decide (a = b)), h) := by simp only [int2A, eqlI, eqI_eq]
theorem i_neq {a b : Int} : int2A .neq (.int .i64 a) (.int .i64 b) h = some (.bool (!decide (a = b)), h) := by simp only [int2A, neqI, eqI_eq]
theorem i_lss {a b : Int} : int2A .lss (.int .i64 a) (.int .i64 b) h = some (.bool (decide (a < b)), h) := by simp only [int2A, lssI, ltI_dec]
theorem i_leq {a b : Int} : int2A .leq (.int .i64 a) (.int .i64 b) h = some (.bool (decide (a ≤ b)), h) := by
  simp only [int2A, leqI, ltI_dec]
  congr 3
  by_cases h : b < a
  · rw [decide_eq_true h, decide_eq_false (by omega)]; rfl
  · rw [decide_eq_false h, decide_eq_true (by omega)]; rfl
theorem i_gtr {a b : Int} : int2A .gtr (.int .i64 a) (.int .i64 b) h = some (.bool (decide (b < a)), h) := by simp only [int2A, gtrI, ltI_dec]
theorem i_geq {a b : Int} : int2A .geq (.int .i64 a) (.int .i64 b) h = some (.bool (decide (b ≤ a)), h) := by
  simp only [int2A, geqI, ltI_dec]
  congr 3
  by_cases h : a < b
  · rw [decide_eq_true h, decide_eq_false (by omega)]; rfl
  · rw [decide_eq_false h, decide_eq_true (by omega)]; rfl
end ops
theorem wrap_in {z : Int} (h1 : -9223372036854775808 ≤ z) (h2 : z < 9223372036854775808) : wrapF .i64 z = z := by
  have hw : IntKind.wrap .i64 z = z := by rw [IntKind.wrap_i64]; omega
  cases z with
  | ofNat n =>
    show (bif Nat.blt n 9223372036854775808 then Int.ofNat n else IntKind.wrap .i64 (.ofNat n)) = _
    cases Nat.blt n 9223372036854775808 with
    | true => rfl
    | false => exact hw
  | negSucc n => exact hw
theorem call_plain0 {P : Program} {A : Nat → Bool} {K : Nat → Option Value} {F N n : Nat} {s : SCode} {rs : List RS} (hF : FnOk P F N s rs) (hA : A F = true) (hK : K F = none) {args : List Value} (hl : args.length ≤ N) {h : AHeap} {v : Value} (hv : plainV v = true)
    (hW : W ⟨P, pcall P A K n, N, F, none, n⟩ s (retQ rs fun v' _ => v' = v) (fr0 args) h.shutAll []) : pcall P A K (n + 1) (.func (.func F) #[] #[]) args h = some (v, h) :=
  call_plain (xs := []) (ys := []) hF hA hK (by simpa using hl) hv (by simpa using hW)
theorem call_any0 {P : Program} {A : Nat → Bool} {K : Nat → Option Value} {F N n : Nat} {s : SCode} {rs : List RS} (hF : FnOk P F N s rs) (hA : A F = false) (hK : K F = none) {args : List Value} (hl : args.length ≤ N) {h : AHeap} {Q : Value → AHeap → Prop}
    (hW : W ⟨P, pcall P A K n, N, F, none, n⟩ s (retQ rs Q) (fr0 args) h []) : ∃ v h', pcall P A K (n + 1) (.func (.func F) #[] #[]) args h = some (v, h') ∧ Q v h' :=
  call_any (xs := []) (ys := []) hF hA hK (by simpa using hl) (by simpa using hW)
theorem ret_ret {rs : List RS} {R : Value → AHeap → Prop} : retQ rs R .ret f h [] = ∃ v, resV f h rs = some v ∧ R v h := by
  simp only [retQ, unmark, true_and, Option.some.injEq, eq_iff_iff]
  exact ⟨fun ⟨_, v, e, k⟩ => by subst e; exact ⟨v, k⟩, fun ⟨v, k⟩ => ⟨h, v, rfl, k⟩⟩
theorem ret_norm {rs : List RS} {R : Value → AHeap → Prop} : retQ rs R .norm f h [] = ∃ v, resV f h rs = some v ∧ R v h := by
  simp only [retQ, unmark, true_and, Option.some.injEq, eq_iff_iff]
  exact ⟨fun ⟨_, v, e, k⟩ => by subst e; exact ⟨v, k⟩, fun ⟨v, k⟩ => ⟨h, v, rfl, k⟩⟩
theorem res_tmp {t : Nat} : resV f h [.tmp t] = some (f t) := id rfl
theorem ex_some {α : Type} {p : α → Prop} {x : α} : (∃ v, some x = some v ∧ p v) = p x := by
  simp
theorem Wops_mono {P : Program} {cf : CallF} {N : Nat} : ∀ (l : List SI) {Q1 Q2 : Fr → AHeap → Prop}, (∀ f h, Q1 f h → Q2 f h) → ∀ f h, Wops P cf N l Q1 f h → Wops P cf N l Q2 f h := by
  intro l
  induction l with
  | nil => intro Q1 Q2 hq f h hw; exact hq _ _ hw
  | cons i l ih =>
    intro Q1 Q2 hq f h hw
    simp only [Wops] at hw ⊢
    rcases hw with ⟨g, v, h', e, hw⟩ | ⟨g, hw⟩
    · exact .inl ⟨g, v, h', e, ih hq _ _ hw⟩
    · exact .inr ⟨g, ih hq _ _ hw⟩
theorem Wd_mono {P : Program} {cf : CallF} {N : Nat} {S : Nat → Prop} {T : AHeap → Prop} {h0 : AHeap} : ∀ (l : List DI) {Q1 Q2 : Fr → AHeap → Prop}, (∀ f h, Q1 f h → Q2 f h) → ∀ f h, Wd P cf N S T h0 l Q1 f h → Wd P cf N S T h0 l Q2 f h := by
  intro l
  induction l with
  | nil => intro Q1 Q2 hq f h hw; exact hq _ _ hw
  | cons i l ih =>
    intro Q1 Q2 hq f h hw
    simp only [Wd] at hw ⊢
    rcases hw with ⟨g, v, h', e, hw⟩ | ⟨g, hw⟩
    · exact .inl ⟨g, v, h', e, ih hq _ _ hw⟩
    · exact .inr ⟨g, ih hq _ _ hw⟩
theorem thenQ_mono {k1 k2 : Fr → AHeap → List Nat → Prop} {Q1 Q2 : WPost} (hk : ∀ f h m, k1 f h m → k2 f h m) (hq : ∀ e f h m, Q1 e f h m → Q2 e f h m) : ∀ e f h m, thenQ k1 Q1 e f h m → thenQ k2 Q2 e f h m := by
  intro e f h m hw
  cases e with
  | norm => exact hk _ _ _ hw
  | exit i => exact hq _ _ _ _ hw
  | ret => exact hq _ _ _ _ hw
theorem W_mono : ∀ (s : SCode) (Q1 Q2 : WPost), (∀ e f h m, Q1 e f h m → Q2 e f h m) → ∀ f h m, W X s Q1 f h m → W X s Q2 f h m := by
  intro s
  induction s with
  | stuck => intro Q1 Q2 hq f h m hw; exact hw.elim
  | skip => intro Q1 Q2 hq f h m hw; exact hq _ _ _ _ hw
  | ret => intro Q1 Q2 hq f h m hw; exact hq _ _ _ _ hw
  | exit i => intro Q1 Q2 hq f h m hw; exact hq _ _ _ _ hw
  | ops l => intro Q1 Q2 hq f h m hw; exact Wops_mono l (fun _ _ h => hq _ _ _ _ h) f h hw
  | draw l => intro Q1 Q2 hq f h m ⟨S, T, hT, hw⟩; exact ⟨S, T, hT, Wd_mono l (fun _ _ h => hq _ _ _ _ h) f h hw⟩
  | seq a b iha ihb => intro Q1 Q2 hq f h m hw; exact iha _ _ (thenQ_mono (fun _ _ _ h => ihb _ _ hq _ _ _ h) hq) f h m hw
  | cond c a b iha ihb =>
    intro Q1 Q2 hq f h m hw
    rcases hw with ⟨e, hw⟩ | ⟨e, hw⟩
    · exact .inl ⟨e, iha _ _ hq _ _ _ hw⟩
    · exact .inr ⟨e, ihb _ _ hq _ _ _ hw⟩
  | block i a iha =>
    intro Q1 Q2 hq f h m hw
    refine iha _ _ ?_ f h m hw
    intro e f h m hb
    cases e with
    | norm => exact hq _ _ _ _ hb
    | ret => exact hq _ _ _ _ hb
    | exit j =>
      simp only [blockQ] at hb ⊢
      split at hb
      · rename_i e; rw [if_pos e]; exact hq _ _ _ _ hb
      · rename_i e; rw [if_neg e]; exact hq _ _ _ _ hb
  | loop a iha =>
    intro Q1 Q2 hq f h m hw
    have go : ∀ n f h m, loopW (W X a) Q1 n f h m → loopW (W X a) Q2 n f h m := by
      intro n
      induction n with
      | zero => intro f h m hw; exact hw
      | succ n ih => intro f h m hw; exact iha _ _ (thenQ_mono (fun _ _ _ h => ih _ _ _ h) hq) f h m hw
    exact go _ f h m hw
  | range g ps a b =>
    intro Q1 Q2 hq f h m hw ts hv
    obtain ⟨e, h', m', e1, e2⟩ := hw ts hv
    exact ⟨e, h', m', e1, hq _ _ _ _ e2⟩
theorem W_loop {a : SCode} (n : Nat) (I : Nat → Fr → AHeap → List Nat → Prop) (hn : n < X.n) (h0 : I 0 f h m)
    (hstep : ∀ k f h m, k < n → I k f h m → W X a (thenQ (fun f h m => I (k + 1) f h m) Q) f h m)
    (hend : ∀ f h m, I n f h m → W X a (thenQ (fun _ _ _ => False) Q) f h m) : W X (.loop a) Q f h m := by
  show loopW (W X a) Q X.n f h m
  have mono : ∀ (s : SCode) (Q1 Q2 : WPost), (∀ e f h m, Q1 e f h m → Q2 e f h m) → ∀ f h m, W X s Q1 f h m → W X s Q2 f h m := W_mono
  have go : ∀ j k f h m, k + j = n → I k f h m → ∀ fuel, j < fuel → loopW (W X a) Q fuel f h m := by
    intro j
    induction j with
    | zero =>
      intro k f h m hk hI fuel hf
      obtain ⟨fuel, rfl⟩ : ∃ g, fuel = g + 1 := ⟨fuel - 1, by omega⟩
      have : k = n := by omega
      subst this
      refine mono a _ _ ?_ f h m (hend f h m hI)
      intro e f h m hq
      cases e with
      | norm => exact hq.elim
      | exit i => exact hq
      | ret => exact hq
    | succ j ih =>
      intro k f h m hk hI fuel hf
      obtain ⟨fuel, rfl⟩ : ∃ g, fuel = g + 1 := ⟨fuel - 1, by omega⟩
      refine mono a _ _ ?_ f h m (hstep k f h m (by omega) hI)
      intro e f h m hq
      cases e with
      | norm => exact ih (k + 1) f h m (by omega) hq fuel (by omega)
      | exit i => exact hq
      | ret => exact hq
  exact go n 0 f h m (by omega) h0 X.n hn
end Go.Vm

namespace Go.Vm
def ptrO (v : Value) (s k j : Nat) : Value :=
  match v with
  | .slice (some a) _ _ => .pointer (some ⟨a.block, a.off + k * s + j, none⟩)
  | _ => undef
def Cells (h : AHeap) (v : Value) (s n : Nat) (c : Nat → Nat → Value) : Prop :=
  ∃ a cap, v = .slice a n cap ∧ (∀ x, a = some x → x.spot = none) ∧ (n = 0 ∨ ∃ b o cs w g, a = some ⟨b, o, none⟩ ∧ h.get b = some (.row cs w g) ∧ ∀ k j, k < n → j < s → cs[o + k * s + j]? = some (c k j))
variable {h g : AHeap} {v : Value} {s n : Nat} {c : Nat → Nat → Value}
theorem Cells.len (hc : Cells h v s n c) (g : AHeap) : lenA v g = some (.int .i64 (n : Int), g) := by
  obtain ⟨a, cap, rfl, _⟩ := hc
  rfl
theorem Cells.ptr (hc : Cells h v s n c) (hn : 0 < n) : ∃ b o cap cs w g, v = .slice (some ⟨b, o, none⟩) n cap ∧ h.get b = some (.row cs w g) ∧ ∀ k j, k < n → j < s → cs[o + k * s + j]? = some (c k j) := by
  obtain ⟨a, cap, rfl, _, h0 | ⟨b, o, cs, w, g, rfl, h1, h2⟩⟩ := hc
  · omega
  · exact ⟨b, o, cap, cs, w, g, rfl, h1, h2⟩
theorem Cells.idx (hc : Cells h v s n c) {k : Nat} (hk : k < n) : indexSl s v (.int .i64 (k : Int)) = some (ptrO v s k 0) := by
  obtain ⟨b, o, cap, cs, w, g, rfl, _⟩ := hc.ptr (by omega)
  show placeAt ⟨b, o, none⟩ (Int.ofNat k) n s = _
  unfold placeAt
  simp only [blt_iff.2 hk, cond_true, ptrO, Nat.add_zero]
theorem Cells.fld (hc : Cells h v s n c) {k : Nat} (hk : k < n) (j o : Nat) : fieldAt o (ptrO v s k j) = some (ptrO v s k (j + o)) := by
  obtain ⟨b, o', cap, cs, w, g, rfl, _⟩ := hc.ptr (by omega)
  simp only [ptrO, fieldAt, Nat.add_assoc]
theorem Cells.ld (hc : Cells h v s n c) {k j : Nat} (hk : k < n) (hj : j < s) : loadCell h (ptrO v s k j) = some (c k j) := by
  obtain ⟨b, o', cap, cs, w, g, rfl, h1, h2⟩ := hc.ptr (by omega)
  simp only [ptrO, loadCell, h1, nthO_eq, h2 k j hk hj]
theorem Cells.ldN (hc : Cells h v s n c) {k j m : Nat} (hk : k < n) (hm : 0 < m) (hj : j + m ≤ s) : loadAgg m h (ptrO v s k j) = some (.agg ⟨(List.range m).map fun i => c k (j + i)⟩) := by
  obtain ⟨b, o', cap, cs, w, g, rfl, h1, h2⟩ := hc.ptr (by omega)
  simp only [ptrO, loadAgg, h1, dropK_eq, takeK_eq]
  have hlen := (List.getElem?_eq_some_iff.1 (h2 k (j + (m - 1)) hk (by omega))).1
  have hls : o' + k * s + j ≤ cs.length := by omega
  rw [if_pos hls, if_pos (by rw [List.length_drop]; omega)]
  congr 3
  apply List.ext_getElem?
  intro i
  simp only [List.getElem?_map, List.getElem?_take, List.getElem?_drop]
  by_cases hi : i < m
  · rw [if_pos hi, List.getElem?_range hi]
    have := h2 k (j + i) hk (by omega)
    rw [show o' + k * s + j + i = o' + k * s + (j + i) by omega, this]
    rfl
  · rw [if_neg hi, List.getElem?_eq_none (by simp; omega)]
    rfl
theorem Cells.self (hc : Cells h v s n c) : eqV v v = true := by
  obtain ⟨a, cap, rfl, h1, _⟩ := hc
  cases a with
  | none => simp [eqV, eqCell, eqOA]
  | some x => simp [eqV, eqCell, eqOA, h1 x rfl]
theorem Cells.selfC (hc : Cells h v s n c) : eqCell v v = true := by
  have := hc.self
  obtain ⟨a, cap, rfl, _⟩ := hc
  exact this
theorem eqV_i {a : Int} : eqV (.int .i64 a) (.int .i64 a) = true := by simp [eqV, eqCell, sameK, eqI_eq]
theorem Cells.mono (hc : Cells h v s n c) (hs : Sub All h g) : Cells g v s n c := by
  obtain ⟨a, cap, rfl, hsp, h0 | ⟨b, o, cs, w, gr, rfl, h1, h2⟩⟩ := hc
  · exact ⟨a, cap, rfl, hsp, .inl h0⟩
  · exact ⟨_, cap, rfl, hsp, .inr ⟨b, o, cs, w, gr, rfl, hs _ _ _ _ trivial h1, h2⟩⟩
theorem Cells.shut (hc : Cells h v s n c) : Cells h.shutAll v s n c := hc.mono fun _ _ _ _ _ h => h
def Ints (h : AHeap) (v : Value) (n : Nat) (a : Nat → Int) : Prop := Cells h v 1 n fun k _ => .int .i64 (a k)
def Rows (h : AHeap) (v : Value) (n : Nat) (cnt : Nat → Nat) (q : Nat → Nat → Int) : Prop := ∃ r : Nat → Value, Cells h v 1 n (fun k _ => r k) ∧ ∀ k, k < n → Ints h (r k) (cnt k) (q k)
theorem Rows.mono {cnt : Nat → Nat} {q : Nat → Nat → Int} (hr : Rows h v n cnt q) (hs : Sub All h g) : Rows g v n cnt q := by
  obtain ⟨r, h1, h2⟩ := hr
  exact ⟨r, h1.mono hs, fun k hk => (h2 k hk).mono hs⟩
structure New (h h1 : AHeap) (cs : List Value) (gr : Nat) : Prop where
  get : h1.get h.next = some (.row cs true gr)
  old : ∀ i, i < h.next → h1.get i = h.get i
  next : h1.next = h.next + 1
  floor : h1.floor = h.floor
theorem New.sub {h1 : AHeap} {cs : List Value} {gr : Nat} (hn : New h h1 cs gr) : Sub All h h1 := fun i cs rw gr _ hg => by rw [hn.old i (AHeap.lt_of_get hg)]; exact hg
theorem New.ld {h1 : AHeap} {cs : List Value} {gr : Nat} (hn : New h h1 cs gr) (o : Nat) : loadCell h1 (.pointer (some ⟨h.next, o, none⟩)) = cs[o]? := by
  simp only [loadCell, hn.get, nthO_eq]
theorem New.ldN {h1 : AHeap} {cs : List Value} {gr : Nat} (hn : New h h1 cs gr) (o m : Nat) (h1' : o ≤ cs.length) (h2 : m ≤ (cs.drop o).length) : loadAgg m h1 (.pointer (some ⟨h.next, o, none⟩)) = some (.agg ⟨(cs.drop o).take m⟩) := by
  simp only [loadAgg, hn.get, dropK_eq, takeK_eq]
  rw [if_pos h1', if_pos h2]
theorem new_more {o : List Value} {gr : Nat} (hf : h.next < far) : New h (h.more (some (.row o true gr))) o gr :=
  ⟨by rw [AHeap.get_more hf]; simp, fun i hi => by rw [AHeap.get_more hf, if_neg (by omega)], rfl, rfl⟩
theorem newRow_run {cs : List Value} (hf : h.next < far) (hc : allB oneCell cs = true) : newRowA h cs = some (.pointer (some ⟨h.next, 0, none⟩), h.more (some (.row cs true 0))) := by
  unfold newRowA
  rw [hc, cond_true, seqCells_eq, push_run hf]
theorem newSlice_run {cs : List Value} {n cap gr : Nat} (hf : h.next < far) (hc : allB oneCell cs = true) : newSlice h cs n cap gr = some (.slice (some ⟨h.next, 0, none⟩) n cap, h.more (some (.row cs true gr))) := by
  unfold newSlice
  rw [hc, cond_true, seqCells_eq, push_run hf]
section
variable {X : Cx} {Q : WPost} {f : Fr} {m : List Nat} {d : Nat} {x : Operand} {L : List SI}
theorem ops_box {cs : List Value} (hf : h.next < far) (hcs : cellList (val f x) = cs) (hc : allB oneCell cs = true)
    (hw : ∀ h1, New h h1 cs 0 → opsW X L Q (upd f d (.pointer (some ⟨h.next, 0, none⟩))) h1 m) : opsW X (⟨some d, none, .box x⟩ :: L) Q f h m := by
  rw [ops_cons, x_box, hcs, newRow_run hf hc, step_some]
  exact hw _ (new_more hf)
theorem ops_alloc {cs : List Value} (hf : h.next < far) (hc : allB oneCell cs = true)
    (hw : ∀ h1, New h h1 cs 0 → opsW X L Q (upd f d (.pointer (some ⟨h.next, 0, none⟩))) h1 m) : opsW X (⟨some d, none, .alloc cs⟩ :: L) Q f h m := by
  rw [ops_cons, x_alloc, newRow_run hf hc, step_some]
  exact hw _ (new_more hf)
end
end Go.Vm

namespace Go.Vm
variable {P : Program} {N : Nat} {f : Fr} {h : AHeap} {ty t u : TypeId} {x y : Operand}
def run1 (F : Int → Option Value) (other : AHeap → Option (Value × AHeap)) (a : Value) (h : AHeap) : Option (Value × AHeap) :=
  match a with
  | .int .i64 a => match F a with
    | some v => some (v, h)
    | none => other h
  | _ => other h
def run2 (F : Int → Int → Option Value) (other : AHeap → Option (Value × AHeap)) (a b : Value) (h : AHeap) : Option (Value × AHeap) :=
  match a, b with
  | .int .i64 a, .int .i64 b => match F a b with
    | some v => some (v, h)
    | none => other h
  | _, _ => other h
theorem run2_int {F : Int → Int → Option Value} {other : AHeap → Option (Value × AHeap)} {a b : Int} {v : Value} (hv : F a b = some v) : run2 F other (.int .i64 a) (.int .i64 b) h = some (v, h) := by simp only [run2, hv]
theorem plainF_two {op : Op} {F : Int → Int → Option Value} (hop : op.operands = #[x, y])
    (hF : ∀ a b v, valN N f x = .int .i64 a → valN N f y = .int .i64 b → F a b = some v → plainV v = true ∧ pureRun P (execOp (valN N f) (bare op ty)) = some (.value v)) :
    plainF P N op ty f h = run2 F (plainF P N op ty f) (valN N f x) (valN N f y) h := by
  unfold run2
  split
  · rename_i a b e1 e2
    split
    · rename_i v hv
      obtain ⟨h1, h2⟩ := hF a b v e1 e2 hv
      unfold plainF
      have : allB (fun x => plainV (valN N f x)) op.operands.toList = true := by
        rw [hop]; simp [allB, e1, e2, plainV, plainE, plainCell]
      rw [this, h2]
      simp [valueOnly, h1]
    · rfl
  · rfl
def minF (a b : Int) : Option Value := some (.int .i64 (if b < a then b else a))
def maxF (a b : Int) : Option Value := some (.int .i64 (if b > a then b else a))
def remF (a b : Int) : Option Value := if b = 0 then none else some (.int .i64 (a.tmod b))
def quoF (a b : Int) : Option Value := if b = 0 then none else some (.int .i64 (IntKind.wrap .i64 (a.tdiv b)))
theorem p_min {ats : Array TypeId} : plainF P N (.call { callee := .builtin .min, args := #[x, y], argTypes := ats }) ty f h = run2 minF (plainF P N (.call { callee := .builtin .min, args := #[x, y], argTypes := ats }) ty f) (valN N f x) (valN N f y) h := by
  refine plainF_two (by simp [Op.operands, Call.operands]) fun a b v e1 e2 hv => ?_
  cases hv
  refine ⟨rfl, ?_⟩
  simp only [execOp, bare, resolve, invoke, builtin, Builtin.min_, List.map_toArray, List.map_cons, List.map_nil, e1, e2]
  simp [Builtin.min2]
  rfl
theorem p_max {ats : Array TypeId} : plainF P N (.call { callee := .builtin .max, args := #[x, y], argTypes := ats }) ty f h = run2 maxF (plainF P N (.call { callee := .builtin .max, args := #[x, y], argTypes := ats }) ty f) (valN N f x) (valN N f y) h := by
  refine plainF_two (by simp [Op.operands, Call.operands]) fun a b v e1 e2 hv => ?_
  cases hv
  refine ⟨rfl, ?_⟩
  simp only [execOp, bare, resolve, invoke, builtin, Builtin.max_, List.map_toArray, List.map_cons, List.map_nil, e1, e2]
  simp [Builtin.max2]
  rfl
theorem p_rem : plainF P N (.binOp .rem t x y u) ty f h = run2 remF (plainF P N (.binOp .rem t x y u) ty f) (valN N f x) (valN N f y) h := by
  refine plainF_two (by simp [Op.operands]) fun a b v e1 e2 hv => ?_
  unfold remF at hv
  split at hv
  · cases hv
  · rename_i hb
    cases hv
    refine ⟨rfl, ?_⟩
    simp only [execOp, bare, e1, e2, eqGuard, binOp, Op.intDiv, hb, ne_eq, not_true_eq_false, if_false]
    rfl
theorem p_quo : plainF P N (.binOp .quo t x y u) ty f h = run2 quoF (plainF P N (.binOp .quo t x y u) ty f) (valN N f x) (valN N f y) h := by
  refine plainF_two (by simp [Op.operands]) fun a b v e1 e2 hv => ?_
  unfold quoF at hv
  split at hv
  · cases hv
  · rename_i hb
    cases hv
    refine ⟨rfl, ?_⟩
    simp only [execOp, bare, e1, e2, eqGuard, binOp, Op.intDiv, hb, ne_eq, not_true_eq_false, if_false]
    rfl
theorem r_min {other : AHeap → Option (Value × AHeap)} {a b : Int} : run2 minF other (.int .i64 a) (.int .i64 b) h = some (.int .i64 (min a b), h) := by
  refine run2_int ?_
  simp only [minF, Int.min_def]
  by_cases h1 : b < a
  · rw [if_pos h1, if_neg (by omega)]
  · rw [if_neg h1, if_pos (by omega)]
theorem r_max {other : AHeap → Option (Value × AHeap)} {a b : Int} : run2 maxF other (.int .i64 a) (.int .i64 b) h = some (.int .i64 (max a b), h) := by
  refine run2_int ?_
  simp only [maxF, Int.max_def]
  by_cases h1 : b > a
  · rw [if_pos h1, if_pos (by omega)]
  · rw [if_neg h1]
    by_cases h2 : a ≤ b
    · rw [if_pos h2]; congr 2; omega
    · rw [if_neg h2]
theorem r_rem {other : AHeap → Option (Value × AHeap)} {a b : Int} (hb : b ≠ 0) : run2 remF other (.int .i64 a) (.int .i64 b) h = some (.int .i64 (a.tmod b), h) := run2_int (by simp only [remF, if_neg hb])
theorem r_quo {other : AHeap → Option (Value × AHeap)} {a b : Int} (hb : b ≠ 0) : run2 quoF other (.int .i64 a) (.int .i64 b) h = some (.int .i64 (IntKind.wrap .i64 (a.tdiv b)), h) := run2_int (by simp only [quoF, if_neg hb])
theorem valN_tmp {t : Nat} (ht : t < N) : valN N f (T t) = f t := by
  show (if t < N then f t else undef) = _
  rw [if_pos ht]
theorem valN_const {v : Value} : valN N f (.const v) = v := rfl
theorem x_plain {cf : CallF} {op : Op} : sem P cf N f h (.plain op ty) = plainF P N op ty f h := rfl
end Go.Vm

namespace Go.Vm
structure Set1 (h h1 : AHeap) (b : Nat) (cs : List Value) (gr : Nat) : Prop where
  get : h1.get b = some (.row cs true gr)
  old : ∀ i, i ≠ b → h1.get i = h.get i
  next : h1.next = h.next
  floor : h1.floor = h.floor
def Row (h : AHeap) (b : Nat) (cs : List Value) : Prop := ∃ w gr, h.get b = some (.row cs w gr)
variable {h g h1 : AHeap} {b off gr n : Nat} {cs vs : List Value} {v : Value}
theorem Row.mono (hr : Row h b cs) (hs : Sub All h g) : Row g b cs := by
  obtain ⟨w, gr, h1⟩ := hr
  exact ⟨w, gr, hs _ _ _ _ trivial h1⟩
theorem Row.ld (hr : Row h b cs) (o : Nat) : loadCell h (.pointer (some ⟨b, o, none⟩)) = cs[o]? := by
  obtain ⟨w, gr, h1⟩ := hr
  simp only [loadCell, h1, nthO_eq]
theorem Row.ldN (hr : Row h b cs) (o m : Nat) (h1' : o ≤ cs.length) (h2 : m ≤ (cs.drop o).length) : loadAgg m h (.pointer (some ⟨b, o, none⟩)) = some (.agg ⟨(cs.drop o).take m⟩) := by
  obtain ⟨w, gr, h1⟩ := hr
  simp only [loadAgg, h1, dropK_eq, takeK_eq]
  rw [if_pos h1', if_pos h2]
theorem New.row (hn : New h h1 cs gr) : Row h1 h.next cs := ⟨_, _, hn.get⟩
theorem Set1.row (hs : Set1 h h1 b cs gr) : Row h1 b cs := ⟨_, _, hs.get⟩
theorem Sub.trans {h g k : AHeap} {S : Nat → Prop} (h1 : Sub S h g) (h2 : Sub S g k) : Sub S h k := fun _ _ _ _ hS hg => h2 _ _ _ _ hS (h1 _ _ _ _ hS hg)
theorem storeRow_run (hg : h.get b = some (.row cs true gr)) (hfl : h.floor ≤ b) (hf : h.next ≤ far) (hone : allB oneCell vs = true) (hlen : off + vs.length ≤ cs.length) :
    ∃ h1, storeRow h b off vs = some h1 ∧ Set1 h h1 b (splice cs off vs) gr := by
  have hlt := AHeap.lt_of_get hg
  unfold storeRow
  have : Nat.ble h.floor b = true := ble_iff.2 hfl
  simp only [hg, this, hone, Bool.and_self, cond_true, spliceK_eq, if_pos hlen, seqNat_eq, Trie.setK_eq]
  refine ⟨_, rfl, ?_, ?_, rfl, rfl⟩
  · have := AHeap.get_with (h := ⟨h.t, h.next, lowOf h b vs, h.floor⟩) (i := b) hlt hf (some (.row (splice cs off vs) true gr)) b
    rw [if_pos rfl] at this
    exact this
  · intro i hi
    have := AHeap.get_with (h := ⟨h.t, h.next, lowOf h b vs, h.floor⟩) (i := b) hlt hf (some (.row (splice cs off vs) true gr)) i
    rw [if_neg (Ne.symm hi)] at this
    exact this
theorem storeN_run (hg : h.get b = some (.row cs true gr)) (hfl : h.floor ≤ b) (hf : h.next ≤ far) (hvs : cellList v = vs) (hone : allB oneCell vs = true) (hn : vs.length = n) (hlen : off + n ≤ cs.length) :
    ∃ h1, storeN n h (.pointer (some ⟨b, off, none⟩)) v = some (undef, h1) ∧ Set1 h h1 b (splice cs off vs) gr := by
  obtain ⟨h1, e, hs⟩ := storeRow_run hg hfl hf hone (by rw [hn]; exact hlen)
  refine ⟨h1, ?_, hs⟩
  unfold storeN
  have : Nat.beq (len vs) n = true := by rw [len_eq]; exact beq_iff.2 hn
  simp only [hvs, this, cond_true, e]
section
variable {X : Cx} {Q : WPost} {f : Fr} {m : List Nat} {d : Nat} {x y : Operand} {L : List SI}
theorem ops_store (hp : val f x = .pointer (some ⟨b, off, none⟩)) (hg : h.get b = some (.row cs true gr)) (hfl : h.floor ≤ b) (hf : h.next ≤ far) (hvs : cellList (val f y) = vs) (hone : allB oneCell vs = true) (hn : vs.length = n) (hlen : off + n ≤ cs.length)
    (hw : ∀ h1, Set1 h h1 b (splice cs off vs) gr → opsW X L Q f h1 m) : opsW X (⟨none, none, .store n x y⟩ :: L) Q f h m := by
  obtain ⟨h1, e, hs⟩ := storeN_run hg hfl hf hvs hone hn hlen
  rw [ops_cons, x_store, hp, e, step_some]
  exact hw _ hs
theorem ops_new (hf : h.next < far) (hfl : h.floor ≤ h.next) (hc : allB oneCell cs = true) (hvs : cellList (val (upd f d (.pointer (some ⟨h.next, 0, none⟩))) y) = vs) (hone : allB oneCell vs = true) (hn : vs.length = n) (hlen : cs.length = n)
    (hw : ∀ h1, New h h1 vs 0 → opsW X L Q (upd f d (.pointer (some ⟨h.next, 0, none⟩))) h1 m) : opsW X (⟨some d, none, .alloc cs⟩ :: ⟨none, none, .store n (T d) y⟩ :: L) Q f h m := by
  refine ops_alloc hf hc fun h1 hx => ?_
  refine ops_store (b := h.next) (off := 0) (by rw [val_tmp]; simp [upd]) hx.get (by rw [hx.floor]; exact hfl) (by rw [hx.next]; omega) hvs hone hn (by omega) fun h2 hs => ?_
  refine hw _ ⟨?_, ?_, ?_, ?_⟩
  · rw [hs.get]
    congr 2
    simp [splice, hn, hlen]
  · intro i hi
    rw [hs.old i (by omega), hx.old i hi]
  · rw [hs.next, hx.next]
  · rw [hs.floor, hx.floor]
theorem step_row {cl : List Value} (hf : h.next < far) (hcs : cl = cs) (hc : allB oneCell cs = true)
    (hw : ∀ h1, New h h1 cs 0 → opsW X L Q (upd f d (.pointer (some ⟨h.next, 0, none⟩))) h1 m) : stepW X (newRowA h cl) (some d) L Q f m := by
  rw [hcs, newRow_run hf hc, step_some]
  exact hw _ (new_more hf)
theorem step_new (hf : h.next < far) (hfl : h.floor ≤ h.next) (hc : allB oneCell cs = true) (hvs : cellList (val (upd f d (.pointer (some ⟨h.next, 0, none⟩))) y) = vs) (hone : allB oneCell vs = true) (hn : vs.length = n) (hlen : cs.length = n)
    (hw : ∀ h1, New h h1 vs 0 → opsW X L Q (upd f d (.pointer (some ⟨h.next, 0, none⟩))) h1 m) : stepW X (newRowA h cs) (some d) (⟨none, none, .store n (T d) y⟩ :: L) Q f m := by
  have := ops_new (X := X) (Q := Q) (L := L) (d := d) (y := y) (m := m) (f := f) hf hfl hc hvs hone hn hlen hw
  rw [ops_cons, x_alloc] at this
  exact this
theorem step_store {p u : Value} (hp : p = .pointer (some ⟨b, off, none⟩)) (hg : h.get b = some (.row cs true gr)) (hfl : h.floor ≤ b) (hf : h.next ≤ far) (hvs : cellList u = vs) (hone : allB oneCell vs = true) (hn : vs.length = n) (hlen : off + n ≤ cs.length)
    (hw : ∀ h1, Set1 h h1 b (splice cs off vs) gr → opsW X L Q f h1 m) : stepW X (storeN n h p u) none L Q f m := by
  obtain ⟨h1, e, hs⟩ := storeN_run hg hfl hf hvs hone hn hlen
  rw [hp, e, step_some]
  exact hw _ hs
end
end Go.Vm

namespace Go.Vm
variable {P : Program} {N : Nat} {f : Fr} {h : AHeap} {ty t u : TypeId} {x y : Operand}
def run2u (F : Int → Int → Option Value) (other : AHeap → Option (Value × AHeap)) (a b : Value) (h : AHeap) : Option (Value × AHeap) :=
  match a, b with
  | .int .i64 a, .int .u64 b => match F a b with
    | some v => some (v, h)
    | none => other h
  | _, _ => other h
def convU (a : Int) : Option Value := some (.int .u64 (IntKind.wrap .u64 a))
def shlF (a b : Int) : Option Value := if 0 ≤ b ∧ b ≤ 64 then some (.int .i64 (IntKind.wrap .i64 (a * 2 ^ b.toNat))) else none
def orF (a b : Int) : Option Value := some (.int .i64 (IntKind.wrap .i64 (BitVec.ofInt 64 a ||| BitVec.ofInt 64 b).toNat))
def andF (a b : Int) : Option Value := some (.int .i64 (IntKind.wrap .i64 (BitVec.ofInt 64 a &&& BitVec.ofInt 64 b).toNat))
def andNotF (a b : Int) : Option Value := some (.int .i64 (IntKind.wrap .i64 (BitVec.ofInt 64 a &&& ~~~ BitVec.ofInt 64 b).toNat))
theorem p_or : plainF P N (.binOp .or t x y u) ty f h = run2 orF (plainF P N (.binOp .or t x y u) ty f) (valN N f x) (valN N f y) h := by
  refine plainF_two (by simp [Op.operands]) fun a b v e1 e2 hv => ?_
  cases hv
  refine ⟨rfl, ?_⟩
  simp only [execOp, bare, e1, e2, eqGuard, binOp, Op.intBits]
  rfl
theorem p_and : plainF P N (.binOp .and t x y u) ty f h = run2 andF (plainF P N (.binOp .and t x y u) ty f) (valN N f x) (valN N f y) h := by
  refine plainF_two (by simp [Op.operands]) fun a b v e1 e2 hv => ?_
  cases hv
  refine ⟨rfl, ?_⟩
  simp only [execOp, bare, e1, e2, eqGuard, binOp, Op.intBits]
  rfl
theorem p_andNot : plainF P N (.binOp .andNot t x y u) ty f h = run2 andNotF (plainF P N (.binOp .andNot t x y u) ty f) (valN N f x) (valN N f y) h := by
  refine plainF_two (by simp [Op.operands]) fun a b v e1 e2 hv => ?_
  cases hv
  refine ⟨rfl, ?_⟩
  simp only [execOp, bare, e1, e2, eqGuard, binOp, Op.intBits]
  rfl
theorem p_shl : plainF P N (.binOp .shl t x y u) ty f h = run2u shlF (plainF P N (.binOp .shl t x y u) ty f) (valN N f x) (valN N f y) h := by
  unfold run2u
  split
  · rename_i a b e1 e2
    split
    · rename_i v hv
      unfold shlF at hv
      split at hv
      · rename_i hb
        cases hv
        unfold plainF
        have : allB (fun x => plainV (valN N f x)) (Op.binOp .shl t x y u).operands.toList = true := by simp [Op.operands, allB, e1, e2, plainV, plainE, plainCell]
        rw [this]
        simp only [execOp, bare, e1, e2, eqGuard, binOp, shift_shl .i64 .u64 a b hb.1 hb.2]
        rfl
      · cases hv
    · rfl
  · rfl
theorem pr_under {d : TypeDesc} (h1 : P.underlying t = some d) : pureRun P (underlying t) = some d := by
  unfold underlying
  rw [pureRun_bind]
  show pureRun P (match P.underlying t with | some d => pure d | none => stuck "no such type") = _
  rw [h1]; rfl
theorem pr_conv {d : TypeDesc} {a : Int} (h1 : P.underlying t = some d) (h2 : P.underlying u = some (.int .u64)) : pureRun P (convert t u (.int .i64 a)) = some (.int .u64 (IntKind.wrap .u64 a)) := by
  unfold convert
  rw [pureRun_bind, pr_under h1, Option.bind_some, pureRun_bind, pr_under h2]
  rfl
theorem p_conv {d : TypeDesc} (h1 : P.underlying t = some d) (h2 : P.underlying u = some (.int .u64)) : plainF P N (.convert t u x) ty f h = run1 convU (plainF P N (.convert t u x) ty f) (valN N f x) h := by
  unfold run1
  split
  · rename_i a e1
    unfold plainF
    have : allB (fun x => plainV (valN N f x)) (Op.convert t u x).operands.toList = true := by simp [Op.operands, allB, e1, plainV, plainE, plainCell]
    rw [this]
    have e : pureRun P (execOp (valN N f) (bare (.convert t u x) ty)) = some (.value (.int .u64 (IntKind.wrap .u64 a))) := by
      show pureRun P (convert t u (valN N f x) >>= fun a => pure (Next.value a)) = _
      rw [pureRun_bind, e1, pr_conv h1 h2]
      rfl
    rw [e]
    rfl
  · rfl
theorem r_conv {other : AHeap → Option (Value × AHeap)} {k : Nat} (hk : k < 4611686018427387904) : run1 convU other (.int .i64 (k : Int)) h = some (.int .u64 (k : Int), h) := by
  have : IntKind.wrap .u64 (k : Int) = k := by rw [IntKind.wrap_u64]; omega
  simp only [run1, convU, this]
theorem r_shl {other : AHeap → Option (Value × AHeap)} {k : Nat} (hk : k < 62) : run2u shlF other (.int .i64 1) (.int .u64 (k : Int)) h = some (.int .i64 ((2 ^ k : Nat) : Int), h) := by
  simp only [run2u, shlF]
  rw [if_pos (by omega)]
  have : (2 ^ k : Nat) < 2 ^ 62 := Nat.pow_lt_pow_right (by omega) hk
  rw [← wrapF_eq, Int.one_mul, Int.toNat_natCast, wrap_in]
  · simp
  · have : (0 : Int) ≤ 2 ^ k := Int.pow_nonneg (by omega)
    omega
  · have e : ((2 : Int) ^ k) = ((2 ^ k : Nat) : Int) := by simp
    rw [e]; omega
theorem r_or {other : AHeap → Option (Value × AHeap)} {a b : Nat} (ha : a < 2 ^ 62) (hb : b < 2 ^ 62) : run2 orF other (.int .i64 (a : Int)) (.int .i64 (b : Int)) h = some (.int .i64 ((a ||| b : Nat) : Int), h) := by
  simp only [run2, orF]
  have : (a ||| b) < 2 ^ 62 := Nat.or_lt_two_pow ha hb
  have e : (BitVec.ofInt 64 (a : Int) ||| BitVec.ofInt 64 (b : Int)).toNat = a ||| b := by
    rw [BitVec.ofInt_natCast, BitVec.ofInt_natCast, BitVec.toNat_or, BitVec.toNat_ofNat, BitVec.toNat_ofNat, Nat.mod_eq_of_lt (by omega), Nat.mod_eq_of_lt (by omega)]
  rw [e, ← wrapF_eq, wrap_in (by omega) (by omega)]
end Go.Vm

namespace Go.Vm
def Grow (B : Nat) (h : AHeap) (v : Value) (s n : Nat) (cs : List Value) : Prop :=
  (v = .slice none 0 0 ∧ n = 0 ∧ cs = []) ∨ ∃ b, v = .slice (some ⟨b, 0, none⟩) n unk ∧ h.get b = some (.row cs true s) ∧ cs.length = n * s ∧ B ≤ b
variable {h g h1 : AHeap} {B b off gr n m s : Nat} {cs vs new : List Value} {v x y : Value} {c : Nat → Nat → Value}
theorem Grow.nil : Grow B h (.slice none 0 0) s 0 [] := .inl ⟨rfl, rfl, rfl⟩
theorem Grow.cells (hg : Grow B h v s n cs) (hc : ∀ k j, k < n → j < s → cs[k * s + j]? = some (c k j)) : Cells h v s n c := by
  rcases hg with ⟨rfl, rfl, rfl⟩ | ⟨b, rfl, h1, h2, h3⟩
  · exact ⟨none, 0, rfl, (fun x e => nomatch e), .inl rfl⟩
  · exact ⟨_, _, rfl, fun x e => by cases e; rfl, .inr ⟨b, 0, cs, true, s, rfl, h1, fun k j hk hj => by rw [Nat.zero_add]; exact hc k j hk hj⟩⟩
theorem Grow.keep (hg : Grow B h v s n cs) (hk : ∀ b, v = .slice (some ⟨b, 0, none⟩) n unk → b < h.next → h1.get b = h.get b) : Grow B h1 v s n cs := by
  rcases hg with ⟨rfl, rfl, rfl⟩ | ⟨b, rfl, h2, h3, h4⟩
  · exact .nil
  · exact .inr ⟨b, rfl, by rw [hk b rfl (AHeap.lt_of_get h2)]; exact h2, h3, h4⟩
theorem Grow.len (hg : Grow B h v s n cs) : cs.length = n * s := by
  rcases hg with ⟨rfl, rfl, rfl⟩ | ⟨b, rfl, h2, h3, h4⟩
  · simp
  · exact h3
theorem newSlice_ex {cap : Nat} (hf : h.next < far) (hc : allB oneCell cs = true) : ∃ h1, newSlice h cs n cap gr = some (.slice (some ⟨h.next, 0, none⟩) n cap, h1) ∧ New h h1 cs gr :=
  ⟨_, newSlice_run hf hc, new_more hf⟩
structure Kept (h h1 : AHeap) (v : Value) : Prop where
  old : ∀ i, i < h.next → (∀ b n c, v = .slice (some b) n c → i ≠ b.block) → h1.get i = h.get i
  next : h1.next = h.next + 1
  floor : h1.floor = h.floor
theorem append_run {bytes : Nat} (hg : Grow B h x s n cs) (hB : h.floor ≤ B) (hf : h.next < far) (hy : ∃ a k, y = .slice a m k) (hyc : cellsOfSlice h s y = some new) (hnl : new.length = m * s)
    (hone : allB oneCell new = true) (hold : allB oneCell cs = true) (hm : 0 < m) (hBn : B ≤ h.next) (hbytes : (n + m) * bytes ≤ maxBytes) (hnm : n + m ≤ maxBytes) :
    ∃ h1, appendA s bytes h x y = some (.slice (some ⟨h.next, 0, none⟩) (n + m) unk, h1) ∧ Grow B h1 (.slice (some ⟨h.next, 0, none⟩) (n + m) unk) s (n + m) (cs ++ new) ∧ Kept h h1 x := by
  obtain ⟨a, k, rfl⟩ := hy
  have hall : allB oneCell (cs ++ new) = true := by
    rw [allB_iff] at *
    intro v hv
    rcases List.mem_append.1 hv with hv | hv
    · exact hold v hv
    · exact hone v hv
  have hlen : (cs ++ new).length = (n + m) * s := by rw [List.length_append, hg.len, hnl, Nat.add_mul]
  have e1 : Nat.ble ((n + m) * bytes) maxBytes = true := ble_iff.2 hbytes
  have e2 : Nat.ble (n + m) maxBytes = true := ble_iff.2 hnm
  have e3 : Nat.beq (len new) (m * s) = true := by rw [len_eq]; exact beq_iff.2 hnl
  rcases hg with ⟨rfl, rfl, rfl⟩ | ⟨b, rfl, h2, h3, h4⟩
  · obtain ⟨h1, e, hn⟩ := newSlice_ex (h := h) (n := 0 + m) (cap := unk) (gr := s) hf hall
    refine ⟨h1, ?_, .inr ⟨_, rfl, hn.get, hlen, hBn⟩, fun i hi _ => hn.old i hi, hn.next, hn.floor⟩
    have e4 : Nat.ble (0 + m) 0 = false := by
      cases hb : Nat.ble (0 + m) 0 with
      | false => rfl
      | true => have := ble_iff.1 hb; omega
    unfold appendA
    simp only [hyc, e1, e2, e3, Bool.and_self, cond_true, e4, Bool.false_and, cond_false]
    unfold appendGrow
    have e5 : cellsOfSlice h s (.slice none 0 0) = some [] := rfl
    have e6 : Nat.blt 0 unk = true := rfl
    simp only [e5, e6, cond_true, app_eq]
    exact e
  · have hlt := AHeap.lt_of_get h2
    have hwn : (h.with b none).next = h.next := rfl
    have hwf : (h.with b none).floor = h.floor := rfl
    obtain ⟨h1, e, hn⟩ := newSlice_ex (h := h.with b none) (n := n + m) (cap := unk) (gr := s) (by rw [hwn]; exact hf) hall
    rw [hwn] at e
    have hg1 := hn.get
    rw [hwn] at hg1
    refine ⟨h1, ?_, .inr ⟨_, rfl, hg1, hlen, hBn⟩, ?_, by rw [hn.next, hwn], by rw [hn.floor, hwf]⟩
    · have e4 : Nat.blt unk unk = false := rfl
      unfold appendA
      simp only [hyc, e1, e2, e3, Bool.and_self, cond_true, e4, Bool.and_false, cond_false]
      unfold appendGrow
      have e5 : cellsOfSlice h s (.slice (some ⟨b, 0, none⟩) n unk) = some cs := by
        show (bif Nat.beq n 0 then some [] else match h.get b with
          | some (.row cs _ _) => dropK cs 0 fun r => takeK r (n * s) fun l => some l
          | _ => none) = some cs
        by_cases hn0 : n = 0
        · subst hn0
          have : cs = [] := List.eq_nil_of_length_eq_zero (by simpa using h3)
          rw [this]; rfl
        · have hb : Nat.beq n 0 = false := by
            cases hb : Nat.beq n 0 with
            | false => rfl
            | true => exact absurd (beq_iff.1 hb) hn0
          rw [hb, cond_false, h2]
          simp only [dropK_eq, takeK_eq, Nat.zero_le, if_true, List.drop_zero]
          rw [if_pos (by omega), ← h3, List.take_length]
      have b1 : ∀ n, Nat.beq n n = true := fun n => beq_iff.2 rfl
      have b2 : Nat.beq (n * s) (len cs) = true := by rw [len_eq]; exact beq_iff.2 h3.symm
      have b3 : Nat.ble h.floor b = true := ble_iff.2 (by omega)
      simp only [e5, e4, cond_false, h2, b1, b2, b3, Bool.and_self, cond_true, AHeap.put_eq, app_eq]
      exact e
    · intro i hi hne
      rw [hn.old i (by rw [hwn]; exact hi), AHeap.get_with hlt (by omega), if_neg (fun e => hne _ _ _ rfl e.symm)]
section
variable {P : Program} {cf : CallF} {N : Nat} {X : Cx} {Q : WPost} {f : Fr} {l : List Nat} {d : Nat} {L : List SI} {D : List DI} {S : Nat → Prop} {h0 : AHeap} {ask : AHeap → Prop}
theorem x_bslice {s n : Nat} {z : List Value} {is : List Nat} {vs : List Operand} : sem P cf N f h (.bslice s n z is vs) = buildSl s n z is h (vals f vs) := id rfl
theorem x_build {pl : Array (Nat × Nat)} {zc : List Value} {is : List Nat} {vs : List Operand} : sem P cf N f h (.build pl zc is vs) = buildA (pl[·]?) ⟨zc⟩ is h (vals f vs) := id rfl
theorem res_cellN {t n : Nat} : resV f h [.cellN t n] = loadAgg n h (f t) := id rfl
theorem res_cell1 {t : Nat} : resV f h [.cell1 t] = loadCell h (f t) := id rfl
theorem step_slice {n cap : Nat} (hf : h.next < far) (hc : allB oneCell cs = true)
    (hw : ∀ h1, New h h1 cs gr → opsW X L Q (upd f d (.slice (some ⟨h.next, 0, none⟩) n cap)) h1 l) : stepW X (newSlice h cs n cap gr) (some d) L Q f l := by
  obtain ⟨h1, e, hn⟩ := newSlice_ex (n := n) (cap := cap) (gr := gr) hf hc
  rw [e, step_some]
  exact hw _ hn
theorem up_slice {n cap : Nat} (hf : h.next < far) (hc : allB oneCell cs = true) (ha : ∀ h1, New h h1 cs gr → ask h1)
    (hw : ∀ h1, New h h1 cs gr → dW X S h0 D Q (upd f d (.slice (some ⟨h.next, 0, none⟩) n cap)) h1 l) : upW X S h0 (newSlice h cs n cap gr) ask (some d) D Q f h l := by
  obtain ⟨h1, e, hn⟩ := newSlice_ex (n := n) (cap := cap) (gr := gr) hf hc
  rw [e, up_some]
  exact ⟨⟨by rw [hn.next]; omega, ha _ hn⟩, hw _ hn⟩
theorem up_row {cl : List Value} (hf : h.next < far) (hcs : cl = cs) (hc : allB oneCell cs = true) (ha : ∀ h1, New h h1 cs 0 → ask h1)
    (hw : ∀ h1, New h h1 cs 0 → dW X S h0 D Q (upd f d (.pointer (some ⟨h.next, 0, none⟩))) h1 l) : upW X S h0 (newRowA h cl) ask (some d) D Q f h l := by
  rw [hcs, newRow_run hf hc, up_some]
  exact ⟨⟨by have := (new_more (o := cs) (gr := 0) hf).next; omega, ha _ (new_more hf)⟩, hw _ (new_more hf)⟩
theorem up_store {p u : Value} {n : Nat} (hp : p = .pointer (some ⟨b, off, none⟩)) (hg : h.get b = some (.row cs true gr)) (hfl : h.floor ≤ b) (hf : h.next ≤ far) (hvs : cellList u = vs) (hone : allB oneCell vs = true) (hn : vs.length = n) (hlen : off + n ≤ cs.length)
    (ha : ∀ h1, Set1 h h1 b (splice cs off vs) gr → ask h1)
    (hw : ∀ h1, Set1 h h1 b (splice cs off vs) gr → dW X S h0 D Q f h1 l) : upW X S h0 (storeN n h p u) ask none D Q f h l := by
  obtain ⟨h1, e, hs⟩ := storeN_run hg hfl hf hvs hone hn hlen
  rw [hp, e, up_some]
  exact ⟨⟨by rw [hs.next]; exact Nat.le_refl _, ha _ hs⟩, hw _ hs⟩
end
def GrowC (B : Nat) (h : AHeap) (v : Value) (s n : Nat) (c : Nat → Nat → Value) : Prop :=
  ∃ cs, Grow B h v s n cs ∧ allB oneCell cs = true ∧ ∀ k j, k < n → j < s → cs[k * s + j]? = some (c k j)
theorem GrowC.nil : GrowC B h (.slice none 0 0) s 0 c := ⟨[], .nil, rfl, fun _ _ hk => by omega⟩
theorem GrowC.cells (hg : GrowC B h v s n c) : Cells h v s n c := by
  obtain ⟨cs, h1, _, h2⟩ := hg
  exact h1.cells h2
theorem GrowC.block (hg : GrowC B h v s n c) {a : Addr} {k cap : Nat} (e : v = .slice (some a) k cap) : B ≤ a.block ∧ a.block < h.next := by
  obtain ⟨cs, ⟨rfl, _, _⟩ | ⟨b, rfl, h2, _, h3⟩, _⟩ := hg
  · cases e
  · cases e; exact ⟨h3, AHeap.lt_of_get h2⟩
theorem GrowC.one (hg : GrowC B h v s n c) : oneCell v = true := by
  obtain ⟨cs, ⟨rfl, _, _⟩ | ⟨b, rfl, h2, _, h3⟩, _⟩ := hg <;> rfl
theorem GrowC.append {bytes cap : Nat} (hg : GrowC B h x s n c) (hB : h.floor ≤ B) (hf : h.next < far) (hBn : B ≤ h.next) (hyc : h.get b = some (.row new true 0)) (hnl : new.length = s)
    (hone : allB oneCell new = true) (hn : ∀ j, j < s → new[j]? = some (c n j)) (hbytes : (n + 1) * bytes ≤ maxBytes) (hnm : n + 1 ≤ maxBytes) :
    ∃ v h1, appendA s bytes h x (.slice (some ⟨b, 0, none⟩) 1 cap) = some (v, h1) ∧ v = .slice (some ⟨h.next, 0, none⟩) (n + 1) unk ∧ GrowC B h1 v s (n + 1) c ∧ Kept h h1 x := by
  obtain ⟨cs, h1, h2, h3⟩ := hg
  have hc : cellsOfSlice h s (.slice (some ⟨b, 0, none⟩) 1 cap) = some new := by
    show (bif Nat.beq 1 0 then some [] else match h.get b with
      | some (.row cs _ _) => dropK cs 0 fun r => takeK r (1 * s) fun l => some l
      | _ => none) = some new
    have h10 : Nat.beq 1 0 = false := rfl
    rw [hyc, h10, cond_false]
    simp only [dropK_eq, takeK_eq, Nat.zero_le, if_true, List.drop_zero]
    rw [if_pos (by omega), Nat.one_mul, ← hnl, List.take_length]
  obtain ⟨g, e, h4, h5⟩ := append_run (bytes := bytes) h1 hB hf ⟨_, _, rfl⟩ hc (by omega) hone h2 (by omega) hBn hbytes hnm
  refine ⟨_, g, e, rfl, ⟨_, h4, ?_, ?_⟩, h5⟩
  · rw [allB_iff] at *
    intro v hv
    rcases List.mem_append.1 hv with hv | hv
    · exact h2 v hv
    · exact hone v hv
  · intro k j hk hj
    have hl := h1.len
    by_cases e : k < n
    · have : k * s + j < cs.length := by
        rw [hl]
        have : (k + 1) * s ≤ n * s := Nat.mul_le_mul_right s e
        rw [Nat.add_mul] at this
        omega
      rw [List.getElem?_append_left this]
      exact h3 k j e hj
    · have e : k = n := by omega
      subst e
      rw [List.getElem?_append_right (by omega), hl, show k * s + j - k * s = j by omega]
      exact hn j hj
structure Keep (o : Nat) (h g : AHeap) : Prop where
  sub : Sub (fun i => i ≠ o) h g
  up : h.next ≤ g.next
  floor : g.floor = h.floor
variable {o : Nat} {h0 : AHeap}
theorem Keep.refl : Keep o h h := ⟨fun _ _ _ _ _ h => h, Nat.le_refl _, rfl⟩
theorem Keep.trans (h1 : Keep o h0 h) (h2 : Keep o h g) : Keep o h0 g := ⟨Sub.trans h1.sub h2.sub, Nat.le_trans h1.up h2.up, by rw [h2.floor, h1.floor]⟩
theorem New.keep (hn : New h h1 cs gr) : Keep o h h1 := ⟨fun i cs w gr _ hg => hn.sub i cs w gr trivial hg, by rw [hn.next]; omega, hn.floor⟩
theorem Set1.keep (hn : Set1 h h1 o cs gr) : Keep o h h1 := ⟨fun i cs w gr hi hg => by rw [hn.old i hi]; exact hg, by rw [hn.next]; exact Nat.le_refl _, hn.floor⟩
theorem Kept.keep (hk : Kept h h1 x) (h2 : Keep o h0 h) (hb : ∀ b k c, x = .slice (some b) k c → h0.next ≤ b.block) : Keep o h0 h1 :=
  ⟨fun i cs w gr hi hg => by
    have hl := AHeap.lt_of_get hg
    rw [hk.old i (Nat.lt_of_lt_of_le hl h2.up) fun b k c e => by have := hb b k c e; omega]
    exact h2.sub i cs w gr hi hg, by rw [hk.next]; have := h2.up; omega, by rw [hk.floor, h2.floor]⟩
theorem Cells.keep (hc : Cells h v s n c) (hk : Keep o h g) (hb : ∀ a k cap, v = .slice (some a) k cap → a.block ≠ o) : Cells g v s n c := by
  obtain ⟨a, cap, rfl, hsp, h0 | ⟨b, off, cs, w, gr, rfl, h1, h2⟩⟩ := hc
  · exact ⟨a, cap, rfl, hsp, .inl h0⟩
  · exact ⟨_, cap, rfl, hsp, .inr ⟨b, off, cs, w, gr, rfl, hk.sub _ _ _ _ (hb _ _ _ rfl) h1, h2⟩⟩
theorem GrowC.keep (hg : GrowC B h v s n c) (hk : Keep o h g) (ho : o < B) : GrowC B g v s n c := by
  obtain ⟨cs, ⟨rfl, rfl, rfl⟩ | ⟨b, rfl, h2, h3, h4⟩, h5, h6⟩ := hg
  · exact .nil
  · exact ⟨cs, .inr ⟨b, rfl, hk.sub _ _ _ _ (by omega) h2, h3, h4⟩, h5, h6⟩
theorem Row.keep (hr : Row h b cs) (hk : Keep o h g) (hb : b ≠ o) : Row g b cs := by
  obtain ⟨w, gr, h1⟩ := hr
  exact ⟨w, gr, hk.sub _ _ _ _ hb h1⟩
theorem Cells.kept (hc : Cells h v s n c) (hk : Kept h h1 x) (hb : ∀ a k cap, v = .slice (some a) k cap → ∀ b k c, x = .slice (some b) k c → a.block ≠ b.block) : Cells h1 v s n c := by
  obtain ⟨a, cap, rfl, hsp, h0 | ⟨b, off, cs, w, gr, rfl, h1, h2⟩⟩ := hc
  · exact ⟨a, cap, rfl, hsp, .inl h0⟩
  · exact ⟨_, cap, rfl, hsp, .inr ⟨b, off, cs, w, gr, rfl, by rw [hk.old b (AHeap.lt_of_get h1) fun a k c e => hb _ _ _ rfl a k c e]; exact h1, h2⟩⟩
end Go.Vm

namespace Go.Vm
variable {P : Program} {cf : CallF} {N : Nat} {X : Cx}
def rangesOf : Code → List (Code × Code)
  | .seq a b => rangesOf a ++ rangesOf b
  | .cond _ a b => rangesOf a ++ rangesOf b
  | .block _ a => rangesOf a
  | .loop a => rangesOf a
  | .scope a => rangesOf a
  | .rangeFunc _ _ a b => [(a, b)]
  | _ => []
def rangeOf (fn : Func) (i : Nat) : Code × Code :=
  match fn.body with
  | some c => (rangesOf c).getD i (.skip, .skip)
  | none => (.skip, .skip)
def setFr (f : Fr) (ps : List Tmp) (xs : List Value) : Fr := (ps.zip xs).foldl (fun f (p : Tmp × Value) => upd f p.1 p.2) f
theorem View.setAll {ps : List Tmp} {xs : List Value} : ∀ {ts : Slots} {f : Fr}, View N ts f → View N ((ps.zip xs).foldl (fun s (p : Tmp × Value) => Slots.set (cway p.1).way s p.2) ts) (setFr f ps xs) := by
  unfold setFr
  generalize ps.zip xs = l
  induction l with
  | nil => intro ts f h; exact h
  | cons p l ih => intro ts f h; exact ih (h.set p.1 p.2)
def loopO (fn : FuncId) (ts : Slots) (ps : Array Tmp) (a b : Code) (d : Nat) : ALoop := { state := .ready, pending := none, fn := fn, tmps := ts, params := ps, assign := a, body := b, defers := d }
structure Put (h h1 : AHeap) (b : Nat) (o : Option AObj) : Prop where
  get : h1.get b = o
  old : ∀ i, i ≠ b → h1.get i = h.get i
  next : h1.next = h.next
  floor : h1.floor = h.floor
theorem put_with {h : AHeap} {b : Nat} (hb : b < h.next) (hf : h.next ≤ far) (o : Option AObj) : Put h (h.with b o) b o :=
  ⟨by rw [AHeap.get_with hb hf, if_pos rfl], fun i hi => by rw [AHeap.get_with hb hf, if_neg (Ne.symm hi)], rfl, rfl⟩
def leftBy (r : ALoop) : Ex → ALoop
  | .norm => { r with state := .ready, pending := none }
  | .exit i => { r with state := .done, pending := some (.exit i) }
  | .ret => { r with state := .done, pending := some .ret }
def goesOn : Ex → Bool
  | .norm => true
  | _ => false
theorem round_run {l m : Nat} {args : List Value} {h : AHeap} {r : ALoop} {f : Fr} {sa sb : SCode} {Q : Ex → AHeap → Prop}
    (hg : h.get l = some (.loop r)) (hst : r.state = .ready) (hv : View N r.tmps f) (hlen : args.length = r.params.size) (hfl : h.floor ≤ l)
    (ca : compCode P N r.assign = some sa) (cb : compCode P N r.body = some sb)
    (hW : W ⟨P, cf, N, r.fn, some l, m⟩ sa (thenQ (fun f1 h1 m1 => h1.get l = some (.loop r) ∧ h1.next ≤ far ∧ ∀ h2, Put h1 h2 l (some (.loop { r with state := .busy })) →
      W ⟨P, cf, N, r.fn, some l, m⟩ sb (fun e _ h3 _ => h3.get l = some (.loop { r with state := .busy }) ∧ h3.next ≤ far ∧ h3.floor ≤ l ∧ ∀ h4, Put h3 h4 l (some (.loop (leftBy r e))) → Q e h4) f1 h2 m1) fun _ _ _ _ => False) (setFr f r.params.toList args) h []) :
    ∃ e h', roundA P cf m l args h = some (.bool (goesOn e), h') ∧ Q e h' := by
  unfold roundA
  simp only [hg]
  have e1 : Nat.beq args.length r.params.size = true := beq_iff.2 hlen
  have e2 : Nat.ble h.floor l = true := ble_iff.2 hfl
  simp only [e1, e2, Bool.and_self, cond_true, setAllK_eq]
  obtain ⟨e, ts1, f1, h1, m1, k1, k2, k3⟩ := W_sound (X := ⟨P, cf, N, r.fn, some l, m⟩) r.assign sa ca _ _ _ _ _ (hv.setAll (ps := r.params.toList) (xs := args)) hW
  simp only at k1
  rw [k1]
  cases e with
  | exit i => exact k3.elim
  | ret => exact k3.elim
  | norm =>
    obtain ⟨g1, n1, k3⟩ := k3
    simp only [roundBegin, g1, hst, AHeap.put_eq]
    have hl1 := AHeap.lt_of_get g1
    obtain ⟨e, ts2, f2, h2, m2, q1, q2, q3⟩ := W_sound (X := ⟨P, cf, N, r.fn, some l, m⟩) r.body sb cb _ _ _ _ _ k2 (k3 _ (put_with hl1 n1 _))
    simp only at q1
    rw [q1]
    obtain ⟨g2, n2, fl2, q3⟩ := q3
    have hl2 := AHeap.lt_of_get g2
    have e3 : Nat.ble h2.floor l = true := ble_iff.2 fl2
    cases e with
    | norm =>
      refine ⟨.norm, _, ?_, q3 _ (put_with hl2 n2 _)⟩
      simp only [roundEnd, g2, e3, Bool.not_true, cond_false, jumpOf, AHeap.put_eq, Option.isNone, if_true]
      rfl
    | exit i =>
      refine ⟨.exit i, _, ?_, q3 _ (put_with hl2 n2 _)⟩
      simp only [roundEnd, g2, e3, Bool.not_true, cond_false, jumpOf, AHeap.put_eq, Option.isNone]
      rfl
    | ret =>
      refine ⟨.ret, _, ?_, q3 _ (put_with hl2 n2 _)⟩
      simp only [roundEnd, g2, e3, Bool.not_true, cond_false, jumpOf, AHeap.put_eq, Option.isNone]
      rfl
structure Laid (h h2 : AHeap) (r : ALoop) : Prop where
  loop : h2.get (h.next + 1) = some (.loop r)
  mark : h2.get h.next = some .deferred
  old : ∀ i, i < h.next → h2.get i = h.get i
  next : h2.next = h.next + 2
  floor : h2.floor = h.floor
theorem Laid.sub {h h2 : AHeap} {r : ALoop} (hl : Laid h h2 r) : Sub All h h2 := fun i cs rw gr _ hg => by rw [hl.old i (AHeap.lt_of_get hg)]; exact hg
theorem laid_more {h : AHeap} {r : ALoop} (hf : h.next + 2 ≤ far) : Laid h ((h.more (some .deferred)).more (some (.loop r))) r := by
  have h1 : h.next < far := by omega
  have h2 : (h.more (some .deferred)).next < far := by show h.next + 1 < far; omega
  refine ⟨?_, ?_, ?_, rfl, rfl⟩
  · rw [AHeap.get_more h2, if_pos (show (h.more (some AObj.deferred)).next = h.next + 1 from rfl)]
  · rw [AHeap.get_more h2, if_neg (by show h.next + 1 ≠ h.next; omega), AHeap.get_more h1, if_pos rfl]
  · intro i hi
    rw [AHeap.get_more h2, if_neg (by show h.next + 1 ≠ i; omega), AHeap.get_more h1, if_neg (by omega)]
def rangeQ (l : Nat) (r : ALoop) (Q : WPost) (f : Fr) (m : List Nat) (e : Ex) (h' : AHeap) : Prop :=
  h'.floor ≤ l ∧ h'.next ≤ far ∧ h'.get l = some (.loop (leftBy r e)) ∧ ∀ h3, Put h' h3 l (some (.loop { leftBy r e with state := .exhausted })) → Q e f h3 m
theorem W_range {g : Operand} {ps : Array Tmp} {a b : Code} {f : Fr} {h : AHeap} {m : List Nat} {Q : WPost} {G : FuncId} {xs ys : Array Value} (har : X.ar = none) (hf : h.next + 2 ≤ far) (hg : val f g = .func (.func G) xs ys)
    (hcall : ∀ ts, View X.N ts f → ∀ h2, Laid h h2 (loopO X.fn ts ps a b h.next) → ∃ v h' e, X.cf (.func (.func G) xs ys) [.func (.yield (h.next + 1)) #[] #[]] h2 = some (v, h') ∧ rangeQ (h.next + 1) (loopO X.fn ts ps a b h.next) Q f (h.next :: m) e h') :
    W X (.range g ps a b) Q f h m := by
  intro ts hv
  obtain ⟨v, h', e, hc, q1, q2, q3, q4⟩ := hcall ts hv _ (laid_more hf)
  have h1 : h.next < far := by omega
  have h2 : (h.more (some .deferred)).next < far := by show h.next + 1 < far; omega
  have hn : (h.more (some .deferred)).next = h.next + 1 := rfl
  unfold rangeA
  simp only [har, hg]
  rw [push_run h1]
  unfold rangeIn
  simp only
  rw [push_run h2]
  rw [hn]
  unfold loopO at hc
  simp only [hc]
  unfold endRange
  have e2 : Nat.ble h'.floor (h.next + 1) = true := ble_iff.2 q1
  have hl := AHeap.lt_of_get q3
  simp only [e2, Bool.not_true, cond_false, q3]
  cases e with
  | norm => exact ⟨.norm, _, _, by simp only [leftBy, AHeap.put_eq], q4 _ (put_with hl q2 _)⟩
  | exit i => exact ⟨.exit i, _, _, by simp only [leftBy, AHeap.put_eq], q4 _ (put_with hl q2 _)⟩
  | ret => exact ⟨.ret, _, _, by simp only [leftBy, AHeap.put_eq], q4 _ (put_with hl q2 _)⟩
theorem W_range' {g : Operand} {ps : Array Tmp} {a b : Code} {f : Fr} {h : AHeap} {m : List Nat} {Q : WPost} {G : FuncId} {xs ys : Array Value} (har : X.ar = none) (hf : h.next + 2 ≤ far) (hg : val f g = .func (.func G) xs ys)
    (hcall : ∀ f0, f0 = f → ∀ ts, View X.N ts f0 → ∀ h2, Laid h h2 (loopO X.fn ts ps a b h.next) → ∃ v h' e, X.cf (.func (.func G) xs ys) [.func (.yield (h.next + 1)) #[] #[]] h2 = some (v, h') ∧ rangeQ (h.next + 1) (loopO X.fn ts ps a b h.next) Q f0 (h.next :: m) e h') :
    W X (.range g ps a b) Q f h m := W_range har hf hg fun ts hv h2 hl => hcall f rfl ts hv h2 hl
theorem Put.keep {h h1 : AHeap} {b : Nat} {o : Option AObj} (hp : Put h h1 b o) : Keep b h h1 := ⟨fun i cs w gr hi hg => by rw [hp.old i hi]; exact hg, by rw [hp.next]; exact Nat.le_refl _, hp.floor⟩
theorem GrowC.congr {B : Nat} {h : AHeap} {v : Value} {s n : Nat} {c c' : Nat → Nat → Value} (hg : GrowC B h v s n c) (hc : ∀ k j, k < n → j < s → c k j = c' k j) : GrowC B h v s n c' := by
  obtain ⟨cs, h1, h2, h3⟩ := hg
  exact ⟨cs, h1, h2, fun k j hk hj => by rw [h3 k j hk hj, hc k j hk hj]⟩
theorem GrowC.sub {B : Nat} {h g : AHeap} {v : Value} {s n : Nat} {c : Nat → Nat → Value} (hg : GrowC B h v s n c) (hs : Sub All h g) : GrowC B g v s n c := by
  obtain ⟨cs, ⟨rfl, rfl, rfl⟩ | ⟨b, rfl, h2, h3, h4⟩, h5, h6⟩ := hg
  · exact .nil
  · exact ⟨cs, .inr ⟨b, rfl, hs _ _ _ _ trivial h2, h3, h4⟩, h5, h6⟩
theorem ret_mark {rs : List RS} {R : Value → AHeap → Prop} {e : Ex} {f : Fr} {h : AHeap} {d : Nat} (he : goesOn e = true ∨ e = .ret) (hg : h.get d = some .deferred) (hfl : h.floor ≤ d) (hf : h.next ≤ far)
    (hr : ∀ h1, Put h h1 d none → ∃ v, resV f h1 rs = some v ∧ R v h1) : retQ rs R e f h [d] := by
  obtain ⟨v, h1, h2⟩ := hr _ (put_with (AHeap.lt_of_get hg) hf none)
  refine ⟨?_, h.with d none, v, ?_, h1, h2⟩
  · rcases he with he | rfl
    · cases e <;> simp_all [goesOn]
    · trivial
  · simp only [unmark, hg, hfl, if_true]
theorem Put.sub {h h1 : AHeap} {b : Nat} {o o' : Option AObj} (hp : Put h h1 b o) (hb : h.get b = o') (ho : ∀ cs w gr, o' ≠ some (.row cs w gr)) : Sub All h h1 := fun i cs w gr _ hg => by
  by_cases e : i = b
  · subst e; exact absurd (hb.symm.trans hg) (ho cs w gr)
  · rw [hp.old i e]; exact hg
end Go.Vm

namespace Go.Vm
variable {P : Program} {N : Nat} {f : Fr} {h : AHeap} {ty t u e : TypeId} {x y : Operand}
theorem pr_pure {α : Type} {a : α} : pureRun P (pure a) = some a := rfl
theorem pr_map {α β : Type} {g : α → β} {s : Sem α} : pureRun P (g <$> s) = (pureRun P s).map g := by
  rw [map_eq_pure_bind, pureRun_bind]
  cases pureRun P s <;> rfl
theorem pr_program : pureRun P program = some P := rfl
theorem pr_size {i : TypeInfo} (hi : P.info? e = some i) : pureRun P (sizeOf e) = some i.size := by
  simp [sizeOf, typeInfo, pureRun_bind, pr_map, pr_program, pr_pure, hi]
theorem pr_part {xs : Array Value} {off : Nat} {v : Value} (he : P.underlying e = some (.int .i64)) (hx : xs[off]? = some v) : pureRun P (part e xs off) = some v := by
  simp [part, isAgg, pureRun_bind, pr_under he, hx, pr_pure]
theorem pr_eqInt {d : Nat} {a b : Int} (he : P.underlying e = some (.int .i64)) : pureRun P (Op.equalIn (d + 1) e (.int .i64 a) (.int .i64 b)) = some (decide (a = b)) := by
  simp [Op.equalIn, pureRun_bind, pr_under he, pr_pure]
  by_cases h : a = b <;> simp [h]
theorem pr_eqItems {d : Nat} {xs ys : Array Value} {a b : Nat → Int} (he : P.underlying e = some (.int .i64)) : ∀ (is : List Nat), (∀ i, i ∈ is → xs[i]? = some (.int .i64 (a i)) ∧ ys[i]? = some (.int .i64 (b i))) →
    pureRun P (Op.eqItems (d + 1) e 1 xs ys is) = some (decide (∀ i, i ∈ is → a i = b i))
  | [], _ => by simp [Op.eqItems, pr_pure]
  | i :: is, hi => by
    obtain ⟨h1, h2⟩ := hi i (by simp)
    have ih := pr_eqItems (d := d) he is fun j hj => hi j (by simp [hj])
    simp only [Op.eqItems, pureRun_bind, Nat.mul_one, pr_part he h1, pr_part he h2, pr_eqInt he, Option.bind_some]
    by_cases e : a i = b i
    · simp only [e, decide_true, Bool.not_true, Bool.false_eq_true, if_false, ih]
      simp [e]
    · simp only [e, decide_false, Bool.not_false, if_true, pr_pure]
      simp [e]
theorem pr_eqArr {d n : Nat} {i : TypeInfo} {xs ys : Array Value} (hu : P.underlying t = some (.array n e)) (hi : P.info? e = some i) : pureRun P (Op.equalIn (d + 1) t (.agg xs) (.agg ys)) = pureRun P (Op.eqItems d e i.size xs ys (List.range n)) := by
  simp only [Op.equalIn, pureRun_bind, pr_under hu, Option.bind_some, pr_size hi]
  simp only [Std.Legacy.Range.forIn_eq_forIn_range', Std.Legacy.Range.size, Nat.sub_zero, Nat.add_one_sub_one, Nat.div_one, List.range_eq_range']
  generalize List.range' 0 n = is
  induction is with
  | nil => simp [Op.eqItems, pr_pure]
  | cons j is ih =>
    simp only [List.forIn_cons, Op.eqItems, pureRun_bind]
    cases pureRun P (part e xs (j * i.size)) with
    | none => simp
    | some a =>
      simp only [Option.bind_some]
      cases pureRun P (part e ys (j * i.size)) with
      | none => simp
      | some b =>
        simp only [Option.bind_some]
        cases pureRun P (Op.equalIn d e a b) with
        | none => simp
        | some r =>
          cases r
          · simp [pr_pure]
          · simp only [Option.bind_some, Bool.not_true, Bool.false_eq_true, if_false, pr_pure]
            exact ih
theorem pr_guard {op : BinOp} {xs ys : Array Value} (hg : P.eqGuardType P.depth t = false) : pureRun P (eqGuard op t x y (.agg xs) (.agg ys)) = some () := by
  cases op <;> simp [eqGuard, pureRun_bind, pr_program, pr_pure, hg]
theorem plainF_eqArr {n : Nat} {i : TypeInfo} {xs ys : Array Value} {a b : Nat → Int} (hx : valN N f x = .agg xs) (hy : valN N f y = .agg ys) (px : plainV (.agg xs) = true) (py : plainV (.agg ys) = true) (hg : P.eqGuardType P.depth t = false)
    (hu : P.underlying t = some (.array n e)) (hi : P.info? e = some i) (hs : i.size = 1) (he : P.underlying e = some (.int .i64)) (hab : ∀ k, k ∈ List.range n → xs[k]? = some (.int .i64 (a k)) ∧ ys[k]? = some (.int .i64 (b k))) :
    plainF P N (.binOp .eql t x y u) ty f h = some (.bool (decide (∀ k, k ∈ List.range n → a k = b k)), h) := by
  unfold plainF
  have : allB (fun x => plainV (valN N f x)) (Op.binOp .eql t x y u).operands.toList = true := by simp [Op.operands, allB, hx, hy, px, py]
  rw [this]
  have e : pureRun P (execOp (valN N f) (bare (.binOp .eql t x y u) ty)) = some (.value (.bool (decide (∀ k, k ∈ List.range n → a k = b k)))) := by
    simp only [execOp, bare, hx, hy, pureRun_bind, pr_guard hg, Option.bind_some, binOp, Op.equal, Op.maxDepth, pr_eqArr hu hi, hs, pr_eqItems he _ hab, pr_pure]
  rw [e]
  rfl
end Go.Vm

namespace Go.Vm
open Go
variable {P : Program}
structure Loaded (w : World) (φ : Emb) (h : AHeap) : Prop where
  rel : HRel φ h w
  ro : ∀ i o, h.get i = some o → o.writable = false
theorem empty_get (i : Nat) : AHeap.empty.get i = none := by rw [AHeap.get_def, if_neg]; simp [AHeap.empty]
theorem Loaded.empty (φ : Emb) (w : World) : Loaded w φ AHeap.empty := ⟨empty_rel φ w, fun i o h => absurd (h.symm.trans (empty_get i)) (by simp)⟩
theorem Addr.add_zero (a : Addr) : a.add 0 = a := by simp [Addr.add]
structure More (h h1 : AHeap) (o : Option AObj) : Prop where
  get : h1.get h.next = o
  old : ∀ i, i < h.next → h1.get i = h.get i
  next : h1.next = h.next + 1
  floor : h1.floor = h.floor
theorem More.sub {h h1 : AHeap} {o : Option AObj} (hm : More h h1 o) : Sub All h h1 := fun i cs w gr _ hg => by rw [hm.old i (AHeap.lt_of_get hg)]; exact hg
theorem more_more {h : AHeap} (hf : h.next < far) (o : Option AObj) : More h (h.more o) o :=
  ⟨by rw [AHeap.get_more hf, if_pos rfl], fun i hi => by rw [AHeap.get_more hf, if_neg (by omega)], rfl, rfl⟩
theorem Loaded.more {w : World} {φ : Emb} {h : AHeap} (L : Loaded w φ h) (hn : h.next < far) (a : Addr) (c : Nat) (o : Option AObj) (ho : ∀ x, o = some x → ORel (φ.put h.next a c) (h.next + 1) w h.next x ∧ x.writable = false) :
    Loaded w (φ.put h.next a c) (h.more o) := by
  have hm := more_more hn o
  have hcase : ∀ i x, (h.more o).get i = some x → (i = h.next ∧ o = some x) ∨ (i < h.next ∧ h.get i = some x) := by
    intro i x hx
    have := AHeap.lt_of_get hx
    rw [hm.next] at this
    by_cases e : i = h.next
    · subst e; exact .inl ⟨rfl, by rw [← hm.get]; exact hx⟩
    · have hi : i < h.next := by omega
      exact .inr ⟨hi, by rw [← hm.old i hi]; exact hx⟩
  have hro : ∀ i x, (h.more o).get i = some x → x.writable = false := by
    intro i x hx
    rcases hcase i x hx with ⟨rfl, e⟩ | ⟨_, e⟩
    · exact (ho x e).2
    · exact L.ro i x e
  refine ⟨⟨?_, ?_, by rw [hm.next]; omega, ?_⟩, hro⟩
  · intro i x hx
    rw [hm.next]
    rcases hcase i x hx with ⟨rfl, e⟩ | ⟨hi, e⟩
    · exact (ho x e).1
    · exact (L.rel.live i x e).agree (φ.put_agree h.next a c) (by omega) hi
  · intro i j x y hx hy _ hw
    rw [hro i x hx] at hw
    cases hw
  · exact fresh_more L.rel.fresh hn o
theorem Loaded.slice {w : World} {φ : Emb} {h : AHeap} (L : Loaded w φ h) (hn : h.next < far) {s len cap : Nat} {a : Addr} (hlc : len ≤ cap) (hs : 0 < s) (cs : List Value) (hcl : cs.length = len * s)
    (hc : ∀ k v, cs[k]? = some v → okV φ h.next v ∧ oneCell v = true ∧ w.cell? (a.add k) = some (mapV φ v)) {c : Nat → Nat → Value} (hcc : ∀ k j, k < len → j < s → cs[k * s + j]? = some (c k j)) :
    ∃ φ' h' u, Loaded w φ' h' ∧ Sub All h h' ∧ h'.next = h.next + 1 ∧ h'.floor = h.floor ∧ Agree h.next φ φ' ∧ mapV φ' u = .slice (some a) len cap ∧ okV φ' h'.next u ∧ oneCell u = true ∧ Cells h' u s len c := by
  have hag := φ.put_agree h.next a cap
  have hu1 : mapV (φ.put h.next a cap) (.slice (some ⟨h.next, 0, none⟩) len unk) = .slice (some a) len cap := by
    simp [mapV, mapA, mapC, Emb.put, Addr.add_zero, unk]
  have hu2 : ∀ n, h.next < n → okV (φ.put h.next a cap) n (.slice (some ⟨h.next, 0, none⟩) len unk) := fun n h1 => by
    simp only [okV, mapC, Emb.put]
    refine ⟨h1, trivial, ?_⟩
    simp [unk]
    exact hlc
  by_cases hl : len = 0
  · subst hl
    have L' := L.more hn a cap none fun x e => by cases e
    have hm := more_more hn none
    exact ⟨_, _, _, L', hm.sub, hm.next, hm.floor, hag, hu1, hu2 _ (by rw [hm.next]; omega), rfl, _, _, rfl, fun x e => by cases e; rfl, .inl rfl⟩
  · have hm := more_more hn (some (.row cs false 0))
    have h0 : ∃ v, cs[0]? = some v := by
      have : 0 < cs.length := by rw [hcl]; exact Nat.mul_pos (by omega) hs
      exact ⟨cs[0], List.getElem?_eq_getElem this⟩
    obtain ⟨v0, hv0⟩ := h0
    have hcell := (hc 0 v0 hv0).2.2
    have hblk : ∃ c e fz, w.heap[a.block]? = some (.cells c e fz) := by
      rw [Addr.add_zero] at hcell
      unfold World.cell? at hcell
      split at hcell
      · rename_i c e fz hh; exact ⟨c, e, fz, hh⟩
      · cases hcell
    have L' := L.more hn a cap (some (.row cs false 0)) fun x e => by
      cases e
      refine ⟨?_, rfl⟩
      obtain ⟨c, e, fz, hh⟩ := hblk
      refine ⟨c, e, fz, by simpa [Emb.put] using hh, fun k v hk => ?_, fun h => by cases h⟩
      obtain ⟨k1, k2, k3⟩ := hc k v hk
      refine ⟨(mapV_agree hag (by omega) v k1).2, k2, ?_⟩
      have e1 : (φ.put h.next a cap).at_ h.next = a := by simp [Emb.put]
      rw [e1, k3, (mapV_agree hag (Nat.le_succ _) v k1).1]
    exact ⟨_, _, _, L', hm.sub, hm.next, hm.floor, hag, hu1, hu2 _ (by rw [hm.next]; omega), rfl, _, _, rfl, fun x e => by cases e; rfl,
      .inr ⟨h.next, 0, cs, false, 0, rfl, hm.get, fun k j hk hj => by rw [Nat.zero_add]; exact hcc k j hk hj⟩⟩
theorem law_calls {cf : CallF} (hcf : SoundCF P cf) {f : FuncId} {us : List Value} {h h' : AHeap} {φ : Emb} {w : World} {args : Array Value} {v : Value} (hr : cf (.func (.func f) #[] #[]) us h = some (v, h')) (hv : v = .bool true) (L : Loaded w φ h)
    (hus : ∀ u ∈ us, okV φ h.next u) (hargs : us.map (mapV φ) = args.toList) :
    Calls P f args w fun e w' => e = .returned (.bool true) ∧ w.keptBut w' (fun _ => False) ∧ ∀ b, b < w.heap.size → w'.heap[b]? = w.heap[b]? := by
  subst hv
  obtain ⟨_, hc⟩ := hcf _ _ _ _ _ hr φ w L.rel (by simp [okV, okFn, okA, okL]) hus
  have e : ((#[] : Array Value).toList ++ (us ++ (#[] : Array Value).toList)).map (mapV φ) = args.toList := by simpa using hargs
  rw [e] at hc
  refine callsIn_wide.1 (CallsIn.mono hc fun e w' he => ?_)
  obtain ⟨φ', rfl, _, X, _⟩ := he
  have hno : ∀ b, ¬ Wr φ h b := by
    rintro b ⟨i, o, hi, _, hw, _⟩
    rw [L.ro i o hi] at hw
    cases hw
  have hfr : ∀ b, b < w.heap.size → w'.heap[b]? = w.heap[b]? := fun b hb => X.frame b hb (hno b)
  refine ⟨by simp [mapV], ⟨X.same.1, X.same.2, fun i hi => ?_⟩, hfr⟩
  rw [hfr i hi]
  cases w.heap[i]? with
  | none => rfl
  | some o => cases o <;> simp
theorem trodAll_stays {H : Type} {enc : TypeId × Value → H} {w w' : World} {T : TypeId → Prop} (K : Kids P T) (hz : ∀ {t e : TypeId}, T t → P.underlying t = some (.slice e) → 0 < P.cellsOf e) (hfr : ∀ b, b < w.heap.size → w'.heap[b]? = w.heap[b]?) :
    ∀ {ts : List TypeId} {vs : List Value} {ds : List (DataW H)} {ps : List MemPlace}, (∀ t ∈ ts, T t) → DataW.TrodAll enc P w 0 (fun _ => true) true ts vs ds ps → DataW.TrodAll enc P w' 0 (fun b => decide (b < w.heap.size)) true ts vs ds ps
  | [], [], [], _, _, h => h
  | t :: ts, v :: vs, d :: ds, ps, hT, h => by
    have hlt := DataW.TrodAll.lt h
    obtain ⟨p, q, ⟨n, hn⟩, h2, rfl⟩ := h
    refine ⟨p, q, ⟨n, ?_⟩, trodAll_stays K hz hfr (fun t ht => hT t (List.mem_cons.2 (.inr ht))) h2, rfl⟩
    refine DataW.trod_stays K hz (fun h => by cases h) (hT t (List.mem_cons.2 (.inl rfl))) hn ?_ ?_
    · intro x hx
      have := hlt x (List.mem_append_left _ hx)
      cases x with
      | cell b off =>
        show w'.cell? _ = w.cell? _
        unfold World.cell?
        simp only
        rw [hfr b this]
      | map b => exact hfr b this
    · intro x hx
      simpa using hlt x (List.mem_append_left _ hx)
def numAt (w : World) (a : Addr) (i : Nat) : Int :=
  match w.cell? (a.add i) with
  | some (.int _ n) => n
  | _ => 0
def FlatT (P : Program) (k : IntKind) (e : TypeId) (s : Nat) : Prop :=
  ∀ {H : Type} (enc : TypeId × Value → H) (w : World) (base : Nat) (sp : Nat → Bool) (held : Bool) (fuel : Nat) (cs : List Value) (x : DataW H × List MemPlace), DataW.trod enc P w base sp held fuel e cs = some x →
    cs.length = s ∧ ∀ v ∈ cs, ∃ n, v = .int k n ∧ (Lit.int k n).wf = true
theorem flat_int {k : IntKind} {e : TypeId} (he : P.underlying e = some (.int k)) : FlatT P k e 1 := by
  intro H enc w base sp held fuel cs x h
  obtain ⟨n, rfl, _, hw⟩ := DataW.trod_int he h
  exact ⟨rfl, fun v hv => by simp only [List.mem_singleton] at hv; exact ⟨n, hv, hw⟩⟩
theorem Addr.add_add (a : Addr) (i j : Nat) : (a.add i).add j = a.add (i + j) := by
  unfold Addr.add
  by_cases hi : i = 0
  · subst hi; simp
  · by_cases hj : j = 0
    · subst hj; simp
    · rw [if_neg hi, if_neg hj, if_neg (by omega)]
      simp [Nat.add_assoc]
def FlatS (w : World) (k : IntKind) (s : Nat) (v : Value) : Prop :=
  v = .slice none 0 0 ∨ ∃ a len cap, v = .slice (some a) len cap ∧ len ≤ cap ∧ ∀ i, i < len * s → w.cell? (a.add i) = some (.int k (numAt w a i)) ∧ (Lit.int k (numAt w a i)).wf = true
theorem flat_slice {k : IntKind} {t e : TypeId} {s : Nat} {H : Type} {enc : TypeId × Value → H} {w : World} {base : Nat} {sp : Nat → Bool} {held : Bool} {fuel : Nat} {cs : List Value} {x : DataW H × List MemPlace}
    (ht : P.underlying t = some (.slice e)) (hs : P.cellsOf e = s) (h0 : 0 < s) (hf : FlatT P k e s) (h : DataW.trod enc P w base sp held fuel t cs = some x) : ∃ v, cs = [v] ∧ FlatS w k s v := by
  rcases DataW.trod_slice ht h with ⟨rfl, _⟩ | ⟨a, len, cap, elems, rest, n, _, rfl, _, _, hl, _, hlen, hel, _, _⟩
  · exact ⟨_, rfl, .inl rfl⟩
  · refine ⟨_, rfl, .inr ⟨a, len, cap, rfl, hl, fun i hi => ?_⟩⟩
    have hk : i / s < len := Nat.div_lt_of_lt_mul (by rw [Nat.mul_comm]; exact hi)
    have he := hel (i / s) hk
    rw [List.getElem?_eq_getElem (by omega), hs] at he
    simp only [Option.bind_eq_some_iff] at he
    obtain ⟨l, hl1, hl2⟩ := he
    obtain ⟨_, h3, h4⟩ := World.cells?_some hl1
    obtain ⟨_, h5⟩ := hf _ _ _ _ _ _ _ _ hl2
    have hm : i % s < s := Nat.mod_lt _ h0
    have h6 := h4 (i % s) hm
    rw [Addr.add_add, Nat.mul_comm, Nat.div_add_mod, List.getElem?_eq_getElem (by omega)] at h6
    obtain ⟨z, hz, hw⟩ := h5 _ (List.getElem_mem (by omega : i % s < l.length))
    rw [hz] at h6
    have : numAt w a i = z := by unfold numAt; rw [h6]
    rw [this]
    exact ⟨h6, hw⟩
theorem flat_struct2 {k : IntKind} {t : TypeId} {f0 f1 : Field} {s0 s1 : Nat} (ht : P.underlying t = some (.struct #[f0, f1])) (hc : P.cellsOf t = s0 + s1) (o0 : f0.offset = 0) (o1 : f1.offset = s0)
    (c0 : P.cellsOf f0.type = s0) (c1 : P.cellsOf f1.type = s1) (h0 : FlatT P k f0.type s0) (h1 : FlatT P k f1.type s1) : FlatT P k t (s0 + s1) := by
  intro H enc w base sp held fuel cs x h
  obtain ⟨y0, y1, n, _, hl, e0, e1⟩ := ChangeShapes.trod_struct2 ht h
  rw [hc] at hl
  obtain ⟨_, k0⟩ := h0 _ _ _ _ _ _ _ _ e0
  obtain ⟨_, k1⟩ := h1 _ _ _ _ _ _ _ _ e1
  rw [o0, c0, List.drop_zero] at k0
  rw [o1, c1, List.take_of_length_le (by rw [List.length_drop]; omega)] at k1
  refine ⟨hl, fun v hv => ?_⟩
  rw [← List.take_append_drop s0 cs] at hv
  rcases List.mem_append.1 hv with hv | hv
  · exact k0 v hv
  · exact k1 v hv
structure Step (w : World) (φ : Emb) (h : AHeap) (φ' : Emb) (h' : AHeap) (n : Nat) : Prop where
  ld : Loaded w φ' h'
  sub : Sub All h h'
  up : h.next ≤ h'.next
  next : h'.next ≤ h.next + n
  floor : h'.floor = h.floor
  agree : Agree h.next φ φ'
theorem Step.refl {w : World} {φ : Emb} {h : AHeap} (L : Loaded w φ h) : Step w φ h φ h 0 := ⟨L, Sub.refl, Nat.le_refl _, Nat.le_refl _, rfl, Agree.refl _ _⟩
theorem Step.trans {w : World} {φ φ' φ'' : Emb} {h h' h'' : AHeap} {n m : Nat} (a : Step w φ h φ' h' n) (b : Step w φ' h' φ'' h'' m) : Step w φ h φ'' h'' (n + m) :=
  ⟨b.ld, a.sub.trans b.sub, Nat.le_trans a.up b.up, by have := a.next; have := b.next; omega, by rw [b.floor, a.floor], a.agree.trans b.agree a.up⟩
structure Stands (φ : Emb) (h : AHeap) (u v : Value) : Prop where
  map : mapV φ u = v
  ok : okV φ h.next u
  one : oneCell u = true
theorem Stands.step {w : World} {φ φ' : Emb} {h h' : AHeap} {n : Nat} {u v : Value} (hs : Stands φ h u v) (hst : Step w φ h φ' h' n) : Stands φ' h' u v :=
  ⟨by rw [(mapV_agree hst.agree hst.up u hs.ok).1]; exact hs.map, (mapV_agree hst.agree hst.up u hs.ok).2, hs.one⟩
def vlen : Value → Nat
  | .slice _ n _ => n
  | _ => 0
theorem Loaded.flat {w : World} {φ : Emb} {h : AHeap} (L : Loaded w φ h) (hn : h.next < far) {k : IntKind} {s : Nat} {v : Value} (hs : 0 < s) (hf : FlatS w k s v) :
    ∃ φ' h' u, Step w φ h φ' h' 1 ∧ Stands φ' h' u v ∧ ∃ c : Nat → Nat → Int, Cells h' u s (vlen v) fun i j => .int k (c i j) := by
  rcases hf with rfl | ⟨a, len, cap, rfl, hl, hc⟩
  · exact ⟨φ, h, .slice none 0 0, ⟨L, Sub.refl, Nat.le_refl _, by omega, rfl, Agree.refl _ _⟩, ⟨by simp [mapV], by simp [okV], rfl⟩, fun _ _ => 0, none, 0, rfl, fun x e => (by cases e), .inl rfl⟩
  · have hlt : ∀ i j, i < len → j < s → i * s + j < len * s := fun i j hi hj => by
      have : (i + 1) * s ≤ len * s := Nat.mul_le_mul_right s hi
      rw [Nat.add_mul] at this
      omega
    obtain ⟨φ', h', u, q1, q2, q3, q4, q5, q6, q7, q8, q9⟩ := L.slice hn (a := a) hl hs ((List.range (len * s)).map fun i => .int k (numAt w a i)) (by simp) (fun i v hv => by
      rw [List.getElem?_map] at hv
      by_cases hi : i < len * s
      · rw [List.getElem?_range hi] at hv
        cases hv
        exact ⟨by simp [okV], rfl, by simpa [mapV] using (hc i hi).1⟩
      · rw [List.getElem?_eq_none (by simp; omega)] at hv
        cases hv) (c := fun i j => .int k (numAt w a (i * s + j))) (fun i j hi hj => by rw [List.getElem?_map, List.getElem?_range (hlt i j hi hj)]; rfl)
    exact ⟨φ', h', u, ⟨q1, q2, by omega, by omega, q4, q5⟩, ⟨q6, q7, q8⟩, _, q9⟩
def dgW (X : Cx) (S : Nat → Prop) (h0 : AHeap) (v : Value) (want : Bool) (k : Kd) (d : Option Nat) (op : SOp) (L : List DI) (Q : WPost) (f : Fr) (h : AHeap) (m : List Nat) : Prop :=
  (isB want v = true ∧ dW X S h0 (⟨k, ⟨d, none, op⟩⟩ :: L) Q f h m) ∨ (isB want v = false ∧ dW X S h0 L Q (putF f d undef) h m)
section
variable {X : Cx} {S : Nat → Prop} {h0 h : AHeap} {k : Kd} {d : Option Nat} {g : Nat} {want : Bool} {op : SOp} {L : List DI} {Q : WPost} {f : Fr} {m : List Nat}
theorem d_guard : dW X S h0 (⟨k, ⟨d, some (g, want), op⟩⟩ :: L) Q f h m = dgW X S h0 (f g) want k d op L Q f h m := by
  simp [dW, Wd, guardOk, dgW]
theorem dg_tt : dgW X S h0 (.bool true) true k d op L Q f h m = dW X S h0 (⟨k, ⟨d, none, op⟩⟩ :: L) Q f h m := by simp [dgW, isB]
theorem dg_tf : dgW X S h0 (.bool true) false k d op L Q f h m = dW X S h0 L Q (putF f d undef) h m := by simp [dgW, isB]
theorem dg_ft : dgW X S h0 (.bool false) true k d op L Q f h m = dW X S h0 L Q (putF f d undef) h m := by simp [dgW, isB]
theorem dg_ff : dgW X S h0 (.bool false) false k d op L Q f h m = dW X S h0 (⟨k, ⟨d, none, op⟩⟩ :: L) Q f h m := by simp [dgW, isB]
end
end Go.Vm

namespace Go.Vm
variable {P : Program} {N : Nat} {f : Fr} {h : AHeap} {ty t u e : TypeId} {x y : Operand}
theorem pr_eqTwo {d : Nat} {f0 f1 : Field} {a0 a1 b0 b1 : Int} (ht : P.underlying t = some (.struct #[f0, f1])) (hp : P.stoodInHeld t = false) (n0 : f0.name ≠ "_") (n1 : f1.name ≠ "_") (o0 : f0.offset = 0) (o1 : f1.offset = 1)
    (e0 : P.underlying f0.type = some (.int .i64)) (e1 : P.underlying f1.type = some (.int .i64)) :
    pureRun P (Op.equalIn (d + 2) t (.agg ⟨[.int .i64 a0, .int .i64 a1]⟩) (.agg ⟨[.int .i64 b0, .int .i64 b1]⟩)) = some (decide (a0 = b0 ∧ a1 = b1)) := by
  have x0 : ∀ (p q : Int), pureRun P (part f0.type ⟨[.int .i64 p, .int .i64 q]⟩ f0.offset) = some (.int .i64 p) := fun p q => pr_part e0 (by rw [o0]; rfl)
  have x1 : ∀ (p q : Int), pureRun P (part f1.type ⟨[.int .i64 p, .int .i64 q]⟩ f1.offset) = some (.int .i64 q) := fun p q => pr_part e1 (by rw [o1]; rfl)
  rw [Op.equalIn]
  simp only [pureRun_bind, pr_under ht, Option.bind_some, pr_program, hp, Bool.false_eq_true, if_false]
  rw [← Array.forIn_toList]
  simp only [List.forIn_cons, List.forIn_nil, pureRun_bind, n0, n1, ne_eq, not_false_eq_true, if_true, x0, pr_eqInt e0, Option.bind_some]
  by_cases c0 : a0 = b0 <;> by_cases c1 : a1 = b1 <;> simp [c0, c1, pr_pure, pureRun_bind, x1, pr_eqInt e1]
end Go.Vm

namespace Go.Vm
variable {P : Program} {N : Nat} {f : Fr} {h : AHeap} {ty t u e : TypeId} {x y : Operand}
def keyV (p : Int × Int) : Value := .agg ⟨[.int .i64 p.1, .int .i64 p.2]⟩
def entE (x : (Int × Int) × Int × Nat) : MapEntry := ⟨keyV x.1, .int .i64 x.2.1, x.2.2⟩
structure Two (P : Program) (t : TypeId) : Prop where
  ex : ∃ f0 f1 : Field, P.underlying t = some (.struct #[f0, f1]) ∧ f0.name ≠ "_" ∧ f1.name ≠ "_" ∧ f0.offset = 0 ∧ f1.offset = 1 ∧ P.underlying f0.type = some (.int .i64) ∧ P.underlying f1.type = some (.int .i64)
  held : P.stoodInHeld t = false
theorem pr_checkInt {d : Nat} {b : Bool} {a : Int} (he : P.underlying e = some (.int .i64)) : pureRun P (Instr.checkKey b (d + 1) e (.int .i64 a)) = some () := by
  simp [Instr.checkKey, pureRun_bind, pr_under he, pr_pure]
theorem pr_checkTwo {d : Nat} {b : Bool} {p : Int × Int} (ht : Two P t) : pureRun P (Instr.checkKey b (d + 2) t (keyV p)) = some () := by
  obtain ⟨⟨f0, f1, h0, n0, n1, o0, o1, e0, e1⟩, _⟩ := ht
  have x0 : pureRun P (part f0.type ⟨[.int .i64 p.1, .int .i64 p.2]⟩ f0.offset) = some (.int .i64 p.1) := pr_part e0 (by rw [o0]; rfl)
  have x1 : pureRun P (part f1.type ⟨[.int .i64 p.1, .int .i64 p.2]⟩ f1.offset) = some (.int .i64 p.2) := pr_part e1 (by rw [o1]; rfl)
  unfold keyV
  rw [Instr.checkKey]
  simp only [pureRun_bind, pr_under h0, Option.bind_some]
  rw [← Array.forIn_toList]
  simp only [List.forIn_cons, List.forIn_nil, pureRun_bind, n0, n1, ne_eq, not_false_eq_true, if_true, x0, x1, pr_checkInt e0, pr_checkInt e1, Option.bind_some, pr_pure]
structure MapR (h : AHeap) (r : Nat) (l : List ((Int × Int) × Int × Nat)) (c : Nat) : Prop where
  get : h.get r = some (.map ⟨l.map entE⟩ c)
end Go.Vm
