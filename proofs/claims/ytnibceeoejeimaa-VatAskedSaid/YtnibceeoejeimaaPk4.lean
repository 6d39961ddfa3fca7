/- Texts of the proofs of this seat, put together: VmLift, VatRef, VatRef2, VatRef3, VatRef4, VatRef5, VatConv, VatYard, VatV1. -/
import Derived.Test.YtnibceeoejeimaaPk3
import Derived.ChangeArms
import Derived.ReadAgain
import Derived.ChangeOld
import Derived.ChangeSame
import Derived.Test.YtnibceeoejeimaaProg

namespace Go.Vm
open Go
variable {P : Program}
/-! ### From what a statement hands in to the first heap of a run, and back -/
/-- what was handed in lies in the heap; nothing of it is written -/
structure Loaded (w : World) (φ : Emb) (h : AHeap) : Prop where
  rel : HRel φ h w
  ro : ∀ i o, h.get i = some o → o.writable = false
theorem empty_get (i : Nat) : AHeap.empty.get i = none := by rw [AHeap.get_def, if_neg]; simp [AHeap.empty]
theorem Loaded.empty (φ : Emb) (w : World) : Loaded w φ AHeap.empty := ⟨empty_rel φ w, fun i o h => absurd (h.symm.trans (empty_get i)) (by simp)⟩
theorem Addr.add_zero (a : Addr) : a.add 0 = a := by simp [Addr.add]
/-- a heap with one block more: a row that is not written, or nothing -/
structure More (h h1 : AHeap) (o : Option AObj) : Prop where
  get : h1.get h.next = o
  old : ∀ i, i < h.next → h1.get i = h.get i
  next : h1.next = h.next + 1
  floor : h1.floor = h.floor
theorem More.sub {h h1 : AHeap} {o : Option AObj} (hm : More h h1 o) : Sub All h h1 := fun i cs w gr _ hg => by rw [hm.old i (AHeap.lt_of_get hg)]; exact hg
theorem more_more {h : AHeap} (hf : h.next < far) (o : Option AObj) : More h (h.more o) o :=
  ⟨by rw [AHeap.get_more hf, if_pos rfl], fun i hi => by rw [AHeap.get_more hf, if_neg (by omega)], rfl, rfl⟩
theorem Loaded.more {w : World} {φ : Emb} {h : AHeap} (L : Loaded w φ h) (hn : h.next < far) (a : Addr) (c : Nat) (o : Option AObj) (ho : ∀ x, o = some x → ORel (φ.put h.next a c) (h.next + 1) w h.next x ∧ x.writable = false) :
    Loaded w (φ.put h.next a c) (h.more o) := by
  have hm := more_more hn o
  have hcase : ∀ i x, (h.more o).get i = some x → (i = h.next ∧ o = some x) ∨ (i < h.next ∧ h.get i = some x) := by
    intro i x hx
    have := AHeap.lt_of_get hx
    rw [hm.next] at this
    by_cases e : i = h.next
    · subst e; exact .inl ⟨rfl, by rw [← hm.get]; exact hx⟩
    · have hi : i < h.next := by omega
      exact .inr ⟨hi, by rw [← hm.old i hi]; exact hx⟩
  have hro : ∀ i x, (h.more o).get i = some x → x.writable = false := by
    intro i x hx
    rcases hcase i x hx with ⟨rfl, e⟩ | ⟨_, e⟩
    · exact (ho x e).2
    · exact L.ro i x e
  refine ⟨⟨?_, ?_, by rw [hm.next]; omega, ?_⟩, hro⟩
  · intro i x hx
    rw [hm.next]
    rcases hcase i x hx with ⟨rfl, e⟩ | ⟨hi, e⟩
    · exact (ho x e).1
    · exact (L.rel.live i x e).agree (φ.put_agree h.next a c) (by omega) hi
  · intro i j x y hx hy _ hw
    rw [hro i x hx] at hw
    cases hw
  · exact fresh_more L.rel.fresh hn o
/-- the cells of a slice that was handed in -/
theorem Loaded.slice {w : World} {φ : Emb} {h : AHeap} (L : Loaded w φ h) (hn : h.next < far) {s len cap : Nat} {a : Addr} (hlc : len ≤ cap) (hs : 0 < s) (cs : List Value) (hcl : cs.length = len * s)
    (hc : ∀ k v, cs[k]? = some v → okV φ h.next v ∧ oneCell v = true ∧ w.cell? (a.add k) = some (mapV φ v)) {c : Nat → Nat → Value} (hcc : ∀ k j, k < len → j < s → cs[k * s + j]? = some (c k j)) :
    ∃ φ' h' u, Loaded w φ' h' ∧ Sub All h h' ∧ h'.next = h.next + 1 ∧ h'.floor = h.floor ∧ Agree h.next φ φ' ∧ mapV φ' u = .slice (some a) len cap ∧ okV φ' h'.next u ∧ oneCell u = true ∧ Cells h' u s len c := by
  have hag := φ.put_agree h.next a cap
  have hu1 : mapV (φ.put h.next a cap) (.slice (some ⟨h.next, 0, none⟩) len unk) = .slice (some a) len cap := by
    simp [mapV, mapA, mapC, Emb.put, Addr.add_zero, unk]
  have hu2 : ∀ n, h.next < n → okV (φ.put h.next a cap) n (.slice (some ⟨h.next, 0, none⟩) len unk) := fun n h1 => by
    simp only [okV, mapC, Emb.put]
    refine ⟨h1, trivial, ?_⟩
    simp [unk]
    exact hlc
  by_cases hl : len = 0
  · subst hl
    have L' := L.more hn a cap none fun x e => by cases e
    have hm := more_more hn none
    exact ⟨_, _, _, L', hm.sub, hm.next, hm.floor, hag, hu1, hu2 _ (by rw [hm.next]; omega), rfl, _, _, rfl, fun x e => by cases e; rfl, .inl rfl⟩
  · have hm := more_more hn (some (.row cs false 0))
    have h0 : ∃ v, cs[0]? = some v := by
      have : 0 < cs.length := by rw [hcl]; exact Nat.mul_pos (by omega) hs
      exact ⟨cs[0], List.getElem?_eq_getElem this⟩
    obtain ⟨v0, hv0⟩ := h0
    have hcell := (hc 0 v0 hv0).2.2
    have hblk : ∃ c e fz, w.heap[a.block]? = some (.cells c e fz) := by
      rw [Addr.add_zero] at hcell
      unfold World.cell? at hcell
      split at hcell
      · rename_i c e fz hh; exact ⟨c, e, fz, hh⟩
      · cases hcell
    have L' := L.more hn a cap (some (.row cs false 0)) fun x e => by
      cases e
      refine ⟨?_, rfl⟩
      obtain ⟨c, e, fz, hh⟩ := hblk
      refine ⟨c, e, fz, by simpa [Emb.put] using hh, fun k v hk => ?_, fun h => by cases h⟩
      obtain ⟨k1, k2, k3⟩ := hc k v hk
      refine ⟨(mapV_agree hag (by omega) v k1).2, k2, ?_⟩
      have e1 : (φ.put h.next a cap).at_ h.next = a := by simp [Emb.put]
      rw [e1, k3, (mapV_agree hag (Nat.le_succ _) v k1).1]
    exact ⟨_, _, _, L', hm.sub, hm.next, hm.floor, hag, hu1, hu2 _ (by rw [hm.next]; omega), rfl, _, _, rfl, fun x e => by cases e; rfl,
      .inr ⟨h.next, 0, cs, false, 0, rfl, hm.get, fun k j hk hj => by rw [Nat.zero_add]; exact hcc k j hk hj⟩⟩
/-! ### A law's run -/
theorem law_calls {cf : CallF} (hcf : SoundCF P cf) {f : FuncId} {us : List Value} {h h' : AHeap} {φ : Emb} {w : World} {args : Array Value} {v : Value} (hr : cf (.func (.func f) #[] #[]) us h = some (v, h')) (hv : v = .bool true) (L : Loaded w φ h)
    (hus : ∀ u ∈ us, okV φ h.next u) (hargs : us.map (mapV φ) = args.toList) :
    Calls P f args w fun e w' => e = .returned (.bool true) ∧ w.keptBut w' (fun _ => False) ∧ ∀ b, b < w.heap.size → w'.heap[b]? = w.heap[b]? := by
  subst hv
  obtain ⟨_, hc⟩ := hcf _ _ _ _ _ hr φ w L.rel (by simp [okV, okFn, okA, okL]) hus
  have e : ((#[] : Array Value).toList ++ (us ++ (#[] : Array Value).toList)).map (mapV φ) = args.toList := by simpa using hargs
  rw [e] at hc
  refine callsIn_wide.1 (CallsIn.mono hc fun e w' he => ?_)
  obtain ⟨φ', rfl, _, X, _⟩ := he
  have hno : ∀ b, ¬ Wr φ h b := by
    rintro b ⟨i, o, hi, _, hw, _⟩
    rw [L.ro i o hi] at hw
    cases hw
  have hfr : ∀ b, b < w.heap.size → w'.heap[b]? = w.heap[b]? := fun b hb => X.frame b hb (hno b)
  refine ⟨by simp [mapV], ⟨X.same.1, X.same.2, fun i hi => ?_⟩, hfr⟩
  rw [hfr i hi]
  cases w.heap[i]? with
  | none => rfl
  | some o => cases o <;> simp
/-- what was handed in reads as it did -/
theorem trodAll_stays {H : Type} {enc : TypeId × Value → H} {w w' : World} {T : TypeId → Prop} (K : Kids P T) (hz : ∀ {t e : TypeId}, T t → P.underlying t = some (.slice e) → 0 < P.cellsOf e) (hfr : ∀ b, b < w.heap.size → w'.heap[b]? = w.heap[b]?) :
    ∀ {ts : List TypeId} {vs : List Value} {ds : List (DataW H)} {ps : List MemPlace}, (∀ t ∈ ts, T t) → DataW.TrodAll enc P w 0 (fun _ => true) true ts vs ds ps → DataW.TrodAll enc P w' 0 (fun b => decide (b < w.heap.size)) true ts vs ds ps
  | [], [], [], _, _, h => h
  | t :: ts, v :: vs, d :: ds, ps, hT, h => by
    have hlt := DataW.TrodAll.lt h
    obtain ⟨p, q, ⟨n, hn⟩, h2, rfl⟩ := h
    refine ⟨p, q, ⟨n, ?_⟩, trodAll_stays K hz hfr (fun t ht => hT t (List.mem_cons.2 (.inr ht))) h2, rfl⟩
    refine DataW.trod_stays K hz (fun h => by cases h) (hT t (List.mem_cons.2 (.inl rfl))) hn ?_ ?_
    · intro x hx
      have := hlt x (List.mem_append_left _ hx)
      cases x with
      | cell b off =>
        show w'.cell? _ = w.cell? _
        unfold World.cell?
        simp only
        rw [hfr b this]
      | map b => exact hfr b this
    · intro x hx
      simpa using hlt x (List.mem_append_left _ hx)
/-! ### Elements that are integers alone -/
/-- the integer in a cell -/
def numAt (w : World) (a : Addr) (i : Nat) : Int :=
  match w.cell? (a.add i) with
  | some (.int _ n) => n
  | _ => 0
/-- each value of the type is s integers of a kind -/
def FlatT (P : Program) (k : IntKind) (e : TypeId) (s : Nat) : Prop :=
  ∀ {H : Type} (enc : TypeId × Value → H) (w : World) (base : Nat) (sp : Nat → Bool) (held : Bool) (fuel : Nat) (cs : List Value) (x : DataW H × List MemPlace), DataW.trod enc P w base sp held fuel e cs = some x →
    cs.length = s ∧ ∀ v ∈ cs, ∃ n, v = .int k n ∧ (Lit.int k n).wf = true
theorem flat_int {k : IntKind} {e : TypeId} (he : P.underlying e = some (.int k)) : FlatT P k e 1 := by
  intro H enc w base sp held fuel cs x h
  obtain ⟨n, rfl, _, hw⟩ := DataW.trod_int he h
  exact ⟨rfl, fun v hv => by simp only [List.mem_singleton] at hv; exact ⟨n, hv, hw⟩⟩
theorem Addr.add_add (a : Addr) (i j : Nat) : (a.add i).add j = a.add (i + j) := by
  unfold Addr.add
  by_cases hi : i = 0
  · subst hi; simp
  · by_cases hj : j = 0
    · subst hj; simp
    · rw [if_neg hi, if_neg hj, if_neg (by omega)]
      simp [Nat.add_assoc]
/-- a slice of such elements -/
def FlatS (w : World) (k : IntKind) (s : Nat) (v : Value) : Prop :=
  v = .slice none 0 0 ∨ ∃ a len cap, v = .slice (some a) len cap ∧ len ≤ cap ∧ ∀ i, i < len * s → w.cell? (a.add i) = some (.int k (numAt w a i)) ∧ (Lit.int k (numAt w a i)).wf = true
theorem flat_slice {k : IntKind} {t e : TypeId} {s : Nat} {H : Type} {enc : TypeId × Value → H} {w : World} {base : Nat} {sp : Nat → Bool} {held : Bool} {fuel : Nat} {cs : List Value} {x : DataW H × List MemPlace}
    (ht : P.underlying t = some (.slice e)) (hs : P.cellsOf e = s) (h0 : 0 < s) (hf : FlatT P k e s) (h : DataW.trod enc P w base sp held fuel t cs = some x) : ∃ v, cs = [v] ∧ FlatS w k s v := by
  rcases DataW.trod_slice ht h with ⟨rfl, _⟩ | ⟨a, len, cap, elems, rest, n, _, rfl, _, _, hl, _, hlen, hel, _, _⟩
  · exact ⟨_, rfl, .inl rfl⟩
  · refine ⟨_, rfl, .inr ⟨a, len, cap, rfl, hl, fun i hi => ?_⟩⟩
    have hk : i / s < len := Nat.div_lt_of_lt_mul (by rw [Nat.mul_comm]; exact hi)
    have he := hel (i / s) hk
    rw [List.getElem?_eq_getElem (by omega), hs] at he
    simp only [Option.bind_eq_some_iff] at he
    obtain ⟨l, hl1, hl2⟩ := he
    obtain ⟨_, h3, h4⟩ := World.cells?_some hl1
    obtain ⟨_, h5⟩ := hf _ _ _ _ _ _ _ _ hl2
    have hm : i % s < s := Nat.mod_lt _ h0
    have h6 := h4 (i % s) hm
    rw [Addr.add_add, Nat.mul_comm, Nat.div_add_mod, List.getElem?_eq_getElem (by omega)] at h6
    obtain ⟨z, hz, hw⟩ := h5 _ (List.getElem_mem (by omega : i % s < l.length))
    rw [hz] at h6
    have : numAt w a i = z := by unfold numAt; rw [h6]
    rw [this]
    exact ⟨h6, hw⟩
theorem flat_struct2 {k : IntKind} {t : TypeId} {f0 f1 : Field} {s0 s1 : Nat} (ht : P.underlying t = some (.struct #[f0, f1])) (hc : P.cellsOf t = s0 + s1) (o0 : f0.offset = 0) (o1 : f1.offset = s0)
    (c0 : P.cellsOf f0.type = s0) (c1 : P.cellsOf f1.type = s1) (h0 : FlatT P k f0.type s0) (h1 : FlatT P k f1.type s1) : FlatT P k t (s0 + s1) := by
  intro H enc w base sp held fuel cs x h
  obtain ⟨y0, y1, n, _, hl, e0, e1⟩ := ChangeShapes.trod_struct2 ht h
  rw [hc] at hl
  obtain ⟨_, k0⟩ := h0 _ _ _ _ _ _ _ _ e0
  obtain ⟨_, k1⟩ := h1 _ _ _ _ _ _ _ _ e1
  rw [o0, c0, List.drop_zero] at k0
  rw [o1, c1, List.take_of_length_le (by rw [List.length_drop]; omega)] at k1
  refine ⟨hl, fun v hv => ?_⟩
  rw [← List.take_append_drop s0 cs] at hv
  rcases List.mem_append.1 hv with hv | hv
  · exact k0 v hv
  · exact k1 v hv
/-- loaded further -/
structure Step (w : World) (φ : Emb) (h : AHeap) (φ' : Emb) (h' : AHeap) (n : Nat) : Prop where
  ld : Loaded w φ' h'
  sub : Sub All h h'
  up : h.next ≤ h'.next
  next : h'.next ≤ h.next + n
  floor : h'.floor = h.floor
  agree : Agree h.next φ φ'
theorem Step.refl {w : World} {φ : Emb} {h : AHeap} (L : Loaded w φ h) : Step w φ h φ h 0 := ⟨L, Sub.refl, Nat.le_refl _, Nat.le_refl _, rfl, Agree.refl _ _⟩
theorem Step.trans {w : World} {φ φ' φ'' : Emb} {h h' h'' : AHeap} {n m : Nat} (a : Step w φ h φ' h' n) (b : Step w φ' h' φ'' h'' m) : Step w φ h φ'' h'' (n + m) :=
  ⟨b.ld, a.sub.trans b.sub, Nat.le_trans a.up b.up, by have := a.next; have := b.next; omega, by rw [b.floor, a.floor], a.agree.trans b.agree a.up⟩
/-- a value in the heap stands for one of the world -/
structure Stands (φ : Emb) (h : AHeap) (u v : Value) : Prop where
  map : mapV φ u = v
  ok : okV φ h.next u
  one : oneCell u = true
theorem Stands.step {w : World} {φ φ' : Emb} {h h' : AHeap} {n : Nat} {u v : Value} (hs : Stands φ h u v) (hst : Step w φ h φ' h' n) : Stands φ' h' u v :=
  ⟨by rw [(mapV_agree hst.agree hst.up u hs.ok).1]; exact hs.map, (mapV_agree hst.agree hst.up u hs.ok).2, hs.one⟩
def vlen : Value → Nat
  | .slice _ n _ => n
  | _ => 0
theorem Loaded.flat {w : World} {φ : Emb} {h : AHeap} (L : Loaded w φ h) (hn : h.next < far) {k : IntKind} {s : Nat} {v : Value} (hs : 0 < s) (hf : FlatS w k s v) :
    ∃ φ' h' u, Step w φ h φ' h' 1 ∧ Stands φ' h' u v ∧ ∃ c : Nat → Nat → Int, Cells h' u s (vlen v) fun i j => .int k (c i j) := by
  rcases hf with rfl | ⟨a, len, cap, rfl, hl, hc⟩
  · exact ⟨φ, h, .slice none 0 0, ⟨L, Sub.refl, Nat.le_refl _, by omega, rfl, Agree.refl _ _⟩, ⟨by simp [mapV], by simp [okV], rfl⟩, fun _ _ => 0, none, 0, rfl, fun x e => (by cases e), .inl rfl⟩
  · have hlt : ∀ i j, i < len → j < s → i * s + j < len * s := fun i j hi hj => by
      have : (i + 1) * s ≤ len * s := Nat.mul_le_mul_right s hi
      rw [Nat.add_mul] at this
      omega
    obtain ⟨φ', h', u, q1, q2, q3, q4, q5, q6, q7, q8, q9⟩ := L.slice hn (a := a) hl hs ((List.range (len * s)).map fun i => .int k (numAt w a i)) (by simp) (fun i v hv => by
      rw [List.getElem?_map] at hv
      by_cases hi : i < len * s
      · rw [List.getElem?_range hi] at hv
        cases hv
        exact ⟨by simp [okV], rfl, by simpa [mapV] using (hc i hi).1⟩
      · rw [List.getElem?_eq_none (by simp; omega)] at hv
        cases hv) (c := fun i j => .int k (numAt w a (i * s + j))) (fun i j hi hj => by rw [List.getElem?_map, List.getElem?_range (hlt i j hi hj)]; rfl)
    exact ⟨φ', h', u, ⟨q1, q2, by omega, by omega, q4, q5⟩, ⟨q6, q7, q8⟩, _, q9⟩
/-- a slice of which nothing is asked but how long it is -/
theorem Loaded.gap {w : World} {φ : Emb} {h : AHeap} (L : Loaded w φ h) (hn : h.next < far) {v : Value} (hv : v = .slice none 0 0 ∨ ∃ a len cap, v = .slice (some a) len cap ∧ len ≤ cap) :
    ∃ φ' h' u, Step w φ h φ' h' 1 ∧ Stands φ' h' u v ∧ ∃ a c, u = .slice a (vlen v) c := by
  rcases hv with rfl | ⟨a, len, cap, rfl, hl⟩
  · exact ⟨φ, h, .slice none 0 0, ⟨L, Sub.refl, Nat.le_refl _, by omega, rfl, Agree.refl _ _⟩, ⟨by simp [mapV], by simp [okV], rfl⟩, _, _, rfl⟩
  · have hag := φ.put_agree h.next a cap
    have L' := L.more hn a cap none fun x e => by cases e
    have hm := more_more hn none
    refine ⟨_, _, .slice (some ⟨h.next, 0, none⟩) len unk, ⟨L', hm.sub, by rw [hm.next]; omega, by rw [hm.next]; omega, hm.floor, hag⟩, ⟨?_, ?_, rfl⟩, _, _, rfl⟩
    · simp [mapV, mapA, mapC, Emb.put, Addr.add_zero, unk]
    · simp only [okV, mapC, Emb.put]
      refine ⟨by rw [hm.next]; omega, trivial, ?_⟩
      simp [unk]
      exact hl
theorem Loaded.many {w : World} {k : IntKind} {s : Nat} (hs : 0 < s) : ∀ (vs : List Value) {φ : Emb} {h : AHeap}, Loaded w φ h → h.next + vs.length < far → (∀ v ∈ vs, FlatS w k s v) →
    ∃ (φ' : Emb) (h' : AHeap) (us : List Value), Step w φ h φ' h' vs.length ∧ us.length = vs.length ∧ ∀ (i : Nat) (u v : Value), us[i]? = some u → vs[i]? = some v → Stands φ' h' u v ∧ ∃ c : Nat → Nat → Int, Cells h' u s (vlen v) fun i j => .int k (c i j)
  | [], φ, h, L, _, _ => ⟨φ, h, [], Step.refl L, rfl, fun i u v hu => by simp at hu⟩
  | v :: vs, φ, h, L, hn, hv => by
    simp only [List.length_cons] at hn
    obtain ⟨φ1, h1, u, s1, t1, c1, r1⟩ := L.flat (by omega) hs (hv v (by simp))
    have := s1.next
    obtain ⟨φ2, h2, us, s2, l2, r2⟩ := Loaded.many hs vs s1.ld (by omega) fun x hx => hv x (by simp [hx])
    refine ⟨φ2, h2, u :: us, ?_, by simp [l2], ?_⟩
    · have := s1.trans s2
      rw [List.length_cons, Nat.add_comm]; exact this
    · intro i u' v' hu' hv'
      cases i with
      | zero =>
        simp only [List.getElem?_cons_zero, Option.some.injEq] at hu' hv'
        subst hu' hv'
        exact ⟨t1.step s2, c1, r1.mono s2.sub⟩
      | succ i =>
        simp only [List.getElem?_cons_succ] at hu' hv'
        exact r2 i u' v' hu' hv'
section
variable {X : Cx} {S : Nat → Prop} {h0 h : AHeap} {k : Kd} {d : Option Nat} {g : Nat} {want : Bool} {op : SOp} {L : List DI} {Q : WPost} {f : Fr} {m : List Nat}
end
end Go.Vm

namespace Go.Vm
/-! the rules of a run, in bundles -/
theorem rn0 : type_of% @W_skip ∧ type_of% @W_ret ∧ type_of% @W_exit ∧ type_of% @W_seq ∧ type_of% @W_block ∧ type_of% @then_norm' ∧ type_of% @then_exit' ∧ type_of% @then_ret' ∧ type_of% @block_norm' ∧ type_of% @block_ret' ∧ type_of% @block_exit' ∧ type_of% @W_cond := And.intro @W_skip (And.intro @W_ret (And.intro @W_exit (And.intro @W_seq (And.intro @W_block (And.intro @then_norm' (And.intro @then_exit' (And.intro @then_ret' (And.intro @block_norm' (And.intro @block_ret' (And.intro @block_exit' (@W_cond)))))))))))
theorem rn1 : type_of% @cond_true' ∧ type_of% @cond_false' ∧ type_of% @W_ops ∧ type_of% @ops_nil ∧ type_of% @ops_cons ∧ type_of% @ops_guard ∧ type_of% @step_some ∧ type_of% @g_tt ∧ type_of% @g_tf ∧ type_of% @g_ft ∧ type_of% @g_ff ∧ type_of% @put_some := And.intro @cond_true' (And.intro @cond_false' (And.intro @W_ops (And.intro @ops_nil (And.intro @ops_cons (And.intro @ops_guard (And.intro @step_some (And.intro @g_tt (And.intro @g_tf (And.intro @g_ft (And.intro @g_ff (@put_some)))))))))))
theorem rn2 : type_of% @put_none ∧ type_of% @upd_ite ∧ type_of% @val_tmp ∧ type_of% @fr0_zero ∧ type_of% @fr0_succ ∧ type_of% @ret_ret ∧ type_of% @ret_norm ∧ type_of% @res_tmp ∧ type_of% @ex_some ∧ type_of% @val_const ∧ type_of% @val_func ∧ type_of% @vals_nil := And.intro @put_none (And.intro @upd_ite (And.intro @val_tmp (And.intro @fr0_zero (And.intro @fr0_succ (And.intro @ret_ret (And.intro @ret_norm (And.intro @res_tmp (And.intro @ex_some (And.intro @val_const (And.intro @val_func (@vals_nil)))))))))))
theorem rn3 : type_of% @vals_cons ∧ type_of% @d_nil ∧ type_of% @d_free ∧ type_of% @d_rd1 ∧ type_of% @d_rd ∧ type_of% @d_up ∧ type_of% @d_any ∧ type_of% @same_some ∧ type_of% @up_some ∧ type_of% @all_reads ∧ type_of% @Sub.refl ∧ type_of% @x_mov := And.intro @vals_cons (And.intro @d_nil (And.intro @d_free (And.intro @d_rd1 (And.intro @d_rd (And.intro @d_up (And.intro @d_any (And.intro @same_some (And.intro @up_some (And.intro @all_reads (And.intro @Sub.refl (@x_mov)))))))))))
theorem rn4 : type_of% @x_pick ∧ type_of% @pick_t ∧ type_of% @pick_f ∧ type_of% @x_field1 ∧ type_of% @x_fieldN ∧ type_of% @x_extract ∧ type_of% @x_box ∧ type_of% @x_alloc ∧ type_of% @x_load1 ∧ type_of% @x_loadN ∧ type_of% @withH_some' ∧ type_of% @x_store := And.intro @x_pick (And.intro @pick_t (And.intro @pick_f (And.intro @x_field1 (And.intro @x_fieldN (And.intro @x_extract (And.intro @x_box (And.intro @x_alloc (And.intro @x_load1 (And.intro @x_loadN (And.intro @withH_some' (@x_store)))))))))))
theorem rn5 : type_of% @x_mkfunc ∧ type_of% @x_mkslice ∧ type_of% @x_slice ∧ type_of% @x_fieldAddr ∧ type_of% @fieldAt_p ∧ type_of% @x_idxArr ∧ type_of% @x_idxSl ∧ type_of% @x_append ∧ type_of% @x_there ∧ type_of% @x_len ∧ type_of% @len_slice ∧ type_of% @x_not := And.intro @x_mkfunc (And.intro @x_mkslice (And.intro @x_slice (And.intro @x_fieldAddr (And.intro @fieldAt_p (And.intro @x_idxArr (And.intro @x_idxSl (And.intro @x_append (And.intro @x_there (And.intro @x_len (And.intro @len_slice (@x_not)))))))))))
theorem rn6 : type_of% @not_bool ∧ type_of% @x_call ∧ type_of% @x_int2 ∧ type_of% @i_add ∧ type_of% @i_sub ∧ type_of% @i_mul ∧ type_of% @i_eql ∧ type_of% @i_neq ∧ type_of% @i_lss ∧ type_of% @i_leq ∧ type_of% @i_gtr ∧ type_of% @i_geq := And.intro @not_bool (And.intro @x_call (And.intro @x_int2 (And.intro @i_add (And.intro @i_sub (And.intro @i_mul (And.intro @i_eql (And.intro @i_neq (And.intro @i_lss (And.intro @i_leq (And.intro @i_gtr (@i_geq)))))))))))
theorem rn7 : type_of% @x_plain ∧ type_of% @p_min ∧ type_of% @p_max ∧ type_of% @p_rem ∧ type_of% @p_quo ∧ type_of% @r_min ∧ type_of% @r_max ∧ type_of% @p_shl ∧ type_of% @p_or ∧ type_of% @p_and ∧ type_of% @p_andNot ∧ type_of% @eqV_i := And.intro @x_plain (And.intro @p_min (And.intro @p_max (And.intro @p_rem (And.intro @p_quo (And.intro @r_min (And.intro @r_max (And.intro @p_shl (And.intro @p_or (And.intro @p_and (And.intro @p_andNot (@eqV_i)))))))))))
theorem rn8 : type_of% @x_bslice ∧ type_of% @x_build ∧ type_of% @res_cellN ∧ type_of% @res_cell1 ∧ type_of% @valN_tmp ∧ type_of% @valN_const := And.intro @x_bslice (And.intro @x_build (And.intro @res_cellN (And.intro @res_cell1 (And.intro @valN_tmp (@valN_const)))))
end Go.Vm
namespace Go.Vm.Vat
open Go.Proofs
set_option linter.unusedSimpArgs false
set_option linter.unusedVariables false
set_option maxRecDepth 10000
/-! Layer 1: the reference's functions. 'A': those that yield plain values and write nothing of what lay there; 'K': those that are known once and for all. -/
noncomputable def A (f : Nat) : Bool := inL [42, 116, 80, 125, 108, 32, 33, 88, 70, 31, 38, 39, 96, 44, 97, 45, 50, 47, 66, 71, 110, 57, 52, 23, 29, 37, 60, 62, 117, 113, 82, 118, 100, 84, 86, 92, 98, 87, 77, 91, 123, 114, 126, 81, 83, 85, 103, 30, 76, 79, 115, 95, 28, 49, 99, 119, 94, 40, 46, 107, 124, 129, 130, 53, 41, 75, 112, 68] f
def K (f : Nat) : Option Value := if f = 24 then some (.bool true) else none
noncomputable abbrev call (n : Nat) : CallF := pcall Try.prog A K n
variable {n : Nat} {h : AHeap}
/-- ranges; samples -/
def Ranges (h : AHeap) (v : Value) (n : Nat) (lo hi : Nat → Int) : Prop := Cells h v 2 n fun k j => .int .i64 (if j = 0 then lo k else hi k)
def Samps (h : AHeap) (v : Value) (n : Nat) (at_ lo hi : Nat → Int) : Prop := Cells h v 3 n fun k j => .int .i64 (if j = 0 then at_ k else if j = 1 then lo k else hi k)
theorem ranges_ld {v : Value} {n : Nat} {lo hi : Nat → Int} (hr : Ranges h v n lo hi) {k : Nat} (hk : k < n) : loadAgg 2 h (ptrO v 2 k 0) = some (.agg ⟨[.int .i64 (lo k), .int .i64 (hi k)]⟩) := by
  rw [Cells.ldN hr hk (by omega) (by omega)]; simp [List.range_succ]
theorem samps_ld {v : Value} {n : Nat} {at_ lo hi : Nat → Int} (hr : Samps h v n at_ lo hi) {k : Nat} (hk : k < n) : loadAgg 3 h (ptrO v 3 k 0) = some (.agg ⟨[.int .i64 (at_ k), .int .i64 (lo k), .int .i64 (hi k)]⟩) := by
  rw [Cells.ldN hr hk (by omega) (by omega)]; simp [List.range_succ]
/-- a yard, as numbers -/
structure MY where
  nf : Nat
  lo : Nat → Int
  hi : Nat → Int
  nv : Nat
  cnt : Nat → Nat
  q : Nat → Nat → Int
  ns : Nat
  sv : Nat → Int
  slo : Nat → Int
  shi : Nat → Int
/-- a yard lies in memory -/
structure YardR (h : AHeap) (fv vv sv : Value) (Y : MY) : Prop where
  f : Ranges h fv Y.nf Y.lo Y.hi
  v : Rows h vv Y.nv Y.cnt Y.q
  s : Samps h sv Y.ns Y.sv Y.slo Y.shi
theorem YardR.mono {g : AHeap} {fv vv sv : Value} {Y : MY} (hy : YardR h fv vv sv Y) (hs : Sub All h g) : YardR g fv vv sv Y := ⟨Cells.mono hy.f hs, hy.v.mono hs, Cells.mono hy.s hs⟩
theorem YardR.shut {fv vv sv : Value} {Y : MY} (hy : YardR h fv vv sv Y) : YardR h.shutAll fv vv sv Y := hy.mono fun _ _ _ _ _ h => h
theorem Cells.one {v : Value} {s n : Nat} {c : Nat → Nat → Value} (hc : Cells h v s n c) : oneCell v = true := by obtain ⟨a, cap, rfl, _⟩ := hc; rfl
theorem YardR.one {fv vv sv : Value} {Y : MY} (hy : YardR h fv vv sv Y) : allB oneCell [fv, vv, sv] = true := by
  obtain ⟨r, hr, _⟩ := hy.v
  simp [allB, Cells.one hy.f, Cells.one hr, Cells.one hy.s]
theorem YardR.self {fv vv sv : Value} {Y : MY} (hy : YardR h fv vv sv Y) : eqV (.agg ⟨[fv, vv, sv]⟩) (.agg ⟨[fv, vv, sv]⟩) = true := by
  obtain ⟨r, hr, _⟩ := hy.v
  simp [eqV, eqCells, Cells.selfC hy.f, Cells.selfC hr, Cells.selfC hy.s]
def s42 : SCode := (.seq (.ops [⟨(some 6), none, .mov (.const (.bool false))⟩]) (.seq (.ops [⟨(some 7), none, .mov (T 0)⟩, ⟨(some 8), none, .mov (T 1)⟩, ⟨(some 9), none, .int2 .geq (T 7) (T 8)⟩, ⟨(some 10), none, .mov (T 9)⟩, ⟨(some 11), (some (10, true)), .mov (T 0)⟩, ⟨(some 12), (some (10, true)), .mov (T 2)⟩, ⟨(some 13), (some (10, true)), .int2 .leq (T 11) (T 12)⟩, ⟨(some 14), none, .pick (T 10) (T 13) (.const (.bool false))⟩, ⟨(some 6), none, .mov (T 14)⟩]) .ret))
theorem fok42 : FnOk Try.prog 42 15 s42 [.tmp 6] := ⟨Try.f42, _, Try.func42, rfl, Try.ntmps42, by kernel_rfl, by kernel_rfl⟩
theorem in_c (hn : 1 ≤ n) (a lo hi : Int) : call n (.func (.func 42) #[] #[]) [.int .i64 a, .int .i64 lo, .int .i64 hi] h = some (.bool (decide (lo ≤ a ∧ a ≤ hi)), h) := by
  obtain ⟨n, rfl⟩ : ∃ p, n = p + 1 := ⟨n - 1, by omega⟩
  refine call_plain0 fok42 rfl rfl (by simp) rfl ?_
  by_cases h1 : lo ≤ a <;> by_cases h2 : a ≤ hi <;> simp only [rn0, rn1, rn2, rn3, rn4, rn5, rn6, rn7, rn8, if_true, if_false, Nat.le_refl, true_and, and_true, decide_true, decide_false, Bool.not_true, Bool.not_false, reduceIte, Nat.reduceEqDiff, Nat.reduceAdd, Nat.reduceMul, Nat.reduceSub, Nat.reduceLeDiff, Nat.reduceLT, s42, h1, h2, and_self, and_false, false_and]
def s125 : SCode := (.seq (.ops [⟨(some 1), none, .box (T 0)⟩, ⟨(some 2), none, .mov (.const (.int .i64 (0)))⟩]) (.seq (.ops [⟨(some 3), none, .fieldAddr 1 (T 1)⟩, ⟨(some 4), none, .load1 (T 3)⟩, ⟨(some 5), none, .fieldAddr 0 (T 1)⟩, ⟨(some 6), none, .load1 (T 5)⟩, ⟨(some 7), none, .int2 .sub (T 4) (T 6)⟩, ⟨(some 8), none, .int2 .add (T 7) (.const (.int .i64 (1)))⟩, ⟨(some 2), none, .mov (T 8)⟩]) .ret))
theorem fok125 : FnOk Try.prog 125 9 s125 [.tmp 2] := ⟨Try.f125, _, Try.func125, rfl, Try.ntmps125, by kernel_rfl, by kernel_rfl⟩
theorem size_c (hn : 1 ≤ n) (hr : h.next < far) (lo hi : Int) : call n (.func (.func 125) #[] #[]) [.agg ⟨[.int .i64 lo, .int .i64 hi]⟩] h = some (.int .i64 (wrapF .i64 (wrapF .i64 (hi - lo) + 1)), h) := by
  obtain ⟨n, rfl⟩ : ∃ p, n = p + 1 := ⟨n - 1, by omega⟩
  refine call_plain0 fok125 rfl rfl (by simp) rfl ?_
  simp only [s125, W_seq, W_ops]
  refine ops_box (cs := [.int .i64 lo, .int .i64 hi]) (by exact hr) rfl rfl fun h1 hb => ?_
  simp only [rn0, rn1, rn2, rn3, rn4, rn5, rn6, rn7, rn8, if_true, if_false, Nat.le_refl, true_and, and_true, decide_true, decide_false, Bool.not_true, Bool.not_false, reduceIte, Nat.reduceEqDiff, Nat.reduceAdd, Nat.reduceMul, Nat.reduceSub, Nat.reduceLeDiff, Nat.reduceLT, hb.ld, Nat.zero_add, List.getElem?_cons_zero, List.getElem?_cons_succ]
def s116 : SCode := (.seq (.ops [⟨(some 2), none, .box (T 0)⟩, ⟨(some 4), none, .mov (.const (.bool false))⟩]) (.seq (.ops [⟨(some 5), none, .fieldAddr 0 (T 2)⟩, ⟨(some 6), none, .load1 (T 5)⟩, ⟨(some 7), none, .int2 .geq (T 6) (.const (.int .i64 (0)))⟩, ⟨(some 8), none, .mov (T 7)⟩, ⟨(some 9), (some (8, true)), .fieldAddr 0 (T 2)⟩, ⟨(some 10), (some (8, true)), .load1 (T 9)⟩, ⟨(some 11), (some (8, true)), .fieldAddr 1 (T 2)⟩, ⟨(some 12), (some (8, true)), .load1 (T 11)⟩, ⟨(some 13), (some (8, true)), .int2 .leq (T 10) (T 12)⟩, ⟨(some 14), none, .pick (T 8) (T 13) (.const (.bool false))⟩, ⟨(some 15), none, .mov (T 14)⟩, ⟨(some 16), (some (15, true)), .fieldAddr 1 (T 2)⟩, ⟨(some 17), (some (15, true)), .load1 (T 16)⟩, ⟨(some 18), (some (15, true)), .mov (T 1)⟩, ⟨(some 19), (some (15, true)), .int2 .leq (T 17) (T 18)⟩, ⟨(some 20), none, .pick (T 15) (T 19) (.const (.bool false))⟩, ⟨(some 4), none, .mov (T 20)⟩]) .ret))
theorem fok116 : FnOk Try.prog 116 21 s116 [.tmp 4] := ⟨Try.f116, _, Try.func116, rfl, Try.ntmps116, by kernel_rfl, by kernel_rfl⟩
theorem is_c (hn : 1 ≤ n) (hr : h.next < far) (lo hi m : Int) : call n (.func (.func 116) #[] #[]) [.agg ⟨[.int .i64 lo, .int .i64 hi]⟩, .int .i64 m] h = some (.bool (decide (0 ≤ lo ∧ lo ≤ hi ∧ hi ≤ m)), h) := by
  obtain ⟨n, rfl⟩ : ∃ p, n = p + 1 := ⟨n - 1, by omega⟩
  refine call_plain0 fok116 rfl rfl (by simp) rfl ?_
  simp only [s116, W_seq, W_ops]
  refine ops_box (cs := [.int .i64 lo, .int .i64 hi]) (by exact hr) rfl rfl fun h1 hb => ?_
  by_cases c1 : 0 ≤ lo <;> by_cases c2 : lo ≤ hi <;> by_cases c3 : hi ≤ m <;> simp only [rn0, rn1, rn2, rn3, rn4, rn5, rn6, rn7, rn8, if_true, if_false, Nat.le_refl, true_and, and_true, decide_true, decide_false, Bool.not_true, Bool.not_false, reduceIte, Nat.reduceEqDiff, Nat.reduceAdd, Nat.reduceMul, Nat.reduceSub, Nat.reduceLeDiff, Nat.reduceLT, hb.ld, Nat.zero_add, List.getElem?_cons_zero, List.getElem?_cons_succ, c1, c2, c3, and_self, and_false, false_and]
/-- the blue of a vat, from some fields on -/
def blueN (b : Nat → Int) (q : Nat → Int) : Nat → Int
  | 0 => 0
  | i + 1 => blueN b q i + b i * q i
theorem blueN_bound {b q : Nat → Int} {n : Nat} (hn : n ≤ 30) (hb : ∀ k, k < n → 0 ≤ b k ∧ b k ≤ 20) (hq : ∀ k, k < n → 0 ≤ q k ∧ q k ≤ 9) : ∀ i, i ≤ n → 0 ≤ blueN b q i ∧ blueN b q i ≤ 180 * i := by
  intro i
  induction i with
  | zero => intro _; exact ⟨by simp [blueN], by simp [blueN]⟩
  | succ i ih =>
    intro hi
    obtain ⟨h1, h2⟩ := ih (by omega)
    obtain ⟨h3, h4⟩ := hb i (by omega)
    obtain ⟨h5, h6⟩ := hq i (by omega)
    have h7 : 0 ≤ b i * q i := Int.mul_nonneg h3 h5
    have h8 : b i * q i ≤ 20 * 9 := Int.mul_le_mul h4 h6 h5 (by omega)
    simp only [blueN]
    constructor <;> omega
def s33 : SCode := (.seq (.ops [⟨(some 3), none, .box (T 0)⟩, ⟨(some 6), none, .mov (.const (.int .i64 (0)))⟩]) (.seq (.ops [⟨(some 7), none, .mov (.const (.int .i64 (0)))⟩]) (.seq (.seq (.ops [⟨(some 8), none, .mov (.const (.int .i64 (0)))⟩]) (.block 0 (.loop (.seq (.seq (.ops [⟨(some 9), none, .mov (T 8)⟩, ⟨(some 10), none, .mov (T 1)⟩, ⟨(some 11), none, .len (T 10)⟩, ⟨(some 12), none, .int2 .lss (T 9) (T 11)⟩]) (.cond (T 12) .skip (.exit 0))) (.seq (.block 1 (.draw [⟨.free, ⟨(some 15), none, .mov (T 7)⟩⟩, ⟨.free, ⟨(some 16), none, .mov (T 1)⟩⟩, ⟨.free, ⟨(some 17), none, .mov (T 8)⟩⟩, ⟨.free, ⟨(some 18), none, .idxSl 1 (T 16) (T 17)⟩⟩, ⟨.rd1, ⟨(some 19), none, .load1 (T 18)⟩⟩, ⟨.free, ⟨(some 20), none, .fieldAddr 1 (T 3)⟩⟩, ⟨.rd1, ⟨(some 21), none, .load1 (T 20)⟩⟩, ⟨.free, ⟨(some 22), none, .mov (T 2)⟩⟩, ⟨.free, ⟨(some 23), none, .idxSl 1 (T 21) (T 22)⟩⟩, ⟨.rd1, ⟨(some 24), none, .load1 (T 23)⟩⟩, ⟨.free, ⟨(some 25), none, .mov (T 8)⟩⟩, ⟨.free, ⟨(some 26), none, .idxSl 1 (T 24) (T 25)⟩⟩, ⟨.rd1, ⟨(some 27), none, .load1 (T 26)⟩⟩, ⟨.free, ⟨(some 28), none, .int2 .mul (T 19) (T 27)⟩⟩, ⟨.free, ⟨(some 29), none, .int2 .add (T 15) (T 28)⟩⟩, ⟨.free, ⟨(some 7), none, .mov (T 29)⟩⟩])) (.ops [⟨(some 13), none, .mov (T 8)⟩, ⟨(some 14), none, .int2 .add (T 13) (.const (.int .i64 (1)))⟩, ⟨(some 8), none, .mov (T 14)⟩])))))) (.seq (.ops [⟨(some 30), none, .mov (T 7)⟩, ⟨(some 6), none, .mov (T 30)⟩]) .ret))))
theorem fok33 : FnOk Try.prog 33 31 s33 [.tmp 6] := ⟨Try.f33, _, Try.func33, rfl, Try.ntmps33, by kernel_rfl, by kernel_rfl⟩
theorem blue_c (hn : 10001 ≤ n) (hr : h.next < far) {fv vv sv vb : Value} {Y : MY} {nb : Nat} {b : Nat → Int} {at_ : Nat} (hy : YardR h fv vv sv Y) (hb : Ints h vb nb b) (hl : nb ≤ 30) (hat : at_ < Y.nv) (hc : nb ≤ Y.cnt at_)
    (hb1 : ∀ k, k < nb → 0 ≤ b k ∧ b k ≤ 20) (hq1 : ∀ k, k < nb → 0 ≤ Y.q at_ k ∧ Y.q at_ k ≤ 9) :
    call n (.func (.func 33) #[] #[]) [.agg ⟨[fv, vv, sv]⟩, vb, .int .i64 (at_ : Int)] h = some (.int .i64 (blueN b (Y.q at_) nb), h) := by
  obtain ⟨n, rfl⟩ : ∃ p, n = p + 1 := ⟨n - 1, by omega⟩
  refine call_plain0 fok33 rfl rfl (by simp) rfl ?_
  have hy := hy.shut
  have hb := Cells.shut hb
  have hr : h.shutAll.next < far := hr
  generalize h.shutAll = h at hy hb hr
  simp only [s33, W_seq, W_ops]
  refine ops_box (cs := [fv, vv, sv]) hr rfl hy.one fun h1 hx => ?_
  have hy := hy.mono hx.sub
  have hb := Cells.mono hb hx.sub
  obtain ⟨r, hrw, hq⟩ := hy.v
  simp only [rn0, rn1, rn2, rn3, rn4, rn5, rn6, rn7, rn8, if_true, if_false, Nat.le_refl, true_and, and_true, decide_true, decide_false, Bool.not_true, Bool.not_false, reduceIte, Nat.reduceEqDiff, Nat.reduceAdd, Nat.reduceMul, Nat.reduceSub, Nat.reduceLeDiff, Nat.reduceLT]
  refine W_loop nb (fun k f h' m => h' = h1 ∧ m = [] ∧ f 1 = vb ∧ f 2 = .int .i64 (at_ : Int) ∧ f 3 = .pointer (some ⟨h.next, 0, none⟩) ∧ f 8 = .int .i64 (k : Int) ∧ f 7 = .int .i64 (blueN b (Y.q at_) k)) (by simp; omega) ?_ ?_ ?_
  · simp only [rn0, rn1, rn2, rn3, rn4, rn5, rn6, rn7, rn8, if_true, if_false, Nat.le_refl, true_and, and_true, decide_true, decide_false, Bool.not_true, Bool.not_false, reduceIte, Nat.reduceEqDiff, Nat.reduceAdd, Nat.reduceMul, Nat.reduceSub, Nat.reduceLeDiff, Nat.reduceLT]
    simp [blueN]
  · rintro k f h' m hk ⟨rfl, rfl, f1, f2, f3, f8, f7⟩
    have hk' : (k : Int) < (nb : Int) := by omega
    have hkc : k < Y.cnt at_ := by omega
    obtain ⟨h3, h4⟩ := hb1 k hk
    obtain ⟨h5, h6⟩ := hq1 k hk
    have h7 : 0 ≤ b k * Y.q at_ k := Int.mul_nonneg h3 h5
    have h8 : b k * Y.q at_ k ≤ 20 * 9 := Int.mul_le_mul h4 h6 h5 (by omega)
    obtain ⟨h9, h10⟩ := blueN_bound hl hb1 hq1 k (by omega)
    have hw : wrapF .i64 ((k : Int) + 1) = ((k + 1 : Nat) : Int) := by rw [wrap_in (by omega) (by omega)]; rfl
    have hw2 : wrapF .i64 (b k * Y.q at_ k) = b k * Y.q at_ k := wrap_in (by omega) (by omega)
    have hw3 : wrapF .i64 (blueN b (Y.q at_) k + b k * Y.q at_ k) = blueN b (Y.q at_) (k + 1) := by rw [wrap_in (by omega) (by omega)]; rfl
    simp only [rn0, rn1, rn2, rn3, rn4, rn5, rn6, rn7, rn8, if_true, if_false, Nat.le_refl, true_and, and_true, decide_true, decide_false, Bool.not_true, Bool.not_false, reduceIte, Nat.reduceEqDiff, Nat.reduceAdd, Nat.reduceMul, Nat.reduceSub, Nat.reduceLeDiff, Nat.reduceLT, f1, f8, hb.len, hk']
    refine W_draw All ?_
    simp only [rn0, rn1, rn2, rn3, rn4, rn5, rn6, rn7, rn8, if_true, if_false, Nat.le_refl, true_and, and_true, decide_true, decide_false, Bool.not_true, Bool.not_false, reduceIte, Nat.reduceEqDiff, Nat.reduceAdd, Nat.reduceMul, Nat.reduceSub, Nat.reduceLeDiff, Nat.reduceLT, f1, f2, f3, f7, f8, Cells.idx hb hk, Cells.ld hb hk Nat.zero_lt_one, hx.ld, Nat.zero_add, List.getElem?_cons_zero, List.getElem?_cons_succ, Cells.idx hrw hat, Cells.ld hrw hat Nat.zero_lt_one, Cells.idx (hq at_ hat) hkc, Cells.ld (hq at_ hat) hkc Nat.zero_lt_one, hw, hw2, hw3]
  · rintro f h' m ⟨rfl, rfl, f1, f2, f3, f8, f7⟩
    simp only [rn0, rn1, rn2, rn3, rn4, rn5, rn6, rn7, rn8, if_true, if_false, Nat.le_refl, true_and, and_true, decide_true, decide_false, Bool.not_true, Bool.not_false, reduceIte, Nat.reduceEqDiff, Nat.reduceAdd, Nat.reduceMul, Nat.reduceSub, Nat.reduceLeDiff, Nat.reduceLT, f1, f2, f3, f7, f8, hb.len, Int.lt_irrefl]
end Go.Vm.Vat

namespace Go.Vm.Vat
open Go.Proofs
set_option linter.unusedSimpArgs false
set_option linter.unusedVariables false
set_option maxRecDepth 10000
variable {n : Nat} {h : AHeap}
/-- how many blues there are, of some fields -/
def manyN (lo hi : Nat → Int) : Nat → Int
  | 0 => 1
  | i + 1 => min 3000 (manyN lo hi i * (hi i - lo i + 1))
theorem manyN_bound {lo hi : Nat → Int} {n : Nat} (hv : ∀ k, k < n → 0 ≤ lo k ∧ lo k ≤ hi k ∧ hi k ≤ 20) : ∀ i, i ≤ n → 1 ≤ manyN lo hi i ∧ manyN lo hi i ≤ 3000 := by
  intro i
  induction i with
  | zero => intro _; simp [manyN]
  | succ i ih =>
    intro hi'
    obtain ⟨h1, h2⟩ := ih (by omega)
    obtain ⟨h3, h4, h5⟩ := hv i (by omega)
    have h6 : 1 * 1 ≤ manyN lo hi i * (hi i - lo i + 1) := Int.mul_le_mul h1 (by omega) (by omega) (by omega)
    simp only [manyN]
    constructor <;> omega
def s108 : SCode := (.seq (.ops [⟨(some 1), none, .box (T 0)⟩, ⟨(some 2), none, .mov (.const (.int .i64 (0)))⟩]) (.seq (.ops [⟨(some 3), none, .mov (.const (.int .i64 (1)))⟩]) (.seq (.seq (.ops [⟨(some 4), none, .mov (.const (.int .i64 (0)))⟩]) (.block 0 (.loop (.seq (.seq (.ops [⟨(some 5), none, .mov (T 4)⟩, ⟨(some 6), none, .fieldAddr 0 (T 1)⟩, ⟨(some 7), none, .load1 (T 6)⟩, ⟨(some 8), none, .len (T 7)⟩, ⟨(some 9), none, .int2 .lss (T 5) (T 8)⟩]) (.cond (T 9) .skip (.exit 0))) (.seq (.block 1 (.ops [⟨(some 12), none, .mov (T 3)⟩, ⟨(some 13), none, .fieldAddr 0 (T 1)⟩, ⟨(some 14), none, .load1 (T 13)⟩, ⟨(some 15), none, .mov (T 4)⟩, ⟨(some 16), none, .idxSl 2 (T 14) (T 15)⟩, ⟨(some 17), none, .loadN 2 (T 16)⟩, ⟨(some 18), none, .call (.func 125) [(T 17)]⟩, ⟨(some 19), none, .int2 .mul (T 12) (T 18)⟩, ⟨(some 20), none, .plain (.call { callee := .builtin .min, args := #[(.const (.int .i64 (3000))), (T 19)], argTypes := #[3, 3] }) 3⟩, ⟨(some 3), none, .mov (T 20)⟩])) (.ops [⟨(some 10), none, .mov (T 4)⟩, ⟨(some 11), none, .int2 .add (T 10) (.const (.int .i64 (1)))⟩, ⟨(some 4), none, .mov (T 11)⟩])))))) (.seq (.ops [⟨(some 21), none, .mov (T 3)⟩, ⟨(some 2), none, .mov (T 21)⟩]) .ret))))
theorem fok108 : FnOk Try.prog 108 22 s108 [.tmp 2] := ⟨Try.f108, _, Try.func108, rfl, Try.ntmps108, by kernel_rfl, by kernel_rfl⟩
theorem many_c (hn : 10002 ≤ n) (hr : h.next + 1 < far) {fv vv sv : Value} {Y : MY} (hy : YardR h fv vv sv Y) (hl : Y.nf ≤ 30) (hv : ∀ k, k < Y.nf → 0 ≤ Y.lo k ∧ Y.lo k ≤ Y.hi k ∧ Y.hi k ≤ 20) :
    call n (.func (.func 108) #[] #[]) [.agg ⟨[fv, vv, sv]⟩] h = some (.int .i64 (manyN Y.lo Y.hi Y.nf), h) := by
  obtain ⟨n, rfl⟩ : ∃ p, n = p + 1 := ⟨n - 1, by omega⟩
  refine call_plain0 fok108 rfl rfl (by simp) rfl ?_
  have hy := hy.shut
  have hr : h.shutAll.next + 1 < far := hr
  generalize h.shutAll = h at hy hr
  simp only [s108, W_seq, W_ops]
  refine ops_box (cs := [fv, vv, sv]) (by omega) rfl hy.one fun h1 hx => ?_
  have hy := hy.mono hx.sub
  have hr1 : h1.next < far := by rw [hx.next]; exact hr
  simp only [rn0, rn1, rn2, rn3, rn4, rn5, rn6, rn7, rn8, if_true, if_false, Nat.le_refl, true_and, and_true, decide_true, decide_false, Bool.not_true, Bool.not_false, reduceIte, Nat.reduceEqDiff, Nat.reduceAdd, Nat.reduceMul, Nat.reduceSub, Nat.reduceLeDiff, Nat.reduceLT]
  refine W_loop Y.nf (fun k f h' m => h' = h1 ∧ m = [] ∧ f 1 = .pointer (some ⟨h.next, 0, none⟩) ∧ f 3 = .int .i64 (manyN Y.lo Y.hi k) ∧ f 4 = .int .i64 (k : Int)) (by simp; omega) ?_ ?_ ?_
  · simp only [rn0, rn1, rn2, rn3, rn4, rn5, rn6, rn7, rn8, if_true, if_false, Nat.le_refl, true_and, and_true, decide_true, decide_false, Bool.not_true, Bool.not_false, reduceIte, Nat.reduceEqDiff, Nat.reduceAdd, Nat.reduceMul, Nat.reduceSub, Nat.reduceLeDiff, Nat.reduceLT]
    simp [manyN]
  · rintro k f h' m hk ⟨rfl, rfl, f1, f3, f4⟩
    have hk' : (k : Int) < (Y.nf : Int) := by omega
    obtain ⟨h3, h4, h5⟩ := hv k hk
    obtain ⟨h6, h7⟩ := manyN_bound hv k (by omega)
    have h8 : 1 * 1 ≤ manyN Y.lo Y.hi k * (Y.hi k - Y.lo k + 1) := Int.mul_le_mul h6 (by omega) (by omega) (by omega)
    have h9 : manyN Y.lo Y.hi k * (Y.hi k - Y.lo k + 1) ≤ 3000 * 21 := Int.mul_le_mul h7 (by omega) (by omega) (by omega)
    have hw : wrapF .i64 ((k : Int) + 1) = ((k + 1 : Nat) : Int) := by rw [wrap_in (by omega) (by omega)]; rfl
    have hw1 : wrapF .i64 (wrapF .i64 (Y.hi k - Y.lo k) + 1) = Y.hi k - Y.lo k + 1 := by rw [wrap_in (z := Y.hi k - Y.lo k) (by omega) (by omega), wrap_in (by omega) (by omega)]
    have hw2 : wrapF .i64 (manyN Y.lo Y.hi k * (Y.hi k - Y.lo k + 1)) = manyN Y.lo Y.hi k * (Y.hi k - Y.lo k + 1) := wrap_in (by omega) (by omega)
    have hw3 : min 3000 (manyN Y.lo Y.hi k * (Y.hi k - Y.lo k + 1)) = manyN Y.lo Y.hi (k + 1) := rfl
    simp only [rn0, rn1, rn2, rn3, rn4, rn5, rn6, rn7, rn8, if_true, if_false, Nat.le_refl, true_and, and_true, decide_true, decide_false, Bool.not_true, Bool.not_false, reduceIte, Nat.reduceEqDiff, Nat.reduceAdd, Nat.reduceMul, Nat.reduceSub, Nat.reduceLeDiff, Nat.reduceLT, f1, f3, f4, hx.ld, Nat.zero_add, List.getElem?_cons_zero, List.getElem?_cons_succ, Cells.len hy.f, hk', Cells.idx hy.f hk, ranges_ld hy.f hk, size_c (n := n) (h := h') (by omega) hr1, hw, hw1, hw2, hw3]
  · rintro f h' m ⟨rfl, rfl, f1, f3, f4⟩
    simp only [rn0, rn1, rn2, rn3, rn4, rn5, rn6, rn7, rn8, if_true, if_false, Nat.le_refl, true_and, and_true, decide_true, decide_false, Bool.not_true, Bool.not_false, reduceIte, Nat.reduceEqDiff, Nat.reduceAdd, Nat.reduceMul, Nat.reduceSub, Nat.reduceLeDiff, Nat.reduceLT, f1, f3, f4, hx.ld, Nat.zero_add, List.getElem?_cons_zero, List.getElem?_cons_succ, Cells.len hy.f, Int.lt_irrefl]
/-- a list is blues -/
def AreB (Y : MY) (nb : Nat) (b : Nat → Int) : Prop := nb = Y.nf ∧ ∀ k, k < nb → Y.lo k ≤ b k ∧ b k ≤ Y.hi k
noncomputable instance (Y : MY) (nb : Nat) (b : Nat → Int) : Decidable (AreB Y nb b) := Classical.propDecidable _
end Go.Vm.Vat

namespace Go.Vm.Vat
open Go.Proofs
set_option linter.unusedSimpArgs false
set_option linter.unusedVariables false
set_option maxRecDepth 10000
variable {n : Nat} {h : AHeap}
def FieldsOk (Y : MY) : Prop := ∀ k, k < Y.nf → 0 ≤ Y.lo k ∧ Y.lo k ≤ Y.hi k ∧ Y.hi k ≤ 20
def VatsOk (Y : MY) : Prop := ∀ v, v < Y.nv → Y.cnt v = Y.nf ∧ ∀ i, i < Y.cnt v → 0 ≤ Y.q v i ∧ Y.q v i ≤ 9
def SampsOk (Y : MY) : Prop := ∀ k, k < Y.ns → (0 ≤ Y.sv k ∧ Y.sv k ≤ (Y.nv : Int) - 1) ∧ 0 ≤ Y.slo k ∧ Y.slo k ≤ Y.shi k ∧ Y.shi k ≤ 999
def SizesOk (Y : MY) : Prop := Y.nf ≤ 5 ∧ Y.nv ≤ 4 ∧ Y.ns ≤ 5
open Classical in
/-- the error of a yard -/
noncomputable def faultN (Y : MY) : Int :=
  if ¬ SizesOk Y then 3 else if FieldsOk Y ∧ VatsOk Y ∧ SampsOk Y then (if 2000 < manyN Y.lo Y.hi Y.nf then 3 else 0) else 1
def s80 : SCode := (.seq (.ops [⟨(some 1), none, .box (T 0)⟩, ⟨(some 2), none, .mov (.const (.int .i64 (0)))⟩]) (.seq (.seq (.ops [⟨(some 8), none, .fieldAddr 0 (T 1)⟩, ⟨(some 9), none, .load1 (T 8)⟩, ⟨(some 10), none, .len (T 9)⟩, ⟨(some 11), none, .int2 .gtr (T 10) (.const (.int .i64 (5)))⟩, ⟨(some 12), none, .mov (T 11)⟩, ⟨(some 13), (some (12, false)), .fieldAddr 1 (T 1)⟩, ⟨(some 14), (some (12, false)), .load1 (T 13)⟩, ⟨(some 15), (some (12, false)), .len (T 14)⟩, ⟨(some 16), (some (12, false)), .int2 .gtr (T 15) (.const (.int .i64 (4)))⟩, ⟨(some 17), none, .pick (T 12) (.const (.bool true)) (T 16)⟩, ⟨(some 18), none, .mov (T 17)⟩, ⟨(some 19), (some (18, false)), .fieldAddr 2 (T 1)⟩, ⟨(some 20), (some (18, false)), .load1 (T 19)⟩, ⟨(some 21), (some (18, false)), .len (T 20)⟩, ⟨(some 22), (some (18, false)), .int2 .gtr (T 21) (.const (.int .i64 (5)))⟩, ⟨(some 23), none, .pick (T 18) (.const (.bool true)) (T 22)⟩]) (.cond (T 23) (.seq (.ops [⟨(some 2), none, .mov (.const (.int .i64 (3)))⟩]) .ret) .skip)) (.seq (.seq (.ops [⟨(some 3), none, .mov (.const (.int .i64 (0)))⟩]) (.block 0 (.loop (.seq (.seq (.ops [⟨(some 24), none, .mov (T 3)⟩, ⟨(some 25), none, .fieldAddr 0 (T 1)⟩, ⟨(some 26), none, .load1 (T 25)⟩, ⟨(some 27), none, .len (T 26)⟩, ⟨(some 28), none, .int2 .lss (T 24) (T 27)⟩]) (.cond (T 28) .skip (.exit 0))) (.seq (.block 1 (.seq (.ops [⟨(some 31), none, .fieldAddr 0 (T 1)⟩, ⟨(some 32), none, .load1 (T 31)⟩, ⟨(some 33), none, .mov (T 3)⟩, ⟨(some 34), none, .idxSl 2 (T 32) (T 33)⟩, ⟨(some 35), none, .loadN 2 (T 34)⟩, ⟨(some 36), none, .call (.func 116) [(T 35), (.const (.int .i64 (20)))]⟩, ⟨(some 37), none, .not (T 36)⟩]) (.cond (T 37) (.seq (.ops [⟨(some 2), none, .mov (.const (.int .i64 (1)))⟩]) .ret) .skip))) (.ops [⟨(some 29), none, .mov (T 3)⟩, ⟨(some 30), none, .int2 .add (T 29) (.const (.int .i64 (1)))⟩, ⟨(some 3), none, .mov (T 30)⟩])))))) (.seq (.seq (.ops [⟨(some 4), none, .mov (.const (.int .i64 (0)))⟩]) (.block 2 (.loop (.seq (.seq (.ops [⟨(some 38), none, .mov (T 4)⟩, ⟨(some 39), none, .fieldAddr 1 (T 1)⟩, ⟨(some 40), none, .load1 (T 39)⟩, ⟨(some 41), none, .len (T 40)⟩, ⟨(some 42), none, .int2 .lss (T 38) (T 41)⟩]) (.cond (T 42) .skip (.exit 2))) (.seq (.block 3 (.seq (.seq (.draw [⟨.free, ⟨(some 45), none, .fieldAddr 1 (T 1)⟩⟩, ⟨.rd1, ⟨(some 46), none, .load1 (T 45)⟩⟩, ⟨.free, ⟨(some 47), none, .mov (T 4)⟩⟩, ⟨.free, ⟨(some 48), none, .idxSl 1 (T 46) (T 47)⟩⟩, ⟨.rd1, ⟨(some 49), none, .load1 (T 48)⟩⟩, ⟨.free, ⟨(some 50), none, .len (T 49)⟩⟩, ⟨.free, ⟨(some 51), none, .fieldAddr 0 (T 1)⟩⟩, ⟨.rd1, ⟨(some 52), none, .load1 (T 51)⟩⟩, ⟨.free, ⟨(some 53), none, .len (T 52)⟩⟩, ⟨.free, ⟨(some 54), none, .int2 .neq (T 50) (T 53)⟩⟩]) (.cond (T 54) (.seq (.ops [⟨(some 2), none, .mov (.const (.int .i64 (1)))⟩]) .ret) .skip)) (.seq (.ops [⟨(some 5), none, .mov (.const (.int .i64 (0)))⟩]) (.block 4 (.loop (.seq (.seq (.ops [⟨(some 55), none, .mov (T 5)⟩, ⟨(some 56), none, .fieldAddr 1 (T 1)⟩, ⟨(some 57), none, .load1 (T 56)⟩, ⟨(some 58), none, .mov (T 4)⟩, ⟨(some 59), none, .idxSl 1 (T 57) (T 58)⟩, ⟨(some 60), none, .load1 (T 59)⟩, ⟨(some 61), none, .len (T 60)⟩, ⟨(some 62), none, .int2 .lss (T 55) (T 61)⟩]) (.cond (T 62) .skip (.exit 4))) (.seq (.block 5 (.seq (.ops [⟨(some 65), none, .fieldAddr 1 (T 1)⟩, ⟨(some 66), none, .load1 (T 65)⟩, ⟨(some 67), none, .mov (T 4)⟩, ⟨(some 68), none, .idxSl 1 (T 66) (T 67)⟩, ⟨(some 69), none, .load1 (T 68)⟩, ⟨(some 70), none, .mov (T 5)⟩, ⟨(some 71), none, .idxSl 1 (T 69) (T 70)⟩, ⟨(some 72), none, .load1 (T 71)⟩, ⟨(some 73), none, .call (.func 42) [(T 72), (.const (.int .i64 (0))), (.const (.int .i64 (9)))]⟩, ⟨(some 74), none, .not (T 73)⟩]) (.cond (T 74) (.seq (.ops [⟨(some 2), none, .mov (.const (.int .i64 (1)))⟩]) .ret) .skip))) (.ops [⟨(some 63), none, .mov (T 5)⟩, ⟨(some 64), none, .int2 .add (T 63) (.const (.int .i64 (1)))⟩, ⟨(some 5), none, .mov (T 64)⟩])))))))) (.ops [⟨(some 43), none, .mov (T 4)⟩, ⟨(some 44), none, .int2 .add (T 43) (.const (.int .i64 (1)))⟩, ⟨(some 4), none, .mov (T 44)⟩])))))) (.seq (.seq (.ops [⟨(some 6), none, .mov (.const (.int .i64 (0)))⟩]) (.block 6 (.loop (.seq (.seq (.ops [⟨(some 75), none, .mov (T 6)⟩, ⟨(some 76), none, .fieldAddr 2 (T 1)⟩, ⟨(some 77), none, .load1 (T 76)⟩, ⟨(some 78), none, .len (T 77)⟩, ⟨(some 79), none, .int2 .lss (T 75) (T 78)⟩]) (.cond (T 79) .skip (.exit 6))) (.seq (.block 7 (.seq (.ops [⟨(some 82), none, .fieldAddr 2 (T 1)⟩, ⟨(some 83), none, .load1 (T 82)⟩, ⟨(some 84), none, .mov (T 6)⟩, ⟨(some 85), none, .idxSl 3 (T 83) (T 84)⟩, ⟨(some 86), none, .loadN 3 (T 85)⟩, ⟨(some 7), none, .alloc [(.int .i64 (0)), (.int .i64 (0)), (.int .i64 (0))]⟩, ⟨none, none, .store 3 (T 7) (T 86)⟩]) (.seq (.ops [⟨(some 87), none, .fieldAddr 0 (T 7)⟩, ⟨(some 88), none, .load1 (T 87)⟩, ⟨(some 89), none, .fieldAddr 1 (T 1)⟩, ⟨(some 90), none, .load1 (T 89)⟩, ⟨(some 91), none, .len (T 90)⟩, ⟨(some 92), none, .int2 .sub (T 91) (.const (.int .i64 (1)))⟩, ⟨(some 93), none, .call (.func 42) [(T 88), (.const (.int .i64 (0))), (T 92)]⟩, ⟨(some 94), none, .not (T 93)⟩, ⟨(some 95), none, .mov (T 94)⟩, ⟨(some 96), (some (95, false)), .fieldAddr 1 (T 7)⟩, ⟨(some 97), (some (95, false)), .loadN 2 (T 96)⟩, ⟨(some 98), (some (95, false)), .call (.func 116) [(T 97), (.const (.int .i64 (999)))]⟩, ⟨(some 99), (some (95, false)), .not (T 98)⟩, ⟨(some 100), none, .pick (T 95) (.const (.bool true)) (T 99)⟩]) (.cond (T 100) (.seq (.ops [⟨(some 2), none, .mov (.const (.int .i64 (1)))⟩]) .ret) .skip)))) (.ops [⟨(some 80), none, .mov (T 6)⟩, ⟨(some 81), none, .int2 .add (T 80) (.const (.int .i64 (1)))⟩, ⟨(some 6), none, .mov (T 81)⟩])))))) (.seq (.seq (.ops [⟨(some 101), none, .loadN 3 (T 1)⟩, ⟨(some 102), none, .call (.func 108) [(T 101)]⟩, ⟨(some 103), none, .int2 .gtr (T 102) (.const (.int .i64 (2000)))⟩]) (.cond (T 103) (.seq (.ops [⟨(some 2), none, .mov (.const (.int .i64 (3)))⟩]) .ret) .skip)) (.seq (.ops [⟨(some 2), none, .mov (.const (.int .i64 (0)))⟩]) .ret)))))))
theorem fok80 : FnOk Try.prog 80 104 s80 [.tmp 2] := ⟨Try.f80, _, Try.func80, rfl, Try.ntmps80, by kernel_rfl, by kernel_rfl⟩
theorem fault_c (hn : 10003 ≤ n) (hr : h.next + 20 < far) {fv vv sv : Value} {Y : MY} (hy : YardR h fv vv sv Y) :
    call n (.func (.func 80) #[] #[]) [.agg ⟨[fv, vv, sv]⟩] h = some (.int .i64 (faultN Y), h) := by
  obtain ⟨n, rfl⟩ : ∃ p, n = p + 1 := ⟨n - 1, by omega⟩
  refine call_plain0 fok80 rfl rfl (by simp) rfl ?_
  have hy := hy.shut
  have hr : h.shutAll.next + 20 < far := hr
  have hfl : h.shutAll.floor ≤ h.shutAll.next := Nat.le_refl _
  generalize h.shutAll = h at hy hr hfl
  simp only [s80, W_seq, W_ops]
  refine ops_box (cs := [fv, vv, sv]) (by omega) rfl hy.one fun h1 hx => ?_
  have hy := hy.mono hx.sub
  have hr1 : h1.next + 19 < far := by rw [hx.next]; omega
  obtain ⟨r, hrw, hq⟩ := hy.v
  have e3 : ∀ {p : Prop} [Decidable p], p → faultN Y = 3 → True := fun _ _ => trivial
  by_cases c1 : 5 < Y.nf
  · have c1' : (5 : Int) < Y.nf := by omega
    have : faultN Y = 3 := by unfold faultN SizesOk; rw [if_pos (by omega)]
    simp only [rn0, rn1, rn2, rn3, rn4, rn5, rn6, rn7, rn8, if_true, if_false, Nat.le_refl, true_and, and_true, decide_true, decide_false, Bool.not_true, Bool.not_false, reduceIte, Nat.reduceEqDiff, Nat.reduceAdd, Nat.reduceMul, Nat.reduceSub, Nat.reduceLeDiff, Nat.reduceLT, hx.ld, Nat.zero_add, List.getElem?_cons_zero, List.getElem?_cons_succ, Cells.len hy.f, Cells.len hrw, Cells.len hy.s, c1', this]
  have c1' : ¬ (5 : Int) < Y.nf := by omega
  by_cases c2 : 4 < Y.nv
  · have c2' : (4 : Int) < Y.nv := by omega
    have : faultN Y = 3 := by unfold faultN SizesOk; rw [if_pos (by omega)]
    simp only [rn0, rn1, rn2, rn3, rn4, rn5, rn6, rn7, rn8, if_true, if_false, Nat.le_refl, true_and, and_true, decide_true, decide_false, Bool.not_true, Bool.not_false, reduceIte, Nat.reduceEqDiff, Nat.reduceAdd, Nat.reduceMul, Nat.reduceSub, Nat.reduceLeDiff, Nat.reduceLT, hx.ld, Nat.zero_add, List.getElem?_cons_zero, List.getElem?_cons_succ, Cells.len hy.f, Cells.len hrw, Cells.len hy.s, c1', c2', this]
  have c2' : ¬ (4 : Int) < Y.nv := by omega
  by_cases c3 : 5 < Y.ns
  · have c3' : (5 : Int) < Y.ns := by omega
    have : faultN Y = 3 := by unfold faultN SizesOk; rw [if_pos (by omega)]
    simp only [rn0, rn1, rn2, rn3, rn4, rn5, rn6, rn7, rn8, if_true, if_false, Nat.le_refl, true_and, and_true, decide_true, decide_false, Bool.not_true, Bool.not_false, reduceIte, Nat.reduceEqDiff, Nat.reduceAdd, Nat.reduceMul, Nat.reduceSub, Nat.reduceLeDiff, Nat.reduceLT, hx.ld, Nat.zero_add, List.getElem?_cons_zero, List.getElem?_cons_succ, Cells.len hy.f, Cells.len hrw, Cells.len hy.s, c1', c2', c3', this]
  have c3' : ¬ (5 : Int) < Y.ns := by omega
  have hsz : ¬ ¬ SizesOk Y := by unfold SizesOk; omega
  have bad : ¬ (FieldsOk Y ∧ VatsOk Y ∧ SampsOk Y) → faultN Y = 1 := fun hb => by unfold faultN; rw [if_neg hsz, if_neg hb]
  simp only [rn0, rn1, rn2, rn3, rn4, rn5, rn6, rn7, rn8, if_true, if_false, Nat.le_refl, true_and, and_true, decide_true, decide_false, Bool.not_true, Bool.not_false, reduceIte, Nat.reduceEqDiff, Nat.reduceAdd, Nat.reduceMul, Nat.reduceSub, Nat.reduceLeDiff, Nat.reduceLT, hx.ld, Nat.zero_add, List.getElem?_cons_zero, List.getElem?_cons_succ, Cells.len hy.f, Cells.len hrw, Cells.len hy.s, c1', c2', c3']
  refine W_loop Y.nf (fun k f h' m => h' = h1 ∧ m = [] ∧ f 1 = .pointer (some ⟨h.next, 0, none⟩) ∧ f 3 = .int .i64 (k : Int) ∧ ∀ j, j < k → 0 ≤ Y.lo j ∧ Y.lo j ≤ Y.hi j ∧ Y.hi j ≤ 20) (by simp; omega) ?_ ?_ ?_
  · simp only [rn0, rn1, rn2, rn3, rn4, rn5, rn6, rn7, rn8, if_true, if_false, Nat.le_refl, true_and, and_true, decide_true, decide_false, Bool.not_true, Bool.not_false, reduceIte, Nat.reduceEqDiff, Nat.reduceAdd, Nat.reduceMul, Nat.reduceSub, Nat.reduceLeDiff, Nat.reduceLT, Nat.not_lt_zero, false_implies, implies_true]
    trivial
  · rintro k f h' m hk ⟨rfl, rfl, f1, f3, hlt⟩
    have hk' : (k : Int) < (Y.nf : Int) := by omega
    have hw : wrapF .i64 ((k : Int) + 1) = ((k + 1 : Nat) : Int) := by rw [wrap_in (by omega) (by omega)]; rfl
    by_cases hkk : 0 ≤ Y.lo k ∧ Y.lo k ≤ Y.hi k ∧ Y.hi k ≤ 20
    · simp only [rn0, rn1, rn2, rn3, rn4, rn5, rn6, rn7, rn8, if_true, if_false, Nat.le_refl, true_and, and_true, decide_true, decide_false, Bool.not_true, Bool.not_false, reduceIte, Nat.reduceEqDiff, Nat.reduceAdd, Nat.reduceMul, Nat.reduceSub, Nat.reduceLeDiff, Nat.reduceLT, f1, f3, hx.ld, Nat.zero_add, List.getElem?_cons_zero, List.getElem?_cons_succ, Cells.len hy.f, hk', Cells.idx hy.f hk, ranges_ld hy.f hk, is_c (n := n) (h := h') (by omega) (by omega), hkk, hw, and_self]
      intro j hj
      by_cases e : j = k
      · subst e; exact hkk
      · exact hlt j (by omega)
    · have := bad fun hb => hkk (hb.1 k hk)
      simp only [rn0, rn1, rn2, rn3, rn4, rn5, rn6, rn7, rn8, if_true, if_false, Nat.le_refl, true_and, and_true, decide_true, decide_false, Bool.not_true, Bool.not_false, reduceIte, Nat.reduceEqDiff, Nat.reduceAdd, Nat.reduceMul, Nat.reduceSub, Nat.reduceLeDiff, Nat.reduceLT, f1, f3, hx.ld, Nat.zero_add, List.getElem?_cons_zero, List.getElem?_cons_succ, Cells.len hy.f, hk', Cells.idx hy.f hk, ranges_ld hy.f hk, is_c (n := n) (h := h') (by omega) (by omega), hkk, hw, this]
  rintro f h' m ⟨rfl, rfl, f1, f3, hfo⟩
  simp only [rn0, rn1, rn2, rn3, rn4, rn5, rn6, rn7, rn8, if_true, if_false, Nat.le_refl, true_and, and_true, decide_true, decide_false, Bool.not_true, Bool.not_false, reduceIte, Nat.reduceEqDiff, Nat.reduceAdd, Nat.reduceMul, Nat.reduceSub, Nat.reduceLeDiff, Nat.reduceLT, f1, f3, hx.ld, Nat.zero_add, List.getElem?_cons_zero, List.getElem?_cons_succ, Cells.len hy.f, Int.lt_irrefl]
  clear f3
  refine W_loop Y.nv (fun k f h'' m => h'' = h' ∧ m = [] ∧ f 1 = .pointer (some ⟨h.next, 0, none⟩) ∧ f 4 = .int .i64 (k : Int) ∧ ∀ v, v < k → Y.cnt v = Y.nf ∧ ∀ i, i < Y.cnt v → 0 ≤ Y.q v i ∧ Y.q v i ≤ 9) (by simp; omega) ?_ ?_ ?_
  · simp only [rn0, rn1, rn2, rn3, rn4, rn5, rn6, rn7, rn8, if_true, if_false, Nat.le_refl, true_and, and_true, decide_true, decide_false, Bool.not_true, Bool.not_false, reduceIte, Nat.reduceEqDiff, Nat.reduceAdd, Nat.reduceMul, Nat.reduceSub, Nat.reduceLeDiff, Nat.reduceLT, f1, Nat.not_lt_zero, false_implies, implies_true]
    trivial
  · rintro k f h'' m hk ⟨rfl, rfl, f1, f4, hlt⟩
    have hk' : (k : Int) < (Y.nv : Int) := by omega
    have hw : wrapF .i64 ((k : Int) + 1) = ((k + 1 : Nat) : Int) := by rw [wrap_in (by omega) (by omega)]; rfl
    simp only [rn0, rn1, rn2, rn3, rn4, rn5, rn6, rn7, rn8, if_true, if_false, Nat.le_refl, true_and, and_true, decide_true, decide_false, Bool.not_true, Bool.not_false, reduceIte, Nat.reduceEqDiff, Nat.reduceAdd, Nat.reduceMul, Nat.reduceSub, Nat.reduceLeDiff, Nat.reduceLT, f1, f4, hx.ld, Nat.zero_add, List.getElem?_cons_zero, List.getElem?_cons_succ, Cells.len hrw, hk']
    refine W_draw All ?_
    by_cases hc : Y.cnt k = Y.nf
    · have hc' : (Y.cnt k : Int) = Y.nf := by omega
      simp only [rn0, rn1, rn2, rn3, rn4, rn5, rn6, rn7, rn8, if_true, if_false, Nat.le_refl, true_and, and_true, decide_true, decide_false, Bool.not_true, Bool.not_false, reduceIte, Nat.reduceEqDiff, Nat.reduceAdd, Nat.reduceMul, Nat.reduceSub, Nat.reduceLeDiff, Nat.reduceLT, f1, f4, hx.ld, Nat.zero_add, List.getElem?_cons_zero, List.getElem?_cons_succ, Cells.idx hrw hk, Cells.ld hrw hk Nat.zero_lt_one, Cells.len (hq k hk), Cells.len hy.f, hc']
      refine W_loop (Y.cnt k) (fun i f h''' m => h''' = h'' ∧ m = [] ∧ f 1 = .pointer (some ⟨h.next, 0, none⟩) ∧ f 4 = .int .i64 (k : Int) ∧ f 5 = .int .i64 (i : Int) ∧ ∀ j, j < i → 0 ≤ Y.q k j ∧ Y.q k j ≤ 9) (by simp; omega) ?_ ?_ ?_
      · simp only [rn0, rn1, rn2, rn3, rn4, rn5, rn6, rn7, rn8, if_true, if_false, Nat.le_refl, true_and, and_true, decide_true, decide_false, Bool.not_true, Bool.not_false, reduceIte, Nat.reduceEqDiff, Nat.reduceAdd, Nat.reduceMul, Nat.reduceSub, Nat.reduceLeDiff, Nat.reduceLT, f1, f4, Nat.not_lt_zero, false_implies, implies_true]
        trivial
      · rintro i f h''' m hi ⟨rfl, rfl, f1, f4, f5, hli⟩
        have hi' : (i : Int) < (Y.cnt k : Int) := by omega
        have hwi : wrapF .i64 ((i : Int) + 1) = ((i + 1 : Nat) : Int) := by rw [wrap_in (by omega) (by omega)]; rfl
        by_cases hii : 0 ≤ Y.q k i ∧ Y.q k i ≤ 9
        · simp only [rn0, rn1, rn2, rn3, rn4, rn5, rn6, rn7, rn8, if_true, if_false, Nat.le_refl, true_and, and_true, decide_true, decide_false, Bool.not_true, Bool.not_false, reduceIte, Nat.reduceEqDiff, Nat.reduceAdd, Nat.reduceMul, Nat.reduceSub, Nat.reduceLeDiff, Nat.reduceLT, f1, f4, f5, hx.ld, Nat.zero_add, List.getElem?_cons_zero, List.getElem?_cons_succ, Cells.idx hrw hk, Cells.ld hrw hk Nat.zero_lt_one, Cells.len (hq k hk), hi', Cells.idx (hq k hk) hi, Cells.ld (hq k hk) hi Nat.zero_lt_one, in_c (n := n) (by omega), hii, hwi, and_self]
          intro j hj
          by_cases e : j = i
          · subst e; exact hii
          · exact hli j (by omega)
        · have := bad fun hb => hii ((hb.2.1 k hk).2 i hi)
          simp only [rn0, rn1, rn2, rn3, rn4, rn5, rn6, rn7, rn8, if_true, if_false, Nat.le_refl, true_and, and_true, decide_true, decide_false, Bool.not_true, Bool.not_false, reduceIte, Nat.reduceEqDiff, Nat.reduceAdd, Nat.reduceMul, Nat.reduceSub, Nat.reduceLeDiff, Nat.reduceLT, f1, f4, f5, hx.ld, Nat.zero_add, List.getElem?_cons_zero, List.getElem?_cons_succ, Cells.idx hrw hk, Cells.ld hrw hk Nat.zero_lt_one, Cells.len (hq k hk), hi', Cells.idx (hq k hk) hi, Cells.ld (hq k hk) hi Nat.zero_lt_one, in_c (n := n) (by omega), hii, hwi, this]
      · rintro f h''' m ⟨rfl, rfl, f1, f4, f5, hli⟩
        simp only [rn0, rn1, rn2, rn3, rn4, rn5, rn6, rn7, rn8, if_true, if_false, Nat.le_refl, true_and, and_true, decide_true, decide_false, Bool.not_true, Bool.not_false, reduceIte, Nat.reduceEqDiff, Nat.reduceAdd, Nat.reduceMul, Nat.reduceSub, Nat.reduceLeDiff, Nat.reduceLT, f1, f4, f5, hx.ld, Nat.zero_add, List.getElem?_cons_zero, List.getElem?_cons_succ, Cells.idx hrw hk, Cells.ld hrw hk Nat.zero_lt_one, Cells.len (hq k hk), Int.lt_irrefl, hw]
        intro v hv
        by_cases e : v = k
        · subst e; exact ⟨hc, hli⟩
        · exact hlt v (by omega)
    · have hc' : ¬ (Y.cnt k : Int) = Y.nf := by omega
      have := bad fun hb => hc (hb.2.1 k hk).1
      simp only [rn0, rn1, rn2, rn3, rn4, rn5, rn6, rn7, rn8, if_true, if_false, Nat.le_refl, true_and, and_true, decide_true, decide_false, Bool.not_true, Bool.not_false, reduceIte, Nat.reduceEqDiff, Nat.reduceAdd, Nat.reduceMul, Nat.reduceSub, Nat.reduceLeDiff, Nat.reduceLT, f1, f4, hx.ld, Nat.zero_add, List.getElem?_cons_zero, List.getElem?_cons_succ, Cells.idx hrw hk, Cells.ld hrw hk Nat.zero_lt_one, Cells.len (hq k hk), Cells.len hy.f, hc', this]
  rintro f h'' m ⟨rfl, rfl, f1, f4, hvo⟩
  simp only [rn0, rn1, rn2, rn3, rn4, rn5, rn6, rn7, rn8, if_true, if_false, Nat.le_refl, true_and, and_true, decide_true, decide_false, Bool.not_true, Bool.not_false, reduceIte, Nat.reduceEqDiff, Nat.reduceAdd, Nat.reduceMul, Nat.reduceSub, Nat.reduceLeDiff, Nat.reduceLT, f1, f4, hx.ld, Nat.zero_add, List.getElem?_cons_zero, List.getElem?_cons_succ, Cells.len hrw, Int.lt_irrefl]
  clear f4
  have hfl1 : h''.floor ≤ h''.next := by rw [hx.floor, hx.next]; omega
  have hrow : Row h'' h.next [fv, vv, sv] := hx.row
  refine W_loop Y.ns (fun k f g m => (Sub All h'' g ∧ g.next = h''.next + k ∧ g.floor = h''.floor) ∧ m = [] ∧ f 1 = .pointer (some ⟨h.next, 0, none⟩) ∧ f 6 = .int .i64 (k : Int) ∧ ∀ k', k' < k → (0 ≤ Y.sv k' ∧ Y.sv k' ≤ (Y.nv : Int) - 1) ∧ 0 ≤ Y.slo k' ∧ Y.slo k' ≤ Y.shi k' ∧ Y.shi k' ≤ 999) (by simp; omega) ?_ ?_ ?_
  · simp only [rn0, rn1, rn2, rn3, rn4, rn5, rn6, rn7, rn8, if_true, if_false, Nat.le_refl, true_and, and_true, decide_true, decide_false, Bool.not_true, Bool.not_false, reduceIte, Nat.reduceEqDiff, Nat.reduceAdd, Nat.reduceMul, Nat.reduceSub, Nat.reduceLeDiff, Nat.reduceLT, f1, Nat.not_lt_zero, false_implies, implies_true, Nat.add_zero]
    trivial
  · rintro k f g m hk ⟨⟨g1, g2, g3⟩, rfl, f1, f6, hlt⟩
    have hk' : (k : Int) < (Y.ns : Int) := by omega
    have hw : wrapF .i64 ((k : Int) + 1) = ((k + 1 : Nat) : Int) := by rw [wrap_in (by omega) (by omega)]; rfl
    have hw1 : wrapF .i64 ((Y.nv : Int) - 1) = (Y.nv : Int) - 1 := wrap_in (by omega) (by omega)
    have hyg := hy.mono g1
    have hrg := hrow.mono g1
    simp only [rn0, rn1, rn2, rn3, rn4, rn5, rn6, rn7, rn8, if_true, if_false, Nat.le_refl, true_and, and_true, decide_true, decide_false, Bool.not_true, Bool.not_false, reduceIte, Nat.reduceEqDiff, Nat.reduceAdd, Nat.reduceMul, Nat.reduceSub, Nat.reduceLeDiff, Nat.reduceLT, f1, f6, hrg.ld, Nat.zero_add, List.getElem?_cons_zero, List.getElem?_cons_succ, Cells.len hyg.s, hk', Cells.idx hyg.s hk, samps_ld hyg.s hk]
    refine step_new (vs := [.int .i64 (Y.sv k), .int .i64 (Y.slo k), .int .i64 (Y.shi k)]) (by omega) (by omega) rfl (by simp only [rn0, rn1, rn2, rn3, rn4, rn5, rn6, rn7, rn8, if_true, if_false, Nat.le_refl, true_and, and_true, decide_true, decide_false, Bool.not_true, Bool.not_false, reduceIte, Nat.reduceEqDiff, Nat.reduceAdd, Nat.reduceMul, Nat.reduceSub, Nat.reduceLeDiff, Nat.reduceLT]; rfl) rfl rfl rfl fun g' hg' => ?_
    have hyg := hyg.mono hg'.sub
    have hrg := hrg.mono hg'.sub
    obtain ⟨r', hrw', hq'⟩ := hyg.v
    have hnx : g'.next < far := by rw [hg'.next, g2, hx.next]; omega
    have hin : (Sub All h'' g' ∧ g'.next = h''.next + (k + 1) ∧ g'.floor = h''.floor) = True := eq_true ⟨g1.trans hg'.sub, by rw [hg'.next, g2]; omega, by rw [hg'.floor, g3]⟩
    by_cases hs1 : 0 ≤ Y.sv k ∧ Y.sv k ≤ (Y.nv : Int) - 1
    · by_cases hs2 : 0 ≤ Y.slo k ∧ Y.slo k ≤ Y.shi k ∧ Y.shi k ≤ 999
      · simp only [rn0, rn1, rn2, rn3, rn4, rn5, rn6, rn7, rn8, if_true, if_false, Nat.le_refl, true_and, and_true, decide_true, decide_false, Bool.not_true, Bool.not_false, reduceIte, Nat.reduceEqDiff, Nat.reduceAdd, Nat.reduceMul, Nat.reduceSub, Nat.reduceLeDiff, Nat.reduceLT, f1, f6, hrg.ld, hg'.ld, hg'.ldN 1 2 (by simp) (by simp), List.drop_succ_cons, List.drop_zero, List.take_succ_cons, List.take_zero, Nat.zero_add, List.getElem?_cons_zero, List.getElem?_cons_succ, Cells.len hrw', in_c (n := n) (by omega), is_c (n := n) (h := g') (by omega) hnx, hs1, hs2, hw, hw1, and_self, hin]
        intro j hj
        by_cases e : j = k
        · subst e; exact ⟨hs1, hs2⟩
        · exact hlt j (by omega)
      · have := bad fun hb => hs2 (hb.2.2 k hk).2
        simp only [rn0, rn1, rn2, rn3, rn4, rn5, rn6, rn7, rn8, if_true, if_false, Nat.le_refl, true_and, and_true, decide_true, decide_false, Bool.not_true, Bool.not_false, reduceIte, Nat.reduceEqDiff, Nat.reduceAdd, Nat.reduceMul, Nat.reduceSub, Nat.reduceLeDiff, Nat.reduceLT, f1, f6, hrg.ld, hg'.ld, hg'.ldN 1 2 (by simp) (by simp), List.drop_succ_cons, List.drop_zero, List.take_succ_cons, List.take_zero, Nat.zero_add, List.getElem?_cons_zero, List.getElem?_cons_succ, Cells.len hrw', in_c (n := n) (by omega), is_c (n := n) (h := g') (by omega) hnx, hs1, hs2, hw, hw1, and_self, this]
    · have := bad fun hb => hs1 (hb.2.2 k hk).1
      simp only [rn0, rn1, rn2, rn3, rn4, rn5, rn6, rn7, rn8, if_true, if_false, Nat.le_refl, true_and, and_true, decide_true, decide_false, Bool.not_true, Bool.not_false, reduceIte, Nat.reduceEqDiff, Nat.reduceAdd, Nat.reduceMul, Nat.reduceSub, Nat.reduceLeDiff, Nat.reduceLT, f1, f6, hrg.ld, hg'.ld, Nat.zero_add, List.getElem?_cons_zero, List.getElem?_cons_succ, Cells.len hrw', in_c (n := n) (by omega), hs1, hw, hw1, this]
  · rintro f g m ⟨⟨g1, g2, g3⟩, rfl, f1, f6, hso⟩
    have hyg := hy.mono g1
    have hrg := hrow.mono g1
    have hnx : g.next + 1 < far := by rw [g2, hx.next]; omega
    simp only [rn0, rn1, rn2, rn3, rn4, rn5, rn6, rn7, rn8, if_true, if_false, Nat.le_refl, true_and, and_true, decide_true, decide_false, Bool.not_true, Bool.not_false, reduceIte, Nat.reduceEqDiff, Nat.reduceAdd, Nat.reduceMul, Nat.reduceSub, Nat.reduceLeDiff, Nat.reduceLT, f1, f6, hrg.ld, hrg.ldN 0 3 (by simp) (by simp), List.drop_zero, List.take_succ_cons, List.take_zero, Nat.zero_add, List.getElem?_cons_zero, List.getElem?_cons_succ, Cells.len hyg.s, Int.lt_irrefl, many_c (n := n) (by omega) hnx hyg (by omega) hfo]
    have hok : FieldsOk Y ∧ VatsOk Y ∧ SampsOk Y := ⟨hfo, hvo, hso⟩
    have hF : faultN Y = if 2000 < manyN Y.lo Y.hi Y.nf then 3 else 0 := by unfold faultN; rw [if_neg hsz, if_pos hok]
    by_cases hm : 2000 < manyN Y.lo Y.hi Y.nf
    · rw [if_pos hm] at hF
      simp only [rn0, rn1, rn2, rn3, rn4, rn5, rn6, rn7, rn8, if_true, if_false, Nat.le_refl, true_and, and_true, decide_true, decide_false, Bool.not_true, Bool.not_false, reduceIte, Nat.reduceEqDiff, Nat.reduceAdd, Nat.reduceMul, Nat.reduceSub, Nat.reduceLeDiff, Nat.reduceLT, hm, hF]
    · rw [if_neg hm] at hF
      simp only [rn0, rn1, rn2, rn3, rn4, rn5, rn6, rn7, rn8, if_true, if_false, Nat.le_refl, true_and, and_true, decide_true, decide_false, Bool.not_true, Bool.not_false, reduceIte, Nat.reduceEqDiff, Nat.reduceAdd, Nat.reduceMul, Nat.reduceSub, Nat.reduceLeDiff, Nat.reduceLT, hm, hF]
end Go.Vm.Vat

namespace Go.Vm.Vat
open Go.Proofs
set_option linter.unusedSimpArgs false
set_option linter.unusedVariables false
set_option maxRecDepth 10000
variable {n : Nat} {h : AHeap}
theorem u3 : ∃ d, Try.prog.underlying 3 = some d := ⟨_, by rfl⟩
theorem u104 : Try.prog.underlying 104 = some (.int .u64) := by rfl
theorem p_uint {N : Nat} {f : Fr} {x : Operand} {ty : TypeId} : plainF Try.prog N (.convert 3 104 x) ty f h = run1 convU (plainF Try.prog N (.convert 3 104 x) ty f) (valN N f x) h := p_conv u3.choose_spec u104
/-- a sample is right with blues -/
def RightB (Y : MY) (b : Nat → Int) (k : Nat) : Prop := Y.slo k ≤ blueN b (Y.q (Y.sv k).toNat) Y.nf ∧ blueN b (Y.q (Y.sv k).toNat) Y.nf ≤ Y.shi k
noncomputable instance (Y : MY) (b : Nat → Int) (k : Nat) : Decidable (RightB Y b k) := Classical.propDecidable _
noncomputable def rightN (Y : MY) (b : Nat → Int) : Nat → Nat
  | 0 => 0
  | i + 1 => if RightB Y b i then rightN Y b i ||| 2 ^ i else rightN Y b i
theorem rightN_lt (Y : MY) (b : Nat → Int) (i : Nat) : rightN Y b i < 2 ^ i := by
  induction i with
  | zero => simp [rightN]
  | succ i ih =>
    simp only [rightN]
    split
    · exact Nat.or_lt_two_pow (Nat.lt_of_lt_of_le ih (Nat.pow_le_pow_right (by omega) (by omega))) (Nat.pow_lt_pow_right (by omega) (by omega))
    · exact Nat.lt_of_lt_of_le ih (Nat.pow_le_pow_right (by omega) (by omega))
theorem or_pow {a i : Nat} (ha : a < 2 ^ i) : a ||| 2 ^ i = a + 2 ^ i := by
  have := Nat.two_pow_add_eq_or_of_lt ha 1
  rw [Nat.mul_one] at this
  rw [Nat.or_comm, ← this, Nat.add_comm]
theorem rightN_full (Y : MY) (b : Nat → Int) (i : Nat) : rightN Y b i = 2 ^ i - 1 ↔ ∀ k, k < i → RightB Y b k := by
  induction i with
  | zero => simp [rightN]
  | succ i ih =>
    have hl := rightN_lt Y b i
    simp only [rightN]
    rw [Nat.pow_succ]
    by_cases hr : RightB Y b i
    · rw [if_pos hr, or_pow hl]
      constructor
      · intro e k hk
        by_cases hki : k = i
        · subst hki; exact hr
        · exact ih.1 (by omega) k (by omega)
      · intro ha
        have := ih.2 fun k hk => ha k (by omega)
        omega
    · rw [if_neg hr]
      constructor
      · intro e; omega
      · intro ha; exact absurd (ha i (by omega)) hr
/-- a yard as it should be -/
structure Good (Y : MY) : Prop where
  sz : SizesOk Y
  f : FieldsOk Y
  v : VatsOk Y
  s : SampsOk Y
theorem AreB.range {Y : MY} {nb : Nat} {b : Nat → Int} (hb : AreB Y nb b) (hY : FieldsOk Y) : ∀ k, k < nb → 0 ≤ b k ∧ b k ≤ 20 := by
  intro k hk
  obtain ⟨h1, h2⟩ := hb.2 k hk
  obtain ⟨h3, h4, h5⟩ := hY k (by rw [← hb.1]; exact hk)
  constructor <;> omega
def s88 : SCode := (.seq (.ops [⟨(some 2), none, .box (T 0)⟩, ⟨(some 4), none, .mov (.const (.int .i64 (0)))⟩]) (.seq (.ops [⟨(some 5), none, .mov (.const (.int .i64 (0)))⟩]) (.seq (.seq (.ops [⟨(some 6), none, .mov (.const (.int .i64 (0)))⟩]) (.block 0 (.loop (.seq (.seq (.ops [⟨(some 8), none, .mov (T 6)⟩, ⟨(some 9), none, .fieldAddr 2 (T 2)⟩, ⟨(some 10), none, .load1 (T 9)⟩, ⟨(some 11), none, .len (T 10)⟩, ⟨(some 12), none, .int2 .lss (T 8) (T 11)⟩]) (.cond (T 12) .skip (.exit 0))) (.seq (.block 1 (.seq (.ops [⟨(some 15), none, .fieldAddr 2 (T 2)⟩, ⟨(some 16), none, .load1 (T 15)⟩, ⟨(some 17), none, .mov (T 6)⟩, ⟨(some 18), none, .idxSl 3 (T 16) (T 17)⟩, ⟨(some 19), none, .loadN 3 (T 18)⟩, ⟨(some 7), none, .alloc [(.int .i64 (0)), (.int .i64 (0)), (.int .i64 (0))]⟩, ⟨none, none, .store 3 (T 7) (T 19)⟩]) (.seq (.draw [⟨.rd1, ⟨(some 20), none, .loadN 3 (T 2)⟩⟩, ⟨.free, ⟨(some 21), none, .mov (T 1)⟩⟩, ⟨.free, ⟨(some 22), none, .fieldAddr 0 (T 7)⟩⟩, ⟨.rd1, ⟨(some 23), none, .load1 (T 22)⟩⟩, ⟨.up, ⟨(some 24), none, .call (.func 33) [(T 20), (T 21), (T 23)]⟩⟩, ⟨.free, ⟨(some 25), none, .fieldAddr 1 (T 7)⟩⟩, ⟨.free, ⟨(some 26), none, .fieldAddr 0 (T 25)⟩⟩, ⟨.rd, ⟨(some 27), none, .load1 (T 26)⟩⟩, ⟨.free, ⟨(some 28), none, .fieldAddr 1 (T 7)⟩⟩, ⟨.free, ⟨(some 29), none, .fieldAddr 1 (T 28)⟩⟩, ⟨.rd, ⟨(some 30), none, .load1 (T 29)⟩⟩, ⟨.any, ⟨(some 31), none, .call (.func 42) [(T 24), (T 27), (T 30)]⟩⟩]) (.cond (T 31) (.ops [⟨(some 32), none, .mov (T 5)⟩, ⟨(some 33), none, .mov (T 6)⟩, ⟨(some 34), none, .plain (.convert 3 104 (T 33)) 104⟩, ⟨(some 35), none, .plain (.binOp .shl 3 (.const (.int .i64 (1))) (T 34) 104) 3⟩, ⟨(some 36), none, .plain (.binOp .or 3 (T 32) (T 35) 3) 3⟩, ⟨(some 5), none, .mov (T 36)⟩]) .skip)))) (.ops [⟨(some 13), none, .mov (T 6)⟩, ⟨(some 14), none, .int2 .add (T 13) (.const (.int .i64 (1)))⟩, ⟨(some 6), none, .mov (T 14)⟩])))))) (.seq (.ops [⟨(some 37), none, .mov (T 5)⟩, ⟨(some 4), none, .mov (T 37)⟩]) .ret))))
theorem fok88 : FnOk Try.prog 88 38 s88 [.tmp 4] := ⟨Try.f88, _, Try.func88, rfl, Try.ntmps88, by kernel_rfl, by kernel_rfl⟩
theorem right_c (hn : 10002 ≤ n) (hr : h.next + 10 < far) {fv vv sv vb : Value} {Y : MY} {nb : Nat} {b : Nat → Int} (hy : YardR h fv vv sv Y) (hb : Ints h vb nb b) (hY : Good Y) (hB : AreB Y nb b) :
    call n (.func (.func 88) #[] #[]) [.agg ⟨[fv, vv, sv]⟩, vb] h = some (.int .i64 (rightN Y b Y.ns : Nat), h) := by
  obtain ⟨n, rfl⟩ : ∃ p, n = p + 1 := ⟨n - 1, by omega⟩
  refine call_plain0 fok88 rfl rfl (by simp) rfl ?_
  have hy := hy.shut
  have hb := Cells.shut hb
  have hr : h.shutAll.next + 10 < far := hr
  have hfl : h.shutAll.floor ≤ h.shutAll.next := Nat.le_refl _
  generalize h.shutAll = h at hy hb hr hfl
  obtain ⟨z1, z2, z3⟩ := hY.sz
  have hbr := hB.range hY.f
  simp only [s88, W_seq, W_ops]
  refine ops_box (cs := [fv, vv, sv]) (by omega) rfl hy.one fun h1 hx => ?_
  have hy := hy.mono hx.sub
  have hb := Cells.mono hb hx.sub
  have hrow : Row h1 h.next [fv, vv, sv] := hx.row
  simp only [rn0, rn1, rn2, rn3, rn4, rn5, rn6, rn7, rn8, if_true, if_false, Nat.le_refl, true_and, and_true, decide_true, decide_false, Bool.not_true, Bool.not_false, reduceIte, Nat.reduceEqDiff, Nat.reduceAdd, Nat.reduceMul, Nat.reduceSub, Nat.reduceLeDiff, Nat.reduceLT]
  refine W_loop Y.ns (fun k f g m => (Sub All h1 g ∧ g.next = h1.next + k ∧ g.floor = h1.floor) ∧ m = [] ∧ f 1 = vb ∧ f 2 = .pointer (some ⟨h.next, 0, none⟩) ∧ f 5 = .int .i64 (rightN Y b k : Nat) ∧ f 6 = .int .i64 (k : Int)) (by simp; omega) ?_ ?_ ?_
  · simp only [rn0, rn1, rn2, rn3, rn4, rn5, rn6, rn7, rn8, if_true, if_false, Nat.le_refl, true_and, and_true, decide_true, decide_false, Bool.not_true, Bool.not_false, reduceIte, Nat.reduceEqDiff, Nat.reduceAdd, Nat.reduceMul, Nat.reduceSub, Nat.reduceLeDiff, Nat.reduceLT, Nat.add_zero]
    simp [rightN]
  · rintro k f g m hk ⟨⟨g1, g2, g3⟩, rfl, f1, f2, f5, f6⟩
    have hk' : (k : Int) < (Y.ns : Int) := by omega
    have hw : wrapF .i64 ((k : Int) + 1) = ((k + 1 : Nat) : Int) := by rw [wrap_in (by omega) (by omega)]; rfl
    have hyg := hy.mono g1
    have hrg := hrow.mono g1
    have hbg := Cells.mono hb g1
    simp only [rn0, rn1, rn2, rn3, rn4, rn5, rn6, rn7, rn8, if_true, if_false, Nat.le_refl, true_and, and_true, decide_true, decide_false, Bool.not_true, Bool.not_false, reduceIte, Nat.reduceEqDiff, Nat.reduceAdd, Nat.reduceMul, Nat.reduceSub, Nat.reduceLeDiff, Nat.reduceLT, f1, f2, f5, f6, hrg.ld, Nat.zero_add, List.getElem?_cons_zero, List.getElem?_cons_succ, Cells.len hyg.s, hk', Cells.idx hyg.s hk, samps_ld hyg.s hk]
    have hgn : g.next + 5 < far := by rw [g2, hx.next]; omega
    have hgf : g.floor ≤ g.next := by rw [g3, hx.floor, g2, hx.next]; omega
    refine step_new (vs := [.int .i64 (Y.sv k), .int .i64 (Y.slo k), .int .i64 (Y.shi k)]) (by omega) hgf rfl (by simp only [rn0, rn1, rn2, rn3, rn4, rn5, rn6, rn7, rn8, if_true, if_false, Nat.le_refl, true_and, and_true, decide_true, decide_false, Bool.not_true, Bool.not_false, reduceIte, Nat.reduceEqDiff, Nat.reduceAdd, Nat.reduceMul, Nat.reduceSub, Nat.reduceLeDiff, Nat.reduceLT]; rfl) rfl rfl rfl fun g' hg' => ?_
    have hyg := hyg.mono hg'.sub
    have hrg := hrg.mono hg'.sub
    have hbg := Cells.mono hbg hg'.sub
    have hnx : g'.next < far := by rw [hg'.next]; omega
    have hin : (Sub All h1 g' ∧ g'.next = h1.next + (k + 1) ∧ g'.floor = h1.floor) = True := eq_true ⟨g1.trans hg'.sub, by rw [hg'.next, g2]; omega, by rw [hg'.floor, g3]⟩
    obtain ⟨⟨s1, s2⟩, s3⟩ := hY.s k hk
    have hsv : Y.sv k = ((Y.sv k).toNat : Int) := by omega
    obtain ⟨v1, v2⟩ := hY.v (Y.sv k).toNat (by omega)
    have hbl := blue_c (n := n) (h := g') (at_ := (Y.sv k).toNat) (by omega) hnx hyg hbg (by have := hB.1; omega) (by omega) (by rw [v1, hB.1]; exact Nat.le_refl _) hbr (fun i hi => v2 i (by rw [v1, ← hB.1]; exact hi))
    rw [← hsv, hB.1] at hbl
    have hpk : (2 ^ k : Nat) < 2 ^ 62 := Nat.pow_lt_pow_right (by omega) (by omega)
    have hrk : rightN Y b k < 2 ^ 62 := Nat.lt_trans (rightN_lt Y b k) hpk
    simp only [rn0, rn1, rn2, rn3, rn4, rn5, rn6, rn7, rn8, if_true, if_false, Nat.le_refl, true_and, and_true, decide_true, decide_false, Bool.not_true, Bool.not_false, reduceIte, Nat.reduceEqDiff, Nat.reduceAdd, Nat.reduceMul, Nat.reduceSub, Nat.reduceLeDiff, Nat.reduceLT]
    refine W_draw All ?_
    by_cases hR : RightB Y b k
    · have hR' : Y.slo k ≤ blueN b (Y.q (Y.sv k).toNat) Y.nf ∧ blueN b (Y.q (Y.sv k).toNat) Y.nf ≤ Y.shi k := hR
      have hnew : rightN Y b (k + 1) = rightN Y b k ||| 2 ^ k := by simp only [rightN]; rw [if_pos hR]
      simp only [rn0, rn1, rn2, rn3, rn4, rn5, rn6, rn7, rn8, if_true, if_false, Nat.le_refl, true_and, and_true, decide_true, decide_false, Bool.not_true, Bool.not_false, reduceIte, Nat.reduceEqDiff, Nat.reduceAdd, Nat.reduceMul, Nat.reduceSub, Nat.reduceLeDiff, Nat.reduceLT, f1, f2, f5, f6, hrg.ld, hrg.ldN 0 3 (by simp) (by simp), hg'.ld, List.drop_zero, List.take_succ_cons, List.take_zero, Nat.zero_add, List.getElem?_cons_zero, List.getElem?_cons_succ, hbl, in_c (n := n) (by omega), hR', p_uint, r_conv (k := k) (by omega), r_shl (k := k) (by omega), r_or hrk hpk, hnew, hin, hw]
    · have hR' : ¬ (Y.slo k ≤ blueN b (Y.q (Y.sv k).toNat) Y.nf ∧ blueN b (Y.q (Y.sv k).toNat) Y.nf ≤ Y.shi k) := hR
      have hnew : rightN Y b (k + 1) = rightN Y b k := by simp only [rightN]; rw [if_neg hR]
      simp only [rn0, rn1, rn2, rn3, rn4, rn5, rn6, rn7, rn8, if_true, if_false, Nat.le_refl, true_and, and_true, decide_true, decide_false, Bool.not_true, Bool.not_false, reduceIte, Nat.reduceEqDiff, Nat.reduceAdd, Nat.reduceMul, Nat.reduceSub, Nat.reduceLeDiff, Nat.reduceLT, f1, f2, f5, f6, hrg.ld, hrg.ldN 0 3 (by simp) (by simp), hg'.ld, List.drop_zero, List.take_succ_cons, List.take_zero, Nat.zero_add, List.getElem?_cons_zero, List.getElem?_cons_succ, hbl, in_c (n := n) (by omega), hR', hnew, hin, hw]
  · rintro f g m ⟨⟨g1, g2, g3⟩, rfl, f1, f2, f5, f6⟩
    simp only [rn0, rn1, rn2, rn3, rn4, rn5, rn6, rn7, rn8, if_true, if_false, Nat.le_refl, true_and, and_true, decide_true, decide_false, Bool.not_true, Bool.not_false, reduceIte, Nat.reduceEqDiff, Nat.reduceAdd, Nat.reduceMul, Nat.reduceSub, Nat.reduceLeDiff, Nat.reduceLT, f1, f2, f5, f6, (hrow.mono g1).ld, Nat.zero_add, List.getElem?_cons_zero, List.getElem?_cons_succ, Cells.len (hy.mono g1).s, Int.lt_irrefl]
def s70 : SCode := (.seq (.ops [⟨(some 1), none, .box (T 0)⟩, ⟨(some 2), none, .mov (.const (.int .i64 (0)))⟩]) (.seq (.ops [⟨(some 3), none, .fieldAddr 2 (T 1)⟩, ⟨(some 4), none, .load1 (T 3)⟩, ⟨(some 5), none, .len (T 4)⟩, ⟨(some 6), none, .plain (.convert 3 104 (T 5)) 104⟩, ⟨(some 7), none, .plain (.binOp .shl 3 (.const (.int .i64 (1))) (T 6) 104) 3⟩, ⟨(some 8), none, .int2 .sub (T 7) (.const (.int .i64 (1)))⟩, ⟨(some 2), none, .mov (T 8)⟩]) .ret))
theorem fok70 : FnOk Try.prog 70 9 s70 [.tmp 2] := ⟨Try.f70, _, Try.func70, rfl, Try.ntmps70, by kernel_rfl, by kernel_rfl⟩
theorem full_c (hn : 1 ≤ n) (hr : h.next < far) {fv vv sv : Value} {Y : MY} (hy : YardR h fv vv sv Y) (hl : Y.ns ≤ 5) :
    call n (.func (.func 70) #[] #[]) [.agg ⟨[fv, vv, sv]⟩] h = some (.int .i64 ((2 ^ Y.ns - 1 : Nat) : Int), h) := by
  obtain ⟨n, rfl⟩ : ∃ p, n = p + 1 := ⟨n - 1, by omega⟩
  refine call_plain0 fok70 rfl rfl (by simp) rfl ?_
  have hy := hy.shut
  have hr : h.shutAll.next < far := hr
  generalize h.shutAll = h at hy hr
  simp only [s70, W_seq, W_ops]
  refine ops_box (cs := [fv, vv, sv]) (by omega) rfl hy.one fun h1 hx => ?_
  have hy := hy.mono hx.sub
  have hp : (2 ^ Y.ns : Nat) < 2 ^ 62 := Nat.pow_lt_pow_right (by omega) (by omega)
  have hp0 : 0 < (2 ^ Y.ns : Nat) := Nat.pow_pos (by omega)
  have hw : wrapF .i64 (((2 ^ Y.ns : Nat) : Int) - 1) = ((2 ^ Y.ns - 1 : Nat) : Int) := by rw [wrap_in (by omega) (by omega)]; omega
  simp only [rn0, rn1, rn2, rn3, rn4, rn5, rn6, rn7, rn8, if_true, if_false, Nat.le_refl, true_and, and_true, decide_true, decide_false, Bool.not_true, Bool.not_false, reduceIte, Nat.reduceEqDiff, Nat.reduceAdd, Nat.reduceMul, Nat.reduceSub, Nat.reduceLeDiff, Nat.reduceLT, hx.ld, Nat.zero_add, List.getElem?_cons_zero, List.getElem?_cons_succ, Cells.len hy.s, p_uint, r_conv (k := Y.ns) (by omega), r_shl (k := Y.ns) (by omega), hw]
end Go.Vm.Vat

namespace Go.Vm.Vat
open Go.Proofs
set_option linter.unusedSimpArgs false
set_option linter.unusedVariables false
set_option maxRecDepth 10000
variable {n : Nat} {h : AHeap}
/-- a list is a truth -/
def IsTr (Y : MY) (nb : Nat) (b : Nat → Int) : Prop := AreB Y nb b ∧ ∀ k, k < Y.ns → RightB Y b k
noncomputable instance (Y : MY) (nb : Nat) (b : Nat → Int) : Decidable (IsTr Y nb b) := Classical.propDecidable _
def s29 : SCode := (.seq (.ops [⟨(some 1), none, .box (T 0)⟩, ⟨(some 2), none, .mov (.const (.int .i64 (0)))⟩]) (.seq (.ops [⟨(some 3), none, .loadN 3 (T 1)⟩, ⟨(some 4), none, .call (.func 80) [(T 3)]⟩, ⟨(some 2), none, .mov (T 4)⟩]) .ret))
theorem fok29 : FnOk Try.prog 29 5 s29 [.tmp 2] := ⟨Try.f29, _, Try.func29, rfl, Try.ntmps29, by kernel_rfl, by kernel_rfl⟩
theorem faultL_c (hn : 10004 ≤ n) (hr : h.next + 21 < far) {fv vv sv : Value} {Y : MY} (hy : YardR h fv vv sv Y) :
    call n (.func (.func 29) #[] #[]) [.agg ⟨[fv, vv, sv]⟩] h = some (.int .i64 (faultN Y), h) := by
  obtain ⟨n, rfl⟩ : ∃ p, n = p + 1 := ⟨n - 1, by omega⟩
  refine call_plain0 fok29 rfl rfl (by simp) rfl ?_
  have hy := hy.shut
  have hr : h.shutAll.next + 21 < far := hr
  generalize h.shutAll = h at hy hr
  simp only [s29, W_seq, W_ops]
  refine ops_box (cs := [fv, vv, sv]) (by omega) rfl hy.one fun h1 hx => ?_
  have hy := hy.mono hx.sub
  have hr1 : h1.next + 20 < far := by rw [hx.next]; omega
  simp only [rn0, rn1, rn2, rn3, rn4, rn5, rn6, rn7, rn8, if_true, if_false, Nat.le_refl, true_and, and_true, decide_true, decide_false, Bool.not_true, Bool.not_false, reduceIte, Nat.reduceEqDiff, Nat.reduceAdd, Nat.reduceMul, Nat.reduceSub, Nat.reduceLeDiff, Nat.reduceLT, hx.ldN 0 3 (by simp) (by simp), List.drop_zero, List.take_succ_cons, List.take_zero, fault_c (n := n) (by omega) hr1 hy]
/-- the lists are short -/
def Thin (Y : MY) : Prop := Y.nf ≤ 30 ∧ Y.nv ≤ 30 ∧ Y.ns ≤ 30 ∧ ∀ v, v < Y.nv → Y.cnt v ≤ 30
noncomputable instance (Y : MY) : Decidable (Thin Y) := Classical.propDecidable _
def s23 : SCode := (.seq (.ops [⟨(some 1), none, .box (T 0)⟩, ⟨(some 2), none, .mov (.const (.bool false))⟩]) (.seq (.seq (.ops [⟨(some 4), none, .fieldAddr 0 (T 1)⟩, ⟨(some 5), none, .load1 (T 4)⟩, ⟨(some 6), none, .len (T 5)⟩, ⟨(some 7), none, .int2 .gtr (T 6) (.const (.int .i64 (30)))⟩, ⟨(some 8), none, .mov (T 7)⟩, ⟨(some 9), (some (8, false)), .fieldAddr 1 (T 1)⟩, ⟨(some 10), (some (8, false)), .load1 (T 9)⟩, ⟨(some 11), (some (8, false)), .len (T 10)⟩, ⟨(some 12), (some (8, false)), .int2 .gtr (T 11) (.const (.int .i64 (30)))⟩, ⟨(some 13), none, .pick (T 8) (.const (.bool true)) (T 12)⟩, ⟨(some 14), none, .mov (T 13)⟩, ⟨(some 15), (some (14, false)), .fieldAddr 2 (T 1)⟩, ⟨(some 16), (some (14, false)), .load1 (T 15)⟩, ⟨(some 17), (some (14, false)), .len (T 16)⟩, ⟨(some 18), (some (14, false)), .int2 .gtr (T 17) (.const (.int .i64 (30)))⟩, ⟨(some 19), none, .pick (T 14) (.const (.bool true)) (T 18)⟩]) (.cond (T 19) (.seq (.ops [⟨(some 2), none, .mov (.const (.bool false))⟩]) .ret) .skip)) (.seq (.seq (.ops [⟨(some 3), none, .mov (.const (.int .i64 (0)))⟩]) (.block 0 (.loop (.seq (.seq (.ops [⟨(some 20), none, .mov (T 3)⟩, ⟨(some 21), none, .fieldAddr 1 (T 1)⟩, ⟨(some 22), none, .load1 (T 21)⟩, ⟨(some 23), none, .len (T 22)⟩, ⟨(some 24), none, .int2 .lss (T 20) (T 23)⟩]) (.cond (T 24) .skip (.exit 0))) (.seq (.block 1 (.seq (.ops [⟨(some 27), none, .fieldAddr 1 (T 1)⟩, ⟨(some 28), none, .load1 (T 27)⟩, ⟨(some 29), none, .mov (T 3)⟩, ⟨(some 30), none, .idxSl 1 (T 28) (T 29)⟩, ⟨(some 31), none, .load1 (T 30)⟩, ⟨(some 32), none, .len (T 31)⟩, ⟨(some 33), none, .int2 .gtr (T 32) (.const (.int .i64 (30)))⟩]) (.cond (T 33) (.seq (.ops [⟨(some 2), none, .mov (.const (.bool false))⟩]) .ret) .skip))) (.ops [⟨(some 25), none, .mov (T 3)⟩, ⟨(some 26), none, .int2 .add (T 25) (.const (.int .i64 (1)))⟩, ⟨(some 3), none, .mov (T 26)⟩])))))) (.seq (.ops [⟨(some 2), none, .mov (.const (.bool true))⟩]) .ret))))
theorem fok23 : FnOk Try.prog 23 34 s23 [.tmp 2] := ⟨Try.f23, _, Try.func23, rfl, Try.ntmps23, by kernel_rfl, by kernel_rfl⟩
theorem thin_c (hn : 10001 ≤ n) (hr : h.next + 1 < far) {fv vv sv : Value} {Y : MY} (hy : YardR h fv vv sv Y) :
    call n (.func (.func 23) #[] #[]) [.agg ⟨[fv, vv, sv]⟩] h = some (.bool (decide (Thin Y)), h) := by
  obtain ⟨n, rfl⟩ : ∃ p, n = p + 1 := ⟨n - 1, by omega⟩
  refine call_plain0 fok23 rfl rfl (by simp) rfl ?_
  have hy := hy.shut
  have hr : h.shutAll.next + 1 < far := hr
  generalize h.shutAll = h at hy hr
  simp only [s23, W_seq, W_ops]
  refine ops_box (cs := [fv, vv, sv]) (by omega) rfl hy.one fun h1 hx => ?_
  have hy := hy.mono hx.sub
  obtain ⟨r, hrw, hq⟩ := hy.v
  by_cases c1 : 30 < Y.nf
  · have c1' : (30 : Int) < Y.nf := by omega
    have ht : ¬ Thin Y := fun h => by have := h.1; omega
    simp only [rn0, rn1, rn2, rn3, rn4, rn5, rn6, rn7, rn8, if_true, if_false, Nat.le_refl, true_and, and_true, decide_true, decide_false, Bool.not_true, Bool.not_false, reduceIte, Nat.reduceEqDiff, Nat.reduceAdd, Nat.reduceMul, Nat.reduceSub, Nat.reduceLeDiff, Nat.reduceLT, hx.ld, Nat.zero_add, List.getElem?_cons_zero, List.getElem?_cons_succ, Cells.len hy.f, Cells.len hrw, Cells.len hy.s, c1', ht]
  have c1' : ¬ (30 : Int) < Y.nf := by omega
  by_cases c2 : 30 < Y.nv
  · have c2' : (30 : Int) < Y.nv := by omega
    have ht : ¬ Thin Y := fun h => by have := h.2.1; omega
    simp only [rn0, rn1, rn2, rn3, rn4, rn5, rn6, rn7, rn8, if_true, if_false, Nat.le_refl, true_and, and_true, decide_true, decide_false, Bool.not_true, Bool.not_false, reduceIte, Nat.reduceEqDiff, Nat.reduceAdd, Nat.reduceMul, Nat.reduceSub, Nat.reduceLeDiff, Nat.reduceLT, hx.ld, Nat.zero_add, List.getElem?_cons_zero, List.getElem?_cons_succ, Cells.len hy.f, Cells.len hrw, Cells.len hy.s, c1', c2', ht]
  have c2' : ¬ (30 : Int) < Y.nv := by omega
  by_cases c3 : 30 < Y.ns
  · have c3' : (30 : Int) < Y.ns := by omega
    have ht : ¬ Thin Y := fun h => by have := h.2.2.1; omega
    simp only [rn0, rn1, rn2, rn3, rn4, rn5, rn6, rn7, rn8, if_true, if_false, Nat.le_refl, true_and, and_true, decide_true, decide_false, Bool.not_true, Bool.not_false, reduceIte, Nat.reduceEqDiff, Nat.reduceAdd, Nat.reduceMul, Nat.reduceSub, Nat.reduceLeDiff, Nat.reduceLT, hx.ld, Nat.zero_add, List.getElem?_cons_zero, List.getElem?_cons_succ, Cells.len hy.f, Cells.len hrw, Cells.len hy.s, c1', c2', c3', ht]
  have c3' : ¬ (30 : Int) < Y.ns := by omega
  simp only [rn0, rn1, rn2, rn3, rn4, rn5, rn6, rn7, rn8, if_true, if_false, Nat.le_refl, true_and, and_true, decide_true, decide_false, Bool.not_true, Bool.not_false, reduceIte, Nat.reduceEqDiff, Nat.reduceAdd, Nat.reduceMul, Nat.reduceSub, Nat.reduceLeDiff, Nat.reduceLT, hx.ld, Nat.zero_add, List.getElem?_cons_zero, List.getElem?_cons_succ, Cells.len hy.f, Cells.len hrw, Cells.len hy.s, c1', c2', c3']
  refine W_loop Y.nv (fun k f h' m => h' = h1 ∧ m = [] ∧ f 1 = .pointer (some ⟨h.next, 0, none⟩) ∧ f 3 = .int .i64 (k : Int) ∧ ∀ v, v < k → Y.cnt v ≤ 30) (by simp; omega) ?_ ?_ ?_
  · simp only [rn0, rn1, rn2, rn3, rn4, rn5, rn6, rn7, rn8, if_true, if_false, Nat.le_refl, true_and, and_true, decide_true, decide_false, Bool.not_true, Bool.not_false, reduceIte, Nat.reduceEqDiff, Nat.reduceAdd, Nat.reduceMul, Nat.reduceSub, Nat.reduceLeDiff, Nat.reduceLT, Nat.not_lt_zero, false_implies, implies_true]
    trivial
  · rintro k f h' m hk ⟨rfl, rfl, f1, f3, hlt⟩
    have hk' : (k : Int) < (Y.nv : Int) := by omega
    have hw : wrapF .i64 ((k : Int) + 1) = ((k + 1 : Nat) : Int) := by rw [wrap_in (by omega) (by omega)]; rfl
    by_cases hc : 30 < Y.cnt k
    · have hc' : (30 : Int) < Y.cnt k := by omega
      have ht : ¬ Thin Y := fun h => by have := h.2.2.2 k hk; omega
      simp only [rn0, rn1, rn2, rn3, rn4, rn5, rn6, rn7, rn8, if_true, if_false, Nat.le_refl, true_and, and_true, decide_true, decide_false, Bool.not_true, Bool.not_false, reduceIte, Nat.reduceEqDiff, Nat.reduceAdd, Nat.reduceMul, Nat.reduceSub, Nat.reduceLeDiff, Nat.reduceLT, f1, f3, hx.ld, Nat.zero_add, List.getElem?_cons_zero, List.getElem?_cons_succ, Cells.len hrw, hk', Cells.idx hrw hk, Cells.ld hrw hk Nat.zero_lt_one, Cells.len (hq k hk), hc', ht]
    · have hc' : ¬ (30 : Int) < Y.cnt k := by omega
      simp only [rn0, rn1, rn2, rn3, rn4, rn5, rn6, rn7, rn8, if_true, if_false, Nat.le_refl, true_and, and_true, decide_true, decide_false, Bool.not_true, Bool.not_false, reduceIte, Nat.reduceEqDiff, Nat.reduceAdd, Nat.reduceMul, Nat.reduceSub, Nat.reduceLeDiff, Nat.reduceLT, f1, f3, hx.ld, Nat.zero_add, List.getElem?_cons_zero, List.getElem?_cons_succ, Cells.len hrw, hk', Cells.idx hrw hk, Cells.ld hrw hk Nat.zero_lt_one, Cells.len (hq k hk), hc', hw]
      intro j hj
      by_cases e : j = k
      · subst e; omega
      · exact hlt j (by omega)
  · rintro f h' m ⟨rfl, rfl, f1, f3, hlt⟩
    have ht : Thin Y := ⟨by omega, by omega, by omega, hlt⟩
    simp only [rn0, rn1, rn2, rn3, rn4, rn5, rn6, rn7, rn8, if_true, if_false, Nat.le_refl, true_and, and_true, decide_true, decide_false, Bool.not_true, Bool.not_false, reduceIte, Nat.reduceEqDiff, Nat.reduceAdd, Nat.reduceMul, Nat.reduceSub, Nat.reduceLeDiff, Nat.reduceLT, f1, f3, hx.ld, Nat.zero_add, List.getElem?_cons_zero, List.getElem?_cons_succ, Cells.len hrw, Int.lt_irrefl, ht]
end Go.Vm.Vat

namespace Go.Vm.Vat
open Go.Proofs
set_option linter.unusedSimpArgs false
set_option linter.unusedVariables false
set_option maxRecDepth 10000
variable {n : Nat} {h : AHeap}
theorem build_range {x y : Int} : buildA (fun x => (#[(0, 1), (1, 1)] : Array (Nat × Nat))[x]?) ⟨[.int .i64 0, .int .i64 0]⟩ [0, 1] h [.int .i64 x, .int .i64 y] = some (.agg ⟨[.int .i64 x, .int .i64 y]⟩, h) := id rfl
def s37 : SCode := (.seq (.ops [⟨(some 1), none, .box (T 0)⟩, ⟨(some 2), none, .alloc [(.int .i64 (0)), (.int .i64 (0))]⟩]) (.seq (.ops [⟨(some 3), none, .fieldAddr 0 (T 1)⟩, ⟨(some 4), none, .load1 (T 3)⟩, ⟨(some 5), none, .fieldAddr 1 (T 1)⟩, ⟨(some 6), none, .load1 (T 5)⟩, ⟨(some 7), none, .build #[(0, 1), (1, 1)] [(.int .i64 (0)), (.int .i64 (0))] [0, 1] [(T 4), (T 6)]⟩, ⟨none, none, .store 2 (T 2) (T 7)⟩]) .ret))
theorem fok37 : FnOk Try.prog 37 8 s37 [.cellN 2 2] := ⟨Try.f37, _, Try.func37, rfl, Try.ntmps37, by kernel_rfl, by kernel_rfl⟩
theorem to_c (hn : 1 ≤ n) (hr : h.next + 2 < far) (lo hi : Int) : call n (.func (.func 37) #[] #[]) [.agg ⟨[.int .i64 lo, .int .i64 hi]⟩] h = some (.agg ⟨[.int .i64 lo, .int .i64 hi]⟩, h) := by
  obtain ⟨n, rfl⟩ : ∃ p, n = p + 1 := ⟨n - 1, by omega⟩
  refine call_plain0 fok37 rfl rfl (by simp) rfl ?_
  have hr : h.shutAll.next + 2 < far := hr
  have hfl : h.shutAll.floor ≤ h.shutAll.next := Nat.le_refl _
  generalize h.shutAll = h at hr hfl
  simp only [s37, W_seq, W_ops]
  refine ops_box (cs := [.int .i64 lo, .int .i64 hi]) (by omega) rfl rfl fun h1 hx => ?_
  refine ops_alloc (by rw [hx.next]; omega) rfl fun h2 hx2 => ?_
  have hrow := hx.row.mono hx2.sub
  have hr2 : h2.next ≤ far := by rw [hx2.next, hx.next]; omega
  have hf2 : h2.floor ≤ h1.next := by rw [hx2.floor, hx.floor, hx.next]; omega
  simp only [rn0, rn1, rn2, rn3, rn4, rn5, rn6, rn7, rn8, if_true, if_false, Nat.le_refl, true_and, and_true, decide_true, decide_false, Bool.not_true, Bool.not_false, reduceIte, Nat.reduceEqDiff, Nat.reduceAdd, Nat.reduceMul, Nat.reduceSub, Nat.reduceLeDiff, Nat.reduceLT, hrow.ld, Nat.zero_add, List.getElem?_cons_zero, List.getElem?_cons_succ, build_range]
  refine step_store (vs := [.int .i64 lo, .int .i64 hi]) rfl hx2.get hf2 hr2 rfl rfl rfl (by simp) fun h3 hs => ?_
  have := hs.row.ldN 0 2 (by simp [splice]) (by simp [splice])
  simp only [rn0, rn1, rn2, rn3, rn4, rn5, rn6, rn7, rn8, if_true, if_false, Nat.le_refl, true_and, and_true, decide_true, decide_false, Bool.not_true, Bool.not_false, reduceIte, Nat.reduceEqDiff, Nat.reduceAdd, Nat.reduceMul, Nat.reduceSub, Nat.reduceLeDiff, Nat.reduceLT, this, splice, List.take_zero, List.drop_zero, List.nil_append, List.length_cons, List.length_nil, List.drop_succ_cons, List.drop_nil, List.append_nil, List.take_succ_cons]
/-- what a call that makes lists leaves as it was, and where it may be -/
structure Made (h h1 : AHeap) (k : Nat) : Prop where
  sub : Sub All h h1
  next : h1.next ≤ h.next + k
  up : h.next ≤ h1.next
  floor : h1.floor = h.floor
theorem Ints.cells {v : Value} {m : Nat} {a : Nat → Int} (hi : Ints h v m a) : ∃ x k, v = .slice x m k ∧ cellsOfSlice h 1 v = some ((List.range m).map fun i => .int .i64 (a i)) := by
  obtain ⟨x, cap, rfl, _, h0 | ⟨b, o, cs, w, gr, rfl, h1, h2⟩⟩ := hi
  · subst h0
    refine ⟨x, cap, rfl, ?_⟩
    cases x <;> rfl
  · refine ⟨_, cap, rfl, ?_⟩
    by_cases hm : m = 0
    · subst hm; rfl
    have hb : Nat.beq m 0 = false := by
      cases hb : Nat.beq m 0 with
      | false => rfl
      | true => exact absurd (beq_iff.1 hb) hm
    show (bif Nat.beq m 0 then some [] else match h.get b with
      | some (.row cs _ _) => dropK cs o fun r => takeK r (m * 1) fun l => some l
      | _ => none) = _
    have hl := (List.getElem?_eq_some_iff.1 (h2 (m - 1) 0 (by omega) (by omega))).1
    rw [hb, cond_false, h1]
    simp only [dropK_eq, takeK_eq]
    rw [if_pos (by omega), if_pos (by rw [List.length_drop]; omega)]
    congr 1
    apply List.ext_getElem?
    intro i
    simp only [List.getElem?_map, List.getElem?_take, List.getElem?_drop, Nat.mul_one]
    by_cases hi : i < m
    · rw [if_pos hi, List.getElem?_range hi]
      have := h2 i 0 hi (by omega)
      rw [show o + i * 1 + 0 = o + i by omega] at this
      rw [this]; rfl
    · rw [if_neg hi, List.getElem?_eq_none (by simp; omega)]
      rfl
theorem build_none {z : Value} : buildSl 1 0 [z] [] h [] = newSlice h [] 0 0 0 := id rfl
theorem append_none {s bytes b : Nat} {y : Value} {m : Nat} {new : List Value} (hy : ∃ x k, y = .slice x m k) (hyc : cellsOfSlice h s y = some new) (hnl : new.length = m * s) (hb1 : m * bytes ≤ maxBytes) (hb2 : m ≤ maxBytes) :
    appendA s bytes h (.slice (some ⟨b, 0, none⟩) 0 0) y = if m = 0 then some (.slice (some ⟨b, 0, none⟩) 0 0, h) else newSlice h new m unk s := by
  obtain ⟨a, k, rfl⟩ := hy
  have e1 : Nat.ble ((0 + m) * bytes) maxBytes = true := ble_iff.2 (by rw [Nat.zero_add]; exact hb1)
  have e2 : Nat.ble (0 + m) maxBytes = true := ble_iff.2 (by omega)
  have e3 : Nat.beq (len new) (m * s) = true := by rw [len_eq]; exact beq_iff.2 hnl
  unfold appendA
  simp only [hyc, e1, e2, e3, Bool.and_self, cond_true]
  by_cases hm : m = 0
  · subst hm
    rw [if_pos rfl]
    rfl
  · rw [if_neg hm]
    have e4 : Nat.ble (0 + m) 0 = false := by
      cases hb : Nat.ble (0 + m) 0 with
      | false => rfl
      | true => have := ble_iff.1 hb; omega
    rw [e4, Bool.false_and, cond_false]
    unfold appendGrow
    have e5 : cellsOfSlice h s (.slice (some ⟨b, 0, none⟩) 0 0) = some [] := rfl
    have e6 : Nat.blt 0 unk = true := rfl
    simp only [e5, e6, cond_true, app_eq, List.nil_append, Nat.zero_add]
def s27 : SCode := (.seq (.ops [⟨(some 2), none, .mov (.const (.slice none 0 0))⟩]) (.seq (.ops [⟨(some 3), none, .bslice 1 0 [(.int .i64 (0))] [] []⟩, ⟨(some 4), none, .mov (T 0)⟩, ⟨(some 5), none, .append 1 8 (T 3) (T 4)⟩, ⟨(some 2), none, .mov (T 5)⟩]) .ret))
theorem fok27 : FnOk Try.prog 27 6 s27 [.tmp 2] := ⟨Try.f27, _, Try.func27, rfl, Try.ntmps27, by kernel_rfl, by kernel_rfl⟩
theorem list_c (hn : 1 ≤ n) (hr : h.next + 2 < far) {v : Value} {m : Nat} {a : Nat → Int} (hi : Ints h v m a) (hm : m ≤ 30) :
    ∃ v' h', call n (.func (.func 27) #[] #[]) [v] h = some (v', h') ∧ Ints h' v' m a ∧ Made h h' 2 ∧ oneCell v' = true ∧ ∀ a k c, v' = .slice (some a) k c → h.next ≤ a.block ∧ a.block < h'.next := by
  obtain ⟨n, rfl⟩ : ∃ p, n = p + 1 := ⟨n - 1, by omega⟩
  refine call_any0 fok27 rfl rfl (by simp) ?_
  simp only [rn0, rn1, rn2, rn3, rn4, rn5, rn6, rn7, rn8, if_true, if_false, Nat.le_refl, true_and, and_true, decide_true, decide_false, Bool.not_true, Bool.not_false, reduceIte, Nat.reduceEqDiff, Nat.reduceAdd, Nat.reduceMul, Nat.reduceSub, Nat.reduceLeDiff, Nat.reduceLT, s27, build_none]
  refine step_slice (by omega) rfl fun h1 hx => ?_
  have hi1 := Cells.mono hi hx.sub
  obtain ⟨x, k, e1, e2⟩ := Ints.cells hi1
  have hap := append_none (s := 1) (bytes := 8) (b := h.next) ⟨x, k, e1⟩ e2 (by simp) (by simp [maxBytes]; omega) (by simp [maxBytes]; omega)
  by_cases hz : m = 0
  · rw [if_pos hz] at hap
    simp only [rn0, rn1, rn2, rn3, rn4, rn5, rn6, rn7, rn8, if_true, if_false, Nat.le_refl, true_and, and_true, decide_true, decide_false, Bool.not_true, Bool.not_false, reduceIte, Nat.reduceEqDiff, Nat.reduceAdd, Nat.reduceMul, Nat.reduceSub, Nat.reduceLeDiff, Nat.reduceLT, hap]
    refine ⟨⟨_, _, by rw [hz], fun x e => by cases e; rfl, .inl hz⟩, ⟨hx.sub, by rw [hx.next]; omega, by rw [hx.next]; omega, hx.floor⟩, rfl, fun a k c e => by cases e; exact ⟨Nat.le_refl _, by rw [hx.next]; exact Nat.lt_succ_self _⟩⟩
  · rw [if_neg hz] at hap
    simp only [rn0, rn1, rn2, rn3, rn4, rn5, rn6, rn7, rn8, if_true, if_false, Nat.le_refl, true_and, and_true, decide_true, decide_false, Bool.not_true, Bool.not_false, reduceIte, Nat.reduceEqDiff, Nat.reduceAdd, Nat.reduceMul, Nat.reduceSub, Nat.reduceLeDiff, Nat.reduceLT, hap]
    refine step_slice (by rw [hx.next]; omega) (by rw [allB_iff]; intro v hv; obtain ⟨i, _, rfl⟩ := List.mem_map.1 hv; rfl) fun h2 hx2 => ?_
    simp only [rn0, rn1, rn2, rn3, rn4, rn5, rn6, rn7, rn8, if_true, if_false, Nat.le_refl, true_and, and_true, decide_true, decide_false, Bool.not_true, Bool.not_false, reduceIte, Nat.reduceEqDiff, Nat.reduceAdd, Nat.reduceMul, Nat.reduceSub, Nat.reduceLeDiff, Nat.reduceLT]
    refine ⟨⟨_, _, rfl, fun x e => by cases e; rfl, .inr ⟨_, 0, _, _, _, rfl, hx2.get, fun k j hk hj => ?_⟩⟩, ⟨hx.sub.trans hx2.sub, by rw [hx2.next, hx.next]; omega, by rw [hx2.next, hx.next]; omega, by rw [hx2.floor, hx.floor]⟩, rfl, fun a k c e => by cases e; exact ⟨by show h.next ≤ h1.next; rw [hx.next]; omega, by rw [hx2.next]; exact Nat.lt_succ_self _⟩⟩
    rw [show 0 + k * 1 + j = k by omega, List.getElem?_map, List.getElem?_range hk]
    rfl
end Go.Vm.Vat

namespace Go.Vm.Vat
open Go.Proofs
set_option linter.unusedSimpArgs false
set_option linter.unusedVariables false
set_option maxRecDepth 10000
variable {n : Nat} {h : AHeap}
theorem sl_range {x y : Int} : buildSl 2 1 [.int .i64 0, .int .i64 0] [0] h [.agg ⟨[.int .i64 x, .int .i64 y]⟩] = newSlice h [.int .i64 x, .int .i64 y] 1 1 0 := id rfl
theorem sl_samp {x y z : Int} : buildSl 3 1 [.int .i64 0, .int .i64 0, .int .i64 0] [0] h [.agg ⟨[.int .i64 x, .int .i64 y, .int .i64 z]⟩] = newSlice h [.int .i64 x, .int .i64 y, .int .i64 z] 1 1 0 := id rfl
theorem sl_one {v : Value} (hv : oneCell v = true) : buildSl 1 1 [.slice none 0 0] [0] h [v] = newSlice h [v] 1 1 0 := by
  cases v <;> first | rfl | cases hv
theorem build_samp {x y z : Int} : buildA (fun x => (#[(0, 1), (1, 2)] : Array (Nat × Nat))[x]?) ⟨[.int .i64 0, .int .i64 0, .int .i64 0]⟩ [0, 1] h [.int .i64 x, .agg ⟨[.int .i64 y, .int .i64 z]⟩] = some (.agg ⟨[.int .i64 x, .int .i64 y, .int .i64 z]⟩, h) := id rfl
abbrev nilS : Value := .slice none 0 0
theorem grew {o : Nat} {b g1 g2 : AHeap} {x : Value} {r : AObj} (k : Keep o b g1) (hk : Kept g1 g2 x) (hb : ∀ a k c, x = .slice (some a) k c → b.next ≤ a.block) (ho : o < b.next) (hout : g1.get o = some r) : Keep o b g2 ∧ g2.get o = some r :=
  ⟨hk.keep k hb, by rw [hk.old o (AHeap.lt_of_get hout) fun a k c e => by have := hb a k c e; omega]; exact hout⟩
theorem set_keep {o : Nat} {b g1 g2 : AHeap} {cs : List Value} {gr : Nat} (k : Keep o b g1) (hs : Set1 g1 g2 o cs gr) : Keep o b g2 := k.trans hs.keep
def s26 : SCode := (.seq (.ops [⟨(some 1), none, .box (T 0)⟩, ⟨(some 2), none, .alloc [(.slice none 0 0), (.slice none 0 0), (.slice none 0 0)]⟩]) (.seq (.ops [⟨(some 3), none, .alloc [(.slice none 0 0), (.slice none 0 0), (.slice none 0 0)]⟩]) (.seq (.seq (.ops [⟨(some 4), none, .mov (.const (.int .i64 (0)))⟩]) (.block 0 (.loop (.seq (.seq (.ops [⟨(some 7), none, .mov (T 4)⟩, ⟨(some 8), none, .fieldAddr 0 (T 1)⟩, ⟨(some 9), none, .load1 (T 8)⟩, ⟨(some 10), none, .len (T 9)⟩, ⟨(some 11), none, .int2 .lss (T 7) (T 10)⟩]) (.cond (T 11) .skip (.exit 0))) (.seq (.block 1 (.draw [⟨.free, ⟨(some 14), none, .fieldAddr 0 (T 3)⟩⟩, ⟨.rd, ⟨(some 15), none, .load1 (T 14)⟩⟩, ⟨.free, ⟨(some 16), none, .fieldAddr 0 (T 1)⟩⟩, ⟨.rd1, ⟨(some 17), none, .load1 (T 16)⟩⟩, ⟨.free, ⟨(some 18), none, .mov (T 4)⟩⟩, ⟨.free, ⟨(some 19), none, .idxSl 2 (T 17) (T 18)⟩⟩, ⟨.rd1, ⟨(some 20), none, .loadN 2 (T 19)⟩⟩, ⟨.up, ⟨(some 21), none, .call (.func 37) [(T 20)]⟩⟩, ⟨.up, ⟨(some 22), none, .bslice 2 1 [(.int .i64 (0)), (.int .i64 (0))] [0] [(T 21)]⟩⟩, ⟨.any, ⟨(some 23), none, .append 2 16 (T 15) (T 22)⟩⟩, ⟨.free, ⟨(some 24), none, .fieldAddr 0 (T 3)⟩⟩, ⟨.any, ⟨none, none, .store 1 (T 24) (T 23)⟩⟩])) (.ops [⟨(some 12), none, .mov (T 4)⟩, ⟨(some 13), none, .int2 .add (T 12) (.const (.int .i64 (1)))⟩, ⟨(some 4), none, .mov (T 13)⟩])))))) (.seq (.seq (.ops [⟨(some 5), none, .mov (.const (.int .i64 (0)))⟩]) (.block 2 (.loop (.seq (.seq (.ops [⟨(some 25), none, .mov (T 5)⟩, ⟨(some 26), none, .fieldAddr 1 (T 1)⟩, ⟨(some 27), none, .load1 (T 26)⟩, ⟨(some 28), none, .len (T 27)⟩, ⟨(some 29), none, .int2 .lss (T 25) (T 28)⟩]) (.cond (T 29) .skip (.exit 2))) (.seq (.block 3 (.draw [⟨.free, ⟨(some 32), none, .fieldAddr 1 (T 3)⟩⟩, ⟨.rd, ⟨(some 33), none, .load1 (T 32)⟩⟩, ⟨.free, ⟨(some 34), none, .fieldAddr 1 (T 1)⟩⟩, ⟨.rd1, ⟨(some 35), none, .load1 (T 34)⟩⟩, ⟨.free, ⟨(some 36), none, .mov (T 5)⟩⟩, ⟨.free, ⟨(some 37), none, .idxSl 1 (T 35) (T 36)⟩⟩, ⟨.rd1, ⟨(some 38), none, .load1 (T 37)⟩⟩, ⟨.up, ⟨(some 39), none, .call (.func 27) [(T 38)]⟩⟩, ⟨.up, ⟨(some 40), none, .bslice 1 1 [(.slice none 0 0)] [0] [(T 39)]⟩⟩, ⟨.any, ⟨(some 41), none, .append 1 24 (T 33) (T 40)⟩⟩, ⟨.free, ⟨(some 42), none, .fieldAddr 1 (T 3)⟩⟩, ⟨.any, ⟨none, none, .store 1 (T 42) (T 41)⟩⟩])) (.ops [⟨(some 30), none, .mov (T 5)⟩, ⟨(some 31), none, .int2 .add (T 30) (.const (.int .i64 (1)))⟩, ⟨(some 5), none, .mov (T 31)⟩])))))) (.seq (.seq (.ops [⟨(some 6), none, .mov (.const (.int .i64 (0)))⟩]) (.block 4 (.loop (.seq (.seq (.ops [⟨(some 43), none, .mov (T 6)⟩, ⟨(some 44), none, .fieldAddr 2 (T 1)⟩, ⟨(some 45), none, .load1 (T 44)⟩, ⟨(some 46), none, .len (T 45)⟩, ⟨(some 47), none, .int2 .lss (T 43) (T 46)⟩]) (.cond (T 47) .skip (.exit 4))) (.seq (.block 5 (.draw [⟨.free, ⟨(some 50), none, .fieldAddr 2 (T 3)⟩⟩, ⟨.rd, ⟨(some 51), none, .load1 (T 50)⟩⟩, ⟨.free, ⟨(some 52), none, .fieldAddr 2 (T 1)⟩⟩, ⟨.rd, ⟨(some 53), none, .load1 (T 52)⟩⟩, ⟨.free, ⟨(some 54), none, .mov (T 6)⟩⟩, ⟨.free, ⟨(some 55), none, .idxSl 3 (T 53) (T 54)⟩⟩, ⟨.free, ⟨(some 56), none, .fieldAddr 0 (T 55)⟩⟩, ⟨.rd, ⟨(some 57), none, .load1 (T 56)⟩⟩, ⟨.free, ⟨(some 58), none, .fieldAddr 2 (T 1)⟩⟩, ⟨.rd1, ⟨(some 59), none, .load1 (T 58)⟩⟩, ⟨.free, ⟨(some 60), none, .mov (T 6)⟩⟩, ⟨.free, ⟨(some 61), none, .idxSl 3 (T 59) (T 60)⟩⟩, ⟨.free, ⟨(some 62), none, .fieldAddr 1 (T 61)⟩⟩, ⟨.rd1, ⟨(some 63), none, .loadN 2 (T 62)⟩⟩, ⟨.up, ⟨(some 64), none, .call (.func 37) [(T 63)]⟩⟩, ⟨.free, ⟨(some 65), none, .build #[(0, 1), (1, 2)] [(.int .i64 (0)), (.int .i64 (0)), (.int .i64 (0))] [0, 1] [(T 57), (T 64)]⟩⟩, ⟨.up, ⟨(some 66), none, .bslice 3 1 [(.int .i64 (0)), (.int .i64 (0)), (.int .i64 (0))] [0] [(T 65)]⟩⟩, ⟨.any, ⟨(some 67), none, .append 3 24 (T 51) (T 66)⟩⟩, ⟨.free, ⟨(some 68), none, .fieldAddr 2 (T 3)⟩⟩, ⟨.any, ⟨none, none, .store 1 (T 68) (T 67)⟩⟩])) (.ops [⟨(some 48), none, .mov (T 6)⟩, ⟨(some 49), none, .int2 .add (T 48) (.const (.int .i64 (1)))⟩, ⟨(some 6), none, .mov (T 49)⟩])))))) (.seq (.ops [⟨(some 69), none, .loadN 3 (T 3)⟩, ⟨none, none, .store 3 (T 2) (T 69)⟩]) .ret))))))
theorem fok26 : FnOk Try.prog 26 70 s26 [.cellN 2 3] := ⟨Try.f26, _, Try.func26, rfl, Try.ntmps26, by kernel_rfl, by kernel_rfl⟩
theorem yard_c (hn : 10002 ≤ n) (hr : h.next + 300 < far) (hfl : h.floor ≤ h.next) {fv vv sv : Value} {Y : MY} (hy : YardR h fv vv sv Y) (hY : Thin Y) :
    ∃ F V S h', call n (.func (.func 26) #[] #[]) [.agg ⟨[fv, vv, sv]⟩] h = some (.agg ⟨[F, V, S]⟩, h') ∧ YardR h' F V S Y ∧ Made h h' 300 := by
  obtain ⟨n, rfl⟩ : ∃ p, n = p + 1 := ⟨n - 1, by omega⟩
  obtain ⟨y1, y2, y3, y4⟩ := hY
  suffices hsuf : ∃ v h', call (n + 1) (.func (.func 26) #[] #[]) [.agg ⟨[fv, vv, sv]⟩] h = some (v, h') ∧ ∃ F V S, v = .agg ⟨[F, V, S]⟩ ∧ YardR h' F V S Y ∧ Made h h' 300 by
    obtain ⟨v, h', e, F, V, S, rfl, h1, h2⟩ := hsuf
    exact ⟨F, V, S, h', e, h1, h2⟩
  refine call_any0 fok26 rfl rfl (by simp) ?_
  simp only [s26, W_seq, W_ops]
  refine ops_box (cs := [fv, vv, sv]) (by omega) rfl hy.one fun h1 hx1 => ?_
  refine ops_alloc (by rw [hx1.next]; omega) rfl fun h2 hx2 => ?_
  simp only [rn0, rn1, rn2, rn3, rn4, rn5, rn6, rn7, rn8, if_true, if_false, Nat.le_refl, true_and, and_true, decide_true, decide_false, Bool.not_true, Bool.not_false, reduceIte, Nat.reduceEqDiff, Nat.reduceAdd, Nat.reduceMul, Nat.reduceSub, Nat.reduceLeDiff, Nat.reduceLT]
  refine step_row (by rw [hx2.next, hx1.next]; omega) rfl rfl fun h3 hx3 => ?_
  have n1 : h1.next = h.next + 1 := hx1.next
  have n2 : h2.next = h.next + 2 := by rw [hx2.next, n1]
  have n3 : h3.next = h.next + 3 := by rw [hx3.next, n2]
  have hsub : Sub All h h3 := hx1.sub.trans (hx2.sub.trans hx3.sub)
  have hbox : Row h3 h.next [fv, vv, sv] := (hx1.row.mono hx2.sub).mono hx3.sub
  have hres : h3.get (h.next + 1) = some (.row [nilS, nilS, nilS] true 0) := by
    have := hx2.get
    rw [n1] at this
    exact hx3.sub _ _ _ _ trivial this
  have hout : h3.get (h.next + 2) = some (.row [nilS, nilS, nilS] true 0) := by
    have := hx3.get
    rw [n2] at this
    exact this
  have hf3 : h3.floor = h.floor := by rw [hx3.floor, hx2.floor, hx1.floor]
  rw [n1, n2]
  clear hx1 hx2 hx3 n1 n2
  have hall : ∀ {g : AHeap}, Keep (h.next + 2) h3 g → Sub All h g := fun st i cs w gr _ hg => st.sub i cs w gr (by have := AHeap.lt_of_get hg; omega) (hsub _ _ _ _ trivial hg)
  simp only [rn0, rn1, rn2, rn3, rn4, rn5, rn6, rn7, rn8, if_true, if_false, Nat.le_refl, true_and, and_true, decide_true, decide_false, Bool.not_true, Bool.not_false, reduceIte, Nat.reduceEqDiff, Nat.reduceAdd, Nat.reduceMul, Nat.reduceSub, Nat.reduceLeDiff, Nat.reduceLT]
  refine W_loop Y.nf (fun k f g m => (∃ F, Keep (h.next + 2) h3 g ∧ g.get (h.next + 2) = some (.row [F, nilS, nilS] true 0) ∧ GrowC h3.next g F 2 k (fun k j => .int .i64 (if j = 0 then Y.lo k else Y.hi k)) ∧ g.next ≤ h3.next + 2 * k) ∧ m = [] ∧ f 1 = .pointer (some ⟨h.next, 0, none⟩) ∧ f 2 = .pointer (some ⟨h.next + 1, 0, none⟩) ∧ f 3 = .pointer (some ⟨h.next + 2, 0, none⟩) ∧ f 4 = .int .i64 (k : Int)) (by simp; omega) ?_ ?_ ?_
  · simp only [rn0, rn1, rn2, rn3, rn4, rn5, rn6, rn7, rn8, if_true, if_false, Nat.le_refl, true_and, and_true, decide_true, decide_false, Bool.not_true, Bool.not_false, reduceIte, Nat.reduceEqDiff, Nat.reduceAdd, Nat.reduceMul, Nat.reduceSub, Nat.reduceLeDiff, Nat.reduceLT]
    exact ⟨⟨_, Keep.refl, hout, .nil, by omega⟩, rfl⟩
  · rintro k f g m hk ⟨⟨F, st, go, gF, hgn⟩, rfl, f1, f2, f3, f4⟩
    have hk' : (k : Int) < (Y.nf : Int) := by omega
    have hw : wrapF .i64 ((k : Int) + 1) = ((k + 1 : Nat) : Int) := by rw [wrap_in (by omega) (by omega)]; rfl
    have hrow : Row g (h.next + 2) [F, nilS, nilS] := ⟨_, _, go⟩
    have hbx := hbox.keep st (by omega)
    have hfr := (hy.mono (hall st)).f
    have hup := st.up
    have hfg := st.floor
    simp only [rn0, rn1, rn2, rn3, rn4, rn5, rn6, rn7, rn8, if_true, if_false, Nat.le_refl, true_and, and_true, decide_true, decide_false, Bool.not_true, Bool.not_false, reduceIte, Nat.reduceEqDiff, Nat.reduceAdd, Nat.reduceMul, Nat.reduceSub, Nat.reduceLeDiff, Nat.reduceLT, f1, f2, f3, f4, hbx.ld, Nat.zero_add, Nat.add_zero, List.getElem?_cons_zero, List.getElem?_cons_succ, Cells.len hfr, hk']
    refine W_draw All ?_
    simp only [rn0, rn1, rn2, rn3, rn4, rn5, rn6, rn7, rn8, if_true, if_false, Nat.le_refl, true_and, and_true, decide_true, decide_false, Bool.not_true, Bool.not_false, reduceIte, Nat.reduceEqDiff, Nat.reduceAdd, Nat.reduceMul, Nat.reduceSub, Nat.reduceLeDiff, Nat.reduceLT, f1, f2, f3, f4, hbx.ld, hrow.ld, Nat.zero_add, Nat.add_zero, List.getElem?_cons_zero, List.getElem?_cons_succ, gF.cells.self, Cells.idx hfr hk, ranges_ld hfr hk, to_c (n := n) (h := g) (by omega) (by omega), sl_range]
    refine up_slice (by omega) rfl (fun g1 hx => hx.sub) fun g1 hx => ?_
    have hgx := hx.next
    have hgf := hx.floor
    have gF1 := gF.keep (hx.keep (o := h.next + 2)) (by omega)
    obtain ⟨F', g2, e, e', gF', hk2⟩ := gF1.append (bytes := 16) (cap := 1) (by omega) (by omega) (by omega) hx.get rfl rfl (fun j hj => by rcases j with _ | _ | j <;> simp_all <;> omega) (by simp [maxBytes]; omega) (by simp [maxBytes]; omega)
    obtain ⟨st2, go2⟩ := grew (st.trans hx.keep) hk2 (fun a k c e => (gF1.block e).1) (by omega) (hx.sub _ _ _ _ trivial go)
    have hgx2 := hk2.next
    have hgf2 := hk2.floor
    simp only [rn0, rn1, rn2, rn3, rn4, rn5, rn6, rn7, rn8, if_true, if_false, Nat.le_refl, true_and, and_true, decide_true, decide_false, Bool.not_true, Bool.not_false, reduceIte, Nat.reduceEqDiff, Nat.reduceAdd, Nat.reduceMul, Nat.reduceSub, Nat.reduceLeDiff, Nat.reduceLT, f1, f2, f3, f4, e, Nat.add_zero]
    refine ⟨by omega, up_store (vs := [F']) rfl go2 (by omega) (by omega) (by rw [e']; rfl) (by simp [allB, gF'.one]) rfl (by simp) (fun _ _ => trivial) fun g3 hs => ?_⟩
    have hgx3 := hs.next
    simp only [rn0, rn1, rn2, rn3, rn4, rn5, rn6, rn7, rn8, if_true, if_false, Nat.le_refl, true_and, and_true, decide_true, decide_false, Bool.not_true, Bool.not_false, reduceIte, Nat.reduceEqDiff, Nat.reduceAdd, Nat.reduceMul, Nat.reduceSub, Nat.reduceLeDiff, Nat.reduceLT, f1, f2, f3, f4, hw, Nat.add_zero]
    exact ⟨_, set_keep st2 hs, hs.get, gF'.keep hs.keep (by omega), by omega⟩
  rintro f g0 m ⟨⟨F, st0, go0, gF, hgn0⟩, rfl, f1, f2, f3, f4⟩
  have hbx0 := hbox.keep st0 (by omega)
  have hup0 := st0.up
  have hfg0 := st0.floor
  simp only [rn0, rn1, rn2, rn3, rn4, rn5, rn6, rn7, rn8, if_true, if_false, Nat.le_refl, true_and, and_true, decide_true, decide_false, Bool.not_true, Bool.not_false, reduceIte, Nat.reduceEqDiff, Nat.reduceAdd, Nat.reduceMul, Nat.reduceSub, Nat.reduceLeDiff, Nat.reduceLT, f1, f2, f3, f4, hbx0.ld, Nat.zero_add, Nat.add_zero, List.getElem?_cons_zero, List.getElem?_cons_succ, Cells.len (hy.mono (hall st0)).f, Int.lt_irrefl]
  clear f4
  refine W_loop Y.nv (fun k f g m => (∃ (V : Value) (r : Nat → Value), Keep (h.next + 2) g0 g ∧ g.get (h.next + 2) = some (.row [F, V, nilS] true 0) ∧ GrowC g0.next g V 1 k (fun k _ => r k) ∧ (∀ i, i < k → Ints g (r i) (Y.cnt i) (Y.q i) ∧ ∀ a m c, r i = .slice (some a) m c → h.next + 3 ≤ a.block ∧ a.block < g.next ∧ ∀ b m c, V = .slice (some b) m c → a.block ≠ b.block) ∧ g.next ≤ g0.next + 4 * k) ∧ m = [] ∧ f 1 = .pointer (some ⟨h.next, 0, none⟩) ∧ f 2 = .pointer (some ⟨h.next + 1, 0, none⟩) ∧ f 3 = .pointer (some ⟨h.next + 2, 0, none⟩) ∧ f 5 = .int .i64 (k : Int)) (by simp; omega) ?_ ?_ ?_
  · simp only [rn0, rn1, rn2, rn3, rn4, rn5, rn6, rn7, rn8, if_true, if_false, Nat.le_refl, true_and, and_true, decide_true, decide_false, Bool.not_true, Bool.not_false, reduceIte, Nat.reduceEqDiff, Nat.reduceAdd, Nat.reduceMul, Nat.reduceSub, Nat.reduceLeDiff, Nat.reduceLT, f1, f2, f3]
    exact ⟨⟨_, fun _ => nilS, Keep.refl, go0, .nil, fun _ hi => by omega, by omega⟩, rfl⟩
  · rintro k f g m hk ⟨⟨V, r, st, go, gV, hr', hgn⟩, rfl, f1, f2, f3, f5⟩
    have hk' : (k : Int) < (Y.nv : Int) := by omega
    have hw : wrapF .i64 ((k : Int) + 1) = ((k + 1 : Nat) : Int) := by rw [wrap_in (by omega) (by omega)]; rfl
    have hrow : Row g (h.next + 2) [F, V, nilS] := ⟨_, _, go⟩
    have hbx := hbx0.keep st (by omega)
    obtain ⟨rr, hrw, hq⟩ := (hy.mono (hall (st0.trans st))).v
    have hup := st.up
    have hfg := st.floor
    obtain ⟨l, gl, el, hl, hm, hl1, hlb⟩ := list_c (n := n) (h := g) (by omega) (by omega) (hq k hk) (y4 k hk)
    have hml := hm.next
    have hmu := hm.up
    have hmf := hm.floor
    simp only [rn0, rn1, rn2, rn3, rn4, rn5, rn6, rn7, rn8, if_true, if_false, Nat.le_refl, true_and, and_true, decide_true, decide_false, Bool.not_true, Bool.not_false, reduceIte, Nat.reduceEqDiff, Nat.reduceAdd, Nat.reduceMul, Nat.reduceSub, Nat.reduceLeDiff, Nat.reduceLT, f1, f2, f3, f5, hbx.ld, Nat.zero_add, Nat.add_zero, List.getElem?_cons_zero, List.getElem?_cons_succ, Cells.len hrw, hk']
    refine W_draw All ?_
    simp only [rn0, rn1, rn2, rn3, rn4, rn5, rn6, rn7, rn8, if_true, if_false, Nat.le_refl, true_and, and_true, decide_true, decide_false, Bool.not_true, Bool.not_false, reduceIte, Nat.reduceEqDiff, Nat.reduceAdd, Nat.reduceMul, Nat.reduceSub, Nat.reduceLeDiff, Nat.reduceLT, f1, f2, f3, f5, hbx.ld, hrow.ld, Nat.zero_add, Nat.add_zero, List.getElem?_cons_zero, List.getElem?_cons_succ, gV.cells.self, Cells.idx hrw hk, Cells.ld hrw hk Nat.zero_lt_one, el, sl_one hl1]
    refine ⟨⟨hmu, hm.sub⟩, up_slice (by omega) (by simp [allB, hl1]) (fun g1 hx => hm.sub.trans hx.sub) fun g1 hx => ?_⟩
    have hgx := hx.next
    have hgf := hx.floor
    have kl : Keep (h.next + 2) g g1 := ⟨fun i cs w gr hi hg => hx.sub _ _ _ _ trivial (hm.sub _ _ _ _ trivial hg), by omega, by omega⟩
    have gV1 := gV.keep kl (by omega)
    have gV2 : GrowC g0.next g1 V 1 k (fun i _ => if i = k then l else r i) := by
      obtain ⟨cs, c1, c2, c3⟩ := gV1
      exact ⟨cs, c1, c2, fun i j hi hj => by rw [c3 i j hi hj]; show some (r i) = some (if i = k then l else r i); rw [if_neg (by omega)]⟩
    have hnew : ∀ j, j < 1 → [l][j]? = some ((fun i _ => if i = k then l else r i : Nat → Nat → Value) k j) := by
      intro j hj
      have : j = 0 := by omega
      subst this
      simp
    obtain ⟨V', g2, e, e', gV', hk2⟩ := gV2.append (bytes := 24) (cap := 1) (by omega) (by omega) (by omega) hx.get rfl (by simp [allB, hl1]) hnew (by simp [maxBytes]; omega) (by simp [maxBytes]; omega)
    have go1 : g1.get (h.next + 2) = some (.row [F, V, nilS] true 0) := hx.sub _ _ _ _ trivial (hm.sub _ _ _ _ trivial go)
    obtain ⟨st2, go2⟩ := grew (st.trans kl) hk2 (fun a k c e => (gV1.block e).1) (by omega) go1
    have hgx2 := hk2.next
    have hgf2 := hk2.floor
    simp only [rn0, rn1, rn2, rn3, rn4, rn5, rn6, rn7, rn8, if_true, if_false, Nat.le_refl, true_and, and_true, decide_true, decide_false, Bool.not_true, Bool.not_false, reduceIte, Nat.reduceEqDiff, Nat.reduceAdd, Nat.reduceMul, Nat.reduceSub, Nat.reduceLeDiff, Nat.reduceLT, f1, f2, f3, f5, e, Nat.add_zero, Nat.zero_add]
    refine ⟨by omega, up_store (vs := [V']) rfl go2 (by omega) (by omega) (by rw [e']; rfl) (by simp [allB, gV'.one]) rfl (by simp) (fun _ _ => trivial) fun g3 hs => ?_⟩
    have hgx3 := hs.next
    simp only [rn0, rn1, rn2, rn3, rn4, rn5, rn6, rn7, rn8, if_true, if_false, Nat.le_refl, true_and, and_true, decide_true, decide_false, Bool.not_true, Bool.not_false, reduceIte, Nat.reduceEqDiff, Nat.reduceAdd, Nat.reduceMul, Nat.reduceSub, Nat.reduceLeDiff, Nat.reduceLT, f1, f2, f3, f5, hw, Nat.add_zero]
    refine ⟨V', fun i => if i = k then l else r i, set_keep st2 hs, hs.get, gV'.keep hs.keep (by omega), ?_, by omega⟩
    intro i hi
    by_cases hik : i = k
    · subst hik
      dsimp only
      rw [if_pos rfl]
      refine ⟨?_, fun a m c ea => ?_⟩
      · have q1 : Ints g1 l (Y.cnt i) (Y.q i) := Cells.mono hl hx.sub
        have q2 : Ints g2 l (Y.cnt i) (Y.q i) := Cells.kept q1 hk2 fun a k c ea b k' c' eb => by
          have := (hlb a k c ea).1
          have := (gV.block eb).2
          omega
        exact Cells.keep q2 hs.keep fun a k c ea => by have := (hlb a k c ea).1; omega
      · obtain ⟨b1, b2⟩ := hlb a m c ea
        refine ⟨by omega, by omega, fun b m c eb => ?_⟩
        rw [e'] at eb
        cases eb
        show a.block ≠ g1.next
        omega
    · dsimp only
      rw [if_neg hik]
      obtain ⟨r1, r2⟩ := hr' i (by omega)
      refine ⟨?_, fun a m c ea => ?_⟩
      · have q1 : Ints g1 (r i) (Y.cnt i) (Y.q i) := Cells.keep r1 kl fun a k c ea => by have := (r2 a k c ea).1; omega
        have q2 : Ints g2 (r i) (Y.cnt i) (Y.q i) := Cells.kept q1 hk2 fun a k c ea b k' c' eb => (r2 a k c ea).2.2 b k' c' eb
        exact Cells.keep q2 hs.keep fun a k c ea => by have := (r2 a k c ea).1; omega
      · obtain ⟨b1, b2, b3⟩ := r2 a m c ea
        refine ⟨by omega, by omega, fun b m c eb => ?_⟩
        rw [e'] at eb
        cases eb
        show a.block ≠ g1.next
        omega
  rintro f g4 m ⟨⟨V, r, st4, go4, gV, hr4, hgn4⟩, rfl, f1, f2, f3, f5⟩
  have st4h := st0.trans st4
  have hbx4 := hbx0.keep st4 (by omega)
  have hup4 := st4.up
  have hfg4 := st4.floor
  obtain ⟨rr, hrw, hq⟩ := (hy.mono (hall st4h)).v
  simp only [rn0, rn1, rn2, rn3, rn4, rn5, rn6, rn7, rn8, if_true, if_false, Nat.le_refl, true_and, and_true, decide_true, decide_false, Bool.not_true, Bool.not_false, reduceIte, Nat.reduceEqDiff, Nat.reduceAdd, Nat.reduceMul, Nat.reduceSub, Nat.reduceLeDiff, Nat.reduceLT, f1, f2, f3, f5, hbx4.ld, Nat.zero_add, Nat.add_zero, List.getElem?_cons_zero, List.getElem?_cons_succ, Cells.len hrw, Int.lt_irrefl]
  clear f5
  refine W_loop Y.ns (fun k f g m => (∃ (S : Value), Keep (h.next + 2) g4 g ∧ g.get (h.next + 2) = some (.row [F, V, S] true 0) ∧ GrowC g4.next g S 3 k (fun k j => .int .i64 (if j = 0 then Y.sv k else if j = 1 then Y.slo k else Y.shi k)) ∧ g.next ≤ g4.next + 2 * k) ∧ m = [] ∧ f 1 = .pointer (some ⟨h.next, 0, none⟩) ∧ f 2 = .pointer (some ⟨h.next + 1, 0, none⟩) ∧ f 3 = .pointer (some ⟨h.next + 2, 0, none⟩) ∧ f 6 = .int .i64 (k : Int)) (by simp; omega) ?_ ?_ ?_
  · simp only [rn0, rn1, rn2, rn3, rn4, rn5, rn6, rn7, rn8, if_true, if_false, Nat.le_refl, true_and, and_true, decide_true, decide_false, Bool.not_true, Bool.not_false, reduceIte, Nat.reduceEqDiff, Nat.reduceAdd, Nat.reduceMul, Nat.reduceSub, Nat.reduceLeDiff, Nat.reduceLT, f1, f2, f3]
    exact ⟨⟨_, Keep.refl, go4, .nil, by omega⟩, rfl⟩
  · rintro k f g m hk ⟨⟨S, st, go, gS, hgn⟩, rfl, f1, f2, f3, f6⟩
    have hk' : (k : Int) < (Y.ns : Int) := by omega
    have hw : wrapF .i64 ((k : Int) + 1) = ((k + 1 : Nat) : Int) := by rw [wrap_in (by omega) (by omega)]; rfl
    have hrow : Row g (h.next + 2) [F, V, S] := ⟨_, _, go⟩
    have hbx := hbx4.keep st (by omega)
    have hfr := (hy.mono (hall (st4h.trans st))).s
    have hup := st.up
    have hfg := st.floor
    have hl2 : loadAgg 2 g (ptrO sv 3 k 1) = some (.agg ⟨[.int .i64 (Y.slo k), .int .i64 (Y.shi k)]⟩) := by rw [Cells.ldN hfr hk (by omega) (by omega)]; simp [List.range_succ]
    simp only [rn0, rn1, rn2, rn3, rn4, rn5, rn6, rn7, rn8, if_true, if_false, Nat.le_refl, true_and, and_true, decide_true, decide_false, Bool.not_true, Bool.not_false, reduceIte, Nat.reduceEqDiff, Nat.reduceAdd, Nat.reduceMul, Nat.reduceSub, Nat.reduceLeDiff, Nat.reduceLT, f1, f2, f3, f6, hbx.ld, Nat.zero_add, Nat.add_zero, List.getElem?_cons_zero, List.getElem?_cons_succ, Cells.len hfr, hk']
    refine W_draw All ?_
    simp only [rn0, rn1, rn2, rn3, rn4, rn5, rn6, rn7, rn8, if_true, if_false, Nat.le_refl, true_and, and_true, decide_true, decide_false, Bool.not_true, Bool.not_false, reduceIte, Nat.reduceEqDiff, Nat.reduceAdd, Nat.reduceMul, Nat.reduceSub, Nat.reduceLeDiff, Nat.reduceLT, f1, f2, f3, f6, hbx.ld, hrow.ld, Nat.zero_add, Nat.add_zero, List.getElem?_cons_zero, List.getElem?_cons_succ, gS.cells.self, Cells.self hfr, Cells.idx hfr hk, Cells.fld hfr hk, Cells.ld hfr hk (show 0 < 3 by omega), hl2, to_c (n := n) (h := g) (by omega) (by omega), build_samp, sl_samp]
    refine up_slice (by omega) rfl (fun g1 hx => hx.sub) fun g1 hx => ?_
    have hgx := hx.next
    have hgf := hx.floor
    have gS1 := gS.keep (hx.keep (o := h.next + 2)) (by omega)
    obtain ⟨S', g2, e, e', gS', hk2⟩ := gS1.append (bytes := 24) (cap := 1) (by omega) (by omega) (by omega) hx.get rfl rfl (fun j hj => by rcases j with _ | _ | _ | j <;> simp_all <;> omega) (by simp [maxBytes]; omega) (by simp [maxBytes]; omega)
    obtain ⟨st2, go2⟩ := grew (st.trans hx.keep) hk2 (fun a k c e => (gS1.block e).1) (by omega) (hx.sub _ _ _ _ trivial go)
    have hgx2 := hk2.next
    have hgf2 := hk2.floor
    simp only [rn0, rn1, rn2, rn3, rn4, rn5, rn6, rn7, rn8, if_true, if_false, Nat.le_refl, true_and, and_true, decide_true, decide_false, Bool.not_true, Bool.not_false, reduceIte, Nat.reduceEqDiff, Nat.reduceAdd, Nat.reduceMul, Nat.reduceSub, Nat.reduceLeDiff, Nat.reduceLT, f1, f2, f3, f6, e, Nat.add_zero, Nat.zero_add]
    refine ⟨by omega, up_store (vs := [S']) rfl go2 (by omega) (by omega) (by rw [e']; rfl) (by simp [allB, gS'.one]) rfl (by simp) (fun _ _ => trivial) fun g3 hs => ?_⟩
    have hgx3 := hs.next
    simp only [rn0, rn1, rn2, rn3, rn4, rn5, rn6, rn7, rn8, if_true, if_false, Nat.le_refl, true_and, and_true, decide_true, decide_false, Bool.not_true, Bool.not_false, reduceIte, Nat.reduceEqDiff, Nat.reduceAdd, Nat.reduceMul, Nat.reduceSub, Nat.reduceLeDiff, Nat.reduceLT, f1, f2, f3, f6, hw, Nat.add_zero]
    exact ⟨_, set_keep st2 hs, hs.get, gS'.keep hs.keep (by omega), by omega⟩
  rintro f g m ⟨⟨S, st, go, gS, hgn⟩, rfl, f1, f2, f3, f6⟩
  have stH := st4h.trans st
  have hbx := hbx4.keep st (by omega)
  have hup := st.up
  have hfg := st.floor
  have hfr := (hy.mono (hall stH)).s
  have hrow : Row g (h.next + 2) [F, V, S] := ⟨_, _, go⟩
  have hrs : g.get (h.next + 1) = some (.row [nilS, nilS, nilS] true 0) := stH.sub _ _ _ _ (by omega) hres
  have hF : Ranges g F Y.nf Y.lo Y.hi := ((gF.keep st4 (by omega)).keep st (by omega)).cells
  have hV := (gV.keep st (by omega)).cells
  have hS := gS.cells
  have hq' : ∀ i, i < Y.nv → Ints g (r i) (Y.cnt i) (Y.q i) := fun i hi => Cells.keep (hr4 i hi).1 st fun a k c ea => by have := ((hr4 i hi).2 a k c ea).1; omega
  simp only [rn0, rn1, rn2, rn3, rn4, rn5, rn6, rn7, rn8, if_true, if_false, Nat.le_refl, true_and, and_true, decide_true, decide_false, Bool.not_true, Bool.not_false, reduceIte, Nat.reduceEqDiff, Nat.reduceAdd, Nat.reduceMul, Nat.reduceSub, Nat.reduceLeDiff, Nat.reduceLT, f1, f2, f3, f6, hbx.ld, Nat.zero_add, Nat.add_zero, List.getElem?_cons_zero, List.getElem?_cons_succ, Cells.len hfr, Int.lt_irrefl, hrow.ldN 0 3 (by simp) (by simp), List.drop_zero, List.take_succ_cons, List.take_zero]
  refine step_store (vs := [F, V, S]) rfl hrs (by omega) (by omega) rfl (by simp [allB, Cells.one hF, Cells.one hV, Cells.one hS]) rfl (by simp) fun g' hs => ?_
  have hld := hs.row.ldN 0 3 (by simp [splice]) (by simp [splice])
  simp only [rn0, rn1, rn2, rn3, rn4, rn5, rn6, rn7, rn8, if_true, if_false, Nat.le_refl, true_and, and_true, decide_true, decide_false, Bool.not_true, Bool.not_false, reduceIte, Nat.reduceEqDiff, Nat.reduceAdd, Nat.reduceMul, Nat.reduceSub, Nat.reduceLeDiff, Nat.reduceLT, f1, f2, f3, f6, hld, splice, List.take_zero, List.drop_zero, List.nil_append, List.length_cons, List.length_nil, List.drop_succ_cons, List.drop_nil, List.append_nil, List.take_succ_cons]
  have hks : Keep (h.next + 1) g g' := hs.keep
  have hgx := hs.next
  have hgf := hs.floor
  refine ⟨F, V, S, rfl, ⟨?_, ⟨r, ?_, fun i hi => ?_⟩, ?_⟩, ⟨fun i cs w gr _ hg => ?_, by omega, by omega, by omega⟩⟩
  · exact Cells.keep hF hks fun a k c ea => by have := (gF.block ea).1; omega
  · exact Cells.keep hV hks fun a k c ea => by have := (gV.block ea).1; omega
  · exact Cells.keep (hq' i hi) hks fun a k c ea => by have := ((hr4 i hi).2 a k c ea).1; omega
  · exact Cells.keep hS hks fun a k c ea => by have := (gS.block ea).1; omega
  · exact hks.sub _ _ _ _ (by have := AHeap.lt_of_get hg; omega) (hall stH _ _ _ _ trivial hg)
end Go.Vm.Vat

namespace Go.Vm.Vat
open Go.Proofs
set_option linter.unusedSimpArgs false
set_option linter.unusedVariables false
set_option maxRecDepth 10000
variable {n : Nat} {h : AHeap}
def s117 : SCode := (.seq (.ops [⟨(some 2), none, .box (T 0)⟩, ⟨(some 4), none, .mov (.const (.bool false))⟩]) (.seq (.ops [⟨(some 5), none, .fieldAddr 0 (T 2)⟩, ⟨(some 6), none, .load1 (T 5)⟩, ⟨(some 7), none, .int2 .leq (.const (.int .i64 (0))) (T 6)⟩, ⟨(some 8), none, .mov (T 7)⟩, ⟨(some 9), (some (8, true)), .fieldAddr 0 (T 2)⟩, ⟨(some 10), (some (8, true)), .load1 (T 9)⟩, ⟨(some 11), (some (8, true)), .fieldAddr 1 (T 2)⟩, ⟨(some 12), (some (8, true)), .load1 (T 11)⟩, ⟨(some 13), (some (8, true)), .int2 .leq (T 10) (T 12)⟩, ⟨(some 14), none, .pick (T 8) (T 13) (.const (.bool false))⟩, ⟨(some 15), none, .mov (T 14)⟩, ⟨(some 16), (some (15, true)), .fieldAddr 1 (T 2)⟩, ⟨(some 17), (some (15, true)), .load1 (T 16)⟩, ⟨(some 18), (some (15, true)), .mov (T 1)⟩, ⟨(some 19), (some (15, true)), .int2 .leq (T 17) (T 18)⟩, ⟨(some 20), none, .pick (T 15) (T 19) (.const (.bool false))⟩, ⟨(some 4), none, .mov (T 20)⟩]) .ret))
theorem fok117 : FnOk Try.prog 117 21 s117 [.tmp 4] := ⟨Try.f117, _, Try.func117, rfl, Try.ntmps117, by kernel_rfl, by kernel_rfl⟩
theorem isUpTo_c (hn : 1 ≤ n) (hr : h.next < far) (lo hi m : Int) : call n (.func (.func 117) #[] #[]) [.agg ⟨[.int .i64 lo, .int .i64 hi]⟩, .int .i64 m] h = some (.bool (decide (0 ≤ lo ∧ lo ≤ hi ∧ hi ≤ m)), h) := by
  obtain ⟨n, rfl⟩ : ∃ p, n = p + 1 := ⟨n - 1, by omega⟩
  refine call_plain0 fok117 rfl rfl (by simp) rfl ?_
  simp only [s117, W_seq, W_ops]
  refine ops_box (cs := [.int .i64 lo, .int .i64 hi]) (by exact hr) rfl rfl fun h1 hb => ?_
  by_cases c1 : 0 ≤ lo <;> by_cases c2 : lo ≤ hi <;> by_cases c3 : hi ≤ m <;> simp only [rn0, rn1, rn2, rn3, rn4, rn5, rn6, rn7, rn8, if_true, if_false, Nat.le_refl, true_and, and_true, decide_true, decide_false, Bool.not_true, Bool.not_false, reduceIte, Nat.reduceEqDiff, Nat.reduceAdd, Nat.reduceMul, Nat.reduceSub, Nat.reduceLeDiff, Nat.reduceLT, hb.ld, Nat.zero_add, List.getElem?_cons_zero, List.getElem?_cons_succ, c1, c2, c3, and_self, and_false, false_and]
def s113 : SCode := (.seq (.ops [⟨(some 2), none, .box (T 0)⟩, ⟨(some 4), none, .mov (.const (.bool false))⟩]) (.seq (.ops [⟨(some 5), none, .fieldAddr 0 (T 2)⟩, ⟨(some 6), none, .load1 (T 5)⟩, ⟨(some 7), none, .mov (T 1)⟩, ⟨(some 8), none, .int2 .leq (T 6) (T 7)⟩, ⟨(some 9), none, .mov (T 8)⟩, ⟨(some 10), (some (9, true)), .mov (T 1)⟩, ⟨(some 11), (some (9, true)), .fieldAddr 1 (T 2)⟩, ⟨(some 12), (some (9, true)), .load1 (T 11)⟩, ⟨(some 13), (some (9, true)), .int2 .leq (T 10) (T 12)⟩, ⟨(some 14), none, .pick (T 9) (T 13) (.const (.bool false))⟩, ⟨(some 4), none, .mov (T 14)⟩]) .ret))
theorem fok113 : FnOk Try.prog 113 15 s113 [.tmp 4] := ⟨Try.f113, _, Try.func113, rfl, Try.ntmps113, by kernel_rfl, by kernel_rfl⟩
theorem has_c (hn : 1 ≤ n) (hr : h.next < far) (lo hi m : Int) : call n (.func (.func 113) #[] #[]) [.agg ⟨[.int .i64 lo, .int .i64 hi]⟩, .int .i64 m] h = some (.bool (decide (lo ≤ m ∧ m ≤ hi)), h) := by
  obtain ⟨n, rfl⟩ : ∃ p, n = p + 1 := ⟨n - 1, by omega⟩
  refine call_plain0 fok113 rfl rfl (by simp) rfl ?_
  simp only [s113, W_seq, W_ops]
  refine ops_box (cs := [.int .i64 lo, .int .i64 hi]) (by exact hr) rfl rfl fun h1 hb => ?_
  by_cases c1 : lo ≤ m <;> by_cases c2 : m ≤ hi <;> simp only [rn0, rn1, rn2, rn3, rn4, rn5, rn6, rn7, rn8, if_true, if_false, Nat.le_refl, true_and, and_true, decide_true, decide_false, Bool.not_true, Bool.not_false, reduceIte, Nat.reduceEqDiff, Nat.reduceAdd, Nat.reduceMul, Nat.reduceSub, Nat.reduceLeDiff, Nat.reduceLT, hb.ld, Nat.zero_add, List.getElem?_cons_zero, List.getElem?_cons_succ, c1, c2, and_self, and_false, false_and]
def s82 : SCode := (.seq (.ops [⟨(some 1), none, .box (T 0)⟩, ⟨(some 2), none, .mov (.const (.bool false))⟩]) (.seq (.ops [⟨(some 3), none, .loadN 2 (T 1)⟩, ⟨(some 4), none, .call (.func 117) [(T 3), (.const (.int .i64 (20)))]⟩, ⟨(some 2), none, .mov (T 4)⟩]) .ret))
theorem fok82 : FnOk Try.prog 82 5 s82 [.tmp 2] := ⟨Try.f82, _, Try.func82, rfl, Try.ntmps82, by kernel_rfl, by kernel_rfl⟩
theorem isField_c (hn : 2 ≤ n) (hr : h.next + 1 < far) (lo hi : Int) : call n (.func (.func 82) #[] #[]) [.agg ⟨[.int .i64 lo, .int .i64 hi]⟩] h = some (.bool (decide (0 ≤ lo ∧ lo ≤ hi ∧ hi ≤ 20)), h) := by
  obtain ⟨n, rfl⟩ : ∃ p, n = p + 1 := ⟨n - 1, by omega⟩
  refine call_plain0 fok82 rfl rfl (by simp) rfl ?_
  have hr : h.shutAll.next + 1 < far := hr
  generalize h.shutAll = h at hr
  simp only [s82, W_seq, W_ops]
  refine ops_box (cs := [.int .i64 lo, .int .i64 hi]) (by omega) rfl rfl fun h1 hb => ?_
  have hr1 : h1.next < far := by rw [hb.next]; exact hr
  simp only [rn0, rn1, rn2, rn3, rn4, rn5, rn6, rn7, rn8, if_true, if_false, Nat.le_refl, true_and, and_true, decide_true, decide_false, Bool.not_true, Bool.not_false, reduceIte, Nat.reduceEqDiff, Nat.reduceAdd, Nat.reduceMul, Nat.reduceSub, Nat.reduceLeDiff, Nat.reduceLT, hb.ldN 0 2 (by simp) (by simp), List.drop_zero, List.take_succ_cons, List.take_zero, isUpTo_c (n := n) (by omega) hr1]
def s118 : SCode := (.seq (.ops [⟨(some 2), none, .mov (.const (.bool false))⟩]) (.seq (.ops [⟨(some 3), none, .mov (T 0)⟩, ⟨(some 4), none, .int2 .leq (.const (.int .i64 (0))) (T 3)⟩, ⟨(some 5), none, .mov (T 4)⟩, ⟨(some 6), (some (5, true)), .mov (T 0)⟩, ⟨(some 7), (some (5, true)), .int2 .leq (T 6) (.const (.int .i64 (9)))⟩, ⟨(some 8), none, .pick (T 5) (T 7) (.const (.bool false))⟩, ⟨(some 2), none, .mov (T 8)⟩]) .ret))
theorem fok118 : FnOk Try.prog 118 9 s118 [.tmp 2] := ⟨Try.f118, _, Try.func118, rfl, Try.ntmps118, by kernel_rfl, by kernel_rfl⟩
theorem isBundles_c (hn : 1 ≤ n) (m : Int) : call n (.func (.func 118) #[] #[]) [.int .i64 m] h = some (.bool (decide (0 ≤ m ∧ m ≤ 9)), h) := by
  obtain ⟨n, rfl⟩ : ∃ p, n = p + 1 := ⟨n - 1, by omega⟩
  refine call_plain0 fok118 rfl rfl (by simp) rfl ?_
  by_cases c1 : 0 ≤ m <;> by_cases c2 : m ≤ 9 <;> simp only [rn0, rn1, rn2, rn3, rn4, rn5, rn6, rn7, rn8, if_true, if_false, Nat.le_refl, true_and, and_true, decide_true, decide_false, Bool.not_true, Bool.not_false, reduceIte, Nat.reduceEqDiff, Nat.reduceAdd, Nat.reduceMul, Nat.reduceSub, Nat.reduceLeDiff, Nat.reduceLT, s118, c1, c2, and_self, and_false, false_and]
/-- what is asked of a condition that 'every' is handed -/
def Cond (n : Nat) (h : AHeap) (k : Nat) (ok : Value) (m : Nat) (elem : Nat → Value) (p : Nat → Prop) : Prop :=
  ∀ g, Sub All h g → g.next ≤ h.next + k → ∀ i, i < m → ∃ b, (b = true ↔ p i) ∧ call n ok [elem i] g = some (.bool b, g)
def s103 : SCode := (.seq (.ops [⟨(some 4), none, .mov (.const (.bool false))⟩]) (.seq (.seq (.ops [⟨(some 7), none, .mov (T 0)⟩, ⟨(some 8), none, .len (T 7)⟩, ⟨(some 9), none, .mov (.const (.int .i64 (0)))⟩]) (.block 0 (.loop (.seq (.ops [⟨(some 10), none, .int2 .lss (T 9) (T 8)⟩]) (.seq (.cond (T 10) .skip (.exit 0)) (.seq (.block 1 (.seq (.ops [⟨(some 11), none, .idxSl 1 (T 7) (T 9)⟩, ⟨(some 12), none, .load1 (T 11)⟩, ⟨(some 6), none, .mov (T 12)⟩]) (.seq (.ops [⟨(some 13), none, .mov (T 1)⟩, ⟨(some 14), none, .mov (T 6)⟩, ⟨(some 15), none, .call (T 13) [(T 14)]⟩, ⟨(some 16), none, .not (T 15)⟩]) (.cond (T 16) (.seq (.ops [⟨(some 4), none, .mov (.const (.bool false))⟩]) .ret) .skip)))) (.ops [⟨(some 17), none, .int2 .add (T 9) (.const (.int .i64 (1)))⟩, ⟨(some 9), none, .mov (T 17)⟩]))))))) (.seq (.ops [⟨(some 4), none, .mov (.const (.bool true))⟩]) .ret)))
theorem fok103 : FnOk Try.prog 103 18 s103 [.tmp 4] := ⟨Try.f103, _, Try.func103, rfl, Try.ntmps103, by kernel_rfl, by kernel_rfl⟩
open Classical in
theorem everyInt_c (hn : 10001 ≤ n) {v ok : Value} {m : Nat} {a : Nat → Int} {p : Nat → Prop} (hv : Ints h v m a) (hm : m ≤ 9000) (hok : Cond (n - 1) h.shutAll 0 ok m (fun i => .int .i64 (a i)) p) :
    call n (.func (.func 103) #[] #[]) [v, ok] h = some (.bool (decide (∀ i, i < m → p i)), h) := by
  obtain ⟨n, rfl⟩ : ∃ p, n = p + 1 := ⟨n - 1, by omega⟩
  refine call_plain0 fok103 rfl rfl (by simp) rfl ?_
  have hv := Cells.shut hv
  rw [Nat.add_sub_cancel] at hok
  generalize h.shutAll = h at hv hok
  simp only [rn0, rn1, rn2, rn3, rn4, rn5, rn6, rn7, rn8, if_true, if_false, Nat.le_refl, true_and, and_true, decide_true, decide_false, Bool.not_true, Bool.not_false, reduceIte, Nat.reduceEqDiff, Nat.reduceAdd, Nat.reduceMul, Nat.reduceSub, Nat.reduceLeDiff, Nat.reduceLT, s103, hv.len]
  refine W_loop m (fun k f g m' => g = h ∧ m' = [] ∧ f 1 = ok ∧ f 7 = v ∧ f 8 = .int .i64 (m : Int) ∧ f 9 = .int .i64 (k : Int) ∧ ∀ i, i < k → p i) (by simp; omega) ?_ ?_ ?_
  · simp only [rn0, rn1, rn2, rn3, rn4, rn5, rn6, rn7, rn8, if_true, if_false, Nat.le_refl, true_and, and_true, decide_true, decide_false, Bool.not_true, Bool.not_false, reduceIte, Nat.reduceEqDiff, Nat.reduceAdd, Nat.reduceMul, Nat.reduceSub, Nat.reduceLeDiff, Nat.reduceLT, Nat.not_lt_zero, false_implies, implies_true]
    trivial
  · rintro k f g m' hk ⟨rfl, rfl, f1, f7, f8, f9, hlt⟩
    have hk' : (k : Int) < (m : Int) := by omega
    have hw : wrapF .i64 ((k : Int) + 1) = ((k + 1 : Nat) : Int) := by rw [wrap_in (by omega) (by omega)]; rfl
    obtain ⟨b, hb, e⟩ := hok g Sub.refl (by omega) k hk
    cases b with
    | true =>
      have hp : p k := hb.1 rfl
      simp only [rn0, rn1, rn2, rn3, rn4, rn5, rn6, rn7, rn8, if_true, if_false, Nat.le_refl, true_and, and_true, decide_true, decide_false, Bool.not_true, Bool.not_false, reduceIte, Nat.reduceEqDiff, Nat.reduceAdd, Nat.reduceMul, Nat.reduceSub, Nat.reduceLeDiff, Nat.reduceLT, f1, f7, f8, f9, hk', hv.idx hk, hv.ld hk Nat.zero_lt_one, e, hw]
      intro j hj
      by_cases ej : j = k
      · subst ej; exact hp
      · exact hlt j (by omega)
    | false =>
      have hp : ¬ ∀ i, i < m → p i := fun h => by have := hb.2 (h k hk); cases this
      simp only [rn0, rn1, rn2, rn3, rn4, rn5, rn6, rn7, rn8, if_true, if_false, Nat.le_refl, true_and, and_true, decide_true, decide_false, Bool.not_true, Bool.not_false, reduceIte, Nat.reduceEqDiff, Nat.reduceAdd, Nat.reduceMul, Nat.reduceSub, Nat.reduceLeDiff, Nat.reduceLT, f1, f7, f8, f9, hk', hv.idx hk, hv.ld hk Nat.zero_lt_one, e, hw, hp]
  · rintro f g m' ⟨rfl, rfl, f1, f7, f8, f9, hlt⟩
    simp only [rn0, rn1, rn2, rn3, rn4, rn5, rn6, rn7, rn8, if_true, if_false, Nat.le_refl, true_and, and_true, decide_true, decide_false, Bool.not_true, Bool.not_false, reduceIte, Nat.reduceEqDiff, Nat.reduceAdd, Nat.reduceMul, Nat.reduceSub, Nat.reduceLeDiff, Nat.reduceLT, f1, f7, f8, f9, Int.lt_irrefl, eq_true hlt]
end Go.Vm.Vat
