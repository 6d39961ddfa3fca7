/- Texts of the proofs of this seat, put together: BtLoad, BtATab, BtAMain. -/
import Derived.Test.YtjihegbffhhcaaaPk6
import Derived.ChangeArms
import Derived.Test.YtjihegbffhhcaaaProg

namespace Go.Vm.Bt
open Go.Proofs Go.Vm.Vat Go.Vm.L2
set_option linter.unusedSimpArgs false
set_option linter.unusedVariables false
set_option maxRecDepth 10000
variable {n : Nat} {h : AHeap}
def FlatP (P : Program) (e : TypeId) (s : Nat) (ok : Nat → Value → Prop) : Prop :=
  ∀ {H : Type} (enc : TypeId × Value → H) (w : World) (base : Nat) (sp : Nat → Bool) (held : Bool) (fuel : Nat) (cs : List Value) (x : DataW H × List MemPlace), DataW.trod enc P w base sp held fuel e cs = some x →
    cs.length = s ∧ ∀ j v, cs[j]? = some v → ok j v
def FlatSP (w : World) (s : Nat) (ok : Nat → Value → Prop) (v : Value) : Prop :=
  v = .slice none 0 0 ∨ ∃ a len cap, v = .slice (some a) len cap ∧ len ≤ cap ∧ ∀ i, i < len * s → ∃ c, w.cell? (a.add i) = some c ∧ ok (i % s) c
theorem flatP_slice {P : Program} {t e : TypeId} {s : Nat} {ok : Nat → Value → Prop} {H : Type} {enc : TypeId × Value → H} {w : World} {base : Nat} {sp : Nat → Bool} {held : Bool} {fuel : Nat} {cs : List Value} {x : DataW H × List MemPlace}
    (ht : P.underlying t = some (.slice e)) (hs : P.cellsOf e = s) (h0 : 0 < s) (hf : FlatP P e s ok) (h : DataW.trod enc P w base sp held fuel t cs = some x) : ∃ v, cs = [v] ∧ FlatSP w s ok v := by
  rcases DataW.trod_slice ht h with ⟨rfl, _⟩ | ⟨a, len, cap, elems, rest, n, _, rfl, _, _, hl, _, hlen, hel, _, _⟩
  · exact ⟨_, rfl, .inl rfl⟩
  · refine ⟨_, rfl, .inr ⟨a, len, cap, rfl, hl, fun i hi => ?_⟩⟩
    have hk : i / s < len := Nat.div_lt_of_lt_mul (by rw [Nat.mul_comm]; exact hi)
    have he := hel (i / s) hk
    rw [List.getElem?_eq_getElem (by omega), hs] at he
    simp only [Option.bind_eq_some_iff] at he
    obtain ⟨l, hl1, hl2⟩ := he
    obtain ⟨_, h3, h4⟩ := World.cells?_some hl1
    obtain ⟨_, h5⟩ := hf _ _ _ _ _ _ _ _ hl2
    have hm : i % s < s := Nat.mod_lt _ h0
    have h6 := h4 (i % s) hm
    rw [Addr.add_add, Nat.mul_comm, Nat.div_add_mod, List.getElem?_eq_getElem (by omega)] at h6
    exact ⟨_, h6, h5 _ _ (List.getElem?_eq_getElem (by omega))⟩
def cellAt (w : World) (a : Addr) (i : Nat) : Value := (w.cell? (a.add i)).getD (.bool false)
theorem _root_.Go.Vm.Loaded.flatP {w : World} {φ : Emb} {h : AHeap} (L : Loaded w φ h) (hn : h.next < far) {s : Nat} {ok : Nat → Value → Prop} {v : Value} (hs : 0 < s) (hok : ∀ j v, ok j v → (∀ (φ : Emb) n, okV φ n v) ∧ oneCell v = true ∧ ∀ φ : Emb, mapV φ v = v) (hf : FlatSP w s ok v) :
    ∃ φ' h' u, Step w φ h φ' h' 1 ∧ Stands φ' h' u v ∧ ∃ c : Nat → Nat → Value, Cells h' u s (vlen v) c ∧ ∀ i j, i < vlen v → j < s → ok j (c i j) := by
  rcases hf with rfl | ⟨a, len, cap, rfl, hl, hc⟩
  · exact ⟨φ, h, .slice none 0 0, ⟨L, Sub.refl, Nat.le_refl _, by omega, rfl, Agree.refl _ _⟩, ⟨by simp [mapV], by simp [okV], rfl⟩, fun _ _ => .bool false, ⟨none, 0, rfl, fun x e => (by cases e), .inl rfl⟩, fun i j hi => absurd hi (Nat.not_lt_zero _)⟩
  · have hlt : ∀ i j, i < len → j < s → i * s + j < len * s := fun i j hi hj => by
      have : (i + 1) * s ≤ len * s := Nat.mul_le_mul_right s hi
      rw [Nat.add_mul] at this
      omega
    have hat : ∀ i, i < len * s → w.cell? (a.add i) = some (cellAt w a i) ∧ ok (i % s) (cellAt w a i) := fun i hi => by
      obtain ⟨c, h1, h2⟩ := hc i hi
      have : cellAt w a i = c := by unfold cellAt; rw [h1]; rfl
      rw [this]; exact ⟨h1, h2⟩
    obtain ⟨φ', h', u, q1, q2, q3, q4, q5, q6, q7, q8, q9⟩ := L.slice hn (a := a) hl hs ((List.range (len * s)).map fun i => cellAt w a i) (by simp) (fun i v hv => by
      rw [List.getElem?_map] at hv
      by_cases hi : i < len * s
      · rw [List.getElem?_range hi] at hv
        cases hv
        obtain ⟨h1, h2⟩ := hat i hi
        obtain ⟨k1, k2, k3⟩ := hok _ _ h2
        exact ⟨k1 _ _, k2, by rw [k3]; exact h1⟩
      · rw [List.getElem?_eq_none (by simp; omega)] at hv
        cases hv) (c := fun i j => cellAt w a (i * s + j)) (fun i j hi hj => by rw [List.getElem?_map, List.getElem?_range (hlt i j hi hj)]; rfl)
    refine ⟨φ', h', u, ⟨q1, q2, by omega, by omega, q4, q5⟩, ⟨q6, q7, q8⟩, _, q9, fun i j hi hj => ?_⟩
    have := (hat _ (hlt i j hi hj)).2
    rw [Nat.mul_comm, Nat.mul_add_mod, Nat.mod_eq_of_lt hj] at this
    rw [Nat.mul_comm]
    exact this
theorem flat_struct3 {P : Program} {k : IntKind} {t : TypeId} {f0 f1 f2 : Field} {s0 s1 s2 : Nat} (ht : P.underlying t = some (.struct #[f0, f1, f2])) (hc : P.cellsOf t = s0 + s1 + s2) (o0 : f0.offset = 0) (o1 : f1.offset = s0) (o2 : f2.offset = s0 + s1)
    (c0 : P.cellsOf f0.type = s0) (c1 : P.cellsOf f1.type = s1) (c2 : P.cellsOf f2.type = s2) (h0 : FlatT P k f0.type s0) (h1 : FlatT P k f1.type s1) (h2 : FlatT P k f2.type s2) : FlatT P k t (s0 + s1 + s2) := by
  intro H enc w base sp held fuel cs x h
  obtain ⟨xs, n, _, _, hl, hx, hf⟩ := DataW.trod_struct ht h
  rw [hc] at hl
  have hx3 : xs.length = 3 := hx
  have e0 := hf 0 _ rfl
  have e1 := hf 1 _ rfl
  have e2 := hf 2 _ rfl
  rw [List.getElem?_eq_getElem (by omega)] at e0 e1 e2
  change DataW.trod enc P w base sp held n f0.type ((cs.drop f0.offset).take (P.cellsOf f0.type)) = _ at e0
  obtain ⟨_, k0⟩ := h0 _ _ _ _ _ _ _ _ e0
  change DataW.trod enc P w base sp held n f1.type ((cs.drop f1.offset).take (P.cellsOf f1.type)) = _ at e1
  obtain ⟨_, k1⟩ := h1 _ _ _ _ _ _ _ _ e1
  change DataW.trod enc P w base sp held n f2.type ((cs.drop f2.offset).take (P.cellsOf f2.type)) = _ at e2
  obtain ⟨_, k2⟩ := h2 _ _ _ _ _ _ _ _ e2
  rw [o0, c0, List.drop_zero] at k0
  rw [o1, c1] at k1
  rw [o2, c2, List.take_of_length_le (by rw [List.length_drop]; omega)] at k2
  refine ⟨hl, fun v hv => ?_⟩
  rw [← List.take_append_drop s0 cs] at hv
  rcases List.mem_append.1 hv with hv | hv
  · exact k0 v hv
  · rw [← List.take_append_drop s1 (cs.drop s0), List.drop_drop] at hv
    rcases List.mem_append.1 hv with hv | hv
    · exact k1 v hv
    · exact k2 v hv
theorem c3 : Try.prog.cellsOf 3 = 1 := by kernel_rfl
theorem c4 : Try.prog.cellsOf 4 = 1 := by kernel_rfl
theorem c23 : Try.prog.cellsOf 23 = 2 := by kernel_rfl
theorem c107 : Try.prog.cellsOf 107 = 4 := by kernel_rfl
theorem c113 : Try.prog.cellsOf 113 = 3 := by kernel_rfl
theorem c24 : Try.prog.cellsOf 24 = 1 := by kernel_rfl
theorem c25 : Try.prog.cellsOf 25 = 1 := by kernel_rfl
theorem c27 : Try.prog.cellsOf 27 = 5 := by kernel_rfl
theorem flat3 : FlatT Try.prog .i64 3 1 := flat_int (by rfl)
theorem flat23 : FlatT Try.prog .i64 23 2 := flat_struct2 (s0 := 1) (s1 := 1) Try.underlying23 c23 rfl rfl c3 c3 flat3 flat3
theorem flat107 : FlatT Try.prog .i64 107 4 := flat_struct3 (s0 := 2) (s1 := 1) (s2 := 1) Try.underlying107 c107 rfl rfl rfl c23 c3 c3 flat23 flat3 flat3
def sampOk (j : Nat) (v : Value) : Prop := if j = 2 then ∃ b, v = .bool b else ∃ n, v = .int .i64 n
theorem sampOk_fine : ∀ j v, sampOk j v → (∀ (φ : Emb) n, okV φ n v) ∧ oneCell v = true ∧ ∀ φ : Emb, mapV φ v = v := fun j v h => by
  unfold sampOk at h
  split at h
  · obtain ⟨b, rfl⟩ := h; exact ⟨fun _ _ => by simp [okV], rfl, fun _ => by simp [mapV]⟩
  · obtain ⟨b, rfl⟩ := h; exact ⟨fun _ _ => by simp [okV], rfl, fun _ => by simp [mapV]⟩
theorem samp_cells {H : Type} {enc : TypeId × Value → H} {w : World} {base : Nat} {sp : Nat → Bool} {held : Bool} {fuel : Nat} {cs : List Value} {x : DataW H × List MemPlace} (h : DataW.trod enc Try.prog w base sp held fuel 113 cs = some x) : ∃ a b d, cs = [.int .i64 a, .int .i64 b, .bool d] := by
  obtain ⟨xs, n, _, _, hl, hx, hf⟩ := DataW.trod_struct Try.underlying113 h
  rw [c113] at hl
  obtain ⟨a, b, d, rfl⟩ : ∃ a b c, cs = [a, b, c] := by
    match cs, hl with
    | [a, b, c], _ => exact ⟨a, b, c, rfl⟩
  have hx3 : xs.length = 3 := hx
  have h0 := hf 0 _ rfl
  have h1 := hf 1 _ rfl
  have h2 := hf 2 _ rfl
  rw [List.getElem?_eq_getElem (by omega)] at h0 h1 h2
  change DataW.trod enc Try.prog w base sp held n 3 (([a, b, d].drop 0).take (Try.prog.cellsOf 3)) = _ at h0
  change DataW.trod enc Try.prog w base sp held n 3 (([a, b, d].drop 1).take (Try.prog.cellsOf 3)) = _ at h1
  change DataW.trod enc Try.prog w base sp held n 4 (([a, b, d].drop 2).take (Try.prog.cellsOf 4)) = _ at h2
  rw [c3] at h0 h1
  rw [c4] at h2
  obtain ⟨n0, e0, _⟩ := DataW.trod_int (show Try.prog.underlying 3 = some (.int .i64) by rfl) h0
  obtain ⟨n1, e1, _⟩ := DataW.trod_int (show Try.prog.underlying 3 = some (.int .i64) by rfl) h1
  obtain ⟨b2, e2, _⟩ := DataW.trod_bool Try.underlying4 h2
  cases e0
  cases e1
  cases e2
  exact ⟨_, _, _, rfl⟩
theorem flat113 : FlatP Try.prog 113 3 sampOk := by
  intro H enc w base sp held fuel cs x h
  obtain ⟨a, b, d, rfl⟩ := samp_cells h
  refine ⟨rfl, fun j v hv => ?_⟩
  unfold sampOk
  rcases j with _ | _ | _ | j
  · cases hv; exact ⟨_, rfl⟩
  · cases hv; exact ⟨_, rfl⟩
  · cases hv; exact ⟨_, rfl⟩
  · simp at hv
section
variable {H : Type} {enc : TypeId × Value → H} {w : World} {base : Nat} {sp : Nat → Bool} {held : Bool} {fuel : Nat} {cs : List Value} {x : DataW H × List MemPlace}
structure BeatW (wd : World) (vv sv : Value) : Prop where
  v : FlatS wd .i64 4 vv
  s : FlatSP wd 3 sampOk sv
theorem beatW_of (h : DataW.trod enc Try.prog w base sp held fuel 27 cs = some x) : ∃ a b vv c sv, cs = [.int .i64 a, .int .i64 b, vv, .int .i64 c, sv] ∧ BeatW w vv sv := by
  obtain ⟨xs, n, _, _, hl, hx, hf⟩ := DataW.trod_struct Try.underlying27 h
  rw [c27] at hl
  obtain ⟨a, b, vv, c, sv, rfl⟩ : ∃ a b c d e, cs = [a, b, c, d, e] := by
    match cs, hl with
    | [a, b, c, d, e], _ => exact ⟨a, b, c, d, e, rfl⟩
  have hx3 : xs.length = 4 := hx
  have h0 := hf 0 _ rfl
  have h1 := hf 1 _ rfl
  have h2 := hf 2 _ rfl
  have h3 := hf 3 _ rfl
  rw [List.getElem?_eq_getElem (by omega)] at h0 h1 h2 h3
  change DataW.trod enc Try.prog w base sp held n 23 (([a, b, vv, c, sv].drop 0).take (Try.prog.cellsOf 23)) = _ at h0
  change DataW.trod enc Try.prog w base sp held n 24 (([a, b, vv, c, sv].drop 2).take (Try.prog.cellsOf 24)) = _ at h1
  change DataW.trod enc Try.prog w base sp held n 3 (([a, b, vv, c, sv].drop 3).take (Try.prog.cellsOf 3)) = _ at h2
  change DataW.trod enc Try.prog w base sp held n 25 (([a, b, vv, c, sv].drop 4).take (Try.prog.cellsOf 25)) = _ at h3
  rw [c23] at h0
  rw [c24] at h1
  rw [c3] at h2
  rw [c25] at h3
  obtain ⟨_, k0⟩ := flat23 _ _ _ _ _ _ _ _ h0
  obtain ⟨_, k2⟩ := flat3 _ _ _ _ _ _ _ _ h2
  obtain ⟨_, e1, k1⟩ := flat_slice Try.underlying24 c107 (by omega) flat107 h1
  obtain ⟨_, e3, k3⟩ := flatP_slice Try.underlying25 c113 (by omega) flat113 h3
  cases e1
  cases e3
  obtain ⟨a', rfl, _⟩ := k0 a (by simp)
  obtain ⟨b', rfl, _⟩ := k0 b (by simp)
  obtain ⟨c', rfl, _⟩ := k2 c (by simp)
  exact ⟨a', b', vv, c', sv, rfl, k1, k3⟩
end
def intOf : Value → Int
  | .int _ n => n
  | _ => 0
def boolOf : Value → Bool
  | .bool b => b
  | _ => false
theorem beat_load {w : World} {φ : Emb} (L : Loaded w φ h) (hn : h.next + 40 < far) {vv sv : Value} (hy : BeatW w vv sv) (a b c : Int) :
    ∃ φ' h' u1 u2 S, Step w φ h φ' h' 2 ∧ Stands φ' h' u1 vv ∧ Stands φ' h' u2 sv ∧ BeatR h' u1 u2 S ∧ S.slo = a ∧ S.shi = b ∧ S.last = c := by
  obtain ⟨φ1, h1, u1, s1, t1, c1, r1⟩ := L.flat (by omega) (by omega) hy.v
  have n1 := s1.next
  obtain ⟨φ2, h2, u2, s2, t2, c2, r2, k2⟩ := s1.ld.flatP (by omega) (by omega) sampOk_fine hy.s
  have n2 := s2.next
  refine ⟨φ2, h2, u1, u2, ⟨a, b, vlen vv, fun k => c1 k 0, fun k => c1 k 1, fun k => c1 k 2, fun k => c1 k 3, c, vlen sv, fun k => intOf (c2 k 0), fun k => intOf (c2 k 1), fun k => boolOf (c2 k 2)⟩, s1.trans s2, t1.step s2, t2, ⟨?_, ?_⟩, rfl, rfl, rfl⟩
  · refine cells_congr (r1.mono s2.sub) fun k j hk hj => ?_
    rcases j with _ | _ | _ | _ | j
    · rfl
    · rfl
    · rfl
    · rfl
    · omega
  · refine cells_congr r2 fun k j hk hj => ?_
    have := k2 k j hk hj
    unfold sampOk at this
    rcases j with _ | _ | _ | j
    · obtain ⟨n, e⟩ := this; simp only [sampC, e, intOf]; rfl
    · obtain ⟨n, e⟩ := this; simp only [sampC, e, intOf]; rfl
    · obtain ⟨n, e⟩ := this; simp only [sampC, e, boolOf]; rfl
    · omega
end Go.Vm.Bt

namespace Go.Vm.BtAwake
def quiet : List Nat := [81]
def e0 : Entry :=
  { next := 51, f := 36, args := [(.agg ⟨[(.int Go.IntKind.i64 (0)), (.int Go.IntKind.i64 (1)), (.slice (some ⟨50, 0, none⟩) 2 2), (.int Go.IntKind.i64 (6)), (.slice none 0 0)]⟩)], objs := [(50, .row [(.int Go.IntKind.i64 (2)), (.int Go.IntKind.i64 (4)), (.int Go.IntKind.i64 (3)), (.int Go.IntKind.i64 (2)), (.int Go.IntKind.i64 (3)), (.int Go.IntKind.i64 (3)), (.int Go.IntKind.i64 (1)), (.int Go.IntKind.i64 (5))] true 0)], val := (.tuple ⟨[(.slice (some ⟨209, 0, none⟩) 2 4611686018427387904), (.int Go.IntKind.i64 (0))]⟩), next' := 210, objs' := [(209, .row [(.int Go.IntKind.i64 (2)), (.int Go.IntKind.i64 (5)), (.int Go.IntKind.i64 (3)), (.int Go.IntKind.i64 (4))] true 2)] }
def e1 : Entry :=
  { next := 215, f := 37, args := [(.agg ⟨[(.int Go.IntKind.i64 (0)), (.int Go.IntKind.i64 (1)), (.slice (some ⟨214, 0, none⟩) 2 2), (.int Go.IntKind.i64 (6)), (.slice none 0 0)]⟩), (.int Go.IntKind.i64 (1)), (.int Go.IntKind.i64 (3))], objs := [(214, .row [(.int Go.IntKind.i64 (2)), (.int Go.IntKind.i64 (4)), (.int Go.IntKind.i64 (3)), (.int Go.IntKind.i64 (2)), (.int Go.IntKind.i64 (3)), (.int Go.IntKind.i64 (3)), (.int Go.IntKind.i64 (1)), (.int Go.IntKind.i64 (5))] true 0)], val := (.tuple ⟨[(.int Go.IntKind.i64 (3)), (.int Go.IntKind.i64 (0))]⟩), next' := 380, objs' := [] }
def e2 : Entry :=
  { next := 386, f := 44, args := [(.agg ⟨[(.int Go.IntKind.i64 (0)), (.int Go.IntKind.i64 (1)), (.slice (some ⟨384, 0, none⟩) 2 2), (.int Go.IntKind.i64 (6)), (.slice none 0 0)]⟩), (.slice (some ⟨385, 0, none⟩) 2 2)], objs := [(385, .row [(.int Go.IntKind.i64 (6)), (.int Go.IntKind.i64 (6))] true 0), (384, .row [(.int Go.IntKind.i64 (2)), (.int Go.IntKind.i64 (4)), (.int Go.IntKind.i64 (3)), (.int Go.IntKind.i64 (2)), (.int Go.IntKind.i64 (3)), (.int Go.IntKind.i64 (3)), (.int Go.IntKind.i64 (1)), (.int Go.IntKind.i64 (5))] true 0)], val := (.tuple ⟨[(.agg ⟨[(.int Go.IntKind.i64 (12)), (.int Go.IntKind.i64 (23))]⟩), (.int Go.IntKind.i64 (0))]⟩), next' := 534, objs' := [] }
def e3 : Entry :=
  { next := 540, f := 47, args := [(.agg ⟨[(.int Go.IntKind.i64 (0)), (.int Go.IntKind.i64 (1)), (.slice (some ⟨539, 0, none⟩) 2 2), (.int Go.IntKind.i64 (6)), (.slice none 0 0)]⟩)], objs := [(539, .row [(.int Go.IntKind.i64 (2)), (.int Go.IntKind.i64 (4)), (.int Go.IntKind.i64 (3)), (.int Go.IntKind.i64 (2)), (.int Go.IntKind.i64 (3)), (.int Go.IntKind.i64 (3)), (.int Go.IntKind.i64 (1)), (.int Go.IntKind.i64 (5))] true 0)], val := (.tuple ⟨[(.slice (some ⟨1817, 0, none⟩) 2 4611686018427387904), (.int Go.IntKind.i64 (4)), (.int Go.IntKind.i64 (0))]⟩), next' := 1963, objs' := [(1817, .row [(.int Go.IntKind.i64 (4)), (.int Go.IntKind.i64 (3))] true 1)] }
def e4 : Entry :=
  { next := 1971, f := 86, args := [(.agg ⟨[(.int Go.IntKind.i64 (0)), (.int Go.IntKind.i64 (1)), (.slice (some ⟨1969, 0, none⟩) 2 2), (.int Go.IntKind.i64 (6)), (.slice (some ⟨1964, 0, none⟩) 1 1)]⟩), (.slice none 0 0)], objs := [(1964, .row [(.int Go.IntKind.i64 (0)), (.int Go.IntKind.i64 (3)), (.bool false)] true 0), (1969, .row [(.int Go.IntKind.i64 (2)), (.int Go.IntKind.i64 (4)), (.int Go.IntKind.i64 (3)), (.int Go.IntKind.i64 (2)), (.int Go.IntKind.i64 (3)), (.int Go.IntKind.i64 (3)), (.int Go.IntKind.i64 (1)), (.int Go.IntKind.i64 (5))] true 0)], val := (.tuple ⟨[(.agg ⟨[(.int Go.IntKind.i64 (0)), (.int Go.IntKind.i64 (1)), (.slice (some ⟨1969, 0, none⟩) 2 2), (.int Go.IntKind.i64 (6)), (.slice (some ⟨1964, 0, none⟩) 1 1), (.slice (some ⟨2092, 0, none⟩) 3 4611686018427387904)]⟩), (.int Go.IntKind.i64 (0))]⟩), next' := 2093, objs' := [(2092, .row [(.int Go.IntKind.i64 (4)), (.int Go.IntKind.i64 (3)), (.int Go.IntKind.i64 (0)), (.int Go.IntKind.i64 (4)), (.int Go.IntKind.i64 (4)), (.int Go.IntKind.i64 (0)), (.int Go.IntKind.i64 (5)), (.int Go.IntKind.i64 (4)), (.int Go.IntKind.i64 (0))] true 3)] }
def e5 : Entry :=
  { next := 2123, f := 96, args := [(.agg ⟨[(.int Go.IntKind.i64 (0)), (.int Go.IntKind.i64 (1)), (.slice (some ⟨1969, 0, none⟩) 2 2), (.int Go.IntKind.i64 (6)), (.slice (some ⟨1964, 0, none⟩) 1 1), (.slice (some ⟨2092, 0, none⟩) 3 4611686018427387904)]⟩)], objs := [(2092, .row [(.int Go.IntKind.i64 (4)), (.int Go.IntKind.i64 (3)), (.int Go.IntKind.i64 (0)), (.int Go.IntKind.i64 (4)), (.int Go.IntKind.i64 (4)), (.int Go.IntKind.i64 (0)), (.int Go.IntKind.i64 (5)), (.int Go.IntKind.i64 (4)), (.int Go.IntKind.i64 (0))] true 3), (1964, .row [(.int Go.IntKind.i64 (0)), (.int Go.IntKind.i64 (3)), (.bool false)] true 0), (1969, .row [(.int Go.IntKind.i64 (2)), (.int Go.IntKind.i64 (4)), (.int Go.IntKind.i64 (3)), (.int Go.IntKind.i64 (2)), (.int Go.IntKind.i64 (3)), (.int Go.IntKind.i64 (3)), (.int Go.IntKind.i64 (1)), (.int Go.IntKind.i64 (5))] true 0)], val := (.tuple ⟨[(.slice (some ⟨2957, 0, none⟩) 2 4611686018427387904), (.int Go.IntKind.i64 (3))]⟩), next' := 3026, objs' := [(2957, .row [(.int Go.IntKind.i64 (5)), (.int Go.IntKind.i64 (3))] true 1)] }
def e6 : Entry :=
  { next := 3026, f := 128, args := [(.agg ⟨[(.int Go.IntKind.i64 (0)), (.int Go.IntKind.i64 (1)), (.slice (some ⟨1969, 0, none⟩) 2 2), (.int Go.IntKind.i64 (6)), (.slice (some ⟨1964, 0, none⟩) 1 1), (.slice (some ⟨2092, 0, none⟩) 3 4611686018427387904)]⟩), (.agg ⟨[(.int Go.IntKind.i64 (0)), (.int Go.IntKind.i64 (4)), (.bool true)]⟩)], objs := [(2092, .row [(.int Go.IntKind.i64 (4)), (.int Go.IntKind.i64 (3)), (.int Go.IntKind.i64 (0)), (.int Go.IntKind.i64 (4)), (.int Go.IntKind.i64 (4)), (.int Go.IntKind.i64 (0)), (.int Go.IntKind.i64 (5)), (.int Go.IntKind.i64 (4)), (.int Go.IntKind.i64 (0))] true 3), (1964, .row [(.int Go.IntKind.i64 (0)), (.int Go.IntKind.i64 (3)), (.bool false)] true 0), (1969, .row [(.int Go.IntKind.i64 (2)), (.int Go.IntKind.i64 (4)), (.int Go.IntKind.i64 (3)), (.int Go.IntKind.i64 (2)), (.int Go.IntKind.i64 (3)), (.int Go.IntKind.i64 (3)), (.int Go.IntKind.i64 (1)), (.int Go.IntKind.i64 (5))] true 0)], val := (.int Go.IntKind.i64 (1)), next' := 3645, objs' := [] }
def e7 : Entry :=
  { next := 3645, f := 128, args := [(.agg ⟨[(.int Go.IntKind.i64 (0)), (.int Go.IntKind.i64 (1)), (.slice (some ⟨1969, 0, none⟩) 2 2), (.int Go.IntKind.i64 (6)), (.slice (some ⟨1964, 0, none⟩) 1 1), (.slice (some ⟨2092, 0, none⟩) 3 4611686018427387904)]⟩), (.agg ⟨[(.int Go.IntKind.i64 (0)), (.int Go.IntKind.i64 (4)), (.bool false)]⟩)], objs := [(2092, .row [(.int Go.IntKind.i64 (4)), (.int Go.IntKind.i64 (3)), (.int Go.IntKind.i64 (0)), (.int Go.IntKind.i64 (4)), (.int Go.IntKind.i64 (4)), (.int Go.IntKind.i64 (0)), (.int Go.IntKind.i64 (5)), (.int Go.IntKind.i64 (4)), (.int Go.IntKind.i64 (0))] true 3), (1964, .row [(.int Go.IntKind.i64 (0)), (.int Go.IntKind.i64 (3)), (.bool false)] true 0), (1969, .row [(.int Go.IntKind.i64 (2)), (.int Go.IntKind.i64 (4)), (.int Go.IntKind.i64 (3)), (.int Go.IntKind.i64 (2)), (.int Go.IntKind.i64 (3)), (.int Go.IntKind.i64 (3)), (.int Go.IntKind.i64 (1)), (.int Go.IntKind.i64 (5))] true 0)], val := (.int Go.IntKind.i64 (0)), next' := 4212, objs' := [] }
def e8 : Entry :=
  { next := 4212, f := 128, args := [(.agg ⟨[(.int Go.IntKind.i64 (0)), (.int Go.IntKind.i64 (1)), (.slice (some ⟨1969, 0, none⟩) 2 2), (.int Go.IntKind.i64 (6)), (.slice (some ⟨1964, 0, none⟩) 1 1), (.slice (some ⟨2092, 0, none⟩) 3 4611686018427387904)]⟩), (.agg ⟨[(.int Go.IntKind.i64 (1)), (.int Go.IntKind.i64 (3)), (.bool true)]⟩)], objs := [(2092, .row [(.int Go.IntKind.i64 (4)), (.int Go.IntKind.i64 (3)), (.int Go.IntKind.i64 (0)), (.int Go.IntKind.i64 (4)), (.int Go.IntKind.i64 (4)), (.int Go.IntKind.i64 (0)), (.int Go.IntKind.i64 (5)), (.int Go.IntKind.i64 (4)), (.int Go.IntKind.i64 (0))] true 3), (1964, .row [(.int Go.IntKind.i64 (0)), (.int Go.IntKind.i64 (3)), (.bool false)] true 0), (1969, .row [(.int Go.IntKind.i64 (2)), (.int Go.IntKind.i64 (4)), (.int Go.IntKind.i64 (3)), (.int Go.IntKind.i64 (2)), (.int Go.IntKind.i64 (3)), (.int Go.IntKind.i64 (3)), (.int Go.IntKind.i64 (1)), (.int Go.IntKind.i64 (5))] true 0)], val := (.int Go.IntKind.i64 (0)), next' := 4700, objs' := [] }
def e9 : Entry :=
  { next := 4700, f := 128, args := [(.agg ⟨[(.int Go.IntKind.i64 (0)), (.int Go.IntKind.i64 (1)), (.slice (some ⟨1969, 0, none⟩) 2 2), (.int Go.IntKind.i64 (6)), (.slice (some ⟨1964, 0, none⟩) 1 1), (.slice (some ⟨2092, 0, none⟩) 3 4611686018427387904)]⟩), (.agg ⟨[(.int Go.IntKind.i64 (1)), (.int Go.IntKind.i64 (3)), (.bool false)]⟩)], objs := [(2092, .row [(.int Go.IntKind.i64 (4)), (.int Go.IntKind.i64 (3)), (.int Go.IntKind.i64 (0)), (.int Go.IntKind.i64 (4)), (.int Go.IntKind.i64 (4)), (.int Go.IntKind.i64 (0)), (.int Go.IntKind.i64 (5)), (.int Go.IntKind.i64 (4)), (.int Go.IntKind.i64 (0))] true 3), (1964, .row [(.int Go.IntKind.i64 (0)), (.int Go.IntKind.i64 (3)), (.bool false)] true 0), (1969, .row [(.int Go.IntKind.i64 (2)), (.int Go.IntKind.i64 (4)), (.int Go.IntKind.i64 (3)), (.int Go.IntKind.i64 (2)), (.int Go.IntKind.i64 (3)), (.int Go.IntKind.i64 (3)), (.int Go.IntKind.i64 (1)), (.int Go.IntKind.i64 (5))] true 0)], val := (.int Go.IntKind.i64 (2)), next' := 5416, objs' := [] }
def e10 : Entry :=
  { next := 5423, f := 53, args := [(.agg ⟨[(.int Go.IntKind.i64 (0)), (.int Go.IntKind.i64 (1)), (.slice (some ⟨5422, 0, none⟩) 2 2), (.int Go.IntKind.i64 (6)), (.slice (some ⟨5417, 0, none⟩) 2 2)]⟩)], objs := [(5417, .row [(.int Go.IntKind.i64 (1)), (.int Go.IntKind.i64 (3)), (.bool false), (.int Go.IntKind.i64 (0)), (.int Go.IntKind.i64 (2)), (.bool true)] true 0), (5422, .row [(.int Go.IntKind.i64 (2)), (.int Go.IntKind.i64 (4)), (.int Go.IntKind.i64 (3)), (.int Go.IntKind.i64 (2)), (.int Go.IntKind.i64 (3)), (.int Go.IntKind.i64 (3)), (.int Go.IntKind.i64 (1)), (.int Go.IntKind.i64 (5))] true 0)], val := (.tuple ⟨[(.int Go.IntKind.i64 (1)), (.int Go.IntKind.i64 (0))]⟩), next' := 5572, objs' := [] }
def e11 : Entry :=
  { next := 5579, f := 54, args := [(.agg ⟨[(.int Go.IntKind.i64 (0)), (.int Go.IntKind.i64 (1)), (.slice (some ⟨5578, 0, none⟩) 2 2), (.int Go.IntKind.i64 (6)), (.slice (some ⟨5573, 0, none⟩) 2 2)]⟩)], objs := [(5573, .row [(.int Go.IntKind.i64 (1)), (.int Go.IntKind.i64 (3)), (.bool false), (.int Go.IntKind.i64 (0)), (.int Go.IntKind.i64 (2)), (.bool true)] true 0), (5578, .row [(.int Go.IntKind.i64 (2)), (.int Go.IntKind.i64 (4)), (.int Go.IntKind.i64 (3)), (.int Go.IntKind.i64 (2)), (.int Go.IntKind.i64 (3)), (.int Go.IntKind.i64 (3)), (.int Go.IntKind.i64 (1)), (.int Go.IntKind.i64 (5))] true 0)], val := (.tuple ⟨[(.slice (some ⟨5632, 0, none⟩) 1 4611686018427387904), (.int Go.IntKind.i64 (0))]⟩), next' := 5733, objs' := [(5632, .row [(.int Go.IntKind.i64 (0))] true 1)] }
def tab : List Entry := [e0, e1, e2, e3, e4, e5, e6, e7, e8, e9, e10, e11]
end Go.Vm.BtAwake

namespace Go.Vm.BtAwake
open Go.Proofs
set_option maxRecDepth 100000
def isTrue (x : Option (Value × AHeap)) : Bool := match x with
  | some (.bool true, _) => true
  | _ => false
theorem main_ok : isTrue (acallO Try.prog quiet tab 1000 (.func (.func 24) #[] #[]) [] AHeap.empty) = true := by kernel_rfl
end Go.Vm.BtAwake
