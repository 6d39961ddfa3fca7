/-
  PROVED HERE: the statement 'VatOneMoreUptoSaid': whatever yard, sample and numbers are handed in, as long as what is handed in is of bulk at most 1048576, the law returns true, and what was handed in reads as it did. Conditions: none but the statement's own (what is handed in is of bulk at most 1048576).
  The road: what is handed in is laid into the evaluator's first heap (VmLift, VatLoad); each function of the law's road has a contract for every input (VatRef and on); the evaluator is sound (VmP: 'pcall_sound').
-/
import Derived.Test.YtnibceeoejeimaaPk8
namespace Go.Vm.Vat
open Go.Proofs
set_option linter.unusedSimpArgs false
set_option linter.unusedVariables false
set_option maxRecDepth 10000
variable {n : Nat} {h : AHeap}
theorem stands_len {φ : Emb} {a : Option Addr} {k c : Nat} {v : Value} (hs : Stands φ h (.slice a k c) v) : vlen v = k := by
  have := hs.map
  cases a with
  | none => simp only [mapV] at this; subst this; rfl
  | some a => simp only [mapV] at this; subst this; rfl
theorem samps_of {v : Value} {m : Nat} {c : Nat → Nat → Int} (hc : Cells h v 3 m fun i j => .int .i64 (c i j)) : Samps h v m (fun k => c k 0) (fun k => c k 1) (fun k => c k 2) := by
  obtain ⟨a, cap, e, e1, e2⟩ := hc
  refine ⟨a, cap, e, e1, e2.imp id fun ⟨b, o, cs, wr, g, q1, q2, q3⟩ => ⟨b, o, cs, wr, g, q1, q2, fun k j hk hj => ?_⟩⟩
  rw [q3 k j hk hj]
  obtain rfl | rfl | rfl : j = 0 ∨ j = 1 ∨ j = 2 := by omega
  all_goals rfl
theorem yard_loadS {w : World} {φ : Emb} (L : Loaded w φ h) (hn : h.next + 40 < far) {fv vv sv : Value} (hy : YardW w fv vv sv) :
    ∃ φ' h' u0 u1 u2, Step w φ h φ' h' 40 ∧ Stands φ' h' u0 fv ∧ Stands φ' h' u1 vv ∧ Stands φ' h' u2 sv ∧ ((Big u0 u1 u2 ∧ ∃ sA lA rA, Samps h' u2 (vlen sv) sA lA rA) ∨ ∃ Y, YardR h' u0 u1 u2 Y ∧ Y.ns = vlen sv) := by
  have hv' : vv = .slice none 0 0 ∨ ∃ a len cap, vv = .slice (some a) len cap ∧ len ≤ cap := by
    rcases hy.v with h | ⟨a, len, cap, h1, h2, _⟩
    · exact .inl h
    · exact .inr ⟨a, len, cap, h1, h2⟩
  by_cases hb : 30 < vlen fv ∨ 30 < vlen vv ∨ 30 < vlen sv
  · obtain ⟨φ1, h1, u0, s1, t1, a0, k0, e0⟩ := L.gap (by omega) (flatS_len hy.f)
    have n1 := s1.next
    obtain ⟨φ2, h2, u1, s2, t2, a1, k1, e1⟩ := s1.ld.gap (by omega) hv'
    have n2 := s2.next
    obtain ⟨φ3, h3, u2, s3, t3, c2, r2⟩ := s2.ld.flat (by omega) (by omega) hy.s
    have n3 := s3.next
    have st := (s1.trans s2).trans s3
    obtain ⟨a2, k2, e2, _⟩ := id r2
    exact ⟨φ3, h3, u0, u1, u2, ⟨st.ld, st.sub, st.up, by omega, st.floor, st.agree⟩, (t1.step s2).step s3, t2.step s3, t3, .inl ⟨⟨a0, _, k0, a1, _, k1, a2, _, k2, e0, e1, e2, hb⟩, _, _, _, samps_of r2⟩⟩
  · obtain ⟨φ', h', u0, u1, u2, s1, t0, t1, t2, hc⟩ := yard_load L hn hy
    refine ⟨φ', h', u0, u1, u2, s1, t0, t1, t2, .inr ?_⟩
    rcases hc with ⟨a0, n0, k0, a1, n1, k1, a2, n2, k2, rfl, rfl, rfl, hbig⟩ | ⟨Y, hY⟩
    · have e0 := stands_len t0
      have e1 := stands_len t1
      have e2 := stands_len t2
      omega
    · refine ⟨Y, hY, ?_⟩
      obtain ⟨a, cap, rfl, _⟩ := hY.s
      exact (stands_len t2).symm
theorem samp_of {H : Type} {enc : TypeId × Value → H} {w : World} {base : Nat} {sp : Nat → Bool} {held : Bool} {fuel : Nat} {cs : List Value} {x : DataW H × List MemPlace} (h : DataW.trod enc Try.prog w base sp held fuel 95 cs = some x) :
    ∃ v l r, cs = [.int .i64 v, .int .i64 l, .int .i64 r] := by
  obtain ⟨hl, hv⟩ := flat95 _ _ _ _ _ _ _ _ h
  obtain ⟨a, b, c, rfl⟩ : ∃ a b c, cs = [a, b, c] := by
    match cs, hl with
    | [a, b, c], _ => exact ⟨a, b, c, rfl⟩
  obtain ⟨v, rfl, _⟩ := hv a (by simp)
  obtain ⟨l, rfl, _⟩ := hv b (by simp)
  obtain ⟨r, rfl, _⟩ := hv c (by simp)
  exact ⟨v, l, r, rfl⟩
theorem map_samp {φ : Emb} {v l r : Int} : mapV φ (.agg ⟨[.int .i64 v, .int .i64 l, .int .i64 r]⟩) = .agg ⟨[.int .i64 v, .int .i64 l, .int .i64 r]⟩ := by simp [mapV, mapArr, mapL]
theorem bulk_pos {H : Type} (d : DataW H) : 1 ≤ Go.Proofs.Ytnibceeoejeimaa.Rows.uptoBulk d := by
  cases d with
  | lit x => cases x <;> simp [Go.Proofs.Ytnibceeoejeimaa.Rows.uptoBulk]
  | _ => simp [Go.Proofs.Ytnibceeoejeimaa.Rows.uptoBulk]
theorem bulk_len {H : Type} : ∀ l : List (DataW H), l.length ≤ Go.Proofs.Ytnibceeoejeimaa.Rows.uptoBulkAll l
  | [] => Nat.zero_le _
  | d :: r => by
    have h1 := bulk_pos d
    have h2 := bulk_len r
    simp only [Go.Proofs.Ytnibceeoejeimaa.Rows.uptoBulkAll, List.length_cons]
    omega
theorem bulk_yard {H : Type} {enc : TypeId × Value → H} {w : World} {base : Nat} {sp : Nat → Bool} {held : Bool} {fuel : Nat} {fv vv sv : Value} {x : DataW H × List MemPlace} (h : DataW.trod enc Try.prog w base sp held fuel 26 [fv, vv, sv] = some x) : vlen sv ≤ Go.Proofs.Ytnibceeoejeimaa.Rows.uptoBulk x.1 := by
  obtain ⟨xs, n, _, rfl, hl, hx, hf⟩ := DataW.trod_struct Try.underlying26 h
  have hx3 : xs.length = 3 := hx
  obtain ⟨y0, y1, y2, rfl⟩ : ∃ a b c, xs = [a, b, c] := by
    match xs, hx3 with
    | [a, b, c], _ => exact ⟨a, b, c, rfl⟩
  have h2 := hf 2 _ rfl
  change DataW.trod enc Try.prog w base sp held n 24 (([fv, vv, sv].drop 2).take (Try.prog.cellsOf 24)) = some y2 at h2
  rw [c24] at h2
  change DataW.trod enc Try.prog w base sp held n 24 [sv] = some y2 at h2
  simp only [List.map_cons, List.map_nil, Go.Proofs.Ytnibceeoejeimaa.Rows.uptoBulk, Go.Proofs.Ytnibceeoejeimaa.Rows.uptoBulkAll]
  rcases DataW.trod_slice Try.underlying24 h2 with ⟨e, _⟩ | ⟨a, len, cap, elems, rest, n', _, e, rfl, _, _, _, hlen, _⟩
  · cases e; exact Nat.zero_le _
  · cases e
    simp only [vlen, Go.Proofs.Ytnibceeoejeimaa.Rows.uptoBulk]
    have := bulk_len (elems.map (·.1))
    rw [List.length_map] at this
    omega
end Go.Vm.Vat
namespace Go.Proofs.Ytnibceeoejeimaa
open Go.ChangeShapes Go.WideShapes Go.ChangeAt Go.RowKit Go.Vm
set_option linter.unusedSimpArgs false

set_option maxRecDepth 100000 in
theorem vatOneMore_lifted (os : Os) (started : os.Started) (H : Type) (enc : TypeId × Value → H) :
    ∀ K : Stop.Interp, ReturnsInHanded {} Try.checked os 18 .any ((Rows.OpenSpec.upto Rows.vatOneMoreSpec).pre6 enc Try.prog Try.f18 Rows.vatOneMoreUptoRow.domain false) (((Rows.OpenSpec.upto Rows.vatOneMoreSpec).at K).post enc Try.prog Try.f18 false true false false) := by
  intro K
  refine returnsInHanded_of_cond (C := Try.checked) (k := Rows.uptoSmall) rfl Vat.own started (by kernel_rfl) Try.func18
    (OpenSpec.witness (enc := enc) (C := Try.checked) (k := Rows.uptoSmall) rfl false ⟨#[], #[.agg #[.slice none 0 0, .slice none 0 0, .slice none 0 0], .agg #[.int .i64 0, .int .i64 0, .int .i64 0], .int .u8 0, .int .u8 0], []⟩ 8 (by kernel_rfl) (by kernel_rfl) (by kernel_rfl)
      (x := ([.agg [.nil, .nil, .nil], .agg [.lit (.int .i64 0), .agg [.lit (.int .i64 0), .lit (.int .i64 0)]], .lit (.int .u8 0), .lit (.int .u8 0)], [], [])) (by kernel_rfl) (by kernel_rfl) (by kernel_rfl)) ?_
  intro W base args ds gs before hval0 hW hcnd hkk _
  have hval : ∀ (j : Nat) t v, Try.f18.params[j]? = some t → args[j]? = some v → Value.okWide Try.prog W .any base t v := hval0
  have hW' := hW
  obtain ⟨p, q, hA0, hV, rfl, hfz, hnd⟩ := hW
  have hA : DataW.TrodAll enc Try.prog W 0 (fun _ => true) true Try.f18.params.toList args.toList ds p := hA0
  rw [Try.params18] at hA hval
  have hB0 : DataW.TrodAll enc Try.prog W 0 (fun _ => true) true [26, 95, 5, 5] args.toList ds p := hA
  obtain ⟨rfl, rfl⟩ := trodVars_none hV
  obtain ⟨v0, r0, d0, e0, p0, q0, ha, rfl, rfl, ⟨fu0, t0⟩, hB1⟩ := trodAll_cons hB0
  obtain ⟨v1, r1, d1, e1, p1, q1, rfl, rfl, rfl, ⟨fu1, t1⟩, hB2⟩ := trodAll_cons hB1
  obtain ⟨v2, r2, d2, e2, p2, q2, rfl, rfl, rfl, ⟨fu2, t2⟩, hB3⟩ := trodAll_cons hB2
  obtain ⟨v3, r3, d3, e3, p3, q3, rfl, rfl, rfl, ⟨fu3, t3⟩, hB4⟩ := trodAll_cons hB3
  obtain ⟨rfl, rfl, rfl⟩ := trodAll_nil hB4
  have hargs : args = #[v0, v1, v2, v3] := by cases args; simp_all
  subst hargs
  have ok0 := hval 0 26 v0 rfl rfl
  have ok1 := hval 1 95 v1 rfl rfl
  have ok2 := hval 2 5 v2 rfl rfl
  have ok3 := hval 3 5 v3 rfl rfl
  clear hval0 hval
  simp only [List.append_nil] at hW'
  obtain ⟨fv, vv, sv, e0, hy⟩ := Vat.yardW_of t0
  have := Vat.agg_struct Try.underlying26 ok0 e0
  subst this
  obtain ⟨x1, x2, x3, e1⟩ := Vat.samp_of t1
  have := Vat.agg_struct Try.underlying95 ok1 e1
  subst this
  have hbk : vlen sv ≤ 1048576 := by
    have h1 : Rows.uptoBulkAll _ ≤ 1048576 := of_decide_eq_true hkk
    rw [e0] at t0
    have h2 : vlen sv ≤ Rows.uptoBulk d0 := Vat.bulk_yard t0
    simp only [List.cons_append, Rows.uptoBulkAll] at h1
    omega
  obtain ⟨a2, e2, _, wf2⟩ := DataW.trod_int Try.underlying5 t2
  have := Vat.cell_int Try.underlying5 ok2 e2
  subst this
  obtain ⟨a3, e3, _, wf3⟩ := DataW.trod_int Try.underlying5 t3
  have := Vat.cell_int Try.underlying5 ok3 e3
  subst this
  have φ0 : Emb := ⟨fun _ => ⟨0, 0, none⟩, fun _ => 0⟩
  have L := Loaded.empty φ0 W
  have hn0 : AHeap.empty.next = 0 := rfl
  have hfar : far = 4294967296 := rfl
  obtain ⟨φ1, h1, u0, u1, u2, s1, k0, k1, k2, hyc⟩ := Vat.yard_loadS L (by omega) hy
  have n1 := s1.next
  obtain ⟨my, oy⟩ := Vat.stands_yard (w := W) k0 k1 k2
  have hfl : h1.floor ≤ h1.next := by rw [s1.floor]; exact Nat.zero_le _
  have hrun : ∃ v h', Vat.call 20000 (.func (.func 18) #[] #[]) [.agg ⟨[u0, u1, u2]⟩, .agg ⟨[.int .i64 x1, .int .i64 x2, .int .i64 x3]⟩, .int .u8 a2, .int .u8 a3] h1 = some (v, h') ∧ v = .bool true := by
    obtain ⟨k2', rfl, hk2⟩ := Vat.wf8 wf2
    obtain ⟨k3', rfl, hk3⟩ := Vat.wf8 wf3
    have hone : allB oneCell [u0, u1, u2] = true := by simp [allB, k0.one, k1.one, k2.one]
    rcases hyc with ⟨hbig, sA, lA, rA, hS⟩ | ⟨Y, hY, hns⟩
    · exact Vat.oneMore_m (by omega) (by omega) hfl hone hS hbk (.inl hbig) hk2 hk3
    · exact Vat.oneMore_m (by omega) (by omega) hfl hone hY.s (by omega) (.inr ⟨Y, hY, rfl, rfl, rfl, rfl⟩) hk2 hk3
  obtain ⟨v, h', hr, hv⟩ := hrun
  have hc := law_calls (Vat.sound 20000) (args := #[.agg ⟨[fv, vv, sv]⟩, .agg ⟨[.int .i64 x1, .int .i64 x2, .int .i64 x3]⟩, .int .u8 a2, .int .u8 a3]) hr hv s1.ld (by
    intro u hu
    simp only [List.mem_cons, List.not_mem_nil, or_false] at hu
    rcases hu with rfl | rfl | rfl | rfl
    · exact oy
    · simp only [okV, okA, okL, and_true]
    · simp only [okV]
    · simp only [okV]) (by simp only [List.map_cons, List.map_nil, my, Vat.map_samp, Vat.map_int])
  refine hc.mono fun e W' ⟨he, hg, hfr⟩ => ?_
  subst he
  refine ⟨_, rfl, ⟨_, [], _, [], (p0 ++ (p1 ++ (p2 ++ (p3 ++ [])))), [], hW', trodAll_cons_mk (shut_bool Try.underlying4 _) trodAll_mk0, ?_, rfl, World.keptBut_mono (fun _ h => h.elim) hg, fun h => by cases h⟩⟩
  exact trodAll_stays Vat.kids (fun ht he => slices_full_of Try.prog Vat.slicesOk _ _ ht he) hfr (by rw [Try.params18]; intro t ht; have ht : t ∈ [26, 95, 5, 5] := ht; simp only [List.mem_cons, List.not_mem_nil, or_false] at ht; rcases ht with rfl | rfl | rfl | rfl <;> exact Nat.lt_trans (by decide) Vat.tsize) hA0

/-- the statement -/
theorem vatOneMoreUpto_holds : Rows.VatOneMoreUptoSaid :=
  OpenClaim.holds_of_cond 18 Try.f18 rfl rfl rfl rfl rfl rfl rfl ⟨rfl, rfl, rfl, rfl, rfl⟩ rfl rfl rfl rfl rfl (by kernel_rfl) Try.func18 (by kernel_rfl)
    (of_decide_eq_true (by kernel_rfl)) (by unfold Func.isWrapper; first | (rw [if_pos (by decide +kernel)]; kernel_rfl) | (rw [if_neg (by decide +kernel)]; exact ⟨rfl, rfl⟩))
    (fun os started H enc _ K => vatOneMore_lifted os started H enc K)
end Go.Proofs.Ytnibceeoejeimaa
