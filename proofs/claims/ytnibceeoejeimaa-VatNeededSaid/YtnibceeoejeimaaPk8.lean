/- Texts of the proofs of this seat, put together: VatEnds, VatEnds2, VatNeeds2, VatNeeds3, VatNeeded. -/
import Derived.Test.YtnibceeoejeimaaPk7

namespace Go.Vm.Vat
open Go.Proofs
set_option linter.unusedSimpArgs false
set_option linter.unusedVariables false
set_option maxRecDepth 10000
variable {n : Nat} {h : AHeap}

/-- four bits -/
def bitsE (b1 b2 b3 b4 : Bool) : Nat := (bif b1 then 1 else 0) + (bif b2 then 2 else 0) + (bif b3 then 4 else 0) + (bif b4 then 8 else 0)
theorem bitsE_lt {b1 b2 b3 b4 : Bool} : bitsE b1 b2 b3 b4 < 16 := by cases b1 <;> cases b2 <;> cases b3 <;> cases b4 <;> decide
theorem bitsE_1 {b1 b2 b3 b4 : Bool} : bitsE b1 b2 b3 b4 ||| 1 = bitsE true b2 b3 b4 := by cases b1 <;> cases b2 <;> cases b3 <;> cases b4 <;> rfl
theorem bitsE_2 {b1 b2 b3 b4 : Bool} : bitsE b1 b2 b3 b4 ||| 2 = bitsE b1 true b3 b4 := by cases b1 <;> cases b2 <;> cases b3 <;> cases b4 <;> rfl
theorem bitsE_4 {b1 b2 b3 b4 : Bool} : bitsE b1 b2 b3 b4 ||| 4 = bitsE b1 b2 true b4 := by cases b1 <;> cases b2 <;> cases b3 <;> cases b4 <;> rfl
theorem bitsE_8 {b1 b2 b3 b4 : Bool} : bitsE b1 b2 b3 b4 ||| 8 = bitsE b1 b2 b3 true := by cases b1 <;> cases b2 <;> cases b3 <;> cases b4 <;> rfl
theorem or_1 {other : AHeap → Option (Value × AHeap)} {b1 b2 b3 b4 : Bool} : run2 orF other (.int .i64 ((bitsE b1 b2 b3 b4 : Nat) : Int)) (.int .i64 1) h = some (.int .i64 ((bitsE true b2 b3 b4 : Nat) : Int), h) := by
  have hl := bitsE_lt (b1 := b1) (b2 := b2) (b3 := b3) (b4 := b4)
  have := r_or (other := other) (h := h) (a := bitsE b1 b2 b3 b4) (b := 1) (by omega) (by omega)
  rw [bitsE_1] at this; exact this
theorem or_2 {other : AHeap → Option (Value × AHeap)} {b1 b2 b3 b4 : Bool} : run2 orF other (.int .i64 ((bitsE b1 b2 b3 b4 : Nat) : Int)) (.int .i64 2) h = some (.int .i64 ((bitsE b1 true b3 b4 : Nat) : Int), h) := by
  have hl := bitsE_lt (b1 := b1) (b2 := b2) (b3 := b3) (b4 := b4)
  have := r_or (other := other) (h := h) (a := bitsE b1 b2 b3 b4) (b := 2) (by omega) (by omega)
  rw [bitsE_2] at this; exact this
theorem or_4 {other : AHeap → Option (Value × AHeap)} {b1 b2 b3 b4 : Bool} : run2 orF other (.int .i64 ((bitsE b1 b2 b3 b4 : Nat) : Int)) (.int .i64 4) h = some (.int .i64 ((bitsE b1 b2 true b4 : Nat) : Int), h) := by
  have hl := bitsE_lt (b1 := b1) (b2 := b2) (b3 := b3) (b4 := b4)
  have := r_or (other := other) (h := h) (a := bitsE b1 b2 b3 b4) (b := 4) (by omega) (by omega)
  rw [bitsE_4] at this; exact this
theorem or_8 {other : AHeap → Option (Value × AHeap)} {b1 b2 b3 b4 : Bool} : run2 orF other (.int .i64 ((bitsE b1 b2 b3 b4 : Nat) : Int)) (.int .i64 8) h = some (.int .i64 ((bitsE b1 b2 b3 true : Nat) : Int), h) := by
  have hl := bitsE_lt (b1 := b1) (b2 := b2) (b3 := b3) (b4 := b4)
  have := r_or (other := other) (h := h) (a := bitsE b1 b2 b3 b4) (b := 8) (by omega) (by omega)
  rw [bitsE_8] at this; exact this
/-- among the first k -/
def Seen (L : List (Nat → Int)) (p : (Nat → Int) → Prop) (k : Nat) : Prop := ∃ i, i < k ∧ p (L.getD i fun _ => 0)
noncomputable instance (L : List (Nat → Int)) (p : (Nat → Int) → Prop) (k : Nat) : Decidable (Seen L p k) := Classical.propDecidable _
theorem seen_yes {L : List (Nat → Int)} {p : (Nat → Int) → Prop} {k : Nat} (h : p (L.getD k fun _ => 0)) : decide (Seen L p (k + 1)) = true := decide_eq_true ⟨k, by omega, h⟩
theorem seen_no {L : List (Nat → Int)} {p : (Nat → Int) → Prop} {k : Nat} (h : ¬ p (L.getD k fun _ => 0)) : decide (Seen L p (k + 1)) = decide (Seen L p k) := decide_eq_decide.2
  ⟨fun ⟨i, h1, h2⟩ => by
    by_cases e : i = k
    · subst e; exact absurd h2 h
    · exact ⟨i, by omega, h2⟩, fun ⟨i, h1, h2⟩ => ⟨i, by omega, h2⟩⟩
theorem seen_all {Y : MY} (hf : faultN Y = 0) {p : (Nat → Int) → Prop} (h : ∃ t, t ∈ truths Y ∧ p t) : decide (Seen (refTruths Y) p (refTruths Y).length) = true := by
  obtain ⟨t, h1, h2⟩ := h
  obtain ⟨i, hi, rfl⟩ := mem_getD ((refTruths_mem hf).2 h1)
  exact decide_eq_true ⟨i, hi, h2⟩
theorem seen_zero {L : List (Nat → Int)} {p : (Nat → Int) → Prop} : decide (Seen L p 0) = false := decide_eq_false fun ⟨i, h, _⟩ => by omega

def s11 : SCode := (.seq (.ops [⟨(some 3), none, .box (T 0)⟩, ⟨(some 6), none, .mov (.const (.bool false))⟩]) (.seq (.seq (.ops [⟨(some 18), none, .loadN 3 (T 3)⟩, ⟨(some 19), none, .call (.func 62) [(T 18)]⟩, ⟨(some 20), none, .not (T 19)⟩, ⟨(some 21), none, .mov (T 20)⟩, ⟨(some 22), (some (21, false)), .fieldAddr 0 (T 3)⟩, ⟨(some 23), (some (21, false)), .load1 (T 22)⟩, ⟨(some 24), (some (21, false)), .len (T 23)⟩, ⟨(some 25), (some (21, false)), .int2 .eql (T 24) (.const (.int .i64 (0)))⟩, ⟨(some 26), none, .pick (T 21) (.const (.bool true)) (T 25)⟩, ⟨(some 27), none, .mov (T 26)⟩, ⟨(some 28), (some (27, false)), .fieldAddr 1 (T 3)⟩, ⟨(some 29), (some (27, false)), .load1 (T 28)⟩, ⟨(some 30), (some (27, false)), .len (T 29)⟩, ⟨(some 31), (some (27, false)), .int2 .eql (T 30) (.const (.int .i64 (0)))⟩, ⟨(some 32), none, .pick (T 27) (.const (.bool true)) (T 31)⟩]) (.cond (T 32) (.seq (.ops [⟨(some 33), none, .call (.func 24) []⟩, ⟨(some 6), none, .mov (T 33)⟩]) .ret) .skip)) (.seq (.draw [⟨.free, ⟨(some 34), none, .mov (T 1)⟩⟩, ⟨.free, ⟨(some 35), none, .plain (.convert 5 3 (T 34)) 3⟩⟩, ⟨.free, ⟨(some 36), none, .fieldAddr 1 (T 3)⟩⟩, ⟨.rd1, ⟨(some 37), none, .load1 (T 36)⟩⟩, ⟨.free, ⟨(some 38), none, .len (T 37)⟩⟩, ⟨.free, ⟨(some 39), none, .plain (.binOp .rem 3 (T 35) (T 38) 3) 3⟩⟩, ⟨.free, ⟨(some 40), none, .mov (T 2)⟩⟩, ⟨.free, ⟨(some 41), none, .plain (.convert 5 3 (T 40)) 3⟩⟩, ⟨.free, ⟨(some 42), none, .fieldAddr 0 (T 3)⟩⟩, ⟨.rd1, ⟨(some 43), none, .load1 (T 42)⟩⟩, ⟨.free, ⟨(some 44), none, .len (T 43)⟩⟩, ⟨.free, ⟨(some 45), none, .plain (.binOp .rem 3 (T 41) (T 44) 3) 3⟩⟩, ⟨.free, ⟨(some 7), none, .mov (T 39)⟩⟩, ⟨.free, ⟨(some 8), none, .mov (T 45)⟩⟩]) (.seq (.ops [⟨(some 47), none, .loadN 3 (T 3)⟩, ⟨(some 48), none, .call (.func 26) [(T 47)]⟩, ⟨(some 49), none, .call (.func 34) [(T 48)]⟩, ⟨(some 46), none, .mov (T 49)⟩, ⟨(some 50), none, .extract 0 (T 46)⟩, ⟨(some 51), none, .extract 1 (T 46)⟩, ⟨(some 9), none, .mov (T 50)⟩, ⟨(some 10), none, .mov (T 51)⟩]) (.seq (.ops [⟨(some 53), none, .loadN 3 (T 3)⟩, ⟨(some 54), none, .call (.func 26) [(T 53)]⟩, ⟨(some 55), none, .call (.func 35) [(T 54)]⟩, ⟨(some 52), none, .mov (T 55)⟩, ⟨(some 56), none, .extract 0 (T 52)⟩, ⟨(some 57), none, .extract 1 (T 52)⟩, ⟨(some 11), none, .mov (T 56)⟩, ⟨(some 12), none, .mov (T 57)⟩]) (.seq (.ops [⟨(some 58), none, .loadN 3 (T 3)⟩, ⟨(some 59), none, .call (.func 64) [(T 58)]⟩, ⟨(some 13), none, .mov (T 59)⟩]) (.seq (.seq (.ops [⟨(some 60), none, .mov (T 13)⟩, ⟨(some 61), none, .len (T 60)⟩, ⟨(some 62), none, .int2 .eql (T 61) (.const (.int .i64 (0)))⟩]) (.cond (T 62) (.seq (.ops [⟨(some 63), none, .mov (T 10)⟩, ⟨(some 64), none, .int2 .eql (T 63) (.const (.int .i64 (11)))⟩, ⟨(some 65), none, .mov (T 64)⟩, ⟨(some 66), (some (65, true)), .mov (T 12)⟩, ⟨(some 67), (some (65, true)), .mov (T 10)⟩, ⟨(some 68), (some (65, true)), .int2 .eql (T 66) (T 67)⟩, ⟨(some 69), none, .pick (T 65) (T 68) (.const (.bool false))⟩, ⟨(some 70), none, .mov (T 69)⟩, ⟨(some 71), (some (70, true)), .call (.func 24) []⟩, ⟨(some 72), none, .pick (T 70) (T 71) (.const (.bool false))⟩, ⟨(some 6), none, .mov (T 72)⟩]) .ret) .skip)) (.seq (.seq (.ops [⟨(some 73), none, .mov (T 10)⟩, ⟨(some 74), none, .int2 .neq (T 73) (.const (.int .i64 (0)))⟩, ⟨(some 75), none, .mov (T 74)⟩, ⟨(some 76), (some (75, false)), .mov (T 12)⟩, ⟨(some 77), (some (75, false)), .int2 .neq (T 76) (.const (.int .i64 (0)))⟩, ⟨(some 78), none, .pick (T 75) (.const (.bool true)) (T 77)⟩, ⟨(some 79), none, .mov (T 78)⟩, ⟨(some 80), (some (79, false)), .mov (T 9)⟩, ⟨(some 81), (some (79, false)), .len (T 80)⟩, ⟨(some 82), (some (79, false)), .fieldAddr 1 (T 3)⟩, ⟨(some 83), (some (79, false)), .load1 (T 82)⟩, ⟨(some 84), (some (79, false)), .len (T 83)⟩, ⟨(some 85), (some (79, false)), .int2 .neq (T 81) (T 84)⟩, ⟨(some 86), none, .pick (T 79) (.const (.bool true)) (T 85)⟩, ⟨(some 87), none, .mov (T 86)⟩, ⟨(some 88), (some (87, false)), .mov (T 11)⟩, ⟨(some 89), (some (87, false)), .len (T 88)⟩, ⟨(some 90), (some (87, false)), .fieldAddr 0 (T 3)⟩, ⟨(some 91), (some (87, false)), .load1 (T 90)⟩, ⟨(some 92), (some (87, false)), .len (T 91)⟩, ⟨(some 93), (some (87, false)), .int2 .neq (T 89) (T 92)⟩, ⟨(some 94), none, .pick (T 87) (.const (.bool true)) (T 93)⟩]) (.cond (T 94) (.seq (.ops [⟨(some 6), none, .mov (.const (.bool false))⟩]) .ret) .skip)) (.seq (.ops [⟨(some 14), none, .mov (.const (.int .i64 (0)))⟩]) (.seq (.seq (.ops [⟨(some 15), none, .mov (.const (.int .i64 (0)))⟩]) (.block 0 (.loop (.seq (.seq (.ops [⟨(some 95), none, .mov (T 15)⟩, ⟨(some 96), none, .mov (T 13)⟩, ⟨(some 97), none, .len (T 96)⟩, ⟨(some 98), none, .int2 .lss (T 95) (T 97)⟩]) (.cond (T 98) .skip (.exit 0))) (.seq (.block 1 (.seq (.draw [⟨.rd1, ⟨(some 101), none, .loadN 3 (T 3)⟩⟩, ⟨.free, ⟨(some 102), none, .mov (T 13)⟩⟩, ⟨.free, ⟨(some 103), none, .mov (T 15)⟩⟩, ⟨.free, ⟨(some 104), none, .idxSl 1 (T 102) (T 103)⟩⟩, ⟨.rd1, ⟨(some 105), none, .load1 (T 104)⟩⟩, ⟨.free, ⟨(some 106), none, .mov (T 7)⟩⟩, ⟨.up, ⟨(some 107), none, .call (.func 33) [(T 101), (T 105), (T 106)]⟩⟩, ⟨.free, ⟨(some 108), none, .mov (T 13)⟩⟩, ⟨.free, ⟨(some 109), none, .mov (T 15)⟩⟩, ⟨.free, ⟨(some 110), none, .idxSl 1 (T 108) (T 109)⟩⟩, ⟨.rd, ⟨(some 111), none, .load1 (T 110)⟩⟩, ⟨.free, ⟨(some 112), none, .mov (T 8)⟩⟩, ⟨.free, ⟨(some 113), none, .idxSl 1 (T 111) (T 112)⟩⟩, ⟨.rd, ⟨(some 114), none, .load1 (T 113)⟩⟩, ⟨.free, ⟨(some 16), none, .mov (T 107)⟩⟩, ⟨.free, ⟨(some 17), none, .mov (T 114)⟩⟩]) (.seq (.seq (.ops [⟨(some 115), none, .mov (T 16)⟩, ⟨(some 116), none, .mov (T 9)⟩, ⟨(some 117), none, .mov (T 7)⟩, ⟨(some 118), none, .idxSl 2 (T 116) (T 117)⟩, ⟨(some 119), none, .fieldAddr 0 (T 118)⟩, ⟨(some 120), none, .load1 (T 119)⟩, ⟨(some 121), none, .int2 .eql (T 115) (T 120)⟩]) (.cond (T 121) (.ops [⟨(some 122), none, .mov (T 14)⟩, ⟨(some 123), none, .plain (.binOp .or 3 (T 122) (.const (.int .i64 (1))) 3) 3⟩, ⟨(some 14), none, .mov (T 123)⟩]) .skip)) (.seq (.seq (.ops [⟨(some 124), none, .mov (T 16)⟩, ⟨(some 125), none, .mov (T 9)⟩, ⟨(some 126), none, .mov (T 7)⟩, ⟨(some 127), none, .idxSl 2 (T 125) (T 126)⟩, ⟨(some 128), none, .fieldAddr 1 (T 127)⟩, ⟨(some 129), none, .load1 (T 128)⟩, ⟨(some 130), none, .int2 .eql (T 124) (T 129)⟩]) (.cond (T 130) (.ops [⟨(some 131), none, .mov (T 14)⟩, ⟨(some 132), none, .plain (.binOp .or 3 (T 131) (.const (.int .i64 (2))) 3) 3⟩, ⟨(some 14), none, .mov (T 132)⟩]) .skip)) (.seq (.seq (.ops [⟨(some 133), none, .mov (T 17)⟩, ⟨(some 134), none, .mov (T 11)⟩, ⟨(some 135), none, .mov (T 8)⟩, ⟨(some 136), none, .idxSl 2 (T 134) (T 135)⟩, ⟨(some 137), none, .fieldAddr 0 (T 136)⟩, ⟨(some 138), none, .load1 (T 137)⟩, ⟨(some 139), none, .int2 .eql (T 133) (T 138)⟩]) (.cond (T 139) (.ops [⟨(some 140), none, .mov (T 14)⟩, ⟨(some 141), none, .plain (.binOp .or 3 (T 140) (.const (.int .i64 (4))) 3) 3⟩, ⟨(some 14), none, .mov (T 141)⟩]) .skip)) (.seq (.ops [⟨(some 142), none, .mov (T 17)⟩, ⟨(some 143), none, .mov (T 11)⟩, ⟨(some 144), none, .mov (T 8)⟩, ⟨(some 145), none, .idxSl 2 (T 143) (T 144)⟩, ⟨(some 146), none, .fieldAddr 1 (T 145)⟩, ⟨(some 147), none, .load1 (T 146)⟩, ⟨(some 148), none, .int2 .eql (T 142) (T 147)⟩]) (.cond (T 148) (.ops [⟨(some 149), none, .mov (T 14)⟩, ⟨(some 150), none, .plain (.binOp .or 3 (T 149) (.const (.int .i64 (8))) 3) 3⟩, ⟨(some 14), none, .mov (T 150)⟩]) .skip))))))) (.ops [⟨(some 99), none, .mov (T 15)⟩, ⟨(some 100), none, .int2 .add (T 99) (.const (.int .i64 (1)))⟩, ⟨(some 15), none, .mov (T 100)⟩])))))) (.seq (.ops [⟨(some 151), none, .mov (T 14)⟩, ⟨(some 152), none, .int2 .eql (T 151) (.const (.int .i64 (15)))⟩, ⟨(some 153), none, .mov (T 152)⟩, ⟨(some 154), (some (153, true)), .call (.func 24) []⟩, ⟨(some 155), none, .pick (T 153) (T 154) (.const (.bool false))⟩, ⟨(some 6), none, .mov (T 155)⟩]) .ret)))))))))))
theorem fok11 : FnOk Try.prog 11 156 s11 [.tmp 6] := ⟨Try.f11, _, Try.func11, rfl, Try.ntmps11, by kernel_rfl, by kernel_rfl⟩
theorem ends_1 (hn : 10090 ≤ n) (hr : h.next + 3000000 < far) (hfl : h.floor ≤ h.next) {fv vv sv : Value} {Y : MY} (hy : YardR h fv vv sv Y) (hT : Thin Y) (hf : faultN Y = 0) (hnf : 0 < Y.nf) (hnv : 0 < Y.nv) {a1 a2 : Nat} (w1 : a1 < 256) (w2 : a2 < 256) :
    ∃ v h', call n (.func (.func 11) #[] #[]) [.agg ⟨[fv, vv, sv]⟩, .int .u8 (a1 : Int), .int .u8 (a2 : Int)] h = some (v, h') ∧ v = .bool true := by
  obtain ⟨n, rfl⟩ : ∃ p, n = p + 1 := ⟨n - 1, by omega⟩
  refine call_any0 fok11 rfl rfl (by simp) ?_
  simp only [s11, W_seq, W_ops]
  refine ops_box (cs := [fv, vv, sv]) (by omega) rfl hy.one fun g1 hx1 => ?_
  have n1 := hx1.next
  have f1 := hx1.floor
  have hy1 := hy.mono hx1.sub
  have x1 := hx1.row.whole (n := 3) rfl
  have r1 := hx1.row
  have hrd := ready_c (n := n) (h := g1) (by omega) (by omega) hy1
  have hrd' : decide (Thin Y ∧ faultN Y = 0) = true := decide_eq_true ⟨hT, hf⟩
  rw [hrd'] at hrd
  obtain ⟨rr, hrw, hq⟩ := hy1.v
  have z1 : ¬ (Y.nf : Int) = 0 := by omega
  have z2 : ¬ (Y.nv : Int) = 0 := by omega
  obtain ⟨one, hone⟩ : ∃ o, o = a1 % Y.nv := ⟨_, rfl⟩
  obtain ⟨fld, hfld⟩ : ∃ o, o = a2 % Y.nf := ⟨_, rfl⟩
  have hov : one < Y.nv := by rw [hone]; exact Nat.mod_lt _ hnv
  have hof : fld < Y.nf := by rw [hfld]; exact Nat.mod_lt _ hnf
  have m1 : (a1 : Int).tmod (Y.nv : Int) = (one : Int) := by rw [hone]; rfl
  have m2 : (a2 : Int).tmod (Y.nf : Int) = (fld : Int) := by rw [hfld]; rfl
  simp only [rn0, rn1, rn2, rn3, rn4, rn5, rn6, rn7, rn8, if_true, if_false, Nat.le_refl, true_and, and_true, decide_true, decide_false, Bool.not_true, Bool.not_false, reduceIte, Nat.reduceEqDiff, Nat.reduceAdd, Nat.reduceMul, Nat.reduceSub, Nat.reduceLeDiff, Nat.reduceLT, x1, hrd, r1.ld, Nat.zero_add, List.getElem?_cons_zero, List.getElem?_cons_succ, Cells.len hy1.f, Cells.len hrw, z1, z2]
  refine W_draw All ?_
  simp only [rn0, rn1, rn2, rn3, rn4, rn5, rn6, rn7, rn8, if_true, if_false, Nat.le_refl, true_and, and_true, decide_true, decide_false, Bool.not_true, Bool.not_false, reduceIte, Nat.reduceEqDiff, Nat.reduceAdd, Nat.reduceMul, Nat.reduceSub, Nat.reduceLeDiff, Nat.reduceLT, p_conv8, r_8 w1, r_8 w2, valN_tmp, Nat.reduceLT, r1.ld, Nat.zero_add, List.getElem?_cons_zero, List.getElem?_cons_succ, Cells.len hy1.f, Cells.len hrw, r_rem z1, r_rem z2, m1, m2]
  obtain ⟨F1, V1, S1, g2, ey2, hy2, m2'⟩ := yard_c (n := n) (h := g1) (by omega) (by omega) (by omega) hy1 hT
  have n2 := m2'.next
  have u2 := m2'.up
  have f2 := m2'.floor
  obtain ⟨bv, g3, eb3, m3, hb3⟩ := boundsV_c (n := n) (h := g2) (by omega) (by omega) (by omega) hy2 hT
  have n3 := m3.next
  have u3 := m3.up
  have f3 := m3.floor
  have s3 : Sub All g1 g3 := m2'.sub.trans m3.sub
  have w3 := (hx1.row.mono s3).whole (n := 3) rfl
  obtain ⟨F2, V2, S2, g4, ey4, hy4, m4⟩ := yard_c (n := n) (h := g3) (by omega) (by omega) (by omega) (hy1.mono s3) hT
  have n4 := m4.next
  have u4 := m4.up
  have f4 := m4.floor
  obtain ⟨fw, g5, ef5, m5, hf5⟩ := fieldsV_c (n := n) (h := g4) (by omega) (by omega) (by omega) hy4 hT
  have n5 := m5.next
  have u5 := m5.up
  have f5 := m5.floor
  have s5 : Sub All g1 g5 := s3.trans (m4.sub.trans m5.sub)
  have w5 := (hx1.row.mono s5).whole (n := 3) rfl
  obtain ⟨l, g6, et6, hl6, m6⟩ := truthsRef_c (n := n) (h := g5) (by omega) (by omega) (by omega) (hy1.mono s5) hf
  have n6 := m6.next
  have u6 := m6.up
  have f6 := m6.floor
  have s6 : Sub All g1 g6 := s5.trans m6.sub
  have w6 := (hx1.row.mono s6).whole (n := 3) rfl
  have r6 := hx1.row.mono s6
  have hy6 := hy1.mono s6
  have haw := awake_c (n := n) (h := g6) (by omega)
  change TruthsL g6 l Y.nf (refTruths Y) at hl6
  have hl6' := hl6
  obtain ⟨rl, q1, q2⟩ := hl6
  rcases hb3 with ⟨h0, _⟩ | ⟨_, hn0, rfl⟩ | ⟨_, hne, bl, rfl, hbl⟩
  · exact absurd hf h0
  · rcases hf5 with ⟨h0, _⟩ | ⟨_, _, rfl⟩ | ⟨_, h0, _⟩
    · exact absurd hf h0
    · have hlz : (refTruths Y).length = 0 := by rw [(refTruths_nil hf).2 hn0]; rfl
      simp only [rn0, rn1, rn2, rn3, rn4, rn5, rn6, rn7, rn8, if_true, if_false, Nat.le_refl, true_and, and_true, decide_true, decide_false, Bool.not_true, Bool.not_false, reduceIte, Nat.reduceEqDiff, Nat.reduceAdd, Nat.reduceMul, Nat.reduceSub, Nat.reduceLeDiff, Nat.reduceLT, x1, ey2, eb3, ex0, ex1, w3, ey4, ef5, w5, et6, Cells.len q1, hlz, Int.natCast_zero, haw, Int.reduceEq]
    · exact absurd hn0 h0
  rcases hf5 with ⟨h0, _⟩ | ⟨_, h0, _⟩ | ⟨_, _, fl, rfl, hfl5⟩
  · exact absurd hf h0
  · exact absurd h0 hne
  have hlz : ¬ ((refTruths Y).length : Int) = 0 := fun e => ((not_congr (refTruths_nil hf)).2 hne) (List.eq_nil_of_length_eq_zero (by omega))
  have hbl6 := Cells.mono hbl ((m4.sub.trans m5.sub).trans m6.sub)
  have hfl6 := Cells.mono hfl5 m6.sub
  obtain ⟨rr6, hrw6, hq6⟩ := hy6.v
  simp only [rn0, rn1, rn2, rn3, rn4, rn5, rn6, rn7, rn8, if_true, if_false, Nat.le_refl, true_and, and_true, decide_true, decide_false, Bool.not_true, Bool.not_false, reduceIte, Nat.reduceEqDiff, Nat.reduceAdd, Nat.reduceMul, Nat.reduceSub, Nat.reduceLeDiff, Nat.reduceLT, x1, ey2, eb3, ex0, ex1, w3, ey4, ef5, w5, et6, Cells.len q1, hlz, Int.natCast_zero, r6.ld, Nat.zero_add, List.getElem?_cons_zero, List.getElem?_cons_succ, Cells.len hbl6, Cells.len hfl6, Cells.len hrw6, Cells.len hy6.f]
  obtain ⟨z5, z6, z7⟩ := (good_of hf).sz
  have hlen := refTruths_len hf
  obtain ⟨P1, hP1⟩ : ∃ P : (Nat → Int) → Prop, P = (fun t => blueN t (Y.q one) Y.nf = loN (fun t => blueN t (Y.q one) Y.nf) (truths Y)) := ⟨_, rfl⟩
  obtain ⟨P2, hP2⟩ : ∃ P : (Nat → Int) → Prop, P = (fun t => blueN t (Y.q one) Y.nf = hiN (fun t => blueN t (Y.q one) Y.nf) (truths Y)) := ⟨_, rfl⟩
  obtain ⟨P3, hP3⟩ : ∃ P : (Nat → Int) → Prop, P = (fun t => t fld = loN (fun t => t fld) (truths Y)) := ⟨_, rfl⟩
  obtain ⟨P4, hP4⟩ : ∃ P : (Nat → Int) → Prop, P = (fun t => t fld = hiN (fun t => t fld) (truths Y)) := ⟨_, rfl⟩
  refine W_loop (refTruths Y).length (fun k f g ms => g = g6 ∧ ms = [] ∧ f 3 = .pointer (some ⟨h.next, 0, none⟩) ∧ f 7 = .int .i64 (one : Int) ∧ f 8 = .int .i64 (fld : Int) ∧ f 9 = bl ∧ f 11 = fl ∧ f 13 = l ∧ f 15 = .int .i64 (k : Int) ∧ f 14 = .int .i64 ((bitsE (decide (Seen (refTruths Y) P1 k)) (decide (Seen (refTruths Y) P2 k)) (decide (Seen (refTruths Y) P3 k)) (decide (Seen (refTruths Y) P4 k)) : Nat) : Int)) (by simp; omega) ?_ ?_ ?_
  · simp only [rn0, rn1, rn2, rn3, rn4, rn5, rn6, rn7, rn8, if_true, if_false, Nat.le_refl, true_and, and_true, decide_true, decide_false, Bool.not_true, Bool.not_false, reduceIte, Nat.reduceEqDiff, Nat.reduceAdd, Nat.reduceMul, Nat.reduceSub, Nat.reduceLeDiff, Nat.reduceLT, seen_zero]
    exact ⟨rfl, rfl⟩
  · rintro k f g ms hk ⟨rfl, rfl, p3, p7, p8, p9, p11, p13, p15, p14⟩
    have hk' : (k : Int) < ((refTruths Y).length : Int) := by omega
    have hw : wrapF .i64 ((k : Int) + 1) = ((k + 1 : Nat) : Int) := by rw [wrap_in (by omega) (by omega)]; rfl
    have q2k : Ints g (rl k) Y.nf ((refTruths Y).getD k fun _ => 0) := q2 k hk
    obtain ⟨v1, v2⟩ := (good_of hf).v one hov
    have eb := blue_c (n := n) (h := g) (at_ := one) (nb := Y.nf) (b := (refTruths Y).getD k fun _ => 0) (by omega) (by omega) hy6 q2k (by omega) hov (by omega) (refTruths_range hf (refTruths_at hk)) (fun j hj => v2 j (by omega))
    have hsl := Cells.self q2k
    have l1 : loadCell g (ptrO bl 2 one 0) = some (.int .i64 (loN (fun t => blueN t (Y.q one) Y.nf) (truths Y))) := Cells.ld hbl6 hov (by omega)
    have l2 : loadCell g (ptrO bl 2 one 1) = some (.int .i64 (hiN (fun t => blueN t (Y.q one) Y.nf) (truths Y))) := Cells.ld hbl6 hov (by omega)
    have l3 : loadCell g (ptrO fl 2 fld 0) = some (.int .i64 (loN (fun t => t fld) (truths Y))) := Cells.ld hfl6 hof (by omega)
    have l4 : loadCell g (ptrO fl 2 fld 1) = some (.int .i64 (hiN (fun t => t fld) (truths Y))) := Cells.ld hfl6 hof (by omega)
    simp only [rn0, rn1, rn2, rn3, rn4, rn5, rn6, rn7, rn8, if_true, if_false, Nat.le_refl, true_and, and_true, decide_true, decide_false, Bool.not_true, Bool.not_false, reduceIte, Nat.reduceEqDiff, Nat.reduceAdd, Nat.reduceMul, Nat.reduceSub, Nat.reduceLeDiff, Nat.reduceLT, p3, p7, p8, p9, p11, p13, p14, p15, Cells.len q1, hk']
    refine W_draw All ?_
    simp only [rn0, rn1, rn2, rn3, rn4, rn5, rn6, rn7, rn8, if_true, if_false, Nat.le_refl, true_and, and_true, decide_true, decide_false, Bool.not_true, Bool.not_false, reduceIte, Nat.reduceEqDiff, Nat.reduceAdd, Nat.reduceMul, Nat.reduceSub, Nat.reduceLeDiff, Nat.reduceLT, p3, p7, p8, p9, p11, p13, p14, p15, w6, Cells.idx q1 hk, Cells.ld q1 hk Nat.zero_lt_one, eb, hsl, Cells.idx q2k hof, Cells.ld q2k hof Nat.zero_lt_one, Cells.idx hbl6 hov, Cells.fld hbl6 hov, l1]
    refine cond_merge (fun f ga ms => ga = g ∧ ms = [] ∧ f 3 = .pointer (some ⟨h.next, 0, none⟩) ∧ f 7 = .int .i64 (one : Int) ∧ f 8 = .int .i64 (fld : Int) ∧ f 9 = bl ∧ f 11 = fl ∧ f 13 = l ∧ f 15 = .int .i64 (k : Int) ∧ f 14 = .int .i64 ((bitsE (decide (Seen (refTruths Y) P1 (k + 1))) (decide (Seen (refTruths Y) P2 k)) (decide (Seen (refTruths Y) P3 k)) (decide (Seen (refTruths Y) P4 k)) : Nat) : Int) ∧ f 16 = .int .i64 (blueN ((refTruths Y).getD k fun _ => 0) (Y.q one) Y.nf) ∧ f 17 = .int .i64 ((refTruths Y).getD k (fun _ => 0) fld)) (fun hp => ?_) (fun hp => ?_) ?_
    · have hp' : P1 ((refTruths Y).getD k fun _ => 0) := by rw [hP1]; exact of_decide_eq_true hp
      simp only [rn0, rn1, rn2, rn3, rn4, rn5, rn6, rn7, rn8, if_true, if_false, Nat.le_refl, true_and, and_true, decide_true, decide_false, Bool.not_true, Bool.not_false, reduceIte, Nat.reduceEqDiff, Nat.reduceAdd, Nat.reduceMul, Nat.reduceSub, Nat.reduceLeDiff, Nat.reduceLT, p3, p7, p8, p9, p11, p13, p14, p15, valN_tmp, valN_const, Nat.reduceLT, p_or, or_1, seen_yes hp']
    · have hp' : ¬ P1 ((refTruths Y).getD k fun _ => 0) := by rw [hP1]; exact of_decide_eq_false hp
      simp only [rn0, rn1, rn2, rn3, rn4, rn5, rn6, rn7, rn8, if_true, if_false, Nat.le_refl, true_and, and_true, decide_true, decide_false, Bool.not_true, Bool.not_false, reduceIte, Nat.reduceEqDiff, Nat.reduceAdd, Nat.reduceMul, Nat.reduceSub, Nat.reduceLeDiff, Nat.reduceLT, p3, p7, p8, p9, p11, p13, p14, p15, seen_no hp']
    clear p3 p7 p8 p9 p11 p13 p14 p15
    rintro f ga ms ⟨rfl, rfl, p3, p7, p8, p9, p11, p13, p15, p14, p16, p17⟩
    simp only [rn0, rn1, rn2, rn3, rn4, rn5, rn6, rn7, rn8, if_true, if_false, Nat.le_refl, true_and, and_true, decide_true, decide_false, Bool.not_true, Bool.not_false, reduceIte, Nat.reduceEqDiff, Nat.reduceAdd, Nat.reduceMul, Nat.reduceSub, Nat.reduceLeDiff, Nat.reduceLT, p3, p7, p8, p9, p11, p13, p14, p15, p16, p17, Cells.idx hbl6 hov, Cells.fld hbl6 hov, l2]
    refine cond_merge (fun f gb ms => gb = ga ∧ ms = [] ∧ f 3 = .pointer (some ⟨h.next, 0, none⟩) ∧ f 7 = .int .i64 (one : Int) ∧ f 8 = .int .i64 (fld : Int) ∧ f 9 = bl ∧ f 11 = fl ∧ f 13 = l ∧ f 15 = .int .i64 (k : Int) ∧ f 14 = .int .i64 ((bitsE (decide (Seen (refTruths Y) P1 (k + 1))) (decide (Seen (refTruths Y) P2 (k + 1))) (decide (Seen (refTruths Y) P3 k)) (decide (Seen (refTruths Y) P4 k)) : Nat) : Int) ∧ f 16 = .int .i64 (blueN ((refTruths Y).getD k fun _ => 0) (Y.q one) Y.nf) ∧ f 17 = .int .i64 ((refTruths Y).getD k (fun _ => 0) fld)) (fun hp => ?_) (fun hp => ?_) ?_
    · have hp' : P2 ((refTruths Y).getD k fun _ => 0) := by rw [hP2]; exact of_decide_eq_true hp
      simp only [rn0, rn1, rn2, rn3, rn4, rn5, rn6, rn7, rn8, if_true, if_false, Nat.le_refl, true_and, and_true, decide_true, decide_false, Bool.not_true, Bool.not_false, reduceIte, Nat.reduceEqDiff, Nat.reduceAdd, Nat.reduceMul, Nat.reduceSub, Nat.reduceLeDiff, Nat.reduceLT, p3, p7, p8, p9, p11, p13, p14, p15, p16, p17, valN_tmp, valN_const, Nat.reduceLT, p_or, or_2, seen_yes hp']
    · have hp' : ¬ P2 ((refTruths Y).getD k fun _ => 0) := by rw [hP2]; exact of_decide_eq_false hp
      simp only [rn0, rn1, rn2, rn3, rn4, rn5, rn6, rn7, rn8, if_true, if_false, Nat.le_refl, true_and, and_true, decide_true, decide_false, Bool.not_true, Bool.not_false, reduceIte, Nat.reduceEqDiff, Nat.reduceAdd, Nat.reduceMul, Nat.reduceSub, Nat.reduceLeDiff, Nat.reduceLT, p3, p7, p8, p9, p11, p13, p14, p15, p16, p17, seen_no hp']
    clear p3 p7 p8 p9 p11 p13 p14 p15 p16 p17
    rintro f gb ms ⟨rfl, rfl, p3, p7, p8, p9, p11, p13, p15, p14, p16, p17⟩
    simp only [rn0, rn1, rn2, rn3, rn4, rn5, rn6, rn7, rn8, if_true, if_false, Nat.le_refl, true_and, and_true, decide_true, decide_false, Bool.not_true, Bool.not_false, reduceIte, Nat.reduceEqDiff, Nat.reduceAdd, Nat.reduceMul, Nat.reduceSub, Nat.reduceLeDiff, Nat.reduceLT, p3, p7, p8, p9, p11, p13, p14, p15, p16, p17, Cells.idx hfl6 hof, Cells.fld hfl6 hof, l3]
    refine cond_merge (fun f gc ms => gc = gb ∧ ms = [] ∧ f 3 = .pointer (some ⟨h.next, 0, none⟩) ∧ f 7 = .int .i64 (one : Int) ∧ f 8 = .int .i64 (fld : Int) ∧ f 9 = bl ∧ f 11 = fl ∧ f 13 = l ∧ f 15 = .int .i64 (k : Int) ∧ f 14 = .int .i64 ((bitsE (decide (Seen (refTruths Y) P1 (k + 1))) (decide (Seen (refTruths Y) P2 (k + 1))) (decide (Seen (refTruths Y) P3 (k + 1))) (decide (Seen (refTruths Y) P4 k)) : Nat) : Int) ∧ f 16 = .int .i64 (blueN ((refTruths Y).getD k fun _ => 0) (Y.q one) Y.nf) ∧ f 17 = .int .i64 ((refTruths Y).getD k (fun _ => 0) fld)) (fun hp => ?_) (fun hp => ?_) ?_
    · have hp' : P3 ((refTruths Y).getD k fun _ => 0) := by rw [hP3]; exact of_decide_eq_true hp
      simp only [rn0, rn1, rn2, rn3, rn4, rn5, rn6, rn7, rn8, if_true, if_false, Nat.le_refl, true_and, and_true, decide_true, decide_false, Bool.not_true, Bool.not_false, reduceIte, Nat.reduceEqDiff, Nat.reduceAdd, Nat.reduceMul, Nat.reduceSub, Nat.reduceLeDiff, Nat.reduceLT, p3, p7, p8, p9, p11, p13, p14, p15, p16, p17, valN_tmp, valN_const, Nat.reduceLT, p_or, or_4, seen_yes hp']
    · have hp' : ¬ P3 ((refTruths Y).getD k fun _ => 0) := by rw [hP3]; exact of_decide_eq_false hp
      simp only [rn0, rn1, rn2, rn3, rn4, rn5, rn6, rn7, rn8, if_true, if_false, Nat.le_refl, true_and, and_true, decide_true, decide_false, Bool.not_true, Bool.not_false, reduceIte, Nat.reduceEqDiff, Nat.reduceAdd, Nat.reduceMul, Nat.reduceSub, Nat.reduceLeDiff, Nat.reduceLT, p3, p7, p8, p9, p11, p13, p14, p15, p16, p17, seen_no hp']
    clear p3 p7 p8 p9 p11 p13 p14 p15 p16 p17
    rintro f gc ms ⟨rfl, rfl, p3, p7, p8, p9, p11, p13, p15, p14, p16, p17⟩
    simp only [rn0, rn1, rn2, rn3, rn4, rn5, rn6, rn7, rn8, if_true, if_false, Nat.le_refl, true_and, and_true, decide_true, decide_false, Bool.not_true, Bool.not_false, reduceIte, Nat.reduceEqDiff, Nat.reduceAdd, Nat.reduceMul, Nat.reduceSub, Nat.reduceLeDiff, Nat.reduceLT, p3, p7, p8, p9, p11, p13, p14, p15, p16, p17, Cells.idx hfl6 hof, Cells.fld hfl6 hof, l4]
    refine cond_merge' (fun f gd ms => gd = gc ∧ ms = [] ∧ f 3 = .pointer (some ⟨h.next, 0, none⟩) ∧ f 7 = .int .i64 (one : Int) ∧ f 8 = .int .i64 (fld : Int) ∧ f 9 = bl ∧ f 11 = fl ∧ f 13 = l ∧ f 15 = .int .i64 (k : Int) ∧ f 14 = .int .i64 ((bitsE (decide (Seen (refTruths Y) P1 (k + 1))) (decide (Seen (refTruths Y) P2 (k + 1))) (decide (Seen (refTruths Y) P3 (k + 1))) (decide (Seen (refTruths Y) P4 (k + 1))) : Nat) : Int) ∧ f 16 = .int .i64 (blueN ((refTruths Y).getD k fun _ => 0) (Y.q one) Y.nf) ∧ f 17 = .int .i64 ((refTruths Y).getD k (fun _ => 0) fld)) (fun hp => ?_) (fun hp => ?_) ?_
    · have hp' : P4 ((refTruths Y).getD k fun _ => 0) := by rw [hP4]; exact of_decide_eq_true hp
      simp only [rn0, rn1, rn2, rn3, rn4, rn5, rn6, rn7, rn8, if_true, if_false, Nat.le_refl, true_and, and_true, decide_true, decide_false, Bool.not_true, Bool.not_false, reduceIte, Nat.reduceEqDiff, Nat.reduceAdd, Nat.reduceMul, Nat.reduceSub, Nat.reduceLeDiff, Nat.reduceLT, p3, p7, p8, p9, p11, p13, p14, p15, p16, p17, valN_tmp, valN_const, Nat.reduceLT, p_or, or_8, seen_yes hp']
    · have hp' : ¬ P4 ((refTruths Y).getD k fun _ => 0) := by rw [hP4]; exact of_decide_eq_false hp
      simp only [rn0, rn1, rn2, rn3, rn4, rn5, rn6, rn7, rn8, if_true, if_false, Nat.le_refl, true_and, and_true, decide_true, decide_false, Bool.not_true, Bool.not_false, reduceIte, Nat.reduceEqDiff, Nat.reduceAdd, Nat.reduceMul, Nat.reduceSub, Nat.reduceLeDiff, Nat.reduceLT, p3, p7, p8, p9, p11, p13, p14, p15, p16, p17, seen_no hp']
    clear p3 p7 p8 p9 p11 p13 p14 p15 p16 p17
    rintro f gd ms ⟨rfl, rfl, p3, p7, p8, p9, p11, p13, p15, p14, p16, p17⟩
    simp only [rn0, rn1, rn2, rn3, rn4, rn5, rn6, rn7, rn8, if_true, if_false, Nat.le_refl, true_and, and_true, decide_true, decide_false, Bool.not_true, Bool.not_false, reduceIte, Nat.reduceEqDiff, Nat.reduceAdd, Nat.reduceMul, Nat.reduceSub, Nat.reduceLeDiff, Nat.reduceLT, p3, p7, p8, p9, p11, p13, p14, p15, p16, p17, hw]
  · rintro f g ms ⟨rfl, rfl, p3, p7, p8, p9, p11, p13, p15, p14⟩
    have e1 : decide (Seen (refTruths Y) P1 (refTruths Y).length) = true := seen_all hf (by rw [hP1]; exact lo_mem (val := fun t => blueN t (Y.q one) Y.nf) hne)
    have e2 : decide (Seen (refTruths Y) P2 (refTruths Y).length) = true := seen_all hf (by rw [hP2]; exact hi_mem (val := fun t => blueN t (Y.q one) Y.nf) hne)
    have e3 : decide (Seen (refTruths Y) P3 (refTruths Y).length) = true := seen_all hf (by rw [hP3]; exact lo_mem (val := fun t => t fld) hne)
    have e4 : decide (Seen (refTruths Y) P4 (refTruths Y).length) = true := seen_all hf (by rw [hP4]; exact hi_mem (val := fun t => t fld) hne)
    rw [e1, e2, e3, e4] at p14
    have e15 : ((bitsE true true true true : Nat) : Int) = 15 := rfl
    rw [e15] at p14
    simp only [rn0, rn1, rn2, rn3, rn4, rn5, rn6, rn7, rn8, if_true, if_false, Nat.le_refl, true_and, and_true, decide_true, decide_false, Bool.not_true, Bool.not_false, reduceIte, Nat.reduceEqDiff, Nat.reduceAdd, Nat.reduceMul, Nat.reduceSub, Nat.reduceLeDiff, Nat.reduceLT, p3, p7, p8, p9, p11, p13, p14, p15, Cells.len q1, Int.lt_irrefl, haw]
end Go.Vm.Vat

namespace Go.Vm.Vat
open Go.Proofs
set_option linter.unusedSimpArgs false
set_option linter.unusedVariables false
set_option maxRecDepth 10000
variable {n : Nat} {h : AHeap}

theorem ready_big (hn : 3 ≤ n) (hr : h.next + 5 < far) {u0 u1 u2 : Value} (hb : Big u0 u1 u2) : call n (.func (.func 62) #[] #[]) [.agg ⟨[u0, u1, u2]⟩] h = some (.bool false, h) := by
  obtain ⟨n, rfl⟩ : ∃ p, n = p + 1 := ⟨n - 1, by omega⟩
  refine call_plain0 fok62 rfl rfl (by simp) rfl ?_
  have hr : h.shutAll.next + 5 < far := hr
  generalize h.shutAll = h at hr
  simp only [s62, W_seq, W_ops]
  refine ops_box (cs := [u0, u1, u2]) (by omega) rfl hb.one fun g1 hx1 => ?_
  have n1 := hx1.next
  have w1 := hx1.row.whole (n := 3) rfl
  have ht := thin_big (n := n) (h := g1) (by omega) (by omega) hb
  simp only [rn0, rn1, rn2, rn3, rn4, rn5, rn6, rn7, rn8, if_true, if_false, Nat.le_refl, true_and, and_true, decide_true, decide_false, Bool.not_true, Bool.not_false, reduceIte, Nat.reduceEqDiff, Nat.reduceAdd, Nat.reduceMul, Nat.reduceSub, Nat.reduceLeDiff, Nat.reduceLT, w1, ht]
theorem ends_c (hn : 10100 ≤ n) (hr : h.next + 3000000 < far) (hfl : h.floor ≤ h.next) {fv vv sv : Value} {Y : MY} (hy : YardR h fv vv sv Y) (a1 : Int) (wf1 : (Lit.int .u8 a1).wf = true) (a2 : Int) (wf2 : (Lit.int .u8 a2).wf = true) :
    ∃ v h', call n (.func (.func 11) #[] #[]) [.agg ⟨[fv, vv, sv]⟩, .int .u8 a1, .int .u8 a2] h = some (v, h') ∧ v = .bool true := by
  obtain ⟨k1, rfl, h1⟩ := wf8 wf1
  obtain ⟨k2, rfl, h2⟩ := wf8 wf2
  by_cases hg : (Thin Y ∧ faultN Y = 0) ∧ 0 < Y.nf ∧ 0 < Y.nv
  · exact ends_1 (by omega) hr hfl hy hg.1.1 hg.1.2 hg.2.1 hg.2.2 h1 h2
  obtain ⟨n, rfl⟩ : ∃ p, n = p + 1 := ⟨n - 1, by omega⟩
  refine call_any0 fok11 rfl rfl (by simp) ?_
  simp only [s11, W_seq, W_ops]
  refine ops_box (cs := [fv, vv, sv]) (by omega) rfl hy.one fun g1 hx1 => ?_
  have n1 := hx1.next
  have hy1 := hy.mono hx1.sub
  have x1 := hx1.row.whole (n := 3) rfl
  have r1 := hx1.row
  have hrd := ready_c (n := n) (h := g1) (by omega) (by omega) hy1
  have haw := awake_c (n := n) (h := g1) (by omega)
  by_cases c1 : Thin Y ∧ faultN Y = 0
  case neg =>
    rw [decide_eq_false c1] at hrd
    simp only [rn0, rn1, rn2, rn3, rn4, rn5, rn6, rn7, rn8, if_true, if_false, Nat.le_refl, true_and, and_true, decide_true, decide_false, Bool.not_true, Bool.not_false, reduceIte, Nat.reduceEqDiff, Nat.reduceAdd, Nat.reduceMul, Nat.reduceSub, Nat.reduceLeDiff, Nat.reduceLT, x1, hrd, haw]
  rw [decide_eq_true c1] at hrd
  obtain ⟨rr, hrw, hq⟩ := hy1.v
  by_cases c2 : (Y.nf : Int) = 0
  · simp only [rn0, rn1, rn2, rn3, rn4, rn5, rn6, rn7, rn8, if_true, if_false, Nat.le_refl, true_and, and_true, decide_true, decide_false, Bool.not_true, Bool.not_false, reduceIte, Nat.reduceEqDiff, Nat.reduceAdd, Nat.reduceMul, Nat.reduceSub, Nat.reduceLeDiff, Nat.reduceLT, x1, hrd, r1.ld, Nat.zero_add, List.getElem?_cons_zero, List.getElem?_cons_succ, Cells.len hy1.f, Cells.len hrw, c2, haw]
  have c3 : (Y.nv : Int) = 0 := by
    apply Classical.byContradiction
    intro hn
    exact hg ⟨c1, by omega, by omega⟩
  simp only [rn0, rn1, rn2, rn3, rn4, rn5, rn6, rn7, rn8, if_true, if_false, Nat.le_refl, true_and, and_true, decide_true, decide_false, Bool.not_true, Bool.not_false, reduceIte, Nat.reduceEqDiff, Nat.reduceAdd, Nat.reduceMul, Nat.reduceSub, Nat.reduceLeDiff, Nat.reduceLT, x1, hrd, r1.ld, Nat.zero_add, List.getElem?_cons_zero, List.getElem?_cons_succ, Cells.len hy1.f, Cells.len hrw, c2, c3, haw]
end Go.Vm.Vat

namespace Go.Vm.Vat
open Go.Proofs
set_option linter.unusedSimpArgs false
set_option linter.unusedVariables false
set_option maxRecDepth 10000
variable {n : Nat} {h : AHeap}

/-- with so many further bundles the vat surely has the blue -/
def Enough (Y : MY) (v f : Nat) (blue : Int) (L : List (Nat → Int)) (k : Nat) : Prop := ∀ t, t ∈ L → blue ≤ blueWith Y v f k t
theorem enough_ref {Y : MY} (hf : faultN Y = 0) {v f : Nat} {blue : Int} : Enough Y v f blue (refTruths Y) = Enough Y v f blue (truths Y) := by
  funext k
  exact propext ⟨fun h t ht => h t ((refTruths_mem hf).2 ht), fun h t ht => h t ((refTruths_mem hf).1 ht)⟩
/-- the arguments are right -/
def NeedsArgs (Y : MY) (one field blue : Int) : Prop := (0 ≤ one ∧ one ≤ (Y.nv : Int) - 1) ∧ (0 ≤ field ∧ field ≤ (Y.nf : Int) - 1) ∧ 0 ≤ blue ∧ blue ≤ 999
open Classical in
/-- what Needs answers -/
noncomputable def needsV (Y : MY) (one field blue : Int) : Int × Int :=
  if faultN Y ≠ 0 then (0, faultN Y) else if ¬ NeedsArgs Y one field blue then (0, 2) else if truths Y = [] then (0, 11)
  else if 0 ≤ findFrom (Enough Y one.toNat field.toNat blue (truths Y)) 10 0 then (findFrom (Enough Y one.toNat field.toNat blue (truths Y)) 10 0, 0) else (0, 10)
def s46 : SCode := (.seq (.ops [⟨(some 4), none, .box (T 0)⟩, ⟨(some 8), none, .mov (.const (.int .i64 (0)))⟩, ⟨(some 9), none, .mov (.const (.int .i64 (0)))⟩]) (.seq (.ops [⟨(some 14), none, .loadN 3 (T 4)⟩, ⟨(some 15), none, .call (.func 78) [(T 14)]⟩, ⟨(some 13), none, .mov (T 15)⟩, ⟨(some 16), none, .extract 0 (T 13)⟩, ⟨(some 17), none, .extract 1 (T 13)⟩, ⟨(some 10), none, .alloc [(.slice none 0 0), (.slice none 0 0), (.slice none 0 0), (.slice none 0 0)]⟩, ⟨none, none, .store 4 (T 10) (T 16)⟩, ⟨(some 11), none, .mov (T 17)⟩]) (.seq (.block 0 (.seq (.ops [⟨(some 19), none, .mov (T 11)⟩, ⟨(some 20), none, .int2 .neq (T 19) (.const (.int .i64 (0)))⟩, ⟨(some 18), none, .mov (T 20)⟩]) (.cond (T 18) (.seq (.ops [⟨(some 21), none, .mov (T 11)⟩, ⟨(some 8), none, .mov (.const (.int .i64 (0)))⟩, ⟨(some 9), none, .mov (T 21)⟩]) .ret) (.seq (.ops [⟨(some 23), none, .loadN 4 (T 10)⟩, ⟨(some 24), none, .mov (T 1)⟩, ⟨(some 25), none, .call (.func 92) [(T 23), (T 24)]⟩, ⟨(some 26), none, .not (T 25)⟩, ⟨(some 27), none, .mov (T 26)⟩, ⟨(some 28), (some (27, false)), .loadN 4 (T 10)⟩, ⟨(some 29), (some (27, false)), .mov (T 2)⟩, ⟨(some 30), (some (27, false)), .call (.func 98) [(T 28), (T 29)]⟩, ⟨(some 31), (some (27, false)), .not (T 30)⟩, ⟨(some 32), none, .pick (T 27) (.const (.bool true)) (T 31)⟩, ⟨(some 33), none, .mov (T 32)⟩, ⟨(some 34), (some (33, false)), .mov (T 3)⟩, ⟨(some 35), (some (33, false)), .int2 .lss (T 34) (.const (.int .i64 (0)))⟩, ⟨(some 36), none, .pick (T 33) (.const (.bool true)) (T 35)⟩, ⟨(some 37), none, .mov (T 36)⟩, ⟨(some 38), (some (37, false)), .mov (T 3)⟩, ⟨(some 39), (some (37, false)), .int2 .gtr (T 38) (.const (.int .i64 (999)))⟩, ⟨(some 40), none, .pick (T 37) (.const (.bool true)) (T 39)⟩, ⟨(some 22), none, .mov (T 40)⟩]) (.cond (T 22) (.seq (.ops [⟨(some 8), none, .mov (.const (.int .i64 (0)))⟩, ⟨(some 9), none, .mov (.const (.int .i64 (2)))⟩]) .ret) (.seq (.ops [⟨(some 42), none, .fieldAddr 3 (T 10)⟩, ⟨(some 43), none, .load1 (T 42)⟩, ⟨(some 44), none, .len (T 43)⟩, ⟨(some 45), none, .int2 .eql (T 44) (.const (.int .i64 (0)))⟩, ⟨(some 41), none, .mov (T 45)⟩]) (.cond (T 41) (.seq (.ops [⟨(some 8), none, .mov (.const (.int .i64 (0)))⟩, ⟨(some 9), none, .mov (.const (.int .i64 (11)))⟩]) .ret) .skip))))))) (.seq (.ops [⟨(some 12), none, .mov (.const (.int .i64 (0)))⟩]) (.seq .skip (.seq (.block 1 (.loop (.block 2 (.seq (.block 3 (.seq (.ops [⟨(some 47), none, .loadN 4 (T 10)⟩, ⟨(some 48), none, .mov (T 1)⟩, ⟨(some 49), none, .mov (T 2)⟩, ⟨(some 50), none, .mov (T 12)⟩, ⟨(some 51), none, .call (.func 99) [(T 47), (T 48), (T 49), (T 50)]⟩, ⟨(some 52), none, .mov (T 3)⟩, ⟨(some 53), none, .int2 .geq (T 51) (T 52)⟩, ⟨(some 46), none, .mov (T 53)⟩]) (.cond (T 46) (.exit 1) (.seq (.ops [⟨(some 55), none, .mov (T 12)⟩, ⟨(some 56), none, .int2 .eql (T 55) (.const (.int .i64 (9)))⟩, ⟨(some 54), none, .mov (T 56)⟩]) (.cond (T 54) (.seq (.ops [⟨(some 8), none, .mov (.const (.int .i64 (0)))⟩, ⟨(some 9), none, .mov (.const (.int .i64 (10)))⟩]) .ret) .skip))))) (.ops [⟨(some 57), none, .mov (T 12)⟩, ⟨(some 58), none, .int2 .add (T 57) (.const (.int .i64 (1)))⟩, ⟨(some 12), none, .mov (T 58)⟩]))))) (.seq (.ops [⟨(some 59), none, .mov (T 12)⟩, ⟨(some 8), none, .mov (T 59)⟩, ⟨(some 9), none, .mov (.const (.int .i64 (0)))⟩]) .ret)))))))
theorem fok46 : FnOk Try.prog 46 60 s46 [.tmp 8, .tmp 9] := ⟨Try.f46, _, Try.func46, rfl, Try.ntmps46, by kernel_rfl, by kernel_rfl⟩
open Classical in
theorem needs_c (hn : 10060 ≤ n) (hr : h.next + 500000 < far) {F V S : Value} {Y : MY} (hy : YardR h F V S Y) (hY : Thin Y) (one field blue : Int) :
    call n (.func (.func 46) #[] #[]) [.agg ⟨[F, V, S]⟩, .int .i64 one, .int .i64 field, .int .i64 blue] h = some (.tuple ⟨[.int .i64 (needsV Y one field blue).1, .int .i64 (needsV Y one field blue).2]⟩, h) := by
  obtain ⟨n, rfl⟩ : ∃ p, n = p + 1 := ⟨n - 1, by omega⟩
  refine call_plain0 fok46 rfl rfl (by simp) rfl ?_
  have hy := hy.shut
  have hr : h.shutAll.next + 500000 < far := hr
  have hfl : h.shutAll.floor ≤ h.shutAll.next := Nat.le_refl _
  generalize h.shutAll = h at hy hr hfl
  generalize hres : needsV Y one field blue = res
  simp only [s46, W_seq, W_ops]
  refine ops_box (cs := [F, V, S]) (by omega) rfl hy.one fun g1 hx1 => ?_
  have n1 := hx1.next
  have f1 := hx1.floor
  have w1 := hx1.row.whole (n := 3) rfl
  obtain ⟨v, g2, eo, hm, ho⟩ := open_c (n := n) (h := g1) (by omega) (by omega) (by omega) (hy.mono hx1.sub) hY
  have n2 := hm.next
  have u2 := hm.up
  have f2 := hm.floor
  rcases ho with ⟨hf, rfl⟩ | ⟨hf, tv, rfl, htr, hlong⟩
  · have hrr : res = (0, faultN Y) := by rw [← hres]; unfold needsV; rw [if_pos hf]
    rw [hrr]
    simp only [rn0, rn1, rn2, rn3, rn4, rn5, rn6, rn7, rn8, if_true, if_false, Nat.le_refl, true_and, and_true, decide_true, decide_false, Bool.not_true, Bool.not_false, reduceIte, Nat.reduceEqDiff, Nat.reduceAdd, Nat.reduceMul, Nat.reduceSub, Nat.reduceLeDiff, Nat.reduceLT, w1, eo, ex0, ex1]
    refine step_new (vs := [nilS, nilS, nilS, nilS]) (by omega) (by omega) rfl (by simp only [rn0, rn1, rn2, rn3, rn4, rn5, rn6, rn7, rn8, if_true, if_false, Nat.le_refl, true_and, and_true, decide_true, decide_false, Bool.not_true, Bool.not_false, reduceIte, Nat.reduceEqDiff, Nat.reduceAdd, Nat.reduceMul, Nat.reduceSub, Nat.reduceLeDiff, Nat.reduceLT]; rfl) rfl rfl rfl fun g3 hx3 => ?_
    simp only [rn0, rn1, rn2, rn3, rn4, rn5, rn6, rn7, rn8, if_true, if_false, Nat.le_refl, true_and, and_true, decide_true, decide_false, Bool.not_true, Bool.not_false, reduceIte, Nat.reduceEqDiff, Nat.reduceAdd, Nat.reduceMul, Nat.reduceSub, Nat.reduceLeDiff, Nat.reduceLT, hf, ret_tt]
  have hG := good_of hf
  have ho4 : allB oneCell [F, V, S, tv] = true := by have h1 := hy.one; have h2 := Cells.one htr; simp [allB] at h1 ⊢; simp [h1, h2]
  have hrr : res = if ¬ NeedsArgs Y one field blue then (0, 2) else if truths Y = [] then (0, 11)
      else (if 0 ≤ findFrom (Enough Y one.toNat field.toNat blue (truths Y)) 10 0 then (findFrom (Enough Y one.toNat field.toNat blue (truths Y)) 10 0, 0) else (0, 10)) := by rw [← hres]; unfold needsV; rw [if_neg (by simpa using hf)]
  clear hres
  simp only [rn0, rn1, rn2, rn3, rn4, rn5, rn6, rn7, rn8, if_true, if_false, Nat.le_refl, true_and, and_true, decide_true, decide_false, Bool.not_true, Bool.not_false, reduceIte, Nat.reduceEqDiff, Nat.reduceAdd, Nat.reduceMul, Nat.reduceSub, Nat.reduceLeDiff, Nat.reduceLT, w1, eo, ex0, ex1, hf]
  refine step_new (vs := [F, V, S, tv]) (by omega) (by omega) rfl (by simp only [rn0, rn1, rn2, rn3, rn4, rn5, rn6, rn7, rn8, if_true, if_false, Nat.le_refl, true_and, and_true, decide_true, decide_false, Bool.not_true, Bool.not_false, reduceIte, Nat.reduceEqDiff, Nat.reduceAdd, Nat.reduceMul, Nat.reduceSub, Nat.reduceLeDiff, Nat.reduceLT]; rfl) ho4 rfl rfl fun g3 hx3 => ?_
  have n3 := hx3.next
  have f3 := hx3.floor
  have hs3 : Sub All h g3 := hx1.sub.trans (hm.sub.trans hx3.sub)
  have hy3 := hy.mono hs3
  have w3 := hx3.row.whole (n := 4) rfl
  have htr3 : TruthsR g3 tv (truths Y) := Cells.mono htr hx3.sub
  obtain ⟨rr, hrw, hq⟩ := hy3.v
  have ev := hasVat_c (n := n) (h := g3) (by omega) (by omega) hrw ho4 one
  have eg := hasField_c (n := n) (h := g3) (by omega) (by omega) hy3.f ho4 field
  have bad : ∀ P : Prop, ¬ NeedsArgs Y one field blue → res = (0, 2) := fun _ h => by rw [hrr, if_pos h]
  by_cases a1 : 0 ≤ one ∧ one ≤ (Y.nv : Int) - 1
  case neg =>
    rw [bad True fun h => a1 h.1]
    simp only [rn0, rn1, rn2, rn3, rn4, rn5, rn6, rn7, rn8, if_true, if_false, Nat.le_refl, true_and, and_true, decide_true, decide_false, Bool.not_true, Bool.not_false, reduceIte, Nat.reduceEqDiff, Nat.reduceAdd, Nat.reduceMul, Nat.reduceSub, Nat.reduceLeDiff, Nat.reduceLT, w3, ev, a1, ret_tt]
  by_cases a2 : 0 ≤ field ∧ field ≤ (Y.nf : Int) - 1
  case neg =>
    rw [bad True fun h => a2 h.2.1]
    simp only [rn0, rn1, rn2, rn3, rn4, rn5, rn6, rn7, rn8, if_true, if_false, Nat.le_refl, true_and, and_true, decide_true, decide_false, Bool.not_true, Bool.not_false, reduceIte, Nat.reduceEqDiff, Nat.reduceAdd, Nat.reduceMul, Nat.reduceSub, Nat.reduceLeDiff, Nat.reduceLT, w3, ev, a1, eg, a2, and_self, ret_tt]
  by_cases a3 : blue < 0
  · rw [bad True fun h => by have := h.2.2.1; omega]
    simp only [rn0, rn1, rn2, rn3, rn4, rn5, rn6, rn7, rn8, if_true, if_false, Nat.le_refl, true_and, and_true, decide_true, decide_false, Bool.not_true, Bool.not_false, reduceIte, Nat.reduceEqDiff, Nat.reduceAdd, Nat.reduceMul, Nat.reduceSub, Nat.reduceLeDiff, Nat.reduceLT, w3, ev, a1, eg, a2, and_self, a3, ret_tt]
  by_cases a4 : (999 : Int) < blue
  · rw [bad True fun h => by have := h.2.2.2; omega]
    simp only [rn0, rn1, rn2, rn3, rn4, rn5, rn6, rn7, rn8, if_true, if_false, Nat.le_refl, true_and, and_true, decide_true, decide_false, Bool.not_true, Bool.not_false, reduceIte, Nat.reduceEqDiff, Nat.reduceAdd, Nat.reduceMul, Nat.reduceSub, Nat.reduceLeDiff, Nat.reduceLT, w3, ev, a1, eg, a2, and_self, a3, a4, ret_tt]
  have hargs : NeedsArgs Y one field blue := ⟨a1, a2, by omega, by omega⟩
  rw [if_neg (by simpa using hargs)] at hrr
  by_cases he : truths Y = []
  · rw [if_pos he] at hrr
    rw [hrr]
    have hl : (truths Y).length = 0 := by rw [he]; rfl
    simp only [rn0, rn1, rn2, rn3, rn4, rn5, rn6, rn7, rn8, if_true, if_false, Nat.le_refl, true_and, and_true, decide_true, decide_false, Bool.not_true, Bool.not_false, reduceIte, Nat.reduceEqDiff, Nat.reduceAdd, Nat.reduceMul, Nat.reduceSub, Nat.reduceLeDiff, Nat.reduceLT, w3, ev, a1, eg, a2, and_self, a3, a4, hx3.row.ld, Nat.zero_add, List.getElem?_cons_zero, List.getElem?_cons_succ, Cells.len htr3, hl, Int.natCast_zero, ret_tt]
  rw [if_neg he] at hrr
  have hl : ¬ ((truths Y).length : Int) = 0 := fun e => he (List.eq_nil_of_length_eq_zero (by omega))
  obtain ⟨vN, rfl⟩ : ∃ k : Nat, one = k := ⟨one.toNat, by omega⟩
  obtain ⟨fN, rfl⟩ : ∃ k : Nat, field = k := ⟨field.toNat, by omega⟩
  simp only [Int.toNat_natCast] at hrr
  simp only [rn0, rn1, rn2, rn3, rn4, rn5, rn6, rn7, rn8, if_true, if_false, Nat.le_refl, true_and, and_true, decide_true, decide_false, Bool.not_true, Bool.not_false, reduceIte, Nat.reduceEqDiff, Nat.reduceAdd, Nat.reduceMul, Nat.reduceSub, Nat.reduceLeDiff, Nat.reduceLT, w3, ev, a1, eg, a2, and_self, a3, a4, hx3.row.ld, Nat.zero_add, List.getElem?_cons_zero, List.getElem?_cons_succ, Cells.len htr3, hl]
  have esure : ∀ k : Nat, k ≤ 9 → call n (.func (.func 99) #[] #[]) [.agg ⟨[F, V, S, tv]⟩, .int .i64 (vN : Int), .int .i64 (fN : Int), .int .i64 (k : Int)] g3 = some (.int .i64 (sureN Y vN fN k (truths Y)), g3) := fun k hk =>
    sureBlue_c (n := n) (h := g3) (by omega) (by omega) hy3 hf he htr3 hlong (by omega) (by omega) (by omega)
  have hiff : ∀ k : Nat, blue ≤ sureN Y vN fN k (truths Y) ↔ Enough Y vN fN blue (truths Y) k := fun k => le_sureN he
  refine W_loop 9 (fun k f g ms => g = g3 ∧ ms = [] ∧ f 1 = .int .i64 (vN : Int) ∧ f 2 = .int .i64 (fN : Int) ∧ f 3 = .int .i64 blue ∧ f 10 = .pointer (some ⟨g2.next, 0, none⟩) ∧ f 12 = .int .i64 (k : Int) ∧ ∀ j, j < k → ¬ Enough Y vN fN blue (truths Y) j) (by simp; omega) ?_ ?_ ?_
  · simp only [rn0, rn1, rn2, rn3, rn4, rn5, rn6, rn7, rn8, if_true, if_false, Nat.le_refl, true_and, and_true, decide_true, decide_false, Bool.not_true, Bool.not_false, reduceIte, Nat.reduceEqDiff, Nat.reduceAdd, Nat.reduceMul, Nat.reduceSub, Nat.reduceLeDiff, Nat.reduceLT, Nat.not_lt_zero, false_implies, implies_true]
    trivial
  · rintro k f g ms hk ⟨rfl, rfl, q1, q2, q3, q10, q12, hlt⟩
    have e9 : ¬ (k : Int) = 9 := by omega
    have hw : wrapF .i64 ((k : Int) + 1) = ((k + 1 : Nat) : Int) := by rw [wrap_in (by omega) (by omega)]; rfl
    by_cases hE : Enough Y vN fN blue (truths Y) k
    · have hle := (hiff k).2 hE
      have hff := findFrom_at (m := 10) (by omega) hlt hE
      have hres2 : res = ((k : Int), 0) := by rw [hrr, hff, if_pos (by omega)]
      rw [hres2]
      simp only [rn0, rn1, rn2, rn3, rn4, rn5, rn6, rn7, rn8, if_true, if_false, Nat.le_refl, true_and, and_true, decide_true, decide_false, Bool.not_true, Bool.not_false, reduceIte, Nat.reduceEqDiff, Nat.reduceAdd, Nat.reduceMul, Nat.reduceSub, Nat.reduceLeDiff, Nat.reduceLT, q1, q2, q3, q10, q12, w3, esure k (by omega), hle, ret_tt]
    · have hle : ¬ blue ≤ sureN Y vN fN k (truths Y) := fun h => hE ((hiff k).1 h)
      simp only [rn0, rn1, rn2, rn3, rn4, rn5, rn6, rn7, rn8, if_true, if_false, Nat.le_refl, true_and, and_true, decide_true, decide_false, Bool.not_true, Bool.not_false, reduceIte, Nat.reduceEqDiff, Nat.reduceAdd, Nat.reduceMul, Nat.reduceSub, Nat.reduceLeDiff, Nat.reduceLT, q1, q2, q3, q10, q12, w3, esure k (by omega), hle, e9, hw]
      intro j hj
      by_cases e : j = k
      · subst e; exact hE
      · exact hlt j (by omega)
  · rintro f g ms ⟨rfl, rfl, q1, q2, q3, q10, q12, hlt⟩
    by_cases hE : Enough Y vN fN blue (truths Y) 9
    · have hle := (hiff 9).2 hE
      have hff := findFrom_at (m := 10) (by omega) hlt hE
      have hres2 : res = (((9 : Nat) : Int), 0) := by rw [hrr, hff, if_pos (by omega)]
      rw [hres2]
      simp only [rn0, rn1, rn2, rn3, rn4, rn5, rn6, rn7, rn8, if_true, if_false, Nat.le_refl, true_and, and_true, decide_true, decide_false, Bool.not_true, Bool.not_false, reduceIte, Nat.reduceEqDiff, Nat.reduceAdd, Nat.reduceMul, Nat.reduceSub, Nat.reduceLeDiff, Nat.reduceLT, q1, q2, q3, q10, q12, w3, esure 9 (by omega), hle, ret_tt]
    · have hle : ¬ blue ≤ sureN Y vN fN 9 (truths Y) := fun h => hE ((hiff 9).1 h)
      have hff := findFrom_none (p := Enough Y vN fN blue (truths Y)) (m := 10) fun j hj => by
        by_cases e : j = 9
        · subst e; exact hE
        · exact hlt j (by omega)
      have hres2 : res = (0, 10) := by rw [hrr, hff, if_neg (by omega)]
      rw [hres2]
      have e9 : ((9 : Nat) : Int) = 9 := rfl
      have es : call n (.func (.func 99) #[] #[]) [.agg ⟨[F, V, S, tv]⟩, .int .i64 (vN : Int), .int .i64 (fN : Int), .int .i64 9] g = some (.int .i64 (sureN Y vN fN 9 (truths Y)), g) := esure 9 (by omega)
      simp only [rn0, rn1, rn2, rn3, rn4, rn5, rn6, rn7, rn8, if_true, if_false, Nat.le_refl, true_and, and_true, decide_true, decide_false, Bool.not_true, Bool.not_false, reduceIte, Nat.reduceEqDiff, Nat.reduceAdd, Nat.reduceMul, Nat.reduceSub, Nat.reduceLeDiff, Nat.reduceLT, q1, q2, q3, q10, q12, w3, es, hle, e9, ret_tt]

/-! ### The reference -/
def s47 : SCode := (.seq (.ops [⟨(some 5), none, .box (T 0)⟩, ⟨(some 10), none, .mov (.const (.int .i64 (0)))⟩]) (.seq (.seq (.ops [⟨(some 11), none, .mov (.const (.int .i64 (0)))⟩]) (.block 0 (.loop (.seq (.seq (.ops [⟨(some 14), none, .mov (T 11)⟩, ⟨(some 15), none, .int2 .leq (T 14) (.const (.int .i64 (9)))⟩]) (.cond (T 15) .skip (.exit 0))) (.seq (.block 1 (.seq (.ops [⟨(some 12), none, .mov (.const (.bool false))⟩]) (.seq (.seq (.ops [⟨(some 13), none, .mov (.const (.int .i64 (0)))⟩]) (.block 2 (.loop (.seq (.seq (.ops [⟨(some 18), none, .mov (T 13)⟩, ⟨(some 19), none, .mov (T 1)⟩, ⟨(some 20), none, .len (T 19)⟩, ⟨(some 21), none, .int2 .lss (T 18) (T 20)⟩]) (.cond (T 21) .skip (.exit 2))) (.seq (.block 3 (.draw [⟨.free, ⟨(some 24), none, .mov (T 12)⟩⟩, ⟨.free, ⟨(some 25), none, .mov (T 24)⟩⟩, ⟨.rd1, ⟨(some 26), (some (25, false)), .loadN 3 (T 5)⟩⟩, ⟨.free, ⟨(some 27), (some (25, false)), .mov (T 1)⟩⟩, ⟨.free, ⟨(some 28), (some (25, false)), .mov (T 13)⟩⟩, ⟨.free, ⟨(some 29), (some (25, false)), .idxSl 1 (T 27) (T 28)⟩⟩, ⟨.rd1, ⟨(some 30), (some (25, false)), .load1 (T 29)⟩⟩, ⟨.free, ⟨(some 31), (some (25, false)), .mov (T 2)⟩⟩, ⟨.up, ⟨(some 32), (some (25, false)), .call (.func 33) [(T 26), (T 30), (T 31)]⟩⟩, ⟨.free, ⟨(some 33), (some (25, false)), .mov (T 11)⟩⟩, ⟨.free, ⟨(some 34), (some (25, false)), .mov (T 1)⟩⟩, ⟨.free, ⟨(some 35), (some (25, false)), .mov (T 13)⟩⟩, ⟨.free, ⟨(some 36), (some (25, false)), .idxSl 1 (T 34) (T 35)⟩⟩, ⟨.rd, ⟨(some 37), (some (25, false)), .load1 (T 36)⟩⟩, ⟨.free, ⟨(some 38), (some (25, false)), .mov (T 3)⟩⟩, ⟨.free, ⟨(some 39), (some (25, false)), .idxSl 1 (T 37) (T 38)⟩⟩, ⟨.rd, ⟨(some 40), (some (25, false)), .load1 (T 39)⟩⟩, ⟨.free, ⟨(some 41), (some (25, false)), .int2 .mul (T 33) (T 40)⟩⟩, ⟨.free, ⟨(some 42), (some (25, false)), .int2 .add (T 32) (T 41)⟩⟩, ⟨.free, ⟨(some 43), (some (25, false)), .mov (T 4)⟩⟩, ⟨.free, ⟨(some 44), (some (25, false)), .int2 .lss (T 42) (T 43)⟩⟩, ⟨.free, ⟨(some 45), none, .pick (T 25) (.const (.bool true)) (T 44)⟩⟩, ⟨.free, ⟨(some 12), none, .mov (T 45)⟩⟩])) (.ops [⟨(some 22), none, .mov (T 13)⟩, ⟨(some 23), none, .int2 .add (T 22) (.const (.int .i64 (1)))⟩, ⟨(some 13), none, .mov (T 23)⟩])))))) (.seq (.ops [⟨(some 46), none, .mov (T 12)⟩, ⟨(some 47), none, .not (T 46)⟩]) (.cond (T 47) (.seq (.ops [⟨(some 48), none, .mov (T 11)⟩, ⟨(some 10), none, .mov (T 48)⟩]) .ret) .skip))))) (.ops [⟨(some 16), none, .mov (T 11)⟩, ⟨(some 17), none, .int2 .add (T 16) (.const (.int .i64 (1)))⟩, ⟨(some 11), none, .mov (T 17)⟩])))))) (.seq (.ops [⟨(some 10), none, .mov (.const (.int .i64 (-1)))⟩]) .ret)))
theorem fok47 : FnOk Try.prog 47 49 s47 [.tmp 10] := ⟨Try.f47, _, Try.func47, rfl, Try.ntmps47, by kernel_rfl, by kernel_rfl⟩
open Classical in
theorem needsRef_c (hn : 10010 ≤ n) (hr : h.next + 100 < far) {fv vv sv l : Value} {Y : MY} (hy : YardR h fv vv sv Y) (hf : faultN Y = 0) (hl : TruthsL h l Y.nf (refTruths Y)) {v f : Nat} (hv : v < Y.nv) (hfl : f < Y.nf) {blue : Int} (hb : 0 ≤ blue ∧ blue ≤ 999) :
    call n (.func (.func 47) #[] #[]) [.agg ⟨[fv, vv, sv]⟩, l, .int .i64 (v : Int), .int .i64 (f : Int), .int .i64 blue] h = some (.int .i64 (findFrom (Enough Y v f blue (refTruths Y)) 10 0), h) := by
  obtain ⟨n, rfl⟩ : ∃ p, n = p + 1 := ⟨n - 1, by omega⟩
  refine call_plain0 fok47 rfl rfl (by simp) rfl ?_
  have hy := hy.shut
  have hl := hl.mono (g := h.shutAll) fun _ _ _ _ _ h => h
  have hr : h.shutAll.next + 100 < far := hr
  generalize h.shutAll = h at hy hl hr
  have hG := good_of hf
  have hlen := refTruths_len hf
  obtain ⟨v1, v2⟩ := hG.v v hv
  have hsz := hG.sz.1
  simp only [s47, W_seq, W_ops]
  refine ops_box (cs := [fv, vv, sv]) (by omega) rfl hy.one fun g1 hx1 => ?_
  have n1 := hx1.next
  have hy1 := hy.mono hx1.sub
  have hl1 := hl.mono hx1.sub
  have w1 := hx1.row.whole (n := 3) rfl
  obtain ⟨r, q1, q2⟩ := hl1
  have hself : eqV (.agg ⟨[fv, vv, sv]⟩) (.agg ⟨[fv, vv, sv]⟩) = true := hy1.self
  have hblue : ∀ i, i < (refTruths Y).length → call n (.func (.func 33) #[] #[]) [.agg ⟨[fv, vv, sv]⟩, r i, .int .i64 (v : Int)] g1 = some (.int .i64 (blueN ((refTruths Y).getD i fun _ => 0) (Y.q v) Y.nf), g1) := fun i hi =>
    blue_c (n := n) (h := g1) (at_ := v) (by omega) (by omega) hy1 (q2 i hi) (by omega) hv (by omega) (refTruths_range hf (refTruths_at hi)) (fun k hk => v2 k (by omega))
  have hins : ∀ i, i < (refTruths Y).length → loadCell g1 (ptrO (r i) 1 f 0) = some (.int .i64 ((refTruths Y).getD i (fun _ => 0) f)) := fun i hi => Cells.ld (q2 i hi) hfl Nat.zero_lt_one
  have hidx : ∀ i, i < (refTruths Y).length → indexSl 1 (r i) (.int .i64 (f : Int)) = some (ptrO (r i) 1 f 0) := fun i hi => Cells.idx (q2 i hi) hfl
  have henough : ∀ k : Nat, Enough Y v f blue (refTruths Y) k ↔ ∀ i, i < (refTruths Y).length → ¬ blueWith Y v f k ((refTruths Y).getD i fun _ => 0) < blue := fun k => by
    constructor
    · intro h i hi; have := h _ (refTruths_at hi); omega
    · intro h t ht
      obtain ⟨i, hi, e⟩ := mem_getD ht
      have := h i hi
      rw [e] at this
      omega
  simp only [rn0, rn1, rn2, rn3, rn4, rn5, rn6, rn7, rn8, if_true, if_false, Nat.le_refl, true_and, and_true, decide_true, decide_false, Bool.not_true, Bool.not_false, reduceIte, Nat.reduceEqDiff, Nat.reduceAdd, Nat.reduceMul, Nat.reduceSub, Nat.reduceLeDiff, Nat.reduceLT]
  refine W_loop 10 (fun k f' g ms => g = g1 ∧ ms = [] ∧ f' 1 = l ∧ f' 2 = .int .i64 (v : Int) ∧ f' 3 = .int .i64 (f : Int) ∧ f' 4 = .int .i64 blue ∧ f' 5 = .pointer (some ⟨h.next, 0, none⟩) ∧ f' 11 = .int .i64 (k : Int) ∧ ∀ j, j < k → ¬ Enough Y v f blue (refTruths Y) j) (by simp; omega) ?_ ?_ ?_
  · simp only [rn0, rn1, rn2, rn3, rn4, rn5, rn6, rn7, rn8, if_true, if_false, Nat.le_refl, true_and, and_true, decide_true, decide_false, Bool.not_true, Bool.not_false, reduceIte, Nat.reduceEqDiff, Nat.reduceAdd, Nat.reduceMul, Nat.reduceSub, Nat.reduceLeDiff, Nat.reduceLT, Nat.not_lt_zero, false_implies, implies_true]
    trivial
  · rintro k f' g ms hk ⟨rfl, rfl, p1, p2, p3, p4, p5, p11, hlt⟩
    have hk9 : (k : Int) ≤ 9 := by omega
    have hw : wrapF .i64 ((k : Int) + 1) = ((k + 1 : Nat) : Int) := by rw [wrap_in (by omega) (by omega)]; rfl
    simp only [rn0, rn1, rn2, rn3, rn4, rn5, rn6, rn7, rn8, if_true, if_false, Nat.le_refl, true_and, and_true, decide_true, decide_false, Bool.not_true, Bool.not_false, reduceIte, Nat.reduceEqDiff, Nat.reduceAdd, Nat.reduceMul, Nat.reduceSub, Nat.reduceLeDiff, Nat.reduceLT, p1, p2, p3, p4, p5, p11, hk9]
    refine W_loop (refTruths Y).length (fun i f' g' ms => g' = g ∧ ms = [] ∧ f' 1 = l ∧ f' 2 = .int .i64 (v : Int) ∧ f' 3 = .int .i64 (f : Int) ∧ f' 4 = .int .i64 blue ∧ f' 5 = .pointer (some ⟨h.next, 0, none⟩) ∧ f' 11 = .int .i64 (k : Int) ∧
      f' 13 = .int .i64 (i : Int) ∧ f' 12 = .bool (decide (∃ j, j < i ∧ blueWith Y v f k ((refTruths Y).getD j fun _ => 0) < blue))) (by simp; omega) ?_ ?_ ?_
    · simp only [rn0, rn1, rn2, rn3, rn4, rn5, rn6, rn7, rn8, if_true, if_false, Nat.le_refl, true_and, and_true, decide_true, decide_false, Bool.not_true, Bool.not_false, reduceIte, Nat.reduceEqDiff, Nat.reduceAdd, Nat.reduceMul, Nat.reduceSub, Nat.reduceLeDiff, Nat.reduceLT, p1, p2, p3, p4, p5, p11, Nat.not_lt_zero, false_and, exists_false]
      rfl
    · rintro i f' g' ms hi ⟨rfl, rfl, p1, p2, p3, p4, p5, p11, p13, p12⟩
      have hi' : (i : Int) < ((refTruths Y).length : Int) := by omega
      have hwi : wrapF .i64 ((i : Int) + 1) = ((i + 1 : Nat) : Int) := by rw [wrap_in (by omega) (by omega)]; rfl
      have hrg := refTruths_range hf (refTruths_at hi)
      obtain ⟨b1, b2⟩ := blueN_bound (b := (refTruths Y).getD i fun _ => 0) (q := Y.q v) (n := Y.nf) (by omega) hrg (fun j hj => v2 j (by omega)) Y.nf (Nat.le_refl _)
      obtain ⟨t1, t2⟩ := hrg f hfl
      have m1 : (0 : Int) ≤ (k : Int) * (refTruths Y).getD i (fun _ => 0) f := Int.mul_nonneg (by omega) t1
      have m2 : (k : Int) * (refTruths Y).getD i (fun _ => 0) f ≤ 9 * 20 := Int.mul_le_mul (by omega) t2 t1 (by omega)
      have hw1 : wrapF .i64 ((k : Int) * (refTruths Y).getD i (fun _ => 0) f) = k * (refTruths Y).getD i (fun _ => 0) f := wrap_in (by omega) (by omega)
      have hw2 : wrapF .i64 (blueN ((refTruths Y).getD i fun _ => 0) (Y.q v) Y.nf + k * (refTruths Y).getD i (fun _ => 0) f) = blueWith Y v f k ((refTruths Y).getD i fun _ => 0) := by rw [wrap_in (by omega) (by omega)]; rfl
      have hsl := Cells.self (q2 i hi)
      by_cases hs : ∃ j, j < i ∧ blueWith Y v f k ((refTruths Y).getD j fun _ => 0) < blue
      · have hs' : ∃ j, j < i + 1 ∧ blueWith Y v f k ((refTruths Y).getD j fun _ => 0) < blue := by
          obtain ⟨j, h1, h2⟩ := hs
          exact ⟨j, by omega, h2⟩
        rw [decide_eq_true hs] at p12
        simp only [rn0, rn1, rn2, rn3, rn4, rn5, rn6, rn7, rn8, if_true, if_false, Nat.le_refl, true_and, and_true, decide_true, decide_false, Bool.not_true, Bool.not_false, reduceIte, Nat.reduceEqDiff, Nat.reduceAdd, Nat.reduceMul, Nat.reduceSub, Nat.reduceLeDiff, Nat.reduceLT, p1, p2, p3, p4, p5, p11, p12, p13, Cells.len q1, hi']
        refine W_draw All ?_
        simp only [rn0, rn1, rn2, rn3, rn4, rn5, rn6, rn7, rn8, if_true, if_false, Nat.le_refl, true_and, and_true, decide_true, decide_false, Bool.not_true, Bool.not_false, reduceIte, Nat.reduceEqDiff, Nat.reduceAdd, Nat.reduceMul, Nat.reduceSub, Nat.reduceLeDiff, Nat.reduceLT, p1, p2, p3, p4, p5, p11, p12, p13, d_guard, dg_tf, hwi, decide_eq_true hs']
      · rw [decide_eq_false hs] at p12
        simp only [rn0, rn1, rn2, rn3, rn4, rn5, rn6, rn7, rn8, if_true, if_false, Nat.le_refl, true_and, and_true, decide_true, decide_false, Bool.not_true, Bool.not_false, reduceIte, Nat.reduceEqDiff, Nat.reduceAdd, Nat.reduceMul, Nat.reduceSub, Nat.reduceLeDiff, Nat.reduceLT, p1, p2, p3, p4, p5, p11, p12, p13, Cells.len q1, hi']
        refine W_draw All ?_
        simp only [rn0, rn1, rn2, rn3, rn4, rn5, rn6, rn7, rn8, if_true, if_false, Nat.le_refl, true_and, and_true, decide_true, decide_false, Bool.not_true, Bool.not_false, reduceIte, Nat.reduceEqDiff, Nat.reduceAdd, Nat.reduceMul, Nat.reduceSub, Nat.reduceLeDiff, Nat.reduceLT, p1, p2, p3, p4, p5, p11, p12, p13, d_guard, dg_ff, w1, Cells.idx q1 hi, Cells.ld q1 hi Nat.zero_lt_one, hblue i hi, hsl, hidx i hi, hins i hi, hw1, hw2, hwi]
        congr 1
        refine decide_eq_decide.2 ⟨fun hb => ⟨i, by omega, hb⟩, fun ⟨j, h1, h2⟩ => ?_⟩
        by_cases e : j = i
        · subst e; exact h2
        · exact absurd ⟨j, by omega, h2⟩ hs
    · rintro f' g' ms ⟨rfl, rfl, p1, p2, p3, p4, p5, p11, p13, p12⟩
      by_cases hE : Enough Y v f blue (refTruths Y) k
      · have hs : ¬ ∃ j, j < (refTruths Y).length ∧ blueWith Y v f k ((refTruths Y).getD j fun _ => 0) < blue := fun ⟨j, h1, h2⟩ => (henough k).1 hE j h1 h2
        rw [decide_eq_false hs] at p12
        have hff := findFrom_at (m := 10) hk hlt hE
        rw [hff]
        simp only [rn0, rn1, rn2, rn3, rn4, rn5, rn6, rn7, rn8, if_true, if_false, Nat.le_refl, true_and, and_true, decide_true, decide_false, Bool.not_true, Bool.not_false, reduceIte, Nat.reduceEqDiff, Nat.reduceAdd, Nat.reduceMul, Nat.reduceSub, Nat.reduceLeDiff, Nat.reduceLT, p1, p2, p3, p4, p5, p11, p12, p13, Cells.len q1, Int.lt_irrefl]
      · have hs : ∃ j, j < (refTruths Y).length ∧ blueWith Y v f k ((refTruths Y).getD j fun _ => 0) < blue := by
          refine Classical.byContradiction fun hn => hE ((henough k).2 fun j hj hb => hn ⟨j, hj, hb⟩)
        rw [decide_eq_true hs] at p12
        simp only [rn0, rn1, rn2, rn3, rn4, rn5, rn6, rn7, rn8, if_true, if_false, Nat.le_refl, true_and, and_true, decide_true, decide_false, Bool.not_true, Bool.not_false, reduceIte, Nat.reduceEqDiff, Nat.reduceAdd, Nat.reduceMul, Nat.reduceSub, Nat.reduceLeDiff, Nat.reduceLT, p1, p2, p3, p4, p5, p11, p12, p13, Cells.len q1, Int.lt_irrefl, hw]
        intro j hj
        by_cases e : j = k
        · subst e; exact hE
        · exact hlt j (by omega)
  · rintro f' g ms ⟨rfl, rfl, p1, p2, p3, p4, p5, p11, hlt⟩
    have e10 : ¬ ((10 : Nat) : Int) ≤ 9 := by omega
    have hff := findFrom_none (p := Enough Y v f blue (refTruths Y)) (m := 10) hlt
    rw [hff]
    simp only [rn0, rn1, rn2, rn3, rn4, rn5, rn6, rn7, rn8, if_true, if_false, Nat.le_refl, true_and, and_true, decide_true, decide_false, Bool.not_true, Bool.not_false, reduceIte, Nat.reduceEqDiff, Nat.reduceAdd, Nat.reduceMul, Nat.reduceSub, Nat.reduceLeDiff, Nat.reduceLT, p1, p2, p3, p4, p5, p11, e10]
end Go.Vm.Vat

namespace Go.Vm.Vat
open Go.Proofs
set_option linter.unusedSimpArgs false
set_option linter.unusedVariables false
set_option maxRecDepth 10000
variable {n : Nat} {h : AHeap}

def s6 : SCode := (.seq (.ops [⟨(some 4), none, .box (T 0)⟩, ⟨(some 8), none, .mov (.const (.bool false))⟩]) (.seq (.seq (.ops [⟨(some 15), none, .loadN 3 (T 4)⟩, ⟨(some 16), none, .call (.func 23) [(T 15)]⟩, ⟨(some 17), none, .not (T 16)⟩]) (.cond (T 17) (.seq (.ops [⟨(some 18), none, .call (.func 24) []⟩, ⟨(some 8), none, .mov (T 18)⟩]) .ret) .skip)) (.seq (.ops [⟨(some 20), none, .loadN 3 (T 4)⟩, ⟨(some 21), none, .call (.func 26) [(T 20)]⟩, ⟨(some 22), none, .mov (T 1)⟩, ⟨(some 23), none, .mov (T 2)⟩, ⟨(some 24), none, .mov (T 3)⟩, ⟨(some 25), none, .call (.func 46) [(T 21), (T 22), (T 23), (T 24)]⟩, ⟨(some 19), none, .mov (T 25)⟩, ⟨(some 26), none, .extract 0 (T 19)⟩, ⟨(some 27), none, .extract 1 (T 19)⟩, ⟨(some 9), none, .mov (T 26)⟩, ⟨(some 10), none, .mov (T 27)⟩]) (.seq (.ops [⟨(some 11), none, .mov (.const (.int .i64 (0)))⟩]) (.seq (.seq (.ops [⟨(some 28), none, .mov (T 1)⟩, ⟨(some 29), none, .fieldAddr 1 (T 4)⟩, ⟨(some 30), none, .load1 (T 29)⟩, ⟨(some 31), none, .len (T 30)⟩, ⟨(some 32), none, .int2 .sub (T 31) (.const (.int .i64 (1)))⟩, ⟨(some 33), none, .call (.func 42) [(T 28), (.const (.int .i64 (0))), (T 32)]⟩, ⟨(some 34), none, .not (T 33)⟩, ⟨(some 35), none, .mov (T 34)⟩, ⟨(some 36), (some (35, false)), .mov (T 2)⟩, ⟨(some 37), (some (35, false)), .fieldAddr 0 (T 4)⟩, ⟨(some 38), (some (35, false)), .load1 (T 37)⟩, ⟨(some 39), (some (35, false)), .len (T 38)⟩, ⟨(some 40), (some (35, false)), .int2 .sub (T 39) (.const (.int .i64 (1)))⟩, ⟨(some 41), (some (35, false)), .call (.func 42) [(T 36), (.const (.int .i64 (0))), (T 40)]⟩, ⟨(some 42), (some (35, false)), .not (T 41)⟩, ⟨(some 43), none, .pick (T 35) (.const (.bool true)) (T 42)⟩, ⟨(some 44), none, .mov (T 43)⟩, ⟨(some 45), (some (44, false)), .mov (T 3)⟩, ⟨(some 46), (some (44, false)), .call (.func 42) [(T 45), (.const (.int .i64 (0))), (.const (.int .i64 (999)))]⟩, ⟨(some 47), (some (44, false)), .not (T 46)⟩, ⟨(some 48), none, .pick (T 44) (.const (.bool true)) (T 47)⟩]) (.cond (T 48) (.ops [⟨(some 11), none, .mov (.const (.int .i64 (2)))⟩]) .skip)) (.seq (.ops [⟨(some 50), none, .loadN 3 (T 4)⟩, ⟨(some 51), none, .mov (T 11)⟩, ⟨(some 52), none, .call (.func 43) [(T 50), (T 51)]⟩, ⟨(some 49), none, .mov (T 52)⟩, ⟨(some 53), none, .extract 0 (T 49)⟩, ⟨(some 54), none, .extract 1 (T 49)⟩, ⟨(some 12), none, .mov (T 53)⟩, ⟨(some 13), none, .mov (T 54)⟩]) (.seq (.seq (.ops [⟨(some 55), none, .mov (T 13)⟩, ⟨(some 56), none, .int2 .neq (T 55) (.const (.int .i64 (0)))⟩]) (.cond (T 56) (.seq (.ops [⟨(some 57), none, .mov (T 10)⟩, ⟨(some 58), none, .mov (T 13)⟩, ⟨(some 59), none, .int2 .eql (T 57) (T 58)⟩, ⟨(some 60), none, .mov (T 59)⟩, ⟨(some 61), (some (60, true)), .mov (T 9)⟩, ⟨(some 62), (some (60, true)), .int2 .eql (T 61) (.const (.int .i64 (0)))⟩, ⟨(some 63), none, .pick (T 60) (T 62) (.const (.bool false))⟩, ⟨(some 64), none, .mov (T 63)⟩, ⟨(some 65), (some (64, true)), .call (.func 24) []⟩, ⟨(some 66), none, .pick (T 64) (T 65) (.const (.bool false))⟩, ⟨(some 8), none, .mov (T 66)⟩]) .ret) .skip)) (.seq (.seq (.ops [⟨(some 67), none, .loadN 3 (T 4)⟩, ⟨(some 68), none, .mov (T 12)⟩, ⟨(some 69), none, .mov (T 1)⟩, ⟨(some 70), none, .mov (T 2)⟩, ⟨(some 71), none, .mov (T 3)⟩, ⟨(some 72), none, .call (.func 47) [(T 67), (T 68), (T 69), (T 70), (T 71)]⟩, ⟨(some 14), none, .mov (T 72)⟩]) (.seq (.ops [⟨(some 73), none, .mov (T 14)⟩, ⟨(some 74), none, .int2 .geq (T 73) (.const (.int .i64 (0)))⟩]) (.cond (T 74) (.seq (.ops [⟨(some 75), none, .mov (T 10)⟩, ⟨(some 76), none, .int2 .eql (T 75) (.const (.int .i64 (0)))⟩, ⟨(some 77), none, .mov (T 76)⟩, ⟨(some 78), (some (77, true)), .mov (T 9)⟩, ⟨(some 79), (some (77, true)), .mov (T 14)⟩, ⟨(some 80), (some (77, true)), .int2 .eql (T 78) (T 79)⟩, ⟨(some 81), none, .pick (T 77) (T 80) (.const (.bool false))⟩, ⟨(some 82), none, .mov (T 81)⟩, ⟨(some 83), (some (82, true)), .call (.func 24) []⟩, ⟨(some 84), none, .pick (T 82) (T 83) (.const (.bool false))⟩, ⟨(some 8), none, .mov (T 84)⟩]) .ret) .skip))) (.seq (.ops [⟨(some 85), none, .mov (T 10)⟩, ⟨(some 86), none, .int2 .eql (T 85) (.const (.int .i64 (10)))⟩, ⟨(some 87), none, .mov (T 86)⟩, ⟨(some 88), (some (87, true)), .mov (T 9)⟩, ⟨(some 89), (some (87, true)), .int2 .eql (T 88) (.const (.int .i64 (0)))⟩, ⟨(some 90), none, .pick (T 87) (T 89) (.const (.bool false))⟩, ⟨(some 91), none, .mov (T 90)⟩, ⟨(some 92), (some (91, true)), .call (.func 24) []⟩, ⟨(some 93), none, .pick (T 91) (T 92) (.const (.bool false))⟩, ⟨(some 8), none, .mov (T 93)⟩]) .ret)))))))))
theorem fok6 : FnOk Try.prog 6 94 s6 [.tmp 8] := ⟨Try.f6, _, Try.func6, rfl, Try.ntmps6, by kernel_rfl, by kernel_rfl⟩
open Classical in
theorem needsLaw_1 (hn : 10080 ≤ n) (hr : h.next + 1000000 < far) (hfl : h.floor ≤ h.next) {fv vv sv : Value} {Y : MY} (hy : YardR h fv vv sv Y) (one field blue : Int) (hT : Thin Y) (a1 : ¬ (0 ≤ one ∧ one ≤ (Y.nv : Int) - 1)) :
    ∃ v h', call n (.func (.func 6) #[] #[]) [.agg ⟨[fv, vv, sv]⟩, .int .i64 one, .int .i64 field, .int .i64 blue] h = some (v, h') ∧ v = .bool true := by
  obtain ⟨n, rfl⟩ : ∃ p, n = p + 1 := ⟨n - 1, by omega⟩
  refine call_any0 fok6 rfl rfl (by simp) ?_
  simp only [s6, W_seq, W_ops]
  refine ops_box (cs := [fv, vv, sv]) (by omega) rfl hy.one fun g1 hx1 => ?_
  have n1 := hx1.next
  have f1 := hx1.floor
  have hy1 := hy.mono hx1.sub
  have w1 := hx1.row.whole (n := 3) rfl
  have ht := thin_c (n := n) (h := g1) (by omega) (by omega) hy1
  obtain ⟨F1, V1, S1, g2, ey2, hy2, m2⟩ := yard_c (n := n) (h := g1) (by omega) (by omega) (by omega) hy1 hT
  have n2 := m2.next
  have u2 := m2.up
  have f2 := m2.floor
  have en := needs_c (n := n) (h := g2) (by omega) (by omega) hy2 hT one field blue
  have hy12 := hy1.mono m2.sub
  have rw2 := hx1.row.mono m2.sub
  have w2 := rw2.whole (n := 3) rfl
  obtain ⟨rr, hrw, hq⟩ := hy12.v
  obtain ⟨t1, t2, t3, t4⟩ := hT
  have wv : wrapF .i64 ((Y.nv : Int) - 1) = (Y.nv : Int) - 1 := wrap_in (by omega) (by omega)
  have wf : wrapF .i64 ((Y.nf : Int) - 1) = (Y.nf : Int) - 1 := wrap_in (by omega) (by omega)
  have i1 := in_c (n := n) (h := g2) (by omega) one 0 ((Y.nv : Int) - 1)
  have i2 := in_c (n := n) (h := g2) (by omega) field 0 ((Y.nf : Int) - 1)
  have i3 := in_c (n := n) (h := g2) (by omega) blue 0 999
  have hz := @asked_c n g2 (by omega) (by omega) (by omega) fv vv sv Y hy12
  have hT' : Thin Y := ⟨t1, t2, t3, t4⟩
  have hna : ¬ NeedsArgs Y one field blue := fun h => a1 h.1
  obtain ⟨v, g3, ea, m3, hv⟩ := hz 2
  have haw := awake_c (n := n) (h := g3) (by omega)
  rcases hv with ⟨hf, rfl⟩ | ⟨hf, _, rfl⟩ | ⟨_, h0, _⟩ | ⟨_, h0, _⟩
  · have hnv : needsV Y one field blue = (0, faultN Y) := by unfold needsV; rw [if_pos hf]
    rw [hnv] at en
    simp only [rn0, rn1, rn2, rn3, rn4, rn5, rn6, rn7, rn8, if_true, if_false, Nat.le_refl, true_and, and_true, decide_true, decide_false, Bool.not_true, Bool.not_false, reduceIte, Nat.reduceEqDiff, Nat.reduceAdd, Nat.reduceMul, Nat.reduceSub, Nat.reduceLeDiff, Nat.reduceLT, w1, ht, hT', ey2, en, rw2.ld, w2, Nat.zero_add, List.getElem?_cons_zero, List.getElem?_cons_succ, Cells.len hrw, Cells.len hy12.f, wv, wf, i1, i2, i3, ea, ex0, ex1, a1, hf, haw]
  · have hnv : needsV Y one field blue = (0, 2) := by unfold needsV; rw [if_neg (by simpa using hf), if_pos hna]
    rw [hnv] at en
    simp only [rn0, rn1, rn2, rn3, rn4, rn5, rn6, rn7, rn8, if_true, if_false, Nat.le_refl, true_and, and_true, decide_true, decide_false, Bool.not_true, Bool.not_false, reduceIte, Nat.reduceEqDiff, Nat.reduceAdd, Nat.reduceMul, Nat.reduceSub, Nat.reduceLeDiff, Nat.reduceLT, w1, ht, hT', ey2, en, rw2.ld, w2, Nat.zero_add, List.getElem?_cons_zero, List.getElem?_cons_succ, Cells.len hrw, Cells.len hy12.f, wv, wf, i1, i2, i3, ea, ex0, ex1, a1, haw, Int.reduceEq]
  · exact absurd h0 (by decide)
  · exact absurd h0 (by decide)

open Classical in
theorem needsLaw_2 (hn : 10080 ≤ n) (hr : h.next + 1000000 < far) (hfl : h.floor ≤ h.next) {fv vv sv : Value} {Y : MY} (hy : YardR h fv vv sv Y) (one field blue : Int) (hT : Thin Y) (a1 : 0 ≤ one ∧ one ≤ (Y.nv : Int) - 1) (a2 : ¬ (0 ≤ field ∧ field ≤ (Y.nf : Int) - 1)) :
    ∃ v h', call n (.func (.func 6) #[] #[]) [.agg ⟨[fv, vv, sv]⟩, .int .i64 one, .int .i64 field, .int .i64 blue] h = some (v, h') ∧ v = .bool true := by
  obtain ⟨n, rfl⟩ : ∃ p, n = p + 1 := ⟨n - 1, by omega⟩
  refine call_any0 fok6 rfl rfl (by simp) ?_
  simp only [s6, W_seq, W_ops]
  refine ops_box (cs := [fv, vv, sv]) (by omega) rfl hy.one fun g1 hx1 => ?_
  have n1 := hx1.next
  have f1 := hx1.floor
  have hy1 := hy.mono hx1.sub
  have w1 := hx1.row.whole (n := 3) rfl
  have ht := thin_c (n := n) (h := g1) (by omega) (by omega) hy1
  obtain ⟨F1, V1, S1, g2, ey2, hy2, m2⟩ := yard_c (n := n) (h := g1) (by omega) (by omega) (by omega) hy1 hT
  have n2 := m2.next
  have u2 := m2.up
  have f2 := m2.floor
  have en := needs_c (n := n) (h := g2) (by omega) (by omega) hy2 hT one field blue
  have hy12 := hy1.mono m2.sub
  have rw2 := hx1.row.mono m2.sub
  have w2 := rw2.whole (n := 3) rfl
  obtain ⟨rr, hrw, hq⟩ := hy12.v
  obtain ⟨t1, t2, t3, t4⟩ := hT
  have wv : wrapF .i64 ((Y.nv : Int) - 1) = (Y.nv : Int) - 1 := wrap_in (by omega) (by omega)
  have wf : wrapF .i64 ((Y.nf : Int) - 1) = (Y.nf : Int) - 1 := wrap_in (by omega) (by omega)
  have i1 := in_c (n := n) (h := g2) (by omega) one 0 ((Y.nv : Int) - 1)
  have i2 := in_c (n := n) (h := g2) (by omega) field 0 ((Y.nf : Int) - 1)
  have i3 := in_c (n := n) (h := g2) (by omega) blue 0 999
  have hz := @asked_c n g2 (by omega) (by omega) (by omega) fv vv sv Y hy12
  have hT' : Thin Y := ⟨t1, t2, t3, t4⟩
  have hna : ¬ NeedsArgs Y one field blue := fun h => a2 h.2.1
  obtain ⟨v, g3, ea, m3, hv⟩ := hz 2
  have haw := awake_c (n := n) (h := g3) (by omega)
  rcases hv with ⟨hf, rfl⟩ | ⟨hf, _, rfl⟩ | ⟨_, h0, _⟩ | ⟨_, h0, _⟩
  · have hnv : needsV Y one field blue = (0, faultN Y) := by unfold needsV; rw [if_pos hf]
    rw [hnv] at en
    simp only [rn0, rn1, rn2, rn3, rn4, rn5, rn6, rn7, rn8, if_true, if_false, Nat.le_refl, true_and, and_true, decide_true, decide_false, Bool.not_true, Bool.not_false, reduceIte, Nat.reduceEqDiff, Nat.reduceAdd, Nat.reduceMul, Nat.reduceSub, Nat.reduceLeDiff, Nat.reduceLT, w1, ht, hT', ey2, en, rw2.ld, w2, Nat.zero_add, List.getElem?_cons_zero, List.getElem?_cons_succ, Cells.len hrw, Cells.len hy12.f, wv, wf, i1, i2, i3, ea, ex0, ex1, a1, a2, and_self, hf, haw]
  · have hnv : needsV Y one field blue = (0, 2) := by unfold needsV; rw [if_neg (by simpa using hf), if_pos hna]
    rw [hnv] at en
    simp only [rn0, rn1, rn2, rn3, rn4, rn5, rn6, rn7, rn8, if_true, if_false, Nat.le_refl, true_and, and_true, decide_true, decide_false, Bool.not_true, Bool.not_false, reduceIte, Nat.reduceEqDiff, Nat.reduceAdd, Nat.reduceMul, Nat.reduceSub, Nat.reduceLeDiff, Nat.reduceLT, w1, ht, hT', ey2, en, rw2.ld, w2, Nat.zero_add, List.getElem?_cons_zero, List.getElem?_cons_succ, Cells.len hrw, Cells.len hy12.f, wv, wf, i1, i2, i3, ea, ex0, ex1, a1, a2, and_self, haw, Int.reduceEq]
  · exact absurd h0 (by decide)
  · exact absurd h0 (by decide)

open Classical in
theorem needsLaw_3 (hn : 10080 ≤ n) (hr : h.next + 1000000 < far) (hfl : h.floor ≤ h.next) {fv vv sv : Value} {Y : MY} (hy : YardR h fv vv sv Y) (one field blue : Int) (hT : Thin Y) (a1 : 0 ≤ one ∧ one ≤ (Y.nv : Int) - 1) (a2 : 0 ≤ field ∧ field ≤ (Y.nf : Int) - 1) (a3 : ¬ (0 ≤ blue ∧ blue ≤ 999)) :
    ∃ v h', call n (.func (.func 6) #[] #[]) [.agg ⟨[fv, vv, sv]⟩, .int .i64 one, .int .i64 field, .int .i64 blue] h = some (v, h') ∧ v = .bool true := by
  obtain ⟨n, rfl⟩ : ∃ p, n = p + 1 := ⟨n - 1, by omega⟩
  refine call_any0 fok6 rfl rfl (by simp) ?_
  simp only [s6, W_seq, W_ops]
  refine ops_box (cs := [fv, vv, sv]) (by omega) rfl hy.one fun g1 hx1 => ?_
  have n1 := hx1.next
  have f1 := hx1.floor
  have hy1 := hy.mono hx1.sub
  have w1 := hx1.row.whole (n := 3) rfl
  have ht := thin_c (n := n) (h := g1) (by omega) (by omega) hy1
  obtain ⟨F1, V1, S1, g2, ey2, hy2, m2⟩ := yard_c (n := n) (h := g1) (by omega) (by omega) (by omega) hy1 hT
  have n2 := m2.next
  have u2 := m2.up
  have f2 := m2.floor
  have en := needs_c (n := n) (h := g2) (by omega) (by omega) hy2 hT one field blue
  have hy12 := hy1.mono m2.sub
  have rw2 := hx1.row.mono m2.sub
  have w2 := rw2.whole (n := 3) rfl
  obtain ⟨rr, hrw, hq⟩ := hy12.v
  obtain ⟨t1, t2, t3, t4⟩ := hT
  have wv : wrapF .i64 ((Y.nv : Int) - 1) = (Y.nv : Int) - 1 := wrap_in (by omega) (by omega)
  have wf : wrapF .i64 ((Y.nf : Int) - 1) = (Y.nf : Int) - 1 := wrap_in (by omega) (by omega)
  have i1 := in_c (n := n) (h := g2) (by omega) one 0 ((Y.nv : Int) - 1)
  have i2 := in_c (n := n) (h := g2) (by omega) field 0 ((Y.nf : Int) - 1)
  have i3 := in_c (n := n) (h := g2) (by omega) blue 0 999
  have hz := @asked_c n g2 (by omega) (by omega) (by omega) fv vv sv Y hy12
  have hT' : Thin Y := ⟨t1, t2, t3, t4⟩
  have hna : ¬ NeedsArgs Y one field blue := fun h => a3 h.2.2
  obtain ⟨v, g3, ea, m3, hv⟩ := hz 2
  have haw := awake_c (n := n) (h := g3) (by omega)
  rcases hv with ⟨hf, rfl⟩ | ⟨hf, _, rfl⟩ | ⟨_, h0, _⟩ | ⟨_, h0, _⟩
  · have hnv : needsV Y one field blue = (0, faultN Y) := by unfold needsV; rw [if_pos hf]
    rw [hnv] at en
    simp only [rn0, rn1, rn2, rn3, rn4, rn5, rn6, rn7, rn8, if_true, if_false, Nat.le_refl, true_and, and_true, decide_true, decide_false, Bool.not_true, Bool.not_false, reduceIte, Nat.reduceEqDiff, Nat.reduceAdd, Nat.reduceMul, Nat.reduceSub, Nat.reduceLeDiff, Nat.reduceLT, w1, ht, hT', ey2, en, rw2.ld, w2, Nat.zero_add, List.getElem?_cons_zero, List.getElem?_cons_succ, Cells.len hrw, Cells.len hy12.f, wv, wf, i1, i2, i3, ea, ex0, ex1, a1, a2, a3, and_self, hf, haw]
  · have hnv : needsV Y one field blue = (0, 2) := by unfold needsV; rw [if_neg (by simpa using hf), if_pos hna]
    rw [hnv] at en
    simp only [rn0, rn1, rn2, rn3, rn4, rn5, rn6, rn7, rn8, if_true, if_false, Nat.le_refl, true_and, and_true, decide_true, decide_false, Bool.not_true, Bool.not_false, reduceIte, Nat.reduceEqDiff, Nat.reduceAdd, Nat.reduceMul, Nat.reduceSub, Nat.reduceLeDiff, Nat.reduceLT, w1, ht, hT', ey2, en, rw2.ld, w2, Nat.zero_add, List.getElem?_cons_zero, List.getElem?_cons_succ, Cells.len hrw, Cells.len hy12.f, wv, wf, i1, i2, i3, ea, ex0, ex1, a1, a2, a3, and_self, haw, Int.reduceEq]
  · exact absurd h0 (by decide)
  · exact absurd h0 (by decide)

open Classical in
theorem needsLaw_4 (hn : 10080 ≤ n) (hr : h.next + 1000000 < far) (hfl : h.floor ≤ h.next) {fv vv sv : Value} {Y : MY} (hy : YardR h fv vv sv Y) (one field blue : Int) (hT : Thin Y) (a1 : 0 ≤ one ∧ one ≤ (Y.nv : Int) - 1) (a2 : 0 ≤ field ∧ field ≤ (Y.nf : Int) - 1) (a3 : 0 ≤ blue ∧ blue ≤ 999) :
    ∃ v h', call n (.func (.func 6) #[] #[]) [.agg ⟨[fv, vv, sv]⟩, .int .i64 one, .int .i64 field, .int .i64 blue] h = some (v, h') ∧ v = .bool true := by
  obtain ⟨n, rfl⟩ : ∃ p, n = p + 1 := ⟨n - 1, by omega⟩
  refine call_any0 fok6 rfl rfl (by simp) ?_
  simp only [s6, W_seq, W_ops]
  refine ops_box (cs := [fv, vv, sv]) (by omega) rfl hy.one fun g1 hx1 => ?_
  have n1 := hx1.next
  have f1 := hx1.floor
  have hy1 := hy.mono hx1.sub
  have w1 := hx1.row.whole (n := 3) rfl
  have ht := thin_c (n := n) (h := g1) (by omega) (by omega) hy1
  obtain ⟨F1, V1, S1, g2, ey2, hy2, m2⟩ := yard_c (n := n) (h := g1) (by omega) (by omega) (by omega) hy1 hT
  have n2 := m2.next
  have u2 := m2.up
  have f2 := m2.floor
  have en := needs_c (n := n) (h := g2) (by omega) (by omega) hy2 hT one field blue
  have hy12 := hy1.mono m2.sub
  have rw2 := hx1.row.mono m2.sub
  have w2 := rw2.whole (n := 3) rfl
  obtain ⟨rr, hrw, hq⟩ := hy12.v
  obtain ⟨t1, t2, t3, t4⟩ := hT
  have wv : wrapF .i64 ((Y.nv : Int) - 1) = (Y.nv : Int) - 1 := wrap_in (by omega) (by omega)
  have wf : wrapF .i64 ((Y.nf : Int) - 1) = (Y.nf : Int) - 1 := wrap_in (by omega) (by omega)
  have i1 := in_c (n := n) (h := g2) (by omega) one 0 ((Y.nv : Int) - 1)
  have i2 := in_c (n := n) (h := g2) (by omega) field 0 ((Y.nf : Int) - 1)
  have i3 := in_c (n := n) (h := g2) (by omega) blue 0 999
  have hz := @asked_c n g2 (by omega) (by omega) (by omega) fv vv sv Y hy12
  have hT' : Thin Y := ⟨t1, t2, t3, t4⟩
  have hargs : NeedsArgs Y one field blue := ⟨a1, a2, a3⟩
  obtain ⟨v, g3, ea, m3, hv⟩ := hz 0
  have n3 := m3.next
  have haw := awake_c (n := n) (h := g3) (by omega)
  rcases hv with ⟨hf, rfl⟩ | ⟨_, h0, _⟩ | ⟨hf, _, he, rfl⟩ | ⟨hf, _, he, l, rfl, hl⟩
  · have hnv : needsV Y one field blue = (0, faultN Y) := by unfold needsV; rw [if_pos hf]
    rw [hnv] at en
    simp only [rn0, rn1, rn2, rn3, rn4, rn5, rn6, rn7, rn8, if_true, if_false, Nat.le_refl, true_and, and_true, decide_true, decide_false, Bool.not_true, Bool.not_false, reduceIte, Nat.reduceEqDiff, Nat.reduceAdd, Nat.reduceMul, Nat.reduceSub, Nat.reduceLeDiff, Nat.reduceLT, w1, ht, hT', ey2, en, rw2.ld, w2, Nat.zero_add, List.getElem?_cons_zero, List.getElem?_cons_succ, Cells.len hrw, Cells.len hy12.f, wv, wf, i1, i2, i3, ea, ex0, ex1, a1, a2, a3, and_self, hf, haw]
  · exact absurd rfl h0
  · have hnv : needsV Y one field blue = (0, 11) := by unfold needsV; rw [if_neg (by simpa using hf), if_neg (by simpa using hargs), if_pos ((refTruths_nil hf).1 he)]
    rw [hnv] at en
    simp only [rn0, rn1, rn2, rn3, rn4, rn5, rn6, rn7, rn8, if_true, if_false, Nat.le_refl, true_and, and_true, decide_true, decide_false, Bool.not_true, Bool.not_false, reduceIte, Nat.reduceEqDiff, Nat.reduceAdd, Nat.reduceMul, Nat.reduceSub, Nat.reduceLeDiff, Nat.reduceLT, w1, ht, hT', ey2, en, rw2.ld, w2, Nat.zero_add, List.getElem?_cons_zero, List.getElem?_cons_succ, Cells.len hrw, Cells.len hy12.f, wv, wf, i1, i2, i3, ea, ex0, ex1, a1, a2, a3, and_self, haw, Int.reduceEq]
  · obtain ⟨vN, rfl⟩ : ∃ k : Nat, one = k := ⟨one.toNat, by omega⟩
    obtain ⟨fN, rfl⟩ : ∃ k : Nat, field = k := ⟨field.toNat, by omega⟩
    have hne : truths Y ≠ [] := fun e => he ((refTruths_nil hf).2 e)
    have hnv : needsV Y vN fN blue = if 0 ≤ findFrom (Enough Y vN fN blue (truths Y)) 10 0 then (findFrom (Enough Y vN fN blue (truths Y)) 10 0, 0) else (0, 10) := by
      unfold needsV
      rw [if_neg (by simpa using hf), if_neg (by simpa using hargs), if_neg hne]
      simp only [Int.toNat_natCast]
    rw [hnv] at en
    have w3 := (rw2.mono m3.sub).whole (n := 3) rfl
    have er := needsRef_c (n := n) (h := g3) (by omega) (by omega) (hy12.mono m3.sub) hf hl (v := vN) (f := fN) (by omega) (by omega) a3
    rw [enough_ref hf] at er
    clear hnv
    generalize findFrom (Enough Y vN fN blue (truths Y)) 10 0 = res at en er
    by_cases hk : 0 ≤ res
    · rw [if_pos hk] at en
      simp only [rn0, rn1, rn2, rn3, rn4, rn5, rn6, rn7, rn8, if_true, if_false, Nat.le_refl, true_and, and_true, decide_true, decide_false, Bool.not_true, Bool.not_false, reduceIte, Nat.reduceEqDiff, Nat.reduceAdd, Nat.reduceMul, Nat.reduceSub, Nat.reduceLeDiff, Nat.reduceLT, w1, ht, hT', ey2, en, rw2.ld, w2, Nat.zero_add, List.getElem?_cons_zero, List.getElem?_cons_succ, Cells.len hrw, Cells.len hy12.f, wv, wf, i1, i2, i3, ea, ex0, ex1, a1, a2, a3, and_self, w3]
      simp only [er, step_some]
      simp only [rn0, rn1, rn2, rn3, rn4, rn5, rn6, rn7, rn8, if_true, if_false, Nat.le_refl, true_and, and_true, decide_true, decide_false, Bool.not_true, Bool.not_false, reduceIte, Nat.reduceEqDiff, Nat.reduceAdd, Nat.reduceMul, Nat.reduceSub, Nat.reduceLeDiff, Nat.reduceLT, hk, Int.reduceEq]
      simp only [rn0, rn1, rn2, rn3, rn4, rn5, rn6, rn7, rn8, if_true, if_false, Nat.le_refl, true_and, and_true, decide_true, decide_false, Bool.not_true, Bool.not_false, reduceIte, Nat.reduceEqDiff, Nat.reduceAdd, Nat.reduceMul, Nat.reduceSub, Nat.reduceLeDiff, Nat.reduceLT, haw]
    · rw [if_neg hk] at en
      simp only [rn0, rn1, rn2, rn3, rn4, rn5, rn6, rn7, rn8, if_true, if_false, Nat.le_refl, true_and, and_true, decide_true, decide_false, Bool.not_true, Bool.not_false, reduceIte, Nat.reduceEqDiff, Nat.reduceAdd, Nat.reduceMul, Nat.reduceSub, Nat.reduceLeDiff, Nat.reduceLT, w1, ht, hT', ey2, en, rw2.ld, w2, Nat.zero_add, List.getElem?_cons_zero, List.getElem?_cons_succ, Cells.len hrw, Cells.len hy12.f, wv, wf, i1, i2, i3, ea, ex0, ex1, a1, a2, a3, and_self, w3]
      simp only [er, step_some]
      simp only [rn0, rn1, rn2, rn3, rn4, rn5, rn6, rn7, rn8, if_true, if_false, Nat.le_refl, true_and, and_true, decide_true, decide_false, Bool.not_true, Bool.not_false, reduceIte, Nat.reduceEqDiff, Nat.reduceAdd, Nat.reduceMul, Nat.reduceSub, Nat.reduceLeDiff, Nat.reduceLT, hk, Int.reduceEq]
      simp only [rn0, rn1, rn2, rn3, rn4, rn5, rn6, rn7, rn8, if_true, if_false, Nat.le_refl, true_and, and_true, decide_true, decide_false, Bool.not_true, Bool.not_false, reduceIte, Nat.reduceEqDiff, Nat.reduceAdd, Nat.reduceMul, Nat.reduceSub, Nat.reduceLeDiff, Nat.reduceLT, haw]

theorem needsLaw_c (hn : 10080 ≤ n) (hr : h.next + 1000000 < far) (hfl : h.floor ≤ h.next) {fv vv sv : Value} {Y : MY} (hy : YardR h fv vv sv Y) (one field blue : Int) :
    ∃ v h', call n (.func (.func 6) #[] #[]) [.agg ⟨[fv, vv, sv]⟩, .int .i64 one, .int .i64 field, .int .i64 blue] h = some (v, h') ∧ v = .bool true := by
  by_cases hT : Thin Y
  case neg =>
    obtain ⟨n, rfl⟩ : ∃ p, n = p + 1 := ⟨n - 1, by omega⟩
    refine call_any0 fok6 rfl rfl (by simp) ?_
    simp only [s6, W_seq, W_ops]
    refine ops_box (cs := [fv, vv, sv]) (by omega) rfl hy.one fun g1 hx1 => ?_
    have n1 := hx1.next
    have w1 := hx1.row.whole (n := 3) rfl
    have ht := thin_c (n := n) (h := g1) (by omega) (by omega) (hy.mono hx1.sub)
    simp only [rn0, rn1, rn2, rn3, rn4, rn5, rn6, rn7, rn8, if_true, if_false, Nat.le_refl, true_and, and_true, decide_true, decide_false, Bool.not_true, Bool.not_false, reduceIte, Nat.reduceEqDiff, Nat.reduceAdd, Nat.reduceMul, Nat.reduceSub, Nat.reduceLeDiff, Nat.reduceLT, w1, ht, hT, awake_c (n := n) (h := g1) (by omega)]
  by_cases a1 : 0 ≤ one ∧ one ≤ (Y.nv : Int) - 1
  case neg => exact needsLaw_1 hn hr hfl hy one field blue hT a1
  by_cases a2 : 0 ≤ field ∧ field ≤ (Y.nf : Int) - 1
  case neg => exact needsLaw_2 hn hr hfl hy one field blue hT a1 a2
  by_cases a3 : 0 ≤ blue ∧ blue ≤ 999
  case neg => exact needsLaw_3 hn hr hfl hy one field blue hT a1 a2 a3
  exact needsLaw_4 hn hr hfl hy one field blue hT a1 a2 a3
end Go.Vm.Vat

namespace Go.Vm.Vat
open Go.Proofs
set_option linter.unusedSimpArgs false
set_option linter.unusedVariables false
set_option maxRecDepth 10000
variable {n : Nat} {h : AHeap}

open Classical in
theorem needsV_in {Y : MY} (hf : faultN Y = 0) {one fld : Nat} (ho : one < Y.nv) (hl : fld < Y.nf) {b : Int} (hb : 0 ≤ b ∧ b ≤ 999) :
    needsV Y (one : Int) (fld : Int) b = if truths Y = [] then (0, 11) else if 0 ≤ findFrom (Enough Y one fld b (truths Y)) 10 0 then (findFrom (Enough Y one fld b (truths Y)) 10 0, 0) else (0, 10) := by
  unfold needsV
  rw [if_neg (by simpa using hf), if_neg (fun e => e ⟨⟨by omega, by omega⟩, ⟨by omega, by omega⟩, hb⟩), Int.toNat_natCast, Int.toNat_natCast]
theorem findFrom_get {p : Nat → Prop} {m : Nat} (h : 0 ≤ findFrom p m 0) : ∃ k, k < m ∧ p k ∧ (∀ j, j < k → ¬ p j) ∧ findFrom p m 0 = k := by
  obtain ⟨k, h1, h2⟩ := findFrom_iff.1 h
  have : ∀ k, k < m → p k → ∃ k, k < m ∧ p k ∧ (∀ j, j < k → ¬ p j) := by
    intro k
    induction k using Nat.strongRecOn with
    | ind k ih =>
      intro hk hp
      by_cases e : ∃ j, j < k ∧ p j
      · obtain ⟨j, e1, e2⟩ := e
        exact ih j e1 (by omega) e2
      · exact ⟨k, hk, hp, fun j hj hp => e ⟨j, hj, hp⟩⟩
  obtain ⟨k, h1, h2, h3⟩ := this k h1 h2
  exact ⟨k, h1, h2, h3, findFrom_at h1 h3 h2⟩
theorem enough_less {Y : MY} {v f : Nat} {b : Int} {L : List (Nat → Int)} {k : Nat} (h : Enough Y v f (b + 1) L k) : Enough Y v f b L k := fun t ht => by have := h t ht; omega
theorem quo8 {a : Nat} (h : a < 256) : IntKind.wrap .i64 ((a : Int).tdiv 8) = ((a / 8 : Nat) : Int) := by
  have e : (a : Int).tdiv 8 = ((a / 8 : Nat) : Int) := rfl
  rw [e]; exact IntWalk.i64_in _ (by omega)

def s14 : SCode := (.seq (.ops [⟨(some 3), none, .box (T 0)⟩, ⟨(some 6), none, .mov (.const (.bool false))⟩]) (.seq (.seq (.ops [⟨(some 19), none, .loadN 3 (T 3)⟩, ⟨(some 20), none, .call (.func 62) [(T 19)]⟩, ⟨(some 21), none, .not (T 20)⟩, ⟨(some 22), none, .mov (T 21)⟩, ⟨(some 23), (some (22, false)), .fieldAddr 0 (T 3)⟩, ⟨(some 24), (some (22, false)), .load1 (T 23)⟩, ⟨(some 25), (some (22, false)), .len (T 24)⟩, ⟨(some 26), (some (22, false)), .int2 .eql (T 25) (.const (.int .i64 (0)))⟩, ⟨(some 27), none, .pick (T 22) (.const (.bool true)) (T 26)⟩, ⟨(some 28), none, .mov (T 27)⟩, ⟨(some 29), (some (28, false)), .fieldAddr 1 (T 3)⟩, ⟨(some 30), (some (28, false)), .load1 (T 29)⟩, ⟨(some 31), (some (28, false)), .len (T 30)⟩, ⟨(some 32), (some (28, false)), .int2 .eql (T 31) (.const (.int .i64 (0)))⟩, ⟨(some 33), none, .pick (T 28) (.const (.bool true)) (T 32)⟩]) (.cond (T 33) (.seq (.ops [⟨(some 34), none, .call (.func 24) []⟩, ⟨(some 6), none, .mov (T 34)⟩]) .ret) .skip)) (.seq (.draw [⟨.free, ⟨(some 35), none, .mov (T 1)⟩⟩, ⟨.free, ⟨(some 36), none, .plain (.convert 5 3 (T 35)) 3⟩⟩, ⟨.free, ⟨(some 37), none, .fieldAddr 1 (T 3)⟩⟩, ⟨.rd1, ⟨(some 38), none, .load1 (T 37)⟩⟩, ⟨.free, ⟨(some 39), none, .len (T 38)⟩⟩, ⟨.free, ⟨(some 40), none, .plain (.binOp .rem 3 (T 36) (T 39) 3) 3⟩⟩, ⟨.free, ⟨(some 41), none, .mov (T 1)⟩⟩, ⟨.free, ⟨(some 42), none, .plain (.convert 5 3 (T 41)) 3⟩⟩, ⟨.free, ⟨(some 43), none, .plain (.binOp .quo 3 (T 42) (.const (.int .i64 (8))) 3) 3⟩⟩, ⟨.free, ⟨(some 44), none, .fieldAddr 0 (T 3)⟩⟩, ⟨.rd1, ⟨(some 45), none, .load1 (T 44)⟩⟩, ⟨.free, ⟨(some 46), none, .len (T 45)⟩⟩, ⟨.free, ⟨(some 47), none, .plain (.binOp .rem 3 (T 43) (T 46) 3) 3⟩⟩, ⟨.free, ⟨(some 7), none, .mov (T 40)⟩⟩, ⟨.free, ⟨(some 8), none, .mov (T 47)⟩⟩]) (.seq (.ops [⟨(some 49), none, .loadN 3 (T 3)⟩, ⟨(some 50), none, .call (.func 26) [(T 49)]⟩, ⟨(some 51), none, .mov (T 7)⟩, ⟨(some 52), none, .mov (T 8)⟩, ⟨(some 53), none, .mov (T 2)⟩, ⟨(some 54), none, .plain (.convert 5 3 (T 53)) 3⟩, ⟨(some 55), none, .call (.func 46) [(T 50), (T 51), (T 52), (T 54)]⟩, ⟨(some 48), none, .mov (T 55)⟩, ⟨(some 56), none, .extract 0 (T 48)⟩, ⟨(some 57), none, .extract 1 (T 48)⟩, ⟨(some 9), none, .mov (T 56)⟩, ⟨(some 10), none, .mov (T 57)⟩]) (.seq (.ops [⟨(some 59), none, .loadN 3 (T 3)⟩, ⟨(some 60), none, .call (.func 26) [(T 59)]⟩, ⟨(some 61), none, .mov (T 7)⟩, ⟨(some 62), none, .mov (T 8)⟩, ⟨(some 63), none, .mov (T 2)⟩, ⟨(some 64), none, .plain (.convert 5 3 (T 63)) 3⟩, ⟨(some 65), none, .int2 .add (T 64) (.const (.int .i64 (1)))⟩, ⟨(some 66), none, .call (.func 46) [(T 60), (T 61), (T 62), (T 65)]⟩, ⟨(some 58), none, .mov (T 66)⟩, ⟨(some 67), none, .extract 0 (T 58)⟩, ⟨(some 68), none, .extract 1 (T 58)⟩, ⟨(some 11), none, .mov (T 67)⟩, ⟨(some 12), none, .mov (T 68)⟩]) (.seq (.ops [⟨(some 70), none, .loadN 3 (T 3)⟩, ⟨(some 71), none, .call (.func 26) [(T 70)]⟩, ⟨(some 72), none, .call (.func 34) [(T 71)]⟩, ⟨(some 69), none, .mov (T 72)⟩, ⟨(some 73), none, .extract 0 (T 69)⟩, ⟨(some 74), none, .extract 1 (T 69)⟩, ⟨(some 13), none, .mov (T 73)⟩, ⟨(some 14), none, .mov (T 74)⟩]) (.seq (.seq (.ops [⟨(some 75), none, .mov (T 14)⟩, ⟨(some 76), none, .int2 .neq (T 75) (.const (.int .i64 (0)))⟩]) (.cond (T 76) (.seq (.ops [⟨(some 77), none, .mov (T 14)⟩, ⟨(some 78), none, .int2 .eql (T 77) (.const (.int .i64 (11)))⟩, ⟨(some 79), none, .mov (T 78)⟩, ⟨(some 80), (some (79, true)), .mov (T 10)⟩, ⟨(some 81), (some (79, true)), .mov (T 14)⟩, ⟨(some 82), (some (79, true)), .int2 .eql (T 80) (T 81)⟩, ⟨(some 83), none, .pick (T 79) (T 82) (.const (.bool false))⟩, ⟨(some 84), none, .mov (T 83)⟩, ⟨(some 85), (some (84, true)), .mov (T 12)⟩, ⟨(some 86), (some (84, true)), .mov (T 14)⟩, ⟨(some 87), (some (84, true)), .int2 .eql (T 85) (T 86)⟩, ⟨(some 88), none, .pick (T 84) (T 87) (.const (.bool false))⟩, ⟨(some 89), none, .mov (T 88)⟩, ⟨(some 90), (some (89, true)), .call (.func 24) []⟩, ⟨(some 91), none, .pick (T 89) (T 90) (.const (.bool false))⟩, ⟨(some 6), none, .mov (T 91)⟩]) .ret) .skip)) (.seq (.seq (.ops [⟨(some 92), none, .mov (T 10)⟩, ⟨(some 93), none, .int2 .neq (T 92) (.const (.int .i64 (0)))⟩]) (.cond (T 93) (.seq (.ops [⟨(some 94), none, .mov (T 10)⟩, ⟨(some 95), none, .int2 .eql (T 94) (.const (.int .i64 (10)))⟩, ⟨(some 96), none, .mov (T 95)⟩, ⟨(some 97), (some (96, true)), .mov (T 12)⟩, ⟨(some 98), (some (96, true)), .mov (T 10)⟩, ⟨(some 99), (some (96, true)), .int2 .eql (T 97) (T 98)⟩, ⟨(some 100), none, .pick (T 96) (T 99) (.const (.bool false))⟩, ⟨(some 101), none, .mov (T 100)⟩, ⟨(some 102), (some (101, true)), .call (.func 24) []⟩, ⟨(some 103), none, .pick (T 101) (T 102) (.const (.bool false))⟩, ⟨(some 6), none, .mov (T 103)⟩]) .ret) .skip)) (.seq (.seq (.ops [⟨(some 104), none, .mov (T 12)⟩, ⟨(some 105), none, .int2 .neq (T 104) (.const (.int .i64 (0)))⟩, ⟨(some 106), none, .mov (T 105)⟩, ⟨(some 107), (some (106, true)), .mov (T 12)⟩, ⟨(some 108), (some (106, true)), .int2 .neq (T 107) (.const (.int .i64 (10)))⟩, ⟨(some 109), none, .pick (T 106) (T 108) (.const (.bool false))⟩, ⟨(some 110), none, .mov (T 109)⟩, ⟨(some 111), (some (110, false)), .mov (T 12)⟩, ⟨(some 112), (some (110, false)), .int2 .eql (T 111) (.const (.int .i64 (0)))⟩, ⟨(some 113), (some (110, false)), .mov (T 112)⟩, ⟨(some 114), (some (113, true)), .mov (T 11)⟩, ⟨(some 115), (some (113, true)), .mov (T 9)⟩, ⟨(some 116), (some (113, true)), .int2 .lss (T 114) (T 115)⟩, ⟨(some 117), (some (110, false)), .pick (T 113) (T 116) (.const (.bool false))⟩, ⟨(some 118), none, .pick (T 110) (.const (.bool true)) (T 117)⟩, ⟨(some 119), none, .mov (T 118)⟩, ⟨(some 120), (some (119, false)), .mov (T 13)⟩, ⟨(some 121), (some (119, false)), .len (T 120)⟩, ⟨(some 122), (some (119, false)), .fieldAddr 1 (T 3)⟩, ⟨(some 123), (some (119, false)), .load1 (T 122)⟩, ⟨(some 124), (some (119, false)), .len (T 123)⟩, ⟨(some 125), (some (119, false)), .int2 .neq (T 121) (T 124)⟩, ⟨(some 126), none, .pick (T 119) (.const (.bool true)) (T 125)⟩, ⟨(some 127), none, .mov (T 126)⟩, ⟨(some 128), (some (127, false)), .mov (T 9)⟩, ⟨(some 129), (some (127, false)), .call (.func 42) [(T 128), (.const (.int .i64 (0))), (.const (.int .i64 (9)))]⟩, ⟨(some 130), (some (127, false)), .not (T 129)⟩, ⟨(some 131), none, .pick (T 127) (.const (.bool true)) (T 130)⟩, ⟨(some 132), none, .mov (T 131)⟩, ⟨(some 133), (some (132, false)), .mov (T 9)⟩, ⟨(some 134), (some (132, false)), .int2 .eql (T 133) (.const (.int .i64 (0)))⟩, ⟨(some 135), (some (132, false)), .mov (T 13)⟩, ⟨(some 136), (some (132, false)), .mov (T 7)⟩, ⟨(some 137), (some (132, false)), .idxSl 2 (T 135) (T 136)⟩, ⟨(some 138), (some (132, false)), .fieldAddr 0 (T 137)⟩, ⟨(some 139), (some (132, false)), .load1 (T 138)⟩, ⟨(some 140), (some (132, false)), .mov (T 2)⟩, ⟨(some 141), (some (132, false)), .plain (.convert 5 3 (T 140)) 3⟩, ⟨(some 142), (some (132, false)), .int2 .geq (T 139) (T 141)⟩, ⟨(some 143), (some (132, false)), .bin .neq (.binOp .neq 4 (T 134) (T 142) 4) 4 (T 134) (T 142)⟩, ⟨(some 144), none, .pick (T 132) (.const (.bool true)) (T 143)⟩]) (.cond (T 144) (.seq (.ops [⟨(some 6), none, .mov (.const (.bool false))⟩]) .ret) .skip)) (.seq (.ops [⟨(some 145), none, .loadN 3 (T 3)⟩, ⟨(some 146), none, .call (.func 64) [(T 145)]⟩, ⟨(some 15), none, .mov (T 146)⟩]) (.seq (.ops [⟨(some 147), none, .mov (T 9)⟩, ⟨(some 148), none, .int2 .eql (T 147) (.const (.int .i64 (0)))⟩, ⟨(some 16), none, .mov (T 148)⟩]) (.seq (.seq (.ops [⟨(some 17), none, .mov (.const (.int .i64 (0)))⟩]) (.block 0 (.loop (.seq (.seq (.ops [⟨(some 149), none, .mov (T 17)⟩, ⟨(some 150), none, .mov (T 15)⟩, ⟨(some 151), none, .len (T 150)⟩, ⟨(some 152), none, .int2 .lss (T 149) (T 151)⟩]) (.cond (T 152) .skip (.exit 0))) (.seq (.block 1 (.seq (.draw [⟨.rd1, ⟨(some 155), none, .loadN 3 (T 3)⟩⟩, ⟨.free, ⟨(some 156), none, .mov (T 15)⟩⟩, ⟨.free, ⟨(some 157), none, .mov (T 17)⟩⟩, ⟨.free, ⟨(some 158), none, .idxSl 1 (T 156) (T 157)⟩⟩, ⟨.rd1, ⟨(some 159), none, .load1 (T 158)⟩⟩, ⟨.free, ⟨(some 160), none, .mov (T 7)⟩⟩, ⟨.any, ⟨(some 161), none, .call (.func 33) [(T 155), (T 159), (T 160)]⟩⟩, ⟨.free, ⟨(some 18), none, .mov (T 161)⟩⟩]) (.seq (.seq (.ops [⟨(some 162), none, .mov (T 18)⟩, ⟨(some 163), none, .mov (T 9)⟩, ⟨(some 164), none, .mov (T 15)⟩, ⟨(some 165), none, .mov (T 17)⟩, ⟨(some 166), none, .idxSl 1 (T 164) (T 165)⟩, ⟨(some 167), none, .load1 (T 166)⟩, ⟨(some 168), none, .mov (T 8)⟩, ⟨(some 169), none, .idxSl 1 (T 167) (T 168)⟩, ⟨(some 170), none, .load1 (T 169)⟩, ⟨(some 171), none, .int2 .mul (T 163) (T 170)⟩, ⟨(some 172), none, .int2 .add (T 162) (T 171)⟩, ⟨(some 173), none, .mov (T 2)⟩, ⟨(some 174), none, .plain (.convert 5 3 (T 173)) 3⟩, ⟨(some 175), none, .int2 .lss (T 172) (T 174)⟩]) (.cond (T 175) (.seq (.ops [⟨(some 6), none, .mov (.const (.bool false))⟩]) .ret) .skip)) (.ops [⟨(some 176), none, .mov (T 16)⟩, ⟨(some 177), none, .mov (T 176)⟩, ⟨(some 178), (some (177, false)), .mov (T 18)⟩, ⟨(some 179), (some (177, false)), .mov (T 9)⟩, ⟨(some 180), (some (177, false)), .int2 .sub (T 179) (.const (.int .i64 (1)))⟩, ⟨(some 181), (some (177, false)), .mov (T 15)⟩, ⟨(some 182), (some (177, false)), .mov (T 17)⟩, ⟨(some 183), (some (177, false)), .idxSl 1 (T 181) (T 182)⟩, ⟨(some 184), (some (177, false)), .load1 (T 183)⟩, ⟨(some 185), (some (177, false)), .mov (T 8)⟩, ⟨(some 186), (some (177, false)), .idxSl 1 (T 184) (T 185)⟩, ⟨(some 187), (some (177, false)), .load1 (T 186)⟩, ⟨(some 188), (some (177, false)), .int2 .mul (T 180) (T 187)⟩, ⟨(some 189), (some (177, false)), .int2 .add (T 178) (T 188)⟩, ⟨(some 190), (some (177, false)), .mov (T 2)⟩, ⟨(some 191), (some (177, false)), .plain (.convert 5 3 (T 190)) 3⟩, ⟨(some 192), (some (177, false)), .int2 .lss (T 189) (T 191)⟩, ⟨(some 193), none, .pick (T 177) (.const (.bool true)) (T 192)⟩, ⟨(some 16), none, .mov (T 193)⟩])))) (.ops [⟨(some 153), none, .mov (T 17)⟩, ⟨(some 154), none, .int2 .add (T 153) (.const (.int .i64 (1)))⟩, ⟨(some 17), none, .mov (T 154)⟩])))))) (.seq (.ops [⟨(some 194), none, .mov (T 16)⟩, ⟨(some 195), none, .mov (T 194)⟩, ⟨(some 196), (some (195, true)), .call (.func 24) []⟩, ⟨(some 197), none, .pick (T 195) (T 196) (.const (.bool false))⟩, ⟨(some 6), none, .mov (T 197)⟩]) .ret)))))))))))))
theorem fok14 : FnOk Try.prog 14 198 s14 [.tmp 6] := ⟨Try.f14, _, Try.func14, rfl, Try.ntmps14, by kernel_rfl, by kernel_rfl⟩
theorem needed_e (hn : 10090 ≤ n) (hr : h.next + 3000000 < far) (hfl : h.floor ≤ h.next) {fv vv sv : Value} {Y : MY} (hy : YardR h fv vv sv Y) (hT : Thin Y) (hf : faultN Y = 0) (hnf : 0 < Y.nf) (hnv : 0 < Y.nv) {a1 a2 one fld : Nat} (w1 : a1 < 256) (w2 : a2 < 256) (hone : one = a1 % Y.nv) (hfld : fld = a1 / 8 % Y.nf) (he : truths Y = []) :
    ∃ v h', call n (.func (.func 14) #[] #[]) [.agg ⟨[fv, vv, sv]⟩, .int .u8 (a1 : Int), .int .u8 (a2 : Int)] h = some (v, h') ∧ v = .bool true := by
  obtain ⟨n, rfl⟩ : ∃ p, n = p + 1 := ⟨n - 1, by omega⟩
  refine call_any0 fok14 rfl rfl (by simp) ?_
  simp only [s14, W_seq, W_ops]
  refine ops_box (cs := [fv, vv, sv]) (by omega) rfl hy.one fun g1 hx1 => ?_
  have n1 := hx1.next
  have f1 := hx1.floor
  have hy1 := hy.mono hx1.sub
  have x1 := hx1.row.whole (n := 3) rfl
  have r1 := hx1.row
  have hrd := ready_c (n := n) (h := g1) (by omega) (by omega) hy1
  have hrd' : decide (Thin Y ∧ faultN Y = 0) = true := decide_eq_true ⟨hT, hf⟩
  rw [hrd'] at hrd
  obtain ⟨rr, hrw, hq⟩ := hy1.v
  have z1 : ¬ (Y.nf : Int) = 0 := by omega
  have z2 : ¬ (Y.nv : Int) = 0 := by omega
  have z8 : ¬ (8 : Int) = 0 := by decide
  have hov : one < Y.nv := by rw [hone]; exact Nat.mod_lt _ hnv
  have hof : fld < Y.nf := by rw [hfld]; exact Nat.mod_lt _ hnf
  have m1 : (a1 : Int).tmod (Y.nv : Int) = (one : Int) := by rw [hone]; rfl
  have m2 : ((a1 / 8 : Nat) : Int).tmod (Y.nf : Int) = (fld : Int) := by rw [hfld]; rfl
  have hwb : wrapF .i64 ((a2 : Int) + 1) = (a2 : Int) + 1 := wrap_in (by omega) (by omega)
  simp only [rn0, rn1, rn2, rn3, rn4, rn5, rn6, rn7, rn8, if_true, if_false, Nat.le_refl, true_and, and_true, decide_true, decide_false, Bool.not_true, Bool.not_false, reduceIte, Nat.reduceEqDiff, Nat.reduceAdd, Nat.reduceMul, Nat.reduceSub, Nat.reduceLeDiff, Nat.reduceLT, x1, hrd, r1.ld, Nat.zero_add, List.getElem?_cons_zero, List.getElem?_cons_succ, Cells.len hy1.f, Cells.len hrw, z1, z2]
  refine W_draw All ?_
  simp only [rn0, rn1, rn2, rn3, rn4, rn5, rn6, rn7, rn8, if_true, if_false, Nat.le_refl, true_and, and_true, decide_true, decide_false, Bool.not_true, Bool.not_false, reduceIte, Nat.reduceEqDiff, Nat.reduceAdd, Nat.reduceMul, Nat.reduceSub, Nat.reduceLeDiff, Nat.reduceLT, p_conv8, r_8 w1, r_8 w2, valN_tmp, valN_const, Nat.reduceLT, r1.ld, Nat.zero_add, List.getElem?_cons_zero, List.getElem?_cons_succ, Cells.len hy1.f, Cells.len hrw, r_rem z1, r_rem z2, r_quo z8, quo8 w1, m1, m2]
  obtain ⟨F1, V1, S1, g2, ey2, hy2, m2'⟩ := yard_c (n := n) (h := g1) (by omega) (by omega) (by omega) hy1 hT
  have n2 := m2'.next
  have u2 := m2'.up
  have f2 := m2'.floor
  have en2 := needs_c (n := n) (h := g2) (by omega) (by omega) hy2 hT (one : Int) (fld : Int) (a2 : Int)
  obtain ⟨F2, V2, S2, g3, ey3, hy3, m3⟩ := yard_c (n := n) (h := g2) (by omega) (by omega) (by omega) (hy1.mono m2'.sub) hT
  have n3 := m3.next
  have u3 := m3.up
  have f3 := m3.floor
  have en3 := needs_c (n := n) (h := g3) (by omega) (by omega) hy3 hT (one : Int) (fld : Int) ((a2 : Int) + 1)
  have s2 : Sub All g1 g2 := m2'.sub
  have s3 : Sub All g1 g3 := m2'.sub.trans m3.sub
  have w2x := (hx1.row.mono s2).whole (n := 3) rfl
  have w3x := (hx1.row.mono s3).whole (n := 3) rfl
  obtain ⟨F3, V3, S3, g4, ey4, hy4, m4⟩ := yard_c (n := n) (h := g3) (by omega) (by omega) (by omega) (hy1.mono s3) hT
  have n4 := m4.next
  have u4' := m4.up
  have f4 := m4.floor
  obtain ⟨bv, g5, eb5, m5, hb5⟩ := boundsV_c (n := n) (h := g4) (by omega) (by omega) (by omega) hy4 hT
  have n5 := m5.next
  have u5 := m5.up
  have f5 := m5.floor
  have s5 : Sub All g1 g5 := s3.trans (m4.sub.trans m5.sub)
  have w5 := (hx1.row.mono s5).whole (n := 3) rfl
  have r5 := hx1.row.mono s5
  have haw := awake_c (n := n) (h := g5) (by omega)
  have e2 := needsV_in hf hov hof (b := (a2 : Int)) ⟨by omega, by omega⟩
  have e3 := needsV_in hf hov hof (b := (a2 : Int) + 1) ⟨by omega, by omega⟩
  rw [if_pos he] at e2 e3
  rw [e2] at en2
  rw [e3] at en3
  rcases hb5 with ⟨h0, _⟩ | ⟨_, hn0, rfl⟩ | ⟨_, hne, _⟩
  · exact absurd hf h0
  · simp only [rn0, rn1, rn2, rn3, rn4, rn5, rn6, rn7, rn8, if_true, if_false, Nat.le_refl, true_and, and_true, decide_true, decide_false, Bool.not_true, Bool.not_false, reduceIte, Nat.reduceEqDiff, Nat.reduceAdd, Nat.reduceMul, Nat.reduceSub, Nat.reduceLeDiff, Nat.reduceLT, Int.reduceEq, p_conv8, r_8 w1, r_8 w2, valN_tmp, valN_const, Nat.reduceLT, x1, ey2, en2, w2x, ey3, hwb, en3, w3x, ey4, eb5, ex0, ex1, haw]
  · exact absurd he hne
theorem needed_s (hn : 10090 ≤ n) (hr : h.next + 3000000 < far) (hfl : h.floor ≤ h.next) {fv vv sv : Value} {Y : MY} (hy : YardR h fv vv sv Y) (hT : Thin Y) (hf : faultN Y = 0) (hnf : 0 < Y.nf) (hnv : 0 < Y.nv) {a1 a2 one fld : Nat} (w1 : a1 < 256) (w2 : a2 < 256) (hone : one = a1 % Y.nv) (hfld : fld = a1 / 8 % Y.nf) (he : truths Y ≠ []) (hp : ¬ 0 ≤ findFrom (Enough Y one fld (a2 : Int) (truths Y)) 10 0) :
    ∃ v h', call n (.func (.func 14) #[] #[]) [.agg ⟨[fv, vv, sv]⟩, .int .u8 (a1 : Int), .int .u8 (a2 : Int)] h = some (v, h') ∧ v = .bool true := by
  obtain ⟨n, rfl⟩ : ∃ p, n = p + 1 := ⟨n - 1, by omega⟩
  refine call_any0 fok14 rfl rfl (by simp) ?_
  simp only [s14, W_seq, W_ops]
  refine ops_box (cs := [fv, vv, sv]) (by omega) rfl hy.one fun g1 hx1 => ?_
  have n1 := hx1.next
  have f1 := hx1.floor
  have hy1 := hy.mono hx1.sub
  have x1 := hx1.row.whole (n := 3) rfl
  have r1 := hx1.row
  have hrd := ready_c (n := n) (h := g1) (by omega) (by omega) hy1
  have hrd' : decide (Thin Y ∧ faultN Y = 0) = true := decide_eq_true ⟨hT, hf⟩
  rw [hrd'] at hrd
  obtain ⟨rr, hrw, hq⟩ := hy1.v
  have z1 : ¬ (Y.nf : Int) = 0 := by omega
  have z2 : ¬ (Y.nv : Int) = 0 := by omega
  have z8 : ¬ (8 : Int) = 0 := by decide
  have hov : one < Y.nv := by rw [hone]; exact Nat.mod_lt _ hnv
  have hof : fld < Y.nf := by rw [hfld]; exact Nat.mod_lt _ hnf
  have m1 : (a1 : Int).tmod (Y.nv : Int) = (one : Int) := by rw [hone]; rfl
  have m2 : ((a1 / 8 : Nat) : Int).tmod (Y.nf : Int) = (fld : Int) := by rw [hfld]; rfl
  have hwb : wrapF .i64 ((a2 : Int) + 1) = (a2 : Int) + 1 := wrap_in (by omega) (by omega)
  simp only [rn0, rn1, rn2, rn3, rn4, rn5, rn6, rn7, rn8, if_true, if_false, Nat.le_refl, true_and, and_true, decide_true, decide_false, Bool.not_true, Bool.not_false, reduceIte, Nat.reduceEqDiff, Nat.reduceAdd, Nat.reduceMul, Nat.reduceSub, Nat.reduceLeDiff, Nat.reduceLT, x1, hrd, r1.ld, Nat.zero_add, List.getElem?_cons_zero, List.getElem?_cons_succ, Cells.len hy1.f, Cells.len hrw, z1, z2]
  refine W_draw All ?_
  simp only [rn0, rn1, rn2, rn3, rn4, rn5, rn6, rn7, rn8, if_true, if_false, Nat.le_refl, true_and, and_true, decide_true, decide_false, Bool.not_true, Bool.not_false, reduceIte, Nat.reduceEqDiff, Nat.reduceAdd, Nat.reduceMul, Nat.reduceSub, Nat.reduceLeDiff, Nat.reduceLT, p_conv8, r_8 w1, r_8 w2, valN_tmp, valN_const, Nat.reduceLT, r1.ld, Nat.zero_add, List.getElem?_cons_zero, List.getElem?_cons_succ, Cells.len hy1.f, Cells.len hrw, r_rem z1, r_rem z2, r_quo z8, quo8 w1, m1, m2]
  obtain ⟨F1, V1, S1, g2, ey2, hy2, m2'⟩ := yard_c (n := n) (h := g1) (by omega) (by omega) (by omega) hy1 hT
  have n2 := m2'.next
  have u2 := m2'.up
  have f2 := m2'.floor
  have en2 := needs_c (n := n) (h := g2) (by omega) (by omega) hy2 hT (one : Int) (fld : Int) (a2 : Int)
  obtain ⟨F2, V2, S2, g3, ey3, hy3, m3⟩ := yard_c (n := n) (h := g2) (by omega) (by omega) (by omega) (hy1.mono m2'.sub) hT
  have n3 := m3.next
  have u3 := m3.up
  have f3 := m3.floor
  have en3 := needs_c (n := n) (h := g3) (by omega) (by omega) hy3 hT (one : Int) (fld : Int) ((a2 : Int) + 1)
  have s2 : Sub All g1 g2 := m2'.sub
  have s3 : Sub All g1 g3 := m2'.sub.trans m3.sub
  have w2x := (hx1.row.mono s2).whole (n := 3) rfl
  have w3x := (hx1.row.mono s3).whole (n := 3) rfl
  obtain ⟨F3, V3, S3, g4, ey4, hy4, m4⟩ := yard_c (n := n) (h := g3) (by omega) (by omega) (by omega) (hy1.mono s3) hT
  have n4 := m4.next
  have u4' := m4.up
  have f4 := m4.floor
  obtain ⟨bv, g5, eb5, m5, hb5⟩ := boundsV_c (n := n) (h := g4) (by omega) (by omega) (by omega) hy4 hT
  have n5 := m5.next
  have u5 := m5.up
  have f5 := m5.floor
  have s5 : Sub All g1 g5 := s3.trans (m4.sub.trans m5.sub)
  have w5 := (hx1.row.mono s5).whole (n := 3) rfl
  have r5 := hx1.row.mono s5
  have haw := awake_c (n := n) (h := g5) (by omega)
  have e2 := needsV_in hf hov hof (b := (a2 : Int)) ⟨by omega, by omega⟩
  have e3 := needsV_in hf hov hof (b := (a2 : Int) + 1) ⟨by omega, by omega⟩
  have hp3 : ¬ 0 ≤ findFrom (Enough Y one fld ((a2 : Int) + 1) (truths Y)) 10 0 := fun e => by
    obtain ⟨k, k1, k2⟩ := findFrom_iff.1 e
    exact hp (findFrom_iff.2 ⟨k, k1, enough_less k2⟩)
  rw [if_neg he, if_neg hp] at e2
  rw [if_neg he, if_neg hp3] at e3
  rw [e2] at en2
  rw [e3] at en3
  rcases hb5 with ⟨h0, _⟩ | ⟨_, hn0, rfl⟩ | ⟨_, _, bl, rfl, hbl⟩
  · exact absurd hf h0
  · exact absurd hn0 he
  · simp only [rn0, rn1, rn2, rn3, rn4, rn5, rn6, rn7, rn8, if_true, if_false, Nat.le_refl, true_and, and_true, decide_true, decide_false, Bool.not_true, Bool.not_false, reduceIte, Nat.reduceEqDiff, Nat.reduceAdd, Nat.reduceMul, Nat.reduceSub, Nat.reduceLeDiff, Nat.reduceLT, Int.reduceEq, p_conv8, r_8 w1, r_8 w2, valN_tmp, valN_const, Nat.reduceLT, x1, ey2, en2, w2x, ey3, hwb, en3, w3x, ey4, eb5, ex0, ex1, haw]
theorem needed_m0 (hn : 10090 ≤ n) (hr : h.next + 3000000 < far) (hfl : h.floor ≤ h.next) {fv vv sv : Value} {Y : MY} (hy : YardR h fv vv sv Y) (hT : Thin Y) (hf : faultN Y = 0) (hnf : 0 < Y.nf) (hnv : 0 < Y.nv) {a1 a2 one fld : Nat} (w1 : a1 < 256) (w2 : a2 < 256) (hone : one = a1 % Y.nv) (hfld : fld = a1 / 8 % Y.nf) (he : truths Y ≠ []) {k : Nat} (hk : k < 10) (hen : Enough Y one fld (a2 : Int) (truths Y) k) (hmin : ∀ j, j < k → ¬ Enough Y one fld (a2 : Int) (truths Y) j) (e2 : needsV Y (one : Int) (fld : Int) (a2 : Int) = ((k : Int), 0)) {m : Int} (hmk : ¬ m < (k : Int)) (e3 : needsV Y (one : Int) (fld : Int) ((a2 : Int) + 1) = (m, 0)) :
    ∃ v h', call n (.func (.func 14) #[] #[]) [.agg ⟨[fv, vv, sv]⟩, .int .u8 (a1 : Int), .int .u8 (a2 : Int)] h = some (v, h') ∧ v = .bool true := by
  obtain ⟨n, rfl⟩ : ∃ p, n = p + 1 := ⟨n - 1, by omega⟩
  refine call_any0 fok14 rfl rfl (by simp) ?_
  simp only [s14, W_seq, W_ops]
  refine ops_box (cs := [fv, vv, sv]) (by omega) rfl hy.one fun g1 hx1 => ?_
  have n1 := hx1.next
  have f1 := hx1.floor
  have hy1 := hy.mono hx1.sub
  have x1 := hx1.row.whole (n := 3) rfl
  have r1 := hx1.row
  have hrd := ready_c (n := n) (h := g1) (by omega) (by omega) hy1
  have hrd' : decide (Thin Y ∧ faultN Y = 0) = true := decide_eq_true ⟨hT, hf⟩
  rw [hrd'] at hrd
  obtain ⟨rr, hrw, hq⟩ := hy1.v
  have z1 : ¬ (Y.nf : Int) = 0 := by omega
  have z2 : ¬ (Y.nv : Int) = 0 := by omega
  have z8 : ¬ (8 : Int) = 0 := by decide
  have hov : one < Y.nv := by rw [hone]; exact Nat.mod_lt _ hnv
  have hof : fld < Y.nf := by rw [hfld]; exact Nat.mod_lt _ hnf
  have m1 : (a1 : Int).tmod (Y.nv : Int) = (one : Int) := by rw [hone]; rfl
  have m2 : ((a1 / 8 : Nat) : Int).tmod (Y.nf : Int) = (fld : Int) := by rw [hfld]; rfl
  have hwb : wrapF .i64 ((a2 : Int) + 1) = (a2 : Int) + 1 := wrap_in (by omega) (by omega)
  simp only [rn0, rn1, rn2, rn3, rn4, rn5, rn6, rn7, rn8, if_true, if_false, Nat.le_refl, true_and, and_true, decide_true, decide_false, Bool.not_true, Bool.not_false, reduceIte, Nat.reduceEqDiff, Nat.reduceAdd, Nat.reduceMul, Nat.reduceSub, Nat.reduceLeDiff, Nat.reduceLT, x1, hrd, r1.ld, Nat.zero_add, List.getElem?_cons_zero, List.getElem?_cons_succ, Cells.len hy1.f, Cells.len hrw, z1, z2]
  refine W_draw All ?_
  simp only [rn0, rn1, rn2, rn3, rn4, rn5, rn6, rn7, rn8, if_true, if_false, Nat.le_refl, true_and, and_true, decide_true, decide_false, Bool.not_true, Bool.not_false, reduceIte, Nat.reduceEqDiff, Nat.reduceAdd, Nat.reduceMul, Nat.reduceSub, Nat.reduceLeDiff, Nat.reduceLT, p_conv8, r_8 w1, r_8 w2, valN_tmp, valN_const, Nat.reduceLT, r1.ld, Nat.zero_add, List.getElem?_cons_zero, List.getElem?_cons_succ, Cells.len hy1.f, Cells.len hrw, r_rem z1, r_rem z2, r_quo z8, quo8 w1, m1, m2]
  obtain ⟨F1, V1, S1, g2, ey2, hy2, m2'⟩ := yard_c (n := n) (h := g1) (by omega) (by omega) (by omega) hy1 hT
  have n2 := m2'.next
  have u2 := m2'.up
  have f2 := m2'.floor
  have en2 := needs_c (n := n) (h := g2) (by omega) (by omega) hy2 hT (one : Int) (fld : Int) (a2 : Int)
  obtain ⟨F2, V2, S2, g3, ey3, hy3, m3⟩ := yard_c (n := n) (h := g2) (by omega) (by omega) (by omega) (hy1.mono m2'.sub) hT
  have n3 := m3.next
  have u3 := m3.up
  have f3 := m3.floor
  have en3 := needs_c (n := n) (h := g3) (by omega) (by omega) hy3 hT (one : Int) (fld : Int) ((a2 : Int) + 1)
  have s2 : Sub All g1 g2 := m2'.sub
  have s3 : Sub All g1 g3 := m2'.sub.trans m3.sub
  have w2x := (hx1.row.mono s2).whole (n := 3) rfl
  have w3x := (hx1.row.mono s3).whole (n := 3) rfl
  obtain ⟨F3, V3, S3, g4, ey4, hy4, m4⟩ := yard_c (n := n) (h := g3) (by omega) (by omega) (by omega) (hy1.mono s3) hT
  have n4 := m4.next
  have u4' := m4.up
  have f4 := m4.floor
  obtain ⟨bv, g5, eb5, m5, hb5⟩ := boundsV_c (n := n) (h := g4) (by omega) (by omega) (by omega) hy4 hT
  have n5 := m5.next
  have u5 := m5.up
  have f5 := m5.floor
  have s5 : Sub All g1 g5 := s3.trans (m4.sub.trans m5.sub)
  have w5 := (hx1.row.mono s5).whole (n := 3) rfl
  have r5 := hx1.row.mono s5
  have haw := awake_c (n := n) (h := g5) (by omega)
  rw [e2] at en2
  rw [e3] at en3
  rcases hb5 with ⟨h0, _⟩ | ⟨_, hn0, rfl⟩ | ⟨_, _, bl, rfl, hbl⟩
  · exact absurd hf h0
  · exact absurd hn0 he
  obtain ⟨rr5, hrw5, hq5⟩ := (hy1.mono s5).v
  have l1 : loadCell g5 (ptrO bl 2 one 0) = some (.int .i64 (loN (fun t => blueN t (Y.q one) Y.nf) (truths Y))) := Cells.ld hbl hov (by omega)
  have hlo : decide ((a2 : Int) ≤ loN (fun t => blueN t (Y.q one) Y.nf) (truths Y)) = decide ((k : Int) = 0) := decide_eq_decide.2 (by
    rw [le_loN he]
    constructor
    · intro hh
      apply Classical.byContradiction
      intro hk0
      exact hmin 0 (by omega) fun t ht => by have := hh t ht; unfold blueWith; simpa using this
    · intro hk0 t ht
      have hk0 : k = 0 := by omega
      subst hk0
      have := hen t ht
      unfold blueWith at this
      simpa using this)
  have hin := in_c (n := n) (h := g5) (by omega) (k : Int) 0 9
  have hin' : decide (0 ≤ (k : Int) ∧ (k : Int) ≤ 9) = true := decide_eq_true (by omega)
  rw [hin'] at hin
  obtain ⟨l, g6, et6, hl6, m6⟩ := truthsRef_c (n := n) (h := g5) (by omega) (by omega) (by omega) (hy1.mono s5) hf
  have n6 := m6.next
  have u6 := m6.up
  have f6 := m6.floor
  have s6 : Sub All g1 g6 := s5.trans m6.sub
  have w6 := (hx1.row.mono s6).whole (n := 3) rfl
  have hy6 := hy1.mono s6
  have haw6 := awake_c (n := n) (h := g6) (by omega)
  change TruthsL g6 l Y.nf (refTruths Y) at hl6
  obtain ⟨rl, q1, q2⟩ := hl6
  obtain ⟨b0, hb0⟩ : ∃ b, b = decide ((k : Int) = 0) := ⟨_, rfl⟩
  simp only [rn0, rn1, rn2, rn3, rn4, rn5, rn6, rn7, rn8, if_true, if_false, Nat.le_refl, true_and, and_true, decide_true, decide_false, Bool.not_true, Bool.not_false, reduceIte, Nat.reduceEqDiff, Nat.reduceAdd, Nat.reduceMul, Nat.reduceSub, Nat.reduceLeDiff, Nat.reduceLT, Int.reduceEq, p_conv8, r_8 w1, r_8 w2, valN_tmp, valN_const, Nat.reduceLT, x1, ey2, en2, w2x, ey3, hwb, en3, w3x, ey4, eb5, ex0, ex1, r5.ld, Nat.zero_add, List.getElem?_cons_zero, List.getElem?_cons_succ, Cells.len hbl, Cells.len hrw5, hmk, Int.lt_irrefl, hin, Cells.idx hbl hov, Cells.fld hbl hov, l1, hlo, ← hb0, x_binA, binA_neqB, p_neqB u4, rBB, neq_self, w5, et6]
  obtain ⟨z5, z6, z7⟩ := (good_of hf).sz
  have hlen := refTruths_len hf
  obtain ⟨P, hP⟩ : ∃ P : (Nat → Int) → Prop, P = (fun t => blueN t (Y.q one) Y.nf + ((k : Int) - 1) * t fld < (a2 : Int)) := ⟨_, rfl⟩
  refine W_loop (refTruths Y).length (fun i f g ms => g = g6 ∧ ms = [] ∧ f 2 = .int .u8 (a2 : Int) ∧ f 3 = .pointer (some ⟨h.next, 0, none⟩) ∧ f 7 = .int .i64 (one : Int) ∧ f 8 = .int .i64 (fld : Int) ∧ f 9 = .int .i64 (k : Int) ∧ f 15 = l ∧ f 17 = .int .i64 (i : Int) ∧ f 16 = .bool (b0 || decide (Seen (refTruths Y) P i))) (by simp; omega) ?_ ?_ ?_
  · simp only [rn0, rn1, rn2, rn3, rn4, rn5, rn6, rn7, rn8, if_true, if_false, Nat.le_refl, true_and, and_true, decide_true, decide_false, Bool.not_true, Bool.not_false, reduceIte, Nat.reduceEqDiff, Nat.reduceAdd, Nat.reduceMul, Nat.reduceSub, Nat.reduceLeDiff, Nat.reduceLT, seen_zero, Bool.or_false]
    first | rfl | (rw [hb0])
  · rintro i f g ms hi ⟨rfl, rfl, p2, p3, p7, p8, p9, p15, p17, p16⟩
    have hi' : (i : Int) < ((refTruths Y).length : Int) := by omega
    have hw : wrapF .i64 ((i : Int) + 1) = ((i + 1 : Nat) : Int) := by rw [wrap_in (by omega) (by omega)]; rfl
    have q2i : Ints g (rl i) Y.nf ((refTruths Y).getD i fun _ => 0) := q2 i hi
    have hti : (refTruths Y).getD i (fun _ => 0) ∈ truths Y := (refTruths_mem hf).1 (refTruths_at hi)
    have hen' := hen _ hti
    obtain ⟨v1, v2⟩ := (good_of hf).v one hov
    have hrg := refTruths_range hf (refTruths_at hi)
    have eb := blue_c (n := n) (h := g) (at_ := one) (nb := Y.nf) (b := (refTruths Y).getD i fun _ => 0) (by omega) (by omega) hy6 q2i (by omega) hov (by omega) hrg (fun j hj => v2 j (by omega))
    obtain ⟨t, ht⟩ : ∃ t, t = (refTruths Y).getD i fun _ => 0 := ⟨_, rfl⟩
    rw [← ht] at q2i eb hrg hen'
    obtain ⟨c1, c2⟩ := blueN_bound (b := t) (q := Y.q one) (n := Y.nf) (by omega) hrg (fun j hj => v2 j (by omega)) Y.nf (Nat.le_refl _)
    obtain ⟨t1, t2⟩ := hrg fld hof
    have d1 : (0 : Int) ≤ (k : Int) * t fld := Int.mul_nonneg (by omega) t1
    have d2 : (k : Int) * t fld ≤ 10 * 20 := Int.mul_le_mul (by omega) t2 t1 (by omega)
    have d3 : ((k : Int) - 1) * t fld = (k : Int) * t fld - t fld := by rw [Int.sub_mul, Int.one_mul]
    have hw1 : wrapF .i64 ((k : Int) * t fld) = k * t fld := wrap_in (by omega) (by omega)
    have hw2 : wrapF .i64 (blueN t (Y.q one) Y.nf + k * t fld) = blueN t (Y.q one) Y.nf + k * t fld := wrap_in (by omega) (by omega)
    have hw3 : wrapF .i64 ((k : Int) - 1) = (k : Int) - 1 := wrap_in (by omega) (by omega)
    have hw4 : wrapF .i64 (((k : Int) - 1) * t fld) = ((k : Int) - 1) * t fld := wrap_in (by omega) (by omega)
    have hw5 : wrapF .i64 (blueN t (Y.q one) Y.nf + ((k : Int) - 1) * t fld) = blueN t (Y.q one) Y.nf + ((k : Int) - 1) * t fld := wrap_in (by omega) (by omega)
    have hge : ¬ blueN t (Y.q one) Y.nf + k * t fld < (a2 : Int) := by unfold blueWith at hen'; omega
    have hle := Cells.ld q2i hof Nat.zero_lt_one
    simp only [rn0, rn1, rn2, rn3, rn4, rn5, rn6, rn7, rn8, if_true, if_false, Nat.le_refl, true_and, and_true, decide_true, decide_false, Bool.not_true, Bool.not_false, reduceIte, Nat.reduceEqDiff, Nat.reduceAdd, Nat.reduceMul, Nat.reduceSub, Nat.reduceLeDiff, Nat.reduceLT, p2, p3, p7, p8, p9, p15, p16, p17, Cells.len q1, hi']
    refine W_draw All ?_
    simp only [rn0, rn1, rn2, rn3, rn4, rn5, rn6, rn7, rn8, if_true, if_false, Nat.le_refl, true_and, and_true, decide_true, decide_false, Bool.not_true, Bool.not_false, reduceIte, Nat.reduceEqDiff, Nat.reduceAdd, Nat.reduceMul, Nat.reduceSub, Nat.reduceLeDiff, Nat.reduceLT, p2, p3, p7, p8, p9, p15, p16, p17, w6, Cells.idx q1 hi, Cells.ld q1 hi Nat.zero_lt_one, eb, p_conv8, r_8 w2, valN_tmp, Nat.reduceLT, Cells.idx q2i hof, hle, hw1, hw2, hge]
    have hD : (b0 || decide (Seen (refTruths Y) P i)) = true ∨ (b0 || decide (Seen (refTruths Y) P i)) = false := by cases (b0 || decide (Seen (refTruths Y) P i)) <;> simp
    rcases hD with hD | hD
    · have hD' : (b0 || decide (Seen (refTruths Y) P (i + 1))) = true := by
        rw [Bool.or_eq_true] at hD ⊢
        rcases hD with hD | hD
        · exact Or.inl hD
        · obtain ⟨j, j1, j2⟩ := of_decide_eq_true hD
          exact Or.inr (decide_eq_true ⟨j, by omega, j2⟩)
      simp only [rn0, rn1, rn2, rn3, rn4, rn5, rn6, rn7, rn8, if_true, if_false, Nat.le_refl, true_and, and_true, decide_true, decide_false, Bool.not_true, Bool.not_false, reduceIte, Nat.reduceEqDiff, Nat.reduceAdd, Nat.reduceMul, Nat.reduceSub, Nat.reduceLeDiff, Nat.reduceLT, p2, p3, p7, p8, p9, p15, p16, p17, hD, hD', hw]
    · by_cases hp : P t
      · have hD' : (b0 || decide (Seen (refTruths Y) P (i + 1))) = true := by rw [seen_yes (by rw [← ht]; exact hp), Bool.or_true]
        have hp' : blueN t (Y.q one) Y.nf + ((k : Int) - 1) * t fld < (a2 : Int) := by rw [hP] at hp; exact hp
        simp only [rn0, rn1, rn2, rn3, rn4, rn5, rn6, rn7, rn8, if_true, if_false, Nat.le_refl, true_and, and_true, decide_true, decide_false, Bool.not_true, Bool.not_false, reduceIte, Nat.reduceEqDiff, Nat.reduceAdd, Nat.reduceMul, Nat.reduceSub, Nat.reduceLeDiff, Nat.reduceLT, p2, p3, p7, p8, p9, p15, p16, p17, hD, hD', hw, Cells.idx q1 hi, Cells.ld q1 hi Nat.zero_lt_one, p_conv8, r_8 w2, valN_tmp, Nat.reduceLT, Cells.idx q2i hof, hle, hw3, hw4, hw5, hp']
      · have hD' : (b0 || decide (Seen (refTruths Y) P (i + 1))) = false := by rw [seen_no (by rw [← ht]; exact hp)]; exact hD
        have hp' : ¬ blueN t (Y.q one) Y.nf + ((k : Int) - 1) * t fld < (a2 : Int) := by rw [hP] at hp; exact hp
        simp only [rn0, rn1, rn2, rn3, rn4, rn5, rn6, rn7, rn8, if_true, if_false, Nat.le_refl, true_and, and_true, decide_true, decide_false, Bool.not_true, Bool.not_false, reduceIte, Nat.reduceEqDiff, Nat.reduceAdd, Nat.reduceMul, Nat.reduceSub, Nat.reduceLeDiff, Nat.reduceLT, p2, p3, p7, p8, p9, p15, p16, p17, hD, hD', hw, Cells.idx q1 hi, Cells.ld q1 hi Nat.zero_lt_one, p_conv8, r_8 w2, valN_tmp, Nat.reduceLT, Cells.idx q2i hof, hle, hw3, hw4, hw5, hp']
  · rintro f g ms ⟨rfl, rfl, p2, p3, p7, p8, p9, p15, p17, p16⟩
    have hD : (b0 || decide (Seen (refTruths Y) P (refTruths Y).length)) = true := by
      by_cases hk0 : k = 0
      · have : b0 = true := by rw [hb0]; exact decide_eq_true (by omega)
        rw [this]; rfl
      · have hno := hmin (k - 1) (by omega)
        have : decide (Seen (refTruths Y) P (refTruths Y).length) = true := seen_all hf (by
          apply Classical.byContradiction
          intro hx
          exact hno fun t ht => by
            apply Classical.byContradiction
            intro hlt
            refine hx ⟨t, ht, ?_⟩
            rw [hP]
            unfold blueWith at hlt
            have hkk : ((k - 1 : Nat) : Int) = (k : Int) - 1 := by omega
            rw [hkk] at hlt
            show blueN t (Y.q one) Y.nf + ((k : Int) - 1) * t fld < (a2 : Int)
            omega)
        rw [this, Bool.or_true]
    rw [hD] at p16
    simp only [rn0, rn1, rn2, rn3, rn4, rn5, rn6, rn7, rn8, if_true, if_false, Nat.le_refl, true_and, and_true, decide_true, decide_false, Bool.not_true, Bool.not_false, reduceIte, Nat.reduceEqDiff, Nat.reduceAdd, Nat.reduceMul, Nat.reduceSub, Nat.reduceLeDiff, Nat.reduceLT, p2, p3, p7, p8, p9, p15, p16, p17, Cells.len q1, Int.lt_irrefl, haw6]
theorem needed_m1 (hn : 10090 ≤ n) (hr : h.next + 3000000 < far) (hfl : h.floor ≤ h.next) {fv vv sv : Value} {Y : MY} (hy : YardR h fv vv sv Y) (hT : Thin Y) (hf : faultN Y = 0) (hnf : 0 < Y.nf) (hnv : 0 < Y.nv) {a1 a2 one fld : Nat} (w1 : a1 < 256) (w2 : a2 < 256) (hone : one = a1 % Y.nv) (hfld : fld = a1 / 8 % Y.nf) (he : truths Y ≠ []) {k : Nat} (hk : k < 10) (hen : Enough Y one fld (a2 : Int) (truths Y) k) (hmin : ∀ j, j < k → ¬ Enough Y one fld (a2 : Int) (truths Y) j) (e2 : needsV Y (one : Int) (fld : Int) (a2 : Int) = ((k : Int), 0)) (e3 : needsV Y (one : Int) (fld : Int) ((a2 : Int) + 1) = (0, 10)) :
    ∃ v h', call n (.func (.func 14) #[] #[]) [.agg ⟨[fv, vv, sv]⟩, .int .u8 (a1 : Int), .int .u8 (a2 : Int)] h = some (v, h') ∧ v = .bool true := by
  obtain ⟨n, rfl⟩ : ∃ p, n = p + 1 := ⟨n - 1, by omega⟩
  refine call_any0 fok14 rfl rfl (by simp) ?_
  simp only [s14, W_seq, W_ops]
  refine ops_box (cs := [fv, vv, sv]) (by omega) rfl hy.one fun g1 hx1 => ?_
  have n1 := hx1.next
  have f1 := hx1.floor
  have hy1 := hy.mono hx1.sub
  have x1 := hx1.row.whole (n := 3) rfl
  have r1 := hx1.row
  have hrd := ready_c (n := n) (h := g1) (by omega) (by omega) hy1
  have hrd' : decide (Thin Y ∧ faultN Y = 0) = true := decide_eq_true ⟨hT, hf⟩
  rw [hrd'] at hrd
  obtain ⟨rr, hrw, hq⟩ := hy1.v
  have z1 : ¬ (Y.nf : Int) = 0 := by omega
  have z2 : ¬ (Y.nv : Int) = 0 := by omega
  have z8 : ¬ (8 : Int) = 0 := by decide
  have hov : one < Y.nv := by rw [hone]; exact Nat.mod_lt _ hnv
  have hof : fld < Y.nf := by rw [hfld]; exact Nat.mod_lt _ hnf
  have m1 : (a1 : Int).tmod (Y.nv : Int) = (one : Int) := by rw [hone]; rfl
  have m2 : ((a1 / 8 : Nat) : Int).tmod (Y.nf : Int) = (fld : Int) := by rw [hfld]; rfl
  have hwb : wrapF .i64 ((a2 : Int) + 1) = (a2 : Int) + 1 := wrap_in (by omega) (by omega)
  simp only [rn0, rn1, rn2, rn3, rn4, rn5, rn6, rn7, rn8, if_true, if_false, Nat.le_refl, true_and, and_true, decide_true, decide_false, Bool.not_true, Bool.not_false, reduceIte, Nat.reduceEqDiff, Nat.reduceAdd, Nat.reduceMul, Nat.reduceSub, Nat.reduceLeDiff, Nat.reduceLT, x1, hrd, r1.ld, Nat.zero_add, List.getElem?_cons_zero, List.getElem?_cons_succ, Cells.len hy1.f, Cells.len hrw, z1, z2]
  refine W_draw All ?_
  simp only [rn0, rn1, rn2, rn3, rn4, rn5, rn6, rn7, rn8, if_true, if_false, Nat.le_refl, true_and, and_true, decide_true, decide_false, Bool.not_true, Bool.not_false, reduceIte, Nat.reduceEqDiff, Nat.reduceAdd, Nat.reduceMul, Nat.reduceSub, Nat.reduceLeDiff, Nat.reduceLT, p_conv8, r_8 w1, r_8 w2, valN_tmp, valN_const, Nat.reduceLT, r1.ld, Nat.zero_add, List.getElem?_cons_zero, List.getElem?_cons_succ, Cells.len hy1.f, Cells.len hrw, r_rem z1, r_rem z2, r_quo z8, quo8 w1, m1, m2]
  obtain ⟨F1, V1, S1, g2, ey2, hy2, m2'⟩ := yard_c (n := n) (h := g1) (by omega) (by omega) (by omega) hy1 hT
  have n2 := m2'.next
  have u2 := m2'.up
  have f2 := m2'.floor
  have en2 := needs_c (n := n) (h := g2) (by omega) (by omega) hy2 hT (one : Int) (fld : Int) (a2 : Int)
  obtain ⟨F2, V2, S2, g3, ey3, hy3, m3⟩ := yard_c (n := n) (h := g2) (by omega) (by omega) (by omega) (hy1.mono m2'.sub) hT
  have n3 := m3.next
  have u3 := m3.up
  have f3 := m3.floor
  have en3 := needs_c (n := n) (h := g3) (by omega) (by omega) hy3 hT (one : Int) (fld : Int) ((a2 : Int) + 1)
  have s2 : Sub All g1 g2 := m2'.sub
  have s3 : Sub All g1 g3 := m2'.sub.trans m3.sub
  have w2x := (hx1.row.mono s2).whole (n := 3) rfl
  have w3x := (hx1.row.mono s3).whole (n := 3) rfl
  obtain ⟨F3, V3, S3, g4, ey4, hy4, m4⟩ := yard_c (n := n) (h := g3) (by omega) (by omega) (by omega) (hy1.mono s3) hT
  have n4 := m4.next
  have u4' := m4.up
  have f4 := m4.floor
  obtain ⟨bv, g5, eb5, m5, hb5⟩ := boundsV_c (n := n) (h := g4) (by omega) (by omega) (by omega) hy4 hT
  have n5 := m5.next
  have u5 := m5.up
  have f5 := m5.floor
  have s5 : Sub All g1 g5 := s3.trans (m4.sub.trans m5.sub)
  have w5 := (hx1.row.mono s5).whole (n := 3) rfl
  have r5 := hx1.row.mono s5
  have haw := awake_c (n := n) (h := g5) (by omega)
  rw [e2] at en2
  rw [e3] at en3
  rcases hb5 with ⟨h0, _⟩ | ⟨_, hn0, rfl⟩ | ⟨_, _, bl, rfl, hbl⟩
  · exact absurd hf h0
  · exact absurd hn0 he
  obtain ⟨rr5, hrw5, hq5⟩ := (hy1.mono s5).v
  have l1 : loadCell g5 (ptrO bl 2 one 0) = some (.int .i64 (loN (fun t => blueN t (Y.q one) Y.nf) (truths Y))) := Cells.ld hbl hov (by omega)
  have hlo : decide ((a2 : Int) ≤ loN (fun t => blueN t (Y.q one) Y.nf) (truths Y)) = decide ((k : Int) = 0) := decide_eq_decide.2 (by
    rw [le_loN he]
    constructor
    · intro hh
      apply Classical.byContradiction
      intro hk0
      exact hmin 0 (by omega) fun t ht => by have := hh t ht; unfold blueWith; simpa using this
    · intro hk0 t ht
      have hk0 : k = 0 := by omega
      subst hk0
      have := hen t ht
      unfold blueWith at this
      simpa using this)
  have hin := in_c (n := n) (h := g5) (by omega) (k : Int) 0 9
  have hin' : decide (0 ≤ (k : Int) ∧ (k : Int) ≤ 9) = true := decide_eq_true (by omega)
  rw [hin'] at hin
  obtain ⟨l, g6, et6, hl6, m6⟩ := truthsRef_c (n := n) (h := g5) (by omega) (by omega) (by omega) (hy1.mono s5) hf
  have n6 := m6.next
  have u6 := m6.up
  have f6 := m6.floor
  have s6 : Sub All g1 g6 := s5.trans m6.sub
  have w6 := (hx1.row.mono s6).whole (n := 3) rfl
  have hy6 := hy1.mono s6
  have haw6 := awake_c (n := n) (h := g6) (by omega)
  change TruthsL g6 l Y.nf (refTruths Y) at hl6
  obtain ⟨rl, q1, q2⟩ := hl6
  obtain ⟨b0, hb0⟩ : ∃ b, b = decide ((k : Int) = 0) := ⟨_, rfl⟩
  simp only [rn0, rn1, rn2, rn3, rn4, rn5, rn6, rn7, rn8, if_true, if_false, Nat.le_refl, true_and, and_true, decide_true, decide_false, Bool.not_true, Bool.not_false, reduceIte, Nat.reduceEqDiff, Nat.reduceAdd, Nat.reduceMul, Nat.reduceSub, Nat.reduceLeDiff, Nat.reduceLT, Int.reduceEq, p_conv8, r_8 w1, r_8 w2, valN_tmp, valN_const, Nat.reduceLT, x1, ey2, en2, w2x, ey3, hwb, en3, w3x, ey4, eb5, ex0, ex1, r5.ld, Nat.zero_add, List.getElem?_cons_zero, List.getElem?_cons_succ, Cells.len hbl, Cells.len hrw5, Int.lt_irrefl, hin, Cells.idx hbl hov, Cells.fld hbl hov, l1, hlo, ← hb0, x_binA, binA_neqB, p_neqB u4, rBB, neq_self, w5, et6]
  obtain ⟨z5, z6, z7⟩ := (good_of hf).sz
  have hlen := refTruths_len hf
  obtain ⟨P, hP⟩ : ∃ P : (Nat → Int) → Prop, P = (fun t => blueN t (Y.q one) Y.nf + ((k : Int) - 1) * t fld < (a2 : Int)) := ⟨_, rfl⟩
  refine W_loop (refTruths Y).length (fun i f g ms => g = g6 ∧ ms = [] ∧ f 2 = .int .u8 (a2 : Int) ∧ f 3 = .pointer (some ⟨h.next, 0, none⟩) ∧ f 7 = .int .i64 (one : Int) ∧ f 8 = .int .i64 (fld : Int) ∧ f 9 = .int .i64 (k : Int) ∧ f 15 = l ∧ f 17 = .int .i64 (i : Int) ∧ f 16 = .bool (b0 || decide (Seen (refTruths Y) P i))) (by simp; omega) ?_ ?_ ?_
  · simp only [rn0, rn1, rn2, rn3, rn4, rn5, rn6, rn7, rn8, if_true, if_false, Nat.le_refl, true_and, and_true, decide_true, decide_false, Bool.not_true, Bool.not_false, reduceIte, Nat.reduceEqDiff, Nat.reduceAdd, Nat.reduceMul, Nat.reduceSub, Nat.reduceLeDiff, Nat.reduceLT, seen_zero, Bool.or_false]
    first | rfl | (rw [hb0])
  · rintro i f g ms hi ⟨rfl, rfl, p2, p3, p7, p8, p9, p15, p17, p16⟩
    have hi' : (i : Int) < ((refTruths Y).length : Int) := by omega
    have hw : wrapF .i64 ((i : Int) + 1) = ((i + 1 : Nat) : Int) := by rw [wrap_in (by omega) (by omega)]; rfl
    have q2i : Ints g (rl i) Y.nf ((refTruths Y).getD i fun _ => 0) := q2 i hi
    have hti : (refTruths Y).getD i (fun _ => 0) ∈ truths Y := (refTruths_mem hf).1 (refTruths_at hi)
    have hen' := hen _ hti
    obtain ⟨v1, v2⟩ := (good_of hf).v one hov
    have hrg := refTruths_range hf (refTruths_at hi)
    have eb := blue_c (n := n) (h := g) (at_ := one) (nb := Y.nf) (b := (refTruths Y).getD i fun _ => 0) (by omega) (by omega) hy6 q2i (by omega) hov (by omega) hrg (fun j hj => v2 j (by omega))
    obtain ⟨t, ht⟩ : ∃ t, t = (refTruths Y).getD i fun _ => 0 := ⟨_, rfl⟩
    rw [← ht] at q2i eb hrg hen'
    obtain ⟨c1, c2⟩ := blueN_bound (b := t) (q := Y.q one) (n := Y.nf) (by omega) hrg (fun j hj => v2 j (by omega)) Y.nf (Nat.le_refl _)
    obtain ⟨t1, t2⟩ := hrg fld hof
    have d1 : (0 : Int) ≤ (k : Int) * t fld := Int.mul_nonneg (by omega) t1
    have d2 : (k : Int) * t fld ≤ 10 * 20 := Int.mul_le_mul (by omega) t2 t1 (by omega)
    have d3 : ((k : Int) - 1) * t fld = (k : Int) * t fld - t fld := by rw [Int.sub_mul, Int.one_mul]
    have hw1 : wrapF .i64 ((k : Int) * t fld) = k * t fld := wrap_in (by omega) (by omega)
    have hw2 : wrapF .i64 (blueN t (Y.q one) Y.nf + k * t fld) = blueN t (Y.q one) Y.nf + k * t fld := wrap_in (by omega) (by omega)
    have hw3 : wrapF .i64 ((k : Int) - 1) = (k : Int) - 1 := wrap_in (by omega) (by omega)
    have hw4 : wrapF .i64 (((k : Int) - 1) * t fld) = ((k : Int) - 1) * t fld := wrap_in (by omega) (by omega)
    have hw5 : wrapF .i64 (blueN t (Y.q one) Y.nf + ((k : Int) - 1) * t fld) = blueN t (Y.q one) Y.nf + ((k : Int) - 1) * t fld := wrap_in (by omega) (by omega)
    have hge : ¬ blueN t (Y.q one) Y.nf + k * t fld < (a2 : Int) := by unfold blueWith at hen'; omega
    have hle := Cells.ld q2i hof Nat.zero_lt_one
    simp only [rn0, rn1, rn2, rn3, rn4, rn5, rn6, rn7, rn8, if_true, if_false, Nat.le_refl, true_and, and_true, decide_true, decide_false, Bool.not_true, Bool.not_false, reduceIte, Nat.reduceEqDiff, Nat.reduceAdd, Nat.reduceMul, Nat.reduceSub, Nat.reduceLeDiff, Nat.reduceLT, p2, p3, p7, p8, p9, p15, p16, p17, Cells.len q1, hi']
    refine W_draw All ?_
    simp only [rn0, rn1, rn2, rn3, rn4, rn5, rn6, rn7, rn8, if_true, if_false, Nat.le_refl, true_and, and_true, decide_true, decide_false, Bool.not_true, Bool.not_false, reduceIte, Nat.reduceEqDiff, Nat.reduceAdd, Nat.reduceMul, Nat.reduceSub, Nat.reduceLeDiff, Nat.reduceLT, p2, p3, p7, p8, p9, p15, p16, p17, w6, Cells.idx q1 hi, Cells.ld q1 hi Nat.zero_lt_one, eb, p_conv8, r_8 w2, valN_tmp, Nat.reduceLT, Cells.idx q2i hof, hle, hw1, hw2, hge]
    have hD : (b0 || decide (Seen (refTruths Y) P i)) = true ∨ (b0 || decide (Seen (refTruths Y) P i)) = false := by cases (b0 || decide (Seen (refTruths Y) P i)) <;> simp
    rcases hD with hD | hD
    · have hD' : (b0 || decide (Seen (refTruths Y) P (i + 1))) = true := by
        rw [Bool.or_eq_true] at hD ⊢
        rcases hD with hD | hD
        · exact Or.inl hD
        · obtain ⟨j, j1, j2⟩ := of_decide_eq_true hD
          exact Or.inr (decide_eq_true ⟨j, by omega, j2⟩)
      simp only [rn0, rn1, rn2, rn3, rn4, rn5, rn6, rn7, rn8, if_true, if_false, Nat.le_refl, true_and, and_true, decide_true, decide_false, Bool.not_true, Bool.not_false, reduceIte, Nat.reduceEqDiff, Nat.reduceAdd, Nat.reduceMul, Nat.reduceSub, Nat.reduceLeDiff, Nat.reduceLT, p2, p3, p7, p8, p9, p15, p16, p17, hD, hD', hw]
    · by_cases hp : P t
      · have hD' : (b0 || decide (Seen (refTruths Y) P (i + 1))) = true := by rw [seen_yes (by rw [← ht]; exact hp), Bool.or_true]
        have hp' : blueN t (Y.q one) Y.nf + ((k : Int) - 1) * t fld < (a2 : Int) := by rw [hP] at hp; exact hp
        simp only [rn0, rn1, rn2, rn3, rn4, rn5, rn6, rn7, rn8, if_true, if_false, Nat.le_refl, true_and, and_true, decide_true, decide_false, Bool.not_true, Bool.not_false, reduceIte, Nat.reduceEqDiff, Nat.reduceAdd, Nat.reduceMul, Nat.reduceSub, Nat.reduceLeDiff, Nat.reduceLT, p2, p3, p7, p8, p9, p15, p16, p17, hD, hD', hw, Cells.idx q1 hi, Cells.ld q1 hi Nat.zero_lt_one, p_conv8, r_8 w2, valN_tmp, Nat.reduceLT, Cells.idx q2i hof, hle, hw3, hw4, hw5, hp']
      · have hD' : (b0 || decide (Seen (refTruths Y) P (i + 1))) = false := by rw [seen_no (by rw [← ht]; exact hp)]; exact hD
        have hp' : ¬ blueN t (Y.q one) Y.nf + ((k : Int) - 1) * t fld < (a2 : Int) := by rw [hP] at hp; exact hp
        simp only [rn0, rn1, rn2, rn3, rn4, rn5, rn6, rn7, rn8, if_true, if_false, Nat.le_refl, true_and, and_true, decide_true, decide_false, Bool.not_true, Bool.not_false, reduceIte, Nat.reduceEqDiff, Nat.reduceAdd, Nat.reduceMul, Nat.reduceSub, Nat.reduceLeDiff, Nat.reduceLT, p2, p3, p7, p8, p9, p15, p16, p17, hD, hD', hw, Cells.idx q1 hi, Cells.ld q1 hi Nat.zero_lt_one, p_conv8, r_8 w2, valN_tmp, Nat.reduceLT, Cells.idx q2i hof, hle, hw3, hw4, hw5, hp']
  · rintro f g ms ⟨rfl, rfl, p2, p3, p7, p8, p9, p15, p17, p16⟩
    have hD : (b0 || decide (Seen (refTruths Y) P (refTruths Y).length)) = true := by
      by_cases hk0 : k = 0
      · have : b0 = true := by rw [hb0]; exact decide_eq_true (by omega)
        rw [this]; rfl
      · have hno := hmin (k - 1) (by omega)
        have : decide (Seen (refTruths Y) P (refTruths Y).length) = true := seen_all hf (by
          apply Classical.byContradiction
          intro hx
          exact hno fun t ht => by
            apply Classical.byContradiction
            intro hlt
            refine hx ⟨t, ht, ?_⟩
            rw [hP]
            unfold blueWith at hlt
            have hkk : ((k - 1 : Nat) : Int) = (k : Int) - 1 := by omega
            rw [hkk] at hlt
            show blueN t (Y.q one) Y.nf + ((k : Int) - 1) * t fld < (a2 : Int)
            omega)
        rw [this, Bool.or_true]
    rw [hD] at p16
    simp only [rn0, rn1, rn2, rn3, rn4, rn5, rn6, rn7, rn8, if_true, if_false, Nat.le_refl, true_and, and_true, decide_true, decide_false, Bool.not_true, Bool.not_false, reduceIte, Nat.reduceEqDiff, Nat.reduceAdd, Nat.reduceMul, Nat.reduceSub, Nat.reduceLeDiff, Nat.reduceLT, p2, p3, p7, p8, p9, p15, p16, p17, Cells.len q1, Int.lt_irrefl, haw6]
theorem needed_c (hn : 10100 ≤ n) (hr : h.next + 3000000 < far) (hfl : h.floor ≤ h.next) {fv vv sv : Value} {Y : MY} (hy : YardR h fv vv sv Y) (a1 : Int) (wf1 : (Lit.int .u8 a1).wf = true) (a2 : Int) (wf2 : (Lit.int .u8 a2).wf = true) :
    ∃ v h', call n (.func (.func 14) #[] #[]) [.agg ⟨[fv, vv, sv]⟩, .int .u8 a1, .int .u8 a2] h = some (v, h') ∧ v = .bool true := by
  obtain ⟨k1, rfl, h1⟩ := wf8 wf1
  obtain ⟨k2, rfl, h2⟩ := wf8 wf2
  by_cases hg : (Thin Y ∧ faultN Y = 0) ∧ 0 < Y.nf ∧ 0 < Y.nv
  · obtain ⟨⟨g1, g2⟩, g3, g4⟩ := hg
    have hov : k1 % Y.nv < Y.nv := Nat.mod_lt _ g4
    have hof : k1 / 8 % Y.nf < Y.nf := Nat.mod_lt _ g3
    by_cases he : truths Y = []
    · exact needed_e (by omega) hr hfl hy g1 g2 g3 g4 h1 h2 rfl rfl he
    have e2 := needsV_in g2 hov hof (b := (k2 : Int)) ⟨by omega, by omega⟩
    have e3 := needsV_in g2 hov hof (b := (k2 : Int) + 1) ⟨by omega, by omega⟩
    by_cases hp : 0 ≤ findFrom (Enough Y (k1 % Y.nv) (k1 / 8 % Y.nf) (k2 : Int) (truths Y)) 10 0
    case neg => exact needed_s (by omega) hr hfl hy g1 g2 g3 g4 h1 h2 rfl rfl he hp
    rw [if_neg he, if_pos hp] at e2
    obtain ⟨k, c1, c2, c3, c4⟩ := findFrom_get hp
    rw [c4] at e2
    by_cases hp3 : 0 ≤ findFrom (Enough Y (k1 % Y.nv) (k1 / 8 % Y.nf) ((k2 : Int) + 1) (truths Y)) 10 0
    · rw [if_neg he, if_pos hp3] at e3
      obtain ⟨m, d1, d2, d3, d4⟩ := findFrom_get hp3
      rw [d4] at e3
      have hkm : k ≤ m := by
        apply Classical.byContradiction
        intro hc
        exact c3 m (by omega) (enough_less d2)
      exact needed_m0 (by omega) hr hfl hy g1 g2 g3 g4 h1 h2 rfl rfl he c1 c2 c3 e2 (by omega) e3
    · rw [if_neg he, if_neg hp3] at e3
      exact needed_m1 (by omega) hr hfl hy g1 g2 g3 g4 h1 h2 rfl rfl he c1 c2 c3 e2 e3
  obtain ⟨n, rfl⟩ : ∃ p, n = p + 1 := ⟨n - 1, by omega⟩
  refine call_any0 fok14 rfl rfl (by simp) ?_
  simp only [s14, W_seq, W_ops]
  refine ops_box (cs := [fv, vv, sv]) (by omega) rfl hy.one fun g1 hx1 => ?_
  have n1 := hx1.next
  have hy1 := hy.mono hx1.sub
  have x1 := hx1.row.whole (n := 3) rfl
  have r1 := hx1.row
  have hrd := ready_c (n := n) (h := g1) (by omega) (by omega) hy1
  have haw := awake_c (n := n) (h := g1) (by omega)
  by_cases c1 : Thin Y ∧ faultN Y = 0
  case neg =>
    rw [decide_eq_false c1] at hrd
    simp only [rn0, rn1, rn2, rn3, rn4, rn5, rn6, rn7, rn8, if_true, if_false, Nat.le_refl, true_and, and_true, decide_true, decide_false, Bool.not_true, Bool.not_false, reduceIte, Nat.reduceEqDiff, Nat.reduceAdd, Nat.reduceMul, Nat.reduceSub, Nat.reduceLeDiff, Nat.reduceLT, x1, hrd, haw]
  rw [decide_eq_true c1] at hrd
  obtain ⟨rr, hrw, hq⟩ := hy1.v
  by_cases c2 : (Y.nf : Int) = 0
  · simp only [rn0, rn1, rn2, rn3, rn4, rn5, rn6, rn7, rn8, if_true, if_false, Nat.le_refl, true_and, and_true, decide_true, decide_false, Bool.not_true, Bool.not_false, reduceIte, Nat.reduceEqDiff, Nat.reduceAdd, Nat.reduceMul, Nat.reduceSub, Nat.reduceLeDiff, Nat.reduceLT, x1, hrd, r1.ld, Nat.zero_add, List.getElem?_cons_zero, List.getElem?_cons_succ, Cells.len hy1.f, Cells.len hrw, c2, haw]
  have c3 : (Y.nv : Int) = 0 := by
    apply Classical.byContradiction
    intro hn
    exact hg ⟨c1, by omega, by omega⟩
  simp only [rn0, rn1, rn2, rn3, rn4, rn5, rn6, rn7, rn8, if_true, if_false, Nat.le_refl, true_and, and_true, decide_true, decide_false, Bool.not_true, Bool.not_false, reduceIte, Nat.reduceEqDiff, Nat.reduceAdd, Nat.reduceMul, Nat.reduceSub, Nat.reduceLeDiff, Nat.reduceLT, x1, hrd, r1.ld, Nat.zero_add, List.getElem?_cons_zero, List.getElem?_cons_succ, Cells.len hy1.f, Cells.len hrw, c2, c3, haw]
end Go.Vm.Vat
