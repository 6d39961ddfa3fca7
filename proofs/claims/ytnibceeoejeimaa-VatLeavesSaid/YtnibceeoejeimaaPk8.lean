/- Texts of the proofs of this seat, put together: VatEnds, VatEnds2, VatIter2, VatWrong, VatBefore, VatFirst, VatLeave. -/
import Derived.Test.YtnibceeoejeimaaPk7

namespace Go.Vm.Vat
open Go.Proofs
set_option linter.unusedSimpArgs false
set_option linter.unusedVariables false
set_option maxRecDepth 10000
variable {n : Nat} {h : AHeap}

/-- four bits -/
def bitsE (b1 b2 b3 b4 : Bool) : Nat := (bif b1 then 1 else 0) + (bif b2 then 2 else 0) + (bif b3 then 4 else 0) + (bif b4 then 8 else 0)
theorem bitsE_lt {b1 b2 b3 b4 : Bool} : bitsE b1 b2 b3 b4 < 16 := by cases b1 <;> cases b2 <;> cases b3 <;> cases b4 <;> decide
theorem bitsE_1 {b1 b2 b3 b4 : Bool} : bitsE b1 b2 b3 b4 ||| 1 = bitsE true b2 b3 b4 := by cases b1 <;> cases b2 <;> cases b3 <;> cases b4 <;> rfl
theorem bitsE_2 {b1 b2 b3 b4 : Bool} : bitsE b1 b2 b3 b4 ||| 2 = bitsE b1 true b3 b4 := by cases b1 <;> cases b2 <;> cases b3 <;> cases b4 <;> rfl
theorem bitsE_4 {b1 b2 b3 b4 : Bool} : bitsE b1 b2 b3 b4 ||| 4 = bitsE b1 b2 true b4 := by cases b1 <;> cases b2 <;> cases b3 <;> cases b4 <;> rfl
theorem bitsE_8 {b1 b2 b3 b4 : Bool} : bitsE b1 b2 b3 b4 ||| 8 = bitsE b1 b2 b3 true := by cases b1 <;> cases b2 <;> cases b3 <;> cases b4 <;> rfl
theorem or_1 {other : AHeap → Option (Value × AHeap)} {b1 b2 b3 b4 : Bool} : run2 orF other (.int .i64 ((bitsE b1 b2 b3 b4 : Nat) : Int)) (.int .i64 1) h = some (.int .i64 ((bitsE true b2 b3 b4 : Nat) : Int), h) := by
  have hl := bitsE_lt (b1 := b1) (b2 := b2) (b3 := b3) (b4 := b4)
  have := r_or (other := other) (h := h) (a := bitsE b1 b2 b3 b4) (b := 1) (by omega) (by omega)
  rw [bitsE_1] at this; exact this
theorem or_2 {other : AHeap → Option (Value × AHeap)} {b1 b2 b3 b4 : Bool} : run2 orF other (.int .i64 ((bitsE b1 b2 b3 b4 : Nat) : Int)) (.int .i64 2) h = some (.int .i64 ((bitsE b1 true b3 b4 : Nat) : Int), h) := by
  have hl := bitsE_lt (b1 := b1) (b2 := b2) (b3 := b3) (b4 := b4)
  have := r_or (other := other) (h := h) (a := bitsE b1 b2 b3 b4) (b := 2) (by omega) (by omega)
  rw [bitsE_2] at this; exact this
theorem or_4 {other : AHeap → Option (Value × AHeap)} {b1 b2 b3 b4 : Bool} : run2 orF other (.int .i64 ((bitsE b1 b2 b3 b4 : Nat) : Int)) (.int .i64 4) h = some (.int .i64 ((bitsE b1 b2 true b4 : Nat) : Int), h) := by
  have hl := bitsE_lt (b1 := b1) (b2 := b2) (b3 := b3) (b4 := b4)
  have := r_or (other := other) (h := h) (a := bitsE b1 b2 b3 b4) (b := 4) (by omega) (by omega)
  rw [bitsE_4] at this; exact this
theorem or_8 {other : AHeap → Option (Value × AHeap)} {b1 b2 b3 b4 : Bool} : run2 orF other (.int .i64 ((bitsE b1 b2 b3 b4 : Nat) : Int)) (.int .i64 8) h = some (.int .i64 ((bitsE b1 b2 b3 true : Nat) : Int), h) := by
  have hl := bitsE_lt (b1 := b1) (b2 := b2) (b3 := b3) (b4 := b4)
  have := r_or (other := other) (h := h) (a := bitsE b1 b2 b3 b4) (b := 8) (by omega) (by omega)
  rw [bitsE_8] at this; exact this
/-- among the first k -/
def Seen (L : List (Nat → Int)) (p : (Nat → Int) → Prop) (k : Nat) : Prop := ∃ i, i < k ∧ p (L.getD i fun _ => 0)
noncomputable instance (L : List (Nat → Int)) (p : (Nat → Int) → Prop) (k : Nat) : Decidable (Seen L p k) := Classical.propDecidable _
theorem seen_yes {L : List (Nat → Int)} {p : (Nat → Int) → Prop} {k : Nat} (h : p (L.getD k fun _ => 0)) : decide (Seen L p (k + 1)) = true := decide_eq_true ⟨k, by omega, h⟩
theorem seen_no {L : List (Nat → Int)} {p : (Nat → Int) → Prop} {k : Nat} (h : ¬ p (L.getD k fun _ => 0)) : decide (Seen L p (k + 1)) = decide (Seen L p k) := decide_eq_decide.2
  ⟨fun ⟨i, h1, h2⟩ => by
    by_cases e : i = k
    · subst e; exact absurd h2 h
    · exact ⟨i, by omega, h2⟩, fun ⟨i, h1, h2⟩ => ⟨i, by omega, h2⟩⟩
theorem seen_all {Y : MY} (hf : faultN Y = 0) {p : (Nat → Int) → Prop} (h : ∃ t, t ∈ truths Y ∧ p t) : decide (Seen (refTruths Y) p (refTruths Y).length) = true := by
  obtain ⟨t, h1, h2⟩ := h
  obtain ⟨i, hi, rfl⟩ := mem_getD ((refTruths_mem hf).2 h1)
  exact decide_eq_true ⟨i, hi, h2⟩
theorem seen_zero {L : List (Nat → Int)} {p : (Nat → Int) → Prop} : decide (Seen L p 0) = false := decide_eq_false fun ⟨i, h, _⟩ => by omega

def s11 : SCode := (.seq (.ops [⟨(some 3), none, .box (T 0)⟩, ⟨(some 6), none, .mov (.const (.bool false))⟩]) (.seq (.seq (.ops [⟨(some 18), none, .loadN 3 (T 3)⟩, ⟨(some 19), none, .call (.func 62) [(T 18)]⟩, ⟨(some 20), none, .not (T 19)⟩, ⟨(some 21), none, .mov (T 20)⟩, ⟨(some 22), (some (21, false)), .fieldAddr 0 (T 3)⟩, ⟨(some 23), (some (21, false)), .load1 (T 22)⟩, ⟨(some 24), (some (21, false)), .len (T 23)⟩, ⟨(some 25), (some (21, false)), .int2 .eql (T 24) (.const (.int .i64 (0)))⟩, ⟨(some 26), none, .pick (T 21) (.const (.bool true)) (T 25)⟩, ⟨(some 27), none, .mov (T 26)⟩, ⟨(some 28), (some (27, false)), .fieldAddr 1 (T 3)⟩, ⟨(some 29), (some (27, false)), .load1 (T 28)⟩, ⟨(some 30), (some (27, false)), .len (T 29)⟩, ⟨(some 31), (some (27, false)), .int2 .eql (T 30) (.const (.int .i64 (0)))⟩, ⟨(some 32), none, .pick (T 27) (.const (.bool true)) (T 31)⟩]) (.cond (T 32) (.seq (.ops [⟨(some 33), none, .call (.func 24) []⟩, ⟨(some 6), none, .mov (T 33)⟩]) .ret) .skip)) (.seq (.draw [⟨.free, ⟨(some 34), none, .mov (T 1)⟩⟩, ⟨.free, ⟨(some 35), none, .plain (.convert 5 3 (T 34)) 3⟩⟩, ⟨.free, ⟨(some 36), none, .fieldAddr 1 (T 3)⟩⟩, ⟨.rd1, ⟨(some 37), none, .load1 (T 36)⟩⟩, ⟨.free, ⟨(some 38), none, .len (T 37)⟩⟩, ⟨.free, ⟨(some 39), none, .plain (.binOp .rem 3 (T 35) (T 38) 3) 3⟩⟩, ⟨.free, ⟨(some 40), none, .mov (T 2)⟩⟩, ⟨.free, ⟨(some 41), none, .plain (.convert 5 3 (T 40)) 3⟩⟩, ⟨.free, ⟨(some 42), none, .fieldAddr 0 (T 3)⟩⟩, ⟨.rd1, ⟨(some 43), none, .load1 (T 42)⟩⟩, ⟨.free, ⟨(some 44), none, .len (T 43)⟩⟩, ⟨.free, ⟨(some 45), none, .plain (.binOp .rem 3 (T 41) (T 44) 3) 3⟩⟩, ⟨.free, ⟨(some 7), none, .mov (T 39)⟩⟩, ⟨.free, ⟨(some 8), none, .mov (T 45)⟩⟩]) (.seq (.ops [⟨(some 47), none, .loadN 3 (T 3)⟩, ⟨(some 48), none, .call (.func 26) [(T 47)]⟩, ⟨(some 49), none, .call (.func 34) [(T 48)]⟩, ⟨(some 46), none, .mov (T 49)⟩, ⟨(some 50), none, .extract 0 (T 46)⟩, ⟨(some 51), none, .extract 1 (T 46)⟩, ⟨(some 9), none, .mov (T 50)⟩, ⟨(some 10), none, .mov (T 51)⟩]) (.seq (.ops [⟨(some 53), none, .loadN 3 (T 3)⟩, ⟨(some 54), none, .call (.func 26) [(T 53)]⟩, ⟨(some 55), none, .call (.func 35) [(T 54)]⟩, ⟨(some 52), none, .mov (T 55)⟩, ⟨(some 56), none, .extract 0 (T 52)⟩, ⟨(some 57), none, .extract 1 (T 52)⟩, ⟨(some 11), none, .mov (T 56)⟩, ⟨(some 12), none, .mov (T 57)⟩]) (.seq (.ops [⟨(some 58), none, .loadN 3 (T 3)⟩, ⟨(some 59), none, .call (.func 64) [(T 58)]⟩, ⟨(some 13), none, .mov (T 59)⟩]) (.seq (.seq (.ops [⟨(some 60), none, .mov (T 13)⟩, ⟨(some 61), none, .len (T 60)⟩, ⟨(some 62), none, .int2 .eql (T 61) (.const (.int .i64 (0)))⟩]) (.cond (T 62) (.seq (.ops [⟨(some 63), none, .mov (T 10)⟩, ⟨(some 64), none, .int2 .eql (T 63) (.const (.int .i64 (11)))⟩, ⟨(some 65), none, .mov (T 64)⟩, ⟨(some 66), (some (65, true)), .mov (T 12)⟩, ⟨(some 67), (some (65, true)), .mov (T 10)⟩, ⟨(some 68), (some (65, true)), .int2 .eql (T 66) (T 67)⟩, ⟨(some 69), none, .pick (T 65) (T 68) (.const (.bool false))⟩, ⟨(some 70), none, .mov (T 69)⟩, ⟨(some 71), (some (70, true)), .call (.func 24) []⟩, ⟨(some 72), none, .pick (T 70) (T 71) (.const (.bool false))⟩, ⟨(some 6), none, .mov (T 72)⟩]) .ret) .skip)) (.seq (.seq (.ops [⟨(some 73), none, .mov (T 10)⟩, ⟨(some 74), none, .int2 .neq (T 73) (.const (.int .i64 (0)))⟩, ⟨(some 75), none, .mov (T 74)⟩, ⟨(some 76), (some (75, false)), .mov (T 12)⟩, ⟨(some 77), (some (75, false)), .int2 .neq (T 76) (.const (.int .i64 (0)))⟩, ⟨(some 78), none, .pick (T 75) (.const (.bool true)) (T 77)⟩, ⟨(some 79), none, .mov (T 78)⟩, ⟨(some 80), (some (79, false)), .mov (T 9)⟩, ⟨(some 81), (some (79, false)), .len (T 80)⟩, ⟨(some 82), (some (79, false)), .fieldAddr 1 (T 3)⟩, ⟨(some 83), (some (79, false)), .load1 (T 82)⟩, ⟨(some 84), (some (79, false)), .len (T 83)⟩, ⟨(some 85), (some (79, false)), .int2 .neq (T 81) (T 84)⟩, ⟨(some 86), none, .pick (T 79) (.const (.bool true)) (T 85)⟩, ⟨(some 87), none, .mov (T 86)⟩, ⟨(some 88), (some (87, false)), .mov (T 11)⟩, ⟨(some 89), (some (87, false)), .len (T 88)⟩, ⟨(some 90), (some (87, false)), .fieldAddr 0 (T 3)⟩, ⟨(some 91), (some (87, false)), .load1 (T 90)⟩, ⟨(some 92), (some (87, false)), .len (T 91)⟩, ⟨(some 93), (some (87, false)), .int2 .neq (T 89) (T 92)⟩, ⟨(some 94), none, .pick (T 87) (.const (.bool true)) (T 93)⟩]) (.cond (T 94) (.seq (.ops [⟨(some 6), none, .mov (.const (.bool false))⟩]) .ret) .skip)) (.seq (.ops [⟨(some 14), none, .mov (.const (.int .i64 (0)))⟩]) (.seq (.seq (.ops [⟨(some 15), none, .mov (.const (.int .i64 (0)))⟩]) (.block 0 (.loop (.seq (.seq (.ops [⟨(some 95), none, .mov (T 15)⟩, ⟨(some 96), none, .mov (T 13)⟩, ⟨(some 97), none, .len (T 96)⟩, ⟨(some 98), none, .int2 .lss (T 95) (T 97)⟩]) (.cond (T 98) .skip (.exit 0))) (.seq (.block 1 (.seq (.draw [⟨.rd1, ⟨(some 101), none, .loadN 3 (T 3)⟩⟩, ⟨.free, ⟨(some 102), none, .mov (T 13)⟩⟩, ⟨.free, ⟨(some 103), none, .mov (T 15)⟩⟩, ⟨.free, ⟨(some 104), none, .idxSl 1 (T 102) (T 103)⟩⟩, ⟨.rd1, ⟨(some 105), none, .load1 (T 104)⟩⟩, ⟨.free, ⟨(some 106), none, .mov (T 7)⟩⟩, ⟨.up, ⟨(some 107), none, .call (.func 33) [(T 101), (T 105), (T 106)]⟩⟩, ⟨.free, ⟨(some 108), none, .mov (T 13)⟩⟩, ⟨.free, ⟨(some 109), none, .mov (T 15)⟩⟩, ⟨.free, ⟨(some 110), none, .idxSl 1 (T 108) (T 109)⟩⟩, ⟨.rd, ⟨(some 111), none, .load1 (T 110)⟩⟩, ⟨.free, ⟨(some 112), none, .mov (T 8)⟩⟩, ⟨.free, ⟨(some 113), none, .idxSl 1 (T 111) (T 112)⟩⟩, ⟨.rd, ⟨(some 114), none, .load1 (T 113)⟩⟩, ⟨.free, ⟨(some 16), none, .mov (T 107)⟩⟩, ⟨.free, ⟨(some 17), none, .mov (T 114)⟩⟩]) (.seq (.seq (.ops [⟨(some 115), none, .mov (T 16)⟩, ⟨(some 116), none, .mov (T 9)⟩, ⟨(some 117), none, .mov (T 7)⟩, ⟨(some 118), none, .idxSl 2 (T 116) (T 117)⟩, ⟨(some 119), none, .fieldAddr 0 (T 118)⟩, ⟨(some 120), none, .load1 (T 119)⟩, ⟨(some 121), none, .int2 .eql (T 115) (T 120)⟩]) (.cond (T 121) (.ops [⟨(some 122), none, .mov (T 14)⟩, ⟨(some 123), none, .plain (.binOp .or 3 (T 122) (.const (.int .i64 (1))) 3) 3⟩, ⟨(some 14), none, .mov (T 123)⟩]) .skip)) (.seq (.seq (.ops [⟨(some 124), none, .mov (T 16)⟩, ⟨(some 125), none, .mov (T 9)⟩, ⟨(some 126), none, .mov (T 7)⟩, ⟨(some 127), none, .idxSl 2 (T 125) (T 126)⟩, ⟨(some 128), none, .fieldAddr 1 (T 127)⟩, ⟨(some 129), none, .load1 (T 128)⟩, ⟨(some 130), none, .int2 .eql (T 124) (T 129)⟩]) (.cond (T 130) (.ops [⟨(some 131), none, .mov (T 14)⟩, ⟨(some 132), none, .plain (.binOp .or 3 (T 131) (.const (.int .i64 (2))) 3) 3⟩, ⟨(some 14), none, .mov (T 132)⟩]) .skip)) (.seq (.seq (.ops [⟨(some 133), none, .mov (T 17)⟩, ⟨(some 134), none, .mov (T 11)⟩, ⟨(some 135), none, .mov (T 8)⟩, ⟨(some 136), none, .idxSl 2 (T 134) (T 135)⟩, ⟨(some 137), none, .fieldAddr 0 (T 136)⟩, ⟨(some 138), none, .load1 (T 137)⟩, ⟨(some 139), none, .int2 .eql (T 133) (T 138)⟩]) (.cond (T 139) (.ops [⟨(some 140), none, .mov (T 14)⟩, ⟨(some 141), none, .plain (.binOp .or 3 (T 140) (.const (.int .i64 (4))) 3) 3⟩, ⟨(some 14), none, .mov (T 141)⟩]) .skip)) (.seq (.ops [⟨(some 142), none, .mov (T 17)⟩, ⟨(some 143), none, .mov (T 11)⟩, ⟨(some 144), none, .mov (T 8)⟩, ⟨(some 145), none, .idxSl 2 (T 143) (T 144)⟩, ⟨(some 146), none, .fieldAddr 1 (T 145)⟩, ⟨(some 147), none, .load1 (T 146)⟩, ⟨(some 148), none, .int2 .eql (T 142) (T 147)⟩]) (.cond (T 148) (.ops [⟨(some 149), none, .mov (T 14)⟩, ⟨(some 150), none, .plain (.binOp .or 3 (T 149) (.const (.int .i64 (8))) 3) 3⟩, ⟨(some 14), none, .mov (T 150)⟩]) .skip))))))) (.ops [⟨(some 99), none, .mov (T 15)⟩, ⟨(some 100), none, .int2 .add (T 99) (.const (.int .i64 (1)))⟩, ⟨(some 15), none, .mov (T 100)⟩])))))) (.seq (.ops [⟨(some 151), none, .mov (T 14)⟩, ⟨(some 152), none, .int2 .eql (T 151) (.const (.int .i64 (15)))⟩, ⟨(some 153), none, .mov (T 152)⟩, ⟨(some 154), (some (153, true)), .call (.func 24) []⟩, ⟨(some 155), none, .pick (T 153) (T 154) (.const (.bool false))⟩, ⟨(some 6), none, .mov (T 155)⟩]) .ret)))))))))))
theorem fok11 : FnOk Try.prog 11 156 s11 [.tmp 6] := ⟨Try.f11, _, Try.func11, rfl, Try.ntmps11, by kernel_rfl, by kernel_rfl⟩
theorem ends_1 (hn : 10090 ≤ n) (hr : h.next + 3000000 < far) (hfl : h.floor ≤ h.next) {fv vv sv : Value} {Y : MY} (hy : YardR h fv vv sv Y) (hT : Thin Y) (hf : faultN Y = 0) (hnf : 0 < Y.nf) (hnv : 0 < Y.nv) {a1 a2 : Nat} (w1 : a1 < 256) (w2 : a2 < 256) :
    ∃ v h', call n (.func (.func 11) #[] #[]) [.agg ⟨[fv, vv, sv]⟩, .int .u8 (a1 : Int), .int .u8 (a2 : Int)] h = some (v, h') ∧ v = .bool true := by
  obtain ⟨n, rfl⟩ : ∃ p, n = p + 1 := ⟨n - 1, by omega⟩
  refine call_any0 fok11 rfl rfl (by simp) ?_
  simp only [s11, W_seq, W_ops]
  refine ops_box (cs := [fv, vv, sv]) (by omega) rfl hy.one fun g1 hx1 => ?_
  have n1 := hx1.next
  have f1 := hx1.floor
  have hy1 := hy.mono hx1.sub
  have x1 := hx1.row.whole (n := 3) rfl
  have r1 := hx1.row
  have hrd := ready_c (n := n) (h := g1) (by omega) (by omega) hy1
  have hrd' : decide (Thin Y ∧ faultN Y = 0) = true := decide_eq_true ⟨hT, hf⟩
  rw [hrd'] at hrd
  obtain ⟨rr, hrw, hq⟩ := hy1.v
  have z1 : ¬ (Y.nf : Int) = 0 := by omega
  have z2 : ¬ (Y.nv : Int) = 0 := by omega
  obtain ⟨one, hone⟩ : ∃ o, o = a1 % Y.nv := ⟨_, rfl⟩
  obtain ⟨fld, hfld⟩ : ∃ o, o = a2 % Y.nf := ⟨_, rfl⟩
  have hov : one < Y.nv := by rw [hone]; exact Nat.mod_lt _ hnv
  have hof : fld < Y.nf := by rw [hfld]; exact Nat.mod_lt _ hnf
  have m1 : (a1 : Int).tmod (Y.nv : Int) = (one : Int) := by rw [hone]; rfl
  have m2 : (a2 : Int).tmod (Y.nf : Int) = (fld : Int) := by rw [hfld]; rfl
  simp only [rn0, rn1, rn2, rn3, rn4, rn5, rn6, rn7, rn8, if_true, if_false, Nat.le_refl, true_and, and_true, decide_true, decide_false, Bool.not_true, Bool.not_false, reduceIte, Nat.reduceEqDiff, Nat.reduceAdd, Nat.reduceMul, Nat.reduceSub, Nat.reduceLeDiff, Nat.reduceLT, x1, hrd, r1.ld, Nat.zero_add, List.getElem?_cons_zero, List.getElem?_cons_succ, Cells.len hy1.f, Cells.len hrw, z1, z2]
  refine W_draw All ?_
  simp only [rn0, rn1, rn2, rn3, rn4, rn5, rn6, rn7, rn8, if_true, if_false, Nat.le_refl, true_and, and_true, decide_true, decide_false, Bool.not_true, Bool.not_false, reduceIte, Nat.reduceEqDiff, Nat.reduceAdd, Nat.reduceMul, Nat.reduceSub, Nat.reduceLeDiff, Nat.reduceLT, p_conv8, r_8 w1, r_8 w2, valN_tmp, Nat.reduceLT, r1.ld, Nat.zero_add, List.getElem?_cons_zero, List.getElem?_cons_succ, Cells.len hy1.f, Cells.len hrw, r_rem z1, r_rem z2, m1, m2]
  obtain ⟨F1, V1, S1, g2, ey2, hy2, m2'⟩ := yard_c (n := n) (h := g1) (by omega) (by omega) (by omega) hy1 hT
  have n2 := m2'.next
  have u2 := m2'.up
  have f2 := m2'.floor
  obtain ⟨bv, g3, eb3, m3, hb3⟩ := boundsV_c (n := n) (h := g2) (by omega) (by omega) (by omega) hy2 hT
  have n3 := m3.next
  have u3 := m3.up
  have f3 := m3.floor
  have s3 : Sub All g1 g3 := m2'.sub.trans m3.sub
  have w3 := (hx1.row.mono s3).whole (n := 3) rfl
  obtain ⟨F2, V2, S2, g4, ey4, hy4, m4⟩ := yard_c (n := n) (h := g3) (by omega) (by omega) (by omega) (hy1.mono s3) hT
  have n4 := m4.next
  have u4 := m4.up
  have f4 := m4.floor
  obtain ⟨fw, g5, ef5, m5, hf5⟩ := fieldsV_c (n := n) (h := g4) (by omega) (by omega) (by omega) hy4 hT
  have n5 := m5.next
  have u5 := m5.up
  have f5 := m5.floor
  have s5 : Sub All g1 g5 := s3.trans (m4.sub.trans m5.sub)
  have w5 := (hx1.row.mono s5).whole (n := 3) rfl
  obtain ⟨l, g6, et6, hl6, m6⟩ := truthsRef_c (n := n) (h := g5) (by omega) (by omega) (by omega) (hy1.mono s5) hf
  have n6 := m6.next
  have u6 := m6.up
  have f6 := m6.floor
  have s6 : Sub All g1 g6 := s5.trans m6.sub
  have w6 := (hx1.row.mono s6).whole (n := 3) rfl
  have r6 := hx1.row.mono s6
  have hy6 := hy1.mono s6
  have haw := awake_c (n := n) (h := g6) (by omega)
  change TruthsL g6 l Y.nf (refTruths Y) at hl6
  have hl6' := hl6
  obtain ⟨rl, q1, q2⟩ := hl6
  rcases hb3 with ⟨h0, _⟩ | ⟨_, hn0, rfl⟩ | ⟨_, hne, bl, rfl, hbl⟩
  · exact absurd hf h0
  · rcases hf5 with ⟨h0, _⟩ | ⟨_, _, rfl⟩ | ⟨_, h0, _⟩
    · exact absurd hf h0
    · have hlz : (refTruths Y).length = 0 := by rw [(refTruths_nil hf).2 hn0]; rfl
      simp only [rn0, rn1, rn2, rn3, rn4, rn5, rn6, rn7, rn8, if_true, if_false, Nat.le_refl, true_and, and_true, decide_true, decide_false, Bool.not_true, Bool.not_false, reduceIte, Nat.reduceEqDiff, Nat.reduceAdd, Nat.reduceMul, Nat.reduceSub, Nat.reduceLeDiff, Nat.reduceLT, x1, ey2, eb3, ex0, ex1, w3, ey4, ef5, w5, et6, Cells.len q1, hlz, Int.natCast_zero, haw, Int.reduceEq]
    · exact absurd hn0 h0
  rcases hf5 with ⟨h0, _⟩ | ⟨_, h0, _⟩ | ⟨_, _, fl, rfl, hfl5⟩
  · exact absurd hf h0
  · exact absurd h0 hne
  have hlz : ¬ ((refTruths Y).length : Int) = 0 := fun e => ((not_congr (refTruths_nil hf)).2 hne) (List.eq_nil_of_length_eq_zero (by omega))
  have hbl6 := Cells.mono hbl ((m4.sub.trans m5.sub).trans m6.sub)
  have hfl6 := Cells.mono hfl5 m6.sub
  obtain ⟨rr6, hrw6, hq6⟩ := hy6.v
  simp only [rn0, rn1, rn2, rn3, rn4, rn5, rn6, rn7, rn8, if_true, if_false, Nat.le_refl, true_and, and_true, decide_true, decide_false, Bool.not_true, Bool.not_false, reduceIte, Nat.reduceEqDiff, Nat.reduceAdd, Nat.reduceMul, Nat.reduceSub, Nat.reduceLeDiff, Nat.reduceLT, x1, ey2, eb3, ex0, ex1, w3, ey4, ef5, w5, et6, Cells.len q1, hlz, Int.natCast_zero, r6.ld, Nat.zero_add, List.getElem?_cons_zero, List.getElem?_cons_succ, Cells.len hbl6, Cells.len hfl6, Cells.len hrw6, Cells.len hy6.f]
  obtain ⟨z5, z6, z7⟩ := (good_of hf).sz
  have hlen := refTruths_len hf
  obtain ⟨P1, hP1⟩ : ∃ P : (Nat → Int) → Prop, P = (fun t => blueN t (Y.q one) Y.nf = loN (fun t => blueN t (Y.q one) Y.nf) (truths Y)) := ⟨_, rfl⟩
  obtain ⟨P2, hP2⟩ : ∃ P : (Nat → Int) → Prop, P = (fun t => blueN t (Y.q one) Y.nf = hiN (fun t => blueN t (Y.q one) Y.nf) (truths Y)) := ⟨_, rfl⟩
  obtain ⟨P3, hP3⟩ : ∃ P : (Nat → Int) → Prop, P = (fun t => t fld = loN (fun t => t fld) (truths Y)) := ⟨_, rfl⟩
  obtain ⟨P4, hP4⟩ : ∃ P : (Nat → Int) → Prop, P = (fun t => t fld = hiN (fun t => t fld) (truths Y)) := ⟨_, rfl⟩
  refine W_loop (refTruths Y).length (fun k f g ms => g = g6 ∧ ms = [] ∧ f 3 = .pointer (some ⟨h.next, 0, none⟩) ∧ f 7 = .int .i64 (one : Int) ∧ f 8 = .int .i64 (fld : Int) ∧ f 9 = bl ∧ f 11 = fl ∧ f 13 = l ∧ f 15 = .int .i64 (k : Int) ∧ f 14 = .int .i64 ((bitsE (decide (Seen (refTruths Y) P1 k)) (decide (Seen (refTruths Y) P2 k)) (decide (Seen (refTruths Y) P3 k)) (decide (Seen (refTruths Y) P4 k)) : Nat) : Int)) (by simp; omega) ?_ ?_ ?_
  · simp only [rn0, rn1, rn2, rn3, rn4, rn5, rn6, rn7, rn8, if_true, if_false, Nat.le_refl, true_and, and_true, decide_true, decide_false, Bool.not_true, Bool.not_false, reduceIte, Nat.reduceEqDiff, Nat.reduceAdd, Nat.reduceMul, Nat.reduceSub, Nat.reduceLeDiff, Nat.reduceLT, seen_zero]
    exact ⟨rfl, rfl⟩
  · rintro k f g ms hk ⟨rfl, rfl, p3, p7, p8, p9, p11, p13, p15, p14⟩
    have hk' : (k : Int) < ((refTruths Y).length : Int) := by omega
    have hw : wrapF .i64 ((k : Int) + 1) = ((k + 1 : Nat) : Int) := by rw [wrap_in (by omega) (by omega)]; rfl
    have q2k : Ints g (rl k) Y.nf ((refTruths Y).getD k fun _ => 0) := q2 k hk
    obtain ⟨v1, v2⟩ := (good_of hf).v one hov
    have eb := blue_c (n := n) (h := g) (at_ := one) (nb := Y.nf) (b := (refTruths Y).getD k fun _ => 0) (by omega) (by omega) hy6 q2k (by omega) hov (by omega) (refTruths_range hf (refTruths_at hk)) (fun j hj => v2 j (by omega))
    have hsl := Cells.self q2k
    have l1 : loadCell g (ptrO bl 2 one 0) = some (.int .i64 (loN (fun t => blueN t (Y.q one) Y.nf) (truths Y))) := Cells.ld hbl6 hov (by omega)
    have l2 : loadCell g (ptrO bl 2 one 1) = some (.int .i64 (hiN (fun t => blueN t (Y.q one) Y.nf) (truths Y))) := Cells.ld hbl6 hov (by omega)
    have l3 : loadCell g (ptrO fl 2 fld 0) = some (.int .i64 (loN (fun t => t fld) (truths Y))) := Cells.ld hfl6 hof (by omega)
    have l4 : loadCell g (ptrO fl 2 fld 1) = some (.int .i64 (hiN (fun t => t fld) (truths Y))) := Cells.ld hfl6 hof (by omega)
    simp only [rn0, rn1, rn2, rn3, rn4, rn5, rn6, rn7, rn8, if_true, if_false, Nat.le_refl, true_and, and_true, decide_true, decide_false, Bool.not_true, Bool.not_false, reduceIte, Nat.reduceEqDiff, Nat.reduceAdd, Nat.reduceMul, Nat.reduceSub, Nat.reduceLeDiff, Nat.reduceLT, p3, p7, p8, p9, p11, p13, p14, p15, Cells.len q1, hk']
    refine W_draw All ?_
    simp only [rn0, rn1, rn2, rn3, rn4, rn5, rn6, rn7, rn8, if_true, if_false, Nat.le_refl, true_and, and_true, decide_true, decide_false, Bool.not_true, Bool.not_false, reduceIte, Nat.reduceEqDiff, Nat.reduceAdd, Nat.reduceMul, Nat.reduceSub, Nat.reduceLeDiff, Nat.reduceLT, p3, p7, p8, p9, p11, p13, p14, p15, w6, Cells.idx q1 hk, Cells.ld q1 hk Nat.zero_lt_one, eb, hsl, Cells.idx q2k hof, Cells.ld q2k hof Nat.zero_lt_one, Cells.idx hbl6 hov, Cells.fld hbl6 hov, l1]
    refine cond_merge (fun f ga ms => ga = g ∧ ms = [] ∧ f 3 = .pointer (some ⟨h.next, 0, none⟩) ∧ f 7 = .int .i64 (one : Int) ∧ f 8 = .int .i64 (fld : Int) ∧ f 9 = bl ∧ f 11 = fl ∧ f 13 = l ∧ f 15 = .int .i64 (k : Int) ∧ f 14 = .int .i64 ((bitsE (decide (Seen (refTruths Y) P1 (k + 1))) (decide (Seen (refTruths Y) P2 k)) (decide (Seen (refTruths Y) P3 k)) (decide (Seen (refTruths Y) P4 k)) : Nat) : Int) ∧ f 16 = .int .i64 (blueN ((refTruths Y).getD k fun _ => 0) (Y.q one) Y.nf) ∧ f 17 = .int .i64 ((refTruths Y).getD k (fun _ => 0) fld)) (fun hp => ?_) (fun hp => ?_) ?_
    · have hp' : P1 ((refTruths Y).getD k fun _ => 0) := by rw [hP1]; exact of_decide_eq_true hp
      simp only [rn0, rn1, rn2, rn3, rn4, rn5, rn6, rn7, rn8, if_true, if_false, Nat.le_refl, true_and, and_true, decide_true, decide_false, Bool.not_true, Bool.not_false, reduceIte, Nat.reduceEqDiff, Nat.reduceAdd, Nat.reduceMul, Nat.reduceSub, Nat.reduceLeDiff, Nat.reduceLT, p3, p7, p8, p9, p11, p13, p14, p15, valN_tmp, valN_const, Nat.reduceLT, p_or, or_1, seen_yes hp']
    · have hp' : ¬ P1 ((refTruths Y).getD k fun _ => 0) := by rw [hP1]; exact of_decide_eq_false hp
      simp only [rn0, rn1, rn2, rn3, rn4, rn5, rn6, rn7, rn8, if_true, if_false, Nat.le_refl, true_and, and_true, decide_true, decide_false, Bool.not_true, Bool.not_false, reduceIte, Nat.reduceEqDiff, Nat.reduceAdd, Nat.reduceMul, Nat.reduceSub, Nat.reduceLeDiff, Nat.reduceLT, p3, p7, p8, p9, p11, p13, p14, p15, seen_no hp']
    clear p3 p7 p8 p9 p11 p13 p14 p15
    rintro f ga ms ⟨rfl, rfl, p3, p7, p8, p9, p11, p13, p15, p14, p16, p17⟩
    simp only [rn0, rn1, rn2, rn3, rn4, rn5, rn6, rn7, rn8, if_true, if_false, Nat.le_refl, true_and, and_true, decide_true, decide_false, Bool.not_true, Bool.not_false, reduceIte, Nat.reduceEqDiff, Nat.reduceAdd, Nat.reduceMul, Nat.reduceSub, Nat.reduceLeDiff, Nat.reduceLT, p3, p7, p8, p9, p11, p13, p14, p15, p16, p17, Cells.idx hbl6 hov, Cells.fld hbl6 hov, l2]
    refine cond_merge (fun f gb ms => gb = ga ∧ ms = [] ∧ f 3 = .pointer (some ⟨h.next, 0, none⟩) ∧ f 7 = .int .i64 (one : Int) ∧ f 8 = .int .i64 (fld : Int) ∧ f 9 = bl ∧ f 11 = fl ∧ f 13 = l ∧ f 15 = .int .i64 (k : Int) ∧ f 14 = .int .i64 ((bitsE (decide (Seen (refTruths Y) P1 (k + 1))) (decide (Seen (refTruths Y) P2 (k + 1))) (decide (Seen (refTruths Y) P3 k)) (decide (Seen (refTruths Y) P4 k)) : Nat) : Int) ∧ f 16 = .int .i64 (blueN ((refTruths Y).getD k fun _ => 0) (Y.q one) Y.nf) ∧ f 17 = .int .i64 ((refTruths Y).getD k (fun _ => 0) fld)) (fun hp => ?_) (fun hp => ?_) ?_
    · have hp' : P2 ((refTruths Y).getD k fun _ => 0) := by rw [hP2]; exact of_decide_eq_true hp
      simp only [rn0, rn1, rn2, rn3, rn4, rn5, rn6, rn7, rn8, if_true, if_false, Nat.le_refl, true_and, and_true, decide_true, decide_false, Bool.not_true, Bool.not_false, reduceIte, Nat.reduceEqDiff, Nat.reduceAdd, Nat.reduceMul, Nat.reduceSub, Nat.reduceLeDiff, Nat.reduceLT, p3, p7, p8, p9, p11, p13, p14, p15, p16, p17, valN_tmp, valN_const, Nat.reduceLT, p_or, or_2, seen_yes hp']
    · have hp' : ¬ P2 ((refTruths Y).getD k fun _ => 0) := by rw [hP2]; exact of_decide_eq_false hp
      simp only [rn0, rn1, rn2, rn3, rn4, rn5, rn6, rn7, rn8, if_true, if_false, Nat.le_refl, true_and, and_true, decide_true, decide_false, Bool.not_true, Bool.not_false, reduceIte, Nat.reduceEqDiff, Nat.reduceAdd, Nat.reduceMul, Nat.reduceSub, Nat.reduceLeDiff, Nat.reduceLT, p3, p7, p8, p9, p11, p13, p14, p15, p16, p17, seen_no hp']
    clear p3 p7 p8 p9 p11 p13 p14 p15 p16 p17
    rintro f gb ms ⟨rfl, rfl, p3, p7, p8, p9, p11, p13, p15, p14, p16, p17⟩
    simp only [rn0, rn1, rn2, rn3, rn4, rn5, rn6, rn7, rn8, if_true, if_false, Nat.le_refl, true_and, and_true, decide_true, decide_false, Bool.not_true, Bool.not_false, reduceIte, Nat.reduceEqDiff, Nat.reduceAdd, Nat.reduceMul, Nat.reduceSub, Nat.reduceLeDiff, Nat.reduceLT, p3, p7, p8, p9, p11, p13, p14, p15, p16, p17, Cells.idx hfl6 hof, Cells.fld hfl6 hof, l3]
    refine cond_merge (fun f gc ms => gc = gb ∧ ms = [] ∧ f 3 = .pointer (some ⟨h.next, 0, none⟩) ∧ f 7 = .int .i64 (one : Int) ∧ f 8 = .int .i64 (fld : Int) ∧ f 9 = bl ∧ f 11 = fl ∧ f 13 = l ∧ f 15 = .int .i64 (k : Int) ∧ f 14 = .int .i64 ((bitsE (decide (Seen (refTruths Y) P1 (k + 1))) (decide (Seen (refTruths Y) P2 (k + 1))) (decide (Seen (refTruths Y) P3 (k + 1))) (decide (Seen (refTruths Y) P4 k)) : Nat) : Int) ∧ f 16 = .int .i64 (blueN ((refTruths Y).getD k fun _ => 0) (Y.q one) Y.nf) ∧ f 17 = .int .i64 ((refTruths Y).getD k (fun _ => 0) fld)) (fun hp => ?_) (fun hp => ?_) ?_
    · have hp' : P3 ((refTruths Y).getD k fun _ => 0) := by rw [hP3]; exact of_decide_eq_true hp
      simp only [rn0, rn1, rn2, rn3, rn4, rn5, rn6, rn7, rn8, if_true, if_false, Nat.le_refl, true_and, and_true, decide_true, decide_false, Bool.not_true, Bool.not_false, reduceIte, Nat.reduceEqDiff, Nat.reduceAdd, Nat.reduceMul, Nat.reduceSub, Nat.reduceLeDiff, Nat.reduceLT, p3, p7, p8, p9, p11, p13, p14, p15, p16, p17, valN_tmp, valN_const, Nat.reduceLT, p_or, or_4, seen_yes hp']
    · have hp' : ¬ P3 ((refTruths Y).getD k fun _ => 0) := by rw [hP3]; exact of_decide_eq_false hp
      simp only [rn0, rn1, rn2, rn3, rn4, rn5, rn6, rn7, rn8, if_true, if_false, Nat.le_refl, true_and, and_true, decide_true, decide_false, Bool.not_true, Bool.not_false, reduceIte, Nat.reduceEqDiff, Nat.reduceAdd, Nat.reduceMul, Nat.reduceSub, Nat.reduceLeDiff, Nat.reduceLT, p3, p7, p8, p9, p11, p13, p14, p15, p16, p17, seen_no hp']
    clear p3 p7 p8 p9 p11 p13 p14 p15 p16 p17
    rintro f gc ms ⟨rfl, rfl, p3, p7, p8, p9, p11, p13, p15, p14, p16, p17⟩
    simp only [rn0, rn1, rn2, rn3, rn4, rn5, rn6, rn7, rn8, if_true, if_false, Nat.le_refl, true_and, and_true, decide_true, decide_false, Bool.not_true, Bool.not_false, reduceIte, Nat.reduceEqDiff, Nat.reduceAdd, Nat.reduceMul, Nat.reduceSub, Nat.reduceLeDiff, Nat.reduceLT, p3, p7, p8, p9, p11, p13, p14, p15, p16, p17, Cells.idx hfl6 hof, Cells.fld hfl6 hof, l4]
    refine cond_merge' (fun f gd ms => gd = gc ∧ ms = [] ∧ f 3 = .pointer (some ⟨h.next, 0, none⟩) ∧ f 7 = .int .i64 (one : Int) ∧ f 8 = .int .i64 (fld : Int) ∧ f 9 = bl ∧ f 11 = fl ∧ f 13 = l ∧ f 15 = .int .i64 (k : Int) ∧ f 14 = .int .i64 ((bitsE (decide (Seen (refTruths Y) P1 (k + 1))) (decide (Seen (refTruths Y) P2 (k + 1))) (decide (Seen (refTruths Y) P3 (k + 1))) (decide (Seen (refTruths Y) P4 (k + 1))) : Nat) : Int) ∧ f 16 = .int .i64 (blueN ((refTruths Y).getD k fun _ => 0) (Y.q one) Y.nf) ∧ f 17 = .int .i64 ((refTruths Y).getD k (fun _ => 0) fld)) (fun hp => ?_) (fun hp => ?_) ?_
    · have hp' : P4 ((refTruths Y).getD k fun _ => 0) := by rw [hP4]; exact of_decide_eq_true hp
      simp only [rn0, rn1, rn2, rn3, rn4, rn5, rn6, rn7, rn8, if_true, if_false, Nat.le_refl, true_and, and_true, decide_true, decide_false, Bool.not_true, Bool.not_false, reduceIte, Nat.reduceEqDiff, Nat.reduceAdd, Nat.reduceMul, Nat.reduceSub, Nat.reduceLeDiff, Nat.reduceLT, p3, p7, p8, p9, p11, p13, p14, p15, p16, p17, valN_tmp, valN_const, Nat.reduceLT, p_or, or_8, seen_yes hp']
    · have hp' : ¬ P4 ((refTruths Y).getD k fun _ => 0) := by rw [hP4]; exact of_decide_eq_false hp
      simp only [rn0, rn1, rn2, rn3, rn4, rn5, rn6, rn7, rn8, if_true, if_false, Nat.le_refl, true_and, and_true, decide_true, decide_false, Bool.not_true, Bool.not_false, reduceIte, Nat.reduceEqDiff, Nat.reduceAdd, Nat.reduceMul, Nat.reduceSub, Nat.reduceLeDiff, Nat.reduceLT, p3, p7, p8, p9, p11, p13, p14, p15, p16, p17, seen_no hp']
    clear p3 p7 p8 p9 p11 p13 p14 p15 p16 p17
    rintro f gd ms ⟨rfl, rfl, p3, p7, p8, p9, p11, p13, p15, p14, p16, p17⟩
    simp only [rn0, rn1, rn2, rn3, rn4, rn5, rn6, rn7, rn8, if_true, if_false, Nat.le_refl, true_and, and_true, decide_true, decide_false, Bool.not_true, Bool.not_false, reduceIte, Nat.reduceEqDiff, Nat.reduceAdd, Nat.reduceMul, Nat.reduceSub, Nat.reduceLeDiff, Nat.reduceLT, p3, p7, p8, p9, p11, p13, p14, p15, p16, p17, hw]
  · rintro f g ms ⟨rfl, rfl, p3, p7, p8, p9, p11, p13, p15, p14⟩
    have e1 : decide (Seen (refTruths Y) P1 (refTruths Y).length) = true := seen_all hf (by rw [hP1]; exact lo_mem (val := fun t => blueN t (Y.q one) Y.nf) hne)
    have e2 : decide (Seen (refTruths Y) P2 (refTruths Y).length) = true := seen_all hf (by rw [hP2]; exact hi_mem (val := fun t => blueN t (Y.q one) Y.nf) hne)
    have e3 : decide (Seen (refTruths Y) P3 (refTruths Y).length) = true := seen_all hf (by rw [hP3]; exact lo_mem (val := fun t => t fld) hne)
    have e4 : decide (Seen (refTruths Y) P4 (refTruths Y).length) = true := seen_all hf (by rw [hP4]; exact hi_mem (val := fun t => t fld) hne)
    rw [e1, e2, e3, e4] at p14
    have e15 : ((bitsE true true true true : Nat) : Int) = 15 := rfl
    rw [e15] at p14
    simp only [rn0, rn1, rn2, rn3, rn4, rn5, rn6, rn7, rn8, if_true, if_false, Nat.le_refl, true_and, and_true, decide_true, decide_false, Bool.not_true, Bool.not_false, reduceIte, Nat.reduceEqDiff, Nat.reduceAdd, Nat.reduceMul, Nat.reduceSub, Nat.reduceLeDiff, Nat.reduceLT, p3, p7, p8, p9, p11, p13, p14, p15, Cells.len q1, Int.lt_irrefl, haw]
end Go.Vm.Vat

namespace Go.Vm.Vat
open Go.Proofs
set_option linter.unusedSimpArgs false
set_option linter.unusedVariables false
set_option maxRecDepth 10000
variable {n : Nat} {h : AHeap}

theorem ready_big (hn : 3 ≤ n) (hr : h.next + 5 < far) {u0 u1 u2 : Value} (hb : Big u0 u1 u2) : call n (.func (.func 62) #[] #[]) [.agg ⟨[u0, u1, u2]⟩] h = some (.bool false, h) := by
  obtain ⟨n, rfl⟩ : ∃ p, n = p + 1 := ⟨n - 1, by omega⟩
  refine call_plain0 fok62 rfl rfl (by simp) rfl ?_
  have hr : h.shutAll.next + 5 < far := hr
  generalize h.shutAll = h at hr
  simp only [s62, W_seq, W_ops]
  refine ops_box (cs := [u0, u1, u2]) (by omega) rfl hb.one fun g1 hx1 => ?_
  have n1 := hx1.next
  have w1 := hx1.row.whole (n := 3) rfl
  have ht := thin_big (n := n) (h := g1) (by omega) (by omega) hb
  simp only [rn0, rn1, rn2, rn3, rn4, rn5, rn6, rn7, rn8, if_true, if_false, Nat.le_refl, true_and, and_true, decide_true, decide_false, Bool.not_true, Bool.not_false, reduceIte, Nat.reduceEqDiff, Nat.reduceAdd, Nat.reduceMul, Nat.reduceSub, Nat.reduceLeDiff, Nat.reduceLT, w1, ht]
theorem ends_c (hn : 10100 ≤ n) (hr : h.next + 3000000 < far) (hfl : h.floor ≤ h.next) {fv vv sv : Value} {Y : MY} (hy : YardR h fv vv sv Y) (a1 : Int) (wf1 : (Lit.int .u8 a1).wf = true) (a2 : Int) (wf2 : (Lit.int .u8 a2).wf = true) :
    ∃ v h', call n (.func (.func 11) #[] #[]) [.agg ⟨[fv, vv, sv]⟩, .int .u8 a1, .int .u8 a2] h = some (v, h') ∧ v = .bool true := by
  obtain ⟨k1, rfl, h1⟩ := wf8 wf1
  obtain ⟨k2, rfl, h2⟩ := wf8 wf2
  by_cases hg : (Thin Y ∧ faultN Y = 0) ∧ 0 < Y.nf ∧ 0 < Y.nv
  · exact ends_1 (by omega) hr hfl hy hg.1.1 hg.1.2 hg.2.1 hg.2.2 h1 h2
  obtain ⟨n, rfl⟩ : ∃ p, n = p + 1 := ⟨n - 1, by omega⟩
  refine call_any0 fok11 rfl rfl (by simp) ?_
  simp only [s11, W_seq, W_ops]
  refine ops_box (cs := [fv, vv, sv]) (by omega) rfl hy.one fun g1 hx1 => ?_
  have n1 := hx1.next
  have hy1 := hy.mono hx1.sub
  have x1 := hx1.row.whole (n := 3) rfl
  have r1 := hx1.row
  have hrd := ready_c (n := n) (h := g1) (by omega) (by omega) hy1
  have haw := awake_c (n := n) (h := g1) (by omega)
  by_cases c1 : Thin Y ∧ faultN Y = 0
  case neg =>
    rw [decide_eq_false c1] at hrd
    simp only [rn0, rn1, rn2, rn3, rn4, rn5, rn6, rn7, rn8, if_true, if_false, Nat.le_refl, true_and, and_true, decide_true, decide_false, Bool.not_true, Bool.not_false, reduceIte, Nat.reduceEqDiff, Nat.reduceAdd, Nat.reduceMul, Nat.reduceSub, Nat.reduceLeDiff, Nat.reduceLT, x1, hrd, haw]
  rw [decide_eq_true c1] at hrd
  obtain ⟨rr, hrw, hq⟩ := hy1.v
  by_cases c2 : (Y.nf : Int) = 0
  · simp only [rn0, rn1, rn2, rn3, rn4, rn5, rn6, rn7, rn8, if_true, if_false, Nat.le_refl, true_and, and_true, decide_true, decide_false, Bool.not_true, Bool.not_false, reduceIte, Nat.reduceEqDiff, Nat.reduceAdd, Nat.reduceMul, Nat.reduceSub, Nat.reduceLeDiff, Nat.reduceLT, x1, hrd, r1.ld, Nat.zero_add, List.getElem?_cons_zero, List.getElem?_cons_succ, Cells.len hy1.f, Cells.len hrw, c2, haw]
  have c3 : (Y.nv : Int) = 0 := by
    apply Classical.byContradiction
    intro hn
    exact hg ⟨c1, by omega, by omega⟩
  simp only [rn0, rn1, rn2, rn3, rn4, rn5, rn6, rn7, rn8, if_true, if_false, Nat.le_refl, true_and, and_true, decide_true, decide_false, Bool.not_true, Bool.not_false, reduceIte, Nat.reduceEqDiff, Nat.reduceAdd, Nat.reduceMul, Nat.reduceSub, Nat.reduceLeDiff, Nat.reduceLT, x1, hrd, r1.ld, Nat.zero_add, List.getElem?_cons_zero, List.getElem?_cons_succ, Cells.len hy1.f, Cells.len hrw, c2, c3, haw]
end Go.Vm.Vat

namespace Go.Vm.Vat
open Go.Proofs
set_option linter.unusedSimpArgs false
set_option linter.unusedVariables false
set_option maxRecDepth 10000
variable {n : Nat} {h : AHeap}

/-! ### The iterator once more: yield is told of no state behind which it has said false -/
section
variable {σ : Type}
theorem runL_go {α : Type} {step : σ → α → σ × Bool} {Go : σ → Prop} (hG : ∀ s c, Go s → (step s c).2 = true → Go (step s c).1) : ∀ (l : List α) (s : σ), Go s → (runL step s l).2 = true → Go (runL step s l).1
  | [], s, h, _ => h
  | x :: l, s, h, e => by
    by_cases h1 : (step s x).2 = true
    · simp only [runL, h1, if_true] at e ⊢
      exact runL_go hG l _ (hG s x h h1) e
    · simp only [runL, h1, Bool.false_eq_true, if_false] at e
theorem chooseG_c (step : σ → (Nat → Int) → σ × Bool) (J : σ → AHeap → Prop) (Go : σ → Prop) (hG : ∀ s c, Go s → (step s c).2 = true → Go (step s c).1) {pw py pb pc K N0 fl : Nat} {F V S T yv : Value} {nf : Nat} {lo hi : Nat → Int} (hsz : nf ≤ 5) (hv : ∀ k, k < nf → 0 ≤ lo k ∧ lo k ≤ hi k ∧ hi k ≤ 20)
    (d1 : pw ≠ pb) (d2 : py ≠ pb) (d3 : pc ≠ pb) (hF : ∀ a k cap, F = .slice (some a) k cap → a.block ≠ pb ∨ nf = 0) (hfl : fl ≤ pb) (hN : 10002 ≤ N0)
    (hJ : ∀ s g g' cs, J s g → Set1 g g' pb cs 0 → J s g')
    (hY : ∀ n g s c, N0 ≤ n → It pw py pc [F, V, S, T] yv (chooseV pw py pb pc) F nf lo hi g → g.get pb = some (.row (arr c) true 0) → OkB nf lo hi nf c → Go s → J s g → g.floor = fl → g.next + K < far →
      ∃ g', call n yv [.agg ⟨arr c⟩] g = some (.bool (step s c).2, g') ∧ J (step s c).1 g' ∧ It pw py pc [F, V, S, T] yv (chooseV pw py pb pc) F nf lo hi g' ∧ g'.get pb = some (.row (arr c) true 0) ∧ g'.floor = fl ∧ g'.next ≤ g.next + K) :
    ∀ (d i n : Nat) (g : AHeap) (s : σ) (c : Nat → Int), i + d = nf → N0 + d + 1 ≤ n → It pw py pc [F, V, S, T] yv (chooseV pw py pb pc) F nf lo hi g → g.get pb = some (.row (arr c) true 0) → OkB nf lo hi i c → Go s → J s g → g.floor = fl → g.next + K * (enumB lo hi d i c).length < far →
      ∃ g', call n (chooseV pw py pb pc) [.int .i64 (i : Int)] g = some (.bool (runL step s (enumB lo hi d i c)).2, g') ∧ J (runL step s (enumB lo hi d i c)).1 g' ∧ It pw py pc [F, V, S, T] yv (chooseV pw py pb pc) F nf lo hi g' ∧
        (∃ c', g'.get pb = some (.row (arr c') true 0) ∧ ∀ j, j < i ∨ i + d ≤ j → c' j = c j) ∧ g'.floor = fl ∧ g'.next ≤ g.next + K * (enumB lo hi d i c).length := by
  intro d
  induction d with
  | zero =>
    intro i n g s c hi' hn hit hb hok hgo hj hfg hr
    obtain ⟨n, rfl⟩ : ∃ p, n = p + 1 := ⟨n - 1, by omega⟩
    simp only [enumB, List.length_singleton, Nat.mul_one] at hr ⊢
    obtain ⟨g', e, q1, q2, q3, q4, q5⟩ := hY n g s c (by omega) hit hb (show OkB nf lo hi nf c from (show i = nf by omega) ▸ hok) hgo hj hfg hr
    have hin : (i : Int) = (nf : Int) := by omega
    have hbr : Row g pb (arr c) := ⟨_, _, hb⟩
    suffices hs : ∃ v g1, call (n + 1) (chooseV pw py pb pc) [.int .i64 (i : Int)] g = some (v, g1) ∧ v = .bool (step s c).2 ∧ g1 = g' by
      obtain ⟨v, g1, e1, rfl, rfl⟩ := hs
      have hrun : runL step s [c] = step s c := by
        simp only [runL]
        by_cases e : (step s c).2 = true
        · simp only [e, if_true]; exact (Prod.ext rfl e.symm)
        · simp only [e, Bool.false_eq_true, if_false]; exact (Prod.ext rfl (by simpa using (Bool.eq_false_iff.2 e).symm))
      rw [hrun]
      exact ⟨_, e1, q1, q2, ⟨c, q3, fun _ _ => rfl⟩, q4, q5⟩
    refine call_any (xs := []) (ys := [.pointer (some ⟨pw, 0, none⟩), .pointer (some ⟨py, 0, none⟩), .pointer (some ⟨pb, 0, none⟩), .pointer (some ⟨pc, 0, none⟩)]) fok122 rfl rfl (by simp) ?_
    simp only [rn0, rn1, rn2, rn3, rn4, rn5, rn6, rn7, rn8, if_true, if_false, Nat.le_refl, true_and, and_true, decide_true, decide_false, Bool.not_true, Bool.not_false, reduceIte, Nat.reduceEqDiff, Nat.reduceAdd, Nat.reduceMul, Nat.reduceSub, Nat.reduceLeDiff, Nat.reduceLT, s122, List.cons_append, List.nil_append, hit.w.ld, hit.y.ld, hbr.whole arr_len, Nat.zero_add, List.getElem?_cons_zero, List.getElem?_cons_succ, Cells.len hit.f, hin, e]
  | succ d ih =>
    intro i n g s c hi' hn hit hb hok hgo hj hfg hr
    obtain ⟨n, rfl⟩ : ∃ p, n = p + 1 := ⟨n - 1, by omega⟩
    have hin : ¬ (i : Int) = (nf : Int) := by omega
    have hk : i < nf := by omega
    obtain ⟨v1, v2, v3⟩ := hv i hk
    suffices hs : ∃ v g1, call (n + 1) (chooseV pw py pb pc) [.int .i64 (i : Int)] g = some (v, g1) ∧ v = .bool (runL step s (enumB lo hi (d + 1) i c)).2 ∧ J (runL step s (enumB lo hi (d + 1) i c)).1 g1 ∧ It pw py pc [F, V, S, T] yv (chooseV pw py pb pc) F nf lo hi g1 ∧
        (∃ c', g1.get pb = some (.row (arr c') true 0) ∧ ∀ j, j < i ∨ i + (d + 1) ≤ j → c' j = c j) ∧ g1.floor = fl ∧ g1.next ≤ g.next + K * (enumB lo hi (d + 1) i c).length by
      obtain ⟨v, g1, e1, rfl, h2⟩ := hs
      exact ⟨g1, e1, h2⟩
    refine call_any (xs := []) (ys := [.pointer (some ⟨pw, 0, none⟩), .pointer (some ⟨py, 0, none⟩), .pointer (some ⟨pb, 0, none⟩), .pointer (some ⟨pc, 0, none⟩)]) fok122 rfl rfl (by simp) ?_
    have hl1 : loadCell g (ptrO F 2 i 0) = some (.int .i64 (lo i)) := Cells.ld hit.f hk (by omega)
    simp only [rn0, rn1, rn2, rn3, rn4, rn5, rn6, rn7, rn8, if_true, if_false, Nat.le_refl, true_and, and_true, decide_true, decide_false, Bool.not_true, Bool.not_false, reduceIte, Nat.reduceEqDiff, Nat.reduceAdd, Nat.reduceMul, Nat.reduceSub, Nat.reduceLeDiff, Nat.reduceLT, s122, List.cons_append, List.nil_append, hit.w.ld, Nat.zero_add, List.getElem?_cons_zero, List.getElem?_cons_succ, Cells.len hit.f, hin, Cells.idx hit.f hk, Cells.fld hit.f hk, hl1]
    let part : Nat → List (Nat → Int) := fun k => enumB lo hi d (i + 1) fun j => if j = i then lo i + (k : Int) else c j
    have hen : enumB lo hi (d + 1) i c = (List.range (hi i - lo i + 1).toNat).flatMap part := rfl
    have hm : ((hi i - lo i + 1).toNat : Int) = hi i - lo i + 1 := Int.toNat_of_nonneg (by omega)
    rw [hen] at hr ⊢
    generalize hmm : (hi i - lo i + 1).toNat = m at hm hr
    refine W_loop m (fun k f g1 ms => (It pw py pc [F, V, S, T] yv (chooseV pw py pb pc) F nf lo hi g1 ∧ (∃ c', g1.get pb = some (.row (arr c') true 0) ∧ ∀ j, j < i ∨ i + (d + 1) ≤ j → c' j = c j) ∧ J (runL step s ((List.range k).flatMap part)).1 g1 ∧ (runL step s ((List.range k).flatMap part)).2 = true ∧
      g1.floor = fl ∧ g1.next ≤ g.next + K * ((List.range k).flatMap part).length) ∧ ms = [] ∧ f 0 = .int .i64 (i : Int) ∧ f 1 = .pointer (some ⟨pw, 0, none⟩) ∧ f 3 = .pointer (some ⟨pb, 0, none⟩) ∧ f 4 = .pointer (some ⟨pc, 0, none⟩) ∧ f 7 = .int .i64 (lo i + (k : Int))) (by simp; omega) ?_ ?_ ?_
    · simp only [rn0, rn1, rn2, rn3, rn4, rn5, rn6, rn7, rn8, if_true, if_false, Nat.le_refl, true_and, and_true, decide_true, decide_false, Bool.not_true, Bool.not_false, reduceIte, Nat.reduceEqDiff, Nat.reduceAdd, Nat.reduceMul, Nat.reduceSub, Nat.reduceLeDiff, Nat.reduceLT, Int.natCast_zero, Int.add_zero]
      simp only [List.range_zero, List.flatMap_nil, runL, List.length_nil, Nat.mul_zero, Nat.add_zero, Nat.le_refl, and_true]
      exact ⟨hit, ⟨c, hb, fun _ _ => rfl⟩, hj, trivial, hfg⟩
    · rintro k f g1 ms hkm ⟨⟨it1, ⟨c', hb1, hc'⟩, hj1, hr1, hf1, hn1⟩, rfl, f0, f1, f3, f4, f7⟩
      have hle : lo i + (k : Int) ≤ hi i := by omega
      have hl2 : loadCell g1 (ptrO F 2 i 1) = some (.int .i64 (hi i)) := Cells.ld it1.f hk (by omega)
      have hlt := AHeap.lt_of_get hb1
      obtain ⟨rest, hpart⟩ := part_flat part hkm
      have hlen : ((List.range m).flatMap part).length = ((List.range k).flatMap part).length + ((part k).length + rest.length) := by rw [hpart]; simp
      have hK : K * ((List.range m).flatMap part).length = K * ((List.range k).flatMap part).length + (K * (part k).length + K * rest.length) := by rw [hlen, Nat.mul_add, Nat.mul_add]
      simp only [rn0, rn1, rn2, rn3, rn4, rn5, rn6, rn7, rn8, if_true, if_false, Nat.le_refl, true_and, and_true, decide_true, decide_false, Bool.not_true, Bool.not_false, reduceIte, Nat.reduceEqDiff, Nat.reduceAdd, Nat.reduceMul, Nat.reduceSub, Nat.reduceLeDiff, Nat.reduceLT, f0, f1, f3, f4, f7, it1.w.ld, Nat.zero_add, List.getElem?_cons_zero, List.getElem?_cons_succ, Cells.idx it1.f hk, Cells.fld it1.f hk, hl2, hle, idxArr_p (l := 5) (k := i) (by omega)]
      refine step_store (vs := [.int .i64 (lo i + (k : Int))]) rfl hb1 (by omega) (by omega) rfl rfl rfl (by rw [arr_len]; simp; omega) fun g2 hs => ?_
      have hb2 := hs.get
      rw [arr_splice (by omega)] at hb2
      have it2 := it1.set hs d1 d2 d3 hF
      have hw : wrapF .i64 ((i : Int) + 1) = ((i + 1 : Nat) : Int) := by rw [wrap_in (by omega) (by omega)]; rfl
      have hcg : enumB lo hi d (i + 1) (fun j => if j = i then lo i + (k : Int) else c' j) = part k := enumB_congr d (i + 1) _ _ fun j hj => by
        by_cases e : j = i
        · simp [e]
        · simp only [e, if_false]; exact hc' j (by omega)
      have hnx := hs.next
      have hok2 : OkB nf lo hi (i + 1) (fun j => if j = i then lo i + (k : Int) else c' j) := by
        refine ⟨fun j hj => ?_, fun j hj => ?_⟩
        · by_cases e : j = i
          · subst e; simp only [if_true]; omega
          · simp only [e, if_false]; rw [hc' j (by omega)]; exact hok.1 j (by omega)
        · have e : ¬ j = i := by omega
          simp only [e, if_false]; rw [hc' j (by omega)]; exact hok.2 j hj
      obtain ⟨g3, e, j3, it3, ⟨c3, hb3, hc3⟩, fl3, n3⟩ := ih (i + 1) n g2 _ _ (by omega) (by omega) it2 hb2 hok2 (runL_go hG _ _ hgo hr1) (hJ _ _ _ _ hj1 hs) (by rw [hs.floor, hf1]) (by rw [hcg]; omega)
      rw [hcg] at e j3 n3
      have hw2 : wrapF .i64 (lo i + (k : Int) + 1) = lo i + ((k + 1 : Nat) : Int) := by rw [wrap_in (by omega) (by omega)]; omega
      have hc3' : ∀ j, j < i ∨ i + (d + 1) ≤ j → c3 j = c j := fun j hj => by
        rw [hc3 j (by omega), if_neg (by omega)]; exact hc' j hj
      by_cases hq : (runL step (runL step s ((List.range k).flatMap part)).1 (part k)).2 = true
      · have hrun : runL step s ((List.range (k + 1)).flatMap part) = runL step (runL step s ((List.range k).flatMap part)).1 (part k) := by
          rw [List.range_succ, List.flatMap_append, runL_append, hr1, if_pos rfl]; simp
        have hl3 : ((List.range (k + 1)).flatMap part).length = ((List.range k).flatMap part).length + (part k).length := by rw [List.range_succ, List.flatMap_append, List.length_append]; simp
        rw [hq] at e
        simp only [rn0, rn1, rn2, rn3, rn4, rn5, rn6, rn7, rn8, if_true, if_false, Nat.le_refl, true_and, and_true, decide_true, decide_false, Bool.not_true, Bool.not_false, reduceIte, Nat.reduceEqDiff, Nat.reduceAdd, Nat.reduceMul, Nat.reduceSub, Nat.reduceLeDiff, Nat.reduceLT, f0, f1, f3, f4, f7, it2.c.ld, Nat.zero_add, List.getElem?_cons_zero, List.getElem?_cons_succ, hw, e, hw2]
        rw [hrun, hl3, Nat.mul_add]
        exact ⟨it3, ⟨c3, hb3, hc3'⟩, j3, hq, fl3, by omega⟩
      · have hq' : (runL step (runL step s ((List.range k).flatMap part)).1 (part k)).2 = false := by simpa using hq
        have hrun : runL step s ((List.range m).flatMap part) = runL step (runL step s ((List.range k).flatMap part)).1 (part k) := by
          rw [hpart, runL_append, hr1, if_pos rfl, runL_append, hq', if_neg (by simp)]
        rw [hq'] at e
        simp only [rn0, rn1, rn2, rn3, rn4, rn5, rn6, rn7, rn8, if_true, if_false, Nat.le_refl, true_and, and_true, decide_true, decide_false, Bool.not_true, Bool.not_false, reduceIte, Nat.reduceEqDiff, Nat.reduceAdd, Nat.reduceMul, Nat.reduceSub, Nat.reduceLeDiff, Nat.reduceLT, f0, f1, f3, f4, f7, it2.c.ld, Nat.zero_add, List.getElem?_cons_zero, List.getElem?_cons_succ, hw, e]
        rw [hrun, hq']
        exact ⟨rfl, j3, it3, ⟨c3, hb3, hc3'⟩, fl3, by omega⟩
    · rintro f g1 ms ⟨⟨it1, ⟨c', hb1, hc'⟩, hj1, hr1, hf1, hn1⟩, rfl, f0, f1, f3, f4, f7⟩
      have hle : ¬ lo i + (m : Int) ≤ hi i := by omega
      have hl2 : loadCell g1 (ptrO F 2 i 1) = some (.int .i64 (hi i)) := Cells.ld it1.f hk (by omega)
      simp only [rn0, rn1, rn2, rn3, rn4, rn5, rn6, rn7, rn8, if_true, if_false, Nat.le_refl, true_and, and_true, decide_true, decide_false, Bool.not_true, Bool.not_false, reduceIte, Nat.reduceEqDiff, Nat.reduceAdd, Nat.reduceMul, Nat.reduceSub, Nat.reduceLeDiff, Nat.reduceLT, f0, f1, f3, f4, f7, it1.w.ld, Nat.zero_add, List.getElem?_cons_zero, List.getElem?_cons_succ, Cells.idx it1.f hk, Cells.fld it1.f hk, hl2, hle]
      exact ⟨by rw [hr1], hj1, it1, ⟨c', hb1, hc'⟩, hf1, hn1⟩

theorem iterG_c (step : σ → (Nat → Int) → σ × Bool) (J : σ → AHeap → Prop) (Go : σ → Prop) (hG : ∀ s c, Go s → (step s c).2 = true → Go (step s c).1) {g : AHeap} {pw K N0 n : Nat} {F V S T yv : Value} {nf : Nat} {lo hi : Nat → Int} (s : σ) (hgo : Go s) (hsz : nf ≤ 5) (hv : ∀ k, k < nf → 0 ≤ lo k ∧ lo k ≤ hi k ∧ hi k ≤ 20)
    (hw : Row g pw [F, V, S, T]) (hf : Ranges g F nf lo hi) (hyv : oneCell yv = true) (hfl : g.floor ≤ g.next) (hN : 10002 ≤ N0) (hn : N0 + 7 ≤ n)
    (hJ : ∀ s g1 g' cs, J s g1 → Set1 g1 g' (g.next + 1) cs 0 → J s g')
    (hJ0 : ∀ g3, Old g g3 3 → J s g3)
    (hY : ∀ n g1 s c, N0 ≤ n → It pw g.next (g.next + 2) [F, V, S, T] yv (chooseV pw g.next (g.next + 1) (g.next + 2)) F nf lo hi g1 → g1.get (g.next + 1) = some (.row (arr c) true 0) → OkB nf lo hi nf c → Go s → J s g1 → g1.floor = g.floor → g1.next + K < far →
      ∃ g', call n yv [.agg ⟨arr c⟩] g1 = some (.bool (step s c).2, g') ∧ J (step s c).1 g' ∧ It pw g.next (g.next + 2) [F, V, S, T] yv (chooseV pw g.next (g.next + 1) (g.next + 2)) F nf lo hi g' ∧ g'.get (g.next + 1) = some (.row (arr c) true 0) ∧ g'.floor = g.floor ∧ g'.next ≤ g1.next + K)
    (hr : g.next + 3 + K * (enumB lo hi nf 0 fun _ => 0).length < far) :
    ∃ v g', call n (.func (.func 121) ⟨[]⟩ ⟨[.pointer (some ⟨pw, 0, none⟩)]⟩) [yv] g = some (v, g') ∧ J (runL step s (enumB lo hi nf 0 fun _ => 0)).1 g' ∧ g'.floor = g.floor ∧ g'.next ≤ g.next + 3 + K * (enumB lo hi nf 0 fun _ => 0).length := by
  obtain ⟨n, rfl⟩ : ∃ p, n = p + 1 := ⟨n - 1, by omega⟩
  refine call_any (xs := []) (ys := [.pointer (some ⟨pw, 0, none⟩)]) fok121 rfl rfl (by simp) ?_
  simp only [s121, List.cons_append, List.nil_append, W_seq, W_ops]
  refine ops_box (cs := [yv]) (by omega) (by simp only [rn0, rn1, rn2, rn3, rn4, rn5, rn6, rn7, rn8, if_true, if_false, Nat.le_refl, true_and, and_true, decide_true, decide_false, Bool.not_true, Bool.not_false, reduceIte, Nat.reduceEqDiff, Nat.reduceAdd, Nat.reduceMul, Nat.reduceSub, Nat.reduceLeDiff, Nat.reduceLT]; cases yv <;> first | rfl | cases hyv) (by simp [allB, hyv]) fun g1 hx1 => ?_
  have n1 := hx1.next
  have f1 := hx1.floor
  simp only [rn0, rn1, rn2, rn3, rn4, rn5, rn6, rn7, rn8, if_true, if_false, Nat.le_refl, true_and, and_true, decide_true, decide_false, Bool.not_true, Bool.not_false, reduceIte, Nat.reduceEqDiff, Nat.reduceAdd, Nat.reduceMul, Nat.reduceSub, Nat.reduceLeDiff, Nat.reduceLT]
  refine step_row (cs := arr fun _ => 0) (by omega) rfl arr_one fun g2 hx2 => ?_
  have n2 := hx2.next
  have f2 := hx2.floor
  simp only [rn0, rn1, rn2, rn3, rn4, rn5, rn6, rn7, rn8, if_true, if_false, Nat.le_refl, true_and, and_true, decide_true, decide_false, Bool.not_true, Bool.not_false, reduceIte, Nat.reduceEqDiff, Nat.reduceAdd, Nat.reduceMul, Nat.reduceSub, Nat.reduceLeDiff, Nat.reduceLT]
  refine step_row (cs := [.nilFunc]) (by omega) rfl rfl fun g3 hx3 => ?_
  have n3 := hx3.next
  have f3 := hx3.floor
  have hpw : pw < g.next := by obtain ⟨w, gr, e⟩ := hw; exact AHeap.lt_of_get e
  simp only [rn0, rn1, rn2, rn3, rn4, rn5, rn6, rn7, rn8, if_true, if_false, Nat.le_refl, true_and, and_true, decide_true, decide_false, Bool.not_true, Bool.not_false, reduceIte, Nat.reduceEqDiff, Nat.reduceAdd, Nat.reduceMul, Nat.reduceSub, Nat.reduceLeDiff, Nat.reduceLT]
  have e1 : g1.next = g.next + 1 := n1
  have e2 : g2.next = g.next + 2 := by omega
  rw [e1, e2]
  refine step_store (b := g.next + 2) (gr := 0) (vs := [chooseV pw g.next (g.next + 1) (g.next + 2)]) rfl (by have := hx3.get; rw [e2] at this; exact this) (by omega) (by omega) rfl rfl rfl (by simp) fun g4 hs => ?_
  have hc4 := hs.row
  have hs4 : ∀ i, i < g.next + 2 → g4.get i = g2.get i := fun i hi => by rw [hs.old i (by omega), hx3.old i (by omega)]
  have hb4 : g4.get (g.next + 1) = some (.row (arr fun _ => 0) true 0) := by
    rw [hs4 _ (by omega)]; have := hx2.get; rw [e1] at this; exact this
  have hy4 : g4.get g.next = some (.row [yv] true 0) := by
    rw [hs4 _ (by omega), hx2.old _ (by omega)]; exact hx1.get
  have ho4 : Old g g4 3 := ⟨fun i hi => by rw [hs4 i (by omega), hx2.old i (by omega), hx1.old i hi], by have := hs.next; omega, by have := hs.floor; omega⟩
  have hF : ∀ a k cap, F = .slice (some a) k cap → a.block ≠ g.next + 1 ∨ nf = 0 := by
    intro a k cap e
    obtain ⟨a', cap', e', _, h0 | ⟨b, o, cs, w, gr, e2, e3, _⟩⟩ := hf
    · exact .inr h0
    · left
      rw [e] at e'
      cases e'
      cases e2
      have := AHeap.lt_of_get e3
      show b ≠ _
      omega
  have hit : It pw g.next (g.next + 2) [F, V, S, T] yv (chooseV pw g.next (g.next + 1) (g.next + 2)) F nf lo hi g4 := ⟨hw.mono ho4.sub, ⟨_, _, hy4⟩, by simpa [splice] using hc4, Cells.mono hf ho4.sub⟩
  have hch := chooseG_c step J Go hG (pw := pw) (py := g.next) (pb := g.next + 1) (pc := g.next + 2) (K := K) (N0 := N0) (fl := g.floor) (F := F) (V := V) (S := S) (T := T) (yv := yv) (nf := nf) (lo := lo) (hi := hi) hsz hv (by omega) (by omega) (by omega) hF (by omega) hN hJ hY nf 0 n g4 s (fun _ => 0) (by omega) (by omega) hit hb4 ⟨fun j hj => by omega, fun _ _ => rfl⟩ hgo (hJ0 _ ho4) ho4.floor (by have := ho4.next; omega)
  obtain ⟨g5, q1, q2, q3, q4, q5, q6⟩ := hch
  have hl : loadCell g4 (.pointer (some ⟨g.next + 2, 0, none⟩)) = some (chooseV pw g.next (g.next + 1) (g.next + 2)) := by rw [hc4.ld]; simp [splice]
  have q1' : call n (chooseV pw g.next (g.next + 1) (g.next + 2)) [.int .i64 0] g4 = some (.bool (runL step s (enumB lo hi nf 0 fun _ => 0)).2, g5) := q1
  simp only [rn0, rn1, rn2, rn3, rn4, rn5, rn6, rn7, rn8, if_true, if_false, Nat.le_refl, true_and, and_true, decide_true, decide_false, Bool.not_true, Bool.not_false, reduceIte, Nat.reduceEqDiff, Nat.reduceAdd, Nat.reduceMul, Nat.reduceSub, Nat.reduceLeDiff, Nat.reduceLT, hl, q1']
  exact ⟨_, rfl, q2, by rw [q5], by have := ho4.next; omega⟩
end
end Go.Vm.Vat

namespace Go.Vm.Vat
open Go.Proofs
set_option linter.unusedSimpArgs false
set_option linter.unusedVariables false
set_option maxRecDepth 10000
variable {n : Nat} {h : AHeap}

open Classical in
/-- the samples among the first k that are wrong -/
noncomputable def wrongTo (Y : MY) (b : Nat → Int) : Nat → List Int
  | 0 => []
  | k + 1 => if RightB Y b k then wrongTo Y b k else wrongTo Y b k ++ [(k : Int)]
theorem wrongTo_yes {Y : MY} {b : Nat → Int} {k : Nat} (h : RightB Y b k) : wrongTo Y b (k + 1) = wrongTo Y b k := by rw [wrongTo, if_pos h]
theorem wrongTo_no {Y : MY} {b : Nat → Int} {k : Nat} (h : ¬ RightB Y b k) : wrongTo Y b (k + 1) = wrongTo Y b k ++ [(k : Int)] := by rw [wrongTo, if_neg h]
theorem wrongTo_len {Y : MY} {b : Nat → Int} : ∀ k, (wrongTo Y b k).length ≤ k
  | 0 => Nat.le_refl _
  | k + 1 => by
    have := wrongTo_len (Y := Y) (b := b) k
    by_cases h : RightB Y b k
    · rw [wrongTo_yes h]; omega
    · rw [wrongTo_no h, List.length_append, List.length_singleton]; omega
theorem splice3 {a b c d e f : Value} : splice [a, b, c] 0 [d, e, f] = [d, e, f] := rfl
def s106 : SCode := (.seq (.ops [⟨(some 2), none, .box (T 0)⟩, ⟨(some 3), none, .box (T 1)⟩, ⟨(some 4), none, .mov (.const (.slice none 0 0))⟩]) (.seq (.ops [⟨(some 5), none, .mov (.const (.slice none 0 0))⟩]) (.seq (.seq (.ops [⟨(some 8), none, .fieldAddr 0 (T 2)⟩, ⟨(some 9), none, .fieldAddr 2 (T 8)⟩, ⟨(some 10), none, .load1 (T 9)⟩, ⟨(some 11), none, .len (T 10)⟩, ⟨(some 12), none, .mov (.const (.int .i64 (0)))⟩]) (.block 0 (.loop (.seq (.ops [⟨(some 13), none, .int2 .lss (T 12) (T 11)⟩]) (.seq (.cond (T 13) .skip (.exit 0)) (.seq (.block 1 (.seq (.ops [⟨(some 14), none, .mov (T 12)⟩, ⟨(some 15), none, .idxSl 3 (T 10) (T 12)⟩, ⟨(some 16), none, .loadN 3 (T 15)⟩, ⟨(some 7), none, .alloc [(.int .i64 (0)), (.int .i64 (0)), (.int .i64 (0))]⟩, ⟨(some 6), none, .mov (T 14)⟩, ⟨none, none, .store 3 (T 7) (T 16)⟩]) (.seq (.ops [⟨(some 17), none, .loadN 4 (T 2)⟩, ⟨(some 18), none, .loadN 5 (T 3)⟩, ⟨(some 19), none, .loadN 3 (T 7)⟩, ⟨(some 20), none, .call (.func 123) [(T 17), (T 18), (T 19)]⟩, ⟨(some 21), none, .not (T 20)⟩]) (.cond (T 21) (.ops [⟨(some 22), none, .mov (T 5)⟩, ⟨(some 23), none, .mov (T 6)⟩, ⟨(some 24), none, .bslice 1 1 [(.int .i64 (0))] [0] [(T 23)]⟩, ⟨(some 25), none, .append 1 8 (T 22) (T 24)⟩, ⟨(some 5), none, .mov (T 25)⟩]) .skip)))) (.ops [⟨(some 26), none, .int2 .add (T 12) (.const (.int .i64 (1)))⟩, ⟨(some 12), none, .mov (T 26)⟩]))))))) (.seq (.ops [⟨(some 27), none, .mov (T 5)⟩, ⟨(some 4), none, .mov (T 27)⟩]) .ret))))
theorem fok106 : FnOk Try.prog 106 28 s106 [.tmp 4] := ⟨Try.f106, _, Try.func106, rfl, Try.ntmps106, by kernel_rfl, by kernel_rfl⟩
theorem wrong_c (hn : 10010 ≤ n) (hr : h.next + 60 < far) (hfl : h.floor ≤ h.next) {F V S T : Value} {Y : MY} {b : Nat → Int} (hS : Samps h S Y.ns Y.sv Y.slo Y.shi) (hsn : Y.ns ≤ 5) (hso : SampsOk Y) (ha : AtVat h V Y b) (h1 : allB oneCell [F, V, S, T] = true) :
    ∃ v h', call n (.func (.func 106) #[] #[]) [.agg ⟨[F, V, S, T]⟩, .agg ⟨arr b⟩] h = some (v, h') ∧ Ints h' v (wrongTo Y b Y.ns).length (fun i => (wrongTo Y b Y.ns).getD i 0) ∧ Made h h' 50 ∧ oneCell v = true ∧ (∀ a k c, v = .slice (some a) k c → h.next ≤ a.block ∧ a.block < h'.next) ∧ Long v ∧ ∀ i, i < h.next → h'.get i = h.get i := by
  obtain ⟨n, rfl⟩ : ∃ p, n = p + 1 := ⟨n - 1, by omega⟩
  refine call_any0 fok106 rfl rfl (by simp) ?_
  simp only [s106, W_seq, W_ops]
  refine ops_box (cs := [F, V, S, T]) (by omega) rfl h1 fun g1 hx1 => ?_
  have n1 := hx1.next
  have f1 := hx1.floor
  refine ops_box (cs := arr b) (by omega) rfl arr_one fun g2 hx2 => ?_
  have n2 := hx2.next
  have f2 := hx2.floor
  have s2 : Sub All h g2 := hx1.sub.trans hx2.sub
  have r1 := hx1.row.mono hx2.sub
  have r2 := hx2.row
  simp only [rn0, rn1, rn2, rn3, rn4, rn5, rn6, rn7, rn8, if_true, if_false, Nat.le_refl, true_and, and_true, decide_true, decide_false, Bool.not_true, Bool.not_false, reduceIte, Nat.reduceEqDiff, Nat.reduceAdd, Nat.reduceMul, Nat.reduceSub, Nat.reduceLeDiff, Nat.reduceLT, r1.ld, Nat.zero_add, List.getElem?_cons_zero, List.getElem?_cons_succ, Cells.len hS]
  refine W_loop Y.ns (fun k f g ms => (∃ v, (∀ i, i < g2.next → g.get i = g2.get i) ∧ g.floor = g2.floor ∧ g2.next ≤ g.next ∧ g.next ≤ g2.next + 5 * k ∧ GrowC g2.next g v 1 (wrongTo Y b k).length (fun i _ => .int .i64 ((wrongTo Y b k).getD i 0)) ∧ f 5 = v) ∧ ms = [] ∧ f 2 = .pointer (some ⟨h.next, 0, none⟩) ∧ f 3 = .pointer (some ⟨g1.next, 0, none⟩) ∧ f 10 = S ∧ f 11 = .int .i64 (Y.ns : Int) ∧ f 12 = .int .i64 (k : Int)) (by simp; omega) ?_ ?_ ?_
  · simp only [rn0, rn1, rn2, rn3, rn4, rn5, rn6, rn7, rn8, if_true, if_false, Nat.le_refl, true_and, and_true, decide_true, decide_false, Bool.not_true, Bool.not_false, reduceIte, Nat.reduceEqDiff, Nat.reduceAdd, Nat.reduceMul, Nat.reduceSub, Nat.reduceLeDiff, Nat.reduceLT]
    exact ⟨⟨_, fun _ _ => trivial, by omega, .nil, rfl⟩, rfl⟩
  · rintro k f g ms hk ⟨⟨v, ho, hfg, hup, hnx, gv, p5⟩, rfl, p2, p3, p10, p11, p12⟩
    have hk' : (k : Int) < (Y.ns : Int) := by omega
    have hs : Sub All g2 g := AHeap.subOf ho
    have hw : wrapF .i64 ((k : Int) + 1) = ((k + 1 : Nat) : Int) := by rw [wrap_in (by omega) (by omega)]; rfl
    have sg := s2.trans hs
    have hSg := Cells.mono hS sg
    have hld := samps_ld hSg hk
    simp only [rn0, rn1, rn2, rn3, rn4, rn5, rn6, rn7, rn8, if_true, if_false, Nat.le_refl, true_and, and_true, decide_true, decide_false, Bool.not_true, Bool.not_false, reduceIte, Nat.reduceEqDiff, Nat.reduceAdd, Nat.reduceMul, Nat.reduceSub, Nat.reduceLeDiff, Nat.reduceLT, p2, p3, p5, p10, p11, p12, hk', Cells.idx hSg hk, hld]
    refine step_row (cs := [.int .i64 0, .int .i64 0, .int .i64 0]) (by omega) rfl rfl fun g3' hx3' => ?_
    have n3' := hx3'.next
    have f3' := hx3'.floor
    simp only [rn0, rn1, rn2, rn3, rn4, rn5, rn6, rn7, rn8, if_true, if_false, Nat.le_refl, true_and, and_true, decide_true, decide_false, Bool.not_true, Bool.not_false, reduceIte, Nat.reduceEqDiff, Nat.reduceAdd, Nat.reduceMul, Nat.reduceSub, Nat.reduceLeDiff, Nat.reduceLT, p2, p3, p5, p10, p11, p12]
    refine step_store (b := g.next) (off := 0) (vs := [.int .i64 (Y.sv k), .int .i64 (Y.slo k), .int .i64 (Y.shi k)]) rfl hx3'.get (by omega) (by omega) rfl rfl rfl (by simp) fun g3 hs3 => ?_
    rw [splice3] at hs3
    have n3 : g3.next = g.next + 1 := by have := hs3.next; omega
    have f3 : g3.floor = g.floor := by have := hs3.floor; omega
    have o3 : ∀ i, i < g.next → g3.get i = g.get i := fun i hi => by rw [hs3.old i (by omega), hx3'.old i hi]
    have s3' : Sub All g g3 := AHeap.subOf o3
    have s3 : Sub All h g3 := sg.trans s3'
    have w1 := ((r1.mono hs).mono s3').whole (n := 4) rfl
    have w2 := ((r2.mono hs).mono s3').whole arr_len
    have w3 := hs3.row.whole (n := 3) rfl
    have ei := isRight_c (n := n) (h := g3) (b := b) (F := F) (S := S) (T := T) (at_ := Y.sv k) (lo := Y.slo k) (hi := Y.shi k) (by omega) (by omega) (ha.mono s3) h1 (hso k hk).1
    have gv3 := gv.sub s3'
    have hlk := wrongTo_len (Y := Y) (b := b) k
    by_cases hR : RightB Y b k
    · have hR' : decide (Y.slo k ≤ blueN b (Y.q (Y.sv k).toNat) Y.nf ∧ blueN b (Y.q (Y.sv k).toNat) Y.nf ≤ Y.shi k) = true := decide_eq_true hR
      rw [hR'] at ei
      simp only [rn0, rn1, rn2, rn3, rn4, rn5, rn6, rn7, rn8, if_true, if_false, Nat.le_refl, true_and, and_true, decide_true, decide_false, Bool.not_true, Bool.not_false, reduceIte, Nat.reduceEqDiff, Nat.reduceAdd, Nat.reduceMul, Nat.reduceSub, Nat.reduceLeDiff, Nat.reduceLT, p2, p3, p5, p10, p11, p12, w1, w2, w3, ei, hw, wrongTo_yes hR]
      exact ⟨_, fun i hi => by rw [o3 i (by omega), ho i hi], by omega, by omega, by omega, gv3, rfl⟩
    · have hR' : decide (Y.slo k ≤ blueN b (Y.q (Y.sv k).toNat) Y.nf ∧ blueN b (Y.q (Y.sv k).toNat) Y.nf ≤ Y.shi k) = false := decide_eq_false hR
      rw [hR'] at ei
      simp only [rn0, rn1, rn2, rn3, rn4, rn5, rn6, rn7, rn8, if_true, if_false, Nat.le_refl, true_and, and_true, decide_true, decide_false, Bool.not_true, Bool.not_false, reduceIte, Nat.reduceEqDiff, Nat.reduceAdd, Nat.reduceMul, Nat.reduceSub, Nat.reduceLeDiff, Nat.reduceLT, p2, p3, p5, p10, p11, p12, w1, w2, w3, ei, sl_int]
      refine step_slice (by omega) rfl fun g4 hx4 => ?_
      have n4 := hx4.next
      have f4 := hx4.floor
      have gv4 : GrowC g2.next g4 v 1 (wrongTo Y b k).length (fun i _ => .int .i64 ((wrongTo Y b (k + 1)).getD i 0)) := (gv3.sub hx4.sub).congr fun i j hi hj => by
        rw [wrongTo_no hR, List.getD_eq_getElem?_getD, List.getD_eq_getElem?_getD, List.getElem?_append_left hi]
      obtain ⟨v', g5, e5, ev, gv5, hk5⟩ := gv4.append (bytes := 8) (cap := 1) (by omega) (by omega) (by omega) hx4.get rfl rfl (fun j hj => by
        obtain rfl : j = 0 := by omega
        rw [wrongTo_no hR, List.getD_eq_getElem?_getD, List.getElem?_append_right (Nat.le_refl _)]; simp) (by simp [maxBytes]; omega) (by simp [maxBytes]; omega)
      have n5 := hk5.next
      have f5 := hk5.floor
      have hlen : (wrongTo Y b (k + 1)).length = (wrongTo Y b k).length + 1 := by rw [wrongTo_no hR, List.length_append, List.length_singleton]
      simp only [rn0, rn1, rn2, rn3, rn4, rn5, rn6, rn7, rn8, if_true, if_false, Nat.le_refl, true_and, and_true, decide_true, decide_false, Bool.not_true, Bool.not_false, reduceIte, Nat.reduceEqDiff, Nat.reduceAdd, Nat.reduceMul, Nat.reduceSub, Nat.reduceLeDiff, Nat.reduceLT, p2, p3, p5, p10, p11, p12, e5, hw, hlen]
      exact ⟨_, fun i hi => by rw [hk5.old i (by omega) fun bb kk qq e => by have := (gv4.block e).1; omega, hx4.old i (by omega), o3 i (by omega), ho i hi], by omega, by omega, by omega, gv5, rfl⟩
  · rintro f g ms ⟨⟨v, ho, hfg, hup, hnx, gv, p5⟩, rfl, p2, p3, p10, p11, p12⟩
    simp only [rn0, rn1, rn2, rn3, rn4, rn5, rn6, rn7, rn8, if_true, if_false, Nat.le_refl, true_and, and_true, decide_true, decide_false, Bool.not_true, Bool.not_false, reduceIte, Nat.reduceEqDiff, Nat.reduceAdd, Nat.reduceMul, Nat.reduceSub, Nat.reduceLeDiff, Nat.reduceLT, p2, p3, p5, p10, p11, p12, Int.lt_irrefl]
    exact ⟨gv.cells, ⟨s2.trans (AHeap.subOf ho), by omega, by omega, by omega⟩, gv.one, fun a k c e => by have := gv.block e; omega, gv.long, fun i hi => by rw [ho i (by omega), hx2.old i (by omega), hx1.old i hi]⟩
end Go.Vm.Vat

namespace Go.Vm.Vat
open Go.Proofs
set_option linter.unusedSimpArgs false
set_option linter.unusedVariables false
set_option maxRecDepth 10000
variable {n : Nat} {h : AHeap}

/-! ### Lists in order -/
/-- lexicographically before, both as long -/
def LexLt (a b : Nat → Int) (m : Nat) : Prop := ∃ j, j < m ∧ (∀ i, i < j → a i = b i) ∧ a j < b j
noncomputable instance (a b : Nat → Int) (m : Nat) : Decidable (LexLt a b m) := Classical.propDecidable _
/-- shorter, or as long and before it -/
def Shortlex (a : Nat → Int) (m : Nat) (b : Nat → Int) (k : Nat) : Prop := m < k ∨ m = k ∧ LexLt a b m
noncomputable instance (a : Nat → Int) (m : Nat) (b : Nat → Int) (k : Nat) : Decidable (Shortlex a m b k) := Classical.propDecidable _
noncomputable def lexC (a b : Nat → Int) (m : Nat) : Int := if LexLt a b m then -1 else if LexLt b a m then 1 else 0
theorem lex_at {a b : Nat → Int} {m k : Nat} (hk : k < m) (he : ∀ i, i < k → a i = b i) (hl : a k < b k) : lexC a b m = -1 := by unfold lexC; rw [if_pos ⟨k, hk, he, hl⟩]
theorem lex_at' {a b : Nat → Int} {m k : Nat} (hk : k < m) (he : ∀ i, i < k → a i = b i) (hl : b k < a k) : lexC a b m = 1 := by
  unfold lexC
  rw [if_neg, if_pos ⟨k, hk, fun i hi => (he i hi).symm, hl⟩]
  rintro ⟨j, j1, j2, j3⟩
  by_cases e : j < k
  · have := he j e; omega
  · by_cases e2 : j = k
    · subst e2; omega
    · have := j2 k (by omega); omega
theorem lex_eq {a b : Nat → Int} {m : Nat} (he : ∀ i, i < m → a i = b i) : lexC a b m = 0 := by
  unfold lexC
  rw [if_neg, if_neg]
  · rintro ⟨j, j1, j2, j3⟩; have := he j j1; omega
  · rintro ⟨j, j1, j2, j3⟩; have := he j j1; omega
def s130 : SCode := (.seq (.ops [⟨(some 2), none, .mov (.const (.bool false))⟩]) (.seq (.ops [⟨(some 3), none, .mov (T 0)⟩, ⟨(some 4), none, .mov (T 0)⟩, ⟨(some 5), none, .int2 .neq (T 3) (T 4)⟩, ⟨(some 2), none, .mov (T 5)⟩]) .ret))
theorem fok130 : FnOk Try.prog 130 6 s130 [.tmp 2] := ⟨Try.f130, _, Try.func130, rfl, Try.ntmps130, by kernel_rfl, by kernel_rfl⟩
theorem isNaN_c (hn : 1 ≤ n) {x : Int} : call n (.func (.func 130) #[] #[]) [.int .i64 x] h = some (.bool false, h) := by
  obtain ⟨n, rfl⟩ : ∃ p, n = p + 1 := ⟨n - 1, by omega⟩
  refine call_plain0 fok130 rfl rfl (by simp) rfl ?_
  generalize h.shutAll = h
  simp only [rn0, rn1, rn2, rn3, rn4, rn5, rn6, rn7, rn8, if_true, if_false, Nat.le_refl, true_and, and_true, decide_true, decide_false, Bool.not_true, Bool.not_false, reduceIte, Nat.reduceEqDiff, Nat.reduceAdd, Nat.reduceMul, Nat.reduceSub, Nat.reduceLeDiff, Nat.reduceLT, s130]
def s129 : SCode := (.seq (.ops [⟨(some 4), none, .mov (.const (.int .i64 (0)))⟩]) (.seq (.ops [⟨(some 7), none, .mov (T 0)⟩, ⟨(some 8), none, .call (.func 130) [(T 7)]⟩, ⟨(some 5), none, .mov (T 8)⟩]) (.seq (.ops [⟨(some 9), none, .mov (T 1)⟩, ⟨(some 10), none, .call (.func 130) [(T 9)]⟩, ⟨(some 6), none, .mov (T 10)⟩]) (.seq (.seq (.ops [⟨(some 11), none, .mov (T 5)⟩]) (.cond (T 11) (.seq (.seq (.ops [⟨(some 12), none, .mov (T 6)⟩]) (.cond (T 12) (.seq (.ops [⟨(some 4), none, .mov (.const (.int .i64 (0)))⟩]) .ret) .skip)) (.seq (.ops [⟨(some 4), none, .mov (.const (.int .i64 (-1)))⟩]) .ret)) .skip)) (.seq (.seq (.ops [⟨(some 13), none, .mov (T 6)⟩]) (.cond (T 13) (.seq (.ops [⟨(some 4), none, .mov (.const (.int .i64 (1)))⟩]) .ret) .skip)) (.seq (.seq (.ops [⟨(some 14), none, .mov (T 0)⟩, ⟨(some 15), none, .mov (T 1)⟩, ⟨(some 16), none, .int2 .lss (T 14) (T 15)⟩]) (.cond (T 16) (.seq (.ops [⟨(some 4), none, .mov (.const (.int .i64 (-1)))⟩]) .ret) .skip)) (.seq (.seq (.ops [⟨(some 17), none, .mov (T 0)⟩, ⟨(some 18), none, .mov (T 1)⟩, ⟨(some 19), none, .int2 .gtr (T 17) (T 18)⟩]) (.cond (T 19) (.seq (.ops [⟨(some 4), none, .mov (.const (.int .i64 (1)))⟩]) .ret) .skip)) (.seq (.ops [⟨(some 4), none, .mov (.const (.int .i64 (0)))⟩]) .ret))))))))
theorem fok129 : FnOk Try.prog 129 20 s129 [.tmp 4] := ⟨Try.f129, _, Try.func129, rfl, Try.ntmps129, by kernel_rfl, by kernel_rfl⟩
theorem cmpI_c (hn : 2 ≤ n) {x y : Int} : call n (.func (.func 129) #[] #[]) [.int .i64 x, .int .i64 y] h = some (.int .i64 (if x < y then -1 else if y < x then 1 else 0), h) := by
  obtain ⟨n, rfl⟩ : ∃ p, n = p + 1 := ⟨n - 1, by omega⟩
  refine call_plain0 fok129 rfl rfl (by simp) rfl ?_
  generalize h.shutAll = h
  have e1 := isNaN_c (n := n) (h := h) (x := x) (by omega)
  have e2 := isNaN_c (n := n) (h := h) (x := y) (by omega)
  by_cases c1 : x < y
  · simp only [rn0, rn1, rn2, rn3, rn4, rn5, rn6, rn7, rn8, if_true, if_false, Nat.le_refl, true_and, and_true, decide_true, decide_false, Bool.not_true, Bool.not_false, reduceIte, Nat.reduceEqDiff, Nat.reduceAdd, Nat.reduceMul, Nat.reduceSub, Nat.reduceLeDiff, Nat.reduceLT, s129, e1, e2, c1]
  · by_cases c2 : y < x
    · simp only [rn0, rn1, rn2, rn3, rn4, rn5, rn6, rn7, rn8, if_true, if_false, Nat.le_refl, true_and, and_true, decide_true, decide_false, Bool.not_true, Bool.not_false, reduceIte, Nat.reduceEqDiff, Nat.reduceAdd, Nat.reduceMul, Nat.reduceSub, Nat.reduceLeDiff, Nat.reduceLT, s129, e1, e2, c1, c2]
    · simp only [rn0, rn1, rn2, rn3, rn4, rn5, rn6, rn7, rn8, if_true, if_false, Nat.le_refl, true_and, and_true, decide_true, decide_false, Bool.not_true, Bool.not_false, reduceIte, Nat.reduceEqDiff, Nat.reduceAdd, Nat.reduceMul, Nat.reduceSub, Nat.reduceLeDiff, Nat.reduceLT, s129, e1, e2, c1, c2]
def s124 : SCode := (.seq (.ops [⟨(some 4), none, .mov (.const (.int .i64 (0)))⟩]) (.seq (.seq (.ops [⟨(some 9), none, .mov (T 0)⟩, ⟨(some 10), none, .len (T 9)⟩, ⟨(some 11), none, .mov (.const (.int .i64 (0)))⟩]) (.block 0 (.loop (.seq (.ops [⟨(some 12), none, .int2 .lss (T 11) (T 10)⟩]) (.seq (.cond (T 12) .skip (.exit 0)) (.seq (.block 1 (.seq (.ops [⟨(some 13), none, .mov (T 11)⟩, ⟨(some 14), none, .idxSl 1 (T 9) (T 11)⟩, ⟨(some 15), none, .load1 (T 14)⟩, ⟨(some 5), none, .mov (T 13)⟩, ⟨(some 6), none, .mov (T 15)⟩]) (.seq (.seq (.ops [⟨(some 16), none, .mov (T 5)⟩, ⟨(some 17), none, .mov (T 1)⟩, ⟨(some 18), none, .len (T 17)⟩, ⟨(some 19), none, .int2 .geq (T 16) (T 18)⟩]) (.cond (T 19) (.seq (.ops [⟨(some 4), none, .mov (.const (.int .i64 (1)))⟩]) .ret) .skip)) (.seq (.ops [⟨(some 20), none, .mov (T 1)⟩, ⟨(some 21), none, .mov (T 5)⟩, ⟨(some 22), none, .idxSl 1 (T 20) (T 21)⟩, ⟨(some 23), none, .load1 (T 22)⟩, ⟨(some 7), none, .mov (T 23)⟩]) (.seq (.ops [⟨(some 24), none, .mov (T 6)⟩, ⟨(some 25), none, .mov (T 7)⟩, ⟨(some 26), none, .call (.func 129) [(T 24), (T 25)]⟩, ⟨(some 8), none, .mov (T 26)⟩]) (.seq (.ops [⟨(some 27), none, .mov (T 8)⟩, ⟨(some 28), none, .int2 .neq (T 27) (.const (.int .i64 (0)))⟩]) (.cond (T 28) (.seq (.ops [⟨(some 29), none, .mov (T 8)⟩, ⟨(some 4), none, .mov (T 29)⟩]) .ret) .skip))))))) (.ops [⟨(some 30), none, .int2 .add (T 11) (.const (.int .i64 (1)))⟩, ⟨(some 11), none, .mov (T 30)⟩]))))))) (.seq (.seq (.ops [⟨(some 31), none, .mov (T 0)⟩, ⟨(some 32), none, .len (T 31)⟩, ⟨(some 33), none, .mov (T 1)⟩, ⟨(some 34), none, .len (T 33)⟩, ⟨(some 35), none, .int2 .lss (T 32) (T 34)⟩]) (.cond (T 35) (.seq (.ops [⟨(some 4), none, .mov (.const (.int .i64 (-1)))⟩]) .ret) .skip)) (.seq (.ops [⟨(some 4), none, .mov (.const (.int .i64 (0)))⟩]) .ret))))
theorem fok124 : FnOk Try.prog 124 36 s124 [.tmp 4] := ⟨Try.f124, _, Try.func124, rfl, Try.ntmps124, by kernel_rfl, by kernel_rfl⟩
theorem compare_c {m : Nat} (hn : m + 3 ≤ n) (hm : m ≤ 1000) {va vb : Value} {a b : Nat → Int} (ha : Ints h va m a) (hb : Ints h vb m b) : call n (.func (.func 124) #[] #[]) [va, vb] h = some (.int .i64 (lexC a b m), h) := by
  obtain ⟨n, rfl⟩ : ∃ p, n = p + 1 := ⟨n - 1, by omega⟩
  refine call_plain0 fok124 rfl rfl (by simp) rfl ?_
  have ha : Ints h.shutAll va m a := Cells.shut ha
  have hb : Ints h.shutAll vb m b := Cells.shut hb
  generalize h.shutAll = h at ha hb
  generalize hres : lexC a b m = res
  simp only [rn0, rn1, rn2, rn3, rn4, rn5, rn6, rn7, rn8, if_true, if_false, Nat.le_refl, true_and, and_true, decide_true, decide_false, Bool.not_true, Bool.not_false, reduceIte, Nat.reduceEqDiff, Nat.reduceAdd, Nat.reduceMul, Nat.reduceSub, Nat.reduceLeDiff, Nat.reduceLT, s124, Cells.len ha]
  refine W_loop m (fun k f g ms => (∀ i, i < k → a i = b i) ∧ g = h ∧ ms = [] ∧ f 0 = va ∧ f 1 = vb ∧ f 9 = va ∧ f 10 = .int .i64 (m : Int) ∧ f 11 = .int .i64 (k : Int)) (by simp; omega) ?_ ?_ ?_
  · simp only [rn0, rn1, rn2, rn3, rn4, rn5, rn6, rn7, rn8, if_true, if_false, Nat.le_refl, true_and, and_true, decide_true, decide_false, Bool.not_true, Bool.not_false, reduceIte, Nat.reduceEqDiff, Nat.reduceAdd, Nat.reduceMul, Nat.reduceSub, Nat.reduceLeDiff, Nat.reduceLT]
    exact ⟨fun i hi => by omega, rfl⟩
  · rintro k f g ms hk ⟨he, rfl, rfl, p0, p1, p9, p10, p11⟩
    have hk' : (k : Int) < (m : Int) := by omega
    have hk2 : ¬ (m : Int) ≤ (k : Int) := by omega
    have hw : wrapF .i64 ((k : Int) + 1) = ((k + 1 : Nat) : Int) := by rw [wrap_in (by omega) (by omega)]; rfl
    have ec := cmpI_c (n := n) (h := g) (x := a k) (y := b k) (by omega)
    have la := Cells.ld ha hk Nat.zero_lt_one
    have lb := Cells.ld hb hk Nat.zero_lt_one
    by_cases c1 : a k < b k
    · rw [if_pos c1] at ec
      rw [lex_at hk he c1] at hres
      subst hres
      simp only [rn0, rn1, rn2, rn3, rn4, rn5, rn6, rn7, rn8, if_true, if_false, Nat.le_refl, true_and, and_true, decide_true, decide_false, Bool.not_true, Bool.not_false, reduceIte, Nat.reduceEqDiff, Nat.reduceAdd, Nat.reduceMul, Nat.reduceSub, Nat.reduceLeDiff, Nat.reduceLT, p0, p1, p9, p10, p11, Cells.len hb, hk', hk2, Cells.idx ha hk, Cells.idx hb hk, la, lb, ec, Int.reduceEq, Int.reduceNeg]
    · rw [if_neg c1] at ec
      by_cases c2 : b k < a k
      · rw [if_pos c2] at ec
        rw [lex_at' hk he c2] at hres
        subst hres
        simp only [rn0, rn1, rn2, rn3, rn4, rn5, rn6, rn7, rn8, if_true, if_false, Nat.le_refl, true_and, and_true, decide_true, decide_false, Bool.not_true, Bool.not_false, reduceIte, Nat.reduceEqDiff, Nat.reduceAdd, Nat.reduceMul, Nat.reduceSub, Nat.reduceLeDiff, Nat.reduceLT, p0, p1, p9, p10, p11, Cells.len hb, hk', hk2, Cells.idx ha hk, Cells.idx hb hk, la, lb, ec, Int.reduceEq]
      · rw [if_neg c2] at ec
        simp only [rn0, rn1, rn2, rn3, rn4, rn5, rn6, rn7, rn8, if_true, if_false, Nat.le_refl, true_and, and_true, decide_true, decide_false, Bool.not_true, Bool.not_false, reduceIte, Nat.reduceEqDiff, Nat.reduceAdd, Nat.reduceMul, Nat.reduceSub, Nat.reduceLeDiff, Nat.reduceLT, p0, p1, p9, p10, p11, Cells.len hb, hk', hk2, Cells.idx ha hk, Cells.idx hb hk, la, lb, ec, Int.reduceEq, hw]
        intro i hi
        by_cases e : i = k
        · subst e; omega
        · exact he i (by omega)
  · rintro f g ms ⟨he, rfl, rfl, p0, p1, p9, p10, p11⟩
    rw [lex_eq he] at hres
    subst hres
    simp only [rn0, rn1, rn2, rn3, rn4, rn5, rn6, rn7, rn8, if_true, if_false, Nat.le_refl, true_and, and_true, decide_true, decide_false, Bool.not_true, Bool.not_false, reduceIte, Nat.reduceEqDiff, Nat.reduceAdd, Nat.reduceMul, Nat.reduceSub, Nat.reduceLeDiff, Nat.reduceLT, p0, p1, p9, p10, p11, Cells.len ha, Cells.len hb, Int.lt_irrefl]
def s107 : SCode := (.seq (.ops [⟨(some 4), none, .mov (.const (.bool false))⟩]) (.seq (.seq (.ops [⟨(some 5), none, .mov (T 0)⟩, ⟨(some 6), none, .len (T 5)⟩, ⟨(some 7), none, .mov (T 1)⟩, ⟨(some 8), none, .len (T 7)⟩, ⟨(some 9), none, .int2 .neq (T 6) (T 8)⟩]) (.cond (T 9) (.seq (.ops [⟨(some 10), none, .mov (T 0)⟩, ⟨(some 11), none, .len (T 10)⟩, ⟨(some 12), none, .mov (T 1)⟩, ⟨(some 13), none, .len (T 12)⟩, ⟨(some 14), none, .int2 .lss (T 11) (T 13)⟩, ⟨(some 4), none, .mov (T 14)⟩]) .ret) .skip)) (.seq (.ops [⟨(some 15), none, .mov (T 0)⟩, ⟨(some 16), none, .mov (T 1)⟩, ⟨(some 17), none, .call (.func 124) [(T 15), (T 16)]⟩, ⟨(some 18), none, .int2 .lss (T 17) (.const (.int .i64 (0)))⟩, ⟨(some 4), none, .mov (T 18)⟩]) .ret)))
theorem fok107 : FnOk Try.prog 107 19 s107 [.tmp 4] := ⟨Try.f107, _, Try.func107, rfl, Try.ntmps107, by kernel_rfl, by kernel_rfl⟩
theorem isBefore_c {m k : Nat} (hn : 1010 ≤ n) (hm : m ≤ 1000) (hk : k ≤ 1000) {va vb : Value} {a b : Nat → Int} (ha : Ints h va m a) (hb : Ints h vb k b) : call n (.func (.func 107) #[] #[]) [va, vb] h = some (.bool (decide (Shortlex a m b k)), h) := by
  obtain ⟨n, rfl⟩ : ∃ p, n = p + 1 := ⟨n - 1, by omega⟩
  refine call_plain0 fok107 rfl rfl (by simp) rfl ?_
  have ha : Ints h.shutAll va m a := Cells.shut ha
  have hb : Ints h.shutAll vb k b := Cells.shut hb
  generalize h.shutAll = h at ha hb
  by_cases c : m = k
  · subst c
    have ec := compare_c (n := n) (h := h) (by omega) hm ha hb
    have hd : decide (lexC a b m < 0) = decide (Shortlex a m b m) := decide_eq_decide.2 (by
      unfold Shortlex lexC
      by_cases h1 : LexLt a b m
      · rw [if_pos h1]; exact ⟨fun _ => .inr ⟨rfl, h1⟩, fun _ => by omega⟩
      · rw [if_neg h1]
        refine ⟨fun e => ?_, fun e => ?_⟩
        · by_cases h2 : LexLt b a m
          · rw [if_pos h2] at e; omega
          · rw [if_neg h2] at e; omega
        · rcases e with e | e
          · omega
          · exact absurd e.2 h1)
    generalize lexC a b m = z at ec hd
    simp only [rn0, rn1, rn2, rn3, rn4, rn5, rn6, rn7, rn8, if_true, if_false, Nat.le_refl, true_and, and_true, decide_true, decide_false, Bool.not_true, Bool.not_false, reduceIte, Nat.reduceEqDiff, Nat.reduceAdd, Nat.reduceMul, Nat.reduceSub, Nat.reduceLeDiff, Nat.reduceLT, s107, Cells.len ha, Cells.len hb, ec, hd]
  · have c' : ¬ (m : Int) = (k : Int) := by omega
    have hd : decide ((m : Int) < (k : Int)) = decide (Shortlex a m b k) := decide_eq_decide.2 ⟨fun e => .inl (by omega), fun e => by rcases e with e | e <;> omega⟩
    simp only [rn0, rn1, rn2, rn3, rn4, rn5, rn6, rn7, rn8, if_true, if_false, Nat.le_refl, true_and, and_true, decide_true, decide_false, Bool.not_true, Bool.not_false, reduceIte, Nat.reduceEqDiff, Nat.reduceAdd, Nat.reduceMul, Nat.reduceSub, Nat.reduceLeDiff, Nat.reduceLT, s107, Cells.len ha, Cells.len hb, c', hd]
end Go.Vm.Vat

namespace Go.Vm.Vat
open Go.Proofs
set_option linter.unusedSimpArgs false
set_option linter.unusedVariables false
set_option maxRecDepth 10000
variable {n : Nat} {h : AHeap}

open Classical in
/-- what First keeps: the number so far, and whether it has stopped -/
noncomputable def firstStep (Y : MY) (s : Int × Bool) (c : Nat → Int) : (Int × Bool) × Bool :=
  if wrongTo Y c Y.ns = [] then ((s.1, true), false) else ((max s.1 ((wrongTo Y c Y.ns).getD 0 0), false), true)
theorem firstStep_hit {Y : MY} {s : Int × Bool} {c : Nat → Int} (h : wrongTo Y c Y.ns = []) : firstStep Y s c = ((s.1, true), false) := by unfold firstStep; rw [if_pos h]
theorem firstStep_go {Y : MY} {s : Int × Bool} {c : Nat → Int} (h : wrongTo Y c Y.ns ≠ []) : firstStep Y s c = ((max s.1 ((wrongTo Y c Y.ns).getD 0 0), false), true) := by unfold firstStep; rw [if_neg h]
noncomputable def firstRun (Y : MY) : Int × Bool := (runL (firstStep Y) (0, false) (enumB Y.lo Y.hi Y.nf 0 fun _ => 0)).1
open Classical in
/-- what First answers -/
noncomputable def firstV (Y : MY) : Int × Int := if faultN Y ≠ 0 then (0, faultN Y) else if (firstRun Y).2 = true then (0, 7) else ((firstRun Y).1, 0)
/-- what lies in memory meanwhile -/
structure JF (h2 : AHeap) (p : Nat) (r : ALoop) (s : Int × Bool) (g : AHeap) : Prop where
  old : ∀ i, i < h2.next → i ≠ p + 1 → i ≠ p + 2 → i ≠ p + 3 → i ≠ p + 7 → g.get i = h2.get i
  fst : g.get (p + 3) = some (.row [.int .i64 s.1] true 0)
  r1 : g.get (p + 1) = some (.row [.int .i64 0] true 0)
  r2 : g.get (p + 2) = some (.row [.int .i64 (if s.2 then 7 else 0)] true 0)
  lp : g.get (p + 7) = some (.loop (if s.2 then leftBy r .ret else r))
  up : h2.next + 3 ≤ g.next
theorem splice1 {a b : Value} : splice [a] 0 [b] = [b] := rfl
theorem res_11 {a b : Nat} {f : Fr} {x y : Value} (h1 : loadCell h (f a) = some x) (h2 : loadCell h (f b) = some y) : resV f h [.cell1 a, .cell1 b] = some (.tuple ⟨[x, y]⟩) := by
  simp [resV, resL, res1, h1, h2]
theorem row_ld0 {b : Nat} {x : Value} {w : Bool} {gr : Nat} (hg : h.get b = some (.row [x] w gr)) : loadCell h (.pointer (some ⟨b, 0, none⟩)) = some x := by
  have : Row h b [x] := ⟨_, _, hg⟩
  rw [this.ld]; rfl
noncomputable def s53 : SCode := (.seq (.ops [⟨(some 1), none, .box (T 0)⟩, ⟨(some 2), none, .alloc [(.int .i64 (0))]⟩, ⟨(some 3), none, .alloc [(.int .i64 (0))]⟩]) (.seq (.seq (.ops [⟨(some 9), none, .loadN 3 (T 1)⟩, ⟨(some 10), none, .call (.func 30) [(T 9)]⟩, ⟨(some 4), none, .mov (T 10)⟩]) (.seq (.ops [⟨(some 11), none, .mov (T 4)⟩, ⟨(some 12), none, .int2 .neq (T 11) (.const (.int .i64 (0)))⟩]) (.cond (T 12) (.seq (.ops [⟨(some 13), none, .mov (T 4)⟩, ⟨none, none, .store 1 (T 2) (.const (.int .i64 (0)))⟩, ⟨none, none, .store 1 (T 3) (T 13)⟩]) .ret) .skip))) (.seq (.ops [⟨(some 5), none, .alloc [(.int .i64 (0))]⟩, ⟨none, none, .store 1 (T 5) (.const (.int .i64 (0)))⟩]) (.seq (.ops [⟨(some 14), none, .loadN 3 (T 1)⟩, ⟨(some 15), none, .build #[(0, 3), (3, 1)] [(.slice none 0 0), (.slice none 0 0), (.slice none 0 0), (.slice none 0 0)] [0] [(T 14)]⟩, ⟨(some 6), none, .alloc [(.slice none 0 0), (.slice none 0 0), (.slice none 0 0), (.slice none 0 0)]⟩, ⟨none, none, .store 4 (T 6) (T 15)⟩]) (.seq (.seq (.ops [⟨(some 16), none, .loadN 4 (T 6)⟩, ⟨(some 17), none, .call (.func 105) [(T 16)]⟩]) (.block 0 (.range (T 17) #[18] (rangeOf Try.f53 0).1 (rangeOf Try.f53 0).2))) (.seq (.ops [⟨(some 30), none, .load1 (T 5)⟩, ⟨none, none, .store 1 (T 2) (T 30)⟩, ⟨none, none, .store 1 (T 3) (.const (.int .i64 (0)))⟩]) .ret))))))
theorem fok53 : FnOk Try.prog 53 31 s53 [.cell1 2, .cell1 3] := ⟨Try.f53, _, Try.func53, rfl, Try.ntmps53, by kernel_rfl, by kernel_rfl⟩
def ra53_0 : SCode := (.ops [⟨(some 7), none, .alloc [(.int .i64 (0)), (.int .i64 (0)), (.int .i64 (0)), (.int .i64 (0)), (.int .i64 (0))]⟩, ⟨none, none, .store 5 (T 7) (T 18)⟩])
theorem raok53_0 : compCode Try.prog 31 (rangeOf Try.f53 0).1 = some ra53_0 := by kernel_rfl
def rb53_0 : SCode := (.block 1 (.seq (.ops [⟨(some 19), none, .loadN 4 (T 6)⟩, ⟨(some 20), none, .loadN 5 (T 7)⟩, ⟨(some 21), none, .call (.func 106) [(T 19), (T 20)]⟩, ⟨(some 8), none, .mov (T 21)⟩]) (.seq (.seq (.ops [⟨(some 22), none, .mov (T 8)⟩, ⟨(some 23), none, .len (T 22)⟩, ⟨(some 24), none, .int2 .eql (T 23) (.const (.int .i64 (0)))⟩]) (.cond (T 24) (.seq (.ops [⟨none, none, .store 1 (T 2) (.const (.int .i64 (0)))⟩, ⟨none, none, .store 1 (T 3) (.const (.int .i64 (7)))⟩]) .ret) .skip)) (.draw [⟨.rd1, ⟨(some 25), none, .load1 (T 5)⟩⟩, ⟨.free, ⟨(some 26), none, .mov (T 8)⟩⟩, ⟨.free, ⟨(some 27), none, .idxSl 1 (T 26) (.const (.int .i64 (0)))⟩⟩, ⟨.rd1, ⟨(some 28), none, .load1 (T 27)⟩⟩, ⟨.free, ⟨(some 29), none, .plain (.call { callee := .builtin .max, args := #[(T 25), (T 28)], argTypes := #[3, 3] }) 3⟩⟩, ⟨.any, ⟨none, none, .store 1 (T 5) (T 29)⟩⟩]))))
theorem rbok53_0 : compCode Try.prog 31 (rangeOf Try.f53 0).2 = some rb53_0 := by kernel_rfl
theorem first_c (hn : 10040 ≤ n) (hr : h.next + 400000 < far) {F V S : Value} {Y : MY} (hy : YardR h F V S Y) (hY : Thin Y) :
    call n (.func (.func 53) #[] #[]) [.agg ⟨[F, V, S]⟩] h = some (.tuple ⟨[.int .i64 (firstV Y).1, .int .i64 (firstV Y).2]⟩, h) := by
  obtain ⟨n, rfl⟩ : ∃ p, n = p + 1 := ⟨n - 1, by omega⟩
  refine call_plain0 fok53 rfl rfl (by simp) rfl ?_
  have hy := hy.shut
  have hr : h.shutAll.next + 400000 < far := hr
  have hfl : h.shutAll.floor ≤ h.shutAll.next := Nat.le_refl _
  generalize h.shutAll = h at hy hr hfl
  generalize hres : firstV Y = res
  simp only [s53, W_seq, W_ops]
  refine ops_box (cs := [F, V, S]) (by omega) rfl hy.one fun g1 hx1 => ?_
  have n1 := hx1.next
  have f1 := hx1.floor
  have e1 : g1.next = h.next + 1 := n1
  simp only [rn0, rn1, rn2, rn3, rn4, rn5, rn6, rn7, rn8, if_true, if_false, Nat.le_refl, true_and, and_true, decide_true, decide_false, Bool.not_true, Bool.not_false, reduceIte, Nat.reduceEqDiff, Nat.reduceAdd, Nat.reduceMul, Nat.reduceSub, Nat.reduceLeDiff, Nat.reduceLT]
  refine step_row (cs := [.int .i64 0]) (by omega) rfl rfl fun g2 hx2 => ?_
  have n2 := hx2.next
  have f2 := hx2.floor
  have e2 : g2.next = h.next + 2 := by omega
  simp only [rn0, rn1, rn2, rn3, rn4, rn5, rn6, rn7, rn8, if_true, if_false, Nat.le_refl, true_and, and_true, decide_true, decide_false, Bool.not_true, Bool.not_false, reduceIte, Nat.reduceEqDiff, Nat.reduceAdd, Nat.reduceMul, Nat.reduceSub, Nat.reduceLeDiff, Nat.reduceLT]
  refine step_row (cs := [.int .i64 0]) (by omega) rfl rfl fun g3 hx3 => ?_
  have n3 := hx3.next
  have f3 := hx3.floor
  have e3 : g3.next = h.next + 3 := by omega
  have s3 : Sub All h g3 := hx1.sub.trans (hx2.sub.trans hx3.sub)
  have hy3 := hy.mono s3
  have w1 := ((hx1.row.mono hx2.sub).mono hx3.sub).whole (n := 3) rfl
  have ec := checkYard_c (n := n) (h := g3) (by omega) (by omega) hy3 hY
  have k1 : g3.get (h.next + 1) = some (.row [.int .i64 0] true 0) := by rw [hx3.old _ (by omega)]; have := hx2.get; rw [e1] at this; exact this
  have k2 : g3.get (h.next + 2) = some (.row [.int .i64 0] true 0) := by have := hx3.get; rw [e2] at this; exact this
  have old3 : ∀ i, i < h.next → g3.get i = h.get i := fun i hi => by rw [hx3.old i (by omega), hx2.old i (by omega), hx1.old i hi]
  by_cases hf : faultN Y = 0
  case neg =>
    have hrr : res = (0, faultN Y) := by rw [← hres]; unfold firstV; rw [if_pos hf]
    rw [hrr]
    simp only [rn0, rn1, rn2, rn3, rn4, rn5, rn6, rn7, rn8, if_true, if_false, Nat.le_refl, true_and, and_true, decide_true, decide_false, Bool.not_true, Bool.not_false, reduceIte, Nat.reduceEqDiff, Nat.reduceAdd, Nat.reduceMul, Nat.reduceSub, Nat.reduceLeDiff, Nat.reduceLT, w1, ec, hf, e1, e2]
    refine step_store (vs := [.int .i64 0]) rfl k1 (by omega) (by omega) rfl rfl rfl (by simp) fun g4 hs4 => ?_
    rw [splice1] at hs4
    have n4 := hs4.next
    have f4 := hs4.floor
    simp only [rn0, rn1, rn2, rn3, rn4, rn5, rn6, rn7, rn8, if_true, if_false, Nat.le_refl, true_and, and_true, decide_true, decide_false, Bool.not_true, Bool.not_false, reduceIte, Nat.reduceEqDiff, Nat.reduceAdd, Nat.reduceMul, Nat.reduceSub, Nat.reduceLeDiff, Nat.reduceLT, w1, ec, hf, e1, e2]
    refine step_store (vs := [.int .i64 (faultN Y)]) rfl (by rw [hs4.old _ (by omega)]; exact k2) (by omega) (by omega) rfl rfl rfl (by simp) fun g5 hs5 => ?_
    rw [splice1] at hs5
    have l1 : loadCell g5 (.pointer (some ⟨h.next + 1, 0, none⟩)) = some (.int .i64 0) := row_ld0 (by rw [hs5.old _ (by omega)]; exact hs4.get)
    have l2 : loadCell g5 (.pointer (some ⟨h.next + 2, 0, none⟩)) = some (.int .i64 (faultN Y)) := row_ld0 hs5.get
    simp only [rn0, rn1, rn2, rn3, rn4, rn5, rn6, rn7, rn8, if_true, if_false, Nat.le_refl, true_and, and_true, decide_true, decide_false, Bool.not_true, Bool.not_false, reduceIte, Nat.reduceEqDiff, Nat.reduceAdd, Nat.reduceMul, Nat.reduceSub, Nat.reduceLeDiff, Nat.reduceLT, e1, e2]
    exact ⟨_, res_11 l1 l2, rfl⟩
  obtain ⟨hG, hsz⟩ := fault_size hf
  have hrr : res = if (firstRun Y).2 = true then (0, 7) else ((firstRun Y).1, 0) := by rw [← hres]; unfold firstV; rw [if_neg (by simpa using hf)]
  clear hres
  obtain ⟨z1, z2, z3⟩ := hG.sz
  have hF : ∀ k, k < Y.nf → 0 ≤ Y.lo k ∧ Y.lo k ≤ Y.hi k ∧ Y.hi k ≤ 20 := hG.f
  have ho4 : ∀ T, oneCell T = true → allB oneCell [F, V, S, T] = true := fun T hT => by have := hy.one; simp [allB] at this ⊢; simp [this, hT]
  have hlenE : (enumB Y.lo Y.hi Y.nf 0 fun _ => 0).length ≤ 2000 := by
    have h1 := enumB_len (lo := Y.lo) (hi := Y.hi) Y.nf 0 (fun _ => 0) fun k _ hk => (hF k (by omega)).2.1
    have h2 := sizeN_prod (lo := Y.lo) (hi := Y.hi) Y.nf 0
    simp only [Nat.zero_add, sizeN, Int.one_mul] at h2
    omega
  simp only [rn0, rn1, rn2, rn3, rn4, rn5, rn6, rn7, rn8, if_true, if_false, Nat.le_refl, true_and, and_true, decide_true, decide_false, Bool.not_true, Bool.not_false, reduceIte, Nat.reduceEqDiff, Nat.reduceAdd, Nat.reduceMul, Nat.reduceSub, Nat.reduceLeDiff, Nat.reduceLT, w1, ec, hf]
  refine step_new (vs := [.int .i64 0]) (by omega) (by omega) rfl (by first | rfl | (simp only [rn0, rn1, rn2, rn3, rn4, rn5, rn6, rn7, rn8, if_true, if_false, Nat.le_refl, true_and, and_true, decide_true, decide_false, Bool.not_true, Bool.not_false, reduceIte, Nat.reduceEqDiff, Nat.reduceAdd, Nat.reduceMul, Nat.reduceSub, Nat.reduceLeDiff, Nat.reduceLT]; rfl)) rfl rfl rfl fun g4 hx4 => ?_
  have n4 := hx4.next
  have f4 := hx4.floor
  have e4 : g4.next = h.next + 4 := by omega
  have w1' := (((hx1.row.mono hx2.sub).mono hx3.sub).mono hx4.sub).whole (n := 3) rfl
  simp only [rn0, rn1, rn2, rn3, rn4, rn5, rn6, rn7, rn8, if_true, if_false, Nat.le_refl, true_and, and_true, decide_true, decide_false, Bool.not_true, Bool.not_false, reduceIte, Nat.reduceEqDiff, Nat.reduceAdd, Nat.reduceMul, Nat.reduceSub, Nat.reduceLeDiff, Nat.reduceLT, w1', build_work]
  refine step_new (vs := [F, V, S, nilS]) (by omega) (by omega) rfl (by simp only [rn0, rn1, rn2, rn3, rn4, rn5, rn6, rn7, rn8, if_true, if_false, Nat.le_refl, true_and, and_true, decide_true, decide_false, Bool.not_true, Bool.not_false, reduceIte, Nat.reduceEqDiff, Nat.reduceAdd, Nat.reduceMul, Nat.reduceSub, Nat.reduceLeDiff, Nat.reduceLT]; rfl) (ho4 _ rfl) rfl rfl fun g5 hx5 => ?_
  have n5 := hx5.next
  have f5 := hx5.floor
  have e5 : g5.next = h.next + 5 := by omega
  have w5 := hx5.row.whole (n := 4) rfl
  rw [e4] at w5
  obtain ⟨g6, eB, hx6⟩ := allBlues_c (n := n) (h := g5) (F := F) (V := V) (S := S) (T := nilS) (by omega) (by omega) (ho4 _ rfl)
  have n6 := hx6.next
  have f6 := hx6.floor
  rw [e1, e2, e3, e4]
  simp only [rn0, rn1, rn2, rn3, rn4, rn5, rn6, rn7, rn8, if_true, if_false, Nat.le_refl, true_and, and_true, decide_true, decide_false, Bool.not_true, Bool.not_false, reduceIte, Nat.reduceEqDiff, Nat.reduceAdd, Nat.reduceMul, Nat.reduceSub, Nat.reduceLeDiff, Nat.reduceLT, w5, eB]
  refine W_range' rfl (by omega) (by simp only [rn0, rn1, rn2, rn3, rn4, rn5, rn6, rn7, rn8, if_true, if_false, Nat.le_refl, true_and, and_true, decide_true, decide_false, Bool.not_true, Bool.not_false, reduceIte, Nat.reduceEqDiff, Nat.reduceAdd, Nat.reduceMul, Nat.reduceSub, Nat.reduceLeDiff, Nat.reduceLT]; rfl) fun f0 hf0 ts hv h2 hl => ?_
  have c2 : f0 2 = .pointer (some ⟨h.next + 1, 0, none⟩) := by rw [hf0]; simp only [rn0, rn1, rn2, rn3, rn4, rn5, rn6, rn7, rn8, if_true, if_false, Nat.le_refl, true_and, and_true, decide_true, decide_false, Bool.not_true, Bool.not_false, reduceIte, Nat.reduceEqDiff, Nat.reduceAdd, Nat.reduceMul, Nat.reduceSub, Nat.reduceLeDiff, Nat.reduceLT]
  have c3 : f0 3 = .pointer (some ⟨h.next + 2, 0, none⟩) := by rw [hf0]; simp only [rn0, rn1, rn2, rn3, rn4, rn5, rn6, rn7, rn8, if_true, if_false, Nat.le_refl, true_and, and_true, decide_true, decide_false, Bool.not_true, Bool.not_false, reduceIte, Nat.reduceEqDiff, Nat.reduceAdd, Nat.reduceMul, Nat.reduceSub, Nat.reduceLeDiff, Nat.reduceLT]
  have c5 : f0 5 = .pointer (some ⟨h.next + 3, 0, none⟩) := by rw [hf0]; simp only [rn0, rn1, rn2, rn3, rn4, rn5, rn6, rn7, rn8, if_true, if_false, Nat.le_refl, true_and, and_true, decide_true, decide_false, Bool.not_true, Bool.not_false, reduceIte, Nat.reduceEqDiff, Nat.reduceAdd, Nat.reduceMul, Nat.reduceSub, Nat.reduceLeDiff, Nat.reduceLT]
  have c6 : f0 6 = .pointer (some ⟨h.next + 4, 0, none⟩) := by rw [hf0]; simp only [rn0, rn1, rn2, rn3, rn4, rn5, rn6, rn7, rn8, if_true, if_false, Nat.le_refl, true_and, and_true, decide_true, decide_false, Bool.not_true, Bool.not_false, reduceIte, Nat.reduceEqDiff, Nat.reduceAdd, Nat.reduceMul, Nat.reduceSub, Nat.reduceLeDiff, Nat.reduceLT]
  clear hf0
  have nl := hl.next
  have fl := hl.floor
  have en : g6.next = h.next + 6 := by omega
  have hbase : ∀ i, i < h.next → h2.get i = h.get i := fun i hi => by rw [hl.old i (by omega), hx6.old i (by omega), hx5.old i (by omega), hx4.old i (by omega), old3 i hi]
  have d1 : h2.get (h.next + 1) = some (.row [.int .i64 0] true 0) := by rw [hl.old _ (by omega), hx6.old _ (by omega), hx5.old _ (by omega), hx4.old _ (by omega)]; exact k1
  have d2 : h2.get (h.next + 2) = some (.row [.int .i64 0] true 0) := by rw [hl.old _ (by omega), hx6.old _ (by omega), hx5.old _ (by omega), hx4.old _ (by omega)]; exact k2
  have d3 : h2.get (h.next + 3) = some (.row [.int .i64 0] true 0) := by rw [hl.old _ (by omega), hx6.old _ (by omega), hx5.old _ (by omega)]; have := hx4.get; rw [e3] at this; exact this
  have d4 : h2.get (h.next + 4) = some (.row [F, V, S, nilS] true 0) := by rw [hl.old _ (by omega), hx6.old _ (by omega)]; have := hx5.get; rw [e4] at this; exact this
  have hpw : Row h2 (h.next + 5) [F, V, S, nilS] := by
    have := hx6.row.mono hl.sub
    rw [e5] at this
    exact this
  have hloop := hl.loop
  have hmark := hl.mark
  rw [en] at hloop hmark
  rw [en]
  rw [en] at hl
  generalize hr0 : loopO _ ts _ _ _ _ = r at hloop ⊢
  have r1 : r.state = .ready := by rw [← hr0]; rfl
  have r2 : View 31 r.tmps f0 := by rw [← hr0]; exact hv
  have r3 : r.params = #[18] := by rw [← hr0]; rfl
  have r4 : compCode Try.prog 31 r.assign = some ra53_0 := by rw [← hr0]; exact raok53_0
  have r5 : compCode Try.prog 31 r.body = some rb53_0 := by rw [← hr0]; exact rbok53_0
  have r6 : leftBy r .norm = r := by rw [← hr0]; rfl
  clear hr0 hl hv
  have hit := iterG_c (firstStep Y) (JF h2 h.next r) (fun s => s.2 = false) (fun s c hs e => by
      by_cases hw : wrongTo Y c Y.ns = []
      · rw [firstStep_hit hw] at e; cases e
      · rw [firstStep_go hw]) (g := h2) (pw := h.next + 5) (K := 110) (N0 := 10020) (n := n) (F := F) (V := V) (S := S) (T := nilS) (yv := .func (.yield (h.next + 7)) #[] #[]) (nf := Y.nf) (lo := Y.lo) (hi := Y.hi) (0, false) rfl z1 hF hpw (Cells.old hy.f hbase) rfl (by omega) (by omega) (by omega)
    (fun s g1 g' cs hj hs => by
      have hup := hj.up
      have hsn := hs.next
      exact ⟨fun i hi a1 a2 a3 a4 => by rw [hs.old i (by omega)]; exact hj.old i hi a1 a2 a3 a4, by rw [hs.old _ (by omega)]; exact hj.fst, by rw [hs.old _ (by omega)]; exact hj.r1, by rw [hs.old _ (by omega)]; exact hj.r2, by rw [hs.old _ (by omega)]; exact hj.lp, by omega⟩)
    (fun g3 ho => ⟨fun i hi _ _ _ _ => ho.old i hi, by rw [ho.old _ (by omega)]; exact d3, by rw [ho.old _ (by omega)]; exact d1, by rw [ho.old _ (by omega)]; exact d2, by rw [ho.old _ (by omega)]; exact hloop, by have := ho.next; omega⟩)
    (fun m g1 s c hm it hb hok hgo hj hfg hr1 => by
      obtain ⟨m, rfl⟩ : ∃ p, m = p + 1 := ⟨m - 1, by omega⟩
      rw [call_yield]
      obtain ⟨s1, s2⟩ := s
      have hgo : s2 = false := hgo
      subst hgo
      have hup := hj.up
      have hloop1 : g1.get (h.next + 7) = some (.loop r) := hj.lp
      have hfst : g1.get (h.next + 3) = some (.row [.int .i64 s1] true 0) := hj.fst
      have hq1 := hj.r1
      have hq2 : g1.get (h.next + 2) = some (.row [.int .i64 0] true 0) := hj.r2
      suffices key : ∃ e g', roundA Try.prog (call m) m (h.next + 7) [.agg ⟨arr c⟩] g1 = some (.bool (goesOn e), g') ∧ (goesOn e = (firstStep Y (s1, false) c).2 ∧ JF h2 h.next r (firstStep Y (s1, false) c).1 g' ∧ (∀ i, i < h2.next + 3 → i ≠ h.next + 1 → i ≠ h.next + 2 → i ≠ h.next + 3 → i ≠ h.next + 7 → g'.get i = g1.get i) ∧ g'.floor = h2.floor ∧ g'.next ≤ g1.next + 110) by
        obtain ⟨e, g', k1, k0, k2, k3, k4, k5⟩ := key
        have kb : ∀ i, i < h.next → g'.get i = h.get i := fun i hi => by rw [k3 i (by omega) (by omega) (by omega) (by omega) (by omega), hj.old i (by omega) (by omega) (by omega) (by omega) (by omega), hbase i hi]
        have krow : ∀ i cs, i < h2.next + 3 → i ≠ h.next + 1 → i ≠ h.next + 2 → i ≠ h.next + 3 → i ≠ h.next + 7 → Row g1 i cs → Row g' i cs := fun i cs h1 a1 a2 a3 a4 ⟨w, gr, e⟩ => ⟨w, gr, by rw [k3 i h1 a1 a2 a3 a4]; exact e⟩
        rw [k0] at k1
        refine ⟨g', k1, k2, ⟨krow _ _ (by omega) (by omega) (by omega) (by omega) (by omega) it.w, krow _ _ (by omega) (by omega) (by omega) (by omega) (by omega) it.y, krow _ _ (by omega) (by omega) (by omega) (by omega) (by omega) it.c, Cells.old hy.f kb⟩, by rw [k3 _ (by omega) (by omega) (by omega) (by omega) (by omega)]; exact hb, k4, k5⟩
      refine round_run (f := f0) hloop1 r1 r2 (by rw [r3]; rfl) (by omega) r4 r5 ?_
      have hset : setFr f0 r.params.toList [.agg ⟨arr c⟩] = upd f0 18 (.agg ⟨arr c⟩) := by rw [r3]; rfl
      rw [hset]
      simp only [rn0, rn1, rn2, rn3, rn4, rn5, rn6, rn7, rn8, if_true, if_false, Nat.le_refl, true_and, and_true, decide_true, decide_false, Bool.not_true, Bool.not_false, reduceIte, Nat.reduceEqDiff, Nat.reduceAdd, Nat.reduceMul, Nat.reduceSub, Nat.reduceLeDiff, Nat.reduceLT, ra53_0]
      refine step_new (vs := arr c) (by omega) (by omega) rfl (by simp only [rn0, rn1, rn2, rn3, rn4, rn5, rn6, rn7, rn8, if_true, if_false, Nat.le_refl, true_and, and_true, decide_true, decide_false, Bool.not_true, Bool.not_false, reduceIte, Nat.reduceEqDiff, Nat.reduceAdd, Nat.reduceMul, Nat.reduceSub, Nat.reduceLeDiff, Nat.reduceLT]; rfl) arr_one arr_len rfl fun g2 hx2 => ?_
      have n2 := hx2.next
      have f2 := hx2.floor
      simp only [rn0, rn1, rn2, rn3, rn4, rn5, rn6, rn7, rn8, if_true, if_false, Nat.le_refl, true_and, and_true, decide_true, decide_false, Bool.not_true, Bool.not_false, reduceIte, Nat.reduceEqDiff, Nat.reduceAdd, Nat.reduceMul, Nat.reduceSub, Nat.reduceLeDiff, Nat.reduceLT]
      refine ⟨by rw [hx2.old _ (by omega)]; exact hloop1, by omega, fun g3 hp3 => ?_⟩
      have n3 := hp3.next
      have f3 := hp3.floor
      have g3old : ∀ i, i < g1.next → i ≠ h.next + 7 → g3.get i = g1.get i := fun i hi hne => by rw [hp3.old i hne, hx2.old i hi]
      have g3b : ∀ i, i < h.next → g3.get i = h.get i := fun i hi => by rw [g3old i (by omega) (by omega), hj.old i (by omega) (by omega) (by omega) (by omega) (by omega), hbase i hi]
      have hy3 := hy.mono (AHeap.subOf g3b)
      have rp3 : Row g3 (h.next + 4) [F, V, S, nilS] := ⟨_, _, by rw [g3old _ (by omega) (by omega), hj.old _ (by omega) (by omega) (by omega) (by omega) (by omega)]; exact d4⟩
      have rc3 : Row g3 g1.next (arr c) := by
        obtain ⟨w, gr, e⟩ := hx2.row
        exact ⟨w, gr, by rw [hp3.old _ (by omega)]; exact e⟩
      have q1 := rp3.whole (n := 4) rfl
      have q2 := rc3.whole arr_len
      have hrange : ∀ k, k < Y.nf → 0 ≤ c k ∧ c k ≤ 20 := fun k hk => by have := hok.1 k hk; have := hF k hk; omega
      obtain ⟨wv, g4, ew, hwi, hwm, hw1, hwb, hwl, hwo⟩ := wrong_c (n := m) (h := g3) (F := F) (V := V) (S := S) (T := nilS) (Y := Y) (b := c) (by omega) (by omega) (by omega) hy3.s z3 hG.s ⟨hy3.v, z1, hG.v, hrange⟩ (ho4 _ rfl)
      have n4 := hwm.next
      have u4 := hwm.up
      have f4 := hwm.floor
      have g4old : ∀ i, i < g1.next → i ≠ h.next + 7 → g4.get i = g1.get i := fun i hi hne => by rw [hwo i (by omega), g3old i hi hne]
      have k1 : g4.get (h.next + 1) = some (.row [.int .i64 0] true 0) := by rw [g4old _ (by omega) (by omega)]; exact hq1
      have k2 : g4.get (h.next + 2) = some (.row [.int .i64 0] true 0) := by rw [g4old _ (by omega) (by omega)]; exact hq2
      have k3 : g4.get (h.next + 3) = some (.row [.int .i64 s1] true 0) := by rw [g4old _ (by omega) (by omega)]; exact hfst
      have kl : g4.get (h.next + 7) = some (.loop { r with state := .busy }) := by rw [hwo _ (by omega)]; exact hp3.get
      by_cases hW : wrongTo Y c Y.ns = []
      · have hlen : (wrongTo Y c Y.ns).length = 0 := by rw [hW]; rfl
        rw [firstStep_hit hW]
        simp only [rn0, rn1, rn2, rn3, rn4, rn5, rn6, rn7, rn8, if_true, if_false, Nat.le_refl, true_and, and_true, decide_true, decide_false, Bool.not_true, Bool.not_false, reduceIte, Nat.reduceEqDiff, Nat.reduceAdd, Nat.reduceMul, Nat.reduceSub, Nat.reduceLeDiff, Nat.reduceLT, rb53_0, c2, c3, c5, c6, q1, q2, ew, Cells.len hwi, hlen, Int.natCast_zero]
        refine step_store (vs := [.int .i64 0]) rfl k1 (by omega) (by omega) rfl rfl rfl (by simp) fun g5 hs5 => ?_
        rw [splice1] at hs5
        have n5 := hs5.next
        have f5 := hs5.floor
        simp only [rn0, rn1, rn2, rn3, rn4, rn5, rn6, rn7, rn8, if_true, if_false, Nat.le_refl, true_and, and_true, decide_true, decide_false, Bool.not_true, Bool.not_false, reduceIte, Nat.reduceEqDiff, Nat.reduceAdd, Nat.reduceMul, Nat.reduceSub, Nat.reduceLeDiff, Nat.reduceLT, c2, c3, c5, c6]
        refine step_store (vs := [.int .i64 7]) rfl (by rw [hs5.old _ (by omega)]; exact k2) (by omega) (by omega) rfl rfl rfl (by simp) fun g6 hs6 => ?_
        rw [splice1] at hs6
        have n6 := hs6.next
        have f6 := hs6.floor
        simp only [rn0, rn1, rn2, rn3, rn4, rn5, rn6, rn7, rn8, if_true, if_false, Nat.le_refl, true_and, and_true, decide_true, decide_false, Bool.not_true, Bool.not_false, reduceIte, Nat.reduceEqDiff, Nat.reduceAdd, Nat.reduceMul, Nat.reduceSub, Nat.reduceLeDiff, Nat.reduceLT]
        refine ⟨by rw [hs6.old _ (by omega), hs5.old _ (by omega)]; exact kl, by omega, by omega, fun g7 hp7 => ⟨rfl, ?_, ?_, by rw [hp7.floor]; omega, by rw [hp7.next]; omega⟩⟩
        · refine ⟨fun i hi a1 a2 a3 a4 => ?_, ?_, ?_, ?_, ?_, by rw [hp7.next]; omega⟩
          · rw [hp7.old i a4, hs6.old i a2, hs5.old i a1, g4old i (by omega) a4]; exact hj.old i hi a1 a2 a3 a4
          · rw [hp7.old _ (by omega), hs6.old _ (by omega), hs5.old _ (by omega)]; exact k3
          · rw [hp7.old _ (by omega), hs6.old _ (by omega)]; exact hs5.get
          · rw [hp7.old _ (by omega)]; exact hs6.get
          · exact hp7.get
        · intro i hi a1 a2 a3 a4
          rw [hp7.old i a4, hs6.old i a2, hs5.old i a1]
          by_cases hi1 : i < g1.next
          · exact g4old i hi1 a4
          · omega
      · have hlen : 0 < (wrongTo Y c Y.ns).length := List.length_pos_iff.2 hW
        have hlen' : ¬ ((wrongTo Y c Y.ns).length : Int) = 0 := by omega
        have i0 : indexSl 1 wv (.int .i64 0) = some (ptrO wv 1 0 0) := Cells.idx hwi hlen
        have l0 := Cells.ld hwi hlen Nat.zero_lt_one
        have l5 : loadCell g4 (.pointer (some ⟨h.next + 3, 0, none⟩)) = some (.int .i64 s1) := row_ld0 k3
        rw [firstStep_go hW]
        simp only [rn0, rn1, rn2, rn3, rn4, rn5, rn6, rn7, rn8, if_true, if_false, Nat.le_refl, true_and, and_true, decide_true, decide_false, Bool.not_true, Bool.not_false, reduceIte, Nat.reduceEqDiff, Nat.reduceAdd, Nat.reduceMul, Nat.reduceSub, Nat.reduceLeDiff, Nat.reduceLT, rb53_0, c2, c3, c5, c6, q1, q2, ew, Cells.len hwi, hlen']
        refine W_draw All ?_
        simp only [rn0, rn1, rn2, rn3, rn4, rn5, rn6, rn7, rn8, if_true, if_false, Nat.le_refl, true_and, and_true, decide_true, decide_false, Bool.not_true, Bool.not_false, reduceIte, Nat.reduceEqDiff, Nat.reduceAdd, Nat.reduceMul, Nat.reduceSub, Nat.reduceLeDiff, Nat.reduceLT, c2, c3, c5, c6, l5, i0, l0, valN_tmp, Nat.reduceLT]
        refine up_store (b := h.next + 3) (off := 0) (vs := [.int .i64 (max s1 ((wrongTo Y c Y.ns).getD 0 0))]) rfl k3 (by omega) (by omega) rfl rfl rfl (by simp) (fun _ _ => trivial) fun g6 hs6 => ?_
        rw [splice1] at hs6
        have n6 := hs6.next
        have f6 := hs6.floor
        simp only [rn0, rn1, rn2, rn3, rn4, rn5, rn6, rn7, rn8, if_true, if_false, Nat.le_refl, true_and, and_true, decide_true, decide_false, Bool.not_true, Bool.not_false, reduceIte, Nat.reduceEqDiff, Nat.reduceAdd, Nat.reduceMul, Nat.reduceSub, Nat.reduceLeDiff, Nat.reduceLT]
        refine ⟨by rw [hs6.old _ (by omega)]; exact kl, by omega, by omega, fun g7 hp7 => ⟨rfl, ?_, ?_, by rw [hp7.floor]; omega, by rw [hp7.next]; omega⟩⟩
        · refine ⟨fun i hi a1 a2 a3 a4 => ?_, ?_, ?_, ?_, ?_, by rw [hp7.next]; omega⟩
          · rw [hp7.old i a4, hs6.old i a3, g4old i (by omega) a4]; exact hj.old i hi a1 a2 a3 a4
          · rw [hp7.old _ (by omega)]; exact hs6.get
          · rw [hp7.old _ (by omega), hs6.old _ (by omega)]; exact k1
          · rw [hp7.old _ (by omega), hs6.old _ (by omega)]; exact k2
          · rw [hp7.get, r6]; rfl
        · intro i hi a1 a2 a3 a4
          rw [hp7.old i a4, hs6.old i a3]
          by_cases hi1 : i < g1.next
          · exact g4old i hi1 a4
          · omega)
    (by omega)
  obtain ⟨v5, g7, e7, j7, fl7, n7⟩ := hit
  change JF h2 h.next r (firstRun Y) g7 at j7
  generalize firstRun Y = fr at j7 hrr
  obtain ⟨fr1, fr2⟩ := fr
  have hup := j7.up
  have hm7 : ∀ g8, Put g7 g8 (h.next + 7) (some (.loop { (if fr2 then leftBy r .ret else r) with state := .exhausted })) → g8.get (h.next + 6) = some .deferred := fun g8 hp8 => by rw [hp8.old _ (by omega), j7.old _ (by omega) (by omega) (by omega) (by omega) (by omega)]; exact hmark
  cases fr2 with
  | true =>
    have hrr' : res = (0, 7) := hrr
    rw [hrr']
    refine ⟨v5, g7, .ret, by rw [e5]; exact e7, by omega, by omega, j7.lp, fun g8 hp8 => ?_⟩
    have n8 := hp8.next
    have f8 := hp8.floor
    have m8 := hm7 g8 hp8
    simp only [rn0, rn1, rn2, rn3, rn4, rn5, rn6, rn7, rn8, if_true, if_false, Nat.le_refl, true_and, and_true, decide_true, decide_false, Bool.not_true, Bool.not_false, reduceIte, Nat.reduceEqDiff, Nat.reduceAdd, Nat.reduceMul, Nat.reduceSub, Nat.reduceLeDiff, Nat.reduceLT]
    refine ret_mark (.inr rfl) m8 (by omega) (by omega) fun g9 hp9 => ?_
    have l1 : loadCell g9 (f0 2) = some (.int .i64 0) := by rw [c2]; exact row_ld0 (by rw [hp9.old _ (by omega), hp8.old _ (by omega)]; exact j7.r1)
    have l2 : loadCell g9 (f0 3) = some (.int .i64 7) := by rw [c3]; exact row_ld0 (by rw [hp9.old _ (by omega), hp8.old _ (by omega)]; exact j7.r2)
    exact ⟨_, res_11 l1 l2, rfl⟩
  | false =>
    have hrr' : res = (fr1, 0) := hrr
    rw [hrr']
    refine ⟨v5, g7, .norm, by rw [e5]; exact e7, by omega, by omega, by rw [r6]; exact j7.lp, fun g8 hp8 => ?_⟩
    rw [r6] at hp8
    have n8 := hp8.next
    have f8 := hp8.floor
    have m8 := hm7 g8 hp8
    have b1 : g8.get (h.next + 1) = some (.row [.int .i64 0] true 0) := by rw [hp8.old _ (by omega)]; exact j7.r1
    have b2 : g8.get (h.next + 2) = some (.row [.int .i64 0] true 0) := by rw [hp8.old _ (by omega)]; exact j7.r2
    have l5 : loadCell g8 (.pointer (some ⟨h.next + 3, 0, none⟩)) = some (.int .i64 fr1) := row_ld0 (by rw [hp8.old _ (by omega)]; exact j7.fst)
    simp only [rn0, rn1, rn2, rn3, rn4, rn5, rn6, rn7, rn8, if_true, if_false, Nat.le_refl, true_and, and_true, decide_true, decide_false, Bool.not_true, Bool.not_false, reduceIte, Nat.reduceEqDiff, Nat.reduceAdd, Nat.reduceMul, Nat.reduceSub, Nat.reduceLeDiff, Nat.reduceLT, c2, c3, c5, l5]
    refine step_store (vs := [.int .i64 fr1]) rfl b1 (by omega) (by omega) rfl rfl rfl (by simp) fun g9 hs9 => ?_
    rw [splice1] at hs9
    have n9 := hs9.next
    have f9 := hs9.floor
    simp only [rn0, rn1, rn2, rn3, rn4, rn5, rn6, rn7, rn8, if_true, if_false, Nat.le_refl, true_and, and_true, decide_true, decide_false, Bool.not_true, Bool.not_false, reduceIte, Nat.reduceEqDiff, Nat.reduceAdd, Nat.reduceMul, Nat.reduceSub, Nat.reduceLeDiff, Nat.reduceLT, c2, c3, c5]
    refine step_store (vs := [.int .i64 0]) rfl (by rw [hs9.old _ (by omega)]; exact b2) (by omega) (by omega) rfl rfl rfl (by simp) fun g10 hs10 => ?_
    rw [splice1] at hs10
    have n10 := hs10.next
    have f10 := hs10.floor
    simp only [rn0, rn1, rn2, rn3, rn4, rn5, rn6, rn7, rn8, if_true, if_false, Nat.le_refl, true_and, and_true, decide_true, decide_false, Bool.not_true, Bool.not_false, reduceIte, Nat.reduceEqDiff, Nat.reduceAdd, Nat.reduceMul, Nat.reduceSub, Nat.reduceLeDiff, Nat.reduceLT]
    refine ret_mark (.inr rfl) (by rw [hs10.old _ (by omega), hs9.old _ (by omega)]; exact m8) (by omega) (by omega) fun g11 hp11 => ?_
    have l1 : loadCell g11 (.pointer (some ⟨h.next + 1, 0, none⟩)) = some (.int .i64 fr1) := row_ld0 (by rw [hp11.old _ (by omega), hs10.old _ (by omega)]; exact hs9.get)
    have l2 : loadCell g11 (.pointer (some ⟨h.next + 2, 0, none⟩)) = some (.int .i64 0) := row_ld0 (by rw [hp11.old _ (by omega)]; exact hs10.get)
    refine ⟨_, res_11 (x := .int .i64 fr1) (y := .int .i64 0) ?_ ?_, rfl⟩
    · simp only [rn0, rn1, rn2, rn3, rn4, rn5, rn6, rn7, rn8, if_true, if_false, Nat.le_refl, true_and, and_true, decide_true, decide_false, Bool.not_true, Bool.not_false, reduceIte, Nat.reduceEqDiff, Nat.reduceAdd, Nat.reduceMul, Nat.reduceSub, Nat.reduceLeDiff, Nat.reduceLT, c2, l1]
    · simp only [rn0, rn1, rn2, rn3, rn4, rn5, rn6, rn7, rn8, if_true, if_false, Nat.le_refl, true_and, and_true, decide_true, decide_false, Bool.not_true, Bool.not_false, reduceIte, Nat.reduceEqDiff, Nat.reduceAdd, Nat.reduceMul, Nat.reduceSub, Nat.reduceLeDiff, Nat.reduceLT, c3, l2]
end Go.Vm.Vat

namespace Go.Vm.Vat
open Go.Proofs
set_option linter.unusedSimpArgs false
set_option linter.unusedVariables false
set_option maxRecDepth 10000
variable {n : Nat} {h : AHeap}

def mixI (k : Nat) (i : Nat) : Value := .int .i64 (if i < k then (i : Int) else 0)
theorem mixI_one {m k : Nat} : allB oneCell ((List.range m).map (mixI k)) = true := by rw [allB_iff]; intro v hv; obtain ⟨i, _, rfl⟩ := List.mem_map.1 hv; rfl
theorem mixI_splice {m k : Nat} (hk : k < m) : splice ((List.range m).map (mixI k)) k [.int .i64 (k : Int)] = (List.range m).map (mixI (k + 1)) := by
  refine map_splice (by simp; omega) (fun i hi hc => ?_) (fun j hj => ?_)
  · simp only [List.length_cons, List.length_nil] at hc
    simp only [mixI]
    congr 1
    by_cases c : i < k
    · rw [if_pos c, if_pos (by omega)]
    · rw [if_neg c, if_neg (by omega)]
  · simp only [List.length_cons, List.length_nil] at hj
    obtain rfl : j = 0 := by omega
    simp only [mixI, Nat.add_zero, List.getElem?_cons_zero]
    rw [if_pos (by omega)]
theorem repl_mixI {m : Nat} : repl [.int .i64 0] m = (List.range m).map (mixI 0) := by
  have h0 : ∀ i, mixI 0 i = .int .i64 0 := fun i => by simp [mixI]
  have : ∀ m, repl [(.int .i64 0 : Value)] m = List.replicate m (.int .i64 0) := by
    intro m
    induction m with
    | zero => rfl
    | succ m ih => rw [repl, ih, List.replicate_succ]; rfl
  rw [this]
  apply List.ext_getElem?
  intro i
  by_cases hi : i < m
  · rw [List.getElem?_replicate, if_pos hi, List.getElem?_map, List.getElem?_range hi]; simp [h0]
  · rw [List.getElem?_eq_none (by simp; omega), List.getElem?_eq_none (by simp; omega)]
theorem make_intsL {z : List Value} {m : Nat} (hm : m ≤ 1000) : makeSl 1 8 z h (.int .i64 (m : Int)) (.int .i64 (m : Int)) = newSlice h (repl z m) m m 0 := by
  show (bif Nat.ble m m && Nat.ble (m * 8) maxBytes && Nat.ble m maxBytes then newSlice h (repl z m) m m 0 else none) = _
  have e1 : Nat.ble m m = true := ble_iff.2 (Nat.le_refl _)
  have e2 : Nat.ble (m * 8) maxBytes = true := ble_iff.2 (by simp [maxBytes]; omega)
  have e3 : Nat.ble m maxBytes = true := ble_iff.2 (by simp [maxBytes]; omega)
  rw [e1, e2, e3]; rfl
/-- a list as a function -/
def atL (l : List Int) (i : Nat) : Int := l.getD i 0
/-- what Leave keeps: the least list so far -/
noncomputable def leaveStep (Y : MY) (s : List Int) (c : Nat → Int) : List Int × Bool :=
  (if Shortlex (atL (wrongTo Y c Y.ns)) (wrongTo Y c Y.ns).length (atL s) s.length then wrongTo Y c Y.ns else s, true)
def upTo (m : Nat) : List Int := (List.range m).map fun (i : Nat) => (i : Int)
noncomputable def leaveRun (Y : MY) : List Int := (runL (leaveStep Y) (upTo Y.ns) (enumB Y.lo Y.hi Y.nf 0 fun _ => 0)).1
/-- what lies in memory meanwhile -/
structure JL (h2 : AHeap) (p : Nat) (s : List Int) (g : AHeap) : Prop where
  old : ∀ i, i < h2.next → i ≠ p + 2 → g.get i = h2.get i
  lst : ∃ v, g.get (p + 2) = some (.row [v] true 0) ∧ Ints g v s.length (atL s) ∧ oneCell v = true ∧ ∀ a k c, v = .slice (some a) k c → a.block = p + 1 ∨ (h2.next + 3 ≤ a.block ∧ a.block < g.next)
  short : s.length ≤ 5
  up : h2.next + 3 ≤ g.next
theorem ints_old {g g' : AHeap} {v : Value} {m : Nat} {a : Nat → Int} (hi : Ints g v m a) (ho : ∀ x k c, v = .slice (some x) k c → g'.get x.block = g.get x.block) : Ints g' v m a := by
  obtain ⟨x, cap, e, hsp, h0 | ⟨b, o, cs, w, gr, e1, e2, e3⟩⟩ := hi
  · exact ⟨x, cap, e, hsp, .inl h0⟩
  · subst e1
    exact ⟨_, cap, e, hsp, .inr ⟨b, o, cs, w, gr, rfl, by rw [ho _ _ _ e]; exact e2, e3⟩⟩
/-- what Leave answers -/
def LeaveR (h : AHeap) (Y : MY) (v : Value) (h' : AHeap) : Prop := Made h h' 260000 ∧
  ((faultN Y ≠ 0 ∧ v = .tuple ⟨[nilS, .int .i64 (faultN Y)]⟩) ∨ (faultN Y = 0 ∧ ∃ l, v = .tuple ⟨[l, .int .i64 0]⟩ ∧ Ints h' l (leaveRun Y).length (atL (leaveRun Y)) ∧ (leaveRun Y).length ≤ 5))
noncomputable def s54 : SCode := (.seq (.ops [⟨(some 1), none, .box (T 0)⟩, ⟨(some 2), none, .mov (.const (.slice none 0 0))⟩, ⟨(some 3), none, .mov (.const (.int .i64 (0)))⟩]) (.seq (.seq (.ops [⟨(some 10), none, .loadN 3 (T 1)⟩, ⟨(some 11), none, .call (.func 30) [(T 10)]⟩, ⟨(some 4), none, .mov (T 11)⟩]) (.seq (.ops [⟨(some 12), none, .mov (T 4)⟩, ⟨(some 13), none, .int2 .neq (T 12) (.const (.int .i64 (0)))⟩]) (.cond (T 13) (.seq (.ops [⟨(some 14), none, .mov (T 4)⟩, ⟨(some 2), none, .mov (.const (.slice none 0 0))⟩, ⟨(some 3), none, .mov (T 14)⟩]) .ret) .skip))) (.seq (.ops [⟨(some 15), none, .fieldAddr 2 (T 1)⟩, ⟨(some 16), none, .load1 (T 15)⟩, ⟨(some 17), none, .len (T 16)⟩, ⟨(some 18), none, .mkslice 1 8 [(.int .i64 (0))] (T 17) (T 17)⟩, ⟨(some 5), none, .alloc [(.slice none 0 0)]⟩, ⟨none, none, .store 1 (T 5) (T 18)⟩]) (.seq (.seq (.ops [⟨(some 19), none, .fieldAddr 2 (T 1)⟩, ⟨(some 20), none, .load1 (T 19)⟩, ⟨(some 21), none, .len (T 20)⟩, ⟨(some 22), none, .mov (.const (.int .i64 (0)))⟩]) (.block 0 (.loop (.seq (.ops [⟨(some 23), none, .int2 .lss (T 22) (T 21)⟩]) (.seq (.cond (T 23) .skip (.exit 0)) (.seq (.block 1 (.seq (.ops [⟨(some 24), none, .mov (T 22)⟩, ⟨(some 6), none, .mov (T 24)⟩]) (.ops [⟨(some 25), none, .load1 (T 5)⟩, ⟨(some 26), none, .mov (T 6)⟩, ⟨(some 27), none, .mov (T 6)⟩, ⟨(some 28), none, .idxSl 1 (T 25) (T 26)⟩, ⟨none, none, .store 1 (T 28) (T 27)⟩]))) (.ops [⟨(some 29), none, .int2 .add (T 22) (.const (.int .i64 (1)))⟩, ⟨(some 22), none, .mov (T 29)⟩]))))))) (.seq (.ops [⟨(some 30), none, .loadN 3 (T 1)⟩, ⟨(some 31), none, .build #[(0, 3), (3, 1)] [(.slice none 0 0), (.slice none 0 0), (.slice none 0 0), (.slice none 0 0)] [0] [(T 30)]⟩, ⟨(some 7), none, .alloc [(.slice none 0 0), (.slice none 0 0), (.slice none 0 0), (.slice none 0 0)]⟩, ⟨none, none, .store 4 (T 7) (T 31)⟩]) (.seq (.seq (.ops [⟨(some 32), none, .loadN 4 (T 7)⟩, ⟨(some 33), none, .call (.func 105) [(T 32)]⟩]) (.block 2 (.range (T 33) #[34] (rangeOf Try.f54 0).1 (rangeOf Try.f54 0).2))) (.seq (.ops [⟨(some 42), none, .load1 (T 5)⟩, ⟨(some 2), none, .mov (T 42)⟩, ⟨(some 3), none, .mov (.const (.int .i64 (0)))⟩]) .ret)))))))
theorem fok54 : FnOk Try.prog 54 43 s54 [.tmp 2, .tmp 3] := ⟨Try.f54, _, Try.func54, rfl, Try.ntmps54, by kernel_rfl, by kernel_rfl⟩
def ra54_0 : SCode := (.ops [⟨(some 8), none, .alloc [(.int .i64 (0)), (.int .i64 (0)), (.int .i64 (0)), (.int .i64 (0)), (.int .i64 (0))]⟩, ⟨none, none, .store 5 (T 8) (T 34)⟩])
theorem raok54_0 : compCode Try.prog 43 (rangeOf Try.f54 0).1 = some ra54_0 := by kernel_rfl
def rb54_0 : SCode := (.block 3 (.seq (.ops [⟨(some 35), none, .loadN 4 (T 7)⟩, ⟨(some 36), none, .loadN 5 (T 8)⟩, ⟨(some 37), none, .call (.func 106) [(T 35), (T 36)]⟩, ⟨(some 9), none, .mov (T 37)⟩]) (.seq (.ops [⟨(some 38), none, .mov (T 9)⟩, ⟨(some 39), none, .load1 (T 5)⟩, ⟨(some 40), none, .call (.func 107) [(T 38), (T 39)]⟩]) (.cond (T 40) (.ops [⟨(some 41), none, .mov (T 9)⟩, ⟨none, none, .store 1 (T 5) (T 41)⟩]) .skip))))
theorem rbok54_0 : compCode Try.prog 43 (rangeOf Try.f54 0).2 = some rb54_0 := by kernel_rfl
theorem leave_c (hn : 11050 ≤ n) (hr : h.next + 400000 < far) (hfl : h.floor ≤ h.next) {F V S : Value} {Y : MY} (hy : YardR h F V S Y) (hY : Thin Y) :
    ∃ v h', call n (.func (.func 54) #[] #[]) [.agg ⟨[F, V, S]⟩] h = some (v, h') ∧ LeaveR h Y v h' := by
  obtain ⟨n, rfl⟩ : ∃ p, n = p + 1 := ⟨n - 1, by omega⟩
  refine call_any0 fok54 rfl rfl (by simp) ?_
  simp only [s54, W_seq, W_ops]
  refine ops_box (cs := [F, V, S]) (by omega) rfl hy.one fun g1 hx1 => ?_
  have n1 := hx1.next
  have f1 := hx1.floor
  have e1 : g1.next = h.next + 1 := n1
  have hy1 := hy.mono hx1.sub
  have w1 := hx1.row.whole (n := 3) rfl
  have ec := checkYard_c (n := n) (h := g1) (by omega) (by omega) hy1 hY
  by_cases hf : faultN Y = 0
  case neg =>
    simp only [rn0, rn1, rn2, rn3, rn4, rn5, rn6, rn7, rn8, if_true, if_false, Nat.le_refl, true_and, and_true, decide_true, decide_false, Bool.not_true, Bool.not_false, reduceIte, Nat.reduceEqDiff, Nat.reduceAdd, Nat.reduceMul, Nat.reduceSub, Nat.reduceLeDiff, Nat.reduceLT, w1, ec, hf, ret_tt]
    exact ⟨⟨hx1.sub, by omega, by omega, by omega⟩, .inl ⟨hf, rfl⟩⟩
  obtain ⟨hG, hsz⟩ := fault_size hf
  obtain ⟨z1, z2, z3⟩ := hG.sz
  have hF : ∀ k, k < Y.nf → 0 ≤ Y.lo k ∧ Y.lo k ≤ Y.hi k ∧ Y.hi k ≤ 20 := hG.f
  have ho4 : ∀ T, oneCell T = true → allB oneCell [F, V, S, T] = true := fun T hT => by have := hy.one; simp [allB] at this ⊢; simp [this, hT]
  have hlenE : (enumB Y.lo Y.hi Y.nf 0 fun _ => 0).length ≤ 2000 := by
    have h1 := enumB_len (lo := Y.lo) (hi := Y.hi) Y.nf 0 (fun _ => 0) fun k _ hk => (hF k (by omega)).2.1
    have h2 := sizeN_prod (lo := Y.lo) (hi := Y.hi) Y.nf 0
    simp only [Nat.zero_add, sizeN, Int.one_mul] at h2
    omega
  have r1 := hx1.row
  simp only [rn0, rn1, rn2, rn3, rn4, rn5, rn6, rn7, rn8, if_true, if_false, Nat.le_refl, true_and, and_true, decide_true, decide_false, Bool.not_true, Bool.not_false, reduceIte, Nat.reduceEqDiff, Nat.reduceAdd, Nat.reduceMul, Nat.reduceSub, Nat.reduceLeDiff, Nat.reduceLT, w1, ec, hf, r1.ld, Nat.zero_add, List.getElem?_cons_zero, List.getElem?_cons_succ, Cells.len hy1.s, make_intsL (m := Y.ns) (by omega), repl_mixI]
  refine step_slice (by omega) mixI_one fun g2 hx2 => ?_
  have n2 := hx2.next
  have f2 := hx2.floor
  have e2 : g2.next = h.next + 2 := by omega
  rw [e1]
  simp only [rn0, rn1, rn2, rn3, rn4, rn5, rn6, rn7, rn8, if_true, if_false, Nat.le_refl, true_and, and_true, decide_true, decide_false, Bool.not_true, Bool.not_false, reduceIte, Nat.reduceEqDiff, Nat.reduceAdd, Nat.reduceMul, Nat.reduceSub, Nat.reduceLeDiff, Nat.reduceLT]
  refine step_new (vs := [.slice (some ⟨h.next + 1, 0, none⟩) Y.ns Y.ns]) (by omega) (by omega) rfl (by first | rfl | (simp only [rn0, rn1, rn2, rn3, rn4, rn5, rn6, rn7, rn8, if_true, if_false, Nat.le_refl, true_and, and_true, decide_true, decide_false, Bool.not_true, Bool.not_false, reduceIte, Nat.reduceEqDiff, Nat.reduceAdd, Nat.reduceMul, Nat.reduceSub, Nat.reduceLeDiff, Nat.reduceLT]; rfl)) rfl rfl rfl fun g3 hx3 => ?_
  have n3 := hx3.next
  have f3 := hx3.floor
  have e3 : g3.next = h.next + 3 := by omega
  rw [e2]
  have r3 : Row g3 h.next [F, V, S] := (r1.mono hx2.sub).mono hx3.sub
  have hl1 : g3.get (h.next + 1) = some (.row ((List.range Y.ns).map (mixI 0)) true 0) := by rw [hx3.old _ (by omega)]; have := hx2.get; rw [e1] at this; exact this
  have hl2 : g3.get (h.next + 2) = some (.row [.slice (some ⟨h.next + 1, 0, none⟩) Y.ns Y.ns] true 0) := by have := hx3.get; rw [e2] at this; exact this
  have old3 : ∀ i, i < h.next → g3.get i = h.get i := fun i hi => by rw [hx3.old i (by omega), hx2.old i (by omega), hx1.old i hi]
  have hy3 := hy.mono (AHeap.subOf old3)
  simp only [rn0, rn1, rn2, rn3, rn4, rn5, rn6, rn7, rn8, if_true, if_false, Nat.le_refl, true_and, and_true, decide_true, decide_false, Bool.not_true, Bool.not_false, reduceIte, Nat.reduceEqDiff, Nat.reduceAdd, Nat.reduceMul, Nat.reduceSub, Nat.reduceLeDiff, Nat.reduceLT, r3.ld, Nat.zero_add, List.getElem?_cons_zero, List.getElem?_cons_succ, Cells.len hy3.s]
  refine W_loop Y.ns (fun k f g ms => ((∀ i, i < h.next + 3 → i ≠ h.next + 1 → g.get i = g3.get i) ∧ g.next = h.next + 3 ∧ g.floor = h.floor ∧ g.get (h.next + 1) = some (.row ((List.range Y.ns).map (mixI k)) true 0)) ∧ ms = [] ∧ f 1 = .pointer (some ⟨h.next, 0, none⟩) ∧ f 5 = .pointer (some ⟨h.next + 2, 0, none⟩) ∧ f 21 = .int .i64 (Y.ns : Int) ∧ f 22 = .int .i64 (k : Int)) (by simp; omega) ?_ ?_ ?_
  · simp only [rn0, rn1, rn2, rn3, rn4, rn5, rn6, rn7, rn8, if_true, if_false, Nat.le_refl, true_and, and_true, decide_true, decide_false, Bool.not_true, Bool.not_false, reduceIte, Nat.reduceEqDiff, Nat.reduceAdd, Nat.reduceMul, Nat.reduceSub, Nat.reduceLeDiff, Nat.reduceLT]
    exact ⟨⟨fun _ _ _ => trivial, e3, by omega, hl1⟩, rfl⟩
  · rintro k f g ms hk ⟨⟨o1, o2, o3, o4⟩, rfl, p1, p5, p21, p22⟩
    have hk' : (k : Int) < (Y.ns : Int) := by omega
    have hw : wrapF .i64 ((k : Int) + 1) = ((k + 1 : Nat) : Int) := by rw [wrap_in (by omega) (by omega)]; rfl
    have l2 : loadCell g (.pointer (some ⟨h.next + 2, 0, none⟩)) = some (.slice (some ⟨h.next + 1, 0, none⟩) Y.ns Y.ns) := row_ld0 (by rw [o1 _ (by omega) (by omega)]; exact hl2)
    have hix : indexSl 1 (.slice (some ⟨h.next + 1, 0, none⟩) Y.ns Y.ns) (.int .i64 (k : Int)) = some (.pointer (some ⟨h.next + 1, k, none⟩)) := by rw [idxSl_s hk, Nat.mul_one]
    simp only [rn0, rn1, rn2, rn3, rn4, rn5, rn6, rn7, rn8, if_true, if_false, Nat.le_refl, true_and, and_true, decide_true, decide_false, Bool.not_true, Bool.not_false, reduceIte, Nat.reduceEqDiff, Nat.reduceAdd, Nat.reduceMul, Nat.reduceSub, Nat.reduceLeDiff, Nat.reduceLT, p1, p5, p21, p22, hk', l2, hix]
    refine step_store (b := h.next + 1) (off := k) (vs := [.int .i64 (k : Int)]) rfl o4 (by omega) (by omega) rfl rfl rfl (by simp; omega) fun g4 hs4 => ?_
    rw [mixI_splice hk] at hs4
    have n4 := hs4.next
    have f4 := hs4.floor
    simp only [rn0, rn1, rn2, rn3, rn4, rn5, rn6, rn7, rn8, if_true, if_false, Nat.le_refl, true_and, and_true, decide_true, decide_false, Bool.not_true, Bool.not_false, reduceIte, Nat.reduceEqDiff, Nat.reduceAdd, Nat.reduceMul, Nat.reduceSub, Nat.reduceLeDiff, Nat.reduceLT, p1, p5, p21, p22, hw]
    exact ⟨fun i hi hne => by rw [hs4.old i hne, o1 i hi hne], by omega, by omega, hs4.get⟩
  rintro f g3' ms ⟨⟨o1, o2, o3, o4⟩, rfl, p1, p5, p21, p22⟩
  have r3' : Row g3' h.next [F, V, S] := by
    obtain ⟨w, gr, e⟩ := r3
    exact ⟨w, gr, by rw [o1 _ (by omega) (by omega)]; exact e⟩
  have w3 := r3'.whole (n := 3) rfl
  have i0 : Ints g3' (.slice (some ⟨h.next + 1, 0, none⟩) Y.ns Y.ns) (upTo Y.ns).length (atL (upTo Y.ns)) := by
    have hlen : (upTo Y.ns).length = Y.ns := by unfold upTo; rw [List.length_map, List.length_range]
    rw [hlen]
    refine ⟨_, _, rfl, fun x e => by cases e; rfl, .inr ⟨_, 0, _, _, _, rfl, o4, fun i j hi hj => ?_⟩⟩
    obtain rfl : j = 0 := by omega
    have e1 : (List.range Y.ns)[i]? = some i := List.getElem?_range hi
    simp only [Nat.zero_add, Nat.mul_one, Nat.add_zero, List.getElem?_map, e1, Option.map_some, mixI, if_pos hi]
    unfold atL upTo
    rw [List.getD_eq_getElem?_getD, List.getElem?_map, e1]; rfl
  simp only [rn0, rn1, rn2, rn3, rn4, rn5, rn6, rn7, rn8, if_true, if_false, Nat.le_refl, true_and, and_true, decide_true, decide_false, Bool.not_true, Bool.not_false, reduceIte, Nat.reduceEqDiff, Nat.reduceAdd, Nat.reduceMul, Nat.reduceSub, Nat.reduceLeDiff, Nat.reduceLT, p1, p5, p21, p22, Int.lt_irrefl, w3, build_work]
  refine step_new (vs := [F, V, S, nilS]) (by omega) (by omega) rfl (by simp only [rn0, rn1, rn2, rn3, rn4, rn5, rn6, rn7, rn8, if_true, if_false, Nat.le_refl, true_and, and_true, decide_true, decide_false, Bool.not_true, Bool.not_false, reduceIte, Nat.reduceEqDiff, Nat.reduceAdd, Nat.reduceMul, Nat.reduceSub, Nat.reduceLeDiff, Nat.reduceLT]; rfl) (ho4 _ rfl) rfl rfl fun g5 hx5 => ?_
  have n5 := hx5.next
  have f5 := hx5.floor
  have e5 : g5.next = h.next + 4 := by omega
  have w5 := hx5.row.whole (n := 4) rfl
  rw [o2] at w5
  obtain ⟨g6, eB, hx6⟩ := allBlues_c (n := n) (h := g5) (F := F) (V := V) (S := S) (T := nilS) (by omega) (by omega) (ho4 _ rfl)
  have n6 := hx6.next
  have f6 := hx6.floor
  rw [o2]
  simp only [rn0, rn1, rn2, rn3, rn4, rn5, rn6, rn7, rn8, if_true, if_false, Nat.le_refl, true_and, and_true, decide_true, decide_false, Bool.not_true, Bool.not_false, reduceIte, Nat.reduceEqDiff, Nat.reduceAdd, Nat.reduceMul, Nat.reduceSub, Nat.reduceLeDiff, Nat.reduceLT, w5, eB]
  refine W_range' rfl (by omega) (by simp only [rn0, rn1, rn2, rn3, rn4, rn5, rn6, rn7, rn8, if_true, if_false, Nat.le_refl, true_and, and_true, decide_true, decide_false, Bool.not_true, Bool.not_false, reduceIte, Nat.reduceEqDiff, Nat.reduceAdd, Nat.reduceMul, Nat.reduceSub, Nat.reduceLeDiff, Nat.reduceLT]; rfl) fun f0 hf0 ts hv h2 hl => ?_
  have c5 : f0 5 = .pointer (some ⟨h.next + 2, 0, none⟩) := by rw [hf0]; simp only [rn0, rn1, rn2, rn3, rn4, rn5, rn6, rn7, rn8, if_true, if_false, Nat.le_refl, true_and, and_true, decide_true, decide_false, Bool.not_true, Bool.not_false, reduceIte, Nat.reduceEqDiff, Nat.reduceAdd, Nat.reduceMul, Nat.reduceSub, Nat.reduceLeDiff, Nat.reduceLT, p5]
  have c7 : f0 7 = .pointer (some ⟨h.next + 3, 0, none⟩) := by rw [hf0]; simp only [rn0, rn1, rn2, rn3, rn4, rn5, rn6, rn7, rn8, if_true, if_false, Nat.le_refl, true_and, and_true, decide_true, decide_false, Bool.not_true, Bool.not_false, reduceIte, Nat.reduceEqDiff, Nat.reduceAdd, Nat.reduceMul, Nat.reduceSub, Nat.reduceLeDiff, Nat.reduceLT]
  clear hf0
  have nl := hl.next
  have fl := hl.floor
  have en : g6.next = h.next + 5 := by omega
  have oldh : ∀ i, i < h.next + 3 → h2.get i = g3'.get i := fun i hi => by rw [hl.old i (by omega), hx6.old i (by omega), hx5.old i (by omega)]
  have hbase : ∀ i, i < h.next → h2.get i = h.get i := fun i hi => by rw [oldh i (by omega), o1 i (by omega) (by omega), old3 i hi]
  have d2 : h2.get (h.next + 2) = some (.row [.slice (some ⟨h.next + 1, 0, none⟩) Y.ns Y.ns] true 0) := by rw [oldh _ (by omega), o1 _ (by omega) (by omega)]; exact hl2
  have d3 : h2.get (h.next + 3) = some (.row [F, V, S, nilS] true 0) := by rw [hl.old _ (by omega), hx6.old _ (by omega)]; have := hx5.get; rw [o2] at this; exact this
  have i2 : Ints h2 (.slice (some ⟨h.next + 1, 0, none⟩) Y.ns Y.ns) (upTo Y.ns).length (atL (upTo Y.ns)) := ints_old i0 fun x k c e => by cases e; exact oldh _ (by show h.next + 1 < h.next + 3; omega)
  have hpw : Row h2 (h.next + 4) [F, V, S, nilS] := by
    have := hx6.row.mono hl.sub
    rw [e5] at this
    exact this
  have hloop := hl.loop
  have hmark := hl.mark
  rw [en] at hloop hmark
  rw [en]
  rw [en] at hl
  generalize hr0 : loopO _ ts _ _ _ _ = r at hloop ⊢
  have r1' : r.state = .ready := by rw [← hr0]; rfl
  have r2' : View 43 r.tmps f0 := by rw [← hr0]; exact hv
  have r3x : r.params = #[34] := by rw [← hr0]; rfl
  have r4 : compCode Try.prog 43 r.assign = some ra54_0 := by rw [← hr0]; exact raok54_0
  have r5 : compCode Try.prog 43 r.body = some rb54_0 := by rw [← hr0]; exact rbok54_0
  have r6 : leftBy r .norm = r := by rw [← hr0]; rfl
  clear hr0 hl hv
  have hit := iter_c (leaveStep Y) (JL h2 h.next) (g := h2) (pw := h.next + 4) (K := 110) (N0 := 10020) (n := n) (F := F) (V := V) (S := S) (T := nilS) (yv := .func (.yield (h.next + 6)) #[] #[]) (nf := Y.nf) (lo := Y.lo) (hi := Y.hi) (upTo Y.ns) z1 hF hpw (Cells.old hy.f hbase) rfl (by omega) (by omega) (by omega)
    (fun s g1 g' cs hj hs => by
      have hup := hj.up
      have hsn := hs.next
      obtain ⟨v, v1, v2, v3, v4⟩ := hj.lst
      exact ⟨fun i hi a1 => by rw [hs.old i (by omega)]; exact hj.old i hi a1, ⟨v, by rw [hs.old _ (by omega)]; exact v1, ints_old v2 fun x k c e => hs.old _ (by have := v4 x k c e; omega), v3, fun a k c e => by have := v4 a k c e; omega⟩, hj.short, by omega⟩)
    (fun g3 ho => by
      have hon := ho.next
      exact ⟨fun i hi _ => ho.old i hi, ⟨_, by rw [ho.old _ (by omega)]; exact d2, ints_old i2 fun x k c e => by cases e; exact ho.old _ (by show h.next + 1 < h2.next; omega), rfl, fun a k c e => by cases e; exact .inl rfl⟩, by unfold upTo; rw [List.length_map, List.length_range]; exact z3, by omega⟩)
    (fun m g1 s c hm it hb hok hj hfg hr1 => by
      obtain ⟨m, rfl⟩ : ∃ p, m = p + 1 := ⟨m - 1, by omega⟩
      rw [call_yield]
      have hup := hj.up
      obtain ⟨v, v1, v2, v3, v4⟩ := hj.lst
      have hloop1 : g1.get (h.next + 6) = some (.loop r) := by rw [hj.old _ (by omega) (by omega)]; exact hloop
      suffices key : ∃ e g', roundA Try.prog (call m) m (h.next + 6) [.agg ⟨arr c⟩] g1 = some (.bool (goesOn e), g') ∧ (e = .norm ∧ JL h2 h.next (leaveStep Y s c).1 g' ∧ (∀ i, i < h2.next + 3 → i ≠ h.next + 2 → g'.get i = g1.get i) ∧ g'.floor = h2.floor ∧ g'.next ≤ g1.next + 110) by
        obtain ⟨e, g', k1, rfl, k2, k3, k4, k5⟩ := key
        have kb : ∀ i, i < h.next → g'.get i = h.get i := fun i hi => by rw [k3 i (by omega) (by omega), hj.old i (by omega) (by omega), hbase i hi]
        have krow : ∀ i cs, i < h2.next + 3 → i ≠ h.next + 2 → Row g1 i cs → Row g' i cs := fun i cs h1 h2 ⟨w, gr, e⟩ => ⟨w, gr, by rw [k3 i h1 h2]; exact e⟩
        refine ⟨g', k1, k2, ⟨krow _ _ (by omega) (by omega) it.w, krow _ _ (by omega) (by omega) it.y, krow _ _ (by omega) (by omega) it.c, Cells.old hy.f kb⟩, by rw [k3 _ (by omega) (by omega)]; exact hb, k4, k5⟩
      refine round_run (f := f0) hloop1 r1' r2' (by rw [r3x]; rfl) (by omega) r4 r5 ?_
      have hset : setFr f0 r.params.toList [.agg ⟨arr c⟩] = upd f0 34 (.agg ⟨arr c⟩) := by rw [r3x]; rfl
      rw [hset]
      simp only [rn0, rn1, rn2, rn3, rn4, rn5, rn6, rn7, rn8, if_true, if_false, Nat.le_refl, true_and, and_true, decide_true, decide_false, Bool.not_true, Bool.not_false, reduceIte, Nat.reduceEqDiff, Nat.reduceAdd, Nat.reduceMul, Nat.reduceSub, Nat.reduceLeDiff, Nat.reduceLT, ra54_0]
      refine step_new (vs := arr c) (by omega) (by omega) rfl (by simp only [rn0, rn1, rn2, rn3, rn4, rn5, rn6, rn7, rn8, if_true, if_false, Nat.le_refl, true_and, and_true, decide_true, decide_false, Bool.not_true, Bool.not_false, reduceIte, Nat.reduceEqDiff, Nat.reduceAdd, Nat.reduceMul, Nat.reduceSub, Nat.reduceLeDiff, Nat.reduceLT]; rfl) arr_one arr_len rfl fun g2 hx2 => ?_
      have n2 := hx2.next
      have f2 := hx2.floor
      simp only [rn0, rn1, rn2, rn3, rn4, rn5, rn6, rn7, rn8, if_true, if_false, Nat.le_refl, true_and, and_true, decide_true, decide_false, Bool.not_true, Bool.not_false, reduceIte, Nat.reduceEqDiff, Nat.reduceAdd, Nat.reduceMul, Nat.reduceSub, Nat.reduceLeDiff, Nat.reduceLT]
      refine ⟨by rw [hx2.old _ (by omega)]; exact hloop1, by omega, fun g3 hp3 => ?_⟩
      have n3 := hp3.next
      have f3 := hp3.floor
      have g3old : ∀ i, i < g1.next → i ≠ h.next + 6 → g3.get i = g1.get i := fun i hi hne => by rw [hp3.old i hne, hx2.old i hi]
      have g3b : ∀ i, i < h.next → g3.get i = h.get i := fun i hi => by rw [g3old i (by omega) (by omega), hj.old i (by omega) (by omega), hbase i hi]
      have hy3 := hy.mono (AHeap.subOf g3b)
      have rp3 : Row g3 (h.next + 3) [F, V, S, nilS] := ⟨_, _, by rw [g3old _ (by omega) (by omega), hj.old _ (by omega) (by omega)]; exact d3⟩
      have rc3 : Row g3 g1.next (arr c) := by
        obtain ⟨w, gr, e⟩ := hx2.row
        exact ⟨w, gr, by rw [hp3.old _ (by omega)]; exact e⟩
      have q1 := rp3.whole (n := 4) rfl
      have q2 := rc3.whole arr_len
      have hrange : ∀ k, k < Y.nf → 0 ≤ c k ∧ c k ≤ 20 := fun k hk => by have := hok.1 k hk; have := hF k hk; omega
      obtain ⟨wv, g4, ew, hwi, hwm, hw1, hwb, hwl, hwo⟩ := wrong_c (n := m) (h := g3) (F := F) (V := V) (S := S) (T := nilS) (Y := Y) (b := c) (by omega) (by omega) (by omega) hy3.s z3 hG.s ⟨hy3.v, z1, hG.v, hrange⟩ (ho4 _ rfl)
      have n4 := hwm.next
      have u4 := hwm.up
      have f4 := hwm.floor
      have g4old : ∀ i, i < g1.next → i ≠ h.next + 6 → g4.get i = g1.get i := fun i hi hne => by rw [hwo i (by omega), g3old i hi hne]
      have k2 : g4.get (h.next + 2) = some (.row [v] true 0) := by rw [g4old _ (by omega) (by omega)]; exact v1
      have kl : g4.get (h.next + 6) = some (.loop { r with state := .busy }) := by rw [hwo _ (by omega)]; exact hp3.get
      have vi4 : Ints g4 v s.length (atL s) := ints_old v2 fun x k c e => g4old _ (by have := v4 x k c e; omega) (by have := v4 x k c e; omega)
      have l5 : loadCell g4 (.pointer (some ⟨h.next + 2, 0, none⟩)) = some v := row_ld0 k2
      have hwl5 := wrongTo_len (Y := Y) (b := c) Y.ns
      have hsh := hj.short
      have eb := isBefore_c (n := m) (h := g4) (a := atL (wrongTo Y c Y.ns)) (m := (wrongTo Y c Y.ns).length) (b := atL s) (k := s.length) (by omega) (by omega) (by omega) hwi vi4
      by_cases hL : Shortlex (atL (wrongTo Y c Y.ns)) (wrongTo Y c Y.ns).length (atL s) s.length
      · have hst : (leaveStep Y s c).1 = wrongTo Y c Y.ns := by unfold leaveStep; rw [if_pos hL]
        simp only [rn0, rn1, rn2, rn3, rn4, rn5, rn6, rn7, rn8, if_true, if_false, Nat.le_refl, true_and, and_true, decide_true, decide_false, Bool.not_true, Bool.not_false, reduceIte, Nat.reduceEqDiff, Nat.reduceAdd, Nat.reduceMul, Nat.reduceSub, Nat.reduceLeDiff, Nat.reduceLT, rb54_0, c5, c7, q1, q2, ew, l5, eb, hL]
        refine step_store (b := h.next + 2) (off := 0) (vs := [wv]) rfl k2 (by omega) (by omega) (by cases wv <;> first | rfl | cases hw1) (by simp [allB, hw1]) rfl (by simp) fun g6 hs6 => ?_
        rw [splice1] at hs6
        have n6 := hs6.next
        have f6 := hs6.floor
        simp only [rn0, rn1, rn2, rn3, rn4, rn5, rn6, rn7, rn8, if_true, if_false, Nat.le_refl, true_and, and_true, decide_true, decide_false, Bool.not_true, Bool.not_false, reduceIte, Nat.reduceEqDiff, Nat.reduceAdd, Nat.reduceMul, Nat.reduceSub, Nat.reduceLeDiff, Nat.reduceLT]
        refine ⟨by rw [hs6.old _ (by omega)]; exact kl, by omega, by omega, fun g7 hp7 => ⟨?_, ?_, by rw [hp7.floor]; omega, by rw [hp7.next]; omega⟩⟩
        · rw [hst]
          have hn7 := hp7.next
          refine ⟨fun i hi a1 => ?_, ⟨wv, ?_, ints_old hwi fun x k c e => ?_, hw1, fun a k c e => .inr ?_⟩, by omega, by omega⟩
          · by_cases e : i = h.next + 6
            · subst e; rw [hp7.get, r6]; exact hloop.symm
            · rw [hp7.old i e, hs6.old i a1, g4old i (by omega) e]; exact hj.old i hi a1
          · rw [hp7.old _ (by omega)]; exact hs6.get
          · have := hwb x k c e
            rw [hp7.old _ (by omega), hs6.old _ (by omega)]
          · have := hwb a k c e; omega
        · intro i hi a1
          by_cases e : i = h.next + 6
          · subst e; rw [hp7.get, r6]; exact hloop1.symm
          · rw [hp7.old i e, hs6.old i a1]
            by_cases hi1 : i < g1.next
            · exact g4old i hi1 e
            · omega
      · have hst : (leaveStep Y s c).1 = s := by unfold leaveStep; rw [if_neg hL]
        simp only [rn0, rn1, rn2, rn3, rn4, rn5, rn6, rn7, rn8, if_true, if_false, Nat.le_refl, true_and, and_true, decide_true, decide_false, Bool.not_true, Bool.not_false, reduceIte, Nat.reduceEqDiff, Nat.reduceAdd, Nat.reduceMul, Nat.reduceSub, Nat.reduceLeDiff, Nat.reduceLT, rb54_0, c5, c7, q1, q2, ew, l5, eb, hL]
        refine ⟨kl, by omega, by omega, fun g7 hp7 => ⟨?_, ?_, by rw [hp7.floor]; omega, by rw [hp7.next]; omega⟩⟩
        · rw [hst]
          have hn7 := hp7.next
          refine ⟨fun i hi a1 => ?_, ⟨v, ?_, ints_old vi4 fun x k c e => ?_, v3, fun a k c e => ?_⟩, hsh, by omega⟩
          · by_cases e : i = h.next + 6
            · subst e; rw [hp7.get, r6]; exact hloop.symm
            · rw [hp7.old i e, g4old i (by omega) e]; exact hj.old i hi a1
          · rw [hp7.old _ (by omega)]; exact k2
          · have := v4 x k c e
            rw [hp7.old _ (by omega)]
          · have := v4 a k c e; omega
        · intro i hi a1
          by_cases e : i = h.next + 6
          · subst e; rw [hp7.get, r6]; exact hloop1.symm
          · rw [hp7.old i e]
            by_cases hi1 : i < g1.next
            · exact g4old i hi1 e
            · omega)
    (by omega)
  obtain ⟨v5, g7, e7, j7, fl7, n7⟩ := hit
  change JL h2 h.next (leaveRun Y) g7 at j7
  have hup := j7.up
  obtain ⟨v, v1, v2, v3, v4⟩ := j7.lst
  refine ⟨v5, g7, .norm, by rw [e5]; exact e7, by omega, by omega, by rw [r6, j7.old _ (by omega) (by omega)]; exact hloop, fun g8 hp8 => ?_⟩
  have n8 := hp8.next
  have f8 := hp8.floor
  have m8 : g8.get (h.next + 5) = some .deferred := by rw [hp8.old _ (by omega), j7.old _ (by omega) (by omega)]; exact hmark
  have l5 : loadCell g8 (.pointer (some ⟨h.next + 2, 0, none⟩)) = some v := row_ld0 (by rw [hp8.old _ (by omega)]; exact v1)
  simp only [rn0, rn1, rn2, rn3, rn4, rn5, rn6, rn7, rn8, if_true, if_false, Nat.le_refl, true_and, and_true, decide_true, decide_false, Bool.not_true, Bool.not_false, reduceIte, Nat.reduceEqDiff, Nat.reduceAdd, Nat.reduceMul, Nat.reduceSub, Nat.reduceLeDiff, Nat.reduceLT, c5, l5]
  refine ret_mark (.inr rfl) m8 (by omega) (by omega) fun g9 hp9 => ?_
  have n9 := hp9.next
  have f9 := hp9.floor
  simp only [rn0, rn1, rn2, rn3, rn4, rn5, rn6, rn7, rn8, if_true, if_false, Nat.le_refl, true_and, and_true, decide_true, decide_false, Bool.not_true, Bool.not_false, reduceIte, Nat.reduceEqDiff, Nat.reduceAdd, Nat.reduceMul, Nat.reduceSub, Nat.reduceLeDiff, Nat.reduceLT, ret_tt]
  refine ⟨⟨AHeap.subOf fun i hi => by rw [hp9.old i (by omega), hp8.old i (by omega), j7.old i (by omega) (by omega), hbase i hi], by omega, by omega, by omega⟩, .inr ⟨hf, v, rfl, ints_old v2 fun x k c e => ?_, j7.short⟩⟩
  have := v4 x k c e
  rw [hp9.old _ (by omega), hp8.old _ (by omega)]
end Go.Vm.Vat
