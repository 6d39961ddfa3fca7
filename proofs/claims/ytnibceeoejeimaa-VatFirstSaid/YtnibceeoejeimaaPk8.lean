/- Texts of the proofs of this seat, put together: VatEnds, VatEnds2, VatIter2, VatWrong, VatFirst, VatSome, VatFirstL. -/
import Derived.Test.YtnibceeoejeimaaPk7
import Derived.Laws.Entries

namespace Go.Vm.Vat
open Go.Proofs
set_option linter.unusedSimpArgs false
set_option linter.unusedVariables false
set_option maxRecDepth 10000
variable {n : Nat} {h : AHeap}

/-- four bits -/
def bitsE (b1 b2 b3 b4 : Bool) : Nat := (bif b1 then 1 else 0) + (bif b2 then 2 else 0) + (bif b3 then 4 else 0) + (bif b4 then 8 else 0)
theorem bitsE_lt {b1 b2 b3 b4 : Bool} : bitsE b1 b2 b3 b4 < 16 := by cases b1 <;> cases b2 <;> cases b3 <;> cases b4 <;> decide
theorem bitsE_1 {b1 b2 b3 b4 : Bool} : bitsE b1 b2 b3 b4 ||| 1 = bitsE true b2 b3 b4 := by cases b1 <;> cases b2 <;> cases b3 <;> cases b4 <;> rfl
theorem bitsE_2 {b1 b2 b3 b4 : Bool} : bitsE b1 b2 b3 b4 ||| 2 = bitsE b1 true b3 b4 := by cases b1 <;> cases b2 <;> cases b3 <;> cases b4 <;> rfl
theorem bitsE_4 {b1 b2 b3 b4 : Bool} : bitsE b1 b2 b3 b4 ||| 4 = bitsE b1 b2 true b4 := by cases b1 <;> cases b2 <;> cases b3 <;> cases b4 <;> rfl
theorem bitsE_8 {b1 b2 b3 b4 : Bool} : bitsE b1 b2 b3 b4 ||| 8 = bitsE b1 b2 b3 true := by cases b1 <;> cases b2 <;> cases b3 <;> cases b4 <;> rfl
theorem or_1 {other : AHeap → Option (Value × AHeap)} {b1 b2 b3 b4 : Bool} : run2 orF other (.int .i64 ((bitsE b1 b2 b3 b4 : Nat) : Int)) (.int .i64 1) h = some (.int .i64 ((bitsE true b2 b3 b4 : Nat) : Int), h) := by
  have hl := bitsE_lt (b1 := b1) (b2 := b2) (b3 := b3) (b4 := b4)
  have := r_or (other := other) (h := h) (a := bitsE b1 b2 b3 b4) (b := 1) (by omega) (by omega)
  rw [bitsE_1] at this; exact this
theorem or_2 {other : AHeap → Option (Value × AHeap)} {b1 b2 b3 b4 : Bool} : run2 orF other (.int .i64 ((bitsE b1 b2 b3 b4 : Nat) : Int)) (.int .i64 2) h = some (.int .i64 ((bitsE b1 true b3 b4 : Nat) : Int), h) := by
  have hl := bitsE_lt (b1 := b1) (b2 := b2) (b3 := b3) (b4 := b4)
  have := r_or (other := other) (h := h) (a := bitsE b1 b2 b3 b4) (b := 2) (by omega) (by omega)
  rw [bitsE_2] at this; exact this
theorem or_4 {other : AHeap → Option (Value × AHeap)} {b1 b2 b3 b4 : Bool} : run2 orF other (.int .i64 ((bitsE b1 b2 b3 b4 : Nat) : Int)) (.int .i64 4) h = some (.int .i64 ((bitsE b1 b2 true b4 : Nat) : Int), h) := by
  have hl := bitsE_lt (b1 := b1) (b2 := b2) (b3 := b3) (b4 := b4)
  have := r_or (other := other) (h := h) (a := bitsE b1 b2 b3 b4) (b := 4) (by omega) (by omega)
  rw [bitsE_4] at this; exact this
theorem or_8 {other : AHeap → Option (Value × AHeap)} {b1 b2 b3 b4 : Bool} : run2 orF other (.int .i64 ((bitsE b1 b2 b3 b4 : Nat) : Int)) (.int .i64 8) h = some (.int .i64 ((bitsE b1 b2 b3 true : Nat) : Int), h) := by
  have hl := bitsE_lt (b1 := b1) (b2 := b2) (b3 := b3) (b4 := b4)
  have := r_or (other := other) (h := h) (a := bitsE b1 b2 b3 b4) (b := 8) (by omega) (by omega)
  rw [bitsE_8] at this; exact this
/-- among the first k -/
def Seen (L : List (Nat → Int)) (p : (Nat → Int) → Prop) (k : Nat) : Prop := ∃ i, i < k ∧ p (L.getD i fun _ => 0)
noncomputable instance (L : List (Nat → Int)) (p : (Nat → Int) → Prop) (k : Nat) : Decidable (Seen L p k) := Classical.propDecidable _
theorem seen_yes {L : List (Nat → Int)} {p : (Nat → Int) → Prop} {k : Nat} (h : p (L.getD k fun _ => 0)) : decide (Seen L p (k + 1)) = true := decide_eq_true ⟨k, by omega, h⟩
theorem seen_no {L : List (Nat → Int)} {p : (Nat → Int) → Prop} {k : Nat} (h : ¬ p (L.getD k fun _ => 0)) : decide (Seen L p (k + 1)) = decide (Seen L p k) := decide_eq_decide.2
  ⟨fun ⟨i, h1, h2⟩ => by
    by_cases e : i = k
    · subst e; exact absurd h2 h
    · exact ⟨i, by omega, h2⟩, fun ⟨i, h1, h2⟩ => ⟨i, by omega, h2⟩⟩
theorem seen_all {Y : MY} (hf : faultN Y = 0) {p : (Nat → Int) → Prop} (h : ∃ t, t ∈ truths Y ∧ p t) : decide (Seen (refTruths Y) p (refTruths Y).length) = true := by
  obtain ⟨t, h1, h2⟩ := h
  obtain ⟨i, hi, rfl⟩ := mem_getD ((refTruths_mem hf).2 h1)
  exact decide_eq_true ⟨i, hi, h2⟩
theorem seen_zero {L : List (Nat → Int)} {p : (Nat → Int) → Prop} : decide (Seen L p 0) = false := decide_eq_false fun ⟨i, h, _⟩ => by omega

def s11 : SCode := (.seq (.ops [⟨(some 3), none, .box (T 0)⟩, ⟨(some 6), none, .mov (.const (.bool false))⟩]) (.seq (.seq (.ops [⟨(some 18), none, .loadN 3 (T 3)⟩, ⟨(some 19), none, .call (.func 62) [(T 18)]⟩, ⟨(some 20), none, .not (T 19)⟩, ⟨(some 21), none, .mov (T 20)⟩, ⟨(some 22), (some (21, false)), .fieldAddr 0 (T 3)⟩, ⟨(some 23), (some (21, false)), .load1 (T 22)⟩, ⟨(some 24), (some (21, false)), .len (T 23)⟩, ⟨(some 25), (some (21, false)), .int2 .eql (T 24) (.const (.int .i64 (0)))⟩, ⟨(some 26), none, .pick (T 21) (.const (.bool true)) (T 25)⟩, ⟨(some 27), none, .mov (T 26)⟩, ⟨(some 28), (some (27, false)), .fieldAddr 1 (T 3)⟩, ⟨(some 29), (some (27, false)), .load1 (T 28)⟩, ⟨(some 30), (some (27, false)), .len (T 29)⟩, ⟨(some 31), (some (27, false)), .int2 .eql (T 30) (.const (.int .i64 (0)))⟩, ⟨(some 32), none, .pick (T 27) (.const (.bool true)) (T 31)⟩]) (.cond (T 32) (.seq (.ops [⟨(some 33), none, .call (.func 24) []⟩, ⟨(some 6), none, .mov (T 33)⟩]) .ret) .skip)) (.seq (.draw [⟨.free, ⟨(some 34), none, .mov (T 1)⟩⟩, ⟨.free, ⟨(some 35), none, .plain (.convert 5 3 (T 34)) 3⟩⟩, ⟨.free, ⟨(some 36), none, .fieldAddr 1 (T 3)⟩⟩, ⟨.rd1, ⟨(some 37), none, .load1 (T 36)⟩⟩, ⟨.free, ⟨(some 38), none, .len (T 37)⟩⟩, ⟨.free, ⟨(some 39), none, .plain (.binOp .rem 3 (T 35) (T 38) 3) 3⟩⟩, ⟨.free, ⟨(some 40), none, .mov (T 2)⟩⟩, ⟨.free, ⟨(some 41), none, .plain (.convert 5 3 (T 40)) 3⟩⟩, ⟨.free, ⟨(some 42), none, .fieldAddr 0 (T 3)⟩⟩, ⟨.rd1, ⟨(some 43), none, .load1 (T 42)⟩⟩, ⟨.free, ⟨(some 44), none, .len (T 43)⟩⟩, ⟨.free, ⟨(some 45), none, .plain (.binOp .rem 3 (T 41) (T 44) 3) 3⟩⟩, ⟨.free, ⟨(some 7), none, .mov (T 39)⟩⟩, ⟨.free, ⟨(some 8), none, .mov (T 45)⟩⟩]) (.seq (.ops [⟨(some 47), none, .loadN 3 (T 3)⟩, ⟨(some 48), none, .call (.func 26) [(T 47)]⟩, ⟨(some 49), none, .call (.func 34) [(T 48)]⟩, ⟨(some 46), none, .mov (T 49)⟩, ⟨(some 50), none, .extract 0 (T 46)⟩, ⟨(some 51), none, .extract 1 (T 46)⟩, ⟨(some 9), none, .mov (T 50)⟩, ⟨(some 10), none, .mov (T 51)⟩]) (.seq (.ops [⟨(some 53), none, .loadN 3 (T 3)⟩, ⟨(some 54), none, .call (.func 26) [(T 53)]⟩, ⟨(some 55), none, .call (.func 35) [(T 54)]⟩, ⟨(some 52), none, .mov (T 55)⟩, ⟨(some 56), none, .extract 0 (T 52)⟩, ⟨(some 57), none, .extract 1 (T 52)⟩, ⟨(some 11), none, .mov (T 56)⟩, ⟨(some 12), none, .mov (T 57)⟩]) (.seq (.ops [⟨(some 58), none, .loadN 3 (T 3)⟩, ⟨(some 59), none, .call (.func 64) [(T 58)]⟩, ⟨(some 13), none, .mov (T 59)⟩]) (.seq (.seq (.ops [⟨(some 60), none, .mov (T 13)⟩, ⟨(some 61), none, .len (T 60)⟩, ⟨(some 62), none, .int2 .eql (T 61) (.const (.int .i64 (0)))⟩]) (.cond (T 62) (.seq (.ops [⟨(some 63), none, .mov (T 10)⟩, ⟨(some 64), none, .int2 .eql (T 63) (.const (.int .i64 (11)))⟩, ⟨(some 65), none, .mov (T 64)⟩, ⟨(some 66), (some (65, true)), .mov (T 12)⟩, ⟨(some 67), (some (65, true)), .mov (T 10)⟩, ⟨(some 68), (some (65, true)), .int2 .eql (T 66) (T 67)⟩, ⟨(some 69), none, .pick (T 65) (T 68) (.const (.bool false))⟩, ⟨(some 70), none, .mov (T 69)⟩, ⟨(some 71), (some (70, true)), .call (.func 24) []⟩, ⟨(some 72), none, .pick (T 70) (T 71) (.const (.bool false))⟩, ⟨(some 6), none, .mov (T 72)⟩]) .ret) .skip)) (.seq (.seq (.ops [⟨(some 73), none, .mov (T 10)⟩, ⟨(some 74), none, .int2 .neq (T 73) (.const (.int .i64 (0)))⟩, ⟨(some 75), none, .mov (T 74)⟩, ⟨(some 76), (some (75, false)), .mov (T 12)⟩, ⟨(some 77), (some (75, false)), .int2 .neq (T 76) (.const (.int .i64 (0)))⟩, ⟨(some 78), none, .pick (T 75) (.const (.bool true)) (T 77)⟩, ⟨(some 79), none, .mov (T 78)⟩, ⟨(some 80), (some (79, false)), .mov (T 9)⟩, ⟨(some 81), (some (79, false)), .len (T 80)⟩, ⟨(some 82), (some (79, false)), .fieldAddr 1 (T 3)⟩, ⟨(some 83), (some (79, false)), .load1 (T 82)⟩, ⟨(some 84), (some (79, false)), .len (T 83)⟩, ⟨(some 85), (some (79, false)), .int2 .neq (T 81) (T 84)⟩, ⟨(some 86), none, .pick (T 79) (.const (.bool true)) (T 85)⟩, ⟨(some 87), none, .mov (T 86)⟩, ⟨(some 88), (some (87, false)), .mov (T 11)⟩, ⟨(some 89), (some (87, false)), .len (T 88)⟩, ⟨(some 90), (some (87, false)), .fieldAddr 0 (T 3)⟩, ⟨(some 91), (some (87, false)), .load1 (T 90)⟩, ⟨(some 92), (some (87, false)), .len (T 91)⟩, ⟨(some 93), (some (87, false)), .int2 .neq (T 89) (T 92)⟩, ⟨(some 94), none, .pick (T 87) (.const (.bool true)) (T 93)⟩]) (.cond (T 94) (.seq (.ops [⟨(some 6), none, .mov (.const (.bool false))⟩]) .ret) .skip)) (.seq (.ops [⟨(some 14), none, .mov (.const (.int .i64 (0)))⟩]) (.seq (.seq (.ops [⟨(some 15), none, .mov (.const (.int .i64 (0)))⟩]) (.block 0 (.loop (.seq (.seq (.ops [⟨(some 95), none, .mov (T 15)⟩, ⟨(some 96), none, .mov (T 13)⟩, ⟨(some 97), none, .len (T 96)⟩, ⟨(some 98), none, .int2 .lss (T 95) (T 97)⟩]) (.cond (T 98) .skip (.exit 0))) (.seq (.block 1 (.seq (.draw [⟨.rd1, ⟨(some 101), none, .loadN 3 (T 3)⟩⟩, ⟨.free, ⟨(some 102), none, .mov (T 13)⟩⟩, ⟨.free, ⟨(some 103), none, .mov (T 15)⟩⟩, ⟨.free, ⟨(some 104), none, .idxSl 1 (T 102) (T 103)⟩⟩, ⟨.rd1, ⟨(some 105), none, .load1 (T 104)⟩⟩, ⟨.free, ⟨(some 106), none, .mov (T 7)⟩⟩, ⟨.up, ⟨(some 107), none, .call (.func 33) [(T 101), (T 105), (T 106)]⟩⟩, ⟨.free, ⟨(some 108), none, .mov (T 13)⟩⟩, ⟨.free, ⟨(some 109), none, .mov (T 15)⟩⟩, ⟨.free, ⟨(some 110), none, .idxSl 1 (T 108) (T 109)⟩⟩, ⟨.rd, ⟨(some 111), none, .load1 (T 110)⟩⟩, ⟨.free, ⟨(some 112), none, .mov (T 8)⟩⟩, ⟨.free, ⟨(some 113), none, .idxSl 1 (T 111) (T 112)⟩⟩, ⟨.rd, ⟨(some 114), none, .load1 (T 113)⟩⟩, ⟨.free, ⟨(some 16), none, .mov (T 107)⟩⟩, ⟨.free, ⟨(some 17), none, .mov (T 114)⟩⟩]) (.seq (.seq (.ops [⟨(some 115), none, .mov (T 16)⟩, ⟨(some 116), none, .mov (T 9)⟩, ⟨(some 117), none, .mov (T 7)⟩, ⟨(some 118), none, .idxSl 2 (T 116) (T 117)⟩, ⟨(some 119), none, .fieldAddr 0 (T 118)⟩, ⟨(some 120), none, .load1 (T 119)⟩, ⟨(some 121), none, .int2 .eql (T 115) (T 120)⟩]) (.cond (T 121) (.ops [⟨(some 122), none, .mov (T 14)⟩, ⟨(some 123), none, .plain (.binOp .or 3 (T 122) (.const (.int .i64 (1))) 3) 3⟩, ⟨(some 14), none, .mov (T 123)⟩]) .skip)) (.seq (.seq (.ops [⟨(some 124), none, .mov (T 16)⟩, ⟨(some 125), none, .mov (T 9)⟩, ⟨(some 126), none, .mov (T 7)⟩, ⟨(some 127), none, .idxSl 2 (T 125) (T 126)⟩, ⟨(some 128), none, .fieldAddr 1 (T 127)⟩, ⟨(some 129), none, .load1 (T 128)⟩, ⟨(some 130), none, .int2 .eql (T 124) (T 129)⟩]) (.cond (T 130) (.ops [⟨(some 131), none, .mov (T 14)⟩, ⟨(some 132), none, .plain (.binOp .or 3 (T 131) (.const (.int .i64 (2))) 3) 3⟩, ⟨(some 14), none, .mov (T 132)⟩]) .skip)) (.seq (.seq (.ops [⟨(some 133), none, .mov (T 17)⟩, ⟨(some 134), none, .mov (T 11)⟩, ⟨(some 135), none, .mov (T 8)⟩, ⟨(some 136), none, .idxSl 2 (T 134) (T 135)⟩, ⟨(some 137), none, .fieldAddr 0 (T 136)⟩, ⟨(some 138), none, .load1 (T 137)⟩, ⟨(some 139), none, .int2 .eql (T 133) (T 138)⟩]) (.cond (T 139) (.ops [⟨(some 140), none, .mov (T 14)⟩, ⟨(some 141), none, .plain (.binOp .or 3 (T 140) (.const (.int .i64 (4))) 3) 3⟩, ⟨(some 14), none, .mov (T 141)⟩]) .skip)) (.seq (.ops [⟨(some 142), none, .mov (T 17)⟩, ⟨(some 143), none, .mov (T 11)⟩, ⟨(some 144), none, .mov (T 8)⟩, ⟨(some 145), none, .idxSl 2 (T 143) (T 144)⟩, ⟨(some 146), none, .fieldAddr 1 (T 145)⟩, ⟨(some 147), none, .load1 (T 146)⟩, ⟨(some 148), none, .int2 .eql (T 142) (T 147)⟩]) (.cond (T 148) (.ops [⟨(some 149), none, .mov (T 14)⟩, ⟨(some 150), none, .plain (.binOp .or 3 (T 149) (.const (.int .i64 (8))) 3) 3⟩, ⟨(some 14), none, .mov (T 150)⟩]) .skip))))))) (.ops [⟨(some 99), none, .mov (T 15)⟩, ⟨(some 100), none, .int2 .add (T 99) (.const (.int .i64 (1)))⟩, ⟨(some 15), none, .mov (T 100)⟩])))))) (.seq (.ops [⟨(some 151), none, .mov (T 14)⟩, ⟨(some 152), none, .int2 .eql (T 151) (.const (.int .i64 (15)))⟩, ⟨(some 153), none, .mov (T 152)⟩, ⟨(some 154), (some (153, true)), .call (.func 24) []⟩, ⟨(some 155), none, .pick (T 153) (T 154) (.const (.bool false))⟩, ⟨(some 6), none, .mov (T 155)⟩]) .ret)))))))))))
theorem fok11 : FnOk Try.prog 11 156 s11 [.tmp 6] := ⟨Try.f11, _, Try.func11, rfl, Try.ntmps11, by kernel_rfl, by kernel_rfl⟩
theorem ends_1 (hn : 10090 ≤ n) (hr : h.next + 3000000 < far) (hfl : h.floor ≤ h.next) {fv vv sv : Value} {Y : MY} (hy : YardR h fv vv sv Y) (hT : Thin Y) (hf : faultN Y = 0) (hnf : 0 < Y.nf) (hnv : 0 < Y.nv) {a1 a2 : Nat} (w1 : a1 < 256) (w2 : a2 < 256) :
    ∃ v h', call n (.func (.func 11) #[] #[]) [.agg ⟨[fv, vv, sv]⟩, .int .u8 (a1 : Int), .int .u8 (a2 : Int)] h = some (v, h') ∧ v = .bool true := by
  obtain ⟨n, rfl⟩ : ∃ p, n = p + 1 := ⟨n - 1, by omega⟩
  refine call_any0 fok11 rfl rfl (by simp) ?_
  simp only [s11, W_seq, W_ops]
  refine ops_box (cs := [fv, vv, sv]) (by omega) rfl hy.one fun g1 hx1 => ?_
  have n1 := hx1.next
  have f1 := hx1.floor
  have hy1 := hy.mono hx1.sub
  have x1 := hx1.row.whole (n := 3) rfl
  have r1 := hx1.row
  have hrd := ready_c (n := n) (h := g1) (by omega) (by omega) hy1
  have hrd' : decide (Thin Y ∧ faultN Y = 0) = true := decide_eq_true ⟨hT, hf⟩
  rw [hrd'] at hrd
  obtain ⟨rr, hrw, hq⟩ := hy1.v
  have z1 : ¬ (Y.nf : Int) = 0 := by omega
  have z2 : ¬ (Y.nv : Int) = 0 := by omega
  obtain ⟨one, hone⟩ : ∃ o, o = a1 % Y.nv := ⟨_, rfl⟩
  obtain ⟨fld, hfld⟩ : ∃ o, o = a2 % Y.nf := ⟨_, rfl⟩
  have hov : one < Y.nv := by rw [hone]; exact Nat.mod_lt _ hnv
  have hof : fld < Y.nf := by rw [hfld]; exact Nat.mod_lt _ hnf
  have m1 : (a1 : Int).tmod (Y.nv : Int) = (one : Int) := by rw [hone]; rfl
  have m2 : (a2 : Int).tmod (Y.nf : Int) = (fld : Int) := by rw [hfld]; rfl
  simp only [rn0, rn1, rn2, rn3, rn4, rn5, rn6, rn7, rn8, if_true, if_false, Nat.le_refl, true_and, and_true, decide_true, decide_false, Bool.not_true, Bool.not_false, reduceIte, Nat.reduceEqDiff, Nat.reduceAdd, Nat.reduceMul, Nat.reduceSub, Nat.reduceLeDiff, Nat.reduceLT, x1, hrd, r1.ld, Nat.zero_add, List.getElem?_cons_zero, List.getElem?_cons_succ, Cells.len hy1.f, Cells.len hrw, z1, z2]
  refine W_draw All ?_
  simp only [rn0, rn1, rn2, rn3, rn4, rn5, rn6, rn7, rn8, if_true, if_false, Nat.le_refl, true_and, and_true, decide_true, decide_false, Bool.not_true, Bool.not_false, reduceIte, Nat.reduceEqDiff, Nat.reduceAdd, Nat.reduceMul, Nat.reduceSub, Nat.reduceLeDiff, Nat.reduceLT, p_conv8, r_8 w1, r_8 w2, valN_tmp, Nat.reduceLT, r1.ld, Nat.zero_add, List.getElem?_cons_zero, List.getElem?_cons_succ, Cells.len hy1.f, Cells.len hrw, r_rem z1, r_rem z2, m1, m2]
  obtain ⟨F1, V1, S1, g2, ey2, hy2, m2'⟩ := yard_c (n := n) (h := g1) (by omega) (by omega) (by omega) hy1 hT
  have n2 := m2'.next
  have u2 := m2'.up
  have f2 := m2'.floor
  obtain ⟨bv, g3, eb3, m3, hb3⟩ := boundsV_c (n := n) (h := g2) (by omega) (by omega) (by omega) hy2 hT
  have n3 := m3.next
  have u3 := m3.up
  have f3 := m3.floor
  have s3 : Sub All g1 g3 := m2'.sub.trans m3.sub
  have w3 := (hx1.row.mono s3).whole (n := 3) rfl
  obtain ⟨F2, V2, S2, g4, ey4, hy4, m4⟩ := yard_c (n := n) (h := g3) (by omega) (by omega) (by omega) (hy1.mono s3) hT
  have n4 := m4.next
  have u4 := m4.up
  have f4 := m4.floor
  obtain ⟨fw, g5, ef5, m5, hf5⟩ := fieldsV_c (n := n) (h := g4) (by omega) (by omega) (by omega) hy4 hT
  have n5 := m5.next
  have u5 := m5.up
  have f5 := m5.floor
  have s5 : Sub All g1 g5 := s3.trans (m4.sub.trans m5.sub)
  have w5 := (hx1.row.mono s5).whole (n := 3) rfl
  obtain ⟨l, g6, et6, hl6, m6⟩ := truthsRef_c (n := n) (h := g5) (by omega) (by omega) (by omega) (hy1.mono s5) hf
  have n6 := m6.next
  have u6 := m6.up
  have f6 := m6.floor
  have s6 : Sub All g1 g6 := s5.trans m6.sub
  have w6 := (hx1.row.mono s6).whole (n := 3) rfl
  have r6 := hx1.row.mono s6
  have hy6 := hy1.mono s6
  have haw := awake_c (n := n) (h := g6) (by omega)
  change TruthsL g6 l Y.nf (refTruths Y) at hl6
  have hl6' := hl6
  obtain ⟨rl, q1, q2⟩ := hl6
  rcases hb3 with ⟨h0, _⟩ | ⟨_, hn0, rfl⟩ | ⟨_, hne, bl, rfl, hbl⟩
  · exact absurd hf h0
  · rcases hf5 with ⟨h0, _⟩ | ⟨_, _, rfl⟩ | ⟨_, h0, _⟩
    · exact absurd hf h0
    · have hlz : (refTruths Y).length = 0 := by rw [(refTruths_nil hf).2 hn0]; rfl
      simp only [rn0, rn1, rn2, rn3, rn4, rn5, rn6, rn7, rn8, if_true, if_false, Nat.le_refl, true_and, and_true, decide_true, decide_false, Bool.not_true, Bool.not_false, reduceIte, Nat.reduceEqDiff, Nat.reduceAdd, Nat.reduceMul, Nat.reduceSub, Nat.reduceLeDiff, Nat.reduceLT, x1, ey2, eb3, ex0, ex1, w3, ey4, ef5, w5, et6, Cells.len q1, hlz, Int.natCast_zero, haw, Int.reduceEq]
    · exact absurd hn0 h0
  rcases hf5 with ⟨h0, _⟩ | ⟨_, h0, _⟩ | ⟨_, _, fl, rfl, hfl5⟩
  · exact absurd hf h0
  · exact absurd h0 hne
  have hlz : ¬ ((refTruths Y).length : Int) = 0 := fun e => ((not_congr (refTruths_nil hf)).2 hne) (List.eq_nil_of_length_eq_zero (by omega))
  have hbl6 := Cells.mono hbl ((m4.sub.trans m5.sub).trans m6.sub)
  have hfl6 := Cells.mono hfl5 m6.sub
  obtain ⟨rr6, hrw6, hq6⟩ := hy6.v
  simp only [rn0, rn1, rn2, rn3, rn4, rn5, rn6, rn7, rn8, if_true, if_false, Nat.le_refl, true_and, and_true, decide_true, decide_false, Bool.not_true, Bool.not_false, reduceIte, Nat.reduceEqDiff, Nat.reduceAdd, Nat.reduceMul, Nat.reduceSub, Nat.reduceLeDiff, Nat.reduceLT, x1, ey2, eb3, ex0, ex1, w3, ey4, ef5, w5, et6, Cells.len q1, hlz, Int.natCast_zero, r6.ld, Nat.zero_add, List.getElem?_cons_zero, List.getElem?_cons_succ, Cells.len hbl6, Cells.len hfl6, Cells.len hrw6, Cells.len hy6.f]
  obtain ⟨z5, z6, z7⟩ := (good_of hf).sz
  have hlen := refTruths_len hf
  obtain ⟨P1, hP1⟩ : ∃ P : (Nat → Int) → Prop, P = (fun t => blueN t (Y.q one) Y.nf = loN (fun t => blueN t (Y.q one) Y.nf) (truths Y)) := ⟨_, rfl⟩
  obtain ⟨P2, hP2⟩ : ∃ P : (Nat → Int) → Prop, P = (fun t => blueN t (Y.q one) Y.nf = hiN (fun t => blueN t (Y.q one) Y.nf) (truths Y)) := ⟨_, rfl⟩
  obtain ⟨P3, hP3⟩ : ∃ P : (Nat → Int) → Prop, P = (fun t => t fld = loN (fun t => t fld) (truths Y)) := ⟨_, rfl⟩
  obtain ⟨P4, hP4⟩ : ∃ P : (Nat → Int) → Prop, P = (fun t => t fld = hiN (fun t => t fld) (truths Y)) := ⟨_, rfl⟩
  refine W_loop (refTruths Y).length (fun k f g ms => g = g6 ∧ ms = [] ∧ f 3 = .pointer (some ⟨h.next, 0, none⟩) ∧ f 7 = .int .i64 (one : Int) ∧ f 8 = .int .i64 (fld : Int) ∧ f 9 = bl ∧ f 11 = fl ∧ f 13 = l ∧ f 15 = .int .i64 (k : Int) ∧ f 14 = .int .i64 ((bitsE (decide (Seen (refTruths Y) P1 k)) (decide (Seen (refTruths Y) P2 k)) (decide (Seen (refTruths Y) P3 k)) (decide (Seen (refTruths Y) P4 k)) : Nat) : Int)) (by simp; omega) ?_ ?_ ?_
  · simp only [rn0, rn1, rn2, rn3, rn4, rn5, rn6, rn7, rn8, if_true, if_false, Nat.le_refl, true_and, and_true, decide_true, decide_false, Bool.not_true, Bool.not_false, reduceIte, Nat.reduceEqDiff, Nat.reduceAdd, Nat.reduceMul, Nat.reduceSub, Nat.reduceLeDiff, Nat.reduceLT, seen_zero]
    exact ⟨rfl, rfl⟩
  · rintro k f g ms hk ⟨rfl, rfl, p3, p7, p8, p9, p11, p13, p15, p14⟩
    have hk' : (k : Int) < ((refTruths Y).length : Int) := by omega
    have hw : wrapF .i64 ((k : Int) + 1) = ((k + 1 : Nat) : Int) := by rw [wrap_in (by omega) (by omega)]; rfl
    have q2k : Ints g (rl k) Y.nf ((refTruths Y).getD k fun _ => 0) := q2 k hk
    obtain ⟨v1, v2⟩ := (good_of hf).v one hov
    have eb := blue_c (n := n) (h := g) (at_ := one) (nb := Y.nf) (b := (refTruths Y).getD k fun _ => 0) (by omega) (by omega) hy6 q2k (by omega) hov (by omega) (refTruths_range hf (refTruths_at hk)) (fun j hj => v2 j (by omega))
    have hsl := Cells.self q2k
    have l1 : loadCell g (ptrO bl 2 one 0) = some (.int .i64 (loN (fun t => blueN t (Y.q one) Y.nf) (truths Y))) := Cells.ld hbl6 hov (by omega)
    have l2 : loadCell g (ptrO bl 2 one 1) = some (.int .i64 (hiN (fun t => blueN t (Y.q one) Y.nf) (truths Y))) := Cells.ld hbl6 hov (by omega)
    have l3 : loadCell g (ptrO fl 2 fld 0) = some (.int .i64 (loN (fun t => t fld) (truths Y))) := Cells.ld hfl6 hof (by omega)
    have l4 : loadCell g (ptrO fl 2 fld 1) = some (.int .i64 (hiN (fun t => t fld) (truths Y))) := Cells.ld hfl6 hof (by omega)
    simp only [rn0, rn1, rn2, rn3, rn4, rn5, rn6, rn7, rn8, if_true, if_false, Nat.le_refl, true_and, and_true, decide_true, decide_false, Bool.not_true, Bool.not_false, reduceIte, Nat.reduceEqDiff, Nat.reduceAdd, Nat.reduceMul, Nat.reduceSub, Nat.reduceLeDiff, Nat.reduceLT, p3, p7, p8, p9, p11, p13, p14, p15, Cells.len q1, hk']
    refine W_draw All ?_
    simp only [rn0, rn1, rn2, rn3, rn4, rn5, rn6, rn7, rn8, if_true, if_false, Nat.le_refl, true_and, and_true, decide_true, decide_false, Bool.not_true, Bool.not_false, reduceIte, Nat.reduceEqDiff, Nat.reduceAdd, Nat.reduceMul, Nat.reduceSub, Nat.reduceLeDiff, Nat.reduceLT, p3, p7, p8, p9, p11, p13, p14, p15, w6, Cells.idx q1 hk, Cells.ld q1 hk Nat.zero_lt_one, eb, hsl, Cells.idx q2k hof, Cells.ld q2k hof Nat.zero_lt_one, Cells.idx hbl6 hov, Cells.fld hbl6 hov, l1]
    refine cond_merge (fun f ga ms => ga = g ∧ ms = [] ∧ f 3 = .pointer (some ⟨h.next, 0, none⟩) ∧ f 7 = .int .i64 (one : Int) ∧ f 8 = .int .i64 (fld : Int) ∧ f 9 = bl ∧ f 11 = fl ∧ f 13 = l ∧ f 15 = .int .i64 (k : Int) ∧ f 14 = .int .i64 ((bitsE (decide (Seen (refTruths Y) P1 (k + 1))) (decide (Seen (refTruths Y) P2 k)) (decide (Seen (refTruths Y) P3 k)) (decide (Seen (refTruths Y) P4 k)) : Nat) : Int) ∧ f 16 = .int .i64 (blueN ((refTruths Y).getD k fun _ => 0) (Y.q one) Y.nf) ∧ f 17 = .int .i64 ((refTruths Y).getD k (fun _ => 0) fld)) (fun hp => ?_) (fun hp => ?_) ?_
    · have hp' : P1 ((refTruths Y).getD k fun _ => 0) := by rw [hP1]; exact of_decide_eq_true hp
      simp only [rn0, rn1, rn2, rn3, rn4, rn5, rn6, rn7, rn8, if_true, if_false, Nat.le_refl, true_and, and_true, decide_true, decide_false, Bool.not_true, Bool.not_false, reduceIte, Nat.reduceEqDiff, Nat.reduceAdd, Nat.reduceMul, Nat.reduceSub, Nat.reduceLeDiff, Nat.reduceLT, p3, p7, p8, p9, p11, p13, p14, p15, valN_tmp, valN_const, Nat.reduceLT, p_or, or_1, seen_yes hp']
    · have hp' : ¬ P1 ((refTruths Y).getD k fun _ => 0) := by rw [hP1]; exact of_decide_eq_false hp
      simp only [rn0, rn1, rn2, rn3, rn4, rn5, rn6, rn7, rn8, if_true, if_false, Nat.le_refl, true_and, and_true, decide_true, decide_false, Bool.not_true, Bool.not_false, reduceIte, Nat.reduceEqDiff, Nat.reduceAdd, Nat.reduceMul, Nat.reduceSub, Nat.reduceLeDiff, Nat.reduceLT, p3, p7, p8, p9, p11, p13, p14, p15, seen_no hp']
    clear p3 p7 p8 p9 p11 p13 p14 p15
    rintro f ga ms ⟨rfl, rfl, p3, p7, p8, p9, p11, p13, p15, p14, p16, p17⟩
    simp only [rn0, rn1, rn2, rn3, rn4, rn5, rn6, rn7, rn8, if_true, if_false, Nat.le_refl, true_and, and_true, decide_true, decide_false, Bool.not_true, Bool.not_false, reduceIte, Nat.reduceEqDiff, Nat.reduceAdd, Nat.reduceMul, Nat.reduceSub, Nat.reduceLeDiff, Nat.reduceLT, p3, p7, p8, p9, p11, p13, p14, p15, p16, p17, Cells.idx hbl6 hov, Cells.fld hbl6 hov, l2]
    refine cond_merge (fun f gb ms => gb = ga ∧ ms = [] ∧ f 3 = .pointer (some ⟨h.next, 0, none⟩) ∧ f 7 = .int .i64 (one : Int) ∧ f 8 = .int .i64 (fld : Int) ∧ f 9 = bl ∧ f 11 = fl ∧ f 13 = l ∧ f 15 = .int .i64 (k : Int) ∧ f 14 = .int .i64 ((bitsE (decide (Seen (refTruths Y) P1 (k + 1))) (decide (Seen (refTruths Y) P2 (k + 1))) (decide (Seen (refTruths Y) P3 k)) (decide (Seen (refTruths Y) P4 k)) : Nat) : Int) ∧ f 16 = .int .i64 (blueN ((refTruths Y).getD k fun _ => 0) (Y.q one) Y.nf) ∧ f 17 = .int .i64 ((refTruths Y).getD k (fun _ => 0) fld)) (fun hp => ?_) (fun hp => ?_) ?_
    · have hp' : P2 ((refTruths Y).getD k fun _ => 0) := by rw [hP2]; exact of_decide_eq_true hp
      simp only [rn0, rn1, rn2, rn3, rn4, rn5, rn6, rn7, rn8, if_true, if_false, Nat.le_refl, true_and, and_true, decide_true, decide_false, Bool.not_true, Bool.not_false, reduceIte, Nat.reduceEqDiff, Nat.reduceAdd, Nat.reduceMul, Nat.reduceSub, Nat.reduceLeDiff, Nat.reduceLT, p3, p7, p8, p9, p11, p13, p14, p15, p16, p17, valN_tmp, valN_const, Nat.reduceLT, p_or, or_2, seen_yes hp']
    · have hp' : ¬ P2 ((refTruths Y).getD k fun _ => 0) := by rw [hP2]; exact of_decide_eq_false hp
      simp only [rn0, rn1, rn2, rn3, rn4, rn5, rn6, rn7, rn8, if_true, if_false, Nat.le_refl, true_and, and_true, decide_true, decide_false, Bool.not_true, Bool.not_false, reduceIte, Nat.reduceEqDiff, Nat.reduceAdd, Nat.reduceMul, Nat.reduceSub, Nat.reduceLeDiff, Nat.reduceLT, p3, p7, p8, p9, p11, p13, p14, p15, p16, p17, seen_no hp']
    clear p3 p7 p8 p9 p11 p13 p14 p15 p16 p17
    rintro f gb ms ⟨rfl, rfl, p3, p7, p8, p9, p11, p13, p15, p14, p16, p17⟩
    simp only [rn0, rn1, rn2, rn3, rn4, rn5, rn6, rn7, rn8, if_true, if_false, Nat.le_refl, true_and, and_true, decide_true, decide_false, Bool.not_true, Bool.not_false, reduceIte, Nat.reduceEqDiff, Nat.reduceAdd, Nat.reduceMul, Nat.reduceSub, Nat.reduceLeDiff, Nat.reduceLT, p3, p7, p8, p9, p11, p13, p14, p15, p16, p17, Cells.idx hfl6 hof, Cells.fld hfl6 hof, l3]
    refine cond_merge (fun f gc ms => gc = gb ∧ ms = [] ∧ f 3 = .pointer (some ⟨h.next, 0, none⟩) ∧ f 7 = .int .i64 (one : Int) ∧ f 8 = .int .i64 (fld : Int) ∧ f 9 = bl ∧ f 11 = fl ∧ f 13 = l ∧ f 15 = .int .i64 (k : Int) ∧ f 14 = .int .i64 ((bitsE (decide (Seen (refTruths Y) P1 (k + 1))) (decide (Seen (refTruths Y) P2 (k + 1))) (decide (Seen (refTruths Y) P3 (k + 1))) (decide (Seen (refTruths Y) P4 k)) : Nat) : Int) ∧ f 16 = .int .i64 (blueN ((refTruths Y).getD k fun _ => 0) (Y.q one) Y.nf) ∧ f 17 = .int .i64 ((refTruths Y).getD k (fun _ => 0) fld)) (fun hp => ?_) (fun hp => ?_) ?_
    · have hp' : P3 ((refTruths Y).getD k fun _ => 0) := by rw [hP3]; exact of_decide_eq_true hp
      simp only [rn0, rn1, rn2, rn3, rn4, rn5, rn6, rn7, rn8, if_true, if_false, Nat.le_refl, true_and, and_true, decide_true, decide_false, Bool.not_true, Bool.not_false, reduceIte, Nat.reduceEqDiff, Nat.reduceAdd, Nat.reduceMul, Nat.reduceSub, Nat.reduceLeDiff, Nat.reduceLT, p3, p7, p8, p9, p11, p13, p14, p15, p16, p17, valN_tmp, valN_const, Nat.reduceLT, p_or, or_4, seen_yes hp']
    · have hp' : ¬ P3 ((refTruths Y).getD k fun _ => 0) := by rw [hP3]; exact of_decide_eq_false hp
      simp only [rn0, rn1, rn2, rn3, rn4, rn5, rn6, rn7, rn8, if_true, if_false, Nat.le_refl, true_and, and_true, decide_true, decide_false, Bool.not_true, Bool.not_false, reduceIte, Nat.reduceEqDiff, Nat.reduceAdd, Nat.reduceMul, Nat.reduceSub, Nat.reduceLeDiff, Nat.reduceLT, p3, p7, p8, p9, p11, p13, p14, p15, p16, p17, seen_no hp']
    clear p3 p7 p8 p9 p11 p13 p14 p15 p16 p17
    rintro f gc ms ⟨rfl, rfl, p3, p7, p8, p9, p11, p13, p15, p14, p16, p17⟩
    simp only [rn0, rn1, rn2, rn3, rn4, rn5, rn6, rn7, rn8, if_true, if_false, Nat.le_refl, true_and, and_true, decide_true, decide_false, Bool.not_true, Bool.not_false, reduceIte, Nat.reduceEqDiff, Nat.reduceAdd, Nat.reduceMul, Nat.reduceSub, Nat.reduceLeDiff, Nat.reduceLT, p3, p7, p8, p9, p11, p13, p14, p15, p16, p17, Cells.idx hfl6 hof, Cells.fld hfl6 hof, l4]
    refine cond_merge' (fun f gd ms => gd = gc ∧ ms = [] ∧ f 3 = .pointer (some ⟨h.next, 0, none⟩) ∧ f 7 = .int .i64 (one : Int) ∧ f 8 = .int .i64 (fld : Int) ∧ f 9 = bl ∧ f 11 = fl ∧ f 13 = l ∧ f 15 = .int .i64 (k : Int) ∧ f 14 = .int .i64 ((bitsE (decide (Seen (refTruths Y) P1 (k + 1))) (decide (Seen (refTruths Y) P2 (k + 1))) (decide (Seen (refTruths Y) P3 (k + 1))) (decide (Seen (refTruths Y) P4 (k + 1))) : Nat) : Int) ∧ f 16 = .int .i64 (blueN ((refTruths Y).getD k fun _ => 0) (Y.q one) Y.nf) ∧ f 17 = .int .i64 ((refTruths Y).getD k (fun _ => 0) fld)) (fun hp => ?_) (fun hp => ?_) ?_
    · have hp' : P4 ((refTruths Y).getD k fun _ => 0) := by rw [hP4]; exact of_decide_eq_true hp
      simp only [rn0, rn1, rn2, rn3, rn4, rn5, rn6, rn7, rn8, if_true, if_false, Nat.le_refl, true_and, and_true, decide_true, decide_false, Bool.not_true, Bool.not_false, reduceIte, Nat.reduceEqDiff, Nat.reduceAdd, Nat.reduceMul, Nat.reduceSub, Nat.reduceLeDiff, Nat.reduceLT, p3, p7, p8, p9, p11, p13, p14, p15, p16, p17, valN_tmp, valN_const, Nat.reduceLT, p_or, or_8, seen_yes hp']
    · have hp' : ¬ P4 ((refTruths Y).getD k fun _ => 0) := by rw [hP4]; exact of_decide_eq_false hp
      simp only [rn0, rn1, rn2, rn3, rn4, rn5, rn6, rn7, rn8, if_true, if_false, Nat.le_refl, true_and, and_true, decide_true, decide_false, Bool.not_true, Bool.not_false, reduceIte, Nat.reduceEqDiff, Nat.reduceAdd, Nat.reduceMul, Nat.reduceSub, Nat.reduceLeDiff, Nat.reduceLT, p3, p7, p8, p9, p11, p13, p14, p15, p16, p17, seen_no hp']
    clear p3 p7 p8 p9 p11 p13 p14 p15 p16 p17
    rintro f gd ms ⟨rfl, rfl, p3, p7, p8, p9, p11, p13, p15, p14, p16, p17⟩
    simp only [rn0, rn1, rn2, rn3, rn4, rn5, rn6, rn7, rn8, if_true, if_false, Nat.le_refl, true_and, and_true, decide_true, decide_false, Bool.not_true, Bool.not_false, reduceIte, Nat.reduceEqDiff, Nat.reduceAdd, Nat.reduceMul, Nat.reduceSub, Nat.reduceLeDiff, Nat.reduceLT, p3, p7, p8, p9, p11, p13, p14, p15, p16, p17, hw]
  · rintro f g ms ⟨rfl, rfl, p3, p7, p8, p9, p11, p13, p15, p14⟩
    have e1 : decide (Seen (refTruths Y) P1 (refTruths Y).length) = true := seen_all hf (by rw [hP1]; exact lo_mem (val := fun t => blueN t (Y.q one) Y.nf) hne)
    have e2 : decide (Seen (refTruths Y) P2 (refTruths Y).length) = true := seen_all hf (by rw [hP2]; exact hi_mem (val := fun t => blueN t (Y.q one) Y.nf) hne)
    have e3 : decide (Seen (refTruths Y) P3 (refTruths Y).length) = true := seen_all hf (by rw [hP3]; exact lo_mem (val := fun t => t fld) hne)
    have e4 : decide (Seen (refTruths Y) P4 (refTruths Y).length) = true := seen_all hf (by rw [hP4]; exact hi_mem (val := fun t => t fld) hne)
    rw [e1, e2, e3, e4] at p14
    have e15 : ((bitsE true true true true : Nat) : Int) = 15 := rfl
    rw [e15] at p14
    simp only [rn0, rn1, rn2, rn3, rn4, rn5, rn6, rn7, rn8, if_true, if_false, Nat.le_refl, true_and, and_true, decide_true, decide_false, Bool.not_true, Bool.not_false, reduceIte, Nat.reduceEqDiff, Nat.reduceAdd, Nat.reduceMul, Nat.reduceSub, Nat.reduceLeDiff, Nat.reduceLT, p3, p7, p8, p9, p11, p13, p14, p15, Cells.len q1, Int.lt_irrefl, haw]
end Go.Vm.Vat

namespace Go.Vm.Vat
open Go.Proofs
set_option linter.unusedSimpArgs false
set_option linter.unusedVariables false
set_option maxRecDepth 10000
variable {n : Nat} {h : AHeap}

theorem ready_big (hn : 3 ≤ n) (hr : h.next + 5 < far) {u0 u1 u2 : Value} (hb : Big u0 u1 u2) : call n (.func (.func 62) #[] #[]) [.agg ⟨[u0, u1, u2]⟩] h = some (.bool false, h) := by
  obtain ⟨n, rfl⟩ : ∃ p, n = p + 1 := ⟨n - 1, by omega⟩
  refine call_plain0 fok62 rfl rfl (by simp) rfl ?_
  have hr : h.shutAll.next + 5 < far := hr
  generalize h.shutAll = h at hr
  simp only [s62, W_seq, W_ops]
  refine ops_box (cs := [u0, u1, u2]) (by omega) rfl hb.one fun g1 hx1 => ?_
  have n1 := hx1.next
  have w1 := hx1.row.whole (n := 3) rfl
  have ht := thin_big (n := n) (h := g1) (by omega) (by omega) hb
  simp only [rn0, rn1, rn2, rn3, rn4, rn5, rn6, rn7, rn8, if_true, if_false, Nat.le_refl, true_and, and_true, decide_true, decide_false, Bool.not_true, Bool.not_false, reduceIte, Nat.reduceEqDiff, Nat.reduceAdd, Nat.reduceMul, Nat.reduceSub, Nat.reduceLeDiff, Nat.reduceLT, w1, ht]
theorem ends_c (hn : 10100 ≤ n) (hr : h.next + 3000000 < far) (hfl : h.floor ≤ h.next) {fv vv sv : Value} {Y : MY} (hy : YardR h fv vv sv Y) (a1 : Int) (wf1 : (Lit.int .u8 a1).wf = true) (a2 : Int) (wf2 : (Lit.int .u8 a2).wf = true) :
    ∃ v h', call n (.func (.func 11) #[] #[]) [.agg ⟨[fv, vv, sv]⟩, .int .u8 a1, .int .u8 a2] h = some (v, h') ∧ v = .bool true := by
  obtain ⟨k1, rfl, h1⟩ := wf8 wf1
  obtain ⟨k2, rfl, h2⟩ := wf8 wf2
  by_cases hg : (Thin Y ∧ faultN Y = 0) ∧ 0 < Y.nf ∧ 0 < Y.nv
  · exact ends_1 (by omega) hr hfl hy hg.1.1 hg.1.2 hg.2.1 hg.2.2 h1 h2
  obtain ⟨n, rfl⟩ : ∃ p, n = p + 1 := ⟨n - 1, by omega⟩
  refine call_any0 fok11 rfl rfl (by simp) ?_
  simp only [s11, W_seq, W_ops]
  refine ops_box (cs := [fv, vv, sv]) (by omega) rfl hy.one fun g1 hx1 => ?_
  have n1 := hx1.next
  have hy1 := hy.mono hx1.sub
  have x1 := hx1.row.whole (n := 3) rfl
  have r1 := hx1.row
  have hrd := ready_c (n := n) (h := g1) (by omega) (by omega) hy1
  have haw := awake_c (n := n) (h := g1) (by omega)
  by_cases c1 : Thin Y ∧ faultN Y = 0
  case neg =>
    rw [decide_eq_false c1] at hrd
    simp only [rn0, rn1, rn2, rn3, rn4, rn5, rn6, rn7, rn8, if_true, if_false, Nat.le_refl, true_and, and_true, decide_true, decide_false, Bool.not_true, Bool.not_false, reduceIte, Nat.reduceEqDiff, Nat.reduceAdd, Nat.reduceMul, Nat.reduceSub, Nat.reduceLeDiff, Nat.reduceLT, x1, hrd, haw]
  rw [decide_eq_true c1] at hrd
  obtain ⟨rr, hrw, hq⟩ := hy1.v
  by_cases c2 : (Y.nf : Int) = 0
  · simp only [rn0, rn1, rn2, rn3, rn4, rn5, rn6, rn7, rn8, if_true, if_false, Nat.le_refl, true_and, and_true, decide_true, decide_false, Bool.not_true, Bool.not_false, reduceIte, Nat.reduceEqDiff, Nat.reduceAdd, Nat.reduceMul, Nat.reduceSub, Nat.reduceLeDiff, Nat.reduceLT, x1, hrd, r1.ld, Nat.zero_add, List.getElem?_cons_zero, List.getElem?_cons_succ, Cells.len hy1.f, Cells.len hrw, c2, haw]
  have c3 : (Y.nv : Int) = 0 := by
    apply Classical.byContradiction
    intro hn
    exact hg ⟨c1, by omega, by omega⟩
  simp only [rn0, rn1, rn2, rn3, rn4, rn5, rn6, rn7, rn8, if_true, if_false, Nat.le_refl, true_and, and_true, decide_true, decide_false, Bool.not_true, Bool.not_false, reduceIte, Nat.reduceEqDiff, Nat.reduceAdd, Nat.reduceMul, Nat.reduceSub, Nat.reduceLeDiff, Nat.reduceLT, x1, hrd, r1.ld, Nat.zero_add, List.getElem?_cons_zero, List.getElem?_cons_succ, Cells.len hy1.f, Cells.len hrw, c2, c3, haw]
end Go.Vm.Vat

namespace Go.Vm.Vat
open Go.Proofs
set_option linter.unusedSimpArgs false
set_option linter.unusedVariables false
set_option maxRecDepth 10000
variable {n : Nat} {h : AHeap}

/-! ### The iterator once more: yield is told of no state behind which it has said false -/
section
variable {σ : Type}
theorem runL_go {α : Type} {step : σ → α → σ × Bool} {Go : σ → Prop} (hG : ∀ s c, Go s → (step s c).2 = true → Go (step s c).1) : ∀ (l : List α) (s : σ), Go s → (runL step s l).2 = true → Go (runL step s l).1
  | [], s, h, _ => h
  | x :: l, s, h, e => by
    by_cases h1 : (step s x).2 = true
    · simp only [runL, h1, if_true] at e ⊢
      exact runL_go hG l _ (hG s x h h1) e
    · simp only [runL, h1, Bool.false_eq_true, if_false] at e
theorem chooseG_c (step : σ → (Nat → Int) → σ × Bool) (J : σ → AHeap → Prop) (Go : σ → Prop) (hG : ∀ s c, Go s → (step s c).2 = true → Go (step s c).1) {pw py pb pc K N0 fl : Nat} {F V S T yv : Value} {nf : Nat} {lo hi : Nat → Int} (hsz : nf ≤ 5) (hv : ∀ k, k < nf → 0 ≤ lo k ∧ lo k ≤ hi k ∧ hi k ≤ 20)
    (d1 : pw ≠ pb) (d2 : py ≠ pb) (d3 : pc ≠ pb) (hF : ∀ a k cap, F = .slice (some a) k cap → a.block ≠ pb ∨ nf = 0) (hfl : fl ≤ pb) (hN : 10002 ≤ N0)
    (hJ : ∀ s g g' cs, J s g → Set1 g g' pb cs 0 → J s g')
    (hY : ∀ n g s c, N0 ≤ n → It pw py pc [F, V, S, T] yv (chooseV pw py pb pc) F nf lo hi g → g.get pb = some (.row (arr c) true 0) → OkB nf lo hi nf c → Go s → J s g → g.floor = fl → g.next + K < far →
      ∃ g', call n yv [.agg ⟨arr c⟩] g = some (.bool (step s c).2, g') ∧ J (step s c).1 g' ∧ It pw py pc [F, V, S, T] yv (chooseV pw py pb pc) F nf lo hi g' ∧ g'.get pb = some (.row (arr c) true 0) ∧ g'.floor = fl ∧ g'.next ≤ g.next + K) :
    ∀ (d i n : Nat) (g : AHeap) (s : σ) (c : Nat → Int), i + d = nf → N0 + d + 1 ≤ n → It pw py pc [F, V, S, T] yv (chooseV pw py pb pc) F nf lo hi g → g.get pb = some (.row (arr c) true 0) → OkB nf lo hi i c → Go s → J s g → g.floor = fl → g.next + K * (enumB lo hi d i c).length < far →
      ∃ g', call n (chooseV pw py pb pc) [.int .i64 (i : Int)] g = some (.bool (runL step s (enumB lo hi d i c)).2, g') ∧ J (runL step s (enumB lo hi d i c)).1 g' ∧ It pw py pc [F, V, S, T] yv (chooseV pw py pb pc) F nf lo hi g' ∧
        (∃ c', g'.get pb = some (.row (arr c') true 0) ∧ ∀ j, j < i ∨ i + d ≤ j → c' j = c j) ∧ g'.floor = fl ∧ g'.next ≤ g.next + K * (enumB lo hi d i c).length := by
  intro d
  induction d with
  | zero =>
    intro i n g s c hi' hn hit hb hok hgo hj hfg hr
    obtain ⟨n, rfl⟩ : ∃ p, n = p + 1 := ⟨n - 1, by omega⟩
    simp only [enumB, List.length_singleton, Nat.mul_one] at hr ⊢
    obtain ⟨g', e, q1, q2, q3, q4, q5⟩ := hY n g s c (by omega) hit hb (show OkB nf lo hi nf c from (show i = nf by omega) ▸ hok) hgo hj hfg hr
    have hin : (i : Int) = (nf : Int) := by omega
    have hbr : Row g pb (arr c) := ⟨_, _, hb⟩
    suffices hs : ∃ v g1, call (n + 1) (chooseV pw py pb pc) [.int .i64 (i : Int)] g = some (v, g1) ∧ v = .bool (step s c).2 ∧ g1 = g' by
      obtain ⟨v, g1, e1, rfl, rfl⟩ := hs
      have hrun : runL step s [c] = step s c := by
        simp only [runL]
        by_cases e : (step s c).2 = true
        · simp only [e, if_true]; exact (Prod.ext rfl e.symm)
        · simp only [e, Bool.false_eq_true, if_false]; exact (Prod.ext rfl (by simpa using (Bool.eq_false_iff.2 e).symm))
      rw [hrun]
      exact ⟨_, e1, q1, q2, ⟨c, q3, fun _ _ => rfl⟩, q4, q5⟩
    refine call_any (xs := []) (ys := [.pointer (some ⟨pw, 0, none⟩), .pointer (some ⟨py, 0, none⟩), .pointer (some ⟨pb, 0, none⟩), .pointer (some ⟨pc, 0, none⟩)]) fok122 rfl rfl (by simp) ?_
    simp only [rn0, rn1, rn2, rn3, rn4, rn5, rn6, rn7, rn8, if_true, if_false, Nat.le_refl, true_and, and_true, decide_true, decide_false, Bool.not_true, Bool.not_false, reduceIte, Nat.reduceEqDiff, Nat.reduceAdd, Nat.reduceMul, Nat.reduceSub, Nat.reduceLeDiff, Nat.reduceLT, s122, List.cons_append, List.nil_append, hit.w.ld, hit.y.ld, hbr.whole arr_len, Nat.zero_add, List.getElem?_cons_zero, List.getElem?_cons_succ, Cells.len hit.f, hin, e]
  | succ d ih =>
    intro i n g s c hi' hn hit hb hok hgo hj hfg hr
    obtain ⟨n, rfl⟩ : ∃ p, n = p + 1 := ⟨n - 1, by omega⟩
    have hin : ¬ (i : Int) = (nf : Int) := by omega
    have hk : i < nf := by omega
    obtain ⟨v1, v2, v3⟩ := hv i hk
    suffices hs : ∃ v g1, call (n + 1) (chooseV pw py pb pc) [.int .i64 (i : Int)] g = some (v, g1) ∧ v = .bool (runL step s (enumB lo hi (d + 1) i c)).2 ∧ J (runL step s (enumB lo hi (d + 1) i c)).1 g1 ∧ It pw py pc [F, V, S, T] yv (chooseV pw py pb pc) F nf lo hi g1 ∧
        (∃ c', g1.get pb = some (.row (arr c') true 0) ∧ ∀ j, j < i ∨ i + (d + 1) ≤ j → c' j = c j) ∧ g1.floor = fl ∧ g1.next ≤ g.next + K * (enumB lo hi (d + 1) i c).length by
      obtain ⟨v, g1, e1, rfl, h2⟩ := hs
      exact ⟨g1, e1, h2⟩
    refine call_any (xs := []) (ys := [.pointer (some ⟨pw, 0, none⟩), .pointer (some ⟨py, 0, none⟩), .pointer (some ⟨pb, 0, none⟩), .pointer (some ⟨pc, 0, none⟩)]) fok122 rfl rfl (by simp) ?_
    have hl1 : loadCell g (ptrO F 2 i 0) = some (.int .i64 (lo i)) := Cells.ld hit.f hk (by omega)
    simp only [rn0, rn1, rn2, rn3, rn4, rn5, rn6, rn7, rn8, if_true, if_false, Nat.le_refl, true_and, and_true, decide_true, decide_false, Bool.not_true, Bool.not_false, reduceIte, Nat.reduceEqDiff, Nat.reduceAdd, Nat.reduceMul, Nat.reduceSub, Nat.reduceLeDiff, Nat.reduceLT, s122, List.cons_append, List.nil_append, hit.w.ld, Nat.zero_add, List.getElem?_cons_zero, List.getElem?_cons_succ, Cells.len hit.f, hin, Cells.idx hit.f hk, Cells.fld hit.f hk, hl1]
    let part : Nat → List (Nat → Int) := fun k => enumB lo hi d (i + 1) fun j => if j = i then lo i + (k : Int) else c j
    have hen : enumB lo hi (d + 1) i c = (List.range (hi i - lo i + 1).toNat).flatMap part := rfl
    have hm : ((hi i - lo i + 1).toNat : Int) = hi i - lo i + 1 := Int.toNat_of_nonneg (by omega)
    rw [hen] at hr ⊢
    generalize hmm : (hi i - lo i + 1).toNat = m at hm hr
    refine W_loop m (fun k f g1 ms => (It pw py pc [F, V, S, T] yv (chooseV pw py pb pc) F nf lo hi g1 ∧ (∃ c', g1.get pb = some (.row (arr c') true 0) ∧ ∀ j, j < i ∨ i + (d + 1) ≤ j → c' j = c j) ∧ J (runL step s ((List.range k).flatMap part)).1 g1 ∧ (runL step s ((List.range k).flatMap part)).2 = true ∧
      g1.floor = fl ∧ g1.next ≤ g.next + K * ((List.range k).flatMap part).length) ∧ ms = [] ∧ f 0 = .int .i64 (i : Int) ∧ f 1 = .pointer (some ⟨pw, 0, none⟩) ∧ f 3 = .pointer (some ⟨pb, 0, none⟩) ∧ f 4 = .pointer (some ⟨pc, 0, none⟩) ∧ f 7 = .int .i64 (lo i + (k : Int))) (by simp; omega) ?_ ?_ ?_
    · simp only [rn0, rn1, rn2, rn3, rn4, rn5, rn6, rn7, rn8, if_true, if_false, Nat.le_refl, true_and, and_true, decide_true, decide_false, Bool.not_true, Bool.not_false, reduceIte, Nat.reduceEqDiff, Nat.reduceAdd, Nat.reduceMul, Nat.reduceSub, Nat.reduceLeDiff, Nat.reduceLT, Int.natCast_zero, Int.add_zero]
      simp only [List.range_zero, List.flatMap_nil, runL, List.length_nil, Nat.mul_zero, Nat.add_zero, Nat.le_refl, and_true]
      exact ⟨hit, ⟨c, hb, fun _ _ => rfl⟩, hj, trivial, hfg⟩
    · rintro k f g1 ms hkm ⟨⟨it1, ⟨c', hb1, hc'⟩, hj1, hr1, hf1, hn1⟩, rfl, f0, f1, f3, f4, f7⟩
      have hle : lo i + (k : Int) ≤ hi i := by omega
      have hl2 : loadCell g1 (ptrO F 2 i 1) = some (.int .i64 (hi i)) := Cells.ld it1.f hk (by omega)
      have hlt := AHeap.lt_of_get hb1
      obtain ⟨rest, hpart⟩ := part_flat part hkm
      have hlen : ((List.range m).flatMap part).length = ((List.range k).flatMap part).length + ((part k).length + rest.length) := by rw [hpart]; simp
      have hK : K * ((List.range m).flatMap part).length = K * ((List.range k).flatMap part).length + (K * (part k).length + K * rest.length) := by rw [hlen, Nat.mul_add, Nat.mul_add]
      simp only [rn0, rn1, rn2, rn3, rn4, rn5, rn6, rn7, rn8, if_true, if_false, Nat.le_refl, true_and, and_true, decide_true, decide_false, Bool.not_true, Bool.not_false, reduceIte, Nat.reduceEqDiff, Nat.reduceAdd, Nat.reduceMul, Nat.reduceSub, Nat.reduceLeDiff, Nat.reduceLT, f0, f1, f3, f4, f7, it1.w.ld, Nat.zero_add, List.getElem?_cons_zero, List.getElem?_cons_succ, Cells.idx it1.f hk, Cells.fld it1.f hk, hl2, hle, idxArr_p (l := 5) (k := i) (by omega)]
      refine step_store (vs := [.int .i64 (lo i + (k : Int))]) rfl hb1 (by omega) (by omega) rfl rfl rfl (by rw [arr_len]; simp; omega) fun g2 hs => ?_
      have hb2 := hs.get
      rw [arr_splice (by omega)] at hb2
      have it2 := it1.set hs d1 d2 d3 hF
      have hw : wrapF .i64 ((i : Int) + 1) = ((i + 1 : Nat) : Int) := by rw [wrap_in (by omega) (by omega)]; rfl
      have hcg : enumB lo hi d (i + 1) (fun j => if j = i then lo i + (k : Int) else c' j) = part k := enumB_congr d (i + 1) _ _ fun j hj => by
        by_cases e : j = i
        · simp [e]
        · simp only [e, if_false]; exact hc' j (by omega)
      have hnx := hs.next
      have hok2 : OkB nf lo hi (i + 1) (fun j => if j = i then lo i + (k : Int) else c' j) := by
        refine ⟨fun j hj => ?_, fun j hj => ?_⟩
        · by_cases e : j = i
          · subst e; simp only [if_true]; omega
          · simp only [e, if_false]; rw [hc' j (by omega)]; exact hok.1 j (by omega)
        · have e : ¬ j = i := by omega
          simp only [e, if_false]; rw [hc' j (by omega)]; exact hok.2 j hj
      obtain ⟨g3, e, j3, it3, ⟨c3, hb3, hc3⟩, fl3, n3⟩ := ih (i + 1) n g2 _ _ (by omega) (by omega) it2 hb2 hok2 (runL_go hG _ _ hgo hr1) (hJ _ _ _ _ hj1 hs) (by rw [hs.floor, hf1]) (by rw [hcg]; omega)
      rw [hcg] at e j3 n3
      have hw2 : wrapF .i64 (lo i + (k : Int) + 1) = lo i + ((k + 1 : Nat) : Int) := by rw [wrap_in (by omega) (by omega)]; omega
      have hc3' : ∀ j, j < i ∨ i + (d + 1) ≤ j → c3 j = c j := fun j hj => by
        rw [hc3 j (by omega), if_neg (by omega)]; exact hc' j hj
      by_cases hq : (runL step (runL step s ((List.range k).flatMap part)).1 (part k)).2 = true
      · have hrun : runL step s ((List.range (k + 1)).flatMap part) = runL step (runL step s ((List.range k).flatMap part)).1 (part k) := by
          rw [List.range_succ, List.flatMap_append, runL_append, hr1, if_pos rfl]; simp
        have hl3 : ((List.range (k + 1)).flatMap part).length = ((List.range k).flatMap part).length + (part k).length := by rw [List.range_succ, List.flatMap_append, List.length_append]; simp
        rw [hq] at e
        simp only [rn0, rn1, rn2, rn3, rn4, rn5, rn6, rn7, rn8, if_true, if_false, Nat.le_refl, true_and, and_true, decide_true, decide_false, Bool.not_true, Bool.not_false, reduceIte, Nat.reduceEqDiff, Nat.reduceAdd, Nat.reduceMul, Nat.reduceSub, Nat.reduceLeDiff, Nat.reduceLT, f0, f1, f3, f4, f7, it2.c.ld, Nat.zero_add, List.getElem?_cons_zero, List.getElem?_cons_succ, hw, e, hw2]
        rw [hrun, hl3, Nat.mul_add]
        exact ⟨it3, ⟨c3, hb3, hc3'⟩, j3, hq, fl3, by omega⟩
      · have hq' : (runL step (runL step s ((List.range k).flatMap part)).1 (part k)).2 = false := by simpa using hq
        have hrun : runL step s ((List.range m).flatMap part) = runL step (runL step s ((List.range k).flatMap part)).1 (part k) := by
          rw [hpart, runL_append, hr1, if_pos rfl, runL_append, hq', if_neg (by simp)]
        rw [hq'] at e
        simp only [rn0, rn1, rn2, rn3, rn4, rn5, rn6, rn7, rn8, if_true, if_false, Nat.le_refl, true_and, and_true, decide_true, decide_false, Bool.not_true, Bool.not_false, reduceIte, Nat.reduceEqDiff, Nat.reduceAdd, Nat.reduceMul, Nat.reduceSub, Nat.reduceLeDiff, Nat.reduceLT, f0, f1, f3, f4, f7, it2.c.ld, Nat.zero_add, List.getElem?_cons_zero, List.getElem?_cons_succ, hw, e]
        rw [hrun, hq']
        exact ⟨rfl, j3, it3, ⟨c3, hb3, hc3'⟩, fl3, by omega⟩
    · rintro f g1 ms ⟨⟨it1, ⟨c', hb1, hc'⟩, hj1, hr1, hf1, hn1⟩, rfl, f0, f1, f3, f4, f7⟩
      have hle : ¬ lo i + (m : Int) ≤ hi i := by omega
      have hl2 : loadCell g1 (ptrO F 2 i 1) = some (.int .i64 (hi i)) := Cells.ld it1.f hk (by omega)
      simp only [rn0, rn1, rn2, rn3, rn4, rn5, rn6, rn7, rn8, if_true, if_false, Nat.le_refl, true_and, and_true, decide_true, decide_false, Bool.not_true, Bool.not_false, reduceIte, Nat.reduceEqDiff, Nat.reduceAdd, Nat.reduceMul, Nat.reduceSub, Nat.reduceLeDiff, Nat.reduceLT, f0, f1, f3, f4, f7, it1.w.ld, Nat.zero_add, List.getElem?_cons_zero, List.getElem?_cons_succ, Cells.idx it1.f hk, Cells.fld it1.f hk, hl2, hle]
      exact ⟨by rw [hr1], hj1, it1, ⟨c', hb1, hc'⟩, hf1, hn1⟩

theorem iterG_c (step : σ → (Nat → Int) → σ × Bool) (J : σ → AHeap → Prop) (Go : σ → Prop) (hG : ∀ s c, Go s → (step s c).2 = true → Go (step s c).1) {g : AHeap} {pw K N0 n : Nat} {F V S T yv : Value} {nf : Nat} {lo hi : Nat → Int} (s : σ) (hgo : Go s) (hsz : nf ≤ 5) (hv : ∀ k, k < nf → 0 ≤ lo k ∧ lo k ≤ hi k ∧ hi k ≤ 20)
    (hw : Row g pw [F, V, S, T]) (hf : Ranges g F nf lo hi) (hyv : oneCell yv = true) (hfl : g.floor ≤ g.next) (hN : 10002 ≤ N0) (hn : N0 + 7 ≤ n)
    (hJ : ∀ s g1 g' cs, J s g1 → Set1 g1 g' (g.next + 1) cs 0 → J s g')
    (hJ0 : ∀ g3, Old g g3 3 → J s g3)
    (hY : ∀ n g1 s c, N0 ≤ n → It pw g.next (g.next + 2) [F, V, S, T] yv (chooseV pw g.next (g.next + 1) (g.next + 2)) F nf lo hi g1 → g1.get (g.next + 1) = some (.row (arr c) true 0) → OkB nf lo hi nf c → Go s → J s g1 → g1.floor = g.floor → g1.next + K < far →
      ∃ g', call n yv [.agg ⟨arr c⟩] g1 = some (.bool (step s c).2, g') ∧ J (step s c).1 g' ∧ It pw g.next (g.next + 2) [F, V, S, T] yv (chooseV pw g.next (g.next + 1) (g.next + 2)) F nf lo hi g' ∧ g'.get (g.next + 1) = some (.row (arr c) true 0) ∧ g'.floor = g.floor ∧ g'.next ≤ g1.next + K)
    (hr : g.next + 3 + K * (enumB lo hi nf 0 fun _ => 0).length < far) :
    ∃ v g', call n (.func (.func 121) ⟨[]⟩ ⟨[.pointer (some ⟨pw, 0, none⟩)]⟩) [yv] g = some (v, g') ∧ J (runL step s (enumB lo hi nf 0 fun _ => 0)).1 g' ∧ g'.floor = g.floor ∧ g'.next ≤ g.next + 3 + K * (enumB lo hi nf 0 fun _ => 0).length := by
  obtain ⟨n, rfl⟩ : ∃ p, n = p + 1 := ⟨n - 1, by omega⟩
  refine call_any (xs := []) (ys := [.pointer (some ⟨pw, 0, none⟩)]) fok121 rfl rfl (by simp) ?_
  simp only [s121, List.cons_append, List.nil_append, W_seq, W_ops]
  refine ops_box (cs := [yv]) (by omega) (by simp only [rn0, rn1, rn2, rn3, rn4, rn5, rn6, rn7, rn8, if_true, if_false, Nat.le_refl, true_and, and_true, decide_true, decide_false, Bool.not_true, Bool.not_false, reduceIte, Nat.reduceEqDiff, Nat.reduceAdd, Nat.reduceMul, Nat.reduceSub, Nat.reduceLeDiff, Nat.reduceLT]; cases yv <;> first | rfl | cases hyv) (by simp [allB, hyv]) fun g1 hx1 => ?_
  have n1 := hx1.next
  have f1 := hx1.floor
  simp only [rn0, rn1, rn2, rn3, rn4, rn5, rn6, rn7, rn8, if_true, if_false, Nat.le_refl, true_and, and_true, decide_true, decide_false, Bool.not_true, Bool.not_false, reduceIte, Nat.reduceEqDiff, Nat.reduceAdd, Nat.reduceMul, Nat.reduceSub, Nat.reduceLeDiff, Nat.reduceLT]
  refine step_row (cs := arr fun _ => 0) (by omega) rfl arr_one fun g2 hx2 => ?_
  have n2 := hx2.next
  have f2 := hx2.floor
  simp only [rn0, rn1, rn2, rn3, rn4, rn5, rn6, rn7, rn8, if_true, if_false, Nat.le_refl, true_and, and_true, decide_true, decide_false, Bool.not_true, Bool.not_false, reduceIte, Nat.reduceEqDiff, Nat.reduceAdd, Nat.reduceMul, Nat.reduceSub, Nat.reduceLeDiff, Nat.reduceLT]
  refine step_row (cs := [.nilFunc]) (by omega) rfl rfl fun g3 hx3 => ?_
  have n3 := hx3.next
  have f3 := hx3.floor
  have hpw : pw < g.next := by obtain ⟨w, gr, e⟩ := hw; exact AHeap.lt_of_get e
  simp only [rn0, rn1, rn2, rn3, rn4, rn5, rn6, rn7, rn8, if_true, if_false, Nat.le_refl, true_and, and_true, decide_true, decide_false, Bool.not_true, Bool.not_false, reduceIte, Nat.reduceEqDiff, Nat.reduceAdd, Nat.reduceMul, Nat.reduceSub, Nat.reduceLeDiff, Nat.reduceLT]
  have e1 : g1.next = g.next + 1 := n1
  have e2 : g2.next = g.next + 2 := by omega
  rw [e1, e2]
  refine step_store (b := g.next + 2) (gr := 0) (vs := [chooseV pw g.next (g.next + 1) (g.next + 2)]) rfl (by have := hx3.get; rw [e2] at this; exact this) (by omega) (by omega) rfl rfl rfl (by simp) fun g4 hs => ?_
  have hc4 := hs.row
  have hs4 : ∀ i, i < g.next + 2 → g4.get i = g2.get i := fun i hi => by rw [hs.old i (by omega), hx3.old i (by omega)]
  have hb4 : g4.get (g.next + 1) = some (.row (arr fun _ => 0) true 0) := by
    rw [hs4 _ (by omega)]; have := hx2.get; rw [e1] at this; exact this
  have hy4 : g4.get g.next = some (.row [yv] true 0) := by
    rw [hs4 _ (by omega), hx2.old _ (by omega)]; exact hx1.get
  have ho4 : Old g g4 3 := ⟨fun i hi => by rw [hs4 i (by omega), hx2.old i (by omega), hx1.old i hi], by have := hs.next; omega, by have := hs.floor; omega⟩
  have hF : ∀ a k cap, F = .slice (some a) k cap → a.block ≠ g.next + 1 ∨ nf = 0 := by
    intro a k cap e
    obtain ⟨a', cap', e', _, h0 | ⟨b, o, cs, w, gr, e2, e3, _⟩⟩ := hf
    · exact .inr h0
    · left
      rw [e] at e'
      cases e'
      cases e2
      have := AHeap.lt_of_get e3
      show b ≠ _
      omega
  have hit : It pw g.next (g.next + 2) [F, V, S, T] yv (chooseV pw g.next (g.next + 1) (g.next + 2)) F nf lo hi g4 := ⟨hw.mono ho4.sub, ⟨_, _, hy4⟩, by simpa [splice] using hc4, Cells.mono hf ho4.sub⟩
  have hch := chooseG_c step J Go hG (pw := pw) (py := g.next) (pb := g.next + 1) (pc := g.next + 2) (K := K) (N0 := N0) (fl := g.floor) (F := F) (V := V) (S := S) (T := T) (yv := yv) (nf := nf) (lo := lo) (hi := hi) hsz hv (by omega) (by omega) (by omega) hF (by omega) hN hJ hY nf 0 n g4 s (fun _ => 0) (by omega) (by omega) hit hb4 ⟨fun j hj => by omega, fun _ _ => rfl⟩ hgo (hJ0 _ ho4) ho4.floor (by have := ho4.next; omega)
  obtain ⟨g5, q1, q2, q3, q4, q5, q6⟩ := hch
  have hl : loadCell g4 (.pointer (some ⟨g.next + 2, 0, none⟩)) = some (chooseV pw g.next (g.next + 1) (g.next + 2)) := by rw [hc4.ld]; simp [splice]
  have q1' : call n (chooseV pw g.next (g.next + 1) (g.next + 2)) [.int .i64 0] g4 = some (.bool (runL step s (enumB lo hi nf 0 fun _ => 0)).2, g5) := q1
  simp only [rn0, rn1, rn2, rn3, rn4, rn5, rn6, rn7, rn8, if_true, if_false, Nat.le_refl, true_and, and_true, decide_true, decide_false, Bool.not_true, Bool.not_false, reduceIte, Nat.reduceEqDiff, Nat.reduceAdd, Nat.reduceMul, Nat.reduceSub, Nat.reduceLeDiff, Nat.reduceLT, hl, q1']
  exact ⟨_, rfl, q2, by rw [q5], by have := ho4.next; omega⟩
end
end Go.Vm.Vat

namespace Go.Vm.Vat
open Go.Proofs
set_option linter.unusedSimpArgs false
set_option linter.unusedVariables false
set_option maxRecDepth 10000
variable {n : Nat} {h : AHeap}

open Classical in
/-- the samples among the first k that are wrong -/
noncomputable def wrongTo (Y : MY) (b : Nat → Int) : Nat → List Int
  | 0 => []
  | k + 1 => if RightB Y b k then wrongTo Y b k else wrongTo Y b k ++ [(k : Int)]
theorem wrongTo_yes {Y : MY} {b : Nat → Int} {k : Nat} (h : RightB Y b k) : wrongTo Y b (k + 1) = wrongTo Y b k := by rw [wrongTo, if_pos h]
theorem wrongTo_no {Y : MY} {b : Nat → Int} {k : Nat} (h : ¬ RightB Y b k) : wrongTo Y b (k + 1) = wrongTo Y b k ++ [(k : Int)] := by rw [wrongTo, if_neg h]
theorem wrongTo_len {Y : MY} {b : Nat → Int} : ∀ k, (wrongTo Y b k).length ≤ k
  | 0 => Nat.le_refl _
  | k + 1 => by
    have := wrongTo_len (Y := Y) (b := b) k
    by_cases h : RightB Y b k
    · rw [wrongTo_yes h]; omega
    · rw [wrongTo_no h, List.length_append, List.length_singleton]; omega
theorem splice3 {a b c d e f : Value} : splice [a, b, c] 0 [d, e, f] = [d, e, f] := rfl
def s106 : SCode := (.seq (.ops [⟨(some 2), none, .box (T 0)⟩, ⟨(some 3), none, .box (T 1)⟩, ⟨(some 4), none, .mov (.const (.slice none 0 0))⟩]) (.seq (.ops [⟨(some 5), none, .mov (.const (.slice none 0 0))⟩]) (.seq (.seq (.ops [⟨(some 8), none, .fieldAddr 0 (T 2)⟩, ⟨(some 9), none, .fieldAddr 2 (T 8)⟩, ⟨(some 10), none, .load1 (T 9)⟩, ⟨(some 11), none, .len (T 10)⟩, ⟨(some 12), none, .mov (.const (.int .i64 (0)))⟩]) (.block 0 (.loop (.seq (.ops [⟨(some 13), none, .int2 .lss (T 12) (T 11)⟩]) (.seq (.cond (T 13) .skip (.exit 0)) (.seq (.block 1 (.seq (.ops [⟨(some 14), none, .mov (T 12)⟩, ⟨(some 15), none, .idxSl 3 (T 10) (T 12)⟩, ⟨(some 16), none, .loadN 3 (T 15)⟩, ⟨(some 7), none, .alloc [(.int .i64 (0)), (.int .i64 (0)), (.int .i64 (0))]⟩, ⟨(some 6), none, .mov (T 14)⟩, ⟨none, none, .store 3 (T 7) (T 16)⟩]) (.seq (.ops [⟨(some 17), none, .loadN 4 (T 2)⟩, ⟨(some 18), none, .loadN 5 (T 3)⟩, ⟨(some 19), none, .loadN 3 (T 7)⟩, ⟨(some 20), none, .call (.func 123) [(T 17), (T 18), (T 19)]⟩, ⟨(some 21), none, .not (T 20)⟩]) (.cond (T 21) (.ops [⟨(some 22), none, .mov (T 5)⟩, ⟨(some 23), none, .mov (T 6)⟩, ⟨(some 24), none, .bslice 1 1 [(.int .i64 (0))] [0] [(T 23)]⟩, ⟨(some 25), none, .append 1 8 (T 22) (T 24)⟩, ⟨(some 5), none, .mov (T 25)⟩]) .skip)))) (.ops [⟨(some 26), none, .int2 .add (T 12) (.const (.int .i64 (1)))⟩, ⟨(some 12), none, .mov (T 26)⟩]))))))) (.seq (.ops [⟨(some 27), none, .mov (T 5)⟩, ⟨(some 4), none, .mov (T 27)⟩]) .ret))))
theorem fok106 : FnOk Try.prog 106 28 s106 [.tmp 4] := ⟨Try.f106, _, Try.func106, rfl, Try.ntmps106, by kernel_rfl, by kernel_rfl⟩
theorem wrong_c (hn : 10010 ≤ n) (hr : h.next + 60 < far) (hfl : h.floor ≤ h.next) {F V S T : Value} {Y : MY} {b : Nat → Int} (hS : Samps h S Y.ns Y.sv Y.slo Y.shi) (hsn : Y.ns ≤ 5) (hso : SampsOk Y) (ha : AtVat h V Y b) (h1 : allB oneCell [F, V, S, T] = true) :
    ∃ v h', call n (.func (.func 106) #[] #[]) [.agg ⟨[F, V, S, T]⟩, .agg ⟨arr b⟩] h = some (v, h') ∧ Ints h' v (wrongTo Y b Y.ns).length (fun i => (wrongTo Y b Y.ns).getD i 0) ∧ Made h h' 50 ∧ oneCell v = true ∧ (∀ a k c, v = .slice (some a) k c → h.next ≤ a.block ∧ a.block < h'.next) ∧ Long v ∧ ∀ i, i < h.next → h'.get i = h.get i := by
  obtain ⟨n, rfl⟩ : ∃ p, n = p + 1 := ⟨n - 1, by omega⟩
  refine call_any0 fok106 rfl rfl (by simp) ?_
  simp only [s106, W_seq, W_ops]
  refine ops_box (cs := [F, V, S, T]) (by omega) rfl h1 fun g1 hx1 => ?_
  have n1 := hx1.next
  have f1 := hx1.floor
  refine ops_box (cs := arr b) (by omega) rfl arr_one fun g2 hx2 => ?_
  have n2 := hx2.next
  have f2 := hx2.floor
  have s2 : Sub All h g2 := hx1.sub.trans hx2.sub
  have r1 := hx1.row.mono hx2.sub
  have r2 := hx2.row
  simp only [rn0, rn1, rn2, rn3, rn4, rn5, rn6, rn7, rn8, if_true, if_false, Nat.le_refl, true_and, and_true, decide_true, decide_false, Bool.not_true, Bool.not_false, reduceIte, Nat.reduceEqDiff, Nat.reduceAdd, Nat.reduceMul, Nat.reduceSub, Nat.reduceLeDiff, Nat.reduceLT, r1.ld, Nat.zero_add, List.getElem?_cons_zero, List.getElem?_cons_succ, Cells.len hS]
  refine W_loop Y.ns (fun k f g ms => (∃ v, (∀ i, i < g2.next → g.get i = g2.get i) ∧ g.floor = g2.floor ∧ g2.next ≤ g.next ∧ g.next ≤ g2.next + 5 * k ∧ GrowC g2.next g v 1 (wrongTo Y b k).length (fun i _ => .int .i64 ((wrongTo Y b k).getD i 0)) ∧ f 5 = v) ∧ ms = [] ∧ f 2 = .pointer (some ⟨h.next, 0, none⟩) ∧ f 3 = .pointer (some ⟨g1.next, 0, none⟩) ∧ f 10 = S ∧ f 11 = .int .i64 (Y.ns : Int) ∧ f 12 = .int .i64 (k : Int)) (by simp; omega) ?_ ?_ ?_
  · simp only [rn0, rn1, rn2, rn3, rn4, rn5, rn6, rn7, rn8, if_true, if_false, Nat.le_refl, true_and, and_true, decide_true, decide_false, Bool.not_true, Bool.not_false, reduceIte, Nat.reduceEqDiff, Nat.reduceAdd, Nat.reduceMul, Nat.reduceSub, Nat.reduceLeDiff, Nat.reduceLT]
    exact ⟨⟨_, fun _ _ => trivial, by omega, .nil, rfl⟩, rfl⟩
  · rintro k f g ms hk ⟨⟨v, ho, hfg, hup, hnx, gv, p5⟩, rfl, p2, p3, p10, p11, p12⟩
    have hk' : (k : Int) < (Y.ns : Int) := by omega
    have hs : Sub All g2 g := AHeap.subOf ho
    have hw : wrapF .i64 ((k : Int) + 1) = ((k + 1 : Nat) : Int) := by rw [wrap_in (by omega) (by omega)]; rfl
    have sg := s2.trans hs
    have hSg := Cells.mono hS sg
    have hld := samps_ld hSg hk
    simp only [rn0, rn1, rn2, rn3, rn4, rn5, rn6, rn7, rn8, if_true, if_false, Nat.le_refl, true_and, and_true, decide_true, decide_false, Bool.not_true, Bool.not_false, reduceIte, Nat.reduceEqDiff, Nat.reduceAdd, Nat.reduceMul, Nat.reduceSub, Nat.reduceLeDiff, Nat.reduceLT, p2, p3, p5, p10, p11, p12, hk', Cells.idx hSg hk, hld]
    refine step_row (cs := [.int .i64 0, .int .i64 0, .int .i64 0]) (by omega) rfl rfl fun g3' hx3' => ?_
    have n3' := hx3'.next
    have f3' := hx3'.floor
    simp only [rn0, rn1, rn2, rn3, rn4, rn5, rn6, rn7, rn8, if_true, if_false, Nat.le_refl, true_and, and_true, decide_true, decide_false, Bool.not_true, Bool.not_false, reduceIte, Nat.reduceEqDiff, Nat.reduceAdd, Nat.reduceMul, Nat.reduceSub, Nat.reduceLeDiff, Nat.reduceLT, p2, p3, p5, p10, p11, p12]
    refine step_store (b := g.next) (off := 0) (vs := [.int .i64 (Y.sv k), .int .i64 (Y.slo k), .int .i64 (Y.shi k)]) rfl hx3'.get (by omega) (by omega) rfl rfl rfl (by simp) fun g3 hs3 => ?_
    rw [splice3] at hs3
    have n3 : g3.next = g.next + 1 := by have := hs3.next; omega
    have f3 : g3.floor = g.floor := by have := hs3.floor; omega
    have o3 : ∀ i, i < g.next → g3.get i = g.get i := fun i hi => by rw [hs3.old i (by omega), hx3'.old i hi]
    have s3' : Sub All g g3 := AHeap.subOf o3
    have s3 : Sub All h g3 := sg.trans s3'
    have w1 := ((r1.mono hs).mono s3').whole (n := 4) rfl
    have w2 := ((r2.mono hs).mono s3').whole arr_len
    have w3 := hs3.row.whole (n := 3) rfl
    have ei := isRight_c (n := n) (h := g3) (b := b) (F := F) (S := S) (T := T) (at_ := Y.sv k) (lo := Y.slo k) (hi := Y.shi k) (by omega) (by omega) (ha.mono s3) h1 (hso k hk).1
    have gv3 := gv.sub s3'
    have hlk := wrongTo_len (Y := Y) (b := b) k
    by_cases hR : RightB Y b k
    · have hR' : decide (Y.slo k ≤ blueN b (Y.q (Y.sv k).toNat) Y.nf ∧ blueN b (Y.q (Y.sv k).toNat) Y.nf ≤ Y.shi k) = true := decide_eq_true hR
      rw [hR'] at ei
      simp only [rn0, rn1, rn2, rn3, rn4, rn5, rn6, rn7, rn8, if_true, if_false, Nat.le_refl, true_and, and_true, decide_true, decide_false, Bool.not_true, Bool.not_false, reduceIte, Nat.reduceEqDiff, Nat.reduceAdd, Nat.reduceMul, Nat.reduceSub, Nat.reduceLeDiff, Nat.reduceLT, p2, p3, p5, p10, p11, p12, w1, w2, w3, ei, hw, wrongTo_yes hR]
      exact ⟨_, fun i hi => by rw [o3 i (by omega), ho i hi], by omega, by omega, by omega, gv3, rfl⟩
    · have hR' : decide (Y.slo k ≤ blueN b (Y.q (Y.sv k).toNat) Y.nf ∧ blueN b (Y.q (Y.sv k).toNat) Y.nf ≤ Y.shi k) = false := decide_eq_false hR
      rw [hR'] at ei
      simp only [rn0, rn1, rn2, rn3, rn4, rn5, rn6, rn7, rn8, if_true, if_false, Nat.le_refl, true_and, and_true, decide_true, decide_false, Bool.not_true, Bool.not_false, reduceIte, Nat.reduceEqDiff, Nat.reduceAdd, Nat.reduceMul, Nat.reduceSub, Nat.reduceLeDiff, Nat.reduceLT, p2, p3, p5, p10, p11, p12, w1, w2, w3, ei, sl_int]
      refine step_slice (by omega) rfl fun g4 hx4 => ?_
      have n4 := hx4.next
      have f4 := hx4.floor
      have gv4 : GrowC g2.next g4 v 1 (wrongTo Y b k).length (fun i _ => .int .i64 ((wrongTo Y b (k + 1)).getD i 0)) := (gv3.sub hx4.sub).congr fun i j hi hj => by
        rw [wrongTo_no hR, List.getD_eq_getElem?_getD, List.getD_eq_getElem?_getD, List.getElem?_append_left hi]
      obtain ⟨v', g5, e5, ev, gv5, hk5⟩ := gv4.append (bytes := 8) (cap := 1) (by omega) (by omega) (by omega) hx4.get rfl rfl (fun j hj => by
        obtain rfl : j = 0 := by omega
        rw [wrongTo_no hR, List.getD_eq_getElem?_getD, List.getElem?_append_right (Nat.le_refl _)]; simp) (by simp [maxBytes]; omega) (by simp [maxBytes]; omega)
      have n5 := hk5.next
      have f5 := hk5.floor
      have hlen : (wrongTo Y b (k + 1)).length = (wrongTo Y b k).length + 1 := by rw [wrongTo_no hR, List.length_append, List.length_singleton]
      simp only [rn0, rn1, rn2, rn3, rn4, rn5, rn6, rn7, rn8, if_true, if_false, Nat.le_refl, true_and, and_true, decide_true, decide_false, Bool.not_true, Bool.not_false, reduceIte, Nat.reduceEqDiff, Nat.reduceAdd, Nat.reduceMul, Nat.reduceSub, Nat.reduceLeDiff, Nat.reduceLT, p2, p3, p5, p10, p11, p12, e5, hw, hlen]
      exact ⟨_, fun i hi => by rw [hk5.old i (by omega) fun bb kk qq e => by have := (gv4.block e).1; omega, hx4.old i (by omega), o3 i (by omega), ho i hi], by omega, by omega, by omega, gv5, rfl⟩
  · rintro f g ms ⟨⟨v, ho, hfg, hup, hnx, gv, p5⟩, rfl, p2, p3, p10, p11, p12⟩
    simp only [rn0, rn1, rn2, rn3, rn4, rn5, rn6, rn7, rn8, if_true, if_false, Nat.le_refl, true_and, and_true, decide_true, decide_false, Bool.not_true, Bool.not_false, reduceIte, Nat.reduceEqDiff, Nat.reduceAdd, Nat.reduceMul, Nat.reduceSub, Nat.reduceLeDiff, Nat.reduceLT, p2, p3, p5, p10, p11, p12, Int.lt_irrefl]
    exact ⟨gv.cells, ⟨s2.trans (AHeap.subOf ho), by omega, by omega, by omega⟩, gv.one, fun a k c e => by have := gv.block e; omega, gv.long, fun i hi => by rw [ho i (by omega), hx2.old i (by omega), hx1.old i hi]⟩
end Go.Vm.Vat

namespace Go.Vm.Vat
open Go.Proofs
set_option linter.unusedSimpArgs false
set_option linter.unusedVariables false
set_option maxRecDepth 10000
variable {n : Nat} {h : AHeap}

open Classical in
/-- what First keeps: the number so far, and whether it has stopped -/
noncomputable def firstStep (Y : MY) (s : Int × Bool) (c : Nat → Int) : (Int × Bool) × Bool :=
  if wrongTo Y c Y.ns = [] then ((s.1, true), false) else ((max s.1 ((wrongTo Y c Y.ns).getD 0 0), false), true)
theorem firstStep_hit {Y : MY} {s : Int × Bool} {c : Nat → Int} (h : wrongTo Y c Y.ns = []) : firstStep Y s c = ((s.1, true), false) := by unfold firstStep; rw [if_pos h]
theorem firstStep_go {Y : MY} {s : Int × Bool} {c : Nat → Int} (h : wrongTo Y c Y.ns ≠ []) : firstStep Y s c = ((max s.1 ((wrongTo Y c Y.ns).getD 0 0), false), true) := by unfold firstStep; rw [if_neg h]
noncomputable def firstRun (Y : MY) : Int × Bool := (runL (firstStep Y) (0, false) (enumB Y.lo Y.hi Y.nf 0 fun _ => 0)).1
open Classical in
/-- what First answers -/
noncomputable def firstV (Y : MY) : Int × Int := if faultN Y ≠ 0 then (0, faultN Y) else if (firstRun Y).2 = true then (0, 7) else ((firstRun Y).1, 0)
/-- what lies in memory meanwhile -/
structure JF (h2 : AHeap) (p : Nat) (r : ALoop) (s : Int × Bool) (g : AHeap) : Prop where
  old : ∀ i, i < h2.next → i ≠ p + 1 → i ≠ p + 2 → i ≠ p + 3 → i ≠ p + 7 → g.get i = h2.get i
  fst : g.get (p + 3) = some (.row [.int .i64 s.1] true 0)
  r1 : g.get (p + 1) = some (.row [.int .i64 0] true 0)
  r2 : g.get (p + 2) = some (.row [.int .i64 (if s.2 then 7 else 0)] true 0)
  lp : g.get (p + 7) = some (.loop (if s.2 then leftBy r .ret else r))
  up : h2.next + 3 ≤ g.next
theorem splice1 {a b : Value} : splice [a] 0 [b] = [b] := rfl
theorem res_11 {a b : Nat} {f : Fr} {x y : Value} (h1 : loadCell h (f a) = some x) (h2 : loadCell h (f b) = some y) : resV f h [.cell1 a, .cell1 b] = some (.tuple ⟨[x, y]⟩) := by
  simp [resV, resL, res1, h1, h2]
theorem row_ld0 {b : Nat} {x : Value} {w : Bool} {gr : Nat} (hg : h.get b = some (.row [x] w gr)) : loadCell h (.pointer (some ⟨b, 0, none⟩)) = some x := by
  have : Row h b [x] := ⟨_, _, hg⟩
  rw [this.ld]; rfl
noncomputable def s53 : SCode := (.seq (.ops [⟨(some 1), none, .box (T 0)⟩, ⟨(some 2), none, .alloc [(.int .i64 (0))]⟩, ⟨(some 3), none, .alloc [(.int .i64 (0))]⟩]) (.seq (.seq (.ops [⟨(some 9), none, .loadN 3 (T 1)⟩, ⟨(some 10), none, .call (.func 30) [(T 9)]⟩, ⟨(some 4), none, .mov (T 10)⟩]) (.seq (.ops [⟨(some 11), none, .mov (T 4)⟩, ⟨(some 12), none, .int2 .neq (T 11) (.const (.int .i64 (0)))⟩]) (.cond (T 12) (.seq (.ops [⟨(some 13), none, .mov (T 4)⟩, ⟨none, none, .store 1 (T 2) (.const (.int .i64 (0)))⟩, ⟨none, none, .store 1 (T 3) (T 13)⟩]) .ret) .skip))) (.seq (.ops [⟨(some 5), none, .alloc [(.int .i64 (0))]⟩, ⟨none, none, .store 1 (T 5) (.const (.int .i64 (0)))⟩]) (.seq (.ops [⟨(some 14), none, .loadN 3 (T 1)⟩, ⟨(some 15), none, .build #[(0, 3), (3, 1)] [(.slice none 0 0), (.slice none 0 0), (.slice none 0 0), (.slice none 0 0)] [0] [(T 14)]⟩, ⟨(some 6), none, .alloc [(.slice none 0 0), (.slice none 0 0), (.slice none 0 0), (.slice none 0 0)]⟩, ⟨none, none, .store 4 (T 6) (T 15)⟩]) (.seq (.seq (.ops [⟨(some 16), none, .loadN 4 (T 6)⟩, ⟨(some 17), none, .call (.func 105) [(T 16)]⟩]) (.block 0 (.range (T 17) #[18] (rangeOf Try.f53 0).1 (rangeOf Try.f53 0).2))) (.seq (.ops [⟨(some 30), none, .load1 (T 5)⟩, ⟨none, none, .store 1 (T 2) (T 30)⟩, ⟨none, none, .store 1 (T 3) (.const (.int .i64 (0)))⟩]) .ret))))))
theorem fok53 : FnOk Try.prog 53 31 s53 [.cell1 2, .cell1 3] := ⟨Try.f53, _, Try.func53, rfl, Try.ntmps53, by kernel_rfl, by kernel_rfl⟩
def ra53_0 : SCode := (.ops [⟨(some 7), none, .alloc [(.int .i64 (0)), (.int .i64 (0)), (.int .i64 (0)), (.int .i64 (0)), (.int .i64 (0))]⟩, ⟨none, none, .store 5 (T 7) (T 18)⟩])
theorem raok53_0 : compCode Try.prog 31 (rangeOf Try.f53 0).1 = some ra53_0 := by kernel_rfl
def rb53_0 : SCode := (.block 1 (.seq (.ops [⟨(some 19), none, .loadN 4 (T 6)⟩, ⟨(some 20), none, .loadN 5 (T 7)⟩, ⟨(some 21), none, .call (.func 106) [(T 19), (T 20)]⟩, ⟨(some 8), none, .mov (T 21)⟩]) (.seq (.seq (.ops [⟨(some 22), none, .mov (T 8)⟩, ⟨(some 23), none, .len (T 22)⟩, ⟨(some 24), none, .int2 .eql (T 23) (.const (.int .i64 (0)))⟩]) (.cond (T 24) (.seq (.ops [⟨none, none, .store 1 (T 2) (.const (.int .i64 (0)))⟩, ⟨none, none, .store 1 (T 3) (.const (.int .i64 (7)))⟩]) .ret) .skip)) (.draw [⟨.rd1, ⟨(some 25), none, .load1 (T 5)⟩⟩, ⟨.free, ⟨(some 26), none, .mov (T 8)⟩⟩, ⟨.free, ⟨(some 27), none, .idxSl 1 (T 26) (.const (.int .i64 (0)))⟩⟩, ⟨.rd1, ⟨(some 28), none, .load1 (T 27)⟩⟩, ⟨.free, ⟨(some 29), none, .plain (.call { callee := .builtin .max, args := #[(T 25), (T 28)], argTypes := #[3, 3] }) 3⟩⟩, ⟨.any, ⟨none, none, .store 1 (T 5) (T 29)⟩⟩]))))
theorem rbok53_0 : compCode Try.prog 31 (rangeOf Try.f53 0).2 = some rb53_0 := by kernel_rfl
theorem first_c (hn : 10040 ≤ n) (hr : h.next + 400000 < far) {F V S : Value} {Y : MY} (hy : YardR h F V S Y) (hY : Thin Y) :
    call n (.func (.func 53) #[] #[]) [.agg ⟨[F, V, S]⟩] h = some (.tuple ⟨[.int .i64 (firstV Y).1, .int .i64 (firstV Y).2]⟩, h) := by
  obtain ⟨n, rfl⟩ : ∃ p, n = p + 1 := ⟨n - 1, by omega⟩
  refine call_plain0 fok53 rfl rfl (by simp) rfl ?_
  have hy := hy.shut
  have hr : h.shutAll.next + 400000 < far := hr
  have hfl : h.shutAll.floor ≤ h.shutAll.next := Nat.le_refl _
  generalize h.shutAll = h at hy hr hfl
  generalize hres : firstV Y = res
  simp only [s53, W_seq, W_ops]
  refine ops_box (cs := [F, V, S]) (by omega) rfl hy.one fun g1 hx1 => ?_
  have n1 := hx1.next
  have f1 := hx1.floor
  have e1 : g1.next = h.next + 1 := n1
  simp only [rn0, rn1, rn2, rn3, rn4, rn5, rn6, rn7, rn8, if_true, if_false, Nat.le_refl, true_and, and_true, decide_true, decide_false, Bool.not_true, Bool.not_false, reduceIte, Nat.reduceEqDiff, Nat.reduceAdd, Nat.reduceMul, Nat.reduceSub, Nat.reduceLeDiff, Nat.reduceLT]
  refine step_row (cs := [.int .i64 0]) (by omega) rfl rfl fun g2 hx2 => ?_
  have n2 := hx2.next
  have f2 := hx2.floor
  have e2 : g2.next = h.next + 2 := by omega
  simp only [rn0, rn1, rn2, rn3, rn4, rn5, rn6, rn7, rn8, if_true, if_false, Nat.le_refl, true_and, and_true, decide_true, decide_false, Bool.not_true, Bool.not_false, reduceIte, Nat.reduceEqDiff, Nat.reduceAdd, Nat.reduceMul, Nat.reduceSub, Nat.reduceLeDiff, Nat.reduceLT]
  refine step_row (cs := [.int .i64 0]) (by omega) rfl rfl fun g3 hx3 => ?_
  have n3 := hx3.next
  have f3 := hx3.floor
  have e3 : g3.next = h.next + 3 := by omega
  have s3 : Sub All h g3 := hx1.sub.trans (hx2.sub.trans hx3.sub)
  have hy3 := hy.mono s3
  have w1 := ((hx1.row.mono hx2.sub).mono hx3.sub).whole (n := 3) rfl
  have ec := checkYard_c (n := n) (h := g3) (by omega) (by omega) hy3 hY
  have k1 : g3.get (h.next + 1) = some (.row [.int .i64 0] true 0) := by rw [hx3.old _ (by omega)]; have := hx2.get; rw [e1] at this; exact this
  have k2 : g3.get (h.next + 2) = some (.row [.int .i64 0] true 0) := by have := hx3.get; rw [e2] at this; exact this
  have old3 : ∀ i, i < h.next → g3.get i = h.get i := fun i hi => by rw [hx3.old i (by omega), hx2.old i (by omega), hx1.old i hi]
  by_cases hf : faultN Y = 0
  case neg =>
    have hrr : res = (0, faultN Y) := by rw [← hres]; unfold firstV; rw [if_pos hf]
    rw [hrr]
    simp only [rn0, rn1, rn2, rn3, rn4, rn5, rn6, rn7, rn8, if_true, if_false, Nat.le_refl, true_and, and_true, decide_true, decide_false, Bool.not_true, Bool.not_false, reduceIte, Nat.reduceEqDiff, Nat.reduceAdd, Nat.reduceMul, Nat.reduceSub, Nat.reduceLeDiff, Nat.reduceLT, w1, ec, hf, e1, e2]
    refine step_store (vs := [.int .i64 0]) rfl k1 (by omega) (by omega) rfl rfl rfl (by simp) fun g4 hs4 => ?_
    rw [splice1] at hs4
    have n4 := hs4.next
    have f4 := hs4.floor
    simp only [rn0, rn1, rn2, rn3, rn4, rn5, rn6, rn7, rn8, if_true, if_false, Nat.le_refl, true_and, and_true, decide_true, decide_false, Bool.not_true, Bool.not_false, reduceIte, Nat.reduceEqDiff, Nat.reduceAdd, Nat.reduceMul, Nat.reduceSub, Nat.reduceLeDiff, Nat.reduceLT, w1, ec, hf, e1, e2]
    refine step_store (vs := [.int .i64 (faultN Y)]) rfl (by rw [hs4.old _ (by omega)]; exact k2) (by omega) (by omega) rfl rfl rfl (by simp) fun g5 hs5 => ?_
    rw [splice1] at hs5
    have l1 : loadCell g5 (.pointer (some ⟨h.next + 1, 0, none⟩)) = some (.int .i64 0) := row_ld0 (by rw [hs5.old _ (by omega)]; exact hs4.get)
    have l2 : loadCell g5 (.pointer (some ⟨h.next + 2, 0, none⟩)) = some (.int .i64 (faultN Y)) := row_ld0 hs5.get
    simp only [rn0, rn1, rn2, rn3, rn4, rn5, rn6, rn7, rn8, if_true, if_false, Nat.le_refl, true_and, and_true, decide_true, decide_false, Bool.not_true, Bool.not_false, reduceIte, Nat.reduceEqDiff, Nat.reduceAdd, Nat.reduceMul, Nat.reduceSub, Nat.reduceLeDiff, Nat.reduceLT, e1, e2]
    exact ⟨_, res_11 l1 l2, rfl⟩
  obtain ⟨hG, hsz⟩ := fault_size hf
  have hrr : res = if (firstRun Y).2 = true then (0, 7) else ((firstRun Y).1, 0) := by rw [← hres]; unfold firstV; rw [if_neg (by simpa using hf)]
  clear hres
  obtain ⟨z1, z2, z3⟩ := hG.sz
  have hF : ∀ k, k < Y.nf → 0 ≤ Y.lo k ∧ Y.lo k ≤ Y.hi k ∧ Y.hi k ≤ 20 := hG.f
  have ho4 : ∀ T, oneCell T = true → allB oneCell [F, V, S, T] = true := fun T hT => by have := hy.one; simp [allB] at this ⊢; simp [this, hT]
  have hlenE : (enumB Y.lo Y.hi Y.nf 0 fun _ => 0).length ≤ 2000 := by
    have h1 := enumB_len (lo := Y.lo) (hi := Y.hi) Y.nf 0 (fun _ => 0) fun k _ hk => (hF k (by omega)).2.1
    have h2 := sizeN_prod (lo := Y.lo) (hi := Y.hi) Y.nf 0
    simp only [Nat.zero_add, sizeN, Int.one_mul] at h2
    omega
  simp only [rn0, rn1, rn2, rn3, rn4, rn5, rn6, rn7, rn8, if_true, if_false, Nat.le_refl, true_and, and_true, decide_true, decide_false, Bool.not_true, Bool.not_false, reduceIte, Nat.reduceEqDiff, Nat.reduceAdd, Nat.reduceMul, Nat.reduceSub, Nat.reduceLeDiff, Nat.reduceLT, w1, ec, hf]
  refine step_new (vs := [.int .i64 0]) (by omega) (by omega) rfl (by first | rfl | (simp only [rn0, rn1, rn2, rn3, rn4, rn5, rn6, rn7, rn8, if_true, if_false, Nat.le_refl, true_and, and_true, decide_true, decide_false, Bool.not_true, Bool.not_false, reduceIte, Nat.reduceEqDiff, Nat.reduceAdd, Nat.reduceMul, Nat.reduceSub, Nat.reduceLeDiff, Nat.reduceLT]; rfl)) rfl rfl rfl fun g4 hx4 => ?_
  have n4 := hx4.next
  have f4 := hx4.floor
  have e4 : g4.next = h.next + 4 := by omega
  have w1' := (((hx1.row.mono hx2.sub).mono hx3.sub).mono hx4.sub).whole (n := 3) rfl
  simp only [rn0, rn1, rn2, rn3, rn4, rn5, rn6, rn7, rn8, if_true, if_false, Nat.le_refl, true_and, and_true, decide_true, decide_false, Bool.not_true, Bool.not_false, reduceIte, Nat.reduceEqDiff, Nat.reduceAdd, Nat.reduceMul, Nat.reduceSub, Nat.reduceLeDiff, Nat.reduceLT, w1', build_work]
  refine step_new (vs := [F, V, S, nilS]) (by omega) (by omega) rfl (by simp only [rn0, rn1, rn2, rn3, rn4, rn5, rn6, rn7, rn8, if_true, if_false, Nat.le_refl, true_and, and_true, decide_true, decide_false, Bool.not_true, Bool.not_false, reduceIte, Nat.reduceEqDiff, Nat.reduceAdd, Nat.reduceMul, Nat.reduceSub, Nat.reduceLeDiff, Nat.reduceLT]; rfl) (ho4 _ rfl) rfl rfl fun g5 hx5 => ?_
  have n5 := hx5.next
  have f5 := hx5.floor
  have e5 : g5.next = h.next + 5 := by omega
  have w5 := hx5.row.whole (n := 4) rfl
  rw [e4] at w5
  obtain ⟨g6, eB, hx6⟩ := allBlues_c (n := n) (h := g5) (F := F) (V := V) (S := S) (T := nilS) (by omega) (by omega) (ho4 _ rfl)
  have n6 := hx6.next
  have f6 := hx6.floor
  rw [e1, e2, e3, e4]
  simp only [rn0, rn1, rn2, rn3, rn4, rn5, rn6, rn7, rn8, if_true, if_false, Nat.le_refl, true_and, and_true, decide_true, decide_false, Bool.not_true, Bool.not_false, reduceIte, Nat.reduceEqDiff, Nat.reduceAdd, Nat.reduceMul, Nat.reduceSub, Nat.reduceLeDiff, Nat.reduceLT, w5, eB]
  refine W_range' rfl (by omega) (by simp only [rn0, rn1, rn2, rn3, rn4, rn5, rn6, rn7, rn8, if_true, if_false, Nat.le_refl, true_and, and_true, decide_true, decide_false, Bool.not_true, Bool.not_false, reduceIte, Nat.reduceEqDiff, Nat.reduceAdd, Nat.reduceMul, Nat.reduceSub, Nat.reduceLeDiff, Nat.reduceLT]; rfl) fun f0 hf0 ts hv h2 hl => ?_
  have c2 : f0 2 = .pointer (some ⟨h.next + 1, 0, none⟩) := by rw [hf0]; simp only [rn0, rn1, rn2, rn3, rn4, rn5, rn6, rn7, rn8, if_true, if_false, Nat.le_refl, true_and, and_true, decide_true, decide_false, Bool.not_true, Bool.not_false, reduceIte, Nat.reduceEqDiff, Nat.reduceAdd, Nat.reduceMul, Nat.reduceSub, Nat.reduceLeDiff, Nat.reduceLT]
  have c3 : f0 3 = .pointer (some ⟨h.next + 2, 0, none⟩) := by rw [hf0]; simp only [rn0, rn1, rn2, rn3, rn4, rn5, rn6, rn7, rn8, if_true, if_false, Nat.le_refl, true_and, and_true, decide_true, decide_false, Bool.not_true, Bool.not_false, reduceIte, Nat.reduceEqDiff, Nat.reduceAdd, Nat.reduceMul, Nat.reduceSub, Nat.reduceLeDiff, Nat.reduceLT]
  have c5 : f0 5 = .pointer (some ⟨h.next + 3, 0, none⟩) := by rw [hf0]; simp only [rn0, rn1, rn2, rn3, rn4, rn5, rn6, rn7, rn8, if_true, if_false, Nat.le_refl, true_and, and_true, decide_true, decide_false, Bool.not_true, Bool.not_false, reduceIte, Nat.reduceEqDiff, Nat.reduceAdd, Nat.reduceMul, Nat.reduceSub, Nat.reduceLeDiff, Nat.reduceLT]
  have c6 : f0 6 = .pointer (some ⟨h.next + 4, 0, none⟩) := by rw [hf0]; simp only [rn0, rn1, rn2, rn3, rn4, rn5, rn6, rn7, rn8, if_true, if_false, Nat.le_refl, true_and, and_true, decide_true, decide_false, Bool.not_true, Bool.not_false, reduceIte, Nat.reduceEqDiff, Nat.reduceAdd, Nat.reduceMul, Nat.reduceSub, Nat.reduceLeDiff, Nat.reduceLT]
  clear hf0
  have nl := hl.next
  have fl := hl.floor
  have en : g6.next = h.next + 6 := by omega
  have hbase : ∀ i, i < h.next → h2.get i = h.get i := fun i hi => by rw [hl.old i (by omega), hx6.old i (by omega), hx5.old i (by omega), hx4.old i (by omega), old3 i hi]
  have d1 : h2.get (h.next + 1) = some (.row [.int .i64 0] true 0) := by rw [hl.old _ (by omega), hx6.old _ (by omega), hx5.old _ (by omega), hx4.old _ (by omega)]; exact k1
  have d2 : h2.get (h.next + 2) = some (.row [.int .i64 0] true 0) := by rw [hl.old _ (by omega), hx6.old _ (by omega), hx5.old _ (by omega), hx4.old _ (by omega)]; exact k2
  have d3 : h2.get (h.next + 3) = some (.row [.int .i64 0] true 0) := by rw [hl.old _ (by omega), hx6.old _ (by omega), hx5.old _ (by omega)]; have := hx4.get; rw [e3] at this; exact this
  have d4 : h2.get (h.next + 4) = some (.row [F, V, S, nilS] true 0) := by rw [hl.old _ (by omega), hx6.old _ (by omega)]; have := hx5.get; rw [e4] at this; exact this
  have hpw : Row h2 (h.next + 5) [F, V, S, nilS] := by
    have := hx6.row.mono hl.sub
    rw [e5] at this
    exact this
  have hloop := hl.loop
  have hmark := hl.mark
  rw [en] at hloop hmark
  rw [en]
  rw [en] at hl
  generalize hr0 : loopO _ ts _ _ _ _ = r at hloop ⊢
  have r1 : r.state = .ready := by rw [← hr0]; rfl
  have r2 : View 31 r.tmps f0 := by rw [← hr0]; exact hv
  have r3 : r.params = #[18] := by rw [← hr0]; rfl
  have r4 : compCode Try.prog 31 r.assign = some ra53_0 := by rw [← hr0]; exact raok53_0
  have r5 : compCode Try.prog 31 r.body = some rb53_0 := by rw [← hr0]; exact rbok53_0
  have r6 : leftBy r .norm = r := by rw [← hr0]; rfl
  clear hr0 hl hv
  have hit := iterG_c (firstStep Y) (JF h2 h.next r) (fun s => s.2 = false) (fun s c hs e => by
      by_cases hw : wrongTo Y c Y.ns = []
      · rw [firstStep_hit hw] at e; cases e
      · rw [firstStep_go hw]) (g := h2) (pw := h.next + 5) (K := 110) (N0 := 10020) (n := n) (F := F) (V := V) (S := S) (T := nilS) (yv := .func (.yield (h.next + 7)) #[] #[]) (nf := Y.nf) (lo := Y.lo) (hi := Y.hi) (0, false) rfl z1 hF hpw (Cells.old hy.f hbase) rfl (by omega) (by omega) (by omega)
    (fun s g1 g' cs hj hs => by
      have hup := hj.up
      have hsn := hs.next
      exact ⟨fun i hi a1 a2 a3 a4 => by rw [hs.old i (by omega)]; exact hj.old i hi a1 a2 a3 a4, by rw [hs.old _ (by omega)]; exact hj.fst, by rw [hs.old _ (by omega)]; exact hj.r1, by rw [hs.old _ (by omega)]; exact hj.r2, by rw [hs.old _ (by omega)]; exact hj.lp, by omega⟩)
    (fun g3 ho => ⟨fun i hi _ _ _ _ => ho.old i hi, by rw [ho.old _ (by omega)]; exact d3, by rw [ho.old _ (by omega)]; exact d1, by rw [ho.old _ (by omega)]; exact d2, by rw [ho.old _ (by omega)]; exact hloop, by have := ho.next; omega⟩)
    (fun m g1 s c hm it hb hok hgo hj hfg hr1 => by
      obtain ⟨m, rfl⟩ : ∃ p, m = p + 1 := ⟨m - 1, by omega⟩
      rw [call_yield]
      obtain ⟨s1, s2⟩ := s
      have hgo : s2 = false := hgo
      subst hgo
      have hup := hj.up
      have hloop1 : g1.get (h.next + 7) = some (.loop r) := hj.lp
      have hfst : g1.get (h.next + 3) = some (.row [.int .i64 s1] true 0) := hj.fst
      have hq1 := hj.r1
      have hq2 : g1.get (h.next + 2) = some (.row [.int .i64 0] true 0) := hj.r2
      suffices key : ∃ e g', roundA Try.prog (call m) m (h.next + 7) [.agg ⟨arr c⟩] g1 = some (.bool (goesOn e), g') ∧ (goesOn e = (firstStep Y (s1, false) c).2 ∧ JF h2 h.next r (firstStep Y (s1, false) c).1 g' ∧ (∀ i, i < h2.next + 3 → i ≠ h.next + 1 → i ≠ h.next + 2 → i ≠ h.next + 3 → i ≠ h.next + 7 → g'.get i = g1.get i) ∧ g'.floor = h2.floor ∧ g'.next ≤ g1.next + 110) by
        obtain ⟨e, g', k1, k0, k2, k3, k4, k5⟩ := key
        have kb : ∀ i, i < h.next → g'.get i = h.get i := fun i hi => by rw [k3 i (by omega) (by omega) (by omega) (by omega) (by omega), hj.old i (by omega) (by omega) (by omega) (by omega) (by omega), hbase i hi]
        have krow : ∀ i cs, i < h2.next + 3 → i ≠ h.next + 1 → i ≠ h.next + 2 → i ≠ h.next + 3 → i ≠ h.next + 7 → Row g1 i cs → Row g' i cs := fun i cs h1 a1 a2 a3 a4 ⟨w, gr, e⟩ => ⟨w, gr, by rw [k3 i h1 a1 a2 a3 a4]; exact e⟩
        rw [k0] at k1
        refine ⟨g', k1, k2, ⟨krow _ _ (by omega) (by omega) (by omega) (by omega) (by omega) it.w, krow _ _ (by omega) (by omega) (by omega) (by omega) (by omega) it.y, krow _ _ (by omega) (by omega) (by omega) (by omega) (by omega) it.c, Cells.old hy.f kb⟩, by rw [k3 _ (by omega) (by omega) (by omega) (by omega) (by omega)]; exact hb, k4, k5⟩
      refine round_run (f := f0) hloop1 r1 r2 (by rw [r3]; rfl) (by omega) r4 r5 ?_
      have hset : setFr f0 r.params.toList [.agg ⟨arr c⟩] = upd f0 18 (.agg ⟨arr c⟩) := by rw [r3]; rfl
      rw [hset]
      simp only [rn0, rn1, rn2, rn3, rn4, rn5, rn6, rn7, rn8, if_true, if_false, Nat.le_refl, true_and, and_true, decide_true, decide_false, Bool.not_true, Bool.not_false, reduceIte, Nat.reduceEqDiff, Nat.reduceAdd, Nat.reduceMul, Nat.reduceSub, Nat.reduceLeDiff, Nat.reduceLT, ra53_0]
      refine step_new (vs := arr c) (by omega) (by omega) rfl (by simp only [rn0, rn1, rn2, rn3, rn4, rn5, rn6, rn7, rn8, if_true, if_false, Nat.le_refl, true_and, and_true, decide_true, decide_false, Bool.not_true, Bool.not_false, reduceIte, Nat.reduceEqDiff, Nat.reduceAdd, Nat.reduceMul, Nat.reduceSub, Nat.reduceLeDiff, Nat.reduceLT]; rfl) arr_one arr_len rfl fun g2 hx2 => ?_
      have n2 := hx2.next
      have f2 := hx2.floor
      simp only [rn0, rn1, rn2, rn3, rn4, rn5, rn6, rn7, rn8, if_true, if_false, Nat.le_refl, true_and, and_true, decide_true, decide_false, Bool.not_true, Bool.not_false, reduceIte, Nat.reduceEqDiff, Nat.reduceAdd, Nat.reduceMul, Nat.reduceSub, Nat.reduceLeDiff, Nat.reduceLT]
      refine ⟨by rw [hx2.old _ (by omega)]; exact hloop1, by omega, fun g3 hp3 => ?_⟩
      have n3 := hp3.next
      have f3 := hp3.floor
      have g3old : ∀ i, i < g1.next → i ≠ h.next + 7 → g3.get i = g1.get i := fun i hi hne => by rw [hp3.old i hne, hx2.old i hi]
      have g3b : ∀ i, i < h.next → g3.get i = h.get i := fun i hi => by rw [g3old i (by omega) (by omega), hj.old i (by omega) (by omega) (by omega) (by omega) (by omega), hbase i hi]
      have hy3 := hy.mono (AHeap.subOf g3b)
      have rp3 : Row g3 (h.next + 4) [F, V, S, nilS] := ⟨_, _, by rw [g3old _ (by omega) (by omega), hj.old _ (by omega) (by omega) (by omega) (by omega) (by omega)]; exact d4⟩
      have rc3 : Row g3 g1.next (arr c) := by
        obtain ⟨w, gr, e⟩ := hx2.row
        exact ⟨w, gr, by rw [hp3.old _ (by omega)]; exact e⟩
      have q1 := rp3.whole (n := 4) rfl
      have q2 := rc3.whole arr_len
      have hrange : ∀ k, k < Y.nf → 0 ≤ c k ∧ c k ≤ 20 := fun k hk => by have := hok.1 k hk; have := hF k hk; omega
      obtain ⟨wv, g4, ew, hwi, hwm, hw1, hwb, hwl, hwo⟩ := wrong_c (n := m) (h := g3) (F := F) (V := V) (S := S) (T := nilS) (Y := Y) (b := c) (by omega) (by omega) (by omega) hy3.s z3 hG.s ⟨hy3.v, z1, hG.v, hrange⟩ (ho4 _ rfl)
      have n4 := hwm.next
      have u4 := hwm.up
      have f4 := hwm.floor
      have g4old : ∀ i, i < g1.next → i ≠ h.next + 7 → g4.get i = g1.get i := fun i hi hne => by rw [hwo i (by omega), g3old i hi hne]
      have k1 : g4.get (h.next + 1) = some (.row [.int .i64 0] true 0) := by rw [g4old _ (by omega) (by omega)]; exact hq1
      have k2 : g4.get (h.next + 2) = some (.row [.int .i64 0] true 0) := by rw [g4old _ (by omega) (by omega)]; exact hq2
      have k3 : g4.get (h.next + 3) = some (.row [.int .i64 s1] true 0) := by rw [g4old _ (by omega) (by omega)]; exact hfst
      have kl : g4.get (h.next + 7) = some (.loop { r with state := .busy }) := by rw [hwo _ (by omega)]; exact hp3.get
      by_cases hW : wrongTo Y c Y.ns = []
      · have hlen : (wrongTo Y c Y.ns).length = 0 := by rw [hW]; rfl
        rw [firstStep_hit hW]
        simp only [rn0, rn1, rn2, rn3, rn4, rn5, rn6, rn7, rn8, if_true, if_false, Nat.le_refl, true_and, and_true, decide_true, decide_false, Bool.not_true, Bool.not_false, reduceIte, Nat.reduceEqDiff, Nat.reduceAdd, Nat.reduceMul, Nat.reduceSub, Nat.reduceLeDiff, Nat.reduceLT, rb53_0, c2, c3, c5, c6, q1, q2, ew, Cells.len hwi, hlen, Int.natCast_zero]
        refine step_store (vs := [.int .i64 0]) rfl k1 (by omega) (by omega) rfl rfl rfl (by simp) fun g5 hs5 => ?_
        rw [splice1] at hs5
        have n5 := hs5.next
        have f5 := hs5.floor
        simp only [rn0, rn1, rn2, rn3, rn4, rn5, rn6, rn7, rn8, if_true, if_false, Nat.le_refl, true_and, and_true, decide_true, decide_false, Bool.not_true, Bool.not_false, reduceIte, Nat.reduceEqDiff, Nat.reduceAdd, Nat.reduceMul, Nat.reduceSub, Nat.reduceLeDiff, Nat.reduceLT, c2, c3, c5, c6]
        refine step_store (vs := [.int .i64 7]) rfl (by rw [hs5.old _ (by omega)]; exact k2) (by omega) (by omega) rfl rfl rfl (by simp) fun g6 hs6 => ?_
        rw [splice1] at hs6
        have n6 := hs6.next
        have f6 := hs6.floor
        simp only [rn0, rn1, rn2, rn3, rn4, rn5, rn6, rn7, rn8, if_true, if_false, Nat.le_refl, true_and, and_true, decide_true, decide_false, Bool.not_true, Bool.not_false, reduceIte, Nat.reduceEqDiff, Nat.reduceAdd, Nat.reduceMul, Nat.reduceSub, Nat.reduceLeDiff, Nat.reduceLT]
        refine ⟨by rw [hs6.old _ (by omega), hs5.old _ (by omega)]; exact kl, by omega, by omega, fun g7 hp7 => ⟨rfl, ?_, ?_, by rw [hp7.floor]; omega, by rw [hp7.next]; omega⟩⟩
        · refine ⟨fun i hi a1 a2 a3 a4 => ?_, ?_, ?_, ?_, ?_, by rw [hp7.next]; omega⟩
          · rw [hp7.old i a4, hs6.old i a2, hs5.old i a1, g4old i (by omega) a4]; exact hj.old i hi a1 a2 a3 a4
          · rw [hp7.old _ (by omega), hs6.old _ (by omega), hs5.old _ (by omega)]; exact k3
          · rw [hp7.old _ (by omega), hs6.old _ (by omega)]; exact hs5.get
          · rw [hp7.old _ (by omega)]; exact hs6.get
          · exact hp7.get
        · intro i hi a1 a2 a3 a4
          rw [hp7.old i a4, hs6.old i a2, hs5.old i a1]
          by_cases hi1 : i < g1.next
          · exact g4old i hi1 a4
          · omega
      · have hlen : 0 < (wrongTo Y c Y.ns).length := List.length_pos_iff.2 hW
        have hlen' : ¬ ((wrongTo Y c Y.ns).length : Int) = 0 := by omega
        have i0 : indexSl 1 wv (.int .i64 0) = some (ptrO wv 1 0 0) := Cells.idx hwi hlen
        have l0 := Cells.ld hwi hlen Nat.zero_lt_one
        have l5 : loadCell g4 (.pointer (some ⟨h.next + 3, 0, none⟩)) = some (.int .i64 s1) := row_ld0 k3
        rw [firstStep_go hW]
        simp only [rn0, rn1, rn2, rn3, rn4, rn5, rn6, rn7, rn8, if_true, if_false, Nat.le_refl, true_and, and_true, decide_true, decide_false, Bool.not_true, Bool.not_false, reduceIte, Nat.reduceEqDiff, Nat.reduceAdd, Nat.reduceMul, Nat.reduceSub, Nat.reduceLeDiff, Nat.reduceLT, rb53_0, c2, c3, c5, c6, q1, q2, ew, Cells.len hwi, hlen']
        refine W_draw All ?_
        simp only [rn0, rn1, rn2, rn3, rn4, rn5, rn6, rn7, rn8, if_true, if_false, Nat.le_refl, true_and, and_true, decide_true, decide_false, Bool.not_true, Bool.not_false, reduceIte, Nat.reduceEqDiff, Nat.reduceAdd, Nat.reduceMul, Nat.reduceSub, Nat.reduceLeDiff, Nat.reduceLT, c2, c3, c5, c6, l5, i0, l0, valN_tmp, Nat.reduceLT]
        refine up_store (b := h.next + 3) (off := 0) (vs := [.int .i64 (max s1 ((wrongTo Y c Y.ns).getD 0 0))]) rfl k3 (by omega) (by omega) rfl rfl rfl (by simp) (fun _ _ => trivial) fun g6 hs6 => ?_
        rw [splice1] at hs6
        have n6 := hs6.next
        have f6 := hs6.floor
        simp only [rn0, rn1, rn2, rn3, rn4, rn5, rn6, rn7, rn8, if_true, if_false, Nat.le_refl, true_and, and_true, decide_true, decide_false, Bool.not_true, Bool.not_false, reduceIte, Nat.reduceEqDiff, Nat.reduceAdd, Nat.reduceMul, Nat.reduceSub, Nat.reduceLeDiff, Nat.reduceLT]
        refine ⟨by rw [hs6.old _ (by omega)]; exact kl, by omega, by omega, fun g7 hp7 => ⟨rfl, ?_, ?_, by rw [hp7.floor]; omega, by rw [hp7.next]; omega⟩⟩
        · refine ⟨fun i hi a1 a2 a3 a4 => ?_, ?_, ?_, ?_, ?_, by rw [hp7.next]; omega⟩
          · rw [hp7.old i a4, hs6.old i a3, g4old i (by omega) a4]; exact hj.old i hi a1 a2 a3 a4
          · rw [hp7.old _ (by omega)]; exact hs6.get
          · rw [hp7.old _ (by omega), hs6.old _ (by omega)]; exact k1
          · rw [hp7.old _ (by omega), hs6.old _ (by omega)]; exact k2
          · rw [hp7.get, r6]; rfl
        · intro i hi a1 a2 a3 a4
          rw [hp7.old i a4, hs6.old i a3]
          by_cases hi1 : i < g1.next
          · exact g4old i hi1 a4
          · omega)
    (by omega)
  obtain ⟨v5, g7, e7, j7, fl7, n7⟩ := hit
  change JF h2 h.next r (firstRun Y) g7 at j7
  generalize firstRun Y = fr at j7 hrr
  obtain ⟨fr1, fr2⟩ := fr
  have hup := j7.up
  have hm7 : ∀ g8, Put g7 g8 (h.next + 7) (some (.loop { (if fr2 then leftBy r .ret else r) with state := .exhausted })) → g8.get (h.next + 6) = some .deferred := fun g8 hp8 => by rw [hp8.old _ (by omega), j7.old _ (by omega) (by omega) (by omega) (by omega) (by omega)]; exact hmark
  cases fr2 with
  | true =>
    have hrr' : res = (0, 7) := hrr
    rw [hrr']
    refine ⟨v5, g7, .ret, by rw [e5]; exact e7, by omega, by omega, j7.lp, fun g8 hp8 => ?_⟩
    have n8 := hp8.next
    have f8 := hp8.floor
    have m8 := hm7 g8 hp8
    simp only [rn0, rn1, rn2, rn3, rn4, rn5, rn6, rn7, rn8, if_true, if_false, Nat.le_refl, true_and, and_true, decide_true, decide_false, Bool.not_true, Bool.not_false, reduceIte, Nat.reduceEqDiff, Nat.reduceAdd, Nat.reduceMul, Nat.reduceSub, Nat.reduceLeDiff, Nat.reduceLT]
    refine ret_mark (.inr rfl) m8 (by omega) (by omega) fun g9 hp9 => ?_
    have l1 : loadCell g9 (f0 2) = some (.int .i64 0) := by rw [c2]; exact row_ld0 (by rw [hp9.old _ (by omega), hp8.old _ (by omega)]; exact j7.r1)
    have l2 : loadCell g9 (f0 3) = some (.int .i64 7) := by rw [c3]; exact row_ld0 (by rw [hp9.old _ (by omega), hp8.old _ (by omega)]; exact j7.r2)
    exact ⟨_, res_11 l1 l2, rfl⟩
  | false =>
    have hrr' : res = (fr1, 0) := hrr
    rw [hrr']
    refine ⟨v5, g7, .norm, by rw [e5]; exact e7, by omega, by omega, by rw [r6]; exact j7.lp, fun g8 hp8 => ?_⟩
    rw [r6] at hp8
    have n8 := hp8.next
    have f8 := hp8.floor
    have m8 := hm7 g8 hp8
    have b1 : g8.get (h.next + 1) = some (.row [.int .i64 0] true 0) := by rw [hp8.old _ (by omega)]; exact j7.r1
    have b2 : g8.get (h.next + 2) = some (.row [.int .i64 0] true 0) := by rw [hp8.old _ (by omega)]; exact j7.r2
    have l5 : loadCell g8 (.pointer (some ⟨h.next + 3, 0, none⟩)) = some (.int .i64 fr1) := row_ld0 (by rw [hp8.old _ (by omega)]; exact j7.fst)
    simp only [rn0, rn1, rn2, rn3, rn4, rn5, rn6, rn7, rn8, if_true, if_false, Nat.le_refl, true_and, and_true, decide_true, decide_false, Bool.not_true, Bool.not_false, reduceIte, Nat.reduceEqDiff, Nat.reduceAdd, Nat.reduceMul, Nat.reduceSub, Nat.reduceLeDiff, Nat.reduceLT, c2, c3, c5, l5]
    refine step_store (vs := [.int .i64 fr1]) rfl b1 (by omega) (by omega) rfl rfl rfl (by simp) fun g9 hs9 => ?_
    rw [splice1] at hs9
    have n9 := hs9.next
    have f9 := hs9.floor
    simp only [rn0, rn1, rn2, rn3, rn4, rn5, rn6, rn7, rn8, if_true, if_false, Nat.le_refl, true_and, and_true, decide_true, decide_false, Bool.not_true, Bool.not_false, reduceIte, Nat.reduceEqDiff, Nat.reduceAdd, Nat.reduceMul, Nat.reduceSub, Nat.reduceLeDiff, Nat.reduceLT, c2, c3, c5]
    refine step_store (vs := [.int .i64 0]) rfl (by rw [hs9.old _ (by omega)]; exact b2) (by omega) (by omega) rfl rfl rfl (by simp) fun g10 hs10 => ?_
    rw [splice1] at hs10
    have n10 := hs10.next
    have f10 := hs10.floor
    simp only [rn0, rn1, rn2, rn3, rn4, rn5, rn6, rn7, rn8, if_true, if_false, Nat.le_refl, true_and, and_true, decide_true, decide_false, Bool.not_true, Bool.not_false, reduceIte, Nat.reduceEqDiff, Nat.reduceAdd, Nat.reduceMul, Nat.reduceSub, Nat.reduceLeDiff, Nat.reduceLT]
    refine ret_mark (.inr rfl) (by rw [hs10.old _ (by omega), hs9.old _ (by omega)]; exact m8) (by omega) (by omega) fun g11 hp11 => ?_
    have l1 : loadCell g11 (.pointer (some ⟨h.next + 1, 0, none⟩)) = some (.int .i64 fr1) := row_ld0 (by rw [hp11.old _ (by omega), hs10.old _ (by omega)]; exact hs9.get)
    have l2 : loadCell g11 (.pointer (some ⟨h.next + 2, 0, none⟩)) = some (.int .i64 0) := row_ld0 (by rw [hp11.old _ (by omega)]; exact hs10.get)
    refine ⟨_, res_11 (x := .int .i64 fr1) (y := .int .i64 0) ?_ ?_, rfl⟩
    · simp only [rn0, rn1, rn2, rn3, rn4, rn5, rn6, rn7, rn8, if_true, if_false, Nat.le_refl, true_and, and_true, decide_true, decide_false, Bool.not_true, Bool.not_false, reduceIte, Nat.reduceEqDiff, Nat.reduceAdd, Nat.reduceMul, Nat.reduceSub, Nat.reduceLeDiff, Nat.reduceLT, c2, l1]
    · simp only [rn0, rn1, rn2, rn3, rn4, rn5, rn6, rn7, rn8, if_true, if_false, Nat.le_refl, true_and, and_true, decide_true, decide_false, Bool.not_true, Bool.not_false, reduceIte, Nat.reduceEqDiff, Nat.reduceAdd, Nat.reduceMul, Nat.reduceSub, Nat.reduceLeDiff, Nat.reduceLT, c3, l2]
end Go.Vm.Vat

namespace Go.Vm
variable {P : Program} {N : Nat} {f : Fr} {h : AHeap} {ty t u : TypeId} {x y : Operand}
def shrF (a b : Int) : Option Value := if 0 ≤ b ∧ b ≤ 64 then some (.int .i64 (a / 2 ^ b.toNat)) else none
theorem p_shr : plainF P N (.binOp .shr t x y u) ty f h = run2u shrF (plainF P N (.binOp .shr t x y u) ty f) (valN N f x) (valN N f y) h := by
  unfold run2u
  split
  · rename_i a b e1 e2
    split
    · rename_i v hv
      unfold shrF at hv
      split at hv
      · rename_i hb
        cases hv
        unfold plainF
        have : allB (fun x => plainV (valN N f x)) (Op.binOp .shr t x y u).operands.toList = true := by simp [Op.operands, allB, e1, e2, plainV, plainE, plainCell]
        rw [this]
        simp only [execOp, bare, e1, e2, eqGuard, binOp, shift_shr .i64 .u64 a b hb.1 hb.2]
        rfl
      · cases hv
    · rfl
  · rfl
theorem r_shr {other : AHeap → Option (Value × AHeap)} {a k : Nat} (hk : k < 62) : run2u shrF other (.int .i64 (a : Int)) (.int .u64 (k : Int)) h = some (.int .i64 ((a / 2 ^ k : Nat) : Int), h) := by
  simp only [run2u, shrF]
  rw [if_pos (by omega), Int.toNat_natCast]
  have : (a : Int) / 2 ^ k = ((a / 2 ^ k : Nat) : Int) := by simp
  rw [this]
end Go.Vm
namespace Go.Vm.Vat
open Go.Proofs
set_option linter.unusedSimpArgs false
set_option linter.unusedVariables false
set_option maxRecDepth 10000
variable {n : Nat} {h : AHeap}

/-- the numbers below k whose bit is set -/
def selTo (bits : Nat) : Nat → List Nat
  | 0 => []
  | k + 1 => if bits / 2 ^ k % 2 = 1 then selTo bits k ++ [k] else selTo bits k
theorem selTo_yes {bits k : Nat} (h : bits / 2 ^ k % 2 = 1) : selTo bits (k + 1) = selTo bits k ++ [k] := by rw [selTo, if_pos h]
theorem selTo_no {bits k : Nat} (h : ¬ bits / 2 ^ k % 2 = 1) : selTo bits (k + 1) = selTo bits k := by rw [selTo, if_neg h]
theorem selTo_len {bits : Nat} : ∀ k, (selTo bits k).length ≤ k
  | 0 => Nat.le_refl _
  | k + 1 => by
    have := selTo_len (bits := bits) k
    by_cases h : bits / 2 ^ k % 2 = 1
    · rw [selTo_yes h, List.length_append, List.length_singleton]; omega
    · rw [selTo_no h]; omega
theorem selTo_mem {bits : Nat} : ∀ {k x : Nat}, x ∈ selTo bits k ↔ x < k ∧ bits / 2 ^ x % 2 = 1
  | 0, x => by simp [selTo]
  | k + 1, x => by
    have := selTo_mem (bits := bits) (k := k) (x := x)
    by_cases h : bits / 2 ^ k % 2 = 1
    · rw [selTo_yes h, List.mem_append, this, List.mem_singleton]
      constructor
      · rintro (⟨h1, h2⟩ | rfl)
        · exact ⟨by omega, h2⟩
        · exact ⟨by omega, h⟩
      · rintro ⟨h1, h2⟩
        by_cases e : x = k
        · exact .inr e
        · exact .inl ⟨by omega, h2⟩
    · rw [selTo_no h, this]
      constructor
      · rintro ⟨h1, h2⟩; exact ⟨by omega, h2⟩
      · rintro ⟨h1, h2⟩
        refine ⟨?_, h2⟩
        by_cases e : x = k
        · subst e; exact absurd h2 h
        · omega
/-- the yard with the samples whose bits are set -/
def picked (Y : MY) (bits : Nat) : MY := { Y with ns := (selTo bits Y.ns).length, sv := fun k => Y.sv ((selTo bits Y.ns).getD k 0), slo := fun k => Y.slo ((selTo bits Y.ns).getD k 0), shi := fun k => Y.shi ((selTo bits Y.ns).getD k 0) }
def sampC (Y : MY) (l : List Nat) (k j : Nat) : Value := .int .i64 (if j = 0 then Y.sv (l.getD k 0) else if j = 1 then Y.slo (l.getD k 0) else Y.shi (l.getD k 0))
theorem spliceN2 {a b c d : Value} : splice [a, b, c] 2 [d] = [a, b, d] := rfl
def s69 : SCode := (.seq (.ops [⟨(some 2), none, .box (T 0)⟩, ⟨(some 4), none, .alloc [(.slice none 0 0), (.slice none 0 0), (.slice none 0 0)]⟩]) (.seq (.ops [⟨(some 7), none, .loadN 3 (T 2)⟩, ⟨(some 5), none, .alloc [(.slice none 0 0), (.slice none 0 0), (.slice none 0 0)]⟩, ⟨none, none, .store 3 (T 5) (T 7)⟩]) (.seq (.ops [⟨(some 8), none, .fieldAddr 2 (T 5)⟩, ⟨none, none, .store 1 (T 8) (.const (.slice none 0 0))⟩]) (.seq (.seq (.ops [⟨(some 6), none, .mov (.const (.int .i64 (0)))⟩]) (.block 0 (.loop (.seq (.seq (.ops [⟨(some 9), none, .mov (T 6)⟩, ⟨(some 10), none, .fieldAddr 2 (T 2)⟩, ⟨(some 11), none, .load1 (T 10)⟩, ⟨(some 12), none, .len (T 11)⟩, ⟨(some 13), none, .int2 .lss (T 9) (T 12)⟩]) (.cond (T 13) .skip (.exit 0))) (.seq (.block 1 (.seq (.ops [⟨(some 16), none, .mov (T 1)⟩, ⟨(some 17), none, .mov (T 6)⟩, ⟨(some 18), none, .plain (.convert 3 104 (T 17)) 104⟩, ⟨(some 19), none, .plain (.binOp .shr 3 (T 16) (T 18) 104) 3⟩, ⟨(some 20), none, .plain (.binOp .rem 3 (T 19) (.const (.int .i64 (2))) 3) 3⟩, ⟨(some 21), none, .int2 .eql (T 20) (.const (.int .i64 (1)))⟩]) (.cond (T 21) (.draw [⟨.free, ⟨(some 22), none, .fieldAddr 2 (T 5)⟩⟩, ⟨.rd, ⟨(some 23), none, .load1 (T 22)⟩⟩, ⟨.free, ⟨(some 24), none, .fieldAddr 2 (T 2)⟩⟩, ⟨.rd1, ⟨(some 25), none, .load1 (T 24)⟩⟩, ⟨.free, ⟨(some 26), none, .mov (T 6)⟩⟩, ⟨.free, ⟨(some 27), none, .idxSl 3 (T 25) (T 26)⟩⟩, ⟨.rd1, ⟨(some 28), none, .loadN 3 (T 27)⟩⟩, ⟨.up, ⟨(some 29), none, .bslice 3 1 [(.int .i64 (0)), (.int .i64 (0)), (.int .i64 (0))] [0] [(T 28)]⟩⟩, ⟨.any, ⟨(some 30), none, .append 3 24 (T 23) (T 29)⟩⟩, ⟨.free, ⟨(some 31), none, .fieldAddr 2 (T 5)⟩⟩, ⟨.any, ⟨none, none, .store 1 (T 31) (T 30)⟩⟩]) .skip))) (.ops [⟨(some 14), none, .mov (T 6)⟩, ⟨(some 15), none, .int2 .add (T 14) (.const (.int .i64 (1)))⟩, ⟨(some 6), none, .mov (T 15)⟩])))))) (.seq (.ops [⟨(some 32), none, .loadN 3 (T 5)⟩, ⟨none, none, .store 3 (T 4) (T 32)⟩]) .ret)))))
theorem fok69 : FnOk Try.prog 69 33 s69 [.cellN 4 3] := ⟨Try.f69, _, Try.func69, rfl, Try.ntmps69, by kernel_rfl, by kernel_rfl⟩
theorem some_c (hn : 10010 ≤ n) (hr : h.next + 200 < far) (hfl : h.floor ≤ h.next) {fv vv sv : Value} {Y : MY} (hy : YardR h fv vv sv Y) (hs5 : Y.ns ≤ 5) {bits : Nat} :
    ∃ S h', call n (.func (.func 69) #[] #[]) [.agg ⟨[fv, vv, sv]⟩, .int .i64 (bits : Int)] h = some (.agg ⟨[fv, vv, S]⟩, h') ∧ YardR h' fv vv S (picked Y bits) ∧ Made h h' 100 := by
  obtain ⟨n, rfl⟩ : ∃ p, n = p + 1 := ⟨n - 1, by omega⟩
  suffices hsuf : ∃ v h', call (n + 1) (.func (.func 69) #[] #[]) [.agg ⟨[fv, vv, sv]⟩, .int .i64 (bits : Int)] h = some (v, h') ∧ ∃ S, v = .agg ⟨[fv, vv, S]⟩ ∧ YardR h' fv vv S (picked Y bits) ∧ Made h h' 100 by
    obtain ⟨v, h', e, S, rfl, h1, h2⟩ := hsuf
    exact ⟨S, h', e, h1, h2⟩
  refine call_any0 fok69 rfl rfl (by simp) ?_
  simp only [s69, W_seq, W_ops]
  refine ops_box (cs := [fv, vv, sv]) (by omega) rfl hy.one fun g1 hx1 => ?_
  have n1 := hx1.next
  have f1' := hx1.floor
  have e1 : g1.next = h.next + 1 := n1
  simp only [rn0, rn1, rn2, rn3, rn4, rn5, rn6, rn7, rn8, if_true, if_false, Nat.le_refl, true_and, and_true, decide_true, decide_false, Bool.not_true, Bool.not_false, reduceIte, Nat.reduceEqDiff, Nat.reduceAdd, Nat.reduceMul, Nat.reduceSub, Nat.reduceLeDiff, Nat.reduceLT]
  refine step_row (cs := [nilS, nilS, nilS]) (by omega) rfl rfl fun g2 hx2 => ?_
  have n2 := hx2.next
  have f2' := hx2.floor
  have e2 : g2.next = h.next + 2 := by omega
  have w2 := (hx1.row.mono hx2.sub).whole (n := 3) rfl
  simp only [rn0, rn1, rn2, rn3, rn4, rn5, rn6, rn7, rn8, if_true, if_false, Nat.le_refl, true_and, and_true, decide_true, decide_false, Bool.not_true, Bool.not_false, reduceIte, Nat.reduceEqDiff, Nat.reduceAdd, Nat.reduceMul, Nat.reduceSub, Nat.reduceLeDiff, Nat.reduceLT, w2]
  refine step_new (vs := [fv, vv, sv]) (by omega) (by omega) rfl (by simp only [rn0, rn1, rn2, rn3, rn4, rn5, rn6, rn7, rn8, if_true, if_false, Nat.le_refl, true_and, and_true, decide_true, decide_false, Bool.not_true, Bool.not_false, reduceIte, Nat.reduceEqDiff, Nat.reduceAdd, Nat.reduceMul, Nat.reduceSub, Nat.reduceLeDiff, Nat.reduceLT]; rfl) hy.one rfl rfl fun g3 hx3 => ?_
  have n3 := hx3.next
  have f3' := hx3.floor
  have hg3 := hx3.get
  simp only [rn0, rn1, rn2, rn3, rn4, rn5, rn6, rn7, rn8, if_true, if_false, Nat.le_refl, true_and, and_true, decide_true, decide_false, Bool.not_true, Bool.not_false, reduceIte, Nat.reduceEqDiff, Nat.reduceAdd, Nat.reduceMul, Nat.reduceSub, Nat.reduceLeDiff, Nat.reduceLT, Nat.zero_add]
  refine step_store (b := g2.next) (off := 2) (vs := [nilS]) rfl hg3 (by omega) (by omega) rfl rfl rfl (by simp) fun g4 hs4 => ?_
  rw [spliceN2] at hs4
  have n4 := hs4.next
  have f4' := hs4.floor
  have o4 : ∀ i, i < h.next + 2 → g4.get i = g2.get i := fun i hi => by rw [hs4.old i (by omega), hx3.old i (by omega)]
  have hsub : Sub All h g4 := AHeap.subOf fun i hi => by rw [o4 i (by omega), hx2.old i (by omega), hx1.old i hi]
  have hbox : Row g4 h.next [fv, vv, sv] := by
    obtain ⟨w, gr, e⟩ := hx1.row
    exact ⟨w, gr, by rw [o4 _ (by omega), hx2.old _ (by omega)]; exact e⟩
  have hres : g4.get (h.next + 1) = some (.row [nilS, nilS, nilS] true 0) := by rw [o4 _ (by omega)]; have := hx2.get; rw [e1] at this; exact this
  have hout : g4.get (h.next + 2) = some (.row [fv, vv, nilS] true 0) := by have := hs4.get; rw [e2] at this; exact this
  have e4 : g4.next = h.next + 3 := by omega
  have ef4 : g4.floor = h.floor := by omega
  rw [e1, e2]
  clear hs4 hx3 hx2 hx1 hg3
  have hall : ∀ {g : AHeap}, Keep (h.next + 2) g4 g → Sub All h g := fun st i cs w gr _ hg => st.sub i cs w gr (by have := AHeap.lt_of_get hg; omega) (hsub _ _ _ _ trivial hg)
  simp only [rn0, rn1, rn2, rn3, rn4, rn5, rn6, rn7, rn8, if_true, if_false, Nat.le_refl, true_and, and_true, decide_true, decide_false, Bool.not_true, Bool.not_false, reduceIte, Nat.reduceEqDiff, Nat.reduceAdd, Nat.reduceMul, Nat.reduceSub, Nat.reduceLeDiff, Nat.reduceLT]
  refine W_loop Y.ns (fun k f g m => (∃ S, Keep (h.next + 2) g4 g ∧ g.get (h.next + 2) = some (.row [fv, vv, S] true 0) ∧ GrowC g4.next g S 3 (selTo bits k).length (sampC Y (selTo bits k)) ∧ g.next ≤ g4.next + 2 * k) ∧ m = [] ∧ f 1 = .int .i64 (bits : Int) ∧ f 2 = .pointer (some ⟨h.next, 0, none⟩) ∧ f 4 = .pointer (some ⟨h.next + 1, 0, none⟩) ∧ f 5 = .pointer (some ⟨h.next + 2, 0, none⟩) ∧ f 6 = .int .i64 (k : Int)) (by simp; omega) ?_ ?_ ?_
  · simp only [rn0, rn1, rn2, rn3, rn4, rn5, rn6, rn7, rn8, if_true, if_false, Nat.le_refl, true_and, and_true, decide_true, decide_false, Bool.not_true, Bool.not_false, reduceIte, Nat.reduceEqDiff, Nat.reduceAdd, Nat.reduceMul, Nat.reduceSub, Nat.reduceLeDiff, Nat.reduceLT]
    exact ⟨⟨_, Keep.refl, hout, .nil, by omega⟩, rfl⟩
  · rintro k f g m hk ⟨⟨S, st, go, gS, hgn⟩, rfl, f1, f2, f4, f5, f6⟩
    have hk' : (k : Int) < (Y.ns : Int) := by omega
    have hw : wrapF .i64 ((k : Int) + 1) = ((k + 1 : Nat) : Int) := by rw [wrap_in (by omega) (by omega)]; rfl
    have hrow : Row g (h.next + 2) [fv, vv, S] := ⟨_, _, go⟩
    have hbx := hbox.keep st (by omega)
    have hSm := (hy.mono (hall st)).s
    have hup := st.up
    have hfg := st.floor
    have hlk := selTo_len (bits := bits) k
    have hm2 : ((bits / 2 ^ k : Nat) : Int).tmod 2 = ((bits / 2 ^ k % 2 : Nat) : Int) := rfl
    have z2 : ¬ (2 : Int) = 0 := by decide
    by_cases hb : bits / 2 ^ k % 2 = 1
    · have hb' : ((bits / 2 ^ k % 2 : Nat) : Int) = 1 := by omega
      simp only [rn0, rn1, rn2, rn3, rn4, rn5, rn6, rn7, rn8, if_true, if_false, Nat.le_refl, true_and, and_true, decide_true, decide_false, Bool.not_true, Bool.not_false, reduceIte, Nat.reduceEqDiff, Nat.reduceAdd, Nat.reduceMul, Nat.reduceSub, Nat.reduceLeDiff, Nat.reduceLT, f1, f2, f4, f5, f6, hbx.ld, Nat.zero_add, Nat.add_zero, List.getElem?_cons_zero, List.getElem?_cons_succ, Cells.len hSm, hk', p_uint, r_conv (k := k) (by omega), p_shr, r_shr (a := bits) (k := k) (by omega), valN_tmp, valN_const, Nat.reduceLT, r_rem z2, hm2, hb']
      refine W_draw All ?_
      simp only [rn0, rn1, rn2, rn3, rn4, rn5, rn6, rn7, rn8, if_true, if_false, Nat.le_refl, true_and, and_true, decide_true, decide_false, Bool.not_true, Bool.not_false, reduceIte, Nat.reduceEqDiff, Nat.reduceAdd, Nat.reduceMul, Nat.reduceSub, Nat.reduceLeDiff, Nat.reduceLT, f1, f2, f4, f5, f6, hbx.ld, hrow.ld, Nat.zero_add, Nat.add_zero, List.getElem?_cons_zero, List.getElem?_cons_succ, gS.cells.self, Cells.idx hSm hk, samps_ld hSm hk, sl_samp]
      refine up_slice (by omega) rfl (fun g1 hx => hx.sub) fun g1 hx => ?_
      have hgx := hx.next
      have hgf := hx.floor
      have hsucc := selTo_yes hb
      have gS1 : GrowC g4.next g1 S 3 (selTo bits k).length (sampC Y (selTo bits (k + 1))) := (gS.keep (hx.keep (o := h.next + 2)) (by omega)).congr fun i j hi hj => by
        unfold sampC
        rw [hsucc, List.getD_eq_getElem?_getD, List.getD_eq_getElem?_getD, List.getElem?_append_left hi]
      have hlast : (selTo bits (k + 1)).getD (selTo bits k).length 0 = k := by rw [hsucc, List.getD_eq_getElem?_getD, List.getElem?_append_right (Nat.le_refl _)]; simp
      obtain ⟨S', g2, e, e', gS', hk2⟩ := gS1.append (bytes := 24) (cap := 1) (by omega) (by omega) (by omega) hx.get rfl rfl (fun j hj => by
        unfold sampC
        rw [hlast]
        obtain rfl | rfl | rfl : j = 0 ∨ j = 1 ∨ j = 2 := by omega
        all_goals rfl) (by simp [maxBytes]; omega) (by simp [maxBytes]; omega)
      obtain ⟨st2, go2⟩ := grew (st.trans hx.keep) hk2 (fun a k c e => (gS1.block e).1) (by omega) (hx.sub _ _ _ _ trivial go)
      have hgx2 := hk2.next
      have hgf2 := hk2.floor
      have hl1 : (selTo bits (k + 1)).length = (selTo bits k).length + 1 := by rw [hsucc, List.length_append, List.length_singleton]
      simp only [rn0, rn1, rn2, rn3, rn4, rn5, rn6, rn7, rn8, if_true, if_false, Nat.le_refl, true_and, and_true, decide_true, decide_false, Bool.not_true, Bool.not_false, reduceIte, Nat.reduceEqDiff, Nat.reduceAdd, Nat.reduceMul, Nat.reduceSub, Nat.reduceLeDiff, Nat.reduceLT, f1, f2, f4, f5, f6, e, Nat.add_zero, Nat.zero_add]
      refine ⟨by omega, up_store (vs := [S']) rfl go2 (by omega) (by omega) (by rw [e']; rfl) (by simp [allB, gS'.one]) rfl (by simp) (fun _ _ => trivial) fun g3 hs => ?_⟩
      have hgx3 := hs.next
      simp only [rn0, rn1, rn2, rn3, rn4, rn5, rn6, rn7, rn8, if_true, if_false, Nat.le_refl, true_and, and_true, decide_true, decide_false, Bool.not_true, Bool.not_false, reduceIte, Nat.reduceEqDiff, Nat.reduceAdd, Nat.reduceMul, Nat.reduceSub, Nat.reduceLeDiff, Nat.reduceLT, f1, f2, f4, f5, f6, hw, Nat.add_zero]
      rw [hl1]
      exact ⟨_, set_keep st2 hs, hs.get, gS'.keep hs.keep (by omega), by omega⟩
    · have hb' : ¬ ((bits / 2 ^ k % 2 : Nat) : Int) = 1 := by omega
      simp only [rn0, rn1, rn2, rn3, rn4, rn5, rn6, rn7, rn8, if_true, if_false, Nat.le_refl, true_and, and_true, decide_true, decide_false, Bool.not_true, Bool.not_false, reduceIte, Nat.reduceEqDiff, Nat.reduceAdd, Nat.reduceMul, Nat.reduceSub, Nat.reduceLeDiff, Nat.reduceLT, f1, f2, f4, f5, f6, hbx.ld, Nat.zero_add, Nat.add_zero, List.getElem?_cons_zero, List.getElem?_cons_succ, Cells.len hSm, hk', p_uint, r_conv (k := k) (by omega), p_shr, r_shr (a := bits) (k := k) (by omega), valN_tmp, valN_const, Nat.reduceLT, r_rem z2, hm2, hb', hw]
      rw [selTo_no hb]
      exact ⟨_, st, go, gS, by omega⟩
  · rintro f g m ⟨⟨S, st, go, gS, hgn⟩, rfl, f1, f2, f4, f5, f6⟩
    have hbx := hbox.keep st (by omega)
    have hy' := hy.mono (hall st)
    have hup := st.up
    have hfg := st.floor
    have w5 := (show Row g (h.next + 2) [fv, vv, S] from ⟨_, _, go⟩).whole (n := 3) rfl
    have hone : allB oneCell [fv, vv, S] = true := by have h1 := hy.one; simp [allB] at h1 ⊢; simp [h1, gS.one]
    simp only [rn0, rn1, rn2, rn3, rn4, rn5, rn6, rn7, rn8, if_true, if_false, Nat.le_refl, true_and, and_true, decide_true, decide_false, Bool.not_true, Bool.not_false, reduceIte, Nat.reduceEqDiff, Nat.reduceAdd, Nat.reduceMul, Nat.reduceSub, Nat.reduceLeDiff, Nat.reduceLT, f1, f2, f4, f5, f6, hbx.ld, Nat.zero_add, Nat.add_zero, List.getElem?_cons_zero, List.getElem?_cons_succ, Cells.len hy'.s, Int.lt_irrefl, w5]
    refine step_store (b := h.next + 1) (off := 0) (vs := [fv, vv, S]) rfl (st.sub _ _ _ _ (by omega) hres) (by omega) (by omega) rfl hone rfl (by simp) fun g5 hs5 => ?_
    rw [show splice [nilS, nilS, nilS] 0 [fv, vv, S] = [fv, vv, S] from rfl] at hs5
    have n5 := hs5.next
    have f5' := hs5.floor
    have w6 := hs5.row.whole (n := 3) rfl
    simp only [rn0, rn1, rn2, rn3, rn4, rn5, rn6, rn7, rn8, if_true, if_false, Nat.le_refl, true_and, and_true, decide_true, decide_false, Bool.not_true, Bool.not_false, reduceIte, Nat.reduceEqDiff, Nat.reduceAdd, Nat.reduceMul, Nat.reduceSub, Nat.reduceLeDiff, Nat.reduceLT, f4, w6]
    have k5 : Sub All h g5 := fun i cs w gr _ hg => by
      have hlt := AHeap.lt_of_get hg
      exact hs5.keep.sub _ _ _ _ (by omega) (hall st _ _ _ _ trivial hg)
    have hy5 := hy.mono k5
    exact ⟨_, rfl, ⟨hy5.f, hy5.v, (gS.keep hs5.keep (by omega)).cells⟩, k5, by omega, by omega, by omega⟩
end Go.Vm.Vat

namespace Go.Vm.Vat
open Go.Proofs
set_option linter.unusedSimpArgs false
set_option linter.unusedVariables false
set_option maxRecDepth 10000
variable {n : Nat} {h : AHeap}

/-! ### What First answers, said outright -/
theorem wrong_head {Y : MY} {b : Nat → Int} : ∀ k, (wrongTo Y b k = [] ∧ ∀ i, i < k → RightB Y b i) ∨ (wrongTo Y b k ≠ [] ∧ ∃ j : Nat, j < k ∧ (wrongTo Y b k).getD 0 0 = (j : Int) ∧ ¬ RightB Y b j ∧ ∀ i, i < j → RightB Y b i)
  | 0 => .inl ⟨rfl, fun i hi => by omega⟩
  | k + 1 => by
    by_cases hR : RightB Y b k
    · rw [wrongTo_yes hR]
      rcases wrong_head (Y := Y) (b := b) k with ⟨h1, h2⟩ | ⟨h1, j, h2, h3, h4, h5⟩
      · refine .inl ⟨h1, fun i hi => ?_⟩
        by_cases e : i = k
        · subst e; exact hR
        · exact h2 i (by omega)
      · exact .inr ⟨h1, j, by omega, h3, h4, h5⟩
    · rw [wrongTo_no hR]
      refine .inr ⟨by simp, ?_⟩
      rcases wrong_head (Y := Y) (b := b) k with ⟨h1, h2⟩ | ⟨h1, j, h2, h3, h4, h5⟩
      · exact ⟨k, by omega, by rw [h1]; rfl, hR, h2⟩
      · refine ⟨j, by omega, ?_, h4, h5⟩
        rw [← h3]
        cases hw : wrongTo Y b k with
        | nil => exact absurd hw h1
        | cons a l => rfl
theorem run_first {Y : MY} : ∀ (L : List (Nat → Int)) (m0 : Int),
    ((runL (firstStep Y) (m0, false) L).1.2 = true ∧ ∃ c, c ∈ L ∧ wrongTo Y c Y.ns = []) ∨
    ((runL (firstStep Y) (m0, false) L).1.2 = false ∧ (∀ c, c ∈ L → wrongTo Y c Y.ns ≠ [] ∧ (wrongTo Y c Y.ns).getD 0 0 ≤ (runL (firstStep Y) (m0, false) L).1.1) ∧ m0 ≤ (runL (firstStep Y) (m0, false) L).1.1 ∧
      ((runL (firstStep Y) (m0, false) L).1.1 = m0 ∨ ∃ c, c ∈ L ∧ (wrongTo Y c Y.ns).getD 0 0 = (runL (firstStep Y) (m0, false) L).1.1))
  | [], m0 => .inr ⟨rfl, fun c hc => (List.not_mem_nil hc).elim, Int.le_refl _, .inl rfl⟩
  | x :: L, m0 => by
    by_cases hw : wrongTo Y x Y.ns = []
    · left
      have : runL (firstStep Y) (m0, false) (x :: L) = ((m0, true), false) := by simp only [runL, firstStep_hit hw, Bool.false_eq_true, if_false]
      rw [this]
      exact ⟨rfl, x, List.mem_cons_self, hw⟩
    · have : runL (firstStep Y) (m0, false) (x :: L) = runL (firstStep Y) (max m0 ((wrongTo Y x Y.ns).getD 0 0), false) L := by simp only [runL, firstStep_go hw, if_true]
      rw [this]
      rcases run_first (Y := Y) L (max m0 ((wrongTo Y x Y.ns).getD 0 0)) with ⟨h1, c, h2, h3⟩ | ⟨h1, h2, h3, h4⟩
      · exact .inl ⟨h1, c, List.mem_cons_of_mem _ h2, h3⟩
      · refine .inr ⟨h1, fun c hc => ?_, by omega, ?_⟩
        · rcases List.mem_cons.1 hc with rfl | hc
          · exact ⟨hw, by omega⟩
          · exact h2 c hc
        · rcases h4 with h4 | ⟨c, h4, h5⟩
          · by_cases e : m0 ≤ (wrongTo Y x Y.ns).getD 0 0
            · exact .inr ⟨x, List.mem_cons_self, by omega⟩
            · exact .inl (by omega)
          · exact .inr ⟨c, List.mem_cons_of_mem _ h4, h5⟩
theorem enum_mem {Y : MY} {x : Nat → Int} : x ∈ enumB Y.lo Y.hi Y.nf 0 (fun _ => 0) ↔ (∀ j, j < Y.nf → Y.lo j ≤ x j ∧ x j ≤ Y.hi j) ∧ ∀ j, Y.nf ≤ j → x j = 0 := by
  rw [enumB_ok]
  constructor
  · rintro ⟨h1, h2⟩; exact ⟨fun j hj => h1 j (by omega) (by omega), fun j hj => h2 j (by omega)⟩
  · rintro ⟨h1, h2⟩; exact ⟨fun j _ hj => h1 j (by omega), fun j hj => h2 j (by omega)⟩
theorem first_hit {Y : MY} (hh : (firstRun Y).2 = true) : truths Y ≠ [] := by
  rcases run_first (Y := Y) (enumB Y.lo Y.hi Y.nf 0 fun _ => 0) 0 with ⟨_, c, h2, h3⟩ | ⟨h1, _⟩
  · have hall : ∀ k, k < Y.ns → RightB Y c k := by
      rcases wrong_head (Y := Y) (b := c) Y.ns with ⟨_, h⟩ | ⟨h, _⟩
      · exact h
      · exact absurd h3 h
    have : c ∈ truths Y := truths_mem.2 ⟨enum_mem.1 h2, hall⟩
    intro e; rw [e] at this; exact List.not_mem_nil this
  · unfold firstRun at hh; rw [h1] at hh; cases hh
theorem first_miss {Y : MY} (hF : ∀ k, k < Y.nf → 0 ≤ Y.lo k ∧ Y.lo k ≤ Y.hi k ∧ Y.hi k ≤ 20) (hh : (firstRun Y).2 = false) : ∃ N : Nat, N < Y.ns ∧ (firstRun Y).1 = (N : Int) ∧
    (∃ c, c ∈ enumB Y.lo Y.hi Y.nf 0 (fun _ => 0) ∧ ∀ i, i < N → RightB Y c i) ∧ ∀ c, c ∈ enumB Y.lo Y.hi Y.nf 0 (fun _ => 0) → ∃ j, j ≤ N ∧ ¬ RightB Y c j := by
  rcases run_first (Y := Y) (enumB Y.lo Y.hi Y.nf 0 fun _ => 0) 0 with ⟨h1, _⟩ | ⟨_, h2, h3, h4⟩
  · unfold firstRun at hh; rw [h1] at hh; cases hh
  change ∀ c, c ∈ enumB Y.lo Y.hi Y.nf 0 (fun _ => 0) → wrongTo Y c Y.ns ≠ [] ∧ (wrongTo Y c Y.ns).getD 0 0 ≤ (firstRun Y).1 at h2
  change 0 ≤ (firstRun Y).1 at h3
  change (firstRun Y).1 = 0 ∨ ∃ c, c ∈ enumB Y.lo Y.hi Y.nf 0 (fun _ => 0) ∧ (wrongTo Y c Y.ns).getD 0 0 = (firstRun Y).1 at h4
  generalize (firstRun Y).1 = m at h2 h3 h4
  have hx : (fun j => if j < Y.nf then Y.lo j else 0) ∈ enumB Y.lo Y.hi Y.nf 0 (fun _ => 0) := enum_mem.2 ⟨fun j hj => by simp only [hj, if_true]; exact ⟨Int.le_refl _, (hF j hj).2.1⟩, fun j hj => by simp only [show ¬ j < Y.nf by omega, if_false]⟩
  have hatt : ∃ c, c ∈ enumB Y.lo Y.hi Y.nf 0 (fun _ => 0) ∧ (wrongTo Y c Y.ns).getD 0 0 = m := by
    rcases h4 with h4 | h4
    · refine ⟨_, hx, ?_⟩
      obtain ⟨k1, k2⟩ := h2 _ hx
      rcases wrong_head (Y := Y) (b := fun j => if j < Y.nf then Y.lo j else 0) Y.ns with ⟨h, _⟩ | ⟨_, j, _, h, _⟩
      · exact absurd h k1
      · omega
    · exact h4
  obtain ⟨c, c1, c2⟩ := hatt
  rcases wrong_head (Y := Y) (b := c) Y.ns with ⟨h, _⟩ | ⟨_, j, j1, j2, j3, j4⟩
  · exact absurd h (h2 c c1).1
  refine ⟨j, j1, by omega, ⟨c, c1, j4⟩, fun d hd => ?_⟩
  obtain ⟨k1, k2⟩ := h2 d hd
  rcases wrong_head (Y := Y) (b := d) Y.ns with ⟨h, _⟩ | ⟨_, i, i1, i2, i3, i4⟩
  · exact absurd h k1
  · exact ⟨i, by omega, i3⟩

/-! ### A yard with some of its samples -/
theorem picked_right {Y : MY} {b : Nat} {c : Nat → Int} : (∀ k, k < (picked Y b).ns → RightB (picked Y b) c k) ↔ ∀ x, x < Y.ns → b / 2 ^ x % 2 = 1 → RightB Y c x := by
  have hget : ∀ k, k < (selTo b Y.ns).length → (selTo b Y.ns).getD k 0 ∈ selTo b Y.ns := fun k hk => by rw [List.getD_eq_getElem?_getD, List.getElem?_eq_getElem hk]; exact List.getElem_mem hk
  constructor
  · intro hk x hx hb
    obtain ⟨i, hi, he⟩ := List.getElem_of_mem (selTo_mem.2 ⟨hx, hb⟩)
    have := hk i hi
    have e : (selTo b Y.ns).getD i 0 = x := by rw [List.getD_eq_getElem?_getD, List.getElem?_eq_getElem hi]; exact he
    have h2 : RightB Y c ((selTo b Y.ns).getD i 0) := this
    rw [e] at h2; exact h2
  · intro hx k hk
    obtain ⟨h1, h2⟩ := selTo_mem.1 (hget k hk)
    exact hx _ h1 h2
theorem picked_truth {Y : MY} {b : Nat} {c : Nat → Int} : c ∈ truths (picked Y b) ↔ c ∈ enumB Y.lo Y.hi Y.nf 0 (fun _ => 0) ∧ ∀ x, x < Y.ns → b / 2 ^ x % 2 = 1 → RightB Y c x := by
  rw [truths_mem, picked_right, enum_mem]; exact Iff.rfl
theorem picked_thin {Y : MY} {b : Nat} (hT : Thin Y) : Thin (picked Y b) := by
  obtain ⟨h1, h2, h3, h4⟩ := hT
  have := selTo_len (bits := b) Y.ns
  exact ⟨h1, h2, Nat.le_trans this h3, h4⟩
theorem picked_fault {Y : MY} {b : Nat} (hf : faultN Y = 0) : faultN (picked Y b) = 0 := by
  have hG := good_of hf
  have hlen := selTo_len (bits := b) Y.ns
  have h1 : SizesOk (picked Y b) := ⟨hG.sz.1, hG.sz.2.1, Nat.le_trans hlen hG.sz.2.2⟩
  have h4 : SampsOk (picked Y b) := fun k hk => hG.s _ (selTo_mem.1 (by
    have hk' : k < (selTo b Y.ns).length := hk
    rw [List.getD_eq_getElem?_getD, List.getElem?_eq_getElem hk']; exact List.getElem_mem hk')).1
  have h2 : FieldsOk (picked Y b) := hG.f
  have h3 : VatsOk (picked Y b) := hG.v
  unfold faultN at hf ⊢
  rw [if_neg (by simpa using hG.sz), if_pos ⟨hG.f, hG.v, hG.s⟩] at hf
  rw [if_neg (by simpa using h1), if_pos ⟨h2, h3, h4⟩]
  exact hf
theorem low_bits {m x : Nat} : (2 ^ m - 1) / 2 ^ x % 2 = 1 ↔ x < m := by
  have h1 := Nat.testBit_two_pow_sub_one m x
  rw [Nat.testBit_eq_decide_div_mod_eq] at h1
  exact decide_eq_decide.1 h1
theorem r_shl2 {other : AHeap → Option (Value × AHeap)} {k : Nat} (hk : k < 60) : run2u shlF other (.int .i64 2) (.int .u64 (k : Int)) h = some (.int .i64 ((2 ^ (k + 1) : Nat) : Int), h) := by
  simp only [run2u, shlF]
  rw [if_pos (by omega)]
  have : (2 ^ (k + 1) : Nat) < 2 ^ 62 := Nat.pow_lt_pow_right (by omega) (by omega)
  have e : (2 : Int) * 2 ^ k = ((2 ^ (k + 1) : Nat) : Int) := by rw [Nat.pow_succ, Int.natCast_mul, Int.mul_comm]; simp
  rw [← wrapF_eq, Int.toNat_natCast, e]
  generalize (2 ^ (k + 1) : Nat) = z at this
  rw [wrap_in (by omega) (by omega)]

def s20 : SCode := (.seq (.ops [⟨(some 1), none, .box (T 0)⟩, ⟨(some 2), none, .mov (.const (.bool false))⟩]) (.seq (.seq (.ops [⟨(some 11), none, .loadN 3 (T 1)⟩, ⟨(some 12), none, .call (.func 62) [(T 11)]⟩, ⟨(some 13), none, .not (T 12)⟩]) (.cond (T 13) (.seq (.ops [⟨(some 14), none, .call (.func 24) []⟩, ⟨(some 2), none, .mov (T 14)⟩]) .ret) .skip)) (.seq (.ops [⟨(some 16), none, .loadN 3 (T 1)⟩, ⟨(some 17), none, .call (.func 26) [(T 16)]⟩, ⟨(some 18), none, .call (.func 53) [(T 17)]⟩, ⟨(some 15), none, .mov (T 18)⟩, ⟨(some 19), none, .extract 0 (T 15)⟩, ⟨(some 20), none, .extract 1 (T 15)⟩, ⟨(some 3), none, .mov (T 19)⟩, ⟨(some 4), none, .mov (T 20)⟩]) (.seq (.seq (.ops [⟨(some 21), none, .mov (T 4)⟩, ⟨(some 22), none, .int2 .neq (T 21) (.const (.int .i64 (0)))⟩]) (.cond (T 22) (.seq (.ops [⟨(some 24), none, .loadN 3 (T 1)⟩, ⟨(some 25), none, .call (.func 26) [(T 24)]⟩, ⟨(some 26), none, .call (.func 34) [(T 25)]⟩, ⟨(some 23), none, .mov (T 26)⟩, ⟨(some 27), none, .extract 0 (T 23)⟩, ⟨(some 28), none, .extract 1 (T 23)⟩, ⟨(some 5), none, .mov (T 27)⟩, ⟨(some 6), none, .mov (T 28)⟩]) (.seq (.ops [⟨(some 29), none, .mov (T 4)⟩, ⟨(some 30), none, .int2 .eql (T 29) (.const (.int .i64 (7)))⟩, ⟨(some 31), none, .mov (T 30)⟩, ⟨(some 32), (some (31, true)), .mov (T 6)⟩, ⟨(some 33), (some (31, true)), .int2 .eql (T 32) (.const (.int .i64 (0)))⟩, ⟨(some 34), none, .pick (T 31) (T 33) (.const (.bool false))⟩, ⟨(some 35), none, .mov (T 34)⟩, ⟨(some 36), (some (35, true)), .call (.func 24) []⟩, ⟨(some 37), none, .pick (T 35) (T 36) (.const (.bool false))⟩, ⟨(some 2), none, .mov (T 37)⟩]) .ret)) .skip)) (.seq (.seq (.ops [⟨(some 38), none, .mov (T 3)⟩, ⟨(some 39), none, .fieldAddr 2 (T 1)⟩, ⟨(some 40), none, .load1 (T 39)⟩, ⟨(some 41), none, .len (T 40)⟩, ⟨(some 42), none, .int2 .sub (T 41) (.const (.int .i64 (1)))⟩, ⟨(some 43), none, .call (.func 42) [(T 38), (.const (.int .i64 (0))), (T 42)]⟩, ⟨(some 44), none, .not (T 43)⟩]) (.cond (T 44) (.seq (.ops [⟨(some 2), none, .mov (.const (.bool false))⟩]) .ret) .skip)) (.seq (.ops [⟨(some 46), none, .loadN 3 (T 1)⟩, ⟨(some 47), none, .mov (T 3)⟩, ⟨(some 48), none, .plain (.convert 3 104 (T 47)) 104⟩, ⟨(some 49), none, .plain (.binOp .shl 3 (.const (.int .i64 (1))) (T 48) 104) 3⟩, ⟨(some 50), none, .int2 .sub (T 49) (.const (.int .i64 (1)))⟩, ⟨(some 51), none, .call (.func 69) [(T 46), (T 50)]⟩, ⟨(some 52), none, .call (.func 26) [(T 51)]⟩, ⟨(some 53), none, .call (.func 34) [(T 52)]⟩, ⟨(some 45), none, .mov (T 53)⟩, ⟨(some 54), none, .extract 0 (T 45)⟩, ⟨(some 55), none, .extract 1 (T 45)⟩, ⟨(some 7), none, .mov (T 54)⟩, ⟨(some 8), none, .mov (T 55)⟩]) (.seq (.ops [⟨(some 57), none, .loadN 3 (T 1)⟩, ⟨(some 58), none, .mov (T 3)⟩, ⟨(some 59), none, .plain (.convert 3 104 (T 58)) 104⟩, ⟨(some 60), none, .plain (.binOp .shl 3 (.const (.int .i64 (2))) (T 59) 104) 3⟩, ⟨(some 61), none, .int2 .sub (T 60) (.const (.int .i64 (1)))⟩, ⟨(some 62), none, .call (.func 69) [(T 57), (T 61)]⟩, ⟨(some 63), none, .call (.func 26) [(T 62)]⟩, ⟨(some 64), none, .call (.func 34) [(T 63)]⟩, ⟨(some 56), none, .mov (T 64)⟩, ⟨(some 65), none, .extract 0 (T 56)⟩, ⟨(some 66), none, .extract 1 (T 56)⟩, ⟨(some 9), none, .mov (T 65)⟩, ⟨(some 10), none, .mov (T 66)⟩]) (.seq (.ops [⟨(some 67), none, .mov (T 8)⟩, ⟨(some 68), none, .int2 .eql (T 67) (.const (.int .i64 (0)))⟩, ⟨(some 69), none, .mov (T 68)⟩, ⟨(some 70), (some (69, true)), .mov (T 10)⟩, ⟨(some 71), (some (69, true)), .int2 .eql (T 70) (.const (.int .i64 (11)))⟩, ⟨(some 72), none, .pick (T 69) (T 71) (.const (.bool false))⟩, ⟨(some 73), none, .mov (T 72)⟩, ⟨(some 74), (some (73, true)), .call (.func 24) []⟩, ⟨(some 75), none, .pick (T 73) (T 74) (.const (.bool false))⟩, ⟨(some 2), none, .mov (T 75)⟩]) .ret))))))))
theorem fok20 : FnOk Try.prog 20 76 s20 [.tmp 2] := ⟨Try.f20, _, Try.func20, rfl, Try.ntmps20, by kernel_rfl, by kernel_rfl⟩
theorem firstLaw_h (hn : 10090 ≤ n) (hr : h.next + 3000000 < far) (hfl : h.floor ≤ h.next) {fv vv sv : Value} {Y : MY} (hy : YardR h fv vv sv Y) (hT : Thin Y) (hf : faultN Y = 0) (hh : (firstRun Y).2 = true) :
    ∃ v h', call n (.func (.func 20) #[] #[]) [.agg ⟨[fv, vv, sv]⟩] h = some (v, h') ∧ v = .bool true := by
  obtain ⟨n, rfl⟩ : ∃ p, n = p + 1 := ⟨n - 1, by omega⟩
  refine call_any0 fok20 rfl rfl (by simp) ?_
  simp only [s20, W_seq, W_ops]
  refine ops_box (cs := [fv, vv, sv]) (by omega) rfl hy.one fun g1 hx1 => ?_
  have n1 := hx1.next
  have f1 := hx1.floor
  have hy1 := hy.mono hx1.sub
  have x1 := hx1.row.whole (n := 3) rfl
  have hrd := ready_c (n := n) (h := g1) (by omega) (by omega) hy1
  have hrd' : decide (Thin Y ∧ faultN Y = 0) = true := decide_eq_true ⟨hT, hf⟩
  rw [hrd'] at hrd
  obtain ⟨F1, V1, S1, g2, ey2, hy2, m2⟩ := yard_c (n := n) (h := g1) (by omega) (by omega) (by omega) hy1 hT
  have n2 := m2.next
  have u2 := m2.up
  have f2 := m2.floor
  have ef := first_c (n := n) (h := g2) (by omega) (by omega) hy2 hT
  have x2 := (hx1.row.mono m2.sub).whole (n := 3) rfl
  obtain ⟨F2, V2, S2, g3, ey3, hy3, m3⟩ := yard_c (n := n) (h := g2) (by omega) (by omega) (by omega) (hy1.mono m2.sub) hT
  have n3 := m3.next
  have u3 := m3.up
  have f3 := m3.floor
  obtain ⟨bv, g4, eb, m4, hb⟩ := boundsV_c (n := n) (h := g3) (by omega) (by omega) (by omega) hy3 hT
  have n4 := m4.next
  have u4' := m4.up
  have haw := awake_c (n := n) (h := g4) (by omega)
  have hv : firstV Y = (0, 7) := by unfold firstV; rw [if_neg (by simpa using hf), if_pos hh]
  rw [hv] at ef
  have hne := first_hit hh
  rcases hb with ⟨h0, _⟩ | ⟨_, h0, _⟩ | ⟨_, _, bl, rfl, hbl⟩
  · exact absurd hf h0
  · exact absurd h0 hne
  · simp only [rn0, rn1, rn2, rn3, rn4, rn5, rn6, rn7, rn8, if_true, if_false, Nat.le_refl, true_and, and_true, decide_true, decide_false, Bool.not_true, Bool.not_false, reduceIte, Nat.reduceEqDiff, Nat.reduceAdd, Nat.reduceMul, Nat.reduceSub, Nat.reduceLeDiff, Nat.reduceLT, Int.reduceEq, x1, hrd, ey2, ef, ex0, ex1, x2, ey3, eb, haw]
theorem firstLaw_m (hn : 10090 ≤ n) (hr : h.next + 3000000 < far) (hfl : h.floor ≤ h.next) {fv vv sv : Value} {Y : MY} (hy : YardR h fv vv sv Y) (hT : Thin Y) (hf : faultN Y = 0) (hh : (firstRun Y).2 = false) :
    ∃ v h', call n (.func (.func 20) #[] #[]) [.agg ⟨[fv, vv, sv]⟩] h = some (v, h') ∧ v = .bool true := by
  obtain ⟨n, rfl⟩ : ∃ p, n = p + 1 := ⟨n - 1, by omega⟩
  refine call_any0 fok20 rfl rfl (by simp) ?_
  simp only [s20, W_seq, W_ops]
  refine ops_box (cs := [fv, vv, sv]) (by omega) rfl hy.one fun g1 hx1 => ?_
  have n1 := hx1.next
  have f1 := hx1.floor
  have hy1 := hy.mono hx1.sub
  have x1 := hx1.row.whole (n := 3) rfl
  have hrd := ready_c (n := n) (h := g1) (by omega) (by omega) hy1
  have hrd' : decide (Thin Y ∧ faultN Y = 0) = true := decide_eq_true ⟨hT, hf⟩
  rw [hrd'] at hrd
  obtain ⟨z5, z6, z7⟩ := (good_of hf).sz
  obtain ⟨N, hN, hm, ⟨c0, hc0, hc1⟩, hall⟩ := first_miss (good_of hf).f hh
  have hv : firstV Y = ((N : Int), 0) := by unfold firstV; rw [if_neg (by simpa using hf), if_neg (by rw [hh]; simp), hm]
  obtain ⟨F1, V1, S1, g2, ey2, hy2, m2⟩ := yard_c (n := n) (h := g1) (by omega) (by omega) (by omega) hy1 hT
  have n2 := m2.next
  have u2 := m2.up
  have f2 := m2.floor
  have ef := first_c (n := n) (h := g2) (by omega) (by omega) hy2 hT
  rw [hv] at ef
  have r2 := hx1.row.mono m2.sub
  have x2 := r2.whole (n := 3) rfl
  have hyb := hy1.mono m2.sub
  have hin := in_c (n := n) (h := g2) (by omega) (N : Int) 0 ((Y.ns : Int) - 1)
  have hin' : decide (0 ≤ (N : Int) ∧ (N : Int) ≤ (Y.ns : Int) - 1) = true := decide_eq_true (by omega)
  rw [hin'] at hin
  have hwn : wrapF .i64 ((Y.ns : Int) - 1) = (Y.ns : Int) - 1 := wrap_in (by omega) (by omega)
  have p1 : (2 ^ N : Nat) < 2 ^ 61 := Nat.pow_lt_pow_right (by omega) (by omega)
  have p2 : (2 ^ (N + 1) : Nat) < 2 ^ 62 := Nat.pow_lt_pow_right (by omega) (by omega)
  have p3 : 0 < (2 ^ N : Nat) := Nat.pow_pos (by omega)
  have p4 : 0 < (2 ^ (N + 1) : Nat) := Nat.pow_pos (by omega)
  have hw1 : wrapF .i64 (((2 ^ N : Nat) : Int) - 1) = ((2 ^ N - 1 : Nat) : Int) := by rw [wrap_in (by omega) (by omega)]; omega
  have hw2 : wrapF .i64 (((2 ^ (N + 1) : Nat) : Int) - 1) = ((2 ^ (N + 1) - 1 : Nat) : Int) := by rw [wrap_in (by omega) (by omega)]; omega
  obtain ⟨b1, hb1⟩ : ∃ b, b = 2 ^ N - 1 := ⟨_, rfl⟩
  obtain ⟨b2, hb2⟩ : ∃ b, b = 2 ^ (N + 1) - 1 := ⟨_, rfl⟩
  rw [← hb1] at hw1
  rw [← hb2] at hw2
  obtain ⟨T1, g3, es3, hy3, m3⟩ := some_c (n := n) (h := g2) (bits := b1) (by omega) (by omega) (by omega) hyb z7
  have n3 := m3.next
  have u3 := m3.up
  have f3 := m3.floor
  obtain ⟨F4, V4, S4, g4, ey4, hy4, m4⟩ := yard_c (n := n) (h := g3) (by omega) (by omega) (by omega) hy3 (picked_thin hT)
  have n4 := m4.next
  have u4' := m4.up
  have f4 := m4.floor
  obtain ⟨bv, g5, eb5, m5, hb5⟩ := boundsV_c (n := n) (h := g4) (by omega) (by omega) (by omega) hy4 (picked_thin hT)
  have n5 := m5.next
  have u5 := m5.up
  have f5 := m5.floor
  have s5 : Sub All g2 g5 := m3.sub.trans (m4.sub.trans m5.sub)
  have x5 := (r2.mono s5).whole (n := 3) rfl
  obtain ⟨T2, g6, es6, hy6, m6⟩ := some_c (n := n) (h := g5) (bits := b2) (by omega) (by omega) (by omega) (hyb.mono s5) z7
  have n6 := m6.next
  have u6 := m6.up
  have f6 := m6.floor
  obtain ⟨F7, V7, S7, g7, ey7, hy7, m7⟩ := yard_c (n := n) (h := g6) (by omega) (by omega) (by omega) hy6 (picked_thin hT)
  have n7 := m7.next
  have u7 := m7.up
  have f7 := m7.floor
  obtain ⟨bw, g8, eb8, m8, hb8⟩ := boundsV_c (n := n) (h := g7) (by omega) (by omega) (by omega) hy7 (picked_thin hT)
  have n8 := m8.next
  have u8 := m8.up
  have haw := awake_c (n := n) (h := g8) (by omega)
  have t1 : truths (picked Y b1) ≠ [] := fun e => by
    have : c0 ∈ truths (picked Y b1) := picked_truth.2 ⟨hc0, fun x _ hx => hc1 x (by rw [hb1] at hx; exact low_bits.1 hx)⟩
    rw [e] at this; exact List.not_mem_nil this
  have t2 : truths (picked Y b2) = [] := by
    refine List.eq_nil_iff_forall_not_mem.2 fun c hc => ?_
    obtain ⟨k1, k2⟩ := picked_truth.1 hc
    obtain ⟨j, j1, j2⟩ := hall c k1
    exact j2 (k2 j (by omega) (by rw [hb2]; exact low_bits.2 (by omega)))
  rcases hb5 with ⟨h0, _⟩ | ⟨_, h0, _⟩ | ⟨_, _, bl, rfl, hbl⟩
  · exact absurd (picked_fault hf) h0
  · exact absurd h0 t1
  rcases hb8 with ⟨h0, _⟩ | ⟨_, _, rfl⟩ | ⟨_, h0, _⟩
  · exact absurd (picked_fault hf) h0
  · simp only [rn0, rn1, rn2, rn3, rn4, rn5, rn6, rn7, rn8, if_true, if_false, Nat.le_refl, true_and, and_true, decide_true, decide_false, Bool.not_true, Bool.not_false, reduceIte, Nat.reduceEqDiff, Nat.reduceAdd, Nat.reduceMul, Nat.reduceSub, Nat.reduceLeDiff, Nat.reduceLT, Int.reduceEq, x1, hrd, ey2, ef, ex0, ex1, x2, r2.ld, Nat.zero_add, List.getElem?_cons_zero, List.getElem?_cons_succ, Cells.len hyb.s, hwn, hin, p_uint, r_conv (k := N) (by omega), r_shl (k := N) (by omega), r_shl2 (k := N) (by omega), valN_tmp, valN_const, Nat.reduceLT, hw1, hw2, es3, ey4, eb5, x5, es6, ey7, eb8, haw]
  · exact absurd t2 h0
theorem firstLaw_c (hn : 10100 ≤ n) (hr : h.next + 3000000 < far) (hfl : h.floor ≤ h.next) {fv vv sv : Value} {Y : MY} (hy : YardR h fv vv sv Y) :
    ∃ v h', call n (.func (.func 20) #[] #[]) [.agg ⟨[fv, vv, sv]⟩] h = some (v, h') ∧ v = .bool true := by
  by_cases c1 : Thin Y ∧ faultN Y = 0
  · by_cases hh : (firstRun Y).2 = true
    · exact firstLaw_h (by omega) hr hfl hy c1.1 c1.2 hh
    · exact firstLaw_m (by omega) hr hfl hy c1.1 c1.2 (by simpa using hh)
  obtain ⟨n, rfl⟩ : ∃ p, n = p + 1 := ⟨n - 1, by omega⟩
  refine call_any0 fok20 rfl rfl (by simp) ?_
  simp only [s20, W_seq, W_ops]
  refine ops_box (cs := [fv, vv, sv]) (by omega) rfl hy.one fun g1 hx1 => ?_
  have n1 := hx1.next
  have hy1 := hy.mono hx1.sub
  have x1 := hx1.row.whole (n := 3) rfl
  have hrd := ready_c (n := n) (h := g1) (by omega) (by omega) hy1
  have haw := awake_c (n := n) (h := g1) (by omega)
  rw [decide_eq_false c1] at hrd
  simp only [rn0, rn1, rn2, rn3, rn4, rn5, rn6, rn7, rn8, if_true, if_false, Nat.le_refl, true_and, and_true, decide_true, decide_false, Bool.not_true, Bool.not_false, reduceIte, Nat.reduceEqDiff, Nat.reduceAdd, Nat.reduceMul, Nat.reduceSub, Nat.reduceLeDiff, Nat.reduceLT, x1, hrd, haw]
end Go.Vm.Vat
