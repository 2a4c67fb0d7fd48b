/- A header built of its parts. -/
import Derived.Test.YtefiacnpbkancaaDoorHf
import Derived.Laws.Tables
namespace Go.Proofs.YtefiacnpbkancaaDoor
open Go.RowKit
set_option linter.unusedVariables false
set_option linter.unusedSimpArgs false
set_option maxRecDepth 100000
theorem cons_of {α : Type} {P : List α} {n : Nat} (h : P.length = n + 1) : ∃ a r, P = a :: r ∧ r.length = n := by
  cases P with
  | nil => cases h
  | cons a r => exact ⟨a, r, rfl, by simpa using h⟩
theorem built26 (z1 z2 z3 z4 : Nat) (P1 P2 : List (BitVec 8)) (h1 : P1.length = 32) (h2 : P2.length = 32) :
    Tryd.prog.built 26 [(0, .int .u32 (z1 : Int)), (1, .agg (vbs P1).toArray), (2, .agg (vbs P2).toArray), (3, .int .u32 (z2 : Int)), (4, .int .u32 (z3 : Int)), (5, .int .u32 (z4 : Int))] = some (hdV ⟨z1, P1, P2, z2, z3, z4⟩).toArray := by
  obtain ⟨a0, p0, rfl, m0⟩ := cons_of h1
  obtain ⟨a1, p1, rfl, m1⟩ := cons_of m0
  obtain ⟨a2, p2, rfl, m2⟩ := cons_of m1
  obtain ⟨a3, p3, rfl, m3⟩ := cons_of m2
  obtain ⟨a4, p4, rfl, m4⟩ := cons_of m3
  obtain ⟨a5, p5, rfl, m5⟩ := cons_of m4
  obtain ⟨a6, p6, rfl, m6⟩ := cons_of m5
  obtain ⟨a7, p7, rfl, m7⟩ := cons_of m6
  obtain ⟨a8, p8, rfl, m8⟩ := cons_of m7
  obtain ⟨a9, p9, rfl, m9⟩ := cons_of m8
  obtain ⟨a10, p10, rfl, m10⟩ := cons_of m9
  obtain ⟨a11, p11, rfl, m11⟩ := cons_of m10
  obtain ⟨a12, p12, rfl, m12⟩ := cons_of m11
  obtain ⟨a13, p13, rfl, m13⟩ := cons_of m12
  obtain ⟨a14, p14, rfl, m14⟩ := cons_of m13
  obtain ⟨a15, p15, rfl, m15⟩ := cons_of m14
  obtain ⟨a16, p16, rfl, m16⟩ := cons_of m15
  obtain ⟨a17, p17, rfl, m17⟩ := cons_of m16
  obtain ⟨a18, p18, rfl, m18⟩ := cons_of m17
  obtain ⟨a19, p19, rfl, m19⟩ := cons_of m18
  obtain ⟨a20, p20, rfl, m20⟩ := cons_of m19
  obtain ⟨a21, p21, rfl, m21⟩ := cons_of m20
  obtain ⟨a22, p22, rfl, m22⟩ := cons_of m21
  obtain ⟨a23, p23, rfl, m23⟩ := cons_of m22
  obtain ⟨a24, p24, rfl, m24⟩ := cons_of m23
  obtain ⟨a25, p25, rfl, m25⟩ := cons_of m24
  obtain ⟨a26, p26, rfl, m26⟩ := cons_of m25
  obtain ⟨a27, p27, rfl, m27⟩ := cons_of m26
  obtain ⟨a28, p28, rfl, m28⟩ := cons_of m27
  obtain ⟨a29, p29, rfl, m29⟩ := cons_of m28
  obtain ⟨a30, p30, rfl, m30⟩ := cons_of m29
  obtain ⟨a31, p31, rfl, m31⟩ := cons_of m30
  obtain rfl := List.eq_nil_of_length_eq_zero m31
  obtain ⟨b0, q0, rfl, n0⟩ := cons_of h2
  obtain ⟨b1, q1, rfl, n1⟩ := cons_of n0
  obtain ⟨b2, q2, rfl, n2⟩ := cons_of n1
  obtain ⟨b3, q3, rfl, n3⟩ := cons_of n2
  obtain ⟨b4, q4, rfl, n4⟩ := cons_of n3
  obtain ⟨b5, q5, rfl, n5⟩ := cons_of n4
  obtain ⟨b6, q6, rfl, n6⟩ := cons_of n5
  obtain ⟨b7, q7, rfl, n7⟩ := cons_of n6
  obtain ⟨b8, q8, rfl, n8⟩ := cons_of n7
  obtain ⟨b9, q9, rfl, n9⟩ := cons_of n8
  obtain ⟨b10, q10, rfl, n10⟩ := cons_of n9
  obtain ⟨b11, q11, rfl, n11⟩ := cons_of n10
  obtain ⟨b12, q12, rfl, n12⟩ := cons_of n11
  obtain ⟨b13, q13, rfl, n13⟩ := cons_of n12
  obtain ⟨b14, q14, rfl, n14⟩ := cons_of n13
  obtain ⟨b15, q15, rfl, n15⟩ := cons_of n14
  obtain ⟨b16, q16, rfl, n16⟩ := cons_of n15
  obtain ⟨b17, q17, rfl, n17⟩ := cons_of n16
  obtain ⟨b18, q18, rfl, n18⟩ := cons_of n17
  obtain ⟨b19, q19, rfl, n19⟩ := cons_of n18
  obtain ⟨b20, q20, rfl, n20⟩ := cons_of n19
  obtain ⟨b21, q21, rfl, n21⟩ := cons_of n20
  obtain ⟨b22, q22, rfl, n22⟩ := cons_of n21
  obtain ⟨b23, q23, rfl, n23⟩ := cons_of n22
  obtain ⟨b24, q24, rfl, n24⟩ := cons_of n23
  obtain ⟨b25, q25, rfl, n25⟩ := cons_of n24
  obtain ⟨b26, q26, rfl, n26⟩ := cons_of n25
  obtain ⟨b27, q27, rfl, n27⟩ := cons_of n26
  obtain ⟨b28, q28, rfl, n28⟩ := cons_of n27
  obtain ⟨b29, q29, rfl, n29⟩ := cons_of n28
  obtain ⟨b30, q30, rfl, n30⟩ := cons_of n29
  obtain ⟨b31, q31, rfl, n31⟩ := cons_of n30
  obtain rfl := List.eq_nil_of_length_eq_zero n31
  kernel_rfl
theorem wpList_build26 {ops : Array Oper} {rest : List Oper} {o : Oper} {a : Act} {w : World} {Q : Exit → Act → World → Prop} (hg : o.guard = none) (x0 x1 x2 x3 x4 x5 : Operand) (ho : o.op = .build 26 #[(0, x0), (1, x1), (2, x2), (3, x3), (4, x4), (5, x5)])
    (z1 z2 z3 z4 : Nat) (P1 P2 : List (BitVec 8)) (h0 : a.eval x0 = .int .u32 (z1 : Int)) (h1 : a.eval x1 = .agg (vbs P1).toArray) (h2 : a.eval x2 = .agg (vbs P2).toArray) (h3 : a.eval x3 = .int .u32 (z2 : Int)) (h4 : a.eval x4 = .int .u32 (z3 : Int)) (h5 : a.eval x5 = .int .u32 (z4 : Int)) (l1 : P1.length = 32) (l2 : P2.length = 32)
    (h : wpList Tryd.prog ops Q rest (a.put o.dst (.agg (hdV ⟨z1, P1, P2, z2, z3, z4⟩).toArray)) w) : wpList Tryd.prog ops Q (o :: rest) a w := by
  have e : Tryd.prog.built 26 ((#[(0, x0), (1, x1), (2, x2), (3, x3), (4, x4), (5, x5)] : Array (Nat × Operand)).map fun (i, x) => (i, a.eval x)).toList = some (hdV ⟨z1, P1, P2, z2, z3, z4⟩).toArray := by
    rw [← built26 z1 z2 z3 z4 P1 P2 l1 l2]
    simp [h0, h1, h2, h3, h4, h5]
  exact wpList_build hg 26 _ ho (by rw [e]; rfl) (by rw [e]; exact h)
end Go.Proofs.YtefiacnpbkancaaDoor
