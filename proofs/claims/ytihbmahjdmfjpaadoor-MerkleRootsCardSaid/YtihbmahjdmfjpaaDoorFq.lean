/- The neighbour of a number: its lowest bit turned. -/
import Derived.Test.YtihbmahjdmfjpaaDoorFk
import Derived.Laws.BitsLemmas
namespace Go.Proofs.YtihbmahjdmfjpaaDoor
open Go.RowKit
set_option linter.unusedVariables false
set_option linter.unusedSimpArgs false
set_option maxRecDepth 100000
theorem xor_one (i : Nat) : i ^^^ 1 = if i % 2 = 0 then i + 1 else i - 1 := by
  have h1 : (i ^^^ 1) / 2 = i / 2 := by rw [Nat.xor_div_two]; simp
  have h2 : (i ^^^ 1) % 2 = (i + 1) % 2 := by
    have e := Nat.testBit_xor (x := i) (y := 1) (i := 0)
    rw [Nat.testBit_zero, Nat.testBit_zero, Nat.testBit_zero] at e
    rcases Nat.mod_two_eq_zero_or_one i with h | h <;> rcases Nat.mod_two_eq_zero_or_one (i ^^^ 1) with h' | h' <;> simp [h, h'] at e <;> omega
  split <;> omega
theorem xor_i64 (i : Nat) (h : i ≤ 4611686018427387000) : bits .xor .i64 (i : Int) 1 = ((if i % 2 = 0 then i + 1 else i - 1 : Nat) : Int) := by
  rw [← xor_one]
  have ha : i % 2 ^ 64 = i := Nat.mod_eq_of_lt (by omega)
  have hlt : i ^^^ 1 < 4611686018427387904 := by rw [xor_one]; split <;> omega
  show IntKind.i64.wrap ((BitVec.ofInt 64 (i : Int) ^^^ BitVec.ofInt 64 ((1 : Nat) : Int)).toNat) = _
  rw [BitVec.ofInt_natCast, BitVec.ofInt_natCast, BitVec.toNat_xor, BitVec.toNat_ofNat, BitVec.toNat_ofNat, ha]
  exact IntWalk.i64_in _ (by simp only [Nat.reducePow, Nat.reduceMod]; omega)
end Go.Proofs.YtihbmahjdmfjpaaDoor
