/- Plain: a text that begins with a chunk has the digest that its rest has from the chunk's state on; so a middle, asked with a rest, tells the double digest of both. -/
import Derived.Test.YtjbjkddgefiicaaDoorM
namespace Go.Proofs.YtjbjkddgefiicaaDoor
open Go.RowKit
set_option linter.unusedVariables false
set_option linter.unusedSimpArgs false
theorem blocks_append (ch : St → List (BitVec 8) → St) (S : St) (C R : List (BitVec 8)) (hC : C.length = 64) (k : Nat) : blocks ch S (C ++ R) (k + 1) = blocks ch (ch S C) R k := by
  induction k with
  | zero =>
    show ch S (((C ++ R).drop 0).take 64) = ch S C
    rw [List.drop_zero, List.take_append_of_le_length (by omega), List.take_of_length_le (by omega)]
  | succ k ih =>
    show ch (blocks ch S (C ++ R) (k + 1)) (((C ++ R).drop (64 * (k + 1))).take 64) = ch (blocks ch (ch S C) R k) ((R.drop (64 * k)).take 64)
    rw [ih, List.drop_append, List.drop_of_length_le (by omega), List.nil_append, hC, show 64 * (k + 1) - 64 = 64 * k by omega]
theorem fin_append (ch : St → List (BitVec 8) → St) (S : St) (C R : List (BitVec 8)) (hC : C.length = 64) (dn : Nat) : fin ch (ch S C) (dn + 64) R = fin ch S dn (C ++ R) := by
  have hl : (C ++ R).length = 64 + R.length := by rw [List.length_append, hC]
  have e1 : (64 + R.length) / 64 = R.length / 64 + 1 := by omega
  have e2 : (64 + R.length) % 64 = R.length % 64 := by omega
  have e3 : (C ++ R).drop (64 * (R.length / 64 + 1)) = R.drop (64 * (R.length / 64)) := by
    rw [List.drop_append, List.drop_of_length_le (by omega), List.nil_append, hC, show 64 * (R.length / 64 + 1) - 64 = 64 * (R.length / 64) by omega]
  unfold fin
  rw [hl, e1, e2, e3, blocks_append ch S C R hC, show dn + (64 + R.length) = dn + 64 + R.length by omega]
/-- A middle's double digest is that of the chunk and the rest. -/
theorem middle_whole (C R : List (BitVec 8)) (hC : C.length = 64) : sumB (finB (change ini C) 64 R) = twiceB (C ++ R) := by
  have h : finB (change ini C) 64 R = sumB (C ++ R) := fin_append change ini C R hC 0
  unfold twiceB
  rw [h]
end Go.Proofs.YtjbjkddgefiicaaDoor
