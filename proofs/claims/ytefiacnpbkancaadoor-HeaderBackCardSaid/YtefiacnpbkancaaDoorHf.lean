/- What header.Get returns. -/
import Derived.Test.YtefiacnpbkancaaDoorHe
import Derived.Test.YtefiacnpbkancaaDoorVd
namespace Go.Proofs.YtefiacnpbkancaaDoor
open Go.RowKit
set_option linter.unusedVariables false
set_option linter.unusedSimpArgs false
set_option maxRecDepth 100000
theorem lev4 (X : List (BitVec 8)) : lev (X.take 4) < 4294967296 := by
  have h := lev_lt (X.take 4)
  have : 2 ^ (8 * (X.take 4).length) ≤ 2 ^ 32 := Nat.pow_le_pow_right (by omega) (by rw [List.length_take]; omega)
  omega
/-- The header of 80 bytes. -/
def hdOf (L : List (BitVec 8)) : THd := ⟨lev (L.take 4), (L.drop 4).take 32, (L.drop 36).take 32, lev ((L.drop 68).take 4), lev ((L.drop 72).take 4), lev ((L.drop 76).take 4)⟩
def hd0 : THd := ⟨0, Z32, Z32, 0, 0, 0⟩
theorem hd0_ok : HdOk hd0 := ⟨rfl, rfl, by decide, by decide, by decide, by decide⟩
theorem hdOf_ok {L : List (BitVec 8)} (h : L.length = 80) : HdOk (hdOf L) :=
  ⟨by simp [hdOf, h], by simp [hdOf, h], lev4 _, lev4 _, lev4 _, lev4 _⟩
/-- Put and Get undo each other. -/
theorem hdB_of {L : List (BitVec 8)} (h : L.length = 80) : hdB (hdOf L) = L := by
  have k : ∀ (X : List (BitVec 8)), 4 ≤ X.length → les (lev (X.take 4)) 4 = X.take 4 := fun X hX => by
    have := les_lev (X.take 4)
    rwa [List.length_take, Nat.min_eq_left hX] at this
  unfold hdB hdOf
  dsimp only
  rw [k L (by omega), k (L.drop 68) (by simp; omega), k (L.drop 72) (by simp; omega), k (L.drop 76) (by simp; omega)]
  have s : ∀ (X : List (BitVec 8)) (a b c : Nat), a + b = c → (X.drop a).take b ++ X.drop c = X.drop a := fun X a b c e => by
    rw [← e, ← List.drop_drop, List.take_append_drop]
  have e76 : (L.drop 76).take 4 = L.drop 76 := List.take_of_length_le (by simp; omega)
  simp only [List.flatten_cons, List.flatten_nil, List.append_nil]
  rw [e76, s L 72 4 76 rfl, s L 68 4 72 rfl, s L 36 32 68 rfl, s L 4 32 36 rfl, List.take_append_drop]
theorem lev_les (n : Nat) (hn : n < 4294967296) : lev (les n 4) = n := by
  have e : les n 4 = [BitVec.ofNat 8 n, BitVec.ofNat 8 (n / 256), BitVec.ofNat 8 (n / 65536), BitVec.ofNat 8 (n / 16777216)] := by
    simp [les, List.range_succ]
  rw [e]
  simp only [lev, BitVec.toNat_ofNat]
  omega
theorem hdOf_B {h : THd} (k : HdOk h) : hdOf (hdB h) = h := by
  obtain ⟨ver, prev, root, time, bits, nonce⟩ := h
  obtain ⟨k1, k2, k3, k4, k5, k6⟩ := k
  dsimp only at k1 k2 k3 k4 k5 k6
  have t : ∀ (A B : List (BitVec 8)) (n : Nat), A.length = n → (A ++ B).take n = A := fun A B n e => by rw [List.take_append_of_le_length (by omega), List.take_of_length_le (by omega)]
  have d : ∀ (A B : List (BitVec 8)) (n m : Nat), A.length = n → (A ++ B).drop (n + m) = B.drop m := fun A B n m e => by rw [← List.drop_drop, List.drop_left' e]
  unfold hdOf hdB
  dsimp only
  simp only [List.flatten_cons, List.flatten_nil, List.append_nil]
  have l4 : ∀ n, (les n 4).length = 4 := fun n => les_len n 4
  rw [t _ _ 4 (l4 _), show (4 : Nat) = 4 + 0 from rfl, d _ _ 4 0 (l4 _), show (36 : Nat) = 4 + (32 + 0) from rfl, d _ _ 4 _ (l4 _), d _ _ 32 0 k1, show (68 : Nat) = 4 + (32 + (32 + 0)) from rfl, d _ _ 4 _ (l4 _), d _ _ 32 _ k1, d _ _ 32 _ k2,
    show (72 : Nat) = 4 + (32 + (32 + (4 + 0))) from rfl, d _ _ 4 _ (l4 _), d _ _ 32 _ k1, d _ _ 32 _ k2, d _ _ 4 _ (l4 _), show (76 : Nat) = 4 + (32 + (32 + (4 + (4 + 0)))) from rfl, d _ _ 4 _ (l4 _), d _ _ 32 _ k1, d _ _ 32 _ k2, d _ _ 4 _ (l4 _), d _ _ 4 _ (l4 _)]
  simp only [List.drop_zero]
  rw [t _ _ 32 k1, t _ _ 32 k2, t _ _ 4 (l4 _), t _ _ 4 (l4 _), List.take_of_length_le (by rw [l4]; exact Nat.le_refl _), lev_les _ k3, lev_les _ k4, lev_les _ k5, lev_les _ k6]
end Go.Proofs.YtefiacnpbkancaaDoor
