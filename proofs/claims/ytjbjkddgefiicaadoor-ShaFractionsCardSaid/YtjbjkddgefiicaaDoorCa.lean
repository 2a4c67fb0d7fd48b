/- What the document's own Right, Shift and three return: rotations, shifts and xor of numbers of 32 bits. -/
import Derived.Test.YtjbjkddgefiicaaDoorBd
namespace Go.Proofs.YtjbjkddgefiicaaDoor
open Go.RowKit
set_option linter.unusedVariables false
set_option linter.unusedSimpArgs false
theorem rr_get (x : BitVec 32) (r j : Nat) (hr : r < 32) (hj : j < 32) : (x.rotateRight r).getLsbD j = x.getLsbD (if j < 32 - r then r + j else j - (32 - r)) := by
  rw [BitVec.getLsbD_rotateRight, Nat.mod_eq_of_lt hr]
  by_cases h : j < 32 - r
  · rw [decide_eq_true h, cond_true, if_pos h]
  · rw [decide_eq_false h, cond_false, if_neg h, decide_eq_true hj, Bool.true_and]
theorem rr_add (x : BitVec 32) (i : Nat) (h : i < 31) : (x.rotateRight i).rotateRight 1 = x.rotateRight (i + 1) := by
  apply BitVec.eq_of_getLsbD_eq
  intro j hj
  rw [rr_get _ 1 j (by omega) hj, rr_get _ i _ (by omega) (by split <;> omega), rr_get _ (i + 1) j (by omega) hj]
  congr 1
  split <;> split <;> split <;> omega
theorem rr_zero (x : BitVec 32) : x.rotateRight 0 = x := by
  apply BitVec.eq_of_getLsbD_eq
  intro j hj
  rw [rr_get _ 0 j (by omega) hj, if_pos (by omega)]; congr 1; omega
theorem rr_one (x : BitVec 32) : (x.rotateRight 1).toNat = x.toNat / 2 + x.toNat % 2 * 2147483648 := by
  rw [BitVec.rotateRight_def, BitVec.toNat_or, BitVec.toNat_ushiftRight, BitVec.toNat_shiftLeft]
  have hx := x.isLt
  rw [show (1 % 32 : Nat) = 1 from rfl, show (32 - 1 : Nat) = 31 from rfl, Nat.shiftRight_eq_div_pow, Nat.shiftLeft_eq]
  have e : x.toNat * 2 ^ 31 % 2 ^ 32 = 2 ^ 31 * (x.toNat % 2) := by omega
  rw [e, Nat.or_comm, ← Nat.two_pow_add_eq_or_of_lt (by omega : x.toNat / 2 ^ 1 < 2 ^ 31)]
  omega
theorem U_half (x : BitVec 32) : (U x).tdiv 2 = U (x >>> 1) := by
  unfold U
  rw [show ((x.toNat : Int).tdiv 2) = ((x.toNat / 2 : Nat) : Int) from rfl, BitVec.toNat_ushiftRight, Nat.shiftRight_eq_div_pow]
theorem U_right (x : BitVec 32) : ((U x).tdiv 2 % 4294967296 + (U x).tmod 2 * 2147483648 % 4294967296) % 4294967296 = U (x.rotateRight 1) := by
  have h := rr_one x
  have hx := x.isLt
  unfold U
  rw [Int.tdiv_eq_ediv_of_nonneg (Int.natCast_nonneg _), Int.tmod_eq_emod_of_nonneg (Int.natCast_nonneg _), h]
  omega
set_option maxRecDepth 100000 in
set_option maxHeartbeats 1000000 in
theorem right_any (x : BitVec 32) (n : Nat) (hn : n ≤ 31) (w : World) :
    Calls Tryd.prog 37 #[.int .u32 (U x), .int .i64 n] w fun e w' => e = .returned (.int .u32 (U (x.rotateRight n))) ∧ w = w' := by
  go_enter Tryd.func37, Tryd.ntmps37
  go_wp2
  go_loop [0, 5] (fun v i => ∃ k : Nat, k ≤ n ∧ i = .int .i64 k ∧ v = .int .u32 (U (x.rotateRight k))) (fun _ i => n - (intOf i).toNat)
  case atStart => exact ⟨0, Nat.zero_le _, rfl, by rw [rr_zero]⟩
  case round =>
    obtain ⟨k, hk, rfl, rfl⟩ := hrel
    by_cases hlt : k < n
    · have k1 : (k : Int) < (n : Int) := by omega
      have e := Lib.hid (U_right (x.rotateRight k))
      rw [rr_add x k (by omega)] at e
      go_wp2
      go_round
      case rel => exact ⟨k + 1, by omega, by simp, by rw [e.out]⟩
      case measure => simp [intOf]; omega
    · have k1 : ¬ (k : Int) < (n : Int) := by omega
      obtain rfl : k = n := by omega
      go_wp2
      go_ret
      exact ⟨rfl, rfl⟩
set_option maxRecDepth 100000 in
set_option maxHeartbeats 1000000 in
theorem shift_any (x : BitVec 32) (n : Nat) (hn : n ≤ 31) (w : World) :
    Calls Tryd.prog 43 #[.int .u32 (U x), .int .i64 n] w fun e w' => e = .returned (.int .u32 (U (x >>> n))) ∧ w = w' := by
  go_enter Tryd.func43, Tryd.ntmps43
  go_wp2
  go_loop [0, 5] (fun v i => ∃ k : Nat, k ≤ n ∧ i = .int .i64 k ∧ v = .int .u32 (U (x >>> k))) (fun _ i => n - (intOf i).toNat)
  case atStart => exact ⟨0, Nat.zero_le _, rfl, by simp⟩
  case round =>
    obtain ⟨k, hk, rfl, rfl⟩ := hrel
    by_cases hlt : k < n
    · have k1 : (k : Int) < (n : Int) := by omega
      have e := Lib.hid (U_half (x >>> k))
      go_wp2
      go_round
      case rel => exact ⟨k + 1, by omega, by simp, by have := e.out; rw [this]; have h2 := U_hi (x >>> k >>> 1); have h3 := U_lo (x >>> k >>> 1); rw [Int.emod_eq_of_lt h3 h2, ← BitVec.shiftRight_add]⟩
      case measure => simp [intOf]; omega
    · have k1 : ¬ (k : Int) < (n : Int) := by omega
      obtain rfl : k = n := by omega
      go_wp2
      go_ret
      exact ⟨rfl, rfl⟩
theorem three_any (x y z : BitVec 32) (w : World) :
    Calls Tryd.prog 36 #[.int .u32 (U x), .int .u32 (U y), .int .u32 (U z)] w fun e w' => e = .returned (.int .u32 (U (x ^^^ y ^^^ z))) ∧ w = w' := by
  have hx := U_xor
  go_enter Tryd.func36, Tryd.ntmps36
  go_wp2
  go_ret
  exact ⟨rfl, rfl⟩
end Go.Proofs.YtjbjkddgefiicaaDoor
