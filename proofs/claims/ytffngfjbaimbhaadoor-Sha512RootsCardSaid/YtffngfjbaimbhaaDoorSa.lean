/- Numbers of 64 bits as the model holds them; what the small functions of package sha512 return: rotations, s0, s1, S0, S1. -/
import Derived.Test.YtffngfjbaimbhaaDoorKa
namespace Go.Proofs.YtffngfjbaimbhaaDoor
open Go.RowKit
set_option linter.unusedVariables false
set_option linter.unusedSimpArgs false
/-- A number of 64 bits, as the model holds it. -/
def V (x : BitVec 64) : Int := (x.toNat : Int)
theorem V_lo (x : BitVec 64) : 0 ≤ V x := Int.natCast_nonneg _
theorem V_hi (x : BitVec 64) : V x < 18446744073709551616 := by unfold V; have := x.isLt; omega
theorem V_add (a b : BitVec 64) : IntKind.u64.wrap (V a + V b) = V (a + b) := by
  rw [IntKind.wrap_u64]; unfold V; rw [BitVec.toNat_add]; omega
theorem V_and (a b : BitVec 64) : bits .and .u64 (V a) (V b) = V (a &&& b) := by
  unfold V; rw [u64_and_nat _ _ a.isLt b.isLt, BitVec.toNat_and]
theorem V_or (a b : BitVec 64) : bits .or .u64 (V a) (V b) = V (a ||| b) := by
  unfold V; rw [u64_or_nat _ _ a.isLt b.isLt, BitVec.toNat_or]
theorem V_xor (a b : BitVec 64) : bits .xor .u64 (V a) (V b) = V (a ^^^ b) := by
  unfold V; rw [u64_xor_nat _ _ a.isLt b.isLt, BitVec.toNat_xor]
theorem V_shr (a : BitVec 64) (n : Nat) : V a / 2 ^ n = V (a >>> n) := by
  unfold V; rw [BitVec.toNat_ushiftRight, Nat.shiftRight_eq_div_pow]; simp
theorem V_shl (a : BitVec 64) (n : Nat) : IntKind.u64.wrap (V a * 2 ^ n) = V (a <<< n) := by
  rw [IntKind.wrap_u64]; unfold V; rw [BitVec.toNat_shiftLeft, Nat.shiftLeft_eq]; simp
theorem V_rot (x : BitVec 64) (n : Nat) (h0 : 1 ≤ n) (h1 : n ≤ 63) :
    bits .or .u64 (IntKind.u64.wrap (V x * 2 ^ (64 - n))) (V x / 2 ^ n) = V (x.rotateRight n) := by
  rw [V_shl, V_shr, V_or, BitVec.rotateRight_def, Nat.mod_eq_of_lt (by omega : n < 64), BitVec.or_comm]
theorem nat_mask6 (n : Nat) : n &&& 63 = n % 64 := Nat.and_two_pow_sub_one_eq_mod n 6
theorem rot_arg (n : Nat) (h0 : 1 ≤ n) (h1 : n ≤ 63) : bits BinOp.and IntKind.u64 (IntKind.u64.wrap (-(n : Int))) 63 = 64 - (n : Int) := by
  rw [IntKind.wrap_u64, show (-(n : Int)) % 18446744073709551616 = ((18446744073709551616 - n : Nat) : Int) by omega]
  rw [show (63 : Int) = ((63 : Nat) : Int) by rfl, u64_and_nat _ _ (by omega) (by omega), nat_mask6]
  omega
set_option maxHeartbeats 400000 in
theorem rotl_gen (x s k : Int) (w : World) (hs : bits BinOp.and IntKind.u64 (IntKind.u64.wrap k) 63 = s) (h0 : 0 ≤ s) (h1 : s ≤ 63) :
    Calls Tryd.prog 39 #[.int .u64 x, .int .i64 k] w fun e w' => e = .returned (.int .u64 (bits .or .u64 (IntKind.u64.wrap (x * 2 ^ s.toNat)) (x / 2 ^ (64 - s).toNat))) ∧ w = w' := by
  have h2 : ¬ s < 0 := by omega
  have h3 : ¬ 64 - s < 0 := by omega
  have h4 : min s.toNat 64 = s.toNat := by omega
  have h5 : min (64 - s).toNat 64 = (64 - s).toNat := by omega
  have h6 : IntKind.u64.wrap (64 - s) = 64 - s := by rw [IntKind.wrap_u64]; omega
  go_enter Tryd.func39, Tryd.ntmps39
  go_wp2
  go_ret
  exact ⟨rfl, rfl⟩
theorem rotl_any (x : BitVec 64) (n : Nat) (w : World) (h0 : 1 ≤ n) (h1 : n ≤ 63) :
    Calls Tryd.prog 39 #[.int .u64 (V x), .int .i64 (-(n : Int))] w fun e w' => e = .returned (.int .u64 (V (x.rotateRight n))) ∧ w = w' :=
  (rotl_gen (V x) (64 - (n : Int)) _ w (rot_arg n h0 h1) (by omega) (by omega)).mono fun e w' ⟨he, hw⟩ => ⟨by
    rw [he, show (64 - (n : Int)).toNat = 64 - n by omega, show (64 - (64 - (n : Int))).toNat = n by omega, V_rot x n h0 h1], hw⟩
theorem right_any (x : BitVec 64) (n : Nat) (w : World) (h0 : 1 ≤ n) (h1 : n ≤ 63) :
    Calls Tryd.prog 38 #[.int .u64 (V x), .int .i64 (n : Int)] w fun e w' => e = .returned (.int .u64 (V (x.rotateRight n))) ∧ w = w' := by
  have HR := Lib.hid (rotl_any x n w h0 h1)
  go_enter Tryd.func38, Tryd.ntmps38
  go_wp2_with (go_at_call 39; (with_reducible refine HR.out.mono ?_); rintro e w' ⟨rfl, rfl⟩; dsimp only)
  go_ret
  exact ⟨rfl, rfl⟩
def lo0 (x : BitVec 64) : BitVec 64 := x.rotateRight 1 ^^^ x.rotateRight 8 ^^^ x >>> 7
def lo1 (x : BitVec 64) : BitVec 64 := x.rotateRight 19 ^^^ x.rotateRight 61 ^^^ x >>> 6
def up0 (x : BitVec 64) : BitVec 64 := x.rotateRight 28 ^^^ x.rotateRight 34 ^^^ x.rotateRight 39
def up1 (x : BitVec 64) : BitVec 64 := x.rotateRight 14 ^^^ x.rotateRight 18 ^^^ x.rotateRight 41
theorem lo0_any (x : BitVec 64) (w : World) : Calls Tryd.prog 37 #[.int .u64 (V x)] w fun e w' => e = .returned (.int .u64 (V (lo0 x))) ∧ w = w' := by
  have HA : Hid (∀ w, Calls Tryd.prog 38 #[.int .u64 (V x), .int .i64 1] w fun e w' => e = .returned (.int .u64 (V (x.rotateRight 1))) ∧ w = w') := fun w => right_any x 1 w (by decide) (by decide)
  have HB : Hid (∀ w, Calls Tryd.prog 38 #[.int .u64 (V x), .int .i64 8] w fun e w' => e = .returned (.int .u64 (V (x.rotateRight 8))) ∧ w = w') := fun w => right_any x 8 w (by decide) (by decide)
  have HS : V x / (128 : Int) = V (x >>> 7) := V_shr x 7
  have HX := V_xor
  go_enter Tryd.func37, Tryd.ntmps37
  go_wp2_with (first | (go_at_call 38; (with_reducible refine (HA.out _).mono ?_); rintro e w' ⟨rfl, rfl⟩; dsimp only) | (go_at_call 38; (with_reducible refine (HB.out _).mono ?_); rintro e w' ⟨rfl, rfl⟩; dsimp only))
  go_ret
  exact ⟨rfl, rfl⟩
theorem lo1_any (x : BitVec 64) (w : World) : Calls Tryd.prog 36 #[.int .u64 (V x)] w fun e w' => e = .returned (.int .u64 (V (lo1 x))) ∧ w = w' := by
  have HA : Hid (∀ w, Calls Tryd.prog 38 #[.int .u64 (V x), .int .i64 19] w fun e w' => e = .returned (.int .u64 (V (x.rotateRight 19))) ∧ w = w') := fun w => right_any x 19 w (by decide) (by decide)
  have HB : Hid (∀ w, Calls Tryd.prog 38 #[.int .u64 (V x), .int .i64 61] w fun e w' => e = .returned (.int .u64 (V (x.rotateRight 61))) ∧ w = w') := fun w => right_any x 61 w (by decide) (by decide)
  have HS : V x / (64 : Int) = V (x >>> 6) := V_shr x 6
  have HX := V_xor
  go_enter Tryd.func36, Tryd.ntmps36
  go_wp2_with (first | (go_at_call 38; (with_reducible refine (HA.out _).mono ?_); rintro e w' ⟨rfl, rfl⟩; dsimp only) | (go_at_call 38; (with_reducible refine (HB.out _).mono ?_); rintro e w' ⟨rfl, rfl⟩; dsimp only))
  go_ret
  exact ⟨rfl, rfl⟩
theorem up0_any (x : BitVec 64) (w : World) : Calls Tryd.prog 32 #[.int .u64 (V x)] w fun e w' => e = .returned (.int .u64 (V (up0 x))) ∧ w = w' := by
  have HA : Hid (∀ w, Calls Tryd.prog 38 #[.int .u64 (V x), .int .i64 28] w fun e w' => e = .returned (.int .u64 (V (x.rotateRight 28))) ∧ w = w') := fun w => right_any x 28 w (by decide) (by decide)
  have HB : Hid (∀ w, Calls Tryd.prog 38 #[.int .u64 (V x), .int .i64 34] w fun e w' => e = .returned (.int .u64 (V (x.rotateRight 34))) ∧ w = w') := fun w => right_any x 34 w (by decide) (by decide)
  have HC : Hid (∀ w, Calls Tryd.prog 38 #[.int .u64 (V x), .int .i64 39] w fun e w' => e = .returned (.int .u64 (V (x.rotateRight 39))) ∧ w = w') := fun w => right_any x 39 w (by decide) (by decide)
  have HX := V_xor
  go_enter Tryd.func32, Tryd.ntmps32
  go_wp2_with (first | (go_at_call 38; (with_reducible refine (HA.out _).mono ?_); rintro e w' ⟨rfl, rfl⟩; dsimp only) | (go_at_call 38; (with_reducible refine (HB.out _).mono ?_); rintro e w' ⟨rfl, rfl⟩; dsimp only) | (go_at_call 38; (with_reducible refine (HC.out _).mono ?_); rintro e w' ⟨rfl, rfl⟩; dsimp only))
  go_ret
  exact ⟨rfl, rfl⟩
theorem up1_any (x : BitVec 64) (w : World) : Calls Tryd.prog 31 #[.int .u64 (V x)] w fun e w' => e = .returned (.int .u64 (V (up1 x))) ∧ w = w' := by
  have HA : Hid (∀ w, Calls Tryd.prog 38 #[.int .u64 (V x), .int .i64 14] w fun e w' => e = .returned (.int .u64 (V (x.rotateRight 14))) ∧ w = w') := fun w => right_any x 14 w (by decide) (by decide)
  have HB : Hid (∀ w, Calls Tryd.prog 38 #[.int .u64 (V x), .int .i64 18] w fun e w' => e = .returned (.int .u64 (V (x.rotateRight 18))) ∧ w = w') := fun w => right_any x 18 w (by decide) (by decide)
  have HC : Hid (∀ w, Calls Tryd.prog 38 #[.int .u64 (V x), .int .i64 41] w fun e w' => e = .returned (.int .u64 (V (x.rotateRight 41))) ∧ w = w') := fun w => right_any x 41 w (by decide) (by decide)
  have HX := V_xor
  go_enter Tryd.func31, Tryd.ntmps31
  go_wp2_with (first | (go_at_call 38; (with_reducible refine (HA.out _).mono ?_); rintro e w' ⟨rfl, rfl⟩; dsimp only) | (go_at_call 38; (with_reducible refine (HB.out _).mono ?_); rintro e w' ⟨rfl, rfl⟩; dsimp only) | (go_at_call 38; (with_reducible refine (HC.out _).mono ?_); rintro e w' ⟨rfl, rfl⟩; dsimp only))
  go_ret
  exact ⟨rfl, rfl⟩
end Go.Proofs.YtffngfjbaimbhaaDoor
