/- What the document's own right and word return: rotations, and the number that eight bytes form. -/
import Derived.Test.YtffngfjbaimbhaaDoorSb
import Derived.Outline
namespace Go.Proofs.YtffngfjbaimbhaaDoor
open Go.RowKit
set_option linter.unusedVariables false
set_option linter.unusedSimpArgs false
theorem V_rot2 (x : BitVec 64) (n : Nat) (h0 : 1 ≤ n) (h1 : n ≤ 63) :
    bits .or .u64 (V x / 2 ^ n) (IntKind.u64.wrap (V x * 2 ^ (64 - n))) = V (x.rotateRight n) := by
  rw [V_shl, V_shr, V_or, BitVec.rotateRight_def, Nat.mod_eq_of_lt (by omega : n < 64)]
set_option maxRecDepth 100000 in
theorem rright_any (x : BitVec 64) (n : Nat) (w : World) (h0 : 1 ≤ n) (h1 : n ≤ 63) :
    Calls Tryd.prog 35 #[.int .u64 (V x), .int .i64 (n : Int)] w fun e w' => e = .returned (.int .u64 (V (x.rotateRight n))) ∧ w = w' := by
  have e := Lib.hid (V_rot2 x n h0 h1)
  have m1 : min n 64 = n := by omega
  have m2 : min (64 - n) 64 = 64 - n := by omega
  have t2 : ((64 : Int) - (n : Int)).toNat = 64 - n := by omega
  have n0 : (0 : Int) ≤ (n : Int) := by omega
  have n1 : ¬ (n : Int) < 0 := by omega
  have n2 : ¬ (64 : Int) - (n : Int) < 0 := by omega
  have w1 : IntKind.u64.wrap (n : Int) = (n : Int) := by rw [IntKind.wrap_u64]; omega
  have w2 : IntKind.u64.wrap (64 - (n : Int)) = 64 - (n : Int) := by rw [IntKind.wrap_u64]; omega
  go_enter Tryd.func35, Tryd.ntmps35
  go_wp2
  go_ret
  exact ⟨by rw [e.out]; rfl, rfl⟩
theorem wd_step (a : BitVec 64) (y : BitVec 8) : a <<< 8 ||| y.setWidth 64 = a * 256 + y.setWidth 64 := by
  rw [show a * (256 : BitVec 64) = a <<< 8 from BitVec.eq_of_toNat_eq (by rw [BitVec.toNat_mul, BitVec.toNat_shiftLeft, Nat.shiftLeft_eq]; rfl)]
  rw [BitVec.add_eq_or_of_and_eq_zero]
  apply BitVec.eq_of_getLsbD_eq
  intro i hi
  rw [BitVec.getLsbD_and, BitVec.getLsbD_shiftLeft, BitVec.getLsbD_setWidth, BitVec.getLsbD_zero]
  by_cases h : i < 8
  · simp [h]
  · have := BitVec.getLsbD_of_ge y i (by omega)
    simp [this]
theorem V_mul (a : BitVec 64) : IntKind.u64.wrap (256 * V a) = V (a * 256) := by
  rw [IntKind.wrap_u64]; unfold V; rw [BitVec.toNat_mul]; simp; omega
set_option maxRecDepth 100000 in
theorem rword_any (C : List (BitVec 8)) (g o n cap : Nat) (w : World) (hC : C.length = 8) (hn : 8 ≤ n) (hc : n ≤ cap)
    (hcell : ∀ j, j < 8 → w.cell? ⟨g, o + j, none⟩ = some (.int .u8 (Bt (C.getD j 0)))) :
    Calls Tryd.prog 34 #[.slice (some ⟨g, o, none⟩) n cap] w fun e w' => e = .returned (.int .u64 (V (wd C))) ∧ w = w' := by
  have hcap : 8 ≤ cap := by omega
  have HC := Lib.hid hcell
  have HL := Lib.hid hC
  clear hcell hC
  go_enter Tryd.func34, Tryd.ntmps34
  go_wp2
  go_loop [3, 4] (fun x i => ∃ k : Nat, k ≤ 8 ∧ i = .int .i64 k ∧ x = .int .u64 (V (wd (C.take k)))) (fun _ i => 8 - (intOf i).toNat)
  case atStart => exact ⟨0, Nat.zero_le _, rfl, rfl⟩
  case round =>
    obtain ⟨k, hk, rfl, rfl⟩ := hrel
    by_cases hlt : k < 8
    · have c0 := HC.out k hlt
      have hs := wd_snoc C k (by have := HL.out; omega)
      rw [wd_step] at hs
      obtain ⟨a, ha⟩ : ∃ a, a = wd (C.take k) := ⟨_, rfl⟩
      obtain ⟨y, hy⟩ : ∃ y, y = C.getD k 0 := ⟨_, rfl⟩
      rw [← hy] at c0 hs
      rw [← ha] at hs ⊢
      have HS := Lib.hid hs
      have E1 := Lib.hid (V_mul a)
      have E2 := Lib.hid (Bt_V y)
      clear ha hy hs
      go_wp2
      go_round
      case rel => exact ⟨k + 1, by omega, by go_num, by rw [HS.out, E1.out, E2.out, V_add]⟩
      case measure => simp [intOf]; omega
    · obtain rfl : k = 8 := by omega
      have HF := Lib.hid (show C.take 8 = C from List.take_of_length_le (by have := HL.out; omega))
      go_wp2
      go_ret
      exact ⟨by rw [HF.out]; rfl, rfl⟩
end Go.Proofs.YtffngfjbaimbhaaDoor
