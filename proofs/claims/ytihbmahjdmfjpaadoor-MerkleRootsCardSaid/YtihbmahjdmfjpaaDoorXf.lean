/- What the document's own Right, Shift, three and Number return; own rows of numbers. -/
import Derived.Test.YtihbmahjdmfjpaaDoorXe
namespace Go.Proofs.YtihbmahjdmfjpaaDoor
set_option maxRecDepth 100000
open Go.RowKit
set_option linter.unusedVariables false
set_option linter.unusedSimpArgs false
theorem rr_get (x : BitVec 32) (r j : Nat) (hr : r < 32) (hj : j < 32) : (x.rotateRight r).getLsbD j = x.getLsbD (if j < 32 - r then r + j else j - (32 - r)) := by
  rw [BitVec.getLsbD_rotateRight, Nat.mod_eq_of_lt hr]
  by_cases h : j < 32 - r
  · rw [decide_eq_true h, cond_true, if_pos h]
  · rw [decide_eq_false h, cond_false, if_neg h, decide_eq_true hj, Bool.true_and]
theorem rr_add (x : BitVec 32) (i : Nat) (h : i < 31) : (x.rotateRight i).rotateRight 1 = x.rotateRight (i + 1) := by
  apply BitVec.eq_of_getLsbD_eq
  intro j hj
  rw [rr_get _ 1 j (by omega) hj, rr_get _ i _ (by omega) (by split <;> omega), rr_get _ (i + 1) j (by omega) hj]
  congr 1
  split <;> split <;> split <;> omega
theorem rr_zero (x : BitVec 32) : x.rotateRight 0 = x := by
  apply BitVec.eq_of_getLsbD_eq
  intro j hj
  rw [rr_get _ 0 j (by omega) hj, if_pos (by omega)]; congr 1; omega
theorem rr_one (x : BitVec 32) : (x.rotateRight 1).toNat = x.toNat / 2 + x.toNat % 2 * 2147483648 := by
  rw [BitVec.rotateRight_def, BitVec.toNat_or, BitVec.toNat_ushiftRight, BitVec.toNat_shiftLeft]
  have hx := x.isLt
  rw [show (1 % 32 : Nat) = 1 from rfl, show (32 - 1 : Nat) = 31 from rfl, Nat.shiftRight_eq_div_pow, Nat.shiftLeft_eq]
  have e : x.toNat * 2 ^ 31 % 2 ^ 32 = 2 ^ 31 * (x.toNat % 2) := by omega
  rw [e, Nat.or_comm, ← Nat.two_pow_add_eq_or_of_lt (by omega : x.toNat / 2 ^ 1 < 2 ^ 31)]
  omega
theorem U_half (x : BitVec 32) : (U x).tdiv 2 = U (x >>> 1) := by
  unfold U
  rw [show ((x.toNat : Int).tdiv 2) = ((x.toNat / 2 : Nat) : Int) from rfl, BitVec.toNat_ushiftRight, Nat.shiftRight_eq_div_pow]
theorem U_right (x : BitVec 32) : ((U x).tdiv 2 % 4294967296 + (U x).tmod 2 * 2147483648 % 4294967296) % 4294967296 = U (x.rotateRight 1) := by
  have h := rr_one x
  have hx := x.isLt
  unfold U
  rw [Int.tdiv_eq_ediv_of_nonneg (Int.natCast_nonneg _), Int.tmod_eq_emod_of_nonneg (Int.natCast_nonneg _), h]
  omega
set_option maxRecDepth 100000 in
set_option maxHeartbeats 1000000 in
theorem right_any (x : BitVec 32) (n : Nat) (hn : n ≤ 31) (w : World) :
    Calls Tryd.prog 70 #[.int .u32 (U x), .int .i64 n] w fun e w' => e = .returned (.int .u32 (U (x.rotateRight n))) ∧ w = w' := by
  go_enter Tryd.func70, Tryd.ntmps70
  go_wp2
  go_loop [0, 5] (fun v i => ∃ k : Nat, k ≤ n ∧ i = .int .i64 k ∧ v = .int .u32 (U (x.rotateRight k))) (fun _ i => n - (intOf i).toNat)
  case atStart => exact ⟨0, Nat.zero_le _, rfl, by rw [rr_zero]⟩
  case round =>
    obtain ⟨k, hk, rfl, rfl⟩ := hrel
    by_cases hlt : k < n
    · have k1 : (k : Int) < (n : Int) := by omega
      have e := Lib.hid (U_right (x.rotateRight k))
      rw [rr_add x k (by omega)] at e
      go_wp2
      go_round
      case rel => exact ⟨k + 1, by omega, by simp, by rw [e.out]⟩
      case measure => simp [intOf]; omega
    · have k1 : ¬ (k : Int) < (n : Int) := by omega
      obtain rfl : k = n := by omega
      go_wp2
      go_ret
      exact ⟨rfl, rfl⟩
set_option maxRecDepth 100000 in
set_option maxHeartbeats 1000000 in
theorem shift_any (x : BitVec 32) (n : Nat) (hn : n ≤ 31) (w : World) :
    Calls Tryd.prog 79 #[.int .u32 (U x), .int .i64 n] w fun e w' => e = .returned (.int .u32 (U (x >>> n))) ∧ w = w' := by
  go_enter Tryd.func79, Tryd.ntmps79
  go_wp2
  go_loop [0, 5] (fun v i => ∃ k : Nat, k ≤ n ∧ i = .int .i64 k ∧ v = .int .u32 (U (x >>> k))) (fun _ i => n - (intOf i).toNat)
  case atStart => exact ⟨0, Nat.zero_le _, rfl, by simp⟩
  case round =>
    obtain ⟨k, hk, rfl, rfl⟩ := hrel
    by_cases hlt : k < n
    · have k1 : (k : Int) < (n : Int) := by omega
      have e := Lib.hid (U_half (x >>> k))
      go_wp2
      go_round
      case rel => exact ⟨k + 1, by omega, by simp, by have := e.out; rw [this]; have h2 := U_hi (x >>> k >>> 1); have h3 := U_lo (x >>> k >>> 1); rw [Int.emod_eq_of_lt h3 h2, ← BitVec.shiftRight_add]⟩
      case measure => simp [intOf]; omega
    · have k1 : ¬ (k : Int) < (n : Int) := by omega
      obtain rfl : k = n := by omega
      go_wp2
      go_ret
      exact ⟨rfl, rfl⟩
theorem three_any (x y z : BitVec 32) (w : World) :
    Calls Tryd.prog 69 #[.int .u32 (U x), .int .u32 (U y), .int .u32 (U z)] w fun e w' => e = .returned (.int .u32 (U (x ^^^ y ^^^ z))) ∧ w = w' := by
  have hx := U_xor
  go_enter Tryd.func69, Tryd.ntmps69
  go_wp2
  go_ret
  exact ⟨rfl, rfl⟩
open Go.RowKit
set_option linter.unusedVariables false
set_option linter.unusedSimpArgs false
/-- The slice with address A reads as the numbers M, and lies below block B. -/
def RdU (w : World) (B : Nat) (A : Option Addr) (M : List (BitVec 32)) : Prop :=
  0 < M.length → ∃ b o, A = some ⟨b, o, none⟩ ∧ b < B ∧ ∀ j, j < M.length → w.cell? ⟨b, o + j, none⟩ = some (.int .u32 (U (M.getD j 0)))
theorem RdU.keep {w w' : World} {B B' : Nat} {A : Option Addr} {M : List (BitVec 32)} (h : RdU w B A M) (hb : Below B' w w') (hB : B ≤ B') : RdU w' B A M := fun hp => by
  obtain ⟨b, o, e, hlt, hc⟩ := h hp
  exact ⟨b, o, e, hlt, fun j hj => by rw [hb.cell (p := ⟨b, o + j, none⟩) (Nat.lt_of_lt_of_le hlt hB)]; exact hc j hj⟩
theorem RdU.up {w : World} {B B' : Nat} {A : Option Addr} {M : List (BitVec 32)} (h : RdU w B A M) (hB : B ≤ B') : RdU w B' A M := fun hp => by
  obtain ⟨b, o, e, hlt, hc⟩ := h hp
  exact ⟨b, o, e, Nat.lt_of_lt_of_le hlt hB, hc⟩
def accW (C : List (BitVec 8)) (k : Nat) : Nat → BitVec 32
  | 0 => 0
  | j + 1 => accW C k j * 256 + (C.getD (4 * k + j) 0).setWidth 32
theorem num4_nat (a b c d : BitVec 8) : (num4 a b c d).toNat = a.toNat * 16777216 + b.toNat * 65536 + c.toNat * 256 + d.toNat := by
  have ha := a.isLt; have hb := b.isLt; have hc := c.isLt; have hd := d.isLt
  unfold num4
  simp only [BitVec.toNat_or, BitVec.toNat_shiftLeft, BitVec.toNat_setWidth, Nat.shiftLeft_eq]
  have e1 : a.toNat % 2 ^ 32 * 2 ^ 24 % 2 ^ 32 = 2 ^ 24 * a.toNat := by rw [Nat.mod_eq_of_lt (show a.toNat < 2 ^ 32 by omega), Nat.mod_eq_of_lt (by omega), Nat.mul_comm]
  have e2 : b.toNat % 2 ^ 32 * 2 ^ 16 % 2 ^ 32 = 2 ^ 16 * b.toNat := by rw [Nat.mod_eq_of_lt (show b.toNat < 2 ^ 32 by omega), Nat.mod_eq_of_lt (by omega), Nat.mul_comm]
  have e3 : c.toNat % 2 ^ 32 * 2 ^ 8 % 2 ^ 32 = 2 ^ 8 * c.toNat := by rw [Nat.mod_eq_of_lt (show c.toNat < 2 ^ 32 by omega), Nat.mod_eq_of_lt (by omega), Nat.mul_comm]
  have e4 : d.toNat % 2 ^ 32 = d.toNat := by omega
  have o1 : 2 ^ 24 * a.toNat ||| 2 ^ 16 * b.toNat = 2 ^ 16 * (256 * a.toNat + b.toNat) := by
    rw [← Nat.two_pow_add_eq_or_of_lt (show 2 ^ 16 * b.toNat < 2 ^ 24 by omega)]; omega
  have o2 : 2 ^ 16 * (256 * a.toNat + b.toNat) ||| 2 ^ 8 * c.toNat = 2 ^ 8 * (65536 * a.toNat + 256 * b.toNat + c.toNat) := by
    rw [← Nat.two_pow_add_eq_or_of_lt (show 2 ^ 8 * c.toNat < 2 ^ 16 by omega)]; omega
  have o3 : 2 ^ 8 * (65536 * a.toNat + 256 * b.toNat + c.toNat) ||| d.toNat = 2 ^ 8 * (65536 * a.toNat + 256 * b.toNat + c.toNat) + d.toNat := by
    rw [← Nat.two_pow_add_eq_or_of_lt (show d.toNat < 2 ^ 8 by omega)]
  rw [e1, e2, e3, e4, o1, o2, o3]
  omega
theorem accW_4 (C : List (BitVec 8)) (k : Nat) : accW C k 4 = wordOf C k := by
  apply BitVec.eq_of_toNat_eq
  unfold wordOf
  rw [num4_nat]
  have h : ∀ j, (C.getD j 0).toNat < 256 := fun j => (C.getD j 0).isLt
  have h0 := h (4 * k); have h1 := h (4 * k + 1); have h2 := h (4 * k + 2); have h3 := h (4 * k + 3)
  have z0 : (0 : BitVec 32).toNat = 0 := rfl
  have z256 : (256 : BitVec 32).toNat = 256 := rfl
  simp only [accW, z0, z256, BitVec.toNat_add, BitVec.toNat_mul, BitVec.toNat_setWidth, BitVec.toNat_ofNat, Nat.add_zero]
  omega
def sg0 (x : BitVec 32) : BitVec 32 := x.rotateRight 7 ^^^ x.rotateRight 18 ^^^ x >>> 3
def sg1 (x : BitVec 32) : BitVec 32 := x.rotateRight 17 ^^^ x.rotateRight 19 ^^^ x >>> 10
def numR (C : List (BitVec 8)) (M : List (BitVec 32)) (k : Nat) : BitVec 32 :=
  if k < 16 then wordOf C k else M.getD (k - 16) 0 + sg0 (M.getD (k - 15) 0) + M.getD (k - 7) 0 + sg1 (M.getD (k - 2) 0)
set_option maxRecDepth 100000 in
set_option maxHeartbeats 2000000 in
theorem rnumber_lo (C : List (BitVec 8)) (A : Option Addr) (n c : Nat) (v : Value) (k : Nat) (w : World) (hC : 64 ≤ C.length) (hn : n = C.length) (hR : Rd w w.heap.size A C) (hk : k < 16) :
    Calls Tryd.prog 68 #[.slice A n c, v, .int .i64 k] w fun e w' => e = .returned (.int .u32 (U (wordOf C k))) ∧ w = w' := by
  obtain ⟨b, o, rfl, hlt, hc⟩ := hR (by omega)
  have k1 : (k : Int) < 16 := by omega
  have hm : ∀ x : BitVec 32, U x * (256 : Int) % 4294967296 = U (x * 256) := fun x => by unfold U; rw [BitVec.toNat_mul]; simp
  have cv : ∀ x : BitVec 8, IntKind.u32.wrap (Bt x) = U (x.setWidth 32) := fun x => by rw [IntKind.wrap_u32', Int.emod_eq_of_lt (Bt_lo x) (by have := Bt_hi x; omega), Bt_U]
  have cv' : ∀ x : BitVec 8, Bt x % (4294967296 : Int) = U (x.setWidth 32) := fun x => by rw [Int.emod_eq_of_lt (Bt_lo x) (by have := Bt_hi x; omega), Bt_U]
  have ha : ∀ x y : BitVec 32, (U x + U y) % (4294967296 : Int) = U (x + y) := U_add
  have HC := Lib.hid hc
  have k4 : IntKind.i64.wrap (4 * (k : Int)) = 4 * (k : Int) := IntWalk.i64_in _ (by omega)
  clear hc
  go_enter Tryd.func68, Tryd.ntmps68
  go_wp2
  go_loop [7, 8] (fun v i => ∃ j : Nat, j ≤ 4 ∧ i = .int .i64 j ∧ v = .int .u32 (U (accW C k j))) (fun _ i => 4 - (intOf i).toNat)
  case atStart => exact ⟨0, Nat.zero_le _, rfl, rfl⟩
  case round =>
    obtain ⟨j, hj, rfl, rfl⟩ := hrel
    by_cases hlt4 : j < 4
    · have j1 : (j : Int) < 4 := by omega
      have k5 : IntKind.i64.wrap (4 * (k : Int) + (j : Int)) = 4 * (k : Int) + (j : Int) := IntWalk.i64_in _ (by omega)
      have c0 := HC.out (4 * k + j) (by omega)
      have k6 : (0 : Int) ≤ 4 * (k : Int) + (j : Int) := by omega
      have k7 : 4 * (k : Int) + (j : Int) < (n : Int) := by omega
      have k8 : (4 * (k : Int) + (j : Int)).toNat = 4 * k + j := by omega
      go_wp2
      go_round
      case rel => exact ⟨j + 1, by omega, by simp, rfl⟩
      case measure => simp [intOf]; omega
    · obtain rfl : j = 4 := by omega
      have e := accW_4 C k
      rw [e]
      go_wp2
      go_ret
      exact ⟨rfl, rfl⟩
theorem three_q (x y z : BitVec 32) (w : World) :
    Calls Tryd.prog 69 #[.int .u32 (U x), .int .u32 (U y), .int .u32 (U z)] w fun e w' => e = .returned (.int .u32 (U (x ^^^ y ^^^ z))) ∧ w' = w := (three_any x y z w).mono fun _ _ h => ⟨h.1, h.2.symm⟩
set_option maxRecDepth 100000 in
set_option maxHeartbeats 4000000 in
theorem rnumber_hi (M : List (BitVec 32)) (A : Option Addr) (n c : Nat) (v : Value) (k : Nat) (w : World) (hn : n = M.length) (hR : RdU w w.heap.size A M) (hk : 16 ≤ k) (hk2 : k ≤ M.length) (hk3 : k < 1000) :
    Calls Tryd.prog 68 #[v, .slice A n c, .int .i64 k] w fun e w' => e = .returned (.int .u32 (U (M.getD (k - 16) 0 + sg0 (M.getD (k - 15) 0) + M.getD (k - 7) 0 + sg1 (M.getD (k - 2) 0)))) ∧ ∃ q, w' = w.drewN q := by
  obtain ⟨b, o, rfl, hlt, hc⟩ := hR (by omega)
  have k1 : ¬ (k : Int) < 16 := by omega
  have ha : ∀ x y : BitVec 32, (U x + U y) % (4294967296 : Int) = U (x + y) := U_add
  have w16 : IntKind.i64.wrap ((k : Int) - 16) = ((k - 16 : Nat) : Int) := by rw [IntWalk.i64_in _ (by omega)]; omega
  have w15 : IntKind.i64.wrap ((k : Int) - 15) = ((k - 15 : Nat) : Int) := by rw [IntWalk.i64_in _ (by omega)]; omega
  have w7 : IntKind.i64.wrap ((k : Int) - 7) = ((k - 7 : Nat) : Int) := by rw [IntWalk.i64_in _ (by omega)]; omega
  have w2 : IntKind.i64.wrap ((k : Int) - 2) = ((k - 2 : Nat) : Int) := by rw [IntWalk.i64_in _ (by omega)]; omega
  have c16 := hc (k - 16) (by omega)
  have c15 := hc (k - 15) (by omega)
  have c7 := hc (k - 7) (by omega)
  have c2 := hc (k - 2) (by omega)
  have n16 : k - 16 < M.length := by omega
  have n15 : k - 15 < M.length := by omega
  have n7 : k - 7 < M.length := by omega
  have n2 : k - 2 < M.length := by omega
  have l16 : (((k - 16 : Nat) : Int) < (n : Int)) := by omega
  have l15 : (((k - 15 : Nat) : Int) < (n : Int)) := by omega
  have l7 : (((k - 7 : Nat) : Int) < (n : Int)) := by omega
  have l2 : (((k - 2 : Nat) : Int) < (n : Int)) := by omega
  generalize hq16 : M.getD (k - 16) 0 = m16 at c16 ⊢
  generalize hq15 : M.getD (k - 15) 0 = m15 at c15 ⊢
  generalize hq7 : M.getD (k - 7) 0 = m7 at c7 ⊢
  generalize hq2 : M.getD (k - 2) 0 = m2 at c2 ⊢
  clear hq16 hq15 hq7 hq2 hc hR
  generalize k - 16 = i16 at *
  generalize k - 15 = i15 at *
  generalize k - 7 = i7 at *
  generalize k - 2 = i2 at *
  have r7 : ∀ (x : BitVec 32) wq, Calls Tryd.prog 70 #[.int .u32 (U x), .int .i64 7] wq fun e w' => e = .returned (.int .u32 (U (x.rotateRight 7))) ∧ w' = wq := fun x wq => (right_any x 7 (by omega) wq).mono fun _ _ h => ⟨h.1, h.2.symm⟩
  have r18 : ∀ (x : BitVec 32) wq, Calls Tryd.prog 70 #[.int .u32 (U x), .int .i64 18] wq fun e w' => e = .returned (.int .u32 (U (x.rotateRight 18))) ∧ w' = wq := fun x wq => (right_any x 18 (by omega) wq).mono fun _ _ h => ⟨h.1, h.2.symm⟩
  have r17 : ∀ (x : BitVec 32) wq, Calls Tryd.prog 70 #[.int .u32 (U x), .int .i64 17] wq fun e w' => e = .returned (.int .u32 (U (x.rotateRight 17))) ∧ w' = wq := fun x wq => (right_any x 17 (by omega) wq).mono fun _ _ h => ⟨h.1, h.2.symm⟩
  have r19 : ∀ (x : BitVec 32) wq, Calls Tryd.prog 70 #[.int .u32 (U x), .int .i64 19] wq fun e w' => e = .returned (.int .u32 (U (x.rotateRight 19))) ∧ w' = wq := fun x wq => (right_any x 19 (by omega) wq).mono fun _ _ h => ⟨h.1, h.2.symm⟩
  have h3 : ∀ (x : BitVec 32) wq, Calls Tryd.prog 79 #[.int .u32 (U x), .int .i64 3] wq fun e w' => e = .returned (.int .u32 (U (x >>> 3))) ∧ w' = wq := fun x wq => (shift_any x 3 (by omega) wq).mono fun _ _ h => ⟨h.1, h.2.symm⟩
  have h10 : ∀ (x : BitVec 32) wq, Calls Tryd.prog 79 #[.int .u32 (U x), .int .i64 10] wq fun e w' => e = .returned (.int .u32 (U (x >>> 10))) ∧ w' = wq := fun x wq => (shift_any x 10 (by omega) wq).mono fun _ _ h => ⟨h.1, h.2.symm⟩
  go_enter Tryd.func68, Tryd.ntmps68
  go_wp2_with fail
  have hw : ∃ q, w.drew = w.drewN q := ⟨1, rfl⟩
  refine wp_calm ?_
  refine wp_region_but (z := 27) (fun w' : World => w'.cell? ⟨b, o + i16, none⟩ = some (.int .u32 (U m16)) ∧ w'.cell? ⟨b, o + i7, none⟩ = some (.int .u32 (U m7))) (by kernel_rfl) ?_
  have hS : (fun w' : World => w'.cell? ⟨b, o + i16, none⟩ = some (.int .u32 (U m16)) ∧ w'.cell? ⟨b, o + i7, none⟩ = some (.int .u32 (U m7))) w.drew := ⟨c16, c7⟩
  generalize w.drew = wd at hS hw ⊢
  refine AnyBut.take (i := 0) (v := ?_) rfl (by kernel_rfl) (by kernel_rfl) (by kernel_rfl) (by kernel_rfl) (fun _ _ _ h => h) (Or.inl ⟨by rfl, ?_⟩) hS ?_
  rotate_left
  · (intro wq hq; go_simp; try with_reducible rfl)
  try simp only [Act.put, List.setIfInBounds_toArray, List.set_cons_zero, List.set_cons_succ, List.getElem_toArray, List.getElem_cons_zero, List.getElem_cons_succ]
  refine AnyBut.take (i := 1) (v := ?_) rfl (by kernel_rfl) (by kernel_rfl) (by kernel_rfl) (by kernel_rfl) (fun _ _ _ h => h) (Or.inl ⟨by rfl, ?_⟩) hS ?_
  rotate_left
  · (intro wq hq; go_simp; try with_reducible rfl)
  try simp only [Act.put, List.setIfInBounds_toArray, List.set_cons_zero, List.set_cons_succ, List.getElem_toArray, List.getElem_cons_zero, List.getElem_cons_succ]
  refine AnyBut.take (i := 2) (v := ?_) rfl (by kernel_rfl) (by kernel_rfl) (by kernel_rfl) (by kernel_rfl) (fun _ _ _ h => h) (Or.inl ⟨by rfl, ?_⟩) hS ?_
  rotate_left
  · (intro wq hq; go_simp; try with_reducible rfl)
  try simp only [Act.put, List.setIfInBounds_toArray, List.set_cons_zero, List.set_cons_succ, List.getElem_toArray, List.getElem_cons_zero, List.getElem_cons_succ]
  refine AnyBut.take (i := 3) (v := ?_) rfl (by kernel_rfl) (by kernel_rfl) (by kernel_rfl) (by kernel_rfl) (fun _ _ _ h => h) (Or.inl ⟨by rfl, ?_⟩) hS ?_
  rotate_left
  · (intro wq hq; go_simp; try with_reducible rfl)
  try simp only [Act.put, List.setIfInBounds_toArray, List.set_cons_zero, List.set_cons_succ, List.getElem_toArray, List.getElem_cons_zero, List.getElem_cons_succ]
  refine AnyBut.take (i := 4) (v := ?_) rfl (by kernel_rfl) (by kernel_rfl) (by kernel_rfl) (by kernel_rfl) (fun _ _ _ h => h) (Or.inl ⟨by rfl, ?_⟩) hS ?_
  rotate_left
  · (intro wq hq; obtain ⟨hq1, hq2⟩ := hq; go_simp; try with_reducible rfl)
  try simp only [Act.put, List.setIfInBounds_toArray, List.set_cons_zero, List.set_cons_succ, List.getElem_toArray, List.getElem_cons_zero, List.getElem_cons_succ]
  refine AnyBut.take (i := 5) (v := ?_) rfl (by kernel_rfl) (by kernel_rfl) (by kernel_rfl) (by kernel_rfl) (fun _ _ _ h => h) (Or.inl ⟨by rfl, ?_⟩) hS ?_
  rotate_left
  · (intro wq hq; go_simp; try with_reducible rfl)
  try simp only [Act.put, List.setIfInBounds_toArray, List.set_cons_zero, List.set_cons_succ, List.getElem_toArray, List.getElem_cons_zero, List.getElem_cons_succ]
  refine AnyBut.take (i := 7) (v := ?_) rfl (by kernel_rfl) (by kernel_rfl) (by kernel_rfl) (by kernel_rfl) (fun _ _ _ h => h) (Or.inl ⟨by rfl, ?_⟩) hS ?_
  rotate_left
  · (intro wq hq; go_simp; try with_reducible rfl)
  try simp only [Act.put, List.setIfInBounds_toArray, List.set_cons_zero, List.set_cons_succ, List.getElem_toArray, List.getElem_cons_zero, List.getElem_cons_succ]
  refine AnyBut.take (i := 9) (v := ?_) rfl (by kernel_rfl) (by kernel_rfl) (by kernel_rfl) (by kernel_rfl) (fun _ _ _ h => h) (Or.inl ⟨by rfl, ?_⟩) hS ?_
  rotate_left
  · (intro wq hq; go_simp; try with_reducible rfl)
  try simp only [Act.put, List.setIfInBounds_toArray, List.set_cons_zero, List.set_cons_succ, List.getElem_toArray, List.getElem_cons_zero, List.getElem_cons_succ]
  refine AnyBut.take (i := 13) (v := ?_) rfl (by kernel_rfl) (by kernel_rfl) (by kernel_rfl) (by kernel_rfl) (fun _ _ _ h => h) (Or.inl ⟨by rfl, ?_⟩) hS ?_
  rotate_left
  · (intro wq hq; go_simp; try with_reducible rfl)
  try simp only [Act.put, List.setIfInBounds_toArray, List.set_cons_zero, List.set_cons_succ, List.getElem_toArray, List.getElem_cons_zero, List.getElem_cons_succ]
  refine AnyBut.take (i := 14) (v := ?_) rfl (by kernel_rfl) (by kernel_rfl) (by kernel_rfl) (by kernel_rfl) (fun _ _ _ h => h) (Or.inl ⟨by rfl, ?_⟩) hS ?_
  rotate_left
  · (intro wq hq; go_simp; try with_reducible rfl)
  try simp only [Act.put, List.setIfInBounds_toArray, List.set_cons_zero, List.set_cons_succ, List.getElem_toArray, List.getElem_cons_zero, List.getElem_cons_succ]
  refine AnyBut.take (i := 15) (v := ?_) rfl (by kernel_rfl) (by kernel_rfl) (by kernel_rfl) (by kernel_rfl) (fun _ _ _ h => h) (Or.inl ⟨by rfl, ?_⟩) hS ?_
  rotate_left
  · (intro wq hq; go_simp; try with_reducible rfl)
  try simp only [Act.put, List.setIfInBounds_toArray, List.set_cons_zero, List.set_cons_succ, List.getElem_toArray, List.getElem_cons_zero, List.getElem_cons_succ]
  refine AnyBut.take (i := 16) (v := ?_) rfl (by kernel_rfl) (by kernel_rfl) (by kernel_rfl) (by kernel_rfl) (fun _ _ _ h => h) (Or.inl ⟨by rfl, ?_⟩) hS ?_
  rotate_left
  · (intro wq hq; go_simp; try with_reducible rfl)
  try simp only [Act.put, List.setIfInBounds_toArray, List.set_cons_zero, List.set_cons_succ, List.getElem_toArray, List.getElem_cons_zero, List.getElem_cons_succ]
  refine AnyBut.take (i := 17) (v := ?_) rfl (by kernel_rfl) (by kernel_rfl) (by kernel_rfl) (by kernel_rfl) (fun _ _ _ h => h) (Or.inl ⟨by rfl, ?_⟩) hS ?_
  rotate_left
  · (intro wq hq; obtain ⟨hq1, hq2⟩ := hq; go_simp; try with_reducible rfl)
  try simp only [Act.put, List.setIfInBounds_toArray, List.set_cons_zero, List.set_cons_succ, List.getElem_toArray, List.getElem_cons_zero, List.getElem_cons_succ]
  refine AnyBut.take (i := 19) (v := ?_) rfl (by kernel_rfl) (by kernel_rfl) (by kernel_rfl) (by kernel_rfl) (fun _ _ _ h => h) (Or.inl ⟨by rfl, ?_⟩) hS ?_
  rotate_left
  · (intro wq hq; go_simp; try with_reducible rfl)
  try simp only [Act.put, List.setIfInBounds_toArray, List.set_cons_zero, List.set_cons_succ, List.getElem_toArray, List.getElem_cons_zero, List.getElem_cons_succ]
  refine AnyBut.take (i := 21) (v := ?_) rfl (by kernel_rfl) (by kernel_rfl) (by kernel_rfl) (by kernel_rfl) (fun _ _ _ h => h) (Or.inl ⟨by rfl, ?_⟩) hS ?_
  rotate_left
  · (intro wq hq; go_simp; try with_reducible rfl)
  try simp only [Act.put, List.setIfInBounds_toArray, List.set_cons_zero, List.set_cons_succ, List.getElem_toArray, List.getElem_cons_zero, List.getElem_cons_succ]
  refine AnyBut.take (i := 23) (v := ?_) rfl (by kernel_rfl) (by kernel_rfl) (by kernel_rfl) (by kernel_rfl) (fun _ _ _ h => h) (Or.inl ⟨by rfl, ?_⟩) hS ?_
  rotate_left
  · (intro wq hq; go_simp; try with_reducible rfl)
  try simp only [Act.put, List.setIfInBounds_toArray, List.set_cons_zero, List.set_cons_succ, List.getElem_toArray, List.getElem_cons_zero, List.getElem_cons_succ]
  refine AnyBut.gone (i := 6) (by kernel_rfl) rfl (by rfl) (fun K hK => ?_)
  go_simp
  (with_reducible refine (r7 _ _).mono ?_)
  rintro e wz ⟨rfl, rfl⟩
  dsimp only
  refine hK _ _ (fun _ => hS) ?_
  clear hK K
  try simp only [Act.put, List.setIfInBounds_toArray, List.set_cons_zero, List.set_cons_succ, List.getElem_toArray, List.getElem_cons_zero, List.getElem_cons_succ]
  refine AnyBut.gone (i := 8) (by kernel_rfl) rfl (by rfl) (fun K hK => ?_)
  go_simp
  (with_reducible refine (r18 _ _).mono ?_)
  rintro e wz ⟨rfl, rfl⟩
  dsimp only
  refine hK _ _ (fun _ => hS) ?_
  clear hK K
  try simp only [Act.put, List.setIfInBounds_toArray, List.set_cons_zero, List.set_cons_succ, List.getElem_toArray, List.getElem_cons_zero, List.getElem_cons_succ]
  refine AnyBut.gone (i := 10) (by kernel_rfl) rfl (by rfl) (fun K hK => ?_)
  go_simp
  (with_reducible refine (h3 _ _).mono ?_)
  rintro e wz ⟨rfl, rfl⟩
  dsimp only
  refine hK _ _ (fun _ => hS) ?_
  clear hK K
  try simp only [Act.put, List.setIfInBounds_toArray, List.set_cons_zero, List.set_cons_succ, List.getElem_toArray, List.getElem_cons_zero, List.getElem_cons_succ]
  refine AnyBut.gone (i := 11) (by kernel_rfl) rfl (by rfl) (fun K hK => ?_)
  go_simp
  (with_reducible refine (three_q _ _ _ _).mono ?_)
  rintro e wz ⟨rfl, rfl⟩
  dsimp only
  refine hK _ _ (fun _ => hS) ?_
  clear hK K
  try simp only [Act.put, List.setIfInBounds_toArray, List.set_cons_zero, List.set_cons_succ, List.getElem_toArray, List.getElem_cons_zero, List.getElem_cons_succ]
  refine AnyBut.take (i := 12) (v := ?_) rfl (by kernel_rfl) (by kernel_rfl) (by kernel_rfl) (by kernel_rfl) (fun _ _ _ h => h) (Or.inl ⟨by rfl, ?_⟩) hS ?_
  rotate_left
  · (intro wq hq; go_simp; try with_reducible rfl)
  try simp only [Act.put, List.setIfInBounds_toArray, List.set_cons_zero, List.set_cons_succ, List.getElem_toArray, List.getElem_cons_zero, List.getElem_cons_succ]
  refine AnyBut.take (i := 18) (v := ?_) rfl (by kernel_rfl) (by kernel_rfl) (by kernel_rfl) (by kernel_rfl) (fun _ _ _ h => h) (Or.inl ⟨by rfl, ?_⟩) hS ?_
  rotate_left
  · (intro wq hq; go_simp; try with_reducible rfl)
  try simp only [Act.put, List.setIfInBounds_toArray, List.set_cons_zero, List.set_cons_succ, List.getElem_toArray, List.getElem_cons_zero, List.getElem_cons_succ]
  refine AnyBut.gone (i := 20) (by kernel_rfl) rfl (by rfl) (fun K hK => ?_)
  go_simp
  (with_reducible refine (r17 _ _).mono ?_)
  rintro e wz ⟨rfl, rfl⟩
  dsimp only
  refine hK _ _ (fun _ => hS) ?_
  clear hK K
  try simp only [Act.put, List.setIfInBounds_toArray, List.set_cons_zero, List.set_cons_succ, List.getElem_toArray, List.getElem_cons_zero, List.getElem_cons_succ]
  refine AnyBut.gone (i := 22) (by kernel_rfl) rfl (by rfl) (fun K hK => ?_)
  go_simp
  (with_reducible refine (r19 _ _).mono ?_)
  rintro e wz ⟨rfl, rfl⟩
  dsimp only
  refine hK _ _ (fun _ => hS) ?_
  clear hK K
  try simp only [Act.put, List.setIfInBounds_toArray, List.set_cons_zero, List.set_cons_succ, List.getElem_toArray, List.getElem_cons_zero, List.getElem_cons_succ]
  refine AnyBut.gone (i := 24) (by kernel_rfl) rfl (by rfl) (fun K hK => ?_)
  go_simp
  (with_reducible refine (h10 _ _).mono ?_)
  rintro e wz ⟨rfl, rfl⟩
  dsimp only
  refine hK _ _ (fun _ => hS) ?_
  clear hK K
  try simp only [Act.put, List.setIfInBounds_toArray, List.set_cons_zero, List.set_cons_succ, List.getElem_toArray, List.getElem_cons_zero, List.getElem_cons_succ]
  refine AnyBut.gone (i := 25) (by kernel_rfl) rfl (by rfl) (fun K hK => ?_)
  go_simp
  (with_reducible refine (three_q _ _ _ _).mono ?_)
  rintro e wz ⟨rfl, rfl⟩
  dsimp only
  refine hK _ _ (fun _ => hS) ?_
  clear hK K
  try simp only [Act.put, List.setIfInBounds_toArray, List.set_cons_zero, List.set_cons_succ, List.getElem_toArray, List.getElem_cons_zero, List.getElem_cons_succ]
  refine AnyBut.take (i := 26) (v := ?_) rfl (by kernel_rfl) (by kernel_rfl) (by kernel_rfl) (by kernel_rfl) (fun _ _ _ h => h) (Or.inl ⟨by rfl, ?_⟩) hS ?_
  rotate_left
  · (intro wq hq; go_simp; try with_reducible rfl)
  try simp only [Act.put, List.setIfInBounds_toArray, List.set_cons_zero, List.set_cons_succ, List.getElem_toArray, List.getElem_cons_zero, List.getElem_cons_succ]
  refine AnyBut.gone (i := 27) (by kernel_rfl) rfl (by rfl) (fun K hK => ?_)
  go_simp
  refine hK _ _ (fun h => absurd rfl h) ?_
  clear hK K
  refine AnyBut.done (by kernel_rfl) ?_ _
  dsimp only [Exit.then]
  go_wp2_with fail
  go_ret
  exact ⟨rfl, hw⟩
open Go.RowKit
set_option linter.unusedVariables false
set_option linter.unusedSimpArgs false
theorem zx (x : BitVec 32) : (0 : BitVec 32) ^^^ x = x := BitVec.zero_xor
/-- The first k numbers of a chunk. -/
def mkR (C : List (BitVec 8)) : Nat → List (BitVec 32)
  | 0 => []
  | k + 1 => mkR C k ++ [numR C (mkR C k) k]
theorem mkR_len (C : List (BitVec 8)) (k : Nat) : (mkR C k).length = k := by
  induction k with
  | zero => rfl
  | succ k ih => simp [mkR, ih]
/-- The k-th number. -/
def Wd (C : List (BitVec 8)) (k : Nat) : BitVec 32 := numR C (mkR C k) k
theorem mkR_get (C : List (BitVec 8)) (k i : Nat) (h : i < k) : (mkR C k).getD i 0 = Wd C i := by
  induction k with
  | zero => omega
  | succ k ih =>
    show (mkR C k ++ [Wd C k]).getD i 0 = _
    have hl := mkR_len C k
    by_cases e : i = k
    · subst e
      simp [List.getD, List.getElem?_append_right, hl]
    · have hi : i < k := by omega
      rw [← ih hi]
      simp [List.getD, List.getElem?_append_left, hl, hi]
/-- The state behind k rounds. -/
def stR (C : List (BitVec 8)) (s : St) : Nat → St
  | 0 => s
  | k + 1 => rnd (stR C s k) (KK.getD k 0) (Wd C k)
theorem Wd_lo (C : List (BitVec 8)) (k : Nat) (h : k < 16) : Wd C k = wordOf C k := by unfold Wd numR; rw [if_pos h]
theorem Wd_hi (C : List (BitVec 8)) (k : Nat) (h : 16 ≤ k) : Wd C k = Wd C (k - 16) + sg0 (Wd C (k - 15)) + Wd C (k - 7) + sg1 (Wd C (k - 2)) := by
  conv => lhs; unfold Wd numR
  rw [if_neg (by omega), mkR_get C k _ (by omega), mkR_get C k _ (by omega), mkR_get C k _ (by omega), mkR_get C k _ (by omega)]
def Inv (C : List (BitVec 8)) (k : Nat) (L : List (BitVec 32)) : Prop := L.length = 16 ∧ ∀ i, (i < k ∨ i < 16) → k ≤ i + 16 → L.getD (i % 16) 0 = Wd C i
theorem fil_get (C : List (BitVec 8)) (i : Nat) (h : i < 16) : (fil C 16).getD i 0 = wordOf C i := by simp [fil, List.getD, h]
theorem inv_zero (C : List (BitVec 8)) : Inv C 0 (fil C 16) := ⟨fil_len C 16, fun i hi _ => by
  have h : i < 16 := by omega
  rw [Nat.mod_eq_of_lt h, fil_get C i h, Wd_lo C i h]⟩
theorem inv_nxt (C : List (BitVec 8)) (k : Nat) (L : List (BitVec 32)) (h : Inv C k L) (hk : 16 ≤ k) : nxt L k = Wd C k := by
  have e16 := h.2 (k - 16) (by omega) (by omega)
  have e15 := h.2 (k - 15) (by omega) (by omega)
  have e7 := h.2 (k - 7) (by omega) (by omega)
  have e2 := h.2 (k - 2) (by omega) (by omega)
  rw [show (k - 16) % 16 = k % 16 by omega] at e16
  unfold nxt
  rw [e16, e15, e7, e2, Wd_hi C k hk]
  unfold sg0 sg1
  simp only [trn, List.foldl_cons, List.foldl_nil, zx, BitVec.add_assoc]
theorem inv_num (C : List (BitVec 8)) (k : Nat) (L : List (BitVec 32)) (h : Inv C k L) : numAt L k = Wd C k := by
  unfold numAt
  by_cases hk : k < 16
  · rw [if_pos hk]
    have := h.2 k (by omega) (by omega)
    rwa [Nat.mod_eq_of_lt hk] at this
  · rw [if_neg hk]; exact inv_nxt C k L h (by omega)
theorem inv_step (C : List (BitVec 8)) (k : Nat) (L : List (BitVec 32)) (h : Inv C k L) : Inv C (k + 1) (lastAt L k) := by
  refine ⟨by rw [lastAt_len]; exact h.1, fun i hi hk => ?_⟩
  unfold lastAt
  by_cases hk16 : k < 16
  · rw [if_pos hk16]; exact h.2 i (by omega) (by omega)
  · rw [if_neg hk16]
    by_cases e : i = k
    · subst e
      rw [inv_nxt C i L h (by omega)]
      simp [List.getD, h.1, Nat.mod_lt]
    · rw [← h.2 i (by omega) (by omega)]
      have hne : k % 16 ≠ i % 16 := by omega
      simp [List.getD, List.getElem?_set, hne]
theorem rounds_eq (C : List (BitVec 8)) (s : St) (k : Nat) : Inv C k (rounds (fil C 16) s k).1 ∧ (rounds (fil C 16) s k).2 = stR C s k := by
  induction k with
  | zero => exact ⟨inv_zero C, rfl⟩
  | succ k ih =>
    refine ⟨inv_step C k _ ih.1, ?_⟩
    show rnd (rounds (fil C 16) s k).2 (KK.getD k 0) (numAt (rounds (fil C 16) s k).1 k) = rnd (stR C s k) (KK.getD k 0) (Wd C k)
    rw [ih.2, inv_num C k _ ih.1]
theorem change_eq (C : List (BitVec 8)) (s : St) : change s C = addSt s (stR C s 64) := by
  unfold change; rw [(rounds_eq C s 64).2]
/-- The sum of the disjoint is their or. -/
theorem ch_or (e f g : BitVec 32) : (e &&& f) + (~~~ e &&& g) = e &&& f ||| ~~~ e &&& g := by
  apply BitVec.add_eq_or_of_and_eq_zero
  apply BitVec.eq_of_getLsbD_eq
  intro i hi
  simp only [BitVec.getLsbD_and, BitVec.getLsbD_not, BitVec.getLsbD_zero]
  cases e.getLsbD i <;> simp
theorem maj_or (a b c : BitVec 32) : a &&& b ||| b &&& c ||| c &&& a = a &&& b ||| a &&& c ||| b &&& c := by
  rw [BitVec.and_comm c a, BitVec.or_assoc, BitVec.or_comm (b &&& c), ← BitVec.or_assoc]
theorem trn3 (x : BitVec 32) (p q r : Nat) : trn x [p, q, r] = x.rotateRight p ^^^ x.rotateRight q ^^^ x.rotateRight r := by
  simp only [trn, List.foldl_cons, List.foldl_nil, zx]
theorem U_not (x : BitVec 32) : (4294967295 - U x) % 4294967296 = U (~~~ x) := by
  unfold U; rw [BitVec.toNat_not]; have := x.isLt; omega
/-- The eight letters, a list. -/
def stl (s : St) : List (BitVec 32) := [s.a, s.b, s.c, s.d, s.e, s.f, s.g, s.h]
open Go.RowKit
set_option linter.unusedVariables false
set_option linter.unusedSimpArgs false
theorem vus_len (l : List (BitVec 32)) : (vus l).length = l.length := by simp [vus]
theorem vus_one (l : List (BitVec 32)) : ∀ v ∈ vus l, v.oneCell' = true := by
  intro v hv
  simp only [vus, List.mem_map] at hv
  obtain ⟨x, _, rfl⟩ := hv
  rfl
/-- What is appended: the cells at A, or nothing. -/
def Src47 (w : World) (A : Option Addr) (m : Nat) (news : List Value) : Prop :=
  news.length = m ∧ (0 < m → ∃ ad, A = some ad ∧ ∀ j u, news[j]? = some u → w.cell? (ad.add j) = some u) ∧ (∀ u ∈ news, u.oneCell' = true)
theorem info29 : (Tryd.prog.info? 40).map (fun i => (i.zero, i.size, i.bytes)) = some (some (.int .u32 0), 1, 4) := by kernel_rfl
theorem run_app47 {w : World} {base : Nat} {v : Value} {n : Nat} {xs : List Value} (hown : w.ownsRow base 40 1 v n xs) {A : Option Addr} {m c : Nat} {news : List Value} (hs : Src47 w A m news) (hc : A = none → c = 0) (hb : n + m ≤ 35184372088832) (hbase : base ≤ w.heap.size) :
    ∃ v' w', (Builtin.append_ #[91, 91] 91 #[v, .slice A m c]).run Tryd.prog w = .ok v' w' ∧ w'.ownsRow base 40 1 v' (n + m) (xs ++ news) ∧ w.grownBy w' v.ownBlock := by
  obtain ⟨i0, hi, hz0, hz1, hz2⟩ := info_parts info29
  obtain ⟨h1, h2, h3⟩ := hs
  cases A with
  | some ad =>
    have hnews : ∀ j u, news[j]? = some u → w.cell? (ad.add j) = some u := fun j u hj => by
      have hl := (List.getElem?_eq_some_iff.1 hj).1
      obtain ⟨ad', e, hc⟩ := h2 (by omega)
      cases e
      exact hc j u hj
    obtain ⟨v', w', hr, ho, hg, _⟩ := run_append_own (P := Tryd.prog) w base 91 91 40 i0 (.int .u32 0) 1 4 Tryd.underlying91 hi hz0 hz1 hz2 rfl (by omega) v n xs hown ad m c news (by omega) hnews h3 (by unfold maxLen; omega) (by omega) hbase
    exact ⟨v', w', hr, ho, hg⟩
  | none =>
    have hm : m = 0 := Nat.eq_zero_of_not_pos fun hp => by obtain ⟨ad, e, _⟩ := h2 hp; cases e
    have hc0 := hc rfl
    subst hm hc0
    have : news = [] := List.eq_nil_of_length_eq_zero h1
    subst this
    exact ⟨v, w, run_append_owned_none (P := Tryd.prog) (w := w) base 91 91 40 i0 1 Tryd.underlying91 hi v n xs hown, by simpa using hown, ⟨rfl, rfl, rfl, Nat.le_refl _, fun _ _ _ => rfl⟩⟩
theorem wp_app47 {w : World} {o : Oper} {a : Act} {K : Act → World → Prop} {Q : Exit → Act → World → Prop} (s x : Operand) (ho : o.op = .call { callee := .builtin .append, args := #[s, x], argTypes := #[91, 91] }) (hty : o.type = 91)
    (base : Nat) (v : Value) (n : Nat) (xs : List Value) (hs : a.eval s = v) (hown : w.ownsRow base 40 1 v n xs) (A : Option Addr) (m c : Nat) (news : List Value) (hx : a.eval x = .slice A m c) (hsr : Src47 w A m news) (hc : A = none → c = 0) (hb : n + m ≤ 35184372088832) (hbase : base ≤ w.heap.size)
    (h : ∀ v' w', w'.ownsRow base 40 1 v' (n + m) (xs ++ news) → w.grownBy w' v.ownBlock → K (a.put o.dst v') w') : o.wp Tryd.prog a w K Q := by
  obtain ⟨v', w', hr, h2, h3⟩ := run_app47 hown hsr hc hb hbase
  rw [← hty] at hr
  unfold Oper.wp execOp
  simp only [ho, resolve, invoke, builtin, Sem.run_bind, Sem.run_pure, Result.andThen_ok, List.map_toArray, List.map_cons, List.map_nil, hs, hx]
  rw [hty] at hr ⊢
  simp only [hr]
  exact h v' w' h2 h3
theorem owns_empty47 (w : World) (base : Nat) (hb : base ≤ w.heap.size) : (w.alloc (.cells #[] 40)).ownsRow base 40 1 (.slice (some ⟨w.heap.size, 0, none⟩) 0 0) 0 [] :=
  World.ownsRow_made w #[] 0 hb (by unfold maxLen; omega) rfl
theorem src47_of_blk {w : World} {b T : Nat} {R : List (BitVec 32)} (h : Blk w b T (vus R)) : Src47 w (some ⟨b, 0, none⟩) R.length (vus R) :=
  ⟨vus_len R, fun _ => ⟨⟨b, 0, none⟩, rfl, fun j u hj => by rw [Addr.add_mid, Nat.zero_add]; exact h.cell hj⟩, vus_one R⟩
/-- A row of the call's own, read as bytes. -/
theorem rdu_of_owns {w : World} {base : Nat} {v : Value} {R : List (BitVec 32)} (h : w.ownsRow base 40 1 v R.length (vus R)) : ∃ A cap, v = .slice A R.length cap ∧ RdU w w.heap.size A R ∧ R.length ≤ cap ∧ cap ≤ 9223372036854775807 ∧ (A = none → cap = 0) := by
  rcases h.2 with ⟨rfl, h0⟩ | ⟨g, cap, cur, rfl, hb, hg, hn, hm, hcs, ht⟩
  · exact ⟨none, 0, by rw [h0], fun hp => by omega, by omega, by omega, fun _ => rfl⟩
  · refine ⟨_, cap, rfl, fun hp => ⟨g, 0, rfl, (Array.getElem?_eq_some_iff.1 hg).1, fun j hj => ?_⟩, hn, by unfold maxLen at hm; omega, fun h => by cases h⟩
    have h1 := h.cells (g := g) rfl j (.int .u32 (U (R.getD j 0))) (vus_at hj)
    rwa [Addr.add_mid] at h1
theorem wpList_app47 {w : World} {ops : Array Oper} {rest : List Oper} {o : Oper} {a : Act} {Q : Exit → Act → World → Prop} (hgd : o.guard = none) (s x : Operand) (ho : o.op = .call { callee := .builtin .append, args := #[s, x], argTypes := #[91, 91] }) (hty : o.type = 91)
    (base : Nat) (v : Value) (n : Nat) (xs : List Value) (hs : a.eval s = v) (hown : w.ownsRow base 40 1 v n xs) (A : Option Addr) (m c : Nat) (news : List Value) (hx : a.eval x = .slice A m c) (hsr : Src47 w A m news) (hc : A = none → c = 0) (hb : n + m ≤ 35184372088832) (hbase : base ≤ w.heap.size)
    (h : ∀ v' w', w'.ownsRow base 40 1 v' (n + m) (xs ++ news) → w.grownBy w' v.ownBlock → wpList Tryd.prog ops Q rest (a.put o.dst v') w') : wpList Tryd.prog ops Q (o :: rest) a w :=
  wpList_plain hgd fun _ hK => wp_app47 s x ho hty base v n xs hs hown A m c news hx hsr hc hb hbase fun v' w' h2 h3 => hK _ _ (h v' w' h2 h3)
/-- The call's own row v holds the bytes L. -/
def OU (w : World) (B : Nat) (v : Value) (L : List (BitVec 32)) : Prop := w.ownsRow B 40 1 v L.length (vus L)
theorem OU.nil (w : World) (B : Nat) : OU w B (.slice none 0 0) [] := World.ownsRow_nil w B 40 1
theorem OU.below {w w' : World} {B B' : Nat} {v : Value} {L : List (BitVec 32)} (h : OU w B v L) (hb : Below w.heap.size w w') : OU w' B v L := by
  refine ⟨h.1, ?_⟩
  rcases h.2 with hn | ⟨g, cap, cur, rfl, hbb, hgg, rest⟩
  · exact .inl hn
  · exact .inr ⟨g, cap, cur, rfl, hbb, by rw [hb.block g (Array.getElem?_eq_some_iff.1 hgg).1]; exact hgg, rest⟩
theorem OU.alloc {w : World} {B : Nat} {v : Value} {L : List (BitVec 32)} (h : OU w B v L) (o : Obj) : OU (w.alloc o) B v L := World.ownsRow.alloc h o
theorem OU.drew {w : World} {B : Nat} {v : Value} {L : List (BitVec 32)} (h : OU w B v L) : OU w.drew B v L := h
theorem OU.rd {w : World} {B : Nat} {v : Value} {L : List (BitVec 32)} (h : OU w B v L) : ∃ A cap, v = .slice A L.length cap ∧ RdU w w.heap.size A L ∧ L.length ≤ cap ∧ cap ≤ 9223372036854775807 ∧ (A = none → cap = 0) := rdu_of_owns h
/-- Behind an append. -/
theorem OU.app {w0 w w' : World} {B B' : Nat} {v v' : Value} {L M : List (BitVec 32)} (h : OU w B v L) (hb : Below B' w0 w) (hB : B ≤ w.heap.size) (hBB : B' ≤ B) (h2 : w'.ownsRow B 40 1 v' (L.length + M.length) (vus L ++ vus M)) (h3 : w.grownBy w' v.ownBlock) : OU w' B v' (L ++ M) ∧ Below B' w0 w' := by
  refine ⟨?_, hb.grown h3 (Nat.le_trans hBB hB) (fun k hk => Nat.le_trans hBB (World.ownsRow.lt h k hk).1)⟩
  unfold OU
  rw [List.length_append, show vus (L ++ M) = vus L ++ vus M by simp [vus]]
  exact h2
theorem wpList_push47 {w : World} {ops : Array Oper} {rest : List Oper} {o : Oper} {a : Act} {Q : Exit → Act → World → Prop} (hgd : o.guard = none) (s x : Operand) (ho : o.op = .call { callee := .builtin .append, args := #[s, x], argTypes := #[91, 91] }) (hty : o.type = 91)
    (B : Nat) (v : Value) (L M : List (BitVec 32)) (hs : a.eval s = v) (hown : OU w B v L) (A : Option Addr) (m c : Nat) (hx : a.eval x = .slice A m c) (hm : m = M.length) (hsr : Src47 w A M.length (vus M)) (hc : A = none → c = 0) (hb : L.length + M.length ≤ 35184372088832) {w0 : World} {B' : Nat} (hbel : Below B' w0 w) (hB : B ≤ w.heap.size) (hBB : B' ≤ B)
    (h : ∀ v' w', OU w' B v' (L ++ M) → Below B' w0 w' → Below B w w' → wpList Tryd.prog ops Q rest (a.put o.dst v') w') : wpList Tryd.prog ops Q (o :: rest) a w := by
  subst hm
  exact wpList_app47 hgd s x ho hty B v L.length (vus L) hs hown A M.length c (vus M) hx hsr hc hb hB fun v' w' h2 h3 => by
    have hA := OU.app hown hbel hB hBB h2 h3
    exact h v' w' hA.1 hA.2 ((Below.refl B w).grown h3 hB (fun k hk => (World.ownsRow.lt hown k hk).1))
theorem one_len47 (x : BitVec 32) : 1 = [x].length := rfl
theorem src47_one (w : World) (x : BitVec 32) : Src47 (w.alloc (.cells #[.int .u32 (U x)] 40)) (some ⟨w.heap.size, 0, none⟩) 1 (vus [x]) :=
  src47_of_blk (Blk.new w 40 #[.int .u32 (U x)])
theorem src47_of_rd {w : World} {B : Nat} {A : Option Addr} {M : List (BitVec 32)} (h : RdU w B A M) : Src47 w A M.length (vus M) :=
  ⟨vus_len M, fun hp => by
    obtain ⟨b, o, e, hlt, hc⟩ := h hp
    refine ⟨⟨b, o, none⟩, e, fun j u hj => ?_⟩
    have hl := (List.getElem?_eq_some_iff.1 hj).1
    rw [vus_len] at hl
    rw [vus_at hl] at hj
    rw [Addr.add_mid, hc j hl]; exact hj, vus_one M⟩
end Go.Proofs.YtihbmahjdmfjpaaDoor
