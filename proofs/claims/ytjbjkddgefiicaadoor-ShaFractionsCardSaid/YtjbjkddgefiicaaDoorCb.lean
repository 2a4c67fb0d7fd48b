/- What the document's own Number returns: the n-th number of a chunk, by those that stand ahead. -/
import Derived.Test.YtjbjkddgefiicaaDoorCa
import Derived.Test.YtjbjkddgefiicaaDoorG
namespace Go.Proofs.YtjbjkddgefiicaaDoor
open Go.RowKit
set_option linter.unusedVariables false
set_option linter.unusedSimpArgs false
/-- The slice with address A reads as the numbers M, and lies below block B. -/
def RdU (w : World) (B : Nat) (A : Option Addr) (M : List (BitVec 32)) : Prop :=
  0 < M.length → ∃ b o, A = some ⟨b, o, none⟩ ∧ b < B ∧ ∀ j, j < M.length → w.cell? ⟨b, o + j, none⟩ = some (.int .u32 (U (M.getD j 0)))
theorem RdU.keep {w w' : World} {B B' : Nat} {A : Option Addr} {M : List (BitVec 32)} (h : RdU w B A M) (hb : Below B' w w') (hB : B ≤ B') : RdU w' B A M := fun hp => by
  obtain ⟨b, o, e, hlt, hc⟩ := h hp
  exact ⟨b, o, e, hlt, fun j hj => by rw [hb.cell (p := ⟨b, o + j, none⟩) (Nat.lt_of_lt_of_le hlt hB)]; exact hc j hj⟩
theorem RdU.up {w : World} {B B' : Nat} {A : Option Addr} {M : List (BitVec 32)} (h : RdU w B A M) (hB : B ≤ B') : RdU w B' A M := fun hp => by
  obtain ⟨b, o, e, hlt, hc⟩ := h hp
  exact ⟨b, o, e, Nat.lt_of_lt_of_le hlt hB, hc⟩
def accW (C : List (BitVec 8)) (k : Nat) : Nat → BitVec 32
  | 0 => 0
  | j + 1 => accW C k j * 256 + (C.getD (4 * k + j) 0).setWidth 32
theorem num4_nat (a b c d : BitVec 8) : (num4 a b c d).toNat = a.toNat * 16777216 + b.toNat * 65536 + c.toNat * 256 + d.toNat := by
  have ha := a.isLt; have hb := b.isLt; have hc := c.isLt; have hd := d.isLt
  unfold num4
  simp only [BitVec.toNat_or, BitVec.toNat_shiftLeft, BitVec.toNat_setWidth, Nat.shiftLeft_eq]
  have e1 : a.toNat % 2 ^ 32 * 2 ^ 24 % 2 ^ 32 = 2 ^ 24 * a.toNat := by rw [Nat.mod_eq_of_lt (show a.toNat < 2 ^ 32 by omega), Nat.mod_eq_of_lt (by omega), Nat.mul_comm]
  have e2 : b.toNat % 2 ^ 32 * 2 ^ 16 % 2 ^ 32 = 2 ^ 16 * b.toNat := by rw [Nat.mod_eq_of_lt (show b.toNat < 2 ^ 32 by omega), Nat.mod_eq_of_lt (by omega), Nat.mul_comm]
  have e3 : c.toNat % 2 ^ 32 * 2 ^ 8 % 2 ^ 32 = 2 ^ 8 * c.toNat := by rw [Nat.mod_eq_of_lt (show c.toNat < 2 ^ 32 by omega), Nat.mod_eq_of_lt (by omega), Nat.mul_comm]
  have e4 : d.toNat % 2 ^ 32 = d.toNat := by omega
  have o1 : 2 ^ 24 * a.toNat ||| 2 ^ 16 * b.toNat = 2 ^ 16 * (256 * a.toNat + b.toNat) := by
    rw [← Nat.two_pow_add_eq_or_of_lt (show 2 ^ 16 * b.toNat < 2 ^ 24 by omega)]; omega
  have o2 : 2 ^ 16 * (256 * a.toNat + b.toNat) ||| 2 ^ 8 * c.toNat = 2 ^ 8 * (65536 * a.toNat + 256 * b.toNat + c.toNat) := by
    rw [← Nat.two_pow_add_eq_or_of_lt (show 2 ^ 8 * c.toNat < 2 ^ 16 by omega)]; omega
  have o3 : 2 ^ 8 * (65536 * a.toNat + 256 * b.toNat + c.toNat) ||| d.toNat = 2 ^ 8 * (65536 * a.toNat + 256 * b.toNat + c.toNat) + d.toNat := by
    rw [← Nat.two_pow_add_eq_or_of_lt (show d.toNat < 2 ^ 8 by omega)]
  rw [e1, e2, e3, e4, o1, o2, o3]
  omega
theorem accW_4 (C : List (BitVec 8)) (k : Nat) : accW C k 4 = wordOf C k := by
  apply BitVec.eq_of_toNat_eq
  unfold wordOf
  rw [num4_nat]
  have h : ∀ j, (C.getD j 0).toNat < 256 := fun j => (C.getD j 0).isLt
  have h0 := h (4 * k); have h1 := h (4 * k + 1); have h2 := h (4 * k + 2); have h3 := h (4 * k + 3)
  have z0 : (0 : BitVec 32).toNat = 0 := rfl
  have z256 : (256 : BitVec 32).toNat = 256 := rfl
  simp only [accW, z0, z256, BitVec.toNat_add, BitVec.toNat_mul, BitVec.toNat_setWidth, BitVec.toNat_ofNat, Nat.add_zero]
  omega
def sg0 (x : BitVec 32) : BitVec 32 := x.rotateRight 7 ^^^ x.rotateRight 18 ^^^ x >>> 3
def sg1 (x : BitVec 32) : BitVec 32 := x.rotateRight 17 ^^^ x.rotateRight 19 ^^^ x >>> 10
def numR (C : List (BitVec 8)) (M : List (BitVec 32)) (k : Nat) : BitVec 32 :=
  if k < 16 then wordOf C k else M.getD (k - 16) 0 + sg0 (M.getD (k - 15) 0) + M.getD (k - 7) 0 + sg1 (M.getD (k - 2) 0)
set_option maxRecDepth 100000 in
set_option maxHeartbeats 2000000 in
theorem rnumber_lo (C : List (BitVec 8)) (A : Option Addr) (n c : Nat) (v : Value) (k : Nat) (w : World) (hC : 64 ≤ C.length) (hn : n = C.length) (hR : Rd w w.heap.size A C) (hk : k < 16) :
    Calls Tryd.prog 35 #[.slice A n c, v, .int .i64 k] w fun e w' => e = .returned (.int .u32 (U (wordOf C k))) ∧ w = w' := by
  obtain ⟨b, o, rfl, hlt, hc⟩ := hR (by omega)
  have k1 : (k : Int) < 16 := by omega
  have hm : ∀ x : BitVec 32, U x * (256 : Int) % 4294967296 = U (x * 256) := fun x => by unfold U; rw [BitVec.toNat_mul]; simp
  have cv : ∀ x : BitVec 8, IntKind.u32.wrap (Bt x) = U (x.setWidth 32) := fun x => by rw [IntKind.wrap_u32', Int.emod_eq_of_lt (Bt_lo x) (by have := Bt_hi x; omega), Bt_U]
  have cv' : ∀ x : BitVec 8, Bt x % (4294967296 : Int) = U (x.setWidth 32) := fun x => by rw [Int.emod_eq_of_lt (Bt_lo x) (by have := Bt_hi x; omega), Bt_U]
  have ha : ∀ x y : BitVec 32, (U x + U y) % (4294967296 : Int) = U (x + y) := U_add
  have HC := Lib.hid hc
  have k4 : IntKind.i64.wrap (4 * (k : Int)) = 4 * (k : Int) := IntWalk.i64_in _ (by omega)
  clear hc
  go_enter Tryd.func35, Tryd.ntmps35
  go_wp2
  go_loop [7, 8] (fun v i => ∃ j : Nat, j ≤ 4 ∧ i = .int .i64 j ∧ v = .int .u32 (U (accW C k j))) (fun _ i => 4 - (intOf i).toNat)
  case atStart => exact ⟨0, Nat.zero_le _, rfl, rfl⟩
  case round =>
    obtain ⟨j, hj, rfl, rfl⟩ := hrel
    by_cases hlt4 : j < 4
    · have j1 : (j : Int) < 4 := by omega
      have k5 : IntKind.i64.wrap (4 * (k : Int) + (j : Int)) = 4 * (k : Int) + (j : Int) := IntWalk.i64_in _ (by omega)
      have c0 := HC.out (4 * k + j) (by omega)
      have k6 : (0 : Int) ≤ 4 * (k : Int) + (j : Int) := by omega
      have k7 : 4 * (k : Int) + (j : Int) < (n : Int) := by omega
      have k8 : (4 * (k : Int) + (j : Int)).toNat = 4 * k + j := by omega
      go_wp2
      go_round
      case rel => exact ⟨j + 1, by omega, by simp, rfl⟩
      case measure => simp [intOf]; omega
    · obtain rfl : j = 4 := by omega
      have e := accW_4 C k
      rw [e]
      go_wp2
      go_ret
      exact ⟨rfl, rfl⟩
theorem three_q (x y z : BitVec 32) (w : World) :
    Calls Tryd.prog 36 #[.int .u32 (U x), .int .u32 (U y), .int .u32 (U z)] w fun e w' => e = .returned (.int .u32 (U (x ^^^ y ^^^ z))) ∧ w' = w := (three_any x y z w).mono fun _ _ h => ⟨h.1, h.2.symm⟩
set_option maxRecDepth 100000 in
set_option maxHeartbeats 4000000 in
theorem rnumber_hi (M : List (BitVec 32)) (A : Option Addr) (n c : Nat) (v : Value) (k : Nat) (w : World) (hn : n = M.length) (hR : RdU w w.heap.size A M) (hk : 16 ≤ k) (hk2 : k ≤ M.length) (hk3 : k < 1000) :
    Calls Tryd.prog 35 #[v, .slice A n c, .int .i64 k] w fun e w' => e = .returned (.int .u32 (U (M.getD (k - 16) 0 + sg0 (M.getD (k - 15) 0) + M.getD (k - 7) 0 + sg1 (M.getD (k - 2) 0)))) ∧ ∃ q, w' = w.drewN q := by
  obtain ⟨b, o, rfl, hlt, hc⟩ := hR (by omega)
  have k1 : ¬ (k : Int) < 16 := by omega
  have ha : ∀ x y : BitVec 32, (U x + U y) % (4294967296 : Int) = U (x + y) := U_add
  have w16 : IntKind.i64.wrap ((k : Int) - 16) = ((k - 16 : Nat) : Int) := by rw [IntWalk.i64_in _ (by omega)]; omega
  have w15 : IntKind.i64.wrap ((k : Int) - 15) = ((k - 15 : Nat) : Int) := by rw [IntWalk.i64_in _ (by omega)]; omega
  have w7 : IntKind.i64.wrap ((k : Int) - 7) = ((k - 7 : Nat) : Int) := by rw [IntWalk.i64_in _ (by omega)]; omega
  have w2 : IntKind.i64.wrap ((k : Int) - 2) = ((k - 2 : Nat) : Int) := by rw [IntWalk.i64_in _ (by omega)]; omega
  have c16 := hc (k - 16) (by omega)
  have c15 := hc (k - 15) (by omega)
  have c7 := hc (k - 7) (by omega)
  have c2 := hc (k - 2) (by omega)
  have n16 : k - 16 < M.length := by omega
  have n15 : k - 15 < M.length := by omega
  have n7 : k - 7 < M.length := by omega
  have n2 : k - 2 < M.length := by omega
  have l16 : (((k - 16 : Nat) : Int) < (n : Int)) := by omega
  have l15 : (((k - 15 : Nat) : Int) < (n : Int)) := by omega
  have l7 : (((k - 7 : Nat) : Int) < (n : Int)) := by omega
  have l2 : (((k - 2 : Nat) : Int) < (n : Int)) := by omega
  generalize hq16 : M.getD (k - 16) 0 = m16 at c16 ⊢
  generalize hq15 : M.getD (k - 15) 0 = m15 at c15 ⊢
  generalize hq7 : M.getD (k - 7) 0 = m7 at c7 ⊢
  generalize hq2 : M.getD (k - 2) 0 = m2 at c2 ⊢
  clear hq16 hq15 hq7 hq2 hc hR
  generalize k - 16 = i16 at *
  generalize k - 15 = i15 at *
  generalize k - 7 = i7 at *
  generalize k - 2 = i2 at *
  have r7 : ∀ (x : BitVec 32) wq, Calls Tryd.prog 37 #[.int .u32 (U x), .int .i64 7] wq fun e w' => e = .returned (.int .u32 (U (x.rotateRight 7))) ∧ w' = wq := fun x wq => (right_any x 7 (by omega) wq).mono fun _ _ h => ⟨h.1, h.2.symm⟩
  have r18 : ∀ (x : BitVec 32) wq, Calls Tryd.prog 37 #[.int .u32 (U x), .int .i64 18] wq fun e w' => e = .returned (.int .u32 (U (x.rotateRight 18))) ∧ w' = wq := fun x wq => (right_any x 18 (by omega) wq).mono fun _ _ h => ⟨h.1, h.2.symm⟩
  have r17 : ∀ (x : BitVec 32) wq, Calls Tryd.prog 37 #[.int .u32 (U x), .int .i64 17] wq fun e w' => e = .returned (.int .u32 (U (x.rotateRight 17))) ∧ w' = wq := fun x wq => (right_any x 17 (by omega) wq).mono fun _ _ h => ⟨h.1, h.2.symm⟩
  have r19 : ∀ (x : BitVec 32) wq, Calls Tryd.prog 37 #[.int .u32 (U x), .int .i64 19] wq fun e w' => e = .returned (.int .u32 (U (x.rotateRight 19))) ∧ w' = wq := fun x wq => (right_any x 19 (by omega) wq).mono fun _ _ h => ⟨h.1, h.2.symm⟩
  have h3 : ∀ (x : BitVec 32) wq, Calls Tryd.prog 43 #[.int .u32 (U x), .int .i64 3] wq fun e w' => e = .returned (.int .u32 (U (x >>> 3))) ∧ w' = wq := fun x wq => (shift_any x 3 (by omega) wq).mono fun _ _ h => ⟨h.1, h.2.symm⟩
  have h10 : ∀ (x : BitVec 32) wq, Calls Tryd.prog 43 #[.int .u32 (U x), .int .i64 10] wq fun e w' => e = .returned (.int .u32 (U (x >>> 10))) ∧ w' = wq := fun x wq => (shift_any x 10 (by omega) wq).mono fun _ _ h => ⟨h.1, h.2.symm⟩
  go_enter Tryd.func35, Tryd.ntmps35
  go_wp2_with fail
  have hw : ∃ q, w.drew = w.drewN q := ⟨1, rfl⟩
  refine wp_calm ?_
  refine wp_region_but (z := 27) (fun w' : World => w'.cell? ⟨b, o + i16, none⟩ = some (.int .u32 (U m16)) ∧ w'.cell? ⟨b, o + i7, none⟩ = some (.int .u32 (U m7))) (by kernel_rfl) ?_
  have hS : (fun w' : World => w'.cell? ⟨b, o + i16, none⟩ = some (.int .u32 (U m16)) ∧ w'.cell? ⟨b, o + i7, none⟩ = some (.int .u32 (U m7))) w.drew := ⟨c16, c7⟩
  generalize w.drew = wd at hS hw ⊢
  refine AnyBut.take (i := 0) (v := ?_) rfl (by kernel_rfl) (by kernel_rfl) (by kernel_rfl) (by kernel_rfl) (fun _ _ _ h => h) (Or.inl ⟨by rfl, ?_⟩) hS ?_
  rotate_left
  · (intro wq hq; go_simp; try with_reducible rfl)
  try simp only [Act.put, List.setIfInBounds_toArray, List.set_cons_zero, List.set_cons_succ, List.getElem_toArray, List.getElem_cons_zero, List.getElem_cons_succ]
  refine AnyBut.take (i := 1) (v := ?_) rfl (by kernel_rfl) (by kernel_rfl) (by kernel_rfl) (by kernel_rfl) (fun _ _ _ h => h) (Or.inl ⟨by rfl, ?_⟩) hS ?_
  rotate_left
  · (intro wq hq; go_simp; try with_reducible rfl)
  try simp only [Act.put, List.setIfInBounds_toArray, List.set_cons_zero, List.set_cons_succ, List.getElem_toArray, List.getElem_cons_zero, List.getElem_cons_succ]
  refine AnyBut.take (i := 2) (v := ?_) rfl (by kernel_rfl) (by kernel_rfl) (by kernel_rfl) (by kernel_rfl) (fun _ _ _ h => h) (Or.inl ⟨by rfl, ?_⟩) hS ?_
  rotate_left
  · (intro wq hq; go_simp; try with_reducible rfl)
  try simp only [Act.put, List.setIfInBounds_toArray, List.set_cons_zero, List.set_cons_succ, List.getElem_toArray, List.getElem_cons_zero, List.getElem_cons_succ]
  refine AnyBut.take (i := 3) (v := ?_) rfl (by kernel_rfl) (by kernel_rfl) (by kernel_rfl) (by kernel_rfl) (fun _ _ _ h => h) (Or.inl ⟨by rfl, ?_⟩) hS ?_
  rotate_left
  · (intro wq hq; go_simp; try with_reducible rfl)
  try simp only [Act.put, List.setIfInBounds_toArray, List.set_cons_zero, List.set_cons_succ, List.getElem_toArray, List.getElem_cons_zero, List.getElem_cons_succ]
  refine AnyBut.take (i := 4) (v := ?_) rfl (by kernel_rfl) (by kernel_rfl) (by kernel_rfl) (by kernel_rfl) (fun _ _ _ h => h) (Or.inl ⟨by rfl, ?_⟩) hS ?_
  rotate_left
  · (intro wq hq; obtain ⟨hq1, hq2⟩ := hq; go_simp; try with_reducible rfl)
  try simp only [Act.put, List.setIfInBounds_toArray, List.set_cons_zero, List.set_cons_succ, List.getElem_toArray, List.getElem_cons_zero, List.getElem_cons_succ]
  refine AnyBut.take (i := 5) (v := ?_) rfl (by kernel_rfl) (by kernel_rfl) (by kernel_rfl) (by kernel_rfl) (fun _ _ _ h => h) (Or.inl ⟨by rfl, ?_⟩) hS ?_
  rotate_left
  · (intro wq hq; go_simp; try with_reducible rfl)
  try simp only [Act.put, List.setIfInBounds_toArray, List.set_cons_zero, List.set_cons_succ, List.getElem_toArray, List.getElem_cons_zero, List.getElem_cons_succ]
  refine AnyBut.take (i := 7) (v := ?_) rfl (by kernel_rfl) (by kernel_rfl) (by kernel_rfl) (by kernel_rfl) (fun _ _ _ h => h) (Or.inl ⟨by rfl, ?_⟩) hS ?_
  rotate_left
  · (intro wq hq; go_simp; try with_reducible rfl)
  try simp only [Act.put, List.setIfInBounds_toArray, List.set_cons_zero, List.set_cons_succ, List.getElem_toArray, List.getElem_cons_zero, List.getElem_cons_succ]
  refine AnyBut.take (i := 9) (v := ?_) rfl (by kernel_rfl) (by kernel_rfl) (by kernel_rfl) (by kernel_rfl) (fun _ _ _ h => h) (Or.inl ⟨by rfl, ?_⟩) hS ?_
  rotate_left
  · (intro wq hq; go_simp; try with_reducible rfl)
  try simp only [Act.put, List.setIfInBounds_toArray, List.set_cons_zero, List.set_cons_succ, List.getElem_toArray, List.getElem_cons_zero, List.getElem_cons_succ]
  refine AnyBut.take (i := 13) (v := ?_) rfl (by kernel_rfl) (by kernel_rfl) (by kernel_rfl) (by kernel_rfl) (fun _ _ _ h => h) (Or.inl ⟨by rfl, ?_⟩) hS ?_
  rotate_left
  · (intro wq hq; go_simp; try with_reducible rfl)
  try simp only [Act.put, List.setIfInBounds_toArray, List.set_cons_zero, List.set_cons_succ, List.getElem_toArray, List.getElem_cons_zero, List.getElem_cons_succ]
  refine AnyBut.take (i := 14) (v := ?_) rfl (by kernel_rfl) (by kernel_rfl) (by kernel_rfl) (by kernel_rfl) (fun _ _ _ h => h) (Or.inl ⟨by rfl, ?_⟩) hS ?_
  rotate_left
  · (intro wq hq; go_simp; try with_reducible rfl)
  try simp only [Act.put, List.setIfInBounds_toArray, List.set_cons_zero, List.set_cons_succ, List.getElem_toArray, List.getElem_cons_zero, List.getElem_cons_succ]
  refine AnyBut.take (i := 15) (v := ?_) rfl (by kernel_rfl) (by kernel_rfl) (by kernel_rfl) (by kernel_rfl) (fun _ _ _ h => h) (Or.inl ⟨by rfl, ?_⟩) hS ?_
  rotate_left
  · (intro wq hq; go_simp; try with_reducible rfl)
  try simp only [Act.put, List.setIfInBounds_toArray, List.set_cons_zero, List.set_cons_succ, List.getElem_toArray, List.getElem_cons_zero, List.getElem_cons_succ]
  refine AnyBut.take (i := 16) (v := ?_) rfl (by kernel_rfl) (by kernel_rfl) (by kernel_rfl) (by kernel_rfl) (fun _ _ _ h => h) (Or.inl ⟨by rfl, ?_⟩) hS ?_
  rotate_left
  · (intro wq hq; go_simp; try with_reducible rfl)
  try simp only [Act.put, List.setIfInBounds_toArray, List.set_cons_zero, List.set_cons_succ, List.getElem_toArray, List.getElem_cons_zero, List.getElem_cons_succ]
  refine AnyBut.take (i := 17) (v := ?_) rfl (by kernel_rfl) (by kernel_rfl) (by kernel_rfl) (by kernel_rfl) (fun _ _ _ h => h) (Or.inl ⟨by rfl, ?_⟩) hS ?_
  rotate_left
  · (intro wq hq; obtain ⟨hq1, hq2⟩ := hq; go_simp; try with_reducible rfl)
  try simp only [Act.put, List.setIfInBounds_toArray, List.set_cons_zero, List.set_cons_succ, List.getElem_toArray, List.getElem_cons_zero, List.getElem_cons_succ]
  refine AnyBut.take (i := 19) (v := ?_) rfl (by kernel_rfl) (by kernel_rfl) (by kernel_rfl) (by kernel_rfl) (fun _ _ _ h => h) (Or.inl ⟨by rfl, ?_⟩) hS ?_
  rotate_left
  · (intro wq hq; go_simp; try with_reducible rfl)
  try simp only [Act.put, List.setIfInBounds_toArray, List.set_cons_zero, List.set_cons_succ, List.getElem_toArray, List.getElem_cons_zero, List.getElem_cons_succ]
  refine AnyBut.take (i := 21) (v := ?_) rfl (by kernel_rfl) (by kernel_rfl) (by kernel_rfl) (by kernel_rfl) (fun _ _ _ h => h) (Or.inl ⟨by rfl, ?_⟩) hS ?_
  rotate_left
  · (intro wq hq; go_simp; try with_reducible rfl)
  try simp only [Act.put, List.setIfInBounds_toArray, List.set_cons_zero, List.set_cons_succ, List.getElem_toArray, List.getElem_cons_zero, List.getElem_cons_succ]
  refine AnyBut.take (i := 23) (v := ?_) rfl (by kernel_rfl) (by kernel_rfl) (by kernel_rfl) (by kernel_rfl) (fun _ _ _ h => h) (Or.inl ⟨by rfl, ?_⟩) hS ?_
  rotate_left
  · (intro wq hq; go_simp; try with_reducible rfl)
  try simp only [Act.put, List.setIfInBounds_toArray, List.set_cons_zero, List.set_cons_succ, List.getElem_toArray, List.getElem_cons_zero, List.getElem_cons_succ]
  refine AnyBut.gone (i := 6) (by kernel_rfl) rfl (by rfl) (fun K hK => ?_)
  go_simp
  (with_reducible refine (r7 _ _).mono ?_)
  rintro e wz ⟨rfl, rfl⟩
  dsimp only
  refine hK _ _ (fun _ => hS) ?_
  clear hK K
  try simp only [Act.put, List.setIfInBounds_toArray, List.set_cons_zero, List.set_cons_succ, List.getElem_toArray, List.getElem_cons_zero, List.getElem_cons_succ]
  refine AnyBut.gone (i := 8) (by kernel_rfl) rfl (by rfl) (fun K hK => ?_)
  go_simp
  (with_reducible refine (r18 _ _).mono ?_)
  rintro e wz ⟨rfl, rfl⟩
  dsimp only
  refine hK _ _ (fun _ => hS) ?_
  clear hK K
  try simp only [Act.put, List.setIfInBounds_toArray, List.set_cons_zero, List.set_cons_succ, List.getElem_toArray, List.getElem_cons_zero, List.getElem_cons_succ]
  refine AnyBut.gone (i := 10) (by kernel_rfl) rfl (by rfl) (fun K hK => ?_)
  go_simp
  (with_reducible refine (h3 _ _).mono ?_)
  rintro e wz ⟨rfl, rfl⟩
  dsimp only
  refine hK _ _ (fun _ => hS) ?_
  clear hK K
  try simp only [Act.put, List.setIfInBounds_toArray, List.set_cons_zero, List.set_cons_succ, List.getElem_toArray, List.getElem_cons_zero, List.getElem_cons_succ]
  refine AnyBut.gone (i := 11) (by kernel_rfl) rfl (by rfl) (fun K hK => ?_)
  go_simp
  (with_reducible refine (three_q _ _ _ _).mono ?_)
  rintro e wz ⟨rfl, rfl⟩
  dsimp only
  refine hK _ _ (fun _ => hS) ?_
  clear hK K
  try simp only [Act.put, List.setIfInBounds_toArray, List.set_cons_zero, List.set_cons_succ, List.getElem_toArray, List.getElem_cons_zero, List.getElem_cons_succ]
  refine AnyBut.take (i := 12) (v := ?_) rfl (by kernel_rfl) (by kernel_rfl) (by kernel_rfl) (by kernel_rfl) (fun _ _ _ h => h) (Or.inl ⟨by rfl, ?_⟩) hS ?_
  rotate_left
  · (intro wq hq; go_simp; try with_reducible rfl)
  try simp only [Act.put, List.setIfInBounds_toArray, List.set_cons_zero, List.set_cons_succ, List.getElem_toArray, List.getElem_cons_zero, List.getElem_cons_succ]
  refine AnyBut.take (i := 18) (v := ?_) rfl (by kernel_rfl) (by kernel_rfl) (by kernel_rfl) (by kernel_rfl) (fun _ _ _ h => h) (Or.inl ⟨by rfl, ?_⟩) hS ?_
  rotate_left
  · (intro wq hq; go_simp; try with_reducible rfl)
  try simp only [Act.put, List.setIfInBounds_toArray, List.set_cons_zero, List.set_cons_succ, List.getElem_toArray, List.getElem_cons_zero, List.getElem_cons_succ]
  refine AnyBut.gone (i := 20) (by kernel_rfl) rfl (by rfl) (fun K hK => ?_)
  go_simp
  (with_reducible refine (r17 _ _).mono ?_)
  rintro e wz ⟨rfl, rfl⟩
  dsimp only
  refine hK _ _ (fun _ => hS) ?_
  clear hK K
  try simp only [Act.put, List.setIfInBounds_toArray, List.set_cons_zero, List.set_cons_succ, List.getElem_toArray, List.getElem_cons_zero, List.getElem_cons_succ]
  refine AnyBut.gone (i := 22) (by kernel_rfl) rfl (by rfl) (fun K hK => ?_)
  go_simp
  (with_reducible refine (r19 _ _).mono ?_)
  rintro e wz ⟨rfl, rfl⟩
  dsimp only
  refine hK _ _ (fun _ => hS) ?_
  clear hK K
  try simp only [Act.put, List.setIfInBounds_toArray, List.set_cons_zero, List.set_cons_succ, List.getElem_toArray, List.getElem_cons_zero, List.getElem_cons_succ]
  refine AnyBut.gone (i := 24) (by kernel_rfl) rfl (by rfl) (fun K hK => ?_)
  go_simp
  (with_reducible refine (h10 _ _).mono ?_)
  rintro e wz ⟨rfl, rfl⟩
  dsimp only
  refine hK _ _ (fun _ => hS) ?_
  clear hK K
  try simp only [Act.put, List.setIfInBounds_toArray, List.set_cons_zero, List.set_cons_succ, List.getElem_toArray, List.getElem_cons_zero, List.getElem_cons_succ]
  refine AnyBut.gone (i := 25) (by kernel_rfl) rfl (by rfl) (fun K hK => ?_)
  go_simp
  (with_reducible refine (three_q _ _ _ _).mono ?_)
  rintro e wz ⟨rfl, rfl⟩
  dsimp only
  refine hK _ _ (fun _ => hS) ?_
  clear hK K
  try simp only [Act.put, List.setIfInBounds_toArray, List.set_cons_zero, List.set_cons_succ, List.getElem_toArray, List.getElem_cons_zero, List.getElem_cons_succ]
  refine AnyBut.take (i := 26) (v := ?_) rfl (by kernel_rfl) (by kernel_rfl) (by kernel_rfl) (by kernel_rfl) (fun _ _ _ h => h) (Or.inl ⟨by rfl, ?_⟩) hS ?_
  rotate_left
  · (intro wq hq; go_simp; try with_reducible rfl)
  try simp only [Act.put, List.setIfInBounds_toArray, List.set_cons_zero, List.set_cons_succ, List.getElem_toArray, List.getElem_cons_zero, List.getElem_cons_succ]
  refine AnyBut.gone (i := 27) (by kernel_rfl) rfl (by rfl) (fun K hK => ?_)
  go_simp
  refine hK _ _ (fun h => absurd rfl h) ?_
  clear hK K
  refine AnyBut.done (by kernel_rfl) ?_ _
  dsimp only [Exit.then]
  go_wp2_with fail
  go_ret
  exact ⟨rfl, hw⟩
end Go.Proofs.YtjbjkddgefiicaaDoor
