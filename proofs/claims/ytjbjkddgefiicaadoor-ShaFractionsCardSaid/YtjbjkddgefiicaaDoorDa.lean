/- Numbers by their decimal digits: own rows of ints; what the document's own told and digit return. -/
import Derived.Test.YtjbjkddgefiicaaDoorCd
namespace Go.Proofs.YtjbjkddgefiicaaDoor
open Go.RowKit
set_option linter.unusedVariables false
set_option linter.unusedSimpArgs false
def vns (l : List Nat) : List Value := l.map fun (x : Nat) => Value.int .i64 ((x : Nat) : Int)
theorem vns_at {l : List Nat} {j : Nat} (h : j < l.length) : (vns l)[j]? = some (.int .i64 ((l.getD j 0 : Nat) : Int)) := by
  unfold vns; simp [h]
theorem vns_len (l : List Nat) : (vns l).length = l.length := by simp [vns]
theorem vns_set (l : List Nat) (j : Nat) (x : Nat) : (vns l).set j (.int .i64 (x : Int)) = vns (l.set j x) := by
  unfold vns; rw [List.map_set]
theorem vns_one (l : List Nat) : ∀ v ∈ vns l, v.oneCell' = true := by
  intro v hv
  simp only [vns, List.mem_map] at hv
  obtain ⟨x, _, rfl⟩ := hv
  rfl
/-- The slice with address A reads as the digits M, and lies below block B. -/
def RdN (w : World) (B : Nat) (A : Option Addr) (M : List Nat) : Prop :=
  0 < M.length → ∃ b o, A = some ⟨b, o, none⟩ ∧ b < B ∧ ∀ j, j < M.length → w.cell? ⟨b, o + j, none⟩ = some (.int .i64 ((M.getD j 0 : Nat) : Int))
theorem RdN.keep {w w' : World} {B B' : Nat} {A : Option Addr} {M : List Nat} (h : RdN w B A M) (hb : Below B' w w') (hB : B ≤ B') : RdN w' B A M := fun hp => by
  obtain ⟨b, o, e, hlt, hc⟩ := h hp
  exact ⟨b, o, e, hlt, fun j hj => by rw [hb.cell (p := ⟨b, o + j, none⟩) (Nat.lt_of_lt_of_le hlt hB)]; exact hc j hj⟩
theorem RdN.up {w w' : World} {B : Nat} {A : Option Addr} {M : List Nat} (h : RdN w B A M) (hb : Below B w w') (hB : B ≤ w'.heap.size) : RdN w' w'.heap.size A M := fun hp => by
  obtain ⟨b, o, e, hlt, hc⟩ := (h.keep hb (Nat.le_refl _)) hp
  exact ⟨b, o, e, Nat.lt_of_lt_of_le hlt hB, hc⟩
/-- The value of digits, the least first. -/
def val : List Nat → Nat
  | [] => 0
  | d :: l => d + 10 * val l
theorem val_app (a b : List Nat) : val (a ++ b) = val a + 10 ^ a.length * val b := by
  induction a with
  | nil => simp [val]
  | cons d a ih =>
    show d + 10 * val (a ++ b) = d + 10 * val a + 10 ^ (a.length + 1) * val b
    rw [ih, Nat.pow_succ, Nat.mul_add, Nat.add_assoc, ← Nat.mul_assoc, Nat.mul_comm 10 (10 ^ a.length)]
/-- All digits lie below ten. -/
def Dig (l : List Nat) : Prop := ∀ d ∈ l, d < 10
/-- The digits of n behind k steps of told. -/
def dgs (n : Nat) : Nat → List Nat
  | 0 => []
  | k + 1 => dgs n k ++ [n / 10 ^ k % 10]
theorem dgs_len (n k : Nat) : (dgs n k).length = k := by
  induction k with
  | zero => rfl
  | succ k ih => simp [dgs, ih]
theorem dgs_dig (n k : Nat) : Dig (dgs n k) := by
  induction k with
  | zero => intro d hd; cases hd
  | succ k ih =>
    intro d hd
    simp only [dgs, List.mem_append, List.mem_singleton] at hd
    rcases hd with h | rfl
    · exact ih d h
    · exact Nat.mod_lt _ (by omega)
theorem dgs_val (n k : Nat) : val (dgs n k) + 10 ^ k * (n / 10 ^ k) = n := by
  induction k with
  | zero => simp [dgs, val]
  | succ k ih =>
    simp only [dgs]
    rw [val_app, dgs_len]
    simp only [val, Nat.mul_zero, Nat.add_zero]
    rw [Nat.pow_succ, ← Nat.div_div_eq_div_mul]
    have h := Nat.div_add_mod (n / 10 ^ k) 10
    have e : 10 ^ k * (n / 10 ^ k % 10) + 10 ^ k * 10 * (n / 10 ^ k / 10) = 10 ^ k * (n / 10 ^ k) := by
      rw [Nat.mul_assoc, ← Nat.mul_add, Nat.add_comm, h]
    omega
end Go.Proofs.YtjbjkddgefiicaaDoor
