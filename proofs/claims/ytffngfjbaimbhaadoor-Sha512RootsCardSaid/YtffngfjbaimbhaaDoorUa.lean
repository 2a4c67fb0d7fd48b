/- Numbers by their digits to the base 65536, the search for a root bit by bit, and the first primes, as plain functions; by the kernel: the published words are what they tell. -/
import Derived.Test.YtffngfjbaimbhaaDoorTg
namespace Go.Proofs.YtffngfjbaimbhaaDoor
open Go.RowKit
set_option linter.unusedVariables false
set_option linter.unusedSimpArgs false
/-- The value of digits, the least first. -/
def val : List Nat → Nat
  | [] => 0
  | d :: l => d + 65536 * val l
theorem val_app (a b : List Nat) : val (a ++ b) = val a + 65536 ^ a.length * val b := by
  induction a with
  | nil => simp [val]
  | cons d a ih =>
    show d + 65536 * val (a ++ b) = d + 65536 * val a + 65536 ^ (a.length + 1) * val b
    rw [ih, Nat.pow_succ, Nat.mul_add, Nat.add_assoc, ← Nat.mul_assoc, Nat.mul_comm 65536 (65536 ^ a.length)]
/-- All digits lie below the base. -/
def Dig (l : List Nat) : Prop := ∀ d ∈ l, d < 65536
theorem Dig.at {l : List Nat} (h : Dig l) (j : Nat) : l.getD j 0 < 65536 := by
  by_cases hj : j < l.length
  · have : l.getD j 0 = l[j] := by simp [List.getD, hj]
    rw [this]; exact h _ (List.getElem_mem hj)
  · simp [List.getD, List.getElem?_eq_none (show l.length ≤ j by omega)]
theorem Dig.of {l : List Nat} (h : ∀ j, l.getD j 0 < 65536) : Dig l := by
  intro x hx
  obtain ⟨j, hj, e⟩ := List.getElem_of_mem hx
  have e2 : l.getD j 0 = x := by rw [← e]; simp [List.getD, hj]
  rw [← e2]; exact h j
theorem getD_ne (l : List Nat) (a j v : Nat) (h : a ≠ j) : (l.set a v).getD j 0 = l.getD j 0 := by simp [List.getD, List.getElem?_set, h]
theorem getD_eq (l : List Nat) (a v : Nat) (h : a < l.length) : (l.set a v).getD a 0 = v := by simp [List.getD, h]
theorem Dig.set {l : List Nat} (h : Dig l) (j v : Nat) (hv : v < 65536) : Dig (l.set j v) := Dig.of fun i => by
  by_cases e : j = i
  · subst e
    by_cases hj : j < l.length
    · rw [getD_eq _ _ _ hj]; exact hv
    · rw [List.set_eq_of_length_le (by omega)]; exact h.at j
  · rw [getD_ne _ _ _ _ e]; exact h.at i
theorem val_zeros (n : Nat) : val (List.replicate n 0) = 0 := by
  induction n with
  | zero => rfl
  | succ n ih => simp [List.replicate_succ, val, ih]
theorem val_put (l : List Nat) (j v : Nat) (h : j < l.length) : val (l.set j v) + l.getD j 0 * 65536 ^ j = val l + v * 65536 ^ j := by
  induction l generalizing j with
  | nil => simp at h
  | cons d l ih =>
    cases j with
    | zero => simp [val]; omega
    | succ j =>
      have h1 := ih j (by simpa using h)
      simp only [List.set_cons_succ, val, List.getD_cons_succ]
      have e : ∀ x : Nat, 65536 * (x * 65536 ^ j) = x * 65536 ^ (j + 1) := fun x => by rw [Nat.pow_succ, Nat.mul_comm 65536, Nat.mul_assoc]
      rw [← e, ← e]
      omega
theorem val_lt (l : List Nat) (h : Dig l) : val l < 65536 ^ l.length := by
  induction l with
  | nil => simp [val]
  | cons d l ih =>
    have h1 := h d (List.mem_cons_self ..)
    have h2 := ih fun x hx => h x (List.mem_cons_of_mem _ hx)
    simp only [val, List.length_cons, Nat.pow_succ]
    omega
theorem val_take_lt (l : List Nat) (j : Nat) (h : Dig l) : val (l.take j) < 65536 ^ j := by
  have h1 := val_lt (l.take j) fun d hd => h d (List.mem_of_mem_take hd)
  exact Nat.lt_of_lt_of_le h1 (Nat.pow_le_pow_right (by omega) (by rw [List.length_take]; omega))
theorem val_take_succ (l : List Nat) (j : Nat) : val (l.take (j + 1)) = val (l.take j) + 65536 ^ j * l.getD j 0 := by
  by_cases h : j < l.length
  · rw [List.take_succ_eq_append_getElem h, val_app, List.length_take, Nat.min_eq_left (by omega)]
    simp [val, List.getD, h]
  · rw [List.take_of_length_le (by omega), List.take_of_length_le (by omega)]
    simp [List.getD, List.getElem?_eq_none (show l.length ≤ j by omega)]
/-- Is one greater, by the digits below place j? -/
def grt (X Y : List Nat) : Nat → Bool
  | 0 => false
  | j + 1 => if X.getD j 0 = Y.getD j 0 then grt X Y j else decide (Y.getD j 0 < X.getD j 0)
theorem grt_spec (X Y : List Nat) (hX : Dig X) (hY : Dig Y) (j : Nat) : grt X Y j = decide (val (Y.take j) < val (X.take j)) := by
  induction j with
  | zero => simp [grt, val]
  | succ j ih =>
    unfold grt
    rw [val_take_succ, val_take_succ]
    have hx := val_take_lt X j hX
    have hy := val_take_lt Y j hY
    by_cases e : X.getD j 0 = Y.getD j 0
    · rw [if_pos e, ih, e]
      exact decide_eq_decide.2 (by omega)
    · rw [if_neg e]
      apply decide_eq_decide.2
      constructor
      · intro h
        have : 65536 ^ j * (Y.getD j 0 + 1) ≤ 65536 ^ j * X.getD j 0 := Nat.mul_le_mul_left _ h
        rw [Nat.mul_add, Nat.mul_one] at this
        omega
      · intro h
        refine Nat.lt_of_not_le fun hle => ?_
        have hlt : X.getD j 0 + 1 ≤ Y.getD j 0 := by omega
        have : 65536 ^ j * (X.getD j 0 + 1) ≤ 65536 ^ j * Y.getD j 0 := Nat.mul_le_mul_left _ hlt
        rw [Nat.mul_add, Nat.mul_one] at this
        omega
theorem grt_all (X Y : List Nat) (hX : Dig X) (hY : Dig Y) (N : Nat) (h1 : X.length ≤ N) (h2 : Y.length ≤ N) : grt X Y N = decide (val Y < val X) := by
  rw [grt_spec X Y hX hY, List.take_of_length_le h1, List.take_of_length_le h2]
/-- One step of a row of a product: digit o, the factors' digits x and y, the carry c. -/
theorem row_step (O Y : List Nat) (i k x c : Nat) (hp : i + k < O.length) (hO : Dig O) (hY : Dig Y) (hx : x < 65536) (hc : c < 65536) :
    val (O.set (i + k) ((O.getD (i + k) 0 + x * Y.getD k 0 + c) % 65536)) + ((O.getD (i + k) 0 + x * Y.getD k 0 + c) / 65536) * 65536 ^ (i + (k + 1)) = val O + c * 65536 ^ (i + k) + x * Y.getD k 0 * 65536 ^ (i + k) := by
  have h := val_put O (i + k) ((O.getD (i + k) 0 + x * Y.getD k 0 + c) % 65536) hp
  obtain ⟨s, hs⟩ : ∃ s, s = O.getD (i + k) 0 + x * Y.getD k 0 + c := ⟨_, rfl⟩
  obtain ⟨P, hP⟩ : ∃ P, P = 65536 ^ (i + k) := ⟨_, rfl⟩
  rw [← hs] at h ⊢
  rw [show i + (k + 1) = (i + k) + 1 by omega, Nat.pow_succ, ← hP]
  rw [← hP] at h
  have e1 : s / 65536 * (P * 65536) = (s / 65536 * 65536) * P := by rw [Nat.mul_comm P, Nat.mul_assoc]
  have e2 : (s / 65536 * 65536) * P + s % 65536 * P = s * P := by rw [← Nat.add_mul]; congr 1; omega
  have e3 : s * P = O.getD (i + k) 0 * P + x * Y.getD k 0 * P + c * P := by rw [hs, Nat.add_mul, Nat.add_mul]
  rw [e1]
  omega
theorem row_bound (o x y c : Nat) (h1 : o < 65536) (h2 : x < 65536) (h3 : y < 65536) (h4 : c < 65536) : o + x * y + c < 4294967296 := by
  have : x * y ≤ 65535 * 65535 := Nat.mul_le_mul (by omega) (by omega)
  omega
/-- The search bit by bit; none where a digit would pass the base. -/
def run (lim k : Nat) : Nat → List Nat → Option (List Nat)
  | 0, X => some X
  | b + 1, X => if X.length = 6 ∧ (X.set (b / 16) (X.getD (b / 16) 0 + 2 ^ (b % 16))).all (fun d => decide (d < 65536)) = true then
      (if lim < val (X.set (b / 16) (X.getD (b / 16) 0 + 2 ^ (b % 16))) ^ k then run lim k b X else run lim k b (X.set (b / 16) (X.getD (b / 16) 0 + 2 ^ (b % 16)))) else none
def start6 : List Nat := [0, 0, 0, 0, 0, 0]
/-- The 64 bits behind the point of the k-th root of p. -/
def rootN (p k : Nat) : Option Nat := (run (p * 65536 ^ (4 * k)) k 80 start6).map fun X => X.getD 0 0 + X.getD 1 0 * 65536 + X.getD 2 0 * 4294967296 + X.getD 3 0 * 281474976710656
/-- The primes among the n numbers from 2 on. -/
def prl : Nat → List Nat
  | 0 => []
  | n + 1 => if (prl n).all (fun q => decide ((n + 2) % q ≠ 0)) = true then prl n ++ [n + 2] else prl n
theorem roots_two : ((prl 18).map fun p => (rootN p 2).map (BitVec.ofNat 64)) = (stl ini).map some := by decide +kernel
theorem roots_three : ((prl 408).map fun p => (rootN p 3).map (BitVec.ofNat 64)) = KK.map some := by decide +kernel
theorem prl_two : (prl 18).length = 8 := by decide +kernel
theorem prl_three : (prl 408).length = 80 := by decide +kernel
end Go.Proofs.YtffngfjbaimbhaaDoor
