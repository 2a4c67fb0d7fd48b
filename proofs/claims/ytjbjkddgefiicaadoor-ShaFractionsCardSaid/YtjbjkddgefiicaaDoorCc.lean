/- Plain: the numbers of a chunk in a list that grows, and the sixteen places that the program keeps, are the same; so are the states behind each round. -/
import Derived.Test.YtjbjkddgefiicaaDoorCb
import Derived.Test.YtjbjkddgefiicaaDoorF
namespace Go.Proofs.YtjbjkddgefiicaaDoor
open Go.RowKit
set_option linter.unusedVariables false
set_option linter.unusedSimpArgs false
theorem zx (x : BitVec 32) : (0 : BitVec 32) ^^^ x = x := BitVec.zero_xor
/-- The first k numbers of a chunk. -/
def mkR (C : List (BitVec 8)) : Nat → List (BitVec 32)
  | 0 => []
  | k + 1 => mkR C k ++ [numR C (mkR C k) k]
theorem mkR_len (C : List (BitVec 8)) (k : Nat) : (mkR C k).length = k := by
  induction k with
  | zero => rfl
  | succ k ih => simp [mkR, ih]
/-- The k-th number. -/
def Wd (C : List (BitVec 8)) (k : Nat) : BitVec 32 := numR C (mkR C k) k
theorem mkR_get (C : List (BitVec 8)) (k i : Nat) (h : i < k) : (mkR C k).getD i 0 = Wd C i := by
  induction k with
  | zero => omega
  | succ k ih =>
    show (mkR C k ++ [Wd C k]).getD i 0 = _
    have hl := mkR_len C k
    by_cases e : i = k
    · subst e
      simp [List.getD, List.getElem?_append_right, hl]
    · have hi : i < k := by omega
      rw [← ih hi]
      simp [List.getD, List.getElem?_append_left, hl, hi]
/-- The state behind k rounds. -/
def stR (C : List (BitVec 8)) (s : St) : Nat → St
  | 0 => s
  | k + 1 => rnd (stR C s k) (KK.getD k 0) (Wd C k)
theorem Wd_lo (C : List (BitVec 8)) (k : Nat) (h : k < 16) : Wd C k = wordOf C k := by unfold Wd numR; rw [if_pos h]
theorem Wd_hi (C : List (BitVec 8)) (k : Nat) (h : 16 ≤ k) : Wd C k = Wd C (k - 16) + sg0 (Wd C (k - 15)) + Wd C (k - 7) + sg1 (Wd C (k - 2)) := by
  conv => lhs; unfold Wd numR
  rw [if_neg (by omega), mkR_get C k _ (by omega), mkR_get C k _ (by omega), mkR_get C k _ (by omega), mkR_get C k _ (by omega)]
def Inv (C : List (BitVec 8)) (k : Nat) (L : List (BitVec 32)) : Prop := L.length = 16 ∧ ∀ i, (i < k ∨ i < 16) → k ≤ i + 16 → L.getD (i % 16) 0 = Wd C i
theorem fil_get (C : List (BitVec 8)) (i : Nat) (h : i < 16) : (fil C 16).getD i 0 = wordOf C i := by simp [fil, List.getD, h]
theorem inv_zero (C : List (BitVec 8)) : Inv C 0 (fil C 16) := ⟨fil_len C 16, fun i hi _ => by
  have h : i < 16 := by omega
  rw [Nat.mod_eq_of_lt h, fil_get C i h, Wd_lo C i h]⟩
theorem inv_nxt (C : List (BitVec 8)) (k : Nat) (L : List (BitVec 32)) (h : Inv C k L) (hk : 16 ≤ k) : nxt L k = Wd C k := by
  have e16 := h.2 (k - 16) (by omega) (by omega)
  have e15 := h.2 (k - 15) (by omega) (by omega)
  have e7 := h.2 (k - 7) (by omega) (by omega)
  have e2 := h.2 (k - 2) (by omega) (by omega)
  rw [show (k - 16) % 16 = k % 16 by omega] at e16
  unfold nxt
  rw [e16, e15, e7, e2, Wd_hi C k hk]
  unfold sg0 sg1
  simp only [trn, List.foldl_cons, List.foldl_nil, zx, BitVec.add_assoc]
theorem inv_num (C : List (BitVec 8)) (k : Nat) (L : List (BitVec 32)) (h : Inv C k L) : numAt L k = Wd C k := by
  unfold numAt
  by_cases hk : k < 16
  · rw [if_pos hk]
    have := h.2 k (by omega) (by omega)
    rwa [Nat.mod_eq_of_lt hk] at this
  · rw [if_neg hk]; exact inv_nxt C k L h (by omega)
theorem inv_step (C : List (BitVec 8)) (k : Nat) (L : List (BitVec 32)) (h : Inv C k L) : Inv C (k + 1) (lastAt L k) := by
  refine ⟨by rw [lastAt_len]; exact h.1, fun i hi hk => ?_⟩
  unfold lastAt
  by_cases hk16 : k < 16
  · rw [if_pos hk16]; exact h.2 i (by omega) (by omega)
  · rw [if_neg hk16]
    by_cases e : i = k
    · subst e
      rw [inv_nxt C i L h (by omega)]
      simp [List.getD, h.1, Nat.mod_lt]
    · rw [← h.2 i (by omega) (by omega)]
      have hne : k % 16 ≠ i % 16 := by omega
      simp [List.getD, List.getElem?_set, hne]
theorem rounds_eq (C : List (BitVec 8)) (s : St) (k : Nat) : Inv C k (rounds (fil C 16) s k).1 ∧ (rounds (fil C 16) s k).2 = stR C s k := by
  induction k with
  | zero => exact ⟨inv_zero C, rfl⟩
  | succ k ih =>
    refine ⟨inv_step C k _ ih.1, ?_⟩
    show rnd (rounds (fil C 16) s k).2 (KK.getD k 0) (numAt (rounds (fil C 16) s k).1 k) = rnd (stR C s k) (KK.getD k 0) (Wd C k)
    rw [ih.2, inv_num C k _ ih.1]
theorem change_eq (C : List (BitVec 8)) (s : St) : change s C = addSt s (stR C s 64) := by
  unfold change; rw [(rounds_eq C s 64).2]
/-- The sum of the disjoint is their or. -/
theorem ch_or (e f g : BitVec 32) : (e &&& f) + (~~~ e &&& g) = e &&& f ||| ~~~ e &&& g := by
  apply BitVec.add_eq_or_of_and_eq_zero
  apply BitVec.eq_of_getLsbD_eq
  intro i hi
  simp only [BitVec.getLsbD_and, BitVec.getLsbD_not, BitVec.getLsbD_zero]
  cases e.getLsbD i <;> simp
theorem maj_or (a b c : BitVec 32) : a &&& b ||| b &&& c ||| c &&& a = a &&& b ||| a &&& c ||| b &&& c := by
  rw [BitVec.and_comm c a, BitVec.or_assoc, BitVec.or_comm (b &&& c), ← BitVec.or_assoc]
theorem trn3 (x : BitVec 32) (p q r : Nat) : trn x [p, q, r] = x.rotateRight p ^^^ x.rotateRight q ^^^ x.rotateRight r := by
  simp only [trn, List.foldl_cons, List.foldl_nil, zx]
theorem U_not (x : BitVec 32) : (4294967295 - U x) % 4294967296 = U (~~~ x) := by
  unfold U; rw [BitVec.toNat_not]; have := x.isLt; omega
/-- The eight letters, a list. -/
def stl (s : St) : List (BitVec 32) := [s.a, s.b, s.c, s.d, s.e, s.f, s.g, s.h]
end Go.Proofs.YtjbjkddgefiicaaDoor
