/- The search for a root's fraction, and the primes, as plain functions of numbers; by the kernel: the published numbers are what they tell. -/
import Derived.Test.YtjbjkddgefiicaaDoorDf
import Derived.Test.YtjbjkddgefiicaaDoorCi
namespace Go.Proofs.YtjbjkddgefiicaaDoor
open Go.RowKit
set_option linter.unusedVariables false
set_option linter.unusedSimpArgs false
/-- The search by halves: low's power is within the limit, high's is not. -/
def srch (lim many : Nat) : Nat → Nat → Nat → Nat
  | 0, lo, _ => lo
  | f + 1, lo, hi => if 1 < hi - lo then (if lim < ((lo + hi) / 2) ^ many then srch lim many f lo ((lo + hi) / 2) else srch lim many f ((lo + hi) / 2) hi) else lo
theorem srch_done (lim many f lo hi : Nat) (h : ¬ 1 < hi - lo) : srch lim many f lo hi = lo := by
  cases f with
  | zero => rfl
  | succ f => simp only [srch]; rw [if_neg h]
theorem srch_high (lim many f lo hi mid : Nat) (h : 1 < hi - lo) (hm : mid = (lo + hi) / 2) (hp : lim < mid ^ many) : srch lim many (f + 1) lo hi = srch lim many f lo mid := by
  subst hm; simp only [srch]; rw [if_pos h, if_pos hp]
theorem srch_low (lim many f lo hi mid : Nat) (h : 1 < hi - lo) (hm : mid = (lo + hi) / 2) (hp : ¬ lim < mid ^ many) : srch lim many (f + 1) lo hi = srch lim many f mid hi := by
  subst hm; simp only [srch]; rw [if_pos h, if_neg hp]
/-- The fraction of a prime's root. -/
def frac (p many : Nat) : Nat := srch (p * 4294967296 ^ many) many 40 0 137438953472 % 4294967296
/-- None of the numbers from 2 to k + 1 divides p. -/
def npr (p : Nat) : Nat → Bool
  | 0 => true
  | k + 1 => npr p k && decide (p % (k + 2) ≠ 0)
def isP (p : Nat) : Bool := npr p (p - 2)
/-- The fractions of the primes among the n numbers from 2 on. -/
def fracs (many : Nat) : Nat → List Nat
  | 0 => []
  | n + 1 => if isP (n + 2) then fracs many n ++ [frac (n + 2) many] else fracs many n
theorem fracs_yes (many n : Nat) (h : isP (n + 2) = true) : fracs many (n + 1) = fracs many n ++ [frac (n + 2) many] := by simp only [fracs]; rw [if_pos h]
theorem fracs_no (many n : Nat) (h : isP (n + 2) = false) : fracs many (n + 1) = fracs many n := by simp only [fracs]; rw [if_neg (by simp [h])]
theorem fracs_two : (fracs 2 18).map (BitVec.ofNat 32) = stl ini := by decide +kernel
theorem fracs_three : (fracs 3 310).map (BitVec.ofNat 32) = KK := by decide +kernel
end Go.Proofs.YtjbjkddgefiicaaDoor
