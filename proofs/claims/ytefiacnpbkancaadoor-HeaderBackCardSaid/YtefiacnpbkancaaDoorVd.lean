/- The document's own Num and Hash. -/
import Derived.Test.YtefiacnpbkancaaDoorVc
import Derived.Outline
namespace Go.Proofs.YtefiacnpbkancaaDoor
open Go.RowKit
set_option maxRecDepth 100000
set_option linter.unusedVariables false
set_option linter.unusedSimpArgs false
theorem takeL_len (s : Option (List (BitVec 8))) (n : Int) (m : Nat) (h : n ≤ m) : (takeL s n).length ≤ m := by
  cases s with
  | none => simp [takeL]
  | some L =>
    simp only [takeL]
    split
    · rw [List.length_take]; omega
    · simp
theorem value_n (A : Option Addr) (X : List (BitVec 8)) (m cap B : Nat) (w : World) (hm : X.length = m) (hR : Rd w B A X) (h8 : X.length ≤ 8) :
    Calls Tryd.prog 36 #[.slice A m cap] w fun e w' => e = .returned (.int .u64 (lev X)) ∧ w = w' := by subst hm; exact value_any A X cap B w hR h8
theorem hash_len (s : Option (List (BitVec 8))) : (takeL s 32).length ≤ 32 ∧ (takeL s 32) ++ Z32.drop (takeL s 32).length = hashL s := by
  refine ⟨takeL_len s 32 32 (by omega), ?_⟩
  unfold hashL
  by_cases h : hasB s 32 = true
  · rw [if_pos h]
    have hl : (takeL s 32).length = 32 := by
      have := hashL_len s
      unfold hashL at this
      rwa [if_pos h] at this
    rw [hl]
    simp [Z32]
  · rw [if_neg h, (cut_no (by simpa using h)).1]
    rfl
def mixK (L : List (BitVec 8)) (k : Nat) : List (BitVec 8) := L.take k ++ Z32.drop k
theorem mixK_len (L : List (BitVec 8)) (k : Nat) (hk : k ≤ L.length) (hl : L.length ≤ 32) : (mixK L k).length = 32 := by simp [mixK, Z32]; omega
theorem mixK_set (L : List (BitVec 8)) (k : Nat) (hk : k < L.length) (hl : L.length ≤ 32) : (mixK L k).set k (L.getD k 0) = mixK L (k + 1) := by
  have e : Z32.drop k = (0 : BitVec 8) :: Z32.drop (k + 1) := by
    rw [List.drop_eq_getElem_cons (by simp [Z32]; omega)]
    unfold Z32
    rw [List.getElem_replicate]
  have e2 : L.getD k 0 = L[k] := by simp [List.getD, hk]
  unfold mixK
  rw [e, List.set_append_right _ _ (by rw [List.length_take]; omega), List.length_take, Nat.min_eq_left (by omega), Nat.sub_self, List.take_succ_eq_append_getElem hk, List.append_assoc, e2]
  rfl
end Go.Proofs.YtefiacnpbkancaaDoor
