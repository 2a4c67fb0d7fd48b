/- Plain: the document's own digest of any bytes is the program's. -/
import Derived.Test.YtjbjkddgefiicaaDoorCc
import Derived.Test.YtjbjkddgefiicaaDoorH
import Derived.Test.YtjbjkddgefiicaaDoorCh
namespace Go.Proofs.YtjbjkddgefiicaaDoor
open Go.RowKit
set_option linter.unusedVariables false
set_option linter.unusedSimpArgs false
/-- The digest as the document's own Sum makes it: over all chunks of the text with its closing. -/
def sumR (R : List (BitVec 8)) : List (BitVec 8) := joinB (blocks change ini (R ++ closeB R.length) ((R ++ closeB R.length).length / 64))
theorem close_len (n : Nat) : (closeB n).length = 9 + nzOf n := by simp [closeB, szK]; omega
theorem all_len (R : List (BitVec 8)) : (R ++ closeB R.length).length = 64 * (R.length / 64 + manyOf (R.length % 64)) := by
  rw [List.length_append, close_len]
  unfold nzOf manyOf
  split <;> omega
/-- The state behind some chunks and then others is that behind all. -/
theorem blocks_add (ch : St → List (BitVec 8) → St) (S : St) (R : List (BitVec 8)) (p : Nat) (q : Nat) : blocks ch S R (p + q) = blocks ch (blocks ch S R p) (R.drop (64 * p)) q := by
  induction q with
  | zero => rfl
  | succ q ih =>
    show ch (blocks ch S R (p + q)) ((R.drop (64 * (p + q))).take 64) = ch (blocks ch (blocks ch S R p) (R.drop (64 * p)) q) (((R.drop (64 * p)).drop (64 * q)).take 64)
    rw [ih, List.drop_drop, show 64 * p + 64 * q = 64 * (p + q) by omega]
theorem blocks_take (ch : St → List (BitVec 8) → St) (S : St) (R E : List (BitVec 8)) (p : Nat) (h : 64 * p ≤ R.length) : blocks ch S (R ++ E) p = blocks ch S R p := by
  induction p with
  | zero => rfl
  | succ p ih =>
    show ch (blocks ch S (R ++ E) p) (((R ++ E).drop (64 * p)).take 64) = ch (blocks ch S R p) ((R.drop (64 * p)).take 64)
    rw [ih (by omega), List.drop_append_of_le_length (by omega), List.take_append_of_le_length (by rw [List.length_drop]; omega)]
theorem blocks_pre (ch : St → List (BitVec 8) → St) (S : St) (A B : List (BitVec 8)) (p : Nat) (h : A.take (64 * p) = B.take (64 * p)) : blocks ch S A p = blocks ch S B p := by
  induction p with
  | zero => rfl
  | succ p ih =>
    have h1 : A.take (64 * p) = B.take (64 * p) := by
      have := congrArg (List.take (64 * p)) h
      rwa [List.take_take, List.take_take, Nat.min_eq_left (by omega)] at this
    have h2 : (A.drop (64 * p)).take 64 = (B.drop (64 * p)).take 64 := by
      have := congrArg (List.drop (64 * p)) h
      rwa [List.drop_take, List.drop_take, show 64 * (p + 1) - 64 * p = 64 by omega] at this
    show ch (blocks ch S A p) _ = ch (blocks ch S B p) _
    rw [ih h1, h2]
theorem padK_get (E : List (BitVec 8)) (last len k i : Nat) (hi : i < E.length) (hk : k ≤ last + 1) (hle : i ≤ last) (hl : last < E.length) : (padK E last len k)[i]? = if last < i + k then some (lenByte len (last - i)) else E[i]? := by
  induction k with
  | zero => rw [if_neg (by omega)]; rfl
  | succ k ih =>
    show ((padK E last len k).set (last - k) (lenByte len k))[i]? = _
    rw [List.getElem?_set]
    by_cases e : last - k = i
    · rw [if_pos e, if_pos (show last - k < (padK E last len k).length by rw [padK_len]; omega), if_pos (by omega), show last - i = k by omega]
    · rw [if_neg e, ih (by omega)]
      by_cases h : last < i + k
      · rw [if_pos h, if_pos (by omega)]
      · rw [if_neg h, if_neg (by omega)]
theorem padE_get (R : List (BitVec 8)) (i : Nat) (hR : R.length ≤ 63) (hi : i < 128) : (padE R)[i]? = some (if i < R.length then R.getD i 0 else if i = R.length then 128 else 0) := by
  unfold padE
  rw [List.getElem?_set]
  by_cases e : R.length = i
  · rw [if_pos e, if_pos (by simp; omega), if_neg (by omega), if_pos e.symm]
  · rw [if_neg e]
    by_cases h : i < R.length
    · rw [if_pos h, List.getElem?_append_left h]; simp [List.getD, h]
    · rw [if_neg h, if_neg (by omega), List.getElem?_append_right (by omega), List.getElem?_replicate, if_pos (by omega)]
/-- The padded end, byte by byte. -/
theorem padEnd_get (R : List (BitVec 8)) (len i : Nat) (hR : R.length ≤ 63) (hi : i < 64 * manyOf R.length) :
    (padEnd R len)[i]? = some (if i < R.length then R.getD i 0 else if i = R.length then 128 else if 64 * manyOf R.length - 8 ≤ i then lenByte len (64 * manyOf R.length - 1 - i) else 0) := by
  have hm : 1 ≤ manyOf R.length ∧ manyOf R.length ≤ 2 ∧ R.length + 9 ≤ 64 * manyOf R.length := by unfold manyOf; split <;> omega
  unfold padEnd
  rw [padK_get _ _ _ _ _ (by rw [padE_len R hR]; omega) (by omega) (by omega) (by rw [padE_len R hR]; omega), padE_get R i hR (by omega)]
  by_cases h : 64 * manyOf R.length - 1 < i + 8
  · rw [if_pos h, if_neg (by omega), if_neg (by omega), if_pos (by omega)]
  · rw [if_neg h, if_neg (show ¬ 64 * manyOf R.length - 8 ≤ i by omega)]
theorem close_get (n i : Nat) (hi : i < 9 + nzOf n) : (closeB n)[i]? = some (if i = 0 then 128 else if i ≤ nzOf n then 0 else BitVec.ofNat 8 (8 * n / 256 ^ (8 + nzOf n - i))) := by
  unfold closeB
  cases i with
  | zero => rfl
  | succ i =>
    rw [List.getElem?_cons_succ, if_neg (by omega)]
    by_cases h : i < nzOf n
    · rw [if_pos (by omega), List.getElem?_append_left (by simpa using h), List.getElem?_replicate, if_pos h]
    · rw [if_neg (by omega), List.getElem?_append_right (by simp; omega), List.length_replicate]
      have h8 : i - nzOf n < 8 := by omega
      simp only [szK, List.getElem?_map, List.getElem?_range h8, Option.map_some]
      rw [if_pos (by omega), show 7 - (i - nzOf n) = 8 + nzOf n - (i + 1) by omega]
theorem sumR_eq (R : List (BitVec 8)) (hl : R.length < 1152921504606846976) : sumR R = sumB R := by
  unfold sumR sumB finB fin
  rw [all_len R, Nat.mul_div_cancel_left _ (by omega : 0 < 64), blocks_add, blocks_take _ _ _ _ _ (by omega), List.drop_append_of_le_length (by omega), Nat.zero_add]
  congr 1
  apply blocks_pre
  have hr : (R.drop (64 * (R.length / 64))).length = R.length % 64 := by rw [List.length_drop]; omega
  obtain ⟨Q, hQ⟩ : ∃ Q, Q = R.drop (64 * (R.length / 64)) := ⟨_, rfl⟩
  rw [← hQ] at hr ⊢
  rw [← hr]
  have hm : Q.length + 9 + nzOf R.length = 64 * manyOf Q.length := by
    rw [hr]; unfold nzOf manyOf; split <;> omega
  have hq63 : Q.length ≤ 63 := by omega
  apply List.ext_getElem?
  intro i
  rw [List.getElem?_take, List.getElem?_take]
  by_cases hi : i < 64 * manyOf Q.length
  · rw [if_pos hi, if_pos hi, padEnd_get Q R.length i hq63 hi]
    by_cases h1 : i < Q.length
    · rw [if_pos h1, List.getElem?_append_left h1]; simp [List.getD, h1]
    · rw [if_neg h1, List.getElem?_append_right (by omega), close_get _ _ (by omega)]
      by_cases h2 : i = Q.length
      · rw [if_pos h2, if_pos (by omega)]
      · rw [if_neg h2, if_neg (by omega)]
        by_cases h3 : 64 * manyOf Q.length - 8 ≤ i
        · rw [if_pos h3, if_neg (by omega)]
          unfold lenByte
          rw [show (256 : Nat) = 2 ^ 8 from rfl, ← Nat.pow_mul, show 8 + nzOf R.length - (i - Q.length) = 64 * manyOf Q.length - 1 - i by omega]
        · rw [if_neg h3, if_pos (by omega)]
  · rw [if_neg hi, if_neg hi]
end Go.Proofs.YtjbjkddgefiicaaDoor
