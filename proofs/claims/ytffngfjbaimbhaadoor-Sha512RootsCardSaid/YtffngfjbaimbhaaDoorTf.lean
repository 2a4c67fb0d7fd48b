/- Plain: the document's own digest of any bytes is the program's. -/
import Derived.Test.YtffngfjbaimbhaaDoorTe
import Derived.Test.YtffngfjbaimbhaaDoorSh
import Derived.Test.YtffngfjbaimbhaaDoorTc
import Derived.KernelRfl
namespace Go.Proofs.YtffngfjbaimbhaaDoor
open Go.RowKit
set_option linter.unusedVariables false
set_option linter.unusedSimpArgs false
set_option maxRecDepth 100000
/-- What stands behind the text, when it is filled. -/
def closeL (n : Nat) : List (BitVec 8) := 128 :: (List.replicate (zn n) 0 ++ lbs (BitVec.ofNat 64 n) 16)
theorem filled_close (R : List (BitVec 8)) : filled R = R ++ closeL R.length := by simp [filled, mk, closeL]
theorem closeL_len (n : Nat) : (closeL n).length = 17 + zn n := by simp [closeL, lbs_len]; omega
theorem zn_cases (n : Nat) : n % 128 + (17 + zn n) = 128 * manyB (n % 128) := by unfold zn manyB; split <;> omega
theorem filled_len (R : List (BitVec 8)) : (filled R).length = 128 * (R.length / 128 + manyB (R.length % 128)) := by
  rw [filled_close, List.length_append, closeL_len]
  have := zn_cases R.length
  omega
theorem stK_add (S : St) (R : List (BitVec 8)) (p : Nat) (q : Nat) : stK S R (p + q) = stK (stK S R p) (R.drop (128 * p)) q := by
  induction q with
  | zero => rfl
  | succ q ih =>
    show proc (stK S R (p + q)) ((R.drop (128 * (p + q))).take 128) = proc (stK (stK S R p) (R.drop (128 * p)) q) (((R.drop (128 * p)).drop (128 * q)).take 128)
    rw [ih, List.drop_drop, show 128 * p + 128 * q = 128 * (p + q) by omega]
theorem stK_take (S : St) (R E : List (BitVec 8)) (p : Nat) (h : 128 * p ≤ R.length) : stK S (R ++ E) p = stK S R p := by
  induction p with
  | zero => rfl
  | succ p ih =>
    show proc (stK S (R ++ E) p) (((R ++ E).drop (128 * p)).take 128) = proc (stK S R p) ((R.drop (128 * p)).take 128)
    rw [ih (by omega), List.drop_append_of_le_length (by omega), List.take_append_of_le_length (by rw [List.length_drop]; omega)]
theorem stK_pre (S : St) (A B : List (BitVec 8)) (p : Nat) (h : A.take (128 * p) = B.take (128 * p)) : stK S A p = stK S B p := by
  induction p with
  | zero => rfl
  | succ p ih =>
    have h1 : A.take (128 * p) = B.take (128 * p) := by
      have := congrArg (List.take (128 * p)) h
      rwa [List.take_take, List.take_take, Nat.min_eq_left (by omega)] at this
    have h2 : (A.drop (128 * p)).take 128 = (B.drop (128 * p)).take 128 := by
      have := congrArg (List.drop (128 * p)) h
      rwa [List.drop_take, List.drop_take, show 128 * (p + 1) - 128 * p = 128 by omega] at this
    show proc (stK S A p) _ = proc (stK S B p) _
    rw [ih h1, h2]
theorem pw_get (R : List (BitVec 8)) (o : Nat) (x : BitVec 64) (k i : Nat) (h : o + k ≤ R.length) : (pw R o x k)[i]? = if o ≤ i ∧ i < o + k then some (byteW x (i - o)) else R[i]? := by
  induction k with
  | zero => rw [if_neg (by omega)]; rfl
  | succ k ih =>
    show ((pw R o x k).set (o + k) (byteW x k))[i]? = _
    rw [List.getElem?_set]
    by_cases e : o + k = i
    · rw [if_pos e, if_pos (show o + k < (pw R o x k).length by rw [pw_len]; omega), if_pos (by omega), show i - o = k by omega]
    · rw [if_neg e, ih (by omega)]
      by_cases h1 : o ≤ i ∧ i < o + k
      · rw [if_pos h1, if_pos (by omega)]
      · rw [if_neg h1, if_neg (by omega)]
theorem padA_get (R : List (BitVec 8)) (i : Nat) (hR : R.length ≤ 127) (hi : i < 256) : (padA R)[i]? = some (if i < R.length then R.getD i 0 else if i = R.length then 128 else 0) := by
  unfold padA
  rw [List.getElem?_set]
  by_cases e : R.length = i
  · rw [if_pos e, if_pos (by simp; omega), if_neg (by omega), if_pos e.symm]
  · rw [if_neg e]
    by_cases h : i < R.length
    · rw [if_pos h, List.getElem?_append_left h]; simp [List.getD, h]
    · rw [if_neg h, if_neg (by omega), List.getElem?_append_right (by omega), List.getElem?_replicate, if_pos (by omega)]
theorem many_le (n : Nat) (h : n ≤ 127) : 1 ≤ manyB n ∧ manyB n ≤ 2 ∧ n + 17 ≤ 128 * manyB n := by unfold manyB; split <;> omega
/-- The last blocks, byte by byte. -/
theorem padB_get (Q : List (BitVec 8)) (len : BitVec 64) (i : Nat) (hQ : Q.length ≤ 127) (hi : i < 128 * manyB Q.length) :
    (padB Q len)[i]? = some (if i < Q.length then Q.getD i 0 else if i = Q.length then 128 else if 128 * manyB Q.length - 16 ≤ i then lb len (i - (128 * manyB Q.length - 16)) else 0) := by
  have hm := many_le Q.length hQ
  unfold padB
  rw [pw_get _ _ _ _ _ (by rw [pw_len, padA_len Q hQ]; omega), pw_get _ _ _ _ _ (by rw [padA_len Q hQ]; omega), padA_get Q i hQ (by omega)]
  by_cases h1 : 128 * manyB Q.length - 8 ≤ i
  · rw [if_pos (by omega), if_neg (by omega), if_neg (by omega), if_pos (by omega)]
    unfold lb
    rw [if_neg (by omega), show i - (128 * manyB Q.length - 16) - 8 = i - (128 * manyB Q.length - 8) by omega]
  · rw [if_neg (by omega)]
    by_cases h2 : 128 * manyB Q.length - 16 ≤ i
    · rw [if_pos (by omega), if_neg (by omega), if_neg (by omega), if_pos h2]
      unfold lb
      rw [if_pos (by omega)]
    · rw [if_neg (by omega), if_neg h2]
theorem closeL_get (n i : Nat) (hi : i < 17 + zn n) : (closeL n)[i]? = some (if i = 0 then 128 else if i ≤ zn n then 0 else lb (BitVec.ofNat 64 n) (i - 1 - zn n)) := by
  unfold closeL
  cases i with
  | zero => rfl
  | succ i =>
    rw [List.getElem?_cons_succ, if_neg (by omega)]
    by_cases h : i < zn n
    · rw [if_pos (by omega), List.getElem?_append_left (by simpa using h), List.getElem?_replicate, if_pos h]
    · rw [if_neg (by omega), List.getElem?_append_right (by simp; omega), List.length_replicate]
      have h16 : i - zn n < 16 := by omega
      simp only [lbs, List.getElem?_map, List.getElem?_range h16, Option.map_some]
      rw [show i + 1 - 1 - zn n = i - zn n by omega]
theorem bws_jk (S : St) : bws (stl S) = jk S 8 := by
  obtain ⟨a, b, c, d, e, f, g, h⟩ := S
  kernel_rfl
theorem digR_eq (s : St) (R : List (BitVec 8)) : bws (stl (stK s (filled R) ((filled R).length / 128))) = digB s R := by
  rw [bws_jk]
  unfold digB
  rw [filled_len R, Nat.mul_div_cancel_left _ (by omega : 0 < 128), stK_add, filled_close, stK_take _ _ _ _ (by omega), List.drop_append_of_le_length (by omega)]
  refine congrArg (fun S => jk S 8) ?_
  apply stK_pre
  have hr : (R.drop (128 * (R.length / 128))).length = R.length % 128 := by rw [List.length_drop]; omega
  obtain ⟨Q, hQ⟩ : ∃ Q, Q = R.drop (128 * (R.length / 128)) := ⟨_, rfl⟩
  rw [← hQ] at hr ⊢
  rw [← hr]
  have hm := zn_cases R.length
  rw [← hr] at hm
  have hq : Q.length ≤ 127 := by omega
  have hm2 := many_le Q.length hq
  apply List.ext_getElem?
  intro i
  rw [List.getElem?_take, List.getElem?_take]
  by_cases hi : i < 128 * manyB Q.length
  · rw [if_pos hi, if_pos hi, padB_get Q _ i hq hi]
    by_cases h1 : i < Q.length
    · rw [if_pos h1, List.getElem?_append_left h1]; simp [List.getD, h1]
    · rw [if_neg h1, List.getElem?_append_right (by omega), closeL_get _ _ (by omega)]
      by_cases h2 : i = Q.length
      · rw [if_pos h2, if_pos (by omega)]
      · rw [if_neg h2, if_neg (by omega)]
        by_cases h3 : 128 * manyB Q.length - 16 ≤ i
        · rw [if_pos h3, if_neg (by omega), show i - Q.length - 1 - zn R.length = i - (128 * manyB Q.length - 16) by omega]
        · rw [if_neg h3, if_pos (by omega)]
  · rw [if_neg hi, if_neg hi]
end Go.Proofs.YtffngfjbaimbhaaDoor
