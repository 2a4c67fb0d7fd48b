/- Plain facts on compact forms and on bytes as text. -/
import Derived.Test.YtalcdejiobpmlaaCe
namespace Go.Proofs.Ytalcdejiobpmlaa
open Go.RowKit
set_option linter.unusedVariables false
set_option linter.unusedSimpArgs false
set_option maxRecDepth 100000
theorem tol_data (s : ByteArray) : s.toList = s.data.toList := by
  have key : ∀ (n i : Nat) (r : List UInt8), s.size - i = n → ByteArray.toList.loop s i r = r.reverse ++ s.data.toList.drop i := by
    intro n
    induction n with
    | zero =>
      intro i r h
      unfold ByteArray.toList.loop
      rw [if_neg (by omega), List.drop_eq_nil_of_le (by rw [Array.length_toList]; show s.size ≤ i; omega)]
      simp
    | succ n ih =>
      intro i r h
      unfold ByteArray.toList.loop
      rw [if_pos (by omega), ih (i + 1) _ (by omega)]
      have hi : i < s.data.toList.length := by rw [Array.length_toList]; show i < s.size; omega
      rw [List.drop_eq_getElem_cons hi]
      have : s.get! i = s.data.toList[i] := by
        show s.data[i]! = _
        have h2 : i < s.data.size := by rw [Array.length_toList] at hi; exact hi
        rw [getElem!_pos s.data i h2]; simp
      simp [this]
  have := key (s.size - 0) 0 [] rfl
  simpa [ByteArray.toList] using this
theorem strB_list (L : List (BitVec 8)) : (strB L).toList = L.map UInt8.ofBitVec := by
  rw [tol_data]
  have key : ∀ (L : List (BitVec 8)) (r : ByteArray), ((L.map Bt).foldl (fun r n => r.push (UInt8.ofNat n.toNat)) r).data.toList = r.data.toList ++ L.map UInt8.ofBitVec := by
    intro L
    induction L with
    | nil => intro r; simp
    | cons x l ih =>
      intro r
      rw [List.map_cons, List.foldl_cons, ih]
      have e : UInt8.ofNat (Bt x).toNat = UInt8.ofBitVec x := by
        unfold Bt
        rw [Int.toNat_natCast]
        apply UInt8.toBitVec_inj.1
        simp
      rw [e]
      simp [ByteArray.push]
  have := key L ByteArray.empty
  simpa [strB] using this
theorem strB_eq {X Y : List (BitVec 8)} : (strB X).toList = (strB Y).toList ↔ X = Y := by
  rw [strB_list, strB_list]
  constructor
  · intro h
    have := congrArg (List.map UInt8.toBitVec) h
    have e : UInt8.toBitVec ∘ UInt8.ofBitVec = (id : BitVec 8 → BitVec 8) := funext fun x => rfl
    simpa [e] using this
  · rintro rfl; rfl
theorem strB_beq (X Y : List (BitVec 8)) : ((strB X).toList == (strB Y).toList) = decide (X = Y) := by
  by_cases h : X = Y
  · subst h; simp
  · have : ¬ (strB X).toList = (strB Y).toList := fun e => h (strB_eq.1 e)
    simp [h, this]
theorem lev_les (n : Nat) : ∀ k, lev (les n k) = n % 2 ^ (8 * k)
  | 0 => by simp [les, lev, Nat.mod_one]
  | k + 1 => by
    rw [les_succ, lev_app, lev_les n k, les_len]
    simp only [lev, BitVec.toNat_ofNat, Nat.mul_zero, Nat.add_zero]
    rw [show 8 * (k + 1) = 8 * k + 8 by omega, Nat.pow_add, Nat.mod_mul]
theorem fol_zero {b : Nat} (h : b < 253) : fol b = 0 := by
  unfold fol
  rw [if_neg (by omega), if_neg (by omega), if_neg (by omega)]
theorem wid_big {n : Nat} (h : ¬ n < 253) (h64 : n < 18446744073709551616) : n < 2 ^ (8 * wid n) := by
  unfold wid
  rw [if_neg h]
  split
  · omega
  · split
    · omega
    · omega
theorem lev_wid {n : Nat} (h : ¬ n < 253) (h64 : n < 18446744073709551616) : lev (les n (wid n)) = n := by
  rw [lev_les, Nat.mod_eq_of_lt (wid_big h h64)]
theorem form_pre {a b : Nat} (ha : a < 18446744073709551616) (hb : b < 18446744073709551616) (X Y : List (BitVec 8)) (h : form a ++ X = form b ++ Y) : a = b ∧ X = Y := by
  unfold form at h
  rw [List.cons_append, List.cons_append] at h
  injection h with h1 h2
  have e1 : fst a = fst b := by
    have := congrArg BitVec.toNat h1
    rw [BitVec.toNat_ofNat, BitVec.toNat_ofNat, Nat.mod_eq_of_lt (fst_lt a), Nat.mod_eq_of_lt (fst_lt b)] at this
    exact this
  have e2 : wid a = wid b := by rw [← fol_fst, ← fol_fst, e1]
  have e3 := List.append_inj h2 (by rw [les_len, les_len, e2])
  refine ⟨?_, e3.2⟩
  by_cases h3 : a < 253
  · have h4 : fst a = a := by simp [fst, h3]
    by_cases h5 : b < 253
    · have h6 : fst b = b := by simp [fst, h5]
      omega
    · have h7 : wid a = 0 := by simp [wid, h3]
      have h8 := wid_big h5 hb
      rw [← e2, h7] at h8
      omega
  · by_cases h5 : b < 253
    · have h7 : wid b = 0 := by simp [wid, h5]
      have h8 := wid_big h3 ha
      rw [e2, h7] at h8
      omega
    · have h9 := lev_wid h3 ha
      have h10 := lev_wid h5 hb
      rw [e3.1] at h9
      omega
theorem wid_mono {a b : Nat} (h : a ≤ b) : wid a ≤ wid b := by
  unfold wid
  repeat' split
  all_goals omega
/-- Forms that agree as far as the shorter one goes are of one number. -/
theorem form_take {a b : Nat} (ha : a < 18446744073709551616) (hb : b < 18446744073709551616) (n : Nat) (hn : n = min (form a).length (form b).length) :
    decide ((form a).take n = (form b).take n) = decide (a = b) := by
  by_cases h : a = b
  · subst h; simp
  · have : ¬ (form a).take n = (form b).take n := fun e => by
      rcases Nat.le_total (form a).length (form b).length with hl | hl
      · rw [hn, Nat.min_eq_left hl, List.take_length] at e
        have := form_pre ha hb ((form b).drop (form a).length) [] (by
          rw [List.append_nil]
          have e2 := List.take_append_drop (form a).length (form b)
          rw [← e] at e2; exact e2)
        exact h this.1
      · rw [hn, Nat.min_eq_right hl, List.take_length] at e
        have := form_pre hb ha ((form a).drop (form b).length) [] (by
          rw [List.append_nil]
          have e2 := List.take_append_drop (form b).length (form a)
          rw [e] at e2; exact e2)
        exact h this.1.symm
    simp [h, this]
end Go.Proofs.Ytalcdejiobpmlaa
