/- Plain facts: what Get finds in a form, and what was found is a form. -/
import Derived.Test.YtalcdejiobpmlaaIa
namespace Go.Proofs.Ytalcdejiobpmlaa
open Go.RowKit
set_option linter.unusedVariables false
set_option linter.unusedSimpArgs false
set_option maxRecDepth 100000
theorem num1_cons (c : BitVec 8) (r : List (BitVec 8)) : numV (some (c :: r)) 1 = c.toNat ∧ numS (some (c :: r)) 1 = some r := by
  have hb : hasB (some (c :: r)) 1 = true := by simp [hasB]; omega
  have hw : isW 1 = true := rfl
  obtain ⟨h1, h2, _⟩ := cut_yes hb
  refine ⟨?_, ?_⟩
  · unfold numV; rw [if_pos hw, h1]; simp [lev]
  · unfold numS; rw [if_pos hw, h2]; simp
theorem num1_nil : numV (some []) 1 = 0 ∧ numS (some []) 1 = none := by
  constructor <;> decide
theorem numW_yes {W : Nat} (hW : isW W = true) {r : List (BitVec 8)} (h : W ≤ r.length) : numV (some r) W = lev (r.take W) ∧ numS (some r) W = some (r.drop W) := by
  have hb : hasB (some r) W = true := by simp [hasB]; omega
  obtain ⟨h1, h2, _⟩ := cut_yes hb
  refine ⟨?_, ?_⟩
  · unfold numV; rw [if_pos hW, h1]; simp
  · unfold numS; rw [if_pos hW, h2]; simp
theorem numW_no {W : Nat} {r : List (BitVec 8)} (h : r.length < W) : numS (some r) W = none := by
  have hb : hasB (some r) W = false := by simp [hasB]; omega
  unfold numS
  split
  · exact (cut_no hb).2
  · rfl
theorem fol_W {b : Nat} (h : fol b ≠ 0) : isW (fol b) = true := by
  unfold fol at h ⊢
  split
  · rfl
  · rename_i h1
    rw [if_neg h1] at h
    split
    · rfl
    · rename_i h2
      rw [if_neg h2] at h
      split
      · rfl
      · rename_i h3
        rw [if_neg h3] at h; exact absurd rfl h
theorem les_lev : ∀ (L : List (BitVec 8)), les (lev L) L.length = L := by
  intro L
  apply List.ext_getElem
  · rw [les_len]
  · intro i h1 h2
    have key : ∀ (L : List (BitVec 8)) (i : Nat) (h : i < L.length), BitVec.ofNat 8 (lev L / 2 ^ (8 * i)) = L[i] := by
      intro L
      induction L with
      | nil => intro i h; simp at h
      | cons x r ih =>
        intro i h
        have hx := x.isLt
        cases i with
        | zero =>
          apply BitVec.eq_of_toNat_eq
          simp [lev]
          omega
        | succ i =>
          rw [show 8 * (i + 1) = 8 + 8 * i by omega, Nat.pow_add, ← Nat.div_div_eq_div_mul, lev, show (x.toNat + 256 * lev r) / 2 ^ 8 = lev r by omega]
          simpa using ih i (by simpa using h)
    have := key L i h2
    simpa [les] using this
theorem fst_lo {n : Nat} (h : n < 253) : fst n = n := by simp [fst, h]
theorem lo_of_fol {b : Nat} (h : fol b = 0) (h2 : b < 256) : b < 253 := by
  rcases Nat.lt_or_ge b 253 with h1 | h1
  · exact h1
  · exfalso
    have : b = 253 ∨ b = 254 ∨ b = 255 := by omega
    rcases this with rfl | rfl | rfl <;> exact absurd h (by decide)
/-- What Get finds is a form, and what it leaves lies behind it. -/
theorem get_form {X : List (BitVec 8)} {most : Nat} (h : gE (some X) most = 0) : ∃ Y, X = form (gN (some X)) ++ Y ∧ gS (some X) = some Y ∧ gN (some X) < 18446744073709551616 := by
  have hg : ¬ ((gS (some X)).isNone = true ∨ numV (some X) 1 ≠ fst (gN (some X))) := by
    intro hh
    unfold gE at h
    rw [if_pos hh] at h
    exact absurd h (by decide)
  have hg1 : ¬ (gS (some X)).isNone = true := fun hh => hg (.inl hh)
  have hg2 : numV (some X) 1 = fst (gN (some X)) := Classical.byContradiction fun hh => hg (.inr hh)
  cases X with
  | nil =>
    exfalso
    apply hg1
    unfold gS
    rw [num1_nil.1, if_pos (show fol 0 = 0 from rfl), num1_nil.2]
    rfl
  | cons c r =>
    obtain ⟨e1, e2⟩ := num1_cons c r
    have hc := c.isLt
    by_cases hw : fol c.toNat = 0
    · have eN : gN (some (c :: r)) = c.toNat := by unfold gN; rw [e1, if_pos hw]
      have eS : gS (some (c :: r)) = some r := by unfold gS; rw [e1, if_pos hw, e2]
      refine ⟨r, ?_, eS, by rw [eN]; omega⟩
      have hlo := lo_of_fol hw hc
      rw [eN]
      unfold form
      rw [fst_lo hlo, show wid c.toNat = 0 by simp [wid, hlo]]
      simp [les]
    · have eN : gN (some (c :: r)) = numV (some r) (fol c.toNat) := by unfold gN; rw [e1, if_neg hw, e2]
      have eS : gS (some (c :: r)) = numS (some r) (fol c.toNat) := by unfold gS; rw [e1, if_neg hw, e2]
      rcases Nat.lt_or_ge r.length (fol c.toNat) with hl | hl
      · exfalso; apply hg1; rw [eS, numW_no hl]; rfl
      · obtain ⟨f1, f2⟩ := numW_yes (fol_W hw) hl
        rw [e1, eN, f1] at hg2
        refine ⟨r.drop (fol c.toNat), ?_, by rw [eS, f2], ?_⟩
        · rw [eN, f1]
          unfold form
          rw [← fol_fst, ← hg2]
          have := les_lev (r.take (fol c.toNat))
          rw [List.length_take, Nat.min_eq_left hl] at this
          rw [this]
          simp
        · rw [eN, f1]
          have h1 := lev_lt (r.take (fol c.toNat))
          have h2 : (r.take (fol c.toNat)).length ≤ 8 := by
            have := isW_pos (fol_W hw)
            rw [List.length_take]; omega
          have : 2 ^ (8 * (r.take (fol c.toNat)).length) ≤ 2 ^ 64 := Nat.pow_le_pow_right (by omega) (by omega)
          omega
/-- Get of a form tells its number, and leaves what lies behind. -/
theorem get_of_form (n : Nat) (hn : n < 18446744073709551616) (Y : List (BitVec 8)) : gN (some (form n ++ Y)) = n ∧ gS (some (form n ++ Y)) = some Y ∧ ∀ most, gE (some (form n ++ Y)) most = if most < n then 3 else 0 := by
  have hc : form n ++ Y = BitVec.ofNat 8 (fst n) :: (les n (wid n) ++ Y) := rfl
  obtain ⟨e1, e2⟩ := num1_cons (BitVec.ofNat 8 (fst n)) (les n (wid n) ++ Y)
  rw [← hc] at e1 e2
  have e3 : (BitVec.ofNat 8 (fst n)).toNat = fst n := by
    rw [BitVec.toNat_ofNat]; have := fst_lt n; omega
  rw [e3] at e1
  have key : gN (some (form n ++ Y)) = n ∧ gS (some (form n ++ Y)) = some Y := by
    by_cases hw : wid n = 0
    · have hlo : n < 253 := by
        rcases Nat.lt_or_ge n 253 with h | h
        · exact h
        · have := wid_big (Nat.not_lt.2 h) hn
          rw [hw] at this; omega
      have hf : fol (fst n) = 0 := by rw [fol_fst, hw]
      refine ⟨?_, ?_⟩
      · unfold gN; rw [e1, if_pos hf, fst_lo hlo]
      · unfold gS; rw [e1, if_pos hf, e2, hw]; simp [les]
    · have hf : fol (fst n) ≠ 0 := by rw [fol_fst]; exact hw
      have hW := fol_W hf
      rw [fol_fst] at hW
      obtain ⟨f1, f2⟩ := numW_yes (W := wid n) hW (r := les n (wid n) ++ Y) (by rw [List.length_append, les_len]; omega)
      have hnl : ¬ n < 253 := fun h => hw (by simp [wid, h])
      refine ⟨?_, ?_⟩
      · unfold gN
        rw [e1, if_neg hf, e2, fol_fst, f1, List.take_append_of_le_length (by rw [les_len]; exact Nat.le_refl _), List.take_of_length_le (by rw [les_len]; exact Nat.le_refl _), lev_wid hnl hn]
      · unfold gS
        rw [e1, if_neg hf, e2, fol_fst, f2, List.drop_append_of_le_length (by rw [les_len]; exact Nat.le_refl _), List.drop_eq_nil_of_le (by rw [les_len]; exact Nat.le_refl _)]
        rfl
  refine ⟨key.1, key.2, fun most => ?_⟩
  unfold gE
  rw [key.1, key.2, e1, if_neg (by simp)]
/-- Of a form that is cut nothing is got, and the reader is torn. -/
theorem get_cut (n i : Nat) (hi : i < (form n).length) : gS (some ((form n).take i)) = none := by
  cases i with
  | zero =>
    rw [List.take_zero]
    unfold gS
    rw [num1_nil.1, if_pos (show fol 0 = 0 from rfl), num1_nil.2]
  | succ i =>
    rw [form_len] at hi
    have hc : (form n).take (i + 1) = BitVec.ofNat 8 (fst n) :: (les n (wid n)).take i := rfl
    obtain ⟨e1, e2⟩ := num1_cons (BitVec.ofNat 8 (fst n)) ((les n (wid n)).take i)
    rw [← hc] at e1 e2
    have e3 : (BitVec.ofNat 8 (fst n)).toNat = fst n := by
      rw [BitVec.toNat_ofNat]; have := fst_lt n; omega
    rw [e3] at e1
    unfold gS
    rw [e1, fol_fst, if_neg (by omega), e2]
    exact numW_no (by rw [List.length_take, les_len]; omega)
theorem gE_cut {s : Option (List (BitVec 8))} (h : gS s = none) (most : Nat) : gE s most = 4 := by
  unfold gE
  rw [h, if_pos (Or.inl (show (none : Option (List (BitVec 8))).isNone = true from rfl))]
end Go.Proofs.Ytalcdejiobpmlaa
