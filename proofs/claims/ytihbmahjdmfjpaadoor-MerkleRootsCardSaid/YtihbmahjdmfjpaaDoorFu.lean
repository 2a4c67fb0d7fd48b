/- Two lists of one length that have one root are the same, or there is a clash. -/
import Derived.Test.YtihbmahjdmfjpaaDoorFt
import Derived.Test.YtihbmahjdmfjpaaDoorFl
import Derived.Outline
namespace Go.Proofs.YtihbmahjdmfjpaaDoor
open Go.RowKit
set_option linter.unusedVariables false
set_option linter.unusedSimpArgs false
set_option maxRecDepth 100000
variable {tw : List (BitVec 8) → List (BitVec 8)}
theorem textsK_up (L : List (List (BitVec 8))) : ∀ k, textsK tw L (k + 1) = pairsT L ++ textsK tw (upR tw L) k
  | 0 => by show [] ++ pairsT L = pairsT L ++ []; simp
  | k + 1 => by
    show textsK tw L (k + 1) ++ pairsT (rowN tw L (k + 1)) = pairsT L ++ (textsK tw (upR tw L) k ++ pairsT (rowN tw (upR tw L) k))
    rw [textsK_up L k, rowN_up, List.append_assoc]
theorem texts_up {L : List (List (BitVec 8))} (h : ¬ L.length < 2) : textsT tw L = pairsT L ++ textsT tw (upR tw L) := by
  unfold textsT
  rw [nrow_upR (tw := tw) h, textsK_up]
theorem clashB_mono {A B A' B' : List (List (BitVec 8))} (h : clashB tw A B = true) (hA : ∀ x ∈ A, x ∈ A') (hB : ∀ x ∈ B, x ∈ B') : clashB tw A' B' = true := by
  unfold clashB at h ⊢
  rw [List.any_eq_true] at h ⊢
  obtain ⟨a, ha, h⟩ := h
  refine ⟨a, hA a ha, ?_⟩
  rw [List.any_eq_true] at h ⊢
  obtain ⟨b, hb, h⟩ := h
  exact ⟨b, hB b hb, h⟩
theorem clashB_mem {A B : List (List (BitVec 8))} {x y : List (BitVec 8)} (hx : x ∈ A) (hy : y ∈ B) (hne : x ≠ y) (he : tw x = tw y) : clashB tw A B = true := by
  unfold clashB
  rw [List.any_eq_true]
  refine ⟨x, hx, ?_⟩
  rw [List.any_eq_true]
  exact ⟨y, hy, by unfold clAt; simp [hne, he]⟩
theorem pairs_inj {A B : List (List (BitVec 8))} (hA : LenN 32 A) (hB : LenN 32 B) (hl : A.length = B.length) (h : ∀ k, 2 * k < A.length → pairT A k = pairT B k) : A = B := by
  refine ext_getD hl fun j hj => ?_
  have h1 := h (j / 2) (by omega)
  unfold pairT at h1
  have l1 : (A.getD (2 * (j / 2)) []).length = (B.getD (2 * (j / 2)) []).length := by rw [hA.at (by omega), hB.at (by omega)]
  obtain ⟨e1, e2⟩ := List.append_inj h1 l1
  by_cases hp : j % 2 = 0
  · rw [show 2 * (j / 2) = j by omega] at e1; exact e1
  · rw [← hl, show 2 * (j / 2) + (min 2 (A.length - 2 * (j / 2)) - 1) = j by omega] at e2; exact e2
theorem pairT_mem {L : List (List (BitVec 8))} {k : Nat} (h2 : ¬ L.length < 2) (hk : 2 * k < L.length) : pairT L k ∈ pairsT L := by
  unfold pairsT pairsN
  rw [if_neg h2]
  exact List.mem_map.2 ⟨k, List.mem_range.2 (by omega), rfl⟩
theorem up_at {L : List (List (BitVec 8))} {k : Nat} (h2 : ¬ L.length < 2) (hk : 2 * k < L.length) : (upR tw L).getD k [] = tw (pairT L k) := by
  unfold upR pairsT pairsN
  rw [if_neg h2]
  simp [List.getD, show k < (L.length + 1) / 2 by omega]
theorem up_32 (T : TwC tw) {L : List (List (BitVec 8))} : LenN 32 (upR tw L) := fun x hx => by
  unfold upR at hx
  obtain ⟨y, _, rfl⟩ := List.mem_map.1 hx
  exact T.len y
theorem root_one (x : List (BitVec 8)) : rootT tw [x] = x := by
  show rootK tw [x] (nrow 1) = x
  rw [nrow_lo (by omega)]
  rfl
theorem apart (T : TwC tw) : ∀ (n : Nat) (A B : List (List (BitVec 8))), A.length ≤ n → LenN 32 A → LenN 32 B → A.length = B.length → rootT tw A = rootT tw B → A ≠ B → clashB tw (textsT tw A) (textsT tw B) = true := by
  intro n
  induction n with
  | zero =>
    intro A B hn _ _ hl _ hne
    have hA : A = [] := List.eq_nil_of_length_eq_zero (by omega)
    have hB : B = [] := List.eq_nil_of_length_eq_zero (by omega)
    exact absurd (hA.trans hB.symm) hne
  | succ n ih =>
    intro A B hn hA hB hl hr hne
    by_cases h2 : A.length < 2
    · exfalso
      match A, B, hl, h2, hr, hne with
      | [], [], _, _, _, hne => exact hne rfl
      | [a], [b], _, _, hr, hne =>
        rw [root_one, root_one] at hr
        exact hne (by rw [hr])
    · have h2' : ¬ B.length < 2 := by omega
      rw [root_up h2, root_up h2'] at hr
      rw [texts_up h2, texts_up h2']
      by_cases he : upR tw A = upR tw B
      · have hex : ∃ k, 2 * k < A.length ∧ pairT A k ≠ pairT B k := by
          refine Classical.byContradiction fun hno => hne (pairs_inj hA hB hl fun k hk => ?_)
          exact Classical.byContradiction fun hk2 => hno ⟨k, hk, hk2⟩
        obtain ⟨k, hk, hk2⟩ := hex
        refine clashB_mem (x := pairT A k) (y := pairT B k) (List.mem_append_left _ (pairT_mem h2 hk)) (List.mem_append_left _ (pairT_mem h2' (by omega))) hk2 ?_
        rw [← up_at (tw := tw) h2 hk, ← up_at (tw := tw) h2' (by omega), he]
      · refine clashB_mono (ih (upR tw A) (upR tw B) ?_ (up_32 T) (up_32 T) ?_ hr he) (fun x hx => List.mem_append_right _ hx) (fun x hx => List.mem_append_right _ hx)
        · rw [upR_len]; unfold upn; rw [if_neg h2]; omega
        · rw [upR_len, upR_len, hl]
end Go.Proofs.YtihbmahjdmfjpaaDoor
