/- Folds: of a hash and its branch they make the root, and of others only with a clash. -/
import Derived.Test.YtihbmahjdmfjpaaDoorFu
import Derived.Test.YtihbmahjdmfjpaaDoorFr
import Derived.Outline
namespace Go.Proofs.YtihbmahjdmfjpaaDoor
open Go.RowKit
set_option linter.unusedVariables false
set_option linter.unusedSimpArgs false
set_option maxRecDepth 100000
variable {tw : List (BitVec 8) → List (BitVec 8)}
/-- The texts that are hashed when a branch is folded. -/
def foldedT (tw : List (BitVec 8) → List (BitVec 8)) : Nat → List (BitVec 8) → Nat → Nat → List (List (BitVec 8)) → List (List (BitVec 8))
  | 0, _, _, _, _ => []
  | f + 1, h, i, n, br =>
    if n ≤ 1 then []
    else if sib i n then
      match br with
      | [] => []
      | b :: r => (if i % 2 = 0 then h ++ b else b ++ h) :: foldedT tw f (tw (if i % 2 = 0 then h ++ b else b ++ h)) (i / 2) ((n + 1) / 2) r
    else (h ++ h) :: foldedT tw f (tw (h ++ h)) (i / 2) ((n + 1) / 2) br
theorem foldT_one {f h i n br} (hn : n ≤ 1) : foldT tw (f + 1) h i n br = if br = [] then some h else none := by
  cases br <;> simp [foldT, hn]
theorem foldedT_step {f h i n br} (hn : ¬ n ≤ 1) : foldedT tw (f + 1) h i n br = (if sib i n then (match br with
      | [] => []
      | b :: r => (if i % 2 = 0 then h ++ b else b ++ h) :: foldedT tw f (tw (if i % 2 = 0 then h ++ b else b ++ h)) (i / 2) ((n + 1) / 2) r)
    else (h ++ h) :: foldedT tw f (tw (h ++ h)) (i / 2) ((n + 1) / 2) br) := by
  cases br <;> simp [foldedT, hn]
theorem sib_xo {i n : Nat} (hi : i < n) : sib i n = decide (xo i < n) := by
  unfold sib xo
  by_cases h : i % 2 = 0
  · rw [if_pos h]
    simp [h]
  · rw [if_neg h]
    have h1 : i % 2 = 1 := by omega
    have h2 : i - 1 < n := by omega
    simp [h1, h2]
theorem iK_up (i : Nat) : ∀ k, iK i (k + 1) = iK (i / 2) k
  | 0 => rfl
  | k + 1 => by show iK i (k + 1) / 2 = iK (i / 2) k / 2; rw [iK_up i k]
def brAt (L : List (List (BitVec 8))) (i : Nat) : List (List (BitVec 8)) := if xo i < L.length then [L.getD (xo i) []] else []
theorem branchK_up (L : List (List (BitVec 8))) (i : Nat) : ∀ k, branchK tw L i (k + 1) = brAt L i ++ branchK tw (upR tw L) (i / 2) k
  | 0 => by show [] ++ brAt L i = brAt L i ++ []; simp
  | k + 1 => by
    show branchK tw L i (k + 1) ++ brAt (rowN tw L (k + 1)) (iK i (k + 1)) = brAt L i ++ (branchK tw (upR tw L) (i / 2) k ++ brAt (rowN tw (upR tw L) k) (iK (i / 2) k))
    rw [branchK_up L i k, rowN_up, iK_up, List.append_assoc]
theorem branch_up {L : List (List (BitVec 8))} (h : ¬ L.length < 2) (i : Nat) : branchT tw L i = brAt L i ++ branchT tw (upR tw L) (i / 2) := by
  unfold branchT
  rw [nrow_upR (tw := tw) h, branchK_up]
theorem branch_one (x : List (BitVec 8)) (i : Nat) (hi : i < 1) : branchT tw [x] i = [] := by
  obtain rfl : i = 0 := by omega
  show branchK tw [x] 0 (nrow 1) = []
  rw [nrow_lo (by omega)]
  rfl
/-- The i-th and its neighbour, in order: the text of their pair. -/
theorem pair_of {L : List (List (BitVec 8))} {i : Nat} (hi : i < L.length) (hx : xo i < L.length) : (if i % 2 = 0 then L.getD i [] ++ L.getD (xo i) [] else L.getD (xo i) [] ++ L.getD i []) = pairT L (i / 2) := by
  unfold pairT
  unfold xo at hx ⊢
  by_cases h : i % 2 = 0
  · rw [if_pos h] at hx ⊢
    rw [if_pos h, show 2 * (i / 2) = i by omega, show min 2 (L.length - i) = 2 by omega]
  · rw [if_neg h] at hx ⊢
    rw [if_neg h, show 2 * (i / 2) = i - 1 by omega, show min 2 (L.length - (i - 1)) = 2 by omega, show i - 1 + (2 - 1) = i by omega]
theorem pair_self {L : List (List (BitVec 8))} {i : Nat} (hi : i < L.length) (hx : ¬ xo i < L.length) : L.getD i [] ++ L.getD i [] = pairT L (i / 2) := by
  have h0 : i % 2 = 0 := by
    by_cases h : i % 2 = 0
    · exact h
    · exfalso; unfold xo at hx; rw [if_neg h] at hx; omega
  unfold xo at hx
  rw [if_pos h0] at hx
  unfold pairT
  rw [show 2 * (i / 2) = i by omega, show min 2 (L.length - i) = 1 by omega]
  rfl
theorem fold_step {f n i : Nat} {h : List (BitVec 8)} {br : List (List (BitVec 8))} (hn : ¬ n ≤ 1) : foldT tw (f + 1) h i n br = (if sib i n then (match br with
    | [] => none
    | b :: r => foldT tw f (tw (if i % 2 = 0 then h ++ b else b ++ h)) (i / 2) ((n + 1) / 2) r) else foldT tw f (tw (h ++ h)) (i / 2) ((n + 1) / 2) br) := by
  cases br <;> simp [foldT, hn]
theorem fold_back : ∀ (f : Nat) (L : List (List (BitVec 8))) (i : Nat), L.length ≤ f → i < L.length → foldT tw f (L.getD i []) i L.length (branchT tw L i) = some (rootT tw L)
  | 0, L, i, hf, hi => by omega
  | f + 1, L, i, hf, hi => by
    by_cases h1 : L.length ≤ 1
    · match L, h1, hi with
      | [x], _, hi =>
        obtain rfl : i = 0 := by simpa using hi
        rw [branch_one x 0 (by omega), root_one]
        simp [foldT]
    · have h2 : ¬ L.length < 2 := by omega
      have hul : (upR tw L).length = (L.length + 1) / 2 := by rw [upR_len]; unfold upn; rw [if_neg h2]
      have ih := fold_back f (upR tw L) (i / 2) (by omega) (by omega)
      rw [up_at h2 (by omega), hul] at ih
      rw [fold_step h1, sib_xo hi, branch_up h2, root_up h2]
      unfold brAt
      by_cases hx : xo i < L.length
      · rw [decide_eq_true hx, if_pos rfl, if_pos hx]
        simp only [List.cons_append, List.nil_append]
        rw [pair_of hi hx]; exact ih
      · rw [decide_eq_false hx, if_neg (by simp), if_neg hx, List.nil_append, pair_self hi hx]; exact ih
theorem fold_some : ∀ (f n i : Nat) (h : List (BitVec 8)) (br : List (List (BitVec 8))) (L : List (List (BitVec 8))), n ≤ f → i < n → L.length = n → (foldT tw f h i n br).isSome = decide (br.length = (branchT tw L i).length)
  | 0, n, i, h, br, L, hf, hi, hl => by omega
  | f + 1, n, i, h, br, L, hf, hi, hl => by
    by_cases h1 : n ≤ 1
    · match L, hl, h1, hi with
      | [], hl, _, hi => simp at hl; omega
      | [x], hl, _, hi =>
        rw [branch_one x i (by simp at hl; omega)]
        rw [foldT_one h1]
        by_cases hb : br = []
        · subst hb; simp
        · rw [if_neg hb]
          have : br.length ≠ 0 := fun e => hb (List.eq_nil_of_length_eq_zero e)
          simp [this]
    · have h2 : ¬ L.length < 2 := by omega
      have hul : (upR tw L).length = (n + 1) / 2 := by rw [upR_len, hl]; unfold upn; rw [if_neg (by omega)]
      rw [fold_step h1, sib_xo hi, branch_up h2]
      unfold brAt
      rw [hl]
      by_cases hx : xo i < n
      · rw [decide_eq_true hx, if_pos rfl, if_pos hx]
        cases br with
        | nil => simp
        | cons b r =>
          simp only [List.cons_append, List.nil_append, List.length_cons]
          rw [fold_some f _ _ _ r (upR tw L) (by omega) (by omega) hul]
          simp
      · rw [decide_eq_false hx, if_neg (by simp), if_neg hx, List.nil_append]
        exact fold_some f _ _ _ br (upR tw L) (by omega) (by omega) hul
theorem fold_clash (T : TwC tw) : ∀ (f i : Nat) (h : List (BitVec 8)) (br L : List (List (BitVec 8))), L.length ≤ f → i < L.length → LenN 32 L → h.length = 32 → LenN 32 br → foldT tw f h i L.length br = some (rootT tw L) → ¬ (h = L.getD i [] ∧ br = branchT tw L i) → clashB tw (textsT tw L) (foldedT tw f h i L.length br) = true
  | 0, i, h, br, L, hf, hi, _, _, _, _, _ => by omega
  | f + 1, i, h, br, L, hf, hi, hL, hh, hbr, hr, hne => by
    by_cases h1 : L.length ≤ 1
    · exfalso
      match L, h1, hi, hr, hne with
      | [x], _, hi, hr, hne =>
        obtain rfl : i = 0 := by simpa using hi
        rw [root_one] at hr
        rw [branch_one x 0 (by omega)] at hne
        rw [foldT_one (show [x].length ≤ 1 from Nat.le_refl 1)] at hr
        split at hr
        · rename_i hb
          cases hr
          exact hne ⟨rfl, hb⟩
        · cases hr
    · have h2 : ¬ L.length < 2 := by omega
      have hul : (upR tw L).length = (L.length + 1) / 2 := by rw [upR_len]; unfold upn; rw [if_neg h2]
      have hk : 2 * (i / 2) < L.length := by omega
      rw [fold_step h1, sib_xo hi, root_up h2] at hr
      rw [texts_up h2]
      rw [branch_up h2] at hne
      unfold brAt at hne
      rw [foldedT_step h1, sib_xo hi]
      by_cases hx : xo i < L.length
      · rw [decide_eq_true hx, if_pos rfl] at hr ⊢
        rw [if_pos hx] at hne
        cases br with
        | nil => cases hr
        | cons b r =>
          dsimp only at hr ⊢
          have hb32 : b.length = 32 := hbr b (by simp)
          obtain ⟨t, ht⟩ : ∃ t, t = (if i % 2 = 0 then h ++ b else b ++ h) := ⟨_, rfl⟩
          rw [← ht] at hr ⊢
          by_cases hu : tw t = (upR tw L).getD (i / 2) [] ∧ r = branchT tw (upR tw L) (i / 2)
          · obtain ⟨hu1, hu2⟩ := hu
            rw [up_at h2 hk] at hu1
            refine clashB_mem (x := pairT L (i / 2)) (y := t) (List.mem_append_left _ (pairT_mem h2 hk)) (by simp) (fun e => hne ?_) hu1.symm
            have hp := pair_of hi hx
            rw [e, ht] at hp
            have l1 := hL.at hi
            have l2 := hL.at hx
            by_cases h0 : i % 2 = 0
            · rw [if_pos h0, if_pos h0] at hp
              obtain ⟨e1, e2⟩ := List.append_inj hp (by rw [l1, hh])
              exact ⟨e1.symm, by rw [← e2, hu2]; rfl⟩
            · rw [if_neg h0, if_neg h0] at hp
              obtain ⟨e1, e2⟩ := List.append_inj hp (by rw [l2, hb32])
              exact ⟨e2.symm, by rw [← e1, hu2]; rfl⟩
          · have := fold_clash T f (i / 2) (tw t) r (upR tw L) (by omega) (by omega) (up_32 T) (T.len t) (fun y hy => hbr y (by simp [hy])) (by rw [hul]; exact hr) hu
            rw [hul] at this
            exact clashB_mono this (fun x hx => List.mem_append_right _ hx) (fun x hx => List.mem_cons_of_mem _ hx)
      · rw [decide_eq_false hx, if_neg (by simp)] at hr ⊢
        rw [if_neg hx, List.nil_append] at hne
        by_cases hu : tw (h ++ h) = (upR tw L).getD (i / 2) [] ∧ br = branchT tw (upR tw L) (i / 2)
        · obtain ⟨hu1, hu2⟩ := hu
          rw [up_at h2 hk] at hu1
          refine clashB_mem (x := pairT L (i / 2)) (y := h ++ h) (List.mem_append_left _ (pairT_mem h2 hk)) (by simp) (fun e => hne ?_) hu1.symm
          have hp := pair_self hi hx
          rw [e] at hp
          obtain ⟨e1, e2⟩ := List.append_inj hp (by rw [hL.at hi, hh])
          exact ⟨e1.symm, hu2⟩
        · have := fold_clash T f (i / 2) (tw (h ++ h)) br (upR tw L) (by omega) (by omega) (up_32 T) (T.len _) hbr (by rw [hul]; exact hr) hu
          rw [hul] at this
          exact clashB_mono this (fun x hx => List.mem_append_right _ hx) (fun x hx => List.mem_cons_of_mem _ hx)
end Go.Proofs.YtihbmahjdmfjpaaDoor
