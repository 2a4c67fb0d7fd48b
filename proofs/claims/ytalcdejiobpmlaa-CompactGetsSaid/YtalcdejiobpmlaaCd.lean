/- What compact.Get returns, and what the reader is then. -/
import Derived.Test.YtalcdejiobpmlaaCc
import Derived.Test.YtalcdejiobpmlaaRg
import Derived.Outline
namespace Go.Proofs.Ytalcdejiobpmlaa
open Go.RowKit
set_option linter.unusedVariables false
set_option linter.unusedSimpArgs false
set_option maxRecDepth 100000
theorem grown_trans {w w1 w2 : World} {p : Option Nat} (h : w.grownBy w1 p) (hb : w1.grownBy w2 p) : w.grownBy w2 p :=
  ⟨hb.os.trans h.os, hb.tape.trans h.tape, hb.output.trans h.output, Nat.le_trans h.size hb.size, fun k hk hne => (hb.block k (Nat.lt_of_lt_of_le hk h.size) hne).trans (h.block k hk hne)⟩
/-- The number that a form at the reader's place tells. -/
def gN (s : Option (List (BitVec 8))) : Nat := if fol (numV s 1) = 0 then numV s 1 else numV (numS s 1) (fol (numV s 1))
/-- What is left behind the form. -/
def gS (s : Option (List (BitVec 8))) : Option (List (BitVec 8)) := if fol (numV s 1) = 0 then numS s 1 else numS (numS s 1) (fol (numV s 1))
/-- The error that Get answers. -/
def gE (s : Option (List (BitVec 8))) (most : Nat) : Int := if (gS s).isNone = true ∨ numV s 1 ≠ fst (gN s) then 4 else if most < gN s then 3 else 0
/-- The number that Get answers. -/
def gV (s : Option (List (BitVec 8))) (most : Nat) : Nat := if gE s most = 0 then gN s else 0
def GetPost (x : Nat) (c : Int) (s : Option (List (BitVec 8))) (B : Nat) (p : Option Nat) (w : World) (e : Ending) (w' : World) : Prop :=
  e = .returned (.tuple #[.int .u64 x, .int .i64 c]) ∧ IsR w' B p s ∧ w.grownBy w' p
theorem takeL_len1 (s : Option (List (BitVec 8))) : (takeL s 1).length ≤ 1 := by
  cases s with
  | none => simp [takeL]
  | some L =>
    simp only [takeL]
    split
    · rw [List.length_take]; omega
    · simp
theorem numV_1 (s : Option (List (BitVec 8))) : numV s 1 < 256 := by
  have h := lev_lt (takeL s 1)
  have h1 := takeL_len1 s
  have : 2 ^ (8 * (takeL s 1).length) ≤ 2 ^ 8 := Nat.pow_le_pow_right (by omega) (by omega)
  unfold numV
  split <;> omega
theorem get_one (p q : Option Nat) (s s2 : Option (List (BitVec 8))) (x1 W f2 most B : Nat) (w : World) (h : IsR w B p s) (hB : B ≤ w.heap.size) (hx : numV s 1 = x1) (hs1 : numS s 1 = s2) (hW : fol x1 = W) (hW0 : W = 0) (hf2 : fst x1 = f2) :
    Calls Try.prog 18 #[ptr p, .int .u64 most] w (GetPost (if (s2.isNone = true ∨ x1 ≠ f2) ∨ most < x1 then 0 else x1) (if s2.isNone = true ∨ x1 ≠ f2 then 4 else if most < x1 then 3 else 0) s2 B p w) := by
  have K1 := Lib.hid (num_any p s 1 B w h hB)
  have hx8 : (x1 : Int) < 256 := by have := numV_1 s; omega
  have HB := Lib.hid hB
  have K26 := Lib.hid (fun w => following_any x1 w)
  have K25 := Lib.hid (fun w => first_any x1 w)
  rw [hx, hs1] at K1
  rw [hW] at K26
  rw [hf2] at K25
  subst hW0
  clear h hB hx hs1 hW hf2
  by_cases ht : s2.isNone = true
  · have HT := Lib.hid ht
    rw [if_pos (Or.inl (Or.inl ht)), if_pos (Or.inl ht)]
    clear ht
    go_enter Try.func18, Try.ntmps18
    go_wp2_with (first
      | (go_at_call 29; (with_reducible refine K1.out.mono ?_); rintro e w2 ⟨rfl, hi2, hg2⟩; have KT := Lib.hid (torn_any p _ B w2 hi2); have HI2 := Lib.hid hi2; have HG2 := Lib.hid hg2; rw [HT.out] at KT; clear hi2 hg2 K1; dsimp only)
      | (go_at_call 26; (with_reducible refine (K26.out _).mono ?_); rintro e w' ⟨rfl, rfl⟩; dsimp only)
      | (go_at_call 24; (with_reducible refine KT.out.mono ?_); rintro e w' ⟨rfl, rfl⟩; dsimp only)
      | (go_at_call 25; (with_reducible refine (K25.out _).mono ?_); rintro e w' ⟨rfl, rfl⟩; dsimp only))
    go_ret2
    exact ⟨rfl, HI2.out, HG2.out⟩
  · have htf : s2.isNone = false := Bool.eq_false_iff.2 ht
    have HT := Lib.hid htf
    by_cases hf : x1 = f2
    · have hff : ((x1 : Int) != (f2 : Int)) = false := by simp; omega
      by_cases hm : most < x1
      · have hm1 : (most : Int) < (x1 : Int) := by omega
        rw [if_pos (Or.inr hm), if_neg (by simp [ht, hf]), if_pos hm]
        clear ht htf hf hm
        go_enter Try.func18, Try.ntmps18
        go_wp2_with (first
          | (go_at_call 29; (with_reducible refine K1.out.mono ?_); rintro e w2 ⟨rfl, hi2, hg2⟩; have KT := Lib.hid (torn_any p _ B w2 hi2); have HI2 := Lib.hid hi2; have HG2 := Lib.hid hg2; rw [HT.out] at KT; clear hi2 hg2 K1; dsimp only)
          | (go_at_call 26; (with_reducible refine (K26.out _).mono ?_); rintro e w' ⟨rfl, rfl⟩; dsimp only)
          | (go_at_call 24; (with_reducible refine KT.out.mono ?_); rintro e w' ⟨rfl, rfl⟩; dsimp only)
          | (go_at_call 25; (with_reducible refine (K25.out _).mono ?_); rintro e w' ⟨rfl, rfl⟩; dsimp only))
        go_ret2
        exact ⟨rfl, HI2.out, HG2.out⟩
      · have hm1 : ¬ (most : Int) < (x1 : Int) := by omega
        rw [if_neg (by simp [ht, hf]; omega), if_neg (by simp [ht, hf]), if_neg hm]
        clear ht htf hf hm
        go_enter Try.func18, Try.ntmps18
        go_wp2_with (first
          | (go_at_call 29; (with_reducible refine K1.out.mono ?_); rintro e w2 ⟨rfl, hi2, hg2⟩; have KT := Lib.hid (torn_any p _ B w2 hi2); have HI2 := Lib.hid hi2; have HG2 := Lib.hid hg2; rw [HT.out] at KT; clear hi2 hg2 K1; dsimp only)
          | (go_at_call 26; (with_reducible refine (K26.out _).mono ?_); rintro e w' ⟨rfl, rfl⟩; dsimp only)
          | (go_at_call 24; (with_reducible refine KT.out.mono ?_); rintro e w' ⟨rfl, rfl⟩; dsimp only)
          | (go_at_call 25; (with_reducible refine (K25.out _).mono ?_); rintro e w' ⟨rfl, rfl⟩; dsimp only))
        go_ret2
        exact ⟨rfl, HI2.out, HG2.out⟩
    · have hff : ((x1 : Int) != (f2 : Int)) = true := by simp; omega
      rw [if_pos (Or.inl (Or.inr hf)), if_pos (Or.inr hf)]
      clear ht htf hf
      go_enter Try.func18, Try.ntmps18
      go_wp2_with (first
        | (go_at_call 29; (with_reducible refine K1.out.mono ?_); rintro e w2 ⟨rfl, hi2, hg2⟩; have KT := Lib.hid (torn_any p _ B w2 hi2); have HI2 := Lib.hid hi2; have HG2 := Lib.hid hg2; rw [HT.out] at KT; clear hi2 hg2 K1; dsimp only)
        | (go_at_call 26; (with_reducible refine (K26.out _).mono ?_); rintro e w' ⟨rfl, rfl⟩; dsimp only)
        | (go_at_call 24; (with_reducible refine KT.out.mono ?_); rintro e w' ⟨rfl, rfl⟩; dsimp only)
        | (go_at_call 25; (with_reducible refine (K25.out _).mono ?_); rintro e w' ⟨rfl, rfl⟩; dsimp only))
      go_ret2
      exact ⟨rfl, HI2.out, HG2.out⟩
theorem get_two (p q : Option Nat) (s s1 s2 : Option (List (BitVec 8))) (x1 x2 W f2 most B : Nat) (w : World) (h : IsR w B p s) (hB : B ≤ w.heap.size) (hx : numV s 1 = x1) (hs1 : numS s 1 = s1) (hW : fol x1 = W) (hx2 : numV s1 W = x2) (hs2 : numS s1 W = s2) (hW0 : W ≠ 0) (hf2 : fst x2 = f2) :
    Calls Try.prog 18 #[ptr p, .int .u64 most] w (GetPost (if (s2.isNone = true ∨ x1 ≠ f2) ∨ most < x2 then 0 else x2) (if s2.isNone = true ∨ x1 ≠ f2 then 4 else if most < x2 then 3 else 0) s2 B p w) := by
  have K1 := Lib.hid (num_any p s 1 B w h hB)
  have hx8 : (x1 : Int) < 256 := by have := numV_1 s; omega
  have HB := Lib.hid hB
  have K26 := Lib.hid (fun w => following_any x1 w)
  have K25 := Lib.hid (fun w => first_any x2 w)
  rw [hx, hs1] at K1
  rw [hW] at K26
  rw [hf2] at K25
  have HX2 := Lib.hid hx2
  have HS2 := Lib.hid hs2
  have hWp : (0 : Int) < (W : Int) := by omega
  obtain ⟨P, hP⟩ : ∃ P, P = ptr p := ⟨_, rfl⟩
  clear h hB hx hs1 hW hW0 hf2 hx2 hs2
  by_cases ht : s2.isNone = true
  · have HT := Lib.hid ht
    rw [if_pos (Or.inl (Or.inl ht)), if_pos (Or.inl ht)]
    clear ht
    go_enter Try.func18, Try.ntmps18
    go_wp2_with (first
      | (go_at_call 29; (with_reducible refine K2.out.mono ?_); rintro e w2 ⟨rfl, hi2, hg2⟩; have KT := Lib.hid (torn_any p _ B w2 hi2); have HI2 := Lib.hid hi2; have HG2 := Lib.hid hg2; rw [HT.out] at KT; clear hi2 hg2 K2; dsimp only)
      | (go_at_call 29; (with_reducible refine K1.out.mono ?_); rintro e w1 ⟨rfl, hi, hg⟩; have K2 := Lib.hid (num_any p s1 W B w1 hi (Nat.le_trans HB.out hg.size)); have HG1 := Lib.hid hg; rw [HX2.out, HS2.out] at K2; clear hi hg K1; dsimp only)
      | (go_at_call 26; (with_reducible refine (K26.out _).mono ?_); rintro e w' ⟨rfl, rfl⟩; dsimp only)
      | (go_at_call 24; (with_reducible refine KT.out.mono ?_); rintro e w' ⟨rfl, rfl⟩; dsimp only)
      | (go_at_call 25; (with_reducible refine (K25.out _).mono ?_); rintro e w' ⟨rfl, rfl⟩; dsimp only))
    go_ret2
    exact ⟨rfl, HI2.out, grown_trans HG1.out HG2.out⟩
  · have htf : s2.isNone = false := Bool.eq_false_iff.2 ht
    have HT := Lib.hid htf
    by_cases hf : x1 = f2
    · have hff : ((x1 : Int) != (f2 : Int)) = false := by simp; omega
      by_cases hm : most < x2
      · have hm1 : (most : Int) < (x2 : Int) := by omega
        rw [if_pos (Or.inr hm), if_neg (by simp [ht, hf]), if_pos hm]
        clear ht htf hf hm
        go_enter Try.func18, Try.ntmps18
        go_wp2_with (first
          | (go_at_call 29; (with_reducible refine K2.out.mono ?_); rintro e w2 ⟨rfl, hi2, hg2⟩; have KT := Lib.hid (torn_any p _ B w2 hi2); have HI2 := Lib.hid hi2; have HG2 := Lib.hid hg2; rw [HT.out] at KT; clear hi2 hg2 K2; dsimp only)
          | (go_at_call 29; (with_reducible refine K1.out.mono ?_); rintro e w1 ⟨rfl, hi, hg⟩; have K2 := Lib.hid (num_any p s1 W B w1 hi (Nat.le_trans HB.out hg.size)); have HG1 := Lib.hid hg; rw [HX2.out, HS2.out] at K2; clear hi hg K1; dsimp only)
          | (go_at_call 26; (with_reducible refine (K26.out _).mono ?_); rintro e w' ⟨rfl, rfl⟩; dsimp only)
          | (go_at_call 24; (with_reducible refine KT.out.mono ?_); rintro e w' ⟨rfl, rfl⟩; dsimp only)
          | (go_at_call 25; (with_reducible refine (K25.out _).mono ?_); rintro e w' ⟨rfl, rfl⟩; dsimp only))
        go_ret2
        exact ⟨rfl, HI2.out, grown_trans HG1.out HG2.out⟩
      · have hm1 : ¬ (most : Int) < (x2 : Int) := by omega
        rw [if_neg (by simp [ht, hf]; omega), if_neg (by simp [ht, hf]), if_neg hm]
        clear ht htf hf hm
        go_enter Try.func18, Try.ntmps18
        go_wp2_with (first
          | (go_at_call 29; (with_reducible refine K2.out.mono ?_); rintro e w2 ⟨rfl, hi2, hg2⟩; have KT := Lib.hid (torn_any p _ B w2 hi2); have HI2 := Lib.hid hi2; have HG2 := Lib.hid hg2; rw [HT.out] at KT; clear hi2 hg2 K2; dsimp only)
          | (go_at_call 29; (with_reducible refine K1.out.mono ?_); rintro e w1 ⟨rfl, hi, hg⟩; have K2 := Lib.hid (num_any p s1 W B w1 hi (Nat.le_trans HB.out hg.size)); have HG1 := Lib.hid hg; rw [HX2.out, HS2.out] at K2; clear hi hg K1; dsimp only)
          | (go_at_call 26; (with_reducible refine (K26.out _).mono ?_); rintro e w' ⟨rfl, rfl⟩; dsimp only)
          | (go_at_call 24; (with_reducible refine KT.out.mono ?_); rintro e w' ⟨rfl, rfl⟩; dsimp only)
          | (go_at_call 25; (with_reducible refine (K25.out _).mono ?_); rintro e w' ⟨rfl, rfl⟩; dsimp only))
        go_ret2
        exact ⟨rfl, HI2.out, grown_trans HG1.out HG2.out⟩
    · have hff : ((x1 : Int) != (f2 : Int)) = true := by simp; omega
      rw [if_pos (Or.inl (Or.inr hf)), if_pos (Or.inr hf)]
      clear ht htf hf
      go_enter Try.func18, Try.ntmps18
      go_wp2_with (first
        | (go_at_call 29; (with_reducible refine K2.out.mono ?_); rintro e w2 ⟨rfl, hi2, hg2⟩; have KT := Lib.hid (torn_any p _ B w2 hi2); have HI2 := Lib.hid hi2; have HG2 := Lib.hid hg2; rw [HT.out] at KT; clear hi2 hg2 K2; dsimp only)
        | (go_at_call 29; (with_reducible refine K1.out.mono ?_); rintro e w1 ⟨rfl, hi, hg⟩; have K2 := Lib.hid (num_any p s1 W B w1 hi (Nat.le_trans HB.out hg.size)); have HG1 := Lib.hid hg; rw [HX2.out, HS2.out] at K2; clear hi hg K1; dsimp only)
        | (go_at_call 26; (with_reducible refine (K26.out _).mono ?_); rintro e w' ⟨rfl, rfl⟩; dsimp only)
        | (go_at_call 24; (with_reducible refine KT.out.mono ?_); rintro e w' ⟨rfl, rfl⟩; dsimp only)
        | (go_at_call 25; (with_reducible refine (K25.out _).mono ?_); rintro e w' ⟨rfl, rfl⟩; dsimp only))
      go_ret2
      exact ⟨rfl, HI2.out, grown_trans HG1.out HG2.out⟩
theorem get_any (p : Option Nat) (s : Option (List (BitVec 8))) (most B : Nat) (w : World) (h : IsR w B p s) (hB : B ≤ w.heap.size) :
    Calls Try.prog 18 #[ptr p, .int .u64 most] w (GetPost (gV s most) (gE s most) (gS s) B p w) := by
  have key : ∀ (t : Bool) (a f x : Nat), (if (if t = true ∨ a ≠ f then (4 : Int) else if most < x then 3 else 0) = 0 then x else 0) = (if (t = true ∨ a ≠ f) ∨ most < x then 0 else x) := by
    intro t a f x
    by_cases h1 : t = true ∨ a ≠ f
    · rw [if_pos h1, if_pos (Or.inl h1), if_neg (by decide)]
    · rw [if_neg h1]
      by_cases h2 : most < x
      · rw [if_pos h2, if_pos (Or.inr h2), if_neg (by decide)]
      · rw [if_neg h2, if_pos rfl, if_neg (by intro h; rcases h with h | h; exact h1 h; exact h2 h)]
  by_cases hw : fol (numV s 1) = 0
  · have eN : gN s = numV s 1 := by unfold gN; rw [if_pos hw]
    have eS : gS s = numS s 1 := by unfold gS; rw [if_pos hw]
    have := get_one p p s (numS s 1) (numV s 1) _ (fst (numV s 1)) most B w h hB rfl rfl rfl hw rfl
    unfold gV gE
    rw [eN, eS, key]
    exact this
  · have eN : gN s = numV (numS s 1) (fol (numV s 1)) := by unfold gN; rw [if_neg hw]
    have eS : gS s = numS (numS s 1) (fol (numV s 1)) := by unfold gS; rw [if_neg hw]
    have := get_two p p s (numS s 1) (numS (numS s 1) (fol (numV s 1))) (numV s 1) (numV (numS s 1) (fol (numV s 1))) _ (fst (numV (numS s 1) (fol (numV s 1)))) most B w h hB rfl rfl rfl rfl rfl hw rfl
    unfold gV gE
    rw [eN, eS, key]
    exact this
end Go.Proofs.Ytalcdejiobpmlaa
