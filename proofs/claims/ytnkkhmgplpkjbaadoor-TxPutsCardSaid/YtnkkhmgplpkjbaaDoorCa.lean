/- The compact form of a number: what first, following and Size return. -/
import Derived.Test.YtnkkhmgplpkjbaaDoorPa
import Derived.Outline
namespace Go.Proofs.YtnkkhmgplpkjbaaDoor
open Go.RowKit
set_option linter.unusedVariables false
set_option linter.unusedSimpArgs false
set_option maxRecDepth 100000
/-- How many bytes follow the first one of the form of n. -/
def wid (n : Nat) : Nat := if n < 253 then 0 else if n < 65536 then 2 else if n < 4294967296 then 4 else 8
/-- The first byte of the form of n. -/
def fst (n : Nat) : Nat := if n < 253 then n else if n < 65536 then 253 else if n < 4294967296 then 254 else 255
/-- How many bytes follow a first byte. -/
def fol (b : Nat) : Nat := if b = 255 then 8 else if b = 254 then 4 else if b = 253 then 2 else 0
/-- The compact form of n. -/
def form (n : Nat) : List (BitVec 8) := BitVec.ofNat 8 (fst n) :: les n (wid n)
theorem fst_lt (n : Nat) : fst n < 256 := by
  unfold fst
  repeat' split
  all_goals omega
theorem fol_fst (n : Nat) : fol (fst n) = wid n := by
  unfold fol fst wid
  by_cases h1 : n < 253
  · simp only [h1, if_true]; rw [if_neg (by omega), if_neg (by omega), if_neg (by omega)]
  · by_cases h2 : n < 65536
    · simp [h1, h2]
    · by_cases h3 : n < 4294967296
      · simp [h1, h2, h3]
      · simp [h1, h2, h3]
theorem wid_le (n : Nat) : wid n ≤ 8 := by
  unfold wid
  repeat' split
  all_goals omega
theorem form_len (n : Nat) : (form n).length = 1 + wid n := by simp [form, les_len]; omega
theorem first_any (n : Nat) (w : World) : Calls Tryd.prog 104 #[.int .u64 n] w fun e w' => e = .returned (.int .u8 (fst n)) ∧ w = w' := by
  by_cases h1 : n < 253
  · have e : fst n = n := by simp [fst, h1]
    have h1' : (n : Int) < 253 := by omega
    rw [e]
    clear h1 e
    go_enter Tryd.func104, Tryd.ntmps104
    go_wp2
    go_ret
    exact ⟨rfl, rfl⟩
  · have h1' : ¬ (n : Int) < 253 := by omega
    by_cases h2 : n < 65536
    · have e : fst n = 253 := by simp [fst, h1, h2]
      have h2' : (n : Int) < 65536 := by omega
      rw [e]
      clear h1 h2 e
      go_enter Tryd.func104, Tryd.ntmps104
      go_wp2
      go_ret
      exact ⟨rfl, rfl⟩
    · have h2' : ¬ (n : Int) < 65536 := by omega
      by_cases h3 : n < 4294967296
      · have e : fst n = 254 := by simp [fst, h1, h2, h3]
        have h3' : (n : Int) < 4294967296 := by omega
        rw [e]
        clear h1 h2 h3 e
        go_enter Tryd.func104, Tryd.ntmps104
        go_wp2
        go_ret
        exact ⟨rfl, rfl⟩
      · have e : fst n = 255 := by simp [fst, h1, h2, h3]
        have h3' : ¬ (n : Int) < 4294967296 := by omega
        rw [e]
        clear h1 h2 h3 e
        go_enter Tryd.func104, Tryd.ntmps104
        go_wp2
        go_ret
        exact ⟨rfl, rfl⟩
theorem following_any (b : Nat) (w : World) : Calls Tryd.prog 103 #[.int .u8 b] w fun e w' => e = .returned (.int .i64 (fol b)) ∧ w = w' := by
  by_cases h1 : b = 255
  · subst h1
    go_enter Tryd.func103, Tryd.ntmps103
    go_wp2
    go_ret
    exact ⟨rfl, rfl⟩
  · have e1 : ((b : Int) == 255) = false := by simp; omega
    by_cases h2 : b = 254
    · subst h2
      go_enter Tryd.func103, Tryd.ntmps103
      go_wp2
      go_ret
      exact ⟨rfl, rfl⟩
    · have e2 : ((b : Int) == 254) = false := by simp; omega
      by_cases h3 : b = 253
      · subst h3
        go_enter Tryd.func103, Tryd.ntmps103
        go_wp2
        go_ret
        exact ⟨rfl, rfl⟩
      · have e3 : ((b : Int) == 253) = false := by simp; omega
        have e : fol b = 0 := by simp [fol, h1, h2, h3]
        rw [e]
        clear e h1 h2 h3
        go_enter Tryd.func103, Tryd.ntmps103
        go_wp2
        go_ret
        exact ⟨rfl, rfl⟩
theorem size_any (n : Nat) (w : World) : Calls Tryd.prog 105 #[.int .u64 n] w fun e w' => e = .returned (.int .i64 ((1 + wid n : Nat) : Int)) ∧ w = w' := by
  have K1 := Lib.hid (first_any n w)
  have K2 := Lib.hid (following_any (fst n) w)
  rw [fol_fst] at K2
  have hl := wid_le n
  obtain ⟨b, hb⟩ : ∃ b, b = fst n := ⟨_, rfl⟩
  obtain ⟨v, hv⟩ : ∃ v, v = wid n := ⟨_, rfl⟩
  rw [← hb] at K1 K2
  rw [← hv] at K2 hl ⊢
  clear hb hv
  go_enter Tryd.func105, Tryd.ntmps105
  go_wp2_with (first | (go_at_call 104; (with_reducible refine K1.out.mono ?_); rintro e w' ⟨rfl, rfl⟩; dsimp only) | (go_at_call 103; (with_reducible refine K2.out.mono ?_); rintro e w' ⟨rfl, rfl⟩; dsimp only))
  go_ret
  exact ⟨ret_int (by omega), rfl⟩
end Go.Proofs.YtnkkhmgplpkjbaaDoor
