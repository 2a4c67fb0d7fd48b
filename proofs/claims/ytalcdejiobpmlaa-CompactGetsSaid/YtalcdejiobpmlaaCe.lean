/- What compact.Text returns, and what the reader is then. -/
import Derived.Test.YtalcdejiobpmlaaCd
import Derived.Lib.MinMax
import Derived.Outline
namespace Go.Proofs.Ytalcdejiobpmlaa
open Go.RowKit
set_option linter.unusedVariables false
set_option linter.unusedSimpArgs false
set_option maxRecDepth 100000
def tE (s : Option (List (BitVec 8))) (most : Nat) : Int := if gE s most = 0 then (if (cutS (gS s) (gN s)).isNone = true then 4 else 0) else gE s most
def tL (s : Option (List (BitVec 8))) (most : Nat) : List (BitVec 8) := if tE s most = 0 then takeL (gS s) (gN s) else []
def tS (s : Option (List (BitVec 8))) (most : Nat) : Option (List (BitVec 8)) := if gE s most = 0 then cutS (gS s) (gN s) else gS s
def TextPost (X : List (BitVec 8)) (c : Int) (s : Option (List (BitVec 8))) (B : Nat) (p : Option Nat) (w : World) (e : Ending) (w' : World) : Prop :=
  ∃ v, e = .returned (.tuple #[v, .int .i64 c]) ∧ OB w' w.heap.size v X ∧ IsR w' B p s ∧ w.grownBy w' p
/-- No more than k bytes are left. -/
def Short (s : Option (List (BitVec 8))) (k : Nat) : Prop := ∀ L, s = some L → L.length ≤ k
theorem cutS_short {s : Option (List (BitVec 8))} {k : Nat} (h : Short s k) (n : Int) : Short (cutS s n) k := by
  cases s with
  | none => intro L e; cases e
  | some M =>
    intro L e
    simp only [cutS] at e
    split at e
    · cases e; have := h M rfl; rw [List.length_drop]; omega
    · cases e
theorem numS_short {s : Option (List (BitVec 8))} {k : Nat} (h : Short s k) (n : Int) : Short (numS s n) k := by
  unfold numS
  split
  · exact cutS_short h n
  · intro L e; cases e
theorem gS_short {s : Option (List (BitVec 8))} {k : Nat} (h : Short s k) : Short (gS s) k := by
  unfold gS
  split
  · exact numS_short h 1
  · exact numS_short (numS_short h 1) _
theorem gE_ne (s : Option (List (BitVec 8))) (most : Nat) (h : gE s most = 0) : gN s ≤ most := by
  unfold gE at h
  split at h
  · cases h
  · split at h
    · cases h
    · omega
theorem text_any (p : Option Nat) (s : Option (List (BitVec 8))) (most : Int) (B : Nat) (w : World) (h : IsR w B p s) (hB : B ≤ w.heap.size) (hl : Short s 100000000) (hm : most ≤ 9223372036854775807) :
    Calls Try.prog 20 #[ptr p, .int .i64 most] w (TextPost (tL s most.toNat) (tE s most.toNat) (tS s most.toNat) B p w) := by
  have K18 := Lib.hid (get_any p s most.toNat B w h hB)
  have hmax : max most 0 = (most.toNat : Int) := by omega
  obtain ⟨M, hM⟩ : ∃ M, M = most.toNat := ⟨_, rfl⟩
  rw [← hM] at K18 hmax ⊢
  have hMl : (M : Int) ≤ 9223372036854775807 := by omega
  have HB := Lib.hid hB
  obtain ⟨P, hP⟩ : ∃ P, P = ptr p := ⟨_, rfl⟩
  by_cases he : gE s M = 0
  · have hN := gE_ne s M he
    have hgl := gS_short hl
    have eS : tS s M = cutS (gS s) (gN s) := by unfold tS; rw [if_pos he]
    have eV : gV s M = gN s := by unfold gV; rw [if_pos he]
    have eE : tE s M = if (cutS (gS s) (gN s)).isNone = true then 4 else 0 := by unfold tE; rw [if_pos he]
    have eL : tL s M = if tE s M = 0 then takeL (gS s) (gN s) else [] := rfl
    rw [eL, eE, eS]
    rw [he, eV] at K18
    obtain ⟨x, hx⟩ : ∃ x, x = gN s := ⟨_, rfl⟩
    rw [← hx] at K18 hN ⊢
    obtain ⟨g, hg⟩ : ∃ g, g = gS s := ⟨_, rfl⟩
    rw [← hg] at K18 hgl ⊢
    have hx1 : (x : Int) ≤ 9223372036854775807 := by omega
    have HG := Lib.hid hgl
    obtain ⟨t, ht⟩ : ∃ t, t = (cutS g x).isNone := ⟨_, rfl⟩
    have HT := Lib.hid ht
    rw [← ht]
    clear h hB hl hm hM he hN hgl eS eV eE eL hx hg ht
    cases t with
    | true =>
      rw [if_pos rfl, if_neg (by decide : ¬ ((4 : Int) = 0))]
      go_enter Try.func20, Try.ntmps20
      go_wp2_with (first
        | (go_at_call 18; (with_reducible refine K18.out.mono ?_); rintro e w1 ⟨rfl, hi, hg⟩; have K31 := Lib.hid (take_any p g x B w1 hi (Nat.le_trans HB.out hg.size) HG.out); have HG1 := Lib.hid hg; clear hi hg K18; dsimp only)
        | (go_at_call 31; (with_reducible refine K31.out.mono ?_); rintro e w2 ⟨v, rfl, ho, hi, hg⟩; have KT := Lib.hid (torn_any p _ B w2 hi); have HI := Lib.hid hi; have HG2 := Lib.hid hg; rw [← HT.out] at KT; clear hi hg ho K31; dsimp only)
        | (go_at_call 24; (with_reducible refine KT.out.mono ?_); rintro e w' ⟨rfl, rfl⟩; dsimp only))
      go_ret2
      exact ⟨_, rfl, OB.nil _ _, HI.out, grown_trans HG1.out HG2.out⟩
    | false =>
      rw [if_neg (by decide : ¬ (false = true)), if_pos rfl]
      go_enter Try.func20, Try.ntmps20
      go_wp2_with (first
        | (go_at_call 18; (with_reducible refine K18.out.mono ?_); rintro e w1 ⟨rfl, hi, hg⟩; have K31 := Lib.hid (take_any p g x B w1 hi (Nat.le_trans HB.out hg.size) HG.out); have HG1 := Lib.hid hg; clear hi hg K18; dsimp only)
        | (go_at_call 31; (with_reducible refine K31.out.mono ?_); rintro e w2 ⟨v, rfl, ho, hi, hg⟩; have KT := Lib.hid (torn_any p _ B w2 hi); have HI := Lib.hid hi; have HO := Lib.hid ho; have HG2 := Lib.hid hg; rw [← HT.out] at KT; clear hi hg ho K31; dsimp only)
        | (go_at_call 24; (with_reducible refine KT.out.mono ?_); rintro e w' ⟨rfl, rfl⟩; dsimp only))
      go_ret2
      exact ⟨_, rfl, HO.out.base HG1.out.size, HI.out, grown_trans HG1.out HG2.out⟩
  · have eS : tS s M = gS s := by unfold tS; rw [if_neg he]
    have eV : gV s M = 0 := by unfold gV; rw [if_neg he]
    have eE : tE s M = gE s M := by unfold tE; rw [if_neg he]
    have eL : tL s M = [] := by unfold tL; rw [eE, if_neg he]
    rw [eL, eE, eS]
    rw [eV] at K18
    obtain ⟨c, hc⟩ : ∃ c, c = gE s M := ⟨_, rfl⟩
    rw [← hc] at K18 he ⊢
    have hc0 : (c != 0) = true := by simpa using he
    clear h hB hl hm hM he eS eV eE eL hc
    go_enter Try.func20, Try.ntmps20
    go_wp2_with (go_at_call 18; (with_reducible refine K18.out.mono ?_); rintro e w1 ⟨rfl, hi, hg⟩; have HI := Lib.hid hi; have HG1 := Lib.hid hg; clear hi hg K18; dsimp only)
    go_ret2
    exact ⟨_, rfl, OB.nil _ _, HI.out, HG1.out⟩
end Go.Proofs.Ytalcdejiobpmlaa
