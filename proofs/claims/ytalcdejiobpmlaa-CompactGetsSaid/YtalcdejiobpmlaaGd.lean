/- What the document's own Text tells, and what the reader is then. -/
import Derived.Test.YtalcdejiobpmlaaGc
import Derived.Outline
namespace Go.Proofs.Ytalcdejiobpmlaa
open Go.RowKit
set_option linter.unusedVariables false
set_option linter.unusedSimpArgs false
set_option maxRecDepth 100000
def RTextPost (L : List (BitVec 8)) (c : Int) (s : Option (List (BitVec 8))) (B q : Nat) (X : List (BitVec 8)) (A : Option Addr) (cap : Nat) (w : World) (e : Ending) (w' : World) : Prop :=
  ∃ v a' gone', e = .returned (.tuple #[v, .int .i64 c]) ∧ OB w' w.heap.size v L ∧ IsQ w' B q X a' gone' A cap ∧ stQ X a' gone' = s ∧ w.grownBy w' (some q)
theorem rtext_nn (q B a cap : Nat) (gone : Bool) (A : Option Addr) (X : List (BitVec 8)) (most : Int) (M : Nat) (w : World) (h : IsQ w B q X a gone A cap) (hB : B ≤ w.heap.size) (hX : X.length ≤ 100000000) (hm : M ≤ 9223372036854775807) (hM : (most < 0 ∧ M = 0) ∨ (¬ most < 0 ∧ most = M)) :
    Calls Try.prog 21 #[.pointer (some ⟨q, 0, none⟩), .int .i64 most] w (RTextPost (tL (stQ X a gone) M) (tE (stQ X a gone) M) (tS (stQ X a gone) M) B q X A cap w) := by
  have K19 := Lib.hid (rget_any q B a cap gone A X M w h hB hX)
  have HB := Lib.hid hB
  have HXl := Lib.hid hX
  obtain ⟨s, hs⟩ : ∃ s, s = stQ X a gone := ⟨_, rfl⟩
  rw [← hs] at K19 ⊢
  by_cases he : gE s M = 0
  · have hN := gE_ne s M he
    have eS : tS s M = cutS (gS s) (gN s) := by unfold tS; rw [if_pos he]
    have eV : gV s M = gN s := by unfold gV; rw [if_pos he]
    have eE : tE s M = if (cutS (gS s) (gN s)).isNone = true then 4 else 0 := by unfold tE; rw [if_pos he]
    have eL : tL s M = if tE s M = 0 then takeL (gS s) (gN s) else [] := rfl
    rw [eL, eE, eS]
    rw [he, eV] at K19
    obtain ⟨x, hx⟩ : ∃ x, x = gN s := ⟨_, rfl⟩
    rw [← hx] at K19 hN ⊢
    obtain ⟨g, hg⟩ : ∃ g, g = gS s := ⟨_, rfl⟩
    rw [← hg] at K19 ⊢
    have hx1 : (x : Int) ≤ 9223372036854775807 := by omega
    obtain ⟨t, ht⟩ : ∃ t, t = (cutS g x).isNone := ⟨_, rfl⟩
    have HT := Lib.hid ht
    rw [← ht]
    have hmu : (M : Int) ≤ 9223372036854775807 := by omega
    clear h hB hX he hN eS eV eE eL hx hg ht hm hs
    cases t with
    | true =>
      rw [if_pos rfl, if_neg (by decide : ¬ ((4 : Int) = 0))]
      rcases hM with ⟨h0, rfl⟩ | ⟨h0, rfl⟩
      all_goals
        try rw [Int.natCast_zero] at K19
        go_enter Try.func21, Try.ntmps21
        go_wp2_with (first
          | (go_at_call 19; (with_reducible refine K19.out.mono ?_); rintro e w1 ⟨a1, g1, rfl, hq, hs, hg⟩; have K32 := Lib.hid (rtake_any q B a1 cap g1 A X x w1 hq (Nat.le_trans HB.out hg.size) HXl.out); rw [hs] at K32; have HG1 := Lib.hid hg; clear hq hs hg K19; dsimp only)
          | (go_at_call 32; (with_reducible refine K32.out.mono ?_); rintro e w2 ⟨v, a2, g2, rfl, ho, hq2, hs2, hg2⟩; have HQ2 := Lib.hid hq2; have HS2 := Lib.hid hs2; have HG2 := Lib.hid hg2; obtain rfl := (stQ_gone hs2).trans HT.out.symm; have d2 := hq2.c2; clear hq2 hs2 hg2 ho K32; dsimp only))
        go_ret2
        exact ⟨_, _, _, rfl, OB.nil _ _, HQ2.out, HS2.out, grown_trans HG1.out HG2.out⟩
    | false =>
      rw [if_neg (by decide : ¬ (false = true)), if_pos rfl]
      rcases hM with ⟨h0, rfl⟩ | ⟨h0, rfl⟩
      all_goals
        try rw [Int.natCast_zero] at K19
        go_enter Try.func21, Try.ntmps21
        go_wp2_with (first
          | (go_at_call 19; (with_reducible refine K19.out.mono ?_); rintro e w1 ⟨a1, g1, rfl, hq, hs, hg⟩; have K32 := Lib.hid (rtake_any q B a1 cap g1 A X x w1 hq (Nat.le_trans HB.out hg.size) HXl.out); rw [hs] at K32; have HG1 := Lib.hid hg; clear hq hs hg K19; dsimp only)
          | (go_at_call 32; (with_reducible refine K32.out.mono ?_); rintro e w2 ⟨v, a2, g2, rfl, ho, hq2, hs2, hg2⟩; have HQ2 := Lib.hid hq2; have HS2 := Lib.hid hs2; have HG2 := Lib.hid hg2; have HO := Lib.hid ho; obtain rfl := (stQ_gone hs2).trans HT.out.symm; have d2 := hq2.c2; clear hq2 hs2 hg2 ho K32; dsimp only))
        go_ret2
        exact ⟨_, _, _, rfl, HO.out.base HG1.out.size, HQ2.out, HS2.out, grown_trans HG1.out HG2.out⟩
  · have eS : tS s M = gS s := by unfold tS; rw [if_neg he]
    have eV : gV s M = 0 := by unfold gV; rw [if_neg he]
    have eE : tE s M = gE s M := by unfold tE; rw [if_neg he]
    have eL : tL s M = [] := by unfold tL; rw [eE, if_neg he]
    rw [eL, eE, eS]
    rw [eV] at K19
    obtain ⟨c, hc⟩ : ∃ c, c = gE s M := ⟨_, rfl⟩
    rw [← hc] at K19 he ⊢
    have hc0 : (c != 0) = true := by simpa using he
    have hmu : (M : Int) ≤ 9223372036854775807 := by omega
    clear h hB hX he eS eV eE eL hc hm hs
    rcases hM with ⟨h0, rfl⟩ | ⟨h0, rfl⟩
    all_goals
      try rw [Int.natCast_zero] at K19
      go_enter Try.func21, Try.ntmps21
      go_wp2_with (go_at_call 19; (with_reducible refine K19.out.mono ?_); rintro e w1 ⟨a1, g1, rfl, hq, hs, hg⟩; have HQ := Lib.hid hq; have HS := Lib.hid hs; have HG1 := Lib.hid hg; clear hq hs hg K19; dsimp only)
      go_ret2
      exact ⟨_, _, _, rfl, OB.nil _ _, HQ.out, HS.out, HG1.out⟩
theorem rtext_any (q B a cap : Nat) (gone : Bool) (A : Option Addr) (X : List (BitVec 8)) (most : Int) (w : World) (h : IsQ w B q X a gone A cap) (hB : B ≤ w.heap.size) (hX : X.length ≤ 100000000) (hm : most ≤ 9223372036854775807) :
    Calls Try.prog 21 #[.pointer (some ⟨q, 0, none⟩), .int .i64 most] w (RTextPost (tL (stQ X a gone) most.toNat) (tE (stQ X a gone) most.toNat) (tS (stQ X a gone) most.toNat) B q X A cap w) :=
  rtext_nn q B a cap gone A X most most.toNat w h hB hX (by omega) (by omega)
end Go.Proofs.Ytalcdejiobpmlaa
