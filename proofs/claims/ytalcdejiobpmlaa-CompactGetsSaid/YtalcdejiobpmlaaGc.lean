/- What the document's own Get tells, and what the reader is then. -/
import Derived.Test.YtalcdejiobpmlaaGb
import Derived.Test.YtalcdejiobpmlaaCe
import Derived.Test.YtalcdejiobpmlaaVd
import Derived.Outline
namespace Go.Proofs.Ytalcdejiobpmlaa
open Go.RowKit
set_option linter.unusedVariables false
set_option linter.unusedSimpArgs false
set_option maxRecDepth 100000
theorem fol_inj {a b : Nat} (h : fol a = fol b) (h0 : fol a ≠ 0) : a = b := by
  unfold fol at h h0
  by_cases a1 : a = 255
  · subst a1
    by_cases b1 : b = 255
    · exact b1.symm
    · rw [if_pos rfl, if_neg b1] at h
      split at h <;> simp_all
  · rw [if_neg a1] at h h0
    by_cases a2 : a = 254
    · subst a2
      rw [if_pos rfl] at h
      by_cases b1 : b = 255
      · rw [if_pos b1] at h; simp at h
      · rw [if_neg b1] at h
        by_cases b2 : b = 254
        · exact b2.symm
        · rw [if_neg b2] at h
          split at h <;> simp_all
    · rw [if_neg a2] at h h0
      by_cases a3 : a = 253
      · subst a3
        rw [if_pos rfl] at h
        by_cases b1 : b = 255
        · rw [if_pos b1] at h; simp at h
        · rw [if_neg b1] at h
          by_cases b2 : b = 254
          · rw [if_pos b2] at h; simp at h
          · rw [if_neg b2] at h
            by_cases b3 : b = 253
            · exact b3.symm
            · rw [if_neg b3] at h; simp at h
      · rw [if_neg a3] at h0; exact absurd rfl h0
def RGetPost (x : Nat) (c : Int) (s : Option (List (BitVec 8))) (B q : Nat) (X : List (BitVec 8)) (A : Option Addr) (cap : Nat) (w : World) (e : Ending) (w' : World) : Prop :=
  ∃ a' gone', e = .returned (.tuple #[.int .u64 x, .int .i64 c]) ∧ IsQ w' B q X a' gone' A cap ∧ stQ X a' gone' = s ∧ w.grownBy w' (some q)
theorem stQ_gone {X : List (BitVec 8)} {a : Nat} {gone : Bool} {s : Option (List (BitVec 8))} (h : stQ X a gone = s) : gone = s.isNone := by
  subst h; cases gone <;> rfl
theorem IsQ.c2 {w : World} {B q a cap : Nat} {X : List (BitVec 8)} {gone : Bool} {A : Option Addr} (h : IsQ w B q X a gone A cap) : w.cell? ⟨q, 2, none⟩ = some (.bool gone) := h.blk.cell (j := 2) rfl
theorem rsize_z (n : Nat) (Z : Int) (hn : n < 18446744073709551616) (hZ : ((1 + wid n : Nat) : Int) = Z) (w : World) : Calls Try.prog 15 #[.int .u64 n] w fun e w' => e = .returned (.int .i64 Z) ∧ Below w.heap.size w w' := by
  subst hZ; exact rsize_any n w hn
theorem rget_0 (q B a cap : Nat) (gone : Bool) (A : Option Addr) (X : List (BitVec 8)) (s2 : Option (List (BitVec 8))) (x1 f2 most : Nat) (w : World) (h : IsQ w B q X a gone A cap) (hB : B ≤ w.heap.size) (hX : X.length ≤ 100000000) (hx : numV (stQ X a gone) 1 = x1) (hs1 : numS (stQ X a gone) 1 = s2) (hf2 : fst x1 = f2) (hlo : x1 < 253) :
    Calls Try.prog 19 #[.pointer (some ⟨q, 0, none⟩), .int .u64 most] w (RGetPost (if (s2.isNone = true ∨ x1 ≠ f2) ∨ most < x1 then 0 else x1) (if s2.isNone = true ∨ x1 ≠ f2 then 4 else if most < x1 then 3 else 0) s2 B q X A cap w) := by
  have K1 := Lib.hid (rnum_any q B a cap gone A X 1 w h hB hX)
  have HB := Lib.hid hB
  have HXl := Lib.hid hX
  rw [hx, hs1] at K1
  have hlo1 : (x1 : Int) < 253 := by omega
  have hw0 : wid x1 = 0 := by simp [wid, hlo]
  have hf0 : x1 = f2 := by rw [← hf2]; simp [fst, hlo]
  have K15 := Lib.hid (fun w => rsize_z x1 1 (by omega) (by rw [hw0]; rfl) w)
  clear h hB hX hx hs1 hf2 hw0 hlo
  by_cases ht : s2.isNone = true
  · have HT := Lib.hid ht
    rw [if_pos (Or.inl (Or.inl ht)), if_pos (Or.inl ht)]
    clear ht hf0
    go_enter Try.func19, Try.ntmps19
    go_wp2_with (first
      | (go_at_call 30; (with_reducible refine K1.out.mono ?_); rintro e w1 ⟨a1, g1, rfl, hq, hs, hg⟩; have HG1 := Lib.hid hg; have HB1 := Lib.hid (Nat.le_trans HB.out hg.size); have HQ2 := Lib.hid hq; have HS2 := Lib.hid hs; obtain rfl := (stQ_gone hs).trans HT.out; have d2 := hq.c2; clear hq hs; clear hg K1; dsimp only))
    go_ret2
    exact ⟨_, _, rfl, HQ2.out, HS2.out, HG1.out⟩
  · have htf : s2.isNone = false := Bool.eq_false_iff.2 ht
    have HT := Lib.hid htf
    by_cases hm : most < x1
    · have hm1 : (most : Int) < (x1 : Int) := by omega
      rw [if_pos (Or.inr hm), if_neg (by simp [ht, hf0]), if_pos hm]
      clear ht htf hm hf0
      go_enter Try.func19, Try.ntmps19
      go_wp2_with (first
        | (go_at_call 30; (with_reducible refine K1.out.mono ?_); rintro e w1 ⟨a1, g1, rfl, hq, hs, hg⟩; have HG1 := Lib.hid hg; have HB1 := Lib.hid (Nat.le_trans HB.out hg.size); have HQ2 := Lib.hid hq; have HS2 := Lib.hid hs; obtain rfl := (stQ_gone hs).trans HT.out; have d2 := hq.c2; clear hq hs; clear hg K1; dsimp only)
        | (go_at_call 15; (with_reducible refine (K15.out _).mono ?_); rintro e w3 ⟨rfl, hb3⟩; have HB3 := Lib.hid hb3; clear hb3; dsimp only))
      go_ret2
      exact ⟨_, _, rfl, HQ2.out.below HB3.out HB1.out, HS2.out, grown_below HG1.out HB3.out⟩
    · have hm1 : ¬ (most : Int) < (x1 : Int) := by omega
      rw [if_neg (by simp [ht, hf0]; omega), if_neg (by simp [ht, hf0]), if_neg hm]
      clear ht htf hm hf0
      go_enter Try.func19, Try.ntmps19
      go_wp2_with (first
        | (go_at_call 30; (with_reducible refine K1.out.mono ?_); rintro e w1 ⟨a1, g1, rfl, hq, hs, hg⟩; have HG1 := Lib.hid hg; have HB1 := Lib.hid (Nat.le_trans HB.out hg.size); have HQ2 := Lib.hid hq; have HS2 := Lib.hid hs; obtain rfl := (stQ_gone hs).trans HT.out; have d2 := hq.c2; clear hq hs; clear hg K1; dsimp only)
        | (go_at_call 15; (with_reducible refine (K15.out _).mono ?_); rintro e w3 ⟨rfl, hb3⟩; have HB3 := Lib.hid hb3; clear hb3; dsimp only))
      go_ret2
      exact ⟨_, _, rfl, HQ2.out.below HB3.out HB1.out, HS2.out, grown_below HG1.out HB3.out⟩
theorem rget_2 (q B a cap : Nat) (gone : Bool) (A : Option Addr) (X : List (BitVec 8)) (s2 : Option (List (BitVec 8))) (x1 f2 most : Nat) (w : World) (h : IsQ w B q X a gone A cap) (hB : B ≤ w.heap.size) (hX : X.length ≤ 100000000) (hx : numV (stQ X a gone) 1 = x1) (s1 : Option (List (BitVec 8))) (x2 : Nat) (hs1 : numS (stQ X a gone) 1 = s1) (ht1 : s1.isNone = false) (hx1 : x1 = 253) (hx2 : numV s1 2 = x2) (hs2 : numS s1 2 = s2) (hf2 : fst x2 = f2) (hx64 : x2 < 18446744073709551616) :
    Calls Try.prog 19 #[.pointer (some ⟨q, 0, none⟩), .int .u64 most] w (RGetPost (if (s2.isNone = true ∨ x1 ≠ f2) ∨ most < x2 then 0 else x2) (if s2.isNone = true ∨ x1 ≠ f2 then 4 else if most < x2 then 3 else 0) s2 B q X A cap w) := by
  have K1 := Lib.hid (rnum_any q B a cap gone A X 1 w h hB hX)
  have HB := Lib.hid hB
  have HXl := Lib.hid hX
  rw [hx, hs1] at K1
  have HX2 := Lib.hid hx2
  have HS2e := Lib.hid hs2
  have HT1 := Lib.hid ht1
  have hfw : x1 = f2 ↔ wid x2 = 2 := by
    rw [← fol_fst x2, hf2, hx1]
    exact ⟨fun h => by rw [← h]; rfl, fun h => (fol_inj (h.trans (show 2 = fol 253 from rfl)) (by rw [h]; decide)).symm⟩
  obtain ⟨Z, hZ⟩ : ∃ Z, Z = ((1 + wid x2 : Nat) : Int) := ⟨_, rfl⟩
  have K15 := Lib.hid (fun w => rsize_z x2 Z hx64 hZ.symm w)
  subst hx1
  clear h hB hX hx hs1 hf2 hx2 hs2 ht1 hx64
  by_cases ht : s2.isNone = true
  · have HT := Lib.hid ht
    rw [if_pos (Or.inl (Or.inl ht)), if_pos (Or.inl ht)]
    clear ht hfw hZ
    go_enter Try.func19, Try.ntmps19
    go_wp2_with (first
      | (go_at_call 30; (with_reducible refine K2.out.mono ?_); rintro e w2 ⟨a2, g2, rfl, hq2, hs2, hg2⟩; have HQ2 := Lib.hid hq2; have HS2 := Lib.hid hs2; have HG2 := Lib.hid hg2; obtain rfl := (stQ_gone hs2).trans HT.out; have d2 := hq2.c2; have HB2 := Lib.hid (Nat.le_trans HB1.out hg2.size); clear hq2 hs2 hg2 K2; dsimp only)
      | (go_at_call 30; (with_reducible refine K1.out.mono ?_); rintro e w1 ⟨a1, g1, rfl, hq, hs, hg⟩; have HG1 := Lib.hid hg; have HB1 := Lib.hid (Nat.le_trans HB.out hg.size); obtain rfl := (stQ_gone hs).trans HT1.out; have c2 := hq.c2; have K2 := Lib.hid (rnum_any q B a1 cap _ A X 2 w1 hq (Nat.le_trans HB.out hg.size) HXl.out); rw [hs, HX2.out, HS2e.out] at K2; clear hq hs; clear hg K1; dsimp only))
    go_ret2
    exact ⟨_, _, rfl, HQ2.out, HS2.out, (grown_trans HG1.out HG2.out)⟩
  · have htf : s2.isNone = false := Bool.eq_false_iff.2 ht
    have HT := Lib.hid htf
    by_cases hf : 253 = f2
    · have hff : (Z != 3) = false := by have := hfw.1 hf; rw [hZ, this]; rfl
      by_cases hm : most < x2
      · have hm1 : (most : Int) < (x2 : Int) := by omega
        rw [if_pos (Or.inr hm), if_neg (by simp [ht, hf]), if_pos hm]
        clear ht htf hm hf hfw hZ
        go_enter Try.func19, Try.ntmps19
        go_wp2_with (first
          | (go_at_call 30; (with_reducible refine K2.out.mono ?_); rintro e w2 ⟨a2, g2, rfl, hq2, hs2, hg2⟩; have HQ2 := Lib.hid hq2; have HS2 := Lib.hid hs2; have HG2 := Lib.hid hg2; obtain rfl := (stQ_gone hs2).trans HT.out; have d2 := hq2.c2; have HB2 := Lib.hid (Nat.le_trans HB1.out hg2.size); clear hq2 hs2 hg2 K2; dsimp only)
          | (go_at_call 30; (with_reducible refine K1.out.mono ?_); rintro e w1 ⟨a1, g1, rfl, hq, hs, hg⟩; have HG1 := Lib.hid hg; have HB1 := Lib.hid (Nat.le_trans HB.out hg.size); obtain rfl := (stQ_gone hs).trans HT1.out; have c2 := hq.c2; have K2 := Lib.hid (rnum_any q B a1 cap _ A X 2 w1 hq (Nat.le_trans HB.out hg.size) HXl.out); rw [hs, HX2.out, HS2e.out] at K2; clear hq hs; clear hg K1; dsimp only)
          | (go_at_call 15; (with_reducible refine (K15.out _).mono ?_); rintro e w3 ⟨rfl, hb3⟩; have HB3 := Lib.hid hb3; clear hb3; dsimp only))
        go_ret2
        exact ⟨_, _, rfl, HQ2.out.below HB3.out HB2.out, HS2.out, grown_below (grown_trans HG1.out HG2.out) HB3.out⟩
      · have hm1 : ¬ (most : Int) < (x2 : Int) := by omega
        rw [if_neg (by simp [ht, hf]; omega), if_neg (by simp [ht, hf]), if_neg hm]
        clear ht htf hm hf hfw hZ
        go_enter Try.func19, Try.ntmps19
        go_wp2_with (first
          | (go_at_call 30; (with_reducible refine K2.out.mono ?_); rintro e w2 ⟨a2, g2, rfl, hq2, hs2, hg2⟩; have HQ2 := Lib.hid hq2; have HS2 := Lib.hid hs2; have HG2 := Lib.hid hg2; obtain rfl := (stQ_gone hs2).trans HT.out; have d2 := hq2.c2; have HB2 := Lib.hid (Nat.le_trans HB1.out hg2.size); clear hq2 hs2 hg2 K2; dsimp only)
          | (go_at_call 30; (with_reducible refine K1.out.mono ?_); rintro e w1 ⟨a1, g1, rfl, hq, hs, hg⟩; have HG1 := Lib.hid hg; have HB1 := Lib.hid (Nat.le_trans HB.out hg.size); obtain rfl := (stQ_gone hs).trans HT1.out; have c2 := hq.c2; have K2 := Lib.hid (rnum_any q B a1 cap _ A X 2 w1 hq (Nat.le_trans HB.out hg.size) HXl.out); rw [hs, HX2.out, HS2e.out] at K2; clear hq hs; clear hg K1; dsimp only)
          | (go_at_call 15; (with_reducible refine (K15.out _).mono ?_); rintro e w3 ⟨rfl, hb3⟩; have HB3 := Lib.hid hb3; clear hb3; dsimp only))
        go_ret2
        exact ⟨_, _, rfl, HQ2.out.below HB3.out HB2.out, HS2.out, grown_below (grown_trans HG1.out HG2.out) HB3.out⟩
    · have hff : (Z != 3) = true := by
        have : wid x2 ≠ 2 := fun h => hf (hfw.2 h)
        simp; omega
      rw [if_pos (Or.inl (Or.inr hf)), if_pos (Or.inr hf)]
      clear ht htf hf hfw hZ
      go_enter Try.func19, Try.ntmps19
      go_wp2_with (first
        | (go_at_call 30; (with_reducible refine K2.out.mono ?_); rintro e w2 ⟨a2, g2, rfl, hq2, hs2, hg2⟩; have HQ2 := Lib.hid hq2; have HS2 := Lib.hid hs2; have HG2 := Lib.hid hg2; obtain rfl := (stQ_gone hs2).trans HT.out; have d2 := hq2.c2; have HB2 := Lib.hid (Nat.le_trans HB1.out hg2.size); clear hq2 hs2 hg2 K2; dsimp only)
        | (go_at_call 30; (with_reducible refine K1.out.mono ?_); rintro e w1 ⟨a1, g1, rfl, hq, hs, hg⟩; have HG1 := Lib.hid hg; have HB1 := Lib.hid (Nat.le_trans HB.out hg.size); obtain rfl := (stQ_gone hs).trans HT1.out; have c2 := hq.c2; have K2 := Lib.hid (rnum_any q B a1 cap _ A X 2 w1 hq (Nat.le_trans HB.out hg.size) HXl.out); rw [hs, HX2.out, HS2e.out] at K2; clear hq hs; clear hg K1; dsimp only)
        | (go_at_call 15; (with_reducible refine (K15.out _).mono ?_); rintro e w3 ⟨rfl, hb3⟩; have HB3 := Lib.hid hb3; clear hb3; dsimp only))
      go_ret2
      exact ⟨_, _, rfl, HQ2.out.below HB3.out HB2.out, HS2.out, grown_below (grown_trans HG1.out HG2.out) HB3.out⟩
theorem rget_4 (q B a cap : Nat) (gone : Bool) (A : Option Addr) (X : List (BitVec 8)) (s2 : Option (List (BitVec 8))) (x1 f2 most : Nat) (w : World) (h : IsQ w B q X a gone A cap) (hB : B ≤ w.heap.size) (hX : X.length ≤ 100000000) (hx : numV (stQ X a gone) 1 = x1) (s1 : Option (List (BitVec 8))) (x2 : Nat) (hs1 : numS (stQ X a gone) 1 = s1) (ht1 : s1.isNone = false) (hx1 : x1 = 254) (hx2 : numV s1 4 = x2) (hs2 : numS s1 4 = s2) (hf2 : fst x2 = f2) (hx64 : x2 < 18446744073709551616) :
    Calls Try.prog 19 #[.pointer (some ⟨q, 0, none⟩), .int .u64 most] w (RGetPost (if (s2.isNone = true ∨ x1 ≠ f2) ∨ most < x2 then 0 else x2) (if s2.isNone = true ∨ x1 ≠ f2 then 4 else if most < x2 then 3 else 0) s2 B q X A cap w) := by
  have K1 := Lib.hid (rnum_any q B a cap gone A X 1 w h hB hX)
  have HB := Lib.hid hB
  have HXl := Lib.hid hX
  rw [hx, hs1] at K1
  have HX2 := Lib.hid hx2
  have HS2e := Lib.hid hs2
  have HT1 := Lib.hid ht1
  have hfw : x1 = f2 ↔ wid x2 = 4 := by
    rw [← fol_fst x2, hf2, hx1]
    exact ⟨fun h => by rw [← h]; rfl, fun h => (fol_inj (h.trans (show 4 = fol 254 from rfl)) (by rw [h]; decide)).symm⟩
  obtain ⟨Z, hZ⟩ : ∃ Z, Z = ((1 + wid x2 : Nat) : Int) := ⟨_, rfl⟩
  have K15 := Lib.hid (fun w => rsize_z x2 Z hx64 hZ.symm w)
  subst hx1
  clear h hB hX hx hs1 hf2 hx2 hs2 ht1 hx64
  by_cases ht : s2.isNone = true
  · have HT := Lib.hid ht
    rw [if_pos (Or.inl (Or.inl ht)), if_pos (Or.inl ht)]
    clear ht hfw hZ
    go_enter Try.func19, Try.ntmps19
    go_wp2_with (first
      | (go_at_call 30; (with_reducible refine K2.out.mono ?_); rintro e w2 ⟨a2, g2, rfl, hq2, hs2, hg2⟩; have HQ2 := Lib.hid hq2; have HS2 := Lib.hid hs2; have HG2 := Lib.hid hg2; obtain rfl := (stQ_gone hs2).trans HT.out; have d2 := hq2.c2; have HB2 := Lib.hid (Nat.le_trans HB1.out hg2.size); clear hq2 hs2 hg2 K2; dsimp only)
      | (go_at_call 30; (with_reducible refine K1.out.mono ?_); rintro e w1 ⟨a1, g1, rfl, hq, hs, hg⟩; have HG1 := Lib.hid hg; have HB1 := Lib.hid (Nat.le_trans HB.out hg.size); obtain rfl := (stQ_gone hs).trans HT1.out; have c2 := hq.c2; have K2 := Lib.hid (rnum_any q B a1 cap _ A X 4 w1 hq (Nat.le_trans HB.out hg.size) HXl.out); rw [hs, HX2.out, HS2e.out] at K2; clear hq hs; clear hg K1; dsimp only))
    go_ret2
    exact ⟨_, _, rfl, HQ2.out, HS2.out, (grown_trans HG1.out HG2.out)⟩
  · have htf : s2.isNone = false := Bool.eq_false_iff.2 ht
    have HT := Lib.hid htf
    by_cases hf : 254 = f2
    · have hff : (Z != 5) = false := by have := hfw.1 hf; rw [hZ, this]; rfl
      by_cases hm : most < x2
      · have hm1 : (most : Int) < (x2 : Int) := by omega
        rw [if_pos (Or.inr hm), if_neg (by simp [ht, hf]), if_pos hm]
        clear ht htf hm hf hfw hZ
        go_enter Try.func19, Try.ntmps19
        go_wp2_with (first
          | (go_at_call 30; (with_reducible refine K2.out.mono ?_); rintro e w2 ⟨a2, g2, rfl, hq2, hs2, hg2⟩; have HQ2 := Lib.hid hq2; have HS2 := Lib.hid hs2; have HG2 := Lib.hid hg2; obtain rfl := (stQ_gone hs2).trans HT.out; have d2 := hq2.c2; have HB2 := Lib.hid (Nat.le_trans HB1.out hg2.size); clear hq2 hs2 hg2 K2; dsimp only)
          | (go_at_call 30; (with_reducible refine K1.out.mono ?_); rintro e w1 ⟨a1, g1, rfl, hq, hs, hg⟩; have HG1 := Lib.hid hg; have HB1 := Lib.hid (Nat.le_trans HB.out hg.size); obtain rfl := (stQ_gone hs).trans HT1.out; have c2 := hq.c2; have K2 := Lib.hid (rnum_any q B a1 cap _ A X 4 w1 hq (Nat.le_trans HB.out hg.size) HXl.out); rw [hs, HX2.out, HS2e.out] at K2; clear hq hs; clear hg K1; dsimp only)
          | (go_at_call 15; (with_reducible refine (K15.out _).mono ?_); rintro e w3 ⟨rfl, hb3⟩; have HB3 := Lib.hid hb3; clear hb3; dsimp only))
        go_ret2
        exact ⟨_, _, rfl, HQ2.out.below HB3.out HB2.out, HS2.out, grown_below (grown_trans HG1.out HG2.out) HB3.out⟩
      · have hm1 : ¬ (most : Int) < (x2 : Int) := by omega
        rw [if_neg (by simp [ht, hf]; omega), if_neg (by simp [ht, hf]), if_neg hm]
        clear ht htf hm hf hfw hZ
        go_enter Try.func19, Try.ntmps19
        go_wp2_with (first
          | (go_at_call 30; (with_reducible refine K2.out.mono ?_); rintro e w2 ⟨a2, g2, rfl, hq2, hs2, hg2⟩; have HQ2 := Lib.hid hq2; have HS2 := Lib.hid hs2; have HG2 := Lib.hid hg2; obtain rfl := (stQ_gone hs2).trans HT.out; have d2 := hq2.c2; have HB2 := Lib.hid (Nat.le_trans HB1.out hg2.size); clear hq2 hs2 hg2 K2; dsimp only)
          | (go_at_call 30; (with_reducible refine K1.out.mono ?_); rintro e w1 ⟨a1, g1, rfl, hq, hs, hg⟩; have HG1 := Lib.hid hg; have HB1 := Lib.hid (Nat.le_trans HB.out hg.size); obtain rfl := (stQ_gone hs).trans HT1.out; have c2 := hq.c2; have K2 := Lib.hid (rnum_any q B a1 cap _ A X 4 w1 hq (Nat.le_trans HB.out hg.size) HXl.out); rw [hs, HX2.out, HS2e.out] at K2; clear hq hs; clear hg K1; dsimp only)
          | (go_at_call 15; (with_reducible refine (K15.out _).mono ?_); rintro e w3 ⟨rfl, hb3⟩; have HB3 := Lib.hid hb3; clear hb3; dsimp only))
        go_ret2
        exact ⟨_, _, rfl, HQ2.out.below HB3.out HB2.out, HS2.out, grown_below (grown_trans HG1.out HG2.out) HB3.out⟩
    · have hff : (Z != 5) = true := by
        have : wid x2 ≠ 4 := fun h => hf (hfw.2 h)
        simp; omega
      rw [if_pos (Or.inl (Or.inr hf)), if_pos (Or.inr hf)]
      clear ht htf hf hfw hZ
      go_enter Try.func19, Try.ntmps19
      go_wp2_with (first
        | (go_at_call 30; (with_reducible refine K2.out.mono ?_); rintro e w2 ⟨a2, g2, rfl, hq2, hs2, hg2⟩; have HQ2 := Lib.hid hq2; have HS2 := Lib.hid hs2; have HG2 := Lib.hid hg2; obtain rfl := (stQ_gone hs2).trans HT.out; have d2 := hq2.c2; have HB2 := Lib.hid (Nat.le_trans HB1.out hg2.size); clear hq2 hs2 hg2 K2; dsimp only)
        | (go_at_call 30; (with_reducible refine K1.out.mono ?_); rintro e w1 ⟨a1, g1, rfl, hq, hs, hg⟩; have HG1 := Lib.hid hg; have HB1 := Lib.hid (Nat.le_trans HB.out hg.size); obtain rfl := (stQ_gone hs).trans HT1.out; have c2 := hq.c2; have K2 := Lib.hid (rnum_any q B a1 cap _ A X 4 w1 hq (Nat.le_trans HB.out hg.size) HXl.out); rw [hs, HX2.out, HS2e.out] at K2; clear hq hs; clear hg K1; dsimp only)
        | (go_at_call 15; (with_reducible refine (K15.out _).mono ?_); rintro e w3 ⟨rfl, hb3⟩; have HB3 := Lib.hid hb3; clear hb3; dsimp only))
      go_ret2
      exact ⟨_, _, rfl, HQ2.out.below HB3.out HB2.out, HS2.out, grown_below (grown_trans HG1.out HG2.out) HB3.out⟩
theorem rget_8 (q B a cap : Nat) (gone : Bool) (A : Option Addr) (X : List (BitVec 8)) (s2 : Option (List (BitVec 8))) (x1 f2 most : Nat) (w : World) (h : IsQ w B q X a gone A cap) (hB : B ≤ w.heap.size) (hX : X.length ≤ 100000000) (hx : numV (stQ X a gone) 1 = x1) (s1 : Option (List (BitVec 8))) (x2 : Nat) (hs1 : numS (stQ X a gone) 1 = s1) (ht1 : s1.isNone = false) (hx1 : x1 = 255) (hx2 : numV s1 8 = x2) (hs2 : numS s1 8 = s2) (hf2 : fst x2 = f2) (hx64 : x2 < 18446744073709551616) :
    Calls Try.prog 19 #[.pointer (some ⟨q, 0, none⟩), .int .u64 most] w (RGetPost (if (s2.isNone = true ∨ x1 ≠ f2) ∨ most < x2 then 0 else x2) (if s2.isNone = true ∨ x1 ≠ f2 then 4 else if most < x2 then 3 else 0) s2 B q X A cap w) := by
  have K1 := Lib.hid (rnum_any q B a cap gone A X 1 w h hB hX)
  have HB := Lib.hid hB
  have HXl := Lib.hid hX
  rw [hx, hs1] at K1
  have HX2 := Lib.hid hx2
  have HS2e := Lib.hid hs2
  have HT1 := Lib.hid ht1
  have hfw : x1 = f2 ↔ wid x2 = 8 := by
    rw [← fol_fst x2, hf2, hx1]
    exact ⟨fun h => by rw [← h]; rfl, fun h => (fol_inj (h.trans (show 8 = fol 255 from rfl)) (by rw [h]; decide)).symm⟩
  obtain ⟨Z, hZ⟩ : ∃ Z, Z = ((1 + wid x2 : Nat) : Int) := ⟨_, rfl⟩
  have K15 := Lib.hid (fun w => rsize_z x2 Z hx64 hZ.symm w)
  subst hx1
  clear h hB hX hx hs1 hf2 hx2 hs2 ht1 hx64
  by_cases ht : s2.isNone = true
  · have HT := Lib.hid ht
    rw [if_pos (Or.inl (Or.inl ht)), if_pos (Or.inl ht)]
    clear ht hfw hZ
    go_enter Try.func19, Try.ntmps19
    go_wp2_with (first
      | (go_at_call 30; (with_reducible refine K2.out.mono ?_); rintro e w2 ⟨a2, g2, rfl, hq2, hs2, hg2⟩; have HQ2 := Lib.hid hq2; have HS2 := Lib.hid hs2; have HG2 := Lib.hid hg2; obtain rfl := (stQ_gone hs2).trans HT.out; have d2 := hq2.c2; have HB2 := Lib.hid (Nat.le_trans HB1.out hg2.size); clear hq2 hs2 hg2 K2; dsimp only)
      | (go_at_call 30; (with_reducible refine K1.out.mono ?_); rintro e w1 ⟨a1, g1, rfl, hq, hs, hg⟩; have HG1 := Lib.hid hg; have HB1 := Lib.hid (Nat.le_trans HB.out hg.size); obtain rfl := (stQ_gone hs).trans HT1.out; have c2 := hq.c2; have K2 := Lib.hid (rnum_any q B a1 cap _ A X 8 w1 hq (Nat.le_trans HB.out hg.size) HXl.out); rw [hs, HX2.out, HS2e.out] at K2; clear hq hs; clear hg K1; dsimp only))
    go_ret2
    exact ⟨_, _, rfl, HQ2.out, HS2.out, (grown_trans HG1.out HG2.out)⟩
  · have htf : s2.isNone = false := Bool.eq_false_iff.2 ht
    have HT := Lib.hid htf
    by_cases hf : 255 = f2
    · have hff : (Z != 9) = false := by have := hfw.1 hf; rw [hZ, this]; rfl
      by_cases hm : most < x2
      · have hm1 : (most : Int) < (x2 : Int) := by omega
        rw [if_pos (Or.inr hm), if_neg (by simp [ht, hf]), if_pos hm]
        clear ht htf hm hf hfw hZ
        go_enter Try.func19, Try.ntmps19
        go_wp2_with (first
          | (go_at_call 30; (with_reducible refine K2.out.mono ?_); rintro e w2 ⟨a2, g2, rfl, hq2, hs2, hg2⟩; have HQ2 := Lib.hid hq2; have HS2 := Lib.hid hs2; have HG2 := Lib.hid hg2; obtain rfl := (stQ_gone hs2).trans HT.out; have d2 := hq2.c2; have HB2 := Lib.hid (Nat.le_trans HB1.out hg2.size); clear hq2 hs2 hg2 K2; dsimp only)
          | (go_at_call 30; (with_reducible refine K1.out.mono ?_); rintro e w1 ⟨a1, g1, rfl, hq, hs, hg⟩; have HG1 := Lib.hid hg; have HB1 := Lib.hid (Nat.le_trans HB.out hg.size); obtain rfl := (stQ_gone hs).trans HT1.out; have c2 := hq.c2; have K2 := Lib.hid (rnum_any q B a1 cap _ A X 8 w1 hq (Nat.le_trans HB.out hg.size) HXl.out); rw [hs, HX2.out, HS2e.out] at K2; clear hq hs; clear hg K1; dsimp only)
          | (go_at_call 15; (with_reducible refine (K15.out _).mono ?_); rintro e w3 ⟨rfl, hb3⟩; have HB3 := Lib.hid hb3; clear hb3; dsimp only))
        go_ret2
        exact ⟨_, _, rfl, HQ2.out.below HB3.out HB2.out, HS2.out, grown_below (grown_trans HG1.out HG2.out) HB3.out⟩
      · have hm1 : ¬ (most : Int) < (x2 : Int) := by omega
        rw [if_neg (by simp [ht, hf]; omega), if_neg (by simp [ht, hf]), if_neg hm]
        clear ht htf hm hf hfw hZ
        go_enter Try.func19, Try.ntmps19
        go_wp2_with (first
          | (go_at_call 30; (with_reducible refine K2.out.mono ?_); rintro e w2 ⟨a2, g2, rfl, hq2, hs2, hg2⟩; have HQ2 := Lib.hid hq2; have HS2 := Lib.hid hs2; have HG2 := Lib.hid hg2; obtain rfl := (stQ_gone hs2).trans HT.out; have d2 := hq2.c2; have HB2 := Lib.hid (Nat.le_trans HB1.out hg2.size); clear hq2 hs2 hg2 K2; dsimp only)
          | (go_at_call 30; (with_reducible refine K1.out.mono ?_); rintro e w1 ⟨a1, g1, rfl, hq, hs, hg⟩; have HG1 := Lib.hid hg; have HB1 := Lib.hid (Nat.le_trans HB.out hg.size); obtain rfl := (stQ_gone hs).trans HT1.out; have c2 := hq.c2; have K2 := Lib.hid (rnum_any q B a1 cap _ A X 8 w1 hq (Nat.le_trans HB.out hg.size) HXl.out); rw [hs, HX2.out, HS2e.out] at K2; clear hq hs; clear hg K1; dsimp only)
          | (go_at_call 15; (with_reducible refine (K15.out _).mono ?_); rintro e w3 ⟨rfl, hb3⟩; have HB3 := Lib.hid hb3; clear hb3; dsimp only))
        go_ret2
        exact ⟨_, _, rfl, HQ2.out.below HB3.out HB2.out, HS2.out, grown_below (grown_trans HG1.out HG2.out) HB3.out⟩
    · have hff : (Z != 9) = true := by
        have : wid x2 ≠ 8 := fun h => hf (hfw.2 h)
        simp; omega
      rw [if_pos (Or.inl (Or.inr hf)), if_pos (Or.inr hf)]
      clear ht htf hf hfw hZ
      go_enter Try.func19, Try.ntmps19
      go_wp2_with (first
        | (go_at_call 30; (with_reducible refine K2.out.mono ?_); rintro e w2 ⟨a2, g2, rfl, hq2, hs2, hg2⟩; have HQ2 := Lib.hid hq2; have HS2 := Lib.hid hs2; have HG2 := Lib.hid hg2; obtain rfl := (stQ_gone hs2).trans HT.out; have d2 := hq2.c2; have HB2 := Lib.hid (Nat.le_trans HB1.out hg2.size); clear hq2 hs2 hg2 K2; dsimp only)
        | (go_at_call 30; (with_reducible refine K1.out.mono ?_); rintro e w1 ⟨a1, g1, rfl, hq, hs, hg⟩; have HG1 := Lib.hid hg; have HB1 := Lib.hid (Nat.le_trans HB.out hg.size); obtain rfl := (stQ_gone hs).trans HT1.out; have c2 := hq.c2; have K2 := Lib.hid (rnum_any q B a1 cap _ A X 8 w1 hq (Nat.le_trans HB.out hg.size) HXl.out); rw [hs, HX2.out, HS2e.out] at K2; clear hq hs; clear hg K1; dsimp only)
        | (go_at_call 15; (with_reducible refine (K15.out _).mono ?_); rintro e w3 ⟨rfl, hb3⟩; have HB3 := Lib.hid hb3; clear hb3; dsimp only))
      go_ret2
      exact ⟨_, _, rfl, HQ2.out.below HB3.out HB2.out, HS2.out, grown_below (grown_trans HG1.out HG2.out) HB3.out⟩
theorem numS_none {s : Option (List (BitVec 8))} (h : numS s 1 = none) : numV s 1 = 0 := by
  have h1 : isW 1 = true := rfl
  unfold numS at h
  unfold numV
  rw [if_pos h1] at h ⊢
  cases s with
  | none => rfl
  | some L =>
    simp only [cutS] at h
    simp only [takeL]
    split at h
    · cases h
    · rename_i hb
      rw [if_neg hb]; rfl
theorem numV_lt (s : Option (List (BitVec 8))) (n : Int) : numV s n < 18446744073709551616 := by
  unfold numV
  by_cases h : isW n = true
  · rw [if_pos h]
    have h1 := lev_lt (takeL s n)
    have h2 := takeL_len s n 8 (isW_pos h).2
    have : 2 ^ (8 * (takeL s n).length) ≤ 2 ^ 64 := Nat.pow_le_pow_right (by omega) (by omega)
    omega
  · rw [if_neg h]; omega
theorem rget_any (q B a cap : Nat) (gone : Bool) (A : Option Addr) (X : List (BitVec 8)) (most : Nat) (w : World) (h : IsQ w B q X a gone A cap) (hB : B ≤ w.heap.size) (hX : X.length ≤ 100000000) :
    Calls Try.prog 19 #[.pointer (some ⟨q, 0, none⟩), .int .u64 most] w (RGetPost (gV (stQ X a gone) most) (gE (stQ X a gone) most) (gS (stQ X a gone)) B q X A cap w) := by
  have key : ∀ (t : Bool) (a f x : Nat), (if (if t = true ∨ a ≠ f then (4 : Int) else if most < x then 3 else 0) = 0 then x else 0) = (if (t = true ∨ a ≠ f) ∨ most < x then 0 else x) := by
    intro t a f x
    by_cases h1 : t = true ∨ a ≠ f
    · rw [if_pos h1, if_pos (Or.inl h1), if_neg (by decide)]
    · rw [if_neg h1]
      by_cases h2 : most < x
      · rw [if_pos h2, if_pos (Or.inr h2), if_neg (by decide)]
      · rw [if_neg h2, if_pos rfl, if_neg (by intro h; rcases h with h | h; exact h1 h; exact h2 h)]
  obtain ⟨s, hs⟩ : ∃ s, s = stQ X a gone := ⟨_, rfl⟩
  by_cases hlo : numV s 1 < 253
  · have hw : fol (numV s 1) = 0 := by
      unfold fol
      rw [if_neg (by omega), if_neg (by omega), if_neg (by omega)]
    have eN : gN s = numV s 1 := by unfold gN; rw [if_pos hw]
    have eS : gS s = numS s 1 := by unfold gS; rw [if_pos hw]
    have := rget_0 q B a cap gone A X (numS s 1) (numV s 1) (fst (numV s 1)) most w h hB hX (by rw [hs]) (by rw [hs]) rfl hlo
    rw [← hs]
    unfold gV gE
    rw [eN, eS, key]
    exact this
  · have h256 := numV_1 s
    have hn : (numS s 1).isNone = false := by
      cases hh : numS s 1 with
      | none => have := numS_none hh; omega
      | some L => rfl
    have hf : ∀ W, fol (numV s 1) = W → W ≠ 0 → gN s = numV (numS s 1) W ∧ gS s = numS (numS s 1) W := fun W e h0 => by
      unfold gN gS; rw [e, if_neg h0, if_neg h0]; exact ⟨rfl, rfl⟩
    have h3 : numV s 1 = 253 ∨ numV s 1 = 254 ∨ numV s 1 = 255 := by omega
    rcases h3 with h3 | h3 | h3
    · obtain ⟨eN, eS⟩ := hf 2 (by rw [h3]; rfl) (by decide)
      have := rget_2 q B a cap gone A X (numS (numS s 1) 2) (numV s 1) (fst (numV (numS s 1) 2)) most w h hB hX (by rw [hs]) (numS s 1) (numV (numS s 1) 2) (by rw [hs]) hn h3 rfl rfl rfl (numV_lt _ _)
      rw [← hs]
      unfold gV gE
      rw [eN, eS, key]
      exact this
    · obtain ⟨eN, eS⟩ := hf 4 (by rw [h3]; rfl) (by decide)
      have := rget_4 q B a cap gone A X (numS (numS s 1) 4) (numV s 1) (fst (numV (numS s 1) 4)) most w h hB hX (by rw [hs]) (numS s 1) (numV (numS s 1) 4) (by rw [hs]) hn h3 rfl rfl rfl (numV_lt _ _)
      rw [← hs]
      unfold gV gE
      rw [eN, eS, key]
      exact this
    · obtain ⟨eN, eS⟩ := hf 8 (by rw [h3]; rfl) (by decide)
      have := rget_8 q B a cap gone A X (numS (numS s 1) 8) (numV s 1) (fst (numV (numS s 1) 8)) most w h hB hX (by rw [hs]) (numS s 1) (numV (numS s 1) 8) (by rw [hs]) hn h3 rfl rfl rfl (numV_lt _ _)
      rw [← hs]
      unfold gV gE
      rw [eN, eS, key]
      exact this
end Go.Proofs.Ytalcdejiobpmlaa
