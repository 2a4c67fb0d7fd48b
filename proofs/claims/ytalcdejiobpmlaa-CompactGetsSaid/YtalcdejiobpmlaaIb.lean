/- The law CompactApart returns true for every two numbers. -/
import Derived.Test.YtalcdejiobpmlaaIa
import Derived.Test.YtalcdejiobpmlaaHa
import Derived.Outline
namespace Go.Proofs.Ytalcdejiobpmlaa
open Go.RowKit
set_option linter.unusedVariables false
set_option linter.unusedSimpArgs false
set_option maxRecDepth 100000
theorem put_nil (n : Nat) (w : World) : Calls Try.prog 10 #[.slice none 0 0, .int .u64 n] w (LaidPost (form n) w) :=
  put_any none [] 0 0 n w (fun h => by simp at h) (Nat.zero_le _) (by decide)
theorem size_l (n l : Nat) (hl : (form n).length = l) (w : World) : Calls Try.prog 14 #[.int .u64 n] w fun e w' => e = .returned (.int .i64 l) ∧ w = w' := by
  rw [form_len] at hl; subst hl; exact size_any n w
theorem Rd.take {w : World} {B : Nat} {A : Option Addr} {L : List (BitVec 8)} (h : Rd w B A L) (n : Nat) (hn : n ≤ L.length) : Rd w B A (L.take n) := fun hp => by
  rw [List.length_take] at hp
  obtain ⟨b, o, e, hb, hc⟩ := h (by omega)
  refine ⟨b, o, e, hb, fun j hj => ?_⟩
  rw [List.length_take] at hj
  rw [hc j (by omega)]
  simp [List.getD, List.getElem?_take, show j < n by omega]
theorem conv_take {w : World} {A : Option Addr} {L : List (BitVec 8)} {n c B : Nat} (h : Rd w B A L) (hn : n ≤ L.length) : (convert 22 9 (.slice A n c)).run Try.prog w = .ok (.string (strB (L.take n))) w :=
  run_conv_slice w Try.underlying22 Try.underlying5 Try.underlying9 A (L.take n) n c (by rw [List.length_take]; omega) B (h.take n hn)
theorem below_drewN {B : Nat} {w w' : World} (h : Below B w w') (k : Nat) : Below B w (w'.drewN k) := ⟨h.os, h.tape, h.output, h.size, h.block⟩
set_option maxHeartbeats 1000000 in
theorem apart_walk (a b : Nat) (w : World) (ha : a < 18446744073709551616) (hb : b < 18446744073709551616) :
    Calls Try.prog 7 #[.int .u64 a, .int .u64 b] w fun e w' => e = .returned (.bool true) ∧ Below w.heap.size w w' := by
  have KA := Lib.hid (fun w => put_nil a w)
  have KB := Lib.hid (fun w => put_nil b w)
  have HM := Lib.hid (fun n => form_take ha hb n)
  obtain ⟨l1, hl1⟩ : ∃ l, l = (form a).length := ⟨_, rfl⟩
  obtain ⟨l2, hl2⟩ : ∃ l, l = (form b).length := ⟨_, rfl⟩
  have K14 := Lib.hid (size_l a l1 hl1.symm)
  have hmono1 : a ≤ b → l1 ≤ l2 := fun h => by rw [hl1, hl2, form_len, form_len]; have := wid_mono h; omega
  have hmono2 : b ≤ a → l2 ≤ l1 := fun h => by rw [hl1, hl2, form_len, form_len]; have := wid_mono h; omega
  have H1 := Lib.hid hmono1
  have H2 := Lib.hid hmono2
  have HL1 := Lib.hid hl1
  have HL2 := Lib.hid hl2
  have hs1 : l1 ≤ 9 := by rw [hl1, form_len]; have := wid_le a; omega
  have hs2 : l2 ≤ 9 := by rw [hl2, form_len]; have := wid_le b; omega
  have Hs1 := Lib.hid hs1
  have Hs2 := Lib.hid hs2
  obtain ⟨P, hP⟩ : ∃ P, P = form a := ⟨_, rfl⟩
  obtain ⟨Q, hQ⟩ : ∃ Q, Q = form b := ⟨_, rfl⟩
  rw [← hP] at KA HM HL1
  rw [← hQ] at KB HM HL2
  clear hl1 hl2 hmono1 hmono2 hP hQ ha hb hs1 hs2
  go_enter Try.func7, Try.ntmps7
  go_upto_region 2 with (first
    | (go_at_call 10; (with_reducible refine (KA.out w).mono ?_); rintro e w1 ⟨v1, rfl, hv1, hb1⟩; have HV1 := Lib.hid hv1; have HB1 := Lib.hid hb1; clear hv1 hb1 KA; dsimp only)
    | (go_at_call 10; (with_reducible refine (KB.out _).mono ?_); rintro e w2 ⟨v2, rfl, hv2, hb2⟩; have HV2 := Lib.hid hv2; have HB2 := Lib.hid hb2; clear hv2 hb2 KB; dsimp only))
  obtain ⟨A1, c1, rfl, hr1, hc1, hm1, _⟩ := HV1.out.rd
  obtain ⟨A2, c2, rfl, hr2, hc2, hm2, _⟩ := HV2.out.rd
  rw [← HL1.out] at hc1 ⊢
  rw [← HL2.out] at hc2 ⊢
  obtain ⟨n, hn⟩ : ∃ n, n = min l1 l2 := ⟨_, rfl⟩
  have hmin : min (l1 : Int) (l2 : Int) = (n : Int) := by omega
  have HR1 := Lib.hid (hr1.keep HB2.out)
  have HR2 := Lib.hid hr2
  have hn1 : n ≤ l1 := by omega
  have hn2 : n ≤ l2 := by omega
  have hk1 : n ≤ c1 := by omega
  have hk2 : n ≤ c2 := by omega
  have HN := Lib.hid hn
  clear hr1 hr2 hn
  go_upto_region 3 with fail
  have e1 : ∀ k, (convert 22 9 (.slice A1 n c1)).run Try.prog (w2.drewN k) = .ok (.string (strB (P.take n))) (w2.drewN k) := fun k => conv_take (B := w1.heap.size) HR1.out (by rw [← HL1.out]; exact hn1)
  have e2 : ∀ k, (convert 22 9 (.slice A2 n c2)).run Try.prog (w2.drewN k) = .ok (.string (strB (Q.take n))) (w2.drewN k) := fun k => conv_take (B := w2.heap.size) HR2.out (by rw [← HL2.out]; exact hn2)
  have hcmp : ((strB (P.take n)).toList == (strB (Q.take n)).toList) = decide (a = b) := (strB_beq _ _).trans (HM.out n (by rw [← HL1.out, ← HL2.out]; exact HN.out))
  have hab : ((a : Int) == (b : Int)) = decide (a = b) := by
    by_cases h : a = b
    · simp [h]
    · simp [h]; omega
  generalize hs : strB (P.take n) = s1 at e1 hcmp
  generalize hs' : strB (Q.take n) = s2 at e2 hcmp
  generalize decide (a = b) = t at hcmp hab
  clear hs hs'
  go_quiet (fail)
  have KW := Lib.hid (fun w => works_any w)
  have HB : Hid (Below w.heap.size w w2) := HB1.out.trans (HB2.out.mono HB1.out.size)
  clear e1 e2 hcmp hab hn1 hn2 hk1 hk2 hmin HM
  go_upto_region 5 with fail
  rcases Nat.lt_trichotomy a b with h | h | h
  · have i1 : (a : Int) < (b : Int) := by omega
    have i2 : ¬ (b : Int) < (a : Int) := by omega
    have i3 : (l1 : Int) ≤ (l2 : Int) := by have := H1.out (by omega); omega
    clear h
    go_wp2_with (first
      | (go_at_call 14; (with_reducible refine (K14.out _).mono ?_); rintro e w' ⟨rfl, rfl⟩; dsimp only)
      | (go_at_call 16; (with_reducible refine (KW.out _).mono ?_); rintro e w4 ⟨rfl, hb4⟩; dsimp only))
    go_ret
    exact ⟨rfl, (below_drewN HB.out _).trans (hb4.mono HB.out.size)⟩
  · subst h
    have i2 : ¬ (a : Int) < (a : Int) := by omega
    have i3 : (l1 : Int) ≤ (l2 : Int) := by have := H1.out (Nat.le_refl _); omega
    have i4 : (l2 : Int) ≤ (l1 : Int) := by have := H2.out (Nat.le_refl _); omega
    go_wp2_with (first
      | (go_at_call 14; (with_reducible refine (K14.out _).mono ?_); rintro e w' ⟨rfl, rfl⟩; dsimp only)
      | (go_at_call 16; (with_reducible refine (KW.out _).mono ?_); rintro e w4 ⟨rfl, hb4⟩; dsimp only))
    go_ret
    exact ⟨rfl, (below_drewN HB.out _).trans (hb4.mono HB.out.size)⟩
  · have i1 : (b : Int) < (a : Int) := by omega
    have i2 : ¬ (a : Int) < (b : Int) := by omega
    have i3 : (l2 : Int) ≤ (l1 : Int) := by have := H2.out (by omega); omega
    clear h
    go_wp2_with (first
      | (go_at_call 14; (with_reducible refine (K14.out _).mono ?_); rintro e w' ⟨rfl, rfl⟩; dsimp only)
      | (go_at_call 16; (with_reducible refine (KW.out _).mono ?_); rintro e w4 ⟨rfl, hb4⟩; dsimp only))
    go_ret
    exact ⟨rfl, (below_drewN HB.out _).trans (hb4.mono HB.out.size)⟩
end Go.Proofs.Ytalcdejiobpmlaa
