/- The law CompactOnce returns true for all bytes that can be read. -/
import Derived.Test.YtalcdejiobpmlaaMa
import Derived.Test.YtalcdejiobpmlaaIb
import Derived.Test.YtalcdejiobpmlaaGc
import Derived.StillTailTactics
import Derived.Outline
namespace Go.Proofs.Ytalcdejiobpmlaa
open Go.RowKit
set_option linter.unusedVariables false
set_option linter.unusedSimpArgs false
set_option maxRecDepth 100000
theorem gN_lt (s : Option (List (BitVec 8))) : gN s < 18446744073709551616 := by
  unfold gN
  split
  · exact numV_lt _ _
  · exact numV_lt _ _
theorem gE_max (s : Option (List (BitVec 8))) (h : gE s 18446744073709551615 ≠ 0) : gE s 18446744073709551615 = 4 := by
  have := gN_lt s
  unfold gE at h ⊢
  split
  · rfl
  · rename_i h1
    rw [if_neg h1, if_neg (by omega)] at h
    exact absurd rfl h
theorem left_still {p : Option Nat} {s : Option (List (BitVec 8))} {B : Nat} {w : World} (d : Nat) (hd : leftS s = d) (h : IsR w B p s) : Calls Try.prog 22 #[ptr p] w fun e w' => e = .returned (.int .i64 d) ∧ w' = w := by
  subst hd; exact (left_any p s B w h).mono fun e w' ⟨a, b⟩ => ⟨a, b.symm⟩
theorem IsR.drew {w : World} {B : Nat} {p : Option Nat} {s : Option (List (BitVec 8))} (h : IsR w B p s) : IsR w.drew B p s := h.keep fun _ _ => rfl
theorem below_drew {B : Nat} {w w' : World} (h : Below B w w') : Below B w w'.drew := ⟨h.os, h.tape, h.output, h.size, h.block⟩
theorem lit_below' {w w1 w2 : World} {g : Nat} (hb : Below w.heap.size w w1) (hg : w1.grownBy w2 (some g)) (h : w.heap.size ≤ g) : Below w.heap.size w w2 :=
  hb.grown hg hb.size (fun k e => by cases e; exact h)
set_option maxHeartbeats 1000000 in
theorem once_walk (A : Option Addr) (cap : Nat) (R : List (BitVec 8)) (w : World) (hR : Rd w w.heap.size A R) (hc : A = none → cap = 0) (hl : R.length ≤ cap) (hm : cap ≤ 9223372036854775807) :
    Calls Try.prog 6 #[.slice A R.length cap] w fun e w' => e = .returned (.bool true) ∧ Below w.heap.size w w' := by
  have KC := Lib.hid (cut_row A R.length cap w hl hm)
  obtain ⟨m, hmm⟩ : ∃ m, m = min R.length 3000 := ⟨_, rfl⟩
  obtain ⟨X, hX⟩ : ∃ X, X = R.take m := ⟨_, rfl⟩
  have hXl : X.length = m := by rw [hX, List.length_take]; omega
  have hRX : Rd w w.heap.size A X := by rw [hX]; exact hR.take m (by omega)
  have KO := Lib.hid (open_w A X m cap w.heap.size w hXl hRX (Nat.le_refl _) hc (by omega))
  have hm3 : m ≤ 3000 := by omega
  have hmc : m ≤ cap := by omega
  have HRX := Lib.hid hRX
  have HXl := Lib.hid hXl
  rw [← hmm] at KC
  obtain ⟨n, hn⟩ : ∃ n, n = R.length := ⟨_, rfl⟩
  rw [← hn] at KC ⊢
  clear hR hc hl hX hXl hRX hn hmm
  have KW := Lib.hid (fun w => works_any w)
  go_enter Try.func6, Try.ntmps6
  go_upto_region 2 with (go_at_call 9; (with_reducible refine KC.out.mono ?_); rintro e w' ⟨rfl, rfl⟩; dsimp only)
  clear KC
  go_upto_region 3 with (go_at_call 17; (with_reducible refine KO.out.mono ?_); rintro e w1 ⟨g, rfl, hi, h1, h2, hb⟩; have HI := Lib.hid hi; have HL1 := Lib.hid h1; have HL2 := Lib.hid h2; have HB := Lib.hid hb; clear hi h1 h2 hb KO; dsimp only)
  by_cases he : gE (some X) 18446744073709551615 = 0
  · obtain ⟨Y, hXY, hS, hN⟩ := get_form he
    have KG := Lib.hid (get_w w1 (some g) (g + 1) (some X) (some Y) 18446744073709551615 (gN (some X)) 18446744073709551615 0 rfl (by unfold gV; rw [if_pos he]) he hS HI.out (by have := HL2.out; omega))
    obtain ⟨N, hNN⟩ : ∃ N, N = gN (some X) := ⟨_, rfl⟩
    rw [← hNN] at KG hXY hN
    have KP := Lib.hid (fun w => put_nil N w)
    obtain ⟨F, hF⟩ : ∃ F, F = form N := ⟨_, rfl⟩
    rw [← hF] at KP hXY
    obtain ⟨l, hll⟩ : ∃ l, l = F.length := ⟨_, rfl⟩
    have hlm : l ≤ m := by rw [← HXl.out, hXY, List.length_append]; omega
    have hYl : leftS (some Y) = m - l := by
      rw [← HXl.out, hXY, List.length_append, ← hll]; show Y.length = _; omega
    have hXt : X.take l = F := by rw [hXY, hll]; simp
    have HLl := Lib.hid hll
    have HYl := Lib.hid hYl
    have HXt := Lib.hid hXt
    clear he hXY hS hN hNN hF hll hYl hXt
    go_upto_region 6 with (go_at_call 18; (with_reducible refine KG.out.mono ?_); rintro e w2 ⟨rfl, hi2, hg2⟩; have HI2 := Lib.hid hi2; have HB2 := Lib.hid (lit_below' HB.out hg2 HL1.out); have HS2 := Lib.hid hg2.size; clear hi2 hg2 KG; dsimp only)
    go_upto_region 7 with (go_at_call 10; (with_reducible refine (KP.out _).mono ?_); rintro e w3 ⟨v, rfl, hv, hb3⟩; have HI3 := Lib.hid (HI2.out.below hb3 (by have := HL2.out; have := HS2.out; omega)); have HV := Lib.hid hv; have HB3 : Hid (Below w.heap.size w w3) := HB2.out.trans (hb3.mono HB2.out.size); clear hb3 hv KP; dsimp only)
    obtain ⟨A2, c2, rfl, hr2, hc2, hm2, _⟩ := HV.out.rd
    rw [← HLl.out] at hc2 ⊢
    have e1 : ∀ wd : World, wd = w3.drew → (convert 22 9 (.slice A2 l c2)).run Try.prog wd = .ok (.string (strB F)) wd := fun wd e => by
      subst e; exact conv_n (B := w3.heap.size) hr2 HLl.out
    have e2 : ∀ wd : World, wd = w3.drew → (convert 22 9 (.slice A l cap)).run Try.prog wd = .ok (.string (strB F)) wd := fun wd e => by
      subst e
      have := conv_take (n := l) (c := cap) (HRX.out.keep (below_drew HB3.out)) (by rw [HXl.out]; exact hlm)
      rw [HXt.out] at this; exact this
    have KL : Hid (∀ wd : World, wd = w3.drew → Calls Try.prog 22 #[ptr (some g)] wd fun e w' => e = .returned (.int .i64 ((m - l : Nat) : Int)) ∧ w' = wd) := fun wd e => by
      subst e; exact left_still (m - l) HYl.out HI3.out.drew
    have HB4 : Hid (∀ wd : World, wd = w3.drew → Below w.heap.size w wd) := fun wd e => by subst e; exact below_drew HB3.out
    refine wp_region_still_tail 26 (by kernel_rfl) (by kernel_rfl) ?_
    change wpStill _ _ w3.drew (fun a' => wpList _ _ _ _ a' w3.drew) _ _
    generalize hWd : w3.drew = Wd
    have d1 := e1 Wd hWd.symm
    have d2 := e2 Wd hWd.symm
    have DL := Lib.hid (KL.out Wd hWd.symm)
    have DB := Lib.hid (HB4.out Wd hWd.symm)
    have es : ((strB F).toList == (strB F).toList) = true := beq_self_eq_true _
    generalize strB F = s at d1 d2 es
    have i1 : (l : Int) ≤ (m : Int) := by omega
    have i2 : IntKind.i64.wrap ((m : Int) - (l : Int)) = ((m - l : Nat) : Int) := by rw [IntWalk.i64_in _ (by omega)]; omega
    have i3 : l ≤ cap := by omega
    have i4 : (l : Int) ≤ (cap : Int) := by omega
    have i5 : (((m - l : Nat) : Int) == ((m - l : Nat) : Int)) = true := beq_self_eq_true _
    generalize ((m - l : Nat) : Int) = dd at DL i2 i5
    clear e1 e2 KL HB4 hWd hr2 hm2
    simp only [List.take_succ_cons, List.take_zero, List.drop_succ_cons, List.drop_zero]
    repeat still_step
    still_call DL.out
    repeat still_step
    refine wpStill_nil ?_
    clear d1 d2 es i2 i5
    go_wp2_with (go_at_call 16; (with_reducible refine (KW.out _).mono ?_); rintro e w5 ⟨rfl, hb⟩; dsimp only)
    go_ret
    exact ⟨rfl, DB.out.trans (hb.mono DB.out.size)⟩
  · have h4 := gE_max _ he
    have KG := Lib.hid (get_w w1 (some g) (g + 1) (some X) (gS (some X)) 18446744073709551615 0 18446744073709551615 4 rfl (by unfold gV; rw [if_neg he]) h4 rfl HI.out (by have := HL2.out; omega))
    clear he h4
    go_wp2_with (first
      | (go_at_call 18; (with_reducible refine KG.out.mono ?_); rintro e w2 ⟨rfl, hi2, hg2⟩; have HB2 := Lib.hid (lit_below' HB.out hg2 HL1.out); clear hi2 hg2 KG; dsimp only)
      | (go_at_call 16; (with_reducible refine (KW.out _).mono ?_); rintro e w5 ⟨rfl, hb⟩; dsimp only))
    go_ret
    exact ⟨rfl, HB2.out.trans (hb.mono HB2.out.size)⟩
end Go.Proofs.Ytalcdejiobpmlaa
