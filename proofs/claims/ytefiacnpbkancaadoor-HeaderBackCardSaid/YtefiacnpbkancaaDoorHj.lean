/- What slices.Reverse of the 32 bytes of a hash does. -/
import Derived.Test.YtefiacnpbkancaaDoorHe
namespace Go.Proofs.YtefiacnpbkancaaDoor
open Go.RowKit
set_option linter.unusedVariables false
set_option linter.unusedSimpArgs false
set_option maxRecDepth 100000
/-- The first k and the last k have been swapped. -/
def swp (R : List (BitVec 8)) (k : Nat) : List (BitVec 8) := (List.range 32).map fun i => if i < k ∨ 31 - i < k then R.getD (31 - i) 0 else R.getD i 0
theorem swp_len (R : List (BitVec 8)) (k : Nat) : (swp R k).length = 32 := by simp [swp]
theorem swp_zero {R : List (BitVec 8)} (h : R.length = 32) : swp R 0 = R := by
  apply List.ext_getElem (by rw [swp_len, h])
  intro i h1 h2
  simp [swp, List.getD, h2]
theorem swp_at (R : List (BitVec 8)) (k i : Nat) (hi : i < 32) : (swp R k).getD i 0 = if i < k ∨ 31 - i < k then R.getD (31 - i) 0 else R.getD i 0 := by
  simp [swp, List.getD, hi]
theorem swp_step (R : List (BitVec 8)) (k : Nat) (hk : k < 16) : ((swp R k).set k ((swp R k).getD (31 - k) 0)).set (31 - k) ((swp R k).getD k 0) = swp R (k + 1) := by
  rw [swp_at R k k (by omega), swp_at R k (31 - k) (by omega), if_neg (by omega), if_neg (by omega)]
  apply List.ext_getElem (by simp [swp])
  intro i h1 h2
  have hi : i < 32 := by rw [swp_len] at h2; exact h2
  simp only [List.getElem_set, swp, List.getElem_map, List.getElem_range]
  by_cases e1 : 31 - k = i
  · subst e1
    rw [if_pos rfl, if_pos (by omega), show 31 - (31 - k) = k by omega]
  · rw [if_neg e1]
    by_cases e2 : k = i
    · subst e2
      rw [if_pos rfl, if_pos (by omega)]
    · rw [if_neg e2]
      by_cases e3 : i < k ∨ 31 - i < k
      · rw [if_pos e3, if_pos (by omega)]
      · rw [if_neg e3, if_neg (by omega)]
theorem swp_end {R : List (BitVec 8)} (h : R.length = 32) : swp R 16 = R.reverse := by
  apply List.ext_getElem (by simp [swp, h])
  intro i h1 h2
  have hi : i < 32 := by rw [swp_len] at h1; exact h1
  simp only [swp, List.getElem_map, List.getElem_range, List.getElem_reverse, h]
  rw [if_pos (by omega)]
  simp [List.getD, h, show 31 - i < 32 by omega]
/-- Only block b has changed. -/
structure SwQ (w : World) (b : Nat) (T : TypeId) (L : List (BitVec 8)) (wq : World) : Prop where
  blk : Blk wq b T (vbs L)
  gr : w.grownBy wq (some b)
theorem grownBy_setCell {w wq : World} {b j : Nat} (h : w.grownBy wq (some b)) (v : Value) : w.grownBy (wq.setCell ⟨b, j, none⟩ v) (some b) :=
  grown_setCells (w := w) [v] j wq h
theorem SwQ.step {w wq : World} {b : Nat} {T : TypeId} {R : List (BitVec 8)} {k : Nat} (h : SwQ w b T (swp R k) wq) (hk : k < 16) :
    SwQ w b T (swp R (k + 1)) ((wq.setCell ⟨b, k, none⟩ (.int .u8 (Bt ((swp R k).getD (31 - k) 0)))).setCell ⟨b, 31 - k, none⟩ (.int .u8 (Bt ((swp R k).getD k 0)))) := by
  refine ⟨?_, grownBy_setCell (grownBy_setCell h.gr _) _⟩
  have := (h.blk.set k (.int .u8 (Bt ((swp R k).getD (31 - k) 0)))).set (31 - k) (.int .u8 (Bt ((swp R k).getD k 0)))
  rw [vbs_set, vbs_set, swp_step R k hk] at this
  exact this
theorem SwQ.drew {w wq : World} {b : Nat} {T : TypeId} {L : List (BitVec 8)} (h : SwQ w b T L wq) : SwQ w b T L wq.drew := ⟨h.blk, ⟨h.gr.os, h.gr.tape, h.gr.output, h.gr.size, h.gr.block⟩⟩
set_option maxHeartbeats 4000000 in
theorem reverse_any (b : Nat) (T : TypeId) (R : List (BitVec 8)) (w : World) (hb : Blk w b T (vbs R)) (hR : R.length = 32) :
    Calls Tryd.prog 21 #[.slice (some ⟨b, 0, none⟩) 32 32] w fun e w' => e = .returned (.tuple #[]) ∧ SwQ w b T R.reverse w' := by
  have HQ0 : Hid (SwQ w b T (swp R 0) w) := (⟨by rw [swp_zero hR]; exact hb, grown_refl w _⟩ : SwQ w b T (swp R 0) w)
  have HE := Lib.hid (swp_end hR)
  clear hb hR
  go_enter Tryd.func21, Tryd.ntmps21
  go_wp2_with fail
  go_loopw [2, 3] (fun i j wq => ∃ k : Nat, k ≤ 16 ∧ i = .int .i64 (k : Int) ∧ j = .int .i64 (31 - (k : Int)) ∧ SwQ w b T (swp R k) wq) (fun i _ _ => 16 - (intOf i).toNat)
  case atStart => exact ⟨0, Nat.zero_le _, rfl, by simp, HQ0.out⟩
  case round =>
    obtain ⟨k, hk, rfl, rfl, hq⟩ := hrel
    clear HQ0
    by_cases hlt : k < 16
    · have j1 : (k : Int) < 31 - (k : Int) := by omega
      have k0 : (0 : Int) ≤ (k : Int) := by omega
      have k1 : (k : Int) < 32 := by omega
      have k2 : (31 : Int) - (k : Int) < 32 := by omega
      have k3 : (0 : Int) ≤ 31 - (k : Int) := by omega
      have hl := swp_len R k
      have c0 := hq.blk.cell (vbs_at (l := swp R k) (j := k) (by omega))
      have c1 := hq.blk.cell (vbs_at (l := swp R k) (j := 31 - k) (by omega))
      have f0 := hq.blk.free k
      have f1 := hq.blk.free (31 - k)
      have hst := (hq.step hlt).drew
      obtain ⟨x, hx⟩ : ∃ x, x = (swp R k).getD k 0 := ⟨_, rfl⟩
      obtain ⟨y, hy⟩ : ∃ y, y = (swp R k).getD (31 - k) 0 := ⟨_, rfl⟩
      rw [← hx] at c0 hst
      rw [← hy] at c1 hst
      have Hst := Lib.hid hst
      clear hq hx hy hst hl
      have kn : ((31 : Int) - (k : Int)).toNat = 31 - k := by omega
      go_wp2_with fail
      refine wp_calm_any ?_
      go_region
      clear c0 c1 f0 f1 kn k2 k3 j1 k1
      dsimp only [Exit.then]
      have m1 : IntKind.i64.wrap ((k : Int) + 1) = (k : Int) + 1 := IntWalk.i64_in _ (by omega)
      have m2 : IntKind.i64.wrap (31 - (k : Int) - 1) = 31 - (k : Int) - 1 := IntWalk.i64_in _ (by omega)
      go_wp2_with fail
      go_roundw
      case rel => exact ⟨k + 1, by omega, by simp, by go_num, Hst.out⟩
      case measure => simp [intOf]; omega
    · obtain rfl : k = 16 := by omega
      rw [HE.out] at hq
      have HQ := Lib.hid hq
      clear hq
      have ec : ((16 : Nat) : Int) = 16 := rfl
      rw [ec]
      go_wp2_with fail
      go_end0
      exact ⟨rfl, HQ.out⟩
end Go.Proofs.YtefiacnpbkancaaDoor
