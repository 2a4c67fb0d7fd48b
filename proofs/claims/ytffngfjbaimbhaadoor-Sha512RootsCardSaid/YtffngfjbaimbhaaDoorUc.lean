/- What the document's own above of long numbers returns: whether one is greater. -/
import Derived.Test.YtffngfjbaimbhaaDoorUb
import Derived.Outline
namespace Go.Proofs.YtffngfjbaimbhaaDoor
open Go.RowKit
set_option linter.unusedVariables false
set_option linter.unusedSimpArgs false
set_option maxRecDepth 100000
theorem getD_out (X : List Nat) (j : Nat) (h : X.length ≤ j) : X.getD j 0 = 0 := by simp [List.getD, List.getElem?_eq_none h]
set_option maxHeartbeats 4000000 in
theorem above_loop (X Y : List Nat) (A B : Option Addr) (c c2 la lb : Nat) (w : World) (ha : la = X.length) (hb : lb = Y.length) (hX : RdQ w w.heap.size A X) (hY : RdQ w w.heap.size B Y) (hl : la < 1000000) (hl2 : lb < 1000000) (N : Nat) (hN : N = if la < lb then lb else la) :
    Calls Tryd.prog 29 #[.slice A la c, .slice B lb c2] w fun e w' => e = .returned (.bool (grt X Y N)) ∧ w = w' := by
  have HX := Lib.hid hX
  have HY := Lib.hid hY
  have Ha := Lib.hid ha
  have Hb := Lib.hid hb
  have hN1 : la ≤ N := by rw [hN]; split <;> omega
  have hN2 : lb ≤ N := by rw [hN]; split <;> omega
  have hN3 : N < 1000000 := by rw [hN]; split <;> omega
  have k0 : IntKind.i64.wrap ((N : Int) - 1) = (N : Int) - 1 := IntWalk.i64_in _ (by omega)
  have hsplit : (la < lb ∧ N = lb) ∨ (¬ la < lb ∧ N = la) := by
    by_cases h : la < lb
    · exact .inl ⟨h, by rw [hN, if_pos h]⟩
    · exact .inr ⟨h, by rw [hN, if_neg h]⟩
  clear hX hY ha hb hN
  rcases hsplit with ⟨hc, he⟩ | ⟨hc, he⟩
  · skip
    have c1 : (la : Int) < (lb : Int) := by omega
    obtain rfl := he.symm
    go_enter Tryd.func29, Tryd.ntmps29
    go_wp2_with fail
    go_loop [6] (fun i => ∃ j : Nat, j ≤ lb ∧ i = .int .i64 ((j : Int) - 1) ∧ grt X Y lb = grt X Y j) (fun i => (intOf i + 1).toNat)
    case atStart => exact ⟨lb, Nat.le_refl _, rfl, rfl⟩
    case round =>
      obtain ⟨j, hj, rfl, hg⟩ := hrel
      have HG := Lib.hid hg
      clear hg c1 k0
      cases j with
      | zero =>
        have e0 : (((0 : Nat) : Int) - 1) = -1 := rfl
        rw [e0]
        go_wp2_with fail
        go_ret
        exact ⟨by rw [HG.out]; rfl, rfl⟩
      | succ i =>
        have e : (((i + 1 : Nat) : Int) - 1) = (i : Int) := by omega
        rw [e]
        have i0 : (0 : Int) ≤ (i : Int) := by omega
        have hgs : grt X Y (i + 1) = if X.getD i 0 = Y.getD i 0 then grt X Y i else decide (Y.getD i 0 < X.getD i 0) := rfl
        have k2 : IntKind.i64.wrap ((i : Int) - 1) = (i : Int) - 1 := IntWalk.i64_in _ (by omega)
        have hx0 : ¬ i < la → X.getD i 0 = 0 := fun h => getD_out X i (by rw [← Ha.out]; omega)
        have hy0 : ¬ i < lb → Y.getD i 0 = 0 := fun h => getD_out Y i (by rw [← Hb.out]; omega)
        have hxc : i < la → ∃ b o, A = some ⟨b, o, none⟩ ∧ w.cell? ⟨b, o + i, none⟩ = some (.int .u64 ((X.getD i 0 : Nat) : Int)) := fun h => by
          obtain ⟨b, o, e, _, hc⟩ := HX.out (by rw [← Ha.out]; omega)
          exact ⟨b, o, e, hc i (by rw [← Ha.out]; exact h)⟩
        have hyc : i < lb → ∃ b o, B = some ⟨b, o, none⟩ ∧ w.cell? ⟨b, o + i, none⟩ = some (.int .u64 ((Y.getD i 0 : Nat) : Int)) := fun h => by
          obtain ⟨b, o, e, _, hc⟩ := HY.out (by rw [← Hb.out]; omega)
          exact ⟨b, o, e, hc i (by rw [← Hb.out]; exact h)⟩
        generalize X.getD i 0 = x at hgs hx0 hxc
        generalize Y.getD i 0 = y at hgs hy0 hyc
        by_cases hix : i < la
        · by_cases hiy : i < lb
          · have i1 : (i : Int) < (la : Int) := by omega
            have i2 : (i : Int) < (lb : Int) := by omega
            obtain ⟨xb, xo, rfl, cx⟩ := hxc hix
            obtain ⟨yb, yo, rfl, cy⟩ := hyc hiy
            clear hx0 hy0 hxc hyc
            by_cases hxy : x = y
            · rw [if_pos hxy] at hgs
              have HGS := Lib.hid hgs
              have b2 : ((x : Int) != (y : Int)) = false := by simp [hxy]
              clear hgs hxy
              go_wp2_with fail
              go_round
              case rel => exact ⟨i, by omega, rfl, by rw [HG.out, HGS.out]⟩
              case measure => simp [intOf]
            · rw [if_neg hxy] at hgs
              have HGS := Lib.hid hgs
              have b2 : ((x : Int) != (y : Int)) = true := by simp; omega
              have b3 : decide ((y : Int) < (x : Int)) = decide (y < x) := decide_eq_decide.2 (by omega)
              clear hgs hxy
              go_wp2_with fail
              go_ret
              exact ⟨by rw [HG.out, HGS.out]; first | rfl | (rw [← b3]; rfl) | (simp [b3]; done) | (simp; done), rfl⟩
          · have i1 : (i : Int) < (la : Int) := by omega
            have i2 : ¬ (i : Int) < (lb : Int) := by omega
            obtain ⟨xb, xo, rfl, cx⟩ := hxc hix
            obtain rfl := hy0 hiy
            clear hx0 hy0 hxc hyc
            by_cases hxy : x = 0
            · rw [if_pos hxy] at hgs
              have HGS := Lib.hid hgs
              subst hxy
              have z0 : (((0 : Nat) : Int)) = 0 := rfl
              rw [z0] at cx
              clear hgs z0
              go_wp2_with fail
              go_round
              case rel => exact ⟨i, by omega, rfl, by rw [HG.out, HGS.out]⟩
              case measure => simp [intOf]
            · rw [if_neg hxy] at hgs
              have HGS := Lib.hid hgs
              have b2 : ((x : Int) != 0) = true := by simp; omega
              have b4 : (0 : Int) < (x : Int) := by omega
              have b5 : decide (0 < x) = true := by simp; omega
              have Hb5 := Lib.hid b5
              clear hgs hxy b5
              go_wp2_with fail
              go_ret
              exact ⟨by rw [HG.out, HGS.out, Hb5.out]; rfl, rfl⟩
        · by_cases hiy : i < lb
          · have i1 : ¬ (i : Int) < (la : Int) := by omega
            have i2 : (i : Int) < (lb : Int) := by omega
            obtain ⟨yb, yo, rfl, cy⟩ := hyc hiy
            obtain rfl := hx0 hix
            clear hx0 hy0 hxc hyc
            by_cases hxy : y = 0
            · rw [if_pos hxy.symm] at hgs
              have HGS := Lib.hid hgs
              subst hxy
              have z0 : (((0 : Nat) : Int)) = 0 := rfl
              rw [z0] at cy
              clear hgs z0
              go_wp2_with fail
              go_round
              case rel => exact ⟨i, by omega, rfl, by rw [HG.out, HGS.out]⟩
              case measure => simp [intOf]
            · rw [if_neg (fun h => hxy h.symm)] at hgs
              have HGS := Lib.hid hgs
              have b2 : ((0 : Int) != (y : Int)) = true := by simp; omega
              have b4 : ¬ (y : Int) < 0 := by omega
              have b5 : decide (y < 0) = false := by simp
              have Hb5 := Lib.hid b5
              clear hgs hxy b5
              go_wp2_with fail
              go_ret
              exact ⟨by rw [HG.out, HGS.out, Hb5.out]; rfl, rfl⟩
          · omega
  · skip
    have c1 : ¬ (la : Int) < (lb : Int) := by omega
    obtain rfl := he.symm
    go_enter Tryd.func29, Tryd.ntmps29
    go_wp2_with fail
    go_loop [6] (fun i => ∃ j : Nat, j ≤ la ∧ i = .int .i64 ((j : Int) - 1) ∧ grt X Y la = grt X Y j) (fun i => (intOf i + 1).toNat)
    case atStart => exact ⟨la, Nat.le_refl _, rfl, rfl⟩
    case round =>
      obtain ⟨j, hj, rfl, hg⟩ := hrel
      have HG := Lib.hid hg
      clear hg c1 k0
      cases j with
      | zero =>
        have e0 : (((0 : Nat) : Int) - 1) = -1 := rfl
        rw [e0]
        go_wp2_with fail
        go_ret
        exact ⟨by rw [HG.out]; rfl, rfl⟩
      | succ i =>
        have e : (((i + 1 : Nat) : Int) - 1) = (i : Int) := by omega
        rw [e]
        have i0 : (0 : Int) ≤ (i : Int) := by omega
        have hgs : grt X Y (i + 1) = if X.getD i 0 = Y.getD i 0 then grt X Y i else decide (Y.getD i 0 < X.getD i 0) := rfl
        have k2 : IntKind.i64.wrap ((i : Int) - 1) = (i : Int) - 1 := IntWalk.i64_in _ (by omega)
        have hx0 : ¬ i < la → X.getD i 0 = 0 := fun h => getD_out X i (by rw [← Ha.out]; omega)
        have hy0 : ¬ i < lb → Y.getD i 0 = 0 := fun h => getD_out Y i (by rw [← Hb.out]; omega)
        have hxc : i < la → ∃ b o, A = some ⟨b, o, none⟩ ∧ w.cell? ⟨b, o + i, none⟩ = some (.int .u64 ((X.getD i 0 : Nat) : Int)) := fun h => by
          obtain ⟨b, o, e, _, hc⟩ := HX.out (by rw [← Ha.out]; omega)
          exact ⟨b, o, e, hc i (by rw [← Ha.out]; exact h)⟩
        have hyc : i < lb → ∃ b o, B = some ⟨b, o, none⟩ ∧ w.cell? ⟨b, o + i, none⟩ = some (.int .u64 ((Y.getD i 0 : Nat) : Int)) := fun h => by
          obtain ⟨b, o, e, _, hc⟩ := HY.out (by rw [← Hb.out]; omega)
          exact ⟨b, o, e, hc i (by rw [← Hb.out]; exact h)⟩
        generalize X.getD i 0 = x at hgs hx0 hxc
        generalize Y.getD i 0 = y at hgs hy0 hyc
        by_cases hix : i < la
        · by_cases hiy : i < lb
          · have i1 : (i : Int) < (la : Int) := by omega
            have i2 : (i : Int) < (lb : Int) := by omega
            obtain ⟨xb, xo, rfl, cx⟩ := hxc hix
            obtain ⟨yb, yo, rfl, cy⟩ := hyc hiy
            clear hx0 hy0 hxc hyc
            by_cases hxy : x = y
            · rw [if_pos hxy] at hgs
              have HGS := Lib.hid hgs
              have b2 : ((x : Int) != (y : Int)) = false := by simp [hxy]
              clear hgs hxy
              go_wp2_with fail
              go_round
              case rel => exact ⟨i, by omega, rfl, by rw [HG.out, HGS.out]⟩
              case measure => simp [intOf]
            · rw [if_neg hxy] at hgs
              have HGS := Lib.hid hgs
              have b2 : ((x : Int) != (y : Int)) = true := by simp; omega
              have b3 : decide ((y : Int) < (x : Int)) = decide (y < x) := decide_eq_decide.2 (by omega)
              clear hgs hxy
              go_wp2_with fail
              go_ret
              exact ⟨by rw [HG.out, HGS.out]; first | rfl | (rw [← b3]; rfl) | (simp [b3]; done) | (simp; done), rfl⟩
          · have i1 : (i : Int) < (la : Int) := by omega
            have i2 : ¬ (i : Int) < (lb : Int) := by omega
            obtain ⟨xb, xo, rfl, cx⟩ := hxc hix
            obtain rfl := hy0 hiy
            clear hx0 hy0 hxc hyc
            by_cases hxy : x = 0
            · rw [if_pos hxy] at hgs
              have HGS := Lib.hid hgs
              subst hxy
              have z0 : (((0 : Nat) : Int)) = 0 := rfl
              rw [z0] at cx
              clear hgs z0
              go_wp2_with fail
              go_round
              case rel => exact ⟨i, by omega, rfl, by rw [HG.out, HGS.out]⟩
              case measure => simp [intOf]
            · rw [if_neg hxy] at hgs
              have HGS := Lib.hid hgs
              have b2 : ((x : Int) != 0) = true := by simp; omega
              have b4 : (0 : Int) < (x : Int) := by omega
              have b5 : decide (0 < x) = true := by simp; omega
              have Hb5 := Lib.hid b5
              clear hgs hxy b5
              go_wp2_with fail
              go_ret
              exact ⟨by rw [HG.out, HGS.out, Hb5.out]; rfl, rfl⟩
        · by_cases hiy : i < lb
          · have i1 : ¬ (i : Int) < (la : Int) := by omega
            have i2 : (i : Int) < (lb : Int) := by omega
            obtain ⟨yb, yo, rfl, cy⟩ := hyc hiy
            obtain rfl := hx0 hix
            clear hx0 hy0 hxc hyc
            by_cases hxy : y = 0
            · rw [if_pos hxy.symm] at hgs
              have HGS := Lib.hid hgs
              subst hxy
              have z0 : (((0 : Nat) : Int)) = 0 := rfl
              rw [z0] at cy
              clear hgs z0
              go_wp2_with fail
              go_round
              case rel => exact ⟨i, by omega, rfl, by rw [HG.out, HGS.out]⟩
              case measure => simp [intOf]
            · rw [if_neg (fun h => hxy h.symm)] at hgs
              have HGS := Lib.hid hgs
              have b2 : ((0 : Int) != (y : Int)) = true := by simp; omega
              have b4 : ¬ (y : Int) < 0 := by omega
              have b5 : decide (y < 0) = false := by simp
              have Hb5 := Lib.hid b5
              clear hgs hxy b5
              go_wp2_with fail
              go_ret
              exact ⟨by rw [HG.out, HGS.out, Hb5.out]; rfl, rfl⟩
          · omega
theorem above_p (X Y : List Nat) (v u : Value) (w : World) (hv : Num w v X) (hu : Num w u Y) (a b la lb : Nat) (c : Bool) (ha : val X = a) (hb : val Y = b) (hl : X.length = la) (hl2 : Y.length = lb) (h1 : la < 500) (h2 : lb < 500) (hc : decide (b < a) = c) :
    Calls Tryd.prog 29 #[v, u] w fun e w' => e = .returned (.bool c) ∧ w = w' := by
  obtain ⟨A, c, rfl, hr, hd⟩ := hv
  obtain ⟨B, c2, rfl, hr2, hd2⟩ := hu
  have h := above_loop X Y A B c c2 X.length Y.length w rfl rfl hr hr2 (by omega) (by omega) _ rfl
  rw [grt_all X Y hd hd2 _ (by split <;> omega) (by split <;> omega), ha, hb, hc] at h
  exact h
end Go.Proofs.YtffngfjbaimbhaaDoor
