/- What the document's own greater returns: whether one number's digits tell a greater one. -/
import Derived.Test.YtjbjkddgefiicaaDoorDc
namespace Go.Proofs.YtjbjkddgefiicaaDoor
open Go.RowKit
set_option linter.unusedVariables false
set_option linter.unusedSimpArgs false
/-- Is one greater, by the digits below place j? -/
def grt (X Y : List Nat) : Nat → Bool
  | 0 => false
  | j + 1 => if X.getD j 0 = Y.getD j 0 then grt X Y j else decide (Y.getD j 0 < X.getD j 0)
theorem val_cut (l : List Nat) (j : Nat) : val l = val (l.take j) + 10 ^ j * val (l.drop j) := by
  induction j generalizing l with
  | zero => simp [val]
  | succ j ih =>
    cases l with
    | nil => simp [val]
    | cons d l =>
      simp only [List.take_succ_cons, List.drop_succ_cons, val]
      have h := ih l
      have e : 10 * (val (l.take j) + 10 ^ j * val (l.drop j)) = 10 * val (l.take j) + 10 ^ (j + 1) * val (l.drop j) := by
        rw [Nat.mul_add, Nat.pow_succ, ← Nat.mul_assoc, Nat.mul_comm 10 (10 ^ j)]
      omega
theorem val_lt (l : List Nat) (h : Dig l) : val l < 10 ^ l.length := by
  induction l with
  | nil => simp [val]
  | cons d l ih =>
    have h1 := h d (List.mem_cons_self ..)
    have h2 := ih fun x hx => h x (List.mem_cons_of_mem _ hx)
    simp only [val, List.length_cons, Nat.pow_succ]
    omega
theorem val_take_lt (l : List Nat) (j : Nat) (h : Dig l) : val (l.take j) < 10 ^ j := by
  have h1 := val_lt (l.take j) fun d hd => h d (List.mem_of_mem_take hd)
  exact Nat.lt_of_lt_of_le h1 (Nat.pow_le_pow_right (by omega) (by rw [List.length_take]; omega))
theorem val_take_succ (l : List Nat) (j : Nat) : val (l.take (j + 1)) = val (l.take j) + 10 ^ j * l.getD j 0 := by
  by_cases h : j < l.length
  · rw [List.take_succ_eq_append_getElem h, val_app, List.length_take, Nat.min_eq_left (by omega)]
    simp [val, List.getD, h]
  · rw [List.take_of_length_le (by omega), List.take_of_length_le (by omega)]
    simp [List.getD, List.getElem?_eq_none (show l.length ≤ j by omega)]
theorem grt_spec (X Y : List Nat) (hX : Dig X) (hY : Dig Y) (j : Nat) : grt X Y j = decide (val (Y.take j) < val (X.take j)) := by
  induction j with
  | zero => simp [grt, val]
  | succ j ih =>
    unfold grt
    rw [val_take_succ, val_take_succ]
    have hx := val_take_lt X j hX
    have hy := val_take_lt Y j hY
    by_cases e : X.getD j 0 = Y.getD j 0
    · rw [if_pos e, ih, e]
      exact decide_eq_decide.2 (by omega)
    · rw [if_neg e]
      apply decide_eq_decide.2
      constructor
      · intro h
        have : 10 ^ j * (Y.getD j 0 + 1) ≤ 10 ^ j * X.getD j 0 := Nat.mul_le_mul_left _ h
        rw [Nat.mul_add, Nat.mul_one] at this
        omega
      · intro h
        refine Nat.lt_of_not_le fun hle => ?_
        have hlt : X.getD j 0 + 1 ≤ Y.getD j 0 := by omega
        have : 10 ^ j * (X.getD j 0 + 1) ≤ 10 ^ j * Y.getD j 0 := Nat.mul_le_mul_left _ hlt
        rw [Nat.mul_add, Nat.mul_one] at this
        omega
theorem grt_all (X Y : List Nat) (hX : Dig X) (hY : Dig Y) (N : Nat) (h1 : X.length ≤ N) (h2 : Y.length ≤ N) : grt X Y N = decide (val Y < val X) := by
  rw [grt_spec X Y hX hY, List.take_of_length_le h1, List.take_of_length_le h2]
set_option maxRecDepth 100000 in
set_option maxHeartbeats 2000000 in
theorem greater_loop (X Y : List Nat) (A B : Option Addr) (c c2 la lb : Nat) (w : World) (ha : la = X.length) (hb : lb = Y.length) (hX : RdN w w.heap.size A X) (hY : RdN w w.heap.size B Y) (hl : la < 1000000) (hl2 : lb < 1000000) (N : Nat) (hN : N = if la < lb then lb else la) :
    Calls Tryd.prog 48 #[.slice A la c, .slice B lb c2] w fun e w' => e = .returned (.bool (grt X Y N)) ∧ w = w' := by
  have KX := Lib.hid fun i => digit_any X A c i la w ha hX
  have KY := Lib.hid fun i => digit_any Y B c2 i lb w hb hY
  clear hX hY ha hb
  by_cases hc : la < lb
  · skip
    rw [if_pos hc] at hN
    subst hN
    have c1 : (la : Int) < (N : Int) := by omega
    have k0 : IntKind.i64.wrap ((N : Int) - 1) = (N : Int) - 1 := IntWalk.i64_in _ (by omega)
    go_enter Tryd.func48, Tryd.ntmps48
    go_wp2_with fail
    go_loop [6] (fun i => ∃ j : Nat, j ≤ N ∧ i = .int .i64 ((j : Int) - 1) ∧ grt X Y N = grt X Y j) (fun i => (intOf i + 1).toNat)
    case atStart => exact ⟨N, Nat.le_refl _, rfl, rfl⟩
    case round =>
      obtain ⟨j, hj, rfl, hg⟩ := hrel
      have HG := Lib.hid hg
      clear hg
      cases j with
      | zero =>
        have e0 : (((0 : Nat) : Int) - 1) = -1 := rfl
        rw [e0]
        go_wp2_with fail
        go_ret
        exact ⟨by rw [HG.out]; rfl, rfl⟩
      | succ i =>
        have e : (((i + 1 : Nat) : Int) - 1) = (i : Int) := by omega
        rw [e]
        have i0 : (0 : Int) ≤ (i : Int) := by omega
        have kx := Lib.hid (KX.out i)
        have ky := Lib.hid (KY.out i)
        have hgs : grt X Y (i + 1) = if X.getD i 0 = Y.getD i 0 then grt X Y i else decide (Y.getD i 0 < X.getD i 0) := rfl
        have k2 : IntKind.i64.wrap ((i : Int) - 1) = (i : Int) - 1 := IntWalk.i64_in _ (by omega)
        generalize X.getD i 0 = x at kx hgs
        generalize Y.getD i 0 = y at ky hgs
        by_cases hxy : x = y
        · rw [if_pos hxy] at hgs
          have HGS := Lib.hid hgs
          have b1 : ((x : Int) == (y : Int)) = true := by simp [hxy]
          have b2 : ((x : Int) != (y : Int)) = false := by simp [hxy]
          clear hgs
          go_wp2_with (first | (go_at_call_of 49 (Value.slice A la c); (with_reducible refine kx.out.mono ?_); rintro e w' ⟨rfl, rfl⟩; dsimp only) | (go_at_call_of 49 (Value.slice B N c2); (with_reducible refine ky.out.mono ?_); rintro e w' ⟨rfl, rfl⟩; dsimp only))
          go_round
          case rel => exact ⟨i, by omega, rfl, by rw [HG.out, HGS.out]⟩
          case measure => simp [intOf]
        · rw [if_neg hxy] at hgs
          have HGS := Lib.hid hgs
          have hne : (x : Int) ≠ (y : Int) := by omega
          have b1 : ((x : Int) == (y : Int)) = false := by simp; omega
          have b2 : ((x : Int) != (y : Int)) = true := by simp; omega
          have b3 : decide ((y : Int) < (x : Int)) = decide (y < x) := decide_eq_decide.2 (by omega)
          clear hgs
          go_wp2_with (first | (go_at_call_of 49 (Value.slice A la c); (with_reducible refine kx.out.mono ?_); rintro e w' ⟨rfl, rfl⟩; dsimp only) | (go_at_call_of 49 (Value.slice B N c2); (with_reducible refine ky.out.mono ?_); rintro e w' ⟨rfl, rfl⟩; dsimp only))
          go_ret
          exact ⟨by rw [HG.out, HGS.out]; first | rfl | (rw [← b3]; rfl) | (simp [b3]; done) | (simp; done), rfl⟩
  · skip
    rw [if_neg hc] at hN
    subst hN
    have c3 : ¬ (N : Int) < (lb : Int) := by omega
    have k0 : IntKind.i64.wrap ((N : Int) - 1) = (N : Int) - 1 := IntWalk.i64_in _ (by omega)
    go_enter Tryd.func48, Tryd.ntmps48
    go_wp2_with fail
    go_loop [6] (fun i => ∃ j : Nat, j ≤ N ∧ i = .int .i64 ((j : Int) - 1) ∧ grt X Y N = grt X Y j) (fun i => (intOf i + 1).toNat)
    case atStart => exact ⟨N, Nat.le_refl _, rfl, rfl⟩
    case round =>
      obtain ⟨j, hj, rfl, hg⟩ := hrel
      have HG := Lib.hid hg
      clear hg
      cases j with
      | zero =>
        have e0 : (((0 : Nat) : Int) - 1) = -1 := rfl
        rw [e0]
        go_wp2_with fail
        go_ret
        exact ⟨by rw [HG.out]; rfl, rfl⟩
      | succ i =>
        have e : (((i + 1 : Nat) : Int) - 1) = (i : Int) := by omega
        rw [e]
        have i0 : (0 : Int) ≤ (i : Int) := by omega
        have kx := Lib.hid (KX.out i)
        have ky := Lib.hid (KY.out i)
        have hgs : grt X Y (i + 1) = if X.getD i 0 = Y.getD i 0 then grt X Y i else decide (Y.getD i 0 < X.getD i 0) := rfl
        have k2 : IntKind.i64.wrap ((i : Int) - 1) = (i : Int) - 1 := IntWalk.i64_in _ (by omega)
        generalize X.getD i 0 = x at kx hgs
        generalize Y.getD i 0 = y at ky hgs
        by_cases hxy : x = y
        · rw [if_pos hxy] at hgs
          have HGS := Lib.hid hgs
          have b1 : ((x : Int) == (y : Int)) = true := by simp [hxy]
          have b2 : ((x : Int) != (y : Int)) = false := by simp [hxy]
          clear hgs
          go_wp2_with (first | (go_at_call_of 49 (Value.slice A N c); (with_reducible refine kx.out.mono ?_); rintro e w' ⟨rfl, rfl⟩; dsimp only) | (go_at_call_of 49 (Value.slice B lb c2); (with_reducible refine ky.out.mono ?_); rintro e w' ⟨rfl, rfl⟩; dsimp only))
          go_round
          case rel => exact ⟨i, by omega, rfl, by rw [HG.out, HGS.out]⟩
          case measure => simp [intOf]
        · rw [if_neg hxy] at hgs
          have HGS := Lib.hid hgs
          have hne : (x : Int) ≠ (y : Int) := by omega
          have b1 : ((x : Int) == (y : Int)) = false := by simp; omega
          have b2 : ((x : Int) != (y : Int)) = true := by simp; omega
          have b3 : decide ((y : Int) < (x : Int)) = decide (y < x) := decide_eq_decide.2 (by omega)
          clear hgs
          go_wp2_with (first | (go_at_call_of 49 (Value.slice A N c); (with_reducible refine kx.out.mono ?_); rintro e w' ⟨rfl, rfl⟩; dsimp only) | (go_at_call_of 49 (Value.slice B lb c2); (with_reducible refine ky.out.mono ?_); rintro e w' ⟨rfl, rfl⟩; dsimp only))
          go_ret
          exact ⟨by rw [HG.out, HGS.out]; first | rfl | (rw [← b3]; rfl) | (simp [b3]; done) | (simp; done), rfl⟩
end Go.Proofs.YtjbjkddgefiicaaDoor
