/- What the document's own told and digit return: the decimal digits of a number; a digit, or nought beyond the end. -/
import Derived.Test.YtjbjkddgefiicaaDoorDb
namespace Go.Proofs.YtjbjkddgefiicaaDoor
open Go.RowKit
set_option linter.unusedVariables false
set_option linter.unusedSimpArgs false
set_option maxRecDepth 100000 in
set_option maxHeartbeats 2000000 in
theorem told_any (n : Nat) (hn : n < 18446744073709551616) (w : World) :
    Calls Tryd.prog 46 #[.int .u64 n] w fun e w' => ∃ v L, e = .returned v ∧ ON w' w.heap.size v L ∧ Dig L ∧ val L = n ∧ L.length ≤ 20 ∧ Below w.heap.size w w' := by
  go_enter Tryd.func46, Tryd.ntmps46
  go_wp2_with fail
  go_loopw [0, 3] (fun x v wq => ∃ k : Nat, k ≤ 20 ∧ x = .int .u64 ((n / 10 ^ k : Nat) : Int) ∧ ON wq w.heap.size v (dgs n k) ∧ Below w.heap.size w wq) (fun x _ _ => (intOf x).toNat)
  case atStart => exact ⟨0, Nat.zero_le _, by simp, ON.nil _ _, Below.refl _ _⟩
  case round =>
    obtain ⟨k, hk, rfl, ho, hb⟩ := hrel
    obtain ⟨q, hq⟩ : ∃ q, q = n / 10 ^ k := ⟨_, rfl⟩
    have HQ := Lib.hid hq
    have hql : q ≤ n := by rw [hq]; exact Nat.div_le_self _ _
    rw [← hq]
    by_cases h0 : 0 < q
    · have k1 : (0 : Int) < (q : Int) := by omega
      have hk19 : k ≤ 19 := by
        refine Nat.le_of_not_lt fun h => ?_
        have h1 : 10 ^ 20 ≤ 10 ^ k := Nat.pow_le_pow_right (by omega) (by omega)
        have h2 : n / 10 ^ k = 0 := Nat.div_eq_of_lt (by omega)
        omega
      have q1 : IntKind.i64.wrap ((q : Int).tmod 10) = ((q % 10 : Nat) : Int) := by
        rw [Int.tmod_eq_emod_of_nonneg (Int.natCast_nonneg _), IntWalk.i64_in _ (by omega)]; omega
      have q1' : IntKind.i64.wrap (IntKind.u64.wrap ((q : Int).tmod 10)) = ((q % 10 : Nat) : Int) := by
        rw [Int.tmod_eq_emod_of_nonneg (Int.natCast_nonneg _), IntKind.wrap_u64, IntWalk.i64_in _ (by omega)]; omega
      have q2 : IntKind.u64.wrap ((q : Int).tdiv 10) = ((q / 10 : Nat) : Int) := by
        rw [Int.tdiv_eq_ediv_of_nonneg (Int.natCast_nonneg _), IntKind.wrap_u64]; omega
      obtain ⟨x, hx⟩ : ∃ x, x = q % 10 := ⟨_, rfl⟩
      have Hx := Lib.hid hx
      rw [← hx] at q1 q1'
      have q3 : (q : Int) % 10 = ((x : Nat) : Int) := by rw [hx]; omega
      have HO := Lib.hid (ho.alloc (.cells #[.int .i64 ((x : Nat) : Int)] 3))
      have hs1 := Lib.hid (src69_one wr x)
      have hB2 := Lib.hid (hb.alloc hb.size (.cells #[.int .i64 ((x : Nat) : Int)] 3))
      have hBs := Lib.hid (show w.heap.size ≤ (wr.alloc (.cells #[.int .i64 ((x : Nat) : Int)] 3)).heap.size from Nat.le_trans hb.size (by simp))
      have hLn : Hid ((dgs n k).length + [x].length ≤ 17592186044416) := by
        show (dgs n k).length + [x].length ≤ _
        rw [dgs_len]; simp; omega
      clear ho hb hx hq
      go_upto_region 4 with (refine wpList_push69 (o := ⟨some 11, _, _, _, _, _⟩) rfl (.tmp 6) (.tmp 10) rfl rfl w.heap.size _ (dgs n k) [x] rfl HO.out (some ⟨wr.heap.size, 0, none⟩) 1 1 rfl (one_len69 _) hs1.out (fun h => by cases h) hLn.out hB2.out hBs.out (Nat.le_refl _) ?_; intro v' w' h1 h2 h3)
      have H1 : Hid (ON w' w.heap.size v' (dgs n (k + 1))) := by
        show ON w' w.heap.size v' (dgs n k ++ [n / 10 ^ k % 10])
        rw [← HQ.out, ← Hx.out]; exact h1
      have H2 := Lib.hid h2
      clear h1 h2 h3 HO hs1 hB2 hBs hLn q1 q1' q3
      go_wp2_with fail
      go_roundw
      case rel => exact ⟨k + 1, by omega, by rw [Nat.pow_succ, ← Nat.div_div_eq_div_mul, ← HQ.out]; simp, H1.out, H2.out⟩
      case measure => simp [intOf]; omega
    · have hz : q = 0 := by omega
      have k1 : ¬ (0 : Int) < (q : Int) := by omega
      have hv : val (dgs n k) = n := by
        have := dgs_val n k
        rw [← HQ.out, hz] at this; simpa using this
      have HO := Lib.hid ho
      have HB := Lib.hid hb
      have HV := Lib.hid hv
      clear ho hb hv hq
      go_wp2_with fail
      go_ret
      exact ⟨_, rfl, dgs n k, HO.out, dgs_dig n k, HV.out, by rw [dgs_len]; omega, HB.out⟩
set_option maxRecDepth 100000 in
set_option maxHeartbeats 1000000 in
theorem digit_any (M : List Nat) (A : Option Addr) (c i n : Nat) (w : World) (hn : n = M.length) (hR : RdN w w.heap.size A M) :
    Calls Tryd.prog 49 #[.slice A n c, .int .i64 i] w fun e w' => e = .returned (.int .i64 ((M.getD i 0 : Nat) : Int)) ∧ w = w' := by
  by_cases h : i < n
  · obtain ⟨b, o, rfl, hlt, hc⟩ := hR (by omega)
    have c0 := hc i (by omega)
    have i0 : (0 : Int) ≤ (i : Int) := by omega
    have i1 : (i : Int) < (n : Int) := by omega
    obtain ⟨x, hx⟩ : ∃ x, x = M.getD i 0 := ⟨_, rfl⟩
    rw [← hx] at c0 ⊢
    clear hc hx hR hn
    go_enter Tryd.func49, Tryd.ntmps49
    go_wp2
    go_ret
    exact ⟨rfl, rfl⟩
  · have i1 : ¬ (i : Int) < (n : Int) := by omega
    have e : M.getD i 0 = 0 := by simp [List.getD]; rw [List.getElem?_eq_none (by omega)]; rfl
    rw [e]
    clear hR hn e
    go_enter Tryd.func49, Tryd.ntmps49
    go_wp2
    go_ret
    exact ⟨rfl, rfl⟩
end Go.Proofs.YtjbjkddgefiicaaDoor
