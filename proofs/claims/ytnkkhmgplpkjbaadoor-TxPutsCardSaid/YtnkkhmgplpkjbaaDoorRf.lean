/- Numbers as bytes, the lowest first; what Num returns, and what the reader is then. -/
import Derived.Test.YtnkkhmgplpkjbaaDoorRe
import Derived.Outline
namespace Go.Proofs.YtnkkhmgplpkjbaaDoor
open Go.RowKit
set_option maxRecDepth 100000
set_option linter.unusedVariables false
set_option linter.unusedSimpArgs false
/-- The number that bytes form, the lowest first. -/
def lev : List (BitVec 8) → Nat
  | [] => 0
  | x :: r => x.toNat + 256 * lev r
theorem lev_lt : ∀ (L : List (BitVec 8)), lev L < 2 ^ (8 * L.length)
  | [] => by simp [lev]
  | x :: r => by
    have h := lev_lt r
    have hx := x.isLt
    have e : 2 ^ (8 * (x :: r).length) = 256 * 2 ^ (8 * r.length) := by
      rw [List.length_cons, show 8 * (r.length + 1) = 8 * r.length + 8 by omega, Nat.pow_add]; omega
    unfold lev
    omega
theorem lev_app : ∀ (L M : List (BitVec 8)), lev (L ++ M) = lev L + 2 ^ (8 * L.length) * lev M
  | [], M => by simp [lev]
  | x :: r, M => by
    rw [List.cons_append, lev, lev, lev_app r M, List.length_cons, show 8 * (r.length + 1) = 8 + 8 * r.length by omega, Nat.pow_add]
    rw [show (2 : Nat) ^ 8 = 256 from rfl, Nat.mul_add, Nat.mul_assoc]
    omega
theorem lev_snoc (L : List (BitVec 8)) (k : Nat) (hk : k < L.length) : lev (L.take (k + 1)) = lev (L.take k) + 2 ^ (8 * k) * (L.getD k 0).toNat := by
  rw [List.take_succ_eq_append_getElem hk, lev_app, List.length_take, Nat.min_eq_left (by omega)]
  simp [lev, List.getD, hk]
theorem or_add (a b k : Nat) (h : a < 2 ^ k) : a ||| (b * 2 ^ k) = a + 2 ^ k * b := by
  rw [Nat.or_comm, ← Nat.shiftLeft_eq, ← Nat.shiftLeft_add_eq_or_of_lt h, Nat.shiftLeft_eq]
  rw [Nat.mul_comm b]
  omega
theorem num_step (L : List (BitVec 8)) (k : Nat) (hk : k < L.length) (hk8 : k < 8) :
    bits .or .u64 (lev (L.take k) : Int) (IntKind.u64.wrap (IntKind.u64.wrap (Bt (L.getD k 0)) * 2 ^ (8 * k))) = (lev (L.take (k + 1)) : Int) := by
  obtain ⟨x, hx⟩ : ∃ x, x = L.getD k 0 := ⟨_, rfl⟩
  have hlt := lev_lt (L.take k)
  rw [List.length_take, Nat.min_eq_left (by omega)] at hlt
  have hp : (2 : Nat) ^ (8 * k) * 256 ≤ 18446744073709551616 := by
    have : (2 : Nat) ^ (8 * k) * 256 = 2 ^ (8 * k + 8) := by rw [Nat.pow_add]
    rw [this]
    exact Nat.pow_le_pow_right (by omega) (show 8 * k + 8 ≤ 64 by omega)
  rw [lev_snoc L k hk, ← hx, ← or_add _ _ _ hlt]
  have hb := x.isLt
  have hm : x.toNat * 2 ^ (8 * k) < 18446744073709551616 := by
    have : x.toNat * 2 ^ (8 * k) ≤ 255 * 2 ^ (8 * k) := Nat.mul_le_mul_right _ (by omega)
    have h0 : 0 < 2 ^ (8 * k) := Nat.two_pow_pos _
    omega
  have e : IntKind.u64.wrap (IntKind.u64.wrap (Bt x) * 2 ^ (8 * k)) = ((x.toNat * 2 ^ (8 * k) : Nat) : Int) := by
    rw [show IntKind.u64.wrap (Bt x) = Bt x by rw [IntKind.wrap_u64]; unfold Bt; omega, IntKind.wrap_u64]
    unfold Bt
    rw [show ((x.toNat : Int) * 2 ^ (8 * k)) = ((x.toNat * 2 ^ (8 * k) : Nat) : Int) by simp]
    omega
  rw [e, u64_or_nat _ _ (by omega) (by omega)]
def numV (s : Option (List (BitVec 8))) (n : Int) : Nat := if isW n then lev (takeL s n) else 0
def numS (s : Option (List (BitVec 8))) (n : Int) : Option (List (BitVec 8)) := if isW n then cutS s n else none
theorem isW_pos {n : Int} (h : isW n = true) : 1 ≤ n ∧ n ≤ 8 := by
  simp [isW] at h
  omega
/-- What Num tells, and leaves behind. -/
def NumPost (x : Nat) (s : Option (List (BitVec 8))) (B : Nat) (p : Option Nat) (w : World) (e : Ending) (w' : World) : Prop :=
  e = .returned (.int .u64 x) ∧ IsR w' B p s ∧ w.grownBy w' p
theorem num_any (p : Option Nat) (s : Option (List (BitVec 8))) (n : Int) (B : Nat) (w : World) (h : IsR w B p s) (hB : B ≤ w.heap.size) :
    Calls Tryd.prog 58 #[ptr p, .int .i64 n] w (NumPost (numV s n) (numS s n) B p w) := by
  have HW := Lib.hid (isWidth_any n w)
  by_cases hw : isW n = true
  · have HC := Lib.hid (cut_any p s n B w h)
    rw [hw] at HW
    by_cases hs : hasB s n = true
    · cases s with
      | none => cases hs
      | some L =>
        have hn := isW_pos hw
        obtain ⟨k, rfl⟩ : ∃ k : Nat, n = k := ⟨n.toNat, by omega⟩
        obtain ⟨h1, h2, h3⟩ := cut_yes hs
        have e1 : numV (some L) k = lev (L.take k) := by unfold numV; rw [if_pos hw, h1]; rfl
        have e2 : numS (some L) k = some (L.drop k) := by unfold numS; rw [if_pos hw, h2]; rfl
        rw [e1, e2]
        have hk1 : 1 ≤ k := by omega
        have hk8 : k ≤ 8 := by omega
        have hlen : (L.take k).length = k := by rw [List.length_take]; simp at h3; omega
        have HS := Lib.hid hs
        obtain ⟨q, hq⟩ : ∃ q, q = ptr p := ⟨_, rfl⟩
        rw [← hq] at HC ⊢
        have HLen := Lib.hid hlen
        clear h hq hs h1 h2 h3 e1 e2 hw hn hlen
        go_enter Tryd.func58, Tryd.ntmps58
        go_upto_region 9 with (first | (go_at_call 82; (with_reducible refine HW.out.mono ?_); rintro e w' ⟨rfl, rfl⟩; dsimp only) | (go_at_call 84; (with_reducible refine HC.out.mono ?_); rintro e w1 hP; obtain ⟨hG, hN, hY⟩ := hP; obtain ⟨M, A, hM, rfl, hO, hA, hI⟩ := hY HS.out; cases hM; clear hN hY hA; dsimp only))
        rw [show ((k : Int).toNat) = k from rfl] at hO hI
        obtain ⟨X, hX⟩ : ∃ X, X = L.take k := ⟨_, rfl⟩
        have hlen : X.length = k := by rw [hX]; exact HLen.out
        rw [← hX] at hO ⊢
        obtain ⟨b, o, rfl, hbB, hc⟩ := hO.rd (by omega)
        have hst := num_step X
        rw [hlen] at hst
        have hfin : X.take k = X := List.take_of_length_le (by omega)
        rw [hlen] at hc
        have HF := Lib.hid hfin
        have HXe := Lib.hid hX
        have HX := Lib.hid hst
        have HCl := Lib.hid hc
        have HI := Lib.hid hI
        have HG := Lib.hid hG
        clear hO HLen HS HC hX hlen hst hfin hc hI hG
        go_loop [7, 23] (fun t i => ∃ j : Nat, j ≤ k ∧ i = .int .i64 j ∧ t = .int .u64 (lev (X.take j))) (fun _ i => k - (intOf i).toNat)
        case atStart => exact ⟨0, Nat.zero_le _, rfl, rfl⟩
        case round =>
          obtain ⟨j, hj, rfl, rfl⟩ := hrel
          by_cases hlt : j < k
          · have c0 := HCl.out j hlt
            have h0 : (0 : Int) ≤ (j : Int) := by omega
            have hmin : min (8 * j) 64 = 8 * j := by omega
            have hor := HX.out j hlt (by omega)
            obtain ⟨z, hz⟩ : ∃ z, z = lev (X.take j) := ⟨_, rfl⟩
            obtain ⟨z', hz'⟩ : ∃ z', z' = lev (X.take (j + 1)) := ⟨_, rfl⟩
            obtain ⟨y, hy⟩ : ∃ y, y = X.getD j 0 := ⟨_, rfl⟩
            have HZ := Lib.hid hz'
            rw [← hy] at c0 hor
            rw [← hz, ← hz'] at hor
            rw [← hz]
            clear hz hz' hy
            go_wp2
            go_round
            case rel => exact ⟨j + 1, by omega, by go_num, by rw [HZ.out]⟩
            case measure => simp [intOf]; omega
          · obtain rfl : j = k := by omega
            go_wp2
            go_ret
            exact ⟨ret_int (by rw [HF.out, HXe.out]), HI.out, HG.out⟩
    · have hs' : hasB s n = false := by simpa using hs
      obtain ⟨h1, h2⟩ := cut_no hs'
      have e1 : numV s n = 0 := by unfold numV; rw [if_pos hw, h1]; rfl
      have e2 : numS s n = none := by unfold numS; rw [if_pos hw, h2]
      rw [e1, e2]
      have HS := Lib.hid hs'
      obtain ⟨q, hq⟩ : ∃ q, q = ptr p := ⟨_, rfl⟩
      rw [← hq] at HC ⊢
      clear h hq hs h1 h2 hs' e1 e2 hw
      go_enter Tryd.func58, Tryd.ntmps58
      go_wp2_with (first | (go_at_call 82; (with_reducible refine HW.out.mono ?_); rintro e w' ⟨rfl, rfl⟩; dsimp only) | (go_at_call 84; (with_reducible refine HC.out.mono ?_); rintro e w1 hP; obtain ⟨hG, hN, hY⟩ := hP; obtain ⟨rfl, hI⟩ := hN HS.out; clear hN hY; dsimp only))
      go_ret
      exact ⟨rfl, hI, hG⟩
  · have hw' : isW n = false := by simpa using hw
    have HT := Lib.hid (tear_any p s B w h)
    rw [hw'] at HW
    have e1 : numV s n = 0 := by unfold numV; rw [if_neg hw]
    have e2 : numS s n = none := by unfold numS; rw [if_neg hw]
    rw [e1, e2]
    obtain ⟨q, hq⟩ : ∃ q, q = ptr p := ⟨_, rfl⟩
    rw [← hq] at HT ⊢
    clear h hq e1 e2 hw hw'
    go_enter Tryd.func58, Tryd.ntmps58
    go_wp2_with (first | (go_at_call 82; (with_reducible refine HW.out.mono ?_); rintro e w' ⟨rfl, rfl⟩; dsimp only) | (go_at_call 83; (with_reducible refine HT.out.mono ?_); rintro e w1 ⟨rfl, hI, hG⟩; dsimp only))
    go_ret
    exact ⟨rfl, hI, hG⟩
end Go.Proofs.YtnkkhmgplpkjbaaDoor
