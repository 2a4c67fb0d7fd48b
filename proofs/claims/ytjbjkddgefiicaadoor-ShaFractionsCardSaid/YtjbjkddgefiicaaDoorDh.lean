/- What the document's own Fraction returns: the fraction that the search tells. -/
import Derived.Test.YtjbjkddgefiicaaDoorDg
import Derived.Outline
namespace Go.Proofs.YtjbjkddgefiicaaDoor
open Go.RowKit
set_option linter.unusedVariables false
set_option linter.unusedSimpArgs false
set_option maxRecDepth 100000
/-- What told and times tell. -/
def NumPost (n m : Nat) (w : World) (e : Ending) (w' : World) : Prop :=
  ∃ v L, e = .returned v ∧ Num w' v L ∧ val L = n ∧ L.length ≤ m ∧ Below w.heap.size w w'
theorem told_p (n : Nat) (hn : n < 18446744073709551616) (w : World) : Calls Tryd.prog 46 #[.int .u64 (n : Int)] w (NumPost n 20 w) := told_num n hn w
theorem told_big (w : World) : Calls Tryd.prog 46 #[.int .u64 4294967296] w (NumPost 4294967296 20 w) := told_num 4294967296 (by decide) w
theorem told_one (w : World) : Calls Tryd.prog 46 #[.int .u64 1] w (NumPost 1 20 w) := told_num 1 (by decide) w
theorem times_p (X Y : List Nat) (v u : Value) (w : World) (hv : Num w v X) (hu : Num w u Y) (a b la lb : Nat) (ha : val X = a) (hb : val Y = b) (hl : X.length ≤ la) (hl2 : Y.length ≤ lb) (h1 : la < 500) (h2 : lb < 500) :
    Calls Tryd.prog 47 #[v, u] w (NumPost (a * b) (la + lb + 1) w) :=
  (times_num X Y v u w hv hu (by omega) (by omega)).mono fun e w' ⟨r, O, he, hn, hlen, hval, hbl⟩ => ⟨r, O, he, hn, by rw [hval, ha, hb], by omega, hbl⟩
theorem greater_p (X Y : List Nat) (v u : Value) (w : World) (hv : Num w v X) (hu : Num w u Y) (a b la lb : Nat) (c : Bool) (ha : val X = a) (hb : val Y = b) (hl : X.length ≤ la) (hl2 : Y.length ≤ lb) (h1 : la < 500) (h2 : lb < 500) (hc : decide (b < a) = c) :
    Calls Tryd.prog 48 #[v, u] w fun e w' => e = .returned (.bool c) ∧ w = w' :=
  (greater_num X Y v u w hv hu (by omega) (by omega)).mono fun e w' ⟨he, hw⟩ => ⟨by rw [he, ha, hb, hc], hw⟩
set_option maxHeartbeats 4000000 in
theorem fraction_any (p many : Nat) (hp : p < 1000) (hm : many ≤ 3) (w : World) :
    Calls Tryd.prog 42 #[.int .u64 (p : Int), .int .i64 (many : Int)] w fun e w' => e = .returned (.int .u32 ((frac p many : Nat) : Int)) ∧ Below w.heap.size w w' := by
  have KP := Lib.hid (told_p p (by omega) w)
  have KB := Lib.hid told_big
  have KO := Lib.hid told_one
  obtain ⟨R, hR⟩ : ∃ R, R = frac p many := ⟨_, rfl⟩
  have HR := Lib.hid hR
  rw [← hR]
  clear hR
  go_enter Tryd.func42, Tryd.ntmps42
  go_wp2_with (go_at_call 46; (with_reducible refine KP.out.mono ?_); rintro e w1 ⟨v, L, rfl, hn, hv, hl, hb⟩; have Hv := Lib.hid hv; clear hv; dsimp only)
  clear KP
  go_loopw [5, 6] (fun v i wq => ∃ (k : Nat) (X : List Nat), k ≤ many ∧ i = .int .i64 (k : Int) ∧ Num wq v X ∧ val X = p * 4294967296 ^ k ∧ X.length ≤ 20 + 21 * k ∧ Below w.heap.size w wq) (fun _ i _ => many - (intOf i).toNat)
  case atStart => exact ⟨0, L, Nat.zero_le _, rfl, hn, by rw [Hv.out]; simp, by omega, hb⟩
  case round =>
    clear hn hl hb Hv
    obtain ⟨k, X, hk, rfl, hn, hv, hl, hb⟩ := hrel
    have Hv := Lib.hid hv
    clear hv
    by_cases hlt : k < many
    · have hlt' : (k : Int) < (many : Int) := by omega
      go_wp2_with (first
        | (go_at_call 46; (with_reducible refine (KB.out _).mono ?_); rintro e w2 ⟨v2, L2, rfl, hn2, hv2, hl2, hb2⟩; have Hv2 := Lib.hid hv2; clear hv2; dsimp only)
        | (go_at_call 47; (with_reducible refine (times_p X L2 _ _ _ (hn.below hb2) hn2 _ _ _ _ Hv.out Hv2.out hl hl2 (by omega) (by omega)).mono ?_); rintro e w3 ⟨v3, L3, rfl, hn3, hv3, hl3, hb3⟩; have Hv3 := Lib.hid hv3; clear hv3; dsimp only))
      go_roundw
      case rel => exact ⟨k + 1, L3, by omega, by go_num, hn3, by rw [Hv3.out, Nat.pow_succ, Nat.mul_assoc], by omega, hb.trans ((hb2.trans (hb3.mono hb2.size)).mono hb.size)⟩
      case measure => simp [intOf]; omega
    · obtain rfl : k = many := by omega
      have hge : ¬ (k : Int) < (k : Int) := by omega
      go_wp2_with fail
      obtain ⟨lim, hlim⟩ : ∃ l, l = p * 4294967296 ^ k := ⟨_, rfl⟩
      have HR2 : Hid (srch lim k 40 0 137438953472 % 4294967296 = R) := show srch lim k 40 0 137438953472 % 4294967296 = R by rw [HR.out, hlim]; rfl
      have Hv2 : Hid (val X = lim) := show val X = lim by rw [hlim]; exact Hv.out
      clear hlim HR Hv
      go_loopw [7, 8] (fun vlo vhi wq => ∃ (lo hi f : Nat), lo < hi ∧ hi ≤ 137438953472 ∧ hi - lo ≤ 2 ^ f ∧ srch lim k f lo hi % 4294967296 = R ∧ vlo = .int .u64 (lo : Int) ∧ vhi = .int .u64 (hi : Int) ∧ Num wq u5 X ∧ Below w.heap.size w wq) (fun vlo vhi _ => (intOf vhi - intOf vlo).toNat)
      case atStart => exact ⟨0, 137438953472, 40, by omega, by omega, by decide, HR2.out, rfl, rfl, hn, hb⟩
      case round =>
        clear hn hb HR2 hge hlt
        obtain ⟨lo, hi, f, h0, h1, h2, hs, rfl, rfl, hn, hb⟩ := hrel
        have Hs := Lib.hid hs
        clear hs
        by_cases hg : 1 < hi - lo
        · have hg' : (1 : Int) < (hi : Int) - (lo : Int) := by omega
          obtain ⟨f', rfl⟩ : ∃ f', f = f' + 1 := by
            cases f with
            | zero => simp at h2; omega
            | succ f' => exact ⟨f', rfl⟩
          obtain ⟨mid, hmid⟩ : ∃ m, m = (lo + hi) / 2 := ⟨_, rfl⟩
          have q1 : ((lo : Int) + (hi : Int)).tdiv 2 = (mid : Int) := by rw [Int.tdiv_eq_ediv_of_nonneg (by omega)]; omega
          have q2 : ((lo : Int) + (hi : Int)) / 2 = (mid : Int) := by omega
          have hm1 : lo < mid := by omega
          have hm2 : mid < hi := by omega
          have h2' : hi - lo ≤ 2 * 2 ^ f' := by rw [Nat.pow_succ] at h2; omega
          have hlo2 : mid - lo ≤ 2 ^ f' := by omega
          have hhi2 : hi - mid ≤ 2 ^ f' := by omega
          have HF := Lib.hid (⟨hg, hmid, h2', hlo2, hhi2⟩ : 1 < hi - lo ∧ mid = (lo + hi) / 2 ∧ hi - lo ≤ 2 * 2 ^ f' ∧ mid - lo ≤ 2 ^ f' ∧ hi - mid ≤ 2 ^ f')
          clear hmid h2 h2' hlo2 hhi2 hg
          have KM := Lib.hid (told_p mid (by omega))
          go_wp2_with (go_at_call 46; (with_reducible refine (KO.out _).mono ?_); rintro e w4 ⟨v4, L4, rfl, hn4, hv4, hl4, hb4⟩; have Hv4 := Lib.hid hv4; clear hv4; dsimp only)
          clear q1 q2
          obtain ⟨wo, hwo⟩ : ∃ wo : World, wo = wr := ⟨_, rfl⟩
          go_loopw [10, 11] (fun vp i wq => ∃ (j : Nat) (Y : List Nat), j ≤ k ∧ i = .int .i64 (j : Int) ∧ Num wq vp Y ∧ val Y = mid ^ j ∧ Y.length ≤ 20 + 21 * j ∧ Num wq u5 X ∧ Below w.heap.size w wq) (fun _ i _ => k - (intOf i).toNat)
          case atStart => exact ⟨0, L4, Nat.zero_le _, rfl, hn4, by rw [Hv4.out]; simp, by omega, hn.below hb4, hb.trans (hb4.mono hb.size)⟩
          case round =>
            clear hn4 hl4 hb4 Hv4 hn hb hwo
            obtain ⟨j, Y, hj, rfl, hy, hvy, hly, hn, hb⟩ := hrel
            have Hvy := Lib.hid hvy
            clear hvy
            by_cases hlt : j < k
            · have hlt' : (j : Int) < (k : Int) := by omega
              go_wp2_with (first
                | (go_at_call 46; (with_reducible refine (KM.out _).mono ?_); rintro e w5 ⟨v5, L5, rfl, hn5, hv5, hl5, hb5⟩; have Hv5 := Lib.hid hv5; clear hv5; dsimp only)
                | (go_at_call 47; (with_reducible refine (times_p Y L5 _ _ _ (hy.below hb5) hn5 _ _ _ _ Hvy.out Hv5.out hly hl5 (by omega) (by omega)).mono ?_); rintro e w6 ⟨v6, L6, rfl, hn6, hv6, hl6, hb6⟩; have Hv6 := Lib.hid hv6; clear hv6; dsimp only))
              have hbb := hb5.trans (hb6.mono hb5.size)
              go_roundw
              case rel => exact ⟨j + 1, L6, by omega, by go_num, hn6, by rw [Hv6.out, Nat.pow_succ], by omega, hn.below hbb, hb.trans (hbb.mono hb.size)⟩
              case measure => simp [intOf]; omega
            · obtain rfl : j = k := by omega
              have hge : ¬ (j : Int) < (j : Int) := by omega
              by_cases hc : lim < mid ^ j
              · have K48 := Lib.hid (greater_p Y X _ u5 _ hy hn _ _ _ _ true Hvy.out Hv2.out hly hl (by omega) (by omega) (by simpa using hc))
                have HC := Lib.hid hc
                clear hc hy
                go_wp2_with (go_at_call 48; (with_reducible refine K48.out.mono ?_); rintro e wz ⟨rfl, rfl⟩; dsimp only)
                go_roundw
                case rel =>
                  obtain ⟨a1, a2, a3, a4, a5⟩ := HF.out
                  exact ⟨lo, mid, f', hm1, by omega, a4, by rw [← srch_high lim j f' lo hi mid a1 a2 HC.out]; exact Hs.out, rfl, rfl, hn, hb⟩
                case measure => simp [intOf]; omega
              · have K48 := Lib.hid (greater_p Y X _ u5 _ hy hn _ _ _ _ false Hvy.out Hv2.out hly hl (by omega) (by omega) (by simpa using hc))
                have HC := Lib.hid hc
                clear hc hy
                go_wp2_with (go_at_call 48; (with_reducible refine K48.out.mono ?_); rintro e wz ⟨rfl, rfl⟩; dsimp only)
                go_roundw
                case rel =>
                  obtain ⟨a1, a2, a3, a4, a5⟩ := HF.out
                  exact ⟨mid, hi, f', hm2, h1, a5, by rw [← srch_low lim j f' lo hi mid a1 a2 HC.out]; exact Hs.out, rfl, rfl, hn, hb⟩
                case measure => simp [intOf]; omega
        · have hg' : ¬ (1 : Int) < (hi : Int) - (lo : Int) := by omega
          have e : lo % 4294967296 = R := by rw [← srch_done lim k f lo hi hg]; exact Hs.out
          have r1 : (lo : Int).tmod 4294967296 = (R : Int) := by rw [Int.tmod_eq_emod_of_nonneg (Int.natCast_nonneg _)]; omega
          have r2 : (lo : Int) % 4294967296 = (R : Int) := by omega
          have hR : R < 4294967296 := by omega
          clear e
          go_wp2_with fail
          go_ret
          exact ⟨rfl, hb⟩
end Go.Proofs.YtjbjkddgefiicaaDoor
