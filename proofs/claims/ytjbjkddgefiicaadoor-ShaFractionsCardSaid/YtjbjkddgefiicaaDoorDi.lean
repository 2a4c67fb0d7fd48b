/- What the document's own Fractions returns: a new row with the fractions of the first primes. -/
import Derived.Test.YtjbjkddgefiicaaDoorDh
import Derived.Outline
namespace Go.Proofs.YtjbjkddgefiicaaDoor
open Go.RowKit
set_option linter.unusedVariables false
set_option linter.unusedSimpArgs false
set_option maxRecDepth 100000
theorem frac_lt (p many : Nat) : frac p many < 4294967296 := Nat.mod_lt _ (by decide)
theorem fracs_step (many n : Nat) : (fracs many n).length ≤ (fracs many (n + 1)).length := by
  simp only [fracs]
  split
  · simp
  · exact Nat.le_refl _
theorem fracs_mono (many n m : Nat) (h : n ≤ m) : (fracs many n).length ≤ (fracs many m).length := by
  induction m with
  | zero => rw [Nat.le_zero.1 h]; exact Nat.le_refl _
  | succ m ih =>
    rcases Nat.lt_or_ge m n with h' | h'
    · rw [show n = m + 1 by omega]; exact Nat.le_refl _
    · exact Nat.le_trans (ih h') (fracs_step many m)
/-- The row of the fractions, as the program holds them. -/
def fru (many n : Nat) : List (BitVec 32) := (fracs many n).map (BitVec.ofNat 32)
theorem fru_len (many n : Nat) : (fru many n).length = (fracs many n).length := by simp [fru]
theorem fru_yes (many n : Nat) (h : isP (n + 2) = true) : fru many (n + 1) = fru many n ++ [BitVec.ofNat 32 (frac (n + 2) many)] := by
  unfold fru; rw [fracs_yes many n h]; simp
theorem fru_no (many n : Nat) (h : isP (n + 2) = false) : fru many (n + 1) = fru many n := by
  unfold fru; rw [fracs_no many n h]
theorem U_frac (p many : Nat) : ((frac p many : Nat) : Int) = U (BitVec.ofNat 32 (frac p many)) := by
  have := frac_lt p many
  rw [U_def, BitVec.toNat_ofNat]
  omega
theorem fraction_u (p many : Nat) (x : BitVec 32) (hx : x = BitVec.ofNat 32 (frac p many)) (hp : p < 1000) (hm : many ≤ 3) (w : World) :
    Calls Tryd.prog 42 #[.int .u64 (p : Int), .int .i64 (many : Int)] w fun e w' => e = .returned (.int .u32 (U x)) ∧ Below w.heap.size w w' := by
  rw [hx, ← U_frac]; exact fraction_any p many hp hm w
/-- What Fractions tells. -/
def FrsPost (L : List (BitVec 32)) (w : World) (e : Ending) (w' : World) : Prop :=
  ∃ v, e = .returned v ∧ OU w' w.heap.size v L ∧ Below w.heap.size w w'
set_option maxHeartbeats 4000000 in
theorem fractions_any (many roots N : Nat) (hr : roots ≤ 3) (hN : N ≤ 900) (hlen : (fracs roots N).length = many) (hless : ∀ n, n < N → (fracs roots n).length < many) (hm : many ≤ 1000) (w : World) :
    Calls Tryd.prog 32 #[.int .i64 (many : Int), .int .i64 (roots : Int)] w (FrsPost (fru roots N) w) := by
  have HLn := Lib.hid hlen
  have HLs := Lib.hid hless
  clear hlen hless
  go_enter Tryd.func32, Tryd.ntmps32
  go_wp2_with fail
  go_loopw [5, 6] (fun v vp wq => ∃ n : Nat, n ≤ N ∧ vp = .int .u64 ((n + 2 : Nat) : Int) ∧ OU wq w.heap.size v (fru roots n) ∧ Below w.heap.size w wq) (fun _ vp _ => N + 2 - (intOf vp).toNat)
  case atStart => exact ⟨0, Nat.zero_le _, rfl, OU.nil _ _, Below.refl _ _⟩
  case round =>
    obtain ⟨n, hn, rfl, ho, hb⟩ := hrel
    obtain ⟨A, cap, rfl, _, _, _, _⟩ := ho.rd
    obtain ⟨L, hL⟩ : ∃ L, L = fru roots n := ⟨_, rfl⟩
    have HL := Lib.hid hL
    have hll : L.length = (fracs roots n).length := by rw [hL, fru_len]
    rw [← hL] at ho ⊢
    have hlle : L.length ≤ many := by
      rw [hll, ← HLn.out]; exact fracs_mono roots n N hn
    by_cases hlt : n < N
    · have h1 : (L.length : Int) < (many : Int) := by have := HLs.out n hlt; omega
      have HO := Lib.hid ho
      obtain ⟨len, hlen⟩ : ∃ l, l = L.length := ⟨_, rfl⟩
      have Hlen := Lib.hid hlen
      rw [← hlen] at h1 ⊢
      obtain ⟨p, hp⟩ : ∃ p, p = n + 2 := ⟨_, rfl⟩
      rw [← hp]
      have hp2 : 2 ≤ p := by omega
      have hp9 : p < 1000 := by omega
      have Hp := Lib.hid hp
      have Hn := Lib.hid hlt
      obtain ⟨x, hx⟩ : ∃ x, x = BitVec.ofNat 32 (frac p roots) := ⟨_, rfl⟩
      have K42 := Lib.hid (fraction_u p roots x hx hp9 hr)
      have Hx := Lib.hid hx
      clear hL hll hlen hp ho hlt hn hlle hx
      go_wp2_with fail
      obtain ⟨wo, hwo⟩ : ∃ wo : World, wo = wr := ⟨_, rfl⟩
      rw [← hwo] at HO hb ⊢
      clear hwo
      go_loopw [7, 8] (fun vq vd wq => ∃ k : Nat, k + 2 ≤ p ∧ vd = .int .u64 ((k + 2 : Nat) : Int) ∧ vq = .bool (npr p k) ∧ wq = wo) (fun _ vd _ => p - (intOf vd).toNat)
      case atStart => exact ⟨0, hp2, rfl, rfl, rfl⟩
      case round =>
        obtain ⟨k, hk, rfl, rfl, rfl⟩ := hrel
        obtain ⟨d, hd⟩ : ∃ d, d = k + 2 := ⟨_, rfl⟩
        rw [← hd]
        have hd0 : (0 : Int) < (d : Int) := by omega
        have hd1 : ((d : Int) == 0) = false := by simp; omega
        by_cases hlt : d < p
        · have hlt' : (d : Int) < (p : Int) := by omega
          obtain ⟨r, hrr⟩ : ∃ r, r = p % d := ⟨_, rfl⟩
          have r1 : (p : Int).tmod (d : Int) = (r : Int) := by rw [Int.tmod_eq_emod_of_nonneg (Int.natCast_nonneg _), hrr]; simp
          have r2 : (p : Int) % (d : Int) = (r : Int) := by rw [hrr]; simp
          have hrl : r < p := by rw [hrr]; exact Nat.lt_of_lt_of_le (Nat.mod_lt _ (by omega)) (by omega)
          obtain ⟨c, hc⟩ : ∃ c, c = decide (r ≠ 0) := ⟨_, rfl⟩
          have r3 : ((r : Int) != 0) = c := by rw [hc, Bool.eq_iff_iff]; simp
          have Hs : Hid (npr p (k + 1) = (npr p k && c)) := show npr p (k + 1) = (npr p k && c) by rw [hc, hrr, hd]; rfl
          obtain ⟨b, hbb⟩ : ∃ b, b = npr p k := ⟨_, rfl⟩
          rw [← hbb] at Hs ⊢
          have Hd := Lib.hid hd
          clear hbb hrr hc hd
          cases b with
          | true =>
            go_wp2_with fail
            go_roundw
            case rel => exact ⟨k + 1, by have := Hd.out; omega, by rw [Hd.out]; go_num, by rw [Hs.out]; rfl, by first | trivial | rfl⟩
            case measure => simp [intOf]; omega
          | false =>
            go_wp2_with fail
            go_roundw
            case rel => exact ⟨k + 1, by have := Hd.out; omega, by rw [Hd.out]; go_num, by rw [Hs.out]; rfl, by first | trivial | rfl⟩
            case measure => simp [intOf]; omega
        · have hlt' : ¬ (d : Int) < (p : Int) := by omega
          have hkn : k = n := by have := Hp.out; omega
          have hdp : d = p := by omega
          subst hdp
          have hip : npr d k = isP d := by unfold isP; rw [show d - 2 = k by omega]
          rw [hip]
          clear hip hd
          cases hq : isP d with
          | true =>
            have Hq := Lib.hid hq
            clear hq
            have HB := Lib.hid hb
            clear hb
            go_upto_region 12 with (go_at_call 42; (with_reducible refine (K42.out _).mono ?_); rintro e w2 ⟨rfl, hb2⟩; dsimp only)
            have hO2 : OU w2 w.heap.size (.slice A len cap) L := by rw [Hlen.out]; exact OU.below (B' := 0) HO.out hb2
            have hb3 := HB.out.trans (hb2.mono HB.out.size)
            have HO2 := Lib.hid (hO2.alloc (.cells #[.int .u32 (U x)] 29))
            have HB3 := Lib.hid (hb3.alloc hb3.size (.cells #[.int .u32 (U x)] 29))
            have HS := Lib.hid (src47_one w2 x)
            have HLe : Hid (L.length + [x].length ≤ 35184372088832) := show L.length + [x].length ≤ 35184372088832 by rw [← Hlen.out]; simp; omega
            clear hO2 hb3
            go_wp2_with (refine wpList_push47 (o := ⟨some 35, _, _, _, _, _⟩) rfl (.tmp 32) (.tmp 34) rfl rfl w.heap.size _ L [x] rfl HO2.out (some ⟨w2.heap.size, 0, none⟩) 1 1 rfl (one_len47 _) HS.out (fun h => by cases h) HLe.out HB3.out HB3.out.size (Nat.le_refl _) ?_; intro v3 w3 ho3 hb4 hb4')
            go_roundw
            case rel => exact ⟨n + 1, Hn.out, by rw [Hp.out]; go_num, by rw [fru_yes roots n (by rw [← Hp.out]; exact Hq.out), ← HL.out, ← Hp.out, ← Hx.out]; exact ho3, hb4⟩
            case measure => simp [intOf]; have := Hp.out; have := Hn.out; omega
          | false =>
            have Hq := Lib.hid hq
            clear hq
            go_wp2_with fail
            go_roundw
            case rel => exact ⟨n + 1, Hn.out, by rw [Hp.out]; go_num, by rw [fru_no roots n (by rw [← Hp.out]; exact Hq.out), ← HL.out, Hlen.out]; exact HO.out, hb⟩
            case measure => simp [intOf]; have := Hp.out; have := Hn.out; omega
    · obtain rfl : n = N := by omega
      have h1 : ¬ (L.length : Int) < (many : Int) := by rw [hll, HLn.out]; omega
      have HO := Lib.hid ho
      obtain ⟨len, hlen⟩ : ∃ l, l = L.length := ⟨_, rfl⟩
      have Hlen := Lib.hid hlen
      rw [← hlen] at h1 ⊢
      clear hL hll hlen ho hlle
      go_wp2_with fail
      go_ret
      exact ⟨_, rfl, by rw [← HL.out, Hlen.out]; exact HO.out, hb⟩
end Go.Proofs.YtjbjkddgefiicaaDoor
