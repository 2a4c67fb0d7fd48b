/- What the document's own primes returns: a new row of the first primes. -/
import Derived.Test.YtffngfjbaimbhaaDoorUd
import Derived.Outline
namespace Go.Proofs.YtffngfjbaimbhaaDoor
open Go.RowKit
set_option linter.unusedVariables false
set_option linter.unusedSimpArgs false
set_option maxRecDepth 100000
def PrsPost (L : List Nat) (w : World) (e : Ending) (w' : World) : Prop :=
  ∃ v, e = .returned v ∧ ON w' w.heap.size v L ∧ Below w.heap.size w w'
set_option maxHeartbeats 4000000 in
theorem primes_any (many N : Nat) (hN : N ≤ 900) (hlen : (prl N).length = many) (hless : ∀ n, n < N → (prl n).length < many) (hm : many ≤ 1000) (w : World) :
    Calls Tryd.prog 20 #[.int .i64 (many : Int)] w (PrsPost (prl N) w) := by
  have HLn := Lib.hid hlen
  have HLs := Lib.hid hless
  clear hlen hless
  go_enter Tryd.func20, Tryd.ntmps20
  go_wp2_with fail
  go_loopw [3, 4] (fun v vp wq => ∃ n : Nat, n ≤ N ∧ vp = .int .i64 ((n + 2 : Nat) : Int) ∧ ON wq w.heap.size v (prl n) ∧ Below w.heap.size w wq) (fun _ vp _ => N + 2 - (intOf vp).toNat)
  case atStart => exact ⟨0, Nat.zero_le _, rfl, ON.nil _ _, Below.refl _ _⟩
  case round =>
    obtain ⟨n, hn, rfl, ho, hb⟩ := hrel
    obtain ⟨A, cap, rfl, hrd, _, _, _⟩ := ho.rd
    obtain ⟨L, hL⟩ : ∃ L, L = prl n := ⟨_, rfl⟩
    have HL := Lib.hid hL
    have hat := prl_at n
    have hll : L.length = (prl n).length := by rw [hL]
    rw [← hL] at ho hrd hat ⊢
    have hlle : L.length ≤ many := by rw [hll, ← HLn.out]; exact prl_mono n N hn
    have Hat := Lib.hid hat
    have Hrd := Lib.hid hrd
    clear hat hrd
    by_cases hlt : n < N
    · have h1 : (L.length : Int) < (many : Int) := by have := HLs.out n hlt; omega
      have HO := Lib.hid ho
      obtain ⟨len, hlen⟩ : ∃ l, l = L.length := ⟨_, rfl⟩
      have Hlen := Lib.hid hlen
      rw [← hlen] at h1 hlle ⊢
      obtain ⟨p, hp⟩ : ∃ p, p = n + 2 := ⟨_, rfl⟩
      rw [← hp]
      have hp9 : p < 1000 := by omega
      have Hp := Lib.hid hp
      have Hn := Lib.hid hlt
      clear hL hll hlen hp ho hlt hn
      go_wp2_with fail
      obtain ⟨wo, hwo⟩ : ∃ wo : World, wo = wr := ⟨_, rfl⟩
      rw [← hwo] at HO hb Hrd ⊢
      clear hwo
      go_loopw [5, 6] (fun vq vi wq => ∃ i : Nat, i ≤ len ∧ vi = .int .i64 (i : Int) ∧ vq = .bool ((L.take i).all fun q => decide (p % q ≠ 0)) ∧ wq = wo) (fun _ vi _ => len - (intOf vi).toNat)
      case atStart => exact ⟨0, Nat.zero_le _, rfl, rfl, rfl⟩
      case round =>
        obtain ⟨i, hi, rfl, rfl, rfl⟩ := hrel
        by_cases hlt : i < len
        · have hlt' : (i : Int) < (len : Int) := by omega
          obtain ⟨b, o, rfl, _, hc⟩ := Hrd.out (by rw [← Hlen.out]; omega)
          obtain ⟨q, hq⟩ : ∃ q, q = L.getD i 0 := ⟨_, rfl⟩
          have c0 := hc i (by rw [← Hlen.out]; exact hlt)
          have hq2 := (Hat.out i (by rw [← Hlen.out]; exact hlt)).1
          rw [← hq] at c0 hq2
          have hq0 : ((q : Int) == 0) = false := by simp; omega
          have hqp : (0 : Int) < (q : Int) := by omega
          obtain ⟨r, hrr⟩ : ∃ r, r = p % q := ⟨_, rfl⟩
          have r1 : (p : Int).tmod (q : Int) = (r : Int) := by rw [Int.tmod_eq_emod_of_nonneg (Int.natCast_nonneg _), hrr]; simp
          have r2 : (p : Int) % (q : Int) = (r : Int) := by rw [hrr]; simp
          have hrl : r < p + 1 := by rw [hrr]; exact Nat.lt_succ_of_le (Nat.mod_le _ _)
          have Hs : Hid ((L.take (i + 1)).all (fun q => decide (p % q ≠ 0)) = ((L.take i).all (fun q => decide (p % q ≠ 0)) && decide (r ≠ 0))) := show _ = _ by
            rw [all_take_succ L _ i (by rw [← Hlen.out]; exact hlt), ← hq, hrr]
          obtain ⟨b0, hbb⟩ : ∃ b, b = (L.take i).all fun q => decide (p % q ≠ 0) := ⟨_, rfl⟩
          rw [← hbb] at Hs ⊢
          by_cases hr0 : r = 0
          · have r3 : ((r : Int) == 0) = true := by simp [hr0]
            have Hr0 := Lib.hid hr0
            clear hbb hrr hc hq hr0
            go_wp2_with fail
            go_roundw
            case rel => exact ⟨i + 1, by omega, by go_num, by rw [Hs.out, Hr0.out]; simp, by first | trivial | rfl⟩
            case measure => simp [intOf]; omega
          · have r3 : ((r : Int) == 0) = false := by simp; omega
            have Hr0 := Lib.hid hr0
            clear hbb hrr hc hq hr0
            go_wp2_with fail
            go_roundw
            case rel => exact ⟨i + 1, by omega, by go_num, by rw [Hs.out]; simp [Hr0.out], by first | trivial | rfl⟩
            case measure => simp [intOf]; omega
        · obtain rfl : i = len := by omega
          have hlt' : ¬ (i : Int) < (i : Int) := by omega
          have ht : L.take i = L := List.take_of_length_le (by rw [Hlen.out]; exact Nat.le_refl _)
          rw [ht]
          clear ht
          cases hq : (L.all fun q => decide (p % q ≠ 0)) with
          | true =>
            have Hq := Lib.hid hq
            clear hq
            have HB := Lib.hid hb
            have hO2 : ON wr w.heap.size (.slice A i cap) L := by rw [Hlen.out]; exact HO.out
            have HO2 := Lib.hid (hO2.alloc (.cells #[.int .i64 (p : Int)] 3))
            have HB3 := Lib.hid (hb.alloc hb.size (.cells #[.int .i64 (p : Int)] 3))
            have HS := Lib.hid (src42_one wr p)
            have HLe : Hid (L.length + [p].length ≤ 17592186044416) := show L.length + [p].length ≤ 17592186044416 by rw [← Hlen.out]; simp; omega
            clear hO2 hb
            go_wp2_with (refine wpList_push42 (o := ⟨some 30, _, _, _, _, _⟩) rfl (.tmp 27) (.tmp 29) rfl rfl w.heap.size _ L [p] rfl HO2.out (some ⟨wr.heap.size, 0, none⟩) 1 1 rfl (one_len42 _) HS.out (fun h => by cases h) HLe.out HB3.out HB3.out.size (Nat.le_refl _) ?_; intro v3 w3 ho3 hb4 hb4')
            go_roundw
            case rel => exact ⟨n + 1, Hn.out, by rw [Hp.out]; go_num, by rw [prl_yes n (by rw [← Hp.out, ← HL.out]; exact Hq.out), ← HL.out, ← Hp.out]; exact ho3, hb4⟩
            case measure => simp [intOf]; have := Hp.out; have := Hn.out; omega
          | false =>
            have Hq := Lib.hid hq
            clear hq
            go_wp2_with fail
            go_roundw
            case rel => exact ⟨n + 1, Hn.out, by rw [Hp.out]; go_num, by rw [prl_no n (by rw [← Hp.out, ← HL.out]; exact Hq.out), ← HL.out, Hlen.out]; exact HO.out, hb⟩
            case measure => simp [intOf]; have := Hp.out; have := Hn.out; omega
    · obtain rfl : n = N := by omega
      have h1 : ¬ (L.length : Int) < (many : Int) := by rw [hll, HLn.out]; omega
      have HO := Lib.hid ho
      obtain ⟨len, hlen⟩ : ∃ l, l = L.length := ⟨_, rfl⟩
      have Hlen := Lib.hid hlen
      rw [← hlen] at h1 ⊢
      clear hL hll hlen ho hlle
      go_wp2_with fail
      go_ret
      exact ⟨_, rfl, by rw [← HL.out, Hlen.out]; exact HO.out, hb⟩
end Go.Proofs.YtffngfjbaimbhaaDoor
