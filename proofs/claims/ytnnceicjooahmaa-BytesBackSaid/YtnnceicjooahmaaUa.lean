/- What the document's own Width, Digits and Put return. -/
import Derived.Test.YtnnceicjooahmaaPb
import Derived.Outline
namespace Go.Proofs.Ytnnceicjooahmaa
open Go.RowKit
set_option linter.unusedVariables false
set_option linter.unusedSimpArgs false
theorem width_any (n : Int) (w : World) : Calls Try.prog 26 #[.int .i64 n] w fun e w' => e = .returned (.bool (isW n)) ∧ w = w' := by
  by_cases h1 : n = 1
  · subst h1
    go_enter Try.func26, Try.ntmps26
    go_wp2
    go_ret
    exact ⟨rfl, rfl⟩
  · have e1 : (n == 1) = false := by simp [h1]
    by_cases h2 : n = 2
    · subst h2
      go_enter Try.func26, Try.ntmps26
      go_wp2
      go_ret
      exact ⟨rfl, rfl⟩
    · have e2 : (n == 2) = false := by simp [h2]
      by_cases h4 : n = 4
      · subst h4
        go_enter Try.func26, Try.ntmps26
        go_wp2
        go_ret
        exact ⟨rfl, rfl⟩
      · have e4 : (n == 4) = false := by simp [h4]
        by_cases h8 : n = 8
        · subst h8
          go_enter Try.func26, Try.ntmps26
          go_wp2
          go_ret
          exact ⟨rfl, rfl⟩
        · have e8 : (n == 8) = false := by simp [h8]
          have e : isW n = false := by unfold isW; simp [h1, h2, h4, h8]
          rw [e]
          go_enter Try.func26, Try.ntmps26
          go_wp2
          go_ret
          exact ⟨rfl, rfl⟩
theorem byte_mod (n j : Nat) : IntKind.u8.wrap (((n / 2 ^ (8 * j) : Nat) : Int) % 256) = Bt (BitVec.ofNat 8 (n / 2 ^ (8 * j))) := by
  rw [IntKind.wrap_u8']
  unfold Bt
  rw [BitVec.toNat_ofNat]
  omega
theorem div_next (n j : Nat) : ((n / 2 ^ (8 * j) : Nat) : Int) / 256 = ((n / 2 ^ (8 * (j + 1)) : Nat) : Int) := by
  rw [show 8 * (j + 1) = 8 * j + 8 by omega, Nat.pow_add, ← Nat.div_div_eq_div_mul]
  simp
def DigPost (n m : Nat) (w : World) (e : Ending) (w' : World) : Prop :=
  ∃ v, e = .returned (.tuple #[v, .int .u64 ((n / 2 ^ (8 * m) : Nat) : Int)]) ∧ OB w' w.heap.size v (les n m) ∧ Below w.heap.size w w'
theorem digits_any (m n : Nat) (w : World) (hm : m ≤ 8) (hn : n < 18446744073709551616) : Calls Try.prog 27 #[.int .i64 m, .int .u64 n] w (DigPost n m w) := by
  go_enter Try.func27, Try.ntmps27
  go_wp2
  go_loopw [1, 6, 7] (fun x v i wq => ∃ j : Nat, j ≤ m ∧ i = .int .i64 j ∧ x = .int .u64 ((n / 2 ^ (8 * j) : Nat) : Int) ∧ OB wq w.heap.size v (les n j) ∧ Below w.heap.size w wq) (fun _ _ i _ => m - (intOf i).toNat)
  case atStart => exact ⟨0, Nat.zero_le _, rfl, by simp, OB.nil _ _, Below.refl _ _⟩
  case round =>
    obtain ⟨j, hj, rfl, rfl, ho, hb⟩ := hrel
    by_cases hlt : j < m
    · have hbv := byte_mod n j
      have hdn := div_next n j
      obtain ⟨x, hx⟩ : ∃ x, x = BitVec.ofNat 8 (n / 2 ^ (8 * j)) := ⟨_, rfl⟩
      obtain ⟨q, hq⟩ : ∃ q, q = n / 2 ^ (8 * j) := ⟨_, rfl⟩
      obtain ⟨q', hq'⟩ : ∃ q', q' = n / 2 ^ (8 * (j + 1)) := ⟨_, rfl⟩
      rw [← hx, ← hq] at hbv
      rw [← hq, ← hq'] at hdn
      rw [← hq]
      have Hx := Lib.hid hx
      have Hq' := Lib.hid hq'
      have HOo := Lib.hid (ho.alloc (.cells #[.int .u8 (Bt x)] 5))
      have hs := Lib.hid (src_one wr x)
      have HBo := Lib.hid (hb.alloc hb.size (.cells #[.int .u8 (Bt x)] 5))
      have HSz : Hid (w.heap.size ≤ (wr.alloc (.cells #[.int .u8 (Bt x)] 5)).heap.size) := HBo.out.size
      have HLe : Hid ((les n j).length + [x].length ≤ 140737488355328) := show (les n j).length + [x].length ≤ 140737488355328 by rw [les_len]; simp; omega
      have h0 : (0 : Int) ≤ (q : Int) := by omega
      clear ho hb hx hq hq'
      go_wp2_with (refine wpList_push (o := ⟨some 18, _, _, _, _, _⟩) rfl (.tmp 13) (.tmp 17) rfl rfl w.heap.size _ _ [x] rfl HOo.out (some ⟨wr.heap.size, 0, none⟩) 1 1 rfl (one_len _) hs.out (fun h => by cases h) HLe.out HBo.out HSz.out (Nat.le_refl _) ?_; intro v' w' h1 h2 h3)
      go_roundw
      case rel => exact ⟨j + 1, by omega, by go_num, by rw [show IntKind.u64.wrap (q' : Int) = q' by rw [IntKind.wrap_u64]; have := Nat.div_le_self n (2 ^ (8 * (j + 1))); have := Hq'.out; omega, ← Hq'.out], by rw [les_succ, ← Hx.out]; exact h1, h2⟩
      case measure => simp [intOf]; omega
    · obtain rfl : j = m := by omega
      have HOo := Lib.hid ho
      have HBo := Lib.hid hb
      clear ho hb
      go_wp2
      go_ret2
      exact ⟨_, rfl, HOo.out, HBo.out⟩
theorem rput_any (A : Option Addr) (L : List (BitVec 8)) (cap B : Nat) (k : Int) (n : Nat) (w : World) (hR : Rd w B A L) (hB : B ≤ w.heap.size) (hc : A = none → cap = 0) (hn : n < 18446744073709551616) (hl : L.length ≤ 100000000) :
    Calls Try.prog 10 #[.slice A L.length cap, .int .i64 k, .int .u64 n] w (PutPost L k n w) := by
  have HW := Lib.hid (width_any k w)
  by_cases hw : isW k = true
  · rw [hw] at HW
    have hk := isW_pos hw
    obtain ⟨m, rfl⟩ : ∃ m : Nat, k = m := ⟨k.toNat, by omega⟩
    have HD := Lib.hid (digits_any m n w (by omega) hn)
    have HR := Lib.hid hR
    have HB := Lib.hid hB
    have Hc := Lib.hid hc
    have HWm := Lib.hid hw
    have Hm8 : Hid (m ≤ 8) := show m ≤ 8 by omega
    obtain ⟨q, hq⟩ : ∃ q, q = n / 2 ^ (8 * m) := ⟨_, rfl⟩
    have Hq := Lib.hid hq
    unfold DigPost at HD
    rw [← hq] at HD
    obtain ⟨l, hll⟩ : ∃ l, l = L.length := ⟨_, rfl⟩
    have Hl := Lib.hid hll
    rw [← hll]
    have Hlb := Lib.hid hl
    clear hR hB hc hw hk hn hq hll hl
    by_cases h0 : q = 0
    · have hqz : ((q : Int) != 0) = false := by subst h0; rfl
      have Hlt : Hid (n < 2 ^ (8 * m)) := by
        have h1 := Hq.out
        rw [h0] at h1
        have := Nat.div_eq_zero_iff.1 h1.symm
        rcases this with h | h
        · have := Nat.two_pow_pos (8 * m); omega
        · exact h
      clear h0
      go_enter Try.func10, Try.ntmps10
      go_upto_region 7 with (first | (go_at_call 26; (with_reducible refine HW.out.mono ?_); rintro e w' ⟨rfl, rfl⟩; dsimp only) | (go_at_call 27; (with_reducible refine HD.out.mono ?_); rintro e w1 ⟨v, rfl, hv, hb⟩; dsimp only))
      have HS := Lib.hid (src_of_rd (HR.out.keep (hb.mono HB.out)))
      obtain ⟨A', cap', rfl, hrd, _, _, hz⟩ := hv.rd
      have Hrd := Lib.hid hrd
      have Hz := Lib.hid hz
      have Hb := Lib.hid hb
      clear hv hb hrd hz
      go_upto_region 8 with (refine wpList_push (o := ⟨some 24, _, _, _, _, _⟩) rfl (.tmp 22) (.tmp 23) rfl rfl w1.heap.size _ [] L rfl (OB.nil _ _) A l cap rfl Hl.out HS.out Hc.out (by have := Hlb.out; simp; omega) Hb.out (Nat.le_refl _) Hb.out.size ?_; intro v2 w2 h1 h2 h3)
      rw [List.nil_append] at h1
      have H1 := Lib.hid h1
      have H2 := Lib.hid h2
      have HS2 := Lib.hid (src_of_rd (Hrd.out.keep h3))
      have HsB : Hid (w1.heap.size ≤ w2.heap.size) := h3.size
      clear h1 h2 h3
      go_wp2_with (refine wpList_push (o := ⟨some 27, _, _, _, _, _⟩) rfl (.tmp 25) (.tmp 26) rfl rfl w1.heap.size v2 L (les n m) rfl H1.out A' (les n m).length cap' rfl rfl HS2.out Hz.out (by have := Hlb.out; have := Hm8.out; rw [les_len]; omega) H2.out HsB.out Hb.out.size ?_; intro v3 w3 h1 h2 h3)
      go_ret2
      exact ⟨h2, fun _ => ⟨v3, rfl, h1.base Hb.out.size⟩, fun h => absurd ⟨HWm.out, Hlt.out⟩ h⟩
    · have hqz : ((q : Int) != 0) = true := by simp; omega
      have HN : Hid (¬ n < 2 ^ (8 * m)) := fun h => h0 (by rw [Hq.out]; exact Nat.div_eq_of_lt h)
      clear h0
      go_enter Try.func10, Try.ntmps10
      go_wp2_with (first | (go_at_call 26; (with_reducible refine HW.out.mono ?_); rintro e w' ⟨rfl, rfl⟩; dsimp only) | (go_at_call 27; (with_reducible refine HD.out.mono ?_); rintro e w1 ⟨v, rfl, hv, hb⟩; dsimp only))
      go_ret2
      exact ⟨hb, fun h => absurd h.2 HN.out, fun _ => rfl⟩
  · rw [show isW k = false by simpa using hw] at HW
    have HN := Lib.hid hw
    clear hR hl hn hB hw hc
    go_enter Try.func10, Try.ntmps10
    go_wp2_with (go_at_call 26; (with_reducible refine HW.out.mono ?_); rintro e w' ⟨rfl, rfl⟩; dsimp only)
    go_ret2
    exact ⟨Below.refl _ _, fun h => absurd h.1 HN.out, fun _ => rfl⟩
end Go.Proofs.Ytnnceicjooahmaa
