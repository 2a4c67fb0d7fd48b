/- What the document's own bytes returns: the bytes of words. -/
import Derived.Test.YtffngfjbaimbhaaDoorTb
import Derived.Test.YtffngfjbaimbhaaDoorSg
import Derived.Outline
namespace Go.Proofs.YtffngfjbaimbhaaDoor
open Go.RowKit
set_option linter.unusedVariables false
set_option linter.unusedSimpArgs false
def bw (x : BitVec 64) (k : Nat) : List (BitVec 8) := (List.range k).map (byteW x)
theorem bw_len (x : BitVec 64) (k : Nat) : (bw x k).length = k := by simp [bw]
theorem bw_succ (x : BitVec 64) (k : Nat) : bw x (k + 1) = bw x k ++ [byteW x k] := by simp [bw, List.range_succ]
/-- The bytes of words. -/
def bws (M : List (BitVec 64)) : List (BitVec 8) := M.flatMap fun x => bw x 8
theorem bws_len (M : List (BitVec 64)) : (bws M).length = 8 * M.length := by
  induction M with
  | nil => rfl
  | cons x M ih => simp [bws, bw_len] at ih ⊢; omega
theorem bws_take (M : List (BitVec 64)) (k : Nat) (h : k < M.length) : bws (M.take (k + 1)) = bws (M.take k) ++ bw (M.getD k 0) 8 := by
  rw [List.take_succ_eq_append_getElem h]; unfold bws; rw [List.flatMap_append]; simp [List.getD, h]
set_option maxRecDepth 100000 in
set_option maxHeartbeats 2000000 in
theorem rbytes_any (M : List (BitVec 64)) (b o cap : Nat) (hn : M.length ≤ 4096) (hc : M.length ≤ cap) (w : World) (hlt : b < w.heap.size)
    (hcell : ∀ j, j < M.length → w.cell? ⟨b, o + j, none⟩ = some (.int .u64 (V (M.getD j 0)))) :
    Calls Tryd.prog 17 #[.slice (some ⟨b, o, none⟩) M.length cap] w fun e w' => (∃ v, e = .returned v ∧ OB w' w.heap.size v (bws M)) ∧ Below w.heap.size w w' := by
  have HC := Lib.hid hcell
  have Hlt := Lib.hid hlt
  have Hn := Lib.hid hn
  have Hc := Lib.hid hc
  obtain ⟨n, hN⟩ : ∃ n, n = M.length := ⟨_, rfl⟩
  have HN := Lib.hid hN
  rw [← hN]
  clear hcell hlt hn hc hN
  go_enter Tryd.func17, Tryd.ntmps17
  go_wp2_with fail
  go_loopw [3, 4] (fun v i wq => ∃ k : Nat, k ≤ n ∧ i = .int .i64 k ∧ OB wq w.heap.size v (bws (M.take k)) ∧ Below w.heap.size w wq) (fun _ i _ => n - (intOf i).toNat)
  case atStart => exact ⟨0, Nat.zero_le _, rfl, OB.nil _ _, Below.refl _ _⟩
  case round =>
    obtain ⟨k, hk, rfl, ho, hb⟩ := hrel
    have HO := Lib.hid ho
    have HB := Lib.hid hb
    clear ho hb
    by_cases hlt : k < n
    · have k1 : (k : Int) < n := by omega
      have k0 : (0 : Int) ≤ (k : Int) := by omega
      have kc : k < cap := by have := Hc.out; have := HN.out; omega
      have hn4 : n ≤ 4096 := by rw [HN.out]; exact Hn.out
      have hst := bws_take M k (by have := HN.out; omega)
      have hL : (bws (M.take k)).length ≤ 65536 := by rw [bws_len, List.length_take]; have := Hn.out; omega
      have hcx := HC.out k (by have := HN.out; omega)
      obtain ⟨L0, hL0⟩ : ∃ L0, L0 = bws (M.take k) := ⟨_, rfl⟩
      rw [← hL0] at hst hL HO
      obtain ⟨x, hx⟩ : ∃ x, x = M.getD k 0 := ⟨_, rfl⟩
      rw [← hx] at hcx hst
      have HCx := Lib.hid hcx
      have HSt := Lib.hid hst
      have HL := Lib.hid hL
      clear hcx hst hL hL0 hx
      go_wp2_with fail
      go_loopw [3, 5] (fun v i wq => ∃ j : Nat, j ≤ 8 ∧ i = .int .i64 (7 - (j : Int)) ∧ OB wq w.heap.size v (L0 ++ bw x j) ∧ Below w.heap.size w wq) (fun _ i _ => (intOf i + 1).toNat)
      case atStart => exact ⟨0, Nat.zero_le _, rfl, by simpa [bw] using HO.out, HB.out⟩
      case round =>
        obtain ⟨j, hj, rfl, ho, hb⟩ := hrel
        clear HO HB
        by_cases hlt8 : j < 8
        · obtain ⟨s, hs⟩ : ∃ s : Nat, s = 7 - j := ⟨_, rfl⟩
          have hsi : (7 : Int) - (j : Int) = (s : Int) := by omega
          rw [hsi]
          have Hs := Lib.hid hs
          have s0 : (0 : Int) ≤ (s : Int) := by omega
          have s16 : (s : Int) < 8 := by omega
          have c3 : (8 * (s : Int)).toNat = 8 * s := by omega
          have c4 : min (8 * s) 64 = 8 * s := by omega
          have c5 : ¬ 8 * (s : Int) < 0 := by omega
          have hv := byteW_val x j
          rw [show 56 - 8 * j = 8 * s by omega] at hv
          have hv8 := hv
          rw [IntKind.wrap_u8'] at hv8
          obtain ⟨y, hy⟩ : ∃ y, y = byteW x j := ⟨_, rfl⟩
          rw [← hy] at hv hv8
          have Hy := Lib.hid hy
          have hcr : wr.cell? ⟨b, o + k, none⟩ = some (.int .u64 (V x)) := (hb.cell (p := ⟨b, o + k, none⟩) Hlt.out).trans HCx.out
          have HOo := Lib.hid (ho.alloc (.cells #[.int .u8 (Bt y)] 5))
          have hs1 := Lib.hid (src_one wr y)
          have HBo := Lib.hid (hb.alloc hb.size (.cells #[.int .u8 (Bt y)] 5))
          have HSz : Hid (w.heap.size ≤ (wr.alloc (.cells #[.int .u8 (Bt y)] 5)).heap.size) := HBo.out.size
          have HLe : Hid ((L0 ++ bw x j).length + [y].length ≤ 140737488355328) := show (L0 ++ bw x j).length + [y].length ≤ 140737488355328 by have := HL.out; rw [List.length_append, bw_len]; simp; omega
          clear ho hb hs hsi hy
          go_wp2_with (refine wpList_push (o := ⟨some 27, _, _, _, _, _⟩) rfl (.tmp 16) (.tmp 26) rfl rfl w.heap.size _ _ [y] rfl HOo.out (some ⟨wr.heap.size, 0, none⟩) 1 1 rfl (one_len _) hs1.out (fun h => by cases h) HLe.out HBo.out HSz.out (Nat.le_refl _) ?_; intro v3 w3 ho3 hb3 hb3')
          go_roundw
          case rel =>
            have hs := Hs.out
            have ho4 : OB w3 w.heap.size v3 (L0 ++ bw x (j + 1)) := by rw [bw_succ, ← Hy.out, ← List.append_assoc]; exact ho3
            refine ⟨j + 1, by omega, ?_⟩
            first
              | exact ⟨by omega, ho4, hb3⟩
              | exact ⟨by omega, ho4⟩
              | exact ⟨congrArg (Value.int .i64) (by omega), ho4, hb3⟩
          case measure => have hs := Hs.out; simp [intOf]; try omega
        · obtain rfl : j = 8 := by omega
          rw [← HSt.out] at ho
          have HO3 := Lib.hid ho
          have HB3 := Lib.hid hb
          clear ho hb
          go_wp2_with fail
          go_roundw
          case rel => exact ⟨k + 1, by omega, by go_num, HO3.out, HB3.out⟩
          case measure => simp [intOf]; omega
    · obtain rfl : k = n := by omega
      have e : M.take k = M := List.take_of_length_le (by rw [← HN.out]; exact Nat.le_refl _)
      rw [e] at HO
      go_wp2_with fail
      go_ret
      exact ⟨⟨_, rfl, HO.out⟩, HB.out⟩
end Go.Proofs.YtffngfjbaimbhaaDoor
