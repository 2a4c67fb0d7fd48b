/- What bytes.Put, tx.number and tx.count return. -/
import Derived.Test.YtnkkhmgplpkjbaaDoorCc
import Derived.Outline
namespace Go.Proofs.YtnkkhmgplpkjbaaDoor
open Go.RowKit
set_option linter.unusedVariables false
set_option linter.unusedSimpArgs false
set_option maxRecDepth 100000
set_option maxHeartbeats 4000000 in
theorem bput_any (A : Option Addr) (L : List (BitVec 8)) (cap B : Nat) (k : Int) (n : Nat) (w : World) (hR : Rd w B A L) (hB : B ≤ w.heap.size) (hn : n < 18446744073709551616) (hl : L.length ≤ 100000000) :
    Calls Tryd.prog 96 #[.slice A L.length cap, .int .i64 k, .int .u64 n] w (PutPost L k n w) := by
  have HW := Lib.hid (isWidth_any k w)
  by_cases hw : isW k = true
  · rw [hw] at HW
    have hk := isW_pos hw
    obtain ⟨m, rfl⟩ : ∃ m : Nat, k = m := ⟨k.toNat, by omega⟩
    have hmin : min (8 * m) 64 = 8 * m := by omega
    by_cases hlt : n < 2 ^ (8 * m)
    · have h0 : ((n : Int) / 2 ^ (8 * m) != 0) = false := by
        have : n / 2 ^ (8 * m) = 0 := Nat.div_eq_of_lt hlt
        have e : ((n : Int) / 2 ^ (8 * m)) = ((n / 2 ^ (8 * m) : Nat) : Int) := by simp
        rw [e, this]; rfl
      obtain ⟨cur, hcl, hmk⟩ := run_make22 L.length m (by omega) w
      have hm1 : 1 ≤ m := by omega
      have hm8 : m ≤ 8 := by omega
      have HR := Lib.hid hR
      have HBB := Lib.hid hB
      have HL := Lib.hid hl
      have HCl := Lib.hid hcl
      have HY := Lib.hid (show isW (m : Int) = true ∧ n < 2 ^ (8 * (m : Int).toNat) from ⟨hw, hlt⟩)
      clear hlt hR hcl hn hB hw hk
      go_enter Tryd.func96, Tryd.ntmps96
      go_upto_region 4 with (go_at_call 82; (with_reducible refine HW.out.mono ?_); rintro e w' ⟨rfl, rfl⟩; dsimp only)
      generalize hW1 : w.alloc (.cells cur.toArray 5) = W1
      have hB1 : Blk W1 w.heap.size 5 cur := by rw [← hW1]; exact Blk.new w 5 cur.toArray
      have hb1 : Below w.heap.size w W1 := by rw [← hW1]; exact (Below.refl _ _).alloc (Nat.le_refl _) _
      have HB1 := Lib.hid hB1
      have Hb1 := Lib.hid hb1
      have c1 : Hid ((vbs L).length = Nat.min L.length L.length) := show (vbs L).length = min L.length L.length by rw [vbs_len]; omega
      have c2 : Hid (0 < (vbs L).length → (some (⟨w.heap.size, 0, none⟩ : Addr)) = some ⟨w.heap.size, 0, none⟩ ∧ ∃ ad : Addr, A = some ad ∧ ∀ j v, (vbs L)[j]? = some v → W1.cell? (ad.add j) = some v) := fun hp => by
        rw [vbs_len] at hp
        obtain ⟨b, o, e, hlt, hc⟩ := HR.out hp
        refine ⟨rfl, ⟨b, o, none⟩, e, fun j v hv => ?_⟩
        have hj : j < L.length := by have := (List.getElem?_eq_some_iff.1 hv).1; rwa [vbs_len] at this
        rw [vbs_at hj] at hv
        rw [Addr.add_mid, Hb1.out.cell (p := ⟨b, o + j, none⟩) (by have := HBB.out; show b < _; omega), hc j hj]; exact hv
      have c3 : Hid (0 + (vbs L).length ≤ cur.length) := show 0 + (vbs L).length ≤ cur.length by rw [vbs_len, HCl.out]; omega
      clear hW1 hB1 hb1 hmk
      go_upto_region 5 with (refine wpList_copy_splice (o := ⟨some 29, _, _, _, _, _⟩) rfl (.tmp 27) (.tmp 28) 27 27 rfl 5 Tryd.underlying27 (by kernel_rfl) (some ⟨w.heap.size, 0, none⟩) A L.length (L.length + m) L.length cap rfl rfl w.heap.size 0 cur 5 HB1.out (vbs L) c1.out c2.out c3.out (vbs_one L) w.heap.size w Hb1.out (Nat.le_refl _) ?_; intro w2 hB2 hb2)
      have hO : OB w2 w.heap.size (.slice (some ⟨w.heap.size, 0, none⟩) L.length (L.length + m)) L := ob_of_splice HCl.out (by unfold maxLen; omega) hB2
      have HO := Lib.hid hO
      have Hb2 := Lib.hid hb2
      clear hO hb2 hB2 HB1 Hb1 c1 c2 c3 HR HCl
      go_wp2_with fail
      go_loopw [8, 31] (fun v i wq => ∃ j : Nat, j ≤ m ∧ i = .int .i64 j ∧ OB wq w.heap.size v (L ++ les n j) ∧ Below w.heap.size w wq) (fun _ i _ => m - (intOf i).toNat)
      case atStart => exact ⟨0, Nat.zero_le _, rfl, by simpa [les] using HO.out, Hb2.out⟩
      case round =>
        obtain ⟨j, hj, rfl, ho, hb⟩ := hrel
        by_cases hlt : j < m
        · have h0 : (0 : Int) ≤ (j : Int) := by omega
          have hmin2 : min (8 * j) 64 = 8 * j := by omega
          have hbv := byte_val n j
          obtain ⟨x, hx⟩ : ∃ x, x = BitVec.ofNat 8 (n / 2 ^ (8 * j)) := ⟨_, rfl⟩
          rw [← hx] at hbv
          have Hx := Lib.hid hx
          have HOo := Lib.hid (ho.alloc (.cells #[.int .u8 (Bt x)] 5))
          have hs := Lib.hid (src_one wr x)
          have HBo := Lib.hid (hb.alloc hb.size (.cells #[.int .u8 (Bt x)] 5))
          have HSz : Hid (w.heap.size ≤ (wr.alloc (.cells #[.int .u8 (Bt x)] 5)).heap.size) := HBo.out.size
          have HLe : Hid ((L ++ les n j).length + [x].length ≤ 140737488355328) := show (L ++ les n j).length + [x].length ≤ 140737488355328 by rw [List.length_append, les_len]; simp; omega
          clear ho hb hx
          go_wp2_with (refine wpList_push (o := ⟨some 41, _, _, _, _, _⟩) rfl (.tmp 34) (.tmp 40) rfl rfl w.heap.size _ _ [x] rfl HOo.out (some ⟨wr.heap.size, 0, none⟩) 1 1 rfl (one_len _) hs.out (fun h => by cases h) HLe.out HBo.out HSz.out (Nat.le_refl _) ?_; intro v' w' h1 h2 h3)
          go_roundw
          case rel => exact ⟨j + 1, by omega, by go_num, by rw [les_succ, ← Hx.out, ← List.append_assoc]; exact h1, h2⟩
          case measure => simp [intOf]; omega
        · obtain rfl : j = m := by omega
          have HOo := Lib.hid ho
          have HBo := Lib.hid hb
          clear ho hb
          go_wp2
          go_ret2
          exact ⟨HBo.out, fun _ => ⟨_, rfl, HOo.out⟩, fun h => absurd HY.out h⟩
    · have h0 : ((n : Int) / 2 ^ (8 * m) != 0) = true := by
        have e : ((n : Int) / 2 ^ (8 * m)) = ((n / 2 ^ (8 * m) : Nat) : Int) := by simp
        have h1 : 0 < n / 2 ^ (8 * m) := Nat.div_pos (by omega) (Nat.two_pow_pos _)
        rw [e]
        simp
        omega
      have hm1 : 1 ≤ m := by omega
      have hm8 : m ≤ 8 := by omega
      have HN : Hid (¬ (isW (m : Int) = true ∧ n < 2 ^ (8 * (m : Int).toNat))) := fun h => hlt h.2
      clear hlt hR hn hB hw hk hl
      go_enter Tryd.func96, Tryd.ntmps96
      go_wp2_with (go_at_call 82; (with_reducible refine HW.out.mono ?_); rintro e w' ⟨rfl, rfl⟩; dsimp only)
      go_ret2
      exact ⟨Below.refl _ _, fun h => absurd h HN.out, fun _ => rfl⟩
  · rw [show isW k = false by simpa using hw] at HW
    have HN := Lib.hid hw
    clear hR hl hn hB hw
    go_enter Tryd.func96, Tryd.ntmps96
    go_wp2_with (go_at_call 82; (with_reducible refine HW.out.mono ?_); rintro e w' ⟨rfl, rfl⟩; dsimp only)
    go_ret2
    exact ⟨Below.refl _ _, fun h => absurd h.1 HN.out, fun _ => rfl⟩
theorem number_any (k n : Nat) (w : World) (hk : isW k = true) (hn : n < 2 ^ (8 * k)) (hn64 : n < 18446744073709551616) : Calls Tryd.prog 67 #[.int .i64 (k : Int), .int .u64 (n : Int)] w (LaidPost (les n k) w) := by
  have h := bput_any none [] 0 0 k n w (fun h => by simp at h) (Nat.zero_le _) hn64 (by simp)
  have hy : isW (k : Int) = true ∧ n < 2 ^ (8 * (k : Int).toNat) := ⟨hk, hn⟩
  have K := Lib.hid h
  have HY := Lib.hid hy
  clear h hy hk hn
  go_enter Tryd.func67, Tryd.ntmps67
  go_wp2_with (go_at_call 96; (refine K.out.mono ?_); rintro e w2 ⟨hb, h1, h2⟩; obtain ⟨v, rfl, ho⟩ := h1 HY.out; have HO := Lib.hid ho; clear h1 h2 ho; dsimp only)
  go_ret
  exact ⟨_, rfl, by simpa using HO.out, hb⟩
theorem count_any (n : Nat) (w : World) (hn : n < 9223372036854775808) : Calls Tryd.prog 68 #[.int .i64 (n : Int)] w (LaidPost (form n) w) := by
  have h := put_any none [] 0 0 n w (fun h => by simp at h) (Nat.zero_le _) (by simp)
  rw [List.nil_append] at h
  have K := Lib.hid h
  have hw : IntKind.u64.wrap (n : Int) = (n : Int) := by rw [IntKind.wrap_u64]; omega
  clear h
  go_enter Tryd.func68, Tryd.ntmps68
  go_wp2_with (go_at_call 97; (refine K.out.mono ?_); rintro e w2 ⟨v, rfl, ho, hb⟩; have HO := Lib.hid ho; clear ho; dsimp only)
  go_ret
  exact ⟨_, rfl, HO.out, hb⟩
end Go.Proofs.YtnkkhmgplpkjbaaDoor
