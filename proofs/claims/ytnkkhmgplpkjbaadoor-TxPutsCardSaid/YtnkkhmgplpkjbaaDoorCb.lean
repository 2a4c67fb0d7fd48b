/- What compact.Put and PutText return. -/
import Derived.Test.YtnkkhmgplpkjbaaDoorCa
import Derived.Test.YtnkkhmgplpkjbaaDoorUb
import Derived.Outline
namespace Go.Proofs.YtnkkhmgplpkjbaaDoor
open Go.RowKit
set_option linter.unusedVariables false
set_option linter.unusedSimpArgs false
set_option maxRecDepth 100000
/-- What a call that lays bytes tells: new memory with the bytes X. -/
def LaidPost (X : List (BitVec 8)) (w : World) (e : Ending) (w' : World) : Prop :=
  ∃ v, e = .returned v ∧ OB w' w.heap.size v X ∧ Below w.heap.size w w'
theorem Bt_fst (n : Nat) : Bt (BitVec.ofNat 8 (fst n)) = (fst n : Int) := by
  unfold Bt
  rw [BitVec.toNat_ofNat]
  have := fst_lt n
  omega
theorem put_any (A : Option Addr) (L : List (BitVec 8)) (cap B : Nat) (n : Nat) (w : World) (hR : Rd w B A L) (hB : B ≤ w.heap.size) (hl : L.length ≤ 100000000) :
    Calls Tryd.prog 97 #[.slice A L.length cap, .int .u64 n] w (LaidPost (L ++ form n) w) := by
  have K14 := Lib.hid (size_any n w)
  have K25 := Lib.hid (fun w => first_any n w)
  have K26 := Lib.hid (fun w => following_any (fst n) w)
  rw [fol_fst] at K26
  obtain ⟨m, hm⟩ : ∃ m, m = wid n := ⟨_, rfl⟩
  have hm8 : m ≤ 8 := by rw [hm]; exact wid_le n
  rw [← hm] at K14 K26
  obtain ⟨x0, hx0⟩ : ∃ x, x = BitVec.ofNat 8 (fst n) := ⟨_, rfl⟩
  have hx1 : (fst n : Int) = Bt x0 := by rw [hx0]; exact (Bt_fst n).symm
  rw [hx1] at K25 K26
  have HF : Hid (form n = [x0] ++ les n m) := show form n = [x0] ++ les n m by rw [hx0, hm]; rfl
  obtain ⟨cur, hcl, hmk⟩ := run_make22 L.length (1 + m) (by omega) w
  rw [show (((1 + m : Nat)) : Int) = 1 + (m : Int) by omega] at hmk
  have HR := Lib.hid hR
  have HBB := Lib.hid hB
  have HL := Lib.hid hl
  have HCl := Lib.hid hcl
  clear hm hx0 hx1 hR hcl hB
  go_enter Tryd.func97, Tryd.ntmps97
  go_upto_region 2 with (go_at_call 105; (with_reducible refine K14.out.mono ?_); rintro e w' ⟨rfl, rfl⟩; dsimp only)
  generalize hW1 : w.alloc (.cells cur.toArray 5) = W1
  have hB1 : Blk W1 w.heap.size 5 cur := by rw [← hW1]; exact Blk.new w 5 cur.toArray
  have hb1 : Below w.heap.size w W1 := by rw [← hW1]; exact (Below.refl _ _).alloc (Nat.le_refl _) _
  have HB1 := Lib.hid hB1
  have Hb1 := Lib.hid hb1
  have c1 : Hid ((vbs L).length = Nat.min L.length L.length) := show (vbs L).length = min L.length L.length by rw [vbs_len]; omega
  have c2 : Hid (0 < (vbs L).length → (some (⟨w.heap.size, 0, none⟩ : Addr)) = some ⟨w.heap.size, 0, none⟩ ∧ ∃ ad : Addr, A = some ad ∧ ∀ j v, (vbs L)[j]? = some v → W1.cell? (ad.add j) = some v) := fun hp => by
    rw [vbs_len] at hp
    obtain ⟨b, o, e, hlt, hc⟩ := HR.out hp
    refine ⟨rfl, ⟨b, o, none⟩, e, fun j v hv => ?_⟩
    have hj : j < L.length := by have := (List.getElem?_eq_some_iff.1 hv).1; rwa [vbs_len] at this
    rw [vbs_at hj] at hv
    rw [Addr.add_mid, Hb1.out.cell (p := ⟨b, o + j, none⟩) (by have := HBB.out; show b < _; omega), hc j hj]; exact hv
  have c3 : Hid (0 + (vbs L).length ≤ cur.length) := show 0 + (vbs L).length ≤ cur.length by rw [vbs_len, HCl.out]; omega
  clear hW1 hB1 hb1 hmk
  go_upto_region 3 with (refine wpList_copy_splice (o := ⟨some 17, _, _, _, _, _⟩) rfl (.tmp 15) (.tmp 16) 27 27 rfl 5 Tryd.underlying27 (by kernel_rfl) (some ⟨w.heap.size, 0, none⟩) A L.length (L.length + (1 + m)) L.length cap rfl rfl w.heap.size 0 cur 5 HB1.out (vbs L) c1.out c2.out c3.out (vbs_one L) w.heap.size w Hb1.out (Nat.le_refl _) ?_; intro w2 hB2 hb2)
  have hO : OB w2 w.heap.size (.slice (some ⟨w.heap.size, 0, none⟩) L.length (L.length + (1 + m))) L := ob_of_splice HCl.out (by unfold maxLen; omega) hB2
  have HO := Lib.hid (hO.alloc (.cells #[.int .u8 (Bt x0)] 5))
  have Hb2 := Lib.hid (hb2.alloc hb2.size (.cells #[.int .u8 (Bt x0)] 5))
  have hs := Lib.hid (src_one w2 x0)
  have HSz : Hid (w.heap.size ≤ (w2.alloc (.cells #[.int .u8 (Bt x0)] 5)).heap.size) := Hb2.out.size
  have HLe : Hid (L.length + [x0].length ≤ 140737488355328) := show L.length + [x0].length ≤ 140737488355328 by simp; omega
  clear hO hb2 hB2 HB1 Hb1 c1 c2 c3 HR HCl
  go_upto_region 4 with (first
    | (go_at_call 104; (with_reducible refine (K25.out _).mono ?_); rintro e w' ⟨rfl, rfl⟩; dsimp only)
    | (refine wpList_push (o := ⟨some 22, _, _, _, _, _⟩) rfl (.tmp 18) (.tmp 21) rfl rfl w.heap.size _ _ [x0] rfl HO.out (some ⟨w2.heap.size, 0, none⟩) 1 1 rfl (one_len _) hs.out (fun h => by cases h) HLe.out Hb2.out HSz.out (Nat.le_refl _) ?_; intro v3 w3 h1 h2 h3))
  have HO3 := Lib.hid h1
  have HB3 := Lib.hid h2
  clear h1 h2 h3 HO Hb2 hs HSz HLe
  go_wp2_with (first
    | (go_at_call 104; (with_reducible refine (K25.out _).mono ?_); rintro e w' ⟨rfl, rfl⟩; dsimp only)
    | (go_at_call 103; (with_reducible refine (K26.out _).mono ?_); rintro e w' ⟨rfl, rfl⟩; dsimp only))
  go_loopw [5, 26] (fun v i wq => ∃ j : Nat, j ≤ m ∧ i = .int .i64 j ∧ OB wq w.heap.size v (L ++ ([x0] ++ les n j)) ∧ Below w.heap.size w wq) (fun _ i _ => m - (intOf i).toNat)
  case atStart => exact ⟨0, Nat.zero_le _, rfl, by simpa [les] using HO3.out, HB3.out⟩
  case round =>
    obtain ⟨j, hj, rfl, ho, hb⟩ := hrel
    by_cases hlt : j < m
    · have h0 : (0 : Int) ≤ (j : Int) := by omega
      have hmin2 : min (8 * j) 64 = 8 * j := by omega
      have hbv := byte_val n j
      obtain ⟨x, hx⟩ : ∃ x, x = BitVec.ofNat 8 (n / 2 ^ (8 * j)) := ⟨_, rfl⟩
      rw [← hx] at hbv
      have Hx := Lib.hid hx
      have HOo := Lib.hid (ho.alloc (.cells #[.int .u8 (Bt x)] 5))
      have hs := Lib.hid (src_one wr x)
      have HBo := Lib.hid (hb.alloc hb.size (.cells #[.int .u8 (Bt x)] 5))
      have HSz : Hid (w.heap.size ≤ (wr.alloc (.cells #[.int .u8 (Bt x)] 5)).heap.size) := HBo.out.size
      have HLe : Hid ((L ++ ([x0] ++ les n j)).length + [x].length ≤ 140737488355328) := show (L ++ ([x0] ++ les n j)).length + [x].length ≤ 140737488355328 by rw [List.length_append, List.length_append, les_len]; simp; omega
      clear ho hb hx
      go_wp2_with (refine wpList_push (o := ⟨some 36, _, _, _, _, _⟩) rfl (.tmp 29) (.tmp 35) rfl rfl w.heap.size _ _ [x] rfl HOo.out (some ⟨wr.heap.size, 0, none⟩) 1 1 rfl (one_len _) hs.out (fun h => by cases h) HLe.out HBo.out HSz.out (Nat.le_refl _) ?_; intro v' w' h1 h2 h3)
      go_roundw
      case rel => exact ⟨j + 1, by omega, by go_num, by rw [les_succ, ← Hx.out]; simpa [List.append_assoc] using h1, h2⟩
      case measure => simp [intOf]; omega
    · obtain rfl : j = m := by omega
      have HOo := Lib.hid ho
      have HBo := Lib.hid hb
      clear ho hb
      go_wp2
      go_ret
      exact ⟨_, rfl, by rw [HF.out]; exact HOo.out, HBo.out⟩
end Go.Proofs.YtnkkhmgplpkjbaaDoor
