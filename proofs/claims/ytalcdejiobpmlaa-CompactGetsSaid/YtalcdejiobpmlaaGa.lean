/- What the document's own Form, Put, PutText and Size return. -/
import Derived.Test.YtalcdejiobpmlaaCc
import Derived.Outline
namespace Go.Proofs.Ytalcdejiobpmlaa
open Go.RowKit
set_option linter.unusedVariables false
set_option linter.unusedSimpArgs false
set_option maxRecDepth 100000
theorem ob_new (w : World) (X : List (BitVec 8)) (B : Nat) (hB : B ≤ w.heap.size) (hX : X.length ≤ maxLen) : OB (w.alloc (.cells (vbs X).toArray 5)) B (.slice (some ⟨w.heap.size, 0, none⟩) X.length X.length) X := by
  refine ⟨by rw [vbs_len]; omega, .inr ⟨w.heap.size, X.length, _, rfl, hB, Blk.new w 5 (vbs X).toArray, Nat.le_refl _, hX, ?_, ?_⟩⟩
  · simp [vbs_len]
  · show List.take _ (vbs X) = vbs X
    exact List.take_of_length_le (by rw [vbs_len]; omega)
theorem form_lo {n : Nat} (h : n < 253) : form n = [BitVec.ofNat 8 n] := by simp [form, wid, fst, h, les]
theorem form_hi {n k b : Nat} (hw : wid n = k) (hf : fst n = b) : form n = [BitVec.ofNat 8 b] ++ les n k := by unfold form; rw [hw, hf]; rfl
theorem Bt_ofNat {n : Nat} (h : n < 256) : Bt (BitVec.ofNat 8 n) = (n : Int) := by unfold Bt; rw [BitVec.toNat_ofNat]; omega
theorem form_lo_any (n : Nat) (w : World) (h : n < 253) : Calls Try.prog 27 #[.int .u64 n] w (LaidPost (form n) w) := by
  rw [form_lo h]
  have hx := Bt_ofNat (n := n) (by omega)
  obtain ⟨x, hxx⟩ : ∃ x, x = BitVec.ofNat 8 n := ⟨_, rfl⟩
  rw [← hxx] at hx ⊢
  have h1 : (n : Int) < 253 := by omega
  have HO := Lib.hid (ob_new w [x] w.heap.size (Nat.le_refl _) (by unfold maxLen; simp))
  have HB : Hid (Below w.heap.size w (w.alloc (.cells (vbs [x]).toArray 5))) := (Below.refl _ _).alloc (Nat.le_refl _) _
  have HE : Hid ((vbs [x]).toArray = #[.int .u8 n]) := show (vbs [x]).toArray = #[.int .u8 n] by rw [← hx]; rfl
  clear h hxx hx
  go_enter Try.func27, Try.ntmps27
  go_wp2
  go_ret
  exact ⟨_, rfl, by have := HO.out; rw [HE.out] at this; exact this, by have := HB.out; rw [HE.out] at this; exact this⟩
theorem form_hi_any (n k b : Nat) (w : World) (hn : n < 18446744073709551616) (hk : k ≤ 8) (hb : b < 256) (hw : wid n = k) (hf : fst n = b)
    (hc : ¬ (n : Int) < 253 ∧ (((n : Int) < 65536 ∧ k = 2 ∧ b = 253) ∨ (¬ (n : Int) < 65536 ∧ (n : Int) < 4294967296 ∧ k = 4 ∧ b = 254) ∨ (¬ (n : Int) < 65536 ∧ ¬ (n : Int) < 4294967296 ∧ k = 8 ∧ b = 255))) :
    Calls Try.prog 27 #[.int .u64 n] w (LaidPost (form n) w) := by
  rw [form_hi hw hf]
  have hx := Bt_ofNat (n := b) hb
  obtain ⟨x, hxx⟩ : ∃ x, x = BitVec.ofNat 8 b := ⟨_, rfl⟩
  rw [← hxx] at hx ⊢
  have HD := Lib.hid (digits_any k n w hk hn)
  have HX := Lib.hid hx
  obtain ⟨X, hX⟩ : ∃ X, X = les n k := ⟨_, rfl⟩
  have hl : X.length = k := by rw [hX, les_len]
  unfold DigPost at HD
  rw [← hX] at HD ⊢
  have HL := Lib.hid hl
  have Hk := Lib.hid hk
  obtain ⟨q, hq⟩ : ∃ q, q = n / 2 ^ (8 * k) := ⟨_, rfl⟩
  rw [← hq] at HD
  clear hw hf hxx hx hb hn hk hX hq hl
  have HN : ∀ w1 : World, Hid (OB (w1.alloc (.cells #[.int .u8 b] 5)) w1.heap.size (.slice (some ⟨w1.heap.size, 0, none⟩) 1 1) [x]) := fun w1 => by
    have h := ob_new w1 [x] w1.heap.size (Nat.le_refl _) (by unfold maxLen; simp)
    rw [show (vbs [x]).toArray = #[.int .u8 b] by rw [← HX.out]; rfl] at h
    exact h
  have HBN : ∀ w1 : World, Below w.heap.size w w1 → Hid (Below w.heap.size w (w1.alloc (.cells #[.int .u8 b] 5))) := fun w1 h => h.alloc h.size _
  have HAl : ∀ w1 : World, Hid (Below w1.heap.size w1 (w1.alloc (.cells #[.int .u8 b] 5))) := fun w1 => (Below.refl w1.heap.size w1).alloc (Nat.le_refl _) _
  have HLe : Hid ([x].length + X.length ≤ 140737488355328) := show [x].length + X.length ≤ 140737488355328 by have := HL.out; have := Hk.out; simp; omega
  obtain ⟨h1, hc⟩ := hc
  rcases hc with ⟨h2, rfl, rfl⟩ | ⟨h2, h3, rfl, rfl⟩ | ⟨h2, h3, rfl, rfl⟩
  all_goals
    simp only [Int.cast_ofNat_Int] at HD HN HBN HAl
    go_enter Try.func27, Try.ntmps27
    go_upto_region 12 with (go_at_call 33; (with_reducible refine HD.out.mono ?_); rintro e w1 ⟨v, rfl, hv, hb⟩; obtain ⟨A, cap, rfl, hrd, _, _, hz⟩ := hv.rd; have HR := Lib.hid hrd; have HZ := Lib.hid hz; have HB := Lib.hid hb; have HO := HN w1; have HB2 := HBN w1 hb; have HS := Lib.hid (src_of_rd (hrd.keep (HAl w1).out)); clear hv hb hrd hz HN HBN HAl; dsimp only)
    go_wp2_with (refine wpList_push (o := ⟨some 27, _, _, _, _, _⟩) rfl (.tmp 25) (.tmp 26) rfl rfl w.heap.size _ _ X rfl (HO.out.base HB.out.size) A X.length cap rfl rfl HS.out HZ.out HLe.out HB2.out HB2.out.size (Nat.le_refl _) ?_; intro v3 w3 h4 h5 h6)
    go_ret
    exact ⟨_, rfl, h4, h5⟩
theorem form_any (n : Nat) (w : World) (hn : n < 18446744073709551616) : Calls Try.prog 27 #[.int .u64 n] w (LaidPost (form n) w) := by
  by_cases h1 : n < 253
  · exact form_lo_any n w h1
  · refine form_hi_any n _ _ w hn (wid_le n) (fst_lt n) rfl rfl ⟨by omega, ?_⟩
    by_cases h2 : n < 65536
    · exact .inl ⟨by omega, by simp [wid, h1, h2], by simp [fst, h1, h2]⟩
    · by_cases h3 : n < 4294967296
      · exact .inr (.inl ⟨by omega, by omega, by simp [wid, h1, h2, h3], by simp [fst, h1, h2, h3]⟩)
      · exact .inr (.inr ⟨by omega, by omega, by simp [wid, h1, h2, h3], by simp [fst, h1, h2, h3]⟩)
end Go.Proofs.Ytalcdejiobpmlaa
