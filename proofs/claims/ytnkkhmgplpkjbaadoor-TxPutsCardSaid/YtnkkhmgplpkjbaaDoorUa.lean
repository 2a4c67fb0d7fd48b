/- What the document's own Width, Digits and Put return. -/
import Derived.Test.YtnkkhmgplpkjbaaDoorPb
import Derived.Outline
namespace Go.Proofs.YtnkkhmgplpkjbaaDoor
open Go.RowKit
set_option maxRecDepth 100000
set_option linter.unusedVariables false
set_option linter.unusedSimpArgs false
theorem byte_mod (n j : Nat) : IntKind.u8.wrap (((n / 2 ^ (8 * j) : Nat) : Int) % 256) = Bt (BitVec.ofNat 8 (n / 2 ^ (8 * j))) := by
  rw [IntKind.wrap_u8']
  unfold Bt
  rw [BitVec.toNat_ofNat]
  omega
theorem div_next (n j : Nat) : ((n / 2 ^ (8 * j) : Nat) : Int) / 256 = ((n / 2 ^ (8 * (j + 1)) : Nat) : Int) := by
  rw [show 8 * (j + 1) = 8 * j + 8 by omega, Nat.pow_add, ← Nat.div_div_eq_div_mul]
  simp
def DigPost (n m : Nat) (w : World) (e : Ending) (w' : World) : Prop :=
  ∃ v, e = .returned (.tuple #[v, .int .u64 ((n / 2 ^ (8 * m) : Nat) : Int)]) ∧ OB w' w.heap.size v (les n m) ∧ Below w.heap.size w w'
theorem digits_any (m n : Nat) (w : World) (hm : m ≤ 8) (hn : n < 18446744073709551616) : Calls Tryd.prog 75 #[.int .i64 m, .int .u64 n] w (DigPost n m w) := by
  go_enter Tryd.func75, Tryd.ntmps75
  go_wp2
  go_loopw [1, 6, 7] (fun x v i wq => ∃ j : Nat, j ≤ m ∧ i = .int .i64 j ∧ x = .int .u64 ((n / 2 ^ (8 * j) : Nat) : Int) ∧ OB wq w.heap.size v (les n j) ∧ Below w.heap.size w wq) (fun _ _ i _ => m - (intOf i).toNat)
  case atStart => exact ⟨0, Nat.zero_le _, rfl, by simp, OB.nil _ _, Below.refl _ _⟩
  case round =>
    obtain ⟨j, hj, rfl, rfl, ho, hb⟩ := hrel
    by_cases hlt : j < m
    · have hbv := byte_mod n j
      have hdn := div_next n j
      obtain ⟨x, hx⟩ : ∃ x, x = BitVec.ofNat 8 (n / 2 ^ (8 * j)) := ⟨_, rfl⟩
      obtain ⟨q, hq⟩ : ∃ q, q = n / 2 ^ (8 * j) := ⟨_, rfl⟩
      obtain ⟨q', hq'⟩ : ∃ q', q' = n / 2 ^ (8 * (j + 1)) := ⟨_, rfl⟩
      rw [← hx, ← hq] at hbv
      rw [← hq, ← hq'] at hdn
      rw [← hq]
      have Hx := Lib.hid hx
      have Hq' := Lib.hid hq'
      have HOo := Lib.hid (ho.alloc (.cells #[.int .u8 (Bt x)] 5))
      have hs := Lib.hid (src_one wr x)
      have HBo := Lib.hid (hb.alloc hb.size (.cells #[.int .u8 (Bt x)] 5))
      have HSz : Hid (w.heap.size ≤ (wr.alloc (.cells #[.int .u8 (Bt x)] 5)).heap.size) := HBo.out.size
      have HLe : Hid ((les n j).length + [x].length ≤ 140737488355328) := show (les n j).length + [x].length ≤ 140737488355328 by rw [les_len]; simp; omega
      have h0 : (0 : Int) ≤ (q : Int) := by omega
      clear ho hb hx hq hq'
      go_wp2_with (refine wpList_push (o := ⟨some 18, _, _, _, _, _⟩) rfl (.tmp 13) (.tmp 17) rfl rfl w.heap.size _ _ [x] rfl HOo.out (some ⟨wr.heap.size, 0, none⟩) 1 1 rfl (one_len _) hs.out (fun h => by cases h) HLe.out HBo.out HSz.out (Nat.le_refl _) ?_; intro v' w' h1 h2 h3)
      go_roundw
      case rel => exact ⟨j + 1, by omega, by go_num, by rw [show IntKind.u64.wrap (q' : Int) = q' by rw [IntKind.wrap_u64]; have := Nat.div_le_self n (2 ^ (8 * (j + 1))); have := Hq'.out; omega, ← Hq'.out], by rw [les_succ, ← Hx.out]; exact h1, h2⟩
      case measure => simp [intOf]; omega
    · obtain rfl : j = m := by omega
      have HOo := Lib.hid ho
      have HBo := Lib.hid hb
      clear ho hb
      go_wp2
      go_ret2
      exact ⟨_, rfl, HOo.out, HBo.out⟩
end Go.Proofs.YtnkkhmgplpkjbaaDoor
