/- What the law package's name and awake return: the name of the digest of a string, and true. -/
import Derived.Test.YtjbjkddgefiicaaDoorT
import Derived.Lib.ConvBytes
namespace Go.Proofs.YtjbjkddgefiicaaDoor
open Go.RowKit
set_option linter.unusedVariables false
set_option linter.unusedSimpArgs false
set_option maxRecDepth 100000 in
theorem str_abc : strB (hexs (sumB [97, 98, 99])) = { data := #[98, 97, 55, 56, 49, 54, 98, 102, 56, 102, 48, 49, 99, 102, 101, 97, 52, 49, 52, 49, 52, 48, 100, 101, 53, 100, 97, 101, 50, 50, 50, 51, 98, 48, 48, 51, 54, 49, 97, 51, 57, 54, 49, 55, 55, 97, 57, 99, 98, 52, 49, 48, 102, 102, 54, 49, 102, 50, 48, 48, 49, 53, 97, 100] } := by kernel_rfl
set_option maxRecDepth 100000 in
theorem str_two : strB (hexs (twiceB [])) = { data := #[53, 100, 102, 54, 101, 48, 101, 50, 55, 54, 49, 51, 53, 57, 100, 51, 48, 97, 56, 50, 55, 53, 48, 53, 56, 101, 50, 57, 57, 102, 99, 99, 48, 51, 56, 49, 53, 51, 52, 53, 52, 53, 102, 53, 53, 99, 102, 52, 51, 101, 52, 49, 57, 56, 51, 102, 53, 100, 52, 99, 57, 52, 53, 54] } := by kernel_rfl
def bytesOf (s : ByteArray) : List (BitVec 8) := s.data.toList.map UInt8.toBitVec
theorem bytesOf_len (s : ByteArray) : (bytesOf s).length = s.size := by
  show (s.data.toList.map UInt8.toBitVec).length = s.data.size
  rw [List.length_map, Array.length_toList]
theorem grown_ge (w : World) (n m : Nat) (e : TypeId) : n ≤ grownCap w n m e := by
  unfold grownCap
  simp only [Question.cut]
  omega
theorem conv_str (s : ByteArray) (w : World) : ∃ w1 c, (convert 9 22 (.string s)).run Tryd.prog w = .ok (.slice (some ⟨w.heap.size, 0, none⟩) (bytesOf s).length c) w1 ∧ Below w.heap.size w w1 ∧
    Rd w1 w1.heap.size (some ⟨w.heap.size, 0, none⟩) (bytesOf s) ∧ (bytesOf s).length ≤ c := by
  refine ⟨Lib.bytesWorld w 5 s, grownCap w s.size 0 5, ?_, ?_, ?_, ?_⟩
  · rw [bytesOf_len]; exact Lib.run_convert_string_bytes w 9 22 5 s Tryd.underlying9 Tryd.underlying22 Tryd.underlying5
  · exact ⟨rfl, rfl, rfl, by rw [Lib.bytesWorld_size]; omega, fun k hk => Lib.bytesWorld_at_old w 5 s k hk⟩
  · intro hp
    refine ⟨w.heap.size, 0, rfl, by rw [Lib.bytesWorld_size]; omega, fun j hj => ?_⟩
    rw [Nat.zero_add, Lib.bytesWorld_cell w 5 s j (by rwa [bytesOf_len] at hj)]
    have hj2 : j < s.data.toList.length := by rw [bytesOf_len] at hj; rw [Array.length_toList]; exact hj
    simp [bytesOf, Bt, List.getD, hj2]
  · rw [bytesOf_len]; exact grown_ge _ _ _ _
set_option maxRecDepth 100000 in
set_option maxHeartbeats 1000000 in
theorem name_any (s : ByteArray) (hs : s.size ≤ 1000000) (w : World) (hG : Glob w) :
    Calls Tryd.prog 23 #[.string s] w fun e w' => e = .returned (.string (strB (hexs (sumB (bytesOf s))))) ∧ Below w.heap.size w w' := by
  obtain ⟨w1, c, hcv, hb, hrd, hc⟩ := conv_str s w
  have HS := Lib.hid (sum_any _ c _ w1 (hG.below hb) hrd hc (by rw [bytesOf_len]; omega))
  have HB := Lib.hid hb
  have HT := Lib.hid (fun w2 => text_any (sumB (bytesOf s)) (sumB_len _) w2)
  clear hrd hc hG hb hs
  go_enter Tryd.func23, Tryd.ntmps23
  go_wp2_with (first | (go_at_call 12; (with_reducible refine HS.out.mono ?_); rintro e w2 ⟨rfl, hb2⟩; dsimp only) | (go_at_call 20; (with_reducible refine (HT.out _).mono ?_); rintro e w3 ⟨rfl, hb3⟩; dsimp only))
  go_ret
  exact ⟨rfl, HB.out.trans ((hb2.trans (hb3.mono hb2.size)).mono HB.out.size)⟩
set_option maxRecDepth 100000 in
set_option maxHeartbeats 1000000 in
theorem awake_any (w : World) (hG : Glob w) : Calls Tryd.prog 11 #[] w fun e w' => e = .returned (.bool true) ∧ Below w.heap.size w w' := by
  have hn := name_any { data := #[97, 98, 99] } (by decide) w hG
  rw [show bytesOf { data := #[97, 98, 99] } = [97, 98, 99] from rfl, str_abc] at hn
  have HN := Lib.hid hn
  have HW : Hid (∀ w1, Below w.heap.size w w1 → Calls Tryd.prog 14 #[.slice none 0 0] w1 fun e w' => e = .returned (.agg (vbs (twiceB [])).toArray) ∧ Below w1.heap.size w1 w') := fun w1 hb => twice_any none 0 [] w1 (hG.below hb) (fun h => by cases h) (Nat.le_refl _) (by decide)
  have ht := fun w2 => text_any (twiceB []) (sumB_len _) w2
  rw [str_two] at ht
  have HT := Lib.hid ht
  clear hn ht hG
  go_enter Tryd.func11, Tryd.ntmps11
  go_wp2_with (first | (go_at_call 23; (with_reducible refine HN.out.mono ?_); rintro e w1 ⟨rfl, hb1⟩; dsimp only) | (go_at_call 14; (with_reducible refine (HW.out _ hb1).mono ?_); rintro e w2 ⟨rfl, hb2⟩; dsimp only) | (go_at_call 20; (with_reducible refine (HT.out _).mono ?_); rintro e w3 ⟨rfl, hb3⟩; dsimp only))
  go_ret
  exact ⟨rfl, hb1.trans ((hb2.trans (hb3.mono hb2.size)).mono hb1.size)⟩
end Go.Proofs.YtjbjkddgefiicaaDoor
