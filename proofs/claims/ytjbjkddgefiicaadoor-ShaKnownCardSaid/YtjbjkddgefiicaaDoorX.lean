/- What Twice of a Middle that is none returns: 32 noughts, whatever it is asked with. -/
import Derived.Test.YtjbjkddgefiicaaDoorM
namespace Go.Proofs.YtjbjkddgefiicaaDoor
open Go.RowKit
set_option linter.unusedVariables false
set_option linter.unusedSimpArgs false
set_option maxRecDepth 100000 in
set_option maxHeartbeats 1000000 in
theorem mid_zero (v : Value) (w : World) :
    Calls Tryd.prog 17 #[.agg #[.int .u32 0, .int .u32 0, .int .u32 0, .int .u32 0, .int .u32 0, .int .u32 0, .int .u32 0, .int .u32 0, .bool false], v] w fun e w' => e = .returned (.agg (vbs Z32).toArray) ∧ Below w.heap.size w w' := by
  have hz : ∀ w, (zeroValue 25).run Tryd.prog w = .ok (.agg (vbs Z32).toArray) w := fun _ => by kernel_rfl
  have hb0 : Below w.heap.size w ((w.alloc (Obj.cells #[.int .u32 0, .int .u32 0, .int .u32 0, .int .u32 0, .int .u32 0, .int .u32 0, .int .u32 0, .int .u32 0, .bool false] 33)).alloc (Obj.cells (vbs Z32).toArray 25)) := ((Below.refl _ _).alloc (Nat.le_refl _) _).alloc (by simp) _
  have s1 : (w.alloc (Obj.cells #[.int .u32 0, .int .u32 0, .int .u32 0, .int .u32 0, .int .u32 0, .int .u32 0, .int .u32 0, .int .u32 0, .bool false] 33)).heap.size = w.heap.size + 1 := by simp
  have h2 := Blk.new (w.alloc (Obj.cells #[.int .u32 0, .int .u32 0, .int .u32 0, .int .u32 0, .int .u32 0, .int .u32 0, .int .u32 0, .int .u32 0, .bool false] 33)) 25 (vbs Z32).toArray
  have q8 := ((Blk.new w 33 #[.int .u32 0, .int .u32 0, .int .u32 0, .int .u32 0, .int .u32 0, .int .u32 0, .int .u32 0, .int .u32 0, .bool false]).alloc (Obj.cells (vbs Z32).toArray 25)).cell (j := 8) (v := .bool false) rfl
  rw [s1, List.toList_toArray] at h2
  have H2 := Lib.hid h2
  have HB := Lib.hid hb0
  have HTh := Lib.hid (there_z (by rw [List.toList_toArray]; exact h2) Z32_len)
  clear s1 h2 hb0
  go_enter Tryd.func17, Tryd.ntmps17
  go_wp2_with (with_reducible refine wpList_store_mid rfl 25 (.tmp 4) (.tmp 9) rfl (w.heap.size + 1) 0 (vbs Z32).toArray rfl rfl HTh.out (i25v Z32_len) (all_oneCell_toArray (vbs_one _)) ?_)
  have hB1 := H2.out.setCells (vbs Z32) rfl
  have hSb := below_setCells (Nat.le_succ w.heap.size) (vbs Z32) 0 _ HB.out
  generalize World.setCells _ (w.heap.size + 1) 0 (vbs Z32) = W9 at hB1 hSb
  exact bodyPost_ret (v := .agg (vbs Z32).toArray) (results_cell_row Tryd.results17 _ W9 (w.heap.size + 1) 25 (vbs Z32).toArray (0, 0) _ rfl hB1 Tryd.underlying25 rfl (i25v Z32_len)) rfl ⟨rfl, hSb⟩
end Go.Proofs.YtjbjkddgefiicaaDoor
