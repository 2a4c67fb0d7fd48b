/- What spinneylaw02.works returns: true. -/
import Derived.Test.YtffngfjbaimbhaaDoorSk
import Derived.Lib.SlBytesConst
import Derived.Outline
namespace Go.Proofs.YtffngfjbaimbhaaDoor
open Go.RowKit
set_option linter.unusedVariables false
set_option linter.unusedSimpArgs false
theorem abc_new (w : World) (m : Nat × Nat) : Rd (w.alloc (Obj.cells #[.int .u8 97, .int .u8 98, .int .u8 99] 5 m)) (w.alloc (Obj.cells #[.int .u8 97, .int .u8 98, .int .u8 99] 5 m)).heap.size (some ⟨w.heap.size, 0, none⟩) [97, 98, 99] := fun _ =>
  ⟨w.heap.size, 0, rfl, by simp, fun j hj => cell_new rfl (by
    have : j = 0 ∨ j = 1 ∨ j = 2 := by simp at hj; omega
    rcases this with rfl | rfl | rfl <;> rfl)⟩
set_option maxRecDepth 100000 in
set_option maxHeartbeats 1000000 in
theorem works_any (w : World) (hG : Glob w) : Calls Tryd.prog 9 #[] w fun e w' => e = .returned (.bool true) ∧ Below w.heap.size w w' := by
  have hz2 := zero29
  have kc := fun (w : World) (C : Array Value) (n c : Nat) => Lib.run_convert_bytes_const (P := Tryd.prog) w 22 5 C n c Tryd.underlying22 Tryd.underlying5
  have HS : Hid (∀ w1, Glob w1 → Calls Tryd.prog 10 #[.slice (some ⟨w1.heap.size, 0, none⟩) 3 3] (w1.alloc (Obj.cells #[.int .u8 97, .int .u8 98, .int .u8 99] 5 (3, 4))) fun e w' => e = .returned (.agg (vbs exD).toArray) ∧ Below w1.heap.size (w1.alloc (Obj.cells #[.int .u8 97, .int .u8 98, .int .u8 99] 5 (3, 4))) w') := fun w1 hg => by
    have hb1 : Below w1.heap.size w1 (w1.alloc (Obj.cells #[.int .u8 97, .int .u8 98, .int .u8 99] 5 (3, 4))) := (Below.refl _ _).alloc (Nat.le_refl _) _
    have h := sum256_any (some ⟨w1.heap.size, 0, none⟩) 3 [97, 98, 99] _ (hg.below hb1) (abc_new w1 (3, 4)) (by decide) (by decide) (by decide)
    rw [short_abc] at h
    exact h.mono fun e w' hp => ⟨hp.1, hp.2.mono hb1.size⟩
  have HG := Lib.hid hG
  have e0 : (vbs exD)[0]? = some (.int .u8 83) := rfl
  have e1 : (vbs exD)[1]? = some (.int .u8 4) := rfl
  have e31 : (vbs exD)[31]? = some (.int .u8 35) := rfl
  have hDl : (vbs exD).length = 32 := rfl
  generalize exD = D at HS e0 e1 e31 hDl
  have HDl := Lib.hid hDl
  have HE0 := Lib.hid e0
  have HE1 := Lib.hid e1
  have HE31 := Lib.hid e31
  have HI29 := Lib.hid (i29 hDl)
  clear hG e0 e1 e31 hDl
  go_enter Tryd.func9, Tryd.ntmps9
  have K10 := Lib.hid (HS.out w HG.out)
  go_upto_region 2 with (first
    | (go_at_call 10; (with_reducible refine K10.out.mono ?_); rintro e w8 ⟨rfl, hb8⟩; have HBA := Lib.hid hb8; have HTh8 : Hid ((w8.alloc (.cells (vbs Z32).toArray 29)).there w8.heap.size 0 32) := (Blk.new w8 29 (vbs Z32).toArray).there; clear hb8; dsimp only)
    | (with_reducible refine wpList_store_mid rfl 29 (.tmp 1) (.tmp 4) rfl w8.heap.size 0 (vbs D).toArray rfl rfl (there_arr HTh8.out HDl.out) (info_arr HI29.out) (all_oneCell_toArray (vbs_one _)) ?_))
  have hb9 : Below w.heap.size w w8 := ((Below.refl _ _).alloc (Nat.le_refl _) _).trans HBA.out
  have hS2 : Blk ((w8.alloc (.cells (vbs Z32).toArray 29)).setCells w8.heap.size 0 (vbs D)) w8.heap.size 29 (vbs D) := (Blk.new w8 29 (vbs Z32).toArray).setCells (vbs D) (by rw [HDl.out]; rfl)
  have hSb := below_setCells (b := w8.heap.size) hb9.size (vbs D) 0 _ (hb9.alloc hb9.size (.cells (vbs Z32).toArray 29))
  generalize (w8.alloc (.cells (vbs Z32).toArray 29)).setCells w8.heap.size 0 (vbs D) = WF at hS2 hSb ⊢
  generalize w8.heap.size = G at hS2 ⊢
  have c0 := hS2.cell HE0.out
  have c1 := hS2.cell HE1.out
  have c31 := hS2.cell HE31.out
  have HSb := Lib.hid hSb
  clear hS2 hSb K10 kc hz2 hb9
  go_wp2
  go_ret
  exact ⟨rfl, HSb.out⟩
end Go.Proofs.YtffngfjbaimbhaaDoor
