/- What sha.Sum and sha.Twice return: digest and double digest of the bytes, for slices shorter than 2 to the 60. -/
import Derived.Test.YtjbjkddgefiicaaDoorF
import Derived.Deep.DeepCutAuto
namespace Go.Proofs.YtjbjkddgefiicaaDoor
open Go.RowKit
set_option linter.unusedVariables false
set_option linter.unusedSimpArgs false
/-- The initial state. -/
def ini : St := ⟨1779033703, 3144134277, 1013904242, 2773480762, 1359893119, 2600822924, 528734635, 1541459225⟩
/-- What the two tables hold. -/
structure Glob (w : World) : Prop where
  i : w.rangeAt 0 0 (stv ini).toList
  k : ∀ i, i < 64 → w.cell? ⟨1, i, none⟩ = some (.int .u32 (U (KK.getD i 0)))
theorem Glob.lt1 {w : World} (h : Glob w) : 1 < w.heap.size := World.block_lt_of_cell? w _ (h.k 0 (by omega))
theorem Glob.below {w w' : World} (h : Glob w) (hb : Below w.heap.size w w') : Glob w' :=
  ⟨fun j v hv => by rw [hb.cell (p := ⟨0, 0 + j, none⟩) (by have := h.lt1; show 0 < _; omega)]; exact h.i j v hv, fun i hi => by rw [hb.cell (p := ⟨1, i, none⟩) h.lt1]; exact h.k i hi⟩
/-- The digest of R, its bytes. -/
def sumB (R : List (BitVec 8)) : List (BitVec 8) := finB ini 0 R
theorem finB_len (S : St) (dn : Nat) (R : List (BitVec 8)) : (finB S dn R).length = 32 := joinB_len _
theorem sumB_len (R : List (BitVec 8)) : (sumB R).length = 32 := joinB_len _
def Z32 : List (BitVec 8) := List.replicate 32 0
theorem Z32_len : Z32.length = 32 := List.length_replicate
theorem info30 {s : St} : (Tryd.prog.info? 30).map (·.size) = some (stv s).toList.length := by kernel_rfl
theorem there_new25 (w : World) {E : List (BitVec 8)} (h : E.length = 32) : (w.alloc (Obj.cells (vbs Z32).toArray 25)).there w.heap.size 0 (vbs E).toArray.size := by
  have h1 := (Blk.new w 25 (vbs Z32).toArray).there
  have e1 : (vbs Z32).toArray.toList.length = 32 := by rw [List.toList_toArray, vbs_len, Z32_len]
  have e2 : (vbs E).toArray.size = 32 := by rw [List.size_toArray, vbs_len]; exact h
  rw [e1] at h1
  rw [e2]
  exact h1
theorem there_below {w w' : World} {b o n : Nat} (h : w.there b o n) (hb : Below w.heap.size w w') (hl : b < w.heap.size) : w'.there b o n := fun j hj => by
  rw [hb.cell (p := ⟨b, o + j, none⟩) hl, hb.frozen (p := ⟨b, o + j, none⟩) hl]; exact h j hj
theorem there_z {w : World} {b : Nat} {T : TypeId} {E : List (BitVec 8)} (h : Blk w b T (vbs Z32).toArray.toList) (hE : E.length = 32) : w.there b 0 (vbs E).toArray.size := by
  have h1 := h.there
  have e1 : (vbs Z32).toArray.toList.length = 32 := by rw [List.toList_toArray, vbs_len, Z32_len]
  have e2 : (vbs E).toArray.size = 32 := by rw [List.size_toArray, vbs_len]; exact hE
  rw [e1] at h1
  rw [e2]
  exact h1
theorem i25v {E : List (BitVec 8)} (h : E.length = 32) : (Tryd.prog.info? 25).map (·.size) = some (vbs E).toArray.size := info_arr (i25 (by rw [vbs_len]; exact h))
set_option maxRecDepth 100000 in
set_option maxHeartbeats 1000000 in
theorem sum_any (A : Option Addr) (cap : Nat) (R : List (BitVec 8)) (w : World) (hG : Glob w) (hR : Rd w w.heap.size A R) (hcap : R.length ≤ cap) (hl : R.length < 1152921504606846976) :
    Calls Tryd.prog 12 #[.slice A R.length cap] w fun e w' => e = .returned (.agg (vbs (sumB R)).toArray) ∧ Below w.heap.size w w' := by
  have hz : ∀ w, (zeroValue 25).run Tryd.prog w = .ok (.agg (vbs Z32).toArray) w := fun _ => by kernel_rfl
  have hb0 : Below w.heap.size w (w.alloc (Obj.cells (vbs Z32).toArray 25)) := (Below.refl _ _).alloc (Nat.le_refl _) _
  have HG := Lib.hid (hG.below hb0)
  have HF := Lib.hid (finished_any ini 0 cap A R (w.alloc (Obj.cells (vbs Z32).toArray 25)) (fun hp => by
    obtain ⟨b, o, e, hlt, hc⟩ := (Rd.keep hR hb0) hp
    exact ⟨b, o, e, by simp; omega, hc⟩) hcap (by omega) HG.out.k)
  have HS := Lib.hid (fun w1 (hb1 : Below (w.alloc (Obj.cells (vbs Z32).toArray 25)).heap.size (w.alloc (Obj.cells (vbs Z32).toArray 25)) w1) => there_below (there_new25 w (sumB_len R)) hb1 (by simp))
  have HB := Lib.hid hb0
  clear hG hR hcap hl hb0
  go_enter Tryd.func12, Tryd.ntmps12
  go_wp2_with (first | (with_reducible refine wpList_load_mid rfl 30 (.global 0) rfl 0 0 rfl (stv ini).toList _ HG.out.i Tryd.underlying30 rfl info30 ?_) | (go_at_call 24; (refine HF.out.mono ?_); rintro e w1 ⟨rfl, hb1⟩; dsimp only) | (with_reducible refine wpList_store_mid rfl 25 (.tmp 2) (.tmp 5) rfl w.heap.size 0 (vbs (sumB R)).toArray rfl rfl (HS.out w1 hb1) (i25v (sumB_len R)) (all_oneCell_toArray (vbs_one _)) ?_))
  have hB1 := (Blk.below (Blk.new w 25 (vbs Z32).toArray) hb1 (by simp)).setCells (vbs (sumB R)) (by rw [vbs_len, sumB_len, List.toList_toArray, vbs_len, Z32_len])
  have hSb := below_setCells (Nat.le_refl w.heap.size) (vbs (sumB R)) 0 w1 (HB.out.trans (hb1.mono (by simp)))
  generalize w1.setCells w.heap.size 0 (vbs (sumB R)) = W9 at hB1 hSb
  exact bodyPost_ret (v := .agg (vbs (sumB R)).toArray) (results_cell_row Tryd.results12 _ W9 w.heap.size 25 (vbs (sumB R)).toArray (0, 0) _ rfl hB1 Tryd.underlying25 rfl (i25v (sumB_len R))) rfl ⟨rfl, hSb⟩
/-- The double digest. -/
def twiceB (R : List (BitVec 8)) : List (BitVec 8) := sumB (sumB R)
theorem slice25 (b : Nat) (w : World) : (Instr.sliceAt 25 (.pointer (some ⟨b, 0, none⟩)) none none none).run Tryd.prog w = .ok (.slice (some ⟨b, 0, none⟩) 32 32) w := by
  rw [run_sliceAt_array_all w 25 _ (by kernel_rfl)]
  have hs : (sizeOf (Tryd.prog.elem 25)).run Tryd.prog w = .ok 1 w := by kernel_rfl
  have hl : Tryd.prog.arrayLen 25 = 32 := by kernel_rfl
  rw [hs, hl]
  rfl
theorem Rd.of_blk {w : World} {b : Nat} {T : TypeId} {R : List (BitVec 8)} (h : Blk w b T (vbs R)) : Rd w w.heap.size (some ⟨b, 0, none⟩) R := fun _ =>
  ⟨b, 0, rfl, h.lt, fun j hj => by rw [Nat.zero_add]; exact h.cell (vbs_at hj)⟩
/-- A block of 32 bytes, laid and filled. -/
theorem Blk.laid (w : World) {E : List (BitVec 8)} (h : E.length = 32) : Blk ((w.alloc (Obj.cells (vbs Z32).toArray 25)).setCells w.heap.size 0 (vbs E)) w.heap.size 25 (vbs E) :=
  (Blk.new w 25 (vbs Z32).toArray).setCells _ (by rw [vbs_len, h, List.toList_toArray, vbs_len, Z32_len])
theorem Below.laid {w0 w : World} {B : Nat} (hb : Below B w0 w) (hB : B ≤ w.heap.size) (E : List Value) : Below B w0 ((w.alloc (Obj.cells (vbs Z32).toArray 25)).setCells w.heap.size 0 E) :=
  below_setCells hB _ _ _ (hb.alloc hB _)
set_option maxRecDepth 100000 in
set_option maxHeartbeats 1000000 in
theorem twice_any (A : Option Addr) (cap : Nat) (R : List (BitVec 8)) (w : World) (hG : Glob w) (hR : Rd w w.heap.size A R) (hcap : R.length ≤ cap) (hl : R.length < 1152921504606846976) :
    Calls Tryd.prog 14 #[.slice A R.length cap] w fun e w' => e = .returned (.agg (vbs (twiceB R)).toArray) ∧ Below w.heap.size w w' := by
  have hz : ∀ w, (zeroValue 25).run Tryd.prog w = .ok (.agg (vbs Z32).toArray) w := fun _ => by kernel_rfl
  have hb0 : Below w.heap.size w (w.alloc (Obj.cells (vbs Z32).toArray 25)) := (Below.refl _ _).alloc (Nat.le_refl _) _
  have HG := Lib.hid (hG.below hb0)
  have HF := Lib.hid (sum_any A cap R (w.alloc (Obj.cells (vbs Z32).toArray 25)) HG.out (fun hp => by
    obtain ⟨b, o, e, hlt, hc⟩ := (Rd.keep hR hb0) hp
    exact ⟨b, o, e, by simp; omega, hc⟩) hcap (by omega))
  have HB0 := Lib.hid (Blk.new w 25 (vbs Z32).toArray)
  have HB := Lib.hid hb0
  clear hG hR hcap hl hb0
  go_enter Tryd.func14, Tryd.ntmps14
  go_upto_region 2 with (first | (go_at_call 12; (refine HF.out.mono ?_); rintro e w1 ⟨rfl, hb1⟩; dsimp only) | (with_reducible refine wpList_store_mid rfl 25 (.tmp 3) (.tmp 5) rfl w1.heap.size 0 (vbs (sumB R)).toArray rfl rfl (there_new25 w1 (sumB_len R)) (i25v (sumB_len R)) (all_oneCell_toArray (vbs_one _)) ?_))
  have hg1 : Blk ((w1.alloc (Obj.cells (vbs Z32).toArray 25)).setCells w1.heap.size 0 (vbs (sumB R))) w1.heap.size 25 (vbs (sumB R)) := Blk.laid w1 (sumB_len R)
  have hbb : Below (w.alloc (Obj.cells (vbs Z32).toArray 25)).heap.size (w.alloc (Obj.cells (vbs Z32).toArray 25)) ((w1.alloc (Obj.cells (vbs Z32).toArray 25)).setCells w1.heap.size 0 (vbs (sumB R))) := Below.laid hb1 hb1.size _
  generalize (w1.alloc (Obj.cells (vbs Z32).toArray 25)).setCells w1.heap.size 0 (vbs (sumB R)) = W2 at hg1 hbb ⊢
  generalize w1.heap.size = fb at hg1 ⊢
  have hs2 := sum_any (some ⟨fb, 0, none⟩) 32 (sumB R) W2 (HG.out.below hbb) (Rd.of_blk hg1) (by rw [sumB_len]; omega) (by rw [sumB_len]; omega)
  rw [sumB_len] at hs2
  have HS2 := Lib.hid hs2
  have hsl := slice25 fb W2
  have HT := Lib.hid (fun w3 (hb3 : Below W2.heap.size W2 w3) => (Blk.below (Blk.below HB0.out hbb (by simp)) hb3 (by have := hbb.size; simp at this; omega)))
  have HBB := Lib.hid hbb
  clear hg1 hbb hb1 hs2 hz
  go_wp2_with (first | (go_at_call 12; (refine HS2.out.mono ?_); rintro e w3 ⟨rfl, hb3⟩; dsimp only) | (with_reducible refine wpList_store_mid rfl 25 (.tmp 2) (.tmp 7) rfl w.heap.size 0 (vbs (sumB (sumB R))).toArray rfl rfl (there_z (HT.out w3 hb3) (sumB_len _)) (i25v (sumB_len _)) (all_oneCell_toArray (vbs_one _)) ?_))
  have hB1 := (HT.out w3 hb3).setCells (vbs (sumB (sumB R))) (by rw [vbs_len, sumB_len, vbs_len, Z32_len])
  have hSb := below_setCells (Nat.le_refl w.heap.size) (vbs (sumB (sumB R))) 0 w3 (HB.out.trans ((HBB.out.trans (hb3.mono HBB.out.size)).mono (by simp)))
  generalize w3.setCells w.heap.size 0 (vbs (sumB (sumB R))) = W9 at hB1 hSb
  exact bodyPost_ret (v := .agg (vbs (sumB (sumB R))).toArray) (results_cell_row Tryd.results14 _ W9 w.heap.size 25 (vbs (sumB (sumB R))).toArray (0, 0) _ rfl hB1 Tryd.underlying25 rfl (i25v (sumB_len _))) rfl ⟨rfl, hSb⟩
end Go.Proofs.YtjbjkddgefiicaaDoor
