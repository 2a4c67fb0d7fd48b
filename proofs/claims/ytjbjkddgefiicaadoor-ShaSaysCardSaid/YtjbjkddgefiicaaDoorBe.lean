/- The law ShaSays returns true for every digest and every text, in a world whose two tables are as laid. -/
import Derived.Test.YtjbjkddgefiicaaDoorBd
import Derived.Test.YtjbjkddgefiicaaDoorZ
import Derived.Deep.RegionHeld3
import Derived.Deep.DeepCutAuto
namespace Go.Proofs.YtjbjkddgefiicaaDoor
open Go.RowKit
set_option linter.unusedVariables false
set_option linter.unusedSimpArgs false
set_option maxRecDepth 100000 in
set_option maxHeartbeats 8000000 in
theorem says_gen (G Y : List (BitVec 8)) (s tG : ByteArray) (is : Bool) (hG : G.length = 32) (hY : Y.length = 32) (w : World) (hs : (s.size : Int) ≤ 3000)
    (hA : ∀ w', Below w.heap.size w w' → Calls Tryd.prog 11 #[] w' fun e w'' => e = .returned (.bool true) ∧ Below w'.heap.size w' w'')
    (hTG : ∀ w', Calls Tryd.prog 20 #[.agg (vbs G).toArray] w' fun e w'' => e = .returned (.string tG) ∧ Below w'.heap.size w' w'')
    (hRG : ∀ w', Calls Tryd.prog 21 #[.agg (vbs G).toArray] w' fun e w'' => e = .returned (.string tG) ∧ Below w'.heap.size w' w'')
    (hOs : ∀ w', Calls Tryd.prog 18 #[.string s] w' fun e w'' => e = .returned (.tuple #[.agg (vbs Y).toArray, .bool is]) ∧ Below w'.heap.size w' w'')
    (hRs : ∀ w', Calls Tryd.prog 19 #[.string s] w' fun e w'' => e = .returned (.tuple #[.agg (vbs Y).toArray, .bool is]) ∧ Below w'.heap.size w' w'') :
    Calls Tryd.prog 5 #[.agg (vbs G).toArray, .string s] w fun e w' => e = .returned (.bool true) ∧ Below w.heap.size w w' := by
  have hz : ∀ w, (zeroValue 25).run Tryd.prog w = .ok (.agg (vbs Z32).toArray) w := fun _ => by kernel_rfl
  have hn : ¬ (3000 : Int) < (s.size : Int) := by omega
  have hb0 : Below w.heap.size w (w.alloc (Obj.cells (vbs G).toArray 25)) := (Below.refl _ _).alloc (Nat.le_refl _) _
  have hg0 : Blk (w.alloc (Obj.cells (vbs G).toArray 25)) w.heap.size 25 (vbs G) := Blk.new w 25 (vbs G).toArray
  have HG0 := Lib.hid hg0
  have HB := Lib.hid hb0
  have kA := Lib.hid hA
  have kTG := Lib.hid hTG
  have kRG := Lib.hid hRG
  have kOs := Lib.hid hOs
  have kRs := Lib.hid hRs
  clear hb0 hg0 hA hTG hRG hOs hRs
  go_enter Tryd.func5, Tryd.ntmps5
  go_upto_region 5 with (first | (go_at_call 18; (with_reducible refine (kOs.out _).mono ?_); rintro e w2 ⟨rfl, hb2⟩; dsimp only) | (with_reducible refine wpList_store_mid rfl 25 (.tmp 5) (.tmp 16) rfl w2.heap.size 0 (vbs Y).toArray rfl rfl (there_new25 w2 hY) (i25v hY) (all_oneCell_toArray (vbs_one _)) ?_) | (go_at_call 19; (with_reducible refine (kRs.out _).mono ?_); rintro e w3 ⟨rfl, hb3⟩; dsimp only) | (with_reducible refine wpList_store_mid rfl 25 (.tmp 7) (.tmp 21) rfl w3.heap.size 0 (vbs Y).toArray rfl rfl (there_new25 w3 hY) (i25v hY) (all_oneCell_toArray (vbs_one _)) ?_))
  have bw2 : Below w.heap.size w w2 := HB.out.trans (hb2.mono (by simp))
  have g2 : Blk w2 w.heap.size 25 (vbs G) := Blk.below HG0.out hb2 HG0.out.lt
  have bW : Below w.heap.size w ((w2.alloc (Obj.cells (vbs Z32).toArray 25)).setCells w2.heap.size 0 (vbs Y)) := Below.laid bw2 bw2.size _
  have gW : Blk ((w2.alloc (Obj.cells (vbs Z32).toArray 25)).setCells w2.heap.size 0 (vbs Y)) w.heap.size 25 (vbs G) := Blk.other_setCells (by have := g2.lt; omega) _ _ _ (g2.alloc _)
  have xW : Blk ((w2.alloc (Obj.cells (vbs Z32).toArray 25)).setCells w2.heap.size 0 (vbs Y)) w2.heap.size 25 (vbs Y) := Blk.laid w2 hY
  generalize (w2.alloc (Obj.cells (vbs Z32).toArray 25)).setCells w2.heap.size 0 (vbs Y) = V2 at bW gW xW hb3
  generalize w2.heap.size = x at xW ⊢
  have bw3 : Below w.heap.size w w3 := bW.trans (hb3.mono bW.size)
  have g3 := gW.below hb3 gW.lt
  have x3 := xW.below hb3 xW.lt
  have bF : Below w.heap.size w ((w3.alloc (Obj.cells (vbs Z32).toArray 25)).setCells w3.heap.size 0 (vbs Y)) := Below.laid bw3 bw3.size _
  have gF : Blk ((w3.alloc (Obj.cells (vbs Z32).toArray 25)).setCells w3.heap.size 0 (vbs Y)) w.heap.size 25 (vbs G) := Blk.other_setCells (by have := g3.lt; omega) _ _ _ (g3.alloc _)
  have xF : Blk ((w3.alloc (Obj.cells (vbs Z32).toArray 25)).setCells w3.heap.size 0 (vbs Y)) x 25 (vbs Y) := Blk.other_setCells (by have := x3.lt; omega) _ _ _ (x3.alloc _)
  have yF : Blk ((w3.alloc (Obj.cells (vbs Z32).toArray 25)).setCells w3.heap.size 0 (vbs Y)) w3.heap.size 25 (vbs Y) := Blk.laid w3 hY
  generalize (w3.alloc (Obj.cells (vbs Z32).toArray 25)).setCells w3.heap.size 0 (vbs Y) = W at bF gF xF yF ⊢
  generalize w3.heap.size = y at yF ⊢
  have HBW := Lib.hid (show Below w.heap.size w W.drew from bF.drew)
  have HS : Hid (∀ w', Below W.drew.heap.size W.drew w' → w'.rangeAt w.heap.size 0 (vbs G) ∧ w'.rangeAt x 0 (vbs Y) ∧ w'.rangeAt y 0 (vbs Y)) := fun w' hb =>
    ⟨(Blk.below (w := W.drew) gF hb gF.lt).range, (Blk.below (w := W.drew) xF hb xF.lt).range, (Blk.below (w := W.drew) yF hb yF.lt).range⟩
  have u25 := Tryd.underlying25
  have i1 : (Tryd.prog.info? 25).map (·.size) = some (vbs G).length := i25 (by rw [vbs_len]; exact hG)
  have i2 : (Tryd.prog.info? 25).map (·.size) = some (vbs Y).length := i25 (by rw [vbs_len]; exact hY)
  have eS := fun wq => eql_same Y hY wq
  have eT : (tG.toList == tG.toList) = true := beq_self_eq_true _
  have eB : (is == is) = true := beq_self_eq_true _
  clear bw2 g2 bW gW xW bw3 g3 x3 bF gF xF yF hb2 hb3 HG0 HB hn hs
  refine wp_calm_any ?_
  refine wp_region_but (z := 18) (fun w' : World => w'.rangeAt w.heap.size 0 (vbs G) ∧ w'.rangeAt x 0 (vbs Y) ∧ w'.rangeAt y 0 (vbs Y)) (by kernel_rfl) ?_
  have hS : (fun w' : World => w'.rangeAt w.heap.size 0 (vbs G) ∧ w'.rangeAt x 0 (vbs Y) ∧ w'.rangeAt y 0 (vbs Y)) W.drew := HS.out _ (Below.refl _ _)
  refine AnyBut.take (i := 0) (v := .agg (vbs G).toArray) rfl (by kernel_rfl) (by kernel_rfl) (by kernel_rfl) (by kernel_rfl) (fun _ _ _ h => h) ?_ hS ?_
  · exact yieldsIf_load_mid (by rfl) 25 (.tmp 2) rfl (w.heap.size) 0 rfl (vbs G) _ (fun _ h => h.1) Tryd.underlying25 rfl i1
  try simp only [Act.put, List.setIfInBounds_toArray, List.set_cons_zero, List.set_cons_succ, List.getElem_toArray, List.getElem_cons_zero, List.getElem_cons_succ]
  refine AnyBut.take (i := 2) (v := .agg (vbs G).toArray) rfl (by kernel_rfl) (by kernel_rfl) (by kernel_rfl) (by kernel_rfl) (fun _ _ _ h => h) ?_ hS ?_
  · exact yieldsIf_load_mid (by rfl) 25 (.tmp 2) rfl (w.heap.size) 0 rfl (vbs G) _ (fun _ h => h.1) Tryd.underlying25 rfl i1
  try simp only [Act.put, List.setIfInBounds_toArray, List.set_cons_zero, List.set_cons_succ, List.getElem_toArray, List.getElem_cons_zero, List.getElem_cons_succ]
  refine AnyBut.gone (i := 1) (by kernel_rfl) rfl (by rfl) (fun K hK => ?_)
  go_simp
  (with_reducible refine (kTG.out _).mono ?_)
  rintro e w5 ⟨rfl, hb5⟩
  dsimp only
  have hS : (fun w' : World => w'.rangeAt w.heap.size 0 (vbs G) ∧ w'.rangeAt x 0 (vbs Y) ∧ w'.rangeAt y 0 (vbs Y)) w5 := HS.out _ hb5
  refine hK _ _ (fun _ => hS) ?_
  clear hK K
  try simp only [Act.put, List.setIfInBounds_toArray, List.set_cons_zero, List.set_cons_succ, List.getElem_toArray, List.getElem_cons_zero, List.getElem_cons_succ]
  refine AnyBut.gone (i := 3) (by kernel_rfl) rfl (by rfl) (fun K hK => ?_)
  go_simp
  (with_reducible refine (kRG.out _).mono ?_)
  rintro e w6 ⟨rfl, hb6'⟩
  dsimp only
  have hb6 := hb5.trans (hb6'.mono hb5.size)
  have hS : (fun w' : World => w'.rangeAt w.heap.size 0 (vbs G) ∧ w'.rangeAt x 0 (vbs Y) ∧ w'.rangeAt y 0 (vbs Y)) w6 := HS.out _ hb6
  refine hK _ _ (fun _ => hS) ?_
  clear hK K
  try simp only [Act.put, List.setIfInBounds_toArray, List.set_cons_zero, List.set_cons_succ, List.getElem_toArray, List.getElem_cons_zero, List.getElem_cons_succ]
  refine AnyBut.take (i := 4) (v := ?_) rfl (by kernel_rfl) (by kernel_rfl) (by kernel_rfl) (by kernel_rfl) (fun _ _ _ h => h) (Or.inl ⟨by rfl, ?_⟩) hS ?_
  rotate_left
  · (intro wq hq; go_simp; try with_reducible rfl)
  try simp only [Act.put, List.setIfInBounds_toArray, List.set_cons_zero, List.set_cons_succ, List.getElem_toArray, List.getElem_cons_zero, List.getElem_cons_succ]
  refine AnyBut.take (i := 5) (v := ?_) rfl (by kernel_rfl) (by kernel_rfl) (by kernel_rfl) (by kernel_rfl) (fun _ _ _ h => h) (Or.inl ⟨by rfl, ?_⟩) hS ?_
  rotate_left
  · (intro wq hq; go_simp; try with_reducible rfl)
  try simp only [Act.put, List.setIfInBounds_toArray, List.set_cons_zero, List.set_cons_succ, List.getElem_toArray, List.getElem_cons_zero, List.getElem_cons_succ]
  refine AnyBut.take (i := 6) (v := .agg (vbs Y).toArray) rfl (by kernel_rfl) (by kernel_rfl) (by kernel_rfl) (by kernel_rfl) (fun _ _ _ h => h) ?_ hS ?_
  · exact yieldsIf_load_mid (by rfl) 25 (.tmp 5) rfl (x) 0 rfl (vbs Y) _ (fun _ h => h.2.1) Tryd.underlying25 rfl i2
  try simp only [Act.put, List.setIfInBounds_toArray, List.set_cons_zero, List.set_cons_succ, List.getElem_toArray, List.getElem_cons_zero, List.getElem_cons_succ]
  refine AnyBut.take (i := 7) (v := .agg (vbs Y).toArray) rfl (by kernel_rfl) (by kernel_rfl) (by kernel_rfl) (by kernel_rfl) (fun _ _ _ h => h) ?_ hS ?_
  · exact yieldsIf_load_mid (by rfl) 25 (.tmp 7) rfl (y) 0 rfl (vbs Y) _ (fun _ h => h.2.2) Tryd.underlying25 rfl i2
  try simp only [Act.put, List.setIfInBounds_toArray, List.set_cons_zero, List.set_cons_succ, List.getElem_toArray, List.getElem_cons_zero, List.getElem_cons_succ]
  refine AnyBut.take (i := 8) (v := ?_) rfl (by kernel_rfl) (by kernel_rfl) (by kernel_rfl) (by kernel_rfl) (fun _ _ _ h => h) (Or.inl ⟨by rfl, ?_⟩) hS ?_
  rotate_left
  · (intro wq hq; go_simp; try with_reducible rfl)
  try simp only [Act.put, List.setIfInBounds_toArray, List.set_cons_zero, List.set_cons_succ, List.getElem_toArray, List.getElem_cons_zero, List.getElem_cons_succ]
  refine AnyBut.take (i := 9) (v := ?_) rfl (by kernel_rfl) (by kernel_rfl) (by kernel_rfl) (by kernel_rfl) (fun _ _ _ h => h) (Or.inl ⟨by rfl, ?_⟩) hS ?_
  rotate_left
  · (intro wq hq; go_simp; try with_reducible rfl)
  try simp only [Act.put, List.setIfInBounds_toArray, List.set_cons_zero, List.set_cons_succ, List.getElem_toArray, List.getElem_cons_zero, List.getElem_cons_succ]
  refine AnyBut.take (i := 10) (v := ?_) rfl (by kernel_rfl) (by kernel_rfl) (by kernel_rfl) (by kernel_rfl) (fun _ _ _ h => h) (Or.inl ⟨by rfl, ?_⟩) hS ?_
  rotate_left
  · (intro wq hq; go_simp; try with_reducible rfl)
  try simp only [Act.put, List.setIfInBounds_toArray, List.set_cons_zero, List.set_cons_succ, List.getElem_toArray, List.getElem_cons_zero, List.getElem_cons_succ]
  refine AnyBut.take (i := 11) (v := ?_) rfl (by kernel_rfl) (by kernel_rfl) (by kernel_rfl) (by kernel_rfl) (fun _ _ _ h => h) (Or.inl ⟨by rfl, ?_⟩) hS ?_
  rotate_left
  · (intro wq hq; go_simp; try with_reducible rfl)
  try simp only [Act.put, List.setIfInBounds_toArray, List.set_cons_zero, List.set_cons_succ, List.getElem_toArray, List.getElem_cons_zero, List.getElem_cons_succ]
  refine AnyBut.take (i := 12) (v := ?_) rfl (by kernel_rfl) (by kernel_rfl) (by kernel_rfl) (by kernel_rfl) (fun _ _ _ h => h) (Or.inl ⟨by rfl, ?_⟩) hS ?_
  rotate_left
  · (intro wq hq; go_simp; try with_reducible rfl)
  try simp only [Act.put, List.setIfInBounds_toArray, List.set_cons_zero, List.set_cons_succ, List.getElem_toArray, List.getElem_cons_zero, List.getElem_cons_succ]
  refine AnyBut.take (i := 13) (v := ?_) rfl (by kernel_rfl) (by kernel_rfl) (by kernel_rfl) (by kernel_rfl) (fun _ _ _ h => h) (Or.inl ⟨by rfl, ?_⟩) hS ?_
  rotate_left
  · (intro wq hq; go_simp; try with_reducible rfl)
  try simp only [Act.put, List.setIfInBounds_toArray, List.set_cons_zero, List.set_cons_succ, List.getElem_toArray, List.getElem_cons_zero, List.getElem_cons_succ]
  refine AnyBut.take (i := 14) (v := ?_) rfl (by kernel_rfl) (by kernel_rfl) (by kernel_rfl) (by kernel_rfl) (fun _ _ _ h => h) (Or.inl ⟨by rfl, ?_⟩) hS ?_
  rotate_left
  · (intro wq hq; go_simp; try with_reducible rfl)
  try simp only [Act.put, List.setIfInBounds_toArray, List.set_cons_zero, List.set_cons_succ, List.getElem_toArray, List.getElem_cons_zero, List.getElem_cons_succ]
  refine AnyBut.take (i := 15) (v := ?_) rfl (by kernel_rfl) (by kernel_rfl) (by kernel_rfl) (by kernel_rfl) (fun _ _ _ h => h) (Or.inl ⟨by rfl, ?_⟩) hS ?_
  rotate_left
  · (intro wq hq; go_simp; try with_reducible rfl)
  try simp only [Act.put, List.setIfInBounds_toArray, List.set_cons_zero, List.set_cons_succ, List.getElem_toArray, List.getElem_cons_zero, List.getElem_cons_succ]
  refine AnyBut.gone (i := 16) (by kernel_rfl) rfl (by rfl) (fun K hK => ?_)
  go_simp
  (with_reducible refine (kA.out _ (HBW.out.trans (hb6.mono HBW.out.size))).mono ?_)
  rintro e w8 ⟨rfl, hb8'⟩
  dsimp only
  have hb8 := hb6.trans (hb8'.mono hb6.size)
  have hS : (fun w' : World => w'.rangeAt w.heap.size 0 (vbs G) ∧ w'.rangeAt x 0 (vbs Y) ∧ w'.rangeAt y 0 (vbs Y)) w8 := HS.out _ hb8
  refine hK _ _ (fun _ => hS) ?_
  clear hK K
  try simp only [Act.put, List.setIfInBounds_toArray, List.set_cons_zero, List.set_cons_succ, List.getElem_toArray, List.getElem_cons_zero, List.getElem_cons_succ]
  refine AnyBut.take (i := 17) (v := ?_) rfl (by kernel_rfl) (by kernel_rfl) (by kernel_rfl) (by kernel_rfl) (fun _ _ _ h => h) (Or.inl ⟨by rfl, ?_⟩) hS ?_
  rotate_left
  · (intro wq hq; go_simp; try with_reducible rfl)
  try simp only [Act.put, List.setIfInBounds_toArray, List.set_cons_zero, List.set_cons_succ, List.getElem_toArray, List.getElem_cons_zero, List.getElem_cons_succ]
  refine AnyBut.gone (i := 18) (by kernel_rfl) rfl (by rfl) (fun K hK => ?_)
  go_simp
  refine hK _ _ (fun h => absurd rfl h) ?_
  clear hK K
  refine AnyBut.done (by kernel_rfl) ?_ _
  dsimp only [Exit.then]
  go_wp2_with fail
  go_ret
  exact ⟨rfl, HBW.out.trans (hb8.mono HBW.out.size)⟩
end Go.Proofs.YtjbjkddgefiicaaDoor
