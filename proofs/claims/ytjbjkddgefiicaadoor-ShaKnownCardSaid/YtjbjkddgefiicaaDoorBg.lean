/- The law ShaKnown returns true, in a world whose two tables are as laid. -/
import Derived.Test.YtjbjkddgefiicaaDoorBc
import Derived.Test.YtjbjkddgefiicaaDoorX
import Derived.Test.YtjbjkddgefiicaaDoorZ
import Derived.Lib.SlBytesConst
namespace Go.Proofs.YtjbjkddgefiicaaDoor
open Go.RowKit
set_option linter.unusedVariables false
set_option linter.unusedSimpArgs false
theorem abc_new (w : World) (m : Nat × Nat) : Rd (w.alloc (Obj.cells #[.int .u8 97, .int .u8 98, .int .u8 99] 5 m)) (w.alloc (Obj.cells #[.int .u8 97, .int .u8 98, .int .u8 99] 5 m)).heap.size (some ⟨w.heap.size, 0, none⟩) [97, 98, 99] := fun _ =>
  ⟨w.heap.size, 0, rfl, by simp, fun j hj => cell_new rfl (by
    have : j = 0 ∨ j = 1 ∨ j = 2 := by simp at hj; omega
    rcases this with rfl | rfl | rfl <;> rfl)⟩
theorem laid_next {w w1 : World} {B hb : Nat} {H Y : List (BitVec 8)} (hB : Below B w w1) (hs : B ≤ w1.heap.size) (hh : Blk w1 hb 25 (vbs H)) (hY : Y.length = 32) :
    Below B w ((w1.alloc (Obj.cells (vbs Z32).toArray 25)).setCells w1.heap.size 0 (vbs Y)) ∧ Blk ((w1.alloc (Obj.cells (vbs Z32).toArray 25)).setCells w1.heap.size 0 (vbs Y)) hb 25 (vbs H) ∧ w1.heap.size < ((w1.alloc (Obj.cells (vbs Z32).toArray 25)).setCells w1.heap.size 0 (vbs Y)).heap.size :=
  ⟨Below.laid hB hs _, Blk.other_setCells (by have := hh.lt; omega) _ _ _ (hh.alloc _), (Blk.laid w1 hY).lt⟩
set_option maxRecDepth 100000 in
set_option maxHeartbeats 8000000 in
theorem known_gen (w : World) (H : List (BitVec 8)) (tN : ByteArray) (hH : H.length = 32)
    (eN : (tN.toList == [101, 51, 98, 48, 99, 52, 52, 50, 57, 56, 102, 99, 49, 99, 49, 52, 57, 97, 102, 98, 102, 52, 99, 56, 57, 57, 54, 102, 98, 57, 50, 52, 50, 55, 97, 101, 52, 49, 101, 52, 54, 52, 57, 98, 57, 51, 52, 99, 97, 52, 57, 53, 57, 57, 49, 98, 55, 56, 53, 50, 98, 56, 53, 53]) = true)
    (hA : ∀ w', Below w.heap.size w w' → Calls Tryd.prog 11 #[] w' fun e w'' => e = .returned (.bool true) ∧ Below w'.heap.size w' w'')
    (hN : ∀ w', Below w.heap.size w w' → Calls Tryd.prog 23 #[.string { data := #[] }] w' fun e w'' => e = .returned (.string tN) ∧ Below w'.heap.size w' w'')
    (hS : ∀ (b : Nat) w', Below w.heap.size w w' → Rd w' w'.heap.size (some ⟨b, 0, none⟩) [97, 98, 99] → Calls Tryd.prog 12 #[.slice (some ⟨b, 0, none⟩) 3 3] w' fun e w'' => e = .returned (.agg (vbs H).toArray) ∧ Below w'.heap.size w' w'')
    (hM : ∀ v w', Calls Tryd.prog 17 #[.agg #[.int .u32 0, .int .u32 0, .int .u32 0, .int .u32 0, .int .u32 0, .int .u32 0, .int .u32 0, .int .u32 0, .bool false], v] w' fun e w'' => e = .returned (.agg (vbs Z32).toArray) ∧ Below w'.heap.size w' w'')
    (ha : ∀ w', Calls Tryd.prog 18 #[.string { data := #[98, 97, 55, 56, 49, 54, 98, 102, 56, 102, 48, 49, 99, 102, 101, 97, 52, 49, 52, 49, 52, 48, 100, 101, 53, 100, 97, 101, 50, 50, 50, 51, 98, 48, 48, 51, 54, 49, 97, 51, 57, 54, 49, 55, 55, 97, 57, 99, 98, 52, 49, 48, 102, 102, 54, 49, 102, 50, 48, 48, 49, 53, 97, 100] }] w' fun e w'' => e = .returned (.tuple #[.agg (vbs H).toArray, .bool true]) ∧ Below w'.heap.size w' w'')
    (hb : ∀ w', Calls Tryd.prog 18 #[.string { data := #[55, 56, 49, 54, 98, 102, 56, 102, 48, 49, 99, 102, 101, 97, 52, 49, 52, 49, 52, 48, 100, 101, 53, 100, 97, 101, 50, 50, 50, 51, 98, 48, 48, 51, 54, 49, 97, 51, 57, 54, 49, 55, 55, 97, 57, 99, 98, 52, 49, 48, 102, 102, 54, 49, 102, 50, 48, 48, 49, 53, 97, 100] }] w' fun e w'' => e = .returned (.tuple #[.agg (vbs Z32).toArray, .bool false]) ∧ Below w'.heap.size w' w'')
    (hc : ∀ w', Calls Tryd.prog 18 #[.string ({ data := #[103] } ++ { data := #[97, 55, 56, 49, 54, 98, 102, 56, 102, 48, 49, 99, 102, 101, 97, 52, 49, 52, 49, 52, 48, 100, 101, 53, 100, 97, 101, 50, 50, 50, 51, 98, 48, 48, 51, 54, 49, 97, 51, 57, 54, 49, 55, 55, 97, 57, 99, 98, 52, 49, 48, 102, 102, 54, 49, 102, 50, 48, 48, 49, 53, 97, 100] })] w' fun e w'' => e = .returned (.tuple #[.agg (vbs Z32).toArray, .bool false]) ∧ Below w'.heap.size w' w'')
    (hd : ∀ w', Calls Tryd.prog 18 #[.string ({ data := #[66] } ++ { data := #[97, 55, 56, 49, 54, 98, 102, 56, 102, 48, 49, 99, 102, 101, 97, 52, 49, 52, 49, 52, 48, 100, 101, 53, 100, 97, 101, 50, 50, 50, 51, 98, 48, 48, 51, 54, 49, 97, 51, 57, 54, 49, 55, 55, 97, 57, 99, 98, 52, 49, 48, 102, 102, 54, 49, 102, 50, 48, 48, 49, 53, 97, 100] })] w' fun e w'' => e = .returned (.tuple #[.agg (vbs Z32).toArray, .bool false]) ∧ Below w'.heap.size w' w'')
    (hf : ∀ w', Calls Tryd.prog 18 #[.string { data := (List.append [98, 97, 55, 56, 49, 54, 98, 102, 56, 102, 48, 49, 99, 102, 101, 97, 52, 49, 52, 49, 52, 48, 100, 101, 53, 100, 97, 101, 50, 50, 50, 51, 98] [48, 48, 51, 54, 49, 97, 51, 57, 54, 49, 55, 55, 97, 57, 99, 98, 52, 49, 48, 102, 102, 54, 49, 102, 50, 48, 48, 49, 53, 97, 100, 48, 48]).toArray }] w' fun e w'' => e = .returned (.tuple #[.agg (vbs Z32).toArray, .bool false]) ∧ Below w'.heap.size w' w'')
    (hg : ∀ w', Calls Tryd.prog 18 #[.string { data := #[] }] w' fun e w'' => e = .returned (.tuple #[.agg (vbs Z32).toArray, .bool false]) ∧ Below w'.heap.size w' w'') :
    Calls Tryd.prog 7 #[] w fun e w' => e = .returned (.bool true) ∧ Below w.heap.size w w' := by
  have hz : ∀ w, (zeroValue 25).run Tryd.prog w = .ok (.agg (vbs Z32).toArray) w := fun _ => by kernel_rfl
  have hz3 : ∀ w, (zeroValue 33).run Tryd.prog w = .ok (.agg #[.int .u32 0, .int .u32 0, .int .u32 0, .int .u32 0, .int .u32 0, .int .u32 0, .int .u32 0, .int .u32 0, .bool false]) w := fun _ => by kernel_rfl
  have s2 : ∀ wq, (Instr.sliceAt 9 (.string { data := #[98, 97, 55, 56, 49, 54, 98, 102, 56, 102, 48, 49, 99, 102, 101, 97, 52, 49, 52, 49, 52, 48, 100, 101, 53, 100, 97, 101, 50, 50, 50, 51, 98, 48, 48, 51, 54, 49, 97, 51, 57, 54, 49, 55, 55, 97, 57, 99, 98, 52, 49, 48, 102, 102, 54, 49, 102, 50, 48, 48, 49, 53, 97, 100] }) (some (.int .i64 2)) none none).run Tryd.prog wq = .ok (.string { data := #[55, 56, 49, 54, 98, 102, 56, 102, 48, 49, 99, 102, 101, 97, 52, 49, 52, 49, 52, 48, 100, 101, 53, 100, 97, 101, 50, 50, 50, 51, 98, 48, 48, 51, 54, 49, 97, 51, 57, 54, 49, 55, 55, 97, 57, 99, 98, 52, 49, 48, 102, 102, 54, 49, 102, 50, 48, 48, 49, 53, 97, 100] }) wq := fun _ => by kernel_rfl
  have s1 : ∀ wq, (Instr.sliceAt 9 (.string { data := #[98, 97, 55, 56, 49, 54, 98, 102, 56, 102, 48, 49, 99, 102, 101, 97, 52, 49, 52, 49, 52, 48, 100, 101, 53, 100, 97, 101, 50, 50, 50, 51, 98, 48, 48, 51, 54, 49, 97, 51, 57, 54, 49, 55, 55, 97, 57, 99, 98, 52, 49, 48, 102, 102, 54, 49, 102, 50, 48, 48, 49, 53, 97, 100] }) (some (.int .i64 1)) none none).run Tryd.prog wq = .ok (.string { data := #[97, 55, 56, 49, 54, 98, 102, 56, 102, 48, 49, 99, 102, 101, 97, 52, 49, 52, 49, 52, 48, 100, 101, 53, 100, 97, 101, 50, 50, 50, 51, 98, 48, 48, 51, 54, 49, 97, 51, 57, 54, 49, 55, 55, 97, 57, 99, 98, 52, 49, 48, 102, 102, 54, 49, 102, 50, 48, 48, 49, 53, 97, 100] }) wq := fun _ => by kernel_rfl
  have kA := Lib.hid hA
  have kM := Lib.hid hM
  have kN := Lib.hid hN
  have kS := Lib.hid hS
  have ka := Lib.hid ha
  have kb := Lib.hid hb
  have kc := Lib.hid hc
  have kd := Lib.hid hd
  have kf := Lib.hid hf
  have kg := Lib.hid hg
  have IH := Lib.hid (i25v hH)
  have HH := Lib.hid hH
  clear hA hM hN hS ha hb hc hd hf hg hH
  go_enter Tryd.func7, Tryd.ntmps7
  go_upto_region 2 with (first | (go_at_call 18; (with_reducible refine (ka.out _).mono ?_); rintro e w1 ⟨rfl, hb1⟩; dsimp only) | (with_reducible refine wpList_store_mid rfl 25 (.tmp 1) (.tmp 16) rfl w1.heap.size 0 (vbs H).toArray rfl rfl (there_new25 w1 HH.out) (i25v HH.out) (all_oneCell_toArray (vbs_one _)) ?_))
  have hB : Below w.heap.size w ((w1.alloc (Obj.cells (vbs Z32).toArray 25)).setCells w1.heap.size 0 (vbs H)) := Below.laid hb1 hb1.size _
  have hK : Blk ((w1.alloc (Obj.cells (vbs Z32).toArray 25)).setCells w1.heap.size 0 (vbs H)) w1.heap.size 25 (vbs H) := Blk.laid w1 HH.out
  generalize (w1.alloc (Obj.cells (vbs Z32).toArray 25)).setCells w1.heap.size 0 (vbs H) = W1 at hB hK ⊢
  generalize w1.heap.size = x at hK ⊢
  clear hb1
  go_upto_region 3 with (first | (go_at_call 18; (with_reducible refine (kb.out _).mono ?_); rintro e w2 ⟨rfl, hb2⟩; dsimp only) | (with_reducible refine wpList_store_mid rfl 25 (.tmp 3) (.tmp 21) rfl w2.heap.size 0 (vbs Z32).toArray rfl rfl (there_new25 w2 Z32_len) (i25v Z32_len) (all_oneCell_toArray (vbs_one _)) ?_))
  have hq2 := laid_next (Y := Z32) (hB.trans (hb2.mono hB.size)) (Nat.le_trans hB.size hb2.size) (hK.below hb2 hK.lt) Z32_len
  clear hB hK hb2
  obtain ⟨hB, hK, _⟩ := hq2
  generalize (w2.alloc (Obj.cells (vbs Z32).toArray 25)).setCells w2.heap.size 0 (vbs Z32) = W2 at hB hK ⊢
  go_upto_region 4 with (first | (go_at_call 18; (with_reducible refine (kc.out _).mono ?_); rintro e w3 ⟨rfl, hb3⟩; dsimp only) | (with_reducible refine wpList_store_mid rfl 25 (.tmp 5) (.tmp 27) rfl w3.heap.size 0 (vbs Z32).toArray rfl rfl (there_new25 w3 Z32_len) (i25v Z32_len) (all_oneCell_toArray (vbs_one _)) ?_))
  have hq3 := laid_next (Y := Z32) (hB.trans (hb3.mono hB.size)) (Nat.le_trans hB.size hb3.size) (hK.below hb3 hK.lt) Z32_len
  clear hB hK hb3
  obtain ⟨hB, hK, _⟩ := hq3
  generalize (w3.alloc (Obj.cells (vbs Z32).toArray 25)).setCells w3.heap.size 0 (vbs Z32) = W3 at hB hK ⊢
  go_upto_region 5 with (first | (go_at_call 18; (with_reducible refine (kd.out _).mono ?_); rintro e w4 ⟨rfl, hb4⟩; dsimp only) | (with_reducible refine wpList_store_mid rfl 25 (.tmp 7) (.tmp 33) rfl w4.heap.size 0 (vbs Z32).toArray rfl rfl (there_new25 w4 Z32_len) (i25v Z32_len) (all_oneCell_toArray (vbs_one _)) ?_))
  have hq4 := laid_next (Y := Z32) (hB.trans (hb4.mono hB.size)) (Nat.le_trans hB.size hb4.size) (hK.below hb4 hK.lt) Z32_len
  clear hB hK hb4
  obtain ⟨hB, hK, _⟩ := hq4
  generalize (w4.alloc (Obj.cells (vbs Z32).toArray 25)).setCells w4.heap.size 0 (vbs Z32) = W4 at hB hK ⊢
  go_upto_region 6 with (first | (go_at_call 18; (refine (kf.out _).mono ?_); rintro e w5 ⟨rfl, hb5⟩; dsimp only) | (with_reducible refine wpList_store_mid rfl 25 (.tmp 9) (.tmp 37) rfl w5.heap.size 0 (vbs Z32).toArray rfl rfl (there_new25 w5 Z32_len) (i25v Z32_len) (all_oneCell_toArray (vbs_one _)) ?_))
  have hq5 := laid_next (Y := Z32) (hB.trans (hb5.mono hB.size)) (Nat.le_trans hB.size hb5.size) (hK.below hb5 hK.lt) Z32_len
  clear hB hK hb5
  obtain ⟨hB, hK, _⟩ := hq5
  generalize (w5.alloc (Obj.cells (vbs Z32).toArray 25)).setCells w5.heap.size 0 (vbs Z32) = W5 at hB hK ⊢
  go_upto_region 7 with (first | (go_at_call 18; (with_reducible refine (kg.out _).mono ?_); rintro e w6 ⟨rfl, hb6⟩; dsimp only) | (with_reducible refine wpList_store_mid rfl 25 (.tmp 11) (.tmp 41) rfl w6.heap.size 0 (vbs Z32).toArray rfl rfl (there_new25 w6 Z32_len) (i25v Z32_len) (all_oneCell_toArray (vbs_one _)) ?_))
  have hq6 := laid_next (Y := Z32) (hB.trans (hb6.mono hB.size)) (Nat.le_trans hB.size hb6.size) (hK.below hb6 hK.lt) Z32_len
  clear hB hK hb6
  obtain ⟨hB, hK, _⟩ := hq6
  generalize (w6.alloc (Obj.cells (vbs Z32).toArray 25)).setCells w6.heap.size 0 (vbs Z32) = W6 at hB hK ⊢
  go_upto_region 8 with fail
  have hM0 : Blk (W6.alloc (Obj.cells #[.int .u32 0, .int .u32 0, .int .u32 0, .int .u32 0, .int .u32 0, .int .u32 0, .int .u32 0, .int .u32 0, .bool false] 33)) W6.heap.size 33 [Value.int .u32 0, Value.int .u32 0, Value.int .u32 0, Value.int .u32 0, Value.int .u32 0, Value.int .u32 0, Value.int .u32 0, Value.int .u32 0, Value.bool false] := Blk.new W6 33 #[.int .u32 0, .int .u32 0, .int .u32 0, .int .u32 0, .int .u32 0, .int .u32 0, .int .u32 0, .int .u32 0, .bool false]
  have hB7 := hB.alloc hB.size (Obj.cells #[.int .u32 0, .int .u32 0, .int .u32 0, .int .u32 0, .int .u32 0, .int .u32 0, .int .u32 0, .int .u32 0, .bool false] 33)
  have hK7 := hK.alloc (Obj.cells #[.int .u32 0, .int .u32 0, .int .u32 0, .int .u32 0, .int .u32 0, .int .u32 0, .int .u32 0, .int .u32 0, .bool false] 33)
  generalize W6.alloc (Obj.cells #[.int .u32 0, .int .u32 0, .int .u32 0, .int .u32 0, .int .u32 0, .int .u32 0, .int .u32 0, .int .u32 0, .bool false] 33) = W at hM0 hB7 hK7 ⊢
  generalize W6.heap.size = mb at hM0 ⊢
  have HBW := Lib.hid (show Below w.heap.size w W.drew from hB7.drew)
  have HS : Hid (∀ w', Below W.drew.heap.size W.drew w' → w'.rangeAt x 0 (vbs H) ∧ w'.rangeAt mb 0 [Value.int .u32 0, Value.int .u32 0, Value.int .u32 0, Value.int .u32 0, Value.int .u32 0, Value.int .u32 0, Value.int .u32 0, Value.int .u32 0, Value.bool false]) := fun w' hb =>
    ⟨(Blk.below (w := W.drew) hK7 hb hK7.lt).range, (Blk.below (w := W.drew) hM0 hb hM0.lt).range⟩
  have i1 : (Tryd.prog.info? 25).map (·.size) = some (vbs H).length := i25 (by rw [vbs_len]; exact HH.out)
  have i3 : (Tryd.prog.info? 33).map (·.size) = some ([Value.int .u32 0, Value.int .u32 0, Value.int .u32 0, Value.int .u32 0, Value.int .u32 0, Value.int .u32 0, Value.int .u32 0, Value.int .u32 0, Value.bool false] : List Value).length := by kernel_rfl
  have eS := fun wq => eql_same H HH.out wq
  have kcv := fun (w : World) (C : Array Value) (n c : Nat) => Lib.run_convert_bytes_const (P := Tryd.prog) w 22 5 C n c Tryd.underlying22 Tryd.underlying5
  dsimp only at eN
  have eZ := fun wq => eql_same Z32 Z32_len wq
  clear hB hK hM0 hB7 hK7 hz3 ka kb kc kd kf kg
  refine wp_calm_any ?_
  refine wp_region_but (z := 43) (fun w' : World => w'.rangeAt x 0 (vbs H) ∧ w'.rangeAt mb 0 [Value.int .u32 0, Value.int .u32 0, Value.int .u32 0, Value.int .u32 0, Value.int .u32 0, Value.int .u32 0, Value.int .u32 0, Value.int .u32 0, Value.bool false]) (by kernel_rfl) ?_
  have hS : (fun w' : World => w'.rangeAt x 0 (vbs H) ∧ w'.rangeAt mb 0 [Value.int .u32 0, Value.int .u32 0, Value.int .u32 0, Value.int .u32 0, Value.int .u32 0, Value.int .u32 0, Value.int .u32 0, Value.int .u32 0, Value.bool false]) W.drew := HS.out _ (Below.refl _ _)
  refine AnyBut.gone (i := 0) (by kernel_rfl) rfl (by rfl) (fun K hK => ?_)
  go_simp
  (with_reducible refine (kA.out _ HBW.out).mono ?_)
  rintro e w10 ⟨rfl, hb10⟩
  dsimp only
  have hS : (fun w' : World => w'.rangeAt x 0 (vbs H) ∧ w'.rangeAt mb 0 [Value.int .u32 0, Value.int .u32 0, Value.int .u32 0, Value.int .u32 0, Value.int .u32 0, Value.int .u32 0, Value.int .u32 0, Value.int .u32 0, Value.bool false]) w10 := HS.out _ hb10
  refine hK _ _ (fun _ => hS) ?_
  clear hK K
  try simp only [Act.put, List.setIfInBounds_toArray, List.set_cons_zero, List.set_cons_succ, List.getElem_toArray, List.getElem_cons_zero, List.getElem_cons_succ]
  refine AnyBut.take (i := 1) (v := ?_) rfl (by kernel_rfl) (by kernel_rfl) (by kernel_rfl) (by kernel_rfl) (fun _ _ _ h => h) (Or.inl ⟨by rfl, ?_⟩) hS ?_
  rotate_left
  · (intro wq hq; go_simp; try with_reducible rfl)
  try simp only [Act.put, List.setIfInBounds_toArray, List.set_cons_zero, List.set_cons_succ, List.getElem_toArray, List.getElem_cons_zero, List.getElem_cons_succ]
  refine AnyBut.gone (i := 2) (by kernel_rfl) rfl (by rfl) (fun K hK => ?_)
  go_simp
  (with_reducible refine (kN.out _ (HBW.out.trans (hb10.mono HBW.out.size))).mono ?_)
  rintro e w11 ⟨rfl, hb11'⟩
  dsimp only
  have hb11 := hb10.trans (hb11'.mono hb10.size)
  have hS : (fun w' : World => w'.rangeAt x 0 (vbs H) ∧ w'.rangeAt mb 0 [Value.int .u32 0, Value.int .u32 0, Value.int .u32 0, Value.int .u32 0, Value.int .u32 0, Value.int .u32 0, Value.int .u32 0, Value.int .u32 0, Value.bool false]) w11 := HS.out _ hb11
  refine hK _ _ (fun _ => hS) ?_
  clear hK K
  try simp only [Act.put, List.setIfInBounds_toArray, List.set_cons_zero, List.set_cons_succ, List.getElem_toArray, List.getElem_cons_zero, List.getElem_cons_succ]
  refine AnyBut.take (i := 3) (v := ?_) rfl (by kernel_rfl) (by kernel_rfl) (by kernel_rfl) (by kernel_rfl) (fun _ _ _ h => h) (Or.inl ⟨by rfl, ?_⟩) hS ?_
  rotate_left
  · (intro wq hq; go_simp; try with_reducible rfl)
  try simp only [Act.put, List.setIfInBounds_toArray, List.set_cons_zero, List.set_cons_succ, List.getElem_toArray, List.getElem_cons_zero, List.getElem_cons_succ]
  refine AnyBut.take (i := 4) (v := ?_) rfl (by kernel_rfl) (by kernel_rfl) (by kernel_rfl) (by kernel_rfl) (fun _ _ _ h => h) (Or.inl ⟨by rfl, ?_⟩) hS ?_
  rotate_left
  · (intro wq hq; go_simp; try with_reducible rfl)
  try simp only [Act.put, List.setIfInBounds_toArray, List.set_cons_zero, List.set_cons_succ, List.getElem_toArray, List.getElem_cons_zero, List.getElem_cons_succ]
  refine AnyBut.take (i := 5) (v := ?_) rfl (by kernel_rfl) (by kernel_rfl) (by kernel_rfl) (by kernel_rfl) (fun _ _ _ h => h) (Or.inl ⟨by rfl, ?_⟩) hS ?_
  rotate_left
  · (intro wq hq; go_simp; try with_reducible rfl)
  try simp only [Act.put, List.setIfInBounds_toArray, List.set_cons_zero, List.set_cons_succ, List.getElem_toArray, List.getElem_cons_zero, List.getElem_cons_succ]
  refine AnyBut.take (i := 6) (v := ?_) rfl (by kernel_rfl) (by kernel_rfl) (by kernel_rfl) (by kernel_rfl) (fun _ _ _ h => h) (Or.inl ⟨by rfl, ?_⟩) hS ?_
  rotate_left
  · (intro wq hq; go_simp; try with_reducible rfl)
  try simp only [Act.put, List.setIfInBounds_toArray, List.set_cons_zero, List.set_cons_succ, List.getElem_toArray, List.getElem_cons_zero, List.getElem_cons_succ]
  refine AnyBut.take (i := 7) (v := ?_) rfl (by kernel_rfl) (by kernel_rfl) (by kernel_rfl) (by kernel_rfl) (fun _ _ _ h => h) (Or.inl ⟨by rfl, ?_⟩) hS ?_
  rotate_left
  · (intro wq hq; go_simp; try with_reducible rfl)
  try simp only [Act.put, List.setIfInBounds_toArray, List.set_cons_zero, List.set_cons_succ, List.getElem_toArray, List.getElem_cons_zero, List.getElem_cons_succ]
  refine AnyBut.take (i := 8) (v := ?_) rfl (by kernel_rfl) (by kernel_rfl) (by kernel_rfl) (by kernel_rfl) (fun _ _ _ h => h) (Or.inl ⟨by rfl, ?_⟩) hS ?_
  rotate_left
  · (intro wq hq; go_simp; try with_reducible rfl)
  try simp only [Act.put, List.setIfInBounds_toArray, List.set_cons_zero, List.set_cons_succ, List.getElem_toArray, List.getElem_cons_zero, List.getElem_cons_succ]
  refine AnyBut.take (i := 9) (v := .agg (vbs H).toArray) rfl (by kernel_rfl) (by kernel_rfl) (by kernel_rfl) (by kernel_rfl) (fun _ _ _ h => h) ?_ hS ?_
  · exact yieldsIf_load_mid (by rfl) 25 (.tmp 1) rfl (x) 0 rfl (vbs H) _ (fun _ h => h.1) Tryd.underlying25 rfl i1
  try simp only [Act.put, List.setIfInBounds_toArray, List.set_cons_zero, List.set_cons_succ, List.getElem_toArray, List.getElem_cons_zero, List.getElem_cons_succ]
  refine AnyBut.gone (i := 10) (by kernel_rfl) rfl (by rfl) (fun K hK => ?_)
  go_simp
  have hS : (fun w' : World => w'.rangeAt x 0 (vbs H) ∧ w'.rangeAt mb 0 [Value.int .u32 0, Value.int .u32 0, Value.int .u32 0, Value.int .u32 0, Value.int .u32 0, Value.int .u32 0, Value.int .u32 0, Value.int .u32 0, Value.bool false]) (w11.alloc (Obj.cells #[.int .u8 97, .int .u8 98, .int .u8 99] 5)) := HS.out _ (hb11.alloc hb11.size (Obj.cells #[.int .u8 97, .int .u8 98, .int .u8 99] 5))
  refine hK _ _ (fun _ => hS) ?_
  clear hK K
  try simp only [Act.put, List.setIfInBounds_toArray, List.set_cons_zero, List.set_cons_succ, List.getElem_toArray, List.getElem_cons_zero, List.getElem_cons_succ]
  refine AnyBut.gone (i := 11) (by kernel_rfl) rfl (by rfl) (fun K hK => ?_)
  go_simp
  have hr10 : ∀ m, Rd (w11.alloc (Obj.cells #[.int .u8 97, .int .u8 98, .int .u8 99] 5 m)) (w11.alloc (Obj.cells #[.int .u8 97, .int .u8 98, .int .u8 99] 5 m)).heap.size (some ⟨w11.heap.size, 0, none⟩) [97, 98, 99] := abc_new w11
  have hb110 : ∀ m, Below W.drew.heap.size W.drew (w11.alloc (Obj.cells #[.int .u8 97, .int .u8 98, .int .u8 99] 5 m)) := fun m => hb11.alloc hb11.size _
  refine hK _ _ (fun _ => HS.out _ (hb110 _)) ?_
  clear hK K
  try simp only [Act.put, List.setIfInBounds_toArray, List.set_cons_zero, List.set_cons_succ, List.getElem_toArray, List.getElem_cons_zero, List.getElem_cons_succ]
  have hS : (fun w' : World => w'.rangeAt x 0 (vbs H) ∧ w'.rangeAt mb 0 [Value.int .u32 0, Value.int .u32 0, Value.int .u32 0, Value.int .u32 0, Value.int .u32 0, Value.int .u32 0, Value.int .u32 0, Value.int .u32 0, Value.bool false]) (w11.alloc (Obj.cells #[.int .u8 97, .int .u8 98, .int .u8 99] 5 (3, 4))) := HS.out _ (hb110 _)
  have hr10 := hr10 (3, 4)
  have hb12 := hb110 (3, 4)
  generalize w11.alloc (Obj.cells #[.int .u8 97, .int .u8 98, .int .u8 99] 5 (3, 4)) = w12 at hb12 hr10 hS ⊢
  generalize w11.heap.size = ab10 at hr10 ⊢
  refine AnyBut.gone (i := 12) (by kernel_rfl) rfl (by rfl) (fun K hK => ?_)
  go_simp
  (with_reducible refine (kS.out _ _ (HBW.out.trans (hb12.mono HBW.out.size)) hr10).mono ?_)
  rintro e w13 ⟨rfl, hb13'⟩
  dsimp only
  have hb13 := hb12.trans (hb13'.mono hb12.size)
  have hS : (fun w' : World => w'.rangeAt x 0 (vbs H) ∧ w'.rangeAt mb 0 [Value.int .u32 0, Value.int .u32 0, Value.int .u32 0, Value.int .u32 0, Value.int .u32 0, Value.int .u32 0, Value.int .u32 0, Value.int .u32 0, Value.bool false]) w13 := HS.out _ hb13
  refine hK _ _ (fun _ => hS) ?_
  clear hK K
  try simp only [Act.put, List.setIfInBounds_toArray, List.set_cons_zero, List.set_cons_succ, List.getElem_toArray, List.getElem_cons_zero, List.getElem_cons_succ]
  refine AnyBut.take (i := 13) (v := ?_) rfl (by kernel_rfl) (by kernel_rfl) (by kernel_rfl) (by kernel_rfl) (fun _ _ _ h => h) (Or.inl ⟨by rfl, ?_⟩) hS ?_
  rotate_left
  · (intro wq hq; go_simp; try with_reducible rfl)
  try simp only [Act.put, List.setIfInBounds_toArray, List.set_cons_zero, List.set_cons_succ, List.getElem_toArray, List.getElem_cons_zero, List.getElem_cons_succ]
  refine AnyBut.take (i := 14) (v := ?_) rfl (by kernel_rfl) (by kernel_rfl) (by kernel_rfl) (by kernel_rfl) (fun _ _ _ h => h) (Or.inl ⟨by rfl, ?_⟩) hS ?_
  rotate_left
  · (intro wq hq; go_simp; try with_reducible rfl)
  try simp only [Act.put, List.setIfInBounds_toArray, List.set_cons_zero, List.set_cons_succ, List.getElem_toArray, List.getElem_cons_zero, List.getElem_cons_succ]
  refine AnyBut.take (i := 15) (v := ?_) rfl (by kernel_rfl) (by kernel_rfl) (by kernel_rfl) (by kernel_rfl) (fun _ _ _ h => h) (Or.inl ⟨by rfl, ?_⟩) hS ?_
  rotate_left
  · (intro wq hq; go_simp; try with_reducible rfl)
  try simp only [Act.put, List.setIfInBounds_toArray, List.set_cons_zero, List.set_cons_succ, List.getElem_toArray, List.getElem_cons_zero, List.getElem_cons_succ]
  refine AnyBut.take (i := 16) (v := ?_) rfl (by kernel_rfl) (by kernel_rfl) (by kernel_rfl) (by kernel_rfl) (fun _ _ _ h => h) (Or.inl ⟨by rfl, ?_⟩) hS ?_
  rotate_left
  · (intro wq hq; go_simp; try with_reducible rfl)
  try simp only [Act.put, List.setIfInBounds_toArray, List.set_cons_zero, List.set_cons_succ, List.getElem_toArray, List.getElem_cons_zero, List.getElem_cons_succ]
  refine AnyBut.take (i := 17) (v := ?_) rfl (by kernel_rfl) (by kernel_rfl) (by kernel_rfl) (by kernel_rfl) (fun _ _ _ h => h) (Or.inl ⟨by rfl, ?_⟩) hS ?_
  rotate_left
  · (intro wq hq; go_simp; try with_reducible rfl)
  try simp only [Act.put, List.setIfInBounds_toArray, List.set_cons_zero, List.set_cons_succ, List.getElem_toArray, List.getElem_cons_zero, List.getElem_cons_succ]
  refine AnyBut.take (i := 18) (v := ?_) rfl (by kernel_rfl) (by kernel_rfl) (by kernel_rfl) (by kernel_rfl) (fun _ _ _ h => h) (Or.inl ⟨by rfl, ?_⟩) hS ?_
  rotate_left
  · (intro wq hq; go_simp; try with_reducible rfl)
  try simp only [Act.put, List.setIfInBounds_toArray, List.set_cons_zero, List.set_cons_succ, List.getElem_toArray, List.getElem_cons_zero, List.getElem_cons_succ]
  refine AnyBut.take (i := 19) (v := ?_) rfl (by kernel_rfl) (by kernel_rfl) (by kernel_rfl) (by kernel_rfl) (fun _ _ _ h => h) (Or.inl ⟨by rfl, ?_⟩) hS ?_
  rotate_left
  · (intro wq hq; go_simp; try with_reducible rfl)
  try simp only [Act.put, List.setIfInBounds_toArray, List.set_cons_zero, List.set_cons_succ, List.getElem_toArray, List.getElem_cons_zero, List.getElem_cons_succ]
  refine AnyBut.take (i := 20) (v := ?_) rfl (by kernel_rfl) (by kernel_rfl) (by kernel_rfl) (by kernel_rfl) (fun _ _ _ h => h) (Or.inl ⟨by rfl, ?_⟩) hS ?_
  rotate_left
  · (intro wq hq; go_simp; try with_reducible rfl)
  try simp only [Act.put, List.setIfInBounds_toArray, List.set_cons_zero, List.set_cons_succ, List.getElem_toArray, List.getElem_cons_zero, List.getElem_cons_succ]
  refine AnyBut.take (i := 21) (v := ?_) rfl (by kernel_rfl) (by kernel_rfl) (by kernel_rfl) (by kernel_rfl) (fun _ _ _ h => h) (Or.inl ⟨by rfl, ?_⟩) hS ?_
  rotate_left
  · (intro wq hq; go_simp; try with_reducible rfl)
  try simp only [Act.put, List.setIfInBounds_toArray, List.set_cons_zero, List.set_cons_succ, List.getElem_toArray, List.getElem_cons_zero, List.getElem_cons_succ]
  refine AnyBut.take (i := 22) (v := ?_) rfl (by kernel_rfl) (by kernel_rfl) (by kernel_rfl) (by kernel_rfl) (fun _ _ _ h => h) (Or.inl ⟨by rfl, ?_⟩) hS ?_
  rotate_left
  · (intro wq hq; go_simp; try with_reducible rfl)
  try simp only [Act.put, List.setIfInBounds_toArray, List.set_cons_zero, List.set_cons_succ, List.getElem_toArray, List.getElem_cons_zero, List.getElem_cons_succ]
  refine AnyBut.take (i := 23) (v := ?_) rfl (by kernel_rfl) (by kernel_rfl) (by kernel_rfl) (by kernel_rfl) (fun _ _ _ h => h) (Or.inl ⟨by rfl, ?_⟩) hS ?_
  rotate_left
  · (intro wq hq; go_simp; try with_reducible rfl)
  try simp only [Act.put, List.setIfInBounds_toArray, List.set_cons_zero, List.set_cons_succ, List.getElem_toArray, List.getElem_cons_zero, List.getElem_cons_succ]
  refine AnyBut.take (i := 24) (v := ?_) rfl (by kernel_rfl) (by kernel_rfl) (by kernel_rfl) (by kernel_rfl) (fun _ _ _ h => h) (Or.inl ⟨by rfl, ?_⟩) hS ?_
  rotate_left
  · (intro wq hq; go_simp; try with_reducible rfl)
  try simp only [Act.put, List.setIfInBounds_toArray, List.set_cons_zero, List.set_cons_succ, List.getElem_toArray, List.getElem_cons_zero, List.getElem_cons_succ]
  refine AnyBut.take (i := 25) (v := ?_) rfl (by kernel_rfl) (by kernel_rfl) (by kernel_rfl) (by kernel_rfl) (fun _ _ _ h => h) (Or.inl ⟨by rfl, ?_⟩) hS ?_
  rotate_left
  · (intro wq hq; go_simp; try with_reducible rfl)
  try simp only [Act.put, List.setIfInBounds_toArray, List.set_cons_zero, List.set_cons_succ, List.getElem_toArray, List.getElem_cons_zero, List.getElem_cons_succ]
  refine AnyBut.take (i := 26) (v := ?_) rfl (by kernel_rfl) (by kernel_rfl) (by kernel_rfl) (by kernel_rfl) (fun _ _ _ h => h) (Or.inl ⟨by rfl, ?_⟩) hS ?_
  rotate_left
  · (intro wq hq; go_simp; try with_reducible rfl)
  try simp only [Act.put, List.setIfInBounds_toArray, List.set_cons_zero, List.set_cons_succ, List.getElem_toArray, List.getElem_cons_zero, List.getElem_cons_succ]
  refine AnyBut.take (i := 27) (v := ?_) rfl (by kernel_rfl) (by kernel_rfl) (by kernel_rfl) (by kernel_rfl) (fun _ _ _ h => h) (Or.inl ⟨by rfl, ?_⟩) hS ?_
  rotate_left
  · (intro wq hq; go_simp; try with_reducible rfl)
  try simp only [Act.put, List.setIfInBounds_toArray, List.set_cons_zero, List.set_cons_succ, List.getElem_toArray, List.getElem_cons_zero, List.getElem_cons_succ]
  refine AnyBut.take (i := 28) (v := ?_) rfl (by kernel_rfl) (by kernel_rfl) (by kernel_rfl) (by kernel_rfl) (fun _ _ _ h => h) (Or.inl ⟨by rfl, ?_⟩) hS ?_
  rotate_left
  · (intro wq hq; go_simp; try with_reducible rfl)
  try simp only [Act.put, List.setIfInBounds_toArray, List.set_cons_zero, List.set_cons_succ, List.getElem_toArray, List.getElem_cons_zero, List.getElem_cons_succ]
  refine AnyBut.take (i := 29) (v := ?_) rfl (by kernel_rfl) (by kernel_rfl) (by kernel_rfl) (by kernel_rfl) (fun _ _ _ h => h) (Or.inl ⟨by rfl, ?_⟩) hS ?_
  rotate_left
  · (intro wq hq; go_simp; try with_reducible rfl)
  try simp only [Act.put, List.setIfInBounds_toArray, List.set_cons_zero, List.set_cons_succ, List.getElem_toArray, List.getElem_cons_zero, List.getElem_cons_succ]
  refine AnyBut.take (i := 30) (v := ?_) rfl (by kernel_rfl) (by kernel_rfl) (by kernel_rfl) (by kernel_rfl) (fun _ _ _ h => h) (Or.inl ⟨by rfl, ?_⟩) hS ?_
  rotate_left
  · (intro wq hq; go_simp; try with_reducible rfl)
  try simp only [Act.put, List.setIfInBounds_toArray, List.set_cons_zero, List.set_cons_succ, List.getElem_toArray, List.getElem_cons_zero, List.getElem_cons_succ]
  refine AnyBut.take (i := 31) (v := ?_) rfl (by kernel_rfl) (by kernel_rfl) (by kernel_rfl) (by kernel_rfl) (fun _ _ _ h => h) (Or.inl ⟨by rfl, ?_⟩) hS ?_
  rotate_left
  · (intro wq hq; go_simp; try with_reducible rfl)
  try simp only [Act.put, List.setIfInBounds_toArray, List.set_cons_zero, List.set_cons_succ, List.getElem_toArray, List.getElem_cons_zero, List.getElem_cons_succ]
  refine AnyBut.take (i := 32) (v := ?_) rfl (by kernel_rfl) (by kernel_rfl) (by kernel_rfl) (by kernel_rfl) (fun _ _ _ h => h) (Or.inl ⟨by rfl, ?_⟩) hS ?_
  rotate_left
  · (intro wq hq; go_simp; try with_reducible rfl)
  try simp only [Act.put, List.setIfInBounds_toArray, List.set_cons_zero, List.set_cons_succ, List.getElem_toArray, List.getElem_cons_zero, List.getElem_cons_succ]
  refine AnyBut.take (i := 33) (v := ?_) rfl (by kernel_rfl) (by kernel_rfl) (by kernel_rfl) (by kernel_rfl) (fun _ _ _ h => h) (Or.inl ⟨by rfl, ?_⟩) hS ?_
  rotate_left
  · (intro wq hq; go_simp; try with_reducible rfl)
  try simp only [Act.put, List.setIfInBounds_toArray, List.set_cons_zero, List.set_cons_succ, List.getElem_toArray, List.getElem_cons_zero, List.getElem_cons_succ]
  refine AnyBut.take (i := 34) (v := ?_) rfl (by kernel_rfl) (by kernel_rfl) (by kernel_rfl) (by kernel_rfl) (fun _ _ _ h => h) (Or.inl ⟨by rfl, ?_⟩) hS ?_
  rotate_left
  · (intro wq hq; go_simp; try with_reducible rfl)
  try simp only [Act.put, List.setIfInBounds_toArray, List.set_cons_zero, List.set_cons_succ, List.getElem_toArray, List.getElem_cons_zero, List.getElem_cons_succ]
  refine AnyBut.take (i := 35) (v := ?_) rfl (by kernel_rfl) (by kernel_rfl) (by kernel_rfl) (by kernel_rfl) (fun _ _ _ h => h) (Or.inl ⟨by rfl, ?_⟩) hS ?_
  rotate_left
  · (intro wq hq; go_simp; try with_reducible rfl)
  try simp only [Act.put, List.setIfInBounds_toArray, List.set_cons_zero, List.set_cons_succ, List.getElem_toArray, List.getElem_cons_zero, List.getElem_cons_succ]
  refine AnyBut.take (i := 36) (v := .agg ([Value.int .u32 0, Value.int .u32 0, Value.int .u32 0, Value.int .u32 0, Value.int .u32 0, Value.int .u32 0, Value.int .u32 0, Value.int .u32 0, Value.bool false]).toArray) rfl (by kernel_rfl) (by kernel_rfl) (by kernel_rfl) (by kernel_rfl) (fun _ _ _ h => h) ?_ hS ?_
  · exact yieldsIf_load_mid (by rfl) 33 (.tmp 13) rfl mb 0 rfl [Value.int .u32 0, Value.int .u32 0, Value.int .u32 0, Value.int .u32 0, Value.int .u32 0, Value.int .u32 0, Value.int .u32 0, Value.int .u32 0, Value.bool false] _ (fun _ h => h.2) Tryd.underlying33 rfl i3
  try simp only [Act.put, List.setIfInBounds_toArray, List.set_cons_zero, List.set_cons_succ, List.getElem_toArray, List.getElem_cons_zero, List.getElem_cons_succ]
  refine AnyBut.take (i := 40) (v := ?_) rfl (by kernel_rfl) (by kernel_rfl) (by kernel_rfl) (by kernel_rfl) (fun _ _ _ h => h) (Or.inl ⟨by rfl, ?_⟩) hS ?_
  rotate_left
  · (intro wq hq; go_simp; try with_reducible rfl)
  try simp only [Act.put, List.setIfInBounds_toArray, List.set_cons_zero, List.set_cons_succ, List.getElem_toArray, List.getElem_cons_zero, List.getElem_cons_succ]
  refine AnyBut.gone (i := 37) (by kernel_rfl) rfl (by rfl) (fun K hK => ?_)
  go_simp
  have hS : (fun w' : World => w'.rangeAt x 0 (vbs H) ∧ w'.rangeAt mb 0 [Value.int .u32 0, Value.int .u32 0, Value.int .u32 0, Value.int .u32 0, Value.int .u32 0, Value.int .u32 0, Value.int .u32 0, Value.int .u32 0, Value.bool false]) (w13.alloc (Obj.cells #[.int .u8 97, .int .u8 98, .int .u8 99] 5)) := HS.out _ (hb13.alloc hb13.size (Obj.cells #[.int .u8 97, .int .u8 98, .int .u8 99] 5))
  refine hK _ _ (fun _ => hS) ?_
  clear hK K
  try simp only [Act.put, List.setIfInBounds_toArray, List.set_cons_zero, List.set_cons_succ, List.getElem_toArray, List.getElem_cons_zero, List.getElem_cons_succ]
  refine AnyBut.gone (i := 38) (by kernel_rfl) rfl (by rfl) (fun K hK => ?_)
  go_simp
  have hr37 : ∀ m, Rd (w13.alloc (Obj.cells #[.int .u8 97, .int .u8 98, .int .u8 99] 5 m)) (w13.alloc (Obj.cells #[.int .u8 97, .int .u8 98, .int .u8 99] 5 m)).heap.size (some ⟨w13.heap.size, 0, none⟩) [97, 98, 99] := abc_new w13
  have hb137 : ∀ m, Below W.drew.heap.size W.drew (w13.alloc (Obj.cells #[.int .u8 97, .int .u8 98, .int .u8 99] 5 m)) := fun m => hb13.alloc hb13.size _
  refine hK _ _ (fun _ => HS.out _ (hb137 _)) ?_
  clear hK K
  try simp only [Act.put, List.setIfInBounds_toArray, List.set_cons_zero, List.set_cons_succ, List.getElem_toArray, List.getElem_cons_zero, List.getElem_cons_succ]
  have hS : (fun w' : World => w'.rangeAt x 0 (vbs H) ∧ w'.rangeAt mb 0 [Value.int .u32 0, Value.int .u32 0, Value.int .u32 0, Value.int .u32 0, Value.int .u32 0, Value.int .u32 0, Value.int .u32 0, Value.int .u32 0, Value.bool false]) (w13.alloc (Obj.cells #[.int .u8 97, .int .u8 98, .int .u8 99] 5 (3, 4))) := HS.out _ (hb137 _)
  have hr37 := hr37 (3, 4)
  have hb14 := hb137 (3, 4)
  generalize w13.alloc (Obj.cells #[.int .u8 97, .int .u8 98, .int .u8 99] 5 (3, 4)) = w14 at hb14 hr37 hS ⊢
  generalize w13.heap.size = ab37 at hr37 ⊢
  refine AnyBut.gone (i := 39) (by kernel_rfl) rfl (by rfl) (fun K hK => ?_)
  go_simp
  (with_reducible refine (kM.out _ _).mono ?_)
  rintro e w15 ⟨rfl, hb15'⟩
  dsimp only
  have hb15 := hb14.trans (hb15'.mono hb14.size)
  have hS : (fun w' : World => w'.rangeAt x 0 (vbs H) ∧ w'.rangeAt mb 0 [Value.int .u32 0, Value.int .u32 0, Value.int .u32 0, Value.int .u32 0, Value.int .u32 0, Value.int .u32 0, Value.int .u32 0, Value.int .u32 0, Value.bool false]) w15 := HS.out _ hb15
  refine hK _ _ (fun _ => hS) ?_
  clear hK K
  try simp only [Act.put, List.setIfInBounds_toArray, List.set_cons_zero, List.set_cons_succ, List.getElem_toArray, List.getElem_cons_zero, List.getElem_cons_succ]
  refine AnyBut.take (i := 41) (v := ?_) rfl (by kernel_rfl) (by kernel_rfl) (by kernel_rfl) (by kernel_rfl) (fun _ _ _ h => h) (Or.inl ⟨by rfl, ?_⟩) hS ?_
  rotate_left
  · (intro wq hq; go_simp; try with_reducible rfl)
  try simp only [Act.put, List.setIfInBounds_toArray, List.set_cons_zero, List.set_cons_succ, List.getElem_toArray, List.getElem_cons_zero, List.getElem_cons_succ]
  refine AnyBut.take (i := 42) (v := ?_) rfl (by kernel_rfl) (by kernel_rfl) (by kernel_rfl) (by kernel_rfl) (fun _ _ _ h => h) (Or.inl ⟨by rfl, ?_⟩) hS ?_
  rotate_left
  · (intro wq hq; go_simp; try with_reducible rfl)
  try simp only [Act.put, List.setIfInBounds_toArray, List.set_cons_zero, List.set_cons_succ, List.getElem_toArray, List.getElem_cons_zero, List.getElem_cons_succ]
  refine AnyBut.gone (i := 43) (by kernel_rfl) rfl (by rfl) (fun K hK => ?_)
  go_simp
  refine hK _ _ (fun h => absurd rfl h) ?_
  clear hK K
  refine AnyBut.done (by kernel_rfl) ?_ _
  dsimp only [Exit.then]
  go_wp2_with fail
  go_ret
  exact ⟨rfl, HBW.out.trans (hb15.mono HBW.out.size)⟩
end Go.Proofs.YtjbjkddgefiicaaDoor
