/- What sha.Halfway returns: the middle of a chunk; and what Twice of a middle returns: the double digest from its state on; and of a Middle that is none: 32 noughts. -/
import Derived.Test.YtjbjkddgefiicaaDoorS
import Derived.Deep.DeepCutAuto
namespace Go.Proofs.YtjbjkddgefiicaaDoor
open Go.RowKit
set_option linter.unusedVariables false
set_option linter.unusedSimpArgs false
/-- A middle's nine cells. -/
def mdv (s : St) (b : Bool) : List Value := [.int .u32 (U s.a), .int .u32 (U s.b), .int .u32 (U s.c), .int .u32 (U s.d), .int .u32 (U s.e), .int .u32 (U s.f), .int .u32 (U s.g), .int .u32 (U s.h), .bool b]
def zeroSt : St := ⟨0, 0, 0, 0, 0, 0, 0, 0⟩
theorem mdv_one (s : St) (b : Bool) : ∀ v ∈ mdv s b, v.oneCell' = true := by simp [mdv, Value.oneCell']
theorem info33 {s : St} {b : Bool} : (Tryd.prog.info? 33).map (·.size) = some (mdv s b).toArray.size := by kernel_rfl
theorem there33 (w : World) (s : St) : (w.alloc (Obj.cells #[.int .u32 0, .int .u32 0, .int .u32 0, .int .u32 0, .int .u32 0, .int .u32 0, .int .u32 0, .int .u32 0, .bool false] 33)).there w.heap.size 0 (mdv s true).toArray.size := (Blk.new w 33 #[.int .u32 0, .int .u32 0, .int .u32 0, .int .u32 0, .int .u32 0, .int .u32 0, .int .u32 0, .int .u32 0, .bool false]).there
theorem Blk.range' {w : World} {b : Nat} {T : TypeId} {vs us : List Value} (h : Blk w b T (vs ++ us)) : w.rangeAt b 0 vs := fun j v hv => by
  rw [Nat.zero_add]
  exact h.cell (by rw [List.getElem?_append_left (List.getElem?_eq_some_iff.1 hv).1]; exact hv)
set_option maxRecDepth 100000 in
set_option maxHeartbeats 1000000 in
theorem halfway_gen (s' : St) (C : List (BitVec 8)) (hC : C.length = 64) (w : World) (hG : Glob w)
    (hch : ∀ (w1 : World), Glob w1 → Calls Tryd.prog 29 #[.agg (stv ini), .agg (vbs C).toArray] w1 fun e w' => e = .returned (.agg (stv s')) ∧ Below w1.heap.size w1 w') :
    Calls Tryd.prog 16 #[.agg (vbs C).toArray] w fun e w' => e = .returned (.agg (mdv s' true).toArray) ∧ Below w.heap.size w w' := by
  have hb0 : Below w.heap.size w ((w.alloc (Obj.cells (vbs C).toArray 28)).alloc (Obj.cells #[.int .u32 0, .int .u32 0, .int .u32 0, .int .u32 0, .int .u32 0, .int .u32 0, .int .u32 0, .int .u32 0, .bool false] 33)) := ((Below.refl _ _).alloc (Nat.le_refl _) _).alloc (by simp) _
  have s1 : (w.alloc (Obj.cells (vbs C).toArray 28)).heap.size = w.heap.size + 1 := by simp
  have h2 := Blk.new (w.alloc (Obj.cells (vbs C).toArray 28)) 33 #[.int .u32 0, .int .u32 0, .int .u32 0, .int .u32 0, .int .u32 0, .int .u32 0, .int .u32 0, .int .u32 0, .bool false]
  rw [s1] at h2
  have HG := Lib.hid (hG.below hb0)
  have HC := Lib.hid hC
  have Hr := Lib.hid ((((Blk.new w 28 (vbs C).toArray).alloc (Obj.cells #[.int .u32 0, .int .u32 0, .int .u32 0, .int .u32 0, .int .u32 0, .int .u32 0, .int .u32 0, .int .u32 0, .bool false] 33))).range)
  have HB := Lib.hid hb0
  have H2 := Lib.hid h2
  have HT : Hid (∀ w1, Below ((w.alloc (Obj.cells (vbs C).toArray 28)).alloc (Obj.cells #[.int .u32 0, .int .u32 0, .int .u32 0, .int .u32 0, .int .u32 0, .int .u32 0, .int .u32 0, .int .u32 0, .bool false] 33)).heap.size ((w.alloc (Obj.cells (vbs C).toArray 28)).alloc (Obj.cells #[.int .u32 0, .int .u32 0, .int .u32 0, .int .u32 0, .int .u32 0, .int .u32 0, .int .u32 0, .int .u32 0, .bool false] 33)) w1 → w1.there (w.heap.size + 1) 0 #[Value.int IntKind.u32 (U s'.a), Value.int IntKind.u32 (U s'.b), Value.int IntKind.u32 (U s'.c), Value.int IntKind.u32 (U s'.d), Value.int IntKind.u32 (U s'.e), Value.int IntKind.u32 (U s'.f), Value.int IntKind.u32 (U s'.g), Value.int IntKind.u32 (U s'.h), Value.bool true].size) := fun w1 hb => (Blk.below h2 hb h2.lt).there
  have HI : Hid ((Tryd.prog.info? 33).map (·.size) = some (#[Value.int IntKind.u32 (U s'.a), Value.int IntKind.u32 (U s'.b), Value.int IntKind.u32 (U s'.c), Value.int IntKind.u32 (U s'.d), Value.int IntKind.u32 (U s'.e), Value.int IntKind.u32 (U s'.f), Value.int IntKind.u32 (U s'.g), Value.int IntKind.u32 (U s'.h), Value.bool true] : Array Value).size) := info33 (s := s') (b := true)
  have HO : Hid ((#[Value.int IntKind.u32 (U s'.a), Value.int IntKind.u32 (U s'.b), Value.int IntKind.u32 (U s'.c), Value.int IntKind.u32 (U s'.d), Value.int IntKind.u32 (U s'.e), Value.int IntKind.u32 (U s'.f), Value.int IntKind.u32 (U s'.g), Value.int IntKind.u32 (U s'.h), Value.bool true] : Array Value).all (·.oneCell') = true) := all_oneCell_toArray (mdv_one s' true)
  clear hG hC hb0 s1 h2
  go_enter Tryd.func16, Tryd.ntmps16
  go_wp2_with (first | (with_reducible refine wpList_load_mid rfl 30 (.global 0) rfl 0 0 rfl (stv ini).toList _ HG.out.i Tryd.underlying30 rfl info30 ?_) | (with_reducible refine wpList_load_mid rfl 28 (.tmp 1) rfl w.heap.size 0 rfl (vbs C) _ Hr.out Tryd.underlying28 rfl (info28 HC.out) ?_) | (go_at_call 29; (refine (hch _ HG.out).mono ?_); rintro e w1 ⟨rfl, hb1⟩; dsimp only [stv]) | (with_reducible refine wpList_store_mid rfl 33 (.tmp 2) (.tmp 6) rfl (w.heap.size + 1) 0 #[Value.int IntKind.u32 (U s'.a), Value.int IntKind.u32 (U s'.b), Value.int IntKind.u32 (U s'.c), Value.int IntKind.u32 (U s'.d), Value.int IntKind.u32 (U s'.e), Value.int IntKind.u32 (U s'.f), Value.int IntKind.u32 (U s'.g), Value.int IntKind.u32 (U s'.h), Value.bool true] rfl rfl (HT.out w1 hb1) HI.out HO.out ?_))
  have hB1 := (Blk.below H2.out hb1 H2.out.lt).setCells [Value.int IntKind.u32 (U s'.a), Value.int IntKind.u32 (U s'.b), Value.int IntKind.u32 (U s'.c), Value.int IntKind.u32 (U s'.d), Value.int IntKind.u32 (U s'.e), Value.int IntKind.u32 (U s'.f), Value.int IntKind.u32 (U s'.g), Value.int IntKind.u32 (U s'.h), Value.bool true] rfl
  have hSb := below_setCells (Nat.le_succ w.heap.size) [Value.int IntKind.u32 (U s'.a), Value.int IntKind.u32 (U s'.b), Value.int IntKind.u32 (U s'.c), Value.int IntKind.u32 (U s'.d), Value.int IntKind.u32 (U s'.e), Value.int IntKind.u32 (U s'.f), Value.int IntKind.u32 (U s'.g), Value.int IntKind.u32 (U s'.h), Value.bool true] 0 w1 (HB.out.trans (hb1.mono (by simp; omega)))
  generalize w1.setCells (w.heap.size + 1) 0 [Value.int IntKind.u32 (U s'.a), Value.int IntKind.u32 (U s'.b), Value.int IntKind.u32 (U s'.c), Value.int IntKind.u32 (U s'.d), Value.int IntKind.u32 (U s'.e), Value.int IntKind.u32 (U s'.f), Value.int IntKind.u32 (U s'.g), Value.int IntKind.u32 (U s'.h), Value.bool true] = W9 at hB1 hSb
  exact bodyPost_ret (v := .agg (mdv s' true).toArray) (results_cell_row Tryd.results16 _ W9 (w.heap.size + 1) 33 (mdv s' true).toArray (0, 0) _ rfl hB1 Tryd.underlying33 rfl info33) rfl ⟨rfl, hSb⟩
theorem halfway_any (C : List (BitVec 8)) (hC : C.length = 64) (w : World) (hG : Glob w) :
    Calls Tryd.prog 16 #[.agg (vbs C).toArray] w fun e w' => e = .returned (.agg (mdv (change ini C) true).toArray) ∧ Below w.heap.size w w' :=
  halfway_gen (change ini C) C hC w hG (fun w1 hg => changed_any ini C w1 hC hg.k)
set_option maxRecDepth 100000 in
set_option maxHeartbeats 1000000 in
theorem mid_gen (F D : List (BitVec 8)) (hF : F.length = 32) (hD : D.length = 32) (s : St) (A : Option Addr) (n cap : Nat) (w : World) (hG : Glob w)
    (hfin : ∀ w', Below w.heap.size w w' → Calls Tryd.prog 24 #[.agg (stv s), .int .u64 64, .slice A n cap] w' fun e w'' => e = .returned (.agg (vbs F).toArray) ∧ Below w'.heap.size w' w'')
    (hsum : ∀ (b : Nat) (w' : World), Glob w' → Blk w' b 25 (vbs F) → Calls Tryd.prog 12 #[.slice (some ⟨b, 0, none⟩) 32 32] w' fun e w'' => e = .returned (.agg (vbs D).toArray) ∧ Below w'.heap.size w' w'') :
    Calls Tryd.prog 17 #[.agg (mdv s true).toArray, .slice A n cap] w fun e w' => e = .returned (.agg (vbs D).toArray) ∧ Below w.heap.size w w' := by
  have hz : ∀ w, (zeroValue 25).run Tryd.prog w = .ok (.agg (vbs Z32).toArray) w := fun _ => by kernel_rfl
  have hb0 : Below w.heap.size w ((w.alloc (Obj.cells (mdv s true).toArray 33)).alloc (Obj.cells (vbs Z32).toArray 25)) := ((Below.refl _ _).alloc (Nat.le_refl _) _).alloc (by simp) _
  have s1 : (w.alloc (Obj.cells (mdv s true).toArray 33)).heap.size = w.heap.size + 1 := by simp
  have h1 : Blk ((w.alloc (Obj.cells (mdv s true).toArray 33)).alloc (Obj.cells (vbs Z32).toArray 25)) w.heap.size 33 ((stv s).toList ++ [.bool true]) := (Blk.new w 33 (mdv s true).toArray).alloc _
  have h2 := Blk.new (w.alloc (Obj.cells (mdv s true).toArray 33)) 25 (vbs Z32).toArray
  rw [s1] at h2
  have q8 := h1.cell (j := 8) (v := .bool true) rfl
  have Hr := Lib.hid h1.range'
  have HG := Lib.hid hG
  have HB := Lib.hid hb0
  have H2 := Lib.hid h2
  have HF := Lib.hid (hfin _ hb0)
  clear hG hb0 s1 h2 h1
  go_enter Tryd.func17, Tryd.ntmps17
  go_upto_region 4 with (first | (with_reducible refine wpList_load_mid rfl 31 (.tmp 10) rfl w.heap.size 0 rfl (stv s).toList _ Hr.out Tryd.underlying31 rfl info31 ?_) | (go_at_call 24; (refine HF.out.mono ?_); rintro e w1 ⟨rfl, hb1⟩; dsimp only) | (with_reducible refine wpList_store_mid rfl 25 (.tmp 5) (.tmp 13) rfl w1.heap.size 0 (vbs F).toArray rfl rfl (there_new25 w1 hF) (i25v hF) (all_oneCell_toArray (vbs_one _)) ?_))
  have hg1 : Blk ((w1.alloc (Obj.cells (vbs Z32).toArray 25)).setCells w1.heap.size 0 (vbs F)) w1.heap.size 25 (vbs F) := Blk.laid w1 hF
  have hbb : Below ((w.alloc (Obj.cells (mdv s true).toArray 33)).alloc (Obj.cells (vbs Z32).toArray 25)).heap.size ((w.alloc (Obj.cells (mdv s true).toArray 33)).alloc (Obj.cells (vbs Z32).toArray 25)) ((w1.alloc (Obj.cells (vbs Z32).toArray 25)).setCells w1.heap.size 0 (vbs F)) := Below.laid hb1 hb1.size _
  generalize (w1.alloc (Obj.cells (vbs Z32).toArray 25)).setCells w1.heap.size 0 (vbs F) = W2 at hg1 hbb ⊢
  generalize w1.heap.size = fb at hg1 ⊢
  have hs2 := hsum fb W2 (HG.out.below (HB.out.trans (hbb.mono (by simp; omega)))) hg1
  have HS2 := Lib.hid hs2
  have hsl := slice25 fb W2
  have HT := Lib.hid (fun w3 (hb3 : Below W2.heap.size W2 w3) => Blk.below (Blk.below H2.out hbb H2.out.lt) hb3 (Nat.lt_of_lt_of_le H2.out.lt hbb.size))
  have HBB := Lib.hid hbb
  clear hg1 hbb hb1 hs2 hz q8
  go_wp2_with (first | (go_at_call 12; (with_reducible refine HS2.out.mono ?_); rintro e w3 ⟨rfl, hb3⟩; dsimp only) | (with_reducible refine wpList_store_mid rfl 25 (.tmp 4) (.tmp 15) rfl (w.heap.size + 1) 0 (vbs D).toArray rfl rfl (there_z (HT.out w3 hb3) hD) (i25v hD) (all_oneCell_toArray (vbs_one _)) ?_))
  have hB1 := (HT.out w3 hb3).setCells (vbs D) (by rw [vbs_len, hD, vbs_len, Z32_len])
  have hSb := below_setCells (Nat.le_succ w.heap.size) (vbs D) 0 w3 (HB.out.trans ((HBB.out.trans (hb3.mono HBB.out.size)).mono (by simp; omega)))
  generalize w3.setCells (w.heap.size + 1) 0 (vbs D) = W9 at hB1 hSb
  exact bodyPost_ret (v := .agg (vbs D).toArray) (results_cell_row Tryd.results17 _ W9 (w.heap.size + 1) 25 (vbs D).toArray (0, 0) _ rfl hB1 Tryd.underlying25 rfl (i25v hD)) rfl ⟨rfl, hSb⟩
theorem mid_any (s : St) (A : Option Addr) (cap : Nat) (R : List (BitVec 8)) (w : World) (hG : Glob w) (hR : Rd w w.heap.size A R) (hcap : R.length ≤ cap) (hl : R.length < 1000000000000000000) :
    Calls Tryd.prog 17 #[.agg (mdv s true).toArray, .slice A R.length cap] w fun e w' => e = .returned (.agg (vbs (sumB (finB s 64 R))).toArray) ∧ Below w.heap.size w w' :=
  mid_gen (finB s 64 R) (sumB (finB s 64 R)) (finB_len _ _ _) (sumB_len _) s A R.length cap w hG
    (fun w' hb => finished_any s 64 cap A R w' (fun hp => by
      obtain ⟨b, o, e, hlt, hc⟩ := (Rd.keep hR hb) hp
      exact ⟨b, o, e, Nat.lt_of_lt_of_le hlt hb.size, hc⟩) hcap (by omega) (hG.below hb).k)
    (fun b w' hg hb => by
      have := sum_any (some ⟨b, 0, none⟩) 32 (finB s 64 R) w' hg (Rd.of_blk hb) (by rw [finB_len]; omega) (by rw [finB_len]; omega)
      rwa [finB_len] at this)
end Go.Proofs.YtjbjkddgefiicaaDoor
