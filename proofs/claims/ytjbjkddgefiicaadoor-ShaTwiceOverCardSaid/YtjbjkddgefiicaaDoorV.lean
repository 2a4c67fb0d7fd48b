/- The law ShaTwiceOver returns true for every slice of bytes, in a world whose two tables are as laid. -/
import Derived.Test.YtjbjkddgefiicaaDoorZ
import Derived.Deep.RegionHeld3
namespace Go.Proofs.YtjbjkddgefiicaaDoor
open Go.ChangeShapes Go.WideShapes Go.ChangeAt Go.RowKit
set_option linter.unusedVariables false
set_option linter.unusedSimpArgs false
set_option maxRecDepth 100000 in
set_option maxHeartbeats 1000000 in
theorem twiceOver_gen (sm : List (BitVec 8) → List (BitVec 8)) (sm_len : ∀ R, (sm R).length = 32)
    (hSum : ∀ (A : Option Addr) (cap : Nat) (R : List (BitVec 8)) (w : World), Glob w → Rd w w.heap.size A R → R.length ≤ cap → R.length < 1152921504606846976 →
      Calls Tryd.prog 12 #[.slice A R.length cap] w fun e w' => e = .returned (.agg (vbs (sm R)).toArray) ∧ Below w.heap.size w w')
    (hTwo : ∀ (A : Option Addr) (cap : Nat) (R : List (BitVec 8)) (w : World), Glob w → Rd w w.heap.size A R → R.length ≤ cap → R.length < 1152921504606846976 →
      Calls Tryd.prog 14 #[.slice A R.length cap] w fun e w' => e = .returned (.agg (vbs (sm (sm R))).toArray) ∧ Below w.heap.size w w')
    (A : Option Addr) (cap : Nat) (R : List (BitVec 8)) (w : World) (hG : Glob w) (hR : Rd w w.heap.size A R) (hcap : R.length ≤ cap) (hm : cap ≤ 9223372036854775807) :
    Calls Tryd.prog 9 #[.slice A R.length cap] w fun e w' => e = .returned (.bool true) ∧ Below w.heap.size w w' := by
  have HA := Lib.hid (fun w1 (hb : Below w.heap.size w w1) => awake_any w1 (hG.below hb))
  by_cases h : 3000 < R.length
  · have h1 : (3000 : Int) < (R.length : Int) := by omega
    have HA0 := Lib.hid (HA.out w (Below.refl _ _))
    clear hG hR
    go_enter Tryd.func9, Tryd.ntmps9
    go_wp2_with (go_at_call 11; (with_reducible refine HA0.out.mono ?_); rintro e w1 ⟨rfl, hb1⟩; dsimp only)
    go_ret
    exact ⟨rfl, hb1⟩
  · have h1 : ¬ (3000 : Int) < (R.length : Int) := by omega
    have hz : ∀ w, (zeroValue 25).run Tryd.prog w = .ok (.agg (vbs Z32).toArray) w := fun _ => by kernel_rfl
    have HS := Lib.hid (hSum A cap R w hG hR hcap (by omega))
    have HTw := Lib.hid (fun w1 (hb : Below w.heap.size w w1) => hTwo A cap R w1 (hG.below hb) (fun hp => by
      obtain ⟨b, o, e, hlt, hc⟩ := (Rd.keep hR hb) hp
      exact ⟨b, o, e, Nat.lt_of_lt_of_le hlt hb.size, hc⟩) hcap (by omega))
    have HG := Lib.hid hG
    clear hG hR
    go_enter Tryd.func9, Tryd.ntmps9
    go_upto_region 4 with (first | (go_at_call 12; (with_reducible refine HS.out.mono ?_); rintro e w1 ⟨rfl, hb1⟩; dsimp only) | (with_reducible refine wpList_store_mid rfl 25 (.tmp 3) (.tmp 9) rfl w1.heap.size 0 (vbs (sm R)).toArray rfl rfl (there_new25 w1 (sm_len R)) (i25v (sm_len R)) (all_oneCell_toArray (vbs_one _)) ?_))
    have hg1 : Blk ((w1.alloc (Obj.cells (vbs Z32).toArray 25)).setCells w1.heap.size 0 (vbs (sm R))) w1.heap.size 25 (vbs (sm R)) := Blk.laid w1 (sm_len R)
    have hbb : Below w.heap.size w ((w1.alloc (Obj.cells (vbs Z32).toArray 25)).setCells w1.heap.size 0 (vbs (sm R))) := Below.laid hb1 hb1.size _
    have hfb : w.heap.size ≤ w1.heap.size := hb1.size
    generalize (w1.alloc (Obj.cells (vbs Z32).toArray 25)).setCells w1.heap.size 0 (vbs (sm R)) = W2 at hg1 hbb ⊢
    generalize w1.heap.size = fb at hg1 hfb ⊢
    have hbb' : Below w.heap.size w W2.drew := hbb.drew
    have hg2 : Blk W2.drew fb 25 (vbs (sm R)) := hg1.drew
    have HB := Lib.hid hbb'
    have HBl := Lib.hid hg2
    have HS2 : Hid (∀ w3, Below W2.drew.heap.size W2.drew w3 → Calls Tryd.prog 12 #[.slice (some ⟨fb, 0, none⟩) 32 32] w3 fun e w' => e = .returned (.agg (vbs (sm (sm R))).toArray) ∧ Below w3.heap.size w3 w') := fun w3 hb => by
      have h3 : Blk w3 fb 25 (vbs (sm R)) := hg2.below hb hg2.lt
      have := hSum (some ⟨fb, 0, none⟩) 32 (sm R) w3 (HG.out.below (HB.out.trans (hb.mono HB.out.size))) (Rd.of_blk h3) (by rw [sm_len]; omega) (by rw [sm_len]; omega)
      rwa [sm_len] at this
    have hsl := fun wq => slice25 fb wq
    have heq := fun wq => eql_same (sm (sm R)) (sm_len _) wq
    have HTw2 : Hid (Calls Tryd.prog 14 #[.slice A R.length cap] W2.drew fun e w' => e = .returned (.agg (vbs (sm (sm R))).toArray) ∧ Below W2.drew.heap.size W2.drew w') := HTw.out _ HB.out
    clear hg1 hbb hb1 hz hbb' hg2
    refine wp_calm_any ?_
    go_region_held3 (fun _ => True) (trivial) (first | (go_at_call 14; (with_reducible refine HTw2.out.mono ?_); rintro e w5 ⟨rfl, hb5⟩; dsimp only) | (go_at_call 12; (with_reducible refine (HS2.out _ hb5).mono ?_); rintro e w6 ⟨rfl, hb6⟩; dsimp only) | (go_at_call 11; (with_reducible refine (HA.out _ (HB.out.trans ((hb5.trans (hb6.mono hb5.size)).mono HB.out.size))).mono ?_); rintro e w7 ⟨rfl, hb7⟩; dsimp only))
    dsimp only [Exit.then]
    go_wp2_with fail
    go_ret
    exact ⟨rfl, HB.out.trans ((hb5.trans ((hb6.trans (hb7.mono hb6.size)).mono hb5.size)).mono HB.out.size)⟩
theorem twiceOver_walk (A : Option Addr) (cap : Nat) (R : List (BitVec 8)) (w : World) (hG : Glob w) (hR : Rd w w.heap.size A R) (hcap : R.length ≤ cap) (hm : cap ≤ 9223372036854775807) :
    Calls Tryd.prog 9 #[.slice A R.length cap] w fun e w' => e = .returned (.bool true) ∧ Below w.heap.size w w' :=
  twiceOver_gen sumB sumB_len sum_any twice_any A cap R w hG hR hcap hm
end Go.Proofs.YtjbjkddgefiicaaDoor
