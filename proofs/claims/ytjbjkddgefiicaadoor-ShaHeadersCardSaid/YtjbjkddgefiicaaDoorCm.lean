/- The law ShaNamesBytes returns true for every slice of bytes, in a world whose two tables are as laid. -/
import Derived.Test.YtjbjkddgefiicaaDoorCl
import Derived.Test.YtjbjkddgefiicaaDoorZ
import Derived.Deep.DeepCutAuto
namespace Go.Proofs.YtjbjkddgefiicaaDoor
open Go.RowKit
set_option linter.unusedVariables false
set_option linter.unusedSimpArgs false
theorem up_to {w w' : World} {B : Nat} {A : Option Addr} {R : List (BitVec 8)} (h : Rd w B A R) (hb : Below B w w') (hB : B ≤ w'.heap.size) : Rd w' w'.heap.size A R := rd_up (h.keep hb) hB
set_option maxRecDepth 100000 in
set_option maxHeartbeats 4000000 in
theorem bytes_gen (D D2 : List (BitVec 8)) (hD : D.length = 32) (hD2 : D2.length = 32) (A : Option Addr) (cap : Nat) (R : List (BitVec 8)) (w : World) (hR : Rd w w.heap.size A R) (hcap : R.length ≤ cap) (hA : A = none → cap = 0) (hl : R.length ≤ 3000)
    (h12 : ∀ (A' : Option Addr) (c' : Nat) w', Below w.heap.size w w' → Rd w' w'.heap.size A' R → R.length ≤ c' → Calls Tryd.prog 12 #[.slice A' R.length c'] w' fun e w'' => e = .returned (.agg (vbs D).toArray) ∧ Below w'.heap.size w' w'')
    (h14 : ∀ (A' : Option Addr) (c' : Nat) w', Below w.heap.size w w' → Rd w' w'.heap.size A' R → R.length ≤ c' → Calls Tryd.prog 14 #[.slice A' R.length c'] w' fun e w'' => e = .returned (.agg (vbs D2).toArray) ∧ Below w'.heap.size w' w'')
    (h13 : ∀ w', Below w.heap.size w w' → Calls Tryd.prog 13 #[.slice A R.length cap] w' fun e w'' => e = .returned (.agg (vbs D).toArray) ∧ Below w'.heap.size w' w'')
    (h15 : ∀ w', Below w.heap.size w w' → Calls Tryd.prog 15 #[.slice A R.length cap] w' fun e w'' => e = .returned (.agg (vbs D2).toArray) ∧ Below w'.heap.size w' w'')
    (hAw : ∀ w', Below w.heap.size w w' → Calls Tryd.prog 11 #[] w' fun e w'' => e = .returned (.bool true) ∧ Below w'.heap.size w' w'') :
    Calls Tryd.prog 3 #[.slice A R.length cap] w fun e w' => e = .returned (.bool true) ∧ Below w.heap.size w w' := by
  have hn : ¬ (3000 : Int) < (R.length : Int) := by omega
  have hb0 : Below w.heap.size w (w.alloc (Obj.cells #[] 5)) := (Below.refl _ _).alloc (Nat.le_refl _) _
  have HB0 := Lib.hid hb0
  have HO0 := Lib.hid (show OB (w.alloc (Obj.cells #[] 5)) w.heap.size (.slice (some ⟨w.heap.size, 0, none⟩) 0 0) [] from owns_empty w w.heap.size (Nat.le_refl _))
  have HS0 := Lib.hid (src_of_rd (up_to hR hb0 hb0.size))
  have HA := Lib.hid hA
  have HRd := Lib.hid hR
  have HLen : Hid (([] : List (BitVec 8)).length + R.length ≤ 140737488355328) := by show ([] : List (BitVec 8)).length + R.length ≤ _; simp; omega
  have HBs := Lib.hid (show w.heap.size ≤ (w.alloc (Obj.cells #[] 5)).heap.size by simp)
  have K12 := Lib.hid h12
  have K13 := Lib.hid h13
  have K14 := Lib.hid h14
  have K15 := Lib.hid h15
  have KA := Lib.hid hAw
  have eD := fun wq => eql_same D hD wq
  have eD2 := fun wq => eql_same D2 hD2 wq
  clear hR hA hb0 h12 h13 h14 h15 hAw hD hD2
  go_enter Tryd.func3, Tryd.ntmps3
  go_upto_region 4 with (refine wpList_push (o := ⟨some 10, _, _, _, _, _⟩) rfl (.tmp 8) (.tmp 9) rfl rfl w.heap.size _ [] R rfl HO0.out A R.length cap rfl rfl HS0.out HA.out HLen.out HB0.out HBs.out (Nat.le_refl _) ?_; intro v3 w3 ho3 hb3 hb3')
  rw [List.nil_append] at ho3
  obtain ⟨A3, c3, rfl, hrd3, hl3, hm3, hn3⟩ := ho3.rd
  have L12 : Hid (Calls Tryd.prog 12 #[.slice A3 R.length c3] w3 fun e w'' => e = .returned (.agg (vbs D).toArray) ∧ Below w3.heap.size w3 w'') := K12.out A3 c3 w3 hb3 hrd3 hl3
  have L14 : Hid (∀ w', Below w3.heap.size w3 w' → Calls Tryd.prog 14 #[.slice A3 R.length c3] w' fun e w'' => e = .returned (.agg (vbs D2).toArray) ∧ Below w'.heap.size w' w'') := fun w' hb => K14.out A3 c3 w' (hb3.trans (hb.mono hb3.size)) (up_to hrd3 hb hb.size) hl3
  have L13 : Hid (∀ w', Below w3.heap.size w3 w' → Calls Tryd.prog 13 #[.slice A R.length cap] w' fun e w'' => e = .returned (.agg (vbs D).toArray) ∧ Below w'.heap.size w' w'') := fun w' hb => K13.out w' (hb3.trans (hb.mono hb3.size))
  have L15 : Hid (∀ w', Below w3.heap.size w3 w' → Calls Tryd.prog 15 #[.slice A R.length cap] w' fun e w'' => e = .returned (.agg (vbs D2).toArray) ∧ Below w'.heap.size w' w'') := fun w' hb => K15.out w' (hb3.trans (hb.mono hb3.size))
  have LA : Hid (∀ w', Below w3.heap.size w3 w' → Calls Tryd.prog 11 #[] w' fun e w'' => e = .returned (.bool true) ∧ Below w'.heap.size w' w'') := fun w' hb => KA.out w' (hb3.trans (hb.mono hb3.size))
  have LC1 : Hid (∀ w', Below w3.heap.size w3 w' → (convert 22 9 (.slice A3 R.length c3)).run Tryd.prog w' = .ok (.string (strB R)) w') := fun w' hb => run_conv_slice w' Tryd.underlying22 Tryd.underlying5 Tryd.underlying9 A3 R R.length c3 rfl _ (up_to hrd3 hb hb.size)
  have LC2 : Hid (∀ w', Below w3.heap.size w3 w' → (convert 22 9 (.slice A R.length cap)).run Tryd.prog w' = .ok (.string (strB R)) w') := fun w' hb => run_conv_slice w' Tryd.underlying22 Tryd.underlying5 Tryd.underlying9 A R R.length cap rfl _ (up_to HRd.out (hb3.trans (hb.mono hb3.size)) (Nat.le_trans hb3.size hb.size))
  have eT : ((strB R).toList == (strB R).toList) = true := beq_self_eq_true _
  have HB3 := Lib.hid hb3
  obtain ⟨n, hn⟩ : ∃ n, n = R.length := ⟨_, rfl⟩
  obtain ⟨tR, htR⟩ : ∃ tR, tR = strB R := ⟨_, rfl⟩
  rw [← hn] at L12 L13 L14 L15 LC1 LC2 ⊢
  rw [← htR] at LC1 LC2 eT
  clear ho3 hb3 hb3' hrd3 hl3 hm3 hn3 K12 K13 K14 K15 KA HO0 HS0 HA HRd HLen HBs HB0 hn htR hcap hl
  go_wp2_with (first | (go_at_call 12; (with_reducible refine L12.out.mono ?_); rintro e w4 ⟨rfl, hb4⟩; dsimp only) | (go_at_call 13; (with_reducible refine (L13.out _ hb4).mono ?_); rintro e w5 ⟨rfl, hb5'⟩; dsimp only; have hb5 := hb4.trans (hb5'.mono hb4.size)) | (go_at_call 14; (with_reducible refine (L14.out _ hb5).mono ?_); rintro e w6 ⟨rfl, hb6'⟩; dsimp only; have hb6 := hb5.trans (hb6'.mono hb5.size)) | (go_at_call 15; (with_reducible refine (L15.out _ hb6).mono ?_); rintro e w7 ⟨rfl, hb7'⟩; dsimp only; have hb7 := hb6.trans (hb7'.mono hb6.size); have hc1 := LC1.out _ hb7; have hc2 := LC2.out _ hb7) | (go_at_call 11; (with_reducible refine (LA.out _ hb7).mono ?_); rintro e w8 ⟨rfl, hb8'⟩; dsimp only; have hb8 := hb7.trans (hb8'.mono hb7.size)))
  go_ret
  exact ⟨rfl, HB3.out.trans (hb8.mono HB3.out.size)⟩
set_option maxRecDepth 100000 in
set_option maxHeartbeats 1000000 in
theorem bytes_big (A : Option Addr) (cap n : Nat) (w : World) (hGl : Glob w) (h : 3000 < n) :
    Calls Tryd.prog 3 #[.slice A n cap] w fun e w' => e = .returned (.bool true) ∧ Below w.heap.size w w' := by
  have h1 : (3000 : Int) < (n : Int) := by omega
  have HA0 := Lib.hid (awake_any _ hGl)
  clear hGl
  go_enter Tryd.func3, Tryd.ntmps3
  go_wp2_with (go_at_call 11; (with_reducible refine HA0.out.mono ?_); rintro e w1 ⟨rfl, hb1⟩; dsimp only)
  go_ret
  exact ⟨rfl, hb1⟩
theorem bytes_walk (A : Option Addr) (cap : Nat) (R : List (BitVec 8)) (w : World) (hG : Glob w) (hR : Rd w w.heap.size A R) (hcap : R.length ≤ cap) (hA : A = none → cap = 0) :
    Calls Tryd.prog 3 #[.slice A R.length cap] w fun e w' => e = .returned (.bool true) ∧ Below w.heap.size w w' := by
  by_cases h : 3000 < R.length
  · exact bytes_big A cap R.length w hG h
  · exact bytes_gen (sumB R) (twiceB R) (sumB_len _) (sumB_len _) A cap R w hR hcap hA (by omega)
      (fun A' c' w' hb hr hc => sum_any A' c' R w' (hG.below hb) hr hc (by omega))
      (fun A' c' w' hb hr hc => twice_any A' c' R w' (hG.below hb) hr hc (by omega))
      (fun w' hb => rsum_any A cap R w' (up_to hR hb hb.size) hcap hA (by omega))
      (fun w' hb => rtwice_any A cap R w' (up_to hR hb hb.size) hcap hA (by omega))
      (fun w' hb => awake_any w' (hG.below hb))
end Go.Proofs.YtjbjkddgefiicaaDoor
