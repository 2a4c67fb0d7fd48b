/- The law Sha512Roots returns true, in a world whose two tables are as laid. -/
import Derived.Test.YtffngfjbaimbhaaDoorUg
import Derived.Test.YtffngfjbaimbhaaDoorTj
import Derived.Outline
namespace Go.Proofs.YtffngfjbaimbhaaDoor
open Go.RowKit
set_option linter.unusedVariables false
set_option linter.unusedSimpArgs false
set_option maxRecDepth 100000
theorem r_two : ((prl 18).map fun p => rootN p 2) = (stl ini).map fun y => some y.toNat := by decide +kernel
theorem r_three : ((prl 408).map fun p => rootN p 3) = KK.map fun y => some y.toNat := by decide +kernel
theorem prl_407 : (prl 407).length = 79 := by decide +kernel
theorem prl_17 : (prl 17).length = 7 := by decide +kernel
theorem KK_len80 : KK.length = 80 := by decide +kernel
theorem roots80 (w : World) : Calls Tryd.prog 13 #[.int .i64 80, .int .i64 3] w (WsPost KK 80 w) :=
  roots_any 80 3 408 KK (by omega) (by omega) (by omega) prl_three (fun n hn => Nat.lt_of_le_of_lt (prl_mono n 407 (by omega)) (by rw [prl_407]; omega)) (by omega) r_three w
theorem roots8 (w : World) : Calls Tryd.prog 13 #[.int .i64 8, .int .i64 2] w (WsPost (stl ini) 8 w) :=
  roots_any 8 2 18 (stl ini) (by omega) (by omega) (by omega) prl_two (fun n hn => Nat.lt_of_le_of_lt (prl_mono n 17 (by omega)) (by rw [prl_17]; omega)) (by omega) r_two w
theorem ws_of_made {M : List (BitVec 64)} {n : Nat} (hn : M.length = n) {w w' : World} {e : Ending} (h : MadeV M w e w') : WsPost M n w e w' := by
  obtain ⟨g, cap, he, hr, _, hb⟩ := h
  exact ⟨_, cap, by rw [← hn]; exact he, hr, hb⟩
theorem k_ws (w : World) : Calls Tryd.prog 14 #[] w (WsPost KK 80 w) := (K_any w).mono fun _ _ h => ws_of_made KK_len80 h
theorem first_ws (w : World) : Calls Tryd.prog 15 #[] w (WsPost (stl ini) 8 w) := (first_any w).mono fun _ _ h => ws_of_made rfl h
set_option maxHeartbeats 4000000 in
theorem roots_walk (w : World) (hG : Glob w) : Calls Tryd.prog 5 #[] w fun e w' => e = .returned (.bool true) ∧ Below w.heap.size w w' := by
  have hz := zero24
  have HG := Lib.hid hG
  have K7 := Lib.hid (sum_n none 0 0 [] w rfl hG (fun h => by simp at h) (Nat.le_refl _) (by omega) (by simp))
  obtain ⟨D, hD⟩ : ∃ D, D = sumB [] := ⟨_, rfl⟩
  have hDl : (vbs D).length = 64 := by rw [vbs_len, hD, sumB_len]
  rw [← hD] at K7
  have HD := Lib.hid hD
  have HDl := Lib.hid hDl
  have HI24 := Lib.hid (i24 hDl)
  clear hD hDl hG
  go_enter Tryd.func5, Tryd.ntmps5
  go_upto_region 2 with (first
    | (go_at_call 7; (with_reducible refine K7.out.mono ?_); rintro e w2 ⟨rfl, hb2⟩; have HB2 := Lib.hid hb2; have HTh2 : Hid ((w2.alloc (.cells (vbs Z64).toArray 24)).there w2.heap.size 0 64) := (Blk.new w2 24 (vbs Z64).toArray).there; clear hb2 K7; dsimp only)
    | (with_reducible refine wpList_store_mid rfl 24 (.tmp 1) (.tmp 2) rfl w2.heap.size 0 (vbs D).toArray rfl rfl (there_arr HTh2.out HDl.out) (info_arr HI24.out) (all_oneCell_toArray (vbs_one _)) ?_))
  have hb12 : Below w.heap.size w (w2.alloc (.cells (vbs Z64).toArray 24)) := HB2.out.alloc HB2.out.size _
  have hS2 : Blk ((w2.alloc (.cells (vbs Z64).toArray 24)).setCells w2.heap.size 0 (vbs D)) w2.heap.size 24 (vbs D) := (Blk.new w2 24 (vbs Z64).toArray).setCells (vbs D) (by rw [HDl.out]; rfl)
  have hSb := below_setCells (b := w2.heap.size) HB2.out.size (vbs D) 0 _ hb12
  generalize (w2.alloc (.cells (vbs Z64).toArray 24)).setCells w2.heap.size 0 (vbs D) = WF at hS2 hSb ⊢
  generalize w2.heap.size = G at hS2 ⊢
  have HSb := Lib.hid hSb
  have HS2 := Lib.hid hS2
  clear hS2 hSb hb12 hz HTh2 HI24
  generalize hW0 : WF.drew = W0
  have hd : Below WF.heap.size WF W0 := by rw [← hW0]; exact ⟨rfl, rfl, rfl, Nat.le_refl _, fun _ _ => rfl⟩
  have hBwW : Below w.heap.size w W0 := HSb.out.trans (hd.mono HSb.out.size)
  have hDW : Rd W0 W0.heap.size (some ⟨G, 0, none⟩) D := ((rd_of_blk HS2.out).keep hd).up hd.size
  have hDn : 64 = D.length := by have := HDl.out; rw [vbs_len] at this; exact this.symm
  have ED : Hid (∀ wq, SB W0 wq → (convert 22 9 (.slice (some ⟨G, 0, none⟩) 64 64)).run Tryd.prog wq = .ok (.string (strB D)) wq) := fun wq hq => conv_n (hq.rd hDW) hDn
  have HGW := Lib.hid (HG.out.below hBwW)
  have K8 : Hid (∀ wq, SB W0 wq → Calls Tryd.prog 8 #[.slice none 0 0] wq fun e w' => ∃ A' c, e = .returned (.slice A' 64 c) ∧ (convert 22 9 (.slice A' 64 c)).run Tryd.prog w' = .ok (.string (strB D)) w' ∧ SB W0 w') := fun wq hq =>
    (rsum_any none 0 0 [] wq rfl (fun h => by simp at h) (Nat.le_refl _) (fun _ => rfl) (by simp)).mono fun e w' ⟨v, he, ho, hb⟩ => by
      rw [← HD.out] at ho
      obtain ⟨A', c, rfl, hr, _⟩ := ho.rd
      rw [← hDn] at he
      exact ⟨A', c, he, conv_n hr hDn, hq.next hb⟩
  have KX : Hid (∀ wq, SB W0 wq → Calls Tryd.prog 9 #[] wq fun e w' => e = .returned (.bool true) ∧ SB W0 w') := fun wq hq =>
    (works_any wq (HGW.out.below hq)).mono fun e w' ⟨he, hb⟩ => ⟨he, hq.next hb⟩
  have K3 := Lib.hid roots80
  have K4 := Lib.hid k_ws
  have K2 := Lib.hid roots8
  have K5 := Lib.hid first_ws
  have S3 := Lib.hid (same_any KK 80 KK_len80 (by omega))
  have S2 := Lib.hid (same_any (stl ini) 8 rfl (by omega))
  obtain ⟨sd, hsd⟩ : ∃ s, s = strB D := ⟨_, rfl⟩
  rw [← hsd] at ED K8
  have HBW := Lib.hid hBwW
  have HS0 : Hid (SB W0 W0) := Below.refl _ _
  have hsl := fun wq => slice24all G wq
  clear hd hBwW hDW hDn hsd HS2 HSb HGW HG HD HDl
  refine wp_region_but (z := 999) (SB W0) (by kernel_rfl) ?_
  rw [hW0]
  have hS : SB W0 W0 := HS0.out
  clear hW0
  refine AnyBut.gone (i := 0) (by kernel_rfl) rfl (by rfl) (fun K hK => ?_)
  go_simp
  (with_reducible refine (K3.out _).mono ?_)
  rintro e w3 ⟨A3, c3, rfl, r3, hb3⟩
  have hS : SB W0 w3 := SB.next hS hb3
  clear hb3
  dsimp only
  refine hK _ _ (fun _ => hS) ?_
  clear hK K
  try simp only [Act.put, List.setIfInBounds_toArray, List.set_cons_zero, List.set_cons_succ, List.getElem_toArray, List.getElem_cons_zero, List.getElem_cons_succ]
  refine AnyBut.gone (i := 1) (by kernel_rfl) rfl (by rfl) (fun K hK => ?_)
  go_simp
  (with_reducible refine (K4.out _).mono ?_)
  rintro e w4 ⟨A4, c4, rfl, r4, hb4⟩
  have r3' := (r3.keep hb4 (Nat.le_refl _)).up hb4.size
  have hS : SB W0 w4 := SB.next hS hb4
  clear hb4 r3
  dsimp only
  refine hK _ _ (fun _ => hS) ?_
  clear hK K
  try simp only [Act.put, List.setIfInBounds_toArray, List.set_cons_zero, List.set_cons_succ, List.getElem_toArray, List.getElem_cons_zero, List.getElem_cons_succ]
  refine AnyBut.gone (i := 2) (by kernel_rfl) rfl (by rfl) (fun K hK => ?_)
  go_simp
  (with_reducible refine (S3.out _ _ _ _ _ r3' r4).mono ?_)
  rintro e w5 ⟨rfl, hb5⟩
  have hS : SB W0 w5 := SB.next hS hb5
  clear hb5 r3' r4
  dsimp only
  refine hK _ _ (fun _ => hS) ?_
  clear hK K
  try simp only [Act.put, List.setIfInBounds_toArray, List.set_cons_zero, List.set_cons_succ, List.getElem_toArray, List.getElem_cons_zero, List.getElem_cons_succ]
  refine AnyBut.gone (i := 3) (by kernel_rfl) rfl (by rfl) (fun K hK => ?_)
  go_simp
  refine hK _ _ (fun _ => hS) ?_
  clear hK K
  try simp only [Act.put, List.setIfInBounds_toArray, List.set_cons_zero, List.set_cons_succ, List.getElem_toArray, List.getElem_cons_zero, List.getElem_cons_succ]
  refine AnyBut.gone (i := 4) (by kernel_rfl) rfl (by rfl) (fun K hK => ?_)
  go_simp
  (with_reducible refine (K2.out _).mono ?_)
  rintro e w6 ⟨A6, c6, rfl, r6, hb6⟩
  have hS : SB W0 w6 := SB.next hS hb6
  clear hb6
  dsimp only
  refine hK _ _ (fun _ => hS) ?_
  clear hK K
  try simp only [Act.put, List.setIfInBounds_toArray, List.set_cons_zero, List.set_cons_succ, List.getElem_toArray, List.getElem_cons_zero, List.getElem_cons_succ]
  refine AnyBut.gone (i := 5) (by kernel_rfl) rfl (by rfl) (fun K hK => ?_)
  go_simp
  (with_reducible refine (K5.out _).mono ?_)
  rintro e w7 ⟨A7, c7, rfl, r7, hb7⟩
  have r6' := (r6.keep hb7 (Nat.le_refl _)).up hb7.size
  have hS : SB W0 w7 := SB.next hS hb7
  clear hb7 r6
  dsimp only
  refine hK _ _ (fun _ => hS) ?_
  clear hK K
  try simp only [Act.put, List.setIfInBounds_toArray, List.set_cons_zero, List.set_cons_succ, List.getElem_toArray, List.getElem_cons_zero, List.getElem_cons_succ]
  refine AnyBut.gone (i := 6) (by kernel_rfl) rfl (by rfl) (fun K hK => ?_)
  go_simp
  (with_reducible refine (S2.out _ _ _ _ _ r6' r7).mono ?_)
  rintro e w8 ⟨rfl, hb8⟩
  have hS : SB W0 w8 := SB.next hS hb8
  clear hb8 r6' r7
  dsimp only
  refine hK _ _ (fun _ => hS) ?_
  clear hK K
  try simp only [Act.put, List.setIfInBounds_toArray, List.set_cons_zero, List.set_cons_succ, List.getElem_toArray, List.getElem_cons_zero, List.getElem_cons_succ]
  refine AnyBut.gone (i := 7) (by kernel_rfl) rfl (by rfl) (fun K hK => ?_)
  go_simp
  refine hK _ _ (fun _ => hS) ?_
  clear hK K
  try simp only [Act.put, List.setIfInBounds_toArray, List.set_cons_zero, List.set_cons_succ, List.getElem_toArray, List.getElem_cons_zero, List.getElem_cons_succ]
  refine AnyBut.gone (i := 8) (by kernel_rfl) rfl (by rfl) (fun K hK => ?_)
  go_simp
  refine hK _ _ (fun _ => hS) ?_
  clear hK K
  try simp only [Act.put, List.setIfInBounds_toArray, List.set_cons_zero, List.set_cons_succ, List.getElem_toArray, List.getElem_cons_zero, List.getElem_cons_succ]
  refine AnyBut.takeE (i := 9) (v := .slice (some ⟨G, 0, none⟩) 64 64) rfl (by kernel_rfl) (by kernel_rfl) (by kernel_rfl) (by kernel_rfl) (fun _ _ _ h => h) (Or.inl ⟨by rfl, ?_⟩) hS ?_
  · intro wq hq
    go_simp
  try simp only [Act.put, List.setIfInBounds_toArray, List.set_cons_zero, List.set_cons_succ, List.getElem_toArray, List.getElem_cons_zero, List.getElem_cons_succ]
  refine AnyBut.takeE (i := 10) (v := .string sd) rfl (by kernel_rfl) (by kernel_rfl) (by kernel_rfl) (by kernel_rfl) (fun _ _ _ h => h) (Or.inl ⟨by rfl, ?_⟩) hS ?_
  · intro wq hq
    go_simp
    rw [ED.out wq hq]
    rfl
  try simp only [Act.put, List.setIfInBounds_toArray, List.set_cons_zero, List.set_cons_succ, List.getElem_toArray, List.getElem_cons_zero, List.getElem_cons_succ]
  refine AnyBut.gone (i := 11) (by kernel_rfl) rfl (by rfl) (fun K hK => ?_)
  go_simp
  (with_reducible refine (K8.out _ hS).mono ?_)
  rintro e w9 ⟨A9, c9, rfl, e9, hS⟩
  dsimp only
  refine hK _ _ (fun _ => hS) ?_
  clear hK K
  try simp only [Act.put, List.setIfInBounds_toArray, List.set_cons_zero, List.set_cons_succ, List.getElem_toArray, List.getElem_cons_zero, List.getElem_cons_succ]
  refine AnyBut.gone (i := 12) (by kernel_rfl) rfl (by rfl) (fun K hK => ?_)
  go_simp
  refine hK _ _ (fun _ => hS) ?_
  clear hK K
  try simp only [Act.put, List.setIfInBounds_toArray, List.set_cons_zero, List.set_cons_succ, List.getElem_toArray, List.getElem_cons_zero, List.getElem_cons_succ]
  clear e9
  refine AnyBut.gone (i := 13) (by kernel_rfl) rfl (by rfl) (fun K hK => ?_)
  go_simp
  refine hK _ _ (fun _ => hS) ?_
  clear hK K
  try simp only [Act.put, List.setIfInBounds_toArray, List.set_cons_zero, List.set_cons_succ, List.getElem_toArray, List.getElem_cons_zero, List.getElem_cons_succ]
  refine AnyBut.gone (i := 14) (by kernel_rfl) rfl (by rfl) (fun K hK => ?_)
  go_simp
  refine hK _ _ (fun _ => hS) ?_
  clear hK K
  try simp only [Act.put, List.setIfInBounds_toArray, List.set_cons_zero, List.set_cons_succ, List.getElem_toArray, List.getElem_cons_zero, List.getElem_cons_succ]
  refine AnyBut.gone (i := 15) (by kernel_rfl) rfl (by rfl) (fun K hK => ?_)
  go_simp
  refine hK _ _ (fun _ => hS) ?_
  clear hK K
  try simp only [Act.put, List.setIfInBounds_toArray, List.set_cons_zero, List.set_cons_succ, List.getElem_toArray, List.getElem_cons_zero, List.getElem_cons_succ]
  refine AnyBut.gone (i := 16) (by kernel_rfl) rfl (by rfl) (fun K hK => ?_)
  go_simp
  (with_reducible refine (KX.out _ hS).mono ?_)
  rintro e w10 ⟨rfl, hS⟩
  dsimp only
  refine hK _ _ (fun _ => hS) ?_
  clear hK K
  try simp only [Act.put, List.setIfInBounds_toArray, List.set_cons_zero, List.set_cons_succ, List.getElem_toArray, List.getElem_cons_zero, List.getElem_cons_succ]
  refine AnyBut.gone (i := 17) (by kernel_rfl) rfl (by rfl) (fun K hK => ?_)
  go_simp
  refine hK _ _ (fun _ => hS) ?_
  clear hK K
  try simp only [Act.put, List.setIfInBounds_toArray, List.set_cons_zero, List.set_cons_succ, List.getElem_toArray, List.getElem_cons_zero, List.getElem_cons_succ]
  refine AnyBut.gone (i := 18) (by kernel_rfl) rfl (by rfl) (fun K hK => ?_)
  go_simp
  refine hK _ _ (fun _ => hS) ?_
  clear hK K
  refine AnyBut.done (by kernel_rfl) ?_ _
  dsimp only [Exit.then]
  have HS8 := Lib.hid hS
  clear hS
  go_wp2
  go_ret
  exact ⟨rfl, HBW.out.trans (Below.mono HS8.out HBW.out.size)⟩
end Go.Proofs.YtffngfjbaimbhaaDoor
