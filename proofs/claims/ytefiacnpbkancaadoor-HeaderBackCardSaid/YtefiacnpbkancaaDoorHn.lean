/- The law HeaderPuts returns true for every header and every hash, in a world whose two tables are as laid. -/
import Derived.Test.YtefiacnpbkancaaDoorHm
namespace Go.Proofs.YtefiacnpbkancaaDoor
open Go.RowKit
set_option linter.unusedVariables false
set_option linter.unusedSimpArgs false
set_option maxRecDepth 100000
/-- The condition may be made stronger on the way. -/
theorem AnyBut.stronger {P : Program} {ops : Array Oper} {Q : Exit → Act → World → Prop} {md : Region.Mode} {S S' : World → Prop} {z : Nat} (hS : ∀ w, S' w → S w) :
    ∀ {n : Nat} {listed : Array Bool} {a : Act} {w : World}, AnyBut P md ops Q S' z n listed a w → AnyBut P md ops Q S z n listed a w
  | 0, _, _, _, h => h
  | n + 1, _, _, _, h => ⟨h.1, fun i hi => wpOp_mono (fun a' w' h' => ⟨fun hz => hS _ (h'.1 hz), AnyBut.stronger hS h'.2⟩) (h.2 i hi)⟩
theorem SB.trans {a b c : World} (h : SB a b) (k : SB b c) : SB a c := Below.trans h (Below.mono k h.size)
theorem conv_ob {w wq : World} {B n c : Nat} {A : Option Addr} {L : List (BitVec 8)} (h : OB w B (.slice A n c) L) (hq : SB w wq) : (convert 27 9 (.slice A n c)).run Tryd.prog wq = .ok (.string (strB L)) wq := by
  obtain ⟨A', c', e, hr, _⟩ := slice_form h
  cases e
  exact conv_n (up_to hr hq (Nat.le_refl _)) rfl
theorem str_same (s : ByteArray) : (s.toList == s.toList) = true := by simp
set_option maxHeartbeats 8000000 in
theorem puts_walk (h : THd) (k : HdOk h) (R : List (BitVec 8)) (hR : R.length = 32) (w : World) (hG : Glob w) : Calls Tryd.prog 3 #[.agg (hdV h).toArray, .agg (vbs R).toArray] w fun e w' => e = .returned (.bool true) ∧ Below w.heap.size w w' := by
  have KP := Lib.hid (fun wq => hput_any h k wq)
  have KRP := Lib.hid (fun wq => rput_any h k wq)
  have KID := Lib.hid (fun wq g => hid_any h k wq g)
  have KRID := Lib.hid (fun wq g => rid_any h k wq g)
  have KT := Lib.hid (fun wq => htext_any R hR wq)
  have KRT := Lib.hid (fun wq => hrtext_any R hR wq)
  have KW := Lib.hid (fun wq g => works_any wq g)
  have hDl : (twiceB (hdB h)).length = 32 := sumB_len _
  obtain ⟨D, hD⟩ : ∃ D, D = twiceB (hdB h) := ⟨_, rfl⟩
  rw [← hD] at KID KRID hDl
  obtain ⟨s, hs⟩ : ∃ s, s = strB (hexs R.reverse) := ⟨_, rfl⟩
  rw [← hs] at KT KRT
  have heq : Hid (∀ w, (Op.equalIn 10000 24 (.agg (vbs D).toArray) (.agg (vbs D).toArray)).run Tryd.prog w = .ok true w) := fun w => by rw [eqIn24 9998 D D hDl hDl w]; simp
  have HI := Lib.hid (info26 k)
  have HI24 := Lib.hid (i24w hR)
  have HG := Lib.hid hG
  have es : (w.alloc (.cells (hdV h).toArray 26)).heap.size = w.heap.size + 1 := by simp
  have E26 : Hid (∀ wq, SB ((w.alloc (.cells (hdV h).toArray 26)).alloc (.cells (vbs R).toArray 24)).drew wq → wq.rangeAt w.heap.size 0 (hdV h)) := fun wq hq =>
    SB.range hq (((Blk.new w 26 (hdV h).toArray).alloc (.cells (vbs R).toArray 24)).drew).range (by simp; omega)
  have E24 : Hid (∀ wq, SB ((w.alloc (.cells (hdV h).toArray 26)).alloc (.cells (vbs R).toArray 24)).drew wq → wq.rangeAt (w.heap.size + 1) 0 (vbs R)) := fun wq hq => by
    have h1 := (Blk.new (w.alloc (.cells (hdV h).toArray 26)) 24 (vbs R).toArray).drew
    rw [es] at h1
    exact SB.range hq h1.range (by simp)
  have HB0 : Hid (Below w.heap.size w ((w.alloc (.cells (hdV h).toArray 26)).alloc (.cells (vbs R).toArray 24)).drew) := (((Below.refl w.heap.size w).alloc (Nat.le_refl _) _).alloc (by simp) _).drew
  have es' : Hid ((w.alloc (.cells (hdV h).toArray 26)).heap.size = w.heap.size + 1) := es
  clear hD hDl hs hG k hR es
  go_enter Tryd.func3, Tryd.ntmps3
  go_upto_region 1 with fail
  try simp only [es'.out]
  generalize hWd : ((w.alloc (.cells (hdV h).toArray 26)).alloc (.cells (vbs R).toArray 24)).drew = Wd
  rw [hWd] at E26 E24 HB0
  refine wp_region_but (z := 999) (SB Wd) (by kernel_rfl) ?_
  rw [hWd]
  have hS : SB Wd Wd := SB.refl Wd
  clear hWd
  have HSd : Hid (SB Wd Wd) := hS
  have T0 : Hid (∀ wq, SB Wd wq → Glob wq) := fun wq hq => HG.out.below (HB0.out.trans (Below.mono hq HB0.out.size))
  refine AnyBut.takeE (i := 0) (v := .agg (hdV h).toArray) rfl (by kernel_rfl) (by kernel_rfl) (by kernel_rfl) (by kernel_rfl) (fun _ _ _ h => h) ?_ hS ?_
  · exact yieldsIf_load_mid (by rfl) 26 (.tmp 2) rfl (w.heap.size) 0 rfl (hdV h) _ (fun wq hq => E26.out wq (SB.trans HSd.out hq)) Tryd.underlying26 rfl HI.out
  try simp only [Act.put, List.setIfInBounds_toArray, List.set_cons_zero, List.set_cons_succ, List.getElem_toArray, List.getElem_cons_zero, List.getElem_cons_succ]
  refine AnyBut.takeE (i := 3) (v := .agg (hdV h).toArray) rfl (by kernel_rfl) (by kernel_rfl) (by kernel_rfl) (by kernel_rfl) (fun _ _ _ h => h) ?_ hS ?_
  · exact yieldsIf_load_mid (by rfl) 26 (.tmp 2) rfl (w.heap.size) 0 rfl (hdV h) _ (fun wq hq => E26.out wq (SB.trans HSd.out hq)) Tryd.underlying26 rfl HI.out
  try simp only [Act.put, List.setIfInBounds_toArray, List.set_cons_zero, List.set_cons_succ, List.getElem_toArray, List.getElem_cons_zero, List.getElem_cons_succ]
  refine AnyBut.gone (i := 1) (by kernel_rfl) rfl (by rfl) (fun K hK => ?_)
  go_simp
  (with_reducible refine (KP.out _).mono ?_)
  rintro e w1 ⟨v1, rfl, ho, hb⟩
  obtain ⟨A1, c1, rfl, _, _⟩ := slice_form ho
  have HO1 := Lib.hid ho
  clear ho
  have hS1 : SB Wd w1 := SB.next hS hb
  have HS1 := Lib.hid hS1
  have HBl1 := Lib.hid hb
  clear hb
  dsimp only
  refine hK _ _ (fun _ => hS1) ?_
  clear hK K hS
  try simp only [Act.put, List.setIfInBounds_toArray, List.set_cons_zero, List.set_cons_succ, List.getElem_toArray, List.getElem_cons_zero, List.getElem_cons_succ]
  refine AnyBut.stronger (S' := SB w1) (fun _ h => Below.trans hS1 (Below.mono h hS1.size)) ?_
  clear hS1
  have hS : SB w1 w1 := SB.refl w1
  have HX1 : Hid (SB Wd w1) := SB.trans HSd.out HS1.out
  refine AnyBut.takeE (i := 2) (v := .string (strB (hdB h))) rfl (by kernel_rfl) (by kernel_rfl) (by kernel_rfl) (by kernel_rfl) (fun _ _ _ h => h) (Or.inl ⟨by rfl, ?_⟩) hS ?_
  · intro wq hq
    have hc := conv_ob HO1.out hq
    go_simp
  try simp only [Act.put, List.setIfInBounds_toArray, List.set_cons_zero, List.set_cons_succ, List.getElem_toArray, List.getElem_cons_zero, List.getElem_cons_succ]
  refine AnyBut.gone (i := 4) (by kernel_rfl) rfl (by rfl) (fun K hK => ?_)
  go_simp
  (with_reducible refine (KRP.out _).mono ?_)
  rintro e w2 ⟨v2, rfl, ho, hb⟩
  obtain ⟨A2, c2, rfl, _, _⟩ := slice_form ho
  have HO2 := Lib.hid ho
  clear ho
  have hS2 : SB w1 w2 := SB.next hS hb
  have HS2 := Lib.hid hS2
  have HBl2 := Lib.hid hb
  clear hb
  dsimp only
  refine hK _ _ (fun _ => hS2) ?_
  clear hK K hS
  try simp only [Act.put, List.setIfInBounds_toArray, List.set_cons_zero, List.set_cons_succ, List.getElem_toArray, List.getElem_cons_zero, List.getElem_cons_succ]
  refine AnyBut.stronger (S' := SB w2) (fun _ h => Below.trans hS2 (Below.mono h hS2.size)) ?_
  clear hS2
  have hS : SB w2 w2 := SB.refl w2
  have HX2 : Hid (SB Wd w2) := SB.trans HX1.out HS2.out
  refine AnyBut.takeE (i := 5) (v := .string (strB (hdB h))) rfl (by kernel_rfl) (by kernel_rfl) (by kernel_rfl) (by kernel_rfl) (fun _ _ _ h => h) (Or.inl ⟨by rfl, ?_⟩) hS ?_
  · intro wq hq
    have hc := conv_ob HO2.out hq
    go_simp
  try simp only [Act.put, List.setIfInBounds_toArray, List.set_cons_zero, List.set_cons_succ, List.getElem_toArray, List.getElem_cons_zero, List.getElem_cons_succ]
  refine AnyBut.takeE (i := 6) (v := .bool true) rfl (by kernel_rfl) (by kernel_rfl) (by kernel_rfl) (by kernel_rfl) (fun _ _ _ h => h) (Or.inl ⟨by rfl, ?_⟩) hS ?_
  · intro wq hq
    have hss := str_same (strB (hdB h))
    go_simp
  try simp only [Act.put, List.setIfInBounds_toArray, List.set_cons_zero, List.set_cons_succ, List.getElem_toArray, List.getElem_cons_zero, List.getElem_cons_succ]
  refine AnyBut.takeE (i := 7) (v := ?_) rfl (by kernel_rfl) (by kernel_rfl) (by kernel_rfl) (by kernel_rfl) (fun _ _ _ h => h) (Or.inl ⟨by rfl, ?_⟩) hS ?_
  rotate_left
  · (intro wq hq; go_simp; try with_reducible rfl)
  try simp only [Act.put, List.setIfInBounds_toArray, List.set_cons_zero, List.set_cons_succ, List.getElem_toArray, List.getElem_cons_zero, List.getElem_cons_succ]
  refine AnyBut.takeE (i := 8) (v := .agg (hdV h).toArray) rfl (by kernel_rfl) (by kernel_rfl) (by kernel_rfl) (by kernel_rfl) (fun _ _ _ h => h) ?_ hS ?_
  · exact yieldsIf_load_mid (by rfl) 26 (.tmp 2) rfl (w.heap.size) 0 rfl (hdV h) _ (fun wq hq => E26.out wq (SB.trans HX2.out hq)) Tryd.underlying26 rfl HI.out
  try simp only [Act.put, List.setIfInBounds_toArray, List.set_cons_zero, List.set_cons_succ, List.getElem_toArray, List.getElem_cons_zero, List.getElem_cons_succ]
  refine AnyBut.takeE (i := 10) (v := .agg (hdV h).toArray) rfl (by kernel_rfl) (by kernel_rfl) (by kernel_rfl) (by kernel_rfl) (fun _ _ _ h => h) ?_ hS ?_
  · exact yieldsIf_load_mid (by rfl) 26 (.tmp 2) rfl (w.heap.size) 0 rfl (hdV h) _ (fun wq hq => E26.out wq (SB.trans HX2.out hq)) Tryd.underlying26 rfl HI.out
  try simp only [Act.put, List.setIfInBounds_toArray, List.set_cons_zero, List.set_cons_succ, List.getElem_toArray, List.getElem_cons_zero, List.getElem_cons_succ]
  refine AnyBut.gone (i := 9) (by kernel_rfl) rfl (by rfl) (fun K hK => ?_)
  go_simp
  (with_reducible refine (KID.out _ (T0.out _ HX2.out)).mono ?_)
  rintro e w3 ⟨rfl, hb⟩
  have hS3 : SB w2 w3 := SB.next hS hb
  have HS3 := Lib.hid hS3
  have HBl3 := Lib.hid hb
  clear hb
  dsimp only
  refine hK _ _ (fun _ => hS3) ?_
  clear hK K hS
  try simp only [Act.put, List.setIfInBounds_toArray, List.set_cons_zero, List.set_cons_succ, List.getElem_toArray, List.getElem_cons_zero, List.getElem_cons_succ]
  refine AnyBut.stronger (S' := SB w3) (fun _ h => Below.trans hS3 (Below.mono h hS3.size)) ?_
  clear hS3
  have hS : SB w3 w3 := SB.refl w3
  have HX3 : Hid (SB Wd w3) := SB.trans HX2.out HS3.out
  refine AnyBut.gone (i := 11) (by kernel_rfl) rfl (by rfl) (fun K hK => ?_)
  go_simp
  (with_reducible refine (KRID.out _ (T0.out _ HX3.out)).mono ?_)
  rintro e w4 ⟨rfl, hb⟩
  have hS4 : SB w3 w4 := SB.next hS hb
  have HS4 := Lib.hid hS4
  have HBl4 := Lib.hid hb
  clear hb
  dsimp only
  refine hK _ _ (fun _ => hS4) ?_
  clear hK K hS
  try simp only [Act.put, List.setIfInBounds_toArray, List.set_cons_zero, List.set_cons_succ, List.getElem_toArray, List.getElem_cons_zero, List.getElem_cons_succ]
  refine AnyBut.stronger (S' := SB w4) (fun _ h => Below.trans hS4 (Below.mono h hS4.size)) ?_
  clear hS4
  have hS : SB w4 w4 := SB.refl w4
  have HX4 : Hid (SB Wd w4) := SB.trans HX3.out HS4.out
  refine AnyBut.takeE (i := 12) (v := .bool true) rfl (by kernel_rfl) (by kernel_rfl) (by kernel_rfl) (by kernel_rfl) (fun _ _ _ h => h) (Or.inl ⟨by rfl, ?_⟩) hS ?_
  · intro wq hq
    have he := heq.out wq
    go_simp
  try simp only [Act.put, List.setIfInBounds_toArray, List.set_cons_zero, List.set_cons_succ, List.getElem_toArray, List.getElem_cons_zero, List.getElem_cons_succ]
  refine AnyBut.takeE (i := 13) (v := ?_) rfl (by kernel_rfl) (by kernel_rfl) (by kernel_rfl) (by kernel_rfl) (fun _ _ _ h => h) (Or.inl ⟨by rfl, ?_⟩) hS ?_
  rotate_left
  · (intro wq hq; go_simp; try with_reducible rfl)
  try simp only [Act.put, List.setIfInBounds_toArray, List.set_cons_zero, List.set_cons_succ, List.getElem_toArray, List.getElem_cons_zero, List.getElem_cons_succ]
  refine AnyBut.takeE (i := 14) (v := ?_) rfl (by kernel_rfl) (by kernel_rfl) (by kernel_rfl) (by kernel_rfl) (fun _ _ _ h => h) (Or.inl ⟨by rfl, ?_⟩) hS ?_
  rotate_left
  · (intro wq hq; go_simp; try with_reducible rfl)
  try simp only [Act.put, List.setIfInBounds_toArray, List.set_cons_zero, List.set_cons_succ, List.getElem_toArray, List.getElem_cons_zero, List.getElem_cons_succ]
  refine AnyBut.takeE (i := 15) (v := .agg (vbs R).toArray) rfl (by kernel_rfl) (by kernel_rfl) (by kernel_rfl) (by kernel_rfl) (fun _ _ _ h => h) ?_ hS ?_
  · exact yieldsIf_load_mid (by rfl) 24 (.tmp 3) rfl (w.heap.size + 1) 0 rfl (vbs R) _ (fun wq hq => E24.out wq (SB.trans HX4.out hq)) Tryd.underlying24 rfl HI24.out
  try simp only [Act.put, List.setIfInBounds_toArray, List.set_cons_zero, List.set_cons_succ, List.getElem_toArray, List.getElem_cons_zero, List.getElem_cons_succ]
  refine AnyBut.takeE (i := 17) (v := .agg (vbs R).toArray) rfl (by kernel_rfl) (by kernel_rfl) (by kernel_rfl) (by kernel_rfl) (fun _ _ _ h => h) ?_ hS ?_
  · exact yieldsIf_load_mid (by rfl) 24 (.tmp 3) rfl (w.heap.size + 1) 0 rfl (vbs R) _ (fun wq hq => E24.out wq (SB.trans HX4.out hq)) Tryd.underlying24 rfl HI24.out
  try simp only [Act.put, List.setIfInBounds_toArray, List.set_cons_zero, List.set_cons_succ, List.getElem_toArray, List.getElem_cons_zero, List.getElem_cons_succ]
  refine AnyBut.gone (i := 16) (by kernel_rfl) rfl (by rfl) (fun K hK => ?_)
  go_simp
  (with_reducible refine (KT.out _).mono ?_)
  rintro e w5 ⟨rfl, hb⟩
  have hS5 : SB w4 w5 := SB.next hS hb
  have HS5 := Lib.hid hS5
  have HBl5 := Lib.hid hb
  clear hb
  dsimp only
  refine hK _ _ (fun _ => hS5) ?_
  clear hK K hS
  try simp only [Act.put, List.setIfInBounds_toArray, List.set_cons_zero, List.set_cons_succ, List.getElem_toArray, List.getElem_cons_zero, List.getElem_cons_succ]
  refine AnyBut.stronger (S' := SB w5) (fun _ h => Below.trans hS5 (Below.mono h hS5.size)) ?_
  clear hS5
  have hS : SB w5 w5 := SB.refl w5
  have HX5 : Hid (SB Wd w5) := SB.trans HX4.out HS5.out
  refine AnyBut.gone (i := 18) (by kernel_rfl) rfl (by rfl) (fun K hK => ?_)
  go_simp
  (with_reducible refine (KRT.out _).mono ?_)
  rintro e w6 ⟨rfl, hb⟩
  have hS6 : SB w5 w6 := SB.next hS hb
  have HS6 := Lib.hid hS6
  have HBl6 := Lib.hid hb
  clear hb
  dsimp only
  refine hK _ _ (fun _ => hS6) ?_
  clear hK K hS
  try simp only [Act.put, List.setIfInBounds_toArray, List.set_cons_zero, List.set_cons_succ, List.getElem_toArray, List.getElem_cons_zero, List.getElem_cons_succ]
  refine AnyBut.stronger (S' := SB w6) (fun _ h => Below.trans hS6 (Below.mono h hS6.size)) ?_
  clear hS6
  have hS : SB w6 w6 := SB.refl w6
  have HX6 : Hid (SB Wd w6) := SB.trans HX5.out HS6.out
  refine AnyBut.takeE (i := 19) (v := .bool true) rfl (by kernel_rfl) (by kernel_rfl) (by kernel_rfl) (by kernel_rfl) (fun _ _ _ h => h) (Or.inl ⟨by rfl, ?_⟩) hS ?_
  · intro wq hq
    have hss := str_same s
    go_simp
  try simp only [Act.put, List.setIfInBounds_toArray, List.set_cons_zero, List.set_cons_succ, List.getElem_toArray, List.getElem_cons_zero, List.getElem_cons_succ]
  refine AnyBut.takeE (i := 20) (v := ?_) rfl (by kernel_rfl) (by kernel_rfl) (by kernel_rfl) (by kernel_rfl) (fun _ _ _ h => h) (Or.inl ⟨by rfl, ?_⟩) hS ?_
  rotate_left
  · (intro wq hq; go_simp; try with_reducible rfl)
  try simp only [Act.put, List.setIfInBounds_toArray, List.set_cons_zero, List.set_cons_succ, List.getElem_toArray, List.getElem_cons_zero, List.getElem_cons_succ]
  refine AnyBut.takeE (i := 21) (v := ?_) rfl (by kernel_rfl) (by kernel_rfl) (by kernel_rfl) (by kernel_rfl) (fun _ _ _ h => h) (Or.inl ⟨by rfl, ?_⟩) hS ?_
  rotate_left
  · (intro wq hq; go_simp; try with_reducible rfl)
  try simp only [Act.put, List.setIfInBounds_toArray, List.set_cons_zero, List.set_cons_succ, List.getElem_toArray, List.getElem_cons_zero, List.getElem_cons_succ]
  refine AnyBut.gone (i := 22) (by kernel_rfl) rfl (by rfl) (fun K hK => ?_)
  go_simp
  (with_reducible refine (KW.out _ (T0.out _ HX6.out)).mono ?_)
  rintro e w7 ⟨rfl, hb⟩
  have hS7 : SB w6 w7 := SB.next hS hb
  have HS7 := Lib.hid hS7
  have HBl7 := Lib.hid hb
  clear hb
  dsimp only
  refine hK _ _ (fun _ => hS7) ?_
  clear hK K hS
  try simp only [Act.put, List.setIfInBounds_toArray, List.set_cons_zero, List.set_cons_succ, List.getElem_toArray, List.getElem_cons_zero, List.getElem_cons_succ]
  refine AnyBut.stronger (S' := SB w7) (fun _ h => Below.trans hS7 (Below.mono h hS7.size)) ?_
  clear hS7
  have hS : SB w7 w7 := SB.refl w7
  have HX7 : Hid (SB Wd w7) := SB.trans HX6.out HS7.out
  refine AnyBut.takeE (i := 23) (v := ?_) rfl (by kernel_rfl) (by kernel_rfl) (by kernel_rfl) (by kernel_rfl) (fun _ _ _ h => h) (Or.inl ⟨by rfl, ?_⟩) hS ?_
  rotate_left
  · (intro wq hq; go_simp; try with_reducible rfl)
  try simp only [Act.put, List.setIfInBounds_toArray, List.set_cons_zero, List.set_cons_succ, List.getElem_toArray, List.getElem_cons_zero, List.getElem_cons_succ]
  refine AnyBut.gone (i := 24) (by kernel_rfl) rfl (by rfl) (fun K hK => ?_)
  go_simp
  refine hK _ _ (fun _ => hS) ?_
  clear hK K
  refine AnyBut.done (by kernel_rfl) ?_ _
  try dsimp only [Exit.then]
  clear hS
  go_wp2_with fail
  go_ret
  exact ⟨rfl, HB0.out.trans (Below.mono HX7.out HB0.out.size)⟩
end Go.Proofs.YtefiacnpbkancaaDoor
