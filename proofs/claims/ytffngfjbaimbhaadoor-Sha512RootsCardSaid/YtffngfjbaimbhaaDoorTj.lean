/- The law Sha512Sums returns true for every slice of bytes, in a world whose two tables are as laid. -/
import Derived.Test.YtffngfjbaimbhaaDoorTi
import Derived.Test.YtffngfjbaimbhaaDoorKb
import Derived.Outline
namespace Go.Proofs.YtffngfjbaimbhaaDoor
open Go.RowKit
set_option linter.unusedVariables false
set_option linter.unusedSimpArgs false
set_option maxRecDepth 100000
theorem conv_n {w : World} {A : Option Addr} {L : List (BitVec 8)} {n c B : Nat} (h : Rd w B A L) (hn : n = L.length) : (convert 22 9 (.slice A n c)).run Tryd.prog w = .ok (.string (strB L)) w :=
  run_conv_slice w Tryd.underlying22 Tryd.underlying5 Tryd.underlying9 A L n c hn B h
theorem Rd.takeB {w : World} {B : Nat} {A : Option Addr} {L : List (BitVec 8)} (h : Rd w B A L) (n : Nat) (hn : n ≤ L.length) : Rd w B A (L.take n) := fun hp => by
  rw [List.length_take] at hp
  obtain ⟨b, o, e, hb, hc⟩ := h (by omega)
  refine ⟨b, o, e, hb, fun j hj => ?_⟩
  rw [List.length_take] at hj
  rw [hc j (by omega)]
  simp [List.getD, List.getElem?_take, show j < n by omega]
theorem rd_of_blk {w : World} {b T : Nat} {R : List (BitVec 8)} (h : Blk w b T (vbs R)) : Rd w w.heap.size (some ⟨b, 0, none⟩) R := fun hp => ⟨b, 0, rfl, h.lt, fun j hj => by rw [Nat.zero_add]; exact h.cell (vbs_at hj)⟩
theorem SB.next {W0 w w' : World} (h : SB W0 w) (hb : Below w.heap.size w w') : SB W0 w' := Below.trans h (hb.mono (Below.size h))
theorem SB.rd {W0 w : World} {A : Option Addr} {R : List (BitVec 8)} (h : SB W0 w) (hr : Rd W0 W0.heap.size A R) : Rd w W0.heap.size A R := hr.keep h
theorem sum_n (A : Option Addr) (n cap : Nat) (R : List (BitVec 8)) (w : World) (hn : R.length = n) (hG : Glob w) (hR : Rd w w.heap.size A R) (hcap : R.length ≤ cap) (hc : cap ≤ 9223372036854775807) (hl : R.length < 1152921504606846976) :
    Calls Tryd.prog 7 #[.slice A n cap] w fun e w' => e = .returned (.agg (vbs (sumB R)).toArray) ∧ Below w.heap.size w w' := by
  subst hn; exact sum_any A cap R w hG hR hcap hc hl
theorem sumB_len (R : List (BitVec 8)) : (sumB R).length = 64 := digB_len _ R
set_option maxHeartbeats 4000000 in
theorem sums_walk (A : Option Addr) (cap : Nat) (R : List (BitVec 8)) (w : World) (hG : Glob w) (hR : Rd w w.heap.size A R) (hcap : R.length ≤ cap) (hA : A = none → cap = 0) (hm : cap ≤ 9223372036854775807) :
    Calls Tryd.prog 3 #[.slice A R.length cap] w fun e w' => e = .returned (.bool true) ∧ Below w.heap.size w w' := by
  have hz := zero24
  have KC := Lib.hid (cut_row A R.length cap w hcap hm)
  obtain ⟨m, hmm⟩ : ∃ m, m = min R.length 2000 := ⟨_, rfl⟩
  obtain ⟨X, hX⟩ : ∃ X, X = R.take m := ⟨_, rfl⟩
  have hXl : X.length = m := by rw [hX, List.length_take]; omega
  have hRX : Rd w w.heap.size A X := by rw [hX]; exact hR.takeB m (by omega)
  have hm2 : m ≤ 2000 := by omega
  have hmc : m ≤ cap := by omega
  have HRX := Lib.hid hRX
  have HXl := Lib.hid hXl
  have HA := Lib.hid hA
  have HG := Lib.hid hG
  have Hm2 := Lib.hid hm2
  have Hmc := Lib.hid hmc
  rw [← hmm] at KC
  obtain ⟨n, hn⟩ : ∃ n, n = R.length := ⟨_, rfl⟩
  rw [← hn] at KC ⊢
  have hb0 : Below w.heap.size w (w.alloc (Obj.cells #[] 5)) := (Below.refl _ _).alloc (Nat.le_refl _) _
  have HO0 := Lib.hid (show OB (w.alloc (Obj.cells #[] 5)) w.heap.size (.slice (some ⟨w.heap.size, 0, none⟩) 0 0) [] from owns_empty w w.heap.size (Nat.le_refl _))
  have HB0 := Lib.hid hb0
  have HS0 := Lib.hid (src_of_rd (hRX.keep hb0))
  have Hle1 : Hid (([] : List (BitVec 8)).length + X.length ≤ 140737488355328) := show ([] : List (BitVec 8)).length + X.length ≤ 140737488355328 by rw [hXl]; simp; omega
  have HSz0 : Hid (w.heap.size ≤ (w.alloc (Obj.cells #[] 5)).heap.size) := hb0.size
  clear hG hR hcap hA hm hX hXl hRX hn hmm hb0 hmc
  go_enter Tryd.func3, Tryd.ntmps3
  go_upto_region 2 with (go_at_call 6; (with_reducible refine KC.out.mono ?_); rintro e w' ⟨rfl, rfl⟩; dsimp only)
  clear KC
  go_upto_region 3 with (((with_reducible show wpList _ _ _ ((⟨some 9, _, _, _, _, _⟩ : Oper) :: _) _ _); refine wpList_push (o := ⟨some 9, _, _, _, _, _⟩) rfl (.tmp 7) (.tmp 8) rfl rfl w.heap.size _ [] X rfl HO0.out A m cap rfl HXl.out.symm HS0.out HA.out Hle1.out HB0.out HSz0.out (Nat.le_refl _) ?_; intro v1 w1 ho1 hb1 hb1'))
  rw [List.nil_append] at ho1
  obtain ⟨A1, c1, rfl, hr1, hl1, hm1, _⟩ := ho1.rd
  rw [HXl.out]
  have HR1 := Lib.hid hr1
  have HB1 := Lib.hid hb1
  have HG1 := Lib.hid (HG.out.below hb1)
  have K7 := Lib.hid (sum_n A1 m c1 X w1 HXl.out HG1.out hr1 hl1 hm1 (by rw [HXl.out]; have := Hm2.out; omega))
  obtain ⟨D, hD⟩ : ∃ D, D = sumB X := ⟨_, rfl⟩
  have hDl : (vbs D).length = 64 := by rw [vbs_len, hD, sumB_len]
  rw [← hD] at K7
  have HD := Lib.hid hD
  have HDl := Lib.hid hDl
  have HI24 := Lib.hid (i24 hDl)
  clear ho1 hb1 hb1' hr1 hl1 hm1 HO0 HB0 HS0 HSz0 Hle1 hD hDl
  go_upto_region 4 with (first
    | (go_at_call 7; (with_reducible refine K7.out.mono ?_); rintro e w2 ⟨rfl, hb2⟩; have HB2 := Lib.hid hb2; have HTh2 : Hid ((w2.alloc (.cells (vbs Z64).toArray 24)).there w2.heap.size 0 64) := (Blk.new w2 24 (vbs Z64).toArray).there; clear hb2 K7; dsimp only)
    | (with_reducible refine wpList_store_mid rfl 24 (.tmp 4) (.tmp 11) rfl w2.heap.size 0 (vbs D).toArray rfl rfl (there_arr HTh2.out HDl.out) (info_arr HI24.out) (all_oneCell_toArray (vbs_one _)) ?_))
  have hb12 : Below w1.heap.size w1 (w2.alloc (.cells (vbs Z64).toArray 24)) := HB2.out.alloc HB2.out.size _
  have hS2 : Blk ((w2.alloc (.cells (vbs Z64).toArray 24)).setCells w2.heap.size 0 (vbs D)) w2.heap.size 24 (vbs D) := (Blk.new w2 24 (vbs Z64).toArray).setCells (vbs D) (by rw [HDl.out]; rfl)
  have hSb := below_setCells (b := w2.heap.size) HB2.out.size (vbs D) 0 _ hb12
  generalize (w2.alloc (.cells (vbs Z64).toArray 24)).setCells w2.heap.size 0 (vbs D) = WF at hS2 hSb ⊢
  generalize w2.heap.size = G at hS2 ⊢
  have HSb := Lib.hid hSb
  have HS2 := Lib.hid hS2
  clear hS2 hSb hb12 hz HTh2 HI24
  generalize hW0 : WF.drew = W0
  have hd : Below WF.heap.size WF W0 := by rw [← hW0]; exact ⟨rfl, rfl, rfl, Nat.le_refl _, fun _ _ => rfl⟩
  have hB1W : Below w1.heap.size w1 W0 := HSb.out.trans (hd.mono HSb.out.size)
  have hBwW : Below w.heap.size w W0 := HB1.out.trans (hB1W.mono HB1.out.size)
  have hRXW : Rd W0 W0.heap.size A X := (HRX.out.keep hBwW).up hBwW.size
  have hR1W : Rd W0 W0.heap.size A1 X := (HR1.out.keep hB1W).up hB1W.size
  have hDW : Rd W0 W0.heap.size (some ⟨G, 0, none⟩) D := ((rd_of_blk HS2.out).keep hd).up hd.size
  have hDn : 64 = D.length := by have := HDl.out; rw [vbs_len] at this; exact this.symm
  have ED : Hid (∀ wq, SB W0 wq → (convert 22 9 (.slice (some ⟨G, 0, none⟩) 64 64)).run Tryd.prog wq = .ok (.string (strB D)) wq) := fun wq hq => conv_n (hq.rd hDW) hDn
  have E1 : Hid (∀ wq, SB W0 wq → (convert 22 9 (.slice A1 m c1)).run Tryd.prog wq = .ok (.string (strB X)) wq) := fun wq hq => conv_n (hq.rd hR1W) HXl.out.symm
  have EX : Hid (∀ wq, SB W0 wq → (convert 22 9 (.slice A m cap)).run Tryd.prog wq = .ok (.string (strB X)) wq) := fun wq hq => conv_n (hq.rd hRXW) HXl.out.symm
  have HGW := Lib.hid (HG.out.below hBwW)
  have K8 : Hid (∀ wq, SB W0 wq → Calls Tryd.prog 8 #[.slice A m cap] wq fun e w' => ∃ A' c, e = .returned (.slice A' 64 c) ∧ (convert 22 9 (.slice A' 64 c)).run Tryd.prog w' = .ok (.string (strB D)) w' ∧ SB W0 w') := fun wq hq =>
    (rsum_any A m cap X wq HXl.out ((hq.rd hRXW).up hq.size) (by rw [HXl.out]; exact Hmc.out) HA.out (by rw [HXl.out]; have := Hm2.out; omega)).mono fun e w' ⟨v, he, ho, hb⟩ => by
      rw [← HD.out] at ho
      obtain ⟨A', c, rfl, hr, _⟩ := ho.rd
      rw [← hDn] at he
      exact ⟨A', c, he, conv_n hr hDn, hq.next hb⟩
  have KX : Hid (∀ wq, SB W0 wq → Calls Tryd.prog 9 #[] wq fun e w' => e = .returned (.bool true) ∧ SB W0 w') := fun wq hq =>
    (works_any wq (HGW.out.below hq)).mono fun e w' ⟨he, hb⟩ => ⟨he, hq.next hb⟩
  obtain ⟨sd, hsd⟩ : ∃ s, s = strB D := ⟨_, rfl⟩
  obtain ⟨sx, hsx⟩ : ∃ s, s = strB X := ⟨_, rfl⟩
  rw [← hsd] at ED K8
  rw [← hsx] at E1 EX
  have HBW := Lib.hid hBwW
  have HS0 : Hid (SB W0 W0) := Below.refl _ _
  have hsl := fun wq => slice24all G wq
  clear hd hB1W hBwW hRXW hR1W hDW hDn hsd hsx HRX HR1 HS2 HSb HGW HG HG1 HA HD HDl HXl Hmc Hm2
  refine wp_region_but (z := 999) (SB W0) (by kernel_rfl) ?_
  rw [hW0]
  have hS : SB W0 W0 := HS0.out
  clear hW0
  refine AnyBut.takeE (i := 0) (v := .slice (some ⟨G, 0, none⟩) 64 64) rfl (by kernel_rfl) (by kernel_rfl) (by kernel_rfl) (by kernel_rfl) (fun _ _ _ h => h) (Or.inl ⟨by rfl, ?_⟩) hS ?_
  · intro wq hq
    go_simp
  try simp only [Act.put, List.setIfInBounds_toArray, List.set_cons_zero, List.set_cons_succ, List.getElem_toArray, List.getElem_cons_zero, List.getElem_cons_succ]
  refine AnyBut.takeE (i := 1) (v := .string sd) rfl (by kernel_rfl) (by kernel_rfl) (by kernel_rfl) (by kernel_rfl) (fun _ _ _ h => h) (Or.inl ⟨by rfl, ?_⟩) hS ?_
  · intro wq hq
    go_simp
    rw [ED.out wq hq]
    rfl
  try simp only [Act.put, List.setIfInBounds_toArray, List.set_cons_zero, List.set_cons_succ, List.getElem_toArray, List.getElem_cons_zero, List.getElem_cons_succ]
  refine AnyBut.takeE (i := 2) (v := ?_) rfl (by kernel_rfl) (by kernel_rfl) (by kernel_rfl) (by kernel_rfl) (fun _ _ _ h => h) (Or.inl ⟨by rfl, ?_⟩) hS ?_
  rotate_left
  · (intro wq hq; go_simp; try with_reducible rfl)
  try simp only [Act.put, List.setIfInBounds_toArray, List.set_cons_zero, List.set_cons_succ, List.getElem_toArray, List.getElem_cons_zero, List.getElem_cons_succ]
  refine AnyBut.gone (i := 3) (by kernel_rfl) rfl (by rfl) (fun K hK => ?_)
  go_simp
  (with_reducible refine (K8.out _ hS).mono ?_)
  rintro e w5 ⟨A5, c5, rfl, e5, hS⟩
  dsimp only
  refine hK _ _ (fun _ => hS) ?_
  clear hK K
  try simp only [Act.put, List.setIfInBounds_toArray, List.set_cons_zero, List.set_cons_succ, List.getElem_toArray, List.getElem_cons_zero, List.getElem_cons_succ]
  refine AnyBut.gone (i := 4) (by kernel_rfl) rfl (by rfl) (fun K hK => ?_)
  go_simp
  refine hK _ _ (fun _ => hS) ?_
  clear hK K
  try simp only [Act.put, List.setIfInBounds_toArray, List.set_cons_zero, List.set_cons_succ, List.getElem_toArray, List.getElem_cons_zero, List.getElem_cons_succ]
  clear e5
  refine AnyBut.gone (i := 5) (by kernel_rfl) rfl (by rfl) (fun K hK => ?_)
  go_simp
  refine hK _ _ (fun _ => hS) ?_
  clear hK K
  try simp only [Act.put, List.setIfInBounds_toArray, List.set_cons_zero, List.set_cons_succ, List.getElem_toArray, List.getElem_cons_zero, List.getElem_cons_succ]
  refine AnyBut.gone (i := 6) (by kernel_rfl) rfl (by rfl) (fun K hK => ?_)
  go_simp
  refine hK _ _ (fun _ => hS) ?_
  clear hK K
  try simp only [Act.put, List.setIfInBounds_toArray, List.set_cons_zero, List.set_cons_succ, List.getElem_toArray, List.getElem_cons_zero, List.getElem_cons_succ]
  refine AnyBut.takeE (i := 7) (v := ?_) rfl (by kernel_rfl) (by kernel_rfl) (by kernel_rfl) (by kernel_rfl) (fun _ _ _ h => h) (Or.inl ⟨by rfl, ?_⟩) hS ?_
  rotate_left
  · (intro wq hq; go_simp; try with_reducible rfl)
  try simp only [Act.put, List.setIfInBounds_toArray, List.set_cons_zero, List.set_cons_succ, List.getElem_toArray, List.getElem_cons_zero, List.getElem_cons_succ]
  refine AnyBut.takeE (i := 8) (v := .string sx) rfl (by kernel_rfl) (by kernel_rfl) (by kernel_rfl) (by kernel_rfl) (fun _ _ _ h => h) (Or.inl ⟨by rfl, ?_⟩) hS ?_
  · intro wq hq
    go_simp
    rw [E1.out wq hq]
    rfl
  try simp only [Act.put, List.setIfInBounds_toArray, List.set_cons_zero, List.set_cons_succ, List.getElem_toArray, List.getElem_cons_zero, List.getElem_cons_succ]
  refine AnyBut.takeE (i := 9) (v := ?_) rfl (by kernel_rfl) (by kernel_rfl) (by kernel_rfl) (by kernel_rfl) (fun _ _ _ h => h) (Or.inl ⟨by rfl, ?_⟩) hS ?_
  rotate_left
  · (intro wq hq; go_simp; try with_reducible rfl)
  try simp only [Act.put, List.setIfInBounds_toArray, List.set_cons_zero, List.set_cons_succ, List.getElem_toArray, List.getElem_cons_zero, List.getElem_cons_succ]
  refine AnyBut.takeE (i := 10) (v := .string sx) rfl (by kernel_rfl) (by kernel_rfl) (by kernel_rfl) (by kernel_rfl) (fun _ _ _ h => h) (Or.inl ⟨by rfl, ?_⟩) hS ?_
  · intro wq hq
    go_simp
    rw [EX.out wq hq]
    rfl
  try simp only [Act.put, List.setIfInBounds_toArray, List.set_cons_zero, List.set_cons_succ, List.getElem_toArray, List.getElem_cons_zero, List.getElem_cons_succ]
  refine AnyBut.gone (i := 11) (by kernel_rfl) rfl (by rfl) (fun K hK => ?_)
  go_simp
  refine hK _ _ (fun _ => hS) ?_
  clear hK K
  try simp only [Act.put, List.setIfInBounds_toArray, List.set_cons_zero, List.set_cons_succ, List.getElem_toArray, List.getElem_cons_zero, List.getElem_cons_succ]
  refine AnyBut.gone (i := 12) (by kernel_rfl) rfl (by rfl) (fun K hK => ?_)
  go_simp
  refine hK _ _ (fun _ => hS) ?_
  clear hK K
  try simp only [Act.put, List.setIfInBounds_toArray, List.set_cons_zero, List.set_cons_succ, List.getElem_toArray, List.getElem_cons_zero, List.getElem_cons_succ]
  refine AnyBut.gone (i := 13) (by kernel_rfl) rfl (by rfl) (fun K hK => ?_)
  go_simp
  refine hK _ _ (fun _ => hS) ?_
  clear hK K
  try simp only [Act.put, List.setIfInBounds_toArray, List.set_cons_zero, List.set_cons_succ, List.getElem_toArray, List.getElem_cons_zero, List.getElem_cons_succ]
  refine AnyBut.gone (i := 14) (by kernel_rfl) rfl (by rfl) (fun K hK => ?_)
  go_simp
  (with_reducible refine (KX.out _ hS).mono ?_)
  rintro e w8 ⟨rfl, hS⟩
  dsimp only
  refine hK _ _ (fun _ => hS) ?_
  clear hK K
  try simp only [Act.put, List.setIfInBounds_toArray, List.set_cons_zero, List.set_cons_succ, List.getElem_toArray, List.getElem_cons_zero, List.getElem_cons_succ]
  refine AnyBut.gone (i := 15) (by kernel_rfl) rfl (by rfl) (fun K hK => ?_)
  go_simp
  refine hK _ _ (fun _ => hS) ?_
  clear hK K
  try simp only [Act.put, List.setIfInBounds_toArray, List.set_cons_zero, List.set_cons_succ, List.getElem_toArray, List.getElem_cons_zero, List.getElem_cons_succ]
  refine AnyBut.gone (i := 16) (by kernel_rfl) rfl (by rfl) (fun K hK => ?_)
  go_simp
  refine hK _ _ (fun _ => hS) ?_
  clear hK K
  refine AnyBut.done (by kernel_rfl) ?_ _
  dsimp only [Exit.then]
  have HS8 := Lib.hid hS
  clear hS
  go_wp2
  go_ret
  exact ⟨rfl, HBW.out.trans (Below.mono HS8.out HBW.out.size)⟩
end Go.Proofs.YtffngfjbaimbhaaDoor
