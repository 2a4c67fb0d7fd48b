/- What the document's own Twice returns: the same double digest as the program's. -/
import Derived.Test.YtjbjkddgefiicaaDoorCk
namespace Go.Proofs.YtjbjkddgefiicaaDoor
open Go.RowKit
set_option linter.unusedVariables false
set_option linter.unusedSimpArgs false
structure TQ (w : World) (hb : Nat) (D : List (BitVec 8)) (wq : World) : Prop where
  bel : Below w.heap.size w wq
  r : Blk wq w.heap.size 25 (vbs Z32)
  h : Blk wq hb 25 (vbs D)
set_option maxRecDepth 100000 in
set_option maxHeartbeats 2000000 in
theorem rtwice_gen (sm : List (BitVec 8) → List (BitVec 8)) (sm_len : ∀ R, (sm R).length = 32)
    (hSum : ∀ (A : Option Addr) (cap : Nat) (R : List (BitVec 8)) (w : World), Rd w w.heap.size A R → R.length ≤ cap → (A = none → cap = 0) → R.length < 1000000000 →
      Calls Tryd.prog 13 #[.slice A R.length cap] w fun e w' => e = .returned (.agg (vbs (sm R)).toArray) ∧ Below w.heap.size w w')
    (A : Option Addr) (cap : Nat) (R : List (BitVec 8)) (w : World) (hR : Rd w w.heap.size A R) (hcap : R.length ≤ cap) (hA : A = none → cap = 0) (hl : R.length < 1000000000) :
    Calls Tryd.prog 15 #[.slice A R.length cap] w fun e w' => e = .returned (.agg (vbs (sm (sm R))).toArray) ∧ Below w.heap.size w w' := by
  have hz : ∀ w, (zeroValue 25).run Tryd.prog w = .ok (.agg (vbs Z32).toArray) w := fun _ => by kernel_rfl
  have hb0 : Below w.heap.size w (w.alloc (Obj.cells (vbs Z32).toArray 25)) := (Below.refl _ _).alloc (Nat.le_refl _) _
  have hr0 := Blk.new w 25 (vbs Z32).toArray
  rw [List.toList_toArray] at hr0
  have HR0 := Lib.hid hr0
  have HB0 := Lib.hid hb0
  have HS := Lib.hid (hSum A cap R (w.alloc (Obj.cells (vbs Z32).toArray 25)) (rd_up (hR.keep hb0) hb0.size) hcap hA hl)
  have KS := Lib.hid hSum
  have KL := Lib.hid sm_len
  obtain ⟨D, hD⟩ : ∃ D, D = sm R := ⟨_, rfl⟩
  have hDl : D.length = 32 := by rw [hD]; exact sm_len R
  have HDl := Lib.hid hDl
  obtain ⟨D2, hD2⟩ : ∃ D2, D2 = sm D := ⟨_, rfl⟩
  have HD2l := Lib.hid (show D2.length = 32 by rw [hD2]; exact sm_len D)
  have HD2 := Lib.hid hD2
  rw [← hD] at HS ⊢
  rw [← hD2]
  clear hR hb0 hr0 hA hSum sm_len hD hDl hD2
  go_enter Tryd.func15, Tryd.ntmps15
  go_upto_region 2 with (first | (go_at_call 13; (with_reducible refine HS.out.mono ?_); rintro e w1 ⟨rfl, hb1⟩; dsimp only) | (with_reducible refine wpList_store_mid rfl 25 (.tmp 3) (.tmp 7) rfl w1.heap.size 0 (vbs D).toArray rfl rfl (there_new25 w1 HDl.out) (i25v HDl.out) (all_oneCell_toArray (vbs_one _)) ?_))
  have hT : TQ w w1.heap.size D ((w1.alloc (Obj.cells (vbs Z32).toArray 25)).setCells w1.heap.size 0 (vbs D)) := by
    have b1 : Below w.heap.size w w1 := HB0.out.trans (hb1.mono (by simp))
    have r1 : Blk w1 w.heap.size 25 (vbs Z32) := HR0.out.below hb1 HR0.out.lt
    exact ⟨Below.laid b1 b1.size _, Blk.other_setCells (by have := r1.lt; omega) _ _ _ (r1.alloc _), Blk.laid w1 HDl.out⟩
  have hlt : w.heap.size < w1.heap.size := (HR0.out.below hb1 HR0.out.lt).lt
  have HT := Lib.hid hT
  generalize w1.heap.size = hb at HT hlt ⊢
  generalize World.setCells _ hb 0 _ = W at HT ⊢
  clear hT hb1 HS HR0 HB0 hz
  have hWs : hb + 1 ≤ W.heap.size := HT.out.h.lt
  go_wp2_with fail
  go_loopw [4, 5] (fun v i wq => ∃ j : Nat, j ≤ 32 ∧ i = .int .i64 j ∧ TQ w hb D wq ∧ hb + 1 ≤ wq.heap.size ∧ OB wq (hb + 1) v (D.take j)) (fun _ i _ => 32 - (intOf i).toNat)
  case atStart => exact ⟨0, Nat.zero_le _, rfl, HT.out, hWs, OB.nil _ _⟩
  case round =>
    obtain ⟨j, hj, rfl, hX, hs, ho⟩ := hrel
    clear HT hWs
    by_cases hj32 : j < 32
    · have j1 : (j : Int) < 32 := by omega
      have j0 : (0 : Int) ≤ (j : Int) := by omega
      have c0 := hX.h.cell (vbs_at (l := D) (j := j) (by rw [HDl.out]; omega))
      obtain ⟨x, hx⟩ : ∃ x, x = D.getD j 0 := ⟨_, rfl⟩
      have Hx := Lib.hid hx
      rw [← hx] at c0
      clear hx
      have HX := Lib.hid hX
      have HO := Lib.hid (ho.alloc (.cells #[.int .u8 (Bt x)] 5))
      have hs1 := Lib.hid (src_one wr x)
      have hB2 := Lib.hid (hX.bel.alloc hX.bel.size (.cells #[.int .u8 (Bt x)] 5))
      have hBs := Lib.hid (show hb + 1 ≤ (wr.alloc (.cells #[.int .u8 (Bt x)] 5)).heap.size from Nat.le_trans hs (by simp))
      have hLn : Hid ((D.take j).length + [x].length ≤ 140737488355328) := by
        show (D.take j).length + [x].length ≤ _
        rw [List.length_take]; simp; omega
      clear hX ho
      go_upto_region 5 with (refine wpList_push (o := ⟨some 17, _, _, _, _, _⟩) rfl (.tmp 12) (.tmp 16) rfl rfl (hb + 1) _ (D.take j) [x] rfl HO.out (some ⟨wr.heap.size, 0, none⟩) 1 1 rfl (one_len _) hs1.out (fun h => by cases h) hLn.out hB2.out hBs.out (by omega) ?_; intro v' w' h1 h2 h3)
      have e : D.take (j + 1) = D.take j ++ [x] := by
        rw [List.take_succ_eq_append_getElem (by rw [HDl.out]; omega), Hx.out]
        simp [List.getD, HDl.out, hj32]
      rw [← e] at h1
      have hX' : TQ w hb D w' := ⟨h2, (HX.out.r.alloc _).below h3 (by omega), (HX.out.h.alloc _).below h3 (by omega)⟩
      have HX' := Lib.hid hX'
      have H1 := Lib.hid h1
      have H3 := Lib.hid (Nat.le_trans hBs.out h3.size)
      clear hX' h1 h2 h3 e HO hs1 hB2 hBs hLn c0
      go_wp2_with fail
      go_roundw
      case rel => exact ⟨j + 1, by omega, by simp, HX'.out, H3.out, H1.out⟩
      case measure => simp [intOf]; omega
    · obtain rfl : j = 32 := by omega
      have e32 : D.take 32 = D := List.take_of_length_le (by rw [HDl.out]; omega)
      rw [e32] at ho
      obtain ⟨A4, c4, rfl, hrd4, hl4, hm4, hn4⟩ := ho.rd
      have HS2 := Lib.hid (KS.out A4 c4 D wr hrd4 hl4 hn4 (by rw [HDl.out]; omega))
      rw [← HD2.out] at HS2
      have HX := Lib.hid hX
      have HTh : Hid (∀ w9, Below wr.heap.size wr w9 → w9.there w.heap.size 0 (vbs D2).toArray.size) := fun w9 hb9 => there_z (HX.out.r.below hb9 HX.out.r.lt) HD2l.out
      obtain ⟨n, hn⟩ : ∃ n, n = D.length := ⟨_, rfl⟩
      rw [← hn] at HS2 ⊢
      clear hX ho hrd4 hl4 hm4 hn4 hn e32
      go_wp2_with (first | (go_at_call 13; (with_reducible refine HS2.out.mono ?_); rintro e w9 ⟨rfl, hb9⟩; dsimp only) | (with_reducible refine wpList_store_mid rfl 25 (.tmp 2) (.tmp 19) rfl w.heap.size 0 (vbs D2).toArray rfl rfl (HTh.out w9 hb9) (i25v HD2l.out) (all_oneCell_toArray (vbs_one _)) ?_))
      have hSs := (HX.out.r.below hb9 HX.out.r.lt).setCells (vbs D2) (by rw [vbs_len, HD2l.out, vbs_len, Z32_len])
      have hSb := below_setCells (Nat.le_refl w.heap.size) (vbs D2) 0 w9 (HX.out.bel.trans (hb9.mono HX.out.bel.size))
      generalize w9.setCells w.heap.size 0 (vbs D2) = W8 at hSs hSb
      exact bodyPost_ret (v := .agg (vbs D2).toArray) (results_cell_row Tryd.results15 _ W8 w.heap.size 25 (vbs D2).toArray (0, 0) _ rfl hSs Tryd.underlying25 rfl (i25v HD2l.out)) rfl ⟨rfl, hSb⟩
theorem rtwice_any (A : Option Addr) (cap : Nat) (R : List (BitVec 8)) (w : World) (hR : Rd w w.heap.size A R) (hcap : R.length ≤ cap) (hA : A = none → cap = 0) (hl : R.length < 1000000000) :
    Calls Tryd.prog 15 #[.slice A R.length cap] w fun e w' => e = .returned (.agg (vbs (twiceB R)).toArray) ∧ Below w.heap.size w w' :=
  rtwice_gen sumB sumB_len (fun A cap R w h1 h2 h3 h4 => rsum_any A cap R w h1 h2 h3 h4) A cap R w hR hcap hA hl
end Go.Proofs.YtjbjkddgefiicaaDoor
