/- What the document's side answers: the row above. -/
import Derived.Test.YtihbmahjdmfjpaaDoorPa
import Derived.Outline
import Derived.StillTailTactics
namespace Go.Proofs.YtihbmahjdmfjpaaDoor
open Go.RowKit
set_option linter.unusedVariables false
set_option linter.unusedSimpArgs false
set_option maxRecDepth 100000
variable {tw : List (BitVec 8) → List (BitVec 8)}
theorem pair_par {L : List (List (BitVec 8))} {k n : Nat} (hn : L.length = n) (hk : 2 * k < n) : pairT L k = L.getD (2 * k) [] ++ L.getD (parK n (2 * k)) [] := by
  unfold pairT parK
  rw [hn, if_neg (by omega)]
  by_cases h : 2 * k + 1 < n
  · rw [if_pos h, show min 2 (n - 2 * k) = 2 by omega]
  · rw [if_neg h, show min 2 (n - 2 * k) = 1 by omega]
    rfl
def AbRel (tw : List (BitVec 8) → List (BitVec 8)) (L : List (List (BitVec 8))) (n : Nat) (w : World) (v i : Value) (wr : World) : Prop :=
  ∃ k : Nat, 2 * k ≤ n + 1 ∧ i = .int .i64 ((2 * k : Nat) : Int) ∧ OF 25 32 wr w.heap.size v ((pairsN L k).map tw) ∧ Below w.heap.size w wr
set_option maxHeartbeats 4000000 in
theorem rabove_any (T : RwC tw) (A : Option Addr) (n c : Nat) (L : List (List (BitVec 8))) (w : World) (hR : RdN 32 w A n c L) (hn : n ≤ 100000) :
    Calls Tryd.prog 34 #[.slice A n c] w (FPost 25 32 ((pairsN L ((n + 1) / 2)).map tw) w) := by
  have HT := Lib.hid T
  have HR := Lib.hid hR
  have HN := Lib.hid hR.num
  clear T hR
  go_enter Tryd.func34, Tryd.ntmps34
  go_wp2_with fail
  go_loopw [3, 4] (fun v i wr => AbRel tw L n w v i wr) (fun _ i _ => (n + 2 - intOf i).toNat)
  case atStart => exact ⟨0, by omega, rfl, OF.nil _ _ _ _, Below.refl _ _⟩
  case round =>
    obtain ⟨k, hk, rfl, hO, hB⟩ := hrel
    obtain ⟨s, hs⟩ : ∃ s, s = 2 * k := ⟨_, rfl⟩
    rw [← hs]
    by_cases hlt : s < n
    · have hlt' : (s : Int) < (n : Int) := by omega
      obtain ⟨b, o, rfl, hbb, hpk⟩ := HR.out.pick (by omega) (by omega)
      obtain ⟨X, hX⟩ : ∃ X, X = L.getD s [] := ⟨_, rfl⟩
      obtain ⟨P, hP⟩ : ∃ P, P = L.getD (parK n s) [] := ⟨_, rfl⟩
      obtain ⟨t, ht⟩ : ∃ t, t = X ++ P := ⟨_, rfl⟩
      have hxp : parK n s < n := by unfold parK; split <;> (try split) <;> omega
      have HXl := Lib.hid (show X.length = 32 by rw [hX]; exact (hpk s hlt).2)
      have HPl := Lib.hid (show P.length = 32 by rw [hP]; exact (hpk _ hxp).2)
      have Htl := Lib.hid (show t.length = 64 by rw [ht, List.length_append, HXl.out, HPl.out])
      have Ht := Lib.hid (show t = pairT L k by rw [pair_par HN.out (by omega), ht, hX, hP, hs])
      have RX := Lib.hid (show wr.rangeAt b (o + s * 32) (vbs X) from fun j u hj => (hB.cell (p := ⟨b, o + s * 32 + j, none⟩) hbb).trans ((hpk s hlt).1 j u (by rw [← hX]; exact hj)))
      have hbw : b < wr.heap.size := Nat.lt_of_lt_of_le hbb hB.size
      have IX := Lib.hid (i25' (vs := vbs X) (by rw [vbs_len]; exact HXl.out))
      have HPa : Hid (∀ w', SBw wr w' → Calls Tryd.prog 36 #[.slice (some ⟨b, o, none⟩) n c, .int .i64 (s : Int)] w' (VPost (.agg (vbs P).toArray) w')) := fun w' hb => by
        have := partner_any (some ⟨b, o, none⟩) n c s L w' (HR.out.below (hB.trans (Below.mono hb hB.size))) hlt (by omega)
        rw [← hP] at this
        exact this
      have HTx : Hid (∀ w', Calls Tryd.prog 35 #[.agg (vbs X).toArray, .agg (vbs P).toArray] w' (OBPost t w')) := fun w' => by
        have := text_any X P HXl.out HPl.out w'
        rw [← ht] at this
        exact this
      obtain ⟨D, hD⟩ : ∃ D, D = tw t := ⟨_, rfl⟩
      have HD := Lib.hid hD
      have HDl := Lib.hid (show D.length = 32 by rw [hD]; exact HT.out.len _)
      obtain ⟨M, hM⟩ : ∃ M, M = (pairsN L k).map tw := ⟨_, rfl⟩
      have HM := Lib.hid hM
      have HMl : Hid (M.length ≤ 1000000) := show M.length ≤ 1000000 by rw [hM, List.length_map, pairsN_len]; omega
      rw [← hM] at hO
      have HO := Lib.hid hO
      have HB := Lib.hid hB
      have Hs := Lib.hid hs
      have hww := hB.size
      clear hX hP ht hxp hpk hD hM hO hB hs hk
      go_upto_region 5 with fail
      refine wp_region_to (z := 11) (SBw wr) (by kernel_rfl) ?_
      have hS : (SBw wr) wr.drew := SBw.start wr
      refine AnyTo.take (i := 0) (v := ?_) rfl (by kernel_rfl) (by kernel_rfl) (by kernel_rfl) (by kernel_rfl) (by kernel_rfl) (fun _ _ _ h => h) (Or.inl ⟨by rfl, ?_⟩) hS ?_
      rotate_left
      · (intro wq hq; go_simp; try with_reducible rfl)
      try simp only [Act.put, List.setIfInBounds_toArray, List.set_cons_zero, List.set_cons_succ, List.getElem_toArray, List.getElem_cons_zero, List.getElem_cons_succ]
      refine AnyTo.take (i := 1) (v := ?_) rfl (by kernel_rfl) (by kernel_rfl) (by kernel_rfl) (by kernel_rfl) (by kernel_rfl) (fun _ _ _ h => h) (Or.inl ⟨by rfl, ?_⟩) hS ?_
      rotate_left
      · (intro wq hq; go_simp; try with_reducible rfl)
      try simp only [Act.put, List.setIfInBounds_toArray, List.set_cons_zero, List.set_cons_succ, List.getElem_toArray, List.getElem_cons_zero, List.getElem_cons_succ]
      refine AnyTo.take (i := 2) (v := ?_) rfl (by kernel_rfl) (by kernel_rfl) (by kernel_rfl) (by kernel_rfl) (by kernel_rfl) (fun _ _ _ h => h) (Or.inl ⟨by rfl, ?_⟩) hS ?_
      rotate_left
      · (intro wq hq; go_simp; try with_reducible rfl)
      try simp only [Act.put, List.setIfInBounds_toArray, List.set_cons_zero, List.set_cons_succ, List.getElem_toArray, List.getElem_cons_zero, List.getElem_cons_succ]
      refine AnyTo.take (i := 3) (v := .pointer (some ⟨b, o + s * 32, none⟩)) rfl (by kernel_rfl) (by kernel_rfl) (by kernel_rfl) (by kernel_rfl) (by kernel_rfl) (fun _ _ _ h => h) (Or.inl ⟨by rfl, ?_⟩) hS ?_
      · (intro wq hq; go_simp)
      try simp only [Act.put, List.setIfInBounds_toArray, List.set_cons_zero, List.set_cons_succ, List.getElem_toArray, List.getElem_cons_zero, List.getElem_cons_succ]
      refine AnyTo.take (i := 4) (v := .agg (vbs X).toArray) rfl (by kernel_rfl) (by kernel_rfl) (by kernel_rfl) (by kernel_rfl) (by kernel_rfl) (fun _ _ _ h => h) ?_ hS ?_
      · exact yieldsIf_load_mid (by rfl) 25 (.tmp 14) rfl (b) (o + s * 32) rfl (vbs X) _ (fun _ h => fun q u hq => (h.cell (p := ⟨b, o + s * 32 + q, none⟩) hbw).trans (RX.out q u hq)) Tryd.underlying25 rfl IX.out
      try simp only [Act.put, List.setIfInBounds_toArray, List.set_cons_zero, List.set_cons_succ, List.getElem_toArray, List.getElem_cons_zero, List.getElem_cons_succ]
      refine AnyTo.take (i := 5) (v := ?_) rfl (by kernel_rfl) (by kernel_rfl) (by kernel_rfl) (by kernel_rfl) (by kernel_rfl) (fun _ _ _ h => h) (Or.inl ⟨by rfl, ?_⟩) hS ?_
      rotate_left
      · (intro wq hq; go_simp; try with_reducible rfl)
      try simp only [Act.put, List.setIfInBounds_toArray, List.set_cons_zero, List.set_cons_succ, List.getElem_toArray, List.getElem_cons_zero, List.getElem_cons_succ]
      refine AnyTo.take (i := 6) (v := ?_) rfl (by kernel_rfl) (by kernel_rfl) (by kernel_rfl) (by kernel_rfl) (by kernel_rfl) (fun _ _ _ h => h) (Or.inl ⟨by rfl, ?_⟩) hS ?_
      rotate_left
      · (intro wq hq; go_simp; try with_reducible rfl)
      try simp only [Act.put, List.setIfInBounds_toArray, List.set_cons_zero, List.set_cons_succ, List.getElem_toArray, List.getElem_cons_zero, List.getElem_cons_succ]
      refine AnyTo.gone (i := 7) (by kernel_rfl) rfl (by rfl) (fun K hK => ?_)
      go_simp
      have hC := HPa.out _ hS
      (with_reducible refine hC.mono ?_)
      rintro e W7 ⟨rfl, hb7⟩
      dsimp only
      have hS7 : SBw wr W7 := SBw.next hS hb7
      clear hS hb7 hC
      refine hK _ _ (fun _ => hS7) ?_
      clear hK K
      try simp only [Act.put, List.setIfInBounds_toArray, List.set_cons_zero, List.set_cons_succ, List.getElem_toArray, List.getElem_cons_zero, List.getElem_cons_succ]
      have hS := hS7
      refine AnyTo.gone (i := 8) (by kernel_rfl) rfl (by rfl) (fun K hK => ?_)
      go_simp
      have hC := HTx.out W7
      (with_reducible refine hC.mono ?_)
      rintro e W8 ⟨v8, rfl, ho8, hb8⟩
      dsimp only
      have hS8 : SBw wr W8 := SBw.next hS7 hb8
      obtain ⟨A8, c8, rfl, hr8, hl8, _, hz8⟩ := ho8.rd
      have hT := HT.out.call A8 c8 t W8 hr8 hl8 hz8 (by rw [Htl.out]; decide)
      rw [← HD.out] at hT
      clear hS hS7 hb8 hC ho8 hr8 hl8 hz8
      refine hK _ _ (fun _ => hS8) ?_
      clear hK K
      try simp only [Act.put, List.setIfInBounds_toArray, List.set_cons_zero, List.set_cons_succ, List.getElem_toArray, List.getElem_cons_zero, List.getElem_cons_succ]
      have hS := hS8
      refine AnyTo.gone (i := 9) (by kernel_rfl) rfl (by rfl) (fun K hK => ?_)
      go_simp
      (with_reducible refine hT.mono ?_)
      rintro e W9 ⟨rfl, hb9⟩
      dsimp only
      have hS9 : SBw wr W9 := SBw.next hS8 hb9
      clear hS hS8 hb9 hT
      refine hK _ _ (fun _ => hS9) ?_
      clear hK K
      try simp only [Act.put, List.setIfInBounds_toArray, List.set_cons_zero, List.set_cons_succ, List.getElem_toArray, List.getElem_cons_zero, List.getElem_cons_succ]
      have hS := hS9
      refine AnyTo.gone (i := 10) (by kernel_rfl) rfl (by rfl) (fun K hK => ?_)
      refine wp_rows 22 25 32 (by omega) #[(0, .tmp 20)] [D] (.one HDl.out) (by simp) (by simp) rfl Tryd.underlying22 info25 z25 (by rfl) ?_
      have b2 : Below W9.heap.size W9 (W9.alloc (.cells (vbs [D].flatten).toArray 25)) := (Below.refl _ _).alloc (Nat.le_refl _) _
      have g2 : Blk (W9.alloc (.cells (vbs [D].flatten).toArray 25)) W9.heap.size 25 (vbs D) := by
        have := Blk.new W9 25 (vbs [D].flatten).toArray
        simpa using this
      generalize (W9.alloc (.cells (vbs [D].flatten).toArray 25)) = W2 at b2 g2 ⊢
      have hS2 : SBw wr W2 := SBw.next hS9 b2
      have G2 := Lib.hid g2
      have HO2 := Lib.hid (HO.out.below hS2)
      have HB2 := Lib.hid (HB.out.trans (Below.mono hS2 hww))
      have hs2 : w.heap.size ≤ W2.heap.size := HB2.out.size
      clear hS hS9 b2 g2
      refine hK _ _ (fun _ => hS2) ?_
      clear hK K
      try simp only [Act.put, List.setIfInBounds_toArray, List.set_cons_zero, List.set_cons_succ, List.getElem_toArray, List.getElem_cons_zero, List.getElem_cons_succ]
      refine AnyTo.gone (i := 11) (by kernel_rfl) rfl (by rfl) (fun K hK => ?_)
      refine wp_appF Tryd.underlying22 info25f rfl (by omega) (by omega) (.tmp 11) (.tmp 21) rfl rfl w.heap.size _ M rfl HO2.out W9.heap.size 25 1 D rfl HDl.out G2.out HMl.out (by omega) ?_
      intro v' W3 ho3 hg3
      have HO3 := Lib.hid ho3
      have HB3 := Lib.hid (HB2.out.grown hg3 hs2 (fun g e => (HO2.out.lt e).2.1))
      clear ho3 hg3 hS2
      refine hK _ _ (fun h => absurd h (by decide)) ?_
      clear hK K
      try simp only [Act.put, List.setIfInBounds_toArray, List.set_cons_zero, List.set_cons_succ, List.getElem_toArray, List.getElem_cons_zero, List.getElem_cons_succ]
      refine AnyTo.gone (i := 12) (by kernel_rfl) rfl (by rfl) (fun K hK => ?_)
      go_simp
      refine hK _ _ (fun h => absurd h (by decide)) ?_
      clear hK K
      try simp only [Act.put, List.setIfInBounds_toArray, List.set_cons_zero, List.set_cons_succ, List.getElem_toArray, List.getElem_cons_zero, List.getElem_cons_succ]
      refine AnyTo.done (by kernel_rfl) ?_ _
      try dsimp only [Exit.then]
      go_wp2_with fail
      go_roundw
      case rel =>
        refine ⟨k + 1, by have := Hs.out; omega, by have := Hs.out; refine congrArg _ ?_; omega, ?_, HB3.out⟩
        rw [pairsN_succ, List.map_append, List.map_singleton, ← HM.out, ← Ht.out, ← HD.out]
        exact HO3.out
      case measure => simp [intOf]; omega
    · have HO := Lib.hid hO
      have HB := Lib.hid hB
      have hk2 : (n + 1) / 2 = k := by omega
      have Hk := Lib.hid hk2
      have hlt' : ¬ (s : Int) < (n : Int) := by omega
      clear hO hB hk2
      go_wp2_with fail
      go_ret
      exact ⟨_, rfl, by rw [Hk.out]; exact HO.out, HB.out⟩
end Go.Proofs.YtihbmahjdmfjpaaDoor
