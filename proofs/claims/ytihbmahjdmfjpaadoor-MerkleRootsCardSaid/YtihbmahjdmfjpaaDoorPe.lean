/- What the document's side answers: Hashes. -/
import Derived.Test.YtihbmahjdmfjpaaDoorFs
import Derived.Outline
import Derived.StillTailTactics
namespace Go.Proofs.YtihbmahjdmfjpaaDoor
open Go.RowKit
set_option linter.unusedVariables false
set_option linter.unusedSimpArgs false
set_option maxRecDepth 100000
variable {tw : List (BitVec 8) → List (BitVec 8)}
set_option maxHeartbeats 4000000 in
theorem hashes_any (A A' : Option Addr) (n c n' c' : Nat) (L M : List (List (BitVec 8))) (w : World) (hL : RdN 32 w A n c L) (hM : RdN 32 w A' n' c' M) (hn : n ≤ 1000000) :
    Calls Tryd.prog 16 #[.slice A n c, .slice A' n' c'] w (VPost (.bool (decide (L = M))) w) := by
  by_cases hnn : n = n'
  · subst hnn
    have HL := Lib.hid hL
    have HM := Lib.hid hM
    clear hL hM
    obtain ⟨q, hq⟩ : ∃ q, q = decide (L = M) := ⟨_, rfl⟩
    rw [← hq]
    have HQ := Lib.hid hq
    clear hq
    go_enter Tryd.func16, Tryd.ntmps16
    go_wp2_with fail
    go_loopw [5] (fun iv wr => SaR L M n w iv wr) (fun iv _ => (n - intOf iv).toNat)
    case atStart => exact ⟨0, Nat.zero_le _, rfl, Below.refl _ _, fun j hj => absurd hj (Nat.not_lt_zero j)⟩
    case round =>
      obtain ⟨k, hk, rfl, hb, hpre⟩ := hrel
      have HB := Lib.hid hb
      have HP := Lib.hid hpre
      clear hb hpre
      by_cases hlt : k < n
      · have hlt' : (k : Int) < (n : Int) := by omega
        obtain ⟨b, o, rfl, hbl, hp1⟩ := HL.out.pick (by omega) (by omega)
        obtain ⟨b', o', rfl, hbl', hp2⟩ := HM.out.pick (by omega) (by omega)
        obtain ⟨X, hX⟩ : ∃ X, X = L.getD k [] := ⟨_, rfl⟩
        obtain ⟨Y, hY⟩ : ∃ Y, Y = M.getD k [] := ⟨_, rfl⟩
        have rX := (hp1 k hlt).1
        have rY := (hp2 k hlt).1
        have hX32 : X.length = 32 := by rw [hX]; exact (hp1 k hlt).2
        have hY32 : Y.length = 32 := by rw [hY]; exact (hp2 k hlt).2
        rw [← hX] at rX
        rw [← hY] at rY
        have RX := Lib.hid rX
        have RY := Lib.hid rY
        have HX := Lib.hid hX
        have HY := Lib.hid hY
        have IX := Lib.hid (i25' (vs := vbs X) (by rw [vbs_len]; exact hX32))
        have IY := Lib.hid (i25' (vs := vbs Y) (by rw [vbs_len]; exact hY32))
        have hnq := neq25 X Y hX32 hY32
        obtain ⟨t, ht⟩ : ∃ t, t = !decide (X = Y) := ⟨_, rfl⟩
        rw [← ht] at hnq
        have Ht := Lib.hid ht
        have hSd := Lib.hid (show SBw w wr.drew from Below.drew HB.out)
        clear hX hY hX32 hY32 rX rY hp1 hp2 ht
        go_upto_region 6 with fail
        refine wp_calm ?_
        refine wp_region_but (z := 999) (SBw w) (by kernel_rfl) ?_
        have hS : (SBw w) wr.drew := hSd.out
        refine AnyBut.takeE (i := 0) (v := ?_) rfl (by kernel_rfl) (by kernel_rfl) (by kernel_rfl) (by kernel_rfl) (fun _ _ _ h => h) (Or.inl ⟨by rfl, ?_⟩) hS ?_
        rotate_left
        · (intro wq hq; go_simp; try with_reducible rfl)
        try simp only [Act.put, List.setIfInBounds_toArray, List.set_cons_zero, List.set_cons_succ, List.getElem_toArray, List.getElem_cons_zero, List.getElem_cons_succ]
        refine AnyBut.takeE (i := 1) (v := ?_) rfl (by kernel_rfl) (by kernel_rfl) (by kernel_rfl) (by kernel_rfl) (fun _ _ _ h => h) (Or.inl ⟨by rfl, ?_⟩) hS ?_
        rotate_left
        · (intro wq hq; go_simp; try with_reducible rfl)
        try simp only [Act.put, List.setIfInBounds_toArray, List.set_cons_zero, List.set_cons_succ, List.getElem_toArray, List.getElem_cons_zero, List.getElem_cons_succ]
        refine AnyBut.takeE (i := 2) (v := .pointer (some ⟨b, o + k * 32, none⟩)) rfl (by kernel_rfl) (by kernel_rfl) (by kernel_rfl) (by kernel_rfl) (fun _ _ _ h => h) (Or.inl ⟨by rfl, ?_⟩) hS ?_
        · (intro wq hq; go_simp)
        try simp only [Act.put, List.setIfInBounds_toArray, List.set_cons_zero, List.set_cons_succ, List.getElem_toArray, List.getElem_cons_zero, List.getElem_cons_succ]
        refine AnyBut.takeE (i := 3) (v := .agg (vbs X).toArray) rfl (by kernel_rfl) (by kernel_rfl) (by kernel_rfl) (by kernel_rfl) (fun _ _ _ h => h) ?_ hS ?_
        · exact yieldsIf_load_mid (by rfl) 25 (.tmp 19) rfl (b) (o + k * 32) rfl (vbs X) _ (fun _ h => range_below RX.out h hbl) Tryd.underlying25 rfl IX.out
        try simp only [Act.put, List.setIfInBounds_toArray, List.set_cons_zero, List.set_cons_succ, List.getElem_toArray, List.getElem_cons_zero, List.getElem_cons_succ]
        refine AnyBut.takeE (i := 4) (v := ?_) rfl (by kernel_rfl) (by kernel_rfl) (by kernel_rfl) (by kernel_rfl) (fun _ _ _ h => h) (Or.inl ⟨by rfl, ?_⟩) hS ?_
        rotate_left
        · (intro wq hq; go_simp; try with_reducible rfl)
        try simp only [Act.put, List.setIfInBounds_toArray, List.set_cons_zero, List.set_cons_succ, List.getElem_toArray, List.getElem_cons_zero, List.getElem_cons_succ]
        refine AnyBut.takeE (i := 5) (v := ?_) rfl (by kernel_rfl) (by kernel_rfl) (by kernel_rfl) (by kernel_rfl) (fun _ _ _ h => h) (Or.inl ⟨by rfl, ?_⟩) hS ?_
        rotate_left
        · (intro wq hq; go_simp; try with_reducible rfl)
        try simp only [Act.put, List.setIfInBounds_toArray, List.set_cons_zero, List.set_cons_succ, List.getElem_toArray, List.getElem_cons_zero, List.getElem_cons_succ]
        refine AnyBut.takeE (i := 6) (v := .pointer (some ⟨b', o' + k * 32, none⟩)) rfl (by kernel_rfl) (by kernel_rfl) (by kernel_rfl) (by kernel_rfl) (fun _ _ _ h => h) (Or.inl ⟨by rfl, ?_⟩) hS ?_
        · (intro wq hq; go_simp)
        try simp only [Act.put, List.setIfInBounds_toArray, List.set_cons_zero, List.set_cons_succ, List.getElem_toArray, List.getElem_cons_zero, List.getElem_cons_succ]
        refine AnyBut.takeE (i := 7) (v := .agg (vbs Y).toArray) rfl (by kernel_rfl) (by kernel_rfl) (by kernel_rfl) (by kernel_rfl) (fun _ _ _ h => h) ?_ hS ?_
        · exact yieldsIf_load_mid (by rfl) 25 (.tmp 23) rfl (b') (o' + k * 32) rfl (vbs Y) _ (fun _ h => range_below RY.out h hbl') Tryd.underlying25 rfl IY.out
        try simp only [Act.put, List.setIfInBounds_toArray, List.set_cons_zero, List.set_cons_succ, List.getElem_toArray, List.getElem_cons_zero, List.getElem_cons_succ]
        refine AnyBut.takeE (i := 8) (v := .bool t) rfl (by kernel_rfl) (by kernel_rfl) (by kernel_rfl) (by kernel_rfl) (fun _ _ _ h => h) (Or.inl ⟨by rfl, ?_⟩) hS ?_
        · (intro wq hq; go_simp)
        try simp only [Act.put, List.setIfInBounds_toArray, List.set_cons_zero, List.set_cons_succ, List.getElem_toArray, List.getElem_cons_zero, List.getElem_cons_succ]
        refine AnyBut.done (by kernel_rfl) ?_ _
        try dsimp only [Exit.then]
        clear hS hnq
        cases t with
        | true =>
          go_wp2_with fail
          go_ret
          refine ⟨?_, hSd.out⟩
          have hne : X ≠ Y := by simpa using Ht.out.symm
          rw [HQ.out, decide_eq_false (show ¬ L = M from fun e => hne (by rw [HX.out, HY.out, e]))]
          rfl
        | false =>
          go_wp2_with fail
          go_roundw
          case rel =>
            refine ⟨k + 1, by omega, by go_num, hSd.out, fun j hj => ?_⟩
            rcases Nat.lt_or_ge j k with h | h
            · exact HP.out j h
            · obtain rfl : j = k := by omega
              have : X = Y := by simpa using Ht.out.symm
              rw [← HX.out, ← HY.out, this]
          case measure => simp [intOf]; omega
      · have hlt' : ¬ (k : Int) < (n : Int) := by omega
        obtain rfl : k = n := by omega
        go_wp2_with fail
        go_ret
        refine ⟨?_, HB.out⟩
        rw [HQ.out, decide_eq_true (ext_getD (HL.out.num.trans HM.out.num.symm) (fun j hj => HP.out j (by rw [← HL.out.num]; exact hj)))]
        rfl
  · have hne : ¬ L = M := fun e => hnn (by rw [← hL.num, ← hM.num, e])
    rw [decide_eq_false hne]
    have hnn' : (n == n') = false := by simpa using hnn
    clear hL hM hne
    go_enter Tryd.func16, Tryd.ntmps16
    go_wp2_with fail
    go_ret
    exact ⟨rfl, Below.refl _ _⟩
end Go.Proofs.YtihbmahjdmfjpaaDoor
