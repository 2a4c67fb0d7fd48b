/- The law MerkleProves returns true for every list of hashes, place and claim that lie in memory. -/
import Derived.Test.YtihbmahjdmfjpaaDoorHa
import Derived.Test.YtihbmahjdmfjpaaDoorFv
import Derived.Outline
import Derived.StillTailTactics
namespace Go.Proofs.YtihbmahjdmfjpaaDoor
open Go.RowKit
set_option linter.unusedVariables false
set_option linter.unusedSimpArgs false
set_option maxRecDepth 100000
variable {tw : List (BitVec 8) → List (BitVec 8)}
/-- A claim's cells: a hash, two numbers and a branch. -/
def cCl (X : List (BitVec 8)) (a b : Value) (B : Option Addr) (bn bc : Nat) : List Value := vbs X ++ [a, b, .slice B bn bc]
theorem cCl_at {X : List (BitVec 8)} {a b : Value} {B : Option Addr} {bn bc : Nat} (hX : X.length = 32) {w : World} {g T : Nat} (h : Blk w g T (cCl X a b B bn bc)) : w.cell? ⟨g, 34, none⟩ = some (.slice B bn bc) := by
  refine h.cell ?_
  unfold cCl
  rw [List.getElem?_append_right (by rw [vbs_len]; omega), vbs_len, hX]
  rfl
theorem cCl_rg {X : List (BitVec 8)} {a b : Value} {B : Option Addr} {bn bc : Nat} {w : World} {g T : Nat} (h : Blk w g T (cCl X a b B bn bc)) : w.rangeAt g 0 (vbs X) := Blk.range' (us := [a, b, .slice B bn bc]) h
set_option maxHeartbeats 8000000 in
theorem proves_walk (T : TwC tw) (hne : tw (HA ++ HA) ≠ tw (HA ++ HB)) (A : Option Addr) (n c : Nat) (L : List (List (BitVec 8))) (i : Int) (X : List (BitVec 8)) (ca cb : Value) (B : Option Addr) (bn bc : Nat) (BR : List (List (BitVec 8))) (w : World) (hL : LIn w A n c L) (hi : -9223372036854775808 ≤ i ∧ i ≤ 9223372036854775807) (hX : X.length = 32) (hB : LIn w B bn bc BR) (hG : Glob w) :
    Calls Tryd.prog 6 #[.slice A n c, .int .i64 i, .agg (cCl X ca cb B bn bc).toArray] w (VPost (.bool true) w) := by
  have hz := zero25
  have HCut : Hid (∀ w', Calls Tryd.prog 10 #[.slice A n c] w' fun e w'' => e = .returned (.slice A (min n 60) c) ∧ w' = w'') := cut_any A n c hL.r.le hL.r.mx
  obtain ⟨m, M, hm, hM, hm60⟩ := hL.cut
  rw [← hm] at HCut
  have HG := Lib.hid hG
  have HT := Lib.hid T
  have HX := Lib.hid hX
  have HBr := Lib.hid hB.r
  have HML := Lib.hid hM.r
  have HMl := Lib.hid hM.r.num
  have HW : Hid (∀ w', Glob w' → Calls Tryd.prog 17 #[] w' (VPost (.bool true) w')) := fun w' hg => works_any T hne w' hg
  have hbel : Below w.heap.size w (w.alloc (.cells (cCl X ca cb B bn bc).toArray 35)) := (Below.refl _ _).alloc (Nat.le_refl _) _
  have HC0 : Hid (Blk (w.alloc (.cells (cCl X ca cb B bn bc).toArray 35)) w.heap.size 35 (cCl X ca cb B bn bc)) := Blk.new w 35 (cCl X ca cb B bn bc).toArray
  have HB0 := Lib.hid hbel
  clear hL hG T hne hm hM hB hX hbel
  by_cases hm0 : m = 0
  · subst hm0
    have HW0 := Lib.hid (HW.out _ (HG.out.below HB0.out))
    go_enter Tryd.func6, Tryd.ntmps6
    go_wp2_with (first
      | (go_at_call 10; (with_reducible refine (HCut.out _).mono ?_); rintro e w' ⟨rfl, rfl⟩; dsimp only)
      | (go_at_call 17; (with_reducible refine HW0.out.mono ?_); rintro e w1 ⟨rfl, hb⟩; have HB1 := Lib.hid hb; clear hb; dsimp only))
    go_ret
    exact ⟨rfl, HB0.out.trans (HB1.out.mono HB0.out.size)⟩
  have hme : ((m : Int) == 0) = false := by simp; omega
  have HN : Hid (∀ w', Calls Tryd.prog 27 #[.int .i64 i, .int .i64 (m : Int)] w' (NearPost m w')) := near_any i m hi (by omega) (by omega)
  obtain ⟨b, o, rfl, hbb, hpk⟩ := HML.out.pick (by omega) (by omega)
  go_enter Tryd.func6, Tryd.ntmps6
  go_upto_region 5 with (first
    | (go_at_call 10; (with_reducible refine (HCut.out _).mono ?_); rintro e w' ⟨rfl, rfl⟩; dsimp only)
    | (go_at_call 27; (with_reducible refine (HN.out _).mono ?_); rintro e w' ⟨j, hj, rfl, rfl⟩; dsimp only))
  generalize (w.alloc (.cells (cCl X ca cb B bn bc).toArray 35)) = W1 at HC0 HB0 ⊢
  have hjm : (j : Int) < (m : Int) := by omega
  obtain ⟨Y, hY⟩ : ∃ Y, Y = M.getD j [] := ⟨_, rfl⟩
  have HY := Lib.hid hY
  have HYl := Lib.hid (hpk j hj).2
  have RY := Lib.hid (hpk j hj).1
  rw [← hY] at HYl RY
  have IY := Lib.hid (i25' (vs := vbs Y) (by rw [vbs_len]; exact HYl.out))
  have IX := Lib.hid (i25' (vs := vbs X) (by rw [vbs_len]; exact HX.out))
  have YL : Hid (∀ w', Below w.heap.size w w' → w'.rangeAt b (o + j * 32) (vbs Y)) := fun w' hb q u hq => (hb.cell (p := ⟨b, o + j * 32 + q, none⟩) hbb).trans (RY.out q u hq)
  have ML : Hid (∀ w', Below w.heap.size w w' → RdN 32 w' (some ⟨b, o, none⟩) m c M) := fun w' hb => HML.out.below hb
  have BL : Hid (∀ w', Below w.heap.size w w' → RdN 32 w' B bn bc BR) := fun w' hb => HBr.out.below hb
  have GL : Hid (∀ w', Below w.heap.size w w' → Glob w') := fun w' hb => HG.out.below hb
  have HC1 := Lib.hid (root_any HT.out (some ⟨b, o, none⟩) m c M W1 (ML.out _ HB0.out) (GL.out _ HB0.out) (by omega))
  have HJM : Hid (j < M.length) := (show j < M.length by rw [HMl.out]; exact hj)
  obtain ⟨R, hR⟩ : ∃ R, R = rootT tw M := ⟨_, rfl⟩
  have HR := Lib.hid hR
  obtain ⟨q, hq⟩ : ∃ q, q = mutT tw M := ⟨_, rfl⟩
  unfold RootPost at HC1
  rw [← hR, ← hq] at HC1
  clear hR hq hY hpk hbb HML HBr HG HN HCut RY hme hm0 hi
  go_upto_region 6 with (first
    | (go_at_call 11; (with_reducible refine HC1.out.mono ?_); rintro e w2 ⟨rfl, hRl, hb⟩; have HRl := Lib.hid hRl; have KT := Lib.hid ((HBx.new w2 Z32 rfl).kt hRl); have IR := Lib.hid (i25a hRl); have HB1 := Lib.hid hb; clear hb hRl HC1; dsimp only)
    | ((with_reducible show wpList _ _ _ ((⟨none, _, _, _, _, _⟩ : Oper) :: _) _ _); with_reducible refine wpList_store_mid rfl 25 (.tmp 7) (.tmp 28) rfl w2.heap.size 0 (vbs R).toArray rfl rfl KT.out IR.out (all_oneCell_toArray (vbs_one _)) ?_))
  have bA : Below W1.heap.size W1 ((w2.alloc (.cells (vbs Z32).toArray 25)).setCells w2.heap.size 0 (vbs R)) := HB1.out.trans ((below_laidT w2 25 Z32 R).mono HB1.out.size)
  have P7 := Lib.hid (HBx.laid w2 HRl.out)
  generalize ((w2.alloc (.cells (vbs Z32).toArray 25)).setCells w2.heap.size 0 (vbs R)) = W2 at bA P7 ⊢
  generalize w2.heap.size = g7 at P7 ⊢
  have HC2 := Lib.hid (HC0.out.below bA HC0.out.lt)
  have BW2 := Lib.hid (HB0.out.trans (bA.mono HB0.out.size))
  have HBI := Lib.hid (branch_any HT.out (some ⟨b, o, none⟩) m c M (j : Int) W2 (ML.out _ BW2.out) (GL.out _ BW2.out) (by omega) (by omega))
  obtain ⟨K, hK⟩ : ∃ K, K = branchT tw M j := ⟨_, rfl⟩
  have HK := Lib.hid hK
  rw [show branchI tw M (j : Int) = some K by unfold branchI; rw [if_pos ⟨by omega, by have := HJM.out; omega⟩, Int.toNat_natCast, hK]] at HBI
  have HKl : Hid (K.length ≤ 100) := show K.length ≤ 100 by
    rw [hK]
    have h1 := branchK_le tw M j (nrow M.length)
    have h2 := nrow_le M.length M.length (Nat.le_refl _)
    have h3 := HMl.out
    show (branchK tw M j (nrow M.length)).length ≤ 100
    omega
  clear bA HC0 HB0 HB1 KT IR hK
  go_upto_region 7 with (first
    | (go_at_call 18; (with_reducible refine HBI.out.mono ?_); rintro e w3 ⟨v9, rfl, ho9, hb⟩; obtain ⟨A9, c9, e9, hr9⟩ := ho9.rdN; replace e9 : v9 = .slice A9 K.length c9 := e9; subst e9; have HB3 := Lib.hid hb; have HK9 := Lib.hid (show RdN 32 w3 A9 K.length c9 K from hr9); clear hb ho9 hr9 HBI; dsimp only [Option.isSome_some]))
  have HC3 := Lib.hid (HC2.out.below HB3.out HC2.out.lt)
  have P73 := Lib.hid (P7.out.below HB3.out)
  have BW3 := Lib.hid (BW2.out.trans (HB3.out.mono BW2.out.size))
  have R3 := Lib.hid (YL.out _ BW3.out)
  have HF1 := Lib.hid (fold_any HT.out Y HYl.out (j : Int) (m : Int) A9 K.length c9 K w3 (by omega) (by omega) HK9.out (GL.out _ BW3.out))
  have hf1 : foldI tw Y (j : Int) (m : Int) K = some R := by
    unfold foldI
    rw [if_pos ⟨by omega, by omega, by omega⟩, Int.toNat_natCast, Int.toNat_natCast, HY.out, HK.out, HR.out, ← HMl.out]
    exact fold_back M.length M j (Nat.le_refl _) HJM.out
  unfold FoldPost at HF1
  rw [hf1] at HF1
  clear hf1 HC2 P7 BW2 HB3
  dsimp only [Option.getD_some, Option.isSome_some] at HF1
  go_upto_region 8 with (first
    | ((with_reducible show wpList _ _ _ ((⟨some 40, _, _, _, _, _⟩ : Oper) :: _) _ _); with_reducible refine wpList_load_mid rfl 25 (.tmp 39) rfl b (o + j * 32) rfl (vbs Y) _ R3.out Tryd.underlying25 rfl IY.out ?_)
    | (go_at_call 20; (with_reducible refine HF1.out.mono ?_); rintro e w4 ⟨rfl, hRl, hb⟩; have KT := Lib.hid ((HBx.new w4 Z32 rfl).kt hRl); have IR := Lib.hid (i25a hRl); have HB1 := Lib.hid hb; clear hb hRl HF1; dsimp only)
    | ((with_reducible show wpList _ _ _ ((⟨none, _, _, _, _, _⟩ : Oper) :: _) _ _); with_reducible refine wpList_store_mid rfl 25 (.tmp 11) (.tmp 46) rfl w4.heap.size 0 (vbs R).toArray rfl rfl KT.out IR.out (all_oneCell_toArray (vbs_one _)) ?_))
  have bA : Below w3.heap.size w3 ((w4.alloc (.cells (vbs Z32).toArray 25)).setCells w4.heap.size 0 (vbs R)) := HB1.out.trans ((below_laidT w4 25 Z32 R).mono HB1.out.size)
  have P11 := Lib.hid (HBx.laid w4 HRl.out)
  generalize ((w4.alloc (.cells (vbs Z32).toArray 25)).setCells w4.heap.size 0 (vbs R)) = W5 at bA P11 ⊢
  generalize w4.heap.size = g11 at P11 ⊢
  have HC5 := Lib.hid (HC3.out.below bA HC3.out.lt)
  have P75 := Lib.hid (P73.out.below bA)
  have HK5 := Lib.hid (HK9.out.below bA)
  have BW5 := Lib.hid (BW3.out.trans (bA.mono BW3.out.size))
  clear bA HC3 P73 HK9 BW3 HB1 KT IR R3
  have R11 := Lib.hid P11.out.1.range
  have R7 := Lib.hid P75.out.1.range
  have I11 := Lib.hid P11.out.inf
  have nq := neq25 R R HRl.out HRl.out
  rw [show decide (R = R) = true from by simp, Bool.not_true] at nq
  go_upto_region 10 with (first
    | ((with_reducible show wpList _ _ _ ((⟨some 55, _, _, _, _, _⟩ : Oper) :: _) _ _); refine wpList_load_on (by rfl) 25 (.tmp 11) rfl g11 0 rfl (vbs R) _ R11.out Tryd.underlying25 rfl I11.out ?_)
    | ((with_reducible show wpList _ _ _ ((⟨some 56, _, _, _, _, _⟩ : Oper) :: _) _ _); refine wpList_load_on (by rfl) 25 (.tmp 7) rfl g7 0 rfl (vbs R) _ R7.out Tryd.underlying25 rfl I11.out ?_))
  clear nq R11 R7 I11 P11
  obtain ⟨r2, hr2⟩ : ∃ r2, r2 = foldT tw m X j m BR := ⟨_, rfl⟩
  have HR2 := Lib.hid hr2
  have HF2 := Lib.hid (fold_any HT.out X HX.out (j : Int) (m : Int) B bn bc BR W5 (by omega) (by omega) (BL.out _ BW5.out) (GL.out _ BW5.out))
  unfold FoldPost at HF2
  rw [show foldI tw X (j : Int) (m : Int) BR = r2 by unfold foldI; rw [if_pos ⟨by omega, by omega, by omega⟩, Int.toNat_natCast, Int.toNat_natCast, hr2]] at HF2
  have hso : r2.isSome = decide (bn = K.length) := by
    have h1 := fold_some (tw := tw) m m j X BR M (Nat.le_refl _) hj HMl.out
    rw [← hr2, ← HK.out, (BL.out _ BW5.out).num] at h1
    exact h1
  have HSO := Lib.hid hso
  obtain ⟨N, hN⟩ : ∃ N, N = r2.getD Z32 := ⟨_, rfl⟩
  have HNe := Lib.hid hN
  obtain ⟨s2, hs2⟩ : ∃ s2, s2 = r2.isSome := ⟨_, rfl⟩
  have HS2 := Lib.hid hs2
  rw [← hN, ← hs2] at HF2
  have c34 := cCl_at HX.out HC5.out
  have RX := Lib.hid (cCl_rg HC5.out)
  clear hr2 hso hN hs2
  go_upto_region 11 with (first
    | ((with_reducible show wpList _ _ _ ((⟨some 61, _, _, _, _, _⟩ : Oper) :: _) _ _); with_reducible refine wpList_load_mid rfl 25 (.tmp 60) rfl w.heap.size 0 rfl (vbs X) _ RX.out Tryd.underlying25 rfl IX.out ?_)
    | (go_at_call 20; (with_reducible refine HF2.out.mono ?_); rintro e w6 ⟨rfl, hNl, hb⟩; have HNl := Lib.hid hNl; have KT := Lib.hid ((HBx.new w6 Z32 rfl).kt hNl); have IN := Lib.hid (i25a hNl); have HB1 := Lib.hid hb; clear hb hNl HF2; dsimp only)
    | ((with_reducible show wpList _ _ _ ((⟨none, _, _, _, _, _⟩ : Oper) :: _) _ _); with_reducible refine wpList_store_mid rfl 25 (.tmp 13) (.tmp 68) rfl w6.heap.size 0 (vbs N).toArray rfl rfl KT.out IN.out (all_oneCell_toArray (vbs_one _)) ?_))
  have bA : Below W5.heap.size W5 ((w6.alloc (.cells (vbs Z32).toArray 25)).setCells w6.heap.size 0 (vbs N)) := HB1.out.trans ((below_laidT w6 25 Z32 N).mono HB1.out.size)
  have P13 := Lib.hid (HBx.laid w6 HNl.out)
  generalize ((w6.alloc (.cells (vbs Z32).toArray 25)).setCells w6.heap.size 0 (vbs N)) = W7 at bA P13 ⊢
  generalize w6.heap.size = g13 at P13 ⊢
  have HC7 := Lib.hid (HC5.out.below bA HC5.out.lt)
  have P77 := Lib.hid (P75.out.below bA)
  have HK7 := Lib.hid (HK5.out.below bA)
  have BW7 := Lib.hid (BW5.out.trans (bA.mono BW5.out.size))
  clear bA c34 RX HC5 P75 HK5 BW5 HB1 KT IN
  have c34 := cCl_at HX.out HC7.out
  have R13 := Lib.hid P13.out.1.range
  have R7 := Lib.hid P77.out.1.range
  have I13 := Lib.hid P13.out.inf
  have I7 := Lib.hid P77.out.inf
  have nq := neq25 N R HNl.out HRl.out
  have HWA := Lib.hid (HW.out W7 (GL.out _ BW7.out))
  by_cases hlen : bn = K.length
  · have e2 : s2 = true := by rw [HS2.out, HSO.out]; exact decide_eq_true hlen
    subst e2
    subst hlen
    by_cases hNR : N = R
    · subst hNR
      rw [show decide (N = N) = true from by simp, Bool.not_true] at nq
      clear HWA
      go_upto_region 13 with (first
        | ((with_reducible show wpList _ _ _ ((⟨some 73, _, _, _, _, _⟩ : Oper) :: _) _ _); refine wpList_load_on (by rfl) 25 (.tmp 13) rfl g13 0 rfl (vbs N) _ R13.out Tryd.underlying25 rfl I13.out ?_)
        | ((with_reducible show wpList _ _ _ ((⟨some 74, _, _, _, _, _⟩ : Oper) :: _) _ _); refine wpList_load_on (by rfl) 25 (.tmp 7) rfl g7 0 rfl (vbs N) _ R7.out Tryd.underlying25 rfl I7.out ?_))
      clear nq R13 R7 P13 P77 I13 I7 c34
      have hr2 : foldT tw m X j m BR = some N := by
        have h1 := HS2.out
        have h2 := HNe.out
        rw [← HR2.out]
        cases r2 with
        | none => cases h1
        | some z => rw [h2]; rfl
      have HF := Lib.hid hr2
      clear HNe HS2 HSO HR2 hr2
      have eqx := eql25 X Y HX.out HYl.out
      by_cases hXY : X = Y
      · subst hXY
        rw [show decide (X = X) = true from by simp] at eqx
        have HSm : Hid (∀ w', Below W7.heap.size W7 w' → Calls Tryd.prog 28 #[.slice B K.length bc, .slice A9 K.length c9] w' (VPost (.bool (decide (BR = K))) w')) := fun w' hb => same_any B A9 K.length bc K.length c9 BR K w' (BL.out _ (BW7.out.trans (hb.mono BW7.out.size))) (HK7.out.below hb) (by have := HKl.out; omega)
        by_cases hs : BR = K
        · rw [decide_eq_true hs] at HSm
          clear hs
          refine wp_calm ?_
          refine wp_region_but (z := 999) (SBw W7) (by kernel_rfl) ?_
          have hS : (SBw W7) W7.drew := SBw.start W7
          refine AnyBut.takeE (i := 0) (v := ?_) rfl (by kernel_rfl) (by kernel_rfl) (by kernel_rfl) (by kernel_rfl) (fun _ _ _ h => h) (Or.inl ⟨by rfl, ?_⟩) hS ?_
          rotate_left
          · (intro wq hq; go_simp; try with_reducible rfl)
          try simp only [Act.put, List.setIfInBounds_toArray, List.set_cons_zero, List.set_cons_succ, List.getElem_toArray, List.getElem_cons_zero, List.getElem_cons_succ]
          refine AnyBut.takeE (i := 1) (v := .agg (vbs X).toArray) rfl (by kernel_rfl) (by kernel_rfl) (by kernel_rfl) (by kernel_rfl) (fun _ _ _ h => h) ?_ hS ?_
          · exact yieldsIf_load_mid (by rfl) 25 (.tmp 88) rfl (w.heap.size) 0 rfl (vbs X) _ (fun _ h => cCl_rg (HC7.out.below h HC7.out.lt)) Tryd.underlying25 rfl IX.out
          try simp only [Act.put, List.setIfInBounds_toArray, List.set_cons_zero, List.set_cons_succ, List.getElem_toArray, List.getElem_cons_zero, List.getElem_cons_succ]
          refine AnyBut.takeE (i := 2) (v := ?_) rfl (by kernel_rfl) (by kernel_rfl) (by kernel_rfl) (by kernel_rfl) (fun _ _ _ h => h) (Or.inl ⟨by rfl, ?_⟩) hS ?_
          rotate_left
          · (intro wq hq; go_simp; try with_reducible rfl)
          try simp only [Act.put, List.setIfInBounds_toArray, List.set_cons_zero, List.set_cons_succ, List.getElem_toArray, List.getElem_cons_zero, List.getElem_cons_succ]
          refine AnyBut.takeE (i := 3) (v := ?_) rfl (by kernel_rfl) (by kernel_rfl) (by kernel_rfl) (by kernel_rfl) (fun _ _ _ h => h) (Or.inl ⟨by rfl, ?_⟩) hS ?_
          rotate_left
          · (intro wq hq; go_simp; try with_reducible rfl)
          try simp only [Act.put, List.setIfInBounds_toArray, List.set_cons_zero, List.set_cons_succ, List.getElem_toArray, List.getElem_cons_zero, List.getElem_cons_succ]
          refine AnyBut.takeE (i := 4) (v := .pointer (some ⟨b, o + j * 32, none⟩)) rfl (by kernel_rfl) (by kernel_rfl) (by kernel_rfl) (by kernel_rfl) (fun _ _ _ h => h) (Or.inl ⟨by rfl, ?_⟩) hS ?_
          · (intro wq hq; go_simp)
          try simp only [Act.put, List.setIfInBounds_toArray, List.set_cons_zero, List.set_cons_succ, List.getElem_toArray, List.getElem_cons_zero, List.getElem_cons_succ]
          refine AnyBut.takeE (i := 5) (v := .agg (vbs X).toArray) rfl (by kernel_rfl) (by kernel_rfl) (by kernel_rfl) (by kernel_rfl) (fun _ _ _ h => h) ?_ hS ?_
          · exact yieldsIf_load_mid (by rfl) 25 (.tmp 92) rfl (b) (o + j * 32) rfl (vbs X) _ (fun _ h => YL.out _ (BW7.out.trans (Below.mono h BW7.out.size))) Tryd.underlying25 rfl IX.out
          try simp only [Act.put, List.setIfInBounds_toArray, List.set_cons_zero, List.set_cons_succ, List.getElem_toArray, List.getElem_cons_zero, List.getElem_cons_succ]
          refine AnyBut.takeE (i := 6) (v := ?_) rfl (by kernel_rfl) (by kernel_rfl) (by kernel_rfl) (by kernel_rfl) (fun _ _ _ h => h) (Or.inl ⟨by rfl, ?_⟩) hS ?_
          rotate_left
          · (intro wq hq; go_simp; try with_reducible rfl)
          try simp only [Act.put, List.setIfInBounds_toArray, List.set_cons_zero, List.set_cons_succ, List.getElem_toArray, List.getElem_cons_zero, List.getElem_cons_succ]
          refine AnyBut.takeE (i := 7) (v := ?_) rfl (by kernel_rfl) (by kernel_rfl) (by kernel_rfl) (by kernel_rfl) (fun _ _ _ h => h) (Or.inl ⟨by rfl, ?_⟩) hS ?_
          rotate_left
          · (intro wq hq; go_simp; try with_reducible rfl)
          try simp only [Act.put, List.setIfInBounds_toArray, List.set_cons_zero, List.set_cons_succ, List.getElem_toArray, List.getElem_cons_zero, List.getElem_cons_succ]
          refine AnyBut.takeE (i := 8) (v := ?_) rfl (by kernel_rfl) (by kernel_rfl) (by kernel_rfl) (by kernel_rfl) (fun _ _ _ h => h) (Or.inl ⟨by rfl, ?_⟩) hS ?_
          rotate_left
          · (intro wq hq; go_simp; try with_reducible rfl)
          try simp only [Act.put, List.setIfInBounds_toArray, List.set_cons_zero, List.set_cons_succ, List.getElem_toArray, List.getElem_cons_zero, List.getElem_cons_succ]
          refine AnyBut.takeE (i := 9) (v := .slice B K.length bc) rfl (by kernel_rfl) (by kernel_rfl) (by kernel_rfl) (by kernel_rfl) (fun _ _ _ h => h) (Or.inl ⟨by rfl, ?_⟩) hS ?_
          · (intro wq hq; have c := cCl_at HX.out (HC7.out.below hq HC7.out.lt); go_simp)
          try simp only [Act.put, List.setIfInBounds_toArray, List.set_cons_zero, List.set_cons_succ, List.getElem_toArray, List.getElem_cons_zero, List.getElem_cons_succ]
          refine AnyBut.takeE (i := 10) (v := ?_) rfl (by kernel_rfl) (by kernel_rfl) (by kernel_rfl) (by kernel_rfl) (fun _ _ _ h => h) (Or.inl ⟨by rfl, ?_⟩) hS ?_
          rotate_left
          · (intro wq hq; go_simp; try with_reducible rfl)
          try simp only [Act.put, List.setIfInBounds_toArray, List.set_cons_zero, List.set_cons_succ, List.getElem_toArray, List.getElem_cons_zero, List.getElem_cons_succ]
          refine AnyBut.gone (i := 11) (by kernel_rfl) rfl (by rfl) (fun K hK => ?_)
          go_simp
          have hC := HSm.out _ hS
          (with_reducible refine hC.mono ?_)
          rintro e W8 ⟨rfl, hb8⟩
          dsimp only
          have hS8 : SBw W7 W8 := SBw.next hS hb8
          clear hS hb8 hC
          refine hK _ _ (fun _ => hS8) ?_
          clear hK K
          try simp only [Act.put, List.setIfInBounds_toArray, List.set_cons_zero, List.set_cons_succ, List.getElem_toArray, List.getElem_cons_zero, List.getElem_cons_succ]
          have hS := hS8
          refine AnyBut.takeE (i := 12) (v := ?_) rfl (by kernel_rfl) (by kernel_rfl) (by kernel_rfl) (by kernel_rfl) (fun _ _ _ h => h) (Or.inl ⟨by rfl, ?_⟩) hS ?_
          rotate_left
          · (intro wq hq; go_simp; try with_reducible rfl)
          try simp only [Act.put, List.setIfInBounds_toArray, List.set_cons_zero, List.set_cons_succ, List.getElem_toArray, List.getElem_cons_zero, List.getElem_cons_succ]
          refine AnyBut.done (by kernel_rfl) ?_ _
          try dsimp only [Exit.then]
          clear hS
          have BWb := Lib.hid (BW7.out.trans (Below.mono hS8 BW7.out.size))
          have HWA := Lib.hid (HW.out W8 (GL.out _ BWb.out))
          clear hS8 eqx
          go_wp2_with (first | (go_at_call 17; (with_reducible refine HWA.out.mono ?_); rintro e w8 ⟨rfl, hb⟩; have HBZ := Lib.hid hb; clear hb; dsimp only))
          go_ret
          exact ⟨rfl, BWb.out.trans (HBZ.out.mono BWb.out.size)⟩
        · rw [decide_eq_false hs] at HSm
          have hcl := fold_clash HT.out m j X BR M (by rw [HMl.out]; exact Nat.le_refl _) HJM.out (ML.out _ BW7.out).len HX.out (BL.out _ BW7.out).len (by rw [HMl.out, HF.out, HR.out]) (fun e => hs (e.2.trans HK.out.symm))
          rw [HMl.out] at hcl
          have HCl := Lib.hid hcl
          clear hs hcl
          refine wp_calm ?_
          refine wp_region_but (z := 999) (SBw W7) (by kernel_rfl) ?_
          have hS : (SBw W7) W7.drew := SBw.start W7
          refine AnyBut.takeE (i := 0) (v := ?_) rfl (by kernel_rfl) (by kernel_rfl) (by kernel_rfl) (by kernel_rfl) (fun _ _ _ h => h) (Or.inl ⟨by rfl, ?_⟩) hS ?_
          rotate_left
          · (intro wq hq; go_simp; try with_reducible rfl)
          try simp only [Act.put, List.setIfInBounds_toArray, List.set_cons_zero, List.set_cons_succ, List.getElem_toArray, List.getElem_cons_zero, List.getElem_cons_succ]
          refine AnyBut.takeE (i := 1) (v := .agg (vbs X).toArray) rfl (by kernel_rfl) (by kernel_rfl) (by kernel_rfl) (by kernel_rfl) (fun _ _ _ h => h) ?_ hS ?_
          · exact yieldsIf_load_mid (by rfl) 25 (.tmp 88) rfl (w.heap.size) 0 rfl (vbs X) _ (fun _ h => cCl_rg (HC7.out.below h HC7.out.lt)) Tryd.underlying25 rfl IX.out
          try simp only [Act.put, List.setIfInBounds_toArray, List.set_cons_zero, List.set_cons_succ, List.getElem_toArray, List.getElem_cons_zero, List.getElem_cons_succ]
          refine AnyBut.takeE (i := 2) (v := ?_) rfl (by kernel_rfl) (by kernel_rfl) (by kernel_rfl) (by kernel_rfl) (fun _ _ _ h => h) (Or.inl ⟨by rfl, ?_⟩) hS ?_
          rotate_left
          · (intro wq hq; go_simp; try with_reducible rfl)
          try simp only [Act.put, List.setIfInBounds_toArray, List.set_cons_zero, List.set_cons_succ, List.getElem_toArray, List.getElem_cons_zero, List.getElem_cons_succ]
          refine AnyBut.takeE (i := 3) (v := ?_) rfl (by kernel_rfl) (by kernel_rfl) (by kernel_rfl) (by kernel_rfl) (fun _ _ _ h => h) (Or.inl ⟨by rfl, ?_⟩) hS ?_
          rotate_left
          · (intro wq hq; go_simp; try with_reducible rfl)
          try simp only [Act.put, List.setIfInBounds_toArray, List.set_cons_zero, List.set_cons_succ, List.getElem_toArray, List.getElem_cons_zero, List.getElem_cons_succ]
          refine AnyBut.takeE (i := 4) (v := .pointer (some ⟨b, o + j * 32, none⟩)) rfl (by kernel_rfl) (by kernel_rfl) (by kernel_rfl) (by kernel_rfl) (fun _ _ _ h => h) (Or.inl ⟨by rfl, ?_⟩) hS ?_
          · (intro wq hq; go_simp)
          try simp only [Act.put, List.setIfInBounds_toArray, List.set_cons_zero, List.set_cons_succ, List.getElem_toArray, List.getElem_cons_zero, List.getElem_cons_succ]
          refine AnyBut.takeE (i := 5) (v := .agg (vbs X).toArray) rfl (by kernel_rfl) (by kernel_rfl) (by kernel_rfl) (by kernel_rfl) (fun _ _ _ h => h) ?_ hS ?_
          · exact yieldsIf_load_mid (by rfl) 25 (.tmp 92) rfl (b) (o + j * 32) rfl (vbs X) _ (fun _ h => YL.out _ (BW7.out.trans (Below.mono h BW7.out.size))) Tryd.underlying25 rfl IX.out
          try simp only [Act.put, List.setIfInBounds_toArray, List.set_cons_zero, List.set_cons_succ, List.getElem_toArray, List.getElem_cons_zero, List.getElem_cons_succ]
          refine AnyBut.takeE (i := 6) (v := ?_) rfl (by kernel_rfl) (by kernel_rfl) (by kernel_rfl) (by kernel_rfl) (fun _ _ _ h => h) (Or.inl ⟨by rfl, ?_⟩) hS ?_
          rotate_left
          · (intro wq hq; go_simp; try with_reducible rfl)
          try simp only [Act.put, List.setIfInBounds_toArray, List.set_cons_zero, List.set_cons_succ, List.getElem_toArray, List.getElem_cons_zero, List.getElem_cons_succ]
          refine AnyBut.takeE (i := 7) (v := ?_) rfl (by kernel_rfl) (by kernel_rfl) (by kernel_rfl) (by kernel_rfl) (fun _ _ _ h => h) (Or.inl ⟨by rfl, ?_⟩) hS ?_
          rotate_left
          · (intro wq hq; go_simp; try with_reducible rfl)
          try simp only [Act.put, List.setIfInBounds_toArray, List.set_cons_zero, List.set_cons_succ, List.getElem_toArray, List.getElem_cons_zero, List.getElem_cons_succ]
          refine AnyBut.takeE (i := 8) (v := ?_) rfl (by kernel_rfl) (by kernel_rfl) (by kernel_rfl) (by kernel_rfl) (fun _ _ _ h => h) (Or.inl ⟨by rfl, ?_⟩) hS ?_
          rotate_left
          · (intro wq hq; go_simp; try with_reducible rfl)
          try simp only [Act.put, List.setIfInBounds_toArray, List.set_cons_zero, List.set_cons_succ, List.getElem_toArray, List.getElem_cons_zero, List.getElem_cons_succ]
          refine AnyBut.takeE (i := 9) (v := .slice B K.length bc) rfl (by kernel_rfl) (by kernel_rfl) (by kernel_rfl) (by kernel_rfl) (fun _ _ _ h => h) (Or.inl ⟨by rfl, ?_⟩) hS ?_
          · (intro wq hq; have c := cCl_at HX.out (HC7.out.below hq HC7.out.lt); go_simp)
          try simp only [Act.put, List.setIfInBounds_toArray, List.set_cons_zero, List.set_cons_succ, List.getElem_toArray, List.getElem_cons_zero, List.getElem_cons_succ]
          refine AnyBut.takeE (i := 10) (v := ?_) rfl (by kernel_rfl) (by kernel_rfl) (by kernel_rfl) (by kernel_rfl) (fun _ _ _ h => h) (Or.inl ⟨by rfl, ?_⟩) hS ?_
          rotate_left
          · (intro wq hq; go_simp; try with_reducible rfl)
          try simp only [Act.put, List.setIfInBounds_toArray, List.set_cons_zero, List.set_cons_succ, List.getElem_toArray, List.getElem_cons_zero, List.getElem_cons_succ]
          refine AnyBut.gone (i := 11) (by kernel_rfl) rfl (by rfl) (fun K hK => ?_)
          go_simp
          have hC := HSm.out _ hS
          (with_reducible refine hC.mono ?_)
          rintro e W8 ⟨rfl, hb8⟩
          dsimp only
          have hS8 : SBw W7 W8 := SBw.next hS hb8
          clear hS hb8 hC
          refine hK _ _ (fun _ => hS8) ?_
          clear hK K
          try simp only [Act.put, List.setIfInBounds_toArray, List.set_cons_zero, List.set_cons_succ, List.getElem_toArray, List.getElem_cons_zero, List.getElem_cons_succ]
          have hS := hS8
          refine AnyBut.takeE (i := 12) (v := ?_) rfl (by kernel_rfl) (by kernel_rfl) (by kernel_rfl) (by kernel_rfl) (fun _ _ _ h => h) (Or.inl ⟨by rfl, ?_⟩) hS ?_
          rotate_left
          · (intro wq hq; go_simp; try with_reducible rfl)
          try simp only [Act.put, List.setIfInBounds_toArray, List.set_cons_zero, List.set_cons_succ, List.getElem_toArray, List.getElem_cons_zero, List.getElem_cons_succ]
          refine AnyBut.done (by kernel_rfl) ?_ _
          try dsimp only [Exit.then]
          clear hS
          clear HSm eqx
          have V0 := hS8
          have BWv := Lib.hid (BW7.out.trans (Below.mono V0 BW7.out.size))
          have HCv := Lib.hid (HC7.out.below V0 HC7.out.lt)
          clear HC7 HK7
          have T1 : Hid (∀ w', Below W8.heap.size W8 w' → Calls Tryd.prog 14 #[.slice (some ⟨b, o, none⟩) m c] w' (TPost (textsT tw M) w')) := fun w' hb => texts_any HT.out _ m c M w' (ML.out _ (BWv.out.trans (hb.mono BWv.out.size))) (GL.out _ (BWv.out.trans (hb.mono BWv.out.size))) (by omega)
          have F1 : Hid (∀ w', Below W8.heap.size W8 w' → Calls Tryd.prog 30 #[.agg (vbs X).toArray, .int .i64 (j : Int), .int .i64 (m : Int), .slice B K.length bc] w' (FdPost (foldedT tw m X j m BR) w')) := fun w' hb => folded_any HT.out X HX.out j m B K.length bc BR w' hj (by omega) (BL.out _ (BWv.out.trans (hb.mono BWv.out.size))) (GL.out _ (BWv.out.trans (hb.mono BWv.out.size))) (by rw [HF.out]; rfl)
          go_upto_region 15 with fail
          refine wp_calm ?_
          refine wp_region_but (z := 999) (SBw W8) (by kernel_rfl) ?_
          have hS : (SBw W8) W8.drew := SBw.start W8
          refine AnyBut.takeE (i := 0) (v := ?_) rfl (by kernel_rfl) (by kernel_rfl) (by kernel_rfl) (by kernel_rfl) (fun _ _ _ h => h) (Or.inl ⟨by rfl, ?_⟩) hS ?_
          rotate_left
          · (intro wq hq; go_simp; try with_reducible rfl)
          try simp only [Act.put, List.setIfInBounds_toArray, List.set_cons_zero, List.set_cons_succ, List.getElem_toArray, List.getElem_cons_zero, List.getElem_cons_succ]
          refine AnyBut.takeE (i := 2) (v := ?_) rfl (by kernel_rfl) (by kernel_rfl) (by kernel_rfl) (by kernel_rfl) (fun _ _ _ h => h) (Or.inl ⟨by rfl, ?_⟩) hS ?_
          rotate_left
          · (intro wq hq; go_simp; try with_reducible rfl)
          try simp only [Act.put, List.setIfInBounds_toArray, List.set_cons_zero, List.set_cons_succ, List.getElem_toArray, List.getElem_cons_zero, List.getElem_cons_succ]
          refine AnyBut.takeE (i := 3) (v := .agg (vbs X).toArray) rfl (by kernel_rfl) (by kernel_rfl) (by kernel_rfl) (by kernel_rfl) (fun _ _ _ h => h) ?_ hS ?_
          · exact yieldsIf_load_mid (by rfl) 25 (.tmp 104) rfl (w.heap.size) 0 rfl (vbs X) _ (fun _ h => cCl_rg (HCv.out.below h HCv.out.lt)) Tryd.underlying25 rfl IX.out
          try simp only [Act.put, List.setIfInBounds_toArray, List.set_cons_zero, List.set_cons_succ, List.getElem_toArray, List.getElem_cons_zero, List.getElem_cons_succ]
          refine AnyBut.takeE (i := 4) (v := ?_) rfl (by kernel_rfl) (by kernel_rfl) (by kernel_rfl) (by kernel_rfl) (fun _ _ _ h => h) (Or.inl ⟨by rfl, ?_⟩) hS ?_
          rotate_left
          · (intro wq hq; go_simp; try with_reducible rfl)
          try simp only [Act.put, List.setIfInBounds_toArray, List.set_cons_zero, List.set_cons_succ, List.getElem_toArray, List.getElem_cons_zero, List.getElem_cons_succ]
          refine AnyBut.takeE (i := 5) (v := ?_) rfl (by kernel_rfl) (by kernel_rfl) (by kernel_rfl) (by kernel_rfl) (fun _ _ _ h => h) (Or.inl ⟨by rfl, ?_⟩) hS ?_
          rotate_left
          · (intro wq hq; go_simp; try with_reducible rfl)
          try simp only [Act.put, List.setIfInBounds_toArray, List.set_cons_zero, List.set_cons_succ, List.getElem_toArray, List.getElem_cons_zero, List.getElem_cons_succ]
          refine AnyBut.takeE (i := 6) (v := ?_) rfl (by kernel_rfl) (by kernel_rfl) (by kernel_rfl) (by kernel_rfl) (fun _ _ _ h => h) (Or.inl ⟨by rfl, ?_⟩) hS ?_
          rotate_left
          · (intro wq hq; go_simp; try with_reducible rfl)
          try simp only [Act.put, List.setIfInBounds_toArray, List.set_cons_zero, List.set_cons_succ, List.getElem_toArray, List.getElem_cons_zero, List.getElem_cons_succ]
          refine AnyBut.takeE (i := 7) (v := ?_) rfl (by kernel_rfl) (by kernel_rfl) (by kernel_rfl) (by kernel_rfl) (fun _ _ _ h => h) (Or.inl ⟨by rfl, ?_⟩) hS ?_
          rotate_left
          · (intro wq hq; go_simp; try with_reducible rfl)
          try simp only [Act.put, List.setIfInBounds_toArray, List.set_cons_zero, List.set_cons_succ, List.getElem_toArray, List.getElem_cons_zero, List.getElem_cons_succ]
          refine AnyBut.takeE (i := 8) (v := .slice B K.length bc) rfl (by kernel_rfl) (by kernel_rfl) (by kernel_rfl) (by kernel_rfl) (fun _ _ _ h => h) (Or.inl ⟨by rfl, ?_⟩) hS ?_
          · (intro wq hq; have c := cCl_at HX.out (HCv.out.below hq HCv.out.lt); go_simp)
          try simp only [Act.put, List.setIfInBounds_toArray, List.set_cons_zero, List.set_cons_succ, List.getElem_toArray, List.getElem_cons_zero, List.getElem_cons_succ]
          refine AnyBut.gone (i := 1) (by kernel_rfl) rfl (by rfl) (fun K hK => ?_)
          go_simp
          have hC := T1.out _ hS
          (with_reducible refine hC.mono ?_)
          rintro e W9 ⟨v9', rfl, ho9, hb9⟩
          dsimp only
          have hS9 : SBw W8 W9 := SBw.next hS hb9
          clear hS hb9 hC
          refine hK _ _ (fun _ => hS9) ?_
          clear hK K
          try simp only [Act.put, List.setIfInBounds_toArray, List.set_cons_zero, List.set_cons_succ, List.getElem_toArray, List.getElem_cons_zero, List.getElem_cons_succ]
          have hS := hS9
          refine AnyBut.gone (i := 9) (by kernel_rfl) rfl (by rfl) (fun K hK => ?_)
          go_simp
          have hC := F1.out _ hS9
          (with_reducible refine hC.mono ?_)
          rintro e W10 ⟨v10, rfl, ho10, hb10⟩
          dsimp only
          have hS10 : SBw W8 W10 := SBw.next hS9 hb10
          obtain ⟨A6, c6, e6, hw6⟩ := (ho9.below hb10).ws
          obtain ⟨A7, c7, e7, hw7⟩ := ho10.ws
          subst e6
          subst e7
          have BW10 := Lib.hid (BWv.out.trans (Below.mono hS10 BWv.out.size))
          have HCc := Lib.hid (clash_any HT.out A6 A7 _ c6 _ c7 _ _ W10 hw6 hw7 (GL.out _ BW10.out) (by have h1 := textsK_le tw M (nrow M.length); have := HMl.out; show (textsK tw M (nrow M.length)).length ≤ 1000000; omega) (by have h1 := foldedT_len (tw := tw) m X j m BR; omega))
          rw [HCl.out] at HCc
          clear hS hS9 hC hb10 ho9 ho10 hw6 hw7
          refine hK _ _ (fun _ => hS10) ?_
          clear hK K
          try simp only [Act.put, List.setIfInBounds_toArray, List.set_cons_zero, List.set_cons_succ, List.getElem_toArray, List.getElem_cons_zero, List.getElem_cons_succ]
          have hS := hS10
          refine AnyBut.gone (i := 10) (by kernel_rfl) rfl (by rfl) (fun K hK => ?_)
          go_simp
          (with_reducible refine HCc.out.mono ?_)
          rintro e W11 ⟨rfl, hb11⟩
          dsimp only
          have hS11 : SBw W8 W11 := SBw.next hS10 hb11
          have BW11 := Lib.hid (BWv.out.trans (Below.mono hS11 BWv.out.size))
          have HWA := Lib.hid (HW.out W11 (GL.out _ BW11.out))
          clear hS hS10 hb11
          refine hK _ _ (fun _ => hS11) ?_
          clear hK K
          try simp only [Act.put, List.setIfInBounds_toArray, List.set_cons_zero, List.set_cons_succ, List.getElem_toArray, List.getElem_cons_zero, List.getElem_cons_succ]
          have hS := hS11
          refine AnyBut.takeE (i := 11) (v := ?_) rfl (by kernel_rfl) (by kernel_rfl) (by kernel_rfl) (by kernel_rfl) (fun _ _ _ h => h) (Or.inl ⟨by rfl, ?_⟩) hS ?_
          rotate_left
          · (intro wq hq; go_simp; try with_reducible rfl)
          try simp only [Act.put, List.setIfInBounds_toArray, List.set_cons_zero, List.set_cons_succ, List.getElem_toArray, List.getElem_cons_zero, List.getElem_cons_succ]
          refine AnyBut.gone (i := 12) (by kernel_rfl) rfl (by rfl) (fun K hK => ?_)
          go_simp
          (with_reducible refine HWA.out.mono ?_)
          rintro e W12 ⟨rfl, hb12⟩
          dsimp only
          have hS12 : SBw W8 W12 := SBw.next hS11 hb12
          clear hS hb12
          refine hK _ _ (fun _ => hS12) ?_
          clear hK K
          try simp only [Act.put, List.setIfInBounds_toArray, List.set_cons_zero, List.set_cons_succ, List.getElem_toArray, List.getElem_cons_zero, List.getElem_cons_succ]
          have hS := hS12
          refine AnyBut.takeE (i := 13) (v := ?_) rfl (by kernel_rfl) (by kernel_rfl) (by kernel_rfl) (by kernel_rfl) (fun _ _ _ h => h) (Or.inl ⟨by rfl, ?_⟩) hS ?_
          rotate_left
          · (intro wq hq; go_simp; try with_reducible rfl)
          try simp only [Act.put, List.setIfInBounds_toArray, List.set_cons_zero, List.set_cons_succ, List.getElem_toArray, List.getElem_cons_zero, List.getElem_cons_succ]
          refine AnyBut.takeE (i := 14) (v := ?_) rfl (by kernel_rfl) (by kernel_rfl) (by kernel_rfl) (by kernel_rfl) (fun _ _ _ h => h) (Or.inl ⟨by rfl, ?_⟩) hS ?_
          rotate_left
          · (intro wq hq; go_simp; try with_reducible rfl)
          try simp only [Act.put, List.setIfInBounds_toArray, List.set_cons_zero, List.set_cons_succ, List.getElem_toArray, List.getElem_cons_zero, List.getElem_cons_succ]
          refine AnyBut.done (by kernel_rfl) ?_ _
          try dsimp only [Exit.then]
          clear hS
          go_wp2_with fail
          go_ret
          exact ⟨rfl, BWv.out.trans (Below.mono hS12 BWv.out.size)⟩
      · rw [decide_eq_false hXY] at eqx
        have hcl := fold_clash HT.out m j X BR M (by rw [HMl.out]; exact Nat.le_refl _) HJM.out (ML.out _ BW7.out).len HX.out (BL.out _ BW7.out).len (by rw [HMl.out, HF.out, HR.out]) (fun e => hXY (e.1.trans HY.out.symm))
        rw [HMl.out] at hcl
        have HCl := Lib.hid hcl
        clear hXY hcl
        refine wp_calm ?_
        refine wp_region_but (z := 999) (SBw W7) (by kernel_rfl) ?_
        have hS : (SBw W7) W7.drew := SBw.start W7
        refine AnyBut.takeE (i := 0) (v := ?_) rfl (by kernel_rfl) (by kernel_rfl) (by kernel_rfl) (by kernel_rfl) (fun _ _ _ h => h) (Or.inl ⟨by rfl, ?_⟩) hS ?_
        rotate_left
        · (intro wq hq; go_simp; try with_reducible rfl)
        try simp only [Act.put, List.setIfInBounds_toArray, List.set_cons_zero, List.set_cons_succ, List.getElem_toArray, List.getElem_cons_zero, List.getElem_cons_succ]
        refine AnyBut.takeE (i := 1) (v := .agg (vbs X).toArray) rfl (by kernel_rfl) (by kernel_rfl) (by kernel_rfl) (by kernel_rfl) (fun _ _ _ h => h) ?_ hS ?_
        · exact yieldsIf_load_mid (by rfl) 25 (.tmp 88) rfl (w.heap.size) 0 rfl (vbs X) _ (fun _ h => cCl_rg (HC7.out.below h HC7.out.lt)) Tryd.underlying25 rfl IX.out
        try simp only [Act.put, List.setIfInBounds_toArray, List.set_cons_zero, List.set_cons_succ, List.getElem_toArray, List.getElem_cons_zero, List.getElem_cons_succ]
        refine AnyBut.takeE (i := 2) (v := ?_) rfl (by kernel_rfl) (by kernel_rfl) (by kernel_rfl) (by kernel_rfl) (fun _ _ _ h => h) (Or.inl ⟨by rfl, ?_⟩) hS ?_
        rotate_left
        · (intro wq hq; go_simp; try with_reducible rfl)
        try simp only [Act.put, List.setIfInBounds_toArray, List.set_cons_zero, List.set_cons_succ, List.getElem_toArray, List.getElem_cons_zero, List.getElem_cons_succ]
        refine AnyBut.takeE (i := 3) (v := ?_) rfl (by kernel_rfl) (by kernel_rfl) (by kernel_rfl) (by kernel_rfl) (fun _ _ _ h => h) (Or.inl ⟨by rfl, ?_⟩) hS ?_
        rotate_left
        · (intro wq hq; go_simp; try with_reducible rfl)
        try simp only [Act.put, List.setIfInBounds_toArray, List.set_cons_zero, List.set_cons_succ, List.getElem_toArray, List.getElem_cons_zero, List.getElem_cons_succ]
        refine AnyBut.takeE (i := 4) (v := .pointer (some ⟨b, o + j * 32, none⟩)) rfl (by kernel_rfl) (by kernel_rfl) (by kernel_rfl) (by kernel_rfl) (fun _ _ _ h => h) (Or.inl ⟨by rfl, ?_⟩) hS ?_
        · (intro wq hq; go_simp)
        try simp only [Act.put, List.setIfInBounds_toArray, List.set_cons_zero, List.set_cons_succ, List.getElem_toArray, List.getElem_cons_zero, List.getElem_cons_succ]
        refine AnyBut.takeE (i := 5) (v := .agg (vbs Y).toArray) rfl (by kernel_rfl) (by kernel_rfl) (by kernel_rfl) (by kernel_rfl) (fun _ _ _ h => h) ?_ hS ?_
        · exact yieldsIf_load_mid (by rfl) 25 (.tmp 92) rfl (b) (o + j * 32) rfl (vbs Y) _ (fun _ h => YL.out _ (BW7.out.trans (Below.mono h BW7.out.size))) Tryd.underlying25 rfl IY.out
        try simp only [Act.put, List.setIfInBounds_toArray, List.set_cons_zero, List.set_cons_succ, List.getElem_toArray, List.getElem_cons_zero, List.getElem_cons_succ]
        refine AnyBut.takeE (i := 6) (v := ?_) rfl (by kernel_rfl) (by kernel_rfl) (by kernel_rfl) (by kernel_rfl) (fun _ _ _ h => h) (Or.inl ⟨by rfl, ?_⟩) hS ?_
        rotate_left
        · (intro wq hq; go_simp; try with_reducible rfl)
        try simp only [Act.put, List.setIfInBounds_toArray, List.set_cons_zero, List.set_cons_succ, List.getElem_toArray, List.getElem_cons_zero, List.getElem_cons_succ]
        refine AnyBut.takeE (i := 7) (v := ?_) rfl (by kernel_rfl) (by kernel_rfl) (by kernel_rfl) (by kernel_rfl) (fun _ _ _ h => h) (Or.inl ⟨by rfl, ?_⟩) hS ?_
        rotate_left
        · (intro wq hq; go_simp; try with_reducible rfl)
        try simp only [Act.put, List.setIfInBounds_toArray, List.set_cons_zero, List.set_cons_succ, List.getElem_toArray, List.getElem_cons_zero, List.getElem_cons_succ]
        refine AnyBut.takeE (i := 8) (v := undef) rfl (by kernel_rfl) (by kernel_rfl) (by kernel_rfl) (by kernel_rfl) (fun _ _ _ h => h) (Or.inr ⟨by rfl, rfl⟩) hS ?_
        try simp only [Act.put, List.setIfInBounds_toArray, List.set_cons_zero, List.set_cons_succ, List.getElem_toArray, List.getElem_cons_zero, List.getElem_cons_succ]
        refine AnyBut.takeE (i := 9) (v := undef) rfl (by kernel_rfl) (by kernel_rfl) (by kernel_rfl) (by kernel_rfl) (fun _ _ _ h => h) (Or.inr ⟨by rfl, rfl⟩) hS ?_
        try simp only [Act.put, List.setIfInBounds_toArray, List.set_cons_zero, List.set_cons_succ, List.getElem_toArray, List.getElem_cons_zero, List.getElem_cons_succ]
        refine AnyBut.takeE (i := 10) (v := undef) rfl (by kernel_rfl) (by kernel_rfl) (by kernel_rfl) (by kernel_rfl) (fun _ _ _ h => h) (Or.inr ⟨by rfl, rfl⟩) hS ?_
        try simp only [Act.put, List.setIfInBounds_toArray, List.set_cons_zero, List.set_cons_succ, List.getElem_toArray, List.getElem_cons_zero, List.getElem_cons_succ]
        refine AnyBut.takeE (i := 11) (v := undef) rfl (by kernel_rfl) (by kernel_rfl) (by kernel_rfl) (by kernel_rfl) (fun _ _ _ h => h) (Or.inr ⟨by rfl, rfl⟩) hS ?_
        try simp only [Act.put, List.setIfInBounds_toArray, List.set_cons_zero, List.set_cons_succ, List.getElem_toArray, List.getElem_cons_zero, List.getElem_cons_succ]
        refine AnyBut.takeE (i := 12) (v := ?_) rfl (by kernel_rfl) (by kernel_rfl) (by kernel_rfl) (by kernel_rfl) (fun _ _ _ h => h) (Or.inl ⟨by rfl, ?_⟩) hS ?_
        rotate_left
        · (intro wq hq; go_simp; try with_reducible rfl)
        try simp only [Act.put, List.setIfInBounds_toArray, List.set_cons_zero, List.set_cons_succ, List.getElem_toArray, List.getElem_cons_zero, List.getElem_cons_succ]
        refine AnyBut.done (by kernel_rfl) ?_ _
        try dsimp only [Exit.then]
        clear hS eqx
        have V0 : SBw W7 W7.drew := SBw.start W7
        generalize W7.drew = W8 at V0 ⊢
        have BWv := Lib.hid (BW7.out.trans (Below.mono V0 BW7.out.size))
        have HCv := Lib.hid (HC7.out.below V0 HC7.out.lt)
        clear HC7 HK7
        have T1 : Hid (∀ w', Below W8.heap.size W8 w' → Calls Tryd.prog 14 #[.slice (some ⟨b, o, none⟩) m c] w' (TPost (textsT tw M) w')) := fun w' hb => texts_any HT.out _ m c M w' (ML.out _ (BWv.out.trans (hb.mono BWv.out.size))) (GL.out _ (BWv.out.trans (hb.mono BWv.out.size))) (by omega)
        have F1 : Hid (∀ w', Below W8.heap.size W8 w' → Calls Tryd.prog 30 #[.agg (vbs X).toArray, .int .i64 (j : Int), .int .i64 (m : Int), .slice B K.length bc] w' (FdPost (foldedT tw m X j m BR) w')) := fun w' hb => folded_any HT.out X HX.out j m B K.length bc BR w' hj (by omega) (BL.out _ (BWv.out.trans (hb.mono BWv.out.size))) (GL.out _ (BWv.out.trans (hb.mono BWv.out.size))) (by rw [HF.out]; rfl)
        go_upto_region 15 with fail
        refine wp_calm ?_
        refine wp_region_but (z := 999) (SBw W8) (by kernel_rfl) ?_
        have hS : (SBw W8) W8.drew := SBw.start W8
        refine AnyBut.takeE (i := 0) (v := ?_) rfl (by kernel_rfl) (by kernel_rfl) (by kernel_rfl) (by kernel_rfl) (fun _ _ _ h => h) (Or.inl ⟨by rfl, ?_⟩) hS ?_
        rotate_left
        · (intro wq hq; go_simp; try with_reducible rfl)
        try simp only [Act.put, List.setIfInBounds_toArray, List.set_cons_zero, List.set_cons_succ, List.getElem_toArray, List.getElem_cons_zero, List.getElem_cons_succ]
        refine AnyBut.takeE (i := 2) (v := ?_) rfl (by kernel_rfl) (by kernel_rfl) (by kernel_rfl) (by kernel_rfl) (fun _ _ _ h => h) (Or.inl ⟨by rfl, ?_⟩) hS ?_
        rotate_left
        · (intro wq hq; go_simp; try with_reducible rfl)
        try simp only [Act.put, List.setIfInBounds_toArray, List.set_cons_zero, List.set_cons_succ, List.getElem_toArray, List.getElem_cons_zero, List.getElem_cons_succ]
        refine AnyBut.takeE (i := 3) (v := .agg (vbs X).toArray) rfl (by kernel_rfl) (by kernel_rfl) (by kernel_rfl) (by kernel_rfl) (fun _ _ _ h => h) ?_ hS ?_
        · exact yieldsIf_load_mid (by rfl) 25 (.tmp 104) rfl (w.heap.size) 0 rfl (vbs X) _ (fun _ h => cCl_rg (HCv.out.below h HCv.out.lt)) Tryd.underlying25 rfl IX.out
        try simp only [Act.put, List.setIfInBounds_toArray, List.set_cons_zero, List.set_cons_succ, List.getElem_toArray, List.getElem_cons_zero, List.getElem_cons_succ]
        refine AnyBut.takeE (i := 4) (v := ?_) rfl (by kernel_rfl) (by kernel_rfl) (by kernel_rfl) (by kernel_rfl) (fun _ _ _ h => h) (Or.inl ⟨by rfl, ?_⟩) hS ?_
        rotate_left
        · (intro wq hq; go_simp; try with_reducible rfl)
        try simp only [Act.put, List.setIfInBounds_toArray, List.set_cons_zero, List.set_cons_succ, List.getElem_toArray, List.getElem_cons_zero, List.getElem_cons_succ]
        refine AnyBut.takeE (i := 5) (v := ?_) rfl (by kernel_rfl) (by kernel_rfl) (by kernel_rfl) (by kernel_rfl) (fun _ _ _ h => h) (Or.inl ⟨by rfl, ?_⟩) hS ?_
        rotate_left
        · (intro wq hq; go_simp; try with_reducible rfl)
        try simp only [Act.put, List.setIfInBounds_toArray, List.set_cons_zero, List.set_cons_succ, List.getElem_toArray, List.getElem_cons_zero, List.getElem_cons_succ]
        refine AnyBut.takeE (i := 6) (v := ?_) rfl (by kernel_rfl) (by kernel_rfl) (by kernel_rfl) (by kernel_rfl) (fun _ _ _ h => h) (Or.inl ⟨by rfl, ?_⟩) hS ?_
        rotate_left
        · (intro wq hq; go_simp; try with_reducible rfl)
        try simp only [Act.put, List.setIfInBounds_toArray, List.set_cons_zero, List.set_cons_succ, List.getElem_toArray, List.getElem_cons_zero, List.getElem_cons_succ]
        refine AnyBut.takeE (i := 7) (v := ?_) rfl (by kernel_rfl) (by kernel_rfl) (by kernel_rfl) (by kernel_rfl) (fun _ _ _ h => h) (Or.inl ⟨by rfl, ?_⟩) hS ?_
        rotate_left
        · (intro wq hq; go_simp; try with_reducible rfl)
        try simp only [Act.put, List.setIfInBounds_toArray, List.set_cons_zero, List.set_cons_succ, List.getElem_toArray, List.getElem_cons_zero, List.getElem_cons_succ]
        refine AnyBut.takeE (i := 8) (v := .slice B K.length bc) rfl (by kernel_rfl) (by kernel_rfl) (by kernel_rfl) (by kernel_rfl) (fun _ _ _ h => h) (Or.inl ⟨by rfl, ?_⟩) hS ?_
        · (intro wq hq; have c := cCl_at HX.out (HCv.out.below hq HCv.out.lt); go_simp)
        try simp only [Act.put, List.setIfInBounds_toArray, List.set_cons_zero, List.set_cons_succ, List.getElem_toArray, List.getElem_cons_zero, List.getElem_cons_succ]
        refine AnyBut.gone (i := 1) (by kernel_rfl) rfl (by rfl) (fun K hK => ?_)
        go_simp
        have hC := T1.out _ hS
        (with_reducible refine hC.mono ?_)
        rintro e W9 ⟨v9', rfl, ho9, hb9⟩
        dsimp only
        have hS9 : SBw W8 W9 := SBw.next hS hb9
        clear hS hb9 hC
        refine hK _ _ (fun _ => hS9) ?_
        clear hK K
        try simp only [Act.put, List.setIfInBounds_toArray, List.set_cons_zero, List.set_cons_succ, List.getElem_toArray, List.getElem_cons_zero, List.getElem_cons_succ]
        have hS := hS9
        refine AnyBut.gone (i := 9) (by kernel_rfl) rfl (by rfl) (fun K hK => ?_)
        go_simp
        have hC := F1.out _ hS9
        (with_reducible refine hC.mono ?_)
        rintro e W10 ⟨v10, rfl, ho10, hb10⟩
        dsimp only
        have hS10 : SBw W8 W10 := SBw.next hS9 hb10
        obtain ⟨A6, c6, e6, hw6⟩ := (ho9.below hb10).ws
        obtain ⟨A7, c7, e7, hw7⟩ := ho10.ws
        subst e6
        subst e7
        have BW10 := Lib.hid (BWv.out.trans (Below.mono hS10 BWv.out.size))
        have HCc := Lib.hid (clash_any HT.out A6 A7 _ c6 _ c7 _ _ W10 hw6 hw7 (GL.out _ BW10.out) (by have h1 := textsK_le tw M (nrow M.length); have := HMl.out; show (textsK tw M (nrow M.length)).length ≤ 1000000; omega) (by have h1 := foldedT_len (tw := tw) m X j m BR; omega))
        rw [HCl.out] at HCc
        clear hS hS9 hC hb10 ho9 ho10 hw6 hw7
        refine hK _ _ (fun _ => hS10) ?_
        clear hK K
        try simp only [Act.put, List.setIfInBounds_toArray, List.set_cons_zero, List.set_cons_succ, List.getElem_toArray, List.getElem_cons_zero, List.getElem_cons_succ]
        have hS := hS10
        refine AnyBut.gone (i := 10) (by kernel_rfl) rfl (by rfl) (fun K hK => ?_)
        go_simp
        (with_reducible refine HCc.out.mono ?_)
        rintro e W11 ⟨rfl, hb11⟩
        dsimp only
        have hS11 : SBw W8 W11 := SBw.next hS10 hb11
        have BW11 := Lib.hid (BWv.out.trans (Below.mono hS11 BWv.out.size))
        have HWA := Lib.hid (HW.out W11 (GL.out _ BW11.out))
        clear hS hS10 hb11
        refine hK _ _ (fun _ => hS11) ?_
        clear hK K
        try simp only [Act.put, List.setIfInBounds_toArray, List.set_cons_zero, List.set_cons_succ, List.getElem_toArray, List.getElem_cons_zero, List.getElem_cons_succ]
        have hS := hS11
        refine AnyBut.takeE (i := 11) (v := ?_) rfl (by kernel_rfl) (by kernel_rfl) (by kernel_rfl) (by kernel_rfl) (fun _ _ _ h => h) (Or.inl ⟨by rfl, ?_⟩) hS ?_
        rotate_left
        · (intro wq hq; go_simp; try with_reducible rfl)
        try simp only [Act.put, List.setIfInBounds_toArray, List.set_cons_zero, List.set_cons_succ, List.getElem_toArray, List.getElem_cons_zero, List.getElem_cons_succ]
        refine AnyBut.gone (i := 12) (by kernel_rfl) rfl (by rfl) (fun K hK => ?_)
        go_simp
        (with_reducible refine HWA.out.mono ?_)
        rintro e W12 ⟨rfl, hb12⟩
        dsimp only
        have hS12 : SBw W8 W12 := SBw.next hS11 hb12
        clear hS hb12
        refine hK _ _ (fun _ => hS12) ?_
        clear hK K
        try simp only [Act.put, List.setIfInBounds_toArray, List.set_cons_zero, List.set_cons_succ, List.getElem_toArray, List.getElem_cons_zero, List.getElem_cons_succ]
        have hS := hS12
        refine AnyBut.takeE (i := 13) (v := ?_) rfl (by kernel_rfl) (by kernel_rfl) (by kernel_rfl) (by kernel_rfl) (fun _ _ _ h => h) (Or.inl ⟨by rfl, ?_⟩) hS ?_
        rotate_left
        · (intro wq hq; go_simp; try with_reducible rfl)
        try simp only [Act.put, List.setIfInBounds_toArray, List.set_cons_zero, List.set_cons_succ, List.getElem_toArray, List.getElem_cons_zero, List.getElem_cons_succ]
        refine AnyBut.takeE (i := 14) (v := ?_) rfl (by kernel_rfl) (by kernel_rfl) (by kernel_rfl) (by kernel_rfl) (fun _ _ _ h => h) (Or.inl ⟨by rfl, ?_⟩) hS ?_
        rotate_left
        · (intro wq hq; go_simp; try with_reducible rfl)
        try simp only [Act.put, List.setIfInBounds_toArray, List.set_cons_zero, List.set_cons_succ, List.getElem_toArray, List.getElem_cons_zero, List.getElem_cons_succ]
        refine AnyBut.done (by kernel_rfl) ?_ _
        try dsimp only [Exit.then]
        clear hS
        go_wp2_with fail
        go_ret
        exact ⟨rfl, BWv.out.trans (Below.mono hS12 BWv.out.size)⟩
    · rw [decide_eq_false hNR, Bool.not_false] at nq
      go_wp2_with (first
        | ((with_reducible show wpList _ _ _ ((⟨some 73, _, _, _, _, _⟩ : Oper) :: _) _ _); refine wpList_load_on (by rfl) 25 (.tmp 13) rfl g13 0 rfl (vbs N) _ R13.out Tryd.underlying25 rfl I13.out ?_)
        | ((with_reducible show wpList _ _ _ ((⟨some 74, _, _, _, _, _⟩ : Oper) :: _) _ _); refine wpList_load_on (by rfl) 25 (.tmp 7) rfl g7 0 rfl (vbs R) _ R7.out Tryd.underlying25 rfl I7.out ?_)
        | (go_at_call 17; (with_reducible refine HWA.out.mono ?_); rintro e w8 ⟨rfl, hb⟩; have HBZ := Lib.hid hb; clear hb; dsimp only))
      go_ret
      exact ⟨rfl, BW7.out.trans (HBZ.out.mono BW7.out.size)⟩
  · have e2 : s2 = false := by rw [HS2.out, HSO.out]; exact decide_eq_false hlen
    subst e2
    have hbk : ((bn : Int) == (K.length : Int)) = false := by simp; omega
    have hbk' : (bn == K.length) = false := by simp; omega
    go_wp2_with (first
      | (go_at_call 17; (with_reducible refine HWA.out.mono ?_); rintro e w8 ⟨rfl, hb⟩; have HBZ := Lib.hid hb; clear hb; dsimp only))
    go_ret
    exact ⟨rfl, BW7.out.trans (HBZ.out.mono BW7.out.size)⟩
end Go.Proofs.YtihbmahjdmfjpaaDoor
