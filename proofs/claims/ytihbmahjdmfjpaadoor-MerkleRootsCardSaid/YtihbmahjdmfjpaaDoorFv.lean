/- The law MerkleApart returns true for every two lists of hashes that lie in memory. -/
import Derived.Test.YtihbmahjdmfjpaaDoorFu
import Derived.Test.YtihbmahjdmfjpaaDoorFm
import Derived.Outline
import Derived.StillTailTactics
namespace Go.Proofs.YtihbmahjdmfjpaaDoor
open Go.RowKit
set_option linter.unusedVariables false
set_option linter.unusedSimpArgs false
set_option maxRecDepth 100000
variable {tw : List (BitVec 8) → List (BitVec 8)}
theorem wpList_load_on {P : Program} {ops : Array Oper} {rest : List Oper} {op : Oper} {a : Act} {w : World} {Q : Exit → Act → World → Prop} (hgd : Region.wanted op (yielded ops a.tmps) = true) (ty : TypeId) (x : Operand) (ho : op.op = .load ty x)
    (b o : Nat) (hx : a.eval x = .pointer (some ⟨b, o, none⟩)) (cs : List Value) (d : TypeDesc) (hc : w.rangeAt b o cs) (hu : P.underlying ty = some d) (hd : d.isRow = true) (hi : (P.info? ty).map (·.size) = some cs.length)
    (h : wpList P ops Q rest (a.put op.dst (.agg cs.toArray)) w) : wpList P ops Q (op :: rest) a w :=
  wpList_step fun K hK => by simp only [hgd, if_true]; exact wp_load_mid ty x ho b o hx cs d hc hu hd hi (hK _ _ h)
/-- A list that came in, cut. -/
theorem LIn.cut {w : World} {A : Option Addr} {n c : Nat} {L : List (List (BitVec 8))} (h : LIn w A n c L) : ∃ m M, m = min n 60 ∧ LIn w A m c M ∧ m ≤ 60 :=
  ⟨min n 60, L.take (min n 60), rfl, ⟨h.r.take _ (by omega), h.z⟩, by omega⟩
set_option maxHeartbeats 4000000 in
theorem apart_walk (T : TwC tw) (hne : tw (HA ++ HA) ≠ tw (HA ++ HB)) (A : Option Addr) (n c : Nat) (L : List (List (BitVec 8))) (A' : Option Addr) (n' c' : Nat) (L' : List (List (BitVec 8))) (w : World) (hL : LIn w A n c L) (hL' : LIn w A' n' c' L') (hG : Glob w) : Calls Tryd.prog 7 #[.slice A n c, .slice A' n' c'] w (VPost (.bool true) w) := by
  have hz := zero25
  have HCut := Lib.hid (cut_any A n c hL.r.le hL.r.mx w)
  have HCut' := Lib.hid (cut_any A' n' c' hL'.r.le hL'.r.mx w)
  obtain ⟨m, M, hm, hM, hm60⟩ := hL.cut
  obtain ⟨m', M', hm', hM', hm60'⟩ := hL'.cut
  rw [← hm] at HCut
  rw [← hm'] at HCut'
  have HL := Lib.hid hM
  have HL' := Lib.hid hM'
  have HG := Lib.hid hG
  have HT := Lib.hid T
  have HW : Hid (∀ w', Glob w' → Calls Tryd.prog 17 #[] w' (VPost (.bool true) w')) := fun w' hg => works_any T hne w' hg
  have HC1 := Lib.hid (root_any T A m c M w hM.r hG (by omega))
  have HC2 : Hid (∀ w', Below w.heap.size w w' → Calls Tryd.prog 11 #[.slice A' m' c'] w' (RootPost tw M' w')) := fun w' hb => root_any HT.out A' m' c' M' w' (HL'.out.r.below hb) (HG.out.below hb) (by omega)
  obtain ⟨R, hR⟩ : ∃ R, R = rootT tw M := ⟨_, rfl⟩
  obtain ⟨q, hq⟩ : ∃ q, q = mutT tw M := ⟨_, rfl⟩
  obtain ⟨R', hR'⟩ : ∃ R, R = rootT tw M' := ⟨_, rfl⟩
  obtain ⟨q', hq'⟩ : ∃ q, q = mutT tw M' := ⟨_, rfl⟩
  have HR := Lib.hid hR
  have HR' := Lib.hid hR'
  unfold RootPost at HC1 HC2
  rw [← hR, ← hq] at HC1
  rw [← hR', ← hq'] at HC2
  have HMl := Lib.hid hM.r.num
  have HMl' := Lib.hid hM'.r.num
  clear hL hL' hG T hne hm hm' hR hq hR' hq' hM hM'
  go_enter Tryd.func7, Tryd.ntmps7
  go_upto_region 3 with (first
    | (go_at_call 10; (with_reducible refine HCut.out.mono ?_); rintro e w' ⟨rfl, rfl⟩; clear HCut; dsimp only)
    | (go_at_call 10; (with_reducible refine HCut'.out.mono ?_); rintro e w' ⟨rfl, rfl⟩; dsimp only)
    | (go_at_call 11; (with_reducible refine HC1.out.mono ?_); rintro e w1 ⟨rfl, hRl, hb⟩; have HRl := Lib.hid hRl; have KT := Lib.hid ((HBx.new w1 Z32 rfl).kt hRl); have IR := Lib.hid (i25a hRl); have HB1 := Lib.hid hb; clear hb hRl HC1; dsimp only)
    | ((with_reducible show wpList _ _ _ ((⟨none, _, _, _, _, _⟩ : Oper) :: _) _ _); with_reducible refine wpList_store_mid rfl 25 (.tmp 5) (.tmp 16) rfl w1.heap.size 0 (vbs R).toArray rfl rfl KT.out IR.out (all_oneCell_toArray (vbs_one _)) ?_))
  have bA : Below w.heap.size w ((w1.alloc (.cells (vbs Z32).toArray 25)).setCells w1.heap.size 0 (vbs R)) := HB1.out.trans ((below_laidT w1 25 Z32 R).mono HB1.out.size)
  have B5 := Lib.hid (HBx.laid w1 HRl.out)
  generalize ((w1.alloc (.cells (vbs Z32).toArray 25)).setCells w1.heap.size 0 (vbs R)) = W2 at bA B5 ⊢
  generalize w1.heap.size = g5 at B5 ⊢
  have BW := Lib.hid bA
  have HC3 := Lib.hid (HC2.out W2 bA)
  clear bA KT HB1 IR HC2 HCut'
  go_upto_region 4 with (first
    | (go_at_call 11; (with_reducible refine HC3.out.mono ?_); rintro e w3 ⟨rfl, hRl, hb⟩; have HRl' := Lib.hid hRl; have KT := Lib.hid ((HBx.new w3 Z32 rfl).kt hRl); have IR := Lib.hid (i25a hRl); have HB1 := Lib.hid hb; clear hb hRl HC3; dsimp only)
    | ((with_reducible show wpList _ _ _ ((⟨none, _, _, _, _, _⟩ : Oper) :: _) _ _); with_reducible refine wpList_store_mid rfl 25 (.tmp 7) (.tmp 21) rfl w3.heap.size 0 (vbs R').toArray rfl rfl KT.out IR.out (all_oneCell_toArray (vbs_one _)) ?_))
  have bA : Below W2.heap.size W2 ((w3.alloc (.cells (vbs Z32).toArray 25)).setCells w3.heap.size 0 (vbs R')) := HB1.out.trans ((below_laidT w3 25 Z32 R').mono HB1.out.size)
  have B7 := Lib.hid (HBx.laid w3 HRl'.out)
  generalize ((w3.alloc (.cells (vbs Z32).toArray 25)).setCells w3.heap.size 0 (vbs R')) = W4 at bA B7 ⊢
  generalize w3.heap.size = g7 at B7 ⊢
  have C5 := Lib.hid (B5.out.below bA)
  have BW4 := Lib.hid (BW.out.trans (bA.mono BW.out.size))
  clear bA KT HB1 IR BW B5 hz
  have R5 := Lib.hid C5.out.1.range
  have R7 := Lib.hid B7.out.1.range
  have I5 := Lib.hid C5.out.inf
  have I7 := Lib.hid B7.out.inf
  have heq := eql25 R R' HRl.out HRl'.out
  have hnq := neq25 R R' HRl.out HRl'.out
  have HSm : Hid (∀ w', Below w.heap.size w w' → Calls Tryd.prog 28 #[.slice A m c, .slice A' m' c'] w' (VPost (.bool (decide (M = M'))) w')) := fun w' hb => same_any A A' m c m' c' M M' w' (HL.out.r.below hb) (HL'.out.r.below hb) (by omega)
  by_cases hmm : m = m'
  · subst hmm
    by_cases hRR : R = R'
    · subst hRR
      rw [show decide (R = R) = true from by simp] at heq hnq
      rw [Bool.not_true] at hnq
      have HS4 := Lib.hid (HSm.out W4 BW4.out)
      by_cases hs : M = M'
      · subst hs
        rw [show decide (M = M) = true from by simp] at HS4
        clear HR HR' HMl HMl'
        go_upto_region 5 with (first | ((with_reducible show wpList _ _ _ ((⟨some 29, _, _, _, _, _⟩ : Oper) :: _) _ _); refine wpList_load_on (by rfl) 25 (.tmp 5) rfl g5 0 rfl (vbs R) _ R5.out Tryd.underlying25 rfl I5.out ?_) | ((with_reducible show wpList _ _ _ ((⟨some 30, _, _, _, _, _⟩ : Oper) :: _) _ _); refine wpList_load_on (by rfl) 25 (.tmp 7) rfl g7 0 rfl (vbs R) _ R7.out Tryd.underlying25 rfl I7.out ?_) | (go_at_call 28; (with_reducible refine HS4.out.mono ?_); rintro e w5 ⟨rfl, hb⟩; have HB5 := Lib.hid hb; clear hb HS4; dsimp only))
        have BW5 := Lib.hid (BW4.out.trans (HB5.out.mono BW4.out.size))
        have D5 := Lib.hid (C5.out.below HB5.out).1.range
        have D7 := Lib.hid (B7.out.below HB5.out).1.range
        have HW7 := Lib.hid (HW.out w5 (HG.out.below BW5.out))
        go_wp2_with (first | ((with_reducible show wpList _ _ _ ((⟨some 38, _, _, _, _, _⟩ : Oper) :: _) _ _); with_reducible refine wpList_load_mid rfl 25 (.tmp 5) rfl g5 0 rfl (vbs R) _ D5.out Tryd.underlying25 rfl I5.out ?_) | ((with_reducible show wpList _ _ _ ((⟨some 39, _, _, _, _, _⟩ : Oper) :: _) _ _); with_reducible refine wpList_load_mid rfl 25 (.tmp 7) rfl g7 0 rfl (vbs R) _ D7.out Tryd.underlying25 rfl I7.out ?_) | (go_at_call 17; (with_reducible refine HW7.out.mono ?_); rintro e w8 ⟨rfl, hb⟩; have HBZ := Lib.hid hb; clear hb; dsimp only))
        go_ret
        exact ⟨rfl, BW5.out.trans (HBZ.out.mono BW5.out.size)⟩
      · rw [show decide (M = M') = false from decide_eq_false hs] at HS4
        have hcl := apart HT.out M.length M M' (Nat.le_refl _) HL.out.r.len HL'.out.r.len (by rw [HMl.out, HMl'.out]) (by rw [← HR.out, ← HR'.out]) hs
        have HCl := Lib.hid hcl
        clear HR HR' hs hcl
        go_upto_region 6 with (first | ((with_reducible show wpList _ _ _ ((⟨some 29, _, _, _, _, _⟩ : Oper) :: _) _ _); refine wpList_load_on (by rfl) 25 (.tmp 5) rfl g5 0 rfl (vbs R) _ R5.out Tryd.underlying25 rfl I5.out ?_) | ((with_reducible show wpList _ _ _ ((⟨some 30, _, _, _, _, _⟩ : Oper) :: _) _ _); refine wpList_load_on (by rfl) 25 (.tmp 7) rfl g7 0 rfl (vbs R) _ R7.out Tryd.underlying25 rfl I7.out ?_) | (go_at_call 28; (with_reducible refine HS4.out.mono ?_); rintro e w5 ⟨rfl, hb⟩; have HB5 := Lib.hid hb; clear hb HS4; dsimp only))
        have BW5 := Lib.hid (BW4.out.trans (HB5.out.mono BW4.out.size))
        have T1 := Lib.hid (texts_any HT.out A m c M w5 (HL.out.r.below BW5.out) (HG.out.below BW5.out) (by omega))
        have T2 : Hid (∀ w', Below w5.heap.size w5 w' → Calls Tryd.prog 14 #[.slice A' m c'] w' (TPost (textsT tw M') w')) := fun w' hb => texts_any HT.out A' m c' M' w' ((HL'.out.r.below BW5.out).below hb) ((HG.out.below BW5.out).below hb) (by omega)
        go_wp2_with (first
          | (go_at_call 14; (with_reducible refine T1.out.mono ?_); rintro e w6 ⟨v6, rfl, ho, hb⟩; have T3 := Lib.hid (T2.out w6 hb); have HO6 := Lib.hid ho; have HB6 := Lib.hid hb; clear ho hb T1 T2; dsimp only)
          | (go_at_call 14; (with_reducible refine T3.out.mono ?_); rintro e w7 ⟨v7, rfl, ho, hb⟩; obtain ⟨A6, c6, e6, hw6⟩ := (HO6.out.below hb).ws; obtain ⟨A7, c7, e7, hw7⟩ := ho.ws; have hl6 := textsK_le tw M (nrow M.length); have hl7 := textsK_le tw M' (nrow M'.length); have HCc := Lib.hid (clash_any HT.out A6 A7 _ c6 _ c7 _ _ w7 hw6 hw7 ((HG.out.below BW5.out).below (HB6.out.trans (hb.mono HB6.out.size))) (by have := HMl.out; show (textsK tw M (nrow M.length)).length ≤ 1000000; omega) (by have := HMl'.out; show (textsK tw M' (nrow M'.length)).length ≤ 1000000; omega)); have HB7 := Lib.hid (HB6.out.trans (hb.mono HB6.out.size)); rw [HCl.out, ← e6, ← e7] at HCc; clear ho hb T3 e6 e7 hw6 hw7 hl6 hl7; dsimp only)
          | (go_at_call 29; (with_reducible refine HCc.out.mono ?_); rintro e w9 ⟨rfl, hb⟩; have BW9 := Lib.hid ((BW5.out.trans (HB7.out.mono BW5.out.size)).trans (hb.mono (Nat.le_trans BW5.out.size HB7.out.size))); have HW7 := Lib.hid (HW.out w9 (HG.out.below BW9.out)); clear hb HCc; dsimp only)
          | (go_at_call 17; (with_reducible refine HW7.out.mono ?_); rintro e w8 ⟨rfl, hb⟩; have HBZ := Lib.hid hb; clear hb; dsimp only))
        go_ret
        exact ⟨rfl, BW9.out.trans (HBZ.out.mono BW9.out.size)⟩
    · rw [show decide (R = R') = false from decide_eq_false hRR] at heq hnq
      rw [Bool.not_false] at hnq
      have hs : ¬ M = M' := fun e => hRR (by rw [HR.out, HR'.out, e])
      have HS4 := Lib.hid (HSm.out W4 BW4.out)
      rw [show decide (M = M') = false from decide_eq_false hs] at HS4
      clear HR HR' hs hRR HMl HMl'
      go_upto_region 5 with (first | ((with_reducible show wpList _ _ _ ((⟨some 29, _, _, _, _, _⟩ : Oper) :: _) _ _); refine wpList_load_on (by rfl) 25 (.tmp 5) rfl g5 0 rfl (vbs R) _ R5.out Tryd.underlying25 rfl I5.out ?_) | ((with_reducible show wpList _ _ _ ((⟨some 30, _, _, _, _, _⟩ : Oper) :: _) _ _); refine wpList_load_on (by rfl) 25 (.tmp 7) rfl g7 0 rfl (vbs R') _ R7.out Tryd.underlying25 rfl I7.out ?_))
      go_wp2_with (first | ((with_reducible show wpList _ _ _ ((⟨some 38, _, _, _, _, _⟩ : Oper) :: _) _ _); with_reducible refine wpList_load_mid rfl 25 (.tmp 5) rfl g5 0 rfl (vbs R) _ R5.out Tryd.underlying25 rfl I5.out ?_) | ((with_reducible show wpList _ _ _ ((⟨some 39, _, _, _, _, _⟩ : Oper) :: _) _ _); with_reducible refine wpList_load_mid rfl 25 (.tmp 7) rfl g7 0 rfl (vbs R') _ R7.out Tryd.underlying25 rfl I7.out ?_) | (go_at_call 28; (with_reducible refine HS4.out.mono ?_); rintro e w5 ⟨rfl, hb⟩; have BW5 := Lib.hid (BW4.out.trans (hb.mono BW4.out.size)); have HW7 := Lib.hid (HW.out w5 (HG.out.below BW5.out)); clear hb HS4; dsimp only) | (go_at_call 17; (with_reducible refine HW7.out.mono ?_); rintro e w8 ⟨rfl, hb⟩; have HBZ := Lib.hid hb; clear hb; dsimp only))
      go_ret
      exact ⟨rfl, BW5.out.trans (HBZ.out.mono BW5.out.size)⟩
  · have hmm' : ((m : Int) != (m' : Int)) = true := by simp; omega
    have hs : ¬ M = M' := fun e => hmm (by rw [← HMl.out, ← HMl'.out, e])
    have HS4 := Lib.hid (HSm.out W4 BW4.out)
    rw [show decide (M = M') = false from decide_eq_false hs] at HS4
    have HW4 := Lib.hid (HW.out W4 (HG.out.below BW4.out))
    by_cases hRR : R = R'
    · subst hRR
      rw [show decide (R = R) = true from by simp] at heq hnq
      clear HR HR' hs HMl HMl' HS4 hmm
      have HW7 := HW4
      go_wp2_with (first | ((with_reducible show wpList _ _ _ ((⟨some 38, _, _, _, _, _⟩ : Oper) :: _) _ _); with_reducible refine wpList_load_mid rfl 25 (.tmp 5) rfl g5 0 rfl (vbs R) _ R5.out Tryd.underlying25 rfl I5.out ?_) | ((with_reducible show wpList _ _ _ ((⟨some 39, _, _, _, _, _⟩ : Oper) :: _) _ _); with_reducible refine wpList_load_mid rfl 25 (.tmp 7) rfl g7 0 rfl (vbs R) _ R7.out Tryd.underlying25 rfl I7.out ?_) | (go_at_call 17; (with_reducible refine HW7.out.mono ?_); rintro e w8 ⟨rfl, hb⟩; have HBZ := Lib.hid hb; clear hb; dsimp only))
      go_ret
      exact ⟨rfl, BW4.out.trans (HBZ.out.mono BW4.out.size)⟩
    · rw [show decide (R = R') = false from decide_eq_false hRR] at heq hnq
      clear HR HR' hs hRR HMl HMl' hmm HW4
      go_wp2_with (first | ((with_reducible show wpList _ _ _ ((⟨some 38, _, _, _, _, _⟩ : Oper) :: _) _ _); with_reducible refine wpList_load_mid rfl 25 (.tmp 5) rfl g5 0 rfl (vbs R) _ R5.out Tryd.underlying25 rfl I5.out ?_) | ((with_reducible show wpList _ _ _ ((⟨some 39, _, _, _, _, _⟩ : Oper) :: _) _ _); with_reducible refine wpList_load_mid rfl 25 (.tmp 7) rfl g7 0 rfl (vbs R') _ R7.out Tryd.underlying25 rfl I7.out ?_) | (go_at_call 28; (with_reducible refine HS4.out.mono ?_); rintro e w5 ⟨rfl, hb⟩; have BW5 := Lib.hid (BW4.out.trans (hb.mono BW4.out.size)); have HW7 := Lib.hid (HW.out w5 (HG.out.below BW5.out)); clear hb HS4; dsimp only) | (go_at_call 17; (with_reducible refine HW7.out.mono ?_); rintro e w8 ⟨rfl, hb⟩; have HBZ := Lib.hid hb; clear hb; dsimp only))
      go_ret
      exact ⟨rfl, BW5.out.trans (HBZ.out.mono BW5.out.size)⟩
end Go.Proofs.YtihbmahjdmfjpaaDoor
