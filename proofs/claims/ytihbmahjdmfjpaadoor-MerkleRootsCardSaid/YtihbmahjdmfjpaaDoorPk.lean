/- The law MerkleRoots returns true for every list of hashes that lies in memory. -/
import Derived.Test.YtihbmahjdmfjpaaDoorPf
import Derived.Test.YtihbmahjdmfjpaaDoorPh
import Derived.Test.YtihbmahjdmfjpaaDoorPi
import Derived.Test.YtihbmahjdmfjpaaDoorPj
import Derived.Outline
import Derived.StillTailTactics
namespace Go.Proofs.YtihbmahjdmfjpaaDoor
open Go.RowKit
set_option linter.unusedVariables false
set_option linter.unusedSimpArgs false
set_option maxRecDepth 100000
variable {tw : List (BitVec 8) → List (BitVec 8)}
set_option maxHeartbeats 8000000 in
theorem roots_walk (T : TwC tw) (U : RwC tw) (hne : tw (HA ++ HA) ≠ tw (HA ++ HB)) (A : Option Addr) (n c : Nat) (L : List (List (BitVec 8))) (w : World) (hL : LIn w A n c L) (hG : Glob w) :
    Calls Tryd.prog 3 #[.slice A n c] w (VPost (.bool true) w) := by
  have hz := zero25
  have HCut : Hid (∀ w', Calls Tryd.prog 10 #[.slice A n c] w' fun e w'' => e = .returned (.slice A (min n 60) c) ∧ w' = w'') := cut_any A n c hL.r.le hL.r.mx
  obtain ⟨m, M, hm, hM, hm60⟩ := hL.cut
  rw [← hm] at HCut
  have HT := Lib.hid T
  have HU := Lib.hid U
  have HW : Hid (∀ w', Glob w' → Calls Tryd.prog 17 #[] w' (VPost (.bool true) w')) := fun w' hg => works_any T hne w' hg
  have GL : Hid (∀ w', Below w.heap.size w w' → Glob w') := fun w' hb => hG.below hb
  have ML : Hid (∀ w', Below w.heap.size w w' → RdN 32 w' A m c M) := fun w' hb => hM.r.below hb
  have HMl := Lib.hid hM.r.num
  have HZ := Lib.hid hM.z
  have b0 : Below w.heap.size w (w.alloc (.cells #[] 25)) := (Below.refl _ _).alloc (Nat.le_refl _) _
  have E0 := Lib.hid (OF.empty w (B := w.heap.size) (Nat.le_refl _))
  have R0 := Lib.hid (ML.out _ b0)
  have B0 := Lib.hid b0
  have hs0 := b0.size
  clear hL hG T U hne hm hM b0
  go_enter Tryd.func3, Tryd.ntmps3
  go_upto_region 3 with (first
    | (go_at_call 10; (with_reducible refine (HCut.out _).mono ?_); rintro e w' ⟨rfl, rfl⟩; dsimp only)
    | ((with_reducible show wpList _ _ _ ((⟨some 12, _, _, _, _, _⟩ : Oper) :: _) _ _); refine wpList_appM Tryd.underlying22 info25f rfl (by omega) (by omega) rfl (.tmp 10) (.tmp 11) rfl rfl w.heap.size _ [] rfl E0.out A m c M rfl R0.out HZ.out (by simp) (by omega) hs0 ?_; intro v3 W3 ho3 hg3; have O3 := Lib.hid ho3; have B3 := Lib.hid (B0.out.grown hg3 hs0 (fun g e => (E0.out.lt e).2.1)); clear ho3 hg3; dsimp only))
  have ho3 := O3.out
  rw [List.nil_append] at ho3
  obtain ⟨A3, c3, e3, hr3⟩ := ho3.rdN
  rw [HMl.out] at e3 hr3
  subst e3
  have R3 := Lib.hid hr3
  have NL : Hid (∀ w', Below W3.heap.size W3 w' → RdN 32 w' A3 m c3 M) := fun w' hb => R3.out.below hb
  have HC1 := Lib.hid (root_any HT.out A3 m c3 M W3 hr3 (GL.out _ B3.out) (by omega))
  have HC2 : Hid (∀ w', Below w.heap.size w w' → Calls Tryd.prog 12 #[.slice A m c] w' (RootPost tw M w')) := fun w' hb => rroot_any HU.out A m c M w' (ML.out _ hb) (by omega)
  obtain ⟨R, hR⟩ : ∃ R, R = rootT tw M := ⟨_, rfl⟩
  obtain ⟨q, hq⟩ : ∃ q, q = mutT tw M := ⟨_, rfl⟩
  unfold RootPost at HC1 HC2
  rw [← hR, ← hq] at HC1 HC2
  clear ho3 hr3 hR hq O3 E0 R0 B0 hs0
  go_upto_region 4 with (first
    | (go_at_call 11; (with_reducible refine HC1.out.mono ?_); rintro e w1 ⟨rfl, hRl, hb⟩; have HRl := Lib.hid hRl; have KT := Lib.hid ((HBx.new w1 Z32 rfl).kt hRl); have IR := Lib.hid (i25a hRl); have HB1 := Lib.hid hb; clear hb hRl HC1; dsimp only)
    | ((with_reducible show wpList _ _ _ ((⟨none, _, _, _, _, _⟩ : Oper) :: _) _ _); with_reducible refine wpList_store_mid rfl 25 (.tmp 4) (.tmp 16) rfl w1.heap.size 0 (vbs R).toArray rfl rfl KT.out IR.out (all_oneCell_toArray (vbs_one _)) ?_))
  have bA : Below W3.heap.size W3 ((w1.alloc (.cells (vbs Z32).toArray 25)).setCells w1.heap.size 0 (vbs R)) := HB1.out.trans ((below_laidT w1 25 Z32 R).mono HB1.out.size)
  have P4 := Lib.hid (HBx.laid w1 HRl.out)
  generalize ((w1.alloc (.cells (vbs Z32).toArray 25)).setCells w1.heap.size 0 (vbs R)) = W4 at bA P4 ⊢
  generalize w1.heap.size = g4 at P4 ⊢
  have D4 := Lib.hid bA
  have BW4 := Lib.hid (B3.out.trans (bA.mono B3.out.size))
  have HC3 := Lib.hid (HC2.out W4 BW4.out)
  clear bA KT HB1 IR HC2
  go_upto_region 5 with (first
    | (go_at_call 12; (with_reducible refine HC3.out.mono ?_); rintro e w3 ⟨rfl, hRl, hb⟩; have KT := Lib.hid ((HBx.new w3 Z32 rfl).kt hRl); have IR := Lib.hid (i25a hRl); have HB1 := Lib.hid hb; clear hb hRl HC3; dsimp only)
    | ((with_reducible show wpList _ _ _ ((⟨none, _, _, _, _, _⟩ : Oper) :: _) _ _); with_reducible refine wpList_store_mid rfl 25 (.tmp 6) (.tmp 21) rfl w3.heap.size 0 (vbs R).toArray rfl rfl KT.out IR.out (all_oneCell_toArray (vbs_one _)) ?_))
  have bA : Below W4.heap.size W4 ((w3.alloc (.cells (vbs Z32).toArray 25)).setCells w3.heap.size 0 (vbs R)) := HB1.out.trans ((below_laidT w3 25 Z32 R).mono HB1.out.size)
  have P6 := Lib.hid (HBx.laid w3 HRl.out)
  generalize ((w3.alloc (.cells (vbs Z32).toArray 25)).setCells w3.heap.size 0 (vbs R)) = W6 at bA P6 ⊢
  generalize w3.heap.size = g6 at P6 ⊢
  have Q4 := Lib.hid (P4.out.below bA)
  have D6 := Lib.hid (D4.out.trans (bA.mono D4.out.size))
  have BW6 := Lib.hid (BW4.out.trans (bA.mono BW4.out.size))
  clear bA KT HB1 IR BW4 D4 P4 hz
  have K4 := Lib.hid Q4.out.1.range
  have K6 := Lib.hid P6.out.1.range
  have I4 := Lib.hid Q4.out.inf
  have heq := eql25 R R HRl.out HRl.out
  rw [show decide (R = R) = true from by simp] at heq
  have T1 := Lib.hid (texts_any HT.out A3 m c3 M W6 (NL.out _ D6.out) (GL.out _ BW6.out) (by omega))
  have T2 : Hid (∀ w', Below W6.heap.size W6 w' → Calls Tryd.prog 15 #[.slice A m c] w' (FdPost (textsT tw M) w')) := fun w' hb => rtexts_any HU.out A m c M w' (ML.out _ (BW6.out.trans (hb.mono BW6.out.size))) (by omega)
  have HTl : Hid ((textsT tw M).length ≤ 1000000) := show (textsK tw M (nrow M.length)).length ≤ 1000000 by
    have h1 := textsK_le tw M (nrow M.length)
    have := HMl.out
    omega
  have HHs : Hid (∀ w', Below W6.heap.size W6 w' → Calls Tryd.prog 16 #[.slice A3 m c3, .slice A m c] w' (VPost (.bool true) w')) := fun w' hb => by
    have := hashes_any A3 A m c3 m c M M w' (NL.out _ (D6.out.trans (hb.mono D6.out.size))) (ML.out _ (BW6.out.trans (hb.mono BW6.out.size))) (by omega)
    rwa [show decide (M = M) = true from by simp] at this
  have HWs : Hid (∀ w', Below W6.heap.size W6 w' → Calls Tryd.prog 17 #[] w' (VPost (.bool true) w')) := fun w' hb => HW.out w' (GL.out _ (BW6.out.trans (hb.mono BW6.out.size)))
  obtain ⟨Ts, hTs⟩ : ∃ Ts, Ts = textsT tw M := ⟨_, rfl⟩
  rw [← hTs] at T1 T2 HTl
  clear hTs HW HCut
  go_wp2_with (first
    | ((with_reducible show wpList _ _ _ ((⟨some 23, _, _, _, _, _⟩ : Oper) :: _) _ _); refine wpList_load_on (by rfl) 25 (.tmp 4) rfl g4 0 rfl (vbs R) _ K4.out Tryd.underlying25 rfl I4.out ?_)
    | ((with_reducible show wpList _ _ _ ((⟨some 24, _, _, _, _, _⟩ : Oper) :: _) _ _); refine wpList_load_on (by rfl) 25 (.tmp 6) rfl g6 0 rfl (vbs R) _ K6.out Tryd.underlying25 rfl I4.out ?_)
    | (go_at_call 14; (with_reducible refine T1.out.mono ?_); rintro e w7 ⟨v7, rfl, ho, hb⟩; have HO7 := Lib.hid ho; have HB7 := Lib.hid hb; have T3 := Lib.hid (T2.out w7 hb); clear ho hb T1 T2; dsimp only)
    | (go_at_call 15; (with_reducible refine T3.out.mono ?_); rintro e w8 ⟨v8, rfl, ho, hb⟩; obtain ⟨A7, c7, e7, hw7⟩ := (HO7.out.below hb).ws; obtain ⟨A8, c8, e8, hw8⟩ := ho.ws; have HCc := Lib.hid (rsame_any A7 A8 _ c7 _ c8 _ _ w8 hw7 hw8 HTl.out); have HB8 := Lib.hid (HB7.out.trans (hb.mono HB7.out.size)); rw [show decide (Ts = Ts) = true from by simp, ← e7, ← e8] at HCc; clear ho hb T3 e7 e8 hw7 hw8 HO7; dsimp only)
    | (go_at_call 13; (with_reducible refine HCc.out.mono ?_); rintro e w9 ⟨rfl, hb⟩; have HB9 := Lib.hid (HB8.out.trans (hb.mono HB8.out.size)); have HH9 := Lib.hid (HHs.out w9 HB9.out); clear hb HCc; dsimp only)
    | (go_at_call 16; (with_reducible refine HH9.out.mono ?_); rintro e w10 ⟨rfl, hb⟩; have HB10 := Lib.hid (HB9.out.trans (hb.mono HB9.out.size)); have HW10 := Lib.hid (HWs.out w10 HB10.out); clear hb HH9; dsimp only)
    | (go_at_call 17; (with_reducible refine HW10.out.mono ?_); rintro e w11 ⟨rfl, hb⟩; have HBZ := Lib.hid (HB10.out.trans (hb.mono HB10.out.size)); clear hb; dsimp only))
  go_ret
  exact ⟨rfl, BW6.out.trans (HBZ.out.mono BW6.out.size)⟩
end Go.Proofs.YtihbmahjdmfjpaaDoor
