/- The law MerkleBranches returns true for every list of hashes, place and claim that lie in memory. -/
import Derived.Test.YtihbmahjdmfjpaaDoorPc
import Derived.Test.YtihbmahjdmfjpaaDoorPd
import Derived.Test.YtihbmahjdmfjpaaDoorPe
import Derived.Outline
import Derived.StillTailTactics
namespace Go.Proofs.YtihbmahjdmfjpaaDoor
open Go.RowKit
set_option linter.unusedVariables false
set_option linter.unusedSimpArgs false
set_option maxRecDepth 100000
variable {tw : List (BitVec 8) → List (BitVec 8)}
theorem cCl_32 {X : List (BitVec 8)} {a b : Value} {B : Option Addr} {bn bc : Nat} (hX : X.length = 32) {w : World} {g T : Nat} (h : Blk w g T (cCl X a b B bn bc)) : w.cell? ⟨g, 32, none⟩ = some a := by
  refine h.cell ?_
  unfold cCl
  rw [List.getElem?_append_right (by rw [vbs_len]; omega), vbs_len, hX]
  rfl
theorem cCl_33 {X : List (BitVec 8)} {a b : Value} {B : Option Addr} {bn bc : Nat} (hX : X.length = 32) {w : World} {g T : Nat} (h : Blk w g T (cCl X a b B bn bc)) : w.cell? ⟨g, 33, none⟩ = some b := by
  refine h.cell ?_
  unfold cCl
  rw [List.getElem?_append_right (by rw [vbs_len]; omega), vbs_len, hX]
  rfl
theorem AnyBut.fork {P : Program} {ops : Array Oper} {Q : Exit → Act → World → Prop} {md : Region.Mode} {S : World → Prop} {z i j : Nat} {o o' : Oper} {n : Nat} {listed : Array Bool} {a : Act} {w : World} (hr : Region.ready md ops listed = [i, j]) (ho : ops[i]? = some o) (hw : Region.wanted o (yielded ops a.tmps) = true) (ho' : ops[j]? = some o') (hw' : Region.wanted o' (yielded ops a.tmps) = true)
    (h : ∀ K : Act → World → Prop, (∀ a' w', (i ≠ z → S w') → AnyBut P md ops Q S z n (listed.setIfInBounds i true) a' w' → K a' w') → Oper.wp P o a w K Q)
    (h' : ∀ K : Act → World → Prop, (∀ a' w', (j ≠ z → S w') → AnyBut P md ops Q S z n (listed.setIfInBounds j true) a' w' → K a' w') → Oper.wp P o' a w K Q) : AnyBut P md ops Q S z (n + 1) listed a w := by
  refine ⟨fun e => (by rw [hr] at e; cases e), fun k hk => ?_⟩
  rw [hr] at hk
  have hk' : k = i ∨ k = j := by simpa using hk
  rcases hk' with rfl | rfl
  · unfold wpOp
    rw [ho]
    simp only [hw, if_true]
    exact .inl (h _ fun _ _ h1 h2 => ⟨h1, h2⟩)
  · unfold wpOp
    rw [ho']
    simp only [hw', if_true]
    exact .inl (h' _ fun _ _ h1 h2 => ⟨h1, h2⟩)
theorem wp_cutR {P : Program} {c : Code} {K : Act → World → Prop} {Q' : Exit → Act → World → Prop} {a : Act} {w : World} (f : Nat → Act) (F : Nat → World → Prop)
    (h1 : c.wp P (Exit.then (fun a' w' => ∃ g, a' = f g ∧ F g w') fun _ _ _ => False) a w) (h2 : ∀ g w', F g w' → K (f g) w') : c.wp P (Exit.then K Q') a w :=
  Code.wp_mono (fun e a w q => by
    cases e with
    | normal => obtain ⟨g, rfl, hF⟩ := q; exact h2 g _ hF
    | _ => exact q.elim) h1
set_option maxHeartbeats 8000000 in
theorem branches_walk (T : TwC tw) (U : RwC tw) (hne : tw (HA ++ HA) ≠ tw (HA ++ HB)) (A : Option Addr) (n c : Nat) (L : List (List (BitVec 8))) (i : Int) (X : List (BitVec 8)) (p q : Int) (B : Option Addr) (bn bc : Nat) (BR : List (List (BitVec 8))) (w : World) (hL : LIn w A n c L) (hi : -9223372036854775808 ≤ i ∧ i ≤ 9223372036854775807) (hX : X.length = 32) (hp : -9223372036854775808 ≤ p ∧ p ≤ 9223372036854775807) (hq : -9223372036854775808 ≤ q ∧ q ≤ 9223372036854775807) (hB : LIn w B bn bc BR) (hG : Glob w) :
    Calls Tryd.prog 4 #[.slice A n c, .int .i64 i, .agg (cCl X (.int .i64 p) (.int .i64 q) B bn bc).toArray] w (VPost (.bool true) w) := by
  have hz := zero25
  have HCut : Hid (∀ w', Calls Tryd.prog 10 #[.slice A n c] w' fun e w'' => e = .returned (.slice A (min n 60) c) ∧ w' = w'') := cut_any A n c hL.r.le hL.r.mx
  have HCuB : Hid (∀ w', Calls Tryd.prog 10 #[.slice B bn bc] w' fun e w'' => e = .returned (.slice B (min bn 60) bc) ∧ w' = w'') := cut_any B bn bc hB.r.le hB.r.mx
  obtain ⟨m, M, hm, hM, hm60⟩ := hL.cut
  obtain ⟨r, S, hr, hS, hr60⟩ := hB.cut
  rw [← hm] at HCut
  rw [← hr] at HCuB
  have HG := Lib.hid hG
  have HT := Lib.hid T
  have HU := Lib.hid U
  have HX := Lib.hid hX
  have HW : Hid (∀ w', Glob w' → Calls Tryd.prog 17 #[] w' (VPost (.bool true) w')) := fun w' hg => works_any T hne w' hg
  have hbel : Below w.heap.size w (w.alloc (.cells (cCl X (.int .i64 p) (.int .i64 q) B bn bc).toArray 35)) := (Below.refl _ _).alloc (Nat.le_refl _) _
  have HC0 : Hid (Blk (w.alloc (.cells (cCl X (.int .i64 p) (.int .i64 q) B bn bc).toArray 35)) w.heap.size 35 (cCl X (.int .i64 p) (.int .i64 q) B bn bc)) := Blk.new w 35 (cCl X (.int .i64 p) (.int .i64 q) B bn bc).toArray
  have HB0 := Lib.hid hbel
  have GL : Hid (∀ w', Below w.heap.size w w' → Glob w') := fun w' hb => hG.below hb
  have SL : Hid (∀ w', Below w.heap.size w w' → RdN 32 w' B r bc S) := fun w' hb => hS.r.below hb
  have ML : Hid (∀ w', Below w.heap.size w w' → RdN 32 w' A m c M) := fun w' hb => hM.r.below hb
  have HP := Lib.hid hp
  have HQ := Lib.hid hq
  have HI := Lib.hid hi
  have IX := Lib.hid (i25' (vs := vbs X) (by rw [vbs_len]; exact hX))
  obtain ⟨b1, hb1⟩ : ∃ b, b = branchI tw M i := ⟨_, rfl⟩
  have HBc : Hid (∀ w', Below w.heap.size w w' → Calls Tryd.prog 18 #[.slice A m c, .int .i64 i] w' (BrPost b1 w')) := fun w' hb => by rw [hb1]; exact branch_any HT.out A m c M i w' (ML.out _ hb) (GL.out _ hb) (by omega) hi
  have HBd : Hid (∀ w', Below w.heap.size w w' → Calls Tryd.prog 19 #[.slice A m c, .int .i64 i] w' (BrPost b1 w')) := fun w' hb => by rw [hb1]; exact rbranch_any HU.out A m c M i w' (ML.out _ hb) (by omega) hi
  obtain ⟨r2, hr2⟩ : ∃ r2, r2 = foldI tw X p q S := ⟨_, rfl⟩
  have HFc : Hid (∀ w', Below w.heap.size w w' → Calls Tryd.prog 20 #[.agg (vbs X).toArray, .int .i64 p, .int .i64 q, .slice B r bc] w' (FoldPost r2 w')) := fun w' hb => by rw [hr2]; exact fold_any HT.out X hX p q B r bc S w' hp hq (SL.out _ hb) (GL.out _ hb)
  have HFd : Hid (∀ w', Below w.heap.size w w' → Calls Tryd.prog 21 #[.agg (vbs X).toArray, .int .i64 p, .int .i64 q, .slice B r bc] w' (FoldPost r2 w')) := fun w' hb => by rw [hr2]; exact rfold_any HU.out X hX p q B r bc S w' hp hq (SL.out _ hb)
  obtain ⟨K, hK⟩ : ∃ K, K = b1.getD [] := ⟨_, rfl⟩
  have HKl : Hid (K.length ≤ 1000000) := show K.length ≤ 1000000 by
    rw [hK, hb1]
    unfold branchI
    split
    · have h1 := branchK_le tw M i.toNat (nrow M.length)
      have h2 := nrow_le M.length M.length (Nat.le_refl _)
      have h3 := hM.r.num
      show (branchK tw M i.toNat (nrow M.length)).length ≤ 1000000
      omega
    · simp
  obtain ⟨s1, hs1⟩ : ∃ s, s = b1.isSome := ⟨_, rfl⟩
  unfold BrPost at HBc HBd
  rw [← hK, ← hs1] at HBc HBd
  obtain ⟨N, hN⟩ : ∃ N, N = r2.getD Z32 := ⟨_, rfl⟩
  obtain ⟨s2, hs2⟩ : ∃ s, s = r2.isSome := ⟨_, rfl⟩
  unfold FoldPost at HFc HFd
  rw [← hN, ← hs2] at HFc HFd
  clear hb1 hr2 hL hG T U hne hm hM hB hX hbel hr hS hp hq hi hK hs1 hN hs2
  go_enter Tryd.func4, Tryd.ntmps4
  go_upto_region 2 with (first
    | (go_at_call 10; (with_reducible refine (HCut.out _).mono ?_); rintro e w' ⟨rfl, rfl⟩; dsimp only))
  generalize (w.alloc (.cells (cCl X (.int .i64 p) (.int .i64 q) B bn bc).toArray 35)) = W1 at HC0 HB0 ⊢
  have hC1 := Lib.hid (HBc.out _ HB0.out)
  go_upto_region 3 with (first
    | (go_at_call 18; (with_reducible refine hC1.out.mono ?_); rintro e w3 ⟨v9, rfl, ho9, hb⟩; obtain ⟨A9, c9, e9, hr9⟩ := ho9.rdN; subst e9; have HB3 := Lib.hid hb; have HK9 := Lib.hid hr9; clear hb ho9 hr9 hC1; dsimp only))
  have hC3 := Lib.hid (HC0.out.below HB3.out HC0.out.lt)
  have BW3 := Lib.hid (HB0.out.trans (HB3.out.mono HB0.out.size))
  have hC1 := Lib.hid (HBd.out _ BW3.out)
  clear HC0 HB0 HB3
  go_upto_region 4 with (first
    | (go_at_call 19; (with_reducible refine hC1.out.mono ?_); rintro e w4 ⟨v9', rfl, ho9, hb⟩; obtain ⟨A7, c7, e9, hr9⟩ := ho9.rdN; subst e9; have HB4 := Lib.hid hb; have HK7 := Lib.hid hr9; clear hb ho9 hr9 hC1; dsimp only))
  have hC4 := Lib.hid (hC3.out.below HB4.out hC3.out.lt)
  have BW4 := Lib.hid (BW3.out.trans (HB4.out.mono BW3.out.size))
  have HK4 := Lib.hid (HK9.out.below HB4.out)
  clear hC3 BW3 HB4 HK9
  apply wp_cutR (F := fun g w' => HBx w' g N ∧ SBw w4 w')
  · skip
    refine wp_region_but (z := 999) (SBw w4) (by kernel_rfl) ?_
    have hS : (SBw w4) w4.drew := SBw.start w4
    refine AnyBut.takeE (i := 0) (v := ?_) rfl (by kernel_rfl) (by kernel_rfl) (by kernel_rfl) (by kernel_rfl) (fun _ _ _ h => h) (Or.inl ⟨by rfl, ?_⟩) hS ?_
    rotate_left
    · (intro wq hq; go_simp; try with_reducible rfl)
    try simp only [Act.put, List.setIfInBounds_toArray, List.set_cons_zero, List.set_cons_succ, List.getElem_toArray, List.getElem_cons_zero, List.getElem_cons_succ]
    refine AnyBut.takeE (i := 1) (v := .agg (vbs X).toArray) rfl (by kernel_rfl) (by kernel_rfl) (by kernel_rfl) (by kernel_rfl) (fun _ _ _ h => h) ?_ hS ?_
    · exact yieldsIf_load_mid (by rfl) 25 (.tmp 30) rfl (w.heap.size) 0 rfl (vbs X) _ (fun _ h => cCl_rg (hC4.out.below h hC4.out.lt)) Tryd.underlying25 rfl IX.out
    try simp only [Act.put, List.setIfInBounds_toArray, List.set_cons_zero, List.set_cons_succ, List.getElem_toArray, List.getElem_cons_zero, List.getElem_cons_succ]
    refine AnyBut.takeE (i := 2) (v := ?_) rfl (by kernel_rfl) (by kernel_rfl) (by kernel_rfl) (by kernel_rfl) (fun _ _ _ h => h) (Or.inl ⟨by rfl, ?_⟩) hS ?_
    rotate_left
    · (intro wq hq; go_simp; try with_reducible rfl)
    try simp only [Act.put, List.setIfInBounds_toArray, List.set_cons_zero, List.set_cons_succ, List.getElem_toArray, List.getElem_cons_zero, List.getElem_cons_succ]
    refine AnyBut.takeE (i := 3) (v := .int .i64 p) rfl (by kernel_rfl) (by kernel_rfl) (by kernel_rfl) (by kernel_rfl) (fun _ _ _ h => h) (Or.inl ⟨by rfl, ?_⟩) hS ?_
    · (intro wq hq; have c := cCl_32 HX.out (hC4.out.below hq hC4.out.lt); go_simp)
    try simp only [Act.put, List.setIfInBounds_toArray, List.set_cons_zero, List.set_cons_succ, List.getElem_toArray, List.getElem_cons_zero, List.getElem_cons_succ]
    refine AnyBut.takeE (i := 4) (v := ?_) rfl (by kernel_rfl) (by kernel_rfl) (by kernel_rfl) (by kernel_rfl) (fun _ _ _ h => h) (Or.inl ⟨by rfl, ?_⟩) hS ?_
    rotate_left
    · (intro wq hq; go_simp; try with_reducible rfl)
    try simp only [Act.put, List.setIfInBounds_toArray, List.set_cons_zero, List.set_cons_succ, List.getElem_toArray, List.getElem_cons_zero, List.getElem_cons_succ]
    refine AnyBut.takeE (i := 5) (v := .int .i64 q) rfl (by kernel_rfl) (by kernel_rfl) (by kernel_rfl) (by kernel_rfl) (fun _ _ _ h => h) (Or.inl ⟨by rfl, ?_⟩) hS ?_
    · (intro wq hq; have c := cCl_33 HX.out (hC4.out.below hq hC4.out.lt); go_simp)
    try simp only [Act.put, List.setIfInBounds_toArray, List.set_cons_zero, List.set_cons_succ, List.getElem_toArray, List.getElem_cons_zero, List.getElem_cons_succ]
    refine AnyBut.takeE (i := 6) (v := ?_) rfl (by kernel_rfl) (by kernel_rfl) (by kernel_rfl) (by kernel_rfl) (fun _ _ _ h => h) (Or.inl ⟨by rfl, ?_⟩) hS ?_
    rotate_left
    · (intro wq hq; go_simp; try with_reducible rfl)
    try simp only [Act.put, List.setIfInBounds_toArray, List.set_cons_zero, List.set_cons_succ, List.getElem_toArray, List.getElem_cons_zero, List.getElem_cons_succ]
    refine AnyBut.takeE (i := 7) (v := .slice B bn bc) rfl (by kernel_rfl) (by kernel_rfl) (by kernel_rfl) (by kernel_rfl) (fun _ _ _ h => h) (Or.inl ⟨by rfl, ?_⟩) hS ?_
    · (intro wq hq; have c := cCl_at HX.out (hC4.out.below hq hC4.out.lt); go_simp)
    try simp only [Act.put, List.setIfInBounds_toArray, List.set_cons_zero, List.set_cons_succ, List.getElem_toArray, List.getElem_cons_zero, List.getElem_cons_succ]
    refine AnyBut.fork (i := 8) (j := 13) (by kernel_rfl) rfl (by rfl) rfl (by rfl) (fun K hK => ?_) (fun K hK => ?_)
    · go_simp
      (with_reducible refine (HCuB.out _).mono ?_)
      rintro e w' ⟨rfl, rfl⟩
      dsimp only
      refine hK _ _ (fun _ => hS) ?_
      clear hK K
      try simp only [Act.put, List.setIfInBounds_toArray, List.set_cons_zero, List.set_cons_succ, List.getElem_toArray, List.getElem_cons_zero, List.getElem_cons_succ]
      refine AnyBut.fork (i := 9) (j := 13) (by kernel_rfl) rfl (by rfl) rfl (by rfl) (fun K hK => ?_) (fun K hK => ?_)
      · go_simp
        have hC := HFc.out w4.drew (BW4.out.trans (Below.mono hS BW4.out.size))
        (with_reducible refine hC.mono ?_)
        rintro e Wf ⟨rfl, hNl, hbf⟩
        dsimp only
        have hSf : SBw w4 Wf := SBw.next hS hbf
        have HNl := Lib.hid hNl

        clear hS hC hbf hNl
        refine hK _ _ (fun _ => hSf) ?_
        clear hK K
        try simp only [Act.put, List.setIfInBounds_toArray, List.set_cons_zero, List.set_cons_succ, List.getElem_toArray, List.getElem_cons_zero, List.getElem_cons_succ]
        have hS := hSf
        clear hSf

        refine AnyBut.takeE (i := 10) (v := ?_) rfl (by kernel_rfl) (by kernel_rfl) (by kernel_rfl) (by kernel_rfl) (fun _ _ _ h => h) (Or.inl ⟨by rfl, ?_⟩) hS ?_
        rotate_left
        · (intro wq hq; go_simp; try with_reducible rfl)
        try simp only [Act.put, List.setIfInBounds_toArray, List.set_cons_zero, List.set_cons_succ, List.getElem_toArray, List.getElem_cons_zero, List.getElem_cons_succ]
        refine AnyBut.takeE (i := 11) (v := ?_) rfl (by kernel_rfl) (by kernel_rfl) (by kernel_rfl) (by kernel_rfl) (fun _ _ _ h => h) (Or.inl ⟨by rfl, ?_⟩) hS ?_
        rotate_left
        · (intro wq hq; go_simp; try with_reducible rfl)
        try simp only [Act.put, List.setIfInBounds_toArray, List.set_cons_zero, List.set_cons_succ, List.getElem_toArray, List.getElem_cons_zero, List.getElem_cons_succ]
        refine AnyBut.takeE (i := 12) (v := ?_) rfl (by kernel_rfl) (by kernel_rfl) (by kernel_rfl) (by kernel_rfl) (fun _ _ _ h => h) (Or.inl ⟨by rfl, ?_⟩) hS ?_
        rotate_left
        · (intro wq hq; go_simp; try with_reducible rfl)
        try simp only [Act.put, List.setIfInBounds_toArray, List.set_cons_zero, List.set_cons_succ, List.getElem_toArray, List.getElem_cons_zero, List.getElem_cons_succ]
        refine AnyBut.gone (i := 13) (by kernel_rfl) rfl (by rfl) (fun K hK => ?_)

        go_simp
        have p1 := HBx.new Wf Z32 rfl
        have p2 : Below Wf.heap.size Wf (Wf.alloc (.cells (vbs Z32).toArray 25)) := (Below.refl _ _).alloc (Nat.le_refl _) _
        have p3 : w4.heap.size ≤ Wf.heap.size := Below.size hS
        have p4 := SBw.next hS p2
        generalize (Wf.alloc (.cells (vbs Z32).toArray 25)) = Wa at p1 p2 p4 ⊢
        generalize Wf.heap.size = ga at p1 p2 p3 ⊢
        have PA := Lib.hid p1
        clear hS p1 p2
        refine hK _ _ (fun _ => p4) ?_
        clear hK K
        try simp only [Act.put, List.setIfInBounds_toArray, List.set_cons_zero, List.set_cons_succ, List.getElem_toArray, List.getElem_cons_zero, List.getElem_cons_succ]
        have hS := p4
        clear p4

        have KT := PA.out.kt HNl.out
        have IA := i25a HNl.out
        refine AnyBut.gone (i := 14) (by kernel_rfl) rfl (by rfl) (fun K hK => ?_)
        refine wp_store_mid 25 (.tmp 11) (.tmp 40) rfl ga 0 (vbs N).toArray rfl rfl KT IA (all_oneCell_toArray (vbs_one _)) ?_
        rw [List.toList_toArray]
        have hSz : SBw w4 (Wa.setCells ga 0 (vbs N)) := below_setCells p3 (vbs N) 0 _ hS
        have PZ := PA.out.set HNl.out
        clear hS KT IA
        refine hK _ _ (fun _ => hSz) ?_
        clear hK K
        try simp only [Act.put, List.setIfInBounds_toArray, List.set_cons_zero, List.set_cons_succ, List.getElem_toArray, List.getElem_cons_zero, List.getElem_cons_succ]
        have hS := hSz
        refine AnyBut.takeE (i := 15) (v := ?_) rfl (by kernel_rfl) (by kernel_rfl) (by kernel_rfl) (by kernel_rfl) (fun _ _ _ h => h) (Or.inl ⟨by rfl, ?_⟩) hS ?_
        rotate_left
        · (intro wq hq; go_simp; try with_reducible rfl)
        try simp only [Act.put, List.setIfInBounds_toArray, List.set_cons_zero, List.set_cons_succ, List.getElem_toArray, List.getElem_cons_zero, List.getElem_cons_succ]

        refine AnyBut.done (by kernel_rfl) ?_ _
        try dsimp only [Exit.then]
        exact ⟨ga, rfl, PZ, hSz⟩
      · go_simp
        have p1 : HBx (w4.alloc (.cells (vbs Z32).toArray 25)).drew w4.heap.size Z32 := HBx.new w4 Z32 rfl
        have p4 : SBw w4 (w4.alloc (.cells (vbs Z32).toArray 25)).drew := Below.drew ((Below.refl _ _).alloc (Nat.le_refl _) _)
        obtain ⟨ga, hga⟩ : ∃ g, g = w4.heap.size := ⟨_, rfl⟩
        have p3 : w4.heap.size ≤ ga := by omega
        rw [← hga] at p1 ⊢
        generalize (w4.alloc (.cells (vbs Z32).toArray 25)).drew = Wa at p1 p4 ⊢
        have PA := Lib.hid p1
        clear hS p1 hga
        refine hK _ _ (fun _ => p4) ?_
        clear hK K
        try simp only [Act.put, List.setIfInBounds_toArray, List.set_cons_zero, List.set_cons_succ, List.getElem_toArray, List.getElem_cons_zero, List.getElem_cons_succ]
        have hS := p4
        clear p4
        refine AnyBut.gone (i := 9) (by kernel_rfl) rfl (by rfl) (fun K hK => ?_)

        go_simp
        have hC := HFc.out Wa (BW4.out.trans (Below.mono hS BW4.out.size))
        (with_reducible refine hC.mono ?_)
        rintro e Wf ⟨rfl, hNl, hbf⟩
        dsimp only
        have hSf : SBw w4 Wf := SBw.next hS hbf
        have HNl := Lib.hid hNl
        have PF := Lib.hid (PA.out.below hbf)
        clear hS hC hbf hNl
        refine hK _ _ (fun _ => hSf) ?_
        clear hK K
        try simp only [Act.put, List.setIfInBounds_toArray, List.set_cons_zero, List.set_cons_succ, List.getElem_toArray, List.getElem_cons_zero, List.getElem_cons_succ]
        have hS := hSf
        clear hSf

        refine AnyBut.takeE (i := 10) (v := ?_) rfl (by kernel_rfl) (by kernel_rfl) (by kernel_rfl) (by kernel_rfl) (fun _ _ _ h => h) (Or.inl ⟨by rfl, ?_⟩) hS ?_
        rotate_left
        · (intro wq hq; go_simp; try with_reducible rfl)
        try simp only [Act.put, List.setIfInBounds_toArray, List.set_cons_zero, List.set_cons_succ, List.getElem_toArray, List.getElem_cons_zero, List.getElem_cons_succ]
        refine AnyBut.takeE (i := 11) (v := ?_) rfl (by kernel_rfl) (by kernel_rfl) (by kernel_rfl) (by kernel_rfl) (fun _ _ _ h => h) (Or.inl ⟨by rfl, ?_⟩) hS ?_
        rotate_left
        · (intro wq hq; go_simp; try with_reducible rfl)
        try simp only [Act.put, List.setIfInBounds_toArray, List.set_cons_zero, List.set_cons_succ, List.getElem_toArray, List.getElem_cons_zero, List.getElem_cons_succ]
        refine AnyBut.takeE (i := 12) (v := ?_) rfl (by kernel_rfl) (by kernel_rfl) (by kernel_rfl) (by kernel_rfl) (fun _ _ _ h => h) (Or.inl ⟨by rfl, ?_⟩) hS ?_
        rotate_left
        · (intro wq hq; go_simp; try with_reducible rfl)
        try simp only [Act.put, List.setIfInBounds_toArray, List.set_cons_zero, List.set_cons_succ, List.getElem_toArray, List.getElem_cons_zero, List.getElem_cons_succ]

        have KT := PF.out.kt HNl.out
        have IA := i25a HNl.out
        refine AnyBut.gone (i := 14) (by kernel_rfl) rfl (by rfl) (fun K hK => ?_)
        refine wp_store_mid 25 (.tmp 11) (.tmp 40) rfl ga 0 (vbs N).toArray rfl rfl KT IA (all_oneCell_toArray (vbs_one _)) ?_
        rw [List.toList_toArray]
        have hSz : SBw w4 (Wf.setCells ga 0 (vbs N)) := below_setCells p3 (vbs N) 0 _ hS
        have PZ := PF.out.set HNl.out
        clear hS KT IA
        refine hK _ _ (fun _ => hSz) ?_
        clear hK K
        try simp only [Act.put, List.setIfInBounds_toArray, List.set_cons_zero, List.set_cons_succ, List.getElem_toArray, List.getElem_cons_zero, List.getElem_cons_succ]
        have hS := hSz
        refine AnyBut.takeE (i := 15) (v := ?_) rfl (by kernel_rfl) (by kernel_rfl) (by kernel_rfl) (by kernel_rfl) (fun _ _ _ h => h) (Or.inl ⟨by rfl, ?_⟩) hS ?_
        rotate_left
        · (intro wq hq; go_simp; try with_reducible rfl)
        try simp only [Act.put, List.setIfInBounds_toArray, List.set_cons_zero, List.set_cons_succ, List.getElem_toArray, List.getElem_cons_zero, List.getElem_cons_succ]

        refine AnyBut.done (by kernel_rfl) ?_ _
        try dsimp only [Exit.then]
        exact ⟨ga, rfl, PZ, hSz⟩
    · go_simp
      have p1 : HBx (w4.alloc (.cells (vbs Z32).toArray 25)).drew w4.heap.size Z32 := HBx.new w4 Z32 rfl
      have p4 : SBw w4 (w4.alloc (.cells (vbs Z32).toArray 25)).drew := Below.drew ((Below.refl _ _).alloc (Nat.le_refl _) _)
      obtain ⟨ga, hga⟩ : ∃ g, g = w4.heap.size := ⟨_, rfl⟩
      have p3 : w4.heap.size ≤ ga := by omega
      rw [← hga] at p1 ⊢
      generalize (w4.alloc (.cells (vbs Z32).toArray 25)).drew = Wa at p1 p4 ⊢
      have PA := Lib.hid p1
      clear hS p1 hga
      refine hK _ _ (fun _ => p4) ?_
      clear hK K
      try simp only [Act.put, List.setIfInBounds_toArray, List.set_cons_zero, List.set_cons_succ, List.getElem_toArray, List.getElem_cons_zero, List.getElem_cons_succ]
      have hS := p4
      clear p4
      refine AnyBut.gone (i := 8) (by kernel_rfl) rfl (by rfl) (fun K hK => ?_)

      go_simp
      (with_reducible refine (HCuB.out _).mono ?_)
      rintro e w' ⟨rfl, rfl⟩
      dsimp only
      refine hK _ _ (fun _ => hS) ?_
      clear hK K
      try simp only [Act.put, List.setIfInBounds_toArray, List.set_cons_zero, List.set_cons_succ, List.getElem_toArray, List.getElem_cons_zero, List.getElem_cons_succ]
      refine AnyBut.gone (i := 9) (by kernel_rfl) rfl (by rfl) (fun K hK => ?_)

      go_simp
      have hC := HFc.out Wa (BW4.out.trans (Below.mono hS BW4.out.size))
      (with_reducible refine hC.mono ?_)
      rintro e Wf ⟨rfl, hNl, hbf⟩
      dsimp only
      have hSf : SBw w4 Wf := SBw.next hS hbf
      have HNl := Lib.hid hNl
      have PF := Lib.hid (PA.out.below hbf)
      clear hS hC hbf hNl
      refine hK _ _ (fun _ => hSf) ?_
      clear hK K
      try simp only [Act.put, List.setIfInBounds_toArray, List.set_cons_zero, List.set_cons_succ, List.getElem_toArray, List.getElem_cons_zero, List.getElem_cons_succ]
      have hS := hSf
      clear hSf

      refine AnyBut.takeE (i := 10) (v := ?_) rfl (by kernel_rfl) (by kernel_rfl) (by kernel_rfl) (by kernel_rfl) (fun _ _ _ h => h) (Or.inl ⟨by rfl, ?_⟩) hS ?_
      rotate_left
      · (intro wq hq; go_simp; try with_reducible rfl)
      try simp only [Act.put, List.setIfInBounds_toArray, List.set_cons_zero, List.set_cons_succ, List.getElem_toArray, List.getElem_cons_zero, List.getElem_cons_succ]
      refine AnyBut.takeE (i := 11) (v := ?_) rfl (by kernel_rfl) (by kernel_rfl) (by kernel_rfl) (by kernel_rfl) (fun _ _ _ h => h) (Or.inl ⟨by rfl, ?_⟩) hS ?_
      rotate_left
      · (intro wq hq; go_simp; try with_reducible rfl)
      try simp only [Act.put, List.setIfInBounds_toArray, List.set_cons_zero, List.set_cons_succ, List.getElem_toArray, List.getElem_cons_zero, List.getElem_cons_succ]
      refine AnyBut.takeE (i := 12) (v := ?_) rfl (by kernel_rfl) (by kernel_rfl) (by kernel_rfl) (by kernel_rfl) (fun _ _ _ h => h) (Or.inl ⟨by rfl, ?_⟩) hS ?_
      rotate_left
      · (intro wq hq; go_simp; try with_reducible rfl)
      try simp only [Act.put, List.setIfInBounds_toArray, List.set_cons_zero, List.set_cons_succ, List.getElem_toArray, List.getElem_cons_zero, List.getElem_cons_succ]

      have KT := PF.out.kt HNl.out
      have IA := i25a HNl.out
      refine AnyBut.gone (i := 14) (by kernel_rfl) rfl (by rfl) (fun K hK => ?_)
      refine wp_store_mid 25 (.tmp 11) (.tmp 40) rfl ga 0 (vbs N).toArray rfl rfl KT IA (all_oneCell_toArray (vbs_one _)) ?_
      rw [List.toList_toArray]
      have hSz : SBw w4 (Wf.setCells ga 0 (vbs N)) := below_setCells p3 (vbs N) 0 _ hS
      have PZ := PF.out.set HNl.out
      clear hS KT IA
      refine hK _ _ (fun _ => hSz) ?_
      clear hK K
      try simp only [Act.put, List.setIfInBounds_toArray, List.set_cons_zero, List.set_cons_succ, List.getElem_toArray, List.getElem_cons_zero, List.getElem_cons_succ]
      have hS := hSz
      refine AnyBut.takeE (i := 15) (v := ?_) rfl (by kernel_rfl) (by kernel_rfl) (by kernel_rfl) (by kernel_rfl) (fun _ _ _ h => h) (Or.inl ⟨by rfl, ?_⟩) hS ?_
      rotate_left
      · (intro wq hq; go_simp; try with_reducible rfl)
      try simp only [Act.put, List.setIfInBounds_toArray, List.set_cons_zero, List.set_cons_succ, List.getElem_toArray, List.getElem_cons_zero, List.getElem_cons_succ]

      refine AnyBut.done (by kernel_rfl) ?_ _
      try dsimp only [Exit.then]
      exact ⟨ga, rfl, PZ, hSz⟩

  rintro g11 W5 ⟨P11, hS5⟩
  have P5 := Lib.hid P11
  have hC5 := Lib.hid (hC4.out.below hS5 hC4.out.lt)
  have BW5 := Lib.hid (BW4.out.trans (Below.mono hS5 BW4.out.size))
  have HK5 := Lib.hid (HK4.out.below hS5)
  have HL5 := Lib.hid (HK7.out.below hS5)
  clear P11 hS5 hC4 BW4 HK4 HK7
  go_upto_region 5 with fail
  apply wp_cutR (F := fun g w' => HBx w' g N ∧ SBw W5 w')
  · skip
    refine wp_region_but (z := 999) (SBw W5) (by kernel_rfl) ?_
    have hS : (SBw W5) W5.drew := SBw.start W5
    refine AnyBut.takeE (i := 0) (v := ?_) rfl (by kernel_rfl) (by kernel_rfl) (by kernel_rfl) (by kernel_rfl) (fun _ _ _ h => h) (Or.inl ⟨by rfl, ?_⟩) hS ?_
    rotate_left
    · (intro wq hq; go_simp; try with_reducible rfl)
    try simp only [Act.put, List.setIfInBounds_toArray, List.set_cons_zero, List.set_cons_succ, List.getElem_toArray, List.getElem_cons_zero, List.getElem_cons_succ]
    refine AnyBut.takeE (i := 1) (v := .agg (vbs X).toArray) rfl (by kernel_rfl) (by kernel_rfl) (by kernel_rfl) (by kernel_rfl) (fun _ _ _ h => h) ?_ hS ?_
    · exact yieldsIf_load_mid (by rfl) 25 (.tmp 43) rfl (w.heap.size) 0 rfl (vbs X) _ (fun _ h => cCl_rg (hC5.out.below h hC5.out.lt)) Tryd.underlying25 rfl IX.out
    try simp only [Act.put, List.setIfInBounds_toArray, List.set_cons_zero, List.set_cons_succ, List.getElem_toArray, List.getElem_cons_zero, List.getElem_cons_succ]
    refine AnyBut.takeE (i := 2) (v := ?_) rfl (by kernel_rfl) (by kernel_rfl) (by kernel_rfl) (by kernel_rfl) (fun _ _ _ h => h) (Or.inl ⟨by rfl, ?_⟩) hS ?_
    rotate_left
    · (intro wq hq; go_simp; try with_reducible rfl)
    try simp only [Act.put, List.setIfInBounds_toArray, List.set_cons_zero, List.set_cons_succ, List.getElem_toArray, List.getElem_cons_zero, List.getElem_cons_succ]
    refine AnyBut.takeE (i := 3) (v := .int .i64 p) rfl (by kernel_rfl) (by kernel_rfl) (by kernel_rfl) (by kernel_rfl) (fun _ _ _ h => h) (Or.inl ⟨by rfl, ?_⟩) hS ?_
    · (intro wq hq; have c := cCl_32 HX.out (hC5.out.below hq hC5.out.lt); go_simp)
    try simp only [Act.put, List.setIfInBounds_toArray, List.set_cons_zero, List.set_cons_succ, List.getElem_toArray, List.getElem_cons_zero, List.getElem_cons_succ]
    refine AnyBut.takeE (i := 4) (v := ?_) rfl (by kernel_rfl) (by kernel_rfl) (by kernel_rfl) (by kernel_rfl) (fun _ _ _ h => h) (Or.inl ⟨by rfl, ?_⟩) hS ?_
    rotate_left
    · (intro wq hq; go_simp; try with_reducible rfl)
    try simp only [Act.put, List.setIfInBounds_toArray, List.set_cons_zero, List.set_cons_succ, List.getElem_toArray, List.getElem_cons_zero, List.getElem_cons_succ]
    refine AnyBut.takeE (i := 5) (v := .int .i64 q) rfl (by kernel_rfl) (by kernel_rfl) (by kernel_rfl) (by kernel_rfl) (fun _ _ _ h => h) (Or.inl ⟨by rfl, ?_⟩) hS ?_
    · (intro wq hq; have c := cCl_33 HX.out (hC5.out.below hq hC5.out.lt); go_simp)
    try simp only [Act.put, List.setIfInBounds_toArray, List.set_cons_zero, List.set_cons_succ, List.getElem_toArray, List.getElem_cons_zero, List.getElem_cons_succ]
    refine AnyBut.takeE (i := 6) (v := ?_) rfl (by kernel_rfl) (by kernel_rfl) (by kernel_rfl) (by kernel_rfl) (fun _ _ _ h => h) (Or.inl ⟨by rfl, ?_⟩) hS ?_
    rotate_left
    · (intro wq hq; go_simp; try with_reducible rfl)
    try simp only [Act.put, List.setIfInBounds_toArray, List.set_cons_zero, List.set_cons_succ, List.getElem_toArray, List.getElem_cons_zero, List.getElem_cons_succ]
    refine AnyBut.takeE (i := 7) (v := .slice B bn bc) rfl (by kernel_rfl) (by kernel_rfl) (by kernel_rfl) (by kernel_rfl) (fun _ _ _ h => h) (Or.inl ⟨by rfl, ?_⟩) hS ?_
    · (intro wq hq; have c := cCl_at HX.out (hC5.out.below hq hC5.out.lt); go_simp)
    try simp only [Act.put, List.setIfInBounds_toArray, List.set_cons_zero, List.set_cons_succ, List.getElem_toArray, List.getElem_cons_zero, List.getElem_cons_succ]
    refine AnyBut.fork (i := 8) (j := 13) (by kernel_rfl) rfl (by rfl) rfl (by rfl) (fun K hK => ?_) (fun K hK => ?_)
    · go_simp
      (with_reducible refine (HCuB.out _).mono ?_)
      rintro e w' ⟨rfl, rfl⟩
      dsimp only
      refine hK _ _ (fun _ => hS) ?_
      clear hK K
      try simp only [Act.put, List.setIfInBounds_toArray, List.set_cons_zero, List.set_cons_succ, List.getElem_toArray, List.getElem_cons_zero, List.getElem_cons_succ]
      refine AnyBut.fork (i := 9) (j := 13) (by kernel_rfl) rfl (by rfl) rfl (by rfl) (fun K hK => ?_) (fun K hK => ?_)
      · go_simp
        have hC := HFd.out W5.drew (BW5.out.trans (Below.mono hS BW5.out.size))
        (with_reducible refine hC.mono ?_)
        rintro e Wf ⟨rfl, hNl, hbf⟩
        dsimp only
        have hSf : SBw W5 Wf := SBw.next hS hbf
        have HNl := Lib.hid hNl

        clear hS hC hbf hNl
        refine hK _ _ (fun _ => hSf) ?_
        clear hK K
        try simp only [Act.put, List.setIfInBounds_toArray, List.set_cons_zero, List.set_cons_succ, List.getElem_toArray, List.getElem_cons_zero, List.getElem_cons_succ]
        have hS := hSf
        clear hSf

        refine AnyBut.takeE (i := 10) (v := ?_) rfl (by kernel_rfl) (by kernel_rfl) (by kernel_rfl) (by kernel_rfl) (fun _ _ _ h => h) (Or.inl ⟨by rfl, ?_⟩) hS ?_
        rotate_left
        · (intro wq hq; go_simp; try with_reducible rfl)
        try simp only [Act.put, List.setIfInBounds_toArray, List.set_cons_zero, List.set_cons_succ, List.getElem_toArray, List.getElem_cons_zero, List.getElem_cons_succ]
        refine AnyBut.takeE (i := 11) (v := ?_) rfl (by kernel_rfl) (by kernel_rfl) (by kernel_rfl) (by kernel_rfl) (fun _ _ _ h => h) (Or.inl ⟨by rfl, ?_⟩) hS ?_
        rotate_left
        · (intro wq hq; go_simp; try with_reducible rfl)
        try simp only [Act.put, List.setIfInBounds_toArray, List.set_cons_zero, List.set_cons_succ, List.getElem_toArray, List.getElem_cons_zero, List.getElem_cons_succ]
        refine AnyBut.takeE (i := 12) (v := ?_) rfl (by kernel_rfl) (by kernel_rfl) (by kernel_rfl) (by kernel_rfl) (fun _ _ _ h => h) (Or.inl ⟨by rfl, ?_⟩) hS ?_
        rotate_left
        · (intro wq hq; go_simp; try with_reducible rfl)
        try simp only [Act.put, List.setIfInBounds_toArray, List.set_cons_zero, List.set_cons_succ, List.getElem_toArray, List.getElem_cons_zero, List.getElem_cons_succ]
        refine AnyBut.gone (i := 13) (by kernel_rfl) rfl (by rfl) (fun K hK => ?_)

        go_simp
        have p1 := HBx.new Wf Z32 rfl
        have p2 : Below Wf.heap.size Wf (Wf.alloc (.cells (vbs Z32).toArray 25)) := (Below.refl _ _).alloc (Nat.le_refl _) _
        have p3 : W5.heap.size ≤ Wf.heap.size := Below.size hS
        have p4 := SBw.next hS p2
        generalize (Wf.alloc (.cells (vbs Z32).toArray 25)) = Wa at p1 p2 p4 ⊢
        generalize Wf.heap.size = ga at p1 p2 p3 ⊢
        have PA := Lib.hid p1
        clear hS p1 p2
        refine hK _ _ (fun _ => p4) ?_
        clear hK K
        try simp only [Act.put, List.setIfInBounds_toArray, List.set_cons_zero, List.set_cons_succ, List.getElem_toArray, List.getElem_cons_zero, List.getElem_cons_succ]
        have hS := p4
        clear p4

        have KT := PA.out.kt HNl.out
        have IA := i25a HNl.out
        refine AnyBut.gone (i := 14) (by kernel_rfl) rfl (by rfl) (fun K hK => ?_)
        refine wp_store_mid 25 (.tmp 13) (.tmp 53) rfl ga 0 (vbs N).toArray rfl rfl KT IA (all_oneCell_toArray (vbs_one _)) ?_
        rw [List.toList_toArray]
        have hSz : SBw W5 (Wa.setCells ga 0 (vbs N)) := below_setCells p3 (vbs N) 0 _ hS
        have PZ := PA.out.set HNl.out
        clear hS KT IA
        refine hK _ _ (fun _ => hSz) ?_
        clear hK K
        try simp only [Act.put, List.setIfInBounds_toArray, List.set_cons_zero, List.set_cons_succ, List.getElem_toArray, List.getElem_cons_zero, List.getElem_cons_succ]
        have hS := hSz
        refine AnyBut.takeE (i := 15) (v := ?_) rfl (by kernel_rfl) (by kernel_rfl) (by kernel_rfl) (by kernel_rfl) (fun _ _ _ h => h) (Or.inl ⟨by rfl, ?_⟩) hS ?_
        rotate_left
        · (intro wq hq; go_simp; try with_reducible rfl)
        try simp only [Act.put, List.setIfInBounds_toArray, List.set_cons_zero, List.set_cons_succ, List.getElem_toArray, List.getElem_cons_zero, List.getElem_cons_succ]

        refine AnyBut.done (by kernel_rfl) ?_ _
        try dsimp only [Exit.then]
        exact ⟨ga, rfl, PZ, hSz⟩
      · go_simp
        have p1 : HBx (W5.alloc (.cells (vbs Z32).toArray 25)).drew W5.heap.size Z32 := HBx.new W5 Z32 rfl
        have p4 : SBw W5 (W5.alloc (.cells (vbs Z32).toArray 25)).drew := Below.drew ((Below.refl _ _).alloc (Nat.le_refl _) _)
        obtain ⟨ga, hga⟩ : ∃ g, g = W5.heap.size := ⟨_, rfl⟩
        have p3 : W5.heap.size ≤ ga := by omega
        rw [← hga] at p1 ⊢
        generalize (W5.alloc (.cells (vbs Z32).toArray 25)).drew = Wa at p1 p4 ⊢
        have PA := Lib.hid p1
        clear hS p1 hga
        refine hK _ _ (fun _ => p4) ?_
        clear hK K
        try simp only [Act.put, List.setIfInBounds_toArray, List.set_cons_zero, List.set_cons_succ, List.getElem_toArray, List.getElem_cons_zero, List.getElem_cons_succ]
        have hS := p4
        clear p4
        refine AnyBut.gone (i := 9) (by kernel_rfl) rfl (by rfl) (fun K hK => ?_)

        go_simp
        have hC := HFd.out Wa (BW5.out.trans (Below.mono hS BW5.out.size))
        (with_reducible refine hC.mono ?_)
        rintro e Wf ⟨rfl, hNl, hbf⟩
        dsimp only
        have hSf : SBw W5 Wf := SBw.next hS hbf
        have HNl := Lib.hid hNl
        have PF := Lib.hid (PA.out.below hbf)
        clear hS hC hbf hNl
        refine hK _ _ (fun _ => hSf) ?_
        clear hK K
        try simp only [Act.put, List.setIfInBounds_toArray, List.set_cons_zero, List.set_cons_succ, List.getElem_toArray, List.getElem_cons_zero, List.getElem_cons_succ]
        have hS := hSf
        clear hSf

        refine AnyBut.takeE (i := 10) (v := ?_) rfl (by kernel_rfl) (by kernel_rfl) (by kernel_rfl) (by kernel_rfl) (fun _ _ _ h => h) (Or.inl ⟨by rfl, ?_⟩) hS ?_
        rotate_left
        · (intro wq hq; go_simp; try with_reducible rfl)
        try simp only [Act.put, List.setIfInBounds_toArray, List.set_cons_zero, List.set_cons_succ, List.getElem_toArray, List.getElem_cons_zero, List.getElem_cons_succ]
        refine AnyBut.takeE (i := 11) (v := ?_) rfl (by kernel_rfl) (by kernel_rfl) (by kernel_rfl) (by kernel_rfl) (fun _ _ _ h => h) (Or.inl ⟨by rfl, ?_⟩) hS ?_
        rotate_left
        · (intro wq hq; go_simp; try with_reducible rfl)
        try simp only [Act.put, List.setIfInBounds_toArray, List.set_cons_zero, List.set_cons_succ, List.getElem_toArray, List.getElem_cons_zero, List.getElem_cons_succ]
        refine AnyBut.takeE (i := 12) (v := ?_) rfl (by kernel_rfl) (by kernel_rfl) (by kernel_rfl) (by kernel_rfl) (fun _ _ _ h => h) (Or.inl ⟨by rfl, ?_⟩) hS ?_
        rotate_left
        · (intro wq hq; go_simp; try with_reducible rfl)
        try simp only [Act.put, List.setIfInBounds_toArray, List.set_cons_zero, List.set_cons_succ, List.getElem_toArray, List.getElem_cons_zero, List.getElem_cons_succ]

        have KT := PF.out.kt HNl.out
        have IA := i25a HNl.out
        refine AnyBut.gone (i := 14) (by kernel_rfl) rfl (by rfl) (fun K hK => ?_)
        refine wp_store_mid 25 (.tmp 13) (.tmp 53) rfl ga 0 (vbs N).toArray rfl rfl KT IA (all_oneCell_toArray (vbs_one _)) ?_
        rw [List.toList_toArray]
        have hSz : SBw W5 (Wf.setCells ga 0 (vbs N)) := below_setCells p3 (vbs N) 0 _ hS
        have PZ := PF.out.set HNl.out
        clear hS KT IA
        refine hK _ _ (fun _ => hSz) ?_
        clear hK K
        try simp only [Act.put, List.setIfInBounds_toArray, List.set_cons_zero, List.set_cons_succ, List.getElem_toArray, List.getElem_cons_zero, List.getElem_cons_succ]
        have hS := hSz
        refine AnyBut.takeE (i := 15) (v := ?_) rfl (by kernel_rfl) (by kernel_rfl) (by kernel_rfl) (by kernel_rfl) (fun _ _ _ h => h) (Or.inl ⟨by rfl, ?_⟩) hS ?_
        rotate_left
        · (intro wq hq; go_simp; try with_reducible rfl)
        try simp only [Act.put, List.setIfInBounds_toArray, List.set_cons_zero, List.set_cons_succ, List.getElem_toArray, List.getElem_cons_zero, List.getElem_cons_succ]

        refine AnyBut.done (by kernel_rfl) ?_ _
        try dsimp only [Exit.then]
        exact ⟨ga, rfl, PZ, hSz⟩
    · go_simp
      have p1 : HBx (W5.alloc (.cells (vbs Z32).toArray 25)).drew W5.heap.size Z32 := HBx.new W5 Z32 rfl
      have p4 : SBw W5 (W5.alloc (.cells (vbs Z32).toArray 25)).drew := Below.drew ((Below.refl _ _).alloc (Nat.le_refl _) _)
      obtain ⟨ga, hga⟩ : ∃ g, g = W5.heap.size := ⟨_, rfl⟩
      have p3 : W5.heap.size ≤ ga := by omega
      rw [← hga] at p1 ⊢
      generalize (W5.alloc (.cells (vbs Z32).toArray 25)).drew = Wa at p1 p4 ⊢
      have PA := Lib.hid p1
      clear hS p1 hga
      refine hK _ _ (fun _ => p4) ?_
      clear hK K
      try simp only [Act.put, List.setIfInBounds_toArray, List.set_cons_zero, List.set_cons_succ, List.getElem_toArray, List.getElem_cons_zero, List.getElem_cons_succ]
      have hS := p4
      clear p4
      refine AnyBut.gone (i := 8) (by kernel_rfl) rfl (by rfl) (fun K hK => ?_)

      go_simp
      (with_reducible refine (HCuB.out _).mono ?_)
      rintro e w' ⟨rfl, rfl⟩
      dsimp only
      refine hK _ _ (fun _ => hS) ?_
      clear hK K
      try simp only [Act.put, List.setIfInBounds_toArray, List.set_cons_zero, List.set_cons_succ, List.getElem_toArray, List.getElem_cons_zero, List.getElem_cons_succ]
      refine AnyBut.gone (i := 9) (by kernel_rfl) rfl (by rfl) (fun K hK => ?_)

      go_simp
      have hC := HFd.out Wa (BW5.out.trans (Below.mono hS BW5.out.size))
      (with_reducible refine hC.mono ?_)
      rintro e Wf ⟨rfl, hNl, hbf⟩
      dsimp only
      have hSf : SBw W5 Wf := SBw.next hS hbf
      have HNl := Lib.hid hNl
      have PF := Lib.hid (PA.out.below hbf)
      clear hS hC hbf hNl
      refine hK _ _ (fun _ => hSf) ?_
      clear hK K
      try simp only [Act.put, List.setIfInBounds_toArray, List.set_cons_zero, List.set_cons_succ, List.getElem_toArray, List.getElem_cons_zero, List.getElem_cons_succ]
      have hS := hSf
      clear hSf

      refine AnyBut.takeE (i := 10) (v := ?_) rfl (by kernel_rfl) (by kernel_rfl) (by kernel_rfl) (by kernel_rfl) (fun _ _ _ h => h) (Or.inl ⟨by rfl, ?_⟩) hS ?_
      rotate_left
      · (intro wq hq; go_simp; try with_reducible rfl)
      try simp only [Act.put, List.setIfInBounds_toArray, List.set_cons_zero, List.set_cons_succ, List.getElem_toArray, List.getElem_cons_zero, List.getElem_cons_succ]
      refine AnyBut.takeE (i := 11) (v := ?_) rfl (by kernel_rfl) (by kernel_rfl) (by kernel_rfl) (by kernel_rfl) (fun _ _ _ h => h) (Or.inl ⟨by rfl, ?_⟩) hS ?_
      rotate_left
      · (intro wq hq; go_simp; try with_reducible rfl)
      try simp only [Act.put, List.setIfInBounds_toArray, List.set_cons_zero, List.set_cons_succ, List.getElem_toArray, List.getElem_cons_zero, List.getElem_cons_succ]
      refine AnyBut.takeE (i := 12) (v := ?_) rfl (by kernel_rfl) (by kernel_rfl) (by kernel_rfl) (by kernel_rfl) (fun _ _ _ h => h) (Or.inl ⟨by rfl, ?_⟩) hS ?_
      rotate_left
      · (intro wq hq; go_simp; try with_reducible rfl)
      try simp only [Act.put, List.setIfInBounds_toArray, List.set_cons_zero, List.set_cons_succ, List.getElem_toArray, List.getElem_cons_zero, List.getElem_cons_succ]

      have KT := PF.out.kt HNl.out
      have IA := i25a HNl.out
      refine AnyBut.gone (i := 14) (by kernel_rfl) rfl (by rfl) (fun K hK => ?_)
      refine wp_store_mid 25 (.tmp 13) (.tmp 53) rfl ga 0 (vbs N).toArray rfl rfl KT IA (all_oneCell_toArray (vbs_one _)) ?_
      rw [List.toList_toArray]
      have hSz : SBw W5 (Wf.setCells ga 0 (vbs N)) := below_setCells p3 (vbs N) 0 _ hS
      have PZ := PF.out.set HNl.out
      clear hS KT IA
      refine hK _ _ (fun _ => hSz) ?_
      clear hK K
      try simp only [Act.put, List.setIfInBounds_toArray, List.set_cons_zero, List.set_cons_succ, List.getElem_toArray, List.getElem_cons_zero, List.getElem_cons_succ]
      have hS := hSz
      refine AnyBut.takeE (i := 15) (v := ?_) rfl (by kernel_rfl) (by kernel_rfl) (by kernel_rfl) (by kernel_rfl) (fun _ _ _ h => h) (Or.inl ⟨by rfl, ?_⟩) hS ?_
      rotate_left
      · (intro wq hq; go_simp; try with_reducible rfl)
      try simp only [Act.put, List.setIfInBounds_toArray, List.set_cons_zero, List.set_cons_succ, List.getElem_toArray, List.getElem_cons_zero, List.getElem_cons_succ]

      refine AnyBut.done (by kernel_rfl) ?_ _
      try dsimp only [Exit.then]
      exact ⟨ga, rfl, PZ, hSz⟩

  rintro g13 W6 ⟨P13, hS6⟩
  have P6 := Lib.hid P13
  have P7 := Lib.hid (P5.out.below hS6)
  have BW6 := Lib.hid (BW5.out.trans (Below.mono hS6 BW5.out.size))
  have HK6 := Lib.hid (HK5.out.below hS6)
  have HL6 := Lib.hid (HL5.out.below hS6)
  clear P13 hS6 hC5 BW5 HK5 HL5 P5
  have HHs := Lib.hid (hashes_any A9 A7 K.length c9 K.length c7 K K W6 HK6.out HL6.out HKl.out)
  rw [show decide (K = K) = true from by simp] at HHs
  have eqn := eql25 N N P6.out.2 P6.out.2
  rw [show decide (N = N) = true from by simp] at eqn
  go_wp2_with (first
    | (go_at_call 16; (with_reducible refine HHs.out.mono ?_); rintro e W8 ⟨rfl, hb⟩; have Q6 := Lib.hid (P6.out.below hb).1.range; have Q7 := Lib.hid (P7.out.below hb).1.range; have I6 := Lib.hid P6.out.inf; have BW8 := Lib.hid (BW6.out.trans (hb.mono BW6.out.size)); have HWA := Lib.hid (HW.out W8 (GL.out _ BW8.out)); clear hb HHs; dsimp only)
    | ((with_reducible show wpList _ _ _ ((⟨some 64, _, _, _, _, _⟩ : Oper) :: _) _ _); refine wpList_load_on (by rfl) 25 (.tmp 11) rfl g11 0 rfl (vbs N) _ Q7.out Tryd.underlying25 rfl I6.out ?_)
    | ((with_reducible show wpList _ _ _ ((⟨some 65, _, _, _, _, _⟩ : Oper) :: _) _ _); refine wpList_load_on (by rfl) 25 (.tmp 13) rfl g13 0 rfl (vbs N) _ Q6.out Tryd.underlying25 rfl I6.out ?_)
    | (go_at_call 17; (with_reducible refine HWA.out.mono ?_); rintro e w8 ⟨rfl, hb⟩; have HBZ := Lib.hid hb; clear hb; dsimp only))
  go_ret
  exact ⟨rfl, BW8.out.trans (HBZ.out.mono BW8.out.size)⟩
end Go.Proofs.YtihbmahjdmfjpaaDoor
