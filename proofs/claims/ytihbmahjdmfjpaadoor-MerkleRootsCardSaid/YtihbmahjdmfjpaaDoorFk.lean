/- The law package's works returns true. -/
import Derived.Test.YtihbmahjdmfjpaaDoorFj
import Derived.Outline
import Derived.StillTailTactics
import Derived.Laws.Tables
namespace Go.Proofs.YtihbmahjdmfjpaaDoor
open Go.RowKit
set_option linter.unusedVariables false
set_option linter.unusedSimpArgs false
set_option maxRecDepth 100000
variable {tw : List (BitVec 8) → List (BitVec 8)}
def HA : List (BitVec 8) := 1 :: List.replicate 31 0
def HB : List (BitVec 8) := 2 :: List.replicate 31 0
def HC : List (BitVec 8) := 3 :: List.replicate 31 0
theorem HA_len : HA.length = 32 := by rfl
theorem HB_len : HB.length = 32 := by rfl
theorem HC_len : HC.length = 32 := by rfl
theorem built_A : Tryd.prog.built 25 [(0, .int .u8 1)] = some (vbs HA).toArray := by kernel_rfl
theorem built_B : Tryd.prog.built 25 [(0, .int .u8 2)] = some (vbs HB).toArray := by kernel_rfl
theorem built_C : Tryd.prog.built 25 [(0, .int .u8 3)] = some (vbs HC).toArray := by kernel_rfl
theorem wpList_hash {ops : Array Oper} {rest : List Oper} {o : Oper} {a : Act} {w : World} {Q : Exit → Act → World → Prop} (hg : o.guard = none) (parts : Array (Nat × Operand)) (ho : o.op = .build 25 parts) (ps : List (Nat × Value)) (X : List (BitVec 8))
    (hp : (parts.toList.map fun (i, x) => (i, a.eval x)) = ps) (hf : Tryd.prog.built 25 ps = some (vbs X).toArray)
    (h : wpList Tryd.prog ops Q rest (a.put o.dst (.agg (vbs X).toArray)) w) : wpList Tryd.prog ops Q (o :: rest) a w := by
  have e : (parts.map fun (i, x) => (i, a.eval x)).toList = ps := by rw [Array.toList_map]; exact hp
  exact wpList_build hg 25 parts ho (by rw [e, hf]; rfl) (by rw [e, hf]; exact h)
/-- A hash in a box of its own. -/
def HBx (w : World) (g : Nat) (X : List (BitVec 8)) : Prop := Blk w g 25 (vbs X) ∧ X.length = 32
theorem HBx.kt {w : World} {g : Nat} {X Y : List (BitVec 8)} (h : HBx w g X) (hY : Y.length = 32) : w.there g 0 (vbs Y).toArray.size := there_E h.1 (by rw [vbs_len]; exact h.2) hY
theorem HBx.inf {w : World} {g : Nat} {X : List (BitVec 8)} (h : HBx w g X) : (Tryd.prog.info? 25).map (·.size) = some (vbs X).length := i25' (by rw [vbs_len]; exact h.2)
theorem HBx.below {w w' : World} {g : Nat} {X : List (BitVec 8)} (h : HBx w g X) (hb : Below w.heap.size w w') : HBx w' g X := ⟨h.1.below hb h.1.lt, h.2⟩
theorem HBx.laid (w : World) {X : List (BitVec 8)} (hX : X.length = 32) : HBx ((w.alloc (.cells (vbs Z32).toArray 25)).setCells w.heap.size 0 (vbs X)) w.heap.size X := ⟨blk_laidT w 25 (by rw [hX]; rfl), hX⟩
theorem HBx.set {w : World} {g : Nat} {X Y : List (BitVec 8)} (h : HBx w g X) (hY : Y.length = 32) : HBx (w.setCells g 0 (vbs Y)) g Y := ⟨h.1.setCells _ (by rw [vbs_len, vbs_len, h.2, hY]), hY⟩
theorem HBx.other {w : World} {g g' : Nat} {X : List (BitVec 8)} (h : HBx w g X) (hne : g ≠ g') (us : List Value) : HBx (w.setCells g' 0 us) g X := ⟨Blk.other_setCells hne _ _ _ h.1, h.2⟩
theorem HBx.alloc {w : World} {g : Nat} {X : List (BitVec 8)} (h : HBx w g X) (o : Obj) : HBx (w.alloc o) g X := ⟨h.1.alloc o, h.2⟩
theorem HBx.new (w : World) (X : List (BitVec 8)) (hX : X.length = 32) : HBx (w.alloc (.cells (vbs X).toArray 25)) w.heap.size X := ⟨Blk.new w 25 (vbs X).toArray, hX⟩
theorem rdN_blk {w : World} {g T : Nat} {L : List (List (BitVec 8))} {s n : Nat} (hL : LenN s L) (hn : L.length = n) (h : Blk w g T (vbs L.flatten)) (hm : n ≤ 1000000) : RdN s w (some ⟨g, 0, none⟩) n n L :=
  ⟨hL, hn, fun _ => ⟨g, 0, rfl, h.lt, fun j hj => by rw [Nat.zero_add]; exact h.cell (vbs_at hj)⟩, Nat.le_refl _, by omega⟩
theorem nrow2 : nrow 2 = 2 := by
  rw [nrow_up (by omega)]
  exact congrArg (· + 1) (nrow_lo (by omega))
theorem root2 (tw : List (BitVec 8) → List (BitVec 8)) (X Y : List (BitVec 8)) : rootT tw [X, Y] = tw (X ++ Y) ∧ mutT tw [X, Y] = (decide (X = Y)) := by
  constructor
  · show rootK tw [X, Y] (nrow 2) = _
    rw [nrow2]; simp [rootK, rowN, upR, pairsT, pairsN, pairT, List.range_succ]
  · show mutK tw [X, Y] (nrow 2) = _
    rw [nrow2]
    simp [mutK, rowN, upR, pairsT, pairsN, pairT, List.range_succ, repB, repAt]
theorem hne_len {X Y : List (BitVec 8)} (hX : X.length = 32) (hY : Y.length = 32) : LenN 32 [X, Y] := fun z hz => by
  simp only [List.mem_cons, List.not_mem_nil, or_false] at hz
  rcases hz with rfl | rfl
  · exact hX
  · exact hY
theorem two_flat (X Y : List (BitVec 8)) : vbs [X, Y].flatten = vbs (X ++ Y) := by simp
theorem root_two (T : TwC tw) (X Y : List (BitVec 8)) (hX : X.length = 32) (hY : Y.length = 32) (g : Nat) (W : World) (hg : Blk W g 25 (vbs (X ++ Y))) (hG : Glob W) :
    Calls Tryd.prog 11 #[.slice (some ⟨g, 0, none⟩) 2 2] W (VPost (.tuple #[.agg (vbs (tw (X ++ Y))).toArray, .bool (decide (X = Y))]) W) :=
  (root_any T (some ⟨g, 0, none⟩) 2 2 [X, Y] W (rdN_blk (hne_len hX hY) rfl (by rw [two_flat]; exact hg) (by omega)) hG (by omega)).mono fun e w' ⟨h1, _, h3⟩ => by
    rw [(root2 tw X Y).1, (root2 tw X Y).2] at h1
    exact ⟨h1, h3⟩
theorem src_E {w : World} {b T n : Nat} {R : List (BitVec 8)} (h : Blk w b T (vbs R)) (hn : R.length = n) : Src22 w (some ⟨b, 0, none⟩) n (vbs R) := by
  subst hn; exact src_of_blk h
theorem OB.more {w' : World} {B m : Nat} {v' : Value} {L M : List (BitVec 8)} (h : w'.ownsRow B 5 1 v' (L.length + m) (vbs L ++ vbs M)) (hm : M.length = m) : OB w' B v' (L ++ M) := by
  subst hm
  unfold OB
  rw [List.length_append, show vbs (L ++ M) = vbs L ++ vbs M by simp [vbs]]
  exact h
/-- What lay in W0 lies there still. -/
def SBw (W0 wq : World) : Prop := Below W0.heap.size W0 wq
theorem SBw.start (W : World) : SBw W W.drew := (Below.refl _ _).drew
theorem SBw.alloc {W0 wq : World} (h : SBw W0 wq) (o : Obj) : SBw W0 (wq.alloc o) := Below.alloc h (Below.size h) o
theorem SBw.next {W0 wq w' : World} (h : SBw W0 wq) (hb : Below wq.heap.size wq w') : SBw W0 w' := Below.trans h (hb.mono (Below.size h))
theorem SBw.grown {W0 wq w' : World} {row : Option Nat} (h : SBw W0 wq) (hg : wq.grownBy w' row) (hr : ∀ k, row = some k → W0.heap.size ≤ k) : SBw W0 w' := Below.grown h hg (Below.size h) hr
set_option maxHeartbeats 4000000 in
theorem works_any (T : TwC tw) (hne : tw (HA ++ HA) ≠ tw (HA ++ HB)) (w : World) (hG : Glob w) : Calls Tryd.prog 17 #[] w (VPost (.bool true) w) := by
  have hz := zero25
  have HT := Lib.hid T
  have HG := Lib.hid hG
  have HNE := Lib.hid hne
  have HB1 := Lib.hid built_A
  have HB2 := Lib.hid built_B
  have a1 : HBx ((w.alloc (.cells (vbs Z32).toArray 25)).alloc (.cells (vbs Z32).toArray 25)) w.heap.size Z32 := (HBx.new w Z32 rfl).alloc _
  have a2 : HBx ((w.alloc (.cells (vbs Z32).toArray 25)).alloc (.cells (vbs Z32).toArray 25)) (w.heap.size + 1) Z32 := by
    have := HBx.new (w.alloc (.cells (vbs Z32).toArray 25)) Z32 rfl
    rwa [World.size_alloc] at this
  have hbel : Below w.heap.size w ((w.alloc (.cells (vbs Z32).toArray 25)).alloc (.cells (vbs Z32).toArray 25)) := ((Below.refl _ _).alloc (Nat.le_refl _) _).alloc (by simp) _
  have K1 := Lib.hid (a1.kt (Y := HA) HA_len)
  have K2 := Lib.hid ((a2.other (g' := w.heap.size) (by omega) (vbs HA)).kt (Y := HB) HB_len)
  have A1 := Lib.hid ((a1.set (Y := HA) HA_len).other (g' := w.heap.size + 1) (by omega) (vbs HB))
  have A2 := Lib.hid ((a2.other (g' := w.heap.size) (by omega) (vbs HA)).set (Y := HB) HB_len)
  have HBW := Lib.hid (below_setCells (B := w.heap.size) (b := w.heap.size + 1) (by omega) (vbs HB) 0 _ (below_setCells (B := w.heap.size) (Nat.le_refl _) (vbs HA) 0 _ hbel))
  have IA := Lib.hid (i25a (E := HA) HA_len)
  have IB := Lib.hid (i25a (E := HB) HB_len)
  clear T hG hne a1 a2 hbel
  go_enter Tryd.func17, Tryd.ntmps17
  go_upto_region 2 with (first
    | ((with_reducible show wpList _ _ _ ((⟨some 7, _, _, _, _, _⟩ : Oper) :: _) _ _); refine wpList_hash rfl _ rfl [(0, .int .u8 1)] HA rfl HB1.out ?_)
    | ((with_reducible show wpList _ _ _ ((⟨some 8, _, _, _, _, _⟩ : Oper) :: _) _ _); refine wpList_hash rfl _ rfl [(0, .int .u8 2)] HB rfl HB2.out ?_)
    | (with_reducible refine wpList_store_mid rfl 25 (.tmp 1) (.tmp 7) rfl w.heap.size 0 (vbs HA).toArray rfl rfl K1.out IA.out (all_oneCell_toArray (vbs_one _)) ?_)
    | (with_reducible refine wpList_store_mid rfl 25 (.tmp 2) (.tmp 8) rfl (w.heap.size + 1) 0 (vbs HB).toArray rfl rfl K2.out IB.out (all_oneCell_toArray (vbs_one _)) ?_))
  have hG1 := Lib.hid (HG.out.below HBW.out)
  have hsz1 : w.heap.size + 1 < _ := A2.out.1.lt
  generalize ((((w.alloc (.cells (vbs Z32).toArray 25)).alloc (.cells (vbs Z32).toArray 25)).setCells w.heap.size 0 (vbs HA)).setCells (w.heap.size + 1) 0 (vbs HB)) = W1 at A1 A2 HBW hG1 hsz1 ⊢
  clear K1 K2 HB1 HB2
  have HA1 := Lib.hid A1.out.1.range
  have HA2 := Lib.hid A2.out.1.range
  have HI1 := Lib.hid A1.out.inf
  have HI2 := Lib.hid A2.out.inf
  have b3 := (Below.refl W1.heap.size W1).alloc (Nat.le_refl _) (.cells (vbs (HA ++ HB)).toArray 25)
  have HC1 := Lib.hid (root_two HT.out HA HB HA_len HB_len W1.heap.size _ (Blk.new W1 25 (vbs (HA ++ HB)).toArray) (hG1.out.below b3))
  have HB3 := Lib.hid b3
  obtain ⟨R, hR⟩ : ∃ R, R = tw (HA ++ HB) := ⟨_, rfl⟩
  have HR := Lib.hid hR
  have HRl := Lib.hid (show R.length = 32 by rw [hR]; exact HT.out.len _)
  have IR := Lib.hid (i25a HRl.out)
  rw [← hR, show decide (HA = HB) = false from by decide] at HC1
  clear hR b3
  go_upto_region 3 with (first
    | ((with_reducible show wpList _ _ _ ((⟨some 10, _, _, _, _, _⟩ : Oper) :: _) _ _); with_reducible refine wpList_load_mid rfl 25 (.tmp 1) rfl w.heap.size 0 rfl (vbs HA) _ HA1.out Tryd.underlying25 rfl HI1.out ?_)
    | ((with_reducible show wpList _ _ _ ((⟨some 11, _, _, _, _, _⟩ : Oper) :: _) _ _); with_reducible refine wpList_load_mid rfl 25 (.tmp 2) rfl (w.heap.size + 1) 0 rfl (vbs HB) _ HA2.out Tryd.underlying25 rfl HI2.out ?_)
    | ((with_reducible show wpList _ _ _ ((⟨some 12, _, _, _, _, _⟩ : Oper) :: _) _ _); refine wpList_rows rfl 22 25 32 (by omega) #[(0, .tmp 10), (1, .tmp 11)] [HA, HB] (hne_len HA_len HB_len) (by simp) (by simp) rfl Tryd.underlying22 info25 z25 rfl ?_)
    | (go_at_call 11; (with_reducible refine HC1.out.mono ?_); rintro e W2 ⟨rfl, hb⟩; have KT := Lib.hid ((HBx.new W2 Z32 rfl).kt HRl.out); have HB4 := Lib.hid hb; clear hb HC1; dsimp only)
    | ((with_reducible show wpList _ _ _ ((⟨none, _, _, _, _, _⟩ : Oper) :: _) _ _); with_reducible refine wpList_store_mid rfl 25 (.tmp 3) (.tmp 14) rfl W2.heap.size 0 (vbs R).toArray rfl rfl KT.out IR.out (all_oneCell_toArray (vbs_one _)) ?_))
  have bA : Below W1.heap.size W1 ((W2.alloc (.cells (vbs Z32).toArray 25)).setCells W2.heap.size 0 (vbs R)) := (HB3.out.trans (HB4.out.mono HB3.out.size)).trans ((below_laidT W2 25 Z32 R).mono (Nat.le_trans HB3.out.size HB4.out.size))
  have B1 := Lib.hid (A1.out.below bA)
  have B2 := Lib.hid (A2.out.below bA)
  have B3 := Lib.hid (HBx.laid W2 HRl.out)
  have BW := Lib.hid (HBW.out.trans (bA.mono HBW.out.size))
  have hG2 := Lib.hid (hG1.out.below bA)
  have hsz2 : W2.heap.size < _ := B3.out.1.lt
  have hsz3 : W1.heap.size ≤ W2.heap.size := Nat.le_trans HB3.out.size HB4.out.size
  generalize ((W2.alloc (.cells (vbs Z32).toArray 25)).setCells W2.heap.size 0 (vbs R)) = W3 at B1 B2 B3 BW hG2 hsz2 bA ⊢
  clear A1 A2 HBW hG1 HA1 HA2 HI1 HI2 HB3 HB4 KT bA
  generalize W2.heap.size = g3 at B3 hsz2 hsz3 ⊢
  have RA1 := Lib.hid B1.out.1.range
  have HI1 := Lib.hid B1.out.inf
  have b3 := (Below.refl W3.heap.size W3).alloc (Nat.le_refl _) (.cells (vbs (HA ++ HA)).toArray 25)
  have HC1 := Lib.hid (root_two HT.out HA HA HA_len HA_len W3.heap.size _ (Blk.new W3 25 (vbs (HA ++ HA)).toArray) (hG2.out.below b3))
  have HB3 := Lib.hid b3
  obtain ⟨S, hSS⟩ : ∃ S, S = tw (HA ++ HA) := ⟨_, rfl⟩
  have HSe := Lib.hid hSS
  have HSl := Lib.hid (show S.length = 32 by rw [hSS]; exact HT.out.len _)
  have IS := Lib.hid (i25a HSl.out)
  rw [← hSS, show decide (HA = HA) = true from by simp] at HC1
  clear hSS b3
  go_upto_region 4 with (first
    | ((with_reducible show wpList _ _ _ ((⟨some 17, _, _, _, _, _⟩ : Oper) :: _) _ _); with_reducible refine wpList_load_mid rfl 25 (.tmp 1) rfl w.heap.size 0 rfl (vbs HA) _ RA1.out Tryd.underlying25 rfl HI1.out ?_)
    | ((with_reducible show wpList _ _ _ ((⟨some 18, _, _, _, _, _⟩ : Oper) :: _) _ _); with_reducible refine wpList_load_mid rfl 25 (.tmp 1) rfl w.heap.size 0 rfl (vbs HA) _ RA1.out Tryd.underlying25 rfl HI1.out ?_)
    | ((with_reducible show wpList _ _ _ ((⟨some 19, _, _, _, _, _⟩ : Oper) :: _) _ _); refine wpList_rows rfl 22 25 32 (by omega) #[(0, .tmp 17), (1, .tmp 18)] [HA, HA] (hne_len HA_len HA_len) (by simp) (by simp) rfl Tryd.underlying22 info25 z25 rfl ?_)
    | (go_at_call 11; (with_reducible refine HC1.out.mono ?_); rintro e W4 ⟨rfl, hb⟩; have KT := Lib.hid ((HBx.new W4 Z32 rfl).kt HSl.out); have HB4 := Lib.hid hb; clear hb HC1; dsimp only)
    | ((with_reducible show wpList _ _ _ ((⟨none, _, _, _, _, _⟩ : Oper) :: _) _ _); with_reducible refine wpList_store_mid rfl 25 (.tmp 5) (.tmp 21) rfl W4.heap.size 0 (vbs S).toArray rfl rfl KT.out IS.out (all_oneCell_toArray (vbs_one _)) ?_))
  have bA : Below W3.heap.size W3 ((W4.alloc (.cells (vbs Z32).toArray 25)).setCells W4.heap.size 0 (vbs S)) := (HB3.out.trans (HB4.out.mono HB3.out.size)).trans ((below_laidT W4 25 Z32 S).mono (Nat.le_trans HB3.out.size HB4.out.size))
  have C1 := Lib.hid (B1.out.below bA)
  have C2 := Lib.hid (B2.out.below bA)
  have C3 := Lib.hid (B3.out.below bA)
  have C5 := Lib.hid (HBx.laid W4 HSl.out)
  have CW := Lib.hid (BW.out.trans (bA.mono BW.out.size))
  have hG3 := Lib.hid (hG2.out.below bA)
  generalize ((W4.alloc (.cells (vbs Z32).toArray 25)).setCells W4.heap.size 0 (vbs S)) = W5 at C1 C2 C3 C5 CW hG3 bA ⊢
  clear B1 B2 B3 BW hG2 RA1 HI1 HB3 HB4 KT bA hz
  generalize W4.heap.size = g5 at C5 ⊢
  refine wp_calm ?_
  have s1 := sl25_all
  have eq1 := eql25 R R HRl.out HRl.out
  have nq1 := neq25 S R HSl.out HRl.out
  rw [show decide (R = R) = true from by simp] at eq1
  rw [show decide (S = R) = false from decide_eq_false (by rw [HSe.out, HR.out]; exact HNE.out), Bool.not_false] at nq1
  refine wp_region_but (z := 999) (SBw W5) (by kernel_rfl) ?_
  have hS : (SBw W5) W5.drew := SBw.start W5
  refine AnyBut.takeE (i := 0) (v := .agg (vbs R).toArray) rfl (by kernel_rfl) (by kernel_rfl) (by kernel_rfl) (by kernel_rfl) (fun _ _ _ h => h) ?_ hS ?_
  · exact yieldsIf_load_mid (by rfl) 25 (.tmp 3) rfl (g3) 0 rfl (vbs R) _ (fun _ h => (C3.out.below h).1.range) Tryd.underlying25 rfl C3.out.inf
  try simp only [Act.put, List.setIfInBounds_toArray, List.set_cons_zero, List.set_cons_succ, List.getElem_toArray, List.getElem_cons_zero, List.getElem_cons_succ]
  refine AnyBut.takeE (i := 2) (v := ?_) rfl (by kernel_rfl) (by kernel_rfl) (by kernel_rfl) (by kernel_rfl) (fun _ _ _ h => h) (Or.inl ⟨by rfl, ?_⟩) hS ?_
  rotate_left
  · (intro wq hq; go_simp; try with_reducible rfl)
  try simp only [Act.put, List.setIfInBounds_toArray, List.set_cons_zero, List.set_cons_succ, List.getElem_toArray, List.getElem_cons_zero, List.getElem_cons_succ]
  refine AnyBut.takeE (i := 4) (v := ?_) rfl (by kernel_rfl) (by kernel_rfl) (by kernel_rfl) (by kernel_rfl) (fun _ _ _ h => h) (Or.inl ⟨by rfl, ?_⟩) hS ?_
  rotate_left
  · (intro wq hq; go_simp; try with_reducible rfl)
  try simp only [Act.put, List.setIfInBounds_toArray, List.set_cons_zero, List.set_cons_succ, List.getElem_toArray, List.getElem_cons_zero, List.getElem_cons_succ]
  refine AnyBut.gone (i := 1) (by kernel_rfl) rfl (by rfl) (fun K hK => ?_)
  go_simp
  have hS6 : SBw W5 (W5.alloc (.cells #[] 5)).drew := Below.drew ((Below.refl _ _).alloc (Nat.le_refl _) _)
  have ho6 : OB (W5.alloc (.cells #[] 5)).drew W5.heap.size (.slice (some ⟨W5.heap.size, 0, none⟩) 0 0) [] := owns_empty W5 W5.heap.size (Nat.le_refl _)
  generalize (W5.alloc (.cells #[] 5)).drew = W6 at hS6 ho6 ⊢
  clear hS
  refine hK _ _ (fun _ => hS6) ?_
  clear hK K
  try simp only [Act.put, List.setIfInBounds_toArray, List.set_cons_zero, List.set_cons_succ, List.getElem_toArray, List.getElem_cons_zero, List.getElem_cons_succ]
  have hS := hS6
  refine AnyBut.gone (i := 3) (by kernel_rfl) rfl (by rfl) (fun K hK => ?_)
  refine wp_app (.tmp 24) (.tmp 25) rfl rfl W5.heap.size (.slice (some ⟨W5.heap.size, 0, none⟩) 0 0) 0 [] rfl ho6 (some ⟨w.heap.size, 0, none⟩) 32 32 (vbs HA) rfl (src_E (C1.out.below hS6).1 HA_len) (fun h => by cases h) (by omega) hS6.size ?_
  intro v7 W7 ho7 hg7
  have ho7 : OB W7 W5.heap.size v7 HA := OB.more (L := []) ho7 HA_len
  have hS7 : SBw W5 W7 := hS6.grown hg7 (fun k e => by cases e; exact Nat.le_refl _)
  clear hS hg7 ho6 hS6
  refine hK _ _ (fun _ => hS7) ?_
  clear hK K
  try simp only [Act.put, List.setIfInBounds_toArray, List.set_cons_zero, List.set_cons_succ, List.getElem_toArray, List.getElem_cons_zero, List.getElem_cons_succ]
  have hS := hS7
  refine AnyBut.gone (i := 5) (by kernel_rfl) rfl (by rfl) (fun K hK => ?_)
  refine wp_app (.tmp 26) (.tmp 27) rfl rfl W5.heap.size v7 32 (vbs HA) rfl ho7 (some ⟨w.heap.size + 1, 0, none⟩) 32 32 (vbs HB) rfl (src_E (C2.out.below hS7).1 HB_len) (fun h => by cases h) (by omega) hS7.size ?_
  intro v8 W8 ho8 hg8
  have ho8 : OB W8 W5.heap.size v8 (HA ++ HB) := OB.more (L := HA) ho8 HB_len
  have hS8 : SBw W5 W8 := hS7.grown hg8 (fun k e => (World.ownsRow.lt ho7 k e).1)
  clear hS hg8 ho7 hS7
  refine hK _ _ (fun _ => hS8) ?_
  clear hK K
  try simp only [Act.put, List.setIfInBounds_toArray, List.set_cons_zero, List.set_cons_succ, List.getElem_toArray, List.getElem_cons_zero, List.getElem_cons_succ]
  have hS := hS8
  obtain ⟨A8, c8, rfl, hr8, hl8, _⟩ := ho8.rd
  rw [show (HA ++ HB).length = 64 from rfl] at hl8 ⊢
  have HC := HT.out.at (show (HA ++ HB).length = 64 from rfl) (hG3.out.below hS8) hr8 hl8 (by omega)
  rw [← HR.out] at HC
  refine AnyBut.gone (i := 6) (by kernel_rfl) rfl (by rfl) (fun K hK => ?_)
  go_simp
  (with_reducible refine HC.mono ?_)
  rintro e W9 ⟨rfl, hb9⟩
  dsimp only
  have hS9 : SBw W5 W9 := hS8.next hb9
  clear hS hb9 HC hr8 hl8 ho8 hS8
  refine hK _ _ (fun _ => hS9) ?_
  clear hK K
  try simp only [Act.put, List.setIfInBounds_toArray, List.set_cons_zero, List.set_cons_succ, List.getElem_toArray, List.getElem_cons_zero, List.getElem_cons_succ]
  have hS := hS9
  refine AnyBut.takeE (i := 7) (v := ?_) rfl (by kernel_rfl) (by kernel_rfl) (by kernel_rfl) (by kernel_rfl) (fun _ _ _ h => h) (Or.inl ⟨by rfl, ?_⟩) hS ?_
  rotate_left
  · (intro wq hq; go_simp; try with_reducible rfl)
  try simp only [Act.put, List.setIfInBounds_toArray, List.set_cons_zero, List.set_cons_succ, List.getElem_toArray, List.getElem_cons_zero, List.getElem_cons_succ]
  refine AnyBut.takeE (i := 8) (v := ?_) rfl (by kernel_rfl) (by kernel_rfl) (by kernel_rfl) (by kernel_rfl) (fun _ _ _ h => h) (Or.inl ⟨by rfl, ?_⟩) hS ?_
  rotate_left
  · (intro wq hq; go_simp; try with_reducible rfl)
  try simp only [Act.put, List.setIfInBounds_toArray, List.set_cons_zero, List.set_cons_succ, List.getElem_toArray, List.getElem_cons_zero, List.getElem_cons_succ]
  refine AnyBut.takeE (i := 9) (v := ?_) rfl (by kernel_rfl) (by kernel_rfl) (by kernel_rfl) (by kernel_rfl) (fun _ _ _ h => h) (Or.inl ⟨by rfl, ?_⟩) hS ?_
  rotate_left
  · (intro wq hq; go_simp; try with_reducible rfl)
  try simp only [Act.put, List.setIfInBounds_toArray, List.set_cons_zero, List.set_cons_succ, List.getElem_toArray, List.getElem_cons_zero, List.getElem_cons_succ]
  refine AnyBut.takeE (i := 10) (v := ?_) rfl (by kernel_rfl) (by kernel_rfl) (by kernel_rfl) (by kernel_rfl) (fun _ _ _ h => h) (Or.inl ⟨by rfl, ?_⟩) hS ?_
  rotate_left
  · (intro wq hq; go_simp; try with_reducible rfl)
  try simp only [Act.put, List.setIfInBounds_toArray, List.set_cons_zero, List.set_cons_succ, List.getElem_toArray, List.getElem_cons_zero, List.getElem_cons_succ]
  refine AnyBut.takeE (i := 11) (v := ?_) rfl (by kernel_rfl) (by kernel_rfl) (by kernel_rfl) (by kernel_rfl) (fun _ _ _ h => h) (Or.inl ⟨by rfl, ?_⟩) hS ?_
  rotate_left
  · (intro wq hq; go_simp; try with_reducible rfl)
  try simp only [Act.put, List.setIfInBounds_toArray, List.set_cons_zero, List.set_cons_succ, List.getElem_toArray, List.getElem_cons_zero, List.getElem_cons_succ]
  refine AnyBut.takeE (i := 12) (v := ?_) rfl (by kernel_rfl) (by kernel_rfl) (by kernel_rfl) (by kernel_rfl) (fun _ _ _ h => h) (Or.inl ⟨by rfl, ?_⟩) hS ?_
  rotate_left
  · (intro wq hq; go_simp; try with_reducible rfl)
  try simp only [Act.put, List.setIfInBounds_toArray, List.set_cons_zero, List.set_cons_succ, List.getElem_toArray, List.getElem_cons_zero, List.getElem_cons_succ]
  refine AnyBut.takeE (i := 13) (v := ?_) rfl (by kernel_rfl) (by kernel_rfl) (by kernel_rfl) (by kernel_rfl) (fun _ _ _ h => h) (Or.inl ⟨by rfl, ?_⟩) hS ?_
  rotate_left
  · (intro wq hq; go_simp; try with_reducible rfl)
  try simp only [Act.put, List.setIfInBounds_toArray, List.set_cons_zero, List.set_cons_succ, List.getElem_toArray, List.getElem_cons_zero, List.getElem_cons_succ]
  refine AnyBut.takeE (i := 14) (v := ?_) rfl (by kernel_rfl) (by kernel_rfl) (by kernel_rfl) (by kernel_rfl) (fun _ _ _ h => h) (Or.inl ⟨by rfl, ?_⟩) hS ?_
  rotate_left
  · (intro wq hq; go_simp; try with_reducible rfl)
  try simp only [Act.put, List.setIfInBounds_toArray, List.set_cons_zero, List.set_cons_succ, List.getElem_toArray, List.getElem_cons_zero, List.getElem_cons_succ]
  refine AnyBut.takeE (i := 15) (v := ?_) rfl (by kernel_rfl) (by kernel_rfl) (by kernel_rfl) (by kernel_rfl) (fun _ _ _ h => h) (Or.inl ⟨by rfl, ?_⟩) hS ?_
  rotate_left
  · (intro wq hq; go_simp; try with_reducible rfl)
  try simp only [Act.put, List.setIfInBounds_toArray, List.set_cons_zero, List.set_cons_succ, List.getElem_toArray, List.getElem_cons_zero, List.getElem_cons_succ]
  refine AnyBut.takeE (i := 16) (v := .agg (vbs S).toArray) rfl (by kernel_rfl) (by kernel_rfl) (by kernel_rfl) (by kernel_rfl) (fun _ _ _ h => h) ?_ hS ?_
  · exact yieldsIf_load_mid (by rfl) 25 (.tmp 5) rfl (g5) 0 rfl (vbs S) _ (fun _ h => (C5.out.below h).1.range) Tryd.underlying25 rfl C5.out.inf
  try simp only [Act.put, List.setIfInBounds_toArray, List.set_cons_zero, List.set_cons_succ, List.getElem_toArray, List.getElem_cons_zero, List.getElem_cons_succ]
  refine AnyBut.takeE (i := 17) (v := .agg (vbs R).toArray) rfl (by kernel_rfl) (by kernel_rfl) (by kernel_rfl) (by kernel_rfl) (fun _ _ _ h => h) ?_ hS ?_
  · exact yieldsIf_load_mid (by rfl) 25 (.tmp 3) rfl (g3) 0 rfl (vbs R) _ (fun _ h => (C3.out.below h).1.range) Tryd.underlying25 rfl C3.out.inf
  try simp only [Act.put, List.setIfInBounds_toArray, List.set_cons_zero, List.set_cons_succ, List.getElem_toArray, List.getElem_cons_zero, List.getElem_cons_succ]
  refine AnyBut.takeE (i := 18) (v := ?_) rfl (by kernel_rfl) (by kernel_rfl) (by kernel_rfl) (by kernel_rfl) (fun _ _ _ h => h) (Or.inl ⟨by rfl, ?_⟩) hS ?_
  rotate_left
  · (intro wq hq; go_simp; try with_reducible rfl)
  try simp only [Act.put, List.setIfInBounds_toArray, List.set_cons_zero, List.set_cons_succ, List.getElem_toArray, List.getElem_cons_zero, List.getElem_cons_succ]
  refine AnyBut.takeE (i := 19) (v := ?_) rfl (by kernel_rfl) (by kernel_rfl) (by kernel_rfl) (by kernel_rfl) (fun _ _ _ h => h) (Or.inl ⟨by rfl, ?_⟩) hS ?_
  rotate_left
  · (intro wq hq; go_simp; try with_reducible rfl)
  try simp only [Act.put, List.setIfInBounds_toArray, List.set_cons_zero, List.set_cons_succ, List.getElem_toArray, List.getElem_cons_zero, List.getElem_cons_succ]
  refine AnyBut.takeE (i := 20) (v := ?_) rfl (by kernel_rfl) (by kernel_rfl) (by kernel_rfl) (by kernel_rfl) (fun _ _ _ h => h) (Or.inl ⟨by rfl, ?_⟩) hS ?_
  rotate_left
  · (intro wq hq; go_simp; try with_reducible rfl)
  try simp only [Act.put, List.setIfInBounds_toArray, List.set_cons_zero, List.set_cons_succ, List.getElem_toArray, List.getElem_cons_zero, List.getElem_cons_succ]
  refine AnyBut.done (by kernel_rfl) ?_ _
  try dsimp only [Exit.then]
  clear hS
  go_wp2_with fail
  go_ret
  exact ⟨rfl, CW.out.trans (Below.mono hS9 CW.out.size)⟩
end Go.Proofs.YtihbmahjdmfjpaaDoor
