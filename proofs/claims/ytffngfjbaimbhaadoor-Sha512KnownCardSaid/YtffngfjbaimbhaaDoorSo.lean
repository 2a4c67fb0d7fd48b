/- The law Sha512Known returns true, in a world whose two tables are as laid. -/
import Derived.Test.YtffngfjbaimbhaaDoorSm
import Derived.Test.YtffngfjbaimbhaaDoorSl
import Derived.Outline
namespace Go.Proofs.YtffngfjbaimbhaaDoor
open Go.RowKit
set_option linter.unusedVariables false
set_option linter.unusedSimpArgs false
/-- Two rows of the call's own, laid with bytes. -/
def two (w2 : World) (T : TypeId) (Z A B : List (BitVec 8)) : World := (((w2.alloc (.cells (vbs Z).toArray T)).alloc (.cells (vbs Z).toArray T)).setCells w2.heap.size 0 (vbs A)).setCells (w2.heap.size + 1) 0 (vbs B)
theorem two_first (w2 : World) (T : TypeId) (Z : List (BitVec 8)) : Blk ((w2.alloc (.cells (vbs Z).toArray T)).alloc (.cells (vbs Z).toArray T)) w2.heap.size T (vbs Z) :=
  (Blk.new w2 T (vbs Z).toArray).alloc _
theorem two_next (w2 : World) (T : TypeId) (Z : List (BitVec 8)) : Blk ((w2.alloc (.cells (vbs Z).toArray T)).alloc (.cells (vbs Z).toArray T)) (w2.heap.size + 1) T (vbs Z) := by
  have b1 := Blk.new (w2.alloc (.cells (vbs Z).toArray T)) T (vbs Z).toArray
  rwa [show (w2.alloc (.cells (vbs Z).toArray T)).heap.size = w2.heap.size + 1 by simp] at b1
theorem two_next2 (w2 : World) (T : TypeId) (Z A : List (BitVec 8)) : Blk (((w2.alloc (.cells (vbs Z).toArray T)).alloc (.cells (vbs Z).toArray T)).setCells w2.heap.size 0 (vbs A)) (w2.heap.size + 1) T (vbs Z) :=
  Blk.other_setCells (by omega) _ 0 _ (two_next w2 T Z)
theorem two_laid (w w2 : World) (hb : Below w.heap.size w w2) (T : TypeId) (Z A B : List (BitVec 8)) (hA : A.length = Z.length) (hB : B.length = Z.length) :
    Below w.heap.size w (two w2 T Z A B) ∧ Blk (two w2 T Z A B) w2.heap.size T (vbs A) ∧ Blk (two w2 T Z A B) (w2.heap.size + 1) T (vbs B) := by
  have hs := hb.size
  refine ⟨?_, ?_, ?_⟩
  · exact below_setCells (by omega) _ 0 _ (below_setCells (by omega) _ 0 _ ((hb.alloc hs _).alloc (by simp; omega) _))
  · exact Blk.other_setCells (by omega) _ 0 _ ((two_first w2 T Z).setCells (vbs A) (by rw [vbs_len, vbs_len, hA]))
  · exact (two_next2 w2 T Z A).setCells (vbs B) (by rw [vbs_len, vbs_len, hB])
def abcO : Obj := .cells #[.int .u8 97, .int .u8 98, .int .u8 99] 5 (3, 4)
theorem c7n (w1 : World) (hG : Glob w1) : Calls Tryd.prog 7 #[.slice none 0 0] w1 fun e w' => e = .returned (.agg (vbs exA).toArray) ∧ Below w1.heap.size w1 w' := by
  have h := sum_any none 0 [] w1 hG (fun hp => by cases hp) (Nat.le_refl _) (by decide) (by decide)
  rwa [sum_none] at h
theorem c7a (w1 : World) (hG : Glob w1) : Calls Tryd.prog 7 #[.slice (some ⟨w1.heap.size, 0, none⟩) 3 3] (w1.alloc abcO) fun e w' => e = .returned (.agg (vbs exB).toArray) ∧ Below w1.heap.size w1 w' := by
  have hb1 : Below w1.heap.size w1 (w1.alloc abcO) := (Below.refl _ _).alloc (Nat.le_refl _) _
  have h := sum_any (some ⟨w1.heap.size, 0, none⟩) 3 [97, 98, 99] _ (hG.below hb1) (abc_new w1 (3, 4)) (by decide) (by decide) (by decide)
  rw [sum_abc] at h
  exact h.mono fun e w' hp => ⟨hp.1, hb1.trans (hp.2.mono hb1.size)⟩
theorem c10n (w1 : World) (hG : Glob w1) : Calls Tryd.prog 10 #[.slice none 0 0] w1 fun e w' => e = .returned (.agg (vbs exC).toArray) ∧ Below w1.heap.size w1 w' := by
  have h := sum256_any none 0 [] w1 hG (fun hp => by cases hp) (Nat.le_refl _) (by decide) (by decide)
  rwa [short_none] at h
theorem c10a (w1 : World) (hG : Glob w1) : Calls Tryd.prog 10 #[.slice (some ⟨w1.heap.size, 0, none⟩) 3 3] (w1.alloc abcO) fun e w' => e = .returned (.agg (vbs exD).toArray) ∧ Below w1.heap.size w1 w' := by
  have hb1 : Below w1.heap.size w1 (w1.alloc abcO) := (Below.refl _ _).alloc (Nat.le_refl _) _
  have h := sum256_any (some ⟨w1.heap.size, 0, none⟩) 3 [97, 98, 99] _ (hG.below hb1) (abc_new w1 (3, 4)) (by decide) (by decide) (by decide)
  rw [short_abc] at h
  exact h.mono fun e w' hp => ⟨hp.1, hb1.trans (hp.2.mono hb1.size)⟩
theorem slice29all (b : Nat) (w : World) : (Instr.sliceAt 29 (.pointer (some ⟨b, 0, none⟩)) none none none).run Tryd.prog w = .ok (.slice (some ⟨b, 0, none⟩) 32 32) w := by
  rw [run_sliceAt_array_all w 29 _ (by kernel_rfl)]
  have hs : (sizeOf (Tryd.prog.elem 29)).run Tryd.prog w = .ok 1 w := by kernel_rfl
  have hl : Tryd.prog.arrayLen 29 = 32 := by kernel_rfl
  rw [hs, hl]
  rfl
theorem c11 (R : List (BitVec 8)) (n : Nat) (T : TypeId) (b : Nat) (W : World) (hB : Blk W b T (vbs R)) (hn : R.length = n) (hl : n ≤ 4096) (t : ByteArray) (ht : strB (hexs R) = t) : Calls Tryd.prog 11 #[.slice (some ⟨b, 0, none⟩) n n] W fun e w' => e = .returned (.string t) ∧ Below W.heap.size W w' := by
  subst hn
  rw [← ht]
  exact text_any R b 0 R.length hl (Nat.le_refl _) W hB.lt (fun j hj => by rw [Nat.zero_add]; exact hB.cell (vbs_at hj))
theorem wpList_load_on {P : Program} {ops : Array Oper} {rest : List Oper} {op : Oper} {a : Act} {w : World} {Q : Exit → Act → World → Prop} (hgd : Region.wanted op (yielded ops a.tmps) = true) (ty : TypeId) (x : Operand) (ho : op.op = .load ty x)
    (b o : Nat) (hx : a.eval x = .pointer (some ⟨b, o, none⟩)) (cs : List Value) (d : TypeDesc) (hc : w.rangeAt b o cs) (hu : P.underlying ty = some d) (hd : d.isRow = true) (hi : (P.info? ty).map (·.size) = some cs.length)
    (h : wpList P ops Q rest (a.put op.dst (.agg cs.toArray)) w) : wpList P ops Q (op :: rest) a w :=
  wpList_step fun K hK => by simp only [hgd, if_true]; exact wp_load_mid ty x ho b o hx cs d hc hu hd hi (hK _ _ h)
set_option maxRecDepth 100000 in
set_option maxHeartbeats 4000000 in
theorem known_gen (w : World) (hG : Glob w) (A B C D : List (BitVec 8)) (tA tB tC tD : ByteArray) (hA : A.length = 64) (hB : B.length = 64) (hC : C.length = 32) (hD : D.length = 32)
    (k7n : ∀ w1, Glob w1 → Calls Tryd.prog 7 #[.slice none 0 0] w1 fun e w' => e = .returned (.agg (vbs A).toArray) ∧ Below w1.heap.size w1 w')
    (k7a : ∀ w1, Glob w1 → Calls Tryd.prog 7 #[.slice (some ⟨w1.heap.size, 0, none⟩) 3 3] (w1.alloc (.cells #[.int .u8 97, .int .u8 98, .int .u8 99] 5 (3, 4))) fun e w' => e = .returned (.agg (vbs B).toArray) ∧ Below w1.heap.size w1 w')
    (k10n : ∀ w1, Glob w1 → Calls Tryd.prog 10 #[.slice none 0 0] w1 fun e w' => e = .returned (.agg (vbs C).toArray) ∧ Below w1.heap.size w1 w')
    (k10a : ∀ w1, Glob w1 → Calls Tryd.prog 10 #[.slice (some ⟨w1.heap.size, 0, none⟩) 3 3] (w1.alloc (.cells #[.int .u8 97, .int .u8 98, .int .u8 99] 5 (3, 4))) fun e w' => e = .returned (.agg (vbs D).toArray) ∧ Below w1.heap.size w1 w')
    (htA : strB (hexs A) = tA) (htB : strB (hexs B) = tB) (htC : strB (hexs C) = tC) (htD : strB (hexs D) = tD)
    (hN : ∀ wq, (binOp .neq 29 (.agg (vbs C).toArray) (.agg (vbs Z32).toArray)).run Tryd.prog wq = .ok (.bool true) wq)
    (eA : (tA.toList == [99, 102, 56, 51, 101, 49, 51, 53, 55, 101, 101, 102, 98, 56, 98, 100, 102, 49, 53, 52, 50, 56, 53, 48, 100, 54, 54, 100, 56, 48, 48, 55, 100, 54, 50, 48, 101, 52, 48, 53, 48, 98, 53, 55, 49, 53, 100, 99, 56, 51, 102, 52, 97, 57, 50, 49, 100, 51, 54, 99, 101, 57, 99, 101, 52, 55, 100, 48, 100, 49, 51, 99, 53, 100, 56, 53, 102, 50, 98, 48, 102, 102, 56, 51, 49, 56, 100, 50, 56, 55, 55, 101, 101, 99, 50, 102, 54, 51, 98, 57, 51, 49, 98, 100, 52, 55, 52, 49, 55, 97, 56, 49, 97, 53, 51, 56, 51, 50, 55, 97, 102, 57, 50, 55, 100, 97, 51, 101]) = true)
    (eB : (tB.toList == [100, 100, 97, 102, 51, 53, 97, 49, 57, 51, 54, 49, 55, 97, 98, 97, 99, 99, 52, 49, 55, 51, 52, 57, 97, 101, 50, 48, 52, 49, 51, 49, 49, 50, 101, 54, 102, 97, 52, 101, 56, 57, 97, 57, 55, 101, 97, 50, 48, 97, 57, 101, 101, 101, 101, 54, 52, 98, 53, 53, 100, 51, 57, 97, 50, 49, 57, 50, 57, 57, 50, 97, 50, 55, 52, 102, 99, 49, 97, 56, 51, 54, 98, 97, 51, 99, 50, 51, 97, 51, 102, 101, 101, 98, 98, 100, 52, 53, 52, 100, 52, 52, 50, 51, 54, 52, 51, 99, 101, 56, 48, 101, 50, 97, 57, 97, 99, 57, 52, 102, 97, 53, 52, 99, 97, 52, 57, 102]) = true)
    (eC : (tC.toList == [99, 54, 55, 50, 98, 56, 100, 49, 101, 102, 53, 54, 101, 100, 50, 56, 97, 98, 56, 55, 99, 51, 54, 50, 50, 99, 53, 49, 49, 52, 48, 54, 57, 98, 100, 100, 51, 97, 100, 55, 98, 56, 102, 57, 55, 51, 55, 52, 57, 56, 100, 48, 99, 48, 49, 101, 99, 101, 102, 48, 57, 54, 55, 97]) = true)
    (eD : (tD.toList == [53, 51, 48, 52, 56, 101, 50, 54, 56, 49, 57, 52, 49, 101, 102, 57, 57, 98, 50, 101, 50, 57, 98, 55, 54, 98, 52, 99, 55, 100, 97, 98, 101, 52, 99, 50, 100, 48, 99, 54, 51, 52, 102, 99, 54, 100, 52, 54, 101, 48, 101, 50, 102, 49, 51, 49, 48, 55, 101, 55, 97, 102, 50, 51]) = true) :
    Calls Tryd.prog 4 #[] w fun e w' => e = .returned (.bool true) ∧ Below w.heap.size w w' := by
  have hz := zero24
  have hz2 := zero29
  have kc := fun (w : World) (C : Array Value) (n c : Nat) => Lib.run_convert_bytes_const (P := Tryd.prog) w 22 5 C n c Tryd.underlying22 Tryd.underlying5
  have HG := Lib.hid hG
  have K7n := Lib.hid k7n
  have K7a := Lib.hid k7a
  have K10n := Lib.hid k10n
  have K10a := Lib.hid k10a
  have HA : Hid ((vbs A).length = 64) := by rw [vbs_len]; exact hA
  have HB : Hid ((vbs B).length = 64) := by rw [vbs_len]; exact hB
  have HC : Hid ((vbs C).length = 32) := by rw [vbs_len]; exact hC
  have HD : Hid ((vbs D).length = 32) := by rw [vbs_len]; exact hD
  have IA := Lib.hid (i24 HA.out)
  have IB := Lib.hid (i24 HB.out)
  have IC := Lib.hid (i29 HC.out)
  have ID := Lib.hid (i29 HD.out)
  have LA := Lib.hid hA
  have LB := Lib.hid hB
  have LC := Lib.hid hC
  have LD := Lib.hid hD
  clear hG k7n k7a k10n k10a hA hB hC hD
  go_enter Tryd.func4, Tryd.ntmps4
  go_upto_region 2 with (first
    | (go_at_call 7; (with_reducible refine (K7n.out w HG.out).mono ?_); rintro e w1 ⟨rfl, hb1⟩; have Hb1 := Lib.hid hb1; clear hb1; dsimp only)
    | (go_at_call 7; (with_reducible refine (K7a.out w1 (HG.out.below Hb1.out)).mono ?_); rintro e w2 ⟨rfl, hb2⟩; have Hb2 : Hid (Below w.heap.size w w2) := (Hb1.out.trans (hb2.mono Hb1.out.size)); have HT1 : Hid (((w2.alloc (.cells (vbs Z64).toArray 24)).alloc (.cells (vbs Z64).toArray 24)).there w2.heap.size 0 64) := (two_first w2 24 Z64).there; have HT2 : Hid ((((w2.alloc (.cells (vbs Z64).toArray 24)).alloc (.cells (vbs Z64).toArray 24)).setCells w2.heap.size 0 (vbs A)).there (w2.heap.size + 1) 0 64) := (two_next2 w2 24 Z64 A).there; clear hb2; dsimp only)
    | (with_reducible refine wpList_store_mid rfl 24 (.tmp 1) (.tmp 5) rfl w2.heap.size 0 (vbs A).toArray rfl rfl (there_arr HT1.out HA.out) (info_arr IA.out) (all_oneCell_toArray (vbs_one _)) ?_)
    | (with_reducible refine wpList_store_mid rfl 24 (.tmp 2) (.tmp 8) rfl (w2.heap.size + 1) 0 (vbs B).toArray rfl rfl (there_arr HT2.out HB.out) (info_arr IB.out) (all_oneCell_toArray (vbs_one _)) ?_))
  obtain ⟨hB1, hA1, hA2⟩ := two_laid w w2 Hb2.out 24 Z64 A B LA.out LB.out
  unfold two at hB1 hA1 hA2
  generalize (((w2.alloc (.cells (vbs Z64).toArray 24)).alloc (.cells (vbs Z64).toArray 24)).setCells w2.heap.size 0 (vbs A)).setCells (w2.heap.size + 1) 0 (vbs B) = W1 at hB1 hA1 hA2 ⊢
  generalize w2.heap.size = g at hA1 hA2 ⊢
  have HG1 := Lib.hid (HG.out.below hB1)
  have HB1 := Lib.hid hB1
  have HA1 := Lib.hid hA1
  have HA2 := Lib.hid hA2
  clear hB1 hA1 hA2 HT1 HT2 Hb1 Hb2 K7n K7a IA IB hz
  go_upto_region 3 with (first
    | (go_at_call 10; (with_reducible refine (K10n.out W1 HG1.out).mono ?_); rintro e w3 ⟨rfl, hb1⟩; have Hb1 := Lib.hid hb1; clear hb1; dsimp only)
    | (go_at_call 10; (with_reducible refine (K10a.out w3 (HG1.out.below Hb1.out)).mono ?_); rintro e w4 ⟨rfl, hb2⟩; have Hb2 : Hid (Below W1.heap.size W1 w4) := (Hb1.out.trans (hb2.mono Hb1.out.size)); have HT1 : Hid (((w4.alloc (.cells (vbs Z32).toArray 29)).alloc (.cells (vbs Z32).toArray 29)).there w4.heap.size 0 32) := (two_first w4 29 Z32).there; have HT2 : Hid ((((w4.alloc (.cells (vbs Z32).toArray 29)).alloc (.cells (vbs Z32).toArray 29)).setCells w4.heap.size 0 (vbs C)).there (w4.heap.size + 1) 0 32) := (two_next2 w4 29 Z32 C).there; clear hb2; dsimp only)
    | (with_reducible refine wpList_store_mid rfl 29 (.tmp 3) (.tmp 9) rfl w4.heap.size 0 (vbs C).toArray rfl rfl (there_arr HT1.out HC.out) (info_arr IC.out) (all_oneCell_toArray (vbs_one _)) ?_)
    | (with_reducible refine wpList_store_mid rfl 29 (.tmp 4) (.tmp 12) rfl (w4.heap.size + 1) 0 (vbs D).toArray rfl rfl (there_arr HT2.out HD.out) (info_arr ID.out) (all_oneCell_toArray (vbs_one _)) ?_))
  obtain ⟨hB1, hC1, hC2⟩ := two_laid W1 w4 Hb2.out 29 Z32 C D LC.out LD.out
  unfold two at hB1 hC1 hC2
  generalize (((w4.alloc (.cells (vbs Z32).toArray 29)).alloc (.cells (vbs Z32).toArray 29)).setCells w4.heap.size 0 (vbs C)).setCells (w4.heap.size + 1) 0 (vbs D) = W2 at hB1 hC1 hC2 ⊢
  generalize w4.heap.size = g2 at hC1 hC2 ⊢
  have HG2 := Lib.hid (HG1.out.below hB1)
  have HB2 := Lib.hid (HB1.out.trans (hB1.mono HB1.out.size))
  have hA1 := HA1.out.below hB1 HA1.out.lt
  have hA2 := HA2.out.below hB1 HA2.out.lt
  clear HA1 HA2
  have HA1 := Lib.hid hA1
  have HA2 := Lib.hid hA2
  have HC1 := Lib.hid hC1
  have HC2 := Lib.hid hC2
  clear hB1 hA1 hA2 hC1 hC2 HT1 HT2 Hb1 Hb2 K10n K10a ID HG1 HB1 kc
  have hs24 := slice24all
  have hs29 := slice29all
  have kA : Hid (∀ W, Below W2.heap.size W2 W → Calls Tryd.prog 11 #[.slice (some ⟨g, 0, none⟩) 64 64] W fun e w' => e = .returned (.string tA) ∧ Below W.heap.size W w') := fun W hb => c11 A 64 24 g W (HA1.out.below hb HA1.out.lt) LA.out (by decide) tA htA
  have kB : Hid (∀ W, Below W2.heap.size W2 W → Calls Tryd.prog 11 #[.slice (some ⟨g + 1, 0, none⟩) 64 64] W fun e w' => e = .returned (.string tB) ∧ Below W.heap.size W w') := fun W hb => c11 B 64 24 (g + 1) W (HA2.out.below hb HA2.out.lt) LB.out (by decide) tB htB
  have kC : Hid (∀ W, Below W2.heap.size W2 W → Calls Tryd.prog 11 #[.slice (some ⟨g2, 0, none⟩) 32 32] W fun e w' => e = .returned (.string tC) ∧ Below W.heap.size W w') := fun W hb => c11 C 32 29 g2 W (HC1.out.below hb HC1.out.lt) LC.out (by decide) tC htC
  have kD : Hid (∀ W, Below W2.heap.size W2 W → Calls Tryd.prog 11 #[.slice (some ⟨g2 + 1, 0, none⟩) 32 32] W fun e w' => e = .returned (.string tD) ∧ Below W.heap.size W w') := fun W hb => c11 D 32 29 (g2 + 1) W (HC2.out.below hb HC2.out.lt) LD.out (by decide) tD htD
  have kW : Hid (∀ W, Below W2.heap.size W2 W → Calls Tryd.prog 9 #[] W fun e w' => e = .returned (.bool true) ∧ Below W.heap.size W w') := fun W hb => works_any W (HG2.out.below hb)
  clear htA htB htC htD
  dsimp only at eA eB eC eD
  go_upto_region 7 with (first
    | (go_at_call 11; (with_reducible refine (kA.out _ (Below.refl _ _)).mono ?_); rintro e w5 ⟨rfl, hb5⟩; have Hb5 := Lib.hid hb5; clear hb5; dsimp only)
    | (go_at_call 11; (with_reducible refine (kB.out _ Hb5.out).mono ?_); rintro e w6 ⟨rfl, hb6⟩; have Hb6 := Lib.hid (Hb5.out.trans (hb6.mono Hb5.out.size)); clear hb6; dsimp only))
  clear kA kB eA eB
  go_wp2_with (first
    | (go_at_call 11; (with_reducible refine (kC.out _ Hb6.out).mono ?_); rintro e w7 ⟨rfl, hb7⟩; have Hb7 := Lib.hid (Hb6.out.trans (hb7.mono Hb6.out.size)); clear hb7; dsimp only)
    | (go_at_call 11; (with_reducible refine (kD.out _ Hb7.out).mono ?_); rintro e w8 ⟨rfl, hb8⟩; have Hb8 := Lib.hid (Hb7.out.trans (hb8.mono Hb7.out.size)); have HRg := Lib.hid ((HC1.out.below Hb8.out HC1.out.lt).range); clear hb8; dsimp only)
    | ((with_reducible refine wpList_load_on (op := ⟨some 28, _, _, _, _, _⟩) ?_ 29 (.tmp 3) rfl g2 0 rfl (vbs C) _ HRg.out Tryd.underlying29 rfl IC.out ?_); (· rfl))
    | (go_at_call 9; (with_reducible refine (kW.out _ Hb8.out).mono ?_); rintro e w9 ⟨rfl, hb9⟩; have Hb9 := Lib.hid (Hb8.out.trans (hb9.mono Hb8.out.size)); clear hb9; dsimp only))
  go_ret
  exact ⟨rfl, HB2.out.trans (Hb9.out.mono HB2.out.size)⟩
end Go.Proofs.YtffngfjbaimbhaaDoor
