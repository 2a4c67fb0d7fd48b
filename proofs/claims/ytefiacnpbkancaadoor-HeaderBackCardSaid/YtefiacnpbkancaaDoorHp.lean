/- The law HeaderKnown returns true, in a world whose two tables are as laid. -/
import Derived.Test.YtefiacnpbkancaaDoorHo
namespace Go.Proofs.YtefiacnpbkancaaDoor
open Go.RowKit
set_option linter.unusedVariables false
set_option linter.unusedSimpArgs false
set_option maxRecDepth 100000
def hA : THd := ⟨1, Z32, Z32, 2, 3, 258⟩
theorem hA_ok : HdOk hA := ⟨rfl, rfl, by decide, by decide, by decide, by decide⟩
def LA : List (BitVec 8) := hdB hA
theorem LA_len : LA.length = 80 := hdB_len hA_ok
def rootB : List (BitVec 8) := [59, 163, 237, 253, 122, 123, 18, 178, 122, 199, 44, 62, 103, 118, 143, 97, 127, 200, 27, 195, 136, 138, 81, 50, 58, 159, 184, 170, 75, 30, 94, 74]
def hB : THd := ⟨1, Z32, rootB, 1231006505, 486604799, 2083236893⟩
theorem hB_ok : HdOk hB := ⟨rfl, rfl, by decide, by decide, by decide, by decide⟩
def Zn (n : Nat) : List (BitVec 8) := List.replicate n 0
theorem Zn_len (n : Nat) : (Zn n).length = n := List.length_replicate
theorem sA1 : ((strB (LA.take 4)).toList == [1, 0, 0, 0]) = true := by decide +kernel
theorem sA2 : ((strB (LA.drop 68)).toList == [2, 0, 0, 0, 3, 0, 0, 0, 2, 1, 0, 0]) = true := by decide +kernel
theorem sB1 : ((strB (hexs (twiceB (hdB hB)).reverse)).toList == [48, 48, 48, 48, 48, 48, 48, 48, 48, 48, 49, 57, 100, 54, 54, 56, 57, 99, 48, 56, 53, 97, 101, 49, 54, 53, 56, 51, 49, 101, 57, 51, 52, 102, 102, 55, 54, 51, 97, 101, 52, 54, 97, 50, 97, 54, 99, 49, 55, 50, 98, 51, 102, 49, 98, 54, 48, 97, 56, 99, 101, 50, 54, 102]) = true := by decide +kernel
theorem Z80_get : hdOf (Zn 80) = hd0 := by decide +kernel
theorem make_n (n : Nat) (hn : n ≤ 1000) (w : World) : (Instr.makeSlice 27 (.int .i64 (n : Int)) (.int .i64 (n : Int))).run Tryd.prog w = .ok (.slice (some ⟨w.heap.size, 0, none⟩) n n) (w.alloc (.cells (vbs (Zn n)).toArray 5)) := by
  obtain ⟨i0, hi, hz0, hz1, hz2⟩ := info_parts info5
  have hr := run_make (P := Tryd.prog) w 27 5 i0 (.int .u8 0) Tryd.underlying27 hi hz0 .i64 .i64 (n : Int) (n : Int) (by omega) (by omega) (by rw [hz2]; omega) (by omega)
  rw [hr, show ((n : Int)).toNat = n by omega, hz1, Nat.mul_one]
  congr 3
  apply Array.toList_inj.1
  simp [madeCells, Zn, vbs, Value.cells, Bt]
  apply List.ext_getElem (by simp)
  intro i h1 h2
  simp [Nat.mod_one]
theorem wpList_buildA {ops : Array Oper} {rest : List Oper} {o : Oper} {a : Act} {w : World} {Q : Exit → Act → World → Prop} (hg : o.guard = none) (ho : o.op = .build 26 #[(0, .const (.int .u32 1)), (3, .const (.int .u32 2)), (4, .const (.int .u32 3)), (5, .const (.int .u32 258))])
    (h : wpList Tryd.prog ops Q rest (a.put o.dst (.agg (hdV hA).toArray)) w) : wpList Tryd.prog ops Q (o :: rest) a w :=
  wpList_build hg 26 _ ho (by kernel_rfl) (by
    rw [show (Tryd.prog.built 26 ((#[(0, .const (.int .u32 1)), (3, .const (.int .u32 2)), (4, .const (.int .u32 3)), (5, .const (.int .u32 258))] : Array (Nat × Operand)).map fun (i, x) => (i, a.eval x)).toList).getD #[] = (hdV hA).toArray by kernel_rfl]
    exact h)
def rootParts : Array (Nat × Operand) := #[(0, .const (.int .u8 59)), (1, .const (.int .u8 163)), (2, .const (.int .u8 237)), (3, .const (.int .u8 253)), (4, .const (.int .u8 122)), (5, .const (.int .u8 123)), (6, .const (.int .u8 18)), (7, .const (.int .u8 178)), (8, .const (.int .u8 122)), (9, .const (.int .u8 199)), (10, .const (.int .u8 44)), (11, .const (.int .u8 62)), (12, .const (.int .u8 103)), (13, .const (.int .u8 118)), (14, .const (.int .u8 143)), (15, .const (.int .u8 97)), (16, .const (.int .u8 127)), (17, .const (.int .u8 200)), (18, .const (.int .u8 27)), (19, .const (.int .u8 195)), (20, .const (.int .u8 136)), (21, .const (.int .u8 138)), (22, .const (.int .u8 81)), (23, .const (.int .u8 50)), (24, .const (.int .u8 58)), (25, .const (.int .u8 159)), (26, .const (.int .u8 184)), (27, .const (.int .u8 170)), (28, .const (.int .u8 75)), (29, .const (.int .u8 30)), (30, .const (.int .u8 94)), (31, .const (.int .u8 74))]
theorem wpList_buildR {ops : Array Oper} {rest : List Oper} {o : Oper} {a : Act} {w : World} {Q : Exit → Act → World → Prop} (hg : o.guard = none) (ho : o.op = .build 24 rootParts)
    (h : wpList Tryd.prog ops Q rest (a.put o.dst (.agg (vbs rootB).toArray)) w) : wpList Tryd.prog ops Q (o :: rest) a w :=
  wpList_build hg 24 _ ho (by kernel_rfl) (by
    rw [show (Tryd.prog.built 24 (rootParts.map fun (i, x) => (i, a.eval x)).toList).getD #[] = (vbs rootB).toArray by kernel_rfl]
    exact h)
theorem wpList_buildB {ops : Array Oper} {rest : List Oper} {o : Oper} {a : Act} {w : World} {Q : Exit → Act → World → Prop} (hg : o.guard = none) (x : Operand) (ho : o.op = .build 26 #[(0, .const (.int .u32 1)), (2, x), (3, .const (.int .u32 1231006505)), (4, .const (.int .u32 486604799)), (5, .const (.int .u32 2083236893))]) (hx : a.eval x = .agg (vbs rootB).toArray)
    (h : wpList Tryd.prog ops Q rest (a.put o.dst (.agg (hdV hB).toArray)) w) : wpList Tryd.prog ops Q (o :: rest) a w := by
  have e : Tryd.prog.built 26 ((#[(0, .const (.int .u32 1)), (2, x), (3, .const (.int .u32 1231006505)), (4, .const (.int .u32 486604799)), (5, .const (.int .u32 2083236893))] : Array (Nat × Operand)).map fun (i, x) => (i, a.eval x)).toList = some (hdV hB).toArray := by
    have e2 : Tryd.prog.built 26 [(0, .int .u32 1), (2, .agg (vbs rootB).toArray), (3, .int .u32 1231006505), (4, .int .u32 486604799), (5, .int .u32 2083236893)] = some (hdV hB).toArray := by kernel_rfl
    rw [← e2]
    have ev : ∀ v : Value, a.eval (.const v) = v := fun _ => rfl
    simp [hx, ev]
  exact wpList_build hg 26 _ ho (by rw [e]; rfl) (by rw [e]; exact h)
theorem wp_zero26_on {ops : Array Oper} {rest : List Oper} {o : Oper} {a : Act} {w : World} {Q : Exit → Act → World → Prop} (hgd : Region.wanted o (yielded ops a.tmps) = true) (ho : o.op = .build 26 #[])
    (h : wpList Tryd.prog ops Q rest (a.put o.dst (.agg (hdV hd0).toArray)) w) : wpList Tryd.prog ops Q (o :: rest) a w :=
  wpList_step fun K hK => by
    simp only [hgd, if_true]
    refine wp_build 26 _ ho (by kernel_rfl) ?_
    rw [show (Tryd.prog.built 26 ((#[] : Array (Nat × Operand)).map fun (i, x) => (i, a.eval x)).toList).getD #[] = (hdV hd0).toArray by kernel_rfl]
    exact hK _ _ h
theorem zn_rd (w : World) (n : Nat) : Rd (w.alloc (.cells (vbs (Zn n)).toArray 5)) (w.alloc (.cells (vbs (Zn n)).toArray 5)).heap.size (some ⟨w.heap.size, 0, none⟩) (Zn n) :=
  rd_of_blk (Blk.new w 5 (vbs (Zn n)).toArray)
theorem get_zn (n : Nat) (h : THd) (E : Int) (hn : n ≤ 1000) (hh : hgetH (Zn n) = h) (hE : hgetE (Zn n) = E) (w : World) : Calls Tryd.prog 14 #[.slice (some ⟨w.heap.size, 0, none⟩) n n] (w.alloc (.cells (vbs (Zn n)).toArray 5)) fun e w' => e = .returned (.tuple #[.agg (hdV h).toArray, .int .i64 E]) ∧ Below w.heap.size w w' := by
  have := hget_any (some ⟨w.heap.size, 0, none⟩) (Zn n) n n _ _ (Zn_len n) (zn_rd w n) (Nat.le_refl _) (fun h => by cases h) (by rw [Zn_len]; omega)
  unfold HGetPost at this
  rw [hh, hE] at this
  exact this.mono fun e w' ⟨h1, h2⟩ => ⟨h1, ((Below.refl _ _).alloc (Nat.le_refl _) _).trans (h2.mono (by simp))⟩
theorem OB.capm {w : World} {B n c : Nat} {A : Option Addr} {L : List (BitVec 8)} (h : OB w B (.slice A n c) L) : c ≤ 9223372036854775807 := by
  obtain ⟨_, _, e, _, _, h2, _⟩ := h.rd
  injection e with e1 e2 e3
  rw [e3]
  exact h2
theorem hash_there (w : World) {E : List (BitVec 8)} (h : E.length = 32) : (w.alloc (.cells (vbs Z32).toArray 24)).there w.heap.size 0 (vbs E).toArray.size := there_new25 w h
set_option maxHeartbeats 16000000 in
theorem known_walk (w : World) (hG : Glob w) : Calls Tryd.prog 6 #[] w fun e w' => e = .returned (.bool true) ∧ Below w.heap.size w w' := by
  have hz := zero26
  have hz24 := zero24
  have KP := Lib.hid (fun wq => hput_any hA hA_ok wq)
  have hLL : hdB hA = LA := rfl
  rw [hLL] at KP
  obtain ⟨L, hL⟩ : ∃ L, L = LA := ⟨_, rfl⟩
  have hLl : L.length = 80 := by rw [hL]; exact LA_len
  have hs1 := sA1
  have hs2 := sA2
  rw [← hL] at KP hs1 hs2
  obtain ⟨S1, hS1⟩ : ∃ S, S = strB (L.take 4) := ⟨_, rfl⟩
  obtain ⟨S2, hS2⟩ : ∃ S, S = strB (L.drop 68) := ⟨_, rfl⟩
  rw [← hS1] at hs1
  rw [← hS2] at hs2
  have KG79 := Lib.hid (get_zn 79 hd0 4 (by decide) (by unfold hgetH; rw [Zn_len]; rfl) (by unfold hgetE; rw [Zn_len]; rfl))
  have KG81 := Lib.hid (get_zn 81 hd0 4 (by decide) (by unfold hgetH; rw [Zn_len]; rfl) (by unfold hgetE; rw [Zn_len]; rfl))
  have KG80 := Lib.hid (get_zn 80 hd0 0 (by decide) (by unfold hgetH; rw [Zn_len, if_pos rfl]; exact Z80_get) (by unfold hgetE; rw [Zn_len]; rfl))
  have m79 := make_n 79 (by decide)
  have m81 := make_n 81 (by decide)
  have m80 := make_n 80 (by decide)
  obtain ⟨D, hD⟩ : ∃ D, D = twiceB (hdB hB) := ⟨_, rfl⟩
  have hDl : D.length = 32 := by rw [hD]; exact sumB_len _
  have KI : Hid (∀ wq, Glob wq → Calls Tryd.prog 9 #[.agg (hdV hB).toArray] wq fun e w' => e = .returned (.agg (vbs D).toArray) ∧ Below wq.heap.size wq w') := fun wq g => by
    have := hid_any hB hB_ok wq g
    rw [← hD] at this
    exact this
  have hs3 := sB1
  rw [← hD] at hs3
  obtain ⟨S3, hS3⟩ : ∃ S, S = strB (hexs D.reverse) := ⟨_, rfl⟩
  have KT : Hid (∀ wq, Calls Tryd.prog 11 #[.agg (vbs D).toArray] wq fun e w' => e = .returned (.string S3) ∧ Below wq.heap.size wq w') := fun wq => by
    have := htext_any D hDl wq
    rw [← hS3] at this
    exact this
  rw [← hS3] at hs3
  have KW := Lib.hid (fun wq g => works_any wq g)
  have h00 : ∀ w, (Op.equalIn 10000 26 (.agg (hdV hd0).toArray) (.agg (hdV hd0).toArray)).run Tryd.prog w = .ok true w := fun w => by
    have := eql26 hd0_ok hd0_ok w
    rw [run_eql_struct] at this
    generalize (Op.equalIn 10000 26 (.agg (hdV hd0).toArray) (.agg (hdV hd0).toArray)).run Tryd.prog w = r at this ⊢
    cases r with
    | ok v w' => simp only [Result.andThen_ok] at this; cases v <;> cases this; rfl
    | halt e w' => simp [Result.andThen] at this
  have HI0 := Lib.hid (info26 hd0_ok)
  have HIB := Lib.hid (info26 hB_ok)
  have HIv0 := Lib.hid (info26v hd0_ok)
  have HIvB := Lib.hid (info26v hB_ok)
  have HO0 := Lib.hid (hdV_one hd0)
  have HOB := Lib.hid (hdV_one hB)
  have HBX0 := Lib.hid (fun w => box_new w hd0_ok)
  have HBXB := Lib.hid (fun w => box_new w hB_ok)
  have HBT0 := Lib.hid (fun w => box_there w hd0_ok)
  have HBTB := Lib.hid (fun w => box_there w hB_ok)
  have HR32 : Hid (rootB.length = 32) := (rfl : rootB.length = 32)
  have HG := Lib.hid hG
  have HLl := Lib.hid hLl
  have HS1 := Lib.hid hS1
  have HS2 := Lib.hid hS2
  have H00 := Lib.hid h00
  have Hs := Lib.hid (⟨hs1, hs2, hs3⟩ : _ ∧ _ ∧ _)
  have Hm := Lib.hid (⟨m79, m81, m80⟩ : _ ∧ _ ∧ _)
  clear hL hLL hD hDl hG hLl hS1 hS2 hS3 hs1 hs2 hs3 h00 m79 m81 m80
  go_enter Tryd.func6, Tryd.ntmps6
  go_upto_region 2 with (first
    | (refine wpList_buildA rfl rfl ?_)
    | (go_at_call 7; (with_reducible refine (KP.out _).mono ?_); rintro e w2 ⟨v2, rfl, ho2, hb2⟩; obtain ⟨A2, c2, rfl, hr2, hc2, hn2⟩ := ho2.slice HLl.out; obtain ⟨g, rfl, hcell⟩ := ob_at ho2 (by rw [HLl.out]; omega); have hcap := ho2.capm; have HR2 := Lib.hid hr2; have HC2 := Lib.hid hc2; have HB2 := Lib.hid hb2; clear ho2 hr2 hn2 hb2 hcell; dsimp only))
  have h80 : (80 : Int) ≤ (c2 : Int) := by have := HC2.out; omega
  have Hcap := Lib.hid hcap
  have HR2w : Hid (∀ wq, SB w2 wq → Rd wq w2.heap.size (some ⟨g, 0, none⟩) L) := fun wq hq => up_to HR2.out hq (Nat.le_refl _)
  clear hcap hc2
  go_upto_region 4 with fail
  obtain ⟨m79, m81, m80⟩ := Hm.out
  have m79' : ∀ (w : World), Sem.run Tryd.prog (Instr.makeSlice 27 (.int .i64 79) (.int .i64 79)) w = .ok (.slice (some ⟨w.heap.size, 0, none⟩) 79 79) (w.alloc (.cells (vbs (Zn 79)).toArray 5)) := m79
  have m81' : ∀ (w : World), Sem.run Tryd.prog (Instr.makeSlice 27 (.int .i64 81) (.int .i64 81)) w = .ok (.slice (some ⟨w.heap.size, 0, none⟩) 81 81) (w.alloc (.cells (vbs (Zn 81)).toArray 5)) := m81
  have m80' : ∀ (w : World), Sem.run Tryd.prog (Instr.makeSlice 27 (.int .i64 80) (.int .i64 80)) w = .ok (.slice (some ⟨w.heap.size, 0, none⟩) 80 80) (w.alloc (.cells (vbs (Zn 80)).toArray 5)) := m80
  clear m79 m81 m80
  go_upto_region 5 with (first
    | (go_at_call 14; (with_reducible refine (KG79.out _).mono ?_); rintro e w3 ⟨rfl, hb3⟩; have HB3 := Lib.hid hb3; clear hb3; dsimp only)
    | (with_reducible refine wpList_store_mid rfl 26 (.tmp 2) (.tmp 18) rfl w3.heap.size 0 (hdV hd0).toArray rfl rfl (HBT0.out w3) HIv0.out (all_oneCell_toArray HO0.out) ?_))
  have hs4 : Hid (SB w2 ((w3.alloc (.cells (hdV hd0).toArray 26)).setCells w3.heap.size 0 (hdV hd0))) := HB3.out.trans ((HBX0.out w3).2.mono HB3.out.size)
  generalize (w3.alloc (.cells (hdV hd0).toArray 26)).setCells w3.heap.size 0 (hdV hd0) = W4 at hs4 ⊢
  generalize w3.heap.size = b3 at hs4 ⊢
  go_upto_region 6 with (first
    | (go_at_call 14; (with_reducible refine (KG81.out _).mono ?_); rintro e w5 ⟨rfl, hb5⟩; have HB5 := Lib.hid hb5; clear hb5; dsimp only)
    | (with_reducible refine wpList_store_mid rfl 26 (.tmp 4) (.tmp 23) rfl w5.heap.size 0 (hdV hd0).toArray rfl rfl (HBT0.out w5) HIv0.out (all_oneCell_toArray HO0.out) ?_))
  have hs6 : Hid (SB w2 ((w5.alloc (.cells (hdV hd0).toArray 26)).setCells w5.heap.size 0 (hdV hd0))) := SB.next hs4.out (HB5.out.trans ((HBX0.out w5).2.mono HB5.out.size))
  generalize (w5.alloc (.cells (hdV hd0).toArray 26)).setCells w5.heap.size 0 (hdV hd0) = W6 at hs6 ⊢
  generalize w5.heap.size = b5 at hs6 ⊢
  go_upto_region 7 with (first
    | (go_at_call 14; (with_reducible refine (KG80.out _).mono ?_); rintro e w7 ⟨rfl, hb7⟩; have HB7 := Lib.hid hb7; clear hb7; dsimp only)
    | (with_reducible refine wpList_store_mid rfl 26 (.tmp 6) (.tmp 28) rfl w7.heap.size 0 (hdV hd0).toArray rfl rfl (HBT0.out w7) HIv0.out (all_oneCell_toArray HO0.out) ?_))
  have hs8 : Hid (SB w2 ((w7.alloc (.cells (hdV hd0).toArray 26)).setCells w7.heap.size 0 (hdV hd0))) := SB.next hs6.out (HB7.out.trans ((HBX0.out w7).2.mono HB7.out.size))
  have hz8 := Lib.hid (HBX0.out w7).1
  generalize (w7.alloc (.cells (hdV hd0).toArray 26)).setCells w7.heap.size 0 (hdV hd0) = W8 at hs8 hz8 ⊢
  generalize w7.heap.size = b7 at hs8 hz8 ⊢
  go_upto_region 8 with (first
    | (refine wpList_buildR rfl rfl ?_)
    | (with_reducible refine wpList_store_mid rfl 24 (.tmp 8) (.tmp 30) rfl W8.heap.size 0 (vbs rootB).toArray rfl rfl (hash_there W8 HR32.out) (i25v HR32.out) (all_oneCell_toArray (vbs_one _)) ?_))
  have hr9 := Lib.hid (Blk.laid W8 HR32.out)
  have hs9 : Hid (SB W8 ((W8.alloc (.cells (vbs Z32).toArray 24)).setCells W8.heap.size 0 (vbs rootB))) := Below.laid (Below.refl _ _) (Nat.le_refl _) _
  generalize (W8.alloc (.cells (vbs Z32).toArray 24)).setCells W8.heap.size 0 (vbs rootB) = W9 at hr9 hs9 ⊢
  generalize W8.heap.size = b9 at hr9 hs9 ⊢
  go_upto_region 9 with (first
    | (with_reducible refine wpList_load_mid rfl 24 (.tmp 8) rfl b9 0 rfl (vbs rootB) _ hr9.out.range Tryd.underlying24 rfl (i24w HR32.out) ?_)
    | (refine wpList_buildB rfl (.tmp 31) rfl rfl ?_)
    | (with_reducible refine wpList_store_mid rfl 26 (.tmp 9) (.tmp 32) rfl W9.heap.size 0 (hdV hB).toArray rfl rfl (HBTB.out W9) HIvB.out (all_oneCell_toArray HOB.out) ?_))
  have hr10 := Lib.hid (HBXB.out W9).1
  have hq10 : SB W9 ((W9.alloc (.cells (hdV hd0).toArray 26)).setCells W9.heap.size 0 (hdV hB)) := (HBXB.out W9).2
  generalize (W9.alloc (.cells (hdV hd0).toArray 26)).setCells W9.heap.size 0 (hdV hB) = W10 at hr10 hq10 ⊢
  generalize W9.heap.size = b10 at hr10 ⊢
  have hq8 : SB W8 W10 := SB.trans hs9.out hq10
  have hq2 : SB w2 W10 := SB.trans hs8.out hq8
  have hz10 := Lib.hid (hz8.out.below hq8 hz8.out.lt)
  have hrd := HR2w.out W10 hq2
  have hc1 : (convert 27 9 (.slice (some ⟨g, 0, none⟩) 4 c2)).run Tryd.prog W10 = .ok (.string S1) W10 := by
    rw [HS1.out]
    exact conv_n (hrd.take 4) (by rw [List.length_take, HLl.out]; rfl)
  have hc2 : (convert 27 9 (.slice (some ⟨g, 68, none⟩) 12 (c2 - 68))).run Tryd.prog W10 = .ok (.string S2) W10 := by
    rw [HS2.out]
    refine conv_n (B := w2.heap.size) (L := L.drop 68) (fun hp => ?_) (by rw [List.length_drop, HLl.out])
    obtain ⟨b, o, e, hlt, hc⟩ := hrd (by rw [HLl.out]; omega)
    cases e
    refine ⟨g, 68, rfl, hlt, fun j hj => ?_⟩
    have := hc (68 + j) (by rw [List.length_drop] at hj; omega)
    rw [Nat.zero_add] at this
    rw [this]
    simp [List.getD, List.getElem?_drop]
  have hgb : Below w.heap.size w W10 := HB2.out.trans (Below.mono hq2 HB2.out.size)
  have hs0 := HB2.out.size
  have KI10 := Lib.hid (KI.out W10 (HG.out.below hgb))
  have Hgb := Lib.hid hgb
  obtain ⟨hs1, hs2, hs3⟩ := Hs.out
  have h00 := H00.out
  have Hcap' := Lib.hid hs0
  clear hz hz24 m79' m81' m80' hq10 hq8 hq2 hrd hgb hs0
  dsimp only [Act.put]
  go_wp2_with (first
    | (refine wpList_load_on (op := ⟨some 56, _, _, _, _, _⟩) (by rfl) 26 (.tmp 6) rfl b7 0 rfl (hdV hd0) _ hz10.out.range Tryd.underlying26 rfl HI0.out ?_)
    | (refine wp_zero26_on (by rfl) rfl ?_)
    | (refine wpList_load_on (op := ⟨some 61, _, _, _, _, _⟩) (by rfl) 26 (.tmp 9) rfl b10 0 rfl (hdV hB) _ hr10.out.range Tryd.underlying26 rfl HIB.out ?_)
    | (go_at_call 9; (with_reducible refine KI10.out.mono ?_); rintro e w11 ⟨rfl, hb11⟩; have HB11 := Lib.hid hb11; clear hb11; dsimp only)
    | (go_at_call 11; (with_reducible refine (KT.out _).mono ?_); rintro e w12 ⟨rfl, hb12⟩; have HB12 := Lib.hid hb12; clear hb12; dsimp only)
    | (go_at_call 13; (with_reducible refine (KW.out _ (HG.out.below (Hgb.out.trans ((HB11.out.trans (HB12.out.mono HB11.out.size)).mono Hgb.out.size)))).mono ?_); rintro e w13 ⟨rfl, hb13⟩; have HB13 := Lib.hid hb13; clear hb13; dsimp only))
  go_ret
  exact ⟨rfl, Hgb.out.trans ((HB11.out.trans ((HB12.out.trans (HB13.out.mono HB12.out.size)).mono HB11.out.size)).mono Hgb.out.size)⟩
end Go.Proofs.YtefiacnpbkancaaDoor
