/- What the law package's works returns: true. -/
import Derived.Test.YtefiacnpbkancaaDoorHl
namespace Go.Proofs.YtefiacnpbkancaaDoor
open Go.RowKit
set_option linter.unusedVariables false
set_option linter.unusedSimpArgs false
set_option maxRecDepth 100000
/-- The header that works puts and gets. -/
def hW : THd := ⟨1, Z32, Z32, 0, 0, 258⟩
theorem hW_ok : HdOk hW := ⟨rfl, rfl, by decide, by decide, by decide, by decide⟩
def LW : List (BitVec 8) := hdB hW
theorem LW_len : LW.length = 80 := hdB_len hW_ok
theorem LW_0 : LW.getD 0 0 = 1 := by decide +kernel
theorem LW_76 : LW.getD 76 0 = 2 := by decide +kernel
theorem LW_77 : LW.getD 77 0 = 1 := by decide +kernel
theorem DW_ne : decide (twiceB LW = Z32) = false := by decide +kernel
theorem wpList_buildW {ops : Array Oper} {rest : List Oper} {o : Oper} {a : Act} {w : World} {Q : Exit → Act → World → Prop} (hg : o.guard = none) (ho : o.op = .build 26 #[(0, .const (.int .u32 1)), (5, .const (.int .u32 258))])
    (h : wpList Tryd.prog ops Q rest (a.put o.dst (.agg (hdV hW).toArray)) w) : wpList Tryd.prog ops Q (o :: rest) a w :=
  wpList_build hg 26 _ ho (by kernel_rfl) (by
    rw [show (Tryd.prog.built 26 ((#[(0, .const (.int .u32 1)), (5, .const (.int .u32 258))] : Array (Nat × Operand)).map fun (i, x) => (i, a.eval x)).toList).getD #[] = (hdV hW).toArray by kernel_rfl]
    exact h)
theorem wp_zero24 {ops : Array Oper} {rest : List Oper} {o : Oper} {a : Act} {w : World} {Q : Exit → Act → World → Prop} (hg : o.guard = none) (ho : o.op = .build 24 #[])
    (h : wpList Tryd.prog ops Q rest (a.put o.dst (.agg (vbs Z32).toArray)) w) : wpList Tryd.prog ops Q (o :: rest) a w :=
  wpList_build hg 24 _ ho (by kernel_rfl) (by
    rw [show (Tryd.prog.built 24 ((#[] : Array (Nat × Operand)).map fun (i, x) => (i, a.eval x)).toList).getD #[] = (vbs Z32).toArray by kernel_rfl]
    exact h)
theorem wpList_load_on {P : Program} {ops : Array Oper} {rest : List Oper} {op : Oper} {a : Act} {w : World} {Q : Exit → Act → World → Prop} (hgd : Region.wanted op (yielded ops a.tmps) = true) (ty : TypeId) (x : Operand) (ho : op.op = .load ty x)
    (b o : Nat) (hx : a.eval x = .pointer (some ⟨b, o, none⟩)) (cs : List Value) (d : TypeDesc) (hc : w.rangeAt b o cs) (hu : P.underlying ty = some d) (hd : d.isRow = true) (hi : (P.info? ty).map (·.size) = some cs.length)
    (h : wpList P ops Q rest (a.put op.dst (.agg cs.toArray)) w) : wpList P ops Q (op :: rest) a w :=
  wpList_step fun K hK => by simp only [hgd, if_true]; exact wp_load_mid ty x ho b o hx cs d hc hu hd hi (hK _ _ h)
theorem wp_zero24_on {ops : Array Oper} {rest : List Oper} {o : Oper} {a : Act} {w : World} {Q : Exit → Act → World → Prop} (hgd : Region.wanted o (yielded ops a.tmps) = true) (ho : o.op = .build 24 #[])
    (h : wpList Tryd.prog ops Q rest (a.put o.dst (.agg (vbs Z32).toArray)) w) : wpList Tryd.prog ops Q (o :: rest) a w :=
  wpList_step fun K hK => by
    simp only [hgd, if_true]
    refine wp_build 24 _ ho (by kernel_rfl) ?_
    rw [show (Tryd.prog.built 24 ((#[] : Array (Nat × Operand)).map fun (i, x) => (i, a.eval x)).toList).getD #[] = (vbs Z32).toArray by kernel_rfl]
    exact hK _ _ h
theorem ob_at {w : World} {B n cap : Nat} {A : Option Addr} {L : List (BitVec 8)} (h : OB w B (.slice A n cap) L) (hp : 0 < L.length) : ∃ g, A = some ⟨g, 0, none⟩ ∧ ∀ wq, Below w.heap.size w wq → ∀ j, j < L.length → wq.cell? ⟨g, j, none⟩ = some (.int .u8 (Bt (L.getD j 0))) := by
  obtain ⟨g, rfl⟩ := h.form hp
  refine ⟨g, rfl, fun wq hq j hj => ?_⟩
  have hc := (h.cells hj).1
  rw [hq.cell (p := ⟨g, j, none⟩) (World.block_lt_of_cell? _ _ hc)]
  exact hc
/-- A box that holds the header h. -/
theorem box_new (w : World) {h : THd} (k : HdOk h) : Blk ((w.alloc (.cells (hdV hd0).toArray 26)).setCells w.heap.size 0 (hdV h)) w.heap.size 26 (hdV h) ∧ Below w.heap.size w ((w.alloc (.cells (hdV hd0).toArray 26)).setCells w.heap.size 0 (hdV h)) := by
  have hB0 := Blk.new w 26 (hdV hd0).toArray
  rw [List.toList_toArray] at hB0
  exact ⟨hB0.setCells (hdV h) (by rw [hdV_len k, hdV_len hd0_ok]), below_setCells (Nat.le_refl _) _ _ _ ((Below.refl _ _).alloc (Nat.le_refl _) _)⟩
theorem box_there (w : World) {h : THd} (k : HdOk h) : (w.alloc (.cells (hdV hd0).toArray 26)).there w.heap.size 0 (hdV h).toArray.size := by
  have hB0 := Blk.new w 26 (hdV hd0).toArray
  rw [List.toList_toArray] at hB0
  exact there_hd hB0 hd0_ok k
set_option maxHeartbeats 8000000 in
theorem works_any (w : World) (hG : Glob w) : Calls Tryd.prog 13 #[] w fun e w' => e = .returned (.bool true) ∧ Below w.heap.size w w' := by
  have hz := zero26
  have HKW := Lib.hid hW_ok
  have KP := Lib.hid (fun wq => hput_any hW hW_ok wq)
  have hLL : hdB hW = LW := rfl
  rw [hLL] at KP
  have KG : Hid (∀ (A : Option Addr) (c : Nat) (wq : World), Rd wq wq.heap.size A LW → (A = none → c = 0) → Calls Tryd.prog 14 #[.slice A 80 c] wq fun e w' => e = .returned (.tuple #[.agg (hdV hW).toArray, .int .i64 0]) ∧ Below wq.heap.size wq w') := fun A c wq h1 h2 => by
    have := hget_any A LW 80 c wq.heap.size wq LW_len h1 (Nat.le_refl _) h2 (by rw [LW_len]; omega)
    unfold HGetPost hgetH hgetE at this
    rw [if_pos LW_len, if_pos LW_len, show hdOf LW = hW from hdOf_B hW_ok] at this
    exact this
  obtain ⟨D, hD⟩ : ∃ D, D = twiceB LW := ⟨_, rfl⟩
  have hDl : D.length = 32 := by rw [hD]; exact sumB_len _
  have KI : Hid (∀ wq, Glob wq → Calls Tryd.prog 9 #[.agg (hdV hW).toArray] wq fun e w' => e = .returned (.agg (vbs D).toArray) ∧ Below wq.heap.size wq w') := fun wq g => by
    have := hid_any hW hW_ok wq g
    rw [hLL, ← hD] at this
    exact this
  have hne : ∀ w, (binOp .neq 24 (.agg (vbs D).toArray) (.agg (vbs Z32).toArray)).run Tryd.prog w = .ok (.bool true) w := fun w => by
    rw [neq24 D Z32 hDl rfl w, hD, DW_ne]
    rfl
  have heq : ∀ w, (binOp .eql 26 (.agg (hdV hW).toArray) (.agg (hdV hW).toArray)).run Tryd.prog w = .ok (.bool true) w := fun w => by
    rw [eql26 hW_ok hW_ok w]
    simp
  have g0 := LW_0
  have g76 := LW_76
  have g77 := LW_77
  have hLl := LW_len
  have HG := Lib.hid hG
  obtain ⟨L, hL⟩ : ∃ L, L = LW := ⟨_, rfl⟩
  rw [← hL] at KP KG g0 g76 g77 hLl
  have HLl := Lib.hid hLl
  have HG0 := Lib.hid (⟨g0, g76, g77⟩ : _ ∧ _ ∧ _)
  have HHI := Lib.hid (info26 hW_ok)
  have HI26 := Lib.hid (info26v hW_ok)
  have HO26 := Lib.hid (hdV_one hW)
  have HBX := Lib.hid (fun w => box_new w hW_ok)
  have HBT := Lib.hid (fun w => box_there w hW_ok)
  have HNE := Lib.hid hne
  have HEQ := Lib.hid heq
  clear hL hLL hD hDl hG g0 g76 g77 hLl hne heq
  obtain ⟨V, hV⟩ : ∃ V, V = hdV hW := ⟨_, rfl⟩
  go_enter Tryd.func13, Tryd.ntmps13
  go_upto_region 2 with (first
    | (refine wpList_buildW rfl rfl ?_)
    | (with_reducible refine wpList_store_mid rfl 26 (.tmp 1) (.tmp 5) rfl w.heap.size 0 (hdV hW).toArray rfl rfl (HBT.out w) HI26.out (all_oneCell_toArray HO26.out) ?_))
  have hb1 := (HBX.out w).2
  have hB1 := (HBX.out w).1
  generalize (w.alloc (.cells (hdV hd0).toArray 26)).setCells w.heap.size 0 (hdV hW) = W1 at hb1 hB1 ⊢
  have HB1 := Lib.hid hB1
  have Hb1 := Lib.hid hb1
  clear hB1 hb1
  dsimp only [Act.put]
  go_upto_region 3 with (first
    | (with_reducible refine wpList_load_mid rfl 26 (.tmp 1) rfl w.heap.size 0 rfl (hdV hW) _ HB1.out.range Tryd.underlying26 rfl HHI.out ?_)
    | (go_at_call 7; (with_reducible refine (KP.out _).mono ?_); rintro e w2 ⟨v2, rfl, ho2, hb2⟩; obtain ⟨A2, c2, rfl, hr2, hc2, hn2⟩ := ho2.slice HLl.out; obtain ⟨g, rfl, hcell⟩ := ob_at ho2 (by rw [HLl.out]; omega); have HR2 := Lib.hid hr2; have HC2 := Lib.hid hc2; have HN2 := Lib.hid hn2; have HB2 := Lib.hid hb2; have HCell := Lib.hid hcell; clear ho2 hr2 hc2 hn2 hb2 hcell; dsimp only))
  have Hb2 : Hid (Below w.heap.size w w2) := Hb1.out.trans (HB2.out.mono Hb1.out.size)
  go_upto_region 4 with (first
    | (go_at_call 14; (with_reducible refine (KG.out _ _ _ HR2.out HN2.out).mono ?_); rintro e w3 ⟨rfl, hb3⟩; have HB3 := Lib.hid hb3; clear hb3; dsimp only)
    | (with_reducible refine wpList_store_mid rfl 26 (.tmp 3) (.tmp 11) rfl w3.heap.size 0 (hdV hW).toArray rfl rfl (HBT.out w3) HI26.out (all_oneCell_toArray HO26.out) ?_))
  have hb4 := (HBX.out w3).2
  have hB4 := (HBX.out w3).1
  have hlt3 : w.heap.size < W1.heap.size := HB1.out.lt
  generalize (w3.alloc (.cells (hdV hd0).toArray 26)).setCells w3.heap.size 0 (hdV hW) = W4 at hb4 hB4 ⊢
  have hb24 : Below w2.heap.size w2 W4 := HB3.out.trans (hb4.mono HB3.out.size)
  have hb04 : Below w.heap.size w W4 := Hb2.out.trans (hb24.mono Hb2.out.size)
  have HB4 := Lib.hid hB4
  have HB1' : Hid (Blk W4 w.heap.size 26 (hdV hW)) := (HB1.out.below HB2.out HB1.out.lt).below hb24 (HB1.out.below HB2.out HB1.out.lt).lt
  have c0 : W4.cell? ⟨g, 0, none⟩ = some (.int .u8 1) := by rw [HCell.out W4 hb24 0 (by rw [HLl.out]; omega), HG0.out.1]; rfl
  have c76 : W4.cell? ⟨g, 76, none⟩ = some (.int .u8 2) := by rw [HCell.out W4 hb24 76 (by rw [HLl.out]; omega), HG0.out.2.1]; rfl
  have c77 : W4.cell? ⟨g, 77, none⟩ = some (.int .u8 1) := by rw [HCell.out W4 hb24 77 (by rw [HLl.out]; omega), HG0.out.2.2]; rfl
  have hne := HNE.out
  have heq := HEQ.out
  have KI4 := Lib.hid (KI.out W4 (HG.out.below hb04))
  have Hb04 := Lib.hid hb04
  generalize w3.heap.size = b3 at HB4 ⊢
  clear hb4 hB4 hb24 hb04 hlt3 hz
  go_wp2_with (first
    | (refine wpList_load_on (op := ⟨some 35, _, _, _, _, _⟩) (by rfl) 26 (.tmp 3) rfl b3 0 rfl (hdV hW) _ HB4.out.range Tryd.underlying26 rfl HHI.out ?_)
    | (refine wpList_load_on (op := ⟨some _, _, _, _, _, _⟩) (by rfl) 26 (.tmp 1) rfl w.heap.size 0 rfl (hdV hW) _ HB1'.out.range Tryd.underlying26 rfl HHI.out ?_)
    | (go_at_call 9; (with_reducible refine KI4.out.mono ?_); rintro e w5 ⟨rfl, hb5⟩; have HB5 := Lib.hid hb5; clear hb5; dsimp only)
    | (refine wp_zero24_on (by rfl) rfl ?_))
  go_ret
  exact ⟨rfl, Hb04.out.trans (HB5.out.mono Hb04.out.size)⟩
end Go.Proofs.YtefiacnpbkancaaDoor
