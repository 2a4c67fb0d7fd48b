/- What sha.Text returns. -/
import Derived.Test.YtihbmahjdmfjpaaDoorXc
import Derived.Laws.BytesString
import Derived.BigRegion
import Derived.Lib.ConvBytes
namespace Go.Proofs.YtihbmahjdmfjpaaDoor
set_option maxRecDepth 100000
open Go.RowKit
set_option linter.unusedVariables false
set_option linter.unusedSimpArgs false
theorem index_row {P : Program} (t e : TypeId) (n : Nat) (h : P.underlying t = some (.array n e)) (R : List (BitVec 8)) (hR : R.length = n) (k : Nat) (hk : k < n) (hs : ∀ w, (sizeOf e).run P w = .ok 1 w) (ha : ∀ w, (isAgg e).run P w = .ok false w) (w : World) :
    (Instr.index t (.agg (vbs R).toArray) (.int .i64 k)).run P w = .ok (.int .u8 (Bt (R.getD k 0))) w := by
  have h1 : (0 : Int) ≤ (k : Int) ∧ (k : Int) < (n : Int) := by omega
  have h2 := vbs_at (l := R) (j := k) (by omega)
  simp [Instr.index, run_underlying h, asIntOf, h1, go_sem, hk, hs, ha, h2]
theorem size5 (w : World) : (sizeOf 5).run Tryd.prog w = .ok 1 w := by kernel_rfl
theorem agg5 (w : World) : (isAgg 5).run Tryd.prog w = .ok false w := by kernel_rfl
/-- The digit of a number below sixteen. -/
def dig (i : Nat) : BitVec 8 := BitVec.ofNat 8 (if i < 10 then 48 + i else 87 + i)
theorem digit_at (i : Nat) (hi : i < 16) (w : World) : (Instr.index 9 (.string { data := #[48, 49, 50, 51, 52, 53, 54, 55, 56, 57, 97, 98, 99, 100, 101, 102] }) (.int .u8 (i : Int))).run Tryd.prog w = .ok (.int .u8 (Bt (dig i))) w := by
  have : i = 0 ∨ i = 1 ∨ i = 2 ∨ i = 3 ∨ i = 4 ∨ i = 5 ∨ i = 6 ∨ i = 7 ∨ i = 8 ∨ i = 9 ∨ i = 10 ∨ i = 11 ∨ i = 12 ∨ i = 13 ∨ i = 14 ∨ i = 15 := by omega
  rcases this with rfl | rfl | rfl | rfl | rfl | rfl | rfl | rfl | rfl | rfl | rfl | rfl | rfl | rfl | rfl | rfl <;> rfl
/-- The digits of a text. -/
def hexs (R : List (BitVec 8)) : List (BitVec 8) := R.flatMap fun x => [dig (x.toNat / 16), dig (x.toNat % 16)]
theorem hexs_len (R : List (BitVec 8)) : (hexs R).length = 2 * R.length := by
  induction R with
  | nil => rfl
  | cons x R ih => simp [hexs] at ih ⊢; omega
theorem hexs_snoc (R : List (BitVec 8)) (x : BitVec 8) : hexs (R ++ [x]) = hexs R ++ [dig (x.toNat / 16), dig (x.toNat % 16)] := by simp [hexs]
/-- The name's bytes behind k rounds. -/
def hk (R : List (BitVec 8)) (k : Nat) : List (BitVec 8) := hexs (R.take k) ++ List.replicate (64 - 2 * k) 0
theorem hk_len (R : List (BitVec 8)) (k : Nat) (hR : R.length = 32) (h : k ≤ 32) : (hk R k).length = 64 := by
  unfold hk; rw [List.length_append, hexs_len, List.length_take, List.length_replicate]; omega
theorem hk_step (R : List (BitVec 8)) (k : Nat) (hR : R.length = 32) (h : k < 32) :
    ((hk R k).set (2 * k) (dig ((R.getD k 0).toNat / 16))).set (2 * k + 1) (dig ((R.getD k 0).toNat % 16)) = hk R (k + 1) := by
  have e1 : R.take (k + 1) = R.take k ++ [R.getD k 0] := by
    rw [List.take_succ_eq_append_getElem (by omega)]; simp [List.getD, hR, h]
  have e2 : (hexs (R.take k)).length = 2 * k := by rw [hexs_len, List.length_take]; omega
  have e3 : List.replicate (64 - 2 * k) (0 : BitVec 8) = 0 :: 0 :: List.replicate (64 - 2 * (k + 1)) 0 := by
    rw [show 64 - 2 * k = (64 - 2 * (k + 1)) + 1 + 1 by omega, List.replicate_succ, List.replicate_succ]
  unfold hk
  rw [e1, hexs_snoc, e3, List.set_append_right _ _ (by omega), e2, Nat.sub_self, List.set_cons_zero, List.set_append_right _ _ (by omega), e2, show 2 * k + 1 - 2 * k = 1 by omega, List.set_cons_succ, List.set_cons_zero, List.append_assoc]
  rfl
theorem hk_end (R : List (BitVec 8)) (hR : R.length = 32) : hk R 32 = hexs R := by
  unfold hk; rw [List.take_of_length_le (by omega)]; simp
def Z64 : List (BitVec 8) := List.replicate 64 0
def RelT (w : World) (R : List (BitVec 8)) (i : Value) (wq : World) : Prop :=
  ∃ k : Nat, k ≤ 32 ∧ i = .int .i64 k ∧ Below w.heap.size w wq ∧ Blk wq (w.heap.size + 1) 56 (vbs (hk R k))
theorem RelT.step {w W : World} {R : List (BitVec 8)} {k : Nat} (hR : R.length = 32) (hk' : k < 32) (hb : Below w.heap.size w W) (hB : Blk W (w.heap.size + 1) 56 (vbs (hk R k))) :
    RelT w R (.int .i64 ((k : Int) + 1)) ((W.setCell ⟨w.heap.size + 1, 2 * k, none⟩ (.int .u8 (Bt (dig ((R.getD k 0).toNat / 16))))).setCell ⟨w.heap.size + 1, 2 * k + 1, none⟩ (.int .u8 (Bt (dig ((R.getD k 0).toNat % 16))))) := by
  refine ⟨k + 1, by omega, by simp, (hb.setCell (by simp) _).setCell (by simp) _, ?_⟩
  have := (hB.set (2 * k) (.int .u8 (Bt (dig ((R.getD k 0).toNat / 16))))).set (2 * k + 1) (.int .u8 (Bt (dig ((R.getD k 0).toNat % 16))))
  rw [vbs_set, vbs_set, hk_step R k hR hk'] at this
  exact this
theorem RelT.drew {w W : World} {R : List (BitVec 8)} {i : Value} (h : RelT w R i W) : RelT w R i W.drew := by
  obtain ⟨k, h1, h2, h3, h4⟩ := h
  exact ⟨k, h1, h2, h3.drew, h4⟩
theorem slice28a (b : Nat) (w : World) : (Instr.sliceAt 56 (.pointer (some ⟨b, 0, none⟩)) none none none).run Tryd.prog w = .ok (.slice (some ⟨b, 0, none⟩) 64 64) w := by
  rw [run_sliceAt_array_all w 56 _ (by kernel_rfl)]
  have hs : (sizeOf (Tryd.prog.elem 56)).run Tryd.prog w = .ok 1 w := by kernel_rfl
  have hl : Tryd.prog.arrayLen 56 = 64 := by kernel_rfl
  rw [hs, hl]
  rfl
theorem conv_text (b : Nat) (w : World) (L : List (BitVec 8)) (hL : L.length = 64) (h : w.rangeAt b 0 (vbs L)) : (convert 54 9 (.slice (some ⟨b, 0, none⟩) 64 64)).run Tryd.prog w = .ok (.string (strB L)) w := by
  rw [run_convert_bytes_string w 54 9 5 _ _ _ Tryd.underlying54 Tryd.underlying5 Tryd.underlying9]
  have hl : (loadCells ⟨b, 0, none⟩ 64).run Tryd.prog w = .ok ((L.map Bt).map (Value.int .u8)).toArray w := by
    have := run_loadCells_list (P := Tryd.prog) w ⟨b, 0, none⟩ (vbs L) (fun j v hv => by rw [Addr.add_mid]; exact h j v hv)
    rw [vbs_len, hL] at this
    rw [this]
    simp [vbs]
  exact run_bytesToString w ⟨b, 0, none⟩ 64 64 (L.map Bt) hl
theorem Bt_div (x : BitVec 8) : Bt x / (16 : Int) = ((x.toNat / 16 : Nat) : Int) := by unfold Bt; simp
theorem Bt_mod (x : BitVec 8) : bits .and .u8 (Bt x) 15 = ((x.toNat % 16 : Nat) : Int) := by
  unfold Bt
  rw [show (15 : Int) = ((15 : Nat) : Int) by rfl, u8_and_nat _ _ x.isLt (by omega), nat_mask4]
open Go.RowKit
set_option linter.unusedVariables false
set_option linter.unusedSimpArgs false
set_option maxRecDepth 100000 in
theorem str_abc : strB (hexs (sumB [97, 98, 99])) = { data := #[98, 97, 55, 56, 49, 54, 98, 102, 56, 102, 48, 49, 99, 102, 101, 97, 52, 49, 52, 49, 52, 48, 100, 101, 53, 100, 97, 101, 50, 50, 50, 51, 98, 48, 48, 51, 54, 49, 97, 51, 57, 54, 49, 55, 55, 97, 57, 99, 98, 52, 49, 48, 102, 102, 54, 49, 102, 50, 48, 48, 49, 53, 97, 100] } := by kernel_rfl
set_option maxRecDepth 100000 in
theorem str_two : strB (hexs (twiceB [])) = { data := #[53, 100, 102, 54, 101, 48, 101, 50, 55, 54, 49, 51, 53, 57, 100, 51, 48, 97, 56, 50, 55, 53, 48, 53, 56, 101, 50, 57, 57, 102, 99, 99, 48, 51, 56, 49, 53, 51, 52, 53, 52, 53, 102, 53, 53, 99, 102, 52, 51, 101, 52, 49, 57, 56, 51, 102, 53, 100, 52, 99, 57, 52, 53, 54] } := by kernel_rfl
end Go.Proofs.YtihbmahjdmfjpaaDoor
