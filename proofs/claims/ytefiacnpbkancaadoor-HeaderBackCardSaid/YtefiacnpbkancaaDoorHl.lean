/- Whether two hashes, two headers are equal; what the law package's works returns. -/
import Derived.Test.YtefiacnpbkancaaDoorHi
import Derived.Test.YtefiacnpbkancaaDoorHk
import Derived.Stop.BytesEq
import Derived.Laws.StructEq
namespace Go.Proofs.YtefiacnpbkancaaDoor
open Go.RowKit
set_option linter.unusedVariables false
set_option linter.unusedSimpArgs false
set_option maxRecDepth 100000
theorem eqIn24 (d : Nat) (X Y : List (BitVec 8)) (hX : X.length = 32) (hY : Y.length = 32) (w : World) : (Op.equalIn (d + 2) 24 (.agg (vbs X).toArray) (.agg (vbs Y).toArray)).run Tryd.prog w = .ok (decide (X = Y)) w := by
  have eX : vbs X = (X.map UInt8.ofBitVec).map Extern.Stop.cell := by simp [vbs, Extern.Stop.cell, Bt]
  have eY : vbs Y = (Y.map UInt8.ofBitVec).map Extern.Stop.cell := by simp [vbs, Extern.Stop.cell, Bt]
  have := run_equalIn_bytes (P := Tryd.prog) w d 24 5 32 Tryd.underlying24 Tryd.underlying5 (fun _ => by kernel_rfl) (X.map UInt8.ofBitVec) (Y.map UInt8.ofBitVec) (by simpa using hX) (by simpa using hY)
  rw [← eX, ← eY] at this
  rw [this]
  congr 1
  rw [Bool.eq_iff_iff]
  simp only [beq_iff_eq, decide_eq_true_eq]
  constructor
  · intro h
    have := congrArg (List.map UInt8.toBitVec) h
    simpa [List.map_map, Function.comp_def] using this
  · intro h
    rw [h]
theorem eql24 (X Y : List (BitVec 8)) (hX : X.length = 32) (hY : Y.length = 32) (w : World) : (binOp .eql 24 (.agg (vbs X).toArray) (.agg (vbs Y).toArray)).run Tryd.prog w = .ok (.bool (decide (X = Y))) w := by
  rw [run_eql_struct, eqIn24 9998 X Y hX hY w]
  rfl
theorem neq24 (X Y : List (BitVec 8)) (hX : X.length = 32) (hY : Y.length = 32) (w : World) : (binOp .neq 24 (.agg (vbs X).toArray) (.agg (vbs Y).toArray)).run Tryd.prog w = .ok (.bool (!decide (X = Y))) w := by
  rw [run_neq_struct, eqIn24 9998 X Y hX hY w]
  rfl
theorem part_u32 (cs : List Value) (j : Nat) (v : Value) (hv : cs[j]? = some v) (w : World) : (part 22 cs.toArray j).run Tryd.prog w = .ok v w := by
  have h1 : (isAgg 22).run Tryd.prog w = .ok false w := by kernel_rfl
  simp [part, h1, hv]
theorem part_hash (cs : List Value) (j : Nat) (X : List (BitVec 8)) (hX : X.length = 32) (hc : (cs.drop j).take 32 = vbs X) (w : World) : (part 24 cs.toArray j).run Tryd.prog w = .ok (.agg (vbs X).toArray) w := by
  have h1 : (isAgg 24).run Tryd.prog w = .ok true w := by kernel_rfl
  have h2 : (sizeOf 24).run Tryd.prog w = .ok 32 w := by kernel_rfl
  simp [part, h1, h2]
  exact hc
theorem hdV_prevs {h : THd} (k : HdOk h) : ((hdV h).drop 1).take 32 = vbs h.prev := by
  unfold hdV
  rw [List.drop_succ_cons, List.drop_zero, List.take_append_of_le_length (by rw [vbs_len, k.prev]; exact Nat.le_refl _), List.take_of_length_le (by rw [vbs_len, k.prev]; exact Nat.le_refl _)]
theorem hdV_roots {h : THd} (k : HdOk h) : ((hdV h).drop 33).take 32 = vbs h.root := by
  unfold hdV
  rw [List.drop_succ_cons, List.drop_left' (by rw [vbs_len, k.prev]), List.take_append_of_le_length (by rw [vbs_len, k.root]; exact Nat.le_refl _), List.take_of_length_le (by rw [vbs_len, k.root]; exact Nat.le_refl _)]
theorem hd_eq (h g : THd) : (h = g) ↔ (h.ver = g.ver ∧ h.prev = g.prev ∧ h.root = g.root ∧ h.time = g.time ∧ h.bits = g.bits ∧ h.nonce = g.nonce) := by
  cases h; cases g; simp
instance (h g : THd) : Decidable (h = g) := decidable_of_iff _ (hd_eq h g).symm
theorem eql26 {h g : THd} (kh : HdOk h) (kg : HdOk g) (w : World) : (binOp .eql 26 (.agg (hdV h).toArray) (.agg (hdV g).toArray)).run Tryd.prog w = .ok (.bool (decide (h = g))) w := by
  have hS : Tryd.prog.underlying 26 = some (.struct (Tryd.prog.fieldsOf 26)) := by kernel_rfl
  have hp : Tryd.prog.stoodInHeld 26 = false := by kernel_rfl
  have a0 := part_u32 (hdV h) 0 (.int .u32 (h.ver : Int)) rfl
  have b0 := part_u32 (hdV g) 0 (.int .u32 (g.ver : Int)) rfl
  have a1 := part_hash (hdV h) 1 _ kh.prev (hdV_prevs kh)
  have b1 := part_hash (hdV g) 1 _ kg.prev (hdV_prevs kg)
  have a2 := part_hash (hdV h) 33 _ kh.root (hdV_roots kh)
  have b2 := part_hash (hdV g) 33 _ kg.root (hdV_roots kg)
  have a3 := part_u32 (hdV h) 65 _ (hdV_end kh (j := 0) rfl)
  have b3 := part_u32 (hdV g) 65 _ (hdV_end kg (j := 0) rfl)
  have a4 := part_u32 (hdV h) 66 _ (hdV_end kh (j := 1) rfl)
  have b4 := part_u32 (hdV g) 66 _ (hdV_end kg (j := 1) rfl)
  have a5 := part_u32 (hdV h) 67 _ (hdV_end kh (j := 2) rfl)
  have b5 := part_u32 (hdV g) 67 _ (hdV_end kg (j := 2) rfl)
  have e1 : ∀ w, (Op.equalIn 9999 24 (.agg (vbs h.prev).toArray) (.agg (vbs g.prev).toArray)).run Tryd.prog w = .ok (decide (h.prev = g.prev)) w := fun w => eqIn24 9997 _ _ kh.prev kg.prev w
  have e2 : ∀ w, (Op.equalIn 9999 24 (.agg (vbs h.root).toArray) (.agg (vbs g.root).toArray)).run Tryd.prog w = .ok (decide (h.root = g.root)) w := fun w => eqIn24 9997 _ _ kh.root kg.root w
  have hi : ∀ (a b : Nat) w, (Op.equalIn 9999 22 (.int .u32 (a : Int)) (.int .u32 (b : Int))).run Tryd.prog w = .ok ((a : Int) == (b : Int)) w := fun a b w => run_equalIn_int w 9998 22 .u32 .u32 _ _ Tryd.underlying22
  rw [run_eql_struct, show (10000 : Nat) = 9999 + 1 from rfl, run_equalIn_agg w 9999 26 _ _ hS hp]
  simp only [Program.fieldsOf, Tryd.underlying26]
  generalize (hdV h).toArray = P1 at a0 a1 a2 a3 a4 a5 ⊢
  generalize (hdV g).toArray = P2 at b0 b1 b2 b3 b4 b5 ⊢
  simp only [Op.eqFields, Sem.run_bind, a0, a1, a2, a3, a4, a5, b0, b1, b2, b3, b4, b5, e1, e2, hi, Result.andThen_ok, Sem.run_ite, Sem.run_pure]
  have E : decide (h = g) = (((h.ver : Int) == (g.ver : Int)) && (decide (h.prev = g.prev) && (decide (h.root = g.root) && (((h.time : Int) == (g.time : Int)) && (((h.bits : Int) == (g.bits : Int)) && ((h.nonce : Int) == (g.nonce : Int))))))) := by
    rw [Bool.eq_iff_iff]
    simp only [decide_eq_true_eq, Bool.and_eq_true, beq_iff_eq, hd_eq, Int.ofNat_inj]
  rw [E]
  generalize ((h.ver : Int) == (g.ver : Int)) = q0
  generalize decide (h.prev = g.prev) = q1
  generalize decide (h.root = g.root) = q2
  generalize ((h.time : Int) == (g.time : Int)) = q3
  generalize ((h.bits : Int) == (g.bits : Int)) = q4
  generalize ((h.nonce : Int) == (g.nonce : Int)) = q5
  cases q0 <;> cases q1 <;> cases q2 <;> cases q3 <;> cases q4 <;> cases q5 <;> rfl
end Go.Proofs.YtefiacnpbkancaaDoor
