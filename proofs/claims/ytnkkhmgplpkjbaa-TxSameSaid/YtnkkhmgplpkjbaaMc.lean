/- Whether two outpoints are equal. -/
import Derived.Test.YtnkkhmgplpkjbaaMb
import Derived.Stop.BytesEq
import Derived.Laws.StructEq
import Derived.Outline
namespace Go.Proofs.Ytnkkhmgplpkjbaa
open Go.RowKit
set_option linter.unusedVariables false
set_option linter.unusedSimpArgs false
set_option maxRecDepth 100000
def prevV (X : List (BitVec 8)) (a : Nat) : List Value := vbs X ++ [.int .u32 (a : Int)]
theorem part_tx (X : List (BitVec 8)) (a : Nat) (hX : X.length = 32) (w : World) : (part 55 (prevV X a).toArray 0).run Try.prog w = .ok (.agg (vbs X).toArray) w := by
  have h1 : (isAgg 55).run Try.prog w = .ok true w := by kernel_rfl
  have h2 : (sizeOf 55).run Try.prog w = .ok 32 w := by kernel_rfl
  have hl : (vbs X).length = 32 := by rw [vbs_len, hX]
  simp [part, h1, h2, prevV]
  rw [List.take_append_of_le_length (by omega), List.take_of_length_le (by omega)]
theorem part_ix (X : List (BitVec 8)) (a : Nat) (hX : X.length = 32) (w : World) : (part 29 (prevV X a).toArray 32).run Try.prog w = .ok (.int .u32 (a : Int)) w := by
  have h1 : (isAgg 29).run Try.prog w = .ok false w := by kernel_rfl
  have hl : (vbs X).length = 32 := by rw [vbs_len, hX]
  simp [part, h1, prevV, hl]
theorem eql57 (X Y : List (BitVec 8)) (a b : Nat) (hX : X.length = 32) (hY : Y.length = 32) (w : World) :
    (binOp .eql 57 (.agg (prevV X a).toArray) (.agg (prevV Y b).toArray)).run Try.prog w = .ok (.bool (decide (X = Y) && decide (a = b))) w := by
  have hS : Try.prog.underlying 57 = some (.struct (Try.prog.fieldsOf 57)) := by kernel_rfl
  have hp : Try.prog.stoodInHeld 57 = false := by kernel_rfl
  have px := part_tx X a hX
  have py := part_tx Y b hY
  have qx := part_ix X a hX
  have qy := part_ix Y b hY
  have eX : vbs X = (X.map UInt8.ofBitVec).map Extern.Stop.cell := by simp [vbs, Extern.Stop.cell, Bt]
  have eY : vbs Y = (Y.map UInt8.ofBitVec).map Extern.Stop.cell := by simp [vbs, Extern.Stop.cell, Bt]
  have hb : ∀ w, (Op.equalIn 9999 55 (.agg (vbs X).toArray) (.agg (vbs Y).toArray)).run Try.prog w = .ok (decide (X = Y)) w := fun w => by
    have := run_equalIn_bytes (P := Try.prog) w 9997 55 5 32 Try.underlying55 Try.underlying5 (fun _ => by kernel_rfl) (X.map UInt8.ofBitVec) (Y.map UInt8.ofBitVec) (by simpa using hX) (by simpa using hY)
    rw [← eX, ← eY] at this
    rw [this]
    congr 1
    rw [Bool.eq_iff_iff]
    simp only [beq_iff_eq, decide_eq_true_eq]
    constructor
    · intro h
      have := congrArg (List.map UInt8.toBitVec) h
      simpa [List.map_map, Function.comp_def] using this
    · intro h
      rw [h]
  rw [run_eql_struct, show (10000 : Nat) = 9999 + 1 from rfl, run_equalIn_agg w 9999 57 _ _ hS hp]
  simp only [Program.fieldsOf, Try.underlying57]
  generalize (prevV X a).toArray = P1 at px qx ⊢
  generalize (prevV Y b).toArray = P2 at py qy ⊢
  have hi : ∀ w, (Op.equalIn 9999 29 (.int .u32 (a : Int)) (.int .u32 (b : Int))).run Try.prog w = .ok ((a : Int) == (b : Int)) w := fun w => run_equalIn_int w 9998 29 .u32 .u32 _ _ Try.underlying29
  simp only [Op.eqFields, Sem.run_bind, px, py, qx, qy, hb, hi, Result.andThen_ok, Sem.run_ite, Sem.run_pure]
  by_cases h1 : X = Y <;> by_cases h2 : a = b <;> simp [h1, h2] <;> omega
theorem neq57 (X Y : List (BitVec 8)) (a b : Nat) (hX : X.length = 32) (hY : Y.length = 32) (w : World) :
    (binOp .neq 57 (.agg (prevV X a).toArray) (.agg (prevV Y b).toArray)).run Try.prog w = .ok (.bool (!(decide (X = Y) && decide (a = b)))) w := by
  have h := eql57 X Y a b hX hY w
  rw [run_eql_struct] at h
  rw [run_neq_struct]
  generalize (Op.equalIn 10000 57 (.agg (prevV X a).toArray) (.agg (prevV Y b).toArray)).run Try.prog w = r at h ⊢
  cases r with
  | ok v w' =>
    simp only [Result.andThen_ok] at h ⊢
    cases h
    rfl
  | halt e w' => simp [Result.andThen] at h
theorem inV_prev {x : TIn} {s u : Value} : inV x s u = prevV x.tx x.ix ++ [s, .int .u32 (x.sq : Int), u] := by simp [inV, prevV]
theorem prevV_len {X : List (BitVec 8)} {a : Nat} (h : X.length = 32) : (prevV X a).length = 33 := by simp [prevV, vbs_len, h]
theorem info57 {X : List (BitVec 8)} {a : Nat} (h : X.length = 32) : (Try.prog.info? 57).map (·.size) = some (prevV X a).length := by rw [prevV_len h]; kernel_rfl
theorem Blk.prev {w : World} {b T : Nat} {x : TIn} {s u : Value} (h : Blk w b T (inV x s u)) : w.rangeAt b 0 (prevV x.tx x.ix) := fun j v hv => by
  rw [Nat.zero_add]
  refine h.cell ?_
  rw [inV_prev, List.getElem?_append_left (List.getElem?_eq_some_iff.1 hv).1]
  exact hv
end Go.Proofs.Ytnkkhmgplpkjbaa
