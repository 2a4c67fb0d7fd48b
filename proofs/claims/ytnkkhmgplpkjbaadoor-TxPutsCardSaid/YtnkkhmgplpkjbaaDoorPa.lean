/- What bytes.Put returns. -/
import Derived.Test.YtnkkhmgplpkjbaaDoorRf
import Derived.Laws.MakeOwn
import Derived.OwnWalk
import Derived.Outline
namespace Go.Proofs.YtnkkhmgplpkjbaaDoor
open Go.RowKit
set_option maxRecDepth 100000
set_option linter.unusedVariables false
set_option linter.unusedSimpArgs false
/-- The k lowest bytes of a number, the lowest first. -/
def les (n k : Nat) : List (BitVec 8) := (List.range k).map fun i => BitVec.ofNat 8 (n / 2 ^ (8 * i))
theorem les_succ (n k : Nat) : les n (k + 1) = les n k ++ [BitVec.ofNat 8 (n / 2 ^ (8 * k))] := by simp [les, List.range_succ]
theorem les_len (n k : Nat) : (les n k).length = k := by simp [les]
theorem byte_val (n k : Nat) : IntKind.u8.wrap ((n : Int) / 2 ^ (8 * k)) = Bt (BitVec.ofNat 8 (n / 2 ^ (8 * k))) := by
  rw [IntKind.wrap_u8']
  unfold Bt
  rw [BitVec.toNat_ofNat]
  have : ((n : Int) / 2 ^ (8 * k)) = ((n / 2 ^ (8 * k) : Nat) : Int) := by simp
  rw [this]
  omega
theorem run_make22 (n k : Nat) (h : n + k ≤ 281474976710656) (w : World) : ∃ cur : List Value, cur.length = n + k ∧
    (Instr.makeSlice 27 (.int .i64 (n : Int)) (.int .i64 ((n : Int) + (k : Int)))).run Tryd.prog w = .ok (.slice (some ⟨w.heap.size, 0, none⟩) n (n + k)) (w.alloc (.cells cur.toArray 5)) := by
  obtain ⟨i0, hi, hz0, hz1, hz2⟩ := info_parts info5
  have hr := run_make (P := Tryd.prog) w 27 5 i0 (.int .u8 0) Tryd.underlying27 hi hz0 .i64 .i64 (n : Int) ((n : Int) + (k : Int)) (by omega) (by omega) (by rw [hz2]; omega) (by omega)
  refine ⟨(madeCells (Value.int IntKind.u8 0).cells (((n : Int) + (k : Int)).toNat * i0.size)).toList, ?_, ?_⟩
  · rw [Array.length_toList]
    have := size_madeCells (Value.int IntKind.u8 0).cells (((n : Int) + (k : Int)).toNat * i0.size)
    rw [this, hz1]; omega
  · rw [hr]; rw [show ((n : Int)).toNat = n by omega, show ((n : Int) + (k : Int)).toNat = n + k by omega]
theorem ob_of_splice {w : World} {B g m : Nat} {L : List (BitVec 8)} {cur : List Value} (hc : cur.length = L.length + m) (hm : L.length + m ≤ maxLen) (hb : w.heap[g]? = some (.cells (splice cur 0 (vbs L)).toArray 5 (0, 0))) (hB : B ≤ g := by omega) :
    OB w B (.slice (some ⟨g, 0, none⟩) L.length (L.length + m)) L := by
  refine ⟨by rw [vbs_len]; omega, .inr ⟨g, L.length + m, _, rfl, hB, hb, by omega, hm, ?_, ?_⟩⟩
  · simp [splice, vbs_len]; omega
  · simp [splice, vbs_len]
/-- What Put tells. -/
def PutPost (L : List (BitVec 8)) (k : Int) (n : Nat) (w : World) (e : Ending) (w' : World) : Prop :=
  Below w.heap.size w w' ∧ ((isW k = true ∧ n < 2 ^ (8 * k.toNat) → ∃ v, e = .returned (.tuple #[v, .int .i64 0]) ∧ OB w' w.heap.size v (L ++ les n k.toNat)) ∧
    (¬ (isW k = true ∧ n < 2 ^ (8 * k.toNat)) → e = .returned (.tuple #[.slice none 0 0, .int .i64 2])))
end Go.Proofs.YtnkkhmgplpkjbaaDoor
