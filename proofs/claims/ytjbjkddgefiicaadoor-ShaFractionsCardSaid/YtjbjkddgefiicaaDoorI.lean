/- What strings.IndexByte returns over the sixteen digits: the digit's value, or -1. -/
import Derived.Test.YtjbjkddgefiicaaDoorT
import Derived.Lib.Bytealg
import Derived.Laws.Externs
namespace Go.Proofs.YtjbjkddgefiicaaDoor
open Go.RowKit
set_option linter.unusedVariables false
set_option linter.unusedSimpArgs false
/-- The value of a digit, or -1. -/
def dval (c : BitVec 8) : Int := Lib.indexByte [48, 49, 50, 51, 52, 53, 54, 55, 56, 57, 97, 98, 99, 100, 101, 102] (Bt c).toNat.toUInt8
theorem dval_bd (c : BitVec 8) : -1 ≤ dval c ∧ dval c ≤ 15 := by
  have h : ∀ k : Fin 256, -1 ≤ dval (BitVec.ofFin k) ∧ dval (BitVec.ofFin k) ≤ 15 := by decide +kernel
  exact h c.toFin
theorem ibs (c : BitVec 8) (w : World) : (callFunc 45 #[.string { data := #[48, 49, 50, 51, 52, 53, 54, 55, 56, 57, 97, 98, 99, 100, 101, 102] }, .int .u8 (Bt c)]).run Tryd.prog w = .ok (.value (.int .i64 (dval c))) w := by
  rw [run_callFunc_extern Tryd.func45 (by kernel_rfl) (by kernel_rfl) (by kernel_rfl) (e := Extern.BytealgIndexByte.indexByte) (by kernel_rfl), Lib.run_indexByteString]
  rfl
set_option maxHeartbeats 400000 in
theorem ib_any (c : BitVec 8) (w : World) :
    Calls Tryd.prog 30 #[.string { data := #[48, 49, 50, 51, 52, 53, 54, 55, 56, 57, 97, 98, 99, 100, 101, 102] }, .int .u8 (Bt c)] w fun e w' => e = .returned (.int .i64 (dval c)) ∧ w = w' := by
  have h := ibs c w
  go_enter Tryd.func30, Tryd.ntmps30
  go_wp2
  go_ret
  exact ⟨rfl, rfl⟩
/-- Byte i of a text. -/
def chr (s : ByteArray) (i : Nat) : BitVec 8 := (bytesL s).getD i 0
  where bytesL (s : ByteArray) : List (BitVec 8) := s.data.toList.map UInt8.toBitVec
end Go.Proofs.YtjbjkddgefiicaaDoor
