/- The two tables of the row hold the constants that the walks ask for. -/
import Derived.Test.YtihbmahjdmfjpaaDoorXd
import Derived.Test.YtihbmahjdmfjpaaDoorQa
import Derived.Test.YtihbmahjdmfjpaaDoorRows
import Derived.ProofKit
import Derived.LaidMore
import Derived.OpenShut
import Derived.Stop.Joined
import Derived.ShutString
import Derived.ChangeOld
import Derived.Lib.LaidTab
import Derived.Stop.BytesEq
import Derived.Deep.RegionHeld3
namespace Go.Proofs.YtihbmahjdmfjpaaDoor
set_option maxRecDepth 100000
open Go.ChangeShapes Go.WideShapes Go.ChangeAt Go.RowKit
set_option linter.unusedVariables false
set_option linter.unusedSimpArgs false
def laidL : List (String × DataW Unit) := [("spinney/sha.initial", Rows.laid_spinney_sha_initial), ("spinney/sha.constants", Rows.laid_spinney_sha_constants)]
theorem gI : Tryd.prog.globalNamed "spinney/sha.initial" = some 0 := by kernel_rfl
theorem gK : Tryd.prog.globalNamed "spinney/sha.constants" = some 1 := by kernel_rfl
theorem tI : (Tryd.prog.globals[0]?).map (·.type) = some 88 := by kernel_rfl
theorem tK : (Tryd.prog.globals[1]?).map (·.type) = some 118 := by kernel_rfl
set_option maxRecDepth 100000 in
theorem dI : (Rows.laid_spinney_sha_initial : DataW Unit) = Lib.tabData .u32 [U ini.a, U ini.b, U ini.c, U ini.d, U ini.e, U ini.f, U ini.g, U ini.h] := by kernel_rfl
set_option maxRecDepth 100000 in
theorem dK : (Rows.laid_spinney_sha_constants : DataW Unit) = Lib.tabData .u32 (KK.map U) := by kernel_rfl
theorem door_met (os : Os) (args : Array Value) : laidMetH Tryd.prog laidL ((World.doorLaid Tryd.prog 400 os).forCall (fun _ _ => 0) ⟨#[], args, []⟩).memory :=
  laidMetH_of_parts3 (fuel := 8) (laidMet_of_run' 8 (by kernel_rfl) (by kernel_rfl)) (by kernel_rfl) (by kernel_rfl)
theorem glob_of_laid {W : World} (h : laidMetH Tryd.prog laidL W) : Glob W := by
  rw [MakeChecks.laidMetH_plain _ _ _ (by kernel_rfl)] at h
  obtain ⟨ps, ⟨g0, t0, cs0, f0, p0, q0, hg0, ht0, hv0, hd0, ⟨g1, t1, cs1, f1, p1, q1, hg1, ht1, hv1, hd1, _, _⟩, _⟩, _, _⟩ := h
  obtain rfl := Option.some.inj (gI.symm.trans hg0)
  obtain rfl := Option.some.inj (gK.symm.trans hg1)
  obtain rfl := Option.some.inj (tI.symm.trans ht0)
  obtain rfl := Option.some.inj (tK.symm.trans ht1)
  rw [dI] at hd0
  rw [dK] at hd1
  have e0 := Lib.cells_of_tab Tryd.underlying88 Tryd.underlying40 (by kernel_rfl) (by kernel_rfl) hd0
  have e1 := Lib.cells_of_tab Tryd.underlying118 Tryd.underlying40 (by kernel_rfl) (by kernel_rfl) hd1
  refine ⟨fun j v hv => ?_, fun i hi => ?_⟩
  · have := World.var?_cell hg0 hv0 j
    rw [Nat.zero_add, this, ← Array.getElem?_toList, e0]
    exact hv
  · have := World.var?_cell hg1 hv1 i
    rw [this, ← Array.getElem?_toList, e1]
    have hl : i < KK.length := hi
    simp [List.getD, hl]
open Go.ChangeShapes Go.WideShapes Go.ChangeAt Go.RowKit
set_option linter.unusedVariables false
set_option linter.unusedSimpArgs false
theorem eql_same (X : List (BitVec 8)) (hX : X.length = 32) (w : World) : (binOp .eql 25 (.agg (vbs X).toArray) (.agg (vbs X).toArray)).run Tryd.prog w = .ok (.bool true) w := by
  have e : vbs X = (X.map UInt8.ofBitVec).map Extern.Stop.cell := by simp [vbs, Extern.Stop.cell, Bt]
  have := run_eql_bytes (P := Tryd.prog) w 25 5 32 Tryd.underlying25 Tryd.underlying5 size5 (X.map UInt8.ofBitVec) (X.map UInt8.ofBitVec) (by simpa using hX) (by simpa using hX)
  rw [← e] at this
  rw [this]
  simp
end Go.Proofs.YtihbmahjdmfjpaaDoor
