/- The two tables of the row hold the constants that the walks ask for. -/
import Derived.Test.YtffngfjbaimbhaaDoorSl
import Derived.Test.YtffngfjbaimbhaaDoorSk
import Derived.Test.YtffngfjbaimbhaaDoorRows
import Derived.ProofKit
import Derived.LaidMore
import Derived.OpenShut
import Derived.Stop.Joined
import Derived.ShutString
import Derived.ChangeOld
import Derived.Lib.LaidTab
import Derived.Stop.BytesEq
namespace Go.Proofs.YtffngfjbaimbhaaDoor
open Go.ChangeShapes Go.WideShapes Go.ChangeAt Go.RowKit
set_option linter.unusedVariables false
set_option linter.unusedSimpArgs false
def laidL : List (String × DataW Unit) := [("spinney/sha512.initial", Rows.laid_spinney_sha512_initial), ("spinney/sha512.constants", Rows.laid_spinney_sha512_constants)]
theorem own : ownKnob Tryd.prog.godebug = none := by kernel_rfl
theorem laidOut : laidOutB Tryd.prog = true := by kernel_rfl
theorem gI : Tryd.prog.globalNamed "spinney/sha512.initial" = some 0 := by kernel_rfl
theorem gK : Tryd.prog.globalNamed "spinney/sha512.constants" = some 1 := by kernel_rfl
theorem tI : (Tryd.prog.globals[0]?).map (·.type) = some 38 := by kernel_rfl
theorem tK : (Tryd.prog.globals[1]?).map (·.type) = some 55 := by kernel_rfl
set_option maxRecDepth 100000 in
theorem dI : (Rows.laid_spinney_sha512_initial : DataW Unit) = Lib.tabData .u64 [V ini.a, V ini.b, V ini.c, V ini.d, V ini.e, V ini.f, V ini.g, V ini.h] := by kernel_rfl
set_option maxRecDepth 100000 in
theorem dK : (Rows.laid_spinney_sha512_constants : DataW Unit) = Lib.tabData .u64 (KK.map V) := by kernel_rfl
theorem door_met (os : Os) (args : Array Value) : laidMetH Tryd.prog laidL ((World.doorLaid Tryd.prog 400 os).forCall (fun _ _ => 0) ⟨#[], args, []⟩).memory :=
  laidMetH_of_parts3 (fuel := 8) (laidMet_of_run' 8 (by kernel_rfl) (by kernel_rfl)) (by kernel_rfl) (by kernel_rfl)
theorem glob_of_laid {W : World} (h : laidMetH Tryd.prog laidL W) : Glob W := by
  rw [MakeChecks.laidMetH_plain _ _ _ (by kernel_rfl)] at h
  obtain ⟨ps, ⟨g0, t0, cs0, f0, p0, q0, hg0, ht0, hv0, hd0, ⟨g1, t1, cs1, f1, p1, q1, hg1, ht1, hv1, hd1, _, _⟩, _⟩, _, _⟩ := h
  obtain rfl := Option.some.inj (gI.symm.trans hg0)
  obtain rfl := Option.some.inj (gK.symm.trans hg1)
  obtain rfl := Option.some.inj (tI.symm.trans ht0)
  obtain rfl := Option.some.inj (tK.symm.trans ht1)
  rw [dI] at hd0
  rw [dK] at hd1
  have e0 := Lib.cells_of_tab Tryd.underlying38 Tryd.underlying37 (by kernel_rfl) (by kernel_rfl) hd0
  have e1 := Lib.cells_of_tab Tryd.underlying55 Tryd.underlying37 (by kernel_rfl) (by kernel_rfl) hd1
  refine ⟨fun j v hv => ?_, fun i hi => ?_⟩
  · have := World.var?_cell hg0 hv0 j
    rw [Nat.zero_add, this, ← Array.getElem?_toList, e0]
    exact hv
  · have := World.var?_cell hg1 hv1 i
    rw [this, ← Array.getElem?_toList, e1]
    have hl : i < KK.length := hi
    simp [List.getD, hl]
end Go.Proofs.YtffngfjbaimbhaaDoor
