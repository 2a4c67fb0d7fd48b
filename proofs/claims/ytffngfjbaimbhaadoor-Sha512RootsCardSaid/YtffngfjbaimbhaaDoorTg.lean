/- What the document's own K, First, Digest and Sum return. -/
import Derived.Test.YtffngfjbaimbhaaDoorTf
import Derived.Test.YtffngfjbaimbhaaDoorTd
import Derived.Outline
namespace Go.Proofs.YtffngfjbaimbhaaDoor
open Go.RowKit
set_option linter.unusedVariables false
set_option linter.unusedSimpArgs false
set_option maxRecDepth 100000
/-- A slice of numbers that a call made. -/
def MadeV (M : List (BitVec 64)) (w : World) (e : Ending) (w' : World) : Prop :=
  ∃ g cap, e = .returned (.slice (some ⟨g, 0, none⟩) M.length cap) ∧ RdV w' w'.heap.size (some ⟨g, 0, none⟩) M ∧ M.length ≤ cap ∧ Below w.heap.size w w'
theorem made_new (w : World) (M : List (BitVec 64)) (C : Array Value) (n : Nat) (hC : C = (vws M).toArray) (hn : n = M.length) :
    MadeV M w (.returned (.slice (some ⟨w.heap.size, 0, none⟩) n n)) (w.alloc (.cells C 37)) := by
  subst hC hn
  exact ⟨w.heap.size, M.length, rfl, fun hp => ⟨w.heap.size, 0, rfl, by simp, fun j hj => by
    rw [Nat.zero_add]; exact cell_new rfl (by simpa using vws_at hj)⟩, Nat.le_refl _, (Below.refl _ _).alloc (Nat.le_refl _) _⟩
def isKK (M : List (BitVec 64)) : Prop := M = KK
set_option maxHeartbeats 8000000 in
theorem K_gen (w : World) (M : List (BitVec 64)) (hM : isKK M) : Calls Tryd.prog 14 #[] w (MadeV M w) := by
  have HM := Lib.hid hM
  clear hM
  go_enter Tryd.func14, Tryd.ntmps14
  go_wp2
  go_ret
  have hm : M = KK := HM.out
  exact made_new w M _ 80 (by rw [hm]; kernel_rfl) (by rw [hm]; kernel_rfl)
theorem K_any (w : World) : Calls Tryd.prog 14 #[] w (MadeV KK w) := K_gen w KK rfl
theorem first_any (w : World) : Calls Tryd.prog 15 #[] w (MadeV (stl ini) w) := by
  go_enter Tryd.func15, Tryd.ntmps15
  go_wp2
  go_ret
  exact made_new w (stl ini) _ 8 (by kernel_rfl) rfl
end Go.Proofs.YtffngfjbaimbhaaDoor
