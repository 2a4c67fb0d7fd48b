/- Thirty-two noughts; what stays of the other blocks where a row of cells is set. -/
import Derived.Test.YtihbmahjdmfjpaaDoorKb
import Derived.Outline
namespace Go.Proofs.YtihbmahjdmfjpaaDoor
open Go.RowKit
set_option maxRecDepth 100000
set_option linter.unusedVariables false
set_option linter.unusedSimpArgs false
def Z32 : List (BitVec 8) := List.replicate 32 0
theorem splice_all (Z R : List Value) (h : R.length = Z.length) : splice Z 0 R = R := by simp [splice, h]
theorem heap_setCells (b : Nat) : ∀ (us : List Value) (o k : Nat) {w : World}, k ≠ b → (w.setCells b o us).heap[k]? = w.heap[k]?
  | [], _, _, _, _ => rfl
  | u :: us, o, k, w, h => by
    show ((w.setCell ⟨b, o, none⟩ u).setCells b (o + 1) us).heap[k]? = _
    rw [heap_setCells b us (o + 1) k h, Below.heap_setCell _ _ _ _ h]
theorem setCells_same (b : Nat) : ∀ (us : List Value) (o : Nat) (w : World), (w.setCells b o us).os = w.os ∧ (w.setCells b o us).tape = w.tape ∧ (w.setCells b o us).output = w.output ∧ (w.setCells b o us).heap.size = w.heap.size
  | [], _, _ => ⟨rfl, rfl, rfl, rfl⟩
  | u :: us, o, w => by
    obtain ⟨h1, h2, h3, h4⟩ := setCells_same b us (o + 1) (w.setCell ⟨b, o, none⟩ u)
    exact ⟨h1, h2, h3, by show ((w.setCell ⟨b, o, none⟩ u).setCells b (o + 1) us).heap.size = _; rw [h4]; simp [World.setCell]⟩
end Go.Proofs.YtihbmahjdmfjpaaDoor
