/- The acts of the laws, opened: a slice of pairs of numbers reads cell by cell. -/
import Derived.Test.YtnnceicjooahmaaTa
import Derived.Deep.SlicePairs
import Derived.ProofKit
import Derived.OpenShut
namespace Go.Proofs.Ytnnceicjooahmaa
open Go.ChangeShapes Go.WideShapes Go.Deep Go.RowKit
set_option linter.unusedVariables false
set_option linter.unusedSimpArgs false
theorem cell_mid {w : World} {a : Addr} {v : Value} (h : w.cell? a = some v) : a = ⟨a.block, a.off, none⟩ := by
  obtain ⟨b, o, sp⟩ := a
  cases sp with
  | none => rfl
  | some q =>
    exfalso
    unfold World.cell? at h
    revert h
    cases w.heap[b]? with
    | none => simp
    | some ob => cases ob <;> simp
def numOf : Value → Int | .int _ q => q | _ => 0
theorem acts_of {H : Type} {enc : TypeId × Value → H} {W : World} {base : Nat} {spare : Nat → Bool} {held : Bool} {a : Option Addr} {len cap : Nat} {d : DataW H} {p : List MemPlace} (h : DataW.Trod enc Try.prog W base spare held 31 (.slice a len cap) d p) :
    ∃ M : List (Int × Int), M.length = len ∧ Acts W W.heap.size a M := by
  obtain ⟨fuel, hf⟩ := h
  rcases open_slice_pairs Try.underlying31 Try.underlying38 (by kernel_rfl) rfl rfl (by kernel_rfl) (by kernel_rfl) hf with ⟨hcs, _⟩ | ⟨x, l, c, m, n, V0, V1, D0, D1, P0, P1, hcs, _, hl, hm, hmm, _, hi⟩
  · simp [Value.cells] at hcs
    obtain ⟨rfl, rfl, rfl⟩ := hcs
    exact ⟨[], rfl, fun hp => by simp at hp⟩
  · simp [Value.cells] at hcs
    obtain ⟨rfl, rfl, rfl⟩ := hcs
    have hlm : len ≤ m := by rw [hmm]; split <;> omega
    have hc : ∀ i, i < len → W.cell? (x.add (i * 2)) = some (.int .i64 (numOf (V0 i))) ∧ W.cell? (x.add (i * 2 + 1)) = some (.int .i64 (numOf (V1 i))) := fun i hlt => by
      obtain ⟨h0, h1, t0, t1⟩ := hi i (by omega)
      obtain ⟨u, hu, _⟩ := DataW.trod_int (k := .i64) (by kernel_rfl) t0
      obtain ⟨v, hv, _⟩ := DataW.trod_int (k := .i64) (by kernel_rfl) t1
      simp at hu hv
      rw [hu] at h0 ⊢
      rw [hv] at h1 ⊢
      exact ⟨h0, h1⟩
    refine ⟨(List.range len).map fun i => (numOf (V0 i), numOf (V1 i)), by simp, fun hp => ?_⟩
    have h0 : 0 < len := by simpa using hp
    obtain ⟨hc0, _⟩ := hc 0 h0
    obtain ⟨b, o, sp⟩ := x
    have e0 : (⟨b, o, sp⟩ : Addr).add (0 * 2) = ⟨b, o, sp⟩ := by unfold Addr.add; simp
    rw [e0] at hc0
    have hsp : sp = none := by have := cell_mid hc0; injection this
    subst hsp
    refine ⟨b, o, rfl, World.block_lt_of_cell? W _ hc0, fun i hlt => ?_⟩
    have hlt' : i < len := by simpa using hlt
    have hs := hc i hlt'
    rw [Addr.add_mid, Addr.add_mid] at hs
    simp only [List.getD, List.getElem?_map, List.getElem?_range hlt', Option.map_some, Option.getD_some]
    exact ⟨hs.1, by rw [Nat.add_assoc]; exact hs.2⟩
end Go.Proofs.Ytnnceicjooahmaa
