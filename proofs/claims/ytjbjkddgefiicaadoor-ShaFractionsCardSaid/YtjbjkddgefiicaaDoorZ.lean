/- A slice of bytes that came in reads as a list of bytes; two equal arrays of 32 bytes are told equal. -/
import Derived.Test.YtjbjkddgefiicaaDoorY
import Derived.Deep.RegionHeld3
namespace Go.Proofs.YtjbjkddgefiicaaDoor
open Go.ChangeShapes Go.WideShapes Go.ChangeAt Go.RowKit
set_option linter.unusedVariables false
set_option linter.unusedSimpArgs false
/-- A slice of bytes that came in: nil, or a row of cells. -/
def IsRow (w : World) (a : Option Addr) (len cap : Nat) (zs : List Int) : Prop :=
  (a = none ∧ len = 0 ∧ cap = 0 ∧ zs = []) ∨
  ∃ x, a = some x ∧ len ≤ cap ∧ cap ≤ maxLen ∧ zs.length = cap ∧ (∀ i, i < zs.length → w.cell? (x.add i) = some (.int .u8 (zs.getD i 0))) ∧ ∀ n ∈ zs, (Lit.int .u8 n).wf = true
theorem byte_of {z : Int} (h : (Lit.int .u8 z).wf = true) : Bt (BitVec.ofInt 8 z) = z := by
  have hb : 0 ≤ z ∧ z ≤ 255 := by
    have := h
    simp [Lit.wf, IntKind.min, IntKind.max, IntKind.signed, IntKind.bits] at this
    omega
  unfold Bt
  rw [BitVec.toNat_ofInt]
  omega
theorem rd_of_row {w : World} {a : Option Addr} {len cap : Nat} {zs : List Int} (h : IsRow w a len cap zs) : ∃ R : List (BitVec 8), R.length = len ∧ Rd w w.heap.size a R ∧ len ≤ cap ∧ cap ≤ 9223372036854775807 := by
  rcases h with ⟨rfl, rfl, rfl, rfl⟩ | ⟨x, rfl, hl, hm, hz, hc, hw⟩
  · exact ⟨[], rfl, fun h => by simp at h, Nat.le_refl _, by omega⟩
  · unfold maxLen at hm
    refine ⟨(zs.take len).map (BitVec.ofInt 8), by simp; omega, fun hp => ?_, hl, by omega⟩
    have hp' : 0 < len := by simp at hp; omega
    have h0 := hc 0 (by omega)
    obtain ⟨b, o, sp⟩ := x
    have hsp : sp = none := by
      cases sp with
      | none => rfl
      | some q =>
        exfalso
        have e : (⟨b, o, some q⟩ : Addr).add 0 = ⟨b, o, some q⟩ := by unfold Addr.add; simp
        rw [e] at h0
        unfold World.cell? at h0
        revert h0
        cases w.heap[b]? with
        | none => simp
        | some ob => cases ob <;> simp
    subst hsp
    refine ⟨b, o, rfl, ?_, fun j hj => ?_⟩
    · have e : (⟨b, o, none⟩ : Addr).add 0 = ⟨b, o + 0, none⟩ := Addr.add_mid b o 0
      rw [e] at h0
      exact World.block_lt_of_cell? w _ h0
    · have hj' : j < len := by simp at hj; omega
      have hjz : j < zs.length := by omega
      have h1 := hc j hjz
      rw [Addr.add_mid] at h1
      rw [h1]
      have hz2 : zs.getD j 0 = zs[j] := by simp [List.getD, hjz]
      have hw2 := byte_of (hw zs[j] (List.getElem_mem hjz))
      rw [hz2]
      simp [List.getD, List.getElem?_take, hj', hjz, hw2]
theorem eql_same (X : List (BitVec 8)) (hX : X.length = 32) (w : World) : (binOp .eql 25 (.agg (vbs X).toArray) (.agg (vbs X).toArray)).run Tryd.prog w = .ok (.bool true) w := by
  have e : vbs X = (X.map UInt8.ofBitVec).map Extern.Stop.cell := by simp [vbs, Extern.Stop.cell, Bt]
  have := run_eql_bytes (P := Tryd.prog) w 25 5 32 Tryd.underlying25 Tryd.underlying5 size5 (X.map UInt8.ofBitVec) (X.map UInt8.ofBitVec) (by simpa using hX) (by simpa using hX)
  rw [← e] at this
  rw [this]
  simp
end Go.Proofs.YtjbjkddgefiicaaDoor
