/- A claim that came in, as a value of its type. -/
import Derived.Test.YtihbmahjdmfjpaaDoorHb
import Derived.Test.YtihbmahjdmfjpaaDoorFl
namespace Go.Proofs.YtihbmahjdmfjpaaDoor
open Go.RowKit
set_option linter.unusedVariables false
set_option linter.unusedSimpArgs false
set_option maxRecDepth 100000
open Go.ChangeShapes Go.WideShapes Go.ChangeAt Go.RowKit Go.Deep
section
variable {H : Type} {enc : TypeId × Value → H} {W : World} {base : Nat} {held : Bool}
theorem field_of {fuel : Nat} {t : TypeId} {cs : List Value} {x : DataW H × List MemPlace} {fs : Array Field} (ht : Tryd.prog.underlying t = some (.struct fs)) (h : DataW.trod enc Tryd.prog W base (fun _ => true) held fuel t cs = some x) (i : Nat) (f : Field) (hf : fs[i]? = some f) :
    ∃ n y, DataW.trod enc Tryd.prog W base (fun _ => true) held n f.type ((cs.drop f.offset).take (Tryd.prog.cellsOf f.type)) = some y := by
  obtain ⟨xs, n, _, _, hlen, hxl, hi⟩ := DataW.trod_struct ht h
  have hk := hi i f hf
  have hx : xs[i]? = some (xs[i]'(by have := (Array.getElem?_eq_some_iff.1 hf).1; omega)) := List.getElem?_eq_getElem _
  rw [hx] at hk
  exact ⟨n, _, hk⟩
theorem claim_of {fuel : Nat} {cs : List Value} {x : DataW H × List MemPlace} (h : DataW.trod enc Tryd.prog W base (fun _ => true) held fuel 35 cs = some x) : ∃ X ca cb B bn bc BR, X.length = 32 ∧ LIn W B bn bc BR ∧ cs = cCl X ca cb B bn bc := by
  have hl : cs.length = 35 := by
    obtain ⟨xs, n, _, _, hlen, _⟩ := DataW.trod_struct Tryd.underlying35 h
    rw [hlen]; kernel_rfl
  obtain ⟨n1, y1, h1⟩ := field_of Tryd.underlying35 h 0 _ rfl
  obtain ⟨n2, y2, h2⟩ := field_of Tryd.underlying35 h 3 _ rfl
  obtain ⟨X, hX, e1⟩ := hash_of h1
  obtain ⟨B, bn, bc, BR, e2, hr, hz⟩ := hs_of h2
  have c1 : Tryd.prog.cellsOf 25 = 32 := by kernel_rfl
  have c2 : Tryd.prog.cellsOf 22 = 1 := by kernel_rfl
  have e1' : cs.take 32 = vbs X := by rw [← e1]; simp [c1]
  have e2' : cs.drop 34 = [.slice B bn bc] := by rw [← e2]; simp [c2, List.take_of_length_le, hl]
  refine ⟨X, cs.getD 32 undef, cs.getD 33 undef, B, bn, bc, BR, hX, ⟨hr, hz⟩, ?_⟩
  unfold cCl
  rw [← e1']
  have e3 : cs.drop 32 = cs.getD 32 undef :: cs.drop 33 := by
    rw [List.drop_eq_getElem_cons (by omega)]; simp [List.getD, hl]
  have e4 : cs.drop 33 = cs.getD 33 undef :: cs.drop 34 := by
    rw [List.drop_eq_getElem_cons (by omega)]; simp [List.getD, hl]
  rw [e2'] at e4
  rw [e4] at e3
  rw [← e3, List.take_append_drop]
end
end Go.Proofs.YtihbmahjdmfjpaaDoor
