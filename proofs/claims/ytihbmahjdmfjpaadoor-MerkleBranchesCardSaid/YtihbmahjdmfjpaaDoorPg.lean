/- A claim that came in, with its two numbers. -/
import Derived.Test.YtihbmahjdmfjpaaDoorHc
namespace Go.Proofs.YtihbmahjdmfjpaaDoor
open Go.RowKit
set_option linter.unusedVariables false
set_option linter.unusedSimpArgs false
set_option maxRecDepth 100000
open Go.ChangeShapes Go.WideShapes Go.ChangeAt Go.RowKit Go.Deep
section
variable {H : Type} {enc : TypeId × Value → H} {W : World} {base : Nat} {held : Bool}
theorem int_of {fuel : Nat} {cs : List Value} {x : DataW H × List MemPlace} (h : DataW.trod enc Tryd.prog W base (fun _ => true) held fuel 3 cs = some x) : ∃ n : Int, (-9223372036854775808 ≤ n ∧ n ≤ 9223372036854775807) ∧ cs = [.int .i64 n] := by
  obtain ⟨n, e, _, hwf⟩ := DataW.trod_int Tryd.underlying3 h
  have hb : -9223372036854775808 ≤ n ∧ n ≤ 9223372036854775807 := by
    have := hwf
    simp [Lit.wf, IntKind.min, IntKind.max, IntKind.signed, IntKind.bits] at this
    omega
  exact ⟨n, hb, e⟩
theorem claim_of2 {fuel : Nat} {cs : List Value} {x : DataW H × List MemPlace} (h : DataW.trod enc Tryd.prog W base (fun _ => true) held fuel 35 cs = some x) : ∃ X p q B bn bc BR, X.length = 32 ∧ (-9223372036854775808 ≤ p ∧ p ≤ 9223372036854775807) ∧ (-9223372036854775808 ≤ q ∧ q ≤ 9223372036854775807) ∧ LIn W B bn bc BR ∧ cs = cCl X (.int .i64 p) (.int .i64 q) B bn bc := by
  have hl : cs.length = 35 := by
    obtain ⟨xs, n, _, _, hlen, _⟩ := DataW.trod_struct Tryd.underlying35 h
    rw [hlen]; kernel_rfl
  obtain ⟨n1, y1, h1⟩ := field_of Tryd.underlying35 h 0 _ rfl
  obtain ⟨n2, y2, h2⟩ := field_of Tryd.underlying35 h 3 _ rfl
  obtain ⟨n3, y3, h3⟩ := field_of Tryd.underlying35 h 1 _ rfl
  obtain ⟨n4, y4, h4⟩ := field_of Tryd.underlying35 h 2 _ rfl
  obtain ⟨X, hX, e1⟩ := hash_of h1
  obtain ⟨B, bn, bc, BR, e2, hr, hz⟩ := hs_of h2
  obtain ⟨p, hp, e3⟩ := int_of h3
  obtain ⟨q, hq, e4⟩ := int_of h4
  have c1 : Tryd.prog.cellsOf 25 = 32 := by kernel_rfl
  have c2 : Tryd.prog.cellsOf 22 = 1 := by kernel_rfl
  have c3 : Tryd.prog.cellsOf 3 = 1 := by kernel_rfl
  have e1' : cs.take 32 = vbs X := by rw [← e1]; simp [c1]
  have e2' : cs.drop 34 = [.slice B bn bc] := by rw [← e2]; simp [c2, List.take_of_length_le, hl]
  have e3' : (cs.drop 32).take 1 = [.int .i64 p] := by rw [← e3]; simp [c3]
  have e4' : (cs.drop 33).take 1 = [.int .i64 q] := by rw [← e4]; simp [c3]
  refine ⟨X, p, q, B, bn, bc, BR, hX, hp, hq, ⟨hr, hz⟩, ?_⟩
  unfold cCl
  rw [← e1']
  have e5 : cs.drop 32 = (cs.drop 32).take 1 ++ ((cs.drop 33).take 1 ++ cs.drop 34) := by
    rw [show cs.drop 34 = (cs.drop 33).drop 1 by rw [List.drop_drop], List.take_append_drop, show cs.drop 33 = (cs.drop 32).drop 1 by rw [List.drop_drop], List.take_append_drop]
  rw [e2', e3', e4'] at e5
  show cs = List.take 32 cs ++ ([Value.int .i64 p] ++ ([Value.int .i64 q] ++ [.slice B bn bc]))
  rw [← e5, List.take_append_drop]
end
end Go.Proofs.YtihbmahjdmfjpaaDoor
