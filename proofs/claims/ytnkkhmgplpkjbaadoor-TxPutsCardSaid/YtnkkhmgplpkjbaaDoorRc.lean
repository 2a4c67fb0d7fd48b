/- What slices.Clone and cut return. -/
import Derived.Test.YtnkkhmgplpkjbaaDoorRb
import Derived.Outline
namespace Go.Proofs.YtnkkhmgplpkjbaaDoor
open Go.RowKit
set_option maxRecDepth 100000
set_option linter.unusedVariables false
set_option linter.unusedSimpArgs false
theorem clone_any (A : Option Addr) (L : List (BitVec 8)) (cap B : Nat) (w : World) (hR : Rd w B A L) (hB : B ≤ w.heap.size) (hc : A = none → cap = 0) (hl : L.length ≤ 140737488355328) :
    Calls Tryd.prog 46 #[.slice A L.length cap] w fun e w' => ∃ v, e = .returned v ∧ OB w' w.heap.size v L ∧ Below w.heap.size w w' := by
  cases A with
  | none =>
    have hL : L = [] := by
      cases L with
      | nil => rfl
      | cons x r => obtain ⟨b, o, e, _⟩ := hR (by simp); cases e
    subst hL
    obtain rfl := hc rfl
    show Calls Tryd.prog 46 #[.slice none 0 0] w _
    have hq := Lib.run_eql_slice_nil (P := Tryd.prog)
    go_enter Tryd.func46, Tryd.ntmps46
    go_wp2
    go_ret
    exact ⟨_, rfl, OB.nil _ _, Below.refl _ _⟩
  | some a =>
    have hq := Lib.run_eql_slice_nil (P := Tryd.prog)
    have HO := Lib.hid (show OB (w.alloc (Obj.cells #[] 5)) w.heap.size (.slice (some ⟨w.heap.size, 0, none⟩) 0 0) [] from owns_empty w w.heap.size (Nat.le_refl _))
    have hb0 : Below w.heap.size w (w.alloc (Obj.cells #[] 5)) := (Below.refl _ _).alloc (Nat.le_refl _) _
    have HS := Lib.hid (src_of_rd (hR.keep (hb0.mono hB)))
    have HL : Hid (([] : List (BitVec 8)).length + L.length ≤ 140737488355328) := by show ([] : List (BitVec 8)).length + L.length ≤ _; simp; omega
    have HB := Lib.hid (show w.heap.size ≤ (w.alloc (Obj.cells #[] 5)).heap.size by simp)
    have HB0 := Lib.hid hb0
    clear hR hc hl hb0 hB
    go_enter Tryd.func46, Tryd.ntmps46
    go_wp2_with (refine wpList_push (o := ⟨some 7, _, _, _, _, _⟩) rfl (.tmp 5) (.tmp 6) rfl rfl w.heap.size _ [] L rfl HO.out (some a) L.length cap rfl rfl HS.out (fun h => by cases h) HL.out HB0.out HB.out (Nat.le_refl _) ?_; intro v3 w3 ho3 hb3 hb3')
    go_ret
    exact ⟨_, rfl, ho3, hb3⟩
end Go.Proofs.YtnkkhmgplpkjbaaDoor
