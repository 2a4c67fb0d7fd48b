/- The document's own Take for whatever number; its Peek; its Value. -/
import Derived.Test.YtefiacnpbkancaaDoorVb
import Derived.Outline
namespace Go.Proofs.YtefiacnpbkancaaDoor
open Go.RowKit
set_option maxRecDepth 100000
set_option linter.unusedVariables false
set_option linter.unusedSimpArgs false
theorem stQ_yes {X : List (BitVec 8)} {a : Nat} {gone : Bool} {n : Int} (ha : a ≤ X.length) (h : hasB (stQ X a gone) n = true) : gone = false ∧ ∃ k : Nat, n = k ∧ a + k ≤ X.length ∧ takeL (stQ X a gone) n = (X.drop a).take k ∧ cutS (stQ X a gone) n = some (X.drop (a + k)) := by
  cases gone with
  | true => cases h
  | false =>
    have h' : hasB (some (X.drop a)) n = true := h
    have hb := h'
    rw [show some (X.drop a) = stQ X a false from rfl, stQ_has X a ha] at hb
    have hb' : 0 ≤ n ∧ n ≤ (X.length : Int) - a := by simpa using hb
    refine ⟨rfl, n.toNat, by omega, by omega, (cut_yes h').1, ?_⟩
    have := (cut_yes h').2.1
    show cutS (some (X.drop a)) n = _
    rw [this, List.drop_drop]
/-- What the document's Peek tells. -/
def RNewPost (L : List (BitVec 8)) (w : World) (e : Ending) (w' : World) : Prop := ∃ v, e = .returned v ∧ OB w' w.heap.size v L ∧ Below w.heap.size w w'
theorem lev_drop (X : List (BitVec 8)) (k : Nat) (hk : k < X.length) : lev (X.drop k) = (X.getD k 0).toNat + 256 * lev (X.drop (k + 1)) := by
  rw [List.drop_eq_getElem_cons hk]
  simp [lev, List.getD, hk]
theorem lev_small (X : List (BitVec 8)) (k : Nat) (h8 : X.length ≤ 8) : lev (X.drop k) < 18446744073709551616 := by
  have h := lev_lt (X.drop k)
  have : 2 ^ (8 * (X.drop k).length) ≤ 2 ^ 64 := Nat.pow_le_pow_right (by omega) (by rw [List.length_drop]; omega)
  omega
theorem value_any (A : Option Addr) (X : List (BitVec 8)) (cap B : Nat) (w : World) (hR : Rd w B A X) (h8 : X.length ≤ 8) :
    Calls Tryd.prog 36 #[.slice A X.length cap] w fun e w' => e = .returned (.int .u64 (lev X)) ∧ w = w' := by
  obtain ⟨m, hm⟩ : ∃ m, m = X.length := ⟨_, rfl⟩
  have Hm := Lib.hid hm
  have hm8 : m ≤ 8 := by omega
  have HR := Lib.hid hR
  have H8 := Lib.hid h8
  rw [← hm]
  clear hm hR h8
  go_enter Tryd.func36, Tryd.ntmps36
  go_wp2
  go_loop [3, 4] (fun x i => ∃ j : Nat, j ≤ m ∧ i = .int .i64 ((j : Int) - 1) ∧ x = .int .u64 (lev (X.drop j))) (fun _ i => (intOf i + 1).toNat)
  case atStart => exact ⟨m, Nat.le_refl _, rfl, by rw [Hm.out, List.drop_length]; rfl⟩
  case round =>
    obtain ⟨j, hj, rfl, rfl⟩ := hrel
    by_cases h0 : 0 < j
    · obtain ⟨i, rfl⟩ : ∃ i, j = i + 1 := ⟨j - 1, by omega⟩
      obtain ⟨b, o, rfl, _, hc⟩ := HR.out (by have := Hm.out; omega)
      have c0 := hc i (by have := Hm.out; omega)
      have e1 := lev_drop X i (by have := Hm.out; omega)
      have b1 := lev_small X i H8.out
      have e0 : (((i + 1 : Nat) : Int) - 1) = (i : Int) := by omega
      rw [e0]
      obtain ⟨y, hy⟩ : ∃ y, y = X.getD i 0 := ⟨_, rfl⟩
      obtain ⟨u, hu⟩ : ∃ u, u = lev (X.drop (i + 1)) := ⟨_, rfl⟩
      obtain ⟨v, hv⟩ : ∃ v, v = lev (X.drop i) := ⟨_, rfl⟩
      rw [← hy] at c0 e1
      rw [← hu, ← hv] at e1
      rw [← hv] at b1
      rw [← hu]
      have Hv := Lib.hid hv
      have HE := Lib.hid e1
      have hyb := y.isLt
      have HY : Hid (Bt y = (y.toNat : Int)) := rfl
      have Hb1 := Lib.hid b1
      have hu2 : (256 * (u : Int)) < 18446744073709551616 := by omega
      have hu0 : (0 : Int) ≤ 256 * (u : Int) := by omega
      clear hc hy hu hv e1 e0 b1
      go_wp2
      go_round
      case rel => exact ⟨i, by omega, rfl, by rw [← Hv.out, HE.out]; refine congrArg _ ?_; rw [show IntKind.u64.wrap (Bt y) = Bt y by rw [IntKind.wrap_u64]; unfold Bt; omega, IntKind.wrap_u64, HY.out]; have := Hb1.out; have := HE.out; omega⟩
      case measure => simp [intOf]
    · obtain rfl : j = 0 := by omega
      go_wp2
      go_ret
      exact ⟨rfl, rfl⟩
end Go.Proofs.YtefiacnpbkancaaDoor
