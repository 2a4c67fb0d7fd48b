/- What slices.Equal over bytes, sameText, and the document's own same return: whether two byte strings are equal. -/
import Derived.Test.YtnkkhmgplpkjbaaLg
import Derived.Outline
namespace Go.Proofs.Ytnkkhmgplpkjbaa
open Go.RowKit
set_option linter.unusedVariables false
set_option linter.unusedSimpArgs false
set_option maxRecDepth 100000
theorem below_dN {B : Nat} {w w' : World} (h : Below B w w') (k : Nat) : Below B w (w'.drewN k) := ⟨h.os, h.tape, h.output, h.size, h.block⟩
theorem Bt_inj {x y : BitVec 8} : Bt x = Bt y ↔ x = y := by
  unfold Bt
  rw [Int.ofNat_inj, BitVec.toNat_inj]
theorem take_eq_succ {α : Type} (X Y : List α) (d : α) (i : Nat) (hx : i < X.length) (hy : i < Y.length) (h : X.take i = Y.take i) : (X.take (i + 1) = Y.take (i + 1)) ↔ X.getD i d = Y.getD i d := by
  have e1 : X.getD i d = X[i] := by simp [List.getD, hx]
  have e2 : Y.getD i d = Y[i] := by simp [List.getD, hy]
  rw [List.take_succ_eq_append_getElem hx, List.take_succ_eq_append_getElem hy, h, e1, e2]
  constructor
  · intro hh
    have := List.append_cancel_left hh
    simpa using this
  · intro hh
    rw [hh]
theorem ne_at {α : Type} (X Y : List α) (d : α) (i : Nat) (h : X.getD i d ≠ Y.getD i d) : X ≠ Y := fun e => h (by rw [e])
/-- What an equality of two things tells. -/
def EqPost (b : Bool) (w : World) (e : Ending) (w' : World) : Prop := e = .returned (.bool b) ∧ Below w.heap.size w w'
set_option maxHeartbeats 4000000 in
theorem equal_any (v u : Value) (X Y : List (BitVec 8)) (w : World) (h1 : Sl w w.heap.size v X) (h2 : Sl w w.heap.size u Y) : Calls Try.prog 68 #[v, u] w (EqPost (decide (X = Y)) w) := by
  obtain ⟨A, c, rfl, hr, hc, hm, hn⟩ := h1
  obtain ⟨A2, c2, rfl, hr2, hc2, hm2, hn2⟩ := h2
  have HR := Lib.hid hr
  have HR2 := Lib.hid hr2
  obtain ⟨lx, hlx⟩ : ∃ n, n = X.length := ⟨_, rfl⟩
  obtain ⟨ly, hly⟩ : ∃ n, n = Y.length := ⟨_, rfl⟩
  have Hlx := Lib.hid hlx
  have Hly := Lib.hid hly
  have hlm : lx ≤ 9223372036854775807 := by omega
  have Hb0 := Lib.hid (Below.refl w.heap.size w)
  rw [← hlx, ← hly]
  clear hr hr2 hc hm hn hc2 hm2 hn2
  by_cases hl : lx = ly
  · have hly2 : ly = Y.length := hly
    clear hly
    subst hl
    clear hlx hly2
    go_enter Try.func68, Try.ntmps68
    go_wp2_with fail
    go_loopw [13] (fun iv wq => ∃ i : Nat, i ≤ lx ∧ iv = .int .i64 (i : Int) ∧ X.take i = Y.take i ∧ Below w.heap.size w wq) (fun iv _ => lx - (intOf iv).toNat)
    case atStart => exact ⟨0, Nat.zero_le _, rfl, rfl, Hb0.out⟩
    case round =>
      obtain ⟨i, hi, rfl, he, hb⟩ := hrel
      have HE := Lib.hid he
      clear he
      by_cases hlt : i < lx
      · have hlt' : (i : Int) < (lx : Int) := by omega
        obtain ⟨b, o, rfl, hbl, hcl⟩ := HR.out (by rw [← Hlx.out]; omega)
        obtain ⟨b2, o2, rfl, hbl2, hcl2⟩ := HR2.out (by rw [← Hly.out]; omega)
        have hst := take_eq_succ X Y 0 i (by rw [← Hlx.out]; exact hlt) (by rw [← Hly.out]; exact hlt) HE.out
        have hne := ne_at X Y 0 i
        have c0 : wr.cell? ⟨b, o + i, none⟩ = some (.int .u8 (Bt (X.getD i 0))) := by rw [hb.cell (p := ⟨b, o + i, none⟩) hbl]; exact hcl i (by rw [← Hlx.out]; exact hlt)
        have c1 : wr.cell? ⟨b2, o2 + i, none⟩ = some (.int .u8 (Bt (Y.getD i 0))) := by rw [hb.cell (p := ⟨b2, o2 + i, none⟩) hbl2]; exact hcl2 i (by rw [← Hly.out]; exact hlt)
        generalize X.getD i 0 = x at c0 hst hne
        generalize Y.getD i 0 = y at c1 hst hne
        have Hb := Lib.hid hb
        by_cases hxy : x = y
        · have HT := Lib.hid (hst.2 hxy)
          have e1 : (Bt x != Bt y) = false := by rw [hxy]; simp
          clear hst hne hxy hcl hcl2 hbl hbl2 hb
          go_wp2_with fail
          go_quiet (fail)
          go_wp2_with fail
          go_roundw
          case rel => exact ⟨i + 1, by omega, by go_num, HT.out, below_dN Hb.out _⟩
          case measure => simp [intOf]; omega
        · have HT : Hid (decide (X = Y) = false) := show decide (X = Y) = false by simpa using hne hxy
          have e1 : (Bt x != Bt y) = true := by simpa [Bt_inj] using hxy
          clear hst hne hxy hcl hcl2 hbl hbl2 hb
          go_wp2_with fail
          go_quiet (fail)
          go_wp2_with fail
          go_ret
          exact ⟨by rw [HT.out]; rfl, below_dN Hb.out _⟩
      · obtain rfl : i = lx := by omega
        have hlt' : ¬ (i : Int) < (i : Int) := by omega
        have HT : Hid (decide (X = Y) = true) := show decide (X = Y) = true by
          have := HE.out
          rw [List.take_of_length_le (by rw [← Hlx.out]; exact Nat.le_refl _), List.take_of_length_le (by rw [← Hly.out]; exact Nat.le_refl _)] at this
          simpa using this
        go_wp2_with fail
        go_ret
        exact ⟨by rw [HT.out]; rfl, hb⟩
  · have e1 : ((lx : Int) != (ly : Int)) = true := by simp; omega
    have HT : Hid (decide (X = Y) = false) := show decide (X = Y) = false by
      have : X ≠ Y := fun e => hl (by rw [hlx, hly, e])
      simpa using this
    clear hl hlx hly
    go_enter Try.func68, Try.ntmps68
    go_wp2_with fail
    go_ret
    exact ⟨by rw [HT.out]; rfl, Hb0.out⟩
theorem sameText_any (v u : Value) (X Y : List (BitVec 8)) (w : World) (h1 : Sl w w.heap.size v X) (h2 : Sl w w.heap.size u Y) : Calls Try.prog 45 #[v, u] w (EqPost (decide (X = Y)) w) := by
  have K := Lib.hid (equal_any v u X Y w h1 h2)
  clear h1 h2
  go_enter Try.func45, Try.ntmps45
  go_wp2_with (go_at_call 68; (with_reducible refine K.out.mono ?_); rintro e w2 ⟨rfl, hb⟩; dsimp only)
  go_ret
  exact ⟨rfl, hb⟩
end Go.Proofs.Ytnkkhmgplpkjbaa
