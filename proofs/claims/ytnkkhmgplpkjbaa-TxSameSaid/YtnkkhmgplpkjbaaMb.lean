/- What slices.EqualFunc over lists of byte strings returns. -/
import Derived.Test.YtnkkhmgplpkjbaaMa
import Derived.Test.YtnkkhmgplpkjbaaLk
import Derived.Outline
namespace Go.Proofs.Ytnkkhmgplpkjbaa
open Go.RowKit
set_option linter.unusedVariables false
set_option linter.unusedSimpArgs false
set_option maxRecDepth 100000
set_option maxHeartbeats 4000000 in
theorem eqf_texts (v u : Value) (xs ys : List (List (BitVec 8))) (w : World) (h1 : Ws w w.heap.size v xs) (h2 : Ws w w.heap.size u ys) :
    Calls Try.prog 46 #[v, u, .func (.func 45) #[] #[]] w (EqPost (decide (xs = ys)) w) := by
  obtain ⟨A, c, b, o, rfl, hA, hr⟩ := Row.open h1
  obtain ⟨A2, c2, b2, o2, rfl, hA2, hr2⟩ := Row.open h2
  obtain ⟨_, _, e1, hm1, hm2, _⟩ := h1
  cases e1
  have HR := Lib.hid hr
  have HR2 := Lib.hid hr2
  have HA := Lib.hid hA
  have HA2 := Lib.hid hA2
  obtain ⟨lx, hlx⟩ : ∃ n, n = xs.length := ⟨_, rfl⟩
  obtain ⟨ly, hly⟩ : ∃ n, n = ys.length := ⟨_, rfl⟩
  have Hlx := Lib.hid hlx
  have Hly := Lib.hid hly
  have hlm : lx ≤ 9223372036854775807 := by omega
  have Hb0 := Lib.hid (Below.refl w.heap.size w)
  rw [← hlx, ← hly]
  clear hr hr2 hA hA2 hm1 hm2 h2
  by_cases hl : lx = ly
  · have hly2 : ly = ys.length := hly
    clear hly
    subst hl
    clear hlx hly2
    go_enter Try.func46, Try.ntmps46
    go_wp2_with fail
    go_loopw [17] (fun iv wq => ∃ i : Nat, i ≤ lx ∧ iv = .int .i64 (i : Int) ∧ xs.take i = ys.take i ∧ Below w.heap.size w wq) (fun iv _ => lx - (intOf iv).toNat)
    case atStart => exact ⟨0, Nat.zero_le _, rfl, rfl, Hb0.out⟩
    case round =>
      obtain ⟨i, hi, rfl, he, hb⟩ := hrel
      have HE := Lib.hid he
      clear he
      by_cases hlt : i < lx
      · have hlt' : (i : Int) < (lx : Int) := by omega
        obtain rfl := HA.out (by rw [← Hlx.out]; omega)
        obtain rfl := HA2.out (by rw [← Hly.out]; omega)
        obtain ⟨hbl, z1, cu, hs⟩ := HR.out i (by rw [← Hlx.out]; exact hlt)
        obtain ⟨hbl2, z2, cu2, hs2⟩ := HR2.out i (by rw [← Hly.out]; exact hlt)
        have hst := take_eq_succ xs ys [] i (by rw [← Hlx.out]; exact hlt) (by rw [← Hly.out]; exact hlt) HE.out
        have hne := ne_at xs ys [] i
        rw [Nat.mul_one] at cu cu2
        have c0 : wr.cell? ⟨b, o + i, none⟩ = some z1 := by rw [hb.cell (p := ⟨b, o + i, none⟩) hbl]; exact cu
        have c1 : wr.cell? ⟨b2, o2 + i, none⟩ = some z2 := by rw [hb.cell (p := ⟨b2, o2 + i, none⟩) hbl2]; exact cu2
        have hs1 := (hs.keep hb (Nat.le_refl _)).up hb.size
        have hs21 := (hs2.keep hb (Nat.le_refl _)).up hb.size
        generalize xs.getD i [] = x at hs hs1 hst hne
        generalize ys.getD i [] = y at hs2 hs21 hst hne
        have Hb := Lib.hid hb
        have KK : Hid (∀ wq, Below wr.heap.size wr wq → Calls Try.prog 45 #[z1, z2] wq (EqPost (decide (x = y)) wq)) := fun wq hq => sameText_any z1 z2 x y wq ((hs1.keep hq (Nat.le_refl _)).up hq.size) ((hs21.keep hq (Nat.le_refl _)).up hq.size)
        obtain ⟨Ax, cx, rfl, _⟩ := hs1
        obtain ⟨Ay, cy, rfl, _⟩ := hs21
        have K := KK
        by_cases hxy : x = y
        · have HT := Lib.hid (hst.2 hxy)
          rw [show decide (x = y) = true by simpa using hxy] at K
          clear hst hne hxy hbl hbl2 hb cu cu2 hs hs2
          go_wp2_with (go_at_call 45; (with_reducible refine (K.out _ (Below.refl _ _)).mono ?_); rintro e w2 ⟨rfl, hb2⟩; dsimp only)
          go_roundw
          case rel => exact ⟨i + 1, by omega, by go_num, HT.out, Hb.out.trans (hb2.mono Hb.out.size)⟩
          case measure => simp [intOf]; omega
        · have HT : Hid (decide (xs = ys) = false) := show decide (xs = ys) = false by simpa using hne hxy
          rw [show decide (x = y) = false by simpa using hxy] at K
          clear hst hne hxy hbl hbl2 hb cu cu2 hs hs2
          go_wp2_with (go_at_call 45; (with_reducible refine (K.out _ (Below.refl _ _)).mono ?_); rintro e w2 ⟨rfl, hb2⟩; dsimp only)
          go_ret
          exact ⟨by rw [HT.out]; rfl, Hb.out.trans (hb2.mono Hb.out.size)⟩
      · obtain rfl : i = lx := by omega
        have hlt' : ¬ (i : Int) < (i : Int) := by omega
        have HT : Hid (decide (xs = ys) = true) := show decide (xs = ys) = true by
          have := HE.out
          rw [List.take_of_length_le (by rw [← Hlx.out]; exact Nat.le_refl _), List.take_of_length_le (by rw [← Hly.out]; exact Nat.le_refl _)] at this
          simpa using this
        go_wp2_with fail
        go_ret
        exact ⟨by rw [HT.out]; rfl, hb⟩
  · have e1 : ((lx : Int) != (ly : Int)) = true := by simp; omega
    have HT : Hid (decide (xs = ys) = false) := show decide (xs = ys) = false by
      have : xs ≠ ys := fun e => hl (by rw [hlx, hly, e])
      simpa using this
    clear hl hlx hly
    go_enter Try.func46, Try.ntmps46
    go_wp2_with fail
    go_ret
    exact ⟨by rw [HT.out]; rfl, Hb0.out⟩
end Go.Proofs.Ytnkkhmgplpkjbaa
