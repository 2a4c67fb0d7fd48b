/- The document's own Same of two transactions. -/
import Derived.Test.YtnkkhmgplpkjbaaMh
import Derived.Outline
namespace Go.Proofs.Ytnkkhmgplpkjbaa
open Go.RowKit
set_option linter.unusedVariables false
set_option linter.unusedSimpArgs false
set_option maxRecDepth 100000
set_option maxHeartbeats 4000000 in
theorem rsame_off (A1 A2 A3 A4 : Option Addr) (n1 n2 n3 n4 c1 c2 c3 c4 : Nat) (V1 V2 L1 L2 : Int) (w : World) (h : ¬ (V1 = V2 ∧ L1 = L2 ∧ n1 = n3 ∧ n2 = n4)) :
    Calls Try.prog 10 #[.agg #[.int .u32 V1, .slice A1 n1 c1, .slice A2 n2 c2, .int .u32 L1], .agg #[.int .u32 V2, .slice A3 n3 c3, .slice A4 n4 c4, .int .u32 L2]] w (EqPost false w) := by
  have HB : Hid (Below w.heap.size w ((w.alloc (.cells #[.int .u32 V1, .slice A1 n1 c1, .slice A2 n2 c2, .int .u32 L1] 33)).alloc (.cells #[.int .u32 V2, .slice A3 n3 c3, .slice A4 n4 c4, .int .u32 L2] 33))) := ((Below.refl w.heap.size w).alloc (Nat.le_refl _) _).alloc (by simp) _
  by_cases hv : V1 = V2
  · by_cases hl : L1 = L2
    · by_cases hn : n1 = n3
      · have hm : n2 ≠ n4 := fun e => h ⟨hv, hl, hn, e⟩
        have e1 : (V1 != V2) = false := by simp [hv]
        have e2 : (L1 != L2) = false := by simp [hl]
        have e3 : ((n1 : Int) != (n3 : Int)) = false := by simp; omega
        have e4 : ((n2 : Int) != (n4 : Int)) = true := by simp; omega
        clear h hm hv hl hn
        go_enter Try.func10, Try.ntmps10
        go_wp2_with fail
        go_ret
        exact ⟨rfl, HB.out⟩
      · have e1 : (V1 != V2) = false := by simp [hv]
        have e2 : (L1 != L2) = false := by simp [hl]
        have e3 : ((n1 : Int) != (n3 : Int)) = true := by simp; omega
        clear h hv hl hn
        go_enter Try.func10, Try.ntmps10
        go_wp2_with fail
        go_ret
        exact ⟨rfl, HB.out⟩
    · have e1 : (V1 != V2) = false := by simp [hv]
      have e2 : (L1 != L2) = true := by simpa using hl
      clear h hv hl
      go_enter Try.func10, Try.ntmps10
      go_wp2_with fail
      go_ret
      exact ⟨rfl, HB.out⟩
  · have e1 : (V1 != V2) = true := by simpa using hv
    clear h hv
    go_enter Try.func10, Try.ntmps10
    go_wp2_with fail
    go_ret
    exact ⟨rfl, HB.out⟩
theorem rsame_tx (x y : TTx) (i o i2 o2 : Value) (w : World) (h1 : TxOk w w.heap.size x i o) (h2 : TxOk w w.heap.size y i2 o2) : Calls Try.prog 10 #[txV x i o, txV y i2 o2] w (EqPost (decide (x = y)) w) := by
  obtain ⟨hi, ho, _, _⟩ := h1
  obtain ⟨hi2, ho2, _, _⟩ := h2
  have hi' := hi
  have ho' := ho
  have hi2' := hi2
  have ho2' := ho2
  obtain ⟨A1, c1, rfl, l1, m1, _⟩ := hi'
  obtain ⟨A2, c2, rfl, l2, m2, _⟩ := ho'
  obtain ⟨A3, c3, rfl, _⟩ := hi2'
  obtain ⟨A4, c4, rfl, _⟩ := ho2'
  unfold txV
  by_cases h : x.ver = y.ver ∧ x.lock = y.lock ∧ x.ins.length = y.ins.length ∧ x.outs.length = y.outs.length
  · obtain ⟨hv, hl, hn, hm⟩ := h
    have := rsame_main x.ins y.ins x.outs y.outs A1 A2 A3 A4 x.ins.length x.outs.length c1 c2 c3 c4 (x.ver : Int) (y.ver : Int) (x.lock : Int) (y.lock : Int) w (by rw [hv]) (by rw [hl]) hi ho (hn ▸ hi2) (hm ▸ ho2) rfl rfl hn hm (by omega) (by omega)
    rw [← tx_eq, ← hn, ← hm]
    rw [show decide (x.ver = y.ver) = true by simpa using hv, show decide (x.lock = y.lock) = true by simpa using hl]
    simpa using this
  · have e : decide (x = y) = false := by
      rw [decide_eq_false_iff_not]
      rintro rfl
      exact h ⟨rfl, rfl, rfl, rfl⟩
    rw [e]
    exact rsame_off _ _ _ _ _ _ _ _ _ _ _ _ _ _ _ _ w (fun h' => h ⟨by have := h'.1; omega, by have := h'.2.1; omega, h'.2.2.1, h'.2.2.2⟩)
end Go.Proofs.Ytnkkhmgplpkjbaa
