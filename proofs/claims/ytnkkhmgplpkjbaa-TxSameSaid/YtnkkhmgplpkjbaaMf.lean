/- What tx.Same returns: whether two transactions are equal. -/
import Derived.Test.YtnkkhmgplpkjbaaMe
import Derived.Outline
namespace Go.Proofs.Ytnkkhmgplpkjbaa
open Go.RowKit
set_option linter.unusedVariables false
set_option linter.unusedSimpArgs false
set_option maxRecDepth 100000
theorem tx_eq (x y : TTx) : (decide (x.ver = y.ver) && decide (x.lock = y.lock) && decide (x.ins = y.ins) && decide (x.outs = y.outs)) = decide (x = y) := by
  obtain ⟨a, b, c, d⟩ := x
  obtain ⟨a', b', c', d'⟩ := y
  rw [Bool.eq_iff_iff]
  simp
  constructor
  · rintro ⟨⟨⟨h1, h2⟩, h3⟩, h4⟩; exact ⟨h1, h3, h4, h2⟩
  · rintro ⟨h1, h3, h4, h2⟩; exact ⟨⟨⟨h1, h2⟩, h3⟩, h4⟩
set_option maxHeartbeats 4000000 in
theorem same_any (x y : TTx) (i o i2 o2 : Value) (w : World) (h1 : TxOk w w.heap.size x i o) (h2 : TxOk w w.heap.size y i2 o2) : Calls Try.prog 14 #[txV x i o, txV y i2 o2] w (EqPost (decide (x = y)) w) := by
  rw [← tx_eq]
  obtain ⟨hi, ho, _, _⟩ := h1
  obtain ⟨hi2, ho2, _, _⟩ := h2
  have K30 : Hid (∀ wq, Below w.heap.size w wq → Calls Try.prog 30 #[i, i2, .func (.func 31) #[] #[]] wq (EqPost (decide (x.ins = y.ins)) wq)) := fun wq hq => eqf_ins i i2 _ _ wq ((hi.keep hq (Nat.le_refl _)).up hq.size) ((hi2.keep hq (Nat.le_refl _)).up hq.size)
  have K32 : Hid (∀ wq, Below w.heap.size w wq → Calls Try.prog 32 #[o, o2, .func (.func 33) #[] #[]] wq (EqPost (decide (x.outs = y.outs)) wq)) := fun wq hq => eqf_outs o o2 _ _ wq ((ho.keep hq (Nat.le_refl _)).up hq.size) ((ho2.keep hq (Nat.le_refl _)).up hq.size)
  obtain ⟨A1, c1, rfl, _⟩ := hi
  obtain ⟨A2, c2, rfl, _⟩ := ho
  obtain ⟨A3, c3, rfl, _⟩ := hi2
  obtain ⟨A4, c4, rfl, _⟩ := ho2
  unfold txV
  obtain ⟨n1, hn1⟩ : ∃ n, n = x.ins.length := ⟨_, rfl⟩
  obtain ⟨n2, hn2⟩ : ∃ n, n = x.outs.length := ⟨_, rfl⟩
  obtain ⟨n3, hn3⟩ : ∃ n, n = y.ins.length := ⟨_, rfl⟩
  obtain ⟨n4, hn4⟩ : ∃ n, n = y.outs.length := ⟨_, rfl⟩
  rw [← hn1, ← hn3] at K30
  rw [← hn2, ← hn4] at K32
  rw [← hn1, ← hn2, ← hn3, ← hn4]
  obtain ⟨b1, hb1⟩ : ∃ b, b = decide (x.ins = y.ins) := ⟨_, rfl⟩
  obtain ⟨b2, hb2⟩ : ∃ b, b = decide (x.outs = y.outs) := ⟨_, rfl⟩
  rw [← hb1] at K30 ⊢
  rw [← hb2] at K32 ⊢
  have HB : Hid (Below w.heap.size w ((w.alloc (.cells #[.int .u32 (x.ver : Int), .slice A1 n1 c1, .slice A2 n2 c2, .int .u32 (x.lock : Int)] 33)).alloc (.cells #[.int .u32 (y.ver : Int), .slice A3 n3 c3, .slice A4 n4 c4, .int .u32 (y.lock : Int)] 33))) := ((Below.refl w.heap.size w).alloc (Nat.le_refl _) _).alloc (by simp) _
  clear hn1 hn2 hn3 hn4 hb1 hb2
  by_cases hv : x.ver = y.ver
  · have e1 : ((x.ver : Int) == (y.ver : Int)) = true := by simp [hv]
    have d1 : decide (x.ver = y.ver) = true := by simpa using hv
    rw [d1]
    clear hv d1
    by_cases hk : x.lock = y.lock
    · have e2 : ((x.lock : Int) == (y.lock : Int)) = true := by simp [hk]
      have d2 : decide (x.lock = y.lock) = true := by simpa using hk
      rw [d2]
      clear hk d2
      cases b1 with
      | false =>
        go_enter Try.func14, Try.ntmps14
        go_wp2_with (go_at_call 30; (with_reducible refine (K30.out _ HB.out).mono ?_); rintro e w2 ⟨rfl, hb2⟩; dsimp only)
        go_ret
        exact ⟨by simp, HB.out.trans (hb2.mono HB.out.size)⟩
      | true =>
        go_enter Try.func14, Try.ntmps14
        go_wp2_with (first
          | (go_at_call 30; (with_reducible refine (K30.out _ HB.out).mono ?_); rintro e w2 ⟨rfl, hb2⟩; have HB2 : Hid (Below w.heap.size w w2) := HB.out.trans (hb2.mono HB.out.size); have d1 : w2.cell? ⟨w.heap.size, 2, none⟩ = some (.slice A2 n2 c2) := (by rw [hb2.cell (p := ⟨w.heap.size, 2, none⟩) (by simp; omega)]; exact cell_alloc _ (cell_new rfl rfl)); have d2 : w2.cell? ⟨w.heap.size + 1, 2, none⟩ = some (.slice A4 n4 c4) := (by rw [hb2.cell (p := ⟨w.heap.size + 1, 2, none⟩) (by simp)]; exact cell_new (by simp) rfl); clear hb2; dsimp only)
          | (go_at_call 32; (with_reducible refine (K32.out _ HB2.out).mono ?_); rintro e w3 ⟨rfl, hb3⟩; dsimp only))
        go_ret
        exact ⟨by simp, HB2.out.trans (hb3.mono HB2.out.size)⟩
    · have e2 : ((x.lock : Int) == (y.lock : Int)) = false := by simp; omega
      have d2 : decide (x.lock = y.lock) = false := by simpa using hk
      rw [d2]
      clear hk d2
      go_enter Try.func14, Try.ntmps14
      go_wp2_with fail
      go_ret
      exact ⟨by simp, HB.out⟩
  · have e1 : ((x.ver : Int) == (y.ver : Int)) = false := by simp; omega
    have d1 : decide (x.ver = y.ver) = false := by simpa using hv
    rw [d1]
    clear hv d1
    go_enter Try.func14, Try.ntmps14
    go_wp2_with fail
    go_ret
    exact ⟨by simp, HB.out⟩
end Go.Proofs.Ytnkkhmgplpkjbaa
