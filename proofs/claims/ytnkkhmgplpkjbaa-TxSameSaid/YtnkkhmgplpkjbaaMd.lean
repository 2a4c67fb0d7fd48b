/- What tx.sameIn and sameOut return: whether two inputs, two outputs are equal. -/
import Derived.Test.YtnkkhmgplpkjbaaMc
import Derived.Outline
namespace Go.Proofs.Ytnkkhmgplpkjbaa
open Go.RowKit
set_option linter.unusedVariables false
set_option linter.unusedSimpArgs false
set_option maxRecDepth 100000
set_option maxHeartbeats 4000000 in
theorem sameIn_any (x y : TIn) (s u s2 u2 : Value) (w : World) (h1 : InOk w w.heap.size x s u) (h2 : InOk w w.heap.size y s2 u2) :
    Calls Try.prog 31 #[.agg (inV x s u).toArray, .agg (inV y s2 u2).toArray] w (EqPost (decide (x.tx = y.tx) && decide (x.ix = y.ix) && decide (x.sq = y.sq) && decide (x.sc = y.sc) && decide (x.wt = y.wt)) w) := by
  obtain ⟨hs, hu, hl, _, _⟩ := h1
  obtain ⟨hs2, hu2, hl2, _, _⟩ := h2
  obtain ⟨e32, e33, e34, e35⟩ := inV_at (x := x) (s := s) (v := u) hl
  obtain ⟨k32, k33, k34, k35⟩ := inV_at (x := y) (s := s2) (v := u2) hl2
  have hb1 : Below w.heap.size w (w.alloc (.cells (inV x s u).toArray 60)) := (Below.refl _ _).alloc (Nat.le_refl _) _
  have hB2 : Below w.heap.size w ((w.alloc (.cells (inV x s u).toArray 60)).alloc (.cells (inV y s2 u2).toArray 60)) := hb1.alloc hb1.size _
  have hBx : Blk ((w.alloc (.cells (inV x s u).toArray 60)).alloc (.cells (inV y s2 u2).toArray 60)) w.heap.size 60 (inV x s u) := by
    have := (Blk.new w 60 (inV x s u).toArray).alloc (.cells (inV y s2 u2).toArray 60)
    rwa [List.toList_toArray] at this
  have hBy : Blk ((w.alloc (.cells (inV x s u).toArray 60)).alloc (.cells (inV y s2 u2).toArray 60)) (w.heap.size + 1) 60 (inV y s2 u2) := by
    have := Blk.new (w.alloc (.cells (inV x s u).toArray 60)) 60 (inV y s2 u2).toArray
    rw [List.toList_toArray, show (w.alloc (.cells (inV x s u).toArray 60)).heap.size = w.heap.size + 1 by simp] at this
    exact this
  have K45 : Hid (∀ wq, Below w.heap.size w wq → Calls Try.prog 45 #[s, s2] wq (EqPost (decide (x.sc = y.sc)) wq)) := fun wq hq => sameText_any s s2 _ _ wq ((hs.keep hq (Nat.le_refl _)).up hq.size) ((hs2.keep hq (Nat.le_refl _)).up hq.size)
  have K46 : Hid (∀ wq, Below w.heap.size w wq → Calls Try.prog 46 #[u, u2, .func (.func 45) #[] #[]] wq (EqPost (decide (x.wt = y.wt)) wq)) := fun wq hq => eqf_texts u u2 _ _ wq ((hu.keep hq (Nat.le_refl _)).up hq.size) ((hu2.keep hq (Nat.le_refl _)).up hq.size)
  obtain ⟨As, cs, rfl, _⟩ := hs
  obtain ⟨As2, cs2, rfl, _⟩ := hs2
  obtain ⟨Au, cu, rfl, _⟩ := hu
  obtain ⟨Au2, cu2, rfl, _⟩ := hu2
  have HRx := Lib.hid hBx.prev
  have HRy := Lib.hid hBy.prev
  have HIx := Lib.hid (info57 (a := x.ix) hl)
  have HIy := Lib.hid (info57 (a := y.ix) hl2)
  have hq57 := eql57 x.tx y.tx x.ix y.ix hl hl2
  have cx33 := hBx.cell e33
  have cx34 := hBx.cell e34
  have cx35 := hBx.cell e35
  have cy33 := hBy.cell k33
  have cy34 := hBy.cell k34
  have cy35 := hBy.cell k35
  have HB := Lib.hid hB2
  generalize inV x (.slice As x.sc.length cs) (.slice Au x.wt.length cu) = CX at *
  generalize inV y (.slice As2 y.sc.length cs2) (.slice Au2 y.wt.length cu2) = CY at *
  obtain ⟨l1, hl1⟩ : ∃ n, n = x.sc.length := ⟨_, rfl⟩
  obtain ⟨l2, hl22⟩ : ∃ n, n = y.sc.length := ⟨_, rfl⟩
  obtain ⟨m1, hm1⟩ : ∃ n, n = x.wt.length := ⟨_, rfl⟩
  obtain ⟨m2, hm2⟩ : ∃ n, n = y.wt.length := ⟨_, rfl⟩
  rw [← hl1] at cx33 K45
  rw [← hl22] at cy33 K45
  rw [← hm1] at cx35 K46
  rw [← hm2] at cy35 K46
  obtain ⟨px, hpx⟩ : ∃ p, p = prevV x.tx x.ix := ⟨_, rfl⟩
  obtain ⟨py, hpy⟩ : ∃ p, p = prevV y.tx y.ix := ⟨_, rfl⟩
  rw [← hpx] at HRx HIx hq57
  rw [← hpy] at HRy HIy hq57
  obtain ⟨b1, hb1'⟩ : ∃ b, b = (decide (x.tx = y.tx) && decide (x.ix = y.ix)) := ⟨_, rfl⟩
  obtain ⟨b3, hb3⟩ : ∃ b, b = decide (x.sc = y.sc) := ⟨_, rfl⟩
  obtain ⟨b4, hb4⟩ : ∃ b, b = decide (x.wt = y.wt) := ⟨_, rfl⟩
  rw [← hb1', ← hb3, ← hb4]
  rw [← hb1'] at hq57
  rw [← hb3] at K45
  rw [← hb4] at K46
  clear e32 e33 e34 e35 k32 k33 k34 k35 hb1 hB2 hBx hBy hl1 hl22 hm1 hm2 hpx hpy hb1' hb3 hb4 hl hl2
  cases b1 with
  | false =>
    go_enter Try.func31, Try.ntmps31
    go_wp2_with (first
      | (with_reducible refine wpList_load_mid rfl 57 (.tmp 5) rfl w.heap.size 0 rfl px _ HRx.out Try.underlying57 rfl HIx.out ?_)
      | (with_reducible refine wpList_load_mid rfl 57 (.tmp 7) rfl (w.heap.size + 1) 0 rfl py _ HRy.out Try.underlying57 rfl HIy.out ?_))
    go_ret
    exact ⟨by simp, HB.out⟩
  | true =>
    by_cases hsq : x.sq = y.sq
    · have e2 : ((x.sq : Int) == (y.sq : Int)) = true := by simp [hsq]
      have d2 : decide (x.sq = y.sq) = true := by simpa using hsq
      rw [d2]
      clear hsq d2
      cases b3 with
      | false =>
        go_enter Try.func31, Try.ntmps31
        go_wp2_with (first
          | (with_reducible refine wpList_load_mid rfl 57 (.tmp 5) rfl w.heap.size 0 rfl px _ HRx.out Try.underlying57 rfl HIx.out ?_)
          | (with_reducible refine wpList_load_mid rfl 57 (.tmp 7) rfl (w.heap.size + 1) 0 rfl py _ HRy.out Try.underlying57 rfl HIy.out ?_)
          | (go_at_call 45; (with_reducible refine (K45.out _ HB.out).mono ?_); rintro e w2 ⟨rfl, hb2⟩; dsimp only))
        go_ret
        exact ⟨by simp, HB.out.trans (hb2.mono HB.out.size)⟩
      | true =>
        go_enter Try.func31, Try.ntmps31
        go_wp2_with (first
          | (with_reducible refine wpList_load_mid rfl 57 (.tmp 5) rfl w.heap.size 0 rfl px _ HRx.out Try.underlying57 rfl HIx.out ?_)
          | (with_reducible refine wpList_load_mid rfl 57 (.tmp 7) rfl (w.heap.size + 1) 0 rfl py _ HRy.out Try.underlying57 rfl HIy.out ?_)
          | (go_at_call 45; (with_reducible refine (K45.out _ HB.out).mono ?_); rintro e w2 ⟨rfl, hb2⟩; have HB2 : Hid (Below w.heap.size w w2) := HB.out.trans (hb2.mono HB.out.size); have dx := (hb2.cell (p := ⟨w.heap.size, 35, none⟩) (World.block_lt_of_cell? _ _ cx35)).trans cx35; have dy := (hb2.cell (p := ⟨w.heap.size + 1, 35, none⟩) (World.block_lt_of_cell? _ _ cy35)).trans cy35; clear hb2; dsimp only)
          | (go_at_call 46; (with_reducible refine (K46.out _ HB2.out).mono ?_); rintro e w3 ⟨rfl, hb3⟩; dsimp only))
        go_ret
        exact ⟨by simp, HB2.out.trans (hb3.mono HB2.out.size)⟩
    · have e2 : ((x.sq : Int) == (y.sq : Int)) = false := by simp; omega
      have d2 : decide (x.sq = y.sq) = false := by simpa using hsq
      rw [d2]
      clear hsq d2
      go_enter Try.func31, Try.ntmps31
      go_wp2_with (first
        | (with_reducible refine wpList_load_mid rfl 57 (.tmp 5) rfl w.heap.size 0 rfl px _ HRx.out Try.underlying57 rfl HIx.out ?_)
        | (with_reducible refine wpList_load_mid rfl 57 (.tmp 7) rfl (w.heap.size + 1) 0 rfl py _ HRy.out Try.underlying57 rfl HIy.out ?_))
      go_ret
      exact ⟨by simp, HB.out⟩
end Go.Proofs.Ytnkkhmgplpkjbaa
