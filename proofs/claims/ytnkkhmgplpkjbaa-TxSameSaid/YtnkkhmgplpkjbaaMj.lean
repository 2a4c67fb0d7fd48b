/- TxSame's walk: what tx.Same says is what the document's own Same says. -/
import Derived.Test.YtnkkhmgplpkjbaaMi
import Derived.Test.YtnkkhmgplpkjbaaLp
import Derived.Outline
namespace Go.Proofs.Ytnkkhmgplpkjbaa
open Go.RowKit
set_option linter.unusedVariables false
set_option linter.unusedSimpArgs false
set_option maxRecDepth 100000
set_option maxHeartbeats 8000000 in
theorem txsame_any (x y : TTx) (i o i2 o2 : Value) (w : World) (h1 : TxOk w w.heap.size x i o) (h2 : TxOk w w.heap.size y i2 o2) : Calls Try.prog 4 #[txV x i o, txV y i2 o2] w (AwPost w) := by
  have K14 : Hid (∀ wq, Below w.heap.size w wq → Calls Try.prog 14 #[txV x i o, txV y i2 o2] wq (EqPost (decide (x = y)) wq)) := fun wq hq => same_any x y i o i2 o2 wq ((h1.keep hq (Nat.le_refl _)).up hq.size) ((h2.keep hq (Nat.le_refl _)).up hq.size)
  have K14r : Hid (∀ wq, Below w.heap.size w wq → Calls Try.prog 14 #[txV x i o, txV x i o] wq (EqPost true wq)) := fun wq hq => by
    have := same_any x x i o i o wq ((h1.keep hq (Nat.le_refl _)).up hq.size) ((h1.keep hq (Nat.le_refl _)).up hq.size)
    rwa [show decide (x = x) = true by simp] at this
  have K10 : Hid (∀ wq, Below w.heap.size w wq → Calls Try.prog 10 #[txV x i o, txV y i2 o2] wq (EqPost (decide (x = y)) wq)) := fun wq hq => rsame_tx x y i o i2 o2 wq ((h1.keep hq (Nat.le_refl _)).up hq.size) ((h2.keep hq (Nat.le_refl _)).up hq.size)
  have K13 : Hid (∀ wq, Below w.heap.size w wq → Calls Try.prog 13 #[txV x i o] wq (SomePost wq)) := fun wq hq => by
    obtain ⟨hi, ho, _, _⟩ := h1
    have hi' := hi
    have ho' := ho
    obtain ⟨A1, c1, rfl, _⟩ := hi'
    obtain ⟨A2, c2, rfl, _⟩ := ho'
    exact large_at x.ins x.outs A1 A2 c1 c2 _ _ _ _ wq rfl rfl ((hi.keep hq (Nat.le_refl _)).up hq.size) ((ho.keep hq (Nat.le_refl _)).up hq.size)
  have K13y : Hid (∀ wq, Below w.heap.size w wq → Calls Try.prog 13 #[txV y i2 o2] wq (SomePost wq)) := fun wq hq => by
    obtain ⟨hi, ho, _, _⟩ := h2
    have hi' := hi
    have ho' := ho
    obtain ⟨A1, c1, rfl, _⟩ := hi'
    obtain ⟨A2, c2, rfl, _⟩ := ho'
    exact large_at y.ins y.outs A1 A2 c1 c2 _ _ _ _ wq rfl rfl ((hi.keep hq (Nat.le_refl _)).up hq.size) ((ho.keep hq (Nat.le_refl _)).up hq.size)
  have K6 : Hid (∀ wq, Calls Try.prog 6 #[] wq (AwPost wq)) := awake_any
  obtain ⟨⟨A1, c1, rfl, _⟩, ⟨A2, c2, rfl, _⟩, _, _⟩ := h1
  obtain ⟨⟨A3, c3, rfl, _⟩, ⟨A4, c4, rfl, _⟩, _, _⟩ := h2
  obtain ⟨n1, hn1⟩ : ∃ n, n = x.ins.length := ⟨_, rfl⟩
  obtain ⟨n2, hn2⟩ : ∃ n, n = x.outs.length := ⟨_, rfl⟩
  obtain ⟨n3, hn3⟩ : ∃ n, n = y.ins.length := ⟨_, rfl⟩
  obtain ⟨n4, hn4⟩ : ∃ n, n = y.outs.length := ⟨_, rfl⟩
  rw [← hn1, ← hn2] at K14r K13
  rw [← hn3, ← hn4] at K13y
  rw [← hn1, ← hn2, ← hn3, ← hn4] at K14 K10 ⊢
  clear hn1 hn2 hn3 hn4
  obtain ⟨X, hX⟩ : ∃ X : List Value, X = [.int .u32 (x.ver : Int), .slice A1 n1 c1, .slice A2 n2 c2, .int .u32 (x.lock : Int)] := ⟨_, rfl⟩
  obtain ⟨Y, hY⟩ : ∃ Y : List Value, Y = [.int .u32 (y.ver : Int), .slice A3 n3 c3, .slice A4 n4 c4, .int .u32 (y.lock : Int)] := ⟨_, rfl⟩
  have eX : txV x (.slice A1 n1 c1) (.slice A2 n2 c2) = .agg X.toArray := by rw [hX]; rfl
  have eY : txV y (.slice A3 n3 c3) (.slice A4 n4 c4) = .agg Y.toArray := by rw [hY]; rfl
  have nX : X.length = 4 := by rw [hX]; rfl
  have nY : Y.length = 4 := by rw [hY]; rfl
  rw [eX, eY] at K14 K10
  rw [eX] at K14r K13
  unfold txV at K13y
  clear eX eY
  unfold txV
  obtain ⟨w1, hw1⟩ : ∃ w1, w1 = (w.alloc (.cells #[.int .u32 (x.ver : Int), .slice A1 n1 c1, .slice A2 n2 c2, .int .u32 (x.lock : Int)] 33)).alloc (.cells #[.int .u32 (y.ver : Int), .slice A3 n3 c3, .slice A4 n4 c4, .int .u32 (y.lock : Int)] 33) := ⟨_, rfl⟩
  have hb1 : Below w.heap.size w w1 := by rw [hw1]; exact ((Below.refl w.heap.size w).alloc (Nat.le_refl _) _).alloc (by simp) _
  have rX : w1.rangeAt w.heap.size 0 X := by
    have := (Blk.new w 33 #[.int .u32 (x.ver : Int), .slice A1 n1 c1, .slice A2 n2 c2, .int .u32 (x.lock : Int)]).alloc (.cells #[.int .u32 (y.ver : Int), .slice A3 n3 c3, .slice A4 n4 c4, .int .u32 (y.lock : Int)] 33)
    rw [← hw1] at this
    rw [hX]
    exact this.range
  have rY : w1.rangeAt (w.heap.size + 1) 0 Y := by
    have := Blk.new (w.alloc (.cells #[.int .u32 (x.ver : Int), .slice A1 n1 c1, .slice A2 n2 c2, .int .u32 (x.lock : Int)] 33)) 33 #[.int .u32 (y.ver : Int), .slice A3 n3 c3, .slice A4 n4 c4, .int .u32 (y.lock : Int)]
    rw [← hw1] at this
    rw [show (w.alloc (.cells #[.int .u32 (x.ver : Int), .slice A1 n1 c1, .slice A2 n2 c2, .int .u32 (x.lock : Int)] 33)).heap.size = w.heap.size + 1 by simp] at this
    rw [hY]
    exact this.range
  have hsz : w.heap.size + 1 < w1.heap.size := by rw [hw1]; simp
  have IX : Hid ((Try.prog.info? 33).map (·.size) = some X.length) := show _ = _ by rw [nX]; kernel_rfl
  have IY : Hid ((Try.prog.info? 33).map (·.size) = some Y.length) := show _ = _ by rw [nY]; kernel_rfl
  have RX : Hid (∀ wq, SB w1 wq → wq.rangeAt w.heap.size 0 X) := fun wq hq => hq.range rX (by omega)
  have RY : Hid (∀ wq, SB w1 wq → wq.rangeAt (w.heap.size + 1) 0 Y) := fun wq hq => hq.range rY (by omega)
  have CY : Hid (∀ wq, SB w1 wq → wq.cell? ⟨w.heap.size + 1, 0, none⟩ = some (.int .u32 (y.ver : Int)) ∧ wq.cell? ⟨w.heap.size + 1, 1, none⟩ = some (.slice A3 n3 c3) ∧ wq.cell? ⟨w.heap.size + 1, 2, none⟩ = some (.slice A4 n4 c4) ∧ wq.cell? ⟨w.heap.size + 1, 3, none⟩ = some (.int .u32 (y.lock : Int))) := fun wq hq => by
    have h := RY.out wq hq
    rw [hY] at h
    exact ⟨by simpa using h 0 _ rfl, by simpa using h 1 _ rfl, by simpa using h 2 _ rfl, by simpa using h 3 _ rfl⟩
  have HBq : Hid (∀ wq, SB w1 wq → Below w.heap.size w wq) := fun wq hq => hb1.trans (Below.mono hq hb1.size)
  have HS1 : Hid (SB w1 w1) := SB.refl w1
  clear nX nY hb1 rX rY hsz hX hY
  obtain ⟨q, hq⟩ : ∃ q, q = decide (x = y) := ⟨_, rfl⟩
  rw [← hq] at K14 K10
  clear hq
  go_enter Try.func4, Try.ntmps4
  go_upto_region 1 with fail
  rw [← hw1]
  obtain ⟨tA, htA⟩ : ∃ t, t = w.heap.size := ⟨_, rfl⟩
  obtain ⟨tB, htB⟩ : ∃ t, t = w.heap.size + 1 := ⟨_, rfl⟩
  rw [← htB] at RY CY ⊢
  rw [← htA] at RX ⊢
  clear hw1 htA htB
  go_upto_region 3 with (first
    | (with_reducible refine wpList_load_mid rfl 33 (.tmp 2) rfl tA 0 rfl X _ (RX.out _ HS1.out) Try.underlying33 rfl IX.out ?_)
    | (go_at_call 13; (with_reducible refine (K13.out _ (HBq.out _ HS1.out)).mono ?_); rintro e w2 ⟨b1, rfl, hs2⟩; have HS2 : Hid (SB w1 w2) := hs2; clear hs2; obtain ⟨y0, y1, y2, y3⟩ := CY.out _ HS2.out; dsimp only; cases b1)
    | (go_at_call 13; (with_reducible refine (K13y.out _ (HBq.out _ HS2.out)).mono ?_); rintro e w3 ⟨b2, rfl, hs3⟩; have HS3 : Hid (SB w1 w3) := Below.trans HS2.out (Below.mono hs3 HS2.out.size); clear hs3; dsimp only; cases b2)
    | (go_at_call 6; (with_reducible refine (K6.out _).mono ?_); rintro e w4 ⟨rfl, hs4⟩; dsimp only))
  · skip
    clear y0 y1 y2 y3
    generalize hWd : w3.drew = Wd
    have hsd : SB w1 Wd := by rw [← hWd]; exact Below.drew HS3.out
    refine wp_calm_any ?_
    refine wp_region_but (z := 999) (SB w1) (by kernel_rfl) ?_
    rw [hWd]
    have hS : SB w1 Wd := hsd
    clear hWd hsd
    cases q
    all_goals
      refine AnyBut.takeE (i := 0) (v := .agg (X).toArray) rfl (by kernel_rfl) (by kernel_rfl) (by kernel_rfl) (by kernel_rfl) (fun _ _ _ h => h) ?_ hS ?_
      · exact yieldsIf_load_mid (by rfl) 33 (.tmp 2) rfl (tA) 0 rfl (X) _ RX.out Try.underlying33 rfl IX.out
      try simp only [Act.put, List.setIfInBounds_toArray, List.set_cons_zero, List.set_cons_succ, List.getElem_toArray, List.getElem_cons_zero, List.getElem_cons_succ]
      refine AnyBut.takeE (i := 1) (v := .agg (Y).toArray) rfl (by kernel_rfl) (by kernel_rfl) (by kernel_rfl) (by kernel_rfl) (fun _ _ _ h => h) ?_ hS ?_
      · exact yieldsIf_load_mid (by rfl) 33 (.tmp 3) rfl (tB) 0 rfl (Y) _ RY.out Try.underlying33 rfl IY.out
      try simp only [Act.put, List.setIfInBounds_toArray, List.set_cons_zero, List.set_cons_succ, List.getElem_toArray, List.getElem_cons_zero, List.getElem_cons_succ]
      refine AnyBut.takeE (i := 3) (v := .agg (X).toArray) rfl (by kernel_rfl) (by kernel_rfl) (by kernel_rfl) (by kernel_rfl) (fun _ _ _ h => h) ?_ hS ?_
      · exact yieldsIf_load_mid (by rfl) 33 (.tmp 2) rfl (tA) 0 rfl (X) _ RX.out Try.underlying33 rfl IX.out
      try simp only [Act.put, List.setIfInBounds_toArray, List.set_cons_zero, List.set_cons_succ, List.getElem_toArray, List.getElem_cons_zero, List.getElem_cons_succ]
      refine AnyBut.takeE (i := 4) (v := .agg (Y).toArray) rfl (by kernel_rfl) (by kernel_rfl) (by kernel_rfl) (by kernel_rfl) (fun _ _ _ h => h) ?_ hS ?_
      · exact yieldsIf_load_mid (by rfl) 33 (.tmp 3) rfl (tB) 0 rfl (Y) _ RY.out Try.underlying33 rfl IY.out
      try simp only [Act.put, List.setIfInBounds_toArray, List.set_cons_zero, List.set_cons_succ, List.getElem_toArray, List.getElem_cons_zero, List.getElem_cons_succ]
      refine AnyBut.gone (i := 2) (by kernel_rfl) rfl (by rfl) (fun K hK => ?_)
      go_simp
      (with_reducible refine (K14.out _ (HBq.out _ hS)).mono ?_)
      rintro e wz1 ⟨rfl, hz⟩
      dsimp only
      have hS : (SB w1) wz1 := Below.trans hS (Below.mono hz hS.size)
      refine hK _ _ (fun _ => hS) ?_
      clear hK K
      try simp only [Act.put, List.setIfInBounds_toArray, List.set_cons_zero, List.set_cons_succ, List.getElem_toArray, List.getElem_cons_zero, List.getElem_cons_succ]
      refine AnyBut.gone (i := 5) (by kernel_rfl) rfl (by rfl) (fun K hK => ?_)
      go_simp
      (with_reducible refine (K10.out _ (HBq.out _ hS)).mono ?_)
      rintro e wz2 ⟨rfl, hz⟩
      dsimp only
      have hS : (SB w1) wz2 := Below.trans hS (Below.mono hz hS.size)
      refine hK _ _ (fun _ => hS) ?_
      clear hK K
      try simp only [Act.put, List.setIfInBounds_toArray, List.set_cons_zero, List.set_cons_succ, List.getElem_toArray, List.getElem_cons_zero, List.getElem_cons_succ]
      refine AnyBut.takeE (i := 6) (v := ?_) rfl (by kernel_rfl) (by kernel_rfl) (by kernel_rfl) (by kernel_rfl) (fun _ _ _ h => h) (Or.inl ⟨by rfl, ?_⟩) hS ?_
      rotate_left
      · (intro wq hq; go_simp; try with_reducible rfl)
      try simp only [Act.put, List.setIfInBounds_toArray, List.set_cons_zero, List.set_cons_succ, List.getElem_toArray, List.getElem_cons_zero, List.getElem_cons_succ]
      refine AnyBut.takeE (i := 7) (v := ?_) rfl (by kernel_rfl) (by kernel_rfl) (by kernel_rfl) (by kernel_rfl) (fun _ _ _ h => h) (Or.inl ⟨by rfl, ?_⟩) hS ?_
      rotate_left
      · (intro wq hq; go_simp; try with_reducible rfl)
      try simp only [Act.put, List.setIfInBounds_toArray, List.set_cons_zero, List.set_cons_succ, List.getElem_toArray, List.getElem_cons_zero, List.getElem_cons_succ]
      refine AnyBut.takeE (i := 8) (v := .agg (X).toArray) rfl (by kernel_rfl) (by kernel_rfl) (by kernel_rfl) (by kernel_rfl) (fun _ _ _ h => h) ?_ hS ?_
      · exact yieldsIf_load_mid (by rfl) 33 (.tmp 2) rfl (tA) 0 rfl (X) _ RX.out Try.underlying33 rfl IX.out
      try simp only [Act.put, List.setIfInBounds_toArray, List.set_cons_zero, List.set_cons_succ, List.getElem_toArray, List.getElem_cons_zero, List.getElem_cons_succ]
      refine AnyBut.takeE (i := 9) (v := .agg (X).toArray) rfl (by kernel_rfl) (by kernel_rfl) (by kernel_rfl) (by kernel_rfl) (fun _ _ _ h => h) ?_ hS ?_
      · exact yieldsIf_load_mid (by rfl) 33 (.tmp 2) rfl (tA) 0 rfl (X) _ RX.out Try.underlying33 rfl IX.out
      try simp only [Act.put, List.setIfInBounds_toArray, List.set_cons_zero, List.set_cons_succ, List.getElem_toArray, List.getElem_cons_zero, List.getElem_cons_succ]
      refine AnyBut.gone (i := 10) (by kernel_rfl) rfl (by rfl) (fun K hK => ?_)
      go_simp
      (with_reducible refine (K14r.out _ (HBq.out _ hS)).mono ?_)
      rintro e wz3 ⟨rfl, hz⟩
      dsimp only
      have hS : (SB w1) wz3 := Below.trans hS (Below.mono hz hS.size)
      refine hK _ _ (fun _ => hS) ?_
      clear hK K
      try simp only [Act.put, List.setIfInBounds_toArray, List.set_cons_zero, List.set_cons_succ, List.getElem_toArray, List.getElem_cons_zero, List.getElem_cons_succ]
      refine AnyBut.takeE (i := 11) (v := ?_) rfl (by kernel_rfl) (by kernel_rfl) (by kernel_rfl) (by kernel_rfl) (fun _ _ _ h => h) (Or.inl ⟨by rfl, ?_⟩) hS ?_
      rotate_left
      · (intro wq hq; go_simp; try with_reducible rfl)
      try simp only [Act.put, List.setIfInBounds_toArray, List.set_cons_zero, List.set_cons_succ, List.getElem_toArray, List.getElem_cons_zero, List.getElem_cons_succ]
      refine AnyBut.takeE (i := 12) (v := ?_) rfl (by kernel_rfl) (by kernel_rfl) (by kernel_rfl) (by kernel_rfl) (fun _ _ _ h => h) (Or.inl ⟨by rfl, ?_⟩) hS ?_
      rotate_left
      · (intro wq hq; go_simp; try with_reducible rfl)
      try simp only [Act.put, List.setIfInBounds_toArray, List.set_cons_zero, List.set_cons_succ, List.getElem_toArray, List.getElem_cons_zero, List.getElem_cons_succ]
      refine AnyBut.gone (i := 13) (by kernel_rfl) rfl (by rfl) (fun K hK => ?_)
      go_simp
      (with_reducible refine (K6.out _).mono ?_)
      rintro e wz4 ⟨rfl, hz⟩
      dsimp only
      have hS : (SB w1) wz4 := Below.trans hS (Below.mono hz hS.size)
      refine hK _ _ (fun _ => hS) ?_
      clear hK K
      try simp only [Act.put, List.setIfInBounds_toArray, List.set_cons_zero, List.set_cons_succ, List.getElem_toArray, List.getElem_cons_zero, List.getElem_cons_succ]
      refine AnyBut.takeE (i := 14) (v := ?_) rfl (by kernel_rfl) (by kernel_rfl) (by kernel_rfl) (by kernel_rfl) (fun _ _ _ h => h) (Or.inl ⟨by rfl, ?_⟩) hS ?_
      rotate_left
      · (intro wq hq; go_simp; try with_reducible rfl)
      try simp only [Act.put, List.setIfInBounds_toArray, List.set_cons_zero, List.set_cons_succ, List.getElem_toArray, List.getElem_cons_zero, List.getElem_cons_succ]
      refine AnyBut.gone (i := 15) (by kernel_rfl) rfl (by rfl) (fun K hK => ?_)
      go_simp
      refine hK _ _ (fun _ => hS) ?_
      clear hK K
      refine AnyBut.done (by kernel_rfl) ?_ _
      dsimp only [Exit.then]
      go_wp2_with fail
      go_ret
      exact ⟨rfl, HBq.out _ hS⟩
  · go_ret
    exact ⟨rfl, HBq.out _ (Below.trans HS3.out (Below.mono hs4 HS3.out.size))⟩
  · go_ret
    exact ⟨rfl, HBq.out _ (Below.trans HS2.out (Below.mono hs4 HS2.out.size))⟩
end Go.Proofs.Ytnkkhmgplpkjbaa
