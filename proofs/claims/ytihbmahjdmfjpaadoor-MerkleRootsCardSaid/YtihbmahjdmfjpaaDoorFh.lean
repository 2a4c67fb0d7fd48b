/- Whether two hashes are equal; what merkle.repeats returns. -/
import Derived.Test.YtihbmahjdmfjpaaDoorFg
import Derived.Stop.BytesEq
import Derived.Laws.StructEq
import Derived.Outline
import Derived.StillTailTactics
namespace Go.Proofs.YtihbmahjdmfjpaaDoor
open Go.RowKit
set_option linter.unusedVariables false
set_option linter.unusedSimpArgs false
set_option maxRecDepth 100000
attribute [local go_sem] Oper.semAt_some
theorem eqIn25 (d : Nat) (X Y : List (BitVec 8)) (hX : X.length = 32) (hY : Y.length = 32) (w : World) : (Op.equalIn (d + 2) 25 (.agg (vbs X).toArray) (.agg (vbs Y).toArray)).run Tryd.prog w = .ok (decide (X = Y)) w := by
  have eX : vbs X = (X.map UInt8.ofBitVec).map Extern.Stop.cell := by simp [vbs, Extern.Stop.cell, Bt]
  have eY : vbs Y = (Y.map UInt8.ofBitVec).map Extern.Stop.cell := by simp [vbs, Extern.Stop.cell, Bt]
  have := run_equalIn_bytes (P := Tryd.prog) w d 25 5 32 Tryd.underlying25 Tryd.underlying5 (fun _ => by kernel_rfl) (X.map UInt8.ofBitVec) (Y.map UInt8.ofBitVec) (by simpa using hX) (by simpa using hY)
  rw [← eX, ← eY] at this
  rw [this]
  congr 1
  rw [Bool.eq_iff_iff]
  simp only [beq_iff_eq, decide_eq_true_eq]
  constructor
  · intro h
    have := congrArg (List.map UInt8.toBitVec) h
    simpa [List.map_map, Function.comp_def] using this
  · intro h
    rw [h]
theorem eql25 (X Y : List (BitVec 8)) (hX : X.length = 32) (hY : Y.length = 32) (w : World) : (binOp .eql 25 (.agg (vbs X).toArray) (.agg (vbs Y).toArray)).run Tryd.prog w = .ok (.bool (decide (X = Y))) w := by
  rw [run_eql_struct, eqIn25 9998 X Y hX hY w]
  rfl
theorem neq25 (X Y : List (BitVec 8)) (hX : X.length = 32) (hY : Y.length = 32) (w : World) : (binOp .neq 25 (.agg (vbs X).toArray) (.agg (vbs Y).toArray)).run Tryd.prog w = .ok (.bool (!decide (X = Y))) w := by
  rw [run_neq_struct, eqIn25 9998 X Y hX hY w]
  rfl
/-- Is the k-th pair one of two equal hashes? -/
def repAt (L : List (List (BitVec 8))) (k : Nat) : Bool := decide (2 * k + 1 < L.length) && decide (L.getD (2 * k) [] = L.getD (2 * k + 1) [])
/-- Are two neighbours that are a pair equal? -/
def repB (L : List (List (BitVec 8))) : Bool := (List.range ((L.length + 1) / 2)).any (repAt L)
def RI (L : List (List (BitVec 8))) (w : World) (k : Nat) (W : World) : Prop := Blk W w.heap.size 4 [.bool false] ∧ Below w.heap.size w W ∧ w.heap.size < W.heap.size ∧ ∀ j, j < k → repAt L j = false
def RX (L : List (List (BitVec 8))) (w : World) (c : Code) (k : Nat) (W : World) : Prop := c = .ret ∧ Blk W w.heap.size 4 [.bool true] ∧ Below w.heap.size w W ∧ repB L = true
theorem RI.own (L : List (List (BitVec 8))) (w : World) (B : Nat) (hB : w.heap.size ≤ B) : OwnFrom B (RI L w) := fun k W W' row ⟨h1, h3, h4, h5⟩ hg hr =>
  ⟨own_blk h1 hg (fun r e => (hr r e).2), h3.grown hg h3.size (fun k e => Nat.le_trans hB (hr k e).1), Nat.lt_of_lt_of_le h4 hg.size, h5⟩
theorem RX.own (L : List (List (BitVec 8))) (w : World) (c : Code) (B : Nat) (hB : w.heap.size ≤ B) : OwnFrom B (RX L w c) := fun k W W' row ⟨h0, h1, h3, h5⟩ hg hr =>
  ⟨h0, own_blk h1 hg (fun r e => (hr r e).2), h3.grown hg h3.size (fun k e => Nat.le_trans hB (hr k e).1), h5⟩
def SRe (b p q : Nat) (X Y : List (BitVec 8)) (wq : World) : Prop := wq.rangeAt b p (vbs X) ∧ wq.rangeAt b q (vbs Y)
theorem repB_of {L : List (List (BitVec 8))} {k : Nat} (h : repAt L k = true) : repB L = true := by
  unfold repB
  rw [List.any_eq_true]
  refine ⟨k, ?_, h⟩
  unfold repAt at h
  simp at h
  rw [List.mem_range]; omega
theorem repB_not {L : List (List (BitVec 8))} (h : ∀ j, j < (L.length + 1) / 2 → repAt L j = false) : repB L = false := by
  unfold repB
  rw [List.any_eq_false]
  intro k hk
  rw [h k (List.mem_range.1 hk)]; simp
set_option maxHeartbeats 2000000 in
theorem repeats_any (A : Option Addr) (n c : Nat) (L : List (List (BitVec 8))) (w : World) (hL : LenN 32 L) (hn : L.length = n) (hR : Rd w w.heap.size A L.flatten) (hn1 : n ≤ 100000) (hc : n ≤ c) :
    Calls Tryd.prog 33 #[.slice A n c] w (VPost (.bool (repB L)) w) := by
  refine (callsIn_wide (n := 1)).1 (callsIn_of_wp_marks Tryd.func33 rfl trivial (wpIn_wide.2 ?_) rfl)
  simp only [Tryd.ntmps33, List.size_toArray, List.length_cons, List.length_nil, Nat.reduceAdd, Nat.reduceSub, Array.replicate_succ, Array.replicate_zero, List.push_toArray, List.append_toArray, List.nil_append, List.cons_append]
  have HN := Lib.hid hn
  obtain ⟨b, o, hA, hb⟩ : ∃ b o, (0 < n → A = some ⟨b, o, none⟩) ∧ (0 < n → b < w.heap.size ∧ ∀ k, k < n → w.rangeAt b (o + k * 32) (vbs (L.getD k []))) := by
    by_cases h0 : 0 < n
    · obtain ⟨b, o, e, hb, hrg⟩ := hR.row (by omega) hL (j := 0) (by omega)
      exact ⟨b, o, fun _ => e, fun _ => ⟨hb, by rw [← hn]; exact hrg⟩⟩
    · exact ⟨0, 0, fun h => absurd h h0, fun h => absurd h h0⟩
  have HA := Lib.hid hA
  have HB := Lib.hid hb
  clear hR hn hA hb
  go_wp2_with (go_at_call 48; (with_reducible refine (chunk_val _ _ _ _).mono ?_); rintro e w' ⟨rfl, rfl⟩; dsimp only)
  rw [World.size_alloc]
  have hbel : Below w.heap.size w (((w.alloc (.cells #[.bool false] 4)).alloc (.cells #[.slice A n c] 22)).alloc (.cells #[.int .i64 2] 3)) := (((Below.refl _ _).alloc (Nat.le_refl _) _).alloc (by simp) _).alloc (by simp; omega) _
  have b0 : Blk (((w.alloc (.cells #[.bool false] 4)).alloc (.cells #[.slice A n c] 22)).alloc (.cells #[.int .i64 2] 3)) w.heap.size 4 [.bool false] := ((Blk.new w 4 #[.bool false]).alloc _).alloc _
  have b1 : Blk (((w.alloc (.cells #[.bool false] 4)).alloc (.cells #[.slice A n c] 22)).alloc (.cells #[.int .i64 2] 3)) (w.heap.size + 1) 22 [.slice A n c] := by
    have := (Blk.new (w.alloc (.cells #[.bool false] 4)) 22 #[.slice A n c]).alloc (.cells #[.int .i64 2] 3)
    simpa using this
  have b2 : Blk (((w.alloc (.cells #[.bool false] 4)).alloc (.cells #[.slice A n c] 22)).alloc (.cells #[.int .i64 2] 3)) (w.heap.size + 1 + 1) 3 [.int .i64 2] := by
    have := Blk.new ((w.alloc (.cells #[.bool false] 4)).alloc (.cells #[.slice A n c] 22)) 3 #[.int .i64 2]
    simpa using this
  generalize (((w.alloc (.cells #[.bool false] 4)).alloc (.cells #[.slice A n c] 22)).alloc (.cells #[.int .i64 2] 3)) = W0 at hbel b0 b1 b2 ⊢
  have hsz := b0.lt
  refine wp_range (gf := 56) (lb := #[.pointer (some ⟨w.heap.size + 1, 0, none⟩), .pointer (some ⟨w.heap.size + 1 + 1, 0, none⟩)]) rfl (enters_of Tryd.func56 (by kernel_rfl) rfl)
    (chunk_seq A n c b o _ _ W0 b1 b2 HA.out (by omega) hc) (fun h k => h.trans k) KpT.putObj (Below.refl _ _) (fun k vs W h => by rw [h]; rfl) (fun k vs W l o o' h _ _ => h)
    (RI L w) (RX L w) (RI.own L w _ hbel.size) (fun c => RX.own L w c _ hbel.size) ⟨b0, hbel, hsz, fun j hj => absurd hj (Nat.not_lt_zero j)⟩
    (fun vs => { tmps := #[.slice A n c, undef, .pointer (some ⟨w.heap.size, 0, none⟩), vs.getD 0 undef, .slice A n c, .func (.func 56) #[] #[.pointer (some ⟨w.heap.size + 1, 0, none⟩), .pointer (some ⟨w.heap.size + 1 + 1, 0, none⟩)], vs.getD 0 undef, undef, undef, undef, undef, undef, undef, undef, undef, undef, undef, undef, undef], defers := [] }) ?assign ?body ?done ?stop
  case assign =>
    intro l k vs W K hvs hK
    subst hvs
    gi_wp2
    exact hK
  case body =>
    rintro l k vs W ⟨hB0, hBl, hlt, hpre⟩ hk rfl
    have hLn := HN.out
    have hk2 : 2 * k < n := by omega
    obtain ⟨hb, hrg⟩ := HB.out (by omega)
    obtain ⟨p, hp⟩ : ∃ p, p = o + (2 * k) * 32 := ⟨_, rfl⟩
    obtain ⟨m, hm⟩ : ∃ m, m = min 2 (n - 2 * k) := ⟨_, rfl⟩
    have hg : (#[chV b o n k] : Array Value).getD 0 undef = .slice (some ⟨b, p, none⟩) m m := by show chV b o n k = _; unfold chV; rw [← hp, ← hm]
    rw [hg]
    have HBl := Lib.hid hBl
    have HB0 := Lib.hid hB0
    have HP := Lib.hid hpre
    by_cases h2 : m = 2
    · obtain ⟨X, hX⟩ : ∃ X, X = L.getD (2 * k) [] := ⟨_, rfl⟩
      obtain ⟨Y, hY⟩ : ∃ Y, Y = L.getD (2 * k + 1) [] := ⟨_, rfl⟩
      have hX32 : X.length = 32 := by rw [hX]; exact hL.at (by omega)
      have hY32 : Y.length = 32 := by rw [hY]; exact hL.at (by omega)
      have rX : W.rangeAt b p (vbs X) := fun j u hj => (hBl.cell (p := ⟨b, p + j, none⟩) hb).trans (by rw [hp]; exact hrg (2 * k) (by omega) j u (by rw [← hX]; exact hj))
      have rY : W.rangeAt b (p + 32) (vbs Y) := fun j u hj => (hBl.cell (p := ⟨b, p + 32 + j, none⟩) hb).trans (by
        have := hrg (2 * k + 1) (by omega) j u (by rw [← hY]; exact hj)
        rw [hp, show o + 2 * k * 32 + 32 + j = o + (2 * k + 1) * 32 + j by omega]; exact this)
      have eP : repAt L k = decide (X = Y) := by
        unfold repAt
        rw [← hX, ← hY, decide_eq_true (show 2 * k + 1 < L.length by omega), Bool.true_and]
      have IX := Lib.hid (i25' (vs := vbs X) (by rw [vbs_len]; exact hX32))
      have IY := Lib.hid (i25' (vs := vbs Y) (by rw [vbs_len]; exact hY32))
      have heq := eql25 X Y hX32 hY32
      obtain ⟨t, ht⟩ : ∃ t, t = decide (X = Y) := ⟨_, rfl⟩
      rw [← ht] at heq eP
      have HS : Hid (SRe b p (p + 32) X Y W) := ⟨rX, rY⟩
      have HE := Lib.hid eP
      clear hg hp hm hX hY hX32 hY32 rX rY eP hB0 hBl hLn hL HN hrg b0 b1 b2 hbel hpre HA HB ht
      subst h2
      refine wpIn_block ?_
      refine wpIn_seq ?_
      refine wpIn_region_but (z := 999) (SRe b p (p + 32) X Y) (by kernel_rfl) (by kernel_rfl) (fun ⟨_, _, h⟩ => h) ?_
      have hS : (SRe b p (p + 32) X Y) W.drew := HS.out
      refine AnyBut.takeE (i := 0) (v := ?_) rfl (by kernel_rfl) (by kernel_rfl) (by kernel_rfl) (by kernel_rfl) (fun _ _ _ h => h) (Or.inl ⟨by rfl, ?_⟩) hS ?_
      rotate_left
      · (intro wq hq; go_simp; try with_reducible rfl)
      try simp only [Act.put, List.setIfInBounds_toArray, List.set_cons_zero, List.set_cons_succ, List.getElem_toArray, List.getElem_cons_zero, List.getElem_cons_succ]
      refine AnyBut.takeE (i := 1) (v := ?_) rfl (by kernel_rfl) (by kernel_rfl) (by kernel_rfl) (by kernel_rfl) (fun _ _ _ h => h) (Or.inl ⟨by rfl, ?_⟩) hS ?_
      rotate_left
      · (intro wq hq; go_simp; try with_reducible rfl)
      try simp only [Act.put, List.setIfInBounds_toArray, List.set_cons_zero, List.set_cons_succ, List.getElem_toArray, List.getElem_cons_zero, List.getElem_cons_succ]
      refine AnyBut.takeE (i := 2) (v := ?_) rfl (by kernel_rfl) (by kernel_rfl) (by kernel_rfl) (by kernel_rfl) (fun _ _ _ h => h) (Or.inl ⟨by rfl, ?_⟩) hS ?_
      rotate_left
      · (intro wq hq; go_simp; try with_reducible rfl)
      try simp only [Act.put, List.setIfInBounds_toArray, List.set_cons_zero, List.set_cons_succ, List.getElem_toArray, List.getElem_cons_zero, List.getElem_cons_succ]
      refine AnyBut.takeE (i := 3) (v := ?_) rfl (by kernel_rfl) (by kernel_rfl) (by kernel_rfl) (by kernel_rfl) (fun _ _ _ h => h) (Or.inl ⟨by rfl, ?_⟩) hS ?_
      rotate_left
      · (intro wq hq; go_simp; try with_reducible rfl)
      try simp only [Act.put, List.setIfInBounds_toArray, List.set_cons_zero, List.set_cons_succ, List.getElem_toArray, List.getElem_cons_zero, List.getElem_cons_succ]
      refine AnyBut.takeE (i := 4) (v := ?_) rfl (by kernel_rfl) (by kernel_rfl) (by kernel_rfl) (by kernel_rfl) (fun _ _ _ h => h) (Or.inl ⟨by rfl, ?_⟩) hS ?_
      rotate_left
      · (intro wq hq; go_simp; try with_reducible rfl)
      try simp only [Act.put, List.setIfInBounds_toArray, List.set_cons_zero, List.set_cons_succ, List.getElem_toArray, List.getElem_cons_zero, List.getElem_cons_succ]
      refine AnyBut.takeE (i := 5) (v := .pointer (some ⟨b, p, none⟩)) rfl (by kernel_rfl) (by kernel_rfl) (by kernel_rfl) (by kernel_rfl) (fun _ _ _ h => h) (Or.inl ⟨by rfl, ?_⟩) hS ?_
      · (intro wq hq; go_simp)
      try simp only [Act.put, List.setIfInBounds_toArray, List.set_cons_zero, List.set_cons_succ, List.getElem_toArray, List.getElem_cons_zero, List.getElem_cons_succ]
      refine AnyBut.takeE (i := 6) (v := .agg (vbs X).toArray) rfl (by kernel_rfl) (by kernel_rfl) (by kernel_rfl) (by kernel_rfl) (fun _ _ _ h => h) ?_ hS ?_
      · exact yieldsIf_load_mid (by rfl) 25 (.tmp 12) rfl (b) p rfl (vbs X) _ (fun _ h => h.1) Tryd.underlying25 rfl IX.out
      try simp only [Act.put, List.setIfInBounds_toArray, List.set_cons_zero, List.set_cons_succ, List.getElem_toArray, List.getElem_cons_zero, List.getElem_cons_succ]
      refine AnyBut.takeE (i := 7) (v := ?_) rfl (by kernel_rfl) (by kernel_rfl) (by kernel_rfl) (by kernel_rfl) (fun _ _ _ h => h) (Or.inl ⟨by rfl, ?_⟩) hS ?_
      rotate_left
      · (intro wq hq; go_simp; try with_reducible rfl)
      try simp only [Act.put, List.setIfInBounds_toArray, List.set_cons_zero, List.set_cons_succ, List.getElem_toArray, List.getElem_cons_zero, List.getElem_cons_succ]
      refine AnyBut.takeE (i := 8) (v := .pointer (some ⟨b, p + 32, none⟩)) rfl (by kernel_rfl) (by kernel_rfl) (by kernel_rfl) (by kernel_rfl) (fun _ _ _ h => h) (Or.inl ⟨by rfl, ?_⟩) hS ?_
      · (intro wq hq; go_simp)
      try simp only [Act.put, List.setIfInBounds_toArray, List.set_cons_zero, List.set_cons_succ, List.getElem_toArray, List.getElem_cons_zero, List.getElem_cons_succ]
      refine AnyBut.takeE (i := 9) (v := .agg (vbs Y).toArray) rfl (by kernel_rfl) (by kernel_rfl) (by kernel_rfl) (by kernel_rfl) (fun _ _ _ h => h) ?_ hS ?_
      · exact yieldsIf_load_mid (by rfl) 25 (.tmp 15) rfl (b) (p + 32) rfl (vbs Y) _ (fun _ h => h.2) Tryd.underlying25 rfl IY.out
      try simp only [Act.put, List.setIfInBounds_toArray, List.set_cons_zero, List.set_cons_succ, List.getElem_toArray, List.getElem_cons_zero, List.getElem_cons_succ]
      refine AnyBut.takeE (i := 10) (v := .bool t) rfl (by kernel_rfl) (by kernel_rfl) (by kernel_rfl) (by kernel_rfl) (fun _ _ _ h => h) (Or.inl ⟨by rfl, ?_⟩) hS ?_
      · (intro wq hq; go_simp)
      try simp only [Act.put, List.setIfInBounds_toArray, List.set_cons_zero, List.set_cons_succ, List.getElem_toArray, List.getElem_cons_zero, List.getElem_cons_succ]
      refine AnyBut.takeE (i := 11) (v := ?_) rfl (by kernel_rfl) (by kernel_rfl) (by kernel_rfl) (by kernel_rfl) (fun _ _ _ h => h) (Or.inl ⟨by rfl, ?_⟩) hS ?_
      rotate_left
      · (intro wq hq; go_simp; try with_reducible rfl)
      try simp only [Act.put, List.setIfInBounds_toArray, List.set_cons_zero, List.set_cons_succ, List.getElem_toArray, List.getElem_cons_zero, List.getElem_cons_succ]
      refine AnyBut.done (by kernel_rfl) ?_ _
      try dsimp only [Exit.then]
      have c0 := (show Blk W.drew w.heap.size 4 [.bool false] from HB0.out).cell (j := 0) (v := .bool false) rfl
      have f0 := (show Blk W.drew w.heap.size 4 [.bool false] from HB0.out).free 0
      have HK := Lib.hid (KeepsOthers.setCell W.drew ⟨w.heap.size, 0, none⟩ (.bool true))
      cases t with
      | true =>
        gi_wp2
        show KeepsOthers W _ ∧ RX L w .ret (k + 1) _
        exact ⟨⟨HK.out.size, HK.out.same⟩, rfl, (show Blk W.drew w.heap.size 4 [.bool false] from HB0.out).set 0 (.bool true), HBl.out.drew.setCell (Nat.le_refl _) _, repB_of HE.out⟩
      | false =>
        gi_wp2
        show KeepsOthers W _ ∧ KpT [22, 3] W _ ∧ RI L w (k + 1) _
        exact ⟨⟨Nat.le_refl _, fun _ _ h _ => h⟩, fun _ _ _ _ h _ => h, HB0.out, HBl.out.drew, hlt, fun j hj => by
          rcases Nat.lt_or_ge j k with h | h
          · exact HP.out j h
          · obtain rfl : j = k := by omega
            exact HE.out⟩
    · have hm1 : m = 1 := by omega
      have eP : repAt L k = false := by
        unfold repAt
        rw [decide_eq_false (show ¬ 2 * k + 1 < L.length by omega), Bool.false_and]
      have HE := Lib.hid eP
      clear hg hp hm eP hB0 hBl hLn hL HN hrg b0 b1 b2 hbel hpre HA HB h2
      subst hm1
      refine wpIn_block ?_
      refine wpIn_seq ?_
      refine wpIn_region_but (z := 999) (fun _ => True) (by kernel_rfl) (by kernel_rfl) (fun ⟨_, _, h⟩ => h) ?_
      have hS : (fun _ => True) W.drew := trivial
      refine AnyBut.takeE (i := 0) (v := ?_) rfl (by kernel_rfl) (by kernel_rfl) (by kernel_rfl) (by kernel_rfl) (fun _ _ _ h => h) (Or.inl ⟨by rfl, ?_⟩) hS ?_
      rotate_left
      · (intro wq hq; go_simp; try with_reducible rfl)
      try simp only [Act.put, List.setIfInBounds_toArray, List.set_cons_zero, List.set_cons_succ, List.getElem_toArray, List.getElem_cons_zero, List.getElem_cons_succ]
      refine AnyBut.takeE (i := 1) (v := ?_) rfl (by kernel_rfl) (by kernel_rfl) (by kernel_rfl) (by kernel_rfl) (fun _ _ _ h => h) (Or.inl ⟨by rfl, ?_⟩) hS ?_
      rotate_left
      · (intro wq hq; go_simp; try with_reducible rfl)
      try simp only [Act.put, List.setIfInBounds_toArray, List.set_cons_zero, List.set_cons_succ, List.getElem_toArray, List.getElem_cons_zero, List.getElem_cons_succ]
      refine AnyBut.takeE (i := 2) (v := ?_) rfl (by kernel_rfl) (by kernel_rfl) (by kernel_rfl) (by kernel_rfl) (fun _ _ _ h => h) (Or.inl ⟨by rfl, ?_⟩) hS ?_
      rotate_left
      · (intro wq hq; go_simp; try with_reducible rfl)
      try simp only [Act.put, List.setIfInBounds_toArray, List.set_cons_zero, List.set_cons_succ, List.getElem_toArray, List.getElem_cons_zero, List.getElem_cons_succ]
      refine AnyBut.takeE (i := 3) (v := ?_) rfl (by kernel_rfl) (by kernel_rfl) (by kernel_rfl) (by kernel_rfl) (fun _ _ _ h => h) (Or.inl ⟨by rfl, ?_⟩) hS ?_
      rotate_left
      · (intro wq hq; go_simp; try with_reducible rfl)
      try simp only [Act.put, List.setIfInBounds_toArray, List.set_cons_zero, List.set_cons_succ, List.getElem_toArray, List.getElem_cons_zero, List.getElem_cons_succ]
      refine AnyBut.takeE (i := 4) (v := undef) rfl (by kernel_rfl) (by kernel_rfl) (by kernel_rfl) (by kernel_rfl) (fun _ _ _ h => h) (Or.inr ⟨by rfl, rfl⟩) hS ?_
      try simp only [Act.put, List.setIfInBounds_toArray, List.set_cons_zero, List.set_cons_succ, List.getElem_toArray, List.getElem_cons_zero, List.getElem_cons_succ]
      refine AnyBut.takeE (i := 5) (v := undef) rfl (by kernel_rfl) (by kernel_rfl) (by kernel_rfl) (by kernel_rfl) (fun _ _ _ h => h) (Or.inr ⟨by rfl, rfl⟩) hS ?_
      try simp only [Act.put, List.setIfInBounds_toArray, List.set_cons_zero, List.set_cons_succ, List.getElem_toArray, List.getElem_cons_zero, List.getElem_cons_succ]
      refine AnyBut.takeE (i := 6) (v := undef) rfl (by kernel_rfl) (by kernel_rfl) (by kernel_rfl) (by kernel_rfl) (fun _ _ _ h => h) (Or.inr ⟨by rfl, rfl⟩) hS ?_
      try simp only [Act.put, List.setIfInBounds_toArray, List.set_cons_zero, List.set_cons_succ, List.getElem_toArray, List.getElem_cons_zero, List.getElem_cons_succ]
      refine AnyBut.takeE (i := 7) (v := undef) rfl (by kernel_rfl) (by kernel_rfl) (by kernel_rfl) (by kernel_rfl) (fun _ _ _ h => h) (Or.inr ⟨by rfl, rfl⟩) hS ?_
      try simp only [Act.put, List.setIfInBounds_toArray, List.set_cons_zero, List.set_cons_succ, List.getElem_toArray, List.getElem_cons_zero, List.getElem_cons_succ]
      refine AnyBut.takeE (i := 8) (v := undef) rfl (by kernel_rfl) (by kernel_rfl) (by kernel_rfl) (by kernel_rfl) (fun _ _ _ h => h) (Or.inr ⟨by rfl, rfl⟩) hS ?_
      try simp only [Act.put, List.setIfInBounds_toArray, List.set_cons_zero, List.set_cons_succ, List.getElem_toArray, List.getElem_cons_zero, List.getElem_cons_succ]
      refine AnyBut.takeE (i := 9) (v := undef) rfl (by kernel_rfl) (by kernel_rfl) (by kernel_rfl) (by kernel_rfl) (fun _ _ _ h => h) (Or.inr ⟨by rfl, rfl⟩) hS ?_
      try simp only [Act.put, List.setIfInBounds_toArray, List.set_cons_zero, List.set_cons_succ, List.getElem_toArray, List.getElem_cons_zero, List.getElem_cons_succ]
      refine AnyBut.takeE (i := 10) (v := undef) rfl (by kernel_rfl) (by kernel_rfl) (by kernel_rfl) (by kernel_rfl) (fun _ _ _ h => h) (Or.inr ⟨by rfl, rfl⟩) hS ?_
      try simp only [Act.put, List.setIfInBounds_toArray, List.set_cons_zero, List.set_cons_succ, List.getElem_toArray, List.getElem_cons_zero, List.getElem_cons_succ]
      refine AnyBut.takeE (i := 11) (v := ?_) rfl (by kernel_rfl) (by kernel_rfl) (by kernel_rfl) (by kernel_rfl) (fun _ _ _ h => h) (Or.inl ⟨by rfl, ?_⟩) hS ?_
      rotate_left
      · (intro wq hq; go_simp; try with_reducible rfl)
      try simp only [Act.put, List.setIfInBounds_toArray, List.set_cons_zero, List.set_cons_succ, List.getElem_toArray, List.getElem_cons_zero, List.getElem_cons_succ]
      refine AnyBut.done (by kernel_rfl) ?_ _
      try dsimp only [Exit.then]
      gi_wp2
      show KeepsOthers W _ ∧ KpT [22, 3] W _ ∧ RI L w (k + 1) _
      exact ⟨⟨Nat.le_refl _, fun _ _ h _ => h⟩, fun _ _ _ _ h _ => h, HB0.out, HBl.out.drew, hlt, fun j hj => by
        rcases Nat.lt_or_ge j k with h | h
        · exact HP.out j h
        · obtain rfl : j = k := by omega
          exact HE.out⟩
  case done =>
    rintro D W hD ⟨hB0, hBl, hlt, hpre⟩ hDf
    have HB0 := Lib.hid hB0
    have HBl := Lib.hid hBl
    have HDf := Lib.hid hDf
    have HP := Lib.hid hpre
    have f0 := hB0.free 0
    have c0 := hB0.cell (j := 0) (v := .bool false) rfl
    clear hB0 hBl hDf b0 b1 b2 hpre
    go_wp2_with fail
    have hD1 := (KeepsOthers.setCell W ⟨w.heap.size, 0, none⟩ (.bool false)).same D _ HDf.out rfl
    refine ⟨by simp, .inl ⟨_, _, rfl, run_takeDeferred hD1, ?_⟩⟩
    have hgp := grownBy_putObj' (W.setCell ⟨w.heap.size, 0, none⟩ (.bool false)) D (.deferred none)
    have B2 : Blk ((W.setCell ⟨w.heap.size, 0, none⟩ (.bool false)).putObj D (.deferred none)) w.heap.size 4 [.bool false] := own_blk (HB0.out.set 0 (.bool false)) hgp (fun r e => by cases e; exact ⟨_, hD1, rfl⟩)
    have hr : repB L = false := repB_not (fun j hj => HP.out j (by rw [← HN.out]; exact hj))
    rw [hr]
    have c2 := B2.cell (j := 0) (v := .bool false) rfl
    refine ⟨.bool false, ?_, rfl, (HBl.out.setCell (Nat.le_refl _) _).grown hgp ((HBl.out.setCell (p := ⟨w.heap.size, 0, none⟩) (Nat.le_refl _) _).size) (fun k e => by cases e; exact Nat.le_trans (Nat.le_of_lt hsz) hD)⟩
    simp [results, Tryd.results33, asAddr, go_sem, c2]
  case stop =>
    rintro D c k W hD hk ⟨rfl, hB0, hBl, hrep⟩ hDf
    have HB0 := Lib.hid hB0
    have HBl := Lib.hid hBl
    have HDf := Lib.hid hDf
    have HRp := Lib.hid hrep
    clear hB0 hBl hDf b0 b1 b2 hrep
    go_wp2_with fail
    refine ⟨by simp, .inl ⟨_, _, rfl, run_takeDeferred HDf.out, ?_⟩⟩
    have hgp := grownBy_putObj' W D (.deferred none)
    have B2 : Blk (W.putObj D (.deferred none)) w.heap.size 4 [.bool true] := own_blk HB0.out hgp (fun r e => by cases e; exact ⟨_, HDf.out, rfl⟩)
    rw [HRp.out]
    have c2 := B2.cell (j := 0) (v := .bool true) rfl
    refine ⟨.bool true, ?_, rfl, HBl.out.grown hgp HBl.out.size (fun k e => by cases e; exact Nat.le_trans (Nat.le_of_lt hsz) hD)⟩
    simp [results, Tryd.results33, asAddr, go_sem, c2]
end Go.Proofs.YtihbmahjdmfjpaaDoor
