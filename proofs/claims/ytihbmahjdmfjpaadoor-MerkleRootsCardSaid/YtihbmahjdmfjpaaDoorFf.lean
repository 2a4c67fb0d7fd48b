/- What merkle.paired returns: the texts of a row's pairs. -/
import Derived.Test.YtihbmahjdmfjpaaDoorFe
import Derived.Outline
import Derived.StillTailTactics
namespace Go.Proofs.YtihbmahjdmfjpaaDoor
open Go.RowKit
set_option linter.unusedVariables false
set_option linter.unusedSimpArgs false
set_option maxRecDepth 100000
attribute [local go_sem] Oper.semAt_some
/-- The text of the k-th pair of a row. -/
def pairT (L : List (List (BitVec 8))) (k : Nat) : List (BitVec 8) := L.getD (2 * k) [] ++ L.getD (2 * k + (min 2 (L.length - 2 * k) - 1)) []
def pairsN (L : List (List (BitVec 8))) (k : Nat) : List (List (BitVec 8)) := (List.range k).map (pairT L)
/-- The texts of a row's pairs; none where there is no row above it. -/
def pairsT (L : List (List (BitVec 8))) : List (List (BitVec 8)) := if L.length < 2 then [] else pairsN L ((L.length + 1) / 2)
theorem pairT_len {L : List (List (BitVec 8))} (h : LenN 32 L) {k : Nat} (hk : 2 * k < L.length) : (pairT L k).length = 64 := by
  unfold pairT
  rw [List.length_append, h.at hk, h.at (by omega)]
theorem pairsN_succ (L : List (List (BitVec 8))) (k : Nat) : pairsN L (k + 1) = pairsN L k ++ [pairT L k] := by
  unfold pairsN; rw [List.range_succ, List.map_append]; rfl
theorem pairsN_len (L : List (List (BitVec 8))) (k : Nat) : (pairsN L k).length = k := by simp [pairsN]
/-- Rows of arrays of one's own, of a call's making. -/
def FPost (e s : Nat) (L : List (List (BitVec 8))) (w : World) (en : Ending) (w' : World) : Prop := ∃ v, en = .returned v ∧ OF e s w' w.heap.size v L ∧ Below w.heap.size w w'
theorem wpIn_region_to {P : Program} {l n : Nat} {ops : Array Oper} {Q : Exit → Act → World → Prop} {id z : Nat} {a : Act} {w : World} (S : World → Prop) (hm : P.follows .mixedOrders = true) (hd : noDef ops = true) (hL : ¬ LetsOut Q)
    (h : AnyTo P .any ops Q S z ops.size (Array.replicate ops.size false) a w.drew) : (Code.region id ops true).wpIn (Fence.wide.inRound l) n P Q a w :=
  wpIn_region_any hm (any_in hd hL _ _ _ _ (AnyTo.any _ _ _ _ h))
theorem own_blk {W W' : World} {b T : Nat} {vs : List Value} {row : Option Nat} (h : Blk W b T vs) (hg : W.grownBy W' row) (hr : ∀ r, row = some r → ∃ o : Obj, W.heap[r]? = some o ∧ o.isCells = false) : Blk W' b T vs := by
  refine (hg.block b h.lt (fun e => ?_)).trans h
  obtain ⟨o, ho, hc⟩ := hr b e.symm
  rw [show W.heap[b]? = _ from h] at ho; cases ho; cases hc
theorem OF.own {e s : Nat} {W W' : World} {B : Nat} {v : Value} {L : List (List (BitVec 8))} {row : Option Nat} (h : OF e s W B v L) (hg : W.grownBy W' row) (hr : ∀ r, row = some r → ∃ o : Obj, W.heap[r]? = some o ∧ o.isCells = false) : OF e s W' B v L := by
  refine h.same fun g hv => hg.block g (h.lt hv).1 (fun e => ?_)
  obtain ⟨o, ho, hc⟩ := hr g e.symm
  obtain ⟨_, _, cur, m, hcell⟩ := h.lt hv
  rw [hcell] at ho; cases ho; cases hc
theorem KpT.grown {Ts : List TypeId} {W W' : World} {row : Option Nat} (hg : W.grownBy W' row) (hr : ∀ r, row = some r → ∃ cur e m, W.heap[r]? = some (.cells cur e m) ∧ e ∉ Ts) : KpT Ts W W' := fun b cs T m hb hT => by
  refine (hg.block b (Array.getElem?_eq_some_iff.1 hb).1 (fun e => ?_)).trans hb
  obtain ⟨cur, e', m', hc, hn⟩ := hr b e.symm
  rw [hb] at hc; cases hc; exact hn hT
theorem KpT.setCell {Ts : List TypeId} {W : World} {c : Nat} {cur : Array Value} {e : TypeId} {m : Nat × Nat} (h : W.heap[c]? = some (.cells cur e m)) (hn : e ∉ Ts) (o : Nat) (v : Value) : KpT Ts W (W.setCell ⟨c, o, none⟩ v) := fun b cs T m' hb hT => by
  rw [Below.heap_setCell W ⟨c, o, none⟩ v b (fun e' => ?_)]
  · exact hb
  · have e2 : b = c := e'
    rw [e2, h] at hb; cases hb; exact hn hT
theorem OF.aside {e s : Nat} {w : World} {B c T : Nat} {v x : Value} {vs : List Value} {L : List (List (BitVec 8))} (h : OF e s w B v L) (hb : Blk w c T vs) (hT : T ≠ e) (o : Nat) : OF e s (w.setCell ⟨c, o, none⟩ x) B v L :=
  h.same fun g hg => by
    refine Below.heap_setCell w ⟨c, o, none⟩ x g (fun e' => ?_)
    have e2 : g = c := e'
    obtain ⟨_, _, cur, m, hc⟩ := h.lt hg
    rw [e2, show w.heap[c]? = _ from hb] at hc; cases hc; exact hT rfl
theorem OF.keeps {e s : Nat} {W W' : World} {B : Nat} {v : Value} {L : List (List (BitVec 8))} (h : OF e s W B v L) (hg : W.grownBy W' v.ownBlock) : KeepsOthers W W' := .of_grownBy hg fun j o hj ho => by
  obtain ⟨_, _, cur, m, hc⟩ := h.lt hj
  rw [hc] at ho; cases ho; rfl
/-- Between two rounds of paired. -/
def PI (L : List (List (BitVec 8))) (w : World) (k : Nat) (W : World) : Prop := (∃ v, Blk W w.heap.size 55 [v] ∧ OF 57 64 W w.heap.size v (pairsN L k)) ∧ Below w.heap.size w W ∧ w.heap.size < W.heap.size
theorem PI.own (L : List (List (BitVec 8))) (w : World) (B : Nat) (hB : w.heap.size ≤ B) : OwnFrom B (PI L w) := fun k W W' row ⟨⟨v, h1, h2⟩, h3, h4⟩ hg hr =>
  ⟨⟨v, own_blk h1 hg (fun r e => (hr r e).2), h2.own hg (fun r e => (hr r e).2)⟩, h3.grown hg h3.size (fun k e => Nat.le_trans hB (hr k e).1), Nat.lt_of_lt_of_le h4 hg.size⟩
/-- What a round of paired reads. -/
def SPa (cb : Nat) (v : Value) (b p q : Nat) (X Y : List (BitVec 8)) (wq : World) : Prop := wq.cell? ⟨cb, 0, none⟩ = some v ∧ wq.rangeAt b p (vbs X) ∧ wq.rangeAt b q (vbs Y)
theorem SPa.below {cb : Nat} {v : Value} {b p q : Nat} {X Y : List (BitVec 8)} {W W' : World} (h : SPa cb v b p q X Y W) (hb : Below W.heap.size W W') (hc : cb < W.heap.size) (hl : b < W.heap.size) : SPa cb v b p q X Y W' :=
  ⟨(hb.cell (p := ⟨cb, 0, none⟩) hc).trans h.1, fun j u hj => (hb.cell (p := ⟨b, p + j, none⟩) hl).trans (h.2.1 j u hj), fun j u hj => (hb.cell (p := ⟨b, q + j, none⟩) hl).trans (h.2.2 j u hj)⟩
set_option maxHeartbeats 2000000 in
theorem paired_any (A : Option Addr) (n c : Nat) (L : List (List (BitVec 8))) (w : World) (hL : LenN 32 L) (hn : L.length = n) (hR : Rd w w.heap.size A L.flatten) (hn1 : n ≤ 100000) (hc : n ≤ c) :
    Calls Tryd.prog 46 #[.slice A n c] w (FPost 57 64 (pairsT L) w) := by
  refine (callsIn_wide (n := 1)).1 (callsIn_of_wp_marks Tryd.func46 rfl trivial (wpIn_wide.2 ?_) rfl)
  simp only [Tryd.ntmps46, List.size_toArray, List.length_cons, List.length_nil, Nat.reduceAdd, Nat.reduceSub, Array.replicate_succ, Array.replicate_zero, List.push_toArray, List.append_toArray, List.nil_append, List.cons_append]
  have HN := Lib.hid hn
  by_cases h2 : n < 2
  · have h2' : (n : Int) < 2 := by omega
    have e : pairsT L = [] := by unfold pairsT; rw [if_pos (by omega)]
    rw [e]
    clear hL hR hn e
    go_wp2_with fail
    exact ⟨_, results_tmp rfl _ _ _, _, rfl, OF.nil _ _ _ _, Below.refl _ _⟩
  · have h2' : ¬ (n : Int) < 2 := by omega
    have HR := Lib.hid hR
    clear hR hn
    go_wp2_with (go_at_call 48; (with_reducible refine (chunk_val _ _ _ _).mono ?_); rintro e w' ⟨rfl, rfl⟩; dsimp only)
    obtain ⟨b, o, rfl, hb, hrg⟩ := HR.out.row (by omega) hL (j := 0) (by have := HN.out; omega)
    have hbel : Below w.heap.size w (((w.alloc (.cells #[.slice none 0 0] 55)).alloc (.cells #[.slice (some ⟨b, o, none⟩) n c] 22)).alloc (.cells #[.int .i64 2] 3)) := (((Below.refl _ _).alloc (Nat.le_refl _) _).alloc (by simp) _).alloc (by simp; omega) _
    have b0 : Blk (((w.alloc (.cells #[.slice none 0 0] 55)).alloc (.cells #[.slice (some ⟨b, o, none⟩) n c] 22)).alloc (.cells #[.int .i64 2] 3)) w.heap.size 55 [.slice none 0 0] := ((Blk.new w 55 #[.slice none 0 0]).alloc _).alloc _
    have b1 : Blk (((w.alloc (.cells #[.slice none 0 0] 55)).alloc (.cells #[.slice (some ⟨b, o, none⟩) n c] 22)).alloc (.cells #[.int .i64 2] 3)) (w.heap.size + 1) 22 [.slice (some ⟨b, o, none⟩) n c] := by
      have := (Blk.new (w.alloc (.cells #[.slice none 0 0] 55)) 22 #[.slice (some ⟨b, o, none⟩) n c]).alloc (.cells #[.int .i64 2] 3)
      simpa using this
    have b2 : Blk (((w.alloc (.cells #[.slice none 0 0] 55)).alloc (.cells #[.slice (some ⟨b, o, none⟩) n c] 22)).alloc (.cells #[.int .i64 2] 3)) (w.heap.size + 1 + 1) 3 [.int .i64 2] := by
      have := Blk.new ((w.alloc (.cells #[.slice none 0 0] 55)).alloc (.cells #[.slice (some ⟨b, o, none⟩) n c] 22)) 3 #[.int .i64 2]
      simpa using this
    generalize (((w.alloc (.cells #[.slice none 0 0] 55)).alloc (.cells #[.slice (some ⟨b, o, none⟩) n c] 22)).alloc (.cells #[.int .i64 2] 3)) = W0 at hbel b0 b1 b2 ⊢
    have hsz := b0.lt
    refine wp_range (gf := 56) (lb := #[.pointer (some ⟨w.heap.size + 1, 0, none⟩), .pointer (some ⟨w.heap.size + 1 + 1, 0, none⟩)]) rfl (enters_of Tryd.func56 (by kernel_rfl) rfl)
      (chunk_seq (some ⟨b, o, none⟩) n c b o _ _ W0 b1 b2 (fun _ => rfl) (by omega) hc) (fun h k => h.trans k) KpT.putObj (Below.refl _ _) (fun k vs W h => by rw [h]; rfl) (fun k vs W l o o' h _ _ => h)
      (PI L w) (fun _ _ _ => False) (PI.own L w _ hbel.size) (fun c k W W' row h _ _ => h) ⟨⟨_, b0, OF.nil _ _ _ _⟩, hbel, hsz⟩
      (fun vs => { tmps := #[.slice (some ⟨b, o, none⟩) n c, undef, .slice none 0 0, .pointer (some ⟨w.heap.size, 0, none⟩), vs.getD 0 undef, .slice (some ⟨b, o, none⟩) n c, .int .i64 (n : Int), .bool false, .slice (some ⟨b, o, none⟩) n c, .func (.func 56) #[] #[.pointer (some ⟨w.heap.size + 1, 0, none⟩), .pointer (some ⟨w.heap.size + 1 + 1, 0, none⟩)], vs.getD 0 undef, undef, undef, undef, undef, undef, undef, undef, undef, undef, undef, undef, undef, undef, undef], defers := [] }) ?assign ?body ?done ?stop
    case assign =>
      intro l k vs W K hvs hK
      subst hvs
      gi_wp2
      exact hK
    case body =>
      rintro l k vs W ⟨⟨v, hB0, hO⟩, hBl, hlt⟩ hk rfl
      have hLn := HN.out
      have hk2 : 2 * k < n := by omega
      obtain ⟨p, hp⟩ : ∃ p, p = o + (2 * k) * 32 := ⟨_, rfl⟩
      obtain ⟨m, hm⟩ : ∃ m, m = min 2 (n - 2 * k) := ⟨_, rfl⟩
      obtain ⟨r, hr⟩ : ∃ r, r = m - 1 := ⟨_, rfl⟩
      have hg : (#[chV b o n k] : Array Value).getD 0 undef = .slice (some ⟨b, p, none⟩) m m := by show chV b o n k = _; unfold chV; rw [← hp, ← hm]
      rw [hg]
      have hri : (m : Int) - 1 = (r : Int) := by omega
      have hrm : r < m := by omega
      have hm0 : 0 < m := by omega
      have hm2 : m ≤ 2 := by omega
      obtain ⟨X, hX⟩ : ∃ X, X = L.getD (2 * k) [] := ⟨_, rfl⟩
      obtain ⟨Y, hY⟩ : ∃ Y, Y = L.getD (2 * k + r) [] := ⟨_, rfl⟩
      have hX32 : X.length = 32 := by rw [hX]; exact hL.at (by omega)
      have hY32 : Y.length = 32 := by rw [hY]; exact hL.at (by omega)
      have rX : W.rangeAt b p (vbs X) := fun j u hj => (hBl.cell (p := ⟨b, p + j, none⟩) hb).trans (by rw [hp]; exact hrg (2 * k) (by omega) j u (by rw [← hX]; exact hj))
      have rY : W.rangeAt b (p + r * 32) (vbs Y) := fun j u hj => (hBl.cell (p := ⟨b, p + r * 32 + j, none⟩) hb).trans (by
        have := hrg (2 * k + r) (by omega) j u (by rw [← hY]; exact hj)
        rw [hp, show o + 2 * k * 32 + r * 32 + j = o + (2 * k + r) * 32 + j by omega]; exact this)
      have eP : pairT L k = X ++ Y := by unfold pairT; rw [hX, hY, hr, hm, hLn]
      have hXY : (X ++ Y).length = 64 := by rw [List.length_append, hX32, hY32]
      have IX := Lib.hid (i25' (vs := vbs X) (by rw [vbs_len]; exact hX32))
      have IY := Lib.hid (i25' (vs := vbs Y) (by rw [vbs_len]; exact hY32))
      have HJ := Lib.hid (fun wq => mjoined_any X Y hX32 hY32 wq)
      have HXY := Lib.hid hXY
      have HS : Hid (SPa w.heap.size v b p (p + r * 32) X Y W) := ⟨hB0.cell rfl, rX, rY⟩
      have HB0 := Lib.hid hB0
      have HO := Lib.hid hO
      have HBl := Lib.hid hBl
      have HE := Lib.hid eP
      have hbW : b < W.heap.size := Nat.lt_of_lt_of_le hb hBl.size
      have hkl : (pairsN L k).length ≤ 1000000 := by rw [pairsN_len]; omega
      have HK := Lib.hid hkl
      clear hg hp hm hr hX hY hX32 hY32 rX rY eP hXY hB0 hO hBl hkl hLn HR hL HN hrg b0 b1 b2 hbel
      refine wpIn_block ?_
      refine wpIn_region_to (z := 12) (SPa w.heap.size v b p (p + r * 32) X Y) (by kernel_rfl) (by kernel_rfl) (fun ⟨_, _, h⟩ => h) ?_
      have hS : (SPa w.heap.size v b p (p + r * 32) X Y) W.drew := HS.out
      refine AnyTo.take (i := 0) (v := ?_) rfl (by kernel_rfl) (by kernel_rfl) (by kernel_rfl) (by kernel_rfl) (by kernel_rfl) (fun _ _ _ h => h) (Or.inl ⟨by rfl, ?_⟩) hS ?_
      rotate_left
      · (intro wq hq; obtain ⟨h1, h2, h3⟩ := hq; go_simp; try with_reducible rfl)
      try simp only [Act.put, List.setIfInBounds_toArray, List.set_cons_zero, List.set_cons_succ, List.getElem_toArray, List.getElem_cons_zero, List.getElem_cons_succ]
      refine AnyTo.take (i := 1) (v := ?_) rfl (by kernel_rfl) (by kernel_rfl) (by kernel_rfl) (by kernel_rfl) (by kernel_rfl) (fun _ _ _ h => h) (Or.inl ⟨by rfl, ?_⟩) hS ?_
      rotate_left
      · (intro wq hq; go_simp; try with_reducible rfl)
      try simp only [Act.put, List.setIfInBounds_toArray, List.set_cons_zero, List.set_cons_succ, List.getElem_toArray, List.getElem_cons_zero, List.getElem_cons_succ]
      refine AnyTo.take (i := 2) (v := .pointer (some ⟨b, p, none⟩)) rfl (by kernel_rfl) (by kernel_rfl) (by kernel_rfl) (by kernel_rfl) (by kernel_rfl) (fun _ _ _ h => h) (Or.inl ⟨by rfl, ?_⟩) hS ?_
      · (intro wq hq; go_simp)
      try simp only [Act.put, List.setIfInBounds_toArray, List.set_cons_zero, List.set_cons_succ, List.getElem_toArray, List.getElem_cons_zero, List.getElem_cons_succ]
      refine AnyTo.take (i := 3) (v := .agg (vbs X).toArray) rfl (by kernel_rfl) (by kernel_rfl) (by kernel_rfl) (by kernel_rfl) (by kernel_rfl) (fun _ _ _ h => h) ?_ hS ?_
      · exact yieldsIf_load_mid (by rfl) 25 (.tmp 13) rfl (b) p rfl (vbs X) _ (fun _ h => h.2.1) Tryd.underlying25 rfl IX.out
      try simp only [Act.put, List.setIfInBounds_toArray, List.set_cons_zero, List.set_cons_succ, List.getElem_toArray, List.getElem_cons_zero, List.getElem_cons_succ]
      refine AnyTo.take (i := 4) (v := ?_) rfl (by kernel_rfl) (by kernel_rfl) (by kernel_rfl) (by kernel_rfl) (by kernel_rfl) (fun _ _ _ h => h) (Or.inl ⟨by rfl, ?_⟩) hS ?_
      rotate_left
      · (intro wq hq; go_simp; try with_reducible rfl)
      try simp only [Act.put, List.setIfInBounds_toArray, List.set_cons_zero, List.set_cons_succ, List.getElem_toArray, List.getElem_cons_zero, List.getElem_cons_succ]
      refine AnyTo.take (i := 5) (v := ?_) rfl (by kernel_rfl) (by kernel_rfl) (by kernel_rfl) (by kernel_rfl) (by kernel_rfl) (fun _ _ _ h => h) (Or.inl ⟨by rfl, ?_⟩) hS ?_
      rotate_left
      · (intro wq hq; go_simp; try with_reducible rfl)
      try simp only [Act.put, List.setIfInBounds_toArray, List.set_cons_zero, List.set_cons_succ, List.getElem_toArray, List.getElem_cons_zero, List.getElem_cons_succ]
      refine AnyTo.take (i := 6) (v := ?_) rfl (by kernel_rfl) (by kernel_rfl) (by kernel_rfl) (by kernel_rfl) (by kernel_rfl) (fun _ _ _ h => h) (Or.inl ⟨by rfl, ?_⟩) hS ?_
      rotate_left
      · (intro wq hq; go_simp; try with_reducible rfl)
      try simp only [Act.put, List.setIfInBounds_toArray, List.set_cons_zero, List.set_cons_succ, List.getElem_toArray, List.getElem_cons_zero, List.getElem_cons_succ]
      refine AnyTo.take (i := 7) (v := .int .i64 (r : Int)) rfl (by kernel_rfl) (by kernel_rfl) (by kernel_rfl) (by kernel_rfl) (by kernel_rfl) (fun _ _ _ h => h) (Or.inl ⟨by rfl, ?_⟩) hS ?_
      · (intro wq hq; go_simp; exact IntWalk.i64_in _ (by omega))
      try simp only [Act.put, List.setIfInBounds_toArray, List.set_cons_zero, List.set_cons_succ, List.getElem_toArray, List.getElem_cons_zero, List.getElem_cons_succ]
      refine AnyTo.take (i := 8) (v := .pointer (some ⟨b, p + r * 32, none⟩)) rfl (by kernel_rfl) (by kernel_rfl) (by kernel_rfl) (by kernel_rfl) (by kernel_rfl) (fun _ _ _ h => h) (Or.inl ⟨by rfl, ?_⟩) hS ?_
      · (intro wq hq; go_simp)
      try simp only [Act.put, List.setIfInBounds_toArray, List.set_cons_zero, List.set_cons_succ, List.getElem_toArray, List.getElem_cons_zero, List.getElem_cons_succ]
      refine AnyTo.take (i := 9) (v := .agg (vbs Y).toArray) rfl (by kernel_rfl) (by kernel_rfl) (by kernel_rfl) (by kernel_rfl) (by kernel_rfl) (fun _ _ _ h => h) ?_ hS ?_
      · exact yieldsIf_load_mid (by rfl) 25 (.tmp 19) rfl (b) (p + r * 32) rfl (vbs Y) _ (fun _ h => h.2.2) Tryd.underlying25 rfl IY.out
      try simp only [Act.put, List.setIfInBounds_toArray, List.set_cons_zero, List.set_cons_succ, List.getElem_toArray, List.getElem_cons_zero, List.getElem_cons_succ]
      refine AnyTo.gone (i := 10) (by kernel_rfl) rfl (by rfl) (fun K hK => ?_)
      go_simp
      (with_reducible refine (HJ.out _).mono ?_)
      rintro e W1 ⟨rfl, hb1⟩
      dsimp only
      have hS : SPa w.heap.size v b p (p + r * 32) X Y W1 := (show SPa w.heap.size v b p (p + r * 32) X Y W from HS.out).below ⟨hb1.os, hb1.tape, hb1.output, hb1.size, hb1.block⟩ hlt hbW
      have Hb1 : Hid (Below W.heap.size W W1) := ⟨hb1.os, hb1.tape, hb1.output, hb1.size, hb1.block⟩
      clear hb1
      refine hK _ _ (fun _ => hS) ?_
      clear hK K
      try simp only [Act.put, List.setIfInBounds_toArray, List.set_cons_zero, List.set_cons_succ, List.getElem_toArray, List.getElem_cons_zero, List.getElem_cons_succ]
      refine AnyTo.gone (i := 11) (by kernel_rfl) rfl (by rfl) (fun K hK => ?_)
      refine wp_rows 55 57 64 (by omega) #[(0, .tmp 21)] [X ++ Y] (.one HXY.out) (by simp) (by simp) rfl Tryd.underlying55 info57 (by kernel_rfl) (by rfl) ?_
      have hb2 : Below W.heap.size W (W1.alloc (.cells (vbs [X ++ Y].flatten).toArray 57)) := Hb1.out.alloc Hb1.out.size _
      have hg : Blk (W1.alloc (.cells (vbs [X ++ Y].flatten).toArray 57)) W1.heap.size 57 (vbs (X ++ Y)) := by
        have := Blk.new W1 57 (vbs [X ++ Y].flatten).toArray
        simpa using this
      have hS : SPa w.heap.size v b p (p + r * 32) X Y (W1.alloc (.cells (vbs [X ++ Y].flatten).toArray 57)) := HS.out.below hb2 hlt hbW
      have h1s : W.heap.size ≤ W1.heap.size := Hb1.out.size
      generalize (W1.alloc (.cells (vbs [X ++ Y].flatten).toArray 57)) = W2 at hb2 hg hS ⊢
      generalize W1.heap.size = g at hg h1s ⊢
      have HG := Lib.hid hg
      have Hb2 := Lib.hid hb2
      clear hb2 hg Hb1
      refine hK _ _ (fun _ => hS) ?_
      clear hK K
      try simp only [Act.put, List.setIfInBounds_toArray, List.set_cons_zero, List.set_cons_succ, List.getElem_toArray, List.getElem_cons_zero, List.getElem_cons_succ]
      refine AnyTo.gone (i := 12) (by kernel_rfl) rfl (by rfl) (fun K hK => ?_)
      refine wp_appF (t := 55) Tryd.underlying55 info57f rfl (by omega) (by omega) (.tmp 11) (.tmp 22) rfl rfl w.heap.size v (pairsN L k) rfl (HO.out.below Hb2.out) g 57 1 (X ++ Y) rfl HXY.out HG.out HK.out (Nat.le_trans (Nat.le_of_lt hlt) Hb2.out.size) ?_
      intro v' W3 ho3 hg3
      obtain ⟨A3, cp3, e3, _⟩ := ho3.rd
      rw [List.length_append, List.length_singleton, pairsN_len] at e3
      subst e3
      have hO2 := HO.out.below Hb2.out
      have hvb : ∀ gg, v.ownBlock = some gg → gg ≠ w.heap.size := fun gg e h => by
        subst h
        obtain ⟨_, _, cur, mm, hcur⟩ := HO.out.lt e
        have := HB0.out
        unfold Blk at this
        rw [hcur] at this; cases this
      have B3 : Blk W3 w.heap.size 55 [v] := (HB0.out.below Hb2.out hlt).grown hg3 (fun e => hvb _ e.symm rfl)
      have hgW : W.grownBy W3 v.ownBlock := ⟨hg3.os.trans Hb2.out.os, hg3.tape.trans Hb2.out.tape, hg3.output.trans Hb2.out.output, Nat.le_trans Hb2.out.size hg3.size, fun j hj hne => (hg3.block j (Nat.lt_of_lt_of_le hj Hb2.out.size) hne).trans (Hb2.out.block j hj)⟩
      have HO3 := Lib.hid ho3
      have HB3 := Lib.hid B3
      have HGW := Lib.hid hgW
      have c3 := B3.cell (j := 0) (v := v) rfl
      have f3 := B3.free 0
      clear ho3 hg3 hO2 B3 hgW hS HG Hb2
      refine hK _ _ (fun h => absurd h (by decide)) ?_
      clear hK K
      try simp only [Act.put, List.setIfInBounds_toArray, List.set_cons_zero, List.set_cons_succ, List.getElem_toArray, List.getElem_cons_zero, List.getElem_cons_succ]
      refine AnyTo.gone (i := 13) (by kernel_rfl) rfl (by rfl) (fun K hK => ?_)
      go_simp
      refine hK _ _ (fun h => absurd h (by decide)) ?_
      clear hK K
      try simp only [Act.put, List.setIfInBounds_toArray, List.set_cons_zero, List.set_cons_succ, List.getElem_toArray, List.getElem_cons_zero, List.getElem_cons_succ]
      refine AnyTo.done (by kernel_rfl) ?_ _
      try dsimp only [Exit.then]
      show KeepsOthers W _ ∧ KpT [22, 3] W _ ∧ PI L w (k + 1) _
      have hO := HO.out
      refine ⟨(hO.keeps HGW.out).trans (KeepsOthers.setCell _ _ _), (KpT.grown HGW.out (fun r e => ?_)).trans (KpT.setCell (show W3.heap[w.heap.size]? = _ from HB3.out) (by decide) _ _), ⟨_, HB3.out.set 0 _, ?_⟩, ((HBl.out.grown HGW.out HBl.out.size (fun k e => (hO.lt e).2.1)).setCell (Nat.le_refl _) _), ?_⟩
      · obtain ⟨_, _, cur, mm, hc⟩ := hO.lt e
        exact ⟨cur, _, mm, hc, by decide⟩
      · rw [pairsN_succ, HE.out]
        exact HO3.out.aside HB3.out (by decide) 0
      · have := HGW.out.size
        show _ < (W3.setCell _ _).heap.size
        simp [World.setCell]; omega
    case done =>
      rintro D W hD ⟨⟨v, hB0, hO⟩, hBl, hlt⟩ hDf
      have c3 := hB0.cell (j := 0) (v := v) rfl
      have HB0 := Lib.hid hB0
      have HO := Lib.hid hO
      have HBl := Lib.hid hBl
      have HDf := Lib.hid hDf
      clear hB0 hO hBl hDf b0 b1 b2 HR hrg hL
      go_wp2_with fail
      refine ⟨by simp, .inl ⟨_, _, rfl, run_takeDeferred HDf.out, ?_⟩⟩
      have hgp := grownBy_putObj' W D (.deferred none)
      have hcell : ∀ r, some D = some r → ∃ o : Obj, W.heap[r]? = some o ∧ o.isCells = false := fun r e => by cases e; exact ⟨_, HDf.out, rfl⟩
      refine ⟨_, results_tmp rfl _ _ _, v, rfl, ?_, HBl.out.grown hgp HBl.out.size (fun k e => by cases e; exact Nat.le_trans (Nat.le_of_lt hsz) hD)⟩
      have e : pairsT L = pairsN L ((n + 1) / 2) := by unfold pairsT; rw [if_neg (by rw [HN.out]; exact h2), HN.out]
      rw [e]
      exact HO.out.own hgp hcell
    case stop =>
      intro D c k W _ _ h _
      exact h.elim
end Go.Proofs.YtihbmahjdmfjpaaDoor
