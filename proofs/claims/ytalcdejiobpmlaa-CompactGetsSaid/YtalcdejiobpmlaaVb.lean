/- The document's own Take where there are so many bytes. -/
import Derived.Test.YtalcdejiobpmlaaVa
import Derived.StillTailTactics
import Derived.Outline
namespace Go.Proofs.Ytalcdejiobpmlaa
open Go.RowKit
set_option linter.unusedVariables false
set_option linter.unusedSimpArgs false
def SQ (q : Nat) (A : Option Addr) (m cap a : Nat) (w : World) : Prop := w.cell? ⟨q, 0, none⟩ = some (.slice A m cap) ∧ w.cell? ⟨q, 1, none⟩ = some (.int .i64 a)
theorem src_len {w : World} {B m : Nat} {A : Option Addr} {R : List (BitVec 8)} (h : Rd w B A R) (hm : R.length = m) : Src22 w A m (vbs R) := by subst hm; exact src_of_rd h
theorem IsQ.below {w w' : World} {B B' q a cap : Nat} {X : List (BitVec 8)} {gone : Bool} {A : Option Addr} (h : IsQ w B q X a gone A cap) (hb : Below B' w w') (hB : B ≤ B') : IsQ w' B q X a gone A cap :=
  ⟨h.blk.same (hb.block q (by have := h.lt; omega)), h.own.keep (hb.mono hB), h.lt, h.le, h.cap_, h.nil_, h.at_⟩
theorem OB.far {w : World} {B : Nat} {v : Value} {L : List (BitVec 8)} (h : OB w B v L) {a : Addr} (ha : a.block < B) (u : Value) : OB (w.setCell a u) B v L := ownsRow_setCell_below h ha u
theorem rtake_yes (q B a cap : Nat) (A : Option Addr) (X : List (BitVec 8)) (k : Nat) (w : World) (h : IsQ w B q X a false A cap) (hB : B ≤ w.heap.size) (hk : a + k ≤ X.length) (hX : X.length ≤ 100000000) :
    Calls Try.prog 32 #[.pointer (some ⟨q, 0, none⟩), .int .i64 k] w (RTakePost ((X.drop a).take k) (some (X.drop (a + k))) B q X A cap w) := by
  have c0 := h.blk.cell (j := 0) (v := .slice A X.length cap) rfl
  have c1 := h.blk.cell (j := 1) (v := .int .i64 a) rfl
  have c2 := h.blk.cell (j := 2) (v := .bool false) rfl
  have f1 := h.blk.free 1
  have hl := h.le
  have hm := h.cap_
  have HI := Lib.hid h
  have HX := Lib.hid hX
  have HBB := Lib.hid hB
  obtain ⟨m, hmm⟩ : ∃ m, m = X.length := ⟨_, rfl⟩
  have Hm := Lib.hid hmm
  rw [← hmm] at c0 hl hk
  have h0 : decide ((k : Int) < 0) = false := by simp
  have h1 : decide ((m : Int) - a < k) = false := by simp; omega
  have hm8 : m ≤ 100000000 := by omega
  clear h hmm hX hB
  go_enter Try.func32, Try.ntmps32
  go_wp2
  go_quiet (fail)
  go_wp2
  have hw14 : IntKind.i64.wrap ((a : Int) + (k : Int)) = ((a + k : Nat) : Int) := by rw [IntWalk.i64_in _ (by omega)]; simp
  generalize hw2 : w.drewN nq = w2
  have d0 : w2.cell? ⟨q, 0, none⟩ = some (.slice A m cap) := by rw [← hw2]; exact c0
  have d1 : w2.cell? ⟨q, 1, none⟩ = some (.int .i64 a) := by rw [← hw2]; exact c1
  have HW := Lib.hid hw2
  clear hw2 c0 c1
  have hI2 : IsQ w2 B q X a false A cap := by rw [← HW.out]; exact HI.out.drewN _
  have HI2 := Lib.hid hI2
  have hXk : ((X.drop a).take k).length = k := by rw [List.length_take, List.length_drop, ← Hm.out]; omega
  have HSrc := Lib.hid (src_len ((hI2.own.dropB a hI2.le).takeB k (by rw [List.length_drop, ← Hm.out]; omega)) hXk)
  have HNil : Hid ((if cap = a then A else A.map (·.add a)) = none → cap - a = 0) := fun h => by
    by_cases e : cap = a
    · omega
    · rw [if_neg e] at h; have := hI2.nil_ (by simpa using h); omega
  have HXk := Lib.hid hXk
  clear hI2 hXk
  have c0 := d0
  have c1 := d1
  clear d0 d1
  refine wp_region_but (z := 17) (SQ q A m cap a) (by kernel_rfl) ?_
  have hS : (SQ q A m cap a) _ := ⟨c0, c1⟩
  refine AnyBut.take (i := 0) (v := ?_) rfl (by kernel_rfl) (by kernel_rfl) (by kernel_rfl) (by kernel_rfl) (fun _ _ _ h => h) (Or.inl ⟨by rfl, ?_⟩) hS ?_
  rotate_left
  · (intro wq hq; go_simp; try with_reducible rfl)
  try simp only [Act.put, List.setIfInBounds_toArray, List.set_cons_zero, List.set_cons_succ, List.getElem_toArray, List.getElem_cons_zero, List.getElem_cons_succ]
  refine AnyBut.take (i := 1) (v := ?_) rfl (by kernel_rfl) (by kernel_rfl) (by kernel_rfl) (by kernel_rfl) (fun _ _ _ h => h) (Or.inl ⟨by rfl, ?_⟩) hS ?_
  rotate_left
  · (intro wq hq; go_simp; try with_reducible rfl)
  try simp only [Act.put, List.setIfInBounds_toArray, List.set_cons_zero, List.set_cons_succ, List.getElem_toArray, List.getElem_cons_zero, List.getElem_cons_succ]
  refine AnyBut.take (i := 2) (v := ?_) rfl (by kernel_rfl) (by kernel_rfl) (by kernel_rfl) (by kernel_rfl) (fun _ _ _ h => h) (Or.inl ⟨by rfl, ?_⟩) hS ?_
  rotate_left
  · (intro wq hq; go_simp; try with_reducible rfl)
  try simp only [Act.put, List.setIfInBounds_toArray, List.set_cons_zero, List.set_cons_succ, List.getElem_toArray, List.getElem_cons_zero, List.getElem_cons_succ]
  refine AnyBut.take (i := 3) (v := ?_) rfl (by kernel_rfl) (by kernel_rfl) (by kernel_rfl) (by kernel_rfl) (fun _ _ _ h => h) (Or.inl ⟨by rfl, ?_⟩) hS ?_
  rotate_left
  · (intro wq hq; go_simp; try with_reducible rfl)
  try simp only [Act.put, List.setIfInBounds_toArray, List.set_cons_zero, List.set_cons_succ, List.getElem_toArray, List.getElem_cons_zero, List.getElem_cons_succ]
  refine AnyBut.take (i := 4) (v := ?_) rfl (by kernel_rfl) (by kernel_rfl) (by kernel_rfl) (by kernel_rfl) (fun _ _ _ h => h) (Or.inl ⟨by rfl, ?_⟩) hS ?_
  rotate_left
  · (intro wq hq; obtain ⟨d0, d1⟩ := hq; go_simp; try with_reducible rfl)
  try simp only [Act.put, List.setIfInBounds_toArray, List.set_cons_zero, List.set_cons_succ, List.getElem_toArray, List.getElem_cons_zero, List.getElem_cons_succ]
  refine AnyBut.take (i := 5) (v := ?_) rfl (by kernel_rfl) (by kernel_rfl) (by kernel_rfl) (by kernel_rfl) (fun _ _ _ h => h) (Or.inl ⟨by rfl, ?_⟩) hS ?_
  rotate_left
  · (intro wq hq; go_simp; try with_reducible rfl)
  try simp only [Act.put, List.setIfInBounds_toArray, List.set_cons_zero, List.set_cons_succ, List.getElem_toArray, List.getElem_cons_zero, List.getElem_cons_succ]
  refine AnyBut.take (i := 6) (v := ?_) rfl (by kernel_rfl) (by kernel_rfl) (by kernel_rfl) (by kernel_rfl) (fun _ _ _ h => h) (Or.inl ⟨by rfl, ?_⟩) hS ?_
  rotate_left
  · (intro wq hq; go_simp; try with_reducible rfl)
  try simp only [Act.put, List.setIfInBounds_toArray, List.set_cons_zero, List.set_cons_succ, List.getElem_toArray, List.getElem_cons_zero, List.getElem_cons_succ]
  refine AnyBut.take (i := 7) (v := ?_) rfl (by kernel_rfl) (by kernel_rfl) (by kernel_rfl) (by kernel_rfl) (fun _ _ _ h => h) (Or.inl ⟨by rfl, ?_⟩) hS ?_
  rotate_left
  · (intro wq hq; go_simp; try with_reducible rfl)
  try simp only [Act.put, List.setIfInBounds_toArray, List.set_cons_zero, List.set_cons_succ, List.getElem_toArray, List.getElem_cons_zero, List.getElem_cons_succ]
  refine AnyBut.take (i := 8) (v := ?_) rfl (by kernel_rfl) (by kernel_rfl) (by kernel_rfl) (by kernel_rfl) (fun _ _ _ h => h) (Or.inl ⟨by rfl, ?_⟩) hS ?_
  rotate_left
  · (intro wq hq; obtain ⟨d0, d1⟩ := hq; go_simp; try with_reducible rfl)
  try simp only [Act.put, List.setIfInBounds_toArray, List.set_cons_zero, List.set_cons_succ, List.getElem_toArray, List.getElem_cons_zero, List.getElem_cons_succ]
  refine AnyBut.take (i := 9) (v := ?_) rfl (by kernel_rfl) (by kernel_rfl) (by kernel_rfl) (by kernel_rfl) (fun _ _ _ h => h) (Or.inl ⟨by rfl, ?_⟩) hS ?_
  rotate_left
  · (intro wq hq; go_simp; try with_reducible rfl)
  try simp only [Act.put, List.setIfInBounds_toArray, List.set_cons_zero, List.set_cons_succ, List.getElem_toArray, List.getElem_cons_zero, List.getElem_cons_succ]
  refine AnyBut.take (i := 10) (v := ?_) rfl (by kernel_rfl) (by kernel_rfl) (by kernel_rfl) (by kernel_rfl) (fun _ _ _ h => h) (Or.inl ⟨by rfl, ?_⟩) hS ?_
  rotate_left
  · (intro wq hq; go_simp; try with_reducible rfl)
  try simp only [Act.put, List.setIfInBounds_toArray, List.set_cons_zero, List.set_cons_succ, List.getElem_toArray, List.getElem_cons_zero, List.getElem_cons_succ]
  refine AnyBut.take (i := 11) (v := ?_) rfl (by kernel_rfl) (by kernel_rfl) (by kernel_rfl) (by kernel_rfl) (fun _ _ _ h => h) (Or.inl ⟨by rfl, ?_⟩) hS ?_
  rotate_left
  · (intro wq hq; go_simp; try with_reducible rfl)
  try simp only [Act.put, List.setIfInBounds_toArray, List.set_cons_zero, List.set_cons_succ, List.getElem_toArray, List.getElem_cons_zero, List.getElem_cons_succ]
  refine AnyBut.take (i := 12) (v := ?_) rfl (by kernel_rfl) (by kernel_rfl) (by kernel_rfl) (by kernel_rfl) (fun _ _ _ h => h) (Or.inl ⟨by rfl, ?_⟩) hS ?_
  rotate_left
  · (intro wq hq; obtain ⟨d0, d1⟩ := hq; go_simp; try with_reducible rfl)
  try simp only [Act.put, List.setIfInBounds_toArray, List.set_cons_zero, List.set_cons_succ, List.getElem_toArray, List.getElem_cons_zero, List.getElem_cons_succ]
  refine AnyBut.take (i := 13) (v := ?_) rfl (by kernel_rfl) (by kernel_rfl) (by kernel_rfl) (by kernel_rfl) (fun _ _ _ h => h) (Or.inl ⟨by rfl, ?_⟩) hS ?_
  rotate_left
  · (intro wq hq; go_simp; try with_reducible rfl)
  try simp only [Act.put, List.setIfInBounds_toArray, List.set_cons_zero, List.set_cons_succ, List.getElem_toArray, List.getElem_cons_zero, List.getElem_cons_succ]
  refine AnyBut.take (i := 14) (v := .int .i64 ((a + k : Nat) : Int)) rfl (by kernel_rfl) (by kernel_rfl) (by kernel_rfl) (by kernel_rfl) (fun _ _ _ h => h) (Or.inl ⟨by rfl, ?_⟩) hS ?_
  · intro wq hq
    go_simp
    skip
  try simp only [Act.put, List.setIfInBounds_toArray, List.set_cons_zero, List.set_cons_succ, List.getElem_toArray, List.getElem_cons_zero, List.getElem_cons_succ]
  refine AnyBut.take (i := 15) (v := .slice (if cap = a then A else A.map (·.add a)) k (cap - a)) rfl (by kernel_rfl) (by kernel_rfl) (by kernel_rfl) (by kernel_rfl) (fun _ _ _ h => h) (Or.inl ⟨by rfl, ?_⟩) hS ?_
  · intro wq hq
    go_simp
    rw [if_pos (by omega), if_pos (by omega), show ((a : Int) + (k : Int)).toNat - a = k by omega]
  try simp only [Act.put, List.setIfInBounds_toArray, List.set_cons_zero, List.set_cons_succ, List.getElem_toArray, List.getElem_cons_zero, List.getElem_cons_succ]
  refine AnyBut.gone (i := 16) (by kernel_rfl) rfl (by rfl) (fun K hK => ?_)
  refine wp_app (.tmp 31) (.tmp 46) rfl rfl w2.heap.size (.slice none 0 0) 0 [] rfl (OB.nil w2 w2.heap.size) (if cap = a then A else A.map (·.add a)) k (cap - a) (vbs ((X.drop a).take k)) rfl HSrc.out HNil.out (by omega) (Nat.le_refl _) ?_
  intro v w3 ho3 hg3
  have hS : SQ q A m cap a w3 := ⟨hg3.cell hS.1 (fun e => by simp [Value.ownBlock] at e), hg3.cell hS.2 (fun e => by simp [Value.ownBlock] at e)⟩
  refine hK _ _ (fun _ => hS) ?_
  clear hK K
  refine AnyBut.gone (i := 17) (by kernel_rfl) rfl (by rfl) (fun K hK => ?_)
  go_simp
  refine hK _ _ (fun h => absurd rfl h) ?_
  clear hK K
  refine AnyBut.done (by kernel_rfl) ?_ _
  dsimp only [Exit.then]
  have hb3 : Below w2.heap.size w2 w3 := ⟨hg3.os, hg3.tape, hg3.output, hg3.size, fun b hb => hg3.block b hb (by simp [Value.ownBlock])⟩
  have hI3 : IsQ w3 B q X a false A cap := HI2.out.below hb3 (by rw [← HW.out]; exact HBB.out)
  have HI3 := Lib.hid hI3
  have HG3 := Lib.hid hb3
  have HO3 := Lib.hid ho3
  have c1 := hI3.blk.cell (j := 1) (v := .int .i64 a) rfl
  have f1 := hI3.blk.free 1
  clear hI3 hg3 ho3 hS hb3 HSrc HNil hw14
  generalize (if cap = a then A else A.map (·.add a)) = AA
  go_wp2
  go_ret
  have hI4 : IsQ (w3.setCell ⟨q, 1, none⟩ (.int .i64 ((a : Int) + (k : Int)))) B q X (a + k) false A cap := by
    have h := HI3.out
    refine ⟨?_, h.own.storeQ h.blk (noQ _ _ _ _ _) 1 _, h.lt, h.le, h.cap_, h.nil_, by rw [← Hm.out]; exact hk⟩
    have := h.blk.set 1 (.int .i64 ((a : Int) + (k : Int)))
    simpa using this
  have hg : w.grownBy (w3.setCell ⟨q, 1, none⟩ (.int .i64 ((a : Int) + (k : Int)))) (some q) := by
    refine grown_setCells [_] 1 w3 ?_
    have h := HG3.out
    rw [← HW.out] at h
    exact ⟨h.os, h.tape, h.output, h.size, fun b hb hne => h.block b hb⟩
  refine ⟨v, a + k, false, rfl, ?_, hI4, rfl, hg⟩
  have ho : OB w3 w2.heap.size v ((X.drop a).take k) := by
    have h := HO3.out
    unfold OB
    rw [HXk.out]
    simpa using h
  have hs : w2.heap.size = w.heap.size := by rw [← HW.out]; rfl
  rw [hs] at ho
  exact ho.far (by have := HI2.out.lt; have := HBB.out; show q < _; omega) _
end Go.Proofs.Ytalcdejiobpmlaa
