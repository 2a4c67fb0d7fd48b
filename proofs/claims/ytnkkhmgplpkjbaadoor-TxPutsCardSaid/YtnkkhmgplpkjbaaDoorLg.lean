/- A captured variable that holds a row of bytes of the call's own, and what an append to it makes of it. -/
import Derived.Test.YtnkkhmgplpkjbaaDoorLf
import Derived.Test.YtnkkhmgplpkjbaaDoorLe
import Derived.Test.YtnkkhmgplpkjbaaDoorKc
namespace Go.Proofs.YtnkkhmgplpkjbaaDoor
open Go.RowKit
set_option linter.unusedVariables false
set_option linter.unusedSimpArgs false
set_option maxRecDepth 100000
/-- Nothing that lay there in W0 has changed. -/
def SB (W0 w : World) : Prop := Below W0.heap.size W0 w
theorem SB.size {W0 w : World} (h : SB W0 w) : W0.heap.size ≤ w.heap.size := Below.size h
theorem SB.next {W0 w w' : World} (h : SB W0 w) (hb : Below w.heap.size w w') : SB W0 w' := Below.trans h (hb.mono h.size)
theorem SB.cell {W0 w : World} (h : SB W0 w) {b o : Nat} {v : Value} (hc : W0.cell? ⟨b, o, none⟩ = some v) : w.cell? ⟨b, o, none⟩ = some v := by
  rw [Below.cell h (p := ⟨b, o, none⟩) (World.block_lt_of_cell? _ _ hc)]; exact hc
theorem SB.refl (w : World) : SB w w := Below.refl _ _
/-- The variable in block cb holds the value v, a row of the call's own with the bytes L; below B all is as in w0. -/
structure CapV (w0 : World) (B cb : Nat) (v : Value) (w : World) (L : List (BitVec 8)) : Prop where
  blk : Blk w cb 27 [v]
  ob : OB w B v L
  bel : Below B w0 w
  le : B ≤ cb
  sz : B ≤ w0.heap.size
theorem CapV.drew {w0 : World} {B cb : Nat} {v : Value} {w : World} {L : List (BitVec 8)} (h : CapV w0 B cb v w L) : CapV w0 B cb v w.drew L := ⟨h.blk, h.ob, h.bel.drew, h.le, h.sz⟩
theorem CapV.next {w0 : World} {B cb : Nat} {v : Value} {w w' : World} {L : List (BitVec 8)} (h : CapV w0 B cb v w L) (hb : Below w.heap.size w w') : CapV w0 B cb v w' L :=
  ⟨h.blk.below hb h.blk.lt, OB.below (B' := 0) h.ob hb, h.bel.trans (hb.mono (Nat.le_trans h.sz h.bel.size)), h.le, h.sz⟩
theorem CapV.hB {w0 : World} {B cb : Nat} {v : Value} {w : World} {L : List (BitVec 8)} (h : CapV w0 B cb v w L) : B ≤ w.heap.size := Nat.le_trans h.sz h.bel.size
theorem own_ne {w : World} {B cb g : Nat} {v u : Value} {L : List (BitVec 8)} (h : OB w B v L) (hb : Blk w cb 27 [u]) (hg : v.ownBlock = some g) : g ≠ cb := by
  intro e
  subst e
  rcases h.2 with ⟨rfl, _⟩ | ⟨g', cap, cur, rfl, _, hgg, _⟩
  · simp [Value.ownBlock] at hg
  · have : g' = g := by simpa [Value.ownBlock] using hg
    subst this
    unfold Blk at hb
    rw [hgg] at hb
    simp at hb
theorem OB.aside {w : World} {B cb : Nat} {v u x : Value} {L : List (BitVec 8)} (h : OB w B v L) (hb : Blk w cb 27 [u]) : OB (w.setCell ⟨cb, 0, none⟩ x) B v L := by
  refine ⟨h.1, ?_⟩
  rcases h.2 with hn | ⟨g, cap, cur, rfl, hbb, hgg, rest⟩
  · exact .inl hn
  · refine .inr ⟨g, cap, cur, rfl, hbb, ?_, rest⟩
    rw [Below.heap_setCell _ _ _ _ (fun e => own_ne h hb (g := g) (by simp [Value.ownBlock]) e)]
    exact hgg
/-- Behind an append to the variable's value: what the store asks for, and what it makes. -/
theorem CapV.app {w0 : World} {B cb m : Nat} {v v' : Value} {w w' : World} {L M : List (BitVec 8)} (h : CapV w0 B cb v w L) (h2 : w'.ownsRow B 5 1 v' (L.length + m) (vbs L ++ vbs M)) (h3 : w.grownBy w' v.ownBlock) :
    w'.cell? ⟨cb, 0, none⟩ = some v ∧ w'.frozen? ⟨cb, 0, none⟩ = false ∧ CapV w0 B cb v' (w'.setCell ⟨cb, 0, none⟩ v') (L ++ M) ∧ ∃ A n c, v' = .slice A n c := by
  have hm : m = M.length := by have := h2.1; simp only [List.length_append, vbs_len] at this; omega
  subst hm
  have hA := OB.app h.ob h.bel h.hB (Nat.le_refl _) h2 h3
  have hne : some cb ≠ v.ownBlock := fun e => own_ne h.ob h.blk e.symm rfl
  have hb' := h.blk.grown h3 hne
  refine ⟨hb'.cell rfl, hb'.free 0, ⟨hb'.set 0 v', hA.1.aside hb', hA.2.setCell h.le _, h.le, h.sz⟩, ?_⟩
  rcases hA.1.2 with ⟨rfl, _⟩ | ⟨g, cap, cur, rfl, _⟩ <;> exact ⟨_, _, _, rfl⟩
theorem slice55all (b o : Nat) (w : World) : (Instr.sliceAt 38 (.pointer (some ⟨b, o, none⟩)) none none none).run Tryd.prog w = .ok (.slice (some ⟨b, o, none⟩) 32 32) w := by
  rw [run_sliceAt_array_all w 38 _ (by kernel_rfl)]
  have hs : (sizeOf (Tryd.prog.elem 38)).run Tryd.prog w = .ok 1 w := by kernel_rfl
  have hl : Tryd.prog.arrayLen 38 = 32 := by kernel_rfl
  rw [hs, hl]
  rfl
theorem slice_form {w : World} {B : Nat} {v : Value} {L : List (BitVec 8)} (h : OB w B v L) : ∃ A c, v = .slice A L.length c ∧ Rd w w.heap.size A L ∧ (A = none → c = 0) := by
  obtain ⟨A, c, e, hr, _, _, hc⟩ := h.rd
  exact ⟨A, c, e, hr, hc⟩
/-- The bytes of an input, of an output, of a witness. -/
def txt (L : List (BitVec 8)) : List (BitVec 8) := form L.length ++ L
def inB (x : TIn) : List (BitVec 8) := x.tx ++ les x.ix 4 ++ txt x.sc ++ les x.sq 4
def u64 (z : Int) : Nat := (z % 18446744073709551616).toNat
def outB (y : TOut) : List (BitVec 8) := les (u64 y.vl) 8 ++ txt y.sc
def witB (x : TIn) : List (BitVec 8) := form x.wt.length ++ (x.wt.map txt).flatten
end Go.Proofs.YtnkkhmgplpkjbaaDoor
