/- The document's own reader: what Left, End and Take tell, and what the reader is then. -/
import Derived.Test.YtefiacnpbkancaaDoorUb
import Derived.StillTailTactics
import Derived.Outline
namespace Go.Proofs.YtefiacnpbkancaaDoor
open Go.RowKit
set_option maxRecDepth 100000
set_option linter.unusedVariables false
set_option linter.unusedSimpArgs false
/-- No cell of these is a byte. -/
def noU8 (vs : List Value) : Prop := ∀ v ∈ vs, ∀ x, v ≠ Value.int .u8 x
theorem noQ (A : Option Addr) (n cap : Nat) (a : Int) (b : Bool) : noU8 [.slice A n cap, .int .i64 a, .bool b] := by
  intro v hv x
  simp only [List.mem_cons, List.not_mem_nil, or_false] at hv
  rcases hv with rfl | rfl | rfl <;> simp
theorem noR (v : Value) (hv : ∀ x, v ≠ Value.int .u8 x) (b : Bool) : noU8 [v, .bool b] := by
  intro u hu x
  simp only [List.mem_cons, List.not_mem_nil, or_false] at hu
  rcases hu with rfl | rfl
  · exact hv x
  · simp
theorem cell_noU8 {w : World} {g T o : Nat} {vs : List Value} (hg : Blk w g T vs) (hv : noU8 vs) {x : Int} (hc : w.cell? ⟨g, o, none⟩ = some (.int .u8 x)) : False := by
  have e : w.cell? ⟨g, o, none⟩ = vs[o]? := by
    unfold Blk at hg; simp [World.cell?, hg]
  rw [e] at hc
  exact hv _ (List.mem_of_getElem? hc) x rfl
/-- Where the heap is as it was but for a block that holds no byte, the bytes stay. -/
theorem Rd.but {w w' : World} {B g T : Nat} {A : Option Addr} {L : List (BitVec 8)} {vs : List Value} (h : Rd w B A L) (hg : Blk w g T vs) (hv : noU8 vs) (hk : ∀ b, b < w.heap.size → b ≠ g → w'.heap[b]? = w.heap[b]?) : Rd w' B A L := fun hp => by
  obtain ⟨b, o, e, hb, hc⟩ := h hp
  have hne : b ≠ g := fun e => by subst e; exact cell_noU8 hg hv (hc 0 hp)
  refine ⟨b, o, e, hb, fun j hj => ?_⟩
  rw [World.cell?_of_block (a := ⟨b, o + j, none⟩) (hk b (World.block_lt_of_cell? w _ (hc j hj)) hne)]
  exact hc j hj
theorem Rd.storeQ {w : World} {B g T : Nat} {A : Option Addr} {L : List (BitVec 8)} {vs : List Value} (h : Rd w B A L) (hg : Blk w g T vs) (hv : noU8 vs) (o : Nat) (v : Value) : Rd (w.setCell ⟨g, o, none⟩ v) B A L :=
  h.but hg hv fun b _ hne => Below.heap_setCell _ _ _ _ hne
theorem Rd.sameB {w w' : World} {B : Nat} {A : Option Addr} {L : List (BitVec 8)} (h : Rd w B A L) (hk : ∀ b, b < B → w'.heap[b]? = w.heap[b]?) : Rd w' B A L := fun hp => by
  obtain ⟨b, o, e, hb, hc⟩ := h hp
  exact ⟨b, o, e, hb, fun j hj => by rw [World.cell?_of_block (a := ⟨b, o + j, none⟩) (hk b hb)]; exact hc j hj⟩
theorem Rd.takeB {w : World} {B : Nat} {A : Option Addr} {L : List (BitVec 8)} (h : Rd w B A L) (n : Nat) (hn : n ≤ L.length) : Rd w B A (L.take n) := fun hp => by
  rw [List.length_take] at hp
  obtain ⟨b, o, e, hb, hc⟩ := h (by omega)
  refine ⟨b, o, e, hb, fun j hj => ?_⟩
  rw [List.length_take] at hj
  rw [hc j (by omega)]
  simp [List.getD, List.getElem?_take, show j < n by omega]
theorem Rd.dropB {w : World} {B : Nat} {A : Option Addr} {L : List (BitVec 8)} {cap : Nat} (h : Rd w B A L) (n : Nat) (hl : L.length ≤ cap) : Rd w B (if cap = n then A else A.map (·.add n)) (L.drop n) := fun hp => by
  rw [List.length_drop] at hp
  obtain ⟨b, o, rfl, hb, hc⟩ := h (by omega)
  rw [if_neg (by omega)]
  refine ⟨b, o + n, by simp [Addr.add_mid], hb, fun j hj => ?_⟩
  rw [List.length_drop] at hj
  rw [Nat.add_assoc, hc (n + j) (by omega)]
  simp [List.getD]
def stQ (X : List (BitVec 8)) (a : Nat) (gone : Bool) : Option (List (BitVec 8)) := if gone then none else some (X.drop a)
theorem stQ_has (X : List (BitVec 8)) (a : Nat) (ha : a ≤ X.length) (n : Int) : hasB (stQ X a false) n = decide (0 ≤ n ∧ n ≤ (X.length : Int) - a) := by
  simp only [stQ, hasB]
  rw [Bool.eq_iff_iff]
  simp
  omega
theorem drewN_grown (w : World) (k : Nat) (r : Option Nat) : w.grownBy (w.drewN k) r := ⟨rfl, rfl, rfl, Nat.le_refl _, fun _ _ _ => rfl⟩
end Go.Proofs.YtefiacnpbkancaaDoor
