/- Small facts on cells, and what sha.number returns: the big-endian number of the first four bytes, for a slice of at least four. -/
import Derived.Test.YtjbjkddgefiicaaDoorA
namespace Go.Proofs.YtjbjkddgefiicaaDoor
open Go.RowKit
set_option linter.unusedVariables false
set_option linter.unusedSimpArgs false
theorem cell_new {w : World} {vs : Array Value} {T : TypeId} {m : Nat × Nat} {b j : Nat} {v : Value} (hb : b = w.heap.size) (hv : vs[j]? = some v) : (w.alloc (.cells vs T m)).cell? ⟨b, j, none⟩ = some v := by
  subst hb
  show (match (w.heap.push _)[w.heap.size]? with | some (.cells c _ _) => _ | _ => _) = _
  rw [Array.getElem?_push_size]; simpa using hv
theorem cell_alloc {w : World} {a : Addr} {v : Value} (o : Obj) (h : w.cell? a = some v) : (w.alloc o).cell? a = some v := by
  rw [World.cell?_of_block (w := w) (Below.heap_alloc w o a.block (World.block_lt_of_cell? w a h))]; exact h
theorem frozen_alloc {w : World} {a : Addr} {x : Bool} (o : Obj) (hl : a.block < w.heap.size) (h : w.frozen? a = x) : (w.alloc o).frozen? a = x := by
  rw [World.frozen?_of_block (w := w) (Below.heap_alloc w o a.block hl)]; exact h
theorem cell_store_ne {w : World} {a b : Addr} {u v : Value} (hne : b ≠ a) (h : w.cell? a = some v) : (w.setCell b u).cell? a = some v := by
  rw [World.cell?_setCell_other]; · exact h
  · exact hne
/-- What a step of the closure leaves: the block of the sixteen, and else only new blocks. -/
structure Grn (w : World) (b : Nat) (T : TypeId) (vs : List Value) (w' : World) : Prop where
  blk : Blk w' b T vs
  grown : w.grownBy w' (some b)
theorem Grn.refl {w : World} {b : Nat} {T : TypeId} {vs : List Value} (h : Blk w b T vs) : Grn w b T vs w := ⟨h, ⟨rfl, rfl, rfl, Nat.le_refl _, fun _ _ _ => rfl⟩⟩
theorem Grn.alloc {w W : World} {b : Nat} {T : TypeId} {vs : List Value} (h : Grn w b T vs W) (o : Obj) : Grn w b T vs (W.alloc o) :=
  ⟨h.blk.alloc o, ⟨h.grown.os, h.grown.tape, h.grown.output, by have := h.grown.size; simp; omega, fun k hk hne => by rw [Below.heap_alloc _ _ _ (by have := h.grown.size; omega)]; exact h.grown.block k hk hne⟩⟩
theorem Grn.drewN {w W : World} {b : Nat} {T : TypeId} {vs : List Value} (h : Grn w b T vs W) (n : Nat) : Grn w b T vs (W.drewN n) := ⟨h.blk, ⟨h.grown.os, h.grown.tape, h.grown.output, h.grown.size, h.grown.block⟩⟩
theorem Grn.drew {w W : World} {b : Nat} {T : TypeId} {vs : List Value} (h : Grn w b T vs W) : Grn w b T vs W.drew := ⟨h.blk, ⟨h.grown.os, h.grown.tape, h.grown.output, h.grown.size, h.grown.block⟩⟩
theorem Grn.set {w W : World} {b : Nat} {T : TypeId} {vs : List Value} (h : Grn w b T vs W) (j : Nat) (v : Value) : Grn w b T (vs.set j v) (W.setCell ⟨b, j, none⟩ v) :=
  ⟨h.blk.set j v, ⟨h.grown.os, h.grown.tape, h.grown.output, by have := h.grown.size; simp; omega, fun k hk hne => by rw [Below.heap_setCell _ _ _ _ (by intro e; exact hne (by rw [e]))]; exact h.grown.block k hk hne⟩⟩
theorem Grn.below {w W : World} {b : Nat} {T : TypeId} {vs : List Value} (h : Grn w b T vs W) {B : Nat} {w0 : World} (hb : Below B w0 w) (hB : B ≤ b) (hw : B ≤ w.heap.size) : Below B w0 W :=
  hb.trans ⟨h.grown.os, h.grown.tape, h.grown.output, h.grown.size, fun k hk => h.grown.block k (by omega) (by simp; omega)⟩
def vus (l : List (BitVec 32)) : List Value := l.map fun x => Value.int .u32 (U x)
theorem vus_at {l : List (BitVec 32)} {j : Nat} (h : j < l.length) : (vus l)[j]? = some (.int .u32 (U (l.getD j 0))) := by
  unfold vus; simp [h]
theorem vus_set (l : List (BitVec 32)) (j : Nat) (x : BitVec 32) : (vus l).set j (.int .u32 (U x)) = vus (l.set j x) := by
  unfold vus; rw [List.map_set]
theorem turned2 (x : BitVec 32) (p q : Nat) (bl cap : Nat) (w : World) (h0 : w.cell? ⟨bl, 0, none⟩ = some (.int .i64 p)) (h1 : w.cell? ⟨bl, 1, none⟩ = some (.int .i64 q)) (hp : 1 ≤ p ∧ p ≤ 31 ∧ 1 ≤ q ∧ q ≤ 31) :
    Calls Tryd.prog 40 #[.int .u32 (U x), .slice (some ⟨bl, 0, none⟩) 2 cap] w fun e w' => e = .returned (.int .u32 (U (trn x [p, q]))) ∧ w = w' :=
  turned_any x [p, q] bl 0 cap w (by simp) (by simp; omega) (fun k hk => by
    have : k = 0 ∨ k = 1 := by simp at hk; omega
    rcases this with rfl | rfl
    · simpa using h0
    · simpa using h1)
theorem turned3 (x : BitVec 32) (p q r : Nat) (bl cap : Nat) (w : World) (h0 : w.cell? ⟨bl, 0, none⟩ = some (.int .i64 p)) (h1 : w.cell? ⟨bl, 1, none⟩ = some (.int .i64 q)) (h2 : w.cell? ⟨bl, 2, none⟩ = some (.int .i64 r)) (hp : 1 ≤ p ∧ p ≤ 31 ∧ 1 ≤ q ∧ q ≤ 31 ∧ 1 ≤ r ∧ r ≤ 31) :
    Calls Tryd.prog 40 #[.int .u32 (U x), .slice (some ⟨bl, 0, none⟩) 3 cap] w fun e w' => e = .returned (.int .u32 (U (trn x [p, q, r]))) ∧ w = w' :=
  turned_any x [p, q, r] bl 0 cap w (by simp) (by simp; omega) (fun k hk => by
    have : k = 0 ∨ k = 1 ∨ k = 2 := by simp at hk; omega
    rcases this with rfl | rfl | rfl
    · simpa using h0
    · simpa using h1
    · simpa using h2)
theorem ret_int {k : IntKind} {a b : Int} (h : a = b) : Ending.returned (.int k a) = .returned (.int k b) := by rw [h]
/-- A byte, as the model holds it. -/
def Bt (x : BitVec 8) : Int := (x.toNat : Int)
theorem Bt_lo (x : BitVec 8) : 0 ≤ Bt x := Int.natCast_nonneg _
theorem Bt_hi (x : BitVec 8) : Bt x < 256 := by unfold Bt; have := x.isLt; omega
theorem Bt_U (x : BitVec 8) : Bt x = U (x.setWidth 32) := by unfold Bt U; simp; have := x.isLt; omega
def num4 (a b c d : BitVec 8) : BitVec 32 := a.setWidth 32 <<< 24 ||| b.setWidth 32 <<< 16 ||| c.setWidth 32 <<< 8 ||| d.setWidth 32
set_option maxHeartbeats 1000000 in
theorem number_any (a b c d : BitVec 8) (bl o n cap : Nat) (w : World) (hn : 4 ≤ n)
    (c0 : w.cell? ⟨bl, o, none⟩ = some (.int .u8 (Bt a))) (c1 : w.cell? ⟨bl, o + 1, none⟩ = some (.int .u8 (Bt b))) (c2 : w.cell? ⟨bl, o + 2, none⟩ = some (.int .u8 (Bt c))) (c3 : w.cell? ⟨bl, o + 3, none⟩ = some (.int .u8 (Bt d))) :
    Calls Tryd.prog 38 #[.slice (some ⟨bl, o, none⟩) n cap] w fun e w' => e = .returned (.int .u32 (U (num4 a b c d))) ∧ ∃ k, w' = w.drewN k := by
  have h0 : (0 : Int) < (n : Int) := by omega
  have h1 : (1 : Int) < (n : Int) := by omega
  have h2 : (2 : Int) < (n : Int) := by omega
  have h3 : (3 : Int) < (n : Int) := by omega
  have l := fun x : BitVec 8 => Bt_lo x
  have u := fun x : BitVec 8 => Bt_hi x
  have cv : ∀ x : BitVec 8, IntKind.u32.wrap (Bt x) = U (x.setWidth 32) := fun x => by rw [IntKind.wrap_u32', Int.emod_eq_of_lt (Bt_lo x) (by have := Bt_hi x; omega), Bt_U]
  have or := U_or
  have s24 : ∀ x : BitVec 32, U x * (16777216 : Int) % (4294967296 : Int) = U (x <<< 24) := fun x => U_shl x 24
  have s16 : ∀ x : BitVec 32, U x * (65536 : Int) % (4294967296 : Int) = U (x <<< 16) := fun x => U_shl x 16
  have s8 : ∀ x : BitVec 32, U x * (256 : Int) % (4294967296 : Int) = U (x <<< 8) := fun x => U_shl x 8
  go_enter Tryd.func38, Tryd.ntmps38
  go_wp2_with fail
  go_quiet (fail)
  go_wp2
  go_ret
  exact ⟨rfl, nq, rfl⟩
end Go.Proofs.YtjbjkddgefiicaaDoor
