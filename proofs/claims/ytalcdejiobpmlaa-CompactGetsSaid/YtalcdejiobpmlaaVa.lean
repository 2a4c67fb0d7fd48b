/- The document's own reader: what Left, End and Take tell, and what the reader is then. -/
import Derived.Test.YtalcdejiobpmlaaUb
import Derived.StillTailTactics
import Derived.Outline
namespace Go.Proofs.Ytalcdejiobpmlaa
open Go.RowKit
set_option linter.unusedVariables false
set_option linter.unusedSimpArgs false
/-- No cell of these is a byte. -/
def noU8 (vs : List Value) : Prop := ∀ v ∈ vs, ∀ x, v ≠ Value.int .u8 x
theorem noQ (A : Option Addr) (n cap : Nat) (a : Int) (b : Bool) : noU8 [.slice A n cap, .int .i64 a, .bool b] := by
  intro v hv x
  simp only [List.mem_cons, List.not_mem_nil, or_false] at hv
  rcases hv with rfl | rfl | rfl <;> simp
theorem noR (v : Value) (hv : ∀ x, v ≠ Value.int .u8 x) (b : Bool) : noU8 [v, .bool b] := by
  intro u hu x
  simp only [List.mem_cons, List.not_mem_nil, or_false] at hu
  rcases hu with rfl | rfl
  · exact hv x
  · simp
theorem cell_noU8 {w : World} {g T o : Nat} {vs : List Value} (hg : Blk w g T vs) (hv : noU8 vs) {x : Int} (hc : w.cell? ⟨g, o, none⟩ = some (.int .u8 x)) : False := by
  have e : w.cell? ⟨g, o, none⟩ = vs[o]? := by
    unfold Blk at hg; simp [World.cell?, hg]
  rw [e] at hc
  exact hv _ (List.mem_of_getElem? hc) x rfl
/-- Where the heap is as it was but for a block that holds no byte, the bytes stay. -/
theorem Rd.but {w w' : World} {B g T : Nat} {A : Option Addr} {L : List (BitVec 8)} {vs : List Value} (h : Rd w B A L) (hg : Blk w g T vs) (hv : noU8 vs) (hk : ∀ b, b < w.heap.size → b ≠ g → w'.heap[b]? = w.heap[b]?) : Rd w' B A L := fun hp => by
  obtain ⟨b, o, e, hb, hc⟩ := h hp
  have hne : b ≠ g := fun e => by subst e; exact cell_noU8 hg hv (hc 0 hp)
  refine ⟨b, o, e, hb, fun j hj => ?_⟩
  rw [World.cell?_of_block (a := ⟨b, o + j, none⟩) (hk b (World.block_lt_of_cell? w _ (hc j hj)) hne)]
  exact hc j hj
theorem Rd.storeQ {w : World} {B g T : Nat} {A : Option Addr} {L : List (BitVec 8)} {vs : List Value} (h : Rd w B A L) (hg : Blk w g T vs) (hv : noU8 vs) (o : Nat) (v : Value) : Rd (w.setCell ⟨g, o, none⟩ v) B A L :=
  h.but hg hv fun b _ hne => Below.heap_setCell _ _ _ _ hne
theorem Rd.sameB {w w' : World} {B : Nat} {A : Option Addr} {L : List (BitVec 8)} (h : Rd w B A L) (hk : ∀ b, b < B → w'.heap[b]? = w.heap[b]?) : Rd w' B A L := fun hp => by
  obtain ⟨b, o, e, hb, hc⟩ := h hp
  exact ⟨b, o, e, hb, fun j hj => by rw [World.cell?_of_block (a := ⟨b, o + j, none⟩) (hk b hb)]; exact hc j hj⟩
theorem Rd.takeB {w : World} {B : Nat} {A : Option Addr} {L : List (BitVec 8)} (h : Rd w B A L) (n : Nat) (hn : n ≤ L.length) : Rd w B A (L.take n) := fun hp => by
  rw [List.length_take] at hp
  obtain ⟨b, o, e, hb, hc⟩ := h (by omega)
  refine ⟨b, o, e, hb, fun j hj => ?_⟩
  rw [List.length_take] at hj
  rw [hc j (by omega)]
  simp [List.getD, List.getElem?_take, show j < n by omega]
theorem Rd.dropB {w : World} {B : Nat} {A : Option Addr} {L : List (BitVec 8)} {cap : Nat} (h : Rd w B A L) (n : Nat) (hl : L.length ≤ cap) : Rd w B (if cap = n then A else A.map (·.add n)) (L.drop n) := fun hp => by
  rw [List.length_drop] at hp
  obtain ⟨b, o, rfl, hb, hc⟩ := h (by omega)
  rw [if_neg (by omega)]
  refine ⟨b, o + n, by simp [Addr.add_mid], hb, fun j hj => ?_⟩
  rw [List.length_drop] at hj
  rw [Nat.add_assoc, hc (n + j) (by omega)]
  simp [List.getD]
/-- The document's reader at q holds the bytes X, of which at were taken, or is gone. -/
structure IsQ (w : World) (B q : Nat) (X : List (BitVec 8)) (a : Nat) (gone : Bool) (A : Option Addr) (cap : Nat) : Prop where
  blk : Blk w q 35 [.slice A X.length cap, .int .i64 a, .bool gone]
  own : Rd w B A X
  lt : q < B
  le : X.length ≤ cap
  cap_ : cap ≤ 9223372036854775807
  nil_ : A = none → cap = 0
  at_ : a ≤ X.length
def stQ (X : List (BitVec 8)) (a : Nat) (gone : Bool) : Option (List (BitVec 8)) := if gone then none else some (X.drop a)
theorem rleft_any (q B a cap : Nat) (gone : Bool) (A : Option Addr) (X : List (BitVec 8)) (w : World) (h : IsQ w B q X a gone A cap) :
    Calls Try.prog 23 #[.pointer (some ⟨q, 0, none⟩)] w fun e w' => e = .returned (.int .i64 (leftS (stQ X a gone))) ∧ ∃ k, w' = w.drewN k := by
  have c0 := h.blk.cell (j := 0) (v := .slice A X.length cap) rfl
  have c1 := h.blk.cell (j := 1) (v := .int .i64 a) rfl
  have c2 := h.blk.cell (j := 2) (v := .bool gone) rfl
  have hl := h.le
  have hm := h.cap_
  have ha := h.at_
  cases gone with
  | true =>
    clear h
    go_enter Try.func23, Try.ntmps23
    go_wp2
    go_ret
    exact ⟨rfl, 0, rfl⟩
  | false =>
    have e : leftS (stQ X a false) = X.length - a := by simp [stQ, leftS]
    rw [e]
    obtain ⟨n, hn⟩ : ∃ n, n = X.length := ⟨_, rfl⟩
    rw [← hn] at c0 hl ha ⊢
    clear h e hn
    go_enter Try.func23, Try.ntmps23
    go_wp2
    go_quiet (fail)
    go_wp2
    go_ret
    exact ⟨ret_int (by omega), _, rfl⟩
theorem stQ_has (X : List (BitVec 8)) (a : Nat) (ha : a ≤ X.length) (n : Int) : hasB (stQ X a false) n = decide (0 ≤ n ∧ n ≤ (X.length : Int) - a) := by
  simp only [stQ, hasB]
  rw [Bool.eq_iff_iff]
  simp
  omega
/-- What the document's Take tells, and leaves behind. -/
def RTakePost (L : List (BitVec 8)) (s : Option (List (BitVec 8))) (B q : Nat) (X : List (BitVec 8)) (A : Option Addr) (cap : Nat) (w : World) (e : Ending) (w' : World) : Prop :=
  ∃ v a' gone', e = .returned v ∧ OB w' w.heap.size v L ∧ IsQ w' B q X a' gone' A cap ∧ stQ X a' gone' = s ∧ w.grownBy w' (some q)
theorem drewN_grown (w : World) (k : Nat) (r : Option Nat) : w.grownBy (w.drewN k) r := ⟨rfl, rfl, rfl, Nat.le_refl _, fun _ _ _ => rfl⟩
theorem IsQ.drewN {w : World} {B q a cap : Nat} {X : List (BitVec 8)} {gone : Bool} {A : Option Addr} (h : IsQ w B q X a gone A cap) (k : Nat) : IsQ (w.drewN k) B q X a gone A cap := ⟨h.blk, h.own, h.lt, h.le, h.cap_, h.nil_, h.at_⟩
theorem IsQ.gone_ {w : World} {B q a cap : Nat} {X : List (BitVec 8)} {gone : Bool} {A : Option Addr} (h : IsQ w B q X a gone A cap) : IsQ (w.setCell ⟨q, 2, none⟩ (.bool true)) B q X a true A cap :=
  ⟨h.blk.set 2 _, h.own.storeQ h.blk (noQ _ _ _ _ _) 2 _, h.lt, h.le, h.cap_, h.nil_, h.at_⟩
theorem rtake_no (q B a cap : Nat) (gone : Bool) (A : Option Addr) (X : List (BitVec 8)) (n : Int) (w : World) (h : IsQ w B q X a gone A cap) (hn : hasB (stQ X a gone) n = false) :
    Calls Try.prog 32 #[.pointer (some ⟨q, 0, none⟩), .int .i64 n] w (RTakePost [] none B q X A cap w) := by
  have c0 := h.blk.cell (j := 0) (v := .slice A X.length cap) rfl
  have c1 := h.blk.cell (j := 1) (v := .int .i64 a) rfl
  have c2 := h.blk.cell (j := 2) (v := .bool gone) rfl
  have f2 := h.blk.free 2
  have ha := h.at_
  have hl := h.le
  have hm := h.cap_
  have HI := Lib.hid h
  cases gone with
  | true =>
    clear h ha hn hl hm
    go_enter Try.func32, Try.ntmps32
    go_wp2
    go_quiet (fail)
    go_wp2
    go_ret
    exact ⟨_, a, true, rfl, OB.nil _ _, (HI.out.drewN _).gone_, rfl, grown_setCells [.bool true] 2 _ (drewN_grown _ _ _)⟩
  | false =>
    rw [stQ_has X a ha] at hn
    obtain ⟨m, hm⟩ : ∃ m, m = X.length := ⟨_, rfl⟩
    rw [← hm] at hn c0 hl ha
    by_cases h0 : n < 0
    · clear h hn hm
      go_enter Try.func32, Try.ntmps32
      go_wp2
      go_quiet (fail)
      go_wp2
      go_ret
      exact ⟨_, a, true, rfl, OB.nil _ _, (HI.out.drewN _).gone_, rfl, grown_setCells [.bool true] 2 _ (drewN_grown _ _ _)⟩
    · have h1 : decide (n < 0) = false := by simpa using h0
      have h2 : (m : Int) - a < n := by simp at hn; omega
      have h3 : decide ((m : Int) - a < n) = true := by simpa using h2
      clear h hn hm
      go_enter Try.func32, Try.ntmps32
      go_wp2
      go_quiet (fail)
      go_wp2
      go_ret
      exact ⟨_, a, true, rfl, OB.nil _ _, (HI.out.drewN _).gone_, rfl, grown_setCells [.bool true] 2 _ (drewN_grown _ _ _)⟩
end Go.Proofs.Ytalcdejiobpmlaa
