/- What Hash and Open return, and what the reader is then. -/
import Derived.Test.YtnkkhmgplpkjbaaDoorRf
import Derived.Outline
namespace Go.Proofs.YtnkkhmgplpkjbaaDoor
open Go.RowKit
set_option maxRecDepth 100000
set_option linter.unusedVariables false
set_option linter.unusedSimpArgs false
def Z32 : List (BitVec 8) := List.replicate 32 0
def hashL (s : Option (List (BitVec 8))) : List (BitVec 8) := if hasB s 32 then takeL s 32 else Z32
theorem hashL_len (s : Option (List (BitVec 8))) : (hashL s).length = 32 := by
  unfold hashL
  by_cases h : hasB s 32 = true
  · rw [if_pos h]
    cases s with
    | none => cases h
    | some L => rw [(cut_yes h).1]; have := (cut_yes h).2.2; simp at this ⊢; omega
  · rw [if_neg h]; rfl
theorem splice_all (Z R : List Value) (h : R.length = Z.length) : splice Z 0 R = R := by simp [splice, h]
theorem heap_setCells (b : Nat) : ∀ (us : List Value) (o k : Nat) {w : World}, k ≠ b → (w.setCells b o us).heap[k]? = w.heap[k]?
  | [], _, _, _, _ => rfl
  | u :: us, o, k, w, h => by
    show ((w.setCell ⟨b, o, none⟩ u).setCells b (o + 1) us).heap[k]? = _
    rw [heap_setCells b us (o + 1) k h, Below.heap_setCell _ _ _ _ h]
theorem setCells_same (b : Nat) : ∀ (us : List Value) (o : Nat) (w : World), (w.setCells b o us).os = w.os ∧ (w.setCells b o us).tape = w.tape ∧ (w.setCells b o us).output = w.output ∧ (w.setCells b o us).heap.size = w.heap.size
  | [], _, _ => ⟨rfl, rfl, rfl, rfl⟩
  | u :: us, o, w => by
    obtain ⟨h1, h2, h3, h4⟩ := setCells_same b us (o + 1) (w.setCell ⟨b, o, none⟩ u)
    exact ⟨h1, h2, h3, by show ((w.setCell ⟨b, o, none⟩ u).setCells b (o + 1) us).heap.size = _; rw [h4]; simp [World.setCell]⟩
/-- What Hash tells, and leaves behind. -/
def HashPost (X : List (BitVec 8)) (s : Option (List (BitVec 8))) (B : Nat) (p : Option Nat) (w : World) (e : Ending) (w' : World) : Prop :=
  e = .returned (.agg (vbs X).toArray) ∧ IsR w' B p s ∧ w.grownBy w' p
theorem Own5.below {w w' : World} {B : Nat} {A : Option Addr} {L : List (BitVec 8)} (h : Own5 w B A L) (hb : Below B w w') : Own5 w' B A L := h.heap fun b _ hl _ => hb.block b hl
theorem Own5.up {w : World} {B B' : Nat} {A : Option Addr} {L : List (BitVec 8)} (h : Own5 w B A L) (hB : B ≤ B') : Own5 w B' A L := fun hp => by
  obtain ⟨b, o, cur, e, hb, r⟩ := h hp
  exact ⟨b, o, cur, e, by omega, r⟩
theorem OB.own5 {w : World} {B : Nat} {v : Value} {L : List (BitVec 8)} (h : OB w B v L) : ∃ A cap, v = .slice A L.length cap ∧ Own5 w w.heap.size A L ∧ L.length ≤ cap ∧ cap ≤ 9223372036854775807 ∧ (A = none → cap = 0) := by
  have h' : w.ownsRow B 5 1 v L.length (vbs L) := h
  rcases h'.2 with ⟨rfl, h0⟩ | ⟨g, cap, cur, rfl, hb, hg, hn, hm, hcs, ht⟩
  · exact ⟨none, 0, by rw [h0], fun hp => by omega, by omega, by omega, fun _ => rfl⟩
  · refine ⟨_, cap, rfl, fun hp => ⟨g, 0, cur, rfl, (Array.getElem?_eq_some_iff.1 hg).1, hg, fun j hj => ?_⟩, hn, by unfold maxLen at hm; omega, fun h => by cases h⟩
    have h1 := h'.cells (g := g) rfl j (.int .u8 (Bt (L.getD j 0))) (vbs_at hj)
    rw [Addr.add_mid] at h1
    simpa [World.cell?, hg] using h1
theorem open_any (A : Option Addr) (L : List (BitVec 8)) (cap B : Nat) (w : World) (hR : Rd w B A L) (hB : B ≤ w.heap.size) (hc : A = none → cap = 0) (hl : L.length ≤ 100000000) :
    Calls Tryd.prog 26 #[.slice A L.length cap] w fun e w' => ∃ g, e = .returned (ptr (some g)) ∧ IsR w' (g + 1) (some g) (some L) ∧ w.heap.size ≤ g ∧ g < w'.heap.size ∧ Below w.heap.size w w' := by
  have HK := Lib.hid (clone_any A L cap B w hR hB hc (by omega))
  have HL := Lib.hid hl
  obtain ⟨n, hn⟩ : ∃ n, n = L.length := ⟨_, rfl⟩
  have HN := Lib.hid hn
  rw [← hn] at HK ⊢
  clear hR hc hl hn hB
  go_enter Tryd.func26, Tryd.ntmps26
  go_wp2_with (go_at_call 46; refine HK.out.mono ?_; rintro e w2 ⟨v, rfl, hO, hb⟩; obtain ⟨A', cap', rfl, hO5, h1, h2, h3⟩ := hO.own5; rw [← HN.out]; have H1 := Lib.hid h1; have H3 := Lib.hid h3; clear h1 h3; dsimp only)
  go_ret
  refine ⟨w2.heap.size, rfl, ⟨w2.heap.size, A', cap', rfl, by omega, ?_, (hO5.below ((Below.refl _ _).alloc (Nat.le_refl _) _)).up (by omega), H1.out, h2, H3.out⟩, hb.size, by simp, hb.alloc hb.size _⟩
  rw [← HN.out]
  exact Blk.new _ _ _
end Go.Proofs.YtnkkhmgplpkjbaaDoor
