/- Open once more, with what its reader hangs on; quiet calls of both readers; the lowest two bits of a number. -/
import Derived.Test.YtnnceicjooahmaaVd
import Derived.Test.YtnnceicjooahmaaTb
namespace Go.Proofs.Ytnnceicjooahmaa
open Go.RowKit
set_option linter.unusedVariables false
set_option linter.unusedSimpArgs false
theorem OB.own5lo {w : World} {B : Nat} {v : Value} {L : List (BitVec 8)} (h : OB w B v L) : ∃ A cap, v = .slice A L.length cap ∧ (∀ w', (∀ b, B ≤ b → b < w.heap.size → w'.heap[b]? = w.heap[b]?) → Own5 w' w.heap.size A L) ∧ L.length ≤ cap ∧ cap ≤ 9223372036854775807 ∧ (A = none → cap = 0) := by
  have h' : w.ownsRow B 5 1 v L.length (vbs L) := h
  rcases h'.2 with ⟨rfl, h0⟩ | ⟨g, cap, cur, rfl, hb, hg, hn, hm, hcs, ht⟩
  · exact ⟨none, 0, by rw [h0], fun _ _ hp => by omega, by omega, by omega, fun _ => rfl⟩
  · refine ⟨_, cap, rfl, fun w' hw' hp => ⟨g, 0, cur, rfl, (Array.getElem?_eq_some_iff.1 hg).1, by rw [hw' g hb (Array.getElem?_eq_some_iff.1 hg).1]; exact hg, fun j hj => ?_⟩, hn, by unfold maxLen at hm; omega, fun h => by cases h⟩
    have h1 := h'.cells (g := g) rfl j (.int .u8 (Bt (L.getD j 0))) (vbs_at hj)
    rw [Addr.add_mid] at h1
    simpa [World.cell?, hg] using h1
def OpenPost (L : List (BitVec 8)) (w : World) (e : Ending) (w' : World) : Prop :=
  ∃ g, e = .returned (ptr (some g)) ∧ (∀ w'', (∀ b, w.heap.size ≤ b → b < w'.heap.size → w''.heap[b]? = w'.heap[b]?) → IsR w'' w'.heap.size (some g) (some L)) ∧ w.heap.size ≤ g ∧ g < w'.heap.size ∧ Below w.heap.size w w'
theorem open_lo (A : Option Addr) (L : List (BitVec 8)) (n cap B : Nat) (w : World) (hn : L.length = n) (hR : Rd w B A L) (hB : B ≤ w.heap.size) (hc : A = none → cap = 0) (hl : L.length ≤ 100000000) :
    Calls Try.prog 11 #[.slice A n cap] w (OpenPost L w) := by
  have HK := Lib.hid (clone_len A L n cap B w hn hR hB hc (by omega))
  have HN := Lib.hid hn
  clear hR hc hl hn hB
  go_enter Try.func11, Try.ntmps11
  go_wp2_with (go_at_call 28; refine HK.out.mono ?_; rintro e w2 ⟨v, rfl, hO, hb⟩; obtain ⟨A', cap', rfl, hO5, h1, h2, h3⟩ := hO.own5lo; have H1 := Lib.hid h1; have H3 := Lib.hid h3; clear h1 h3; dsimp only)
  go_ret
  have hnew := Blk.new w2 47 #[.slice A' L.length cap', .bool true]
  have hs : (w2.alloc (.cells #[.slice A' L.length cap', .bool true] 47)).heap.size = w2.heap.size + 1 := by simp
  refine ⟨w2.heap.size, rfl, fun w'' hk => ⟨w2.heap.size, A', cap', rfl, by rw [hs]; omega, ?_, ?_, H1.out, h2, H3.out⟩, hb.size, by rw [hs]; omega, hb.alloc hb.size _⟩
  · exact hnew.same (hk _ hb.size (by rw [hs]; omega))
  · exact (hO5 w'' fun b hlo hlt => (hk b hlo (by rw [hs]; omega)).trans (Below.heap_alloc _ _ _ hlt)).up (by rw [hs]; omega)
theorem IsR.drewN {w : World} {B : Nat} {p : Option Nat} {s : Option (List (BitVec 8))} (h : IsR w B p s) (k : Nat) : IsR (w.drewN k) B p s := h.keep fun _ _ => rfl
theorem left_q {p : Option Nat} {s : Option (List (BitVec 8))} {B : Nat} {w : World} (h : IsR w B p s) (n : Nat) : Calls Try.prog 20 #[ptr p] (w.drewN n) fun e w'' => e = .returned (.int .i64 (leftS s)) ∧ ∃ m, w'' = w.drewN m :=
  (left_any p s B _ (h.drewN n)).mono fun e w' ⟨he, hw⟩ => ⟨he, n, hw.symm⟩
theorem torn_q {p : Option Nat} {s : Option (List (BitVec 8))} {B : Nat} {w : World} (h : IsR w B p s) (n : Nat) : Calls Try.prog 22 #[ptr p] (w.drewN n) fun e w'' => e = .returned (.bool s.isNone) ∧ ∃ m, w'' = w.drewN m :=
  (torn_any p s B _ (h.drewN n)).mono fun e w' ⟨he, hw⟩ => ⟨he, n, hw.symm⟩
theorem end_q {p : Option Nat} {s : Option (List (BitVec 8))} {B : Nat} {w : World} (h : IsR w B p s) (n : Nat) : Calls Try.prog 23 #[ptr p] (w.drewN n) fun e w'' => e = .returned (.bool (endS s)) ∧ ∃ m, w'' = w.drewN m :=
  (end_any p s B _ (h.drewN n)).mono fun e w' ⟨he, hw⟩ => ⟨he, n, hw.symm⟩
theorem rleft_q {q B a cap : Nat} {gone : Bool} {A : Option Addr} {X : List (BitVec 8)} {w : World} (h : IsQ w B q X a gone A cap) (n : Nat) : Calls Try.prog 21 #[.pointer (some ⟨q, 0, none⟩)] (w.drewN n) fun e w'' => e = .returned (.int .i64 (leftS (stQ X a gone))) ∧ ∃ m, w'' = w.drewN m :=
  (rleft_any q B a cap gone A X _ (h.drewN n)).mono fun e w' ⟨he, k, hk⟩ => ⟨he, n + k, by rw [hk, World.drewN_drewN]⟩
theorem rend_q {q B a cap : Nat} {gone : Bool} {A : Option Addr} {X : List (BitVec 8)} {w : World} (h : IsQ w B q X a gone A cap) (n : Nat) : Calls Try.prog 24 #[.pointer (some ⟨q, 0, none⟩)] (w.drewN n) fun e w'' => e = .returned (.bool (endS (stQ X a gone))) ∧ ∃ m, w'' = w.drewN m :=
  (rend_any q B a cap gone A X _ (h.drewN n)).mono fun e w' ⟨he, k, hk⟩ => ⟨he, n + k, by rw [hk, World.drewN_drewN]⟩
theorem stQ_none (X : List (BitVec 8)) (a : Nat) (gone : Bool) : (stQ X a gone).isNone = gone := by cases gone <;> rfl
theorem low2 (D : Int) : ∃ k : Nat, k < 4 ∧ bits .and .i64 D 3 = k := by
  have ht : (BitVec.ofInt 64 D &&& BitVec.ofInt 64 3).toNat ≤ 3 := by
    rw [BitVec.toNat_and]
    exact Nat.le_trans Nat.and_le_right (by decide)
  refine ⟨(BitVec.ofInt 64 D &&& BitVec.ofInt 64 3).toNat, by omega, ?_⟩
  show IntKind.i64.wrap ((BitVec.ofInt 64 D &&& BitVec.ofInt 64 3).toNat : Int) = _
  exact IntWalk.i64_in _ (by omega)
end Go.Proofs.Ytnnceicjooahmaa
