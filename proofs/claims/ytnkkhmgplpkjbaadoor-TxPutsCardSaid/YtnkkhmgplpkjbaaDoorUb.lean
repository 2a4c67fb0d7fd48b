/- The law BytesPuts returns true for every input that can be read. -/
import Derived.Test.YtnkkhmgplpkjbaaDoorUa
import Derived.Outline
namespace Go.Proofs.YtnkkhmgplpkjbaaDoor
open Go.RowKit
set_option maxRecDepth 100000
set_option linter.unusedVariables false
set_option linter.unusedSimpArgs false
theorem xor255 (x : BitVec 8) : bits .xor .u8 (Bt x) 255 = Bt (x ^^^ 255) := by
  unfold Bt
  rw [show (255 : Int) = ((255 : Nat) : Int) from rfl, u8_xor_nat _ _ x.isLt (by omega), BitVec.toNat_xor]
  rfl
theorem OB.set {w : World} {B g n cap k : Nat} {X : List (BitVec 8)} (h : OB w B (.slice (some ⟨g, 0, none⟩) n cap) X) (hk : k < X.length) (z : BitVec 8) : OB (w.setCell ⟨g, k, none⟩ (.int .u8 (Bt z))) B (.slice (some ⟨g, 0, none⟩) n cap) (X.set k z) := by
  refine ⟨by rw [vbs_len]; simp, ?_⟩
  rcases h.2 with ⟨hn, _⟩ | ⟨g', cap', cur, hv, hbb, hgg, h1, h2, h3, h4⟩
  · cases hn
  · cases hv
    refine .inr ⟨g, cap, cur.setIfInBounds k (.int .u8 (Bt z)), by rw [List.length_set], hbb, ?_, by rw [List.length_set]; exact h1, h2, by simpa using h3, ?_⟩
    · simp only [World.setCell, Array.getElem?_modify, hgg]
      simp
    · rw [← vbs_set, ← h4, Array.toList_setIfInBounds, List.length_set, List.take_set]
theorem OB.cells {w : World} {B g n cap k : Nat} {X : List (BitVec 8)} (h : OB w B (.slice (some ⟨g, 0, none⟩) n cap) X) (hk : k < X.length) : w.cell? ⟨g, k, none⟩ = some (.int .u8 (Bt (X.getD k 0))) ∧ w.frozen? ⟨g, k, none⟩ = false ∧ B ≤ g ∧ n = X.length := by
  have h' : w.ownsRow B 5 1 (.slice (some ⟨g, 0, none⟩) n cap) X.length (vbs X) := h
  rcases h'.2 with ⟨hn, _⟩ | ⟨g', cap', cur, hv, hbb, hgg, h1, h2, h3, h4⟩
  · cases hn
  · cases hv
    have hc := h'.cells (g := g) rfl k _ (vbs_at hk)
    rw [Addr.add_mid, Nat.zero_add] at hc
    exact ⟨hc, by simp [World.frozen?, hgg], hbb, rfl⟩
theorem OB.form {w : World} {B n cap : Nat} {A : Option Addr} {X : List (BitVec 8)} (h : OB w B (.slice A n cap) X) (hp : 0 < X.length) : ∃ g, A = some ⟨g, 0, none⟩ := by
  rcases h.2 with ⟨_, h0⟩ | ⟨g, cap', cur, hv, _⟩
  · omega
  · cases hv; exact ⟨g, rfl⟩
theorem conv_n {w : World} {A : Option Addr} {L : List (BitVec 8)} {n c B : Nat} (h : Rd w B A L) (hn : n = L.length) : (convert 27 9 (.slice A n c)).run Tryd.prog w = .ok (.string (strB L)) w :=
  run_conv_slice w Tryd.underlying27 Tryd.underlying5 Tryd.underlying9 A L n c hn B h
theorem up_to {w w' : World} {B B' : Nat} {A : Option Addr} {R : List (BitVec 8)} (h : Rd w B A R) (hb : Below B' w w') (hB : B ≤ B') : Rd w' B A R := h.keep (hb.mono hB)
end Go.Proofs.YtnkkhmgplpkjbaaDoor
