/- The law package's awake returns true. -/
import Derived.Test.YtnkkhmgplpkjbaaDoorPa
import Derived.Test.YtnkkhmgplpkjbaaDoorRg
import Derived.Outline
namespace Go.Proofs.YtnkkhmgplpkjbaaDoor
open Go.RowKit
set_option maxRecDepth 100000
set_option linter.unusedVariables false
set_option linter.unusedSimpArgs false
theorem rd_of_blk {w : World} {b T : Nat} {R : List (BitVec 8)} (h : Blk w b T (vbs R)) : Rd w w.heap.size (some ⟨b, 0, none⟩) R := fun hp => ⟨b, 0, rfl, h.lt, fun j hj => by rw [Nat.zero_add]; exact h.cell (vbs_at hj)⟩
theorem open_known (w : World) : Calls Tryd.prog 26 #[.slice (some ⟨w.heap.size, 0, none⟩) 3 3] (w.alloc (.cells #[.int .u8 2, .int .u8 1, .int .u8 5] 5)) fun e w' => ∃ g, e = .returned (ptr (some g)) ∧ IsR w' (g + 1) (some g) (some [2, 1, 5]) ∧ w.heap.size < g ∧ g < w'.heap.size ∧ Below w.heap.size w w' :=
  (open_any (some ⟨w.heap.size, 0, none⟩) [2, 1, 5] 3 _ _ (rd_of_blk (Blk.new w 5 #[.int .u8 2, .int .u8 1, .int .u8 5])) (Nat.le_refl _) (fun h => by cases h) (by decide)).mono fun e w' ⟨g, he, hi, h1, h2, h3⟩ =>
    ⟨g, he, hi, by simp at h1; omega, h2, ((Below.refl _ _).alloc (Nat.le_refl _) _).trans (h3.mono (by simp))⟩
theorem conv_lit {w : World} {A : Option Addr} {L : List (BitVec 8)} {n c B : Nat} (h : Rd w B A L) (hn : n = L.length) (s : ByteArray) (hs : strB L = s) : (convert 27 9 (.slice A n c)).run Tryd.prog w = .ok (.string s) w := by
  rw [← hs]
  exact run_conv_slice w Tryd.underlying27 Tryd.underlying5 Tryd.underlying9 A L n c hn B h
theorem num_w (w : World) (g B : Nat) (L : List (BitVec 8)) (n : Int) (x : Nat) (s : Option (List (BitVec 8))) (hx : numV (some L) n = x) (hs : numS (some L) n = s) (h : IsR w B (some g) (some L)) (hB : B ≤ w.heap.size) :
    Calls Tryd.prog 58 #[ptr (some g), .int .i64 n] w (NumPost x s B (some g) w) := by
  rw [← hx, ← hs]; exact num_any _ _ n B w h hB
theorem take_w (w : World) (g B : Nat) (L : List (BitVec 8)) (n : Int) (X : List (BitVec 8)) (s : Option (List (BitVec 8))) (hx : takeL (some L) n = X) (hs : cutS (some L) n = s) (h : IsR w B (some g) (some L)) (hB : B ≤ w.heap.size) (hl : L.length ≤ 100000000) :
    Calls Tryd.prog 60 #[ptr (some g), .int .i64 n] w (NewPost X s B (some g) w) := by
  rw [← hx, ← hs]; exact take_any _ _ n B w h hB (fun M e => by cases e; exact hl)
end Go.Proofs.YtnkkhmgplpkjbaaDoor
