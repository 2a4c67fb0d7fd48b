/- What has, Left and End return, and what tear makes of a reader. -/
import Derived.Test.YtnkkhmgplpkjbaaDoorRa
import Derived.Outline
namespace Go.Proofs.YtnkkhmgplpkjbaaDoor
open Go.RowKit
set_option maxRecDepth 100000
set_option linter.unusedVariables false
set_option linter.unusedSimpArgs false
theorem ptr_some (g : Nat) : ptr (some g) = .pointer (some ⟨g, 0, none⟩) := rfl
theorem has_any (p : Option Nat) (s : Option (List (BitVec 8))) (n : Int) (B : Nat) (w : World) (h : IsR w B p s) : Calls Tryd.prog 85 #[ptr p, .int .i64 n] w fun e w' => e = .returned (.bool (hasB s n)) ∧ w = w' := by
  have HT := Lib.hid (torn_any p s B w h)
  cases s with
  | none =>
    have HB : hasB none n = false := rfl
    rw [HB]
    obtain ⟨q, hq⟩ : ∃ q, q = ptr p := ⟨_, rfl⟩
    rw [← hq] at HT ⊢
    clear h hq HB
    go_enter Tryd.func85, Tryd.ntmps85
    go_wp2_with (go_at_call 41; (with_reducible refine HT.out.mono ?_); rintro e w' ⟨rfl, rfl⟩; dsimp only [Option.isNone])
    go_ret
    exact ⟨rfl, rfl⟩
  | some L =>
    obtain ⟨g, A, cap, rfl, _, hb, _, hl, hm, _⟩ := h
    rw [ptr_some] at HT ⊢
    have c0 := hb.cell (j := 0) (v := .slice A L.length cap) rfl
    by_cases h0 : 0 ≤ n
    · by_cases h1 : n ≤ L.length
      · have e : hasB (some L) n = true := by simp [hasB, h0, h1]
        rw [e]
        clear e hb hl hm
        go_enter Tryd.func85, Tryd.ntmps85
        go_wp2_with (go_at_call 41; (with_reducible refine HT.out.mono ?_); rintro e w' ⟨rfl, rfl⟩; dsimp only [Option.isNone])
        go_ret
        exact ⟨rfl, rfl⟩
      · have e : hasB (some L) n = false := by simp [hasB, h0, h1]
        rw [e]
        clear e hb hl hm
        have h2 : (L.length : Int) < n := by omega
        go_enter Tryd.func85, Tryd.ntmps85
        go_wp2_with (go_at_call 41; (with_reducible refine HT.out.mono ?_); rintro e w' ⟨rfl, rfl⟩; dsimp only [Option.isNone])
        go_ret
        exact ⟨rfl, rfl⟩
    · have e : hasB (some L) n = false := by simp [hasB, h0]
      rw [e]
      clear e hb hl hm
      have h2 : n < 0 := by omega
      go_enter Tryd.func85, Tryd.ntmps85
      go_wp2_with (go_at_call 41; (with_reducible refine HT.out.mono ?_); rintro e w' ⟨rfl, rfl⟩; dsimp only [Option.isNone])
      go_ret
      exact ⟨rfl, rfl⟩
def leftS (s : Option (List (BitVec 8))) : Nat := match s with
  | none => 0
  | some L => L.length
theorem left_any (p : Option Nat) (s : Option (List (BitVec 8))) (B : Nat) (w : World) (h : IsR w B p s) : Calls Tryd.prog 27 #[ptr p] w fun e w' => e = .returned (.int .i64 (leftS s)) ∧ w = w' := by
  have HT := Lib.hid (torn_any p s B w h)
  cases s with
  | none =>
    obtain ⟨q, hq⟩ : ∃ q, q = ptr p := ⟨_, rfl⟩
    rw [← hq] at HT ⊢
    clear h hq
    go_enter Tryd.func27, Tryd.ntmps27
    go_wp2_with (go_at_call 41; (with_reducible refine HT.out.mono ?_); rintro e w' ⟨rfl, rfl⟩; dsimp only [Option.isNone])
    go_ret
    exact ⟨rfl, rfl⟩
  | some L =>
    obtain ⟨g, A, cap, rfl, _, hb, _, hl, hm, _⟩ := h
    rw [ptr_some] at HT ⊢
    have c0 := hb.cell (j := 0) (v := .slice A L.length cap) rfl
    clear hb hl hm
    go_enter Tryd.func27, Tryd.ntmps27
    go_wp2_with (go_at_call 41; (with_reducible refine HT.out.mono ?_); rintro e w' ⟨rfl, rfl⟩; dsimp only [Option.isNone])
    go_ret
    exact ⟨rfl, rfl⟩
def endS (s : Option (List (BitVec 8))) : Bool := match s with
  | none => false
  | some L => L.isEmpty
theorem IsR.torn {w : World} {B g : Nat} (hg : g < B) (h : Blk w g 74 [.slice none 0 0, .bool false]) : IsR w B (some g) none := fun g' e => by cases e; exact ⟨hg, h⟩
theorem info47 : (Tryd.prog.info? 74).map (·.size) = some 2 := by kernel_rfl
theorem grown_setCells {w : World} {g : Nat} : ∀ (us : List Value) (o : Nat) (w' : World), w.grownBy w' (some g) → w.grownBy (w'.setCells g o us) (some g)
  | [], _, _, h => h
  | u :: us, o, w', h => grown_setCells us (o + 1) _ ⟨h.os, h.tape, h.output, by simpa [World.setCell] using h.size, fun k hk hne => (Below.heap_setCell _ _ _ _ (fun e => hne (by rw [e]))).trans (h.block k hk hne)⟩
theorem grown_refl (w : World) (r : Option Nat) : w.grownBy w r := ⟨rfl, rfl, rfl, Nat.le_refl _, fun _ _ _ => rfl⟩
theorem tear_any (p : Option Nat) (s : Option (List (BitVec 8))) (B : Nat) (w : World) (h : IsR w B p s) : Calls Tryd.prog 83 #[ptr p] w fun e w' => e = .returned (.tuple #[]) ∧ IsR w' B p none ∧ w.grownBy w' p := by
  have HT := Lib.hid (torn_any p s B w h)
  cases s with
  | none =>
    have HI := Lib.hid h
    obtain ⟨q, hq⟩ : ∃ q, q = ptr p := ⟨_, rfl⟩
    rw [← hq] at HT ⊢
    clear h hq
    go_enter Tryd.func83, Tryd.ntmps83
    go_wp2_with (go_at_call 41; (with_reducible refine HT.out.mono ?_); rintro e w' ⟨rfl, rfl⟩; dsimp only [Option.isNone])
    go_end0
    exact ⟨rfl, HI.out, grown_refl _ _⟩
  | some L =>
    obtain ⟨g, A, cap, rfl, hg, hb, _, hl, hm, _⟩ := h
    rw [ptr_some] at HT ⊢
    have HB := Lib.hid hb
    have c0 := hb.cell (j := 0) (v := .slice A L.length cap) rfl
    have c1 := hb.cell (j := 1) (v := .bool true) rfl
    have f0 := hb.free 0
    have f1 := hb.free 1
    clear hb hl hm
    go_enter Tryd.func83, Tryd.ntmps83
    go_wp2_with (go_at_call 41; (with_reducible refine HT.out.mono ?_); rintro e w' ⟨rfl, rfl⟩; dsimp only [Option.isNone])
    go_end0
    exact ⟨rfl, IsR.torn hg ((HB.out.set 0 _).set 1 _), grown_setCells [.slice none 0 0, .bool false] 0 _ (grown_refl _ _)⟩
end Go.Proofs.YtnkkhmgplpkjbaaDoor
