/- What the reader's small methods return: isWidth, Torn, has, Left, End. -/
import Derived.Test.YtnkkhmgplpkjbaaDoorKa
namespace Go.Proofs.YtnkkhmgplpkjbaaDoor
open Go.RowKit
set_option maxRecDepth 100000
set_option linter.unusedVariables false
set_option linter.unusedSimpArgs false
/-- The slice at A reads as the bytes L, in a block of bytes that lies below B. -/
def Own5 (w : World) (B : Nat) (A : Option Addr) (L : List (BitVec 8)) : Prop :=
  0 < L.length → ∃ b o cur, A = some ⟨b, o, none⟩ ∧ b < B ∧ w.heap[b]? = some (.cells cur 5 (0, 0)) ∧ ∀ j, j < L.length → cur[o + j]? = some (.int .u8 (Bt (L.getD j 0)))
/-- The reader at p has the bytes L left, or is torn. -/
def IsR (w : World) (B : Nat) (p : Option Nat) : Option (List (BitVec 8)) → Prop
  | none => ∀ g, p = some g → g < B ∧ Blk w g 74 [.slice none 0 0, .bool false]
  | some L => ∃ g A cap, p = some g ∧ g < B ∧ Blk w g 74 [.slice A L.length cap, .bool true] ∧ Own5 w B A L ∧ L.length ≤ cap ∧ cap ≤ 9223372036854775807 ∧ (A = none → cap = 0)
def isW (n : Int) : Bool := decide (n = 1 ∨ n = 2 ∨ n = 4 ∨ n = 8)
def hasB (s : Option (List (BitVec 8))) (n : Int) : Bool := match s with
  | none => false
  | some L => decide (0 ≤ n ∧ n ≤ L.length)
theorem isWidth_any (n : Int) (w : World) : Calls Tryd.prog 82 #[.int .i64 n] w fun e w' => e = .returned (.bool (isW n)) ∧ w = w' := by
  by_cases h1 : n = 1
  · subst h1
    go_enter Tryd.func82, Tryd.ntmps82
    go_wp2
    go_ret
    exact ⟨rfl, rfl⟩
  · by_cases h2 : n = 2
    · subst h2
      go_enter Tryd.func82, Tryd.ntmps82
      go_wp2
      go_ret
      exact ⟨rfl, rfl⟩
    · by_cases h4 : n = 4
      · subst h4
        go_enter Tryd.func82, Tryd.ntmps82
        go_wp2
        go_ret
        exact ⟨rfl, rfl⟩
      · by_cases h8 : n = 8
        · subst h8
          go_enter Tryd.func82, Tryd.ntmps82
          go_wp2
          go_ret
          exact ⟨rfl, rfl⟩
        · have e : isW n = false := by unfold isW; simp [h1, h2, h4, h8]
          rw [e]
          go_enter Tryd.func82, Tryd.ntmps82
          go_wp2
          go_ret
          exact ⟨rfl, rfl⟩
theorem torn_nil (w : World) : Calls Tryd.prog 41 #[.pointer none] w fun e w' => e = .returned (.bool true) ∧ w = w' := by
  go_enter Tryd.func41, Tryd.ntmps41
  go_wp2
  go_ret
  exact ⟨rfl, rfl⟩
theorem torn_at (g : Nat) (b : Bool) (v : Value) (w : World) (hb : Blk w g 74 [v, .bool b]) : Calls Tryd.prog 41 #[.pointer (some ⟨g, 0, none⟩)] w fun e w' => e = .returned (.bool (!b)) ∧ w = w' := by
  have c1 := hb.cell (j := 1) (v := .bool b) rfl
  go_enter Tryd.func41, Tryd.ntmps41
  go_wp2
  go_ret
  exact ⟨rfl, rfl⟩
def ptr (p : Option Nat) : Value := .pointer (p.map fun g => ⟨g, 0, none⟩)
theorem torn_any (p : Option Nat) (s : Option (List (BitVec 8))) (B : Nat) (w : World) (h : IsR w B p s) : Calls Tryd.prog 41 #[ptr p] w fun e w' => e = .returned (.bool s.isNone) ∧ w = w' := by
  cases s with
  | none =>
    cases p with
    | none => exact torn_nil w
    | some g => exact torn_at g false _ w (h g rfl).2
  | some L =>
    obtain ⟨g, A, cap, rfl, _, hb, _⟩ := h
    exact torn_at g true _ w hb
end Go.Proofs.YtnkkhmgplpkjbaaDoor
