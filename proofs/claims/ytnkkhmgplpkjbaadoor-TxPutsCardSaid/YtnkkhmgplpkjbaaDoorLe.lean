/- What tx.Check and Witnessed return. -/
import Derived.Test.YtnkkhmgplpkjbaaDoorLd
import Derived.Outline
namespace Go.Proofs.YtnkkhmgplpkjbaaDoor
open Go.RowKit
set_option linter.unusedVariables false
set_option linter.unusedSimpArgs false
set_option maxRecDepth 100000
/-- Why a transaction may not be, or nought. -/
def chk (t : TTx) : Int := if fitE t.ins.length ≠ 0 then fitE t.ins.length else if fitE t.outs.length ≠ 0 then fitE t.outs.length else if t.ins.any lngIn = true ∨ t.outs.any lngOut = true then 3 else 0
def witd (t : TTx) : Bool := t.ins.any wit
def IntPost (c : Int) (w : World) (e : Ending) (w' : World) : Prop := e = .returned (.int .i64 c) ∧ Below w.heap.size w w'
theorem check_at (n1 n2 c1 c2 : Nat) (A1 A2 : Option Addr) (V Lk : Int) (e1 e2 : Int) (b1 b2 : Bool) (w : World) (h1 : fitE n1 = e1) (h2 : fitE n2 = e2)
    (k1 : ∀ wq, Below w.heap.size w wq → Calls Tryd.prog 31 #[.slice A1 n1 c1, .func (.func 32) #[] #[]] wq (BoolPost b1 wq))
    (k2 : ∀ wq, Below w.heap.size w wq → Calls Tryd.prog 33 #[.slice A2 n2 c2, .func (.func 34) #[] #[]] wq (BoolPost b2 wq)) :
    Calls Tryd.prog 12 #[.agg #[.int .u32 V, .slice A1 n1 c1, .slice A2 n2 c2, .int .u32 Lk]] w (IntPost (if e1 ≠ 0 then e1 else if e2 ≠ 0 then e2 else if b1 = true ∨ b2 = true then 3 else 0) w) := by
  have F1 := Lib.hid (fits_any n1)
  have F2 := Lib.hid (fits_any n2)
  rw [h1] at F1
  rw [h2] at F2
  have K1 := Lib.hid k1
  have K2 := Lib.hid k2
  have HB : Hid (Below w.heap.size w (w.alloc (.cells #[.int .u32 V, .slice A1 n1 c1, .slice A2 n2 c2, .int .u32 Lk] 26))) := (Below.refl _ _).alloc (Nat.le_refl _) _
  clear h1 h2 k1 k2
  by_cases d1 : e1 = 0
  · subst d1
    rw [if_neg (by decide)]
    by_cases d2 : e2 = 0
    · subst d2
      rw [if_neg (by decide)]
      cases b1 with
      | true =>
        rw [if_pos (Or.inl rfl)]
        go_enter Tryd.func12, Tryd.ntmps12
        go_wp2_with (first
          | (go_at_call 30; (with_reducible refine (F1.out _).mono ?_); rintro e w' ⟨rfl, rfl⟩; dsimp only)
          | (go_at_call 30; (with_reducible refine (F2.out _).mono ?_); rintro e w' ⟨rfl, rfl⟩; dsimp only)
          | (go_at_call 31; (with_reducible refine (K1.out _ HB.out).mono ?_); rintro e w2 ⟨rfl, hb2⟩; dsimp only))
        go_ret
        exact ⟨rfl, HB.out.trans (hb2.mono HB.out.size)⟩
      | false =>
        cases b2 with
        | true =>
          rw [if_pos (Or.inr rfl)]
          go_enter Tryd.func12, Tryd.ntmps12
          go_wp2_with (first
            | (go_at_call 30; (with_reducible refine (F1.out _).mono ?_); rintro e w' ⟨rfl, rfl⟩; dsimp only)
            | (go_at_call 30; (with_reducible refine (F2.out _).mono ?_); rintro e w' ⟨rfl, rfl⟩; dsimp only)
            | (go_at_call 31; (with_reducible refine (K1.out _ HB.out).mono ?_); rintro e w2 ⟨rfl, hb2⟩; have HB2 : Hid (Below w.heap.size w w2) := HB.out.trans (hb2.mono HB.out.size); obtain ⟨hc, hf⟩ : w2.cell? ⟨w.heap.size, 2, none⟩ = some (.slice A2 n2 c2) ∧ True := ⟨by rw [hb2.cell (p := ⟨w.heap.size, 2, none⟩) (by simp)]; exact cell_new rfl rfl, trivial⟩; dsimp only)
            | (go_at_call 33; (with_reducible refine (K2.out _ HB2.out).mono ?_); rintro e w3 ⟨rfl, hb3⟩; dsimp only))
          go_ret
          exact ⟨rfl, HB2.out.trans (hb3.mono HB2.out.size)⟩
        | false =>
          rw [if_neg (by simp)]
          go_enter Tryd.func12, Tryd.ntmps12
          go_wp2_with (first
            | (go_at_call 30; (with_reducible refine (F1.out _).mono ?_); rintro e w' ⟨rfl, rfl⟩; dsimp only)
            | (go_at_call 30; (with_reducible refine (F2.out _).mono ?_); rintro e w' ⟨rfl, rfl⟩; dsimp only)
            | (go_at_call 31; (with_reducible refine (K1.out _ HB.out).mono ?_); rintro e w2 ⟨rfl, hb2⟩; have HB2 : Hid (Below w.heap.size w w2) := HB.out.trans (hb2.mono HB.out.size); obtain ⟨hc, hf⟩ : w2.cell? ⟨w.heap.size, 2, none⟩ = some (.slice A2 n2 c2) ∧ True := ⟨by rw [hb2.cell (p := ⟨w.heap.size, 2, none⟩) (by simp)]; exact cell_new rfl rfl, trivial⟩; dsimp only)
            | (go_at_call 33; (with_reducible refine (K2.out _ HB2.out).mono ?_); rintro e w3 ⟨rfl, hb3⟩; dsimp only))
          go_ret
          exact ⟨rfl, HB2.out.trans (hb3.mono HB2.out.size)⟩
    · rw [if_pos d2]
      have d3 : (e2 != 0) = true := by simpa using d2
      clear d2
      go_enter Tryd.func12, Tryd.ntmps12
      go_wp2_with (first
        | (go_at_call 30; (with_reducible refine (F1.out _).mono ?_); rintro e w' ⟨rfl, rfl⟩; dsimp only)
        | (go_at_call 30; (with_reducible refine (F2.out _).mono ?_); rintro e w' ⟨rfl, rfl⟩; dsimp only))
      go_ret
      exact ⟨rfl, HB.out⟩
  · rw [if_pos d1]
    have d3 : (e1 != 0) = true := by simpa using d1
    clear d1
    go_enter Tryd.func12, Tryd.ntmps12
    go_wp2_with (go_at_call 30; (with_reducible refine (F1.out _).mono ?_); rintro e w' ⟨rfl, rfl⟩; dsimp only)
    go_ret
    exact ⟨rfl, HB.out⟩
theorem check_any (t : TTx) (i o : Value) (w : World) (h : TxOk w w.heap.size t i o) : Calls Tryd.prog 12 #[txV t i o] w (IntPost (chk t) w) := by
  obtain ⟨hi, ho, _, _⟩ := h
  have hi' := hi
  have ho' := ho
  obtain ⟨A1, c1, rfl, _⟩ := hi
  obtain ⟨A2, c2, rfl, _⟩ := ho
  exact check_at t.ins.length t.outs.length c1 c2 A1 A2 _ _ _ _ (t.ins.any lngIn) (t.outs.any lngOut) w rfl rfl
    (fun wq hq => contains50 _ _ _ wq (index_long _ t.ins wq ((hi'.keep hq (Nat.le_refl _)).up hq.size)))
    (fun wq hq => contains71 _ _ _ wq (index_out _ t.outs wq ((ho'.keep hq (Nat.le_refl _)).up hq.size)))
theorem witnessed_at (n1 n2 c1 c2 : Nat) (A1 A2 : Option Addr) (V Lk : Int) (b1 : Bool) (w : World)
    (k1 : ∀ wq, Below w.heap.size w wq → Calls Tryd.prog 31 #[.slice A1 n1 c1, .func (.func 36) #[] #[]] wq (BoolPost b1 wq)) :
    Calls Tryd.prog 14 #[.agg #[.int .u32 V, .slice A1 n1 c1, .slice A2 n2 c2, .int .u32 Lk]] w (BoolPost b1 w) := by
  have K1 := Lib.hid k1
  have HB : Hid (Below w.heap.size w (w.alloc (.cells #[.int .u32 V, .slice A1 n1 c1, .slice A2 n2 c2, .int .u32 Lk] 26))) := (Below.refl _ _).alloc (Nat.le_refl _) _
  clear k1
  go_enter Tryd.func14, Tryd.ntmps14
  go_wp2_with (go_at_call 31; (with_reducible refine (K1.out _ HB.out).mono ?_); rintro e w2 ⟨rfl, hb2⟩; dsimp only)
  go_ret
  exact ⟨rfl, HB.out.trans (hb2.mono HB.out.size)⟩
theorem witnessed_any (t : TTx) (i o : Value) (w : World) (h : TxOk w w.heap.size t i o) : Calls Tryd.prog 14 #[txV t i o] w (BoolPost (witd t) w) := by
  obtain ⟨hi, ho, _, _⟩ := h
  have hi' := hi
  obtain ⟨A1, c1, rfl, _⟩ := hi
  obtain ⟨A2, c2, rfl, _⟩ := ho
  exact witnessed_at t.ins.length t.outs.length c1 c2 A1 A2 _ _ _ w
    (fun wq hq => contains50 _ _ _ wq (index_wit _ t.ins wq ((hi'.keep hq (Nat.le_refl _)).up hq.size)))
end Go.Proofs.YtnkkhmgplpkjbaaDoor
