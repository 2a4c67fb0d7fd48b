/- What slices.ContainsFunc, longIn, longOut and the check for a witness return. -/
import Derived.Test.YtnkkhmgplpkjbaaDoorLb
import Derived.Outline
namespace Go.Proofs.YtnkkhmgplpkjbaaDoor
open Go.RowKit
set_option linter.unusedVariables false
set_option linter.unusedSimpArgs false
set_option maxRecDepth 100000
theorem contains84 (v f : Value) (b : Bool) (w : World) (h : Calls Tryd.prog 76 #[v, f] w (IxPost b w)) : Calls Tryd.prog 54 #[v, f] w (BoolPost b w) := by
  have K := Lib.hid h
  clear h
  go_enter Tryd.func54, Tryd.ntmps54
  go_wp2_with (go_at_call 76; (with_reducible refine K.out.mono ?_); rintro e w2 ⟨r, h1, h2, rfl, hb, hbl⟩; have HB := Lib.hid hb; clear hb; dsimp only)
  go_ret
  exact ⟨by rw [← HB.out]; rfl, hbl⟩
theorem contains50 (v f : Value) (b : Bool) (w : World) (h : Calls Tryd.prog 52 #[v, f] w (IxPost b w)) : Calls Tryd.prog 31 #[v, f] w (BoolPost b w) := by
  have K := Lib.hid h
  clear h
  go_enter Tryd.func31, Tryd.ntmps31
  go_wp2_with (go_at_call 52; (with_reducible refine K.out.mono ?_); rintro e w2 ⟨r, h1, h2, rfl, hb, hbl⟩; have HB := Lib.hid hb; clear hb; dsimp only)
  go_ret
  exact ⟨by rw [← HB.out]; rfl, hbl⟩
theorem contains71 (v f : Value) (b : Bool) (w : World) (h : Calls Tryd.prog 55 #[v, f] w (IxPost b w)) : Calls Tryd.prog 33 #[v, f] w (BoolPost b w) := by
  have K := Lib.hid h
  clear h
  go_enter Tryd.func33, Tryd.ntmps33
  go_wp2_with (go_at_call 55; (with_reducible refine K.out.mono ?_); rintro e w2 ⟨r, h1, h2, rfl, hb, hbl⟩; have HB := Lib.hid hb; clear hb; dsimp only)
  go_ret
  exact ⟨by rw [← HB.out]; rfl, hbl⟩
/-- Is an input's script or its witness too long? -/
def lngIn (x : TIn) : Bool := lng x.sc || decide (8 < x.wt.length) || x.wt.any lng
def lngOut (y : TOut) : Bool := lng y.sc
def wit (x : TIn) : Bool := decide (0 < x.wt.length)
theorem longIn_a (x : TIn) (C : Array Value) (A1 A2 : Option Addr) (n1 c1 n2 c2 : Nat) (b : Bool) (w : World) (h33 : C[33]? = some (.slice A1 n1 c1)) (h35 : C[35]? = some (.slice A2 n2 c2)) (h1 : (128 : Int) < (n1 : Int)) :
    Calls Tryd.prog 32 #[.agg C] w (BoolPost true w) := by
  have d33 : (w.alloc (.cells C 57)).cell? ⟨w.heap.size, 33, none⟩ = some (.slice A1 n1 c1) := cell_new rfl h33
  have d35 : (w.alloc (.cells C 57)).cell? ⟨w.heap.size, 35, none⟩ = some (.slice A2 n2 c2) := cell_new rfl h35
  have hb := (Below.refl w.heap.size w).alloc (Nat.le_refl _) (.cells C 57)
  have HB := Lib.hid hb
  clear h33 h35 hb
  go_enter Tryd.func32, Tryd.ntmps32
  go_wp2_with (fail)
  go_ret
  exact ⟨rfl, HB.out⟩
theorem longIn_b (x : TIn) (C : Array Value) (A1 A2 : Option Addr) (n1 c1 n2 c2 : Nat) (b : Bool) (w : World) (h33 : C[33]? = some (.slice A1 n1 c1)) (h35 : C[35]? = some (.slice A2 n2 c2)) (h1 : ¬ (128 : Int) < (n1 : Int)) (h2 : (8 : Int) < (n2 : Int)) :
    Calls Tryd.prog 32 #[.agg C] w (BoolPost true w) := by
  have d33 : (w.alloc (.cells C 57)).cell? ⟨w.heap.size, 33, none⟩ = some (.slice A1 n1 c1) := cell_new rfl h33
  have d35 : (w.alloc (.cells C 57)).cell? ⟨w.heap.size, 35, none⟩ = some (.slice A2 n2 c2) := cell_new rfl h35
  have hb := (Below.refl w.heap.size w).alloc (Nat.le_refl _) (.cells C 57)
  have HB := Lib.hid hb
  clear h33 h35 hb
  go_enter Tryd.func32, Tryd.ntmps32
  go_wp2_with (fail)
  go_ret
  exact ⟨rfl, HB.out⟩
theorem longIn_c (x : TIn) (C : Array Value) (A1 A2 : Option Addr) (n1 c1 n2 c2 : Nat) (b : Bool) (w : World) (h33 : C[33]? = some (.slice A1 n1 c1)) (h35 : C[35]? = some (.slice A2 n2 c2)) (h1 : ¬ (128 : Int) < (n1 : Int)) (h2 : ¬ (8 : Int) < (n2 : Int)) (h3 : ∀ wq, Below w.heap.size w wq → Calls Tryd.prog 54 #[.slice A2 n2 c2, .func (.func 53) #[] #[]] wq (BoolPost b wq)) :
    Calls Tryd.prog 32 #[.agg C] w (BoolPost b w) := by
  have d33 : (w.alloc (.cells C 57)).cell? ⟨w.heap.size, 33, none⟩ = some (.slice A1 n1 c1) := cell_new rfl h33
  have d35 : (w.alloc (.cells C 57)).cell? ⟨w.heap.size, 35, none⟩ = some (.slice A2 n2 c2) := cell_new rfl h35
  have hb := (Below.refl w.heap.size w).alloc (Nat.le_refl _) (.cells C 57)
  have HB := Lib.hid hb
  clear h33 h35 hb
  have K84 := Lib.hid (h3 _ HB.out)
  clear h3
  go_enter Tryd.func32, Tryd.ntmps32
  go_wp2_with (go_at_call 54; (with_reducible refine K84.out.mono ?_); rintro e w2 ⟨rfl, hb2⟩; dsimp only)
  go_ret
  exact ⟨rfl, HB.out.trans (hb2.mono HB.out.size)⟩
theorem longIn_any (x : TIn) (s u : Value) (w : World) (h : InOk w w.heap.size x s u) : Calls Tryd.prog 32 #[.agg (inV x s u).toArray] w (BoolPost (lngIn x) w) := by
  obtain ⟨hs, hu, h32, _, _⟩ := h
  obtain ⟨e32, e33, e34, e35⟩ := inV_at (x := x) (s := s) (v := u) h32
  have hu' := hu
  obtain ⟨A1, c1, rfl, _⟩ := hs
  obtain ⟨A2, c2, rfl, _⟩ := hu
  have g33 : (inV x (.slice A1 x.sc.length c1) (.slice A2 x.wt.length c2)).toArray[33]? = some (.slice A1 x.sc.length c1) := by simpa using e33
  have g35 : (inV x (.slice A1 x.sc.length c1) (.slice A2 x.wt.length c2)).toArray[35]? = some (.slice A2 x.wt.length c2) := by simpa using e35
  by_cases h1 : 128 < x.sc.length
  · have e : lngIn x = true := by unfold lngIn lng; simp [h1]
    rw [e]
    exact longIn_a x _ _ _ _ _ _ _ true w g33 g35 (by omega)
  · by_cases h2 : 8 < x.wt.length
    · have e : lngIn x = true := by unfold lngIn lng; simp [h2]
      rw [e]
      exact longIn_b x _ _ _ _ _ _ _ true w g33 g35 (by omega) (by omega)
    · have e : lngIn x = x.wt.any lng := by unfold lngIn lng; simp [h1, h2]
      rw [e]
      exact longIn_c x _ _ _ _ _ _ _ _ w g33 g35 (by omega) (by omega) fun wq hq => contains84 _ _ _ wq (index_items _ x.wt wq ((hu'.keep hq (Nat.le_refl _)).up hq.size))
theorem longOut_at (C : Array Value) (A1 : Option Addr) (n1 c1 : Nat) (b : Bool) (w : World) (h1 : C[1]? = some (.slice A1 n1 c1)) (hb : decide ((128 : Int) < (n1 : Int)) = b) :
    Calls Tryd.prog 34 #[.agg C] w (BoolPost b w) := by
  have d1 : (w.alloc (.cells C 43)).cell? ⟨w.heap.size, 1, none⟩ = some (.slice A1 n1 c1) := cell_new rfl h1
  have HB := Lib.hid ((Below.refl w.heap.size w).alloc (Nat.le_refl _) (.cells C 43))
  clear h1
  cases b with
  | true =>
    have h2 : (128 : Int) < (n1 : Int) := by simpa using hb
    clear hb
    go_enter Tryd.func34, Tryd.ntmps34
    go_wp2_with fail
    go_ret
    exact ⟨rfl, HB.out⟩
  | false =>
    have h2 : ¬ (128 : Int) < (n1 : Int) := by simpa using hb
    clear hb
    go_enter Tryd.func34, Tryd.ntmps34
    go_wp2_with fail
    go_ret
    exact ⟨rfl, HB.out⟩
theorem longOut_any (y : TOut) (s : Value) (w : World) (h : OutOk w w.heap.size y s) : Calls Tryd.prog 34 #[.agg (outV y s).toArray] w (BoolPost (lngOut y) w) := by
  obtain ⟨hs, _, _⟩ := h
  obtain ⟨A1, c1, rfl, _⟩ := hs
  exact longOut_at _ A1 y.sc.length c1 _ w rfl (by unfold lngOut lng; exact decide_eq_decide.2 (by omega))
theorem wit_at (C : Array Value) (A1 : Option Addr) (n1 c1 : Nat) (b : Bool) (w : World) (h1 : C[35]? = some (.slice A1 n1 c1)) (hb : decide ((0 : Int) < (n1 : Int)) = b) :
    Calls Tryd.prog 36 #[.agg C] w (BoolPost b w) := by
  have d1 : (w.alloc (.cells C 57)).cell? ⟨w.heap.size, 35, none⟩ = some (.slice A1 n1 c1) := cell_new rfl h1
  have HB := Lib.hid ((Below.refl w.heap.size w).alloc (Nat.le_refl _) (.cells C 57))
  clear h1
  cases b with
  | true =>
    have h2 : 0 < n1 := by simp at hb; omega
    clear hb
    go_enter Tryd.func36, Tryd.ntmps36
    go_wp2_with fail
    go_ret
    exact ⟨rfl, HB.out⟩
  | false =>
    have h2 : n1 = 0 := by simp at hb; omega
    subst h2
    clear hb
    go_enter Tryd.func36, Tryd.ntmps36
    go_wp2_with fail
    go_ret
    exact ⟨rfl, HB.out⟩
theorem wit_any (x : TIn) (s u : Value) (w : World) (h : InOk w w.heap.size x s u) : Calls Tryd.prog 36 #[.agg (inV x s u).toArray] w (BoolPost (wit x) w) := by
  obtain ⟨hs, hu, h32, _, _⟩ := h
  obtain ⟨e32, e33, e34, e35⟩ := inV_at (x := x) (s := s) (v := u) h32
  obtain ⟨A2, c2, rfl, _⟩ := hu
  exact wit_at _ A2 x.wt.length c2 _ w (by simpa using e35) (by unfold wit; exact decide_eq_decide.2 (by omega))
end Go.Proofs.YtnkkhmgplpkjbaaDoor
