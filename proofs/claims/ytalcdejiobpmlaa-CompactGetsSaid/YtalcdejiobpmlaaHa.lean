/- The law package's cut, and that its works returns true. -/
import Derived.Test.YtalcdejiobpmlaaCe
import Derived.Test.YtalcdejiobpmlaaGa
import Derived.Outline
namespace Go.Proofs.Ytalcdejiobpmlaa
open Go.RowKit
set_option linter.unusedVariables false
set_option linter.unusedSimpArgs false
set_option maxRecDepth 100000
theorem cut_row (A : Option Addr) (n cap : Nat) (w : World) (h : n ≤ cap) (hm : cap ≤ 9223372036854775807) : Calls Try.prog 9 #[.slice A n cap] w fun e w' => e = .returned (.slice A (min n 3000) cap) ∧ w = w' := by
  by_cases h1 : n ≤ 3000
  · have e : min n 3000 = n := by omega
    have e2 : min (n : Int) 3000 = n := by omega
    rw [e]
    clear e
    go_enter Try.func9, Try.ntmps9
    go_wp2
    go_ret
    exact ⟨rfl, rfl⟩
  · have e : min n 3000 = 3000 := by omega
    have e2 : min (n : Int) 3000 = 3000 := by omega
    rw [e]
    clear e
    go_enter Try.func9, Try.ntmps9
    go_wp2
    go_ret
    exact ⟨rfl, rfl⟩
theorem put_253 (w : World) : Calls Try.prog 10 #[.slice none 0 0, .int .u64 253] w (LaidPost [253, 253, 0] w) := by
  have := put_any none [] 0 0 253 w (fun h => by simp at h) (Nat.zero_le _) (by decide)
  rw [show ([] : List (BitVec 8)) ++ form 253 = [253, 253, 0] by decide] at this
  exact this
theorem OB.shape {w : World} {B : Nat} {v : Value} {X : List (BitVec 8)} (h : OB w B v X) (hp : 0 < X.length) : ∃ g cap, v = .slice (some ⟨g, 0, none⟩) X.length cap ∧ B ≤ g ∧ g < w.heap.size ∧ X.length ≤ cap ∧ cap ≤ 9223372036854775807 ∧ ∀ k, k < X.length → w.cell? ⟨g, k, none⟩ = some (.int .u8 (Bt (X.getD k 0))) := by
  obtain ⟨A, cap, rfl, _, h1, h2, _⟩ := h.rd
  obtain ⟨g, rfl⟩ := h.form hp
  exact ⟨g, cap, rfl, (h.cells hp).2.2.1, World.block_lt_of_cell? w _ (h.cells hp).1, h1, h2, fun k hk => (h.cells hk).1⟩
theorem get_w (w : World) (p : Option Nat) (B : Nat) (s s' : Option (List (BitVec 8))) (most x : Nat) (M c : Int) (hM : (most : Int) = M) (hx : gV s most = x) (hc : gE s most = c) (hs : gS s = s') (h : IsR w B p s) (hB : B ≤ w.heap.size) :
    Calls Try.prog 18 #[ptr p, .int .u64 M] w (GetPost x c s' B p w) := by
  rw [← hM, ← hx, ← hc, ← hs]; exact get_any p s most B w h hB
theorem open_w (A : Option Addr) (L : List (BitVec 8)) (n cap B : Nat) (w : World) (hn : L.length = n) (hR : Rd w B A L) (hB : B ≤ w.heap.size) (hc : A = none → cap = 0) (hl : L.length ≤ 100000000) :
    Calls Try.prog 17 #[.slice A n cap] w fun e w' => ∃ g, e = .returned (ptr (some g)) ∧ IsR w' (g + 1) (some g) (some L) ∧ w.heap.size ≤ g ∧ g < w'.heap.size ∧ Below w.heap.size w w' := by
  subst hn; exact open_any A L cap B w hR hB hc hl
theorem works_any (w : World) : Calls Try.prog 16 #[] w fun e w' => e = .returned (.bool true) ∧ Below w.heap.size w w' := by
  have K10 := Lib.hid (put_253 w)
  go_enter Try.func16, Try.ntmps16
  go_upto_region 2 with (go_at_call 10; (with_reducible refine K10.out.mono ?_); rintro e w1 ⟨v, rfl, hv, hb⟩; have HV := Lib.hid hv; have HB := Lib.hid hb; clear hv hb; dsimp only)
  obtain ⟨g, cap, rfl, hBg, hg, hl, hm, hc⟩ := HV.out.shape (by decide)
  obtain ⟨A', cap', e', hrd, _, _, _⟩ := HV.out.rd
  cases e'
  have K17 := Lib.hid (open_w _ [253, 253, 0] 3 cap _ w1 rfl hrd (Nat.le_refl _) (fun h => by cases h) (by decide))
  have Hg1 := Lib.hid hg
  have C0 := Lib.hid (hc 0 (by decide))
  have C1 := Lib.hid (hc 1 (by decide))
  clear hrd hBg hg hm hc
  go_upto_region 3 with (first
    | (go_at_call 17; (with_reducible refine K17.out.mono ?_); rintro e w2 ⟨z, rfl, hi, hz1, hz2, hb2⟩; have K18 := Lib.hid (get_w w2 (some z) (z + 1) (some [253, 253, 0]) (some []) 300 253 300 0 rfl (by decide) (by decide) (by decide) hi (by omega)); have HB2 := Lib.hid hb2; have Hz := Lib.hid hz1; clear hi hz1 hz2 hb2; dsimp only)
    | (go_at_call 18; (with_reducible refine K18.out.mono ?_); rintro e w3 ⟨rfl, hi3, hg3⟩; have HG3 := Lib.hid hg3; clear hi3 hg3; dsimp only))
  have c0 : w3.cell? ⟨g, 0, none⟩ = some (.int .u8 253) := HG3.out.cell ((World.cell?_of_block (a := ⟨g, 0, none⟩) (HB2.out.block g Hg1.out)).trans C0.out) (fun e => by have e2 : g = z := Option.some.inj e; have := Hz.out; have := Hg1.out; omega)
  have c1 : w3.cell? ⟨g, 1, none⟩ = some (.int .u8 253) := HG3.out.cell ((World.cell?_of_block (a := ⟨g, 1, none⟩) (HB2.out.block g Hg1.out)).trans C1.out) (fun e => by have e2 : g = z := Option.some.inj e; have := Hz.out; have := Hg1.out; omega)
  clear C0 C1
  go_wp2
  go_ret
  have h2 : Below w.heap.size w w2 := HB.out.trans (HB2.out.mono HB.out.size)
  exact ⟨rfl, h2.grown HG3.out h2.size (fun k e => by cases e; have := Hz.out; have := HB.out.size; omega)⟩
end Go.Proofs.Ytalcdejiobpmlaa
