/- What tx.fits, longIn's own function, and slices.IndexFunc and ContainsFunc with it return. -/
import Derived.Test.YtnkkhmgplpkjbaaDoorLa
import Derived.Outline
namespace Go.Proofs.YtnkkhmgplpkjbaaDoor
open Go.RowKit
set_option linter.unusedVariables false
set_option linter.unusedSimpArgs false
set_option maxRecDepth 100000
def fitE (n : Nat) : Int := if n = 0 then 4 else if 16 < n then 3 else 0
theorem fits_any (n : Nat) (w : World) : Calls Tryd.prog 30 #[.int .i64 (n : Int), .int .i64 16] w fun e w' => e = .returned (.int .i64 (fitE n)) ∧ w = w' := by
  by_cases h0 : n = 0
  · subst h0
    go_enter Tryd.func30, Tryd.ntmps30
    go_wp2
    go_ret
    exact ⟨rfl, rfl⟩
  · have h1 : ((n : Int) == 0) = false := by simp; omega
    by_cases h2 : 16 < n
    · have e : fitE n = 3 := by unfold fitE; rw [if_neg h0, if_pos h2]
      have h3 : (16 : Int) < (n : Int) := by omega
      rw [e]
      clear e h0 h2
      go_enter Tryd.func30, Tryd.ntmps30
      go_wp2
      go_ret
      exact ⟨rfl, rfl⟩
    · have e : fitE n = 0 := by unfold fitE; rw [if_neg h0, if_neg h2]
      have h3 : ¬ (16 : Int) < (n : Int) := by omega
      rw [e]
      clear e h0 h2
      go_enter Tryd.func30, Tryd.ntmps30
      go_wp2
      go_ret
      exact ⟨rfl, rfl⟩
/-- Is a text longer than scripts and items may be? -/
def lng (L : List (BitVec 8)) : Bool := decide (128 < L.length)
theorem item_any (v : Value) (L : List (BitVec 8)) (B : Nat) (w : World) (h : Sl w B v L) : Calls Tryd.prog 53 #[v] w (BoolPost (lng L) w) := by
  obtain ⟨A, cap, rfl, _⟩ := h
  have hb := Below.refl w.heap.size w
  by_cases h1 : 128 < L.length
  · have e : lng L = true := by unfold lng; simpa using h1
    have h2 : (128 : Int) < (L.length : Int) := by omega
    rw [e]
    clear e h1
    go_enter Tryd.func53, Tryd.ntmps53
    go_wp2
    go_ret
    exact ⟨rfl, hb⟩
  · have e : lng L = false := by unfold lng; simpa using h1
    have h2 : ¬ (128 : Int) < (L.length : Int) := by omega
    rw [e]
    clear e h1
    go_enter Tryd.func53, Tryd.ntmps53
    go_wp2
    go_ret
    exact ⟨rfl, hb⟩
/-- What IndexFunc tells: a place that is there just if b. -/
def IxPost (b : Bool) (w : World) (e : Ending) (w' : World) : Prop := ∃ r : Int, -1 ≤ r ∧ r ≤ 9223372036854775807 ∧ e = .returned (.int .i64 r) ∧ decide (0 ≤ r) = b ∧ Below w.heap.size w w'
theorem any_take_succ {α : Type} (l : List α) (d : α) (f : α → Bool) (i : Nat) (h : i < l.length) : (l.take (i + 1)).any f = ((l.take i).any f || f (l.getD i d)) := by
  rw [List.take_succ_eq_append_getElem h, List.any_append]
  simp [List.getD, h]
theorem any_at {α : Type} (l : List α) (d : α) (f : α → Bool) (i : Nat) (h : i < l.length) (hf : f (l.getD i d) = true) : l.any f = true := by
  have e : l.getD i d = l[i] := by simp [List.getD, h]
  rw [e] at hf
  exact List.any_eq_true.2 ⟨_, List.getElem_mem h, hf⟩
set_option maxHeartbeats 4000000 in
theorem index_items (v : Value) (Ls : List (List (BitVec 8))) (w : World) (h : Ws w w.heap.size v Ls) :
    Calls Tryd.prog 76 #[v, .func (.func 53) #[] #[]] w (IxPost (Ls.any lng) w) := by
  obtain ⟨A, cap, rfl, hl, hm, hr⟩ := h
  have HR := Lib.hid hr
  have hm2 : Ls.length ≤ 9223372036854775807 := by omega
  obtain ⟨n, hn⟩ : ∃ n, n = Ls.length := ⟨_, rfl⟩
  have Hn := Lib.hid hn
  rw [← hn] at hm2 ⊢
  clear hr hn hl hm
  go_enter Tryd.func76, Tryd.ntmps76
  go_wp2_with fail
  go_loopw [8] (fun iv wq => ∃ i : Nat, i ≤ n ∧ iv = .int .i64 (i : Int) ∧ (Ls.take i).any lng = false ∧ Below w.heap.size w wq) (fun iv _ => n - (intOf iv).toNat)
  case atStart => exact ⟨0, Nat.zero_le _, rfl, rfl, Below.refl _ _⟩
  case round =>
    obtain ⟨i, hi, rfl, ha, hb⟩ := hrel
    have HA := Lib.hid ha
    have HB := Lib.hid hb
    clear ha hb
    by_cases hlt : i < n
    · have hlt' : (i : Int) < (n : Int) := by omega
      obtain ⟨b, o, rfl, hbl, hc⟩ := HR.out (by rw [← Hn.out]; omega)
      obtain ⟨u, cu, hs⟩ := hc i (by rw [← Hn.out]; exact hlt)
      rw [Nat.mul_one] at cu
      have c0 : wr.cell? ⟨b, o + i, none⟩ = some u := by rw [HB.out.cell (p := ⟨b, o + i, none⟩) hbl]; exact cu
      have K83 := Lib.hid (item_any u (Ls.getD i []) w.heap.size wr (hs.keep HB.out (Nat.le_refl _)))
      have hst := any_take_succ Ls [] lng i (by rw [← Hn.out]; exact hlt)
      have hat := any_at Ls [] lng i (by rw [← Hn.out]; exact hlt)
      rw [HA.out, Bool.false_or] at hst
      cases hq : lng (Ls.getD i []) with
      | true =>
        have HT := Lib.hid (hat hq)
        rw [hq] at K83
        clear hst hat hq cu hs hc
        go_wp2_with (go_at_call 53; (with_reducible refine K83.out.mono ?_); rintro e w2 ⟨rfl, hb2⟩; dsimp only)
        go_ret
        exact ⟨_, by omega, by omega, rfl, by rw [HT.out]; simp, HB.out.trans (hb2.mono HB.out.size)⟩
      | false =>
        rw [hq] at hst K83
        have HT := Lib.hid hst
        clear hst hat hq cu hs hc
        go_wp2_with (go_at_call 53; (with_reducible refine K83.out.mono ?_); rintro e w2 ⟨rfl, hb2⟩; dsimp only)
        go_roundw
        case rel => exact ⟨i + 1, by omega, by go_num, HT.out, HB.out.trans (hb2.mono HB.out.size)⟩
        case measure => simp [intOf]; omega
    · obtain rfl : i = n := by omega
      have hlt' : ¬ (i : Int) < (i : Int) := by omega
      have e : Ls.any lng = false := by have := HA.out; rwa [List.take_of_length_le (by rw [Hn.out]; exact Nat.le_refl _)] at this
      have HE := Lib.hid e
      clear e
      go_wp2_with fail
      go_ret
      exact ⟨-1, by omega, by omega, rfl, by rw [HE.out]; rfl, HB.out⟩
end Go.Proofs.YtnkkhmgplpkjbaaDoor
