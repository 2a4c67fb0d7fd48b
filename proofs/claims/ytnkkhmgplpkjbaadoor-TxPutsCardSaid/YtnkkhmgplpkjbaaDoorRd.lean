/- What cut returns: what was read, and what the reader is then. -/
import Derived.Test.YtnkkhmgplpkjbaaDoorRc
import Derived.Outline
namespace Go.Proofs.YtnkkhmgplpkjbaaDoor
open Go.RowKit
set_option maxRecDepth 100000
set_option linter.unusedVariables false
set_option linter.unusedSimpArgs false
theorem Own5.rd {w : World} {B : Nat} {A : Option Addr} {L : List (BitVec 8)} (h : Own5 w B A L) : Rd w B A L := fun hp => by
  obtain ⟨b, o, cur, e, hb, hh, hc⟩ := h hp
  refine ⟨b, o, e, hb, fun j hj => ?_⟩
  rw [← hc j hj]
  simp [World.cell?, hh]
theorem Own5.take {w : World} {B : Nat} {A : Option Addr} {L : List (BitVec 8)} (h : Own5 w B A L) (n : Nat) (hn : n ≤ L.length) : Own5 w B A (L.take n) := fun hp => by
  rw [List.length_take] at hp
  obtain ⟨b, o, cur, e, hb, hh, hc⟩ := h (by omega)
  refine ⟨b, o, cur, e, hb, hh, fun j hj => ?_⟩
  rw [List.length_take] at hj
  rw [hc j (by omega)]
  simp [List.getD, List.getElem?_take, show j < n by omega]
theorem Own5.drop {w : World} {B : Nat} {A : Option Addr} {L : List (BitVec 8)} {cap : Nat} (h : Own5 w B A L) (n : Nat) (hl : L.length ≤ cap) : Own5 w B (if cap = n then A else A.map (·.add n)) (L.drop n) := fun hp => by
  rw [List.length_drop] at hp
  obtain ⟨b, o, cur, rfl, hb, hh, hc⟩ := h (by omega)
  rw [if_neg (by omega)]
  refine ⟨b, o + n, cur, by simp [Addr.add_mid], hb, hh, fun j hj => ?_⟩
  rw [List.length_drop] at hj
  rw [Nat.add_assoc, hc (n + j) (by omega)]
  simp [List.getD]
theorem Own5.heap {w w' : World} {B : Nat} {A : Option Addr} {L : List (BitVec 8)} (h : Own5 w B A L) (hk : ∀ b cur, b < B → w.heap[b]? = some (.cells cur 5 (0, 0)) → w'.heap[b]? = w.heap[b]?) : Own5 w' B A L := fun hp => by
  obtain ⟨b, o, cur, e, hb, hh, hc⟩ := h hp
  exact ⟨b, o, cur, e, hb, by rw [hk b cur hb hh]; exact hh, hc⟩
theorem Own5.store {w : World} {B g : Nat} {A : Option Addr} {L : List (BitVec 8)} {T : Nat} {vs : List Value} (h : Own5 w B A L) (hg : Blk w g T vs) (hT : T ≠ 5) (o : Nat) (v : Value) : Own5 (w.setCell ⟨g, o, none⟩ v) B A L :=
  h.heap fun b cur _ hh => Below.heap_setCell _ _ _ _ fun (e : b = g) => by
    subst e
    unfold Blk at hg
    rw [hg] at hh
    injection hh with hh
    injection hh with _ hh
    exact hT hh
/-- What cut tells, and leaves behind. -/
def CutPost (s : Option (List (BitVec 8))) (n : Int) (B : Nat) (p : Option Nat) (w : World) (e : Ending) (w' : World) : Prop :=
  w.grownBy w' p ∧ (hasB s n = false → e = .returned (.tuple #[.slice none 0 0, .bool false]) ∧ IsR w' B p none) ∧
    (hasB s n = true → ∃ L A, s = some L ∧ e = .returned (.tuple #[.slice A n.toNat n.toNat, .bool true]) ∧ Own5 w' B A (L.take n.toNat) ∧ (A = none → n.toNat = 0) ∧ IsR w' B p (some (L.drop n.toNat)))
theorem cut_end {w W : World} {B g cap k : Nat} {A : Option Addr} {L : List (BitVec 8)} {v : Value} (hb : Blk w g 74 [.slice A L.length cap, .bool true]) (hg : g < B) (ho : Own5 w B A L) (hz : A = none → cap = 0) (hl : L.length ≤ cap) (hm : cap ≤ 9223372036854775807) (hk : k ≤ L.length) (hs : hasB (some L) k = true)
    (hW : W = w.setCell ⟨g, 0, none⟩ v) (hv : v = .slice (if cap = k then A else A.map (·.add k)) (L.length - k) (cap - k)) :
    CutPost (some L) k B (some g) w (.returned (.tuple #[.slice A k k, .bool true])) W := by
  subst hW
  refine ⟨grown_setCells [v] 0 _ (grown_refl _ _), (fun h => by rw [hs] at h; cases h), fun _ => ⟨L, A, rfl, rfl, ?_, ?_, ?_⟩⟩
  · exact (ho.take k hk).store hb (by decide) 0 v
  · intro h; have := hz h; simp; omega
  · refine ⟨g, _, cap - k, rfl, hg, ?_, (ho.drop k hl).store hb (by decide) 0 v, by simp; omega, by omega, fun h => ?_⟩
    · have := hb.set 0 v
      rw [hv] at this ⊢
      simpa using this
    · by_cases e : cap = k
      · omega
      · rw [if_neg e] at h
        have := hz (by simpa using h)
        omega
theorem cut_any (p : Option Nat) (s : Option (List (BitVec 8))) (n : Int) (B : Nat) (w : World) (h : IsR w B p s) :
    Calls Tryd.prog 84 #[ptr p, .int .i64 n] w (CutPost s n B p w) := by
  have HH := Lib.hid (has_any p s n B w h)
  by_cases hs : hasB s n = true
  · cases s with
    | none => cases hs
    | some L =>
      have hn : 0 ≤ n ∧ n ≤ L.length := by simpa [hasB] using hs
      obtain ⟨k, rfl⟩ : ∃ k : Nat, n = k := ⟨n.toNat, by omega⟩
      obtain ⟨g, A, cap, rfl, hg, hb, ho, hl, hm, hz⟩ := h
      rw [ptr_some] at HH ⊢
      rw [hs] at HH
      have c0 := hb.cell (j := 0) (v := .slice A L.length cap) rfl
      have f0 := hb.free 0
      have k1 : k ≤ L.length := by omega
      have HO := Lib.hid ho
      have HB := Lib.hid hb
      have HZ := Lib.hid hz
      have HSs := Lib.hid hs
      clear ho hb hz hs hn
      go_enter Tryd.func84, Tryd.ntmps84
      go_wp2_with (go_at_call 85; (with_reducible refine HH.out.mono ?_); rintro e w' ⟨rfl, rfl⟩; dsimp only)
      all_goals go_ret2
      · have hk : cap = k := by assumption
        refine cut_end HB.out hg HO.out HZ.out hl hm k1 HSs.out rfl ?_
        rw [if_pos hk, hk, Nat.sub_self]
      · have hk : ¬ cap = k := by assumption
        refine cut_end HB.out hg HO.out HZ.out hl hm k1 HSs.out rfl ?_
        rw [if_neg hk]
  · have hs' : hasB s n = false := by simpa using hs
    have HT := Lib.hid (tear_any p s B w h)
    rw [hs'] at HH
    have HS := Lib.hid hs'
    obtain ⟨q, hq⟩ : ∃ q, q = ptr p := ⟨_, rfl⟩
    rw [← hq] at HT HH ⊢
    clear h hq hs hs'
    go_enter Tryd.func84, Tryd.ntmps84
    go_wp2_with (first | (go_at_call 85; (with_reducible refine HH.out.mono ?_); rintro e w' ⟨rfl, rfl⟩; dsimp only) | (go_at_call 83; (with_reducible refine HT.out.mono ?_); rintro e w1 ⟨rfl, hI, hG⟩; dsimp only))
    go_ret2
    exact ⟨hG, fun _ => ⟨rfl, hI⟩, fun h => by rw [HS.out] at h; cases h⟩
end Go.Proofs.YtnkkhmgplpkjbaaDoor
