/- What Take, Peek and Open return, and what the reader is then. -/
import Derived.Test.YtnkkhmgplpkjbaaDoorRd
import Derived.Outline
namespace Go.Proofs.YtnkkhmgplpkjbaaDoor
open Go.RowKit
set_option maxRecDepth 100000
set_option linter.unusedVariables false
set_option linter.unusedSimpArgs false
theorem Blk.same {w w' : World} {b : Nat} {T : TypeId} {vs : List Value} (h : Blk w b T vs) (e : w'.heap[b]? = w.heap[b]?) : Blk w' b T vs := by unfold Blk at *; rw [e]; exact h
theorem IsR.keep {w w' : World} {B : Nat} {p : Option Nat} {s : Option (List (BitVec 8))} (h : IsR w B p s) (hk : ∀ b, b < B → w'.heap[b]? = w.heap[b]?) : IsR w' B p s := by
  cases s with
  | none => exact fun g e => ⟨(h g e).1, (h g e).2.same (hk g (h g e).1)⟩
  | some L =>
    obtain ⟨g, A, cap, e, hg, hb, ho, r⟩ := h
    exact ⟨g, A, cap, e, hg, hb.same (hk g hg), ho.heap fun b _ hb _ => hk b hb, r⟩
theorem IsR.below {w w' : World} {B B' : Nat} {p : Option Nat} {s : Option (List (BitVec 8))} (h : IsR w B p s) (hb : Below B' w w') (hB : B ≤ B') : IsR w' B p s := h.keep fun b h => hb.block b (by omega)
theorem OB.base {w : World} {B B' : Nat} {v : Value} {L : List (BitVec 8)} (h : OB w B v L) (hB : B' ≤ B) : OB w B' v L := by
  refine ⟨h.1, ?_⟩
  rcases h.2 with hn | ⟨g, cap, cur, rfl, hbb, r⟩
  · exact .inl hn
  · exact .inr ⟨g, cap, cur, rfl, by omega, r⟩
theorem grown_below {w w1 w2 : World} {p : Option Nat} (h : w.grownBy w1 p) (hb : Below w1.heap.size w1 w2) : w.grownBy w2 p :=
  ⟨hb.os.trans h.os, hb.tape.trans h.tape, hb.output.trans h.output, Nat.le_trans h.size hb.size, fun k hk hne => (hb.block k (Nat.lt_of_lt_of_le hk h.size)).trans (h.block k hk hne)⟩
def takeL (s : Option (List (BitVec 8))) (n : Int) : List (BitVec 8) := match s with
  | none => []
  | some L => if hasB (some L) n = true then L.take n.toNat else []
def cutS (s : Option (List (BitVec 8))) (n : Int) : Option (List (BitVec 8)) := match s with
  | none => none
  | some L => if hasB (some L) n = true then some (L.drop n.toNat) else none
theorem cut_no {s : Option (List (BitVec 8))} {n : Int} (h : hasB s n = false) : takeL s n = [] ∧ cutS s n = none := by
  cases s with
  | none => exact ⟨rfl, rfl⟩
  | some L => exact ⟨by simp [takeL, h], by simp [cutS, h]⟩
theorem cut_yes {L : List (BitVec 8)} {n : Int} (h : hasB (some L) n = true) : takeL (some L) n = L.take n.toNat ∧ cutS (some L) n = some (L.drop n.toNat) ∧ n.toNat ≤ L.length :=
  ⟨by simp [takeL, h], by simp [cutS, h], by simp [hasB] at h; omega⟩
/-- What Take and Peek tell: new memory with the bytes X. -/
def NewPost (X : List (BitVec 8)) (s : Option (List (BitVec 8))) (B : Nat) (p : Option Nat) (w : World) (e : Ending) (w' : World) : Prop :=
  ∃ v, e = .returned v ∧ OB w' w.heap.size v X ∧ IsR w' B p s ∧ w.grownBy w' p
theorem IsR.len {w : World} {B : Nat} {p : Option Nat} {L : List (BitVec 8)} (h : IsR w B p (some L)) : L.length ≤ 9223372036854775807 := by
  obtain ⟨g, A, cap, _, _, _, _, h1, h2, _⟩ := h
  omega
theorem clone_len (A : Option Addr) (L : List (BitVec 8)) (m cap B : Nat) (w : World) (hm : L.length = m) (hR : Rd w B A L) (hB : B ≤ w.heap.size) (hc : A = none → cap = 0) (hl : L.length ≤ 140737488355328) :
    Calls Tryd.prog 46 #[.slice A m cap] w fun e w' => ∃ v, e = .returned v ∧ OB w' w.heap.size v L ∧ Below w.heap.size w w' := by
  subst hm; exact clone_any A L cap B w hR hB hc hl
theorem take_any (p : Option Nat) (s : Option (List (BitVec 8))) (n : Int) (B : Nat) (w : World) (h : IsR w B p s) (hB : B ≤ w.heap.size) (hl : ∀ L, s = some L → L.length ≤ 100000000) :
    Calls Tryd.prog 60 #[ptr p, .int .i64 n] w (NewPost (takeL s n) (cutS s n) B p w) := by
  have HC := Lib.hid (cut_any p s n B w h)
  by_cases hs : hasB s n = true
  · cases s with
    | none => cases hs
    | some L =>
      have HS := Lib.hid hs
      obtain ⟨h1, h2, h3⟩ := cut_yes hs
      have h4 := hl L rfl
      rw [h1, h2]
      have HL := Lib.hid h4
      obtain ⟨q, hq⟩ : ∃ q, q = ptr p := ⟨_, rfl⟩
      rw [← hq] at HC ⊢
      have HN := Lib.hid h3
      have HBB := Lib.hid hB
      clear h hq hs hl h1 h2 h3 h4 hB
      go_enter Tryd.func60, Tryd.ntmps60
      go_wp2_with (go_at_call 84; (with_reducible refine HC.out.mono ?_); rintro e w1 hP; obtain ⟨hG, hN, hY⟩ := hP; obtain ⟨M, A, hM, rfl, hO, hA, hI⟩ := hY HS.out; cases hM; clear hN hY; have HK := Lib.hid (clone_len A (L.take n.toNat) n.toNat n.toNat B w1 (by rw [List.length_take]; have := HN.out; omega) hO.rd (Nat.le_trans HBB.out hG.size) hA (by rw [List.length_take]; have := HL.out; omega)); clear hA hO HL HN; dsimp only)
      go_wp2_with (go_at_call 46; refine HK.out.mono ?_; rintro e w2 ⟨v, rfl, hO, hb⟩; dsimp only)
      go_ret
      exact ⟨_, rfl, hO.base hG.size, hI.below hb (Nat.le_trans HBB.out hG.size), grown_below hG hb⟩
  · have hs' : hasB s n = false := by simpa using hs
    obtain ⟨h1, h2⟩ := cut_no hs'
    rw [h1, h2]
    have HS := Lib.hid hs'
    have HK := fun w => Lib.hid (clone_any none [] 0 0 w (fun h => by simp at h) (Nat.zero_le _) (fun _ => rfl) (by decide))
    obtain ⟨q, hq⟩ : ∃ q, q = ptr p := ⟨_, rfl⟩
    rw [← hq] at HC ⊢
    have HBB := Lib.hid hB
    clear h hq hs hl h1 h2 hs' hB
    go_enter Tryd.func60, Tryd.ntmps60
    go_wp2_with (first | (go_at_call 84; (with_reducible refine HC.out.mono ?_); rintro e w1 hP; obtain ⟨hG, hN, hY⟩ := hP; obtain ⟨rfl, hI⟩ := hN HS.out; clear hN hY; dsimp only) | (go_at_call 46; refine (HK _).out.mono ?_; rintro e w2 ⟨v, rfl, hO, hb⟩; dsimp only))
    go_ret
    exact ⟨_, rfl, hO.base hG.size, hI.below hb (Nat.le_trans HBB.out hG.size), grown_below hG hb⟩
end Go.Proofs.YtnkkhmgplpkjbaaDoor
