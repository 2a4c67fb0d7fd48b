/- The document's own Num and Hash. -/
import Derived.Test.YtalcdejiobpmlaaVc
import Derived.Outline
namespace Go.Proofs.Ytalcdejiobpmlaa
open Go.RowKit
set_option linter.unusedVariables false
set_option linter.unusedSimpArgs false
/-- What the document's Num tells, and leaves behind. -/
def RNumPost (x : Nat) (s : Option (List (BitVec 8))) (B q : Nat) (X : List (BitVec 8)) (A : Option Addr) (cap : Nat) (w : World) (e : Ending) (w' : World) : Prop :=
  ∃ a' gone', e = .returned (.int .u64 x) ∧ IsQ w' B q X a' gone' A cap ∧ stQ X a' gone' = s ∧ w.grownBy w' (some q)
theorem takeL_len (s : Option (List (BitVec 8))) (n : Int) (m : Nat) (h : n ≤ m) : (takeL s n).length ≤ m := by
  cases s with
  | none => simp [takeL]
  | some L =>
    simp only [takeL]
    split
    · rw [List.length_take]; omega
    · simp
theorem value_n (A : Option Addr) (X : List (BitVec 8)) (m cap B : Nat) (w : World) (hm : X.length = m) (hR : Rd w B A X) (h8 : X.length ≤ 8) :
    Calls Try.prog 38 #[.slice A m cap] w fun e w' => e = .returned (.int .u64 (lev X)) ∧ w = w' := by subst hm; exact value_any A X cap B w hR h8
theorem rnum_any (q B a cap : Nat) (gone : Bool) (A : Option Addr) (X : List (BitVec 8)) (n : Int) (w : World) (h : IsQ w B q X a gone A cap) (hB : B ≤ w.heap.size) (hX : X.length ≤ 100000000) :
    Calls Try.prog 30 #[.pointer (some ⟨q, 0, none⟩), .int .i64 n] w (RNumPost (numV (stQ X a gone) n) (numS (stQ X a gone) n) B q X A cap w) := by
  have HW := Lib.hid (width_any n w)
  by_cases hw : isW n = true
  · have HT := Lib.hid (rtake_any q B a cap gone A X n w h hB hX)
    rw [hw] at HW
    have e1 : numV (stQ X a gone) n = lev (takeL (stQ X a gone) n) := by unfold numV; rw [if_pos hw]
    have e2 : numS (stQ X a gone) n = cutS (stQ X a gone) n := by unfold numS; rw [if_pos hw]
    rw [e1, e2]
    have HL : Hid ((takeL (stQ X a gone) n).length ≤ 8) := takeL_len _ n 8 (isW_pos hw).2
    generalize takeL (stQ X a gone) n = L at HT HL ⊢
    generalize cutS (stQ X a gone) n = s at HT ⊢
    clear h hB hX hw e1 e2
    go_enter Try.func30, Try.ntmps30
    go_wp2_with (first
      | (go_at_call 37; (with_reducible refine HW.out.mono ?_); rintro e w' ⟨rfl, rfl⟩; dsimp only)
      | (go_at_call 32; (with_reducible refine HT.out.mono ?_); rintro e w1 ⟨v, a', gone', rfl, ho, hi, hs, hg⟩; obtain ⟨A4, c4, rfl, hr, _, _, _⟩ := ho.rd; have HV := Lib.hid (value_any A4 L c4 _ w1 hr HL.out); have HI := Lib.hid hi; have HS := Lib.hid hs; have HG := Lib.hid hg; clear ho hi hs hg hr; dsimp only)
      | (go_at_call 38; (with_reducible refine HV.out.mono ?_); rintro e w' ⟨rfl, rfl⟩; dsimp only))
    go_ret
    exact ⟨_, _, rfl, HI.out, HS.out, HG.out⟩
  · have hw' : isW n = false := by simpa using hw
    rw [hw'] at HW
    have e1 : numV (stQ X a gone) n = 0 := by unfold numV; rw [if_neg hw]
    have e2 : numS (stQ X a gone) n = none := by unfold numS; rw [if_neg hw]
    rw [e1, e2]
    have c2 := h.blk.cell (j := 2) (v := .bool gone) rfl
    have f2 := h.blk.free 2
    have HI := Lib.hid h
    clear h hB hX hw hw' e1 e2
    go_enter Try.func30, Try.ntmps30
    go_wp2_with (go_at_call 37; (with_reducible refine HW.out.mono ?_); rintro e w' ⟨rfl, rfl⟩; dsimp only)
    go_ret
    exact ⟨a, true, rfl, HI.out.gone_, rfl, grown_setCells [.bool true] 2 _ (grown_refl _ _)⟩
theorem IsQ.keep {w w' : World} {B q a cap : Nat} {X : List (BitVec 8)} {gone : Bool} {A : Option Addr} (h : IsQ w B q X a gone A cap) (hk : ∀ b, b < B → w'.heap[b]? = w.heap[b]?) : IsQ w' B q X a gone A cap :=
  ⟨h.blk.same (hk q h.lt), h.own.sameB hk, h.lt, h.le, h.cap_, h.nil_, h.at_⟩
/-- What the document's Hash tells, and leaves behind. -/
def RHashPost (H : List (BitVec 8)) (s : Option (List (BitVec 8))) (B q : Nat) (X : List (BitVec 8)) (A : Option Addr) (cap : Nat) (w : World) (e : Ending) (w' : World) : Prop :=
  ∃ a' gone', e = .returned (.agg (vbs H).toArray) ∧ IsQ w' B q X a' gone' A cap ∧ stQ X a' gone' = s ∧ w.grownBy w' (some q)
theorem hash_len (s : Option (List (BitVec 8))) : (takeL s 32).length ≤ 32 ∧ (takeL s 32) ++ Z32.drop (takeL s 32).length = hashL s := by
  refine ⟨takeL_len s 32 32 (by omega), ?_⟩
  unfold hashL
  by_cases h : hasB s 32 = true
  · rw [if_pos h]
    have hl : (takeL s 32).length = 32 := by
      have := hashL_len s
      unfold hashL at this
      rwa [if_pos h] at this
    rw [hl]
    simp [Z32]
  · rw [if_neg h, (cut_no (by simpa using h)).1]
    rfl
def mixK (L : List (BitVec 8)) (k : Nat) : List (BitVec 8) := L.take k ++ Z32.drop k
theorem mixK_len (L : List (BitVec 8)) (k : Nat) (hk : k ≤ L.length) (hl : L.length ≤ 32) : (mixK L k).length = 32 := by simp [mixK, Z32]; omega
theorem mixK_set (L : List (BitVec 8)) (k : Nat) (hk : k < L.length) (hl : L.length ≤ 32) : (mixK L k).set k (L.getD k 0) = mixK L (k + 1) := by
  have e : Z32.drop k = (0 : BitVec 8) :: Z32.drop (k + 1) := by
    rw [List.drop_eq_getElem_cons (by simp [Z32]; omega)]
    unfold Z32
    rw [List.getElem_replicate]
  have e2 : L.getD k 0 = L[k] := by simp [List.getD, hk]
  unfold mixK
  rw [e, List.set_append_right _ _ (by rw [List.length_take]; omega), List.length_take, Nat.min_eq_left (by omega), Nat.sub_self, List.take_succ_eq_append_getElem hk, List.append_assoc, e2]
  rfl
end Go.Proofs.Ytalcdejiobpmlaa
