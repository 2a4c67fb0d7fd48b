/- The rows above a list of hashes, and the iterator that hands them over with their texts. -/
import Derived.Test.YtihbmahjdmfjpaaDoorFh
import Derived.Outline
import Derived.StillTailTactics
namespace Go.Proofs.YtihbmahjdmfjpaaDoor
open Go.RowKit
set_option linter.unusedVariables false
set_option linter.unusedSimpArgs false
set_option maxRecDepth 100000
attribute [local go_sem] Oper.semAt_some
variable {tw : List (BitVec 8) → List (BitVec 8)}
/-- The row above a row; none above a single hash. -/
def upR (tw : List (BitVec 8) → List (BitVec 8)) (M : List (List (BitVec 8))) : List (List (BitVec 8)) := (pairsT M).map tw
def rowN (tw : List (BitVec 8) → List (BitVec 8)) (L : List (List (BitVec 8))) : Nat → List (List (BitVec 8))
  | 0 => L
  | k + 1 => upR tw (rowN tw L k)
def upn (n : Nat) : Nat := if n < 2 then 0 else (n + 1) / 2
def lenN (n : Nat) : Nat → Nat
  | 0 => n
  | k + 1 => upn (lenN n k)
/-- How many rows there are that have a hash. -/
def nrow (n : Nat) : Nat := if h : n < 2 then n else nrow ((n + 1) / 2) + 1
termination_by n
decreasing_by omega
theorem nrow_lo {n : Nat} (h : n < 2) : nrow n = n := by rw [nrow, dif_pos h]
theorem nrow_up {n : Nat} (h : ¬ n < 2) : nrow n = nrow ((n + 1) / 2) + 1 := by rw [nrow, dif_neg h]
theorem lenN_up (n : Nat) : ∀ k, lenN n (k + 1) = lenN (upn n) k
  | 0 => rfl
  | k + 1 => by show upn (lenN n (k + 1)) = upn (lenN (upn n) k); rw [lenN_up n k]
theorem lenN_rows : ∀ (m n : Nat), n ≤ m → (∀ k, k < nrow n → 0 < lenN n k) ∧ lenN n (nrow n) = 0 := by
  intro m
  induction m with
  | zero =>
    intro n hn
    obtain rfl : n = 0 := by omega
    rw [nrow_lo (by omega)]
    exact ⟨fun k hk => absurd hk (Nat.not_lt_zero k), rfl⟩
  | succ m ih =>
    intro n hn
    by_cases h2 : n < 2
    · rw [nrow_lo h2]
      have : n = 0 ∨ n = 1 := by omega
      rcases this with rfl | rfl
      · exact ⟨fun k hk => absurd hk (Nat.not_lt_zero k), rfl⟩
      · exact ⟨fun k hk => by obtain rfl : k = 0 := by omega
                              exact Nat.one_pos, rfl⟩
    · rw [nrow_up h2]
      obtain ⟨h3, h4⟩ := ih ((n + 1) / 2) (by omega)
      have e : upn n = (n + 1) / 2 := by unfold upn; rw [if_neg h2]
      refine ⟨fun k hk => ?_, by rw [lenN_up, e]; exact h4⟩
      cases k with
      | zero => show 0 < n; omega
      | succ k => rw [lenN_up, e]; exact h3 k (by omega)
theorem pairsT_len (M : List (List (BitVec 8))) : (pairsT M).length = upn M.length := by
  unfold pairsT upn
  split
  · rfl
  · rw [pairsN_len]
theorem rowN_len (tw : List (BitVec 8) → List (BitVec 8)) (L : List (List (BitVec 8))) : ∀ k, (rowN tw L k).length = lenN L.length k
  | 0 => rfl
  | k + 1 => by
    show ((pairsT (rowN tw L k)).map tw).length = upn (lenN L.length k)
    rw [List.length_map, pairsT_len, rowN_len tw L k]
theorem pairsT_64 {M : List (List (BitVec 8))} (h : LenN 32 M) : LenN 64 (pairsT M) := fun x hx => by
  unfold pairsT at hx
  split at hx
  · cases hx
  · unfold pairsN at hx
    obtain ⟨k, hk, rfl⟩ := List.mem_map.1 hx
    exact pairT_len h (by have := List.mem_range.1 hk; omega)
theorem rowN_32 (T : TwC tw) {L : List (List (BitVec 8))} (h : LenN 32 L) : ∀ k, LenN 32 (rowN tw L k)
  | 0 => h
  | k + 1 => fun x hx => by
    obtain ⟨y, _, rfl⟩ := List.mem_map.1 (show x ∈ (pairsT (rowN tw L k)).map tw from hx)
    exact T.len y
theorem lenN_le (n : Nat) : ∀ k, lenN n k ≤ n
  | 0 => Nat.le_refl _
  | k + 1 => by
    have := lenN_le n k
    show upn (lenN n k) ≤ n
    unfold upn
    split <;> omega
/-- A slice that reads as these arrays. -/
structure RdN (s : Nat) (W : World) (A : Option Addr) (n c : Nat) (M : List (List (BitVec 8))) : Prop where
  len : LenN s M
  num : M.length = n
  rd : Rd W W.heap.size A M.flatten
  le : n ≤ c
  mx : c ≤ 9223372036854775807
theorem Rd.own {W W' : World} {B : Nat} {A : Option Addr} {R : List (BitVec 8)} {row : Option Nat} (h : Rd W B A R) (hg : W.grownBy W' row) (hr : ∀ r, row = some r → ∃ o : Obj, W.heap[r]? = some o ∧ o.isCells = false) : Rd W' B A R := fun hp => by
  obtain ⟨b, o, e, hlt, hc⟩ := h hp
  refine ⟨b, o, e, hlt, fun j hj => ?_⟩
  rw [World.cell?_of_block (a := ⟨b, o + j, none⟩) (hg.block b (World.block_lt_of_cell? W _ (hc j hj)) (fun e' => ?_))]
  · exact hc j hj
  · obtain ⟨ob, ho, hn⟩ := hr b e'.symm
    obtain ⟨ob', ho', hy⟩ := cells_of_cell (hc j hj)
    rw [show W.heap[b]? = some ob' from ho'] at ho; cases ho; rw [hn] at hy; cases hy
theorem RdN.own {s : Nat} {W W' : World} {A : Option Addr} {n c : Nat} {M : List (List (BitVec 8))} {row : Option Nat} (h : RdN s W A n c M) (hg : W.grownBy W' row) (hr : ∀ r, row = some r → ∃ o : Obj, W.heap[r]? = some o ∧ o.isCells = false) : RdN s W' A n c M :=
  ⟨h.len, h.num, (h.rd.own hg hr).up hg.size, h.le, h.mx⟩
theorem RdN.below {s : Nat} {W W' : World} {A : Option Addr} {n c : Nat} {M : List (List (BitVec 8))} (h : RdN s W A n c M) (hb : Below W.heap.size W W') : RdN s W' A n c M :=
  ⟨h.len, h.num, (h.rd.keep hb).up hb.size, h.le, h.mx⟩
theorem OF.rdN {e s : Nat} {w : World} {B : Nat} {v : Value} {L : List (List (BitVec 8))} (h : OF e s w B v L) : ∃ A c, v = .slice A L.length c ∧ RdN s w A L.length c L := by
  obtain ⟨A, c, e1, hr, hl, hm, _⟩ := h.rd
  exact ⟨A, c, e1, ⟨h.1, rfl, hr, hl, hm⟩⟩
theorem OF.base0 {e s : Nat} {w : World} {B : Nat} {v : Value} {L : List (List (BitVec 8))} (h : OF e s w B v L) : OF e s w 0 v L := by
  refine ⟨h.1, h.2.1, ?_⟩
  rcases h.2.2 with hn | ⟨g, cap, cur, e', hb, r⟩
  · exact .inl hn
  · exact .inr ⟨g, cap, cur, e', Nat.zero_le _, r⟩
/-- A slice's block lies below lo, or at hi or beyond. -/
def Far (lo hi : Nat) (A : Option Addr) : Prop := ∀ a, A = some a → a.block < lo ∨ hi ≤ a.block
def RowHd (tw : List (BitVec 8) → List (BitVec 8)) (L : List (List (BitVec 8))) (lo hi : Nat) (k : Nat) (vs : Array Value) (W : World) : Prop :=
  ∃ A n c A' n' c', vs = #[.slice A n c, .slice A' n' c'] ∧ RdN 32 W A n c (rowN tw L k) ∧ OF 57 64 W 0 (.slice A' n' c') (pairsT (rowN tw L k)) ∧ (0 < n → Far lo hi A)
/-- What a round of rows must leave. -/
def KpG (W W' : World) : Prop := KpT [57] W W' ∧ (Glob W → Glob W') ∧ W.heap.size ≤ W'.heap.size
theorem Glob.own {W W' : World} {row : Option Nat} (h : Glob W) (hg : W.grownBy W' row) (hr : ∀ r, row = some r → ∃ o : Obj, W.heap[r]? = some o ∧ o.isCells = false) : Glob W' := by
  have hne : ∀ b j v, W.cell? ⟨b, j, none⟩ = some v → W'.cell? ⟨b, j, none⟩ = some v := fun b j v hc => by
    rw [World.cell?_of_block (a := ⟨b, j, none⟩) (hg.block b (World.block_lt_of_cell? W _ hc) (fun e' => ?_))]
    · exact hc
    · obtain ⟨ob, ho, hn⟩ := hr b e'.symm
      obtain ⟨ob', ho', hy⟩ := cells_of_cell hc
      rw [show W.heap[b]? = some ob' from ho'] at ho; cases ho; rw [hn] at hy; cases hy
  exact ⟨fun j v hv => hne _ _ _ (h.i j v hv), fun i hi => hne _ _ _ (h.k i hi)⟩
theorem KpG.trans {A B C : World} (h : KpG A B) (k : KpG B C) : KpG A C := ⟨h.1.trans k.1, fun g => k.2.1 (h.2.1 g), Nat.le_trans h.2.2 k.2.2⟩
theorem KpG.putObj (W : World) (l : Nat) (o o' : Obj) (h : W.heap[l]? = some o) (ho : o.isCells = false) : KpG W (W.putObj l o') :=
  ⟨KpT.putObj W l o o' h ho, fun g => g.own (grownBy_putObj' W l o') (fun r e => by cases e; exact ⟨o, h, ho⟩), by simp⟩
theorem below_grown {W W' : World} (h : Below W.heap.size W W') : W.grownBy W' none := ⟨h.os, h.tape, h.output, h.size, fun b hb _ => h.block b hb⟩
def slLen : Value → Nat
  | .slice _ n _ => n
  | _ => 0
def RelRow (tw : List (BitVec 8) → List (BitVec 8)) (L : List (List (BitVec 8))) (lo hi N : Nat) (J : Nat → World → Prop) (v : Value) (wr : World) : Prop :=
  ∃ k A n c, v = .slice A n c ∧ k ≤ N ∧ RdN 32 wr A n c (rowN tw L k) ∧ J k wr ∧ Glob wr ∧ hi ≤ wr.heap.size ∧ (0 < n → Far lo hi A)
theorem rows_val (A : Option Addr) (n c : Nat) (w : World) : Calls Tryd.prog 32 #[.slice A n c] w fun e w' => e = .returned (.func (.func 45) #[] #[.pointer (some ⟨w.heap.size, 0, none⟩)]) ∧ w' = w.alloc (.cells #[.slice A n c] 22) := by
  go_enter Tryd.func32, Tryd.ntmps32
  go_wp2
  go_ret
  exact ⟨rfl, rfl⟩
set_option maxHeartbeats 2000000 in
theorem rows_seq (T : TwC tw) (A : Option Addr) (n c b0 : Nat) (L : List (List (BitVec 8))) (w : World) (h0 : Blk w b0 22 [.slice A n c]) (hR : RdN 32 w A n c L) (hG : Glob w) (hn : n ≤ 100000) (lo : Nat) (hlo : 0 < n → Far lo w.heap.size A) :
    SeqN Tryd.prog 45 #[.pointer (some ⟨b0, 0, none⟩)] (RowHd tw L lo w.heap.size) KpG (nrow n) w := by
  intro l J Jx W hW hJ hJx hY hJ0
  show Calls Tryd.prog 45 #[.func (.yield l) #[] #[], .pointer (some ⟨b0, 0, none⟩)] W _
  have HT := Lib.hid T
  have c0 := (h0.below hW h0.lt).cell (j := 0) (v := .slice A n c) rfl
  have HR0 := Lib.hid (hR.below hW)
  have HG0 := Lib.hid (hG.below hW)
  have HJ := Lib.hid hJ
  have HY := Lib.hid hY
  have H00 := Lib.hid hJ0
  have HN := Lib.hid hR.num
  have HLo := Lib.hid hlo
  have hsz0 := hW.size
  obtain ⟨hi, hhi⟩ : ∃ hi, hi = w.heap.size := ⟨_, rfl⟩
  rw [← hhi] at HY HLo hsz0
  obtain ⟨N, hN⟩ : ∃ N, N = nrow n := ⟨_, rfl⟩
  have HNN := Lib.hid hN
  rw [← hN] at HY ⊢
  clear h0 hJ hJx hY hJ0 hW T hR hG hN hlo hhi
  go_enter Tryd.func45, Tryd.ntmps45
  go_wp2_with fail
  go_loopw [3] (fun v wr => RelRow tw L lo hi N J v wr) (fun v _ => slLen v)
  case atStart => exact ⟨0, A, n, c, rfl, Nat.zero_le _, HR0.out, H00.out, HG0.out, hsz0, HLo.out⟩
  case round =>
    obtain ⟨k, A1, n1, c1, rfl, hk, hR1, hJk, hG1, hs1, hf1⟩ := hrel
    have HF1 := Lib.hid hf1
    clear hf1
    have hn1 : n1 = lenN L.length k := by rw [← hR1.num, rowN_len]
    have hle : n1 ≤ 100000 := by rw [hn1]; have := lenN_le L.length k; have := HN.out; omega
    obtain ⟨hpos, hzero⟩ := lenN_rows L.length L.length (Nat.le_refl _)
    have HR1 := Lib.hid hR1
    have HJk := Lib.hid hJk
    have HG1 := Lib.hid hG1
    by_cases hlt : 0 < n1
    · have hlt' : (0 : Int) < (n1 : Int) := by omega
      have hkN : k < N := by
        rcases Nat.lt_or_ge k N with h | h
        · exact h
        · exfalso
          obtain rfl : k = N := by omega
          rw [HNN.out, ← HN.out] at hn1
          omega
      have HP := Lib.hid (paired_any A1 n1 c1 (rowN tw L k) wr hR1.len hR1.num hR1.rd hle hR1.le)
      have Hn1 := Lib.hid hn1
      clear hR1 hJk hG1 hk hpos hzero hn1 c0 HR0 HG0 H00
      go_upto_region 3 with (go_at_call 46; (with_reducible refine HP.out.mono ?_); rintro e W1 ⟨v, rfl, ho, hb⟩; obtain ⟨A2, c2, rfl, hr2⟩ := ho.rdN; have HO := Lib.hid ho; have HB := Lib.hid hb; clear ho hb hr2 HP; dsimp only)
      obtain ⟨fn, tmps, assign, body, hy, hR⟩ := HY.out k _ W1 (HJ.out k _ _ none HJk.out (below_grown HB.out) (fun r e => by cases e)) hkN ⟨_, _, _, _, _, _, rfl, HR1.out.below HB.out, HO.out.base0, HF1.out⟩
      have HRR := Lib.hid hR
      clear hR
      refine (wpIn_wide (n := 1)).1 ?_
      gi_wp2
      refine HRR.out.mono ?_
      rintro e W3 (⟨rfl, hJ3, hk3⟩ | ⟨rfl, hJx3⟩)
      · have ho3 : OF 57 64 W3 wr.heap.size _ (pairsT (rowN tw L k)) := HO.out.same fun g hg => by
          obtain ⟨_, _, cur, m, hc⟩ := HO.out.lt hg
          rw [hc]; exact hk3.1 g cur 57 m hc (by simp)
        have hG3 := hk3.2.1 (HG1.out.below HB.out)
        have hs3 := hk3.2.2
        have hs2 := HB.out.size
        obtain ⟨A3, c3, e3, hr3⟩ := ho3.rdN
        cases e3
        have HA := Lib.hid (above_any HT.out A2 _ c2 (pairsT (rowN tw L k)) W3 hG3 hr3.len rfl hr3.rd (by rw [pairsT_len, rowN_len, ← Hn1.out]; unfold upn; split <;> omega))
        have HJ3 := Lib.hid hJ3
        have HG3 := Lib.hid hG3
        clear hJ3 hk3 ho3 hG3 hr3 hy HRR
        obtain ⟨n2, hn2⟩ : ∃ n2, n2 = (pairsT (rowN tw L k)).length := ⟨_, rfl⟩
        have Hn2 := Lib.hid hn2
        rw [← hn2] at HA ⊢
        clear hn2
        gi_wp2
        go_wp2_with (go_at_call 47; (with_reducible refine HA.out.mono ?_); rintro e W4 ⟨v, rfl, ho, hb⟩; obtain ⟨A4, c4, rfl, hr4⟩ := ho.rdN; have HF4 := Lib.hid (show Far lo hi A4 from fun a e => by subst e; exact .inr (Nat.le_trans hs1 (Nat.le_trans hs2 (Nat.le_trans hs3 (ho.lt rfl).2.1)))); have hs4 := hb.size; have HB4 := Lib.hid hb; have HR4 := Lib.hid hr4; clear ho hb hr4; dsimp only)
        go_roundw
        case rel => exact ⟨k + 1, A4, _, c4, rfl, by omega, HR4.out, HJ.out _ _ _ none HJ3.out (below_grown HB4.out) (fun r e => by cases e), HG3.out.below HB4.out, by omega, fun _ => HF4.out⟩
        case measure =>
          show ((pairsT (rowN tw L k)).map tw).length < n1
          rw [List.length_map, pairsT_len, rowN_len, ← Hn1.out]
          unfold upn
          split <;> omega
      · have HJx3 := Lib.hid hJx3
        clear hJx3 hy HRR
        gi_wp2
        go_wp2_with fail
        refine bodyPost_ret (results_none rfl _ _ _) rfl ?_
        exact ⟨⟨_, rfl⟩, .inr ⟨k + 1, by omega, HJx3.out⟩⟩
    · have hlt' : ¬ (0 : Int) < (n1 : Int) := by omega
      have hkN : k = N := by
        rcases Nat.lt_or_ge k N with h | h
        · exfalso
          have := hpos k (by rw [HN.out, ← HNN.out]; exact h)
          omega
        · omega
      have HkN := Lib.hid hkN
      clear hR1 hJk hG1 hk hpos hzero hn1 c0 HR0 HG0 H00 hkN
      go_wp2_with fail
      go_end0
      exact ⟨⟨_, rfl⟩, .inl (by rw [← HkN.out]; exact HJk.out)⟩
end Go.Proofs.YtihbmahjdmfjpaaDoor
