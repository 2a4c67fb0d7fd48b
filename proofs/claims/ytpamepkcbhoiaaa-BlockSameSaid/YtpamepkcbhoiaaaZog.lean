/- Plain: the whole transaction, there and back. Plain: what Parse answers without an error is laid as just the bytes that were taken, and may be put; its errors are two. A header in memory and its bytes; what header.Put and header.Get return. What stays of a transaction of the program's own making; an append of inputs; a transaction less its witnesses. -/
import Derived.Test.YtpamepkcbhoiaaaZoa
import Derived.Test.YtpamepkcbhoiaaaZob
import Derived.Test.YtpamepkcbhoiaaaZoc
import Derived.Test.YtpamepkcbhoiaaaZod
import Derived.Test.YtpamepkcbhoiaaaZoe
import Derived.Test.YtpamepkcbhoiaaaZof
import Derived.Laws.Tables
import Derived.Outline
namespace Go.Proofs.Ytpamepkcbhoiaaa
open Go.RowKit
set_option linter.unusedVariables false
set_option linter.unusedSimpArgs false
set_option maxRecDepth 100000
theorem takeL_two (a b : BitVec 8) (M : List (BitVec 8)) : takeL (some (a :: b :: M)) 2 = [a, b] ∧ cutS (some (a :: b :: M)) 2 = some M := take_back [a, b] M 2 rfl
theorem form_16 {n : Nat} (h : n ≤ 16) : form n = [BitVec.ofNat 8 n] := by
  unfold form
  rw [fst_lo (by omega), show wid n = 0 by unfold wid; rw [if_pos (by omega)]]
  rfl
theorem rM_form {n : Nat} (h0 : 0 < n) (h : n ≤ 16) (M : List (BitVec 8)) : rM (some (form n ++ M)) = false := by
  unfold rM
  rw [form_16 h]
  apply decide_eq_false
  intro e
  have hb : BitVec.ofNat 8 n ≠ 0 := fun e => by
    have := congrArg BitVec.toNat e
    rw [BitVec.toNat_ofNat] at this
    simp at this
    omega
  cases M with
  | nil =>
    have : takeL (some ([BitVec.ofNat 8 n] ++ [])) 2 = [] := rfl
    rw [this] at e; cases e
  | cons b M =>
    have : takeL (some ([BitVec.ofNat 8 n] ++ b :: M)) 2 = [BitVec.ofNat 8 n, b] := (takeL_two _ b M).1
    rw [this] at e
    injection e with e
    exact hb e
/-- A transaction whose numbers are in range. -/
def TxIn (t : TTx) : Prop := (∀ x ∈ t.ins, OkIn x) ∧ (∀ y ∈ t.outs, OkOut y) ∧ t.ver < 4294967296 ∧ t.lock < 4294967296
theorem bare_none : ∀ (xs : List TIn), xs.any wit = false → xs.map bareI = xs
  | [], _ => rfl
  | x :: xs, h => by
    simp only [List.any_cons, Bool.or_eq_false_iff] at h
    rw [List.map_cons, bare_none xs h.2]
    have hw : x.wt = [] := by
      have := h.1
      simp [wit] at this
      exact this
    unfold bareI
    rw [← hw]
theorem rT_back (t : TTx) (M : List (BitVec 8)) (hc : chk t = 0) (hi : TxIn t) : rT (some (layB t (witd t) ++ M)) = (0, t, some M) := by
  obtain ⟨c1, c2, c3, c4, c5, c6, c7⟩ := chk_zero hc
  obtain ⟨i1, i2, i3, i4⟩ := hi
  obtain ⟨v, ins, outs, lock⟩ := t
  dsimp only at c1 c2 c3 c4 c5 c6 c7 i1 i2 i3 i4
  have kI := rIns_back ins (form outs.length ++ ((outs.map outB).flatten ++ ((if witd ⟨v, ins, outs, lock⟩ = true then witsB ins else []) ++ (les lock 4 ++ M)))) c6 c1 (fun x hx => ⟨i1 x hx, c3 x hx⟩)
  have kO := rOuts_back outs ((if witd ⟨v, ins, outs, lock⟩ = true then witsB ins else []) ++ (les lock 4 ++ M)) c7 c2 (fun y hy => ⟨i2 y hy, c5 y hy⟩)
  have kX := rX_back ins (les lock 4 ++ M) c4
  obtain ⟨kl1, kl2⟩ := num4_back lock M i4
  have hwd : ∀ l, witd ⟨v, ins, outs, l⟩ = witd ⟨v, ins, outs, lock⟩ := fun _ => rfl
  unfold layB
  cases hw : witd ⟨v, ins, outs, lock⟩
  · rw [hw] at kI kO
    simp only [Bool.false_eq_true, if_false, List.nil_append, List.append_nil, List.append_assoc] at kI kO ⊢
    obtain ⟨kv1, kv2⟩ := num4_back v (form ins.length ++ ((ins.map inB).flatten ++ (form outs.length ++ ((outs.map outB).flatten ++ (les lock 4 ++ M))))) i3
    have kb : ins.map bareI = ins := bare_none ins hw
    rw [kb] at kI
    unfold rT
    rw [kv1, kv2, rM_form c6 c1, if_neg (by simp)]
    unfold rT1
    rw [kI, if_pos rfl]
    unfold rT2
    rw [kO, if_pos rfl]
    unfold rT3
    rw [if_neg (by simp)]
    unfold rT4
    rw [if_neg (by simp), kl1, kl2]
  · rw [hw] at kI kO
    simp only [if_true, List.append_assoc] at kI kO ⊢
    obtain ⟨kv1, kv2⟩ := num4_back v ([0, 1] ++ (form ins.length ++ ((ins.map inB).flatten ++ (form outs.length ++ ((outs.map outB).flatten ++ (witsB ins ++ (les lock 4 ++ M))))))) i3
    obtain ⟨m1, m2⟩ := takeL_two 0 1 (form ins.length ++ ((ins.map inB).flatten ++ (form outs.length ++ ((outs.map outB).flatten ++ (witsB ins ++ (les lock 4 ++ M))))))
    have m1 : rM (some ([0, 1] ++ (form ins.length ++ ((ins.map inB).flatten ++ (form outs.length ++ ((outs.map outB).flatten ++ (witsB ins ++ (les lock 4 ++ M)))))))) = true := decide_eq_true m1
    have m2 : cutS (some ([0, 1] ++ (form ins.length ++ ((ins.map inB).flatten ++ (form outs.length ++ ((outs.map outB).flatten ++ (witsB ins ++ (les lock 4 ++ M)))))))) 2 = some (form ins.length ++ ((ins.map inB).flatten ++ (form outs.length ++ ((outs.map outB).flatten ++ (witsB ins ++ (les lock 4 ++ M)))))) := m2
    have kX : rX ins.length (some (witsB ins ++ (les lock 4 ++ M))) = (0, ins.map TIn.wt, some (les lock 4 ++ M)) := kX
    unfold rT
    rw [kv1, kv2, m1, if_pos rfl, m2]
    unfold rT1
    rw [kI, if_pos rfl]
    unfold rT2
    rw [kO, if_pos rfl]
    unfold rT3
    rw [if_pos rfl, List.length_map, kX, if_pos rfl, wW_bare]
    unfold rT4
    rw [hwd, hw, if_neg (by simp), kl1, kl2]
theorem rP_back (t : TTx) (M : List (BitVec 8)) (hc : chk t = 0) (hi : TxIn t) : rP (some (layB t (witd t) ++ M)) = (0, t, some M) := by
  unfold rP
  rw [rT_back t M hc hi, if_neg (by simp), if_pos rfl]
/-! What is parsed is laid as just those bytes. -/
theorem cut_once {s : Option (List (BitVec 8))} {n : Nat} {M : List (BitVec 8)} (h : cutS s n = some M) : s = some (takeL s n ++ M) ∧ (takeL s n).length = n ∧ hasB s n = true := by
  cases s with
  | none => cases h
  | some L =>
    by_cases hb : hasB (some L) n = true
    · obtain ⟨a, b, c⟩ := cut_yes hb
      rw [b] at h
      injection h with h
      rw [a, ← h]
      have : n ≤ L.length := by simpa using c
      exact ⟨by simp, by simp; omega, hb⟩
    · rw [(cut_no (by simpa using hb)).2] at h; cases h
theorem num_once {s : Option (List (BitVec 8))} {k : Nat} {M : List (BitVec 8)} (hk : isW k = true) (h : numS s k = some M) : s = some (les (numV s k) k ++ M) := by
  unfold numS at h
  rw [if_pos hk] at h
  obtain ⟨a, b, _⟩ := cut_once h
  unfold numV
  rw [if_pos hk]
  have := les_lev (takeL s k)
  rw [b] at this
  rw [this]
  exact a
theorem num4_once {s : Option (List (BitVec 8))} {M : List (BitVec 8)} (h : numS s 4 = some M) : s = some (les (numV s 4) 4 ++ M) := num_once (k := 4) rfl h
theorem num8_once {s : Option (List (BitVec 8))} {M : List (BitVec 8)} (h : numS s 8 = some M) : s = some (les (numV s 8) 8 ++ M) := num_once (k := 8) rfl h
theorem gE_none (most : Nat) : gE none most = 4 := by
  unfold gE gS
  rw [if_pos (Or.inl (by rfl))]
theorem get_once {s : Option (List (BitVec 8))} {most : Nat} (h : gE s most = 0) : ∃ Y, s = some (form (gN s) ++ Y) ∧ gS s = some Y ∧ gN s ≤ most := by
  cases s with
  | none => rw [gE_none] at h; cases h
  | some L =>
    obtain ⟨Y, e, f, _⟩ := get_form h
    exact ⟨Y, by rw [← e], f, gE_ne _ _ h⟩
theorem txt_once {s : Option (List (BitVec 8))} {most : Nat} (h : tE s most = 0) : ∃ M, s = some (txt (tL s most) ++ M) ∧ tS s most = some M ∧ (tL s most).length ≤ most := by
  have hg : gE s most = 0 := by
    by_cases hg : gE s most = 0
    · exact hg
    · unfold tE at h; rw [if_neg hg] at h; exact h
  obtain ⟨Y, e, f, g⟩ := get_once hg
  have eS : tS s most = cutS (gS s) (gN s) := by unfold tS; rw [if_pos hg]
  have eL : tL s most = takeL (gS s) (gN s) := by unfold tL; rw [if_pos h]
  have hn : ¬ (cutS (gS s) (gN s)).isNone = true := fun hh => by
    unfold tE at h; rw [if_pos hg, if_pos hh] at h; cases h
  obtain ⟨M, hM⟩ : ∃ M, cutS (gS s) (gN s) = some M := by
    cases hh : cutS (gS s) (gN s) with
    | none => rw [hh] at hn; exact absurd rfl hn
    | some M => exact ⟨M, rfl⟩
  obtain ⟨a, b, _⟩ := cut_once hM
  refine ⟨M, ?_, by rw [eS, hM], by rw [eL, b]; exact g⟩
  rw [eL]
  unfold txt
  rw [b]
  rw [f] at a
  injection a with a
  rw [List.append_assoc]
  have : takeL (gS s) (gN s) ++ M = Y := by rw [f]; exact a.symm
  rw [this]; exact e
theorem in_once {s : Option (List (BitVec 8))} {M : List (BitVec 8)} (h : rInE s = 0) (hM : rInS s = some M) : s = some (inB (rInV s) ++ M) ∧ (rInV s).sc.length ≤ 128 := by
  unfold rInE at h
  unfold rInS at hM
  obtain ⟨M1, e1, f1, g1⟩ := txt_once h
  have hM' := num4_once hM
  have e2 := num4_once (s := cutS s 32) (M := txt (tL (numS (cutS s 32) 4) 128) ++ M1) e1
  obtain ⟨a, b, c⟩ := cut_once (n := 32) e2
  have a : s = some (takeL s 32 ++ (les (numV (cutS s 32) 4) 4 ++ (txt (tL (numS (cutS s 32) 4) 128) ++ M1))) := a
  have c : hasB s 32 = true := c
  have eh : hashL s = takeL s 32 := by unfold hashL; rw [if_pos c]
  refine ⟨?_, g1⟩
  rw [f1] at hM'
  injection hM' with hM'
  unfold rInV inB
  dsimp only
  rw [eh, f1]
  rw [f1] at hM
  rw [List.append_assoc, List.append_assoc, List.append_assoc, ← hM']
  exact a
theorem numS_none (k : Int) : numS none k = none := by unfold numS; split <;> rfl
theorem rN_none (n : Nat) : (rN n none).2.2 = none := by
  cases n with
  | zero => rfl
  | succ n =>
    have h0 : ¬ rInE none = 0 := by
      unfold rInE tE
      rw [show numS (cutS none 32) 4 = none from numS_none 4, gE_none]; decide
    simp only [rN, h0, if_false]
    unfold rInS tS
    rw [show numS (cutS none 32) 4 = none from numS_none 4]
    rfl
theorem rN_once : ∀ (n : Nat) (s : Option (List (BitVec 8))) (M : List (BitVec 8)), (rN n s).1 = 0 → (rN n s).2.2 = some M → s = some (((rN n s).2.1.map inB).flatten ++ M) ∧ ∀ x ∈ (rN n s).2.1, x.sc.length ≤ 128
  | 0, s, M, h, hM => ⟨by simpa [rN] using hM, fun x hx => by simp [rN] at hx⟩
  | n + 1, s, M, h, hM => by
    by_cases h0 : rInE s = 0
    · simp only [rN, h0, if_true] at h hM ⊢
      obtain ⟨e, f⟩ := rN_once n (rInS s) M h hM
      obtain ⟨e1, f1⟩ := in_once h0 e
      refine ⟨by rw [List.map_cons, List.flatten_cons, List.append_assoc]; exact e1, fun x hx => ?_⟩
      rcases List.mem_cons.1 hx with rfl | hx
      · exact f1
      · exact f x hx
    · simp only [rN, h0, if_false] at h
theorem out_once {s : Option (List (BitVec 8))} {M : List (BitVec 8)} (h : tE (numS s 8) 128 = 0) (hM : tS (numS s 8) 128 = some M) : s = some (outB (rOut s) ++ M) ∧ (rOut s).sc.length ≤ 128 := by
  obtain ⟨M1, e1, f1, g1⟩ := txt_once h
  rw [hM] at f1
  cases f1
  have e2 := num8_once e1
  refine ⟨?_, g1⟩
  unfold rOut outB
  dsimp only
  have hv : u64 (i64w (numV s 8)) = numV s 8 := by
    have : numV s 8 < 18446744073709551616 := by
      have h := lev_lt (takeL s 8)
      have h1 : (takeL s 8).length ≤ 8 := by
        unfold numS at e1
        rw [if_pos (by rfl)] at e1
        obtain ⟨_, b, _⟩ := cut_once (n := 8) e1
        have b : (takeL s 8).length = 8 := b
        omega
      have h2 : 2 ^ (8 * (takeL s 8).length) ≤ 2 ^ 64 := Nat.pow_le_pow_right (by omega) (by omega)
      unfold numV
      rw [if_pos (by rfl)]
      omega
    unfold u64 i64w
    rw [IntKind.wrap_i64]
    omega
  rw [hv, List.append_assoc]
  exact e2
theorem rO_once : ∀ (n : Nat) (s : Option (List (BitVec 8))) (M : List (BitVec 8)), (rO n s).1 = 0 → (rO n s).2.2 = some M → s = some (((rO n s).2.1.map outB).flatten ++ M) ∧ ∀ x ∈ (rO n s).2.1, x.sc.length ≤ 128
  | 0, s, M, h, hM => ⟨by simpa [rO] using hM, fun x hx => by simp [rO] at hx⟩
  | n + 1, s, M, h, hM => by
    by_cases h0 : tE (numS s 8) 128 = 0
    · simp only [rO, h0, if_true] at h hM ⊢
      obtain ⟨e, f⟩ := rO_once n _ M h hM
      obtain ⟨e1, f1⟩ := out_once h0 e
      refine ⟨by rw [List.map_cons, List.flatten_cons, List.append_assoc]; exact e1, fun x hx => ?_⟩
      rcases List.mem_cons.1 hx with rfl | hx
      · exact f1
      · exact f x hx
    · simp only [rO, h0, if_false] at h
theorem rI_once : ∀ (n : Nat) (s : Option (List (BitVec 8))) (M : List (BitVec 8)), (rI n s).1 = 0 → (rI n s).2.2 = some M → s = some (((rI n s).2.1.map txt).flatten ++ M) ∧ ∀ L ∈ (rI n s).2.1, L.length ≤ 128
  | 0, s, M, h, hM => ⟨by simpa [rI] using hM, fun x hx => by simp [rI] at hx⟩
  | n + 1, s, M, h, hM => by
    by_cases h0 : tE s 128 = 0
    · simp only [rI, h0, if_true] at h hM ⊢
      obtain ⟨e, f⟩ := rI_once n _ M h hM
      obtain ⟨M1, e1, f1, g1⟩ := txt_once h0
      rw [e] at f1
      injection f1 with f1
      refine ⟨by rw [List.map_cons, List.flatten_cons, List.append_assoc, f1]; exact e1, fun x hx => ?_⟩
      rcases List.mem_cons.1 hx with rfl | hx
      · exact g1
      · exact f x hx
    · simp only [rI, h0, if_false] at h
theorem rW_once {s : Option (List (BitVec 8))} {M : List (BitVec 8)} (h : (rW s).1 = 0) (hM : (rW s).2.2 = some M) : s = some (form (rW s).2.1.length ++ (((rW s).2.1.map txt).flatten ++ M)) ∧ (rW s).2.1.length ≤ 8 ∧ ∀ L ∈ (rW s).2.1, L.length ≤ 128 := by
  by_cases hg : gE s 8 = 0
  · have eW : rW s = rI (gN s) (gS s) := by unfold rW; rw [if_pos hg]
    rw [eW] at h hM ⊢
    obtain ⟨Y, e, f, g⟩ := get_once hg
    obtain ⟨e1, f1⟩ := rI_once _ _ M h hM
    have hl := rI_len _ _ h
    rw [hl]
    refine ⟨?_, g, f1⟩
    rw [f] at e1
    injection e1 with e1
    rw [f, ← e1]; exact e
  · unfold rW at h; rw [if_neg hg] at h; exact absurd h hg
theorem rX_once : ∀ (n : Nat) (s : Option (List (BitVec 8))) (M : List (BitVec 8)) (xs : List TIn), xs.length = n → (rX n s).1 = 0 → (rX n s).2.2 = some M → s = some (((wW xs (rX n s).2.1).map witB).flatten ++ M) ∧ ∀ L ∈ (rX n s).2.1, L.length ≤ 8 ∧ ∀ l ∈ L, l.length ≤ 128
  | 0, s, M, xs, hx, h, hM => by
    cases xs with
    | nil => exact ⟨by simpa [rX, wW] using hM, fun x hx => by simp [rX] at hx⟩
    | cons => cases hx
  | n + 1, s, M, xs, hx, h, hM => by
    cases xs with
    | nil => cases hx
    | cons x xs =>
      by_cases h0 : (rW s).1 = 0
      · simp only [rX, h0, if_true] at h hM ⊢
        obtain ⟨e, f⟩ := rX_once n _ M xs (by simpa using hx) h hM
        obtain ⟨e1, f1, g1⟩ := rW_once h0 e
        refine ⟨?_, fun L hL => ?_⟩
        · have : wW (x :: xs) ((rW s).2.1 :: (rX n (rW s).2.2).2.1) = ⟨x.tx, x.ix, x.sc, x.sq, (rW s).2.1⟩ :: wW xs (rX n (rW s).2.2).2.1 := rfl
          rw [this, List.map_cons, List.flatten_cons, List.append_assoc]
          unfold witB
          dsimp only
          rw [List.append_assoc]
          exact e1
        · rcases List.mem_cons.1 hL with rfl | hL
          · exact ⟨f1, g1⟩
          · exact f L hL
      · simp only [rX, h0, if_false] at h
open Go.RowKit
set_option linter.unusedVariables false
set_option linter.unusedSimpArgs false
set_option maxRecDepth 100000
theorem fitE_pos {n : Nat} (h : fitE n = 0) : 0 < n ∧ n ≤ 16 := by
  unfold fitE at h
  split at h
  · cases h
  · split at h
    · cases h
    · omega
theorem pE_once {s : Option (List (BitVec 8))} (h : pE s = 0) : ∃ Y, s = some (form (pN s) ++ Y) ∧ gS s = some Y ∧ 0 < pN s ∧ pN s ≤ 16 := by
  by_cases hg : gE s 16 = 0
  · unfold pE at h
    rw [if_pos hg] at h
    obtain ⟨Y, e, f, g⟩ := get_once hg
    have eN : pN s = gN s := by unfold pN gV; rw [if_pos hg]
    rw [eN]
    exact ⟨Y, e, f, fitE_pos h⟩
  · unfold pE at h; rw [if_neg hg] at h; exact absurd h hg
theorem rIns_once {s : Option (List (BitVec 8))} {M : List (BitVec 8)} (h : (rIns s).1 = 0) (hM : (rIns s).2.2 = some M) : s = some (form (rIns s).2.1.length ++ (((rIns s).2.1.map inB).flatten ++ M)) ∧ 0 < (rIns s).2.1.length ∧ (rIns s).2.1.length ≤ 16 ∧ ∀ x ∈ (rIns s).2.1, x.sc.length ≤ 128 := by
  by_cases hp : pE s = 0
  · have e0 : rIns s = rN (pN s) (gS s) := by unfold rIns; rw [if_pos hp]
    rw [e0] at h hM ⊢
    obtain ⟨Y, e, f, g1, g2⟩ := pE_once hp
    obtain ⟨e1, f1⟩ := rN_once _ _ M h hM
    have hl := rN_len _ _ h
    rw [hl]
    refine ⟨?_, g1, g2, f1⟩
    rw [f] at e1
    injection e1 with e1
    rw [f, ← e1]; exact e
  · unfold rIns at h; rw [if_neg hp] at h; exact absurd h hp
theorem rOuts_once {s : Option (List (BitVec 8))} {M : List (BitVec 8)} (h : (rOuts s).1 = 0) (hM : (rOuts s).2.2 = some M) : s = some (form (rOuts s).2.1.length ++ (((rOuts s).2.1.map outB).flatten ++ M)) ∧ 0 < (rOuts s).2.1.length ∧ (rOuts s).2.1.length ≤ 16 ∧ ∀ x ∈ (rOuts s).2.1, x.sc.length ≤ 128 := by
  by_cases hp : pE s = 0
  · have e0 : rOuts s = rO (pN s) (gS s) := by unfold rOuts; rw [if_pos hp]
    rw [e0] at h hM ⊢
    obtain ⟨Y, e, f, g1, g2⟩ := pE_once hp
    obtain ⟨e1, f1⟩ := rO_once _ _ M h hM
    have hl := rO_len _ _ h
    rw [hl]
    refine ⟨?_, g1, g2, f1⟩
    rw [f] at e1
    injection e1 with e1
    rw [f, ← e1]; exact e
  · unfold rOuts at h; rw [if_neg hp] at h; exact absurd h hp
theorem chk_ok {t : TTx} (h1 : 0 < t.ins.length) (h2 : t.ins.length ≤ 16) (h3 : 0 < t.outs.length) (h4 : t.outs.length ≤ 16) (h5 : ∀ x ∈ t.ins, x.sc.length ≤ 128) (h6 : WitOk t.ins) (h7 : ∀ y ∈ t.outs, y.sc.length ≤ 128) : chk t = 0 := by
  unfold chk
  rw [fitE_zero h1 h2, fitE_zero h3 h4, if_neg (by simp), if_neg (by simp), if_neg]
  rintro (h | h)
  · obtain ⟨x, hx, h⟩ := List.any_eq_true.1 h
    have a := h5 x hx
    have b := h6 x hx
    simp [lngIn, lng] at h
    rcases h with (h | h) | ⟨l, hl, h⟩
    · omega
    · omega
    · have := b.2 l hl; omega
  · obtain ⟨y, hy, h⟩ := List.any_eq_true.1 h
    have a := h7 y hy
    simp [lngOut, lng] at h
    omega
theorem wW_sc : ∀ (xs : List TIn) (Ls : List (List (List (BitVec 8)))), (∀ x ∈ xs, x.sc.length ≤ 128) → ∀ x ∈ wW xs Ls, x.sc.length ≤ 128
  | [], _, _, x, hx => by simp [wW] at hx
  | _ :: _, [], _, x, hx => by simp [wW] at hx
  | y :: ys, L :: Ls, h, x, hx => by
    have hx : x ∈ (⟨y.tx, y.ix, y.sc, y.sq, L⟩ : TIn) :: wW ys Ls := hx
    rcases List.mem_cons.1 hx with rfl | hx
    · exact h y (by simp)
    · exact wW_sc ys Ls (fun z hz => h z (by simp [hz])) x hx
theorem wW_wits : ∀ (xs : List TIn) (Ls : List (List (List (BitVec 8)))), (∀ L ∈ Ls, L.length ≤ 8 ∧ ∀ l ∈ L, l.length ≤ 128) → WitOk (wW xs Ls)
  | [], _, _, x, hx => by simp [wW] at hx
  | _ :: _, [], _, x, hx => by simp [wW] at hx
  | y :: ys, L :: Ls, h, x, hx => by
    have hx : x ∈ (⟨y.tx, y.ix, y.sc, y.sq, L⟩ : TIn) :: wW ys Ls := hx
    rcases List.mem_cons.1 hx with rfl | hx
    · exact h L (by simp)
    · exact wW_wits ys Ls (fun z hz => h z (by simp [hz])) x hx
theorem wW_inB : ∀ (xs : List TIn) (Ls : List (List (List (BitVec 8)))), Ls.length = xs.length → (wW xs Ls).map inB = xs.map inB
  | [], _, _ => by simp [wW]
  | _ :: _, [], h => by cases h
  | y :: ys, L :: Ls, h => by
    have e : wW (y :: ys) (L :: Ls) = ⟨y.tx, y.ix, y.sc, y.sq, L⟩ :: wW ys Ls := rfl
    rw [e, List.map_cons, List.map_cons, wW_inB ys Ls (by simpa using h)]
    rfl
theorem rX_len : ∀ (n : Nat) (s : Option (List (BitVec 8))), (rX n s).1 = 0 → (rX n s).2.1.length = n
  | 0, _, _ => rfl
  | n + 1, s, h => by
    by_cases h0 : (rW s).1 = 0
    · simp only [rX, h0, if_true] at h ⊢
      simp [rX_len n _ h]
    · simp only [rX, h0, if_false] at h
theorem wit_none {xs : List TIn} (h : ∀ x ∈ xs, x.wt = []) : xs.any wit = false := by
  rw [List.any_eq_false]
  intro x hx
  simp [wit, h x hx]
theorem rOuts_none : (rOuts none).2.2 = none := by
  unfold rOuts pE
  rw [gE_none, if_neg (by decide), if_neg (by decide)]
  rfl
theorem rW_none : (rW none).2.2 = none := by
  unfold rW
  rw [gE_none, if_neg (by decide)]
  rfl
theorem rX_none (n : Nat) : (rX n none).2.2 = none := by
  cases n with
  | zero => rfl
  | succ n =>
    have h0 : ¬ (rW none).1 = 0 := by
      unfold rW
      rw [gE_none, if_neg (by decide)]; decide
    simp only [rX, h0, if_false]
    exact rW_none
def Onced (s : Option (List (BitVec 8))) (t : TTx) (M : List (BitVec 8)) : Prop := s = some (layB t (witd t) ++ M) ∧ chk t = 0 ∧ TxIn t
theorem rT_once {s : Option (List (BitVec 8))} {M : List (BitVec 8)} (h : (rT s).1 = 0) (hM : (rT s).2.2 = some M) : Onced s (rT s).2.1 M := by
  have hv := numV_4 s
  unfold rT at h hM ⊢
  by_cases hm : rM (numS s 4) = true
  · rw [if_pos hm] at h hM ⊢
    unfold rT1 at h hM ⊢
    obtain ⟨s2, hs2⟩ : ∃ x, x = cutS (numS s 4) 2 := ⟨_, rfl⟩
    rw [← hs2] at h hM ⊢
    by_cases hi : (rIns s2).1 = 0
    · rw [if_pos hi] at h hM ⊢
      unfold rT2 at h hM ⊢
      obtain ⟨s3, hs3⟩ : ∃ x, x = (rIns s2).2.2 := ⟨_, rfl⟩
      rw [← hs3] at h hM ⊢
      by_cases ho : (rOuts s3).1 = 0
      · rw [if_pos ho] at h hM ⊢
        unfold rT3 at h hM ⊢
        rw [if_pos rfl] at h hM ⊢
        obtain ⟨s4, hs4⟩ : ∃ x, x = (rOuts s3).2.2 := ⟨_, rfl⟩
        rw [← hs4] at h hM ⊢
        obtain ⟨n, hn⟩ : ∃ n, n = (rIns s2).2.1.length := ⟨_, rfl⟩
        rw [← hn] at h hM ⊢
        by_cases hx : (rX n s4).1 = 0
        · rw [if_pos hx] at h hM ⊢
          unfold rT4 at h hM ⊢
          by_cases hw : true = true ∧ witd ⟨numV s 4, wW (rIns s2).2.1 (rX n s4).2.1, (rOuts s3).2.1, 0⟩ = false
          · rw [if_pos hw] at h; exact absurd h (show ¬ (4 : Int) = 0 by decide)
          · rw [if_neg hw] at h hM ⊢
            obtain ⟨s5, hs5⟩ : ∃ x, x = (rX n s4).2.2 := ⟨_, rfl⟩
            rw [← hs5] at h hM ⊢
            have hw1 : witd ⟨numV s 4, wW (rIns s2).2.1 (rX n s4).2.1, (rOuts s3).2.1, numV s5 4⟩ = true := by
              cases hh : witd ⟨numV s 4, wW (rIns s2).2.1 (rX n s4).2.1, (rOuts s3).2.1, 0⟩ with
              | true => exact hh
              | false => exact absurd ⟨rfl, hh⟩ hw
            have e6 := num4_once hM
            obtain ⟨e5, f5⟩ := rX_once n s4 _ (rIns s2).2.1 hn.symm hx (by rw [← hs5]; exact e6)
            rw [e5] at hs4
            obtain ⟨e4, g1, g2, g3⟩ := rOuts_once ho hs4.symm
            rw [e4] at hs3
            obtain ⟨e3, k1, k2, k3⟩ := rIns_once hi hs3.symm
            rw [e3] at hs2
            obtain ⟨a, b, _⟩ := cut_once (n := 2) hs2.symm
            have em : takeL (numS s 4) 2 = [0, 1] := of_decide_eq_true hm
            have a : numS s 4 = some (takeL (numS s 4) 2 ++ _) := a
            rw [em] at a
            have e1 := num4_once a
            refine ⟨?_, ?_, ?_⟩
            · rw [hw1]
              unfold layB
              dsimp only
              rw [wW_inB _ _ (by rw [rX_len n s4 hx, hn]), wW_len, rX_len n s4 hx, ← hn, Nat.min_self]
              rw [← hn] at e1
              simp only [if_true, List.append_assoc]
              exact e1
            · refine chk_ok ?_ ?_ g1 g2 (wW_sc _ _ k3) (wW_wits _ _ f5) g3
              · show 0 < (wW _ _).length; rw [wW_len, rX_len n s4 hx, hn, Nat.min_self]; exact k1
              · show (wW _ _).length ≤ 16; rw [wW_len, rX_len n s4 hx, hn, Nat.min_self]; exact k2
            · exact ⟨wW_ok _ _ (fun x hx => (rIns_ok s2 x hx).1), rOuts_ok s3, hv, numV_4 s5⟩
        · rw [if_neg hx] at h; exact absurd h hx
      · rw [if_neg ho] at h; exact absurd h ho
    · rw [if_neg hi] at h; exact absurd h hi
  · rw [if_neg hm] at h hM ⊢
    unfold rT1 at h hM ⊢
    obtain ⟨s2, hs2⟩ : ∃ x, x = numS s 4 := ⟨_, rfl⟩
    rw [← hs2] at h hM ⊢
    by_cases hi : (rIns s2).1 = 0
    · rw [if_pos hi] at h hM ⊢
      unfold rT2 at h hM ⊢
      obtain ⟨s3, hs3⟩ : ∃ x, x = (rIns s2).2.2 := ⟨_, rfl⟩
      rw [← hs3] at h hM ⊢
      by_cases ho : (rOuts s3).1 = 0
      · rw [if_pos ho] at h hM ⊢
        unfold rT3 at h hM ⊢
        rw [if_neg (by simp)] at h hM ⊢
        obtain ⟨s4, hs4⟩ : ∃ x, x = (rOuts s3).2.2 := ⟨_, rfl⟩
        rw [← hs4] at h hM ⊢
        unfold rT4 at h hM ⊢
        rw [if_neg (by simp)] at h hM ⊢
        have hw1 : witd ⟨numV s 4, (rIns s2).2.1, (rOuts s3).2.1, numV s4 4⟩ = false := wit_none fun x hx => (rIns_ok s2 x hx).2
        have e6 := num4_once hM
        rw [e6] at hs4
        obtain ⟨e4, g1, g2, g3⟩ := rOuts_once ho hs4.symm
        rw [e4] at hs3
        obtain ⟨e3, k1, k2, k3⟩ := rIns_once hi hs3.symm
        rw [e3] at hs2
        have e1 := num4_once hs2.symm
        refine ⟨?_, ?_, ?_⟩
        · rw [hw1]
          unfold layB
          simp only [Bool.false_eq_true, if_false, List.append_nil, List.append_assoc]
          exact e1.trans (by rw [e6])
        · exact chk_ok k1 k2 g1 g2 k3 (fun x hx => by rw [(rIns_ok s2 x hx).2]; exact ⟨Nat.zero_le _, fun t ht => by cases ht⟩) g3
        · exact ⟨fun x hx => (rIns_ok s2 x hx).1, rOuts_ok s3, hv, numV_4 s4⟩
      · rw [if_neg ho] at h; exact absurd h ho
    · rw [if_neg hi] at h; exact absurd h hi
theorem rP_once {s : Option (List (BitVec 8))} (h : (rP s).1 = 0) : ∃ M, (rP s).2.2 = some M ∧ Onced s (rP s).2.1 M := by
  unfold rP at h ⊢
  by_cases h1 : (rT s).1 = 0 ∧ (rT s).2.2.isNone = true
  · rw [if_pos h1] at h; exact absurd h (show ¬ (4 : Int) = 0 by decide)
  · rw [if_neg h1] at h ⊢
    by_cases h2 : (rT s).1 = 0
    · rw [if_pos h2] at h ⊢
      cases hh : (rT s).2.2 with
      | none => exact absurd ⟨h2, by rw [hh]; rfl⟩ h1
      | some M => exact ⟨M, rfl, rT_once h2 hh⟩
    · rw [if_neg h2] at h; exact absurd h h2
/-! The errors. -/
def E034 (c : Int) : Prop := c = 0 ∨ c = 3 ∨ c = 4
theorem gE_034 (s : Option (List (BitVec 8))) (m : Nat) : E034 (gE s m) := by
  unfold gE
  split
  · exact .inr (.inr rfl)
  · split
    · exact .inr (.inl rfl)
    · exact .inl rfl
theorem tE_034 (s : Option (List (BitVec 8))) (m : Nat) : E034 (tE s m) := by
  unfold tE
  split
  · split
    · exact .inr (.inr rfl)
    · exact .inl rfl
  · exact gE_034 s m
theorem fitE_034 (n : Nat) : E034 (fitE n) := by
  unfold fitE
  split
  · exact .inr (.inr rfl)
  · split
    · exact .inr (.inl rfl)
    · exact .inl rfl
theorem pE_034 (s : Option (List (BitVec 8))) : E034 (pE s) := by
  unfold pE
  split
  · exact fitE_034 _
  · exact gE_034 _ _
theorem rN_034 : ∀ (n : Nat) (s : Option (List (BitVec 8))), E034 (rN n s).1
  | 0, _ => .inl rfl
  | n + 1, s => by
    by_cases h0 : rInE s = 0
    · simp only [rN, h0, if_true]; exact rN_034 n _
    · simp only [rN, h0, if_false]; exact tE_034 _ _
theorem rO_034 : ∀ (n : Nat) (s : Option (List (BitVec 8))), E034 (rO n s).1
  | 0, _ => .inl rfl
  | n + 1, s => by
    by_cases h0 : tE (numS s 8) 128 = 0
    · simp only [rO, h0, if_true]; exact rO_034 n _
    · simp only [rO, h0, if_false]; exact tE_034 _ _
theorem rI_034 : ∀ (n : Nat) (s : Option (List (BitVec 8))), E034 (rI n s).1
  | 0, _ => .inl rfl
  | n + 1, s => by
    by_cases h0 : tE s 128 = 0
    · simp only [rI, h0, if_true]; exact rI_034 n _
    · simp only [rI, h0, if_false]; exact tE_034 _ _
theorem rW_034 (s : Option (List (BitVec 8))) : E034 (rW s).1 := by
  unfold rW
  split
  · exact rI_034 _ _
  · exact gE_034 _ _
theorem rX_034 : ∀ (n : Nat) (s : Option (List (BitVec 8))), E034 (rX n s).1
  | 0, _ => .inl rfl
  | n + 1, s => by
    by_cases h0 : (rW s).1 = 0
    · simp only [rX, h0, if_true]; exact rX_034 n _
    · simp only [rX, h0, if_false]; exact rW_034 _
theorem rIns_034 (s : Option (List (BitVec 8))) : E034 (rIns s).1 := by
  unfold rIns
  split
  · exact rN_034 _ _
  · exact pE_034 _
theorem rOuts_034 (s : Option (List (BitVec 8))) : E034 (rOuts s).1 := by
  unfold rOuts
  split
  · exact rO_034 _ _
  · exact pE_034 _
theorem rT4_034 (v : Nat) (m : Bool) (i : List TIn) (o : List TOut) (s : Option (List (BitVec 8))) : E034 (rT4 v m i o s).1 := by
  unfold rT4
  split
  · exact .inr (.inr rfl)
  · exact .inl rfl
theorem rT1_034 (v : Nat) (m : Bool) (s : Option (List (BitVec 8))) : E034 (rT1 v m s).1 := by
  unfold rT1
  split
  · unfold rT2
    split
    · unfold rT3
      split
      · split
        · exact rT4_034 _ _ _ _ _
        · exact rX_034 _ _
      · exact rT4_034 _ _ _ _ _
    · exact rOuts_034 _
  · exact rIns_034 _
theorem rT_034 (s : Option (List (BitVec 8))) : E034 (rT s).1 := by
  unfold rT
  split
  · exact rT1_034 _ _ _
  · exact rT1_034 _ _ _
theorem rP_034 (s : Option (List (BitVec 8))) : E034 (rP s).1 := by
  unfold rP
  split
  · exact .inr (.inr rfl)
  · split
    · exact rT_034 s
    · exact rT_034 s
open Go.RowKit
set_option linter.unusedVariables false
set_option linter.unusedSimpArgs false
set_option maxRecDepth 100000
theorem hnum_any (n : Nat) (w : World) (hn : n < 4294967296) : Calls Try.prog 55 #[.int .u32 (n : Int)] w (LaidPost (les n 4) w) := by
  have h := bput_any none [] 0 0 4 n w (fun h => by simp at h) (Nat.zero_le _) (by omega) (by simp)
  have hy : isW (4 : Int) = true ∧ n < 2 ^ (8 * (4 : Int).toNat) := ⟨rfl, by simpa using hn⟩
  have K := Lib.hid h
  have HY := Lib.hid hy
  have hwv : IntKind.u64.wrap (n : Int) = (n : Int) := by rw [IntKind.wrap_u64]; omega
  clear h hy hn
  go_enter Try.func55, Try.ntmps55
  go_wp2_with (go_at_call 66; (refine K.out.mono ?_); rintro e w2 ⟨hb, h1, h2⟩; obtain ⟨v, rfl, ho⟩ := h1 HY.out; have HO := Lib.hid ho; clear h1 h2 ho; dsimp only)
  go_ret
  exact ⟨_, rfl, by simpa using HO.out, hb⟩
theorem hnum_w (n : Nat) (w : World) (hn : n < 4294967296) : Calls Try.prog 55 #[.int .u32 (n : Int)] w fun e w' => ∃ A c, e = .returned (.slice A 4 c) ∧ OB w' w.heap.size (.slice A 4 c) (les n 4) ∧ Below w.heap.size w w' :=
  (hnum_any n w hn).mono fun e w' ⟨v, he, ho, hb⟩ => by
    obtain ⟨A, c, rfl, _, _⟩ := slice_form ho
    rw [les_len] at ho he
    exact ⟨A, c, he, ho, hb⟩
/-- A header. -/
structure THd where
  ver : Nat
  prev : List (BitVec 8)
  root : List (BitVec 8)
  time : Nat
  bits : Nat
  nonce : Nat
/-- Its cells. -/
def hdV (h : THd) : List Value := .int .u32 (h.ver : Int) :: (vbs h.prev ++ (vbs h.root ++ [.int .u32 (h.time : Int), .int .u32 (h.bits : Int), .int .u32 (h.nonce : Int)]))
/-- Its bytes. -/
def hdB (h : THd) : List (BitVec 8) := [les h.ver 4, h.prev, h.root, les h.time 4, les h.bits 4, les h.nonce 4].flatten
structure HdOk (h : THd) : Prop where
  prev : h.prev.length = 32
  root : h.root.length = 32
  ver : h.ver < 4294967296
  time : h.time < 4294967296
  bits : h.bits < 4294967296
  nonce : h.nonce < 4294967296
theorem hdV_len {h : THd} (k : HdOk h) : (hdV h).length = 68 := by
  simp [hdV, vbs_len, k.prev, k.root]
theorem hdB_len {h : THd} (k : HdOk h) : (hdB h).length = 80 := by
  simp [hdB, les_len, k.prev, k.root]
theorem hdV_prev {h : THd} (k : HdOk h) {j : Nat} (hj : j < 32) : (hdV h)[1 + j]? = some (.int .u8 (Bt (h.prev.getD j 0))) := by
  have := k.prev
  unfold hdV
  rw [Nat.add_comm 1 j, List.getElem?_cons_succ, List.getElem?_append_left (by rw [vbs_len]; omega), vbs_at (by omega)]
theorem hdV_root {h : THd} (k : HdOk h) {j : Nat} (hj : j < 32) : (hdV h)[33 + j]? = some (.int .u8 (Bt (h.root.getD j 0))) := by
  have := k.prev
  have := k.root
  unfold hdV
  rw [show 33 + j = (32 + j) + 1 by omega, List.getElem?_cons_succ, List.getElem?_append_right (by rw [vbs_len]; omega), vbs_len, k.prev, Nat.add_sub_cancel_left, List.getElem?_append_left (by rw [vbs_len]; omega), vbs_at (by omega)]
theorem hdV_end {h : THd} (k : HdOk h) {j : Nat} {v : Value} (hv : ([.int .u32 (h.time : Int), .int .u32 (h.bits : Int), .int .u32 (h.nonce : Int)] : List Value)[j]? = some v) : (hdV h)[65 + j]? = some v := by
  have := k.prev
  have := k.root
  unfold hdV
  rw [show 65 + j = (64 + j) + 1 by omega, List.getElem?_cons_succ, List.getElem?_append_right (by rw [vbs_len]; omega), vbs_len, k.prev, List.getElem?_append_right (by rw [vbs_len]; omega), vbs_len, k.root, show 64 + j - 32 - 32 = j by omega]
  exact hv
/-- The header lies at block b, offset o. -/
def HdAt (w : World) (b : Nat) (h : THd) : Prop := w.rangeAt b 0 (hdV h) ∧ b < w.heap.size
theorem HdAt.keep {w w' : World} {b B : Nat} {h : THd} (H : HdAt w b h) (hb : Below B w w') (hB : b < B) (hs : w.heap.size ≤ w'.heap.size) : HdAt w' b h := ⟨range_keep H.1 hb hB, Nat.lt_of_lt_of_le H.2 hs⟩
theorem HdAt.sb {W w : World} {b : Nat} {h : THd} (H : HdAt W b h) (hs : SB W w) : HdAt w b h := H.keep hs H.2 hs.size
theorem HdAt.new (w : World) (h : THd) (T : TypeId) : HdAt (w.alloc (.cells (hdV h).toArray T)) w.heap.size h := ⟨(Blk.new w T (hdV h).toArray).range, by simp⟩
theorem HdAt.cell {w : World} {b : Nat} {h : THd} (H : HdAt w b h) {j : Nat} {v : Value} (hv : (hdV h)[j]? = some v) : w.cell? ⟨b, j, none⟩ = some v := by
  have := H.1 j v hv
  rwa [Nat.zero_add] at this
theorem HdAt.four {w : World} {b : Nat} {h : THd} (k : HdOk h) (H : HdAt w b h) : w.cell? ⟨b, 0, none⟩ = some (.int .u32 (h.ver : Int)) ∧ w.cell? ⟨b, 65, none⟩ = some (.int .u32 (h.time : Int)) ∧ w.cell? ⟨b, 66, none⟩ = some (.int .u32 (h.bits : Int)) ∧ w.cell? ⟨b, 67, none⟩ = some (.int .u32 (h.nonce : Int)) :=
  ⟨H.cell rfl, H.cell (hdV_end k (j := 0) rfl), H.cell (hdV_end k (j := 1) rfl), H.cell (hdV_end k (j := 2) rfl)⟩
theorem HdAt.prev {w : World} {b : Nat} {h : THd} (k : HdOk h) (H : HdAt w b h) (B : Nat) (hB : b < B) : Rd w B (some ⟨b, 1, none⟩) h.prev := fun _ =>
  ⟨b, 1, rfl, hB, fun j hj => H.cell (hdV_prev k (by rw [k.prev] at hj; exact hj))⟩
theorem HdAt.root {w : World} {b : Nat} {h : THd} (k : HdOk h) (H : HdAt w b h) (B : Nat) (hB : b < B) : Rd w B (some ⟨b, 33, none⟩) h.root := fun _ =>
  ⟨b, 33, rfl, hB, fun j hj => H.cell (hdV_root k (by rw [k.root] at hj; exact hj))⟩
theorem six_ws {w : World} {B g : Nat} {v0 v1 v2 v3 v4 v5 : Value} {X0 X1 X2 X3 X4 X5 : List (BitVec 8)} (hb : Blk w g 22 [v0, v1, v2, v3, v4, v5]) (hg : g < B) (h0 : Sl w B v0 X0) (h1 : Sl w B v1 X1) (h2 : Sl w B v2 X2) (h3 : Sl w B v3 X3) (h4 : Sl w B v4 X4) (h5 : Sl w B v5 X5) : Ws w B (.slice (some ⟨g, 0, none⟩) 6 6) [X0, X1, X2, X3, X4, X5] := by
  refine ⟨_, 6, rfl, Nat.le_refl _, by omega, fun _ => ⟨g, 0, rfl, hg, fun j hj => ?_⟩⟩
  have : j = 0 ∨ j = 1 ∨ j = 2 ∨ j = 3 ∨ j = 4 ∨ j = 5 := by simp at hj; omega
  rcases this with rfl | rfl | rfl | rfl | rfl | rfl
  · exact ⟨v0, hb.cell rfl, h0⟩
  · exact ⟨v1, hb.cell rfl, h1⟩
  · exact ⟨v2, hb.cell rfl, h2⟩
  · exact ⟨v3, hb.cell rfl, h3⟩
  · exact ⟨v4, hb.cell rfl, h4⟩
  · exact ⟨v5, hb.cell rfl, h5⟩
theorem Sl.of {w : World} {B : Nat} {A : Option Addr} {L : List (BitVec 8)} {n cap : Nat} (hn : L.length = n) (h : Rd w B A L) (h1 : n ≤ cap) (h2 : cap ≤ 9223372036854775807) (h3 : A = none → cap = 0) : Sl w B (.slice A n cap) L := by
  subst hn
  exact ⟨A, cap, rfl, h, h1, h2, h3⟩
theorem OB.on {w w' : World} {B : Nat} {v : Value} {L : List (BitVec 8)} (h : OB w B v L) (hb : Below w.heap.size w w') : OB w' B v L := h.below (B' := 0) hb
theorem Sl.sb {W w : World} {B : Nat} {v : Value} {L : List (BitVec 8)} (h : Sl W W.heap.size v L) (hs : SB W w) (hB : w.heap.size ≤ B) : Sl w B v L := (h.keep hs (Nat.le_refl _)).up (Nat.le_trans hs.size hB)
set_option maxHeartbeats 4000000 in
theorem hput_any (h : THd) (k : HdOk h) (w : World) : Calls Try.prog 29 #[.agg (hdV h).toArray] w (LaidPost (hdB h) w) := by
  have K18 := Lib.hid (fun (n : Nat) (hn : n < 4294967296) (wq : World) => hnum_w n wq hn)
  have HK := Lib.hid k
  have HB : Hid (Below w.heap.size w (w.alloc (.cells (hdV h).toArray 27)).drew) := ((Below.refl w.heap.size w).alloc (Nat.le_refl _) _).drew
  have HH : Hid (HdAt (w.alloc (.cells (hdV h).toArray 27)).drew w.heap.size h) := (⟨(HdAt.new w h 27).1, (HdAt.new w h 27).2⟩ : HdAt (w.alloc (.cells (hdV h).toArray 27)).drew w.heap.size h)
  have HS1 : Hid (∀ (b o : Nat) (w : World), (Instr.sliceAt 25 (.pointer (some ⟨b, o, none⟩)) none none none).run Try.prog w = .ok (.slice (some ⟨b, o, none⟩) 32 32) w) := slice55all
  obtain ⟨V, hV⟩ : ∃ V, V = (hdV h).toArray := ⟨_, rfl⟩
  rw [← hV] at HB HH ⊢
  obtain ⟨ver, hver⟩ : ∃ n, n = h.ver := ⟨_, rfl⟩
  obtain ⟨time, htime⟩ : ∃ n, n = h.time := ⟨_, rfl⟩
  obtain ⟨bits, hbits⟩ : ∃ n, n = h.bits := ⟨_, rfl⟩
  obtain ⟨nonce, hnonce⟩ : ∃ n, n = h.nonce := ⟨_, rfl⟩
  have HN := Lib.hid (⟨hver, htime, hbits, hnonce⟩ : ver = h.ver ∧ time = h.time ∧ bits = h.bits ∧ nonce = h.nonce)
  have HL := Lib.hid (⟨hver ▸ k.ver, htime ▸ k.time, hbits ▸ k.bits, hnonce ▸ k.nonce⟩ : ver < 4294967296 ∧ time < 4294967296 ∧ bits < 4294967296 ∧ nonce < 4294967296)
  clear hV k hver htime hbits hnonce
  go_enter Try.func29, Try.ntmps29
  go_upto_region 1 with fail
  generalize hWd : (w.alloc (.cells V 27)).drew = Wd
  rw [hWd] at HB HH
  have E0 : Hid (∀ wq, SB Wd wq → wq.cell? ⟨w.heap.size, 0, none⟩ = some (.int .u32 (ver : Int)) ∧ wq.cell? ⟨w.heap.size, 65, none⟩ = some (.int .u32 (time : Int)) ∧ wq.cell? ⟨w.heap.size, 66, none⟩ = some (.int .u32 (bits : Int)) ∧ wq.cell? ⟨w.heap.size, 67, none⟩ = some (.int .u32 (nonce : Int))) := fun wq hq => by
    obtain ⟨e1, e2, e3, e4⟩ := HN.out
    rw [e1, e2, e3, e4]
    exact (HH.out.sb hq).four HK.out
  refine wp_region_but (z := 999) (SB Wd) (by kernel_rfl) ?_
  rw [hWd]
  have hS : SB Wd Wd := SB.refl Wd
  clear hWd
  refine AnyBut.takeE (i := 0) (v := ?_) rfl (by kernel_rfl) (by kernel_rfl) (by kernel_rfl) (by kernel_rfl) (fun _ _ _ h => h) (Or.inl ⟨by rfl, ?_⟩) hS ?_
  rotate_left
  · (intro wq hq; go_simp; try with_reducible rfl)
  try simp only [Act.put, List.setIfInBounds_toArray, List.set_cons_zero, List.set_cons_succ, List.getElem_toArray, List.getElem_cons_zero, List.getElem_cons_succ]
  refine AnyBut.takeE (i := 1) (v := .int .u32 (ver : Int)) rfl (by kernel_rfl) (by kernel_rfl) (by kernel_rfl) (by kernel_rfl) (fun _ _ _ h => h) (Or.inl ⟨by rfl, ?_⟩) hS ?_
  · intro wq hq
    obtain ⟨dq0, dq1, dq2, dq3⟩ := E0.out wq hq
    go_simp
  try simp only [Act.put, List.setIfInBounds_toArray, List.set_cons_zero, List.set_cons_succ, List.getElem_toArray, List.getElem_cons_zero, List.getElem_cons_succ]
  refine AnyBut.takeE (i := 3) (v := ?_) rfl (by kernel_rfl) (by kernel_rfl) (by kernel_rfl) (by kernel_rfl) (fun _ _ _ h => h) (Or.inl ⟨by rfl, ?_⟩) hS ?_
  rotate_left
  · (intro wq hq; go_simp; try with_reducible rfl)
  try simp only [Act.put, List.setIfInBounds_toArray, List.set_cons_zero, List.set_cons_succ, List.getElem_toArray, List.getElem_cons_zero, List.getElem_cons_succ]
  refine AnyBut.takeE (i := 4) (v := .slice (some ⟨w.heap.size, 1, none⟩) 32 32) rfl (by kernel_rfl) (by kernel_rfl) (by kernel_rfl) (by kernel_rfl) (fun _ _ _ h => h) (Or.inl ⟨by rfl, ?_⟩) hS ?_
  · intro wq hq
    have hs := HS1.out w.heap.size 1 wq
    go_simp
  try simp only [Act.put, List.setIfInBounds_toArray, List.set_cons_zero, List.set_cons_succ, List.getElem_toArray, List.getElem_cons_zero, List.getElem_cons_succ]
  refine AnyBut.takeE (i := 5) (v := ?_) rfl (by kernel_rfl) (by kernel_rfl) (by kernel_rfl) (by kernel_rfl) (fun _ _ _ h => h) (Or.inl ⟨by rfl, ?_⟩) hS ?_
  rotate_left
  · (intro wq hq; go_simp; try with_reducible rfl)
  try simp only [Act.put, List.setIfInBounds_toArray, List.set_cons_zero, List.set_cons_succ, List.getElem_toArray, List.getElem_cons_zero, List.getElem_cons_succ]
  refine AnyBut.takeE (i := 6) (v := .slice (some ⟨w.heap.size, 33, none⟩) 32 32) rfl (by kernel_rfl) (by kernel_rfl) (by kernel_rfl) (by kernel_rfl) (fun _ _ _ h => h) (Or.inl ⟨by rfl, ?_⟩) hS ?_
  · intro wq hq
    have hs := HS1.out w.heap.size 33 wq
    go_simp
  try simp only [Act.put, List.setIfInBounds_toArray, List.set_cons_zero, List.set_cons_succ, List.getElem_toArray, List.getElem_cons_zero, List.getElem_cons_succ]
  refine AnyBut.takeE (i := 7) (v := ?_) rfl (by kernel_rfl) (by kernel_rfl) (by kernel_rfl) (by kernel_rfl) (fun _ _ _ h => h) (Or.inl ⟨by rfl, ?_⟩) hS ?_
  rotate_left
  · (intro wq hq; go_simp; try with_reducible rfl)
  try simp only [Act.put, List.setIfInBounds_toArray, List.set_cons_zero, List.set_cons_succ, List.getElem_toArray, List.getElem_cons_zero, List.getElem_cons_succ]
  refine AnyBut.takeE (i := 8) (v := .int .u32 (time : Int)) rfl (by kernel_rfl) (by kernel_rfl) (by kernel_rfl) (by kernel_rfl) (fun _ _ _ h => h) (Or.inl ⟨by rfl, ?_⟩) hS ?_
  · intro wq hq
    obtain ⟨dq0, dq1, dq2, dq3⟩ := E0.out wq hq
    go_simp
  try simp only [Act.put, List.setIfInBounds_toArray, List.set_cons_zero, List.set_cons_succ, List.getElem_toArray, List.getElem_cons_zero, List.getElem_cons_succ]
  refine AnyBut.takeE (i := 10) (v := ?_) rfl (by kernel_rfl) (by kernel_rfl) (by kernel_rfl) (by kernel_rfl) (fun _ _ _ h => h) (Or.inl ⟨by rfl, ?_⟩) hS ?_
  rotate_left
  · (intro wq hq; go_simp; try with_reducible rfl)
  try simp only [Act.put, List.setIfInBounds_toArray, List.set_cons_zero, List.set_cons_succ, List.getElem_toArray, List.getElem_cons_zero, List.getElem_cons_succ]
  refine AnyBut.takeE (i := 11) (v := .int .u32 (bits : Int)) rfl (by kernel_rfl) (by kernel_rfl) (by kernel_rfl) (by kernel_rfl) (fun _ _ _ h => h) (Or.inl ⟨by rfl, ?_⟩) hS ?_
  · intro wq hq
    obtain ⟨dq0, dq1, dq2, dq3⟩ := E0.out wq hq
    go_simp
  try simp only [Act.put, List.setIfInBounds_toArray, List.set_cons_zero, List.set_cons_succ, List.getElem_toArray, List.getElem_cons_zero, List.getElem_cons_succ]
  refine AnyBut.takeE (i := 13) (v := ?_) rfl (by kernel_rfl) (by kernel_rfl) (by kernel_rfl) (by kernel_rfl) (fun _ _ _ h => h) (Or.inl ⟨by rfl, ?_⟩) hS ?_
  rotate_left
  · (intro wq hq; go_simp; try with_reducible rfl)
  try simp only [Act.put, List.setIfInBounds_toArray, List.set_cons_zero, List.set_cons_succ, List.getElem_toArray, List.getElem_cons_zero, List.getElem_cons_succ]
  refine AnyBut.takeE (i := 14) (v := .int .u32 (nonce : Int)) rfl (by kernel_rfl) (by kernel_rfl) (by kernel_rfl) (by kernel_rfl) (fun _ _ _ h => h) (Or.inl ⟨by rfl, ?_⟩) hS ?_
  · intro wq hq
    obtain ⟨dq0, dq1, dq2, dq3⟩ := E0.out wq hq
    go_simp
  try simp only [Act.put, List.setIfInBounds_toArray, List.set_cons_zero, List.set_cons_succ, List.getElem_toArray, List.getElem_cons_zero, List.getElem_cons_succ]
  refine AnyBut.gone (i := 2) (by kernel_rfl) rfl (by rfl) (fun K hK => ?_)
  go_simp
  (with_reducible refine (K18.out _ HL.out.1 _).mono ?_)
  rintro e w1 ⟨A1, c1, rfl, ho1, hb1⟩
  have hS1 : SB Wd w1 := SB.next hS hb1
  have HO1 := Lib.hid ho1
  have HB1 := Lib.hid hb1
  clear ho1 hb1 hS
  have hS := hS1
  dsimp only
  refine hK _ _ (fun _ => hS) ?_
  clear hK K
  try simp only [Act.put, List.setIfInBounds_toArray, List.set_cons_zero, List.set_cons_succ, List.getElem_toArray, List.getElem_cons_zero, List.getElem_cons_succ]
  refine AnyBut.gone (i := 9) (by kernel_rfl) rfl (by rfl) (fun K hK => ?_)
  go_simp
  (with_reducible refine (K18.out _ HL.out.2.1 _).mono ?_)
  rintro e w2 ⟨A2, c2, rfl, ho2, hb2⟩
  have hS2 : SB Wd w2 := SB.next hS hb2
  have HO2 := Lib.hid ho2
  have HB2 := Lib.hid hb2
  clear ho2 hb2 hS
  have hS := hS2
  dsimp only
  refine hK _ _ (fun _ => hS) ?_
  clear hK K
  try simp only [Act.put, List.setIfInBounds_toArray, List.set_cons_zero, List.set_cons_succ, List.getElem_toArray, List.getElem_cons_zero, List.getElem_cons_succ]
  refine AnyBut.gone (i := 12) (by kernel_rfl) rfl (by rfl) (fun K hK => ?_)
  go_simp
  (with_reducible refine (K18.out _ HL.out.2.2.1 _).mono ?_)
  rintro e w3 ⟨A3, c3, rfl, ho3, hb3⟩
  have hS3 : SB Wd w3 := SB.next hS hb3
  have HO3 := Lib.hid ho3
  have HB3 := Lib.hid hb3
  clear ho3 hb3 hS
  have hS := hS3
  dsimp only
  refine hK _ _ (fun _ => hS) ?_
  clear hK K
  try simp only [Act.put, List.setIfInBounds_toArray, List.set_cons_zero, List.set_cons_succ, List.getElem_toArray, List.getElem_cons_zero, List.getElem_cons_succ]
  refine AnyBut.gone (i := 15) (by kernel_rfl) rfl (by rfl) (fun K hK => ?_)
  go_simp
  (with_reducible refine (K18.out _ HL.out.2.2.2 _).mono ?_)
  rintro e w4 ⟨A4, c4, rfl, ho4, hb4⟩
  have hS4 : SB Wd w4 := SB.next hS hb4
  have HO4 := Lib.hid ho4
  have HB4 := Lib.hid hb4
  clear ho4 hb4 hS
  have hS := hS4
  dsimp only
  refine hK _ _ (fun _ => hS) ?_
  clear hK K
  try simp only [Act.put, List.setIfInBounds_toArray, List.set_cons_zero, List.set_cons_succ, List.getElem_toArray, List.getElem_cons_zero, List.getElem_cons_succ]
  have hb5 := (Below.refl w4.heap.size w4).alloc (Nat.le_refl _) (.cells #[.slice A1 4 c1, .slice (some ⟨w.heap.size, 1, none⟩) 32 32, .slice (some ⟨w.heap.size, 33, none⟩) 32 32, .slice A2 4 c2, .slice A3 4 c3, .slice A4 4 c4] 22)
  have hS5 := hS.next hb5
  have hblk := Blk.new w4 22 #[.slice A1 4 c1, .slice (some ⟨w.heap.size, 1, none⟩) 32 32, .slice (some ⟨w.heap.size, 33, none⟩) 32 32, .slice A2 4 c2, .slice A3 4 c3, .slice A4 4 c4]
  have hlt5 : w4.heap.size < (w4.alloc (.cells #[.slice A1 4 c1, .slice (some ⟨w.heap.size, 1, none⟩) 32 32, .slice (some ⟨w.heap.size, 33, none⟩) 32 32, .slice A2 4 c2, .slice A3 4 c3, .slice A4 4 c4] 22)).heap.size := by simp
  refine AnyBut.gone (i := 16) (by kernel_rfl) rfl (by rfl) (fun K hK => ?_)
  go_simp
  refine hK _ _ (fun _ => hS5) ?_
  clear hK K
  try simp only [Act.put, List.setIfInBounds_toArray, List.set_cons_zero, List.set_cons_succ, List.getElem_toArray, List.getElem_cons_zero, List.getElem_cons_succ]
  generalize w4.alloc (.cells #[.slice A1 4 c1, .slice (some ⟨w.heap.size, 1, none⟩) 32 32, .slice (some ⟨w.heap.size, 33, none⟩) 32 32, .slice A2 4 c2, .slice A3 4 c3, .slice A4 4 c4] 22) = w5 at hb5 hS5 hblk hlt5 ⊢
  have hH5 := HH.out.sb hS5
  have s0 : Sl w5 w5.heap.size (.slice A1 4 c1) (les ver 4) := ((((HO1.out.on HB2.out).on HB3.out).on HB4.out).on hb5).sl (Nat.le_refl _)
  have s3 : Sl w5 w5.heap.size (.slice A2 4 c2) (les time 4) := (((HO2.out.on HB3.out).on HB4.out).on hb5).sl (Nat.le_refl _)
  have s4 : Sl w5 w5.heap.size (.slice A3 4 c3) (les bits 4) := ((HO3.out.on HB4.out).on hb5).sl (Nat.le_refl _)
  have s5 : Sl w5 w5.heap.size (.slice A4 4 c4) (les nonce 4) := (HO4.out.on hb5).sl (Nat.le_refl _)
  have s1 : Sl w5 w5.heap.size (.slice (some ⟨w.heap.size, 1, none⟩) 32 32) h.prev := Sl.of HK.out.prev (hH5.prev HK.out _ hH5.2) (Nat.le_refl _) (by omega) (fun h => by cases h)
  have s2 : Sl w5 w5.heap.size (.slice (some ⟨w.heap.size, 33, none⟩) 32 32) h.root := Sl.of HK.out.root (hH5.root HK.out _ hH5.2) (Nat.le_refl _) (by omega) (fun h => by cases h)
  have KC := Lib.hid (concat_any [les ver 4, h.prev, h.root, les time 4, les bits 4, les nonce 4] _ w5 (six_ws hblk hlt5 s0 s1 s2 s3 s4 s5) (by simp) (by intro L hL; simp at hL; have := HK.out.prev; have := HK.out.root; rcases hL with rfl | rfl | rfl | rfl | rfl | rfl <;> simp [les_len, *]))
  have HSS := Lib.hid hS5
  have hS := hS5
  clear s0 s1 s2 s3 s4 s5 hH5 hblk hb5 hlt5
  refine AnyBut.gone (i := 17) (by kernel_rfl) rfl (by rfl) (fun K hK => ?_)
  go_simp
  (with_reducible refine KC.out.mono ?_)
  rintro e w6 ⟨v6, rfl, ho6, hb6⟩
  have hS6 : SB Wd w6 := SB.next hS hb6
  dsimp only
  refine hK _ _ (fun _ => hS6) ?_
  clear hK K
  try simp only [Act.put, List.setIfInBounds_toArray, List.set_cons_zero, List.set_cons_succ, List.getElem_toArray, List.getElem_cons_zero, List.getElem_cons_succ]
  refine AnyBut.gone (i := 18) (by kernel_rfl) rfl (by rfl) (fun K hK => ?_)
  go_simp
  refine hK _ _ (fun _ => hS6) ?_
  clear hK K
  refine AnyBut.done (by kernel_rfl) ?_ _
  dsimp only [Exit.then]
  have H6 := Lib.hid hS6
  have HO6 := Lib.hid ho6
  clear hS hS6 hS5 ho6 hb6
  go_wp2_with fail
  go_ret
  obtain ⟨e1, e2, e3, e4⟩ := HN.out
  have e : hdB h = [les ver 4, h.prev, h.root, les time 4, les bits 4, les nonce 4].flatten := by rw [e1, e2, e3, e4]; rfl
  exact ⟨v6, rfl, by rw [e]; exact HO6.out.base (Nat.le_trans HB.out.size HSS.out.size), HB.out.trans (Below.mono H6.out HB.out.size)⟩
open Go.RowKit
set_option linter.unusedVariables false
set_option linter.unusedSimpArgs false
set_option maxRecDepth 100000
theorem lev4 (X : List (BitVec 8)) : lev (X.take 4) < 4294967296 := by
  have h := lev_lt (X.take 4)
  have : 2 ^ (8 * (X.take 4).length) ≤ 2 ^ 32 := Nat.pow_le_pow_right (by omega) (by rw [List.length_take]; omega)
  omega
/-- The header of 80 bytes. -/
def hdOf (L : List (BitVec 8)) : THd := ⟨lev (L.take 4), (L.drop 4).take 32, (L.drop 36).take 32, lev ((L.drop 68).take 4), lev ((L.drop 72).take 4), lev ((L.drop 76).take 4)⟩
def hd0 : THd := ⟨0, Z32, Z32, 0, 0, 0⟩
theorem hd0_ok : HdOk hd0 := ⟨rfl, rfl, by decide, by decide, by decide, by decide⟩
theorem hdOf_ok {L : List (BitVec 8)} (h : L.length = 80) : HdOk (hdOf L) :=
  ⟨by simp [hdOf, h], by simp [hdOf, h], lev4 _, lev4 _, lev4 _, lev4 _⟩
/-- Put and Get undo each other. -/
theorem hdB_of {L : List (BitVec 8)} (h : L.length = 80) : hdB (hdOf L) = L := by
  have k : ∀ (X : List (BitVec 8)), 4 ≤ X.length → les (lev (X.take 4)) 4 = X.take 4 := fun X hX => by
    have := les_lev (X.take 4)
    rwa [List.length_take, Nat.min_eq_left hX] at this
  unfold hdB hdOf
  dsimp only
  rw [k L (by omega), k (L.drop 68) (by simp; omega), k (L.drop 72) (by simp; omega), k (L.drop 76) (by simp; omega)]
  have s : ∀ (X : List (BitVec 8)) (a b c : Nat), a + b = c → (X.drop a).take b ++ X.drop c = X.drop a := fun X a b c e => by
    rw [← e, ← List.drop_drop, List.take_append_drop]
  have e76 : (L.drop 76).take 4 = L.drop 76 := List.take_of_length_le (by simp; omega)
  simp only [List.flatten_cons, List.flatten_nil, List.append_nil]
  rw [e76, s L 72 4 76 rfl, s L 68 4 72 rfl, s L 36 32 68 rfl, s L 4 32 36 rfl, List.take_append_drop]
theorem lev_les4 (n : Nat) (hn : n < 4294967296) : lev (les n 4) = n := by
  have e : les n 4 = [BitVec.ofNat 8 n, BitVec.ofNat 8 (n / 256), BitVec.ofNat 8 (n / 65536), BitVec.ofNat 8 (n / 16777216)] := by
    simp [les, List.range_succ]
  rw [e]
  simp only [lev, BitVec.toNat_ofNat]
  omega
theorem hdOf_B {h : THd} (k : HdOk h) : hdOf (hdB h) = h := by
  obtain ⟨ver, prev, root, time, bits, nonce⟩ := h
  obtain ⟨k1, k2, k3, k4, k5, k6⟩ := k
  dsimp only at k1 k2 k3 k4 k5 k6
  have t : ∀ (A B : List (BitVec 8)) (n : Nat), A.length = n → (A ++ B).take n = A := fun A B n e => by rw [List.take_append_of_le_length (by omega), List.take_of_length_le (by omega)]
  have d : ∀ (A B : List (BitVec 8)) (n m : Nat), A.length = n → (A ++ B).drop (n + m) = B.drop m := fun A B n m e => by rw [← List.drop_drop, List.drop_left' e]
  unfold hdOf hdB
  dsimp only
  simp only [List.flatten_cons, List.flatten_nil, List.append_nil]
  have l4 : ∀ n, (les n 4).length = 4 := fun n => les_len n 4
  rw [t _ _ 4 (l4 _), show (4 : Nat) = 4 + 0 from rfl, d _ _ 4 0 (l4 _), show (36 : Nat) = 4 + (32 + 0) from rfl, d _ _ 4 _ (l4 _), d _ _ 32 0 k1, show (68 : Nat) = 4 + (32 + (32 + 0)) from rfl, d _ _ 4 _ (l4 _), d _ _ 32 _ k1, d _ _ 32 _ k2,
    show (72 : Nat) = 4 + (32 + (32 + (4 + 0))) from rfl, d _ _ 4 _ (l4 _), d _ _ 32 _ k1, d _ _ 32 _ k2, d _ _ 4 _ (l4 _), show (76 : Nat) = 4 + (32 + (32 + (4 + (4 + 0)))) from rfl, d _ _ 4 _ (l4 _), d _ _ 32 _ k1, d _ _ 32 _ k2, d _ _ 4 _ (l4 _), d _ _ 4 _ (l4 _)]
  simp only [List.drop_zero]
  rw [t _ _ 32 k1, t _ _ 32 k2, t _ _ 4 (l4 _), t _ _ 4 (l4 _), List.take_of_length_le (by rw [l4]; exact Nat.le_refl _), lev_les4 _ k3, lev_les4 _ k4, lev_les4 _ k5, lev_les4 _ k6]
open Go.RowKit
set_option linter.unusedVariables false
set_option linter.unusedSimpArgs false
set_option maxRecDepth 100000
theorem builtH (z1 z2 z3 z4 : Nat) (P1 P2 : List (BitVec 8)) (h1 : P1.length = 32) (h2 : P2.length = 32) :
    Try.prog.built 27 [(0, .int .u32 (z1 : Int)), (1, .agg (vbs P1).toArray), (2, .agg (vbs P2).toArray), (3, .int .u32 (z2 : Int)), (4, .int .u32 (z3 : Int)), (5, .int .u32 (z4 : Int))] = some (hdV ⟨z1, P1, P2, z2, z3, z4⟩).toArray := by
  obtain ⟨a0, p0, rfl, m0⟩ := cons_of h1
  obtain ⟨a1, p1, rfl, m1⟩ := cons_of m0
  obtain ⟨a2, p2, rfl, m2⟩ := cons_of m1
  obtain ⟨a3, p3, rfl, m3⟩ := cons_of m2
  obtain ⟨a4, p4, rfl, m4⟩ := cons_of m3
  obtain ⟨a5, p5, rfl, m5⟩ := cons_of m4
  obtain ⟨a6, p6, rfl, m6⟩ := cons_of m5
  obtain ⟨a7, p7, rfl, m7⟩ := cons_of m6
  obtain ⟨a8, p8, rfl, m8⟩ := cons_of m7
  obtain ⟨a9, p9, rfl, m9⟩ := cons_of m8
  obtain ⟨a10, p10, rfl, m10⟩ := cons_of m9
  obtain ⟨a11, p11, rfl, m11⟩ := cons_of m10
  obtain ⟨a12, p12, rfl, m12⟩ := cons_of m11
  obtain ⟨a13, p13, rfl, m13⟩ := cons_of m12
  obtain ⟨a14, p14, rfl, m14⟩ := cons_of m13
  obtain ⟨a15, p15, rfl, m15⟩ := cons_of m14
  obtain ⟨a16, p16, rfl, m16⟩ := cons_of m15
  obtain ⟨a17, p17, rfl, m17⟩ := cons_of m16
  obtain ⟨a18, p18, rfl, m18⟩ := cons_of m17
  obtain ⟨a19, p19, rfl, m19⟩ := cons_of m18
  obtain ⟨a20, p20, rfl, m20⟩ := cons_of m19
  obtain ⟨a21, p21, rfl, m21⟩ := cons_of m20
  obtain ⟨a22, p22, rfl, m22⟩ := cons_of m21
  obtain ⟨a23, p23, rfl, m23⟩ := cons_of m22
  obtain ⟨a24, p24, rfl, m24⟩ := cons_of m23
  obtain ⟨a25, p25, rfl, m25⟩ := cons_of m24
  obtain ⟨a26, p26, rfl, m26⟩ := cons_of m25
  obtain ⟨a27, p27, rfl, m27⟩ := cons_of m26
  obtain ⟨a28, p28, rfl, m28⟩ := cons_of m27
  obtain ⟨a29, p29, rfl, m29⟩ := cons_of m28
  obtain ⟨a30, p30, rfl, m30⟩ := cons_of m29
  obtain ⟨a31, p31, rfl, m31⟩ := cons_of m30
  obtain rfl := List.eq_nil_of_length_eq_zero m31
  obtain ⟨b0, q0, rfl, n0⟩ := cons_of h2
  obtain ⟨b1, q1, rfl, n1⟩ := cons_of n0
  obtain ⟨b2, q2, rfl, n2⟩ := cons_of n1
  obtain ⟨b3, q3, rfl, n3⟩ := cons_of n2
  obtain ⟨b4, q4, rfl, n4⟩ := cons_of n3
  obtain ⟨b5, q5, rfl, n5⟩ := cons_of n4
  obtain ⟨b6, q6, rfl, n6⟩ := cons_of n5
  obtain ⟨b7, q7, rfl, n7⟩ := cons_of n6
  obtain ⟨b8, q8, rfl, n8⟩ := cons_of n7
  obtain ⟨b9, q9, rfl, n9⟩ := cons_of n8
  obtain ⟨b10, q10, rfl, n10⟩ := cons_of n9
  obtain ⟨b11, q11, rfl, n11⟩ := cons_of n10
  obtain ⟨b12, q12, rfl, n12⟩ := cons_of n11
  obtain ⟨b13, q13, rfl, n13⟩ := cons_of n12
  obtain ⟨b14, q14, rfl, n14⟩ := cons_of n13
  obtain ⟨b15, q15, rfl, n15⟩ := cons_of n14
  obtain ⟨b16, q16, rfl, n16⟩ := cons_of n15
  obtain ⟨b17, q17, rfl, n17⟩ := cons_of n16
  obtain ⟨b18, q18, rfl, n18⟩ := cons_of n17
  obtain ⟨b19, q19, rfl, n19⟩ := cons_of n18
  obtain ⟨b20, q20, rfl, n20⟩ := cons_of n19
  obtain ⟨b21, q21, rfl, n21⟩ := cons_of n20
  obtain ⟨b22, q22, rfl, n22⟩ := cons_of n21
  obtain ⟨b23, q23, rfl, n23⟩ := cons_of n22
  obtain ⟨b24, q24, rfl, n24⟩ := cons_of n23
  obtain ⟨b25, q25, rfl, n25⟩ := cons_of n24
  obtain ⟨b26, q26, rfl, n26⟩ := cons_of n25
  obtain ⟨b27, q27, rfl, n27⟩ := cons_of n26
  obtain ⟨b28, q28, rfl, n28⟩ := cons_of n27
  obtain ⟨b29, q29, rfl, n29⟩ := cons_of n28
  obtain ⟨b30, q30, rfl, n30⟩ := cons_of n29
  obtain ⟨b31, q31, rfl, n31⟩ := cons_of n30
  obtain rfl := List.eq_nil_of_length_eq_zero n31
  kernel_rfl
theorem wpList_buildH {ops : Array Oper} {rest : List Oper} {o : Oper} {a : Act} {w : World} {Q : Exit → Act → World → Prop} (hg : o.guard = none) (x0 x1 x2 x3 x4 x5 : Operand) (ho : o.op = .build 27 #[(0, x0), (1, x1), (2, x2), (3, x3), (4, x4), (5, x5)])
    (z1 z2 z3 z4 : Nat) (P1 P2 : List (BitVec 8)) (h0 : a.eval x0 = .int .u32 (z1 : Int)) (h1 : a.eval x1 = .agg (vbs P1).toArray) (h2 : a.eval x2 = .agg (vbs P2).toArray) (h3 : a.eval x3 = .int .u32 (z2 : Int)) (h4 : a.eval x4 = .int .u32 (z3 : Int)) (h5 : a.eval x5 = .int .u32 (z4 : Int)) (l1 : P1.length = 32) (l2 : P2.length = 32)
    (h : wpList Try.prog ops Q rest (a.put o.dst (.agg (hdV ⟨z1, P1, P2, z2, z3, z4⟩).toArray)) w) : wpList Try.prog ops Q (o :: rest) a w := by
  have e : Try.prog.built 27 ((#[(0, x0), (1, x1), (2, x2), (3, x3), (4, x4), (5, x5)] : Array (Nat × Operand)).map fun (i, x) => (i, a.eval x)).toList = some (hdV ⟨z1, P1, P2, z2, z3, z4⟩).toArray := by
    rw [← builtH z1 z2 z3 z4 P1 P2 l1 l2]
    simp [h0, h1, h2, h3, h4, h5]
  exact wpList_build hg 27 _ ho (by rw [e]; rfl) (by rw [e]; exact h)
open Go.RowKit
set_option linter.unusedVariables false
set_option linter.unusedSimpArgs false
set_option maxRecDepth 100000
/-- What Get tells of the bytes L. -/
def hgetH (L : List (BitVec 8)) : THd := if L.length = 80 then hdOf L else hd0
def hgetE (L : List (BitVec 8)) : Int := if L.length = 80 then 0 else 4
theorem hgetH_ok (L : List (BitVec 8)) : HdOk (hgetH L) := by
  unfold hgetH
  by_cases h : L.length = 80
  · rw [if_pos h]; exact hdOf_ok h
  · rw [if_neg h]; exact hd0_ok
theorem hdinfo {h : THd} (k : HdOk h) : (Try.prog.info? 27).map (·.size) = some (hdV h).length := by rw [hdV_len k]; kernel_rfl
theorem hdzero : ∀ w, (zeroValue 27).run Try.prog w = .ok (.agg (hdV hd0).toArray) w := fun _ => by kernel_rfl
def HGetPost (L : List (BitVec 8)) (w : World) (e : Ending) (w' : World) : Prop := e = .returned (.tuple #[.agg (hdV (hgetH L)).toArray, .int .i64 (hgetE L)]) ∧ Below w.heap.size w w'
theorem IsR.num4 {w : World} {g B : Nat} {L : List (BitVec 8)} (h : IsR w B (some g) (some L)) (hB : B ≤ w.heap.size) (hL : 4 ≤ L.length) : Calls Try.prog 32 #[ptr (some g), .int .i64 4] w (NumPost (lev (L.take 4)) (some (L.drop 4)) B (some g) w) := by
  have hh : hasB (some L) 4 = true := by simp [hasB]; omega
  obtain ⟨e1, e2, _⟩ := cut_yes hh
  exact num_w w g B L 4 _ _ (by unfold numV; rw [if_pos (by rfl), e1]; rfl) (by unfold numS; rw [if_pos (by rfl), e2]; rfl) h hB
theorem IsR.hash {w : World} {g B : Nat} {L : List (BitVec 8)} (h : IsR w B (some g) (some L)) (hB : B ≤ w.heap.size) (hL : 32 ≤ L.length) : Calls Try.prog 33 #[ptr (some g)] w (HashPost (L.take 32) (some (L.drop 32)) B (some g) w) := by
  have hh : hasB (some L) 32 = true := by simp [hasB]; omega
  obtain ⟨e1, e2, _⟩ := cut_yes hh
  have := hash_any (some g) (some L) B w h hB
  have e3 : hashL (some L) = L.take 32 := by unfold hashL; rw [if_pos hh, e1]; rfl
  have e4 : cutS (some L) 32 = some (L.drop 32) := e2
  rw [e3, e4] at this
  exact this
theorem hdV_one (h : THd) : ∀ v ∈ hdV h, v.oneCell' = true := by
  intro v hv
  simp only [hdV, List.mem_cons, List.mem_append, List.not_mem_nil, or_false] at hv
  rcases hv with rfl | hv | hv | rfl | rfl | rfl
  · rfl
  · exact vbs_one _ v hv
  · exact vbs_one _ v hv
  all_goals rfl
theorem there_hd {w : World} {b : Nat} {T : TypeId} {h g : THd} (hb : Blk w b T (hdV g)) (kg : HdOk g) (kh : HdOk h) : w.there b 0 (hdV h).toArray.size := by
  have := hb.there
  rw [hdV_len kg] at this
  rw [List.size_toArray, hdV_len kh]
  exact this
theorem hdinfov {h : THd} (k : HdOk h) : (Try.prog.info? 27).map (·.size) = some (hdV h).toArray.size := by rw [List.size_toArray]; exact hdinfo k
set_option maxHeartbeats 4000000 in
theorem hget_no (A : Option Addr) (L : List (BitVec 8)) (cap : Nat) (w : World) (hl : L.length ≤ 100000000) (hL : L.length ≠ 80) :
    Calls Try.prog 15 #[.slice A L.length cap] w (HGetPost L w) := by
  have hz := hdzero
  obtain ⟨n, hn⟩ : ∃ n, n = L.length := ⟨_, rfl⟩
  have hb : Below w.heap.size w (w.alloc (.cells (hdV hd0).toArray 27)) := (Below.refl _ _).alloc (Nat.le_refl _) _
  have hB0 := Blk.new w 27 (hdV hd0).toArray
  rw [List.toList_toArray] at hB0
  have HB := Lib.hid hb
  have HB0 := Lib.hid hB0
  have HI := Lib.hid (hdinfo hd0_ok)
  rw [← hn] at hL hl ⊢
  have hne : ((n : Int) != 80) = true := by simp; omega
  have hp : HGetPost L w = fun e w' => e = .returned (.tuple #[.agg (hdV hd0).toArray, .int .i64 4]) ∧ Below w.heap.size w w' := by
    unfold HGetPost hgetH hgetE
    rw [if_neg (by omega), if_neg (by omega)]
  rw [hp]
  clear hb hB0 hn hp hL
  go_enter Try.func15, Try.ntmps15
  go_wp2_with ((with_reducible refine wpList_store_mid rfl 27 (.tmp 2) (.tmp 8) rfl w.heap.size 0 (hdV hd0).toArray rfl rfl (there_hd HB0.out hd0_ok hd0_ok) (hdinfov hd0_ok) (all_oneCell_toArray (hdV_one _)) ?_))
  have hS := HB0.out.setCells (hdV hd0) rfl
  have hbb := below_setCells (B := w.heap.size) (b := w.heap.size) (Nat.le_refl _) (hdV hd0) 0 _ HB.out
  generalize (w.alloc (.cells (hdV hd0).toArray 27)).setCells w.heap.size 0 (hdV hd0) = W9 at hS hbb
  have hlv := run_loadVar_mid (P := Try.prog) W9 w.heap.size 0 27 _ _ hS.range Try.underlying27 rfl HI.out
  exact bodyPost_ret (v := .tuple #[.agg (hdV hd0).toArray, .int .i64 4]) (by simp [results, Try.results15, asAddr, hlv]) rfl ⟨rfl, hbb⟩
/-- The reader stands in block g, and has X ahead of it; all that lay in W0 is as it was. -/
structure RQ (W0 : World) (g : Nat) (X : List (BitVec 8)) (w : World) : Prop where
  r : IsR w (g + 1) (some g) (some X)
  lt : g + 1 ≤ w.heap.size
  bel : Below W0.heap.size W0 w
  le : W0.heap.size ≤ g
theorem RQ.next {W0 w w' : World} {g : Nat} {X X' : List (BitVec 8)} (h : RQ W0 g X w) (hI : IsR w' (g + 1) (some g) (some X')) (hg : w.grownBy w' (some g)) : RQ W0 g X' w' :=
  ⟨hI, Nat.le_trans h.lt hg.size, h.bel.grown hg h.bel.size (fun k hk => by cases hk; exact h.le), h.le⟩
theorem RQ.num {W0 w : World} {g : Nat} {X Y : List (BitVec 8)} {z : Nat} (h : RQ W0 g X w) (hX : 4 ≤ X.length) (hz : z = lev (X.take 4)) (hY : Y = X.drop 4) : Calls Try.prog 32 #[ptr (some g), .int .i64 4] w fun e w' => e = .returned (.int .u64 (z : Int)) ∧ RQ W0 g Y w' := by
  subst hz hY
  exact (h.r.num4 h.lt hX).mono fun e w' ⟨h1, h2, h3⟩ => ⟨h1, h.next h2 h3⟩
theorem RQ.hash {W0 w : World} {g : Nat} {X Y P : List (BitVec 8)} (h : RQ W0 g X w) (hX : 32 ≤ X.length) (hP : P = X.take 32) (hY : Y = X.drop 32) : Calls Try.prog 33 #[ptr (some g)] w fun e w' => e = .returned (.agg (vbs P).toArray) ∧ RQ W0 g Y w' := by
  subst hP hY
  exact (h.r.hash h.lt hX).mono fun e w' ⟨h1, h2, h3⟩ => ⟨h1, h.next h2 h3⟩
set_option maxHeartbeats 8000000 in
theorem hget_yes (A : Option Addr) (L : List (BitVec 8)) (cap B : Nat) (w : World) (hR : Rd w B A L) (hB : B ≤ w.heap.size) (hc : A = none → cap = 0) (hL : L.length = 80) :
    Calls Try.prog 15 #[.slice A 80 cap] w (HGetPost L w) := by
  have hz := hdzero
  have hb : Below w.heap.size w (w.alloc (.cells (hdV hd0).toArray 27)) := (Below.refl _ _).alloc (Nat.le_refl _) _
  have hB0 := Blk.new w 27 (hdV hd0).toArray
  rw [List.toList_toArray] at hB0
  have K := open_any A L cap w.heap.size (w.alloc (.cells (hdV hd0).toArray 27)) (fun hp => by obtain ⟨b, o, e, hlt, hcc⟩ := hR hp; exact ⟨b, o, e, by omega, fun j hj => by rw [hb.cell (p := ⟨b, o + j, none⟩) (by show b < _; omega)]; exact hcc j hj⟩) hb.size hc (by omega)
  rw [hL] at K
  have HK := Lib.hid K
  have HB := Lib.hid hb
  have HB0 := Lib.hid hB0
  have HL := Lib.hid hL
  have hne : ((80 : Int) != 80) = false := by decide
  have hp : HGetPost L w = fun e w' => e = .returned (.tuple #[.agg (hdV (hdOf L)).toArray, .int .i64 0]) ∧ Below w.heap.size w w' := by
    unfold HGetPost hgetH hgetE
    rw [if_pos hL, if_pos hL]
  rw [hp]
  clear hb hB0 hp hL K hR hB hc
  go_enter Try.func15, Try.ntmps15
  go_upto_region 4 with (go_at_call 14; (with_reducible refine HK.out.mono ?_); rintro e w1 ⟨g, rfl, hI, hg1, hg2, hb1⟩; have HQ0 : Hid (RQ (w.alloc (.cells (hdV hd0).toArray 27)) g L w1) := (⟨hI, hg2, hb1, hg1⟩ : RQ (w.alloc (.cells (hdV hd0).toArray 27)) g L w1); clear hI hb1 hg1 hg2; dsimp only)
  generalize hW0 : w.alloc (.cells (hdV hd0).toArray 27) = W0 at HQ0 HB HB0
  clear hW0 HK hz hne
  obtain ⟨z1, hz1⟩ : ∃ z, z = lev (L.take 4) := ⟨_, rfl⟩
  obtain ⟨X1, hX1⟩ : ∃ X, X = L.drop 4 := ⟨_, rfl⟩
  obtain ⟨P1, hP1⟩ : ∃ X, X = X1.take 32 := ⟨_, rfl⟩
  obtain ⟨X2, hX2⟩ : ∃ X, X = X1.drop 32 := ⟨_, rfl⟩
  obtain ⟨P2, hP2⟩ : ∃ X, X = X2.take 32 := ⟨_, rfl⟩
  obtain ⟨X3, hX3⟩ : ∃ X, X = X2.drop 32 := ⟨_, rfl⟩
  obtain ⟨z2, hz2⟩ : ∃ z, z = lev (X3.take 4) := ⟨_, rfl⟩
  obtain ⟨X4, hX4⟩ : ∃ X, X = X3.drop 4 := ⟨_, rfl⟩
  obtain ⟨z3, hz3⟩ : ∃ z, z = lev (X4.take 4) := ⟨_, rfl⟩
  obtain ⟨X5, hX5⟩ : ∃ X, X = X4.drop 4 := ⟨_, rfl⟩
  obtain ⟨z4, hz4⟩ : ∃ z, z = lev (X5.take 4) := ⟨_, rfl⟩
  obtain ⟨X6, hX6⟩ : ∃ X, X = X5.drop 4 := ⟨_, rfl⟩
  have l1 : X1.length = 76 := by rw [hX1, List.length_drop, HL.out]
  have l2 : X2.length = 44 := by rw [hX2, List.length_drop, l1]
  have l3 : X3.length = 12 := by rw [hX3, List.length_drop, l2]
  have l4 : X4.length = 8 := by rw [hX4, List.length_drop, l3]
  have l5 : X5.length = 4 := by rw [hX5, List.length_drop, l4]
  have q1 := HQ0.out.num (by rw [HL.out]; omega) hz1 hX1
  have K1 := Lib.hid q1
  have K2 : Hid (∀ wq, RQ W0 g X1 wq → _) := fun wq (q : RQ W0 g X1 wq) => q.hash (by omega) hP1 hX2
  have K3 : Hid (∀ wq, RQ W0 g X2 wq → _) := fun wq (q : RQ W0 g X2 wq) => q.hash (by omega) hP2 hX3
  have K4 : Hid (∀ wq, RQ W0 g X3 wq → _) := fun wq (q : RQ W0 g X3 wq) => q.num (by omega) hz2 hX4
  have K5 : Hid (∀ wq, RQ W0 g X4 wq → _) := fun wq (q : RQ W0 g X4 wq) => q.num (by omega) hz3 hX5
  have K6 : Hid (∀ wq, RQ W0 g X5 wq → _) := fun wq (q : RQ W0 g X5 wq) => q.num (by omega) hz4 hX6
  have v1 : IntKind.u32.wrap (z1 : Int) = (z1 : Int) := by have := lev4 L; rw [IntKind.wrap_u32]; omega
  have v2 : IntKind.u32.wrap (z2 : Int) = (z2 : Int) := by have := lev4 X3; rw [IntKind.wrap_u32]; omega
  have v3 : IntKind.u32.wrap (z3 : Int) = (z3 : Int) := by have := lev4 X4; rw [IntKind.wrap_u32]; omega
  have v4 : IntKind.u32.wrap (z4 : Int) = (z4 : Int) := by have := lev4 X5; rw [IntKind.wrap_u32]; omega
  have HE : Hid (hdOf L = ⟨z1, P1, P2, z2, z3, z4⟩) := show hdOf L = ⟨z1, P1, P2, z2, z3, z4⟩ by
    rw [hz1, hP1, hP2, hz2, hz3, hz4, hX5, hX4, hX3, hX2, hX1]
    simp [hdOf]
  have HP : Hid (P1.length = 32 ∧ P2.length = 32) := (⟨by rw [hP1, List.length_take]; omega, by rw [hP2, List.length_take]; omega⟩ : P1.length = 32 ∧ P2.length = 32)
  have HZ : Hid (HdOk ⟨z1, P1, P2, z2, z3, z4⟩) := (HE.out ▸ hdOf_ok HL.out : HdOk ⟨z1, P1, P2, z2, z3, z4⟩)
  clear hz1 hX1 hP1 hX2 hP2 hX3 hz2 hX4 hz3 hX5 hz4 hX6 q1 l1 l2 l3 l4 l5 HQ0
  go_wp2_with (first
    | (go_at_call 32; (with_reducible refine (K6.out _ HQ6.out).mono ?_); rintro e w7 ⟨rfl, hq7⟩; have HQ7 := Lib.hid hq7; clear hq7; dsimp only)
    | (go_at_call 32; (with_reducible refine (K5.out _ HQ5.out).mono ?_); rintro e w6 ⟨rfl, hq6⟩; have HQ6 := Lib.hid hq6; clear hq6; dsimp only)
    | (go_at_call 32; (with_reducible refine (K4.out _ HQ4.out).mono ?_); rintro e w5 ⟨rfl, hq5⟩; have HQ5 := Lib.hid hq5; clear hq5; dsimp only)
    | (go_at_call 33; (with_reducible refine (K3.out _ HQ3.out).mono ?_); rintro e w4 ⟨rfl, hq4⟩; have HQ4 := Lib.hid hq4; clear hq4; dsimp only)
    | (go_at_call 33; (with_reducible refine (K2.out _ HQ2.out).mono ?_); rintro e w3 ⟨rfl, hq3⟩; have HQ3 := Lib.hid hq3; clear hq3; dsimp only)
    | (go_at_call 32; (with_reducible refine K1.out.mono ?_); rintro e w2 ⟨rfl, hq2⟩; have HQ2 := Lib.hid hq2; clear hq2; dsimp only)
    | (with_reducible refine wpList_buildH rfl (.tmp 13) (.tmp 15) (.tmp 17) (.tmp 20) (.tmp 23) (.tmp 26) rfl z1 z2 z3 z4 P1 P2 rfl rfl rfl rfl rfl rfl HP.out.1 HP.out.2 ?_)
    | (with_reducible refine wpList_store_mid rfl 27 (.tmp 2) (.tmp 27) rfl w.heap.size 0 (hdV ⟨z1, P1, P2, z2, z3, z4⟩).toArray rfl rfl (there_hd (HB0.out.below HQ7.out.bel HB0.out.lt) hd0_ok HZ.out) (hdinfov HZ.out) (all_oneCell_toArray (hdV_one _)) ?_))
  have hS := (HB0.out.below HQ7.out.bel HB0.out.lt).setCells (hdV ⟨z1, P1, P2, z2, z3, z4⟩) (by rw [hdV_len HZ.out, hdV_len hd0_ok])
  have hbb := below_setCells (B := w.heap.size) (b := w.heap.size) (Nat.le_refl _) (hdV ⟨z1, P1, P2, z2, z3, z4⟩) 0 w7 (HB.out.trans (HQ7.out.bel.mono HB.out.size))
  generalize w7.setCells w.heap.size 0 (hdV ⟨z1, P1, P2, z2, z3, z4⟩) = W9 at hS hbb
  have hlv := run_loadVar_mid (P := Try.prog) W9 w.heap.size 0 27 _ _ hS.range Try.underlying27 rfl (hdinfo HZ.out)
  exact bodyPost_ret (v := .tuple #[.agg (hdV ⟨z1, P1, P2, z2, z3, z4⟩).toArray, .int .i64 0]) (by simp [results, Try.results15, asAddr, hlv]) rfl ⟨by rw [HE.out], hbb⟩
theorem hget_any (A : Option Addr) (L : List (BitVec 8)) (n cap B : Nat) (w : World) (hn : L.length = n) (hR : Rd w B A L) (hB : B ≤ w.heap.size) (hc : A = none → cap = 0) (hl : L.length ≤ 100000000) :
    Calls Try.prog 15 #[.slice A n cap] w (HGetPost L w) := by
  subst hn
  by_cases h : L.length = 80
  · have := hget_yes A L cap B w hR hB hc h
    rw [h]
    exact this
  · exact hget_no A L cap w hl h
open Go.RowKit
set_option linter.unusedVariables false
set_option linter.unusedSimpArgs false
set_option maxRecDepth 100000
theorem SlN.below {w w' : World} {v : Value} {L : List (BitVec 8)} (h : SlN w v L) (hb : Below w.heap.size w w') : SlN w' v L := by
  obtain ⟨A, cap, e, ho, r⟩ := h
  exact ⟨A, cap, e, ho.size hb.size fun b _ hl _ => hb.block b hl, r⟩
theorem SlNs.below {w w' : World} {vs : List Value} {Ls : List (List (BitVec 8))} (h : SlNs w vs Ls) (hb : Below w.heap.size w w') : SlNs w' vs Ls := ⟨h.1, fun j u hj => (h.2 j u hj).below hb⟩
theorem WsN.below {w w' : World} {u : Value} {Ls : List (List (BitVec 8))} (h : WsN w u Ls) (hb : Below w.heap.size w w') : WsN w' u Ls := by
  obtain ⟨ib, vs, e, hi, hs⟩ := h
  exact ⟨ib, vs, e, hi.below hb hi.lt, hs.below hb⟩
theorem InsW.below {w w' : World} (hb : Below w.heap.size w w') : ∀ {xs : List TIn} {vs : List Value}, InsW w xs vs → InsW w' xs vs
  | [], _, h => h
  | x :: xs, _, ⟨v, u, r, e, hi, hr⟩ => ⟨v, u, r, e, ⟨hi.1.below hb, hi.2.imp id fun h => h.below hb⟩, InsW.below hb hr⟩
theorem Rd1.below {w w' : World} {ib : Nat} {xs : List TIn} (h : Rd1 w ib xs) (hb : Below w.heap.size w w') : Rd1 w' ib xs := by
  obtain ⟨vs, h1, h2⟩ := h
  exact ⟨vs, h1.below hb, h2.below hb h2.lt⟩
theorem Rd2.below {w w' : World} {ob : Nat} {ys : List TOut} (h : Rd2 w ob ys) (hb : Below w.heap.size w w') : Rd2 w' ob ys := by
  obtain ⟨vs, ⟨ss, h1, e⟩, h2⟩ := h
  exact ⟨vs, ⟨ss, h1.below hb, e⟩, h2.below hb h2.lt⟩
theorem TxN.below {w w' : World} {t : TTx} {i o : Value} (h : TxN w t i o) (hb : Below w.heap.size w w') : TxN w' t i o := by
  obtain ⟨ib, ob, e1, e2, a, b, r⟩ := h
  exact ⟨ib, ob, e1, e2, a.below hb, b.below hb, r⟩
theorem TxOk.txIn {w : World} {B : Nat} {t : TTx} {i o : Value} (h : TxOk w B t i o) : TxIn t := by
  obtain ⟨h1, h2, h3, h4⟩ := h
  refine ⟨fun x hx => ?_, fun y hy => ?_, h3, h4⟩
  · obtain ⟨_, _, b, o, _, _, hj⟩ := Row.open h1
    obtain ⟨k, hk, rfl⟩ := List.getElem_of_mem hx
    obtain ⟨s, u, _, hok⟩ := hj k hk
    have e : t.ins.getD k In0 = t.ins[k] := by simp [List.getD, hk]
    rw [e] at hok
    exact hok.2.2.2
  · obtain ⟨_, _, b, o, _, _, hj⟩ := Row.open h2
    obtain ⟨k, hk, rfl⟩ := List.getElem_of_mem hy
    obtain ⟨s, _, hok⟩ := hj k hk
    have e : t.outs.getD k Out0 = t.outs[k] := by simp [List.getD, hk]
    rw [e] at hok
    exact hok.2.2
/-- The transaction less its witnesses. -/
def bareT (t : TTx) : TTx := ⟨t.ver, t.ins.map bareI, t.outs, t.lock⟩
theorem chk_bare {t : TTx} (h : chk t = 0) : chk (bareT t) = 0 := by
  obtain ⟨c1, c2, c3, c4, c5, c6, c7⟩ := chk_zero h
  refine chk_ok (t := bareT t) (by show 0 < (t.ins.map bareI).length; rw [List.length_map]; exact c6) (by show (t.ins.map bareI).length ≤ 16; rw [List.length_map]; exact c1) c7 c2 ?_ ?_ c5
  · intro x hx
    obtain ⟨y, hy, rfl⟩ := List.mem_map.1 hx
    exact c3 y hy
  · intro x hx
    obtain ⟨y, hy, rfl⟩ := List.mem_map.1 hx
    exact ⟨Nat.zero_le _, fun t ht => by cases ht⟩
theorem witd_bare (t : TTx) : witd (bareT t) = false := wit_none fun x hx => by
  obtain ⟨y, hy, rfl⟩ := List.mem_map.1 hx
  rfl
theorem lay_bare (t : TTx) : layB (bareT t) false = layB t false := by
  unfold layB bareT
  dsimp only
  rw [List.length_map, List.map_map]
  rfl
theorem ins_more {w : World} {ib : Nat} {rest : List Value} : ∀ (xs : List TIn) (pre vs : List Value), (∀ x ∈ xs, OkIn x ∧ x.wt.length ≤ 1000000) → InsW w xs vs → Blk w ib 69 (pre ++ (vs ++ rest)) → ∀ j, j < xs.length → ∃ s u, w.rangeAt ib (pre.length + j * 36) (inV (xs.getD j In0) s u) ∧ InOk w w.heap.size (xs.getD j In0) s u
  | [], _, _, _, _, _, j, hj => by simp at hj
  | x :: xs, pre, _, hx, ⟨v, u, r, e, hi, hr⟩, hb, j, hj => by
    subst e
    rw [List.append_assoc] at hb
    cases j with
    | zero =>
      refine ⟨v, u, ?_, hi.1.sl, WitN.ws hi.2 (hx x (by simp)).2, (hx x (by simp)).1⟩
      simpa using range_mid hb
    | succ j =>
      have := ins_more xs (pre ++ inV x v u) r (fun y hy => hx y (by simp [hy])) hr (by rw [List.append_assoc]; exact hb) j (by simp at hj; omega)
      rw [List.length_append, inV_len (hx x (by simp)).1.1] at this
      rw [show pre.length + (j + 1) * 36 = pre.length + 36 + j * 36 by omega]
      exact this
theorem InsW.is' {w : World} {ib n cap : Nat} {xs : List TIn} {vs rest : List Value} (h : InsW w xs vs) (hb : Blk w ib 69 (vs ++ rest)) (hx : ∀ x ∈ xs, OkIn x ∧ x.wt.length ≤ 1000000) (hn : xs.length = n) (hl : n ≤ cap) (hm : cap ≤ 9223372036854775807) : Is w w.heap.size (.slice (some ⟨ib, 0, none⟩) n cap) xs := by
  subst hn
  refine ⟨_, _, rfl, hl, hm, fun hp => ⟨ib, 0, rfl, hb.lt, fun j hj => ?_⟩⟩
  exact ins_more xs [] vs hx h hb j hj
end Go.Proofs.Ytpamepkcbhoiaaa
